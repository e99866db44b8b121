/-
  Merged: WlB, WlC, WlE, WlF, WlG, WlH, WlI, WlJ, WlK, WlL, WlM
-/
import Derived.Test.YtaclhiagfgmgkaaRows
import Derived.Test.YtaclhiagfgmgkaaPr2
import Derived.Test.YtaclhiagfgmgkaaPr4
import Derived.Test.YtaclhiagfgmgkaaPr12
import Derived.Test.YtaclhiagfgmgkaaPr11
import Derived.WalkKit
import Derived.Test.YtaclhiagfgmgkaaPr5
import Derived.Laws.CopyOwn
import Derived.Test.YtaclhiagfgmgkaaPr9
import Derived.Deep.Fields
import Derived.Deep.Slices
namespace Go.Proofs.Ytaclhiagfgmgkaa
open Go Go.RowKit SZ
set_option linter.unusedVariables false
set_option linter.unusedSectionVars false
set_option linter.unusedSimpArgs false
set_option maxRecDepth 100000
attribute [local irreducible] post GD Nxt NxtAll
structure Et where
  ver : Int
  a : Option Addr
  c : Nat
  b : Nat
  o : Nat
  ws : Ws
def Et.v (e : Et) : Value := .agg #[.int .i64 e.ver, .slice e.a e.ws.length e.c]
def Et.cs (e : Et) : List Value := [.int .i64 e.ver, .slice e.a e.ws.length e.c]
def Et.ok (e : Et) : Prop := e.ws.length = 0 ∨ e.a = some ⟨e.b, e.o, none⟩
def WrAt (w : World) (b o : Nat) (W : Ws) : Prop := ∀ j, j < W.length → w.cell? ⟨b, o + j * 2, none⟩ = some (.int .i64 (W.getD j (0, 0)).1) ∧ w.cell? ⟨b, o + j * 2 + 1, none⟩ = some (.int .i64 (W.getD j (0, 0)).2)
def rfWr (b o : Nat) (W : Ws) : RF := ⟨fun b' => b' = b ∧ W.length ≠ 0, fun w => WrAt w b o W, fun w h b' hb => by
  obtain ⟨rfl, hl⟩ := hb
  exact World.block_lt_of_cell? w _ (h 0 (by omega)).1, fun w w' h hb j hj => ⟨(World.cell?_of_block (a := ⟨b, o + j * 2, none⟩) (hb b ⟨rfl, by omega⟩)).trans (h j hj).1, (World.cell?_of_block (a := ⟨b, o + j * 2 + 1, none⟩) (hb b ⟨rfl, by omega⟩)).trans (h j hj).2⟩⟩
theorem ld_wr {w : World} {b o j : Nat} {W : Ws} (h : WrAt w b o W) (hj : j < W.length) : (loadVar 48 ⟨b, o + j * 2, none⟩).run Try.prog w = .ok (.agg #[.int .i64 (W.getD j (0, 0)).1, .int .i64 (W.getD j (0, 0)).2]) w := by
  obtain ⟨h0, h1⟩ := h j hj
  refine run_loadVar_mid w b (o + j * 2) 48 [.int .i64 (W.getD j (0, 0)).1, .int .i64 (W.getD j (0, 0)).2] _ ?_ Try.underlying48 rfl (by kernel_rfl)
  intro i x hi
  match i, hi with
  | 0, hi => simp at hi; subst hi; exact h0
  | 1, hi => simp at hi; subst hi; exact h1
  | i + 2, hi => simp at hi
theorem asc_at (ws : Ws) (j : Nat) (hj : j < ws.length) (l : Int) : asc l (ws.drop j) = (decide (l < (ws.getD j (0, 0)).1) && asc (ws.getD j (0, 0)).1 (ws.drop (j + 1))) := by
  rw [List.drop_eq_getElem_cons hj]
  simp [asc, List.getD, List.getElem?_eq_getElem hj]
theorem asc_end (ws : Ws) (l : Int) : asc l (ws.drop ws.length) = true := by simp [asc]
noncomputable def riC : Cfg := ⟨goZ 60 [0] [.code (bodyOf Try.f25)], ⟨0, [], []⟩⟩
noncomputable def riS (e : Et) (j : Nat) (last : Int) : SS := ⟨34, [(1, .p 0 0), (3, .v (.int .i64 last)), (21, .v (.slice e.a e.ws.length e.c)), (22, .v (.int .i64 (e.ws.length : Int))), (23, .v (.int .i64 (j : Int)))], [⟨24, e.cs⟩]⟩
section
variable (w0 : World) (e : Et) (hg : e.ok) (h32 : e.ws.length ≤ 32) (R : Bool)
include w0 e hg h32 R
set_option maxHeartbeats 8000000 in
theorem ri_e (last : Int) (m : Nat) (he : asc last (e.ws.drop e.ws.length) = R) (x0 : Nat) (aa : Act) (w : World) (S : Sy w0 [] [x0] (riS e (e.ws.length) last) [rfWr e.b e.o e.ws] aa w) : post Try.prog (.rnd (m + 1) (bodyL riC) :: riC.k.tail) (bodyPost Try.prog Try.f25 fun y w' => y = .returned (.bool R) ∧ Below w0.heap.size w0 w') .normal aa w := by
  rw [asc_end] at he
  subst he
  refine sy_run (c := ⟨(.rnd (m + 1) (bodyL riC) :: riC.k.tail), riS e (e.ws.length) last⟩) ⟨0, [5]⟩ 50 S fun bs aa w S => ?_
  refine sy_reg S fun S => ?_
  refine sy_ops 1 S fun bs aa w S => ?_
  refine sy_cast 24 S (congrArg Value.bool (decide_eq_false (by omega) : decide ((e.ws.length : Int) < (e.ws.length : Int)) = false)) (by kernel_rfl) fun S => ?_
  refine sy_run ⟨0, []⟩ 60 S fun bs aa w S => ?_
  exact sy_ret S (by kernel_rfl) (by kernel_rfl) fun hg => ⟨rfl, bel_gr hg⟩
set_option maxHeartbeats 8000000 in
theorem ri_f (last : Int) (m j : Nat) (hj : j < e.ws.length) (hp : ¬ last < (e.ws.getD j (0, 0)).1) (he : asc last (e.ws.drop j) = R) (x0 : Nat) (aa : Act) (w : World) (S : Sy w0 [] [x0] (riS e (j) last) [rfWr e.b e.o e.ws] aa w) : post Try.prog (.rnd (m + 1) (bodyL riC) :: riC.k.tail) (bodyPost Try.prog Try.f25 fun y w' => y = .returned (.bool R) ∧ Below w0.heap.size w0 w') .normal aa w := by
  rw [asc_at _ _ hj, decide_eq_false hp, Bool.false_and] at he
  subst he
  refine sy_run (c := ⟨(.rnd (m + 1) (bodyL riC) :: riC.k.tail), riS e (j) last⟩) ⟨0, [5]⟩ 50 S fun bs aa w S => ?_
  refine sy_reg S fun S => ?_
  refine sy_ops 1 S fun bs aa w S => ?_
  refine sy_cast 24 S (congrArg Value.bool (decide_eq_true (by omega) : decide ((j : Int) < (e.ws.length : Int)) = true)) (by kernel_rfl) fun S => ?_
  refine sy_run ⟨0, [6]⟩ 60 S fun bs aa w S => ?_
  refine sy_reg S fun S => ?_
  refine sy_ix (b := e.b) (off := e.o) (len := e.ws.length) (n := j) (size := 2) (i := (j : Int)) S (by rw [← hg.resolve_left (by omega)]; kernel_rfl) rfl hj fun aa S => ?_
  refine sy_ldo S (ld_wr (j := j) (S.fact (f := rfWr e.b e.o e.ws) (by simp)) hj) (by kernel_rfl) fun aa S => ?_
  refine sy_run ⟨0, [7]⟩ 60 S fun bs aa w S => ?_
  refine sy_reg S fun S => ?_
  refine sy_ops 4 S fun bs aa w S => ?_
  refine sy_cast 30 S (congrArg Value.bool (decide_eq_true (by omega) : decide ((e.ws.getD j (0, 0)).1 ≤ last) = true)) (by kernel_rfl) fun S => ?_
  refine sy_run ⟨0, []⟩ 60 S fun bs aa w S => ?_
  exact sy_ret S (by kernel_rfl) (by kernel_rfl) fun hg => ⟨rfl, bel_gr hg⟩
set_option maxHeartbeats 8000000 in
theorem ri_t (last : Int) (m j : Nat) (hj : j < e.ws.length) (hp : last < (e.ws.getD j (0, 0)).1) (ih : asc (e.ws.getD j (0, 0)).1 (e.ws.drop (j + 1)) = R → ∀ (x0 : Nat) (aa : Act) (w : World) (S : Sy w0 [] [x0] (riS e (j + 1) ((e.ws.getD j (0, 0)).1)) [rfWr e.b e.o e.ws] aa w), post Try.prog (.rnd (m) (bodyL riC) :: riC.k.tail) (bodyPost Try.prog Try.f25 fun y w' => y = .returned (.bool R) ∧ Below w0.heap.size w0 w') .normal aa w) (he : asc last (e.ws.drop j) = R) (x0 : Nat) (aa : Act) (w : World) (S : Sy w0 [] [x0] (riS e (j) last) [rfWr e.b e.o e.ws] aa w) : post Try.prog (.rnd (m + 1) (bodyL riC) :: riC.k.tail) (bodyPost Try.prog Try.f25 fun y w' => y = .returned (.bool R) ∧ Below w0.heap.size w0 w') .normal aa w := by
  rw [asc_at _ _ hj, decide_eq_true hp, Bool.true_and] at he
  refine sy_run (c := ⟨(.rnd (m + 1) (bodyL riC) :: riC.k.tail), riS e (j) last⟩) ⟨0, [5]⟩ 50 S fun bs aa w S => ?_
  refine sy_reg S fun S => ?_
  refine sy_ops 1 S fun bs aa w S => ?_
  refine sy_cast 24 S (congrArg Value.bool (decide_eq_true (by omega) : decide ((j : Int) < (e.ws.length : Int)) = true)) (by kernel_rfl) fun S => ?_
  refine sy_run ⟨0, [6]⟩ 60 S fun bs aa w S => ?_
  refine sy_reg S fun S => ?_
  refine sy_ix (b := e.b) (off := e.o) (len := e.ws.length) (n := j) (size := 2) (i := (j : Int)) S (by rw [← hg.resolve_left (by omega)]; kernel_rfl) rfl hj fun aa S => ?_
  refine sy_ldo S (ld_wr (j := j) (S.fact (f := rfWr e.b e.o e.ws) (by simp)) hj) (by kernel_rfl) fun aa S => ?_
  refine sy_run ⟨0, [7]⟩ 60 S fun bs aa w S => ?_
  refine sy_reg S fun S => ?_
  refine sy_ops 4 S fun bs aa w S => ?_
  refine sy_cast 30 S (congrArg Value.bool (decide_eq_false (by omega) : decide ((e.ws.getD j (0, 0)).1 ≤ last) = false)) (by kernel_rfl) fun S => ?_
  refine sy_run ⟨0, [10]⟩ 60 S fun bs aa w S => ?_
  refine sy_reg S fun S => ?_
  refine sy_ops 1 S fun bs aa w S => ?_
  refine sy_cast 33 S (congrArg (Value.int .i64) (by rw [IntKind.wrap_i64]; omega : IntKind.i64.wrap ((j : Int) + 1) = ((j + 1 : Nat) : Int))) (by kernel_rfl) fun S => ?_
  refine sy_run ⟨0, [999]⟩ 50 S fun bs aa w S => ?_
  have S2 := S.to [0] (riS e (j + 1) ((e.ws.getD j (0, 0)).1)) (by kernel_rfl) (by kernel_rfl) (by kernel_rfl) (by kernel_rfl) (by kernel_rfl)
  refine sy_at2 (k' := (.rnd (m) (bodyL riC) :: riC.k.tail)) (by kernel_rfl) ?_
  exact ih he _ aa w S2
theorem ri_a : ∀ (r j : Nat) (last : Int), j + r = e.ws.length → asc last (e.ws.drop j) = R → ∀ (x0 : Nat) (aa : Act) (w : World) (S : Sy w0 [] [x0] (riS e (j) last) [rfWr e.b e.o e.ws] aa w), post Try.prog (.rnd (r + 1) (bodyL riC) :: riC.k.tail) (bodyPost Try.prog Try.f25 fun y w' => y = .returned (.bool R) ∧ Below w0.heap.size w0 w') .normal aa w := by
  intro r
  induction r with
  | zero => intro j last hj he x0 aa w S; obtain rfl : j = e.ws.length := by omega
            exact ri_e w0 e hg h32 R last 0 he x0 aa w S
  | succ r ih =>
    intro j last hj he x0 aa w S
    by_cases hp : last < (e.ws.getD j (0, 0)).1
    · exact ri_t w0 e hg h32 R last (r + 1) j (by omega) hp (ih (j + 1) (e.ws.getD j (0, 0)).1 (by omega)) he x0 aa w S
    · exact ri_f w0 e hg h32 R last (r + 1) j (by omega) hp he x0 aa w S
end
set_option maxHeartbeats 8000000 in
theorem right_e (w0 : World) (e : Et) (hg : e.ok) (hA : WrAt w0 e.b e.o e.ws) : Calls Try.prog 25 #[e.v] w0 fun y w' => y = .returned (.bool (validB e.ver e.ws)) ∧ Below w0.heap.size w0 w' := by
  refine sy_enterF [] [rfWr e.b e.o e.ws] (by intro f hf; simp only [List.mem_singleton] at hf; subst hf; exact hA) Try.func25 rfl rfl fun aa S => ?_
  refine sy_run ⟨0, [1]⟩ 60 S fun bs aa w S => ?_
  refine sy_reg S fun S => ?_
  refine sy_ops 3 S fun bs aa w S => ?_
  by_cases h1 : 1 ≤ e.ver
  case neg =>
    have ev : validB e.ver e.ws = false := by simp [validB, h1]
    rw [ev]
    refine sy_cast 8 S (congrArg Value.bool (decide_eq_true (by omega) : decide (e.ver < 1) = true)) (by kernel_rfl) fun S => ?_
    refine sy_run ⟨0, []⟩ 60 S fun bs aa w S => ?_
    exact sy_ret S (by kernel_rfl) (by kernel_rfl) fun hg => ⟨rfl, bel_gr hg⟩
  refine sy_cast 8 S (congrArg Value.bool (decide_eq_false (by omega) : decide (e.ver < 1) = false)) (by kernel_rfl) fun S => ?_
  refine sy_ops 4 S fun bs aa w S => ?_
  by_cases h2 : e.ver ≤ 1099511627776
  case neg =>
    have ev : validB e.ver e.ws = false := by simp [validB, h2]
    rw [ev]
    refine sy_cast 12 S (congrArg Value.bool (decide_eq_true (by omega) : decide (e.ver > 1099511627776) = true)) (by kernel_rfl) fun S => ?_
    refine sy_run ⟨0, []⟩ 60 S fun bs aa w S => ?_
    exact sy_ret S (by kernel_rfl) (by kernel_rfl) fun hg => ⟨rfl, bel_gr hg⟩
  refine sy_cast 12 S (congrArg Value.bool (decide_eq_false (by omega) : decide (e.ver > 1099511627776) = false)) (by kernel_rfl) fun S => ?_
  refine sy_ops 6 S fun bs aa w S => ?_
  by_cases h3 : e.ws.length ≤ 32
  case neg =>
    have ev : validB e.ver e.ws = false := by simp [validB, h3]
    rw [ev]
    refine sy_cast 18 S (congrArg Value.bool (decide_eq_true (by omega) : decide ((e.ws.length : Int) > 32) = true)) (by kernel_rfl) fun S => ?_
    refine sy_run ⟨0, []⟩ 60 S fun bs aa w S => ?_
    exact sy_ret S (by kernel_rfl) (by kernel_rfl) fun hg => ⟨rfl, bel_gr hg⟩
  refine sy_cast 18 S (congrArg Value.bool (decide_eq_false (by omega) : decide ((e.ws.length : Int) > 32) = false)) (by kernel_rfl) fun S => ?_
  refine sy_run ⟨0, []⟩ 60 S fun bs aa w S => ?_
  have ev : validB e.ver e.ws = asc (-1) (e.ws.drop 0) := by simp [validB, h1, h2, h3]
  rw [ev]
  have S2 := S.to [0] (riS e 0 (-1)) (by kernel_rfl) (by kernel_rfl) (by kernel_rfl) (by kernel_rfl) (by kernel_rfl)
  refine sy_loop (e.ws.length + 1) (by kernel_rfl) ?_
  refine sy_at2 (k' := (.rnd (e.ws.length + 1) (bodyL riC) :: riC.k.tail)) (by kernel_rfl) ?_
  exact ri_a w0 e hg h3 _ e.ws.length 0 (-1) (by omega) rfl _ aa w S2
end Go.Proofs.Ytaclhiagfgmgkaa

namespace Go.Proofs.Ytaclhiagfgmgkaa
open Go Go.RowKit SZ
set_option linter.unusedVariables false
set_option linter.unusedSectionVars false
set_option linter.unusedSimpArgs false
set_option maxRecDepth 100000
attribute [local irreducible] post GD Nxt NxtAll
noncomputable def rvC : Cfg := ⟨goZ 60 [0] [.code (bodyOf Try.f29)], ⟨0, [], []⟩⟩
noncomputable def rvS (e : Et) (j : Nat) (last : Int) : SS := ⟨53, [(1, .p 0 0), (3, .v (.int .i64 (j : Int)))], [⟨24, e.cs⟩]⟩
theorem ex_max {s : SS} {bs : List Nat} {x y : Operand} {ts : Array TypeId} {ty : TypeId} {p q : Int} (hx : s.val x = some (.v (.int .i64 p))) (hy : s.val y = some (.v (.int .i64 q))) {z : Int} (hz : (if p < q then q else p) = z) :
    ∀ (o : Oper) (ρ : Operand → Value) (W : World), o.op = .call { callee := .builtin .max, args := #[x, y], argTypes := ts } → o.type = ty → (∀ x y, s.val x = some y → ρ x = den bs y) → (execOp ρ o).run Try.prog W = .ok (.value (.int .i64 z)) W := by
  intro o ρ W h1 h2 h3
  have hr := run_max_int2 (P := Try.prog) W ts o.type .i64 .i64 p q
  have e1 : ρ x = .int .i64 p := h3 x _ hx
  have e2 : ρ y = .int .i64 q := h3 y _ hy
  unfold execOp
  subst hz
  simp only [h1, resolve, invoke, builtin, Sem.run_bind, Sem.run_pure, Result.andThen_ok, List.map_toArray, List.map_cons, List.map_nil, e1, e2, hr]
theorem ex_leI {s : SS} {bs : List Nat} {x y : Operand} {t t' ty : TypeId} {ki : IntKind} {p q : Int} {b : Bool} (hx : s.val x = some (.v (.int ki p))) (hy : s.val y = some (.v (.int ki q))) (hb : decide (p ≤ q) = b) :
    ∀ (o : Oper) (ρ : Operand → Value) (W : World), o.op = .binOp .leq t x y t' → o.type = ty → (∀ x y, s.val x = some y → ρ x = den bs y) → (execOp ρ o).run Try.prog W = .ok (.value (.bool b)) W := by
  intro o ρ W h1 h2 h3
  have e1 : ρ x = .int ki p := h3 x _ hx
  have e2 : ρ y = .int ki q := h3 y _ hy
  subst hb
  unfold execOp
  simp only [h1, e1, e2, eqGuard, binOp_leq, Sem.run_bind, Sem.run_pure, Result.andThen_ok]
  rfl
section
variable (w0 : World) (e : Et) (hg : e.ok) (h32 : e.ws.length ≤ 32)
include w0 e hg h32
set_option maxHeartbeats 8000000 in
theorem rv_e (R : Bool) (last : Int) (m : Nat) (he : asc last (e.ws.drop e.ws.length) = R) (x0 : Nat) (aa : Act) (w : World) (S : Sy w0 [] [x0] (rvS e (e.ws.length) last) [rfWr e.b e.o e.ws] aa w) : post Try.prog (.rnd (m + 1) (bodyL rvC) :: rvC.k.tail) (bodyPost Try.prog Try.f29 fun y w' => y = .returned (.bool R) ∧ Below w0.heap.size w0 w') .normal aa w := by
  rw [asc_end] at he
  subst he
  refine sy_run (c := ⟨(.rnd (m + 1) (bodyL rvC) :: rvC.k.tail), rvS e (e.ws.length) last⟩) ⟨0, [4]⟩ 50 S fun bs aa w S => ?_
  refine sy_reg S fun S => ?_
  refine sy_ops 5 S fun bs aa w S => ?_
  refine sy_cast 22 S (congrArg Value.bool (decide_eq_false (by omega) : decide ((e.ws.length : Int) < (e.ws.length : Int)) = false)) (by kernel_rfl) fun S => ?_
  refine sy_run ⟨0, []⟩ 60 S fun bs aa w S => ?_
  exact sy_ret S (by kernel_rfl) (by kernel_rfl) fun hg => ⟨rfl, bel_gr hg⟩
set_option maxHeartbeats 8000000 in
theorem rv_f0 (last : Int) (m j : Nat) (hj : j < e.ws.length) (hp : (e.ws.getD j (0, 0)).1 < 0) (x0 : Nat) (aa : Act) (w : World) (S : Sy w0 [] [x0] (rvS e (j) last) [rfWr e.b e.o e.ws] aa w) : post Try.prog (.rnd (m + 1) (bodyL rvC) :: rvC.k.tail) (bodyPost Try.prog Try.f29 fun y w' => y = .returned (.bool false) ∧ Below w0.heap.size w0 w') .normal aa w := by
  refine sy_run (c := ⟨(.rnd (m + 1) (bodyL rvC) :: rvC.k.tail), rvS e (j) last⟩) ⟨0, [4]⟩ 50 S fun bs aa w S => ?_
  refine sy_reg S fun S => ?_
  refine sy_ops 5 S fun bs aa w S => ?_
  refine sy_cast 22 S (congrArg Value.bool (decide_eq_true (by omega) : decide ((j : Int) < (e.ws.length : Int)) = true)) (by kernel_rfl) fun S => ?_
  refine sy_run ⟨0, []⟩ 60 S fun bs aa w S => ?_
  letI : KP := ⟨[31]⟩
  letI : HF := ⟨[rfWr e.b e.o e.ws]⟩
  refine dr_enter [0] (by kernel_rfl) (by kernel_rfl) S (by kernel_rfl) (fun aa w D => ?_) (fun f hf => hf)
  refine dr_tix 3 D (by kernel_rfl) (by kernel_rfl) (by kernel_rfl) (b := e.b) (off := e.o) (len := e.ws.length) (n := j) (size := 2) (ix := (j : Int)) (by rw [← hg.resolve_left (by omega)]; kernel_rfl) (rfl) hj fun aa D => ?_
  refine dr_tld 5 D (by kernel_rfl) (by kernel_rfl) (by kernel_rfl) (ty := 3) (ad := ⟨e.b, e.o + j * 2, none⟩) (v := .int .i64 (e.ws.getD j (0, 0)).1) (fun W hW => ld_at (by kernel_rfl) ((show WrAt W e.b e.o e.ws from hW (rfWr e.b e.o e.ws) (by show _ ∈ [rfWr e.b e.o e.ws]; simp)) j hj).1) (by kernel_rfl) fun aa D => ?_
  refine dr_ex2 (fun d v c a w h => by cases d <;> exact h) 6 (op := .binOp .lss 3 (.tmp 30) (.const (.int .i64 0)) 3) (ty := 4) (v := .bool true) D (by kernel_rfl) (by kernel_rfl) (by kernel_rfl) (by kernel_rfl) (ex_ltI (ki := .i64) (p := (e.ws.getD j (0, 0)).1) (q := 0) (by kernel_rfl) (by kernel_rfl) (decide_eq_true (by omega))) fun aa D => ?_
  refine dr_end D (by kernel_rfl) fun S => ?_
  refine sy_run ⟨0, []⟩ 60 S fun bs aa w S => ?_
  exact sy_ret S (by kernel_rfl) (by kernel_rfl) fun hg => ⟨rfl, bel_gr hg⟩
set_option maxHeartbeats 8000000 in
theorem rv_f1 (last : Int) (m j : Nat) (hj : j < e.ws.length) (hp : ¬(e.ws.getD j (0, 0)).1 < 0) (h0 : 0 < j) (hq : (e.ws.getD j (0, 0)).1 ≤ (e.ws.getD (j - 1) (0, 0)).1) (x0 : Nat) (aa : Act) (w : World) (S : Sy w0 [] [x0] (rvS e (j) last) [rfWr e.b e.o e.ws] aa w) : post Try.prog (.rnd (m + 1) (bodyL rvC) :: rvC.k.tail) (bodyPost Try.prog Try.f29 fun y w' => y = .returned (.bool false) ∧ Below w0.heap.size w0 w') .normal aa w := by
  refine sy_run (c := ⟨(.rnd (m + 1) (bodyL rvC) :: rvC.k.tail), rvS e (j) last⟩) ⟨0, [4]⟩ 50 S fun bs aa w S => ?_
  refine sy_reg S fun S => ?_
  refine sy_ops 5 S fun bs aa w S => ?_
  refine sy_cast 22 S (congrArg Value.bool (decide_eq_true (by omega) : decide ((j : Int) < (e.ws.length : Int)) = true)) (by kernel_rfl) fun S => ?_
  refine sy_run ⟨0, []⟩ 60 S fun bs aa w S => ?_
  letI : KP := ⟨[31, 34, 46, 50]⟩
  letI : HF := ⟨[rfWr e.b e.o e.ws]⟩
  refine dr_enter [0] (by kernel_rfl) (by kernel_rfl) S (by kernel_rfl) (fun aa w D => ?_) (fun f hf => hf)
  refine dr_tix 3 D (by kernel_rfl) (by kernel_rfl) (by kernel_rfl) (b := e.b) (off := e.o) (len := e.ws.length) (n := j) (size := 2) (ix := (j : Int)) (by rw [← hg.resolve_left (by omega)]; kernel_rfl) (rfl) hj fun aa D => ?_
  refine dr_tld 5 D (by kernel_rfl) (by kernel_rfl) (by kernel_rfl) (ty := 3) (ad := ⟨e.b, e.o + j * 2, none⟩) (v := .int .i64 (e.ws.getD j (0, 0)).1) (fun W hW => ld_at (by kernel_rfl) ((show WrAt W e.b e.o e.ws from hW (rfWr e.b e.o e.ws) (by show _ ∈ [rfWr e.b e.o e.ws]; simp)) j hj).1) (by kernel_rfl) fun aa D => ?_
  refine dr_ex2 (fun d v c a w h => by cases d <;> exact h) 6 (op := .binOp .lss 3 (.tmp 30) (.const (.int .i64 0)) 3) (ty := 4) (v := .bool false) D (by kernel_rfl) (by kernel_rfl) (by kernel_rfl) (by kernel_rfl) (ex_ltI (ki := .i64) (p := (e.ws.getD j (0, 0)).1) (q := 0) (by kernel_rfl) (by kernel_rfl) (decide_eq_false (by omega))) fun aa D => ?_
  refine dr_ex2 (fun d v c a w h => by cases d <;> exact h) 9 (op := .binOp .gtr 3 (.tmp 33) (.const (.int .i64 0)) 3) (ty := 4) (v := .bool true) D (by kernel_rfl) (by kernel_rfl) (by kernel_rfl) (by kernel_rfl) (ex_gtI (ki := .i64) (p := (j : Int)) (q := 0) (by kernel_rfl) (by kernel_rfl) (decide_eq_true (by omega))) fun aa D => ?_
  refine dr_tix 14 D (by kernel_rfl) (by kernel_rfl) (by kernel_rfl) (b := e.b) (off := e.o) (len := e.ws.length) (n := j) (size := 2) (ix := (j : Int)) (by rw [← hg.resolve_left (by omega)]; kernel_rfl) (rfl) hj fun aa D => ?_
  refine dr_tld 16 D (by kernel_rfl) (by kernel_rfl) (by kernel_rfl) (ty := 3) (ad := ⟨e.b, e.o + j * 2, none⟩) (v := .int .i64 (e.ws.getD j (0, 0)).1) (fun W hW => ld_at (by kernel_rfl) ((show WrAt W e.b e.o e.ws from hW (rfWr e.b e.o e.ws) (by show _ ∈ [rfWr e.b e.o e.ws]; simp)) j hj).1) (by kernel_rfl) fun aa D => ?_
  refine dr_ex2 (fun d v c a w h => by cases d <;> exact h) 21 (op := .call { callee := .builtin .max, args := #[.tmp 45, .const (.int .i64 0)], argTypes := #[3, 3] }) (ty := 3) (v := .int .i64 ((j - 1 : Nat) : Int)) D (by kernel_rfl) (by kernel_rfl) (by kernel_rfl) (by kernel_rfl) (ex_max (p := IntKind.i64.wrap ((j : Int) - 1)) (q := 0) (by kernel_rfl) (by kernel_rfl) (by rw [IntKind.wrap_i64]; split <;> omega)) fun aa D => ?_
  refine dr_tix 22 D (by kernel_rfl) (by kernel_rfl) (by kernel_rfl) (b := e.b) (off := e.o) (len := e.ws.length) (n := (j - 1)) (size := 2) (ix := ((j - 1 : Nat) : Int)) (by rw [← hg.resolve_left (by omega)]; kernel_rfl) (rfl) (by omega) fun aa D => ?_
  refine dr_tld 24 D (by kernel_rfl) (by kernel_rfl) (by kernel_rfl) (ty := 3) (ad := ⟨e.b, e.o + (j - 1) * 2, none⟩) (v := .int .i64 (e.ws.getD (j - 1) (0, 0)).1) (fun W hW => ld_at (by kernel_rfl) ((show WrAt W e.b e.o e.ws from hW (rfWr e.b e.o e.ws) (by show _ ∈ [rfWr e.b e.o e.ws]; simp)) (j - 1) (by omega)).1) (by kernel_rfl) fun aa D => ?_
  refine dr_ex2 (fun d v c a w h => by cases d <;> exact h) 25 (op := .binOp .leq 3 (.tmp 41) (.tmp 49) 3) (ty := 4) (v := .bool true) D (by kernel_rfl) (by kernel_rfl) (by kernel_rfl) (by kernel_rfl) (ex_leI (ki := .i64) (p := (e.ws.getD j (0, 0)).1) (q := (e.ws.getD (j - 1) (0, 0)).1) (by kernel_rfl) (by kernel_rfl) (decide_eq_true (by omega))) fun aa D => ?_
  refine dr_end D (by kernel_rfl) fun S => ?_
  refine sy_run ⟨0, []⟩ 60 S fun bs aa w S => ?_
  exact sy_ret S (by kernel_rfl) (by kernel_rfl) fun hg => ⟨rfl, bel_gr hg⟩
section
variable (R : Bool) (last : Int) (m j : Nat) (hj : j < e.ws.length) (hp : ¬(e.ws.getD j (0, 0)).1 < 0)
include R last m j hj hp
set_option maxHeartbeats 8000000 in
theorem rv_t0 (h0 : j = 0) (ih : ∀ (x0 : Nat) (aa : Act) (w : World) (S : Sy w0 [] [x0] (rvS e (j + 1) ((e.ws.getD j (0, 0)).1)) [rfWr e.b e.o e.ws] aa w), post Try.prog (.rnd (m) (bodyL rvC) :: rvC.k.tail) (bodyPost Try.prog Try.f29 fun y w' => y = .returned (.bool R) ∧ Below w0.heap.size w0 w') .normal aa w) (x0 : Nat) (aa : Act) (w : World) (S : Sy w0 [] [x0] (rvS e (j) last) [rfWr e.b e.o e.ws] aa w) : post Try.prog (.rnd (m + 1) (bodyL rvC) :: rvC.k.tail) (bodyPost Try.prog Try.f29 fun y w' => y = .returned (.bool R) ∧ Below w0.heap.size w0 w') .normal aa w := by
  refine sy_run (c := ⟨(.rnd (m + 1) (bodyL rvC) :: rvC.k.tail), rvS e (j) last⟩) ⟨0, [4]⟩ 50 S fun bs aa w S => ?_
  refine sy_reg S fun S => ?_
  refine sy_ops 5 S fun bs aa w S => ?_
  refine sy_cast 22 S (congrArg Value.bool (decide_eq_true (by omega) : decide ((j : Int) < (e.ws.length : Int)) = true)) (by kernel_rfl) fun S => ?_
  refine sy_run ⟨0, []⟩ 60 S fun bs aa w S => ?_
  letI : KP := ⟨[31, 34]⟩
  letI : HF := ⟨[rfWr e.b e.o e.ws]⟩
  refine dr_enter [0] (by kernel_rfl) (by kernel_rfl) S (by kernel_rfl) (fun aa w D => ?_) (fun f hf => hf)
  refine dr_tix 3 D (by kernel_rfl) (by kernel_rfl) (by kernel_rfl) (b := e.b) (off := e.o) (len := e.ws.length) (n := j) (size := 2) (ix := (j : Int)) (by rw [← hg.resolve_left (by omega)]; kernel_rfl) (rfl) hj fun aa D => ?_
  refine dr_tld 5 D (by kernel_rfl) (by kernel_rfl) (by kernel_rfl) (ty := 3) (ad := ⟨e.b, e.o + j * 2, none⟩) (v := .int .i64 (e.ws.getD j (0, 0)).1) (fun W hW => ld_at (by kernel_rfl) ((show WrAt W e.b e.o e.ws from hW (rfWr e.b e.o e.ws) (by show _ ∈ [rfWr e.b e.o e.ws]; simp)) j hj).1) (by kernel_rfl) fun aa D => ?_
  refine dr_ex2 (fun d v c a w h => by cases d <;> exact h) 6 (op := .binOp .lss 3 (.tmp 30) (.const (.int .i64 0)) 3) (ty := 4) (v := .bool false) D (by kernel_rfl) (by kernel_rfl) (by kernel_rfl) (by kernel_rfl) (ex_ltI (ki := .i64) (p := (e.ws.getD j (0, 0)).1) (q := 0) (by kernel_rfl) (by kernel_rfl) (decide_eq_false (by omega))) fun aa D => ?_
  refine dr_ex2 (fun d v c a w h => by cases d <;> exact h) 9 (op := .binOp .gtr 3 (.tmp 33) (.const (.int .i64 0)) 3) (ty := 4) (v := .bool false) D (by kernel_rfl) (by kernel_rfl) (by kernel_rfl) (by kernel_rfl) (ex_gtI (ki := .i64) (p := (j : Int)) (q := 0) (by kernel_rfl) (by kernel_rfl) (decide_eq_false (by omega))) fun aa D => ?_
  refine dr_end D (by kernel_rfl) fun S => ?_
  refine sy_run ⟨0, [5]⟩ 60 S fun bs aa w S => ?_
  refine sy_reg S fun S => ?_
  refine sy_ops 2 S fun bs aa w S => ?_
  refine sy_cast 24 S (congrArg (Value.int .i64) (by rw [IntKind.wrap_i64]; omega : IntKind.i64.wrap ((j : Int) + 1) = ((j + 1 : Nat) : Int))) (by kernel_rfl) fun S => ?_
  refine sy_run ⟨0, [999]⟩ 50 S fun bs aa w S => ?_
  have S2 := S.to [0] (rvS e (j + 1) ((e.ws.getD j (0, 0)).1)) (by kernel_rfl) (by kernel_rfl) (by kernel_rfl) (by kernel_rfl) (by kernel_rfl)
  refine sy_at2 (k' := (.rnd (m) (bodyL rvC) :: rvC.k.tail)) (by kernel_rfl) ?_
  exact ih _ aa w S2
set_option maxHeartbeats 8000000 in
theorem rv_t1 (h0 : 0 < j) (hq : ¬(e.ws.getD j (0, 0)).1 ≤ (e.ws.getD (j - 1) (0, 0)).1) (ih : ∀ (x0 : Nat) (aa : Act) (w : World) (S : Sy w0 [] [x0] (rvS e (j + 1) ((e.ws.getD j (0, 0)).1)) [rfWr e.b e.o e.ws] aa w), post Try.prog (.rnd (m) (bodyL rvC) :: rvC.k.tail) (bodyPost Try.prog Try.f29 fun y w' => y = .returned (.bool R) ∧ Below w0.heap.size w0 w') .normal aa w) (x0 : Nat) (aa : Act) (w : World) (S : Sy w0 [] [x0] (rvS e (j) last) [rfWr e.b e.o e.ws] aa w) : post Try.prog (.rnd (m + 1) (bodyL rvC) :: rvC.k.tail) (bodyPost Try.prog Try.f29 fun y w' => y = .returned (.bool R) ∧ Below w0.heap.size w0 w') .normal aa w := by
  refine sy_run (c := ⟨(.rnd (m + 1) (bodyL rvC) :: rvC.k.tail), rvS e (j) last⟩) ⟨0, [4]⟩ 50 S fun bs aa w S => ?_
  refine sy_reg S fun S => ?_
  refine sy_ops 5 S fun bs aa w S => ?_
  refine sy_cast 22 S (congrArg Value.bool (decide_eq_true (by omega) : decide ((j : Int) < (e.ws.length : Int)) = true)) (by kernel_rfl) fun S => ?_
  refine sy_run ⟨0, []⟩ 60 S fun bs aa w S => ?_
  letI : KP := ⟨[31, 34, 46, 50]⟩
  letI : HF := ⟨[rfWr e.b e.o e.ws]⟩
  refine dr_enter [0] (by kernel_rfl) (by kernel_rfl) S (by kernel_rfl) (fun aa w D => ?_) (fun f hf => hf)
  refine dr_tix 3 D (by kernel_rfl) (by kernel_rfl) (by kernel_rfl) (b := e.b) (off := e.o) (len := e.ws.length) (n := j) (size := 2) (ix := (j : Int)) (by rw [← hg.resolve_left (by omega)]; kernel_rfl) (rfl) hj fun aa D => ?_
  refine dr_tld 5 D (by kernel_rfl) (by kernel_rfl) (by kernel_rfl) (ty := 3) (ad := ⟨e.b, e.o + j * 2, none⟩) (v := .int .i64 (e.ws.getD j (0, 0)).1) (fun W hW => ld_at (by kernel_rfl) ((show WrAt W e.b e.o e.ws from hW (rfWr e.b e.o e.ws) (by show _ ∈ [rfWr e.b e.o e.ws]; simp)) j hj).1) (by kernel_rfl) fun aa D => ?_
  refine dr_ex2 (fun d v c a w h => by cases d <;> exact h) 6 (op := .binOp .lss 3 (.tmp 30) (.const (.int .i64 0)) 3) (ty := 4) (v := .bool false) D (by kernel_rfl) (by kernel_rfl) (by kernel_rfl) (by kernel_rfl) (ex_ltI (ki := .i64) (p := (e.ws.getD j (0, 0)).1) (q := 0) (by kernel_rfl) (by kernel_rfl) (decide_eq_false (by omega))) fun aa D => ?_
  refine dr_ex2 (fun d v c a w h => by cases d <;> exact h) 9 (op := .binOp .gtr 3 (.tmp 33) (.const (.int .i64 0)) 3) (ty := 4) (v := .bool true) D (by kernel_rfl) (by kernel_rfl) (by kernel_rfl) (by kernel_rfl) (ex_gtI (ki := .i64) (p := (j : Int)) (q := 0) (by kernel_rfl) (by kernel_rfl) (decide_eq_true (by omega))) fun aa D => ?_
  refine dr_tix 14 D (by kernel_rfl) (by kernel_rfl) (by kernel_rfl) (b := e.b) (off := e.o) (len := e.ws.length) (n := j) (size := 2) (ix := (j : Int)) (by rw [← hg.resolve_left (by omega)]; kernel_rfl) (rfl) hj fun aa D => ?_
  refine dr_tld 16 D (by kernel_rfl) (by kernel_rfl) (by kernel_rfl) (ty := 3) (ad := ⟨e.b, e.o + j * 2, none⟩) (v := .int .i64 (e.ws.getD j (0, 0)).1) (fun W hW => ld_at (by kernel_rfl) ((show WrAt W e.b e.o e.ws from hW (rfWr e.b e.o e.ws) (by show _ ∈ [rfWr e.b e.o e.ws]; simp)) j hj).1) (by kernel_rfl) fun aa D => ?_
  refine dr_ex2 (fun d v c a w h => by cases d <;> exact h) 21 (op := .call { callee := .builtin .max, args := #[.tmp 45, .const (.int .i64 0)], argTypes := #[3, 3] }) (ty := 3) (v := .int .i64 ((j - 1 : Nat) : Int)) D (by kernel_rfl) (by kernel_rfl) (by kernel_rfl) (by kernel_rfl) (ex_max (p := IntKind.i64.wrap ((j : Int) - 1)) (q := 0) (by kernel_rfl) (by kernel_rfl) (by rw [IntKind.wrap_i64]; split <;> omega)) fun aa D => ?_
  refine dr_tix 22 D (by kernel_rfl) (by kernel_rfl) (by kernel_rfl) (b := e.b) (off := e.o) (len := e.ws.length) (n := (j - 1)) (size := 2) (ix := ((j - 1 : Nat) : Int)) (by rw [← hg.resolve_left (by omega)]; kernel_rfl) (rfl) (by omega) fun aa D => ?_
  refine dr_tld 24 D (by kernel_rfl) (by kernel_rfl) (by kernel_rfl) (ty := 3) (ad := ⟨e.b, e.o + (j - 1) * 2, none⟩) (v := .int .i64 (e.ws.getD (j - 1) (0, 0)).1) (fun W hW => ld_at (by kernel_rfl) ((show WrAt W e.b e.o e.ws from hW (rfWr e.b e.o e.ws) (by show _ ∈ [rfWr e.b e.o e.ws]; simp)) (j - 1) (by omega)).1) (by kernel_rfl) fun aa D => ?_
  refine dr_ex2 (fun d v c a w h => by cases d <;> exact h) 25 (op := .binOp .leq 3 (.tmp 41) (.tmp 49) 3) (ty := 4) (v := .bool false) D (by kernel_rfl) (by kernel_rfl) (by kernel_rfl) (by kernel_rfl) (ex_leI (ki := .i64) (p := (e.ws.getD j (0, 0)).1) (q := (e.ws.getD (j - 1) (0, 0)).1) (by kernel_rfl) (by kernel_rfl) (decide_eq_false (by omega))) fun aa D => ?_
  refine dr_end D (by kernel_rfl) fun S => ?_
  refine sy_run ⟨0, [5]⟩ 60 S fun bs aa w S => ?_
  refine sy_reg S fun S => ?_
  refine sy_ops 2 S fun bs aa w S => ?_
  refine sy_cast 24 S (congrArg (Value.int .i64) (by rw [IntKind.wrap_i64]; omega : IntKind.i64.wrap ((j : Int) + 1) = ((j + 1 : Nat) : Int))) (by kernel_rfl) fun S => ?_
  refine sy_run ⟨0, [999]⟩ 50 S fun bs aa w S => ?_
  have S2 := S.to [0] (rvS e (j + 1) ((e.ws.getD j (0, 0)).1)) (by kernel_rfl) (by kernel_rfl) (by kernel_rfl) (by kernel_rfl) (by kernel_rfl)
  refine sy_at2 (k' := (.rnd (m) (bodyL rvC) :: rvC.k.tail)) (by kernel_rfl) ?_
  exact ih _ aa w S2
end
theorem rv_a (R : Bool) : ∀ (r j : Nat) (last : Int), j + r = e.ws.length → ((j = 0 ∧ last = -1) ∨ (0 < j ∧ last = (e.ws.getD (j - 1) (0, 0)).1 ∧ 0 ≤ last)) → asc last (e.ws.drop j) = R → ∀ (x0 : Nat) (aa : Act) (w : World) (S : Sy w0 [] [x0] (rvS e (j) last) [rfWr e.b e.o e.ws] aa w), post Try.prog (.rnd (r + 1) (bodyL rvC) :: rvC.k.tail) (bodyPost Try.prog Try.f29 fun y w' => y = .returned (.bool R) ∧ Below w0.heap.size w0 w') .normal aa w := by
  intro r
  induction r with
  | zero => intro j last hj hl he x0 aa w S; obtain rfl : j = e.ws.length := by omega
            exact rv_e w0 e hg h32 R last 0 he x0 aa w S
  | succ r ih =>
    intro j last hj hl he x0 aa w S
    rw [asc_at _ _ (by omega)] at he
    by_cases hp : last < (e.ws.getD j (0, 0)).1
    · rw [decide_eq_true hp, Bool.true_and] at he
      have hn := ih (j + 1) (e.ws.getD j (0, 0)).1 (by omega) (Or.inr ⟨by omega, by rw [Nat.add_sub_cancel], by omega⟩) he
      rcases hl with ⟨h0, hl⟩ | ⟨h0, hl, hl2⟩
      · exact rv_t0 w0 e hg h32 R last (r + 1) j (by omega) (by omega) h0 hn x0 aa w S
      · exact rv_t1 w0 e hg h32 R last (r + 1) j (by omega) (by omega) h0 (by omega) hn x0 aa w S
    · rw [decide_eq_false hp, Bool.false_and] at he
      subst he
      by_cases hq : (e.ws.getD j (0, 0)).1 < 0
      · exact rv_f0 w0 e hg h32 last (r + 1) j (by omega) hq x0 aa w S
      · exact rv_f1 w0 e hg h32 last (r + 1) j (by omega) hq (by omega) (by omega) x0 aa w S
end
set_option maxHeartbeats 8000000 in
theorem rvalid_e (w0 : World) (e : Et) (hg : e.ok) (hA : WrAt w0 e.b e.o e.ws) : Calls Try.prog 29 #[e.v] w0 fun y w' => y = .returned (.bool (validB e.ver e.ws)) ∧ Below w0.heap.size w0 w' := by
  refine sy_enterF [] [rfWr e.b e.o e.ws] (by intro f hf; simp only [List.mem_singleton] at hf; subst hf; exact hA) Try.func29 rfl rfl fun aa S => ?_
  refine sy_run ⟨0, [1]⟩ 60 S fun bs aa w S => ?_
  refine sy_reg S fun S => ?_
  refine sy_ops 3 S fun bs aa w S => ?_
  by_cases h1 : 1 ≤ e.ver
  case neg =>
    have ev : validB e.ver e.ws = false := by simp [validB, h1]
    rw [ev]
    refine sy_cast 6 S (congrArg Value.bool (decide_eq_true (by omega) : decide (e.ver < 1) = true)) (by kernel_rfl) fun S => ?_
    refine sy_run ⟨0, []⟩ 60 S fun bs aa w S => ?_
    exact sy_ret S (by kernel_rfl) (by kernel_rfl) fun hg => ⟨rfl, bel_gr hg⟩
  refine sy_cast 6 S (congrArg Value.bool (decide_eq_false (by omega) : decide (e.ver < 1) = false)) (by kernel_rfl) fun S => ?_
  refine sy_ops 4 S fun bs aa w S => ?_
  by_cases h2 : e.ver ≤ 1099511627776
  case neg =>
    have ev : validB e.ver e.ws = false := by simp [validB, h2]
    rw [ev]
    refine sy_cast 10 S (congrArg Value.bool (decide_eq_true (by omega) : decide (e.ver > 1099511627776) = true)) (by kernel_rfl) fun S => ?_
    refine sy_run ⟨0, []⟩ 60 S fun bs aa w S => ?_
    exact sy_ret S (by kernel_rfl) (by kernel_rfl) fun hg => ⟨rfl, bel_gr hg⟩
  refine sy_cast 10 S (congrArg Value.bool (decide_eq_false (by omega) : decide (e.ver > 1099511627776) = false)) (by kernel_rfl) fun S => ?_
  refine sy_ops 6 S fun bs aa w S => ?_
  by_cases h3 : e.ws.length ≤ 32
  case neg =>
    have ev : validB e.ver e.ws = false := by simp [validB, h3]
    rw [ev]
    refine sy_cast 16 S (congrArg Value.bool (decide_eq_true (by omega) : decide ((e.ws.length : Int) > 32) = true)) (by kernel_rfl) fun S => ?_
    refine sy_run ⟨0, []⟩ 60 S fun bs aa w S => ?_
    exact sy_ret S (by kernel_rfl) (by kernel_rfl) fun hg => ⟨rfl, bel_gr hg⟩
  refine sy_cast 16 S (congrArg Value.bool (decide_eq_false (by omega) : decide ((e.ws.length : Int) > 32) = false)) (by kernel_rfl) fun S => ?_
  refine sy_run ⟨0, []⟩ 60 S fun bs aa w S => ?_
  have ev : validB e.ver e.ws = asc (-1) (e.ws.drop 0) := by simp [validB, h1, h2, h3]
  rw [ev]
  have S2 := S.to [0] (rvS e 0 (-1)) (by kernel_rfl) (by kernel_rfl) (by kernel_rfl) (by kernel_rfl) (by kernel_rfl)
  refine sy_loop (e.ws.length + 1) (by kernel_rfl) ?_
  refine sy_at2 (k' := (.rnd (e.ws.length + 1) (bodyL rvC) :: rvC.k.tail)) (by kernel_rfl) ?_
  exact rv_a w0 e hg h3 _ e.ws.length 0 (-1) (by omega) (Or.inl ⟨rfl, rfl⟩) rfl _ aa w S2
set_option maxHeartbeats 8000000 in
theorem rValid_e (w0 : World) (e : Et) (hg : e.ok) (hA : WrAt w0 e.b e.o e.ws) : Calls Try.prog 23 #[e.v] w0 fun y w' => y = .returned (.bool (validB e.ver e.ws)) ∧ Below w0.heap.size w0 w' := by
  refine sy_enterF [] [rfWr e.b e.o e.ws] (by intro f hf; simp only [List.mem_singleton] at hf; subst hf; exact hA) Try.func23 rfl rfl fun aa S => ?_
  refine sy_run ⟨0, [1]⟩ 60 S fun bs aa w S => ?_
  refine sy_reg S fun S => ?_
  refine sy_ops 1 S fun bs aa w S => ?_
  refine sy_call1 S (rvalid_e w e hg (S.fact (f := rfWr e.b e.o e.ws) (by simp))) (by kernel_rfl) fun aa w hb S => ?_
  refine sy_run ⟨0, []⟩ 60 S fun bs aa w S => ?_
  exact sy_ret S (by kernel_rfl) (by kernel_rfl) fun hg => ⟨rfl, bel_gr hg⟩
end Go.Proofs.Ytaclhiagfgmgkaa

namespace Go.Proofs.Ytaclhiagfgmgkaa
open Go Go.RowKit SZ
set_option linter.unusedVariables false
set_option linter.unusedSectionVars false
set_option linter.unusedSimpArgs false
set_option maxRecDepth 100000
attribute [local irreducible] post GD Nxt NxtAll
def rfHB (v : Value) (l : List Nat) : RF := ⟨fun b' => l.length ≠ 0 ∧ ∃ o n c, v = .slice (some ⟨b', o, none⟩) n c, fun w => HasB w v l, fun w h b' hb => by
    obtain ⟨hl, o, n, c, rfl⟩ := hb
    obtain ⟨a', c', he, _, h | ⟨b, o', rfl, h⟩⟩ := h
    · exact absurd h hl
    · simp only [Value.slice.injEq, Option.some.injEq, Addr.mk.injEq] at he
      obtain ⟨⟨rfl, rfl, _⟩, _, _⟩ := he
      exact World.block_lt_of_cell? w _ (h 0 (by omega)), fun w w' h hb => by
    obtain ⟨a', c', rfl, h1, h⟩ := h
    refine ⟨a', c', rfl, h1, ?_⟩
    by_cases h0 : l.length = 0
    · exact Or.inl h0
    · obtain ⟨b, o', rfl, hq⟩ := h.resolve_left h0
      exact Or.inr ⟨b, o', rfl, fun j hj => (World.cell?_of_block (a := ⟨b, o' + j, none⟩) (hb b ⟨h0, o', _, _, rfl⟩)).trans (hq j hj)⟩⟩
theorem bytes_at (p : ByteArray) (j : Nat) : (bytesOf p).getD j 0 = byt p j := by
  unfold bytesOf byt
  simp only [List.getD_eq_getElem?_getD, List.getElem?_map]
  cases p.data.toList[j]? <;> rfl
theorem byte_lt (p : ByteArray) : ∀ b ∈ bytesOf p, b < 256 := by
  intro b hb
  simp only [bytesOf, List.mem_map] at hb
  obtain ⟨c, _, rfl⟩ := hb
  exact c.toNat_lt
theorem ex_sb {s : SS} {bs : List Nat} {w : World} {x : Operand} {p : ByteArray} (hx : s.val x = some (.v (.string p))) (hp : p.size ≤ maxLen) :
    ∀ (o : Oper) (ρ : Operand → Value), o.op = .convert 9 43 x → o.type = 43 → (∀ x y, s.val x = some y → ρ x = den bs y) → ∃ v w', (execOp ρ o).run Try.prog w = .ok (.value v) w' ∧ (HasB w' v (bytesOf p) ∧ ∀ b, (rfHB v (bytesOf p)).bl b → w.heap.size ≤ b) ∧ Below w.heap.size w w' := by
  intro o ρ h1 h2 h3
  have e1 : ρ x = .string p := h3 x _ hx
  have hr := run_bytes_of_string (P := Try.prog) w 9 43 5 p Try.underlying9 Try.underlying43 Try.underlying5
  have hl : (bytesOf p).length = p.size := bytesOf_length p
  have g1 := grownCap_ge w p.size 0 5
  have g2 := grownCap_le_maxLen w p.size 0 5 hp
  refine ⟨_, w.drew.alloc (.cells (bytesRow p (grownCap w p.size 0 5)) 5 ((bytesRow p (grownCap w p.size 0 5)).size, (bytesRow p (grownCap w p.size 0 5)).size + 1)), ?_, ⟨⟨some ⟨w.heap.size, 0, none⟩, grownCap w p.size 0 5, by rw [hl], ⟨by rw [hl]; simpa [maxLen] using hp, by rw [hl]; exact g1, by simpa [maxLen] using g2, fun h => by cases h⟩, Or.inr ⟨_, _, rfl, fun j hj => ?_⟩⟩, fun b hb => ?_⟩, ?_⟩
  · unfold execOp
    simp only [h1, e1, Sem.run_bind, Sem.run_pure, Result.andThen_ok, hr]
  · have hj' : j < p.data.size := by rw [hl] at hj; exact hj
    have hb := bytesRow_at p (grownCap w p.size 0 5) j hj'
    have hh : (w.drew.alloc (.cells (bytesRow p (grownCap w p.size 0 5)) 5 ((bytesRow p (grownCap w p.size 0 5)).size, (bytesRow p (grownCap w p.size 0 5)).size + 1))).heap[w.heap.size]? = some (.cells (bytesRow p (grownCap w p.size 0 5)) 5 ((bytesRow p (grownCap w p.size 0 5)).size, (bytesRow p (grownCap w p.size 0 5)).size + 1)) := heap_alloc_new w.drew _
    unfold World.cell?
    rw [Nat.zero_add]
    simp only [hh]
    rw [bytes_at, hb]
    unfold byt
    simp [List.getD, List.getElem?_eq_getElem, hj']
    rw [Array.getElem?_eq_getElem hj', Option.getD_some]
  · obtain ⟨_, o2, n2, c2, he⟩ := hb
    simp only [Value.slice.injEq, Option.some.injEq, Addr.mk.injEq] at he
    omega
  · exact ⟨rfl, rfl, rfl, by simp, fun k hk => heap_alloc_old w.drew _ hk⟩
theorem wsum_t (w0 : World) (p : ByteArray) (hp : p.size ≤ maxLen) : Calls Try.prog 14 #[.string p] w0 fun y w' => y = .returned (.int .i64 (adler (bytesOf p) : Int)) ∧ Below w0.heap.size w0 w' := by
  refine sy_enterF [] [] (by intro f hf; cases hf) Try.func14 rfl rfl fun aa S => ?_
  refine sy_run ⟨0, [1]⟩ 60 S fun bs aa w S => ?_
  refine sy_reg S fun S => ?_
  refine sy_ops 1 S fun bs aa w S => ?_
  refine sy_exB S (by kernel_rfl) (fun o ρ h1 h2 h3 => ex_sb (x := .tmp 3) (p := p) (by kernel_rfl) hp o ρ h1 h2 h3) fun v aa w' hC hb S => ?_
  refine sy_call1 S ((sum_any v (bytesOf p) (byte_lt p) w' hC.1).mono fun e w2 h => ⟨h.1, by rw [← h.2]; exact Below.refl _ _⟩) (by kernel_rfl) fun aa w hb S => ?_
  refine sy_run ⟨0, []⟩ 60 S fun bs aa w S => ?_
  exact sy_ret S (by kernel_rfl) (by kernel_rfl) fun hg => ⟨rfl, bel_gr hg⟩
theorem byt_lt (p : ByteArray) (j : Nat) : byt p j < 256 := UInt8.toNat_lt _
end Go.Proofs.Ytaclhiagfgmgkaa

namespace Go.Proofs.Ytaclhiagfgmgkaa
open Go Go.RowKit SZ
set_option linter.unusedVariables false
set_option linter.unusedSectionVars false
set_option linter.unusedSimpArgs false
set_option maxRecDepth 100000
attribute [local irreducible] post GD Nxt NxtAll
theorem sy_nm [DF] {w0 : World} {r bs : List Nat} {s : SS} {F : List RF} {a : Act} {w : World} (S : Sy w0 r bs s F a w) {G : Prop} (h : ∀ bs, Sy w0 r bs s F a w → G) : G := h bs S
theorem hasB_box {w : World} {g o c : Nat} {cs : List Value} {ty : TypeId} {l : List Nat} (h : w.heap[g]? = some (.cells cs.toArray ty (0, 0))) (hc : ∀ j, j < l.length → cs[o + j]? = some (.int .u8 ((l.getD j 0 : Nat) : Int))) (h1 : l.length ≤ c) (h2 : c ≤ 9223372036854775807) : HasB w (.slice (some ⟨g, o, none⟩) l.length c) l :=
  ⟨_, _, rfl, ⟨by omega, h1, h2, fun h => by cases h⟩, Or.inr ⟨g, o, rfl, fun j hj => cel_of h (hc j hj)⟩⟩
theorem ex_bs {s : SS} {bs : List Nat} {w : World} {x : Operand} {y : SV} {l : List Nat} {a : Option Addr} {n c : Nat} (hx : s.val x = some y) (hy : den bs y = .slice a n c) (hl : ∀ b ∈ l, b < 256) (h : HasB w (.slice a n c) l) :
    ∀ (o : Oper) (ρ : Operand → Value), o.op = .convert 43 9 x → o.type = 9 → (∀ x y, s.val x = some y → ρ x = den bs y) → (execOp ρ o).run Try.prog w = .ok (.value (.string (strOf l))) w := by
  intro o ρ h1 h2 h3
  have e1 : ρ x = .slice a n c := (h3 x _ hx).trans hy
  have hr : (convert 43 9 (.slice a n c)).run Try.prog w = .ok (.string (strOf l)) w := run_str hl h 0
  unfold execOp
  simp only [h1, e1, Sem.run_bind, Sem.run_pure, Result.andThen_ok, hr]
theorem ex_shr {s : SS} {bs : List Nat} {x y : Operand} {t t' ty : TypeId} {p q z : Int} (hx : s.val x = some (.v (.int .i64 p))) (hy : s.val y = some (.v (.int .i64 q))) (hq : 0 ≤ q) (hz : p / 2 ^ min q.toNat 64 = z) :
    ∀ (o : Oper) (ρ : Operand → Value) (W : World), o.op = .binOp .shr t x y t' → o.type = ty → (∀ x y, s.val x = some y → ρ x = den bs y) → (execOp ρ o).run Try.prog W = .ok (.value (.int .i64 z)) W := by
  intro o ρ W h1 h2 h3
  have e1 : ρ x = .int .i64 p := h3 x _ hx
  have e2 : ρ y = .int .i64 q := h3 y _ hy
  have hs := shift_shr_any .i64 .i64 p q hq
  have hb : IntKind.i64.bits = 64 := rfl
  rw [hb, hz] at hs
  unfold execOp
  simp only [h1, e1, e2, eqGuard, binOp_shr, hs, Sem.run_bind, Sem.run_pure, Result.andThen_ok]
  rfl
theorem ex_len {s : SS} {bs : List Nat} {x : Operand} {y : SV} {t ty e : TypeId} {a : Option Addr} {n c : Nat} (ht : Try.prog.underlying t = some (.slice e)) (hx : s.val x = some y) (hy : den bs y = .slice a n c) :
    ∀ (o : Oper) (ρ : Operand → Value) (W : World), o.op = .call { callee := .builtin .len, args := #[x], argTypes := #[t] } → o.type = ty → (∀ x y, s.val x = some y → ρ x = den bs y) → (execOp ρ o).run Try.prog W = .ok (.value (.int .i64 (n : Int))) W := by
  intro o ρ W h1 h2 h3
  have e1 : ρ x = .slice a n c := (h3 x _ hx).trans hy
  unfold execOp
  have hr : (Builtin.len_ #[t] o.type #[.slice a n c]).run Try.prog W = .ok (.int .i64 (n : Int)) W := by simp [Builtin.len_, run_underlying ht]; rfl
  simp only [h1, e1, resolve, invoke, builtin, List.map_toArray, List.map_cons, List.map_nil, Sem.run_bind, Sem.run_pure, Result.andThen_ok, hr]
def c32 (b : List Nat) : List Value := (List.range 32).map fun j => Value.int .u8 ((b.getD j 0 : Nat) : Int)
theorem c32_at (b : List Nat) (j : Nat) (hj : j < 32) : (c32 b)[0 + j]? = some (.int .u8 ((b.getD j 0 : Nat) : Int)) := by simp [c32, hj]
theorem c32_of (b : List Nat) (h : b.length = 32) : c32 b = b.map bV := by
  apply List.ext_getElem
  · simp [c32, h]
  · intro i h1 h2
    simp only [List.length_map] at h2
    simp [c32, bV, List.getD, List.getElem?_eq_getElem h2]
theorem c32_pad (b : List Nat) (h : b.length = 28) : c32 b = (b ++ [0, 0, 0, 0]).map bV := by
  rw [← c32_of _ (by simp [h])]
  unfold c32
  refine List.map_congr_left fun j hj => ?_
  rw [List.mem_range] at hj
  by_cases h1 : j < 28
  · simp [List.getD, List.getElem?_append_left (show j < b.length by omega)]
  · simp only [List.getD, List.getElem?_eq_none (show b.length ≤ j by omega), List.getElem?_append_right (show b.length ≤ j by omega), h]
    have : j = 28 ∨ j = 29 ∨ j = 30 ∨ j = 31 := by omega
    rcases this with rfl | rfl | rfl | rfl <;> rfl
abbrev z32c (f : Nat) : List Value := Value.int .u8 (f : Int) :: List.replicate 31 (Value.int .u8 0)
theorem copied (f : Nat) (p : List Nat) (hl : p.length ≤ 27) : (z32c f).take 1 ++ p.map bV ++ (z32c f).drop (1 + p.length) = c32 (bodyB f p) := by
  rw [c32_pad _ (body_len hl)]
  have e : (z32c f).drop (1 + p.length) = List.replicate (31 - p.length) (Value.int .u8 0) := by
    rw [Nat.add_comm]
    show (List.replicate 31 (Value.int .u8 0)).drop p.length = _
    rw [List.drop_replicate]
  rw [e]
  show Value.int .u8 (f : Int) :: (p.map bV ++ _) = _
  unfold bodyB padB
  simp only [List.cons_append, List.map_cons, List.map_append, List.append_assoc, List.map_replicate]
  show _ = Value.int .u8 (f : Int) :: _
  congr 2
  rw [show 31 - p.length = (27 - p.length) + 4 by omega, ← List.replicate_append_replicate]
  rfl
theorem sealed4 (f : Nat) (p : List Nat) (hl : p.length ≤ 27) (n : Nat) (hn : n = adler (bodyB f p)) : (c32 (bodyB f p)).take 28 ++ [bV (n % 256), bV (n / 256 % 256), bV (n / 65536 % 256), bV (n / 16777216 % 256)] = (sec f p).map bV := by
  subst hn
  rw [c32_pad _ (body_len hl), List.map_append, List.take_append_of_le_length (by simp [body_len hl]), List.take_of_length_le (by simp [body_len hl])]
  unfold sec le4
  rw [List.map_append]
  rfl
theorem ex_cp {s : SS} {bs : List Nat} {w : World} {x y : Operand} {X Y : SV} {g : Nat} {f : Nat} {p : List Nat} {pa : Option Addr} {pc : Nat} (hl : p.length ≤ 27) (hx : s.val x = some X) (hX : den bs X = .slice (some ⟨g, 1, none⟩) 27 31) (hy : s.val y = some Y) (hY : den bs Y = .slice pa p.length pc) (hv : HasB w (.slice pa p.length pc) p) (hg : w.heap[g]? = some (.cells (z32c f).toArray 59 (0, 0))) :
    ∀ (o : Oper) (ρ : Operand → Value), o.op = .call { callee := .builtin .copy, args := #[x, y], argTypes := #[43, 43] } → o.type = 3 → (∀ x y, s.val x = some y → ρ x = den bs y) → ∃ w', (execOp ρ o).run Try.prog w = .ok (.value (.int .i64 (p.length : Int))) w' ∧ w'.heap[g]? = some (.cells (c32 (bodyB f p)).toArray 59 (0, 0)) ∧ Gr w w' [g] := by
  intro o ρ h1 h2 h3
  have e1 : ρ x = .slice (some ⟨g, 1, none⟩) 27 31 := (h3 x _ hx).trans hX
  have e2 : ρ y = .slice pa p.length pc := (h3 y _ hy).trans hY
  have hsz : (Try.prog.info? 5).map (·.size) = some 1 := by kernel_rfl
  have hu : Try.prog.underlying 43 = some (.slice 5) := Try.underlying43
  obtain ⟨_, hs⟩ := hasB_src hv
  rcases Nat.eq_zero_or_pos p.length with h0 | h0
  · have hr := run_copy_none (P := Try.prog) w 43 43 o.type 5 (some ⟨g, 1, none⟩) pa 27 31 p.length pc hu hsz (by rw [h0]; rfl)
    refine ⟨w, ?_, ?_, gb_refl' _ _⟩
    · unfold execOp
      simp only [h1, e1, e2, resolve, invoke, builtin, List.map_toArray, List.map_cons, List.map_nil, Sem.run_bind, Sem.run_pure, Result.andThen_ok, hr]
      rw [h0]
      rfl
    · rw [hg, ← copied f p hl, List.length_eq_zero_iff.1 h0]
      simp
  · obtain ⟨ad, rfl, hc⟩ := hs.resolve_left (fun q => by omega)
    have hr := run_copy_row (P := Try.prog) w 43 43 o.type 5 g 1 27 31 ad p.length pc (z32c f).toArray 59 (p.map bV) hu hsz hg (by show (p.map bV).length = min p.length 27; rw [List.length_map, Nat.min_eq_left hl]) hc (by rw [List.length_map]; show 1 + p.length ≤ 32; omega) (bV_one p)
    refine ⟨_, ?_, setRow_heap w g _ _ _ _ hg, ?_⟩
    · unfold execOp
      simp only [h1, e1, e2, resolve, invoke, builtin, List.map_toArray, List.map_cons, List.map_nil, Sem.run_bind, Sem.run_pure, Result.andThen_ok, hr, copied f p hl, List.length_map]
      rw [← copied f p hl]
      rfl
    · exact ⟨rfl, rfl, rfl, by simp [World.setRow], fun k hk hne => setRow_other w g k _ (fun e => hne (by simp [e]))⟩
theorem u8_of (n d : Nat) : IntKind.u8.wrap (((n : Nat) : Int) / (d : Int)) = ((n / d % 256 : Nat) : Int) := by
  rw [← Int.natCast_ediv]
  show _ = _
  rw [IntKind.wrap_u8]
  omega
theorem ar_1 (b : Nat) (W : World) : (Instr.sliceAt 59 (.pointer (some ⟨b, 0, none⟩)) (some (.int .i64 1)) (some (.int .i64 28)) none).run Try.prog W = .ok (.slice (some ⟨b, 1, none⟩) 27 31) W := by kernel_rfl
theorem ar_2 (b : Nat) (W : World) : (Instr.sliceAt 59 (.pointer (some ⟨b, 0, none⟩)) none (some (.int .i64 28)) none).run Try.prog W = .ok (.slice (some ⟨b, 0, none⟩) 28 32) W := by kernel_rfl
theorem ar_3 (b : Nat) (W : World) : (Instr.sliceAt 59 (.pointer (some ⟨b, 0, none⟩)) (some (.int .i64 28)) none none).run Try.prog W = .ok (.slice (some ⟨b, 28, none⟩) 4 4) W := by kernel_rfl
theorem ar_4 (b : Nat) (W : World) : (Instr.sliceAt 59 (.pointer (some ⟨b, 0, none⟩)) none none none).run Try.prog W = .ok (.slice (some ⟨b, 0, none⟩) 32 32) W := by kernel_rfl
noncomputable def scC : Cfg := ⟨goZ 60 [] [.code (bodyOf Try.f28)], ⟨0, [], []⟩⟩
def cI (B : List Nat) (A : Nat) : Nat → List Value
  | 0 => (c32 B).take 28 ++ [bV 0, bV 0, bV 0, bV 0]
  | 1 => (c32 B).take 28 ++ [bV (A / 1 % 256), bV 0, bV 0, bV 0]
  | 2 => (c32 B).take 28 ++ [bV (A / 1 % 256), bV (A / 256 % 256), bV 0, bV 0]
  | 3 => (c32 B).take 28 ++ [bV (A / 1 % 256), bV (A / 256 % 256), bV (A / 65536 % 256), bV 0]
  | _ => (c32 B).take 28 ++ [bV (A / 1 % 256), bV (A / 256 % 256), bV (A / 65536 % 256), bV (A / 16777216 % 256)]
noncomputable def scS0 (f : Nat) (p : List Nat) (A : Nat) : SS := ⟨33, [(5, .p 0 0), (6, .v (.int .i64 (A : Int))), (18, .v (.int .i64 4)), (19, .v (.int .i64 0))], [⟨59, c32 (bodyB f p)⟩]⟩
noncomputable def scS (f : Nat) (p : List Nat) (A : Nat) (i : Nat) : SS := ⟨33, [(5, .p 0 0), (6, .v (.int .i64 (A : Int))), (18, .v (.int .i64 4)), (19, .v (.int .i64 (i : Int)))], [⟨59, cI (bodyB f p) A i⟩]⟩
theorem cI_0 (f : Nat) (p : List Nat) (hl : p.length ≤ 27) : c32 (bodyB f p) = (c32 (bodyB f p)).take 28 ++ [bV 0, bV 0, bV 0, bV 0] := by
  rw [c32_pad _ (body_len hl), List.map_append, List.take_append_of_le_length (by simp [body_len hl]), List.take_of_length_le (by simp [body_len hl])]
  rfl
section
variable (w0 : World) (f : Nat) (hf : f < 256) (p : List Nat) (hp : ∀ b ∈ p, b < 256) (hl : p.length ≤ 27) (A : Nat) (eA : A = adler (bodyB f p)) (v : Value) (x0 : Nat) (aa : Act) (w : World)
include w0 f hf p hp hl A eA v x0 aa w
set_option maxHeartbeats 8000000 in
theorem sc_r4 (S : Sy w0 [] [x0] (scS f p A 4) [rfHB v p] aa w) : post Try.prog (.rnd 1 (bodyL scC) :: scC.k.tail) (bodyPost Try.prog Try.f28 fun y w' => y = .returned (.string (secB f p)) ∧ Below w0.heap.size w0 w') .normal aa w := by
  refine sy_run (c := ⟨(.rnd 1 (bodyL scC) :: scC.k.tail), scS f p A 4⟩) ⟨0, [10]⟩ 60 S fun bs aa w S => ?_
  refine sy_reg S fun S => ?_
  refine sy_nm S fun bs S => ?_
  refine sy_exS 0 0 32 32 S (by kernel_rfl) (op := .slice 59 (.tmp 5) none none none) (ty := 43) (by kernel_rfl) (ex_sl2 (y := .p 0 0) (l2 := none) (h2 := none) (m2 := none) (by kernel_rfl) rfl (by kernel_rfl) (by kernel_rfl) (by kernel_rfl) (fun W => ar_4 _ W)) fun aa S => ?_
  have hbx : w.heap[bs.getD 0 0]? = some (.cells (cI (bodyB f p) A 4).toArray 59 (0, 0)) := S.bx 0 ⟨59, cI (bodyB f p) A 4⟩ (by kernel_rfl)
  have e4 : cI (bodyB f p) A 4 = (sec f p).map bV := by
    show (c32 (bodyB f p)).take 28 ++ [bV (A / 1 % 256), bV (A / 256 % 256), bV (A / 65536 % 256), bV (A / 16777216 % 256)] = _
    rw [Nat.div_one, sealed4 f p hl A eA]
  rw [e4] at hbx
  have hs32 := sec_len (f := f) hl
  have hB : HasB w (.slice (some ⟨bs.getD 0 0, 0, none⟩) 32 32) (sec f p) := by
    have h := hasB_box (o := 0) (c := 32) (l := sec f p) hbx (fun j hj => by simp [bV, List.getD, List.getElem?_eq_getElem hj]) (by omega) (by omega)
    rwa [hs32] at h
  refine sy_exW S (op := .convert 43 9 (.tmp 31)) (ty := 9) (v := .string (secB f p)) (by kernel_rfl) (ex_bs (y := .s 0 0 32 32) (by kernel_rfl) rfl (sec_byte hf hp) hB) fun aa S => ?_
  refine sy_run ⟨0, []⟩ 60 S fun bs aa w S => ?_
  exact sy_ret S (by kernel_rfl) (by kernel_rfl) fun hg => ⟨rfl, bel_gr hg⟩
set_option maxHeartbeats 8000000 in
theorem sc_r3 (S : Sy w0 [] [x0] (scS f p A 3) [rfHB v p] aa w) : post Try.prog (.rnd 2 (bodyL scC) :: scC.k.tail) (bodyPost Try.prog Try.f28 fun y w' => y = .returned (.string (secB f p)) ∧ Below w0.heap.size w0 w') .normal aa w := by
  refine sy_run (c := ⟨(.rnd 2 (bodyL scC) :: scC.k.tail), scS f p A 3⟩) ⟨0, [8]⟩ 60 S fun bs aa w S => ?_
  refine sy_reg S fun S => ?_
  refine sy_ops 5 S fun bs aa w S => ?_
  refine sy_ex (op := .binOp .shr 3 (.tmp 24) (.tmp 26) 3) (ty := 3) (v := .int .i64 ((A : Int) / ((16777216 : Nat) : Int))) S (by kernel_rfl) (ex_shr (p := (A : Int)) (q := 24) (by kernel_rfl) (by kernel_rfl) (by decide) (by rfl)) fun aa S => ?_
  refine sy_ops 1 S fun bs aa w S => ?_
  refine sy_cast 28 S (congrArg (Value.int .u8) (u8_of A 16777216)) (by kernel_rfl) fun S => ?_
  refine sy_idx S fun aa S => ?_
  refine sy_ops 1 S fun bs aa w S => ?_
  refine sy_run ⟨0, [999]⟩ 60 S fun bs aa w S => ?_
  have S2 := S.to [0] (scS f p A 4) (by kernel_rfl) (by kernel_rfl) (by kernel_rfl) (by kernel_rfl) (by kernel_rfl)
  refine sy_at2 (k' := (.rnd 1 (bodyL scC) :: scC.k.tail)) (by kernel_rfl) ?_
  exact sc_r4 w0 f hf p hp hl A eA v _ aa w S2
set_option maxHeartbeats 8000000 in
theorem sc_r2 (S : Sy w0 [] [x0] (scS f p A 2) [rfHB v p] aa w) : post Try.prog (.rnd 3 (bodyL scC) :: scC.k.tail) (bodyPost Try.prog Try.f28 fun y w' => y = .returned (.string (secB f p)) ∧ Below w0.heap.size w0 w') .normal aa w := by
  refine sy_run (c := ⟨(.rnd 3 (bodyL scC) :: scC.k.tail), scS f p A 2⟩) ⟨0, [8]⟩ 60 S fun bs aa w S => ?_
  refine sy_reg S fun S => ?_
  refine sy_ops 5 S fun bs aa w S => ?_
  refine sy_ex (op := .binOp .shr 3 (.tmp 24) (.tmp 26) 3) (ty := 3) (v := .int .i64 ((A : Int) / ((65536 : Nat) : Int))) S (by kernel_rfl) (ex_shr (p := (A : Int)) (q := 16) (by kernel_rfl) (by kernel_rfl) (by decide) (by rfl)) fun aa S => ?_
  refine sy_ops 1 S fun bs aa w S => ?_
  refine sy_cast 28 S (congrArg (Value.int .u8) (u8_of A 65536)) (by kernel_rfl) fun S => ?_
  refine sy_idx S fun aa S => ?_
  refine sy_ops 1 S fun bs aa w S => ?_
  refine sy_run ⟨0, [999]⟩ 60 S fun bs aa w S => ?_
  have S2 := S.to [0] (scS f p A 3) (by kernel_rfl) (by kernel_rfl) (by kernel_rfl) (by kernel_rfl) (by kernel_rfl)
  refine sy_at2 (k' := (.rnd 2 (bodyL scC) :: scC.k.tail)) (by kernel_rfl) ?_
  exact sc_r3 w0 f hf p hp hl A eA v _ aa w S2
set_option maxHeartbeats 8000000 in
theorem sc_r1 (S : Sy w0 [] [x0] (scS f p A 1) [rfHB v p] aa w) : post Try.prog (.rnd 4 (bodyL scC) :: scC.k.tail) (bodyPost Try.prog Try.f28 fun y w' => y = .returned (.string (secB f p)) ∧ Below w0.heap.size w0 w') .normal aa w := by
  refine sy_run (c := ⟨(.rnd 4 (bodyL scC) :: scC.k.tail), scS f p A 1⟩) ⟨0, [8]⟩ 60 S fun bs aa w S => ?_
  refine sy_reg S fun S => ?_
  refine sy_ops 5 S fun bs aa w S => ?_
  refine sy_ex (op := .binOp .shr 3 (.tmp 24) (.tmp 26) 3) (ty := 3) (v := .int .i64 ((A : Int) / ((256 : Nat) : Int))) S (by kernel_rfl) (ex_shr (p := (A : Int)) (q := 8) (by kernel_rfl) (by kernel_rfl) (by decide) (by rfl)) fun aa S => ?_
  refine sy_ops 1 S fun bs aa w S => ?_
  refine sy_cast 28 S (congrArg (Value.int .u8) (u8_of A 256)) (by kernel_rfl) fun S => ?_
  refine sy_idx S fun aa S => ?_
  refine sy_ops 1 S fun bs aa w S => ?_
  refine sy_run ⟨0, [999]⟩ 60 S fun bs aa w S => ?_
  have S2 := S.to [0] (scS f p A 2) (by kernel_rfl) (by kernel_rfl) (by kernel_rfl) (by kernel_rfl) (by kernel_rfl)
  refine sy_at2 (k' := (.rnd 3 (bodyL scC) :: scC.k.tail)) (by kernel_rfl) ?_
  exact sc_r2 w0 f hf p hp hl A eA v _ aa w S2
set_option maxHeartbeats 8000000 in
theorem sc_r0 (S : Sy w0 [] [x0] (scS f p A 0) [rfHB v p] aa w) : post Try.prog (.rnd 5 (bodyL scC) :: scC.k.tail) (bodyPost Try.prog Try.f28 fun y w' => y = .returned (.string (secB f p)) ∧ Below w0.heap.size w0 w') .normal aa w := by
  refine sy_run (c := ⟨(.rnd 5 (bodyL scC) :: scC.k.tail), scS f p A 0⟩) ⟨0, [8]⟩ 60 S fun bs aa w S => ?_
  refine sy_reg S fun S => ?_
  refine sy_ops 5 S fun bs aa w S => ?_
  refine sy_ex (op := .binOp .shr 3 (.tmp 24) (.tmp 26) 3) (ty := 3) (v := .int .i64 ((A : Int) / ((1 : Nat) : Int))) S (by kernel_rfl) (ex_shr (p := (A : Int)) (q := 0) (by kernel_rfl) (by kernel_rfl) (by decide) (by rfl)) fun aa S => ?_
  refine sy_ops 1 S fun bs aa w S => ?_
  refine sy_cast 28 S (congrArg (Value.int .u8) (u8_of A 1)) (by kernel_rfl) fun S => ?_
  refine sy_idx S fun aa S => ?_
  refine sy_ops 1 S fun bs aa w S => ?_
  refine sy_run ⟨0, [999]⟩ 60 S fun bs aa w S => ?_
  have S2 := S.to [0] (scS f p A 1) (by kernel_rfl) (by kernel_rfl) (by kernel_rfl) (by kernel_rfl) (by kernel_rfl)
  refine sy_at2 (k' := (.rnd 4 (bodyL scC) :: scC.k.tail)) (by kernel_rfl) ?_
  exact sc_r1 w0 f hf p hp hl A eA v _ aa w S2
end
set_option maxHeartbeats 8000000 in
theorem sector_t (w0 : World) (f : Nat) (hf : f < 256) (p : List Nat) (hp : ∀ b ∈ p, b < 256) (hl : p.length ≤ 27) (v : Value) (hv : HasB w0 v p) : Calls Try.prog 28 #[.int .i64 (f : Int), v] w0 fun y w' => y = .returned (.string (secB f p)) ∧ Below w0.heap.size w0 w' := by
  obtain ⟨pa, pc, rfl, _⟩ := id hv
  refine sy_enterF [] [rfHB (.slice pa p.length pc) p] (by intro f hf; simp only [List.mem_singleton] at hf; subst hf; exact hv) Try.func28 rfl rfl fun aa S => ?_
  refine sy_run ⟨0, [2]⟩ 60 S fun bs aa w S => ?_
  refine sy_reg S fun S => ?_
  refine sy_ops 2 S fun bs aa w S => ?_
  refine sy_cast 9 S (congrArg (Value.int .u8) (by rw [IntKind.wrap_u8]; omega : IntKind.u8.wrap (f : Int) = (f : Int))) (by kernel_rfl) fun S => ?_
  refine sy_idx S fun aa S => ?_
  refine sy_ops 1 S fun bs aa w S => ?_
  refine sy_run ⟨0, [3]⟩ 60 S fun bs aa w S => ?_
  refine sy_reg S fun S => ?_
  refine sy_nm S fun bs S => ?_
  refine sy_exS 0 1 27 31 S (by kernel_rfl) (op := .slice 59 (.tmp 5) (some (.const (.int .i64 1))) (some (.const (.int .i64 28))) none) (ty := 43) (by kernel_rfl) (ex_sl2 (y := .p 0 0) (l2 := (some (.v (.int .i64 1)))) (h2 := (some (.v (.int .i64 28)))) (m2 := none) (by kernel_rfl) rfl (by kernel_rfl) (by kernel_rfl) (by kernel_rfl) (fun W => ar_1 _ W)) fun aa S => ?_
  refine sy_ops 1 S fun bs aa w S => ?_
  refine sy_nm S fun bs S => ?_
  have hbx : w.heap[bs.getD 0 0]? = some (.cells (z32c f).toArray 59 (0, 0)) := S.bx 0 ⟨59, z32c f⟩ (by kernel_rfl)
  refine sy_exK 0 ⟨59, z32c f⟩ ⟨59, c32 (bodyB f p)⟩ (by kernel_rfl) S (op := .call { callee := .builtin .copy, args := #[.tmp 11, .tmp 12], argTypes := #[43, 43] }) (ty := 3) (v := .int .i64 (p.length : Int)) (by kernel_rfl) (ex_cp (X := .s 0 1 27 31) (Y := .v (.slice pa p.length pc)) hl (by kernel_rfl) rfl (by kernel_rfl) rfl (S.fact (f := rfHB (.slice pa p.length pc) p) (by simp)) hbx) fun aa w S => ?_
  refine sy_run ⟨0, [4]⟩ 60 S fun bs aa w S => ?_
  refine sy_reg S fun S => ?_
  refine sy_nm S fun bs S => ?_
  refine sy_exS 0 0 28 32 S (by kernel_rfl) (op := .slice 59 (.tmp 5) none (some (.const (.int .i64 28))) none) (ty := 43) (by kernel_rfl) (ex_sl2 (y := .p 0 0) (l2 := none) (h2 := (some (.v (.int .i64 28)))) (m2 := none) (by kernel_rfl) rfl (by kernel_rfl) (by kernel_rfl) (by kernel_rfl) (fun W => ar_2 _ W)) fun aa S => ?_
  have hbx : w.heap[bs.getD 0 0]? = some (.cells (c32 (bodyB f p)).toArray 59 (0, 0)) := S.bx 0 ⟨59, c32 (bodyB f p)⟩ (by kernel_rfl)
  have hb28 := body_len (f := f) hl
  have hB : HasB w (.slice (some ⟨bs.getD 0 0, 0, none⟩) 28 32) (bodyB f p) := by
    have h := hasB_box (o := 0) (c := 32) (l := bodyB f p) hbx (fun j hj => c32_at _ j (by omega)) (by omega) (by omega)
    rwa [hb28] at h
  refine sy_exW S (op := .convert 43 9 (.tmp 14)) (ty := 9) (v := .string (strOf (bodyB f p))) (by kernel_rfl) (ex_bs (y := .s 0 0 28 32) (by kernel_rfl) rfl (body_byte hf hp) hB) fun aa S => ?_
  have hA : adler (bytesOf (strOf (bodyB f p))) = adler (bodyB f p) := by rw [bytesOf_strOf _ (body_byte hf hp)]
  obtain ⟨A, eA⟩ : ∃ A, A = adler (bodyB f p) := ⟨_, rfl⟩
  refine sy_call1 S (by have h := wsum_t w (strOf (bodyB f p)) (by rw [size_bytes, bytesOf_strOf _ (body_byte hf hp), hb28]; decide); rw [hA, ← eA] at h; exact h) (by kernel_rfl) fun aa w hb S => ?_
  refine sy_run ⟨0, [5]⟩ 60 S fun bs aa w S => ?_
  refine sy_reg S fun S => ?_
  refine sy_nm S fun bs S => ?_
  refine sy_exS 0 28 4 4 S (by kernel_rfl) (op := .slice 59 (.tmp 5) (some (.const (.int .i64 28))) none none) (ty := 43) (by kernel_rfl) (ex_sl2 (y := .p 0 0) (l2 := (some (.v (.int .i64 28)))) (h2 := none) (m2 := none) (by kernel_rfl) rfl (by kernel_rfl) (by kernel_rfl) (by kernel_rfl) (fun W => ar_3 _ W)) fun aa S => ?_
  refine sy_ex (op := .call { callee := .builtin .len, args := #[.tmp 17], argTypes := #[43] }) (ty := 3) (v := .int .i64 4) S (by kernel_rfl) (ex_len Try.underlying43 (y := .s 0 28 4 4) (by kernel_rfl) rfl) fun aa S => ?_
  refine sy_run ⟨0, []⟩ 60 S fun bs aa w S => ?_
  have S2 := S.to [0] (scS0 f p A) (by kernel_rfl) (by kernel_rfl) (by kernel_rfl) (by kernel_rfl) (by kernel_rfl)
  have eS : scS0 f p A = scS f p A 0 := by
    unfold scS0 scS
    rw [show cI (bodyB f p) A 0 = c32 (bodyB f p) from (cI_0 f p hl).symm]
    rfl
  rw [eS] at S2
  refine sy_loop 5 (by kernel_rfl) ?_
  refine sy_at2 (k' := (.rnd 5 (bodyL scC) :: scC.k.tail)) (by kernel_rfl) ?_
  exact sc_r0 w0 f hf p hp hl A eA _ _ aa w S2
end Go.Proofs.Ytaclhiagfgmgkaa

namespace Go.Proofs.Ytaclhiagfgmgkaa
open Go Go.RowKit SZ
set_option linter.unusedVariables false
set_option linter.unusedSectionVars false
set_option linter.unusedSimpArgs false
set_option maxRecDepth 100000
attribute [local irreducible] post GD Nxt NxtAll
theorem sl_any (t : TypeId) (e : TypeId) (ht : Try.prog.underlying t = some (.slice e)) (he : (Try.prog.info? e).map (·.size) = some 1) (a : Option Addr) (n c l h : Nat) (h1 : l ≤ h) (h2 : h ≤ c) (lo hi : Option Value) (hb : ∀ W, (Instr.sliceBounds true n c lo hi none).run Try.prog W = .ok (l, h, c) W) (W : World) : (Instr.sliceAt t (.slice a n c) lo hi none).run Try.prog W = .ok (.slice (if c = l then a else a.map (·.add l)) (h - l) (c - l)) W := by
  have hE : Try.prog.elem t = e := by unfold Program.elem; rw [ht]
  have hu : Try.prog.underlying t = some (.slice (Try.prog.elem t)) := by rw [hE]; exact ht
  rw [run_sliceAt_slice W _ _ _ _ _ hu, run_slice_any W _ _ _ _ hu, hb W, hE]
  cases hi : Try.prog.info? e with
  | none => rw [hi] at he; cases he
  | some ii =>
    rw [hi] at he
    simp only [Option.map_some, Option.some.injEq] at he
    simp [sizeOf, typeInfo, sliced, hi, he]
theorem sl_suf (a : Option Addr) (n c l : Nat) (h1 : l ≤ n) (h2 : n ≤ c) (W : World) : (Instr.sliceAt 43 (.slice a n c) (some (.int .i64 (l : Int))) none none).run Try.prog W = .ok (.slice (if c = l then a else a.map (·.add l)) (n - l) (c - l)) W :=
  sl_any 43 5 Try.underlying43 (by kernel_rfl) a n c l n h1 h2 _ _ (fun W => by simp [Instr.sliceBounds, run_sliceBound, h1, h2]) W
def pvN (L : Nat) (a : Option Addr) (c : Nat) : Nat → Option Addr × Nat
  | 0 => (a, c)
  | i + 1 => let q := pvN L a c i; let m := min 27 (L - 27 * i); (if q.2 = m then q.1 else q.1.map (·.add m), q.2 - m)
theorem pvN_has {w : World} {a : Option Addr} {c : Nat} {l : List Nat} (h : HasB w (.slice a l.length c) l) : ∀ i, HasB w (.slice (pvN l.length a c i).1 (l.length - 27 * i) (pvN l.length a c i).2) (l.drop (27 * i))
  | 0 => by simpa [pvN] using h
  | i + 1 => by
    have h1 := hasB_drop (pvN_has h i) (j := min 27 (l.length - 27 * i)) (by omega)
    rw [List.drop_drop] at h1
    have e : l.length - 27 * i - min 27 (l.length - 27 * i) = l.length - 27 * (i + 1) := by omega
    have e2 : l.drop (27 * i + min 27 (l.length - 27 * i)) = l.drop (27 * (i + 1)) := by
      rcases Nat.lt_or_ge l.length (27 * i + 27) with q | q
      · rw [List.drop_of_length_le (show l.length ≤ _ by omega), List.drop_of_length_le (show l.length ≤ _ by omega)]
      · congr 1; omega
    rw [e, e2] at h1
    exact h1
section
variable {w : World} {a : Option Addr} {c : Nat} {l : List Nat} (h : HasB w (.slice a l.length c) l) (i : Nat)
include w a c l h i
theorem pvN_part : HasB w (.slice (pvN l.length a c i).1 (partL l i).length (pvN l.length a c i).2) (partL l i) := by
  have h1 := hasB_take (pvN_has h i) (j := min 27 (l.length - 27 * i)) (by omega)
  have e : (l.drop (27 * i)).take (min 27 (l.length - 27 * i)) = partL l i := by
    unfold partL
    rcases Nat.lt_or_ge l.length (27 * i + 27) with q | q
    · rw [List.take_of_length_le (show _ ≤ 27 by rw [List.length_drop]; omega), List.take_of_length_le (by rw [List.length_drop]; omega)]
    · rw [Nat.min_eq_left (by omega)]
  rw [e] at h1
  rw [part_len]
  exact h1
theorem pvN_cap : l.length - 27 * i ≤ (pvN l.length a c i).2 := by
  obtain ⟨a', c', he, ⟨_, h2, _⟩, _⟩ := pvN_has h i
  simp only [Value.slice.injEq] at he
  obtain ⟨_, _, rfl⟩ := he
  rw [List.length_drop] at h2
  exact h2
end
set_option maxHeartbeats 8000000 in
theorem cut_t (w0 : World) (l : List Nat) (a : Option Addr) (c : Nat) (i g : Nat) (hl : l.length ≤ 9000000) (hc : l.length - 27 * i ≤ (pvN l.length a c i).2) (hg : w0.heap[g]? = some (.cells #[.slice (pvN l.length a c (i)).1 (l.length - 27 * (i)) (pvN l.length a c (i)).2] 43 (0, 0))) : Calls Try.prog 27 #[.pointer (some ⟨g, 0, none⟩)] w0 fun y w' => y = .returned (.slice (pvN l.length a c i).1 (partL l i).length (pvN l.length a c i).2) ∧ w'.heap[g]? = some (.cells #[.slice (pvN l.length a c (i + 1)).1 (l.length - 27 * (i + 1)) (pvN l.length a c (i + 1)).2] 43 (0, 0)) ∧ Gr w0 w' [g] := by
  refine sy_enterR [g] [g] [⟨43, [.slice (pvN l.length a c (i)).1 (l.length - 27 * (i)) (pvN l.length a c (i)).2]⟩] [.p 0 0] [] rfl (fun i k hk => by
    match i, hk with
    | 0, hk => obtain rfl := Option.some.inj hk; exact hg
    | i + 1, hk => cases hk) (fun i j hi hj _ => by simp at hi hj; omega) (fun i hi => by simp at hi; subst hi; simp) (fun x hx => by simp only [List.mem_singleton] at hx; subst hx; show 0 < 1; omega) (fun f hf => by cases hf) Try.func27 rfl rfl fun aa S => ?_
  refine sy_run ⟨0, [1]⟩ 60 S fun bs aa w S => ?_
  refine sy_reg S fun S => ?_
  refine sy_ops 2 S fun bs aa w S => ?_
  refine sy_ex (op := .call { callee := .builtin .min, args := #[.const (.int .i64 27), .tmp 5], argTypes := #[3, 3] }) (ty := 3) (v := .int .i64 ((min 27 (l.length - 27 * i) : Nat) : Int)) S (by kernel_rfl) (ex_min (p := 27) (q := ((l.length - 27 * i : Nat) : Int)) (by kernel_rfl) (by kernel_rfl) (by split <;> omega)) fun aa S => ?_
  refine sy_run ⟨0, [2]⟩ 60 S fun bs aa w S => ?_
  refine sy_reg S fun S => ?_
  refine sy_ops 2 S fun bs aa w S => ?_
  refine sy_ex (op := .slice 43 (.tmp 7) none (some (.tmp 8)) none) (ty := 43) (v := .slice (pvN l.length a c i).1 (min 27 (l.length - 27 * i)) (pvN l.length a c i).2) S (by kernel_rfl) (ex_sl (p := .slice (pvN l.length a c (i)).1 (l.length - 27 * (i)) (pvN l.length a c (i)).2) (l2 := none) (h2 := some (.v (.int .i64 ((min 27 (l.length - 27 * i) : Nat) : Int)))) (m2 := none) (by kernel_rfl) (by kernel_rfl) (by kernel_rfl) (by kernel_rfl) (fun W => sl_pre _ _ _ _ (by omega) W)) fun aa S => ?_
  refine sy_run ⟨0, [3]⟩ 60 S fun bs aa w S => ?_
  refine sy_reg S fun S => ?_
  refine sy_ops 2 S fun bs aa w S => ?_
  refine sy_ex (op := .slice 43 (.tmp 10) (some (.tmp 11)) none none) (ty := 43) (v := .slice (if (pvN l.length a c i).2 = min 27 (l.length - 27 * i) then (pvN l.length a c i).1 else (pvN l.length a c i).1.map (·.add (min 27 (l.length - 27 * i)))) (l.length - 27 * i - min 27 (l.length - 27 * i)) ((pvN l.length a c i).2 - min 27 (l.length - 27 * i))) S (by kernel_rfl) (ex_sl (p := .slice (pvN l.length a c (i)).1 (l.length - 27 * (i)) (pvN l.length a c (i)).2) (l2 := some (.v (.int .i64 ((min 27 (l.length - 27 * i) : Nat) : Int)))) (h2 := none) (m2 := none) (by kernel_rfl) (by kernel_rfl) (by kernel_rfl) (by kernel_rfl) (fun W => sl_suf _ _ _ _ (by omega) (by omega) W)) fun aa S => ?_
  refine sy_run ⟨0, []⟩ 60 S fun bs aa w S => ?_
  have hb := S.bx 0 ⟨43, [.slice (if (pvN l.length a c i).2 = min 27 (l.length - 27 * i) then (pvN l.length a c i).1 else (pvN l.length a c i).1.map (·.add (min 27 (l.length - 27 * i)))) (l.length - 27 * i - min 27 (l.length - 27 * i)) ((pvN l.length a c i).2 - min 27 (l.length - 27 * i))]⟩ (by kernel_rfl)
  rw [show l.length - 27 * i - min 27 (l.length - 27 * i) = l.length - 27 * (i + 1) by omega] at hb
  rw [part_len]
  exact sy_ret S (by kernel_rfl) (by kernel_rfl) fun hg => ⟨rfl, hb, hg⟩
theorem owns_row {w : World} {B e g n : Nat} {xs : List Value} (h : w.heap[g]? = some (.cells xs.toArray e (0, 0))) (hn : xs.length = n) (hB : B ≤ g) (hm : n ≤ maxLen) : w.ownsRow B e 1 (.slice (some ⟨g, 0, none⟩) n n) n xs :=
  ⟨by omega, Or.inr ⟨g, n, _, rfl, hB, h, Nat.le_refl _, hm, by simp [hn], by simp [← hn]⟩⟩
theorem infI3 : (Try.prog.info? 3).map (fun i => (i.zero, i.size, i.bytes)) = some (some (.int .i64 0), 1, 8) := by kernel_rfl
theorem infS3 : (Try.prog.info? 9).map (fun i => (i.zero, i.size, i.bytes)) = some (some (.string ByteArray.empty), 1, 16) := by kernel_rfl
theorem parts3 {t : TypeId} {z : Value} {n b : Nat} (h : (Try.prog.info? t).map (fun i => (i.zero, i.size, i.bytes)) = some (some z, n, b)) : ∃ ii, Try.prog.info? t = some ii ∧ ii.zero = some z ∧ ii.size = n ∧ ii.bytes = b := by
  cases hi : Try.prog.info? t with
  | none => rw [hi] at h; cases h
  | some i =>
    rw [hi] at h
    simp only [Option.map_some, Option.some.injEq, Prod.mk.injEq] at h
    exact ⟨i, rfl, h.1, h.2.1, h.2.2⟩
end Go.Proofs.Ytaclhiagfgmgkaa

namespace Go.Proofs.Ytaclhiagfgmgkaa
open Go Go.RowKit SZ
set_option linter.unusedVariables false
set_option linter.unusedSectionVars false
set_option linter.unusedSimpArgs false
set_option maxRecDepth 100000
attribute [local irreducible] post GD Nxt NxtAll
theorem nums_succ (ver : Int) (ws : Ws) (j : Nat) (hj : j < ws.length) : (numsE ver (ws.take (j + 1))).map (Value.int .i64) = (numsE ver (ws.take j)).map (Value.int .i64) ++ [.int .i64 (ws.getD j (0, 0)).1, .int .i64 (ws.getD j (0, 0)).2] := by
  have e : ws.getD j (0, 0) = ws[j] := by simp [List.getD, List.getElem?_eq_getElem hj]
  unfold numsE
  rw [List.take_succ_eq_append_getElem hj, List.flatMap_append, List.map_cons, List.map_cons, List.map_append, List.cons_append, e]
  rfl
theorem follow_is (L i : Nat) (hL : L ≤ 9000) (hi : i < (L + 26) / 27) : IntKind.i64.wrap (Int.tdiv (IntKind.i64.wrap (IntKind.i64.wrap (((L - 27 * (i + 1) : Nat) : Int) + 27) - 1)) 27) = (((L + 26) / 27 - 1 - i : Nat) : Int) := by
  have e1 : IntKind.i64.wrap (((L - 27 * (i + 1) : Nat) : Int) + 27) = ((L - 27 * (i + 1) + 27 : Nat) : Int) := by rw [IntKind.wrap_i64]; omega
  have e2 : IntKind.i64.wrap (((L - 27 * (i + 1) + 27 : Nat) : Int) - 1) = ((L - 27 * (i + 1) + 26 : Nat) : Int) := by rw [IntKind.wrap_i64]; omega
  rw [e1, e2]
  have e3 : Int.tdiv ((L - 27 * (i + 1) + 26 : Nat) : Int) 27 = (((L - 27 * (i + 1) + 26) / 27 : Nat) : Int) := (Int.ofNat_tdiv _ _).symm
  rw [e3, IntKind.wrap_i64]
  omega
noncomputable def r1C : Cfg := ⟨goZ 60 [0] [.code (bodyOf Try.f12)], ⟨0, [], []⟩⟩
noncomputable def r2C : Cfg := ⟨goZ 60 [0, 9] [.code (bodyOf Try.f12)], ⟨0, [], []⟩⟩
noncomputable def r1S (e : Et) (v : Value) (j : Nat) : SS := ⟨52, [(1, .p 0 0), (3, .v v), (18, .v (.slice e.a e.ws.length e.c)), (19, .v (.int .i64 (e.ws.length : Int))), (20, .v (.int .i64 (j : Int)))], [⟨24, e.cs⟩]⟩
noncomputable def r2S (l : List Nat) (a : Option Addr) (c : Nat) (v : Value) (i : Nat) : SS := ⟨52, [(6, .p 0 0), (7, .f 27 [(0, 0)]), (8, .v v)], [⟨43, [.slice (pvN l.length a c i).1 (l.length - 27 * i) (pvN l.length a c i).2]⟩]⟩
abbrev reS (l : List Nat) (i : Nat) : List Value := ((recL l).take i).map Value.string
theorem reS_succ (l : List Nat) (i : Nat) (hi : i < manyL l) : reS l (i + 1) = reS l i ++ [.string (secB (manyL l - 1 - i) (partL l i))] := by
  unfold reS
  rw [List.take_succ_eq_append_getElem (by rw [recL_len]; exact hi)]
  simp [recL]
section
variable (w0 : World) (e : Et) (hg : e.ok) (hf : fitE e.ver e.ws) (hv : validB e.ver e.ws = true)
include w0 e hg hf hv
section
variable (l : List Nat) (hL : l = payE e.ver e.ws) (a : Option Addr) (c : Nat)
include l hL a c
set_option maxHeartbeats 8000000 in
theorem r2_e (m : Nat) (v : Value) (x0 : Nat) (aa : Act) (w : World) (S : Sy w0 [] [x0] (r2S l a c v (manyL l)) [rfHB (.slice a l.length c) l, rfOwn w0.heap.size 9 1 v (manyL l) (reS l (manyL l))] aa w) : post Try.prog (.rnd (m + 1) (bodyL r2C) :: r2C.k.tail) (bodyPost Try.prog Try.f12 fun y w' => ∃ v, y = .returned v ∧ w'.ownsRow w0.heap.size 9 1 v (recE e.ver e.ws).length ((recE e.ver e.ws).map Value.string) ∧ Below w0.heap.size w0 w') .normal aa w := by
  have hge := many_ge l
  refine sy_run (c := ⟨(.rnd (m + 1) (bodyL r2C) :: r2C.k.tail), r2S l a c v (manyL l)⟩) ⟨0, [12]⟩ 50 S fun bs aa w S => ?_
  refine sy_reg S fun S => ?_
  refine sy_ops 3 S fun bs aa w S => ?_
  refine sy_cast 37 S (congrArg Value.bool (decide_eq_false (by omega) : decide (((l.length - 27 * manyL l : Nat) : Int) > 0) = false)) (by kernel_rfl) fun S => ?_
  refine sy_run ⟨0, []⟩ 60 S fun bs aa w S => ?_
  have ho := S.fact (f := rfOwn w0.heap.size 9 1 v (manyL l) (reS l (manyL l))) (by simp)
  have e1 : recE e.ver e.ws = recL l := by rw [recE_valid hv, hL]
  have e2 : reS l (manyL l) = (recL l).map Value.string := by unfold reS; rw [List.take_of_length_le (by rw [recL_len]; exact Nat.le_refl _)]
  rw [e2] at ho
  exact sy_ret S (by kernel_rfl) (by kernel_rfl) fun hg => ⟨v, rfl, by rw [e1, recL_len]; exact ho, bel_gr hg⟩
set_option maxHeartbeats 8000000 in
theorem r2_s (m i : Nat) (hi : i < manyL l) (ih : ∀ (v : Value) (hne : ∀ g, Value.ownBlock v = some g → ¬(rfHB (.slice a l.length c) l).bl g) (x0 : Nat) (aa : Act) (w : World) (S : Sy w0 [] [x0] (r2S l a c v (i + 1)) [rfHB (.slice a l.length c) l, rfOwn w0.heap.size 9 1 v (i + 1) (reS l (i + 1))] aa w), post Try.prog (.rnd (m) (bodyL r2C) :: r2C.k.tail) (bodyPost Try.prog Try.f12 fun y w' => ∃ v, y = .returned v ∧ w'.ownsRow w0.heap.size 9 1 v (recE e.ver e.ws).length ((recE e.ver e.ws).map Value.string) ∧ Below w0.heap.size w0 w') .normal aa w) (v : Value) (hne : ∀ g, Value.ownBlock v = some g → ¬(rfHB (.slice a l.length c) l).bl g) (x0 : Nat) (aa : Act) (w : World) (S : Sy w0 [] [x0] (r2S l a c v (i)) [rfHB (.slice a l.length c) l, rfOwn w0.heap.size 9 1 v (i) (reS l (i))] aa w) : post Try.prog (.rnd (m + 1) (bodyL r2C) :: r2C.k.tail) (bodyPost Try.prog Try.f12 fun y w' => ∃ v, y = .returned v ∧ w'.ownsRow w0.heap.size 9 1 v (recE e.ver e.ws).length ((recE e.ver e.ws).map Value.string) ∧ Below w0.heap.size w0 w') .normal aa w := by
  have hge := many_ge l
  have hmn : 27 * manyL l < l.length + 27 := by unfold manyL; omega
  have hm25 : manyL l ≤ 25 := by rw [hL]; exact (recE_many hf hv).2
  have hlb : ∀ b ∈ l, b < 256 := by rw [hL]; exact pay_byte _ _
  have hl6 : l.length ≤ 660 := by rw [hL]; exact pay_len hf hv
  obtain ⟨ii, hi1, hi2, hi3, hi4⟩ := parts3 infS3
  refine sy_run (c := ⟨(.rnd (m + 1) (bodyL r2C) :: r2C.k.tail), r2S l a c v i⟩) ⟨0, [12]⟩ 50 S fun bs aa w S => ?_
  refine sy_reg S fun S => ?_
  refine sy_ops 3 S fun bs aa w S => ?_
  refine sy_cast 37 S (congrArg Value.bool (decide_eq_true (by omega) : decide (((l.length - 27 * i : Nat) : Int) > 0) = true)) (by kernel_rfl) fun S => ?_
  refine sy_run ⟨0, [13]⟩ 60 S fun bs aa w S => ?_
  refine sy_reg S fun S => ?_
  refine sy_ops 1 S fun bs aa w S => ?_
  refine sy_nm S fun bs S => ?_
  have hHB := S.fact (f := rfHB (.slice a l.length c) l) (by simp)
  have hbx := S.bx 0 ⟨43, [.slice (pvN l.length a c (i)).1 (l.length - 27 * (i)) (pvN l.length a c (i)).2]⟩ (by kernel_rfl)
  refine sy_callH S 0 ⟨43, [.slice (pvN l.length a c (i)).1 (l.length - 27 * (i)) (pvN l.length a c (i)).2]⟩ ⟨43, [.slice (pvN l.length a c (i + 1)).1 (l.length - 27 * (i + 1)) (pvN l.length a c (i + 1)).2]⟩ [] (by kernel_rfl) (by simp) (C := fun _ => True) (f := 27) (args := #[.pointer (some ⟨bs.getD 0 0, 0, none⟩)]) ((cut_t w l a c i (bs.getD 0 0) (by omega) (pvN_cap hHB i) hbx).mono fun y w' h => ⟨h.1, trivial, h.2.1, h.2.2⟩) (by kernel_rfl) [rfHB (.slice a l.length c) l, rfOwn w0.heap.size 9 1 v (i) (reS l (i))] (fun f hf => ⟨hf, by simp⟩) (by simp) fun aa w _ S => ?_
  refine sy_run ⟨0, [14]⟩ 60 S fun bs aa w S => ?_
  refine sy_reg S fun S => ?_
  refine sy_ops 5 S fun bs aa w S => ?_
  refine sy_cast 44 S (congrArg (Value.int .i64) (follow_is l.length i (by omega) (by unfold manyL at hi; omega) : IntKind.i64.wrap (Int.tdiv (IntKind.i64.wrap (IntKind.i64.wrap (((l.length - 27 * (i + 1) : Nat) : Int) + 27) - 1)) 27) = ((manyL l - 1 - i : Nat) : Int))) (by kernel_rfl) fun S => ?_
  refine sy_run ⟨0, [15]⟩ 60 S fun bs aa w S => ?_
  refine sy_reg S fun S => ?_
  refine sy_ops 3 S fun bs aa w S => ?_
  have hHB := S.fact (f := rfHB (.slice a l.length c) l) (by simp)
  refine sy_call1 S (sector_t w (manyL l - 1 - i) (by omega) (partL l i) (part_byte hlb i) (part_le l i) _ (pvN_part hHB i)) (by kernel_rfl) fun aa w hb S => ?_
  refine sy_ops 1 S fun bs aa w S => ?_
  refine sy_nm S fun bs S => ?_
  have how := S.fact (f := rfOwn w0.heap.size 9 1 v i (reS l i)) (by simp)
  have hap := (S.fs (rfOwn w0.heap.size 9 1 v i (reS l i)) (by simp)).2
  have hhb := (S.fs (rfHB (.slice a l.length c) l) (by simp)).2
  have hblk : ∀ j, j < bs.length → bs.getD j 0 < w.heap.size := fun j hj => S.lt hj
  have hHB2 := S.fact (f := rfHB (.slice a l.length c) l) (by simp)
  refine sy_appO w0.heap.size (u := .v v) (y := .s 1 0 1 1) (v := v) (ad := adr bs 1 0) (m := 1) (cp := 1) (n := i) (size := 1) (bytes := 16) (e := 9) (t := 28) (xs := reS l i) (news := [.string (secB (manyL l - 1 - i) (partL l i))]) [rfHB (.slice a l.length c) l] S (by kernel_rfl) Try.underlying28 hi1 hi2 hi3 hi4 rfl (by omega) rfl rfl how S.gr.size (own3 (P := Try.prog) (ty := 9) (cs := [.string (secB (manyL l - 1 - i) (partL l i))]) S 1 (by kernel_rfl)) rfl (by intro u hu; simp only [List.mem_singleton] at hu; subst hu; rfl) (by simp only [maxLen]; omega) (by omega)
    (fun g hg => Or.inr (how.lt g hg).1)
    (fun f hf => by
      simp only [List.mem_singleton] at hf
      subst hf
      refine ⟨by simp, fun g hg hb => ?_⟩
      exact hne g hg hb)
    (fun j hj hb => hap j hj hb)
    fun v' aa w2 hO hg hnn S => ?_
  have hne' : ∀ g, v'.ownBlock = some g → ¬(rfHB (.slice a l.length c) l).bl g := fun g hg hb => (hnn g hg).elim (fun q => hne g q hb) (fun q => by have h1 := (rfHB (.slice a l.length c) l).lt _ hHB2 g hb; omega)
  have S := S.add (rfOwn w0.heap.size 9 1 v' (i + 1) (reS l (i + 1))) (by rw [reS_succ l i hi]; exact hO) (fun j hj hb => (hnn _ hb).elim (fun q => hap j hj q) (fun q => by have := hblk j hj; omega))
  refine sy_run ⟨0, [999]⟩ 60 S fun bs aa w S => ?_
  have S := S.sub (F' := [rfHB (.slice a l.length c) l, rfOwn w0.heap.size 9 1 v' (i + 1) (reS l (i + 1))]) (by intro f hf; simp only [List.mem_cons, List.not_mem_nil, or_false] at hf; rcases hf with rfl | rfl <;> simp)
  have S2 := S.to [0] (r2S l a c v' (i + 1)) (by kernel_rfl) (by kernel_rfl) (by kernel_rfl) (by kernel_rfl) (by kernel_rfl)
  refine sy_at2 (k' := (.rnd (m) (bodyL r2C) :: r2C.k.tail)) (by kernel_rfl) ?_
  exact ih v' hne' _ aa w S2
theorem r2_a : ∀ (r i : Nat), i + r = manyL l → ∀ (v : Value) (hne : ∀ g, Value.ownBlock v = some g → ¬(rfHB (.slice a l.length c) l).bl g) (x0 : Nat) (aa : Act) (w : World) (S : Sy w0 [] [x0] (r2S l a c v (i)) [rfHB (.slice a l.length c) l, rfOwn w0.heap.size 9 1 v (i) (reS l (i))] aa w), post Try.prog (.rnd (r + 1) (bodyL r2C) :: r2C.k.tail) (bodyPost Try.prog Try.f12 fun y w' => ∃ v, y = .returned v ∧ w'.ownsRow w0.heap.size 9 1 v (recE e.ver e.ws).length ((recE e.ver e.ws).map Value.string) ∧ Below w0.heap.size w0 w') .normal aa w := by
  intro r
  induction r with
  | zero => intro i hi v hne x0 aa w S; obtain rfl : i = manyL l := by omega
            exact r2_e w0 e hg hf hv l hL a c 0 v x0 aa w S
  | succ r ih => intro i hi v hne x0 aa w S; exact r2_s w0 e hg hf hv l hL a c (r + 1) i (by omega) (fun v hn => ih (i + 1) (by omega) v hn) v hne x0 aa w S
end
set_option maxHeartbeats 8000000 in
theorem r1_e (m : Nat) (v : Value) (x0 : Nat) (aa : Act) (w : World) (S : Sy w0 [] [x0] (r1S e v (e.ws.length)) [rfWr e.b e.o e.ws, rfOwn w0.heap.size 3 1 v (1 + 2 * (e.ws.length)) ((numsE e.ver (e.ws.take (e.ws.length))).map (Value.int .i64))] aa w) : post Try.prog (.rnd (m + 1) (bodyL r1C) :: r1C.k.tail) (bodyPost Try.prog Try.f12 fun y w' => ∃ v, y = .returned v ∧ w'.ownsRow w0.heap.size 9 1 v (recE e.ver e.ws).length ((recE e.ver e.ws).map Value.string) ∧ Below w0.heap.size w0 w') .normal aa w := by
  have h32 := valid_len hv
  refine sy_run (c := ⟨(.rnd (m + 1) (bodyL r1C) :: r1C.k.tail), r1S e v e.ws.length⟩) ⟨0, [5]⟩ 50 S fun bs aa w S => ?_
  refine sy_reg S fun S => ?_
  refine sy_ops 1 S fun bs aa w S => ?_
  refine sy_cast 21 S (congrArg Value.bool (decide_eq_false (by omega) : decide ((e.ws.length : Int) < (e.ws.length : Int)) = false)) (by kernel_rfl) fun S => ?_
  refine sy_run ⟨0, [9]⟩ 60 S fun bs aa w S => ?_
  refine sy_reg S fun S => ?_
  refine sy_ops 1 S fun bs aa w S => ?_
  refine sy_nm S fun bs S => ?_
  have ho := S.fact (f := rfOwn w0.heap.size 3 1 v (1 + 2 * (e.ws.length)) ((numsE e.ver (e.ws.take (e.ws.length))).map (Value.int .i64))) (by simp)
  rw [List.take_length] at ho
  have eL : 1 + 2 * e.ws.length = (numsE e.ver e.ws).length := (numsE_len _ _).symm
  rw [eL] at ho
  have hI := hasInts_of_owns ho
  have hblk : ∀ j, j < bs.length → bs.getD j 0 < w.heap.size := fun j hj => S.lt hj
  refine sy_call (X := Value) (val := id) (C := fun x w' => OwnB w' w.heap.size x (payE e.ver e.ws)) S (nums_any v (numsE e.ver e.ws) (numsE_fit hf) (by rw [numsE_len]; omega) w hI) (by kernel_rfl) fun x aa w1 hC hb S => ?_
  obtain ⟨a, c, rfl, _⟩ := id (hasB_of_owns hC)
  have hl1 := hC.lt
  have S := S.add (rfHB (.slice a (payE e.ver e.ws).length c) (payE e.ver e.ws)) (hasB_of_owns hC) (fun j hj hb => by
    obtain ⟨_, o2, n2, c2, he⟩ := hb
    simp only [id, Value.slice.injEq] at he
    obtain ⟨rfl, _, _⟩ := he
    have h1 : w.heap.size ≤ bs.getD j 0 := (hl1 _ rfl).1
    have h2 := hblk j hj
    omega)
  have S := S.add (rfOwn w0.heap.size 9 1 (.slice none 0 0) 0 (reS (payE e.ver e.ws) 0)) (World.ownsRow_nil _ _ _ _) (fun i hi h => by cases h)
  refine sy_run ⟨0, []⟩ 60 S fun bs aa w S => ?_
  have S := S.sub (F' := [rfHB (.slice a (payE e.ver e.ws).length c) (payE e.ver e.ws), rfOwn w0.heap.size 9 1 (.slice none 0 0) 0 (reS (payE e.ver e.ws) 0)]) (by intro f hf; simp only [List.mem_cons, List.not_mem_nil, or_false] at hf; rcases hf with rfl | rfl <;> simp)
  have S2 := S.to [1] (r2S (payE e.ver e.ws) a c (.slice none 0 0) 0) (by kernel_rfl) (by kernel_rfl) (by kernel_rfl) (by kernel_rfl) (by kernel_rfl)
  refine sy_loop (manyL (payE e.ver e.ws) + 1) (by kernel_rfl) ?_
  refine sy_at2 (k' := (.rnd (manyL (payE e.ver e.ws) + 1) (bodyL r2C) :: r2C.k.tail)) (by kernel_rfl) ?_
  exact r2_a w0 e hg hf hv (payE e.ver e.ws) rfl a c (manyL (payE e.ver e.ws)) 0 (by omega) (.slice none 0 0) (fun g hg => by cases hg) _ aa w S2
set_option maxHeartbeats 8000000 in
theorem r1_s (m j : Nat) (hj : j < e.ws.length) (hwb : e.b < w0.heap.size) (ih : ∀ (v : Value) (x0 : Nat) (aa : Act) (w : World) (S : Sy w0 [] [x0] (r1S e v (j + 1)) [rfWr e.b e.o e.ws, rfOwn w0.heap.size 3 1 v (1 + 2 * (j + 1)) ((numsE e.ver (e.ws.take (j + 1))).map (Value.int .i64))] aa w), post Try.prog (.rnd (m) (bodyL r1C) :: r1C.k.tail) (bodyPost Try.prog Try.f12 fun y w' => ∃ v, y = .returned v ∧ w'.ownsRow w0.heap.size 9 1 v (recE e.ver e.ws).length ((recE e.ver e.ws).map Value.string) ∧ Below w0.heap.size w0 w') .normal aa w) (v : Value) (x0 : Nat) (aa : Act) (w : World) (S : Sy w0 [] [x0] (r1S e v (j)) [rfWr e.b e.o e.ws, rfOwn w0.heap.size 3 1 v (1 + 2 * (j)) ((numsE e.ver (e.ws.take (j))).map (Value.int .i64))] aa w) : post Try.prog (.rnd (m + 1) (bodyL r1C) :: r1C.k.tail) (bodyPost Try.prog Try.f12 fun y w' => ∃ v, y = .returned v ∧ w'.ownsRow w0.heap.size 9 1 v (recE e.ver e.ws).length ((recE e.ver e.ws).map Value.string) ∧ Below w0.heap.size w0 w') .normal aa w := by
  have h32 := valid_len hv
  obtain ⟨ii, hi1, hi2, hi3, hi4⟩ := parts3 infI3
  refine sy_run (c := ⟨(.rnd (m + 1) (bodyL r1C) :: r1C.k.tail), r1S e v j⟩) ⟨0, [5]⟩ 50 S fun bs aa w S => ?_
  refine sy_reg S fun S => ?_
  refine sy_ops 1 S fun bs aa w S => ?_
  refine sy_cast 21 S (congrArg Value.bool (decide_eq_true (by omega) : decide ((j : Int) < (e.ws.length : Int)) = true)) (by kernel_rfl) fun S => ?_
  refine sy_run ⟨0, [6]⟩ 60 S fun bs aa w S => ?_
  refine sy_reg S fun S => ?_
  refine sy_ix (b := e.b) (off := e.o) (len := e.ws.length) (n := j) (size := 2) (i := (j : Int)) S (by rw [← hg.resolve_left (by omega)]; kernel_rfl) rfl hj fun aa S => ?_
  refine sy_ldo S (ld_wr (j := j) (S.fact (f := rfWr e.b e.o e.ws) (by simp)) hj) (by kernel_rfl) fun aa S => ?_
  refine sy_run ⟨0, [7]⟩ 60 S fun bs aa w S => ?_
  refine sy_reg S fun S => ?_
  refine sy_ops 6 S fun bs aa w S => ?_
  refine sy_nm S fun bs S => ?_
  have how := S.fact (f := rfOwn w0.heap.size 3 1 v (1 + 2 * (j)) ((numsE e.ver (e.ws.take (j))).map (Value.int .i64))) (by simp)
  have hap := (S.fs (rfOwn w0.heap.size 3 1 v (1 + 2 * (j)) ((numsE e.ver (e.ws.take (j))).map (Value.int .i64))) (by simp)).2
  have hblk : ∀ j, j < bs.length → bs.getD j 0 < w.heap.size := fun j hj => S.lt hj
  refine sy_appO w0.heap.size (u := .v v) (y := .s 2 0 2 2) (v := v) (ad := adr bs 2 0) (m := 2) (cp := 2) (n := 1 + 2 * j) (size := 1) (bytes := 8) (e := 3) (t := 49) (xs := (numsE e.ver (e.ws.take (j))).map (Value.int .i64)) (news := [.int .i64 (e.ws.getD j (0, 0)).1, .int .i64 (e.ws.getD j (0, 0)).2]) [rfWr e.b e.o e.ws] S (by kernel_rfl) Try.underlying49 hi1 hi2 hi3 hi4 rfl (by omega) rfl rfl how S.gr.size (own3 (P := Try.prog) (ty := 3) (cs := [.int .i64 (e.ws.getD j (0, 0)).1, .int .i64 (e.ws.getD j (0, 0)).2]) S 2 (by kernel_rfl)) rfl (by intro u hu; simp only [List.mem_cons, List.not_mem_nil, or_false] at hu; rcases hu with rfl | rfl <;> rfl) (by simp only [maxLen]; omega) (by omega)
    (fun g hg => Or.inr (how.lt g hg).1)
    (fun f hf => by
      simp only [List.mem_singleton] at hf
      subst hf
      refine ⟨by simp, fun g hg hb => ?_⟩
      obtain ⟨rfl, _⟩ := hb
      have := (how.lt _ hg).1
      omega)
    (fun j hj hb => hap j hj hb)
    fun v' aa w2 hO hg' hnn S => ?_
  have S := S.add (rfOwn w0.heap.size 3 1 v' (1 + 2 * (j + 1)) ((numsE e.ver (e.ws.take (j + 1))).map (Value.int .i64))) (by rw [nums_succ e.ver e.ws j hj]; exact hO) (fun j hj hb => (hnn _ hb).elim (fun q => hap j hj q) (fun q => by have := hblk j hj; omega))
  refine sy_run ⟨0, [8]⟩ 60 S fun bs aa w S => ?_
  refine sy_reg S fun S => ?_
  refine sy_ops 1 S fun bs aa w S => ?_
  refine sy_cast 31 S (congrArg (Value.int .i64) (by rw [IntKind.wrap_i64]; omega : IntKind.i64.wrap ((j : Int) + 1) = ((j + 1 : Nat) : Int))) (by kernel_rfl) fun S => ?_
  refine sy_run ⟨0, [999]⟩ 50 S fun bs aa w S => ?_
  have S := S.sub (F' := [rfWr e.b e.o e.ws, rfOwn w0.heap.size 3 1 v' (1 + 2 * (j + 1)) ((numsE e.ver (e.ws.take (j + 1))).map (Value.int .i64))]) (by intro f hf; simp only [List.mem_cons, List.not_mem_nil, or_false] at hf; rcases hf with rfl | rfl <;> simp)
  have S2 := S.to [0] (r1S e v' (j + 1)) (by kernel_rfl) (by kernel_rfl) (by kernel_rfl) (by kernel_rfl) (by kernel_rfl)
  refine sy_at2 (k' := (.rnd (m) (bodyL r1C) :: r1C.k.tail)) (by kernel_rfl) ?_
  exact ih v' _ aa w S2
theorem r1_a (hwb : e.ws.length = 0 ∨ e.b < w0.heap.size) : ∀ (r j : Nat), j + r = e.ws.length → ∀ (v : Value) (x0 : Nat) (aa : Act) (w : World) (S : Sy w0 [] [x0] (r1S e v (j)) [rfWr e.b e.o e.ws, rfOwn w0.heap.size 3 1 v (1 + 2 * (j)) ((numsE e.ver (e.ws.take (j))).map (Value.int .i64))] aa w), post Try.prog (.rnd (r + 1) (bodyL r1C) :: r1C.k.tail) (bodyPost Try.prog Try.f12 fun y w' => ∃ v, y = .returned v ∧ w'.ownsRow w0.heap.size 9 1 v (recE e.ver e.ws).length ((recE e.ver e.ws).map Value.string) ∧ Below w0.heap.size w0 w') .normal aa w := by
  intro r
  induction r with
  | zero => intro j hj v x0 aa w S; obtain rfl : j = e.ws.length := by omega
            exact r1_e w0 e hg hf hv 0 v x0 aa w S
  | succ r ih => intro j hj v x0 aa w S; exact r1_s w0 e hg hf hv (r + 1) j (by omega) (hwb.resolve_left (by omega)) (fun v => ih (j + 1) (by omega) v) v x0 aa w S
end
set_option maxHeartbeats 8000000 in
theorem record_e (w0 : World) (e : Et) (hg : e.ok) (hf : fitE e.ver e.ws) (hA : WrAt w0 e.b e.o e.ws) : Calls Try.prog 12 #[e.v] w0 fun y w' => ∃ v, y = .returned v ∧ w'.ownsRow w0.heap.size 9 1 v (recE e.ver e.ws).length ((recE e.ver e.ws).map Value.string) ∧ Below w0.heap.size w0 w' := by
  have hwb : e.ws.length = 0 ∨ e.b < w0.heap.size := by
    by_cases h : e.ws.length = 0
    · exact Or.inl h
    · exact Or.inr ((rfWr e.b e.o e.ws).lt w0 hA e.b ⟨rfl, h⟩)
  refine sy_enterF [] [rfWr e.b e.o e.ws] (by intro f hf; simp only [List.mem_singleton] at hf; subst hf; exact hA) Try.func12 rfl rfl fun aa S => ?_
  refine sy_run ⟨0, [1]⟩ 60 S fun bs aa w S => ?_
  refine sy_reg S fun S => ?_
  refine sy_ops 1 S fun bs aa w S => ?_
  refine sy_call1 S (right_e w e hg (S.fact (f := rfWr e.b e.o e.ws) (by simp))) (by kernel_rfl) fun aa w hb S => ?_
  cases hv : validB e.ver e.ws with
  | false =>
    refine sy_cast 12 S (congrArg Value.bool hv) (by kernel_rfl) fun S => ?_
    refine sy_run ⟨0, []⟩ 60 S fun bs aa w S => ?_
    exact sy_ret S (by kernel_rfl) (by kernel_rfl) fun hg => ⟨_, rfl, by rw [recE_bad hv]; exact World.ownsRow_nil _ _ _ _, bel_gr hg⟩
  | true =>
    refine sy_cast 12 S (congrArg Value.bool hv) (by kernel_rfl) fun S => ?_
    refine sy_run ⟨0, []⟩ 60 S fun bs aa w S => ?_
    refine sy_nm S fun bs S => ?_
    have hbx := S.bx 1 ⟨3, [.int .i64 e.ver]⟩ (by kernel_rfl)
    have hgs : w0.heap.size ≤ bs.getD 1 0 := S.lo0 1 (by rw [S.bl]; exact Nat.le_of_ble_eq_true (by kernel_rfl))
    have hl0 : 0 < bs.length := by rw [S.bl]; exact Nat.le_of_ble_eq_true (by kernel_rfl)
    have hl1 : 1 < bs.length := by rw [S.bl]; exact Nat.le_of_ble_eq_true (by kernel_rfl)
    have hnd := S.nd 0 1 hl0 hl1
    have S := S.plain 3 (x := .s 1 0 1 1) (by kernel_rfl)
    have S2 := S.to [0] (r1S e (.slice (some ⟨bs.getD 1 0, 0, none⟩) 1 1) 0) (by kernel_rfl) (by kernel_rfl) (by kernel_rfl) (by kernel_rfl) (by kernel_rfl)
    have S2 := S2.add (rfOwn w0.heap.size 3 1 (.slice (some ⟨bs.getD 1 0, 0, none⟩) 1 1) (1 + 2 * (0)) ((numsE e.ver (e.ws.take (0))).map (Value.int .i64))) (owns_row hbx rfl hgs (by decide)) (fun j hj hb => by
      simp only [List.map_cons, List.map_nil, List.length_cons, List.length_nil] at hj
      obtain rfl : j = 0 := by omega
      have hb2 : some (bs.getD 1 0) = some (bs.getD 0 0) := hb
      simp only [Option.some.injEq] at hb2
      exact absurd (hnd hb2.symm) (by decide))
    have S2 := S2.sub (F' := [rfWr e.b e.o e.ws, rfOwn w0.heap.size 3 1 (.slice (some ⟨bs.getD 1 0, 0, none⟩) 1 1) (1 + 2 * (0)) ((numsE e.ver (e.ws.take (0))).map (Value.int .i64))]) (by intro f hf; simp only [List.mem_cons, List.not_mem_nil, or_false] at hf; rcases hf with rfl | rfl <;> simp)
    refine sy_loop (e.ws.length + 1) (by kernel_rfl) ?_
    refine sy_at2 (k' := (.rnd (e.ws.length + 1) (bodyL r1C) :: r1C.k.tail)) (by kernel_rfl) ?_
    exact r1_a w0 e hg hf hv hwb e.ws.length 0 (by omega) _ _ aa w S2
end Go.Proofs.Ytaclhiagfgmgkaa

namespace Go.Proofs.Ytaclhiagfgmgkaa
open Go Go.RowKit SZ
set_option linter.unusedVariables false
set_option linter.unusedSectionVars false
set_option linter.unusedSimpArgs false
set_option maxRecDepth 100000
attribute [local irreducible] post GD Nxt NxtAll
def rfNi (b o : Nat) (l : List Int) : RF := ⟨fun b' => b' = b ∧ l.length ≠ 0, fun w => ∀ j, j < l.length → w.cell? ⟨b, o + j, none⟩ = some (.int .i64 (l.getD j 0)), fun w h b' hb => by
  obtain ⟨rfl, hl⟩ := hb
  exact World.block_lt_of_cell? w _ (h 0 (by omega)), fun w w' h hb j hj => (World.cell?_of_block (a := ⟨b, o + j, none⟩) (hb b ⟨rfl, by omega⟩)).trans (h j hj)⟩
def wsV (W : Ws) : List Value := W.flatMap fun p => [.int .i64 p.1, .int .i64 p.2]
theorem wsV_snoc (W : Ws) (j : Nat) (hj : j < W.length) : wsV (W.take (j + 1)) = wsV (W.take j) ++ [.int .i64 (W.getD j (0, 0)).1, .int .i64 (W.getD j (0, 0)).2] := by
  have e : W.getD j (0, 0) = W[j] := by simp [List.getD, List.getElem?_eq_getElem hj]
  unfold wsV
  rw [List.take_succ_eq_append_getElem hj, List.flatMap_append, e]
  rfl
theorem wsV_at : ∀ (W : Ws) (j : Nat), j < W.length → (wsV W)[j * 2]? = some (.int .i64 (W.getD j (0, 0)).1) ∧ (wsV W)[j * 2 + 1]? = some (.int .i64 (W.getD j (0, 0)).2)
  | [], j, h => by simp at h
  | p :: r, 0, _ => ⟨rfl, rfl⟩
  | p :: r, j + 1, h => by
    have hr := wsV_at r j (by simpa using h)
    have e : wsV (p :: r) = .int .i64 p.1 :: .int .i64 p.2 :: wsV r := rfl
    rw [e, show (j + 1) * 2 = j * 2 + 1 + 1 by omega]
    exact hr
theorem wr_of_owns {w : World} {B : Nat} {v : Value} {W : Ws} (h : w.ownsRow B 48 2 v W.length (wsV W)) : ∃ a c b o, v = .slice a W.length c ∧ (W.length = 0 ∨ a = some ⟨b, o, none⟩) ∧ WrAt w b o W ∧ (W.length = 0 ∨ B ≤ b) := by
  rcases h.2 with ⟨rfl, hz⟩ | ⟨g, cap, cur, rfl, hb, hg, h1, h2, h3, h4⟩
  · exact ⟨none, 0, 0, 0, by rw [hz], Or.inl hz, fun j hj => by omega, Or.inl hz⟩
  · have hc := h.cells (g := g) rfl
    refine ⟨_, cap, g, 0, rfl, Or.inr rfl, fun j hj => ?_, Or.inr hb⟩
    obtain ⟨q1, q2⟩ := wsV_at W j hj
    have c1 := hc _ _ q1
    have c2 := hc _ _ q2
    have ea : ∀ k, (⟨g, 0, none⟩ : Addr).add k = ⟨g, 0 + k, none⟩ := fun k => by unfold Addr.add; split <;> simp_all
    rw [ea] at c1 c2
    exact ⟨c1, c2⟩
def decP (w0 : World) (R : Option (Int × Ws)) (y : Ending) (w' : World) : Prop := Below w0.heap.size w0 w' ∧ match R with
  | none => y = .returned (.tuple #[.agg #[.int .i64 0, .slice none 0 0], .bool false])
  | some (v, ws) => ∃ e : Et, e.ver = v ∧ e.ws = ws ∧ e.ok ∧ y = .returned (.tuple #[e.v, .bool true]) ∧ WrAt w' e.b e.o e.ws ∧ (e.ws.length = 0 ∨ w0.heap.size ≤ e.b)
noncomputable def dw2 : Cfg := ⟨goZ 200 [0, 0, 9, 0] [.code (bodyOf Try.f32)], ⟨0, [], []⟩⟩
noncomputable def dwS (na : Option Addr) (N nc : Nat) (ver : Int) (wv : Value) (j : Nat) : SS := ⟨106, [(4, .p 0 0), (10, .v (.slice na N nc)), (13, .p 1 0), (14, .v (.int .i64 ((1 + 2 * j : Nat) : Int)))], [⟨24, [.int .i64 0, .slice none 0 0]⟩, ⟨24, [.int .i64 ver, wv]⟩]⟩
theorem wrI : (Try.prog.info? 48).map (fun i => (i.zero, i.size, i.bytes)) = some (some (.agg #[.int .i64 0, .int .i64 0]), 2, 16) := by kernel_rfl
theorem pairs_at' : ∀ (r : List Int), (pairsL r).length * 2 + r.length % 2 = r.length ∧ ∀ j, j < (pairsL r).length → (0 :: r).getD (1 + 2 * j) 0 = ((pairsL r).getD j (0, 0)).1 ∧ (0 :: r).getD (1 + 2 * j + 1) 0 = ((pairsL r).getD j (0, 0)).2
  | [] => ⟨rfl, fun j hj => by simp [pairsL] at hj⟩
  | [a] => ⟨rfl, fun j hj => by simp [pairsL] at hj⟩
  | a :: b :: r => by
    obtain ⟨h1, h2⟩ := pairs_at' r
    refine ⟨by simp [pairsL]; omega, fun j hj => ?_⟩
    cases j with
    | zero => exact ⟨rfl, rfl⟩
    | succ j =>
      have := h2 j (by simpa [pairsL] using hj)
      rw [show 1 + 2 * (j + 1) = (1 + 2 * j) + 1 + 1 by omega]
      rw [show (1 + 2 * j) = 2 * j + 1 by omega] at this ⊢
      exact this
theorem cons_at (x y : Int) (r : List Int) (k : Nat) : (x :: r).getD (1 + k) 0 = (y :: r).getD (1 + k) 0 := by rw [Nat.add_comm]; rfl
section
variable (w0 : World) (na : Option Addr) (nc nb no : Nat) (ver : Int) (r : List Int) (hna : na = some ⟨nb, no, none⟩) (hnl : r.length ≤ 20000) (hR : r.length % 2 = 0)
include w0 na nc nb no ver r hna hnl hR
set_option maxHeartbeats 8000000 in
theorem dw_e (m : Nat) (wv : Value) (x0 x1 : Nat) (aa : Act) (w : World) (S : Sy w0 [] [x0, x1] (dwS na (r.length + 1) nc ver wv ((pairsL r).length)) [rfNi nb no (ver :: r), rfOwn w0.heap.size 48 2 wv ((pairsL r).length) (wsV ((pairsL r).take ((pairsL r).length)))] aa w) : post Try.prog (.rnd (m + 1) (bodyL dw2) :: dw2.k.tail) (bodyPost Try.prog Try.f32 (decP w0 (some (ver, pairsL r)))) .normal aa w := by
  have hpl := (pairs_at' r)
  refine sy_run (c := ⟨(.rnd (m + 1) (bodyL dw2) :: dw2.k.tail), dwS na (r.length + 1) nc ver wv ((pairsL r).length)⟩) ⟨0, [19]⟩ 50 S fun bs aa w S => ?_
  refine sy_reg S fun S => ?_
  refine sy_ops 4 S fun bs aa w S => ?_
  refine sy_cast 87 S (congrArg Value.bool (decide_eq_false (by have := hR; omega) : decide (((1 + 2 * (pairsL r).length : Nat) : Int) < ((r.length + 1 : Nat) : Int)) = false)) (by kernel_rfl) fun S => ?_
  have how := S.fact (f := rfOwn w0.heap.size 48 2 wv (pairsL r).length (wsV ((pairsL r).take (pairsL r).length))) (by simp)
  obtain ⟨a, c, rfl⟩ := owns_slice how
  refine sy_run ⟨0, []⟩ 60 S fun bs aa w S => ?_
  have how := S.fact (f := rfOwn w0.heap.size 48 2 (.slice a (pairsL r).length c) (pairsL r).length (wsV ((pairsL r).take (pairsL r).length))) (by simp)
  rw [List.take_length] at how
  obtain ⟨a', c', b, o, he, h1, h2, h3⟩ := wr_of_owns how
  simp only [Value.slice.injEq] at he
  obtain ⟨rfl, _, rfl⟩ := he
  exact sy_ret S (by kernel_rfl) (by kernel_rfl) fun hg => ⟨bel_gr hg, ⟨ver, a, c, b, o, pairsL r⟩, rfl, rfl, h1, rfl, h2, h3⟩
set_option maxHeartbeats 8000000 in
theorem dw_s (m j : Nat) (hj : j < (pairsL r).length) (ih : ∀ (wv : Value) (hne : ∀ g, Value.ownBlock wv = some g → g ≠ nb) (x0 x1 : Nat) (aa : Act) (w : World) (S : Sy w0 [] [x0, x1] (dwS na (r.length + 1) nc ver wv (j + 1)) [rfNi nb no (ver :: r), rfOwn w0.heap.size 48 2 wv (j + 1) (wsV ((pairsL r).take (j + 1)))] aa w), post Try.prog (.rnd (m) (bodyL dw2) :: dw2.k.tail) (bodyPost Try.prog Try.f32 (decP w0 (some (ver, pairsL r)))) .normal aa w) (wv : Value) (hne : ∀ g, Value.ownBlock wv = some g → g ≠ nb) (x0 x1 : Nat) (aa : Act) (w : World) (S : Sy w0 [] [x0, x1] (dwS na (r.length + 1) nc ver wv (j)) [rfNi nb no (ver :: r), rfOwn w0.heap.size 48 2 wv (j) (wsV ((pairsL r).take (j)))] aa w) : post Try.prog (.rnd (m + 1) (bodyL dw2) :: dw2.k.tail) (bodyPost Try.prog Try.f32 (decP w0 (some (ver, pairsL r)))) .normal aa w := by
  obtain ⟨hpl, hpv⟩ := pairs_at' r
  obtain ⟨q1, q2⟩ := hpv j hj
  rw [cons_at 0 ver] at q1
  rw [Nat.add_assoc, cons_at 0 ver, ← Nat.add_assoc] at q2
  obtain ⟨ii, hi1, hi2, hi3, hi4⟩ := parts3 wrI
  obtain rfl := hna
  refine sy_run (c := ⟨(.rnd (m + 1) (bodyL dw2) :: dw2.k.tail), dwS (some ⟨nb, no, none⟩) (r.length + 1) nc ver wv (j)⟩) ⟨0, [19]⟩ 50 S fun bs aa w S => ?_
  refine sy_reg S fun S => ?_
  refine sy_ops 4 S fun bs aa w S => ?_
  refine sy_cast 87 S (congrArg Value.bool (decide_eq_true (by omega) : decide (((1 + 2 * j : Nat) : Int) < ((r.length + 1 : Nat) : Int)) = true)) (by kernel_rfl) fun S => ?_
  refine sy_run ⟨0, []⟩ 60 S fun bs aa w S => ?_
  letI : HF := ⟨[rfNi nb no (ver :: r)]⟩
  refine dr_enter [] (by kernel_rfl) (by kernel_rfl) S (by kernel_rfl) (fun aa w D => ?_) (fun f hf => by have e : f = rfNi nb no (ver :: r) := List.mem_singleton.1 hf; subst e; simp)
  refine dr_tix 4 D (by kernel_rfl) (by kernel_rfl) (by kernel_rfl) (b := nb) (off := no) (len := r.length + 1) (n := 1 + 2 * j) (size := 1) (ix := ((1 + 2 * j : Nat) : Int)) (by kernel_rfl) (rfl) (by omega) fun aa D => ?_
  refine dr_tld 5 D (by kernel_rfl) (by kernel_rfl) (by kernel_rfl) (ty := 3) (ad := ⟨nb, no + (1 + 2 * j) * 1, none⟩) (v := .int .i64 ((pairsL r).getD j (0, 0)).1) (fun W hW => ld_at (by kernel_rfl) (by rw [Nat.mul_one, ← q1]; exact (show (rfNi nb no (ver :: r)).P W from hW (rfNi nb no (ver :: r)) (by show _ ∈ [rfNi nb no (ver :: r)]; simp)) (1 + 2 * j) (by simp; omega))) (by kernel_rfl) fun aa D => ?_
  refine dr_tix 9 D (by kernel_rfl) (by kernel_rfl) (by kernel_rfl) (b := nb) (off := no) (len := r.length + 1) (n := 1 + 2 * j + 1) (size := 1) (ix := (IntKind.i64.wrap (((1 + 2 * j : Nat) : Int) + 1))) (by kernel_rfl) (by rw [IntKind.wrap_i64]; omega) (by omega) fun aa D => ?_
  refine dr_tld 10 D (by kernel_rfl) (by kernel_rfl) (by kernel_rfl) (ty := 3) (ad := ⟨nb, no + (1 + 2 * j + 1) * 1, none⟩) (v := .int .i64 ((pairsL r).getD j (0, 0)).2) (fun W hW => ld_at (by kernel_rfl) (by rw [Nat.mul_one, ← q2]; exact (show (rfNi nb no (ver :: r)).P W from hW (rfNi nb no (ver :: r)) (by show _ ∈ [rfNi nb no (ver :: r)]; simp)) (1 + 2 * j + 1) (by simp; omega))) (by kernel_rfl) fun aa D => ?_
  refine dr_any [1, 12] (by kernel_rfl) (by kernel_rfl) rfl (na2 ?_ ?_)
  · refine nx_op 1 D (by kernel_rfl) (Nat.le_refl _) (by kernel_rfl) (by kernel_rfl) fun bs aa w D hl => ?_
    refine dr_any [12] (by kernel_rfl) (by kernel_rfl) rfl (na1 ?_)
    · refine nx_op 12 D (by kernel_rfl) hl (by kernel_rfl) (by kernel_rfl) fun bs aa w D hl => ?_
      refine dr_any [13] (by kernel_rfl) (by kernel_rfl) rfl (na1 ?_)
      · refine have hap := (D.S.fs (rfOwn w0.heap.size 48 2 wv (j) (wsV ((pairsL r).take (j)))) (by simp)).2; have how := D.S.fact (f := rfOwn w0.heap.size 48 2 wv (j) (wsV ((pairsL r).take (j)))) (by simp); have hrl := (rfNi nb no (ver :: r)).lt _ (D.S.fact (f := rfNi nb no (ver :: r)) (by simp)) nb ⟨rfl, by simp⟩; nx_appQ 13 w0.heap.size [rfNi nb no (ver :: r)] D (by kernel_rfl) (u := .v wv) (y := .s 2 0 1 1) (t := 22) (e := 48) (v := wv) (n := j) (ad := adr _ 2 0) (m := 1) (cp := 1) (size := 2) (bytes := 16) (xs := wsV ((pairsL r).take j)) (news := [.int .i64 ((pairsL r).getD j (0, 0)).1, .int .i64 ((pairsL r).getD j (0, 0)).2]) (by kernel_rfl) Try.underlying22 hi1 hi2 hi3 hi4 rfl (by omega) rfl rfl how D.S.gr.size (own3 (P := Try.prog) (ty := 48) (cs := [.int .i64 ((pairsL r).getD j (0, 0)).1, .int .i64 ((pairsL r).getD j (0, 0)).2]) D.S 2 (by kernel_rfl)) rfl (by intro u hu; simp only [List.mem_cons, List.not_mem_nil, or_false] at hu; rcases hu with rfl | rfl <;> rfl) (by simp only [maxLen]; omega) (by omega) (fun g hg => Or.inr (how.lt g hg).1) (fun f hf => ⟨by simp only [List.mem_singleton] at hf; subst hf; simp, by simp only [List.mem_singleton] at hf; subst hf; exact fun g hg hb => hne g hg hb.1⟩) (fun f hf => by have e : f = rfNi nb no (ver :: r) := List.mem_singleton.1 hf; subst e; simp) (fun jj hjj hb => hap jj hjj hb) fun va vc aa w2 hO hg hnn hlt D => have D := D.addF (rfOwn w0.heap.size 48 2 (.slice va (j + 1) vc) (j + 1) (wsV ((pairsL r).take (j + 1)))) (by rw [wsV_snoc _ j hj]; exact hO) (fun jj hjj hb => (hnn _ hb).elim (fun q => hap jj hjj q) (fun q => by have := hlt jj hjj; omega)); ?_
        refine dr_any [15] (by kernel_rfl) (by kernel_rfl) rfl (na1 ?_)
        · refine nx_op 15 D (by kernel_rfl) hl (by kernel_rfl) (by kernel_rfl) fun bs aa w D hl => ?_
          refine dr_end D (by kernel_rfl) fun S => ?_
          refine sy_run ⟨0, [20]⟩ 60 S fun bs aa w S => ?_
          refine sy_reg S fun S => ?_
          refine sy_ops 2 S fun bs aa w S => ?_
          refine sy_cast 89 S (congrArg (Value.int .i64) (by rw [IntKind.wrap_i64]; omega : IntKind.i64.wrap (((1 + 2 * j : Nat) : Int) + 2) = ((1 + 2 * (j + 1) : Nat) : Int))) (by kernel_rfl) fun S => ?_
          refine sy_run ⟨0, [999]⟩ 50 S fun bs aa w S => ?_
          have hne' : ∀ g, Value.ownBlock (.slice va (j + 1) vc) = some g → g ≠ nb := fun g hg' => (hnn g hg').elim (fun q => hne g q) (fun q e => by omega)
          have S := S.sub (F' := [rfNi nb no (ver :: r), rfOwn w0.heap.size 48 2 (.slice va (j + 1) vc) (j + 1) (wsV ((pairsL r).take (j + 1)))]) (by intro f hf; simp only [List.mem_cons, List.not_mem_nil, or_false] at hf; rcases hf with rfl | rfl <;> simp)
          have S2 := S.to [0, 1] (dwS (some ⟨nb, no, none⟩) (r.length + 1) nc ver (.slice va (j + 1) vc) (j + 1)) (by kernel_rfl) (by kernel_rfl) (by kernel_rfl) (by kernel_rfl) (by kernel_rfl)
          refine sy_at2 (k' := (.rnd (m) (bodyL dw2) :: dw2.k.tail)) (by kernel_rfl) ?_
          exact ih (.slice va (j + 1) vc) hne' _ _ aa w S2
  · refine nx_op 12 D (by kernel_rfl) (Nat.le_refl _) (by kernel_rfl) (by kernel_rfl) fun bs aa w D hl => ?_
    refine dr_any [1] (by kernel_rfl) (by kernel_rfl) rfl (na1 ?_)
    · refine nx_op 1 D (by kernel_rfl) hl (by kernel_rfl) (by kernel_rfl) fun bs aa w D hl => ?_
      refine dr_any [13] (by kernel_rfl) (by kernel_rfl) rfl (na1 ?_)
      · refine have hap := (D.S.fs (rfOwn w0.heap.size 48 2 wv (j) (wsV ((pairsL r).take (j)))) (by simp)).2; have how := D.S.fact (f := rfOwn w0.heap.size 48 2 wv (j) (wsV ((pairsL r).take (j)))) (by simp); have hrl := (rfNi nb no (ver :: r)).lt _ (D.S.fact (f := rfNi nb no (ver :: r)) (by simp)) nb ⟨rfl, by simp⟩; nx_appQ 13 w0.heap.size [rfNi nb no (ver :: r)] D (by kernel_rfl) (u := .v wv) (y := .s 2 0 1 1) (t := 22) (e := 48) (v := wv) (n := j) (ad := adr _ 2 0) (m := 1) (cp := 1) (size := 2) (bytes := 16) (xs := wsV ((pairsL r).take j)) (news := [.int .i64 ((pairsL r).getD j (0, 0)).1, .int .i64 ((pairsL r).getD j (0, 0)).2]) (by kernel_rfl) Try.underlying22 hi1 hi2 hi3 hi4 rfl (by omega) rfl rfl how D.S.gr.size (own3 (P := Try.prog) (ty := 48) (cs := [.int .i64 ((pairsL r).getD j (0, 0)).1, .int .i64 ((pairsL r).getD j (0, 0)).2]) D.S 2 (by kernel_rfl)) rfl (by intro u hu; simp only [List.mem_cons, List.not_mem_nil, or_false] at hu; rcases hu with rfl | rfl <;> rfl) (by simp only [maxLen]; omega) (by omega) (fun g hg => Or.inr (how.lt g hg).1) (fun f hf => ⟨by simp only [List.mem_singleton] at hf; subst hf; simp, by simp only [List.mem_singleton] at hf; subst hf; exact fun g hg hb => hne g hg hb.1⟩) (fun f hf => by have e : f = rfNi nb no (ver :: r) := List.mem_singleton.1 hf; subst e; simp) (fun jj hjj hb => hap jj hjj hb) fun va vc aa w2 hO hg hnn hlt D => have D := D.addF (rfOwn w0.heap.size 48 2 (.slice va (j + 1) vc) (j + 1) (wsV ((pairsL r).take (j + 1)))) (by rw [wsV_snoc _ j hj]; exact hO) (fun jj hjj hb => (hnn _ hb).elim (fun q => hap jj hjj q) (fun q => by have := hlt jj hjj; omega)); ?_
        refine dr_any [15] (by kernel_rfl) (by kernel_rfl) rfl (na1 ?_)
        · refine nx_op 15 D (by kernel_rfl) hl (by kernel_rfl) (by kernel_rfl) fun bs aa w D hl => ?_
          refine dr_end D (by kernel_rfl) fun S => ?_
          refine sy_run ⟨0, [20]⟩ 60 S fun bs aa w S => ?_
          refine sy_reg S fun S => ?_
          refine sy_ops 2 S fun bs aa w S => ?_
          refine sy_cast 89 S (congrArg (Value.int .i64) (by rw [IntKind.wrap_i64]; omega : IntKind.i64.wrap (((1 + 2 * j : Nat) : Int) + 2) = ((1 + 2 * (j + 1) : Nat) : Int))) (by kernel_rfl) fun S => ?_
          refine sy_run ⟨0, [999]⟩ 50 S fun bs aa w S => ?_
          have hne' : ∀ g, Value.ownBlock (.slice va (j + 1) vc) = some g → g ≠ nb := fun g hg' => (hnn g hg').elim (fun q => hne g q) (fun q e => by omega)
          have S := S.sub (F' := [rfNi nb no (ver :: r), rfOwn w0.heap.size 48 2 (.slice va (j + 1) vc) (j + 1) (wsV ((pairsL r).take (j + 1)))]) (by intro f hf; simp only [List.mem_cons, List.not_mem_nil, or_false] at hf; rcases hf with rfl | rfl <;> simp)
          have S2 := S.to [0, 1] (dwS (some ⟨nb, no, none⟩) (r.length + 1) nc ver (.slice va (j + 1) vc) (j + 1)) (by kernel_rfl) (by kernel_rfl) (by kernel_rfl) (by kernel_rfl) (by kernel_rfl)
          refine sy_at2 (k' := (.rnd (m) (bodyL dw2) :: dw2.k.tail)) (by kernel_rfl) ?_
          exact ih (.slice va (j + 1) vc) hne' _ _ aa w S2
theorem dw_a : ∀ (m j : Nat), j + m = (pairsL r).length → ∀ (wv : Value) (hne : ∀ g, Value.ownBlock wv = some g → g ≠ nb) (x0 x1 : Nat) (aa : Act) (w : World) (S : Sy w0 [] [x0, x1] (dwS na (r.length + 1) nc ver wv (j)) [rfNi nb no (ver :: r), rfOwn w0.heap.size 48 2 wv (j) (wsV ((pairsL r).take (j)))] aa w), post Try.prog (.rnd (m + 1) (bodyL dw2) :: dw2.k.tail) (bodyPost Try.prog Try.f32 (decP w0 (some (ver, pairsL r)))) .normal aa w := by
  intro m
  induction m with
  | zero => intro j hj wv hne x0 x1 aa w S; obtain rfl : j = (pairsL r).length := by omega
            exact dw_e w0  na nc nb no ver r hna hnl hR 0 wv x0 x1 aa w S
  | succ m ih => intro j hj wv hne x0 x1 aa w S; exact dw_s w0  na nc nb no ver r hna hnl hR (m + 1) j (by omega) (fun wv hne => ih (j + 1) (by omega) wv hne) wv hne x0 x1 aa w S
end
end Go.Proofs.Ytaclhiagfgmgkaa

namespace Go.Proofs.Ytaclhiagfgmgkaa
open Go Go.RowKit SZ
set_option linter.unusedVariables false
set_option linter.unusedSectionVars false
set_option linter.unusedSimpArgs false
set_option maxRecDepth 100000
attribute [local irreducible] post GD Nxt NxtAll
theorem ex_apS {s : SS} {bs : List Nat} {w : World} {x y : Operand} {v : Value} {p : ByteArray} {B0 n : Nat} {xs : List Value} (hx : s.val x = some (.v v)) (hy : s.val y = some (.v (.string p))) (hown : w.ownsRow B0 5 1 v n xs) (hp : 0 < p.size) (hbytes : n + p.size ≤ 140737488355328) (hB : B0 ≤ w.heap.size) :
    ∀ (o : Oper) (ρ : Operand → Value), o.op = .call { callee := .builtin .append, args := #[x, y], argTypes := #[43, 9] } → o.type = 43 → (∀ x y, s.val x = some y → ρ x = den bs y) → ∃ v' w', (execOp ρ o).run Try.prog w = .ok (.value v') w' ∧ (w'.ownsRow B0 5 1 v' (n + p.size) (xs ++ Lib.strCells p) ∧ ∀ g, v'.ownBlock = some g → v.ownBlock = some g ∨ w.heap.size ≤ g) ∧ w.grownBy w' v.ownBlock := by
  intro o ρ h1 h2 h3
  have e1 : ρ x = v := h3 x _ hx
  have e2 : ρ y = .string p := h3 y _ hy
  obtain ⟨i, hi, hz, hs, hb⟩ := parts3 info_u8
  obtain ⟨v', w', hr, q1, q2, q3⟩ := app_st (P := Try.prog) (ty := o.type) Try.underlying43 Try.underlying9 hi hz hs hb hown p hp hbytes hB
  refine ⟨v', w', ?_, ⟨q1, q3⟩, q2⟩
  unfold execOp
  simp only [h1, e1, e2, resolve, invoke, builtin, List.map_toArray, List.map_cons, List.map_nil, Sem.run_bind, Sem.run_pure, Result.andThen_ok, hr]
theorem ex_eqS0 {s : SS} {bs : List Nat} {x y : Operand} {t t' ty : TypeId} {p : ByteArray} {b : Bool} (hx : s.val x = some (.v (.string p))) (hy : s.val y = some (.v (.string ⟨#[]⟩))) (hb : decide (p.size = 0) = b) :
    ∀ (o : Oper) (ρ : Operand → Value) (W : World), o.op = .binOp .eql t x y t' → o.type = ty → (∀ x y, s.val x = some y → ρ x = den bs y) → (execOp ρ o).run Try.prog W = .ok (.value (.bool b)) W := by
  intro o ρ W h1 h2 h3
  have e1 : ρ x = .string p := h3 x _ hx
  have e2 : ρ y = .string ⟨#[]⟩ := h3 y _ hy
  have e3 : (p.toList == (⟨#[]⟩ : ByteArray).toList) = decide (p.size = 0) := by
    rw [ByteArray.toList_eq, ByteArray.toList_eq]
    have hsz : p.size = p.data.toList.length := (Array.length_toList).symm
    cases hq : p.data.toList with
    | nil => rw [hsz, hq]; rfl
    | cons a r => rw [hsz, hq]; rfl
  subst hb
  unfold execOp
  simp only [h1, e1, e2, eqGuard, binOp_string_eql, e3, Sem.run_bind, Sem.run_pure, Result.andThen_ok]
  rfl
theorem slS_m (s : ByteArray) (h : s.size = 32) (W : World) : (Instr.sliceAt 9 (.string s) (some (.int .i64 1)) (some (.int .i64 28)) none).run Try.prog W = .ok (.string (s.extract 1 28)) W := by
  have hu : Try.prog.underlying 9 = some .string := Try.underlying9
  rw [run_sliceAt_string W _ _ _ _ _ hu, run_slice_string W 9 s .i64 .i64 1 28 hu (by omega) (by omega) (by omega)]
  rfl
theorem sct_ext (s : ByteArray) (h : s.size = 32) : bytesOf (s.extract 1 28) = sct s := by
  unfold sct bytesOf
  rw [ByteArray.data_extract, Array.toList_extract, List.extract_eq_take_drop]
  simp [List.map_take, List.map_drop]
theorem ext_size (s : ByteArray) (h : s.size = 32) : (s.extract 1 28).size = 27 := by rw [ByteArray.size_extract]; omega
def decSub (sub : (List ByteArray)) : Option (Int × Ws) := if sub.all (fun s => decide (s.size = 32)) then (match decNums (sub.flatMap sct) with
    | some (ns, _) => ofNums ns
    | none => none) else none
theorem ofNums_even {ns : List Int} (h : ns.length % 2 = 0) : ofNums ns = none := by
  cases ns with
  | nil => rfl
  | cons v r => simp only [List.length_cons] at h; show (if r.length % 2 = 0 then _ else _) = _; rw [if_neg (by omega)]
theorem ofNums_odd {ns : List Int} (h : ns.length % 2 = 1) : ∃ v r, ns = v :: r ∧ r.length % 2 = 0 ∧ ofNums ns = some (v, pairsL r) := by
  cases ns with
  | nil => simp at h
  | cons v r => simp only [List.length_cons] at h; exact ⟨v, r, rfl, by omega, by show (if r.length % 2 = 0 then _ else _) = _; rw [if_pos (by omega)]⟩
theorem decSub_bad {sub : (List ByteArray)} {j : Nat} (hj : j < sub.length) (h : ¬(sub.getD j ByteArray.empty).size = 32) : decSub sub = none := by
  unfold decSub
  rw [all_not _ ByteArray.empty sub j hj (decide_eq_false h)]
  rfl
theorem decSub_good {sub : (List ByteArray)} (h : ∀ i, i < sub.length → (sub.getD i ByteArray.empty).size = 32) : decSub sub = match decNums (sub.flatMap sct) with
    | some (ns, _) => ofNums ns
    | none => none := by
  unfold decSub
  rw [all_upto _ ByteArray.empty sub fun i hi => decide_eq_true (h i hi)]
  rfl
theorem flat_len (sub : (List ByteArray)) (h : ∀ i, i < sub.length → (sub.getD i ByteArray.empty).size = 32) : ∀ j, j ≤ sub.length → ((sub.take j).flatMap sct).length = 27 * j
  | 0, _ => by simp
  | j + 1, hj => by
    rw [List.take_succ_eq_append_getElem (by omega), List.flatMap_append, List.length_append, flat_len sub h j (by omega)]
    have h1 := h j (by omega)
    rw [List.getD, List.getElem?_eq_getElem (by omega), Option.getD_some] at h1
    have h2 := bytesOf_length sub[j]
    simp only [List.flatMap_cons, List.flatMap_nil, List.append_nil]
    unfold sct
    rw [List.length_take, List.length_drop]
    omega
theorem flat_snoc (sub : (List ByteArray)) (j : Nat) (hj : j < sub.length) : (sub.take (j + 1)).flatMap sct = (sub.take j).flatMap sct ++ sct (sub.getD j ByteArray.empty) := by
  rw [List.take_succ_eq_append_getElem hj, List.flatMap_append]
  simp [List.getD, List.getElem?_eq_getElem hj]
theorem tmod2 (n : Nat) : Int.tmod (n : Int) 2 = ((n % 2 : Nat) : Int) := (Int.ofNat_tmod _ _).symm
theorem Lib_sc (s : ByteArray) : Lib.strCells s = (bytesOf s).map bV := strCells_eq s
theorem decNums_len {l : List Nat} {ns : List Int} {u : Nat} (hl : ∀ b ∈ l, b < 256) (h : decNums l = some (ns, u)) : ns.length ≤ l.length := by
  unfold decNums at h
  split at h
  · cases h
  · rename_i c k hd
    split at h
    · cases h
    · split at h
      · cases h
      · rename_i ns' u' hm
        obtain ⟨rfl, rfl⟩ : ns' = ns ∧ k + u' = u := by simpa using h
        have := decMany_used (fun b hb => hl b (List.mem_of_mem_drop hb)) hm
        rw [List.length_drop] at this
        omega
noncomputable def dcC : Cfg := ⟨goZ 200 [0, 0] [.code (bodyOf Try.f32)], ⟨0, [], []⟩⟩
noncomputable def dcS (n1 : Nat) (a : Option Addr) (cc : Nat) (pv : Value) (j : Nat) : SS := ⟨106, [(4, .p 0 0), (7, .v pv), (50, .v (.slice a n1 cc)), (51, .v (.int .i64 (n1 : Int))), (52, .v (.int .i64 (j : Int)))], [⟨24, [.int .i64 0, .slice none 0 0]⟩]⟩
section
variable (w0 : World) (sub : (List ByteArray)) (n1 : Nat) (hn1 : sub.length = n1) (h256 : n1 ≤ 256) (a : Option Addr) (cc sb sq : Nat) (ha : n1 = 0 ∨ a = some ⟨sb, sq, none⟩)
include w0 sub n1 hn1 h256 a cc sb sq ha
set_option maxHeartbeats 8000000 in
theorem dc_b (m j : Nat) (hj : j < n1) (hp : ¬(sub.getD j ByteArray.empty).size = 32) (pv : Value) (x0 : Nat) (aa : Act) (w : World) (S : Sy w0 [] [x0] (dcS n1 a cc pv (j)) [rfSt sb sq sub, rfOwn w0.heap.size 5 1 pv (27 * (j)) (((sub.take (j)).flatMap sct).map bV)] aa w) : post Try.prog (.rnd (m + 1) (bodyL dcC) :: dcC.k.tail) (bodyPost Try.prog Try.f32 (decP w0 (decSub sub))) .normal aa w := by
  have eR := decSub_bad (show j < sub.length by omega) hp
  refine sy_run (c := ⟨(.rnd (m + 1) (bodyL dcC) :: dcC.k.tail), dcS n1 a cc pv j⟩) ⟨0, [8]⟩ 50 S fun bs aa w S => ?_
  refine sy_reg S fun S => ?_
  refine sy_ops 1 S fun bs aa w S => ?_
  refine sy_cast 53 S (congrArg Value.bool (decide_eq_true (by omega) : decide ((j : Int) < (n1 : Int)) = true)) (by kernel_rfl) fun S => ?_
  refine sy_run ⟨0, [9]⟩ 60 S fun bs aa w S => ?_
  refine sy_reg S fun S => ?_
  refine sy_ix (b := sb) (off := sq) (len := n1) (n := j) (size := 1) (i := (j : Int)) S (by rw [← ha.resolve_left (by omega)]; kernel_rfl) rfl hj fun aa S => ?_
  refine sy_ldo S (ld_at (ty := 9) (b := sb) (off := sq + j * 1) (by kernel_rfl) (by rw [Nat.mul_one]; exact S.fact (f := rfSt sb sq sub) (by simp) j (by omega))) (by kernel_rfl) fun aa S => ?_
  refine sy_run ⟨0, [10]⟩ 60 S fun bs aa w S => ?_
  refine sy_reg S fun S => ?_
  refine sy_ops 3 S fun bs aa w S => ?_
  refine sy_cast 58 S (congrArg Value.bool (by rw [decide_eq_false (by omega)]; rfl : (!decide (((sub.getD j ByteArray.empty).size : Int) = 32)) = true)) (by kernel_rfl) fun S => ?_
  refine sy_run ⟨0, []⟩ 60 S fun bs aa w S => ?_
  rw [eR]
  exact sy_ret S (by kernel_rfl) (by kernel_rfl) fun hg => ⟨bel_gr hg, rfl⟩
set_option maxHeartbeats 8000000 in
theorem dc_s (m j : Nat) (hj : j < n1) (hp : (sub.getD j ByteArray.empty).size = 32) (ih : (∀ i, i < j + 1 → (sub.getD i ByteArray.empty).size = 32) → ∀ (pv : Value) (hne : ∀ g, Value.ownBlock pv = some g → g ≠ sb) (x0 : Nat) (aa : Act) (w : World) (S : Sy w0 [] [x0] (dcS n1 a cc pv (j + 1)) [rfSt sb sq sub, rfOwn w0.heap.size 5 1 pv (27 * (j + 1)) (((sub.take (j + 1)).flatMap sct).map bV)] aa w), post Try.prog (.rnd (m) (bodyL dcC) :: dcC.k.tail) (bodyPost Try.prog Try.f32 (decP w0 (decSub sub))) .normal aa w) (hv : ∀ i, i < j → (sub.getD i ByteArray.empty).size = 32) (pv : Value) (hne : ∀ g, Value.ownBlock pv = some g → g ≠ sb) (x0 : Nat) (aa : Act) (w : World) (S : Sy w0 [] [x0] (dcS n1 a cc pv (j)) [rfSt sb sq sub, rfOwn w0.heap.size 5 1 pv (27 * (j)) (((sub.take (j)).flatMap sct).map bV)] aa w) : post Try.prog (.rnd (m + 1) (bodyL dcC) :: dcC.k.tail) (bodyPost Try.prog Try.f32 (decP w0 (decSub sub))) .normal aa w := by
  refine sy_run (c := ⟨(.rnd (m + 1) (bodyL dcC) :: dcC.k.tail), dcS n1 a cc pv j⟩) ⟨0, [8]⟩ 50 S fun bs aa w S => ?_
  refine sy_reg S fun S => ?_
  refine sy_ops 1 S fun bs aa w S => ?_
  refine sy_cast 53 S (congrArg Value.bool (decide_eq_true (by omega) : decide ((j : Int) < (n1 : Int)) = true)) (by kernel_rfl) fun S => ?_
  refine sy_run ⟨0, [9]⟩ 60 S fun bs aa w S => ?_
  refine sy_reg S fun S => ?_
  refine sy_ix (b := sb) (off := sq) (len := n1) (n := j) (size := 1) (i := (j : Int)) S (by rw [← ha.resolve_left (by omega)]; kernel_rfl) rfl hj fun aa S => ?_
  refine sy_ldo S (ld_at (ty := 9) (b := sb) (off := sq + j * 1) (by kernel_rfl) (by rw [Nat.mul_one]; exact S.fact (f := rfSt sb sq sub) (by simp) j (by omega))) (by kernel_rfl) fun aa S => ?_
  refine sy_run ⟨0, [10]⟩ 60 S fun bs aa w S => ?_
  refine sy_reg S fun S => ?_
  refine sy_ops 3 S fun bs aa w S => ?_
  refine sy_cast 58 S (congrArg Value.bool (by rw [decide_eq_true (by omega)]; rfl : (!decide (((sub.getD j ByteArray.empty).size : Int) = 32)) = false)) (by kernel_rfl) fun S => ?_
  refine sy_run ⟨0, [12]⟩ 60 S fun bs aa w S => ?_
  refine sy_reg S fun S => ?_
  refine sy_ops 2 S fun bs aa w S => ?_
  refine sy_ex (op := .slice 9 (.tmp 61) (some (.const (.int .i64 1))) (some (.const (.int .i64 28))) none) (ty := 9) (v := .string ((sub.getD j ByteArray.empty).extract 1 28)) S (by kernel_rfl) (ex_slS (p := (sub.getD j ByteArray.empty)) (l2 := some (.v (.int .i64 1))) (h2 := some (.v (.int .i64 28))) Try.underlying9 (by kernel_rfl) (by kernel_rfl) (by kernel_rfl) (fun W => slS_m _ hp W)) fun aa S => ?_
  refine sy_nm S fun bs S => ?_
  have how := S.fact (f := rfOwn w0.heap.size 5 1 pv (27 * (j)) (((sub.take (j)).flatMap sct).map bV)) (by simp)
  have hap := (S.fs (rfOwn w0.heap.size 5 1 pv (27 * (j)) (((sub.take (j)).flatMap sct).map bV)) (by simp)).2
  have hex := ext_size (sub.getD j ByteArray.empty) hp
  have hblk : ∀ j, j < bs.length → bs.getD j 0 < w.heap.size := fun j hj => S.lt hj
  have hsb := (rfSt sb sq sub).lt _ (S.fact (f := rfSt sb sq sub) (by simp)) sb ⟨rfl, by omega⟩
  refine sy_exG pv [rfSt sb sq sub] S (op := .call { callee := .builtin .append, args := #[.tmp 60, .tmp 62], argTypes := #[43, 9] }) (ty := 43) (by kernel_rfl) (ex_apS (v := pv) (p := (sub.getD j ByteArray.empty).extract 1 28) (by kernel_rfl) (by kernel_rfl) how (by omega) (by omega) S.gr.size) (fun g hg => Or.inr (how.lt g hg).1) (fun f hf => by
      simp only [List.mem_singleton] at hf
      subst hf
      exact ⟨by simp, fun g hg hb => hne g hg hb.1⟩) (fun i hi h => hap i hi h) fun v' aa w2 hC S => ?_
  have hO := hC.1
  rw [hex, Lib_sc, sct_ext _ hp, ← List.map_append, ← flat_snoc sub j (by omega), show 27 * j + 27 = 27 * (j + 1) by omega] at hO
  have S := S.add (rfOwn w0.heap.size 5 1 v' (27 * (j + 1)) (((sub.take (j + 1)).flatMap sct).map bV)) hO (fun i hi hb => (hC.2 _ hb).elim (fun q => hap i hi q) (fun q => by have := hblk i hi; omega))
  have hne' : ∀ g, v'.ownBlock = some g → g ≠ sb := fun g hg => (hC.2 g hg).elim (fun q => hne g q) (fun q => by omega)
  refine sy_run ⟨0, [13]⟩ 60 S fun bs aa w S => ?_
  refine sy_reg S fun S => ?_
  refine sy_ops 1 S fun bs aa w S => ?_
  refine sy_cast 64 S (congrArg (Value.int .i64) (by rw [IntKind.wrap_i64]; omega : IntKind.i64.wrap ((j : Int) + 1) = ((j + 1 : Nat) : Int))) (by kernel_rfl) fun S => ?_
  refine sy_run ⟨0, [999]⟩ 50 S fun bs aa w S => ?_
  have S := S.sub (F' := [rfSt sb sq sub, rfOwn w0.heap.size 5 1 v' (27 * (j + 1)) (((sub.take (j + 1)).flatMap sct).map bV)]) (by intro f hf; simp only [List.mem_cons, List.not_mem_nil, or_false] at hf; rcases hf with rfl | rfl <;> simp)
  have S2 := S.to [0] (dcS n1 a cc v' (j + 1)) (by kernel_rfl) (by kernel_rfl) (by kernel_rfl) (by kernel_rfl) (by kernel_rfl)
  refine sy_at2 (k' := (.rnd (m) (bodyL dcC) :: dcC.k.tail)) (by kernel_rfl) ?_
  exact ih (upto_succ hv hp) v' hne' _ aa w S2
set_option maxHeartbeats 8000000 in
theorem dc_e (m : Nat) (hv : ∀ i, i < n1 → (sub.getD i ByteArray.empty).size = 32) (pv : Value) (x0 : Nat) (aa : Act) (w : World) (S : Sy w0 [] [x0] (dcS n1 a cc pv (n1)) [rfSt sb sq sub, rfOwn w0.heap.size 5 1 pv (27 * (n1)) (((sub.take (n1)).flatMap sct).map bV)] aa w) : post Try.prog (.rnd (m + 1) (bodyL dcC) :: dcC.k.tail) (bodyPost Try.prog Try.f32 (decP w0 (decSub sub))) .normal aa w := by
  subst hn1
  have eR := decSub_good hv
  refine sy_run (c := ⟨(.rnd (m + 1) (bodyL dcC) :: dcC.k.tail), dcS sub.length a cc pv sub.length⟩) ⟨0, [8]⟩ 50 S fun bs aa w S => ?_
  refine sy_reg S fun S => ?_
  refine sy_ops 1 S fun bs aa w S => ?_
  refine sy_cast 53 S (congrArg Value.bool (decide_eq_false (by omega) : decide ((sub.length : Int) < (sub.length : Int)) = false)) (by kernel_rfl) fun S => ?_
  refine sy_run ⟨0, [14]⟩ 60 S fun bs aa w S => ?_
  refine sy_reg S fun S => ?_
  refine sy_ops 1 S fun bs aa w S => ?_
  have how := S.fact (f := rfOwn w0.heap.size 5 1 pv (27 * (sub.length)) (((sub.take (sub.length)).flatMap sct).map bV)) (by simp)
  rw [List.take_length] at how
  have hfl := flat_len sub hv sub.length (Nat.le_refl _)
  rw [List.take_length] at hfl
  rw [← hfl] at how
  have hHB := hasB_of_owns (show OwnB w w0.heap.size pv (sub.flatMap sct) from how)
  have hg := gnums_own pv (sub.flatMap sct) (flat_byte _) (by omega) w hHB
  refine sy_nm S fun bs S => ?_
  have hblk : ∀ j, j < bs.length → bs.getD j 0 < w.heap.size := fun j hj => S.lt hj
  cases hd : decNums (sub.flatMap sct) with
  | none =>
    rw [hd] at eR
    refine sy_call1 S (hg.mono fun y w' h => ⟨by have h2 := h.2; rw [hd] at h2; exact h2, h.1⟩) (by kernel_rfl) fun aa w hb S => ?_
    refine sy_run ⟨0, []⟩ 60 S fun bs aa w S => ?_
    rw [eR]
    exact sy_ret S (by kernel_rfl) (by kernel_rfl) fun hg => ⟨bel_gr hg, rfl⟩
  | some x =>
    obtain ⟨ns, u⟩ := x
    rw [hd] at eR
    have hnl := decNums_len (flat_byte _) hd
    refine sy_call S (X := Value) (val := fun v => .tuple #[v, .int .i64 (u : Int), .int .i64 0]) (C := fun v w' => HasInts w' v ns ∧ ∀ g, v.ownBlock = some g → w.heap.size ≤ g) (hg.mono fun y w' h => by
      have h2 := h.2
      rw [hd] at h2
      obtain ⟨v, q1, q2, q3⟩ := h2
      exact ⟨v, q1, ⟨q2, q3⟩, h.1⟩) (by kernel_rfl) fun v aa w1 hC hb S => ?_
    obtain ⟨⟨na, nc, rfl, hn63, hcell⟩, hfr⟩ := hC
    obtain ⟨nb, no, hna, hcell, hnb⟩ : ∃ nb no, (ns.length = 0 ∨ na = some ⟨nb, no, none⟩) ∧ (∀ j, j < ns.length → w1.cell? ⟨nb, no + j, none⟩ = some (.int .i64 (ns.getD j 0))) ∧ (ns.length = 0 ∨ w.heap.size ≤ nb) := by
      rcases hcell with h | ⟨nb, no, rfl, h⟩
      · exact ⟨0, 0, Or.inl h, fun j hj => by omega, Or.inl h⟩
      · exact ⟨nb, no, Or.inr rfl, h, Or.inr (hfr nb rfl)⟩
    have S := S.add (rfNi nb no ns) hcell (fun i hi hb => by
      obtain ⟨h1, h2⟩ := hb
      have q1 := hblk i hi
      have q2 := hnb.resolve_left h2
      omega)
    refine sy_run ⟨0, [15]⟩ 60 S fun bs aa w S => ?_
    refine sy_reg S fun S => ?_
    refine sy_ops 7 S fun bs aa w S => ?_
    by_cases hev : ns.length % 2 = 0
    · have eR := eR.trans (ofNums_even hev)
      refine sy_cast 77 S (congrArg Value.bool (decide_eq_true (by rw [tmod2]; omega) : decide (Int.tmod (ns.length : Int) 2 = 0) = true)) (by kernel_rfl) fun S => ?_
      refine sy_run ⟨0, []⟩ 60 S fun bs aa w S => ?_
      rw [eR]
      exact sy_ret S (by kernel_rfl) (by kernel_rfl) fun hg => ⟨bel_gr hg, rfl⟩
    · obtain ⟨ver, r, rfl, hr, e2⟩ := ofNums_odd (show ns.length % 2 = 1 by omega)
      have eR := eR.trans e2
      refine sy_cast 77 S (congrArg Value.bool (decide_eq_false (by rw [tmod2]; omega) : decide (Int.tmod (((ver :: r).length : Nat) : Int) 2 = 0) = false)) (by kernel_rfl) fun S => ?_
      obtain rfl := hna.resolve_left (by simp)
      refine sy_run ⟨0, [17]⟩ 60 S fun bs aa w S => ?_
      refine sy_reg S fun S => ?_
      refine sy_ops 1 S fun bs aa w S => ?_
      refine sy_ix (b := nb) (off := no) (len := (ver :: r).length) (n := 0) (size := 1) (i := 0) S (by kernel_rfl) rfl (by simp) fun aa S => ?_
      refine sy_ldo S (ld_at (ty := 3) (b := nb) (off := no + 0 * 1) (by kernel_rfl) ((S.fact (f := rfNi nb no (ver :: r)) (by simp)) 0 (by simp))) (by kernel_rfl) fun aa S => ?_
      refine sy_run ⟨0, []⟩ 60 S fun bs aa w S => ?_
      have S := S.add (rfOwn w0.heap.size 48 2 (.slice none 0 0) 0 (wsV ((pairsL r).take 0))) (World.ownsRow_nil _ _ _ _) (fun i hi h => by cases h)
      have S := S.sub (F' := [rfNi nb no (ver :: r), rfOwn w0.heap.size 48 2 (.slice none 0 0) 0 (wsV ((pairsL r).take 0))]) (by intro f hf; simp only [List.mem_cons, List.not_mem_nil, or_false] at hf; rcases hf with rfl | rfl <;> simp)
      have S2 := S.to [0, 1] (dwS (some ⟨nb, no, none⟩) (r.length + 1) nc ver (.slice none 0 0) 0) (by kernel_rfl) (by kernel_rfl) (by kernel_rfl) (by kernel_rfl) (by kernel_rfl)
      refine sy_loop ((pairsL r).length + 1) (by kernel_rfl) ?_
      refine sy_at2 (k' := (.rnd ((pairsL r).length + 1) (bodyL dw2) :: dw2.k.tail)) (by kernel_rfl) ?_
      rw [eR]
      exact dw_a w0 (some ⟨nb, no, none⟩) nc nb no ver r rfl (by have q : (ver :: r).length ≤ _ := hnl; simp only [List.length_cons] at q; omega) hr (pairsL r).length 0 (by omega) (.slice none 0 0) (fun g hg => by cases hg) _ _ aa w S2
theorem dc_a : ∀ (r j : Nat), j + r = n1 → (∀ i, i < j → (sub.getD i ByteArray.empty).size = 32) → ∀ (pv : Value) (hne : ∀ g, Value.ownBlock pv = some g → g ≠ sb) (x0 : Nat) (aa : Act) (w : World) (S : Sy w0 [] [x0] (dcS n1 a cc pv (j)) [rfSt sb sq sub, rfOwn w0.heap.size 5 1 pv (27 * (j)) (((sub.take (j)).flatMap sct).map bV)] aa w), post Try.prog (.rnd (r + 1) (bodyL dcC) :: dcC.k.tail) (bodyPost Try.prog Try.f32 (decP w0 (decSub sub))) .normal aa w := by
  intro r
  induction r with
  | zero => intro j hj hv pv hne x0 aa w S; obtain rfl : n1 = j := by omega
            exact dc_e w0 sub n1 hn1 h256 a cc sb sq ha 0 hv pv x0 aa w S
  | succ r ih =>
    intro j hj hv pv hne x0 aa w S
    by_cases hp : (sub.getD j ByteArray.empty).size = 32
    · exact dc_s w0 sub n1 hn1 h256 a cc sb sq ha (r + 1) j (by omega) hp (fun h => ih (j + 1) (by omega) h) hv pv hne x0 aa w S
    · exact dc_b w0 sub n1 hn1 h256 a cc sb sq ha (r + 1) j (by omega) hp pv x0 aa w S
end
def decA (l : (List ByteArray)) (k : Int) : Option (Int × Ws) := if k < 0 then none else decS l k.toNat
theorem decS_sub {l : (List ByteArray)} {k : Nat} (h1 : k < l.length) (h2 : (l.getD k ByteArray.empty).size ≠ 0) (h3 : firstB (l.getD k ByteArray.empty) < l.length - k) : decS l k = decSub ((l.drop k).take (firstB (l.getD k ByteArray.empty) + 1)) := by
  unfold decS decSub
  rw [if_neg (by omega), if_neg h2, if_neg (by omega)]
  cases decNums (((l.drop k).take (firstB (l.getD k ByteArray.empty) + 1)).flatMap sct) <;> rfl
theorem sub_str {w : World} {b o k n : Nat} {l : (List ByteArray)} (h : StrAt w b o l) : StrAt w b (o + k) ((l.drop k).take n) := fun j hj => by
  rw [List.length_take, List.length_drop] at hj
  have := h (k + j) (by omega)
  rw [Nat.add_assoc, this]
  simp [List.getD, List.getElem?_take, List.getElem?_drop, show j < n by omega]
theorem sl_mid (t : TypeId) (e : TypeId) (ht : Try.prog.underlying t = some (.slice e)) (he : (Try.prog.info? e).map (·.size) = some 1) (b o n c l h : Nat) (h1 : l ≤ h) (h2 : h ≤ c) (h3 : l < c) (W : World) : (Instr.sliceAt t (.slice (some ⟨b, o, none⟩) n c) (some (.int .i64 (l : Int))) (some (.int .i64 (h : Int))) none).run Try.prog W = .ok (.slice (some ⟨b, o + l, none⟩) (h - l) (c - l)) W := by
  have hs := sl_any t e ht he (some ⟨b, o, none⟩) n c l h h1 h2 (some (.int .i64 (l : Int))) (some (.int .i64 (h : Int))) (fun W => by simp [Instr.sliceBounds, run_sliceBound, h1, h2]) W
  rw [if_neg (by omega)] at hs
  rw [hs]
  have ea : (⟨b, o, none⟩ : Addr).add l = ⟨b, o + l, none⟩ := by unfold Addr.add; split <;> simp_all
  rw [Option.map_some, ea]
set_option maxHeartbeats 8000000 in
theorem decode_t (w0 : World) (l : (List ByteArray)) (sa : Option Addr) (sc sb so : Nat) (hs : l.length = 0 ∨ sa = some ⟨sb, so, none⟩) (hsc : l.length ≤ sc) (hl : l.length ≤ 1000) (at_ : Int) (hA : StrAt w0 sb so l) : Calls Try.prog 32 #[.slice sa l.length sc, .int .i64 at_] w0 (decP w0 (decA l at_)) := by
  have hwb : l.length = 0 ∨ sb < w0.heap.size := by
    by_cases h : l.length = 0
    · exact Or.inl h
    · exact Or.inr ((rfSt sb so l).lt w0 hA sb ⟨rfl, h⟩)
  refine sy_enterF [] [rfSt sb so l] (by intro f hf; simp only [List.mem_singleton] at hf; subst hf; exact hA) Try.func32 rfl rfl fun aa S => ?_
  refine sy_run ⟨0, [1]⟩ 60 S fun bs aa w S => ?_
  refine sy_reg S fun S => ?_
  refine sy_ops 2 S fun bs aa w S => ?_
  by_cases h0 : at_ < 0
  case pos =>
    refine sy_cast 16 S (congrArg Value.bool (decide_eq_true h0 : decide (at_ < 0) = true)) (by kernel_rfl) fun S => ?_
    have eR : decA l at_ = none := by unfold decA; rw [if_pos h0]
    refine sy_run ⟨0, []⟩ 60 S fun bs aa w S => ?_
    rw [eR]
    exact sy_ret S (by kernel_rfl) (by kernel_rfl) fun hg => ⟨bel_gr hg, rfl⟩
  refine sy_cast 16 S (congrArg Value.bool (decide_eq_false h0 : decide (at_ < 0) = false)) (by kernel_rfl) fun S => ?_
  refine sy_ops 5 S fun bs aa w S => ?_
  obtain ⟨k, rfl⟩ : ∃ k : Nat, at_ = (k : Int) := ⟨at_.toNat, (Int.toNat_of_nonneg (by omega)).symm⟩
  have eA : decA l (k : Int) = decS l k := by unfold decA; rw [if_neg h0, Int.toNat_natCast]
  by_cases h1 : k < l.length
  case neg =>
    refine sy_cast 21 S (congrArg Value.bool (decide_eq_true (by omega) : decide ((k : Int) ≥ (l.length : Int)) = true)) (by kernel_rfl) fun S => ?_
    have eR : decA l (k : Int) = none := by rw [eA]; unfold decS; rw [if_pos (by omega)]
    refine sy_run ⟨0, []⟩ 60 S fun bs aa w S => ?_
    rw [eR]
    exact sy_ret S (by kernel_rfl) (by kernel_rfl) fun hg => ⟨bel_gr hg, rfl⟩
  obtain rfl := hs.resolve_left (by omega)
  refine sy_cast 21 S (congrArg Value.bool (decide_eq_false (by omega) : decide ((k : Int) ≥ (l.length : Int)) = false)) (by kernel_rfl) fun S => ?_
  refine sy_ops 4 S fun bs aa w S => ?_
  refine sy_ix (b := sb) (off := so) (len := l.length) (n := k) (size := 1) (i := (k : Int)) S (by kernel_rfl) rfl h1 fun aa S => ?_
  refine sy_ldo S (ld_at (ty := 9) (b := sb) (off := so + k * 1) (by kernel_rfl) (by rw [Nat.mul_one]; exact S.fact (f := rfSt sb so l) (by simp) k h1)) (by kernel_rfl) fun aa S => ?_
  by_cases h2 : (l.getD k ByteArray.empty).size = 0
  case pos =>
    refine sy_ex (op := .binOp .eql 9 (.tmp 27) (.const (.string ⟨#[]⟩)) 9) (ty := 4) (v := .bool true) S (by kernel_rfl) (ex_eqS0 (p := (l.getD k ByteArray.empty)) (by kernel_rfl) (by kernel_rfl) (decide_eq_true h2)) fun aa S => ?_
    have eR : decA l (k : Int) = none := by rw [eA]; unfold decS; rw [if_neg (by omega), if_pos h2]
    refine sy_run ⟨0, []⟩ 60 S fun bs aa w S => ?_
    rw [eR]
    exact sy_ret S (by kernel_rfl) (by kernel_rfl) fun hg => ⟨bel_gr hg, rfl⟩
  refine sy_ex (op := .binOp .eql 9 (.tmp 27) (.const (.string ⟨#[]⟩)) 9) (ty := 4) (v := .bool false) S (by kernel_rfl) (ex_eqS0 (p := (l.getD k ByteArray.empty)) (by kernel_rfl) (by kernel_rfl) (decide_eq_false h2)) fun aa S => ?_
  refine sy_run ⟨0, [3]⟩ 60 S fun bs aa w S => ?_
  refine sy_reg S fun S => ?_
  refine sy_ops 2 S fun bs aa w S => ?_
  refine sy_ix (b := sb) (off := so) (len := l.length) (n := k) (size := 1) (i := (k : Int)) S (by kernel_rfl) rfl h1 fun aa S => ?_
  refine sy_ldo S (ld_at (ty := 9) (b := sb) (off := so + k * 1) (by kernel_rfl) (by rw [Nat.mul_one]; exact S.fact (f := rfSt sb so l) (by simp) k h1)) (by kernel_rfl) fun aa S => ?_
  refine sy_ex (op := .index 9 (.tmp 34) (.const (.int .i64 0))) (ty := 5) (v := .int .u8 ((byt (l.getD k ByteArray.empty) 0 : Nat) : Int)) S (by kernel_rfl) (ex_ix (p := (l.getD k ByteArray.empty)) (k := 0) Try.underlying9 (by kernel_rfl) (by kernel_rfl) (by omega)) fun aa S => ?_
  refine sy_ops 1 S fun bs aa w S => ?_
  have hby := byt_lt (l.getD k ByteArray.empty) 0
  have eF : firstB (l.getD k ByteArray.empty) = byt (l.getD k ByteArray.empty) 0 := bytes_at _ 0
  obtain ⟨m, hm⟩ : ∃ m, m = byt (l.getD k ByteArray.empty) 0 := ⟨_, rfl⟩
  refine sy_cast 36 S (congrArg (Value.int .i64) (by rw [IntKind.wrap_i64, ← hm]; omega : IntKind.i64.wrap ((byt (l.getD k ByteArray.empty) 0 : Nat) : Int) = (m : Int))) (by kernel_rfl) fun S => ?_
  refine sy_run ⟨0, [4]⟩ 60 S fun bs aa w S => ?_
  refine sy_reg S fun S => ?_
  refine sy_ops 5 S fun bs aa w S => ?_
  refine sy_cast 41 S (congrArg (Value.int .i64) (by rw [IntKind.wrap_i64]; omega : IntKind.i64.wrap ((l.length : Int) - (k : Int)) = ((l.length - k : Nat) : Int))) (by kernel_rfl) fun S => ?_
  refine sy_ops 1 S fun bs aa w S => ?_
  by_cases h3 : m < l.length - k
  case neg =>
    refine sy_cast 42 S (congrArg Value.bool (decide_eq_true (by omega) : decide ((m : Int) ≥ ((l.length - k : Nat) : Int)) = true)) (by kernel_rfl) fun S => ?_
    have eR : decA l (k : Int) = none := by rw [eA]; unfold decS; rw [if_neg (by omega), if_neg h2, if_pos (by omega)]
    refine sy_run ⟨0, []⟩ 60 S fun bs aa w S => ?_
    rw [eR]
    exact sy_ret S (by kernel_rfl) (by kernel_rfl) fun hg => ⟨bel_gr hg, rfl⟩
  refine sy_cast 42 S (congrArg Value.bool (decide_eq_false (by omega) : decide ((m : Int) ≥ ((l.length - k : Nat) : Int)) = false)) (by kernel_rfl) fun S => ?_
  refine sy_run ⟨0, [7]⟩ 60 S fun bs aa w S => ?_
  refine sy_reg S fun S => ?_
  refine sy_ops 5 S fun bs aa w S => ?_
  refine sy_cast 48 S (congrArg (Value.int .i64) (by rw [IntKind.wrap_i64]; omega : IntKind.i64.wrap ((k : Int) + (m : Int)) = ((k + m : Nat) : Int))) (by kernel_rfl) fun S => ?_
  refine sy_ops 1 S fun bs aa w S => ?_
  refine sy_cast 49 S (congrArg (Value.int .i64) (by rw [IntKind.wrap_i64]; omega : IntKind.i64.wrap (((k + m : Nat) : Int) + 1) = ((k + m + 1 : Nat) : Int))) (by kernel_rfl) fun S => ?_
  refine sy_ex (op := .slice 28 (.tmp 44) (some (.tmp 45)) (some (.tmp 49)) none) (ty := 28) (v := .slice (some ⟨sb, so + k, none⟩) (k + m + 1 - k) (sc - k)) S (by kernel_rfl) (ex_sl (p := .slice (some ⟨sb, so, none⟩) l.length sc) (l2 := some (.v (.int .i64 (k : Int)))) (h2 := some (.v (.int .i64 ((k + m + 1 : Nat) : Int)))) (m2 := none) (by kernel_rfl) (by kernel_rfl) (by kernel_rfl) (by kernel_rfl) (fun W => sl_mid 28 9 Try.underlying28 (by kernel_rfl) sb so l.length sc k (k + m + 1) (by omega) (by omega) (by omega) W)) fun aa S => ?_
  refine sy_run ⟨0, []⟩ 60 S fun bs aa w S => ?_
  have hsl : ((l.drop k).take (m + 1)).length = k + m + 1 - k := by rw [List.length_take, List.length_drop]; omega
  have S := S.add (rfSt sb (so + k) ((l.drop k).take (m + 1))) (sub_str (S.fact (f := rfSt sb so l) (by simp))) (fun i hi hb => by
    have := S.lo0 i hi
    obtain ⟨q, _⟩ := hb
    have := hwb.resolve_left (by omega)
    omega)
  have S := S.add (rfOwn w0.heap.size 5 1 (.slice none 0 0) (27 * 0) (((((l.drop k).take (m + 1)).take 0).flatMap sct).map bV)) (World.ownsRow_nil _ _ _ _) (fun i hi h => by cases h)
  have S := S.sub (F' := [rfSt sb (so + k) ((l.drop k).take (m + 1)), rfOwn w0.heap.size 5 1 (.slice none 0 0) (27 * 0) (((((l.drop k).take (m + 1)).take 0).flatMap sct).map bV)]) (by intro f hf; simp only [List.mem_cons, List.not_mem_nil, or_false] at hf; rcases hf with rfl | rfl <;> simp)
  have S2 := S.to [0] (dcS (k + m + 1 - k) (some ⟨sb, so + k, none⟩) (sc - k) (.slice none 0 0) 0) (by kernel_rfl) (by kernel_rfl) (by kernel_rfl) (by kernel_rfl) (by kernel_rfl)
  refine sy_loop (k + m + 1 - k + 1) (by kernel_rfl) ?_
  refine sy_at2 (k' := (.rnd (k + m + 1 - k + 1) (bodyL dcC) :: dcC.k.tail)) (by kernel_rfl) ?_
  rw [eA, decS_sub h1 h2 (by omega), eF, ← hm]
  exact dc_a w0 ((l.drop k).take (m + 1)) (k + m + 1 - k) hsl (by omega) (some ⟨sb, so + k, none⟩) (sc - k) sb (so + k) (Or.inr rfl) (k + m + 1 - k) 0 (by omega) (fun i hi => absurd hi (Nat.not_lt_zero _)) (.slice none 0 0) (fun g hg => by cases hg) _ aa w S2
end Go.Proofs.Ytaclhiagfgmgkaa

namespace Go.Proofs.Ytaclhiagfgmgkaa
open Go Go.RowKit SZ
set_option linter.unusedVariables false
set_option linter.unusedSectionVars false
set_option linter.unusedSimpArgs false
set_option maxRecDepth 100000
attribute [local irreducible] post GD Nxt NxtAll
def parA (l : (List ByteArray)) (k : Int) : Option (Int × Ws × Nat) := if k < 0 then none else parseS l k.toNat
def parP (w0 : World) (R : Option (Int × Ws × Nat)) (y : Ending) (w' : World) : Prop := Below w0.heap.size w0 w' ∧ match R with
  | none => y = .returned (.tuple #[.agg #[.int .i64 0, .slice none 0 0], .int .i64 0, .int .i64 11])
  | some (v, ws, n) => ∃ e : Et, e.ver = v ∧ e.ws = ws ∧ e.ok ∧ y = .returned (.tuple #[e.v, .int .i64 (n : Int), .int .i64 0]) ∧ WrAt w' e.b e.o e.ws ∧ (e.ws.length = 0 ∨ w0.heap.size ≤ e.b)
theorem parA_dec0 {l : (List ByteArray)} {k : Int} (h : decA l k = none) : parA l k = none := by
  unfold parA
  unfold decA at h
  split
  · rfl
  · rename_i hk
    rw [if_neg hk] at h
    unfold parseS
    rw [h]
theorem decA_some {l : (List ByteArray)} {k : Int} {v : Int} {ws : Ws} (h : decA l k = some (v, ws)) : ∃ n : Nat, k = (n : Int) ∧ n < l.length ∧ fitE v ws ∧ parA l k = if (recE v ws).length = 0 ∨ l.length - n < (recE v ws).length ∨ recE v ws ≠ (l.drop n).take (recE v ws).length then none else some (v, ws, (recE v ws).length) := by
  unfold decA at h
  split at h
  · cases h
  · rename_i hk
    have e : decS l k.toNat = some (v, ws) := h
    refine ⟨k.toNat, (Int.toNat_of_nonneg (by omega)).symm, ?_, decS_fit e, ?_⟩
    · unfold decS at e
      split at e
      · cases e
      · omega
    · unfold parA parseS
      rw [if_neg hk, e]
theorem str_of_owns {w : World} {B : Nat} {v : Value} {R : (List ByteArray)} (h : w.ownsRow B 9 1 v R.length (R.map Value.string)) (h0 : R.length ≠ 0) : ∃ g c, v = .slice (some ⟨g, 0, none⟩) R.length c ∧ R.length ≤ c ∧ StrAt w g 0 R ∧ B ≤ g := by
  rcases h.2 with ⟨rfl, hz⟩ | ⟨g, cap, cur, rfl, hb, hg, h1, h2, h3, h4⟩
  · exact absurd hz h0
  · refine ⟨g, cap, rfl, h1, fun j hj => ?_, hb⟩
    have hc := h.cells (g := g) rfl j (.string (R.getD j ByteArray.empty)) (by simp [List.getD, List.getElem?_eq_getElem hj])
    have ea : (⟨g, 0, none⟩ : Addr).add j = ⟨g, 0 + j, none⟩ := by unfold Addr.add; split <;> simp_all
    rw [ea] at hc
    exact hc
theorem equal_t (w : World) (b1 c1 b2 o2 c2 n : Nat) (xs ys : (List ByteArray)) (hx : xs.length = n) (hy : ys.length = n) (hn : n ≤ 100000) (h1 : StrAt w b1 0 xs) (h2 : StrAt w b2 o2 ys) : Calls Try.prog 33 #[.slice (some ⟨b1, 0, none⟩) n c1, .slice (some ⟨b2, o2, none⟩) n c2] w fun y w' => y = .returned (.bool (decide (xs = ys))) ∧ Below w.heap.size w w' := by
  have h := Try.slices_Equal_string b1 0 n c1 b2 o2 n c2 xs ys w (by omega) (by omega) (by omega) (by omega) h1 h2
  rw [List.take_of_length_le (by omega), List.take_of_length_le (by omega)] at h
  exact h.mono fun e w' h => ⟨h.1, by obtain ⟨q, hq⟩ := h.2; rw [hq]; exact ⟨rfl, rfl, rfl, Nat.le_refl _, fun k hk => rfl⟩⟩
set_option maxHeartbeats 8000000 in
theorem parse_t (w0 : World) (l : (List ByteArray)) (sa : Option Addr) (sc sb so : Nat) (hs : l.length = 0 ∨ sa = some ⟨sb, so, none⟩) (hsc : l.length ≤ sc) (hl : l.length ≤ 1000) (at_ : Int) (hA : StrAt w0 sb so l) : Calls Try.prog 17 #[.slice sa l.length sc, .int .i64 at_] w0 (parP w0 (parA l at_)) := by
  have hwb : l.length = 0 ∨ sb < w0.heap.size := by
    by_cases h : l.length = 0
    · exact Or.inl h
    · exact Or.inr ((rfSt sb so l).lt w0 hA sb ⟨rfl, h⟩)
  refine sy_enterF [] [rfSt sb so l] (by intro f hf; simp only [List.mem_singleton] at hf; subst hf; exact hA) Try.func17 rfl rfl fun aa S => ?_
  refine sy_run ⟨0, [1]⟩ 60 S fun bs aa w S => ?_
  refine sy_reg S fun S => ?_
  refine sy_ops 2 S fun bs aa w S => ?_
  have hdec := decode_t w l sa sc sb so hs hsc hl at_ (S.fact (f := rfSt sb so l) (by simp))
  refine sy_nm S fun bs S => ?_
  have hblk : ∀ j, j < bs.length → bs.getD j 0 < w.heap.size := fun j hj => S.lt hj
  have hgs := S.gr.size
  cases hd : decA l at_ with
  | none =>
    have eR := parA_dec0 hd
    refine sy_call1 S (hdec.mono fun y w' h => ⟨by have h2 := h.2; rw [hd] at h2; exact h2, h.1⟩) (by kernel_rfl) fun aa w hb S => ?_
    refine sy_run ⟨0, []⟩ 60 S fun bs aa w S => ?_
    rw [eR]
    exact sy_ret S (by kernel_rfl) (by kernel_rfl) fun hg => ⟨bel_gr hg, rfl⟩
  | some x =>
    obtain ⟨v, ws⟩ := x
    obtain ⟨k, rfl, hk, hfit, eP⟩ := decA_some hd
    obtain rfl := hs.resolve_left (by omega)
    refine sy_call S (X := Et) (val := fun e => .tuple #[e.v, .bool true]) (C := fun e w' => e.ver = v ∧ e.ws = ws ∧ e.ok ∧ WrAt w' e.b e.o e.ws ∧ (e.ws.length = 0 ∨ w.heap.size ≤ e.b)) (hdec.mono fun y w' h => by
      have h2 := h.2
      rw [hd] at h2
      obtain ⟨e, q1, q2, q3, q4, q5, q6⟩ := h2
      exact ⟨e, q4, ⟨q1, q2, q3, q5, q6⟩, h.1⟩) (by kernel_rfl) fun e aa w1 hC hb S => ?_
    obtain ⟨rfl, rfl, hok, hwr, hfr⟩ := hC
    have S := S.add (rfWr e.b e.o e.ws) hwr (fun i hi hb => by
      obtain ⟨q1, q2⟩ := hb
      have := hblk i hi
      have := hfr.resolve_left q2
      omega)
    refine sy_run ⟨0, [4]⟩ 60 S fun bs aa w S => ?_
    refine sy_reg S fun S => ?_
    refine sy_ops 1 S fun bs aa w S => ?_
    refine sy_nm S fun bs S => ?_
    have hblk2 : ∀ j, j < bs.length → bs.getD j 0 < w.heap.size := fun j hj => S.lt hj
    obtain ⟨R, eRR⟩ : ∃ R, R = recE e.ver e.ws := ⟨_, rfl⟩
    have hRl : R.length ≤ 25 := by
      rw [eRR]
      cases hv : validB e.ver e.ws with
      | false => rw [recE_bad hv]; exact Nat.zero_le _
      | true => rw [recE_valid hv, recL_len]; exact (recE_many hfit hv).2
    refine sy_call S (X := Value) (val := id) (C := fun x w' => w'.ownsRow w.heap.size 9 1 x R.length (R.map Value.string)) (by rw [eRR]; exact record_e w e hok hfit (S.fact (f := rfWr e.b e.o e.ws) (by simp))) (by kernel_rfl) fun x aa w1 hO hb S => ?_
    rw [← eRR] at eP
    by_cases h0 : R.length = 0
    case pos =>
      obtain ⟨ra, rc, rfl⟩ := owns_slice hO
      refine sy_run ⟨0, [5]⟩ 60 S fun bs aa w S => ?_
      refine sy_reg S fun S => ?_
      refine sy_ops 3 S fun bs aa w S => ?_
      refine sy_cast 23 S (congrArg Value.bool (decide_eq_true (by omega) : decide ((R.length : Int) = 0) = true)) (by kernel_rfl) fun S => ?_
      have eR : parA l (k : Int) = none := by rw [eP]; exact if_pos (Or.inl h0)
      refine sy_run ⟨0, []⟩ 60 S fun bs aa w S => ?_
      rw [eR]
      exact sy_ret S (by kernel_rfl) (by kernel_rfl) fun hg => ⟨bel_gr hg, rfl⟩
    obtain ⟨g, rc, rfl, hrc, hst, hgb⟩ := str_of_owns hO h0
    have S := S.add (rfSt g 0 R) hst (fun i hi hb => by
      obtain ⟨q1, q2⟩ := hb
      have := hblk2 i hi
      omega)
    refine sy_run ⟨0, [5]⟩ 60 S fun bs aa w S => ?_
    refine sy_reg S fun S => ?_
    refine sy_ops 3 S fun bs aa w S => ?_
    refine sy_cast 23 S (congrArg Value.bool (decide_eq_false (by omega) : decide ((R.length : Int) = 0) = false)) (by kernel_rfl) fun S => ?_
    refine sy_ops 7 S fun bs aa w S => ?_
    refine sy_cast 30 S (congrArg (Value.int .i64) (by rw [IntKind.wrap_i64]; omega : IntKind.i64.wrap ((l.length : Int) - (k : Int)) = ((l.length - k : Nat) : Int))) (by kernel_rfl) fun S => ?_
    refine sy_ops 1 S fun bs aa w S => ?_
    by_cases h1 : l.length - k < R.length
    case pos =>
      refine sy_cast 31 S (congrArg Value.bool (decide_eq_true (by omega) : decide ((R.length : Int) > ((l.length - k : Nat) : Int)) = true)) (by kernel_rfl) fun S => ?_
      have eR : parA l (k : Int) = none := by rw [eP]; exact if_pos (Or.inr (Or.inl h1))
      refine sy_run ⟨0, []⟩ 60 S fun bs aa w S => ?_
      rw [eR]
      exact sy_ret S (by kernel_rfl) (by kernel_rfl) fun hg => ⟨bel_gr hg, rfl⟩
    refine sy_cast 31 S (congrArg Value.bool (decide_eq_false (by omega) : decide ((R.length : Int) > ((l.length - k : Nat) : Int)) = false)) (by kernel_rfl) fun S => ?_
    refine sy_ops 9 S fun bs aa w S => ?_
    refine sy_cast 40 S (congrArg (Value.int .i64) (by rw [IntKind.wrap_i64]; omega : IntKind.i64.wrap ((k : Int) + (R.length : Int)) = ((k + R.length : Nat) : Int))) (by kernel_rfl) fun S => ?_
    refine sy_ex (op := .slice 28 (.tmp 35) (some (.tmp 36)) (some (.tmp 40)) none) (ty := 28) (v := .slice (some ⟨sb, so + k, none⟩) R.length (sc - k)) S (by kernel_rfl) (ex_sl (p := .slice (some ⟨sb, so, none⟩) l.length sc) (l2 := some (.v (.int .i64 (k : Int)))) (h2 := some (.v (.int .i64 ((k + R.length : Nat) : Int)))) (m2 := none) (by kernel_rfl) (by kernel_rfl) (by kernel_rfl) (by kernel_rfl) (fun W => by have q := sl_mid 28 9 Try.underlying28 (by kernel_rfl) sb so l.length sc k (k + R.length) (by omega) (by omega) (by omega) W; rw [show k + R.length - k = R.length by omega] at q; exact q)) fun aa S => ?_
    have hyl : ((l.drop k).take R.length).length = R.length := by rw [List.length_take, List.length_drop]; omega
    refine sy_call1 S (equal_t _ g rc sb (so + k) (sc - k) R.length R ((l.drop k).take R.length) rfl hyl (by omega) (S.fact (f := rfSt g 0 R) (by simp)) (sub_str (S.fact (f := rfSt sb so l) (by simp)))) (by kernel_rfl) fun aa w hb S => ?_
    by_cases h2 : R = (l.drop k).take R.length
    case neg =>
      refine sy_cast 42 S (congrArg Value.bool (decide_eq_false h2)) (by kernel_rfl) fun S => ?_
      have eR : parA l (k : Int) = none := by rw [eP]; exact if_pos (Or.inr (Or.inr h2))
      refine sy_run ⟨0, []⟩ 60 S fun bs aa w S => ?_
      rw [eR]
      exact sy_ret S (by kernel_rfl) (by kernel_rfl) fun hg => ⟨bel_gr hg, rfl⟩
    refine sy_cast 42 S (congrArg Value.bool (decide_eq_true h2)) (by kernel_rfl) fun S => ?_
    have eR : parA l (k : Int) = some (e.ver, e.ws, R.length) := by rw [eP]; exact if_neg (by rintro (q | q | q); exact h0 q; exact h1 q; exact q h2)
    refine sy_run ⟨0, []⟩ 60 S fun bs aa w S => ?_
    have hw := S.fact (f := rfWr e.b e.o e.ws) (by simp)
    rw [eR]
    exact sy_ret S (by kernel_rfl) (by kernel_rfl) fun hg => ⟨bel_gr hg, e, rfl, rfl, hok, rfl, hw, hfr.imp id fun q => by omega⟩
end Go.Proofs.Ytaclhiagfgmgkaa

namespace Go.Proofs.Ytaclhiagfgmgkaa
open Go Go.RowKit SZ
set_option linter.unusedVariables false
set_option linter.unusedSectionVars false
set_option linter.unusedSimpArgs false
set_option maxRecDepth 100000
attribute [local irreducible] post GD Nxt NxtAll
structure Sr where
  a : Option Addr
  c : Nat
  b : Nat
  o : Nat
  l : (List ByteArray)
def Sr.v (s : Sr) : Value := .slice s.a s.l.length s.c
def Sr.ok (s : Sr) : Prop := s.l.length = 0 ∨ s.a = some ⟨s.b, s.o, none⟩
abbrev Sr.at (s : Sr) (w : World) : Prop := StrAt w s.b s.o s.l
theorem sr_of_owns {w : World} {B : Nat} {v : Value} {R : (List ByteArray)} (h : w.ownsRow B 9 1 v R.length (R.map Value.string)) : ∃ s : Sr, s.l = R ∧ v = s.v ∧ s.ok ∧ s.at w ∧ s.l.length ≤ s.c ∧ (R.length = 0 ∨ B ≤ s.b) := by
  by_cases h0 : R.length = 0
  · obtain ⟨a, c, rfl⟩ := owns_slice h
    have hc : R.length ≤ c := by omega
    exact ⟨⟨a, c, 0, 0, R⟩, rfl, rfl, Or.inl h0, fun j hj => by simp only at hj; omega, hc, Or.inl h0⟩
  · obtain ⟨g, c, rfl, h1, h2, h3⟩ := str_of_owns h h0
    exact ⟨⟨some ⟨g, 0, none⟩, c, g, 0, R⟩, rfl, rfl, Or.inr rfl, h2, h1, Or.inr h3⟩
theorem wr_struct : Try.prog.underlying 48 = some (.struct (Try.prog.fieldsOf 48)) := by kernel_rfl
theorem wr_held : Try.prog.stoodInHeld 48 = false := by kernel_rfl
theorem wr_neq (a b : Int × Int) (w : World) : (binOp .neq 48 (.agg #[.int .i64 a.1, .int .i64 a.2]) (.agg #[.int .i64 b.1, .int .i64 b.2])).run Try.prog w = .ok (.bool (!decide (a = b))) w := by
  rw [run_neq_struct, show (10000 : Nat) = 9999 + 1 from rfl, run_equalIn_agg w 9999 48 _ _ wr_struct wr_held]
  have u3 := Try.underlying3
  have a3 := Try.isAgg3
  have z3 := Try.sizeOf3
  simp only [Program.fieldsOf, Try.underlying48]
  go_simp
  obtain ⟨a1, a2⟩ := a
  obtain ⟨b1, b2⟩ := b
  simp only [Prod.mk.injEq] at *
  by_cases h1 : a1 = b1 <;> by_cases h2 : a2 = b2 <;> simp_all
theorem wr_guard : Try.prog.eqGuardType Try.prog.depth 48 = false := by kernel_rfl
theorem ex_neR {s : SS} {bs : List Nat} {x y : Operand} {t' ty : TypeId} {p q : Int × Int} {b : Bool} (hx : s.val x = some (.v (.agg #[.int .i64 p.1, .int .i64 p.2]))) (hy : s.val y = some (.v (.agg #[.int .i64 q.1, .int .i64 q.2]))) (hb : (!decide (p = q)) = b) :
    ∀ (o : Oper) (ρ : Operand → Value) (W : World), o.op = .binOp .neq 48 x y t' → o.type = ty → (∀ x y, s.val x = some y → ρ x = den bs y) → (execOp ρ o).run Try.prog W = .ok (.value (.bool b)) W := by
  intro o ρ W h1 h2 h3
  have e1 : ρ x = (.agg #[.int .i64 p.1, .int .i64 p.2]) := h3 x _ hx
  have e2 : ρ y = (.agg #[.int .i64 q.1, .int .i64 q.2]) := h3 y _ hy
  subst hb
  have hg : ∀ W, (eqGuard .neq 48 x y (.agg #[.int .i64 p.1, .int .i64 p.2]) (.agg #[.int .i64 q.1, .int .i64 q.2])).run Try.prog W = .ok () W := fun W => run_eqGuard_agg W .neq 48 x y _ _ wr_guard
  have hr : ∀ W, (binOp .neq 48 (.agg #[.int .i64 p.1, .int .i64 p.2]) (.agg #[.int .i64 q.1, .int .i64 q.2])).run Try.prog W = .ok (.bool (!decide (p = q))) W := fun W => wr_neq p q W
  unfold execOp
  simp only [h1, e1, e2, hg, hr, Sem.run_bind, Sem.run_pure, Result.andThen_ok]
noncomputable def onC : Cfg := ⟨goZ 60 [0] [.code (bodyOf Try.f21)], ⟨0, [], []⟩⟩
noncomputable def onS (x y : Et) (j : Nat) : SS := ⟨38, [(2, .p 0 0), (3, .p 1 0), (5, .v (.int .i64 (j : Int)))], [⟨24, x.cs⟩, ⟨24, y.cs⟩]⟩
section
variable (w0 : World) (x y : Et) (hx : x.ok) (hy : y.ok) (hve : x.ver = y.ver) (hn : x.ws.length = y.ws.length) (h1 : x.ws.length ≤ 100000)
include w0 x y hx hy hve hn h1
set_option maxHeartbeats 8000000 in
theorem on_e (m : Nat) (hv : ∀ i, i < x.ws.length → x.ws.getD i (0, 0) = y.ws.getD i (0, 0)) (x0 x1 : Nat) (aa : Act) (w : World) (S : Sy w0 [] [x0, x1] (onS x y (x.ws.length)) [rfWr x.b x.o x.ws, rfWr y.b y.o y.ws] aa w) : post Try.prog (.rnd (m + 1) (bodyL onC) :: onC.k.tail) (bodyPost Try.prog Try.f21 fun z w' => z = .returned (.bool (decide (x.ver = y.ver ∧ x.ws = y.ws))) ∧ Below w0.heap.size w0 w') .normal aa w := by
  refine sy_run (c := ⟨(.rnd (m + 1) (bodyL onC) :: onC.k.tail), onS x y (x.ws.length)⟩) ⟨0, [4]⟩ 50 S fun bs aa w S => ?_
  refine sy_reg S fun S => ?_
  refine sy_ops 5 S fun bs aa w S => ?_
  refine sy_cast 24 S (congrArg Value.bool (decide_eq_false (by omega) : decide ((x.ws.length : Int) < (x.ws.length : Int)) = false)) (by kernel_rfl) fun S => ?_
  refine sy_run ⟨0, []⟩ 60 S fun bs aa w S => ?_
  rw [decide_eq_true ⟨hve, eq_upto (0, 0) x.ws y.ws hn hv⟩]
  exact sy_ret S (by kernel_rfl) (by kernel_rfl) fun hg => ⟨rfl, bel_gr hg⟩
set_option maxHeartbeats 8000000 in
theorem on_s (m j : Nat) (hj : j < x.ws.length) (hp : x.ws.getD j (0, 0) = y.ws.getD j (0, 0)) (ih : (∀ i, i < j + 1 → x.ws.getD i (0, 0) = y.ws.getD i (0, 0)) → ∀ (x0 x1 : Nat) (aa : Act) (w : World) (S : Sy w0 [] [x0, x1] (onS x y (j + 1)) [rfWr x.b x.o x.ws, rfWr y.b y.o y.ws] aa w), post Try.prog (.rnd (m) (bodyL onC) :: onC.k.tail) (bodyPost Try.prog Try.f21 fun z w' => z = .returned (.bool (decide (x.ver = y.ver ∧ x.ws = y.ws))) ∧ Below w0.heap.size w0 w') .normal aa w) (hv : ∀ i, i < j → x.ws.getD i (0, 0) = y.ws.getD i (0, 0)) (x0 x1 : Nat) (aa : Act) (w : World) (S : Sy w0 [] [x0, x1] (onS x y (j)) [rfWr x.b x.o x.ws, rfWr y.b y.o y.ws] aa w) : post Try.prog (.rnd (m + 1) (bodyL onC) :: onC.k.tail) (bodyPost Try.prog Try.f21 fun z w' => z = .returned (.bool (decide (x.ver = y.ver ∧ x.ws = y.ws))) ∧ Below w0.heap.size w0 w') .normal aa w := by
  refine sy_run (c := ⟨(.rnd (m + 1) (bodyL onC) :: onC.k.tail), onS x y (j)⟩) ⟨0, [4]⟩ 50 S fun bs aa w S => ?_
  refine sy_reg S fun S => ?_
  refine sy_ops 5 S fun bs aa w S => ?_
  refine sy_cast 24 S (congrArg Value.bool (decide_eq_true (by omega) : decide ((j : Int) < (x.ws.length : Int)) = true)) (by kernel_rfl) fun S => ?_
  refine sy_run ⟨0, []⟩ 60 S fun bs aa w S => ?_
  letI : KP := ⟨[37]⟩
  letI : HF := ⟨[rfWr x.b x.o x.ws, rfWr y.b y.o y.ws]⟩
  refine dr_enter [0, 1] (by kernel_rfl) (by kernel_rfl) S (by kernel_rfl) (fun aa w D => ?_) (fun f hf => hf)
  refine dr_tix 3 D (by kernel_rfl) (by kernel_rfl) (by kernel_rfl) (b := x.b) (off := x.o) (len := x.ws.length) (n := j) (size := 2) (ix := (j : Int)) (by rw [← hx.resolve_left (by omega)]; kernel_rfl) rfl (by omega) fun aa D => ?_
  refine dr_tld 4 D (by kernel_rfl) (by kernel_rfl) (by kernel_rfl) (ty := 48) (ad := ⟨x.b, x.o + j * 2, none⟩) (v := (.agg #[.int .i64 (x.ws.getD j (0, 0)).1, .int .i64 (x.ws.getD j (0, 0)).2])) (fun W hW => ld_wr (j := j) (show WrAt W x.b x.o x.ws from hW (rfWr x.b x.o x.ws) (by show _ ∈ [rfWr x.b x.o x.ws, rfWr y.b y.o y.ws]; simp)) (by omega)) (by kernel_rfl) fun aa D => ?_
  refine dr_tix 8 D (by kernel_rfl) (by kernel_rfl) (by kernel_rfl) (b := y.b) (off := y.o) (len := y.ws.length) (n := j) (size := 2) (ix := (j : Int)) (by rw [← hy.resolve_left (by omega)]; kernel_rfl) rfl (by omega) fun aa D => ?_
  refine dr_tld 9 D (by kernel_rfl) (by kernel_rfl) (by kernel_rfl) (ty := 48) (ad := ⟨y.b, y.o + j * 2, none⟩) (v := (.agg #[.int .i64 (y.ws.getD j (0, 0)).1, .int .i64 (y.ws.getD j (0, 0)).2])) (fun W hW => ld_wr (j := j) (show WrAt W y.b y.o y.ws from hW (rfWr y.b y.o y.ws) (by show _ ∈ [rfWr x.b x.o x.ws, rfWr y.b y.o y.ws]; simp)) (by omega)) (by kernel_rfl) fun aa D => ?_
  refine dr_ex2 (fun d v c a w h => by cases d <;> exact h) 10 (op := .binOp .neq 48 (.tmp 31) (.tmp 36) 48) (ty := 4) (v := .bool false) D (by kernel_rfl) (by kernel_rfl) (by kernel_rfl) (by kernel_rfl) (ex_neR (p := x.ws.getD j (0, 0)) (q := y.ws.getD j (0, 0)) (by kernel_rfl) (by kernel_rfl) (by rw [decide_eq_true hp]; rfl)) fun aa D => ?_
  refine dr_end D (by kernel_rfl) fun S => ?_
  refine sy_run ⟨0, [5]⟩ 60 S fun bs aa w S => ?_
  refine sy_reg S fun S => ?_
  refine sy_ops 2 S fun bs aa w S => ?_
  refine sy_cast 26 S (congrArg (Value.int .i64) (by rw [IntKind.wrap_i64]; omega : IntKind.i64.wrap ((j : Int) + 1) = ((j + 1 : Nat) : Int))) (by kernel_rfl) fun S => ?_
  refine sy_run ⟨0, [999]⟩ 50 S fun bs aa w S => ?_
  have S2 := S.to [0, 1] (onS x y (j + 1)) (by kernel_rfl) (by kernel_rfl) (by kernel_rfl) (by kernel_rfl) (by kernel_rfl)
  refine sy_at2 (k' := (.rnd (m) (bodyL onC) :: onC.k.tail)) (by kernel_rfl) ?_
  exact ih (upto_succ hv hp) _ _ aa w S2
set_option maxHeartbeats 8000000 in
theorem on_b (m j : Nat) (hj : j < x.ws.length) (hp : ¬x.ws.getD j (0, 0) = y.ws.getD j (0, 0)) (x0 x1 : Nat) (aa : Act) (w : World) (S : Sy w0 [] [x0, x1] (onS x y (j)) [rfWr x.b x.o x.ws, rfWr y.b y.o y.ws] aa w) : post Try.prog (.rnd (m + 1) (bodyL onC) :: onC.k.tail) (bodyPost Try.prog Try.f21 fun z w' => z = .returned (.bool (decide (x.ver = y.ver ∧ x.ws = y.ws))) ∧ Below w0.heap.size w0 w') .normal aa w := by
  refine sy_run (c := ⟨(.rnd (m + 1) (bodyL onC) :: onC.k.tail), onS x y (j)⟩) ⟨0, [4]⟩ 50 S fun bs aa w S => ?_
  refine sy_reg S fun S => ?_
  refine sy_ops 5 S fun bs aa w S => ?_
  refine sy_cast 24 S (congrArg Value.bool (decide_eq_true (by omega) : decide ((j : Int) < (x.ws.length : Int)) = true)) (by kernel_rfl) fun S => ?_
  refine sy_run ⟨0, []⟩ 60 S fun bs aa w S => ?_
  letI : KP := ⟨[37]⟩
  letI : HF := ⟨[rfWr x.b x.o x.ws, rfWr y.b y.o y.ws]⟩
  refine dr_enter [0, 1] (by kernel_rfl) (by kernel_rfl) S (by kernel_rfl) (fun aa w D => ?_) (fun f hf => hf)
  refine dr_tix 3 D (by kernel_rfl) (by kernel_rfl) (by kernel_rfl) (b := x.b) (off := x.o) (len := x.ws.length) (n := j) (size := 2) (ix := (j : Int)) (by rw [← hx.resolve_left (by omega)]; kernel_rfl) rfl (by omega) fun aa D => ?_
  refine dr_tld 4 D (by kernel_rfl) (by kernel_rfl) (by kernel_rfl) (ty := 48) (ad := ⟨x.b, x.o + j * 2, none⟩) (v := (.agg #[.int .i64 (x.ws.getD j (0, 0)).1, .int .i64 (x.ws.getD j (0, 0)).2])) (fun W hW => ld_wr (j := j) (show WrAt W x.b x.o x.ws from hW (rfWr x.b x.o x.ws) (by show _ ∈ [rfWr x.b x.o x.ws, rfWr y.b y.o y.ws]; simp)) (by omega)) (by kernel_rfl) fun aa D => ?_
  refine dr_tix 8 D (by kernel_rfl) (by kernel_rfl) (by kernel_rfl) (b := y.b) (off := y.o) (len := y.ws.length) (n := j) (size := 2) (ix := (j : Int)) (by rw [← hy.resolve_left (by omega)]; kernel_rfl) rfl (by omega) fun aa D => ?_
  refine dr_tld 9 D (by kernel_rfl) (by kernel_rfl) (by kernel_rfl) (ty := 48) (ad := ⟨y.b, y.o + j * 2, none⟩) (v := (.agg #[.int .i64 (y.ws.getD j (0, 0)).1, .int .i64 (y.ws.getD j (0, 0)).2])) (fun W hW => ld_wr (j := j) (show WrAt W y.b y.o y.ws from hW (rfWr y.b y.o y.ws) (by show _ ∈ [rfWr x.b x.o x.ws, rfWr y.b y.o y.ws]; simp)) (by omega)) (by kernel_rfl) fun aa D => ?_
  refine dr_ex2 (fun d v c a w h => by cases d <;> exact h) 10 (op := .binOp .neq 48 (.tmp 31) (.tmp 36) 48) (ty := 4) (v := .bool true) D (by kernel_rfl) (by kernel_rfl) (by kernel_rfl) (by kernel_rfl) (ex_neR (p := x.ws.getD j (0, 0)) (q := y.ws.getD j (0, 0)) (by kernel_rfl) (by kernel_rfl) (by rw [decide_eq_false hp]; rfl)) fun aa D => ?_
  refine dr_end D (by kernel_rfl) fun S => ?_
  refine sy_run ⟨0, []⟩ 60 S fun bs aa w S => ?_
  rw [decide_eq_false (fun q : x.ver = y.ver ∧ x.ws = y.ws => hp (by rw [q.2]))]
  exact sy_ret S (by kernel_rfl) (by kernel_rfl) fun hg => ⟨rfl, bel_gr hg⟩
theorem on_a : ∀ (r j : Nat), j + r = x.ws.length → (∀ i, i < j → x.ws.getD i (0, 0) = y.ws.getD i (0, 0)) → ∀ (x0 x1 : Nat) (aa : Act) (w : World) (S : Sy w0 [] [x0, x1] (onS x y (j)) [rfWr x.b x.o x.ws, rfWr y.b y.o y.ws] aa w), post Try.prog (.rnd (r + 1) (bodyL onC) :: onC.k.tail) (bodyPost Try.prog Try.f21 fun z w' => z = .returned (.bool (decide (x.ver = y.ver ∧ x.ws = y.ws))) ∧ Below w0.heap.size w0 w') .normal aa w := by
  intro r
  induction r with
  | zero => intro j hj hv x0 x1 aa w S; obtain rfl : j = x.ws.length := by omega
            exact on_e w0 x y hx hy hve hn h1 0 hv x0 x1 aa w S
  | succ r ih =>
    intro j hj hv x0 x1 aa w S
    by_cases hp : x.ws.getD j (0, 0) = y.ws.getD j (0, 0)
    · exact on_s w0 x y hx hy hve hn h1 (r + 1) j (by omega) hp (fun h => ih (j + 1) (by omega) h) hv x0 x1 aa w S
    · exact on_b w0 x y hx hy hve hn h1 (r + 1) j (by omega) hp x0 x1 aa w S
end
set_option maxHeartbeats 8000000 in
theorem one_t (w0 : World) (x y : Et) (hx : x.ok) (hy : y.ok) (h1 : x.ws.length ≤ 100000) (hA : WrAt w0 x.b x.o x.ws) (hB : WrAt w0 y.b y.o y.ws) : Calls Try.prog 21 #[x.v, y.v] w0 fun z w' => z = .returned (.bool (decide (x.ver = y.ver ∧ x.ws = y.ws))) ∧ Below w0.heap.size w0 w' := by
  refine sy_enterF [] [rfWr x.b x.o x.ws, rfWr y.b y.o y.ws] (by intro f hf; simp only [List.mem_cons, List.not_mem_nil, or_false] at hf; rcases hf with rfl | rfl; exact hA; exact hB) Try.func21 rfl rfl fun aa S => ?_
  refine sy_run ⟨0, [1]⟩ 60 S fun bs aa w S => ?_
  refine sy_reg S fun S => ?_
  refine sy_ops 5 S fun bs aa w S => ?_
  by_cases hve : x.ver = y.ver
  case neg =>
    refine sy_cast 10 S (congrArg Value.bool (by rw [decide_eq_false hve]; rfl : (!decide (x.ver = y.ver)) = true)) (by kernel_rfl) fun S => ?_
    refine sy_run ⟨0, []⟩ 60 S fun bs aa w S => ?_
    rw [decide_eq_false (fun q : x.ver = y.ver ∧ x.ws = y.ws => hve q.1)]
    exact sy_ret S (by kernel_rfl) (by kernel_rfl) fun hg => ⟨rfl, bel_gr hg⟩
  refine sy_cast 10 S (congrArg Value.bool (by rw [decide_eq_true hve]; rfl : (!decide (x.ver = y.ver)) = false)) (by kernel_rfl) fun S => ?_
  refine sy_ops 8 S fun bs aa w S => ?_
  by_cases hn : x.ws.length = y.ws.length
  case neg =>
    refine sy_cast 18 S (congrArg Value.bool (by rw [decide_eq_false (by omega)]; rfl : (!decide ((x.ws.length : Int) = (y.ws.length : Int))) = true)) (by kernel_rfl) fun S => ?_
    refine sy_run ⟨0, []⟩ 60 S fun bs aa w S => ?_
    rw [decide_eq_false (fun q : x.ver = y.ver ∧ x.ws = y.ws => hn (by rw [q.2]))]
    exact sy_ret S (by kernel_rfl) (by kernel_rfl) fun hg => ⟨rfl, bel_gr hg⟩
  refine sy_cast 18 S (congrArg Value.bool (by rw [decide_eq_true (by omega)]; rfl : (!decide ((x.ws.length : Int) = (y.ws.length : Int))) = false)) (by kernel_rfl) fun S => ?_
  refine sy_run ⟨0, []⟩ 60 S fun bs aa w S => ?_
  have S2 := S.to [0, 1] (onS x y 0) (by kernel_rfl) (by kernel_rfl) (by kernel_rfl) (by kernel_rfl) (by kernel_rfl)
  refine sy_loop (x.ws.length + 1) (by kernel_rfl) ?_
  refine sy_at2 (k' := (.rnd (x.ws.length + 1) (bodyL onC) :: onC.k.tail)) (by kernel_rfl) ?_
  exact on_a w0 x y hx hy hve hn h1 x.ws.length 0 (by omega) (fun i hi => absurd hi (Nat.not_lt_zero _)) _ _ aa w S2
set_option maxHeartbeats 8000000 in
theorem short_w (w0 : World) (e : Et) : Calls Try.prog 10 #[e.v] w0 fun z w' => z = .returned (.bool (decide (e.ws.length ≤ 40))) ∧ Below w0.heap.size w0 w' := by
  refine sy_enterF [] [] (by intro f hf; cases hf) Try.func10 rfl rfl fun aa S => ?_
  refine sy_run ⟨0, [1]⟩ 60 S fun bs aa w S => ?_
  refine sy_reg S fun S => ?_
  refine sy_ops 4 S fun bs aa w S => ?_
  refine sy_cast 6 S (congrArg Value.bool (by rw [decide_eq_decide]; omega : decide ((e.ws.length : Int) ≤ 40) = decide (e.ws.length ≤ 40))) (by kernel_rfl) fun S => ?_
  refine sy_run ⟨0, []⟩ 60 S fun bs aa w S => ?_
  exact sy_ret S (by kernel_rfl) (by kernel_rfl) fun hg => ⟨rfl, bel_gr hg⟩
end Go.Proofs.Ytaclhiagfgmgkaa

namespace Go.Proofs.Ytaclhiagfgmgkaa
open Go.ChangeShapes Go.WideShapes Go.ChangeAt Go.RowKit Go.Deep
set_option maxRecDepth 100000
set_option linter.unusedVariables false
set_option linter.unusedSectionVars false
set_option linter.unusedSimpArgs false
section
variable {H : Type} {enc : TypeId × Value → H} {W : World}
theorem wr_trod {c : Value} {x : DataW H × List MemPlace} {n' : Nat} (hf : DataW.trod enc Try.prog W 0 (fun _ => true) true n' 22 [c] = some x) : ∃ (a : Option Addr) (k : Nat) (S : Ws) (b o : Nat), c = .slice a S.length k ∧ (S.length = 0 ∨ a = some ⟨b, o, none⟩) ∧ WrAt W b o S ∧ ∀ p ∈ S, I64 p.1 ∧ I64 p.2 := by
  rcases open_slice Try.underlying22 hf with ⟨hcs, _⟩ | ⟨a, len0, cap0, m, n, D, Pl, hcs, _, hl, hm, hmm, _, hi⟩
  · simp at hcs
    subst hcs
    exact ⟨none, 0, [], 0, 0, rfl, Or.inl rfl, fun j hj => absurd hj (Nat.not_lt_zero _), by simp⟩
  · simp at hcs
    subst hcs
    simp only [if_true] at hmm
    have cw : Try.prog.cellsOf 48 = 2 := by kernel_rfl
    have ci : Try.prog.cellsOf 3 = 1 := by kernel_rfl
    have key : ∀ i, i < len0 → ∃ A : Int × Int, W.cell? (a.add (i * 2)) = some (.int .i64 A.1) ∧ W.cell? (a.add (i * 2 + 1)) = some (.int .i64 A.2) ∧ I64 A.1 ∧ I64 A.2 := by
      intro i hil
      obtain ⟨cs', hc, ht⟩ := hi i (by omega)
      rw [cw] at hc
      obtain ⟨_, hcl, hat⟩ := World.cells?_some hc
      match cs', hcl with
      | [c0, c1], _ =>
        obtain ⟨xs, n', _, _, _, hlen, hg⟩ := DataW.trod_struct Try.underlying48 ht
        match xs, hlen with
        | [y0, y1], _ =>
          have h0 := hg 0 _ rfl
          have h1 := hg 1 _ rfl
          simp [ci] at h0 h1
          obtain ⟨a0, e0, _, f0⟩ := DataW.trod_int Try.underlying3 h0
          obtain ⟨a1, e1, _, f1⟩ := DataW.trod_int Try.underlying3 h1
          simp at e0 e1
          subst e0; subst e1
          have q0 := hat 0 (by omega)
          have q1 := hat 1 (by omega)
          rw [add_add] at q0 q1
          exact ⟨⟨a0, a1⟩, q0, q1, i64_of_wf f0, i64_of_wf f1⟩
    have hcap : cap0 ≤ 9223372036854775807 := by unfold maxLen at hm; omega
    by_cases h0 : len0 = 0
    · subst h0
      exact ⟨_, _, [], 0, 0, rfl, Or.inl rfl, fun j hj => absurd hj (Nat.not_lt_zero _), by simp⟩
    · obtain ⟨b, off, spot⟩ := a
      obtain ⟨A0, hA0, _⟩ := key 0 (by omega)
      have hspot : spot = none := by simpa [Addr.add] using World.cell?_spot hA0
      subst hspot
      obtain ⟨f, hf'⟩ := Classical.axiomOfChoice (fun i : { i : Nat // i < len0 } => key i.1 i.2)
      have hlen : ((List.range len0).attach.map (fun i => f ⟨i.1, List.mem_range.1 i.2⟩)).length = len0 := by simp
      refine ⟨some ⟨b, off, none⟩, cap0, (List.range len0).attach.map (fun i => f ⟨i.1, List.mem_range.1 i.2⟩), b, off, by rw [hlen], Or.inr rfl, fun j hj => ?_, fun p hp => ?_⟩
      · have hjl : j < len0 := by simpa using hj
        have hd := hf' ⟨j, hjl⟩
        simp only [add_plain] at hd
        have e : ((List.range len0).attach.map (fun i => f ⟨i.1, List.mem_range.1 i.2⟩)).getD j (0, 0) = f ⟨j, hjl⟩ := by
          simp [List.getD, hjl]
        rw [e]
        exact ⟨hd.1, by simpa [Nat.add_assoc] using hd.2.1⟩
      · simp only [List.mem_map, List.mem_attach, true_and] at hp
        obtain ⟨i, rfl⟩ := hp
        exact (hf' ⟨i.1, List.mem_range.1 i.2⟩).2.2
theorem en_trod {c0 c1 : Value} {x : DataW H × List MemPlace} {n' : Nat} (hf : DataW.trod enc Try.prog W 0 (fun _ => true) true n' 24 [c0, c1] = some x) : ∃ e : Et, c0 = .int .i64 e.ver ∧ c1 = .slice e.a e.ws.length e.c ∧ e.ok ∧ fitE e.ver e.ws ∧ WrAt W e.b e.o e.ws := by
  obtain ⟨xs, n', _, _, _, hlen, hg⟩ := DataW.trod_struct Try.underlying24 hf
  match xs, hlen with
  | [y0, y1], _ =>
    have c1' : Try.prog.cellsOf 3 = 1 := by kernel_rfl
    have c2' : Try.prog.cellsOf 22 = 1 := by kernel_rfl
    have h0 := hg 0 _ rfl
    have h1 := hg 1 _ rfl
    simp [c1', c2'] at h0 h1
    obtain ⟨a0, e0, _, f0⟩ := DataW.trod_int Try.underlying3 h0
    obtain ⟨a, k, S, b, o, rfl, q1, q2, q3⟩ := wr_trod h1
    simp at e0
    subst e0
    exact ⟨⟨a0, a, k, b, o, S⟩, rfl, rfl, q1, ⟨i64_of_wf f0, q3⟩, q2⟩
end
end Go.Proofs.Ytaclhiagfgmgkaa
