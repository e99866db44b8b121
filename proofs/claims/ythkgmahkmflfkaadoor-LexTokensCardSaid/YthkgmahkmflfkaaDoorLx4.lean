
/-
  Layer 4: the signs.
-/
import Derived.Test.YthkgmahkmflfkaaDoorRows
import Derived.Test.YthkgmahkmflfkaaDoorBase
import Derived.Test.YthkgmahkmflfkaaDoorLx3
import Derived.WalkKit
namespace Go.Proofs.YthkgmahkmflfkaaDoor
open Go Go.RowKit SZ
set_option linter.unusedVariables false
set_option linter.unusedSimpArgs false
set_option maxRecDepth 100000
attribute [local irreducible] post GD Nxt NxtAll
theorem str_eq {l m : List Nat} (hl : ∀ b ∈ l, b < 256) (hm : ∀ b ∈ m, b < 256) : ((strOf l).toList == (strOf m).toList) = decide (l = m) := by
  by_cases h : l = m
  · subst h
    simp
  · rw [decide_eq_false h]
    rw [Bool.eq_false_iff]
    intro q
    have q2 := eq_of_beq q
    rw [ByteArray.toList_eq, ByteArray.toList_eq] at q2
    apply h
    refine strOf_inj hl hm ?_
    apply ByteArray.ext
    exact Array.ext' q2
theorem ex_eqL {s : SS} {bs : List Nat} {x y : Operand} {t t' ty : TypeId} {l m : List Nat} (hx : s.val x = some (.v (.string (strOf l)))) (hy : s.val y = some (.v (.string (strOf m)))) (hl : ∀ b ∈ l, b < 256) (hm : ∀ b ∈ m, b < 256) {b : Bool} (hb : decide (l = m) = b) :
    ∀ (o : Oper) (ρ : Operand → Value) (W : World), o.op = .binOp .eql t x y t' → o.type = ty → (∀ x y, s.val x = some y → ρ x = den bs y) → (execOp ρ o).run Tryd.prog W = .ok (.value (.bool b)) W := by
  intro o ρ W h1 h2 h3
  have e1 : ρ x = .string (strOf l) := h3 x _ hx
  have e2 : ρ y = .string (strOf m) := h3 y _ hy
  have e3 := str_eq hl hm
  rw [hb] at e3
  unfold execOp
  simp only [h1, e1, e2, eqGuard, binOp_string_eql, Sem.run_bind, Sem.run_pure, Result.andThen_ok, e3]
  rfl
theorem ex_neL {s : SS} {bs : List Nat} {x y : Operand} {t t' ty : TypeId} {l m : List Nat} (hx : s.val x = some (.v (.string (strOf l)))) (hy : s.val y = some (.v (.string (strOf m)))) (hl : ∀ b ∈ l, b < 256) (hm : ∀ b ∈ m, b < 256) {b : Bool} (hb : (!decide (l = m)) = b) :
    ∀ (o : Oper) (ρ : Operand → Value) (W : World), o.op = .binOp .neq t x y t' → o.type = ty → (∀ x y, s.val x = some y → ρ x = den bs y) → (execOp ρ o).run Tryd.prog W = .ok (.value (.bool b)) W := by
  intro o ρ W h1 h2 h3
  have e1 : ρ x = .string (strOf l) := h3 x _ hx
  have e2 : ρ y = .string (strOf m) := h3 y _ hy
  have e3 := str_eq hl hm
  unfold execOp
  simp only [h1, e1, e2, eqGuard, binOp_string_neq, Sem.run_bind, Sem.run_pure, Result.andThen_ok, e3, hb]
  rfl
/-- An element of an array. -/
theorem ex_ixA {s : SS} {bs : List Nat} {x y : Operand} {t e ty : TypeId} {n : Nat} {vs : List Value} {k : Nat} {v : Value} (ht : Tryd.prog.underlying t = some (.array n e)) (he : (Tryd.prog.info? e).map (·.size) = some 1) (hag : (isAgg e).run Tryd.prog = fun w => .ok false w) (hx : s.val x = some (.v (.agg vs.toArray))) (hy : s.val y = some (.v (.int .i64 (k : Int)))) (hk : k < n) (hv : vs[k]? = some v) :
    ∀ (o : Oper) (ρ : Operand → Value) (W : World), o.op = .index t x y → o.type = ty → (∀ x y, s.val x = some y → ρ x = den bs y) → (execOp ρ o).run Tryd.prog W = .ok (.value v) W := by
  intro o ρ W h1 h2 h3
  have e1 : ρ x = .agg vs.toArray := h3 x _ hx
  have e2 : ρ y = .int .i64 (k : Int) := h3 y _ hy
  obtain ⟨ii, hii, hsz⟩ := Option.map_eq_some_iff.1 he
  have hr : (Instr.index t (.agg vs.toArray) (.int .i64 (k : Int))).run Tryd.prog W = .ok v W := by
    have hb : 0 ≤ (k : Int) ∧ (k : Int) < (n : Int) := by omega
    have ha : ∀ w, (isAgg e).run Tryd.prog w = .ok false w := fun w => congrFun hag w
    simp [Instr.index, asIntOf, run_underlying ht, hb, sizeOf, typeInfo, hii, hsz, part, ha, hv]
    intro h; omega
  unfold execOp
  simp only [h1, e1, e2, Sem.run_bind, Sem.run_pure, Result.andThen_ok, hr]
theorem isAgg_str (w : World) : (isAgg 9).run Tryd.prog w = .ok false w := by simp
def sgL : List (List Nat) := [[59, 59], [124, 124], [38, 38], [61, 61], [46, 91], [58, 61], [45, 62], [40], [41], [93], [59], [44], [124], [61], [60], [43], [45], [42], [33]]
def sgV : List Value := sgL.map fun x => .string (strOf x)
theorem sgL_256 : ∀ m ∈ sgL, ∀ b ∈ m, b < 256 := by decide
def rfSg : RF := ⟨fun b => b = 0, fun w => ∀ i x, sgV[i]? = some x → w.cell? ⟨0, i, none⟩ = some x, fun w h b hb => by subst hb; exact World.block_lt_of_cell? w _ (h 0 _ rfl), fun w w' h hb i x hi => (World.cell?_of_block (a := ⟨0, i, none⟩) (hb 0 rfl)).trans (h i x hi)⟩
theorem ld_sg {w : World} (h : rfSg.P w) : (loadVar 60 ⟨0, 0, none⟩).run Tryd.prog w = .ok (.agg sgV.toArray) w := by
  refine run_loadVar_mid w 0 0 60 sgV _ ?_ Tryd.underlying60 rfl (by kernel_rfl)
  intro i x hi
  rw [Nat.zero_add]
  exact h i x hi
set_option maxHeartbeats 8000000 in
theorem hp0_t (w : World) (l m : List Nat) (hl : ∀ b ∈ l, b < 256) (hm : ∀ b ∈ m, b < 256) : Calls Tryd.prog 36 #[.string (strOf l), .string (strOf m)] w fun e w' => e = .returned (.bool (decide (l.take m.length = m))) ∧ Below w.heap.size w w' := by
  refine sy_enterF [] [] (by intro f hf; cases hf) Tryd.func36 rfl rfl fun aa S => ?_
  have hsl := strOf_size l
  have hsm := strOf_size m
  refine sy_run ⟨0, [1]⟩ 60 S fun bs aa w S => ?_
  refine sy_reg S fun S => ?_
  refine sy_ops 4 S fun bs aa w S => ?_
  refine sy_cast 6 S (congrArg (Value.int .i64) (by rw [hsl] : ((strOf l).size : Int) = (l.length : Int))) (by kernel_rfl) fun S => ?_
  refine sy_cast 8 S (congrArg (Value.int .i64) (by rw [hsm] : ((strOf m).size : Int) = (m.length : Int))) (by kernel_rfl) fun S => ?_
  refine sy_ops 1 S fun bs aa w S => ?_
  by_cases h : m.length ≤ l.length
  · refine sy_cast 9 S (congrArg Value.bool (decide_eq_true (by omega) : decide ((l.length : Int) ≥ (m.length : Int)) = true)) (by kernel_rfl) fun S => ?_
    refine sy_ops 4 S fun bs aa w S => ?_
    refine sy_cast 13 S (congrArg (Value.int .i64) (by rw [hsm] : ((strOf m).size : Int) = (m.length : Int))) (by kernel_rfl) fun S => ?_
    refine sy_ex (op := .slice 9 (.tmp 11) none (some (.tmp 13)) none) (ty := 9) (v := .string ((strOf l).extract 0 m.length)) S (by kernel_rfl) (ex_slS (l2 := none) (h2 := some (.v (.int .i64 (m.length : Int)))) Tryd.underlying9 (by kernel_rfl) rfl (by kernel_rfl) (fun W => slS_h (strOf l) m.length (by omega) W)) fun aa S => ?_
    refine sy_cast 14 S (congrArg Value.string (by rw [strOf_ext, List.drop_zero] : (strOf l).extract 0 m.length = strOf (l.take m.length))) (by kernel_rfl) fun S => ?_
    refine sy_ops 1 S fun bs aa w S => ?_
    refine sy_ex (op := .binOp .eql 9 (.tmp 14) (.tmp 15) 9) (ty := 4) (v := .bool (decide (l.take m.length = m))) S (by kernel_rfl) (ex_eqL (l := l.take m.length) (m := m) (by kernel_rfl) (by kernel_rfl) (fun b hb => hl b (List.mem_of_mem_take hb)) hm rfl) fun aa S => ?_
    refine sy_run ⟨0, []⟩ 60 S fun bs aa w S => ?_
    exact sy_ret S (by kernel_rfl) (by kernel_rfl) fun hg => ⟨rfl, bel_gr hg⟩
  · refine sy_cast 9 S (congrArg Value.bool (decide_eq_false (by omega) : decide ((l.length : Int) ≥ (m.length : Int)) = false)) (by kernel_rfl) fun S => ?_
    refine sy_run ⟨0, []⟩ 60 S fun bs aa w S => ?_
    rw [decide_eq_false (fun q => h (by have q2 := congrArg List.length q; rw [List.length_take] at q2; omega))]
    exact sy_ret S (by kernel_rfl) (by kernel_rfl) fun hg => ⟨rfl, bel_gr hg⟩
set_option maxHeartbeats 8000000 in
theorem hp_t (w : World) (l m : List Nat) (hl : ∀ b ∈ l, b < 256) (hm : ∀ b ∈ m, b < 256) : Calls Tryd.prog 33 #[.string (strOf l), .string (strOf m)] w fun e w' => e = .returned (.bool (decide (l.take m.length = m))) ∧ Below w.heap.size w w' := by
  refine sy_enterF [] [] (by intro f hf; cases hf) Tryd.func33 rfl rfl fun aa S => ?_
  refine sy_run ⟨0, [1]⟩ 60 S fun bs aa w S => ?_
  refine sy_reg S fun S => ?_
  refine sy_ops 2 S fun bs aa w S => ?_
  refine sy_call1 S (hp0_t w l m hl hm) (by kernel_rfl) fun aa w hb S => ?_
  refine sy_run ⟨0, []⟩ 60 S fun bs aa w S => ?_
  exact sy_ret S (by kernel_rfl) (by kernel_rfl) fun hg => ⟨rfl, bel_gr hg⟩
/-- The first of these that the text begins with. -/
def fstP (l : List Nat) : List (List Nat) → List Nat
  | [] => []
  | m :: r => if l.take m.length = m then m else fstP l r
theorem fstP_256 (l : List Nat) : ∀ r : List (List Nat), (∀ m ∈ r, ∀ b ∈ m, b < 256) → ∀ b ∈ fstP l r, b < 256
  | [], _, b, hb => by cases hb
  | m :: r, h, b, hb => by
    unfold fstP at hb
    split at hb
    · exact h m (by simp) b hb
    · exact fstP_256 l r (fun q hq => h q (by simp [hq])) b hb
noncomputable def sgC : Cfg := ⟨goZ 60 [] [.code (bodyOf Tryd.f29)], ⟨0, [], []⟩⟩
noncomputable def sgS (l : List Nat) (i : Nat) : SS := ⟨14, [(0, .v (.string (strOf l))), (5, .v (.agg sgV.toArray)), (6, .v (.int .i64 (i : Int)))], []⟩
set_option maxHeartbeats 8000000 in
theorem sg_e (w0 : World) (l : List Nat) (hl : ∀ b ∈ l, b < 256) (m : Nat) (hr : fstP l sgL = []) (aa : Act) (w : World) (S : Sy w0 [] [] (sgS l (19)) [] aa w) : post Tryd.prog (.rnd (m + 1) (bodyL sgC) :: sgC.k.tail) (bodyPost Tryd.prog Tryd.f29 (fun e w' => e = .returned (.string (strOf (fstP l sgL))) ∧ Below w0.heap.size w0 w')) .normal aa w := by
  refine sy_run (c := ⟨(.rnd (m + 1) (bodyL sgC) :: sgC.k.tail), sgS l 19⟩) ⟨0, [2]⟩ 50 S fun bs aa w S => ?_
  refine sy_reg S fun S => ?_
  refine sy_ops 1 S fun bs aa w S => ?_
  refine sy_cast 7 S (congrArg Value.bool (decide_eq_false (by omega) : decide (((19 : Nat) : Int) < 19) = false)) (by kernel_rfl) fun S => ?_
  refine sy_run ⟨0, []⟩ 60 S fun bs aa w S => ?_
  rw [hr]
  exact sy_ret S (by kernel_rfl) (by kernel_rfl) fun hg => ⟨rfl, bel_gr hg⟩
set_option maxHeartbeats 8000000 in
theorem sg_s (w0 : World) (l : List Nat) (hl : ∀ b ∈ l, b < 256) (m i : Nat) (hi : i < 19) (x : List Nat) (hx : sgL[i]? = some x) (hr : fstP l sgL = fstP l (sgL.drop i)) (ih : fstP l sgL = fstP l (sgL.drop (i + 1)) → ∀ (aa : Act) (w : World) (S : Sy w0 [] [] (sgS l (i + 1)) [] aa w), post Tryd.prog (.rnd (m) (bodyL sgC) :: sgC.k.tail) (bodyPost Tryd.prog Tryd.f29 (fun e w' => e = .returned (.string (strOf (fstP l sgL))) ∧ Below w0.heap.size w0 w')) .normal aa w) (aa : Act) (w : World) (S : Sy w0 [] [] (sgS l (i)) [] aa w) : post Tryd.prog (.rnd (m + 1) (bodyL sgC) :: sgC.k.tail) (bodyPost Tryd.prog Tryd.f29 (fun e w' => e = .returned (.string (strOf (fstP l sgL))) ∧ Below w0.heap.size w0 w')) .normal aa w := by
  have hm : ∀ b ∈ x, b < 256 := sgL_256 x (List.mem_of_getElem? hx)
  have hd : sgL.drop i = x :: sgL.drop (i + 1) := by
    obtain ⟨h1, h2⟩ := List.getElem?_eq_some_iff.1 hx
    rw [← h2]
    exact List.drop_eq_getElem_cons h1
  rw [hd] at hr
  refine sy_run (c := ⟨(.rnd (m + 1) (bodyL sgC) :: sgC.k.tail), sgS l i⟩) ⟨0, [2]⟩ 50 S fun bs aa w S => ?_
  refine sy_reg S fun S => ?_
  refine sy_ops 1 S fun bs aa w S => ?_
  refine sy_cast 7 S (congrArg Value.bool (decide_eq_true (by omega) : decide ((i : Int) < 19) = true)) (by kernel_rfl) fun S => ?_
  refine sy_run ⟨0, [3]⟩ 60 S fun bs aa w S => ?_
  refine sy_reg S fun S => ?_
  refine sy_ex (op := .index 60 (.tmp 5) (.tmp 6)) (ty := 9) (v := .string (strOf x)) S (by kernel_rfl) (ex_ixA (n := 19) (e := 9) (vs := sgV) (k := i) Tryd.underlying60 (by kernel_rfl) (funext fun w => by rw [isAgg_str]) (by kernel_rfl) (by kernel_rfl) hi (by unfold sgV; rw [List.getElem?_map, hx]; rfl)) fun aa S => ?_
  refine sy_run ⟨0, [4]⟩ 60 S fun bs aa w S => ?_
  refine sy_reg S fun S => ?_
  refine sy_ops 2 S fun bs aa w S => ?_
  by_cases h : l.take x.length = x
  · refine sy_call1 S (by have q := hp_t w l x hl hm; rw [decide_eq_true h] at q; exact q) (by kernel_rfl) fun aa w hb S => ?_
    refine sy_run ⟨0, []⟩ 60 S fun bs aa w S => ?_
    rw [show fstP l sgL = x by rw [hr]; unfold fstP; rw [if_pos h]]
    exact sy_ret S (by kernel_rfl) (by kernel_rfl) fun hg => ⟨rfl, bel_gr hg⟩
  · refine sy_call1 S (by have q := hp_t w l x hl hm; rw [decide_eq_false h] at q; exact q) (by kernel_rfl) fun aa w hb S => ?_
    refine sy_run ⟨0, [6]⟩ 60 S fun bs aa w S => ?_
    refine sy_reg S fun S => ?_
    refine sy_ops 1 S fun bs aa w S => ?_
    refine sy_cast 13 S (congrArg (Value.int .i64) (by rw [IntKind.wrap_i64]; omega : IntKind.i64.wrap ((i : Int) + 1) = ((i + 1 : Nat) : Int))) (by kernel_rfl) fun S => ?_
    refine sy_run ⟨0, [999]⟩ 50 S fun bs aa w S => ?_
    have S2 := S.to [] (sgS l (i + 1)) (by kernel_rfl) (by kernel_rfl) (by kernel_rfl) (by kernel_rfl) (by kernel_rfl)
    refine sy_at2 (k' := (.rnd (m) (bodyL sgC) :: sgC.k.tail)) (by kernel_rfl) ?_
    exact ih (by rw [hr]; conv => lhs; unfold fstP; rw [if_neg h]) aa w S2
theorem sg_a (w0 : World) (l : List Nat) (hl : ∀ b ∈ l, b < 256) : ∀ (m i : Nat), i + m = 19 → fstP l sgL = fstP l (sgL.drop i) → ∀ (aa : Act) (w : World) (S : Sy w0 [] [] (sgS l (i)) [] aa w), post Tryd.prog (.rnd (m + 1) (bodyL sgC) :: sgC.k.tail) (bodyPost Tryd.prog Tryd.f29 (fun e w' => e = .returned (.string (strOf (fstP l sgL))) ∧ Below w0.heap.size w0 w')) .normal aa w := by
  intro m
  induction m with
  | zero =>
    intro i hi hr aa w S
    obtain rfl : i = 19 := by omega
    exact sg_e w0 l hl 0 hr aa w S
  | succ m ih =>
    intro i hi hr aa w S
    exact sg_s w0 l hl (m + 1) i (by omega) _ (List.getElem?_eq_getElem (show i < sgL.length by show i < 19; omega)) hr (fun hr aa w S => ih (i + 1) (by omega) hr aa w S) aa w S
set_option maxHeartbeats 8000000 in
theorem sg_t (w0 : World) (l : List Nat) (hl : ∀ b ∈ l, b < 256) (hG : rfSg.P w0) : Calls Tryd.prog 29 #[.string (strOf l)] w0 (fun e w' => e = .returned (.string (strOf (fstP l sgL))) ∧ Below w0.heap.size w0 w') := by
  refine sy_enterF [] [rfSg] (by intro f hf; simp only [List.mem_singleton] at hf; subst hf; exact hG) Tryd.func29 rfl rfl fun aa S => ?_
  refine sy_run ⟨0, [1]⟩ 60 S fun bs aa w S => ?_
  refine sy_reg S fun S => ?_
  have hld := ld_sg (S.fact (f := rfSg) (by simp))
  refine sy_exE (op := .load 60 (.global 0)) (ty := 60) (v := .agg sgV.toArray) S (by kernel_rfl) (fun o ρ h1 h2 h3 h4 => by
    unfold execOp
    simp only [h1, h4, Instr.loadAt, Instr.sureAddr, Sem.run_bind, Sem.run_pure, Result.andThen_ok, hld]) fun aa S => ?_
  refine sy_run ⟨0, []⟩ 60 S fun bs aa w S => ?_
  have S := S.sub (F' := []) (fun f hf => by cases hf)
  have S2 := S.to [] (sgS l 0) (by kernel_rfl) (by kernel_rfl) (by kernel_rfl) (by kernel_rfl) (by kernel_rfl)
  refine sy_loop (19 + 1) (by kernel_rfl) ?_
  refine sy_at2 (k' := (.rnd (19 + 1) (bodyL sgC) :: sgC.k.tail)) (by kernel_rfl) ?_
  exact sg_a w0 l hl 19 0 rfl rfl aa w S2
end Go.Proofs.YthkgmahkmflfkaaDoor
