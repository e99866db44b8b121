
/-
  Layer 4: the signs.
-/
import Derived.Test.YtfkmcibglaiakaaDoorRows
import Derived.Test.YtfkmcibglaiakaaDoorBase
import Derived.Test.YtfkmcibglaiakaaDoorLx3
import Derived.WalkKit
namespace Go.Proofs.YtfkmcibglaiakaaDoor
open Go Go.RowKit SZ
set_option linter.unusedVariables false
set_option linter.unusedSimpArgs false
set_option maxRecDepth 100000
attribute [local irreducible] post GD Nxt NxtAll
theorem str_eq {l m : List Nat} (hl : ∀ b ∈ l, b < 256) (hm : ∀ b ∈ m, b < 256) : ((strOf l).toList == (strOf m).toList) = decide (l = m) := by
  by_cases h : l = m
  · subst h
    simp
  · rw [decide_eq_false h]
    rw [Bool.eq_false_iff]
    intro q
    have q2 := eq_of_beq q
    rw [ByteArray.toList_eq, ByteArray.toList_eq] at q2
    apply h
    refine strOf_inj hl hm ?_
    apply ByteArray.ext
    exact Array.ext' q2
theorem ex_eqL {s : SS} {bs : List Nat} {x y : Operand} {t t' ty : TypeId} {l m : List Nat} (hx : s.val x = some (.v (.string (strOf l)))) (hy : s.val y = some (.v (.string (strOf m)))) (hl : ∀ b ∈ l, b < 256) (hm : ∀ b ∈ m, b < 256) {b : Bool} (hb : decide (l = m) = b) :
    ∀ (o : Oper) (ρ : Operand → Value) (W : World), o.op = .binOp .eql t x y t' → o.type = ty → (∀ x y, s.val x = some y → ρ x = den bs y) → (execOp ρ o).run Tryd.prog W = .ok (.value (.bool b)) W := by
  intro o ρ W h1 h2 h3
  have e1 : ρ x = .string (strOf l) := h3 x _ hx
  have e2 : ρ y = .string (strOf m) := h3 y _ hy
  have e3 := str_eq hl hm
  rw [hb] at e3
  unfold execOp
  simp only [h1, e1, e2, eqGuard, binOp_string_eql, Sem.run_bind, Sem.run_pure, Result.andThen_ok, e3]
  rfl
theorem ex_neL {s : SS} {bs : List Nat} {x y : Operand} {t t' ty : TypeId} {l m : List Nat} (hx : s.val x = some (.v (.string (strOf l)))) (hy : s.val y = some (.v (.string (strOf m)))) (hl : ∀ b ∈ l, b < 256) (hm : ∀ b ∈ m, b < 256) {b : Bool} (hb : (!decide (l = m)) = b) :
    ∀ (o : Oper) (ρ : Operand → Value) (W : World), o.op = .binOp .neq t x y t' → o.type = ty → (∀ x y, s.val x = some y → ρ x = den bs y) → (execOp ρ o).run Tryd.prog W = .ok (.value (.bool b)) W := by
  intro o ρ W h1 h2 h3
  have e1 : ρ x = .string (strOf l) := h3 x _ hx
  have e2 : ρ y = .string (strOf m) := h3 y _ hy
  have e3 := str_eq hl hm
  unfold execOp
  simp only [h1, e1, e2, eqGuard, binOp_string_neq, Sem.run_bind, Sem.run_pure, Result.andThen_ok, e3, hb]
  rfl
/-- An element of an array. -/
theorem ex_ixA {s : SS} {bs : List Nat} {x y : Operand} {t e ty : TypeId} {n : Nat} {vs : List Value} {k : Nat} {v : Value} (ht : Tryd.prog.underlying t = some (.array n e)) (he : (Tryd.prog.info? e).map (·.size) = some 1) (hag : (isAgg e).run Tryd.prog = fun w => .ok false w) (hx : s.val x = some (.v (.agg vs.toArray))) (hy : s.val y = some (.v (.int .i64 (k : Int)))) (hk : k < n) (hv : vs[k]? = some v) :
    ∀ (o : Oper) (ρ : Operand → Value) (W : World), o.op = .index t x y → o.type = ty → (∀ x y, s.val x = some y → ρ x = den bs y) → (execOp ρ o).run Tryd.prog W = .ok (.value v) W := by
  intro o ρ W h1 h2 h3
  have e1 : ρ x = .agg vs.toArray := h3 x _ hx
  have e2 : ρ y = .int .i64 (k : Int) := h3 y _ hy
  obtain ⟨ii, hii, hsz⟩ := Option.map_eq_some_iff.1 he
  have hr : (Instr.index t (.agg vs.toArray) (.int .i64 (k : Int))).run Tryd.prog W = .ok v W := by
    have hb : 0 ≤ (k : Int) ∧ (k : Int) < (n : Int) := by omega
    have ha : ∀ w, (isAgg e).run Tryd.prog w = .ok false w := fun w => congrFun hag w
    simp [Instr.index, asIntOf, run_underlying ht, hb, sizeOf, typeInfo, hii, hsz, part, ha, hv]
    intro h; omega
  unfold execOp
  simp only [h1, e1, e2, Sem.run_bind, Sem.run_pure, Result.andThen_ok, hr]
theorem isAgg_str (w : World) : (isAgg 9).run Tryd.prog w = .ok false w := by simp
def sgL : List (List Nat) := [[59, 59], [124, 124], [38, 38], [61, 61], [46, 91], [58, 61], [45, 62], [40], [41], [93], [59], [44], [124], [61], [60], [43], [45], [42], [33]]
def sgV : List Value := sgL.map fun x => .string (strOf x)
theorem sgL_256 : ∀ m ∈ sgL, ∀ b ∈ m, b < 256 := by decide
def rfSg : RF := ⟨fun b => b = 0, fun w => ∀ i x, sgV[i]? = some x → w.cell? ⟨0, i, none⟩ = some x, fun w h b hb => by subst hb; exact World.block_lt_of_cell? w _ (h 0 _ rfl), fun w w' h hb i x hi => (World.cell?_of_block (a := ⟨0, i, none⟩) (hb 0 rfl)).trans (h i x hi)⟩
set_option maxHeartbeats 8000000 in
theorem hp0_t (w : World) (l m : List Nat) (hl : ∀ b ∈ l, b < 256) (hm : ∀ b ∈ m, b < 256) : Calls Tryd.prog 61 #[.string (strOf l), .string (strOf m)] w fun e w' => e = .returned (.bool (decide (l.take m.length = m))) ∧ Below w.heap.size w w' := by
  refine sy_enterF [] [] (by intro f hf; cases hf) Tryd.func61 rfl rfl fun aa S => ?_
  have hsl := strOf_size l
  have hsm := strOf_size m
  refine sy_run ⟨0, [1]⟩ 60 S fun bs aa w S => ?_
  refine sy_reg S fun S => ?_
  refine sy_ops 4 S fun bs aa w S => ?_
  refine sy_cast 6 S (congrArg (Value.int .i64) (by rw [hsl] : ((strOf l).size : Int) = (l.length : Int))) (by kernel_rfl) fun S => ?_
  refine sy_cast 8 S (congrArg (Value.int .i64) (by rw [hsm] : ((strOf m).size : Int) = (m.length : Int))) (by kernel_rfl) fun S => ?_
  refine sy_ops 1 S fun bs aa w S => ?_
  by_cases h : m.length ≤ l.length
  · refine sy_cast 9 S (congrArg Value.bool (decide_eq_true (by omega) : decide ((l.length : Int) ≥ (m.length : Int)) = true)) (by kernel_rfl) fun S => ?_
    refine sy_ops 4 S fun bs aa w S => ?_
    refine sy_cast 13 S (congrArg (Value.int .i64) (by rw [hsm] : ((strOf m).size : Int) = (m.length : Int))) (by kernel_rfl) fun S => ?_
    refine sy_ex (op := .slice 9 (.tmp 11) none (some (.tmp 13)) none) (ty := 9) (v := .string ((strOf l).extract 0 m.length)) S (by kernel_rfl) (ex_slS (l2 := none) (h2 := some (.v (.int .i64 (m.length : Int)))) Tryd.underlying9 (by kernel_rfl) rfl (by kernel_rfl) (fun W => slS_h (strOf l) m.length (by omega) W)) fun aa S => ?_
    refine sy_cast 14 S (congrArg Value.string (by rw [strOf_ext, List.drop_zero] : (strOf l).extract 0 m.length = strOf (l.take m.length))) (by kernel_rfl) fun S => ?_
    refine sy_ops 1 S fun bs aa w S => ?_
    refine sy_ex (op := .binOp .eql 9 (.tmp 14) (.tmp 15) 9) (ty := 4) (v := .bool (decide (l.take m.length = m))) S (by kernel_rfl) (ex_eqL (l := l.take m.length) (m := m) (by kernel_rfl) (by kernel_rfl) (fun b hb => hl b (List.mem_of_mem_take hb)) hm rfl) fun aa S => ?_
    refine sy_run ⟨0, []⟩ 60 S fun bs aa w S => ?_
    exact sy_ret S (by kernel_rfl) (by kernel_rfl) fun hg => ⟨rfl, bel_gr hg⟩
  · refine sy_cast 9 S (congrArg Value.bool (decide_eq_false (by omega) : decide ((l.length : Int) ≥ (m.length : Int)) = false)) (by kernel_rfl) fun S => ?_
    refine sy_run ⟨0, []⟩ 60 S fun bs aa w S => ?_
    rw [decide_eq_false (fun q => h (by have q2 := congrArg List.length q; rw [List.length_take] at q2; omega))]
    exact sy_ret S (by kernel_rfl) (by kernel_rfl) fun hg => ⟨rfl, bel_gr hg⟩
/-- The first of these that the text begins with. -/
def fstP (l : List Nat) : List (List Nat) → List Nat
  | [] => []
  | m :: r => if l.take m.length = m then m else fstP l r
theorem fstP_256 (l : List Nat) : ∀ r : List (List Nat), (∀ m ∈ r, ∀ b ∈ m, b < 256) → ∀ b ∈ fstP l r, b < 256
  | [], _, b, hb => by cases hb
  | m :: r, h, b, hb => by
    unfold fstP at hb
    split at hb
    · exact h m (by simp) b hb
    · exact fstP_256 l r (fun q hq => h q (by simp [hq])) b hb
noncomputable def sgS (l : List Nat) (i : Nat) : SS := ⟨14, [(0, .v (.string (strOf l))), (5, .v (.agg sgV.toArray)), (6, .v (.int .i64 (i : Int)))], []⟩
end Go.Proofs.YtfkmcibglaiakaaDoor
