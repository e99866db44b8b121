/-
  Merged: Dk19, Dk20, Dk21, Dk22, Dk23, Dk24, Dk13, Dk14
-/
import Derived.Test.YtnlcjlhcghgaoaaRows
import Derived.Test.YtnlcjlhcghgaoaaPm2
import Derived.Test.YtnlcjlhcghgaoaaPm10
import Derived.WalkKit
import Derived.Test.YtnlcjlhcghgaoaaPm9
import Derived.Test.YtnlcjlhcghgaoaaPm8

/-
  Layer 22: whether two devices are the same.
-/
namespace Go.Proofs.Ytnlcjlhcghgaoaa
open Go Go.RowKit SZ
set_option linter.unusedVariables false
set_option linter.unusedSimpArgs false
set_option maxRecDepth 100000
attribute [local irreducible] post GD Nxt NxtAll
theorem tl_eq (a b : ByteArray) : (a.toList == b.toList) = decide (a = b) := by
  by_cases h : a = b
  · subst h; simp
  · have : ¬ a.toList = b.toList := fun e => h (Go.WideShapes.bytes_inj (by rw [← ByteArray.toList_eq, ← ByteArray.toList_eq]; exact e))
    rw [decide_eq_false h]
    exact beq_eq_false_iff_ne.2 this
theorem was_struct : Try.prog.underlying 46 = some (.struct (Try.prog.fieldsOf 46)) := by kernel_rfl
theorem was_held : Try.prog.stoodInHeld 46 = false := by kernel_rfl
theorem was_neq (a b : Int × ByteArray) (w : World) : (binOp .neq 46 (.agg #[.int .i64 a.1, .string a.2]) (.agg #[.int .i64 b.1, .string b.2])).run Try.prog w = .ok (.bool (!decide (a = b))) w := by
  rw [run_neq_struct, show (10000 : Nat) = 9999 + 1 from rfl, run_equalIn_agg w 9999 46 _ _ was_struct was_held]
  have u3 := Try.underlying3
  have a3 := Try.isAgg3
  have z3 := Try.sizeOf3
  have u4 := Try.underlying9
  have a4 := Try.isAgg9
  have z4 := Try.sizeOf9
  simp only [Program.fieldsOf, Try.underlying46]
  go_simp
  obtain ⟨a1, a2⟩ := a
  obtain ⟨b1, b2⟩ := b
  have e := tl_eq a2 b2
  simp only [Prod.mk.injEq] at *
  by_cases h1 : a1 = b1 <;> by_cases h2 : a2 = b2 <;> simp_all
theorem was_guard : Try.prog.eqGuardType Try.prog.depth 46 = false := by kernel_rfl
theorem ex_neW {s : SS} {bs : List Nat} {x y : Operand} {t' ty : TypeId} {p q : Int × ByteArray} {b : Bool} (hx : s.val x = some (.v (.agg #[.int .i64 p.1, .string p.2]))) (hy : s.val y = some (.v (.agg #[.int .i64 q.1, .string q.2]))) (hb : (!decide (p = q)) = b) :
    ∀ (o : Oper) (ρ : Operand → Value) (W : World), o.op = .binOp .neq 46 x y t' → o.type = ty → (∀ x y, s.val x = some y → ρ x = den bs y) → (execOp ρ o).run Try.prog W = .ok (.value (.bool b)) W := by
  intro o ρ W h1 h2 h3
  have e1 : ρ x = (.agg #[.int .i64 p.1, .string p.2]) := h3 x _ hx
  have e2 : ρ y = (.agg #[.int .i64 q.1, .string q.2]) := h3 y _ hy
  subst hb
  have hg : ∀ W, (eqGuard .neq 46 x y (.agg #[.int .i64 p.1, .string p.2]) (.agg #[.int .i64 q.1, .string q.2])).run Try.prog W = .ok () W := fun W => run_eqGuard_agg W .neq 46 x y _ _ was_guard
  have hr : ∀ W, (binOp .neq 46 (.agg #[.int .i64 p.1, .string p.2]) (.agg #[.int .i64 q.1, .string q.2])).run Try.prog W = .ok (.bool (!decide (p = q))) W := fun W => was_neq p q W
  unfold execOp
  simp only [h1, e1, e2, hg, hr, Sem.run_bind, Sem.run_pure, Result.andThen_ok]
theorem eq_upto {α : Type} (z : α) (l m : List α) (hl : l.length = m.length) (h : ∀ i, i < l.length → l.getD i z = m.getD i z) : l = m := by
  apply List.ext_getElem hl
  intro i h1 h2
  have := h i h1
  simpa [List.getD, List.getElem?_eq_getElem h1, List.getElem?_eq_getElem h2] using this
def sameB (a b : Dk) : Bool := decide (a.S = b.S) && decide (a.W = b.W)
noncomputable def we1 : Cfg := ⟨goZ 60 [0] [.code (bodyOf Try.f29)], ⟨0, [], []⟩⟩
noncomputable def weS (a b : Dk) (j : Nat) : SS := ⟨26, [(0, .v (.slice a.ta a.tl a.tc)), (1, .v (.slice b.ta b.tl b.tc)), (12, .v (.int .i64 (a.tl : Int))), (13, .v (.int .i64 (j : Int)))], []⟩
set_option maxHeartbeats 8000000 in
theorem we_e (w0 : World) (a b : Dk) (ha : a.gen) (hb : b.gen) (h6 : a.sl ≤ 600 ∧ a.tl ≤ 100) (hl : a.tl = b.tl) (m : Nat) (hv : ∀ i, i < a.tl → (a.W.getD i (0, ByteArray.empty)) = (b.W.getD i (0, ByteArray.empty))) (aa : Act) (w : World) (S : Sy w0 [] [] (weS a b (a.tl)) [rfSt a.b a.o a.S, rfWs a.c a.p a.W, rfSt b.b b.o b.S, rfWs b.c b.p b.W] aa w) : post Try.prog (.rnd (m + 1) (bodyL we1) :: we1.k.tail) (bodyPost Try.prog Try.f29 fun e w' => e = .returned (.bool (decide (a.W = b.W))) ∧ Below w0.heap.size w0 w') .normal aa w := by
  refine sy_run (c := ⟨(.rnd (m + 1) (bodyL we1) :: we1.k.tail), weS a b (a.tl)⟩) ⟨0, [4]⟩ 50 S fun bs aa w S => ?_
  refine sy_reg S fun S => ?_
  refine sy_ops 1 S fun bs aa w S => ?_
  refine sy_cast 14 S (congrArg Value.bool (decide_eq_false (by omega) : decide ((a.tl : Int) < (a.tl : Int)) = false)) (by kernel_rfl) fun S => ?_
  refine sy_run ⟨0, []⟩ 60 S fun bs aa w S => ?_
  rw [decide_eq_true (eq_upto (0, ByteArray.empty) a.W b.W (by rw [ha.hW, hb.hW]; exact hl) (fun i hi => hv i (by rw [← ha.hW]; exact hi)))]
  exact sy_ret S (by kernel_rfl) (by kernel_rfl) fun hg => ⟨rfl, bel_gr hg⟩
set_option maxHeartbeats 8000000 in
theorem we_s (w0 : World) (a b : Dk) (ha : a.gen) (hb : b.gen) (h6 : a.sl ≤ 600 ∧ a.tl ≤ 100) (hl : a.tl = b.tl) (m j : Nat) (hj : j < a.tl) (hp : (a.W.getD j (0, ByteArray.empty)) = (b.W.getD j (0, ByteArray.empty))) (ih : (∀ i, i < j + 1 → (a.W.getD i (0, ByteArray.empty)) = (b.W.getD i (0, ByteArray.empty))) → ∀ (aa : Act) (w : World) (S : Sy w0 [] [] (weS a b (j + 1)) [rfSt a.b a.o a.S, rfWs a.c a.p a.W, rfSt b.b b.o b.S, rfWs b.c b.p b.W] aa w), post Try.prog (.rnd (m) (bodyL we1) :: we1.k.tail) (bodyPost Try.prog Try.f29 fun e w' => e = .returned (.bool (decide (a.W = b.W))) ∧ Below w0.heap.size w0 w') .normal aa w) (hv : ∀ i, i < j → (a.W.getD i (0, ByteArray.empty)) = (b.W.getD i (0, ByteArray.empty))) (aa : Act) (w : World) (S : Sy w0 [] [] (weS a b (j)) [rfSt a.b a.o a.S, rfWs a.c a.p a.W, rfSt b.b b.o b.S, rfWs b.c b.p b.W] aa w) : post Try.prog (.rnd (m + 1) (bodyL we1) :: we1.k.tail) (bodyPost Try.prog Try.f29 fun e w' => e = .returned (.bool (decide (a.W = b.W))) ∧ Below w0.heap.size w0 w') .normal aa w := by
  refine sy_run (c := ⟨(.rnd (m + 1) (bodyL we1) :: we1.k.tail), weS a b (j)⟩) ⟨0, [4]⟩ 50 S fun bs aa w S => ?_
  refine sy_reg S fun S => ?_
  refine sy_ops 1 S fun bs aa w S => ?_
  refine sy_cast 14 S (congrArg Value.bool (decide_eq_true (by omega) : decide ((j : Int) < (a.tl : Int)) = true)) (by kernel_rfl) fun S => ?_
  refine sy_run ⟨0, []⟩ 60 S fun bs aa w S => ?_
  letI : KP := ⟨[24]⟩
  letI : HF := ⟨[rfSt a.b a.o a.S, rfWs a.c a.p a.W, rfSt b.b b.o b.S, rfWs b.c b.p b.W]⟩
  refine dr_enter [] (by kernel_rfl) (by kernel_rfl) S (by kernel_rfl) (fun aa w D => ?_) (fun f hf => hf)
  refine dr_tix 2 D (by kernel_rfl) (by kernel_rfl) (by kernel_rfl) (b := a.c) (off := a.p) (len := a.tl) (n := j) (size := 2) (ix := (j : Int)) (by rw [← ha.hw.resolve_left (by omega)]; kernel_rfl) rfl (by omega) fun aa D => ?_
  refine dr_tld 3 D (by kernel_rfl) (by kernel_rfl) (by kernel_rfl) (ty := 46) (ad := ⟨a.c, a.p + j * 2, none⟩) (v := (.agg #[.int .i64 (a.W.getD j (0, ByteArray.empty)).1, .string (a.W.getD j (0, ByteArray.empty)).2])) (fun W hW => ld_was (j := j) (show WasAt W a.c a.p a.W from hW (rfWs a.c a.p a.W) (by show _ ∈ [rfSt a.b a.o a.S, rfWs a.c a.p a.W, rfSt b.b b.o b.S, rfWs b.c b.p b.W]; simp)) (by rw [ha.hW]; omega)) (by kernel_rfl) fun aa D => ?_
  refine dr_tix 6 D (by kernel_rfl) (by kernel_rfl) (by kernel_rfl) (b := b.c) (off := b.p) (len := b.tl) (n := j) (size := 2) (ix := (j : Int)) (by rw [← hb.hw.resolve_left (by omega)]; kernel_rfl) rfl (by omega) fun aa D => ?_
  refine dr_tld 7 D (by kernel_rfl) (by kernel_rfl) (by kernel_rfl) (ty := 46) (ad := ⟨b.c, b.p + j * 2, none⟩) (v := (.agg #[.int .i64 (b.W.getD j (0, ByteArray.empty)).1, .string (b.W.getD j (0, ByteArray.empty)).2])) (fun W hW => ld_was (j := j) (show WasAt W b.c b.p b.W from hW (rfWs b.c b.p b.W) (by show _ ∈ [rfSt a.b a.o a.S, rfWs a.c a.p a.W, rfSt b.b b.o b.S, rfWs b.c b.p b.W]; simp)) (by rw [hb.hW]; omega)) (by kernel_rfl) fun aa D => ?_
  refine dr_ex2 (fun d v c a w h => by cases d <;> exact h) 8 (op := .binOp .neq 46 (.tmp 19) (.tmp 23) 46) (ty := 4) (v := .bool false) D (by kernel_rfl) (by kernel_rfl) (by kernel_rfl) (by kernel_rfl) (ex_neW (p := (a.W.getD j (0, ByteArray.empty))) (q := (b.W.getD j (0, ByteArray.empty))) (by kernel_rfl) (by kernel_rfl) (by rw [decide_eq_true hp]; rfl)) fun aa D => ?_
  refine dr_end D (by kernel_rfl) fun S => ?_
  refine sy_run ⟨0, [8]⟩ 60 S fun bs aa w S => ?_
  refine sy_reg S fun S => ?_
  refine sy_ops 1 S fun bs aa w S => ?_
  refine sy_cast 25 S (congrArg (Value.int .i64) (by rw [IntKind.wrap_i64]; omega : IntKind.i64.wrap ((j : Int) + 1) = ((j + 1 : Nat) : Int))) (by kernel_rfl) fun S => ?_
  refine sy_run ⟨0, [999]⟩ 50 S fun bs aa w S => ?_
  have S2 := S.to [] (weS a b (j + 1)) (by kernel_rfl) (by kernel_rfl) (by kernel_rfl) (by kernel_rfl) (by kernel_rfl)
  refine sy_at2 (k' := (.rnd (m) (bodyL we1) :: we1.k.tail)) (by kernel_rfl) ?_
  exact ih (upto_succ hv hp) aa w S2
set_option maxHeartbeats 8000000 in
theorem we_b (w0 : World) (a b : Dk) (ha : a.gen) (hb : b.gen) (h6 : a.sl ≤ 600 ∧ a.tl ≤ 100) (hl : a.tl = b.tl) (m j : Nat) (hj : j < a.tl) (hp : ¬(a.W.getD j (0, ByteArray.empty)) = (b.W.getD j (0, ByteArray.empty))) (aa : Act) (w : World) (S : Sy w0 [] [] (weS a b (j)) [rfSt a.b a.o a.S, rfWs a.c a.p a.W, rfSt b.b b.o b.S, rfWs b.c b.p b.W] aa w) : post Try.prog (.rnd (m + 1) (bodyL we1) :: we1.k.tail) (bodyPost Try.prog Try.f29 fun e w' => e = .returned (.bool (decide (a.W = b.W))) ∧ Below w0.heap.size w0 w') .normal aa w := by
  refine sy_run (c := ⟨(.rnd (m + 1) (bodyL we1) :: we1.k.tail), weS a b (j)⟩) ⟨0, [4]⟩ 50 S fun bs aa w S => ?_
  refine sy_reg S fun S => ?_
  refine sy_ops 1 S fun bs aa w S => ?_
  refine sy_cast 14 S (congrArg Value.bool (decide_eq_true (by omega) : decide ((j : Int) < (a.tl : Int)) = true)) (by kernel_rfl) fun S => ?_
  refine sy_run ⟨0, []⟩ 60 S fun bs aa w S => ?_
  letI : KP := ⟨[24]⟩
  letI : HF := ⟨[rfSt a.b a.o a.S, rfWs a.c a.p a.W, rfSt b.b b.o b.S, rfWs b.c b.p b.W]⟩
  refine dr_enter [] (by kernel_rfl) (by kernel_rfl) S (by kernel_rfl) (fun aa w D => ?_) (fun f hf => hf)
  refine dr_tix 2 D (by kernel_rfl) (by kernel_rfl) (by kernel_rfl) (b := a.c) (off := a.p) (len := a.tl) (n := j) (size := 2) (ix := (j : Int)) (by rw [← ha.hw.resolve_left (by omega)]; kernel_rfl) rfl (by omega) fun aa D => ?_
  refine dr_tld 3 D (by kernel_rfl) (by kernel_rfl) (by kernel_rfl) (ty := 46) (ad := ⟨a.c, a.p + j * 2, none⟩) (v := (.agg #[.int .i64 (a.W.getD j (0, ByteArray.empty)).1, .string (a.W.getD j (0, ByteArray.empty)).2])) (fun W hW => ld_was (j := j) (show WasAt W a.c a.p a.W from hW (rfWs a.c a.p a.W) (by show _ ∈ [rfSt a.b a.o a.S, rfWs a.c a.p a.W, rfSt b.b b.o b.S, rfWs b.c b.p b.W]; simp)) (by rw [ha.hW]; omega)) (by kernel_rfl) fun aa D => ?_
  refine dr_tix 6 D (by kernel_rfl) (by kernel_rfl) (by kernel_rfl) (b := b.c) (off := b.p) (len := b.tl) (n := j) (size := 2) (ix := (j : Int)) (by rw [← hb.hw.resolve_left (by omega)]; kernel_rfl) rfl (by omega) fun aa D => ?_
  refine dr_tld 7 D (by kernel_rfl) (by kernel_rfl) (by kernel_rfl) (ty := 46) (ad := ⟨b.c, b.p + j * 2, none⟩) (v := (.agg #[.int .i64 (b.W.getD j (0, ByteArray.empty)).1, .string (b.W.getD j (0, ByteArray.empty)).2])) (fun W hW => ld_was (j := j) (show WasAt W b.c b.p b.W from hW (rfWs b.c b.p b.W) (by show _ ∈ [rfSt a.b a.o a.S, rfWs a.c a.p a.W, rfSt b.b b.o b.S, rfWs b.c b.p b.W]; simp)) (by rw [hb.hW]; omega)) (by kernel_rfl) fun aa D => ?_
  refine dr_ex2 (fun d v c a w h => by cases d <;> exact h) 8 (op := .binOp .neq 46 (.tmp 19) (.tmp 23) 46) (ty := 4) (v := .bool true) D (by kernel_rfl) (by kernel_rfl) (by kernel_rfl) (by kernel_rfl) (ex_neW (p := (a.W.getD j (0, ByteArray.empty))) (q := (b.W.getD j (0, ByteArray.empty))) (by kernel_rfl) (by kernel_rfl) (by rw [decide_eq_false hp]; rfl)) fun aa D => ?_
  refine dr_end D (by kernel_rfl) fun S => ?_
  refine sy_run ⟨0, []⟩ 60 S fun bs aa w S => ?_
  rw [decide_eq_false (fun q : a.W = b.W => hp (by rw [q]))]
  exact sy_ret S (by kernel_rfl) (by kernel_rfl) fun hg => ⟨rfl, bel_gr hg⟩
theorem we_a (w0 : World) (a b : Dk) (ha : a.gen) (hb : b.gen) (h6 : a.sl ≤ 600 ∧ a.tl ≤ 100) (hl : a.tl = b.tl) : ∀ (r j : Nat), j + r = a.tl → (∀ i, i < j → (a.W.getD i (0, ByteArray.empty)) = (b.W.getD i (0, ByteArray.empty))) → ∀ (aa : Act) (w : World) (S : Sy w0 [] [] (weS a b (j)) [rfSt a.b a.o a.S, rfWs a.c a.p a.W, rfSt b.b b.o b.S, rfWs b.c b.p b.W] aa w), post Try.prog (.rnd (r + 1) (bodyL we1) :: we1.k.tail) (bodyPost Try.prog Try.f29 fun e w' => e = .returned (.bool (decide (a.W = b.W))) ∧ Below w0.heap.size w0 w') .normal aa w := by
  intro r
  induction r with
  | zero => intro j hj hv  aa w S; obtain rfl : j = a.tl := by omega
            exact we_e w0 a b ha hb h6 hl 0 hv  aa w S
  | succ r ih =>
    intro j hj hv  aa w S
    by_cases hp : (a.W.getD j (0, ByteArray.empty)) = (b.W.getD j (0, ByteArray.empty))
    · exact we_s w0 a b ha hb h6 hl (r + 1) j (by omega) hp (fun h => ih (j + 1) (by omega) h) hv  aa w S
    · exact we_b w0 a b ha hb h6 hl (r + 1) j (by omega) hp  aa w S
set_option maxHeartbeats 8000000 in
theorem weq_t (w0 : World) (a b : Dk) (ha : a.gen) (hb : b.gen) (h6 : a.sl ≤ 600 ∧ a.tl ≤ 100) (hA : StrAt w0 a.b a.o a.S) (hB : WasAt w0 a.c a.p a.W) (hC : StrAt w0 b.b b.o b.S) (hD : WasAt w0 b.c b.p b.W) : Calls Try.prog 29 #[.slice a.ta a.tl a.tc, .slice b.ta b.tl b.tc] w0 fun e w' => e = .returned (.bool (decide (a.W = b.W))) ∧ Below w0.heap.size w0 w' := by
  refine sy_enterF [] [rfSt a.b a.o a.S, rfWs a.c a.p a.W, rfSt b.b b.o b.S, rfWs b.c b.p b.W] (by intro f hf; simp only [List.mem_cons, List.not_mem_nil, or_false] at hf; rcases hf with rfl | rfl | rfl | rfl; exact hA; exact hB; exact hC; exact hD) Try.func29 rfl rfl fun aa S => ?_
  refine sy_run ⟨0, [1]⟩ 60 S fun bs aa w S => ?_
  refine sy_reg S fun S => ?_
  refine sy_ops 5 S fun bs aa w S => ?_
  by_cases hl : a.tl = b.tl
  case neg =>
    refine sy_cast 10 S (congrArg Value.bool (by rw [decide_eq_false (by omega)]; rfl : (!decide ((a.tl : Int) = (b.tl : Int))) = true)) (by kernel_rfl) fun S => ?_
    refine sy_run ⟨0, []⟩ 60 S fun bs aa w S => ?_
    rw [decide_eq_false (fun q : a.W = b.W => hl (by rw [← ha.hW, ← hb.hW, q]))]
    exact sy_ret S (by kernel_rfl) (by kernel_rfl) fun hg => ⟨rfl, bel_gr hg⟩
  refine sy_cast 10 S (congrArg Value.bool (by rw [decide_eq_true (by omega)]; rfl : (!decide ((a.tl : Int) = (b.tl : Int))) = false)) (by kernel_rfl) fun S => ?_
  refine sy_run ⟨0, []⟩ 60 S fun bs aa w S => ?_
  have S2 := S.to [] (weS a b 0) (by kernel_rfl) (by kernel_rfl) (by kernel_rfl) (by kernel_rfl) (by kernel_rfl)
  refine sy_loop (a.tl + 1) (by kernel_rfl) ?_
  refine sy_at2 (k' := (.rnd (a.tl + 1) (bodyL we1) :: we1.k.tail)) (by kernel_rfl) ?_
  exact we_a w0 a b ha hb h6 hl a.tl 0 (by omega) (fun i hi => absurd hi (Nat.not_lt_zero _)) aa w S2
set_option maxHeartbeats 8000000 in
theorem s2_e (w0 : World) (a b : Dk) (ha : a.gen) (hb : b.gen) (h6 : a.sl ≤ 600 ∧ a.tl ≤ 100) (hS : a.S = b.S) (hl : a.tl = b.tl) (m : Nat) (hv : ∀ i, i < a.tl → (a.W.getD i (0, ByteArray.empty)) = (b.W.getD i (0, ByteArray.empty))) (x0 x1 : Nat) (aa : Act) (w : World) (S : Sy w0 [] [x0, x1] (sm2S a b (a.tl)) [rfSt a.b a.o a.S, rfWs a.c a.p a.W, rfSt b.b b.o b.S, rfWs b.c b.p b.W] aa w) : post Try.prog (.rnd (m + 1) (bodyL sm2) :: sm2.k.tail) (bodyPost Try.prog Try.f14 fun e w' => e = .returned (.bool (sameB a b)) ∧ Below w0.heap.size w0 w') .normal aa w := by
  refine sy_run (c := ⟨(.rnd (m + 1) (bodyL sm2) :: sm2.k.tail), sm2S a b (a.tl)⟩) ⟨0, [9]⟩ 50 S fun bs aa w S => ?_
  refine sy_reg S fun S => ?_
  refine sy_ops 5 S fun bs aa w S => ?_
  refine sy_cast 45 S (congrArg Value.bool (decide_eq_false (by omega) : decide ((a.tl : Int) < (a.tl : Int)) = false)) (by kernel_rfl) fun S => ?_
  refine sy_run ⟨0, []⟩ 60 S fun bs aa w S => ?_
  have e : sameB a b = true := by simp only [sameB]; rw [decide_eq_true hS, decide_eq_true (eq_upto (0, ByteArray.empty) a.W b.W (by rw [ha.hW, hb.hW]; exact hl) (fun i hi => hv i (by rw [← ha.hW]; exact hi)))]; rfl
  rw [e]
  exact sy_ret S (by kernel_rfl) (by kernel_rfl) fun hg => ⟨rfl, bel_gr hg⟩
set_option maxHeartbeats 8000000 in
theorem s2_s (w0 : World) (a b : Dk) (ha : a.gen) (hb : b.gen) (h6 : a.sl ≤ 600 ∧ a.tl ≤ 100) (hS : a.S = b.S) (hl : a.tl = b.tl) (m j : Nat) (hj : j < a.tl) (hp : (a.W.getD j (0, ByteArray.empty)) = (b.W.getD j (0, ByteArray.empty))) (ih : (∀ i, i < j + 1 → (a.W.getD i (0, ByteArray.empty)) = (b.W.getD i (0, ByteArray.empty))) → ∀ (x0 x1 : Nat) (aa : Act) (w : World) (S : Sy w0 [] [x0, x1] (sm2S a b (j + 1)) [rfSt a.b a.o a.S, rfWs a.c a.p a.W, rfSt b.b b.o b.S, rfWs b.c b.p b.W] aa w), post Try.prog (.rnd (m) (bodyL sm2) :: sm2.k.tail) (bodyPost Try.prog Try.f14 fun e w' => e = .returned (.bool (sameB a b)) ∧ Below w0.heap.size w0 w') .normal aa w) (hv : ∀ i, i < j → (a.W.getD i (0, ByteArray.empty)) = (b.W.getD i (0, ByteArray.empty))) (x0 x1 : Nat) (aa : Act) (w : World) (S : Sy w0 [] [x0, x1] (sm2S a b (j)) [rfSt a.b a.o a.S, rfWs a.c a.p a.W, rfSt b.b b.o b.S, rfWs b.c b.p b.W] aa w) : post Try.prog (.rnd (m + 1) (bodyL sm2) :: sm2.k.tail) (bodyPost Try.prog Try.f14 fun e w' => e = .returned (.bool (sameB a b)) ∧ Below w0.heap.size w0 w') .normal aa w := by
  refine sy_run (c := ⟨(.rnd (m + 1) (bodyL sm2) :: sm2.k.tail), sm2S a b (j)⟩) ⟨0, [9]⟩ 50 S fun bs aa w S => ?_
  refine sy_reg S fun S => ?_
  refine sy_ops 5 S fun bs aa w S => ?_
  refine sy_cast 45 S (congrArg Value.bool (decide_eq_true (by omega) : decide ((j : Int) < (a.tl : Int)) = true)) (by kernel_rfl) fun S => ?_
  refine sy_run ⟨0, []⟩ 60 S fun bs aa w S => ?_
  letI : KP := ⟨[58]⟩
  letI : HF := ⟨[rfSt a.b a.o a.S, rfWs a.c a.p a.W, rfSt b.b b.o b.S, rfWs b.c b.p b.W]⟩
  refine dr_enter [0, 1] (by kernel_rfl) (by kernel_rfl) S (by kernel_rfl) (fun aa w D => ?_) (fun f hf => hf)
  refine dr_tix 3 D (by kernel_rfl) (by kernel_rfl) (by kernel_rfl) (b := a.c) (off := a.p) (len := a.tl) (n := j) (size := 2) (ix := (j : Int)) (by rw [← ha.hw.resolve_left (by omega)]; kernel_rfl) rfl (by omega) fun aa D => ?_
  refine dr_tld 4 D (by kernel_rfl) (by kernel_rfl) (by kernel_rfl) (ty := 46) (ad := ⟨a.c, a.p + j * 2, none⟩) (v := (.agg #[.int .i64 (a.W.getD j (0, ByteArray.empty)).1, .string (a.W.getD j (0, ByteArray.empty)).2])) (fun W hW => ld_was (j := j) (show WasAt W a.c a.p a.W from hW (rfWs a.c a.p a.W) (by show _ ∈ [rfSt a.b a.o a.S, rfWs a.c a.p a.W, rfSt b.b b.o b.S, rfWs b.c b.p b.W]; simp)) (by rw [ha.hW]; omega)) (by kernel_rfl) fun aa D => ?_
  refine dr_tix 8 D (by kernel_rfl) (by kernel_rfl) (by kernel_rfl) (b := b.c) (off := b.p) (len := b.tl) (n := j) (size := 2) (ix := (j : Int)) (by rw [← hb.hw.resolve_left (by omega)]; kernel_rfl) rfl (by omega) fun aa D => ?_
  refine dr_tld 9 D (by kernel_rfl) (by kernel_rfl) (by kernel_rfl) (ty := 46) (ad := ⟨b.c, b.p + j * 2, none⟩) (v := (.agg #[.int .i64 (b.W.getD j (0, ByteArray.empty)).1, .string (b.W.getD j (0, ByteArray.empty)).2])) (fun W hW => ld_was (j := j) (show WasAt W b.c b.p b.W from hW (rfWs b.c b.p b.W) (by show _ ∈ [rfSt a.b a.o a.S, rfWs a.c a.p a.W, rfSt b.b b.o b.S, rfWs b.c b.p b.W]; simp)) (by rw [hb.hW]; omega)) (by kernel_rfl) fun aa D => ?_
  refine dr_ex2 (fun d v c a w h => by cases d <;> exact h) 10 (op := .binOp .neq 46 (.tmp 52) (.tmp 57) 46) (ty := 4) (v := .bool false) D (by kernel_rfl) (by kernel_rfl) (by kernel_rfl) (by kernel_rfl) (ex_neW (p := (a.W.getD j (0, ByteArray.empty))) (q := (b.W.getD j (0, ByteArray.empty))) (by kernel_rfl) (by kernel_rfl) (by rw [decide_eq_true hp]; rfl)) fun aa D => ?_
  refine dr_end D (by kernel_rfl) fun S => ?_
  refine sy_run ⟨0, [10]⟩ 60 S fun bs aa w S => ?_
  refine sy_reg S fun S => ?_
  refine sy_ops 2 S fun bs aa w S => ?_
  refine sy_cast 47 S (congrArg (Value.int .i64) (by rw [IntKind.wrap_i64]; omega : IntKind.i64.wrap ((j : Int) + 1) = ((j + 1 : Nat) : Int))) (by kernel_rfl) fun S => ?_
  refine sy_run ⟨0, [999]⟩ 50 S fun bs aa w S => ?_
  have S2 := S.to [0, 1] (sm2S a b (j + 1)) (by kernel_rfl) (by kernel_rfl) (by kernel_rfl) (by kernel_rfl) (by kernel_rfl)
  refine sy_at2 (k' := (.rnd (m) (bodyL sm2) :: sm2.k.tail)) (by kernel_rfl) ?_
  exact ih (upto_succ hv hp) _ _ aa w S2
set_option maxHeartbeats 8000000 in
theorem s2_b (w0 : World) (a b : Dk) (ha : a.gen) (hb : b.gen) (h6 : a.sl ≤ 600 ∧ a.tl ≤ 100) (hS : a.S = b.S) (hl : a.tl = b.tl) (m j : Nat) (hj : j < a.tl) (hp : ¬(a.W.getD j (0, ByteArray.empty)) = (b.W.getD j (0, ByteArray.empty))) (x0 x1 : Nat) (aa : Act) (w : World) (S : Sy w0 [] [x0, x1] (sm2S a b (j)) [rfSt a.b a.o a.S, rfWs a.c a.p a.W, rfSt b.b b.o b.S, rfWs b.c b.p b.W] aa w) : post Try.prog (.rnd (m + 1) (bodyL sm2) :: sm2.k.tail) (bodyPost Try.prog Try.f14 fun e w' => e = .returned (.bool (sameB a b)) ∧ Below w0.heap.size w0 w') .normal aa w := by
  refine sy_run (c := ⟨(.rnd (m + 1) (bodyL sm2) :: sm2.k.tail), sm2S a b (j)⟩) ⟨0, [9]⟩ 50 S fun bs aa w S => ?_
  refine sy_reg S fun S => ?_
  refine sy_ops 5 S fun bs aa w S => ?_
  refine sy_cast 45 S (congrArg Value.bool (decide_eq_true (by omega) : decide ((j : Int) < (a.tl : Int)) = true)) (by kernel_rfl) fun S => ?_
  refine sy_run ⟨0, []⟩ 60 S fun bs aa w S => ?_
  letI : KP := ⟨[58]⟩
  letI : HF := ⟨[rfSt a.b a.o a.S, rfWs a.c a.p a.W, rfSt b.b b.o b.S, rfWs b.c b.p b.W]⟩
  refine dr_enter [0, 1] (by kernel_rfl) (by kernel_rfl) S (by kernel_rfl) (fun aa w D => ?_) (fun f hf => hf)
  refine dr_tix 3 D (by kernel_rfl) (by kernel_rfl) (by kernel_rfl) (b := a.c) (off := a.p) (len := a.tl) (n := j) (size := 2) (ix := (j : Int)) (by rw [← ha.hw.resolve_left (by omega)]; kernel_rfl) rfl (by omega) fun aa D => ?_
  refine dr_tld 4 D (by kernel_rfl) (by kernel_rfl) (by kernel_rfl) (ty := 46) (ad := ⟨a.c, a.p + j * 2, none⟩) (v := (.agg #[.int .i64 (a.W.getD j (0, ByteArray.empty)).1, .string (a.W.getD j (0, ByteArray.empty)).2])) (fun W hW => ld_was (j := j) (show WasAt W a.c a.p a.W from hW (rfWs a.c a.p a.W) (by show _ ∈ [rfSt a.b a.o a.S, rfWs a.c a.p a.W, rfSt b.b b.o b.S, rfWs b.c b.p b.W]; simp)) (by rw [ha.hW]; omega)) (by kernel_rfl) fun aa D => ?_
  refine dr_tix 8 D (by kernel_rfl) (by kernel_rfl) (by kernel_rfl) (b := b.c) (off := b.p) (len := b.tl) (n := j) (size := 2) (ix := (j : Int)) (by rw [← hb.hw.resolve_left (by omega)]; kernel_rfl) rfl (by omega) fun aa D => ?_
  refine dr_tld 9 D (by kernel_rfl) (by kernel_rfl) (by kernel_rfl) (ty := 46) (ad := ⟨b.c, b.p + j * 2, none⟩) (v := (.agg #[.int .i64 (b.W.getD j (0, ByteArray.empty)).1, .string (b.W.getD j (0, ByteArray.empty)).2])) (fun W hW => ld_was (j := j) (show WasAt W b.c b.p b.W from hW (rfWs b.c b.p b.W) (by show _ ∈ [rfSt a.b a.o a.S, rfWs a.c a.p a.W, rfSt b.b b.o b.S, rfWs b.c b.p b.W]; simp)) (by rw [hb.hW]; omega)) (by kernel_rfl) fun aa D => ?_
  refine dr_ex2 (fun d v c a w h => by cases d <;> exact h) 10 (op := .binOp .neq 46 (.tmp 52) (.tmp 57) 46) (ty := 4) (v := .bool true) D (by kernel_rfl) (by kernel_rfl) (by kernel_rfl) (by kernel_rfl) (ex_neW (p := (a.W.getD j (0, ByteArray.empty))) (q := (b.W.getD j (0, ByteArray.empty))) (by kernel_rfl) (by kernel_rfl) (by rw [decide_eq_false hp]; rfl)) fun aa D => ?_
  refine dr_end D (by kernel_rfl) fun S => ?_
  refine sy_run ⟨0, []⟩ 60 S fun bs aa w S => ?_
  have e : sameB a b = false := by simp only [sameB]; rw [decide_eq_false (fun q : a.W = b.W => hp (by rw [q])), Bool.and_false]
  rw [e]
  exact sy_ret S (by kernel_rfl) (by kernel_rfl) fun hg => ⟨rfl, bel_gr hg⟩
theorem s2_a (w0 : World) (a b : Dk) (ha : a.gen) (hb : b.gen) (h6 : a.sl ≤ 600 ∧ a.tl ≤ 100) (hS : a.S = b.S) (hl : a.tl = b.tl) : ∀ (r j : Nat), j + r = a.tl → (∀ i, i < j → (a.W.getD i (0, ByteArray.empty)) = (b.W.getD i (0, ByteArray.empty))) → ∀ (x0 x1 : Nat) (aa : Act) (w : World) (S : Sy w0 [] [x0, x1] (sm2S a b (j)) [rfSt a.b a.o a.S, rfWs a.c a.p a.W, rfSt b.b b.o b.S, rfWs b.c b.p b.W] aa w), post Try.prog (.rnd (r + 1) (bodyL sm2) :: sm2.k.tail) (bodyPost Try.prog Try.f14 fun e w' => e = .returned (.bool (sameB a b)) ∧ Below w0.heap.size w0 w') .normal aa w := by
  intro r
  induction r with
  | zero => intro j hj hv x0 x1 aa w S; obtain rfl : j = a.tl := by omega
            exact s2_e w0 a b ha hb h6 hS hl 0 hv x0 x1 aa w S
  | succ r ih =>
    intro j hj hv x0 x1 aa w S
    by_cases hp : (a.W.getD j (0, ByteArray.empty)) = (b.W.getD j (0, ByteArray.empty))
    · exact s2_s w0 a b ha hb h6 hS hl (r + 1) j (by omega) hp (fun h => ih (j + 1) (by omega) h) hv x0 x1 aa w S
    · exact s2_b w0 a b ha hb h6 hS hl (r + 1) j (by omega) hp x0 x1 aa w S
set_option maxHeartbeats 8000000 in
theorem s1_e (w0 : World) (a b : Dk) (ha : a.gen) (hb : b.gen) (h6 : a.sl ≤ 600 ∧ a.tl ≤ 100) (hlw : a.tl = b.tl) (hl : a.sl = b.sl) (m : Nat) (hv : ∀ i, i < a.sl → (a.S.getD i ByteArray.empty) = (b.S.getD i ByteArray.empty)) (x0 x1 : Nat) (aa : Act) (w : World) (S : Sy w0 [] [x0, x1] (sm1S a b (a.sl)) [rfSt a.b a.o a.S, rfWs a.c a.p a.W, rfSt b.b b.o b.S, rfWs b.c b.p b.W] aa w) : post Try.prog (.rnd (m + 1) (bodyL sm1) :: sm1.k.tail) (bodyPost Try.prog Try.f14 fun e w' => e = .returned (.bool (sameB a b)) ∧ Below w0.heap.size w0 w') .normal aa w := by
  refine sy_run (c := ⟨(.rnd (m + 1) (bodyL sm1) :: sm1.k.tail), sm1S a b (a.sl)⟩) ⟨0, [4]⟩ 50 S fun bs aa w S => ?_
  refine sy_reg S fun S => ?_
  refine sy_ops 5 S fun bs aa w S => ?_
  refine sy_cast 27 S (congrArg Value.bool (decide_eq_false (by omega) : decide ((a.sl : Int) < (a.sl : Int)) = false)) (by kernel_rfl) fun S => ?_
  refine sy_run ⟨0, []⟩ 60 S fun bs aa w S => ?_
  have S2 := S.to [0, 1] (sm2S a b 0) (by kernel_rfl) (by kernel_rfl) (by kernel_rfl) (by kernel_rfl) (by kernel_rfl)
  refine sy_loop (a.tl + 1) (by kernel_rfl) ?_
  refine sy_at2 (k' := (.rnd (a.tl + 1) (bodyL sm2) :: sm2.k.tail)) (by kernel_rfl) ?_
  exact s2_a w0 a b ha hb h6 (eq_upto ByteArray.empty a.S b.S (by rw [ha.hS, hb.hS]; exact hl) (fun i hi => hv i (by rw [← ha.hS]; exact hi))) hlw a.tl 0 (by omega) (fun i hi => absurd hi (Nat.not_lt_zero _)) _ _ aa w S2
set_option maxHeartbeats 8000000 in
theorem s1_s (w0 : World) (a b : Dk) (ha : a.gen) (hb : b.gen) (h6 : a.sl ≤ 600 ∧ a.tl ≤ 100) (hlw : a.tl = b.tl) (hl : a.sl = b.sl) (m j : Nat) (hj : j < a.sl) (hp : (a.S.getD j ByteArray.empty) = (b.S.getD j ByteArray.empty)) (ih : (∀ i, i < j + 1 → (a.S.getD i ByteArray.empty) = (b.S.getD i ByteArray.empty)) → ∀ (x0 x1 : Nat) (aa : Act) (w : World) (S : Sy w0 [] [x0, x1] (sm1S a b (j + 1)) [rfSt a.b a.o a.S, rfWs a.c a.p a.W, rfSt b.b b.o b.S, rfWs b.c b.p b.W] aa w), post Try.prog (.rnd (m) (bodyL sm1) :: sm1.k.tail) (bodyPost Try.prog Try.f14 fun e w' => e = .returned (.bool (sameB a b)) ∧ Below w0.heap.size w0 w') .normal aa w) (hv : ∀ i, i < j → (a.S.getD i ByteArray.empty) = (b.S.getD i ByteArray.empty)) (x0 x1 : Nat) (aa : Act) (w : World) (S : Sy w0 [] [x0, x1] (sm1S a b (j)) [rfSt a.b a.o a.S, rfWs a.c a.p a.W, rfSt b.b b.o b.S, rfWs b.c b.p b.W] aa w) : post Try.prog (.rnd (m + 1) (bodyL sm1) :: sm1.k.tail) (bodyPost Try.prog Try.f14 fun e w' => e = .returned (.bool (sameB a b)) ∧ Below w0.heap.size w0 w') .normal aa w := by
  refine sy_run (c := ⟨(.rnd (m + 1) (bodyL sm1) :: sm1.k.tail), sm1S a b (j)⟩) ⟨0, [4]⟩ 50 S fun bs aa w S => ?_
  refine sy_reg S fun S => ?_
  refine sy_ops 5 S fun bs aa w S => ?_
  refine sy_cast 27 S (congrArg Value.bool (decide_eq_true (by omega) : decide ((j : Int) < (a.sl : Int)) = true)) (by kernel_rfl) fun S => ?_
  refine sy_run ⟨0, []⟩ 60 S fun bs aa w S => ?_
  letI : KP := ⟨[40]⟩
  letI : HF := ⟨[rfSt a.b a.o a.S, rfWs a.c a.p a.W, rfSt b.b b.o b.S, rfWs b.c b.p b.W]⟩
  refine dr_enter [0, 1] (by kernel_rfl) (by kernel_rfl) S (by kernel_rfl) (fun aa w D => ?_) (fun f hf => hf)
  refine dr_tix 3 D (by kernel_rfl) (by kernel_rfl) (by kernel_rfl) (b := a.b) (off := a.o) (len := a.sl) (n := j) (size := 1) (ix := (j : Int)) (by rw [← ha.hs.resolve_left (by omega)]; kernel_rfl) rfl (by omega) fun aa D => ?_
  refine dr_tld 4 D (by kernel_rfl) (by kernel_rfl) (by kernel_rfl) (ty := 9) (ad := ⟨a.b, a.o + j * 1, none⟩) (v := .string (a.S.getD j ByteArray.empty)) (fun W hW => ld_at (by kernel_rfl) (by rw [Nat.mul_one]; exact (show StrAt W a.b a.o a.S from hW (rfSt a.b a.o a.S) (by show _ ∈ [rfSt a.b a.o a.S, rfWs a.c a.p a.W, rfSt b.b b.o b.S, rfWs b.c b.p b.W]; simp)) j (by rw [ha.hS]; omega))) (by kernel_rfl) fun aa D => ?_
  refine dr_tix 8 D (by kernel_rfl) (by kernel_rfl) (by kernel_rfl) (b := b.b) (off := b.o) (len := b.sl) (n := j) (size := 1) (ix := (j : Int)) (by rw [← hb.hs.resolve_left (by omega)]; kernel_rfl) rfl (by omega) fun aa D => ?_
  refine dr_tld 9 D (by kernel_rfl) (by kernel_rfl) (by kernel_rfl) (ty := 9) (ad := ⟨b.b, b.o + j * 1, none⟩) (v := .string (b.S.getD j ByteArray.empty)) (fun W hW => ld_at (by kernel_rfl) (by rw [Nat.mul_one]; exact (show StrAt W b.b b.o b.S from hW (rfSt b.b b.o b.S) (by show _ ∈ [rfSt a.b a.o a.S, rfWs a.c a.p a.W, rfSt b.b b.o b.S, rfWs b.c b.p b.W]; simp)) j (by rw [hb.hS]; omega))) (by kernel_rfl) fun aa D => ?_
  refine dr_ex2 (fun d v c a w h => by cases d <;> exact h) 10 (op := .binOp .neq 9 (.tmp 34) (.tmp 39) 9) (ty := 4) (v := .bool false) D (by kernel_rfl) (by kernel_rfl) (by kernel_rfl) (by kernel_rfl) (ex_neS (p := (a.S.getD j ByteArray.empty)) (q := (b.S.getD j ByteArray.empty)) (by kernel_rfl) (by kernel_rfl) (by rw [tl_eq, decide_eq_true hp]; rfl)) fun aa D => ?_
  refine dr_end D (by kernel_rfl) fun S => ?_
  refine sy_run ⟨0, [5]⟩ 60 S fun bs aa w S => ?_
  refine sy_reg S fun S => ?_
  refine sy_ops 2 S fun bs aa w S => ?_
  refine sy_cast 29 S (congrArg (Value.int .i64) (by rw [IntKind.wrap_i64]; omega : IntKind.i64.wrap ((j : Int) + 1) = ((j + 1 : Nat) : Int))) (by kernel_rfl) fun S => ?_
  refine sy_run ⟨0, [999]⟩ 50 S fun bs aa w S => ?_
  have S2 := S.to [0, 1] (sm1S a b (j + 1)) (by kernel_rfl) (by kernel_rfl) (by kernel_rfl) (by kernel_rfl) (by kernel_rfl)
  refine sy_at2 (k' := (.rnd (m) (bodyL sm1) :: sm1.k.tail)) (by kernel_rfl) ?_
  exact ih (upto_succ hv hp) _ _ aa w S2
set_option maxHeartbeats 8000000 in
theorem s1_b (w0 : World) (a b : Dk) (ha : a.gen) (hb : b.gen) (h6 : a.sl ≤ 600 ∧ a.tl ≤ 100) (hlw : a.tl = b.tl) (hl : a.sl = b.sl) (m j : Nat) (hj : j < a.sl) (hp : ¬(a.S.getD j ByteArray.empty) = (b.S.getD j ByteArray.empty)) (x0 x1 : Nat) (aa : Act) (w : World) (S : Sy w0 [] [x0, x1] (sm1S a b (j)) [rfSt a.b a.o a.S, rfWs a.c a.p a.W, rfSt b.b b.o b.S, rfWs b.c b.p b.W] aa w) : post Try.prog (.rnd (m + 1) (bodyL sm1) :: sm1.k.tail) (bodyPost Try.prog Try.f14 fun e w' => e = .returned (.bool (sameB a b)) ∧ Below w0.heap.size w0 w') .normal aa w := by
  refine sy_run (c := ⟨(.rnd (m + 1) (bodyL sm1) :: sm1.k.tail), sm1S a b (j)⟩) ⟨0, [4]⟩ 50 S fun bs aa w S => ?_
  refine sy_reg S fun S => ?_
  refine sy_ops 5 S fun bs aa w S => ?_
  refine sy_cast 27 S (congrArg Value.bool (decide_eq_true (by omega) : decide ((j : Int) < (a.sl : Int)) = true)) (by kernel_rfl) fun S => ?_
  refine sy_run ⟨0, []⟩ 60 S fun bs aa w S => ?_
  letI : KP := ⟨[40]⟩
  letI : HF := ⟨[rfSt a.b a.o a.S, rfWs a.c a.p a.W, rfSt b.b b.o b.S, rfWs b.c b.p b.W]⟩
  refine dr_enter [0, 1] (by kernel_rfl) (by kernel_rfl) S (by kernel_rfl) (fun aa w D => ?_) (fun f hf => hf)
  refine dr_tix 3 D (by kernel_rfl) (by kernel_rfl) (by kernel_rfl) (b := a.b) (off := a.o) (len := a.sl) (n := j) (size := 1) (ix := (j : Int)) (by rw [← ha.hs.resolve_left (by omega)]; kernel_rfl) rfl (by omega) fun aa D => ?_
  refine dr_tld 4 D (by kernel_rfl) (by kernel_rfl) (by kernel_rfl) (ty := 9) (ad := ⟨a.b, a.o + j * 1, none⟩) (v := .string (a.S.getD j ByteArray.empty)) (fun W hW => ld_at (by kernel_rfl) (by rw [Nat.mul_one]; exact (show StrAt W a.b a.o a.S from hW (rfSt a.b a.o a.S) (by show _ ∈ [rfSt a.b a.o a.S, rfWs a.c a.p a.W, rfSt b.b b.o b.S, rfWs b.c b.p b.W]; simp)) j (by rw [ha.hS]; omega))) (by kernel_rfl) fun aa D => ?_
  refine dr_tix 8 D (by kernel_rfl) (by kernel_rfl) (by kernel_rfl) (b := b.b) (off := b.o) (len := b.sl) (n := j) (size := 1) (ix := (j : Int)) (by rw [← hb.hs.resolve_left (by omega)]; kernel_rfl) rfl (by omega) fun aa D => ?_
  refine dr_tld 9 D (by kernel_rfl) (by kernel_rfl) (by kernel_rfl) (ty := 9) (ad := ⟨b.b, b.o + j * 1, none⟩) (v := .string (b.S.getD j ByteArray.empty)) (fun W hW => ld_at (by kernel_rfl) (by rw [Nat.mul_one]; exact (show StrAt W b.b b.o b.S from hW (rfSt b.b b.o b.S) (by show _ ∈ [rfSt a.b a.o a.S, rfWs a.c a.p a.W, rfSt b.b b.o b.S, rfWs b.c b.p b.W]; simp)) j (by rw [hb.hS]; omega))) (by kernel_rfl) fun aa D => ?_
  refine dr_ex2 (fun d v c a w h => by cases d <;> exact h) 10 (op := .binOp .neq 9 (.tmp 34) (.tmp 39) 9) (ty := 4) (v := .bool true) D (by kernel_rfl) (by kernel_rfl) (by kernel_rfl) (by kernel_rfl) (ex_neS (p := (a.S.getD j ByteArray.empty)) (q := (b.S.getD j ByteArray.empty)) (by kernel_rfl) (by kernel_rfl) (by rw [tl_eq, decide_eq_false hp]; rfl)) fun aa D => ?_
  refine dr_end D (by kernel_rfl) fun S => ?_
  refine sy_run ⟨0, []⟩ 60 S fun bs aa w S => ?_
  have e : sameB a b = false := by simp only [sameB]; rw [decide_eq_false (fun q : a.S = b.S => hp (by rw [q])), Bool.false_and]
  rw [e]
  exact sy_ret S (by kernel_rfl) (by kernel_rfl) fun hg => ⟨rfl, bel_gr hg⟩
theorem s1_a (w0 : World) (a b : Dk) (ha : a.gen) (hb : b.gen) (h6 : a.sl ≤ 600 ∧ a.tl ≤ 100) (hlw : a.tl = b.tl) (hl : a.sl = b.sl) : ∀ (r j : Nat), j + r = a.sl → (∀ i, i < j → (a.S.getD i ByteArray.empty) = (b.S.getD i ByteArray.empty)) → ∀ (x0 x1 : Nat) (aa : Act) (w : World) (S : Sy w0 [] [x0, x1] (sm1S a b (j)) [rfSt a.b a.o a.S, rfWs a.c a.p a.W, rfSt b.b b.o b.S, rfWs b.c b.p b.W] aa w), post Try.prog (.rnd (r + 1) (bodyL sm1) :: sm1.k.tail) (bodyPost Try.prog Try.f14 fun e w' => e = .returned (.bool (sameB a b)) ∧ Below w0.heap.size w0 w') .normal aa w := by
  intro r
  induction r with
  | zero => intro j hj hv x0 x1 aa w S; obtain rfl : j = a.sl := by omega
            exact s1_e w0 a b ha hb h6 hlw hl 0 hv x0 x1 aa w S
  | succ r ih =>
    intro j hj hv x0 x1 aa w S
    by_cases hp : (a.S.getD j ByteArray.empty) = (b.S.getD j ByteArray.empty)
    · exact s1_s w0 a b ha hb h6 hlw hl (r + 1) j (by omega) hp (fun h => ih (j + 1) (by omega) h) hv x0 x1 aa w S
    · exact s1_b w0 a b ha hb h6 hlw hl (r + 1) j (by omega) hp x0 x1 aa w S
set_option maxHeartbeats 8000000 in
theorem rsame_t (w0 : World) (a b : Dk) (ha : a.gen) (hb : b.gen) (h6 : a.sl ≤ 600 ∧ a.tl ≤ 100) (hA : StrAt w0 a.b a.o a.S) (hB : WasAt w0 a.c a.p a.W) (hC : StrAt w0 b.b b.o b.S) (hD : WasAt w0 b.c b.p b.W) : Calls Try.prog 14 #[a.v, b.v] w0 fun e w' => e = .returned (.bool (sameB a b)) ∧ Below w0.heap.size w0 w' := by
  refine sy_enterF [] [rfSt a.b a.o a.S, rfWs a.c a.p a.W, rfSt b.b b.o b.S, rfWs b.c b.p b.W] (by intro f hf; simp only [List.mem_cons, List.not_mem_nil, or_false] at hf; rcases hf with rfl | rfl | rfl | rfl; exact hA; exact hB; exact hC; exact hD) Try.func14 rfl rfl fun aa S => ?_
  refine sy_run ⟨0, [1]⟩ 60 S fun bs aa w S => ?_
  refine sy_reg S fun S => ?_
  refine sy_ops 7 S fun bs aa w S => ?_
  by_cases hl : a.sl = b.sl
  case neg =>
    refine sy_cast 13 S (congrArg Value.bool (by rw [decide_eq_false (by omega)]; rfl : (!decide ((a.sl : Int) = (b.sl : Int))) = true)) (by kernel_rfl) fun S => ?_
    refine sy_run ⟨0, []⟩ 60 S fun bs aa w S => ?_
    have e : sameB a b = false := by simp only [sameB]; rw [decide_eq_false (fun q : a.S = b.S => hl (by rw [← ha.hS, ← hb.hS, q])), Bool.false_and]
    rw [e]
    exact sy_ret S (by kernel_rfl) (by kernel_rfl) fun hg => ⟨rfl, bel_gr hg⟩
  refine sy_cast 13 S (congrArg Value.bool (by rw [decide_eq_true (by omega)]; rfl : (!decide ((a.sl : Int) = (b.sl : Int))) = false)) (by kernel_rfl) fun S => ?_
  refine sy_ops 8 S fun bs aa w S => ?_
  by_cases hlw : a.tl = b.tl
  case neg =>
    refine sy_cast 21 S (congrArg Value.bool (by rw [decide_eq_false (by omega)]; rfl : (!decide ((a.tl : Int) = (b.tl : Int))) = true)) (by kernel_rfl) fun S => ?_
    refine sy_run ⟨0, []⟩ 60 S fun bs aa w S => ?_
    have e : sameB a b = false := by simp only [sameB]; rw [decide_eq_false (fun q : a.W = b.W => hlw (by rw [← ha.hW, ← hb.hW, q])), Bool.and_false]
    rw [e]
    exact sy_ret S (by kernel_rfl) (by kernel_rfl) fun hg => ⟨rfl, bel_gr hg⟩
  refine sy_cast 21 S (congrArg Value.bool (by rw [decide_eq_true (by omega)]; rfl : (!decide ((a.tl : Int) = (b.tl : Int))) = false)) (by kernel_rfl) fun S => ?_
  refine sy_run ⟨0, []⟩ 60 S fun bs aa w S => ?_
  have S2 := S.to [0, 1] (sm1S a b 0) (by kernel_rfl) (by kernel_rfl) (by kernel_rfl) (by kernel_rfl) (by kernel_rfl)
  refine sy_loop (a.sl + 1) (by kernel_rfl) ?_
  refine sy_at2 (k' := (.rnd (a.sl + 1) (bodyL sm1) :: sm1.k.tail)) (by kernel_rfl) ?_
  exact s1_a w0 a b ha hb h6 hlw hl a.sl 0 (by omega) (fun i hi => absurd hi (Nat.not_lt_zero _)) _ _ aa w S2
set_option maxHeartbeats 8000000 in
theorem eqs_t (w0 : World) (a b : Dk) (ha : a.gen) (hb : b.gen) (h6 : a.sl ≤ 600 ∧ a.tl ≤ 100) (h6b : b.sl ≤ 600) (hA : StrAt w0 a.b a.o a.S) (hC : StrAt w0 b.b b.o b.S) : Calls Try.prog 28 #[.slice a.sa a.sl a.sc, .slice b.sa b.sl b.sc] w0 fun e w' => e = .returned (.bool (decide (a.S = b.S))) ∧ Below w0.heap.size w0 w' := by
  by_cases hl : a.sl = b.sl
  · by_cases h0 : a.sl = 0
    · have e : decide (a.S = b.S) = true := decide_eq_true (by rw [List.eq_nil_of_length_eq_zero (ha.hS.trans h0), List.eq_nil_of_length_eq_zero (hb.hS.trans (hl ▸ h0))])
      rw [e, h0, ← hl, h0]
      exact (Try.slices_Equal_string_empty a.sa b.sa a.sc 0 b.sc w0 (by omega)).mono fun e w' h => ⟨h.1, by rw [h.2]; exact Below.refl _ _⟩
    · have h := Try.slices_Equal_string a.b a.o a.sl a.sc b.b b.o b.sl b.sc a.S b.S w0 (by rw [ha.hS]; exact Nat.le_refl _) (by rw [hb.hS]; exact Nat.le_refl _) (by omega) (by omega) hA hC
      rw [← ha.hs.resolve_left h0, ← hb.hs.resolve_left (by omega)] at h
      rw [show a.S.take a.sl = a.S by rw [← ha.hS]; exact List.take_length, show b.S.take b.sl = b.S by rw [← hb.hS]; exact List.take_length] at h
      exact h.mono fun e w' h => ⟨h.1, by obtain ⟨q, hq⟩ := h.2; rw [hq]; exact ⟨rfl, rfl, rfl, Nat.le_refl _, fun k hk => rfl⟩⟩
  · rw [decide_eq_false (fun q : a.S = b.S => hl (by rw [← ha.hS, ← hb.hS, q]))]
    exact (Try.slices_Equal_string_lens a.sa b.sa a.sl a.sc b.sl b.sc w0 hl).mono fun e w' h => ⟨h.1, by rw [h.2]; exact Below.refl _ _⟩
set_option maxHeartbeats 8000000 in
theorem dsame_t (w0 : World) (a b : Dk) (ha : a.gen) (hb : b.gen) (h6 : a.sl ≤ 600 ∧ a.tl ≤ 100) (h6b : b.sl ≤ 600) (hA : StrAt w0 a.b a.o a.S) (hB : WasAt w0 a.c a.p a.W) (hC : StrAt w0 b.b b.o b.S) (hD : WasAt w0 b.c b.p b.W) : Calls Try.prog 13 #[a.v, b.v] w0 fun e w' => e = .returned (.bool (sameB a b)) ∧ Below w0.heap.size w0 w' := by
  refine sy_enterF [] [rfSt a.b a.o a.S, rfWs a.c a.p a.W, rfSt b.b b.o b.S, rfWs b.c b.p b.W] (by intro f hf; simp only [List.mem_cons, List.not_mem_nil, or_false] at hf; rcases hf with rfl | rfl | rfl | rfl; exact hA; exact hB; exact hC; exact hD) Try.func13 rfl rfl fun aa S => ?_
  refine sy_run ⟨0, [1]⟩ 60 S fun bs aa w S => ?_
  refine sy_reg S fun S => ?_
  refine sy_ops 4 S fun bs aa w S => ?_
  refine sy_call1 S (eqs_t w a b ha hb h6 h6b (S.fact (f := rfSt a.b a.o a.S) (by simp)) (S.fact (f := rfSt b.b b.o b.S) (by simp))) (by kernel_rfl) fun aa w hb' S => ?_
  by_cases hS : a.S = b.S
  · refine sy_cast 9 S (congrArg Value.bool (decide_eq_true hS)) (by kernel_rfl) fun S => ?_
    refine sy_ops 5 S fun bs aa w S => ?_
    refine sy_call1 S (weq_t w a b ha hb h6 (S.fact (f := rfSt a.b a.o a.S) (by simp)) (S.fact (f := rfWs a.c a.p a.W) (by simp)) (S.fact (f := rfSt b.b b.o b.S) (by simp)) (S.fact (f := rfWs b.c b.p b.W) (by simp))) (by kernel_rfl) fun aa w hb' S => ?_
    refine sy_run ⟨0, []⟩ 60 S fun bs aa w S => ?_
    have e : sameB a b = decide (a.W = b.W) := by simp only [sameB]; rw [decide_eq_true hS, Bool.true_and]
    rw [e]
    exact sy_ret S (by kernel_rfl) (by kernel_rfl) fun hg => ⟨rfl, bel_gr hg⟩
  · refine sy_cast 9 S (congrArg Value.bool (decide_eq_false hS)) (by kernel_rfl) fun S => ?_
    refine sy_run ⟨0, []⟩ 60 S fun bs aa w S => ?_
    have e : sameB a b = false := by simp only [sameB]; rw [decide_eq_false hS, Bool.false_and]
    rw [e]
    exact sy_ret S (by kernel_rfl) (by kernel_rfl) fun hg => ⟨rfl, bel_gr hg⟩
end Go.Proofs.Ytnlcjlhcghgaoaa


/-
  Layer 22: the simple operations, program and reference.
-/
namespace Go.Proofs.Ytnlcjlhcghgaoaa
open Go Go.RowKit SZ
set_option linter.unusedVariables false
set_option linter.unusedSimpArgs false
set_option maxRecDepth 100000
attribute [local irreducible] post GD Nxt NxtAll
/-- A device that was made. -/
structure Dev (h0 : Nat) (w : World) (d : Dk) (S : List ByteArray) (W : List (Int × ByteArray)) : Prop where
  g : d.gen
  eS : d.S = S
  eW : d.W = W
  sA : StrAt w d.b d.o S
  wA : WasAt w d.c d.p W
  b0 : S.length = 0 ∨ h0 ≤ d.b
  c0 : W.length = 0 ∨ h0 ≤ d.c
theorem ok_gen {d : Dk} (h : d.ok) (h2 : d.tc ≤ 9223372036854775807) (h3 : d.sa = none → d.sc = 0) : d.gen := ⟨h.hS, h.hs, h.hW, h.hw, h.hw2.elim Or.inl (fun q => Or.inr q.2), h2, h3⟩
theorem gen_ok {d : Dk} (h : d.gen) (h1 : d.sl ≤ 512) (h2 : d.tl ≤ 1000) : d.ok := ⟨h.hS, h.hs, h.hW, h.ht.elim Or.inl (fun q => Or.inr ⟨h.hw, q⟩), h1, h2⟩
set_option maxHeartbeats 8000000 in
theorem newbad (n : Int) (hn : ¬(0 ≤ n ∧ n ≤ 512)) (w0 : World) : Calls Try.prog 9 #[.int .i64 n] w0 fun e w' => e = .returned (.tuple #[.agg #[.slice none 0 0, .slice none 0 0], .int .i64 1]) ∧ Below w0.heap.size w0 w' := by
  refine sy_enterF [] [] (by intro f hf; cases hf) Try.func9 rfl rfl fun aa S => ?_
  refine sy_run ⟨0, [1]⟩ 60 S fun bs aa w S => ?_
  refine sy_reg S fun S => ?_
  refine sy_ops 2 S fun bs aa w S => ?_
  by_cases h0 : n < 0
  · refine sy_cast 7 S (congrArg Value.bool (decide_eq_true h0 : decide (n < 0) = true)) (by kernel_rfl) fun S => ?_
    refine sy_run ⟨0, []⟩ 60 S fun bs aa w S => ?_
    exact sy_ret S (by kernel_rfl) (by kernel_rfl) fun hg => ⟨rfl, bel_gr hg⟩
  refine sy_cast 7 S (congrArg Value.bool (decide_eq_false h0 : decide (n < 0) = false)) (by kernel_rfl) fun S => ?_
  refine sy_ops 3 S fun bs aa w S => ?_
  refine sy_cast 10 S (congrArg Value.bool (decide_eq_true (by omega) : decide (n > 512) = true)) (by kernel_rfl) fun S => ?_
  refine sy_run ⟨0, []⟩ 60 S fun bs aa w S => ?_
  exact sy_ret S (by kernel_rfl) (by kernel_rfl) fun hg => ⟨rfl, bel_gr hg⟩
set_option maxHeartbeats 8000000 in
theorem rnewbad (n : Int) (hn : ¬(0 ≤ n ∧ n ≤ 512)) (w0 : World) : Calls Try.prog 10 #[.int .i64 n] w0 fun e w' => e = .returned (.tuple #[.agg #[.slice none 0 0, .slice none 0 0], .int .i64 1]) ∧ Below w0.heap.size w0 w' := by
  refine sy_enterF [] [] (by intro f hf; cases hf) Try.func10 rfl rfl fun aa S => ?_
  refine sy_run ⟨0, [1]⟩ 60 S fun bs aa w S => ?_
  refine sy_reg S fun S => ?_
  refine sy_ops 2 S fun bs aa w S => ?_
  by_cases h0 : n < 0
  · refine sy_cast 7 S (congrArg Value.bool (decide_eq_true h0 : decide (n < 0) = true)) (by kernel_rfl) fun S => ?_
    refine sy_run ⟨0, []⟩ 60 S fun bs aa w S => ?_
    exact sy_ret S (by kernel_rfl) (by kernel_rfl) fun hg => ⟨rfl, bel_gr hg⟩
  refine sy_cast 7 S (congrArg Value.bool (decide_eq_false h0 : decide (n < 0) = false)) (by kernel_rfl) fun S => ?_
  refine sy_ops 3 S fun bs aa w S => ?_
  refine sy_cast 10 S (congrArg Value.bool (decide_eq_true (by omega) : decide (n > 512) = true)) (by kernel_rfl) fun S => ?_
  refine sy_run ⟨0, []⟩ 60 S fun bs aa w S => ?_
  exact sy_ret S (by kernel_rfl) (by kernel_rfl) fun hg => ⟨rfl, bel_gr hg⟩
set_option maxHeartbeats 8000000 in
theorem readbad (d : Dk) (n : Int) (hn : ¬(0 ≤ n ∧ n < d.sl)) (w0 : World) : Calls Try.prog 15 #[d.v, .int .i64 n] w0 fun e w' => e = .returned (.tuple #[.string ByteArray.empty, .int .i64 8]) ∧ Below w0.heap.size w0 w' := by
  refine sy_enterF [] [] (by intro f hf; cases hf) Try.func15 rfl rfl fun aa S => ?_
  refine sy_run ⟨0, []⟩ 60 S fun bs aa w S => ?_
  refine sy_call1 S (has_f d n hn w) (by kernel_rfl) fun aa w hb S => ?_
  refine sy_run ⟨0, []⟩ 60 S fun bs aa w S => ?_
  exact sy_ret S (by kernel_rfl) (by kernel_rfl) fun hg => ⟨rfl, bel_gr hg⟩
set_option maxHeartbeats 8000000 in
theorem rreadbad (d : Dk) (n : Int) (hn : ¬(0 ≤ n ∧ n < d.sl)) (w0 : World) : Calls Try.prog 16 #[d.v, .int .i64 n] w0 fun e w' => e = .returned (.tuple #[.string ByteArray.empty, .int .i64 8]) ∧ Below w0.heap.size w0 w' := by
  refine sy_enterF [] [] (by intro f hf; cases hf) Try.func16 rfl rfl fun aa S => ?_
  refine sy_run ⟨0, [1]⟩ 60 S fun bs aa w S => ?_
  refine sy_reg S fun S => ?_
  refine sy_ops 2 S fun bs aa w S => ?_
  by_cases h0 : n < 0
  · refine sy_cast 7 S (congrArg Value.bool (decide_eq_true h0 : decide (n < 0) = true)) (by kernel_rfl) fun S => ?_
    refine sy_run ⟨0, []⟩ 60 S fun bs aa w S => ?_
    exact sy_ret S (by kernel_rfl) (by kernel_rfl) fun hg => ⟨rfl, bel_gr hg⟩
  refine sy_cast 7 S (congrArg Value.bool (decide_eq_false h0 : decide (n < 0) = false)) (by kernel_rfl) fun S => ?_
  refine sy_ops 6 S fun bs aa w S => ?_
  refine sy_cast 13 S (congrArg Value.bool (decide_eq_true (by omega) : decide (n ≥ (d.sl : Int)) = true)) (by kernel_rfl) fun S => ?_
  refine sy_run ⟨0, []⟩ 60 S fun bs aa w S => ?_
  exact sy_ret S (by kernel_rfl) (by kernel_rfl) fun hg => ⟨rfl, bel_gr hg⟩
set_option maxHeartbeats 8000000 in
theorem rread_t (d : Dk) (hd : d.ok) (j : Nat) (hj : j < d.sl) (w0 : World) (hA : StrAt w0 d.b d.o d.S) : Calls Try.prog 16 #[d.v, .int .i64 (j : Int)] w0 fun e w' => e = .returned (.tuple #[.string (d.S.getD j ByteArray.empty), .int .i64 0]) ∧ Below w0.heap.size w0 w' := by
  refine sy_enterF [] [rfSt d.b d.o d.S] (by intro f hf; simp only [List.mem_singleton] at hf; subst hf; exact hA) Try.func16 rfl rfl fun aa S => ?_
  refine sy_run ⟨0, [1]⟩ 60 S fun bs aa w S => ?_
  refine sy_reg S fun S => ?_
  refine sy_ops 2 S fun bs aa w S => ?_
  refine sy_cast 7 S (congrArg Value.bool (decide_eq_false (by omega) : decide ((j : Int) < 0) = false)) (by kernel_rfl) fun S => ?_
  refine sy_ops 6 S fun bs aa w S => ?_
  refine sy_cast 13 S (congrArg Value.bool (decide_eq_false (by omega) : decide ((j : Int) ≥ (d.sl : Int)) = false)) (by kernel_rfl) fun S => ?_
  refine sy_run ⟨0, [3]⟩ 60 S fun bs aa w S => ?_
  refine sy_reg S fun S => ?_
  refine sy_ops 3 S fun bs aa w S => ?_
  refine sy_ix (b := d.b) (off := d.o) (len := d.sl) (n := j) (size := 1) (i := (j : Int)) S (by rw [← hd.hs.resolve_left (by omega)]; kernel_rfl) rfl hj fun aa S => ?_
  refine sy_ldo S (ld_at (ty := 9) (b := d.b) (off := d.o + j * 1) (by kernel_rfl) (by rw [Nat.mul_one]; exact S.fact (f := rfSt d.b d.o d.S) (by simp) j (by rw [hd.hS]; omega))) (by kernel_rfl) fun aa S => ?_
  refine sy_run ⟨0, []⟩ 60 S fun bs aa w S => ?_
  exact sy_ret S (by kernel_rfl) (by kernel_rfl) fun hg => ⟨rfl, bel_gr hg⟩
set_option maxHeartbeats 8000000 in
theorem writebad1 (d : Dk) (n : Int) (hn : ¬(0 ≤ n ∧ n < d.sl)) (s : ByteArray) (w0 : World) : Calls Try.prog 17 #[d.v, .int .i64 n, .string s] w0 fun e w' => e = .returned (.tuple #[d.v, .int .i64 8]) ∧ Below w0.heap.size w0 w' := by
  refine sy_enterF [] [] (by intro f hf; cases hf) Try.func17 rfl rfl fun aa S => ?_
  refine sy_run ⟨0, []⟩ 60 S fun bs aa w S => ?_
  refine sy_call1 S (has_f d n hn w) (by kernel_rfl) fun aa w hb S => ?_
  refine sy_run ⟨0, []⟩ 60 S fun bs aa w S => ?_
  exact sy_ret S (by kernel_rfl) (by kernel_rfl) fun hg => ⟨rfl, bel_gr hg⟩
set_option maxHeartbeats 8000000 in
theorem writebad2 (d : Dk) (n : Int) (hn : 0 ≤ n ∧ n < d.sl) (s : ByteArray) (hs : s.size ≠ 32) (w0 : World) : Calls Try.prog 17 #[d.v, .int .i64 n, .string s] w0 fun e w' => e = .returned (.tuple #[d.v, .int .i64 1]) ∧ Below w0.heap.size w0 w' := by
  refine sy_enterF [] [] (by intro f hf; cases hf) Try.func17 rfl rfl fun aa S => ?_
  refine sy_run ⟨0, []⟩ 60 S fun bs aa w S => ?_
  refine sy_call1 S (has_t d n hn w) (by kernel_rfl) fun aa w hb S => ?_
  refine sy_run ⟨0, [3]⟩ 60 S fun bs aa w S => ?_
  refine sy_reg S fun S => ?_
  refine sy_ops 3 S fun bs aa w S => ?_
  refine sy_cast 17 S (congrArg Value.bool (by rw [decide_eq_false (by omega)]; rfl : (!decide ((s.size : Int) = 32)) = true)) (by kernel_rfl) fun S => ?_
  refine sy_run ⟨0, []⟩ 60 S fun bs aa w S => ?_
  exact sy_ret S (by kernel_rfl) (by kernel_rfl) fun hg => ⟨rfl, bel_gr hg⟩
set_option maxHeartbeats 8000000 in
theorem rwritebad1 (d : Dk) (n : Int) (hn : ¬(0 ≤ n ∧ n < d.sl)) (s : ByteArray) (w0 : World) : Calls Try.prog 18 #[d.v, .int .i64 n, .string s] w0 fun e w' => e = .returned (.tuple #[d.v, .int .i64 8]) ∧ Below w0.heap.size w0 w' := by
  refine sy_enterF [] [] (by intro f hf; cases hf) Try.func18 rfl rfl fun aa S => ?_
  refine sy_run ⟨0, [1]⟩ 60 S fun bs aa w S => ?_
  refine sy_reg S fun S => ?_
  refine sy_ops 2 S fun bs aa w S => ?_
  by_cases h0 : n < 0
  · refine sy_cast 11 S (congrArg Value.bool (decide_eq_true h0 : decide (n < 0) = true)) (by kernel_rfl) fun S => ?_
    refine sy_run ⟨0, []⟩ 60 S fun bs aa w S => ?_
    exact sy_ret S (by kernel_rfl) (by kernel_rfl) fun hg => ⟨rfl, bel_gr hg⟩
  refine sy_cast 11 S (congrArg Value.bool (decide_eq_false h0 : decide (n < 0) = false)) (by kernel_rfl) fun S => ?_
  refine sy_ops 6 S fun bs aa w S => ?_
  refine sy_cast 17 S (congrArg Value.bool (decide_eq_true (by omega) : decide (n ≥ (d.sl : Int)) = true)) (by kernel_rfl) fun S => ?_
  refine sy_run ⟨0, []⟩ 60 S fun bs aa w S => ?_
  exact sy_ret S (by kernel_rfl) (by kernel_rfl) fun hg => ⟨rfl, bel_gr hg⟩
set_option maxHeartbeats 8000000 in
theorem rwritebad2 (d : Dk) (n : Int) (hn : 0 ≤ n ∧ n < d.sl) (s : ByteArray) (hs : s.size ≠ 32) (w0 : World) : Calls Try.prog 18 #[d.v, .int .i64 n, .string s] w0 fun e w' => e = .returned (.tuple #[d.v, .int .i64 1]) ∧ Below w0.heap.size w0 w' := by
  refine sy_enterF [] [] (by intro f hf; cases hf) Try.func18 rfl rfl fun aa S => ?_
  refine sy_run ⟨0, [1]⟩ 60 S fun bs aa w S => ?_
  refine sy_reg S fun S => ?_
  refine sy_ops 2 S fun bs aa w S => ?_
  refine sy_cast 11 S (congrArg Value.bool (decide_eq_false (by omega) : decide (n < 0) = false)) (by kernel_rfl) fun S => ?_
  refine sy_ops 6 S fun bs aa w S => ?_
  refine sy_cast 17 S (congrArg Value.bool (decide_eq_false (by omega) : decide (n ≥ (d.sl : Int)) = false)) (by kernel_rfl) fun S => ?_
  refine sy_run ⟨0, [3]⟩ 60 S fun bs aa w S => ?_
  refine sy_reg S fun S => ?_
  refine sy_ops 3 S fun bs aa w S => ?_
  refine sy_cast 22 S (congrArg Value.bool (by rw [decide_eq_false (by omega)]; rfl : (!decide ((s.size : Int) = 32)) = true)) (by kernel_rfl) fun S => ?_
  refine sy_run ⟨0, []⟩ 60 S fun bs aa w S => ?_
  exact sy_ret S (by kernel_rfl) (by kernel_rfl) fun hg => ⟨rfl, bel_gr hg⟩
theorem cells_of_str {w : World} {b o : Nat} {S : List ByteArray} (h : StrAt w b o S) (j : Nat) (v : Value) (hv : (S.map Value.string)[j]? = some v) : w.cell? ⟨b, o + j, none⟩ = some v := by
  have hj : j < S.length := by have := (List.getElem?_eq_some_iff.1 hv).1; simpa using this
  rw [h j hj]
  rw [List.getElem?_map, List.getElem?_eq_getElem hj] at hv
  simpa [List.getD, List.getElem?_eq_getElem hj] using hv
set_option maxHeartbeats 8000000 in
theorem rsync0 (sa : Option Addr) (sc : Nat) (hsn : sa = none → sc = 0) (T : Value) (w0 : World) (hT : ∃ a l c, T = .slice a l c) : Calls Try.prog 20 #[.agg #[.slice sa 0 sc, T]] w0 fun e w' => ∃ b, e = .returned (.agg #[.slice (some ⟨b, 0, none⟩) 0 0, .slice none 0 0]) ∧ Below w0.heap.size w0 w' := by
  obtain ⟨a, l, c, rfl⟩ := hT
  refine sy_enterF [] [] (by intro f hf; cases hf) Try.func20 rfl rfl fun aa S => ?_
  refine sy_run ⟨0, [1]⟩ 60 S fun bs aa w S => ?_
  refine sy_reg S fun S => ?_
  refine sy_exB (op := .buildSlice 22 0 #[]) (ty := 22) S (by kernel_rfl) (ex_bs0 (e := 9) Try.underlying22 (by kernel_rfl)) fun v0 aa w1 hv0 hb0 S => ?_
  obtain ⟨gz, rfl, hgz, hv1, hv2⟩ := hv0
  refine sy_ops 2 S fun bs aa w S => ?_
  refine sy_ex (op := .call { callee := .builtin .append, args := #[.tmp 3, .tmp 5], argTypes := #[22, 22] }) (ty := 22) (v := .slice (some ⟨gz, 0, none⟩) 0 0) S (by kernel_rfl) (ex_app0 (e := 9) (so := sa) (cp := sc) Try.underlying22 (by kernel_rfl) (by kernel_rfl) (by kernel_rfl) hsn) fun aa S => ?_
  refine sy_run ⟨0, []⟩ 60 S fun bs aa w S => ?_
  exact sy_ret S (by kernel_rfl) (by kernel_rfl) fun hg => ⟨gz, rfl, bel_gr hg⟩
set_option maxHeartbeats 8000000 in
theorem rsync1 (w0 : World) (d : Dk) (hd : d.ok) (h0 : 0 < d.sl) (hA : StrAt w0 d.b d.o d.S) : Calls Try.prog 20 #[d.v] w0 fun e w' => ∃ d' : Dk, e = .returned d'.v ∧ Dev w0.heap.size w' d' d.S [] ∧ Below w0.heap.size w0 w' := by
  have hl1 := hd.l1
  have esa := hd.hs.resolve_left (by omega)
  have hIs : (Try.prog.info? 9).map (fun i => (i.zero, i.size, i.bytes)) = some (some (.string ByteArray.empty), 1, 16) := by kernel_rfl
  obtain ⟨iis, his1, his2, his3, his4⟩ : ∃ ii, Try.prog.info? 9 = some ii ∧ ii.zero = some (.string ByteArray.empty) ∧ ii.size = 1 ∧ ii.bytes = 16 := by
    cases hi : Try.prog.info? 9 with
    | none => rw [hi] at hIs; cases hIs
    | some i =>
      rw [hi] at hIs
      simp only [Option.map_some, Option.some.injEq, Prod.mk.injEq] at hIs
      exact ⟨i, rfl, hIs.1, hIs.2.1, hIs.2.2⟩
  refine sy_enterF [] [rfSt d.b d.o d.S] (by intro f hf; simp only [List.mem_singleton] at hf; subst hf; exact hA) Try.func20 rfl rfl fun aa S => ?_
  refine sy_run ⟨0, [1]⟩ 60 S fun bs aa w S => ?_
  refine sy_reg S fun S => ?_
  refine sy_exB (op := .buildSlice 22 0 #[]) (ty := 22) S (by kernel_rfl) (ex_bs0 (e := 9) Try.underlying22 (by kernel_rfl)) fun v0 aa w1 hv0 hb0 S => ?_
  obtain ⟨gz, rfl, hgz, hv1, hv2⟩ := hv0
  refine sy_ops 2 S fun bs aa w S => ?_
  have hltb := fun i hi => S.lt (i := i) hi
  have hsz := S.gr.size
  refine sy_exB (op := .call { callee := .builtin .append, args := #[.tmp 3, .tmp 5], argTypes := #[22, 22] }) (ty := 22) S (by kernel_rfl) (ex_appN (e := 9) (b := some ⟨gz, 0, none⟩) (ad := ⟨d.b, d.o, none⟩) (m := d.sl) (cp := d.sc) (size := 1) (bytes := 16) (news := d.S.map Value.string) Try.underlying22 his1 his2 his3 his4 rfl (by kernel_rfl) rfl (by rw [← esa]; kernel_rfl) h0 (fun j v hv => by rw [addr_addS]; exact cells_of_str (S.fact (f := rfSt d.b d.o d.S) (by simp)) j v hv) (by rw [List.length_map, hd.hS, Nat.mul_one]) (by omega) (by omega)) fun v aa w2 hO hb2 S => ?_
  rcases hO.2 with ⟨_, q⟩ | ⟨g, cap, cur, rfl, hg0, hgc, hnc, hcm, hcs, htk⟩
  · omega
  have S := S.add (rfRow g d.S) ⟨cur.toList, by simpa using hgc, by rw [hd.hS]; simpa using htk⟩ (fun i hi he => by have h1 := hltb i hi; have h2 : _ = g := he; omega)
  refine sy_run ⟨0, []⟩ 60 S fun bs aa w S => ?_
  exact sy_ret S (by kernel_rfl) (by kernel_rfl) fun hg => ⟨(⟨some ⟨g, 0, none⟩, d.sl, cap, none, 0, 0, g, 0, 0, 0, d.S, []⟩ : Dk), rfl, ⟨⟨hd.hS, Or.inr rfl, rfl, Or.inl rfl, Or.inl ⟨rfl, rfl, rfl⟩, Nat.zero_le _, fun h => by cases h⟩, rfl, rfl, row_at (S.fact (f := rfRow g d.S) (by simp)), fun j hj => absurd hj (Nat.not_lt_zero _), Or.inr (by show w0.heap.size ≤ g; omega), Or.inl rfl⟩, bel_gr hg⟩
end Go.Proofs.Ytnlcjlhcghgaoaa


/-
  Layer 22: the reference's Write.
-/
namespace Go.Proofs.Ytnlcjlhcghgaoaa
open Go Go.RowKit SZ
set_option linter.unusedVariables false
set_option linter.unusedSimpArgs false
set_option maxRecDepth 100000
attribute [local irreducible] post GD Nxt NxtAll
noncomputable def rwS (d : Dk) (j : Nat) (s : ByteArray) (g2 cap2 : Nat) : SS := ⟨48, [(1, .v (.int .i64 (j : Int))), (2, .v (.string s)), (3, .p 0 0), (6, .p 1 0), (8, .v (.slice (some ⟨g2, 0, none⟩) (d.tl + 1) cap2))], [⟨25, d.cs⟩, ⟨25, [.slice none 0 0, .slice none 0 0]⟩]⟩
noncomputable def rwC : List It := goN 60 4 [0, 0] [.code (bodyOf Try.f18)]
set_option maxHeartbeats 8000000 in
theorem rw_2 (w0 : World) (d : Dk) (hd : d.ok) (hl6 : d.tl ≤ 60) (j : Nat) (hj : j < d.sl) (s : ByteArray) (hs : s.size = 32) (g2 cap2 : Nat) (cur2 : Array Value) (hn2 : d.tl + 1 ≤ cap2) (ht2 : cur2.toList.take ((d.tl + 1) * 2) = wasV (d.W ++ [((j : Int), (d.S.getD j ByteArray.empty))])) (hg2 : w0.heap.size ≤ g2) (hm2 : cap2 ≤ 9223372036854775807) (b0 b1 : Nat) (aa : Act) (w : World)
    (S : Sy w0 [] [b0, b1] (rwS d j s g2 cap2) [rfBox g2 46 cur2.toList, rfSt d.b d.o d.S] aa w) : post Try.prog rwC (bodyPost Try.prog Try.f18 fun e w' => ∃ d' : Dk, e = .returned (.tuple #[d'.v, .int .i64 0]) ∧ Dev w0.heap.size w' d' (d.S.set j s) (d.W ++ [((j : Int), (d.S.getD j ByteArray.empty))]) ∧ Below w0.heap.size w0 w') .normal aa w := by
  have hl1 := hd.l1
  have esa := hd.hs.resolve_left (by omega)
  have hIs : (Try.prog.info? 9).map (fun i => (i.zero, i.size, i.bytes)) = some (some (.string ByteArray.empty), 1, 16) := by kernel_rfl
  obtain ⟨iis, his1, his2, his3, his4⟩ : ∃ ii, Try.prog.info? 9 = some ii ∧ ii.zero = some (.string ByteArray.empty) ∧ ii.size = 1 ∧ ii.bytes = 16 := by
    cases hi : Try.prog.info? 9 with
    | none => rw [hi] at hIs; cases hIs
    | some i =>
      rw [hi] at hIs
      simp only [Option.map_some, Option.some.injEq, Prod.mk.injEq] at hIs
      exact ⟨i, rfl, hIs.1, hIs.2.1, hIs.2.2⟩
  refine sy_run (c := ⟨rwC, rwS d j s g2 cap2⟩) ⟨0, [6]⟩ 60 S fun bs aa w S => ?_
  refine sy_reg S fun S => ?_
  refine sy_exB (op := .buildSlice 22 0 #[]) (ty := 22) S (by kernel_rfl) (ex_bs0 (e := 9) Try.underlying22 (by kernel_rfl)) fun v0 aa w1 hv0 hb0 S => ?_
  obtain ⟨gz, rfl, hgz, hv1, hv2⟩ := hv0
  refine sy_ops 2 S fun bs aa w S => ?_
  have hltb := fun i hi => S.lt (i := i) hi
  have hsz := S.gr.size
  have hg2l := (rfBox g2 46 cur2.toList).lt _ (S.fact (f := rfBox g2 46 cur2.toList) (by simp)) g2 rfl
  refine sy_exB (op := .call { callee := .builtin .append, args := #[.tmp 37, .tmp 39], argTypes := #[22, 22] }) (ty := 22) S (by kernel_rfl) (ex_appN (e := 9) (b := some ⟨gz, 0, none⟩) (ad := ⟨d.b, d.o, none⟩) (m := d.sl) (cp := d.sc) (size := 1) (bytes := 16) (news := d.S.map Value.string) Try.underlying22 his1 his2 his3 his4 rfl (by kernel_rfl) rfl (by rw [← esa]; kernel_rfl) (by omega) (fun j v hv => by rw [addr_addS]; exact cells_of_str (S.fact (f := rfSt d.b d.o d.S) (by simp)) j v hv) (by rw [List.length_map, hd.hS, Nat.mul_one]) (by omega) (by omega)) fun v aa w2 hO hb2 S => ?_
  rcases hO.2 with ⟨_, q⟩ | ⟨g, cap, cur, rfl, hg0, hgc, hnc, hcm, hcs, htk⟩
  · omega
  have hcur : w2.heap[g]? = some (.cells cur.toList.toArray 9 (0, 0)) := by simpa using hgc
  have S := S.add (rfBox g 9 cur.toList) hcur (fun i hi he => by have h1 := hltb i hi; have h2 : _ = g := he; omega)
  refine sy_run ⟨0, [7]⟩ 60 S fun bs aa w S => ?_
  refine sy_reg S fun S => ?_
  refine sy_ops 3 S fun bs aa w S => ?_
  refine sy_ix (b := g) (off := 0) (len := d.sl) (n := j) (size := 1) (i := (j : Int)) S (by kernel_rfl) rfl hj fun aa S => ?_
  have hZ := S.fact (f := rfBox g 9 cur.toList) (by simp)
  obtain ⟨hr, he⟩ := st_at (P := Try.prog) (ty := 9) (v := .string s) (off := j) (by kernel_rfl) (by kernel_rfl) (by kernel_rfl) hZ (by rw [Array.length_toList, hcs]; omega)
  refine sy_sto (ty := 9) (ad := ⟨g, 0 + j * 1, none⟩) (x := .v (.string s)) (v := .string s) S (by kernel_rfl) rfl (by rw [Nat.mul_one, Nat.zero_add]; exact hr) (gb_setC _ g j _) (Or.inr (by show w0.heap.size ≤ g; omega)) [rfBox g2 46 cur2.toList] (by intro f hf; simp only [List.mem_singleton] at hf; subst hf; exact ⟨by simp, fun hb => by have h1 : g = g2 := hb; omega⟩) (fun i hi e => (S.fs (rfBox g 9 cur.toList) (by simp)).2 i hi e) fun aa S2 => ?_
  have S := S2.add (rfBox g 9 (cur.toList.set j (.string s))) he (S.fs (rfBox g 9 cur.toList) (by simp)).2
  refine sy_run ⟨0, []⟩ 60 S fun bs aa w S => ?_
  refine sy_ret S (by kernel_rfl) (by kernel_rfl) fun hg => ⟨(⟨some ⟨g, 0, none⟩, d.sl, cap, some ⟨g2, 0, none⟩, d.tl + 1, cap2, g, 0, g2, 0, d.S.set j s, (d.W ++ [((j : Int), (d.S.getD j ByteArray.empty))])⟩ : Dk), rfl, ⟨⟨by simp [hd.hS], Or.inr rfl, by simp [hd.hW], Or.inr rfl, Or.inr ⟨rfl, hn2⟩, hm2, fun h => by cases h⟩, rfl, rfl, ?_, ?_, Or.inr (by show w0.heap.size ≤ g; omega), Or.inr hg2⟩, bel_gr hg⟩
  · refine strAt_of (n := d.sl) (S.fact (f := rfBox g 9 (cur.toList.set j (.string s))) (by simp)) ?_
    rw [List.take_set, List.map_set]
    rw [Nat.mul_one] at htk
    rw [htk]
  · exact wasAt_of (S.fact (f := rfBox g2 46 cur2.toList) (by simp)) ht2
set_option maxHeartbeats 8000000 in
theorem rwrite0 (w0 : World) (d : Dk) (hd : d.ok) (htn : d.ta = none → d.tc = 0) (h0 : d.tl = 0) (j : Nat) (hj : j < d.sl) (s : ByteArray) (hs : s.size = 32) (hA : StrAt w0 d.b d.o d.S) (hB : WasAt w0 d.c d.p d.W) : Calls Try.prog 18 #[d.v, .int .i64 (j : Int), .string s] w0 fun e w' => ∃ d' : Dk, e = .returned (.tuple #[d'.v, .int .i64 0]) ∧ Dev w0.heap.size w' d' (d.S.set j s) (d.W ++ [((j : Int), (d.S.getD j ByteArray.empty))]) ∧ Below w0.heap.size w0 w' := by
  have hl6 : d.tl ≤ 60 := by omega
  have hW0 : d.W = [] := List.eq_nil_of_length_eq_zero (by rw [hd.hW]; exact h0)
  obtain ⟨sa, sl, sc, ta, tl, tc, b, o, c, p, S0, W0⟩ := d
  simp only at h0 hW0 htn hj
  subst h0 hW0
  have esa : sa = some ⟨b, o, none⟩ := hd.hs.resolve_left (show ¬ sl = 0 by omega)
  have hIw : (Try.prog.info? 46).map (fun i => (i.zero, i.size, i.bytes)) = some (some (.agg #[.int .i64 0, .string ByteArray.empty]), 2, 24) := by kernel_rfl
  obtain ⟨iiw, hiw1, hiw2, hiw3, hiw4⟩ : ∃ ii, Try.prog.info? 46 = some ii ∧ ii.zero = some (.agg #[.int .i64 0, .string ByteArray.empty]) ∧ ii.size = 2 ∧ ii.bytes = 24 := by
    cases hi : Try.prog.info? 46 with
    | none => rw [hi] at hIw; cases hIw
    | some i =>
      rw [hi] at hIw
      simp only [Option.map_some, Option.some.injEq, Prod.mk.injEq] at hIw
      exact ⟨i, rfl, hIw.1, hIw.2.1, hIw.2.2⟩
  refine sy_enterF [] [rfSt b o S0, rfWs c p []] (by intro f hf; simp only [List.mem_cons, List.not_mem_nil, or_false] at hf; rcases hf with rfl | rfl; exact hA; exact hB) Try.func18 rfl rfl fun aa S => ?_
  refine sy_run ⟨0, [1]⟩ 60 S fun bs aa w S => ?_
  refine sy_reg S fun S => ?_
  refine sy_ops 2 S fun bs aa w S => ?_
  refine sy_cast 11 S (congrArg Value.bool (decide_eq_false (by omega) : decide ((j : Int) < 0) = false)) (by kernel_rfl) fun S => ?_
  refine sy_ops 6 S fun bs aa w S => ?_
  refine sy_cast 17 S (congrArg Value.bool (decide_eq_false (by omega) : decide ((j : Int) ≥ (sl : Int)) = false)) (by kernel_rfl) fun S => ?_
  refine sy_run ⟨0, [3]⟩ 60 S fun bs aa w S => ?_
  refine sy_reg S fun S => ?_
  refine sy_ops 3 S fun bs aa w S => ?_
  refine sy_cast 22 S (congrArg Value.bool (by rw [hs]; rfl : (!decide ((s.size : Int) = 32)) = false)) (by kernel_rfl) fun S => ?_
  refine sy_run ⟨0, []⟩ 60 S fun bs aa w S => ?_
  letI : KP := ⟨[27]⟩
  letI : HF := ⟨[rfSt b o S0]⟩
  refine dr_enter [0] (by kernel_rfl) (by kernel_rfl) S (by kernel_rfl) (fun aa w D => ?_) (fun f hf => by have e : f = rfSt b o S0 := List.mem_singleton.1 hf; subst e; simp)
  refine dr_tix 8 D (by kernel_rfl) (by kernel_rfl) (by kernel_rfl) (b := b) (off := o) (len := sl) (n := j) (size := 1) (ix := (j : Int)) (by rw [← esa]; kernel_rfl) rfl hj fun aa D => ?_
  refine dr_tld 9 D (by kernel_rfl) (by kernel_rfl) (by kernel_rfl) (ty := 9) (ad := ⟨b, o + j * 1, none⟩) (v := .string (S0.getD j ByteArray.empty)) (fun W hW => ld_at (by kernel_rfl) (by rw [Nat.mul_one]; exact (show StrAt W b o S0 from hW _ (List.mem_singleton.2 rfl)) j (by have hq := hd.hS; (try simp only at hq); omega))) (by kernel_rfl) fun aa D => ?_
  refine dr_any [0, 11] (by kernel_rfl) (by kernel_rfl) rfl (na2 ?_ ?_)
  · refine nx_exB 0 (op := .buildSlice 23 0 #[]) (ty := 23) D (by kernel_rfl) (by kernel_rfl) (ex_bs0 (e := 46) Try.underlying23 (by kernel_rfl)) fun v0 aa w1 hv0 hb0 hlt0 D => ?_
    obtain ⟨gz, rfl, hgz, hv1, hv2⟩ := hv0
    refine dr_any [3, 11] (by kernel_rfl) (by kernel_rfl) rfl (na2 ?_ ?_)
    · refine nx_ex 3 (op := .call { callee := .builtin .append, args := #[.tmp 24, .tmp 26], argTypes := #[23, 23] }) (ty := 23) (v := .slice (some ⟨gz, 0, none⟩) 0 0) D (by kernel_rfl) (by kernel_rfl) (ex_app0 (e := 46) (so := ta) (cp := tc) Try.underlying23 (by kernel_rfl) (by kernel_rfl) (by kernel_rfl) htn) fun aa D => ?_
      refine dr_any [11] (by kernel_rfl) (by kernel_rfl) rfl (na1 ?_)
      · refine nx_op 11 D (by kernel_rfl) (Nat.le_refl _) (by kernel_rfl) (by kernel_rfl) fun bs aa w D hl => ?_
        refine dr_any [12] (by kernel_rfl) (by kernel_rfl) rfl (na1 ?_)
        · refine have hlt12 := fun i hi => D.S.lt (i := i) hi; have hsz12 := D.S.gr.size; nx_appN 12 D (by kernel_rfl) (u := .v (.slice (some ⟨gz, 0, none⟩) 0 0)) (y := .s 2 0 1 1) (t := 23) (e := 46) (b := some ⟨gz, 0, none⟩) (n := 0) (ad := adr _ 2 0) (m := 1) (cp := 1) (size := 2) (bytes := 24) (xs := []) (news := [.int .i64 (j : Int), .string (S0.getD j ByteArray.empty)]) (by kernel_rfl) Try.underlying23 hiw1 hiw2 hiw3 hiw4 rfl rfl rfl (by omega) (Or.inr (Or.inr ⟨rfl, rfl⟩)) rfl (own2 (P := Try.prog) (ty := 46) (cs := [.int .i64 (j : Int), .string (S0.getD j ByteArray.empty)]) D.S (by kernel_rfl)) rfl (by omega) (by omega) fun v' aa w2 hO hb2 hlt D => ?_
          rcases hO.2 with ⟨_, q⟩ | ⟨g2, cap2, cur2, rfl, gb2, hg2, hn2, hm2, hs2, ht2⟩
          · omega
          have D := D.addF (rfBox g2 46 cur2.toList) (by show _ = some (Obj.cells cur2.toList.toArray 46 (0, 0)); simpa using hg2) (fun i hi he => by have h1 := hlt i hi; have h2 : _ = g2 := he; omega)
          refine dr_end D (by kernel_rfl) fun S => ?_
          have S := S.sub (F' := [rfBox g2 46 cur2.toList, rfSt b o S0]) (by intro f hf; simp only [List.mem_cons, List.not_mem_nil, or_false] at hf; rcases hf with rfl | rfl <;> simp)
          have S' := S.to [0, 1] (rwS (⟨sa, sl, sc, ta, 0, tc, b, o, c, p, S0, []⟩ : Dk) j s g2 cap2) (by kernel_rfl) (by kernel_rfl) (by kernel_rfl) (by kernel_rfl) (by kernel_rfl)
          refine sy_at2 (k' := rwC) (by kernel_rfl) ?_
          exact rw_2 w0 (⟨sa, sl, sc, ta, 0, tc, b, o, c, p, S0, []⟩ : Dk) hd hl6 j hj s hs g2 cap2 cur2 hn2 (by simpa [wasV] using ht2) (by omega) (by simp only [maxLen] at hm2; exact hm2) _ _ _ _ S'
    · refine nx_op 11 D (by kernel_rfl) (Nat.le_refl _) (by kernel_rfl) (by kernel_rfl) fun bs aa w D hl => ?_
      refine dr_any [3] (by kernel_rfl) (by kernel_rfl) rfl (na1 ?_)
      · refine nx_ex 3 (op := .call { callee := .builtin .append, args := #[.tmp 24, .tmp 26], argTypes := #[23, 23] }) (ty := 23) (v := .slice (some ⟨gz, 0, none⟩) 0 0) D (by kernel_rfl) (by kernel_rfl) (ex_app0 (e := 46) (so := ta) (cp := tc) Try.underlying23 (by kernel_rfl) (by kernel_rfl) (by kernel_rfl) htn) fun aa D => ?_
        refine dr_any [12] (by kernel_rfl) (by kernel_rfl) rfl (na1 ?_)
        · refine have hlt12 := fun i hi => D.S.lt (i := i) hi; have hsz12 := D.S.gr.size; nx_appN 12 D (by kernel_rfl) (u := .v (.slice (some ⟨gz, 0, none⟩) 0 0)) (y := .s 2 0 1 1) (t := 23) (e := 46) (b := some ⟨gz, 0, none⟩) (n := 0) (ad := adr _ 2 0) (m := 1) (cp := 1) (size := 2) (bytes := 24) (xs := []) (news := [.int .i64 (j : Int), .string (S0.getD j ByteArray.empty)]) (by kernel_rfl) Try.underlying23 hiw1 hiw2 hiw3 hiw4 rfl rfl rfl (by omega) (Or.inr (Or.inr ⟨rfl, rfl⟩)) rfl (own2 (P := Try.prog) (ty := 46) (cs := [.int .i64 (j : Int), .string (S0.getD j ByteArray.empty)]) D.S (by kernel_rfl)) rfl (by omega) (by omega) fun v' aa w2 hO hb2 hlt D => ?_
          rcases hO.2 with ⟨_, q⟩ | ⟨g2, cap2, cur2, rfl, gb2, hg2, hn2, hm2, hs2, ht2⟩
          · omega
          have D := D.addF (rfBox g2 46 cur2.toList) (by show _ = some (Obj.cells cur2.toList.toArray 46 (0, 0)); simpa using hg2) (fun i hi he => by have h1 := hlt i hi; have h2 : _ = g2 := he; omega)
          refine dr_end D (by kernel_rfl) fun S => ?_
          have S := S.sub (F' := [rfBox g2 46 cur2.toList, rfSt b o S0]) (by intro f hf; simp only [List.mem_cons, List.not_mem_nil, or_false] at hf; rcases hf with rfl | rfl <;> simp)
          have S' := S.to [0, 1] (rwS (⟨sa, sl, sc, ta, 0, tc, b, o, c, p, S0, []⟩ : Dk) j s g2 cap2) (by kernel_rfl) (by kernel_rfl) (by kernel_rfl) (by kernel_rfl) (by kernel_rfl)
          refine sy_at2 (k' := rwC) (by kernel_rfl) ?_
          exact rw_2 w0 (⟨sa, sl, sc, ta, 0, tc, b, o, c, p, S0, []⟩ : Dk) hd hl6 j hj s hs g2 cap2 cur2 hn2 (by simpa [wasV] using ht2) (by omega) (by simp only [maxLen] at hm2; exact hm2) _ _ _ _ S'
  · refine nx_op 11 D (by kernel_rfl) (Nat.le_refl _) (by kernel_rfl) (by kernel_rfl) fun bs aa w D hl => ?_
    refine dr_any [0] (by kernel_rfl) (by kernel_rfl) rfl (na1 ?_)
    · refine nx_exB 0 (op := .buildSlice 23 0 #[]) (ty := 23) D (by kernel_rfl) (by kernel_rfl) (ex_bs0 (e := 46) Try.underlying23 (by kernel_rfl)) fun v0 aa w1 hv0 hb0 hlt0 D => ?_
      obtain ⟨gz, rfl, hgz, hv1, hv2⟩ := hv0
      refine dr_any [3] (by kernel_rfl) (by kernel_rfl) rfl (na1 ?_)
      · refine nx_ex 3 (op := .call { callee := .builtin .append, args := #[.tmp 24, .tmp 26], argTypes := #[23, 23] }) (ty := 23) (v := .slice (some ⟨gz, 0, none⟩) 0 0) D (by kernel_rfl) (by kernel_rfl) (ex_app0 (e := 46) (so := ta) (cp := tc) Try.underlying23 (by kernel_rfl) (by kernel_rfl) (by kernel_rfl) htn) fun aa D => ?_
        refine dr_any [12] (by kernel_rfl) (by kernel_rfl) rfl (na1 ?_)
        · refine have hlt12 := fun i hi => D.S.lt (i := i) hi; have hsz12 := D.S.gr.size; nx_appN 12 D (by kernel_rfl) (u := .v (.slice (some ⟨gz, 0, none⟩) 0 0)) (y := .s 2 0 1 1) (t := 23) (e := 46) (b := some ⟨gz, 0, none⟩) (n := 0) (ad := adr _ 2 0) (m := 1) (cp := 1) (size := 2) (bytes := 24) (xs := []) (news := [.int .i64 (j : Int), .string (S0.getD j ByteArray.empty)]) (by kernel_rfl) Try.underlying23 hiw1 hiw2 hiw3 hiw4 rfl rfl rfl (by omega) (Or.inr (Or.inr ⟨rfl, rfl⟩)) rfl (own2 (P := Try.prog) (ty := 46) (cs := [.int .i64 (j : Int), .string (S0.getD j ByteArray.empty)]) D.S (by kernel_rfl)) rfl (by omega) (by omega) fun v' aa w2 hO hb2 hlt D => ?_
          rcases hO.2 with ⟨_, q⟩ | ⟨g2, cap2, cur2, rfl, gb2, hg2, hn2, hm2, hs2, ht2⟩
          · omega
          have D := D.addF (rfBox g2 46 cur2.toList) (by show _ = some (Obj.cells cur2.toList.toArray 46 (0, 0)); simpa using hg2) (fun i hi he => by have h1 := hlt i hi; have h2 : _ = g2 := he; omega)
          refine dr_end D (by kernel_rfl) fun S => ?_
          have S := S.sub (F' := [rfBox g2 46 cur2.toList, rfSt b o S0]) (by intro f hf; simp only [List.mem_cons, List.not_mem_nil, or_false] at hf; rcases hf with rfl | rfl <;> simp)
          have S' := S.to [0, 1] (rwS (⟨sa, sl, sc, ta, 0, tc, b, o, c, p, S0, []⟩ : Dk) j s g2 cap2) (by kernel_rfl) (by kernel_rfl) (by kernel_rfl) (by kernel_rfl) (by kernel_rfl)
          refine sy_at2 (k' := rwC) (by kernel_rfl) ?_
          exact rw_2 w0 (⟨sa, sl, sc, ta, 0, tc, b, o, c, p, S0, []⟩ : Dk) hd hl6 j hj s hs g2 cap2 cur2 hn2 (by simpa [wasV] using ht2) (by omega) (by simp only [maxLen] at hm2; exact hm2) _ _ _ _ S'
theorem own_le {w : World} {B B0 : Nat} {e : TypeId} {size : Nat} {v : Value} {n : Nat} {xs : List Value} (h : w.ownsRow B e size v n xs) (hle : B0 ≤ B) : w.ownsRow B0 e size v n xs := by
  refine ⟨h.1, h.2.imp id ?_⟩
  rintro ⟨g, cap, cur, h1, h2, h3⟩
  exact ⟨g, cap, cur, h1, Nat.le_trans hle h2, h3⟩
set_option maxHeartbeats 8000000 in
theorem rwrite1 (w0 : World) (d : Dk) (hd : d.ok) (hl6 : d.tl ≤ 60) (j : Nat) (hj : j < d.sl) (s : ByteArray) (hs : s.size = 32) (h0 : 0 < d.tl) (hA : StrAt w0 d.b d.o d.S) (hB : WasAt w0 d.c d.p d.W) : Calls Try.prog 18 #[d.v, .int .i64 (j : Int), .string s] w0 fun e w' => ∃ d' : Dk, e = .returned (.tuple #[d'.v, .int .i64 0]) ∧ Dev w0.heap.size w' d' (d.S.set j s) (d.W ++ [((j : Int), (d.S.getD j ByteArray.empty))]) ∧ Below w0.heap.size w0 w' := by
  have esa : d.sa = some ⟨d.b, d.o, none⟩ := hd.hs.resolve_left (by omega)
  have eta : d.ta = some ⟨d.c, d.p, none⟩ := hd.hw.resolve_left (by omega)
  have hbl : d.b < w0.heap.size := (rfSt d.b d.o d.S).lt w0 hA d.b ⟨rfl, by rw [hd.hS]; omega⟩
  have hIw : (Try.prog.info? 46).map (fun i => (i.zero, i.size, i.bytes)) = some (some (.agg #[.int .i64 0, .string ByteArray.empty]), 2, 24) := by kernel_rfl
  obtain ⟨iiw, hiw1, hiw2, hiw3, hiw4⟩ : ∃ ii, Try.prog.info? 46 = some ii ∧ ii.zero = some (.agg #[.int .i64 0, .string ByteArray.empty]) ∧ ii.size = 2 ∧ ii.bytes = 24 := by
    cases hi : Try.prog.info? 46 with
    | none => rw [hi] at hIw; cases hIw
    | some i =>
      rw [hi] at hIw
      simp only [Option.map_some, Option.some.injEq, Prod.mk.injEq] at hIw
      exact ⟨i, rfl, hIw.1, hIw.2.1, hIw.2.2⟩
  refine sy_enterF [] [rfSt d.b d.o d.S, rfWs d.c d.p d.W] (by intro f hf; simp only [List.mem_cons, List.not_mem_nil, or_false] at hf; rcases hf with rfl | rfl; exact hA; exact hB) Try.func18 rfl rfl fun aa S => ?_
  refine sy_run ⟨0, [1]⟩ 60 S fun bs aa w S => ?_
  refine sy_reg S fun S => ?_
  refine sy_ops 2 S fun bs aa w S => ?_
  refine sy_cast 11 S (congrArg Value.bool (decide_eq_false (by omega) : decide ((j : Int) < 0) = false)) (by kernel_rfl) fun S => ?_
  refine sy_ops 6 S fun bs aa w S => ?_
  refine sy_cast 17 S (congrArg Value.bool (decide_eq_false (by omega) : decide ((j : Int) ≥ (d.sl : Int)) = false)) (by kernel_rfl) fun S => ?_
  refine sy_run ⟨0, [3]⟩ 60 S fun bs aa w S => ?_
  refine sy_reg S fun S => ?_
  refine sy_ops 3 S fun bs aa w S => ?_
  refine sy_cast 22 S (congrArg Value.bool (by rw [hs]; rfl : (!decide ((s.size : Int) = 32)) = false)) (by kernel_rfl) fun S => ?_
  refine sy_run ⟨0, []⟩ 60 S fun bs aa w S => ?_
  letI : KP := ⟨[27]⟩
  letI : HF := ⟨[rfSt d.b d.o d.S]⟩
  refine dr_enter [0] (by kernel_rfl) (by kernel_rfl) S (by kernel_rfl) (fun aa w D => ?_) (fun f hf => by have e : f = rfSt d.b d.o d.S := List.mem_singleton.1 hf; subst e; simp)
  refine dr_tix 8 D (by kernel_rfl) (by kernel_rfl) (by kernel_rfl) (b := d.b) (off := d.o) (len := d.sl) (n := j) (size := 1) (ix := (j : Int)) (by rw [← esa]; kernel_rfl) rfl hj fun aa D => ?_
  refine dr_tld 9 D (by kernel_rfl) (by kernel_rfl) (by kernel_rfl) (ty := 9) (ad := ⟨d.b, d.o + j * 1, none⟩) (v := .string (d.S.getD j ByteArray.empty)) (fun W hW => ld_at (by kernel_rfl) (by rw [Nat.mul_one]; exact (show StrAt W d.b d.o d.S from hW _ (List.mem_singleton.2 rfl)) j (by have hq := hd.hS; (try simp only at hq); omega))) (by kernel_rfl) fun aa D => ?_
  refine dr_any [0, 11] (by kernel_rfl) (by kernel_rfl) rfl (na2 ?_ ?_)
  · refine nx_exB 0 (op := .buildSlice 23 0 #[]) (ty := 23) D (by kernel_rfl) (by kernel_rfl) (ex_bs0 (e := 46) Try.underlying23 (by kernel_rfl)) fun v0 aa w1 hv0 hb0 hlt0 D => ?_
    obtain ⟨gz, rfl, hgz, hv1, hv2⟩ := hv0
    refine dr_any [3, 11] (by kernel_rfl) (by kernel_rfl) rfl (na2 ?_ ?_)
    · refine have hsz3 := D.S.gr.size; have hlt3' := fun i hi => D.S.lt (i := i) hi; nx_exB 3 (op := .call { callee := .builtin .append, args := #[.tmp 24, .tmp 26], argTypes := #[23, 23] }) (ty := 23) D (by kernel_rfl) (by kernel_rfl) (ex_appN (e := 46) (b := some ⟨gz, 0, none⟩) (ad := ⟨d.c, d.p, none⟩) (m := d.tl) (cp := d.tc) (size := 2) (bytes := 24) (news := wasV d.W) Try.underlying23 hiw1 hiw2 hiw3 hiw4 rfl (by kernel_rfl) rfl (by rw [← eta]; kernel_rfl) (by omega) (fun k v hv => by rw [addr_addS]; exact wasV_at (D.S.fact (f := rfWs d.c d.p d.W) (by simp)) k v hv) (by rw [wasV_len, hd.hW]) (by omega) (by omega)) fun v3 aa w3 hO3 hb3 hlt3 D => ?_
      have D := D.addF (rfOwn w0.heap.size 46 2 v3 d.tl (wasV d.W)) (own_le hO3 hsz3) (fun i hi hg => by have h1 := hO3.lt _ hg; have h2 := hlt3 i hi; omega)
      refine dr_any [11] (by kernel_rfl) (by kernel_rfl) rfl (na1 ?_)
      · refine nx_op 11 D (by kernel_rfl) (Nat.le_refl _) (by kernel_rfl) (by kernel_rfl) fun bs aa w D hl => ?_
        refine dr_any [12] (by kernel_rfl) (by kernel_rfl) rfl (na1 ?_)
        · refine have hap := (D.S.fs (rfOwn w0.heap.size 46 2 v3 d.tl (wasV d.W)) (by simp)).2; have hsz12 := D.S.gr.size; nx_appO 12 w0.heap.size [rfSt d.b d.o d.S] D (by kernel_rfl) (u := .v v3) (y := .s 2 0 1 1) (t := 23) (e := 46) (v := v3) (n := d.tl) (ad := adr _ 2 0) (m := 1) (cp := 1) (size := 2) (bytes := 24) (xs := wasV d.W) (news := [.int .i64 (j : Int), .string (d.S.getD j ByteArray.empty)]) (by kernel_rfl) Try.underlying23 hiw1 hiw2 hiw3 hiw4 rfl (by omega) rfl rfl (D.S.fact (f := (rfOwn w0.heap.size 46 2 v3 d.tl (wasV d.W))) (by simp)) hsz12 (own2 (P := Try.prog) (ty := 46) (cs := [.int .i64 (j : Int), .string (d.S.getD j ByteArray.empty)]) D.S (by kernel_rfl)) rfl (by intro u hu; simp only [List.mem_cons, List.not_mem_nil, or_false] at hu; rcases hu with rfl | rfl <;> rfl) (by simp only [maxLen]; omega) (by omega) (fun g hg => Or.inr ((D.S.fact (f := (rfOwn w0.heap.size 46 2 v3 d.tl (wasV d.W))) (by simp)).lt g hg).1) (fun f hf => by have e : f = rfSt d.b d.o d.S := List.mem_singleton.1 hf; subst e; exact ⟨by simp, fun g hg hb => by have h1 := ((D.S.fact (f := (rfOwn w0.heap.size 46 2 v3 d.tl (wasV d.W))) (by simp)).lt g hg).1; have h2 : g = d.b := hb.1; omega⟩) (fun f hf => hf) (fun i hi hb => hap i hi hb) fun v' aa w2 hO hg12 hnn hlt D => ?_
          rcases hO.2 with ⟨_, q⟩ | ⟨g2, cap2, cur2, rfl, gb2, hg2, hn2, hm2, hs2, ht2⟩
          · omega
          have D := D.addF (rfBox g2 46 cur2.toList) (by show _ = some (Obj.cells cur2.toList.toArray 46 (0, 0)); simpa using hg2) (fun i hi he => by have h2 : _ = g2 := he; rcases hnn g2 rfl with q | q; exact hap i hi (by rw [h2]; exact q); have h1 := hlt i hi; omega)
          refine dr_end D (by kernel_rfl) fun S => ?_
          have S := S.sub (F' := [rfBox g2 46 cur2.toList, rfSt d.b d.o d.S]) (by intro f hf; simp only [List.mem_cons, List.not_mem_nil, or_false] at hf; rcases hf with rfl | rfl <;> simp)
          have S' := S.to [0, 1] (rwS d j s g2 cap2) (by kernel_rfl) (by kernel_rfl) (by kernel_rfl) (by kernel_rfl) (by kernel_rfl)
          refine sy_at2 (k' := rwC) (by kernel_rfl) ?_
          exact rw_2 w0 d hd hl6 j hj s hs g2 cap2 cur2 hn2 (by rw [wasV_app]; exact ht2) (by omega) (by simp only [maxLen] at hm2; exact hm2) _ _ _ _ S'
    · refine nx_op 11 D (by kernel_rfl) (Nat.le_refl _) (by kernel_rfl) (by kernel_rfl) fun bs aa w D hl => ?_
      refine dr_any [3] (by kernel_rfl) (by kernel_rfl) rfl (na1 ?_)
      · refine have hsz3 := D.S.gr.size; have hlt3' := fun i hi => D.S.lt (i := i) hi; nx_exB 3 (op := .call { callee := .builtin .append, args := #[.tmp 24, .tmp 26], argTypes := #[23, 23] }) (ty := 23) D (by kernel_rfl) (by kernel_rfl) (ex_appN (e := 46) (b := some ⟨gz, 0, none⟩) (ad := ⟨d.c, d.p, none⟩) (m := d.tl) (cp := d.tc) (size := 2) (bytes := 24) (news := wasV d.W) Try.underlying23 hiw1 hiw2 hiw3 hiw4 rfl (by kernel_rfl) rfl (by rw [← eta]; kernel_rfl) (by omega) (fun k v hv => by rw [addr_addS]; exact wasV_at (D.S.fact (f := rfWs d.c d.p d.W) (by simp)) k v hv) (by rw [wasV_len, hd.hW]) (by omega) (by omega)) fun v3 aa w3 hO3 hb3 hlt3 D => ?_
        have D := D.addF (rfOwn w0.heap.size 46 2 v3 d.tl (wasV d.W)) (own_le hO3 hsz3) (fun i hi hg => by have h1 := hO3.lt _ hg; have h2 := hlt3 i hi; omega)
        refine dr_any [12] (by kernel_rfl) (by kernel_rfl) rfl (na1 ?_)
        · refine have hap := (D.S.fs (rfOwn w0.heap.size 46 2 v3 d.tl (wasV d.W)) (by simp)).2; have hsz12 := D.S.gr.size; nx_appO 12 w0.heap.size [rfSt d.b d.o d.S] D (by kernel_rfl) (u := .v v3) (y := .s 2 0 1 1) (t := 23) (e := 46) (v := v3) (n := d.tl) (ad := adr _ 2 0) (m := 1) (cp := 1) (size := 2) (bytes := 24) (xs := wasV d.W) (news := [.int .i64 (j : Int), .string (d.S.getD j ByteArray.empty)]) (by kernel_rfl) Try.underlying23 hiw1 hiw2 hiw3 hiw4 rfl (by omega) rfl rfl (D.S.fact (f := (rfOwn w0.heap.size 46 2 v3 d.tl (wasV d.W))) (by simp)) hsz12 (own2 (P := Try.prog) (ty := 46) (cs := [.int .i64 (j : Int), .string (d.S.getD j ByteArray.empty)]) D.S (by kernel_rfl)) rfl (by intro u hu; simp only [List.mem_cons, List.not_mem_nil, or_false] at hu; rcases hu with rfl | rfl <;> rfl) (by simp only [maxLen]; omega) (by omega) (fun g hg => Or.inr ((D.S.fact (f := (rfOwn w0.heap.size 46 2 v3 d.tl (wasV d.W))) (by simp)).lt g hg).1) (fun f hf => by have e : f = rfSt d.b d.o d.S := List.mem_singleton.1 hf; subst e; exact ⟨by simp, fun g hg hb => by have h1 := ((D.S.fact (f := (rfOwn w0.heap.size 46 2 v3 d.tl (wasV d.W))) (by simp)).lt g hg).1; have h2 : g = d.b := hb.1; omega⟩) (fun f hf => hf) (fun i hi hb => hap i hi hb) fun v' aa w2 hO hg12 hnn hlt D => ?_
          rcases hO.2 with ⟨_, q⟩ | ⟨g2, cap2, cur2, rfl, gb2, hg2, hn2, hm2, hs2, ht2⟩
          · omega
          have D := D.addF (rfBox g2 46 cur2.toList) (by show _ = some (Obj.cells cur2.toList.toArray 46 (0, 0)); simpa using hg2) (fun i hi he => by have h2 : _ = g2 := he; rcases hnn g2 rfl with q | q; exact hap i hi (by rw [h2]; exact q); have h1 := hlt i hi; omega)
          refine dr_end D (by kernel_rfl) fun S => ?_
          have S := S.sub (F' := [rfBox g2 46 cur2.toList, rfSt d.b d.o d.S]) (by intro f hf; simp only [List.mem_cons, List.not_mem_nil, or_false] at hf; rcases hf with rfl | rfl <;> simp)
          have S' := S.to [0, 1] (rwS d j s g2 cap2) (by kernel_rfl) (by kernel_rfl) (by kernel_rfl) (by kernel_rfl) (by kernel_rfl)
          refine sy_at2 (k' := rwC) (by kernel_rfl) ?_
          exact rw_2 w0 d hd hl6 j hj s hs g2 cap2 cur2 hn2 (by rw [wasV_app]; exact ht2) (by omega) (by simp only [maxLen] at hm2; exact hm2) _ _ _ _ S'
  · refine nx_op 11 D (by kernel_rfl) (Nat.le_refl _) (by kernel_rfl) (by kernel_rfl) fun bs aa w D hl => ?_
    refine dr_any [0] (by kernel_rfl) (by kernel_rfl) rfl (na1 ?_)
    · refine nx_exB 0 (op := .buildSlice 23 0 #[]) (ty := 23) D (by kernel_rfl) (by kernel_rfl) (ex_bs0 (e := 46) Try.underlying23 (by kernel_rfl)) fun v0 aa w1 hv0 hb0 hlt0 D => ?_
      obtain ⟨gz, rfl, hgz, hv1, hv2⟩ := hv0
      refine dr_any [3] (by kernel_rfl) (by kernel_rfl) rfl (na1 ?_)
      · refine have hsz3 := D.S.gr.size; have hlt3' := fun i hi => D.S.lt (i := i) hi; nx_exB 3 (op := .call { callee := .builtin .append, args := #[.tmp 24, .tmp 26], argTypes := #[23, 23] }) (ty := 23) D (by kernel_rfl) (by kernel_rfl) (ex_appN (e := 46) (b := some ⟨gz, 0, none⟩) (ad := ⟨d.c, d.p, none⟩) (m := d.tl) (cp := d.tc) (size := 2) (bytes := 24) (news := wasV d.W) Try.underlying23 hiw1 hiw2 hiw3 hiw4 rfl (by kernel_rfl) rfl (by rw [← eta]; kernel_rfl) (by omega) (fun k v hv => by rw [addr_addS]; exact wasV_at (D.S.fact (f := rfWs d.c d.p d.W) (by simp)) k v hv) (by rw [wasV_len, hd.hW]) (by omega) (by omega)) fun v3 aa w3 hO3 hb3 hlt3 D => ?_
        have D := D.addF (rfOwn w0.heap.size 46 2 v3 d.tl (wasV d.W)) (own_le hO3 hsz3) (fun i hi hg => by have h1 := hO3.lt _ hg; have h2 := hlt3 i hi; omega)
        refine dr_any [12] (by kernel_rfl) (by kernel_rfl) rfl (na1 ?_)
        · refine have hap := (D.S.fs (rfOwn w0.heap.size 46 2 v3 d.tl (wasV d.W)) (by simp)).2; have hsz12 := D.S.gr.size; nx_appO 12 w0.heap.size [rfSt d.b d.o d.S] D (by kernel_rfl) (u := .v v3) (y := .s 2 0 1 1) (t := 23) (e := 46) (v := v3) (n := d.tl) (ad := adr _ 2 0) (m := 1) (cp := 1) (size := 2) (bytes := 24) (xs := wasV d.W) (news := [.int .i64 (j : Int), .string (d.S.getD j ByteArray.empty)]) (by kernel_rfl) Try.underlying23 hiw1 hiw2 hiw3 hiw4 rfl (by omega) rfl rfl (D.S.fact (f := (rfOwn w0.heap.size 46 2 v3 d.tl (wasV d.W))) (by simp)) hsz12 (own2 (P := Try.prog) (ty := 46) (cs := [.int .i64 (j : Int), .string (d.S.getD j ByteArray.empty)]) D.S (by kernel_rfl)) rfl (by intro u hu; simp only [List.mem_cons, List.not_mem_nil, or_false] at hu; rcases hu with rfl | rfl <;> rfl) (by simp only [maxLen]; omega) (by omega) (fun g hg => Or.inr ((D.S.fact (f := (rfOwn w0.heap.size 46 2 v3 d.tl (wasV d.W))) (by simp)).lt g hg).1) (fun f hf => by have e : f = rfSt d.b d.o d.S := List.mem_singleton.1 hf; subst e; exact ⟨by simp, fun g hg hb => by have h1 := ((D.S.fact (f := (rfOwn w0.heap.size 46 2 v3 d.tl (wasV d.W))) (by simp)).lt g hg).1; have h2 : g = d.b := hb.1; omega⟩) (fun f hf => hf) (fun i hi hb => hap i hi hb) fun v' aa w2 hO hg12 hnn hlt D => ?_
          rcases hO.2 with ⟨_, q⟩ | ⟨g2, cap2, cur2, rfl, gb2, hg2, hn2, hm2, hs2, ht2⟩
          · omega
          have D := D.addF (rfBox g2 46 cur2.toList) (by show _ = some (Obj.cells cur2.toList.toArray 46 (0, 0)); simpa using hg2) (fun i hi he => by have h2 : _ = g2 := he; rcases hnn g2 rfl with q | q; exact hap i hi (by rw [h2]; exact q); have h1 := hlt i hi; omega)
          refine dr_end D (by kernel_rfl) fun S => ?_
          have S := S.sub (F' := [rfBox g2 46 cur2.toList, rfSt d.b d.o d.S]) (by intro f hf; simp only [List.mem_cons, List.not_mem_nil, or_false] at hf; rcases hf with rfl | rfl <;> simp)
          have S' := S.to [0, 1] (rwS d j s g2 cap2) (by kernel_rfl) (by kernel_rfl) (by kernel_rfl) (by kernel_rfl) (by kernel_rfl)
          refine sy_at2 (k' := rwC) (by kernel_rfl) ?_
          exact rw_2 w0 d hd hl6 j hj s hs g2 cap2 cur2 hn2 (by rw [wasV_app]; exact ht2) (by omega) (by simp only [maxLen] at hm2; exact hm2) _ _ _ _ S'
theorem rwrite_t (w0 : World) (d : Dk) (hd : d.ok) (hl6 : d.tl ≤ 60) (j : Nat) (hj : j < d.sl) (s : ByteArray) (hs : s.size = 32) (htn : d.ta = none → d.tc = 0) (hA : StrAt w0 d.b d.o d.S) (hB : WasAt w0 d.c d.p d.W) : Calls Try.prog 18 #[d.v, .int .i64 (j : Int), .string s] w0 fun e w' => ∃ d' : Dk, e = .returned (.tuple #[d'.v, .int .i64 0]) ∧ Dev w0.heap.size w' d' (d.S.set j s) (d.W ++ [((j : Int), (d.S.getD j ByteArray.empty))]) ∧ Below w0.heap.size w0 w' := by
  by_cases h0 : d.tl = 0
  · exact rwrite0 w0 d hd htn h0 j hj s hs hA hB
  · exact rwrite1 w0 d hd hl6 j hj s hs (by omega) hA hB
end Go.Proofs.Ytnlcjlhcghgaoaa


/-
  Layer 22: new devices.
-/
namespace Go.Proofs.Ytnlcjlhcghgaoaa
open Go Go.RowKit SZ
set_option linter.unusedVariables false
set_option linter.unusedSimpArgs false
set_option maxRecDepth 100000
attribute [local irreducible] post GD Nxt NxtAll
noncomputable def rn1 : Cfg := ⟨goZ 60 [0] [.code (bodyOf Try.f10)], ⟨0, [], []⟩⟩
noncomputable def rnS (n j : Nat) (ga : Option Addr) (gc : Nat) : SS := ⟨26, [(0, .v (.int .i64 (n : Int))), (2, .p 0 0), (4, .p 1 0), (5, .v (.int .i64 (j : Int)))], [⟨25, [.slice none 0 0, .slice none 0 0]⟩, ⟨25, [.slice ga j gc, .slice none 0 0]⟩]⟩
set_option maxHeartbeats 8000000 in
theorem rn_e (w0 : World) (n : Nat) (hn : n ≤ 512) (m : Nat) (ga : Option Addr) (gc : Nat) (hgn : ga = none → gc = 0) (x0 x1 : Nat) (aa : Act) (w : World) (S : Sy w0 [] [x0, x1] (rnS n (n) ga gc) [(rfOwn w0.heap.size 9 1 (.slice ga (n) gc) (n) (List.replicate (n) (Value.string z32)))] aa w) : post Try.prog (.rnd (m + 1) (bodyL rn1) :: rn1.k.tail) (bodyPost Try.prog Try.f10 fun e w' => ∃ d' : Dk, e = .returned (.tuple #[d'.v, .int .i64 0]) ∧ Dev w0.heap.size w' d' (List.replicate n z32) [] ∧ Below w0.heap.size w0 w') .normal aa w := by
  refine sy_run (c := ⟨(.rnd (m + 1) (bodyL rn1) :: rn1.k.tail), rnS n n ga gc⟩) ⟨0, [5]⟩ 50 S fun bs aa w S => ?_
  refine sy_reg S fun S => ?_
  refine sy_ops 3 S fun bs aa w S => ?_
  refine sy_cast 16 S (congrArg Value.bool (decide_eq_false (by omega) : decide ((n : Int) < (n : Int)) = false)) (by kernel_rfl) fun S => ?_
  refine sy_run ⟨0, []⟩ 60 S fun bs aa w S => ?_
  have hO := S.fact (f := (rfOwn w0.heap.size 9 1 (.slice ga (n) gc) (n) (List.replicate (n) (Value.string z32)))) (by simp)
  rcases hO.2 with ⟨hv, q⟩ | ⟨g, cap, cur, hv, hg0, hgc, hnc, hcm, hcs, htk⟩
  · simp only [Value.slice.injEq] at hv
    obtain ⟨rfl, rfl, rfl⟩ := hv
    exact sy_ret S (by kernel_rfl) (by kernel_rfl) fun hg => ⟨⟨none, 0, 0, none, 0, 0, 0, 0, 0, 0, [], []⟩, rfl, ⟨⟨rfl, Or.inl rfl, rfl, Or.inl rfl, Or.inl ⟨rfl, rfl, rfl⟩, Nat.zero_le _, fun _ => rfl⟩, rfl, rfl, fun j hj => absurd hj (Nat.not_lt_zero _), fun j hj => absurd hj (Nat.not_lt_zero _), Or.inl rfl, Or.inl rfl⟩, bel_gr hg⟩
  · simp only [Value.slice.injEq] at hv
    obtain ⟨rfl, _, rfl⟩ := hv
    exact sy_ret S (by kernel_rfl) (by kernel_rfl) fun hg => ⟨⟨some ⟨g, 0, none⟩, n, gc, none, 0, 0, g, 0, 0, 0, List.replicate n z32, []⟩, rfl, ⟨⟨by simp, Or.inr rfl, rfl, Or.inl rfl, Or.inl ⟨rfl, rfl, rfl⟩, Nat.zero_le _, fun h => by cases h⟩, rfl, rfl, strAt_of (n := n) (cs := cur.toList) (by simpa using hgc) (by rw [Nat.mul_one] at htk; rw [htk, List.map_replicate]), fun j hj => absurd hj (Nat.not_lt_zero _), Or.inr hg0, Or.inl rfl⟩, bel_gr hg⟩
set_option maxHeartbeats 8000000 in
theorem rn_s (w0 : World) (n : Nat) (hn : n ≤ 512) (m j : Nat) (hj : j < n) (ih : ∀ (ga : Option Addr) (gc : Nat) (hgn : ga = none → gc = 0) (x0 x1 : Nat) (aa : Act) (w : World) (S : Sy w0 [] [x0, x1] (rnS n (j + 1) ga gc) [(rfOwn w0.heap.size 9 1 (.slice ga (j + 1) gc) (j + 1) (List.replicate (j + 1) (Value.string z32)))] aa w), post Try.prog (.rnd (m) (bodyL rn1) :: rn1.k.tail) (bodyPost Try.prog Try.f10 fun e w' => ∃ d' : Dk, e = .returned (.tuple #[d'.v, .int .i64 0]) ∧ Dev w0.heap.size w' d' (List.replicate n z32) [] ∧ Below w0.heap.size w0 w') .normal aa w) (ga : Option Addr) (gc : Nat) (hgn : ga = none → gc = 0) (x0 x1 : Nat) (aa : Act) (w : World) (S : Sy w0 [] [x0, x1] (rnS n (j) ga gc) [(rfOwn w0.heap.size 9 1 (.slice ga (j) gc) (j) (List.replicate (j) (Value.string z32)))] aa w) : post Try.prog (.rnd (m + 1) (bodyL rn1) :: rn1.k.tail) (bodyPost Try.prog Try.f10 fun e w' => ∃ d' : Dk, e = .returned (.tuple #[d'.v, .int .i64 0]) ∧ Dev w0.heap.size w' d' (List.replicate n z32) [] ∧ Below w0.heap.size w0 w') .normal aa w := by
  have hIs : (Try.prog.info? 9).map (fun i => (i.zero, i.size, i.bytes)) = some (some (.string ByteArray.empty), 1, 16) := by kernel_rfl
  obtain ⟨iis, his1, his2, his3, his4⟩ : ∃ ii, Try.prog.info? 9 = some ii ∧ ii.zero = some (.string ByteArray.empty) ∧ ii.size = 1 ∧ ii.bytes = 16 := by
    cases hi : Try.prog.info? 9 with
    | none => rw [hi] at hIs; cases hIs
    | some i =>
      rw [hi] at hIs
      simp only [Option.map_some, Option.some.injEq, Prod.mk.injEq] at hIs
      exact ⟨i, rfl, hIs.1, hIs.2.1, hIs.2.2⟩
  refine sy_run (c := ⟨(.rnd (m + 1) (bodyL rn1) :: rn1.k.tail), rnS n j ga gc⟩) ⟨0, [5]⟩ 50 S fun bs aa w S => ?_
  refine sy_reg S fun S => ?_
  refine sy_ops 3 S fun bs aa w S => ?_
  refine sy_cast 16 S (congrArg Value.bool (decide_eq_true (by omega) : decide ((j : Int) < (n : Int)) = true)) (by kernel_rfl) fun S => ?_
  refine sy_run ⟨0, []⟩ 60 S fun bs aa w S => ?_
  refine dr_enter [] (by kernel_rfl) (by kernel_rfl) S (by kernel_rfl) (fun aa w D => ?_)
  refine dr_any [1, 2] (by kernel_rfl) (by kernel_rfl) rfl (na2 ?_ ?_)
  · refine nx_op 1 D (by kernel_rfl) (Nat.le_refl _) (by kernel_rfl) (by kernel_rfl) fun bs aa w D hl => ?_
    refine dr_any [2] (by kernel_rfl) (by kernel_rfl) rfl (na1 ?_)
    · refine nx_call1 2 D (by kernel_rfl) (noughts_32 w) (by kernel_rfl) fun aa w D => ?_
      refine dr_any [3] (by kernel_rfl) (by kernel_rfl) rfl (na1 ?_)
      · refine nx_op 3 D (by kernel_rfl) hl (by kernel_rfl) (by kernel_rfl) fun bs aa w D hl => ?_
        refine dr_any [4] (by kernel_rfl) (by kernel_rfl) rfl (na1 ?_)
        · refine have hO0 := D.S.fact (f := (rfOwn w0.heap.size 9 1 (.slice ga (j) gc) (j) (List.replicate (j) (Value.string z32)))) (by simp); have hap := (D.S.fs (rfOwn w0.heap.size 9 1 (.slice ga (j) gc) (j) (List.replicate (j) (Value.string z32))) (by simp)).2; have hsz := D.S.gr.size; nx_appO 4 w0.heap.size [] D (by kernel_rfl) (u := .v (.slice ga j gc)) (y := .s 2 0 1 1) (t := 22) (e := 9) (v := .slice ga j gc) (n := j) (ad := adr _ 2 0) (m := 1) (cp := 1) (size := 1) (bytes := 16) (xs := (List.replicate (j) (Value.string z32))) (news := [.string z32]) (by kernel_rfl) Try.underlying22 his1 his2 his3 his4 rfl (by omega) rfl rfl hO0 hsz (own2 (P := Try.prog) (ty := 9) (cs := [.string z32]) D.S (by kernel_rfl)) rfl (by intro u hu; simp only [List.mem_singleton] at hu; subst hu; rfl) (by simp only [maxLen]; omega) (by omega) (fun g hg => Or.inr (hO0.lt g hg).1) (fun f hf => by cases hf) (fun f hf => absurd hf List.not_mem_nil) (fun i hi hb => hap i hi hb) fun v' aa w2 hO hg12 hnn hlt D => ?_
          obtain ⟨ga2, gc2, hgn2, rfl⟩ : ∃ ga2 gc2, (ga2 = none → gc2 = 0) ∧ v' = .slice ga2 (j + 1) gc2 := by
            rcases hO.2 with ⟨_, q⟩ | ⟨g2, cap2, cur2, rfl, _⟩
            · omega
            · exact ⟨some ⟨g2, 0, none⟩, cap2, (fun h => by cases h), rfl⟩
          have D := D.addF (rfOwn w0.heap.size 9 1 (.slice ga2 (j + 1) gc2) (j + 1) (List.replicate (j + 1) (Value.string z32))) (by show World.ownsRow _ _ _ _ _ _ _; rw [List.replicate_succ']; exact hO) (fun i hi hb => by rcases hnn _ hb with q | q; exact hap i hi q; have h1 := hlt i hi; omega)
          refine dr_any [6] (by kernel_rfl) (by kernel_rfl) rfl (na1 ?_)
          · refine nx_op 6 D (by kernel_rfl) hl (by kernel_rfl) (by kernel_rfl) fun bs aa w D hl => ?_
            refine dr_end D (by kernel_rfl) fun S => ?_
            refine sy_run ⟨0, [6]⟩ 60 S fun bs aa w S => ?_
            refine sy_reg S fun S => ?_
            refine sy_ops 2 S fun bs aa w S => ?_
            refine sy_cast 18 S (congrArg (Value.int .i64) (by rw [IntKind.wrap_i64]; omega : IntKind.i64.wrap ((j : Int) + 1) = ((j + 1 : Nat) : Int))) (by kernel_rfl) fun S => ?_
            refine sy_run ⟨0, [999]⟩ 50 S fun bs aa w S => ?_
            have S := S.sub (F' := [(rfOwn w0.heap.size 9 1 (.slice ga2 (j + 1) gc2) (j + 1) (List.replicate (j + 1) (Value.string z32)))]) (by intro f hf; simp only [List.mem_singleton] at hf; subst hf; simp)
            have S2 := S.to [0, 1] (rnS n (j + 1) ga2 gc2) (by kernel_rfl) (by kernel_rfl) (by kernel_rfl) (by kernel_rfl) (by kernel_rfl)
            refine sy_at2 (k' := (.rnd (m) (bodyL rn1) :: rn1.k.tail)) (by kernel_rfl) ?_
            exact ih ga2 gc2 hgn2 _ _ aa w S2
  · refine nx_call1 2 D (by kernel_rfl) (noughts_32 w) (by kernel_rfl) fun aa w D => ?_
    refine dr_any [1, 3] (by kernel_rfl) (by kernel_rfl) rfl (na2 ?_ ?_)
    · refine nx_op 1 D (by kernel_rfl) (Nat.le_refl _) (by kernel_rfl) (by kernel_rfl) fun bs aa w D hl => ?_
      refine dr_any [3] (by kernel_rfl) (by kernel_rfl) rfl (na1 ?_)
      · refine nx_op 3 D (by kernel_rfl) hl (by kernel_rfl) (by kernel_rfl) fun bs aa w D hl => ?_
        refine dr_any [4] (by kernel_rfl) (by kernel_rfl) rfl (na1 ?_)
        · refine have hO0 := D.S.fact (f := (rfOwn w0.heap.size 9 1 (.slice ga (j) gc) (j) (List.replicate (j) (Value.string z32)))) (by simp); have hap := (D.S.fs (rfOwn w0.heap.size 9 1 (.slice ga (j) gc) (j) (List.replicate (j) (Value.string z32))) (by simp)).2; have hsz := D.S.gr.size; nx_appO 4 w0.heap.size [] D (by kernel_rfl) (u := .v (.slice ga j gc)) (y := .s 2 0 1 1) (t := 22) (e := 9) (v := .slice ga j gc) (n := j) (ad := adr _ 2 0) (m := 1) (cp := 1) (size := 1) (bytes := 16) (xs := (List.replicate (j) (Value.string z32))) (news := [.string z32]) (by kernel_rfl) Try.underlying22 his1 his2 his3 his4 rfl (by omega) rfl rfl hO0 hsz (own2 (P := Try.prog) (ty := 9) (cs := [.string z32]) D.S (by kernel_rfl)) rfl (by intro u hu; simp only [List.mem_singleton] at hu; subst hu; rfl) (by simp only [maxLen]; omega) (by omega) (fun g hg => Or.inr (hO0.lt g hg).1) (fun f hf => by cases hf) (fun f hf => absurd hf List.not_mem_nil) (fun i hi hb => hap i hi hb) fun v' aa w2 hO hg12 hnn hlt D => ?_
          obtain ⟨ga2, gc2, hgn2, rfl⟩ : ∃ ga2 gc2, (ga2 = none → gc2 = 0) ∧ v' = .slice ga2 (j + 1) gc2 := by
            rcases hO.2 with ⟨_, q⟩ | ⟨g2, cap2, cur2, rfl, _⟩
            · omega
            · exact ⟨some ⟨g2, 0, none⟩, cap2, (fun h => by cases h), rfl⟩
          have D := D.addF (rfOwn w0.heap.size 9 1 (.slice ga2 (j + 1) gc2) (j + 1) (List.replicate (j + 1) (Value.string z32))) (by show World.ownsRow _ _ _ _ _ _ _; rw [List.replicate_succ']; exact hO) (fun i hi hb => by rcases hnn _ hb with q | q; exact hap i hi q; have h1 := hlt i hi; omega)
          refine dr_any [6] (by kernel_rfl) (by kernel_rfl) rfl (na1 ?_)
          · refine nx_op 6 D (by kernel_rfl) hl (by kernel_rfl) (by kernel_rfl) fun bs aa w D hl => ?_
            refine dr_end D (by kernel_rfl) fun S => ?_
            refine sy_run ⟨0, [6]⟩ 60 S fun bs aa w S => ?_
            refine sy_reg S fun S => ?_
            refine sy_ops 2 S fun bs aa w S => ?_
            refine sy_cast 18 S (congrArg (Value.int .i64) (by rw [IntKind.wrap_i64]; omega : IntKind.i64.wrap ((j : Int) + 1) = ((j + 1 : Nat) : Int))) (by kernel_rfl) fun S => ?_
            refine sy_run ⟨0, [999]⟩ 50 S fun bs aa w S => ?_
            have S := S.sub (F' := [(rfOwn w0.heap.size 9 1 (.slice ga2 (j + 1) gc2) (j + 1) (List.replicate (j + 1) (Value.string z32)))]) (by intro f hf; simp only [List.mem_singleton] at hf; subst hf; simp)
            have S2 := S.to [0, 1] (rnS n (j + 1) ga2 gc2) (by kernel_rfl) (by kernel_rfl) (by kernel_rfl) (by kernel_rfl) (by kernel_rfl)
            refine sy_at2 (k' := (.rnd (m) (bodyL rn1) :: rn1.k.tail)) (by kernel_rfl) ?_
            exact ih ga2 gc2 hgn2 _ _ aa w S2
    · refine nx_op 3 D (by kernel_rfl) (Nat.le_refl _) (by kernel_rfl) (by kernel_rfl) fun bs aa w D hl => ?_
      refine dr_any [1] (by kernel_rfl) (by kernel_rfl) rfl (na1 ?_)
      · refine nx_op 1 D (by kernel_rfl) hl (by kernel_rfl) (by kernel_rfl) fun bs aa w D hl => ?_
        refine dr_any [4] (by kernel_rfl) (by kernel_rfl) rfl (na1 ?_)
        · refine have hO0 := D.S.fact (f := (rfOwn w0.heap.size 9 1 (.slice ga (j) gc) (j) (List.replicate (j) (Value.string z32)))) (by simp); have hap := (D.S.fs (rfOwn w0.heap.size 9 1 (.slice ga (j) gc) (j) (List.replicate (j) (Value.string z32))) (by simp)).2; have hsz := D.S.gr.size; nx_appO 4 w0.heap.size [] D (by kernel_rfl) (u := .v (.slice ga j gc)) (y := .s 2 0 1 1) (t := 22) (e := 9) (v := .slice ga j gc) (n := j) (ad := adr _ 2 0) (m := 1) (cp := 1) (size := 1) (bytes := 16) (xs := (List.replicate (j) (Value.string z32))) (news := [.string z32]) (by kernel_rfl) Try.underlying22 his1 his2 his3 his4 rfl (by omega) rfl rfl hO0 hsz (own2 (P := Try.prog) (ty := 9) (cs := [.string z32]) D.S (by kernel_rfl)) rfl (by intro u hu; simp only [List.mem_singleton] at hu; subst hu; rfl) (by simp only [maxLen]; omega) (by omega) (fun g hg => Or.inr (hO0.lt g hg).1) (fun f hf => by cases hf) (fun f hf => absurd hf List.not_mem_nil) (fun i hi hb => hap i hi hb) fun v' aa w2 hO hg12 hnn hlt D => ?_
          obtain ⟨ga2, gc2, hgn2, rfl⟩ : ∃ ga2 gc2, (ga2 = none → gc2 = 0) ∧ v' = .slice ga2 (j + 1) gc2 := by
            rcases hO.2 with ⟨_, q⟩ | ⟨g2, cap2, cur2, rfl, _⟩
            · omega
            · exact ⟨some ⟨g2, 0, none⟩, cap2, (fun h => by cases h), rfl⟩
          have D := D.addF (rfOwn w0.heap.size 9 1 (.slice ga2 (j + 1) gc2) (j + 1) (List.replicate (j + 1) (Value.string z32))) (by show World.ownsRow _ _ _ _ _ _ _; rw [List.replicate_succ']; exact hO) (fun i hi hb => by rcases hnn _ hb with q | q; exact hap i hi q; have h1 := hlt i hi; omega)
          refine dr_any [6] (by kernel_rfl) (by kernel_rfl) rfl (na1 ?_)
          · refine nx_op 6 D (by kernel_rfl) hl (by kernel_rfl) (by kernel_rfl) fun bs aa w D hl => ?_
            refine dr_end D (by kernel_rfl) fun S => ?_
            refine sy_run ⟨0, [6]⟩ 60 S fun bs aa w S => ?_
            refine sy_reg S fun S => ?_
            refine sy_ops 2 S fun bs aa w S => ?_
            refine sy_cast 18 S (congrArg (Value.int .i64) (by rw [IntKind.wrap_i64]; omega : IntKind.i64.wrap ((j : Int) + 1) = ((j + 1 : Nat) : Int))) (by kernel_rfl) fun S => ?_
            refine sy_run ⟨0, [999]⟩ 50 S fun bs aa w S => ?_
            have S := S.sub (F' := [(rfOwn w0.heap.size 9 1 (.slice ga2 (j + 1) gc2) (j + 1) (List.replicate (j + 1) (Value.string z32)))]) (by intro f hf; simp only [List.mem_singleton] at hf; subst hf; simp)
            have S2 := S.to [0, 1] (rnS n (j + 1) ga2 gc2) (by kernel_rfl) (by kernel_rfl) (by kernel_rfl) (by kernel_rfl) (by kernel_rfl)
            refine sy_at2 (k' := (.rnd (m) (bodyL rn1) :: rn1.k.tail)) (by kernel_rfl) ?_
            exact ih ga2 gc2 hgn2 _ _ aa w S2
theorem rn_a (w0 : World) (n : Nat) (hn : n ≤ 512) : ∀ (r j : Nat), j + r = n → ∀ (ga : Option Addr) (gc : Nat) (hgn : ga = none → gc = 0) (x0 x1 : Nat) (aa : Act) (w : World) (S : Sy w0 [] [x0, x1] (rnS n (j) ga gc) [(rfOwn w0.heap.size 9 1 (.slice ga (j) gc) (j) (List.replicate (j) (Value.string z32)))] aa w), post Try.prog (.rnd (r + 1) (bodyL rn1) :: rn1.k.tail) (bodyPost Try.prog Try.f10 fun e w' => ∃ d' : Dk, e = .returned (.tuple #[d'.v, .int .i64 0]) ∧ Dev w0.heap.size w' d' (List.replicate n z32) [] ∧ Below w0.heap.size w0 w') .normal aa w := by
  intro r
  induction r with
  | zero => intro j hj ga gc hgn x0 x1 aa w S; obtain rfl : j = n := by omega
            exact rn_e w0 j hn 0 ga gc hgn x0 x1 aa w S
  | succ r ih => intro j hj ga gc hgn x0 x1 aa w S; exact rn_s w0 n hn (r + 1) j (by omega) (ih (j + 1) (by omega)) ga gc hgn x0 x1 aa w S
set_option maxHeartbeats 8000000 in
theorem rnew_t (w0 : World) (n : Nat) (hn : n ≤ 512) : Calls Try.prog 10 #[.int .i64 (n : Int)] w0 fun e w' => ∃ d' : Dk, e = .returned (.tuple #[d'.v, .int .i64 0]) ∧ Dev w0.heap.size w' d' (List.replicate n z32) [] ∧ Below w0.heap.size w0 w' := by
  refine sy_enterF [] [] (by intro f hf; cases hf) Try.func10 rfl rfl fun aa S => ?_
  refine sy_run ⟨0, [1]⟩ 60 S fun bs aa w S => ?_
  refine sy_reg S fun S => ?_
  refine sy_ops 2 S fun bs aa w S => ?_
  refine sy_cast 7 S (congrArg Value.bool (decide_eq_false (by omega) : decide ((n : Int) < 0) = false)) (by kernel_rfl) fun S => ?_
  refine sy_ops 3 S fun bs aa w S => ?_
  refine sy_cast 10 S (congrArg Value.bool (decide_eq_false (by omega) : decide ((n : Int) > 512) = false)) (by kernel_rfl) fun S => ?_
  refine sy_run ⟨0, []⟩ 60 S fun bs aa w S => ?_
  have S := S.add (rfOwn w0.heap.size 9 1 (.slice none (0) 0) (0) (List.replicate (0) (Value.string z32))) (World.ownsRow_nil _ _ _ _) (fun i hi h => by cases h)
  have S2 := S.to [0, 1] (rnS n 0 none 0) (by kernel_rfl) (by kernel_rfl) (by kernel_rfl) (by kernel_rfl) (by kernel_rfl)
  refine sy_loop (n + 1) (by kernel_rfl) ?_
  refine sy_at2 (k' := (.rnd (n + 1) (bodyL rn1) :: rn1.k.tail)) (by kernel_rfl) ?_
  exact rn_a w0 n hn n 0 (by omega) none 0 (fun _ => rfl) _ _ aa w S2
theorem pnew_t (w0 : World) (n : Nat) (hn : n ≤ 512) : Calls Try.prog 9 #[.int .i64 (n : Int)] w0 fun e w' => ∃ d' : Dk, e = .returned (.tuple #[d'.v, .int .i64 0]) ∧ Dev w0.heap.size w' d' (List.replicate n z32) [] ∧ Below w0.heap.size w0 w' :=
  (new_t n hn w0).mono fun e w' ⟨b, h1, ⟨h2, h3⟩, h4⟩ => ⟨⟨some ⟨b, 0, none⟩, n, n, none, 0, 0, b, 0, 0, 0, List.replicate n z32, []⟩, h2, ⟨⟨by simp, Or.inr rfl, rfl, Or.inl rfl, Or.inl ⟨rfl, rfl, rfl⟩, Nat.zero_le _, fun h => by cases h⟩, rfl, rfl, strAt_of (n := n) h3 (by simp [zS]), fun j hj => absurd hj (Nat.not_lt_zero _), Or.inr h1, Or.inl rfl⟩, h4⟩
end Go.Proofs.Ytnlcjlhcghgaoaa


/-
  Layer 22: the reference's crash: its parts, and that it is the program's.
-/
namespace Go.Proofs.Ytnlcjlhcghgaoaa
open Go Go.RowKit SZ
set_option linter.unusedVariables false
set_option linter.unusedSimpArgs false
set_option maxRecDepth 100000
attribute [local irreducible] post GD Nxt NxtAll
/-- The first write to a sector, from a place on. -/
def fd (W : List (Int × ByteArray)) (z : ByteArray) (a : Int) : Nat → Nat → ByteArray
  | 0, _ => z
  | r + 1, k => if (W.getD k (0, ByteArray.empty)).1 = a then (W.getD k (0, ByteArray.empty)).2 else fd W z a r (k + 1)
def synB (d : Dk) (a : Nat) : ByteArray := fd d.W (d.S.getD a ByteArray.empty) (a : Int) d.tl 0
def putB (d : Dk) (i : Nat) : ByteArray := fd d.W (d.S.getD (d.W.getD i (0, ByteArray.empty)).1.toNat ByteArray.empty) (d.W.getD i (0, ByteArray.empty)).1 (d.tl - (i + 1)) (i + 1)
def SYN (d : Dk) : List ByteArray := (List.range d.sl).map (synB d)
def PUT (d : Dk) : List ByteArray := (List.range d.tl).map (putB d)
theorem SYN_len (d : Dk) : (SYN d).length = d.sl := by simp [SYN]
theorem PUT_len (d : Dk) : (PUT d).length = d.tl := by simp [PUT]
theorem SYN_at (d : Dk) (a : Nat) (ha : a < d.sl) : (SYN d).getD a ByteArray.empty = synB d a := by simp [SYN, List.getD, ha]
theorem PUT_at (d : Dk) (i : Nat) (hi : i < d.tl) : (PUT d).getD i ByteArray.empty = putB d i := by simp [PUT, List.getD, hi]
theorem un_is (d : Dk) (hr : d.right) : ∀ (m : Nat) (T Dt : List ByteArray), m ≤ d.tl → T.length = d.sl → (∀ a, a < d.sl → T.getD a ByteArray.empty = fd d.W (d.S.getD a ByteArray.empty) (a : Int) (d.tl - m) m) → Dt.length = d.tl → (∀ j, m ≤ j → j < d.tl → Dt.getD j ByteArray.empty = putB d j) →
    (unA d.W m (T, Dt)).1.length = d.sl ∧ (∀ a, a < d.sl → (unA d.W m (T, Dt)).1.getD a ByteArray.empty = synB d a) ∧ (unA d.W m (T, Dt)).2.length = d.tl ∧ ∀ j, j < d.tl → (unA d.W m (T, Dt)).2.getD j ByteArray.empty = putB d j
  | 0, T, Dt, _, hT, h1, hD, h2 => ⟨hT, fun a ha => by have := h1 a ha; simpa [synB, unA] using this, hD, fun j hj => h2 j (Nat.zero_le _) hj⟩
  | m + 1, T, Dt, hm, hT, h1, hD, h2 => by
    have hx := (hr.w m (by omega)).1
    obtain ⟨x, hxe⟩ : ∃ x : Nat, (d.W.getD m (0, ByteArray.empty)).1 = (x : Int) := ⟨(d.W.getD m (0, ByteArray.empty)).1.toNat, (Int.toNat_of_nonneg hx.1).symm⟩
    have hxl : x < d.sl := by omega
    have hxn : (d.W.getD m (0, ByteArray.empty)).1.toNat = x := by omega
    have e0 : unA d.W (m + 1) (T, Dt) = unA d.W m (T.set x (d.W.getD m (0, ByteArray.empty)).2, Dt.set m (T.getD x ByteArray.empty)) := by
      show unA d.W m (T.set (d.W.getD m (0, ByteArray.empty)).1.toNat _, Dt.set m (T.getD (d.W.getD m (0, ByteArray.empty)).1.toNat ByteArray.empty)) = _
      rw [hxn]
    rw [e0]
    refine un_is d hr m (T.set x (d.W.getD m (0, ByteArray.empty)).2) (Dt.set m (T.getD x ByteArray.empty)) (by omega) (by rw [List.length_set]; exact hT) (fun a ha => ?_) (by rw [List.length_set]; exact hD) (fun j hj hjl => ?_)
    · rw [show d.tl - m = (d.tl - (m + 1)) + 1 by omega]
      show _ = if (d.W.getD m (0, ByteArray.empty)).1 = (a : Int) then (d.W.getD m (0, ByteArray.empty)).2 else fd d.W (d.S.getD a ByteArray.empty) (a : Int) (d.tl - (m + 1)) (m + 1)
      by_cases e : x = a
      · subst e
        rw [if_pos hxe, gset_eq _ _ _ _ (by omega)]
      · rw [if_neg (by omega), gset_ne _ _ _ _ _ e]
        exact h1 a ha
    · by_cases e : m = j
      · subst e
        rw [gset_eq _ _ _ _ (by omega), h1 x hxl]
        unfold putB
        rw [hxe, Int.toNat_natCast]
      · rw [gset_ne _ _ _ _ _ e]
        exact h2 j (by omega) hjl
theorem crA_congr (W : List (Int × ByteArray)) (cs : List Int) (Dt Dt' : List ByteArray) : ∀ (m : Nat) (S : List ByteArray), (∀ j, j < m → Dt.getD j ByteArray.empty = Dt'.getD j ByteArray.empty) → crA W cs Dt m S = crA W cs Dt' m S
  | 0, S, _ => rfl
  | m + 1, S, h => by
    show crJ W cs Dt m (crA W cs Dt m S) = crJ W cs Dt' m (crA W cs Dt' m S)
    rw [crA_congr W cs Dt Dt' m S fun j hj => h j (by omega)]
    unfold crJ
    rw [h m (Nat.lt_succ_self _)]
theorem crS_ref (d : Dk) (hd : d.ok) (hr : d.right) (cs : List Int) : crS d cs = crA d.W cs (PUT d) d.tl (SYN d) := by
  obtain ⟨h1, h2, h3, h4⟩ := un_is d hr d.tl d.S (List.replicate d.tl ByteArray.empty) (Nat.le_refl _) hd.hS (fun a ha => by rw [Nat.sub_self]; rfl) (by simp) (fun j h1 h2 => by omega)
  have e1 : (crU d).1 = SYN d := eq_upto ByteArray.empty _ _ (by rw [SYN_len]; exact h1) (fun i hi => by rw [SYN_at d i (by rw [← h1]; exact hi)]; exact h2 i (by rw [← h1]; exact hi))
  unfold crS
  rw [e1]
  exact crA_congr d.W cs _ _ d.tl _ fun j hj => by rw [PUT_at d j hj]; exact h4 j hj
noncomputable def sy1 : Cfg := ⟨goZ 60 [] [.code (bodyOf Try.f35)], ⟨0, [], []⟩⟩
noncomputable def syS (d : Dk) (n k : Nat) : SS := ⟨32, [(1, .v (.int .i64 (n : Int))), (2, .p 0 0), (5, .v (.int .i64 (k : Int)))], [⟨25, d.cs⟩]⟩
set_option maxHeartbeats 8000000 in
theorem sc_e (w0 : World) (d : Dk) (hd : d.ok) (n : Nat) (hn : n < d.sl) (m : Nat) (he : fd d.W ((d.S.getD n ByteArray.empty)) (n : Int) (0) (d.tl) = synB d n) (x0 : Nat) (aa : Act) (w : World) (S : Sy w0 [] [x0] (syS d n (d.tl)) [rfSt d.b d.o d.S, rfWs d.c d.p d.W] aa w) : post Try.prog (.rnd (m + 1) (bodyL sy1) :: sy1.k.tail) (bodyPost Try.prog Try.f35 fun e w' => e = .returned (.string (synB d n)) ∧ Below w0.heap.size w0 w') .normal aa w := by
  have he2 : ((d.S.getD n ByteArray.empty)) = synB d n := he
  refine sy_run (c := ⟨(.rnd (m + 1) (bodyL sy1) :: sy1.k.tail), syS d n (d.tl)⟩) ⟨0, [2]⟩ 50 S fun bs aa w S => ?_
  refine sy_reg S fun S => ?_
  refine sy_ops 5 S fun bs aa w S => ?_
  refine sy_cast 10 S (congrArg Value.bool (decide_eq_false (by omega) : decide ((d.tl : Int) < (d.tl : Int)) = false)) (by kernel_rfl) fun S => ?_
  refine sy_run ⟨0, [6]⟩ 60 S fun bs aa w S => ?_
  refine sy_reg S fun S => ?_
  refine sy_ops 3 S fun bs aa w S => ?_
  refine sy_ix (b := d.b) (off := d.o) (len := d.sl) (n := n) (size := 1) (i := (n : Int)) S (by rw [← hd.hs.resolve_left (by omega)]; kernel_rfl) rfl hn fun aa S => ?_
  refine sy_ldo S (ld_at (ty := 9) (b := d.b) (off := d.o + n * 1) (by kernel_rfl) (by rw [Nat.mul_one]; exact S.fact (f := rfSt d.b d.o d.S) (by simp) n (by rw [hd.hS]; omega))) (by kernel_rfl) fun aa S => ?_
  refine sy_run ⟨0, []⟩ 60 S fun bs aa w S => ?_
  rw [← he2]
  exact sy_ret S (by kernel_rfl) (by kernel_rfl) fun hg => ⟨rfl, bel_gr hg⟩
set_option maxHeartbeats 8000000 in
theorem sc_t (w0 : World) (d : Dk) (hd : d.ok) (n : Nat) (hn : n < d.sl) (m r k : Nat) (hk : k < d.tl) (hp : (d.W.getD k (0, ByteArray.empty)).1 = (n : Int)) (he : fd d.W ((d.S.getD n ByteArray.empty)) (n : Int) (r + 1) (k) = synB d n) (x0 : Nat) (aa : Act) (w : World) (S : Sy w0 [] [x0] (syS d n (k)) [rfSt d.b d.o d.S, rfWs d.c d.p d.W] aa w) : post Try.prog (.rnd (m + 1) (bodyL sy1) :: sy1.k.tail) (bodyPost Try.prog Try.f35 fun e w' => e = .returned (.string (synB d n)) ∧ Below w0.heap.size w0 w') .normal aa w := by
  have he2 : (d.W.getD k (0, ByteArray.empty)).2 = synB d n := by rw [← he]; show _ = if _ then _ else _; rw [if_pos hp]
  refine sy_run (c := ⟨(.rnd (m + 1) (bodyL sy1) :: sy1.k.tail), syS d n (k)⟩) ⟨0, [2]⟩ 50 S fun bs aa w S => ?_
  refine sy_reg S fun S => ?_
  refine sy_ops 5 S fun bs aa w S => ?_
  refine sy_cast 10 S (congrArg Value.bool (decide_eq_true (by omega) : decide ((k : Int) < (d.tl : Int)) = true)) (by kernel_rfl) fun S => ?_
  refine sy_run ⟨0, [4]⟩ 60 S fun bs aa w S => ?_
  refine sy_reg S fun S => ?_
  refine sy_ops 3 S fun bs aa w S => ?_
  refine sy_ix (b := d.c) (off := d.p) (len := d.tl) (n := k) (size := 2) (i := (k : Int)) S (by rw [← hd.hw.resolve_left (by omega)]; kernel_rfl) rfl hk fun aa S => ?_
  refine sy_ops 1 S fun bs aa w S => ?_
  refine sy_ldo S (ld_at (ty := 3) (b := d.c) (off := d.p + k * 2) (by kernel_rfl) ((S.fact (f := rfWs d.c d.p d.W) (by simp)) k (by rw [hd.hW]; omega)).1) (by kernel_rfl) fun aa S => ?_
  refine sy_ops 2 S fun bs aa w S => ?_
  refine sy_cast 20 S (congrArg Value.bool (decide_eq_true hp : decide ((d.W.getD k (0, ByteArray.empty)).1 = (n : Int)) = true)) (by kernel_rfl) fun S => ?_
  refine sy_run ⟨0, [5]⟩ 60 S fun bs aa w S => ?_
  refine sy_reg S fun S => ?_
  refine sy_ops 3 S fun bs aa w S => ?_
  refine sy_ix (b := d.c) (off := d.p) (len := d.tl) (n := k) (size := 2) (i := (k : Int)) S (by rw [← hd.hw.resolve_left (by omega)]; kernel_rfl) rfl hk fun aa S => ?_
  refine sy_ops 1 S fun bs aa w S => ?_
  refine sy_ldo S (ld_at (ty := 9) (b := d.c) (off := d.p + k * 2 + 1) (by kernel_rfl) ((S.fact (f := rfWs d.c d.p d.W) (by simp)) k (by rw [hd.hW]; omega)).2) (by kernel_rfl) fun aa S => ?_
  refine sy_run ⟨0, []⟩ 60 S fun bs aa w S => ?_
  rw [← he2]
  exact sy_ret S (by kernel_rfl) (by kernel_rfl) fun hg => ⟨rfl, bel_gr hg⟩
set_option maxHeartbeats 8000000 in
theorem sc_f (w0 : World) (d : Dk) (hd : d.ok) (n : Nat) (hn : n < d.sl) (m r k : Nat) (hk : k < d.tl) (hp : ¬(d.W.getD k (0, ByteArray.empty)).1 = (n : Int)) (ih : fd d.W ((d.S.getD n ByteArray.empty)) (n : Int) r (k + 1) = synB d n → ∀ (x0 : Nat) (aa : Act) (w : World) (S : Sy w0 [] [x0] (syS d n (k + 1)) [rfSt d.b d.o d.S, rfWs d.c d.p d.W] aa w), post Try.prog (.rnd (m) (bodyL sy1) :: sy1.k.tail) (bodyPost Try.prog Try.f35 fun e w' => e = .returned (.string (synB d n)) ∧ Below w0.heap.size w0 w') .normal aa w) (he : fd d.W ((d.S.getD n ByteArray.empty)) (n : Int) (r + 1) (k) = synB d n) (x0 : Nat) (aa : Act) (w : World) (S : Sy w0 [] [x0] (syS d n (k)) [rfSt d.b d.o d.S, rfWs d.c d.p d.W] aa w) : post Try.prog (.rnd (m + 1) (bodyL sy1) :: sy1.k.tail) (bodyPost Try.prog Try.f35 fun e w' => e = .returned (.string (synB d n)) ∧ Below w0.heap.size w0 w') .normal aa w := by
  have he2 : fd d.W ((d.S.getD n ByteArray.empty)) (n : Int) r (k + 1) = synB d n := by rw [← he]; show _ = if _ then _ else _; rw [if_neg hp]
  have hl2 := hd.l2
  refine sy_run (c := ⟨(.rnd (m + 1) (bodyL sy1) :: sy1.k.tail), syS d n (k)⟩) ⟨0, [2]⟩ 50 S fun bs aa w S => ?_
  refine sy_reg S fun S => ?_
  refine sy_ops 5 S fun bs aa w S => ?_
  refine sy_cast 10 S (congrArg Value.bool (decide_eq_true (by omega) : decide ((k : Int) < (d.tl : Int)) = true)) (by kernel_rfl) fun S => ?_
  refine sy_run ⟨0, [4]⟩ 60 S fun bs aa w S => ?_
  refine sy_reg S fun S => ?_
  refine sy_ops 3 S fun bs aa w S => ?_
  refine sy_ix (b := d.c) (off := d.p) (len := d.tl) (n := k) (size := 2) (i := (k : Int)) S (by rw [← hd.hw.resolve_left (by omega)]; kernel_rfl) rfl hk fun aa S => ?_
  refine sy_ops 1 S fun bs aa w S => ?_
  refine sy_ldo S (ld_at (ty := 3) (b := d.c) (off := d.p + k * 2) (by kernel_rfl) ((S.fact (f := rfWs d.c d.p d.W) (by simp)) k (by rw [hd.hW]; omega)).1) (by kernel_rfl) fun aa S => ?_
  refine sy_ops 2 S fun bs aa w S => ?_
  refine sy_cast 20 S (congrArg Value.bool (decide_eq_false hp : decide ((d.W.getD k (0, ByteArray.empty)).1 = (n : Int)) = false)) (by kernel_rfl) fun S => ?_
  refine sy_run ⟨0, [3]⟩ 60 S fun bs aa w S => ?_
  refine sy_reg S fun S => ?_
  refine sy_ops 2 S fun bs aa w S => ?_
  refine sy_cast 12 S (congrArg (Value.int .i64) (by rw [IntKind.wrap_i64]; omega : IntKind.i64.wrap ((k : Int) + 1) = ((k + 1 : Nat) : Int))) (by kernel_rfl) fun S => ?_
  refine sy_run ⟨0, [999]⟩ 50 S fun bs aa w S => ?_
  have S2 := S.to [0] (syS d n (k + 1)) (by kernel_rfl) (by kernel_rfl) (by kernel_rfl) (by kernel_rfl) (by kernel_rfl)
  refine sy_at2 (k' := (.rnd (m) (bodyL sy1) :: sy1.k.tail)) (by kernel_rfl) ?_
  exact ih he2 _ aa w S2
theorem sc_a (w0 : World) (d : Dk) (hd : d.ok) (n : Nat) (hn : n < d.sl) : ∀ (r k : Nat), k + r = d.tl → fd d.W ((d.S.getD n ByteArray.empty)) (n : Int) r k = synB d n → ∀ (x0 : Nat) (aa : Act) (w : World) (S : Sy w0 [] [x0] (syS d n (k)) [rfSt d.b d.o d.S, rfWs d.c d.p d.W] aa w), post Try.prog (.rnd (r + 1) (bodyL sy1) :: sy1.k.tail) (bodyPost Try.prog Try.f35 fun e w' => e = .returned (.string (synB d n)) ∧ Below w0.heap.size w0 w') .normal aa w := by
  intro r
  induction r with
  | zero => intro k hk he x0 aa w S; obtain rfl : k = d.tl := by omega
            exact sc_e w0 d hd n hn 0 he x0 aa w S
  | succ r ih =>
    intro k hk he x0 aa w S
    by_cases hp : (d.W.getD k (0, ByteArray.empty)).1 = (n : Int)
    · exact sc_t w0 d hd n hn (r + 1) r k (by omega) hp he x0 aa w S
    · exact sc_f w0 d hd n hn (r + 1) r k (by omega) hp (fun h => ih (k + 1) (by omega) h) he x0 aa w S
set_option maxHeartbeats 8000000 in
theorem synced_t (w0 : World) (d : Dk) (hd : d.ok) (n : Nat) (hn : n < d.sl) (hA : StrAt w0 d.b d.o d.S) (hB : WasAt w0 d.c d.p d.W) : Calls Try.prog 35 #[d.v, .int .i64 (n : Int)] w0 fun e w' => e = .returned (.string (synB d n)) ∧ Below w0.heap.size w0 w' := by
  have h2 := hd.l2
  refine sy_enterF [] [rfSt d.b d.o d.S, rfWs d.c d.p d.W] (by intro f hf; simp only [List.mem_cons, List.not_mem_nil, or_false] at hf; rcases hf with rfl | rfl; exact hA; exact hB) Try.func35 rfl rfl fun aa S => ?_
  refine sy_run ⟨0, []⟩ 60 S fun bs aa w S => ?_
  have S2 := S.to [0] (syS d n 0) (by kernel_rfl) (by kernel_rfl) (by kernel_rfl) (by kernel_rfl) (by kernel_rfl)
  refine sy_loop (d.tl + 1) (by kernel_rfl) ?_
  refine sy_at2 (k' := (.rnd (d.tl + 1) (bodyL sy1) :: sy1.k.tail)) (by kernel_rfl) ?_
  exact sc_a w0 d hd n hn d.tl 0 (by omega) rfl _ aa w S2
noncomputable def pu1 : Cfg := ⟨goZ 60 [] [.code (bodyOf Try.f37)], ⟨0, [], []⟩⟩
noncomputable def puS (d : Dk) (i k : Nat) : SS := ⟨44, [(1, .v (.int .i64 (i : Int))), (2, .p 0 0), (5, .v (.int .i64 (k : Int)))], [⟨25, d.cs⟩]⟩
set_option maxHeartbeats 8000000 in
theorem pc_e (w0 : World) (d : Dk) (hd : d.ok) (i : Nat) (hi : i < d.tl) (hx : 0 ≤ (d.W.getD i (0, ByteArray.empty)).1 ∧ (d.W.getD i (0, ByteArray.empty)).1 < (d.sl : Int)) (m : Nat) (he : fd d.W (d.S.getD (d.W.getD i (0, ByteArray.empty)).1.toNat ByteArray.empty) (d.W.getD i (0, ByteArray.empty)).1 (0) (d.tl) = putB d i) (x0 : Nat) (aa : Act) (w : World) (S : Sy w0 [] [x0] (puS d i (d.tl)) [rfSt d.b d.o d.S, rfWs d.c d.p d.W] aa w) : post Try.prog (.rnd (m + 1) (bodyL pu1) :: pu1.k.tail) (bodyPost Try.prog Try.f37 fun e w' => e = .returned (.string (putB d i)) ∧ Below w0.heap.size w0 w') .normal aa w := by
  have he2 : (d.S.getD (d.W.getD i (0, ByteArray.empty)).1.toNat ByteArray.empty) = putB d i := he
  refine sy_run (c := ⟨(.rnd (m + 1) (bodyL pu1) :: pu1.k.tail), puS d i (d.tl)⟩) ⟨0, [2]⟩ 50 S fun bs aa w S => ?_
  refine sy_reg S fun S => ?_
  refine sy_ops 5 S fun bs aa w S => ?_
  refine sy_cast 12 S (congrArg Value.bool (decide_eq_false (by omega) : decide ((d.tl : Int) < (d.tl : Int)) = false)) (by kernel_rfl) fun S => ?_
  refine sy_run ⟨0, []⟩ 60 S fun bs aa w S => ?_
  letI : HF := ⟨[rfSt d.b d.o d.S, rfWs d.c d.p d.W]⟩
  refine dr_enter [0] (by kernel_rfl) (by kernel_rfl) S (by kernel_rfl) (fun aa w D => ?_) (fun f hf => hf)
  refine dr_tix 5 D (by kernel_rfl) (by kernel_rfl) (by kernel_rfl) (b := d.c) (off := d.p) (len := d.tl) (n := i) (size := 2) (ix := (i : Int)) (by rw [← hd.hw.resolve_left (by omega)]; kernel_rfl) rfl hi fun aa D => ?_
  refine dr_tld 7 D (by kernel_rfl) (by kernel_rfl) (by kernel_rfl) (ty := 3) (ad := ⟨d.c, d.p + i * 2, none⟩) (v := .int .i64 (d.W.getD i (0, ByteArray.empty)).1) (fun W hW => ld_at (by kernel_rfl) ((show WasAt W d.c d.p d.W from hW (rfWs d.c d.p d.W) (by show _ ∈ [rfSt d.b d.o d.S, rfWs d.c d.p d.W]; simp)) i (by rw [hd.hW]; exact hi)).1) (by kernel_rfl) fun aa D => ?_
  refine dr_tix 8 D (by kernel_rfl) (by kernel_rfl) (by kernel_rfl) (b := d.b) (off := d.o) (len := d.sl) (n := (d.W.getD i (0, ByteArray.empty)).1.toNat) (size := 1) (ix := (d.W.getD i (0, ByteArray.empty)).1) (by rw [← hd.hs.resolve_left (by omega)]; kernel_rfl) (Int.toNat_of_nonneg hx.1).symm (by omega) fun aa D => ?_
  refine dr_tld 9 D (by kernel_rfl) (by kernel_rfl) (by kernel_rfl) (ty := 9) (ad := ⟨d.b, d.o + (d.W.getD i (0, ByteArray.empty)).1.toNat * 1, none⟩) (v := .string (d.S.getD (d.W.getD i (0, ByteArray.empty)).1.toNat ByteArray.empty)) (fun W hW => ld_at (by kernel_rfl) (by rw [Nat.mul_one]; exact (show StrAt W d.b d.o d.S from hW (rfSt d.b d.o d.S) (by show _ ∈ [rfSt d.b d.o d.S, rfWs d.c d.p d.W]; simp)) _ (by rw [hd.hS]; omega))) (by kernel_rfl) fun aa D => ?_
  refine dr_end D (by kernel_rfl) fun S => ?_
  refine sy_run ⟨0, []⟩ 60 S fun bs aa w S => ?_
  rw [← he2]
  exact sy_ret S (by kernel_rfl) (by kernel_rfl) fun hg => ⟨rfl, bel_gr hg⟩
set_option maxHeartbeats 8000000 in
theorem pc_t (w0 : World) (d : Dk) (hd : d.ok) (i : Nat) (hi : i < d.tl) (hx : 0 ≤ (d.W.getD i (0, ByteArray.empty)).1 ∧ (d.W.getD i (0, ByteArray.empty)).1 < (d.sl : Int)) (m r k : Nat) (hk : k < d.tl) (hp : (d.W.getD k (0, ByteArray.empty)).1 = (d.W.getD i (0, ByteArray.empty)).1) (he : fd d.W (d.S.getD (d.W.getD i (0, ByteArray.empty)).1.toNat ByteArray.empty) (d.W.getD i (0, ByteArray.empty)).1 (r + 1) (k) = putB d i) (x0 : Nat) (aa : Act) (w : World) (S : Sy w0 [] [x0] (puS d i (k)) [rfSt d.b d.o d.S, rfWs d.c d.p d.W] aa w) : post Try.prog (.rnd (m + 1) (bodyL pu1) :: pu1.k.tail) (bodyPost Try.prog Try.f37 fun e w' => e = .returned (.string (putB d i)) ∧ Below w0.heap.size w0 w') .normal aa w := by
  have he2 : (d.W.getD k (0, ByteArray.empty)).2 = putB d i := by rw [← he]; show _ = if _ then _ else _; rw [if_pos hp]
  refine sy_run (c := ⟨(.rnd (m + 1) (bodyL pu1) :: pu1.k.tail), puS d i (k)⟩) ⟨0, [2]⟩ 50 S fun bs aa w S => ?_
  refine sy_reg S fun S => ?_
  refine sy_ops 5 S fun bs aa w S => ?_
  refine sy_cast 12 S (congrArg Value.bool (decide_eq_true (by omega) : decide ((k : Int) < (d.tl : Int)) = true)) (by kernel_rfl) fun S => ?_
  refine sy_run ⟨0, []⟩ 60 S fun bs aa w S => ?_
  letI : KP := ⟨[27]⟩
  letI : HF := ⟨[rfSt d.b d.o d.S, rfWs d.c d.p d.W]⟩
  refine dr_enter [0] (by kernel_rfl) (by kernel_rfl) S (by kernel_rfl) (fun aa w D => ?_) (fun f hf => hf)
  refine dr_tix 3 D (by kernel_rfl) (by kernel_rfl) (by kernel_rfl) (b := d.c) (off := d.p) (len := d.tl) (n := k) (size := 2) (ix := (k : Int)) (by rw [← hd.hw.resolve_left (by omega)]; kernel_rfl) rfl hk fun aa D => ?_
  refine dr_tld 5 D (by kernel_rfl) (by kernel_rfl) (by kernel_rfl) (ty := 3) (ad := ⟨d.c, d.p + k * 2, none⟩) (v := .int .i64 (d.W.getD k (0, ByteArray.empty)).1) (fun W hW => ld_at (by kernel_rfl) ((show WasAt W d.c d.p d.W from hW (rfWs d.c d.p d.W) (by show _ ∈ [rfSt d.b d.o d.S, rfWs d.c d.p d.W]; simp)) k (by rw [hd.hW]; exact hk)).1) (by kernel_rfl) fun aa D => ?_
  refine dr_tix 9 D (by kernel_rfl) (by kernel_rfl) (by kernel_rfl) (b := d.c) (off := d.p) (len := d.tl) (n := i) (size := 2) (ix := (i : Int)) (by rw [← hd.hw.resolve_left (by omega)]; kernel_rfl) rfl hi fun aa D => ?_
  refine dr_tld 11 D (by kernel_rfl) (by kernel_rfl) (by kernel_rfl) (ty := 3) (ad := ⟨d.c, d.p + i * 2, none⟩) (v := .int .i64 (d.W.getD i (0, ByteArray.empty)).1) (fun W hW => ld_at (by kernel_rfl) ((show WasAt W d.c d.p d.W from hW (rfWs d.c d.p d.W) (by show _ ∈ [rfSt d.b d.o d.S, rfWs d.c d.p d.W]; simp)) i (by rw [hd.hW]; exact hi)).1) (by kernel_rfl) fun aa D => ?_
  refine dr_ex2 (fun d v c a w h => by cases d <;> exact h) 12 (op := .binOp .eql 3 (.tmp 20) (.tmp 26) 3) (ty := 4) (v := .bool true) D (by kernel_rfl) (by kernel_rfl) (by kernel_rfl) (by kernel_rfl) (ex_eqI (ki := .i64) (p := (d.W.getD k (0, ByteArray.empty)).1) (q := (d.W.getD i (0, ByteArray.empty)).1) (by kernel_rfl) (by kernel_rfl) (decide_eq_true hp)) fun aa D => ?_
  refine dr_end D (by kernel_rfl) fun S => ?_
  refine sy_run ⟨0, [5]⟩ 60 S fun bs aa w S => ?_
  refine sy_reg S fun S => ?_
  refine sy_ops 3 S fun bs aa w S => ?_
  refine sy_ix (b := d.c) (off := d.p) (len := d.tl) (n := k) (size := 2) (i := (k : Int)) S (by rw [← hd.hw.resolve_left (by omega)]; kernel_rfl) rfl hk fun aa S => ?_
  refine sy_ops 1 S fun bs aa w S => ?_
  refine sy_ldo S (ld_at (ty := 9) (b := d.c) (off := d.p + k * 2 + 1) (by kernel_rfl) ((S.fact (f := rfWs d.c d.p d.W) (by simp)) k (by rw [hd.hW]; omega)).2) (by kernel_rfl) fun aa S => ?_
  refine sy_run ⟨0, []⟩ 60 S fun bs aa w S => ?_
  rw [← he2]
  exact sy_ret S (by kernel_rfl) (by kernel_rfl) fun hg => ⟨rfl, bel_gr hg⟩
set_option maxHeartbeats 8000000 in
theorem pc_f (w0 : World) (d : Dk) (hd : d.ok) (i : Nat) (hi : i < d.tl) (hx : 0 ≤ (d.W.getD i (0, ByteArray.empty)).1 ∧ (d.W.getD i (0, ByteArray.empty)).1 < (d.sl : Int)) (m r k : Nat) (hk : k < d.tl) (hp : ¬(d.W.getD k (0, ByteArray.empty)).1 = (d.W.getD i (0, ByteArray.empty)).1) (ih : fd d.W (d.S.getD (d.W.getD i (0, ByteArray.empty)).1.toNat ByteArray.empty) (d.W.getD i (0, ByteArray.empty)).1 r (k + 1) = putB d i → ∀ (x0 : Nat) (aa : Act) (w : World) (S : Sy w0 [] [x0] (puS d i (k + 1)) [rfSt d.b d.o d.S, rfWs d.c d.p d.W] aa w), post Try.prog (.rnd (m) (bodyL pu1) :: pu1.k.tail) (bodyPost Try.prog Try.f37 fun e w' => e = .returned (.string (putB d i)) ∧ Below w0.heap.size w0 w') .normal aa w) (he : fd d.W (d.S.getD (d.W.getD i (0, ByteArray.empty)).1.toNat ByteArray.empty) (d.W.getD i (0, ByteArray.empty)).1 (r + 1) (k) = putB d i) (x0 : Nat) (aa : Act) (w : World) (S : Sy w0 [] [x0] (puS d i (k)) [rfSt d.b d.o d.S, rfWs d.c d.p d.W] aa w) : post Try.prog (.rnd (m + 1) (bodyL pu1) :: pu1.k.tail) (bodyPost Try.prog Try.f37 fun e w' => e = .returned (.string (putB d i)) ∧ Below w0.heap.size w0 w') .normal aa w := by
  have he2 : fd d.W (d.S.getD (d.W.getD i (0, ByteArray.empty)).1.toNat ByteArray.empty) (d.W.getD i (0, ByteArray.empty)).1 r (k + 1) = putB d i := by rw [← he]; show _ = if _ then _ else _; rw [if_neg hp]
  have hl2 := hd.l2
  refine sy_run (c := ⟨(.rnd (m + 1) (bodyL pu1) :: pu1.k.tail), puS d i (k)⟩) ⟨0, [2]⟩ 50 S fun bs aa w S => ?_
  refine sy_reg S fun S => ?_
  refine sy_ops 5 S fun bs aa w S => ?_
  refine sy_cast 12 S (congrArg Value.bool (decide_eq_true (by omega) : decide ((k : Int) < (d.tl : Int)) = true)) (by kernel_rfl) fun S => ?_
  refine sy_run ⟨0, []⟩ 60 S fun bs aa w S => ?_
  letI : KP := ⟨[27]⟩
  letI : HF := ⟨[rfSt d.b d.o d.S, rfWs d.c d.p d.W]⟩
  refine dr_enter [0] (by kernel_rfl) (by kernel_rfl) S (by kernel_rfl) (fun aa w D => ?_) (fun f hf => hf)
  refine dr_tix 3 D (by kernel_rfl) (by kernel_rfl) (by kernel_rfl) (b := d.c) (off := d.p) (len := d.tl) (n := k) (size := 2) (ix := (k : Int)) (by rw [← hd.hw.resolve_left (by omega)]; kernel_rfl) rfl hk fun aa D => ?_
  refine dr_tld 5 D (by kernel_rfl) (by kernel_rfl) (by kernel_rfl) (ty := 3) (ad := ⟨d.c, d.p + k * 2, none⟩) (v := .int .i64 (d.W.getD k (0, ByteArray.empty)).1) (fun W hW => ld_at (by kernel_rfl) ((show WasAt W d.c d.p d.W from hW (rfWs d.c d.p d.W) (by show _ ∈ [rfSt d.b d.o d.S, rfWs d.c d.p d.W]; simp)) k (by rw [hd.hW]; exact hk)).1) (by kernel_rfl) fun aa D => ?_
  refine dr_tix 9 D (by kernel_rfl) (by kernel_rfl) (by kernel_rfl) (b := d.c) (off := d.p) (len := d.tl) (n := i) (size := 2) (ix := (i : Int)) (by rw [← hd.hw.resolve_left (by omega)]; kernel_rfl) rfl hi fun aa D => ?_
  refine dr_tld 11 D (by kernel_rfl) (by kernel_rfl) (by kernel_rfl) (ty := 3) (ad := ⟨d.c, d.p + i * 2, none⟩) (v := .int .i64 (d.W.getD i (0, ByteArray.empty)).1) (fun W hW => ld_at (by kernel_rfl) ((show WasAt W d.c d.p d.W from hW (rfWs d.c d.p d.W) (by show _ ∈ [rfSt d.b d.o d.S, rfWs d.c d.p d.W]; simp)) i (by rw [hd.hW]; exact hi)).1) (by kernel_rfl) fun aa D => ?_
  refine dr_ex2 (fun d v c a w h => by cases d <;> exact h) 12 (op := .binOp .eql 3 (.tmp 20) (.tmp 26) 3) (ty := 4) (v := .bool false) D (by kernel_rfl) (by kernel_rfl) (by kernel_rfl) (by kernel_rfl) (ex_eqI (ki := .i64) (p := (d.W.getD k (0, ByteArray.empty)).1) (q := (d.W.getD i (0, ByteArray.empty)).1) (by kernel_rfl) (by kernel_rfl) (decide_eq_false hp)) fun aa D => ?_
  refine dr_end D (by kernel_rfl) fun S => ?_
  refine sy_run ⟨0, [3]⟩ 60 S fun bs aa w S => ?_
  refine sy_reg S fun S => ?_
  refine sy_ops 2 S fun bs aa w S => ?_
  refine sy_cast 14 S (congrArg (Value.int .i64) (by rw [IntKind.wrap_i64]; omega : IntKind.i64.wrap ((k : Int) + 1) = ((k + 1 : Nat) : Int))) (by kernel_rfl) fun S => ?_
  refine sy_run ⟨0, [999]⟩ 50 S fun bs aa w S => ?_
  have S2 := S.to [0] (puS d i (k + 1)) (by kernel_rfl) (by kernel_rfl) (by kernel_rfl) (by kernel_rfl) (by kernel_rfl)
  refine sy_at2 (k' := (.rnd (m) (bodyL pu1) :: pu1.k.tail)) (by kernel_rfl) ?_
  exact ih he2 _ aa w S2
theorem pc_a (w0 : World) (d : Dk) (hd : d.ok) (i : Nat) (hi : i < d.tl) (hx : 0 ≤ (d.W.getD i (0, ByteArray.empty)).1 ∧ (d.W.getD i (0, ByteArray.empty)).1 < (d.sl : Int)) : ∀ (r k : Nat), k + r = d.tl → fd d.W (d.S.getD (d.W.getD i (0, ByteArray.empty)).1.toNat ByteArray.empty) (d.W.getD i (0, ByteArray.empty)).1 r k = putB d i → ∀ (x0 : Nat) (aa : Act) (w : World) (S : Sy w0 [] [x0] (puS d i (k)) [rfSt d.b d.o d.S, rfWs d.c d.p d.W] aa w), post Try.prog (.rnd (r + 1) (bodyL pu1) :: pu1.k.tail) (bodyPost Try.prog Try.f37 fun e w' => e = .returned (.string (putB d i)) ∧ Below w0.heap.size w0 w') .normal aa w := by
  intro r
  induction r with
  | zero => intro k hk he x0 aa w S; obtain rfl : k = d.tl := by omega
            exact pc_e w0 d hd i hi hx 0 he x0 aa w S
  | succ r ih =>
    intro k hk he x0 aa w S
    by_cases hp : (d.W.getD k (0, ByteArray.empty)).1 = (d.W.getD i (0, ByteArray.empty)).1
    · exact pc_t w0 d hd i hi hx (r + 1) r k (by omega) hp he x0 aa w S
    · exact pc_f w0 d hd i hi hx (r + 1) r k (by omega) hp (fun h => ih (k + 1) (by omega) h) he x0 aa w S
set_option maxHeartbeats 8000000 in
theorem put_t (w0 : World) (d : Dk) (hd : d.ok) (i : Nat) (hi : i < d.tl) (hx : 0 ≤ (d.W.getD i (0, ByteArray.empty)).1 ∧ (d.W.getD i (0, ByteArray.empty)).1 < (d.sl : Int)) (hA : StrAt w0 d.b d.o d.S) (hB : WasAt w0 d.c d.p d.W) : Calls Try.prog 37 #[d.v, .int .i64 (i : Int)] w0 fun e w' => e = .returned (.string (putB d i)) ∧ Below w0.heap.size w0 w' := by
  have h2 := hd.l2
  refine sy_enterF [] [rfSt d.b d.o d.S, rfWs d.c d.p d.W] (by intro f hf; simp only [List.mem_cons, List.not_mem_nil, or_false] at hf; rcases hf with rfl | rfl; exact hA; exact hB) Try.func37 rfl rfl fun aa S => ?_
  refine sy_run ⟨0, [1]⟩ 60 S fun bs aa w S => ?_
  refine sy_reg S fun S => ?_
  refine sy_ops 2 S fun bs aa w S => ?_
  refine sy_cast 7 S (congrArg (Value.int .i64) (by rw [IntKind.wrap_i64]; omega : IntKind.i64.wrap ((i : Int) + 1) = ((i + 1 : Nat) : Int))) (by kernel_rfl) fun S => ?_
  refine sy_run ⟨0, []⟩ 60 S fun bs aa w S => ?_
  have S2 := S.to [0] (puS d i (i + 1)) (by kernel_rfl) (by kernel_rfl) (by kernel_rfl) (by kernel_rfl) (by kernel_rfl)
  refine sy_loop (d.tl - (i + 1) + 1) (by kernel_rfl) ?_
  refine sy_at2 (k' := (.rnd (d.tl - (i + 1) + 1) (bodyL pu1) :: pu1.k.tail)) (by kernel_rfl) ?_
  exact pc_a w0 d hd i hi hx (d.tl - (i + 1)) (i + 1) (by omega) rfl _ aa w S2
set_option maxHeartbeats 8000000 in
theorem rcut_t (w0 : World) (cs : List Int) (ca : Option Addr) (cc cb co : Nat) (hca : cs.length = 0 ∨ ca = some ⟨cb, co, none⟩) (i : Nat) (hI : IntsAt w0 cb co cs) : Calls Try.prog 36 #[.slice ca cs.length cc, .int .i64 (i : Int)] w0 fun e w' => e = .returned (.int .i64 ((cutOf cs i : Nat) : Int)) ∧ Below w0.heap.size w0 w' := by
  refine sy_enterF [] [rfIn cb co cs] (by intro f hf; simp only [List.mem_singleton] at hf; subst hf; exact hI) Try.func36 rfl rfl fun aa S => ?_
  refine sy_run ⟨0, [1]⟩ 60 S fun bs aa w S => ?_
  refine sy_reg S fun S => ?_
  refine sy_ops 4 S fun bs aa w S => ?_
  by_cases hi : i < cs.length
  case neg =>
    have ec : cutOf cs i = 32 := by unfold cutOf; rw [if_neg hi]
    rw [ec]
    refine sy_cast 9 S (congrArg Value.bool (decide_eq_true (by omega) : decide ((i : Int) ≥ (cs.length : Int)) = true)) (by kernel_rfl) fun S => ?_
    refine sy_run ⟨0, []⟩ 60 S fun bs aa w S => ?_
    exact sy_ret S (by kernel_rfl) (by kernel_rfl) fun hg => ⟨rfl, bel_gr hg⟩
  obtain rfl := hca.resolve_left (by omega)
  have ec : cs.getD i 0 % 33 = ((cutOf cs i : Nat) : Int) := by unfold cutOf; rw [if_pos hi]; omega
  refine sy_cast 9 S (congrArg Value.bool (decide_eq_false (by omega) : decide ((i : Int) ≥ (cs.length : Int)) = false)) (by kernel_rfl) fun S => ?_
  refine sy_run ⟨0, [3]⟩ 60 S fun bs aa w S => ?_
  refine sy_reg S fun S => ?_
  refine sy_ops 2 S fun bs aa w S => ?_
  refine sy_ix (b := cb) (off := co) (len := cs.length) (n := i) (size := 1) (i := (i : Int)) S (by kernel_rfl) rfl hi fun aa S => ?_
  refine sy_ldo S (ld_at (ty := 3) (b := cb) (off := co + i * 1) (by kernel_rfl) (by rw [Nat.mul_one]; exact S.fact (f := rfIn cb co cs) (by simp) i hi)) (by kernel_rfl) fun aa S => ?_
  refine sy_ops 1 S fun bs aa w S => ?_
  have hm : Int.tmod (cs.getD i 0) 33 = cs.getD i 0 % 33 ∨ (Int.tmod (cs.getD i 0) 33 < 0 ∧ Int.tmod (cs.getD i 0) 33 + 33 = cs.getD i 0 % 33) := by
    have h1 := Int.tmod_lt_of_pos (cs.getD i 0) (show (0 : Int) < 33 by omega)
    have h2 : -33 < Int.tmod (cs.getD i 0) 33 := by
      have := Int.lt_tmod_of_pos (cs.getD i 0) (show (0 : Int) < 33 by omega)
      omega
    have h3 : (Int.tmod (cs.getD i 0) 33) % 33 = cs.getD i 0 % 33 := by rw [Int.tmod_def]; omega
    omega
  rcases hm with hm | ⟨hm1, hm2⟩
  · refine sy_cast 14 S (congrArg (Value.int .i64) (hm.trans ec)) (by kernel_rfl) fun S => ?_
    refine sy_run ⟨0, [4]⟩ 60 S fun bs aa w S => ?_
    refine sy_reg S fun S => ?_
    refine sy_ops 2 S fun bs aa w S => ?_
    refine sy_cast 16 S (congrArg Value.bool (decide_eq_false (by omega) : decide (((cutOf cs i : Nat) : Int) < 0) = false)) (by kernel_rfl) fun S => ?_
    refine sy_run ⟨0, []⟩ 60 S fun bs aa w S => ?_
    exact sy_ret S (by kernel_rfl) (by kernel_rfl) fun hg => ⟨rfl, bel_gr hg⟩
  refine sy_run ⟨0, [4]⟩ 60 S fun bs aa w S => ?_
  refine sy_reg S fun S => ?_
  refine sy_ops 2 S fun bs aa w S => ?_
  refine sy_cast 16 S (congrArg Value.bool (decide_eq_true hm1 : decide (Int.tmod (cs.getD i 0) 33 < 0) = true)) (by kernel_rfl) fun S => ?_
  refine sy_run ⟨0, [5]⟩ 60 S fun bs aa w S => ?_
  refine sy_reg S fun S => ?_
  refine sy_ops 2 S fun bs aa w S => ?_
  refine sy_cast 18 S (congrArg (Value.int .i64) (by rw [IntKind.wrap_i64]; omega : IntKind.i64.wrap (Int.tmod (cs.getD i 0) 33 + 33) = ((cutOf cs i : Nat) : Int))) (by kernel_rfl) fun S => ?_
  refine sy_run ⟨0, []⟩ 60 S fun bs aa w S => ?_
  exact sy_ret S (by kernel_rfl) (by kernel_rfl) fun hg => ⟨rfl, bel_gr hg⟩
end Go.Proofs.Ytnlcjlhcghgaoaa


/-
  Layer 22: crashes, program and reference.
-/
namespace Go.Proofs.Ytnlcjlhcghgaoaa
open Go Go.RowKit SZ
set_option linter.unusedVariables false
set_option linter.unusedSimpArgs false
set_option maxRecDepth 100000
attribute [local irreducible] post GD Nxt NxtAll
noncomputable def udS0 (a : Option Addr) (c gd : Nat) (ta : Option Addr) (tc : Nat) : SS := ⟨52, [(0, .v (.slice a 0 c)), (5, .v (.slice (some ⟨gd, 0, none⟩) 0 0)), (6, .v (.slice ta 0 tc))], []⟩
set_option maxHeartbeats 8000000 in
theorem undo0 (a : Option Addr) (c : Nat) (ta : Option Addr) (tc : Nat) (w0 : World) : Calls Try.prog 32 #[.slice a 0 c, .slice ta 0 tc] w0 fun e w' => ∃ gd, e = .returned (.slice (some ⟨gd, 0, none⟩) 0 0) ∧ True ∧ Below w0.heap.size w0 w' := by
  refine sy_enterF [] [] (by intro f hf; cases hf) Try.func32 rfl rfl fun aa S => ?_
  refine sy_run ⟨0, [1]⟩ 60 S fun bs aa w S => ?_
  refine sy_reg S fun S => ?_
  refine sy_ops 2 S fun bs aa w S => ?_
  refine sy_mk (t := 22) (u := .int .i64 ((0 : Nat) : Int)) (v := .int .i64 ((0 : Nat) : Int)) (n := 0) (cs := zS 0 0) (e := 9) S (by kernel_rfl) (mk_run2 0 (by omega)) fun gd aa w hb0 hnb hnf hh hb S => ?_
  refine sy_run ⟨0, []⟩ 60 S fun bs aa w S => ?_
  refine sy_loop 1 (by kernel_rfl) ?_
  refine sy_at2 (k' := (.rnd 1 (bodyL udC) :: udC.k.tail)) (by kernel_rfl) ?_
  have S' := S.to [] (udS0 a c gd ta tc) (by kernel_rfl) (by kernel_rfl) (by kernel_rfl) (by kernel_rfl) (by kernel_rfl)
  refine sy_run (c := ⟨.rnd 1 (bodyL udC) :: udC.k.tail, udS0 a c gd ta tc⟩) ⟨0, []⟩ 60 S' fun bs aa w S => ?_
  exact sy_ret S (by kernel_rfl) (by kernel_rfl) fun hg => ⟨gd, rfl, trivial, bel_gr hg⟩
noncomputable def crS0 (a : Option Addr) (c : Nat) : SS := ⟨29, [(4, .p 0 0), (5, .p 1 0), (19, .v (.int .i64 0)), (20, .v (.int .i64 0))], [⟨25, [.slice none 0 0, .slice none 0 0]⟩, ⟨22, [.slice a 0 c]⟩]⟩
set_option maxHeartbeats 8000000 in
theorem crash0 (sa : Option Addr) (sc : Nat) (hsn : sa = none → sc = 0) (ta : Option Addr) (tc : Nat) (ca : Option Addr) (cl cc : Nat) (w0 : World) : Calls Try.prog 21 #[.agg #[.slice sa 0 sc, .slice ta 0 tc], .slice ca cl cc] w0 fun e w' => ∃ a c, (a = none → c = 0) ∧ e = .returned (.agg #[.slice a 0 c, .slice none 0 0]) ∧ Below w0.heap.size w0 w' := by
  refine sy_enterF [] [] (by intro f hf; cases hf) Try.func21 rfl rfl fun aa S => ?_
  refine sy_run ⟨0, [1]⟩ 60 S fun bs aa w S => ?_
  refine sy_reg S fun S => ?_
  refine sy_ops 2 S fun bs aa w S => ?_
  refine sy_call S (X := Option Addr × Nat) (val := fun q => .slice q.1 0 q.2) (C := fun q w' => q.1 = none → q.2 = 0) (f := 31) (args := #[.slice sa 0 sc]) (by
    cases sa with
    | none =>
      have e0 := hsn rfl
      subst e0
      exact (Try.slices_Clone_string_nil 0 0 w).mono fun e w' h => ⟨(none, 0), h.1, fun _ => rfl, by rw [h.2]; exact Below.refl _ _⟩
    | some a0 =>
      refine (Try.slices_Clone_string_zero a0 sc w).mono fun e w' ⟨v', h1, h2, h3, h4⟩ => ?_
      rcases h2.2 with ⟨rfl, _⟩ | ⟨g, cap, cur, rfl, _⟩
      · exact ⟨(none, 0), h1, fun _ => rfl, h4⟩
      · exact ⟨(some ⟨g, 0, none⟩, cap), h1, (fun h => by cases h), h4⟩) (by kernel_rfl) fun q aa w hq hb S => ?_
  obtain ⟨a2, c2⟩ := q
  refine sy_run ⟨0, [2]⟩ 60 S fun bs aa w S => ?_
  refine sy_reg S fun S => ?_
  refine sy_ops 3 S fun bs aa w S => ?_
  refine sy_call S (undo0 a2 c2 ta tc w) (by kernel_rfl) fun gd aa w _ hb S => ?_
  refine sy_run ⟨0, []⟩ 60 S fun bs aa w S => ?_
  refine sy_loop 1 (by kernel_rfl) ?_
  refine sy_at2 (k' := (.rnd 1 (bodyL crC) :: crC.k.tail)) (by kernel_rfl) ?_
  have S' := S.to [2, 3] (crS0 a2 c2) (by kernel_rfl) (by kernel_rfl) (by kernel_rfl) (by kernel_rfl) (by kernel_rfl)
  refine sy_run (c := ⟨.rnd 1 (bodyL crC) :: crC.k.tail, (crS0 a2 c2)⟩) ⟨0, []⟩ 60 S' fun bs aa w S => ?_
  exact sy_ret S (by kernel_rfl) (by kernel_rfl) fun hg => ⟨a2, c2, hq, rfl, bel_gr hg⟩
theorem right_0 {d : Dk} (hr : d.right) (h0 : d.sl = 0) : d.tl = 0 := by
  by_cases h : d.tl = 0
  · exact h
  · have := (hr.w 0 (by omega)).1
    omega
theorem pcrash_t (w0 : World) (d : Dk) (hd : d.ok) (hr : d.right) (hsn : d.sa = none → d.sc = 0) (ca : Option Addr) (cc cb co : Nat) (cs : List Int) (hca : cs.length = 0 ∨ ca = some ⟨cb, co, none⟩) (hA : StrAt w0 d.b d.o d.S) (hB : WasAt w0 d.c d.p d.W) (hC : IntsAt w0 cb co cs) : Calls Try.prog 21 #[d.v, .slice ca cs.length cc] w0 fun e w' => ∃ d' : Dk, e = .returned d'.v ∧ Dev w0.heap.size w' d' (crS d cs) [] ∧ Below w0.heap.size w0 w' := by
  by_cases h0 : d.sl = 0
  · have ht := right_0 hr h0
    have eS : crS d cs = [] := List.eq_nil_of_length_eq_zero (by rw [(crS_inv d hd hr cs).1, h0])
    have ev : d.v = .agg #[.slice d.sa 0 d.sc, .slice d.ta 0 d.tc] := by unfold Dk.v; rw [h0, ht]
    rw [ev, eS]
    refine (crash0 d.sa d.sc hsn d.ta d.tc ca cs.length cc w0).mono fun e w' ⟨a, c, h1, h2, h3⟩ => ⟨⟨a, 0, c, none, 0, 0, 0, 0, 0, 0, [], []⟩, h2, ⟨⟨rfl, Or.inl rfl, rfl, Or.inl rfl, Or.inl ⟨rfl, rfl, rfl⟩, Nat.zero_le _, h1⟩, rfl, rfl, fun j hj => absurd hj (Nat.not_lt_zero _), fun j hj => absurd hj (Nat.not_lt_zero _), Or.inl rfl, Or.inl rfl⟩, h3⟩
  · refine (crash_t w0 d hd hr (by omega) (hd.hw2.elim (fun h => by omega) (fun h => h.2.2)) ca cc cb co cs hca hA hB hC).mono fun e w' ⟨g, sc, h1, h2, h3, h4⟩ => ⟨⟨some ⟨g, 0, none⟩, d.sl, sc, none, 0, 0, g, 0, 0, 0, crS d cs, []⟩, h1, ⟨⟨(crS_inv d hd hr cs).1, Or.inr rfl, rfl, Or.inl rfl, Or.inl ⟨rfl, rfl, rfl⟩, Nat.zero_le _, fun h => by cases h⟩, rfl, rfl, row_at h3, fun j hj => absurd hj (Nat.not_lt_zero _), Or.inr h2, Or.inl rfl⟩, h4⟩
noncomputable def rc1 : Cfg := ⟨goZ 60 [] [.code (bodyOf Try.f22)], ⟨0, [], []⟩⟩
noncomputable def rc2 : Cfg := ⟨goZ 60 [9] [.code (bodyOf Try.f22)], ⟨0, [], []⟩⟩
noncomputable def rcK (d : Dk) : List Bx := [⟨25, d.cs⟩, ⟨25, [.slice none 0 0, .slice none 0 0]⟩]
noncomputable def rc1S (d : Dk) (ca : Option Addr) (cl cc a : Nat) (ga : Option Addr) (gc : Nat) : SS := ⟨58, [(1, .v (.slice ca cl cc)), (2, .p 0 0), (4, .p 1 0), (5, .v (.slice ga a gc)), (6, .v (.int .i64 (a : Int)))], rcK d⟩
noncomputable def rc2S (d : Dk) (ca : Option Addr) (cl cc i : Nat) (ga : Option Addr) (gc : Nat) : SS := ⟨58, [(1, .v (.slice ca cl cc)), (2, .p 0 0), (4, .p 1 0), (5, .v (.slice ga d.sl gc)), (7, .v (.int .i64 (i : Int)))], rcK d⟩
set_option maxHeartbeats 8000000 in
theorem r2e (w0 : World) (d : Dk) (hd : d.ok) (hr : d.right) (ca : Option Addr) (cc cb co : Nat) (cs : List Int) (hca : cs.length = 0 ∨ ca = some ⟨cb, co, none⟩) (hold : ∀ f ∈ [rfSt d.b d.o d.S, rfWs d.c d.p d.W, rfIn cb co cs], ∀ g, w0.heap.size ≤ g → ¬f.bl g) (h0 : 0 < d.sl) (g gc : Nat) (hg0 : w0.heap.size ≤ g) (m : Nat) (x0 x1 : Nat) (aa : Act) (w : World) (S : Sy w0 [] [x0, x1] (rc2S d ca cs.length cc (d.tl) (some ⟨g, 0, none⟩) gc) [rfRow g (crA d.W cs (PUT d) (d.tl) (SYN d)), rfSt d.b d.o d.S, rfWs d.c d.p d.W, rfIn cb co cs] aa w) : post Try.prog (.rnd (m + 1) (bodyL rc2) :: rc2.k.tail) (bodyPost Try.prog Try.f22 fun e w' => ∃ d' : Dk, e = .returned d'.v ∧ Dev w0.heap.size w' d' (crA d.W cs (PUT d) d.tl (SYN d)) [] ∧ Below w0.heap.size w0 w') .normal aa w := by
  obtain ⟨hl, _⟩ := crS_inv d hd hr cs
  rw [crS_ref d hd hr cs] at hl
  refine sy_run (c := ⟨(.rnd (m + 1) (bodyL rc2) :: rc2.k.tail), rc2S d ca cs.length cc d.tl (some ⟨g, 0, none⟩) gc⟩) ⟨0, [7]⟩ 50 S fun bs aa w S => ?_
  refine sy_reg S fun S => ?_
  refine sy_ops 5 S fun bs aa w S => ?_
  refine sy_cast 28 S (congrArg Value.bool (decide_eq_false (by omega) : decide ((d.tl : Int) < (d.tl : Int)) = false)) (by kernel_rfl) fun S => ?_
  refine sy_run ⟨0, []⟩ 60 S fun bs aa w S => ?_
  exact sy_ret S (by kernel_rfl) (by kernel_rfl) fun hg => ⟨⟨some ⟨g, 0, none⟩, d.sl, gc, none, 0, 0, g, 0, 0, 0, (crA d.W cs (PUT d) (d.tl) (SYN d)), []⟩, rfl, ⟨⟨hl, Or.inr rfl, rfl, Or.inl rfl, Or.inl ⟨rfl, rfl, rfl⟩, Nat.zero_le _, fun h => by cases h⟩, rfl, rfl, row_at (S.fact (f := rfRow g (crA d.W cs (PUT d) (d.tl) (SYN d))) (by simp)), fun j hj => absurd hj (Nat.not_lt_zero _), Or.inr hg0, Or.inl rfl⟩, bel_gr hg⟩
set_option maxHeartbeats 8000000 in
theorem r2s (w0 : World) (d : Dk) (hd : d.ok) (hr : d.right) (ca : Option Addr) (cc cb co : Nat) (cs : List Int) (hca : cs.length = 0 ∨ ca = some ⟨cb, co, none⟩) (hold : ∀ f ∈ [rfSt d.b d.o d.S, rfWs d.c d.p d.W, rfIn cb co cs], ∀ g, w0.heap.size ≤ g → ¬f.bl g) (h0 : 0 < d.sl) (g gc : Nat) (hg0 : w0.heap.size ≤ g) (m i : Nat) (hi : i < d.tl) (ih : ∀ (x0 x1 : Nat) (aa : Act) (w : World) (S : Sy w0 [] [x0, x1] (rc2S d ca cs.length cc (i + 1) (some ⟨g, 0, none⟩) gc) [rfRow g (crA d.W cs (PUT d) (i + 1) (SYN d)), rfSt d.b d.o d.S, rfWs d.c d.p d.W, rfIn cb co cs] aa w), post Try.prog (.rnd (m) (bodyL rc2) :: rc2.k.tail) (bodyPost Try.prog Try.f22 fun e w' => ∃ d' : Dk, e = .returned d'.v ∧ Dev w0.heap.size w' d' (crA d.W cs (PUT d) d.tl (SYN d)) [] ∧ Below w0.heap.size w0 w') .normal aa w) (x0 x1 : Nat) (aa : Act) (w : World) (S : Sy w0 [] [x0, x1] (rc2S d ca cs.length cc (i) (some ⟨g, 0, none⟩) gc) [rfRow g (crA d.W cs (PUT d) (i) (SYN d)), rfSt d.b d.o d.S, rfWs d.c d.p d.W, rfIn cb co cs] aa w) : post Try.prog (.rnd (m + 1) (bodyL rc2) :: rc2.k.tail) (bodyPost Try.prog Try.f22 fun e w' => ∃ d' : Dk, e = .returned d'.v ∧ Dev w0.heap.size w' d' (crA d.W cs (PUT d) d.tl (SYN d)) [] ∧ Below w0.heap.size w0 w') .normal aa w := by
  have hl2 := hd.l2
  have hx := (hr.w i hi).1
  have hm := cutOf_le cs i
  have hPU : All32 (PUT d) := by
    intro j hj
    rw [PUT_len] at hj
    rw [PUT_at d j hj]
    have h := un_is d hr d.tl d.S (List.replicate d.tl ByteArray.empty) (Nat.le_refl _) hd.hS (fun a ha => by rw [Nat.sub_self]; rfl) (by simp) (fun j h1 h2 => by omega)
    have hu := (crU_inv d hd hr).2.2.2 j (by rw [(crU_inv d hd hr).2.2.1]; exact hj)
    rw [← h.2.2.2 j hj]
    exact hu
  have hSY : All32 (SYN d) := by
    intro j hj
    rw [SYN_len] at hj
    rw [SYN_at d j hj]
    have h := un_is d hr d.tl d.S (List.replicate d.tl ByteArray.empty) (Nat.le_refl _) hd.hS (fun a ha => by rw [Nat.sub_self]; rfl) (by simp) (fun j h1 h2 => by omega)
    have hu := (crU_inv d hd hr).2.1 j (by rw [(crU_inv d hd hr).1]; exact hj)
    rw [← h.2.1 j hj]
    exact hu
  have hA32 : (putB d i).size = 32 := by rw [← PUT_at d i hi]; exact hPU i (by rw [PUT_len]; exact hi)
  obtain ⟨hS1, hS2⟩ := crA_inv d.W cs d.sl (PUT d) hPU i (SYN d) (fun j hj => (hr.w j (by omega)).1) (by rw [PUT_len]; omega) (SYN_len d) hSY
  have hB32 : ((crA d.W cs (PUT d) (i) (SYN d)).getD (d.W.getD i (0, ByteArray.empty)).1.toNat ByteArray.empty).size = 32 := hS2 _ (by omega)
  refine sy_run (c := ⟨(.rnd (m + 1) (bodyL rc2) :: rc2.k.tail), rc2S d ca cs.length cc i (some ⟨g, 0, none⟩) gc⟩) ⟨0, [7]⟩ 50 S fun bs aa w S => ?_
  refine sy_reg S fun S => ?_
  refine sy_ops 5 S fun bs aa w S => ?_
  refine sy_cast 28 S (congrArg Value.bool (decide_eq_true (by omega) : decide ((i : Int) < (d.tl : Int)) = true)) (by kernel_rfl) fun S => ?_
  refine sy_run ⟨0, [9]⟩ 60 S fun bs aa w S => ?_
  refine sy_reg S fun S => ?_
  refine sy_ops 2 S fun bs aa w S => ?_
  refine sy_call1 S (rcut_t w cs ca cc cb co hca i (S.fact (f := rfIn cb co cs) (by simp))) (by kernel_rfl) fun aa w hb S => ?_
  refine sy_run ⟨0, [10]⟩ 60 S fun bs aa w S => ?_
  refine sy_reg S fun S => ?_
  refine sy_ops 2 S fun bs aa w S => ?_
  refine sy_call1 S (put_t w d hd i hi hx (S.fact (f := rfSt d.b d.o d.S) (by simp)) (S.fact (f := rfWs d.c d.p d.W) (by simp))) (by kernel_rfl) fun aa w hb S => ?_
  refine sy_run ⟨0, [11]⟩ 60 S fun bs aa w S => ?_
  refine sy_reg S fun S => ?_
  refine sy_ops 3 S fun bs aa w S => ?_
  refine sy_ix (b := d.c) (off := d.p) (len := d.tl) (n := i) (size := 2) (i := (i : Int)) S (by rw [← hd.hw.resolve_left (by omega)]; kernel_rfl) rfl hi fun aa S => ?_
  refine sy_ops 1 S fun bs aa w S => ?_
  refine sy_ldo S (ld_at (ty := 3) (b := d.c) (off := d.p + i * 2) (by kernel_rfl) ((S.fact (f := rfWs d.c d.p d.W) (by simp)) i (by rw [hd.hW]; omega)).1) (by kernel_rfl) fun aa S => ?_
  refine sy_run ⟨0, []⟩ 60 S fun bs aa w S => ?_
  letI : KP := ⟨[47, 53, 54]⟩
  refine dr_enter [] (by kernel_rfl) (by kernel_rfl) S (by kernel_rfl) (fun aa w D => ?_)
  refine dr_tix 7 D (by kernel_rfl) (by kernel_rfl) (by kernel_rfl) (b := g) (off := 0) (len := d.sl) (n := (d.W.getD i (0, ByteArray.empty)).1.toNat) (size := 1) (ix := (d.W.getD i (0, ByteArray.empty)).1) (by kernel_rfl) (Int.toNat_of_nonneg hx.1).symm (by omega) fun aa D => ?_
  refine dr_ex2 (fun d v c a w h => by cases d <;> exact h) 4 (op := .slice 9 (.tmp 45) none (some (.tmp 46)) none) (ty := 9) (v := .string ((putB d i).extract 0 (cutOf cs i))) D (by kernel_rfl) (by kernel_rfl) (by kernel_rfl) (by kernel_rfl) (ex_slS (p := (putB d i)) (l2 := none) (h2 := some (.v (.int .i64 ((cutOf cs i : Nat) : Int)))) Try.underlying9 (by kernel_rfl) (by kernel_rfl) (by kernel_rfl) (fun W => slS_h (putB d i) (cutOf cs i) (by omega) W)) fun aa D => ?_
  refine dr_any [8] (by kernel_rfl) (by kernel_rfl) rfl (na1 ?_)
  refine nx_ld 8 D (by kernel_rfl) (ld_at (ty := 9) (b := g) (off := 0 + (d.W.getD i (0, ByteArray.empty)).1.toNat * 1) (by kernel_rfl) (by rw [Nat.mul_one]; exact row_at (D.S.fact (f := rfRow g (crA d.W cs (PUT d) (i) (SYN d))) (by simp)) _ (by omega))) (by kernel_rfl) fun aa D => ?_
  refine dr_ex2 (fun d v c a w h => by cases d <;> exact h) 10 (op := .slice 9 (.tmp 51) (some (.tmp 52)) none none) (ty := 9) (v := .string (((crA d.W cs (PUT d) (i) (SYN d)).getD (d.W.getD i (0, ByteArray.empty)).1.toNat ByteArray.empty).extract (cutOf cs i) ((crA d.W cs (PUT d) (i) (SYN d)).getD (d.W.getD i (0, ByteArray.empty)).1.toNat ByteArray.empty).size)) D (by kernel_rfl) (by kernel_rfl) (by kernel_rfl) (by kernel_rfl) (ex_slS (p := ((crA d.W cs (PUT d) (i) (SYN d)).getD (d.W.getD i (0, ByteArray.empty)).1.toNat ByteArray.empty)) (l2 := some (.v (.int .i64 ((cutOf cs i : Nat) : Int)))) (h2 := none) Try.underlying9 (by kernel_rfl) (by kernel_rfl) (by kernel_rfl) (fun W => slS_l ((crA d.W cs (PUT d) (i) (SYN d)).getD (d.W.getD i (0, ByteArray.empty)).1.toNat ByteArray.empty) (cutOf cs i) (by omega) W)) fun aa D => ?_
  refine dr_ex2 (fun d v c a w h => by cases d <;> exact h) 11 (op := .binOp .add 9 (.tmp 47) (.tmp 53) 9) (ty := 9) (v := .string (tear (putB d i) ((crA d.W cs (PUT d) (i) (SYN d)).getD (d.W.getD i (0, ByteArray.empty)).1.toNat ByteArray.empty) (cutOf cs i))) D (by kernel_rfl) (by kernel_rfl) (by kernel_rfl) (by kernel_rfl) (ex_cat (p := (putB d i).extract 0 (cutOf cs i)) (q := ((crA d.W cs (PUT d) (i) (SYN d)).getD (d.W.getD i (0, ByteArray.empty)).1.toNat ByteArray.empty).extract (cutOf cs i) ((crA d.W cs (PUT d) (i) (SYN d)).getD (d.W.getD i (0, ByteArray.empty)).1.toNat ByteArray.empty).size) Try.underlying9 (by kernel_rfl) (by kernel_rfl) (by rw [ByteArray.size_extract, ByteArray.size_extract]; omega)) fun aa D => ?_
  refine dr_tix 12 D (by kernel_rfl) (by kernel_rfl) (by kernel_rfl) (b := g) (off := 0) (len := d.sl) (n := (d.W.getD i (0, ByteArray.empty)).1.toNat) (size := 1) (ix := (d.W.getD i (0, ByteArray.empty)).1) (by kernel_rfl) (Int.toNat_of_nonneg hx.1).symm (by omega) fun aa D => ?_
  obtain ⟨hr2, he2⟩ := row_st (D.S.fact (f := rfRow g (crA d.W cs (PUT d) (i) (SYN d))) (by simp)) (d.W.getD i (0, ByteArray.empty)).1.toNat (by omega) (tear (putB d i) ((crA d.W cs (PUT d) (i) (SYN d)).getD (d.W.getD i (0, ByteArray.empty)).1.toNat ByteArray.empty) (cutOf cs i))
  have hap2 := (D.S.fs (rfRow g (crA d.W cs (PUT d) (i) (SYN d))) (by simp)).2
  refine dr_any [13] (by kernel_rfl) (by kernel_rfl) rfl (na1 ?_)
  refine nx_sto 13 [rfSt d.b d.o d.S, rfWs d.c d.p d.W, rfIn cb co cs] D (by kernel_rfl) (ty := 9) (ad := ⟨g, 0 + (d.W.getD i (0, ByteArray.empty)).1.toNat * 1, none⟩) (x := .v (.string (tear (putB d i) ((crA d.W cs (PUT d) (i) (SYN d)).getD (d.W.getD i (0, ByteArray.empty)).1.toNat ByteArray.empty) (cutOf cs i)))) (v := .string (tear (putB d i) ((crA d.W cs (PUT d) (i) (SYN d)).getD (d.W.getD i (0, ByteArray.empty)).1.toNat ByteArray.empty) (cutOf cs i))) (by kernel_rfl) rfl hr2 (gb_setC w g _ _) (Or.inr hg0) (fun f hf => ⟨List.mem_cons_of_mem _ hf, hold f hf g hg0⟩) (fun f hf => absurd hf List.not_mem_nil) (fun i hi e => hap2 i hi e) fun aa D => ?_
  have D := D.addF (rfRow g (crA d.W cs (PUT d) (i + 1) (SYN d))) (by show (rfRow g (List.set (crA d.W cs (PUT d) (i) (SYN d)) (d.W.getD i (0, ByteArray.empty)).1.toNat (tear ((PUT d).getD i ByteArray.empty) ((crA d.W cs (PUT d) (i) (SYN d)).getD (d.W.getD i (0, ByteArray.empty)).1.toNat ByteArray.empty) (cutOf cs i)))).P _; rw [PUT_at d i hi]; exact he2) hap2
  refine dr_end D (by kernel_rfl) fun S => ?_
  refine sy_run ⟨0, [8]⟩ 60 S fun bs aa w S => ?_
  refine sy_reg S fun S => ?_
  refine sy_ops 2 S fun bs aa w S => ?_
  refine sy_cast 30 S (congrArg (Value.int .i64) (by rw [IntKind.wrap_i64]; omega : IntKind.i64.wrap ((i : Int) + 1) = ((i + 1 : Nat) : Int))) (by kernel_rfl) fun S => ?_
  refine sy_run ⟨0, [999]⟩ 50 S fun bs aa w S => ?_
  have S2 := S.to [0, 1] (rc2S d ca cs.length cc (i + 1) (some ⟨g, 0, none⟩) gc) (by kernel_rfl) (by kernel_rfl) (by kernel_rfl) (by kernel_rfl) (by kernel_rfl)
  refine sy_at2 (k' := (.rnd (m) (bodyL rc2) :: rc2.k.tail)) (by kernel_rfl) ?_
  exact ih _ _ aa w S2
theorem r2a (w0 : World) (d : Dk) (hd : d.ok) (hr : d.right) (ca : Option Addr) (cc cb co : Nat) (cs : List Int) (hca : cs.length = 0 ∨ ca = some ⟨cb, co, none⟩) (hold : ∀ f ∈ [rfSt d.b d.o d.S, rfWs d.c d.p d.W, rfIn cb co cs], ∀ g, w0.heap.size ≤ g → ¬f.bl g) (h0 : 0 < d.sl) (g gc : Nat) (hg0 : w0.heap.size ≤ g) : ∀ (r i : Nat), i + r = d.tl → ∀ (x0 x1 : Nat) (aa : Act) (w : World) (S : Sy w0 [] [x0, x1] (rc2S d ca cs.length cc (i) (some ⟨g, 0, none⟩) gc) [rfRow g (crA d.W cs (PUT d) (i) (SYN d)), rfSt d.b d.o d.S, rfWs d.c d.p d.W, rfIn cb co cs] aa w), post Try.prog (.rnd (r + 1) (bodyL rc2) :: rc2.k.tail) (bodyPost Try.prog Try.f22 fun e w' => ∃ d' : Dk, e = .returned d'.v ∧ Dev w0.heap.size w' d' (crA d.W cs (PUT d) d.tl (SYN d)) [] ∧ Below w0.heap.size w0 w') .normal aa w := by
  intro r
  induction r with
  | zero => intro i hi x0 x1 aa w S; obtain rfl : i = d.tl := by omega
            exact r2e w0 d hd hr ca cc cb co cs hca hold h0 g gc hg0 0 x0 x1 aa w S
  | succ r ih => intro i hi x0 x1 aa w S; exact r2s w0 d hd hr ca cc cb co cs hca hold h0 g gc hg0 (r + 1) i (by omega) (ih (i + 1) (by omega)) x0 x1 aa w S
set_option maxHeartbeats 8000000 in
theorem r1e (w0 : World) (d : Dk) (hd : d.ok) (hr : d.right) (ca : Option Addr) (cc cb co : Nat) (cs : List Int) (hca : cs.length = 0 ∨ ca = some ⟨cb, co, none⟩) (hold : ∀ f ∈ [rfSt d.b d.o d.S, rfWs d.c d.p d.W, rfIn cb co cs], ∀ g, w0.heap.size ≤ g → ¬f.bl g) (m : Nat) (ga : Option Addr) (gc : Nat) (x0 x1 : Nat) (aa : Act) (w : World) (S : Sy w0 [] [x0, x1] (rc1S d ca cs.length cc (d.sl) ga gc) [(rfOwn w0.heap.size 9 1 (.slice ga (d.sl) gc) (d.sl) (((SYN d).take (d.sl)).map Value.string)), rfSt d.b d.o d.S, rfWs d.c d.p d.W, rfIn cb co cs] aa w) : post Try.prog (.rnd (m + 1) (bodyL rc1) :: rc1.k.tail) (bodyPost Try.prog Try.f22 fun e w' => ∃ d' : Dk, e = .returned d'.v ∧ Dev w0.heap.size w' d' (crA d.W cs (PUT d) d.tl (SYN d)) [] ∧ Below w0.heap.size w0 w') .normal aa w := by
  have hO := S.fact (f := (rfOwn w0.heap.size 9 1 (.slice ga (d.sl) gc) (d.sl) (((SYN d).take (d.sl)).map Value.string))) (by simp)
  refine sy_run (c := ⟨(.rnd (m + 1) (bodyL rc1) :: rc1.k.tail), rc1S d ca cs.length cc d.sl ga gc⟩) ⟨0, [3]⟩ 50 S fun bs aa w S => ?_
  refine sy_reg S fun S => ?_
  refine sy_ops 5 S fun bs aa w S => ?_
  refine sy_cast 15 S (congrArg Value.bool (decide_eq_false (by omega) : decide ((d.sl : Int) < (d.sl : Int)) = false)) (by kernel_rfl) fun S => ?_
  refine sy_run ⟨0, []⟩ 60 S fun bs aa w S => ?_
  have hO := S.fact (f := (rfOwn w0.heap.size 9 1 (.slice ga (d.sl) gc) (d.sl) (((SYN d).take (d.sl)).map Value.string))) (by simp)
  have hap := (S.fs (rfOwn w0.heap.size 9 1 (.slice ga (d.sl) gc) (d.sl) (((SYN d).take (d.sl)).map Value.string)) (by simp)).2
  rcases hO.2 with ⟨hv, q⟩ | ⟨g, cap, cur, hv, hg0, hgc, hnc, hcm, hcs, htk⟩
  · simp only [Value.slice.injEq] at hv
    have h0 := hv.2.1
    have ht := right_0 hr h0
    have eS : (crA d.W cs (PUT d) (d.tl) (SYN d)) = [] := List.eq_nil_of_length_eq_zero (by rw [← crS_ref d hd hr cs, (crS_inv d hd hr cs).1, h0])
    have S2 := S.to [0, 1] (rc2S d ca cs.length cc 0 ga gc) (by kernel_rfl) (by kernel_rfl) (by kernel_rfl) (by kernel_rfl) (by kernel_rfl)
    refine sy_loop 1 (by kernel_rfl) ?_
    refine sy_at2 (k' := (.rnd (1) (bodyL rc2) :: rc2.k.tail)) (by kernel_rfl) ?_
    have S := S2
    refine sy_run (c := ⟨(.rnd (1) (bodyL rc2) :: rc2.k.tail), rc2S d ca cs.length cc 0 ga gc⟩) ⟨0, [7]⟩ 50 S fun bs aa w S => ?_
    refine sy_reg S fun S => ?_
    refine sy_ops 5 S fun bs aa w S => ?_
    refine sy_cast 28 S (congrArg Value.bool (decide_eq_false (by omega) : decide (((0 : Nat) : Int) < (d.tl : Int)) = false)) (by kernel_rfl) fun S => ?_
    refine sy_run ⟨0, []⟩ 60 S fun bs aa w S => ?_
    exact sy_ret S (by kernel_rfl) (by kernel_rfl) fun hg => ⟨⟨ga, d.sl, gc, none, 0, 0, 0, 0, 0, 0, [], []⟩, rfl, ⟨⟨h0.symm, Or.inl h0, rfl, Or.inl rfl, Or.inl ⟨rfl, rfl, rfl⟩, Nat.zero_le _, fun _ => hv.2.2⟩, eS.symm, rfl, by rw [eS]; exact fun j hj => absurd hj (Nat.not_lt_zero _), fun j hj => absurd hj (Nat.not_lt_zero _), Or.inl (by rw [eS]; rfl), Or.inl rfl⟩, bel_gr hg⟩
  · simp only [Value.slice.injEq] at hv
    obtain ⟨rfl, _, rfl⟩ := hv
    by_cases h0 : d.sl = 0
    · have ht := right_0 hr h0
      have eS : (crA d.W cs (PUT d) (d.tl) (SYN d)) = [] := List.eq_nil_of_length_eq_zero (by rw [← crS_ref d hd hr cs, (crS_inv d hd hr cs).1, h0])
      have S2 := S.to [0, 1] (rc2S d ca cs.length cc 0 (some ⟨g, 0, none⟩) gc) (by kernel_rfl) (by kernel_rfl) (by kernel_rfl) (by kernel_rfl) (by kernel_rfl)
      refine sy_loop 1 (by kernel_rfl) ?_
      refine sy_at2 (k' := (.rnd (1) (bodyL rc2) :: rc2.k.tail)) (by kernel_rfl) ?_
      have S := S2
      refine sy_run (c := ⟨(.rnd (1) (bodyL rc2) :: rc2.k.tail), rc2S d ca cs.length cc 0 (some ⟨g, 0, none⟩) gc⟩) ⟨0, [7]⟩ 50 S fun bs aa w S => ?_
      refine sy_reg S fun S => ?_
      refine sy_ops 5 S fun bs aa w S => ?_
      refine sy_cast 28 S (congrArg Value.bool (decide_eq_false (by omega) : decide (((0 : Nat) : Int) < (d.tl : Int)) = false)) (by kernel_rfl) fun S => ?_
      refine sy_run ⟨0, []⟩ 60 S fun bs aa w S => ?_
      exact sy_ret S (by kernel_rfl) (by kernel_rfl) fun hg => ⟨⟨some ⟨g, 0, none⟩, d.sl, gc, none, 0, 0, 0, 0, 0, 0, [], []⟩, rfl, ⟨⟨h0.symm, Or.inl h0, rfl, Or.inl rfl, Or.inl ⟨rfl, rfl, rfl⟩, Nat.zero_le _, fun h => by cases h⟩, eS.symm, rfl, by rw [eS]; exact fun j hj => absurd hj (Nat.not_lt_zero _), fun j hj => absurd hj (Nat.not_lt_zero _), Or.inl (by rw [eS]; rfl), Or.inl rfl⟩, bel_gr hg⟩
    · have S := S.add (rfRow g (SYN d)) ⟨cur.toList, by simpa using hgc, by rw [SYN_len]; rw [Nat.mul_one] at htk; rw [htk, List.take_of_length_le (by rw [SYN_len]; exact Nat.le_refl _)]⟩ (fun i hi he => hap i hi (by show some g = some _; rw [show _ = g from he]))
      have S := S.sub (F' := [rfRow g (crA d.W cs (PUT d) (0) (SYN d)), rfSt d.b d.o d.S, rfWs d.c d.p d.W, rfIn cb co cs]) (by intro f hf; simp only [List.mem_cons, List.not_mem_nil, or_false] at hf; rcases hf with rfl | rfl | rfl | rfl <;> simp [crA])
      have S2 := S.to [0, 1] (rc2S d ca cs.length cc 0 (some ⟨g, 0, none⟩) gc) (by kernel_rfl) (by kernel_rfl) (by kernel_rfl) (by kernel_rfl) (by kernel_rfl)
      refine sy_loop (d.tl + 1) (by kernel_rfl) ?_
      refine sy_at2 (k' := (.rnd (d.tl + 1) (bodyL rc2) :: rc2.k.tail)) (by kernel_rfl) ?_
      exact r2a w0 d hd hr ca cc cb co cs hca hold (by omega) g gc hg0 d.tl 0 (by omega) _ _ aa w S2
set_option maxHeartbeats 8000000 in
theorem r1s (w0 : World) (d : Dk) (hd : d.ok) (hr : d.right) (ca : Option Addr) (cc cb co : Nat) (cs : List Int) (hca : cs.length = 0 ∨ ca = some ⟨cb, co, none⟩) (hold : ∀ f ∈ [rfSt d.b d.o d.S, rfWs d.c d.p d.W, rfIn cb co cs], ∀ g, w0.heap.size ≤ g → ¬f.bl g) (m a : Nat) (ha : a < d.sl) (ih : ∀ (ga : Option Addr) (gc : Nat) (x0 x1 : Nat) (aa : Act) (w : World) (S : Sy w0 [] [x0, x1] (rc1S d ca cs.length cc (a + 1) ga gc) [(rfOwn w0.heap.size 9 1 (.slice ga (a + 1) gc) (a + 1) (((SYN d).take (a + 1)).map Value.string)), rfSt d.b d.o d.S, rfWs d.c d.p d.W, rfIn cb co cs] aa w), post Try.prog (.rnd (m) (bodyL rc1) :: rc1.k.tail) (bodyPost Try.prog Try.f22 fun e w' => ∃ d' : Dk, e = .returned d'.v ∧ Dev w0.heap.size w' d' (crA d.W cs (PUT d) d.tl (SYN d)) [] ∧ Below w0.heap.size w0 w') .normal aa w) (ga : Option Addr) (gc : Nat) (x0 x1 : Nat) (aa : Act) (w : World) (S : Sy w0 [] [x0, x1] (rc1S d ca cs.length cc (a) ga gc) [(rfOwn w0.heap.size 9 1 (.slice ga (a) gc) (a) (((SYN d).take (a)).map Value.string)), rfSt d.b d.o d.S, rfWs d.c d.p d.W, rfIn cb co cs] aa w) : post Try.prog (.rnd (m + 1) (bodyL rc1) :: rc1.k.tail) (bodyPost Try.prog Try.f22 fun e w' => ∃ d' : Dk, e = .returned d'.v ∧ Dev w0.heap.size w' d' (crA d.W cs (PUT d) d.tl (SYN d)) [] ∧ Below w0.heap.size w0 w') .normal aa w := by
  have hl1 := hd.l1
  have hIs : (Try.prog.info? 9).map (fun i => (i.zero, i.size, i.bytes)) = some (some (.string ByteArray.empty), 1, 16) := by kernel_rfl
  obtain ⟨iis, his1, his2, his3, his4⟩ : ∃ ii, Try.prog.info? 9 = some ii ∧ ii.zero = some (.string ByteArray.empty) ∧ ii.size = 1 ∧ ii.bytes = 16 := by
    cases hi : Try.prog.info? 9 with
    | none => rw [hi] at hIs; cases hIs
    | some i =>
      rw [hi] at hIs
      simp only [Option.map_some, Option.some.injEq, Prod.mk.injEq] at hIs
      exact ⟨i, rfl, hIs.1, hIs.2.1, hIs.2.2⟩
  refine sy_run (c := ⟨(.rnd (m + 1) (bodyL rc1) :: rc1.k.tail), rc1S d ca cs.length cc a ga gc⟩) ⟨0, [3]⟩ 50 S fun bs aa w S => ?_
  refine sy_reg S fun S => ?_
  refine sy_ops 5 S fun bs aa w S => ?_
  refine sy_cast 15 S (congrArg Value.bool (decide_eq_true (by omega) : decide ((a : Int) < (d.sl : Int)) = true)) (by kernel_rfl) fun S => ?_
  refine sy_run ⟨0, [5]⟩ 60 S fun bs aa w S => ?_
  refine sy_reg S fun S => ?_
  refine sy_ops 3 S fun bs aa w S => ?_
  refine sy_call1 S (synced_t w d hd a ha (S.fact (f := rfSt d.b d.o d.S) (by simp)) (S.fact (f := rfWs d.c d.p d.W) (by simp))) (by kernel_rfl) fun aa w hb S => ?_
  refine sy_ops 1 S fun bs aa w S => ?_
  have hO0 := S.fact (f := (rfOwn w0.heap.size 9 1 (.slice ga (a) gc) (a) (((SYN d).take (a)).map Value.string))) (by simp)
  have hap := (S.fs (rfOwn w0.heap.size 9 1 (.slice ga (a) gc) (a) (((SYN d).take (a)).map Value.string)) (by simp)).2
  have hsz := S.gr.size
  have hltb := fun i hi => S.lt (i := i) hi
  refine sy_appO w0.heap.size (u := .v (.slice ga a gc)) (y := .s 2 0 1 1) (t := 22) (e := 9) (v := .slice ga a gc) (n := a) (ad := adr _ 2 0) (m := 1) (cp := 1) (size := 1) (bytes := 16) (xs := (((SYN d).take (a)).map Value.string)) (news := [.string (synB d a)]) [rfSt d.b d.o d.S, rfWs d.c d.p d.W, rfIn cb co cs] S (by kernel_rfl) Try.underlying22 his1 his2 his3 his4 rfl (by omega) rfl rfl hO0 hsz (own2 (P := Try.prog) (ty := 9) (cs := [.string (synB d a)]) S (by kernel_rfl)) rfl (by intro u hu; simp only [List.mem_singleton] at hu; subst hu; rfl) (by simp only [maxLen]; omega) (by omega) (fun g hg => Or.inr (hO0.lt g hg).1) (fun f hf => ⟨List.mem_cons_of_mem _ hf, fun g hg => hold f hf g (hO0.lt g hg).1⟩) (fun i hi hb => hap i hi hb) fun v' aa w2 hO hg12 hnn S => ?_
  obtain ⟨ga2, gc2, rfl⟩ : ∃ ga2 gc2, v' = .slice ga2 (a + 1) gc2 := by
    rcases hO.2 with ⟨_, q⟩ | ⟨g2, cap2, cur2, rfl, _⟩
    · omega
    · exact ⟨some ⟨g2, 0, none⟩, cap2, rfl⟩
  have S := S.add (rfOwn w0.heap.size 9 1 (.slice ga2 (a + 1) gc2) (a + 1) (((SYN d).take (a + 1)).map Value.string)) (by
    show World.ownsRow _ _ _ _ _ _ _
    have hlen : a < (SYN d).length := by rw [SYN_len]; exact ha
    have e1 : (((SYN d).take (a + 1)).map Value.string) = (((SYN d).take (a)).map Value.string) ++ [Value.string (synB d a)] := by
      rw [List.take_succ_eq_append_getElem hlen, List.map_append]
      have e2 : (SYN d)[a] = synB d a := by rw [← SYN_at d a ha, List.getD, List.getElem?_eq_getElem hlen]; rfl
      rw [e2]; rfl
    rw [e1]; exact hO) (fun i hi hb => by rcases hnn _ hb with q | q; exact hap i hi q; have h1 := hltb i hi; omega)
  refine sy_run ⟨0, [4]⟩ 60 S fun bs aa w S => ?_
  refine sy_reg S fun S => ?_
  refine sy_ops 2 S fun bs aa w S => ?_
  refine sy_cast 17 S (congrArg (Value.int .i64) (by rw [IntKind.wrap_i64]; omega : IntKind.i64.wrap ((a : Int) + 1) = ((a + 1 : Nat) : Int))) (by kernel_rfl) fun S => ?_
  refine sy_run ⟨0, [999]⟩ 50 S fun bs aa w S => ?_
  have S := S.sub (F' := [(rfOwn w0.heap.size 9 1 (.slice ga2 (a + 1) gc2) (a + 1) (((SYN d).take (a + 1)).map Value.string)), rfSt d.b d.o d.S, rfWs d.c d.p d.W, rfIn cb co cs]) (by intro f hf; simp only [List.mem_cons, List.not_mem_nil, or_false] at hf; rcases hf with rfl | rfl | rfl | rfl <;> simp)
  have S2 := S.to [0, 1] (rc1S d ca cs.length cc (a + 1) ga2 gc2) (by kernel_rfl) (by kernel_rfl) (by kernel_rfl) (by kernel_rfl) (by kernel_rfl)
  refine sy_at2 (k' := (.rnd (m) (bodyL rc1) :: rc1.k.tail)) (by kernel_rfl) ?_
  exact ih ga2 gc2 _ _ aa w S2
theorem r1a (w0 : World) (d : Dk) (hd : d.ok) (hr : d.right) (ca : Option Addr) (cc cb co : Nat) (cs : List Int) (hca : cs.length = 0 ∨ ca = some ⟨cb, co, none⟩) (hold : ∀ f ∈ [rfSt d.b d.o d.S, rfWs d.c d.p d.W, rfIn cb co cs], ∀ g, w0.heap.size ≤ g → ¬f.bl g) : ∀ (r a : Nat), a + r = d.sl → ∀ (ga : Option Addr) (gc : Nat) (x0 x1 : Nat) (aa : Act) (w : World) (S : Sy w0 [] [x0, x1] (rc1S d ca cs.length cc (a) ga gc) [(rfOwn w0.heap.size 9 1 (.slice ga (a) gc) (a) (((SYN d).take (a)).map Value.string)), rfSt d.b d.o d.S, rfWs d.c d.p d.W, rfIn cb co cs] aa w), post Try.prog (.rnd (r + 1) (bodyL rc1) :: rc1.k.tail) (bodyPost Try.prog Try.f22 fun e w' => ∃ d' : Dk, e = .returned d'.v ∧ Dev w0.heap.size w' d' (crA d.W cs (PUT d) d.tl (SYN d)) [] ∧ Below w0.heap.size w0 w') .normal aa w := by
  intro r
  induction r with
  | zero => intro a ha ga gc x0 x1 aa w S; obtain rfl : a = d.sl := by omega
            exact r1e w0 d hd hr ca cc cb co cs hca hold 0 ga gc x0 x1 aa w S
  | succ r ih => intro a ha ga gc x0 x1 aa w S; exact r1s w0 d hd hr ca cc cb co cs hca hold (r + 1) a (by omega) (ih (a + 1) (by omega)) ga gc x0 x1 aa w S
set_option maxHeartbeats 8000000 in
theorem rcrash_t (w0 : World) (d : Dk) (hd : d.ok) (hr : d.right) (ca : Option Addr) (cc cb co : Nat) (cs : List Int) (hca : cs.length = 0 ∨ ca = some ⟨cb, co, none⟩) (hA : StrAt w0 d.b d.o d.S) (hB : WasAt w0 d.c d.p d.W) (hC : IntsAt w0 cb co cs) : Calls Try.prog 22 #[d.v, .slice ca cs.length cc] w0 fun e w' => ∃ d' : Dk, e = .returned d'.v ∧ Dev w0.heap.size w' d' (crS d cs) [] ∧ Below w0.heap.size w0 w' := by
  have hold : ∀ f ∈ [rfSt d.b d.o d.S, rfWs d.c d.p d.W, rfIn cb co cs], ∀ g, w0.heap.size ≤ g → ¬f.bl g := by
    intro f hf g hg hb
    have hl : g < w0.heap.size := by
      simp only [List.mem_cons, List.not_mem_nil, or_false] at hf
      rcases hf with rfl | rfl | rfl
      · exact (rfSt d.b d.o d.S).lt w0 hA g hb
      · exact (rfWs d.c d.p d.W).lt w0 hB g hb
      · exact (rfIn cb co cs).lt w0 hC g hb
    omega
  rw [crS_ref d hd hr cs]
  refine sy_enterF [] [rfSt d.b d.o d.S, rfWs d.c d.p d.W, rfIn cb co cs] (by intro f hf; simp only [List.mem_cons, List.not_mem_nil, or_false] at hf; rcases hf with rfl | rfl | rfl; exact hA; exact hB; exact hC) Try.func22 rfl rfl fun aa S => ?_
  refine sy_run ⟨0, []⟩ 60 S fun bs aa w S => ?_
  have S := S.add (rfOwn w0.heap.size 9 1 (.slice none (0) 0) (0) (((SYN d).take (0)).map Value.string)) (World.ownsRow_nil _ _ _ _) (fun i hi h => by cases h)
  have S2 := S.to [0, 1] (rc1S d ca cs.length cc 0 none 0) (by kernel_rfl) (by kernel_rfl) (by kernel_rfl) (by kernel_rfl) (by kernel_rfl)
  refine sy_loop (d.sl + 1) (by kernel_rfl) ?_
  refine sy_at2 (k' := (.rnd (d.sl + 1) (bodyL rc1) :: rc1.k.tail)) (by kernel_rfl) ?_
  exact r1a w0 d hd hr ca cc cb co cs hca hold d.sl 0 (by omega) none 0 _ _ aa w S2
end Go.Proofs.Ytnlcjlhcghgaoaa


/-
  Layer 22: a crash tears bytes.
-/
namespace Go.Proofs.Ytnlcjlhcghgaoaa
open Go Go.RowKit SZ
set_option linter.unusedVariables false
set_option linter.unusedSimpArgs false
set_option maxRecDepth 100000
attribute [local irreducible] post GD Nxt NxtAll
noncomputable def tb1 : Cfg := ⟨goZ 60 [0] [.code (bodyOf Try.f6)], ⟨0, [], []⟩⟩
noncomputable def tbo : Cfg := ⟨goZ 90 [0, 9] [.code (bodyOf Try.f6)], ⟨0, [], []⟩⟩
noncomputable def tbk (M : Nat) : Cfg := ⟨goZ 90 [1, 0] (.code (bodyL tbo) :: .rnd M (bodyL tbo) :: tbo.k.tail), ⟨0, [], []⟩⟩
noncomputable def tbi (M N : Nat) : Cfg := ⟨goZ 90 [1] (.code (bodyL (tbk M)) :: .rnd N (bodyL (tbk M)) :: (tbk M).k.tail), ⟨0, [], []⟩⟩
noncomputable def tboS (k a b0 : Nat) (DD : List (Int × ByteArray)) (ga ga2 : Option Addr) (gc gc2 : Nat) (d2 dC : Dk) : SS := ⟨168, [(7, .v (.bool true)), (8, .v (.int .i64 ((k + 1 : Nat) : Int))), (10, .v (.slice ga DD.length gc)), (11, .v (.bool true)), (14, .p 0 0), (15, .v (.slice ga2 b0 gc2)), (17, .p 1 0), (18, .v (.int .i64 (a : Int)))], [⟨25, d2.cs⟩, ⟨25, dC.cs⟩]⟩
noncomputable def tbkS (k a b0 q : Nat) (DD : List (Int × ByteArray)) (ga ga2 : Option Addr) (gc gc2 : Nat) (d2 dC : Dk) (s o : ByteArray) : SS := ⟨168, [(7, .v (.bool true)), (8, .v (.int .i64 ((k + 1 : Nat) : Int))), (10, .v (.slice ga DD.length gc)), (11, .v (.bool true)), (14, .p 0 0), (15, .v (.slice ga2 b0 gc2)), (17, .p 1 0), (18, .v (.int .i64 (a : Int))), (19, .v (.string s)), (21, .v (.string o)), (23, .v (.int .i64 (q : Int)))], [⟨25, d2.cs⟩, ⟨25, dC.cs⟩]⟩
noncomputable def tbiS (k a b0 q i : Nat) (DD : List (Int × ByteArray)) (ga ga2 : Option Addr) (gc gc2 : Nat) (d2 dC : Dk) (s o : ByteArray) (b : Bool) : SS := ⟨168, [(7, .v (.bool true)), (8, .v (.int .i64 ((k + 1 : Nat) : Int))), (10, .v (.slice ga DD.length gc)), (11, .v (.bool true)), (14, .p 0 0), (15, .v (.slice ga2 b0 gc2)), (17, .p 1 0), (18, .v (.int .i64 (a : Int))), (19, .v (.string s)), (21, .v (.string o)), (23, .v (.int .i64 (q : Int))), (24, .v (.bool b)), (25, .v (.int .i64 (i : Int)))], [⟨25, d2.cs⟩, ⟨25, dC.cs⟩]⟩
set_option maxHeartbeats 8000000 in
theorem ti_tt (w0 : World) (k : Nat) (hk : k < 6) (d2 dC : Dk) (h2 : d2.ok) (hC : dC.ok) (hrC : dC.right) (hs2 : d2.sl = k + 1) (hsC : dC.sl = k + 1) (htC : dC.tl = 0) (DD : List (Int × ByteArray)) (hdl : DD.length ≤ 40) (b0 : Nat) (hb0 : b0 ≤ DD.length) (hsz : ∀ a, a < k + 1 → (dC.S.getD a ByteArray.empty).size = 32 ∧ (d2.S.getD a ByteArray.empty).size = 32) (hr : ∀ i, i < DD.length → (DD.getD i (0, ByteArray.empty)).2.size = 32) (hT : ∀ a q, a < k + 1 → q < 32 → isA (dC.S.getD a ByteArray.empty) (d2.S.getD a ByteArray.empty) DD a q b0 (DD.length - b0) = true) (ga ga2 : Option Addr) (gc gc2 g : Nat) (hg : DD.length = 0 ∨ ga = some ⟨g, 0, none⟩) (M N a q i : Nat) (m : Nat) (ha : a < k + 1) (hq : q < 32) (hi : i < DD.length) (hbi : b0 ≤ i)  (ih : ∀ (b : Bool) (hb : b = isA (dC.S.getD a ByteArray.empty) (d2.S.getD a ByteArray.empty) DD a q b0 ((i + 1) - b0)) (x0 x1 : Nat) (aa : Act) (w : World) (S : Sy w0 [] [x0, x1] (tbiS k a b0 q ((i + 1)) DD ga ga2 gc gc2 d2 dC (dC.S.getD a ByteArray.empty) (d2.S.getD a ByteArray.empty) b) [rfSt d2.b d2.o d2.S, rfSt dC.b dC.o dC.S, rfWs g 0 DD, rfWs dC.c dC.p dC.W] aa w), post Try.prog (.rnd (m) (bodyL (tbi M N)) :: (tbi M N).k.tail) (bodyPost Try.prog Try.f6 fun e w' => e = .returned (.bool true) ∧ Below w0.heap.size w0 w') .normal aa w) (hb : true = isA (dC.S.getD a ByteArray.empty) (d2.S.getD a ByteArray.empty) DD a q b0 (i - b0)) (x0 x1 : Nat) (aa : Act) (w : World) (S : Sy w0 [] [x0, x1] (tbiS k a b0 q (i) DD ga ga2 gc gc2 d2 dC (dC.S.getD a ByteArray.empty) (d2.S.getD a ByteArray.empty) true) [rfSt d2.b d2.o d2.S, rfSt dC.b dC.o dC.S, rfWs g 0 DD, rfWs dC.c dC.p dC.W] aa w) : post Try.prog (.rnd (m + 1) (bodyL (tbi M N)) :: (tbi M N).k.tail) (bodyPost Try.prog Try.f6 fun e w' => e = .returned (.bool true) ∧ Below w0.heap.size w0 w') .normal aa w := by
  obtain rfl := hg.resolve_left (by omega)
  have eI : i + 1 - b0 = (i - b0) + 1 := by omega
  have eB : b0 + (i - b0) = i := by omega
  refine sy_run (c := ⟨(.rnd (m + 1) (bodyL (tbi M N)) :: (tbi M N).k.tail), tbiS k a b0 q (i) DD (some ⟨g, 0, none⟩) ga2 gc gc2 d2 dC (dC.S.getD a ByteArray.empty) (d2.S.getD a ByteArray.empty) true⟩) ⟨0, [26]⟩ 50 S fun bs aa w S => ?_
  refine sy_reg S fun S => ?_
  refine sy_ops 4 S fun bs aa w S => ?_
  refine sy_cast 126 S (congrArg Value.bool (decide_eq_true (by omega) : decide ((i : Int) < (DD.length : Int)) = true)) (by kernel_rfl) fun S => ?_
  refine sy_run ⟨0, []⟩ 60 S fun bs aa w S => ?_
  refine dr_enter [] (by kernel_rfl) (by kernel_rfl) S (by kernel_rfl) (fun aa w D => ?_)
  refine dr_end D (by kernel_rfl) fun S => ?_
  refine sy_run ⟨0, [27]⟩ 60 S fun bs aa w S => ?_
  refine sy_reg S fun S => ?_
  refine sy_ops 2 S fun bs aa w S => ?_
  refine sy_cast 128 S (congrArg (Value.int .i64) (by rw [IntKind.wrap_i64]; omega : IntKind.i64.wrap ((i : Int) + 1) = ((i + 1 : Nat) : Int))) (by kernel_rfl) fun S => ?_
  refine sy_run ⟨0, [999]⟩ 50 S fun bs aa w S => ?_
  have S2 := S.to [0, 1] (tbiS k a b0 q (i + 1) DD (some ⟨g, 0, none⟩) ga2 gc gc2 d2 dC (dC.S.getD a ByteArray.empty) (d2.S.getD a ByteArray.empty) true) (by kernel_rfl) (by kernel_rfl) (by kernel_rfl) (by kernel_rfl) (by kernel_rfl)
  refine sy_at2 (k' := (.rnd (m) (bodyL (tbi M N)) :: (tbi M N).k.tail)) (by kernel_rfl) ?_
  exact ih true (by rw [eI, isA, ← hb]; rfl) _ _ aa w S2
set_option maxHeartbeats 8000000 in
theorem ti_ne (w0 : World) (k : Nat) (hk : k < 6) (d2 dC : Dk) (h2 : d2.ok) (hC : dC.ok) (hrC : dC.right) (hs2 : d2.sl = k + 1) (hsC : dC.sl = k + 1) (htC : dC.tl = 0) (DD : List (Int × ByteArray)) (hdl : DD.length ≤ 40) (b0 : Nat) (hb0 : b0 ≤ DD.length) (hsz : ∀ a, a < k + 1 → (dC.S.getD a ByteArray.empty).size = 32 ∧ (d2.S.getD a ByteArray.empty).size = 32) (hr : ∀ i, i < DD.length → (DD.getD i (0, ByteArray.empty)).2.size = 32) (hT : ∀ a q, a < k + 1 → q < 32 → isA (dC.S.getD a ByteArray.empty) (d2.S.getD a ByteArray.empty) DD a q b0 (DD.length - b0) = true) (ga ga2 : Option Addr) (gc gc2 g : Nat) (hg : DD.length = 0 ∨ ga = some ⟨g, 0, none⟩) (M N a q i : Nat) (m : Nat) (ha : a < k + 1) (hq : q < 32) (hi : i < DD.length) (hbi : b0 ≤ i) (he : (DD.getD i (0, ByteArray.empty)).1 ≠ (a : Int)) (ih : ∀ (b : Bool) (hb : b = isA (dC.S.getD a ByteArray.empty) (d2.S.getD a ByteArray.empty) DD a q b0 ((i + 1) - b0)) (x0 x1 : Nat) (aa : Act) (w : World) (S : Sy w0 [] [x0, x1] (tbiS k a b0 q ((i + 1)) DD ga ga2 gc gc2 d2 dC (dC.S.getD a ByteArray.empty) (d2.S.getD a ByteArray.empty) b) [rfSt d2.b d2.o d2.S, rfSt dC.b dC.o dC.S, rfWs g 0 DD, rfWs dC.c dC.p dC.W] aa w), post Try.prog (.rnd (m) (bodyL (tbi M N)) :: (tbi M N).k.tail) (bodyPost Try.prog Try.f6 fun e w' => e = .returned (.bool true) ∧ Below w0.heap.size w0 w') .normal aa w) (hb : false = isA (dC.S.getD a ByteArray.empty) (d2.S.getD a ByteArray.empty) DD a q b0 (i - b0)) (x0 x1 : Nat) (aa : Act) (w : World) (S : Sy w0 [] [x0, x1] (tbiS k a b0 q (i) DD ga ga2 gc gc2 d2 dC (dC.S.getD a ByteArray.empty) (d2.S.getD a ByteArray.empty) false) [rfSt d2.b d2.o d2.S, rfSt dC.b dC.o dC.S, rfWs g 0 DD, rfWs dC.c dC.p dC.W] aa w) : post Try.prog (.rnd (m + 1) (bodyL (tbi M N)) :: (tbi M N).k.tail) (bodyPost Try.prog Try.f6 fun e w' => e = .returned (.bool true) ∧ Below w0.heap.size w0 w') .normal aa w := by
  obtain rfl := hg.resolve_left (by omega)
  have eI : i + 1 - b0 = (i - b0) + 1 := by omega
  have eB : b0 + (i - b0) = i := by omega
  refine sy_run (c := ⟨(.rnd (m + 1) (bodyL (tbi M N)) :: (tbi M N).k.tail), tbiS k a b0 q (i) DD (some ⟨g, 0, none⟩) ga2 gc gc2 d2 dC (dC.S.getD a ByteArray.empty) (d2.S.getD a ByteArray.empty) false⟩) ⟨0, [26]⟩ 50 S fun bs aa w S => ?_
  refine sy_reg S fun S => ?_
  refine sy_ops 4 S fun bs aa w S => ?_
  refine sy_cast 126 S (congrArg Value.bool (decide_eq_true (by omega) : decide ((i : Int) < (DD.length : Int)) = true)) (by kernel_rfl) fun S => ?_
  refine sy_run ⟨0, []⟩ 60 S fun bs aa w S => ?_
  letI : KP := ⟨[137]⟩
  letI : HF := ⟨[rfWs g 0 DD]⟩
  refine dr_enter [] (by kernel_rfl) (by kernel_rfl) S (by kernel_rfl) (fun aa w D => ?_) (fun f hf => by have e : f = rfWs g 0 DD := List.mem_singleton.1 hf; subst e; simp)
  refine dr_tix 4 D (by kernel_rfl) (by kernel_rfl) (by kernel_rfl) (b := g) (off := 0) (len := DD.length) (n := i) (size := 2) (ix := (i : Int)) (by kernel_rfl) rfl hi fun aa D => ?_
  refine dr_tld 6 D (by kernel_rfl) (by kernel_rfl) (by kernel_rfl) (ty := 3) (ad := ⟨g, 0 + i * 2, none⟩) (v := .int .i64 (DD.getD i (0, ByteArray.empty)).1) (fun W hW => ld_at (by kernel_rfl) ((show WasAt W g 0 DD from hW _ (List.mem_singleton.2 rfl)) i hi).1) (by kernel_rfl) fun aa D => ?_
  refine dr_ex2 (fun d v c a w h => by cases d <;> exact h) 8 (op := .binOp .eql 3 (.tmp 135) (.tmp 136) 3) (ty := 4) (v := .bool false) D (by kernel_rfl) (by kernel_rfl) (by kernel_rfl) (by kernel_rfl) (ex_eqI (ki := .i64) (p := (DD.getD i (0, ByteArray.empty)).1) (q := (a : Int)) (by kernel_rfl) (by kernel_rfl) (decide_eq_false he)) fun aa D => ?_
  refine dr_end D (by kernel_rfl) fun S => ?_
  refine sy_run ⟨0, [27]⟩ 60 S fun bs aa w S => ?_
  refine sy_reg S fun S => ?_
  refine sy_ops 2 S fun bs aa w S => ?_
  refine sy_cast 128 S (congrArg (Value.int .i64) (by rw [IntKind.wrap_i64]; omega : IntKind.i64.wrap ((i : Int) + 1) = ((i + 1 : Nat) : Int))) (by kernel_rfl) fun S => ?_
  refine sy_run ⟨0, [999]⟩ 50 S fun bs aa w S => ?_
  have S2 := S.to [0, 1] (tbiS k a b0 q (i + 1) DD (some ⟨g, 0, none⟩) ga2 gc gc2 d2 dC (dC.S.getD a ByteArray.empty) (d2.S.getD a ByteArray.empty) false) (by kernel_rfl) (by kernel_rfl) (by kernel_rfl) (by kernel_rfl) (by kernel_rfl)
  refine sy_at2 (k' := (.rnd (m) (bodyL (tbi M N)) :: (tbi M N).k.tail)) (by kernel_rfl) ?_
  exact ih false (by rw [eI, isA, ← hb, eB, decide_eq_false he]; rfl) _ _ aa w S2
set_option maxHeartbeats 8000000 in
theorem ti_eq (w0 : World) (k : Nat) (hk : k < 6) (d2 dC : Dk) (h2 : d2.ok) (hC : dC.ok) (hrC : dC.right) (hs2 : d2.sl = k + 1) (hsC : dC.sl = k + 1) (htC : dC.tl = 0) (DD : List (Int × ByteArray)) (hdl : DD.length ≤ 40) (b0 : Nat) (hb0 : b0 ≤ DD.length) (hsz : ∀ a, a < k + 1 → (dC.S.getD a ByteArray.empty).size = 32 ∧ (d2.S.getD a ByteArray.empty).size = 32) (hr : ∀ i, i < DD.length → (DD.getD i (0, ByteArray.empty)).2.size = 32) (hT : ∀ a q, a < k + 1 → q < 32 → isA (dC.S.getD a ByteArray.empty) (d2.S.getD a ByteArray.empty) DD a q b0 (DD.length - b0) = true) (ga ga2 : Option Addr) (gc gc2 g : Nat) (hg : DD.length = 0 ∨ ga = some ⟨g, 0, none⟩) (M N a q i : Nat) (m : Nat) (ha : a < k + 1) (hq : q < 32) (hi : i < DD.length) (hbi : b0 ≤ i) (he : (DD.getD i (0, ByteArray.empty)).1 = (a : Int)) (ih : ∀ (b : Bool) (hb : b = isA (dC.S.getD a ByteArray.empty) (d2.S.getD a ByteArray.empty) DD a q b0 ((i + 1) - b0)) (x0 x1 : Nat) (aa : Act) (w : World) (S : Sy w0 [] [x0, x1] (tbiS k a b0 q ((i + 1)) DD ga ga2 gc gc2 d2 dC (dC.S.getD a ByteArray.empty) (d2.S.getD a ByteArray.empty) b) [rfSt d2.b d2.o d2.S, rfSt dC.b dC.o dC.S, rfWs g 0 DD, rfWs dC.c dC.p dC.W] aa w), post Try.prog (.rnd (m) (bodyL (tbi M N)) :: (tbi M N).k.tail) (bodyPost Try.prog Try.f6 fun e w' => e = .returned (.bool true) ∧ Below w0.heap.size w0 w') .normal aa w) (hb : false = isA (dC.S.getD a ByteArray.empty) (d2.S.getD a ByteArray.empty) DD a q b0 (i - b0)) (x0 x1 : Nat) (aa : Act) (w : World) (S : Sy w0 [] [x0, x1] (tbiS k a b0 q (i) DD ga ga2 gc gc2 d2 dC (dC.S.getD a ByteArray.empty) (d2.S.getD a ByteArray.empty) false) [rfSt d2.b d2.o d2.S, rfSt dC.b dC.o dC.S, rfWs g 0 DD, rfWs dC.c dC.p dC.W] aa w) : post Try.prog (.rnd (m + 1) (bodyL (tbi M N)) :: (tbi M N).k.tail) (bodyPost Try.prog Try.f6 fun e w' => e = .returned (.bool true) ∧ Below w0.heap.size w0 w') .normal aa w := by
  obtain rfl := hg.resolve_left (by omega)
  have eI : i + 1 - b0 = (i - b0) + 1 := by omega
  have eB : b0 + (i - b0) = i := by omega
  refine sy_run (c := ⟨(.rnd (m + 1) (bodyL (tbi M N)) :: (tbi M N).k.tail), tbiS k a b0 q (i) DD (some ⟨g, 0, none⟩) ga2 gc gc2 d2 dC (dC.S.getD a ByteArray.empty) (d2.S.getD a ByteArray.empty) false⟩) ⟨0, [26]⟩ 50 S fun bs aa w S => ?_
  refine sy_reg S fun S => ?_
  refine sy_ops 4 S fun bs aa w S => ?_
  refine sy_cast 126 S (congrArg Value.bool (decide_eq_true (by omega) : decide ((i : Int) < (DD.length : Int)) = true)) (by kernel_rfl) fun S => ?_
  refine sy_run ⟨0, []⟩ 60 S fun bs aa w S => ?_
  letI : KP := ⟨[137, 141, 148]⟩
  letI : HF := ⟨[rfWs g 0 DD]⟩
  refine dr_enter [] (by kernel_rfl) (by kernel_rfl) S (by kernel_rfl) (fun aa w D => ?_) (fun f hf => by have e : f = rfWs g 0 DD := List.mem_singleton.1 hf; subst e; simp)
  refine dr_tix 4 D (by kernel_rfl) (by kernel_rfl) (by kernel_rfl) (b := g) (off := 0) (len := DD.length) (n := i) (size := 2) (ix := (i : Int)) (by kernel_rfl) rfl hi fun aa D => ?_
  refine dr_tld 6 D (by kernel_rfl) (by kernel_rfl) (by kernel_rfl) (ty := 3) (ad := ⟨g, 0 + i * 2, none⟩) (v := .int .i64 (DD.getD i (0, ByteArray.empty)).1) (fun W hW => ld_at (by kernel_rfl) ((show WasAt W g 0 DD from hW _ (List.mem_singleton.2 rfl)) i hi).1) (by kernel_rfl) fun aa D => ?_
  refine dr_ex2 (fun d v c a w h => by cases d <;> exact h) 8 (op := .binOp .eql 3 (.tmp 135) (.tmp 136) 3) (ty := 4) (v := .bool true) D (by kernel_rfl) (by kernel_rfl) (by kernel_rfl) (by kernel_rfl) (ex_eqI (ki := .i64) (p := (DD.getD i (0, ByteArray.empty)).1) (q := (a : Int)) (by kernel_rfl) (by kernel_rfl) (decide_eq_true he)) fun aa D => ?_
  refine dr_ex2 (fun d v c a w h => by cases d <;> exact h) 12 (op := .index 9 (.tmp 139) (.tmp 140)) (ty := 5) (v := .int .u8 ((byt (dC.S.getD a ByteArray.empty) q : Nat) : Int)) D (by kernel_rfl) (by kernel_rfl) (by kernel_rfl) (by kernel_rfl) (ex_ix (p := (dC.S.getD a ByteArray.empty)) (k := q) Try.underlying9 (by kernel_rfl) (by kernel_rfl) (by rw [(hsz a ha).1]; exact hq)) fun aa D => ?_
  refine dr_tix 15 D (by kernel_rfl) (by kernel_rfl) (by kernel_rfl) (b := g) (off := 0) (len := DD.length) (n := i) (size := 2) (ix := (i : Int)) (by kernel_rfl) rfl hi fun aa D => ?_
  refine dr_tld 17 D (by kernel_rfl) (by kernel_rfl) (by kernel_rfl) (ty := 9) (ad := ⟨g, 0 + i * 2 + 1, none⟩) (v := .string (DD.getD i (0, ByteArray.empty)).2) (fun W hW => ld_at (by kernel_rfl) ((show WasAt W g 0 DD from hW _ (List.mem_singleton.2 rfl)) i hi).2) (by kernel_rfl) fun aa D => ?_
  refine dr_ex2 (fun d v c a w h => by cases d <;> exact h) 19 (op := .index 9 (.tmp 146) (.tmp 147)) (ty := 5) (v := .int .u8 ((byt (DD.getD i (0, ByteArray.empty)).2 q : Nat) : Int)) D (by kernel_rfl) (by kernel_rfl) (by kernel_rfl) (by kernel_rfl) (ex_ix (p := (DD.getD i (0, ByteArray.empty)).2) (k := q) Try.underlying9 (by kernel_rfl) (by kernel_rfl) (by rw [hr i hi]; exact hq)) fun aa D => ?_
  refine dr_end D (by kernel_rfl) fun S => ?_
  refine sy_run ⟨0, [27]⟩ 60 S fun bs aa w S => ?_
  refine sy_reg S fun S => ?_
  refine sy_ops 2 S fun bs aa w S => ?_
  refine sy_cast 128 S (congrArg (Value.int .i64) (by rw [IntKind.wrap_i64]; omega : IntKind.i64.wrap ((i : Int) + 1) = ((i + 1 : Nat) : Int))) (by kernel_rfl) fun S => ?_
  refine sy_run ⟨0, [999]⟩ 50 S fun bs aa w S => ?_
  have S2 := S.to [0, 1] (tbiS k a b0 q (i + 1) DD (some ⟨g, 0, none⟩) ga2 gc gc2 d2 dC (dC.S.getD a ByteArray.empty) (d2.S.getD a ByteArray.empty) (decide (((byt (dC.S.getD a ByteArray.empty) q : Nat) : Int) = ((byt (DD.getD i (0, ByteArray.empty)).2 q : Nat) : Int)))) (by kernel_rfl) (by kernel_rfl) (by kernel_rfl) (by kernel_rfl) (by kernel_rfl)
  refine sy_at2 (k' := (.rnd (m) (bodyL (tbi M N)) :: (tbi M N).k.tail)) (by kernel_rfl) ?_
  exact ih (decide (((byt (dC.S.getD a ByteArray.empty) q : Nat) : Int) = ((byt (DD.getD i (0, ByteArray.empty)).2 q : Nat) : Int))) (by rw [eI, isA, ← hb, eB, decide_eq_true he]; simp) _ _ aa w S2
set_option maxHeartbeats 8000000 in
theorem ti_end (w0 : World) (k : Nat) (hk : k < 6) (d2 dC : Dk) (h2 : d2.ok) (hC : dC.ok) (hrC : dC.right) (hs2 : d2.sl = k + 1) (hsC : dC.sl = k + 1) (htC : dC.tl = 0) (DD : List (Int × ByteArray)) (hdl : DD.length ≤ 40) (b0 : Nat) (hb0 : b0 ≤ DD.length) (hsz : ∀ a, a < k + 1 → (dC.S.getD a ByteArray.empty).size = 32 ∧ (d2.S.getD a ByteArray.empty).size = 32) (hr : ∀ i, i < DD.length → (DD.getD i (0, ByteArray.empty)).2.size = 32) (hT : ∀ a q, a < k + 1 → q < 32 → isA (dC.S.getD a ByteArray.empty) (d2.S.getD a ByteArray.empty) DD a q b0 (DD.length - b0) = true) (ga ga2 : Option Addr) (gc gc2 g : Nat) (hg : DD.length = 0 ∨ ga = some ⟨g, 0, none⟩) (M N a q : Nat) (m : Nat) (ha : a < k + 1) (hq : q < 32) (ihK : ∀ (x0 x1 : Nat) (aa : Act) (w : World) (S : Sy w0 [] [x0, x1] (tbkS k (a) b0 (q + 1) DD ga ga2 gc gc2 d2 dC (dC.S.getD (a) ByteArray.empty) (d2.S.getD (a) ByteArray.empty)) [rfSt d2.b d2.o d2.S, rfSt dC.b dC.o dC.S, rfWs g 0 DD, rfWs dC.c dC.p dC.W] aa w), post Try.prog (.rnd (N) (bodyL (tbk M)) :: (tbk M).k.tail) (bodyPost Try.prog Try.f6 fun e w' => e = .returned (.bool true) ∧ Below w0.heap.size w0 w') .normal aa w) (b : Bool) (hb : b = isA (dC.S.getD a ByteArray.empty) (d2.S.getD a ByteArray.empty) DD a q b0 (DD.length - b0)) (x0 x1 : Nat) (aa : Act) (w : World) (S : Sy w0 [] [x0, x1] (tbiS k a b0 q (DD.length) DD ga ga2 gc gc2 d2 dC (dC.S.getD a ByteArray.empty) (d2.S.getD a ByteArray.empty) b) [rfSt d2.b d2.o d2.S, rfSt dC.b dC.o dC.S, rfWs g 0 DD, rfWs dC.c dC.p dC.W] aa w) : post Try.prog (.rnd (m + 1) (bodyL (tbi M N)) :: (tbi M N).k.tail) (bodyPost Try.prog Try.f6 fun e w' => e = .returned (.bool true) ∧ Below w0.heap.size w0 w') .normal aa w := by
  obtain rfl : b = true := hb.trans (hT a q ha hq)
  refine sy_run (c := ⟨(.rnd (m + 1) (bodyL (tbi M N)) :: (tbi M N).k.tail), tbiS k a b0 q (DD.length) DD ga ga2 gc gc2 d2 dC (dC.S.getD a ByteArray.empty) (d2.S.getD a ByteArray.empty) true⟩) ⟨0, [26]⟩ 50 S fun bs aa w S => ?_
  refine sy_reg S fun S => ?_
  refine sy_ops 4 S fun bs aa w S => ?_
  refine sy_cast 126 S (congrArg Value.bool (decide_eq_false (by omega) : decide ((DD.length : Int) < (DD.length : Int)) = false)) (by kernel_rfl) fun S => ?_
  refine sy_run ⟨0, [23]⟩ 60 S fun bs aa w S => ?_
  refine sy_reg S fun S => ?_
  refine sy_ops 2 S fun bs aa w S => ?_
  refine sy_cast 113 S (congrArg (Value.int .i64) (by rw [IntKind.wrap_i64]; omega : IntKind.i64.wrap ((q : Int) + 1) = ((q + 1 : Nat) : Int))) (by kernel_rfl) fun S => ?_
  refine sy_run ⟨0, [999]⟩ 50 S fun bs aa w S => ?_
  have S2 := S.to [0, 1] (tbkS k (a) b0 (q + 1) DD ga ga2 gc gc2 d2 dC (dC.S.getD (a) ByteArray.empty) (d2.S.getD (a) ByteArray.empty)) (by kernel_rfl) (by kernel_rfl) (by kernel_rfl) (by kernel_rfl) (by kernel_rfl)
  refine sy_at2 (k' := (.rnd (N) (bodyL (tbk M)) :: (tbk M).k.tail)) (by kernel_rfl) ?_
  exact ihK _ _ aa w S2
theorem ti_all (w0 : World) (k : Nat) (hk : k < 6) (d2 dC : Dk) (h2 : d2.ok) (hC : dC.ok) (hrC : dC.right) (hs2 : d2.sl = k + 1) (hsC : dC.sl = k + 1) (htC : dC.tl = 0) (DD : List (Int × ByteArray)) (hdl : DD.length ≤ 40) (b0 : Nat) (hb0 : b0 ≤ DD.length) (hsz : ∀ a, a < k + 1 → (dC.S.getD a ByteArray.empty).size = 32 ∧ (d2.S.getD a ByteArray.empty).size = 32) (hr : ∀ i, i < DD.length → (DD.getD i (0, ByteArray.empty)).2.size = 32) (hT : ∀ a q, a < k + 1 → q < 32 → isA (dC.S.getD a ByteArray.empty) (d2.S.getD a ByteArray.empty) DD a q b0 (DD.length - b0) = true) (ga ga2 : Option Addr) (gc gc2 g : Nat) (hg : DD.length = 0 ∨ ga = some ⟨g, 0, none⟩) (M N a q : Nat) (ha : a < k + 1) (hq : q < 32) (ihK : ∀ (x0 x1 : Nat) (aa : Act) (w : World) (S : Sy w0 [] [x0, x1] (tbkS k (a) b0 (q + 1) DD ga ga2 gc gc2 d2 dC (dC.S.getD (a) ByteArray.empty) (d2.S.getD (a) ByteArray.empty)) [rfSt d2.b d2.o d2.S, rfSt dC.b dC.o dC.S, rfWs g 0 DD, rfWs dC.c dC.p dC.W] aa w), post Try.prog (.rnd (N) (bodyL (tbk M)) :: (tbk M).k.tail) (bodyPost Try.prog Try.f6 fun e w' => e = .returned (.bool true) ∧ Below w0.heap.size w0 w') .normal aa w) : ∀ (r i : Nat), i + r = DD.length → b0 ≤ i → ∀ (b : Bool) (hb : b = isA (dC.S.getD a ByteArray.empty) (d2.S.getD a ByteArray.empty) DD a q b0 (i - b0)) (x0 x1 : Nat) (aa : Act) (w : World) (S : Sy w0 [] [x0, x1] (tbiS k a b0 q (i) DD ga ga2 gc gc2 d2 dC (dC.S.getD a ByteArray.empty) (d2.S.getD a ByteArray.empty) b) [rfSt d2.b d2.o d2.S, rfSt dC.b dC.o dC.S, rfWs g 0 DD, rfWs dC.c dC.p dC.W] aa w), post Try.prog (.rnd (r + 1) (bodyL (tbi M N)) :: (tbi M N).k.tail) (bodyPost Try.prog Try.f6 fun e w' => e = .returned (.bool true) ∧ Below w0.heap.size w0 w') .normal aa w := by
  intro r
  induction r with
  | zero => intro i hi hbi b hb x0 x1 aa w S; obtain rfl : i = DD.length := by omega
            exact ti_end w0 k hk d2 dC h2 hC hrC hs2 hsC htC DD hdl b0 hb0 hsz hr hT ga ga2 gc gc2 g hg M N a q 0 ha hq ihK b hb x0 x1 aa w S
  | succ r ih =>
    intro i hi hbi b hb x0 x1 aa w S
    cases b with
    | true => exact ti_tt w0 k hk d2 dC h2 hC hrC hs2 hsC htC DD hdl b0 hb0 hsz hr hT ga ga2 gc gc2 g hg M N a q i (r + 1) ha hq (by omega) hbi (ih (i + 1) (by omega) (by omega)) hb x0 x1 aa w S
    | false =>
      by_cases he : (DD.getD i (0, ByteArray.empty)).1 = (a : Int)
      · exact ti_eq w0 k hk d2 dC h2 hC hrC hs2 hsC htC DD hdl b0 hb0 hsz hr hT ga ga2 gc gc2 g hg M N a q i (r + 1) ha hq (by omega) hbi he (ih (i + 1) (by omega) (by omega)) hb x0 x1 aa w S
      · exact ti_ne w0 k hk d2 dC h2 hC hrC hs2 hsC htC DD hdl b0 hb0 hsz hr hT ga ga2 gc gc2 g hg M N a q i (r + 1) ha hq (by omega) hbi he (ih (i + 1) (by omega) (by omega)) hb x0 x1 aa w S
set_option maxHeartbeats 8000000 in
theorem tk_step (w0 : World) (k : Nat) (hk : k < 6) (d2 dC : Dk) (h2 : d2.ok) (hC : dC.ok) (hrC : dC.right) (hs2 : d2.sl = k + 1) (hsC : dC.sl = k + 1) (htC : dC.tl = 0) (DD : List (Int × ByteArray)) (hdl : DD.length ≤ 40) (b0 : Nat) (hb0 : b0 ≤ DD.length) (hsz : ∀ a, a < k + 1 → (dC.S.getD a ByteArray.empty).size = 32 ∧ (d2.S.getD a ByteArray.empty).size = 32) (hr : ∀ i, i < DD.length → (DD.getD i (0, ByteArray.empty)).2.size = 32) (hT : ∀ a q, a < k + 1 → q < 32 → isA (dC.S.getD a ByteArray.empty) (d2.S.getD a ByteArray.empty) DD a q b0 (DD.length - b0) = true) (ga ga2 : Option Addr) (gc gc2 g : Nat) (hg : DD.length = 0 ∨ ga = some ⟨g, 0, none⟩) (M N a q : Nat) (ha : a < k + 1) (hq : q < 32) (ihK : ∀ (x0 x1 : Nat) (aa : Act) (w : World) (S : Sy w0 [] [x0, x1] (tbkS k (a) b0 (q + 1) DD ga ga2 gc gc2 d2 dC (dC.S.getD (a) ByteArray.empty) (d2.S.getD (a) ByteArray.empty)) [rfSt d2.b d2.o d2.S, rfSt dC.b dC.o dC.S, rfWs g 0 DD, rfWs dC.c dC.p dC.W] aa w), post Try.prog (.rnd (N) (bodyL (tbk M)) :: (tbk M).k.tail) (bodyPost Try.prog Try.f6 fun e w' => e = .returned (.bool true) ∧ Below w0.heap.size w0 w') .normal aa w) (x0 x1 : Nat) (aa : Act) (w : World) (S : Sy w0 [] [x0, x1] (tbkS k (a) b0 (q) DD ga ga2 gc gc2 d2 dC (dC.S.getD (a) ByteArray.empty) (d2.S.getD (a) ByteArray.empty)) [rfSt d2.b d2.o d2.S, rfSt dC.b dC.o dC.S, rfWs g 0 DD, rfWs dC.c dC.p dC.W] aa w) : post Try.prog (.rnd (N + 1) (bodyL (tbk M)) :: (tbk M).k.tail) (bodyPost Try.prog Try.f6 fun e w' => e = .returned (.bool true) ∧ Below w0.heap.size w0 w') .normal aa w := by
  refine sy_run (c := ⟨(.rnd (N + 1) (bodyL (tbk M)) :: (tbk M).k.tail), tbkS k (a) b0 (q) DD ga ga2 gc gc2 d2 dC (dC.S.getD (a) ByteArray.empty) (d2.S.getD (a) ByteArray.empty)⟩) ⟨0, [22]⟩ 50 S fun bs aa w S => ?_
  refine sy_reg S fun S => ?_
  refine sy_ops 4 S fun bs aa w S => ?_
  refine sy_cast 111 S (congrArg Value.bool (decide_eq_true (by rw [(hsz a ha).1]; omega) : decide ((q : Int) < ((dC.S.getD a ByteArray.empty).size : Int)) = true)) (by kernel_rfl) fun S => ?_
  refine sy_run ⟨0, []⟩ 60 S fun bs aa w S => ?_
  letI : KP := ⟨[116, 119]⟩
  refine dr_enter [] (by kernel_rfl) (by kernel_rfl) S (by kernel_rfl) (fun aa w D => ?_)
  refine dr_ex2 (fun d v c a w h => by cases d <;> exact h) 2 (op := .index 9 (.tmp 114) (.tmp 115)) (ty := 5) (v := .int .u8 ((byt (dC.S.getD a ByteArray.empty) q : Nat) : Int)) D (by kernel_rfl) (by kernel_rfl) (by kernel_rfl) (by kernel_rfl) (ex_ix (p := (dC.S.getD a ByteArray.empty)) (k := q) Try.underlying9 (by kernel_rfl) (by kernel_rfl) (by rw [(hsz a ha).1]; exact hq)) fun aa D => ?_
  refine dr_ex2 (fun d v c a w h => by cases d <;> exact h) 5 (op := .index 9 (.tmp 117) (.tmp 118)) (ty := 5) (v := .int .u8 ((byt (d2.S.getD a ByteArray.empty) q : Nat) : Int)) D (by kernel_rfl) (by kernel_rfl) (by kernel_rfl) (by kernel_rfl) (ex_ix (p := (d2.S.getD a ByteArray.empty)) (k := q) Try.underlying9 (by kernel_rfl) (by kernel_rfl) (by rw [(hsz a ha).2]; exact hq)) fun aa D => ?_
  refine dr_end D (by kernel_rfl) fun S => ?_
  refine sy_run ⟨0, []⟩ 60 S fun bs aa w S => ?_
  have S2 := S.to [0, 1] (tbiS k a b0 q (b0) DD ga ga2 gc gc2 d2 dC (dC.S.getD a ByteArray.empty) (d2.S.getD a ByteArray.empty) (decide (((byt (dC.S.getD a ByteArray.empty) q : Nat) : Int) = ((byt (d2.S.getD a ByteArray.empty) q : Nat) : Int)))) (by kernel_rfl) (by kernel_rfl) (by kernel_rfl) (by kernel_rfl) (by kernel_rfl)
  refine sy_loop (DD.length - b0 + 1) (by kernel_rfl) ?_
  refine sy_at2 (k' := (.rnd (DD.length - b0 + 1) (bodyL (tbi M N)) :: (tbi M N).k.tail)) (by kernel_rfl) ?_
  exact ti_all w0 k hk d2 dC h2 hC hrC hs2 hsC htC DD hdl b0 hb0 hsz hr hT ga ga2 gc gc2 g hg M N a q ha hq ihK (DD.length - b0) b0 (by omega) (Nat.le_refl _) _ (by rw [Nat.sub_self]; rfl) _ _ aa w S2
set_option maxHeartbeats 8000000 in
theorem tk_end (w0 : World) (k : Nat) (hk : k < 6) (d2 dC : Dk) (h2 : d2.ok) (hC : dC.ok) (hrC : dC.right) (hs2 : d2.sl = k + 1) (hsC : dC.sl = k + 1) (htC : dC.tl = 0) (DD : List (Int × ByteArray)) (hdl : DD.length ≤ 40) (b0 : Nat) (hb0 : b0 ≤ DD.length) (hsz : ∀ a, a < k + 1 → (dC.S.getD a ByteArray.empty).size = 32 ∧ (d2.S.getD a ByteArray.empty).size = 32) (hr : ∀ i, i < DD.length → (DD.getD i (0, ByteArray.empty)).2.size = 32) (hT : ∀ a q, a < k + 1 → q < 32 → isA (dC.S.getD a ByteArray.empty) (d2.S.getD a ByteArray.empty) DD a q b0 (DD.length - b0) = true) (ga ga2 : Option Addr) (gc gc2 g : Nat) (hg : DD.length = 0 ∨ ga = some ⟨g, 0, none⟩) (M N a : Nat) (ha : a < k + 1) (ihO : ∀ (x0 x1 : Nat) (aa : Act) (w : World) (S : Sy w0 [] [x0, x1] (tboS k (a + 1) b0 DD ga ga2 gc gc2 d2 dC) [rfSt d2.b d2.o d2.S, rfSt dC.b dC.o dC.S, rfWs g 0 DD, rfWs dC.c dC.p dC.W] aa w), post Try.prog (.rnd (M) (bodyL tbo) :: tbo.k.tail) (bodyPost Try.prog Try.f6 fun e w' => e = .returned (.bool true) ∧ Below w0.heap.size w0 w') .normal aa w) (x0 x1 : Nat) (aa : Act) (w : World) (S : Sy w0 [] [x0, x1] (tbkS k (a) b0 (32) DD ga ga2 gc gc2 d2 dC (dC.S.getD (a) ByteArray.empty) (d2.S.getD (a) ByteArray.empty)) [rfSt d2.b d2.o d2.S, rfSt dC.b dC.o dC.S, rfWs g 0 DD, rfWs dC.c dC.p dC.W] aa w) : post Try.prog (.rnd (N + 1) (bodyL (tbk M)) :: (tbk M).k.tail) (bodyPost Try.prog Try.f6 fun e w' => e = .returned (.bool true) ∧ Below w0.heap.size w0 w') .normal aa w := by
  refine sy_run (c := ⟨(.rnd (N + 1) (bodyL (tbk M)) :: (tbk M).k.tail), tbkS k (a) b0 (32) DD ga ga2 gc gc2 d2 dC (dC.S.getD (a) ByteArray.empty) (d2.S.getD (a) ByteArray.empty)⟩) ⟨0, [22]⟩ 50 S fun bs aa w S => ?_
  refine sy_reg S fun S => ?_
  refine sy_ops 4 S fun bs aa w S => ?_
  refine sy_cast 111 S (congrArg Value.bool (decide_eq_false (by rw [(hsz a ha).1]; omega) : decide (((32 : Nat) : Int) < ((dC.S.getD a ByteArray.empty).size : Int)) = false)) (by kernel_rfl) fun S => ?_
  refine sy_run ⟨0, [16]⟩ 60 S fun bs aa w S => ?_
  refine sy_reg S fun S => ?_
  refine sy_ops 2 S fun bs aa w S => ?_
  refine sy_cast 79 S (congrArg (Value.int .i64) (by rw [IntKind.wrap_i64]; omega : IntKind.i64.wrap ((a : Int) + 1) = ((a + 1 : Nat) : Int))) (by kernel_rfl) fun S => ?_
  refine sy_run ⟨0, [999]⟩ 50 S fun bs aa w S => ?_
  have S2 := S.to [0, 1] (tboS k (a + 1) b0 DD ga ga2 gc gc2 d2 dC) (by kernel_rfl) (by kernel_rfl) (by kernel_rfl) (by kernel_rfl) (by kernel_rfl)
  refine sy_at2 (k' := (.rnd (M) (bodyL tbo) :: tbo.k.tail)) (by kernel_rfl) ?_
  exact ihO _ _ aa w S2
theorem tk_all (w0 : World) (k : Nat) (hk : k < 6) (d2 dC : Dk) (h2 : d2.ok) (hC : dC.ok) (hrC : dC.right) (hs2 : d2.sl = k + 1) (hsC : dC.sl = k + 1) (htC : dC.tl = 0) (DD : List (Int × ByteArray)) (hdl : DD.length ≤ 40) (b0 : Nat) (hb0 : b0 ≤ DD.length) (hsz : ∀ a, a < k + 1 → (dC.S.getD a ByteArray.empty).size = 32 ∧ (d2.S.getD a ByteArray.empty).size = 32) (hr : ∀ i, i < DD.length → (DD.getD i (0, ByteArray.empty)).2.size = 32) (hT : ∀ a q, a < k + 1 → q < 32 → isA (dC.S.getD a ByteArray.empty) (d2.S.getD a ByteArray.empty) DD a q b0 (DD.length - b0) = true) (ga ga2 : Option Addr) (gc gc2 g : Nat) (hg : DD.length = 0 ∨ ga = some ⟨g, 0, none⟩) (M a : Nat) (ha : a < k + 1) (ihO : ∀ (x0 x1 : Nat) (aa : Act) (w : World) (S : Sy w0 [] [x0, x1] (tboS k (a + 1) b0 DD ga ga2 gc gc2 d2 dC) [rfSt d2.b d2.o d2.S, rfSt dC.b dC.o dC.S, rfWs g 0 DD, rfWs dC.c dC.p dC.W] aa w), post Try.prog (.rnd (M) (bodyL tbo) :: tbo.k.tail) (bodyPost Try.prog Try.f6 fun e w' => e = .returned (.bool true) ∧ Below w0.heap.size w0 w') .normal aa w) : ∀ (r q : Nat), q + r = 32 → ∀ (x0 x1 : Nat) (aa : Act) (w : World) (S : Sy w0 [] [x0, x1] (tbkS k (a) b0 (q) DD ga ga2 gc gc2 d2 dC (dC.S.getD (a) ByteArray.empty) (d2.S.getD (a) ByteArray.empty)) [rfSt d2.b d2.o d2.S, rfSt dC.b dC.o dC.S, rfWs g 0 DD, rfWs dC.c dC.p dC.W] aa w), post Try.prog (.rnd (r + 1) (bodyL (tbk M)) :: (tbk M).k.tail) (bodyPost Try.prog Try.f6 fun e w' => e = .returned (.bool true) ∧ Below w0.heap.size w0 w') .normal aa w := by
  intro r
  induction r with
  | zero => intro q hq x0 x1 aa w S; obtain rfl : q = 32 := by omega
            exact tk_end w0 k hk d2 dC h2 hC hrC hs2 hsC htC DD hdl b0 hb0 hsz hr hT ga ga2 gc gc2 g hg M 0 a ha ihO x0 x1 aa w S
  | succ r ih => intro q hq x0 x1 aa w S; exact tk_step w0 k hk d2 dC h2 hC hrC hs2 hsC htC DD hdl b0 hb0 hsz hr hT ga ga2 gc gc2 g hg M (r + 1) a q ha (by omega) (ih (q + 1) (by omega)) x0 x1 aa w S
set_option maxHeartbeats 8000000 in
theorem to_step (w0 : World) (k : Nat) (hk : k < 6) (d2 dC : Dk) (h2 : d2.ok) (hC : dC.ok) (hrC : dC.right) (hs2 : d2.sl = k + 1) (hsC : dC.sl = k + 1) (htC : dC.tl = 0) (DD : List (Int × ByteArray)) (hdl : DD.length ≤ 40) (b0 : Nat) (hb0 : b0 ≤ DD.length) (hsz : ∀ a, a < k + 1 → (dC.S.getD a ByteArray.empty).size = 32 ∧ (d2.S.getD a ByteArray.empty).size = 32) (hr : ∀ i, i < DD.length → (DD.getD i (0, ByteArray.empty)).2.size = 32) (hT : ∀ a q, a < k + 1 → q < 32 → isA (dC.S.getD a ByteArray.empty) (d2.S.getD a ByteArray.empty) DD a q b0 (DD.length - b0) = true) (ga ga2 : Option Addr) (gc gc2 g : Nat) (hg : DD.length = 0 ∨ ga = some ⟨g, 0, none⟩) (M a : Nat) (ha : a < k + 1) (ihO : ∀ (x0 x1 : Nat) (aa : Act) (w : World) (S : Sy w0 [] [x0, x1] (tboS k (a + 1) b0 DD ga ga2 gc gc2 d2 dC) [rfSt d2.b d2.o d2.S, rfSt dC.b dC.o dC.S, rfWs g 0 DD, rfWs dC.c dC.p dC.W] aa w), post Try.prog (.rnd (M) (bodyL tbo) :: tbo.k.tail) (bodyPost Try.prog Try.f6 fun e w' => e = .returned (.bool true) ∧ Below w0.heap.size w0 w') .normal aa w) (x0 x1 : Nat) (aa : Act) (w : World) (S : Sy w0 [] [x0, x1] (tboS k (a) b0 DD ga ga2 gc gc2 d2 dC) [rfSt d2.b d2.o d2.S, rfSt dC.b dC.o dC.S, rfWs g 0 DD, rfWs dC.c dC.p dC.W] aa w) : post Try.prog (.rnd (M + 1) (bodyL tbo) :: tbo.k.tail) (bodyPost Try.prog Try.f6 fun e w' => e = .returned (.bool true) ∧ Below w0.heap.size w0 w') .normal aa w := by
  refine sy_run (c := ⟨(.rnd (M + 1) (bodyL tbo) :: tbo.k.tail), tboS k (a) b0 DD ga ga2 gc gc2 d2 dC⟩) ⟨0, [15]⟩ 50 S fun bs aa w S => ?_
  refine sy_reg S fun S => ?_
  refine sy_ops 3 S fun bs aa w S => ?_
  refine sy_cast 74 S (congrArg Value.bool (decide_eq_true (by omega) : decide ((a : Int) < ((k + 1 : Nat) : Int)) = true)) (by kernel_rfl) fun S => ?_
  refine sy_run ⟨0, [17]⟩ 60 S fun bs aa w S => ?_
  refine sy_reg S fun S => ?_
  refine sy_ops 2 S fun bs aa w S => ?_
  refine sy_call1 S (read_t dC hC a (by omega) w (S.fact (f := rfSt dC.b dC.o dC.S) (by simp))) (by kernel_rfl) fun aa w hb S => ?_
  refine sy_run ⟨0, [18]⟩ 60 S fun bs aa w S => ?_
  refine sy_reg S fun S => ?_
  refine sy_ops 2 S fun bs aa w S => ?_
  refine sy_call1 S (read_t d2 h2 a (by omega) w (S.fact (f := rfSt d2.b d2.o d2.S) (by simp))) (by kernel_rfl) fun aa w hb S => ?_
  refine sy_run ⟨0, [19]⟩ 60 S fun bs aa w S => ?_
  refine sy_reg S fun S => ?_
  refine sy_ops 10 S fun bs aa w S => ?_
  refine sy_cast 101 S (congrArg Value.bool (by rw [(hsz a ha).1]; rfl : (!decide (((dC.S.getD a ByteArray.empty).size : Int) = 32)) = false)) (by kernel_rfl) fun S => ?_
  refine sy_ops 5 S fun bs aa w S => ?_
  refine sy_cast 106 S (congrArg Value.bool (by rw [(hsz a ha).2]; rfl : (!decide (((d2.S.getD a ByteArray.empty).size : Int) = 32)) = false)) (by kernel_rfl) fun S => ?_
  refine sy_run ⟨0, []⟩ 60 S fun bs aa w S => ?_
  have S2 := S.to [0, 1] (tbkS k (a) b0 (0) DD ga ga2 gc gc2 d2 dC (dC.S.getD (a) ByteArray.empty) (d2.S.getD (a) ByteArray.empty)) (by kernel_rfl) (by kernel_rfl) (by kernel_rfl) (by kernel_rfl) (by kernel_rfl)
  refine sy_loop 33 (by kernel_rfl) ?_
  refine sy_at2 (k' := (.rnd (33) (bodyL (tbk M)) :: (tbk M).k.tail)) (by kernel_rfl) ?_
  exact tk_all w0 k hk d2 dC h2 hC hrC hs2 hsC htC DD hdl b0 hb0 hsz hr hT ga ga2 gc gc2 g hg M a ha ihO 32 0 (by omega) _ _ aa w S2
set_option maxHeartbeats 8000000 in
theorem to_end (w0 : World) (k : Nat) (hk : k < 6) (d2 dC : Dk) (h2 : d2.ok) (hC : dC.ok) (hrC : dC.right) (hs2 : d2.sl = k + 1) (hsC : dC.sl = k + 1) (htC : dC.tl = 0) (DD : List (Int × ByteArray)) (hdl : DD.length ≤ 40) (b0 : Nat) (hb0 : b0 ≤ DD.length) (hsz : ∀ a, a < k + 1 → (dC.S.getD a ByteArray.empty).size = 32 ∧ (d2.S.getD a ByteArray.empty).size = 32) (hr : ∀ i, i < DD.length → (DD.getD i (0, ByteArray.empty)).2.size = 32) (hT : ∀ a q, a < k + 1 → q < 32 → isA (dC.S.getD a ByteArray.empty) (d2.S.getD a ByteArray.empty) DD a q b0 (DD.length - b0) = true) (ga ga2 : Option Addr) (gc gc2 g : Nat) (hg : DD.length = 0 ∨ ga = some ⟨g, 0, none⟩) (M : Nat) (x0 x1 : Nat) (aa : Act) (w : World) (S : Sy w0 [] [x0, x1] (tboS k (k + 1) b0 DD ga ga2 gc gc2 d2 dC) [rfSt d2.b d2.o d2.S, rfSt dC.b dC.o dC.S, rfWs g 0 DD, rfWs dC.c dC.p dC.W] aa w) : post Try.prog (.rnd (M + 1) (bodyL tbo) :: tbo.k.tail) (bodyPost Try.prog Try.f6 fun e w' => e = .returned (.bool true) ∧ Below w0.heap.size w0 w') .normal aa w := by
  refine sy_run (c := ⟨(.rnd (M + 1) (bodyL tbo) :: tbo.k.tail), tboS k (k + 1) b0 DD ga ga2 gc gc2 d2 dC⟩) ⟨0, [15]⟩ 50 S fun bs aa w S => ?_
  refine sy_reg S fun S => ?_
  refine sy_ops 3 S fun bs aa w S => ?_
  refine sy_cast 74 S (congrArg Value.bool (decide_eq_false (by omega) : decide (((k + 1 : Nat) : Int) < ((k + 1 : Nat) : Int)) = false)) (by kernel_rfl) fun S => ?_
  refine sy_run ⟨0, [31]⟩ 60 S fun bs aa w S => ?_
  refine sy_reg S fun S => ?_
  refine sy_ops 6 S fun bs aa w S => ?_
  refine sy_call1 S (right_t w dC hC hrC (S.fact (f := rfSt dC.b dC.o dC.S) (by simp)) (S.fact (f := rfWs dC.c dC.p dC.W) (by simp))) (by kernel_rfl) fun aa w hb S => ?_
  refine sy_ops 6 S fun bs aa w S => ?_
  refine sy_cast 166 S (congrArg Value.bool (by rw [htC]; rfl : decide ((dC.tl : Int) = 0) = true)) (by kernel_rfl) fun S => ?_
  refine sy_run ⟨0, []⟩ 60 S fun bs aa w S => ?_
  exact sy_ret S (by kernel_rfl) (by kernel_rfl) fun hg => ⟨rfl, bel_gr hg⟩
theorem to_all (w0 : World) (k : Nat) (hk : k < 6) (d2 dC : Dk) (h2 : d2.ok) (hC : dC.ok) (hrC : dC.right) (hs2 : d2.sl = k + 1) (hsC : dC.sl = k + 1) (htC : dC.tl = 0) (DD : List (Int × ByteArray)) (hdl : DD.length ≤ 40) (b0 : Nat) (hb0 : b0 ≤ DD.length) (hsz : ∀ a, a < k + 1 → (dC.S.getD a ByteArray.empty).size = 32 ∧ (d2.S.getD a ByteArray.empty).size = 32) (hr : ∀ i, i < DD.length → (DD.getD i (0, ByteArray.empty)).2.size = 32) (hT : ∀ a q, a < k + 1 → q < 32 → isA (dC.S.getD a ByteArray.empty) (d2.S.getD a ByteArray.empty) DD a q b0 (DD.length - b0) = true) (ga ga2 : Option Addr) (gc gc2 g : Nat) (hg : DD.length = 0 ∨ ga = some ⟨g, 0, none⟩) : ∀ (r a : Nat), a + r = k + 1 → ∀ (x0 x1 : Nat) (aa : Act) (w : World) (S : Sy w0 [] [x0, x1] (tboS k (a) b0 DD ga ga2 gc gc2 d2 dC) [rfSt d2.b d2.o d2.S, rfSt dC.b dC.o dC.S, rfWs g 0 DD, rfWs dC.c dC.p dC.W] aa w), post Try.prog (.rnd (r + 1) (bodyL tbo) :: tbo.k.tail) (bodyPost Try.prog Try.f6 fun e w' => e = .returned (.bool true) ∧ Below w0.heap.size w0 w') .normal aa w := by
  intro r
  induction r with
  | zero => intro a hi x0 x1 aa w S; obtain rfl : a = k + 1 := by omega
            exact to_end w0 k hk d2 dC h2 hC hrC hs2 hsC htC DD hdl b0 hb0 hsz hr hT ga ga2 gc gc2 g hg 0 x0 x1 aa w S
  | succ r ih => intro a hi x0 x1 aa w S; exact to_step w0 k hk d2 dC h2 hC hrC hs2 hsC htC DD hdl b0 hb0 hsz hr hT ga ga2 gc gc2 g hg (r + 1) a (by omega) (ih (a + 1) (by omega)) x0 x1 aa w S
end Go.Proofs.Ytnlcjlhcghgaoaa


/-
  Layer 22: a crash tears bytes: the statement.
-/
namespace Go.Proofs.Ytnlcjlhcghgaoaa
open Go Go.RowKit SZ
set_option linter.unusedVariables false
set_option linter.unusedSimpArgs false
set_option maxRecDepth 100000
attribute [local irreducible] post GD Nxt NxtAll
noncomputable def tb1S (k j n lc m : Nat) (pa ga : Option Addr) (dn gc : Nat) (ca : Option Addr) (cn cc : Nat) (d : Dk) : SS := ⟨168, [(1, .v (.slice pa n lc)), (2, .v (.slice ca cn cc)), (7, .v (.bool true)), (8, .v (.int .i64 ((k + 1 : Nat) : Int))), (9, .p 0 0), (10, .v (.slice ga dn gc)), (11, .v (.bool true)), (12, .v (.int .i64 (m : Int))), (13, .v (.int .i64 (j : Int)))], [⟨25, d.cs⟩]⟩
set_option maxHeartbeats 8000000 in
theorem l1_eq (w0 : World) (k : Nat) (hk : k < 6) (l : List Nat) (hl : l.length ≤ 30) (h256 : ∀ i, i < l.length → l.getD i 0 < 256) (pa : Option Addr) (lc lb lo : Nat) (hp : l.length = 0 ∨ pa = some ⟨lb, lo, none⟩) (hlc : l.length ≤ lc) (cs : List Int) (hcl : cs.length ≤ 40) (ca : Option Addr) (cc cb co : Nat) (hca : cs.length = 0 ∨ ca = some ⟨cb, co, none⟩) (w1 : World) (d : Dk) (DD : List (Int × ByteArray)) (hW : WI w1 k l l.length d DD) (ga : Option Addr) (gc g : Nat) (hg : DD.length = 0 ∨ ga = some ⟨g, 0, none⟩) (m j : Nat) (hj : j < l.length) (hc : l.getD j 0 = 255) (ih : ∀ (x0 : Nat) (aa : Act) (w : World) (S : Sy w0 [] [x0] (tb1S k (j + 1) l.length lc (lastS l (j + 1)) pa ga DD.length gc ca cs.length cc d) [rfBy lb lo l, rfIn cb co cs, rfSt d.b d.o d.S, rfWs d.c d.p d.W, rfWs g 0 DD] aa w), post Try.prog (.rnd (m) (bodyL tb1) :: tb1.k.tail) (bodyPost Try.prog Try.f6 fun e w' => e = .returned (.bool true) ∧ Below w0.heap.size w0 w') .normal aa w) (x0 : Nat) (aa : Act) (w : World) (S : Sy w0 [] [x0] (tb1S k (j) l.length lc (lastS l (j)) pa ga DD.length gc ca cs.length cc d) [rfBy lb lo l, rfIn cb co cs, rfSt d.b d.o d.S, rfWs d.c d.p d.W, rfWs g 0 DD] aa w) : post Try.prog (.rnd (m + 1) (bodyL tb1) :: tb1.k.tail) (bodyPost Try.prog Try.f6 fun e w' => e = .returned (.bool true) ∧ Below w0.heap.size w0 w') .normal aa w := by
  obtain rfl := hp.resolve_left (by omega)
  have e : lastS l (j + 1) = j + 1 := by show (if l.getD j 0 = 255 then j + 1 else lastS l j) = _; rw [if_pos hc]
  refine sy_run (c := ⟨(.rnd (m + 1) (bodyL tb1) :: tb1.k.tail), tb1S k (j) l.length lc (lastS l (j)) (some ⟨lb, lo, none⟩) ga DD.length gc ca cs.length cc d⟩) ⟨0, [8]⟩ 50 S fun bs aa w S => ?_
  refine sy_reg S fun S => ?_
  refine sy_ops 4 S fun bs aa w S => ?_
  refine sy_cast 50 S (congrArg Value.bool (decide_eq_true (by omega) : decide ((j : Int) < (l.length : Int)) = true)) (by kernel_rfl) fun S => ?_
  refine sy_run ⟨0, [10]⟩ 60 S fun bs aa w S => ?_
  refine sy_reg S fun S => ?_
  refine sy_ops 2 S fun bs aa w S => ?_
  refine sy_ix (b := lb) (off := lo) (len := l.length) (n := j) (size := 1) (i := (j : Int)) S (by kernel_rfl) rfl hj fun aa S => ?_
  refine sy_ldo S (ld_at (ty := 5) (b := lb) (off := lo + j * 1) (by kernel_rfl) (by rw [Nat.mul_one]; exact S.fact (f := rfBy lb lo l) (by simp) j hj)) (by kernel_rfl) fun aa S => ?_
  refine sy_ops 1 S fun bs aa w S => ?_
  refine sy_cast 57 S (congrArg Value.bool (decide_eq_true (by rw [hc]; rfl) : decide (((l.getD j 0 : Nat) : Int) = 255) = true)) (by kernel_rfl) fun S => ?_
  refine sy_run ⟨0, [11]⟩ 60 S fun bs aa w S => ?_
  refine sy_reg S fun S => ?_
  refine sy_ops 2 S fun bs aa w S => ?_
  refine sy_cast 59 S (congrArg (Value.int .i64) (by rw [IntKind.wrap_i64]; omega : IntKind.i64.wrap ((j : Int) + 1) = ((j + 1 : Nat) : Int))) (by kernel_rfl) fun S => ?_
  refine sy_run ⟨0, [9]⟩ 60 S fun bs aa w S => ?_
  refine sy_reg S fun S => ?_
  refine sy_ops 2 S fun bs aa w S => ?_
  refine sy_cast 52 S (congrArg (Value.int .i64) (by rw [IntKind.wrap_i64]; omega : IntKind.i64.wrap ((j : Int) + 1) = ((j + 1 : Nat) : Int))) (by kernel_rfl) fun S => ?_
  refine sy_run ⟨0, [999]⟩ 50 S fun bs aa w S => ?_
  have S2 := S.to [0] (tb1S k (j + 1) l.length lc (j + 1) (some ⟨lb, lo, none⟩) ga DD.length gc ca cs.length cc d) (by kernel_rfl) (by kernel_rfl) (by kernel_rfl) (by kernel_rfl) (by kernel_rfl)
  refine sy_at2 (k' := (.rnd (m) (bodyL tb1) :: tb1.k.tail)) (by kernel_rfl) ?_
  exact ih _ aa w (by rw [e]; exact S2)
set_option maxHeartbeats 8000000 in
theorem l1_ne (w0 : World) (k : Nat) (hk : k < 6) (l : List Nat) (hl : l.length ≤ 30) (h256 : ∀ i, i < l.length → l.getD i 0 < 256) (pa : Option Addr) (lc lb lo : Nat) (hp : l.length = 0 ∨ pa = some ⟨lb, lo, none⟩) (hlc : l.length ≤ lc) (cs : List Int) (hcl : cs.length ≤ 40) (ca : Option Addr) (cc cb co : Nat) (hca : cs.length = 0 ∨ ca = some ⟨cb, co, none⟩) (w1 : World) (d : Dk) (DD : List (Int × ByteArray)) (hW : WI w1 k l l.length d DD) (ga : Option Addr) (gc g : Nat) (hg : DD.length = 0 ∨ ga = some ⟨g, 0, none⟩) (m j : Nat) (hj : j < l.length) (hc : l.getD j 0 ≠ 255) (ih : ∀ (x0 : Nat) (aa : Act) (w : World) (S : Sy w0 [] [x0] (tb1S k (j + 1) l.length lc (lastS l (j + 1)) pa ga DD.length gc ca cs.length cc d) [rfBy lb lo l, rfIn cb co cs, rfSt d.b d.o d.S, rfWs d.c d.p d.W, rfWs g 0 DD] aa w), post Try.prog (.rnd (m) (bodyL tb1) :: tb1.k.tail) (bodyPost Try.prog Try.f6 fun e w' => e = .returned (.bool true) ∧ Below w0.heap.size w0 w') .normal aa w) (x0 : Nat) (aa : Act) (w : World) (S : Sy w0 [] [x0] (tb1S k (j) l.length lc (lastS l (j)) pa ga DD.length gc ca cs.length cc d) [rfBy lb lo l, rfIn cb co cs, rfSt d.b d.o d.S, rfWs d.c d.p d.W, rfWs g 0 DD] aa w) : post Try.prog (.rnd (m + 1) (bodyL tb1) :: tb1.k.tail) (bodyPost Try.prog Try.f6 fun e w' => e = .returned (.bool true) ∧ Below w0.heap.size w0 w') .normal aa w := by
  obtain rfl := hp.resolve_left (by omega)
  have e : lastS l (j + 1) = lastS l j := by show (if l.getD j 0 = 255 then j + 1 else lastS l j) = _; rw [if_neg hc]
  refine sy_run (c := ⟨(.rnd (m + 1) (bodyL tb1) :: tb1.k.tail), tb1S k (j) l.length lc (lastS l (j)) (some ⟨lb, lo, none⟩) ga DD.length gc ca cs.length cc d⟩) ⟨0, [8]⟩ 50 S fun bs aa w S => ?_
  refine sy_reg S fun S => ?_
  refine sy_ops 4 S fun bs aa w S => ?_
  refine sy_cast 50 S (congrArg Value.bool (decide_eq_true (by omega) : decide ((j : Int) < (l.length : Int)) = true)) (by kernel_rfl) fun S => ?_
  refine sy_run ⟨0, [10]⟩ 60 S fun bs aa w S => ?_
  refine sy_reg S fun S => ?_
  refine sy_ops 2 S fun bs aa w S => ?_
  refine sy_ix (b := lb) (off := lo) (len := l.length) (n := j) (size := 1) (i := (j : Int)) S (by kernel_rfl) rfl hj fun aa S => ?_
  refine sy_ldo S (ld_at (ty := 5) (b := lb) (off := lo + j * 1) (by kernel_rfl) (by rw [Nat.mul_one]; exact S.fact (f := rfBy lb lo l) (by simp) j hj)) (by kernel_rfl) fun aa S => ?_
  refine sy_ops 1 S fun bs aa w S => ?_
  refine sy_cast 57 S (congrArg Value.bool (decide_eq_false (by omega) : decide (((l.getD j 0 : Nat) : Int) = 255) = false)) (by kernel_rfl) fun S => ?_
  refine sy_run ⟨0, [9]⟩ 60 S fun bs aa w S => ?_
  refine sy_reg S fun S => ?_
  refine sy_ops 2 S fun bs aa w S => ?_
  refine sy_cast 52 S (congrArg (Value.int .i64) (by rw [IntKind.wrap_i64]; omega : IntKind.i64.wrap ((j : Int) + 1) = ((j + 1 : Nat) : Int))) (by kernel_rfl) fun S => ?_
  refine sy_run ⟨0, [999]⟩ 50 S fun bs aa w S => ?_
  have S2 := S.to [0] (tb1S k (j + 1) l.length lc (lastS l j) (some ⟨lb, lo, none⟩) ga DD.length gc ca cs.length cc d) (by kernel_rfl) (by kernel_rfl) (by kernel_rfl) (by kernel_rfl) (by kernel_rfl)
  refine sy_at2 (k' := (.rnd (m) (bodyL tb1) :: tb1.k.tail)) (by kernel_rfl) ?_
  exact ih _ aa w (by rw [e]; exact S2)
set_option maxHeartbeats 8000000 in
theorem l1_end (w0 : World) (k : Nat) (hk : k < 6) (l : List Nat) (hl : l.length ≤ 30) (h256 : ∀ i, i < l.length → l.getD i 0 < 256) (pa : Option Addr) (lc lb lo : Nat) (hp : l.length = 0 ∨ pa = some ⟨lb, lo, none⟩) (hlc : l.length ≤ lc) (cs : List Int) (hcl : cs.length ≤ 40) (ca : Option Addr) (cc cb co : Nat) (hca : cs.length = 0 ∨ ca = some ⟨cb, co, none⟩) (w1 : World) (d : Dk) (DD : List (Int × ByteArray)) (hW : WI w1 k l l.length d DD) (ga : Option Addr) (gc g : Nat) (hg : DD.length = 0 ∨ ga = some ⟨g, 0, none⟩) (m : Nat) (x0 : Nat) (aa : Act) (w : World) (S : Sy w0 [] [x0] (tb1S k (l.length) l.length lc (lastS l (l.length)) pa ga DD.length gc ca cs.length cc d) [rfBy lb lo l, rfIn cb co cs, rfSt d.b d.o d.S, rfWs d.c d.p d.W, rfWs g 0 DD] aa w) : post Try.prog (.rnd (m + 1) (bodyL tb1) :: tb1.k.tail) (bodyPost Try.prog Try.f6 fun e w' => e = .returned (.bool true) ∧ Below w0.heap.size w0 w') .normal aa w := by
  have hle := lastS_le l l.length
  have hp2 : (l.take (lastS l l.length)).length = (lastS l l.length) := by rw [List.length_take]; omega
  refine sy_run (c := ⟨(.rnd (m + 1) (bodyL tb1) :: tb1.k.tail), tb1S k (l.length) l.length lc (lastS l (l.length)) pa ga DD.length gc ca cs.length cc d⟩) ⟨0, [8]⟩ 50 S fun bs aa w S => ?_
  refine sy_reg S fun S => ?_
  refine sy_ops 4 S fun bs aa w S => ?_
  refine sy_cast 50 S (congrArg Value.bool (decide_eq_false (by omega) : decide ((l.length : Int) < (l.length : Int)) = false)) (by kernel_rfl) fun S => ?_
  refine sy_run ⟨0, [12]⟩ 60 S fun bs aa w S => ?_
  refine sy_reg S fun S => ?_
  refine sy_ops 3 S fun bs aa w S => ?_
  refine sy_ex (op := .slice 41 (.tmp 62) none (some (.tmp 63)) none) (ty := 41) (v := .slice pa (l.take (lastS l l.length)).length lc) S (by kernel_rfl) (ex_sl (p := .slice pa l.length lc) (l2 := none) (h2 := some (.v (.int .i64 ((lastS l l.length) : Int)))) (m2 := none) (by kernel_rfl) (by kernel_rfl) (by kernel_rfl) (by kernel_rfl) (fun W => by rw [hp2]; exact sl_pre pa l.length lc (lastS l l.length) (by omega) W)) fun aa S => ?_
  have hlt := fun j hj => S.lt (i := j) hj
  refine sy_call S (X := Dk × Option Addr × Nat × Nat × List (Int × ByteArray)) (val := fun x => .tuple #[x.1.v, .slice x.2.1 x.2.2.2.2.length x.2.2.1, .bool true]) (written_u w k hk (l.take (lastS l l.length)) (by omega) (fun i hi => by
      have e : (l.take (lastS l l.length)).getD i 0 = l.getD i 0 := by rw [hp2] at hi; simp [List.getD, List.getElem?_take, hi]
      rw [e]
      exact h256 i (by omega)) pa lc lb lo (hp.imp (fun h => by omega) id) (fun j hj => by
      have e : (l.take (lastS l l.length)).getD j 0 = l.getD j 0 := by rw [hp2] at hj; simp [List.getD, List.getElem?_take, hj]
      rw [e]
      exact S.fact (f := rfBy lb lo l) (by simp) j (by omega))) (by kernel_rfl) fun x aa w1' hC hb S => ?_
  obtain ⟨d2, ga2, gc2, g2, D2⟩ := x
  obtain ⟨hW2, h1, h2, h3, h4, h5⟩ := hC
  have S := S.add (rfSt d2.b d2.o d2.S) h1 (fun j hj hb => by have q1 := hlt j hj; obtain ⟨q2, q3⟩ := hb; have q4 := hW2.hb.1; (try simp only at q4); omega)
  refine sy_run ⟨0, [13]⟩ 60 S fun bs aa w S => ?_
  refine sy_reg S fun S => ?_
  refine sy_ops 2 S fun bs aa w S => ?_
  have hlt := fun j hj => S.lt (i := j) hj
  refine sy_call S (X := Nat × Nat) (val := fun x => .agg #[.slice (some ⟨x.1, 0, none⟩) d.sl x.2, .slice none 0 0]) (C := fun x w' => w.heap.size ≤ x.1 ∧ (rfRow x.1 (crS d cs)).P w') ((crash_t w d hW.ok hW.right (by rw [hW.sl]; omega) (hW.ok.hw2.elim (fun h => by omega) (fun h => h.2.2)) ca cc cb co cs hca (S.fact (f := rfSt d.b d.o d.S) (by simp)) (S.fact (f := rfWs d.c d.p d.W) (by simp)) (S.fact (f := rfIn cb co cs) (by simp))).mono fun e w' ⟨g3, sc3, q1, q2, q3, q4⟩ => ⟨(g3, sc3), q1, ⟨q2, q3⟩, q4⟩) (by kernel_rfl) fun x aa w2 hC hb S => ?_
  obtain ⟨g3, sc3⟩ := x
  obtain ⟨hC1, hC2⟩ := hC
  have S := S.add (rfSt g3 0 (crS d cs)) (row_at hC2) (fun j hj hb => by have q1 := hlt j hj; obtain ⟨q2, q3⟩ := hb; have q4 : w.heap.size ≤ g3 := hC1; omega)
  have S := S.add (rfWs 0 0 []) (fun j hj => absurd hj (Nat.not_lt_zero _)) (fun i hi h => h.2 rfl)
  refine sy_run ⟨0, []⟩ 60 S fun bs aa w S => ?_
  have S := S.sub (F' := [rfSt d2.b d2.o d2.S, rfSt g3 0 (crS d cs), rfWs g 0 DD, rfWs 0 0 []]) (by intro f hf; simp only [List.mem_cons, List.not_mem_nil, or_false] at hf; rcases hf with rfl | rfl | rfl | rfl <;> simp)
  obtain ⟨ci1, ci2⟩ := crS_inv d hW.ok hW.right cs
  have ew : wall (k + 1) l = (d.S, d.W, DD) := by have := hW.eq; rwa [List.take_length] at this
  have ew2 : wall (k + 1) (l.take (lastS l l.length)) = (d2.S, d2.W, D2) := by have := hW2.eq; rwa [List.take_length] at this
  have hsl : d.sl = k + 1 := hW.sl
  have hT := tears (k + 1) (Nat.succ_pos _) l d hW.ok hW.right hW.sl DD ew d2.S d2.W D2 ew2 cs
  have hv := winv (k + 1) (Nat.succ_pos _) l
  rw [ew] at hv
  have S' := S.to [1, 2] (tboS k 0 D2.length DD ga ga2 gc gc2 d2 (⟨some ⟨g3, 0, none⟩, d.sl, sc3, none, 0, 0, g3, 0, 0, 0, crS d cs, []⟩ : Dk)) (by kernel_rfl) (by kernel_rfl) (by kernel_rfl) (by kernel_rfl) (by kernel_rfl)
  refine sy_loop (k + 1 + 1) (by kernel_rfl) ?_
  refine sy_at2 (k' := (.rnd (k + 1 + 1) (bodyL tbo) :: tbo.k.tail)) (by kernel_rfl) ?_
  exact to_all w0 k hk d2 (⟨some ⟨g3, 0, none⟩, d.sl, sc3, none, 0, 0, g3, 0, 0, 0, crS d cs, []⟩ : Dk) hW2.ok ⟨ci1, Or.inr rfl, rfl, Or.inl ⟨rfl, rfl, rfl⟩, hW.ok.l1, Nat.zero_le _⟩ ⟨fun j hj => ci2 j (by rw [ci1]; exact hj), fun j hj => absurd hj (Nat.not_lt_zero _)⟩ hW2.sl hsl rfl DD (by have q := hW.dl; (try simp only at q); omega) D2.length hT.2.1 (fun a ha => ⟨ci2 a (by rw [ci1, hsl]; exact ha), hT.1.2 a (by rw [hT.1.1]; exact ha)⟩) (fun i hi => (hv.d _ (getD_mem DD i _ hi)).2) hT.2.2 ga ga2 gc gc2 g hg (k + 1) 0 (by omega) _ _ aa w S'
theorem l1_all (w0 : World) (k : Nat) (hk : k < 6) (l : List Nat) (hl : l.length ≤ 30) (h256 : ∀ i, i < l.length → l.getD i 0 < 256) (pa : Option Addr) (lc lb lo : Nat) (hp : l.length = 0 ∨ pa = some ⟨lb, lo, none⟩) (hlc : l.length ≤ lc) (cs : List Int) (hcl : cs.length ≤ 40) (ca : Option Addr) (cc cb co : Nat) (hca : cs.length = 0 ∨ ca = some ⟨cb, co, none⟩) (w1 : World) (d : Dk) (DD : List (Int × ByteArray)) (hW : WI w1 k l l.length d DD) (ga : Option Addr) (gc g : Nat) (hg : DD.length = 0 ∨ ga = some ⟨g, 0, none⟩) : ∀ (r j : Nat), j + r = l.length → ∀ (x0 : Nat) (aa : Act) (w : World) (S : Sy w0 [] [x0] (tb1S k (j) l.length lc (lastS l (j)) pa ga DD.length gc ca cs.length cc d) [rfBy lb lo l, rfIn cb co cs, rfSt d.b d.o d.S, rfWs d.c d.p d.W, rfWs g 0 DD] aa w), post Try.prog (.rnd (r + 1) (bodyL tb1) :: tb1.k.tail) (bodyPost Try.prog Try.f6 fun e w' => e = .returned (.bool true) ∧ Below w0.heap.size w0 w') .normal aa w := by
  intro r
  induction r with
  | zero => intro j hj x0 aa w S; obtain rfl : j = l.length := by omega
            exact l1_end w0 k hk l hl h256 pa lc lb lo hp hlc cs hcl ca cc cb co hca w1 d DD hW ga gc g hg 0 x0 aa w S
  | succ r ih =>
    intro j hj x0 aa w S
    by_cases hc : l.getD j 0 = 255
    · exact l1_eq w0 k hk l hl h256 pa lc lb lo hp hlc cs hcl ca cc cb co hca w1 d DD hW ga gc g hg (r + 1) j (by omega) hc (ih (j + 1) (by omega)) x0 aa w S
    · exact l1_ne w0 k hk l hl h256 pa lc lb lo hp hlc cs hcl ca cc cb co hca w1 d DD hW ga gc g hg (r + 1) j (by omega) hc (ih (j + 1) (by omega)) x0 aa w S
set_option maxHeartbeats 8000000 in
theorem tears_all (w0 : World) (m : Int) (hm : 0 ≤ m ∧ m ≤ 255) (l : List Nat) (h256 : ∀ i, i < l.length → l.getD i 0 < 256) (pa : Option Addr) (lc lb lo : Nat) (hp : l.length = 0 ∨ pa = some ⟨lb, lo, none⟩) (hlc : l.length ≤ lc) (hL : ByAt w0 lb lo l) (cs : List Int) (ca : Option Addr) (cc cb co : Nat) (hca : cs.length = 0 ∨ ca = some ⟨cb, co, none⟩) (hI : IntsAt w0 cb co cs) : Calls Try.prog 6 #[.int .u8 m, .slice pa l.length lc, .slice ca cs.length cc] w0 fun e w' => e = .returned (.bool true) ∧ Below w0.heap.size w0 w' := by
  obtain ⟨k, hk, hk2⟩ : ∃ k : Nat, k < 6 ∧ IntKind.i64.wrap (1 + Int.tmod (IntKind.i64.wrap m) 4) = ((k + 1 : Nat) : Int) := by
    refine ⟨(m % 4).toNat, by omega, ?_⟩
    have e : IntKind.i64.wrap m = m := by rw [IntKind.wrap_i64]; omega
    rw [e, Int.tmod_eq_emod_of_nonneg hm.1, IntKind.wrap_i64]
    omega
  refine sy_enterF [] [rfBy lb lo l, rfIn cb co cs] (by intro f hf; simp only [List.mem_cons, List.not_mem_nil, or_false] at hf; rcases hf with rfl | rfl; exact hL; exact hI) Try.func6 rfl rfl fun aa S => ?_
  refine sy_run ⟨0, [1]⟩ 60 S fun bs aa w S => ?_
  refine sy_reg S fun S => ?_
  refine sy_call1 S (sane22 w) (by kernel_rfl) fun aa w hb S => ?_
  refine sy_run ⟨0, [2]⟩ 60 S fun bs aa w S => ?_
  refine sy_reg S fun S => ?_
  refine sy_ops 4 S fun bs aa w S => ?_
  refine sy_cast 30 S (congrArg (Value.int .i64) hk2) (by kernel_rfl) fun S => ?_
  refine sy_run ⟨0, [3]⟩ 60 S fun bs aa w S => ?_
  refine sy_reg S fun S => ?_
  refine sy_ops 3 S fun bs aa w S => ?_
  by_cases hl : l.length ≤ 30
  · refine sy_cast 33 S (congrArg Value.bool (decide_eq_false (by omega) : decide ((l.length : Int) > 30) = false)) (by kernel_rfl) fun S => ?_
    refine sy_ops 4 S fun bs aa w S => ?_
    by_cases hcl : cs.length ≤ 40
    · refine sy_cast 37 S (congrArg Value.bool (decide_eq_false (by omega) : decide ((cs.length : Int) > 40) = false)) (by kernel_rfl) fun S => ?_
      refine sy_run ⟨0, [5]⟩ 60 S fun bs aa w S => ?_
      refine sy_reg S fun S => ?_
      refine sy_ops 2 S fun bs aa w S => ?_
      have hlt := fun j hj => S.lt (i := j) hj
      refine sy_call S (X := Dk × Option Addr × Nat × Nat × List (Int × ByteArray)) (val := fun x => .tuple #[x.1.v, .slice x.2.1 x.2.2.2.2.length x.2.2.1, .bool true]) (written_u w k hk l (by omega) h256 pa lc lb lo hp (S.fact (f := rfBy lb lo l) (by simp))) (by kernel_rfl) fun x aa w1 hC hb S => ?_
      obtain ⟨d, ga, gc, g, DD⟩ := x
      obtain ⟨hW, h1, h2, h3, h4, h5⟩ := hC
      have S := S.add (rfWs g 0 DD) h5 (fun j hj hb => by have q1 := hlt j hj; obtain ⟨q2, q3⟩ := hb; have q4 := h4.resolve_left q3; (try simp only at q4); omega)
      have S := S.add (rfWs d.c d.p d.W) h2 (fun j hj hb => by have q1 := hlt j hj; obtain ⟨q2, q3⟩ := hb; have q4 := hW.hb.2.resolve_left q3; (try simp only at q4); omega)
      have S := S.add (rfSt d.b d.o d.S) h1 (fun j hj hb => by have q1 := hlt j hj; obtain ⟨q2, q3⟩ := hb; have q4 := hW.hb.1; (try simp only at q4); omega)
      refine sy_run ⟨0, []⟩ 60 S fun bs aa w S => ?_
      have S := S.sub (F' := [rfBy lb lo l, rfIn cb co cs, rfSt d.b d.o d.S, rfWs d.c d.p d.W, rfWs g 0 DD]) (by intro f hf; simp only [List.mem_cons, List.not_mem_nil, or_false] at hf; rcases hf with rfl | rfl | rfl | rfl | rfl <;> simp)
      have S2 := S.to [0] (tb1S k (0) l.length lc (lastS l (0)) pa ga DD.length gc ca cs.length cc d) (by kernel_rfl) (by kernel_rfl) (by kernel_rfl) (by kernel_rfl) (by kernel_rfl)
      refine sy_loop (l.length + 1) (by kernel_rfl) ?_
      refine sy_at2 (k' := (.rnd (l.length + 1) (bodyL tb1) :: tb1.k.tail)) (by kernel_rfl) ?_
      exact l1_all w0 k hk l hl h256 pa lc lb lo hp hlc cs hcl ca cc cb co hca _ d DD hW ga gc g h3 l.length 0 (by omega) _ aa w S2
    · refine sy_cast 37 S (congrArg Value.bool (decide_eq_true (by omega) : decide ((cs.length : Int) > 40) = true)) (by kernel_rfl) fun S => ?_
      refine sy_run ⟨0, []⟩ 60 S fun bs aa w S => ?_
      exact sy_ret S (by kernel_rfl) (by kernel_rfl) fun hg => ⟨rfl, bel_gr hg⟩
  · refine sy_cast 33 S (congrArg Value.bool (decide_eq_true (by omega) : decide ((l.length : Int) > 30) = true)) (by kernel_rfl) fun S => ?_
    refine sy_run ⟨0, []⟩ 60 S fun bs aa w S => ?_
    exact sy_ret S (by kernel_rfl) (by kernel_rfl) fun hg => ⟨rfl, bel_gr hg⟩
end Go.Proofs.Ytnlcjlhcghgaoaa
