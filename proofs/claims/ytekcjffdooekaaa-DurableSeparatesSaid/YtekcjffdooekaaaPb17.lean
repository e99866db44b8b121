/-
  Merged: BkG, BkH
-/
import Derived.Test.YtekcjffdooekaaaRows
import Derived.Test.YtekcjffdooekaaaPb2
import Derived.Test.YtekcjffdooekaaaPb13
import Derived.Test.YtekcjffdooekaaaPb16
import Derived.WalkKit

/-
  Layer 25: Do of any access; the statement DurableDoMatchesSpec.
-/
namespace Go.Proofs.Ytekcjffdooekaaa
open Go Go.RowKit SZ
set_option linter.unusedVariables false
set_option linter.unusedSimpArgs false
set_option maxRecDepth 100000
attribute [local irreducible] post GD Nxt NxtAll
def uD (k : Int) : Bool := decide (k = 5) || decide (k = 6)
def uZ (k c o n : Int) (b : ByteArray) (zs : List Int) : List Int := if uD k then zs else doZ k c o n b zs
def uR (k c o n : Int) (b : ByteArray) (zs : List Int) : Int := if uD k then 0 else doR k c o n b zs
def uE (d : Dk) (k c o n : Int) (b : ByteArray) (zs : List Int) : Int := if uD k then dE d k c o n b else chk zs.length k c o n b
def uO (d : Dk) (k c o n : Int) (b : ByteArray) (zs : List Int) : Bool := if uD k then decide (dE d k c o n b = 0) else doOk k c o n b zs
def uS (d : Dk) (k c o n : Int) (b : ByteArray) : List ByteArray := if uD k then dS d k c o n b else d.S
def uW (d : Dk) (k c o n : Int) (b : ByteArray) : List (Int × ByteArray) := if uD k then dW d k c o n b else d.W
theorem uS_len {d : Dk} (hd : d.ok) (hg : d.gen) (k c o n : Int) (b : ByteArray) : (uS d k c o n b).length = d.sl := by
  unfold uS dS waS
  repeat' split
  all_goals first | exact hg.hS | (rw [List.length_set]; exact hg.hS)
theorem uW_len {d : Dk} (hg : d.gen) (htl : d.tl ≤ 60) (k c o n : Int) (b : ByteArray) : (uW d k c o n b).length ≤ 61 := by
  have := hg.hW
  unfold uW dW waW
  repeat' split
  all_goals first | (simp only [List.length_append, List.length_nil, List.length_cons]; omega) | omega
theorem pdo_u (w0 : World) (d : Dk) (hd : d.ok) (hg : d.gen) (htl : d.tl ≤ 60) (hA : StrAt w0 d.b d.o d.S) (hB : WasAt w0 d.c d.p d.W) (zs : List Int) (ma : Option Addr) (mc mb mo : Nat) (hz : zs.length ≤ 60) (hm : zs.length = 0 ∨ ma = some ⟨mb, mo, none⟩) (hI : IntsAt w0 mb mo zs) (k c o n : Int) (b : ByteArray) : Calls Try.prog 8 #[.agg #[.slice ma zs.length mc], d.v, .agg #[.int .i64 k, .int .i64 c, .int .i64 o, .int .i64 n, .string b]] w0 fun e w' => ∃ qx : Mv × Dk, e = .returned (.tuple #[.agg #[.slice qx.1.a (uZ k c o n b zs).length qx.1.c], qx.2.v, .agg #[.int .i64 (uR k c o n b zs), .bool (uO d k c o n b zs)], .int .i64 (uE d k c o n b zs)]) ∧ (qx.1.ok w0.heap.size w' mb zs (uZ k c o n b zs) ∧ Dvv w0.heap.size w' d qx.2 (uS d k c o n b) (uW d k c o n b)) ∧ Below w0.heap.size w0 w' := by
  by_cases h5 : k = 5
  · subst h5
    exact (pdo_5 w0 d hd hg htl hA hB zs ma mc mb mo hz hm hI c o n b).mono fun e w' ⟨x, q1, q2, q3, q4⟩ => ⟨⟨⟨ma, mc, mb, mo⟩, x⟩, q1, ⟨⟨hm, q3, by by_cases h : zs.length = 0; exact Or.inl h; exact Or.inr (Or.inr ⟨rfl, h⟩)⟩, q2⟩, q4⟩
  by_cases h6 : k = 6
  · subst h6
    exact (pdo_6 w0 d hd hg htl hA hB zs ma mc mb mo hz hm hI c o n b).mono fun e w' ⟨x, q1, q2, q3, q4⟩ => ⟨⟨⟨ma, mc, mb, mo⟩, x⟩, q1, ⟨⟨hm, q3, by by_cases h : zs.length = 0; exact Or.inl h; exact Or.inr (Or.inr ⟨rfl, h⟩)⟩, q2⟩, q4⟩
  have hu : uD k = false := by unfold uD; rw [decide_eq_false h5, decide_eq_false h6]; rfl
  have e1 : uZ k c o n b zs = doZ k c o n b zs := by unfold uZ; rw [hu]; rfl
  have e2 : uR k c o n b zs = doR k c o n b zs := by unfold uR; rw [hu]; rfl
  have e3 : uO d k c o n b zs = doOk k c o n b zs := by unfold uO; rw [hu]; rfl
  have e4 : uE d k c o n b zs = chk zs.length k c o n b := by unfold uE; rw [hu]; rfl
  have e5 : uS d k c o n b = d.S := by unfold uS; rw [hu]; rfl
  have e6 : uW d k c o n b = d.W := by unfold uW; rw [hu]; rfl
  rw [e1, e2, e3, e4, e5, e6]
  exact (pdo_m w0 d hd hg htl hA hB zs ma mc mb mo hz hm hI k c o n b h5 h6).mono fun e w' ⟨q, q1, q2, q3⟩ => ⟨⟨q, d⟩, q1, ⟨q2, dvv_self _ hg (fun j hj => (q3.cell (p := ⟨d.b, d.o + j, none⟩) (World.block_lt_of_cell? w0 _ (hA j hj))).trans (hA j hj)) (fun j hj => ⟨(q3.cell (p := ⟨d.c, d.p + j * 2, none⟩) (World.block_lt_of_cell? w0 _ (hB j hj).1)).trans (hB j hj).1, (q3.cell (p := ⟨d.c, d.p + j * 2 + 1, none⟩) (World.block_lt_of_cell? w0 _ (hB j hj).2)).trans (hB j hj).2⟩)⟩, q3⟩
theorem rdo_u (w0 : World) (d : Dk) (hd : d.ok) (hg : d.gen) (htl : d.tl ≤ 60) (hA : StrAt w0 d.b d.o d.S) (hB : WasAt w0 d.c d.p d.W) (zs : List Int) (ma : Option Addr) (mc mb mo : Nat) (hz : zs.length ≤ 60) (hm : zs.length = 0 ∨ ma = some ⟨mb, mo, none⟩) (hI : IntsAt w0 mb mo zs) (k c o n : Int) (b : ByteArray) : Calls Try.prog 9 #[.agg #[.slice ma zs.length mc], d.v, .agg #[.int .i64 k, .int .i64 c, .int .i64 o, .int .i64 n, .string b]] w0 fun e w' => ∃ qx : Mv × Dk, e = .returned (.tuple #[.agg #[.slice qx.1.a (uZ k c o n b zs).length qx.1.c], qx.2.v, .agg #[.int .i64 (uR k c o n b zs), .bool (uO d k c o n b zs)], .int .i64 (uE d k c o n b zs)]) ∧ (qx.1.ok w0.heap.size w' mb zs (uZ k c o n b zs) ∧ Dvv w0.heap.size w' d qx.2 (uS d k c o n b) (uW d k c o n b)) ∧ Below w0.heap.size w0 w' := by
  by_cases h5 : k = 5
  · subst h5
    exact (rdo_5 w0 d hd hg htl hA hB zs ma mc mb mo hz hm hI c o n b).mono fun e w' ⟨x, q1, q2, q3, q4⟩ => ⟨⟨⟨ma, mc, mb, mo⟩, x⟩, q1, ⟨⟨hm, q3, by by_cases h : zs.length = 0; exact Or.inl h; exact Or.inr (Or.inr ⟨rfl, h⟩)⟩, q2⟩, q4⟩
  by_cases h6 : k = 6
  · subst h6
    exact (rdo_6 w0 d hd hg htl hA hB zs ma mc mb mo hz hm hI c o n b).mono fun e w' ⟨x, q1, q2, q3, q4⟩ => ⟨⟨⟨ma, mc, mb, mo⟩, x⟩, q1, ⟨⟨hm, q3, by by_cases h : zs.length = 0; exact Or.inl h; exact Or.inr (Or.inr ⟨rfl, h⟩)⟩, q2⟩, q4⟩
  have hu : uD k = false := by unfold uD; rw [decide_eq_false h5, decide_eq_false h6]; rfl
  have e1 : uZ k c o n b zs = doZ k c o n b zs := by unfold uZ; rw [hu]; rfl
  have e2 : uR k c o n b zs = doR k c o n b zs := by unfold uR; rw [hu]; rfl
  have e3 : uO d k c o n b zs = doOk k c o n b zs := by unfold uO; rw [hu]; rfl
  have e4 : uE d k c o n b zs = chk zs.length k c o n b := by unfold uE; rw [hu]; rfl
  have e5 : uS d k c o n b = d.S := by unfold uS; rw [hu]; rfl
  have e6 : uW d k c o n b = d.W := by unfold uW; rw [hu]; rfl
  rw [e1, e2, e3, e4, e5, e6]
  exact (rdo_m w0 d hd hg htl hA hB zs ma mc mb mo hz hm hI k c o n b h5 h6).mono fun e w' ⟨q, q1, q2, q3⟩ => ⟨⟨q, d⟩, q1, ⟨q2, dvv_self _ hg (fun j hj => (q3.cell (p := ⟨d.b, d.o + j, none⟩) (World.block_lt_of_cell? w0 _ (hA j hj))).trans (hA j hj)) (fun j hj => ⟨(q3.cell (p := ⟨d.c, d.p + j * 2, none⟩) (World.block_lt_of_cell? w0 _ (hB j hj).1)).trans (hB j hj).1, (q3.cell (p := ⟨d.c, d.p + j * 2 + 1, none⟩) (World.block_lt_of_cell? w0 _ (hB j hj).2)).trans (hB j hj).2⟩)⟩, q3⟩
theorem ex_eqR {s : SS} {bs : List Nat} {x y : Operand} {t' ty : TypeId} {p : Int} {q : Bool} (hx : s.val x = some (.v (.agg #[.int .i64 p, .bool q]))) (hy : s.val y = some (.v (.agg #[.int .i64 p, .bool q]))) :
    ∀ (o : Oper) (ρ : Operand → Value) (W : World), o.op = .binOp .eql 34 x y t' → o.type = ty → (∀ x y, s.val x = some y → ρ x = den bs y) → (execOp ρ o).run Try.prog W = .ok (.value (.bool true)) W := by
  intro o ρ W h1 h2 h3
  have e1 : ρ x = .agg #[.int .i64 p, .bool q] := h3 x _ hx
  have e2 : ρ y = .agg #[.int .i64 p, .bool q] := h3 y _ hy
  have hg : ∀ W, (eqGuard .eql 34 x y (.agg #[.int .i64 p, .bool q]) (.agg #[.int .i64 p, .bool q])).run Try.prog W = .ok () W := fun W => run_eqGuard_agg W .eql 34 x y _ _ res_guard
  have hr : ∀ W, (binOp .eql 34 (.agg #[.int .i64 p, .bool q]) (.agg #[.int .i64 p, .bool q])).run Try.prog W = .ok (.bool true) W := fun W => by rw [res_eql]; simp
  unfold execOp
  simp only [h1, e1, e2, hg, hr, Sem.run_bind, Sem.run_pure, Result.andThen_ok]
set_option maxHeartbeats 8000000 in
theorem ddm_all (w0 : World) (d : Dk) (hg : d.gen) (hA : StrAt w0 d.b d.o d.S) (hB : WasAt w0 d.c d.p d.W) (zs : List Int) (ma : Option Addr) (mc mb mo : Nat) (hm : zs.length = 0 ∨ ma = some ⟨mb, mo, none⟩) (hI : IntsAt w0 mb mo zs) (k c o n : Int) (b : ByteArray) : Calls Try.prog 3 #[.agg #[.slice ma zs.length mc], d.v, .agg #[.int .i64 k, .int .i64 c, .int .i64 o, .int .i64 n, .string b]] w0 fun e w' => e = .returned (.bool true) ∧ Below w0.heap.size w0 w' := by
  refine sy_enterF [] [rfSt d.b d.o d.S, rfWs d.c d.p d.W, rfIn mb mo zs] (by intro f hf; simp only [List.mem_cons, List.not_mem_nil, or_false] at hf; rcases hf with rfl | rfl | rfl; exact hA; exact hB; exact hI) Try.func3 rfl rfl fun aa S => ?_
  refine sy_run ⟨0, [1]⟩ 60 S fun bs aa w S => ?_
  refine sy_reg S fun S => ?_
  refine sy_call1 S (sane25 w) (by kernel_rfl) fun aa w hb S => ?_
  refine sy_run ⟨0, [2]⟩ 60 S fun bs aa w S => ?_
  refine sy_reg S fun S => ?_
  refine sy_ops 4 S fun bs aa w S => ?_
  by_cases hz : zs.length ≤ 60
  case neg =>
    refine sy_cast 20 S (congrArg Value.bool (decide_eq_true (by omega) : decide ((zs.length : Int) > 60) = true)) (by kernel_rfl) fun S => ?_
    refine sy_run ⟨0, []⟩ 60 S fun bs aa w S => ?_
    exact sy_ret S (by kernel_rfl) (by kernel_rfl) fun hg => ⟨rfl, bel_gr hg⟩
  refine sy_cast 20 S (congrArg Value.bool (decide_eq_false (by omega) : decide ((zs.length : Int) > 60) = false)) (by kernel_rfl) fun S => ?_
  refine sy_ops 2 S fun bs aa w S => ?_
  refine sy_call1 S (few_t w d hg (S.fact (f := rfSt d.b d.o d.S) (by simp)) (S.fact (f := rfWs d.c d.p d.W) (by simp))) (by kernel_rfl) fun aa w hb S => ?_
  rcases Bool.eq_false_or_eq_true (fewB d) with hf | hf
  case inr =>
    refine sy_cast 23 S (congrArg Value.bool hf) (by kernel_rfl) fun S => ?_
    refine sy_run ⟨0, []⟩ 60 S fun bs aa w S => ?_
    exact sy_ret S (by kernel_rfl) (by kernel_rfl) fun hg => ⟨rfl, bel_gr hg⟩
  refine sy_cast 23 S (congrArg Value.bool hf) (by kernel_rfl) fun S => ?_
  obtain ⟨hd1, htl⟩ := few_of hf
  refine sy_ops 4 S fun bs aa w S => ?_
  refine sy_call1 S (rright_t w d hg htl (S.fact (f := rfSt d.b d.o d.S) (by simp)) (S.fact (f := rfWs d.c d.p d.W) (by simp))) (by kernel_rfl) fun aa w hb S => ?_
  rcases Bool.eq_false_or_eq_true (dkRB d) with hR | hR
  case inr =>
    refine sy_cast 28 S (congrArg Value.bool hR) (by kernel_rfl) fun S => ?_
    refine sy_run ⟨0, []⟩ 60 S fun bs aa w S => ?_
    exact sy_ret S (by kernel_rfl) (by kernel_rfl) fun hg => ⟨rfl, bel_gr hg⟩
  refine sy_cast 28 S (congrArg Value.bool hR) (by kernel_rfl) fun S => ?_
  obtain ⟨hr, hsl⟩ := right_of hg hR
  have hd := gen_ok hg hsl (by omega)
  refine sy_ops 7 S fun bs aa w S => ?_
  by_cases hb60 : b.size ≤ 60
  case neg =>
    refine sy_cast 35 S (congrArg Value.bool (decide_eq_true (by omega) : decide ((b.size : Int) > 60) = true)) (by kernel_rfl) fun S => ?_
    refine sy_run ⟨0, []⟩ 60 S fun bs aa w S => ?_
    exact sy_ret S (by kernel_rfl) (by kernel_rfl) fun hg => ⟨rfl, bel_gr hg⟩
  refine sy_cast 35 S (congrArg Value.bool (decide_eq_false (by omega) : decide ((b.size : Int) > 60) = false)) (by kernel_rfl) fun S => ?_
  have hSl := uS_len hd hg k c o n b
  have hWl := uW_len hg htl k c o n b
  have hZl : (uZ k c o n b zs).length ≤ 9223372036854775807 := by
    unfold uZ
    split
    · omega
    · unfold doZ
      split
      · rw [appZ_length]; omega
      · omega
  have HP := fun w hA hB hI => pdo_u w d hd hg htl hA hB zs ma mc mb mo hz hm hI k c o n b
  have HQ := fun w hA hB hI => rdo_u w d hd hg htl hA hB zs ma mc mb mo hz hm hI k c o n b
  generalize uZ k c o n b zs = Z at *
  generalize uR k c o n b zs = R at *
  generalize uO d k c o n b zs = OK at *
  generalize uE d k c o n b zs = E at *
  generalize uS d k c o n b = S1 at *
  generalize uW d k c o n b = W1 at *
  refine sy_run ⟨0, [4]⟩ 60 S fun bs aa w S => ?_
  refine sy_reg S fun S => ?_
  refine sy_ops 3 S fun bs aa w S => ?_
  have hdS := (S.fs (rfSt d.b d.o d.S) (by simp)).2
  have hdW := (S.fs (rfWs d.c d.p d.W) (by simp)).2
  have hdM := (S.fs (rfIn mb mo zs) (by simp)).2
  have hlt4 := fun j hj => S.lt (i := j) hj
  refine sy_call S (X := Mv × Dk) (val := fun qx => .tuple #[.agg #[.slice qx.1.a Z.length qx.1.c], qx.2.v, .agg #[.int .i64 R, .bool OK], .int .i64 E]) (C := fun qx w' => qx.1.ok w.heap.size w' mb zs Z ∧ Dvv w.heap.size w' d qx.2 S1 W1) (f := 8) (args := #[.agg #[.slice ma zs.length mc], d.v, .agg #[.int .i64 k, .int .i64 c, .int .i64 o, .int .i64 n, .string b]]) (HP w (S.fact (f := rfSt d.b d.o d.S) (by simp)) (S.fact (f := rfWs d.c d.p d.W) (by simp)) (S.fact (f := rfIn mb mo zs) (by simp))) (by kernel_rfl) fun qx1 aa w hx1 hb S => ?_
  obtain ⟨hq1, hx1⟩ := hx1
  have S := S.add (rfIn qx1.1.b qx1.1.o Z) hq1.hI (fun j hj hb => by have q1 := hlt4 j hj; obtain ⟨q2, q3⟩ := hb; rcases hq1.h0 with q4 | q4 | ⟨q4, q5⟩; exact q3 q4; omega; exact hdM j hj ⟨q2.trans q4, q5⟩)
  have S := (S.add (rfSt qx1.2.b qx1.2.o qx1.2.S) hx1.sA (fun j hj hb => by have q1 := hlt4 j hj; obtain ⟨q2, q3⟩ := hb; rcases hx1.b0 with q4 | q4 | ⟨q4, q5⟩; exact q3 q4; omega; exact hdS j hj ⟨q2.trans q4, q5⟩)).add (rfWs qx1.2.c qx1.2.p qx1.2.W) hx1.wA (fun j hj hb => by have q1 := hlt4 j hj; obtain ⟨q2, q3⟩ := hb; rcases hx1.c0 with q4 | q4 | ⟨q4, q5⟩; exact q3 q4; omega; exact hdW j hj ⟨q2.trans q4, q5⟩)
  refine sy_run ⟨0, [5]⟩ 60 S fun bs aa w S => ?_
  refine sy_reg S fun S => ?_
  refine sy_ops 3 S fun bs aa w S => ?_
  have hdS := (S.fs (rfSt d.b d.o d.S) (by simp)).2
  have hdW := (S.fs (rfWs d.c d.p d.W) (by simp)).2
  have hdM := (S.fs (rfIn mb mo zs) (by simp)).2
  have hlt5 := fun j hj => S.lt (i := j) hj
  refine sy_call S (X := Mv × Dk) (val := fun qx => .tuple #[.agg #[.slice qx.1.a Z.length qx.1.c], qx.2.v, .agg #[.int .i64 R, .bool OK], .int .i64 E]) (C := fun qx w' => qx.1.ok w.heap.size w' mb zs Z ∧ Dvv w.heap.size w' d qx.2 S1 W1) (f := 9) (args := #[.agg #[.slice ma zs.length mc], d.v, .agg #[.int .i64 k, .int .i64 c, .int .i64 o, .int .i64 n, .string b]]) (HQ w (S.fact (f := rfSt d.b d.o d.S) (by simp)) (S.fact (f := rfWs d.c d.p d.W) (by simp)) (S.fact (f := rfIn mb mo zs) (by simp))) (by kernel_rfl) fun qx2 aa w hx2 hb S => ?_
  obtain ⟨hq2, hx2⟩ := hx2
  have S := S.add (rfIn qx2.1.b qx2.1.o Z) hq2.hI (fun j hj hb => by have q1 := hlt5 j hj; obtain ⟨q2, q3⟩ := hb; rcases hq2.h0 with q4 | q4 | ⟨q4, q5⟩; exact q3 q4; omega; exact hdM j hj ⟨q2.trans q4, q5⟩)
  have S := (S.add (rfSt qx2.2.b qx2.2.o qx2.2.S) hx2.sA (fun j hj hb => by have q1 := hlt5 j hj; obtain ⟨q2, q3⟩ := hb; rcases hx2.b0 with q4 | q4 | ⟨q4, q5⟩; exact q3 q4; omega; exact hdS j hj ⟨q2.trans q4, q5⟩)).add (rfWs qx2.2.c qx2.2.p qx2.2.W) hx2.wA (fun j hj hb => by have q1 := hlt5 j hj; obtain ⟨q2, q3⟩ := hb; rcases hx2.c0 with q4 | q4 | ⟨q4, q5⟩; exact q3 q4; omega; exact hdW j hj ⟨q2.trans q4, q5⟩)
  refine sy_run ⟨0, [6]⟩ 60 S fun bs aa w S => ?_
  refine sy_reg S fun S => ?_
  refine sy_ops 4 S fun bs aa w S => ?_
  refine sy_call1 S (v := .bool true) (f := 10) (args := #[.agg #[.slice qx1.1.a Z.length qx1.1.c], .agg #[.slice qx2.1.a Z.length qx2.1.c]]) ((rsame_any _ _ Z Z w ⟨qx1.1.a, qx1.1.c, rfl, hZl, hq1.ha.imp id fun h => ⟨qx1.1.b, qx1.1.o, h, S.fact (f := rfIn qx1.1.b qx1.1.o Z) (by simp)⟩⟩ ⟨qx2.1.a, qx2.1.c, rfl, hZl, hq2.ha.imp id fun h => ⟨qx2.1.b, qx2.1.o, h, S.fact (f := rfIn qx2.1.b qx2.1.o Z) (by simp)⟩⟩).mono fun e w' h => ⟨by rw [h.1, decide_eq_true rfl], h.2⟩) (by kernel_rfl) fun aa w hb S => ?_
  refine sy_ops 4 S fun bs aa w S => ?_
  have hxl : qx1.2.sl ≤ 600 ∧ qx1.2.tl ≤ 100 := ⟨by rw [← hx1.g.hS, hx1.eS]; omega, by rw [← hx1.g.hW, hx1.eW]; omega⟩
  have hsm : sameB qx1.2 qx2.2 = true := by unfold sameB; rw [hx1.eS, hx2.eS, hx1.eW, hx2.eW, decide_eq_true rfl, decide_eq_true rfl]; rfl
  refine sy_call1 S (v := .bool true) (f := 11) (args := #[qx1.2.v, qx2.2.v]) ((rsame_t w qx1.2 qx2.2 hx1.g hx2.g hxl (S.fact (f := rfSt qx1.2.b qx1.2.o qx1.2.S) (by simp)) (S.fact (f := rfWs qx1.2.c qx1.2.p qx1.2.W) (by simp)) (S.fact (f := rfSt qx2.2.b qx2.2.o qx2.2.S) (by simp)) (S.fact (f := rfWs qx2.2.c qx2.2.p qx2.2.W) (by simp))).mono fun e w' h => ⟨by rw [h.1, hsm], h.2⟩) (by kernel_rfl) fun aa w hb S => ?_
  refine sy_ops 4 S fun bs aa w S => ?_
  refine sy_ex (op := .binOp .eql 34 (.tmp 68) (.tmp 69) 34) (ty := 4) (v := .bool true) S (by kernel_rfl) (ex_eqR (p := R) (q := OK) (by kernel_rfl) (by kernel_rfl)) fun aa S => ?_
  refine sy_ops 5 S fun bs aa w S => ?_
  refine sy_cast 75 S (congrArg Value.bool (decide_eq_true rfl : decide (E = E) = true)) (by kernel_rfl) fun S => ?_
  refine sy_run ⟨0, []⟩ 60 S fun bs aa w S => ?_
  exact sy_ret S (by kernel_rfl) (by kernel_rfl) fun hg => ⟨rfl, bel_gr hg⟩
end Go.Proofs.Ytekcjffdooekaaa


/-
  Layer 25: the statement DurableSeparates.
-/
namespace Go.Proofs.Ytekcjffdooekaaa
open Go Go.RowKit SZ
set_option linter.unusedVariables false
set_option linter.unusedSimpArgs false
set_option maxRecDepth 100000
attribute [local irreducible] post GD Nxt NxtAll
theorem u_Z {d : Dk} {k c o n : Int} {b : ByteArray} {zs : List Int} (h : uD k = true ∨ uE d k c o n b zs ≠ 0) : uZ k c o n b zs = zs := by
  unfold uZ
  by_cases hu : uD k = true
  · rw [if_pos hu]
  · have h := h.resolve_left hu
    unfold uE at h
    rw [if_neg hu] at h ⊢
    unfold doZ
    rw [if_neg h]
theorem u_S {d : Dk} {k c o n : Int} {b : ByteArray} {zs : List Int} (h : uD k = false ∨ uE d k c o n b zs ≠ 0) : uS d k c o n b = d.S ∧ uW d k c o n b = d.W := by
  unfold uS uW
  by_cases hu : uD k = true
  · have h := h.resolve_left (by rw [hu]; simp)
    unfold uE at h
    rw [if_pos hu] at h ⊢
    rw [if_pos hu]
    exact dE_err h
  · rw [if_neg hu, if_neg hu]; exact ⟨rfl, rfl⟩
theorem u_R {d : Dk} {k c o n : Int} {b : ByteArray} {zs : List Int} (h : uE d k c o n b zs ≠ 0) : uR k c o n b zs = 0 ∧ uO d k c o n b zs = false := by
  unfold uR uO
  unfold uE at h
  by_cases hu : uD k = true
  · rw [if_pos hu] at h ⊢
    rw [if_pos hu]
    exact ⟨rfl, decide_eq_false h⟩
  · rw [if_neg hu] at h ⊢
    rw [if_neg hu]
    unfold doR doOk
    rw [if_neg h, if_neg h]
    exact ⟨rfl, rfl⟩
theorem u_6 {d : Dk} {c o n : Int} {b : ByteArray} {zs : List Int} (h : uE d 6 c o n b zs = 0) : uW d 6 c o n b = [] := by
  unfold uE at h
  rw [if_pos (by rfl)] at h
  unfold uW
  rw [if_pos (by rfl)]
  unfold dE at h
  unfold dW
  rw [if_neg (by decide)] at h ⊢
  by_cases h0 : c = 0 ∧ o = 0 ∧ n = 0 ∧ b = ByteArray.empty
  · rw [if_pos h0]
  · rw [if_neg h0] at h; cases h
theorem u_5 {d : Dk} (hg : d.gen) {c o n : Int} {b : ByteArray} {zs : List Int} (h : uE d 5 c o n b zs = 0) : (uW d 5 c o n b).length = d.tl + 1 := by
  unfold uE at h
  rw [if_pos (by rfl)] at h
  unfold uW
  rw [if_pos (by rfl)]
  unfold dE at h
  unfold dW
  rw [if_pos rfl] at h ⊢
  by_cases h0 : o = 0 ∧ n = 0
  · rw [if_pos h0] at h ⊢
    unfold waE at h
    unfold waW waOk
    by_cases h1 : 0 ≤ c ∧ c < (d.sl : Int)
    · rw [if_pos h1] at h
      by_cases h2 : b.size = 32
      · rw [decide_eq_true h1, decide_eq_true h2, Bool.and_self, if_pos rfl, List.length_append, hg.hW]; rfl
      · rw [if_neg h2] at h; cases h
    · rw [if_neg h1] at h; cases h
  · rw [if_neg h0] at h; cases h
set_option maxHeartbeats 8000000 in
theorem dse_5 (w0 : World) (d : Dk) (hg : d.gen) (hA : StrAt w0 d.b d.o d.S) (hB : WasAt w0 d.c d.p d.W) (zs : List Int) (ma : Option Addr) (mc mb mo : Nat) (hm : zs.length = 0 ∨ ma = some ⟨mb, mo, none⟩) (hI : IntsAt w0 mb mo zs) (c o n : Int) (b : ByteArray) : Calls Try.prog 4 #[.agg #[.slice ma zs.length mc], d.v, .agg #[.int .i64 5, .int .i64 c, .int .i64 o, .int .i64 n, .string b]] w0 fun e w' => e = .returned (.bool true) ∧ Below w0.heap.size w0 w' := by
  refine sy_enterF [] [rfSt d.b d.o d.S, rfWs d.c d.p d.W, rfIn mb mo zs] (by intro f hf; simp only [List.mem_cons, List.not_mem_nil, or_false] at hf; rcases hf with rfl | rfl | rfl; exact hA; exact hB; exact hI) Try.func4 rfl rfl fun aa S => ?_
  refine sy_run ⟨0, [1]⟩ 60 S fun bs aa w S => ?_
  refine sy_reg S fun S => ?_
  refine sy_call1 S (sane25 w) (by kernel_rfl) fun aa w hb S => ?_
  refine sy_run ⟨0, [2]⟩ 60 S fun bs aa w S => ?_
  refine sy_reg S fun S => ?_
  refine sy_ops 4 S fun bs aa w S => ?_
  by_cases hz : zs.length ≤ 60
  case neg =>
    refine sy_cast 17 S (congrArg Value.bool (decide_eq_true (by omega) : decide ((zs.length : Int) > 60) = true)) (by kernel_rfl) fun S => ?_
    refine sy_run ⟨0, []⟩ 60 S fun bs aa w S => ?_
    exact sy_ret S (by kernel_rfl) (by kernel_rfl) fun hg => ⟨rfl, bel_gr hg⟩
  refine sy_cast 17 S (congrArg Value.bool (decide_eq_false (by omega) : decide ((zs.length : Int) > 60) = false)) (by kernel_rfl) fun S => ?_
  refine sy_ops 2 S fun bs aa w S => ?_
  refine sy_call1 S (few_t w d hg (S.fact (f := rfSt d.b d.o d.S) (by simp)) (S.fact (f := rfWs d.c d.p d.W) (by simp))) (by kernel_rfl) fun aa w hb S => ?_
  rcases Bool.eq_false_or_eq_true (fewB d) with hf | hf
  case inr =>
    refine sy_cast 20 S (congrArg Value.bool hf) (by kernel_rfl) fun S => ?_
    refine sy_run ⟨0, []⟩ 60 S fun bs aa w S => ?_
    exact sy_ret S (by kernel_rfl) (by kernel_rfl) fun hg => ⟨rfl, bel_gr hg⟩
  refine sy_cast 20 S (congrArg Value.bool hf) (by kernel_rfl) fun S => ?_
  obtain ⟨hd1, htl⟩ := few_of hf
  refine sy_ops 4 S fun bs aa w S => ?_
  refine sy_call1 S (rright_t w d hg htl (S.fact (f := rfSt d.b d.o d.S) (by simp)) (S.fact (f := rfWs d.c d.p d.W) (by simp))) (by kernel_rfl) fun aa w hb S => ?_
  rcases Bool.eq_false_or_eq_true (dkRB d) with hR | hR
  case inr =>
    refine sy_cast 25 S (congrArg Value.bool hR) (by kernel_rfl) fun S => ?_
    refine sy_run ⟨0, []⟩ 60 S fun bs aa w S => ?_
    exact sy_ret S (by kernel_rfl) (by kernel_rfl) fun hg => ⟨rfl, bel_gr hg⟩
  refine sy_cast 25 S (congrArg Value.bool hR) (by kernel_rfl) fun S => ?_
  obtain ⟨hr, hsl⟩ := right_of hg hR
  have hd := gen_ok hg hsl (by omega)
  refine sy_ops 7 S fun bs aa w S => ?_
  by_cases hb60 : b.size ≤ 60
  case neg =>
    refine sy_cast 32 S (congrArg Value.bool (decide_eq_true (by omega) : decide ((b.size : Int) > 60) = true)) (by kernel_rfl) fun S => ?_
    refine sy_run ⟨0, []⟩ 60 S fun bs aa w S => ?_
    exact sy_ret S (by kernel_rfl) (by kernel_rfl) fun hg => ⟨rfl, bel_gr hg⟩
  refine sy_cast 32 S (congrArg Value.bool (decide_eq_false (by omega) : decide ((b.size : Int) > 60) = false)) (by kernel_rfl) fun S => ?_
  have hSl := uS_len hd hg 5 c o n b
  have hWl := uW_len hg htl 5 c o n b
  have hZl : (uZ 5 c o n b zs).length ≤ 9223372036854775807 := by
    unfold uZ
    split
    · omega
    · unfold doZ
      split
      · rw [appZ_length]; omega
      · omega
  have hu : uD 5 = true := rfl
  have uz := @u_Z d 5 c o n b zs
  have us := @u_S d 5 c o n b zs
  have ur := @u_R d 5 c o n b zs
  have u5 := @u_5 d hg c o n b zs
  have HP := fun w hA hB hI => pdo_u w d hd hg htl hA hB zs ma mc mb mo hz hm hI 5 c o n b
  generalize uZ 5 c o n b zs = Z at *
  generalize uR 5 c o n b zs = R at *
  generalize uO d 5 c o n b zs = OK at *
  generalize uE d 5 c o n b zs = E at *
  generalize uS d 5 c o n b = S1 at *
  generalize uW d 5 c o n b = W1 at *
  by_cases hE : E = 0
  case neg =>
    obtain ⟨rfl, rfl⟩ := ur hE
    have eZ := uz (Or.inr hE)
    have eSW := us (Or.inr hE)
    refine sy_run ⟨0, [4]⟩ 60 S fun bs aa w S => ?_
    refine sy_reg S fun S => ?_
    refine sy_ops 3 S fun bs aa w S => ?_
    have hdS := (S.fs (rfSt d.b d.o d.S) (by simp)).2
    have hdW := (S.fs (rfWs d.c d.p d.W) (by simp)).2
    have hdM := (S.fs (rfIn mb mo zs) (by simp)).2
    have hlt4 := fun j hj => S.lt (i := j) hj
    refine sy_call S (X := Mv × Dk) (val := fun qx => .tuple #[.agg #[.slice qx.1.a Z.length qx.1.c], qx.2.v, .agg #[.int .i64 0, .bool false], .int .i64 E]) (C := fun qx w' => qx.1.ok w.heap.size w' mb zs Z ∧ Dvv w.heap.size w' d qx.2 S1 W1) (f := 8) (args := #[.agg #[.slice ma zs.length mc], d.v, .agg #[.int .i64 5, .int .i64 c, .int .i64 o, .int .i64 n, .string b]]) (HP w (S.fact (f := rfSt d.b d.o d.S) (by simp)) (S.fact (f := rfWs d.c d.p d.W) (by simp)) (S.fact (f := rfIn mb mo zs) (by simp))) (by kernel_rfl) fun qx1 aa w hx1 hb S => ?_
    obtain ⟨hq1, hx1⟩ := hx1
    have S := S.add (rfIn qx1.1.b qx1.1.o Z) hq1.hI (fun j hj hb => by have q1 := hlt4 j hj; obtain ⟨q2, q3⟩ := hb; rcases hq1.h0 with q4 | q4 | ⟨q4, q5⟩; exact q3 q4; omega; exact hdM j hj ⟨q2.trans q4, q5⟩)
    have S := (S.add (rfSt qx1.2.b qx1.2.o qx1.2.S) hx1.sA (fun j hj hb => by have q1 := hlt4 j hj; obtain ⟨q2, q3⟩ := hb; rcases hx1.b0 with q4 | q4 | ⟨q4, q5⟩; exact q3 q4; omega; exact hdS j hj ⟨q2.trans q4, q5⟩)).add (rfWs qx1.2.c qx1.2.p qx1.2.W) hx1.wA (fun j hj hb => by have q1 := hlt4 j hj; obtain ⟨q2, q3⟩ := hb; rcases hx1.c0 with q4 | q4 | ⟨q4, q5⟩; exact q3 q4; omega; exact hdW j hj ⟨q2.trans q4, q5⟩)
    have hxl : qx1.2.sl ≤ 600 ∧ qx1.2.tl ≤ 100 := ⟨by rw [← hx1.g.hS, hx1.eS]; omega, by rw [← hx1.g.hW, hx1.eW]; omega⟩
    refine sy_run ⟨0, [6]⟩ 60 S fun bs aa w S => ?_
    refine sy_reg S fun S => ?_
    refine sy_ops 8 S fun bs aa w S => ?_
    refine sy_call1 S (v := .bool true) (f := 10) (args := #[.agg #[.slice qx1.1.a Z.length qx1.1.c], .agg #[.slice ma zs.length mc]]) ((rsame_any _ _ Z zs w ⟨qx1.1.a, qx1.1.c, rfl, hZl, hq1.ha.imp id fun h => ⟨qx1.1.b, qx1.1.o, h, S.fact (f := rfIn qx1.1.b qx1.1.o Z) (by simp)⟩⟩ (ints_has hz hm (S.fact (f := rfIn mb mo zs) (by simp)))).mono fun e w' h => ⟨by rw [h.1, decide_eq_true eZ], h.2⟩) (by kernel_rfl) fun aa w hb S => ?_
    refine sy_ops 8 S fun bs aa w S => ?_
    refine sy_cast 68 S (congrArg Value.bool (by simp [hE] : (!decide (E = 0)) = true)) (by kernel_rfl) fun S => ?_
    refine sy_ops 4 S fun bs aa w S => ?_
    have hsm : sameB qx1.2 d = true := by unfold sameB; rw [hx1.eS, hx1.eW, eSW.1, eSW.2, decide_eq_true rfl, decide_eq_true rfl]; rfl
    refine sy_call1 S (v := .bool true) (f := 11) (args := #[qx1.2.v, d.v]) ((rsame_t w qx1.2 d hx1.g hg hxl (S.fact (f := rfSt qx1.2.b qx1.2.o qx1.2.S) (by simp)) (S.fact (f := rfWs qx1.2.c qx1.2.p qx1.2.W) (by simp)) (S.fact (f := rfSt d.b d.o d.S) (by simp)) (S.fact (f := rfWs d.c d.p d.W) (by simp))).mono fun e w' h => ⟨by rw [h.1, hsm], h.2⟩) (by kernel_rfl) fun aa w hb S => ?_
    refine sy_run ⟨0, [8]⟩ 60 S fun bs aa w S => ?_
    refine sy_reg S fun S => ?_
    refine sy_ops 2 S fun bs aa w S => ?_
    refine sy_cast 78 S (congrArg Value.bool (by simp [hE] : (!decide (E = 0)) = true)) (by kernel_rfl) fun S => ?_
    refine sy_run ⟨0, [9]⟩ 60 S fun bs aa w S => ?_
    refine sy_reg S fun S => ?_
    refine sy_ops 4 S fun bs aa w S => ?_
    refine sy_ex (op := .binOp .eql 34 (.tmp 81) (.tmp 82) 34) (ty := 4) (v := .bool true) S (by kernel_rfl) (ex_eqR (p := 0) (q := false) (by kernel_rfl) (by kernel_rfl)) fun aa S => ?_
    refine sy_run ⟨0, []⟩ 60 S fun bs aa w S => ?_
    exact sy_ret S (by kernel_rfl) (by kernel_rfl) fun hg => ⟨rfl, bel_gr hg⟩
  have eZ := uz (Or.inl hu)
  refine sy_run ⟨0, [4]⟩ 60 S fun bs aa w S => ?_
  refine sy_reg S fun S => ?_
  refine sy_ops 3 S fun bs aa w S => ?_
  have hdS := (S.fs (rfSt d.b d.o d.S) (by simp)).2
  have hdW := (S.fs (rfWs d.c d.p d.W) (by simp)).2
  have hdM := (S.fs (rfIn mb mo zs) (by simp)).2
  have hlt4 := fun j hj => S.lt (i := j) hj
  refine sy_call S (X := Mv × Dk) (val := fun qx => .tuple #[.agg #[.slice qx.1.a Z.length qx.1.c], qx.2.v, .agg #[.int .i64 R, .bool OK], .int .i64 E]) (C := fun qx w' => qx.1.ok w.heap.size w' mb zs Z ∧ Dvv w.heap.size w' d qx.2 S1 W1) (f := 8) (args := #[.agg #[.slice ma zs.length mc], d.v, .agg #[.int .i64 5, .int .i64 c, .int .i64 o, .int .i64 n, .string b]]) (HP w (S.fact (f := rfSt d.b d.o d.S) (by simp)) (S.fact (f := rfWs d.c d.p d.W) (by simp)) (S.fact (f := rfIn mb mo zs) (by simp))) (by kernel_rfl) fun qx1 aa w hx1 hb S => ?_
  obtain ⟨hq1, hx1⟩ := hx1
  have S := S.add (rfIn qx1.1.b qx1.1.o Z) hq1.hI (fun j hj hb => by have q1 := hlt4 j hj; obtain ⟨q2, q3⟩ := hb; rcases hq1.h0 with q4 | q4 | ⟨q4, q5⟩; exact q3 q4; omega; exact hdM j hj ⟨q2.trans q4, q5⟩)
  have S := (S.add (rfSt qx1.2.b qx1.2.o qx1.2.S) hx1.sA (fun j hj hb => by have q1 := hlt4 j hj; obtain ⟨q2, q3⟩ := hb; rcases hx1.b0 with q4 | q4 | ⟨q4, q5⟩; exact q3 q4; omega; exact hdS j hj ⟨q2.trans q4, q5⟩)).add (rfWs qx1.2.c qx1.2.p qx1.2.W) hx1.wA (fun j hj hb => by have q1 := hlt4 j hj; obtain ⟨q2, q3⟩ := hb; rcases hx1.c0 with q4 | q4 | ⟨q4, q5⟩; exact q3 q4; omega; exact hdW j hj ⟨q2.trans q4, q5⟩)
  have hxl : qx1.2.sl ≤ 600 ∧ qx1.2.tl ≤ 100 := ⟨by rw [← hx1.g.hS, hx1.eS]; omega, by rw [← hx1.g.hW, hx1.eW]; omega⟩
  refine sy_run ⟨0, [6]⟩ 60 S fun bs aa w S => ?_
  refine sy_reg S fun S => ?_
  refine sy_ops 8 S fun bs aa w S => ?_
  refine sy_call1 S (v := .bool true) (f := 10) (args := #[.agg #[.slice qx1.1.a Z.length qx1.1.c], .agg #[.slice ma zs.length mc]]) ((rsame_any _ _ Z zs w ⟨qx1.1.a, qx1.1.c, rfl, hZl, hq1.ha.imp id fun h => ⟨qx1.1.b, qx1.1.o, h, S.fact (f := rfIn qx1.1.b qx1.1.o Z) (by simp)⟩⟩ (ints_has hz hm (S.fact (f := rfIn mb mo zs) (by simp)))).mono fun e w' h => ⟨by rw [h.1, decide_eq_true eZ], h.2⟩) (by kernel_rfl) fun aa w hb S => ?_
  refine sy_ops 8 S fun bs aa w S => ?_
  refine sy_cast 68 S (congrArg Value.bool (by simp [hE] : (!decide (E = 0)) = false)) (by kernel_rfl) fun S => ?_
  refine sy_run ⟨0, [8]⟩ 60 S fun bs aa w S => ?_
  refine sy_reg S fun S => ?_
  refine sy_ops 2 S fun bs aa w S => ?_
  refine sy_cast 78 S (congrArg Value.bool (by simp [hE] : (!decide (E = 0)) = false)) (by kernel_rfl) fun S => ?_
  have hx0 : qx1.2.tl = d.tl + 1 := by rw [← hx1.g.hW, hx1.eW]; exact u5 hE
  refine sy_run ⟨0, [12]⟩ 60 S fun bs aa w S => ?_
  refine sy_reg S fun S => ?_
  refine sy_ops 12 S fun bs aa w S => ?_
  refine sy_cast 115 S (congrArg (Value.int .i64) (by rw [IntKind.wrap_i64]; omega : IntKind.i64.wrap ((d.tl : Int) + 1) = ((d.tl + 1 : Nat) : Int))) (by kernel_rfl) fun S => ?_
  refine sy_ops 1 S fun bs aa w S => ?_
  refine sy_cast 116 S (congrArg Value.bool (by simp [hx0] : decide ((qx1.2.tl : Int) = ((d.tl + 1 : Nat) : Int)) = true)) (by kernel_rfl) fun S => ?_
  refine sy_run ⟨0, []⟩ 60 S fun bs aa w S => ?_
  exact sy_ret S (by kernel_rfl) (by kernel_rfl) fun hg => ⟨rfl, bel_gr hg⟩
set_option maxHeartbeats 8000000 in
theorem dse_6 (w0 : World) (d : Dk) (hg : d.gen) (hA : StrAt w0 d.b d.o d.S) (hB : WasAt w0 d.c d.p d.W) (zs : List Int) (ma : Option Addr) (mc mb mo : Nat) (hm : zs.length = 0 ∨ ma = some ⟨mb, mo, none⟩) (hI : IntsAt w0 mb mo zs) (c o n : Int) (b : ByteArray) : Calls Try.prog 4 #[.agg #[.slice ma zs.length mc], d.v, .agg #[.int .i64 6, .int .i64 c, .int .i64 o, .int .i64 n, .string b]] w0 fun e w' => e = .returned (.bool true) ∧ Below w0.heap.size w0 w' := by
  refine sy_enterF [] [rfSt d.b d.o d.S, rfWs d.c d.p d.W, rfIn mb mo zs] (by intro f hf; simp only [List.mem_cons, List.not_mem_nil, or_false] at hf; rcases hf with rfl | rfl | rfl; exact hA; exact hB; exact hI) Try.func4 rfl rfl fun aa S => ?_
  refine sy_run ⟨0, [1]⟩ 60 S fun bs aa w S => ?_
  refine sy_reg S fun S => ?_
  refine sy_call1 S (sane25 w) (by kernel_rfl) fun aa w hb S => ?_
  refine sy_run ⟨0, [2]⟩ 60 S fun bs aa w S => ?_
  refine sy_reg S fun S => ?_
  refine sy_ops 4 S fun bs aa w S => ?_
  by_cases hz : zs.length ≤ 60
  case neg =>
    refine sy_cast 17 S (congrArg Value.bool (decide_eq_true (by omega) : decide ((zs.length : Int) > 60) = true)) (by kernel_rfl) fun S => ?_
    refine sy_run ⟨0, []⟩ 60 S fun bs aa w S => ?_
    exact sy_ret S (by kernel_rfl) (by kernel_rfl) fun hg => ⟨rfl, bel_gr hg⟩
  refine sy_cast 17 S (congrArg Value.bool (decide_eq_false (by omega) : decide ((zs.length : Int) > 60) = false)) (by kernel_rfl) fun S => ?_
  refine sy_ops 2 S fun bs aa w S => ?_
  refine sy_call1 S (few_t w d hg (S.fact (f := rfSt d.b d.o d.S) (by simp)) (S.fact (f := rfWs d.c d.p d.W) (by simp))) (by kernel_rfl) fun aa w hb S => ?_
  rcases Bool.eq_false_or_eq_true (fewB d) with hf | hf
  case inr =>
    refine sy_cast 20 S (congrArg Value.bool hf) (by kernel_rfl) fun S => ?_
    refine sy_run ⟨0, []⟩ 60 S fun bs aa w S => ?_
    exact sy_ret S (by kernel_rfl) (by kernel_rfl) fun hg => ⟨rfl, bel_gr hg⟩
  refine sy_cast 20 S (congrArg Value.bool hf) (by kernel_rfl) fun S => ?_
  obtain ⟨hd1, htl⟩ := few_of hf
  refine sy_ops 4 S fun bs aa w S => ?_
  refine sy_call1 S (rright_t w d hg htl (S.fact (f := rfSt d.b d.o d.S) (by simp)) (S.fact (f := rfWs d.c d.p d.W) (by simp))) (by kernel_rfl) fun aa w hb S => ?_
  rcases Bool.eq_false_or_eq_true (dkRB d) with hR | hR
  case inr =>
    refine sy_cast 25 S (congrArg Value.bool hR) (by kernel_rfl) fun S => ?_
    refine sy_run ⟨0, []⟩ 60 S fun bs aa w S => ?_
    exact sy_ret S (by kernel_rfl) (by kernel_rfl) fun hg => ⟨rfl, bel_gr hg⟩
  refine sy_cast 25 S (congrArg Value.bool hR) (by kernel_rfl) fun S => ?_
  obtain ⟨hr, hsl⟩ := right_of hg hR
  have hd := gen_ok hg hsl (by omega)
  refine sy_ops 7 S fun bs aa w S => ?_
  by_cases hb60 : b.size ≤ 60
  case neg =>
    refine sy_cast 32 S (congrArg Value.bool (decide_eq_true (by omega) : decide ((b.size : Int) > 60) = true)) (by kernel_rfl) fun S => ?_
    refine sy_run ⟨0, []⟩ 60 S fun bs aa w S => ?_
    exact sy_ret S (by kernel_rfl) (by kernel_rfl) fun hg => ⟨rfl, bel_gr hg⟩
  refine sy_cast 32 S (congrArg Value.bool (decide_eq_false (by omega) : decide ((b.size : Int) > 60) = false)) (by kernel_rfl) fun S => ?_
  have hSl := uS_len hd hg 6 c o n b
  have hWl := uW_len hg htl 6 c o n b
  have hZl : (uZ 6 c o n b zs).length ≤ 9223372036854775807 := by
    unfold uZ
    split
    · omega
    · unfold doZ
      split
      · rw [appZ_length]; omega
      · omega
  have hu : uD 6 = true := rfl
  have uz := @u_Z d 6 c o n b zs
  have us := @u_S d 6 c o n b zs
  have ur := @u_R d 6 c o n b zs
  have u6 := @u_6 d c o n b zs
  have HP := fun w hA hB hI => pdo_u w d hd hg htl hA hB zs ma mc mb mo hz hm hI 6 c o n b
  generalize uZ 6 c o n b zs = Z at *
  generalize uR 6 c o n b zs = R at *
  generalize uO d 6 c o n b zs = OK at *
  generalize uE d 6 c o n b zs = E at *
  generalize uS d 6 c o n b = S1 at *
  generalize uW d 6 c o n b = W1 at *
  by_cases hE : E = 0
  case neg =>
    obtain ⟨rfl, rfl⟩ := ur hE
    have eZ := uz (Or.inr hE)
    have eSW := us (Or.inr hE)
    refine sy_run ⟨0, [4]⟩ 60 S fun bs aa w S => ?_
    refine sy_reg S fun S => ?_
    refine sy_ops 3 S fun bs aa w S => ?_
    have hdS := (S.fs (rfSt d.b d.o d.S) (by simp)).2
    have hdW := (S.fs (rfWs d.c d.p d.W) (by simp)).2
    have hdM := (S.fs (rfIn mb mo zs) (by simp)).2
    have hlt4 := fun j hj => S.lt (i := j) hj
    refine sy_call S (X := Mv × Dk) (val := fun qx => .tuple #[.agg #[.slice qx.1.a Z.length qx.1.c], qx.2.v, .agg #[.int .i64 0, .bool false], .int .i64 E]) (C := fun qx w' => qx.1.ok w.heap.size w' mb zs Z ∧ Dvv w.heap.size w' d qx.2 S1 W1) (f := 8) (args := #[.agg #[.slice ma zs.length mc], d.v, .agg #[.int .i64 6, .int .i64 c, .int .i64 o, .int .i64 n, .string b]]) (HP w (S.fact (f := rfSt d.b d.o d.S) (by simp)) (S.fact (f := rfWs d.c d.p d.W) (by simp)) (S.fact (f := rfIn mb mo zs) (by simp))) (by kernel_rfl) fun qx1 aa w hx1 hb S => ?_
    obtain ⟨hq1, hx1⟩ := hx1
    have S := S.add (rfIn qx1.1.b qx1.1.o Z) hq1.hI (fun j hj hb => by have q1 := hlt4 j hj; obtain ⟨q2, q3⟩ := hb; rcases hq1.h0 with q4 | q4 | ⟨q4, q5⟩; exact q3 q4; omega; exact hdM j hj ⟨q2.trans q4, q5⟩)
    have S := (S.add (rfSt qx1.2.b qx1.2.o qx1.2.S) hx1.sA (fun j hj hb => by have q1 := hlt4 j hj; obtain ⟨q2, q3⟩ := hb; rcases hx1.b0 with q4 | q4 | ⟨q4, q5⟩; exact q3 q4; omega; exact hdS j hj ⟨q2.trans q4, q5⟩)).add (rfWs qx1.2.c qx1.2.p qx1.2.W) hx1.wA (fun j hj hb => by have q1 := hlt4 j hj; obtain ⟨q2, q3⟩ := hb; rcases hx1.c0 with q4 | q4 | ⟨q4, q5⟩; exact q3 q4; omega; exact hdW j hj ⟨q2.trans q4, q5⟩)
    have hxl : qx1.2.sl ≤ 600 ∧ qx1.2.tl ≤ 100 := ⟨by rw [← hx1.g.hS, hx1.eS]; omega, by rw [← hx1.g.hW, hx1.eW]; omega⟩
    refine sy_run ⟨0, [6]⟩ 60 S fun bs aa w S => ?_
    refine sy_reg S fun S => ?_
    refine sy_ops 8 S fun bs aa w S => ?_
    refine sy_call1 S (v := .bool true) (f := 10) (args := #[.agg #[.slice qx1.1.a Z.length qx1.1.c], .agg #[.slice ma zs.length mc]]) ((rsame_any _ _ Z zs w ⟨qx1.1.a, qx1.1.c, rfl, hZl, hq1.ha.imp id fun h => ⟨qx1.1.b, qx1.1.o, h, S.fact (f := rfIn qx1.1.b qx1.1.o Z) (by simp)⟩⟩ (ints_has hz hm (S.fact (f := rfIn mb mo zs) (by simp)))).mono fun e w' h => ⟨by rw [h.1, decide_eq_true eZ], h.2⟩) (by kernel_rfl) fun aa w hb S => ?_
    refine sy_ops 8 S fun bs aa w S => ?_
    refine sy_cast 68 S (congrArg Value.bool (by simp [hE] : (!decide (E = 0)) = true)) (by kernel_rfl) fun S => ?_
    refine sy_ops 4 S fun bs aa w S => ?_
    have hsm : sameB qx1.2 d = true := by unfold sameB; rw [hx1.eS, hx1.eW, eSW.1, eSW.2, decide_eq_true rfl, decide_eq_true rfl]; rfl
    refine sy_call1 S (v := .bool true) (f := 11) (args := #[qx1.2.v, d.v]) ((rsame_t w qx1.2 d hx1.g hg hxl (S.fact (f := rfSt qx1.2.b qx1.2.o qx1.2.S) (by simp)) (S.fact (f := rfWs qx1.2.c qx1.2.p qx1.2.W) (by simp)) (S.fact (f := rfSt d.b d.o d.S) (by simp)) (S.fact (f := rfWs d.c d.p d.W) (by simp))).mono fun e w' h => ⟨by rw [h.1, hsm], h.2⟩) (by kernel_rfl) fun aa w hb S => ?_
    refine sy_run ⟨0, [8]⟩ 60 S fun bs aa w S => ?_
    refine sy_reg S fun S => ?_
    refine sy_ops 2 S fun bs aa w S => ?_
    refine sy_cast 78 S (congrArg Value.bool (by simp [hE] : (!decide (E = 0)) = true)) (by kernel_rfl) fun S => ?_
    refine sy_run ⟨0, [9]⟩ 60 S fun bs aa w S => ?_
    refine sy_reg S fun S => ?_
    refine sy_ops 4 S fun bs aa w S => ?_
    refine sy_ex (op := .binOp .eql 34 (.tmp 81) (.tmp 82) 34) (ty := 4) (v := .bool true) S (by kernel_rfl) (ex_eqR (p := 0) (q := false) (by kernel_rfl) (by kernel_rfl)) fun aa S => ?_
    refine sy_run ⟨0, []⟩ 60 S fun bs aa w S => ?_
    exact sy_ret S (by kernel_rfl) (by kernel_rfl) fun hg => ⟨rfl, bel_gr hg⟩
  have eZ := uz (Or.inl hu)
  refine sy_run ⟨0, [4]⟩ 60 S fun bs aa w S => ?_
  refine sy_reg S fun S => ?_
  refine sy_ops 3 S fun bs aa w S => ?_
  have hdS := (S.fs (rfSt d.b d.o d.S) (by simp)).2
  have hdW := (S.fs (rfWs d.c d.p d.W) (by simp)).2
  have hdM := (S.fs (rfIn mb mo zs) (by simp)).2
  have hlt4 := fun j hj => S.lt (i := j) hj
  refine sy_call S (X := Mv × Dk) (val := fun qx => .tuple #[.agg #[.slice qx.1.a Z.length qx.1.c], qx.2.v, .agg #[.int .i64 R, .bool OK], .int .i64 E]) (C := fun qx w' => qx.1.ok w.heap.size w' mb zs Z ∧ Dvv w.heap.size w' d qx.2 S1 W1) (f := 8) (args := #[.agg #[.slice ma zs.length mc], d.v, .agg #[.int .i64 6, .int .i64 c, .int .i64 o, .int .i64 n, .string b]]) (HP w (S.fact (f := rfSt d.b d.o d.S) (by simp)) (S.fact (f := rfWs d.c d.p d.W) (by simp)) (S.fact (f := rfIn mb mo zs) (by simp))) (by kernel_rfl) fun qx1 aa w hx1 hb S => ?_
  obtain ⟨hq1, hx1⟩ := hx1
  have S := S.add (rfIn qx1.1.b qx1.1.o Z) hq1.hI (fun j hj hb => by have q1 := hlt4 j hj; obtain ⟨q2, q3⟩ := hb; rcases hq1.h0 with q4 | q4 | ⟨q4, q5⟩; exact q3 q4; omega; exact hdM j hj ⟨q2.trans q4, q5⟩)
  have S := (S.add (rfSt qx1.2.b qx1.2.o qx1.2.S) hx1.sA (fun j hj hb => by have q1 := hlt4 j hj; obtain ⟨q2, q3⟩ := hb; rcases hx1.b0 with q4 | q4 | ⟨q4, q5⟩; exact q3 q4; omega; exact hdS j hj ⟨q2.trans q4, q5⟩)).add (rfWs qx1.2.c qx1.2.p qx1.2.W) hx1.wA (fun j hj hb => by have q1 := hlt4 j hj; obtain ⟨q2, q3⟩ := hb; rcases hx1.c0 with q4 | q4 | ⟨q4, q5⟩; exact q3 q4; omega; exact hdW j hj ⟨q2.trans q4, q5⟩)
  have hxl : qx1.2.sl ≤ 600 ∧ qx1.2.tl ≤ 100 := ⟨by rw [← hx1.g.hS, hx1.eS]; omega, by rw [← hx1.g.hW, hx1.eW]; omega⟩
  refine sy_run ⟨0, [6]⟩ 60 S fun bs aa w S => ?_
  refine sy_reg S fun S => ?_
  refine sy_ops 8 S fun bs aa w S => ?_
  refine sy_call1 S (v := .bool true) (f := 10) (args := #[.agg #[.slice qx1.1.a Z.length qx1.1.c], .agg #[.slice ma zs.length mc]]) ((rsame_any _ _ Z zs w ⟨qx1.1.a, qx1.1.c, rfl, hZl, hq1.ha.imp id fun h => ⟨qx1.1.b, qx1.1.o, h, S.fact (f := rfIn qx1.1.b qx1.1.o Z) (by simp)⟩⟩ (ints_has hz hm (S.fact (f := rfIn mb mo zs) (by simp)))).mono fun e w' h => ⟨by rw [h.1, decide_eq_true eZ], h.2⟩) (by kernel_rfl) fun aa w hb S => ?_
  refine sy_ops 8 S fun bs aa w S => ?_
  refine sy_cast 68 S (congrArg Value.bool (by simp [hE] : (!decide (E = 0)) = false)) (by kernel_rfl) fun S => ?_
  refine sy_run ⟨0, [8]⟩ 60 S fun bs aa w S => ?_
  refine sy_reg S fun S => ?_
  refine sy_ops 2 S fun bs aa w S => ?_
  refine sy_cast 78 S (congrArg Value.bool (by simp [hE] : (!decide (E = 0)) = false)) (by kernel_rfl) fun S => ?_
  have hx0 : qx1.2.tl = 0 := by rw [← hx1.g.hW, hx1.eW, u6 hE]; rfl
  have hx2 : qx1.2.sl = d.sl := by rw [← hx1.g.hS, hx1.eS]; exact hSl
  refine sy_run ⟨0, [11]⟩ 60 S fun bs aa w S => ?_
  refine sy_reg S fun S => ?_
  refine sy_ops 6 S fun bs aa w S => ?_
  refine sy_cast 93 S (congrArg Value.bool (by simp [hx0] : decide ((qx1.2.tl : Int) = 0) = true)) (by kernel_rfl) fun S => ?_
  refine sy_ops 9 S fun bs aa w S => ?_
  refine sy_cast 102 S (congrArg Value.bool (by simp [hx2] : decide ((qx1.2.sl : Int) = (d.sl : Int)) = true)) (by kernel_rfl) fun S => ?_
  refine sy_run ⟨0, []⟩ 60 S fun bs aa w S => ?_
  exact sy_ret S (by kernel_rfl) (by kernel_rfl) fun hg => ⟨rfl, bel_gr hg⟩
set_option maxHeartbeats 8000000 in
theorem dse_m (w0 : World) (d : Dk) (hg : d.gen) (hA : StrAt w0 d.b d.o d.S) (hB : WasAt w0 d.c d.p d.W) (zs : List Int) (ma : Option Addr) (mc mb mo : Nat) (hm : zs.length = 0 ∨ ma = some ⟨mb, mo, none⟩) (hI : IntsAt w0 mb mo zs) (k c o n : Int) (b : ByteArray) (h5 : k ≠ 5) (h6 : k ≠ 6) : Calls Try.prog 4 #[.agg #[.slice ma zs.length mc], d.v, .agg #[.int .i64 k, .int .i64 c, .int .i64 o, .int .i64 n, .string b]] w0 fun e w' => e = .returned (.bool true) ∧ Below w0.heap.size w0 w' := by
  refine sy_enterF [] [rfSt d.b d.o d.S, rfWs d.c d.p d.W, rfIn mb mo zs] (by intro f hf; simp only [List.mem_cons, List.not_mem_nil, or_false] at hf; rcases hf with rfl | rfl | rfl; exact hA; exact hB; exact hI) Try.func4 rfl rfl fun aa S => ?_
  refine sy_run ⟨0, [1]⟩ 60 S fun bs aa w S => ?_
  refine sy_reg S fun S => ?_
  refine sy_call1 S (sane25 w) (by kernel_rfl) fun aa w hb S => ?_
  refine sy_run ⟨0, [2]⟩ 60 S fun bs aa w S => ?_
  refine sy_reg S fun S => ?_
  refine sy_ops 4 S fun bs aa w S => ?_
  by_cases hz : zs.length ≤ 60
  case neg =>
    refine sy_cast 17 S (congrArg Value.bool (decide_eq_true (by omega) : decide ((zs.length : Int) > 60) = true)) (by kernel_rfl) fun S => ?_
    refine sy_run ⟨0, []⟩ 60 S fun bs aa w S => ?_
    exact sy_ret S (by kernel_rfl) (by kernel_rfl) fun hg => ⟨rfl, bel_gr hg⟩
  refine sy_cast 17 S (congrArg Value.bool (decide_eq_false (by omega) : decide ((zs.length : Int) > 60) = false)) (by kernel_rfl) fun S => ?_
  refine sy_ops 2 S fun bs aa w S => ?_
  refine sy_call1 S (few_t w d hg (S.fact (f := rfSt d.b d.o d.S) (by simp)) (S.fact (f := rfWs d.c d.p d.W) (by simp))) (by kernel_rfl) fun aa w hb S => ?_
  rcases Bool.eq_false_or_eq_true (fewB d) with hf | hf
  case inr =>
    refine sy_cast 20 S (congrArg Value.bool hf) (by kernel_rfl) fun S => ?_
    refine sy_run ⟨0, []⟩ 60 S fun bs aa w S => ?_
    exact sy_ret S (by kernel_rfl) (by kernel_rfl) fun hg => ⟨rfl, bel_gr hg⟩
  refine sy_cast 20 S (congrArg Value.bool hf) (by kernel_rfl) fun S => ?_
  obtain ⟨hd1, htl⟩ := few_of hf
  refine sy_ops 4 S fun bs aa w S => ?_
  refine sy_call1 S (rright_t w d hg htl (S.fact (f := rfSt d.b d.o d.S) (by simp)) (S.fact (f := rfWs d.c d.p d.W) (by simp))) (by kernel_rfl) fun aa w hb S => ?_
  rcases Bool.eq_false_or_eq_true (dkRB d) with hR | hR
  case inr =>
    refine sy_cast 25 S (congrArg Value.bool hR) (by kernel_rfl) fun S => ?_
    refine sy_run ⟨0, []⟩ 60 S fun bs aa w S => ?_
    exact sy_ret S (by kernel_rfl) (by kernel_rfl) fun hg => ⟨rfl, bel_gr hg⟩
  refine sy_cast 25 S (congrArg Value.bool hR) (by kernel_rfl) fun S => ?_
  obtain ⟨hr, hsl⟩ := right_of hg hR
  have hd := gen_ok hg hsl (by omega)
  refine sy_ops 7 S fun bs aa w S => ?_
  by_cases hb60 : b.size ≤ 60
  case neg =>
    refine sy_cast 32 S (congrArg Value.bool (decide_eq_true (by omega) : decide ((b.size : Int) > 60) = true)) (by kernel_rfl) fun S => ?_
    refine sy_run ⟨0, []⟩ 60 S fun bs aa w S => ?_
    exact sy_ret S (by kernel_rfl) (by kernel_rfl) fun hg => ⟨rfl, bel_gr hg⟩
  refine sy_cast 32 S (congrArg Value.bool (decide_eq_false (by omega) : decide ((b.size : Int) > 60) = false)) (by kernel_rfl) fun S => ?_
  have hSl := uS_len hd hg k c o n b
  have hWl := uW_len hg htl k c o n b
  have hZl : (uZ k c o n b zs).length ≤ 9223372036854775807 := by
    unfold uZ
    split
    · omega
    · unfold doZ
      split
      · rw [appZ_length]; omega
      · omega
  have hu : uD k = false := by unfold uD; rw [decide_eq_false h5, decide_eq_false h6]; rfl
  have uz := @u_Z d k c o n b zs
  have us := @u_S d k c o n b zs
  have ur := @u_R d k c o n b zs
  have HP := fun w hA hB hI => pdo_u w d hd hg htl hA hB zs ma mc mb mo hz hm hI k c o n b
  generalize uZ k c o n b zs = Z at *
  generalize uR k c o n b zs = R at *
  generalize uO d k c o n b zs = OK at *
  generalize uE d k c o n b zs = E at *
  generalize uS d k c o n b = S1 at *
  generalize uW d k c o n b = W1 at *
  by_cases hE : E = 0
  case neg =>
    obtain ⟨rfl, rfl⟩ := ur hE
    have eZ := uz (Or.inr hE)
    have eSW := us (Or.inr hE)
    refine sy_run ⟨0, [4]⟩ 60 S fun bs aa w S => ?_
    refine sy_reg S fun S => ?_
    refine sy_ops 3 S fun bs aa w S => ?_
    have hdS := (S.fs (rfSt d.b d.o d.S) (by simp)).2
    have hdW := (S.fs (rfWs d.c d.p d.W) (by simp)).2
    have hdM := (S.fs (rfIn mb mo zs) (by simp)).2
    have hlt4 := fun j hj => S.lt (i := j) hj
    refine sy_call S (X := Mv × Dk) (val := fun qx => .tuple #[.agg #[.slice qx.1.a Z.length qx.1.c], qx.2.v, .agg #[.int .i64 0, .bool false], .int .i64 E]) (C := fun qx w' => qx.1.ok w.heap.size w' mb zs Z ∧ Dvv w.heap.size w' d qx.2 S1 W1) (f := 8) (args := #[.agg #[.slice ma zs.length mc], d.v, .agg #[.int .i64 k, .int .i64 c, .int .i64 o, .int .i64 n, .string b]]) (HP w (S.fact (f := rfSt d.b d.o d.S) (by simp)) (S.fact (f := rfWs d.c d.p d.W) (by simp)) (S.fact (f := rfIn mb mo zs) (by simp))) (by kernel_rfl) fun qx1 aa w hx1 hb S => ?_
    obtain ⟨hq1, hx1⟩ := hx1
    have S := S.add (rfIn qx1.1.b qx1.1.o Z) hq1.hI (fun j hj hb => by have q1 := hlt4 j hj; obtain ⟨q2, q3⟩ := hb; rcases hq1.h0 with q4 | q4 | ⟨q4, q5⟩; exact q3 q4; omega; exact hdM j hj ⟨q2.trans q4, q5⟩)
    have S := (S.add (rfSt qx1.2.b qx1.2.o qx1.2.S) hx1.sA (fun j hj hb => by have q1 := hlt4 j hj; obtain ⟨q2, q3⟩ := hb; rcases hx1.b0 with q4 | q4 | ⟨q4, q5⟩; exact q3 q4; omega; exact hdS j hj ⟨q2.trans q4, q5⟩)).add (rfWs qx1.2.c qx1.2.p qx1.2.W) hx1.wA (fun j hj hb => by have q1 := hlt4 j hj; obtain ⟨q2, q3⟩ := hb; rcases hx1.c0 with q4 | q4 | ⟨q4, q5⟩; exact q3 q4; omega; exact hdW j hj ⟨q2.trans q4, q5⟩)
    have hxl : qx1.2.sl ≤ 600 ∧ qx1.2.tl ≤ 100 := ⟨by rw [← hx1.g.hS, hx1.eS]; omega, by rw [← hx1.g.hW, hx1.eW]; omega⟩
    refine sy_run ⟨0, [5]⟩ 60 S fun bs aa w S => ?_
    refine sy_reg S fun S => ?_
    refine sy_ops 3 S fun bs aa w S => ?_
    refine sy_cast 46 S (congrArg Value.bool (decide_eq_false h5 : decide (k = 5) = false)) (by kernel_rfl) fun S => ?_
    refine sy_ops 4 S fun bs aa w S => ?_
    refine sy_cast 50 S (congrArg Value.bool (decide_eq_false h6 : decide (k = 6) = false)) (by kernel_rfl) fun S => ?_
    refine sy_run ⟨0, [6]⟩ 60 S fun bs aa w S => ?_
    refine sy_reg S fun S => ?_
    refine sy_ops 4 S fun bs aa w S => ?_
    refine sy_cast 55 S (congrArg Value.bool (by simp [hE] : (!decide (E = 0)) = true)) (by kernel_rfl) fun S => ?_
    refine sy_ops 4 S fun bs aa w S => ?_
    refine sy_call1 S (v := .bool true) (f := 10) (args := #[.agg #[.slice qx1.1.a Z.length qx1.1.c], .agg #[.slice ma zs.length mc]]) ((rsame_any _ _ Z zs w ⟨qx1.1.a, qx1.1.c, rfl, hZl, hq1.ha.imp id fun h => ⟨qx1.1.b, qx1.1.o, h, S.fact (f := rfIn qx1.1.b qx1.1.o Z) (by simp)⟩⟩ (ints_has hz hm (S.fact (f := rfIn mb mo zs) (by simp)))).mono fun e w' h => ⟨by rw [h.1, decide_eq_true eZ], h.2⟩) (by kernel_rfl) fun aa w hb S => ?_
    refine sy_ops 13 S fun bs aa w S => ?_
    have hsm : sameB qx1.2 d = true := by unfold sameB; rw [hx1.eS, hx1.eW, eSW.1, eSW.2, decide_eq_true rfl, decide_eq_true rfl]; rfl
    refine sy_call1 S (v := .bool true) (f := 11) (args := #[qx1.2.v, d.v]) ((rsame_t w qx1.2 d hx1.g hg hxl (S.fact (f := rfSt qx1.2.b qx1.2.o qx1.2.S) (by simp)) (S.fact (f := rfWs qx1.2.c qx1.2.p qx1.2.W) (by simp)) (S.fact (f := rfSt d.b d.o d.S) (by simp)) (S.fact (f := rfWs d.c d.p d.W) (by simp))).mono fun e w' h => ⟨by rw [h.1, hsm], h.2⟩) (by kernel_rfl) fun aa w hb S => ?_
    refine sy_run ⟨0, [8]⟩ 60 S fun bs aa w S => ?_
    refine sy_reg S fun S => ?_
    refine sy_ops 2 S fun bs aa w S => ?_
    refine sy_cast 78 S (congrArg Value.bool (by simp [hE] : (!decide (E = 0)) = true)) (by kernel_rfl) fun S => ?_
    refine sy_run ⟨0, [9]⟩ 60 S fun bs aa w S => ?_
    refine sy_reg S fun S => ?_
    refine sy_ops 4 S fun bs aa w S => ?_
    refine sy_ex (op := .binOp .eql 34 (.tmp 81) (.tmp 82) 34) (ty := 4) (v := .bool true) S (by kernel_rfl) (ex_eqR (p := 0) (q := false) (by kernel_rfl) (by kernel_rfl)) fun aa S => ?_
    refine sy_run ⟨0, []⟩ 60 S fun bs aa w S => ?_
    exact sy_ret S (by kernel_rfl) (by kernel_rfl) fun hg => ⟨rfl, bel_gr hg⟩
  have eSW := us (Or.inl hu)
  refine sy_run ⟨0, [4]⟩ 60 S fun bs aa w S => ?_
  refine sy_reg S fun S => ?_
  refine sy_ops 3 S fun bs aa w S => ?_
  have hdS := (S.fs (rfSt d.b d.o d.S) (by simp)).2
  have hdW := (S.fs (rfWs d.c d.p d.W) (by simp)).2
  have hdM := (S.fs (rfIn mb mo zs) (by simp)).2
  have hlt4 := fun j hj => S.lt (i := j) hj
  refine sy_call S (X := Mv × Dk) (val := fun qx => .tuple #[.agg #[.slice qx.1.a Z.length qx.1.c], qx.2.v, .agg #[.int .i64 R, .bool OK], .int .i64 E]) (C := fun qx w' => qx.1.ok w.heap.size w' mb zs Z ∧ Dvv w.heap.size w' d qx.2 S1 W1) (f := 8) (args := #[.agg #[.slice ma zs.length mc], d.v, .agg #[.int .i64 k, .int .i64 c, .int .i64 o, .int .i64 n, .string b]]) (HP w (S.fact (f := rfSt d.b d.o d.S) (by simp)) (S.fact (f := rfWs d.c d.p d.W) (by simp)) (S.fact (f := rfIn mb mo zs) (by simp))) (by kernel_rfl) fun qx1 aa w hx1 hb S => ?_
  obtain ⟨hq1, hx1⟩ := hx1
  have S := S.add (rfIn qx1.1.b qx1.1.o Z) hq1.hI (fun j hj hb => by have q1 := hlt4 j hj; obtain ⟨q2, q3⟩ := hb; rcases hq1.h0 with q4 | q4 | ⟨q4, q5⟩; exact q3 q4; omega; exact hdM j hj ⟨q2.trans q4, q5⟩)
  have S := (S.add (rfSt qx1.2.b qx1.2.o qx1.2.S) hx1.sA (fun j hj hb => by have q1 := hlt4 j hj; obtain ⟨q2, q3⟩ := hb; rcases hx1.b0 with q4 | q4 | ⟨q4, q5⟩; exact q3 q4; omega; exact hdS j hj ⟨q2.trans q4, q5⟩)).add (rfWs qx1.2.c qx1.2.p qx1.2.W) hx1.wA (fun j hj hb => by have q1 := hlt4 j hj; obtain ⟨q2, q3⟩ := hb; rcases hx1.c0 with q4 | q4 | ⟨q4, q5⟩; exact q3 q4; omega; exact hdW j hj ⟨q2.trans q4, q5⟩)
  have hxl : qx1.2.sl ≤ 600 ∧ qx1.2.tl ≤ 100 := ⟨by rw [← hx1.g.hS, hx1.eS]; omega, by rw [← hx1.g.hW, hx1.eW]; omega⟩
  refine sy_run ⟨0, [5]⟩ 60 S fun bs aa w S => ?_
  refine sy_reg S fun S => ?_
  refine sy_ops 3 S fun bs aa w S => ?_
  refine sy_cast 46 S (congrArg Value.bool (decide_eq_false h5 : decide (k = 5) = false)) (by kernel_rfl) fun S => ?_
  refine sy_ops 4 S fun bs aa w S => ?_
  refine sy_cast 50 S (congrArg Value.bool (decide_eq_false h6 : decide (k = 6) = false)) (by kernel_rfl) fun S => ?_
  refine sy_run ⟨0, [6]⟩ 60 S fun bs aa w S => ?_
  refine sy_reg S fun S => ?_
  refine sy_ops 4 S fun bs aa w S => ?_
  refine sy_cast 55 S (congrArg Value.bool (by simp [hE] : (!decide (E = 0)) = false)) (by kernel_rfl) fun S => ?_
  refine sy_ops 17 S fun bs aa w S => ?_
  have hsm : sameB qx1.2 d = true := by unfold sameB; rw [hx1.eS, hx1.eW, eSW.1, eSW.2, decide_eq_true rfl, decide_eq_true rfl]; rfl
  refine sy_call1 S (v := .bool true) (f := 11) (args := #[qx1.2.v, d.v]) ((rsame_t w qx1.2 d hx1.g hg hxl (S.fact (f := rfSt qx1.2.b qx1.2.o qx1.2.S) (by simp)) (S.fact (f := rfWs qx1.2.c qx1.2.p qx1.2.W) (by simp)) (S.fact (f := rfSt d.b d.o d.S) (by simp)) (S.fact (f := rfWs d.c d.p d.W) (by simp))).mono fun e w' h => ⟨by rw [h.1, hsm], h.2⟩) (by kernel_rfl) fun aa w hb S => ?_
  refine sy_run ⟨0, [8]⟩ 60 S fun bs aa w S => ?_
  refine sy_reg S fun S => ?_
  refine sy_ops 2 S fun bs aa w S => ?_
  refine sy_cast 78 S (congrArg Value.bool (by simp [hE] : (!decide (E = 0)) = false)) (by kernel_rfl) fun S => ?_
  refine sy_run ⟨0, [10]⟩ 60 S fun bs aa w S => ?_
  refine sy_reg S fun S => ?_
  refine sy_ops 3 S fun bs aa w S => ?_
  refine sy_cast 87 S (congrArg Value.bool (decide_eq_false h6 : decide (k = 6) = false)) (by kernel_rfl) fun S => ?_
  refine sy_run ⟨0, []⟩ 60 S fun bs aa w S => ?_
  exact sy_ret S (by kernel_rfl) (by kernel_rfl) fun hg => ⟨rfl, bel_gr hg⟩
theorem dse_all (w0 : World) (d : Dk) (hg : d.gen) (hA : StrAt w0 d.b d.o d.S) (hB : WasAt w0 d.c d.p d.W) (zs : List Int) (ma : Option Addr) (mc mb mo : Nat) (hm : zs.length = 0 ∨ ma = some ⟨mb, mo, none⟩) (hI : IntsAt w0 mb mo zs) (k c o n : Int) (b : ByteArray) : Calls Try.prog 4 #[.agg #[.slice ma zs.length mc], d.v, .agg #[.int .i64 k, .int .i64 c, .int .i64 o, .int .i64 n, .string b]] w0 fun e w' => e = .returned (.bool true) ∧ Below w0.heap.size w0 w' := by
  by_cases h5 : k = 5
  · subst h5; exact dse_5 w0 d hg hA hB zs ma mc mb mo hm hI c o n b
  by_cases h6 : k = 6
  · subst h6; exact dse_6 w0 d hg hA hB zs ma mc mb mo hm hI c o n b
  exact dse_m w0 d hg hA hB zs ma mc mb mo hm hI k c o n b h5 h6
end Go.Proofs.Ytekcjffdooekaaa
