/-
  Merged: BkE, BkF
-/
import Derived.Test.YtekcjffdooekaaaRows
import Derived.Test.YtekcjffdooekaaaPb2
import Derived.Test.YtekcjffdooekaaaPb11
import Derived.Test.YtekcjffdooekaaaPb12
import Derived.WalkKit

/-
  Layer 25: an access of the memory or of the device: the program.
-/
namespace Go.Proofs.Ytekcjffdooekaaa
open Go Go.RowKit SZ
set_option linter.unusedVariables false
set_option linter.unusedSimpArgs false
set_option maxRecDepth 100000
attribute [local irreducible] post GD Nxt NxtAll
theorem ints_has {w : World} {zs : List Int} {ma : Option Addr} {mc mb mo : Nat} (hz : zs.length ≤ 60) (hm : zs.length = 0 ∨ ma = some ⟨mb, mo, none⟩) (hI : IntsAt w mb mo zs) : HasInts w (.slice ma zs.length mc) zs :=
  ⟨ma, mc, rfl, by omega, hm.imp id fun h => ⟨mb, mo, h, hI⟩⟩
/-- A row of a memory: the old one or a new one. -/
structure Mv where
  a : Option Addr
  c : Nat
  b : Nat
  o : Nat
structure Mv.ok (q : Mv) (h0 : Nat) (w : World) (mb : Nat) (zs Z : List Int) : Prop where
  ha : Z.length = 0 ∨ q.a = some ⟨q.b, q.o, none⟩
  hI : IntsAt w q.b q.o Z
  h0 : Z.length = 0 ∨ h0 ≤ q.b ∨ (q.b = mb ∧ zs.length ≠ 0)
abbrev Mv.v (q : Mv) (Z : List Int) : Value := .slice q.a Z.length q.c
theorem mv_of {w' : World} {h0 : Nat} {zs Z : List Int} {ma : Option Addr} {mc mb mo : Nat} {u : Value} (hm : zs.length = 0 ∨ ma = some ⟨mb, mo, none⟩) (h1 : HasInts w' u Z) (h2 : FromO w' h0 (.slice ma zs.length mc) u Z) : ∃ q : Mv, u = q.v Z ∧ q.ok h0 w' mb zs Z := by
  obtain ⟨a', cap', rfl, q1, q2⟩ := h1
  by_cases h0' : Z.length = 0
  · exact ⟨⟨a', cap', 0, 0⟩, rfl, Or.inl h0', fun j hj => by omega, Or.inl h0'⟩
  obtain ⟨b', o', rfl, q4⟩ := q2.resolve_left h0'
  refine ⟨⟨some ⟨b', o', none⟩, cap', b', o'⟩, rfl, Or.inr rfl, q4, Or.inr ?_⟩
  rcases h2 with h2 | h2
  · injection h2 with e1 e2 e3
    rcases hm with hm | hm
    · omega
    · rw [hm] at e1
      cases e1
      exact Or.inr ⟨rfl, by omega⟩
  · rcases h2.2 with ⟨e, _⟩ | ⟨g, cap, cur, e, hg, _⟩
    · cases e
    · injection e with e1 e2 e3
      cases e1
      exact Or.inl hg
theorem pmem_t (zs : List Int) (ma : Option Addr) (mc mb mo : Nat) (hz : zs.length ≤ 60) (hm : zs.length = 0 ∨ ma = some ⟨mb, mo, none⟩) (k c o n : Int) (b : ByteArray) (w : World) (hI : IntsAt w mb mo zs) : Calls Try.prog 22 #[.agg #[.slice ma zs.length mc], acc k c o n b] w fun e w' => ∃ q : Mv, e = .returned (.tuple #[.agg #[q.v (doZ k c o n b zs)], resV (doR k c o n b zs) (doOk k c o n b zs), .int .i64 (chk zs.length k c o n b)]) ∧ q.ok w.heap.size w' mb zs (doZ k c o n b zs) ∧ Below w.heap.size w w' :=
  (do_anyF _ zs k c o n b w (ints_has hz hm hI) (by omega)).mono fun e w' ⟨u, h1, h2, h3, h4⟩ => by
    obtain ⟨q, rfl, hq⟩ := mv_of hm h2 h4
    exact ⟨q, h1, hq, h3⟩
theorem rmem_t (zs : List Int) (ma : Option Addr) (mc mb mo : Nat) (hz : zs.length ≤ 60) (hm : zs.length = 0 ∨ ma = some ⟨mb, mo, none⟩) (k c o n : Int) (b : ByteArray) (w : World) (hI : IntsAt w mb mo zs) : Calls Try.prog 25 #[.agg #[.slice ma zs.length mc], acc k c o n b] w fun e w' => ∃ q : Mv, e = .returned (.tuple #[.agg #[q.v (doZ k c o n b zs)], resV (doR k c o n b zs) (doOk k c o n b zs), .int .i64 (chk zs.length k c o n b)]) ∧ q.ok w.heap.size w' mb zs (doZ k c o n b zs) ∧ Below w.heap.size w w' :=
  (rdo_anyF _ zs k c o n b w (ints_has hz hm hI) (by omega)).mono fun e w' ⟨u, h1, h2, h3, h4⟩ => by
    obtain ⟨q, rfl, hq⟩ := mv_of hm h2 h4
    exact ⟨q, h1, hq, h3⟩
set_option maxHeartbeats 8000000 in
theorem pdo_m (w0 : World) (d : Dk) (hd : d.ok) (hg : d.gen) (htl : d.tl ≤ 60) (hA : StrAt w0 d.b d.o d.S) (hB : WasAt w0 d.c d.p d.W) (zs : List Int) (ma : Option Addr) (mc mb mo : Nat) (hz : zs.length ≤ 60) (hm : zs.length = 0 ∨ ma = some ⟨mb, mo, none⟩) (hI : IntsAt w0 mb mo zs) (k c o n : Int) (b : ByteArray) (h5 : k ≠ 5) (h6 : k ≠ 6) : Calls Try.prog 8 #[.agg #[.slice ma zs.length mc], d.v, acc k c o n b] w0 fun e w' => ∃ q : Mv, e = .returned (.tuple #[.agg #[q.v (doZ k c o n b zs)], d.v, resV (doR k c o n b zs) (doOk k c o n b zs), .int .i64 (chk zs.length k c o n b)]) ∧ q.ok w0.heap.size w' mb zs (doZ k c o n b zs) ∧ Below w0.heap.size w0 w' := by
  have HM := fun (w : World) (hI : IntsAt w mb mo zs) => pmem_t zs ma mc mb mo hz hm k c o n b w hI
  obtain ⟨Z, hZ⟩ : ∃ Z, doZ k c o n b zs = Z := ⟨_, rfl⟩
  obtain ⟨R, hR⟩ : ∃ R, doR k c o n b zs = R := ⟨_, rfl⟩
  obtain ⟨OK, hOK⟩ : ∃ R, doOk k c o n b zs = R := ⟨_, rfl⟩
  obtain ⟨CH, hCH⟩ : ∃ R, chk zs.length k c o n b = R := ⟨_, rfl⟩
  simp only [hZ, hR, hOK, hCH, resV, acc, Mv.v] at HM ⊢
  clear hZ hR hOK hCH
  refine sy_enterF [] [rfSt d.b d.o d.S, rfWs d.c d.p d.W, rfIn mb mo zs] (by intro f hf; simp only [List.mem_cons, List.not_mem_nil, or_false] at hf; rcases hf with rfl | rfl | rfl; exact hA; exact hB; exact hI) Try.func8 rfl rfl fun aa S => ?_
  refine sy_run ⟨0, [1]⟩ 60 S fun bs aa w S => ?_
  refine dr_enter [2] (by kernel_rfl) (by kernel_rfl) S (by kernel_rfl) (fun aa w D => ?_)
  refine dr_call 0 D (by kernel_rfl) (by kernel_rfl) (by kernel_rfl) (X := Nat) (val := fun g => .map (some g)) (C := fun g w' => DevMap w' g) (f := 21) (args := #[]) ((devices_t w).mono fun e w' ⟨g, h1, h2, _, h4⟩ => ⟨g, h1, h2, h4⟩) (by kernel_rfl) fun g aa w hgm hb D => ?_
  refine dr_any [3] (by kernel_rfl) (by kernel_rfl) rfl (na1 ?_)
  refine nx_exB 3 (op := .lookup TM (.tmp 18) (.tmp 20) true) (ty := 67) (C := fun v w' => v = .tuple #[.nilFunc, .bool false]) D (by kernel_rfl) (by kernel_rfl) (fun oo ρ h1 h2 h3 => ⟨.tuple #[.nilFunc, .bool false], w, by
    have e1 : ρ (.tmp 18) = .map (some g) := h3 _ (.v (.map (some g))) (by kernel_rfl)
    have e2 : ρ (.tmp 20) = .int .i64 k := h3 _ (.v (.int .i64 k)) (by kernel_rfl)
    unfold execOp
    simp only [h1, e1, e2, Sem.run_bind, look_t w g k hgm, Result.andThen_ok, Sem.run_pure, (show devF k = .tuple #[.nilFunc, .bool false] by unfold devF; rw [if_neg h5, if_neg h6])], rfl, Below.refl _ _⟩) fun v aa w' hv hb2 _ D => ?_
  subst hv
  refine dr_end D (by kernel_rfl) fun S => ?_
  refine sy_run ⟨0, [3]⟩ 60 S fun bs aa w S => ?_
  refine sy_reg S fun S => ?_
  refine sy_ops 2 S fun bs aa w S => ?_
  have hdM := (S.fs (rfIn mb mo zs) (by simp)).2
  have hlt3 := fun j hj => S.lt (i := j) hj
  have hwl := S.gr.size
  refine sy_call S (X := Mv) (val := fun q => .tuple #[.agg #[.slice q.a Z.length q.c], .agg #[.int .i64 R, .bool OK], .int .i64 CH]) (C := fun q w' => q.ok w.heap.size w' mb zs Z) (f := 22) (args := #[.agg #[.slice ma zs.length mc], .agg #[.int .i64 k, .int .i64 c, .int .i64 o, .int .i64 n, .string b]]) (HM w (S.fact (f := rfIn mb mo zs) (by simp))) (by kernel_rfl) fun q aa w1 hq hb S => ?_
  have S := S.add (rfIn q.b q.o Z) hq.hI (fun j hj hb => by have q1 := hlt3 j hj; obtain ⟨q2, q3⟩ := hb; rcases hq.h0 with q4 | q4 | ⟨q4, q5⟩; exact q3 q4; omega; exact hdM j hj ⟨q2.trans q4, q5⟩)
  refine sy_run ⟨0, []⟩ 60 S fun bs aa w S => ?_
  refine dr_enter [1, 6, 7] (by kernel_rfl) (by kernel_rfl) S (by kernel_rfl) (fun aa w D => ?_)
  refine dr_op 4 D (by kernel_rfl) (by kernel_rfl) (by kernel_rfl) (Nat.le_refl _) (by kernel_rfl) (by kernel_rfl) fun bs4 aa w D hl => ?_
  refine dr_op 5 D (by kernel_rfl) (by kernel_rfl) (by kernel_rfl) hl (by kernel_rfl) (by kernel_rfl) fun bs5 aa w D hl => ?_
  refine dr_op 6 D (by kernel_rfl) (by kernel_rfl) (by kernel_rfl) hl (by kernel_rfl) (by kernel_rfl) fun bs6 aa w D hl => ?_
  refine dr_end D (by kernel_rfl) fun S => ?_
  refine sy_run ⟨0, []⟩ 60 S fun bs aa w S => ?_
  exact sy_ret S (by kernel_rfl) (by kernel_rfl) fun hg => ⟨q, rfl, ⟨hq.ha, S.fact (f := rfIn q.b q.o Z) (by simp), hq.h0.imp id (Or.imp (fun h => Nat.le_trans hwl h) id)⟩, bel_gr hg⟩
theorem Dvv.re {h0 h1 : Nat} {w1 w : World} {d x : Dk} {S : List ByteArray} {W : List (Int × ByteArray)} (h : Dvv h1 w1 d x S W) (hle : h0 ≤ h1) (sA : StrAt w x.b x.o x.S) (wA : WasAt w x.c x.p x.W) : Dvv h0 w d x S W :=
  ⟨h.g, h.eS, h.eW, sA, wA, h.b0.imp id (Or.imp (fun q => Nat.le_trans hle q) id), h.c0.imp id (Or.imp (fun q => Nat.le_trans hle q) id)⟩
def dE (d : Dk) (k c o n : Int) (b : ByteArray) : Int := if k = 5 then (if o = 0 ∧ n = 0 then waE d c b else 1) else (if c = 0 ∧ o = 0 ∧ n = 0 ∧ b = ByteArray.empty then 0 else 1)
def dS (d : Dk) (k c o n : Int) (b : ByteArray) : List ByteArray := if k = 5 then (if o = 0 ∧ n = 0 then waS d c b else d.S) else d.S
def dW (d : Dk) (k c o n : Int) (b : ByteArray) : List (Int × ByteArray) := if k = 5 then (if o = 0 ∧ n = 0 then waW d c b else d.W) else (if c = 0 ∧ o = 0 ∧ n = 0 ∧ b = ByteArray.empty then [] else d.W)
theorem wa_err {d : Dk} {c : Int} {b : ByteArray} (h : waE d c b ≠ 0) : waS d c b = d.S ∧ waW d c b = d.W := by
  unfold waE at h
  have : waOk d c b = false := by
    unfold waOk
    by_cases h1 : 0 ≤ c ∧ c < (d.sl : Int)
    · rw [if_pos h1] at h
      by_cases h2 : b.size = 32
      · rw [if_pos h2] at h; exact absurd rfl h
      · rw [decide_eq_false h2, Bool.and_false]
    · rw [decide_eq_false h1, Bool.false_and]
  unfold waS waW
  rw [this]
  exact ⟨rfl, rfl⟩
theorem dE_err {d : Dk} {k c o n : Int} {b : ByteArray} (h : dE d k c o n b ≠ 0) : dS d k c o n b = d.S ∧ dW d k c o n b = d.W := by
  unfold dE at h
  unfold dS dW
  by_cases h5 : k = 5
  · rw [if_pos h5] at h ⊢
    rw [if_pos h5]
    by_cases h0 : o = 0 ∧ n = 0
    · rw [if_pos h0] at h ⊢
      rw [if_pos h0]
      exact wa_err h
    · rw [if_neg h0, if_neg h0]; exact ⟨rfl, rfl⟩
  · rw [if_neg h5] at h ⊢
    rw [if_neg h5]
    by_cases h0 : c = 0 ∧ o = 0 ∧ n = 0 ∧ b = ByteArray.empty
    · rw [if_pos h0] at h; exact absurd rfl h
    · rw [if_neg h0]; exact ⟨rfl, rfl⟩
theorem acc_guard : Try.prog.eqGuardType Try.prog.depth 30 = false := by kernel_rfl
theorem ex_neA {s : SS} {bs : List Nat} {x y : Operand} {ty : TypeId} {u v : Array Value} {bv : Bool} (hx : s.val x = some (.v (.agg u))) (hy : s.val y = some (.v (.agg v))) (hr : ∀ W, (binOp .neq 30 (.agg u) (.agg v)).run Try.prog W = .ok (.bool bv) W) :
    ∀ (o : Oper) (ρ : Operand → Value) (W : World), o.op = .binOp .neq 30 x y 30 → o.type = ty → (∀ x y, s.val x = some y → ρ x = den bs y) → (execOp ρ o).run Try.prog W = .ok (.value (.bool bv)) W := by
  intro o ρ W h1 h2 h3
  have e1 : ρ x = .agg u := h3 x _ hx
  have e2 : ρ y = .agg v := h3 y _ hy
  have hg : ∀ W, (eqGuard .neq 30 x y (.agg u) (.agg v)).run Try.prog W = .ok () W := fun W => run_eqGuard_agg W .neq 30 x y _ _ acc_guard
  unfold execOp
  simp only [h1, e1, e2, hg, hr, Sem.run_bind, Sem.run_pure, Result.andThen_ok]
theorem acc_struct : Try.prog.underlying 30 = some (.struct (Try.prog.fieldsOf 30)) := by kernel_rfl
theorem acc_held : Try.prog.stoodInHeld 30 = false := by kernel_rfl
set_option maxHeartbeats 8000000 in
theorem pd1_t (w0 : World) (d : Dk) (hd : d.ok) (hg : d.gen) (htl : d.tl ≤ 60) (hA : StrAt w0 d.b d.o d.S) (hB : WasAt w0 d.c d.p d.W) (c o n : Int) (b : ByteArray) : Calls Try.prog 39 #[d.v, .agg #[.int .i64 5, .int .i64 c, .int .i64 o, .int .i64 n, .string b]] w0 fun e w' => ∃ x : Dk, e = .returned (.tuple #[x.v, .int .i64 (dE d 5 c o n b)]) ∧ Dvv w0.heap.size w' d x (dS d 5 c o n b) (dW d 5 c o n b) ∧ Below w0.heap.size w0 w' := by
  refine sy_enterF [] [rfSt d.b d.o d.S, rfWs d.c d.p d.W] (by intro f hf; simp only [List.mem_cons, List.not_mem_nil, or_false] at hf; rcases hf with rfl | rfl; exact hA; exact hB) Try.func39 rfl rfl fun aa S => ?_
  refine sy_run ⟨0, [1]⟩ 60 S fun bs aa w S => ?_
  refine sy_reg S fun S => ?_
  refine sy_ops 3 S fun bs aa w S => ?_
  by_cases ho : o = 0
  case neg =>
    have hE : dE d 5 c o n b = 1 := by unfold dE; rw [if_pos rfl, if_neg (fun h => ho h.1)]
    have hS' : dS d 5 c o n b = d.S := by unfold dS; rw [if_pos rfl, if_neg (fun h => ho h.1)]
    have hW' : dW d 5 c o n b = d.W := by unfold dW; rw [if_pos rfl, if_neg (fun h => ho h.1)]
    refine sy_cast 8 S (congrArg Value.bool (by simp [ho] : (!decide (o = 0)) = true)) (by kernel_rfl) fun S => ?_
    refine sy_run ⟨0, []⟩ 60 S fun bs aa w S => ?_
    exact sy_ret S (by kernel_rfl) (by kernel_rfl) fun hg' => ⟨d, by rw [hE], by rw [hS', hW']; exact dvv_self _ hg (S.fact (f := rfSt d.b d.o d.S) (by simp)) (S.fact (f := rfWs d.c d.p d.W) (by simp)), bel_gr hg'⟩
  refine sy_cast 8 S (congrArg Value.bool (by simp [ho] : (!decide (o = 0)) = false)) (by kernel_rfl) fun S => ?_
  refine sy_ops 4 S fun bs aa w S => ?_
  by_cases hn : n = 0
  case neg =>
    have hE : dE d 5 c o n b = 1 := by unfold dE; rw [if_pos rfl, if_neg (fun h => hn h.2)]
    have hS' : dS d 5 c o n b = d.S := by unfold dS; rw [if_pos rfl, if_neg (fun h => hn h.2)]
    have hW' : dW d 5 c o n b = d.W := by unfold dW; rw [if_pos rfl, if_neg (fun h => hn h.2)]
    refine sy_cast 12 S (congrArg Value.bool (by simp [hn] : (!decide (n = 0)) = true)) (by kernel_rfl) fun S => ?_
    refine sy_run ⟨0, []⟩ 60 S fun bs aa w S => ?_
    exact sy_ret S (by kernel_rfl) (by kernel_rfl) fun hg' => ⟨d, by rw [hE], by rw [hS', hW']; exact dvv_self _ hg (S.fact (f := rfSt d.b d.o d.S) (by simp)) (S.fact (f := rfWs d.c d.p d.W) (by simp)), bel_gr hg'⟩
  refine sy_cast 12 S (congrArg Value.bool (by simp [hn] : (!decide (n = 0)) = false)) (by kernel_rfl) fun S => ?_
  have hE : dE d 5 c o n b = waE d c b := by unfold dE; rw [if_pos rfl, if_pos ⟨ho, hn⟩]
  have hS' : dS d 5 c o n b = waS d c b := by unfold dS; rw [if_pos rfl, if_pos ⟨ho, hn⟩]
  have hW' : dW d 5 c o n b = waW d c b := by unfold dW; rw [if_pos rfl, if_pos ⟨ho, hn⟩]
  rw [hE, hS', hW']
  have HM := fun w (hA : StrAt w d.b d.o d.S) (hB : WasAt w d.c d.p d.W) => pwrite_any d hd hg htl c b w hA hB
  generalize waE d c b = E at *
  generalize waS d c b = S1 at *
  generalize waW d c b = W1 at *
  refine sy_run ⟨0, [3]⟩ 60 S fun bs aa w S => ?_
  refine sy_reg S fun S => ?_
  refine sy_ops 5 S fun bs aa w S => ?_
  have hdS := (S.fs (rfSt d.b d.o d.S) (by simp)).2
  have hdW := (S.fs (rfWs d.c d.p d.W) (by simp)).2
  have hlt3 := fun j hj => S.lt (i := j) hj
  have hwl := S.gr.size
  refine sy_call S (X := Dk) (val := fun q => .tuple #[q.v, .int .i64 E]) (C := fun q w' => Dvv w.heap.size w' d q S1 W1) (f := 40) (args := #[d.v, .int .i64 c, .string b]) (HM w (S.fact (f := rfSt d.b d.o d.S) (by simp)) (S.fact (f := rfWs d.c d.p d.W) (by simp))) (by kernel_rfl) fun x aa w1 hx hb S => ?_
  have S := (S.add (rfSt x.b x.o x.S) hx.sA (fun j hj hb => by have q1 := hlt3 j hj; obtain ⟨q2, q3⟩ := hb; rcases hx.b0 with q4 | q4 | ⟨q4, q5⟩; exact q3 q4; omega; exact hdS j hj ⟨q2.trans q4, q5⟩)).add (rfWs x.c x.p x.W) hx.wA (fun j hj hb => by have q1 := hlt3 j hj; obtain ⟨q2, q3⟩ := hb; rcases hx.c0 with q4 | q4 | ⟨q4, q5⟩; exact q3 q4; omega; exact hdW j hj ⟨q2.trans q4, q5⟩)
  refine sy_run ⟨0, []⟩ 60 S fun bs aa w S => ?_
  exact sy_ret S (by kernel_rfl) (by kernel_rfl) fun hg' => ⟨x, rfl, hx.re hwl (S.fact (f := rfSt x.b x.o x.S) (by simp)) (S.fact (f := rfWs x.c x.p x.W) (by simp)), bel_gr hg'⟩
theorem acc_neq (c o n : Int) (b : ByteArray) (w : World) : (binOp .neq 30 (.agg #[.int .i64 6, .int .i64 c, .int .i64 o, .int .i64 n, .string b]) (.agg #[.int .i64 6, .int .i64 0, .int .i64 0, .int .i64 0, .string ByteArray.empty])).run Try.prog w = .ok (.bool (!decide (c = 0 ∧ o = 0 ∧ n = 0 ∧ b = ByteArray.empty))) w := by
  rw [run_neq_struct, show (10000 : Nat) = 9999 + 1 from rfl, run_equalIn_agg w 9999 30 _ _ acc_struct acc_held]
  have u3 := Try.underlying3
  have a3 := Try.isAgg3
  have z3 := Try.sizeOf3
  have u4 := Try.underlying9
  have a4 := Try.isAgg9
  have z4 := Try.sizeOf9
  simp only [Program.fieldsOf, Try.underlying30]
  go_simp
  have e := tl_eq b ByteArray.empty
  by_cases h1 : c = 0 <;> by_cases h2 : o = 0 <;> by_cases h3 : n = 0 <;> by_cases h4 : b = ByteArray.empty <;> simp_all
set_option maxHeartbeats 8000000 in
theorem pd2_t (w0 : World) (d : Dk) (hd : d.ok) (hg : d.gen) (htl : d.tl ≤ 60) (hA : StrAt w0 d.b d.o d.S) (hB : WasAt w0 d.c d.p d.W) (c o n : Int) (b : ByteArray) : Calls Try.prog 41 #[d.v, .agg #[.int .i64 6, .int .i64 c, .int .i64 o, .int .i64 n, .string b]] w0 fun e w' => ∃ x : Dk, e = .returned (.tuple #[x.v, .int .i64 (dE d 6 c o n b)]) ∧ Dvv w0.heap.size w' d x (dS d 6 c o n b) (dW d 6 c o n b) ∧ Below w0.heap.size w0 w' := by
  refine sy_enterF [] [rfSt d.b d.o d.S, rfWs d.c d.p d.W] (by intro f hf; simp only [List.mem_cons, List.not_mem_nil, or_false] at hf; rcases hf with rfl | rfl; exact hA; exact hB) Try.func41 rfl rfl fun aa S => ?_
  refine sy_run ⟨0, [1]⟩ 60 S fun bs aa w S => ?_
  refine sy_reg S fun S => ?_
  refine sy_ops 2 S fun bs aa w S => ?_
  by_cases h0 : c = 0 ∧ o = 0 ∧ n = 0 ∧ b = ByteArray.empty
  case neg =>
    have hE : dE d 6 c o n b = 1 := by unfold dE; rw [if_neg (by decide), if_neg h0]
    have hS' : dS d 6 c o n b = d.S := by unfold dS; rw [if_neg (by decide)]
    have hW' : dW d 6 c o n b = d.W := by unfold dW; rw [if_neg (by decide), if_neg h0]
    refine sy_ex (op := .binOp .neq 30 (.tmp 6) (.tmp 7) 30) (ty := 4) (v := .bool true) S (by kernel_rfl) (ex_neA (bv := true) (by kernel_rfl) (by kernel_rfl) (fun W => by rw [acc_neq, decide_eq_false h0]; rfl)) fun aa S => ?_
    refine sy_run ⟨0, []⟩ 60 S fun bs aa w S => ?_
    exact sy_ret S (by kernel_rfl) (by kernel_rfl) fun hg' => ⟨d, by rw [hE], by rw [hS', hW']; exact dvv_self _ hg (S.fact (f := rfSt d.b d.o d.S) (by simp)) (S.fact (f := rfWs d.c d.p d.W) (by simp)), bel_gr hg'⟩
  have hE : dE d 6 c o n b = 0 := by unfold dE; rw [if_neg (by decide), if_pos h0]
  have hS' : dS d 6 c o n b = d.S := by unfold dS; rw [if_neg (by decide)]
  have hW' : dW d 6 c o n b = [] := by unfold dW; rw [if_neg (by decide), if_pos h0]
  refine sy_ex (op := .binOp .neq 30 (.tmp 6) (.tmp 7) 30) (ty := 4) (v := .bool false) S (by kernel_rfl) (ex_neA (bv := false) (by kernel_rfl) (by kernel_rfl) (fun W => by rw [acc_neq, decide_eq_true h0]; rfl)) fun aa S => ?_
  rw [hE, hS', hW']
  refine sy_run ⟨0, [3]⟩ 60 S fun bs aa w S => ?_
  refine sy_reg S fun S => ?_
  refine sy_ops 1 S fun bs aa w S => ?_
  refine sy_call1 S (sync_t d w) (by kernel_rfl) fun aa w hb S => ?_
  refine sy_run ⟨0, []⟩ 60 S fun bs aa w S => ?_
  refine sy_ret S (by kernel_rfl) (by kernel_rfl) fun hg' => ⟨⟨d.sa, d.sl, d.sc, none, 0, 0, d.b, d.o, 0, 0, d.S, []⟩, rfl, ⟨⟨hg.hS, hg.hs, rfl, Or.inl rfl, Or.inl ⟨rfl, rfl, rfl⟩, Nat.zero_le _, hg.hsn⟩, rfl, rfl, (S.fact (f := rfSt d.b d.o d.S) (by simp)), fun j hj => absurd hj (Nat.not_lt_zero _), ?_, Or.inl rfl⟩, bel_gr hg'⟩
  by_cases h : d.S.length = 0
  · exact Or.inl h
  · exact Or.inr (Or.inr ⟨rfl, h⟩)
set_option maxHeartbeats 8000000 in
theorem pdo_5 (w0 : World) (d : Dk) (hd : d.ok) (hg : d.gen) (htl : d.tl ≤ 60) (hA : StrAt w0 d.b d.o d.S) (hB : WasAt w0 d.c d.p d.W) (zs : List Int) (ma : Option Addr) (mc mb mo : Nat) (hz : zs.length ≤ 60) (hm : zs.length = 0 ∨ ma = some ⟨mb, mo, none⟩) (hI : IntsAt w0 mb mo zs) (c o n : Int) (b : ByteArray) : Calls Try.prog 8 #[.agg #[.slice ma zs.length mc], d.v, .agg #[.int .i64 5, .int .i64 c, .int .i64 o, .int .i64 n, .string b]] w0 fun e w' => ∃ x : Dk, e = .returned (.tuple #[.agg #[.slice ma zs.length mc], x.v, .agg #[.int .i64 0, .bool (decide (dE d 5 c o n b = 0))], .int .i64 (dE d 5 c o n b)]) ∧ Dvv w0.heap.size w' d x (dS d 5 c o n b) (dW d 5 c o n b) ∧ IntsAt w' mb mo zs ∧ Below w0.heap.size w0 w' := by
  have HM := fun w (hA : StrAt w d.b d.o d.S) (hB : WasAt w d.c d.p d.W) => pd1_t w d hd hg htl hA hB c o n b
  have HE := @dE_err d 5 c o n b
  generalize dE d 5 c o n b = E at *
  generalize dS d 5 c o n b = S1 at *
  generalize dW d 5 c o n b = W1 at *
  refine sy_enterF [] [rfSt d.b d.o d.S, rfWs d.c d.p d.W, rfIn mb mo zs] (by intro f hf; simp only [List.mem_cons, List.not_mem_nil, or_false] at hf; rcases hf with rfl | rfl | rfl; exact hA; exact hB; exact hI) Try.func8 rfl rfl fun aa S => ?_
  refine sy_run ⟨0, [1]⟩ 60 S fun bs aa w S => ?_
  refine dr_enter [2] (by kernel_rfl) (by kernel_rfl) S (by kernel_rfl) (fun aa w D => ?_)
  refine dr_call 0 D (by kernel_rfl) (by kernel_rfl) (by kernel_rfl) (X := Nat) (val := fun g => .map (some g)) (C := fun g w' => DevMap w' g) (f := 21) (args := #[]) ((devices_t w).mono fun e w' ⟨g, h1, h2, _, h4⟩ => ⟨g, h1, h2, h4⟩) (by kernel_rfl) fun g aa w hgm hb D => ?_
  refine dr_any [3] (by kernel_rfl) (by kernel_rfl) rfl (na1 ?_)
  refine nx_exB 3 (op := .lookup TM (.tmp 18) (.tmp 20) true) (ty := 67) (C := fun v w' => v = .tuple #[.func (.func 39) #[] #[], .bool true]) D (by kernel_rfl) (by kernel_rfl) (fun oo ρ h1 h2 h3 => ⟨.tuple #[.func (.func 39) #[] #[], .bool true], w, by
    have e1 : ρ (.tmp 18) = .map (some g) := h3 _ (.v (.map (some g))) (by kernel_rfl)
    have e2 : ρ (.tmp 20) = .int .i64 5 := h3 _ (.v (.int .i64 5)) (by kernel_rfl)
    unfold execOp
    simp only [h1, e1, e2, Sem.run_bind, look_t w g 5 hgm, Result.andThen_ok, Sem.run_pure, (show devF 5 = .tuple #[.func (.func 39) #[] #[], .bool true] from rfl)], rfl, Below.refl _ _⟩) fun v aa w' hv hb2 _ D => ?_
  subst hv
  refine dr_end D (by kernel_rfl) fun S => ?_
  refine sy_run ⟨0, [5]⟩ 60 S fun bs aa w S => ?_
  refine sy_reg S fun S => ?_
  refine sy_ops 3 S fun bs aa w S => ?_
  have hdS := (S.fs (rfSt d.b d.o d.S) (by simp)).2
  have hdW := (S.fs (rfWs d.c d.p d.W) (by simp)).2
  have hlt5 := fun j hj => S.lt (i := j) hj
  have hwl := S.gr.size
  refine sy_call S (X := Dk) (val := fun q => .tuple #[q.v, .int .i64 E]) (C := fun q w' => Dvv w.heap.size w' d q S1 W1) (f := 39) (args := #[d.v, .agg #[.int .i64 5, .int .i64 c, .int .i64 o, .int .i64 n, .string b]]) (HM w (S.fact (f := rfSt d.b d.o d.S) (by simp)) (S.fact (f := rfWs d.c d.p d.W) (by simp))) (by kernel_rfl) fun x aa w1 hx hb S => ?_
  have S := (S.add (rfSt x.b x.o x.S) hx.sA (fun j hj hb => by have q1 := hlt5 j hj; obtain ⟨q2, q3⟩ := hb; rcases hx.b0 with q4 | q4 | ⟨q4, q5⟩; exact q3 q4; omega; exact hdS j hj ⟨q2.trans q4, q5⟩)).add (rfWs x.c x.p x.W) hx.wA (fun j hj hb => by have q1 := hlt5 j hj; obtain ⟨q2, q3⟩ := hb; rcases hx.c0 with q4 | q4 | ⟨q4, q5⟩; exact q3 q4; omega; exact hdW j hj ⟨q2.trans q4, q5⟩)
  refine sy_run ⟨0, [6]⟩ 60 S fun bs aa w S => ?_
  refine sy_reg S fun S => ?_
  refine sy_ops 2 S fun bs aa w S => ?_
  by_cases hE : E = 0
  case neg =>
    obtain ⟨e1, e2⟩ := HE hE
    refine sy_cast 45 S (congrArg Value.bool (by simp [hE] : (!decide (E = 0)) = true)) (by kernel_rfl) fun S => ?_
    refine sy_run ⟨0, []⟩ 60 S fun bs aa w S => ?_
    refine dr_enter [0, 1] (by kernel_rfl) (by kernel_rfl) S (by kernel_rfl) (fun aa w D => ?_)
    refine dr_op 4 D (by kernel_rfl) (by kernel_rfl) (by kernel_rfl) (Nat.le_refl _) (by kernel_rfl) (by kernel_rfl) fun bs4 aa w D hl => ?_
    refine dr_op 5 D (by kernel_rfl) (by kernel_rfl) (by kernel_rfl) hl (by kernel_rfl) (by kernel_rfl) fun bs5 aa w D hl => ?_
    refine dr_op 6 D (by kernel_rfl) (by kernel_rfl) (by kernel_rfl) hl (by kernel_rfl) (by kernel_rfl) fun bs6 aa w D hl => ?_
    refine dr_end D (by kernel_rfl) fun S => ?_
    refine sy_run ⟨0, []⟩ 60 S fun bs aa w S => ?_
    exact sy_ret S (by kernel_rfl) (by kernel_rfl) fun hg' => ⟨d, by rw [decide_eq_false hE], by rw [e1, e2]; exact dvv_self _ hg (S.fact (f := rfSt d.b d.o d.S) (by simp)) (S.fact (f := rfWs d.c d.p d.W) (by simp)), (S.fact (f := rfIn mb mo zs) (by simp)), bel_gr hg'⟩
  refine sy_cast 45 S (congrArg Value.bool (by simp [hE] : (!decide (E = 0)) = false)) (by kernel_rfl) fun S => ?_
  refine sy_run ⟨0, []⟩ 60 S fun bs aa w S => ?_
  refine dr_enter [0, 6] (by kernel_rfl) (by kernel_rfl) S (by kernel_rfl) (fun aa w D => ?_)
  refine dr_op 3 D (by kernel_rfl) (by kernel_rfl) (by kernel_rfl) (Nat.le_refl _) (by kernel_rfl) (by kernel_rfl) fun bs3 aa w D hl => ?_
  refine dr_op 4 D (by kernel_rfl) (by kernel_rfl) (by kernel_rfl) hl (by kernel_rfl) (by kernel_rfl) fun bs4 aa w D hl => ?_
  refine dr_op 5 D (by kernel_rfl) (by kernel_rfl) (by kernel_rfl) hl (by kernel_rfl) (by kernel_rfl) fun bs5 aa w D hl => ?_
  refine dr_end D (by kernel_rfl) fun S => ?_
  refine sy_run ⟨0, []⟩ 60 S fun bs aa w S => ?_
  exact sy_ret S (by kernel_rfl) (by kernel_rfl) fun hg' => ⟨x, by rw [hE], hx.re hwl (S.fact (f := rfSt x.b x.o x.S) (by simp)) (S.fact (f := rfWs x.c x.p x.W) (by simp)), (S.fact (f := rfIn mb mo zs) (by simp)), bel_gr hg'⟩
set_option maxHeartbeats 8000000 in
theorem pdo_6 (w0 : World) (d : Dk) (hd : d.ok) (hg : d.gen) (htl : d.tl ≤ 60) (hA : StrAt w0 d.b d.o d.S) (hB : WasAt w0 d.c d.p d.W) (zs : List Int) (ma : Option Addr) (mc mb mo : Nat) (hz : zs.length ≤ 60) (hm : zs.length = 0 ∨ ma = some ⟨mb, mo, none⟩) (hI : IntsAt w0 mb mo zs) (c o n : Int) (b : ByteArray) : Calls Try.prog 8 #[.agg #[.slice ma zs.length mc], d.v, .agg #[.int .i64 6, .int .i64 c, .int .i64 o, .int .i64 n, .string b]] w0 fun e w' => ∃ x : Dk, e = .returned (.tuple #[.agg #[.slice ma zs.length mc], x.v, .agg #[.int .i64 0, .bool (decide (dE d 6 c o n b = 0))], .int .i64 (dE d 6 c o n b)]) ∧ Dvv w0.heap.size w' d x (dS d 6 c o n b) (dW d 6 c o n b) ∧ IntsAt w' mb mo zs ∧ Below w0.heap.size w0 w' := by
  have HM := fun w (hA : StrAt w d.b d.o d.S) (hB : WasAt w d.c d.p d.W) => pd2_t w d hd hg htl hA hB c o n b
  have HE := @dE_err d 6 c o n b
  generalize dE d 6 c o n b = E at *
  generalize dS d 6 c o n b = S1 at *
  generalize dW d 6 c o n b = W1 at *
  refine sy_enterF [] [rfSt d.b d.o d.S, rfWs d.c d.p d.W, rfIn mb mo zs] (by intro f hf; simp only [List.mem_cons, List.not_mem_nil, or_false] at hf; rcases hf with rfl | rfl | rfl; exact hA; exact hB; exact hI) Try.func8 rfl rfl fun aa S => ?_
  refine sy_run ⟨0, [1]⟩ 60 S fun bs aa w S => ?_
  refine dr_enter [2] (by kernel_rfl) (by kernel_rfl) S (by kernel_rfl) (fun aa w D => ?_)
  refine dr_call 0 D (by kernel_rfl) (by kernel_rfl) (by kernel_rfl) (X := Nat) (val := fun g => .map (some g)) (C := fun g w' => DevMap w' g) (f := 21) (args := #[]) ((devices_t w).mono fun e w' ⟨g, h1, h2, _, h4⟩ => ⟨g, h1, h2, h4⟩) (by kernel_rfl) fun g aa w hgm hb D => ?_
  refine dr_any [3] (by kernel_rfl) (by kernel_rfl) rfl (na1 ?_)
  refine nx_exB 3 (op := .lookup TM (.tmp 18) (.tmp 20) true) (ty := 67) (C := fun v w' => v = .tuple #[.func (.func 41) #[] #[], .bool true]) D (by kernel_rfl) (by kernel_rfl) (fun oo ρ h1 h2 h3 => ⟨.tuple #[.func (.func 41) #[] #[], .bool true], w, by
    have e1 : ρ (.tmp 18) = .map (some g) := h3 _ (.v (.map (some g))) (by kernel_rfl)
    have e2 : ρ (.tmp 20) = .int .i64 6 := h3 _ (.v (.int .i64 6)) (by kernel_rfl)
    unfold execOp
    simp only [h1, e1, e2, Sem.run_bind, look_t w g 6 hgm, Result.andThen_ok, Sem.run_pure, (show devF 6 = .tuple #[.func (.func 41) #[] #[], .bool true] from rfl)], rfl, Below.refl _ _⟩) fun v aa w' hv hb2 _ D => ?_
  subst hv
  refine dr_end D (by kernel_rfl) fun S => ?_
  refine sy_run ⟨0, [5]⟩ 60 S fun bs aa w S => ?_
  refine sy_reg S fun S => ?_
  refine sy_ops 3 S fun bs aa w S => ?_
  have hdS := (S.fs (rfSt d.b d.o d.S) (by simp)).2
  have hdW := (S.fs (rfWs d.c d.p d.W) (by simp)).2
  have hlt5 := fun j hj => S.lt (i := j) hj
  have hwl := S.gr.size
  refine sy_call S (X := Dk) (val := fun q => .tuple #[q.v, .int .i64 E]) (C := fun q w' => Dvv w.heap.size w' d q S1 W1) (f := 41) (args := #[d.v, .agg #[.int .i64 6, .int .i64 c, .int .i64 o, .int .i64 n, .string b]]) (HM w (S.fact (f := rfSt d.b d.o d.S) (by simp)) (S.fact (f := rfWs d.c d.p d.W) (by simp))) (by kernel_rfl) fun x aa w1 hx hb S => ?_
  have S := (S.add (rfSt x.b x.o x.S) hx.sA (fun j hj hb => by have q1 := hlt5 j hj; obtain ⟨q2, q3⟩ := hb; rcases hx.b0 with q4 | q4 | ⟨q4, q5⟩; exact q3 q4; omega; exact hdS j hj ⟨q2.trans q4, q5⟩)).add (rfWs x.c x.p x.W) hx.wA (fun j hj hb => by have q1 := hlt5 j hj; obtain ⟨q2, q3⟩ := hb; rcases hx.c0 with q4 | q4 | ⟨q4, q5⟩; exact q3 q4; omega; exact hdW j hj ⟨q2.trans q4, q5⟩)
  refine sy_run ⟨0, [6]⟩ 60 S fun bs aa w S => ?_
  refine sy_reg S fun S => ?_
  refine sy_ops 2 S fun bs aa w S => ?_
  by_cases hE : E = 0
  case neg =>
    obtain ⟨e1, e2⟩ := HE hE
    refine sy_cast 45 S (congrArg Value.bool (by simp [hE] : (!decide (E = 0)) = true)) (by kernel_rfl) fun S => ?_
    refine sy_run ⟨0, []⟩ 60 S fun bs aa w S => ?_
    refine dr_enter [0, 1] (by kernel_rfl) (by kernel_rfl) S (by kernel_rfl) (fun aa w D => ?_)
    refine dr_op 4 D (by kernel_rfl) (by kernel_rfl) (by kernel_rfl) (Nat.le_refl _) (by kernel_rfl) (by kernel_rfl) fun bs4 aa w D hl => ?_
    refine dr_op 5 D (by kernel_rfl) (by kernel_rfl) (by kernel_rfl) hl (by kernel_rfl) (by kernel_rfl) fun bs5 aa w D hl => ?_
    refine dr_op 6 D (by kernel_rfl) (by kernel_rfl) (by kernel_rfl) hl (by kernel_rfl) (by kernel_rfl) fun bs6 aa w D hl => ?_
    refine dr_end D (by kernel_rfl) fun S => ?_
    refine sy_run ⟨0, []⟩ 60 S fun bs aa w S => ?_
    exact sy_ret S (by kernel_rfl) (by kernel_rfl) fun hg' => ⟨d, by rw [decide_eq_false hE], by rw [e1, e2]; exact dvv_self _ hg (S.fact (f := rfSt d.b d.o d.S) (by simp)) (S.fact (f := rfWs d.c d.p d.W) (by simp)), (S.fact (f := rfIn mb mo zs) (by simp)), bel_gr hg'⟩
  refine sy_cast 45 S (congrArg Value.bool (by simp [hE] : (!decide (E = 0)) = false)) (by kernel_rfl) fun S => ?_
  refine sy_run ⟨0, []⟩ 60 S fun bs aa w S => ?_
  refine dr_enter [0, 6] (by kernel_rfl) (by kernel_rfl) S (by kernel_rfl) (fun aa w D => ?_)
  refine dr_op 3 D (by kernel_rfl) (by kernel_rfl) (by kernel_rfl) (Nat.le_refl _) (by kernel_rfl) (by kernel_rfl) fun bs3 aa w D hl => ?_
  refine dr_op 4 D (by kernel_rfl) (by kernel_rfl) (by kernel_rfl) hl (by kernel_rfl) (by kernel_rfl) fun bs4 aa w D hl => ?_
  refine dr_op 5 D (by kernel_rfl) (by kernel_rfl) (by kernel_rfl) hl (by kernel_rfl) (by kernel_rfl) fun bs5 aa w D hl => ?_
  refine dr_end D (by kernel_rfl) fun S => ?_
  refine sy_run ⟨0, []⟩ 60 S fun bs aa w S => ?_
  exact sy_ret S (by kernel_rfl) (by kernel_rfl) fun hg' => ⟨x, by rw [hE], hx.re hwl (S.fact (f := rfSt x.b x.o x.S) (by simp)) (S.fact (f := rfWs x.c x.p x.W) (by simp)), (S.fact (f := rfIn mb mo zs) (by simp)), bel_gr hg'⟩
end Go.Proofs.Ytekcjffdooekaaa


/-
  Layer 25: an access of the memory or of the device: the reference.
-/
namespace Go.Proofs.Ytekcjffdooekaaa
open Go Go.RowKit SZ
set_option linter.unusedVariables false
set_option linter.unusedSimpArgs false
set_option maxRecDepth 100000
attribute [local irreducible] post GD Nxt NxtAll
set_option maxHeartbeats 8000000 in
theorem rdo_m (w0 : World) (d : Dk) (hd : d.ok) (hg : d.gen) (htl : d.tl ≤ 60) (hA : StrAt w0 d.b d.o d.S) (hB : WasAt w0 d.c d.p d.W) (zs : List Int) (ma : Option Addr) (mc mb mo : Nat) (hz : zs.length ≤ 60) (hm : zs.length = 0 ∨ ma = some ⟨mb, mo, none⟩) (hI : IntsAt w0 mb mo zs) (k c o n : Int) (b : ByteArray) (h5 : k ≠ 5) (h6 : k ≠ 6) : Calls Try.prog 9 #[.agg #[.slice ma zs.length mc], d.v, acc k c o n b] w0 fun e w' => ∃ q : Mv, e = .returned (.tuple #[.agg #[q.v (doZ k c o n b zs)], d.v, resV (doR k c o n b zs) (doOk k c o n b zs), .int .i64 (chk zs.length k c o n b)]) ∧ q.ok w0.heap.size w' mb zs (doZ k c o n b zs) ∧ Below w0.heap.size w0 w' := by
  have HM := fun (w : World) (hI : IntsAt w mb mo zs) => rmem_t zs ma mc mb mo hz hm k c o n b w hI
  obtain ⟨Z, hZ⟩ : ∃ Z, doZ k c o n b zs = Z := ⟨_, rfl⟩
  obtain ⟨R, hR⟩ : ∃ R, doR k c o n b zs = R := ⟨_, rfl⟩
  obtain ⟨OK, hOK⟩ : ∃ R, doOk k c o n b zs = R := ⟨_, rfl⟩
  obtain ⟨CH, hCH⟩ : ∃ R, chk zs.length k c o n b = R := ⟨_, rfl⟩
  simp only [hZ, hR, hOK, hCH, resV, acc, Mv.v] at HM ⊢
  clear hZ hR hOK hCH
  refine sy_enterF [] [rfSt d.b d.o d.S, rfWs d.c d.p d.W, rfIn mb mo zs] (by intro f hf; simp only [List.mem_cons, List.not_mem_nil, or_false] at hf; rcases hf with rfl | rfl | rfl; exact hA; exact hB; exact hI) Try.func9 rfl rfl fun aa S => ?_
  refine sy_run ⟨0, [3]⟩ 60 S fun bs aa w S => ?_
  refine sy_reg S fun S => ?_
  refine sy_ops 3 S fun bs aa w S => ?_
  refine sy_cast 21 S (congrArg Value.bool (decide_eq_false h5 : decide (k = 5) = false)) (by kernel_rfl) fun S => ?_
  refine sy_run ⟨0, [10]⟩ 60 S fun bs aa w S => ?_
  refine sy_reg S fun S => ?_
  refine sy_ops 3 S fun bs aa w S => ?_
  refine sy_cast 53 S (congrArg Value.bool (decide_eq_false h6 : decide (k = 6) = false)) (by kernel_rfl) fun S => ?_
  refine sy_run ⟨0, [14]⟩ 60 S fun bs aa w S => ?_
  refine sy_reg S fun S => ?_
  refine sy_ops 2 S fun bs aa w S => ?_
  have hdM := (S.fs (rfIn mb mo zs) (by simp)).2
  have hlt3 := fun j hj => S.lt (i := j) hj
  have hwl := S.gr.size
  refine sy_call S (X := Mv) (val := fun q => .tuple #[.agg #[.slice q.a Z.length q.c], .agg #[.int .i64 R, .bool OK], .int .i64 CH]) (C := fun q w' => q.ok w.heap.size w' mb zs Z) (f := 25) (args := #[.agg #[.slice ma zs.length mc], .agg #[.int .i64 k, .int .i64 c, .int .i64 o, .int .i64 n, .string b]]) (HM w (S.fact (f := rfIn mb mo zs) (by simp))) (by kernel_rfl) fun q aa w1 hq hb S => ?_
  have S := S.add (rfIn q.b q.o Z) hq.hI (fun j hj hb => by have q1 := hlt3 j hj; obtain ⟨q2, q3⟩ := hb; rcases hq.h0 with q4 | q4 | ⟨q4, q5⟩; exact q3 q4; omega; exact hdM j hj ⟨q2.trans q4, q5⟩)
  refine sy_run ⟨0, []⟩ 60 S fun bs aa w S => ?_
  refine dr_enter [1, 8, 9] (by kernel_rfl) (by kernel_rfl) S (by kernel_rfl) (fun aa w D => ?_)
  refine dr_op 4 D (by kernel_rfl) (by kernel_rfl) (by kernel_rfl) (Nat.le_refl _) (by kernel_rfl) (by kernel_rfl) fun bs4 aa w D hl => ?_
  refine dr_op 5 D (by kernel_rfl) (by kernel_rfl) (by kernel_rfl) hl (by kernel_rfl) (by kernel_rfl) fun bs5 aa w D hl => ?_
  refine dr_op 6 D (by kernel_rfl) (by kernel_rfl) (by kernel_rfl) hl (by kernel_rfl) (by kernel_rfl) fun bs6 aa w D hl => ?_
  refine dr_end D (by kernel_rfl) fun S => ?_
  refine sy_run ⟨0, []⟩ 60 S fun bs aa w S => ?_
  exact sy_ret S (by kernel_rfl) (by kernel_rfl) fun hg => ⟨q, rfl, ⟨hq.ha, S.fact (f := rfIn q.b q.o Z) (by simp), hq.h0.imp id (Or.imp (fun h => Nat.le_trans hwl h) id)⟩, bel_gr hg⟩
set_option maxHeartbeats 8000000 in
theorem rdo_5 (w0 : World) (d : Dk) (hd : d.ok) (hg : d.gen) (htl : d.tl ≤ 60) (hA : StrAt w0 d.b d.o d.S) (hB : WasAt w0 d.c d.p d.W) (zs : List Int) (ma : Option Addr) (mc mb mo : Nat) (hz : zs.length ≤ 60) (hm : zs.length = 0 ∨ ma = some ⟨mb, mo, none⟩) (hI : IntsAt w0 mb mo zs) (c o n : Int) (b : ByteArray) : Calls Try.prog 9 #[.agg #[.slice ma zs.length mc], d.v, .agg #[.int .i64 5, .int .i64 c, .int .i64 o, .int .i64 n, .string b]] w0 fun e w' => ∃ x : Dk, e = .returned (.tuple #[.agg #[.slice ma zs.length mc], x.v, .agg #[.int .i64 0, .bool (decide (dE d 5 c o n b = 0))], .int .i64 (dE d 5 c o n b)]) ∧ Dvv w0.heap.size w' d x (dS d 5 c o n b) (dW d 5 c o n b) ∧ IntsAt w' mb mo zs ∧ Below w0.heap.size w0 w' := by
  refine sy_enterF [] [rfSt d.b d.o d.S, rfWs d.c d.p d.W, rfIn mb mo zs] (by intro f hf; simp only [List.mem_cons, List.not_mem_nil, or_false] at hf; rcases hf with rfl | rfl | rfl; exact hA; exact hB; exact hI) Try.func9 rfl rfl fun aa S => ?_
  refine sy_run ⟨0, [4]⟩ 60 S fun bs aa w S => ?_
  refine sy_reg S fun S => ?_
  refine sy_ops 3 S fun bs aa w S => ?_
  by_cases ho : o = 0
  case neg =>
    have hE : dE d 5 c o n b = 1 := by unfold dE; rw [if_pos rfl, if_neg (fun h => ho h.1)]
    have hS' : dS d 5 c o n b = d.S := by unfold dS; rw [if_pos rfl, if_neg (fun h => ho h.1)]
    have hW' : dW d 5 c o n b = d.W := by unfold dW; rw [if_pos rfl, if_neg (fun h => ho h.1)]
    refine sy_cast 24 S (congrArg Value.bool (by simp [ho] : (!decide (o = 0)) = true)) (by kernel_rfl) fun S => ?_
    refine sy_run ⟨0, []⟩ 60 S fun bs aa w S => ?_
    refine dr_enter [0, 1, 6] (by kernel_rfl) (by kernel_rfl) S (by kernel_rfl) (fun aa w D => ?_)
    refine dr_op 3 D (by kernel_rfl) (by kernel_rfl) (by kernel_rfl) (Nat.le_refl _) (by kernel_rfl) (by kernel_rfl) fun bs3 aa w D hl => ?_
    refine dr_op 4 D (by kernel_rfl) (by kernel_rfl) (by kernel_rfl) hl (by kernel_rfl) (by kernel_rfl) fun bs4 aa w D hl => ?_
    refine dr_op 5 D (by kernel_rfl) (by kernel_rfl) (by kernel_rfl) hl (by kernel_rfl) (by kernel_rfl) fun bs5 aa w D hl => ?_
    refine dr_end D (by kernel_rfl) fun S => ?_
    refine sy_run ⟨0, []⟩ 60 S fun bs aa w S => ?_
    exact sy_ret S (by kernel_rfl) (by kernel_rfl) fun hg' => ⟨d, by first | (rw [hE]; done) | (rw [hE]; rfl), by rw [hS', hW']; exact dvv_self _ hg (S.fact (f := rfSt d.b d.o d.S) (by simp)) (S.fact (f := rfWs d.c d.p d.W) (by simp)), (S.fact (f := rfIn mb mo zs) (by simp)), bel_gr hg'⟩
  refine sy_cast 24 S (congrArg Value.bool (by simp [ho] : (!decide (o = 0)) = false)) (by kernel_rfl) fun S => ?_
  refine sy_ops 4 S fun bs aa w S => ?_
  by_cases hn : n = 0
  case neg =>
    have hE : dE d 5 c o n b = 1 := by unfold dE; rw [if_pos rfl, if_neg (fun h => hn h.2)]
    have hS' : dS d 5 c o n b = d.S := by unfold dS; rw [if_pos rfl, if_neg (fun h => hn h.2)]
    have hW' : dW d 5 c o n b = d.W := by unfold dW; rw [if_pos rfl, if_neg (fun h => hn h.2)]
    refine sy_cast 28 S (congrArg Value.bool (by simp [hn] : (!decide (n = 0)) = true)) (by kernel_rfl) fun S => ?_
    refine sy_run ⟨0, []⟩ 60 S fun bs aa w S => ?_
    refine dr_enter [0, 1, 6] (by kernel_rfl) (by kernel_rfl) S (by kernel_rfl) (fun aa w D => ?_)
    refine dr_op 3 D (by kernel_rfl) (by kernel_rfl) (by kernel_rfl) (Nat.le_refl _) (by kernel_rfl) (by kernel_rfl) fun bs3 aa w D hl => ?_
    refine dr_op 4 D (by kernel_rfl) (by kernel_rfl) (by kernel_rfl) hl (by kernel_rfl) (by kernel_rfl) fun bs4 aa w D hl => ?_
    refine dr_op 5 D (by kernel_rfl) (by kernel_rfl) (by kernel_rfl) hl (by kernel_rfl) (by kernel_rfl) fun bs5 aa w D hl => ?_
    refine dr_end D (by kernel_rfl) fun S => ?_
    refine sy_run ⟨0, []⟩ 60 S fun bs aa w S => ?_
    exact sy_ret S (by kernel_rfl) (by kernel_rfl) fun hg' => ⟨d, by first | (rw [hE]; done) | (rw [hE]; rfl), by rw [hS', hW']; exact dvv_self _ hg (S.fact (f := rfSt d.b d.o d.S) (by simp)) (S.fact (f := rfWs d.c d.p d.W) (by simp)), (S.fact (f := rfIn mb mo zs) (by simp)), bel_gr hg'⟩
  refine sy_cast 28 S (congrArg Value.bool (by simp [hn] : (!decide (n = 0)) = false)) (by kernel_rfl) fun S => ?_
  have hE : dE d 5 c o n b = waE d c b := by unfold dE; rw [if_pos rfl, if_pos ⟨ho, hn⟩]
  have hS' : dS d 5 c o n b = waS d c b := by unfold dS; rw [if_pos rfl, if_pos ⟨ho, hn⟩]
  have hW' : dW d 5 c o n b = waW d c b := by unfold dW; rw [if_pos rfl, if_pos ⟨ho, hn⟩]
  rw [hE, hS', hW']
  have HE := @wa_err d c b
  have HM := fun w (hA : StrAt w d.b d.o d.S) (hB : WasAt w d.c d.p d.W) => rwrite_any d hd hg htl c b w hA hB
  clear hE hS' hW'
  generalize waE d c b = E at *
  generalize waS d c b = S1 at *
  generalize waW d c b = W1 at *
  refine sy_run ⟨0, [6]⟩ 60 S fun bs aa w S => ?_
  refine sy_reg S fun S => ?_
  refine sy_ops 5 S fun bs aa w S => ?_
  have hdS := (S.fs (rfSt d.b d.o d.S) (by simp)).2
  have hdW := (S.fs (rfWs d.c d.p d.W) (by simp)).2
  have hlt6 := fun j hj => S.lt (i := j) hj
  have hwl := S.gr.size
  refine sy_call S (X := Dk) (val := fun q => .tuple #[q.v, .int .i64 E]) (C := fun q w' => Dvv w.heap.size w' d q S1 W1) (f := 23) (args := #[d.v, .int .i64 c, .string b]) (HM w (S.fact (f := rfSt d.b d.o d.S) (by simp)) (S.fact (f := rfWs d.c d.p d.W) (by simp))) (by kernel_rfl) fun x aa w1 hx hb S => ?_
  have S := (S.add (rfSt x.b x.o x.S) hx.sA (fun j hj hb => by have q1 := hlt6 j hj; obtain ⟨q2, q3⟩ := hb; rcases hx.b0 with q4 | q4 | ⟨q4, q5⟩; exact q3 q4; omega; exact hdS j hj ⟨q2.trans q4, q5⟩)).add (rfWs x.c x.p x.W) hx.wA (fun j hj hb => by have q1 := hlt6 j hj; obtain ⟨q2, q3⟩ := hb; rcases hx.c0 with q4 | q4 | ⟨q4, q5⟩; exact q3 q4; omega; exact hdW j hj ⟨q2.trans q4, q5⟩)
  refine sy_run ⟨0, [7]⟩ 60 S fun bs aa w S => ?_
  refine sy_reg S fun S => ?_
  refine sy_ops 2 S fun bs aa w S => ?_
  by_cases hE : E = 0
  case neg =>
    obtain ⟨e1, e2⟩ := HE hE
    refine sy_cast 43 S (congrArg Value.bool (by simp [hE] : (!decide (E = 0)) = true)) (by kernel_rfl) fun S => ?_
    refine sy_run ⟨0, []⟩ 60 S fun bs aa w S => ?_
    refine dr_enter [0, 1, 6] (by kernel_rfl) (by kernel_rfl) S (by kernel_rfl) (fun aa w D => ?_)
    refine dr_op 4 D (by kernel_rfl) (by kernel_rfl) (by kernel_rfl) (Nat.le_refl _) (by kernel_rfl) (by kernel_rfl) fun bs4 aa w D hl => ?_
    refine dr_op 5 D (by kernel_rfl) (by kernel_rfl) (by kernel_rfl) hl (by kernel_rfl) (by kernel_rfl) fun bs5 aa w D hl => ?_
    refine dr_op 6 D (by kernel_rfl) (by kernel_rfl) (by kernel_rfl) hl (by kernel_rfl) (by kernel_rfl) fun bs6 aa w D hl => ?_
    refine dr_end D (by kernel_rfl) fun S => ?_
    refine sy_run ⟨0, []⟩ 60 S fun bs aa w S => ?_
    exact sy_ret S (by kernel_rfl) (by kernel_rfl) fun hg' => ⟨d, by rw [decide_eq_false hE], by rw [e1, e2]; exact dvv_self _ hg (S.fact (f := rfSt d.b d.o d.S) (by simp)) (S.fact (f := rfWs d.c d.p d.W) (by simp)), (S.fact (f := rfIn mb mo zs) (by simp)), bel_gr hg'⟩
  refine sy_cast 43 S (congrArg Value.bool (by simp [hE] : (!decide (E = 0)) = false)) (by kernel_rfl) fun S => ?_
  refine sy_run ⟨0, []⟩ 60 S fun bs aa w S => ?_
  refine dr_enter [0, 7, 8] (by kernel_rfl) (by kernel_rfl) S (by kernel_rfl) (fun aa w D => ?_)
  refine dr_op 3 D (by kernel_rfl) (by kernel_rfl) (by kernel_rfl) (Nat.le_refl _) (by kernel_rfl) (by kernel_rfl) fun bs3 aa w D hl => ?_
  refine dr_op 4 D (by kernel_rfl) (by kernel_rfl) (by kernel_rfl) hl (by kernel_rfl) (by kernel_rfl) fun bs4 aa w D hl => ?_
  refine dr_op 5 D (by kernel_rfl) (by kernel_rfl) (by kernel_rfl) hl (by kernel_rfl) (by kernel_rfl) fun bs5 aa w D hl => ?_
  refine dr_end D (by kernel_rfl) fun S => ?_
  refine sy_run ⟨0, []⟩ 60 S fun bs aa w S => ?_
  exact sy_ret S (by kernel_rfl) (by kernel_rfl) fun hg' => ⟨x, by rw [hE], hx.re hwl (S.fact (f := rfSt x.b x.o x.S) (by simp)) (S.fact (f := rfWs x.c x.p x.W) (by simp)), (S.fact (f := rfIn mb mo zs) (by simp)), bel_gr hg'⟩
set_option maxHeartbeats 8000000 in
theorem rdo_6 (w0 : World) (d : Dk) (hd : d.ok) (hg : d.gen) (htl : d.tl ≤ 60) (hA : StrAt w0 d.b d.o d.S) (hB : WasAt w0 d.c d.p d.W) (zs : List Int) (ma : Option Addr) (mc mb mo : Nat) (hz : zs.length ≤ 60) (hm : zs.length = 0 ∨ ma = some ⟨mb, mo, none⟩) (hI : IntsAt w0 mb mo zs) (c o n : Int) (b : ByteArray) : Calls Try.prog 9 #[.agg #[.slice ma zs.length mc], d.v, .agg #[.int .i64 6, .int .i64 c, .int .i64 o, .int .i64 n, .string b]] w0 fun e w' => ∃ x : Dk, e = .returned (.tuple #[.agg #[.slice ma zs.length mc], x.v, .agg #[.int .i64 0, .bool (decide (dE d 6 c o n b = 0))], .int .i64 (dE d 6 c o n b)]) ∧ Dvv w0.heap.size w' d x (dS d 6 c o n b) (dW d 6 c o n b) ∧ IntsAt w' mb mo zs ∧ Below w0.heap.size w0 w' := by
  refine sy_enterF [] [rfSt d.b d.o d.S, rfWs d.c d.p d.W, rfIn mb mo zs] (by intro f hf; simp only [List.mem_cons, List.not_mem_nil, or_false] at hf; rcases hf with rfl | rfl | rfl; exact hA; exact hB; exact hI) Try.func9 rfl rfl fun aa S => ?_
  refine sy_run ⟨0, [11]⟩ 60 S fun bs aa w S => ?_
  refine sy_reg S fun S => ?_
  refine sy_ops 3 S fun bs aa w S => ?_
  by_cases hc : c = 0
  case neg =>
    have hE : dE d 6 c o n b = 1 := by unfold dE; rw [if_neg (by decide), if_neg (fun h => hc h.1)]
    have hS' : dS d 6 c o n b = d.S := by unfold dS; rw [if_neg (by decide)]
    have hW' : dW d 6 c o n b = d.W := by unfold dW; rw [if_neg (by decide), if_neg (fun h => hc h.1)]
    refine sy_cast 56 S (congrArg Value.bool (by simp [hc] : (!decide (c = 0)) = true)) (by kernel_rfl) fun S => ?_
    refine sy_run ⟨0, []⟩ 60 S fun bs aa w S => ?_
    refine dr_enter [0, 1, 6] (by kernel_rfl) (by kernel_rfl) S (by kernel_rfl) (fun aa w D => ?_)
    refine dr_op 3 D (by kernel_rfl) (by kernel_rfl) (by kernel_rfl) (Nat.le_refl _) (by kernel_rfl) (by kernel_rfl) fun bs3 aa w D hl => ?_
    refine dr_op 4 D (by kernel_rfl) (by kernel_rfl) (by kernel_rfl) hl (by kernel_rfl) (by kernel_rfl) fun bs4 aa w D hl => ?_
    refine dr_op 5 D (by kernel_rfl) (by kernel_rfl) (by kernel_rfl) hl (by kernel_rfl) (by kernel_rfl) fun bs5 aa w D hl => ?_
    refine dr_end D (by kernel_rfl) fun S => ?_
    refine sy_run ⟨0, []⟩ 60 S fun bs aa w S => ?_
    exact sy_ret S (by kernel_rfl) (by kernel_rfl) fun hg' => ⟨d, by first | (rw [hE]; done) | (rw [hE]; rfl), by rw [hS', hW']; exact dvv_self _ hg (S.fact (f := rfSt d.b d.o d.S) (by simp)) (S.fact (f := rfWs d.c d.p d.W) (by simp)), (S.fact (f := rfIn mb mo zs) (by simp)), bel_gr hg'⟩
  refine sy_cast 56 S (congrArg Value.bool (by simp [hc] : (!decide (c = 0)) = false)) (by kernel_rfl) fun S => ?_
  refine sy_ops 4 S fun bs aa w S => ?_
  by_cases ho : o = 0
  case neg =>
    have hE : dE d 6 c o n b = 1 := by unfold dE; rw [if_neg (by decide), if_neg (fun h => ho h.2.1)]
    have hS' : dS d 6 c o n b = d.S := by unfold dS; rw [if_neg (by decide)]
    have hW' : dW d 6 c o n b = d.W := by unfold dW; rw [if_neg (by decide), if_neg (fun h => ho h.2.1)]
    refine sy_cast 60 S (congrArg Value.bool (by simp [ho] : (!decide (o = 0)) = true)) (by kernel_rfl) fun S => ?_
    refine sy_run ⟨0, []⟩ 60 S fun bs aa w S => ?_
    refine dr_enter [0, 1, 6] (by kernel_rfl) (by kernel_rfl) S (by kernel_rfl) (fun aa w D => ?_)
    refine dr_op 3 D (by kernel_rfl) (by kernel_rfl) (by kernel_rfl) (Nat.le_refl _) (by kernel_rfl) (by kernel_rfl) fun bs3 aa w D hl => ?_
    refine dr_op 4 D (by kernel_rfl) (by kernel_rfl) (by kernel_rfl) hl (by kernel_rfl) (by kernel_rfl) fun bs4 aa w D hl => ?_
    refine dr_op 5 D (by kernel_rfl) (by kernel_rfl) (by kernel_rfl) hl (by kernel_rfl) (by kernel_rfl) fun bs5 aa w D hl => ?_
    refine dr_end D (by kernel_rfl) fun S => ?_
    refine sy_run ⟨0, []⟩ 60 S fun bs aa w S => ?_
    exact sy_ret S (by kernel_rfl) (by kernel_rfl) fun hg' => ⟨d, by first | (rw [hE]; done) | (rw [hE]; rfl), by rw [hS', hW']; exact dvv_self _ hg (S.fact (f := rfSt d.b d.o d.S) (by simp)) (S.fact (f := rfWs d.c d.p d.W) (by simp)), (S.fact (f := rfIn mb mo zs) (by simp)), bel_gr hg'⟩
  refine sy_cast 60 S (congrArg Value.bool (by simp [ho] : (!decide (o = 0)) = false)) (by kernel_rfl) fun S => ?_
  refine sy_ops 5 S fun bs aa w S => ?_
  by_cases hn : n = 0
  case neg =>
    have hE : dE d 6 c o n b = 1 := by unfold dE; rw [if_neg (by decide), if_neg (fun h => hn h.2.2.1)]
    have hS' : dS d 6 c o n b = d.S := by unfold dS; rw [if_neg (by decide)]
    have hW' : dW d 6 c o n b = d.W := by unfold dW; rw [if_neg (by decide), if_neg (fun h => hn h.2.2.1)]
    refine sy_cast 65 S (congrArg Value.bool (by simp [hn] : (!decide (n = 0)) = true)) (by kernel_rfl) fun S => ?_
    refine sy_run ⟨0, []⟩ 60 S fun bs aa w S => ?_
    refine dr_enter [0, 1, 6] (by kernel_rfl) (by kernel_rfl) S (by kernel_rfl) (fun aa w D => ?_)
    refine dr_op 3 D (by kernel_rfl) (by kernel_rfl) (by kernel_rfl) (Nat.le_refl _) (by kernel_rfl) (by kernel_rfl) fun bs3 aa w D hl => ?_
    refine dr_op 4 D (by kernel_rfl) (by kernel_rfl) (by kernel_rfl) hl (by kernel_rfl) (by kernel_rfl) fun bs4 aa w D hl => ?_
    refine dr_op 5 D (by kernel_rfl) (by kernel_rfl) (by kernel_rfl) hl (by kernel_rfl) (by kernel_rfl) fun bs5 aa w D hl => ?_
    refine dr_end D (by kernel_rfl) fun S => ?_
    refine sy_run ⟨0, []⟩ 60 S fun bs aa w S => ?_
    exact sy_ret S (by kernel_rfl) (by kernel_rfl) fun hg' => ⟨d, by first | (rw [hE]; done) | (rw [hE]; rfl), by rw [hS', hW']; exact dvv_self _ hg (S.fact (f := rfSt d.b d.o d.S) (by simp)) (S.fact (f := rfWs d.c d.p d.W) (by simp)), (S.fact (f := rfIn mb mo zs) (by simp)), bel_gr hg'⟩
  refine sy_cast 65 S (congrArg Value.bool (by simp [hn] : (!decide (n = 0)) = false)) (by kernel_rfl) fun S => ?_
  refine sy_ops 4 S fun bs aa w S => ?_
  by_cases hbe : b = ByteArray.empty
  case neg =>
    have hE : dE d 6 c o n b = 1 := by unfold dE; rw [if_neg (by decide), if_neg (fun h => hbe h.2.2.2)]
    have hS' : dS d 6 c o n b = d.S := by unfold dS; rw [if_neg (by decide)]
    have hW' : dW d 6 c o n b = d.W := by unfold dW; rw [if_neg (by decide), if_neg (fun h => hbe h.2.2.2)]
    refine sy_ex (op := .binOp .neq 9 (.tmp 69) (.const (.string ByteArray.empty)) 9) (ty := 4) (v := .bool true) S (by kernel_rfl) (ex_neS (p := b) (q := ByteArray.empty) (by kernel_rfl) (by kernel_rfl) (by first | (rw [tl_eq, decide_eq_false hbe]; done) | (rw [tl_eq, decide_eq_false hbe]; rfl))) fun aa S => ?_
    refine sy_run ⟨0, []⟩ 60 S fun bs aa w S => ?_
    refine dr_enter [0, 1, 6] (by kernel_rfl) (by kernel_rfl) S (by kernel_rfl) (fun aa w D => ?_)
    refine dr_op 3 D (by kernel_rfl) (by kernel_rfl) (by kernel_rfl) (Nat.le_refl _) (by kernel_rfl) (by kernel_rfl) fun bs3 aa w D hl => ?_
    refine dr_op 4 D (by kernel_rfl) (by kernel_rfl) (by kernel_rfl) hl (by kernel_rfl) (by kernel_rfl) fun bs4 aa w D hl => ?_
    refine dr_op 5 D (by kernel_rfl) (by kernel_rfl) (by kernel_rfl) hl (by kernel_rfl) (by kernel_rfl) fun bs5 aa w D hl => ?_
    refine dr_end D (by kernel_rfl) fun S => ?_
    refine sy_run ⟨0, []⟩ 60 S fun bs aa w S => ?_
    exact sy_ret S (by kernel_rfl) (by kernel_rfl) fun hg' => ⟨d, by first | (rw [hE]; done) | (rw [hE]; rfl), by rw [hS', hW']; exact dvv_self _ hg (S.fact (f := rfSt d.b d.o d.S) (by simp)) (S.fact (f := rfWs d.c d.p d.W) (by simp)), (S.fact (f := rfIn mb mo zs) (by simp)), bel_gr hg'⟩
  refine sy_ex (op := .binOp .neq 9 (.tmp 69) (.const (.string ByteArray.empty)) 9) (ty := 4) (v := .bool false) S (by kernel_rfl) (ex_neS (p := b) (q := ByteArray.empty) (by kernel_rfl) (by kernel_rfl) (by simp [tl_eq, hbe])) fun aa S => ?_
  have hE : dE d 6 c o n b = 0 := by unfold dE; rw [if_neg (by decide), if_pos ⟨hc, ho, hn, hbe⟩]
  have hS' : dS d 6 c o n b = d.S := by unfold dS; rw [if_neg (by decide)]
  have hW' : dW d 6 c o n b = [] := by unfold dW; rw [if_neg (by decide), if_pos ⟨hc, ho, hn, hbe⟩]
  rw [hE, hS', hW']
  refine sy_run ⟨0, []⟩ 60 S fun bs aa w S => ?_
  refine dr_enter [0, 1, 7] (by kernel_rfl) (by kernel_rfl) S (by kernel_rfl) (fun aa w D => ?_)
  have hltd := fun j hj => D.S.lt (i := j) hj
  have hwl := D.S.gr.size
  refine dr_call 2 D (by kernel_rfl) (by kernel_rfl) (by kernel_rfl) (X := Dk) (val := fun q => q.v) (C := fun q w' => Dev w.heap.size w' q d.S []) (f := 24) (args := #[d.v]) (rsync_any w d hd hg (D.S.fact (f := rfSt d.b d.o d.S) (by simp))) (by kernel_rfl) fun x aa w1 hx hb D => ?_
  have D := D.addF (rfSt x.b x.o x.S) (by rw [hx.eS]; exact hx.sA) (fun i hi hb => by have q1 := hltd i hi; obtain ⟨q2, q3⟩ := hb; rcases hx.b0 with q4 | q4; exact q3 (by rw [hx.eS]; exact q4); omega)
  have D := D.addF (rfWs x.c x.p x.W) (by rw [hx.eW]; exact hx.wA) (fun i hi hb => by have q1 := hltd i hi; obtain ⟨q2, q3⟩ := hb; rcases hx.c0 with q4 | q4; exact q3 (by rw [hx.eW]; exact q4); omega)
  refine dr_op 4 D (by kernel_rfl) (by kernel_rfl) (by kernel_rfl) (Nat.le_refl _) (by kernel_rfl) (by kernel_rfl) fun bs4 aa w D hl => ?_
  refine dr_op 5 D (by kernel_rfl) (by kernel_rfl) (by kernel_rfl) hl (by kernel_rfl) (by kernel_rfl) fun bs5 aa w D hl => ?_
  refine dr_op 6 D (by kernel_rfl) (by kernel_rfl) (by kernel_rfl) hl (by kernel_rfl) (by kernel_rfl) fun bs6 aa w D hl => ?_
  refine dr_end D (by kernel_rfl) fun S => ?_
  refine sy_run ⟨0, []⟩ 60 S fun bs aa w S => ?_
  exact sy_ret S (by kernel_rfl) (by kernel_rfl) fun hg' => ⟨x, rfl, hx.dvv.re hwl (S.fact (f := rfSt x.b x.o x.S) (by simp)) (S.fact (f := rfWs x.c x.p x.W) (by simp)), (S.fact (f := rfIn mb mo zs) (by simp)), bel_gr hg'⟩
end Go.Proofs.Ytekcjffdooekaaa
