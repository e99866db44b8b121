
/-
  Layer 27: Right, Plain and Next are the reference's.
-/
import Derived.Test.YtfkmcibglaiakaaDoorRows
import Derived.Test.YtfkmcibglaiakaaDoorBase
import Derived.Test.YtfkmcibglaiakaaDoorScV
import Derived.Test.YtfkmcibglaiakaaDoorScW
import Derived.WalkKit
namespace Go.Proofs.YtfkmcibglaiakaaDoor
open Go Go.RowKit SZ
set_option linter.unusedVariables false
set_option linter.unusedSimpArgs false
set_option maxRecDepth 100000
attribute [local irreducible] post GD Nxt NxtAll
/-- The reference's Plain, with its answer as a row. -/
theorem rplain_p (w : World) (tt : Int) (a : Option Addr) (cap b off : Nat) (ps : List Pk) (ha : ps.length = 0 ∨ a = some ⟨b, off, none⟩) (hl : ps.length ≤ 10000) (hps : ∀ p ∈ ps, Pko w p) (hAt : PsAt w b off ps) : Calls Tryd.prog 16 #[.int .i64 tt, .slice a ps.length cap] w fun e w' => ∃ x : Option Addr × Nat × Nat, e = .returned (.slice x.1 (plainK tt (fun _ => 0) 0 ps).length x.2.1) ∧ (((plainK tt (fun _ => 0) 0 ps).length = 0 ∨ x.1 = some ⟨x.2.2, 0, none⟩) ∧ PsAt w' x.2.2 0 (plainK tt (fun _ => 0) 0 ps) ∧ ((plainK tt (fun _ => 0) 0 ps).length = 0 ∨ w.heap.size ≤ x.2.2)) ∧ Below w.heap.size w w' := by
  refine (rplain_t w tt a cap b off ps ha hl hps hAt).mono fun e w' h => ?_
  obtain ⟨⟨v, q1, q2⟩, hb⟩ := h
  generalize plainK tt (fun _ => 0) 0 ps = out at *
  obtain ⟨a, cp, b, rfl, h1, h2, h3⟩ := ps_of_owns q2
  exact ⟨(a, cp, b), q1, ⟨h1, h2, h3⟩, hb⟩
set_option maxHeartbeats 8000000 in
theorem matches_all (w0 : World) (hm : rfMx.P w0) (ht : rfTb.P w0) (tt : Int) (a : Option Addr) (cp b o : Nat) (ps : List Pk) (ha : ps.length = 0 ∨ a = some ⟨b, o, none⟩) (hAt : PsAt w0 b o ps) (hps : ∀ p ∈ ps, PkH w0 p) (q : Pk) (hq : PkH w0 q) (on : List Bool) (a3 : Option Addr) (c3 b3 o3 : Nat) (h3 : on.length = 0 ∨ a3 = some ⟨b3, o3, none⟩) (hOn : OnAt w0 b3 o3 on) (last : Int) : Calls Tryd.prog 3 #[.int .i64 tt, .slice a ps.length cp, q.v, .slice a3 on.length c3, .int .i64 last] w0 (fun e w' => e = .returned (.bool true) ∧ Below w0.heap.size w0 w') := by
  have h00 : 1 < w0.heap.size := rfTb.lt w0 ht 1 rfl
  refine sy_enterF [] [rfPs b o ps, rfPc ps, rfIs q.bl q.o q.c, rfOn b3 o3 on, rfMx, rfTb] (by intro f hf; simp only [List.mem_cons, List.not_mem_nil, or_false] at hf; rcases hf with rfl | rfl | rfl | rfl | rfl | rfl; exact hAt; exact fun p hp => (hps p hp).2.2.1; exact hq.2.2.1; exact hOn; exact hm; exact ht) Tryd.func3 rfl rfl fun aa S => ?_
  refine sy_run ⟨0, [1]⟩ 60 S fun bs aa w S => ?_
  refine sy_reg S fun S => ?_
  have hsz := S.gr.size
  refine sy_call1 S (sane27 _ (by omega) (S.fact (f := rfMx) (by simp)) (S.fact (f := rfTb) (by simp))) (by kernel_rfl) fun aa w hb2 S => ?_
  refine sy_run ⟨0, [2]⟩ 60 S fun bs aa w S => ?_
  refine sy_reg S fun S => ?_
  refine sy_ops 1 S fun bs aa w S => ?_
  have hfw := few_t w 250 ps a cp b o ha (by omega) (S.fact (f := rfPs b o ps) (by simp))
  cases hf : fewB ps 250 with
  | false =>
    rw [hf] at hfw
    refine sy_call1 S hfw (by kernel_rfl) fun aa w hb S => ?_
    refine sy_run ⟨0, []⟩ 60 S fun bs aa w S => ?_
    exact sy_ret S (by kernel_rfl) (by kernel_rfl) fun hg => ⟨rfl, bel_gr hg⟩
  | true =>
  rw [hf] at hfw
  obtain ⟨hl, hcc⟩ := few_of hf
  refine sy_call1 S hfw (by kernel_rfl) fun aa w hb S => ?_
  refine sy_ops 6 S fun bs aa w S => ?_
  by_cases hc8 : q.c.length ≤ 80
  case neg =>
    refine sy_cast 20 S (congrArg Value.bool (decide_eq_true (by omega) : decide ((q.c.length : Int) > 80) = true)) (by kernel_rfl) fun S => ?_
    refine sy_run ⟨0, []⟩ 60 S fun bs aa w S => ?_
    exact sy_ret S (by kernel_rfl) (by kernel_rfl) fun hg => ⟨rfl, bel_gr hg⟩
  refine sy_cast 20 S (congrArg Value.bool (decide_eq_false (by omega) : decide ((q.c.length : Int) > 80) = false)) (by kernel_rfl) fun S => ?_
  refine sy_ops 5 S fun bs aa w S => ?_
  by_cases ho5 : on.length ≤ 50
  case neg =>
    refine sy_cast 25 S (congrArg Value.bool (decide_eq_true (by omega) : decide ((on.length : Int) > 50) = true)) (by kernel_rfl) fun S => ?_
    refine sy_run ⟨0, []⟩ 60 S fun bs aa w S => ?_
    exact sy_ret S (by kernel_rfl) (by kernel_rfl) fun hg => ⟨rfl, bel_gr hg⟩
  refine sy_cast 25 S (congrArg Value.bool (decide_eq_false (by omega) : decide ((on.length : Int) > 50) = false)) (by kernel_rfl) fun S => ?_
  generalize hnx : nextS on last = nx
  refine sy_run ⟨0, []⟩ 60 S fun bs aa w S => ?_
  cases hr : rightB tt q.w with
  | true =>
    refine dr_enter [0] (by kernel_rfl) (by kernel_rfl) S (by kernel_rfl) (fun aa w D => ?_)
    refine dr_call1 4 D (by kernel_rfl) (by kernel_rfl) (by kernel_rfl) (v := .bool true) (f := 12) (args := #[.int .i64 tt, q.v]) (by have q0 := right_t w tt q hq.1 (by omega) (D.S.fact (f := rfIs q.bl q.o q.c) (by simp)); rw [hr] at q0; exact q0) (by kernel_rfl) fun aa w hb D => ?_
    refine dr_call1 7 D (by kernel_rfl) (by kernel_rfl) (by kernel_rfl) (v := .bool true) (f := 13) (args := #[.int .i64 tt, q.v]) (by have q0 := rright_t w tt q hq.1 (by omega) (D.S.fact (f := rfIs q.bl q.o q.c) (by simp)); rw [hr] at q0; exact q0) (by kernel_rfl) fun aa w hb D => ?_
    have hlt1 := fun j hj => D.S.lt (i := j) hj
    refine dr_call 13 D (by kernel_rfl) (by kernel_rfl) (by kernel_rfl) (X := Option Addr × Nat × Nat) (f := 15) (args := #[.int .i64 tt, .slice a ps.length cp]) (plain_p w tt a cp b o ps ha (by omega) (fun p hp => ⟨(hps p hp).1, (hps p hp).2.1.2.1, by have := hcc p hp; omega, (D.S.fact (f := rfPc ps) (by simp)) p hp⟩) (D.S.fact (f := rfPs b o ps) (by simp))) (by kernel_rfl) fun x1 aa w1 hC1 hb1 D => ?_
    have hmem := plainK_mem tt ps (fun _ => 0) 0
    have hlen := plainK_len tt ps (fun _ => 0) 0
    have hlt2 := fun j hj => D.S.lt (i := j) hj
    have D := D.addF (rfPs x1.2.2 0 (plainK tt (fun _ => 0) 0 ps)) hC1.2.1 (fun j hj h => by
      have e1 := h.1
      have := hC1.2.2.1.resolve_left h.2
      have := hlt1 j hj
      omega)
    refine dr_call 16 D (by kernel_rfl) (by kernel_rfl) (by kernel_rfl) (X := Option Addr × Nat × Nat) (f := 16) (args := #[.int .i64 tt, .slice a ps.length cp]) (rplain_p w1 tt a cp b o ps ha (by omega) (fun p hp => ⟨(hps p hp).1, (hps p hp).2.1.2.1, by have := hcc p hp; omega, (D.S.fact (f := rfPc ps) (by simp)) p hp⟩) (D.S.fact (f := rfPs b o ps) (by simp))) (by kernel_rfl) fun x2 aa w2 hC2 hb2 D => ?_
    have D := D.addF (rfPs x2.2.2 0 (plainK tt (fun _ => 0) 0 ps)) hC2.2.1 (fun j hj h => by
      have e1 := h.1
      have := hC2.2.2.resolve_left h.2
      have := hlt2 j hj
      omega)
    refine dr_call1 17 D (by kernel_rfl) (by kernel_rfl) (by kernel_rfl) (v := .bool true) (f := 14) (args := #[.slice x1.1 (plainK tt (fun _ => 0) 0 ps).length x1.2.1, .slice x2.1 (plainK tt (fun _ => 0) 0 ps).length x2.2.1]) (by
      have q0 := same_t w2 (plainK tt (fun _ => 0) 0 ps) (plainK tt (fun _ => 0) 0 ps) x1.1 x2.1 x1.2.1 x2.2.1 x1.2.2 0 x2.2.2 0 hC1.1 hC2.1 (by omega) (fun p hp => ⟨(hps p (hmem p hp)).1, by have := hcc p (hmem p hp); omega⟩) (fun p hp => (hps p (hmem p hp)).1) (D.S.fact (f := rfPs x1.2.2 0 (plainK tt (fun _ => 0) 0 ps)) (by simp)) (fun p hp => (D.S.fact (f := rfPc ps) (by simp)) p (hmem p hp)) (D.S.fact (f := rfPs x2.2.2 0 (plainK tt (fun _ => 0) 0 ps)) (by simp)) (fun p hp => (D.S.fact (f := rfPc ps) (by simp)) p (hmem p hp))
      rw [decide_eq_true rfl] at q0
      exact q0) (by kernel_rfl) fun aa w hb D => ?_
    refine dr_call1 22 D (by kernel_rfl) (by kernel_rfl) (by kernel_rfl) (v := .int .i64 nx) (f := 17) (args := #[.slice a3 on.length c3, .int .i64 last]) (by have q0 := next_t w on a3 c3 b3 o3 h3 (by omega) (D.S.fact (f := rfOn b3 o3 on) (by simp)) last; rw [hnx] at q0; exact q0) (by kernel_rfl) fun aa w hb D => ?_
    refine dr_call1 25 D (by kernel_rfl) (by kernel_rfl) (by kernel_rfl) (v := .int .i64 nx) (f := 18) (args := #[.slice a3 on.length c3, .int .i64 last]) (by have q0 := rnext_t w on a3 c3 b3 o3 h3 (by omega) (D.S.fact (f := rfOn b3 o3 on) (by simp)) last; rw [hnx] at q0; exact q0) (by kernel_rfl) fun aa w hb D => ?_
    refine dr_end D (by kernel_rfl) fun S => ?_
    refine sy_cast 10 S (congrArg Value.bool (decide_eq_true rfl : decide (nx = nx) = true)) (by kernel_rfl) fun S => ?_
    refine sy_run ⟨0, []⟩ 60 S fun bs aa w S => ?_
    exact sy_ret S (by kernel_rfl) (by kernel_rfl) fun hg => ⟨rfl, bel_gr hg⟩
  | false =>
    refine dr_enter [0] (by kernel_rfl) (by kernel_rfl) S (by kernel_rfl) (fun aa w D => ?_)
    refine dr_call1 4 D (by kernel_rfl) (by kernel_rfl) (by kernel_rfl) (v := .bool false) (f := 12) (args := #[.int .i64 tt, q.v]) (by have q0 := right_t w tt q hq.1 (by omega) (D.S.fact (f := rfIs q.bl q.o q.c) (by simp)); rw [hr] at q0; exact q0) (by kernel_rfl) fun aa w hb D => ?_
    refine dr_call1 7 D (by kernel_rfl) (by kernel_rfl) (by kernel_rfl) (v := .bool false) (f := 13) (args := #[.int .i64 tt, q.v]) (by have q0 := rright_t w tt q hq.1 (by omega) (D.S.fact (f := rfIs q.bl q.o q.c) (by simp)); rw [hr] at q0; exact q0) (by kernel_rfl) fun aa w hb D => ?_
    have hlt1 := fun j hj => D.S.lt (i := j) hj
    refine dr_call 13 D (by kernel_rfl) (by kernel_rfl) (by kernel_rfl) (X := Option Addr × Nat × Nat) (f := 15) (args := #[.int .i64 tt, .slice a ps.length cp]) (plain_p w tt a cp b o ps ha (by omega) (fun p hp => ⟨(hps p hp).1, (hps p hp).2.1.2.1, by have := hcc p hp; omega, (D.S.fact (f := rfPc ps) (by simp)) p hp⟩) (D.S.fact (f := rfPs b o ps) (by simp))) (by kernel_rfl) fun x1 aa w1 hC1 hb1 D => ?_
    have hmem := plainK_mem tt ps (fun _ => 0) 0
    have hlen := plainK_len tt ps (fun _ => 0) 0
    have hlt2 := fun j hj => D.S.lt (i := j) hj
    have D := D.addF (rfPs x1.2.2 0 (plainK tt (fun _ => 0) 0 ps)) hC1.2.1 (fun j hj h => by
      have e1 := h.1
      have := hC1.2.2.1.resolve_left h.2
      have := hlt1 j hj
      omega)
    refine dr_call 16 D (by kernel_rfl) (by kernel_rfl) (by kernel_rfl) (X := Option Addr × Nat × Nat) (f := 16) (args := #[.int .i64 tt, .slice a ps.length cp]) (rplain_p w1 tt a cp b o ps ha (by omega) (fun p hp => ⟨(hps p hp).1, (hps p hp).2.1.2.1, by have := hcc p hp; omega, (D.S.fact (f := rfPc ps) (by simp)) p hp⟩) (D.S.fact (f := rfPs b o ps) (by simp))) (by kernel_rfl) fun x2 aa w2 hC2 hb2 D => ?_
    have D := D.addF (rfPs x2.2.2 0 (plainK tt (fun _ => 0) 0 ps)) hC2.2.1 (fun j hj h => by
      have e1 := h.1
      have := hC2.2.2.resolve_left h.2
      have := hlt2 j hj
      omega)
    refine dr_call1 17 D (by kernel_rfl) (by kernel_rfl) (by kernel_rfl) (v := .bool true) (f := 14) (args := #[.slice x1.1 (plainK tt (fun _ => 0) 0 ps).length x1.2.1, .slice x2.1 (plainK tt (fun _ => 0) 0 ps).length x2.2.1]) (by
      have q0 := same_t w2 (plainK tt (fun _ => 0) 0 ps) (plainK tt (fun _ => 0) 0 ps) x1.1 x2.1 x1.2.1 x2.2.1 x1.2.2 0 x2.2.2 0 hC1.1 hC2.1 (by omega) (fun p hp => ⟨(hps p (hmem p hp)).1, by have := hcc p (hmem p hp); omega⟩) (fun p hp => (hps p (hmem p hp)).1) (D.S.fact (f := rfPs x1.2.2 0 (plainK tt (fun _ => 0) 0 ps)) (by simp)) (fun p hp => (D.S.fact (f := rfPc ps) (by simp)) p (hmem p hp)) (D.S.fact (f := rfPs x2.2.2 0 (plainK tt (fun _ => 0) 0 ps)) (by simp)) (fun p hp => (D.S.fact (f := rfPc ps) (by simp)) p (hmem p hp))
      rw [decide_eq_true rfl] at q0
      exact q0) (by kernel_rfl) fun aa w hb D => ?_
    refine dr_call1 22 D (by kernel_rfl) (by kernel_rfl) (by kernel_rfl) (v := .int .i64 nx) (f := 17) (args := #[.slice a3 on.length c3, .int .i64 last]) (by have q0 := next_t w on a3 c3 b3 o3 h3 (by omega) (D.S.fact (f := rfOn b3 o3 on) (by simp)) last; rw [hnx] at q0; exact q0) (by kernel_rfl) fun aa w hb D => ?_
    refine dr_call1 25 D (by kernel_rfl) (by kernel_rfl) (by kernel_rfl) (v := .int .i64 nx) (f := 18) (args := #[.slice a3 on.length c3, .int .i64 last]) (by have q0 := rnext_t w on a3 c3 b3 o3 h3 (by omega) (D.S.fact (f := rfOn b3 o3 on) (by simp)) last; rw [hnx] at q0; exact q0) (by kernel_rfl) fun aa w hb D => ?_
    refine dr_end D (by kernel_rfl) fun S => ?_
    refine sy_cast 10 S (congrArg Value.bool (decide_eq_true rfl : decide (nx = nx) = true)) (by kernel_rfl) fun S => ?_
    refine sy_run ⟨0, []⟩ 60 S fun bs aa w S => ?_
    exact sy_ret S (by kernel_rfl) (by kernel_rfl) fun hg => ⟨rfl, bel_gr hg⟩
end Go.Proofs.YtfkmcibglaiakaaDoor
