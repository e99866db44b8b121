
/-
  Layer 27: the chapter's example holds.
-/
import Derived.Test.YtfkmcibglaiakaaDoorRows
import Derived.Test.YtfkmcibglaiakaaDoorBase
import Derived.Test.YtfkmcibglaiakaaDoorScM
import Derived.WalkKit
namespace Go.Proofs.YtfkmcibglaiakaaDoor
open Go Go.RowKit SZ
set_option linter.unusedVariables false
set_option linter.unusedSimpArgs false
set_option maxRecDepth 100000
attribute [local irreducible] post GD Nxt NxtAll
theorem ex_ok : ∀ x ∈ exP1, I64 x.a ∧ I64 x.b ∧ x.c.length ≤ 1000 ∧ ∀ y ∈ x.c, I64 y := by
  intro x hx
  simp only [exP1, List.mem_cons, List.not_mem_nil, or_false] at hx
  rcases hx with rfl | rfl | rfl | rfl | rfl | rfl | rfl | rfl | rfl <;> refine ⟨by unfold I64; simp only; omega, by unfold I64; simp only; omega, by simp, fun y hy => ?_⟩
  all_goals first | (simp only [List.not_mem_nil] at hy; done) | (cases hy; done) | (simp only [List.mem_cons, List.not_mem_nil, or_false] at hy; rcases hy with rfl | rfl <;> (unfold I64; omega))
theorem ex_pk {w : World} {ps : List Pk} (h : ps.map Pk.w = exP1) (hok : ∀ p ∈ ps, p.ok) (hi : ∀ p ∈ ps, IsAt w p.bl p.o p.c) : ∀ p ∈ ps, Pkr w p := fun p hp => by
  have hm : p.w ∈ exP1 := by rw [← h]; exact List.mem_map_of_mem hp
  obtain ⟨h1, h2, h3, h4⟩ := ex_ok p.w hm
  exact ⟨hok p hp, h1, h2, h3, h4, hi p hp⟩
theorem onAt_box {w : World} {b : Nat} {l : List Bool} (h : w.heap[b]? = some (.cells (l.map Value.bool).toArray 4 (0, 0))) : OnAt w b 0 l := fun j hj => by
  rw [Nat.zero_add]
  exact cel_of h (by simp [List.getElem?_map, List.getElem?_eq_getElem hj, List.getD])
theorem nx_1 : nextS [true, false, true] 2 = 0 := by kernel_rfl
theorem nx_2 : nextS [false] 0 = -1 := by kernel_rfl
set_option maxHeartbeats 8000000 in
theorem sane27 (w0 : World) (h00 : 1 < w0.heap.size) (hm : rfMx.P w0) (ht : rfTb.P w0) : Calls Tryd.prog 10 #[] w0 fun e w' => e = .returned (.bool true) ∧ Below w0.heap.size w0 w' := by
  refine sy_enterF [] [rfMx, rfTb] (by intro f hf; simp only [List.mem_cons, List.not_mem_nil, or_false] at hf; rcases hf with rfl | rfl; exact hm; exact ht) Tryd.func10 rfl rfl fun aa S => ?_
  refine sy_run ⟨0, [1]⟩ 60 S fun bs aa w S => ?_
  refine sy_reg S fun S => ?_
  refine sy_nm S fun bs S => ?_
  have hblk : ∀ j, j < bs.length → bs.getD j 0 < w.heap.size := fun j hj => S.lt hj
  have hsz := S.gr.size
  refine sy_call S (X := List Pk × Value) (val := fun x => .tuple #[x.2, .int .i64 0]) (C := fun x w' => x.1.map Pk.w = exP1 ∧ w'.ownsRow w.heap.size 25 4 x.2 x.1.length (pkV x.1) ∧ (∀ p ∈ x.1, p.ok ∧ (p.c.length = 0 ∨ w.heap.size ≤ p.bl)) ∧ ∀ p ∈ x.1, IsAt w' p.bl p.o p.c) ((parse_t w (by omega) (S.fact (f := rfMx) (by simp)) ex1 (by decide) (by decide)).mono fun e w' h => by
    rw [ex_p1] at h
    obtain ⟨⟨ps, v, q1, q2, q3, q4, q5⟩, hb⟩ := h
    exact ⟨(ps, v), q1, ⟨q2, q3, q4, q5⟩, hb⟩) (by kernel_rfl) fun x aa w1 hC hb S => ?_
  obtain ⟨ps, v⟩ := x
  obtain ⟨hps, how, hok, hIs⟩ := hC
  simp only at hps how hok hIs
  obtain ⟨a, cp, b, rfl, ha, hAt, hbb⟩ := ps_of_owns how
  have hlen : ps.length = 9 := by have q := congrArg List.length hps; rw [List.length_map] at q; exact q
  have S := S.add (rfPc ps) hIs (fun i hi h => by
    obtain ⟨p, hp, h1, h2⟩ := h
    have := (hok p hp).2.resolve_left h2
    have := hblk i hi
    omega)
  have S := S.add (rfPs b 0 ps) hAt (fun i hi h => by
    have h1 : bs.getD i 0 = b := h.1
    have := hbb.resolve_left h.2
    have := hblk i hi
    omega)
  refine sy_run ⟨0, [2]⟩ 60 S fun bs aa w S => ?_
  refine sy_reg S fun S => ?_
  refine sy_ops 1 S fun bs aa w S => ?_
  refine sy_nm S fun bs S => ?_
  have hblk : ∀ j, j < bs.length → bs.getD j 0 < w.heap.size := fun j hj => S.lt hj
  have hsz := S.gr.size
  have hpk := ex_pk hps (fun p hp => (hok p hp).1) (S.fact (f := rfPc ps) (by simp))
  refine sy_call S (X := Value) (val := fun v => v) (C := fun v w' => w'.ownsRow w.heap.size 25 4 v (plainK 2 (fun _ => 0) 0 ps).length (pkV (plainK 2 (fun _ => 0) 0 ps))) ((plain_t w 2 a cp b 0 ps ha (by omega) (fun p hp => ⟨(hpk p hp).1, (hpk p hp).2.1, (hpk p hp).2.2.2.1, (hpk p hp).2.2.2.2.2⟩) (S.fact (f := rfPs b 0 ps) (by simp))).mono fun e w' h => by
    obtain ⟨⟨v, q1, q2⟩, hb⟩ := h
    exact ⟨v, q1, q2, hb⟩) (by kernel_rfl) fun v aa w2 how2 hb2 S => ?_
  have hout : (plainK 2 (fun _ => 0) 0 ps).map Pk.w = exP2 := by rw [plainK_w, hps]; exact ex_p2
  have hmem := plainK_mem 2 ps (fun _ => 0) 0
  generalize plainK 2 (fun _ => 0) 0 ps = out at how2 hout hmem
  obtain ⟨a2, cp2, b2, rfl, ha2, hAt2, hbb2⟩ := ps_of_owns how2
  have hlen2 : out.length = 6 := by have q := congrArg List.length hout; rw [List.length_map] at q; exact q
  have S := S.add (rfPs b2 0 out) hAt2 (fun i hi h => by
    have h1 : bs.getD i 0 = b2 := h.1
    have := hbb2.resolve_left h.2
    have := hblk i hi
    omega)
  refine sy_run ⟨0, [3]⟩ 60 S fun bs aa w S => ?_
  refine sy_reg S fun S => ?_
  refine sy_nm S fun bs S => ?_
  have hblk : ∀ j, j < bs.length → bs.getD j 0 < w.heap.size := fun j hj => S.lt hj
  have hsz := S.gr.size
  refine sy_call S (X := Value) (val := fun v => .tuple #[v, .int .i64 3]) (C := fun _ _ => True) ((parse_t w (by omega) (S.fact (f := rfMx) (by simp)) [48, 120] (by decide) (by decide)).mono fun e w' h => by
    rw [ex_p0] at h
    obtain ⟨⟨ps, v, q1, _⟩, hb⟩ := h
    exact ⟨v, q1, trivial, hb⟩) (by kernel_rfl) fun v aa w3 _ hb3 S => ?_
  refine sy_run ⟨0, [4]⟩ 60 S fun bs aa w S => ?_
  refine sy_reg S fun S => ?_
  refine sy_ops 10 S fun bs aa w S => ?_
  refine sy_cast 25 S (congrArg Value.bool (decide_eq_true (by omega) : decide ((ps.length : Int) = 9) = true)) (by kernel_rfl) fun S => ?_
  refine sy_ops 3 S fun bs aa w S => ?_
  refine sy_nm S fun bs S => ?_
  have hblk : ∀ j, j < bs.length → bs.getD j 0 < w.heap.size := fun j hj => S.lt hj
  have hsz := S.gr.size
  have hpk := ex_pk hps (fun p hp => (hok p hp).1) (S.fact (f := rfPc ps) (by simp))
  refine sy_call1 S (by have q := text_t w (by omega) (S.fact (f := rfTb) (by simp)) b2 0 cp2 a2 out (by omega) ha2 (S.fact (f := rfPs b2 0 out) (by simp)) (fun p hp => hpk p (hmem p hp)); rw [ex_t2 hout] at q; exact q) (by kernel_rfl) fun aa w hb S => ?_
  refine sy_ex (op := .binOp .eql 9 (.tmp 29) (.const (.string ⟨#[48, 120, 51, 32, 49, 32, 48, 32, 33, 51, 44, 51, 50]⟩)) 9) (ty := 4) (v := .bool true) S (by kernel_rfl) (ex_eqL (l := ex2) (m := ex2) (by kernel_rfl) (by kernel_rfl) (by decide) (by decide) (decide_eq_true rfl)) fun aa S => ?_
  refine sy_ops 3 S fun bs aa w S => ?_
  refine sy_nm S fun bs S => ?_
  have hblk : ∀ j, j < bs.length → bs.getD j 0 < w.heap.size := fun j hj => S.lt hj
  have hsz := S.gr.size
  have hpk := ex_pk hps (fun p hp => (hok p hp).1) (S.fact (f := rfPc ps) (by simp))
  refine sy_call1 S (by have q := text_t w (by omega) (S.fact (f := rfTb) (by simp)) b 0 cp a ps (by omega) ha (S.fact (f := rfPs b 0 ps) (by simp)) hpk; rw [ex_t1 hps] at q; exact q) (by kernel_rfl) fun aa w hb S => ?_
  refine sy_ex (op := .binOp .eql 9 (.tmp 34) (.const (.string ⟨#[48, 120, 50, 32, 49, 126, 50, 32, 49, 32, 48, 32, 49, 32, 48, 32, 33, 51, 44, 51, 50, 32, 48]⟩)) 9) (ty := 4) (v := .bool true) S (by kernel_rfl) (ex_eqL (l := ex1) (m := ex1) (by kernel_rfl) (by kernel_rfl) (by decide) (by decide) (decide_eq_true rfl)) fun aa S => ?_
  refine sy_ops 3 S fun bs aa w S => ?_
  refine sy_nm S fun bs S => ?_
  have hblk : ∀ j, j < bs.length → bs.getD j 0 < w.heap.size := fun j hj => S.lt hj
  have hsz := S.gr.size
  refine sy_call1 S (by have q := next_t w [true, false, true] (some ⟨bs.getD 0 0, 0, none⟩) 3 (bs.getD 0 0) 0 (Or.inr rfl) (by decide) (onAt_box (l := [true, false, true]) (S.bx 0 ⟨4, [.bool true, .bool false, .bool true]⟩ (by kernel_rfl))) 2; rw [nx_1] at q; exact q) (by kernel_rfl) fun aa w hb S => ?_
  refine sy_ops 4 S fun bs aa w S => ?_
  refine sy_nm S fun bs S => ?_
  have hblk : ∀ j, j < bs.length → bs.getD j 0 < w.heap.size := fun j hj => S.lt hj
  have hsz := S.gr.size
  refine sy_call1 S (by have q := next_t w [false] (some ⟨bs.getD 1 0, 0, none⟩) 1 (bs.getD 1 0) 0 (Or.inr rfl) (by decide) (onAt_box (l := [false]) (S.bx 1 ⟨4, [.bool false]⟩ (by kernel_rfl))) 0; rw [nx_2] at q; exact q) (by kernel_rfl) fun aa w hb S => ?_
  refine sy_run ⟨0, []⟩ 60 S fun bs aa w S => ?_
  exact sy_ret S (by kernel_rfl) (by kernel_rfl) fun hg => ⟨rfl, bel_gr hg⟩
end Go.Proofs.YtfkmcibglaiakaaDoor
