
/-
  Layer 27: the plain form is its own plain form.
-/
import Derived.Test.YtfkmcibglaiakaaDoorRows
import Derived.Test.YtfkmcibglaiakaaDoorBase
import Derived.Test.YtfkmcibglaiakaaDoorScN
import Derived.Test.YtfkmcibglaiakaaDoorScQ
import Derived.Test.YtfkmcibglaiakaaDoorScR
import Derived.Test.YtfkmcibglaiakaaDoorScO
import Derived.WalkKit
namespace Go.Proofs.YtfkmcibglaiakaaDoor
open Go Go.RowKit SZ
set_option linter.unusedVariables false
set_option linter.unusedSimpArgs false
set_option maxRecDepth 100000
attribute [local irreducible] post GD Nxt NxtAll
/-- Plain, with its answer as a row. -/
theorem plain_p (w : World) (tt : Int) (a : Option Addr) (cap b off : Nat) (ps : List Pk) (ha : ps.length = 0 ∨ a = some ⟨b, off, none⟩) (hl : ps.length ≤ 10000) (hps : ∀ p ∈ ps, Pko w p) (hAt : PsAt w b off ps) : Calls Tryd.prog 15 #[.int .i64 tt, .slice a ps.length cap] w fun e w' => ∃ x : Option Addr × Nat × Nat, e = .returned (.slice x.1 (plainK tt (fun _ => 0) 0 ps).length x.2.1) ∧ (((plainK tt (fun _ => 0) 0 ps).length = 0 ∨ x.1 = some ⟨x.2.2, 0, none⟩) ∧ PsAt w' x.2.2 0 (plainK tt (fun _ => 0) 0 ps) ∧ ((plainK tt (fun _ => 0) 0 ps).length = 0 ∨ w.heap.size ≤ x.2.2) ∧ (plainK tt (fun _ => 0) 0 ps).length ≤ x.2.1 ∧ x.2.1 ≤ maxLen) ∧ Below w.heap.size w w' := by
  refine (plain_t w tt a cap b off ps ha hl hps hAt).mono fun e w' h => ?_
  obtain ⟨⟨v, q1, q2⟩, hb⟩ := h
  generalize plainK tt (fun _ => 0) 0 ps = out at *
  obtain ⟨a, cp, b, rfl, h1, h2, h3⟩ := ps_of_owns q2
  refine ⟨(a, cp, b), q1, ⟨h1, h2, h3, ?_⟩, hb⟩
  rcases q2.2 with ⟨e1, e2⟩ | ⟨g, cap, cur, e1, _, _, e3, e4, _⟩
  · simp only [Value.slice.injEq] at e1
    obtain ⟨_, e5, e6⟩ := e1
    rw [e2, e6]
    exact ⟨Nat.le_refl _, Nat.zero_le _⟩
  · simp only [Value.slice.injEq] at e1
    obtain ⟨_, _, e6⟩ := e1
    rw [e6]
    exact ⟨e3, e4⟩
/-- Valid picks: turns, and a crash at the end alone. -/
def goodP (t : Int) : List Pk → Prop
  | [] => True
  | p :: r => rightB t p.w = true ∧ ((p.k = 1 ∧ goodP t r) ∨ (p.k = 3 ∧ r = []))
theorem plainK_good (t : Int) : ∀ (ps : List Pk) (u : Int → Int) (n : Int), goodP t (plainK t u n ps)
  | [], u, n => trivial
  | p :: r, u, n => by
    unfold plainK
    split
    · next h =>
      split
      · next h1 =>
        split
        · exact ⟨h, Or.inl ⟨h1, plainK_good t r u (n + 1)⟩⟩
        · exact plainK_good t r u (n + 1)
      · next h1 =>
        split
        · exact plainK_good t r _ (n + 1)
        · next h2 => exact ⟨h, Or.inr ⟨right_3 h h1 h2, rfl⟩⟩
    · exact plainK_good t r u n
theorem plainK_self (t : Int) : ∀ (ps : List Pk) (n : Int), goodP t ps → 0 ≤ n → plainK t (fun _ => 0) n ps = ps
  | [], n, _, _ => rfl
  | p :: r, n, h, hn => by
    obtain ⟨h0, h1⟩ := h
    unfold plainK
    rw [if_pos h0]
    rcases h1 with ⟨h1, h2⟩ | ⟨h1, rfl⟩
    · rw [if_pos h1, if_pos (by show n + 1 > 0; omega), plainK_self t r (n + 1) h2 (by omega)]
    · rw [if_neg (by omega), if_neg (by omega)]
theorem goodP_at {t : Int} : ∀ {ps : List Pk} {j : Nat}, goodP t ps → j < ps.length → rightB t (ps.getD j pk0).w = true ∧ ((ps.getD j pk0).k = 1 ∨ ((ps.getD j pk0).k = 3 ∧ j + 1 = ps.length))
  | [], j, _, hj => by simp at hj
  | p :: r, 0, h, _ => by
    obtain ⟨h0, h1⟩ := h
    refine ⟨h0, ?_⟩
    rcases h1 with ⟨h1, _⟩ | ⟨h1, rfl⟩
    · exact Or.inl h1
    · exact Or.inr ⟨h1, rfl⟩
  | p :: r, j + 1, h, hj => by
    obtain ⟨h0, h1⟩ := h
    rcases h1 with ⟨_, h2⟩ | ⟨_, rfl⟩
    · have := goodP_at h2 (j := j) (by simpa using hj)
      refine ⟨this.1, this.2.imp id fun q => ⟨q.1, ?_⟩⟩
      rw [List.length_cons]; omega
    · simp at hj
noncomputable def idC : Cfg := ⟨goZ 60 [0] [.code (bodyOf Tryd.f6)], ⟨0, [], []⟩⟩
noncomputable def idS (a1 : Option Addr) (n1 c1 : Nat) (tt : Int) (a2 : Option Addr) (n2 c2 j : Nat) : SS := ⟨71, [(1, .v (.slice a1 n1 c1)), (5, .v (.bool true)), (6, .v (.int .i64 tt)), (7, .v (.slice a2 n2 c2)), (8, .v (.int .i64 (j : Int)))], []⟩
set_option maxHeartbeats 8000000 in
theorem id_e (w0 : World) (n1 c1 : Nat) (a1 : Option Addr) (tt : Int) (ps : List Pk) (a2 : Option Addr) (c2 b2 : Nat) (h2 : ps.length = 0 ∨ a2 = some ⟨b2, 0, none⟩) (hg : goodP tt ps) (hl : ps.length ≤ n1) (hn : n1 ≤ 250) (hok : ∀ p ∈ ps, PkH w0 p ∧ p.c.length ≤ 80) (m : Nat) (aa : Act) (w : World) (S : Sy w0 [] [] (idS a1 n1 c1 tt a2 ps.length c2 (ps.length)) [rfPs b2 0 ps, rfPc ps] aa w) : post Tryd.prog (.rnd (m + 1) (bodyL idC) :: idC.k.tail) (bodyPost Tryd.prog Tryd.f6 (fun e w' => e = .returned (.bool true) ∧ Below w0.heap.size w0 w')) .normal aa w := by
  refine sy_run (c := ⟨(.rnd (m + 1) (bodyL idC) :: idC.k.tail), idS a1 n1 c1 tt a2 ps.length c2 (ps.length)⟩) ⟨0, [7]⟩ 50 S fun bs aa w S => ?_
  refine sy_reg S fun S => ?_
  refine sy_ops 4 S fun bs aa w S => ?_
  refine sy_cast 23 S (congrArg Value.bool (decide_eq_false (by omega) : decide ((ps.length : Int) < (ps.length : Int)) = false)) (by kernel_rfl) fun S => ?_
  refine sy_run ⟨0, [11]⟩ 60 S fun bs aa w S => ?_
  refine sy_reg S fun S => ?_
  refine sy_ops 4 S fun bs aa w S => ?_
  refine sy_nm S fun bs S => ?_
  have hblk : ∀ j, j < bs.length → bs.getD j 0 < w.heap.size := fun j hj => S.lt hj
  have hsz := S.gr.size
  have hse := plainK_self tt ps 0 hg (Int.le_refl _)
  have hpl := plain_p w tt a2 c2 b2 0 ps h2 (by omega) (fun p hp => ⟨(hok p hp).1.1, (hok p hp).1.2.1.2.1, by have := (hok p hp).2; omega, (S.fact (f := rfPc ps) (by simp)) p hp⟩) (S.fact (f := rfPs b2 0 ps) (by simp))
  rw [hse] at hpl
  refine sy_call S (X := Option Addr × Nat × Nat) (val := fun x => .slice x.1 ps.length x.2.1) (C := fun x w' => (ps.length = 0 ∨ x.1 = some ⟨x.2.2, 0, none⟩) ∧ PsAt w' x.2.2 0 ps ∧ (ps.length = 0 ∨ w.heap.size ≤ x.2.2) ∧ ps.length ≤ x.2.1 ∧ x.2.1 ≤ maxLen) hpl (by kernel_rfl) fun x aa w1 hC hb S => ?_
  obtain ⟨a3, c3, b3⟩ := x
  obtain ⟨h3, hAt3, hb3, hc3, _⟩ := hC
  simp only at h3 hAt3 hb3 hc3
  have S := S.add (rfPs b3 0 ps) hAt3 (fun i hi h => by
    have h1 : bs.getD i 0 = b3 := h.1
    have := hb3.resolve_left h.2
    have := hblk i hi
    omega)
  refine sy_ops 1 S fun bs aa w S => ?_
  have hsm := same_t w ps ps a3 a2 c3 c2 b3 0 b2 0 h3 h2 (by omega) (fun p hp => ⟨(hok p hp).1.1, by have := (hok p hp).2; omega⟩) (fun p hp => (hok p hp).1.1) (S.fact (f := rfPs b3 0 ps) (by simp)) (S.fact (f := rfPc ps) (by simp)) (S.fact (f := rfPs b2 0 ps) (by simp)) (S.fact (f := rfPc ps) (by simp))
  rw [decide_eq_true rfl] at hsm
  refine sy_call1 S hsm (by kernel_rfl) fun aa w hb S => ?_
  refine sy_ops 7 S fun bs aa w S => ?_
  refine sy_cast 69 S (congrArg Value.bool (decide_eq_true (by omega) : decide ((ps.length : Int) ≤ (n1 : Int)) = true)) (by kernel_rfl) fun S => ?_
  refine sy_run ⟨0, []⟩ 60 S fun bs aa w S => ?_
  exact sy_ret S (by kernel_rfl) (by kernel_rfl) fun hg => ⟨rfl, bel_gr hg⟩
set_option maxHeartbeats 8000000 in
theorem id_s (w0 : World) (n1 c1 : Nat) (a1 : Option Addr) (tt : Int) (ps : List Pk) (a2 : Option Addr) (c2 b2 : Nat) (h2 : ps.length = 0 ∨ a2 = some ⟨b2, 0, none⟩) (hg : goodP tt ps) (hl : ps.length ≤ n1) (hn : n1 ≤ 250) (hok : ∀ p ∈ ps, PkH w0 p ∧ p.c.length ≤ 80) (m j : Nat) (hj : j < ps.length) (ih : ∀ (aa : Act) (w : World) (S : Sy w0 [] [] (idS a1 n1 c1 tt a2 ps.length c2 (j + 1)) [rfPs b2 0 ps, rfPc ps] aa w), post Tryd.prog (.rnd (m) (bodyL idC) :: idC.k.tail) (bodyPost Tryd.prog Tryd.f6 (fun e w' => e = .returned (.bool true) ∧ Below w0.heap.size w0 w')) .normal aa w) (aa : Act) (w : World) (S : Sy w0 [] [] (idS a1 n1 c1 tt a2 ps.length c2 (j)) [rfPs b2 0 ps, rfPc ps] aa w) : post Tryd.prog (.rnd (m + 1) (bodyL idC) :: idC.k.tail) (bodyPost Tryd.prog Tryd.f6 (fun e w' => e = .returned (.bool true) ∧ Below w0.heap.size w0 w')) .normal aa w := by
  have hmem := getD_mem ps j pk0 hj
  obtain ⟨hr, hk⟩ := goodP_at hg hj
  refine sy_run (c := ⟨(.rnd (m + 1) (bodyL idC) :: idC.k.tail), idS a1 n1 c1 tt a2 ps.length c2 (j)⟩) ⟨0, [7]⟩ 50 S fun bs aa w S => ?_
  refine sy_reg S fun S => ?_
  refine sy_ops 4 S fun bs aa w S => ?_
  refine sy_cast 23 S (congrArg Value.bool (decide_eq_true (by omega) : decide ((j : Int) < (ps.length : Int)) = true)) (by kernel_rfl) fun S => ?_
  refine sy_run ⟨0, [9]⟩ 60 S fun bs aa w S => ?_
  refine sy_reg S fun S => ?_
  refine sy_ops 3 S fun bs aa w S => ?_
  refine sy_ix (b := b2) (off := 0) (len := ps.length) (n := j) (size := 4) (i := (j : Int)) S (by rw [← h2.resolve_left (by omega)]; kernel_rfl) rfl hj fun aa S => ?_
  refine sy_ldo S (v := (ps.getD j pk0).v) (ld_pk (S.fact (f := rfPs b2 0 ps) (by simp)) hj) (by kernel_rfl) fun aa S => ?_
  have hrt := right_t w tt (ps.getD j pk0) (hok _ hmem).1.1 (by have := (hok _ hmem).2; omega) ((S.fact (f := rfPc ps) (by simp)) _ hmem)
  rw [hr] at hrt
  refine sy_call1 S hrt (by kernel_rfl) fun aa w hb S => ?_
  refine sy_ops 4 S fun bs aa w S => ?_
  refine sy_ix (b := b2) (off := 0) (len := ps.length) (n := j) (size := 4) (i := (j : Int)) S (by rw [← h2.resolve_left (by omega)]; kernel_rfl) rfl hj fun aa S => ?_
  refine sy_ops 1 S fun bs aa w S => ?_
  refine sy_ldo S (ld_at (ty := 3) (b := b2) (off := 0 + j * 4) (by kernel_rfl) ((S.fact (f := rfPs b2 0 ps) (by simp)) j hj).1) (by kernel_rfl) fun aa S => ?_
  refine sy_ops 1 S fun bs aa w S => ?_
  refine sy_cast 39 S (congrArg Value.bool (decide_eq_false (by omega) : decide ((ps.getD j pk0).k = 2) = false)) (by kernel_rfl) fun S => ?_
  refine sy_ops 4 S fun bs aa w S => ?_
  refine sy_ix (b := b2) (off := 0) (len := ps.length) (n := j) (size := 4) (i := (j : Int)) S (by rw [← h2.resolve_left (by omega)]; kernel_rfl) rfl hj fun aa S => ?_
  refine sy_ops 1 S fun bs aa w S => ?_
  refine sy_ldo S (ld_at (ty := 3) (b := b2) (off := 0 + j * 4) (by kernel_rfl) ((S.fact (f := rfPs b2 0 ps) (by simp)) j hj).1) (by kernel_rfl) fun aa S => ?_
  refine sy_ops 1 S fun bs aa w S => ?_
  rcases hk with hk | ⟨hk, hlast⟩
  · refine sy_cast 47 S (congrArg Value.bool (decide_eq_false (by omega) : decide ((ps.getD j pk0).k = 3) = false)) (by kernel_rfl) fun S => ?_
    refine sy_run ⟨0, [8]⟩ 60 S fun bs aa w S => ?_
    refine sy_reg S fun S => ?_
    refine sy_ops 2 S fun bs aa w S => ?_
    refine sy_cast 25 S (congrArg (Value.int .i64) (by rw [IntKind.wrap_i64]; omega : IntKind.i64.wrap ((j : Int) + 1) = ((j + 1 : Nat) : Int))) (by kernel_rfl) fun S => ?_
    refine sy_run ⟨0, [999]⟩ 50 S fun bs aa w S => ?_
    have S2 := S.to [] (idS a1 n1 c1 tt a2 ps.length c2 (j + 1)) (by kernel_rfl) (by kernel_rfl) (by kernel_rfl) (by kernel_rfl) (by kernel_rfl)
    refine sy_at2 (k' := (.rnd (m) (bodyL idC) :: idC.k.tail)) (by kernel_rfl) ?_
    exact ih aa w S2
  · refine sy_cast 47 S (congrArg Value.bool (decide_eq_true hk : decide ((ps.getD j pk0).k = 3) = true)) (by kernel_rfl) fun S => ?_
    refine sy_ops 5 S fun bs aa w S => ?_
    refine sy_cast 52 S (congrArg (Value.int .i64) (by rw [IntKind.wrap_i64]; omega : IntKind.i64.wrap ((ps.length : Int) - 1) = ((ps.length : Int) - 1))) (by kernel_rfl) fun S => ?_
    refine sy_ops 1 S fun bs aa w S => ?_
    refine sy_cast 53 S (congrArg Value.bool (decide_eq_false (by omega) : decide ((j : Int) < (ps.length : Int) - 1) = false)) (by kernel_rfl) fun S => ?_
    refine sy_run ⟨0, [8]⟩ 60 S fun bs aa w S => ?_
    refine sy_reg S fun S => ?_
    refine sy_ops 2 S fun bs aa w S => ?_
    refine sy_cast 25 S (congrArg (Value.int .i64) (by rw [IntKind.wrap_i64]; omega : IntKind.i64.wrap ((j : Int) + 1) = ((j + 1 : Nat) : Int))) (by kernel_rfl) fun S => ?_
    refine sy_run ⟨0, [999]⟩ 50 S fun bs aa w S => ?_
    have S2 := S.to [] (idS a1 n1 c1 tt a2 ps.length c2 (j + 1)) (by kernel_rfl) (by kernel_rfl) (by kernel_rfl) (by kernel_rfl) (by kernel_rfl)
    refine sy_at2 (k' := (.rnd (m) (bodyL idC) :: idC.k.tail)) (by kernel_rfl) ?_
    exact ih aa w S2
theorem id_a (w0 : World) (n1 c1 : Nat) (a1 : Option Addr) (tt : Int) (ps : List Pk) (a2 : Option Addr) (c2 b2 : Nat) (h2 : ps.length = 0 ∨ a2 = some ⟨b2, 0, none⟩) (hg : goodP tt ps) (hl : ps.length ≤ n1) (hn : n1 ≤ 250) (hok : ∀ p ∈ ps, PkH w0 p ∧ p.c.length ≤ 80) : ∀ (m j : Nat), j + m = ps.length → ∀ (aa : Act) (w : World) (S : Sy w0 [] [] (idS a1 n1 c1 tt a2 ps.length c2 (j)) [rfPs b2 0 ps, rfPc ps] aa w), post Tryd.prog (.rnd (m + 1) (bodyL idC) :: idC.k.tail) (bodyPost Tryd.prog Tryd.f6 (fun e w' => e = .returned (.bool true) ∧ Below w0.heap.size w0 w')) .normal aa w := by
  intro m
  induction m with
  | zero => intro j hj aa w S; obtain rfl : j = ps.length := by omega
            exact id_e w0 n1 c1 a1 tt ps a2 c2 b2 h2 hg hl hn hok 0 aa w S
  | succ m ih => intro j hj aa w S; exact id_s w0 n1 c1 a1 tt ps a2 c2 b2 h2 hg hl hn hok (m + 1) j (by omega) (fun aa w S => ih (j + 1) (by omega) aa w S) aa w S
set_option maxHeartbeats 8000000 in
theorem idem_all (w0 : World) (hm : rfMx.P w0) (ht : rfTb.P w0) (k : Nat) (hk : k < 256) (a : Option Addr) (cp b o : Nat) (ps : List Pk) (ha : ps.length = 0 ∨ a = some ⟨b, o, none⟩) (hAt : PsAt w0 b o ps) (hps : ∀ p ∈ ps, PkH w0 p) : Calls Tryd.prog 6 #[.int .u8 (k : Int), .slice a ps.length cp] w0 (fun e w' => e = .returned (.bool true) ∧ Below w0.heap.size w0 w') := by
  have h00 : 1 < w0.heap.size := rfTb.lt w0 ht 1 rfl
  refine sy_enterF [] [rfPs b o ps, rfPc ps, rfMx, rfTb] (by intro f hf; simp only [List.mem_cons, List.not_mem_nil, or_false] at hf; rcases hf with rfl | rfl | rfl | rfl; exact hAt; exact fun p hp => (hps p hp).2.2.1; exact hm; exact ht) Tryd.func6 rfl rfl fun aa S => ?_
  refine sy_run ⟨0, [1]⟩ 60 S fun bs aa w S => ?_
  refine sy_reg S fun S => ?_
  have hsz := S.gr.size
  refine sy_call1 S (sane27 _ (by omega) (S.fact (f := rfMx) (by simp)) (S.fact (f := rfTb) (by simp))) (by kernel_rfl) fun aa w hb2 S => ?_
  refine sy_run ⟨0, [2]⟩ 60 S fun bs aa w S => ?_
  refine sy_reg S fun S => ?_
  refine sy_ops 1 S fun bs aa w S => ?_
  have hfw := few_t w 250 ps a cp b o ha (by omega) (S.fact (f := rfPs b o ps) (by simp))
  cases hf : fewB ps 250 with
  | false =>
    rw [hf] at hfw
    refine sy_call1 S hfw (by kernel_rfl) fun aa w hb S => ?_
    refine sy_run ⟨0, []⟩ 60 S fun bs aa w S => ?_
    exact sy_ret S (by kernel_rfl) (by kernel_rfl) fun hg => ⟨rfl, bel_gr hg⟩
  | true =>
  rw [hf] at hfw
  obtain ⟨hl, hcc⟩ := few_of hf
  refine sy_call1 S hfw (by kernel_rfl) fun aa w hb S => ?_
  refine sy_run ⟨0, [4]⟩ 60 S fun bs aa w S => ?_
  refine sy_reg S fun S => ?_
  refine sy_ops 1 S fun bs aa w S => ?_
  refine sy_ex (op := .binOp .rem 5 (.tmp 14) (.const (.int .u8 5)) 5) (ty := 5) (v := .int .u8 ((k % 5 : Nat) : Int)) S (by kernel_rfl) (ex_rem (ki := .u8) (p := (k : Int)) (q := 5) (by kernel_rfl) (by kernel_rfl) (by decide) rfl) fun aa S => ?_
  refine sy_ops 1 S fun bs aa w S => ?_
  refine sy_cast 16 S (congrArg (Value.int .i64) (by rw [IntKind.wrap_i64]; omega : IntKind.i64.wrap ((k % 5 : Nat) : Int) = ((k % 5 : Nat) : Int))) (by kernel_rfl) fun S => ?_
  refine sy_run ⟨0, [5]⟩ 60 S fun bs aa w S => ?_
  refine sy_reg S fun S => ?_
  refine sy_ops 2 S fun bs aa w S => ?_
  refine sy_nm S fun bs S => ?_
  have hblk : ∀ j, j < bs.length → bs.getD j 0 < w.heap.size := fun j hj => S.lt hj
  have hsz := S.gr.size
  refine sy_call S (X := Option Addr × Nat × Nat) (plain_p w ((k % 5 : Nat) : Int) a cp b o ps ha (by omega) (fun p hp => ⟨(hps p hp).1, (hps p hp).2.1.2.1, by have := hcc p hp; omega, (S.fact (f := rfPc ps) (by simp)) p hp⟩) (S.fact (f := rfPs b o ps) (by simp))) (by kernel_rfl) fun x aa w1 hC hb S => ?_
  have hgood := plainK_good ((k % 5 : Nat) : Int) ps (fun _ => 0) 0
  have hmem := plainK_mem ((k % 5 : Nat) : Int) ps (fun _ => 0) 0
  have hlen := plainK_len ((k % 5 : Nat) : Int) ps (fun _ => 0) 0
  generalize plainK ((k % 5 : Nat) : Int) (fun _ => 0) 0 ps = out at *
  obtain ⟨a2, c2, b2⟩ := x
  obtain ⟨h2, hAt2, hb2, hc2, _⟩ := hC
  simp only at h2 hAt2 hb2 hc2
  have S := S.add (rfPs b2 0 out) hAt2 (fun i hi h => by
    have h1 : bs.getD i 0 = b2 := h.1
    have := hb2.resolve_left h.2
    have := hblk i hi
    omega)
  have hpo := S.fs (rfPc ps) (by simp)
  have S := S.add (rfPc out) (fun p hp => hpo.1 p (hmem p hp)) (fun i hi h => by
    obtain ⟨p, hp, q1, q2⟩ := h
    exact hpo.2 i hi ⟨p, hmem p hp, q1, q2⟩)
  refine sy_run ⟨0, []⟩ 60 S fun bs aa w S => ?_
  have S := S.sub (F' := [rfPs b2 0 out, rfPc out]) (by intro f hf; simp only [List.mem_cons, List.not_mem_nil, or_false] at hf; rcases hf with rfl | rfl <;> simp)
  have S2 := S.to [] (idS a ps.length cp ((k % 5 : Nat) : Int) a2 out.length c2 0) (by kernel_rfl) (by kernel_rfl) (by kernel_rfl) (by kernel_rfl) (by kernel_rfl)
  refine sy_loop (out.length + 1) (by kernel_rfl) ?_
  refine sy_at2 (k' := (.rnd (out.length + 1) (bodyL idC) :: idC.k.tail)) (by kernel_rfl) ?_
  exact id_a w0 ps.length cp a ((k % 5 : Nat) : Int) out a2 c2 b2 h2 hgood hlen (by omega) (fun p hp => ⟨hps p (hmem p hp), hcc p (hmem p hp)⟩) out.length 0 (by omega) aa w S2
end Go.Proofs.YtfkmcibglaiakaaDoor
