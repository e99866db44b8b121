
/-
  Layer 27: the plain form of a prefix is a prefix of the plain form.
-/
import Derived.Test.YtfkmcibglaiakaaDoorRows
import Derived.Test.YtfkmcibglaiakaaDoorBase
import Derived.Test.YtfkmcibglaiakaaDoorScS
import Derived.WalkKit
namespace Go.Proofs.YtfkmcibglaiakaaDoor
open Go Go.RowKit SZ
set_option linter.unusedVariables false
set_option linter.unusedSimpArgs false
set_option maxRecDepth 100000
attribute [local irreducible] post GD Nxt NxtAll
theorem plainK_pre (t : Int) : ∀ (ps : List Pk) (k : Nat) (u : Int → Int) (n : Int), ∃ r, plainK t u n ps = plainK t u n (ps.take k) ++ r
  | [], k, u, n => ⟨[], by simp [plainK]⟩
  | p :: r, 0, u, n => ⟨plainK t u n (p :: r), by simp [plainK]⟩
  | p :: r, k + 1, u, n => by
    rw [List.take_succ_cons]
    unfold plainK
    by_cases h : rightB t p.w = true
    · rw [if_pos h, if_pos h]
      by_cases h1 : p.k = 1
      · rw [if_pos h1, if_pos h1]
        obtain ⟨r2, e⟩ := plainK_pre t r k u (n + 1)
        by_cases h2 : n + 1 > u p.a
        · rw [if_pos h2, if_pos h2, e]; exact ⟨r2, rfl⟩
        · rw [if_neg h2, if_neg h2, e]; exact ⟨r2, rfl⟩
      · rw [if_neg h1, if_neg h1]
        by_cases h2 : p.k = 2
        · rw [if_pos h2, if_pos h2]
          exact plainK_pre t r k _ (n + 1)
        · rw [if_neg h2, if_neg h2]
          exact ⟨[], rfl⟩
    · rw [if_neg h, if_neg h]
      exact plainK_pre t r k u n
theorem psAt_pre {W : World} {b o : Nat} {xs r : List Pk} (h : PsAt W b o (xs ++ r)) : PsAt W b o xs := fun j hj => by
  have := h j (by rw [List.length_append]; omega)
  have e : (xs ++ r).getD j pk0 = xs.getD j pk0 := by simp [List.getD, List.getElem?_append_left hj]
  rw [e] at this
  exact this
theorem psAt_take {W : World} {b o : Nat} {xs : List Pk} (k : Nat) (h : PsAt W b o xs) : PsAt W b o (xs.take k) := psAt_pre (r := xs.drop k) (by rw [List.take_append_drop]; exact h)
theorem good_all (t : Int) : ∀ (ps : List Pk), (∀ p ∈ ps, rightB t p.w = true ∧ p.k = 1) → goodP t ps
  | [], _ => trivial
  | p :: r, h => ⟨(h p (List.mem_cons_self ..)).1, Or.inl ⟨(h p (List.mem_cons_self ..)).2, good_all t r fun q hq => h q (List.mem_cons_of_mem _ hq)⟩⟩
def isSt (t : Int) (p : Pk) : Bool := rightB t p.w && decide (p.k = 1)
theorem steps_mem {t : Int} {ps : List Pk} {p : Pk} (h : p ∈ ps.filter (isSt t)) : p ∈ ps ∧ rightB t p.w = true ∧ p.k = 1 := by
  obtain ⟨h1, h2⟩ := List.mem_filter.1 h
  simp only [isSt, Bool.and_eq_true, decide_eq_true_eq] at h2
  exact ⟨h1, h2⟩
theorem sl_preP (a : Option Addr) (n c m : Nat) (h : m ≤ c) (W : World) : (Instr.sliceAt 22 (.slice a n c) none (some (.int .i64 (m : Int))) none).run Tryd.prog W = .ok (.slice a m c) W := by
  have hu : Tryd.prog.underlying 22 = some (.slice (Tryd.prog.elem 22)) := by rw [Tryd.underlying22]; kernel_rfl
  rw [run_sliceAt_slice W _ _ _ _ _ hu, run_slice_any W _ _ _ _ hu]
  have hs : (Instr.sliceBounds true n c none (some (.int .i64 (m : Int))) none).run Tryd.prog W = .ok (0, m, c) W := by
    simp [Instr.sliceBounds, run_sliceBound, h]
  rw [hs]
  have hI : (Tryd.prog.info? (Tryd.prog.elem 22)).isSome = true := by kernel_rfl
  obtain ⟨ii, hi⟩ := Option.isSome_iff_exists.1 hI
  have ha : (if c = 0 then a else a.map (·.add (0 * ii.size))) = a := by
    rw [Nat.zero_mul]
    have e : (fun x : Addr => x.add 0) = id := by funext x; simp [Addr.add]
    rw [e, Option.map_id]
    simp
  simp [sizeOf, typeInfo, sliced, hi]
  simpa using ha
noncomputable def pxC : Cfg := ⟨goZ 60 [0, 0, 0] [.code (bodyOf Tryd.f7)], ⟨0, [], []⟩⟩
noncomputable def pxS (a1 : Option Addr) (n1 c1 : Nat) (tt : Int) (v : Value) (j : Nat) : SS := ⟨83, [(1, .v (.slice a1 n1 c1)), (7, .v (.bool true)), (8, .v (.int .i64 tt)), (11, .v v), (12, .v (.int .i64 (j : Int)))], []⟩
set_option maxHeartbeats 8000000 in
theorem px_e (w0 : World) (ps : List Pk) (c1 : Nat) (a1 : Option Addr) (tt : Int) (b o : Nat) (h1 : ps.length = 0 ∨ a1 = some ⟨b, o, none⟩) (hn : ps.length ≤ 250) (hok : ∀ p ∈ ps, PkH w0 p ∧ p.c.length ≤ 80) (hbn : ps.length = 0 ∨ b < w0.heap.size) (m : Nat) (v : Value) (aa : Act) (w : World) (S : Sy w0 [] [] (pxS a1 ps.length c1 tt v (ps.length)) [rfPs b o ps, rfPc ps, rfOwn w0.heap.size 25 4 v (ps.filter (isSt tt)).length (pkV (ps.filter (isSt tt)))] aa w) : post Tryd.prog (.rnd (m + 1) (bodyL pxC) :: pxC.k.tail) (bodyPost Tryd.prog Tryd.f7 (fun e w' => e = .returned (.bool true) ∧ Below w0.heap.size w0 w')) .normal aa w := by
  refine sy_run (c := ⟨(.rnd (m + 1) (bodyL pxC) :: pxC.k.tail), pxS a1 ps.length c1 tt v (ps.length)⟩) ⟨0, [13]⟩ 50 S fun bs aa w S => ?_
  refine sy_reg S fun S => ?_
  refine sy_ops 4 S fun bs aa w S => ?_
  refine sy_cast 50 S (congrArg Value.bool (decide_eq_false (by omega) : decide ((ps.length : Int) < (ps.length : Int)) = false)) (by kernel_rfl) fun S => ?_
  refine sy_run ⟨0, [18]⟩ 60 S fun bs aa w S => ?_
  refine sy_reg S fun S => ?_
  refine sy_ops 4 S fun bs aa w S => ?_
  refine sy_nm S fun bs S => ?_
  have hblk : ∀ j, j < bs.length → bs.getD j 0 < w.heap.size := fun j hj => S.lt hj
  have hsz := S.gr.size
  have how : w.ownsRow w0.heap.size 25 4 v (ps.filter (isSt tt)).length (pkV (ps.filter (isSt tt))) := S.fact (f := rfOwn w0.heap.size 25 4 v (ps.filter (isSt tt)).length (pkV (ps.filter (isSt tt)))) (by simp)
  have hapt := (S.fs (rfOwn w0.heap.size 25 4 v (ps.filter (isSt tt)).length (pkV (ps.filter (isSt tt)))) (by simp)).2
  have hpo := S.fs (rfPc ps) (by simp)
  have hlen : (ps.filter (isSt tt)).length ≤ ps.length := List.length_filter_le _ _
  have hst : ∀ p ∈ ps.filter (isSt tt), p ∈ ps ∧ rightB tt p.w = true ∧ p.k = 1 := fun p hp => steps_mem hp
  generalize ps.filter (isSt tt) = out at *
  obtain ⟨a2, c2, b2, rfl, h2, hAt2, hb2⟩ := ps_of_owns how
  have S := S.add (rfPs b2 0 out) hAt2 (fun i hi h => hapt i hi (by
    have h1 : bs.getD i 0 = b2 := h.1
    rw [h1, h2.resolve_left h.2]
    rfl))
  have S := S.add (rfPc out) (fun p hp => hpo.1 p (hst p hp).1) (fun i hi h => by
    obtain ⟨p, hp, q1, q2⟩ := h
    exact hpo.2 i hi ⟨p, (hst p hp).1, q1, q2⟩)
  have hse := plainK_self tt out 0 (good_all tt out fun p hp => (hst p hp).2) (Int.le_refl _)
  have hok2 : ∀ p ∈ out, PkH w0 p ∧ p.c.length ≤ 80 := fun p hp => hok p (hst p hp).1
  have hpl := plain_p w tt a2 c2 b2 0 out h2 (by omega) (fun p hp => ⟨(hok2 p hp).1.1, (hok2 p hp).1.2.1.2.1, by have := (hok2 p hp).2; omega, (S.fact (f := rfPc out) (by simp)) p hp⟩) (S.fact (f := rfPs b2 0 out) (by simp))
  rw [hse] at hpl
  refine sy_call S (X := Option Addr × Nat × Nat) (val := fun x => .slice x.1 out.length x.2.1) (C := fun x w' => (out.length = 0 ∨ x.1 = some ⟨x.2.2, 0, none⟩) ∧ PsAt w' x.2.2 0 out ∧ (out.length = 0 ∨ w.heap.size ≤ x.2.2) ∧ out.length ≤ x.2.1 ∧ x.2.1 ≤ maxLen) hpl (by kernel_rfl) fun x aa w1 hC hb S => ?_
  obtain ⟨a3, c3, b3⟩ := x
  obtain ⟨h3, hAt3, hb3, hc3, _⟩ := hC
  simp only at h3 hAt3 hb3 hc3
  have S := S.add (rfPs b3 0 out) hAt3 (fun i hi h => by
    have h1 : bs.getD i 0 = b3 := h.1
    have := hb3.resolve_left h.2
    have := hblk i hi
    omega)
  refine sy_ops 1 S fun bs aa w S => ?_
  have hsm := same_t w out out a3 a2 c3 c2 b3 0 b2 0 h3 h2 (by omega) (fun p hp => ⟨(hok2 p hp).1.1, by have := (hok2 p hp).2; omega⟩) (fun p hp => (hok2 p hp).1.1) (S.fact (f := rfPs b3 0 out) (by simp)) (S.fact (f := rfPc out) (by simp)) (S.fact (f := rfPs b2 0 out) (by simp)) (S.fact (f := rfPc out) (by simp))
  rw [decide_eq_true rfl] at hsm
  refine sy_call1 S hsm (by kernel_rfl) fun aa w hb S => ?_
  refine sy_run ⟨0, []⟩ 60 S fun bs aa w S => ?_
  exact sy_ret S (by kernel_rfl) (by kernel_rfl) fun hg => ⟨rfl, bel_gr hg⟩
theorem st_next (t : Int) {ps : List Pk} {j : Nat} (hj : j < ps.length) : (ps.take (j + 1)).filter (isSt t) = (ps.take j).filter (isSt t) ++ (if isSt t (ps.getD j pk0) = true then [(ps.getD j pk0)] else []) := by
  have e : (ps.getD j pk0) = ps[j] := by simp [List.getD, List.getElem?_eq_getElem hj]
  rw [List.take_succ_eq_append_getElem hj, List.filter_append, e]
  congr 1
  simp only [List.filter_cons, List.filter_nil]
set_option maxHeartbeats 8000000 in
theorem px_s (w0 : World) (ps : List Pk) (c1 : Nat) (a1 : Option Addr) (tt : Int) (b o : Nat) (h1 : ps.length = 0 ∨ a1 = some ⟨b, o, none⟩) (hn : ps.length ≤ 250) (hok : ∀ p ∈ ps, PkH w0 p ∧ p.c.length ≤ 80) (hbn : ps.length = 0 ∨ b < w0.heap.size) (m j : Nat) (hj : j < ps.length) (ih : ∀ (v : Value) (aa : Act) (w : World) (S : Sy w0 [] [] (pxS a1 ps.length c1 tt v (j + 1)) [rfPs b o ps, rfPc ps, rfOwn w0.heap.size 25 4 v (((ps.take (j + 1)).filter (isSt tt))).length (pkV (((ps.take (j + 1)).filter (isSt tt))))] aa w), post Tryd.prog (.rnd (m) (bodyL pxC) :: pxC.k.tail) (bodyPost Tryd.prog Tryd.f7 (fun e w' => e = .returned (.bool true) ∧ Below w0.heap.size w0 w')) .normal aa w) (v : Value) (aa : Act) (w : World) (S : Sy w0 [] [] (pxS a1 ps.length c1 tt v (j)) [rfPs b o ps, rfPc ps, rfOwn w0.heap.size 25 4 v (((ps.take (j)).filter (isSt tt))).length (pkV (((ps.take (j)).filter (isSt tt))))] aa w) : post Tryd.prog (.rnd (m + 1) (bodyL pxC) :: pxC.k.tail) (bodyPost Tryd.prog Tryd.f7 (fun e w' => e = .returned (.bool true) ∧ Below w0.heap.size w0 w')) .normal aa w := by
  obtain ⟨ii, hi1, hi2, hi3, hi4⟩ := parts3 infPk
  have hmem := getD_mem ps j pk0 hj
  have hnx := st_next tt hj
  have hle : ((ps.take (j)).filter (isSt tt)).length ≤ 250 := by
    have h1 := List.length_filter_le (isSt tt) (ps.take j)
    have h2 := List.length_take_le j ps
    omega
  rw [hnx] at ih
  clear hnx
  generalize ((ps.take (j)).filter (isSt tt)) = out at ih S hle
  generalize hX : ps.getD j pk0 = pj at ih hmem
  refine sy_run (c := ⟨(.rnd (m + 1) (bodyL pxC) :: pxC.k.tail), pxS a1 ps.length c1 tt v (j)⟩) ⟨0, [13]⟩ 50 S fun bs aa w S => ?_
  refine sy_reg S fun S => ?_
  refine sy_ops 4 S fun bs aa w S => ?_
  refine sy_cast 50 S (congrArg Value.bool (decide_eq_true (by omega) : decide ((j : Int) < (ps.length : Int)) = true)) (by kernel_rfl) fun S => ?_
  refine sy_run ⟨0, [15]⟩ 60 S fun bs aa w S => ?_
  refine sy_reg S fun S => ?_
  refine sy_ops 3 S fun bs aa w S => ?_
  refine sy_ix (b := b) (off := o) (len := ps.length) (n := j) (size := 4) (i := (j : Int)) S (by rw [← h1.resolve_left (by omega)]; kernel_rfl) rfl hj fun aa S => ?_
  have hld := ld_pk (S.fact (f := rfPs b o ps) (by simp)) hj
  rw [hX] at hld
  refine sy_ldo S (v := .agg #[.int .i64 pj.k, .int .i64 pj.a, .int .i64 pj.b, .slice pj.s pj.c.length pj.cp]) hld (by kernel_rfl) fun aa S => ?_
  have hrt := rright_t w tt pj (hok _ hmem).1.1 (by have := (hok _ hmem).2; omega) ((S.fact (f := rfPc ps) (by simp)) _ hmem)
  cases hr : rightB tt pj.w with
  | false =>
    rw [hr] at hrt
    rw [if_neg (by simp [isSt, hr]), List.append_nil] at ih
    refine sy_call1 S hrt (by kernel_rfl) fun aa w hb S => ?_
    refine sy_run ⟨0, [14]⟩ 60 S fun bs aa w S => ?_
    refine sy_reg S fun S => ?_
    refine sy_ops 2 S fun bs aa w S => ?_
    refine sy_cast 52 S (congrArg (Value.int .i64) (by rw [IntKind.wrap_i64]; omega : IntKind.i64.wrap ((j : Int) + 1) = ((j + 1 : Nat) : Int))) (by kernel_rfl) fun S => ?_
    refine sy_run ⟨0, [999]⟩ 50 S fun bs aa w S => ?_
    have S := S.sub (F' := [rfPs b o ps, rfPc ps, rfOwn w0.heap.size 25 4 v (out).length (pkV (out))]) (by intro f hf; simp only [List.mem_cons, List.not_mem_nil, or_false] at hf; rcases hf with rfl | rfl | rfl <;> simp)
    have S2 := S.to [] (pxS a1 ps.length c1 tt v (j + 1)) (by kernel_rfl) (by kernel_rfl) (by kernel_rfl) (by kernel_rfl) (by kernel_rfl)
    refine sy_at2 (k' := (.rnd (m) (bodyL pxC) :: pxC.k.tail)) (by kernel_rfl) ?_
    exact ih v aa w S2
  | true =>
    rw [hr] at hrt
    refine sy_call1 S hrt (by kernel_rfl) fun aa w hb S => ?_
    refine sy_run ⟨0, [16]⟩ 60 S fun bs aa w S => ?_
    refine sy_reg S fun S => ?_
    refine sy_ops 4 S fun bs aa w S => ?_
    refine sy_ix (b := b) (off := o) (len := ps.length) (n := j) (size := 4) (i := (j : Int)) S (by rw [← h1.resolve_left (by omega)]; kernel_rfl) rfl hj fun aa S => ?_
    refine sy_ops 1 S fun bs aa w S => ?_
    refine sy_ldo S (v := .int .i64 pj.k) (ld_at (ty := 3) (b := b) (off := o + j * 4) (by kernel_rfl) (by have q := ((S.fact (f := rfPs b o ps) (by simp)) j hj).1; rw [hX] at q; exact q)) (by kernel_rfl) fun aa S => ?_
    refine sy_ops 1 S fun bs aa w S => ?_
    by_cases hk : pj.k = 1
    case neg =>
      rw [if_neg (by simp [isSt, hk]), List.append_nil] at ih
      refine sy_cast 66 S (congrArg Value.bool (decide_eq_false hk : decide (pj.k = 1) = false)) (by kernel_rfl) fun S => ?_
      refine sy_run ⟨0, [14]⟩ 60 S fun bs aa w S => ?_
      refine sy_reg S fun S => ?_
      refine sy_ops 2 S fun bs aa w S => ?_
      refine sy_cast 52 S (congrArg (Value.int .i64) (by rw [IntKind.wrap_i64]; omega : IntKind.i64.wrap ((j : Int) + 1) = ((j + 1 : Nat) : Int))) (by kernel_rfl) fun S => ?_
      refine sy_run ⟨0, [999]⟩ 50 S fun bs aa w S => ?_
      have S := S.sub (F' := [rfPs b o ps, rfPc ps, rfOwn w0.heap.size 25 4 v (out).length (pkV (out))]) (by intro f hf; simp only [List.mem_cons, List.not_mem_nil, or_false] at hf; rcases hf with rfl | rfl | rfl <;> simp)
      have S2 := S.to [] (pxS a1 ps.length c1 tt v (j + 1)) (by kernel_rfl) (by kernel_rfl) (by kernel_rfl) (by kernel_rfl) (by kernel_rfl)
      refine sy_at2 (k' := (.rnd (m) (bodyL pxC) :: pxC.k.tail)) (by kernel_rfl) ?_
      exact ih v aa w S2
    rw [if_pos (by simp [isSt, hr, hk])] at ih
    refine sy_cast 66 S (congrArg Value.bool (decide_eq_true hk : decide (pj.k = 1) = true)) (by kernel_rfl) fun S => ?_
    refine sy_run ⟨0, [17]⟩ 60 S fun bs aa w S => ?_
    refine sy_reg S fun S => ?_
    refine sy_ops 3 S fun bs aa w S => ?_
    refine sy_ix (b := b) (off := o) (len := ps.length) (n := j) (size := 4) (i := (j : Int)) S (by rw [← h1.resolve_left (by omega)]; kernel_rfl) rfl hj fun aa S => ?_
    have hld := ld_pk (S.fact (f := rfPs b o ps) (by simp)) hj
    rw [hX] at hld
    refine sy_ldo S (v := .agg #[.int .i64 pj.k, .int .i64 pj.a, .int .i64 pj.b, .slice pj.s pj.c.length pj.cp]) hld (by kernel_rfl) fun aa S => ?_
    refine sy_ops 1 S fun bs aa w S => ?_
    refine sy_nm S fun bs S => ?_
    have how : w.ownsRow w0.heap.size 25 4 v out.length (pkV out) := S.fact (f := rfOwn w0.heap.size 25 4 v (out).length (pkV (out))) (by simp)
    have hap := (S.fs (rfOwn w0.heap.size 25 4 v (out).length (pkV (out))) (by simp)).2
    have hblk : ∀ j, j < bs.length → bs.getD j 0 < w.heap.size := fun j hj => S.lt hj
    refine sy_appO w0.heap.size (u := .v v) (y := .s 0 0 1 1) (v := v) (ad := adr bs 0 0) (m := 1) (cp := 1) (n := out.length) (size := 4) (bytes := 48) (e := 25) (t := 22) (xs := pkV out) (news := [.int .i64 pj.k, .int .i64 pj.a, .int .i64 pj.b, .slice pj.s pj.c.length pj.cp]) [rfPs b o ps, rfPc ps] S (by kernel_rfl) Tryd.underlying22 hi1 hi2 hi3 hi4 rfl (by omega) rfl rfl how S.gr.size (own3 (P := Tryd.prog) (ty := 25) (cs := [.int .i64 pj.k, .int .i64 pj.a, .int .i64 pj.b, .slice pj.s pj.c.length pj.cp]) S 0 (by kernel_rfl)) rfl (by intro u hu; simp only [List.mem_cons, List.not_mem_nil, or_false] at hu; rcases hu with rfl | rfl | rfl | rfl <;> rfl) (by simp only [maxLen]; omega) (by omega)
      (fun g hg => Or.inr (how.lt g hg).1) (fun f hf => ⟨by simp only [List.mem_cons, List.not_mem_nil, or_false] at hf ⊢; rcases hf with rfl | rfl <;> simp, fun b2 hb => by
        have h9 := (how.lt b2 hb).1
        simp only [List.mem_cons, List.not_mem_nil, or_false] at hf
        rcases hf with rfl | rfl
        · intro hbl
          have h1 : b2 = b := hbl.1
          have h2 := hbn.resolve_left hbl.2
          omega
        · rintro ⟨p2, hp2, h1, h2⟩
          have := isAt_lt (hok p2 hp2).1.2.2.1 h2
          omega⟩) (fun j hj hb => hap j hj hb)
      fun v' aa w2 hO hg' hnn S => ?_
    have S := S.add (rfOwn w0.heap.size 25 4 v' (out ++ [pj]).length (pkV (out ++ [pj]))) (by show World.ownsRow _ _ _ _ _ _ _; rw [pkV_snoc, List.length_append]; exact hO) (fun j hj hb => (hnn _ hb).elim (fun q => hap j hj q) (fun q => by have := hblk j hj; omega))
    refine sy_run ⟨0, [14]⟩ 60 S fun bs aa w S => ?_
    refine sy_reg S fun S => ?_
    refine sy_ops 2 S fun bs aa w S => ?_
    refine sy_cast 52 S (congrArg (Value.int .i64) (by rw [IntKind.wrap_i64]; omega : IntKind.i64.wrap ((j : Int) + 1) = ((j + 1 : Nat) : Int))) (by kernel_rfl) fun S => ?_
    refine sy_run ⟨0, [999]⟩ 50 S fun bs aa w S => ?_
    have S := S.sub (F' := [rfPs b o ps, rfPc ps, rfOwn w0.heap.size 25 4 v' (out ++ [pj]).length (pkV (out ++ [pj]))]) (by intro f hf; simp only [List.mem_cons, List.not_mem_nil, or_false] at hf; rcases hf with rfl | rfl | rfl <;> simp)
    have S2 := S.to [] (pxS a1 ps.length c1 tt v' (j + 1)) (by kernel_rfl) (by kernel_rfl) (by kernel_rfl) (by kernel_rfl) (by kernel_rfl)
    refine sy_at2 (k' := (.rnd (m) (bodyL pxC) :: pxC.k.tail)) (by kernel_rfl) ?_
    exact ih v' aa w S2
theorem px_a (w0 : World) (ps : List Pk) (c1 : Nat) (a1 : Option Addr) (tt : Int) (b o : Nat) (h1 : ps.length = 0 ∨ a1 = some ⟨b, o, none⟩) (hn : ps.length ≤ 250) (hok : ∀ p ∈ ps, PkH w0 p ∧ p.c.length ≤ 80) (hbn : ps.length = 0 ∨ b < w0.heap.size) : ∀ (m j : Nat), j + m = ps.length → ∀ (v : Value) (aa : Act) (w : World) (S : Sy w0 [] [] (pxS a1 ps.length c1 tt v (j)) [rfPs b o ps, rfPc ps, rfOwn w0.heap.size 25 4 v (((ps.take (j)).filter (isSt tt))).length (pkV (((ps.take (j)).filter (isSt tt))))] aa w), post Tryd.prog (.rnd (m + 1) (bodyL pxC) :: pxC.k.tail) (bodyPost Tryd.prog Tryd.f7 (fun e w' => e = .returned (.bool true) ∧ Below w0.heap.size w0 w')) .normal aa w := by
  intro m
  induction m with
  | zero =>
    intro j hj v aa w S
    obtain rfl : j = ps.length := by omega
    rw [List.take_length] at S
    exact px_e w0 ps c1 a1 tt b o h1 hn hok hbn 0 v aa w S
  | succ m ih => intro j hj v aa w S; exact px_s w0 ps c1 a1 tt b o h1 hn hok hbn (m + 1) j (by omega) (fun v aa w S => ih (j + 1) (by omega) v aa w S) v aa w S
set_option maxHeartbeats 8000000 in
theorem prefix_all (w0 : World) (hm : rfMx.P w0) (ht : rfTb.P w0) (k : Nat) (hk : k < 256) (mm : Nat) (hmm : mm < 256) (a : Option Addr) (cp b o : Nat) (ps : List Pk) (ha : ps.length = 0 ∨ a = some ⟨b, o, none⟩) (hAt : PsAt w0 b o ps) (hps : ∀ p ∈ ps, PkH w0 p) (hcp : ps.length ≤ cp) : Calls Tryd.prog 7 #[.int .u8 (k : Int), .slice a ps.length cp, .int .u8 (mm : Int)] w0 (fun e w' => e = .returned (.bool true) ∧ Below w0.heap.size w0 w') := by
  have h00 : 1 < w0.heap.size := rfTb.lt w0 ht 1 rfl
  have hbn : ps.length = 0 ∨ b < w0.heap.size := by
    rcases Nat.eq_zero_or_pos ps.length with h | h
    · exact Or.inl h
    · exact Or.inr ((rfPs b o ps).lt w0 hAt b ⟨rfl, by omega⟩)
  refine sy_enterF [] [rfPs b o ps, rfPc ps, rfMx, rfTb] (by intro f hf; simp only [List.mem_cons, List.not_mem_nil, or_false] at hf; rcases hf with rfl | rfl | rfl | rfl; exact hAt; exact fun p hp => (hps p hp).2.2.1; exact hm; exact ht) Tryd.func7 rfl rfl fun aa S => ?_
  refine sy_run ⟨0, [1]⟩ 60 S fun bs aa w S => ?_
  refine sy_reg S fun S => ?_
  have hsz := S.gr.size
  refine sy_call1 S (sane27 _ (by omega) (S.fact (f := rfMx) (by simp)) (S.fact (f := rfTb) (by simp))) (by kernel_rfl) fun aa w hb2 S => ?_
  refine sy_run ⟨0, [2]⟩ 60 S fun bs aa w S => ?_
  refine sy_reg S fun S => ?_
  refine sy_ops 1 S fun bs aa w S => ?_
  have hfw := few_t w 250 ps a cp b o ha (by omega) (S.fact (f := rfPs b o ps) (by simp))
  cases hf : fewB ps 250 with
  | false =>
    rw [hf] at hfw
    refine sy_call1 S hfw (by kernel_rfl) fun aa w hb S => ?_
    refine sy_run ⟨0, []⟩ 60 S fun bs aa w S => ?_
    exact sy_ret S (by kernel_rfl) (by kernel_rfl) fun hg => ⟨rfl, bel_gr hg⟩
  | true =>
  rw [hf] at hfw
  obtain ⟨hl, hcc⟩ := few_of hf
  refine sy_call1 S hfw (by kernel_rfl) fun aa w hb S => ?_
  refine sy_run ⟨0, [4]⟩ 60 S fun bs aa w S => ?_
  refine sy_reg S fun S => ?_
  refine sy_ops 1 S fun bs aa w S => ?_
  refine sy_ex (op := .binOp .rem 5 (.tmp 19) (.const (.int .u8 5)) 5) (ty := 5) (v := .int .u8 ((k % 5 : Nat) : Int)) S (by kernel_rfl) (ex_rem (ki := .u8) (p := (k : Int)) (q := 5) (by kernel_rfl) (by kernel_rfl) (by decide) rfl) fun aa S => ?_
  refine sy_ops 1 S fun bs aa w S => ?_
  refine sy_cast 21 S (congrArg (Value.int .i64) (by rw [IntKind.wrap_i64]; omega : IntKind.i64.wrap ((k % 5 : Nat) : Int) = ((k % 5 : Nat) : Int))) (by kernel_rfl) fun S => ?_
  refine sy_run ⟨0, [5]⟩ 60 S fun bs aa w S => ?_
  refine sy_reg S fun S => ?_
  refine sy_ops 2 S fun bs aa w S => ?_
  refine sy_nm S fun bs S => ?_
  have hblk : ∀ j, j < bs.length → bs.getD j 0 < w.heap.size := fun j hj => S.lt hj
  have hsz := S.gr.size
  refine sy_call S (X := Option Addr × Nat × Nat) (plain_p w ((k % 5 : Nat) : Int) a cp b o ps ha (by omega) (fun p hp => ⟨(hps p hp).1, (hps p hp).2.1.2.1, by have := hcc p hp; omega, (S.fact (f := rfPc ps) (by simp)) p hp⟩) (S.fact (f := rfPs b o ps) (by simp))) (by kernel_rfl) fun x aa w1 hC hb S => ?_
  have hpre := plainK_pre ((k % 5 : Nat) : Int) ps (mm % (ps.length + 1)) (fun _ => 0) 0
  have hmem := plainK_mem ((k % 5 : Nat) : Int) ps (fun _ => 0) 0
  have hlen := plainK_len ((k % 5 : Nat) : Int) ps (fun _ => 0) 0
  generalize plainK ((k % 5 : Nat) : Int) (fun _ => 0) 0 ps = out at *
  obtain ⟨a2, c2, b2⟩ := x
  obtain ⟨h2, hAt2, hb2, hc2, hm2⟩ := hC
  simp only at h2 hAt2 hb2 hc2 hm2
  have S := S.add (rfPs b2 0 out) hAt2 (fun i hi h => by
    have h1 : bs.getD i 0 = b2 := h.1
    have := hb2.resolve_left h.2
    have := hblk i hi
    omega)
  have hpo := S.fs (rfPc ps) (by simp)
  have S := S.add (rfPc out) (fun p hp => hpo.1 p (hmem p hp)) (fun i hi h => by
    obtain ⟨p, hp, q1, q2⟩ := h
    exact hpo.2 i hi ⟨p, hmem p hp, q1, q2⟩)
  refine sy_run ⟨0, [6]⟩ 60 S fun bs aa w S => ?_
  refine sy_reg S fun S => ?_
  refine sy_ops 4 S fun bs aa w S => ?_
  refine sy_cast 28 S (congrArg (Value.int .i64) (by rw [IntKind.wrap_i64]; omega : IntKind.i64.wrap (mm : Int) = (mm : Int))) (by kernel_rfl) fun S => ?_
  refine sy_ops 3 S fun bs aa w S => ?_
  refine sy_cast 31 S (congrArg (Value.int .i64) (by rw [IntKind.wrap_i64]; omega : IntKind.i64.wrap ((ps.length : Int) + 1) = ((ps.length + 1 : Nat) : Int))) (by kernel_rfl) fun S => ?_
  refine sy_ex (op := .binOp .rem 3 (.tmp 28) (.tmp 31) 3) (ty := 3) (v := .int .i64 ((mm % (ps.length + 1) : Nat) : Int)) S (by kernel_rfl) (ex_rem (ki := .i64) (p := (mm : Int)) (q := ((ps.length + 1 : Nat) : Int)) (by kernel_rfl) (by kernel_rfl) (by omega) rfl) fun aa S => ?_
  have hmod : mm % (ps.length + 1) ≤ ps.length := by have := Nat.mod_lt mm (show 0 < ps.length + 1 by omega); omega
  generalize mm % (ps.length + 1) = jj at *
  have htk : (ps.take jj).length = jj := by rw [List.length_take]; omega
  refine sy_ex (op := .slice 22 (.tmp 26) none (some (.tmp 32)) none) (ty := 22) (v := .slice a (ps.take jj).length cp) S (by kernel_rfl) (ex_sl (p := .slice a ps.length cp) (l2 := none) (h2 := some (.v (.int .i64 (jj : Int)))) (m2 := none) (by kernel_rfl) (by kernel_rfl) (by kernel_rfl) (by kernel_rfl) (fun W => by rw [htk]; exact sl_preP a ps.length cp jj (by omega) W)) fun aa S => ?_
  refine sy_nm S fun bs S => ?_
  have hblk : ∀ j, j < bs.length → bs.getD j 0 < w.heap.size := fun j hj => S.lt hj
  have hsz := S.gr.size
  refine sy_call S (X := Option Addr × Nat × Nat) (plain_p w ((k % 5 : Nat) : Int) a cp b o (ps.take jj) (by rcases ha with h | h; exact Or.inl (by omega); exact Or.inr h) (by omega) (fun p hp => ⟨(hps p (List.mem_of_mem_take hp)).1, (hps p (List.mem_of_mem_take hp)).2.1.2.1, by have := hcc p (List.mem_of_mem_take hp); omega, (S.fact (f := rfPc ps) (by simp)) p (List.mem_of_mem_take hp)⟩) (psAt_take jj (S.fact (f := rfPs b o ps) (by simp)))) (by kernel_rfl) fun x aa w2 hC hb3 S => ?_
  obtain ⟨rr, hpre⟩ := hpre
  generalize plainK ((k % 5 : Nat) : Int) (fun _ => 0) 0 (ps.take jj) = out2 at *
  subst hpre
  rw [List.length_append] at hlen hc2
  obtain ⟨a3, c3, b3⟩ := x
  obtain ⟨h3, hAt3, hb3, hc3, hm3⟩ := hC
  simp only at h3 hAt3 hb3 hc3 hm3
  have S := S.add (rfPs b3 0 out2) hAt3 (fun i hi h => by
    have h1 : bs.getD i 0 = b3 := h.1
    have := hb3.resolve_left h.2
    have := hblk i hi
    omega)
  refine sy_run ⟨0, [7]⟩ 60 S fun bs aa w S => ?_
  refine sy_reg S fun S => ?_
  refine sy_ops 5 S fun bs aa w S => ?_
  refine sy_cast 39 S (congrArg Value.bool (decide_eq_false (by rw [List.length_append]; omega) : decide ((out2.length : Int) > ((out2 ++ rr).length : Int)) = false)) (by kernel_rfl) fun S => ?_
  refine sy_run ⟨0, [9]⟩ 60 S fun bs aa w S => ?_
  refine sy_reg S fun S => ?_
  refine sy_ops 4 S fun bs aa w S => ?_
  refine sy_ex (op := .slice 22 (.tmp 41) none (some (.tmp 43)) none) (ty := 22) (v := .slice a2 out2.length c2) S (by kernel_rfl) (ex_sl (p := .slice a2 (out2 ++ rr).length c2) (l2 := none) (h2 := some (.v (.int .i64 (out2.length : Int)))) (m2 := none) (by kernel_rfl) (by kernel_rfl) (by kernel_rfl) (by kernel_rfl) (fun W => sl_preP a2 (out2 ++ rr).length c2 out2.length (by omega) W)) fun aa S => ?_
  have hok2 : ∀ p ∈ out2, PkH w0 p ∧ p.c.length ≤ 80 := fun p hp => ⟨hps p (hmem p (List.mem_append_left _ hp)), hcc p (hmem p (List.mem_append_left _ hp))⟩
  have hsm := same_t w out2 out2 a3 a2 c3 c2 b3 0 b2 0 h3 (by rcases h2 with h | h; exact Or.inl (by rw [List.length_append] at h; omega); exact Or.inr h) (by omega) (fun p hp => ⟨(hok2 p hp).1.1, by have := (hok2 p hp).2; omega⟩) (fun p hp => (hok2 p hp).1.1) (S.fact (f := rfPs b3 0 out2) (by simp)) (fun p hp => (S.fact (f := rfPc (out2 ++ rr)) (by simp)) p (List.mem_append_left _ hp)) (psAt_pre (S.fact (f := rfPs b2 0 (out2 ++ rr)) (by simp))) (fun p hp => (S.fact (f := rfPc (out2 ++ rr)) (by simp)) p (List.mem_append_left _ hp))
  rw [decide_eq_true rfl] at hsm
  refine sy_call1 S hsm (by kernel_rfl) fun aa w hb S => ?_
  refine sy_run ⟨0, []⟩ 60 S fun bs aa w S => ?_
  have S := S.sub (F' := [rfPs b o ps, rfPc ps]) (by intro f hf; simp only [List.mem_cons, List.not_mem_nil, or_false] at hf; rcases hf with rfl | rfl <;> simp)
  have S := S.add (rfOwn w0.heap.size 25 4 (.slice none 0 0) (([] : List Pk)).length (pkV (([] : List Pk)))) (own_nilP _ _) (fun i hi hbl => by cases hbl)
  have S := S.sub (F' := [rfPs b o ps, rfPc ps, rfOwn w0.heap.size 25 4 (.slice none 0 0) (([] : List Pk)).length (pkV (([] : List Pk)))]) (by intro f hf; simp only [List.mem_cons, List.not_mem_nil, or_false] at hf; rcases hf with rfl | rfl | rfl <;> simp)
  have S2 := S.to [] (pxS a ps.length cp ((k % 5 : Nat) : Int) (.slice none 0 0) 0) (by kernel_rfl) (by kernel_rfl) (by kernel_rfl) (by kernel_rfl) (by kernel_rfl)
  refine sy_loop (ps.length + 1) (by kernel_rfl) ?_
  refine sy_at2 (k' := (.rnd (ps.length + 1) (bodyL pxC) :: pxC.k.tail)) (by kernel_rfl) ?_
  exact px_a w0 ps cp a ((k % 5 : Nat) : Int) b o ha (by omega) (fun p hp => ⟨hps p hp, hcc p hp⟩) hbn ps.length 0 (by omega) (.slice none 0 0) aa w S2
end Go.Proofs.YtfkmcibglaiakaaDoor
