
/-
  Layer 4: any row of tokens; LexShow.
-/
import Derived.Test.YthkgmahkmflfkaaDoorRows
import Derived.Test.YthkgmahkmflfkaaDoorBase
import Derived.Test.YthkgmahkmflfkaaDoorLxC
import Derived.Laws.MakeOwn
import Derived.WalkKit
namespace Go.Proofs.YthkgmahkmflfkaaDoor
open Go Go.RowKit SZ
set_option linter.unusedVariables false
set_option linter.unusedSimpArgs false
set_option maxRecDepth 100000
attribute [local irreducible] post GD Nxt NxtAll
abbrev Tq := Int × List Nat × Int × Int
def tqA (t : Tq) : Value := .agg #[.int .i64 (t.1), .string (strOf t.2.1), .int .i64 (t.2.2.1), .int .i64 (t.2.2.2)]
def tq0 : Tq := (0, [], 0, 0)
/-- Tokens in memory. -/
def TqAt (w : World) (b o : Nat) (ts : List Tq) : Prop := ∀ j, j < ts.length → w.cell? ⟨b, o + j * 4, none⟩ = some (.int .i64 ((ts.getD j tq0).1 : Int)) ∧ w.cell? ⟨b, o + j * 4 + 1, none⟩ = some (.string (strOf (ts.getD j tq0).2.1)) ∧ w.cell? ⟨b, o + j * 4 + 2, none⟩ = some (.int .i64 ((ts.getD j tq0).2.2.1 : Int)) ∧ w.cell? ⟨b, o + j * 4 + 3, none⟩ = some (.int .i64 ((ts.getD j tq0).2.2.2 : Int))
def rfTq (b o : Nat) (ts : List Tq) : RF := ⟨fun b' => b' = b ∧ ts.length ≠ 0, fun w => TqAt w b o ts, fun w h b' hb => by
  obtain ⟨rfl, hl⟩ := hb
  exact World.block_lt_of_cell? w _ (h 0 (by omega)).1, fun w w' h hb j hj => by
  have e := fun p => World.cell?_of_block (a := ⟨b, p, none⟩) (hb b ⟨rfl, by omega⟩)
  obtain ⟨h1, h2, h3, h4⟩ := h j hj
  exact ⟨(e _).trans h1, (e _).trans h2, (e _).trans h3, (e _).trans h4⟩⟩
theorem ld_tq {w : World} {b o j : Nat} {ts : List Tq} (h : TqAt w b o ts) (hj : j < ts.length) : (loadVar 30 ⟨b, o + j * 4, none⟩).run Tryd.prog w = .ok (tqA (ts.getD j tq0)) w := by
  obtain ⟨h0, h1, h2, h3⟩ := h j hj
  refine run_loadVar_mid w b (o + j * 4) 30 [.int .i64 ((ts.getD j tq0).1 : Int), .string (strOf (ts.getD j tq0).2.1), .int .i64 ((ts.getD j tq0).2.2.1 : Int), .int .i64 ((ts.getD j tq0).2.2.2 : Int)] _ ?_ Tryd.underlying30 rfl (by kernel_rfl)
  intro i x hi
  match i, hi with
  | 0, hi => simp at hi; subst hi; exact h0
  | 1, hi => simp at hi; subst hi; exact h1
  | 2, hi => simp at hi; subst hi; exact h2
  | 3, hi => simp at hi; subst hi; exact h3
  | i + 4, hi => simp at hi
/-- The spellings, a space between. -/
def shQ (ts : List Tq) : List Nat := [32].intercalate (ts.map fun t => t.2.1)
def spQ (ts : List Tq) : List Value := ts.map fun t => .string (strOf t.2.1)
theorem spQ_snoc (ts : List Tq) (t : Tq) : spQ (ts ++ [t]) = spQ ts ++ [.string (strOf t.2.1)] := by simp [spQ]
theorem joinq_t (w : World) (ts : List Tq) (v : Value) (hb : (shQ ts).length ≤ 100000000) (hn : ts.length ≤ 100000) (h : w.ownsRow 0 9 1 v ts.length (spQ ts)) (hw : ∀ g, v.ownBlock = some g → g < w.heap.size) : Calls Tryd.prog 23 #[v, .string (strOf [32])] w fun e w' => e = .returned (.string (strOf (shQ ts))) ∧ Below w.heap.size w w' := by
  have h0 := h
  by_cases hz : ts.length = 0
  · obtain rfl := List.eq_nil_of_length_eq_zero hz
    rcases h.2 with ⟨rfl, _⟩ | ⟨g, cap, cur, rfl, _⟩
    · exact (Tryd.strings_Join_none none 0 (strOf [32]) w).mono fun e w' ⟨h1, h2⟩ => ⟨h1, by rw [h2]; exact Below.refl _ _⟩
    · exact (Tryd.strings_Join_none (some ⟨g, 0, none⟩) cap (strOf [32]) w).mono fun e w' ⟨h1, h2⟩ => ⟨h1, by rw [h2]; exact Below.refl _ _⟩
  · rcases h.2 with ⟨_, hz2⟩ | ⟨g, cap, cur, rfl, hb0, hg, hnc, hc, _, _⟩
    · exact absurd hz2 hz
    · have hd : ∀ l : List Nat, (strOf l).data.toList = l.map UInt8.ofNat := fun l => by simp [strOf]
      have hj : Lib.join ((ts.map fun t => strOf t.2.1).map (·.data.toList)) (strOf [32]).data.toList = (shQ ts).map UInt8.ofNat := by
        unfold shQ Lib.join
        rw [inter_map, hd, List.map_map, List.map_map]
        congr 1
      have hx := Tryd.strings_Join g 0 cap (ts.map fun t => strOf t.2.1) (strOf [32]) w (fun j x hx => by
        have hjl : j < ts.length := by
          have := (List.getElem?_eq_some_iff.1 hx).1
          simpa using this
        rw [Nat.zero_add, h0.cellAt j (by omega)]
        unfold spQ
        rw [List.getElem?_map] at hx ⊢
        rw [List.getElem?_eq_getElem hjl] at hx ⊢
        simp only [Option.map_some, Option.some.injEq] at hx ⊢
        rw [hx]) (hw g rfl) (by rw [List.length_map]; omega) (by rw [List.length_map]; exact hnc) (by rw [hj, List.length_map]; omega)
      rw [hj, List.length_map] at hx
      exact hx
noncomputable def sqC : Cfg := ⟨goZ 60 [] [.code (bodyOf Tryd.f13)], ⟨0, [], []⟩⟩
noncomputable def sqS (a : Option Addr) (n c : Nat) (v : Value) (i : Nat) : SS := ⟨23, [(3, .v v), (9, .v (.slice a n c)), (10, .v (.int .i64 (n : Int))), (11, .v (.int .i64 (i : Int)))], []⟩
set_option maxHeartbeats 8000000 in
theorem sq_e (w0 : World) (ts : List Tq) (a : Option Addr) (c b o : Nat) (ha : ts.length = 0 ∨ a = some ⟨b, o, none⟩) (hn : ts.length ≤ 100000) (hb : (shQ ts).length ≤ 100000000) (hbo : ts.length = 0 ∨ b < w0.heap.size) (m : Nat) (v : Value) (aa : Act) (w : World) (S : Sy w0 [] [] (sqS a ts.length c v (ts.length)) [rfOwn w0.heap.size 9 1 v (ts.length) (spQ (ts.take (ts.length))), rfTq b o ts] aa w) : post Tryd.prog (.rnd (m + 1) (bodyL sqC) :: sqC.k.tail) (bodyPost Tryd.prog Tryd.f13 (fun e w' => e = .returned (.string (strOf (shQ ts))) ∧ Below w0.heap.size w0 w')) .normal aa w := by
  refine sy_run (c := ⟨(.rnd (m + 1) (bodyL sqC) :: sqC.k.tail), sqS a ts.length c v ts.length⟩) ⟨0, [3]⟩ 50 S fun bs aa w S => ?_
  refine sy_reg S fun S => ?_
  refine sy_ops 1 S fun bs aa w S => ?_
  refine sy_cast 12 S (congrArg Value.bool (decide_eq_false (by omega) : decide ((ts.length : Int) < (ts.length : Int)) = false)) (by kernel_rfl) fun S => ?_
  refine sy_run ⟨0, [7]⟩ 60 S fun bs aa w S => ?_
  refine sy_reg S fun S => ?_
  refine sy_ops 1 S fun bs aa w S => ?_
  have how : w.ownsRow w0.heap.size 9 1 v ts.length (spQ (ts.take ts.length)) := S.fact (f := rfOwn w0.heap.size 9 1 v (ts.length) (spQ (ts.take (ts.length)))) (by simp)
  rw [List.take_length] at how
  refine sy_call1 S (joinq_t w ts v hb hn (owns_mono how (Nat.zero_le _)) (fun g hg => (how.lt g hg).2)) (by kernel_rfl) fun aa w hb2 S => ?_
  refine sy_run ⟨0, []⟩ 60 S fun bs aa w S => ?_
  exact sy_ret S (by kernel_rfl) (by kernel_rfl) fun hg => ⟨rfl, bel_gr hg⟩
set_option maxHeartbeats 8000000 in
theorem sq_s (w0 : World) (ts : List Tq) (a : Option Addr) (c b o : Nat) (ha : ts.length = 0 ∨ a = some ⟨b, o, none⟩) (hn : ts.length ≤ 100000) (hb : (shQ ts).length ≤ 100000000) (hbo : ts.length = 0 ∨ b < w0.heap.size) (m i : Nat) (hi : i < ts.length) (v : Value) (ih : ∀ (v2 : Value) (aa : Act) (w : World) (S : Sy w0 [] [] (sqS a ts.length c v2 (i + 1)) [rfOwn w0.heap.size 9 1 v2 (i + 1) (spQ (ts.take (i + 1))), rfTq b o ts] aa w), post Tryd.prog (.rnd (m) (bodyL sqC) :: sqC.k.tail) (bodyPost Tryd.prog Tryd.f13 (fun e w' => e = .returned (.string (strOf (shQ ts))) ∧ Below w0.heap.size w0 w')) .normal aa w) (aa : Act) (w : World) (S : Sy w0 [] [] (sqS a ts.length c v (i)) [rfOwn w0.heap.size 9 1 v (i) (spQ (ts.take (i))), rfTq b o ts] aa w) : post Tryd.prog (.rnd (m + 1) (bodyL sqC) :: sqC.k.tail) (bodyPost Tryd.prog Tryd.f13 (fun e w' => e = .returned (.string (strOf (shQ ts))) ∧ Below w0.heap.size w0 w')) .normal aa w := by
  have htk : ts.take (i + 1) = ts.take i ++ [(ts.getD i tq0)] := by
    rw [List.take_succ_eq_append_getElem hi]
    simp [List.getD, List.getElem?_eq_getElem hi]
  refine sy_run (c := ⟨(.rnd (m + 1) (bodyL sqC) :: sqC.k.tail), sqS a ts.length c v i⟩) ⟨0, [3]⟩ 50 S fun bs aa w S => ?_
  refine sy_reg S fun S => ?_
  refine sy_ops 1 S fun bs aa w S => ?_
  refine sy_cast 12 S (congrArg Value.bool (decide_eq_true (by omega) : decide ((i : Int) < (ts.length : Int)) = true)) (by kernel_rfl) fun S => ?_
  refine sy_run ⟨0, [4]⟩ 60 S fun bs aa w S => ?_
  refine sy_reg S fun S => ?_
  refine sy_ix (b := b) (off := o) (len := ts.length) (n := i) (size := 4) (i := (i : Int)) S (by rw [← ha.resolve_left (by omega)]; kernel_rfl) rfl hi fun aa S => ?_
  refine sy_ldo S (ld_tq (j := i) (ts := ts) (S.fact (f := rfTq b o ts) (by simp)) hi) (by kernel_rfl) fun aa S => ?_
  refine sy_cast 14 S (show tqA (ts.getD i tq0) = .agg #[.int .i64 ((ts.getD i tq0).1 : Int), .string (strOf (ts.getD i tq0).2.1), .int .i64 ((ts.getD i tq0).2.2.1 : Int), .int .i64 ((ts.getD i tq0).2.2.2 : Int)] from rfl) (by kernel_rfl) fun S => ?_
  refine sy_run ⟨0, [5]⟩ 60 S fun bs aa w S => ?_
  refine sy_reg S fun S => ?_
  refine sy_ops 4 S fun bs aa w S => ?_
  refine sy_nm S fun bs S => ?_
  obtain ⟨ii, hi1, hi2, hi3, hi4⟩ := parts3 infStr
  have how : w.ownsRow w0.heap.size 9 1 v i (spQ (ts.take i)) := S.fact (f := rfOwn w0.heap.size 9 1 v (i) (spQ (ts.take (i)))) (by simp)
  have hapb := (S.fs (rfOwn w0.heap.size 9 1 v (i) (spQ (ts.take (i)))) (by simp)).2
  have hblk : ∀ j, j < bs.length → bs.getD j 0 < w.heap.size := fun j hj => S.lt hj
  refine sy_appO w0.heap.size (u := .v v) (y := .s 1 0 1 1) (v := v) (ad := adr bs 1 0) (m := 1) (cp := 1) (n := i) (size := 1) (bytes := 16) (e := 9) (t := 34) (xs := spQ (ts.take i)) (news := [.string (strOf (ts.getD i tq0).2.1)]) [rfTq b o ts] S (by kernel_rfl) Tryd.underlying34 hi1 hi2 hi3 hi4 rfl (by omega) rfl rfl how S.gr.size (own3 (P := Tryd.prog) (ty := 9) (cs := [.string (strOf (ts.getD i tq0).2.1)]) S 1 (by kernel_rfl)) rfl (by intro u hu; simp only [List.mem_singleton] at hu; subst hu; rfl) (by simp only [maxLen]; omega) (by omega)
    (fun g hg => Or.inr (how.lt g hg).1) (fun f hf => ⟨by simp only [List.mem_singleton] at hf; subst hf; simp, fun g hg hbl => by
      simp only [List.mem_singleton] at hf
      subst hf
      have h1 := (how.lt g hg).1
      have h2 : g = b := hbl.1
      have h3 := hbo.resolve_left (by omega)
      omega⟩) (fun j hj hb => hapb j hj hb)
    fun v' aa w2 hO hg' hnn S => ?_
  have S := S.add (rfOwn w0.heap.size 9 1 v' (i + 1) (spQ (ts.take (i + 1)))) (by rw [htk, spQ_snoc]; exact hO) (fun j hj hb => (hnn _ hb).elim (fun q => hapb j hj q) (fun q => by have := hblk j hj; omega))
  refine sy_run ⟨0, [6]⟩ 60 S fun bs aa w S => ?_
  refine sy_reg S fun S => ?_
  refine sy_ops 1 S fun bs aa w S => ?_
  refine sy_cast 20 S (congrArg (Value.int .i64) (by rw [IntKind.wrap_i64]; omega : IntKind.i64.wrap ((i : Int) + 1) = ((i + 1 : Nat) : Int))) (by kernel_rfl) fun S => ?_
  refine sy_run ⟨0, [999]⟩ 50 S fun bs aa w S => ?_
  have S := S.sub (F' := [rfOwn w0.heap.size 9 1 v' (i + 1) (spQ (ts.take (i + 1))), rfTq b o ts]) (by intro f hf; simp only [List.mem_cons, List.not_mem_nil, or_false] at hf; rcases hf with rfl | rfl <;> simp)
  have S2 := S.to [] (sqS a ts.length c v' (i + 1)) (by kernel_rfl) (by kernel_rfl) (by kernel_rfl) (by kernel_rfl) (by kernel_rfl)
  refine sy_at2 (k' := (.rnd (m) (bodyL sqC) :: sqC.k.tail)) (by kernel_rfl) ?_
  exact ih v' aa w S2
theorem sq_a (w0 : World) (ts : List Tq) (a : Option Addr) (c b o : Nat) (ha : ts.length = 0 ∨ a = some ⟨b, o, none⟩) (hn : ts.length ≤ 100000) (hb : (shQ ts).length ≤ 100000000) (hbo : ts.length = 0 ∨ b < w0.heap.size) : ∀ (m i : Nat), i + m = ts.length → ∀ (v : Value) (aa : Act) (w : World) (S : Sy w0 [] [] (sqS a ts.length c v (i)) [rfOwn w0.heap.size 9 1 v (i) (spQ (ts.take (i))), rfTq b o ts] aa w), post Tryd.prog (.rnd (m + 1) (bodyL sqC) :: sqC.k.tail) (bodyPost Tryd.prog Tryd.f13 (fun e w' => e = .returned (.string (strOf (shQ ts))) ∧ Below w0.heap.size w0 w')) .normal aa w := by
  intro m
  induction m with
  | zero => intro i hi v aa w S; obtain rfl : i = ts.length := by omega
            exact sq_e w0 ts a c b o ha hn hb hbo 0 v aa w S
  | succ m ih => intro i hi v aa w S; exact sq_s w0 ts a c b o ha hn hb hbo (m + 1) i (by omega) v (fun v2 aa w S => ih (i + 1) (by omega) v2 aa w S) aa w S
set_option maxHeartbeats 8000000 in
theorem showq_t (w0 : World) (ts : List Tq) (a : Option Addr) (c b o : Nat) (ha : ts.length = 0 ∨ a = some ⟨b, o, none⟩) (hn : ts.length ≤ 100000) (hb : (shQ ts).length ≤ 100000000) (hbo : ts.length = 0 ∨ b < w0.heap.size) (hT : TqAt w0 b o ts) : Calls Tryd.prog 13 #[.slice a ts.length c] w0 (fun e w' => e = .returned (.string (strOf (shQ ts))) ∧ Below w0.heap.size w0 w') := by
  refine sy_enterF [] [rfTq b o ts] (by intro f hf; simp only [List.mem_singleton] at hf; subst hf; exact hT) Tryd.func13 rfl rfl fun aa S => ?_
  refine sy_run ⟨0, [1]⟩ 60 S fun bs aa w S => ?_
  refine sy_reg S fun S => ?_
  refine sy_ops 2 S fun bs aa w S => ?_
  refine sy_nm S fun bs S => ?_
  have hs0 := S.gr.size
  have hlt := fun i hi => S.lt (i := i) hi
  obtain ⟨ii, hi1, hi2, hi3, hi4⟩ := parts3 infStr
  refine sy_exB (op := .makeSlice 34 (.const (.int .i64 0)) (.tmp 7)) (ty := 34) (C := fun v w' => v = .slice (some ⟨w.heap.size, 0, none⟩) 0 ts.length ∧ w'.ownsRow w0.heap.size 9 1 v 0 []) S (by kernel_rfl) (fun op ρ h1 h2 h3 => by
    have e2 : ρ (.tmp 7) = .int .i64 (ts.length : Int) := h3 (.tmp 7) (.v (.int .i64 (ts.length : Int))) (by kernel_rfl)
    have e1 : ρ (.const (.int .i64 0)) = .int .i64 0 := h3 (.const (.int .i64 0)) (.v (.int .i64 0)) (by kernel_rfl)
    obtain ⟨w', q1, q2, q3⟩ := run_make_own (P := Tryd.prog) w w0.heap.size 34 9 ii _ 1 Tryd.underlying34 hi1 hi2 hi3 .i64 .i64 ts.length (by rw [hi4]; omega) (by unfold maxLen; omega) hs0
    refine ⟨_, w', ?_, ⟨rfl, q2⟩, ⟨q3.os, q3.tape, q3.output, q3.size, fun k hk => q3.block k hk (by simp)⟩⟩
    unfold execOp
    simp only [h1, e1, e2, Sem.run_bind, Sem.run_pure, Result.andThen_ok, q1]) fun v aa w1 hC hb0 S => ?_
  obtain ⟨rfl, hO⟩ := hC
  have S := S.add (rfOwn w0.heap.size 9 1 (.slice (some ⟨w.heap.size, 0, none⟩) 0 ts.length) 0 (spQ (ts.take 0))) hO (fun i hi hbl => by have h1 := hlt i hi; have h2 : some w.heap.size = some _ := hbl; simp only [Option.some.injEq] at h2; omega)
  generalize w.heap.size = g at S
  refine sy_run ⟨0, []⟩ 60 S fun bs aa w S => ?_
  have S := S.sub (F' := [rfOwn w0.heap.size 9 1 (.slice (some ⟨g, 0, none⟩) 0 ts.length) (0) (spQ (ts.take (0))), rfTq b o ts]) (by intro f hf; simp only [List.mem_cons, List.not_mem_nil, or_false] at hf; rcases hf with rfl | rfl <;> simp)
  have S2 := S.to [] (sqS a ts.length c (.slice (some ⟨g, 0, none⟩) 0 ts.length) 0) (by kernel_rfl) (by kernel_rfl) (by kernel_rfl) (by kernel_rfl) (by kernel_rfl)
  refine sy_loop (ts.length + 1) (by kernel_rfl) ?_
  refine sy_at2 (k' := (.rnd (ts.length + 1) (bodyL sqC) :: sqC.k.tail)) (by kernel_rfl) ?_
  exact sq_a w0 ts a c b o ha hn hb hbo ts.length 0 (by omega) _ aa w S2
theorem shQ_one (t : Tq) : shQ [t] = t.2.1 := by simp [shQ, List.intercalate]
theorem shQ_cons (t u : Tq) (r : List Tq) : shQ (t :: u :: r) = t.2.1 ++ 32 :: shQ (u :: r) := by simp [shQ, List.intercalate]
theorem shQ_snoc (x : Tq) : ∀ ts : List Tq, ts ≠ [] → shQ (ts ++ [x]) = shQ ts ++ [32] ++ x.2.1
  | [], h => absurd rfl h
  | [t], _ => by rw [List.singleton_append, shQ_cons, shQ_one, shQ_one]; simp
  | t :: u :: r, _ => by
    have ih := shQ_snoc x (u :: r) (by simp)
    rw [List.cons_append, List.cons_append, shQ_cons, shQ_cons, ← List.cons_append, ih]
    simp
theorem shQ_len : ∀ ts : List Tq, (∀ t ∈ ts, t.2.1.length ≤ 100) → (shQ ts).length ≤ 101 * ts.length
  | [], _ => Nat.zero_le _
  | [t], h => by rw [shQ_one]; have := h t (by simp); simp only [List.length_singleton]; omega
  | t :: u :: r, h => by
    have ih := shQ_len (u :: r) (fun x hx => h x (by simp [hx]))
    have h1 := h t (by simp)
    rw [shQ_cons, List.length_append, List.length_cons]
    simp only [List.length_cons] at ih ⊢
    omega
theorem shQ_256 {x : Nat} : ∀ {ts : List Tq}, (∀ t ∈ ts, ∀ b ∈ t.2.1, b < 256) → x ∈ shQ ts → x < 256
  | [], _, h => by cases h
  | [t], hh, h => by rw [shQ_one] at h; exact hh t (by simp) x h
  | t :: u :: r, hh, h => by
    rw [shQ_cons] at h
    rcases List.mem_append.1 h with h | h
    · exact hh t (by simp) x h
    · rcases List.mem_cons.1 h with rfl | h
      · decide
      · exact shQ_256 (fun y hy => hh y (by simp [hy])) h
noncomputable def srC : Cfg := ⟨goZ 60 [] [.code (bodyOf Tryd.f14)], ⟨0, [], []⟩⟩
noncomputable def sr7 (m : Nat) : List It := goM 60 2 [1, 0] (.code (bodyL srC) :: .rnd m (bodyL srC) :: srC.k.tail)
noncomputable def srS (a : Option Addr) (n c : Nat) (s : List Nat) (i : Nat) : SS := ⟨23, [(0, .v (.slice a n c)), (3, .v (.string (strOf s))), (4, .v (.int .i64 (i : Int)))], []⟩
set_option maxHeartbeats 8000000 in
theorem sr_e (w0 : World) (ts : List Tq) (a : Option Addr) (c b o : Nat) (ha : ts.length = 0 ∨ a = some ⟨b, o, none⟩) (hn : ts.length ≤ 100) (h100 : ∀ t ∈ ts, t.2.1.length ≤ 100) (m : Nat) (aa : Act) (w : World) (S : Sy w0 [] [] (srS a ts.length c (shQ ts) (ts.length)) [rfTq b o ts] aa w) : post Tryd.prog (.rnd (m + 1) (bodyL srC) :: srC.k.tail) (bodyPost Tryd.prog Tryd.f14 (fun e w' => e = .returned (.string (strOf (shQ ts))) ∧ Below w0.heap.size w0 w')) .normal aa w := by
  refine sy_run (c := ⟨(.rnd (m + 1) (bodyL srC) :: srC.k.tail), srS a ts.length c (shQ ts) ts.length⟩) ⟨0, [3]⟩ 50 S fun bs aa w S => ?_
  refine sy_reg S fun S => ?_
  refine sy_ops 4 S fun bs aa w S => ?_
  refine sy_cast 8 S (congrArg Value.bool (decide_eq_false (by omega) : decide ((ts.length : Int) < (ts.length : Int)) = false)) (by kernel_rfl) fun S => ?_
  refine sy_run ⟨0, []⟩ 60 S fun bs aa w S => ?_
  exact sy_ret S (by kernel_rfl) (by kernel_rfl) fun hg => ⟨rfl, bel_gr hg⟩
set_option maxHeartbeats 8000000 in
theorem sr_7 (w0 : World) (ts : List Tq) (a : Option Addr) (c b o : Nat) (ha : ts.length = 0 ∨ a = some ⟨b, o, none⟩) (hn : ts.length ≤ 100) (h100 : ∀ t ∈ ts, t.2.1.length ≤ 100) (m i : Nat) (hi : i < ts.length) (s : List Nat) (hs : s.length ≤ 100000) (ih : ∀ (aa : Act) (w : World) (S : Sy w0 [] [] (srS a ts.length c (s ++ (ts.getD i tq0).2.1) (i + 1)) [rfTq b o ts] aa w), post Tryd.prog (.rnd (m) (bodyL srC) :: srC.k.tail) (bodyPost Tryd.prog Tryd.f14 (fun e w' => e = .returned (.string (strOf (shQ ts))) ∧ Below w0.heap.size w0 w')) .normal aa w) (aa : Act) (w : World) (S : Sy w0 [] [] (srS a ts.length c (s) (i)) [rfTq b o ts] aa w) : post Tryd.prog (sr7 m) (bodyPost Tryd.prog Tryd.f14 (fun e w' => e = .returned (.string (strOf (shQ ts))) ∧ Below w0.heap.size w0 w')) .normal aa w := by
  have hx := h100 _ (getD_mem ts i tq0 hi)
  refine sy_run (c := ⟨sr7 m, srS a ts.length c s i⟩) ⟨0, [7]⟩ 60 S fun bs aa w S => ?_
  refine sy_reg S fun S => ?_
  refine sy_ops 3 S fun bs aa w S => ?_
  refine sy_ix (b := b) (off := o) (len := ts.length) (n := i) (size := 4) (i := (i : Int)) S (by rw [← ha.resolve_left (by omega)]; kernel_rfl) rfl hi fun aa S => ?_
  refine sy_ops 1 S fun bs aa w S => ?_
  refine sy_ldo S (ld_at (ty := 9) (b := b) (off := o + i * 4 + 1) (by kernel_rfl) (((S.fact (f := rfTq b o ts) (by simp)) i hi).2.1)) (by kernel_rfl) fun aa S => ?_
  refine sy_ex (op := .binOp .add 9 (.tmp 15) (.tmp 20) 9) (ty := 9) (v := .string (strOf s ++ strOf (ts.getD i tq0).2.1)) S (by kernel_rfl) (ex_cat Tryd.underlying9 (by kernel_rfl) (by kernel_rfl) (by rw [strOf_size, strOf_size]; omega)) fun aa S => ?_
  refine sy_cast 21 S (congrArg Value.string (strOf_app s (ts.getD i tq0).2.1)) (by kernel_rfl) fun S => ?_
  refine sy_run ⟨0, [4]⟩ 60 S fun bs aa w S => ?_
  refine sy_reg S fun S => ?_
  refine sy_ops 2 S fun bs aa w S => ?_
  refine sy_cast 10 S (congrArg (Value.int .i64) (by rw [IntKind.wrap_i64]; omega : IntKind.i64.wrap ((i : Int) + 1) = ((i + 1 : Nat) : Int))) (by kernel_rfl) fun S => ?_
  refine sy_run ⟨0, [999]⟩ 50 S fun bs aa w S => ?_
  have S2 := S.to [] (srS a ts.length c (s ++ (ts.getD i tq0).2.1) (i + 1)) (by kernel_rfl) (by kernel_rfl) (by kernel_rfl) (by kernel_rfl) (by kernel_rfl)
  refine sy_at2 (k' := (.rnd (m) (bodyL srC) :: srC.k.tail)) (by kernel_rfl) ?_
  exact ih aa w S2
set_option maxHeartbeats 8000000 in
theorem sr_s (w0 : World) (ts : List Tq) (a : Option Addr) (c b o : Nat) (ha : ts.length = 0 ∨ a = some ⟨b, o, none⟩) (hn : ts.length ≤ 100) (h100 : ∀ t ∈ ts, t.2.1.length ≤ 100) (m i : Nat) (hi : i < ts.length) (ih : ∀ (aa : Act) (w : World) (S : Sy w0 [] [] (srS a ts.length c (shQ (ts.take (i + 1))) (i + 1)) [rfTq b o ts] aa w), post Tryd.prog (.rnd (m) (bodyL srC) :: srC.k.tail) (bodyPost Tryd.prog Tryd.f14 (fun e w' => e = .returned (.string (strOf (shQ ts))) ∧ Below w0.heap.size w0 w')) .normal aa w) (aa : Act) (w : World) (S : Sy w0 [] [] (srS a ts.length c (shQ (ts.take i)) (i)) [rfTq b o ts] aa w) : post Tryd.prog (.rnd (m + 1) (bodyL srC) :: srC.k.tail) (bodyPost Tryd.prog Tryd.f14 (fun e w' => e = .returned (.string (strOf (shQ ts))) ∧ Below w0.heap.size w0 w')) .normal aa w := by
  have htk : ts.take (i + 1) = ts.take i ++ [(ts.getD i tq0)] := by
    rw [List.take_succ_eq_append_getElem hi]
    simp [List.getD, List.getElem?_eq_getElem hi]
  have hle := shQ_len (ts.take i) (fun t ht => h100 t (List.mem_of_mem_take ht))
  rw [List.length_take] at hle
  refine sy_run (c := ⟨(.rnd (m + 1) (bodyL srC) :: srC.k.tail), srS a ts.length c (shQ (ts.take i)) i⟩) ⟨0, [3]⟩ 50 S fun bs aa w S => ?_
  refine sy_reg S fun S => ?_
  refine sy_ops 4 S fun bs aa w S => ?_
  refine sy_cast 8 S (congrArg Value.bool (decide_eq_true (by omega) : decide ((i : Int) < (ts.length : Int)) = true)) (by kernel_rfl) fun S => ?_
  refine sy_run ⟨0, [5]⟩ 60 S fun bs aa w S => ?_
  refine sy_reg S fun S => ?_
  refine sy_ops 2 S fun bs aa w S => ?_
  by_cases h0 : i = 0
  · have e : shQ (ts.take (i + 1)) = shQ (ts.take i) ++ (ts.getD i tq0).2.1 := by
      rw [htk]
      subst h0
      simp only [List.take_zero, List.nil_append, shQ_one]
      rfl
    refine sy_cast 12 S (congrArg Value.bool (decide_eq_false (by omega) : decide ((i : Int) > 0) = false)) (by kernel_rfl) fun S => ?_
    refine sy_run ⟨0, [7]⟩ 60 S fun bs aa w S => ?_
    have S2 := S.to [] (srS a ts.length c (shQ (ts.take i)) i) (by kernel_rfl) (by kernel_rfl) (by kernel_rfl) (by kernel_rfl) (by kernel_rfl)
    refine sy_at2 (k' := sr7 m) (by kernel_rfl) ?_
    exact sr_7 w0 ts a c b o ha hn h100 m i hi (shQ (ts.take i)) (by omega) (fun aa w S => ih aa w (by rw [← e] at S; exact S)) aa w S2
  · have e : shQ (ts.take (i + 1)) = shQ (ts.take i) ++ [32] ++ (ts.getD i tq0).2.1 := by
      rw [htk]
      exact shQ_snoc _ _ (fun q => by have := congrArg List.length q; rw [List.length_take] at this; simp only [List.length_nil] at this; omega)
    refine sy_cast 12 S (congrArg Value.bool (decide_eq_true (by omega) : decide ((i : Int) > 0) = true)) (by kernel_rfl) fun S => ?_
    refine sy_run ⟨0, [6]⟩ 60 S fun bs aa w S => ?_
    refine sy_reg S fun S => ?_
    refine sy_ops 1 S fun bs aa w S => ?_
    refine sy_ex (op := .binOp .add 9 (.tmp 13) (.const (.string ⟨#[32]⟩)) 9) (ty := 9) (v := .string (strOf (shQ (ts.take i)) ++ strOf [32])) S (by kernel_rfl) (ex_cat Tryd.underlying9 (by kernel_rfl) (by kernel_rfl) (by rw [strOf_size, strOf_size]; simp only [List.length_singleton]; omega)) fun aa S => ?_
    refine sy_cast 14 S (congrArg Value.string (strOf_app (shQ (ts.take i)) [32])) (by kernel_rfl) fun S => ?_
    refine sy_run ⟨0, [7]⟩ 60 S fun bs aa w S => ?_
    have S2 := S.to [] (srS a ts.length c (shQ (ts.take i) ++ [32]) i) (by kernel_rfl) (by kernel_rfl) (by kernel_rfl) (by kernel_rfl) (by kernel_rfl)
    refine sy_at2 (k' := sr7 m) (by kernel_rfl) ?_
    exact sr_7 w0 ts a c b o ha hn h100 m i hi (shQ (ts.take i) ++ [32]) (by rw [List.length_append, List.length_singleton]; omega) (fun aa w S => ih aa w (by rw [← e] at S; exact S)) aa w S2
theorem sr_a (w0 : World) (ts : List Tq) (a : Option Addr) (c b o : Nat) (ha : ts.length = 0 ∨ a = some ⟨b, o, none⟩) (hn : ts.length ≤ 100) (h100 : ∀ t ∈ ts, t.2.1.length ≤ 100) : ∀ (m i : Nat), i + m = ts.length → ∀ (aa : Act) (w : World) (S : Sy w0 [] [] (srS a ts.length c (shQ (ts.take i)) (i)) [rfTq b o ts] aa w), post Tryd.prog (.rnd (m + 1) (bodyL srC) :: srC.k.tail) (bodyPost Tryd.prog Tryd.f14 (fun e w' => e = .returned (.string (strOf (shQ ts))) ∧ Below w0.heap.size w0 w')) .normal aa w := by
  intro m
  induction m with
  | zero =>
    intro i hi aa w S
    obtain rfl : i = ts.length := by omega
    rw [List.take_length] at S
    exact sr_e w0 ts a c b o ha hn h100 0 aa w S
  | succ m ih => intro i hi aa w S; exact sr_s w0 ts a c b o ha hn h100 (m + 1) i (by omega) (fun aa w S => ih (i + 1) (by omega) aa w S) aa w S
set_option maxHeartbeats 8000000 in
theorem rshow_t (w0 : World) (ts : List Tq) (a : Option Addr) (c b o : Nat) (ha : ts.length = 0 ∨ a = some ⟨b, o, none⟩) (hn : ts.length ≤ 100) (h100 : ∀ t ∈ ts, t.2.1.length ≤ 100) (hT : TqAt w0 b o ts) : Calls Tryd.prog 14 #[.slice a ts.length c] w0 (fun e w' => e = .returned (.string (strOf (shQ ts))) ∧ Below w0.heap.size w0 w') := by
  refine sy_enterF [] [rfTq b o ts] (by intro f hf; simp only [List.mem_singleton] at hf; subst hf; exact hT) Tryd.func14 rfl rfl fun aa S => ?_
  refine sy_run ⟨0, []⟩ 60 S fun bs aa w S => ?_
  have S2 := S.to [] (srS a ts.length c (shQ (ts.take 0)) 0) (by kernel_rfl) (by kernel_rfl) (by kernel_rfl) (by kernel_rfl) (by kernel_rfl)
  refine sy_loop (ts.length + 1) (by kernel_rfl) ?_
  refine sy_at2 (k' := (.rnd (ts.length + 1) (bodyL srC) :: srC.k.tail)) (by kernel_rfl) ?_
  exact sr_a w0 ts a c b o ha hn h100 ts.length 0 (by omega) aa w S2
noncomputable def lsC : Cfg := ⟨goZ 60 [0] [.code (bodyOf Tryd.f4)], ⟨0, [], []⟩⟩
noncomputable def lsS (a : Option Addr) (n c i : Nat) : SS := ⟨32, [(0, .v (.slice a n c)), (3, .v (.bool true)), (4, .v (.int .i64 (i : Int)))], []⟩
set_option maxHeartbeats 8000000 in
theorem ls_e (w0 : World) (ts : List Tq) (a : Option Addr) (c b o : Nat) (ha : ts.length = 0 ∨ a = some ⟨b, o, none⟩) (hbo : ts.length = 0 ∨ b < w0.heap.size) (hn : ts.length ≤ 100) (h256 : ∀ t ∈ ts, ∀ x ∈ t.2.1, x < 256) (m : Nat) (hv : ∀ j, j < ts.length → (ts.getD j tq0).2.1.length ≤ 100) (aa : Act) (w : World) (S : Sy w0 [] [] (lsS a ts.length c (ts.length)) [rfTq b o ts] aa w) : post Tryd.prog (.rnd (m + 1) (bodyL lsC) :: lsC.k.tail) (bodyPost Tryd.prog Tryd.f4 (fun e w' => e = .returned (.bool true) ∧ Below w0.heap.size w0 w')) .normal aa w := by
  have h100 : ∀ t ∈ ts, t.2.1.length ≤ 100 := fun t ht => by
    obtain ⟨j, hj, rfl⟩ := List.getElem_of_mem ht
    have := hv j hj
    simpa [List.getD, List.getElem?_eq_getElem hj] using this
  have hle := shQ_len ts h100
  have hs256 : ∀ x ∈ shQ ts, x < 256 := fun x hx => shQ_256 h256 hx
  refine sy_run (c := ⟨(.rnd (m + 1) (bodyL lsC) :: lsC.k.tail), lsS a ts.length c ts.length⟩) ⟨0, [5]⟩ 50 S fun bs aa w S => ?_
  refine sy_reg S fun S => ?_
  refine sy_ops 4 S fun bs aa w S => ?_
  refine sy_cast 13 S (congrArg Value.bool (decide_eq_false (by omega) : decide ((ts.length : Int) < (ts.length : Int)) = false)) (by kernel_rfl) fun S => ?_
  refine sy_run ⟨0, [9]⟩ 60 S fun bs aa w S => ?_
  refine sy_reg S fun S => ?_
  refine sy_ops 3 S fun bs aa w S => ?_
  have hlw := S.gr.size
  refine sy_call1 S (showq_t w ts a c b o ha (by omega) (by omega) (by rcases hbo with h | h; exact Or.inl h; exact Or.inr (by omega)) (S.fact (f := rfTq b o ts) (by simp))) (by kernel_rfl) fun aa w hb S => ?_
  refine sy_ops 1 S fun bs aa w S => ?_
  refine sy_call1 S (rshow_t w ts a c b o ha hn h100 (S.fact (f := rfTq b o ts) (by simp))) (by kernel_rfl) fun aa w hb S => ?_
  refine sy_ex (op := .binOp .eql 9 (.tmp 27) (.tmp 29) 9) (ty := 4) (v := .bool true) S (by kernel_rfl) (ex_eqL (l := shQ ts) (m := shQ ts) (by kernel_rfl) (by kernel_rfl) hs256 hs256 (decide_eq_true rfl)) fun aa S => ?_
  refine sy_run ⟨0, []⟩ 60 S fun bs aa w S => ?_
  exact sy_ret S (by kernel_rfl) (by kernel_rfl) fun hg => ⟨rfl, bel_gr hg⟩
set_option maxHeartbeats 8000000 in
theorem ls_s (w0 : World) (ts : List Tq) (a : Option Addr) (c b o : Nat) (ha : ts.length = 0 ∨ a = some ⟨b, o, none⟩) (hbo : ts.length = 0 ∨ b < w0.heap.size) (hn : ts.length ≤ 100) (h256 : ∀ t ∈ ts, ∀ x ∈ t.2.1, x < 256) (m i : Nat) (hi : i < ts.length) (ih : (ts.getD i tq0).2.1.length ≤ 100 → ∀ (aa : Act) (w : World) (S : Sy w0 [] [] (lsS a ts.length c (i + 1)) [rfTq b o ts] aa w), post Tryd.prog (.rnd (m) (bodyL lsC) :: lsC.k.tail) (bodyPost Tryd.prog Tryd.f4 (fun e w' => e = .returned (.bool true) ∧ Below w0.heap.size w0 w')) .normal aa w) (aa : Act) (w : World) (S : Sy w0 [] [] (lsS a ts.length c (i)) [rfTq b o ts] aa w) : post Tryd.prog (.rnd (m + 1) (bodyL lsC) :: lsC.k.tail) (bodyPost Tryd.prog Tryd.f4 (fun e w' => e = .returned (.bool true) ∧ Below w0.heap.size w0 w')) .normal aa w := by
  refine sy_run (c := ⟨(.rnd (m + 1) (bodyL lsC) :: lsC.k.tail), lsS a ts.length c i⟩) ⟨0, [5]⟩ 50 S fun bs aa w S => ?_
  refine sy_reg S fun S => ?_
  refine sy_ops 4 S fun bs aa w S => ?_
  refine sy_cast 13 S (congrArg Value.bool (decide_eq_true (by omega) : decide ((i : Int) < (ts.length : Int)) = true)) (by kernel_rfl) fun S => ?_
  refine sy_run ⟨0, [7]⟩ 60 S fun bs aa w S => ?_
  refine sy_reg S fun S => ?_
  refine sy_ops 2 S fun bs aa w S => ?_
  refine sy_ix (b := b) (off := o) (len := ts.length) (n := i) (size := 4) (i := (i : Int)) S (by rw [← ha.resolve_left (by omega)]; kernel_rfl) rfl hi fun aa S => ?_
  refine sy_ops 1 S fun bs aa w S => ?_
  refine sy_ldo S (ld_at (ty := 9) (b := b) (off := o + i * 4 + 1) (by kernel_rfl) (((S.fact (f := rfTq b o ts) (by simp)) i hi).2.1)) (by kernel_rfl) fun aa S => ?_
  refine sy_ops 1 S fun bs aa w S => ?_
  refine sy_cast 21 S (congrArg (Value.int .i64) (by rw [strOf_size] : ((strOf (ts.getD i tq0).2.1).size : Int) = ((ts.getD i tq0).2.1.length : Int))) (by kernel_rfl) fun S => ?_
  refine sy_ops 1 S fun bs aa w S => ?_
  by_cases h : (ts.getD i tq0).2.1.length ≤ 100
  · refine sy_cast 22 S (congrArg Value.bool (decide_eq_false (by omega) : decide (((ts.getD i tq0).2.1.length : Int) > 100) = false)) (by kernel_rfl) fun S => ?_
    refine sy_run ⟨0, [6]⟩ 60 S fun bs aa w S => ?_
    refine sy_reg S fun S => ?_
    refine sy_ops 2 S fun bs aa w S => ?_
    refine sy_cast 15 S (congrArg (Value.int .i64) (by rw [IntKind.wrap_i64]; omega : IntKind.i64.wrap ((i : Int) + 1) = ((i + 1 : Nat) : Int))) (by kernel_rfl) fun S => ?_
    refine sy_run ⟨0, [999]⟩ 50 S fun bs aa w S => ?_
    have S2 := S.to [] (lsS a ts.length c (i + 1)) (by kernel_rfl) (by kernel_rfl) (by kernel_rfl) (by kernel_rfl) (by kernel_rfl)
    refine sy_at2 (k' := (.rnd (m) (bodyL lsC) :: lsC.k.tail)) (by kernel_rfl) ?_
    exact ih h aa w S2
  · refine sy_cast 22 S (congrArg Value.bool (decide_eq_true (by omega) : decide (((ts.getD i tq0).2.1.length : Int) > 100) = true)) (by kernel_rfl) fun S => ?_
    refine sy_run ⟨0, []⟩ 60 S fun bs aa w S => ?_
    exact sy_ret S (by kernel_rfl) (by kernel_rfl) fun hg => ⟨rfl, bel_gr hg⟩
theorem ls_a (w0 : World) (ts : List Tq) (a : Option Addr) (c b o : Nat) (ha : ts.length = 0 ∨ a = some ⟨b, o, none⟩) (hbo : ts.length = 0 ∨ b < w0.heap.size) (hn : ts.length ≤ 100) (h256 : ∀ t ∈ ts, ∀ x ∈ t.2.1, x < 256) : ∀ (m i : Nat), i + m = ts.length → ∀ (hv : ∀ j, j < i → (ts.getD j tq0).2.1.length ≤ 100) (aa : Act) (w : World) (S : Sy w0 [] [] (lsS a ts.length c (i)) [rfTq b o ts] aa w), post Tryd.prog (.rnd (m + 1) (bodyL lsC) :: lsC.k.tail) (bodyPost Tryd.prog Tryd.f4 (fun e w' => e = .returned (.bool true) ∧ Below w0.heap.size w0 w')) .normal aa w := by
  intro m
  induction m with
  | zero => intro i hi hv aa w S; obtain rfl : i = ts.length := by omega
            exact ls_e w0 ts a c b o ha hbo hn h256 0 hv aa w S
  | succ m ih => intro i hi hv aa w S; exact ls_s w0 ts a c b o ha hbo hn h256 (m + 1) i (by omega) (fun h aa w S => ih (i + 1) (by omega) (fun j hj => by rcases Nat.lt_or_ge j i with q | q; exact hv j q; rw [show j = i by omega]; exact h) aa w S) aa w S
set_option maxHeartbeats 8000000 in
theorem ls_all (w0 : World) (hG : rfSg.P w0) (ts : List Tq) (a : Option Addr) (c b o : Nat) (ha : ts.length = 0 ∨ a = some ⟨b, o, none⟩) (h256 : ∀ t ∈ ts, ∀ x ∈ t.2.1, x < 256) (hT : TqAt w0 b o ts) : Calls Tryd.prog 4 #[.slice a ts.length c] w0 (fun e w' => e = .returned (.bool true) ∧ Below w0.heap.size w0 w') := by
  have hbo : ts.length = 0 ∨ b < w0.heap.size := by
    by_cases h : ts.length = 0
    · exact Or.inl h
    · exact Or.inr ((rfTq b o ts).lt w0 hT b ⟨rfl, h⟩)
  refine sy_enterF [] [rfSg, rfTq b o ts] (by intro f hf; simp only [List.mem_cons, List.not_mem_nil, or_false] at hf; rcases hf with rfl | rfl; exact hG; exact hT) Tryd.func4 rfl rfl fun aa S => ?_
  refine sy_run ⟨0, [1]⟩ 60 S fun bs aa w S => ?_
  refine sy_reg S fun S => ?_
  refine sy_call1 S (sane4 w (S.fact (f := rfSg) (by simp))) (by kernel_rfl) fun aa w hb1 S => ?_
  refine sy_run ⟨0, [2]⟩ 60 S fun bs aa w S => ?_
  refine sy_reg S fun S => ?_
  refine sy_ops 3 S fun bs aa w S => ?_
  by_cases hn : ts.length ≤ 100
  case neg =>
    refine sy_cast 8 S (congrArg Value.bool (decide_eq_true (by omega) : decide ((ts.length : Int) > 100) = true)) (by kernel_rfl) fun S => ?_
    refine sy_run ⟨0, []⟩ 60 S fun bs aa w S => ?_
    exact sy_ret S (by kernel_rfl) (by kernel_rfl) fun hg => ⟨rfl, bel_gr hg⟩
  refine sy_cast 8 S (congrArg Value.bool (decide_eq_false (by omega) : decide ((ts.length : Int) > 100) = false)) (by kernel_rfl) fun S => ?_
  refine sy_run ⟨0, []⟩ 60 S fun bs aa w S => ?_
  have S := S.sub (F' := [rfTq b o ts]) (by intro f hf; simp only [List.mem_singleton] at hf; subst hf; simp)
  have S2 := S.to [] (lsS a ts.length c 0) (by kernel_rfl) (by kernel_rfl) (by kernel_rfl) (by kernel_rfl) (by kernel_rfl)
  refine sy_loop (ts.length + 1) (by kernel_rfl) ?_
  refine sy_at2 (k' := (.rnd (ts.length + 1) (bodyL lsC) :: lsC.k.tail)) (by kernel_rfl) ?_
  exact ls_a w0 ts a c b o ha hbo hn h256 ts.length 0 (by omega) (fun j hj => absurd hj (Nat.not_lt_zero _)) aa w S2
end Go.Proofs.YthkgmahkmflfkaaDoor
