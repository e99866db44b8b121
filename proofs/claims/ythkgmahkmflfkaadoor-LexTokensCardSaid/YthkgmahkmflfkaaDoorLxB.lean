
/-
  Layer 4: the text of tokens.
-/
import Derived.Test.YthkgmahkmflfkaaDoorRows
import Derived.Test.YthkgmahkmflfkaaDoorBase
import Derived.Test.YthkgmahkmflfkaaDoorLxA
import Derived.Test.YthkgmahkmflfkaaDoorShL
import Derived.Laws.MakeOwn
import Derived.WalkKit
namespace Go.Proofs.YthkgmahkmflfkaaDoor
open Go Go.RowKit SZ
set_option linter.unusedVariables false
set_option linter.unusedSimpArgs false
set_option maxRecDepth 100000
attribute [local irreducible] post GD Nxt NxtAll
/-- The spellings, a space between. -/
def shL (ts : List Tk) : List Nat := [32].intercalate (ts.map fun t => t.2.1)
theorem inter_map (f : Nat → UInt8) (s : List Nat) : ∀ xs : List (List Nat), (s.intercalate xs).map f = (s.map f).intercalate (xs.map fun x => x.map f)
  | [] => rfl
  | [x] => by simp [List.intercalate]
  | x :: y :: r => by
    have ih := inter_map f s (y :: r)
    simp only [List.intercalate] at ih ⊢
    simp only [List.map_cons, List.intersperse_cons_cons, List.flatten_cons, List.map_append] at ih ⊢
    rw [ih]
def spV (ts : List Tk) : List Value := ts.map fun t => .string (strOf t.2.1)
theorem spV_snoc (ts : List Tk) (t : Tk) : spV (ts ++ [t]) = spV ts ++ [.string (strOf t.2.1)] := by simp [spV]
theorem infStr : (Tryd.prog.info? 9).map (fun i => (i.zero, i.size, i.bytes)) = some (some (.string ByteArray.empty), 1, 16) := by kernel_rfl
theorem join_t (w : World) (ts : List Tk) (v : Value) (hb : (shL ts).length ≤ 100000000) (hn : ts.length ≤ 100000) (h : w.ownsRow 0 9 1 v ts.length (spV ts)) (hw : ∀ g, v.ownBlock = some g → g < w.heap.size) : Calls Tryd.prog 23 #[v, .string (strOf [32])] w fun e w' => e = .returned (.string (strOf (shL ts))) ∧ Below w.heap.size w w' := by
  have h0 := h
  by_cases hz : ts.length = 0
  · obtain rfl := List.eq_nil_of_length_eq_zero hz
    rcases h.2 with ⟨rfl, _⟩ | ⟨g, cap, cur, rfl, _⟩
    · exact (Tryd.strings_Join_none none 0 (strOf [32]) w).mono fun e w' ⟨h1, h2⟩ => ⟨h1, by rw [h2]; exact Below.refl _ _⟩
    · exact (Tryd.strings_Join_none (some ⟨g, 0, none⟩) cap (strOf [32]) w).mono fun e w' ⟨h1, h2⟩ => ⟨h1, by rw [h2]; exact Below.refl _ _⟩
  · rcases h.2 with ⟨_, hz2⟩ | ⟨g, cap, cur, rfl, hb0, hg, hnc, hc, _, _⟩
    · exact absurd hz2 hz
    · have hd : ∀ l : List Nat, (strOf l).data.toList = l.map UInt8.ofNat := fun l => by simp [strOf]
      have hj : Lib.join ((ts.map fun t => strOf t.2.1).map (·.data.toList)) (strOf [32]).data.toList = (shL ts).map UInt8.ofNat := by
        unfold shL Lib.join
        rw [inter_map, hd, List.map_map, List.map_map]
        congr 1
      have hx := Tryd.strings_Join g 0 cap (ts.map fun t => strOf t.2.1) (strOf [32]) w (fun j x hx => by
        have hjl : j < ts.length := by
          have := (List.getElem?_eq_some_iff.1 hx).1
          simpa using this
        rw [Nat.zero_add, h0.cellAt j (by omega)]
        unfold spV
        rw [List.getElem?_map] at hx ⊢
        rw [List.getElem?_eq_getElem hjl] at hx ⊢
        simp only [Option.map_some, Option.some.injEq] at hx ⊢
        rw [hx]) (hw g rfl) (by rw [List.length_map]; omega) (by rw [List.length_map]; exact hnc) (by rw [hj, List.length_map]; omega)
      rw [hj, List.length_map] at hx
      exact hx
noncomputable def shC : Cfg := ⟨goZ 60 [] [.code (bodyOf Tryd.f13)], ⟨0, [], []⟩⟩
noncomputable def shS (a : Option Addr) (n c : Nat) (v : Value) (i : Nat) : SS := ⟨23, [(3, .v v), (9, .v (.slice a n c)), (10, .v (.int .i64 (n : Int))), (11, .v (.int .i64 (i : Int)))], []⟩
set_option maxHeartbeats 8000000 in
theorem sh_e (w0 : World) (ts : List Tk) (a : Option Addr) (c b o : Nat) (ha : ts.length = 0 ∨ a = some ⟨b, o, none⟩) (hn : ts.length ≤ 100000) (hb : (shL ts).length ≤ 100000000) (hbo : ts.length = 0 ∨ b < w0.heap.size) (m : Nat) (v : Value) (aa : Act) (w : World) (S : Sy w0 [] [] (shS a ts.length c v (ts.length)) [rfOwn w0.heap.size 9 1 v (ts.length) (spV (ts.take (ts.length))), rfTk b o ts] aa w) : post Tryd.prog (.rnd (m + 1) (bodyL shC) :: shC.k.tail) (bodyPost Tryd.prog Tryd.f13 (fun e w' => e = .returned (.string (strOf (shL ts))) ∧ Below w0.heap.size w0 w')) .normal aa w := by
  refine sy_run (c := ⟨(.rnd (m + 1) (bodyL shC) :: shC.k.tail), shS a ts.length c v ts.length⟩) ⟨0, [3]⟩ 50 S fun bs aa w S => ?_
  refine sy_reg S fun S => ?_
  refine sy_ops 1 S fun bs aa w S => ?_
  refine sy_cast 12 S (congrArg Value.bool (decide_eq_false (by omega) : decide ((ts.length : Int) < (ts.length : Int)) = false)) (by kernel_rfl) fun S => ?_
  refine sy_run ⟨0, [7]⟩ 60 S fun bs aa w S => ?_
  refine sy_reg S fun S => ?_
  refine sy_ops 1 S fun bs aa w S => ?_
  have how : w.ownsRow w0.heap.size 9 1 v ts.length (spV (ts.take ts.length)) := S.fact (f := rfOwn w0.heap.size 9 1 v (ts.length) (spV (ts.take (ts.length)))) (by simp)
  rw [List.take_length] at how
  refine sy_call1 S (join_t w ts v hb hn (owns_mono how (Nat.zero_le _)) (fun g hg => (how.lt g hg).2)) (by kernel_rfl) fun aa w hb2 S => ?_
  refine sy_run ⟨0, []⟩ 60 S fun bs aa w S => ?_
  exact sy_ret S (by kernel_rfl) (by kernel_rfl) fun hg => ⟨rfl, bel_gr hg⟩
set_option maxHeartbeats 8000000 in
theorem sh_s (w0 : World) (ts : List Tk) (a : Option Addr) (c b o : Nat) (ha : ts.length = 0 ∨ a = some ⟨b, o, none⟩) (hn : ts.length ≤ 100000) (hb : (shL ts).length ≤ 100000000) (hbo : ts.length = 0 ∨ b < w0.heap.size) (m i : Nat) (hi : i < ts.length) (v : Value) (ih : ∀ (v2 : Value) (aa : Act) (w : World) (S : Sy w0 [] [] (shS a ts.length c v2 (i + 1)) [rfOwn w0.heap.size 9 1 v2 (i + 1) (spV (ts.take (i + 1))), rfTk b o ts] aa w), post Tryd.prog (.rnd (m) (bodyL shC) :: shC.k.tail) (bodyPost Tryd.prog Tryd.f13 (fun e w' => e = .returned (.string (strOf (shL ts))) ∧ Below w0.heap.size w0 w')) .normal aa w) (aa : Act) (w : World) (S : Sy w0 [] [] (shS a ts.length c v (i)) [rfOwn w0.heap.size 9 1 v (i) (spV (ts.take (i))), rfTk b o ts] aa w) : post Tryd.prog (.rnd (m + 1) (bodyL shC) :: shC.k.tail) (bodyPost Tryd.prog Tryd.f13 (fun e w' => e = .returned (.string (strOf (shL ts))) ∧ Below w0.heap.size w0 w')) .normal aa w := by
  have htk : ts.take (i + 1) = ts.take i ++ [(ts.getD i tk0)] := by
    rw [List.take_succ_eq_append_getElem hi]
    simp [List.getD, List.getElem?_eq_getElem hi]
  refine sy_run (c := ⟨(.rnd (m + 1) (bodyL shC) :: shC.k.tail), shS a ts.length c v i⟩) ⟨0, [3]⟩ 50 S fun bs aa w S => ?_
  refine sy_reg S fun S => ?_
  refine sy_ops 1 S fun bs aa w S => ?_
  refine sy_cast 12 S (congrArg Value.bool (decide_eq_true (by omega) : decide ((i : Int) < (ts.length : Int)) = true)) (by kernel_rfl) fun S => ?_
  refine sy_run ⟨0, [4]⟩ 60 S fun bs aa w S => ?_
  refine sy_reg S fun S => ?_
  refine sy_ix (b := b) (off := o) (len := ts.length) (n := i) (size := 4) (i := (i : Int)) S (by rw [← ha.resolve_left (by omega)]; kernel_rfl) rfl hi fun aa S => ?_
  refine sy_ldo S (ld_tk (j := i) (ts := ts) (S.fact (f := rfTk b o ts) (by simp)) hi) (by kernel_rfl) fun aa S => ?_
  refine sy_cast 14 S (show tkA (ts.getD i tk0) = .agg #[.int .i64 ((ts.getD i tk0).1 : Int), .string (strOf (ts.getD i tk0).2.1), .int .i64 ((ts.getD i tk0).2.2.1 : Int), .int .i64 ((ts.getD i tk0).2.2.2 : Int)] from rfl) (by kernel_rfl) fun S => ?_
  refine sy_run ⟨0, [5]⟩ 60 S fun bs aa w S => ?_
  refine sy_reg S fun S => ?_
  refine sy_ops 4 S fun bs aa w S => ?_
  refine sy_nm S fun bs S => ?_
  obtain ⟨ii, hi1, hi2, hi3, hi4⟩ := parts3 infStr
  have how : w.ownsRow w0.heap.size 9 1 v i (spV (ts.take i)) := S.fact (f := rfOwn w0.heap.size 9 1 v (i) (spV (ts.take (i)))) (by simp)
  have hapb := (S.fs (rfOwn w0.heap.size 9 1 v (i) (spV (ts.take (i)))) (by simp)).2
  have hblk : ∀ j, j < bs.length → bs.getD j 0 < w.heap.size := fun j hj => S.lt hj
  refine sy_appO w0.heap.size (u := .v v) (y := .s 1 0 1 1) (v := v) (ad := adr bs 1 0) (m := 1) (cp := 1) (n := i) (size := 1) (bytes := 16) (e := 9) (t := 34) (xs := spV (ts.take i)) (news := [.string (strOf (ts.getD i tk0).2.1)]) [rfTk b o ts] S (by kernel_rfl) Tryd.underlying34 hi1 hi2 hi3 hi4 rfl (by omega) rfl rfl how S.gr.size (own3 (P := Tryd.prog) (ty := 9) (cs := [.string (strOf (ts.getD i tk0).2.1)]) S 1 (by kernel_rfl)) rfl (by intro u hu; simp only [List.mem_singleton] at hu; subst hu; rfl) (by simp only [maxLen]; omega) (by omega)
    (fun g hg => Or.inr (how.lt g hg).1) (fun f hf => ⟨by simp only [List.mem_singleton] at hf; subst hf; simp, fun g hg hbl => by
      simp only [List.mem_singleton] at hf
      subst hf
      have h1 := (how.lt g hg).1
      have h2 : g = b := hbl.1
      have h3 := hbo.resolve_left (by omega)
      omega⟩) (fun j hj hb => hapb j hj hb)
    fun v' aa w2 hO hg' hnn S => ?_
  have S := S.add (rfOwn w0.heap.size 9 1 v' (i + 1) (spV (ts.take (i + 1)))) (by rw [htk, spV_snoc]; exact hO) (fun j hj hb => (hnn _ hb).elim (fun q => hapb j hj q) (fun q => by have := hblk j hj; omega))
  refine sy_run ⟨0, [6]⟩ 60 S fun bs aa w S => ?_
  refine sy_reg S fun S => ?_
  refine sy_ops 1 S fun bs aa w S => ?_
  refine sy_cast 20 S (congrArg (Value.int .i64) (by rw [IntKind.wrap_i64]; omega : IntKind.i64.wrap ((i : Int) + 1) = ((i + 1 : Nat) : Int))) (by kernel_rfl) fun S => ?_
  refine sy_run ⟨0, [999]⟩ 50 S fun bs aa w S => ?_
  have S := S.sub (F' := [rfOwn w0.heap.size 9 1 v' (i + 1) (spV (ts.take (i + 1))), rfTk b o ts]) (by intro f hf; simp only [List.mem_cons, List.not_mem_nil, or_false] at hf; rcases hf with rfl | rfl <;> simp)
  have S2 := S.to [] (shS a ts.length c v' (i + 1)) (by kernel_rfl) (by kernel_rfl) (by kernel_rfl) (by kernel_rfl) (by kernel_rfl)
  refine sy_at2 (k' := (.rnd (m) (bodyL shC) :: shC.k.tail)) (by kernel_rfl) ?_
  exact ih v' aa w S2
theorem sh_a (w0 : World) (ts : List Tk) (a : Option Addr) (c b o : Nat) (ha : ts.length = 0 ∨ a = some ⟨b, o, none⟩) (hn : ts.length ≤ 100000) (hb : (shL ts).length ≤ 100000000) (hbo : ts.length = 0 ∨ b < w0.heap.size) : ∀ (m i : Nat), i + m = ts.length → ∀ (v : Value) (aa : Act) (w : World) (S : Sy w0 [] [] (shS a ts.length c v (i)) [rfOwn w0.heap.size 9 1 v (i) (spV (ts.take (i))), rfTk b o ts] aa w), post Tryd.prog (.rnd (m + 1) (bodyL shC) :: shC.k.tail) (bodyPost Tryd.prog Tryd.f13 (fun e w' => e = .returned (.string (strOf (shL ts))) ∧ Below w0.heap.size w0 w')) .normal aa w := by
  intro m
  induction m with
  | zero => intro i hi v aa w S; obtain rfl : i = ts.length := by omega
            exact sh_e w0 ts a c b o ha hn hb hbo 0 v aa w S
  | succ m ih => intro i hi v aa w S; exact sh_s w0 ts a c b o ha hn hb hbo (m + 1) i (by omega) v (fun v2 aa w S => ih (i + 1) (by omega) v2 aa w S) aa w S
set_option maxHeartbeats 8000000 in
theorem show_t (w0 : World) (ts : List Tk) (a : Option Addr) (c b o : Nat) (ha : ts.length = 0 ∨ a = some ⟨b, o, none⟩) (hn : ts.length ≤ 100000) (hb : (shL ts).length ≤ 100000000) (hbo : ts.length = 0 ∨ b < w0.heap.size) (hT : TkAt w0 b o ts) : Calls Tryd.prog 13 #[.slice a ts.length c] w0 (fun e w' => e = .returned (.string (strOf (shL ts))) ∧ Below w0.heap.size w0 w') := by
  refine sy_enterF [] [rfTk b o ts] (by intro f hf; simp only [List.mem_singleton] at hf; subst hf; exact hT) Tryd.func13 rfl rfl fun aa S => ?_
  refine sy_run ⟨0, [1]⟩ 60 S fun bs aa w S => ?_
  refine sy_reg S fun S => ?_
  refine sy_ops 2 S fun bs aa w S => ?_
  refine sy_nm S fun bs S => ?_
  have hs0 := S.gr.size
  have hlt := fun i hi => S.lt (i := i) hi
  obtain ⟨ii, hi1, hi2, hi3, hi4⟩ := parts3 infStr
  refine sy_exB (op := .makeSlice 34 (.const (.int .i64 0)) (.tmp 7)) (ty := 34) (C := fun v w' => v = .slice (some ⟨w.heap.size, 0, none⟩) 0 ts.length ∧ w'.ownsRow w0.heap.size 9 1 v 0 []) S (by kernel_rfl) (fun op ρ h1 h2 h3 => by
    have e2 : ρ (.tmp 7) = .int .i64 (ts.length : Int) := h3 (.tmp 7) (.v (.int .i64 (ts.length : Int))) (by kernel_rfl)
    have e1 : ρ (.const (.int .i64 0)) = .int .i64 0 := h3 (.const (.int .i64 0)) (.v (.int .i64 0)) (by kernel_rfl)
    obtain ⟨w', q1, q2, q3⟩ := run_make_own (P := Tryd.prog) w w0.heap.size 34 9 ii _ 1 Tryd.underlying34 hi1 hi2 hi3 .i64 .i64 ts.length (by rw [hi4]; omega) (by unfold maxLen; omega) hs0
    refine ⟨_, w', ?_, ⟨rfl, q2⟩, ⟨q3.os, q3.tape, q3.output, q3.size, fun k hk => q3.block k hk (by simp)⟩⟩
    unfold execOp
    simp only [h1, e1, e2, Sem.run_bind, Sem.run_pure, Result.andThen_ok, q1]) fun v aa w1 hC hb0 S => ?_
  obtain ⟨rfl, hO⟩ := hC
  have S := S.add (rfOwn w0.heap.size 9 1 (.slice (some ⟨w.heap.size, 0, none⟩) 0 ts.length) 0 (spV (ts.take 0))) hO (fun i hi hbl => by have h1 := hlt i hi; have h2 : some w.heap.size = some _ := hbl; simp only [Option.some.injEq] at h2; omega)
  generalize w.heap.size = g at S
  refine sy_run ⟨0, []⟩ 60 S fun bs aa w S => ?_
  have S := S.sub (F' := [rfOwn w0.heap.size 9 1 (.slice (some ⟨g, 0, none⟩) 0 ts.length) (0) (spV (ts.take (0))), rfTk b o ts]) (by intro f hf; simp only [List.mem_cons, List.not_mem_nil, or_false] at hf; rcases hf with rfl | rfl <;> simp)
  have S2 := S.to [] (shS a ts.length c (.slice (some ⟨g, 0, none⟩) 0 ts.length) 0) (by kernel_rfl) (by kernel_rfl) (by kernel_rfl) (by kernel_rfl) (by kernel_rfl)
  refine sy_loop (ts.length + 1) (by kernel_rfl) ?_
  refine sy_at2 (k' := (.rnd (ts.length + 1) (bodyL shC) :: shC.k.tail)) (by kernel_rfl) ?_
  exact sh_a w0 ts a c b o ha hn hb hbo ts.length 0 (by omega) _ aa w S2
end Go.Proofs.YthkgmahkmflfkaaDoor
