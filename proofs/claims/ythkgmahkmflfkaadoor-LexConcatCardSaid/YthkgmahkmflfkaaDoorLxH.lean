
/-
  Layer 4: LexConcat.
-/
import Derived.Test.YthkgmahkmflfkaaDoorRows
import Derived.Test.YthkgmahkmflfkaaDoorBase
import Derived.Test.YthkgmahkmflfkaaDoorLxG
import Derived.WalkKit
namespace Go.Proofs.YthkgmahkmflfkaaDoor
open Go Go.RowKit SZ
set_option linter.unusedVariables false
set_option linter.unusedSimpArgs false
set_option maxRecDepth 100000
attribute [local irreducible] post GD Nxt NxtAll
def spN (n : Nat) : Nat := if n = 0 then 32 else if n = 1 then 9 else 10
theorem spN_sp (n : Nat) : spcB (spN n) = true := by
  unfold spN
  split
  · rfl
  · split <;> rfl
theorem spN_256 (n : Nat) : spN n < 256 := by
  unfold spN
  split
  · decide
  · split <;> decide
def rfSp (g : Nat) : RF := ⟨fun b => b = g, fun w => ∀ j, j < 3 → w.cell? ⟨g, j, none⟩ = some (.string (strOf [spN j])), fun w h b hb => by subst hb; exact World.block_lt_of_cell? w _ (h 0 (by decide)), fun w w' h hb j hj => (World.cell?_of_block (a := ⟨g, j, none⟩) (hb g rfl)).trans (h j hj)⟩
theorem tkC_len (ts : List Tk) : (tkC ts).length = ts.length * 4 := by
  induction ts with
  | nil => rfl
  | cons t r ih =>
    have e : tkC (t :: r) = [.int .i64 (t.1 : Int), .string (strOf t.2.1), .int .i64 (t.2.2.1 : Int), .int .i64 (t.2.2.2 : Int)] ++ tkC r := rfl
    rw [e, List.length_append, ih, List.length_cons]
    simp only [List.length_cons, List.length_nil]
    omega
theorem tkAt_cell {w : World} {b : Nat} {ts : List Tk} (h : TkAt w b 0 ts) (j : Nat) (v : Value) (hj : (tkC ts)[j]? = some v) : w.cell? ⟨b, j, none⟩ = some v := by
  have hl := (List.getElem?_eq_some_iff.1 hj).1
  rw [tkC_len] at hl
  have hq : j / 4 < ts.length := by omega
  obtain ⟨q1, q2, q3, q4⟩ := tkC_at ts (j / 4) hq
  obtain ⟨p1, p2, p3, p4⟩ := h (j / 4) hq
  rw [Nat.zero_add] at p1 p2 p3 p4
  have hm : j % 4 = 0 ∨ j % 4 = 1 ∨ j % 4 = 2 ∨ j % 4 = 3 := by omega
  rcases hm with m | m | m | m
  · rw [show j = j / 4 * 4 by omega] at hj ⊢; rw [← hj, q1]; exact p1
  · rw [show j = j / 4 * 4 + 1 by omega] at hj ⊢; rw [← hj, q2]; exact p2
  · rw [show j = j / 4 * 4 + 2 by omega] at hj ⊢; rw [← hj, q3]; exact p3
  · rw [show j = j / 4 * 4 + 3 by omega] at hj ⊢; rw [← hj, q4]; exact p4
theorem ex_appT {s : SS} {bs : List Nat} {w : World} {x y : Operand} {B0 gz lc lb : Nat} {la : Option Addr} {ts : List Tk} (hx : s.val x = some (.v (.slice (some ⟨gz, 0, none⟩) 0 0))) (hy : s.val y = some (.v (.slice la ts.length lc))) (hla : ts.length = 0 ∨ la = some ⟨lb, 0, none⟩) (hnil : la = none → lc = 0) (hB : TkAt w lb 0 ts) (hl : ts.length ≤ 1000) (hgz : w.heap[gz]? = some (.cells #[] 30 (0, 0))) (hB0 : B0 ≤ gz) (hBw : B0 ≤ w.heap.size) :
    ∀ (o : Oper) (ρ : Operand → Value), o.op = .call { callee := .builtin .append, args := #[x, y], argTypes := #[23, 23] } → o.type = 23 → (∀ x y, s.val x = some y → ρ x = den bs y) → ∃ v w', (execOp ρ o).run Tryd.prog w = .ok (.value v) w' ∧ (w'.ownsRow B0 30 4 v ts.length (tkC ts) ∧ ∀ g, v.ownBlock = some g → g = gz ∨ w.heap.size ≤ g) ∧ Below w.heap.size w w' := by
  intro o ρ h1 h2 h3
  by_cases h0 : ts.length = 0
  · obtain rfl := List.eq_nil_of_length_eq_zero h0
    exact ⟨_, w, ex_app0 (e := 30) (so := la) (cp := lc) Tryd.underlying23 (by kernel_rfl) hx hy hnil o ρ w h1 h2 h3, ⟨⟨rfl, Or.inr ⟨gz, 0, #[], rfl, hB0, hgz, Nat.le_refl _, by unfold maxLen; omega, rfl, rfl⟩⟩, fun g hg => Or.inl (by simpa [Value.ownBlock] using hg.symm)⟩, Below.refl _ _⟩
  · obtain rfl := hla.resolve_left h0
    obtain ⟨ii, hi1, hi2, hi3, hi4⟩ := parts3 infTok
    obtain ⟨v, w', q1, q2, q3⟩ := ex_appN (w := w) (e := 30) (b := some ⟨gz, 0, none⟩) (ad := ⟨lb, 0, none⟩) (m := ts.length) (cp := lc) (size := 4) (bytes := 40) (news := tkC ts) Tryd.underlying23 hi1 hi2 hi3 hi4 rfl hx rfl hy (by omega) (fun j v hj => by
      have ea : (⟨lb, 0, none⟩ : Addr).add j = ⟨lb, j, none⟩ := (Addr.add_mid lb 0 j).trans (by rw [Nat.zero_add])
      rw [ea]
      exact tkAt_cell hB j v hj) (tkC_len ts) (by omega) (by omega) o ρ h1 h2 h3
    exact ⟨v, w', q1, ⟨owns_mono q2 hBw, fun g hg => Or.inr (World.ownsRow.lt q2 g hg).1⟩, q3⟩
theorem lexF_at : ∀ (f : Nat) (l : List Nat) (a : Nat) (ts : List Tk), lexF f l a = some ts → ∀ t ∈ ts, t.2.2.2 ≤ a + l.length
  | 0, l, a, ts, h, t, ht => by
    have h : some [] = some ts := h
    cases h
    cases ht
  | f + 1, [], a, ts, h, t, ht => by
    have h : some [] = some ts := h
    cases h
    cases ht
  | f + 1, c :: r, a, ts, h, t, ht => by
    unfold lexF at h
    split at h
    · have := lexF_at f r (a + 1) ts h t ht
      rw [List.length_cons]
      omega
    · cases hk : tokL (c :: r) with
      | none => rw [hk] at h; cases h
      | some tk =>
        rw [hk] at h
        simp only at h
        obtain ⟨q, hq, hq2⟩ := Option.map_eq_some_iff.1 h
        subst hq2
        rcases List.mem_cons.1 ht with rfl | ht
        · simp only; omega
        · have h1 := lexF_at f _ _ q hq t ht
          have h2 := tokL_len hk
          rw [List.length_drop] at h1
          omega
noncomputable def ctC : Cfg := ⟨goZ 200 [0, 0] [.code (bodyOf Tryd.f7)], ⟨0, [], []⟩⟩
noncomputable def ct5K : List It := goM 200 4 [0] [.code (bodyOf Tryd.f7)]
noncomputable def ct5S (a b : List Nat) (k g : Nat) : SS := ⟨102, [(0, .v (.string (strOf a))), (1, .v (.string (strOf b))), (2, .v (.int .u8 (k : Int))), (7, .v (.bool true)), (8, .v (.slice (some ⟨g, 0, none⟩) 3 3))], []⟩
noncomputable def ctS (a : List Nat) (qy qz : Option Addr × Nat × Nat × Nat) (n1 n2 : Nat) (v : Value) (i : Nat) : SS := ⟨102, [(0, .v (.string (strOf a))), (7, .v (.bool true)), (11, .v (.slice qy.1 n1 qy.2.1)), (13, .v (.slice qz.1 n2 qz.2.1)), (14, .v (.int .i64 0)), (15, .v v), (16, .v (.int .i64 (i : Int)))], []⟩
set_option maxHeartbeats 8000000 in
theorem ct_e (w0 : World) (a : List Nat) (ha6 : a.length ≤ 600) (ts us W : List Tk) (hW : W = ts ++ us.map (shT (a.length + 1))) (ht6 : ts.length ≤ 600) (hu6 : us.length ≤ 600) (hua : ∀ t ∈ us, t.2.2.2 ≤ 600) (hW256 : ∀ t ∈ W, ∀ b ∈ t.2.1, b < 256) (qy qz : Option Addr × Nat × Nat × Nat) (hy : us.length = 0 ∨ qy.1 = some ⟨qy.2.2.1, 0, none⟩) (hz : W.length = 0 ∨ qz.1 = some ⟨qz.2.2.1, 0, none⟩) (m : Nat) (v : Value) (hv1 : ∀ g, Value.ownBlock v = some g → us.length ≠ 0 → g ≠ qy.2.2.1) (hv2 : ∀ g, Value.ownBlock v = some g → W.length ≠ 0 → g ≠ qz.2.2.1) (aa : Act) (w : World) (S : Sy w0 [] [] (ctS a qy qz us.length W.length v (us.length)) [rfOwn w0.heap.size 30 4 v (ts.length + (us.length)) (tkC (ts ++ (us.take (us.length)).map (shT (a.length + 1)))), rfTk qy.2.2.1 0 us, rfTk qz.2.2.1 0 W] aa w) : post Tryd.prog (.rnd (m + 1) (bodyL ctC) :: ctC.k.tail) (bodyPost Tryd.prog Tryd.f7 (fun e w' => e = .returned (.bool true) ∧ Below w0.heap.size w0 w')) .normal aa w := by
  have how : w.ownsRow w0.heap.size 30 4 v (ts.length + us.length) (tkC (ts ++ (us.take us.length).map (shT (a.length + 1)))) := S.fact (f := rfOwn w0.heap.size 30 4 v (ts.length + (us.length)) (tkC (ts ++ (us.take (us.length)).map (shT (a.length + 1))))) (by simp)
  rw [List.take_length, ← hW, show ts.length + us.length = W.length by rw [hW, List.length_append, List.length_map]] at how
  obtain ⟨la, lc, lb, rfl, g1, g2, g3, g4⟩ := tk_of how
  have S := S.add (rfTk lb 0 W) g2 (fun i hi hb => absurd hi (Nat.not_lt_zero _))
  refine sy_run (c := ⟨(.rnd (m + 1) (bodyL ctC) :: ctC.k.tail), ctS a qy qz us.length W.length (.slice la W.length lc) us.length⟩) ⟨0, [12]⟩ 50 S fun bs aa w S => ?_
  refine sy_reg S fun S => ?_
  refine sy_ops 4 S fun bs aa w S => ?_
  refine sy_cast 74 S (congrArg Value.bool (decide_eq_false (by omega) : decide ((us.length : Int) < (us.length : Int)) = false)) (by kernel_rfl) fun S => ?_
  refine sy_run ⟨0, [17]⟩ 60 S fun bs aa w S => ?_
  refine sy_reg S fun S => ?_
  refine sy_ops 8 S fun bs aa w S => ?_
  have hX : TkAt w qz.2.2.1 0 W := S.fact (f := rfTk qz.2.2.1 0 W) (by simp)
  have hY : TkAt w lb 0 W := S.fact (f := rfTk lb 0 W) (by simp)
  refine sy_call1 S (by have q := same_t w W W qz.1 la qz.2.1 lc qz.2.2.1 0 lb 0 hz g1 (by rw [hW, List.length_append, List.length_map]; omega) hW256 hW256 hX hY; rw [decide_eq_true rfl] at q; exact q) (by kernel_rfl) fun aa w hb S => ?_
  refine sy_run ⟨0, []⟩ 60 S fun bs aa w S => ?_
  exact sy_ret S (by kernel_rfl) (by kernel_rfl) fun hg => ⟨rfl, bel_gr hg⟩
set_option maxHeartbeats 8000000 in
theorem ct_s (w0 : World) (a : List Nat) (ha6 : a.length ≤ 600) (ts us W : List Tk) (hW : W = ts ++ us.map (shT (a.length + 1))) (ht6 : ts.length ≤ 600) (hu6 : us.length ≤ 600) (hua : ∀ t ∈ us, t.2.2.2 ≤ 600) (hW256 : ∀ t ∈ W, ∀ b ∈ t.2.1, b < 256) (qy qz : Option Addr × Nat × Nat × Nat) (hy : us.length = 0 ∨ qy.1 = some ⟨qy.2.2.1, 0, none⟩) (hz : W.length = 0 ∨ qz.1 = some ⟨qz.2.2.1, 0, none⟩) (m i : Nat) (hi : i < us.length) (v : Value) (hv1 : ∀ g, Value.ownBlock v = some g → us.length ≠ 0 → g ≠ qy.2.2.1) (hv2 : ∀ g, Value.ownBlock v = some g → W.length ≠ 0 → g ≠ qz.2.2.1) (ih : ∀ (v2 : Value) (hv1 : ∀ g, Value.ownBlock v2 = some g → us.length ≠ 0 → g ≠ qy.2.2.1) (hv2 : ∀ g, Value.ownBlock v2 = some g → W.length ≠ 0 → g ≠ qz.2.2.1) (aa : Act) (w : World) (S : Sy w0 [] [] (ctS a qy qz us.length W.length v2 (i + 1)) [rfOwn w0.heap.size 30 4 v2 (ts.length + (i + 1)) (tkC (ts ++ (us.take (i + 1)).map (shT (a.length + 1)))), rfTk qy.2.2.1 0 us, rfTk qz.2.2.1 0 W] aa w), post Tryd.prog (.rnd (m) (bodyL ctC) :: ctC.k.tail) (bodyPost Tryd.prog Tryd.f7 (fun e w' => e = .returned (.bool true) ∧ Below w0.heap.size w0 w')) .normal aa w) (aa : Act) (w : World) (S : Sy w0 [] [] (ctS a qy qz us.length W.length v (i)) [rfOwn w0.heap.size 30 4 v (ts.length + (i)) (tkC (ts ++ (us.take (i)).map (shT (a.length + 1)))), rfTk qy.2.2.1 0 us, rfTk qz.2.2.1 0 W] aa w) : post Tryd.prog (.rnd (m + 1) (bodyL ctC) :: ctC.k.tail) (bodyPost Tryd.prog Tryd.f7 (fun e w' => e = .returned (.bool true) ∧ Below w0.heap.size w0 w')) .normal aa w := by
  have hta : (us.getD i tk0).2.2.2 ≤ 600 := hua _ (getD_mem us i tk0 hi)
  have htk : ts ++ (us.take (i + 1)).map (shT (a.length + 1)) = (ts ++ (us.take i).map (shT (a.length + 1))) ++ [(shT (a.length + 1) (us.getD i tk0))] := by
    rw [List.take_succ_eq_append_getElem hi, List.map_append, ← List.append_assoc]
    simp [List.getD, List.getElem?_eq_getElem hi]
  refine sy_run (c := ⟨(.rnd (m + 1) (bodyL ctC) :: ctC.k.tail), ctS a qy qz us.length W.length v i⟩) ⟨0, [12]⟩ 50 S fun bs aa w S => ?_
  refine sy_reg S fun S => ?_
  refine sy_ops 4 S fun bs aa w S => ?_
  refine sy_cast 74 S (congrArg Value.bool (decide_eq_true (by omega) : decide ((i : Int) < (us.length : Int)) = true)) (by kernel_rfl) fun S => ?_
  refine sy_run ⟨0, [14]⟩ 60 S fun bs aa w S => ?_
  refine sy_reg S fun S => ?_
  refine sy_ops 2 S fun bs aa w S => ?_
  refine sy_ix (b := qy.2.2.1) (off := 0) (len := us.length) (n := i) (size := 4) (i := (i : Int)) S (by rw [← hy.resolve_left (by omega)]; kernel_rfl) rfl hi fun aa S => ?_
  refine sy_ldo S (ld_tk (j := i) (ts := us) (S.fact (f := rfTk qy.2.2.1 0 us) (by simp)) hi) (by kernel_rfl) fun aa S => ?_
  refine sy_cast 80 S (show tkA (us.getD i tk0) = .agg #[.int .i64 ((us.getD i tk0).1 : Int), .string (strOf (us.getD i tk0).2.1), .int .i64 ((us.getD i tk0).2.2.1 : Int), .int .i64 ((us.getD i tk0).2.2.2 : Int)] from rfl) (by kernel_rfl) fun S => ?_
  refine sy_run ⟨0, [15]⟩ 60 S fun bs aa w S => ?_
  refine sy_reg S fun S => ?_
  refine sy_ops 4 S fun bs aa w S => ?_
  refine sy_cast 84 S (congrArg (Value.int .i64) (by rw [strOf_size] : ((strOf a).size : Int) = (a.length : Int))) (by kernel_rfl) fun S => ?_
  refine sy_ops 1 S fun bs aa w S => ?_
  refine sy_cast 85 S (congrArg (Value.int .i64) (by rw [IntKind.wrap_i64]; omega : IntKind.i64.wrap (((us.getD i tk0).2.2.2 : Int) + (a.length : Int)) = (((us.getD i tk0).2.2.2 + a.length : Nat) : Int))) (by kernel_rfl) fun S => ?_
  refine sy_ops 1 S fun bs aa w S => ?_
  refine sy_cast 86 S (congrArg (Value.int .i64) (by rw [IntKind.wrap_i64]; omega : IntKind.i64.wrap ((((us.getD i tk0).2.2.2 + a.length : Nat) : Int) + 1) = (((us.getD i tk0).2.2.2 + (a.length + 1) : Nat) : Int))) (by kernel_rfl) fun S => ?_
  refine sy_run ⟨0, [16]⟩ 60 S fun bs aa w S => ?_
  refine sy_reg S fun S => ?_
  refine sy_ops 3 S fun bs aa w S => ?_
  refine sy_nm S fun bs S => ?_
  obtain ⟨ii, hi1, hi2, hi3, hi4⟩ := parts3 infTok
  have how : w.ownsRow w0.heap.size 30 4 v (ts.length + i) (tkC (ts ++ (us.take i).map (shT (a.length + 1)))) := S.fact (f := rfOwn w0.heap.size 30 4 v (ts.length + (i)) (tkC (ts ++ (us.take (i)).map (shT (a.length + 1))))) (by simp)
  have hapb := (S.fs (rfOwn w0.heap.size 30 4 v (ts.length + (i)) (tkC (ts ++ (us.take (i)).map (shT (a.length + 1))))) (by simp)).2
  have hblk : ∀ j, j < bs.length → bs.getD j 0 < w.heap.size := fun j hj => S.lt hj
  have hYf : TkAt w qy.2.2.1 0 us := S.fact (f := rfTk qy.2.2.1 0 us) (by simp)
  have hZf : TkAt w qz.2.2.1 0 W := S.fact (f := rfTk qz.2.2.1 0 W) (by simp)
  refine sy_appO w0.heap.size (u := .v v) (y := .s 1 0 1 1) (v := v) (ad := adr bs 1 0) (m := 1) (cp := 1) (n := ts.length + i) (size := 4) (bytes := 40) (e := 30) (t := 23) (xs := tkC (ts ++ (us.take i).map (shT (a.length + 1)))) (news := [.int .i64 ((us.getD i tk0).1 : Int), .string (strOf (us.getD i tk0).2.1), .int .i64 ((us.getD i tk0).2.2.1 : Int), .int .i64 (((us.getD i tk0).2.2.2 + (a.length + 1) : Nat) : Int)]) [rfTk qy.2.2.1 0 us, rfTk qz.2.2.1 0 W] S (by kernel_rfl) Tryd.underlying23 hi1 hi2 hi3 hi4 rfl (by omega) rfl rfl how S.gr.size (own3 (P := Tryd.prog) (ty := 30) (cs := [.int .i64 ((us.getD i tk0).1 : Int), .string (strOf (us.getD i tk0).2.1), .int .i64 ((us.getD i tk0).2.2.1 : Int), .int .i64 (((us.getD i tk0).2.2.2 + (a.length + 1) : Nat) : Int)]) S 1 (by kernel_rfl)) rfl (by intro u hu; simp only [List.mem_cons, List.not_mem_nil, or_false] at hu; rcases hu with rfl | rfl | rfl | rfl <;> rfl) (by simp only [maxLen]; omega) (by omega)
    (fun g hg => Or.inr (how.lt g hg).1) (fun f hf => ⟨by simp only [List.mem_cons, List.not_mem_nil, or_false] at hf ⊢; rcases hf with rfl | rfl <;> simp, fun g hg hbl => by
      simp only [List.mem_cons, List.not_mem_nil, or_false] at hf
      rcases hf with rfl | rfl
      · exact hv1 g hg hbl.2 hbl.1
      · exact hv2 g hg hbl.2 hbl.1⟩) (fun j hj hb => hapb j hj hb)
    fun v' aa w2 hO hg' hnn S => ?_
  have S := S.add (rfOwn w0.heap.size 30 4 v' (ts.length + (i + 1)) (tkC (ts ++ (us.take (i + 1)).map (shT (a.length + 1))))) (by rw [htk, tkC_snoc]; exact hO) (fun j hj hb => (hnn _ hb).elim (fun q => hapb j hj q) (fun q => by have := hblk j hj; omega))
  refine sy_run ⟨0, [13]⟩ 60 S fun bs aa w S => ?_
  refine sy_reg S fun S => ?_
  refine sy_ops 2 S fun bs aa w S => ?_
  refine sy_cast 76 S (congrArg (Value.int .i64) (by rw [IntKind.wrap_i64]; omega : IntKind.i64.wrap ((i : Int) + 1) = ((i + 1 : Nat) : Int))) (by kernel_rfl) fun S => ?_
  refine sy_run ⟨0, [999]⟩ 50 S fun bs aa w S => ?_
  have S := S.sub (F' := [rfOwn w0.heap.size 30 4 v' (ts.length + (i + 1)) (tkC (ts ++ (us.take (i + 1)).map (shT (a.length + 1)))), rfTk qy.2.2.1 0 us, rfTk qz.2.2.1 0 W]) (by intro f hf; simp only [List.mem_cons, List.not_mem_nil, or_false] at hf; rcases hf with rfl | rfl | rfl <;> simp)
  have S2 := S.to [] (ctS a qy qz us.length W.length v' (i + 1)) (by kernel_rfl) (by kernel_rfl) (by kernel_rfl) (by kernel_rfl) (by kernel_rfl)
  refine sy_at2 (k' := (.rnd (m) (bodyL ctC) :: ctC.k.tail)) (by kernel_rfl) ?_
  refine ih v' (fun g hg hne e => ?_) (fun g hg hne e => ?_) aa w S2
  · rcases hnn g hg with h | h
    · exact hv1 g h hne e
    · have := (rfTk qy.2.2.1 0 us).lt _ hYf qy.2.2.1 ⟨rfl, hne⟩
      omega
  · rcases hnn g hg with h | h
    · exact hv2 g h hne e
    · have := (rfTk qz.2.2.1 0 W).lt _ hZf qz.2.2.1 ⟨rfl, hne⟩
      omega
theorem ct_a (w0 : World) (a : List Nat) (ha6 : a.length ≤ 600) (ts us W : List Tk) (hW : W = ts ++ us.map (shT (a.length + 1))) (ht6 : ts.length ≤ 600) (hu6 : us.length ≤ 600) (hua : ∀ t ∈ us, t.2.2.2 ≤ 600) (hW256 : ∀ t ∈ W, ∀ b ∈ t.2.1, b < 256) (qy qz : Option Addr × Nat × Nat × Nat) (hy : us.length = 0 ∨ qy.1 = some ⟨qy.2.2.1, 0, none⟩) (hz : W.length = 0 ∨ qz.1 = some ⟨qz.2.2.1, 0, none⟩) : ∀ (m i : Nat), i + m = us.length → ∀ (v : Value) (hv1 : ∀ g, Value.ownBlock v = some g → us.length ≠ 0 → g ≠ qy.2.2.1) (hv2 : ∀ g, Value.ownBlock v = some g → W.length ≠ 0 → g ≠ qz.2.2.1) (aa : Act) (w : World) (S : Sy w0 [] [] (ctS a qy qz us.length W.length v (i)) [rfOwn w0.heap.size 30 4 v (ts.length + (i)) (tkC (ts ++ (us.take (i)).map (shT (a.length + 1)))), rfTk qy.2.2.1 0 us, rfTk qz.2.2.1 0 W] aa w), post Tryd.prog (.rnd (m + 1) (bodyL ctC) :: ctC.k.tail) (bodyPost Tryd.prog Tryd.f7 (fun e w' => e = .returned (.bool true) ∧ Below w0.heap.size w0 w')) .normal aa w := by
  intro m
  induction m with
  | zero => intro i hi v hv1 hv2 aa w S; obtain rfl : i = us.length := by omega
            exact ct_e w0 a ha6 ts us W hW ht6 hu6 hua hW256 qy qz hy hz 0 v hv1 hv2 aa w S
  | succ m ih => intro i hi v hv1 hv2 aa w S; exact ct_s w0 a ha6 ts us W hW ht6 hu6 hua hW256 qy qz hy hz (m + 1) i (by omega) v hv1 hv2 (fun v2 hv1 hv2 aa w S => ih (i + 1) (by omega) v2 hv1 hv2 aa w S) aa w S
set_option maxHeartbeats 8000000 in
theorem ct_5 (w0 : World) (a b : List Nat) (ha9 : ∀ x ∈ a, x < 256) (hb9 : ∀ x ∈ b, x < 256) (ha6 : a.length ≤ 600) (hb6 : b.length ≤ 600) (k g : Nat) (hk : k < 256) (aa : Act) (w : World) (S : Sy w0 [] [] (ct5S a b k g) [rfSp g, rfSg] aa w) : post Tryd.prog ct5K (bodyPost Tryd.prog Tryd.f7 (fun e w' => e = .returned (.bool true) ∧ Below w0.heap.size w0 w')) .normal aa w := by
  have h256 : ∀ x ∈ a ++ spN (k % 3) :: b, x < 256 := fun x hx => by
    rcases List.mem_append.1 hx with hx | hx
    · exact ha9 x hx
    · rcases List.mem_cons.1 hx with rfl | hx
      · exact spN_256 _
      · exact hb9 x hx
  have hcat := lex_cat (spN_sp (k % 3)) a b
  have hal := lex_len (l := a)
  have hbl := lex_len (l := b)
  cases hR1 : lexW a 0 with
  | none =>
    have hR3 : lexW (a ++ spN (k % 3) :: b) 0 = none := by rw [hcat, hR1]; rfl
    cases hR2 : lexW b 0 with
    | none =>
      refine sy_run (c := ⟨ct5K, ct5S a b k g⟩) ⟨0, [5]⟩ 60 S fun bs aa w S => ?_
      refine sy_reg S fun S => ?_
      refine sy_ops 1 S fun bs aa w S => ?_
      refine sy_nm S fun bs S => ?_
      have hlt := fun i hi => S.lt (i := i) hi
      refine sy_call S (X := Option Addr × Nat × Nat × Nat) (val := fun q => wdV q (none)) (C := fun q w' => wdC2 w (none) q w') (by have q := words_t w (S.fact (f := rfSg) (by simp)) a ha9 (by omega); rw [hR1] at q; exact q.mono fun _ _ h => wd_row h) (by kernel_rfl) fun x aa w hx hb S => ?_
      have S := S.add (rfTk x.2.2.1 0 ((none).getD [])) hx.2.1 (fun i hi hbl => by have h1 := hlt i hi; have h2 := hbl.1; have h3 := hx.2.2.1.resolve_left hbl.2; omega)
      refine sy_run ⟨0, [6]⟩ 60 S fun bs aa w S => ?_
      refine sy_reg S fun S => ?_
      refine sy_ops 1 S fun bs aa w S => ?_
      refine sy_nm S fun bs S => ?_
      have hlt := fun i hi => S.lt (i := i) hi
      refine sy_call S (X := Option Addr × Nat × Nat × Nat) (val := fun q => wdV q (none)) (C := fun q w' => wdC2 w (none) q w') (by have q := words_t w (S.fact (f := rfSg) (by simp)) b hb9 (by omega); rw [hR2] at q; exact q.mono fun _ _ h => wd_row h) (by kernel_rfl) fun y aa w hy hb S => ?_
      have S := S.add (rfTk y.2.2.1 0 ((none).getD [])) hy.2.1 (fun i hi hbl => by have h1 := hlt i hi; have h2 := hbl.1; have h3 := hy.2.2.1.resolve_left hbl.2; omega)
      refine sy_run ⟨0, [7]⟩ 60 S fun bs aa w S => ?_
      refine sy_reg S fun S => ?_
      refine sy_ops 3 S fun bs aa w S => ?_
      refine sy_ex (op := .binOp .rem 5 (.tmp 42) (.const (.int .u8 3)) 5) (ty := 5) (v := .int .u8 ((k % 3 : Nat) : Int)) S (by kernel_rfl) (ex_rem (ki := .u8) (p := (k : Int)) (q := 3) (by kernel_rfl) (by kernel_rfl) (by decide) rfl) fun aa S => ?_
      refine sy_ix (b := g) (off := 0) (len := 3) (n := (k % 3)) (size := 1) (i := ((k % 3 : Nat) : Int)) S (by kernel_rfl) rfl (by omega) fun aa S => ?_
      refine sy_ldo S (ld_at (ty := 9) (b := g) (off := 0 + k % 3 * 1) (by kernel_rfl) (by rw [Nat.zero_add, Nat.mul_one]; exact S.fact (f := rfSp g) (by simp) (k % 3) (by omega))) (by kernel_rfl) fun aa S => ?_
      refine sy_ex (op := .binOp .add 9 (.tmp 40) (.tmp 45) 9) (ty := 9) (v := .string (strOf a ++ strOf [spN (k % 3)])) S (by kernel_rfl) (ex_cat Tryd.underlying9 (by kernel_rfl) (by kernel_rfl) (by rw [strOf_size, strOf_size]; simp only [List.length_singleton]; omega)) fun aa S => ?_
      refine sy_cast 46 S (congrArg Value.string (strOf_app a [spN (k % 3)])) (by kernel_rfl) fun S => ?_
      refine sy_ops 1 S fun bs aa w S => ?_
      refine sy_ex (op := .binOp .add 9 (.tmp 46) (.tmp 47) 9) (ty := 9) (v := .string (strOf (a ++ [spN (k % 3)]) ++ strOf b)) S (by kernel_rfl) (ex_cat Tryd.underlying9 (by kernel_rfl) (by kernel_rfl) (by rw [strOf_size, strOf_size, List.length_append, List.length_singleton]; omega)) fun aa S => ?_
      refine sy_cast 48 S (congrArg Value.string (by rw [strOf_app, List.append_assoc]; rfl : strOf (a ++ [spN (k % 3)]) ++ strOf b = strOf (a ++ spN (k % 3) :: b))) (by kernel_rfl) fun S => ?_
      refine sy_nm S fun bs S => ?_
      have hlt := fun i hi => S.lt (i := i) hi
      refine sy_call S (X := Option Addr × Nat × Nat × Nat) (val := fun q => wdV q (none)) (C := fun q w' => wdC2 w (none) q w') (by have q := words_t w (S.fact (f := rfSg) (by simp)) (a ++ spN (k % 3) :: b) h256 (by rw [List.length_append, List.length_cons]; omega); rw [hR3] at q; exact q.mono fun _ _ h => wd_row h) (by kernel_rfl) fun z aa w hz hb S => ?_
      have S := S.add (rfTk z.2.2.1 0 ((none).getD [])) hz.2.1 (fun i hi hbl => by have h1 := hlt i hi; have h2 := hbl.1; have h3 := hz.2.2.1.resolve_left hbl.2; omega)
      refine sy_run ⟨0, []⟩ 60 S fun bs aa w S => ?_
      exact sy_ret S (by kernel_rfl) (by kernel_rfl) fun hg => ⟨rfl, bel_gr hg⟩
    | some us =>
      refine sy_run (c := ⟨ct5K, ct5S a b k g⟩) ⟨0, [5]⟩ 60 S fun bs aa w S => ?_
      refine sy_reg S fun S => ?_
      refine sy_ops 1 S fun bs aa w S => ?_
      refine sy_nm S fun bs S => ?_
      have hlt := fun i hi => S.lt (i := i) hi
      refine sy_call S (X := Option Addr × Nat × Nat × Nat) (val := fun q => wdV q (none)) (C := fun q w' => wdC2 w (none) q w') (by have q := words_t w (S.fact (f := rfSg) (by simp)) a ha9 (by omega); rw [hR1] at q; exact q.mono fun _ _ h => wd_row h) (by kernel_rfl) fun x aa w hx hb S => ?_
      have S := S.add (rfTk x.2.2.1 0 ((none).getD [])) hx.2.1 (fun i hi hbl => by have h1 := hlt i hi; have h2 := hbl.1; have h3 := hx.2.2.1.resolve_left hbl.2; omega)
      refine sy_run ⟨0, [6]⟩ 60 S fun bs aa w S => ?_
      refine sy_reg S fun S => ?_
      refine sy_ops 1 S fun bs aa w S => ?_
      refine sy_nm S fun bs S => ?_
      have hlt := fun i hi => S.lt (i := i) hi
      refine sy_call S (X := Option Addr × Nat × Nat × Nat) (val := fun q => wdV q (some us)) (C := fun q w' => wdC2 w (some us) q w') (by have q := words_t w (S.fact (f := rfSg) (by simp)) b hb9 (by omega); rw [hR2] at q; exact q.mono fun _ _ h => wd_row h) (by kernel_rfl) fun y aa w hy hb S => ?_
      have S := S.add (rfTk y.2.2.1 0 ((some us).getD [])) hy.2.1 (fun i hi hbl => by have h1 := hlt i hi; have h2 := hbl.1; have h3 := hy.2.2.1.resolve_left hbl.2; omega)
      refine sy_run ⟨0, [7]⟩ 60 S fun bs aa w S => ?_
      refine sy_reg S fun S => ?_
      refine sy_ops 3 S fun bs aa w S => ?_
      refine sy_ex (op := .binOp .rem 5 (.tmp 42) (.const (.int .u8 3)) 5) (ty := 5) (v := .int .u8 ((k % 3 : Nat) : Int)) S (by kernel_rfl) (ex_rem (ki := .u8) (p := (k : Int)) (q := 3) (by kernel_rfl) (by kernel_rfl) (by decide) rfl) fun aa S => ?_
      refine sy_ix (b := g) (off := 0) (len := 3) (n := (k % 3)) (size := 1) (i := ((k % 3 : Nat) : Int)) S (by kernel_rfl) rfl (by omega) fun aa S => ?_
      refine sy_ldo S (ld_at (ty := 9) (b := g) (off := 0 + k % 3 * 1) (by kernel_rfl) (by rw [Nat.zero_add, Nat.mul_one]; exact S.fact (f := rfSp g) (by simp) (k % 3) (by omega))) (by kernel_rfl) fun aa S => ?_
      refine sy_ex (op := .binOp .add 9 (.tmp 40) (.tmp 45) 9) (ty := 9) (v := .string (strOf a ++ strOf [spN (k % 3)])) S (by kernel_rfl) (ex_cat Tryd.underlying9 (by kernel_rfl) (by kernel_rfl) (by rw [strOf_size, strOf_size]; simp only [List.length_singleton]; omega)) fun aa S => ?_
      refine sy_cast 46 S (congrArg Value.string (strOf_app a [spN (k % 3)])) (by kernel_rfl) fun S => ?_
      refine sy_ops 1 S fun bs aa w S => ?_
      refine sy_ex (op := .binOp .add 9 (.tmp 46) (.tmp 47) 9) (ty := 9) (v := .string (strOf (a ++ [spN (k % 3)]) ++ strOf b)) S (by kernel_rfl) (ex_cat Tryd.underlying9 (by kernel_rfl) (by kernel_rfl) (by rw [strOf_size, strOf_size, List.length_append, List.length_singleton]; omega)) fun aa S => ?_
      refine sy_cast 48 S (congrArg Value.string (by rw [strOf_app, List.append_assoc]; rfl : strOf (a ++ [spN (k % 3)]) ++ strOf b = strOf (a ++ spN (k % 3) :: b))) (by kernel_rfl) fun S => ?_
      refine sy_nm S fun bs S => ?_
      have hlt := fun i hi => S.lt (i := i) hi
      refine sy_call S (X := Option Addr × Nat × Nat × Nat) (val := fun q => wdV q (none)) (C := fun q w' => wdC2 w (none) q w') (by have q := words_t w (S.fact (f := rfSg) (by simp)) (a ++ spN (k % 3) :: b) h256 (by rw [List.length_append, List.length_cons]; omega); rw [hR3] at q; exact q.mono fun _ _ h => wd_row h) (by kernel_rfl) fun z aa w hz hb S => ?_
      have S := S.add (rfTk z.2.2.1 0 ((none).getD [])) hz.2.1 (fun i hi hbl => by have h1 := hlt i hi; have h2 := hbl.1; have h3 := hz.2.2.1.resolve_left hbl.2; omega)
      refine sy_run ⟨0, []⟩ 60 S fun bs aa w S => ?_
      exact sy_ret S (by kernel_rfl) (by kernel_rfl) fun hg => ⟨rfl, bel_gr hg⟩
  | some ts =>
    rw [hR1] at hal
    have hal : ts.length ≤ a.length := hal
    cases hR2 : lexW b 0 with
    | none =>
      have hR3 : lexW (a ++ spN (k % 3) :: b) 0 = none := by rw [hcat, hR1, hR2]; rfl
      refine sy_run (c := ⟨ct5K, ct5S a b k g⟩) ⟨0, [5]⟩ 60 S fun bs aa w S => ?_
      refine sy_reg S fun S => ?_
      refine sy_ops 1 S fun bs aa w S => ?_
      refine sy_nm S fun bs S => ?_
      have hlt := fun i hi => S.lt (i := i) hi
      refine sy_call S (X := Option Addr × Nat × Nat × Nat) (val := fun q => wdV q (some ts)) (C := fun q w' => wdC2 w (some ts) q w') (by have q := words_t w (S.fact (f := rfSg) (by simp)) a ha9 (by omega); rw [hR1] at q; exact q.mono fun _ _ h => wd_row h) (by kernel_rfl) fun x aa w hx hb S => ?_
      have S := S.add (rfTk x.2.2.1 0 ((some ts).getD [])) hx.2.1 (fun i hi hbl => by have h1 := hlt i hi; have h2 := hbl.1; have h3 := hx.2.2.1.resolve_left hbl.2; omega)
      refine sy_run ⟨0, [6]⟩ 60 S fun bs aa w S => ?_
      refine sy_reg S fun S => ?_
      refine sy_ops 1 S fun bs aa w S => ?_
      refine sy_nm S fun bs S => ?_
      have hlt := fun i hi => S.lt (i := i) hi
      refine sy_call S (X := Option Addr × Nat × Nat × Nat) (val := fun q => wdV q (none)) (C := fun q w' => wdC2 w (none) q w') (by have q := words_t w (S.fact (f := rfSg) (by simp)) b hb9 (by omega); rw [hR2] at q; exact q.mono fun _ _ h => wd_row h) (by kernel_rfl) fun y aa w hy hb S => ?_
      have S := S.add (rfTk y.2.2.1 0 ((none).getD [])) hy.2.1 (fun i hi hbl => by have h1 := hlt i hi; have h2 := hbl.1; have h3 := hy.2.2.1.resolve_left hbl.2; omega)
      refine sy_run ⟨0, [7]⟩ 60 S fun bs aa w S => ?_
      refine sy_reg S fun S => ?_
      refine sy_ops 3 S fun bs aa w S => ?_
      refine sy_ex (op := .binOp .rem 5 (.tmp 42) (.const (.int .u8 3)) 5) (ty := 5) (v := .int .u8 ((k % 3 : Nat) : Int)) S (by kernel_rfl) (ex_rem (ki := .u8) (p := (k : Int)) (q := 3) (by kernel_rfl) (by kernel_rfl) (by decide) rfl) fun aa S => ?_
      refine sy_ix (b := g) (off := 0) (len := 3) (n := (k % 3)) (size := 1) (i := ((k % 3 : Nat) : Int)) S (by kernel_rfl) rfl (by omega) fun aa S => ?_
      refine sy_ldo S (ld_at (ty := 9) (b := g) (off := 0 + k % 3 * 1) (by kernel_rfl) (by rw [Nat.zero_add, Nat.mul_one]; exact S.fact (f := rfSp g) (by simp) (k % 3) (by omega))) (by kernel_rfl) fun aa S => ?_
      refine sy_ex (op := .binOp .add 9 (.tmp 40) (.tmp 45) 9) (ty := 9) (v := .string (strOf a ++ strOf [spN (k % 3)])) S (by kernel_rfl) (ex_cat Tryd.underlying9 (by kernel_rfl) (by kernel_rfl) (by rw [strOf_size, strOf_size]; simp only [List.length_singleton]; omega)) fun aa S => ?_
      refine sy_cast 46 S (congrArg Value.string (strOf_app a [spN (k % 3)])) (by kernel_rfl) fun S => ?_
      refine sy_ops 1 S fun bs aa w S => ?_
      refine sy_ex (op := .binOp .add 9 (.tmp 46) (.tmp 47) 9) (ty := 9) (v := .string (strOf (a ++ [spN (k % 3)]) ++ strOf b)) S (by kernel_rfl) (ex_cat Tryd.underlying9 (by kernel_rfl) (by kernel_rfl) (by rw [strOf_size, strOf_size, List.length_append, List.length_singleton]; omega)) fun aa S => ?_
      refine sy_cast 48 S (congrArg Value.string (by rw [strOf_app, List.append_assoc]; rfl : strOf (a ++ [spN (k % 3)]) ++ strOf b = strOf (a ++ spN (k % 3) :: b))) (by kernel_rfl) fun S => ?_
      refine sy_nm S fun bs S => ?_
      have hlt := fun i hi => S.lt (i := i) hi
      refine sy_call S (X := Option Addr × Nat × Nat × Nat) (val := fun q => wdV q (none)) (C := fun q w' => wdC2 w (none) q w') (by have q := words_t w (S.fact (f := rfSg) (by simp)) (a ++ spN (k % 3) :: b) h256 (by rw [List.length_append, List.length_cons]; omega); rw [hR3] at q; exact q.mono fun _ _ h => wd_row h) (by kernel_rfl) fun z aa w hz hb S => ?_
      have S := S.add (rfTk z.2.2.1 0 ((none).getD [])) hz.2.1 (fun i hi hbl => by have h1 := hlt i hi; have h2 := hbl.1; have h3 := hz.2.2.1.resolve_left hbl.2; omega)
      refine sy_run ⟨0, []⟩ 60 S fun bs aa w S => ?_
      exact sy_ret S (by kernel_rfl) (by kernel_rfl) fun hg => ⟨rfl, bel_gr hg⟩
    | some us =>
      rw [hR2] at hbl
      have hbl : us.length ≤ b.length := hbl
      obtain ⟨W, hW⟩ : ∃ W, W = ts ++ us.map (shT (a.length + 1)) := ⟨_, rfl⟩
      have hR3 : lexW (a ++ spN (k % 3) :: b) 0 = some W := by rw [hcat, hR1, hR2, hW]; rfl
      have hW256 : ∀ t ∈ W, ∀ b ∈ t.2.1, b < 256 := fun t ht x hx => by
        have := lexF_256 _ _ _ _ hR3 t ht x hx
        omega
      have hua : ∀ t ∈ us, t.2.2.2 ≤ 600 := fun t ht => by
        have := lexF_at _ _ _ _ hR2 t ht
        omega
      refine sy_run (c := ⟨ct5K, ct5S a b k g⟩) ⟨0, [5]⟩ 60 S fun bs aa w S => ?_
      refine sy_reg S fun S => ?_
      refine sy_ops 1 S fun bs aa w S => ?_
      refine sy_nm S fun bs S => ?_
      have hlt := fun i hi => S.lt (i := i) hi
      refine sy_call S (X := Option Addr × Nat × Nat × Nat) (val := fun q => wdV q (some ts)) (C := fun q w' => wdC2 w (some ts) q w') (by have q := words_t w (S.fact (f := rfSg) (by simp)) a ha9 (by omega); rw [hR1] at q; exact q.mono fun _ _ h => wd_row h) (by kernel_rfl) fun x aa w hx hb S => ?_
      have S := S.add (rfTk x.2.2.1 0 ((some ts).getD [])) hx.2.1 (fun i hi hbl => by have h1 := hlt i hi; have h2 := hbl.1; have h3 := hx.2.2.1.resolve_left hbl.2; omega)
      refine sy_run ⟨0, [6]⟩ 60 S fun bs aa w S => ?_
      refine sy_reg S fun S => ?_
      refine sy_ops 1 S fun bs aa w S => ?_
      refine sy_nm S fun bs S => ?_
      have hlt := fun i hi => S.lt (i := i) hi
      refine sy_call S (X := Option Addr × Nat × Nat × Nat) (val := fun q => wdV q (some us)) (C := fun q w' => wdC2 w (some us) q w') (by have q := words_t w (S.fact (f := rfSg) (by simp)) b hb9 (by omega); rw [hR2] at q; exact q.mono fun _ _ h => wd_row h) (by kernel_rfl) fun y aa w hy hb S => ?_
      have S := S.add (rfTk y.2.2.1 0 ((some us).getD [])) hy.2.1 (fun i hi hbl => by have h1 := hlt i hi; have h2 := hbl.1; have h3 := hy.2.2.1.resolve_left hbl.2; omega)
      refine sy_run ⟨0, [7]⟩ 60 S fun bs aa w S => ?_
      refine sy_reg S fun S => ?_
      refine sy_ops 3 S fun bs aa w S => ?_
      refine sy_ex (op := .binOp .rem 5 (.tmp 42) (.const (.int .u8 3)) 5) (ty := 5) (v := .int .u8 ((k % 3 : Nat) : Int)) S (by kernel_rfl) (ex_rem (ki := .u8) (p := (k : Int)) (q := 3) (by kernel_rfl) (by kernel_rfl) (by decide) rfl) fun aa S => ?_
      refine sy_ix (b := g) (off := 0) (len := 3) (n := (k % 3)) (size := 1) (i := ((k % 3 : Nat) : Int)) S (by kernel_rfl) rfl (by omega) fun aa S => ?_
      refine sy_ldo S (ld_at (ty := 9) (b := g) (off := 0 + k % 3 * 1) (by kernel_rfl) (by rw [Nat.zero_add, Nat.mul_one]; exact S.fact (f := rfSp g) (by simp) (k % 3) (by omega))) (by kernel_rfl) fun aa S => ?_
      refine sy_ex (op := .binOp .add 9 (.tmp 40) (.tmp 45) 9) (ty := 9) (v := .string (strOf a ++ strOf [spN (k % 3)])) S (by kernel_rfl) (ex_cat Tryd.underlying9 (by kernel_rfl) (by kernel_rfl) (by rw [strOf_size, strOf_size]; simp only [List.length_singleton]; omega)) fun aa S => ?_
      refine sy_cast 46 S (congrArg Value.string (strOf_app a [spN (k % 3)])) (by kernel_rfl) fun S => ?_
      refine sy_ops 1 S fun bs aa w S => ?_
      refine sy_ex (op := .binOp .add 9 (.tmp 46) (.tmp 47) 9) (ty := 9) (v := .string (strOf (a ++ [spN (k % 3)]) ++ strOf b)) S (by kernel_rfl) (ex_cat Tryd.underlying9 (by kernel_rfl) (by kernel_rfl) (by rw [strOf_size, strOf_size, List.length_append, List.length_singleton]; omega)) fun aa S => ?_
      refine sy_cast 48 S (congrArg Value.string (by rw [strOf_app, List.append_assoc]; rfl : strOf (a ++ [spN (k % 3)]) ++ strOf b = strOf (a ++ spN (k % 3) :: b))) (by kernel_rfl) fun S => ?_
      refine sy_nm S fun bs S => ?_
      have hlt := fun i hi => S.lt (i := i) hi
      refine sy_call S (X := Option Addr × Nat × Nat × Nat) (val := fun q => wdV q (some W)) (C := fun q w' => wdC2 w (some W) q w') (by have q := words_t w (S.fact (f := rfSg) (by simp)) (a ++ spN (k % 3) :: b) h256 (by rw [List.length_append, List.length_cons]; omega); rw [hR3] at q; exact q.mono fun _ _ h => wd_row h) (by kernel_rfl) fun z aa w hz hb S => ?_
      have S := S.add (rfTk z.2.2.1 0 ((some W).getD [])) hz.2.1 (fun i hi hbl => by have h1 := hlt i hi; have h2 := hbl.1; have h3 := hz.2.2.1.resolve_left hbl.2; omega)
      refine sy_run ⟨0, [10]⟩ 60 S fun bs aa w S => ?_
      refine sy_reg S fun S => ?_
      refine sy_nm S fun bs S => ?_
      have hs0 := S.gr.size
      have hlt := fun i hi => S.lt (i := i) hi
      have hyf : TkAt w y.2.2.1 0 us := S.fact (f := rfTk y.2.2.1 0 ((some us).getD [])) (by simp)
      have hzf : TkAt w z.2.2.1 0 W := S.fact (f := rfTk z.2.2.1 0 ((some W).getD [])) (by simp)
      have hyl : us.length ≠ 0 → y.2.2.1 < w.heap.size := fun h => (rfTk y.2.2.1 0 us).lt w hyf y.2.2.1 ⟨rfl, h⟩
      have hzl : W.length ≠ 0 → z.2.2.1 < w.heap.size := fun h => (rfTk z.2.2.1 0 W).lt w hzf z.2.2.1 ⟨rfl, h⟩
      refine sy_exB (op := .buildSlice 23 0 #[]) (ty := 23) S (by kernel_rfl) (ex_bs0 (e := 30) Tryd.underlying23 (by kernel_rfl)) fun v0 aa w1 hv0 hb0 S => ?_
      obtain ⟨gz, rfl, hgz, hv1, hv2⟩ := hv0
      have S := S.add (rfBox gz 30 []) hv1 (fun i hi he => by have h1 := hlt i hi; have h2 : _ = gz := he; omega)
      refine sy_ops 1 S fun bs aa w S => ?_
      refine sy_nm S fun bs2 S => ?_
      have hgzw : w.heap[gz]? = some (.cells #[] 30 (0, 0)) := S.fact (f := rfBox gz 30 []) (by simp)
      have hs1 := S.gr.size
      have hlt2 := fun i hi => S.lt (i := i) hi
      have hxf : TkAt w x.2.2.1 0 ts := S.fact (f := rfTk x.2.2.1 0 ((some ts).getD [])) (by simp)
      have hyl2 : us.length ≠ 0 → y.2.2.1 < w.heap.size := fun h => (rfTk y.2.2.1 0 us).lt w (S.fact (f := rfTk y.2.2.1 0 ((some us).getD [])) (by simp)) y.2.2.1 ⟨rfl, h⟩
      have hzl2 : W.length ≠ 0 → z.2.2.1 < w.heap.size := fun h => (rfTk z.2.2.1 0 W).lt w (S.fact (f := rfTk z.2.2.1 0 ((some W).getD [])) (by simp)) z.2.2.1 ⟨rfl, h⟩
      refine sy_exB (op := .call { callee := .builtin .append, args := #[.tmp 68, .tmp 69], argTypes := #[23, 23] }) (ty := 23) S (by kernel_rfl) (ex_appT (B0 := w0.heap.size) (ts := ts) (by kernel_rfl) (by kernel_rfl) hx.1 hx.2.2.2 hxf (by omega) hgzw (by omega) hs1) fun v1 aa w2 hO1 hb2 S => ?_
      have S := S.add (rfOwn w0.heap.size 30 4 v1 (ts.length + (0)) (tkC (ts ++ (us.take (0)).map (shT (a.length + 1))))) (by simp only [List.take_zero, List.map_nil, List.append_nil, Nat.add_zero]; exact hO1.1) (fun i hi hbl => by have hK : bs2.length = 0 := S.bl.trans (by kernel_rfl); omega)
      refine sy_run ⟨0, []⟩ 60 S fun bs aa w S => ?_
      have S := S.sub (F' := [rfOwn w0.heap.size 30 4 v1 (ts.length + (0)) (tkC (ts ++ (us.take (0)).map (shT (a.length + 1)))), rfTk y.2.2.1 0 us, rfTk z.2.2.1 0 W]) (by intro f hf; simp only [List.mem_cons, List.not_mem_nil, or_false] at hf; rcases hf with rfl | rfl | rfl <;> simp)
      have S2 := S.to [] (ctS a y z us.length W.length v1 0) (by kernel_rfl) (by kernel_rfl) (by kernel_rfl) (by kernel_rfl) (by kernel_rfl)
      refine sy_loop (us.length + 1) (by kernel_rfl) ?_
      refine sy_at2 (k' := (.rnd (us.length + 1) (bodyL ctC) :: ctC.k.tail)) (by kernel_rfl) ?_
      refine ct_a w0 a ha6 ts us W hW (by omega) (by omega) hua hW256 y z hy.1 hz.1 us.length 0 (by omega) v1 (fun g hg hne e => ?_) (fun g hg hne e => ?_) aa w S2
      · have h1 := hyl hne
        have h2 := hyl2 hne
        rcases hO1.2 g hg with h | h <;> omega
      · have h1 := hzl hne
        have h2 := hzl2 hne
        rcases hO1.2 g hg with h | h <;> omega
set_option maxHeartbeats 8000000 in
theorem ct_all (w0 : World) (hG : rfSg.P w0) (a b : List Nat) (ha : ∀ x ∈ a, x < 256) (hb9 : ∀ x ∈ b, x < 256) (k : Nat) (hk : k < 256) : Calls Tryd.prog 7 #[.string (strOf a), .string (strOf b), .int .u8 (k : Int)] w0 (fun e w' => e = .returned (.bool true) ∧ Below w0.heap.size w0 w') := by
  refine sy_enterF [] [rfSg] (by intro f hf; simp only [List.mem_singleton] at hf; subst hf; exact hG) Tryd.func7 rfl rfl fun aa S => ?_
  refine sy_run ⟨0, [1]⟩ 60 S fun bs aa w S => ?_
  refine sy_reg S fun S => ?_
  refine sy_call1 S (sane4 w (S.fact (f := rfSg) (by simp))) (by kernel_rfl) fun aa w hb1 S => ?_
  refine sy_run ⟨0, [2]⟩ 60 S fun bs aa w S => ?_
  refine sy_reg S fun S => ?_
  refine sy_ops 2 S fun bs aa w S => ?_
  refine sy_cast 20 S (congrArg (Value.int .i64) (by rw [strOf_size] : ((strOf a).size : Int) = (a.length : Int))) (by kernel_rfl) fun S => ?_
  refine sy_ops 1 S fun bs aa w S => ?_
  by_cases ha6 : a.length ≤ 600
  case neg =>
    refine sy_cast 21 S (congrArg Value.bool (decide_eq_true (by omega) : decide ((a.length : Int) > 600) = true)) (by kernel_rfl) fun S => ?_
    refine sy_run ⟨0, []⟩ 60 S fun bs aa w S => ?_
    exact sy_ret S (by kernel_rfl) (by kernel_rfl) fun hg => ⟨rfl, bel_gr hg⟩
  refine sy_cast 21 S (congrArg Value.bool (decide_eq_false (by omega) : decide ((a.length : Int) > 600) = false)) (by kernel_rfl) fun S => ?_
  refine sy_ops 3 S fun bs aa w S => ?_
  refine sy_cast 24 S (congrArg (Value.int .i64) (by rw [strOf_size] : ((strOf b).size : Int) = (b.length : Int))) (by kernel_rfl) fun S => ?_
  refine sy_ops 1 S fun bs aa w S => ?_
  by_cases hb6 : b.length ≤ 600
  case neg =>
    refine sy_cast 25 S (congrArg Value.bool (decide_eq_true (by omega) : decide ((b.length : Int) > 600) = true)) (by kernel_rfl) fun S => ?_
    refine sy_run ⟨0, []⟩ 60 S fun bs aa w S => ?_
    exact sy_ret S (by kernel_rfl) (by kernel_rfl) fun hg => ⟨rfl, bel_gr hg⟩
  refine sy_cast 25 S (congrArg Value.bool (decide_eq_false (by omega) : decide ((b.length : Int) > 600) = false)) (by kernel_rfl) fun S => ?_
  refine sy_run ⟨0, [4]⟩ 60 S fun bs aa w S => ?_
  refine sy_reg S fun S => ?_
  refine sy_ops 1 S fun bs aa w S => ?_
  refine sy_run ⟨0, [5]⟩ 60 S fun bs aa w S => ?_
  refine sy_nm S fun bs S => ?_
  have S := S.same 8 (x := .s 0 0 3 3) (by kernel_rfl) (y := .v (.slice (some ⟨bs.getD 0 0, 0, none⟩) 3 3)) trivial rfl
  have hrow := S.bx 0 ⟨9, [.string (strOf [32]), .string (strOf [9]), .string (strOf [10])]⟩ (by kernel_rfl)
  have hI : (rfSp (bs.getD 0 0)).P w := fun j hj => by
    refine cel_of hrow ?_
    match j, hj with
    | 0, _ => rfl
    | 1, _ => rfl
    | 2, _ => rfl
  have S2 := S.to [] (ct5S a b k (bs.getD 0 0)) (by kernel_rfl) (by kernel_rfl) (by kernel_rfl) (by kernel_rfl) (by kernel_rfl)
  have S3 := S2.add (rfSp (bs.getD 0 0)) hI (fun i hi hb => absurd hi (Nat.not_lt_zero _))
  generalize bs.getD 0 0 = g at S3
  refine sy_at2 (k' := ct5K) (by kernel_rfl) ?_
  exact ct_5 w0 a b ha hb9 ha6 hb6 k g hk aa w S3
end Go.Proofs.YthkgmahkmflfkaaDoor
