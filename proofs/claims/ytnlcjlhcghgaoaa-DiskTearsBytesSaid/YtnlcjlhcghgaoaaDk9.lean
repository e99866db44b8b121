
/-
  Layer 22: what a crash undoes.
-/
import Derived.Test.YtnlcjlhcghgaoaaRows
import Derived.Test.YtnlcjlhcghgaoaaBase
import Derived.Test.YtnlcjlhcghgaoaaZs
import Derived.Test.YtnlcjlhcghgaoaaDk8
import Derived.WalkKit
namespace Go.Proofs.Ytnlcjlhcghgaoaa
open Go Go.RowKit SZ
set_option linter.unusedVariables false
set_option linter.unusedSimpArgs false
set_option maxRecDepth 100000
attribute [local irreducible] post GD Nxt NxtAll
set_option maxHeartbeats 8000000 in
theorem fm_t (n : Int) (w0 : World) : Calls Try.prog 34 #[.int .i64 n, .int .i64 33] w0 fun e w' => e = .returned (.int .i64 (n % 33)) ∧ Below w0.heap.size w0 w' := by
  have hk : Int.tmod (IntKind.i64.wrap (Int.tmod n 33 + 33)) 33 = n % 33 := by
    have h1 := Int.tmod_lt_of_pos n (show (0 : Int) < 33 by omega)
    have h2 : -33 < Int.tmod n 33 := by
      have := Int.lt_tmod_of_pos n (show (0 : Int) < 33 by omega)
      omega
    have h3 : (Int.tmod n 33) % 33 = n % 33 := by rw [Int.tmod_def]; omega
    rw [show IntKind.i64.wrap (Int.tmod n 33 + 33) = Int.tmod n 33 + 33 by rw [IntKind.wrap_i64]; omega, Int.tmod_eq_emod_of_nonneg (by omega)]
    omega
  refine sy_enterF [] [] (by intro f hf; cases hf) Try.func34 rfl rfl fun aa S => ?_
  refine sy_run ⟨0, [1]⟩ 60 S fun bs aa w S => ?_
  refine sy_reg S fun S => ?_
  refine sy_ops 7 S fun bs aa w S => ?_
  refine sy_cast 11 S (congrArg (Value.int .i64) hk) (by kernel_rfl) fun S => ?_
  refine sy_run ⟨0, []⟩ 60 S fun bs aa w S => ?_
  exact sy_ret S (by kernel_rfl) (by kernel_rfl) fun hg => ⟨rfl, bel_gr hg⟩
/-- A row of strings, with room behind it. -/
def rfRow (g : Nat) (S : List ByteArray) : RF := ⟨fun b => b = g, fun w => ∃ cs : List Value, w.heap[g]? = some (.cells cs.toArray 9 (0, 0)) ∧ cs.take S.length = S.map Value.string, fun w h b hb => by
  subst hb
  obtain ⟨cs, h, _⟩ := h
  exact (Array.getElem?_eq_some_iff.1 h).1, fun w w' h hb => by
  obtain ⟨cs, h, q⟩ := h
  exact ⟨cs, (hb g rfl).trans h, q⟩⟩
theorem row_at {w : World} {g : Nat} {S : List ByteArray} (h : (rfRow g S).P w) : StrAt w g 0 S := by
  obtain ⟨cs, h, q⟩ := h
  exact strAt_of h q
/-- A string is stored in a row. -/
theorem row_st {w : World} {g : Nat} {S : List ByteArray} (h : (rfRow g S).P w) (j : Nat) (hj : j < S.length) (s : ByteArray) : (storeVar 9 ⟨g, 0 + j * 1, none⟩ (.string s)).run Try.prog w = .ok () (w.setCells g j [.string s]) ∧ (rfRow g (S.set j s)).P (w.setCells g j [.string s]) := by
  obtain ⟨cs, h, q⟩ := h
  have hl : j < cs.length := by
    have := congrArg List.length q
    simp at this
    omega
  obtain ⟨hr, he⟩ := st_at (P := Try.prog) (ty := 9) (v := .string s) (off := j) (by kernel_rfl) (by kernel_rfl) (by kernel_rfl) h hl
  refine ⟨by rw [Nat.mul_one, Nat.zero_add]; exact hr, _, he, ?_⟩
  rw [List.length_set, List.take_set, List.map_set, q]
def unA (W : List (Int × ByteArray)) : Nat → List ByteArray × List ByteArray → List ByteArray × List ByteArray
  | 0, x => x
  | j + 1, x => unA W j (x.1.set (W.getD j (0, ByteArray.empty)).1.toNat (W.getD j (0, ByteArray.empty)).2, x.2.set j (x.1.getD (W.getD j (0, ByteArray.empty)).1.toNat ByteArray.empty))
theorem mk_run2 (n : Nat) (hn : n ≤ 1000) (w : World) : (Instr.makeSlice 22 (.int .i64 (n : Int)) (.int .i64 (n : Int))).run Try.prog w = .ok (.slice (some ⟨w.heap.size, 0, none⟩) n n) (w.alloc (.cells (zS n 0).toArray 9 (0, 0))) := by
  have hI : (Try.prog.info? 9).map (fun i => (i.zero, i.size, i.bytes)) = some (some (.string ByteArray.empty), 1, 16) := by kernel_rfl
  cases hi : Try.prog.info? 9 with
  | none => rw [hi] at hI; cases hI
  | some i =>
    rw [hi] at hI
    simp only [Option.map_some, Option.some.injEq, Prod.mk.injEq] at hI
    obtain ⟨h1, h2, h3⟩ := hI
    have h := run_makeSlice (P := Try.prog) w 22 9 i (.string ByteArray.empty) Try.underlying22 hi h1 .i64 .i64 (n : Int) (n : Int) (by omega) (by omega) (by rw [h2, Int.toNat_natCast]; omega) (by rw [h3]; omega) (by omega)
    rw [h2, Int.toNat_natCast, Nat.mul_one, made_str] at h
    exact h
theorem sl_hm (c p n cc j : Nat) (h1 : j ≤ cc) (W : World) : (Instr.sliceAt 23 (.slice (some ⟨c, p, none⟩) n cc) none (some (.int .i64 (j : Int))) (some (.int .i64 (j : Int)))).run Try.prog W = .ok (.slice (some ⟨c, p, none⟩) j j) W := by
  have hu : Try.prog.underlying 23 = some (.slice (Try.prog.elem 23)) := by rw [Try.underlying23]; kernel_rfl
  rw [run_sliceAt_slice W _ _ _ _ _ hu, run_slice_any W _ _ _ _ hu]
  have hs : (Instr.sliceBounds true n cc none (some (.int .i64 (j : Int))) (some (.int .i64 (j : Int)))).run Try.prog W = .ok (0, j, j) W := by
    simp [Instr.sliceBounds, run_sliceBound, h1]
  rw [hs]
  have hI : (Try.prog.info? (Try.prog.elem 23)).isSome = true := by kernel_rfl
  have ha : (⟨c, p, none⟩ : Addr).add 0 = ⟨c, p, none⟩ := by unfold Addr.add; split <;> simp_all
  obtain ⟨ii, hi⟩ := Option.isSome_iff_exists.1 hI
  simp [sizeOf, typeInfo, sliced, hi, ha]
noncomputable def udC : Cfg := ⟨goZ 60 [] [.code (bodyOf Try.f32)], ⟨0, [], []⟩⟩
noncomputable def udS (g sl sc gd tl : Nat) (ta : Option Addr) (n cc : Nat) : SS := ⟨52, [(0, .v (.slice (some ⟨g, 0, none⟩) sl sc)), (5, .v (.slice (some ⟨gd, 0, none⟩) tl tl)), (6, .v (.slice ta n cc))], []⟩
set_option maxHeartbeats 8000000 in
theorem ud_end (w0 : World) (g sl sc gd tl : Nat) (W : List (Int × ByteArray)) (c p : Nat) (ta : Option Addr) (hgd : w0.heap.size ≤ gd) (hg : g < w0.heap.size) (hc : W.length = 0 ∨ (c ≠ g ∧ c < w0.heap.size)) (hW : W.length = tl) (hsl : sl ≤ 512) (htl : tl ≤ 1000) (hr : ∀ j, j < tl → 0 ≤ (W.getD j (0, ByteArray.empty)).1 ∧ (W.getD j (0, ByteArray.empty)).1 < (sl : Int)) (hta : tl = 0 ∨ ta = some ⟨c, p, none⟩) (m : Nat) (S_ Dt : List ByteArray) (hS : S_.length = sl) (hD : Dt.length = tl) (cc : Nat) (hcc : 0 ≤ cc) (aa : Act) (w : World) (S : Sy w0 [g] [] (udS g sl sc gd tl ta (0) cc) [rfRow g S_, rfRow gd Dt, rfWs c p W] aa w) : post Try.prog (.rnd (m + 1) (bodyL udC) :: udC.k.tail) (bodyPost Try.prog Try.f32 fun e w' => ∃ gd, e = .returned (.slice (some ⟨gd, 0, none⟩) tl tl) ∧ w0.heap.size ≤ gd ∧ (rfRow g (S_, Dt).1).P w' ∧ (rfRow gd (S_, Dt).2).P w' ∧ Gr w0 w' [g]) .normal aa w := by
  refine sy_run (c := ⟨(.rnd (m + 1) (bodyL udC) :: udC.k.tail), udS g sl sc gd tl ta (0) cc⟩) ⟨0, [3]⟩ 50 S fun bs aa w S => ?_
  refine sy_reg S fun S => ?_
  refine sy_ops 2 S fun bs aa w S => ?_
  refine sy_ops 1 S fun bs aa w S => ?_
  refine sy_cast 15 S (congrArg Value.bool (rfl : decide (((0 : Nat) : Int) > 0) = false)) (by kernel_rfl) fun S => ?_
  refine sy_run ⟨0, []⟩ 60 S fun bs aa w S => ?_
  exact sy_ret S (by kernel_rfl) (by kernel_rfl) fun hg => ⟨gd, rfl, hgd, S.fact (f := rfRow g S_) (by simp), S.fact (f := rfRow gd Dt) (by simp), hg⟩
set_option maxHeartbeats 8000000 in
theorem ud_step (w0 : World) (g sl sc gd tl : Nat) (W : List (Int × ByteArray)) (c p : Nat) (ta : Option Addr) (hgd : w0.heap.size ≤ gd) (hg : g < w0.heap.size) (hc : W.length = 0 ∨ (c ≠ g ∧ c < w0.heap.size)) (hW : W.length = tl) (hsl : sl ≤ 512) (htl : tl ≤ 1000) (hr : ∀ j, j < tl → 0 ≤ (W.getD j (0, ByteArray.empty)).1 ∧ (W.getD j (0, ByteArray.empty)).1 < (sl : Int)) (hta : tl = 0 ∨ ta = some ⟨c, p, none⟩) (m j : Nat) (hj : j < tl) (R : List ByteArray × List ByteArray) (S_ Dt : List ByteArray) (hS : S_.length = sl) (hD : Dt.length = tl) (ih : ∀ (aa : Act) (w : World) (S : Sy w0 [g] [] (udS g sl sc gd tl ta j j) [rfRow g ((S_.set (W.getD j (0, ByteArray.empty)).1.toNat (W.getD j (0, ByteArray.empty)).2, Dt.set j (S_.getD (W.getD j (0, ByteArray.empty)).1.toNat ByteArray.empty))).1, rfRow gd ((S_.set (W.getD j (0, ByteArray.empty)).1.toNat (W.getD j (0, ByteArray.empty)).2, Dt.set j (S_.getD (W.getD j (0, ByteArray.empty)).1.toNat ByteArray.empty))).2, rfWs c p W] aa w), post Try.prog (.rnd (m) (bodyL udC) :: udC.k.tail) (bodyPost Try.prog Try.f32 fun e w' => ∃ gd, e = .returned (.slice (some ⟨gd, 0, none⟩) tl tl) ∧ w0.heap.size ≤ gd ∧ (rfRow g R.1).P w' ∧ (rfRow gd R.2).P w' ∧ Gr w0 w' [g]) .normal aa w) (cc : Nat) (hcc : j + 1 ≤ cc) (aa : Act) (w : World) (S : Sy w0 [g] [] (udS g sl sc gd tl ta (j + 1) cc) [rfRow g S_, rfRow gd Dt, rfWs c p W] aa w) : post Try.prog (.rnd (m + 1) (bodyL udC) :: udC.k.tail) (bodyPost Try.prog Try.f32 fun e w' => ∃ gd, e = .returned (.slice (some ⟨gd, 0, none⟩) tl tl) ∧ w0.heap.size ≤ gd ∧ (rfRow g R.1).P w' ∧ (rfRow gd R.2).P w' ∧ Gr w0 w' [g]) .normal aa w := by
  obtain rfl := hta.resolve_left (by omega)
  obtain ⟨hx0, hx1⟩ := hr j hj
  have hcg := hc.resolve_left (by omega)
  refine sy_run (c := ⟨(.rnd (m + 1) (bodyL udC) :: udC.k.tail), udS g sl sc gd tl (some ⟨c, p, none⟩) (j + 1) cc⟩) ⟨0, [3]⟩ 50 S fun bs aa w S => ?_
  refine sy_reg S fun S => ?_
  refine sy_ops 2 S fun bs aa w S => ?_
  refine sy_ops 1 S fun bs aa w S => ?_
  refine sy_cast 15 S (congrArg Value.bool (decide_eq_true (by omega) : decide (((j + 1 : Nat) : Int) > 0) = true)) (by kernel_rfl) fun S => ?_
  refine sy_run ⟨0, [4]⟩ 60 S fun bs aa w S => ?_
  refine sy_reg S fun S => ?_
  refine sy_ops 3 S fun bs aa w S => ?_
  refine sy_cast 18 S (congrArg (Value.int .i64) (by rw [IntKind.wrap_i64]; omega : IntKind.i64.wrap (((j + 1 : Nat) : Int) - 1) = (j : Int))) (by kernel_rfl) fun S => ?_
  refine sy_run ⟨0, [5]⟩ 60 S fun bs aa w S => ?_
  refine sy_reg S fun S => ?_
  refine sy_ops 2 S fun bs aa w S => ?_
  refine sy_ix (b := c) (off := p) (len := j + 1) (n := j) (size := 2) (i := (j : Int)) S (by kernel_rfl) rfl (by omega) fun aa S => ?_
  refine sy_ldo S (ld_was (j := j) (S.fact (f := rfWs c p W) (by simp)) (by omega)) (by kernel_rfl) fun aa S => ?_
  refine sy_run ⟨0, [6]⟩ 60 S fun bs aa w S => ?_
  refine sy_reg S fun S => ?_
  refine sy_ops 3 S fun bs aa w S => ?_
  refine sy_cast 25 S (congrArg Value.bool (decide_eq_true hx0 : decide ((W.getD j (0, ByteArray.empty)).1 ≥ 0) = true)) (by kernel_rfl) fun S => ?_
  refine sy_ops 6 S fun bs aa w S => ?_
  refine sy_cast 31 S (congrArg Value.bool (decide_eq_true hx1 : decide ((W.getD j (0, ByteArray.empty)).1 < (sl : Int)) = true)) (by kernel_rfl) fun S => ?_
  refine sy_run ⟨0, [7]⟩ 60 S fun bs aa w S => ?_
  refine sy_reg S fun S => ?_
  refine sy_ops 5 S fun bs aa w S => ?_
  refine sy_ix (b := g) (off := 0) (len := sl) (n := (W.getD j (0, ByteArray.empty)).1.toNat) (size := 1) (i := (W.getD j (0, ByteArray.empty)).1) S (by kernel_rfl) (Int.toNat_of_nonneg hx0).symm (by omega) fun aa S => ?_
  refine sy_ldo S (ld_at (ty := 9) (b := g) (off := 0 + (W.getD j (0, ByteArray.empty)).1.toNat * 1) (by kernel_rfl) (by rw [Nat.mul_one]; exact row_at (S.fact (f := rfRow g S_) (by simp)) _ (by omega))) (by kernel_rfl) fun aa S => ?_
  refine sy_ix (b := gd) (off := 0) (len := tl) (n := j) (size := 1) (i := (j : Int)) S (by kernel_rfl) rfl hj fun aa S => ?_
  obtain ⟨hr1, he1⟩ := row_st (S.fact (f := rfRow gd Dt) (by simp)) j (by omega) (S_.getD (W.getD j (0, ByteArray.empty)).1.toNat ByteArray.empty)
  have hap := (S.fs (rfRow gd Dt) (by simp)).2
  refine sy_sto (ty := 9) (ad := ⟨gd, 0 + j * 1, none⟩) (x := .v (.string (S_.getD (W.getD j (0, ByteArray.empty)).1.toNat ByteArray.empty))) (v := .string (S_.getD (W.getD j (0, ByteArray.empty)).1.toNat ByteArray.empty)) S (by kernel_rfl) rfl hr1 (gb_setC w gd j _) (Or.inr hgd) [rfRow g S_, rfWs c p W] (by intro f hf; simp only [List.mem_cons, List.not_mem_nil, or_false] at hf; rcases hf with rfl | rfl; exact ⟨by simp, fun hb => by have h1 : gd = g := hb; omega⟩; exact ⟨by simp, fun hb => by have h1 : gd = c := hb.1; omega⟩) (fun i hi e => hap i hi e) fun aa S => ?_
  have S := S.add (rfRow gd (Dt.set j (S_.getD (W.getD j (0, ByteArray.empty)).1.toNat ByteArray.empty))) he1 hap
  refine sy_run ⟨0, [8]⟩ 60 S fun bs aa w S => ?_
  refine sy_reg S fun S => ?_
  refine sy_ops 5 S fun bs aa w S => ?_
  refine sy_ix (b := g) (off := 0) (len := sl) (n := (W.getD j (0, ByteArray.empty)).1.toNat) (size := 1) (i := (W.getD j (0, ByteArray.empty)).1) S (by kernel_rfl) (Int.toNat_of_nonneg hx0).symm (by omega) fun aa S => ?_
  obtain ⟨hr2, he2⟩ := row_st (S.fact (f := rfRow g S_) (by simp)) (W.getD j (0, ByteArray.empty)).1.toNat (by omega) (W.getD j (0, ByteArray.empty)).2
  have hap2 := (S.fs (rfRow g S_) (by simp)).2
  refine sy_sto (ty := 9) (ad := ⟨g, 0 + (W.getD j (0, ByteArray.empty)).1.toNat * 1, none⟩) (x := .v (.string (W.getD j (0, ByteArray.empty)).2)) (v := .string (W.getD j (0, ByteArray.empty)).2) S (by kernel_rfl) rfl hr2 (gb_setC w g _ _) (Or.inl (by simp)) [rfRow gd (Dt.set j (S_.getD (W.getD j (0, ByteArray.empty)).1.toNat ByteArray.empty)), rfWs c p W] (by intro f hf; simp only [List.mem_cons, List.not_mem_nil, or_false] at hf; rcases hf with rfl | rfl; exact ⟨by simp, fun hb => by have h1 : g = gd := hb; omega⟩; exact ⟨by simp, fun hb => by have h1 : g = c := hb.1; omega⟩) (fun i hi e => hap2 i hi e) fun aa S => ?_
  have S := S.add (rfRow g (S_.set (W.getD j (0, ByteArray.empty)).1.toNat (W.getD j (0, ByteArray.empty)).2)) he2 hap2
  refine sy_run ⟨0, [9]⟩ 60 S fun bs aa w S => ?_
  refine sy_reg S fun S => ?_
  refine sy_ops 3 S fun bs aa w S => ?_
  refine sy_ex (op := .slice 23 (.tmp 47) none (some (.tmp 48)) (some (.tmp 49))) (ty := 23) (v := .slice (some ⟨c, p, none⟩) j j) S (by kernel_rfl) (ex_sl (p := .slice (some ⟨c, p, none⟩) (j + 1) cc) (l2 := none) (h2 := some (.v (.int .i64 (j : Int)))) (m2 := some (.v (.int .i64 (j : Int)))) (by kernel_rfl) (by kernel_rfl) (by kernel_rfl) (by kernel_rfl) (fun W => sl_hm c p (j + 1) cc j (by omega) W)) fun aa S => ?_
  refine sy_run ⟨0, [999]⟩ 50 S fun bs aa w S => ?_
  have S2 := S.to [] (udS g sl sc gd tl (some ⟨c, p, none⟩) j j) (by kernel_rfl) (by kernel_rfl) (by kernel_rfl) (by kernel_rfl) (by kernel_rfl)
  refine sy_at2 (k' := (.rnd (m) (bodyL udC) :: udC.k.tail)) (by kernel_rfl) ?_
  exact ih aa w S2
theorem ud_all (w0 : World) (g sl sc gd tl : Nat) (W : List (Int × ByteArray)) (c p : Nat) (ta : Option Addr) (hgd : w0.heap.size ≤ gd) (hg : g < w0.heap.size) (hc : W.length = 0 ∨ (c ≠ g ∧ c < w0.heap.size)) (hW : W.length = tl) (hsl : sl ≤ 512) (htl : tl ≤ 1000) (hr : ∀ j, j < tl → 0 ≤ (W.getD j (0, ByteArray.empty)).1 ∧ (W.getD j (0, ByteArray.empty)).1 < (sl : Int)) (hta : tl = 0 ∨ ta = some ⟨c, p, none⟩) : ∀ (n : Nat), n ≤ tl → ∀ (S_ Dt : List ByteArray) (hS : S_.length = sl) (hD : Dt.length = tl) (cc : Nat) (hcc : n ≤ cc) (aa : Act) (w : World) (S : Sy w0 [g] [] (udS g sl sc gd tl ta (n) cc) [rfRow g S_, rfRow gd Dt, rfWs c p W] aa w), post Try.prog (.rnd (n + 1) (bodyL udC) :: udC.k.tail) (bodyPost Try.prog Try.f32 fun e w' => ∃ gd, e = .returned (.slice (some ⟨gd, 0, none⟩) tl tl) ∧ w0.heap.size ≤ gd ∧ (rfRow g (unA W n (S_, Dt)).1).P w' ∧ (rfRow gd (unA W n (S_, Dt)).2).P w' ∧ Gr w0 w' [g]) .normal aa w := by
  intro n
  induction n with
  | zero => intro hn S_ Dt hS hD cc hcc aa w S; exact ud_end w0 g sl sc gd tl W c p ta hgd hg hc hW hsl htl hr hta 0 S_ Dt hS hD cc hcc aa w S
  | succ j ih =>
    intro hn S_ Dt hS hD cc hcc aa w S
    exact ud_step w0 g sl sc gd tl W c p ta hgd hg hc hW hsl htl hr hta (j + 1) j (by omega) (unA W (j + 1) (S_, Dt)) S_ Dt hS hD (fun aa w S => ih (by omega) _ _ (by simp [hS]) (by simp [hD]) j (Nat.le_refl _) aa w S) cc hcc aa w S
set_option maxHeartbeats 8000000 in
theorem undo_t (w0 : World) (g sl sc tl tc : Nat) (W : List (Int × ByteArray)) (c p : Nat) (ta : Option Addr) (hc : W.length = 0 ∨ (c ≠ g ∧ c < w0.heap.size)) (hW : W.length = tl) (hsl : sl ≤ 512) (htl : tl ≤ 1000) (hr : ∀ j, j < tl → 0 ≤ (W.getD j (0, ByteArray.empty)).1 ∧ (W.getD j (0, ByteArray.empty)).1 < (sl : Int)) (hta : tl = 0 ∨ ta = some ⟨c, p, none⟩) (htc : tl ≤ tc) (S_ : List ByteArray) (hS : S_.length = sl) (hA : (rfRow g S_).P w0) (hB : WasAt w0 c p W) : Calls Try.prog 32 #[.slice (some ⟨g, 0, none⟩) sl sc, .slice ta tl tc] w0 fun e w' => ∃ gd, e = .returned (.slice (some ⟨gd, 0, none⟩) tl tl) ∧ w0.heap.size ≤ gd ∧ (rfRow g (unA W tl (S_, List.replicate tl ByteArray.empty)).1).P w' ∧ (rfRow gd (unA W tl (S_, List.replicate tl ByteArray.empty)).2).P w' ∧ Gr w0 w' [g] := by
  have hg : g < w0.heap.size := (rfRow g S_).lt w0 hA g rfl
  refine sy_enterF [g] [rfRow g S_, rfWs c p W] (by intro f hf; simp only [List.mem_cons, List.not_mem_nil, or_false] at hf; rcases hf with rfl | rfl; exact hA; exact hB) Try.func32 rfl rfl fun aa S => ?_
  refine sy_run ⟨0, [1]⟩ 60 S fun bs aa w S => ?_
  refine sy_reg S fun S => ?_
  refine sy_ops 2 S fun bs aa w S => ?_
  refine sy_mk (t := 22) (u := .int .i64 (tl : Int)) (v := .int .i64 (tl : Int)) (n := tl) (cs := zS tl 0) (e := 9) S (by kernel_rfl) (mk_run2 tl htl) fun gd aa w hb0 hnb hnf hh hb S => ?_
  have S := S.add (rfRow gd (List.replicate tl ByteArray.empty)) ⟨zS tl 0, hh, by simp [zS]⟩ hnb
  refine sy_run ⟨0, []⟩ 60 S fun bs aa w S => ?_
  have S := S.sub (F' := [rfRow g S_, rfRow gd (List.replicate tl ByteArray.empty), rfWs c p W]) (by intro f hf; simp only [List.mem_cons, List.not_mem_nil, or_false] at hf; rcases hf with rfl | rfl | rfl <;> simp)
  have S' := S.to [] (udS g sl sc gd tl ta tl tc) (by kernel_rfl) (by kernel_rfl) (by kernel_rfl) (by kernel_rfl) (by kernel_rfl)
  refine sy_loop (tl + 1) (by kernel_rfl) ?_
  refine sy_at2 (k' := (.rnd (tl + 1) (bodyL udC) :: udC.k.tail)) (by kernel_rfl) ?_
  exact ud_all w0 g sl sc gd tl W c p ta hb0 hg hc hW hsl htl hr hta tl (Nat.le_refl _) S_ _ hS (by simp) tc htc aa w S'
end Go.Proofs.Ytnlcjlhcghgaoaa
