/-
  Merged: DkO, Dk7, Dk8, Dk9, Dk10, Dk11, Dk12, Dk15, Dk17, Dk18, Dk19, DkP, Dk20, Dk21, Dk22, Dk23, Dk24, Dk13, Dk14, Dk16, Dk25, BkE, BpC
-/
import Derived.Test.YtfhmdlihnidjoaaRows
import Derived.Test.YtfhmdlihnidjoaaPf1
import Derived.Test.YtfhmdlihnidjoaaPf12
import Derived.Deep.Fields
import Derived.Deep.Slices
import Derived.WalkKit
import Derived.Test.YtfhmdlihnidjoaaPf5
import Derived.Test.YtfhmdlihnidjoaaPf11
import Derived.Test.YtfhmdlihnidjoaaPf9
namespace Go.Proofs.Ytfhmdlihnidjoaa
set_option linter.unusedSectionVars false
set_option maxRecDepth 100000
set_option linter.unusedVariables false
set_option linter.unusedSimpArgs false
open Go.ChangeShapes Go.WideShapes Go.ChangeAt Go.RowKit Go.Deep
section
variable {H : Type} {enc : TypeId × Value → H} {W : World}
end
end Go.Proofs.Ytfhmdlihnidjoaa
namespace Go.Proofs.Ytfhmdlihnidjoaa
set_option linter.unusedVariables false
set_option linter.unusedSectionVars false
set_option linter.unusedSimpArgs false
set_option maxRecDepth 100000
set_option maxHeartbeats 8000000
open Go Go.RowKit SZ
attribute [local irreducible] post GD Nxt Qai
def lastD (D : List (Int × ByteArray)) (at_ : Nat) (z : ByteArray) : ByteArray := D.foldl (fun w x => if x.1 = (at_ : Int) then x.2 else w) z
structure WInv (n : Nat) (x : List ByteArray × List (Int × ByteArray) × List (Int × ByteArray)) : Prop where
  len : x.1.length = n
  sz : ∀ s ∈ x.1, s.size = 32
  w : ∀ y ∈ x.2.1, (0 ≤ y.1 ∧ y.1 < (n : Int)) ∧ y.2.size = 32
  d : ∀ y ∈ x.2.2, (0 ≤ y.1 ∧ y.1 < (n : Int)) ∧ y.2.size = 32
  last : ∀ j, j < n → x.1.getD j ByteArray.empty = lastD x.2.2 j z32
theorem Qbe {α : Type} (l : List α) (j : Nat) (z : α) (h : j < l.length) : l.getD j z ∈ l := by
  have e : l.getD j z = l[j] := by simp [List.getD, List.getElem?_eq_getElem h]
  rw [e]
  exact List.getElem_mem h
theorem fm_t (n : Int) (w0 : World) : Calls Try.prog 46 #[.int .i64 n, .int .i64 33] w0 fun e w' => e = .returned (.int .i64 (n % 33)) ∧ Below w0.heap.size w0 w' := by
  have hk : Int.tmod (IntKind.i64.wrap (Int.tmod n 33 + 33)) 33 = n % 33 := by
    have h1 := Int.tmod_lt_of_pos n (show (0 : Int) < 33 by omega)
    have h2 : -33 < Int.tmod n 33 := by
      have := Int.lt_tmod_of_pos n (show (0 : Int) < 33 by omega)
      omega
    have h3 : (Int.tmod n 33) % 33 = n % 33 := by rw [Int.tmod_def]; omega
    rw [show IntKind.i64.wrap (Int.tmod n 33 + 33) = Int.tmod n 33 + 33 by rw [IntKind.wrap_i64]; omega, Int.tmod_eq_emod_of_nonneg (by omega)]
    omega
  refine Qas [] [] (by intro f hf; cases hf) Try.func46 rfl rfl fun aa S => ?_
  refine Qap 1 60 7 S fun bs aa w S => ?_
  refine QaB 11 S hk fun S => ?_
  refine Qah S fun bs aa w S => ?_
  exact Qan S (by kernel_rfl) (by kernel_rfl) fun hg => ⟨rfl, Qaq hg⟩
def Qat (g : Nat) (S : List ByteArray) : RF := ⟨fun b => b = g, fun w => ∃ cs : List Value, w.heap[g]? = some (.cells cs.toArray 9 (0, 0)) ∧ cs.take S.length = S.map Value.string, fun w h b hb => by
  subst hb
  obtain ⟨cs, h, _⟩ := h
  exact (Array.getElem?_eq_some_iff.1 h).1, fun w w' h hb => by
  obtain ⟨cs, h, q⟩ := h
  exact ⟨cs, (hb g rfl).trans h, q⟩⟩
theorem Qew {w : World} {g : Nat} {S : List ByteArray} (h : (Qat g S).P w) : StrAt w g 0 S := by
  obtain ⟨cs, h, q⟩ := h
  exact Qgd h q
theorem QiM {w : World} {g : Nat} {S : List ByteArray} (h : (Qat g S).P w) (j : Nat) (hj : j < S.length) (s : ByteArray) : (storeVar 9 ⟨g, 0 + j * 1, none⟩ (.string s)).run Try.prog w = .ok () (w.setCells g j [.string s]) ∧ (Qat g (S.set j s)).P (w.setCells g j [.string s]) := by
  obtain ⟨cs, h, q⟩ := h
  have hl : j < cs.length := by
    have := congrArg List.length q
    simp at this
    omega
  obtain ⟨hr, he⟩ := st_at (P := Try.prog) (ty := 9) (v := .string s) (off := j) (by kernel_rfl) (by kernel_rfl) (by kernel_rfl) h hl
  refine ⟨by rw [Nat.mul_one, Nat.zero_add]; exact hr, _, he, ?_⟩
  rw [List.length_set, List.take_set, List.map_set, q]
def unA (W : List (Int × ByteArray)) : Nat → List ByteArray × List ByteArray → List ByteArray × List ByteArray
  | 0, x => x
  | j + 1, x => unA W j (x.1.set (W.getD j (0, ByteArray.empty)).1.toNat (W.getD j (0, ByteArray.empty)).2, x.2.set j (x.1.getD (W.getD j (0, ByteArray.empty)).1.toNat ByteArray.empty))
theorem mk_run2 (n : Nat) (hn : n ≤ 1000) (w : World) : (Instr.makeSlice 27 (.int .i64 (n : Int)) (.int .i64 (n : Int))).run Try.prog w = .ok (.slice (some ⟨w.heap.size, 0, none⟩) n n) (w.alloc (.cells (zS n 0).toArray 9 (0, 0))) := by
  have hI : (Try.prog.info? 9).map (fun i => (i.zero, i.size, i.bytes)) = some (some (.string ByteArray.empty), 1, 16) := by kernel_rfl
  cases hi : Try.prog.info? 9 with
  | none => rw [hi] at hI; cases hI
  | some i =>
    rw [hi] at hI
    simp only [Option.map_some, Option.some.injEq, Prod.mk.injEq] at hI
    obtain ⟨h1, h2, h3⟩ := hI
    have h := run_makeSlice (P := Try.prog) w 27 9 i (.string ByteArray.empty) Try.underlying27 hi h1 .i64 .i64 (n : Int) (n : Int) (by omega) (by omega) (by rw [h2, Int.toNat_natCast]; omega) (by rw [h3]; omega) (by omega)
    rw [h2, Int.toNat_natCast, Nat.mul_one, made_str] at h
    exact h
theorem sl_hm (c p n cc j : Nat) (h1 : j ≤ cc) (W : World) : (Instr.sliceAt 28 (.slice (some ⟨c, p, none⟩) n cc) none (some (.int .i64 (j : Int))) (some (.int .i64 (j : Int)))).run Try.prog W = .ok (.slice (some ⟨c, p, none⟩) j j) W := by
  have hu : Try.prog.underlying 28 = some (.slice (Try.prog.elem 28)) := by rw [Try.underlying28]; kernel_rfl
  rw [run_sliceAt_slice W _ _ _ _ _ hu, run_slice_any W _ _ _ _ hu]
  have hs : (Instr.sliceBounds true n cc none (some (.int .i64 (j : Int))) (some (.int .i64 (j : Int)))).run Try.prog W = .ok (0, j, j) W := by
    simp [Instr.sliceBounds, run_sliceBound, h1]
  rw [hs]
  have hI : (Try.prog.info? (Try.prog.elem 28)).isSome = true := by kernel_rfl
  have ha : (⟨c, p, none⟩ : Addr).add 0 = ⟨c, p, none⟩ := by unfold Addr.add; split <;> simp_all
  obtain ⟨ii, hi⟩ := Option.isSome_iff_exists.1 hI
  simp [sizeOf, typeInfo, sliced, hi, ha]
noncomputable def udC : Cfg := ⟨goZ 60 [] [.code (QaW Try.f44)], ⟨0, [], []⟩⟩
noncomputable def udS (g sl sc gd tl : Nat) (ta : Option Addr) (n cc : Nat) : SS := ⟨52, [(0, .v (.slice (some ⟨g, 0, none⟩) sl sc)), (5, .v (.slice (some ⟨gd, 0, none⟩) tl tl)), (6, .v (.slice ta n cc))], []⟩
section
variable (w0 : World) (g sl sc gd tl : Nat) (W : List (Int × ByteArray)) (c p : Nat) (ta : Option Addr) (hgd : w0.heap.size ≤ gd) (hg : g < w0.heap.size) (hc : W.length = 0 ∨ (c ≠ g ∧ c < w0.heap.size)) (hW : W.length = tl) (hsl : sl ≤ 512) (htl : tl ≤ 1000) (hr : ∀ j, j < tl → 0 ≤ (W.getD j (0, ByteArray.empty)).1 ∧ (W.getD j (0, ByteArray.empty)).1 < (sl : Int)) (hta : tl = 0 ∨ ta = some ⟨c, p, none⟩)
include w0 g sl sc gd tl W c p ta hgd hg hc hW hsl htl hr hta
theorem ud_end (m : Nat) (S_ Dt : List ByteArray) (hS : S_.length = sl) (hD : Dt.length = tl) (cc : Nat) (hcc : 0 ≤ cc) (aa : Act) (w : World) (S : Sy w0 [g] [] (udS g sl sc gd tl ta (0) cc) [Qat g S_, Qat gd Dt, QaP c p W] aa w) : post Try.prog (.rnd (m + 1) (Qa_ udC) :: udC.k.tail) (bodyPost Try.prog Try.f44 fun e w' => ∃ gd, e = .returned (.slice (some ⟨gd, 0, none⟩) tl tl) ∧ w0.heap.size ≤ gd ∧ (Qat g (S_, Dt).1).P w' ∧ (Qat gd (S_, Dt).2).P w' ∧ Gr w0 w' [g]) .normal aa w := by
  refine Qap (c := ⟨(.rnd (m + 1) (Qa_ udC) :: udC.k.tail), udS g sl sc gd tl ta (0) cc⟩) 3 50 2 S fun bs aa w S => ?_
  refine Qad 1 S fun bs aa w S => ?_
  refine Qab 15 S (rfl : decide (((0 : Nat) : Int) > 0) = false) fun S => ?_
  refine Qah S fun bs aa w S => ?_
  exact Qan S (by kernel_rfl) (by kernel_rfl) fun hg => ⟨gd, rfl, hgd, S.fact (f := Qat g S_) (by simp), S.fact (f := Qat gd Dt) (by simp), hg⟩
theorem ud_step (m j : Nat) (hj : j < tl) (R : List ByteArray × List ByteArray) (S_ Dt : List ByteArray) (hS : S_.length = sl) (hD : Dt.length = tl) (ih : ∀ (aa : Act) (w : World) (S : Sy w0 [g] [] (udS g sl sc gd tl ta j j) [Qat g ((S_.set (W.getD j (0, ByteArray.empty)).1.toNat (W.getD j (0, ByteArray.empty)).2, Dt.set j (S_.getD (W.getD j (0, ByteArray.empty)).1.toNat ByteArray.empty))).1, Qat gd ((S_.set (W.getD j (0, ByteArray.empty)).1.toNat (W.getD j (0, ByteArray.empty)).2, Dt.set j (S_.getD (W.getD j (0, ByteArray.empty)).1.toNat ByteArray.empty))).2, QaP c p W] aa w), post Try.prog (.rnd (m) (Qa_ udC) :: udC.k.tail) (bodyPost Try.prog Try.f44 fun e w' => ∃ gd, e = .returned (.slice (some ⟨gd, 0, none⟩) tl tl) ∧ w0.heap.size ≤ gd ∧ (Qat g R.1).P w' ∧ (Qat gd R.2).P w' ∧ Gr w0 w' [g]) .normal aa w) (cc : Nat) (hcc : j + 1 ≤ cc) (aa : Act) (w : World) (S : Sy w0 [g] [] (udS g sl sc gd tl ta (j + 1) cc) [Qat g S_, Qat gd Dt, QaP c p W] aa w) : post Try.prog (.rnd (m + 1) (Qa_ udC) :: udC.k.tail) (bodyPost Try.prog Try.f44 fun e w' => ∃ gd, e = .returned (.slice (some ⟨gd, 0, none⟩) tl tl) ∧ w0.heap.size ≤ gd ∧ (Qat g R.1).P w' ∧ (Qat gd R.2).P w' ∧ Gr w0 w' [g]) .normal aa w := by
  obtain rfl := hta.resolve_left (by omega)
  obtain ⟨hx0, hx1⟩ := hr j hj
  have hcg := hc.resolve_left (by omega)
  refine Qap (c := ⟨(.rnd (m + 1) (Qa_ udC) :: udC.k.tail), udS g sl sc gd tl (some ⟨c, p, none⟩) (j + 1) cc⟩) 3 50 2 S fun bs aa w S => ?_
  refine Qad 1 S fun bs aa w S => ?_
  refine Qab 15 S (decide_eq_true (by omega) : decide (((j + 1 : Nat) : Int) > 0) = true) fun S => ?_
  refine Qap 4 60 3 S fun bs aa w S => ?_
  refine QaB 18 S (by rw [IntKind.wrap_i64]; omega : IntKind.i64.wrap (((j + 1 : Nat) : Int) - 1) = (j : Int)) fun S => ?_
  refine Qap 5 60 2 S fun bs aa w S => ?_
  refine QbI (b := c) (off := p) (len := j + 1) (n := j) (size := 2) (i := (j : Int)) S (by kernel_rfl) rfl (by omega) fun aa S => ?_
  refine Qbf S (ld_was (j := j) (S.fact (f := QaP c p W) (by simp)) (by omega)) (by kernel_rfl) fun aa S => ?_
  refine Qap 6 60 3 S fun bs aa w S => ?_
  refine Qab 25 S (decide_eq_true hx0 : decide ((W.getD j (0, ByteArray.empty)).1 ≥ 0) = true) fun S => ?_
  refine Qad 6 S fun bs aa w S => ?_
  refine Qab 31 S (decide_eq_true hx1 : decide ((W.getD j (0, ByteArray.empty)).1 < (sl : Int)) = true) fun S => ?_
  refine Qap 7 60 5 S fun bs aa w S => ?_
  refine QbI (b := g) (off := 0) (len := sl) (n := (W.getD j (0, ByteArray.empty)).1.toNat) (size := 1) (i := (W.getD j (0, ByteArray.empty)).1) S (by kernel_rfl) (Int.toNat_of_nonneg hx0).symm (by omega) fun aa S => ?_
  refine Qbf S (Qa6 (ty := 9) (b := g) (off := 0 + (W.getD j (0, ByteArray.empty)).1.toNat * 1) (by kernel_rfl) (by rw [Nat.mul_one]; exact Qew (S.fact (f := Qat g S_) (by simp)) _ (by omega))) (by kernel_rfl) fun aa S => ?_
  refine QbI (b := gd) (off := 0) (len := tl) (n := j) (size := 1) (i := (j : Int)) S (by kernel_rfl) rfl hj fun aa S => ?_
  obtain ⟨hr1, he1⟩ := QiM (S.fact (f := Qat gd Dt) (by simp)) j (by omega) (S_.getD (W.getD j (0, ByteArray.empty)).1.toNat ByteArray.empty)
  have hap := (S.fs (Qat gd Dt) (by simp)).2
  refine QgR (ty := 9) (ad := ⟨gd, 0 + j * 1, none⟩) (x := .v (.string (S_.getD (W.getD j (0, ByteArray.empty)).1.toNat ByteArray.empty))) (v := .string (S_.getD (W.getD j (0, ByteArray.empty)).1.toNat ByteArray.empty)) S (by kernel_rfl) rfl hr1 (QcX w gd j _) (Or.inr hgd) [Qat g S_, QaP c p W] (by intro f hf; simp only [List.mem_cons, List.not_mem_nil, or_false] at hf; rcases hf with rfl | rfl; exact ⟨by simp, fun hb => by have h1 : gd = g := hb; omega⟩; exact ⟨by simp, fun hb => by have h1 : gd = c := hb.1; omega⟩) (fun i hi e => hap i hi e) fun aa S => ?_
  have S := S.add (Qat gd (Dt.set j (S_.getD (W.getD j (0, ByteArray.empty)).1.toNat ByteArray.empty))) he1 hap
  refine Qap 8 60 5 S fun bs aa w S => ?_
  refine QbI (b := g) (off := 0) (len := sl) (n := (W.getD j (0, ByteArray.empty)).1.toNat) (size := 1) (i := (W.getD j (0, ByteArray.empty)).1) S (by kernel_rfl) (Int.toNat_of_nonneg hx0).symm (by omega) fun aa S => ?_
  obtain ⟨hr2, he2⟩ := QiM (S.fact (f := Qat g S_) (by simp)) (W.getD j (0, ByteArray.empty)).1.toNat (by omega) (W.getD j (0, ByteArray.empty)).2
  have hap2 := (S.fs (Qat g S_) (by simp)).2
  refine QgR (ty := 9) (ad := ⟨g, 0 + (W.getD j (0, ByteArray.empty)).1.toNat * 1, none⟩) (x := .v (.string (W.getD j (0, ByteArray.empty)).2)) (v := .string (W.getD j (0, ByteArray.empty)).2) S (by kernel_rfl) rfl hr2 (QcX w g _ _) (Or.inl (by simp)) [Qat gd (Dt.set j (S_.getD (W.getD j (0, ByteArray.empty)).1.toNat ByteArray.empty)), QaP c p W] (by intro f hf; simp only [List.mem_cons, List.not_mem_nil, or_false] at hf; rcases hf with rfl | rfl; exact ⟨by simp, fun hb => by have h1 : g = gd := hb; omega⟩; exact ⟨by simp, fun hb => by have h1 : g = c := hb.1; omega⟩) (fun i hi e => hap2 i hi e) fun aa S => ?_
  have S := S.add (Qat g (S_.set (W.getD j (0, ByteArray.empty)).1.toNat (W.getD j (0, ByteArray.empty)).2)) he2 hap2
  refine Qap 9 60 3 S fun bs aa w S => ?_
  refine QcC (op := .slice 28 (.tmp 47) none (some (.tmp 48)) (some (.tmp 49))) (ty := 28) (v := .slice (some ⟨c, p, none⟩) j j) S (by kernel_rfl) (QlU (p := .slice (some ⟨c, p, none⟩) (j + 1) cc) (l2 := none) (h2 := some (.v (.int .i64 (j : Int)))) (m2 := some (.v (.int .i64 (j : Int)))) (by kernel_rfl) (by kernel_rfl) (by kernel_rfl) (by kernel_rfl) (fun W => sl_hm c p (j + 1) cc j (by omega) W)) fun aa S => ?_
  refine Qaj ⟨0, [999]⟩ 50 S fun bs aa w S => ?_
  have S2 := S.to [] (udS g sl sc gd tl (some ⟨c, p, none⟩) j j) (by kernel_rfl) (by kernel_rfl) (by kernel_rfl) (by kernel_rfl) (by kernel_rfl)
  refine Qag (k' := (.rnd (m) (Qa_ udC) :: udC.k.tail)) (by kernel_rfl) ?_
  exact ih aa w S2
theorem ud_all : ∀ (n : Nat), n ≤ tl → ∀ (S_ Dt : List ByteArray) (hS : S_.length = sl) (hD : Dt.length = tl) (cc : Nat) (hcc : n ≤ cc) (aa : Act) (w : World) (S : Sy w0 [g] [] (udS g sl sc gd tl ta (n) cc) [Qat g S_, Qat gd Dt, QaP c p W] aa w), post Try.prog (.rnd (n + 1) (Qa_ udC) :: udC.k.tail) (bodyPost Try.prog Try.f44 fun e w' => ∃ gd, e = .returned (.slice (some ⟨gd, 0, none⟩) tl tl) ∧ w0.heap.size ≤ gd ∧ (Qat g (unA W n (S_, Dt)).1).P w' ∧ (Qat gd (unA W n (S_, Dt)).2).P w' ∧ Gr w0 w' [g]) .normal aa w := by
  intro n
  induction n with
  | zero => intro hn S_ Dt hS hD cc hcc aa w S; exact ud_end w0 g sl sc gd tl W c p ta hgd hg hc hW hsl htl hr hta 0 S_ Dt hS hD cc hcc aa w S
  | succ j ih =>
    intro hn S_ Dt hS hD cc hcc aa w S
    exact ud_step w0 g sl sc gd tl W c p ta hgd hg hc hW hsl htl hr hta (j + 1) j (by omega) (unA W (j + 1) (S_, Dt)) S_ Dt hS hD (fun aa w S => ih (by omega) _ _ (by simp [hS]) (by simp [hD]) j (Nat.le_refl _) aa w S) cc hcc aa w S
end
theorem undo_t (w0 : World) (g sl sc tl tc : Nat) (W : List (Int × ByteArray)) (c p : Nat) (ta : Option Addr) (hc : W.length = 0 ∨ (c ≠ g ∧ c < w0.heap.size)) (hW : W.length = tl) (hsl : sl ≤ 512) (htl : tl ≤ 1000) (hr : ∀ j, j < tl → 0 ≤ (W.getD j (0, ByteArray.empty)).1 ∧ (W.getD j (0, ByteArray.empty)).1 < (sl : Int)) (hta : tl = 0 ∨ ta = some ⟨c, p, none⟩) (htc : tl ≤ tc) (S_ : List ByteArray) (hS : S_.length = sl) (hA : (Qat g S_).P w0) (hB : WasAt w0 c p W) : Calls Try.prog 44 #[.slice (some ⟨g, 0, none⟩) sl sc, .slice ta tl tc] w0 fun e w' => ∃ gd, e = .returned (.slice (some ⟨gd, 0, none⟩) tl tl) ∧ w0.heap.size ≤ gd ∧ (Qat g (unA W tl (S_, List.replicate tl ByteArray.empty)).1).P w' ∧ (Qat gd (unA W tl (S_, List.replicate tl ByteArray.empty)).2).P w' ∧ Gr w0 w' [g] := by
  have hg : g < w0.heap.size := (Qat g S_).lt w0 hA g rfl
  refine Qas [g] [Qat g S_, QaP c p W] (by intro f hf; simp only [List.mem_cons, List.not_mem_nil, or_false] at hf; rcases hf with rfl | rfl; exact hA; exact hB) Try.func44 rfl rfl fun aa S => ?_
  refine Qap 1 60 2 S fun bs aa w S => ?_
  refine sy_mk (t := 27) (u := .int .i64 (tl : Int)) (v := .int .i64 (tl : Int)) (n := tl) (cs := zS tl 0) (e := 9) S (by kernel_rfl) (mk_run2 tl htl) fun gd aa w hb0 hnb hnf hh hb S => ?_
  have S := S.add (Qat gd (List.replicate tl ByteArray.empty)) ⟨zS tl 0, hh, by simp [zS]⟩ hnb
  refine Qah S fun bs aa w S => ?_
  have S := S.sub (F' := [Qat g S_, Qat gd (List.replicate tl ByteArray.empty), QaP c p W]) (by intro f hf; simp only [List.mem_cons, List.not_mem_nil, or_false] at hf; rcases hf with rfl | rfl | rfl <;> simp)
  have S' := S.to [] (udS g sl sc gd tl ta tl tc) (by kernel_rfl) (by kernel_rfl) (by kernel_rfl) (by kernel_rfl) (by kernel_rfl)
  refine QaR (tl + 1) (by kernel_rfl) ?_
  refine Qag (k' := (.rnd (tl + 1) (Qa_ udC) :: udC.k.tail)) (by kernel_rfl) ?_
  exact ud_all w0 g sl sc gd tl W c p ta hb0 hg hc hW hsl htl hr hta tl (Nat.le_refl _) S_ _ hS (by simp) tc htc aa w S'
def Qg_ (a b : ByteArray) (m : Nat) : ByteArray := a.extract 0 m ++ b.extract m b.size
theorem QkE (a b : ByteArray) (m : Nat) (ha : a.size = 32) (hb : b.size = 32) (hm : m ≤ 32) : (Qg_ a b m).size = 32 := by
  unfold Qg_
  rw [ByteArray.size_append, ByteArray.size_extract, ByteArray.size_extract]
  omega
def QaY (cs : List Int) (j : Nat) : Nat := if j < cs.length then (cs.getD j 0 % 33).toNat else 32
theorem QeQ (cs : List Int) (j : Nat) : QaY cs j ≤ 32 := by unfold QaY; split <;> omega
def Qbm (w : World) (b o : Nat) (l : List Int) : Prop := ∀ j, j < l.length → w.cell? ⟨b, o + j, none⟩ = some (.int .i64 (l.getD j 0))
def Qax (b o : Nat) (l : List Int) : RF := ⟨fun b' => b' = b ∧ l.length ≠ 0, fun w => Qbm w b o l, fun w h b' hb => by
  obtain ⟨rfl, hl⟩ := hb
  exact World.block_lt_of_cell? w _ (h 0 (by omega)), fun w w' h hb j hj => (World.cell?_of_block (a := ⟨b, o + j, none⟩) (hb b ⟨rfl, by omega⟩)).trans (h j hj)⟩
theorem slS_h (s : ByteArray) (m : Nat) (h : m ≤ s.size) (W : World) : (Instr.sliceAt 9 (.string s) none (some (.int .i64 (m : Int))) none).run Try.prog W = .ok (.string (s.extract 0 m)) W := by
  have hu : Try.prog.underlying 9 = some .string := Try.underlying9
  rw [run_sliceAt_string W _ _ _ _ _ hu, run_slice_string_h W _ _ hu _ _ (by omega) (by omega), Int.toNat_natCast]
theorem slS_l (s : ByteArray) (m : Nat) (h : m ≤ s.size) (W : World) : (Instr.sliceAt 9 (.string s) (some (.int .i64 (m : Int))) none none).run Try.prog W = .ok (.string (s.extract m s.size)) W := by
  have hu : Try.prog.underlying 9 = some .string := Try.underlying9
  rw [run_sliceAt_string W _ _ _ _ _ hu, run_slice_string_l W _ _ hu _ _ (by omega) (by omega), Int.toNat_natCast]
theorem gr_own {w0 w : World} {bs : List Nat} {K : List Bx} {g : Nat} (hl : bs.length = K.length) (h0 : ∀ i k, K[i]? = some k → w0.heap[bs.getD i 0]? = some (.cells k.cs.toArray k.ty (0, 0))) (h1 : ∀ i k, K[i]? = some k → w.heap[bs.getD i 0]? = some (.cells k.cs.toArray k.ty (0, 0))) (hg : Gr w0 w (bs ++ [g])) : w0.grownBy w (some g) := by
  refine ⟨hg.os, hg.tape, hg.output, hg.size, fun k hk hne => ?_⟩
  by_cases hm : k ∈ bs
  · obtain ⟨i, hi, rfl⟩ := List.getElem_of_mem hm
    have e : bs.getD i 0 = bs[i] := by simp [List.getD, List.getElem?_eq_getElem hi]
    have hk2 := List.getElem?_eq_getElem (l := K) (show i < K.length by omega)
    rw [← e, h1 i _ hk2, h0 i _ hk2]
  · exact hg.block k hk (by simp only [List.mem_append, List.mem_singleton, not_or]; exact ⟨hm, fun e => hne (by rw [e])⟩)
def rpK (d : Dk) (ca : Option Addr) (cl cc g sl sc gd tl : Nat) : List Bx := [⟨26, [.slice ca cl cc]⟩, ⟨30, d.cs⟩, ⟨27, [.slice (some ⟨gd, 0, none⟩) tl tl]⟩, ⟨27, [.slice (some ⟨g, 0, none⟩) sl sc]⟩]
def rpA (j : Nat) : List SV := [.v (.int .i64 (j : Int)), .p 0 0, .p 1 0, .p 2 0, .p 3 0]
noncomputable def rpS (j m : Nat) (K : List Bx) : SS := ⟨54, [(0, .v (.int .i64 (j : Int))), (1, .p 0 0), (2, .p 1 0), (3, .p 2 0), (4, .p 3 0), (6, .v (.int .i64 (m : Int)))], K⟩
def goM : Nat → Nat → List Nat → List It → List It
  | n + 1, r, ch, .code (.seq x y) :: k => goM n r ch (.code x :: .code y :: k)
  | n + 1, r, ch, .code (.block id c) :: k => goM n r ch (.code c :: .blk id :: k)
  | n + 1, r + 1, ch, .code (.region _ _ _) :: k => goM n r ch k
  | n + 1, r, ch, .code .skip :: k => goM n r ch k
  | n + 1, r, ch, .blk _ :: k => goM n r ch k
  | n + 1, r, c :: ch, .code (.cond _ x y) :: k => goM n r ch (.code (if c = 1 then x else y) :: k)
  | n + 1, r, _ :: ch, .code (.loop _) :: k => goM n r ch k
  | _, _, _, k => k
noncomputable def rpC : List It := goM 60 2 [0] [.code (QaW Try.f45)]
section
variable (w0 : World) (j : Nat) (d : Dk) (hd : d.ok) (hj : j < d.tl) (g gd sc : Nat) (S1 Dt : List ByteArray) (hS : S1.length = d.sl) (hD : Dt.length = d.tl) (hA : (Dt.getD j ByteArray.empty).size = 32) (hB : (S1.getD (d.W.getD j (0, ByteArray.empty)).1.toNat ByteArray.empty).size = 32) (hx : 0 ≤ (d.W.getD j (0, ByteArray.empty)).1 ∧ (d.W.getD j (0, ByteArray.empty)).1 < d.sl) (ca : Option Addr) (cc cb co : Nat) (cs : List Int) (hca : cs.length = 0 ∨ ca = some ⟨cb, co, none⟩) (b0 b1 b2 b3 : Nat) (hgg : gd ≠ g) (hK : ∀ i k, (rpK d ca cs.length cc g d.sl sc gd d.tl)[i]? = some k → w0.heap[[b0, b1, b2, b3].getD i 0]? = some (.cells k.cs.toArray k.ty (0, 0)))
include w0 j d hd hj g gd sc S1 Dt hS hD hA hB hx ca cc cb co cs hca b0 b1 b2 b3 hgg hK
theorem rp_2 (aa : Act) (w : World) (S : Sy w0 ([b0, b1, b2, b3] ++ [g]) [b0, b1, b2, b3] (rpS j (QaY cs j) (rpK d ca cs.length cc g d.sl sc gd d.tl)) [Qat g S1, Qat gd Dt, QaP d.c d.p d.W, Qax cb co cs] aa w) : post Try.prog rpC (bodyPost Try.prog Try.f45 fun e w' => e = .returned (.tuple #[]) ∧ (Qat g (S1.set (d.W.getD j (0, ByteArray.empty)).1.toNat (Qg_ (Dt.getD j ByteArray.empty) (S1.getD (d.W.getD j (0, ByteArray.empty)).1.toNat ByteArray.empty) (QaY cs j)))).P w' ∧ w0.grownBy w' (some g)) .normal aa w := by
  have hm := QeQ cs j
  have hxn : (d.W.getD j (0, ByteArray.empty)).1 = (((d.W.getD j (0, ByteArray.empty)).1.toNat : Nat) : Int) := (Int.toNat_of_nonneg hx.1).symm
  refine Qap (c := ⟨rpC, rpS j (QaY cs j) (rpK d ca cs.length cc g d.sl sc gd d.tl)⟩) 3 60 3 S fun bs aa w S => ?_
  refine QbI (b := d.c) (off := d.p) (len := d.tl) (n := j) (size := 2) (i := (j : Int)) S (by rw [← hd.hw.resolve_left (by omega)]; kernel_rfl) rfl hj fun aa S => ?_
  refine Qad 1 S fun bs aa w S => ?_
  refine Qbf S (Qa6 (ty := 3) (b := d.c) (off := d.p + j * 2) (by kernel_rfl) ((S.fact (f := QaP d.c d.p d.W) (by simp)) j (by rw [hd.hW]; exact hj)).1) (by kernel_rfl) fun aa S => ?_
  refine Qap 4 60 2 S fun bs aa w S => ?_
  refine QaJ S (has_t d (d.W.getD j (0, ByteArray.empty)).1 hx w) (by kernel_rfl) fun aa w hb S => ?_
  refine Qah S fun bs aa w S => ?_
  letI : KP := ⟨[38, 39, 50, 51, 52]⟩
  letI : HF := ⟨[Qat gd Dt]⟩
  refine QaF [2, 3] (by kernel_rfl) (by kernel_rfl) S (by kernel_rfl) (fun aa w D => ?_) (fun f hf => by have e : f = Qat gd Dt := List.mem_singleton.1 hf; subst e; simp)
  refine QaZ 4 D (by kernel_rfl) (by kernel_rfl) (by kernel_rfl) (b := gd) (off := 0) (len := d.tl) (n := j) (size := 1) (ix := (j : Int)) (by kernel_rfl) rfl (hj) fun aa D => ?_
  refine Qbl 5 D (by kernel_rfl) (by kernel_rfl) (by kernel_rfl) (ty := 9) (ad := ⟨gd, 0 + j * 1, none⟩) (v := .string (Dt.getD j ByteArray.empty)) (fun W hW => Qa6 (by kernel_rfl) (by rw [Nat.mul_one]; exact Qew (hW _ (List.mem_singleton.2 rfl)) j (by omega))) (by kernel_rfl) fun aa D => ?_
  refine QaZ 9 D (by kernel_rfl) (by kernel_rfl) (by kernel_rfl) (b := gd) (off := 0) (len := d.tl) (n := j) (size := 1) (ix := (j : Int)) (by kernel_rfl) rfl (hj) fun aa D => ?_
  refine Qbl 10 D (by kernel_rfl) (by kernel_rfl) (by kernel_rfl) (ty := 9) (ad := ⟨gd, 0 + j * 1, none⟩) (v := .string (Dt.getD j ByteArray.empty)) (fun W hW => Qa6 (by kernel_rfl) (by rw [Nat.mul_one]; exact Qew (hW _ (List.mem_singleton.2 rfl)) j (by omega))) (by kernel_rfl) fun aa D => ?_
  refine QaZ 16 D (by kernel_rfl) (by kernel_rfl) (by kernel_rfl) (b := g) (off := 0) (len := d.sl) (n := (d.W.getD j (0, ByteArray.empty)).1.toNat) (size := 1) (ix := (d.W.getD j (0, ByteArray.empty)).1) (by kernel_rfl) hxn (by omega) fun aa D => ?_
  refine QaZ 21 D (by kernel_rfl) (by kernel_rfl) (by kernel_rfl) (b := g) (off := 0) (len := d.sl) (n := (d.W.getD j (0, ByteArray.empty)).1.toNat) (size := 1) (ix := (d.W.getD j (0, ByteArray.empty)).1) (by kernel_rfl) hxn (by omega) fun aa D => ?_
  refine Qbj (fun d v c a w h => by cases d <;> exact h) 12 (op := .call { callee := .builtin .min, args := #[.tmp 32, .tmp 37], argTypes := #[3, 3] }) (ty := 3) (v := .int .i64 ((QaY cs j : Nat) : Int)) D (by kernel_rfl) (by kernel_rfl) (by kernel_rfl) (by kernel_rfl) (Qjg (p := ((QaY cs j : Nat) : Int)) (q := (((Dt.getD j ByteArray.empty).size : Nat) : Int)) (by kernel_rfl) (by kernel_rfl) (by split <;> omega)) fun aa D => ?_
  refine Qbj (fun d v c a w h => by cases d <;> exact h) 13 (op := .slice 9 (.tmp 31) none (some (.tmp 38)) none) (ty := 9) (v := .string ((Dt.getD j ByteArray.empty).extract 0 (QaY cs j))) D (by kernel_rfl) (by kernel_rfl) (by kernel_rfl) (by kernel_rfl) (Qhi (p := (Dt.getD j ByteArray.empty)) (l2 := none) (h2 := some (.v (.int .i64 ((QaY cs j : Nat) : Int)))) Try.underlying9 (by kernel_rfl) (by kernel_rfl) (by kernel_rfl) (fun W => slS_h (Dt.getD j ByteArray.empty) (QaY cs j) (by omega) W)) fun aa D => ?_
  refine Qac [17, 22] (by kernel_rfl) (by kernel_rfl) rfl (na2 ?_ ?_)
  · refine QjU 17 D (by kernel_rfl) (Qa6 (ty := 9) (b := g) (off := 0 + (d.W.getD j (0, ByteArray.empty)).1.toNat * 1) (by kernel_rfl) (by rw [Nat.mul_one]; exact Qew (D.S.fact (f := Qat g S1) (by simp)) _ (by omega))) (by kernel_rfl) fun aa D => ?_
    refine Qac [22] (by kernel_rfl) (by kernel_rfl) rfl (na1 ?_)
    refine QjU 22 D (by kernel_rfl) (Qa6 (ty := 9) (b := g) (off := 0 + (d.W.getD j (0, ByteArray.empty)).1.toNat * 1) (by kernel_rfl) (by rw [Nat.mul_one]; exact Qew (D.S.fact (f := Qat g S1) (by simp)) _ (by omega))) (by kernel_rfl) fun aa D => ?_
    refine Qbj (fun d v c a w h => by cases d <;> exact h) 24 (op := .call { callee := .builtin .min, args := #[.tmp 44, .tmp 49], argTypes := #[3, 3] }) (ty := 3) (v := .int .i64 ((QaY cs j : Nat) : Int)) D (by kernel_rfl) (by kernel_rfl) (by kernel_rfl) (by kernel_rfl) (Qjg (p := ((QaY cs j : Nat) : Int)) (q := (((S1.getD (d.W.getD j (0, ByteArray.empty)).1.toNat ByteArray.empty).size : Nat) : Int)) (by kernel_rfl) (by kernel_rfl) (by split <;> omega)) fun aa D => ?_
    refine Qbj (fun d v c a w h => by cases d <;> exact h) 25 (op := .slice 9 (.tmp 43) (some (.tmp 50)) none none) (ty := 9) (v := .string ((S1.getD (d.W.getD j (0, ByteArray.empty)).1.toNat ByteArray.empty).extract (QaY cs j) (S1.getD (d.W.getD j (0, ByteArray.empty)).1.toNat ByteArray.empty).size)) D (by kernel_rfl) (by kernel_rfl) (by kernel_rfl) (by kernel_rfl) (Qhi (p := (S1.getD (d.W.getD j (0, ByteArray.empty)).1.toNat ByteArray.empty)) (l2 := some (.v (.int .i64 ((QaY cs j : Nat) : Int)))) (h2 := none) Try.underlying9 (by kernel_rfl) (by kernel_rfl) (by kernel_rfl) (fun W => slS_l (S1.getD (d.W.getD j (0, ByteArray.empty)).1.toNat ByteArray.empty) (QaY cs j) (by omega) W)) fun aa D => ?_
    refine Qbj (fun d v c a w h => by cases d <;> exact h) 26 (op := .binOp .add 9 (.tmp 39) (.tmp 51) 9) (ty := 9) (v := .string (Qg_ (Dt.getD j ByteArray.empty) (S1.getD (d.W.getD j (0, ByteArray.empty)).1.toNat ByteArray.empty) (QaY cs j))) D (by kernel_rfl) (by kernel_rfl) (by kernel_rfl) (by kernel_rfl) (Qhj (p := (Dt.getD j ByteArray.empty).extract 0 (QaY cs j)) (q := (S1.getD (d.W.getD j (0, ByteArray.empty)).1.toNat ByteArray.empty).extract (QaY cs j) (S1.getD (d.W.getD j (0, ByteArray.empty)).1.toNat ByteArray.empty).size) Try.underlying9 (by kernel_rfl) (by kernel_rfl) (by rw [ByteArray.size_extract, ByteArray.size_extract]; omega)) fun aa D => ?_
    refine QaZ 27 D (by kernel_rfl) (by kernel_rfl) (by kernel_rfl) (b := g) (off := 0) (len := d.sl) (n := (d.W.getD j (0, ByteArray.empty)).1.toNat) (size := 1) (ix := (d.W.getD j (0, ByteArray.empty)).1) (by kernel_rfl) hxn (by omega) fun aa D => ?_
    obtain ⟨hr2, he2⟩ := QiM (D.S.fact (f := Qat g S1) (by simp)) (d.W.getD j (0, ByteArray.empty)).1.toNat (by omega) (Qg_ (Dt.getD j ByteArray.empty) (S1.getD (d.W.getD j (0, ByteArray.empty)).1.toNat ByteArray.empty) (QaY cs j))
    have hap2 := (D.S.fs (Qat g S1) (by simp)).2
    refine Qac [28] (by kernel_rfl) (by kernel_rfl) rfl (na1 ?_)
    refine QiZ 28 [Qat gd Dt] D (by kernel_rfl) (ty := 9) (ad := ⟨g, 0 + (d.W.getD j (0, ByteArray.empty)).1.toNat * 1, none⟩) (x := .v (.string (Qg_ (Dt.getD j ByteArray.empty) (S1.getD (d.W.getD j (0, ByteArray.empty)).1.toNat ByteArray.empty) (QaY cs j)))) (v := .string (Qg_ (Dt.getD j ByteArray.empty) (S1.getD (d.W.getD j (0, ByteArray.empty)).1.toNat ByteArray.empty) (QaY cs j))) (by kernel_rfl) rfl hr2 (QcX w g _ _) (Or.inl (by simp)) (by intro f hf; simp only [List.mem_singleton] at hf; subst hf; exact ⟨by simp, fun hb => by have h1 : g = gd := hb; omega⟩) (fun f hf => hf) (fun i hi e => hap2 i hi e) fun aa D => ?_
    have D := D.addF (Qat g (S1.set (d.W.getD j (0, ByteArray.empty)).1.toNat (Qg_ (Dt.getD j ByteArray.empty) (S1.getD (d.W.getD j (0, ByteArray.empty)).1.toNat ByteArray.empty) (QaY cs j)))) he2 hap2
    refine QaM D (by kernel_rfl) fun S => ?_
    refine Qah S fun bs aa w S => ?_
    have hx0 : w.heap[b0]? = some (.cells #[.slice ca cs.length cc] 26 (0, 0)) := S.bx 0 ⟨26, [.slice ca cs.length cc]⟩ (by kernel_rfl)
    have hx1 : w.heap[b1]? = some (.cells d.cs.toArray 30 (0, 0)) := S.bx 1 ⟨30, d.cs⟩ (by kernel_rfl)
    have hx2 : w.heap[b2]? = some (.cells #[.slice (some ⟨gd, 0, none⟩) d.tl d.tl] 27 (0, 0)) := S.bx 2 ⟨27, [.slice (some ⟨gd, 0, none⟩) d.tl d.tl]⟩ (by kernel_rfl)
    have hx3 : w.heap[b3]? = some (.cells #[.slice (some ⟨g, 0, none⟩) d.sl sc] 27 (0, 0)) := S.bx 3 ⟨27, [.slice (some ⟨g, 0, none⟩) d.sl sc]⟩ (by kernel_rfl)
    have hbx : ∀ i k, (rpK d ca cs.length cc g d.sl sc gd d.tl)[i]? = some k → w.heap[[b0, b1, b2, b3].getD i 0]? = some (.cells k.cs.toArray k.ty (0, 0)) := fun i k hk => match i, hk with | 0, hk => (by obtain rfl := Option.some.inj hk; exact hx0) | 1, hk => (by obtain rfl := Option.some.inj hk; exact hx1) | 2, hk => (by obtain rfl := Option.some.inj hk; exact hx2) | 3, hk => (by obtain rfl := Option.some.inj hk; exact hx3) | i + 4, hk => by cases hk
    exact Qan S (by kernel_rfl) (by kernel_rfl) fun hg => ⟨rfl, S.fact (f := Qat g (S1.set (d.W.getD j (0, ByteArray.empty)).1.toNat (Qg_ (Dt.getD j ByteArray.empty) (S1.getD (d.W.getD j (0, ByteArray.empty)).1.toNat ByteArray.empty) (QaY cs j)))) (by simp), gr_own (bs := [b0, b1, b2, b3]) (K := (rpK d ca cs.length cc g d.sl sc gd d.tl)) rfl hK hbx hg⟩
  · refine QjU 22 D (by kernel_rfl) (Qa6 (ty := 9) (b := g) (off := 0 + (d.W.getD j (0, ByteArray.empty)).1.toNat * 1) (by kernel_rfl) (by rw [Nat.mul_one]; exact Qew (D.S.fact (f := Qat g S1) (by simp)) _ (by omega))) (by kernel_rfl) fun aa D => ?_
    refine Qbj (fun d v c a w h => by cases d <;> exact h) 24 (op := .call { callee := .builtin .min, args := #[.tmp 44, .tmp 49], argTypes := #[3, 3] }) (ty := 3) (v := .int .i64 ((QaY cs j : Nat) : Int)) D (by kernel_rfl) (by kernel_rfl) (by kernel_rfl) (by kernel_rfl) (Qjg (p := ((QaY cs j : Nat) : Int)) (q := (((S1.getD (d.W.getD j (0, ByteArray.empty)).1.toNat ByteArray.empty).size : Nat) : Int)) (by kernel_rfl) (by kernel_rfl) (by split <;> omega)) fun aa D => ?_
    refine Qac [17] (by kernel_rfl) (by kernel_rfl) rfl (na1 ?_)
    refine QjU 17 D (by kernel_rfl) (Qa6 (ty := 9) (b := g) (off := 0 + (d.W.getD j (0, ByteArray.empty)).1.toNat * 1) (by kernel_rfl) (by rw [Nat.mul_one]; exact Qew (D.S.fact (f := Qat g S1) (by simp)) _ (by omega))) (by kernel_rfl) fun aa D => ?_
    refine Qbj (fun d v c a w h => by cases d <;> exact h) 25 (op := .slice 9 (.tmp 43) (some (.tmp 50)) none none) (ty := 9) (v := .string ((S1.getD (d.W.getD j (0, ByteArray.empty)).1.toNat ByteArray.empty).extract (QaY cs j) (S1.getD (d.W.getD j (0, ByteArray.empty)).1.toNat ByteArray.empty).size)) D (by kernel_rfl) (by kernel_rfl) (by kernel_rfl) (by kernel_rfl) (Qhi (p := (S1.getD (d.W.getD j (0, ByteArray.empty)).1.toNat ByteArray.empty)) (l2 := some (.v (.int .i64 ((QaY cs j : Nat) : Int)))) (h2 := none) Try.underlying9 (by kernel_rfl) (by kernel_rfl) (by kernel_rfl) (fun W => slS_l (S1.getD (d.W.getD j (0, ByteArray.empty)).1.toNat ByteArray.empty) (QaY cs j) (by omega) W)) fun aa D => ?_
    refine Qbj (fun d v c a w h => by cases d <;> exact h) 26 (op := .binOp .add 9 (.tmp 39) (.tmp 51) 9) (ty := 9) (v := .string (Qg_ (Dt.getD j ByteArray.empty) (S1.getD (d.W.getD j (0, ByteArray.empty)).1.toNat ByteArray.empty) (QaY cs j))) D (by kernel_rfl) (by kernel_rfl) (by kernel_rfl) (by kernel_rfl) (Qhj (p := (Dt.getD j ByteArray.empty).extract 0 (QaY cs j)) (q := (S1.getD (d.W.getD j (0, ByteArray.empty)).1.toNat ByteArray.empty).extract (QaY cs j) (S1.getD (d.W.getD j (0, ByteArray.empty)).1.toNat ByteArray.empty).size) Try.underlying9 (by kernel_rfl) (by kernel_rfl) (by rw [ByteArray.size_extract, ByteArray.size_extract]; omega)) fun aa D => ?_
    refine QaZ 27 D (by kernel_rfl) (by kernel_rfl) (by kernel_rfl) (b := g) (off := 0) (len := d.sl) (n := (d.W.getD j (0, ByteArray.empty)).1.toNat) (size := 1) (ix := (d.W.getD j (0, ByteArray.empty)).1) (by kernel_rfl) hxn (by omega) fun aa D => ?_
    obtain ⟨hr2, he2⟩ := QiM (D.S.fact (f := Qat g S1) (by simp)) (d.W.getD j (0, ByteArray.empty)).1.toNat (by omega) (Qg_ (Dt.getD j ByteArray.empty) (S1.getD (d.W.getD j (0, ByteArray.empty)).1.toNat ByteArray.empty) (QaY cs j))
    have hap2 := (D.S.fs (Qat g S1) (by simp)).2
    refine Qac [28] (by kernel_rfl) (by kernel_rfl) rfl (na1 ?_)
    refine QiZ 28 [Qat gd Dt] D (by kernel_rfl) (ty := 9) (ad := ⟨g, 0 + (d.W.getD j (0, ByteArray.empty)).1.toNat * 1, none⟩) (x := .v (.string (Qg_ (Dt.getD j ByteArray.empty) (S1.getD (d.W.getD j (0, ByteArray.empty)).1.toNat ByteArray.empty) (QaY cs j)))) (v := .string (Qg_ (Dt.getD j ByteArray.empty) (S1.getD (d.W.getD j (0, ByteArray.empty)).1.toNat ByteArray.empty) (QaY cs j))) (by kernel_rfl) rfl hr2 (QcX w g _ _) (Or.inl (by simp)) (by intro f hf; simp only [List.mem_singleton] at hf; subst hf; exact ⟨by simp, fun hb => by have h1 : g = gd := hb; omega⟩) (fun f hf => hf) (fun i hi e => hap2 i hi e) fun aa D => ?_
    have D := D.addF (Qat g (S1.set (d.W.getD j (0, ByteArray.empty)).1.toNat (Qg_ (Dt.getD j ByteArray.empty) (S1.getD (d.W.getD j (0, ByteArray.empty)).1.toNat ByteArray.empty) (QaY cs j)))) he2 hap2
    refine QaM D (by kernel_rfl) fun S => ?_
    refine Qah S fun bs aa w S => ?_
    have hx0 : w.heap[b0]? = some (.cells #[.slice ca cs.length cc] 26 (0, 0)) := S.bx 0 ⟨26, [.slice ca cs.length cc]⟩ (by kernel_rfl)
    have hx1 : w.heap[b1]? = some (.cells d.cs.toArray 30 (0, 0)) := S.bx 1 ⟨30, d.cs⟩ (by kernel_rfl)
    have hx2 : w.heap[b2]? = some (.cells #[.slice (some ⟨gd, 0, none⟩) d.tl d.tl] 27 (0, 0)) := S.bx 2 ⟨27, [.slice (some ⟨gd, 0, none⟩) d.tl d.tl]⟩ (by kernel_rfl)
    have hx3 : w.heap[b3]? = some (.cells #[.slice (some ⟨g, 0, none⟩) d.sl sc] 27 (0, 0)) := S.bx 3 ⟨27, [.slice (some ⟨g, 0, none⟩) d.sl sc]⟩ (by kernel_rfl)
    have hbx : ∀ i k, (rpK d ca cs.length cc g d.sl sc gd d.tl)[i]? = some k → w.heap[[b0, b1, b2, b3].getD i 0]? = some (.cells k.cs.toArray k.ty (0, 0)) := fun i k hk => match i, hk with | 0, hk => (by obtain rfl := Option.some.inj hk; exact hx0) | 1, hk => (by obtain rfl := Option.some.inj hk; exact hx1) | 2, hk => (by obtain rfl := Option.some.inj hk; exact hx2) | 3, hk => (by obtain rfl := Option.some.inj hk; exact hx3) | i + 4, hk => by cases hk
    exact Qan S (by kernel_rfl) (by kernel_rfl) fun hg => ⟨rfl, S.fact (f := Qat g (S1.set (d.W.getD j (0, ByteArray.empty)).1.toNat (Qg_ (Dt.getD j ByteArray.empty) (S1.getD (d.W.getD j (0, ByteArray.empty)).1.toNat ByteArray.empty) (QaY cs j)))) (by simp), gr_own (bs := [b0, b1, b2, b3]) (K := (rpK d ca cs.length cc g d.sl sc gd d.tl)) rfl hK hbx hg⟩
theorem rp_t (hnd : ∀ i i', i < 4 → i' < 4 → [b0, b1, b2, b3].getD i 0 = [b0, b1, b2, b3].getD i' 0 → i = i') (hF : ∀ f ∈ [Qat g S1, Qat gd Dt, QaP d.c d.p d.W, Qax cb co cs], f.P w0 ∧ ∀ i, i < 4 → ¬f.bl ([b0, b1, b2, b3].getD i 0)) : Calls Try.prog 45 ((rpA j).map (den [b0, b1, b2, b3])).toArray w0 fun e w' => e = .returned (.tuple #[]) ∧ (Qat g (S1.set (d.W.getD j (0, ByteArray.empty)).1.toNat (Qg_ (Dt.getD j ByteArray.empty) (S1.getD (d.W.getD j (0, ByteArray.empty)).1.toNat ByteArray.empty) (QaY cs j)))).P w' ∧ w0.grownBy w' (some g) := by
  refine QgU ([b0, b1, b2, b3] ++ [g]) [b0, b1, b2, b3] (rpK d ca cs.length cc g d.sl sc gd d.tl) (rpA j) [Qat g S1, Qat gd Dt, QaP d.c d.p d.W, Qax cb co cs] rfl hK hnd (fun i hi => match i, hi with | 0, _ => by simp | 1, _ => by simp | 2, _ => by simp | 3, _ => by simp | i + 4, hi => absurd hi (by simp)) (fun x hx => by simp only [rpA, List.mem_cons, List.not_mem_nil, or_false] at hx; rcases hx with rfl | rfl | rfl | rfl | rfl <;> simp [SV.ok]) hF Try.func45 rfl rfl fun aa S => ?_
  refine Qap 1 60 4 S fun bs aa w S => ?_
  by_cases hc : j < cs.length
  · obtain rfl := hca.resolve_left (by omega)
    have ec : cs.getD j 0 % 33 = ((QaY cs j : Nat) : Int) := by unfold QaY; rw [if_pos hc]; omega
    refine Qab 11 S (decide_eq_true (by omega) : decide ((j : Int) < (cs.length : Int)) = true) fun S => ?_
    refine Qap 2 60 2 S fun bs aa w S => ?_
    refine QbI (b := cb) (off := co) (len := cs.length) (n := j) (size := 1) (i := (j : Int)) S (by kernel_rfl) rfl hc fun aa S => ?_
    refine Qbf S (Qa6 (ty := 3) (b := cb) (off := co + j * 1) (by kernel_rfl) (by rw [Nat.mul_one]; exact S.fact (f := Qax cb co cs) (by simp) j hc)) (by kernel_rfl) fun aa S => ?_
    refine QaJ S (fm_t (cs.getD j 0) w) (by kernel_rfl) fun aa w hb S => ?_
    refine QaB 16 S ec fun S => ?_
    refine Qaj ⟨0, [3]⟩ 60 S fun bs aa w S => ?_
    have S2 := S.to [0, 1, 2, 3] (rpS j (QaY cs j) (rpK d (some ⟨cb, co, none⟩) cs.length cc g d.sl sc gd d.tl)) (by kernel_rfl) (by kernel_rfl) (by kernel_rfl) (by kernel_rfl) (by kernel_rfl)
    refine Qag (k' := rpC) (by kernel_rfl) ?_
    exact rp_2 w0 j d hd hj g gd sc S1 Dt hS hD hA hB hx _ cc cb co cs hca b0 b1 b2 b3 hgg hK aa w S2
  · have ec : QaY cs j = 32 := by unfold QaY; rw [if_neg hc]
    refine Qab 11 S (decide_eq_false (by omega) : decide ((j : Int) < (cs.length : Int)) = false) fun S => ?_
    refine Qaj ⟨0, [3]⟩ 60 S fun bs aa w S => ?_
    have S2 := S.to [0, 1, 2, 3] (rpS j 32 (rpK d ca cs.length cc g d.sl sc gd d.tl)) (by kernel_rfl) (by kernel_rfl) (by kernel_rfl) (by kernel_rfl) (by kernel_rfl)
    rw [← ec] at S2
    refine Qag (k' := rpC) (by kernel_rfl) ?_
    exact rp_2 w0 j d hd hj g gd sc S1 Dt hS hD hA hB hx ca cc cb co cs hca b0 b1 b2 b3 hgg hK aa w S2
end
def crJ (W : List (Int × ByteArray)) (cs : List Int) (Dt : List ByteArray) (j : Nat) (S : List ByteArray) : List ByteArray := S.set (W.getD j (0, ByteArray.empty)).1.toNat (Qg_ (Dt.getD j ByteArray.empty) (S.getD (W.getD j (0, ByteArray.empty)).1.toNat ByteArray.empty) (QaY cs j))
def crA (W : List (Int × ByteArray)) (cs : List Int) (Dt : List ByteArray) : Nat → List ByteArray → List ByteArray
  | 0, S => S
  | j + 1, S => crJ W cs Dt j (crA W cs Dt j S)
def crU (d : Dk) : List ByteArray × List ByteArray := unA d.W d.tl (d.S, List.replicate d.tl ByteArray.empty)
def crS (d : Dk) (cs : List Int) : List ByteArray := crA d.W cs (crU d).2 d.tl (crU d).1
def Qfy (S : List ByteArray) : Prop := ∀ j, j < S.length → (S.getD j ByteArray.empty).size = 32
theorem Qhy {S : List ByteArray} (h : Qfy S) (i : Nat) (x : ByteArray) (hx : x.size = 32) : Qfy (S.set i x) := fun j hj => by
  rw [List.length_set] at hj
  have := h j hj
  simp only [List.getD, List.getElem?_set] at this ⊢
  split
  · split
    · exact hx
    · rename_i h1 h2; subst h1; exact absurd hj h2
  · exact this
theorem Qkz (W : List (Int × ByteArray)) (n : Nat) : ∀ (m : Nat) (S Dt : List ByteArray), (∀ j, j < m → (0 ≤ (W.getD j (0, ByteArray.empty)).1 ∧ (W.getD j (0, ByteArray.empty)).1 < (n : Int)) ∧ (W.getD j (0, ByteArray.empty)).2.size = 32) → S.length = n → Qfy S → m ≤ Dt.length → (∀ j, m ≤ j → j < Dt.length → (Dt.getD j ByteArray.empty).size = 32) → (unA W m (S, Dt)).1.length = n ∧ Qfy (unA W m (S, Dt)).1 ∧ (unA W m (S, Dt)).2.length = Dt.length ∧ Qfy (unA W m (S, Dt)).2
  | 0, S, Dt, _, hl, hS, _, hD => ⟨hl, hS, rfl, fun j hj => hD j (Nat.zero_le _) hj⟩
  | m + 1, S, Dt, hW, hl, hS, hm, hD => by
    obtain ⟨hx, hy⟩ := hW m (Nat.lt_succ_self _)
    have h := Qkz W n m (S.set (W.getD m (0, ByteArray.empty)).1.toNat (W.getD m (0, ByteArray.empty)).2) (Dt.set m (S.getD (W.getD m (0, ByteArray.empty)).1.toNat ByteArray.empty)) (fun j hj => hW j (by omega)) (by simp [hl]) (Qhy hS _ _ hy) (by simp; omega) (fun j h1 h2 => by
      rw [List.length_set] at h2
      simp only [List.getD, List.getElem?_set]
      have e1 := hS (W.getD m (0, ByteArray.empty)).1.toNat (by omega)
      split
      · split
        · exact e1
        · omega
      · have := hD j (by omega) h2
        exact this)
    simp only [List.length_set] at h
    exact h
theorem Qio (W : List (Int × ByteArray)) (cs : List Int) (n : Nat) (Dt : List ByteArray) (hD : Qfy Dt) : ∀ (m : Nat) (S : List ByteArray), (∀ j, j < m → (0 ≤ (W.getD j (0, ByteArray.empty)).1 ∧ (W.getD j (0, ByteArray.empty)).1 < (n : Int))) → m ≤ Dt.length → S.length = n → Qfy S → (crA W cs Dt m S).length = n ∧ Qfy (crA W cs Dt m S)
  | 0, S, _, _, hl, hS => ⟨hl, hS⟩
  | m + 1, S, hW, hm, hl, hS => by
    obtain ⟨h1, h2⟩ := Qio W cs n Dt hD m S (fun j hj => hW j (by omega)) (by omega) hl hS
    have hx := hW m (Nat.lt_succ_self _)
    exact ⟨by simp [crA, crJ, h1], Qhy h2 _ _ (QkE _ _ _ (hD m (by omega)) (h2 _ (by omega)) (QeQ _ _))⟩
theorem Qmd (d : Dk) (hd : d.ok) (hr : d.right) : (crU d).1.length = d.sl ∧ Qfy (crU d).1 ∧ (crU d).2.length = d.tl ∧ Qfy (crU d).2 := by
  have h := Qkz d.W d.sl d.tl d.S (List.replicate d.tl ByteArray.empty) hr.w hd.hS (fun j hj => hr.s j (by rw [← hd.hS]; exact hj)) (by simp) (fun j h1 h2 => by simp at h2; omega)
  simpa [crU] using h
theorem Qme (d : Dk) (hd : d.ok) (hr : d.right) (cs : List Int) : (crS d cs).length = d.sl ∧ Qfy (crS d cs) := by
  obtain ⟨h1, h2, h3, h4⟩ := Qmd d hd hr
  exact Qio d.W cs d.sl _ h4 d.tl _ (fun j hj => (hr.w j hj).1) (by omega) h1 h2
def crK (d : Dk) (ca : Option Addr) (cl cc g sc gd : Nat) : List Bx := [⟨30, d.cs⟩, ⟨26, [.slice ca cl cc]⟩, ⟨30, [.slice none 0 0, .slice none 0 0]⟩, ⟨27, [.slice (some ⟨g, 0, none⟩) d.sl sc]⟩, ⟨27, [.slice (some ⟨gd, 0, none⟩) d.tl d.tl]⟩]
noncomputable def crC : Cfg := ⟨goZ 60 [] [.code (QaW Try.f22)], ⟨0, [], []⟩⟩
noncomputable def crSt (d : Dk) (ca : Option Addr) (cl cc g sc gd j : Nat) : SS := ⟨29, [(4, .p 2 0), (5, .p 3 0), (7, .f 45 [(1, 0), (0, 0), (4, 0), (3, 0)]), (19, .v (.int .i64 (d.tl : Int))), (20, .v (.int .i64 (j : Int)))], crK d ca cl cc g sc gd⟩
section
variable (w0 : World) (d : Dk) (hd : d.ok) (hr : d.right) (ca : Option Addr) (cc cb co : Nat) (cs : List Int) (hca : cs.length = 0 ∨ ca = some ⟨cb, co, none⟩) (hcb : cs.length = 0 ∨ cb < w0.heap.size) (hdc : d.W.length = 0 ∨ d.c < w0.heap.size) (g sc gd : Nat) (hg0 : w0.heap.size ≤ g) (hsc : d.sl ≤ sc) (hgg : gd ≠ g)
include w0 d hd hr ca cc cb co cs hca hcb hdc g sc gd hg0 hsc hgg
theorem cr_end (m : Nat) (x0 x1 x2 x3 x4 : Nat) (aa : Act) (w : World) (S : Sy w0 [] [x0, x1, x2, x3, x4] (crSt d ca cs.length cc g sc gd (d.tl)) [Qat g (crA d.W cs (crU d).2 (d.tl) (crU d).1), Qat gd (crU d).2, QaP d.c d.p d.W, Qax cb co cs] aa w) : post Try.prog (.rnd (m + 1) (Qa_ crC) :: crC.k.tail) (bodyPost Try.prog Try.f22 fun e w' => ∃ g sc, e = .returned (.agg #[.slice (some ⟨g, 0, none⟩) d.sl sc, .slice none 0 0]) ∧ (w0.heap.size ≤ g ∧ d.sl ≤ sc) ∧ (Qat g (crS d cs)).P w' ∧ Below w0.heap.size w0 w') .normal aa w := by
  refine Qap (c := ⟨(.rnd (m + 1) (Qa_ crC) :: crC.k.tail), crSt d ca cs.length cc g sc gd (d.tl)⟩) 5 50 1 S fun bs aa w S => ?_
  refine Qab 21 S (decide_eq_false (by omega) : decide (((d.tl : Nat) : Int) < (d.tl : Int)) = false) fun S => ?_
  refine Qah S fun bs aa w S => ?_
  exact Qan S (by kernel_rfl) (by kernel_rfl) fun hg => ⟨g, sc, rfl, ⟨hg0, hsc⟩, S.fact (f := Qat g (crS d cs)) (by simp [crS]), Qaq hg⟩
theorem cr_step (m j : Nat) (hj : j < d.tl) (ih : ∀ (x0 x1 x2 x3 x4 : Nat) (aa : Act) (w : World) (S : Sy w0 [] [x0, x1, x2, x3, x4] (crSt d ca cs.length cc g sc gd (j + 1)) [Qat g (crA d.W cs (crU d).2 (j + 1) (crU d).1), Qat gd (crU d).2, QaP d.c d.p d.W, Qax cb co cs] aa w), post Try.prog (.rnd (m) (Qa_ crC) :: crC.k.tail) (bodyPost Try.prog Try.f22 fun e w' => ∃ g sc, e = .returned (.agg #[.slice (some ⟨g, 0, none⟩) d.sl sc, .slice none 0 0]) ∧ (w0.heap.size ≤ g ∧ d.sl ≤ sc) ∧ (Qat g (crS d cs)).P w' ∧ Below w0.heap.size w0 w') .normal aa w) (x0 x1 x2 x3 x4 : Nat) (aa : Act) (w : World) (S : Sy w0 [] [x0, x1, x2, x3, x4] (crSt d ca cs.length cc g sc gd (j)) [Qat g (crA d.W cs (crU d).2 (j) (crU d).1), Qat gd (crU d).2, QaP d.c d.p d.W, Qax cb co cs] aa w) : post Try.prog (.rnd (m + 1) (Qa_ crC) :: crC.k.tail) (bodyPost Try.prog Try.f22 fun e w' => ∃ g sc, e = .returned (.agg #[.slice (some ⟨g, 0, none⟩) d.sl sc, .slice none 0 0]) ∧ (w0.heap.size ≤ g ∧ d.sl ≤ sc) ∧ (Qat g (crS d cs)).P w' ∧ Below w0.heap.size w0 w') .normal aa w := by
  obtain ⟨hu1, hu2, hu3, hu4⟩ := Qmd d hd hr
  obtain ⟨hA1, hA2⟩ := Qio d.W cs d.sl _ hu4 j _ (fun i hi => (hr.w i (by omega)).1) (by omega) hu1 hu2
  have hx := (hr.w j hj).1
  refine Qaj (c := ⟨(.rnd (m + 1) (Qa_ crC) :: crC.k.tail), crSt d ca cs.length cc g sc gd (j)⟩) ⟨0, [5]⟩ 50 S fun bs1 aa w S => ?_
  refine Qcn S fun S => ?_
  refine Qad 1 S fun bs2 aa w S => ?_
  refine Qab 21 S (decide_eq_true (by omega) : decide (((j : Nat) : Int) < (d.tl : Int)) = true) fun S => ?_
  refine Qaj ⟨0, [7]⟩ 60 S fun bs3 aa w S => ?_
  refine Qcn S fun S => ?_
  refine Qad 2 S fun bs4 aa w S => ?_
  obtain ⟨bs, hB⟩ : ∃ bs, bs = [x0, x1, x2, x3, x4] ++ bs1 ++ bs2 ++ bs3 ++ bs4 := ⟨_, rfl⟩
  rw [← hB] at S
  have S' := S.to [1, 0, 4, 3] ⟨29, [], rpK d ca cs.length cc g d.sl sc gd d.tl⟩ (by kernel_rfl) (by kernel_rfl) (by kernel_rfl) (by kernel_rfl) (by kernel_rfl)
  have hap := (S.fs (Qat g (crA d.W cs (crU d).2 (j) (crU d).1)) (by simp)).2
  refine QiG (g := g) (X := Unit) (val := fun _ => .tuple #[]) (C := fun _ w' => (Qat g (crJ d.W cs (crU d).2 j (crA d.W cs (crU d).2 (j) (crU d).1))).P w') (f := 45) (args := ((rpA j).map (den [bs.getD 1 0, bs.getD 0 0, bs.getD 4 0, bs.getD 3 0])).toArray) S (Or.inr hg0) ((rp_t w j d hd hj g gd sc (crA d.W cs (crU d).2 (j) (crU d).1) (crU d).2 hA1 hu3 (hu4 j (by omega)) (hA2 _ (by omega)) hx ca cc cb co cs hca (bs.getD 1 0) (bs.getD 0 0) (bs.getD 4 0) (bs.getD 3 0) hgg S'.bx (fun i i' hi hi' e => S'.nd i i' (by simpa using hi) (by simpa using hi') e) (fun f hf => ⟨(S.fs f hf).1, fun i hi => (S'.fs f hf).2 i (by simpa using hi)⟩)).mono fun e w' h => ⟨(), h.1, h.2.1, h.2.2⟩) (by kernel_rfl) [Qat gd (crU d).2, QaP d.c d.p d.W, Qax cb co cs] (by
      intro f hf
      simp only [List.mem_cons, List.not_mem_nil, or_false] at hf
      rcases hf with rfl | rfl | rfl
      · exact ⟨by simp, fun hb => hgg (by have h1 : g = gd := hb; exact h1.symm)⟩
      · exact ⟨by simp, fun hb => by obtain ⟨h1, h2⟩ := hb; have := hdc.resolve_left h2; omega⟩
      · exact ⟨by simp, fun hb => by obtain ⟨h1, h2⟩ := hb; have := hcb.resolve_left h2; omega⟩) (fun i hi e => hap i hi e) fun _ aa w hC hgb S => ?_
  have S := S.add (Qat g (crJ d.W cs (crU d).2 j (crA d.W cs (crU d).2 (j) (crU d).1))) hC hap
  refine Qap 8 60 1 S fun bs aa w S => ?_
  refine QaB 26 S (by rw [IntKind.wrap_i64]; have := hd.l2; omega : IntKind.i64.wrap ((j : Int) + 1) = ((j + 1 : Nat) : Int)) fun S => ?_
  refine Qaj ⟨0, [999]⟩ 50 S fun bs aa w S => ?_
  have S2 := S.to [0, 1, 2, 3, 4] (crSt d ca cs.length cc g sc gd (j + 1)) (by kernel_rfl) (by kernel_rfl) (by kernel_rfl) (by kernel_rfl) (by kernel_rfl)
  refine Qag (k' := (.rnd (m) (Qa_ crC) :: crC.k.tail)) (by kernel_rfl) ?_
  exact ih _ _ _ _ _ aa w S2
theorem cr_all : ∀ (r j : Nat), j + r = d.tl → ∀ (x0 x1 x2 x3 x4 : Nat) (aa : Act) (w : World) (S : Sy w0 [] [x0, x1, x2, x3, x4] (crSt d ca cs.length cc g sc gd (j)) [Qat g (crA d.W cs (crU d).2 (j) (crU d).1), Qat gd (crU d).2, QaP d.c d.p d.W, Qax cb co cs] aa w), post Try.prog (.rnd (r + 1) (Qa_ crC) :: crC.k.tail) (bodyPost Try.prog Try.f22 fun e w' => ∃ g sc, e = .returned (.agg #[.slice (some ⟨g, 0, none⟩) d.sl sc, .slice none 0 0]) ∧ (w0.heap.size ≤ g ∧ d.sl ≤ sc) ∧ (Qat g (crS d cs)).P w' ∧ Below w0.heap.size w0 w') .normal aa w := by
  intro r
  induction r with
  | zero => intro j hj x0 x1 x2 x3 x4 aa w S; obtain rfl : j = d.tl := by omega
            exact cr_end w0 d hd hr ca cc cb co cs hca hcb hdc g sc gd hg0 hsc hgg 0 x0 x1 x2 x3 x4 aa w S
  | succ r ih => intro j hj x0 x1 x2 x3 x4 aa w S; exact cr_step w0 d hd hr ca cc cb co cs hca hcb hdc g sc gd hg0 hsc hgg (r + 1) j (by omega) (ih (j + 1) (by omega)) x0 x1 x2 x3 x4 aa w S
end
theorem crash_c (w0 : World) (d : Dk) (hd : d.ok) (hr : d.right) (h0 : 0 < d.sl) (htc : d.tl ≤ d.tc) (ca : Option Addr) (cc cb co : Nat) (cs : List Int) (hca : cs.length = 0 ∨ ca = some ⟨cb, co, none⟩) (hA : StrAt w0 d.b d.o d.S) (hB : WasAt w0 d.c d.p d.W) (hC : Qbm w0 cb co cs) : Calls Try.prog 22 #[d.v, .slice ca cs.length cc] w0 fun e w' => ∃ g sc, e = .returned (.agg #[.slice (some ⟨g, 0, none⟩) d.sl sc, .slice none 0 0]) ∧ (w0.heap.size ≤ g ∧ d.sl ≤ sc) ∧ (Qat g (crS d cs)).P w' ∧ Below w0.heap.size w0 w' := by
  have hcb : cs.length = 0 ∨ cb < w0.heap.size := by
    by_cases h : cs.length = 0
    · exact Or.inl h
    · exact Or.inr ((Qax cb co cs).lt w0 hC cb ⟨rfl, h⟩)
  have hdc : d.W.length = 0 ∨ d.c < w0.heap.size := by
    by_cases h : d.W.length = 0
    · exact Or.inl h
    · exact Or.inr ((QaP d.c d.p d.W).lt w0 hB d.c ⟨rfl, h⟩)
  have hl1 := hd.l1
  have hl2 := hd.l2
  refine Qas [] [Qaz d.b d.o d.S, QaP d.c d.p d.W, Qax cb co cs] (by intro f hf; simp only [List.mem_cons, List.not_mem_nil, or_false] at hf; rcases hf with rfl | rfl | rfl; exact hA; exact hB; exact hC) Try.func22 rfl rfl fun aa S => ?_
  refine Qap 1 60 2 S fun bs aa w S => ?_
  have esa := hd.hs.resolve_left (show ¬ d.sl = 0 by omega)
  have hltb := fun i hi => S.lt (i := i) hi
  have hw0 := S.gr.size
  refine Qbg S (X := Value) (val := fun v => v) (C := fun v w' => w'.ownsRow w.heap.size 9 1 v d.sl (d.S.map Value.string)) (by
    have h := Try.slices_Clone_string d.b d.o d.sl d.sc d.S w (by rw [hd.hS]; exact Nat.le_refl _) (by omega) (S.fact (f := Qaz d.b d.o d.S) (by simp))
    rw [show d.S.take d.sl = d.S by rw [← hd.hS]; exact List.take_length, ← esa] at h
    exact h.mono fun e w' ⟨v, h1, h2, _, h3⟩ => ⟨v, h1, h2, h3⟩) (by kernel_rfl) fun v2 aa w3 hO hb3 S => ?_
  rcases hO.2 with ⟨_, q⟩ | ⟨g, cap, cur, rfl, hg0, hgc, hnc, hcm, hcs, htk⟩
  · omega
  have S := S.add (Qat g d.S) ⟨cur.toList, by simpa using hgc, by rw [hd.hS]; simpa using htk⟩ (fun i hi he => by have h1 := hltb i hi; have h2 : _ = g := he; omega)
  refine Qap 2 60 3 S fun bs aa w S => ?_
  have hap := (S.fs (Qat g d.S) (by simp)).2
  have hltb := fun i hi => S.lt (i := i) hi
  have hsz := S.gr.size
  have hglt := (Qat g d.S).lt w (S.fact (f := Qat g d.S) (by simp)) g rfl
  refine QiG (g := g) (X := Nat) (val := fun gd => .slice (some ⟨gd, 0, none⟩) d.tl d.tl) (C := fun gd w' => w.heap.size ≤ gd ∧ (Qat g (crU d).1).P w' ∧ (Qat gd (crU d).2).P w') S (Or.inr (by omega)) ((undo_t w g d.sl cap d.tl d.tc d.W d.c d.p d.ta (by rcases hdc with h | h; exact Or.inl h; exact Or.inr ⟨by omega, by omega⟩) hd.hW hl1 hl2 (fun j hj => (hr.w j hj).1) hd.hw htc d.S hd.hS (S.fact (f := Qat g d.S) (by simp)) (S.fact (f := QaP d.c d.p d.W) (by simp))).mono fun e w' ⟨gd, h1, h2, h3, h4, h5⟩ => ⟨gd, h1, ⟨h2, h3, h4⟩, QlQ h5⟩) (by kernel_rfl) [QaP d.c d.p d.W, Qax cb co cs] (by
      intro f hf
      simp only [List.mem_cons, List.not_mem_nil, or_false] at hf
      rcases hf with rfl | rfl
      · exact ⟨by simp, fun hb => by obtain ⟨h1, h2⟩ := hb; have := hdc.resolve_left h2; omega⟩
      · exact ⟨by simp, fun hb => by obtain ⟨h1, h2⟩ := hb; have := hcb.resolve_left h2; omega⟩) (fun i hi e => hap i hi e) fun gd aa w4 hC4 hgb S => ?_
  have S := S.add (Qat gd (crU d).2) hC4.2.2 (fun i hi he => by have h1 := hltb i hi; have h2 : _ = gd := he; have h3 := hC4.1; omega)
  have S := S.add (Qat g (crU d).1) hC4.2.1 hap
  refine Qah S fun bs aa w S => ?_
  have S := S.sub (F' := [Qat g (crA d.W cs (crU d).2 (0) (crU d).1), Qat gd (crU d).2, QaP d.c d.p d.W, Qax cb co cs]) (by intro f hf; simp only [List.mem_cons, List.not_mem_nil, or_false] at hf; rcases hf with rfl | rfl | rfl | rfl <;> simp [crA])
  have S' := S.to [0, 1, 2, 3, 4] (crSt d ca cs.length cc g cap gd 0) (by kernel_rfl) (by kernel_rfl) (by kernel_rfl) (by kernel_rfl) (by kernel_rfl)
  refine QaR (d.tl + 1) (by kernel_rfl) ?_
  refine Qag (k' := (.rnd (d.tl + 1) (Qa_ crC) :: crC.k.tail)) (by kernel_rfl) ?_
  exact cr_all w0 d hd hr ca cc cb co cs hca hcb hdc g cap gd (by omega) hnc (by have h3 := hC4.1; omega) d.tl 0 (by omega) _ _ _ _ _ aa w S'
def byt (s : ByteArray) (k : Nat) : Nat := (s.data.toList.getD k 0).toNat
theorem byt_ix (s : ByteArray) (k : Nat) (h : k < s.size) : (s[k]'h).toNat = byt s k := by
  have h2 : k < s.data.toList.length := by simpa using h
  unfold byt
  rw [List.getD, List.getElem?_eq_getElem h2]
  rfl
structure UnR (n : Nat) (S0 : List ByteArray) (D0 : List (Int × ByteArray)) (l : List Nat) (x : List ByteArray × List (Int × ByteArray) × List (Int × ByteArray)) : Prop where
  len : x.1.length = n
  wl : x.2.1.length = l.length
  w1 : ∀ j, j < l.length → (x.2.1.getD j (0, ByteArray.empty)).1 = ((l.getD j 0 % n : Nat) : Int)
  d : x.2.2 = D0 ++ l.map fun c => (((c % n : Nat) : Int), Qj3 (c : Int))
  un : ∀ Dt : List ByteArray, l.length ≤ Dt.length → (unA x.2.1 l.length (x.1, Dt)).1 = S0 ∧ (unA x.2.1 l.length (x.1, Dt)).2.length = Dt.length ∧ ∀ j, (unA x.2.1 l.length (x.1, Dt)).2.getD j ByteArray.empty = if j < l.length then Qj3 ((l.getD j 0 : Nat) : Int) else Dt.getD j ByteArray.empty
theorem sl_pre (a : Option Addr) (n c m : Nat) (h : m ≤ c) (W : World) : (Instr.sliceAt 48 (.slice a n c) none (some (.int .i64 (m : Int))) none).run Try.prog W = .ok (.slice a m c) W := by
  have hu : Try.prog.underlying 48 = some (.slice (Try.prog.elem 48)) := by rw [Try.underlying48]; kernel_rfl
  rw [run_sliceAt_slice W _ _ _ _ _ hu, run_slice_any W _ _ _ _ hu]
  have hs : (Instr.sliceBounds true n c none (some (.int .i64 (m : Int))) none).run Try.prog W = .ok (0, m, c) W := by
    simp [Instr.sliceBounds, run_sliceBound, h]
  rw [hs]
  have hI : (Try.prog.info? (Try.prog.elem 48)).isSome = true := by kernel_rfl
  obtain ⟨ii, hi⟩ := Option.isSome_iff_exists.1 hI
  have ha : (if c = 0 then a else a.map (·.add (0 * ii.size))) = a := by
    rw [Nat.zero_mul]
    have e : (fun x : Addr => x.add 0) = id := by funext x; simp [Addr.add]
    rw [e, Option.map_id]
    simp
  simp [sizeOf, typeInfo, sliced, hi]
  simpa using ha
theorem ex_ix {s : SS} {bs : List Nat} {x y : Operand} {t ty : TypeId} {p : ByteArray} {k : Nat} (ht : Try.prog.underlying t = some .string) (hx : s.val x = some (.v (.string p))) (hy : s.val y = some (.v (.int .i64 (k : Int)))) (hk : k < p.size) :
    ∀ (o : Oper) (ρ : Operand → Value) (W : World), o.op = .index t x y → o.type = ty → (∀ x y, s.val x = some y → ρ x = den bs y) → (execOp ρ o).run Try.prog W = .ok (.value (.int .u8 ((byt p k : Nat) : Int))) W := by
  intro o ρ W h1 h2 h3
  have e1 : ρ x = .string p := h3 x _ hx
  have e2 : ρ y = .int .i64 (k : Int) := h3 y _ hy
  have hr : ∀ W, (Instr.index t (.string p) (.int .i64 (k : Int))).run Try.prog W = .ok (.int .u8 ((byt p k : Nat) : Int)) W := fun W => by
    rw [run_index_string W t p .i64 _ ht, dif_pos ⟨by omega, by omega⟩]
    have e := byt_ix p k hk
    simp only [Int.toNat_natCast]
    rw [e]
  unfold execOp
  simp only [h1, e1, e2, Sem.run_bind, Sem.run_pure, Result.andThen_ok, hr]
def wput (n : Nat) (x : List ByteArray × List (Int × ByteArray) × List (Int × ByteArray)) (c : Nat) : List ByteArray × List (Int × ByteArray) × List (Int × ByteArray) := (x.1.set (c % n) (Qj3 (c : Int)), x.2.1 ++ [(((c % n : Nat) : Int), x.1.getD (c % n) ByteArray.empty)], x.2.2 ++ [(((c % n : Nat) : Int), Qj3 (c : Int))])
def mput (n : Nat) (S0 : List ByteArray) (l : List Nat) : List ByteArray × List (Int × ByteArray) × List (Int × ByteArray) := l.foldl (wput n) (S0, [], [])
structure Keeps (n : Nat) (S0 : List ByteArray) (l : List Nat) (d : Dk) : Prop where
  none : ∀ cs : List Int, (∀ j, j < l.length → QaY cs j = 0) → crS d cs = S0
  all : crS d [] = d.S
  un : ∀ cs a, a < n → (∀ j, j < l.length → l.getD j 0 % n ≠ a) → (crS d cs).getD a ByteArray.empty = S0.getD a ByteArray.empty
structure Dk.gen (d : Dk) : Prop where
  hS : d.S.length = d.sl
  hs : d.sl = 0 ∨ d.sa = some ⟨d.b, d.o, none⟩
  hW : d.W.length = d.tl
  hw : d.tl = 0 ∨ d.ta = some ⟨d.c, d.p, none⟩
  ht : (d.ta = none ∧ d.tl = 0 ∧ d.tc = 0) ∨ (d.ta.isSome = true ∧ d.tl ≤ d.tc)
  hc : d.tc ≤ 9223372036854775807
  hsn : d.sa = none → d.sc = 0
theorem QgQ {P : Nat → Prop} {j : Nat} (hv : ∀ i, i < j → P i) (hp : P j) : ∀ i, i < j + 1 → P i := fun i hi => by
  rcases Nat.lt_or_ge i j with h | h
  · exact hv i h
  · rw [show i = j by omega]; exact hp
theorem all_upto {α : Type} (p : α → Bool) (z : α) (l : List α) : (∀ i, i < l.length → p (l.getD i z) = true) → l.all p = true := fun h => by
  rw [List.all_eq_true]
  intro x hx
  obtain ⟨i, hi, rfl⟩ := List.getElem_of_mem hx
  have := h i hi
  rwa [List.getD, List.getElem?_eq_getElem hi] at this
theorem all_not {α : Type} (p : α → Bool) (z : α) (l : List α) (i : Nat) (hi : i < l.length) (h : p (l.getD i z) = false) : l.all p = false := by
  rw [List.all_eq_false]
  exact ⟨l.getD i z, Qbe l i z hi, by rw [h]; simp⟩
section
variable {s : SS} {bs : List Nat} {x y : Operand} {t t' ty : TypeId} {ki : IntKind} {p q : Int} {b : Bool} (hx : s.val x = some (.v (.int ki p))) (hy : s.val y = some (.v (.int ki q)))
include s bs x y t t' ty ki p q b hx hy
theorem Qjh (hb : decide (p < q) = b) :
    ∀ (o : Oper) (ρ : Operand → Value) (W : World), o.op = .binOp .lss t x y t' → o.type = ty → (∀ x y, s.val x = some y → ρ x = den bs y) → (execOp ρ o).run Try.prog W = .ok (.value (.bool b)) W := by
  intro o ρ W h1 h2 h3
  have e1 : ρ x = .int ki p := h3 x _ hx
  have e2 : ρ y = .int ki q := h3 y _ hy
  subst hb
  unfold execOp
  simp only [h1, e1, e2, eqGuard, binOp_lss, Sem.run_bind, Sem.run_pure, Result.andThen_ok]
  rfl
theorem QlW (hb : decide (p > q) = b) :
    ∀ (o : Oper) (ρ : Operand → Value) (W : World), o.op = .binOp .gtr t x y t' → o.type = ty → (∀ x y, s.val x = some y → ρ x = den bs y) → (execOp ρ o).run Try.prog W = .ok (.value (.bool b)) W := by
  intro o ρ W h1 h2 h3
  have e1 : ρ x = .int ki p := h3 x _ hx
  have e2 : ρ y = .int ki q := h3 y _ hy
  subst hb
  unfold execOp
  simp only [h1, e1, e2, eqGuard, binOp_gtr, Sem.run_bind, Sem.run_pure, Result.andThen_ok]
  rfl
theorem ex_neI (hb : (!decide (p = q)) = b) :
    ∀ (o : Oper) (ρ : Operand → Value) (W : World), o.op = .binOp .neq t x y t' → o.type = ty → (∀ x y, s.val x = some y → ρ x = den bs y) → (execOp ρ o).run Try.prog W = .ok (.value (.bool b)) W := by
  intro o ρ W h1 h2 h3
  have e1 : ρ x = .int ki p := h3 x _ hx
  have e2 : ρ y = .int ki q := h3 y _ hy
  subst hb
  have hb2 : (p != q) = !decide (p = q) := rfl
  unfold execOp
  simp only [h1, e1, e2, eqGuard, binOp_neq, hb2, Sem.run_bind, Sem.run_pure, Result.andThen_ok]
  rfl
end
theorem has_f (d : Dk) (at_ : Int) (h : ¬(0 ≤ at_ ∧ at_ < d.sl)) (w : World) : Calls Try.prog 47 #[d.v, .int .i64 at_] w fun e w' => e = .returned (.bool false) ∧ Below w.heap.size w w' := by
  refine Qas [] [] (by intro f hf; cases hf) Try.func47 rfl rfl fun aa S => ?_
  refine Qap 1 60 2 S fun bs aa w S => ?_
  by_cases h0 : 0 ≤ at_
  case neg =>
    refine Qab 6 S (decide_eq_false h0 : decide (at_ ≥ 0) = false) fun S => ?_
    refine Qah S fun bs aa w S => ?_
    exact Qan S (by kernel_rfl) (by kernel_rfl) fun hg => ⟨rfl, Qaq hg⟩
  refine Qab 6 S (decide_eq_true h0 : decide (at_ ≥ 0) = true) fun S => ?_
  refine Qad 6 S fun bs aa w S => ?_
  refine Qab 12 S (decide_eq_false (fun q => h ⟨h0, q⟩) : decide (at_ < (d.sl : Int)) = false) fun S => ?_
  refine Qah S fun bs aa w S => ?_
  exact Qan S (by kernel_rfl) (by kernel_rfl) fun hg => ⟨rfl, Qaq hg⟩
theorem tl_eq (a b : ByteArray) : (a.toList == b.toList) = decide (a = b) := by
  by_cases h : a = b
  · subst h; simp
  · have : ¬ a.toList = b.toList := fun e => h (Go.WideShapes.bytes_inj (by rw [← ByteArray.toList_eq, ← ByteArray.toList_eq]; exact e))
    rw [decide_eq_false h]
    exact beq_eq_false_iff_ne.2 this
theorem QgA {α : Type} (z : α) (l m : List α) (hl : l.length = m.length) (h : ∀ i, i < l.length → l.getD i z = m.getD i z) : l = m := by
  apply List.ext_getElem hl
  intro i h1 h2
  have := h i h1
  simpa [List.getD, List.getElem?_eq_getElem h1, List.getElem?_eq_getElem h2] using this
end Go.Proofs.Ytfhmdlihnidjoaa
namespace Go.Proofs.Ytfhmdlihnidjoaa
set_option linter.unusedSectionVars false
set_option maxRecDepth 100000
set_option linter.unusedVariables false
set_option linter.unusedSimpArgs false
open Go.ChangeShapes Go.WideShapes Go.ChangeAt Go.RowKit Go.Deep
def HasIn (w : World) (v : Value) (l : List Int) : Prop := ∃ a cap, v = .slice a l.length cap ∧ (l.length = 0 ∨ ∃ b o, a = some ⟨b, o, none⟩ ∧ Qbm w b o l)
section
variable {H : Type} {enc : TypeId × Value → H} {W : World}
theorem Qmn : Try.prog.cellsOf 3 = 1 := by kernel_rfl
theorem Qg5 {r : Reach} {b0 : Nat} {v : Value} {d : DataW H} {p : List MemPlace} (hv : Value.okWide Try.prog W r b0 26 v) (h : DataW.Trod enc Try.prog W 0 (fun _ => true) true 26 v d p) :
    ∃ l, HasIn W v l := by
  obtain ⟨a0, len0, cap0, rfl⟩ := okWide_slice Try.underlying26 hv
  obtain ⟨fuel, hf⟩ := h
  rcases open_ints Try.underlying26 Try.underlying3 Qmn hf with ⟨hcs, _⟩ | ⟨a, len, cap, zs, hcs, _, hl, hm, hz, _, hcell, hwf⟩
  · simp [Value.cells] at hcs
    obtain ⟨rfl, rfl, rfl⟩ := hcs
    exact ⟨[], none, 0, rfl, Or.inl rfl⟩
  · simp [Value.cells] at hcs
    obtain ⟨rfl, rfl, rfl⟩ := hcs
    simp only [if_true] at hz
    have hlen : (zs.take len0).length = len0 := by rw [List.length_take]; omega
    refine ⟨zs.take len0, some a, cap0, by rw [hlen], ?_⟩
    by_cases h0 : len0 = 0
    · exact Or.inl (by rw [hlen]; exact h0)
    · obtain ⟨b, off, spot⟩ := a
      have hspot : spot = none := by simpa [Addr.add] using World.cell?_spot (hcell 0 (by omega))
      subst hspot
      refine Or.inr ⟨b, off, rfl, fun j hj => ?_⟩
      rw [hlen] at hj
      have h1 := hcell j (by omega)
      rw [add_plain] at h1
      rw [h1]
      simp [hj]
end
end Go.Proofs.Ytfhmdlihnidjoaa
namespace Go.Proofs.Ytfhmdlihnidjoaa
set_option linter.unusedVariables false
set_option linter.unusedSectionVars false
set_option linter.unusedSimpArgs false
set_option maxRecDepth 100000
set_option maxHeartbeats 8000000
open Go Go.RowKit SZ
attribute [local irreducible] post GD Nxt Qai
structure Dev (h0 : Nat) (w : World) (d : Dk) (S : List ByteArray) (W : List (Int × ByteArray)) : Prop where
  g : d.gen
  eS : d.S = S
  eW : d.W = W
  sA : StrAt w d.b d.o S
  wA : WasAt w d.c d.p W
  b0 : S.length = 0 ∨ h0 ≤ d.b
  c0 : W.length = 0 ∨ h0 ≤ d.c
theorem gen_ok {d : Dk} (h : d.gen) (h1 : d.sl ≤ 512) (h2 : d.tl ≤ 1000) : d.ok := ⟨h.hS, h.hs, h.hW, h.ht.elim Or.inl (fun q => Or.inr ⟨h.hw, q⟩), h1, h2⟩
theorem Qkq (d : Dk) (n : Int) (hn : ¬(0 ≤ n ∧ n < d.sl)) (s : ByteArray) (w0 : World) : Calls Try.prog 61 #[d.v, .int .i64 n, .string s] w0 fun e w' => e = .returned (.tuple #[d.v, .int .i64 8]) ∧ Below w0.heap.size w0 w' := by
  refine Qas [] [] (by intro f hf; cases hf) Try.func61 rfl rfl fun aa S => ?_
  refine Qah S fun bs aa w S => ?_
  refine QaJ S (has_f d n hn w) (by kernel_rfl) fun aa w hb S => ?_
  refine Qah S fun bs aa w S => ?_
  exact Qan S (by kernel_rfl) (by kernel_rfl) fun hg => ⟨rfl, Qaq hg⟩
theorem Qkp (d : Dk) (n : Int) (hn : 0 ≤ n ∧ n < d.sl) (s : ByteArray) (hs : s.size ≠ 32) (w0 : World) : Calls Try.prog 61 #[d.v, .int .i64 n, .string s] w0 fun e w' => e = .returned (.tuple #[d.v, .int .i64 1]) ∧ Below w0.heap.size w0 w' := by
  refine Qas [] [] (by intro f hf; cases hf) Try.func61 rfl rfl fun aa S => ?_
  refine Qah S fun bs aa w S => ?_
  refine QaJ S (has_t d n hn w) (by kernel_rfl) fun aa w hb S => ?_
  refine Qap 3 60 3 S fun bs aa w S => ?_
  refine Qab 17 S (by rw [decide_eq_false (by omega)]; rfl : (!decide ((s.size : Int) = 32)) = true) fun S => ?_
  refine Qah S fun bs aa w S => ?_
  exact Qan S (by kernel_rfl) (by kernel_rfl) fun hg => ⟨rfl, Qaq hg⟩
noncomputable def rn1 : Cfg := ⟨goZ 60 [0] [.code (QaW Try.f18)], ⟨0, [], []⟩⟩
noncomputable def rnS (n j : Nat) (ga : Option Addr) (gc : Nat) : SS := ⟨26, [(0, .v (.int .i64 (n : Int))), (2, .p 0 0), (4, .p 1 0), (5, .v (.int .i64 (j : Int)))], [⟨30, [.slice none 0 0, .slice none 0 0]⟩, ⟨30, [.slice ga j gc, .slice none 0 0]⟩]⟩
section
variable (w0 : World) (n : Nat) (hn : n ≤ 512)
include w0 n hn
theorem rn_e (m : Nat) (ga : Option Addr) (gc : Nat) (hgn : ga = none → gc = 0) (x0 x1 : Nat) (aa : Act) (w : World) (S : Sy w0 [] [x0, x1] (rnS n (n) ga gc) [(Qaa w0.heap.size 9 1 (.slice ga (n) gc) (n) (List.replicate (n) (Value.string z32)))] aa w) : post Try.prog (.rnd (m + 1) (Qa_ rn1) :: rn1.k.tail) (bodyPost Try.prog Try.f18 fun e w' => ∃ d' : Dk, e = .returned (.tuple #[d'.v, .int .i64 0]) ∧ (Dev w0.heap.size w' d' (List.replicate n z32) [] ∧ d'.sl ≤ d'.sc) ∧ Below w0.heap.size w0 w') .normal aa w := by
  refine Qap (c := ⟨(.rnd (m + 1) (Qa_ rn1) :: rn1.k.tail), rnS n n ga gc⟩) 5 50 3 S fun bs aa w S => ?_
  refine Qab 16 S (decide_eq_false (by omega) : decide ((n : Int) < (n : Int)) = false) fun S => ?_
  refine Qah S fun bs aa w S => ?_
  have hO := S.fact (f := (Qaa w0.heap.size 9 1 (.slice ga (n) gc) (n) (List.replicate (n) (Value.string z32)))) (by simp)
  rcases hO.2 with ⟨hv, q⟩ | ⟨g, cap, cur, hv, hg0, hgc, hnc, hcm, hcs, htk⟩
  · simp only [Value.slice.injEq] at hv
    obtain ⟨rfl, rfl, rfl⟩ := hv
    exact Qan S (by kernel_rfl) (by kernel_rfl) fun hg => ⟨⟨none, 0, 0, none, 0, 0, 0, 0, 0, 0, [], []⟩, rfl, ⟨⟨⟨rfl, Or.inl rfl, rfl, Or.inl rfl, Or.inl ⟨rfl, rfl, rfl⟩, Nat.zero_le _, fun _ => rfl⟩, rfl, rfl, fun j hj => absurd hj (Nat.not_lt_zero _), fun j hj => absurd hj (Nat.not_lt_zero _), Or.inl rfl, Or.inl rfl⟩, Nat.le_refl _⟩, Qaq hg⟩
  · simp only [Value.slice.injEq] at hv
    obtain ⟨rfl, _, rfl⟩ := hv
    exact Qan S (by kernel_rfl) (by kernel_rfl) fun hg => ⟨⟨some ⟨g, 0, none⟩, n, gc, none, 0, 0, g, 0, 0, 0, List.replicate n z32, []⟩, rfl, ⟨⟨⟨by simp, Or.inr rfl, rfl, Or.inl rfl, Or.inl ⟨rfl, rfl, rfl⟩, Nat.zero_le _, fun h => by cases h⟩, rfl, rfl, Qgd (n := n) (cs := cur.toList) (by simpa using hgc) (by rw [Nat.mul_one] at htk; rw [htk, List.map_replicate]), fun j hj => absurd hj (Nat.not_lt_zero _), Or.inr hg0, Or.inl rfl⟩, hnc⟩, Qaq hg⟩
theorem rn_s (m j : Nat) (hj : j < n) (ih : ∀ (ga : Option Addr) (gc : Nat) (hgn : ga = none → gc = 0) (x0 x1 : Nat) (aa : Act) (w : World) (S : Sy w0 [] [x0, x1] (rnS n (j + 1) ga gc) [(Qaa w0.heap.size 9 1 (.slice ga (j + 1) gc) (j + 1) (List.replicate (j + 1) (Value.string z32)))] aa w), post Try.prog (.rnd (m) (Qa_ rn1) :: rn1.k.tail) (bodyPost Try.prog Try.f18 fun e w' => ∃ d' : Dk, e = .returned (.tuple #[d'.v, .int .i64 0]) ∧ (Dev w0.heap.size w' d' (List.replicate n z32) [] ∧ d'.sl ≤ d'.sc) ∧ Below w0.heap.size w0 w') .normal aa w) (ga : Option Addr) (gc : Nat) (hgn : ga = none → gc = 0) (x0 x1 : Nat) (aa : Act) (w : World) (S : Sy w0 [] [x0, x1] (rnS n (j) ga gc) [(Qaa w0.heap.size 9 1 (.slice ga (j) gc) (j) (List.replicate (j) (Value.string z32)))] aa w) : post Try.prog (.rnd (m + 1) (Qa_ rn1) :: rn1.k.tail) (bodyPost Try.prog Try.f18 fun e w' => ∃ d' : Dk, e = .returned (.tuple #[d'.v, .int .i64 0]) ∧ (Dev w0.heap.size w' d' (List.replicate n z32) [] ∧ d'.sl ≤ d'.sc) ∧ Below w0.heap.size w0 w') .normal aa w := by
  have hIs : (Try.prog.info? 9).map (fun i => (i.zero, i.size, i.bytes)) = some (some (.string ByteArray.empty), 1, 16) := by kernel_rfl
  obtain ⟨iis, his1, his2, his3, his4⟩ : ∃ ii, Try.prog.info? 9 = some ii ∧ ii.zero = some (.string ByteArray.empty) ∧ ii.size = 1 ∧ ii.bytes = 16 := by
    cases hi : Try.prog.info? 9 with
    | none => rw [hi] at hIs; cases hIs
    | some i =>
      rw [hi] at hIs
      simp only [Option.map_some, Option.some.injEq, Prod.mk.injEq] at hIs
      exact ⟨i, rfl, hIs.1, hIs.2.1, hIs.2.2⟩
  refine Qap (c := ⟨(.rnd (m + 1) (Qa_ rn1) :: rn1.k.tail), rnS n j ga gc⟩) 5 50 3 S fun bs aa w S => ?_
  refine Qab 16 S (decide_eq_true (by omega) : decide ((j : Int) < (n : Int)) = true) fun S => ?_
  refine Qah S fun bs aa w S => ?_
  refine QaF [] (by kernel_rfl) (by kernel_rfl) S (by kernel_rfl) (fun aa w D => ?_)
  refine Qac [1, 2] (by kernel_rfl) (by kernel_rfl) rfl (na2 ?_ ?_)
  · refine Qbr 1 D (by kernel_rfl) (Nat.le_refl _) (by kernel_rfl) (by kernel_rfl) fun bs aa w D hl => ?_
    refine Qac [2] (by kernel_rfl) (by kernel_rfl) rfl (na1 ?_)
    · refine QeN 2 D (by kernel_rfl) (QfQ w) (by kernel_rfl) fun aa w D => ?_
      refine Qac [3] (by kernel_rfl) (by kernel_rfl) rfl (na1 ?_)
      · refine Qbr 3 D (by kernel_rfl) hl (by kernel_rfl) (by kernel_rfl) fun bs aa w D hl => ?_
        refine Qac [4] (by kernel_rfl) (by kernel_rfl) rfl (na1 ?_)
        · refine have hO0 := D.S.fact (f := (Qaa w0.heap.size 9 1 (.slice ga (j) gc) (j) (List.replicate (j) (Value.string z32)))) (by simp); have hap := (D.S.fs (Qaa w0.heap.size 9 1 (.slice ga (j) gc) (j) (List.replicate (j) (Value.string z32))) (by simp)).2; have hsz := D.S.gr.size; Qgp 4 w0.heap.size [] D (by kernel_rfl) (u := .v (.slice ga j gc)) (y := .s 2 0 1 1) (t := 27) (e := 9) (v := .slice ga j gc) (n := j) (ad := adr _ 2 0) (m := 1) (cp := 1) (size := 1) (bytes := 16) (xs := (List.replicate (j) (Value.string z32))) (news := [.string z32]) (by kernel_rfl) Try.underlying27 his1 his2 his3 his4 rfl (by omega) rfl rfl hO0 hsz (own2 (P := Try.prog) (ty := 9) (cs := [.string z32]) D.S (by kernel_rfl)) rfl (by intro u hu; simp only [List.mem_singleton] at hu; subst hu; rfl) (by simp only [maxLen]; omega) (by omega) (fun g hg => Or.inr (hO0.lt g hg).1) (fun f hf => by cases hf) (fun f hf => absurd hf List.not_mem_nil) (fun i hi hb => hap i hi hb) fun v' aa w2 hO hg12 hnn hlt D => ?_
          obtain ⟨ga2, gc2, hgn2, rfl⟩ : ∃ ga2 gc2, (ga2 = none → gc2 = 0) ∧ v' = .slice ga2 (j + 1) gc2 := by
            rcases hO.2 with ⟨_, q⟩ | ⟨g2, cap2, cur2, rfl, _⟩
            · omega
            · exact ⟨some ⟨g2, 0, none⟩, cap2, (fun h => by cases h), rfl⟩
          have D := D.addF (Qaa w0.heap.size 9 1 (.slice ga2 (j + 1) gc2) (j + 1) (List.replicate (j + 1) (Value.string z32))) (by show World.ownsRow _ _ _ _ _ _ _; rw [List.replicate_succ']; exact hO) (fun i hi hb => by rcases hnn _ hb with q | q; exact hap i hi q; have h1 := hlt i hi; omega)
          refine Qac [6] (by kernel_rfl) (by kernel_rfl) rfl (na1 ?_)
          · refine Qbr 6 D (by kernel_rfl) hl (by kernel_rfl) (by kernel_rfl) fun bs aa w D hl => ?_
            refine QaM D (by kernel_rfl) fun S => ?_
            refine Qap 6 60 2 S fun bs aa w S => ?_
            refine QaB 18 S (by rw [IntKind.wrap_i64]; omega : IntKind.i64.wrap ((j : Int) + 1) = ((j + 1 : Nat) : Int)) fun S => ?_
            refine Qaj ⟨0, [999]⟩ 50 S fun bs aa w S => ?_
            have S := S.sub (F' := [(Qaa w0.heap.size 9 1 (.slice ga2 (j + 1) gc2) (j + 1) (List.replicate (j + 1) (Value.string z32)))]) (by intro f hf; simp only [List.mem_singleton] at hf; subst hf; simp)
            have S2 := S.to [0, 1] (rnS n (j + 1) ga2 gc2) (by kernel_rfl) (by kernel_rfl) (by kernel_rfl) (by kernel_rfl) (by kernel_rfl)
            refine Qag (k' := (.rnd (m) (Qa_ rn1) :: rn1.k.tail)) (by kernel_rfl) ?_
            exact ih ga2 gc2 hgn2 _ _ aa w S2
  · refine QeN 2 D (by kernel_rfl) (QfQ w) (by kernel_rfl) fun aa w D => ?_
    refine Qac [1, 3] (by kernel_rfl) (by kernel_rfl) rfl (na2 ?_ ?_)
    · refine Qbr 1 D (by kernel_rfl) (Nat.le_refl _) (by kernel_rfl) (by kernel_rfl) fun bs aa w D hl => ?_
      refine Qac [3] (by kernel_rfl) (by kernel_rfl) rfl (na1 ?_)
      · refine Qbr 3 D (by kernel_rfl) hl (by kernel_rfl) (by kernel_rfl) fun bs aa w D hl => ?_
        refine Qac [4] (by kernel_rfl) (by kernel_rfl) rfl (na1 ?_)
        · refine have hO0 := D.S.fact (f := (Qaa w0.heap.size 9 1 (.slice ga (j) gc) (j) (List.replicate (j) (Value.string z32)))) (by simp); have hap := (D.S.fs (Qaa w0.heap.size 9 1 (.slice ga (j) gc) (j) (List.replicate (j) (Value.string z32))) (by simp)).2; have hsz := D.S.gr.size; Qgp 4 w0.heap.size [] D (by kernel_rfl) (u := .v (.slice ga j gc)) (y := .s 2 0 1 1) (t := 27) (e := 9) (v := .slice ga j gc) (n := j) (ad := adr _ 2 0) (m := 1) (cp := 1) (size := 1) (bytes := 16) (xs := (List.replicate (j) (Value.string z32))) (news := [.string z32]) (by kernel_rfl) Try.underlying27 his1 his2 his3 his4 rfl (by omega) rfl rfl hO0 hsz (own2 (P := Try.prog) (ty := 9) (cs := [.string z32]) D.S (by kernel_rfl)) rfl (by intro u hu; simp only [List.mem_singleton] at hu; subst hu; rfl) (by simp only [maxLen]; omega) (by omega) (fun g hg => Or.inr (hO0.lt g hg).1) (fun f hf => by cases hf) (fun f hf => absurd hf List.not_mem_nil) (fun i hi hb => hap i hi hb) fun v' aa w2 hO hg12 hnn hlt D => ?_
          obtain ⟨ga2, gc2, hgn2, rfl⟩ : ∃ ga2 gc2, (ga2 = none → gc2 = 0) ∧ v' = .slice ga2 (j + 1) gc2 := by
            rcases hO.2 with ⟨_, q⟩ | ⟨g2, cap2, cur2, rfl, _⟩
            · omega
            · exact ⟨some ⟨g2, 0, none⟩, cap2, (fun h => by cases h), rfl⟩
          have D := D.addF (Qaa w0.heap.size 9 1 (.slice ga2 (j + 1) gc2) (j + 1) (List.replicate (j + 1) (Value.string z32))) (by show World.ownsRow _ _ _ _ _ _ _; rw [List.replicate_succ']; exact hO) (fun i hi hb => by rcases hnn _ hb with q | q; exact hap i hi q; have h1 := hlt i hi; omega)
          refine Qac [6] (by kernel_rfl) (by kernel_rfl) rfl (na1 ?_)
          · refine Qbr 6 D (by kernel_rfl) hl (by kernel_rfl) (by kernel_rfl) fun bs aa w D hl => ?_
            refine QaM D (by kernel_rfl) fun S => ?_
            refine Qap 6 60 2 S fun bs aa w S => ?_
            refine QaB 18 S (by rw [IntKind.wrap_i64]; omega : IntKind.i64.wrap ((j : Int) + 1) = ((j + 1 : Nat) : Int)) fun S => ?_
            refine Qaj ⟨0, [999]⟩ 50 S fun bs aa w S => ?_
            have S := S.sub (F' := [(Qaa w0.heap.size 9 1 (.slice ga2 (j + 1) gc2) (j + 1) (List.replicate (j + 1) (Value.string z32)))]) (by intro f hf; simp only [List.mem_singleton] at hf; subst hf; simp)
            have S2 := S.to [0, 1] (rnS n (j + 1) ga2 gc2) (by kernel_rfl) (by kernel_rfl) (by kernel_rfl) (by kernel_rfl) (by kernel_rfl)
            refine Qag (k' := (.rnd (m) (Qa_ rn1) :: rn1.k.tail)) (by kernel_rfl) ?_
            exact ih ga2 gc2 hgn2 _ _ aa w S2
    · refine Qbr 3 D (by kernel_rfl) (Nat.le_refl _) (by kernel_rfl) (by kernel_rfl) fun bs aa w D hl => ?_
      refine Qac [1] (by kernel_rfl) (by kernel_rfl) rfl (na1 ?_)
      · refine Qbr 1 D (by kernel_rfl) hl (by kernel_rfl) (by kernel_rfl) fun bs aa w D hl => ?_
        refine Qac [4] (by kernel_rfl) (by kernel_rfl) rfl (na1 ?_)
        · refine have hO0 := D.S.fact (f := (Qaa w0.heap.size 9 1 (.slice ga (j) gc) (j) (List.replicate (j) (Value.string z32)))) (by simp); have hap := (D.S.fs (Qaa w0.heap.size 9 1 (.slice ga (j) gc) (j) (List.replicate (j) (Value.string z32))) (by simp)).2; have hsz := D.S.gr.size; Qgp 4 w0.heap.size [] D (by kernel_rfl) (u := .v (.slice ga j gc)) (y := .s 2 0 1 1) (t := 27) (e := 9) (v := .slice ga j gc) (n := j) (ad := adr _ 2 0) (m := 1) (cp := 1) (size := 1) (bytes := 16) (xs := (List.replicate (j) (Value.string z32))) (news := [.string z32]) (by kernel_rfl) Try.underlying27 his1 his2 his3 his4 rfl (by omega) rfl rfl hO0 hsz (own2 (P := Try.prog) (ty := 9) (cs := [.string z32]) D.S (by kernel_rfl)) rfl (by intro u hu; simp only [List.mem_singleton] at hu; subst hu; rfl) (by simp only [maxLen]; omega) (by omega) (fun g hg => Or.inr (hO0.lt g hg).1) (fun f hf => by cases hf) (fun f hf => absurd hf List.not_mem_nil) (fun i hi hb => hap i hi hb) fun v' aa w2 hO hg12 hnn hlt D => ?_
          obtain ⟨ga2, gc2, hgn2, rfl⟩ : ∃ ga2 gc2, (ga2 = none → gc2 = 0) ∧ v' = .slice ga2 (j + 1) gc2 := by
            rcases hO.2 with ⟨_, q⟩ | ⟨g2, cap2, cur2, rfl, _⟩
            · omega
            · exact ⟨some ⟨g2, 0, none⟩, cap2, (fun h => by cases h), rfl⟩
          have D := D.addF (Qaa w0.heap.size 9 1 (.slice ga2 (j + 1) gc2) (j + 1) (List.replicate (j + 1) (Value.string z32))) (by show World.ownsRow _ _ _ _ _ _ _; rw [List.replicate_succ']; exact hO) (fun i hi hb => by rcases hnn _ hb with q | q; exact hap i hi q; have h1 := hlt i hi; omega)
          refine Qac [6] (by kernel_rfl) (by kernel_rfl) rfl (na1 ?_)
          · refine Qbr 6 D (by kernel_rfl) hl (by kernel_rfl) (by kernel_rfl) fun bs aa w D hl => ?_
            refine QaM D (by kernel_rfl) fun S => ?_
            refine Qap 6 60 2 S fun bs aa w S => ?_
            refine QaB 18 S (by rw [IntKind.wrap_i64]; omega : IntKind.i64.wrap ((j : Int) + 1) = ((j + 1 : Nat) : Int)) fun S => ?_
            refine Qaj ⟨0, [999]⟩ 50 S fun bs aa w S => ?_
            have S := S.sub (F' := [(Qaa w0.heap.size 9 1 (.slice ga2 (j + 1) gc2) (j + 1) (List.replicate (j + 1) (Value.string z32)))]) (by intro f hf; simp only [List.mem_singleton] at hf; subst hf; simp)
            have S2 := S.to [0, 1] (rnS n (j + 1) ga2 gc2) (by kernel_rfl) (by kernel_rfl) (by kernel_rfl) (by kernel_rfl) (by kernel_rfl)
            refine Qag (k' := (.rnd (m) (Qa_ rn1) :: rn1.k.tail)) (by kernel_rfl) ?_
            exact ih ga2 gc2 hgn2 _ _ aa w S2
theorem rn_a : ∀ (r j : Nat), j + r = n → ∀ (ga : Option Addr) (gc : Nat) (hgn : ga = none → gc = 0) (x0 x1 : Nat) (aa : Act) (w : World) (S : Sy w0 [] [x0, x1] (rnS n (j) ga gc) [(Qaa w0.heap.size 9 1 (.slice ga (j) gc) (j) (List.replicate (j) (Value.string z32)))] aa w), post Try.prog (.rnd (r + 1) (Qa_ rn1) :: rn1.k.tail) (bodyPost Try.prog Try.f18 fun e w' => ∃ d' : Dk, e = .returned (.tuple #[d'.v, .int .i64 0]) ∧ (Dev w0.heap.size w' d' (List.replicate n z32) [] ∧ d'.sl ≤ d'.sc) ∧ Below w0.heap.size w0 w') .normal aa w := by
  intro r
  induction r with
  | zero => intro j hj ga gc hgn x0 x1 aa w S; obtain rfl : j = n := by omega
            exact rn_e w0 j hn 0 ga gc hgn x0 x1 aa w S
  | succ r ih => intro j hj ga gc hgn x0 x1 aa w S; exact rn_s w0 n hn (r + 1) j (by omega) (ih (j + 1) (by omega)) ga gc hgn x0 x1 aa w S
theorem rnew_c : Calls Try.prog 18 #[.int .i64 (n : Int)] w0 fun e w' => ∃ d' : Dk, e = .returned (.tuple #[d'.v, .int .i64 0]) ∧ (Dev w0.heap.size w' d' (List.replicate n z32) [] ∧ d'.sl ≤ d'.sc) ∧ Below w0.heap.size w0 w' := by
  refine Qas [] [] (by intro f hf; cases hf) Try.func18 rfl rfl fun aa S => ?_
  refine Qap 1 60 2 S fun bs aa w S => ?_
  refine Qab 7 S (decide_eq_false (by omega) : decide ((n : Int) < 0) = false) fun S => ?_
  refine Qad 3 S fun bs aa w S => ?_
  refine Qab 10 S (decide_eq_false (by omega) : decide ((n : Int) > 512) = false) fun S => ?_
  refine Qah S fun bs aa w S => ?_
  have S := S.add (Qaa w0.heap.size 9 1 (.slice none (0) 0) (0) (List.replicate (0) (Value.string z32))) (World.ownsRow_nil _ _ _ _) (fun i hi h => by cases h)
  have S2 := S.to [0, 1] (rnS n 0 none 0) (by kernel_rfl) (by kernel_rfl) (by kernel_rfl) (by kernel_rfl) (by kernel_rfl)
  refine QaR (n + 1) (by kernel_rfl) ?_
  refine Qag (k' := (.rnd (n + 1) (Qa_ rn1) :: rn1.k.tail)) (by kernel_rfl) ?_
  exact rn_a w0 n hn n 0 (by omega) none 0 (fun _ => rfl) _ _ aa w S2
end
def tch (n : Nat) (l : List Nat) : List Bool := l.foldl (fun T c => T.set (c % n) true) (List.replicate n false)
structure PInv2 (n : Nat) (x : List ByteArray × List (Int × ByteArray) × List (Int × ByteArray)) : Prop where
  len : x.1.length = n
  sz : ∀ s ∈ x.1, s.size = 32
  w : ∀ y ∈ x.2.1, (0 ≤ y.1 ∧ y.1 < (n : Int)) ∧ y.2.size = 32
structure KI (w0 : World) (k : Nat) (S0 : List ByteArray) (l : List Nat) (i : Nat) (x : Dk) (tg : Nat) : Prop where
  ok : x.ok
  sl : x.sl = k + 1
  tc : x.tc ≤ 9223372036854775807
  eq : ∃ D, mput (k + 1) S0 (l.take i) = (x.S, x.W, D)
  tl : x.tl ≤ i
  ap : x.b ≠ tg ∧ (x.W.length = 0 ∨ x.c ≠ tg)
structure Dvv (h0 : Nat) (w : World) (d d' : Dk) (S : List ByteArray) (W : List (Int × ByteArray)) : Prop where
  g : d'.gen
  eS : d'.S = S
  eW : d'.W = W
  sA : StrAt w d'.b d'.o d'.S
  wA : WasAt w d'.c d'.p d'.W
  b0 : d'.S.length = 0 ∨ h0 ≤ d'.b ∨ (d'.b = d.b ∧ d.S.length ≠ 0)
  c0 : d'.W.length = 0 ∨ h0 ≤ d'.c ∨ (d'.c = d.c ∧ d.W.length ≠ 0)
theorem Qjn (h0 : Nat) {w : World} {d : Dk} (hg : d.gen) (hA : StrAt w d.b d.o d.S) (hB : WasAt w d.c d.p d.W) : Dvv h0 w d d d.S d.W := ⟨hg, rfl, rfl, hA, hB, by by_cases h : d.S.length = 0; exact Or.inl h; exact Or.inr (Or.inr ⟨rfl, h⟩), by by_cases h : d.W.length = 0; exact Or.inl h; exact Or.inr (Or.inr ⟨rfl, h⟩)⟩
def Qke (d : Dk) (n : Int) (s : ByteArray) : Bool := decide (0 ≤ n ∧ n < (d.sl : Int)) && decide (s.size = 32)
def waS (d : Dk) (n : Int) (s : ByteArray) : List ByteArray := if Qke d n s then d.S.set n.toNat s else d.S
def waW (d : Dk) (n : Int) (s : ByteArray) : List (Int × ByteArray) := if Qke d n s then d.W ++ [(n, d.S.getD n.toNat ByteArray.empty)] else d.W
def waE (d : Dk) (n : Int) (s : ByteArray) : Int := if 0 ≤ n ∧ n < (d.sl : Int) then (if s.size = 32 then 0 else 1) else 8
theorem ints_has {w : World} {zs : List Int} {ma : Option Addr} {mc mb mo : Nat} (hz : zs.length ≤ 60) (hm : zs.length = 0 ∨ ma = some ⟨mb, mo, none⟩) (hI : Qbm w mb mo zs) : QbH w (.slice ma zs.length mc) zs :=
  ⟨ma, mc, rfl, by omega, hm.imp id fun h => ⟨mb, mo, h, hI⟩⟩
structure Mv where
  a : Option Addr
  c : Nat
  b : Nat
  o : Nat
structure Mv.ok (q : Mv) (h0 : Nat) (w : World) (mb : Nat) (zs Z : List Int) : Prop where
  ha : Z.length = 0 ∨ q.a = some ⟨q.b, q.o, none⟩
  hI : Qbm w q.b q.o Z
  h0 : Z.length = 0 ∨ h0 ≤ q.b ∨ (q.b = mb ∧ zs.length ≠ 0)
def dE (d : Dk) (k c o n : Int) (b : ByteArray) : Int := if k = 5 then (if o = 0 ∧ n = 0 then waE d c b else 1) else (if c = 0 ∧ o = 0 ∧ n = 0 ∧ b = ByteArray.empty then 0 else 1)
def dS (d : Dk) (k c o n : Int) (b : ByteArray) : List ByteArray := if k = 5 then (if o = 0 ∧ n = 0 then waS d c b else d.S) else d.S
def dW (d : Dk) (k c o n : Int) (b : ByteArray) : List (Int × ByteArray) := if k = 5 then (if o = 0 ∧ n = 0 then waW d c b else d.W) else (if c = 0 ∧ o = 0 ∧ n = 0 ∧ b = ByteArray.empty then [] else d.W)
theorem wa_err {d : Dk} {c : Int} {b : ByteArray} (h : waE d c b ≠ 0) : waS d c b = d.S ∧ waW d c b = d.W := by
  unfold waE at h
  have : Qke d c b = false := by
    unfold Qke
    by_cases h1 : 0 ≤ c ∧ c < (d.sl : Int)
    · rw [if_pos h1] at h
      by_cases h2 : b.size = 32
      · rw [if_pos h2] at h; exact absurd rfl h
      · rw [decide_eq_false h2, Bool.and_false]
    · rw [decide_eq_false h1, Bool.false_and]
  unfold waS waW
  rw [this]
  exact ⟨rfl, rfl⟩
theorem dE_err {d : Dk} {k c o n : Int} {b : ByteArray} (h : dE d k c o n b ≠ 0) : dS d k c o n b = d.S ∧ dW d k c o n b = d.W := by
  unfold dE at h
  unfold dS dW
  by_cases h5 : k = 5
  · rw [if_pos h5] at h ⊢
    rw [if_pos h5]
    by_cases h0 : o = 0 ∧ n = 0
    · rw [if_pos h0] at h ⊢
      rw [if_pos h0]
      exact wa_err h
    · rw [if_neg h0, if_neg h0]; exact ⟨rfl, rfl⟩
  · rw [if_neg h5] at h ⊢
    rw [if_neg h5]
    by_cases h0 : c = 0 ∧ o = 0 ∧ n = 0 ∧ b = ByteArray.empty
    · rw [if_pos h0] at h; exact absurd rfl h
    · rw [if_neg h0]; exact ⟨rfl, rfl⟩
theorem QmD : Try.prog.eqGuardType Try.prog.depth 66 = false := by kernel_rfl
theorem ex_neA {s : SS} {bs : List Nat} {x y : Operand} {ty : TypeId} {u v : Array Value} {bv : Bool} (hx : s.val x = some (.v (.agg u))) (hy : s.val y = some (.v (.agg v))) (hr : ∀ W, (binOp .neq 66 (.agg u) (.agg v)).run Try.prog W = .ok (.bool bv) W) :
    ∀ (o : Oper) (ρ : Operand → Value) (W : World), o.op = .binOp .neq 66 x y 66 → o.type = ty → (∀ x y, s.val x = some y → ρ x = den bs y) → (execOp ρ o).run Try.prog W = .ok (.value (.bool bv)) W := by
  intro o ρ W h1 h2 h3
  have e1 : ρ x = .agg u := h3 x _ hx
  have e2 : ρ y = .agg v := h3 y _ hy
  have hg : ∀ W, (eqGuard .neq 66 x y (.agg u) (.agg v)).run Try.prog W = .ok () W := fun W => run_eqGuard_agg W .neq 66 x y _ _ QmD
  unfold execOp
  simp only [h1, e1, e2, hg, hr, Sem.run_bind, Sem.run_pure, Result.andThen_ok]
theorem Qkc : Try.prog.underlying 66 = some (.struct (Try.prog.fieldsOf 66)) := by kernel_rfl
theorem acc_held : Try.prog.stoodInHeld 66 = false := by kernel_rfl
theorem QmC (c o n : Int) (b : ByteArray) (w : World) : (binOp .neq 66 (.agg #[.int .i64 6, .int .i64 c, .int .i64 o, .int .i64 n, .string b]) (.agg #[.int .i64 6, .int .i64 0, .int .i64 0, .int .i64 0, .string ByteArray.empty])).run Try.prog w = .ok (.bool (!decide (c = 0 ∧ o = 0 ∧ n = 0 ∧ b = ByteArray.empty))) w := by
  rw [run_neq_struct, show (10000 : Nat) = 9999 + 1 from rfl, run_equalIn_agg w 9999 66 _ _ Qkc acc_held]
  have u3 := Try.underlying3
  have a3 := Try.isAgg3
  have z3 := Try.sizeOf3
  have u4 := Try.underlying9
  have a4 := Try.isAgg9
  have z4 := Try.sizeOf9
  simp only [Program.fieldsOf, Try.underlying66]
  go_simp
  have e := tl_eq b ByteArray.empty
  by_cases h1 : c = 0 <;> by_cases h2 : o = 0 <;> by_cases h3 : n = 0 <;> by_cases h4 : b = ByteArray.empty <;> simp_all
structure Dvc (h0 : Nat) (w : World) (d d' : Dk) (S : List ByteArray) (W : List (Int × ByteArray)) : Prop where
  g : d'.gen
  eS : d'.S = S
  eW : d'.W = W
  sA : StrAt w d'.b d'.o d'.S
  wA : WasAt w d'.c d'.p d'.W
  b0 : d'.S.length = 0 ∨ h0 ≤ d'.b ∨ (d'.b = d.b ∧ d.S.length ≠ 0)
  c0 : d'.W.length = 0 ∨ h0 ≤ d'.c ∨ (d'.c = d.c ∧ d.W.length ≠ 0)
  cp : d.sl ≤ d.sc → d'.sl ≤ d'.sc
theorem QcY (h0 : Nat) {w : World} {d : Dk} (hg : d.gen) (hA : StrAt w d.b d.o d.S) (hB : WasAt w d.c d.p d.W) : Dvc h0 w d d d.S d.W := ⟨hg, rfl, rfl, hA, hB, (Qjn h0 hg hA hB).b0, (Qjn h0 hg hA hB).c0, id⟩
theorem Dvc.re {h0 h1 : Nat} {w1 w : World} {d x : Dk} {S : List ByteArray} {W : List (Int × ByteArray)} (h : Dvc h1 w1 d x S W) (hle : h0 ≤ h1) (sA : StrAt w x.b x.o x.S) (wA : WasAt w x.c x.p x.W) : Dvc h0 w d x S W :=
  ⟨h.g, h.eS, h.eW, sA, wA, h.b0.imp id (Or.imp (fun q => Nat.le_trans hle q) id), h.c0.imp id (Or.imp (fun q => Nat.le_trans hle q) id), h.cp⟩
theorem pwrite_c (d : Dk) (hd : d.ok) (hg : d.gen) (htl : d.tl ≤ 60) (n : Int) (s : ByteArray) (w0 : World) (hA : StrAt w0 d.b d.o d.S) (hB : WasAt w0 d.c d.p d.W) : Calls Try.prog 61 #[d.v, .int .i64 n, .string s] w0 fun e w' => ∃ d' : Dk, e = .returned (.tuple #[d'.v, .int .i64 (waE d n s)]) ∧ Dvc w0.heap.size w' d d' (waS d n s) (waW d n s) ∧ Below w0.heap.size w0 w' := by
  by_cases hn : 0 ≤ n ∧ n < (d.sl : Int)
  · by_cases hs : s.size = 32
    · have e1 : Qke d n s = true := by unfold Qke; rw [decide_eq_true hn, decide_eq_true hs]; rfl
      unfold waS waW waE
      rw [if_pos e1, if_pos e1, if_pos hn, if_pos hs]
      have h := write_c w0 d hd n.toNat (by omega) s hs hg.hc (by omega) hA hB
      rw [Int.toNat_of_nonneg hn.1] at h
      exact h.mono fun e w' ⟨d', q1, q2, q3, q4, q5, q6, q7, q8, q9, q10⟩ => ⟨d', q1, ⟨⟨q2.hS, q2.hs, q2.hW, q2.hw, q2.hw2.elim Or.inl (fun q => Or.inr q.2), q6, fun h0 => absurd h0 (by rw [q2.hs.resolve_left (by omega)]; simp)⟩, q4, q5, q8, q9, Or.inr (Or.inl q7.1), Or.inr (Or.inl q7.2), fun _ => q3.2⟩, q10⟩
    · have e1 : ¬ Qke d n s = true := by unfold Qke; rw [decide_eq_false hs]; simp
      unfold waS waW waE
      rw [if_neg e1, if_neg e1, if_pos hn, if_neg hs]
      exact (Qkp d n hn s hs w0).mono fun e w' h => ⟨d, h.1, QcY _ hg (hA.keep h.2) (hB.keep h.2), h.2⟩
  · have e1 : ¬ Qke d n s = true := by unfold Qke; rw [decide_eq_false hn]; simp
    unfold waS waW waE
    rw [if_neg e1, if_neg e1, if_neg hn]
    exact (Qkq d n hn s w0).mono fun e w' h => ⟨d, h.1, QcY _ hg (hA.keep h.2) (hB.keep h.2), h.2⟩
section
variable (w0 : World) (d : Dk) (hd : d.ok) (hg : d.gen) (htl : d.tl ≤ 60) (hA : StrAt w0 d.b d.o d.S) (hB : WasAt w0 d.c d.p d.W)
include w0 d hd hg htl hA hB
theorem pd1_c (c o n : Int) (b : ByteArray) : Calls Try.prog 60 #[d.v, .agg #[.int .i64 5, .int .i64 c, .int .i64 o, .int .i64 n, .string b]] w0 fun e w' => ∃ x : Dk, e = .returned (.tuple #[x.v, .int .i64 (dE d 5 c o n b)]) ∧ Dvc w0.heap.size w' d x (dS d 5 c o n b) (dW d 5 c o n b) ∧ Below w0.heap.size w0 w' := by
  refine Qas [] [Qaz d.b d.o d.S, QaP d.c d.p d.W] (by intro f hf; simp only [List.mem_cons, List.not_mem_nil, or_false] at hf; rcases hf with rfl | rfl; exact hA; exact hB) Try.func60 rfl rfl fun aa S => ?_
  refine Qap 1 60 3 S fun bs aa w S => ?_
  by_cases ho : o = 0
  case neg =>
    have hE : dE d 5 c o n b = 1 := by unfold dE; rw [if_pos rfl, if_neg (fun h => ho h.1)]
    have hS' : dS d 5 c o n b = d.S := by unfold dS; rw [if_pos rfl, if_neg (fun h => ho h.1)]
    have hW' : dW d 5 c o n b = d.W := by unfold dW; rw [if_pos rfl, if_neg (fun h => ho h.1)]
    refine Qab 8 S (by simp [ho] : (!decide (o = 0)) = true) fun S => ?_
    refine Qah S fun bs aa w S => ?_
    exact Qan S (by kernel_rfl) (by kernel_rfl) fun hg' => ⟨d, by rw [hE], by rw [hS', hW']; exact QcY _ hg (S.fact (f := Qaz d.b d.o d.S) (by simp)) (S.fact (f := QaP d.c d.p d.W) (by simp)), Qaq hg'⟩
  refine Qab 8 S (by simp [ho] : (!decide (o = 0)) = false) fun S => ?_
  refine Qad 4 S fun bs aa w S => ?_
  by_cases hn : n = 0
  case neg =>
    have hE : dE d 5 c o n b = 1 := by unfold dE; rw [if_pos rfl, if_neg (fun h => hn h.2)]
    have hS' : dS d 5 c o n b = d.S := by unfold dS; rw [if_pos rfl, if_neg (fun h => hn h.2)]
    have hW' : dW d 5 c o n b = d.W := by unfold dW; rw [if_pos rfl, if_neg (fun h => hn h.2)]
    refine Qab 12 S (by simp [hn] : (!decide (n = 0)) = true) fun S => ?_
    refine Qah S fun bs aa w S => ?_
    exact Qan S (by kernel_rfl) (by kernel_rfl) fun hg' => ⟨d, by rw [hE], by rw [hS', hW']; exact QcY _ hg (S.fact (f := Qaz d.b d.o d.S) (by simp)) (S.fact (f := QaP d.c d.p d.W) (by simp)), Qaq hg'⟩
  refine Qab 12 S (by simp [hn] : (!decide (n = 0)) = false) fun S => ?_
  have hE : dE d 5 c o n b = waE d c b := by unfold dE; rw [if_pos rfl, if_pos ⟨ho, hn⟩]
  have hS' : dS d 5 c o n b = waS d c b := by unfold dS; rw [if_pos rfl, if_pos ⟨ho, hn⟩]
  have hW' : dW d 5 c o n b = waW d c b := by unfold dW; rw [if_pos rfl, if_pos ⟨ho, hn⟩]
  rw [hE, hS', hW']
  have HM := fun w (hA : StrAt w d.b d.o d.S) (hB : WasAt w d.c d.p d.W) => pwrite_c d hd hg htl c b w hA hB
  generalize waE d c b = E at *
  generalize waS d c b = S1 at *
  generalize waW d c b = W1 at *
  refine Qap 3 60 5 S fun bs aa w S => ?_
  have hdS := (S.fs (Qaz d.b d.o d.S) (by simp)).2
  have hdW := (S.fs (QaP d.c d.p d.W) (by simp)).2
  have hlt3 := fun j hj => S.lt (i := j) hj
  have hwl := S.gr.size
  refine Qbg S (X := Dk) (val := fun q => .tuple #[q.v, .int .i64 E]) (C := fun q w' => Dvc w.heap.size w' d q S1 W1) (f := 61) (args := #[d.v, .int .i64 c, .string b]) (HM w (S.fact (f := Qaz d.b d.o d.S) (by simp)) (S.fact (f := QaP d.c d.p d.W) (by simp))) (by kernel_rfl) fun x aa w1 hx hb S => ?_
  have S := (S.add (Qaz x.b x.o x.S) hx.sA (fun j hj hb => by have q1 := hlt3 j hj; obtain ⟨q2, q3⟩ := hb; rcases hx.b0 with q4 | q4 | ⟨q4, q5⟩; exact q3 q4; omega; exact hdS j hj ⟨q2.trans q4, q5⟩)).add (QaP x.c x.p x.W) hx.wA (fun j hj hb => by have q1 := hlt3 j hj; obtain ⟨q2, q3⟩ := hb; rcases hx.c0 with q4 | q4 | ⟨q4, q5⟩; exact q3 q4; omega; exact hdW j hj ⟨q2.trans q4, q5⟩)
  refine Qah S fun bs aa w S => ?_
  exact Qan S (by kernel_rfl) (by kernel_rfl) fun hg' => ⟨x, rfl, hx.re hwl (S.fact (f := Qaz x.b x.o x.S) (by simp)) (S.fact (f := QaP x.c x.p x.W) (by simp)), Qaq hg'⟩
theorem pd2_c (c o n : Int) (b : ByteArray) : Calls Try.prog 62 #[d.v, .agg #[.int .i64 6, .int .i64 c, .int .i64 o, .int .i64 n, .string b]] w0 fun e w' => ∃ x : Dk, e = .returned (.tuple #[x.v, .int .i64 (dE d 6 c o n b)]) ∧ Dvc w0.heap.size w' d x (dS d 6 c o n b) (dW d 6 c o n b) ∧ Below w0.heap.size w0 w' := by
  refine Qas [] [Qaz d.b d.o d.S, QaP d.c d.p d.W] (by intro f hf; simp only [List.mem_cons, List.not_mem_nil, or_false] at hf; rcases hf with rfl | rfl; exact hA; exact hB) Try.func62 rfl rfl fun aa S => ?_
  refine Qap 1 60 2 S fun bs aa w S => ?_
  by_cases h0 : c = 0 ∧ o = 0 ∧ n = 0 ∧ b = ByteArray.empty
  case neg =>
    have hE : dE d 6 c o n b = 1 := by unfold dE; rw [if_neg (by decide), if_neg h0]
    have hS' : dS d 6 c o n b = d.S := by unfold dS; rw [if_neg (by decide)]
    have hW' : dW d 6 c o n b = d.W := by unfold dW; rw [if_neg (by decide), if_neg h0]
    refine QcC (op := .binOp .neq 66 (.tmp 6) (.tmp 7) 66) (ty := 4) (v := .bool true) S (by kernel_rfl) (ex_neA (bv := true) (by kernel_rfl) (by kernel_rfl) (fun W => by rw [QmC, decide_eq_false h0]; rfl)) fun aa S => ?_
    refine Qah S fun bs aa w S => ?_
    exact Qan S (by kernel_rfl) (by kernel_rfl) fun hg' => ⟨d, by rw [hE], by rw [hS', hW']; exact QcY _ hg (S.fact (f := Qaz d.b d.o d.S) (by simp)) (S.fact (f := QaP d.c d.p d.W) (by simp)), Qaq hg'⟩
  have hE : dE d 6 c o n b = 0 := by unfold dE; rw [if_neg (by decide), if_pos h0]
  have hS' : dS d 6 c o n b = d.S := by unfold dS; rw [if_neg (by decide)]
  have hW' : dW d 6 c o n b = [] := by unfold dW; rw [if_neg (by decide), if_pos h0]
  refine QcC (op := .binOp .neq 66 (.tmp 6) (.tmp 7) 66) (ty := 4) (v := .bool false) S (by kernel_rfl) (ex_neA (bv := false) (by kernel_rfl) (by kernel_rfl) (fun W => by rw [QmC, decide_eq_true h0]; rfl)) fun aa S => ?_
  rw [hE, hS', hW']
  refine Qap 3 60 1 S fun bs aa w S => ?_
  refine QaJ S (sync_t d w) (by kernel_rfl) fun aa w hb S => ?_
  refine Qah S fun bs aa w S => ?_
  refine Qan S (by kernel_rfl) (by kernel_rfl) fun hg' => ⟨⟨d.sa, d.sl, d.sc, none, 0, 0, d.b, d.o, 0, 0, d.S, []⟩, rfl, ⟨⟨hg.hS, hg.hs, rfl, Or.inl rfl, Or.inl ⟨rfl, rfl, rfl⟩, Nat.zero_le _, hg.hsn⟩, rfl, rfl, (S.fact (f := Qaz d.b d.o d.S) (by simp)), fun j hj => absurd hj (Nat.not_lt_zero _), ?_, Or.inl rfl, id⟩, Qaq hg'⟩
  by_cases h : d.S.length = 0
  · exact Or.inl h
  · exact Or.inr (Or.inr ⟨rfl, h⟩)
section
variable (zs : List Int) (ma : Option Addr) (mc mb mo : Nat) (hz : zs.length ≤ 60) (hm : zs.length = 0 ∨ ma = some ⟨mb, mo, none⟩) (hI : Qbm w0 mb mo zs) (c o n : Int) (b : ByteArray)
include zs ma mc mb mo hz hm hI c o n b
theorem pdo_c5 : Calls Try.prog 21 #[.agg #[.slice ma zs.length mc], d.v, .agg #[.int .i64 5, .int .i64 c, .int .i64 o, .int .i64 n, .string b]] w0 fun e w' => ∃ x : Dk, e = .returned (.tuple #[.agg #[.slice ma zs.length mc], x.v, .agg #[.int .i64 0, .bool (decide (dE d 5 c o n b = 0))], .int .i64 (dE d 5 c o n b)]) ∧ Dvc w0.heap.size w' d x (dS d 5 c o n b) (dW d 5 c o n b) ∧ Qbm w' mb mo zs ∧ Below w0.heap.size w0 w' := by
  have HM := fun w (hA : StrAt w d.b d.o d.S) (hB : WasAt w d.c d.p d.W) => pd1_c w d hd hg htl hA hB c o n b
  have HE := @dE_err d 5 c o n b
  generalize dE d 5 c o n b = E at *
  generalize dS d 5 c o n b = S1 at *
  generalize dW d 5 c o n b = W1 at *
  refine Qas [] [Qaz d.b d.o d.S, QaP d.c d.p d.W, Qax mb mo zs] (by intro f hf; simp only [List.mem_cons, List.not_mem_nil, or_false] at hf; rcases hf with rfl | rfl | rfl; exact hA; exact hB; exact hI) Try.func21 rfl rfl fun aa S => ?_
  refine Qaj ⟨0, [1]⟩ 60 S fun bs aa w S => ?_
  refine QaF [2] (by kernel_rfl) (by kernel_rfl) S (by kernel_rfl) (fun aa w D => ?_)
  refine Qih 0 D (by kernel_rfl) (by kernel_rfl) (by kernel_rfl) (X := Nat) (val := fun g => .map (some g)) (C := fun g w' => QjB w' g) (f := 41) (args := #[]) ((Qhm w).mono fun e w' ⟨g, h1, h2, _, h4⟩ => ⟨g, h1, h2, h4⟩) (by kernel_rfl) fun g aa w hgm hb D => ?_
  refine Qac [3] (by kernel_rfl) (by kernel_rfl) rfl (na1 ?_)
  refine QdB 3 (op := .lookup TM (.tmp 18) (.tmp 20) true) (ty := 90) (C := fun v w' => v = .tuple #[.func (.func 60) #[] #[], .bool true]) D (by kernel_rfl) (by kernel_rfl) (fun oo ρ h1 h2 h3 => ⟨.tuple #[.func (.func 60) #[] #[], .bool true], w, by
    have e1 : ρ (.tmp 18) = .map (some g) := h3 _ (.v (.map (some g))) (by kernel_rfl)
    have e2 : ρ (.tmp 20) = .int .i64 5 := h3 _ (.v (.int .i64 5)) (by kernel_rfl)
    unfold execOp
    simp only [h1, e1, e2, Sem.run_bind, look_t w g 5 hgm, Result.andThen_ok, Sem.run_pure, (show devF 5 = .tuple #[.func (.func 60) #[] #[], .bool true] from rfl)], rfl, Below.refl _ _⟩) fun v aa w' hv hb2 _ D => ?_
  subst hv
  refine QaM D (by kernel_rfl) fun S => ?_
  refine Qap 5 60 3 S fun bs aa w S => ?_
  have hdS := (S.fs (Qaz d.b d.o d.S) (by simp)).2
  have hdW := (S.fs (QaP d.c d.p d.W) (by simp)).2
  have hlt5 := fun j hj => S.lt (i := j) hj
  have hwl := S.gr.size
  refine Qbg S (X := Dk) (val := fun q => .tuple #[q.v, .int .i64 E]) (C := fun q w' => Dvc w.heap.size w' d q S1 W1) (f := 60) (args := #[d.v, .agg #[.int .i64 5, .int .i64 c, .int .i64 o, .int .i64 n, .string b]]) (HM w (S.fact (f := Qaz d.b d.o d.S) (by simp)) (S.fact (f := QaP d.c d.p d.W) (by simp))) (by kernel_rfl) fun x aa w1 hx hb S => ?_
  have S := (S.add (Qaz x.b x.o x.S) hx.sA (fun j hj hb => by have q1 := hlt5 j hj; obtain ⟨q2, q3⟩ := hb; rcases hx.b0 with q4 | q4 | ⟨q4, q5⟩; exact q3 q4; omega; exact hdS j hj ⟨q2.trans q4, q5⟩)).add (QaP x.c x.p x.W) hx.wA (fun j hj hb => by have q1 := hlt5 j hj; obtain ⟨q2, q3⟩ := hb; rcases hx.c0 with q4 | q4 | ⟨q4, q5⟩; exact q3 q4; omega; exact hdW j hj ⟨q2.trans q4, q5⟩)
  refine Qap 6 60 2 S fun bs aa w S => ?_
  by_cases hE : E = 0
  case neg =>
    obtain ⟨e1, e2⟩ := HE hE
    refine Qab 45 S (by simp [hE] : (!decide (E = 0)) = true) fun S => ?_
    refine Qah S fun bs aa w S => ?_
    refine QaF [0, 1] (by kernel_rfl) (by kernel_rfl) S (by kernel_rfl) (fun aa w D => ?_)
    refine QeE 4 D (by kernel_rfl) (by kernel_rfl) (by kernel_rfl) (Nat.le_refl _) (by kernel_rfl) (by kernel_rfl) fun bs4 aa w D hl => ?_
    refine QeE 5 D (by kernel_rfl) (by kernel_rfl) (by kernel_rfl) hl (by kernel_rfl) (by kernel_rfl) fun bs5 aa w D hl => ?_
    refine QeE 6 D (by kernel_rfl) (by kernel_rfl) (by kernel_rfl) hl (by kernel_rfl) (by kernel_rfl) fun bs6 aa w D hl => ?_
    refine QaM D (by kernel_rfl) fun S => ?_
    refine Qah S fun bs aa w S => ?_
    exact Qan S (by kernel_rfl) (by kernel_rfl) fun hg' => ⟨d, by rw [decide_eq_false hE], by rw [e1, e2]; exact QcY _ hg (S.fact (f := Qaz d.b d.o d.S) (by simp)) (S.fact (f := QaP d.c d.p d.W) (by simp)), (S.fact (f := Qax mb mo zs) (by simp)), Qaq hg'⟩
  refine Qab 45 S (by simp [hE] : (!decide (E = 0)) = false) fun S => ?_
  refine Qah S fun bs aa w S => ?_
  refine QaF [0, 6] (by kernel_rfl) (by kernel_rfl) S (by kernel_rfl) (fun aa w D => ?_)
  refine QeE 3 D (by kernel_rfl) (by kernel_rfl) (by kernel_rfl) (Nat.le_refl _) (by kernel_rfl) (by kernel_rfl) fun bs3 aa w D hl => ?_
  refine QeE 4 D (by kernel_rfl) (by kernel_rfl) (by kernel_rfl) hl (by kernel_rfl) (by kernel_rfl) fun bs4 aa w D hl => ?_
  refine QeE 5 D (by kernel_rfl) (by kernel_rfl) (by kernel_rfl) hl (by kernel_rfl) (by kernel_rfl) fun bs5 aa w D hl => ?_
  refine QaM D (by kernel_rfl) fun S => ?_
  refine Qah S fun bs aa w S => ?_
  exact Qan S (by kernel_rfl) (by kernel_rfl) fun hg' => ⟨x, by rw [hE], hx.re hwl (S.fact (f := Qaz x.b x.o x.S) (by simp)) (S.fact (f := QaP x.c x.p x.W) (by simp)), (S.fact (f := Qax mb mo zs) (by simp)), Qaq hg'⟩
theorem pdo_c6 : Calls Try.prog 21 #[.agg #[.slice ma zs.length mc], d.v, .agg #[.int .i64 6, .int .i64 c, .int .i64 o, .int .i64 n, .string b]] w0 fun e w' => ∃ x : Dk, e = .returned (.tuple #[.agg #[.slice ma zs.length mc], x.v, .agg #[.int .i64 0, .bool (decide (dE d 6 c o n b = 0))], .int .i64 (dE d 6 c o n b)]) ∧ Dvc w0.heap.size w' d x (dS d 6 c o n b) (dW d 6 c o n b) ∧ Qbm w' mb mo zs ∧ Below w0.heap.size w0 w' := by
  have HM := fun w (hA : StrAt w d.b d.o d.S) (hB : WasAt w d.c d.p d.W) => pd2_c w d hd hg htl hA hB c o n b
  have HE := @dE_err d 6 c o n b
  generalize dE d 6 c o n b = E at *
  generalize dS d 6 c o n b = S1 at *
  generalize dW d 6 c o n b = W1 at *
  refine Qas [] [Qaz d.b d.o d.S, QaP d.c d.p d.W, Qax mb mo zs] (by intro f hf; simp only [List.mem_cons, List.not_mem_nil, or_false] at hf; rcases hf with rfl | rfl | rfl; exact hA; exact hB; exact hI) Try.func21 rfl rfl fun aa S => ?_
  refine Qaj ⟨0, [1]⟩ 60 S fun bs aa w S => ?_
  refine QaF [2] (by kernel_rfl) (by kernel_rfl) S (by kernel_rfl) (fun aa w D => ?_)
  refine Qih 0 D (by kernel_rfl) (by kernel_rfl) (by kernel_rfl) (X := Nat) (val := fun g => .map (some g)) (C := fun g w' => QjB w' g) (f := 41) (args := #[]) ((Qhm w).mono fun e w' ⟨g, h1, h2, _, h4⟩ => ⟨g, h1, h2, h4⟩) (by kernel_rfl) fun g aa w hgm hb D => ?_
  refine Qac [3] (by kernel_rfl) (by kernel_rfl) rfl (na1 ?_)
  refine QdB 3 (op := .lookup TM (.tmp 18) (.tmp 20) true) (ty := 90) (C := fun v w' => v = .tuple #[.func (.func 62) #[] #[], .bool true]) D (by kernel_rfl) (by kernel_rfl) (fun oo ρ h1 h2 h3 => ⟨.tuple #[.func (.func 62) #[] #[], .bool true], w, by
    have e1 : ρ (.tmp 18) = .map (some g) := h3 _ (.v (.map (some g))) (by kernel_rfl)
    have e2 : ρ (.tmp 20) = .int .i64 6 := h3 _ (.v (.int .i64 6)) (by kernel_rfl)
    unfold execOp
    simp only [h1, e1, e2, Sem.run_bind, look_t w g 6 hgm, Result.andThen_ok, Sem.run_pure, (show devF 6 = .tuple #[.func (.func 62) #[] #[], .bool true] from rfl)], rfl, Below.refl _ _⟩) fun v aa w' hv hb2 _ D => ?_
  subst hv
  refine QaM D (by kernel_rfl) fun S => ?_
  refine Qap 5 60 3 S fun bs aa w S => ?_
  have hdS := (S.fs (Qaz d.b d.o d.S) (by simp)).2
  have hdW := (S.fs (QaP d.c d.p d.W) (by simp)).2
  have hlt5 := fun j hj => S.lt (i := j) hj
  have hwl := S.gr.size
  refine Qbg S (X := Dk) (val := fun q => .tuple #[q.v, .int .i64 E]) (C := fun q w' => Dvc w.heap.size w' d q S1 W1) (f := 62) (args := #[d.v, .agg #[.int .i64 6, .int .i64 c, .int .i64 o, .int .i64 n, .string b]]) (HM w (S.fact (f := Qaz d.b d.o d.S) (by simp)) (S.fact (f := QaP d.c d.p d.W) (by simp))) (by kernel_rfl) fun x aa w1 hx hb S => ?_
  have S := (S.add (Qaz x.b x.o x.S) hx.sA (fun j hj hb => by have q1 := hlt5 j hj; obtain ⟨q2, q3⟩ := hb; rcases hx.b0 with q4 | q4 | ⟨q4, q5⟩; exact q3 q4; omega; exact hdS j hj ⟨q2.trans q4, q5⟩)).add (QaP x.c x.p x.W) hx.wA (fun j hj hb => by have q1 := hlt5 j hj; obtain ⟨q2, q3⟩ := hb; rcases hx.c0 with q4 | q4 | ⟨q4, q5⟩; exact q3 q4; omega; exact hdW j hj ⟨q2.trans q4, q5⟩)
  refine Qap 6 60 2 S fun bs aa w S => ?_
  by_cases hE : E = 0
  case neg =>
    obtain ⟨e1, e2⟩ := HE hE
    refine Qab 45 S (by simp [hE] : (!decide (E = 0)) = true) fun S => ?_
    refine Qah S fun bs aa w S => ?_
    refine QaF [0, 1] (by kernel_rfl) (by kernel_rfl) S (by kernel_rfl) (fun aa w D => ?_)
    refine QeE 4 D (by kernel_rfl) (by kernel_rfl) (by kernel_rfl) (Nat.le_refl _) (by kernel_rfl) (by kernel_rfl) fun bs4 aa w D hl => ?_
    refine QeE 5 D (by kernel_rfl) (by kernel_rfl) (by kernel_rfl) hl (by kernel_rfl) (by kernel_rfl) fun bs5 aa w D hl => ?_
    refine QeE 6 D (by kernel_rfl) (by kernel_rfl) (by kernel_rfl) hl (by kernel_rfl) (by kernel_rfl) fun bs6 aa w D hl => ?_
    refine QaM D (by kernel_rfl) fun S => ?_
    refine Qah S fun bs aa w S => ?_
    exact Qan S (by kernel_rfl) (by kernel_rfl) fun hg' => ⟨d, by rw [decide_eq_false hE], by rw [e1, e2]; exact QcY _ hg (S.fact (f := Qaz d.b d.o d.S) (by simp)) (S.fact (f := QaP d.c d.p d.W) (by simp)), (S.fact (f := Qax mb mo zs) (by simp)), Qaq hg'⟩
  refine Qab 45 S (by simp [hE] : (!decide (E = 0)) = false) fun S => ?_
  refine Qah S fun bs aa w S => ?_
  refine QaF [0, 6] (by kernel_rfl) (by kernel_rfl) S (by kernel_rfl) (fun aa w D => ?_)
  refine QeE 3 D (by kernel_rfl) (by kernel_rfl) (by kernel_rfl) (Nat.le_refl _) (by kernel_rfl) (by kernel_rfl) fun bs3 aa w D hl => ?_
  refine QeE 4 D (by kernel_rfl) (by kernel_rfl) (by kernel_rfl) hl (by kernel_rfl) (by kernel_rfl) fun bs4 aa w D hl => ?_
  refine QeE 5 D (by kernel_rfl) (by kernel_rfl) (by kernel_rfl) hl (by kernel_rfl) (by kernel_rfl) fun bs5 aa w D hl => ?_
  refine QaM D (by kernel_rfl) fun S => ?_
  refine Qah S fun bs aa w S => ?_
  exact Qan S (by kernel_rfl) (by kernel_rfl) fun hg' => ⟨x, by rw [hE], hx.re hwl (S.fact (f := Qaz x.b x.o x.S) (by simp)) (S.fact (f := QaP x.c x.p x.W) (by simp)), (S.fact (f := Qax mb mo zs) (by simp)), Qaq hg'⟩
end
end
end Go.Proofs.Ytfhmdlihnidjoaa
