/-
  Merged: DkO, Dk7, Dk8, Dk9, Dk10, DkP, DkQ, Dk11, Dk12, Dk15, Dk17, DkT, Dk18, Dk19, Dk20, Dk21, Dk22, Dk23, Dk24, Dk13, Dk14, Dk16, Dk25, BkE
-/
import Derived.Test.YtfhmdlihnidjoaaRows
import Derived.Test.YtfhmdlihnidjoaaPd2
import Derived.Test.YtfhmdlihnidjoaaPd10
import Derived.Deep.Fields
import Derived.Deep.Slices
import Derived.WalkKit
import Derived.Test.YtfhmdlihnidjoaaPd3
import Derived.Test.YtfhmdlihnidjoaaPd9
import Derived.Test.YtfhmdlihnidjoaaPd7
namespace Go.Proofs.Ytfhmdlihnidjoaa
set_option linter.unusedSectionVars false
set_option maxRecDepth 100000
set_option linter.unusedVariables false
set_option linter.unusedSimpArgs false
open Go.ChangeShapes Go.WideShapes Go.ChangeAt Go.RowKit Go.Deep
section
variable {H : Type} {enc : TypeId × Value → H} {W : World}
end
end Go.Proofs.Ytfhmdlihnidjoaa
namespace Go.Proofs.Ytfhmdlihnidjoaa
set_option linter.unusedVariables false
set_option linter.unusedSectionVars false
set_option linter.unusedSimpArgs false
set_option maxRecDepth 100000
open Go Go.RowKit SZ
attribute [local irreducible] post GD Nxt Qaq
def lastD (D : List (Int × ByteArray)) (at_ : Nat) (z : ByteArray) : ByteArray := D.foldl (fun w x => if x.1 = (at_ : Int) then x.2 else w) z
structure WInv (n : Nat) (x : List ByteArray × List (Int × ByteArray) × List (Int × ByteArray)) : Prop where
  len : x.1.length = n
  sz : ∀ s ∈ x.1, s.size = 32
  w : ∀ y ∈ x.2.1, (0 ≤ y.1 ∧ y.1 < (n : Int)) ∧ y.2.size = 32
  d : ∀ y ∈ x.2.2, (0 ≤ y.1 ∧ y.1 < (n : Int)) ∧ y.2.size = 32
  last : ∀ j, j < n → x.1.getD j ByteArray.empty = lastD x.2.2 j z32
theorem Qbx {α : Type} (l : List α) (j : Nat) (z : α) (h : j < l.length) : l.getD j z ∈ l := by
  have e : l.getD j z = l[j] := by simp [List.getD, List.getElem?_eq_getElem h]
  rw [e]
  exact List.getElem_mem h
def unA (W : List (Int × ByteArray)) : Nat → List ByteArray × List ByteArray → List ByteArray × List ByteArray
  | 0, x => x
  | j + 1, x => unA W j (x.1.set (W.getD j (0, ByteArray.empty)).1.toNat (W.getD j (0, ByteArray.empty)).2, x.2.set j (x.1.getD (W.getD j (0, ByteArray.empty)).1.toNat ByteArray.empty))
def tear (a b : ByteArray) (m : Nat) : ByteArray := a.extract 0 m ++ b.extract m b.size
def cutOf (cs : List Int) (j : Nat) : Nat := if j < cs.length then (cs.getD j 0 % 33).toNat else 32
def QbR (w : World) (b o : Nat) (l : List Int) : Prop := ∀ j, j < l.length → w.cell? ⟨b, o + j, none⟩ = some (.int .i64 (l.getD j 0))
def QbK (b o : Nat) (l : List Int) : RF := ⟨fun b' => b' = b ∧ l.length ≠ 0, fun w => QbR w b o l, fun w h b' hb => by
  obtain ⟨rfl, hl⟩ := hb
  exact World.block_lt_of_cell? w _ (h 0 (by omega)), fun w w' h hb j hj => (World.cell?_of_block (a := ⟨b, o + j, none⟩) (hb b ⟨rfl, by omega⟩)).trans (h j hj)⟩
def goM : Nat → Nat → List Nat → List It → List It
  | n + 1, r, ch, .code (.seq x y) :: k => goM n r ch (.code x :: .code y :: k)
  | n + 1, r, ch, .code (.block id c) :: k => goM n r ch (.code c :: .blk id :: k)
  | n + 1, r + 1, ch, .code (.region _ _ _) :: k => goM n r ch k
  | n + 1, r, ch, .code .skip :: k => goM n r ch k
  | n + 1, r, ch, .blk _ :: k => goM n r ch k
  | n + 1, r, c :: ch, .code (.cond _ x y) :: k => goM n r ch (.code (if c = 1 then x else y) :: k)
  | n + 1, r, _ :: ch, .code (.loop _) :: k => goM n r ch k
  | _, _, _, k => k
end Go.Proofs.Ytfhmdlihnidjoaa
namespace Go.Proofs.Ytfhmdlihnidjoaa
set_option linter.unusedSectionVars false
set_option maxRecDepth 100000
set_option linter.unusedVariables false
set_option linter.unusedSimpArgs false
open Go.ChangeShapes Go.WideShapes Go.ChangeAt Go.RowKit Go.Deep
def HasIn (w : World) (v : Value) (l : List Int) : Prop := ∃ a cap, v = .slice a l.length cap ∧ (l.length = 0 ∨ ∃ b o, a = some ⟨b, o, none⟩ ∧ QbR w b o l)
section
variable {H : Type} {enc : TypeId × Value → H} {W : World}
theorem Qlt : Try.prog.cellsOf 3 = 1 := by kernel_rfl
end
section
variable {H : Type} {enc : TypeId × Value → H} {W : World}
theorem in_trod {c : Value} {x : DataW H × List MemPlace} {n' : Nat} (hf : DataW.trod enc Try.prog W 0 (fun _ => true) true n' 26 [c] = some x) : ∃ l, HasIn W c l := by
  rcases open_ints Try.underlying26 Try.underlying3 Qlt hf with ⟨hcs, _⟩ | ⟨a, len0, cap0, zs, hcs, _, hl, hm, hz, _, hcell, hwf⟩
  · simp at hcs
    subst hcs
    exact ⟨[], none, 0, rfl, Or.inl rfl⟩
  · simp at hcs
    subst hcs
    simp only [if_true] at hz
    have hlen : (zs.take len0).length = len0 := by rw [List.length_take]; omega
    refine ⟨zs.take len0, some a, cap0, by rw [hlen], ?_⟩
    by_cases h0 : len0 = 0
    · exact Or.inl (by rw [hlen]; exact h0)
    · obtain ⟨b, off, spot⟩ := a
      have hspot : spot = none := by simpa [Addr.add] using World.cell?_spot (hcell 0 (by omega))
      subst hspot
      refine Or.inr ⟨b, off, rfl, fun j hj => ?_⟩
      rw [hlen] at hj
      have h1 := hcell j (by omega)
      rw [add_plain] at h1
      rw [h1]
      simp [hj]
end
end Go.Proofs.Ytfhmdlihnidjoaa
namespace Go.Proofs.Ytfhmdlihnidjoaa
set_option linter.unusedVariables false
set_option linter.unusedSectionVars false
set_option linter.unusedSimpArgs false
set_option maxRecDepth 100000
set_option maxHeartbeats 8000000
open Go Go.RowKit SZ
attribute [local irreducible] post GD Nxt Qaq
def crJ (W : List (Int × ByteArray)) (cs : List Int) (Dt : List ByteArray) (j : Nat) (S : List ByteArray) : List ByteArray := S.set (W.getD j (0, ByteArray.empty)).1.toNat (tear (Dt.getD j ByteArray.empty) (S.getD (W.getD j (0, ByteArray.empty)).1.toNat ByteArray.empty) (cutOf cs j))
def crA (W : List (Int × ByteArray)) (cs : List Int) (Dt : List ByteArray) : Nat → List ByteArray → List ByteArray
  | 0, S => S
  | j + 1, S => crJ W cs Dt j (crA W cs Dt j S)
def crU (d : Dk) : List ByteArray × List ByteArray := unA d.W d.tl (d.S, List.replicate d.tl ByteArray.empty)
def crS (d : Dk) (cs : List Int) : List ByteArray := crA d.W cs (crU d).2 d.tl (crU d).1
def byt (s : ByteArray) (k : Nat) : Nat := (s.data.toList.getD k 0).toNat
theorem byt_ix (s : ByteArray) (k : Nat) (h : k < s.size) : (s[k]'h).toNat = byt s k := by
  have h2 : k < s.data.toList.length := by simpa using h
  unfold byt
  rw [List.getD, List.getElem?_eq_getElem h2]
  rfl
structure UnR (n : Nat) (S0 : List ByteArray) (D0 : List (Int × ByteArray)) (l : List Nat) (x : List ByteArray × List (Int × ByteArray) × List (Int × ByteArray)) : Prop where
  len : x.1.length = n
  wl : x.2.1.length = l.length
  w1 : ∀ j, j < l.length → (x.2.1.getD j (0, ByteArray.empty)).1 = ((l.getD j 0 % n : Nat) : Int)
  d : x.2.2 = D0 ++ l.map fun c => (((c % n : Nat) : Int), Qju (c : Int))
  un : ∀ Dt : List ByteArray, l.length ≤ Dt.length → (unA x.2.1 l.length (x.1, Dt)).1 = S0 ∧ (unA x.2.1 l.length (x.1, Dt)).2.length = Dt.length ∧ ∀ j, (unA x.2.1 l.length (x.1, Dt)).2.getD j ByteArray.empty = if j < l.length then Qju ((l.getD j 0 : Nat) : Int) else Dt.getD j ByteArray.empty
theorem sl_pre (a : Option Addr) (n c m : Nat) (h : m ≤ c) (W : World) : (Instr.sliceAt 48 (.slice a n c) none (some (.int .i64 (m : Int))) none).run Try.prog W = .ok (.slice a m c) W := by
  have hu : Try.prog.underlying 48 = some (.slice (Try.prog.elem 48)) := by rw [Try.underlying48]; kernel_rfl
  rw [run_sliceAt_slice W _ _ _ _ _ hu, run_slice_any W _ _ _ _ hu]
  have hs : (Instr.sliceBounds true n c none (some (.int .i64 (m : Int))) none).run Try.prog W = .ok (0, m, c) W := by
    simp [Instr.sliceBounds, run_sliceBound, h]
  rw [hs]
  have hI : (Try.prog.info? (Try.prog.elem 48)).isSome = true := by kernel_rfl
  obtain ⟨ii, hi⟩ := Option.isSome_iff_exists.1 hI
  have ha : (if c = 0 then a else a.map (·.add (0 * ii.size))) = a := by
    rw [Nat.zero_mul]
    have e : (fun x : Addr => x.add 0) = id := by funext x; simp [Addr.add]
    rw [e, Option.map_id]
    simp
  simp [sizeOf, typeInfo, sliced, hi]
  simpa using ha
theorem ex_ix {s : SS} {bs : List Nat} {x y : Operand} {t ty : TypeId} {p : ByteArray} {k : Nat} (ht : Try.prog.underlying t = some .string) (hx : s.val x = some (.v (.string p))) (hy : s.val y = some (.v (.int .i64 (k : Int)))) (hk : k < p.size) :
    ∀ (o : Oper) (ρ : Operand → Value) (W : World), o.op = .index t x y → o.type = ty → (∀ x y, s.val x = some y → ρ x = den bs y) → (execOp ρ o).run Try.prog W = .ok (.value (.int .u8 ((byt p k : Nat) : Int))) W := by
  intro o ρ W h1 h2 h3
  have e1 : ρ x = .string p := h3 x _ hx
  have e2 : ρ y = .int .i64 (k : Int) := h3 y _ hy
  have hr : ∀ W, (Instr.index t (.string p) (.int .i64 (k : Int))).run Try.prog W = .ok (.int .u8 ((byt p k : Nat) : Int)) W := fun W => by
    rw [run_index_string W t p .i64 _ ht, dif_pos ⟨by omega, by omega⟩]
    have e := byt_ix p k hk
    simp only [Int.toNat_natCast]
    rw [e]
  unfold execOp
  simp only [h1, e1, e2, Sem.run_bind, Sem.run_pure, Result.andThen_ok, hr]
def wput (n : Nat) (x : List ByteArray × List (Int × ByteArray) × List (Int × ByteArray)) (c : Nat) : List ByteArray × List (Int × ByteArray) × List (Int × ByteArray) := (x.1.set (c % n) (Qju (c : Int)), x.2.1 ++ [(((c % n : Nat) : Int), x.1.getD (c % n) ByteArray.empty)], x.2.2 ++ [(((c % n : Nat) : Int), Qju (c : Int))])
def mput (n : Nat) (S0 : List ByteArray) (l : List Nat) : List ByteArray × List (Int × ByteArray) × List (Int × ByteArray) := l.foldl (wput n) (S0, [], [])
structure Keeps (n : Nat) (S0 : List ByteArray) (l : List Nat) (d : Dk) : Prop where
  none : ∀ cs : List Int, (∀ j, j < l.length → cutOf cs j = 0) → crS d cs = S0
  all : crS d [] = d.S
  un : ∀ cs a, a < n → (∀ j, j < l.length → l.getD j 0 % n ≠ a) → (crS d cs).getD a ByteArray.empty = S0.getD a ByteArray.empty
theorem ex_neS {s : SS} {bs : List Nat} {x y : Operand} {t t' ty : TypeId} {p q : ByteArray} {b : Bool} (hx : s.val x = some (.v (.string p))) (hy : s.val y = some (.v (.string q))) (hb : (!(p.toList == q.toList)) = b) :
    ∀ (o : Oper) (ρ : Operand → Value) (W : World), o.op = .binOp .neq t x y t' → o.type = ty → (∀ x y, s.val x = some y → ρ x = den bs y) → (execOp ρ o).run Try.prog W = .ok (.value (.bool b)) W := by
  intro o ρ W h1 h2 h3
  have e1 : ρ x = .string p := h3 x _ hx
  have e2 : ρ y = .string q := h3 y _ hy
  subst hb
  unfold execOp
  simp only [h1, e1, e2, eqGuard, binOp_string_neq, Sem.run_bind, Sem.run_pure, Result.andThen_ok]
  rfl
structure Dk.gen (d : Dk) : Prop where
  hS : d.S.length = d.sl
  hs : d.sl = 0 ∨ d.sa = some ⟨d.b, d.o, none⟩
  hW : d.W.length = d.tl
  hw : d.tl = 0 ∨ d.ta = some ⟨d.c, d.p, none⟩
  ht : (d.ta = none ∧ d.tl = 0 ∧ d.tc = 0) ∨ (d.ta.isSome = true ∧ d.tl ≤ d.tc)
  hc : d.tc ≤ 9223372036854775807
  hsn : d.sa = none → d.sc = 0
theorem Qb1 {P : Nat → Prop} {j : Nat} (hv : ∀ i, i < j → P i) (hp : P j) : ∀ i, i < j + 1 → P i := fun i hi => by
  rcases Nat.lt_or_ge i j with h | h
  · exact hv i h
  · rw [show i = j by omega]; exact hp
theorem Qeg {α : Type} (p : α → Bool) (z : α) (l : List α) : (∀ i, i < l.length → p (l.getD i z) = true) → l.all p = true := fun h => by
  rw [List.all_eq_true]
  intro x hx
  obtain ⟨i, hi, rfl⟩ := List.getElem_of_mem hx
  have := h i hi
  rwa [List.getD, List.getElem?_eq_getElem hi] at this
theorem QdQ {α : Type} (p : α → Bool) (z : α) (l : List α) (i : Nat) (hi : i < l.length) (h : p (l.getD i z) = false) : l.all p = false := by
  rw [List.all_eq_false]
  exact ⟨l.getD i z, Qbx l i z hi, by rw [h]; simp⟩
def QeN (d : Dk) : Bool := decide (d.sl ≤ 600) && decide (d.tl ≤ 60) && d.S.all (fun s => decide (s.size ≤ 60)) && d.W.all (fun x => decide (x.2.size ≤ 60))
def Qek (d : Dk) : Bool := decide (d.sl ≤ 512) && d.S.all (fun s => decide (s.size = 32)) && d.W.all (fun x => decide (0 ≤ x.1) && decide (x.1 < (d.sl : Int)) && decide (x.2.size = 32))
noncomputable def fw1 : Cfg := ⟨goZ 60 [0] [.code (QaI Try.f8)], ⟨0, [], []⟩⟩
noncomputable def fw2 : Cfg := ⟨goZ 60 [0, 9] [.code (QaI Try.f8)], ⟨0, [], []⟩⟩
noncomputable def Qk6 (d : Dk) (j : Nat) : SS := ⟨44, [(1, .p 0 0), (3, .v (.int .i64 (j : Int)))], [⟨30, d.cs⟩]⟩
noncomputable def Qk5 (d : Dk) (j : Nat) : SS := ⟨44, [(1, .p 0 0), (4, .v (.int .i64 (j : Int)))], [⟨30, d.cs⟩]⟩
section
variable (w0 : World) (d : Dk) (hg : d.gen) (h6 : d.sl ≤ 600 ∧ d.tl ≤ 60)
include w0 d hg h6
theorem fw_e2 (m : Nat) (hu : ∀ i, i < d.sl → (decide ((d.S.getD i ByteArray.empty).size ≤ 60)) = true) (hv : ∀ i, i < d.tl → (decide ((d.W.getD i (0, ByteArray.empty)).2.size ≤ 60)) = true) (x0 : Nat) (aa : Act) (w : World) (S : Sy w0 [] [x0] (Qk5 d (d.tl)) [QaC d.b d.o d.S, QcJ d.c d.p d.W] aa w) : post Try.prog (.rnd (m + 1) (Qa_ fw2) :: fw2.k.tail) (bodyPost Try.prog Try.f8 fun e w' => e = .returned (.bool (QeN d)) ∧ Below w0.heap.size w0 w') .normal aa w := by
  refine Qam (c := ⟨(.rnd (m + 1) (Qa_ fw2) :: fw2.k.tail), Qk5 d d.tl⟩) 9 50 5 S fun bs aa w S => ?_
  refine Qab 33 S (decide_eq_false (by omega) : decide ((d.tl : Int) < (d.tl : Int)) = false) fun S => ?_
  refine Qac S fun bs aa w S => ?_
  have e : QeN d = true := by simp only [QeN]; rw [Qeg _ ByteArray.empty d.S (fun i hi => hu i (by rw [← hg.hS]; exact hi)), Qeg _ (0, ByteArray.empty) d.W (fun i hi => hv i (by rw [← hg.hW]; exact hi)), decide_eq_true h6.1, decide_eq_true h6.2]; rfl
  rw [e]
  exact Qaf S (by kernel_rfl) (by kernel_rfl) fun hg => ⟨rfl, Qag hg⟩
section
variable (hu : ∀ i, i < d.sl → (decide ((d.S.getD i ByteArray.empty).size ≤ 60)) = true)
include hu
theorem fw_s20 (m j : Nat) (hj : j < d.tl) (hp : (decide ((d.W.getD j (0, ByteArray.empty)).2.size ≤ 60)) = true) (ih : (∀ i, i < j + 1 → (decide ((d.W.getD i (0, ByteArray.empty)).2.size ≤ 60)) = true) → ∀ (x0 : Nat) (aa : Act) (w : World) (S : Sy w0 [] [x0] (Qk5 d (j + 1)) [QaC d.b d.o d.S, QcJ d.c d.p d.W] aa w), post Try.prog (.rnd (m) (Qa_ fw2) :: fw2.k.tail) (bodyPost Try.prog Try.f8 fun e w' => e = .returned (.bool (QeN d)) ∧ Below w0.heap.size w0 w') .normal aa w) (hv : ∀ i, i < j → (decide ((d.W.getD i (0, ByteArray.empty)).2.size ≤ 60)) = true) (x0 : Nat) (aa : Act) (w : World) (S : Sy w0 [] [x0] (Qk5 d (j)) [QaC d.b d.o d.S, QcJ d.c d.p d.W] aa w) : post Try.prog (.rnd (m + 1) (Qa_ fw2) :: fw2.k.tail) (bodyPost Try.prog Try.f8 fun e w' => e = .returned (.bool (QeN d)) ∧ Below w0.heap.size w0 w') .normal aa w := by
  refine Qam (c := ⟨(.rnd (m + 1) (Qa_ fw2) :: fw2.k.tail), Qk5 d j⟩) 9 50 5 S fun bs aa w S => ?_
  refine Qab 33 S (decide_eq_true (by omega) : decide ((j : Int) < (d.tl : Int)) = true) fun S => ?_
  refine Qam 11 60 3 S fun bs aa w S => ?_
  refine QbI (b := d.c) (off := d.p) (len := d.tl) (n := j) (size := 2) (i := (j : Int)) S (by rw [← hg.hw.resolve_left (by omega)]; kernel_rfl) rfl hj fun aa S => ?_
  refine Qad 1 S fun bs aa w S => ?_
  refine Qbb S (QaP (ty := 9) (b := d.c) (off := d.p + j * 2 + 1) (by kernel_rfl) ((S.fact (f := QcJ d.c d.p d.W) (by simp)) j (by rw [hg.hW]; omega)).2) (by kernel_rfl) fun aa S => ?_
  refine Qad 2 S fun bs aa w S => ?_
  refine Qab 43 S (decide_eq_false (by have := of_decide_eq_true hp; omega) : decide (((d.W.getD j (0, ByteArray.empty)).2.size : Int) > 60) = false) fun S => ?_
  refine Qam 10 60 2 S fun bs aa w S => ?_
  refine QaM 35 S (by rw [IntKind.wrap_i64]; omega : IntKind.i64.wrap ((j : Int) + 1) = ((j + 1 : Nat) : Int)) fun S => ?_
  refine Qan ⟨0, [999]⟩ 50 S fun bs aa w S => ?_
  have S2 := S.to [0] (Qk5 d (j + 1)) (by kernel_rfl) (by kernel_rfl) (by kernel_rfl) (by kernel_rfl) (by kernel_rfl)
  refine Qai (k' := (.rnd (m) (Qa_ fw2) :: fw2.k.tail)) (by kernel_rfl) ?_
  exact ih (Qb1 hv hp) _ aa w S2
theorem fw_s21 (m j : Nat) (hj : j < d.tl) (hp : (decide ((d.W.getD j (0, ByteArray.empty)).2.size ≤ 60)) = false) (ih : (∀ i, i < j + 1 → (decide ((d.W.getD i (0, ByteArray.empty)).2.size ≤ 60)) = true) → ∀ (x0 : Nat) (aa : Act) (w : World) (S : Sy w0 [] [x0] (Qk5 d (j + 1)) [QaC d.b d.o d.S, QcJ d.c d.p d.W] aa w), post Try.prog (.rnd (m) (Qa_ fw2) :: fw2.k.tail) (bodyPost Try.prog Try.f8 fun e w' => e = .returned (.bool (QeN d)) ∧ Below w0.heap.size w0 w') .normal aa w) (hv : ∀ i, i < j → (decide ((d.W.getD i (0, ByteArray.empty)).2.size ≤ 60)) = true) (x0 : Nat) (aa : Act) (w : World) (S : Sy w0 [] [x0] (Qk5 d (j)) [QaC d.b d.o d.S, QcJ d.c d.p d.W] aa w) : post Try.prog (.rnd (m + 1) (Qa_ fw2) :: fw2.k.tail) (bodyPost Try.prog Try.f8 fun e w' => e = .returned (.bool (QeN d)) ∧ Below w0.heap.size w0 w') .normal aa w := by
  refine Qam (c := ⟨(.rnd (m + 1) (Qa_ fw2) :: fw2.k.tail), Qk5 d j⟩) 9 50 5 S fun bs aa w S => ?_
  refine Qab 33 S (decide_eq_true (by omega) : decide ((j : Int) < (d.tl : Int)) = true) fun S => ?_
  refine Qam 11 60 3 S fun bs aa w S => ?_
  refine QbI (b := d.c) (off := d.p) (len := d.tl) (n := j) (size := 2) (i := (j : Int)) S (by rw [← hg.hw.resolve_left (by omega)]; kernel_rfl) rfl hj fun aa S => ?_
  refine Qad 1 S fun bs aa w S => ?_
  refine Qbb S (QaP (ty := 9) (b := d.c) (off := d.p + j * 2 + 1) (by kernel_rfl) ((S.fact (f := QcJ d.c d.p d.W) (by simp)) j (by rw [hg.hW]; omega)).2) (by kernel_rfl) fun aa S => ?_
  refine Qad 2 S fun bs aa w S => ?_
  refine Qab 43 S (decide_eq_true (by have := of_decide_eq_false hp; omega) : decide (((d.W.getD j (0, ByteArray.empty)).2.size : Int) > 60) = true) fun S => ?_
  refine Qac S fun bs aa w S => ?_
  have e : QeN d = false := (by simp only [QeN]; rw [QdQ _ (0, ByteArray.empty) d.W j (by rw [hg.hW]; exact hj) hp]; simp)
  rw [e]
  exact Qaf S (by kernel_rfl) (by kernel_rfl) fun hg => ⟨rfl, Qag hg⟩
theorem fw_a2 : ∀ (r j : Nat), j + r = d.tl → (∀ i, i < j → (decide ((d.W.getD i (0, ByteArray.empty)).2.size ≤ 60)) = true) → ∀ (x0 : Nat) (aa : Act) (w : World) (S : Sy w0 [] [x0] (Qk5 d (j)) [QaC d.b d.o d.S, QcJ d.c d.p d.W] aa w), post Try.prog (.rnd (r + 1) (Qa_ fw2) :: fw2.k.tail) (bodyPost Try.prog Try.f8 fun e w' => e = .returned (.bool (QeN d)) ∧ Below w0.heap.size w0 w') .normal aa w := by
  intro r
  induction r with
  | zero => intro j hj hv x0 aa w S; obtain rfl : j = d.tl := by omega
            exact fw_e2 w0 d hg h6 0 hu hv x0 aa w S
  | succ r ih =>
    intro j hj hv x0 aa w S
    have hjl : j < d.tl := by omega
    cases hp : (decide ((d.W.getD j (0, ByteArray.empty)).2.size ≤ 60)) with
    | true => exact fw_s20 w0 d hg h6 hu (r + 1) j hjl hp (fun h => ih (j + 1) (by omega) h) hv x0 aa w S
    | false => exact fw_s21 w0 d hg h6 hu (r + 1) j hjl hp (fun h => ih (j + 1) (by omega) h) hv x0 aa w S
end
theorem fw_e1 (m : Nat) (hv : ∀ i, i < d.sl → (decide ((d.S.getD i ByteArray.empty).size ≤ 60)) = true) (x0 : Nat) (aa : Act) (w : World) (S : Sy w0 [] [x0] (Qk6 d (d.sl)) [QaC d.b d.o d.S, QcJ d.c d.p d.W] aa w) : post Try.prog (.rnd (m + 1) (Qa_ fw1) :: fw1.k.tail) (bodyPost Try.prog Try.f8 fun e w' => e = .returned (.bool (QeN d)) ∧ Below w0.heap.size w0 w') .normal aa w := by
  refine Qam (c := ⟨(.rnd (m + 1) (Qa_ fw1) :: fw1.k.tail), Qk6 d d.sl⟩) 4 50 5 S fun bs aa w S => ?_
  refine Qab 19 S (decide_eq_false (by omega) : decide ((d.sl : Int) < (d.sl : Int)) = false) fun S => ?_
  refine Qac S fun bs aa w S => ?_
  have S2 := S.to [0] (Qk5 d 0) (by kernel_rfl) (by kernel_rfl) (by kernel_rfl) (by kernel_rfl) (by kernel_rfl)
  refine QaJ (d.tl + 1) (by kernel_rfl) ?_
  refine Qai (k' := (.rnd (d.tl + 1) (Qa_ fw2) :: fw2.k.tail)) (by kernel_rfl) ?_
  exact fw_a2 w0 d hg h6 hv d.tl 0 (by omega) (fun i hi => absurd hi (Nat.not_lt_zero _)) _ aa w S2
theorem fw_s10 (m j : Nat) (hj : j < d.sl) (hp : (decide ((d.S.getD j ByteArray.empty).size ≤ 60)) = true) (ih : (∀ i, i < j + 1 → (decide ((d.S.getD i ByteArray.empty).size ≤ 60)) = true) → ∀ (x0 : Nat) (aa : Act) (w : World) (S : Sy w0 [] [x0] (Qk6 d (j + 1)) [QaC d.b d.o d.S, QcJ d.c d.p d.W] aa w), post Try.prog (.rnd (m) (Qa_ fw1) :: fw1.k.tail) (bodyPost Try.prog Try.f8 fun e w' => e = .returned (.bool (QeN d)) ∧ Below w0.heap.size w0 w') .normal aa w) (hv : ∀ i, i < j → (decide ((d.S.getD i ByteArray.empty).size ≤ 60)) = true) (x0 : Nat) (aa : Act) (w : World) (S : Sy w0 [] [x0] (Qk6 d (j)) [QaC d.b d.o d.S, QcJ d.c d.p d.W] aa w) : post Try.prog (.rnd (m + 1) (Qa_ fw1) :: fw1.k.tail) (bodyPost Try.prog Try.f8 fun e w' => e = .returned (.bool (QeN d)) ∧ Below w0.heap.size w0 w') .normal aa w := by
  refine Qam (c := ⟨(.rnd (m + 1) (Qa_ fw1) :: fw1.k.tail), Qk6 d j⟩) 4 50 5 S fun bs aa w S => ?_
  refine Qab 19 S (decide_eq_true (by omega) : decide ((j : Int) < (d.sl : Int)) = true) fun S => ?_
  refine Qam 6 60 3 S fun bs aa w S => ?_
  refine QbI (b := d.b) (off := d.o) (len := d.sl) (n := j) (size := 1) (i := (j : Int)) S (by rw [← hg.hs.resolve_left (by omega)]; kernel_rfl) rfl hj fun aa S => ?_
  refine Qbb S (QaP (ty := 9) (b := d.b) (off := d.o + j * 1) (by kernel_rfl) (by rw [Nat.mul_one]; exact S.fact (f := QaC d.b d.o d.S) (by simp) j (by rw [hg.hS]; omega))) (by kernel_rfl) fun aa S => ?_
  refine Qad 2 S fun bs aa w S => ?_
  refine Qab 28 S (decide_eq_false (by have := of_decide_eq_true hp; omega) : decide (((d.S.getD j ByteArray.empty).size : Int) > 60) = false) fun S => ?_
  refine Qam 5 60 2 S fun bs aa w S => ?_
  refine QaM 21 S (by rw [IntKind.wrap_i64]; omega : IntKind.i64.wrap ((j : Int) + 1) = ((j + 1 : Nat) : Int)) fun S => ?_
  refine Qan ⟨0, [999]⟩ 50 S fun bs aa w S => ?_
  have S2 := S.to [0] (Qk6 d (j + 1)) (by kernel_rfl) (by kernel_rfl) (by kernel_rfl) (by kernel_rfl) (by kernel_rfl)
  refine Qai (k' := (.rnd (m) (Qa_ fw1) :: fw1.k.tail)) (by kernel_rfl) ?_
  exact ih (Qb1 hv hp) _ aa w S2
theorem fw_s11 (m j : Nat) (hj : j < d.sl) (hp : (decide ((d.S.getD j ByteArray.empty).size ≤ 60)) = false) (ih : (∀ i, i < j + 1 → (decide ((d.S.getD i ByteArray.empty).size ≤ 60)) = true) → ∀ (x0 : Nat) (aa : Act) (w : World) (S : Sy w0 [] [x0] (Qk6 d (j + 1)) [QaC d.b d.o d.S, QcJ d.c d.p d.W] aa w), post Try.prog (.rnd (m) (Qa_ fw1) :: fw1.k.tail) (bodyPost Try.prog Try.f8 fun e w' => e = .returned (.bool (QeN d)) ∧ Below w0.heap.size w0 w') .normal aa w) (hv : ∀ i, i < j → (decide ((d.S.getD i ByteArray.empty).size ≤ 60)) = true) (x0 : Nat) (aa : Act) (w : World) (S : Sy w0 [] [x0] (Qk6 d (j)) [QaC d.b d.o d.S, QcJ d.c d.p d.W] aa w) : post Try.prog (.rnd (m + 1) (Qa_ fw1) :: fw1.k.tail) (bodyPost Try.prog Try.f8 fun e w' => e = .returned (.bool (QeN d)) ∧ Below w0.heap.size w0 w') .normal aa w := by
  refine Qam (c := ⟨(.rnd (m + 1) (Qa_ fw1) :: fw1.k.tail), Qk6 d j⟩) 4 50 5 S fun bs aa w S => ?_
  refine Qab 19 S (decide_eq_true (by omega) : decide ((j : Int) < (d.sl : Int)) = true) fun S => ?_
  refine Qam 6 60 3 S fun bs aa w S => ?_
  refine QbI (b := d.b) (off := d.o) (len := d.sl) (n := j) (size := 1) (i := (j : Int)) S (by rw [← hg.hs.resolve_left (by omega)]; kernel_rfl) rfl hj fun aa S => ?_
  refine Qbb S (QaP (ty := 9) (b := d.b) (off := d.o + j * 1) (by kernel_rfl) (by rw [Nat.mul_one]; exact S.fact (f := QaC d.b d.o d.S) (by simp) j (by rw [hg.hS]; omega))) (by kernel_rfl) fun aa S => ?_
  refine Qad 2 S fun bs aa w S => ?_
  refine Qab 28 S (decide_eq_true (by have := of_decide_eq_false hp; omega) : decide (((d.S.getD j ByteArray.empty).size : Int) > 60) = true) fun S => ?_
  refine Qac S fun bs aa w S => ?_
  have e : QeN d = false := (by simp only [QeN]; rw [QdQ _ ByteArray.empty d.S j (by rw [hg.hS]; exact hj) hp]; simp)
  rw [e]
  exact Qaf S (by kernel_rfl) (by kernel_rfl) fun hg => ⟨rfl, Qag hg⟩
theorem fw_a1 : ∀ (r j : Nat), j + r = d.sl → (∀ i, i < j → (decide ((d.S.getD i ByteArray.empty).size ≤ 60)) = true) → ∀ (x0 : Nat) (aa : Act) (w : World) (S : Sy w0 [] [x0] (Qk6 d (j)) [QaC d.b d.o d.S, QcJ d.c d.p d.W] aa w), post Try.prog (.rnd (r + 1) (Qa_ fw1) :: fw1.k.tail) (bodyPost Try.prog Try.f8 fun e w' => e = .returned (.bool (QeN d)) ∧ Below w0.heap.size w0 w') .normal aa w := by
  intro r
  induction r with
  | zero => intro j hj hv x0 aa w S; obtain rfl : j = d.sl := by omega
            exact fw_e1 w0 d hg h6 0 hv x0 aa w S
  | succ r ih =>
    intro j hj hv x0 aa w S
    have hjl : j < d.sl := by omega
    cases hp : (decide ((d.S.getD j ByteArray.empty).size ≤ 60)) with
    | true => exact fw_s10 w0 d hg h6 (r + 1) j hjl hp (fun h => ih (j + 1) (by omega) h) hv x0 aa w S
    | false => exact fw_s11 w0 d hg h6 (r + 1) j hjl hp (fun h => ih (j + 1) (by omega) h) hv x0 aa w S
end
theorem few_t (w0 : World) (d : Dk) (hg : d.gen) (hA : Qcx w0 d.b d.o d.S) (hB : Qc5 w0 d.c d.p d.W) : Calls Try.prog 8 #[d.v] w0 fun e w' => e = .returned (.bool (QeN d)) ∧ Below w0.heap.size w0 w' := by
  refine Qav [] [QaC d.b d.o d.S, QcJ d.c d.p d.W] (by intro f hf; simp only [List.mem_cons, List.not_mem_nil, or_false] at hf; rcases hf with rfl | rfl; exact hA; exact hB) Try.func8 rfl rfl fun aa S => ?_
  refine Qam 1 60 4 S fun bs aa w S => ?_
  by_cases h1 : d.sl ≤ 600
  case neg =>
    refine Qab 8 S (decide_eq_true (by omega) : decide ((d.sl : Int) > 600) = true) fun S => ?_
    refine Qac S fun bs aa w S => ?_
    have e : QeN d = false := by simp [QeN, h1]
    rw [e]
    exact Qaf S (by kernel_rfl) (by kernel_rfl) fun hg => ⟨rfl, Qag hg⟩
  refine Qab 8 S (decide_eq_false (by omega) : decide ((d.sl : Int) > 600) = false) fun S => ?_
  refine Qad 5 S fun bs aa w S => ?_
  by_cases h2 : d.tl ≤ 60
  case neg =>
    refine Qab 13 S (decide_eq_true (by omega) : decide ((d.tl : Int) > 60) = true) fun S => ?_
    refine Qac S fun bs aa w S => ?_
    have e : QeN d = false := by simp [QeN, h2]
    rw [e]
    exact Qaf S (by kernel_rfl) (by kernel_rfl) fun hg => ⟨rfl, Qag hg⟩
  refine Qab 13 S (decide_eq_false (by omega) : decide ((d.tl : Int) > 60) = false) fun S => ?_
  refine Qac S fun bs aa w S => ?_
  have S2 := S.to [0] (Qk6 d 0) (by kernel_rfl) (by kernel_rfl) (by kernel_rfl) (by kernel_rfl) (by kernel_rfl)
  refine QaJ (d.sl + 1) (by kernel_rfl) ?_
  refine Qai (k' := (.rnd (d.sl + 1) (Qa_ fw1) :: fw1.k.tail)) (by kernel_rfl) ?_
  exact fw_a1 w0 d hg ⟨h1, h2⟩ d.sl 0 (by omega) (fun i hi => absurd hi (Nat.not_lt_zero _)) _ aa w S2
end Go.Proofs.Ytfhmdlihnidjoaa
namespace Go.Proofs.Ytfhmdlihnidjoaa
set_option maxRecDepth 100000
set_option linter.unusedVariables false
set_option linter.unusedSectionVars false
set_option linter.unusedSimpArgs false
open Go.ChangeShapes Go.WideShapes Go.ChangeAt Go.RowKit Go.Deep
section
variable {H : Type} {enc : TypeId × Value → H} {W : World}
def SlOk (a : Option Addr) (l c : Nat) : Prop := ((a = none ∧ l = 0 ∧ c = 0) ∨ (a.isSome = true ∧ l ≤ c)) ∧ c ≤ 9223372036854775807
theorem ss_trod {c : Value} {x : DataW H × List MemPlace} {n' : Nat} (hf : DataW.trod enc Try.prog W 0 (fun _ => true) true n' 27 [c] = some x) : ∃ (a : Option Addr) (k : Nat) (S : List ByteArray) (b o : Nat), c = .slice a S.length k ∧ SlOk a S.length k ∧ (S.length = 0 ∨ a = some ⟨b, o, none⟩) ∧ Qcx W b o S := by
  rcases open_slice Try.underlying27 hf with ⟨hcs, _⟩ | ⟨a, len0, cap0, m, n, D, Pl, hcs, _, hl, hm, hmm, _, hi⟩
  · simp at hcs
    subst hcs
    exact ⟨none, 0, [], 0, 0, rfl, ⟨Or.inl ⟨rfl, rfl, rfl⟩, Nat.zero_le _⟩, Or.inl rfl, fun j hj => absurd hj (Nat.not_lt_zero _)⟩
  · simp at hcs
    subst hcs
    simp only [if_true] at hmm
    have cu : Try.prog.cellsOf 9 = 1 := by kernel_rfl
    have key : ∀ i, i < len0 → ∃ A : ByteArray, W.cell? (a.add i) = some (.string A) := by
      intro i hil
      obtain ⟨cs', hc, ht⟩ := hi i (by omega)
      rw [cu] at hc
      obtain ⟨_, hcl, hat⟩ := World.cells?_some hc
      match cs', hcl with
      | [c0], _ =>
        obtain ⟨a0, e0, _⟩ := DataW.trod_string Try.underlying9 ht
        simp at e0
        subst e0
        have q0 := hat 0 (by omega)
        rw [add_add] at q0
        exact ⟨a0, by simpa using q0⟩
    have hcap : cap0 ≤ 9223372036854775807 := by unfold maxLen at hm; omega
    by_cases h0 : len0 = 0
    · subst h0
      exact ⟨_, _, [], 0, 0, rfl, ⟨Or.inr ⟨rfl, Nat.zero_le _⟩, hcap⟩, Or.inl rfl, fun j hj => absurd hj (Nat.not_lt_zero _)⟩
    · obtain ⟨b, off, spot⟩ := a
      obtain ⟨A0, hA0⟩ := key 0 (by omega)
      have hspot : spot = none := by simpa [Addr.add] using World.cell?_spot hA0
      subst hspot
      obtain ⟨f, hf'⟩ := Classical.axiomOfChoice (fun i : { i : Nat // i < len0 } => key i.1 i.2)
      have hlen : ((List.range len0).attach.map (fun i => f ⟨i.1, List.mem_range.1 i.2⟩)).length = len0 := by simp
      refine ⟨some ⟨b, off, none⟩, cap0, (List.range len0).attach.map (fun i => f ⟨i.1, List.mem_range.1 i.2⟩), b, off, by rw [hlen], ⟨Or.inr ⟨rfl, by rw [hlen]; exact hl⟩, hcap⟩, Or.inr rfl, fun j hj => ?_⟩
      have hjl : j < len0 := by simpa using hj
      have hd := hf' ⟨j, hjl⟩
      simp only [add_plain] at hd
      have e : ((List.range len0).attach.map (fun i => f ⟨i.1, List.mem_range.1 i.2⟩)).getD j ByteArray.empty = f ⟨j, hjl⟩ := by
        simp [List.getD, hjl]
      rw [e]
      exact hd
theorem ws_trod {c : Value} {x : DataW H × List MemPlace} {n' : Nat} (hf : DataW.trod enc Try.prog W 0 (fun _ => true) true n' 28 [c] = some x) : ∃ (a : Option Addr) (k : Nat) (S : List (Int × ByteArray)) (b o : Nat), c = .slice a S.length k ∧ SlOk a S.length k ∧ (S.length = 0 ∨ a = some ⟨b, o, none⟩) ∧ Qc5 W b o S := by
  rcases open_slice Try.underlying28 hf with ⟨hcs, _⟩ | ⟨a, len0, cap0, m, n, D, Pl, hcs, _, hl, hm, hmm, _, hi⟩
  · simp at hcs
    subst hcs
    exact ⟨none, 0, [], 0, 0, rfl, ⟨Or.inl ⟨rfl, rfl, rfl⟩, Nat.zero_le _⟩, Or.inl rfl, fun j hj => absurd hj (Nat.not_lt_zero _)⟩
  · simp at hcs
    subst hcs
    simp only [if_true] at hmm
    have cw : Try.prog.cellsOf 75 = 2 := by kernel_rfl
    have ci : Try.prog.cellsOf 3 = 1 := by kernel_rfl
    have cu : Try.prog.cellsOf 9 = 1 := by kernel_rfl
    have key : ∀ i, i < len0 → ∃ A : Int × ByteArray, W.cell? (a.add (i * 2)) = some (.int .i64 A.1) ∧ W.cell? (a.add (i * 2 + 1)) = some (.string A.2) := by
      intro i hil
      obtain ⟨cs', hc, ht⟩ := hi i (by omega)
      rw [cw] at hc
      obtain ⟨_, hcl, hat⟩ := World.cells?_some hc
      match cs', hcl with
      | [c0, c1], _ =>
        obtain ⟨xs, n', _, _, _, hlen, hg⟩ := DataW.trod_struct Try.underlying75 ht
        match xs, hlen with
        | [y0, y1], _ =>
          have h0 := hg 0 _ rfl
          have h1 := hg 1 _ rfl
          simp [ci, cu] at h0 h1
          obtain ⟨a0, e0, _, _⟩ := DataW.trod_int Try.underlying3 h0
          obtain ⟨a1, e1, _⟩ := DataW.trod_string Try.underlying9 h1
          simp at e0 e1
          subst e0; subst e1
          have q0 := hat 0 (by omega)
          have q1 := hat 1 (by omega)
          rw [add_add] at q0 q1
          exact ⟨⟨a0, a1⟩, q0, q1⟩
    have hcap : cap0 ≤ 9223372036854775807 := by unfold maxLen at hm; omega
    by_cases h0 : len0 = 0
    · subst h0
      exact ⟨_, _, [], 0, 0, rfl, ⟨Or.inr ⟨rfl, Nat.zero_le _⟩, hcap⟩, Or.inl rfl, fun j hj => absurd hj (Nat.not_lt_zero _)⟩
    · obtain ⟨b, off, spot⟩ := a
      obtain ⟨A0, hA0, _⟩ := key 0 (by omega)
      have hspot : spot = none := by simpa [Addr.add] using World.cell?_spot hA0
      subst hspot
      obtain ⟨f, hf'⟩ := Classical.axiomOfChoice (fun i : { i : Nat // i < len0 } => key i.1 i.2)
      have hlen : ((List.range len0).attach.map (fun i => f ⟨i.1, List.mem_range.1 i.2⟩)).length = len0 := by simp
      refine ⟨some ⟨b, off, none⟩, cap0, (List.range len0).attach.map (fun i => f ⟨i.1, List.mem_range.1 i.2⟩), b, off, by rw [hlen], ⟨Or.inr ⟨rfl, by rw [hlen]; exact hl⟩, hcap⟩, Or.inr rfl, fun j hj => ?_⟩
      have hjl : j < len0 := by simpa using hj
      have hd := hf' ⟨j, hjl⟩
      simp only [add_plain] at hd
      have e : ((List.range len0).attach.map (fun i => f ⟨i.1, List.mem_range.1 i.2⟩)).getD j (0, ByteArray.empty) = f ⟨j, hjl⟩ := by
        simp [List.getD, hjl]
      rw [e]
      exact ⟨hd.1, by simpa [Nat.add_assoc] using hd.2⟩
def DkIn (w : World) (d : Dk) : Prop := d.gen ∧ Qcx w d.b d.o d.S ∧ Qc5 w d.c d.p d.W
theorem dk_trod {c0 c1 : Value} {x : DataW H × List MemPlace} {n' : Nat} (hf : DataW.trod enc Try.prog W 0 (fun _ => true) true n' 30 [c0, c1] = some x) : ∃ d : Dk, c0 = .slice d.sa d.sl d.sc ∧ c1 = .slice d.ta d.tl d.tc ∧ DkIn W d := by
  obtain ⟨xs, n', _, _, _, hlen, hg⟩ := DataW.trod_struct Try.underlying30 hf
  match xs, hlen with
  | [y0, y1], _ =>
    have c1' : Try.prog.cellsOf 27 = 1 := by kernel_rfl
    have c2' : Try.prog.cellsOf 28 = 1 := by kernel_rfl
    have h0 := hg 0 _ rfl
    have h1 := hg 1 _ rfl
    simp [c1', c2'] at h0 h1
    obtain ⟨a, k, S, b, o, rfl, hs1, hs2, hs3⟩ := ss_trod h0
    obtain ⟨a', k', T, b', o', rfl, ht1, ht2, ht3⟩ := ws_trod h1
    exact ⟨⟨a, S.length, k, a', T.length, k', b, o, b', o', S, T⟩, rfl, rfl, ⟨rfl, hs2, rfl, ht2, ht1.1, ht1.2, fun h => by rcases hs1.1 with q | q; exact q.2.2; subst h; cases q.1⟩, hs3, ht3⟩
end
end Go.Proofs.Ytfhmdlihnidjoaa
namespace Go.Proofs.Ytfhmdlihnidjoaa
set_option linter.unusedVariables false
set_option linter.unusedSectionVars false
set_option linter.unusedSimpArgs false
set_option maxRecDepth 100000
set_option maxHeartbeats 8000000
open Go Go.RowKit SZ
attribute [local irreducible] post GD Nxt Qaq
section
variable {s : SS} {bs : List Nat} {x y : Operand} {t t' ty : TypeId} {ki : IntKind} {p q : Int} {b : Bool} (hx : s.val x = some (.v (.int ki p))) (hy : s.val y = some (.v (.int ki q)))
include s bs x y t t' ty ki p q b hx hy
theorem QeG (hb : decide (p < q) = b) :
    ∀ (o : Oper) (ρ : Operand → Value) (W : World), o.op = .binOp .lss t x y t' → o.type = ty → (∀ x y, s.val x = some y → ρ x = den bs y) → (execOp ρ o).run Try.prog W = .ok (.value (.bool b)) W := by
  intro o ρ W h1 h2 h3
  have e1 : ρ x = .int ki p := h3 x _ hx
  have e2 : ρ y = .int ki q := h3 y _ hy
  subst hb
  unfold execOp
  simp only [h1, e1, e2, eqGuard, binOp_lss, Sem.run_bind, Sem.run_pure, Result.andThen_ok]
  rfl
theorem Qlc (hb : decide (p ≥ q) = b) :
    ∀ (o : Oper) (ρ : Operand → Value) (W : World), o.op = .binOp .geq t x y t' → o.type = ty → (∀ x y, s.val x = some y → ρ x = den bs y) → (execOp ρ o).run Try.prog W = .ok (.value (.bool b)) W := by
  intro o ρ W h1 h2 h3
  have e1 : ρ x = .int ki p := h3 x _ hx
  have e2 : ρ y = .int ki q := h3 y _ hy
  subst hb
  unfold execOp
  simp only [h1, e1, e2, eqGuard, binOp_geq, Sem.run_bind, Sem.run_pure, Result.andThen_ok]
  rfl
theorem Qlb (hb : decide (p > q) = b) :
    ∀ (o : Oper) (ρ : Operand → Value) (W : World), o.op = .binOp .gtr t x y t' → o.type = ty → (∀ x y, s.val x = some y → ρ x = den bs y) → (execOp ρ o).run Try.prog W = .ok (.value (.bool b)) W := by
  intro o ρ W h1 h2 h3
  have e1 : ρ x = .int ki p := h3 x _ hx
  have e2 : ρ y = .int ki q := h3 y _ hy
  subst hb
  unfold execOp
  simp only [h1, e1, e2, eqGuard, binOp_gtr, Sem.run_bind, Sem.run_pure, Result.andThen_ok]
  rfl
theorem ex_neI (hb : (!decide (p = q)) = b) :
    ∀ (o : Oper) (ρ : Operand → Value) (W : World), o.op = .binOp .neq t x y t' → o.type = ty → (∀ x y, s.val x = some y → ρ x = den bs y) → (execOp ρ o).run Try.prog W = .ok (.value (.bool b)) W := by
  intro o ρ W h1 h2 h3
  have e1 : ρ x = .int ki p := h3 x _ hx
  have e2 : ρ y = .int ki q := h3 y _ hy
  subst hb
  have hb2 : (p != q) = !decide (p = q) := rfl
  unfold execOp
  simp only [h1, e1, e2, eqGuard, binOp_neq, hb2, Sem.run_bind, Sem.run_pure, Result.andThen_ok]
  rfl
end
noncomputable def rr1 : Cfg := ⟨goZ 60 [0] [.code (QaI Try.f9)], ⟨0, [], []⟩⟩
noncomputable def rr2 : Cfg := ⟨goZ 60 [0, 9] [.code (QaI Try.f9)], ⟨0, [], []⟩⟩
noncomputable def Qkc (d : Dk) (j : Nat) : SS := ⟨59, [(1, .p 0 0), (3, .v (.int .i64 (j : Int)))], [⟨30, d.cs⟩]⟩
noncomputable def Qib (d : Dk) (j : Nat) : SS := ⟨59, [(1, .p 0 0), (4, .v (.int .i64 (j : Int)))], [⟨30, d.cs⟩]⟩
section
variable (w0 : World) (d : Dk) (hg : d.gen) (h5 : d.sl ≤ 512) (h1000 : d.tl ≤ 60)
include w0 d hg h5 h1000
theorem rr_e2 (m : Nat) (hu : ∀ i, i < d.sl → (decide ((d.S.getD i ByteArray.empty).size = 32)) = true) (hv : ∀ i, i < d.tl → (decide (0 ≤ (d.W.getD i (0, ByteArray.empty)).1) && decide ((d.W.getD i (0, ByteArray.empty)).1 < (d.sl : Int)) && decide ((d.W.getD i (0, ByteArray.empty)).2.size = 32)) = true) (x0 : Nat) (aa : Act) (w : World) (S : Sy w0 [] [x0] (Qib d (d.tl)) [QaC d.b d.o d.S, QcJ d.c d.p d.W] aa w) : post Try.prog (.rnd (m + 1) (Qa_ rr2) :: rr2.k.tail) (bodyPost Try.prog Try.f9 fun e w' => e = .returned (.bool (Qek d)) ∧ Below w0.heap.size w0 w') .normal aa w := by
  refine Qam (c := ⟨(.rnd (m + 1) (Qa_ rr2) :: rr2.k.tail), Qib d d.tl⟩) 9 50 5 S fun bs aa w S => ?_
  refine Qab 27 S (decide_eq_false (by omega) : decide ((d.tl : Int) < (d.tl : Int)) = false) fun S => ?_
  refine Qac S fun bs aa w S => ?_
  have e : Qek d = true := by simp only [Qek]; rw [Qeg _ ByteArray.empty d.S (fun i hi => hu i (by rw [← hg.hS]; exact hi)), Qeg (fun x => decide (0 ≤ x.1) && decide (x.1 < (d.sl : Int)) && decide (x.2.size = 32)) (0, ByteArray.empty) d.W (fun i hi => hv i (by rw [← hg.hW]; exact hi)), decide_eq_true h5]; rfl
  rw [e]
  exact Qaf S (by kernel_rfl) (by kernel_rfl) fun hg => ⟨rfl, Qag hg⟩
section
variable (hu : ∀ i, i < d.sl → (decide ((d.S.getD i ByteArray.empty).size = 32)) = true)
include hu
section
variable (m j : Nat) (hj : j < d.tl) (hr : 0 ≤ (d.W.getD j (0, ByteArray.empty)).1 ∧ (d.W.getD j (0, ByteArray.empty)).1 < (d.sl : Int))
include m j hj hr
theorem rr_s20 (hz : (d.W.getD j (0, ByteArray.empty)).2.size = 32) (ih : (∀ i, i < j + 1 → (decide (0 ≤ (d.W.getD i (0, ByteArray.empty)).1) && decide ((d.W.getD i (0, ByteArray.empty)).1 < (d.sl : Int)) && decide ((d.W.getD i (0, ByteArray.empty)).2.size = 32)) = true) → ∀ (x0 : Nat) (aa : Act) (w : World) (S : Sy w0 [] [x0] (Qib d (j + 1)) [QaC d.b d.o d.S, QcJ d.c d.p d.W] aa w), post Try.prog (.rnd (m) (Qa_ rr2) :: rr2.k.tail) (bodyPost Try.prog Try.f9 fun e w' => e = .returned (.bool (Qek d)) ∧ Below w0.heap.size w0 w') .normal aa w) (hv : ∀ i, i < j → (decide (0 ≤ (d.W.getD i (0, ByteArray.empty)).1) && decide ((d.W.getD i (0, ByteArray.empty)).1 < (d.sl : Int)) && decide ((d.W.getD i (0, ByteArray.empty)).2.size = 32)) = true) (x0 : Nat) (aa : Act) (w : World) (S : Sy w0 [] [x0] (Qib d (j)) [QaC d.b d.o d.S, QcJ d.c d.p d.W] aa w) : post Try.prog (.rnd (m + 1) (Qa_ rr2) :: rr2.k.tail) (bodyPost Try.prog Try.f9 fun e w' => e = .returned (.bool (Qek d)) ∧ Below w0.heap.size w0 w') .normal aa w := by
  refine Qam (c := ⟨(.rnd (m + 1) (Qa_ rr2) :: rr2.k.tail), Qib d j⟩) 9 50 5 S fun bs aa w S => ?_
  refine Qab 27 S (decide_eq_true (by omega) : decide ((j : Int) < (d.tl : Int)) = true) fun S => ?_
  refine Qac S fun bs aa w S => ?_
  letI : KP := ⟨[36, 47, 57]⟩
  letI : HF := ⟨[QcJ d.c d.p d.W]⟩
  refine QaE [0] (by kernel_rfl) (by kernel_rfl) S (by kernel_rfl) (fun aa w D => ?_) (fun f hf => by have e : f = QcJ d.c d.p d.W := List.mem_singleton.1 hf; subst e; simp)
  refine Qaz 3 D (by kernel_rfl) (by kernel_rfl) (by kernel_rfl) (b := d.c) (off := d.p) (len := d.tl) (n := j) (size := 2) (ix := (j : Int)) (by rw [← hg.hw.resolve_left (by omega)]; kernel_rfl) rfl hj fun aa D => ?_
  refine QaH 5 D (by kernel_rfl) (by kernel_rfl) (by kernel_rfl) (ty := 3) (ad := ⟨d.c, d.p + j * 2, none⟩) (v := .int .i64 (d.W.getD j (0, ByteArray.empty)).1) (fun W hW => QaP (by kernel_rfl) ((show Qc5 W d.c d.p d.W from hW _ (List.mem_singleton.2 rfl)) j (by rw [hg.hW]; exact hj)).1) (by kernel_rfl) fun aa D => ?_
  refine Qbj (fun d v c a w h => by cases d <;> exact h) 6 (op := .binOp .lss 3 (.tmp 35) (.const (.int .i64 0)) 3) (ty := 4) (v := .bool false) D (by kernel_rfl) (by kernel_rfl) (by kernel_rfl) (by kernel_rfl) (QeG (ki := .i64) (p := (d.W.getD j (0, ByteArray.empty)).1) (q := 0) (by kernel_rfl) (by kernel_rfl) (decide_eq_false (by omega))) fun aa D => ?_
  refine Qaz 11 D (by kernel_rfl) (by kernel_rfl) (by kernel_rfl) (b := d.c) (off := d.p) (len := d.tl) (n := j) (size := 2) (ix := (j : Int)) (by rw [← hg.hw.resolve_left (by omega)]; kernel_rfl) rfl hj fun aa D => ?_
  refine QaH 13 D (by kernel_rfl) (by kernel_rfl) (by kernel_rfl) (ty := 3) (ad := ⟨d.c, d.p + j * 2, none⟩) (v := .int .i64 (d.W.getD j (0, ByteArray.empty)).1) (fun W hW => QaP (by kernel_rfl) ((show Qc5 W d.c d.p d.W from hW _ (List.mem_singleton.2 rfl)) j (by rw [hg.hW]; exact hj)).1) (by kernel_rfl) fun aa D => ?_
  refine Qbj (fun d v c a w h => by cases d <;> exact h) 17 (op := .binOp .geq 3 (.tmp 43) (.tmp 46) 3) (ty := 4) (v := .bool false) D (by kernel_rfl) (by kernel_rfl) (by kernel_rfl) (by kernel_rfl) (Qlc (ki := .i64) (p := (d.W.getD j (0, ByteArray.empty)).1) (q := (d.sl : Int)) (by kernel_rfl) (by kernel_rfl) (decide_eq_false (by omega))) fun aa D => ?_
  refine Qaz 23 D (by kernel_rfl) (by kernel_rfl) (by kernel_rfl) (b := d.c) (off := d.p) (len := d.tl) (n := j) (size := 2) (ix := (j : Int)) (by rw [← hg.hw.resolve_left (by omega)]; kernel_rfl) rfl hj fun aa D => ?_
  refine QaH 25 D (by kernel_rfl) (by kernel_rfl) (by kernel_rfl) (ty := 9) (ad := ⟨d.c, d.p + j * 2 + 1, none⟩) (v := .string (d.W.getD j (0, ByteArray.empty)).2) (fun W hW => QaP (by kernel_rfl) ((show Qc5 W d.c d.p d.W from hW _ (List.mem_singleton.2 rfl)) j (by rw [hg.hW]; exact hj)).2) (by kernel_rfl) fun aa D => ?_
  refine Qbj (fun d v c a w h => by cases d <;> exact h) 27 (op := .binOp .neq 3 (.tmp 56) (.const (.int .i64 32)) 3) (ty := 4) (v := .bool false) D (by kernel_rfl) (by kernel_rfl) (by kernel_rfl) (by kernel_rfl) (ex_neI (ki := .i64) (p := ((d.W.getD j (0, ByteArray.empty)).2.size : Int)) (q := 32) (by kernel_rfl) (by kernel_rfl) (by rw [hz]; rfl)) fun aa D => ?_
  refine QaT D (by kernel_rfl) fun S => ?_
  have hp : (decide (0 ≤ (d.W.getD j (0, ByteArray.empty)).1) && decide ((d.W.getD j (0, ByteArray.empty)).1 < (d.sl : Int)) && decide ((d.W.getD j (0, ByteArray.empty)).2.size = 32)) = true := by rw [decide_eq_true hr.1, decide_eq_true hr.2, decide_eq_true hz]; rfl
  refine Qam 10 60 2 S fun bs aa w S => ?_
  refine QaM 29 S (by rw [IntKind.wrap_i64]; omega : IntKind.i64.wrap ((j : Int) + 1) = ((j + 1 : Nat) : Int)) fun S => ?_
  refine Qan ⟨0, [999]⟩ 50 S fun bs aa w S => ?_
  have S2 := S.to [0] (Qib d (j + 1)) (by kernel_rfl) (by kernel_rfl) (by kernel_rfl) (by kernel_rfl) (by kernel_rfl)
  refine Qai (k' := (.rnd (m) (Qa_ rr2) :: rr2.k.tail)) (by kernel_rfl) ?_
  exact ih (Qb1 hv hp) _ aa w S2
theorem rr_s21 (hz : ¬(d.W.getD j (0, ByteArray.empty)).2.size = 32) (ih : (∀ i, i < j + 1 → (decide (0 ≤ (d.W.getD i (0, ByteArray.empty)).1) && decide ((d.W.getD i (0, ByteArray.empty)).1 < (d.sl : Int)) && decide ((d.W.getD i (0, ByteArray.empty)).2.size = 32)) = true) → ∀ (x0 : Nat) (aa : Act) (w : World) (S : Sy w0 [] [x0] (Qib d (j + 1)) [QaC d.b d.o d.S, QcJ d.c d.p d.W] aa w), post Try.prog (.rnd (m) (Qa_ rr2) :: rr2.k.tail) (bodyPost Try.prog Try.f9 fun e w' => e = .returned (.bool (Qek d)) ∧ Below w0.heap.size w0 w') .normal aa w) (hv : ∀ i, i < j → (decide (0 ≤ (d.W.getD i (0, ByteArray.empty)).1) && decide ((d.W.getD i (0, ByteArray.empty)).1 < (d.sl : Int)) && decide ((d.W.getD i (0, ByteArray.empty)).2.size = 32)) = true) (x0 : Nat) (aa : Act) (w : World) (S : Sy w0 [] [x0] (Qib d (j)) [QaC d.b d.o d.S, QcJ d.c d.p d.W] aa w) : post Try.prog (.rnd (m + 1) (Qa_ rr2) :: rr2.k.tail) (bodyPost Try.prog Try.f9 fun e w' => e = .returned (.bool (Qek d)) ∧ Below w0.heap.size w0 w') .normal aa w := by
  refine Qam (c := ⟨(.rnd (m + 1) (Qa_ rr2) :: rr2.k.tail), Qib d j⟩) 9 50 5 S fun bs aa w S => ?_
  refine Qab 27 S (decide_eq_true (by omega) : decide ((j : Int) < (d.tl : Int)) = true) fun S => ?_
  refine Qac S fun bs aa w S => ?_
  letI : KP := ⟨[36, 47, 57]⟩
  letI : HF := ⟨[QcJ d.c d.p d.W]⟩
  refine QaE [0] (by kernel_rfl) (by kernel_rfl) S (by kernel_rfl) (fun aa w D => ?_) (fun f hf => by have e : f = QcJ d.c d.p d.W := List.mem_singleton.1 hf; subst e; simp)
  refine Qaz 3 D (by kernel_rfl) (by kernel_rfl) (by kernel_rfl) (b := d.c) (off := d.p) (len := d.tl) (n := j) (size := 2) (ix := (j : Int)) (by rw [← hg.hw.resolve_left (by omega)]; kernel_rfl) rfl hj fun aa D => ?_
  refine QaH 5 D (by kernel_rfl) (by kernel_rfl) (by kernel_rfl) (ty := 3) (ad := ⟨d.c, d.p + j * 2, none⟩) (v := .int .i64 (d.W.getD j (0, ByteArray.empty)).1) (fun W hW => QaP (by kernel_rfl) ((show Qc5 W d.c d.p d.W from hW _ (List.mem_singleton.2 rfl)) j (by rw [hg.hW]; exact hj)).1) (by kernel_rfl) fun aa D => ?_
  refine Qbj (fun d v c a w h => by cases d <;> exact h) 6 (op := .binOp .lss 3 (.tmp 35) (.const (.int .i64 0)) 3) (ty := 4) (v := .bool false) D (by kernel_rfl) (by kernel_rfl) (by kernel_rfl) (by kernel_rfl) (QeG (ki := .i64) (p := (d.W.getD j (0, ByteArray.empty)).1) (q := 0) (by kernel_rfl) (by kernel_rfl) (decide_eq_false (by omega))) fun aa D => ?_
  refine Qaz 11 D (by kernel_rfl) (by kernel_rfl) (by kernel_rfl) (b := d.c) (off := d.p) (len := d.tl) (n := j) (size := 2) (ix := (j : Int)) (by rw [← hg.hw.resolve_left (by omega)]; kernel_rfl) rfl hj fun aa D => ?_
  refine QaH 13 D (by kernel_rfl) (by kernel_rfl) (by kernel_rfl) (ty := 3) (ad := ⟨d.c, d.p + j * 2, none⟩) (v := .int .i64 (d.W.getD j (0, ByteArray.empty)).1) (fun W hW => QaP (by kernel_rfl) ((show Qc5 W d.c d.p d.W from hW _ (List.mem_singleton.2 rfl)) j (by rw [hg.hW]; exact hj)).1) (by kernel_rfl) fun aa D => ?_
  refine Qbj (fun d v c a w h => by cases d <;> exact h) 17 (op := .binOp .geq 3 (.tmp 43) (.tmp 46) 3) (ty := 4) (v := .bool false) D (by kernel_rfl) (by kernel_rfl) (by kernel_rfl) (by kernel_rfl) (Qlc (ki := .i64) (p := (d.W.getD j (0, ByteArray.empty)).1) (q := (d.sl : Int)) (by kernel_rfl) (by kernel_rfl) (decide_eq_false (by omega))) fun aa D => ?_
  refine Qaz 23 D (by kernel_rfl) (by kernel_rfl) (by kernel_rfl) (b := d.c) (off := d.p) (len := d.tl) (n := j) (size := 2) (ix := (j : Int)) (by rw [← hg.hw.resolve_left (by omega)]; kernel_rfl) rfl hj fun aa D => ?_
  refine QaH 25 D (by kernel_rfl) (by kernel_rfl) (by kernel_rfl) (ty := 9) (ad := ⟨d.c, d.p + j * 2 + 1, none⟩) (v := .string (d.W.getD j (0, ByteArray.empty)).2) (fun W hW => QaP (by kernel_rfl) ((show Qc5 W d.c d.p d.W from hW _ (List.mem_singleton.2 rfl)) j (by rw [hg.hW]; exact hj)).2) (by kernel_rfl) fun aa D => ?_
  refine Qbj (fun d v c a w h => by cases d <;> exact h) 27 (op := .binOp .neq 3 (.tmp 56) (.const (.int .i64 32)) 3) (ty := 4) (v := .bool true) D (by kernel_rfl) (by kernel_rfl) (by kernel_rfl) (by kernel_rfl) (ex_neI (ki := .i64) (p := ((d.W.getD j (0, ByteArray.empty)).2.size : Int)) (q := 32) (by kernel_rfl) (by kernel_rfl) (by rw [decide_eq_false (by omega)]; rfl)) fun aa D => ?_
  refine QaT D (by kernel_rfl) fun S => ?_
  refine Qac S fun bs aa w S => ?_
  have hpw : (decide (0 ≤ (d.W.getD j (0, ByteArray.empty)).1) && decide ((d.W.getD j (0, ByteArray.empty)).1 < (d.sl : Int)) && decide ((d.W.getD j (0, ByteArray.empty)).2.size = 32)) = false := by rw [decide_eq_false hz, Bool.and_false]
  have e : Qek d = false := (by simp only [Qek]; rw [QdQ (fun x => decide (0 ≤ x.1) && decide (x.1 < (d.sl : Int)) && decide (x.2.size = 32)) (0, ByteArray.empty) d.W j (by rw [hg.hW]; exact hj) hpw]; simp)
  rw [e]
  exact Qaf S (by kernel_rfl) (by kernel_rfl) fun hg => ⟨rfl, Qag hg⟩
end
theorem rr_s22 (m j : Nat) (hj : j < d.tl) (hr : ¬(0 ≤ (d.W.getD j (0, ByteArray.empty)).1 ∧ (d.W.getD j (0, ByteArray.empty)).1 < (d.sl : Int))) (ih : (∀ i, i < j + 1 → (decide (0 ≤ (d.W.getD i (0, ByteArray.empty)).1) && decide ((d.W.getD i (0, ByteArray.empty)).1 < (d.sl : Int)) && decide ((d.W.getD i (0, ByteArray.empty)).2.size = 32)) = true) → ∀ (x0 : Nat) (aa : Act) (w : World) (S : Sy w0 [] [x0] (Qib d (j + 1)) [QaC d.b d.o d.S, QcJ d.c d.p d.W] aa w), post Try.prog (.rnd (m) (Qa_ rr2) :: rr2.k.tail) (bodyPost Try.prog Try.f9 fun e w' => e = .returned (.bool (Qek d)) ∧ Below w0.heap.size w0 w') .normal aa w) (hv : ∀ i, i < j → (decide (0 ≤ (d.W.getD i (0, ByteArray.empty)).1) && decide ((d.W.getD i (0, ByteArray.empty)).1 < (d.sl : Int)) && decide ((d.W.getD i (0, ByteArray.empty)).2.size = 32)) = true) (x0 : Nat) (aa : Act) (w : World) (S : Sy w0 [] [x0] (Qib d (j)) [QaC d.b d.o d.S, QcJ d.c d.p d.W] aa w) : post Try.prog (.rnd (m + 1) (Qa_ rr2) :: rr2.k.tail) (bodyPost Try.prog Try.f9 fun e w' => e = .returned (.bool (Qek d)) ∧ Below w0.heap.size w0 w') .normal aa w := by
  refine Qam (c := ⟨(.rnd (m + 1) (Qa_ rr2) :: rr2.k.tail), Qib d j⟩) 9 50 5 S fun bs aa w S => ?_
  refine Qab 27 S (decide_eq_true (by omega) : decide ((j : Int) < (d.tl : Int)) = true) fun S => ?_
  have hpw : (decide (0 ≤ (d.W.getD j (0, ByteArray.empty)).1) && decide ((d.W.getD j (0, ByteArray.empty)).1 < (d.sl : Int)) && decide ((d.W.getD j (0, ByteArray.empty)).2.size = 32)) = false := by rw [Bool.eq_false_iff]; intro q; simp only [Bool.and_eq_true, decide_eq_true_eq] at q; exact hr q.1
  by_cases h0 : 0 ≤ (d.W.getD j (0, ByteArray.empty)).1
  case neg =>
    refine Qac S fun bs aa w S => ?_
    letI : KP := ⟨[36]⟩
    letI : HF := ⟨[QcJ d.c d.p d.W]⟩
    refine QaE [0] (by kernel_rfl) (by kernel_rfl) S (by kernel_rfl) (fun aa w D => ?_) (fun f hf => by have e : f = QcJ d.c d.p d.W := List.mem_singleton.1 hf; subst e; simp)
    refine Qaz 3 D (by kernel_rfl) (by kernel_rfl) (by kernel_rfl) (b := d.c) (off := d.p) (len := d.tl) (n := j) (size := 2) (ix := (j : Int)) (by rw [← hg.hw.resolve_left (by omega)]; kernel_rfl) rfl hj fun aa D => ?_
    refine QaH 5 D (by kernel_rfl) (by kernel_rfl) (by kernel_rfl) (ty := 3) (ad := ⟨d.c, d.p + j * 2, none⟩) (v := .int .i64 (d.W.getD j (0, ByteArray.empty)).1) (fun W hW => QaP (by kernel_rfl) ((show Qc5 W d.c d.p d.W from hW _ (List.mem_singleton.2 rfl)) j (by rw [hg.hW]; exact hj)).1) (by kernel_rfl) fun aa D => ?_
    refine Qbj (fun d v c a w h => by cases d <;> exact h) 6 (op := .binOp .lss 3 (.tmp 35) (.const (.int .i64 0)) 3) (ty := 4) (v := .bool true) D (by kernel_rfl) (by kernel_rfl) (by kernel_rfl) (by kernel_rfl) (QeG (ki := .i64) (p := (d.W.getD j (0, ByteArray.empty)).1) (q := 0) (by kernel_rfl) (by kernel_rfl) (decide_eq_true (by omega))) fun aa D => ?_
    refine QaT D (by kernel_rfl) fun S => ?_
    refine Qac S fun bs aa w S => ?_
    have e : Qek d = false := (by simp only [Qek]; rw [QdQ (fun x => decide (0 ≤ x.1) && decide (x.1 < (d.sl : Int)) && decide (x.2.size = 32)) (0, ByteArray.empty) d.W j (by rw [hg.hW]; exact hj) hpw]; simp)
    rw [e]
    exact Qaf S (by kernel_rfl) (by kernel_rfl) fun hg => ⟨rfl, Qag hg⟩
  refine Qac S fun bs aa w S => ?_
  letI : KP := ⟨[36, 47]⟩
  letI : HF := ⟨[QcJ d.c d.p d.W]⟩
  refine QaE [0] (by kernel_rfl) (by kernel_rfl) S (by kernel_rfl) (fun aa w D => ?_) (fun f hf => by have e : f = QcJ d.c d.p d.W := List.mem_singleton.1 hf; subst e; simp)
  refine Qaz 3 D (by kernel_rfl) (by kernel_rfl) (by kernel_rfl) (b := d.c) (off := d.p) (len := d.tl) (n := j) (size := 2) (ix := (j : Int)) (by rw [← hg.hw.resolve_left (by omega)]; kernel_rfl) rfl hj fun aa D => ?_
  refine QaH 5 D (by kernel_rfl) (by kernel_rfl) (by kernel_rfl) (ty := 3) (ad := ⟨d.c, d.p + j * 2, none⟩) (v := .int .i64 (d.W.getD j (0, ByteArray.empty)).1) (fun W hW => QaP (by kernel_rfl) ((show Qc5 W d.c d.p d.W from hW _ (List.mem_singleton.2 rfl)) j (by rw [hg.hW]; exact hj)).1) (by kernel_rfl) fun aa D => ?_
  refine Qbj (fun d v c a w h => by cases d <;> exact h) 6 (op := .binOp .lss 3 (.tmp 35) (.const (.int .i64 0)) 3) (ty := 4) (v := .bool false) D (by kernel_rfl) (by kernel_rfl) (by kernel_rfl) (by kernel_rfl) (QeG (ki := .i64) (p := (d.W.getD j (0, ByteArray.empty)).1) (q := 0) (by kernel_rfl) (by kernel_rfl) (decide_eq_false (by omega))) fun aa D => ?_
  refine Qaz 11 D (by kernel_rfl) (by kernel_rfl) (by kernel_rfl) (b := d.c) (off := d.p) (len := d.tl) (n := j) (size := 2) (ix := (j : Int)) (by rw [← hg.hw.resolve_left (by omega)]; kernel_rfl) rfl hj fun aa D => ?_
  refine QaH 13 D (by kernel_rfl) (by kernel_rfl) (by kernel_rfl) (ty := 3) (ad := ⟨d.c, d.p + j * 2, none⟩) (v := .int .i64 (d.W.getD j (0, ByteArray.empty)).1) (fun W hW => QaP (by kernel_rfl) ((show Qc5 W d.c d.p d.W from hW _ (List.mem_singleton.2 rfl)) j (by rw [hg.hW]; exact hj)).1) (by kernel_rfl) fun aa D => ?_
  refine Qbj (fun d v c a w h => by cases d <;> exact h) 17 (op := .binOp .geq 3 (.tmp 43) (.tmp 46) 3) (ty := 4) (v := .bool true) D (by kernel_rfl) (by kernel_rfl) (by kernel_rfl) (by kernel_rfl) (Qlc (ki := .i64) (p := (d.W.getD j (0, ByteArray.empty)).1) (q := (d.sl : Int)) (by kernel_rfl) (by kernel_rfl) (decide_eq_true (by omega))) fun aa D => ?_
  refine QaT D (by kernel_rfl) fun S => ?_
  refine Qac S fun bs aa w S => ?_
  have e : Qek d = false := (by simp only [Qek]; rw [QdQ (fun x => decide (0 ≤ x.1) && decide (x.1 < (d.sl : Int)) && decide (x.2.size = 32)) (0, ByteArray.empty) d.W j (by rw [hg.hW]; exact hj) hpw]; simp)
  rw [e]
  exact Qaf S (by kernel_rfl) (by kernel_rfl) fun hg => ⟨rfl, Qag hg⟩
theorem rr_a2 : ∀ (r j : Nat), j + r = d.tl → (∀ i, i < j → (decide (0 ≤ (d.W.getD i (0, ByteArray.empty)).1) && decide ((d.W.getD i (0, ByteArray.empty)).1 < (d.sl : Int)) && decide ((d.W.getD i (0, ByteArray.empty)).2.size = 32)) = true) → ∀ (x0 : Nat) (aa : Act) (w : World) (S : Sy w0 [] [x0] (Qib d (j)) [QaC d.b d.o d.S, QcJ d.c d.p d.W] aa w), post Try.prog (.rnd (r + 1) (Qa_ rr2) :: rr2.k.tail) (bodyPost Try.prog Try.f9 fun e w' => e = .returned (.bool (Qek d)) ∧ Below w0.heap.size w0 w') .normal aa w := by
  intro r
  induction r with
  | zero => intro j hj hv x0 aa w S; obtain rfl : j = d.tl := by omega
            exact rr_e2 w0 d hg h5 h1000 0 hu hv x0 aa w S
  | succ r ih =>
    intro j hj hv x0 aa w S
    have hjl : j < d.tl := by omega
    by_cases hr : 0 ≤ (d.W.getD j (0, ByteArray.empty)).1 ∧ (d.W.getD j (0, ByteArray.empty)).1 < (d.sl : Int)
    · by_cases hz : (d.W.getD j (0, ByteArray.empty)).2.size = 32
      · exact rr_s20 w0 d hg h5 h1000 hu (r + 1) j hjl hr hz (fun h => ih (j + 1) (by omega) h) hv x0 aa w S
      · exact rr_s21 w0 d hg h5 h1000 hu (r + 1) j hjl hr hz (fun h => ih (j + 1) (by omega) h) hv x0 aa w S
    · exact rr_s22 w0 d hg h5 h1000 hu (r + 1) j hjl hr (fun h => ih (j + 1) (by omega) h) hv x0 aa w S
end
theorem rr_e1 (m : Nat) (hv : ∀ i, i < d.sl → (decide ((d.S.getD i ByteArray.empty).size = 32)) = true) (x0 : Nat) (aa : Act) (w : World) (S : Sy w0 [] [x0] (Qkc d (d.sl)) [QaC d.b d.o d.S, QcJ d.c d.p d.W] aa w) : post Try.prog (.rnd (m + 1) (Qa_ rr1) :: rr1.k.tail) (bodyPost Try.prog Try.f9 fun e w' => e = .returned (.bool (Qek d)) ∧ Below w0.heap.size w0 w') .normal aa w := by
  refine Qam (c := ⟨(.rnd (m + 1) (Qa_ rr1) :: rr1.k.tail), Qkc d d.sl⟩) 4 50 5 S fun bs aa w S => ?_
  refine Qab 13 S (decide_eq_false (by omega) : decide ((d.sl : Int) < (d.sl : Int)) = false) fun S => ?_
  refine Qac S fun bs aa w S => ?_
  have S2 := S.to [0] (Qib d 0) (by kernel_rfl) (by kernel_rfl) (by kernel_rfl) (by kernel_rfl) (by kernel_rfl)
  refine QaJ (d.tl + 1) (by kernel_rfl) ?_
  refine Qai (k' := (.rnd (d.tl + 1) (Qa_ rr2) :: rr2.k.tail)) (by kernel_rfl) ?_
  exact rr_a2 w0 d hg h5 h1000 hv d.tl 0 (by omega) (fun i hi => absurd hi (Nat.not_lt_zero _)) _ aa w S2
theorem rr_s10 (m j : Nat) (hj : j < d.sl) (hp : (decide ((d.S.getD j ByteArray.empty).size = 32)) = true) (ih : (∀ i, i < j + 1 → (decide ((d.S.getD i ByteArray.empty).size = 32)) = true) → ∀ (x0 : Nat) (aa : Act) (w : World) (S : Sy w0 [] [x0] (Qkc d (j + 1)) [QaC d.b d.o d.S, QcJ d.c d.p d.W] aa w), post Try.prog (.rnd (m) (Qa_ rr1) :: rr1.k.tail) (bodyPost Try.prog Try.f9 fun e w' => e = .returned (.bool (Qek d)) ∧ Below w0.heap.size w0 w') .normal aa w) (hv : ∀ i, i < j → (decide ((d.S.getD i ByteArray.empty).size = 32)) = true) (x0 : Nat) (aa : Act) (w : World) (S : Sy w0 [] [x0] (Qkc d (j)) [QaC d.b d.o d.S, QcJ d.c d.p d.W] aa w) : post Try.prog (.rnd (m + 1) (Qa_ rr1) :: rr1.k.tail) (bodyPost Try.prog Try.f9 fun e w' => e = .returned (.bool (Qek d)) ∧ Below w0.heap.size w0 w') .normal aa w := by
  refine Qam (c := ⟨(.rnd (m + 1) (Qa_ rr1) :: rr1.k.tail), Qkc d j⟩) 4 50 5 S fun bs aa w S => ?_
  refine Qab 13 S (decide_eq_true (by omega) : decide ((j : Int) < (d.sl : Int)) = true) fun S => ?_
  refine Qam 6 60 3 S fun bs aa w S => ?_
  refine QbI (b := d.b) (off := d.o) (len := d.sl) (n := j) (size := 1) (i := (j : Int)) S (by rw [← hg.hs.resolve_left (by omega)]; kernel_rfl) rfl hj fun aa S => ?_
  refine Qbb S (QaP (ty := 9) (b := d.b) (off := d.o + j * 1) (by kernel_rfl) (by rw [Nat.mul_one]; exact S.fact (f := QaC d.b d.o d.S) (by simp) j (by rw [hg.hS]; omega))) (by kernel_rfl) fun aa S => ?_
  refine Qad 2 S fun bs aa w S => ?_
  refine Qab 22 S (by rw [of_decide_eq_true hp]; rfl : (!decide (((d.S.getD j ByteArray.empty).size : Int) = 32)) = false) fun S => ?_
  refine Qam 5 60 2 S fun bs aa w S => ?_
  refine QaM 15 S (by rw [IntKind.wrap_i64]; omega : IntKind.i64.wrap ((j : Int) + 1) = ((j + 1 : Nat) : Int)) fun S => ?_
  refine Qan ⟨0, [999]⟩ 50 S fun bs aa w S => ?_
  have S2 := S.to [0] (Qkc d (j + 1)) (by kernel_rfl) (by kernel_rfl) (by kernel_rfl) (by kernel_rfl) (by kernel_rfl)
  refine Qai (k' := (.rnd (m) (Qa_ rr1) :: rr1.k.tail)) (by kernel_rfl) ?_
  exact ih (Qb1 hv hp) _ aa w S2
theorem rr_s11 (m j : Nat) (hj : j < d.sl) (hp : (decide ((d.S.getD j ByteArray.empty).size = 32)) = false) (ih : (∀ i, i < j + 1 → (decide ((d.S.getD i ByteArray.empty).size = 32)) = true) → ∀ (x0 : Nat) (aa : Act) (w : World) (S : Sy w0 [] [x0] (Qkc d (j + 1)) [QaC d.b d.o d.S, QcJ d.c d.p d.W] aa w), post Try.prog (.rnd (m) (Qa_ rr1) :: rr1.k.tail) (bodyPost Try.prog Try.f9 fun e w' => e = .returned (.bool (Qek d)) ∧ Below w0.heap.size w0 w') .normal aa w) (hv : ∀ i, i < j → (decide ((d.S.getD i ByteArray.empty).size = 32)) = true) (x0 : Nat) (aa : Act) (w : World) (S : Sy w0 [] [x0] (Qkc d (j)) [QaC d.b d.o d.S, QcJ d.c d.p d.W] aa w) : post Try.prog (.rnd (m + 1) (Qa_ rr1) :: rr1.k.tail) (bodyPost Try.prog Try.f9 fun e w' => e = .returned (.bool (Qek d)) ∧ Below w0.heap.size w0 w') .normal aa w := by
  refine Qam (c := ⟨(.rnd (m + 1) (Qa_ rr1) :: rr1.k.tail), Qkc d j⟩) 4 50 5 S fun bs aa w S => ?_
  refine Qab 13 S (decide_eq_true (by omega) : decide ((j : Int) < (d.sl : Int)) = true) fun S => ?_
  refine Qam 6 60 3 S fun bs aa w S => ?_
  refine QbI (b := d.b) (off := d.o) (len := d.sl) (n := j) (size := 1) (i := (j : Int)) S (by rw [← hg.hs.resolve_left (by omega)]; kernel_rfl) rfl hj fun aa S => ?_
  refine Qbb S (QaP (ty := 9) (b := d.b) (off := d.o + j * 1) (by kernel_rfl) (by rw [Nat.mul_one]; exact S.fact (f := QaC d.b d.o d.S) (by simp) j (by rw [hg.hS]; omega))) (by kernel_rfl) fun aa S => ?_
  refine Qad 2 S fun bs aa w S => ?_
  refine Qab 22 S (by have := of_decide_eq_false hp; rw [decide_eq_false (by omega)]; rfl : (!decide (((d.S.getD j ByteArray.empty).size : Int) = 32)) = true) fun S => ?_
  refine Qac S fun bs aa w S => ?_
  have e : Qek d = false := (by simp only [Qek]; rw [QdQ _ ByteArray.empty d.S j (by rw [hg.hS]; exact hj) hp]; simp)
  rw [e]
  exact Qaf S (by kernel_rfl) (by kernel_rfl) fun hg => ⟨rfl, Qag hg⟩
theorem rr_a1 : ∀ (r j : Nat), j + r = d.sl → (∀ i, i < j → (decide ((d.S.getD i ByteArray.empty).size = 32)) = true) → ∀ (x0 : Nat) (aa : Act) (w : World) (S : Sy w0 [] [x0] (Qkc d (j)) [QaC d.b d.o d.S, QcJ d.c d.p d.W] aa w), post Try.prog (.rnd (r + 1) (Qa_ rr1) :: rr1.k.tail) (bodyPost Try.prog Try.f9 fun e w' => e = .returned (.bool (Qek d)) ∧ Below w0.heap.size w0 w') .normal aa w := by
  intro r
  induction r with
  | zero => intro j hj hv x0 aa w S; obtain rfl : j = d.sl := by omega
            exact rr_e1 w0 d hg h5 h1000 0 hv x0 aa w S
  | succ r ih =>
    intro j hj hv x0 aa w S
    have hjl : j < d.sl := by omega
    cases hp : (decide ((d.S.getD j ByteArray.empty).size = 32)) with
    | true => exact rr_s10 w0 d hg h5 h1000 (r + 1) j hjl hp (fun h => ih (j + 1) (by omega) h) hv x0 aa w S
    | false => exact rr_s11 w0 d hg h5 h1000 (r + 1) j hjl hp (fun h => ih (j + 1) (by omega) h) hv x0 aa w S
end
theorem rright_t (w0 : World) (d : Dk) (hg : d.gen) (h1000 : d.tl ≤ 60) (hA : Qcx w0 d.b d.o d.S) (hB : Qc5 w0 d.c d.p d.W) : Calls Try.prog 9 #[d.v] w0 fun e w' => e = .returned (.bool (Qek d)) ∧ Below w0.heap.size w0 w' := by
  refine Qav [] [QaC d.b d.o d.S, QcJ d.c d.p d.W] (by intro f hf; simp only [List.mem_cons, List.not_mem_nil, or_false] at hf; rcases hf with rfl | rfl; exact hA; exact hB) Try.func9 rfl rfl fun aa S => ?_
  refine Qam 1 60 4 S fun bs aa w S => ?_
  by_cases h1 : d.sl ≤ 512
  case neg =>
    refine Qab 8 S (decide_eq_true (by omega) : decide ((d.sl : Int) > 512) = true) fun S => ?_
    refine Qac S fun bs aa w S => ?_
    have e : Qek d = false := by simp [Qek, h1]
    rw [e]
    exact Qaf S (by kernel_rfl) (by kernel_rfl) fun hg => ⟨rfl, Qag hg⟩
  refine Qab 8 S (decide_eq_false (by omega) : decide ((d.sl : Int) > 512) = false) fun S => ?_
  refine Qac S fun bs aa w S => ?_
  have S2 := S.to [0] (Qkc d 0) (by kernel_rfl) (by kernel_rfl) (by kernel_rfl) (by kernel_rfl) (by kernel_rfl)
  refine QaJ (d.sl + 1) (by kernel_rfl) ?_
  refine Qai (k' := (.rnd (d.sl + 1) (Qa_ rr1) :: rr1.k.tail)) (by kernel_rfl) ?_
  exact rr_a1 w0 d hg h1 h1000 d.sl 0 (by omega) (fun i hi => absurd hi (Nat.not_lt_zero _)) _ aa w S2
theorem tl_eq (a b : ByteArray) : (a.toList == b.toList) = decide (a = b) := by
  by_cases h : a = b
  · subst h; simp
  · have : ¬ a.toList = b.toList := fun e => h (Go.WideShapes.bytes_inj (by rw [← ByteArray.toList_eq, ← ByteArray.toList_eq]; exact e))
    rw [decide_eq_false h]
    exact beq_eq_false_iff_ne.2 this
theorem QhH {α : Type} (z : α) (l m : List α) (hl : l.length = m.length) (h : ∀ i, i < l.length → l.getD i z = m.getD i z) : l = m := by
  apply List.ext_getElem hl
  intro i h1 h2
  have := h i h1
  simpa [List.getD, List.getElem?_eq_getElem h1, List.getElem?_eq_getElem h2] using this
structure Dev (h0 : Nat) (w : World) (d : Dk) (S : List ByteArray) (W : List (Int × ByteArray)) : Prop where
  g : d.gen
  eS : d.S = S
  eW : d.W = W
  sA : Qcx w d.b d.o S
  wA : Qc5 w d.c d.p W
  b0 : S.length = 0 ∨ h0 ≤ d.b
  c0 : W.length = 0 ∨ h0 ≤ d.c
def tch (n : Nat) (l : List Nat) : List Bool := l.foldl (fun T c => T.set (c % n) true) (List.replicate n false)
structure PInv2 (n : Nat) (x : List ByteArray × List (Int × ByteArray) × List (Int × ByteArray)) : Prop where
  len : x.1.length = n
  sz : ∀ s ∈ x.1, s.size = 32
  w : ∀ y ∈ x.2.1, (0 ≤ y.1 ∧ y.1 < (n : Int)) ∧ y.2.size = 32
structure KI (w0 : World) (k : Nat) (S0 : List ByteArray) (l : List Nat) (i : Nat) (x : Dk) (tg : Nat) : Prop where
  ok : x.ok
  sl : x.sl = k + 1
  tc : x.tc ≤ 9223372036854775807
  eq : ∃ D, mput (k + 1) S0 (l.take i) = (x.S, x.W, D)
  tl : x.tl ≤ i
  ap : x.b ≠ tg ∧ (x.W.length = 0 ∨ x.c ≠ tg)
structure Dvv (h0 : Nat) (w : World) (d d' : Dk) (S : List ByteArray) (W : List (Int × ByteArray)) : Prop where
  g : d'.gen
  eS : d'.S = S
  eW : d'.W = W
  sA : Qcx w d'.b d'.o d'.S
  wA : Qc5 w d'.c d'.p d'.W
  b0 : d'.S.length = 0 ∨ h0 ≤ d'.b ∨ (d'.b = d.b ∧ d.S.length ≠ 0)
  c0 : d'.W.length = 0 ∨ h0 ≤ d'.c ∨ (d'.c = d.c ∧ d.W.length ≠ 0)
theorem ints_has {w : World} {zs : List Int} {ma : Option Addr} {mc mb mo : Nat} (hz : zs.length ≤ 60) (hm : zs.length = 0 ∨ ma = some ⟨mb, mo, none⟩) (hI : QbR w mb mo zs) : Qbu w (.slice ma zs.length mc) zs :=
  ⟨ma, mc, rfl, by omega, hm.imp id fun h => ⟨mb, mo, h, hI⟩⟩
structure Mv where
  a : Option Addr
  c : Nat
  b : Nat
  o : Nat
structure Mv.ok (q : Mv) (h0 : Nat) (w : World) (mb : Nat) (zs Z : List Int) : Prop where
  ha : Z.length = 0 ∨ q.a = some ⟨q.b, q.o, none⟩
  hI : QbR w q.b q.o Z
  h0 : Z.length = 0 ∨ h0 ≤ q.b ∨ (q.b = mb ∧ zs.length ≠ 0)
end Go.Proofs.Ytfhmdlihnidjoaa
