/-
  Merged: DkO, Dk7, Dk8, Dk9, Dk10, Dk11, Dk12, Dk15, Dk17, Dk18, Dk19
-/
import Derived.Test.YtaclhiagfgmgkaaRows
import Derived.Test.YtaclhiagfgmgkaaPr2
import Derived.Test.YtaclhiagfgmgkaaPr11
import Derived.Deep.Fields
import Derived.Deep.Slices
import Derived.WalkKit
import Derived.Test.YtaclhiagfgmgkaaPr5
namespace Go.Proofs.Ytaclhiagfgmgkaa
set_option linter.unusedSectionVars false
open Go.ChangeShapes Go.WideShapes Go.ChangeAt Go.RowKit Go.Deep
set_option maxRecDepth 100000
section
variable {H : Type} {enc : TypeId × Value → H} {W : World}
end
end Go.Proofs.Ytaclhiagfgmgkaa

namespace Go.Proofs.Ytaclhiagfgmgkaa
open Go Go.RowKit SZ
set_option linter.unusedVariables false
set_option linter.unusedSectionVars false
set_option linter.unusedSimpArgs false
set_option maxRecDepth 100000
attribute [local irreducible] post GD Nxt NxtAll
def lastD (D : List (Int × ByteArray)) (at_ : Nat) (z : ByteArray) : ByteArray := D.foldl (fun w x => if x.1 = (at_ : Int) then x.2 else w) z
structure WInv (n : Nat) (x : List ByteArray × List (Int × ByteArray) × List (Int × ByteArray)) : Prop where
  len : x.1.length = n
  sz : ∀ s ∈ x.1, s.size = 32
  w : ∀ y ∈ x.2.1, (0 ≤ y.1 ∧ y.1 < (n : Int)) ∧ y.2.size = 32
  d : ∀ y ∈ x.2.2, (0 ≤ y.1 ∧ y.1 < (n : Int)) ∧ y.2.size = 32
  last : ∀ j, j < n → x.1.getD j ByteArray.empty = lastD x.2.2 j z32
theorem getD_mem {α : Type} (l : List α) (j : Nat) (z : α) (h : j < l.length) : l.getD j z ∈ l := by
  have e : l.getD j z = l[j] := by simp [List.getD, List.getElem?_eq_getElem h]
  rw [e]
  exact List.getElem_mem h
end Go.Proofs.Ytaclhiagfgmgkaa

namespace Go.Proofs.Ytaclhiagfgmgkaa
open Go Go.RowKit SZ
set_option linter.unusedVariables false
set_option linter.unusedSectionVars false
set_option linter.unusedSimpArgs false
set_option maxRecDepth 100000
attribute [local irreducible] post GD Nxt NxtAll
end Go.Proofs.Ytaclhiagfgmgkaa

namespace Go.Proofs.Ytaclhiagfgmgkaa
open Go Go.RowKit SZ
set_option linter.unusedVariables false
set_option linter.unusedSectionVars false
set_option linter.unusedSimpArgs false
set_option maxRecDepth 100000
attribute [local irreducible] post GD Nxt NxtAll
def unA (W : List (Int × ByteArray)) : Nat → List ByteArray × List ByteArray → List ByteArray × List ByteArray
  | 0, x => x
  | j + 1, x => unA W j (x.1.set (W.getD j (0, ByteArray.empty)).1.toNat (W.getD j (0, ByteArray.empty)).2, x.2.set j (x.1.getD (W.getD j (0, ByteArray.empty)).1.toNat ByteArray.empty))
end Go.Proofs.Ytaclhiagfgmgkaa

namespace Go.Proofs.Ytaclhiagfgmgkaa
open Go Go.RowKit SZ
set_option linter.unusedVariables false
set_option linter.unusedSectionVars false
set_option linter.unusedSimpArgs false
set_option maxRecDepth 100000
attribute [local irreducible] post GD Nxt NxtAll
def tear (a b : ByteArray) (m : Nat) : ByteArray := a.extract 0 m ++ b.extract m b.size
def cutOf (cs : List Int) (j : Nat) : Nat := if j < cs.length then (cs.getD j 0 % 33).toNat else 32
end Go.Proofs.Ytaclhiagfgmgkaa

namespace Go.Proofs.Ytaclhiagfgmgkaa
open Go Go.RowKit SZ
set_option linter.unusedVariables false
set_option linter.unusedSectionVars false
set_option linter.unusedSimpArgs false
set_option maxRecDepth 100000
attribute [local irreducible] post GD Nxt NxtAll
def crJ (W : List (Int × ByteArray)) (cs : List Int) (Dt : List ByteArray) (j : Nat) (S : List ByteArray) : List ByteArray := S.set (W.getD j (0, ByteArray.empty)).1.toNat (tear (Dt.getD j ByteArray.empty) (S.getD (W.getD j (0, ByteArray.empty)).1.toNat ByteArray.empty) (cutOf cs j))
def crA (W : List (Int × ByteArray)) (cs : List Int) (Dt : List ByteArray) : Nat → List ByteArray → List ByteArray
  | 0, S => S
  | j + 1, S => crJ W cs Dt j (crA W cs Dt j S)
def crU (d : Dk) : List ByteArray × List ByteArray := unA d.W d.tl (d.S, List.replicate d.tl ByteArray.empty)
def crS (d : Dk) (cs : List Int) : List ByteArray := crA d.W cs (crU d).2 d.tl (crU d).1
end Go.Proofs.Ytaclhiagfgmgkaa

namespace Go.Proofs.Ytaclhiagfgmgkaa
open Go Go.RowKit SZ
set_option linter.unusedVariables false
set_option linter.unusedSectionVars false
set_option linter.unusedSimpArgs false
set_option maxRecDepth 100000
attribute [local irreducible] post GD Nxt NxtAll
def byt (s : ByteArray) (k : Nat) : Nat := (s.data.toList.getD k 0).toNat
theorem byt_ix (s : ByteArray) (k : Nat) (h : k < s.size) : (s[k]'h).toNat = byt s k := by
  have h2 : k < s.data.toList.length := by simpa using h
  unfold byt
  rw [List.getD, List.getElem?_eq_getElem h2]
  rfl
structure UnR (n : Nat) (S0 : List ByteArray) (D0 : List (Int × ByteArray)) (l : List Nat) (x : List ByteArray × List (Int × ByteArray) × List (Int × ByteArray)) : Prop where
  len : x.1.length = n
  wl : x.2.1.length = l.length
  w1 : ∀ j, j < l.length → (x.2.1.getD j (0, ByteArray.empty)).1 = ((l.getD j 0 % n : Nat) : Int)
  d : x.2.2 = D0 ++ l.map fun c => (((c % n : Nat) : Int), fullS (c : Int))
  un : ∀ Dt : List ByteArray, l.length ≤ Dt.length → (unA x.2.1 l.length (x.1, Dt)).1 = S0 ∧ (unA x.2.1 l.length (x.1, Dt)).2.length = Dt.length ∧ ∀ j, (unA x.2.1 l.length (x.1, Dt)).2.getD j ByteArray.empty = if j < l.length then fullS ((l.getD j 0 : Nat) : Int) else Dt.getD j ByteArray.empty
theorem sl_pre (a : Option Addr) (n c m : Nat) (h : m ≤ c) (W : World) : (Instr.sliceAt 43 (.slice a n c) none (some (.int .i64 (m : Int))) none).run Try.prog W = .ok (.slice a m c) W := by
  have hu : Try.prog.underlying 43 = some (.slice (Try.prog.elem 43)) := by rw [Try.underlying43]; kernel_rfl
  rw [run_sliceAt_slice W _ _ _ _ _ hu, run_slice_any W _ _ _ _ hu]
  have hs : (Instr.sliceBounds true n c none (some (.int .i64 (m : Int))) none).run Try.prog W = .ok (0, m, c) W := by
    simp [Instr.sliceBounds, run_sliceBound, h]
  rw [hs]
  have hI : (Try.prog.info? (Try.prog.elem 43)).isSome = true := by kernel_rfl
  obtain ⟨ii, hi⟩ := Option.isSome_iff_exists.1 hI
  have ha : (if c = 0 then a else a.map (·.add (0 * ii.size))) = a := by
    rw [Nat.zero_mul]
    have e : (fun x : Addr => x.add 0) = id := by funext x; simp [Addr.add]
    rw [e, Option.map_id]
    simp
  simp [sizeOf, typeInfo, sliced, hi]
  simpa using ha
theorem ex_ix {s : SS} {bs : List Nat} {x y : Operand} {t ty : TypeId} {p : ByteArray} {k : Nat} (ht : Try.prog.underlying t = some .string) (hx : s.val x = some (.v (.string p))) (hy : s.val y = some (.v (.int .i64 (k : Int)))) (hk : k < p.size) :
    ∀ (o : Oper) (ρ : Operand → Value) (W : World), o.op = .index t x y → o.type = ty → (∀ x y, s.val x = some y → ρ x = den bs y) → (execOp ρ o).run Try.prog W = .ok (.value (.int .u8 ((byt p k : Nat) : Int))) W := by
  intro o ρ W h1 h2 h3
  have e1 : ρ x = .string p := h3 x _ hx
  have e2 : ρ y = .int .i64 (k : Int) := h3 y _ hy
  have hr : ∀ W, (Instr.index t (.string p) (.int .i64 (k : Int))).run Try.prog W = .ok (.int .u8 ((byt p k : Nat) : Int)) W := fun W => by
    rw [run_index_string W t p .i64 _ ht, dif_pos ⟨by omega, by omega⟩]
    have e := byt_ix p k hk
    simp only [Int.toNat_natCast]
    rw [e]
  unfold execOp
  simp only [h1, e1, e2, Sem.run_bind, Sem.run_pure, Result.andThen_ok, hr]
end Go.Proofs.Ytaclhiagfgmgkaa

namespace Go.Proofs.Ytaclhiagfgmgkaa
open Go Go.RowKit SZ
set_option linter.unusedVariables false
set_option linter.unusedSectionVars false
set_option linter.unusedSimpArgs false
set_option maxRecDepth 100000
attribute [local irreducible] post GD Nxt NxtAll
structure Keeps (n : Nat) (S0 : List ByteArray) (l : List Nat) (d : Dk) : Prop where
  none : ∀ cs : List Int, (∀ j, j < l.length → cutOf cs j = 0) → crS d cs = S0
  all : crS d [] = d.S
  un : ∀ cs a, a < n → (∀ j, j < l.length → l.getD j 0 % n ≠ a) → (crS d cs).getD a ByteArray.empty = S0.getD a ByteArray.empty
end Go.Proofs.Ytaclhiagfgmgkaa

namespace Go.Proofs.Ytaclhiagfgmgkaa
open Go Go.RowKit SZ
set_option linter.unusedVariables false
set_option linter.unusedSectionVars false
set_option linter.unusedSimpArgs false
set_option maxRecDepth 100000
attribute [local irreducible] post GD Nxt NxtAll
structure Dk.gen (d : Dk) : Prop where
  hS : d.S.length = d.sl
  hs : d.sl = 0 ∨ d.sa = some ⟨d.b, d.o, none⟩
  hW : d.W.length = d.tl
  hw : d.tl = 0 ∨ d.ta = some ⟨d.c, d.p, none⟩
  ht : (d.ta = none ∧ d.tl = 0 ∧ d.tc = 0) ∨ (d.ta.isSome = true ∧ d.tl ≤ d.tc)
  hc : d.tc ≤ 9223372036854775807
  hsn : d.sa = none → d.sc = 0
theorem upto_succ {P : Nat → Prop} {j : Nat} (hv : ∀ i, i < j → P i) (hp : P j) : ∀ i, i < j + 1 → P i := fun i hi => by
  rcases Nat.lt_or_ge i j with h | h
  · exact hv i h
  · rw [show i = j by omega]; exact hp
theorem all_upto {α : Type} (p : α → Bool) (z : α) (l : List α) : (∀ i, i < l.length → p (l.getD i z) = true) → l.all p = true := fun h => by
  rw [List.all_eq_true]
  intro x hx
  obtain ⟨i, hi, rfl⟩ := List.getElem_of_mem hx
  have := h i hi
  rwa [List.getD, List.getElem?_eq_getElem hi] at this
theorem all_not {α : Type} (p : α → Bool) (z : α) (l : List α) (i : Nat) (hi : i < l.length) (h : p (l.getD i z) = false) : l.all p = false := by
  rw [List.all_eq_false]
  exact ⟨l.getD i z, getD_mem l i z hi, by rw [h]; simp⟩
end Go.Proofs.Ytaclhiagfgmgkaa

namespace Go.Proofs.Ytaclhiagfgmgkaa
open Go Go.RowKit SZ
set_option linter.unusedVariables false
set_option linter.unusedSectionVars false
set_option linter.unusedSimpArgs false
set_option maxRecDepth 100000
attribute [local irreducible] post GD Nxt NxtAll
section
variable {s : SS} {bs : List Nat} {x y : Operand} {t t' ty : TypeId} {ki : IntKind} {p q : Int} {b : Bool} (hx : s.val x = some (.v (.int ki p))) (hy : s.val y = some (.v (.int ki q)))
include s bs x y t t' ty ki p q b hx hy
theorem ex_ltI (hb : decide (p < q) = b) :
    ∀ (o : Oper) (ρ : Operand → Value) (W : World), o.op = .binOp .lss t x y t' → o.type = ty → (∀ x y, s.val x = some y → ρ x = den bs y) → (execOp ρ o).run Try.prog W = .ok (.value (.bool b)) W := by
  intro o ρ W h1 h2 h3
  have e1 : ρ x = .int ki p := h3 x _ hx
  have e2 : ρ y = .int ki q := h3 y _ hy
  subst hb
  unfold execOp
  simp only [h1, e1, e2, eqGuard, binOp_lss, Sem.run_bind, Sem.run_pure, Result.andThen_ok]
  rfl
theorem ex_gtI (hb : decide (p > q) = b) :
    ∀ (o : Oper) (ρ : Operand → Value) (W : World), o.op = .binOp .gtr t x y t' → o.type = ty → (∀ x y, s.val x = some y → ρ x = den bs y) → (execOp ρ o).run Try.prog W = .ok (.value (.bool b)) W := by
  intro o ρ W h1 h2 h3
  have e1 : ρ x = .int ki p := h3 x _ hx
  have e2 : ρ y = .int ki q := h3 y _ hy
  subst hb
  unfold execOp
  simp only [h1, e1, e2, eqGuard, binOp_gtr, Sem.run_bind, Sem.run_pure, Result.andThen_ok]
  rfl
end
end Go.Proofs.Ytaclhiagfgmgkaa

namespace Go.Proofs.Ytaclhiagfgmgkaa
open Go Go.RowKit SZ
set_option linter.unusedVariables false
set_option linter.unusedSectionVars false
set_option linter.unusedSimpArgs false
set_option maxRecDepth 100000
attribute [local irreducible] post GD Nxt NxtAll
theorem tl_eq (a b : ByteArray) : (a.toList == b.toList) = decide (a = b) := by
  by_cases h : a = b
  · subst h; simp
  · have : ¬ a.toList = b.toList := fun e => h (Go.WideShapes.bytes_inj (by rw [← ByteArray.toList_eq, ← ByteArray.toList_eq]; exact e))
    rw [decide_eq_false h]
    exact beq_eq_false_iff_ne.2 this
theorem eq_upto {α : Type} (z : α) (l m : List α) (hl : l.length = m.length) (h : ∀ i, i < l.length → l.getD i z = m.getD i z) : l = m := by
  apply List.ext_getElem hl
  intro i h1 h2
  have := h i h1
  simpa [List.getD, List.getElem?_eq_getElem h1, List.getElem?_eq_getElem h2] using this
end Go.Proofs.Ytaclhiagfgmgkaa
