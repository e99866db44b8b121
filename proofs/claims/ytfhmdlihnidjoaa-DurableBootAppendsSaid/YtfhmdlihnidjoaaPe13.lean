/-
  Merged: DkO, Dk7, Dk8, Dk9, Dk10, Dk11, Dk12, Dk15, Dk17, Dk18, Dk19, Dk20, Dk21, Dk22, Dk23, Dk24, Dk13, Dk14, Dk16, Dk25, BkE, BpC
-/
import Derived.Test.YtfhmdlihnidjoaaRows
import Derived.Test.YtfhmdlihnidjoaaPe2
import Derived.Test.YtfhmdlihnidjoaaPe12
import Derived.Deep.Fields
import Derived.Deep.Slices
import Derived.WalkKit
import Derived.Test.YtfhmdlihnidjoaaPe5
import Derived.Test.YtfhmdlihnidjoaaPe11
import Derived.Test.YtfhmdlihnidjoaaPe9
namespace Go.Proofs.Ytfhmdlihnidjoaa
set_option linter.unusedSectionVars false
set_option maxRecDepth 100000
set_option linter.unusedVariables false
set_option linter.unusedSimpArgs false
open Go.ChangeShapes Go.WideShapes Go.ChangeAt Go.RowKit Go.Deep
section
variable {H : Type} {enc : TypeId × Value → H} {W : World}
end
end Go.Proofs.Ytfhmdlihnidjoaa
namespace Go.Proofs.Ytfhmdlihnidjoaa
set_option linter.unusedVariables false
set_option linter.unusedSectionVars false
set_option linter.unusedSimpArgs false
set_option maxRecDepth 100000
set_option maxHeartbeats 8000000
open Go Go.RowKit SZ
attribute [local irreducible] post GD Nxt Qaf
def lastD (D : List (Int × ByteArray)) (at_ : Nat) (z : ByteArray) : ByteArray := D.foldl (fun w x => if x.1 = (at_ : Int) then x.2 else w) z
structure WInv (n : Nat) (x : List ByteArray × List (Int × ByteArray) × List (Int × ByteArray)) : Prop where
  len : x.1.length = n
  sz : ∀ s ∈ x.1, s.size = 32
  w : ∀ y ∈ x.2.1, (0 ≤ y.1 ∧ y.1 < (n : Int)) ∧ y.2.size = 32
  d : ∀ y ∈ x.2.2, (0 ≤ y.1 ∧ y.1 < (n : Int)) ∧ y.2.size = 32
  last : ∀ j, j < n → x.1.getD j ByteArray.empty = lastD x.2.2 j z32
theorem QbZ {α : Type} (l : List α) (j : Nat) (z : α) (h : j < l.length) : l.getD j z ∈ l := by
  have e : l.getD j z = l[j] := by simp [List.getD, List.getElem?_eq_getElem h]
  rw [e]
  exact List.getElem_mem h
def unA (W : List (Int × ByteArray)) : Nat → List ByteArray × List ByteArray → List ByteArray × List ByteArray
  | 0, x => x
  | j + 1, x => unA W j (x.1.set (W.getD j (0, ByteArray.empty)).1.toNat (W.getD j (0, ByteArray.empty)).2, x.2.set j (x.1.getD (W.getD j (0, ByteArray.empty)).1.toNat ByteArray.empty))
def tear (a b : ByteArray) (m : Nat) : ByteArray := a.extract 0 m ++ b.extract m b.size
def cutOf (cs : List Int) (j : Nat) : Nat := if j < cs.length then (cs.getD j 0 % 33).toNat else 32
def Qb5 (w : World) (b o : Nat) (l : List Int) : Prop := ∀ j, j < l.length → w.cell? ⟨b, o + j, none⟩ = some (.int .i64 (l.getD j 0))
def Qbw (b o : Nat) (l : List Int) : RF := ⟨fun b' => b' = b ∧ l.length ≠ 0, fun w => Qb5 w b o l, fun w h b' hb => by
  obtain ⟨rfl, hl⟩ := hb
  exact World.block_lt_of_cell? w _ (h 0 (by omega)), fun w w' h hb j hj => (World.cell?_of_block (a := ⟨b, o + j, none⟩) (hb b ⟨rfl, by omega⟩)).trans (h j hj)⟩
def goM : Nat → Nat → List Nat → List It → List It
  | n + 1, r, ch, .code (.seq x y) :: k => goM n r ch (.code x :: .code y :: k)
  | n + 1, r, ch, .code (.block id c) :: k => goM n r ch (.code c :: .blk id :: k)
  | n + 1, r + 1, ch, .code (.region _ _ _) :: k => goM n r ch k
  | n + 1, r, ch, .code .skip :: k => goM n r ch k
  | n + 1, r, ch, .blk _ :: k => goM n r ch k
  | n + 1, r, c :: ch, .code (.cond _ x y) :: k => goM n r ch (.code (if c = 1 then x else y) :: k)
  | n + 1, r, _ :: ch, .code (.loop _) :: k => goM n r ch k
  | _, _, _, k => k
def crJ (W : List (Int × ByteArray)) (cs : List Int) (Dt : List ByteArray) (j : Nat) (S : List ByteArray) : List ByteArray := S.set (W.getD j (0, ByteArray.empty)).1.toNat (tear (Dt.getD j ByteArray.empty) (S.getD (W.getD j (0, ByteArray.empty)).1.toNat ByteArray.empty) (cutOf cs j))
def crA (W : List (Int × ByteArray)) (cs : List Int) (Dt : List ByteArray) : Nat → List ByteArray → List ByteArray
  | 0, S => S
  | j + 1, S => crJ W cs Dt j (crA W cs Dt j S)
def crU (d : Dk) : List ByteArray × List ByteArray := unA d.W d.tl (d.S, List.replicate d.tl ByteArray.empty)
def crS (d : Dk) (cs : List Int) : List ByteArray := crA d.W cs (crU d).2 d.tl (crU d).1
def byt (s : ByteArray) (k : Nat) : Nat := (s.data.toList.getD k 0).toNat
theorem byt_ix (s : ByteArray) (k : Nat) (h : k < s.size) : (s[k]'h).toNat = byt s k := by
  have h2 : k < s.data.toList.length := by simpa using h
  unfold byt
  rw [List.getD, List.getElem?_eq_getElem h2]
  rfl
structure UnR (n : Nat) (S0 : List ByteArray) (D0 : List (Int × ByteArray)) (l : List Nat) (x : List ByteArray × List (Int × ByteArray) × List (Int × ByteArray)) : Prop where
  len : x.1.length = n
  wl : x.2.1.length = l.length
  w1 : ∀ j, j < l.length → (x.2.1.getD j (0, ByteArray.empty)).1 = ((l.getD j 0 % n : Nat) : Int)
  d : x.2.2 = D0 ++ l.map fun c => (((c % n : Nat) : Int), Qjr (c : Int))
  un : ∀ Dt : List ByteArray, l.length ≤ Dt.length → (unA x.2.1 l.length (x.1, Dt)).1 = S0 ∧ (unA x.2.1 l.length (x.1, Dt)).2.length = Dt.length ∧ ∀ j, (unA x.2.1 l.length (x.1, Dt)).2.getD j ByteArray.empty = if j < l.length then Qjr ((l.getD j 0 : Nat) : Int) else Dt.getD j ByteArray.empty
theorem sl_pre (a : Option Addr) (n c m : Nat) (h : m ≤ c) (W : World) : (Instr.sliceAt 48 (.slice a n c) none (some (.int .i64 (m : Int))) none).run Try.prog W = .ok (.slice a m c) W := by
  have hu : Try.prog.underlying 48 = some (.slice (Try.prog.elem 48)) := by rw [Try.underlying48]; kernel_rfl
  rw [run_sliceAt_slice W _ _ _ _ _ hu, run_slice_any W _ _ _ _ hu]
  have hs : (Instr.sliceBounds true n c none (some (.int .i64 (m : Int))) none).run Try.prog W = .ok (0, m, c) W := by
    simp [Instr.sliceBounds, run_sliceBound, h]
  rw [hs]
  have hI : (Try.prog.info? (Try.prog.elem 48)).isSome = true := by kernel_rfl
  obtain ⟨ii, hi⟩ := Option.isSome_iff_exists.1 hI
  have ha : (if c = 0 then a else a.map (·.add (0 * ii.size))) = a := by
    rw [Nat.zero_mul]
    have e : (fun x : Addr => x.add 0) = id := by funext x; simp [Addr.add]
    rw [e, Option.map_id]
    simp
  simp [sizeOf, typeInfo, sliced, hi]
  simpa using ha
theorem ex_ix {s : SS} {bs : List Nat} {x y : Operand} {t ty : TypeId} {p : ByteArray} {k : Nat} (ht : Try.prog.underlying t = some .string) (hx : s.val x = some (.v (.string p))) (hy : s.val y = some (.v (.int .i64 (k : Int)))) (hk : k < p.size) :
    ∀ (o : Oper) (ρ : Operand → Value) (W : World), o.op = .index t x y → o.type = ty → (∀ x y, s.val x = some y → ρ x = den bs y) → (execOp ρ o).run Try.prog W = .ok (.value (.int .u8 ((byt p k : Nat) : Int))) W := by
  intro o ρ W h1 h2 h3
  have e1 : ρ x = .string p := h3 x _ hx
  have e2 : ρ y = .int .i64 (k : Int) := h3 y _ hy
  have hr : ∀ W, (Instr.index t (.string p) (.int .i64 (k : Int))).run Try.prog W = .ok (.int .u8 ((byt p k : Nat) : Int)) W := fun W => by
    rw [run_index_string W t p .i64 _ ht, dif_pos ⟨by omega, by omega⟩]
    have e := byt_ix p k hk
    simp only [Int.toNat_natCast]
    rw [e]
  unfold execOp
  simp only [h1, e1, e2, Sem.run_bind, Sem.run_pure, Result.andThen_ok, hr]
def wput (n : Nat) (x : List ByteArray × List (Int × ByteArray) × List (Int × ByteArray)) (c : Nat) : List ByteArray × List (Int × ByteArray) × List (Int × ByteArray) := (x.1.set (c % n) (Qjr (c : Int)), x.2.1 ++ [(((c % n : Nat) : Int), x.1.getD (c % n) ByteArray.empty)], x.2.2 ++ [(((c % n : Nat) : Int), Qjr (c : Int))])
def mput (n : Nat) (S0 : List ByteArray) (l : List Nat) : List ByteArray × List (Int × ByteArray) × List (Int × ByteArray) := l.foldl (wput n) (S0, [], [])
structure Keeps (n : Nat) (S0 : List ByteArray) (l : List Nat) (d : Dk) : Prop where
  none : ∀ cs : List Int, (∀ j, j < l.length → cutOf cs j = 0) → crS d cs = S0
  all : crS d [] = d.S
  un : ∀ cs a, a < n → (∀ j, j < l.length → l.getD j 0 % n ≠ a) → (crS d cs).getD a ByteArray.empty = S0.getD a ByteArray.empty
structure Dk.gen (d : Dk) : Prop where
  hS : d.S.length = d.sl
  hs : d.sl = 0 ∨ d.sa = some ⟨d.b, d.o, none⟩
  hW : d.W.length = d.tl
  hw : d.tl = 0 ∨ d.ta = some ⟨d.c, d.p, none⟩
  ht : (d.ta = none ∧ d.tl = 0 ∧ d.tc = 0) ∨ (d.ta.isSome = true ∧ d.tl ≤ d.tc)
  hc : d.tc ≤ 9223372036854775807
  hsn : d.sa = none → d.sc = 0
theorem QjY {P : Nat → Prop} {j : Nat} (hv : ∀ i, i < j → P i) (hp : P j) : ∀ i, i < j + 1 → P i := fun i hi => by
  rcases Nat.lt_or_ge i j with h | h
  · exact hv i h
  · rw [show i = j by omega]; exact hp
theorem all_upto {α : Type} (p : α → Bool) (z : α) (l : List α) : (∀ i, i < l.length → p (l.getD i z) = true) → l.all p = true := fun h => by
  rw [List.all_eq_true]
  intro x hx
  obtain ⟨i, hi, rfl⟩ := List.getElem_of_mem hx
  have := h i hi
  rwa [List.getD, List.getElem?_eq_getElem hi] at this
theorem all_not {α : Type} (p : α → Bool) (z : α) (l : List α) (i : Nat) (hi : i < l.length) (h : p (l.getD i z) = false) : l.all p = false := by
  rw [List.all_eq_false]
  exact ⟨l.getD i z, QbZ l i z hi, by rw [h]; simp⟩
section
variable {s : SS} {bs : List Nat} {x y : Operand} {t t' ty : TypeId} {ki : IntKind} {p q : Int} {b : Bool} (hx : s.val x = some (.v (.int ki p))) (hy : s.val y = some (.v (.int ki q)))
include s bs x y t t' ty ki p q b hx hy
theorem QiI (hb : decide (p < q) = b) :
    ∀ (o : Oper) (ρ : Operand → Value) (W : World), o.op = .binOp .lss t x y t' → o.type = ty → (∀ x y, s.val x = some y → ρ x = den bs y) → (execOp ρ o).run Try.prog W = .ok (.value (.bool b)) W := by
  intro o ρ W h1 h2 h3
  have e1 : ρ x = .int ki p := h3 x _ hx
  have e2 : ρ y = .int ki q := h3 y _ hy
  subst hb
  unfold execOp
  simp only [h1, e1, e2, eqGuard, binOp_lss, Sem.run_bind, Sem.run_pure, Result.andThen_ok]
  rfl
theorem Qlg (hb : decide (p > q) = b) :
    ∀ (o : Oper) (ρ : Operand → Value) (W : World), o.op = .binOp .gtr t x y t' → o.type = ty → (∀ x y, s.val x = some y → ρ x = den bs y) → (execOp ρ o).run Try.prog W = .ok (.value (.bool b)) W := by
  intro o ρ W h1 h2 h3
  have e1 : ρ x = .int ki p := h3 x _ hx
  have e2 : ρ y = .int ki q := h3 y _ hy
  subst hb
  unfold execOp
  simp only [h1, e1, e2, eqGuard, binOp_gtr, Sem.run_bind, Sem.run_pure, Result.andThen_ok]
  rfl
end
theorem has_f (d : Dk) (at_ : Int) (h : ¬(0 ≤ at_ ∧ at_ < d.sl)) (w : World) : Calls Try.prog 47 #[d.v, .int .i64 at_] w fun e w' => e = .returned (.bool false) ∧ Below w.heap.size w w' := by
  refine Qat [] [] (by intro f hf; cases hf) Try.func47 rfl rfl fun aa S => ?_
  refine Qaw 1 60 2 S fun bs aa w S => ?_
  by_cases h0 : 0 ≤ at_
  case neg =>
    refine Qad 6 S (decide_eq_false h0 : decide (at_ ≥ 0) = false) fun S => ?_
    refine Qah S fun bs aa w S => ?_
    exact Qap S (by kernel_rfl) (by kernel_rfl) fun hg => ⟨rfl, Qas hg⟩
  refine Qad 6 S (decide_eq_true h0 : decide (at_ ≥ 0) = true) fun S => ?_
  refine Qao 6 S fun bs aa w S => ?_
  refine Qad 12 S (decide_eq_false (fun q => h ⟨h0, q⟩) : decide (at_ < (d.sl : Int)) = false) fun S => ?_
  refine Qah S fun bs aa w S => ?_
  exact Qap S (by kernel_rfl) (by kernel_rfl) fun hg => ⟨rfl, Qas hg⟩
theorem tl_eq (a b : ByteArray) : (a.toList == b.toList) = decide (a = b) := by
  by_cases h : a = b
  · subst h; simp
  · have : ¬ a.toList = b.toList := fun e => h (Go.WideShapes.bytes_inj (by rw [← ByteArray.toList_eq, ← ByteArray.toList_eq]; exact e))
    rw [decide_eq_false h]
    exact beq_eq_false_iff_ne.2 this
theorem eq_upto {α : Type} (z : α) (l m : List α) (hl : l.length = m.length) (h : ∀ i, i < l.length → l.getD i z = m.getD i z) : l = m := by
  apply List.ext_getElem hl
  intro i h1 h2
  have := h i h1
  simpa [List.getD, List.getElem?_eq_getElem h1, List.getElem?_eq_getElem h2] using this
structure Dev (h0 : Nat) (w : World) (d : Dk) (S : List ByteArray) (W : List (Int × ByteArray)) : Prop where
  g : d.gen
  eS : d.S = S
  eW : d.W = W
  sA : StrAt w d.b d.o S
  wA : WasAt w d.c d.p W
  b0 : S.length = 0 ∨ h0 ≤ d.b
  c0 : W.length = 0 ∨ h0 ≤ d.c
theorem gen_ok {d : Dk} (h : d.gen) (h1 : d.sl ≤ 512) (h2 : d.tl ≤ 1000) : d.ok := ⟨h.hS, h.hs, h.hW, h.ht.elim Or.inl (fun q => Or.inr ⟨h.hw, q⟩), h1, h2⟩
theorem QjP (d : Dk) (n : Int) (hn : ¬(0 ≤ n ∧ n < d.sl)) (s : ByteArray) (w0 : World) : Calls Try.prog 61 #[d.v, .int .i64 n, .string s] w0 fun e w' => e = .returned (.tuple #[d.v, .int .i64 8]) ∧ Below w0.heap.size w0 w' := by
  refine Qat [] [] (by intro f hf; cases hf) Try.func61 rfl rfl fun aa S => ?_
  refine Qah S fun bs aa w S => ?_
  refine QaE S (has_f d n hn w) (by kernel_rfl) fun aa w hb S => ?_
  refine Qah S fun bs aa w S => ?_
  exact Qap S (by kernel_rfl) (by kernel_rfl) fun hg => ⟨rfl, Qas hg⟩
theorem QjO (d : Dk) (n : Int) (hn : 0 ≤ n ∧ n < d.sl) (s : ByteArray) (hs : s.size ≠ 32) (w0 : World) : Calls Try.prog 61 #[d.v, .int .i64 n, .string s] w0 fun e w' => e = .returned (.tuple #[d.v, .int .i64 1]) ∧ Below w0.heap.size w0 w' := by
  refine Qat [] [] (by intro f hf; cases hf) Try.func61 rfl rfl fun aa S => ?_
  refine Qah S fun bs aa w S => ?_
  refine QaE S (has_t d n hn w) (by kernel_rfl) fun aa w hb S => ?_
  refine Qaw 3 60 3 S fun bs aa w S => ?_
  refine Qad 17 S (by rw [decide_eq_false (by omega)]; rfl : (!decide ((s.size : Int) = 32)) = true) fun S => ?_
  refine Qah S fun bs aa w S => ?_
  exact Qap S (by kernel_rfl) (by kernel_rfl) fun hg => ⟨rfl, Qas hg⟩
noncomputable def rn1 : Cfg := ⟨goZ 60 [0] [.code (QaQ Try.f18)], ⟨0, [], []⟩⟩
noncomputable def rnS (n j : Nat) (ga : Option Addr) (gc : Nat) : SS := ⟨26, [(0, .v (.int .i64 (n : Int))), (2, .p 0 0), (4, .p 1 0), (5, .v (.int .i64 (j : Int)))], [⟨30, [.slice none 0 0, .slice none 0 0]⟩, ⟨30, [.slice ga j gc, .slice none 0 0]⟩]⟩
section
variable (w0 : World) (n : Nat) (hn : n ≤ 512)
include w0 n hn
theorem rn_e (m : Nat) (ga : Option Addr) (gc : Nat) (hgn : ga = none → gc = 0) (x0 x1 : Nat) (aa : Act) (w : World) (S : Sy w0 [] [x0, x1] (rnS n (n) ga gc) [(Qaa w0.heap.size 9 1 (.slice ga (n) gc) (n) (List.replicate (n) (Value.string z32)))] aa w) : post Try.prog (.rnd (m + 1) (Qa_ rn1) :: rn1.k.tail) (bodyPost Try.prog Try.f18 fun e w' => ∃ d' : Dk, e = .returned (.tuple #[d'.v, .int .i64 0]) ∧ (Dev w0.heap.size w' d' (List.replicate n z32) [] ∧ d'.sl ≤ d'.sc) ∧ Below w0.heap.size w0 w') .normal aa w := by
  refine Qaw (c := ⟨(.rnd (m + 1) (Qa_ rn1) :: rn1.k.tail), rnS n n ga gc⟩) 5 50 3 S fun bs aa w S => ?_
  refine Qad 16 S (decide_eq_false (by omega) : decide ((n : Int) < (n : Int)) = false) fun S => ?_
  refine Qah S fun bs aa w S => ?_
  have hO := S.fact (f := (Qaa w0.heap.size 9 1 (.slice ga (n) gc) (n) (List.replicate (n) (Value.string z32)))) (by simp)
  rcases hO.2 with ⟨hv, q⟩ | ⟨g, cap, cur, hv, hg0, hgc, hnc, hcm, hcs, htk⟩
  · simp only [Value.slice.injEq] at hv
    obtain ⟨rfl, rfl, rfl⟩ := hv
    exact Qap S (by kernel_rfl) (by kernel_rfl) fun hg => ⟨⟨none, 0, 0, none, 0, 0, 0, 0, 0, 0, [], []⟩, rfl, ⟨⟨⟨rfl, Or.inl rfl, rfl, Or.inl rfl, Or.inl ⟨rfl, rfl, rfl⟩, Nat.zero_le _, fun _ => rfl⟩, rfl, rfl, fun j hj => absurd hj (Nat.not_lt_zero _), fun j hj => absurd hj (Nat.not_lt_zero _), Or.inl rfl, Or.inl rfl⟩, Nat.le_refl _⟩, Qas hg⟩
  · simp only [Value.slice.injEq] at hv
    obtain ⟨rfl, _, rfl⟩ := hv
    exact Qap S (by kernel_rfl) (by kernel_rfl) fun hg => ⟨⟨some ⟨g, 0, none⟩, n, gc, none, 0, 0, g, 0, 0, 0, List.replicate n z32, []⟩, rfl, ⟨⟨⟨by simp, Or.inr rfl, rfl, Or.inl rfl, Or.inl ⟨rfl, rfl, rfl⟩, Nat.zero_le _, fun h => by cases h⟩, rfl, rfl, Qib (n := n) (cs := cur.toList) (by simpa using hgc) (by rw [Nat.mul_one] at htk; rw [htk, List.map_replicate]), fun j hj => absurd hj (Nat.not_lt_zero _), Or.inr hg0, Or.inl rfl⟩, hnc⟩, Qas hg⟩
theorem rn_s (m j : Nat) (hj : j < n) (ih : ∀ (ga : Option Addr) (gc : Nat) (hgn : ga = none → gc = 0) (x0 x1 : Nat) (aa : Act) (w : World) (S : Sy w0 [] [x0, x1] (rnS n (j + 1) ga gc) [(Qaa w0.heap.size 9 1 (.slice ga (j + 1) gc) (j + 1) (List.replicate (j + 1) (Value.string z32)))] aa w), post Try.prog (.rnd (m) (Qa_ rn1) :: rn1.k.tail) (bodyPost Try.prog Try.f18 fun e w' => ∃ d' : Dk, e = .returned (.tuple #[d'.v, .int .i64 0]) ∧ (Dev w0.heap.size w' d' (List.replicate n z32) [] ∧ d'.sl ≤ d'.sc) ∧ Below w0.heap.size w0 w') .normal aa w) (ga : Option Addr) (gc : Nat) (hgn : ga = none → gc = 0) (x0 x1 : Nat) (aa : Act) (w : World) (S : Sy w0 [] [x0, x1] (rnS n (j) ga gc) [(Qaa w0.heap.size 9 1 (.slice ga (j) gc) (j) (List.replicate (j) (Value.string z32)))] aa w) : post Try.prog (.rnd (m + 1) (Qa_ rn1) :: rn1.k.tail) (bodyPost Try.prog Try.f18 fun e w' => ∃ d' : Dk, e = .returned (.tuple #[d'.v, .int .i64 0]) ∧ (Dev w0.heap.size w' d' (List.replicate n z32) [] ∧ d'.sl ≤ d'.sc) ∧ Below w0.heap.size w0 w') .normal aa w := by
  have hIs : (Try.prog.info? 9).map (fun i => (i.zero, i.size, i.bytes)) = some (some (.string ByteArray.empty), 1, 16) := by kernel_rfl
  obtain ⟨iis, his1, his2, his3, his4⟩ : ∃ ii, Try.prog.info? 9 = some ii ∧ ii.zero = some (.string ByteArray.empty) ∧ ii.size = 1 ∧ ii.bytes = 16 := by
    cases hi : Try.prog.info? 9 with
    | none => rw [hi] at hIs; cases hIs
    | some i =>
      rw [hi] at hIs
      simp only [Option.map_some, Option.some.injEq, Prod.mk.injEq] at hIs
      exact ⟨i, rfl, hIs.1, hIs.2.1, hIs.2.2⟩
  refine Qaw (c := ⟨(.rnd (m + 1) (Qa_ rn1) :: rn1.k.tail), rnS n j ga gc⟩) 5 50 3 S fun bs aa w S => ?_
  refine Qad 16 S (decide_eq_true (by omega) : decide ((j : Int) < (n : Int)) = true) fun S => ?_
  refine Qah S fun bs aa w S => ?_
  refine QaF [] (by kernel_rfl) (by kernel_rfl) S (by kernel_rfl) (fun aa w D => ?_)
  refine Qac [1, 2] (by kernel_rfl) (by kernel_rfl) rfl (na2 ?_ ?_)
  · refine Qbg 1 D (by kernel_rfl) (Nat.le_refl _) (by kernel_rfl) (by kernel_rfl) fun bs aa w D hl => ?_
    refine Qac [2] (by kernel_rfl) (by kernel_rfl) rfl (na1 ?_)
    · refine Qc4 2 D (by kernel_rfl) (QfP w) (by kernel_rfl) fun aa w D => ?_
      refine Qac [3] (by kernel_rfl) (by kernel_rfl) rfl (na1 ?_)
      · refine Qbg 3 D (by kernel_rfl) hl (by kernel_rfl) (by kernel_rfl) fun bs aa w D hl => ?_
        refine Qac [4] (by kernel_rfl) (by kernel_rfl) rfl (na1 ?_)
        · refine have hO0 := D.S.fact (f := (Qaa w0.heap.size 9 1 (.slice ga (j) gc) (j) (List.replicate (j) (Value.string z32)))) (by simp); have hap := (D.S.fs (Qaa w0.heap.size 9 1 (.slice ga (j) gc) (j) (List.replicate (j) (Value.string z32))) (by simp)).2; have hsz := D.S.gr.size; Qgh 4 w0.heap.size [] D (by kernel_rfl) (u := .v (.slice ga j gc)) (y := .s 2 0 1 1) (t := 27) (e := 9) (v := .slice ga j gc) (n := j) (ad := adr _ 2 0) (m := 1) (cp := 1) (size := 1) (bytes := 16) (xs := (List.replicate (j) (Value.string z32))) (news := [.string z32]) (by kernel_rfl) Try.underlying27 his1 his2 his3 his4 rfl (by omega) rfl rfl hO0 hsz (own2 (P := Try.prog) (ty := 9) (cs := [.string z32]) D.S (by kernel_rfl)) rfl (by intro u hu; simp only [List.mem_singleton] at hu; subst hu; rfl) (by simp only [maxLen]; omega) (by omega) (fun g hg => Or.inr (hO0.lt g hg).1) (fun f hf => by cases hf) (fun f hf => absurd hf List.not_mem_nil) (fun i hi hb => hap i hi hb) fun v' aa w2 hO hg12 hnn hlt D => ?_
          obtain ⟨ga2, gc2, hgn2, rfl⟩ : ∃ ga2 gc2, (ga2 = none → gc2 = 0) ∧ v' = .slice ga2 (j + 1) gc2 := by
            rcases hO.2 with ⟨_, q⟩ | ⟨g2, cap2, cur2, rfl, _⟩
            · omega
            · exact ⟨some ⟨g2, 0, none⟩, cap2, (fun h => by cases h), rfl⟩
          have D := D.addF (Qaa w0.heap.size 9 1 (.slice ga2 (j + 1) gc2) (j + 1) (List.replicate (j + 1) (Value.string z32))) (by show World.ownsRow _ _ _ _ _ _ _; rw [List.replicate_succ']; exact hO) (fun i hi hb => by rcases hnn _ hb with q | q; exact hap i hi q; have h1 := hlt i hi; omega)
          refine Qac [6] (by kernel_rfl) (by kernel_rfl) rfl (na1 ?_)
          · refine Qbg 6 D (by kernel_rfl) hl (by kernel_rfl) (by kernel_rfl) fun bs aa w D hl => ?_
            refine QaO D (by kernel_rfl) fun S => ?_
            refine Qaw 6 60 2 S fun bs aa w S => ?_
            refine QaK 18 S (by rw [IntKind.wrap_i64]; omega : IntKind.i64.wrap ((j : Int) + 1) = ((j + 1 : Nat) : Int)) fun S => ?_
            refine Qan ⟨0, [999]⟩ 50 S fun bs aa w S => ?_
            have S := S.sub (F' := [(Qaa w0.heap.size 9 1 (.slice ga2 (j + 1) gc2) (j + 1) (List.replicate (j + 1) (Value.string z32)))]) (by intro f hf; simp only [List.mem_singleton] at hf; subst hf; simp)
            have S2 := S.to [0, 1] (rnS n (j + 1) ga2 gc2) (by kernel_rfl) (by kernel_rfl) (by kernel_rfl) (by kernel_rfl) (by kernel_rfl)
            refine Qak (k' := (.rnd (m) (Qa_ rn1) :: rn1.k.tail)) (by kernel_rfl) ?_
            exact ih ga2 gc2 hgn2 _ _ aa w S2
  · refine Qc4 2 D (by kernel_rfl) (QfP w) (by kernel_rfl) fun aa w D => ?_
    refine Qac [1, 3] (by kernel_rfl) (by kernel_rfl) rfl (na2 ?_ ?_)
    · refine Qbg 1 D (by kernel_rfl) (Nat.le_refl _) (by kernel_rfl) (by kernel_rfl) fun bs aa w D hl => ?_
      refine Qac [3] (by kernel_rfl) (by kernel_rfl) rfl (na1 ?_)
      · refine Qbg 3 D (by kernel_rfl) hl (by kernel_rfl) (by kernel_rfl) fun bs aa w D hl => ?_
        refine Qac [4] (by kernel_rfl) (by kernel_rfl) rfl (na1 ?_)
        · refine have hO0 := D.S.fact (f := (Qaa w0.heap.size 9 1 (.slice ga (j) gc) (j) (List.replicate (j) (Value.string z32)))) (by simp); have hap := (D.S.fs (Qaa w0.heap.size 9 1 (.slice ga (j) gc) (j) (List.replicate (j) (Value.string z32))) (by simp)).2; have hsz := D.S.gr.size; Qgh 4 w0.heap.size [] D (by kernel_rfl) (u := .v (.slice ga j gc)) (y := .s 2 0 1 1) (t := 27) (e := 9) (v := .slice ga j gc) (n := j) (ad := adr _ 2 0) (m := 1) (cp := 1) (size := 1) (bytes := 16) (xs := (List.replicate (j) (Value.string z32))) (news := [.string z32]) (by kernel_rfl) Try.underlying27 his1 his2 his3 his4 rfl (by omega) rfl rfl hO0 hsz (own2 (P := Try.prog) (ty := 9) (cs := [.string z32]) D.S (by kernel_rfl)) rfl (by intro u hu; simp only [List.mem_singleton] at hu; subst hu; rfl) (by simp only [maxLen]; omega) (by omega) (fun g hg => Or.inr (hO0.lt g hg).1) (fun f hf => by cases hf) (fun f hf => absurd hf List.not_mem_nil) (fun i hi hb => hap i hi hb) fun v' aa w2 hO hg12 hnn hlt D => ?_
          obtain ⟨ga2, gc2, hgn2, rfl⟩ : ∃ ga2 gc2, (ga2 = none → gc2 = 0) ∧ v' = .slice ga2 (j + 1) gc2 := by
            rcases hO.2 with ⟨_, q⟩ | ⟨g2, cap2, cur2, rfl, _⟩
            · omega
            · exact ⟨some ⟨g2, 0, none⟩, cap2, (fun h => by cases h), rfl⟩
          have D := D.addF (Qaa w0.heap.size 9 1 (.slice ga2 (j + 1) gc2) (j + 1) (List.replicate (j + 1) (Value.string z32))) (by show World.ownsRow _ _ _ _ _ _ _; rw [List.replicate_succ']; exact hO) (fun i hi hb => by rcases hnn _ hb with q | q; exact hap i hi q; have h1 := hlt i hi; omega)
          refine Qac [6] (by kernel_rfl) (by kernel_rfl) rfl (na1 ?_)
          · refine Qbg 6 D (by kernel_rfl) hl (by kernel_rfl) (by kernel_rfl) fun bs aa w D hl => ?_
            refine QaO D (by kernel_rfl) fun S => ?_
            refine Qaw 6 60 2 S fun bs aa w S => ?_
            refine QaK 18 S (by rw [IntKind.wrap_i64]; omega : IntKind.i64.wrap ((j : Int) + 1) = ((j + 1 : Nat) : Int)) fun S => ?_
            refine Qan ⟨0, [999]⟩ 50 S fun bs aa w S => ?_
            have S := S.sub (F' := [(Qaa w0.heap.size 9 1 (.slice ga2 (j + 1) gc2) (j + 1) (List.replicate (j + 1) (Value.string z32)))]) (by intro f hf; simp only [List.mem_singleton] at hf; subst hf; simp)
            have S2 := S.to [0, 1] (rnS n (j + 1) ga2 gc2) (by kernel_rfl) (by kernel_rfl) (by kernel_rfl) (by kernel_rfl) (by kernel_rfl)
            refine Qak (k' := (.rnd (m) (Qa_ rn1) :: rn1.k.tail)) (by kernel_rfl) ?_
            exact ih ga2 gc2 hgn2 _ _ aa w S2
    · refine Qbg 3 D (by kernel_rfl) (Nat.le_refl _) (by kernel_rfl) (by kernel_rfl) fun bs aa w D hl => ?_
      refine Qac [1] (by kernel_rfl) (by kernel_rfl) rfl (na1 ?_)
      · refine Qbg 1 D (by kernel_rfl) hl (by kernel_rfl) (by kernel_rfl) fun bs aa w D hl => ?_
        refine Qac [4] (by kernel_rfl) (by kernel_rfl) rfl (na1 ?_)
        · refine have hO0 := D.S.fact (f := (Qaa w0.heap.size 9 1 (.slice ga (j) gc) (j) (List.replicate (j) (Value.string z32)))) (by simp); have hap := (D.S.fs (Qaa w0.heap.size 9 1 (.slice ga (j) gc) (j) (List.replicate (j) (Value.string z32))) (by simp)).2; have hsz := D.S.gr.size; Qgh 4 w0.heap.size [] D (by kernel_rfl) (u := .v (.slice ga j gc)) (y := .s 2 0 1 1) (t := 27) (e := 9) (v := .slice ga j gc) (n := j) (ad := adr _ 2 0) (m := 1) (cp := 1) (size := 1) (bytes := 16) (xs := (List.replicate (j) (Value.string z32))) (news := [.string z32]) (by kernel_rfl) Try.underlying27 his1 his2 his3 his4 rfl (by omega) rfl rfl hO0 hsz (own2 (P := Try.prog) (ty := 9) (cs := [.string z32]) D.S (by kernel_rfl)) rfl (by intro u hu; simp only [List.mem_singleton] at hu; subst hu; rfl) (by simp only [maxLen]; omega) (by omega) (fun g hg => Or.inr (hO0.lt g hg).1) (fun f hf => by cases hf) (fun f hf => absurd hf List.not_mem_nil) (fun i hi hb => hap i hi hb) fun v' aa w2 hO hg12 hnn hlt D => ?_
          obtain ⟨ga2, gc2, hgn2, rfl⟩ : ∃ ga2 gc2, (ga2 = none → gc2 = 0) ∧ v' = .slice ga2 (j + 1) gc2 := by
            rcases hO.2 with ⟨_, q⟩ | ⟨g2, cap2, cur2, rfl, _⟩
            · omega
            · exact ⟨some ⟨g2, 0, none⟩, cap2, (fun h => by cases h), rfl⟩
          have D := D.addF (Qaa w0.heap.size 9 1 (.slice ga2 (j + 1) gc2) (j + 1) (List.replicate (j + 1) (Value.string z32))) (by show World.ownsRow _ _ _ _ _ _ _; rw [List.replicate_succ']; exact hO) (fun i hi hb => by rcases hnn _ hb with q | q; exact hap i hi q; have h1 := hlt i hi; omega)
          refine Qac [6] (by kernel_rfl) (by kernel_rfl) rfl (na1 ?_)
          · refine Qbg 6 D (by kernel_rfl) hl (by kernel_rfl) (by kernel_rfl) fun bs aa w D hl => ?_
            refine QaO D (by kernel_rfl) fun S => ?_
            refine Qaw 6 60 2 S fun bs aa w S => ?_
            refine QaK 18 S (by rw [IntKind.wrap_i64]; omega : IntKind.i64.wrap ((j : Int) + 1) = ((j + 1 : Nat) : Int)) fun S => ?_
            refine Qan ⟨0, [999]⟩ 50 S fun bs aa w S => ?_
            have S := S.sub (F' := [(Qaa w0.heap.size 9 1 (.slice ga2 (j + 1) gc2) (j + 1) (List.replicate (j + 1) (Value.string z32)))]) (by intro f hf; simp only [List.mem_singleton] at hf; subst hf; simp)
            have S2 := S.to [0, 1] (rnS n (j + 1) ga2 gc2) (by kernel_rfl) (by kernel_rfl) (by kernel_rfl) (by kernel_rfl) (by kernel_rfl)
            refine Qak (k' := (.rnd (m) (Qa_ rn1) :: rn1.k.tail)) (by kernel_rfl) ?_
            exact ih ga2 gc2 hgn2 _ _ aa w S2
theorem rn_a : ∀ (r j : Nat), j + r = n → ∀ (ga : Option Addr) (gc : Nat) (hgn : ga = none → gc = 0) (x0 x1 : Nat) (aa : Act) (w : World) (S : Sy w0 [] [x0, x1] (rnS n (j) ga gc) [(Qaa w0.heap.size 9 1 (.slice ga (j) gc) (j) (List.replicate (j) (Value.string z32)))] aa w), post Try.prog (.rnd (r + 1) (Qa_ rn1) :: rn1.k.tail) (bodyPost Try.prog Try.f18 fun e w' => ∃ d' : Dk, e = .returned (.tuple #[d'.v, .int .i64 0]) ∧ (Dev w0.heap.size w' d' (List.replicate n z32) [] ∧ d'.sl ≤ d'.sc) ∧ Below w0.heap.size w0 w') .normal aa w := by
  intro r
  induction r with
  | zero => intro j hj ga gc hgn x0 x1 aa w S; obtain rfl : j = n := by omega
            exact rn_e w0 j hn 0 ga gc hgn x0 x1 aa w S
  | succ r ih => intro j hj ga gc hgn x0 x1 aa w S; exact rn_s w0 n hn (r + 1) j (by omega) (ih (j + 1) (by omega)) ga gc hgn x0 x1 aa w S
theorem rnew_c : Calls Try.prog 18 #[.int .i64 (n : Int)] w0 fun e w' => ∃ d' : Dk, e = .returned (.tuple #[d'.v, .int .i64 0]) ∧ (Dev w0.heap.size w' d' (List.replicate n z32) [] ∧ d'.sl ≤ d'.sc) ∧ Below w0.heap.size w0 w' := by
  refine Qat [] [] (by intro f hf; cases hf) Try.func18 rfl rfl fun aa S => ?_
  refine Qaw 1 60 2 S fun bs aa w S => ?_
  refine Qad 7 S (decide_eq_false (by omega) : decide ((n : Int) < 0) = false) fun S => ?_
  refine Qao 3 S fun bs aa w S => ?_
  refine Qad 10 S (decide_eq_false (by omega) : decide ((n : Int) > 512) = false) fun S => ?_
  refine Qah S fun bs aa w S => ?_
  have S := S.add (Qaa w0.heap.size 9 1 (.slice none (0) 0) (0) (List.replicate (0) (Value.string z32))) (World.ownsRow_nil _ _ _ _) (fun i hi h => by cases h)
  have S2 := S.to [0, 1] (rnS n 0 none 0) (by kernel_rfl) (by kernel_rfl) (by kernel_rfl) (by kernel_rfl) (by kernel_rfl)
  refine QaS (n + 1) (by kernel_rfl) ?_
  refine Qak (k' := (.rnd (n + 1) (Qa_ rn1) :: rn1.k.tail)) (by kernel_rfl) ?_
  exact rn_a w0 n hn n 0 (by omega) none 0 (fun _ => rfl) _ _ aa w S2
end
def tch (n : Nat) (l : List Nat) : List Bool := l.foldl (fun T c => T.set (c % n) true) (List.replicate n false)
structure PInv2 (n : Nat) (x : List ByteArray × List (Int × ByteArray) × List (Int × ByteArray)) : Prop where
  len : x.1.length = n
  sz : ∀ s ∈ x.1, s.size = 32
  w : ∀ y ∈ x.2.1, (0 ≤ y.1 ∧ y.1 < (n : Int)) ∧ y.2.size = 32
structure KI (w0 : World) (k : Nat) (S0 : List ByteArray) (l : List Nat) (i : Nat) (x : Dk) (tg : Nat) : Prop where
  ok : x.ok
  sl : x.sl = k + 1
  tc : x.tc ≤ 9223372036854775807
  eq : ∃ D, mput (k + 1) S0 (l.take i) = (x.S, x.W, D)
  tl : x.tl ≤ i
  ap : x.b ≠ tg ∧ (x.W.length = 0 ∨ x.c ≠ tg)
structure Dvv (h0 : Nat) (w : World) (d d' : Dk) (S : List ByteArray) (W : List (Int × ByteArray)) : Prop where
  g : d'.gen
  eS : d'.S = S
  eW : d'.W = W
  sA : StrAt w d'.b d'.o d'.S
  wA : WasAt w d'.c d'.p d'.W
  b0 : d'.S.length = 0 ∨ h0 ≤ d'.b ∨ (d'.b = d.b ∧ d.S.length ≠ 0)
  c0 : d'.W.length = 0 ∨ h0 ≤ d'.c ∨ (d'.c = d.c ∧ d.W.length ≠ 0)
theorem QiO (h0 : Nat) {w : World} {d : Dk} (hg : d.gen) (hA : StrAt w d.b d.o d.S) (hB : WasAt w d.c d.p d.W) : Dvv h0 w d d d.S d.W := ⟨hg, rfl, rfl, hA, hB, by by_cases h : d.S.length = 0; exact Or.inl h; exact Or.inr (Or.inr ⟨rfl, h⟩), by by_cases h : d.W.length = 0; exact Or.inl h; exact Or.inr (Or.inr ⟨rfl, h⟩)⟩
def QjC (d : Dk) (n : Int) (s : ByteArray) : Bool := decide (0 ≤ n ∧ n < (d.sl : Int)) && decide (s.size = 32)
def waS (d : Dk) (n : Int) (s : ByteArray) : List ByteArray := if QjC d n s then d.S.set n.toNat s else d.S
def waW (d : Dk) (n : Int) (s : ByteArray) : List (Int × ByteArray) := if QjC d n s then d.W ++ [(n, d.S.getD n.toNat ByteArray.empty)] else d.W
def waE (d : Dk) (n : Int) (s : ByteArray) : Int := if 0 ≤ n ∧ n < (d.sl : Int) then (if s.size = 32 then 0 else 1) else 8
theorem ints_has {w : World} {zs : List Int} {ma : Option Addr} {mc mb mo : Nat} (hz : zs.length ≤ 60) (hm : zs.length = 0 ∨ ma = some ⟨mb, mo, none⟩) (hI : Qb5 w mb mo zs) : QbV w (.slice ma zs.length mc) zs :=
  ⟨ma, mc, rfl, by omega, hm.imp id fun h => ⟨mb, mo, h, hI⟩⟩
structure Mv where
  a : Option Addr
  c : Nat
  b : Nat
  o : Nat
structure Mv.ok (q : Mv) (h0 : Nat) (w : World) (mb : Nat) (zs Z : List Int) : Prop where
  ha : Z.length = 0 ∨ q.a = some ⟨q.b, q.o, none⟩
  hI : Qb5 w q.b q.o Z
  h0 : Z.length = 0 ∨ h0 ≤ q.b ∨ (q.b = mb ∧ zs.length ≠ 0)
def dE (d : Dk) (k c o n : Int) (b : ByteArray) : Int := if k = 5 then (if o = 0 ∧ n = 0 then waE d c b else 1) else (if c = 0 ∧ o = 0 ∧ n = 0 ∧ b = ByteArray.empty then 0 else 1)
def dS (d : Dk) (k c o n : Int) (b : ByteArray) : List ByteArray := if k = 5 then (if o = 0 ∧ n = 0 then waS d c b else d.S) else d.S
def dW (d : Dk) (k c o n : Int) (b : ByteArray) : List (Int × ByteArray) := if k = 5 then (if o = 0 ∧ n = 0 then waW d c b else d.W) else (if c = 0 ∧ o = 0 ∧ n = 0 ∧ b = ByteArray.empty then [] else d.W)
theorem wa_err {d : Dk} {c : Int} {b : ByteArray} (h : waE d c b ≠ 0) : waS d c b = d.S ∧ waW d c b = d.W := by
  unfold waE at h
  have : QjC d c b = false := by
    unfold QjC
    by_cases h1 : 0 ≤ c ∧ c < (d.sl : Int)
    · rw [if_pos h1] at h
      by_cases h2 : b.size = 32
      · rw [if_pos h2] at h; exact absurd rfl h
      · rw [decide_eq_false h2, Bool.and_false]
    · rw [decide_eq_false h1, Bool.false_and]
  unfold waS waW
  rw [this]
  exact ⟨rfl, rfl⟩
theorem dE_err {d : Dk} {k c o n : Int} {b : ByteArray} (h : dE d k c o n b ≠ 0) : dS d k c o n b = d.S ∧ dW d k c o n b = d.W := by
  unfold dE at h
  unfold dS dW
  by_cases h5 : k = 5
  · rw [if_pos h5] at h ⊢
    rw [if_pos h5]
    by_cases h0 : o = 0 ∧ n = 0
    · rw [if_pos h0] at h ⊢
      rw [if_pos h0]
      exact wa_err h
    · rw [if_neg h0, if_neg h0]; exact ⟨rfl, rfl⟩
  · rw [if_neg h5] at h ⊢
    rw [if_neg h5]
    by_cases h0 : c = 0 ∧ o = 0 ∧ n = 0 ∧ b = ByteArray.empty
    · rw [if_pos h0] at h; exact absurd rfl h
    · rw [if_neg h0]; exact ⟨rfl, rfl⟩
theorem QlX : Try.prog.eqGuardType Try.prog.depth 66 = false := by kernel_rfl
theorem ex_neA {s : SS} {bs : List Nat} {x y : Operand} {ty : TypeId} {u v : Array Value} {bv : Bool} (hx : s.val x = some (.v (.agg u))) (hy : s.val y = some (.v (.agg v))) (hr : ∀ W, (binOp .neq 66 (.agg u) (.agg v)).run Try.prog W = .ok (.bool bv) W) :
    ∀ (o : Oper) (ρ : Operand → Value) (W : World), o.op = .binOp .neq 66 x y 66 → o.type = ty → (∀ x y, s.val x = some y → ρ x = den bs y) → (execOp ρ o).run Try.prog W = .ok (.value (.bool bv)) W := by
  intro o ρ W h1 h2 h3
  have e1 : ρ x = .agg u := h3 x _ hx
  have e2 : ρ y = .agg v := h3 y _ hy
  have hg : ∀ W, (eqGuard .neq 66 x y (.agg u) (.agg v)).run Try.prog W = .ok () W := fun W => run_eqGuard_agg W .neq 66 x y _ _ QlX
  unfold execOp
  simp only [h1, e1, e2, hg, hr, Sem.run_bind, Sem.run_pure, Result.andThen_ok]
theorem QjA : Try.prog.underlying 66 = some (.struct (Try.prog.fieldsOf 66)) := by kernel_rfl
theorem acc_held : Try.prog.stoodInHeld 66 = false := by kernel_rfl
theorem QlW (c o n : Int) (b : ByteArray) (w : World) : (binOp .neq 66 (.agg #[.int .i64 6, .int .i64 c, .int .i64 o, .int .i64 n, .string b]) (.agg #[.int .i64 6, .int .i64 0, .int .i64 0, .int .i64 0, .string ByteArray.empty])).run Try.prog w = .ok (.bool (!decide (c = 0 ∧ o = 0 ∧ n = 0 ∧ b = ByteArray.empty))) w := by
  rw [run_neq_struct, show (10000 : Nat) = 9999 + 1 from rfl, run_equalIn_agg w 9999 66 _ _ QjA acc_held]
  have u3 := Try.underlying3
  have a3 := Try.isAgg3
  have z3 := Try.sizeOf3
  have u4 := Try.underlying9
  have a4 := Try.isAgg9
  have z4 := Try.sizeOf9
  simp only [Program.fieldsOf, Try.underlying66]
  go_simp
  have e := tl_eq b ByteArray.empty
  by_cases h1 : c = 0 <;> by_cases h2 : o = 0 <;> by_cases h3 : n = 0 <;> by_cases h4 : b = ByteArray.empty <;> simp_all
structure Dvc (h0 : Nat) (w : World) (d d' : Dk) (S : List ByteArray) (W : List (Int × ByteArray)) : Prop where
  g : d'.gen
  eS : d'.S = S
  eW : d'.W = W
  sA : StrAt w d'.b d'.o d'.S
  wA : WasAt w d'.c d'.p d'.W
  b0 : d'.S.length = 0 ∨ h0 ≤ d'.b ∨ (d'.b = d.b ∧ d.S.length ≠ 0)
  c0 : d'.W.length = 0 ∨ h0 ≤ d'.c ∨ (d'.c = d.c ∧ d.W.length ≠ 0)
  cp : d.sl ≤ d.sc → d'.sl ≤ d'.sc
theorem Qc6 (h0 : Nat) {w : World} {d : Dk} (hg : d.gen) (hA : StrAt w d.b d.o d.S) (hB : WasAt w d.c d.p d.W) : Dvc h0 w d d d.S d.W := ⟨hg, rfl, rfl, hA, hB, (QiO h0 hg hA hB).b0, (QiO h0 hg hA hB).c0, id⟩
theorem Dvc.re {h0 h1 : Nat} {w1 w : World} {d x : Dk} {S : List ByteArray} {W : List (Int × ByteArray)} (h : Dvc h1 w1 d x S W) (hle : h0 ≤ h1) (sA : StrAt w x.b x.o x.S) (wA : WasAt w x.c x.p x.W) : Dvc h0 w d x S W :=
  ⟨h.g, h.eS, h.eW, sA, wA, h.b0.imp id (Or.imp (fun q => Nat.le_trans hle q) id), h.c0.imp id (Or.imp (fun q => Nat.le_trans hle q) id), h.cp⟩
theorem pwrite_c (d : Dk) (hd : d.ok) (hg : d.gen) (htl : d.tl ≤ 60) (n : Int) (s : ByteArray) (w0 : World) (hA : StrAt w0 d.b d.o d.S) (hB : WasAt w0 d.c d.p d.W) : Calls Try.prog 61 #[d.v, .int .i64 n, .string s] w0 fun e w' => ∃ d' : Dk, e = .returned (.tuple #[d'.v, .int .i64 (waE d n s)]) ∧ Dvc w0.heap.size w' d d' (waS d n s) (waW d n s) ∧ Below w0.heap.size w0 w' := by
  by_cases hn : 0 ≤ n ∧ n < (d.sl : Int)
  · by_cases hs : s.size = 32
    · have e1 : QjC d n s = true := by unfold QjC; rw [decide_eq_true hn, decide_eq_true hs]; rfl
      unfold waS waW waE
      rw [if_pos e1, if_pos e1, if_pos hn, if_pos hs]
      have h := write_c w0 d hd n.toNat (by omega) s hs hg.hc (by omega) hA hB
      rw [Int.toNat_of_nonneg hn.1] at h
      exact h.mono fun e w' ⟨d', q1, q2, q3, q4, q5, q6, q7, q8, q9, q10⟩ => ⟨d', q1, ⟨⟨q2.hS, q2.hs, q2.hW, q2.hw, q2.hw2.elim Or.inl (fun q => Or.inr q.2), q6, fun h0 => absurd h0 (by rw [q2.hs.resolve_left (by omega)]; simp)⟩, q4, q5, q8, q9, Or.inr (Or.inl q7.1), Or.inr (Or.inl q7.2), fun _ => q3.2⟩, q10⟩
    · have e1 : ¬ QjC d n s = true := by unfold QjC; rw [decide_eq_false hs]; simp
      unfold waS waW waE
      rw [if_neg e1, if_neg e1, if_pos hn, if_neg hs]
      exact (QjO d n hn s hs w0).mono fun e w' h => ⟨d, h.1, Qc6 _ hg (hA.keep h.2) (hB.keep h.2), h.2⟩
  · have e1 : ¬ QjC d n s = true := by unfold QjC; rw [decide_eq_false hn]; simp
    unfold waS waW waE
    rw [if_neg e1, if_neg e1, if_neg hn]
    exact (QjP d n hn s w0).mono fun e w' h => ⟨d, h.1, Qc6 _ hg (hA.keep h.2) (hB.keep h.2), h.2⟩
section
variable (w0 : World) (d : Dk) (hd : d.ok) (hg : d.gen) (htl : d.tl ≤ 60) (hA : StrAt w0 d.b d.o d.S) (hB : WasAt w0 d.c d.p d.W)
include w0 d hd hg htl hA hB
theorem pd1_c (c o n : Int) (b : ByteArray) : Calls Try.prog 60 #[d.v, .agg #[.int .i64 5, .int .i64 c, .int .i64 o, .int .i64 n, .string b]] w0 fun e w' => ∃ x : Dk, e = .returned (.tuple #[x.v, .int .i64 (dE d 5 c o n b)]) ∧ Dvc w0.heap.size w' d x (dS d 5 c o n b) (dW d 5 c o n b) ∧ Below w0.heap.size w0 w' := by
  refine Qat [] [Qav d.b d.o d.S, QaU d.c d.p d.W] (by intro f hf; simp only [List.mem_cons, List.not_mem_nil, or_false] at hf; rcases hf with rfl | rfl; exact hA; exact hB) Try.func60 rfl rfl fun aa S => ?_
  refine Qaw 1 60 3 S fun bs aa w S => ?_
  by_cases ho : o = 0
  case neg =>
    have hE : dE d 5 c o n b = 1 := by unfold dE; rw [if_pos rfl, if_neg (fun h => ho h.1)]
    have hS' : dS d 5 c o n b = d.S := by unfold dS; rw [if_pos rfl, if_neg (fun h => ho h.1)]
    have hW' : dW d 5 c o n b = d.W := by unfold dW; rw [if_pos rfl, if_neg (fun h => ho h.1)]
    refine Qad 8 S (by simp [ho] : (!decide (o = 0)) = true) fun S => ?_
    refine Qah S fun bs aa w S => ?_
    exact Qap S (by kernel_rfl) (by kernel_rfl) fun hg' => ⟨d, by rw [hE], by rw [hS', hW']; exact Qc6 _ hg (S.fact (f := Qav d.b d.o d.S) (by simp)) (S.fact (f := QaU d.c d.p d.W) (by simp)), Qas hg'⟩
  refine Qad 8 S (by simp [ho] : (!decide (o = 0)) = false) fun S => ?_
  refine Qao 4 S fun bs aa w S => ?_
  by_cases hn : n = 0
  case neg =>
    have hE : dE d 5 c o n b = 1 := by unfold dE; rw [if_pos rfl, if_neg (fun h => hn h.2)]
    have hS' : dS d 5 c o n b = d.S := by unfold dS; rw [if_pos rfl, if_neg (fun h => hn h.2)]
    have hW' : dW d 5 c o n b = d.W := by unfold dW; rw [if_pos rfl, if_neg (fun h => hn h.2)]
    refine Qad 12 S (by simp [hn] : (!decide (n = 0)) = true) fun S => ?_
    refine Qah S fun bs aa w S => ?_
    exact Qap S (by kernel_rfl) (by kernel_rfl) fun hg' => ⟨d, by rw [hE], by rw [hS', hW']; exact Qc6 _ hg (S.fact (f := Qav d.b d.o d.S) (by simp)) (S.fact (f := QaU d.c d.p d.W) (by simp)), Qas hg'⟩
  refine Qad 12 S (by simp [hn] : (!decide (n = 0)) = false) fun S => ?_
  have hE : dE d 5 c o n b = waE d c b := by unfold dE; rw [if_pos rfl, if_pos ⟨ho, hn⟩]
  have hS' : dS d 5 c o n b = waS d c b := by unfold dS; rw [if_pos rfl, if_pos ⟨ho, hn⟩]
  have hW' : dW d 5 c o n b = waW d c b := by unfold dW; rw [if_pos rfl, if_pos ⟨ho, hn⟩]
  rw [hE, hS', hW']
  have HM := fun w (hA : StrAt w d.b d.o d.S) (hB : WasAt w d.c d.p d.W) => pwrite_c d hd hg htl c b w hA hB
  generalize waE d c b = E at *
  generalize waS d c b = S1 at *
  generalize waW d c b = W1 at *
  refine Qaw 3 60 5 S fun bs aa w S => ?_
  have hdS := (S.fs (Qav d.b d.o d.S) (by simp)).2
  have hdW := (S.fs (QaU d.c d.p d.W) (by simp)).2
  have hlt3 := fun j hj => S.lt (i := j) hj
  have hwl := S.gr.size
  refine Qa7 S (X := Dk) (val := fun q => .tuple #[q.v, .int .i64 E]) (C := fun q w' => Dvc w.heap.size w' d q S1 W1) (f := 61) (args := #[d.v, .int .i64 c, .string b]) (HM w (S.fact (f := Qav d.b d.o d.S) (by simp)) (S.fact (f := QaU d.c d.p d.W) (by simp))) (by kernel_rfl) fun x aa w1 hx hb S => ?_
  have S := (S.add (Qav x.b x.o x.S) hx.sA (fun j hj hb => by have q1 := hlt3 j hj; obtain ⟨q2, q3⟩ := hb; rcases hx.b0 with q4 | q4 | ⟨q4, q5⟩; exact q3 q4; omega; exact hdS j hj ⟨q2.trans q4, q5⟩)).add (QaU x.c x.p x.W) hx.wA (fun j hj hb => by have q1 := hlt3 j hj; obtain ⟨q2, q3⟩ := hb; rcases hx.c0 with q4 | q4 | ⟨q4, q5⟩; exact q3 q4; omega; exact hdW j hj ⟨q2.trans q4, q5⟩)
  refine Qah S fun bs aa w S => ?_
  exact Qap S (by kernel_rfl) (by kernel_rfl) fun hg' => ⟨x, rfl, hx.re hwl (S.fact (f := Qav x.b x.o x.S) (by simp)) (S.fact (f := QaU x.c x.p x.W) (by simp)), Qas hg'⟩
theorem pd2_c (c o n : Int) (b : ByteArray) : Calls Try.prog 62 #[d.v, .agg #[.int .i64 6, .int .i64 c, .int .i64 o, .int .i64 n, .string b]] w0 fun e w' => ∃ x : Dk, e = .returned (.tuple #[x.v, .int .i64 (dE d 6 c o n b)]) ∧ Dvc w0.heap.size w' d x (dS d 6 c o n b) (dW d 6 c o n b) ∧ Below w0.heap.size w0 w' := by
  refine Qat [] [Qav d.b d.o d.S, QaU d.c d.p d.W] (by intro f hf; simp only [List.mem_cons, List.not_mem_nil, or_false] at hf; rcases hf with rfl | rfl; exact hA; exact hB) Try.func62 rfl rfl fun aa S => ?_
  refine Qaw 1 60 2 S fun bs aa w S => ?_
  by_cases h0 : c = 0 ∧ o = 0 ∧ n = 0 ∧ b = ByteArray.empty
  case neg =>
    have hE : dE d 6 c o n b = 1 := by unfold dE; rw [if_neg (by decide), if_neg h0]
    have hS' : dS d 6 c o n b = d.S := by unfold dS; rw [if_neg (by decide)]
    have hW' : dW d 6 c o n b = d.W := by unfold dW; rw [if_neg (by decide), if_neg h0]
    refine QcX (op := .binOp .neq 66 (.tmp 6) (.tmp 7) 66) (ty := 4) (v := .bool true) S (by kernel_rfl) (ex_neA (bv := true) (by kernel_rfl) (by kernel_rfl) (fun W => by rw [QlW, decide_eq_false h0]; rfl)) fun aa S => ?_
    refine Qah S fun bs aa w S => ?_
    exact Qap S (by kernel_rfl) (by kernel_rfl) fun hg' => ⟨d, by rw [hE], by rw [hS', hW']; exact Qc6 _ hg (S.fact (f := Qav d.b d.o d.S) (by simp)) (S.fact (f := QaU d.c d.p d.W) (by simp)), Qas hg'⟩
  have hE : dE d 6 c o n b = 0 := by unfold dE; rw [if_neg (by decide), if_pos h0]
  have hS' : dS d 6 c o n b = d.S := by unfold dS; rw [if_neg (by decide)]
  have hW' : dW d 6 c o n b = [] := by unfold dW; rw [if_neg (by decide), if_pos h0]
  refine QcX (op := .binOp .neq 66 (.tmp 6) (.tmp 7) 66) (ty := 4) (v := .bool false) S (by kernel_rfl) (ex_neA (bv := false) (by kernel_rfl) (by kernel_rfl) (fun W => by rw [QlW, decide_eq_true h0]; rfl)) fun aa S => ?_
  rw [hE, hS', hW']
  refine Qaw 3 60 1 S fun bs aa w S => ?_
  refine QaE S (sync_t d w) (by kernel_rfl) fun aa w hb S => ?_
  refine Qah S fun bs aa w S => ?_
  refine Qap S (by kernel_rfl) (by kernel_rfl) fun hg' => ⟨⟨d.sa, d.sl, d.sc, none, 0, 0, d.b, d.o, 0, 0, d.S, []⟩, rfl, ⟨⟨hg.hS, hg.hs, rfl, Or.inl rfl, Or.inl ⟨rfl, rfl, rfl⟩, Nat.zero_le _, hg.hsn⟩, rfl, rfl, (S.fact (f := Qav d.b d.o d.S) (by simp)), fun j hj => absurd hj (Nat.not_lt_zero _), ?_, Or.inl rfl, id⟩, Qas hg'⟩
  by_cases h : d.S.length = 0
  · exact Or.inl h
  · exact Or.inr (Or.inr ⟨rfl, h⟩)
section
variable (zs : List Int) (ma : Option Addr) (mc mb mo : Nat) (hz : zs.length ≤ 60) (hm : zs.length = 0 ∨ ma = some ⟨mb, mo, none⟩) (hI : Qb5 w0 mb mo zs) (c o n : Int) (b : ByteArray)
include zs ma mc mb mo hz hm hI c o n b
theorem pdo_c5 : Calls Try.prog 21 #[.agg #[.slice ma zs.length mc], d.v, .agg #[.int .i64 5, .int .i64 c, .int .i64 o, .int .i64 n, .string b]] w0 fun e w' => ∃ x : Dk, e = .returned (.tuple #[.agg #[.slice ma zs.length mc], x.v, .agg #[.int .i64 0, .bool (decide (dE d 5 c o n b = 0))], .int .i64 (dE d 5 c o n b)]) ∧ Dvc w0.heap.size w' d x (dS d 5 c o n b) (dW d 5 c o n b) ∧ Qb5 w' mb mo zs ∧ Below w0.heap.size w0 w' := by
  have HM := fun w (hA : StrAt w d.b d.o d.S) (hB : WasAt w d.c d.p d.W) => pd1_c w d hd hg htl hA hB c o n b
  have HE := @dE_err d 5 c o n b
  generalize dE d 5 c o n b = E at *
  generalize dS d 5 c o n b = S1 at *
  generalize dW d 5 c o n b = W1 at *
  refine Qat [] [Qav d.b d.o d.S, QaU d.c d.p d.W, Qbw mb mo zs] (by intro f hf; simp only [List.mem_cons, List.not_mem_nil, or_false] at hf; rcases hf with rfl | rfl | rfl; exact hA; exact hB; exact hI) Try.func21 rfl rfl fun aa S => ?_
  refine Qan ⟨0, [1]⟩ 60 S fun bs aa w S => ?_
  refine QaF [2] (by kernel_rfl) (by kernel_rfl) S (by kernel_rfl) (fun aa w D => ?_)
  refine QhP 0 D (by kernel_rfl) (by kernel_rfl) (by kernel_rfl) (X := Nat) (val := fun g => .map (some g)) (C := fun g w' => Qi1 w' g) (f := 41) (args := #[]) ((Qg3 w).mono fun e w' ⟨g, h1, h2, _, h4⟩ => ⟨g, h1, h2, h4⟩) (by kernel_rfl) fun g aa w hgm hb D => ?_
  refine Qac [3] (by kernel_rfl) (by kernel_rfl) rfl (na1 ?_)
  refine QdD 3 (op := .lookup TM (.tmp 18) (.tmp 20) true) (ty := 90) (C := fun v w' => v = .tuple #[.func (.func 60) #[] #[], .bool true]) D (by kernel_rfl) (by kernel_rfl) (fun oo ρ h1 h2 h3 => ⟨.tuple #[.func (.func 60) #[] #[], .bool true], w, by
    have e1 : ρ (.tmp 18) = .map (some g) := h3 _ (.v (.map (some g))) (by kernel_rfl)
    have e2 : ρ (.tmp 20) = .int .i64 5 := h3 _ (.v (.int .i64 5)) (by kernel_rfl)
    unfold execOp
    simp only [h1, e1, e2, Sem.run_bind, look_t w g 5 hgm, Result.andThen_ok, Sem.run_pure, (show devF 5 = .tuple #[.func (.func 60) #[] #[], .bool true] from rfl)], rfl, Below.refl _ _⟩) fun v aa w' hv hb2 _ D => ?_
  subst hv
  refine QaO D (by kernel_rfl) fun S => ?_
  refine Qaw 5 60 3 S fun bs aa w S => ?_
  have hdS := (S.fs (Qav d.b d.o d.S) (by simp)).2
  have hdW := (S.fs (QaU d.c d.p d.W) (by simp)).2
  have hlt5 := fun j hj => S.lt (i := j) hj
  have hwl := S.gr.size
  refine Qa7 S (X := Dk) (val := fun q => .tuple #[q.v, .int .i64 E]) (C := fun q w' => Dvc w.heap.size w' d q S1 W1) (f := 60) (args := #[d.v, .agg #[.int .i64 5, .int .i64 c, .int .i64 o, .int .i64 n, .string b]]) (HM w (S.fact (f := Qav d.b d.o d.S) (by simp)) (S.fact (f := QaU d.c d.p d.W) (by simp))) (by kernel_rfl) fun x aa w1 hx hb S => ?_
  have S := (S.add (Qav x.b x.o x.S) hx.sA (fun j hj hb => by have q1 := hlt5 j hj; obtain ⟨q2, q3⟩ := hb; rcases hx.b0 with q4 | q4 | ⟨q4, q5⟩; exact q3 q4; omega; exact hdS j hj ⟨q2.trans q4, q5⟩)).add (QaU x.c x.p x.W) hx.wA (fun j hj hb => by have q1 := hlt5 j hj; obtain ⟨q2, q3⟩ := hb; rcases hx.c0 with q4 | q4 | ⟨q4, q5⟩; exact q3 q4; omega; exact hdW j hj ⟨q2.trans q4, q5⟩)
  refine Qaw 6 60 2 S fun bs aa w S => ?_
  by_cases hE : E = 0
  case neg =>
    obtain ⟨e1, e2⟩ := HE hE
    refine Qad 45 S (by simp [hE] : (!decide (E = 0)) = true) fun S => ?_
    refine Qah S fun bs aa w S => ?_
    refine QaF [0, 1] (by kernel_rfl) (by kernel_rfl) S (by kernel_rfl) (fun aa w D => ?_)
    refine QeH 4 D (by kernel_rfl) (by kernel_rfl) (by kernel_rfl) (Nat.le_refl _) (by kernel_rfl) (by kernel_rfl) fun bs4 aa w D hl => ?_
    refine QeH 5 D (by kernel_rfl) (by kernel_rfl) (by kernel_rfl) hl (by kernel_rfl) (by kernel_rfl) fun bs5 aa w D hl => ?_
    refine QeH 6 D (by kernel_rfl) (by kernel_rfl) (by kernel_rfl) hl (by kernel_rfl) (by kernel_rfl) fun bs6 aa w D hl => ?_
    refine QaO D (by kernel_rfl) fun S => ?_
    refine Qah S fun bs aa w S => ?_
    exact Qap S (by kernel_rfl) (by kernel_rfl) fun hg' => ⟨d, by rw [decide_eq_false hE], by rw [e1, e2]; exact Qc6 _ hg (S.fact (f := Qav d.b d.o d.S) (by simp)) (S.fact (f := QaU d.c d.p d.W) (by simp)), (S.fact (f := Qbw mb mo zs) (by simp)), Qas hg'⟩
  refine Qad 45 S (by simp [hE] : (!decide (E = 0)) = false) fun S => ?_
  refine Qah S fun bs aa w S => ?_
  refine QaF [0, 6] (by kernel_rfl) (by kernel_rfl) S (by kernel_rfl) (fun aa w D => ?_)
  refine QeH 3 D (by kernel_rfl) (by kernel_rfl) (by kernel_rfl) (Nat.le_refl _) (by kernel_rfl) (by kernel_rfl) fun bs3 aa w D hl => ?_
  refine QeH 4 D (by kernel_rfl) (by kernel_rfl) (by kernel_rfl) hl (by kernel_rfl) (by kernel_rfl) fun bs4 aa w D hl => ?_
  refine QeH 5 D (by kernel_rfl) (by kernel_rfl) (by kernel_rfl) hl (by kernel_rfl) (by kernel_rfl) fun bs5 aa w D hl => ?_
  refine QaO D (by kernel_rfl) fun S => ?_
  refine Qah S fun bs aa w S => ?_
  exact Qap S (by kernel_rfl) (by kernel_rfl) fun hg' => ⟨x, by rw [hE], hx.re hwl (S.fact (f := Qav x.b x.o x.S) (by simp)) (S.fact (f := QaU x.c x.p x.W) (by simp)), (S.fact (f := Qbw mb mo zs) (by simp)), Qas hg'⟩
theorem pdo_c6 : Calls Try.prog 21 #[.agg #[.slice ma zs.length mc], d.v, .agg #[.int .i64 6, .int .i64 c, .int .i64 o, .int .i64 n, .string b]] w0 fun e w' => ∃ x : Dk, e = .returned (.tuple #[.agg #[.slice ma zs.length mc], x.v, .agg #[.int .i64 0, .bool (decide (dE d 6 c o n b = 0))], .int .i64 (dE d 6 c o n b)]) ∧ Dvc w0.heap.size w' d x (dS d 6 c o n b) (dW d 6 c o n b) ∧ Qb5 w' mb mo zs ∧ Below w0.heap.size w0 w' := by
  have HM := fun w (hA : StrAt w d.b d.o d.S) (hB : WasAt w d.c d.p d.W) => pd2_c w d hd hg htl hA hB c o n b
  have HE := @dE_err d 6 c o n b
  generalize dE d 6 c o n b = E at *
  generalize dS d 6 c o n b = S1 at *
  generalize dW d 6 c o n b = W1 at *
  refine Qat [] [Qav d.b d.o d.S, QaU d.c d.p d.W, Qbw mb mo zs] (by intro f hf; simp only [List.mem_cons, List.not_mem_nil, or_false] at hf; rcases hf with rfl | rfl | rfl; exact hA; exact hB; exact hI) Try.func21 rfl rfl fun aa S => ?_
  refine Qan ⟨0, [1]⟩ 60 S fun bs aa w S => ?_
  refine QaF [2] (by kernel_rfl) (by kernel_rfl) S (by kernel_rfl) (fun aa w D => ?_)
  refine QhP 0 D (by kernel_rfl) (by kernel_rfl) (by kernel_rfl) (X := Nat) (val := fun g => .map (some g)) (C := fun g w' => Qi1 w' g) (f := 41) (args := #[]) ((Qg3 w).mono fun e w' ⟨g, h1, h2, _, h4⟩ => ⟨g, h1, h2, h4⟩) (by kernel_rfl) fun g aa w hgm hb D => ?_
  refine Qac [3] (by kernel_rfl) (by kernel_rfl) rfl (na1 ?_)
  refine QdD 3 (op := .lookup TM (.tmp 18) (.tmp 20) true) (ty := 90) (C := fun v w' => v = .tuple #[.func (.func 62) #[] #[], .bool true]) D (by kernel_rfl) (by kernel_rfl) (fun oo ρ h1 h2 h3 => ⟨.tuple #[.func (.func 62) #[] #[], .bool true], w, by
    have e1 : ρ (.tmp 18) = .map (some g) := h3 _ (.v (.map (some g))) (by kernel_rfl)
    have e2 : ρ (.tmp 20) = .int .i64 6 := h3 _ (.v (.int .i64 6)) (by kernel_rfl)
    unfold execOp
    simp only [h1, e1, e2, Sem.run_bind, look_t w g 6 hgm, Result.andThen_ok, Sem.run_pure, (show devF 6 = .tuple #[.func (.func 62) #[] #[], .bool true] from rfl)], rfl, Below.refl _ _⟩) fun v aa w' hv hb2 _ D => ?_
  subst hv
  refine QaO D (by kernel_rfl) fun S => ?_
  refine Qaw 5 60 3 S fun bs aa w S => ?_
  have hdS := (S.fs (Qav d.b d.o d.S) (by simp)).2
  have hdW := (S.fs (QaU d.c d.p d.W) (by simp)).2
  have hlt5 := fun j hj => S.lt (i := j) hj
  have hwl := S.gr.size
  refine Qa7 S (X := Dk) (val := fun q => .tuple #[q.v, .int .i64 E]) (C := fun q w' => Dvc w.heap.size w' d q S1 W1) (f := 62) (args := #[d.v, .agg #[.int .i64 6, .int .i64 c, .int .i64 o, .int .i64 n, .string b]]) (HM w (S.fact (f := Qav d.b d.o d.S) (by simp)) (S.fact (f := QaU d.c d.p d.W) (by simp))) (by kernel_rfl) fun x aa w1 hx hb S => ?_
  have S := (S.add (Qav x.b x.o x.S) hx.sA (fun j hj hb => by have q1 := hlt5 j hj; obtain ⟨q2, q3⟩ := hb; rcases hx.b0 with q4 | q4 | ⟨q4, q5⟩; exact q3 q4; omega; exact hdS j hj ⟨q2.trans q4, q5⟩)).add (QaU x.c x.p x.W) hx.wA (fun j hj hb => by have q1 := hlt5 j hj; obtain ⟨q2, q3⟩ := hb; rcases hx.c0 with q4 | q4 | ⟨q4, q5⟩; exact q3 q4; omega; exact hdW j hj ⟨q2.trans q4, q5⟩)
  refine Qaw 6 60 2 S fun bs aa w S => ?_
  by_cases hE : E = 0
  case neg =>
    obtain ⟨e1, e2⟩ := HE hE
    refine Qad 45 S (by simp [hE] : (!decide (E = 0)) = true) fun S => ?_
    refine Qah S fun bs aa w S => ?_
    refine QaF [0, 1] (by kernel_rfl) (by kernel_rfl) S (by kernel_rfl) (fun aa w D => ?_)
    refine QeH 4 D (by kernel_rfl) (by kernel_rfl) (by kernel_rfl) (Nat.le_refl _) (by kernel_rfl) (by kernel_rfl) fun bs4 aa w D hl => ?_
    refine QeH 5 D (by kernel_rfl) (by kernel_rfl) (by kernel_rfl) hl (by kernel_rfl) (by kernel_rfl) fun bs5 aa w D hl => ?_
    refine QeH 6 D (by kernel_rfl) (by kernel_rfl) (by kernel_rfl) hl (by kernel_rfl) (by kernel_rfl) fun bs6 aa w D hl => ?_
    refine QaO D (by kernel_rfl) fun S => ?_
    refine Qah S fun bs aa w S => ?_
    exact Qap S (by kernel_rfl) (by kernel_rfl) fun hg' => ⟨d, by rw [decide_eq_false hE], by rw [e1, e2]; exact Qc6 _ hg (S.fact (f := Qav d.b d.o d.S) (by simp)) (S.fact (f := QaU d.c d.p d.W) (by simp)), (S.fact (f := Qbw mb mo zs) (by simp)), Qas hg'⟩
  refine Qad 45 S (by simp [hE] : (!decide (E = 0)) = false) fun S => ?_
  refine Qah S fun bs aa w S => ?_
  refine QaF [0, 6] (by kernel_rfl) (by kernel_rfl) S (by kernel_rfl) (fun aa w D => ?_)
  refine QeH 3 D (by kernel_rfl) (by kernel_rfl) (by kernel_rfl) (Nat.le_refl _) (by kernel_rfl) (by kernel_rfl) fun bs3 aa w D hl => ?_
  refine QeH 4 D (by kernel_rfl) (by kernel_rfl) (by kernel_rfl) hl (by kernel_rfl) (by kernel_rfl) fun bs4 aa w D hl => ?_
  refine QeH 5 D (by kernel_rfl) (by kernel_rfl) (by kernel_rfl) hl (by kernel_rfl) (by kernel_rfl) fun bs5 aa w D hl => ?_
  refine QaO D (by kernel_rfl) fun S => ?_
  refine Qah S fun bs aa w S => ?_
  exact Qap S (by kernel_rfl) (by kernel_rfl) fun hg' => ⟨x, by rw [hE], hx.re hwl (S.fact (f := Qav x.b x.o x.S) (by simp)) (S.fact (f := QaU x.c x.p x.W) (by simp)), (S.fact (f := Qbw mb mo zs) (by simp)), Qas hg'⟩
end
end
end Go.Proofs.Ytfhmdlihnidjoaa
