/-
  Merged: StepD, StepF, CurA, CurD, Take, StepG, Vh11
-/
import Derived.Test.YtfahnmpcclhjlaaGreatRows
import Derived.Test.YtfahnmpcclhjlaaGreatPv3
import Derived.Test.YtfahnmpcclhjlaaGreatPv5
import Derived.WalkKit
import Derived.Deep.MidRow
import Derived.WalkLawsBesides
import Derived.Defers
import Derived.Recover
import Derived.IntWalk
import Derived.OrdersHeld
namespace Go.Proofs.YtfahnmpcclhjlaaGreat
set_option linter.unusedVariables false
set_option linter.unusedSectionVars false
set_option maxRecDepth 100000
open Go.ChangeShapes Go.WideShapes Go.ChangeAt Go.RowKit
structure Ask where
  k : Int
  p : Int
  o : Int
  n : Int
def Ask.v (a : Ask) : Value := .agg #[.int .i64 a.k, .int .i64 a.p, .int .i64 a.o, .int .i64 a.n, .string ByteArray.empty]
structure OutD where
  val : Int := 0
  ver : Int := 0
  rv : Int := 0
  st : Int := 0
  ok : Bool := false
  lost : Bool := false
  err : Int := 0
def OutD.v (o : OutD) : Value := .agg #[.int .i64 o.val, .int .i64 o.ver, .int .i64 o.rv, .int .i64 o.st, .bool o.ok, .bool o.lost, .int .i64 o.err]
inductive Tree where
  | ret (o : OutD)
  | ask (a : Ask) (f : Int × Bool → Tree)
def Tree.run : Tree → List (Int × Bool) → Ask ⊕ OutD
  | .ret o, _ => .inr o
  | .ask a _, [] => .inl a
  | .ask _ f, r :: l => (f r).run l
def OpPost (x : Ask ⊕ OutD) (g : Nat) (w : World) (e : Ending) (w' : World) : Prop :=
  (match x with
  | .inr o => e = .returned o.v
  | .inl a => e = .panicked [{ v := .iface 78 a.v, recovered := false }]) ∧ w.grownBy w' (some g)
structure OutZ (w : World) (b : Nat) : Prop where
  c0 : w.cell? ⟨b, 0, none⟩ = some (.int .i64 0)
  c1 : w.cell? ⟨b, 1, none⟩ = some (.int .i64 0)
  c2 : w.cell? ⟨b, 2, none⟩ = some (.int .i64 0)
  c3 : w.cell? ⟨b, 3, none⟩ = some (.int .i64 0)
  c4 : w.cell? ⟨b, 4, none⟩ = some (.bool false)
  c5 : w.cell? ⟨b, 5, none⟩ = some (.bool false)
  c6 : w.cell? ⟨b, 6, none⟩ = some (.int .i64 0)
  fr : ∀ o, w.frozen? ⟨b, o, none⟩ = false
theorem OutZ.new (w : World) (T : TypeId) : OutZ (w.alloc (.cells #[.int .i64 0, .int .i64 0, .int .i64 0, .int .i64 0, .bool false, .bool false, .int .i64 0] T)) w.heap.size := by
  constructor <;> first | (rw [World.cell?_alloc_at _ _ _ _ rfl]; rfl) | exact fun o => World.frozen?_alloc_at _ _ _ _ rfl
theorem OutZ.lt {w : World} {b : Nat} (h : OutZ w b) : b < w.heap.size := World.block_lt_of_cell? w _ h.c0
theorem OutZ.gb {w w' : World} {b g : Nat} (h : OutZ w b) (hg : w.grownBy w' (some g)) (hne : b ≠ g) : OutZ w' b := by
  have hb : w'.heap[b]? = w.heap[b]? := hg.block b h.lt (by simpa using hne)
  constructor
  · exact (World.cell?_of_block (a := ⟨b, 0, none⟩) hb).trans h.c0
  · exact (World.cell?_of_block (a := ⟨b, 1, none⟩) hb).trans h.c1
  · exact (World.cell?_of_block (a := ⟨b, 2, none⟩) hb).trans h.c2
  · exact (World.cell?_of_block (a := ⟨b, 3, none⟩) hb).trans h.c3
  · exact (World.cell?_of_block (a := ⟨b, 4, none⟩) hb).trans h.c4
  · exact (World.cell?_of_block (a := ⟨b, 5, none⟩) hb).trans h.c5
  · exact (World.cell?_of_block (a := ⟨b, 6, none⟩) hb).trans h.c6
  · exact fun o => (World.frozen?_of_block (a := ⟨b, o, none⟩) hb).trans (h.fr o)
theorem OutZ.below {w w' : World} {b : Nat} (h : OutZ w b) (hb : Below w.heap.size w w') : OutZ w' b :=
  ⟨cel_below hb h.c0, cel_below hb h.c1, cel_below hb h.c2, cel_below hb h.c3, cel_below hb h.c4, cel_below hb h.c5, cel_below hb h.c6, fun o => fro_below hb h.lt (h.fr o)⟩
end Go.Proofs.YtfahnmpcclhjlaaGreat

namespace Go.Proofs.YtfahnmpcclhjlaaGreat
set_option linter.unusedVariables false
set_option linter.unusedSectionVars false
set_option maxRecDepth 100000
open Go.ChangeShapes Go.WideShapes Go.ChangeAt Go.RowKit
def LogOf (w : World) (v : Value) (l : List (Int × Bool)) : Prop :=
  ∃ a c, v = .slice a l.length c ∧ l.length ≤ c ∧ c ≤ 9223372036854775807 ∧ (l.length = 0 ∨ ∃ b o, a = some ⟨b, o, none⟩ ∧ ∀ j, j < l.length → w.cell? ⟨b, o + j * 2, none⟩ = some (.int .i64 (l.getD j (0, false)).1) ∧ w.cell? ⟨b, o + j * 2 + 1, none⟩ = some (.bool (l.getD j (0, false)).2))
theorem logOf_keep {w w' : World} {v : Value} {l : List (Int × Bool)} (h : LogOf w v l) (hb : Below w.heap.size w w') : LogOf w' v l := by
  obtain ⟨a, c, rfl, h1, h2, h3⟩ := h
  refine ⟨a, c, rfl, h1, h2, ?_⟩
  rcases h3 with h3 | ⟨b, o, rfl, h3⟩
  · exact Or.inl h3
  · exact Or.inr ⟨b, o, rfl, fun j hj => ⟨cel_below hb (h3 j hj).1, cel_below hb (h3 j hj).2⟩⟩
def ask0 : Ask := ⟨0, 0, 0, 0⟩
def out0 : OutD := {}
def nextV : Ask ⊕ OutD → Value
  | .inl a => .tuple #[a.v, out0.v, .bool false]
  | .inr o => .tuple #[ask0.v, o.v, .bool true]
def frame4 (w : World) (v : Value) : World := (((w.alloc (.cells #[.int .i64 0, .int .i64 0, .int .i64 0, .int .i64 0, .string ⟨#[]⟩] 39)).alloc (.cells #[.int .i64 0, .int .i64 0, .int .i64 0, .int .i64 0, .bool false, .bool false, .int .i64 0] 42)).alloc (.cells #[.bool false] 4)).alloc (.cells #[v] 81)
theorem frame4_run {w : World} {v : Value} {l : List (Int × Bool)} (h : LogOf w v l) : RunAt (frame4 w v) (w.heap.size + 1 + 1 + 1) l := by
  obtain ⟨a, c, rfl, h1, h2, h3⟩ := h
  refine ⟨a, c, ?_, ?_, h1, h2, ?_⟩
  · unfold frame4; rw [World.cell?_alloc_at _ _ _ _ (by simp)]; rfl
  · unfold frame4; exact World.frozen?_alloc_at _ _ _ _ (by simp)
  · rcases h3 with h3 | ⟨b, o, rfl, h3⟩
    · exact Or.inl h3
    · by_cases h0 : l.length = 0
      · exact Or.inl h0
      · have hb : b < w.heap.size := World.block_lt_of_cell? w _ (h3 0 (by omega)).1
        exact Or.inr ⟨b, o, rfl, by omega, fun j hj => ⟨by unfold frame4; exact cell_alloc _ (cell_alloc _ (cell_alloc _ (cell_alloc _ (h3 j hj).1))), by unfold frame4; exact cell_alloc _ (cell_alloc _ (cell_alloc _ (cell_alloc _ (h3 j hj).2)))⟩⟩
theorem frame4_below (w : World) (v : Value) : Below w.heap.size w (frame4 w v) := by
  unfold frame4
  exact (((Below.refl _ w).alloc (Nat.le_refl _) _).alloc (by simp) _).alloc (by simp; omega) _ |>.alloc (by simp; omega) _
theorem frame4_size (w : World) (v : Value) : (frame4 w v).heap.size = w.heap.size + 1 + 1 + 1 + 1 := by simp [frame4]
structure Res3 (w : World) (B : Nat) : Prop where
  a0 : w.cell? ⟨B, 0, none⟩ = some (.int .i64 0)
  a1 : w.cell? ⟨B, 1, none⟩ = some (.int .i64 0)
  a2 : w.cell? ⟨B, 2, none⟩ = some (.int .i64 0)
  a3 : w.cell? ⟨B, 3, none⟩ = some (.int .i64 0)
  a4 : w.cell? ⟨B, 4, none⟩ = some (.string ByteArray.empty)
  oz : OutZ w (B + 1)
  d0 : w.cell? ⟨B + 1 + 1, 0, none⟩ = some (.bool false)
  fa : ∀ o, w.frozen? ⟨B, o, none⟩ = false
  fd : ∀ o, w.frozen? ⟨B + 1 + 1, o, none⟩ = false
theorem frame4_res (w : World) (v : Value) : Res3 (frame4 w v) w.heap.size := by
  have hz : OutZ (frame4 w v) (w.heap.size + 1) := by
    have := OutZ.new (w.alloc (.cells #[.int .i64 0, .int .i64 0, .int .i64 0, .int .i64 0, .string ⟨#[]⟩] 39)) 42
    simp at this
    exact OutZ.below (OutZ.below this (below_new1 _ _)) (below_new1 _ _)
  have fr : ∀ o, (frame4 w v).frozen? ⟨w.heap.size, o, none⟩ = false := fun o => frozen_alloc _ (by simp; omega) (frozen_alloc _ (by simp; omega) (frozen_alloc _ (by simp) (World.frozen?_alloc_at _ _ _ _ rfl)))
  have fd : ∀ o, (frame4 w v).frozen? ⟨w.heap.size + 1 + 1, o, none⟩ = false := fun o => frozen_alloc _ (by simp) (World.frozen?_alloc_at _ _ _ _ (by simp))
  constructor
  · exact cell_alloc _ (cell_alloc _ (cell_alloc _ (by rw [World.cell?_alloc_at _ _ _ _ rfl]; rfl)))
  · exact cell_alloc _ (cell_alloc _ (cell_alloc _ (by rw [World.cell?_alloc_at _ _ _ _ rfl]; rfl)))
  · exact cell_alloc _ (cell_alloc _ (cell_alloc _ (by rw [World.cell?_alloc_at _ _ _ _ rfl]; rfl)))
  · exact cell_alloc _ (cell_alloc _ (cell_alloc _ (by rw [World.cell?_alloc_at _ _ _ _ rfl]; rfl)))
  · exact cell_alloc _ (cell_alloc _ (cell_alloc _ (by rw [World.cell?_alloc_at _ _ _ _ rfl]; rfl)))
  · exact hz
  · exact cell_alloc _ (by rw [World.cell?_alloc_at _ _ _ _ (by simp)]; rfl)
  · exact fr
  · exact fd
theorem res3_at {w : World} {B : Nat} (h : Res3 w B) (v0 v1 v2 v3 v4 v5 v6 v7 v8 v9 v10 v11 v12 : Value) : ∃ W, W = (((((((((((((w.setCell ⟨B, 0, none⟩ v0).setCell ⟨B, 1, none⟩ v1).setCell ⟨B, 2, none⟩ v2).setCell ⟨B, 3, none⟩ v3).setCell ⟨B, 4, none⟩ v4).setCell ⟨B + 1, 0, none⟩ v5).setCell ⟨B + 1, 1, none⟩ v6).setCell ⟨B + 1, 2, none⟩ v7).setCell ⟨B + 1, 3, none⟩ v8).setCell ⟨B + 1, 4, none⟩ v9).setCell ⟨B + 1, 5, none⟩ v10).setCell ⟨B + 1, 6, none⟩ v11).setCell ⟨B + 1 + 1, 0, none⟩ v12) ∧ W.cell? ⟨B, 0, none⟩ = some v0 ∧ W.cell? ⟨B, 1, none⟩ = some v1 ∧ W.cell? ⟨B, 2, none⟩ = some v2 ∧ W.cell? ⟨B, 3, none⟩ = some v3 ∧ W.cell? ⟨B, 4, none⟩ = some v4 ∧ W.cell? ⟨B + 1, 0, none⟩ = some v5 ∧ W.cell? ⟨B + 1, 1, none⟩ = some v6 ∧ W.cell? ⟨B + 1, 2, none⟩ = some v7 ∧ W.cell? ⟨B + 1, 3, none⟩ = some v8 ∧ W.cell? ⟨B + 1, 4, none⟩ = some v9 ∧ W.cell? ⟨B + 1, 5, none⟩ = some v10 ∧ W.cell? ⟨B + 1, 6, none⟩ = some v11 ∧ W.cell? ⟨B + 1 + 1, 0, none⟩ = some v12 := by
  refine ⟨_, rfl, ?_, ?_, ?_, ?_, ?_, ?_, ?_, ?_, ?_, ?_, ?_, ?_, ?_⟩
  · exact (keepA_ (keepA_ (keepA_ (keepA_ (keepA_ (keepA_ (keepA_ (keepA_ (keepA_ (keepA_ (keepA_ (keepA_ (World.cell?_setCell_same _ _ _ h.a0) (by omega)) (by omega)) (by omega)) (by omega)) (by omega)) (by omega)) (by omega)) (by omega)) (by omega)) (by omega)) (by omega)) (by omega))
  · exact (keepA_ (keepA_ (keepA_ (keepA_ (keepA_ (keepA_ (keepA_ (keepA_ (keepA_ (keepA_ (keepA_ (World.cell?_setCell_same _ _ _ (keepA_ h.a1 (by omega))) (by omega)) (by omega)) (by omega)) (by omega)) (by omega)) (by omega)) (by omega)) (by omega)) (by omega)) (by omega)) (by omega))
  · exact (keepA_ (keepA_ (keepA_ (keepA_ (keepA_ (keepA_ (keepA_ (keepA_ (keepA_ (keepA_ (World.cell?_setCell_same _ _ _ (keepA_ (keepA_ h.a2 (by omega)) (by omega))) (by omega)) (by omega)) (by omega)) (by omega)) (by omega)) (by omega)) (by omega)) (by omega)) (by omega)) (by omega))
  · exact (keepA_ (keepA_ (keepA_ (keepA_ (keepA_ (keepA_ (keepA_ (keepA_ (keepA_ (World.cell?_setCell_same _ _ _ (keepA_ (keepA_ (keepA_ h.a3 (by omega)) (by omega)) (by omega))) (by omega)) (by omega)) (by omega)) (by omega)) (by omega)) (by omega)) (by omega)) (by omega)) (by omega))
  · exact (keepA_ (keepA_ (keepA_ (keepA_ (keepA_ (keepA_ (keepA_ (keepA_ (World.cell?_setCell_same _ _ _ (keepA_ (keepA_ (keepA_ (keepA_ h.a4 (by omega)) (by omega)) (by omega)) (by omega))) (by omega)) (by omega)) (by omega)) (by omega)) (by omega)) (by omega)) (by omega)) (by omega))
  · exact (keepA_ (keepA_ (keepA_ (keepA_ (keepA_ (keepA_ (keepA_ (World.cell?_setCell_same _ _ _ (keepA_ (keepA_ (keepA_ (keepA_ (keepA_ h.oz.c0 (by omega)) (by omega)) (by omega)) (by omega)) (by omega))) (by omega)) (by omega)) (by omega)) (by omega)) (by omega)) (by omega)) (by omega))
  · exact (keepA_ (keepA_ (keepA_ (keepA_ (keepA_ (keepA_ (World.cell?_setCell_same _ _ _ (keepA_ (keepA_ (keepA_ (keepA_ (keepA_ (keepA_ h.oz.c1 (by omega)) (by omega)) (by omega)) (by omega)) (by omega)) (by omega))) (by omega)) (by omega)) (by omega)) (by omega)) (by omega)) (by omega))
  · exact (keepA_ (keepA_ (keepA_ (keepA_ (keepA_ (World.cell?_setCell_same _ _ _ (keepA_ (keepA_ (keepA_ (keepA_ (keepA_ (keepA_ (keepA_ h.oz.c2 (by omega)) (by omega)) (by omega)) (by omega)) (by omega)) (by omega)) (by omega))) (by omega)) (by omega)) (by omega)) (by omega)) (by omega))
  · exact (keepA_ (keepA_ (keepA_ (keepA_ (World.cell?_setCell_same _ _ _ (keepA_ (keepA_ (keepA_ (keepA_ (keepA_ (keepA_ (keepA_ (keepA_ h.oz.c3 (by omega)) (by omega)) (by omega)) (by omega)) (by omega)) (by omega)) (by omega)) (by omega))) (by omega)) (by omega)) (by omega)) (by omega))
  · exact (keepA_ (keepA_ (keepA_ (World.cell?_setCell_same _ _ _ (keepA_ (keepA_ (keepA_ (keepA_ (keepA_ (keepA_ (keepA_ (keepA_ (keepA_ h.oz.c4 (by omega)) (by omega)) (by omega)) (by omega)) (by omega)) (by omega)) (by omega)) (by omega)) (by omega))) (by omega)) (by omega)) (by omega))
  · exact (keepA_ (keepA_ (World.cell?_setCell_same _ _ _ (keepA_ (keepA_ (keepA_ (keepA_ (keepA_ (keepA_ (keepA_ (keepA_ (keepA_ (keepA_ h.oz.c5 (by omega)) (by omega)) (by omega)) (by omega)) (by omega)) (by omega)) (by omega)) (by omega)) (by omega)) (by omega))) (by omega)) (by omega))
  · exact (keepA_ (World.cell?_setCell_same _ _ _ (keepA_ (keepA_ (keepA_ (keepA_ (keepA_ (keepA_ (keepA_ (keepA_ (keepA_ (keepA_ (keepA_ h.oz.c6 (by omega)) (by omega)) (by omega)) (by omega)) (by omega)) (by omega)) (by omega)) (by omega)) (by omega)) (by omega)) (by omega))) (by omega))
  · exact (World.cell?_setCell_same _ _ _ (keepA_ (keepA_ (keepA_ (keepA_ (keepA_ (keepA_ (keepA_ (keepA_ (keepA_ (keepA_ (keepA_ (keepA_ h.d0 (by omega)) (by omega)) (by omega)) (by omega)) (by omega)) (by omega)) (by omega)) (by omega)) (by omega)) (by omega)) (by omega)) (by omega)))
theorem res3_below {w w' : World} {B : Nat} (h : Below B w w') (v0 v1 v2 v3 v4 v5 v6 v7 v8 v9 v10 v11 v12 : Value) : Below B w (((((((((((((w'.setCell ⟨B, 0, none⟩ v0).setCell ⟨B, 1, none⟩ v1).setCell ⟨B, 2, none⟩ v2).setCell ⟨B, 3, none⟩ v3).setCell ⟨B, 4, none⟩ v4).setCell ⟨B + 1, 0, none⟩ v5).setCell ⟨B + 1, 1, none⟩ v6).setCell ⟨B + 1, 2, none⟩ v7).setCell ⟨B + 1, 3, none⟩ v8).setCell ⟨B + 1, 4, none⟩ v9).setCell ⟨B + 1, 5, none⟩ v10).setCell ⟨B + 1, 6, none⟩ v11).setCell ⟨B + 1 + 1, 0, none⟩ v12) :=
  (Below.setCell (p := ⟨B + 1 + 1, 0, none⟩) (Below.setCell (p := ⟨B + 1, 6, none⟩) (Below.setCell (p := ⟨B + 1, 5, none⟩) (Below.setCell (p := ⟨B + 1, 4, none⟩) (Below.setCell (p := ⟨B + 1, 3, none⟩) (Below.setCell (p := ⟨B + 1, 2, none⟩) (Below.setCell (p := ⟨B + 1, 1, none⟩) (Below.setCell (p := ⟨B + 1, 0, none⟩) (Below.setCell (p := ⟨B, 4, none⟩) (Below.setCell (p := ⟨B, 3, none⟩) (Below.setCell (p := ⟨B, 2, none⟩) (Below.setCell (p := ⟨B, 1, none⟩) (Below.setCell (p := ⟨B, 0, none⟩) h (by dsimp only; omega) v0) (by dsimp only; omega) v1) (by dsimp only; omega) v2) (by dsimp only; omega) v3) (by dsimp only; omega) v4) (by dsimp only; omega) v5) (by dsimp only; omega) v6) (by dsimp only; omega) v7) (by dsimp only; omega) v8) (by dsimp only; omega) v9) (by dsimp only; omega) v10) (by dsimp only; omega) v11) (by dsimp only; omega) v12)
theorem Res3.gb {w w' : World} {B g : Nat} (h : Res3 w B) (hg : w.grownBy w' (some g)) (hB : B + 1 + 1 < g) : Res3 w' B := by
  have hl := World.block_lt_of_cell? w _ h.d0
  dsimp only at hl
  have h1 : w'.heap[B]? = w.heap[B]? := hg.block B (by omega) (by simp; omega)
  have h2 : w'.heap[B + 1 + 1]? = w.heap[B + 1 + 1]? := hg.block (B + 1 + 1) (by omega) (by simp; omega)
  exact ⟨(World.cell?_of_block (a := ⟨B, 0, none⟩) h1).trans h.a0, (World.cell?_of_block (a := ⟨B, 1, none⟩) h1).trans h.a1, (World.cell?_of_block (a := ⟨B, 2, none⟩) h1).trans h.a2, (World.cell?_of_block (a := ⟨B, 3, none⟩) h1).trans h.a3, (World.cell?_of_block (a := ⟨B, 4, none⟩) h1).trans h.a4, h.oz.gb hg (by omega), (World.cell?_of_block (a := ⟨B + 1 + 1, 0, none⟩) h2).trans h.d0,
    fun o => (World.frozen?_of_block (a := ⟨B, o, none⟩) h1).trans (h.fa o), fun o => (World.frozen?_of_block (a := ⟨B + 1 + 1, o, none⟩) h2).trans (h.fd o)⟩
section
variable (w : World) (v : Value) (l : List (Int × Bool)) (F : FuncId) (hent : ∀ args w, (callFunc F args).run Tryz.prog w = .ok (.enter F args) w)
include w v l F hent
set_option maxHeartbeats 4000000 in
theorem of_c3_ret (c0 c1 c2 : Value) (o : OutD) (hv : LogOf w v l) (hF : ∀ w1 g, Below w.heap.size w w1 → w.heap.size ≤ g → RunAt w1 g l → Calls Tryz.prog F #[.pointer (some ⟨g, 0, none⟩), c0, c1, c2] w1 (OpPost (.inr o) g w1)) :
    Calls Tryz.prog 16 #[v, .func (.func F) #[] #[c0, c1, c2]] w fun e w' => e = .returned (nextV (.inr o)) ∧ Below w.heap.size w w' := by
  have hmf : ∀ (fn : Fn) (first cap : Array Value) (w : World), (Instr.makeFunc fn first cap).run Tryz.prog w = .ok (.func fn first cap) w := fun _ _ _ _ => rfl
  have HF := hF (frame4 w v) (w.heap.size + 1 + 1 + 1) (frame4_below w v) (by omega) (frame4_run hv)
  have hz0 := frame4_res w v
  have hb0 := frame4_below w v
  have hsz := frame4_size w v
  obtain ⟨W4, hW⟩ : ∃ W, W = frame4 w v := ⟨_, rfl⟩
  rw [← hW] at HF hz0 hb0 hsz
  unfold frame4 at hW
  have HF2 := Lib.hid HF
  have HZ := Lib.hid hz0
  have HB := Lib.hid hb0
  have HS := Lib.hid hsz
  clear HF hF hz0 hb0 hsz
  obtain ⟨a, c, rfl, hlog⟩ := hv
  have HL := Lib.hid hlog
  clear hlog
  go_enter_defers Tryz.func16, Tryz.ntmps16
  go_wp2_with (first | (rw [← hW]; refine HF2.out.mono ?_; rintro e w1 ⟨rfl, hg⟩; have hz := HZ.out.gb hg (by omega); have HG := Lib.hid hg; clear hg; have a0 := hz.a0; have a1 := hz.a1; have a2 := hz.a2; have a3 := hz.a3; have a4 := hz.a4; have q0 := hz.oz.c0; have q1 := hz.oz.c1; have q2 := hz.oz.c2; have q3 := hz.oz.c3; have q4 := hz.oz.c4; have q5 := hz.oz.c5; have q6 := hz.oz.c6; have d0 := hz.d0; have fa := hz.fa; have fq := hz.oz.fr; have fd := hz.fd; unfold OutD.v))
  obtain ⟨W, hWW, k0, k1, k2, k3, k4, k5, k6, k7, k8, k9, k10, k11, k12⟩ := res3_at hz (.int .i64 0) (.int .i64 0) (.int .i64 0) (.int .i64 0) (.string ⟨#[]⟩) (.int .i64 o.val) (.int .i64 o.ver) (.int .i64 o.rv) (.int .i64 o.st) (.bool o.ok) (.bool o.lost) (.int .i64 o.err) (.bool true)
  rw [← hWW]
  refine leaves_cons (f := 26) (args := #[.pointer (some ⟨w.heap.size, 0, none⟩), .pointer (some ⟨w.heap.size + 1, 0, none⟩), .pointer (some ⟨w.heap.size + 1 + 1, 0, none⟩)]) (by simp) (by simp [go_sem]) ?_
  refine (catch_idle _ _ _ _).mono ?_
  rintro e u' w'' ⟨rfl, rfl, rfl⟩
  simp [Leaves, settle, results, Tryz.results16, go_sem, k0, k1, k2, k3, k4, k5, k6, k7, k8, k9, k10, k11, k12, nextV, OutD.v, Ask.v, ask0, ByteArray.empty, ByteArray.emptyWithCapacity]
  rw [hWW]
  exact ⟨rfl, res3_below (HB.out.trans (gb_to_below HG.out (by omega) (by have := HS.out; omega))) _ _ _ _ _ _ _ _ _ _ _ _ _⟩
set_option maxHeartbeats 4000000 in
theorem of_c3_stop (c0 c1 c2 : Value) (o : Ask) (hv : LogOf w v l) (hF : ∀ w1 g, Below w.heap.size w w1 → w.heap.size ≤ g → RunAt w1 g l → Calls Tryz.prog F #[.pointer (some ⟨g, 0, none⟩), c0, c1, c2] w1 (OpPost (.inl o) g w1)) :
    Calls Tryz.prog 16 #[v, .func (.func F) #[] #[c0, c1, c2]] w fun e w' => e = .returned (nextV (.inl o)) ∧ Below w.heap.size w w' := by
  have hmf : ∀ (fn : Fn) (first cap : Array Value) (w : World), (Instr.makeFunc fn first cap).run Tryz.prog w = .ok (.func fn first cap) w := fun _ _ _ _ => rfl
  have HF := hF (frame4 w v) (w.heap.size + 1 + 1 + 1) (frame4_below w v) (by omega) (frame4_run hv)
  have hz0 := frame4_res w v
  have hb0 := frame4_below w v
  have hsz := frame4_size w v
  obtain ⟨W4, hW⟩ : ∃ W, W = frame4 w v := ⟨_, rfl⟩
  rw [← hW] at HF hz0 hb0 hsz
  unfold frame4 at hW
  have HF2 := Lib.hid HF
  have HZ := Lib.hid hz0
  have HB := Lib.hid hb0
  have HS := Lib.hid hsz
  clear HF hF hz0 hb0 hsz
  obtain ⟨a, c, rfl, hlog⟩ := hv
  have HL := Lib.hid hlog
  clear hlog
  go_enter_defers Tryz.func16, Tryz.ntmps16
  go_wp2_with (first | (rw [← hW]; refine HF2.out.mono ?_; rintro e w1 ⟨rfl, hg⟩; have hz := HZ.out.gb hg (by omega); have HG := Lib.hid hg; clear hg))
  have hsz2 := HG.out.size
  have hsz3 := HS.out
  unfold Ask.v
  refine leaves_cons (f := 26) (args := #[.pointer (some ⟨w.heap.size, 0, none⟩), .pointer (some ⟨w.heap.size + 1, 0, none⟩), .pointer (some ⟨w.heap.size + 1 + 1, 0, none⟩)]) (by simp) (by simp [go_sem]) ?_
  refine (catch_pend w.heap.size o.k o.p o.o o.n ByteArray.empty [] w1 (by omega) ?_ hz.a0 hz.a1 hz.a2 hz.a3 hz.a4 hz.oz.c0 hz.oz.c1 hz.oz.c2 hz.oz.c3 hz.oz.c4 hz.oz.c5 hz.oz.c6 hz.d0).mono ?_
  · intro b i h1 h2
    have h3 : b = w.heap.size ∨ b = w.heap.size + 1 ∨ b = w.heap.size + 1 + 1 := by omega
    rcases h3 with rfl | rfl | rfl
    · exact hz.fa i
    · exact hz.oz.fr i
    · exact hz.fd i
  rintro e u' w'' ⟨rfl, rfl, hb, k0, k1, k2, k3, k4, k5, k6, k7, k8, k9, k10, k11, k12⟩
  simp [Leaves, settle, results, Tryz.results16, go_sem, k0, k1, k2, k3, k4, k5, k6, k7, k8, k9, k10, k11, k12, nextV, OutD.v, Ask.v, out0]
  exact (HB.out.trans (gb_to_below HG.out (by omega) (by omega))).trans hb
set_option maxHeartbeats 4000000 in
theorem of_m1_ret (c0 : Value) (o : OutD) (hv : LogOf w v l) (hF : ∀ w1 g, Below w.heap.size w w1 → w.heap.size ≤ g → RunAt w1 g l → Calls Tryz.prog F #[c0, .pointer (some ⟨g, 0, none⟩)] w1 (OpPost (.inr o) g w1)) :
    Calls Tryz.prog 16 #[v, .func (.func F) #[c0] #[]] w fun e w' => e = .returned (nextV (.inr o)) ∧ Below w.heap.size w w' := by
  have hmf : ∀ (fn : Fn) (first cap : Array Value) (w : World), (Instr.makeFunc fn first cap).run Tryz.prog w = .ok (.func fn first cap) w := fun _ _ _ _ => rfl
  have HF := hF (frame4 w v) (w.heap.size + 1 + 1 + 1) (frame4_below w v) (by omega) (frame4_run hv)
  have hz0 := frame4_res w v
  have hb0 := frame4_below w v
  have hsz := frame4_size w v
  obtain ⟨W4, hW⟩ : ∃ W, W = frame4 w v := ⟨_, rfl⟩
  rw [← hW] at HF hz0 hb0 hsz
  unfold frame4 at hW
  have HF2 := Lib.hid HF
  have HZ := Lib.hid hz0
  have HB := Lib.hid hb0
  have HS := Lib.hid hsz
  clear HF hF hz0 hb0 hsz
  obtain ⟨a, c, rfl, hlog⟩ := hv
  have HL := Lib.hid hlog
  clear hlog
  go_enter_defers Tryz.func16, Tryz.ntmps16
  go_wp2_with (first | (rw [← hW]; refine HF2.out.mono ?_; rintro e w1 ⟨rfl, hg⟩; have hz := HZ.out.gb hg (by omega); have HG := Lib.hid hg; clear hg; have a0 := hz.a0; have a1 := hz.a1; have a2 := hz.a2; have a3 := hz.a3; have a4 := hz.a4; have q0 := hz.oz.c0; have q1 := hz.oz.c1; have q2 := hz.oz.c2; have q3 := hz.oz.c3; have q4 := hz.oz.c4; have q5 := hz.oz.c5; have q6 := hz.oz.c6; have d0 := hz.d0; have fa := hz.fa; have fq := hz.oz.fr; have fd := hz.fd; unfold OutD.v))
  obtain ⟨W, hWW, k0, k1, k2, k3, k4, k5, k6, k7, k8, k9, k10, k11, k12⟩ := res3_at hz (.int .i64 0) (.int .i64 0) (.int .i64 0) (.int .i64 0) (.string ⟨#[]⟩) (.int .i64 o.val) (.int .i64 o.ver) (.int .i64 o.rv) (.int .i64 o.st) (.bool o.ok) (.bool o.lost) (.int .i64 o.err) (.bool true)
  rw [← hWW]
  refine leaves_cons (f := 26) (args := #[.pointer (some ⟨w.heap.size, 0, none⟩), .pointer (some ⟨w.heap.size + 1, 0, none⟩), .pointer (some ⟨w.heap.size + 1 + 1, 0, none⟩)]) (by simp) (by simp [go_sem]) ?_
  refine (catch_idle _ _ _ _).mono ?_
  rintro e u' w'' ⟨rfl, rfl, rfl⟩
  simp [Leaves, settle, results, Tryz.results16, go_sem, k0, k1, k2, k3, k4, k5, k6, k7, k8, k9, k10, k11, k12, nextV, OutD.v, Ask.v, ask0, ByteArray.empty, ByteArray.emptyWithCapacity]
  rw [hWW]
  exact ⟨rfl, res3_below (HB.out.trans (gb_to_below HG.out (by omega) (by have := HS.out; omega))) _ _ _ _ _ _ _ _ _ _ _ _ _⟩
set_option maxHeartbeats 4000000 in
theorem of_m1_stop (c0 : Value) (o : Ask) (hv : LogOf w v l) (hF : ∀ w1 g, Below w.heap.size w w1 → w.heap.size ≤ g → RunAt w1 g l → Calls Tryz.prog F #[c0, .pointer (some ⟨g, 0, none⟩)] w1 (OpPost (.inl o) g w1)) :
    Calls Tryz.prog 16 #[v, .func (.func F) #[c0] #[]] w fun e w' => e = .returned (nextV (.inl o)) ∧ Below w.heap.size w w' := by
  have hmf : ∀ (fn : Fn) (first cap : Array Value) (w : World), (Instr.makeFunc fn first cap).run Tryz.prog w = .ok (.func fn first cap) w := fun _ _ _ _ => rfl
  have HF := hF (frame4 w v) (w.heap.size + 1 + 1 + 1) (frame4_below w v) (by omega) (frame4_run hv)
  have hz0 := frame4_res w v
  have hb0 := frame4_below w v
  have hsz := frame4_size w v
  obtain ⟨W4, hW⟩ : ∃ W, W = frame4 w v := ⟨_, rfl⟩
  rw [← hW] at HF hz0 hb0 hsz
  unfold frame4 at hW
  have HF2 := Lib.hid HF
  have HZ := Lib.hid hz0
  have HB := Lib.hid hb0
  have HS := Lib.hid hsz
  clear HF hF hz0 hb0 hsz
  obtain ⟨a, c, rfl, hlog⟩ := hv
  have HL := Lib.hid hlog
  clear hlog
  go_enter_defers Tryz.func16, Tryz.ntmps16
  go_wp2_with (first | (rw [← hW]; refine HF2.out.mono ?_; rintro e w1 ⟨rfl, hg⟩; have hz := HZ.out.gb hg (by omega); have HG := Lib.hid hg; clear hg))
  have hsz2 := HG.out.size
  have hsz3 := HS.out
  unfold Ask.v
  refine leaves_cons (f := 26) (args := #[.pointer (some ⟨w.heap.size, 0, none⟩), .pointer (some ⟨w.heap.size + 1, 0, none⟩), .pointer (some ⟨w.heap.size + 1 + 1, 0, none⟩)]) (by simp) (by simp [go_sem]) ?_
  refine (catch_pend w.heap.size o.k o.p o.o o.n ByteArray.empty [] w1 (by omega) ?_ hz.a0 hz.a1 hz.a2 hz.a3 hz.a4 hz.oz.c0 hz.oz.c1 hz.oz.c2 hz.oz.c3 hz.oz.c4 hz.oz.c5 hz.oz.c6 hz.d0).mono ?_
  · intro b i h1 h2
    have h3 : b = w.heap.size ∨ b = w.heap.size + 1 ∨ b = w.heap.size + 1 + 1 := by omega
    rcases h3 with rfl | rfl | rfl
    · exact hz.fa i
    · exact hz.oz.fr i
    · exact hz.fd i
  rintro e u' w'' ⟨rfl, rfl, hb, k0, k1, k2, k3, k4, k5, k6, k7, k8, k9, k10, k11, k12⟩
  simp [Leaves, settle, results, Tryz.results16, go_sem, k0, k1, k2, k3, k4, k5, k6, k7, k8, k9, k10, k11, k12, nextV, OutD.v, Ask.v, out0]
  exact (HB.out.trans (gb_to_below HG.out (by omega) (by omega))).trans hb
theorem of_m1 (c0 : Value) (x : Ask ⊕ OutD) (hv : LogOf w v l) (hF : ∀ w1 g, Below w.heap.size w w1 → w.heap.size ≤ g → RunAt w1 g l → Calls Tryz.prog F #[c0, .pointer (some ⟨g, 0, none⟩)] w1 (OpPost x g w1)) :
    Calls Tryz.prog 16 #[v, .func (.func F) #[c0] #[]] w fun e w' => e = .returned (nextV x) ∧ Below w.heap.size w w' :=
  match x, hF with
  | .inr o, hF => of_m1_ret w v l F hent c0 o hv hF
  | .inl o, hF => of_m1_stop w v l F hent c0 o hv hF
end
end Go.Proofs.YtfahnmpcclhjlaaGreat

namespace Go.Proofs.YtfahnmpcclhjlaaGreat
set_option linter.unusedVariables false
set_option linter.unusedSectionVars false
set_option linter.unusedSimpArgs false
set_option maxRecDepth 100000
open Go.ChangeShapes Go.WideShapes Go.ChangeAt Go.RowKit
abbrev CSt := List (Int × Bool) × Option Ask
def cdo : CSt → Ask → (Int × Bool) × CSt
  | (l, some q), _ => ((0, false), (l, some q))
  | ([], none), a => ((0, false), ([], some a))
  | (r :: l, none), _ => (r, (l, none))
def CurAt (w : World) (g : Nat) (s : CSt) : Prop :=
  ∃ (a : Option Addr) (c at_ : Nat) (all : List (Int × Bool)), w.cell? ⟨g, 0, none⟩ = some (.slice a all.length c) ∧ w.cell? ⟨g, 1, none⟩ = some (.int .i64 (at_ : Nat)) ∧ w.cell? ⟨g, 2, none⟩ = some (.int .i64 (s.2.getD ask0).k) ∧ w.cell? ⟨g, 3, none⟩ = some (.int .i64 (s.2.getD ask0).p)
    ∧ w.cell? ⟨g, 4, none⟩ = some (.int .i64 (s.2.getD ask0).o) ∧ w.cell? ⟨g, 5, none⟩ = some (.int .i64 (s.2.getD ask0).n) ∧ w.cell? ⟨g, 6, none⟩ = some (.string ⟨#[]⟩) ∧ w.cell? ⟨g, 7, none⟩ = some (.bool s.2.isSome) ∧ (∀ o, w.frozen? ⟨g, o, none⟩ = false)
    ∧ at_ ≤ all.length ∧ s.1 = all.drop at_ ∧ all.length ≤ 1000000 ∧ (all.length = 0 ∨ ∃ b o, a = some ⟨b, o, none⟩ ∧ b < g ∧ ∀ j, j < all.length → w.cell? ⟨b, o + j * 2, none⟩ = some (.int .i64 (all.getD j (0, false)).1) ∧ w.cell? ⟨b, o + j * 2 + 1, none⟩ = some (.bool (all.getD j (0, false)).2))
theorem curAt_lt {w : World} {g : Nat} {s : CSt} (h : CurAt w g s) : g < w.heap.size := by
  obtain ⟨a, c, at_, all, h0, _⟩ := h
  exact World.block_lt_of_cell? w _ h0
theorem curAt_keep {w w' : World} {g : Nat} {s : CSt} (h : CurAt w g s) (hb : Below w.heap.size w w') : CurAt w' g s := by
  have hl := curAt_lt h
  obtain ⟨a, c, at_, all, h0, h1, h2, h3, h4, h5, h6, h7, h8, h9, h10, h11, h12⟩ := h
  refine ⟨a, c, at_, all, cel_below hb h0, cel_below hb h1, cel_below hb h2, cel_below hb h3, cel_below hb h4, cel_below hb h5, cel_below hb h6, cel_below hb h7, fun o => fro_below hb hl (h8 o), h9, h10, h11, ?_⟩
  rcases h12 with h | ⟨b, o, rfl, hb2, h⟩
  · exact Or.inl h
  · exact Or.inr ⟨b, o, rfl, hb2, fun j hj => ⟨cel_below hb (h j hj).1, cel_below hb (h j hj).2⟩⟩
theorem curAt_alloc {w : World} {g : Nat} {s : CSt} (h : CurAt w g s) (o : Obj) : CurAt (w.alloc o) g s := curAt_keep h (below_new1 w o)
theorem gb_own {w w' : World} {g : Nat} (h : w.grownBy w' (some g)) (o : Nat) (u : Value) : w.grownBy (w'.setCell ⟨g, o, none⟩ u) (some g) := gb_set h (Or.inl rfl) u
theorem curAt_drew {w : World} {g : Nat} {s : CSt} (h : CurAt w g s) : CurAt w.drew g s := by
  obtain ⟨a, c, at_, all, h0, h1, h2, h3, h4, h5, h6, h7, h8, h9, h10, h11, h12⟩ := h
  exact ⟨a, c, at_, all, h0, h1, h2, h3, h4, h5, h6, h7, h8, h9, h10, h11, h12⟩
theorem curAt_set {w : World} {g b o : Nat} {s : CSt} (h : CurAt w g s) (hb : g < b) (u : Value) : CurAt (w.setCell ⟨b, o, none⟩ u) g s := by
  have hn : b ≠ g := by omega
  obtain ⟨a, c, at_, all, h0, h1, h2, h3, h4, h5, h6, h7, h8, h9, h10, h11, h12⟩ := h
  refine ⟨a, c, at_, all, keepA_ h0 (Or.inl hn), keepA_ h1 (Or.inl hn), keepA_ h2 (Or.inl hn), keepA_ h3 (Or.inl hn), keepA_ h4 (Or.inl hn), keepA_ h5 (Or.inl hn), keepA_ h6 (Or.inl hn), keepA_ h7 (Or.inl hn), fun i => (World.frozen?_setCell _ _ _ _).trans (h8 i), h9, h10, h11, ?_⟩
  rcases h12 with h | ⟨b', o', rfl, hb', h⟩
  · exact Or.inl h
  · exact Or.inr ⟨b', o', rfl, hb', fun j hj => ⟨keepA_ (h j hj).1 (Or.inl (by omega)), keepA_ (h j hj).2 (Or.inl (by omega))⟩⟩
def refRun : Tree → CSt → OutD × CSt
  | .ret o, s => (o, s)
  | .ask a f, s => refRun (f (cdo s a).1) (cdo s a).2
def toldX (x : OutD × CSt) : Ask ⊕ OutD := match x.2.2 with
  | some a => .inl a
  | none => .inr x.1
theorem refRun_stop (T : Tree) : ∀ (l : List (Int × Bool)) (a : Ask), (refRun T (l, some a)).2.2 = some a := by
  induction T with
  | ret o => intro l a; rfl
  | ask b f ih => intro l a; exact ih _ l a
theorem told_run (T : Tree) : ∀ (l : List (Int × Bool)), toldX (refRun T (l, none)) = T.run l := by
  induction T with
  | ret o => intro l; cases l <;> rfl
  | ask b f ih =>
    intro l
    match l with
    | [] =>
      show toldX (refRun (f (0, false)) ([], some b)) = .inl b
      unfold toldX
      rw [refRun_stop]
    | r :: l => exact ih r l
end Go.Proofs.YtfahnmpcclhjlaaGreat

namespace Go.Proofs.YtfahnmpcclhjlaaGreat
set_option linter.unusedVariables false
set_option linter.unusedSectionVars false
set_option linter.unusedSimpArgs false
set_option maxRecDepth 100000
set_option maxHeartbeats 4000000
open Go.ChangeShapes Go.WideShapes Go.ChangeAt Go.RowKit
theorem rtold_some (w : World) (g : Nat) (l : List (Int × Bool)) (q : Ask) (o : OutD) (h : CurAt w g (l, some q)) : Calls Tryz.prog 20 #[.pointer (some ⟨g, 0, none⟩), o.v] w fun e w' => e = .returned (nextV (.inl q)) ∧ Below w.heap.size w w' := by
  have hlt := curAt_lt h
  obtain ⟨a, c, at_, all, h0, h1, h2, h3, h4, h5, h6, h7, h8, h9, h10, h11, h12⟩ := h
  obtain ⟨qk, qp, qo, qn⟩ := q
  simp only [Option.getD_some, Option.isSome_some] at h2 h3 h4 h5 h7
  have y2 : ∀ q1 q2 q3 : Obj, (((w.alloc q1).alloc q2).alloc q3).cell? ⟨g, 2, none⟩ = some (.int .i64 qk) := fun _ _ _ => cell_alloc _ (cell_alloc _ (cell_alloc _ h2))
  have y3 : ∀ q1 q2 q3 : Obj, (((w.alloc q1).alloc q2).alloc q3).cell? ⟨g, 3, none⟩ = some (.int .i64 qp) := fun _ _ _ => cell_alloc _ (cell_alloc _ (cell_alloc _ h3))
  have y4 : ∀ q1 q2 q3 : Obj, (((w.alloc q1).alloc q2).alloc q3).cell? ⟨g, 4, none⟩ = some (.int .i64 qo) := fun _ _ _ => cell_alloc _ (cell_alloc _ (cell_alloc _ h4))
  have y5 : ∀ q1 q2 q3 : Obj, (((w.alloc q1).alloc q2).alloc q3).cell? ⟨g, 5, none⟩ = some (.int .i64 qn) := fun _ _ _ => cell_alloc _ (cell_alloc _ (cell_alloc _ h5))
  have y6 : ∀ q1 q2 q3 : Obj, (((w.alloc q1).alloc q2).alloc q3).cell? ⟨g, 6, none⟩ = some (.string ⟨#[]⟩) := fun _ _ _ => cell_alloc _ (cell_alloc _ (cell_alloc _ h6))
  have y7 : ∀ q1 q2 q3 : Obj, (((w.alloc q1).alloc q2).alloc q3).cell? ⟨g, 7, none⟩ = some (.bool true) := fun _ _ _ => cell_alloc _ (cell_alloc _ (cell_alloc _ h7))
  clear h0 h1 h2 h3 h4 h5 h6 h7 h8 h9 h10 h11 h12
  unfold OutD.v
  go_enter Tryz.func20, Tryz.ntmps20
  go_wp2
  simp [bodyPost, results, Tryz.results20, go_sem, nextV, OutD.v, Ask.v, ask0, out0, ByteArray.empty, ByteArray.emptyWithCapacity]
  exact ⟨rfl, below_alloc3 (Below.refl _ _)⟩
theorem rtold_none (w : World) (g : Nat) (l : List (Int × Bool)) (o : OutD) (h : CurAt w g (l, none)) : Calls Tryz.prog 20 #[.pointer (some ⟨g, 0, none⟩), o.v] w fun e w' => e = .returned (nextV (.inr o)) ∧ Below w.heap.size w w' := by
  have hlt := curAt_lt h
  obtain ⟨a, c, at_, all, h0, h1, h2, h3, h4, h5, h6, h7, h8, h9, h10, h11, h12⟩ := h
  simp only [Option.isSome_none] at h7
  have y7 : ∀ q1 q2 q3 : Obj, (((w.alloc q1).alloc q2).alloc q3).cell? ⟨g, 7, none⟩ = some (.bool false) := fun _ _ _ => cell_alloc _ (cell_alloc _ (cell_alloc _ h7))
  clear h0 h1 h2 h3 h4 h5 h6 h7 h8 h9 h10 h11 h12
  unfold OutD.v
  go_enter Tryz.func20, Tryz.ntmps20
  go_wp2_with fail
  go_region
  all_goals (
    go_wp2
    simp [bodyPost, results, Tryz.results20, go_sem, nextV, OutD.v, Ask.v, ask0, out0, ByteArray.empty, ByteArray.emptyWithCapacity]
    exact ⟨rfl, Below.drew (below_alloc3 (Below.refl _ _))⟩)
theorem rtold_any (w : World) (g : Nat) (s : CSt) (o : OutD) (h : CurAt w g s) : Calls Tryz.prog 20 #[.pointer (some ⟨g, 0, none⟩), o.v] w fun e w' => e = .returned (nextV (toldX (o, s))) ∧ Below w.heap.size w w' := by
  match s, h with
  | (l, some q), h => exact rtold_some w g l q o h
  | (l, none), h => exact rtold_none w g l o h
end Go.Proofs.YtfahnmpcclhjlaaGreat

namespace Go.Proofs.YtfahnmpcclhjlaaGreat
set_option linter.unusedVariables false
set_option linter.unusedSectionVars false
set_option maxRecDepth 100000
open Go.ChangeShapes Go.WideShapes Go.ChangeAt Go.RowKit
section
variable {ops : Array Oper} {rest : List Oper} {op : Oper} {a : Act} {w : World} {Q : Exit → Act → World → Prop}
end
section
variable {P : Program} {ops : Array Oper} {Q : Exit → Act → World → Prop} {md : Region.Mode} {S : World → Prop} {fuel : Nat} {listed : Array Bool} {a : Act} {w : World}
end
end Go.Proofs.YtfahnmpcclhjlaaGreat

namespace Go.Proofs.YtfahnmpcclhjlaaGreat
set_option linter.unusedVariables false
set_option linter.unusedSectionVars false
set_option linter.unusedSimpArgs false
set_option maxRecDepth 100000
open Go.ChangeShapes Go.WideShapes Go.ChangeAt Go.RowKit
structure Res2 (w : World) (B : Nat) : Prop where
  a0 : w.cell? ⟨B, 0, none⟩ = some (.int .i64 0)
  a1 : w.cell? ⟨B, 1, none⟩ = some (.int .i64 0)
  a2 : w.cell? ⟨B, 2, none⟩ = some (.int .i64 0)
  a3 : w.cell? ⟨B, 3, none⟩ = some (.int .i64 0)
  a4 : w.cell? ⟨B, 4, none⟩ = some (.string ⟨#[]⟩)
  oz : OutZ w (B + 1)
  fa : ∀ o, w.frozen? ⟨B, o, none⟩ = false
set_option maxHeartbeats 1000000 in
theorem refuse_any (n : Int) (w : World) : Calls Tryz.prog 15 #[.int .i64 n] w fun e w' => e = .returned (nextV (.inr { err := n })) ∧ Below w.heap.size w w' := by
  have HB : Below w.heap.size w w := Below.refl _ _
  have hS0 : w.heap.size ≤ w.heap.size := Nat.le_refl _
  go_enter Tryz.func15, Tryz.ntmps15
  go_wp2
  simp [bodyPost, results, Tryz.results15, go_sem, nextV, OutD.v, Ask.v, ask0, ByteArray.empty, ByteArray.emptyWithCapacity, World.cell?_alloc_at, World.cell?_alloc_past]
  exact ⟨rfl, below_alloc2 (Below.refl _ _)⟩
end Go.Proofs.YtfahnmpcclhjlaaGreat

namespace Go.Proofs.YtfahnmpcclhjlaaGreat
set_option linter.unusedVariables false
set_option linter.unusedSectionVars false
set_option maxRecDepth 100000
open Go.ChangeShapes Go.WideShapes Go.ChangeAt Go.RowKit
set_option maxHeartbeats 4000000 in
theorem of_c3_stop2 (w : World) (v : Value) (l : List (Int × Bool)) (F : FuncId) (hent : ∀ args w, (callFunc F args).run Tryz.prog w = .ok (.enter F args) w) (c0 c1 c2 : Value) (o : Ask) (hv : LogOf w v l)
    (hF : ∀ w1 g, Below w.heap.size w w1 → w.heap.size ≤ g → RunAt w1 g l → Calls Tryz.prog F #[.pointer (some ⟨g, 0, none⟩), c0, c1, c2] w1 fun e w' => e = .panicked [{ v := .iface 78 o.v, recovered := false }, { v := .iface 78 o.v, recovered := true }] ∧ w1.grownBy w' (some g)) :
    Calls Tryz.prog 16 #[v, .func (.func F) #[] #[c0, c1, c2]] w fun e w' => e = .returned (nextV (.inl o)) ∧ Below w.heap.size w w' := by
  have hmf : ∀ (fn : Fn) (first cap : Array Value) (w : World), (Instr.makeFunc fn first cap).run Tryz.prog w = .ok (.func fn first cap) w := fun _ _ _ _ => rfl
  have HF := hF (frame4 w v) (w.heap.size + 1 + 1 + 1) (frame4_below w v) (by omega) (frame4_run hv)
  have hz0 := frame4_res w v
  have hb0 := frame4_below w v
  have hsz := frame4_size w v
  obtain ⟨W4, hW⟩ : ∃ W, W = frame4 w v := ⟨_, rfl⟩
  rw [← hW] at HF hz0 hb0 hsz
  unfold frame4 at hW
  have HF2 := Lib.hid HF
  have HZ := Lib.hid hz0
  have HB := Lib.hid hb0
  have HS := Lib.hid hsz
  clear HF hF hz0 hb0 hsz
  obtain ⟨a, c, rfl, hlog⟩ := hv
  have HL := Lib.hid hlog
  clear hlog
  go_enter_defers Tryz.func16, Tryz.ntmps16
  go_wp2_with (first | (rw [← hW]; refine HF2.out.mono ?_; rintro e w1 ⟨rfl, hg⟩; have hz := HZ.out.gb hg (by omega); have HG := Lib.hid hg; clear hg))
  have hsz2 := HG.out.size
  have hsz3 := HS.out
  unfold Ask.v
  refine leaves_cons (f := 26) (args := #[.pointer (some ⟨w.heap.size, 0, none⟩), .pointer (some ⟨w.heap.size + 1, 0, none⟩), .pointer (some ⟨w.heap.size + 1 + 1, 0, none⟩)]) (by simp) (by simp [go_sem]) ?_
  refine (catch_pend w.heap.size o.k o.p o.o o.n ByteArray.empty [{ v := .iface 78 o.v, recovered := true }] w1 (by omega) ?_ hz.a0 hz.a1 hz.a2 hz.a3 hz.a4 hz.oz.c0 hz.oz.c1 hz.oz.c2 hz.oz.c3 hz.oz.c4 hz.oz.c5 hz.oz.c6 hz.d0).mono ?_
  · intro b i h1 h2
    have h3 : b = w.heap.size ∨ b = w.heap.size + 1 ∨ b = w.heap.size + 1 + 1 := by omega
    rcases h3 with rfl | rfl | rfl
    · exact hz.fa i
    · exact hz.oz.fr i
    · exact hz.fd i
  rintro e u' w'' ⟨rfl, rfl, hb, k0, k1, k2, k3, k4, k5, k6, k7, k8, k9, k10, k11, k12⟩
  simp [Leaves, settle, List.dropWhile, results, Tryz.results16, go_sem, k0, k1, k2, k3, k4, k5, k6, k7, k8, k9, k10, k11, k12, nextV, OutD.v, Ask.v, out0]
  exact (HB.out.trans (gb_to_below HG.out (by omega) (by omega))).trans hb
end Go.Proofs.YtfahnmpcclhjlaaGreat
