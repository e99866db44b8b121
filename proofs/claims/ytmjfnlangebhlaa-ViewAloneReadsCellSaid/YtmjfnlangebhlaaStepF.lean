
/-
  Layer 16's tool: Of: the first access of an operation that its log has no result for, or its outcome.
-/
import Derived.Test.YtmjfnlangebhlaaRows
import Derived.Test.YtmjfnlangebhlaaBase
import Derived.Test.YtmjfnlangebhlaaAux
import Derived.Test.YtmjfnlangebhlaaStepB
import Derived.Test.YtmjfnlangebhlaaStepC
import Derived.Test.YtmjfnlangebhlaaStepD
import Derived.WalkKit
import Derived.WalkLawsBesides
import Derived.Defers
import Derived.Recover
namespace Go.Proofs.Ytmjfnlangebhlaa
set_option linter.unusedVariables false
set_option maxRecDepth 100000
open Go.ChangeShapes Go.WideShapes Go.ChangeAt Go.RowKit

/-- The slice v holds these results, and has room for them. -/
def LogOf (w : World) (v : Value) (l : List (Int × Bool)) : Prop :=
  ∃ a c, v = .slice a l.length c ∧ l.length ≤ c ∧ c ≤ 9223372036854775807 ∧ (l.length = 0 ∨ ∃ b o, a = some ⟨b, o, none⟩ ∧ ∀ j, j < l.length → w.cell? ⟨b, o + j * 2, none⟩ = some (.int .i64 (l.getD j (0, false)).1) ∧ w.cell? ⟨b, o + j * 2 + 1, none⟩ = some (.bool (l.getD j (0, false)).2))
theorem logOf_keep {w w' : World} {v : Value} {l : List (Int × Bool)} (h : LogOf w v l) (hb : Below w.heap.size w w') : LogOf w' v l := by
  obtain ⟨a, c, rfl, h1, h2, h3⟩ := h
  refine ⟨a, c, rfl, h1, h2, ?_⟩
  rcases h3 with h3 | ⟨b, o, rfl, h3⟩
  · exact Or.inl h3
  · exact Or.inr ⟨b, o, rfl, fun j hj => ⟨cel_below hb (h3 j hj).1, cel_below hb (h3 j hj).2⟩⟩
def ask0 : Ask := ⟨0, 0, 0, 0⟩
def out0 : OutD := {}
def nextV : Ask ⊕ OutD → Value
  | .inl a => .tuple #[a.v, out0.v, .bool false]
  | .inr o => .tuple #[ask0.v, o.v, .bool true]
def frame4 (w : World) (v : Value) : World := (((w.alloc (.cells #[.int .i64 0, .int .i64 0, .int .i64 0, .int .i64 0, .string ⟨#[]⟩] 32)).alloc (.cells #[.int .i64 0, .int .i64 0, .int .i64 0, .int .i64 0, .bool false, .bool false, .int .i64 0] 35)).alloc (.cells #[.bool false] 4)).alloc (.cells #[v] 134)
theorem frame4_run {w : World} {v : Value} {l : List (Int × Bool)} (h : LogOf w v l) : RunAt (frame4 w v) (w.heap.size + 1 + 1 + 1) l := by
  obtain ⟨a, c, rfl, h1, h2, h3⟩ := h
  refine ⟨a, c, ?_, ?_, h1, h2, ?_⟩
  · unfold frame4; rw [World.cell?_alloc_at _ _ _ _ (by simp)]; rfl
  · unfold frame4; exact World.frozen?_alloc_at _ _ _ _ (by simp)
  · rcases h3 with h3 | ⟨b, o, rfl, h3⟩
    · exact Or.inl h3
    · by_cases h0 : l.length = 0
      · exact Or.inl h0
      · have hb : b < w.heap.size := World.block_lt_of_cell? w _ (h3 0 (by omega)).1
        exact Or.inr ⟨b, o, rfl, by omega, fun j hj => ⟨by unfold frame4; exact cell_alloc _ (cell_alloc _ (cell_alloc _ (cell_alloc _ (h3 j hj).1))), by unfold frame4; exact cell_alloc _ (cell_alloc _ (cell_alloc _ (cell_alloc _ (h3 j hj).2)))⟩⟩
theorem frame4_below (w : World) (v : Value) : Below w.heap.size w (frame4 w v) := by
  unfold frame4
  exact (((Below.refl _ w).alloc (Nat.le_refl _) _).alloc (by simp) _).alloc (by simp; omega) _ |>.alloc (by simp; omega) _
theorem frame4_size (w : World) (v : Value) : (frame4 w v).heap.size = w.heap.size + 1 + 1 + 1 + 1 := by simp [frame4]
/-- The cells of Of's three results. -/
structure Res3 (w : World) (B : Nat) : Prop where
  a0 : w.cell? ⟨B, 0, none⟩ = some (.int .i64 0)
  a1 : w.cell? ⟨B, 1, none⟩ = some (.int .i64 0)
  a2 : w.cell? ⟨B, 2, none⟩ = some (.int .i64 0)
  a3 : w.cell? ⟨B, 3, none⟩ = some (.int .i64 0)
  a4 : w.cell? ⟨B, 4, none⟩ = some (.string ByteArray.empty)
  oz : OutZ w (B + 1)
  d0 : w.cell? ⟨B + 1 + 1, 0, none⟩ = some (.bool false)
  fa : ∀ o, w.frozen? ⟨B, o, none⟩ = false
  fd : ∀ o, w.frozen? ⟨B + 1 + 1, o, none⟩ = false
theorem frame4_res (w : World) (v : Value) : Res3 (frame4 w v) w.heap.size := by
  have hz : OutZ (frame4 w v) (w.heap.size + 1) := by
    have := OutZ.new (w.alloc (.cells #[.int .i64 0, .int .i64 0, .int .i64 0, .int .i64 0, .string ⟨#[]⟩] 32)) 35
    simp at this
    exact OutZ.below (OutZ.below this (below_new1 _ _)) (below_new1 _ _)
  have fr : ∀ o, (frame4 w v).frozen? ⟨w.heap.size, o, none⟩ = false := fun o => frozen_alloc _ (by simp; omega) (frozen_alloc _ (by simp; omega) (frozen_alloc _ (by simp) (World.frozen?_alloc_at _ _ _ _ rfl)))
  have fd : ∀ o, (frame4 w v).frozen? ⟨w.heap.size + 1 + 1, o, none⟩ = false := fun o => frozen_alloc _ (by simp) (World.frozen?_alloc_at _ _ _ _ (by simp))
  constructor
  · exact cell_alloc _ (cell_alloc _ (cell_alloc _ (by rw [World.cell?_alloc_at _ _ _ _ rfl]; rfl)))
  · exact cell_alloc _ (cell_alloc _ (cell_alloc _ (by rw [World.cell?_alloc_at _ _ _ _ rfl]; rfl)))
  · exact cell_alloc _ (cell_alloc _ (cell_alloc _ (by rw [World.cell?_alloc_at _ _ _ _ rfl]; rfl)))
  · exact cell_alloc _ (cell_alloc _ (cell_alloc _ (by rw [World.cell?_alloc_at _ _ _ _ rfl]; rfl)))
  · exact cell_alloc _ (cell_alloc _ (cell_alloc _ (by rw [World.cell?_alloc_at _ _ _ _ rfl]; rfl)))
  · exact hz
  · exact cell_alloc _ (by rw [World.cell?_alloc_at _ _ _ _ (by simp)]; rfl)
  · exact fr
  · exact fd
theorem res3_at {w : World} {B : Nat} (h : Res3 w B) (v0 v1 v2 v3 v4 v5 v6 v7 v8 v9 v10 v11 v12 : Value) : ∃ W, W = (((((((((((((w.setCell ⟨B, 0, none⟩ v0).setCell ⟨B, 1, none⟩ v1).setCell ⟨B, 2, none⟩ v2).setCell ⟨B, 3, none⟩ v3).setCell ⟨B, 4, none⟩ v4).setCell ⟨B + 1, 0, none⟩ v5).setCell ⟨B + 1, 1, none⟩ v6).setCell ⟨B + 1, 2, none⟩ v7).setCell ⟨B + 1, 3, none⟩ v8).setCell ⟨B + 1, 4, none⟩ v9).setCell ⟨B + 1, 5, none⟩ v10).setCell ⟨B + 1, 6, none⟩ v11).setCell ⟨B + 1 + 1, 0, none⟩ v12) ∧ W.cell? ⟨B, 0, none⟩ = some v0 ∧ W.cell? ⟨B, 1, none⟩ = some v1 ∧ W.cell? ⟨B, 2, none⟩ = some v2 ∧ W.cell? ⟨B, 3, none⟩ = some v3 ∧ W.cell? ⟨B, 4, none⟩ = some v4 ∧ W.cell? ⟨B + 1, 0, none⟩ = some v5 ∧ W.cell? ⟨B + 1, 1, none⟩ = some v6 ∧ W.cell? ⟨B + 1, 2, none⟩ = some v7 ∧ W.cell? ⟨B + 1, 3, none⟩ = some v8 ∧ W.cell? ⟨B + 1, 4, none⟩ = some v9 ∧ W.cell? ⟨B + 1, 5, none⟩ = some v10 ∧ W.cell? ⟨B + 1, 6, none⟩ = some v11 ∧ W.cell? ⟨B + 1 + 1, 0, none⟩ = some v12 := by
  refine ⟨_, rfl, ?_, ?_, ?_, ?_, ?_, ?_, ?_, ?_, ?_, ?_, ?_, ?_, ?_⟩
  · exact (keepA_ (keepA_ (keepA_ (keepA_ (keepA_ (keepA_ (keepA_ (keepA_ (keepA_ (keepA_ (keepA_ (keepA_ (World.cell?_setCell_same _ _ _ h.a0) (by omega)) (by omega)) (by omega)) (by omega)) (by omega)) (by omega)) (by omega)) (by omega)) (by omega)) (by omega)) (by omega)) (by omega))
  · exact (keepA_ (keepA_ (keepA_ (keepA_ (keepA_ (keepA_ (keepA_ (keepA_ (keepA_ (keepA_ (keepA_ (World.cell?_setCell_same _ _ _ (keepA_ h.a1 (by omega))) (by omega)) (by omega)) (by omega)) (by omega)) (by omega)) (by omega)) (by omega)) (by omega)) (by omega)) (by omega)) (by omega))
  · exact (keepA_ (keepA_ (keepA_ (keepA_ (keepA_ (keepA_ (keepA_ (keepA_ (keepA_ (keepA_ (World.cell?_setCell_same _ _ _ (keepA_ (keepA_ h.a2 (by omega)) (by omega))) (by omega)) (by omega)) (by omega)) (by omega)) (by omega)) (by omega)) (by omega)) (by omega)) (by omega)) (by omega))
  · exact (keepA_ (keepA_ (keepA_ (keepA_ (keepA_ (keepA_ (keepA_ (keepA_ (keepA_ (World.cell?_setCell_same _ _ _ (keepA_ (keepA_ (keepA_ h.a3 (by omega)) (by omega)) (by omega))) (by omega)) (by omega)) (by omega)) (by omega)) (by omega)) (by omega)) (by omega)) (by omega)) (by omega))
  · exact (keepA_ (keepA_ (keepA_ (keepA_ (keepA_ (keepA_ (keepA_ (keepA_ (World.cell?_setCell_same _ _ _ (keepA_ (keepA_ (keepA_ (keepA_ h.a4 (by omega)) (by omega)) (by omega)) (by omega))) (by omega)) (by omega)) (by omega)) (by omega)) (by omega)) (by omega)) (by omega)) (by omega))
  · exact (keepA_ (keepA_ (keepA_ (keepA_ (keepA_ (keepA_ (keepA_ (World.cell?_setCell_same _ _ _ (keepA_ (keepA_ (keepA_ (keepA_ (keepA_ h.oz.c0 (by omega)) (by omega)) (by omega)) (by omega)) (by omega))) (by omega)) (by omega)) (by omega)) (by omega)) (by omega)) (by omega)) (by omega))
  · exact (keepA_ (keepA_ (keepA_ (keepA_ (keepA_ (keepA_ (World.cell?_setCell_same _ _ _ (keepA_ (keepA_ (keepA_ (keepA_ (keepA_ (keepA_ h.oz.c1 (by omega)) (by omega)) (by omega)) (by omega)) (by omega)) (by omega))) (by omega)) (by omega)) (by omega)) (by omega)) (by omega)) (by omega))
  · exact (keepA_ (keepA_ (keepA_ (keepA_ (keepA_ (World.cell?_setCell_same _ _ _ (keepA_ (keepA_ (keepA_ (keepA_ (keepA_ (keepA_ (keepA_ h.oz.c2 (by omega)) (by omega)) (by omega)) (by omega)) (by omega)) (by omega)) (by omega))) (by omega)) (by omega)) (by omega)) (by omega)) (by omega))
  · exact (keepA_ (keepA_ (keepA_ (keepA_ (World.cell?_setCell_same _ _ _ (keepA_ (keepA_ (keepA_ (keepA_ (keepA_ (keepA_ (keepA_ (keepA_ h.oz.c3 (by omega)) (by omega)) (by omega)) (by omega)) (by omega)) (by omega)) (by omega)) (by omega))) (by omega)) (by omega)) (by omega)) (by omega))
  · exact (keepA_ (keepA_ (keepA_ (World.cell?_setCell_same _ _ _ (keepA_ (keepA_ (keepA_ (keepA_ (keepA_ (keepA_ (keepA_ (keepA_ (keepA_ h.oz.c4 (by omega)) (by omega)) (by omega)) (by omega)) (by omega)) (by omega)) (by omega)) (by omega)) (by omega))) (by omega)) (by omega)) (by omega))
  · exact (keepA_ (keepA_ (World.cell?_setCell_same _ _ _ (keepA_ (keepA_ (keepA_ (keepA_ (keepA_ (keepA_ (keepA_ (keepA_ (keepA_ (keepA_ h.oz.c5 (by omega)) (by omega)) (by omega)) (by omega)) (by omega)) (by omega)) (by omega)) (by omega)) (by omega)) (by omega))) (by omega)) (by omega))
  · exact (keepA_ (World.cell?_setCell_same _ _ _ (keepA_ (keepA_ (keepA_ (keepA_ (keepA_ (keepA_ (keepA_ (keepA_ (keepA_ (keepA_ (keepA_ h.oz.c6 (by omega)) (by omega)) (by omega)) (by omega)) (by omega)) (by omega)) (by omega)) (by omega)) (by omega)) (by omega)) (by omega))) (by omega))
  · exact (World.cell?_setCell_same _ _ _ (keepA_ (keepA_ (keepA_ (keepA_ (keepA_ (keepA_ (keepA_ (keepA_ (keepA_ (keepA_ (keepA_ (keepA_ h.d0 (by omega)) (by omega)) (by omega)) (by omega)) (by omega)) (by omega)) (by omega)) (by omega)) (by omega)) (by omega)) (by omega)) (by omega)))
theorem res3_below {w w' : World} {B : Nat} (h : Below B w w') (v0 v1 v2 v3 v4 v5 v6 v7 v8 v9 v10 v11 v12 : Value) : Below B w (((((((((((((w'.setCell ⟨B, 0, none⟩ v0).setCell ⟨B, 1, none⟩ v1).setCell ⟨B, 2, none⟩ v2).setCell ⟨B, 3, none⟩ v3).setCell ⟨B, 4, none⟩ v4).setCell ⟨B + 1, 0, none⟩ v5).setCell ⟨B + 1, 1, none⟩ v6).setCell ⟨B + 1, 2, none⟩ v7).setCell ⟨B + 1, 3, none⟩ v8).setCell ⟨B + 1, 4, none⟩ v9).setCell ⟨B + 1, 5, none⟩ v10).setCell ⟨B + 1, 6, none⟩ v11).setCell ⟨B + 1 + 1, 0, none⟩ v12) :=
  (Below.setCell (p := ⟨B + 1 + 1, 0, none⟩) (Below.setCell (p := ⟨B + 1, 6, none⟩) (Below.setCell (p := ⟨B + 1, 5, none⟩) (Below.setCell (p := ⟨B + 1, 4, none⟩) (Below.setCell (p := ⟨B + 1, 3, none⟩) (Below.setCell (p := ⟨B + 1, 2, none⟩) (Below.setCell (p := ⟨B + 1, 1, none⟩) (Below.setCell (p := ⟨B + 1, 0, none⟩) (Below.setCell (p := ⟨B, 4, none⟩) (Below.setCell (p := ⟨B, 3, none⟩) (Below.setCell (p := ⟨B, 2, none⟩) (Below.setCell (p := ⟨B, 1, none⟩) (Below.setCell (p := ⟨B, 0, none⟩) h (by dsimp only; omega) v0) (by dsimp only; omega) v1) (by dsimp only; omega) v2) (by dsimp only; omega) v3) (by dsimp only; omega) v4) (by dsimp only; omega) v5) (by dsimp only; omega) v6) (by dsimp only; omega) v7) (by dsimp only; omega) v8) (by dsimp only; omega) v9) (by dsimp only; omega) v10) (by dsimp only; omega) v11) (by dsimp only; omega) v12)
theorem Res3.gb {w w' : World} {B g : Nat} (h : Res3 w B) (hg : w.grownBy w' (some g)) (hB : B + 1 + 1 < g) : Res3 w' B := by
  have hl := World.block_lt_of_cell? w _ h.d0
  dsimp only at hl
  have h1 : w'.heap[B]? = w.heap[B]? := hg.block B (by omega) (by simp; omega)
  have h2 : w'.heap[B + 1 + 1]? = w.heap[B + 1 + 1]? := hg.block (B + 1 + 1) (by omega) (by simp; omega)
  exact ⟨(World.cell?_of_block (a := ⟨B, 0, none⟩) h1).trans h.a0, (World.cell?_of_block (a := ⟨B, 1, none⟩) h1).trans h.a1, (World.cell?_of_block (a := ⟨B, 2, none⟩) h1).trans h.a2, (World.cell?_of_block (a := ⟨B, 3, none⟩) h1).trans h.a3, (World.cell?_of_block (a := ⟨B, 4, none⟩) h1).trans h.a4, h.oz.gb hg (by omega), (World.cell?_of_block (a := ⟨B + 1 + 1, 0, none⟩) h2).trans h.d0,
    fun o => (World.frozen?_of_block (a := ⟨B, o, none⟩) h1).trans (h.fa o), fun o => (World.frozen?_of_block (a := ⟨B + 1 + 1, o, none⟩) h2).trans (h.fd o)⟩

set_option maxHeartbeats 4000000 in
theorem of_c2_ret (w : World) (v : Value) (l : List (Int × Bool)) (F : FuncId) (hent : ∀ args w, (callFunc F args).run Try.prog w = .ok (.enter F args) w) (c0 c1 : Value) (o : OutD) (hv : LogOf w v l)
    (hF : ∀ w1 g, Below w.heap.size w w1 → w.heap.size ≤ g → RunAt w1 g l → Calls Try.prog F #[.pointer (some ⟨g, 0, none⟩), c0, c1] w1 (OpPost (.inr o) g w1)) :
    Calls Try.prog 41 #[v, .func (.func F) #[] #[c0, c1]] w fun e w' => e = .returned (nextV (.inr o)) ∧ Below w.heap.size w w' := by
  have hmf : ∀ (fn : Fn) (first cap : Array Value) (w : World), (Instr.makeFunc fn first cap).run Try.prog w = .ok (.func fn first cap) w := fun _ _ _ _ => rfl
  have HF := hF (frame4 w v) (w.heap.size + 1 + 1 + 1) (frame4_below w v) (by omega) (frame4_run hv)
  have hz0 := frame4_res w v
  have hb0 := frame4_below w v
  have hsz := frame4_size w v
  obtain ⟨W4, hW⟩ : ∃ W, W = frame4 w v := ⟨_, rfl⟩
  rw [← hW] at HF hz0 hb0 hsz
  unfold frame4 at hW
  have HF2 := Lib.hid HF
  have HZ := Lib.hid hz0
  have HB := Lib.hid hb0
  have HS := Lib.hid hsz
  clear HF hF hz0 hb0 hsz
  obtain ⟨a, c, rfl, hlog⟩ := hv
  have HL := Lib.hid hlog
  clear hlog
  go_enter_defers Try.func41, Try.ntmps41
  go_wp2_with (first | (rw [← hW]; refine HF2.out.mono ?_; rintro e w1 ⟨rfl, hg⟩; have hz := HZ.out.gb hg (by omega); have HG := Lib.hid hg; clear hg; have a0 := hz.a0; have a1 := hz.a1; have a2 := hz.a2; have a3 := hz.a3; have a4 := hz.a4; have q0 := hz.oz.c0; have q1 := hz.oz.c1; have q2 := hz.oz.c2; have q3 := hz.oz.c3; have q4 := hz.oz.c4; have q5 := hz.oz.c5; have q6 := hz.oz.c6; have d0 := hz.d0; have fa := hz.fa; have fq := hz.oz.fr; have fd := hz.fd; unfold OutD.v))
  obtain ⟨W, hWW, k0, k1, k2, k3, k4, k5, k6, k7, k8, k9, k10, k11, k12⟩ := res3_at hz (.int .i64 0) (.int .i64 0) (.int .i64 0) (.int .i64 0) (.string ⟨#[]⟩) (.int .i64 o.val) (.int .i64 o.ver) (.int .i64 o.rv) (.int .i64 o.st) (.bool o.ok) (.bool o.lost) (.int .i64 o.err) (.bool true)
  rw [← hWW]
  refine leaves_cons (f := 86) (args := #[.pointer (some ⟨w.heap.size, 0, none⟩), .pointer (some ⟨w.heap.size + 1, 0, none⟩), .pointer (some ⟨w.heap.size + 1 + 1, 0, none⟩)]) (by simp) (by simp [go_sem]) ?_
  refine (catch_idle _ _ _ _).mono ?_
  rintro e u' w'' ⟨rfl, rfl, rfl⟩
  simp [Leaves, settle, results, Try.results41, go_sem, k0, k1, k2, k3, k4, k5, k6, k7, k8, k9, k10, k11, k12, nextV, OutD.v, Ask.v, ask0, ByteArray.empty, ByteArray.emptyWithCapacity]
  rw [hWW]
  exact ⟨rfl, res3_below (HB.out.trans (gb_to_below HG.out (by omega) (by have := HS.out; omega))) _ _ _ _ _ _ _ _ _ _ _ _ _⟩

set_option maxHeartbeats 4000000 in
theorem of_c2_stop (w : World) (v : Value) (l : List (Int × Bool)) (F : FuncId) (hent : ∀ args w, (callFunc F args).run Try.prog w = .ok (.enter F args) w) (c0 c1 : Value) (o : Ask) (hv : LogOf w v l)
    (hF : ∀ w1 g, Below w.heap.size w w1 → w.heap.size ≤ g → RunAt w1 g l → Calls Try.prog F #[.pointer (some ⟨g, 0, none⟩), c0, c1] w1 (OpPost (.inl o) g w1)) :
    Calls Try.prog 41 #[v, .func (.func F) #[] #[c0, c1]] w fun e w' => e = .returned (nextV (.inl o)) ∧ Below w.heap.size w w' := by
  have hmf : ∀ (fn : Fn) (first cap : Array Value) (w : World), (Instr.makeFunc fn first cap).run Try.prog w = .ok (.func fn first cap) w := fun _ _ _ _ => rfl
  have HF := hF (frame4 w v) (w.heap.size + 1 + 1 + 1) (frame4_below w v) (by omega) (frame4_run hv)
  have hz0 := frame4_res w v
  have hb0 := frame4_below w v
  have hsz := frame4_size w v
  obtain ⟨W4, hW⟩ : ∃ W, W = frame4 w v := ⟨_, rfl⟩
  rw [← hW] at HF hz0 hb0 hsz
  unfold frame4 at hW
  have HF2 := Lib.hid HF
  have HZ := Lib.hid hz0
  have HB := Lib.hid hb0
  have HS := Lib.hid hsz
  clear HF hF hz0 hb0 hsz
  obtain ⟨a, c, rfl, hlog⟩ := hv
  have HL := Lib.hid hlog
  clear hlog
  go_enter_defers Try.func41, Try.ntmps41
  go_wp2_with (first | (rw [← hW]; refine HF2.out.mono ?_; rintro e w1 ⟨rfl, hg⟩; have hz := HZ.out.gb hg (by omega); have HG := Lib.hid hg; clear hg))
  have hsz2 := HG.out.size
  have hsz3 := HS.out
  unfold Ask.v
  refine leaves_cons (f := 86) (args := #[.pointer (some ⟨w.heap.size, 0, none⟩), .pointer (some ⟨w.heap.size + 1, 0, none⟩), .pointer (some ⟨w.heap.size + 1 + 1, 0, none⟩)]) (by simp) (by simp [go_sem]) ?_
  refine (catch_pend w.heap.size o.k o.p o.o o.n ByteArray.empty [] w1 (by omega) ?_ hz.a0 hz.a1 hz.a2 hz.a3 hz.a4 hz.oz.c0 hz.oz.c1 hz.oz.c2 hz.oz.c3 hz.oz.c4 hz.oz.c5 hz.oz.c6 hz.d0).mono ?_
  · intro b i h1 h2
    have h3 : b = w.heap.size ∨ b = w.heap.size + 1 ∨ b = w.heap.size + 1 + 1 := by omega
    rcases h3 with rfl | rfl | rfl
    · exact hz.fa i
    · exact hz.oz.fr i
    · exact hz.fd i
  rintro e u' w'' ⟨rfl, rfl, hb, k0, k1, k2, k3, k4, k5, k6, k7, k8, k9, k10, k11, k12⟩
  simp [Leaves, settle, results, Try.results41, go_sem, k0, k1, k2, k3, k4, k5, k6, k7, k8, k9, k10, k11, k12, nextV, OutD.v, Ask.v, out0]
  exact (HB.out.trans (gb_to_below HG.out (by omega) (by omega))).trans hb

theorem of_c2 (w : World) (v : Value) (l : List (Int × Bool)) (F : FuncId) (hent : ∀ args w, (callFunc F args).run Try.prog w = .ok (.enter F args) w) (c0 c1 : Value) (x : Ask ⊕ OutD) (hv : LogOf w v l)
    (hF : ∀ w1 g, Below w.heap.size w w1 → w.heap.size ≤ g → RunAt w1 g l → Calls Try.prog F #[.pointer (some ⟨g, 0, none⟩), c0, c1] w1 (OpPost x g w1)) :
    Calls Try.prog 41 #[v, .func (.func F) #[] #[c0, c1]] w fun e w' => e = .returned (nextV x) ∧ Below w.heap.size w w' :=
  match x, hF with
  | .inr o, hF => of_c2_ret w v l F hent c0 c1 o hv hF
  | .inl o, hF => of_c2_stop w v l F hent c0 c1 o hv hF

set_option maxHeartbeats 4000000 in
theorem of_c3_ret (w : World) (v : Value) (l : List (Int × Bool)) (F : FuncId) (hent : ∀ args w, (callFunc F args).run Try.prog w = .ok (.enter F args) w) (c0 c1 c2 : Value) (o : OutD) (hv : LogOf w v l)
    (hF : ∀ w1 g, Below w.heap.size w w1 → w.heap.size ≤ g → RunAt w1 g l → Calls Try.prog F #[.pointer (some ⟨g, 0, none⟩), c0, c1, c2] w1 (OpPost (.inr o) g w1)) :
    Calls Try.prog 41 #[v, .func (.func F) #[] #[c0, c1, c2]] w fun e w' => e = .returned (nextV (.inr o)) ∧ Below w.heap.size w w' := by
  have hmf : ∀ (fn : Fn) (first cap : Array Value) (w : World), (Instr.makeFunc fn first cap).run Try.prog w = .ok (.func fn first cap) w := fun _ _ _ _ => rfl
  have HF := hF (frame4 w v) (w.heap.size + 1 + 1 + 1) (frame4_below w v) (by omega) (frame4_run hv)
  have hz0 := frame4_res w v
  have hb0 := frame4_below w v
  have hsz := frame4_size w v
  obtain ⟨W4, hW⟩ : ∃ W, W = frame4 w v := ⟨_, rfl⟩
  rw [← hW] at HF hz0 hb0 hsz
  unfold frame4 at hW
  have HF2 := Lib.hid HF
  have HZ := Lib.hid hz0
  have HB := Lib.hid hb0
  have HS := Lib.hid hsz
  clear HF hF hz0 hb0 hsz
  obtain ⟨a, c, rfl, hlog⟩ := hv
  have HL := Lib.hid hlog
  clear hlog
  go_enter_defers Try.func41, Try.ntmps41
  go_wp2_with (first | (rw [← hW]; refine HF2.out.mono ?_; rintro e w1 ⟨rfl, hg⟩; have hz := HZ.out.gb hg (by omega); have HG := Lib.hid hg; clear hg; have a0 := hz.a0; have a1 := hz.a1; have a2 := hz.a2; have a3 := hz.a3; have a4 := hz.a4; have q0 := hz.oz.c0; have q1 := hz.oz.c1; have q2 := hz.oz.c2; have q3 := hz.oz.c3; have q4 := hz.oz.c4; have q5 := hz.oz.c5; have q6 := hz.oz.c6; have d0 := hz.d0; have fa := hz.fa; have fq := hz.oz.fr; have fd := hz.fd; unfold OutD.v))
  obtain ⟨W, hWW, k0, k1, k2, k3, k4, k5, k6, k7, k8, k9, k10, k11, k12⟩ := res3_at hz (.int .i64 0) (.int .i64 0) (.int .i64 0) (.int .i64 0) (.string ⟨#[]⟩) (.int .i64 o.val) (.int .i64 o.ver) (.int .i64 o.rv) (.int .i64 o.st) (.bool o.ok) (.bool o.lost) (.int .i64 o.err) (.bool true)
  rw [← hWW]
  refine leaves_cons (f := 86) (args := #[.pointer (some ⟨w.heap.size, 0, none⟩), .pointer (some ⟨w.heap.size + 1, 0, none⟩), .pointer (some ⟨w.heap.size + 1 + 1, 0, none⟩)]) (by simp) (by simp [go_sem]) ?_
  refine (catch_idle _ _ _ _).mono ?_
  rintro e u' w'' ⟨rfl, rfl, rfl⟩
  simp [Leaves, settle, results, Try.results41, go_sem, k0, k1, k2, k3, k4, k5, k6, k7, k8, k9, k10, k11, k12, nextV, OutD.v, Ask.v, ask0, ByteArray.empty, ByteArray.emptyWithCapacity]
  rw [hWW]
  exact ⟨rfl, res3_below (HB.out.trans (gb_to_below HG.out (by omega) (by have := HS.out; omega))) _ _ _ _ _ _ _ _ _ _ _ _ _⟩

set_option maxHeartbeats 4000000 in
theorem of_c3_stop (w : World) (v : Value) (l : List (Int × Bool)) (F : FuncId) (hent : ∀ args w, (callFunc F args).run Try.prog w = .ok (.enter F args) w) (c0 c1 c2 : Value) (o : Ask) (hv : LogOf w v l)
    (hF : ∀ w1 g, Below w.heap.size w w1 → w.heap.size ≤ g → RunAt w1 g l → Calls Try.prog F #[.pointer (some ⟨g, 0, none⟩), c0, c1, c2] w1 (OpPost (.inl o) g w1)) :
    Calls Try.prog 41 #[v, .func (.func F) #[] #[c0, c1, c2]] w fun e w' => e = .returned (nextV (.inl o)) ∧ Below w.heap.size w w' := by
  have hmf : ∀ (fn : Fn) (first cap : Array Value) (w : World), (Instr.makeFunc fn first cap).run Try.prog w = .ok (.func fn first cap) w := fun _ _ _ _ => rfl
  have HF := hF (frame4 w v) (w.heap.size + 1 + 1 + 1) (frame4_below w v) (by omega) (frame4_run hv)
  have hz0 := frame4_res w v
  have hb0 := frame4_below w v
  have hsz := frame4_size w v
  obtain ⟨W4, hW⟩ : ∃ W, W = frame4 w v := ⟨_, rfl⟩
  rw [← hW] at HF hz0 hb0 hsz
  unfold frame4 at hW
  have HF2 := Lib.hid HF
  have HZ := Lib.hid hz0
  have HB := Lib.hid hb0
  have HS := Lib.hid hsz
  clear HF hF hz0 hb0 hsz
  obtain ⟨a, c, rfl, hlog⟩ := hv
  have HL := Lib.hid hlog
  clear hlog
  go_enter_defers Try.func41, Try.ntmps41
  go_wp2_with (first | (rw [← hW]; refine HF2.out.mono ?_; rintro e w1 ⟨rfl, hg⟩; have hz := HZ.out.gb hg (by omega); have HG := Lib.hid hg; clear hg))
  have hsz2 := HG.out.size
  have hsz3 := HS.out
  unfold Ask.v
  refine leaves_cons (f := 86) (args := #[.pointer (some ⟨w.heap.size, 0, none⟩), .pointer (some ⟨w.heap.size + 1, 0, none⟩), .pointer (some ⟨w.heap.size + 1 + 1, 0, none⟩)]) (by simp) (by simp [go_sem]) ?_
  refine (catch_pend w.heap.size o.k o.p o.o o.n ByteArray.empty [] w1 (by omega) ?_ hz.a0 hz.a1 hz.a2 hz.a3 hz.a4 hz.oz.c0 hz.oz.c1 hz.oz.c2 hz.oz.c3 hz.oz.c4 hz.oz.c5 hz.oz.c6 hz.d0).mono ?_
  · intro b i h1 h2
    have h3 : b = w.heap.size ∨ b = w.heap.size + 1 ∨ b = w.heap.size + 1 + 1 := by omega
    rcases h3 with rfl | rfl | rfl
    · exact hz.fa i
    · exact hz.oz.fr i
    · exact hz.fd i
  rintro e u' w'' ⟨rfl, rfl, hb, k0, k1, k2, k3, k4, k5, k6, k7, k8, k9, k10, k11, k12⟩
  simp [Leaves, settle, results, Try.results41, go_sem, k0, k1, k2, k3, k4, k5, k6, k7, k8, k9, k10, k11, k12, nextV, OutD.v, Ask.v, out0]
  exact (HB.out.trans (gb_to_below HG.out (by omega) (by omega))).trans hb

theorem of_c3 (w : World) (v : Value) (l : List (Int × Bool)) (F : FuncId) (hent : ∀ args w, (callFunc F args).run Try.prog w = .ok (.enter F args) w) (c0 c1 c2 : Value) (x : Ask ⊕ OutD) (hv : LogOf w v l)
    (hF : ∀ w1 g, Below w.heap.size w w1 → w.heap.size ≤ g → RunAt w1 g l → Calls Try.prog F #[.pointer (some ⟨g, 0, none⟩), c0, c1, c2] w1 (OpPost x g w1)) :
    Calls Try.prog 41 #[v, .func (.func F) #[] #[c0, c1, c2]] w fun e w' => e = .returned (nextV x) ∧ Below w.heap.size w w' :=
  match x, hF with
  | .inr o, hF => of_c3_ret w v l F hent c0 c1 c2 o hv hF
  | .inl o, hF => of_c3_stop w v l F hent c0 c1 c2 o hv hF

set_option maxHeartbeats 4000000 in
theorem of_m1_ret (w : World) (v : Value) (l : List (Int × Bool)) (F : FuncId) (hent : ∀ args w, (callFunc F args).run Try.prog w = .ok (.enter F args) w) (c0 : Value) (o : OutD) (hv : LogOf w v l)
    (hF : ∀ w1 g, Below w.heap.size w w1 → w.heap.size ≤ g → RunAt w1 g l → Calls Try.prog F #[c0, .pointer (some ⟨g, 0, none⟩)] w1 (OpPost (.inr o) g w1)) :
    Calls Try.prog 41 #[v, .func (.func F) #[c0] #[]] w fun e w' => e = .returned (nextV (.inr o)) ∧ Below w.heap.size w w' := by
  have hmf : ∀ (fn : Fn) (first cap : Array Value) (w : World), (Instr.makeFunc fn first cap).run Try.prog w = .ok (.func fn first cap) w := fun _ _ _ _ => rfl
  have HF := hF (frame4 w v) (w.heap.size + 1 + 1 + 1) (frame4_below w v) (by omega) (frame4_run hv)
  have hz0 := frame4_res w v
  have hb0 := frame4_below w v
  have hsz := frame4_size w v
  obtain ⟨W4, hW⟩ : ∃ W, W = frame4 w v := ⟨_, rfl⟩
  rw [← hW] at HF hz0 hb0 hsz
  unfold frame4 at hW
  have HF2 := Lib.hid HF
  have HZ := Lib.hid hz0
  have HB := Lib.hid hb0
  have HS := Lib.hid hsz
  clear HF hF hz0 hb0 hsz
  obtain ⟨a, c, rfl, hlog⟩ := hv
  have HL := Lib.hid hlog
  clear hlog
  go_enter_defers Try.func41, Try.ntmps41
  go_wp2_with (first | (rw [← hW]; refine HF2.out.mono ?_; rintro e w1 ⟨rfl, hg⟩; have hz := HZ.out.gb hg (by omega); have HG := Lib.hid hg; clear hg; have a0 := hz.a0; have a1 := hz.a1; have a2 := hz.a2; have a3 := hz.a3; have a4 := hz.a4; have q0 := hz.oz.c0; have q1 := hz.oz.c1; have q2 := hz.oz.c2; have q3 := hz.oz.c3; have q4 := hz.oz.c4; have q5 := hz.oz.c5; have q6 := hz.oz.c6; have d0 := hz.d0; have fa := hz.fa; have fq := hz.oz.fr; have fd := hz.fd; unfold OutD.v))
  obtain ⟨W, hWW, k0, k1, k2, k3, k4, k5, k6, k7, k8, k9, k10, k11, k12⟩ := res3_at hz (.int .i64 0) (.int .i64 0) (.int .i64 0) (.int .i64 0) (.string ⟨#[]⟩) (.int .i64 o.val) (.int .i64 o.ver) (.int .i64 o.rv) (.int .i64 o.st) (.bool o.ok) (.bool o.lost) (.int .i64 o.err) (.bool true)
  rw [← hWW]
  refine leaves_cons (f := 86) (args := #[.pointer (some ⟨w.heap.size, 0, none⟩), .pointer (some ⟨w.heap.size + 1, 0, none⟩), .pointer (some ⟨w.heap.size + 1 + 1, 0, none⟩)]) (by simp) (by simp [go_sem]) ?_
  refine (catch_idle _ _ _ _).mono ?_
  rintro e u' w'' ⟨rfl, rfl, rfl⟩
  simp [Leaves, settle, results, Try.results41, go_sem, k0, k1, k2, k3, k4, k5, k6, k7, k8, k9, k10, k11, k12, nextV, OutD.v, Ask.v, ask0, ByteArray.empty, ByteArray.emptyWithCapacity]
  rw [hWW]
  exact ⟨rfl, res3_below (HB.out.trans (gb_to_below HG.out (by omega) (by have := HS.out; omega))) _ _ _ _ _ _ _ _ _ _ _ _ _⟩

set_option maxHeartbeats 4000000 in
theorem of_m1_stop (w : World) (v : Value) (l : List (Int × Bool)) (F : FuncId) (hent : ∀ args w, (callFunc F args).run Try.prog w = .ok (.enter F args) w) (c0 : Value) (o : Ask) (hv : LogOf w v l)
    (hF : ∀ w1 g, Below w.heap.size w w1 → w.heap.size ≤ g → RunAt w1 g l → Calls Try.prog F #[c0, .pointer (some ⟨g, 0, none⟩)] w1 (OpPost (.inl o) g w1)) :
    Calls Try.prog 41 #[v, .func (.func F) #[c0] #[]] w fun e w' => e = .returned (nextV (.inl o)) ∧ Below w.heap.size w w' := by
  have hmf : ∀ (fn : Fn) (first cap : Array Value) (w : World), (Instr.makeFunc fn first cap).run Try.prog w = .ok (.func fn first cap) w := fun _ _ _ _ => rfl
  have HF := hF (frame4 w v) (w.heap.size + 1 + 1 + 1) (frame4_below w v) (by omega) (frame4_run hv)
  have hz0 := frame4_res w v
  have hb0 := frame4_below w v
  have hsz := frame4_size w v
  obtain ⟨W4, hW⟩ : ∃ W, W = frame4 w v := ⟨_, rfl⟩
  rw [← hW] at HF hz0 hb0 hsz
  unfold frame4 at hW
  have HF2 := Lib.hid HF
  have HZ := Lib.hid hz0
  have HB := Lib.hid hb0
  have HS := Lib.hid hsz
  clear HF hF hz0 hb0 hsz
  obtain ⟨a, c, rfl, hlog⟩ := hv
  have HL := Lib.hid hlog
  clear hlog
  go_enter_defers Try.func41, Try.ntmps41
  go_wp2_with (first | (rw [← hW]; refine HF2.out.mono ?_; rintro e w1 ⟨rfl, hg⟩; have hz := HZ.out.gb hg (by omega); have HG := Lib.hid hg; clear hg))
  have hsz2 := HG.out.size
  have hsz3 := HS.out
  unfold Ask.v
  refine leaves_cons (f := 86) (args := #[.pointer (some ⟨w.heap.size, 0, none⟩), .pointer (some ⟨w.heap.size + 1, 0, none⟩), .pointer (some ⟨w.heap.size + 1 + 1, 0, none⟩)]) (by simp) (by simp [go_sem]) ?_
  refine (catch_pend w.heap.size o.k o.p o.o o.n ByteArray.empty [] w1 (by omega) ?_ hz.a0 hz.a1 hz.a2 hz.a3 hz.a4 hz.oz.c0 hz.oz.c1 hz.oz.c2 hz.oz.c3 hz.oz.c4 hz.oz.c5 hz.oz.c6 hz.d0).mono ?_
  · intro b i h1 h2
    have h3 : b = w.heap.size ∨ b = w.heap.size + 1 ∨ b = w.heap.size + 1 + 1 := by omega
    rcases h3 with rfl | rfl | rfl
    · exact hz.fa i
    · exact hz.oz.fr i
    · exact hz.fd i
  rintro e u' w'' ⟨rfl, rfl, hb, k0, k1, k2, k3, k4, k5, k6, k7, k8, k9, k10, k11, k12⟩
  simp [Leaves, settle, results, Try.results41, go_sem, k0, k1, k2, k3, k4, k5, k6, k7, k8, k9, k10, k11, k12, nextV, OutD.v, Ask.v, out0]
  exact (HB.out.trans (gb_to_below HG.out (by omega) (by omega))).trans hb

theorem of_m1 (w : World) (v : Value) (l : List (Int × Bool)) (F : FuncId) (hent : ∀ args w, (callFunc F args).run Try.prog w = .ok (.enter F args) w) (c0 : Value) (x : Ask ⊕ OutD) (hv : LogOf w v l)
    (hF : ∀ w1 g, Below w.heap.size w w1 → w.heap.size ≤ g → RunAt w1 g l → Calls Try.prog F #[c0, .pointer (some ⟨g, 0, none⟩)] w1 (OpPost x g w1)) :
    Calls Try.prog 41 #[v, .func (.func F) #[c0] #[]] w fun e w' => e = .returned (nextV x) ∧ Below w.heap.size w w' :=
  match x, hF with
  | .inr o, hF => of_m1_ret w v l F hent c0 o hv hF
  | .inl o, hF => of_m1_stop w v l F hent c0 o hv hF

end Go.Proofs.Ytmjfnlangebhlaa
