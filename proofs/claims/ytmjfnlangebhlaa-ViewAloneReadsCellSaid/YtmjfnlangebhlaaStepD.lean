
/-
  Layer 16's tool: an operation as a tree of accesses, its run over a log, and what a call of an operation leaves.
-/
import Derived.Test.YtmjfnlangebhlaaRows
import Derived.Test.YtmjfnlangebhlaaBase
import Derived.Test.YtmjfnlangebhlaaAux
import Derived.Test.YtmjfnlangebhlaaStepC
import Derived.WalkKit
import Derived.Deep.MidRow
import Derived.WalkLawsBesides
namespace Go.Proofs.Ytmjfnlangebhlaa
set_option linter.unusedVariables false
set_option maxRecDepth 100000
open Go.ChangeShapes Go.WideShapes Go.ChangeAt Go.RowKit

/-- An access to memory: kind, cell, old, new. -/
structure Ask where
  k : Int
  p : Int
  o : Int
  n : Int
def Ask.v (a : Ask) : Value := .agg #[.int .i64 a.k, .int .i64 a.p, .int .i64 a.o, .int .i64 a.n, .string ByteArray.empty]
/-- An outcome. -/
structure OutD where
  val : Int := 0
  ver : Int := 0
  rv : Int := 0
  st : Int := 0
  ok : Bool := false
  lost : Bool := false
  err : Int := 0
def OutD.v (o : OutD) : Value := .agg #[.int .i64 o.val, .int .i64 o.ver, .int .i64 o.rv, .int .i64 o.st, .bool o.ok, .bool o.lost, .int .i64 o.err]
inductive Tree where
  | ret (o : OutD)
  | ask (a : Ask) (f : Int × Bool → Tree)
def Tree.run : Tree → List (Int × Bool) → Ask ⊕ OutD
  | .ret o, _ => .inr o
  | .ask a _, [] => .inl a
  | .ask _ f, r :: l => (f r).run l
/-- What an operation returns or leaves with. -/
def OpPost (x : Ask ⊕ OutD) (g : Nat) (w : World) (e : Ending) (w' : World) : Prop :=
  (match x with
  | .inr o => e = .returned o.v
  | .inl a => e = .panicked [{ v := .iface 131 a.v, recovered := false }]) ∧ w.grownBy w' (some g)

/-- The cells of an outcome that nobody has written. -/
structure OutZ (w : World) (b : Nat) : Prop where
  c0 : w.cell? ⟨b, 0, none⟩ = some (.int .i64 0)
  c1 : w.cell? ⟨b, 1, none⟩ = some (.int .i64 0)
  c2 : w.cell? ⟨b, 2, none⟩ = some (.int .i64 0)
  c3 : w.cell? ⟨b, 3, none⟩ = some (.int .i64 0)
  c4 : w.cell? ⟨b, 4, none⟩ = some (.bool false)
  c5 : w.cell? ⟨b, 5, none⟩ = some (.bool false)
  c6 : w.cell? ⟨b, 6, none⟩ = some (.int .i64 0)
  fr : ∀ o, w.frozen? ⟨b, o, none⟩ = false
theorem OutZ.new (w : World) (T : TypeId) : OutZ (w.alloc (.cells #[.int .i64 0, .int .i64 0, .int .i64 0, .int .i64 0, .bool false, .bool false, .int .i64 0] T)) w.heap.size := by
  constructor <;> first | (rw [World.cell?_alloc_at _ _ _ _ rfl]; rfl) | exact fun o => World.frozen?_alloc_at _ _ _ _ rfl
theorem OutZ.lt {w : World} {b : Nat} (h : OutZ w b) : b < w.heap.size := World.block_lt_of_cell? w _ h.c0
theorem OutZ.gb {w w' : World} {b g : Nat} (h : OutZ w b) (hg : w.grownBy w' (some g)) (hne : b ≠ g) : OutZ w' b := by
  have hb : w'.heap[b]? = w.heap[b]? := hg.block b h.lt (by simpa using hne)
  constructor
  · exact (World.cell?_of_block (a := ⟨b, 0, none⟩) hb).trans h.c0
  · exact (World.cell?_of_block (a := ⟨b, 1, none⟩) hb).trans h.c1
  · exact (World.cell?_of_block (a := ⟨b, 2, none⟩) hb).trans h.c2
  · exact (World.cell?_of_block (a := ⟨b, 3, none⟩) hb).trans h.c3
  · exact (World.cell?_of_block (a := ⟨b, 4, none⟩) hb).trans h.c4
  · exact (World.cell?_of_block (a := ⟨b, 5, none⟩) hb).trans h.c5
  · exact (World.cell?_of_block (a := ⟨b, 6, none⟩) hb).trans h.c6
  · exact fun o => (World.frozen?_of_block (a := ⟨b, o, none⟩) hb).trans (h.fr o)
theorem OutZ.below {w w' : World} {b : Nat} (h : OutZ w b) (hb : Below w.heap.size w w') : OutZ w' b :=
  ⟨cel_below hb h.c0, cel_below hb h.c1, cel_below hb h.c2, cel_below hb h.c3, cel_below hb h.c4, cel_below hb h.c5, cel_below hb h.c6, fun o => fro_below hb h.lt (h.fr o)⟩
theorem gb_outs {w w' : World} {g b : Nat} (h : w.grownBy w' (some g)) (hb : w.heap.size ≤ b) (v0 v1 v2 v3 v4 v5 v6 : Value) : w.grownBy (((((((w'.setCell ⟨b, 0, none⟩ v0).setCell ⟨b, 1, none⟩ v1).setCell ⟨b, 2, none⟩ v2).setCell ⟨b, 3, none⟩ v3).setCell ⟨b, 4, none⟩ v4).setCell ⟨b, 5, none⟩ v5).setCell ⟨b, 6, none⟩ v6) (some g) :=
  gb_set (gb_set (gb_set (gb_set (gb_set (gb_set (gb_set h (Or.inr hb) _) (Or.inr hb) _) (Or.inr hb) _) (Or.inr hb) _) (Or.inr hb) _) (Or.inr hb) _) (Or.inr hb) _

theorem OutZ.new' (w : World) (T : TypeId) (b : Nat) (hb : b = w.heap.size) : OutZ (w.alloc (.cells #[.int .i64 0, .int .i64 0, .int .i64 0, .int .i64 0, .bool false, .bool false, .int .i64 0] T)) b := by subst hb; exact OutZ.new w T
theorem OutZ.alloc {w : World} {b : Nat} (h : OutZ w b) (o : Obj) : OutZ (w.alloc o) b := OutZ.below h (below_new1 w o)
theorem OutZ.set {w : World} {b b' o : Nat} (h : OutZ w b) (hne : b' ≠ b) (u : Value) : OutZ (w.setCell ⟨b', o, none⟩ u) b :=
  ⟨keepA_ h.c0 (Or.inl hne), keepA_ h.c1 (Or.inl hne), keepA_ h.c2 (Or.inl hne), keepA_ h.c3 (Or.inl hne), keepA_ h.c4 (Or.inl hne), keepA_ h.c5 (Or.inl hne), keepA_ h.c6 (Or.inl hne), fun o => (World.frozen?_setCell _ _ _ _).trans (h.fr o)⟩
theorem cellsAt_new' (w : World) (cs : Array Value) (T : TypeId) (b : Nat) (hb : b = w.heap.size) : CellsAt (w.alloc (.cells cs T)) b cs.toList := by subst hb; exact cellsAt_new w cs T
theorem cellsAt_set {w : World} {b b' o : Nat} {l : List Value} (h : CellsAt w b l) (hne : b' ≠ b) (u : Value) : CellsAt (w.setCell ⟨b', o, none⟩ u) b l := fun j v hj => keepA_ (h j v hj) (Or.inl hne)
theorem cellsAt_gb {w w' : World} {b g : Nat} {l : List Value} (h : CellsAt w b l) (hg : w.grownBy w' (some g)) (hne : b ≠ g) : CellsAt w' b l := fun j v hj => gb_cell hg (h j v hj) (fun i hi hc => by simp at hi; omega)
theorem cellsAt_take {w : World} {b : Nat} {l : List Value} (n : Nat) (h : CellsAt w b l) : CellsAt w b (l.take n) := fun j v hj => h j v (by
  rw [List.getElem?_take] at hj
  split at hj
  · exact hj
  · cases hj)
theorem ld_cells {P : Program} {w : World} {b k : Nat} {l : List Value} (hk : l.length = k) (h : CellsAt w b l) : (loadCellsFrom ⟨b, 0, none⟩ 0 k #[]).run P w = .ok l.toArray w := by
  subst hk
  have := run_loadCells_list (P := P) w ⟨b, 0, none⟩ l (fun j v hv => by
    have hadd : (⟨b, 0, none⟩ : Addr).add j = ⟨b, j, none⟩ := by unfold Addr.add; split <;> simp_all
    rw [hadd]; exact h j v hv)
  simpa [loadCells] using this
theorem rangeAt_of {w : World} {b : Nat} {l : List Value} (h : CellsAt w b l) : w.rangeAt b 0 l := fun j v hj => by rw [Nat.zero_add]; exact h j v hj
theorem wp_ld_any {P : Program} {ops : Array Oper} {rest : List Oper} {op : Oper} {a : Act} {w : World} {Q : Exit → Act → World → Prop} (hw : Region.wanted op (yielded ops a.tmps) = true) (ty : TypeId) (x : Operand) (ho : op.op = .load ty x)
    (b o : Nat) (hx : a.eval x = .pointer (some ⟨b, o, none⟩)) (cs : List Value) (d : TypeDesc) (hc : w.rangeAt b o cs)
    (hu : P.underlying ty = some d) (hd : d.isRow = true) (hi : (P.info? ty).map (·.size) = some cs.length)
    (h : wpList P ops Q rest (a.put op.dst (.agg cs.toArray)) w) : wpList P ops Q (op :: rest) a w :=
  wpList_step fun K hK => by rw [if_pos hw]; exact wp_load_mid ty x ho b o hx cs d hc hu hd hi (hK _ _ h)
theorem wp_ld_lay {ops : Array Oper} {rest : List Oper} {op : Oper} {a : Act} {w : World} {Q : Exit → Act → World → Prop} (hw : Region.wanted op (yielded ops a.tmps) = true) (x : Operand) (ho : op.op = .load 41 x)
    (b o : Nat) (hx : a.eval x = .pointer (some ⟨b, o, none⟩)) (cs : List Value) (hl : cs.length = 13) (hc : w.rangeAt b o cs)
    (h : wpList Try.prog ops Q rest (a.put op.dst (.agg cs.toArray)) w) : wpList Try.prog ops Q (op :: rest) a w :=
  wp_ld_any hw _ x ho b o hx cs _ hc Try.underlying41 rfl (by rw [hl]; kernel_rfl) h
theorem wp_ld_case {ops : Array Oper} {rest : List Oper} {op : Oper} {a : Act} {w : World} {Q : Exit → Act → World → Prop} (hw : Region.wanted op (yielded ops a.tmps) = true) (x : Operand) (ho : op.op = .load 165 x)
    (b o : Nat) (hx : a.eval x = .pointer (some ⟨b, o, none⟩)) (cs : List Value) (hl : cs.length = 20) (hc : w.rangeAt b o cs)
    (h : wpList Try.prog ops Q rest (a.put op.dst (.agg cs.toArray)) w) : wpList Try.prog ops Q (op :: rest) a w :=
  wp_ld_any hw _ x ho b o hx cs _ hc Try.underlying165 rfl (by rw [hl]; kernel_rfl) h
theorem gbc {w w' : World} {g b o : Nat} {x : Value} (hg : w.grownBy w' (some g)) (h : w.cell? ⟨b, o, none⟩ = some x) (hne : b ≠ g) : w'.cell? ⟨b, o, none⟩ = some x :=
  gb_cell hg h (fun j hj hc => by simp at hj; omega)
theorem gbf {w w' : World} {g b o : Nat} {r : Bool} (hg : w.grownBy w' (some g)) (hl : b < w.heap.size) (hne : b ≠ g) (h : w.frozen? ⟨b, o, none⟩ = r) : w'.frozen? ⟨b, o, none⟩ = r :=
  (World.frozen?_of_block (a := ⟨b, o, none⟩) (hg.block b hl (by simpa using hne))).trans h
theorem outs_at {w : World} {b : Nat} (h : OutZ w b) (v0 v1 v2 v3 v4 v5 v6 : Value) : ∃ W, W = ((((((w.setCell ⟨b, 0, none⟩ v0).setCell ⟨b, 1, none⟩ v1).setCell ⟨b, 2, none⟩ v2).setCell ⟨b, 3, none⟩ v3).setCell ⟨b, 4, none⟩ v4).setCell ⟨b, 5, none⟩ v5).setCell ⟨b, 6, none⟩ v6 ∧
    W.cell? ⟨b, 0, none⟩ = some v0 ∧ W.cell? ⟨b, 1, none⟩ = some v1 ∧ W.cell? ⟨b, 2, none⟩ = some v2 ∧ W.cell? ⟨b, 3, none⟩ = some v3 ∧ W.cell? ⟨b, 4, none⟩ = some v4 ∧ W.cell? ⟨b, 5, none⟩ = some v5 ∧ W.cell? ⟨b, 6, none⟩ = some v6 := by
  refine ⟨_, rfl, ?_, ?_, ?_, ?_, ?_, ?_, ?_⟩
  · exact keepA_ (keepA_ (keepA_ (keepA_ (keepA_ (keepA_ (World.cell?_setCell_same _ _ _ h.c0) (Or.inr (by decide))) (Or.inr (by decide))) (Or.inr (by decide))) (Or.inr (by decide))) (Or.inr (by decide))) (Or.inr (by decide))
  · exact keepA_ (keepA_ (keepA_ (keepA_ (keepA_ (World.cell?_setCell_same _ _ _ (keepA_ h.c1 (Or.inr (by decide)))) (Or.inr (by decide))) (Or.inr (by decide))) (Or.inr (by decide))) (Or.inr (by decide))) (Or.inr (by decide))
  · exact keepA_ (keepA_ (keepA_ (keepA_ (World.cell?_setCell_same _ _ _ (keepA_ (keepA_ h.c2 (Or.inr (by decide))) (Or.inr (by decide)))) (Or.inr (by decide))) (Or.inr (by decide))) (Or.inr (by decide))) (Or.inr (by decide))
  · exact keepA_ (keepA_ (keepA_ (World.cell?_setCell_same _ _ _ (keepA_ (keepA_ (keepA_ h.c3 (Or.inr (by decide))) (Or.inr (by decide))) (Or.inr (by decide)))) (Or.inr (by decide))) (Or.inr (by decide))) (Or.inr (by decide))
  · exact keepA_ (keepA_ (World.cell?_setCell_same _ _ _ (keepA_ (keepA_ (keepA_ (keepA_ h.c4 (Or.inr (by decide))) (Or.inr (by decide))) (Or.inr (by decide))) (Or.inr (by decide)))) (Or.inr (by decide))) (Or.inr (by decide))
  · exact keepA_ (World.cell?_setCell_same _ _ _ (keepA_ (keepA_ (keepA_ (keepA_ (keepA_ h.c5 (Or.inr (by decide))) (Or.inr (by decide))) (Or.inr (by decide))) (Or.inr (by decide))) (Or.inr (by decide)))) (Or.inr (by decide))
  · exact World.cell?_setCell_same _ _ _ (keepA_ (keepA_ (keepA_ (keepA_ (keepA_ (keepA_ h.c6 (Or.inr (by decide))) (Or.inr (by decide))) (Or.inr (by decide))) (Or.inr (by decide))) (Or.inr (by decide))) (Or.inr (by decide)))

end Go.Proofs.Ytmjfnlangebhlaa
