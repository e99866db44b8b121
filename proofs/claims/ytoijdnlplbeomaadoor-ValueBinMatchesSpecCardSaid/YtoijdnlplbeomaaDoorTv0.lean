
/-
  Layer 8: values as trees in memory.
-/
import Derived.Test.YtoijdnlplbeomaaDoorRows
import Derived.Test.YtoijdnlplbeomaaDoorBase
import Derived.Test.YtoijdnlplbeomaaDoorAux
import Derived.Deep.Fields
import Derived.Deep.Slices
namespace Go.Proofs.YtoijdnlplbeomaaDoor
set_option maxRecDepth 100000
set_option linter.unusedVariables false
set_option linter.unusedSimpArgs false
open Go.ChangeShapes Go.WideShapes Go.ChangeAt Go.RowKit Go.Deep
/-- A value's own cells. -/
structure VH where
  k : Int
  n : Int
  m : Int
  a : Option Addr
  len : Nat
  cap : Nat
def VH.v (h : VH) : Value := .agg #[.int .i64 h.k, .int .i64 h.n, .int .i64 h.m, .slice h.a h.len h.cap]
def VH.ok (h : VH) : Prop := I64 h.k ∧ I64 h.n ∧ I64 h.m ∧ h.len ≤ h.cap ∧ h.len ≤ 9223372036854775807
def VH.at (h : VH) (w : World) (b o : Nat) : Prop :=
  w.cell? ⟨b, o, none⟩ = some (.int .i64 h.k) ∧ w.cell? ⟨b, o + 1, none⟩ = some (.int .i64 h.n) ∧ w.cell? ⟨b, o + 2, none⟩ = some (.int .i64 h.m) ∧ w.cell? ⟨b, o + 3, none⟩ = some (.slice h.a h.len h.cap)
/-- A value whose parts lie in memory, so deep. -/
def VT : Nat → World → VH → Prop
  | 0, w, h => h.ok
  | d + 1, w, h => h.ok ∧ (h.len = 0 ∨ ∃ b o, h.a = some ⟨b, o, none⟩ ∧ ∀ i, i < h.len → ∃ g : VH, g.at w b (o + i * 4) ∧ VT d w g)
theorem VT.ok : ∀ {d : Nat} {w : World} {h : VH}, VT d w h → h.ok
  | 0, _, _, h => h
  | _ + 1, _, _, h => h.1
theorem VH.at_below {g : VH} {w w' : World} {b o : Nat} (hb : Below w.heap.size w w') (h : g.at w b o) : g.at w' b o :=
  ⟨cel_below hb h.1, cel_below hb h.2.1, cel_below hb h.2.2.1, cel_below hb h.2.2.2⟩
theorem VT.below {w w' : World} (hb : Below w.heap.size w w') : ∀ {d : Nat} {h : VH}, VT d w h → VT d w' h
  | 0, _, h => h
  | d + 1, _, h => ⟨h.1, h.2.imp id fun ⟨b, o, e, k⟩ => ⟨b, o, e, fun i hi => by
      obtain ⟨g, h1, h2⟩ := k i hi
      exact ⟨g, VH.at_below hb h1, h2.below hb⟩⟩⟩
section
variable {H : Type} {enc : TypeId × Value → H} {W : World}
theorem cells_val : Tryd.prog.cellsOf 24 = 4 := by kernel_rfl
theorem vt_head {n' : Nat} {c0 c1 c2 c3 : Value} {x : DataW H × List MemPlace} (hf : DataW.trod enc Tryd.prog W 0 (fun _ => true) true n' 24 [c0, c1, c2, c3] = some x) :
    ∃ h : VH, [c0, c1, c2, c3] = [.int .i64 h.k, .int .i64 h.n, .int .i64 h.m, .slice h.a h.len h.cap] ∧ h.ok ∧ (h.len = 0 ∨ ∃ b o, h.a = some ⟨b, o, none⟩ ∧ ∀ i, i < h.len → ∃ (e0 e1 e2 e3 : Value) (n2 : Nat) (x2 : DataW H × List MemPlace),
      W.cell? ⟨b, o + i * 4, none⟩ = some e0 ∧ W.cell? ⟨b, o + i * 4 + 1, none⟩ = some e1 ∧ W.cell? ⟨b, o + i * 4 + 2, none⟩ = some e2 ∧ W.cell? ⟨b, o + i * 4 + 3, none⟩ = some e3 ∧ DataW.trod enc Tryd.prog W 0 (fun _ => true) true n2 24 [e0, e1, e2, e3] = some x2) := by
  obtain ⟨xs, n, _, _, _, hlen, hg⟩ := DataW.trod_struct Tryd.underlying24 hf
  match xs, hlen with
  | [y0, y1, y2, y3], _ =>
    have ci : Tryd.prog.cellsOf 3 = 1 := by kernel_rfl
    have cs : Tryd.prog.cellsOf 22 = 1 := by kernel_rfl
    have h0 := hg 0 _ rfl
    have h1 := hg 1 _ rfl
    have h2 := hg 2 _ rfl
    have h3 := hg 3 _ rfl
    simp [ci, cs] at h0 h1 h2 h3
    obtain ⟨a0, e0, _, w0⟩ := DataW.trod_int Tryd.underlying3 h0
    obtain ⟨a1, e1, _, w1⟩ := DataW.trod_int Tryd.underlying3 h1
    obtain ⟨a2, e2, _, w2⟩ := DataW.trod_int Tryd.underlying3 h2
    simp at e0 e1 e2
    subst e0; subst e1; subst e2
    rcases open_slice Tryd.underlying22 h3 with ⟨hcs, _⟩ | ⟨a, len0, cap0, m, n3, D, Pl, hcs, _, hl, hm, hmm, _, hi⟩
    · simp at hcs
      subst hcs
      exact ⟨⟨a0, a1, a2, none, 0, 0⟩, rfl, ⟨i64_of_wf w0, i64_of_wf w1, i64_of_wf w2, by simp, by simp⟩, Or.inl rfl⟩
    · simp at hcs
      subst hcs
      simp only [if_true] at hmm
      have key : ∀ i, i < len0 → ∃ (e0 e1 e2 e3 : Value) (n2 : Nat) (x2 : DataW H × List MemPlace),
          W.cell? (a.add (i * 4)) = some e0 ∧ W.cell? (a.add (i * 4 + 1)) = some e1 ∧ W.cell? (a.add (i * 4 + 2)) = some e2 ∧ W.cell? (a.add (i * 4 + 3)) = some e3 ∧ DataW.trod enc Tryd.prog W 0 (fun _ => true) true n2 24 [e0, e1, e2, e3] = some x2 := by
        intro i hil
        obtain ⟨cs', hc, ht⟩ := hi i (by omega)
        rw [cells_val] at hc
        obtain ⟨_, hcl, hat⟩ := World.cells?_some hc
        match cs', hcl with
        | [c0, c1, c2, c3], _ =>
          have q0 := hat 0 (by omega)
          have q1 := hat 1 (by omega)
          have q2 := hat 2 (by omega)
          have q3 := hat 3 (by omega)
          rw [add_add] at q0 q1 q2 q3
          exact ⟨c0, c1, c2, c3, _, _, by simpa using q0, by simpa using q1, by simpa using q2, by simpa using q3, ht⟩
      refine ⟨⟨a0, a1, a2, some a, len0, cap0⟩, rfl, ⟨i64_of_wf w0, i64_of_wf w1, i64_of_wf w2, by simpa using hl, by show len0 ≤ _; unfold maxLen at hm; omega⟩, ?_⟩
      by_cases hz : len0 = 0
      · exact Or.inl hz
      · obtain ⟨b, off, spot⟩ := a
        obtain ⟨_, _, _, _, _, _, hA0, _⟩ := key 0 (by omega)
        have hspot : spot = none := by simpa [Addr.add] using World.cell?_spot hA0
        subst hspot
        refine Or.inr ⟨b, off, rfl, fun i hil => ?_⟩
        obtain ⟨e0, e1, e2, e3, n2, x2, k0, k1, k2, k3, k4⟩ := key i hil
        simp only [add_plain] at k0 k1 k2 k3
        exact ⟨e0, e1, e2, e3, n2, x2, k0, by simpa [Nat.add_assoc] using k1, by simpa [Nat.add_assoc] using k2, by simpa [Nat.add_assoc] using k3, k4⟩
theorem vt_trod : ∀ (d : Nat) {n' : Nat} {c0 c1 c2 c3 : Value} {x : DataW H × List MemPlace}, DataW.trod enc Tryd.prog W 0 (fun _ => true) true n' 24 [c0, c1, c2, c3] = some x →
    ∃ h : VH, [c0, c1, c2, c3] = [.int .i64 h.k, .int .i64 h.n, .int .i64 h.m, .slice h.a h.len h.cap] ∧ VT d W h
  | 0, _, _, _, _, _, _, hf => by
    obtain ⟨h, e, ho, _⟩ := vt_head hf
    exact ⟨h, e, ho⟩
  | d + 1, _, _, _, _, _, _, hf => by
    obtain ⟨h, e, ho, hs⟩ := vt_head hf
    refine ⟨h, e, ho, hs.imp id fun ⟨b, o, ea, k⟩ => ⟨b, o, ea, fun i hi => ?_⟩⟩
    obtain ⟨e0, e1, e2, e3, n2, x2, k0, k1, k2, k3, k4⟩ := k i hi
    obtain ⟨g, eg, hg⟩ := vt_trod d k4
    simp only [List.cons.injEq, and_true] at eg
    obtain ⟨rfl, rfl, rfl, rfl⟩ := eg
    exact ⟨g, ⟨k0, k1, k2, k3⟩, hg⟩
/-- An argument. -/
theorem open_val {r : Reach} {b0 : Nat} {v : Value} {d : DataW H} {p : List MemPlace} (hv : Value.okWide Tryd.prog W r b0 24 v) (h : DataW.Trod enc Tryd.prog W 0 (fun _ => true) true 24 v d p) :
    ∃ h : VH, v = h.v ∧ ∀ n, VT n W h := by
  obtain ⟨cs, rfl, hsz⟩ := okWide_struct Tryd.underlying24 hv
  obtain ⟨l⟩ := cs
  match l, hsz.trans cells_val with
  | [c0, c1, c2, c3], _ =>
    obtain ⟨fuel, hf⟩ := h
    simp only [Value.cells] at hf
    obtain ⟨h, e, ho, _⟩ := vt_head hf
    refine ⟨h, by unfold VH.v; rw [← e], fun n => ?_⟩
    obtain ⟨g, eg, hg⟩ := vt_trod n hf
    have : g = h := by
      rw [e] at eg
      obtain ⟨k, n, m, a, l, c⟩ := g
      obtain ⟨k', n', m', a', l', c'⟩ := h
      simp at eg
      obtain ⟨rfl, rfl, rfl, rfl, rfl, rfl⟩ := eg
      rfl
    rw [← this]
    exact hg
end
end Go.Proofs.YtoijdnlplbeomaaDoor
