
/-
  Layer 4: what a row of tokens, handed in, is in memory.
-/
import Derived.Test.YthkgmahkmflfkaaDoorRows
import Derived.Test.YthkgmahkmflfkaaDoorBase
import Derived.Test.YthkgmahkmflfkaaDoorLxI
import Derived.Deep.Fields
import Derived.Deep.Slices
namespace Go.Proofs.YthkgmahkmflfkaaDoor
open Go.ChangeShapes Go.WideShapes Go.ChangeAt Go.RowKit Go.Deep
set_option maxRecDepth 100000
section
variable {H : Type} {enc : TypeId × Value → H} {W : World}
theorem cells_int : Tryd.prog.cellsOf 3 = 1 := by kernel_rfl
theorem cells_tok : Tryd.prog.cellsOf 30 = 4 := by kernel_rfl
def HasToks (w : World) (v : Value) (l : List Tq) : Prop :=
  ∃ a cap, v = .slice a l.length cap ∧ (l.length = 0 ∨ ∃ b o, a = some ⟨b, o, none⟩ ∧ TqAt w b o l) ∧ ∀ t ∈ l, ∀ x ∈ t.2.1, x < 256
theorem bytes256 (s : ByteArray) : ∀ b ∈ bytesOf s, b < 256 := fun b hb => by unfold bytesOf at hb; obtain ⟨u, _, rfl⟩ := List.mem_map.1 hb; exact u.toNat_lt
theorem open_toks {r : Reach} {b0 : Nat} {v : Value} {d : DataW H} {p : List MemPlace} (hv : Value.okWide Tryd.prog W r b0 23 v) (h : DataW.Trod enc Tryd.prog W 0 (fun _ => true) true 23 v d p) :
    ∃ l, HasToks W v l := by
  obtain ⟨a0, len0, cap0, rfl⟩ := okWide_slice Tryd.underlying23 hv
  obtain ⟨fuel, hf⟩ := h
  rcases open_slice Tryd.underlying23 hf with ⟨hcs, _⟩ | ⟨a, len, cap, m, n, D, Pl, hcs, _, hl, hm, hmm, _, hi⟩
  · simp [Value.cells] at hcs
    obtain ⟨rfl, rfl, rfl⟩ := hcs
    exact ⟨[], none, 0, rfl, Or.inl rfl, fun t ht => by cases ht⟩
  · simp [Value.cells] at hcs
    obtain ⟨rfl, rfl, rfl⟩ := hcs
    simp only [if_true] at hmm
    have key : ∀ i, i < len0 → ∃ A : Tq, (W.cell? (a.add (i * 4)) = some (.int .i64 A.1) ∧ W.cell? (a.add (i * 4 + 1)) = some (.string (strOf A.2.1)) ∧ W.cell? (a.add (i * 4 + 2)) = some (.int .i64 A.2.2.1) ∧ W.cell? (a.add (i * 4 + 3)) = some (.int .i64 A.2.2.2)) ∧ ∀ x ∈ A.2.1, x < 256 := by
      intro i hil
      obtain ⟨cs', hc, ht⟩ := hi i (by omega)
      rw [cells_tok] at hc
      obtain ⟨_, hcl, hat⟩ := World.cells?_some hc
      match cs', hcl with
      | [c0, c1, c2, c3], _ =>
        obtain ⟨xs, n', _, _, _, hlen, hg⟩ := DataW.trod_struct Tryd.underlying30 ht
        match xs, hlen with
        | [y0, y1, y2, y3], _ =>
          have h0 := hg 0 _ rfl
          have h1 := hg 1 _ rfl
          have h2 := hg 2 _ rfl
          have h3 := hg 3 _ rfl
          have ci : Tryd.prog.cellsOf 3 = 1 := cells_int
          have cs : Tryd.prog.cellsOf 9 = 1 := by kernel_rfl
          simp [ci, cs] at h0 h1 h2 h3
          obtain ⟨a0, e0, _, _⟩ := DataW.trod_int Tryd.underlying3 h0
          obtain ⟨s, e1, _, _⟩ := DataW.trod_string Tryd.underlying9 h1
          obtain ⟨a2, e2, _, _⟩ := DataW.trod_int Tryd.underlying3 h2
          obtain ⟨a3, e3, _, _⟩ := DataW.trod_int Tryd.underlying3 h3
          simp at e0 e1 e2 e3
          subst e0; subst e1; subst e2; subst e3
          have q0 := hat 0 (by omega)
          have q1 := hat 1 (by omega)
          have q2 := hat 2 (by omega)
          have q3 := hat 3 (by omega)
          rw [add_add] at q0 q1 q2 q3
          exact ⟨(a0, bytesOf s, a2, a3), ⟨q0, by simp only [strOf_bytesOf]; exact q1, q2, q3⟩, bytes256 s⟩
    by_cases h0 : len0 = 0
    · subst h0
      exact ⟨[], _, _, rfl, Or.inl rfl, fun t ht => by cases ht⟩
    · obtain ⟨b, off, spot⟩ := a
      obtain ⟨A0, ⟨hA0, _⟩, _⟩ := key 0 (by omega)
      have hspot : spot = none := by simpa [Addr.add] using World.cell?_spot hA0
      subst hspot
      obtain ⟨f, hf'⟩ := Classical.axiomOfChoice (fun i : { i : Nat // i < len0 } => key i.1 i.2)
      refine ⟨(List.range len0).attach.map (fun i => f ⟨i.1, List.mem_range.1 i.2⟩), some ⟨b, off, none⟩, cap0, by simp, Or.inr ⟨b, off, rfl, fun j hj => ?_⟩, fun t ht => ?_⟩
      · have hjl : j < len0 := by simpa using hj
        have hd := (hf' ⟨j, hjl⟩).1
        simp only [add_plain] at hd
        have e : ((List.range len0).attach.map (fun i => f ⟨i.1, List.mem_range.1 i.2⟩)).getD j tq0 = f ⟨j, hjl⟩ := by
          simp [List.getD, hjl]
        rw [e]
        simpa [Nat.add_assoc] using hd
      · obtain ⟨i, _, rfl⟩ := List.mem_map.1 ht
        exact (hf' _).2
end
end Go.Proofs.YthkgmahkmflfkaaDoor
