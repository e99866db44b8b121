/-
  Merged: MemO
-/
import Derived.Test.YtekcjffdooekaaaRows
import Derived.Test.YtekcjffdooekaaaPb2
import Derived.Deep.Fields
import Derived.Deep.Slices

/-
  Layer 2: what the arguments of a statement are in memory: a memory, an access, a list of accesses.
-/
namespace Go.Proofs.Ytekcjffdooekaaa
open Go.ChangeShapes Go.WideShapes Go.ChangeAt Go.RowKit Go.Deep
set_option maxRecDepth 100000

section
variable {H : Type} {enc : TypeId × Value → H} {W : World}

theorem cells_int : Try.prog.cellsOf 3 = 1 := by kernel_rfl
theorem cells_mem : Try.prog.cellsOf 24 = 1 := by kernel_rfl
theorem cells_acc : Try.prog.cellsOf 30 = 5 := by kernel_rfl

theorem open_has {n : Nat} {v : Value} {x : DataW H × List MemPlace} (h : DataW.trod enc Try.prog W 0 (fun _ => true) true n 22 [v] = some x) : ∃ zs, HasInts W v zs := by
  rcases open_ints Try.underlying22 Try.underlying3 cells_int h with ⟨hcs, _⟩ | ⟨a, len, cap, zs, hcs, _, hl, hm, hz, _, hcell, _⟩
  · simp at hcs
    subst hcs
    exact ⟨[], none, 0, rfl, by simp, Or.inl rfl⟩
  · simp at hcs
    subst hcs
    simp only [if_true] at hz
    have hlen : (zs.take len).length = len := by rw [List.length_take]; omega
    refine ⟨zs.take len, some a, cap, by rw [hlen], by rw [hlen]; unfold maxLen at hm; omega, ?_⟩
    by_cases h0 : len = 0
    · exact Or.inl (by rw [hlen]; exact h0)
    · obtain ⟨b, off, spot⟩ := a
      have hspot : spot = none := by simpa [Addr.add] using World.cell?_spot (hcell 0 (by omega))
      subst hspot
      refine Or.inr ⟨b, off, rfl, fun j hj => ?_⟩
      rw [hlen] at hj
      have := hcell j (by omega)
      rw [add_plain] at this
      rw [this]
      simp [List.getD, hj]

theorem open_mem {r : Reach} {b0 : Nat} {v : Value} {d : DataW H} {p : List MemPlace} (hv : Value.okWide Try.prog W r b0 24 v) (h : DataW.Trod enc Try.prog W 0 (fun _ => true) true 24 v d p) :
    ∃ sl zs, v = .agg #[sl] ∧ HasInts W sl zs := by
  obtain ⟨cs, rfl, hsz⟩ := okWide_struct Try.underlying24 hv
  obtain ⟨l⟩ := cs
  match l, hsz.trans cells_mem with
  | [c0], _ =>
    obtain ⟨fuel, hf⟩ := h
    obtain ⟨xs, n, _, _, _, hlen, hg⟩ := DataW.trod_struct Try.underlying24 hf
    match xs, hlen with
    | [y0], _ =>
      have h0 := hg 0 _ rfl
      simp [Value.cells] at h0
      obtain ⟨zs, hz⟩ := open_has h0
      exact ⟨c0, zs, rfl, hz⟩

theorem open_acc {r : Reach} {b0 : Nat} {v : Value} {d : DataW H} {p : List MemPlace} (hv : Value.okWide Try.prog W r b0 30 v) (h : DataW.Trod enc Try.prog W 0 (fun _ => true) true 30 v d p) :
    ∃ k c o n b, v = acc k c o n b ∧ I64 k ∧ I64 c ∧ I64 o ∧ I64 n := by
  obtain ⟨cs, rfl, hsz⟩ := okWide_struct Try.underlying30 hv
  obtain ⟨l⟩ := cs
  match l, hsz.trans cells_acc with
  | [c0, c1, c2, c3, c4], _ =>
    obtain ⟨fuel, hf⟩ := h
    obtain ⟨xs, n, _, _, _, hlen, hg⟩ := DataW.trod_struct Try.underlying30 hf
    match xs, hlen with
    | [y0, y1, y2, y3, y4], _ =>
      have h0 := hg 0 _ rfl
      have h1 := hg 1 _ rfl
      have h2 := hg 2 _ rfl
      have h3 := hg 3 _ rfl
      have h4 := hg 4 _ rfl
      have ci : Try.prog.cellsOf 3 = 1 := cells_int
      have cs : Try.prog.cellsOf 9 = 1 := by kernel_rfl
      simp [Value.cells, ci, cs] at h0 h1 h2 h3 h4
      obtain ⟨a0, e0, _, w0⟩ := DataW.trod_int Try.underlying3 h0
      obtain ⟨a1, e1, _, w1⟩ := DataW.trod_int Try.underlying3 h1
      obtain ⟨a2, e2, _, w2⟩ := DataW.trod_int Try.underlying3 h2
      obtain ⟨a3, e3, _, w3⟩ := DataW.trod_int Try.underlying3 h3
      obtain ⟨s, e4, _, _⟩ := DataW.trod_string Try.underlying9 h4
      simp at e0 e1 e2 e3 e4
      subst e0; subst e1; subst e2; subst e3; subst e4
      exact ⟨a0, a1, a2, a3, s, rfl, i64_of_wf w0, i64_of_wf w1, i64_of_wf w2, i64_of_wf w3⟩

theorem open_accs {r : Reach} {b0 : Nat} {v : Value} {d : DataW H} {p : List MemPlace} (hv : Value.okWide Try.prog W r b0 49 v) (h : DataW.Trod enc Try.prog W 0 (fun _ => true) true 49 v d p) :
    ∃ l, HasAccs W v l := by
  obtain ⟨a0, len0, cap0, rfl⟩ := okWide_slice Try.underlying49 hv
  obtain ⟨fuel, hf⟩ := h
  rcases open_slice Try.underlying49 hf with ⟨hcs, _⟩ | ⟨a, len, cap, m, n, D, Pl, hcs, _, hl, hm, hmm, _, hi⟩
  · simp [Value.cells] at hcs
    obtain ⟨rfl, rfl, rfl⟩ := hcs
    exact ⟨[], none, 0, rfl, by simp, Or.inl rfl⟩
  · simp [Value.cells] at hcs
    obtain ⟨rfl, rfl, rfl⟩ := hcs
    simp only [if_true] at hmm
    have key : ∀ i, i < len0 → ∃ A : AccD, W.cell? (a.add (i * 5)) = some (.int .i64 A.k) ∧ W.cell? (a.add (i * 5 + 1)) = some (.int .i64 A.c) ∧ W.cell? (a.add (i * 5 + 2)) = some (.int .i64 A.o) ∧ W.cell? (a.add (i * 5 + 3)) = some (.int .i64 A.n) ∧ W.cell? (a.add (i * 5 + 4)) = some (.string A.b) := by
      intro i hil
      obtain ⟨cs', hc, ht⟩ := hi i (by omega)
      rw [cells_acc] at hc
      obtain ⟨_, hcl, hat⟩ := World.cells?_some hc
      match cs', hcl with
      | [c0, c1, c2, c3, c4], _ =>
        obtain ⟨xs, n', _, _, _, hlen, hg⟩ := DataW.trod_struct Try.underlying30 ht
        match xs, hlen with
        | [y0, y1, y2, y3, y4], _ =>
          have h0 := hg 0 _ rfl
          have h1 := hg 1 _ rfl
          have h2 := hg 2 _ rfl
          have h3 := hg 3 _ rfl
          have h4 := hg 4 _ rfl
          have ci : Try.prog.cellsOf 3 = 1 := cells_int
          have cs : Try.prog.cellsOf 9 = 1 := by kernel_rfl
          simp [ci, cs] at h0 h1 h2 h3 h4
          obtain ⟨a0, e0, _, _⟩ := DataW.trod_int Try.underlying3 h0
          obtain ⟨a1, e1, _, _⟩ := DataW.trod_int Try.underlying3 h1
          obtain ⟨a2, e2, _, _⟩ := DataW.trod_int Try.underlying3 h2
          obtain ⟨a3, e3, _, _⟩ := DataW.trod_int Try.underlying3 h3
          obtain ⟨s, e4, _, _⟩ := DataW.trod_string Try.underlying9 h4
          simp at e0 e1 e2 e3 e4
          subst e0; subst e1; subst e2; subst e3; subst e4
          have q0 := hat 0 (by omega)
          have q1 := hat 1 (by omega)
          have q2 := hat 2 (by omega)
          have q3 := hat 3 (by omega)
          have q4 := hat 4 (by omega)
          rw [add_add] at q0 q1 q2 q3 q4
          exact ⟨⟨a0, a1, a2, a3, s⟩, q0, q1, q2, q3, q4⟩
    by_cases h0 : len0 = 0
    · subst h0
      exact ⟨[], _, _, rfl, by simp, Or.inl rfl⟩
    · obtain ⟨b, off, spot⟩ := a
      obtain ⟨A0, hA0, _⟩ := key 0 (by omega)
      have hspot : spot = none := by simpa [Addr.add] using World.cell?_spot hA0
      subst hspot
      obtain ⟨f, hf'⟩ := Classical.axiomOfChoice (fun i : { i : Nat // i < len0 } => key i.1 i.2)
      refine ⟨(List.range len0).attach.map (fun i => f ⟨i.1, List.mem_range.1 i.2⟩), some ⟨b, off, none⟩, cap0, by simp, by simp; unfold maxLen at hm; omega, Or.inr ⟨b, off, rfl, fun j hj => ?_⟩⟩
      have hjl : j < len0 := by simpa using hj
      have hd := hf' ⟨j, hjl⟩
      simp only [add_plain] at hd
      have e : ((List.range len0).attach.map (fun i => f ⟨i.1, List.mem_range.1 i.2⟩)).getD j noAcc = f ⟨j, hjl⟩ := by
        simp [List.getD, hjl]
      rw [e]
      simpa [Nat.add_assoc] using hd

end
end Go.Proofs.Ytekcjffdooekaaa
