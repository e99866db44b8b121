/-
  Merged: QlO
-/
import Derived.Test.YtdfngmplfgifiaaRows
import Derived.Test.YtdfngmplfgifiaaPk1
import Derived.Deep.Fields
import Derived.Deep.Slices

/-
  Opening an operation and a list of results.
-/
namespace Go.Proofs.Ytdfngmplfgifiaa
set_option maxRecDepth 100000
open Go.ChangeShapes Go.WideShapes Go.ChangeAt Go.RowKit Go.Deep

/-- A slice of results in memory. -/
def LogQ (w : World) (v : Value) (l : List (Int × Bool)) : Prop :=
  ∃ a c, v = .slice a l.length c ∧ l.length ≤ c ∧ c ≤ 9223372036854775807 ∧ (l.length = 0 ∨ ∃ b o, a = some ⟨b, o, none⟩ ∧ ∀ j, j < l.length → w.cell? ⟨b, o + j * 2, none⟩ = some (.int .i64 (l.getD j (0, false)).1) ∧ w.cell? ⟨b, o + j * 2 + 1, none⟩ = some (.bool (l.getD j (0, false)).2))
section
variable {H : Type} {enc : TypeId × Value → H} {W : World}

theorem cells_opq : Try.prog.cellsOf 32 = 10 := by kernel_rfl
theorem cells_resq : Try.prog.cellsOf 58 = 2 := by kernel_rfl

theorem open_lenq {t e : TypeId} (ht : Try.prog.underlying t = some (.slice e)) {c : Value} {x : DataW H × List MemPlace} {n' : Nat} (hh : DataW.trod enc Try.prog W 0 (fun _ => true) true n' t [c] = some x) : ∃ a l k, c = .slice a l k ∧ l ≤ 9223372036854775807 := by
  rcases open_slice ht hh with ⟨hcs, _⟩ | ⟨a, len, cap, m, n, D, Pl, hcs, _, hl, hm, hmm, _, hi⟩
  · simp at hcs
    subst hcs
    exact ⟨_, _, _, rfl, by omega⟩
  · simp at hcs
    subst hcs
    exact ⟨_, _, _, rfl, by unfold maxLen at hm; omega⟩

theorem open_opq {r : Reach} {b0 : Nat} {v : Value} {d : DataW H} {p : List MemPlace} (hv : Value.okWide Try.prog W r b0 32 v) (h : DataW.Trod enc Try.prog W 0 (fun _ => true) true 32 v d p) :
    ∃ (kind a b ty : Int) (ms mk ma : Int) (sa wa da : Option Addr) (sl sc wl wc dl dc : Nat), v = .agg #[.int .i64 kind, .int .i64 a, .int .i64 b, .int .i64 ty, .int .i64 ms, .int .i64 mk, .int .i64 ma, .slice sa sl sc, .slice wa wl wc, .slice da dl dc] ∧ I64 kind ∧ I64 a ∧ I64 b ∧ I64 ty ∧ I64 ms ∧ I64 mk ∧ I64 ma := by
  obtain ⟨cs, rfl, hsz⟩ := okWide_struct Try.underlying32 hv
  obtain ⟨l⟩ := cs
  match l, hsz.trans cells_opq with
  | [c0, c1, c2, c3, c4, c5, c6, c7, c8, c9], _ =>
    obtain ⟨fuel, hf⟩ := h
    obtain ⟨xs, n, _, _, _, hlen, hg⟩ := DataW.trod_struct Try.underlying32 hf
    match xs, hlen with
    | [y0, y1, y2, y3, y4, y5, y6, y7], _ =>
      have h0 := hg 0 _ rfl
      have h1 := hg 1 _ rfl
      have h2 := hg 2 _ rfl
      have h3 := hg 3 _ rfl
      have h4 := hg 4 _ rfl
      have h5 := hg 5 _ rfl
      have h6 := hg 6 _ rfl
      have h7 := hg 7 _ rfl
      have ci : Try.prog.cellsOf 3 = 1 := (by kernel_rfl)
      have cc : Try.prog.cellsOf 27 = 3 := by kernel_rfl
      have cs1 : Try.prog.cellsOf 28 = 1 := by kernel_rfl
      have cs2 : Try.prog.cellsOf 29 = 1 := by kernel_rfl
      have cs3 : Try.prog.cellsOf 30 = 1 := by kernel_rfl
      simp [Value.cells, ci, cc, cs1, cs2, cs3] at h0 h1 h2 h3 h4 h5 h6 h7
      obtain ⟨a0, e0, _, w0⟩ := DataW.trod_int Try.underlying3 h0
      obtain ⟨a1, e1, _, w1⟩ := DataW.trod_int Try.underlying3 h1
      obtain ⟨a2, e2, _, w2⟩ := DataW.trod_int Try.underlying3 h2
      obtain ⟨a3, e3, _, w3⟩ := DataW.trod_int Try.underlying3 h3
      simp at e0 e1 e2 e3
      subst e0; subst e1; subst e2; subst e3
      obtain ⟨sa, sl, sc, rfl, _⟩ := open_lenq Try.underlying28 h5
      obtain ⟨wa, wl, wc, rfl, _⟩ := open_lenq Try.underlying29 h6
      obtain ⟨da, dl, dc, rfl, _⟩ := open_lenq Try.underlying30 h7
      obtain ⟨zs, n2, _, _, _, hlen2, hg2⟩ := DataW.trod_struct Try.underlying27 h4
      match zs, hlen2 with
      | [z0, z1, z2], _ =>
        have k0 := hg2 0 _ rfl
        have k1 := hg2 1 _ rfl
        have k2 := hg2 2 _ rfl
        simp [ci] at k0 k1 k2
        obtain ⟨b0, f0, _, v0⟩ := DataW.trod_int Try.underlying3 k0
        obtain ⟨b1, f1, _, v1⟩ := DataW.trod_int Try.underlying3 k1
        obtain ⟨b2, f2, _, v2⟩ := DataW.trod_int Try.underlying3 k2
        simp at f0 f1 f2
        subst f0; subst f1; subst f2
        exact ⟨a0, a1, a2, a3, b0, b1, b2, sa, wa, da, sl, sc, wl, wc, dl, dc, rfl, i64_of_wf w0, i64_of_wf w1, i64_of_wf w2, i64_of_wf w3, i64_of_wf v0, i64_of_wf v1, i64_of_wf v2⟩

theorem open_ressq {r : Reach} {b0 : Nat} {v : Value} {d : DataW H} {p : List MemPlace} (hv : Value.okWide Try.prog W r b0 33 v) (h : DataW.Trod enc Try.prog W 0 (fun _ => true) true 33 v d p) :
    ∃ l, LogQ W v l ∧ ∀ x ∈ l, I64 x.1 := by
  obtain ⟨a0, len0, cap0, rfl⟩ := okWide_slice Try.underlying33 hv
  obtain ⟨fuel, hf⟩ := h
  rcases open_slice Try.underlying33 hf with ⟨hcs, _⟩ | ⟨a, len, cap, m, n, D, Pl, hcs, _, hl, hm, hmm, _, hi⟩
  · simp [Value.cells] at hcs
    obtain ⟨rfl, rfl, rfl⟩ := hcs
    exact ⟨[], ⟨none, 0, rfl, by simp, by simp, Or.inl rfl⟩, by simp⟩
  · simp [Value.cells] at hcs
    obtain ⟨rfl, rfl, rfl⟩ := hcs
    simp only [if_true] at hmm
    have key : ∀ i, i < len0 → ∃ A : Int × Bool, W.cell? (a.add (i * 2)) = some (.int .i64 A.1) ∧ W.cell? (a.add (i * 2 + 1)) = some (.bool A.2) ∧ I64 A.1 := by
      intro i hil
      obtain ⟨cs', hc, ht⟩ := hi i (by omega)
      rw [cells_resq] at hc
      obtain ⟨_, hcl, hat⟩ := World.cells?_some hc
      match cs', hcl with
      | [c0, c1], _ =>
        obtain ⟨xs, n', _, _, _, hlen, hg⟩ := DataW.trod_struct Try.underlying58 ht
        match xs, hlen with
        | [y0, y1], _ =>
          have h0 := hg 0 _ rfl
          have h1 := hg 1 _ rfl
          have ci : Try.prog.cellsOf 3 = 1 := (by kernel_rfl)
          have cs : Try.prog.cellsOf 4 = 1 := by kernel_rfl
          simp [ci, cs] at h0 h1
          obtain ⟨a0, e0, _, wf0⟩ := DataW.trod_int Try.underlying3 h0
          obtain ⟨s, e1, _⟩ := DataW.trod_bool Try.underlying4 h1
          simp at e0 e1
          subst e0; subst e1
          have q0 := hat 0 (by omega)
          have q1 := hat 1 (by omega)
          rw [add_add] at q0 q1
          exact ⟨⟨a0, s⟩, q0, q1, i64_of_wf wf0⟩
    by_cases h0 : len0 = 0
    · subst h0
      exact ⟨[], ⟨_, _, rfl, by simp, by unfold maxLen at hm; omega, Or.inl rfl⟩, by simp⟩
    · obtain ⟨b, off, spot⟩ := a
      obtain ⟨A0, hA0, _⟩ := key 0 (by omega)
      have hspot : spot = none := by simpa [Addr.add] using World.cell?_spot hA0
      subst hspot
      obtain ⟨f, hf'⟩ := Classical.axiomOfChoice (fun i : { i : Nat // i < len0 } => key i.1 i.2)
      refine ⟨(List.range len0).attach.map (fun i => f ⟨i.1, List.mem_range.1 i.2⟩), ⟨some ⟨b, off, none⟩, cap0, by simp, by simpa using hl, by unfold maxLen at hm; omega, Or.inr ⟨b, off, rfl, fun j hj => ?_⟩⟩, ?_⟩
      · have hjl : j < len0 := by simpa using hj
        have hd := hf' ⟨j, hjl⟩
        simp only [add_plain] at hd
        have e : ((List.range len0).attach.map (fun i => f ⟨i.1, List.mem_range.1 i.2⟩)).getD j (0, false) = f ⟨j, hjl⟩ := by
          simp [List.getD, hjl]
        rw [e]
        exact ⟨hd.1, by simpa [Nat.add_assoc] using hd.2.1⟩
      · intro x hx
        simp only [List.mem_map] at hx
        obtain ⟨i, _, rfl⟩ := hx
        exact (hf' ⟨i.1, List.mem_range.1 i.2⟩).2.2
end
end Go.Proofs.Ytdfngmplfgifiaa
