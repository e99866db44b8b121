/-
  Merged: QlO, VwO
-/
import Derived.Test.YtfahnmpcclhjlaaGreatRows
import Derived.Test.YtfahnmpcclhjlaaGreatPv3
import Derived.Deep.Fields
import Derived.Deep.Slices
namespace Go.Proofs.YtfahnmpcclhjlaaGreat
set_option linter.unusedSectionVars false
set_option maxRecDepth 100000
open Go.ChangeShapes Go.WideShapes Go.ChangeAt Go.RowKit Go.Deep
def LogQ (w : World) (v : Value) (l : List (Int × Bool)) : Prop :=
  ∃ a c, v = .slice a l.length c ∧ l.length ≤ c ∧ c ≤ 9223372036854775807 ∧ (l.length = 0 ∨ ∃ b o, a = some ⟨b, o, none⟩ ∧ ∀ j, j < l.length → w.cell? ⟨b, o + j * 2, none⟩ = some (.int .i64 (l.getD j (0, false)).1) ∧ w.cell? ⟨b, o + j * 2 + 1, none⟩ = some (.bool (l.getD j (0, false)).2))
section
variable {H : Type} {enc : TypeId × Value → H} {W : World}
theorem cells_resq : Tryz.prog.cellsOf 73 = 2 := by kernel_rfl
theorem open_lenq {t e : TypeId} (ht : Tryz.prog.underlying t = some (.slice e)) {c : Value} {x : DataW H × List MemPlace} {n' : Nat} (hh : DataW.trod enc Tryz.prog W 0 (fun _ => true) true n' t [c] = some x) : ∃ a l k, c = .slice a l k ∧ l ≤ 9223372036854775807 := by
  rcases open_slice ht hh with ⟨hcs, _⟩ | ⟨a, len, cap, m, n, D, Pl, hcs, _, hl, hm, hmm, _, hi⟩
  · simp at hcs
    subst hcs
    exact ⟨_, _, _, rfl, by omega⟩
  · simp at hcs
    subst hcs
    exact ⟨_, _, _, rfl, by unfold maxLen at hm; omega⟩
end
end Go.Proofs.YtfahnmpcclhjlaaGreat

namespace Go.Proofs.YtfahnmpcclhjlaaGreat
set_option maxRecDepth 100000
set_option linter.unusedVariables false
set_option linter.unusedSectionVars false
set_option linter.unusedSimpArgs false
open Go.ChangeShapes Go.WideShapes Go.ChangeAt Go.RowKit Go.Deep
section
variable {H : Type} {enc : TypeId × Value → H} {W : World}
theorem ress_trod {c : Value} {x : DataW H × List MemPlace} {n' : Nat} (hf : DataW.trod enc Tryz.prog W 0 (fun _ => true) true n' 33 [c] = some x) : ∃ l, LogQ W c l ∧ ∀ x ∈ l, I64 x.1 := by
  rcases open_slice Tryz.underlying33 hf with ⟨hcs, _⟩ | ⟨a, len0, cap0, m, n, D, Pl, hcs, _, hl, hm, hmm, _, hi⟩
  · simp at hcs
    subst hcs
    exact ⟨[], ⟨none, 0, rfl, by simp, by simp, Or.inl rfl⟩, by simp⟩
  · simp at hcs
    subst hcs
    simp only [if_true] at hmm
    have key : ∀ i, i < len0 → ∃ A : Int × Bool, W.cell? (a.add (i * 2)) = some (.int .i64 A.1) ∧ W.cell? (a.add (i * 2 + 1)) = some (.bool A.2) ∧ I64 A.1 := by
      intro i hil
      obtain ⟨cs', hc, ht⟩ := hi i (by omega)
      rw [cells_resq] at hc
      obtain ⟨_, hcl, hat⟩ := World.cells?_some hc
      match cs', hcl with
      | [c0, c1], _ =>
        obtain ⟨xs, n', _, _, _, hlen, hg⟩ := DataW.trod_struct Tryz.underlying73 ht
        match xs, hlen with
        | [y0, y1], _ =>
          have h0 := hg 0 _ rfl
          have h1 := hg 1 _ rfl
          have ci : Tryz.prog.cellsOf 3 = 1 := (by kernel_rfl)
          have cs : Tryz.prog.cellsOf 4 = 1 := by kernel_rfl
          simp [ci, cs] at h0 h1
          obtain ⟨a0, e0, _, wf0⟩ := DataW.trod_int Tryz.underlying3 h0
          obtain ⟨s, e1, _⟩ := DataW.trod_bool Tryz.underlying4 h1
          simp at e0 e1
          subst e0; subst e1
          have q0 := hat 0 (by omega)
          have q1 := hat 1 (by omega)
          rw [add_add] at q0 q1
          exact ⟨⟨a0, s⟩, q0, q1, i64_of_wf wf0⟩
    by_cases h0 : len0 = 0
    · subst h0
      exact ⟨[], ⟨_, _, rfl, by simp, by unfold maxLen at hm; omega, Or.inl rfl⟩, by simp⟩
    · obtain ⟨b, off, spot⟩ := a
      obtain ⟨A0, hA0, _⟩ := key 0 (by omega)
      have hspot : spot = none := by simpa [Addr.add] using World.cell?_spot hA0
      subst hspot
      obtain ⟨f, hf'⟩ := Classical.axiomOfChoice (fun i : { i : Nat // i < len0 } => key i.1 i.2)
      refine ⟨(List.range len0).attach.map (fun i => f ⟨i.1, List.mem_range.1 i.2⟩), ⟨some ⟨b, off, none⟩, cap0, by simp, by simpa using hl, by unfold maxLen at hm; omega, Or.inr ⟨b, off, rfl, fun j hj => ?_⟩⟩, ?_⟩
      · have hjl : j < len0 := by simpa using hj
        have hd := hf' ⟨j, hjl⟩
        simp only [add_plain] at hd
        have e : ((List.range len0).attach.map (fun i => f ⟨i.1, List.mem_range.1 i.2⟩)).getD j (0, false) = f ⟨j, hjl⟩ := by
          simp [List.getD, hjl]
        rw [e]
        exact ⟨hd.1, by simpa [Nat.add_assoc] using hd.2.1⟩
      · intro x hx
        simp only [List.mem_map] at hx
        obtain ⟨i, _, rfl⟩ := hx
        exact (hf' ⟨i.1, List.mem_range.1 i.2⟩).2.2
theorem cells_seenq : Tryz.prog.cellsOf 56 = 3 := by kernel_rfl
def SeenQ (w : World) (a : Option Addr) (n : Nat) (Q : List (Int × Int × Int)) : Prop := Q.length = n ∧ (n = 0 ∨ ∃ b o, a = some ⟨b, o, none⟩ ∧ ∀ j, j < n → w.cell? ⟨b, o + j * 3, none⟩ = some (.int .i64 (Q.getD j (0, 0, 0)).1) ∧ w.cell? ⟨b, o + j * 3 + 1, none⟩ = some (.int .i64 (Q.getD j (0, 0, 0)).2.1) ∧ w.cell? ⟨b, o + j * 3 + 2, none⟩ = some (.int .i64 (Q.getD j (0, 0, 0)).2.2))
theorem seens_trod {c : Value} {x : DataW H × List MemPlace} {n' : Nat} (hf : DataW.trod enc Tryz.prog W 0 (fun _ => true) true n' 28 [c] = some x) : ∃ a n k Q, c = .slice a n k ∧ SeenQ W a n Q := by
  rcases open_slice Tryz.underlying28 hf with ⟨hcs, _⟩ | ⟨a, len0, cap0, m, n, D, Pl, hcs, _, hl, hm, hmm, _, hi⟩
  · simp at hcs
    subst hcs
    exact ⟨_, _, _, [], rfl, rfl, Or.inl rfl⟩
  · simp at hcs
    subst hcs
    simp only [if_true] at hmm
    have key : ∀ i, i < len0 → ∃ A : Int × Int × Int, W.cell? (a.add (i * 3)) = some (.int .i64 A.1) ∧ W.cell? (a.add (i * 3 + 1)) = some (.int .i64 A.2.1) ∧ W.cell? (a.add (i * 3 + 2)) = some (.int .i64 A.2.2) := by
      intro i hil
      obtain ⟨cs', hc, ht⟩ := hi i (by omega)
      rw [cells_seenq] at hc
      obtain ⟨_, hcl, hat⟩ := World.cells?_some hc
      match cs', hcl with
      | [c0, c1, c2], _ =>
        obtain ⟨xs, n', _, _, _, hlen, hg⟩ := DataW.trod_struct Tryz.underlying56 ht
        match xs, hlen with
        | [y0, y1, y2], _ =>
          have h0 := hg 0 _ rfl
          have h1 := hg 1 _ rfl
          have h2 := hg 2 _ rfl
          have ci : Tryz.prog.cellsOf 3 = 1 := (by kernel_rfl)
          simp [ci] at h0 h1 h2
          obtain ⟨a0, e0, _, _⟩ := DataW.trod_int Tryz.underlying3 h0
          obtain ⟨a1, e1, _, _⟩ := DataW.trod_int Tryz.underlying3 h1
          obtain ⟨a2, e2, _, _⟩ := DataW.trod_int Tryz.underlying3 h2
          simp at e0 e1 e2
          subst e0; subst e1; subst e2
          have q0 := hat 0 (by omega)
          have q1 := hat 1 (by omega)
          have q2 := hat 2 (by omega)
          rw [add_add] at q0 q1 q2
          exact ⟨⟨a0, a1, a2⟩, q0, q1, q2⟩
    by_cases h0 : len0 = 0
    · subst h0
      exact ⟨_, _, _, [], rfl, rfl, Or.inl rfl⟩
    · obtain ⟨b, off, spot⟩ := a
      obtain ⟨A0, hA0, _⟩ := key 0 (by omega)
      have hspot : spot = none := by simpa [Addr.add] using World.cell?_spot hA0
      subst hspot
      obtain ⟨f, hf'⟩ := Classical.axiomOfChoice (fun i : { i : Nat // i < len0 } => key i.1 i.2)
      refine ⟨_, _, _, (List.range len0).attach.map (fun i => f ⟨i.1, List.mem_range.1 i.2⟩), rfl, by simp, Or.inr ⟨b, off, rfl, fun j hj => ?_⟩⟩
      have hd := hf' ⟨j, hj⟩
      simp only [add_plain] at hd
      have e : ((List.range len0).attach.map (fun i => f ⟨i.1, List.mem_range.1 i.2⟩)).getD j (0, 0, 0) = f ⟨j, hj⟩ := by
        simp [List.getD, hj]
      rw [e]
      exact ⟨hd.1, by simpa [Nat.add_assoc] using hd.2.1, by simpa [Nat.add_assoc] using hd.2.2⟩
theorem open_vw {r : Reach} {b0 : Nat} {v : Value} {d : DataW H} {p : List MemPlace} (hv : Value.okWide Tryz.prog W r b0 35 v) (h : DataW.Trod enc Tryz.prog W 0 (fun _ => true) true 35 v d p) :
    ∃ (L : Ly) (me k a b ty ms mk ma : Int) (sa wa da : Option Addr) (sl sc wl wc dl dc : Nat) (lv : Value) (l : List (Int × Bool)), v = .agg #[.int .i64 L.c.t, .int .i64 L.c.l, .int .i64 L.c.k, .int .i64 L.c.s, .int .i64 L.c.m, .int .i64 L.clock, .int .i64 L.stamps, .int .i64 L.log, .int .i64 L.fin, .int .i64 L.thread, .int .i64 L.lock, .int .i64 L.loc, .int .i64 L.size, .int .i64 me,
      .int .i64 k, .int .i64 a, .int .i64 b, .int .i64 ty, .int .i64 ms, .int .i64 mk, .int .i64 ma, .slice sa sl sc, .slice wa wl wc, .slice da dl dc, lv] ∧ LogQ W lv l ∧ (∀ x ∈ l, I64 x.1) ∧ I64 a ∧ ∃ Q, SeenQ W sa sl Q := by
  obtain ⟨cs, rfl, hsz⟩ := okWide_struct Tryz.underlying35 hv
  obtain ⟨l⟩ := cs
  have hcells : Tryz.prog.cellsOf 35 = 25 := by kernel_rfl
  match l, hsz.trans hcells with
  | [c0, c1, c2, c3, c4, c5, c6, c7, c8, c9, c10, c11, c12, c13, c14, c15, c16, c17, c18, c19, c20, c21, c22, c23, c24], _ =>
    obtain ⟨fuel, hf⟩ := h
    obtain ⟨xs, n, _, _, _, hlen, hg⟩ := DataW.trod_struct Tryz.underlying35 hf
    match xs, hlen with
    | [y0, y1, y2, y3], _ =>
      have ci : Tryz.prog.cellsOf 3 = 1 := by kernel_rfl
      have cL : Tryz.prog.cellsOf 25 = 13 := by kernel_rfl
      have cC : Tryz.prog.cellsOf 23 = 5 := by kernel_rfl
      have cO : Tryz.prog.cellsOf 32 = 10 := by kernel_rfl
      have cc : Tryz.prog.cellsOf 27 = 3 := by kernel_rfl
      have cs1 : Tryz.prog.cellsOf 28 = 1 := by kernel_rfl
      have cs2 : Tryz.prog.cellsOf 29 = 1 := by kernel_rfl
      have cs3 : Tryz.prog.cellsOf 30 = 1 := by kernel_rfl
      have cs4 : Tryz.prog.cellsOf 33 = 1 := by kernel_rfl
      have h0 := hg 0 _ rfl
      have h1 := hg 1 _ rfl
      have h2 := hg 2 _ rfl
      have h3 := hg 3 _ rfl
      simp [Value.cells, ci, cL, cO, cs4] at h0 h1 h2 h3
      obtain ⟨me, e1, _, wme⟩ := DataW.trod_int Tryz.underlying3 h1
      obtain ⟨lg, hlg, hlI⟩ := ress_trod h3
      obtain ⟨zs, n2, _, _, _, hlen2, hg2⟩ := DataW.trod_struct Tryz.underlying25 h0
      match zs, hlen2 with
      | [z0, z1, z2, z3, z4, z5, z6, z7, z8], _ =>
        have k0 := hg2 0 _ rfl
        have k1 := hg2 1 _ rfl
        have k2 := hg2 2 _ rfl
        have k3 := hg2 3 _ rfl
        have k4 := hg2 4 _ rfl
        have k5 := hg2 5 _ rfl
        have k6 := hg2 6 _ rfl
        have k7 := hg2 7 _ rfl
        have k8 := hg2 8 _ rfl
        simp [ci, cC] at k0 k1 k2 k3 k4 k5 k6 k7 k8
        obtain ⟨l1, f1, _, _⟩ := DataW.trod_int Tryz.underlying3 k1
        obtain ⟨l2, f2, _, _⟩ := DataW.trod_int Tryz.underlying3 k2
        obtain ⟨l3, f3, _, _⟩ := DataW.trod_int Tryz.underlying3 k3
        obtain ⟨l4, f4, _, _⟩ := DataW.trod_int Tryz.underlying3 k4
        obtain ⟨l5, f5, _, _⟩ := DataW.trod_int Tryz.underlying3 k5
        obtain ⟨l6, f6, _, _⟩ := DataW.trod_int Tryz.underlying3 k6
        obtain ⟨l7, f7, _, _⟩ := DataW.trod_int Tryz.underlying3 k7
        obtain ⟨l8, f8, _, _⟩ := DataW.trod_int Tryz.underlying3 k8
        obtain ⟨qs, n3, _, _, _, hlen3, hg3⟩ := DataW.trod_struct Tryz.underlying23 k0
        match qs, hlen3 with
        | [q0, q1, q2, q3, q4], _ =>
          have j0 := hg3 0 _ rfl
          have j1 := hg3 1 _ rfl
          have j2 := hg3 2 _ rfl
          have j3 := hg3 3 _ rfl
          have j4 := hg3 4 _ rfl
          simp [ci] at j0 j1 j2 j3 j4
          obtain ⟨m0, g0, _, _⟩ := DataW.trod_int Tryz.underlying3 j0
          obtain ⟨m1, g1, _, _⟩ := DataW.trod_int Tryz.underlying3 j1
          obtain ⟨m2, g2, _, _⟩ := DataW.trod_int Tryz.underlying3 j2
          obtain ⟨m3, g3, _, _⟩ := DataW.trod_int Tryz.underlying3 j3
          obtain ⟨m4, g4, _, _⟩ := DataW.trod_int Tryz.underlying3 j4
          obtain ⟨os, n4, _, _, _, hlen4, hg4⟩ := DataW.trod_struct Tryz.underlying32 h2
          match os, hlen4 with
          | [o0, o1, o2, o3, o4, o5, o6, o7], _ =>
            have p0 := hg4 0 _ rfl
            have p1 := hg4 1 _ rfl
            have p2 := hg4 2 _ rfl
            have p3 := hg4 3 _ rfl
            have p4 := hg4 4 _ rfl
            have p5 := hg4 5 _ rfl
            have p6 := hg4 6 _ rfl
            have p7 := hg4 7 _ rfl
            simp [ci, cc, cs1, cs2, cs3] at p0 p1 p2 p3 p4 p5 p6 p7
            obtain ⟨a0, e0x, _, wa0⟩ := DataW.trod_int Tryz.underlying3 p0
            obtain ⟨a1, e1x, _, wa1⟩ := DataW.trod_int Tryz.underlying3 p1
            obtain ⟨a2, e2x, _, wa2⟩ := DataW.trod_int Tryz.underlying3 p2
            obtain ⟨a3, e3x, _, wa3⟩ := DataW.trod_int Tryz.underlying3 p3
            obtain ⟨sa, sl, sc, Q, rfl, hQ⟩ := seens_trod p5
            obtain ⟨wa, wl, wc, rfl, _⟩ := open_lenq Tryz.underlying29 p6
            obtain ⟨da, dl, dc, rfl, _⟩ := open_lenq Tryz.underlying30 p7
            obtain ⟨ws, n5, _, _, _, hlen5, hg5⟩ := DataW.trod_struct Tryz.underlying27 p4
            match ws, hlen5 with
            | [w0, w1, w2], _ =>
              have s0 := hg5 0 _ rfl
              have s1 := hg5 1 _ rfl
              have s2 := hg5 2 _ rfl
              simp [ci] at s0 s1 s2
              obtain ⟨b0, r0, _, _⟩ := DataW.trod_int Tryz.underlying3 s0
              obtain ⟨b1, r1, _, _⟩ := DataW.trod_int Tryz.underlying3 s1
              obtain ⟨b2, r2, _, _⟩ := DataW.trod_int Tryz.underlying3 s2
              simp at e1 f1 f2 f3 f4 f5 f6 f7 f8 g0 g1 g2 g3 g4 e0x e1x e2x e3x r0 r1 r2
              subst e1; subst f1; subst f2; subst f3; subst f4; subst f5; subst f6; subst f7; subst f8; subst g0; subst g1; subst g2; subst g3; subst g4; subst e0x; subst e1x; subst e2x; subst e3x; subst r0; subst r1; subst r2
              exact ⟨⟨⟨m0, m1, m2, m3, m4⟩, l1, l2, l3, l4, l5, l6, l7, l8⟩, me, a0, a1, a2, a3, b0, b1, b2, sa, wa, da, sl, sc, wl, wc, dl, dc, _, lg, rfl, hlg, hlI, i64_of_wf wa1, Q, hQ⟩
end
end Go.Proofs.YtfahnmpcclhjlaaGreat
