
/-
  Layer 15: what the arguments of a statement are in memory: a configuration, a program's code.
-/
import Derived.Test.YtimjodpndhckdaaRows
import Derived.Test.YtimjodpndhckdaaBase
import Derived.Test.YtimjodpndhckdaaLayA
import Derived.Test.YtimjodpndhckdaaLayD
import Derived.Deep.Fields
import Derived.Deep.Slices
namespace Go.Proofs.Ytimjodpndhckdaa
set_option maxRecDepth 100000
open Go.ChangeShapes Go.WideShapes Go.ChangeAt Go.RowKit Go.Deep

section
variable {H : Type} {enc : TypeId × Value → H} {W : World}

theorem cells_int15 : Try.prog.cellsOf 3 = 1 := by kernel_rfl
theorem cells_conf : Try.prog.cellsOf 51 = 5 := by kernel_rfl
theorem cells_code : Try.prog.cellsOf 67 = 7 := by kernel_rfl

theorem open_conf {r : Reach} {b0 : Nat} {v : Value} {d : DataW H} {p : List MemPlace} (hv : Value.okWide Try.prog W r b0 51 v) (h : DataW.Trod enc Try.prog W 0 (fun _ => true) true 51 v d p) :
    ∃ c : Cf, v = c.v ∧ I64 c.t ∧ I64 c.l ∧ I64 c.k ∧ I64 c.s ∧ I64 c.m := by
  obtain ⟨cs, rfl, hsz⟩ := okWide_struct Try.underlying51 hv
  obtain ⟨l⟩ := cs
  match l, hsz.trans cells_conf with
  | [c0, c1, c2, c3, c4], _ =>
    obtain ⟨fuel, hf⟩ := h
    obtain ⟨xs, n, _, _, _, hlen, hg⟩ := DataW.trod_struct Try.underlying51 hf
    match xs, hlen with
    | [y0, y1, y2, y3, y4], _ =>
      have h0 := hg 0 _ rfl
      have h1 := hg 1 _ rfl
      have h2 := hg 2 _ rfl
      have h3 := hg 3 _ rfl
      have h4 := hg 4 _ rfl
      have ci : Try.prog.cellsOf 3 = 1 := cells_int15
      simp [Value.cells, ci] at h0 h1 h2 h3 h4
      obtain ⟨a0, e0, _, w0⟩ := DataW.trod_int Try.underlying3 h0
      obtain ⟨a1, e1, _, w1⟩ := DataW.trod_int Try.underlying3 h1
      obtain ⟨a2, e2, _, w2⟩ := DataW.trod_int Try.underlying3 h2
      obtain ⟨a3, e3, _, w3⟩ := DataW.trod_int Try.underlying3 h3
      obtain ⟨a4, e4, _, w4⟩ := DataW.trod_int Try.underlying3 h4
      simp at e0 e1 e2 e3 e4
      subst e0; subst e1; subst e2; subst e3; subst e4
      exact ⟨⟨a0, a1, a2, a3, a4⟩, rfl, i64_of_wf w0, i64_of_wf w1, i64_of_wf w2, i64_of_wf w3, i64_of_wf w4⟩

theorem open_code {r : Reach} {b0 : Nat} {v : Value} {d : DataW H} {p : List MemPlace} (hv : Value.okWide Try.prog W r b0 67 v) (h : DataW.Trod enc Try.prog W 0 (fun _ => true) true 67 v d p) :
    ∃ (f0 f1 f2 f3 f4 f5 : Value) (t n : Nat) (k : Int), v = .agg #[f0, f1, f2, f3, f4, f5, .int .i64 k] ∧ SlLen f1 t ∧ SlLen f3 n ∧ t ≤ 9223372036854775807 ∧ n ≤ 9223372036854775807 ∧ I64 k := by
  obtain ⟨cs, rfl, hsz⟩ := okWide_struct Try.underlying67 hv
  obtain ⟨l⟩ := cs
  match l, hsz.trans cells_code with
  | [c0, c1, c2, c3, c4, c5, c6], _ =>
    obtain ⟨fuel, hf⟩ := h
    obtain ⟨xs, n, _, _, _, hlen, hg⟩ := DataW.trod_struct Try.underlying67 hf
    match xs, hlen with
    | [y0, y1, y2, y3, y4, y5, y6], _ =>
      have h1 := hg 1 _ rfl
      have h3 := hg 3 _ rfl
      have h6 := hg 6 _ rfl
      have ci : Try.prog.cellsOf 3 = 1 := cells_int15
      have cl : Try.prog.cellsOf 22 = 1 := by kernel_rfl
      simp [Value.cells, ci, cl] at h1 h3 h6
      obtain ⟨a6, e6, _, w6⟩ := DataW.trod_int Try.underlying3 h6
      simp at e6
      subst e6
      have key : ∀ {c : Value} {x : DataW H × List MemPlace} {n' : Nat}, DataW.trod enc Try.prog W 0 (fun _ => true) true n' 22 [c] = some x → ∃ t, SlLen c t ∧ t ≤ 9223372036854775807 := by
        intro c x n' hh
        rcases open_slice Try.underlying22 hh with ⟨hcs, _⟩ | ⟨a, len, cap, m, n, D, Pl, hcs, _, hl, hm, hmm, _, hi⟩
        · simp at hcs
          subst hcs
          exact ⟨0, ⟨_, _, rfl⟩, by omega⟩
        · simp at hcs
          subst hcs
          exact ⟨len, ⟨_, _, rfl⟩, by unfold maxLen at hm; omega⟩
      obtain ⟨t1, g1, m1⟩ := key h1
      obtain ⟨t3, g3, m3⟩ := key h3
      exact ⟨c0, c1, c2, c3, c4, c5, t1, t3, a6, rfl, g1, g3, m1, m3, i64_of_wf w6⟩

end
end Go.Proofs.Ytimjodpndhckdaa
