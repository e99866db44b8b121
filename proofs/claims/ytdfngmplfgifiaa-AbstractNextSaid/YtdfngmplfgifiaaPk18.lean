/-
  Merged: An3
-/
import Derived.Test.YtdfngmplfgifiaaPk17
import Derived.Test.YtdfngmplfgifiaaPk3

/-
  Layer 20: AbstractNext.
-/
namespace Go.Proofs.Ytdfngmplfgifiaa
open Go Go.RowKit
set_option maxRecDepth 100000
set_option linter.unusedVariables false
set_option linter.unusedSimpArgs false
theorem ly20_ok {k : Int} (h : 0 ≤ k ∧ k ≤ 3) : (ly20 k).ok := by
  have h4 : k = 0 ∨ k = 1 ∨ k = 2 ∨ k = 3 := by omega
  rcases h4 with rfl | rfl | rfl | rfl <;> decide
theorem where20 {k : Int} (h : 0 ≤ k ∧ k ≤ 3) (w : World) : Calls Try.prog 29 #[.int .i64 k] w fun e w' => e = .returned (ly20 k).v ∧ Below w.heap.size w w' := by
  have h4 : k = 0 ∨ k = 1 ∨ k = 2 ∨ k = 3 := by omega
  rcases h4 with rfl | rfl | rfl | rfl
  · exact where20_0 w
  · exact where20_1 w
  · exact where20_2 w
  · exact where20_3 w
theorem mod_in (q : Int) (n : Int) (hn : 0 < n ∧ n ≤ 1000) (h : 0 ≤ q ∧ q ≤ 255) : IntKind.i64.wrap (Int.tmod q n) = q % n ∧ 0 ≤ q % n ∧ q % n < n := by
  have h1 := Int.emod_nonneg q (show n ≠ 0 by omega)
  have h2 := Int.emod_lt_of_pos q hn.1
  refine ⟨?_, h1, h2⟩
  rw [Int.tmod_eq_emod_of_nonneg h.1, IntKind.wrap_i64]
  omega
theorem absnext_all (w : World) (q p : Int) (hq : 0 ≤ q ∧ q ≤ 255) (hp : 0 ≤ p ∧ p ≤ 255) (k a b ty s r ab : Int) (sa wa da : Option Addr) (sl sc wl wc dl dc : Nat) (v : Value) (l : List (Int × Bool)) (hv : LogQ w v l) (hI : ∀ x ∈ l, I64 x.1) :
    Calls Try.prog 7 #[.int .u8 q, .int .u8 p, .agg #[.int .i64 k, .int .i64 a, .int .i64 b, .int .i64 ty, .int .i64 s, .int .i64 r, .int .i64 ab, .slice sa sl sc, .slice wa wl wc, .slice da dl dc], v] w fun e w' => e = .returned (.bool true) ∧ Below w.heap.size w w' := by
  have hw : LogOf w v l := hv
  obtain ⟨la, lc, rfl, _⟩ := hv
  obtain ⟨e1, q1, q2⟩ := mod_in q 4 (by omega) hq
  obtain ⟨e2, p1, p2⟩ := mod_in p 3 (by omega) hp
  by_cases h0 : 30 < l.length
  · exact an_long0 q p k a b ty ⟨s, r, ab⟩ sa wa da sl sc wl wc dl dc la lc l h0 w hw
  by_cases h1 : 20 < sl
  · exact an_long1 q p k a b ty ⟨s, r, ab⟩ sa wa da sl sc wl wc dl dc la lc l h0 h1 w hw
  by_cases h2 : 20 < wl
  · exact an_long2 q p k a b ty ⟨s, r, ab⟩ sa wa da sl sc wl wc dl dc la lc l h0 h1 h2 w hw
  by_cases h3 : 20 < dl
  · exact an_long3 q p k a b ty ⟨s, r, ab⟩ sa wa da sl sc wl wc dl dc la lc l h0 h1 h2 h3 w hw
  have hok := ly20_ok (k := q % 4) ⟨q1, by omega⟩
  have hm : decide (0 = IntKind.i64.wrap (p % 3 + 1)) = false := by
    rw [IntKind.wrap_i64, decide_eq_false_iff_not]; omega
  have g1 := fun w h => anext_any w (ly20 (q % 4)) hok (p % 3) k a b ty ⟨s, r, ab⟩ sa wa da sl sc wl wc dl dc (.slice la l.length lc) l h hI
  have g2 := fun w h => ranext_any w (ly20 (q % 4)) hok (p % 3) k a b ty ⟨s, r, ab⟩ sa wa da sl sc wl wc dl dc (.slice la l.length lc) l h hI (by omega) hm
  cases hx : (absT (ly20 (q % 4)) (p % 3) k a ⟨s, r, ab⟩ (l.length + 1)).run l with
  | inl u =>
    rw [hx] at g1 g2
    exact an_ask q p k a b ty ⟨s, r, ab⟩ sa wa da sl sc wl wc dl dc la lc l (ly20 (q % 4)) (q % 4) (p % 3) e1 e2 (where20 ⟨q1, by omega⟩) h0 h1 h2 h3 u g1 g2 w hw
  | inr u =>
    rw [hx] at g1 g2
    exact an_out q p k a b ty ⟨s, r, ab⟩ sa wa da sl sc wl wc dl dc la lc l (ly20 (q % 4)) (q % 4) (p % 3) e1 e2 (where20 ⟨q1, by omega⟩) h0 h1 h2 h3 u g1 g2 w hw
end Go.Proofs.Ytdfngmplfgifiaa
