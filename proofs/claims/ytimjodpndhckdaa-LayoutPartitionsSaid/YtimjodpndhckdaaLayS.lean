
/-
  The examples of chapter 15, which every statement of layer 15 asks: they hold, and the call only makes new memory.
-/
import Derived.Test.YtimjodpndhckdaaRows
import Derived.Test.YtimjodpndhckdaaBase
import Derived.Test.YtimjodpndhckdaaAux
import Derived.Test.YtimjodpndhckdaaMemA
import Derived.Test.YtimjodpndhckdaaMemF
import Derived.Test.YtimjodpndhckdaaLayA
import Derived.Test.YtimjodpndhckdaaLayB
import Derived.Test.YtimjodpndhckdaaLayC
import Derived.Test.YtimjodpndhckdaaLayD
import Derived.Test.YtimjodpndhckdaaLayE
import Derived.Outline
namespace Go.Proofs.Ytimjodpndhckdaa
set_option maxRecDepth 20000
open Go.ChangeShapes Go.WideShapes Go.ChangeAt Go.RowKit

def exL : Ly := layOf ⟨1, 1, 0, 0, 0⟩
theorem exL_ok : exL.ok := by unfold Ly.ok; decide
theorem s_of1 (w : World) : Calls Try.prog 25 #[.agg #[.int .i64 1, .int .i64 1, .int .i64 0, .int .i64 0, .int .i64 0]] w fun e w' => e = .returned (.tuple #[.agg #[.int .i64 1, .int .i64 1, .int .i64 0, .int .i64 0, .int .i64 0, .int .i64 0, .int .i64 1, .int .i64 2, .int .i64 3, .int .i64 4, .int .i64 8, .int .i64 8, .int .i64 12], .int .i64 0]) ∧ Below w.heap.size w w' :=
  of_t ⟨1, 1, 0, 0, 0⟩ w (by decide)
theorem s_of0 (w : World) : Calls Try.prog 25 #[.agg #[.int .i64 0, .int .i64 0, .int .i64 0, .int .i64 0, .int .i64 0]] w fun e w' => e = .returned (.tuple #[.agg #[.int .i64 0, .int .i64 0, .int .i64 0, .int .i64 0, .int .i64 0, .int .i64 0, .int .i64 0, .int .i64 0, .int .i64 0, .int .i64 0, .int .i64 0, .int .i64 0, .int .i64 0], .int .i64 1]) ∧ Below w.heap.size w w' :=
  of_f ⟨0, 0, 0, 0, 0⟩ w (by decide)
theorem s_for (a b : Nat) (f0 f2 f4 f5 : Value) (w : World) : Calls Try.prog 34 #[.agg #[f0, .slice (some ⟨a, 0, none⟩) 2 2, f2, .slice (some ⟨b, 0, none⟩) 1 1, f4, f5, .int .i64 0], .int .i64 9, .int .i64 2] w fun e w' => e = .returned (.tuple #[.agg #[.int .i64 2, .int .i64 1, .int .i64 0, .int .i64 9, .int .i64 2], .int .i64 0]) ∧ Below w.heap.size w w' :=
  for_t f0 _ f2 _ f4 f5 2 1 0 9 2 w ⟨_, _, rfl⟩ ⟨_, _, rfl⟩ (by decide)
theorem s_init (v : Value) (w : World) (hv : HasInts w v [7, 8]) : Calls Try.prog 32 #[.agg #[.int .i64 1, .int .i64 1, .int .i64 0, .int .i64 0, .int .i64 0, .int .i64 0, .int .i64 1, .int .i64 2, .int .i64 3, .int .i64 4, .int .i64 8, .int .i64 8, .int .i64 12], v] w fun e w' => ∃ a c, e = .returned (.slice a 2 c) ∧ Below w.heap.size w w' :=
  (init_any exL v [7, 8] w exL_ok hv (by decide)).mono fun e w' ⟨u, he, ⟨a, c, hu, _⟩, hb⟩ => ⟨a, c, by rw [he, hu]; rfl, hb⟩
theorem s_right1 (w : World) : Calls Try.prog 27 #[.agg #[.int .i64 1, .int .i64 1, .int .i64 0, .int .i64 0, .int .i64 0, .int .i64 0, .int .i64 1, .int .i64 2, .int .i64 3, .int .i64 4, .int .i64 8, .int .i64 8, .int .i64 12]] w fun e w' => e = .returned (.bool true) ∧ Below w.heap.size w w' :=
  right15_any exL w
theorem s_right0 (w : World) : Calls Try.prog 27 #[.agg #[.int .i64 0, .int .i64 0, .int .i64 0, .int .i64 0, .int .i64 0, .int .i64 0, .int .i64 0, .int .i64 0, .int .i64 0, .int .i64 0, .int .i64 0, .int .i64 0, .int .i64 0]] w fun e w' => e = .returned (.bool false) ∧ Below w.heap.size w w' :=
  right15_any lay0 w
theorem s_karma (w : World) : Calls Try.prog 56 #[.agg #[.int .i64 1, .int .i64 1, .int .i64 0, .int .i64 0, .int .i64 0, .int .i64 0, .int .i64 1, .int .i64 2, .int .i64 3, .int .i64 4, .int .i64 8, .int .i64 8, .int .i64 12], .int .i64 0] w fun e w' => e = .returned (.int .i64 7) ∧ Below w.heap.size w w' :=
  karma_any exL 0 w exL_ok
theorem s_waiters (w : World) : Calls Try.prog 38 #[.agg #[.int .i64 1, .int .i64 1, .int .i64 0, .int .i64 0, .int .i64 0, .int .i64 0, .int .i64 1, .int .i64 2, .int .i64 3, .int .i64 4, .int .i64 8, .int .i64 8, .int .i64 12], .int .i64 0] w fun e w' => e = .returned (.int .i64 11) ∧ Below w.heap.size w w' :=
  waiters_any exL 0 w exL_ok
theorem s_word (w : World) : Calls Try.prog 37 #[.agg #[.int .i64 1, .int .i64 1, .int .i64 0, .int .i64 0, .int .i64 0, .int .i64 0, .int .i64 1, .int .i64 2, .int .i64 3, .int .i64 4, .int .i64 8, .int .i64 8, .int .i64 12], .int .i64 1] w fun e w' => e = .returned (.int .i64 (-1)) ∧ Below w.heap.size w w' :=
  word_any exL 1 w exL_ok
theorem s_ceq (w : World) : (binOp .eql 51 (.agg #[.int .i64 2, .int .i64 1, .int .i64 0, .int .i64 9, .int .i64 2]) (.agg #[.int .i64 2, .int .i64 1, .int .i64 0, .int .i64 9, .int .i64 2])).run Try.prog w = .ok (.bool true) w :=
  conf_eql ⟨2, 1, 0, 9, 2⟩ ⟨2, 1, 0, 9, 2⟩ w

theorem hasInts_put {w : World} {cs : Array Value} {T : TypeId} {n g : Nat} (l : List Int) (hcs : cs = (l.map (Value.int .i64)).toArray) (hn : n = l.length) (hl : l.length ≤ 1000) (hg : g = w.heap.size) : HasInts (w.alloc (.cells cs T)) (.slice (some ⟨g, 0, none⟩) n n) l := by
  subst hcs; subst hn; subst hg
  refine ⟨_, _, rfl, by omega, Or.inr ⟨_, _, rfl, fun j hj => ?_⟩⟩
  rw [World.cell?_alloc_at _ _ _ _ rfl]
  simp [List.getD, List.getElem?_eq_getElem hj]

theorem put78 (w : World) (g : Nat) (hg : g = w.heap.size) : HasInts (w.alloc (.cells #[.int .i64 7, .int .i64 8] 3)) (.slice (some ⟨g, 0, none⟩) 2 2) [7, 8] :=
  hasInts_put [7, 8] rfl rfl (by decide) hg

set_option maxHeartbeats 4000000 in
set_option maxRecDepth 100000 in
theorem sane15_any (w : World) : Calls Try.prog 24 #[] w fun e w' => e = .returned (.bool true) ∧ Below w.heap.size w w' := by
  have hce := s_ceq
  go_enter Try.func24, Try.ntmps24
  go_wp2_with fail
  ((with_reducible refine (s_of1 _).mono ?_); rintro e w1 ⟨rfl, hb⟩)
  have HW := Lib.hid ( hb)
  have zz : w.heap.size + 0 ≤ w1.heap.size := by have := hb.size; (try simp at this); omega
  clear hb zz
  go_wp2_with fail
  ((with_reducible refine (s_of0 _).mono ?_); rintro e w2 ⟨rfl, hb⟩)
  replace HW := Lib.hid (below_step HW.out (below_alloc1 hb))
  have zz : w1.heap.size + 1 ≤ w2.heap.size := by have := hb.size; (try simp at this); omega
  have l0 : w2.cell? ⟨w1.heap.size, 0, none⟩ = some (.int .i64 1) := cel_below hb (by rw [World.cell?_alloc_at _ _ _ _ (by simp)]; rfl)
  have l1 : w2.cell? ⟨w1.heap.size, 1, none⟩ = some (.int .i64 1) := cel_below hb (by rw [World.cell?_alloc_at _ _ _ _ (by simp)]; rfl)
  have l2 : w2.cell? ⟨w1.heap.size, 2, none⟩ = some (.int .i64 0) := cel_below hb (by rw [World.cell?_alloc_at _ _ _ _ (by simp)]; rfl)
  have l3 : w2.cell? ⟨w1.heap.size, 3, none⟩ = some (.int .i64 0) := cel_below hb (by rw [World.cell?_alloc_at _ _ _ _ (by simp)]; rfl)
  have l4 : w2.cell? ⟨w1.heap.size, 4, none⟩ = some (.int .i64 0) := cel_below hb (by rw [World.cell?_alloc_at _ _ _ _ (by simp)]; rfl)
  have l5 : w2.cell? ⟨w1.heap.size, 5, none⟩ = some (.int .i64 0) := cel_below hb (by rw [World.cell?_alloc_at _ _ _ _ (by simp)]; rfl)
  have l6 : w2.cell? ⟨w1.heap.size, 6, none⟩ = some (.int .i64 1) := cel_below hb (by rw [World.cell?_alloc_at _ _ _ _ (by simp)]; rfl)
  have l7 : w2.cell? ⟨w1.heap.size, 7, none⟩ = some (.int .i64 2) := cel_below hb (by rw [World.cell?_alloc_at _ _ _ _ (by simp)]; rfl)
  have l8 : w2.cell? ⟨w1.heap.size, 8, none⟩ = some (.int .i64 3) := cel_below hb (by rw [World.cell?_alloc_at _ _ _ _ (by simp)]; rfl)
  have l9 : w2.cell? ⟨w1.heap.size, 9, none⟩ = some (.int .i64 4) := cel_below hb (by rw [World.cell?_alloc_at _ _ _ _ (by simp)]; rfl)
  have l10 : w2.cell? ⟨w1.heap.size, 10, none⟩ = some (.int .i64 8) := cel_below hb (by rw [World.cell?_alloc_at _ _ _ _ (by simp)]; rfl)
  have l11 : w2.cell? ⟨w1.heap.size, 11, none⟩ = some (.int .i64 8) := cel_below hb (by rw [World.cell?_alloc_at _ _ _ _ (by simp)]; rfl)
  have l12 : w2.cell? ⟨w1.heap.size, 12, none⟩ = some (.int .i64 12) := cel_below hb (by rw [World.cell?_alloc_at _ _ _ _ (by simp)]; rfl)
  have z0 : w1.heap.size < w2.heap.size := by omega
  clear hb zz
  go_wp2_with fail
  ((with_reducible refine (s_for _ _ _ _ _ _ _).mono ?_); rintro e w3 ⟨rfl, hb⟩)
  replace HW := Lib.hid (below_step HW.out (below_alloc3 hb))
  have zz : w2.heap.size + 3 ≤ w3.heap.size := by have := hb.size; (try simp at this); omega
  replace l0 : w3.cell? ⟨w1.heap.size, 0, none⟩ = some (.int .i64 1) := cel_below hb (cell_alloc _ (cell_alloc _ (cell_alloc _ (l0))))
  replace l1 : w3.cell? ⟨w1.heap.size, 1, none⟩ = some (.int .i64 1) := cel_below hb (cell_alloc _ (cell_alloc _ (cell_alloc _ (l1))))
  replace l2 : w3.cell? ⟨w1.heap.size, 2, none⟩ = some (.int .i64 0) := cel_below hb (cell_alloc _ (cell_alloc _ (cell_alloc _ (l2))))
  replace l3 : w3.cell? ⟨w1.heap.size, 3, none⟩ = some (.int .i64 0) := cel_below hb (cell_alloc _ (cell_alloc _ (cell_alloc _ (l3))))
  replace l4 : w3.cell? ⟨w1.heap.size, 4, none⟩ = some (.int .i64 0) := cel_below hb (cell_alloc _ (cell_alloc _ (cell_alloc _ (l4))))
  replace l5 : w3.cell? ⟨w1.heap.size, 5, none⟩ = some (.int .i64 0) := cel_below hb (cell_alloc _ (cell_alloc _ (cell_alloc _ (l5))))
  replace l6 : w3.cell? ⟨w1.heap.size, 6, none⟩ = some (.int .i64 1) := cel_below hb (cell_alloc _ (cell_alloc _ (cell_alloc _ (l6))))
  replace l7 : w3.cell? ⟨w1.heap.size, 7, none⟩ = some (.int .i64 2) := cel_below hb (cell_alloc _ (cell_alloc _ (cell_alloc _ (l7))))
  replace l8 : w3.cell? ⟨w1.heap.size, 8, none⟩ = some (.int .i64 3) := cel_below hb (cell_alloc _ (cell_alloc _ (cell_alloc _ (l8))))
  replace l9 : w3.cell? ⟨w1.heap.size, 9, none⟩ = some (.int .i64 4) := cel_below hb (cell_alloc _ (cell_alloc _ (cell_alloc _ (l9))))
  replace l10 : w3.cell? ⟨w1.heap.size, 10, none⟩ = some (.int .i64 8) := cel_below hb (cell_alloc _ (cell_alloc _ (cell_alloc _ (l10))))
  replace l11 : w3.cell? ⟨w1.heap.size, 11, none⟩ = some (.int .i64 8) := cel_below hb (cell_alloc _ (cell_alloc _ (cell_alloc _ (l11))))
  replace l12 : w3.cell? ⟨w1.heap.size, 12, none⟩ = some (.int .i64 12) := cel_below hb (cell_alloc _ (cell_alloc _ (cell_alloc _ (l12))))
  replace z0 : w1.heap.size < w3.heap.size := by omega
  clear hb zz
  go_wp2_with fail
  ((with_reducible refine (s_init _ _ (put78 _ _ (by simp))).mono ?_); rintro e w4 ⟨a4, c4, rfl, hb⟩)
  replace HW := Lib.hid (below_step HW.out (below_alloc2 hb))
  have zz : w3.heap.size + 2 ≤ w4.heap.size := by have := hb.size; (try simp at this); omega
  replace l0 : w4.cell? ⟨w1.heap.size, 0, none⟩ = some (.int .i64 1) := cel_below hb (cell_alloc _ (cell_alloc _ (l0)))
  replace l1 : w4.cell? ⟨w1.heap.size, 1, none⟩ = some (.int .i64 1) := cel_below hb (cell_alloc _ (cell_alloc _ (l1)))
  replace l2 : w4.cell? ⟨w1.heap.size, 2, none⟩ = some (.int .i64 0) := cel_below hb (cell_alloc _ (cell_alloc _ (l2)))
  replace l3 : w4.cell? ⟨w1.heap.size, 3, none⟩ = some (.int .i64 0) := cel_below hb (cell_alloc _ (cell_alloc _ (l3)))
  replace l4 : w4.cell? ⟨w1.heap.size, 4, none⟩ = some (.int .i64 0) := cel_below hb (cell_alloc _ (cell_alloc _ (l4)))
  replace l5 : w4.cell? ⟨w1.heap.size, 5, none⟩ = some (.int .i64 0) := cel_below hb (cell_alloc _ (cell_alloc _ (l5)))
  replace l6 : w4.cell? ⟨w1.heap.size, 6, none⟩ = some (.int .i64 1) := cel_below hb (cell_alloc _ (cell_alloc _ (l6)))
  replace l7 : w4.cell? ⟨w1.heap.size, 7, none⟩ = some (.int .i64 2) := cel_below hb (cell_alloc _ (cell_alloc _ (l7)))
  replace l8 : w4.cell? ⟨w1.heap.size, 8, none⟩ = some (.int .i64 3) := cel_below hb (cell_alloc _ (cell_alloc _ (l8)))
  replace l9 : w4.cell? ⟨w1.heap.size, 9, none⟩ = some (.int .i64 4) := cel_below hb (cell_alloc _ (cell_alloc _ (l9)))
  replace l10 : w4.cell? ⟨w1.heap.size, 10, none⟩ = some (.int .i64 8) := cel_below hb (cell_alloc _ (cell_alloc _ (l10)))
  replace l11 : w4.cell? ⟨w1.heap.size, 11, none⟩ = some (.int .i64 8) := cel_below hb (cell_alloc _ (cell_alloc _ (l11)))
  replace l12 : w4.cell? ⟨w1.heap.size, 12, none⟩ = some (.int .i64 12) := cel_below hb (cell_alloc _ (cell_alloc _ (l12)))
  replace z0 : w1.heap.size < w4.heap.size := by omega
  have c0 : w4.cell? ⟨w3.heap.size, 0, none⟩ = some (.int .i64 2) := cel_below hb (cell_alloc _ (by rw [World.cell?_alloc_at _ _ _ _ (by simp)]; rfl))
  have c1 : w4.cell? ⟨w3.heap.size, 1, none⟩ = some (.int .i64 1) := cel_below hb (cell_alloc _ (by rw [World.cell?_alloc_at _ _ _ _ (by simp)]; rfl))
  have c2 : w4.cell? ⟨w3.heap.size, 2, none⟩ = some (.int .i64 0) := cel_below hb (cell_alloc _ (by rw [World.cell?_alloc_at _ _ _ _ (by simp)]; rfl))
  have c3 : w4.cell? ⟨w3.heap.size, 3, none⟩ = some (.int .i64 9) := cel_below hb (cell_alloc _ (by rw [World.cell?_alloc_at _ _ _ _ (by simp)]; rfl))
  have c4 : w4.cell? ⟨w3.heap.size, 4, none⟩ = some (.int .i64 2) := cel_below hb (cell_alloc _ (by rw [World.cell?_alloc_at _ _ _ _ (by simp)]; rfl))
  have z1 : w3.heap.size < w4.heap.size := by omega
  clear hb zz
  go_wp2_with fail
  ((with_reducible refine (s_right1 _).mono ?_); rintro e w5 ⟨rfl, hb⟩)
  replace HW := Lib.hid (below_step HW.out ( hb))
  have zz : w4.heap.size + 0 ≤ w5.heap.size := by have := hb.size; (try simp at this); omega
  replace l0 : w5.cell? ⟨w1.heap.size, 0, none⟩ = some (.int .i64 1) := cel_below hb (l0)
  replace l1 : w5.cell? ⟨w1.heap.size, 1, none⟩ = some (.int .i64 1) := cel_below hb (l1)
  replace l2 : w5.cell? ⟨w1.heap.size, 2, none⟩ = some (.int .i64 0) := cel_below hb (l2)
  replace l3 : w5.cell? ⟨w1.heap.size, 3, none⟩ = some (.int .i64 0) := cel_below hb (l3)
  replace l4 : w5.cell? ⟨w1.heap.size, 4, none⟩ = some (.int .i64 0) := cel_below hb (l4)
  replace l5 : w5.cell? ⟨w1.heap.size, 5, none⟩ = some (.int .i64 0) := cel_below hb (l5)
  replace l6 : w5.cell? ⟨w1.heap.size, 6, none⟩ = some (.int .i64 1) := cel_below hb (l6)
  replace l7 : w5.cell? ⟨w1.heap.size, 7, none⟩ = some (.int .i64 2) := cel_below hb (l7)
  replace l8 : w5.cell? ⟨w1.heap.size, 8, none⟩ = some (.int .i64 3) := cel_below hb (l8)
  replace l9 : w5.cell? ⟨w1.heap.size, 9, none⟩ = some (.int .i64 4) := cel_below hb (l9)
  replace l10 : w5.cell? ⟨w1.heap.size, 10, none⟩ = some (.int .i64 8) := cel_below hb (l10)
  replace l11 : w5.cell? ⟨w1.heap.size, 11, none⟩ = some (.int .i64 8) := cel_below hb (l11)
  replace l12 : w5.cell? ⟨w1.heap.size, 12, none⟩ = some (.int .i64 12) := cel_below hb (l12)
  replace c0 : w5.cell? ⟨w3.heap.size, 0, none⟩ = some (.int .i64 2) := cel_below hb (c0)
  replace c1 : w5.cell? ⟨w3.heap.size, 1, none⟩ = some (.int .i64 1) := cel_below hb (c1)
  replace c2 : w5.cell? ⟨w3.heap.size, 2, none⟩ = some (.int .i64 0) := cel_below hb (c2)
  replace c3 : w5.cell? ⟨w3.heap.size, 3, none⟩ = some (.int .i64 9) := cel_below hb (c3)
  replace c4 : w5.cell? ⟨w3.heap.size, 4, none⟩ = some (.int .i64 2) := cel_below hb (c4)
  replace z0 : w1.heap.size < w5.heap.size := by omega
  replace z1 : w3.heap.size < w5.heap.size := by omega
  clear hb zz
  go_wp2_with fail
  ((with_reducible refine (s_right0 _).mono ?_); rintro e w6 ⟨rfl, hb⟩)
  replace HW := Lib.hid (below_step HW.out ( hb))
  have zz : w5.heap.size + 0 ≤ w6.heap.size := by have := hb.size; (try simp at this); omega
  replace l0 : w6.cell? ⟨w1.heap.size, 0, none⟩ = some (.int .i64 1) := cel_below hb (l0)
  replace l1 : w6.cell? ⟨w1.heap.size, 1, none⟩ = some (.int .i64 1) := cel_below hb (l1)
  replace l2 : w6.cell? ⟨w1.heap.size, 2, none⟩ = some (.int .i64 0) := cel_below hb (l2)
  replace l3 : w6.cell? ⟨w1.heap.size, 3, none⟩ = some (.int .i64 0) := cel_below hb (l3)
  replace l4 : w6.cell? ⟨w1.heap.size, 4, none⟩ = some (.int .i64 0) := cel_below hb (l4)
  replace l5 : w6.cell? ⟨w1.heap.size, 5, none⟩ = some (.int .i64 0) := cel_below hb (l5)
  replace l6 : w6.cell? ⟨w1.heap.size, 6, none⟩ = some (.int .i64 1) := cel_below hb (l6)
  replace l7 : w6.cell? ⟨w1.heap.size, 7, none⟩ = some (.int .i64 2) := cel_below hb (l7)
  replace l8 : w6.cell? ⟨w1.heap.size, 8, none⟩ = some (.int .i64 3) := cel_below hb (l8)
  replace l9 : w6.cell? ⟨w1.heap.size, 9, none⟩ = some (.int .i64 4) := cel_below hb (l9)
  replace l10 : w6.cell? ⟨w1.heap.size, 10, none⟩ = some (.int .i64 8) := cel_below hb (l10)
  replace l11 : w6.cell? ⟨w1.heap.size, 11, none⟩ = some (.int .i64 8) := cel_below hb (l11)
  replace l12 : w6.cell? ⟨w1.heap.size, 12, none⟩ = some (.int .i64 12) := cel_below hb (l12)
  replace c0 : w6.cell? ⟨w3.heap.size, 0, none⟩ = some (.int .i64 2) := cel_below hb (c0)
  replace c1 : w6.cell? ⟨w3.heap.size, 1, none⟩ = some (.int .i64 1) := cel_below hb (c1)
  replace c2 : w6.cell? ⟨w3.heap.size, 2, none⟩ = some (.int .i64 0) := cel_below hb (c2)
  replace c3 : w6.cell? ⟨w3.heap.size, 3, none⟩ = some (.int .i64 9) := cel_below hb (c3)
  replace c4 : w6.cell? ⟨w3.heap.size, 4, none⟩ = some (.int .i64 2) := cel_below hb (c4)
  replace z0 : w1.heap.size < w6.heap.size := by omega
  replace z1 : w3.heap.size < w6.heap.size := by omega
  clear hb zz
  go_wp2_with fail
  ((with_reducible refine (s_karma _).mono ?_); rintro e w7 ⟨rfl, hb⟩)
  replace HW := Lib.hid (below_step HW.out ( hb))
  have zz : w6.heap.size + 0 ≤ w7.heap.size := by have := hb.size; (try simp at this); omega
  replace l0 : w7.cell? ⟨w1.heap.size, 0, none⟩ = some (.int .i64 1) := cel_below hb (l0)
  replace l1 : w7.cell? ⟨w1.heap.size, 1, none⟩ = some (.int .i64 1) := cel_below hb (l1)
  replace l2 : w7.cell? ⟨w1.heap.size, 2, none⟩ = some (.int .i64 0) := cel_below hb (l2)
  replace l3 : w7.cell? ⟨w1.heap.size, 3, none⟩ = some (.int .i64 0) := cel_below hb (l3)
  replace l4 : w7.cell? ⟨w1.heap.size, 4, none⟩ = some (.int .i64 0) := cel_below hb (l4)
  replace l5 : w7.cell? ⟨w1.heap.size, 5, none⟩ = some (.int .i64 0) := cel_below hb (l5)
  replace l6 : w7.cell? ⟨w1.heap.size, 6, none⟩ = some (.int .i64 1) := cel_below hb (l6)
  replace l7 : w7.cell? ⟨w1.heap.size, 7, none⟩ = some (.int .i64 2) := cel_below hb (l7)
  replace l8 : w7.cell? ⟨w1.heap.size, 8, none⟩ = some (.int .i64 3) := cel_below hb (l8)
  replace l9 : w7.cell? ⟨w1.heap.size, 9, none⟩ = some (.int .i64 4) := cel_below hb (l9)
  replace l10 : w7.cell? ⟨w1.heap.size, 10, none⟩ = some (.int .i64 8) := cel_below hb (l10)
  replace l11 : w7.cell? ⟨w1.heap.size, 11, none⟩ = some (.int .i64 8) := cel_below hb (l11)
  replace l12 : w7.cell? ⟨w1.heap.size, 12, none⟩ = some (.int .i64 12) := cel_below hb (l12)
  replace c0 : w7.cell? ⟨w3.heap.size, 0, none⟩ = some (.int .i64 2) := cel_below hb (c0)
  replace c1 : w7.cell? ⟨w3.heap.size, 1, none⟩ = some (.int .i64 1) := cel_below hb (c1)
  replace c2 : w7.cell? ⟨w3.heap.size, 2, none⟩ = some (.int .i64 0) := cel_below hb (c2)
  replace c3 : w7.cell? ⟨w3.heap.size, 3, none⟩ = some (.int .i64 9) := cel_below hb (c3)
  replace c4 : w7.cell? ⟨w3.heap.size, 4, none⟩ = some (.int .i64 2) := cel_below hb (c4)
  replace z0 : w1.heap.size < w7.heap.size := by omega
  replace z1 : w3.heap.size < w7.heap.size := by omega
  clear hb zz
  go_wp2_with fail
  ((with_reducible refine (s_waiters _).mono ?_); rintro e w8 ⟨rfl, hb⟩)
  replace HW := Lib.hid (below_step HW.out ( hb))
  have zz : w7.heap.size + 0 ≤ w8.heap.size := by have := hb.size; (try simp at this); omega
  replace l0 : w8.cell? ⟨w1.heap.size, 0, none⟩ = some (.int .i64 1) := cel_below hb (l0)
  replace l1 : w8.cell? ⟨w1.heap.size, 1, none⟩ = some (.int .i64 1) := cel_below hb (l1)
  replace l2 : w8.cell? ⟨w1.heap.size, 2, none⟩ = some (.int .i64 0) := cel_below hb (l2)
  replace l3 : w8.cell? ⟨w1.heap.size, 3, none⟩ = some (.int .i64 0) := cel_below hb (l3)
  replace l4 : w8.cell? ⟨w1.heap.size, 4, none⟩ = some (.int .i64 0) := cel_below hb (l4)
  replace l5 : w8.cell? ⟨w1.heap.size, 5, none⟩ = some (.int .i64 0) := cel_below hb (l5)
  replace l6 : w8.cell? ⟨w1.heap.size, 6, none⟩ = some (.int .i64 1) := cel_below hb (l6)
  replace l7 : w8.cell? ⟨w1.heap.size, 7, none⟩ = some (.int .i64 2) := cel_below hb (l7)
  replace l8 : w8.cell? ⟨w1.heap.size, 8, none⟩ = some (.int .i64 3) := cel_below hb (l8)
  replace l9 : w8.cell? ⟨w1.heap.size, 9, none⟩ = some (.int .i64 4) := cel_below hb (l9)
  replace l10 : w8.cell? ⟨w1.heap.size, 10, none⟩ = some (.int .i64 8) := cel_below hb (l10)
  replace l11 : w8.cell? ⟨w1.heap.size, 11, none⟩ = some (.int .i64 8) := cel_below hb (l11)
  replace l12 : w8.cell? ⟨w1.heap.size, 12, none⟩ = some (.int .i64 12) := cel_below hb (l12)
  replace c0 : w8.cell? ⟨w3.heap.size, 0, none⟩ = some (.int .i64 2) := cel_below hb (c0)
  replace c1 : w8.cell? ⟨w3.heap.size, 1, none⟩ = some (.int .i64 1) := cel_below hb (c1)
  replace c2 : w8.cell? ⟨w3.heap.size, 2, none⟩ = some (.int .i64 0) := cel_below hb (c2)
  replace c3 : w8.cell? ⟨w3.heap.size, 3, none⟩ = some (.int .i64 9) := cel_below hb (c3)
  replace c4 : w8.cell? ⟨w3.heap.size, 4, none⟩ = some (.int .i64 2) := cel_below hb (c4)
  replace z0 : w1.heap.size < w8.heap.size := by omega
  replace z1 : w3.heap.size < w8.heap.size := by omega
  clear hb zz
  go_wp2_with fail
  ((with_reducible refine (s_word _).mono ?_); rintro e w9 ⟨rfl, hb⟩)
  replace HW := Lib.hid (below_step HW.out ( hb))
  have zz : w8.heap.size + 0 ≤ w9.heap.size := by have := hb.size; (try simp at this); omega
  replace l0 : w9.cell? ⟨w1.heap.size, 0, none⟩ = some (.int .i64 1) := cel_below hb (l0)
  replace l1 : w9.cell? ⟨w1.heap.size, 1, none⟩ = some (.int .i64 1) := cel_below hb (l1)
  replace l2 : w9.cell? ⟨w1.heap.size, 2, none⟩ = some (.int .i64 0) := cel_below hb (l2)
  replace l3 : w9.cell? ⟨w1.heap.size, 3, none⟩ = some (.int .i64 0) := cel_below hb (l3)
  replace l4 : w9.cell? ⟨w1.heap.size, 4, none⟩ = some (.int .i64 0) := cel_below hb (l4)
  replace l5 : w9.cell? ⟨w1.heap.size, 5, none⟩ = some (.int .i64 0) := cel_below hb (l5)
  replace l6 : w9.cell? ⟨w1.heap.size, 6, none⟩ = some (.int .i64 1) := cel_below hb (l6)
  replace l7 : w9.cell? ⟨w1.heap.size, 7, none⟩ = some (.int .i64 2) := cel_below hb (l7)
  replace l8 : w9.cell? ⟨w1.heap.size, 8, none⟩ = some (.int .i64 3) := cel_below hb (l8)
  replace l9 : w9.cell? ⟨w1.heap.size, 9, none⟩ = some (.int .i64 4) := cel_below hb (l9)
  replace l10 : w9.cell? ⟨w1.heap.size, 10, none⟩ = some (.int .i64 8) := cel_below hb (l10)
  replace l11 : w9.cell? ⟨w1.heap.size, 11, none⟩ = some (.int .i64 8) := cel_below hb (l11)
  replace l12 : w9.cell? ⟨w1.heap.size, 12, none⟩ = some (.int .i64 12) := cel_below hb (l12)
  replace c0 : w9.cell? ⟨w3.heap.size, 0, none⟩ = some (.int .i64 2) := cel_below hb (c0)
  replace c1 : w9.cell? ⟨w3.heap.size, 1, none⟩ = some (.int .i64 1) := cel_below hb (c1)
  replace c2 : w9.cell? ⟨w3.heap.size, 2, none⟩ = some (.int .i64 0) := cel_below hb (c2)
  replace c3 : w9.cell? ⟨w3.heap.size, 3, none⟩ = some (.int .i64 9) := cel_below hb (c3)
  replace c4 : w9.cell? ⟨w3.heap.size, 4, none⟩ = some (.int .i64 2) := cel_below hb (c4)
  replace z0 : w1.heap.size < w9.heap.size := by omega
  replace z1 : w3.heap.size < w9.heap.size := by omega
  clear hb zz
  go_wp2
  go_ret
  exact ⟨rfl, HW.out⟩

end Go.Proofs.Ytimjodpndhckdaa
