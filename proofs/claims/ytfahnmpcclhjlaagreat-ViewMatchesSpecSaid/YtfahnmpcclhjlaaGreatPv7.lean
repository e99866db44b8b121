/-
  Merged: CurB, CurC
-/
import Derived.Test.YtfahnmpcclhjlaaGreatRows
import Derived.Test.YtfahnmpcclhjlaaGreatPv3
import Derived.Test.YtfahnmpcclhjlaaGreatPv5
import Derived.Test.YtfahnmpcclhjlaaGreatPv6
import Derived.WalkKit
import Derived.WalkLawsBesides
import Derived.IntWalk
import Derived.Deep.Cut
namespace Go.Proofs.YtfahnmpcclhjlaaGreat
set_option linter.unusedVariables false
set_option linter.unusedSectionVars false
set_option linter.unusedSimpArgs false
set_option maxRecDepth 100000
open Go.ChangeShapes Go.WideShapes Go.ChangeAt Go.RowKit
set_option maxHeartbeats 2000000 in
theorem curdo_stop (w : World) (g : Nat) (l : List (Int × Bool)) (q : Ask) (k p o n : Int) (h : CurAt w g (l, some q)) : Calls Tryz.prog 66 #[.pointer (some ⟨g, 0, none⟩), .agg #[.int .i64 k, .int .i64 p, .int .i64 o, .int .i64 n, .string ⟨#[]⟩]] w fun e w' => e = .returned (.agg #[.int .i64 0, .bool false]) ∧ CurAt w' g (l, some q) ∧ w.grownBy w' (some g) := by
  have HC := Lib.hid h
  obtain ⟨a, c, at_, all, h0, h1, h2, h3, h4, h5, h6, h7, h8, h9, h10, h11, h12⟩ := h
  have y7 : ∀ q1 q2 : Obj, ((w.alloc q1).alloc q2).cell? ⟨g, 7, none⟩ = some (.bool true) := fun _ _ => cell_alloc _ (cell_alloc _ h7)
  clear h0 h1 h2 h3 h4 h5 h6 h7 h8 h9 h10 h11 h12
  go_enter Tryz.func66, Tryz.ntmps66
  go_wp2
  simp [bodyPost, results, Tryz.results66, go_sem]
  exact ⟨curAt_alloc (curAt_alloc HC.out _) _, gb_alloc (gb_alloc (gb_refl _ _) _) _⟩
set_option maxHeartbeats 2000000 in
theorem curdo_none (w : World) (g : Nat) (k p o n : Int) (h : CurAt w g ([], none)) : Calls Tryz.prog 66 #[.pointer (some ⟨g, 0, none⟩), .agg #[.int .i64 k, .int .i64 p, .int .i64 o, .int .i64 n, .string ⟨#[]⟩]] w fun e w' => e = .returned (.agg #[.int .i64 0, .bool false]) ∧ CurAt w' g ([], some ⟨k, p, o, n⟩) ∧ w.grownBy w' (some g) := by
  have hlt := curAt_lt h
  obtain ⟨a, c, at_, all, h0, h1, h2, h3, h4, h5, h6, h7, h8, h9, h10, h11, h12⟩ := h
  have hat : at_ = all.length := by
    have : (all.drop at_).length = 0 := by rw [← h10]; rfl
    rw [List.length_drop] at this; omega
  simp only [Option.getD_none, ask0, Option.isSome_none] at h2 h3 h4 h5 h7
  have H12 := Lib.hid h12
  have H11 := Lib.hid h11
  obtain ⟨L, hL⟩ : ∃ L, L = all.length := ⟨_, rfl⟩
  rw [← hL] at h0 hat
  have HL := Lib.hid hL
  rw [hat] at h1
  clear hat
  have y0 : ∀ q1 q2 : Obj, ((w.alloc q1).alloc q2).cell? ⟨g, 0, none⟩ = some (.slice a L c) := fun _ _ => cell_alloc _ (cell_alloc _ h0)
  have y1 : ∀ q1 q2 : Obj, ((w.alloc q1).alloc q2).cell? ⟨g, 1, none⟩ = some (.int .i64 (L : Nat)) := fun _ _ => cell_alloc _ (cell_alloc _ h1)
  have y2 : ∀ q1 q2 : Obj, ((w.alloc q1).alloc q2).cell? ⟨g, 2, none⟩ = some (.int .i64 0) := fun _ _ => cell_alloc _ (cell_alloc _ h2)
  have y3 : ∀ q1 q2 : Obj, ((w.alloc q1).alloc q2).cell? ⟨g, 3, none⟩ = some (.int .i64 0) := fun _ _ => cell_alloc _ (cell_alloc _ h3)
  have y4 : ∀ q1 q2 : Obj, ((w.alloc q1).alloc q2).cell? ⟨g, 4, none⟩ = some (.int .i64 0) := fun _ _ => cell_alloc _ (cell_alloc _ h4)
  have y5 : ∀ q1 q2 : Obj, ((w.alloc q1).alloc q2).cell? ⟨g, 5, none⟩ = some (.int .i64 0) := fun _ _ => cell_alloc _ (cell_alloc _ h5)
  have y6 : ∀ q1 q2 : Obj, ((w.alloc q1).alloc q2).cell? ⟨g, 6, none⟩ = some (.string ⟨#[]⟩) := fun _ _ => cell_alloc _ (cell_alloc _ h6)
  have y7 : ∀ q1 q2 : Obj, ((w.alloc q1).alloc q2).cell? ⟨g, 7, none⟩ = some (.bool false) := fun _ _ => cell_alloc _ (cell_alloc _ h7)
  have yf : ∀ (q1 q2 : Obj) (i : Nat), ((w.alloc q1).alloc q2).frozen? ⟨g, i, none⟩ = false := fun q1 q2 i => frozen_alloc _ (by simp; omega) (frozen_alloc _ hlt (h8 i))
  have HY : Hid (∀ i, w.frozen? ⟨g, i, none⟩ = false) := Lib.hid h8
  clear h9 h10 h11 h12 hL
  have hd : decide ((L : Int) ≤ (L : Int)) = true := by simp
  go_enter Tryz.func66, Tryz.ntmps66
  go_wp2_with fail
  go_region
  all_goals (
    go_wp2
    obtain ⟨W6, hW6⟩ : ∃ W, W = ((((((w.setCell ⟨g, 2, none⟩ (.int .i64 k)).setCell ⟨g, 3, none⟩ (.int .i64 p)).setCell ⟨g, 4, none⟩ (.int .i64 o)).setCell ⟨g, 5, none⟩ (.int .i64 n)).setCell ⟨g, 6, none⟩ (.string ⟨#[]⟩)).setCell ⟨g, 7, none⟩ (.bool true)) := ⟨_, rfl⟩
    have k0 : W6.cell? ⟨g, 0, none⟩ = some (.slice a L c) := by rw [hW6]; exact (keepA_ (keepA_ (keepA_ (keepA_ (keepA_ (keepA_ h0 (Or.inr (by decide))) (Or.inr (by decide))) (Or.inr (by decide))) (Or.inr (by decide))) (Or.inr (by decide))) (Or.inr (by decide)))
    have k1 : W6.cell? ⟨g, 1, none⟩ = some (.int .i64 ((L : Nat) : Int)) := by rw [hW6]; exact (keepA_ (keepA_ (keepA_ (keepA_ (keepA_ (keepA_ h1 (Or.inr (by decide))) (Or.inr (by decide))) (Or.inr (by decide))) (Or.inr (by decide))) (Or.inr (by decide))) (Or.inr (by decide)))
    have k2 : W6.cell? ⟨g, 2, none⟩ = some (.int .i64 k) := by rw [hW6]; exact (keepA_ (keepA_ (keepA_ (keepA_ (keepA_ (World.cell?_setCell_same _ _ _ h2) (Or.inr (by decide))) (Or.inr (by decide))) (Or.inr (by decide))) (Or.inr (by decide))) (Or.inr (by decide)))
    have k3 : W6.cell? ⟨g, 3, none⟩ = some (.int .i64 p) := by rw [hW6]; exact (keepA_ (keepA_ (keepA_ (keepA_ (World.cell?_setCell_same _ _ _ (keepA_ h3 (Or.inr (by decide)))) (Or.inr (by decide))) (Or.inr (by decide))) (Or.inr (by decide))) (Or.inr (by decide)))
    have k4 : W6.cell? ⟨g, 4, none⟩ = some (.int .i64 o) := by rw [hW6]; exact (keepA_ (keepA_ (keepA_ (World.cell?_setCell_same _ _ _ (keepA_ (keepA_ h4 (Or.inr (by decide))) (Or.inr (by decide)))) (Or.inr (by decide))) (Or.inr (by decide))) (Or.inr (by decide)))
    have k5 : W6.cell? ⟨g, 5, none⟩ = some (.int .i64 n) := by rw [hW6]; exact (keepA_ (keepA_ (World.cell?_setCell_same _ _ _ (keepA_ (keepA_ (keepA_ h5 (Or.inr (by decide))) (Or.inr (by decide))) (Or.inr (by decide)))) (Or.inr (by decide))) (Or.inr (by decide)))
    have k6 : W6.cell? ⟨g, 6, none⟩ = some (.string ⟨#[]⟩) := by rw [hW6]; exact (keepA_ (World.cell?_setCell_same _ _ _ (keepA_ (keepA_ (keepA_ (keepA_ h6 (Or.inr (by decide))) (Or.inr (by decide))) (Or.inr (by decide))) (Or.inr (by decide)))) (Or.inr (by decide)))
    have k7 : W6.cell? ⟨g, 7, none⟩ = some (.bool true) := by rw [hW6]; exact (World.cell?_setCell_same _ _ _ (keepA_ (keepA_ (keepA_ (keepA_ (keepA_ h7 (Or.inr (by decide))) (Or.inr (by decide))) (Or.inr (by decide))) (Or.inr (by decide))) (Or.inr (by decide))))
    have kf : ∀ i, W6.frozen? ⟨g, i, none⟩ = false := fun i => by rw [hW6]; exact ((World.frozen?_setCell _ _ _ _).trans ((World.frozen?_setCell _ _ _ _).trans ((World.frozen?_setCell _ _ _ _).trans ((World.frozen?_setCell _ _ _ _).trans ((World.frozen?_setCell _ _ _ _).trans ((World.frozen?_setCell _ _ _ _).trans (h8 i)))))))
    have kl : ∀ (b' o' : Nat) (u : Value), b' < g → w.cell? ⟨b', o', none⟩ = some u → W6.cell? ⟨b', o', none⟩ = some u := fun b' o' u hb hu => by rw [hW6]; exact (keepA_ (keepA_ (keepA_ (keepA_ (keepA_ (keepA_ hu (Or.inl (by omega))) (Or.inl (by omega))) (Or.inl (by omega))) (Or.inl (by omega))) (Or.inl (by omega))) (Or.inl (by omega)))
    have HG6 : Hid (w.grownBy W6 (some g)) := Lib.hid (by rw [hW6]; exact (gb_own (gb_own (gb_own (gb_own (gb_own (gb_own (gb_refl _ _) _ _) _ _) _ _) _ _) _ _) _ _))
    have HC6 : Hid (CurAt W6 g ([], some ⟨k, p, o, n⟩)) := Lib.hid (by
      have hll := HL.out
      refine ⟨a, c, L, all, by rw [← hll]; exact k0, k1, k2, k3, k4, k5, k6, k7, kf, by omega, by simp only; rw [hll]; simp, H11.out, ?_⟩
      rcases H12.out with h | ⟨b, q, rfl, hb, h⟩
      · exact Or.inl h
      · exact Or.inr ⟨b, q, rfl, hb, fun j hj => ⟨kl _ _ _ hb (h j hj).1, kl _ _ _ hb (h j hj).2⟩⟩)
    have hs6 : W6.heap.size = w.heap.size := by rw [hW6]; simp
    rw [← hW6]
    obtain ⟨X, hX⟩ : ∃ W, W = World.drew ((W6.alloc (.cells #[.int .i64 k, .int .i64 p, .int .i64 o, .int .i64 n, .string ⟨#[]⟩] 39)).alloc (.cells #[.int .i64 0, .bool false] 73)) := ⟨_, rfl⟩
    rw [← hX]
    have q0 : X.cell? ⟨w.heap.size + 1, 0, none⟩ = some (.int .i64 0) := by rw [hX]; show World.cell? (World.alloc _ _) _ = _; rw [World.cell?_alloc_at _ _ _ _ (by simp [hs6])]; rfl
    have q1 : X.cell? ⟨w.heap.size + 1, 1, none⟩ = some (.bool false) := by rw [hX]; show World.cell? (World.alloc _ _) _ = _; rw [World.cell?_alloc_at _ _ _ _ (by simp [hs6])]; rfl
    have HGX : Hid (w.grownBy X (some g)) := Lib.hid (by rw [hX]; exact gb_drew (gb_alloc (gb_alloc HG6.out _) _))
    have HCX : Hid (CurAt X g ([], some ⟨k, p, o, n⟩)) := Lib.hid (by rw [hX]; exact curAt_drew (curAt_alloc (curAt_alloc HC6.out _) _))
    clear hX hs6
    clear hW6 k0 k1 k2 k3 k4 k5 k6 k7 kf kl
    simp [bodyPost, results, Tryz.results66, go_sem, q0, q1]
    exact ⟨HCX.out, HGX.out⟩)
set_option maxHeartbeats 2000000 in
theorem curdo_some (w : World) (g : Nat) (r : Int × Bool) (l : List (Int × Bool)) (k p o n : Int) (h : CurAt w g (r :: l, none)) : Calls Tryz.prog 66 #[.pointer (some ⟨g, 0, none⟩), .agg #[.int .i64 k, .int .i64 p, .int .i64 o, .int .i64 n, .string ⟨#[]⟩]] w fun e w' => e = .returned (.agg #[.int .i64 r.1, .bool r.2]) ∧ CurAt w' g (l, none) ∧ w.grownBy w' (some g) := by
  have hlt := curAt_lt h
  obtain ⟨a, c, at_, all, h0, h1, h2, h3, h4, h5, h6, h7, h8, h9, h10, h11, h12⟩ := h
  simp only [Option.getD_none, ask0, Option.isSome_none] at h2 h3 h4 h5 h7
  simp only at h10
  have hat : at_ < all.length := by
    rcases Nat.lt_or_ge at_ all.length with h | h
    · exact h
    · rw [List.drop_eq_nil_of_le h] at h10; cases h10
  have hr : all.getD at_ (0, false) = r := by
    have := List.drop_eq_getElem_cons hat
    rw [← h10] at this
    simp only [List.cons.injEq] at this
    rw [List.getD, List.getElem?_eq_getElem hat]; exact this.1.symm
  have hl : l = all.drop (at_ + 1) := by
    have := List.drop_eq_getElem_cons hat
    rw [← h10] at this
    simp only [List.cons.injEq] at this
    exact this.2
  rcases h12 with h12 | ⟨b, q, rfl, hb, h12⟩
  · omega
  obtain ⟨x0, x1⟩ := h12 at_ hat
  rw [hr] at x0 x1
  obtain ⟨r1, r2⟩ := r
  simp only at x0 x1
  have hbl : b < w.heap.size := World.block_lt_of_cell? w _ x0
  have hne : b ≠ g := by omega
  have H12 := Lib.hid h12
  have H11 := Lib.hid h11
  have HLD := Lib.hid hl
  obtain ⟨L, hL⟩ : ∃ L, L = all.length := ⟨_, rfl⟩
  rw [← hL] at h0 hat
  have HL := Lib.hid hL
  have hL6 : L ≤ 1000000 := by omega
  clear h9 h10 h11 h12 hL hr hl
  have y0 : ∀ q1 q2 : Obj, ((w.alloc q1).alloc q2).cell? ⟨g, 0, none⟩ = some (.slice (some ⟨b, q, none⟩) L c) := fun _ _ => cell_alloc _ (cell_alloc _ h0)
  have y1 : ∀ q1 q2 : Obj, ((w.alloc q1).alloc q2).cell? ⟨g, 1, none⟩ = some (.int .i64 (at_ : Nat)) := fun _ _ => cell_alloc _ (cell_alloc _ h1)
  have y7 : ∀ q1 q2 : Obj, ((w.alloc q1).alloc q2).cell? ⟨g, 7, none⟩ = some (.bool false) := fun _ _ => cell_alloc _ (cell_alloc _ h7)
  have yf : ∀ (q1 q2 : Obj) (i : Nat), ((w.alloc q1).alloc q2).frozen? ⟨g, i, none⟩ = false := fun q1 q2 i => frozen_alloc _ (by simp; omega) (frozen_alloc _ hlt (h8 i))
  have hd : decide ((L : Int) ≤ (at_ : Int)) = false := by simp; omega
  have hai : IntKind.i64.wrap ((at_ : Int) + 1) = ((at_ + 1 : Nat) : Int) := by rw [IntWalk.i64_in _ (by omega)]; omega
  go_enter Tryz.func66, Tryz.ntmps66
  go_wp2_with fail
  go_region
  all_goals (
    go_upto_region 8 with fail
    obtain ⟨W2, hW2⟩ : ∃ W, W = World.drew (((w.setCell ⟨g, 1, none⟩ (.int .i64 ((at_ : Int) + 1))).alloc (.cells #[.int .i64 k, .int .i64 p, .int .i64 o, .int .i64 n, .string ⟨#[]⟩] 39)).alloc (.cells #[.int .i64 0, .bool false] 73)) := ⟨_, rfl⟩
    rw [← hW2]
    have kk : ∀ (b' o' : Nat) (u : Value), (g ≠ b' ∨ 1 ≠ o') → w.cell? ⟨b', o', none⟩ = some u → W2.cell? ⟨b', o', none⟩ = some u := fun b' o' u hb hu => by rw [hW2]; exact cell_alloc _ (cell_alloc _ (keepA_ hu hb))
    have z0 := kk _ _ _ (Or.inr (by decide)) h0
    have z1 : W2.cell? ⟨g, 1, none⟩ = some (.int .i64 ((at_ : Int) + 1)) := by rw [hW2]; exact cell_alloc _ (cell_alloc _ (World.cell?_setCell_same _ _ _ h1))
    have z2 := kk _ _ _ (Or.inr (by decide)) h2
    have z3 := kk _ _ _ (Or.inr (by decide)) h3
    have z4 := kk _ _ _ (Or.inr (by decide)) h4
    have z5 := kk _ _ _ (Or.inr (by decide)) h5
    have z6 := kk _ _ _ (Or.inr (by decide)) h6
    have z7 := kk _ _ _ (Or.inr (by decide)) h7
    have zx0 := kk _ _ _ (Or.inl (Ne.symm hne)) x0
    have zx1 := kk _ _ _ (Or.inl (Ne.symm hne)) x1
    have zr0 : W2.cell? ⟨w.heap.size + 1, 0, none⟩ = some (.int .i64 0) := by rw [hW2]; show World.cell? (World.alloc _ _) _ = _; rw [World.cell?_alloc_at _ _ _ _ (by simp)]; rfl
    have zr1 : W2.cell? ⟨w.heap.size + 1, 1, none⟩ = some (.bool false) := by rw [hW2]; show World.cell? (World.alloc _ _) _ = _; rw [World.cell?_alloc_at _ _ _ _ (by simp)]; rfl
    have zrf : ∀ i, W2.frozen? ⟨w.heap.size + 1, i, none⟩ = false := fun i => by rw [hW2]; show World.frozen? (World.alloc _ _) _ = _; exact World.frozen?_alloc_at _ _ _ _ (by simp)
    have zf : ∀ i, W2.frozen? ⟨g, i, none⟩ = false := fun i => by rw [hW2]; exact frozen_alloc _ (by simp; omega) (frozen_alloc _ (by simpa using hlt) ((World.frozen?_setCell _ _ _ _).trans (h8 i)))
    have HG2 : Hid (w.grownBy W2 (some g)) := Lib.hid (by rw [hW2]; exact gb_drew (gb_alloc (gb_alloc (gb_set (gb_refl _ _) (Or.inl rfl) _) _) _))
    have HC2 : Hid (CurAt W2 g (l, none)) := Lib.hid (by
      have hll := HL.out
      refine ⟨_, c, at_ + 1, all, by rw [← hll]; exact z0, by rw [z1]; simp, z2, z3, z4, z5, z6, z7, zf, by omega, HLD.out, H11.out, Or.inr ⟨b, q, rfl, hb, fun j hj => ⟨kk _ _ _ (Or.inl (Ne.symm hne)) (H12.out j hj).1, kk _ _ _ (Or.inl (Ne.symm hne)) (H12.out j hj).2⟩⟩⟩)
    have hwz : IntKind.i64.wrap ((at_ : Int) + 1 - 1) = (at_ : Int) := by rw [IntWalk.i64_in _ (by omega)]; omega
    have hg1 : g < w.heap.size + 1 := by omega
    have hi1 : (at_ : Int) < L := by omega
    clear hW2 kk h0 h1 h2 h3 h4 h5 h6 h7 h8 x0 x1 y0 y1 y7 yf hai hd
    go_region
    all_goals (
      go_wp2
      obtain ⟨W3, hW3⟩ : ∃ W, W = World.drew ((W2.setCell ⟨w.heap.size + 1, 0, none⟩ (.int .i64 r1)).setCell ⟨w.heap.size + 1, 1, none⟩ (.bool r2)) := ⟨_, rfl⟩
      rw [← hW3]
      have q0 : W3.cell? ⟨w.heap.size + 1, 0, none⟩ = some (.int .i64 r1) := by rw [hW3]; exact keepA_ (World.cell?_setCell_same _ _ _ zr0) (Or.inr (by decide))
      have q1 : W3.cell? ⟨w.heap.size + 1, 1, none⟩ = some (.bool r2) := by rw [hW3]; exact World.cell?_setCell_same _ _ _ (keepA_ zr1 (Or.inr (by decide)))
      have HG3 : Hid (w.grownBy W3 (some g)) := Lib.hid (by rw [hW3]; exact gb_drew (gb_set (gb_set HG2.out (Or.inr (Nat.le_succ _)) _) (Or.inr (Nat.le_succ _)) _))
      have HC3 : Hid (CurAt W3 g (l, none)) := Lib.hid (by rw [hW3]; exact curAt_drew (curAt_set (curAt_set HC2.out hg1 _) hg1 _))
      simp [bodyPost, results, Tryz.results66, go_sem, q0, q1]
      exact ⟨HC3.out, HG3.out⟩))
end Go.Proofs.YtfahnmpcclhjlaaGreat

namespace Go.Proofs.YtfahnmpcclhjlaaGreat
set_option linter.unusedVariables false
set_option linter.unusedSectionVars false
set_option linter.unusedSimpArgs false
set_option maxRecDepth 100000
set_option maxHeartbeats 2000000
open Go.ChangeShapes Go.WideShapes Go.ChangeAt Go.RowKit
theorem curdo_any (w : World) (g : Nat) (s : CSt) (k p o n : Int) (h : CurAt w g s) : Calls Tryz.prog 66 #[.pointer (some ⟨g, 0, none⟩), .agg #[.int .i64 k, .int .i64 p, .int .i64 o, .int .i64 n, .string ⟨#[]⟩]] w fun e w' =>
    e = .returned (.agg #[.int .i64 (cdo s ⟨k, p, o, n⟩).1.1, .bool (cdo s ⟨k, p, o, n⟩).1.2]) ∧ CurAt w' g (cdo s ⟨k, p, o, n⟩).2 ∧ w.grownBy w' (some g) := by
  match s, h with
  | (l, some q), h => exact curdo_stop w g l q k p o n h
  | ([], none), h => exact curdo_none w g k p o n h
  | (r :: l, none), h => exact curdo_some w g r l k p o n h
theorem rload_any02 (w : World) (g : Nat) (s : CSt) (p : Int) (h : CurAt w g s) : Calls Tryz.prog 48 #[.pointer (some ⟨g, 0, none⟩), .int .i64 p] w fun e w' =>
    e = .returned (.int .i64 (cdo s ⟨1, p, 0, 0⟩).1.1) ∧ CurAt w' g (cdo s ⟨1, p, 0, 0⟩).2 ∧ w.grownBy w' (some g) := by
  have HD := Lib.hid (fun w => curdo_any w g s 1 p 0 0 )
  obtain ⟨⟨⟨r1, r2⟩, s'⟩, hX⟩ : ∃ X, X = cdo s ⟨1, p, 0, 0⟩ := ⟨_, rfl⟩
  rw [← hX] at HD ⊢
  clear hX
  simp only at HD ⊢
  go_enter Tryz.func48, Tryz.ntmps48
  go_wp2_with (first | (with_reducible refine (HD.out _ h).mono ?_; rintro e w1 ⟨rfl, h1, h2⟩))
  go_ret
  exact ⟨rfl, curAt_alloc h1 _, gb_alloc h2 _⟩
theorem rcas_any02 (w : World) (g : Nat) (s : CSt) (p o n : Int) (h : CurAt w g s) : Calls Tryz.prog 50 #[.pointer (some ⟨g, 0, none⟩), .int .i64 p, .int .i64 o, .int .i64 n] w fun e w' =>
    e = .returned (.bool (cdo s ⟨3, p, o, n⟩).1.2) ∧ CurAt w' g (cdo s ⟨3, p, o, n⟩).2 ∧ w.grownBy w' (some g) := by
  have HD := Lib.hid (fun w => curdo_any w g s 3 p o n )
  obtain ⟨⟨⟨r1, r2⟩, s'⟩, hX⟩ : ∃ X, X = cdo s ⟨3, p, o, n⟩ := ⟨_, rfl⟩
  rw [← hX] at HD ⊢
  clear hX
  simp only at HD ⊢
  go_enter Tryz.func50, Tryz.ntmps50
  go_wp2_with (first | (with_reducible refine (HD.out _ h).mono ?_; rintro e w1 ⟨rfl, h1, h2⟩))
  go_ret
  exact ⟨rfl, curAt_alloc h1 _, gb_alloc h2 _⟩
end Go.Proofs.YtfahnmpcclhjlaaGreat
