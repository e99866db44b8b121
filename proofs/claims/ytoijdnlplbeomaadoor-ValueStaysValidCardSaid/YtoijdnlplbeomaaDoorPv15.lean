/-
  Merged: Ts7, TsX
-/
import Derived.Test.YtoijdnlplbeomaaDoorPv14

/-
  Layer 8: runs of ValueStaysValid, part 7.
-/
namespace Go.Proofs.YtoijdnlplbeomaaDoor
open Go Go.RowKit EX
set_option maxRecDepth 100000
set_option linter.unusedVariables false
set_option linter.unusedSimpArgs false
set_option linter.unusedSectionVars false
set_option maxHeartbeats 8000000 in
theorem st_00_tt_ft_n (W : World) (op m : Int) (h g : VH) (kv : VT 40 W h) (kw : VT 40 W g) (hs1 : decide (countW 39 W h 60 ≤ 60) = true) (hs2 : decide (countW 39 W g 60 ≤ 60) = true) (k n e : Int) (hbin : ∀ w, Calls Tryd.prog 21 #[.int .i64 op, h.v, g.v] w fun e' w' => e' = .returned (bRes k n e) ∧ Below w.heap.size w w') (heb : decide (e = 0) = false) (K N : Int) (hix : ∀ w, @FcAt (fcV W h g) w → Calls Tryd.prog 9 #[h.v, .int .i64 m] w fun e w' => e = .returned (ixRes K N false) ∧ Below w.heap.size w w') (hl3 : LeafOk 1 (rnd m)) (hA : rightW 40 W h = true) (hA9 : rightW 39 W h = true) (hB : rightW 40 W g = true) (hB9 : rightW 39 W g = false) (hf1 : ((h.len : Int) == 0) = false) : Calls Tryd.prog 6 #[stayV op h g m] W fun e w' => e = .returned (.bool true) ∧ Below W.heap.size W w' := by
  letI fc : FC := fcV W h g
  exact @ex_valG (fcV W h g) _ ((kgOr (gk kn8) ((kgOr (kgSel (kgAt 24 [h.v] (.v (.bool true))) (kgAt 24 [g.v] (.v (.bool true)))) ((kgOr (kgAt 21 [.int .i64 op, h.v, g.v] (.t [.g [.y (.int .i64 k), .y (.int .i64 n), .v (.int .i64 0), .v (.slice none 0 0)], .y (.int .i64 e)])) ((kgOr (kgLeaf) ((kgOr (kgAt 9 [h.v, .int .i64 m] (.t [.g [.y (.int .i64 K), .y (.int .i64 N), .v (.int .i64 0), .v (.slice none 0 0)], .v (.bool false)])) ((kgOr (kgSel (kgAt 12 [h.v] (.v (.bool true))) (kgAt 12 [g.v] (.v (.bool true)))) (kgSel (kgAt 28 [h.v, .int .i64 2] (.v (.tuple #[]))) (kgPan 28 [g.v, .int .i64 2] (.iface 34 (.int .i64 1)))))))))))))))) ((kgOr_ok (gk_ok kn8F_ok) ((kgOr_ok (kgSel_ok (kgAt_ok (by simp [bd]) fun w1 hf => by
      have := shallow_is h w1 (vt_less hf.1.2.1.1)
      rw [hf.1.2.2.2.1, hs1] at this
      simpa [den] using this) (kgAt_ok (by simp [bd]) fun w1 hf => by
      have := shallow_is g w1 (vt_less hf.1.2.1.2)
      rw [hf.1.2.2.2.2, hs2] at this
      simpa [den] using this)) ((kgOr_ok (kgAt_ok (by simp [bd, bdL]) fun w1 hf => (hbin w1).mono fun e' w' ⟨he, hb⟩ => ⟨by rw [he]; simp [den, denL, bRes], hb⟩) ((kgOr_ok (kgLeaf_ok) ((kgOr_ok (kgAt_ok (by simp [bd, bdL]) fun w1 hf => (hix w1 hf).mono fun e' w' ⟨he, hb⟩ => ⟨by rw [he]; simp [den, denL, ixRes], hb⟩) ((kgOr_ok (kgSel_ok (kgAt_ok (by simp [bd]) fun w1 hf => by
      have := rr_is h w1 hf.1.2.1.1
      rw [hf.1.2.2.1.1, hA] at this
      simpa [den] using this) (kgAt_ok (by simp [bd]) fun w1 hf => by
      have := rr_is g w1 hf.1.2.1.2
      rw [hf.1.2.2.1.2.2.1, hB] at this
      simpa [den] using this)) (kgSel_ok (kgAt_ok (by simp [bd]) fun w1 hf => by
      have := check_is 39 (by omega) h w1 (vt_less hf.1.2.1.1) 2 (by omega)
      rw [hf.1.2.2.1.2.1, hA9] at this
      simpa [den, ckPost] using this) (kgPan_ok fun w1 hf => by
      have := check_is 39 (by omega) g w1 (vt_less hf.1.2.1.2) 2 (by omega)
      rw [hf.1.2.2.1.2.2.2, hB9] at this
      exact this)))))))))))))) 100000 _ _ [staySV op h g m] [.bool true, .bool false, tw 6 42 (.bool false), .bool true, .bool false, .bool true, .bool false, .bool true, .bool true, tw 6 97 (.bool false)] _ [(.bool ((h.len : Int) == 0), .bool false), (h.v, h.v), (h.v, h.v), (.int .i64 2, .int .i64 2), (g.v, g.v), (.int .i64 2, .int .i64 2), (h.v, h.v), (.int .i64 2, .int .i64 2), (g.v, g.v), (h.v, h.v), (.bool (ownB ⟨1, (rnd m), 0, none, 0, 0⟩), .bool true), (.bool (decide (I64 1)), .bool true), (.bool (decide (I64 ((rnd m)))), .bool true), (.bool (decide (I64 0)), .bool true), (h.v, h.v), (.int .i64 m, .int .i64 m), (.bool (decide (e = 0)), .bool false), (.int .i64 op, .int .i64 op), (h.v, h.v), (g.v, g.v), (g.v, g.v), (h.v, h.v)] W (by kernel_rfl) (by simp [denL, den, staySV, stayV]) (by simp [bdL, bd, staySV]) (AllT.cons (by rw [hf1]) (AllT.cons (rfl) (AllT.cons (rfl) (AllT.cons (rfl) (AllT.cons (rfl) (AllT.cons (rfl) (AllT.cons (rfl) (AllT.cons (rfl) (AllT.cons (rfl) (AllT.cons (rfl) (AllT.cons (hl3.1) (AllT.cons (hl3.2.1) (AllT.cons (hl3.2.2) (AllT.cons (rfl) (AllT.cons (rfl) (AllT.cons (rfl) (AllT.cons (by rw [heb]) (AllT.cons (rfl) (AllT.cons (rfl) (AllT.cons (rfl) (AllT.cons (rfl) (AllT.cons (rfl) (AllT.nil))))))))))))))))))))))) (fcV_at kv kw)
set_option maxHeartbeats 8000000 in
theorem st_00_ft_t_p (W : World) (op m : Int) (h g : VH) (kv : VT 40 W h) (kw : VT 40 W g) (hs1 : decide (countW 39 W h 60 ≤ 60) = true) (hs2 : decide (countW 39 W g 60 ≤ 60) = true) (k n e : Int) (hbin : ∀ w, Calls Tryd.prog 21 #[.int .i64 op, h.v, g.v] w fun e' w' => e' = .returned (bRes k n e) ∧ Below w.heap.size w w') (heb : decide (e = 0) = false) (K N : Int) (hix : ∀ w, @FcAt (fcV W h g) w → Calls Tryd.prog 9 #[h.v, .int .i64 m] w fun e w' => e = .returned (ixRes K N false) ∧ Below w.heap.size w w') (hl3 : LeafOk 1 (rnd m)) (hA : rightW 40 W h = true) (hA9 : rightW 39 W h = false) (hB : rightW 40 W g = true) (hf1 : ((h.len : Int) == 0) = true) (hf2 : ((g.len : Int) == 0) = false) : Calls Tryd.prog 6 #[stayV op h g m] W fun e w' => e = .returned (.bool true) ∧ Below W.heap.size W w' := by
  letI fc : FC := fcV W h g
  exact @ex_valG (fcV W h g) _ ((kgOr (gk kn8) ((kgOr (kgSel (kgAt 24 [h.v] (.v (.bool true))) (kgAt 24 [g.v] (.v (.bool true)))) ((kgOr (kgAt 21 [.int .i64 op, h.v, g.v] (.t [.g [.y (.int .i64 k), .y (.int .i64 n), .v (.int .i64 0), .v (.slice none 0 0)], .y (.int .i64 e)])) ((kgOr (kgLeaf) ((kgOr (kgAt 9 [h.v, .int .i64 m] (.t [.g [.y (.int .i64 K), .y (.int .i64 N), .v (.int .i64 0), .v (.slice none 0 0)], .v (.bool false)])) ((kgOr (kgSel (kgAt 12 [h.v] (.v (.bool true))) (kgAt 12 [g.v] (.v (.bool true)))) (kgSel (kgPan 28 [h.v, .int .i64 2] (.iface 34 (.int .i64 1))) (kgPan 28 [h.v, .int .i64 2] (.iface 34 (.int .i64 1)))))))))))))))) ((kgOr_ok (gk_ok kn8F_ok) ((kgOr_ok (kgSel_ok (kgAt_ok (by simp [bd]) fun w1 hf => by
      have := shallow_is h w1 (vt_less hf.1.2.1.1)
      rw [hf.1.2.2.2.1, hs1] at this
      simpa [den] using this) (kgAt_ok (by simp [bd]) fun w1 hf => by
      have := shallow_is g w1 (vt_less hf.1.2.1.2)
      rw [hf.1.2.2.2.2, hs2] at this
      simpa [den] using this)) ((kgOr_ok (kgAt_ok (by simp [bd, bdL]) fun w1 hf => (hbin w1).mono fun e' w' ⟨he, hb⟩ => ⟨by rw [he]; simp [den, denL, bRes], hb⟩) ((kgOr_ok (kgLeaf_ok) ((kgOr_ok (kgAt_ok (by simp [bd, bdL]) fun w1 hf => (hix w1 hf).mono fun e' w' ⟨he, hb⟩ => ⟨by rw [he]; simp [den, denL, ixRes], hb⟩) ((kgOr_ok (kgSel_ok (kgAt_ok (by simp [bd]) fun w1 hf => by
      have := rr_is h w1 hf.1.2.1.1
      rw [hf.1.2.2.1.1, hA] at this
      simpa [den] using this) (kgAt_ok (by simp [bd]) fun w1 hf => by
      have := rr_is g w1 hf.1.2.1.2
      rw [hf.1.2.2.1.2.2.1, hB] at this
      simpa [den] using this)) (kgSel_ok (kgPan_ok fun w1 hf => by
      have := check_is 39 (by omega) h w1 (vt_less hf.1.2.1.1) 2 (by omega)
      rw [hf.1.2.2.1.2.1, hA9] at this
      exact this) (kgPan_ok fun w1 hf => by
      have := check_is 39 (by omega) h w1 (vt_less hf.1.2.1.1) 2 (by omega)
      rw [hf.1.2.2.1.2.1, hA9] at this
      exact this)))))))))))))) 100000 _ _ [staySV op h g m] [.bool true, .bool false, tw 6 42 (.bool false), .bool true, .bool false, .bool true, .bool true, tw 6 97 (.bool true), tw 6 102 (.bool false)] _ [(.bool ((g.len : Int) == 0), .bool false), (.bool ((h.len : Int) == 0), .bool true), (h.v, h.v), (.int .i64 2, .int .i64 2), (h.v, h.v), (.int .i64 2, .int .i64 2), (g.v, g.v), (h.v, h.v), (.bool (ownB ⟨1, (rnd m), 0, none, 0, 0⟩), .bool true), (.bool (decide (I64 1)), .bool true), (.bool (decide (I64 ((rnd m)))), .bool true), (.bool (decide (I64 0)), .bool true), (h.v, h.v), (.int .i64 m, .int .i64 m), (.bool (decide (e = 0)), .bool false), (.int .i64 op, .int .i64 op), (h.v, h.v), (g.v, g.v), (g.v, g.v), (h.v, h.v)] W (by kernel_rfl) (by simp [denL, den, staySV, stayV]) (by simp [bdL, bd, staySV]) (AllT.cons (by rw [hf2]) (AllT.cons (by rw [hf1]) (AllT.cons (rfl) (AllT.cons (rfl) (AllT.cons (rfl) (AllT.cons (rfl) (AllT.cons (rfl) (AllT.cons (rfl) (AllT.cons (hl3.1) (AllT.cons (hl3.2.1) (AllT.cons (hl3.2.2) (AllT.cons (rfl) (AllT.cons (rfl) (AllT.cons (rfl) (AllT.cons (by rw [heb]) (AllT.cons (rfl) (AllT.cons (rfl) (AllT.cons (rfl) (AllT.cons (rfl) (AllT.cons (rfl) (AllT.nil))))))))))))))))))))) (fcV_at kv kw)
set_option maxHeartbeats 8000000 in
theorem st_01_tt_tt_n (W : World) (op m : Int) (h g : VH) (kv : VT 40 W h) (kw : VT 40 W g) (hs1 : decide (countW 39 W h 60 ≤ 60) = true) (hs2 : decide (countW 39 W g 60 ≤ 60) = true) (k n e : Int) (hbin : ∀ w, Calls Tryd.prog 21 #[.int .i64 op, h.v, g.v] w fun e' w' => e' = .returned (bRes k n e) ∧ Below w.heap.size w w') (heb : decide (e = 0) = false) (K N : Int) (hix : ∀ w, @FcAt (fcV W h g) w → Calls Tryd.prog 9 #[h.v, .int .i64 m] w fun e w' => e = .returned (ixRes K N true) ∧ Below w.heap.size w w') (hl2 : LeafOk K N) (hl3 : LeafOk 1 (rnd m)) (hA : rightW 40 W h = true) (hA9 : rightW 39 W h = true) (hB : rightW 40 W g = true) (hB9 : rightW 39 W g = true) (hf1 : ((h.len : Int) == 0) = false) : Calls Tryd.prog 6 #[stayV op h g m] W fun e w' => e = .returned (.bool true) ∧ Below W.heap.size W w' := by
  letI fc : FC := fcV W h g
  exact @ex_valG (fcV W h g) _ ((kgOr (gk kn8) ((kgOr (kgSel (kgAt 24 [h.v] (.v (.bool true))) (kgAt 24 [g.v] (.v (.bool true)))) ((kgOr (kgAt 21 [.int .i64 op, h.v, g.v] (.t [.g [.y (.int .i64 k), .y (.int .i64 n), .v (.int .i64 0), .v (.slice none 0 0)], .y (.int .i64 e)])) ((kgOr (kgLeaf) ((kgOr (kgAt 9 [h.v, .int .i64 m] (.t [.g [.y (.int .i64 K), .y (.int .i64 N), .v (.int .i64 0), .v (.slice none 0 0)], .v (.bool true)])) ((kgOr (kgSel (kgAt 12 [h.v] (.v (.bool true))) (kgAt 12 [g.v] (.v (.bool true)))) (kgSel (kgAt 28 [h.v, .int .i64 2] (.v (.tuple #[]))) (kgAt 28 [g.v, .int .i64 2] (.v (.tuple #[])))))))))))))))) ((kgOr_ok (gk_ok kn8F_ok) ((kgOr_ok (kgSel_ok (kgAt_ok (by simp [bd]) fun w1 hf => by
      have := shallow_is h w1 (vt_less hf.1.2.1.1)
      rw [hf.1.2.2.2.1, hs1] at this
      simpa [den] using this) (kgAt_ok (by simp [bd]) fun w1 hf => by
      have := shallow_is g w1 (vt_less hf.1.2.1.2)
      rw [hf.1.2.2.2.2, hs2] at this
      simpa [den] using this)) ((kgOr_ok (kgAt_ok (by simp [bd, bdL]) fun w1 hf => (hbin w1).mono fun e' w' ⟨he, hb⟩ => ⟨by rw [he]; simp [den, denL, bRes], hb⟩) ((kgOr_ok (kgLeaf_ok) ((kgOr_ok (kgAt_ok (by simp [bd, bdL]) fun w1 hf => (hix w1 hf).mono fun e' w' ⟨he, hb⟩ => ⟨by rw [he]; simp [den, denL, ixRes], hb⟩) ((kgOr_ok (kgSel_ok (kgAt_ok (by simp [bd]) fun w1 hf => by
      have := rr_is h w1 hf.1.2.1.1
      rw [hf.1.2.2.1.1, hA] at this
      simpa [den] using this) (kgAt_ok (by simp [bd]) fun w1 hf => by
      have := rr_is g w1 hf.1.2.1.2
      rw [hf.1.2.2.1.2.2.1, hB] at this
      simpa [den] using this)) (kgSel_ok (kgAt_ok (by simp [bd]) fun w1 hf => by
      have := check_is 39 (by omega) h w1 (vt_less hf.1.2.1.1) 2 (by omega)
      rw [hf.1.2.2.1.2.1, hA9] at this
      simpa [den, ckPost] using this) (kgAt_ok (by simp [bd]) fun w1 hf => by
      have := check_is 39 (by omega) g w1 (vt_less hf.1.2.1.2) 2 (by omega)
      rw [hf.1.2.2.1.2.2.2, hB9] at this
      simpa [den, ckPost] using this)))))))))))))) 100000 _ _ [staySV op h g m] [.bool true, .bool false, tw 6 42 (.bool false), .bool true, .bool false, .bool true, .bool false, .bool true, .bool true, tw 6 97 (.bool false)] _ [(.bool ((h.len : Int) == 0), .bool false), (h.v, h.v), (h.v, h.v), (.int .i64 2, .int .i64 2), (g.v, g.v), (.int .i64 2, .int .i64 2), (h.v, h.v), (.int .i64 2, .int .i64 2), (g.v, g.v), (h.v, h.v), (.bool (ownB ⟨1, (rnd m), 0, none, 0, 0⟩), .bool true), (.bool (decide (I64 1)), .bool true), (.bool (decide (I64 ((rnd m)))), .bool true), (.bool (decide (I64 0)), .bool true), (.bool (ownB ⟨K, N, 0, none, 0, 0⟩), .bool true), (.bool (decide (I64 K)), .bool true), (.bool (decide (I64 (N))), .bool true), (.bool (decide (I64 0)), .bool true), (h.v, h.v), (.int .i64 m, .int .i64 m), (.bool (decide (e = 0)), .bool false), (.int .i64 op, .int .i64 op), (h.v, h.v), (g.v, g.v), (g.v, g.v), (h.v, h.v)] W (by kernel_rfl) (by simp [denL, den, staySV, stayV]) (by simp [bdL, bd, staySV]) (AllT.cons (by rw [hf1]) (AllT.cons (rfl) (AllT.cons (rfl) (AllT.cons (rfl) (AllT.cons (rfl) (AllT.cons (rfl) (AllT.cons (rfl) (AllT.cons (rfl) (AllT.cons (rfl) (AllT.cons (rfl) (AllT.cons (hl3.1) (AllT.cons (hl3.2.1) (AllT.cons (hl3.2.2) (AllT.cons (rfl) (AllT.cons (hl2.1) (AllT.cons (hl2.2.1) (AllT.cons (hl2.2.2) (AllT.cons (rfl) (AllT.cons (rfl) (AllT.cons (rfl) (AllT.cons (by rw [heb]) (AllT.cons (rfl) (AllT.cons (rfl) (AllT.cons (rfl) (AllT.cons (rfl) (AllT.cons (rfl) (AllT.nil))))))))))))))))))))))))))) (fcV_at kv kw)
set_option maxHeartbeats 8000000 in
theorem st_01_tt_ff_p (W : World) (op m : Int) (h g : VH) (kv : VT 40 W h) (kw : VT 40 W g) (hs1 : decide (countW 39 W h 60 ≤ 60) = true) (hs2 : decide (countW 39 W g 60 ≤ 60) = true) (k n e : Int) (hbin : ∀ w, Calls Tryd.prog 21 #[.int .i64 op, h.v, g.v] w fun e' w' => e' = .returned (bRes k n e) ∧ Below w.heap.size w w') (heb : decide (e = 0) = false) (K N : Int) (hix : ∀ w, @FcAt (fcV W h g) w → Calls Tryd.prog 9 #[h.v, .int .i64 m] w fun e w' => e = .returned (ixRes K N true) ∧ Below w.heap.size w w') (hl2 : LeafOk K N) (hl3 : LeafOk 1 (rnd m)) (hA : rightW 40 W h = true) (hA9 : rightW 39 W h = true) (hB : rightW 40 W g = false) (hB9 : rightW 39 W g = false) (hf1 : ((h.len : Int) == 0) = true) (hf2 : ((g.len : Int) == 0) = false) : Calls Tryd.prog 6 #[stayV op h g m] W fun e w' => e = .returned (.bool true) ∧ Below W.heap.size W w' := by
  letI fc : FC := fcV W h g
  exact @ex_valG (fcV W h g) _ ((kgOr (gk kn8) ((kgOr (kgSel (kgAt 24 [h.v] (.v (.bool true))) (kgAt 24 [g.v] (.v (.bool true)))) ((kgOr (kgAt 21 [.int .i64 op, h.v, g.v] (.t [.g [.y (.int .i64 k), .y (.int .i64 n), .v (.int .i64 0), .v (.slice none 0 0)], .y (.int .i64 e)])) ((kgOr (kgLeaf) ((kgOr (kgAt 9 [h.v, .int .i64 m] (.t [.g [.y (.int .i64 K), .y (.int .i64 N), .v (.int .i64 0), .v (.slice none 0 0)], .v (.bool true)])) ((kgOr (kgSel (kgAt 12 [h.v] (.v (.bool true))) (kgAt 12 [g.v] (.v (.bool false)))) (kgSel (kgAt 28 [h.v, .int .i64 2] (.v (.tuple #[]))) (kgPan 28 [g.v, .int .i64 2] (.iface 34 (.int .i64 1)))))))))))))))) ((kgOr_ok (gk_ok kn8F_ok) ((kgOr_ok (kgSel_ok (kgAt_ok (by simp [bd]) fun w1 hf => by
      have := shallow_is h w1 (vt_less hf.1.2.1.1)
      rw [hf.1.2.2.2.1, hs1] at this
      simpa [den] using this) (kgAt_ok (by simp [bd]) fun w1 hf => by
      have := shallow_is g w1 (vt_less hf.1.2.1.2)
      rw [hf.1.2.2.2.2, hs2] at this
      simpa [den] using this)) ((kgOr_ok (kgAt_ok (by simp [bd, bdL]) fun w1 hf => (hbin w1).mono fun e' w' ⟨he, hb⟩ => ⟨by rw [he]; simp [den, denL, bRes], hb⟩) ((kgOr_ok (kgLeaf_ok) ((kgOr_ok (kgAt_ok (by simp [bd, bdL]) fun w1 hf => (hix w1 hf).mono fun e' w' ⟨he, hb⟩ => ⟨by rw [he]; simp [den, denL, ixRes], hb⟩) ((kgOr_ok (kgSel_ok (kgAt_ok (by simp [bd]) fun w1 hf => by
      have := rr_is h w1 hf.1.2.1.1
      rw [hf.1.2.2.1.1, hA] at this
      simpa [den] using this) (kgAt_ok (by simp [bd]) fun w1 hf => by
      have := rr_is g w1 hf.1.2.1.2
      rw [hf.1.2.2.1.2.2.1, hB] at this
      simpa [den] using this)) (kgSel_ok (kgAt_ok (by simp [bd]) fun w1 hf => by
      have := check_is 39 (by omega) h w1 (vt_less hf.1.2.1.1) 2 (by omega)
      rw [hf.1.2.2.1.2.1, hA9] at this
      simpa [den, ckPost] using this) (kgPan_ok fun w1 hf => by
      have := check_is 39 (by omega) g w1 (vt_less hf.1.2.1.2) 2 (by omega)
      rw [hf.1.2.2.1.2.2.2, hB9] at this
      exact this)))))))))))))) 100000 _ _ [staySV op h g m] [.bool true, .bool false, tw 6 42 (.bool false), .bool true, .bool false, .bool true, .bool false, .bool true, .bool true, tw 6 97 (.bool true), tw 6 102 (.bool false)] _ [(.bool ((g.len : Int) == 0), .bool false), (.bool ((h.len : Int) == 0), .bool true), (h.v, h.v), (h.v, h.v), (.int .i64 2, .int .i64 2), (g.v, g.v), (.int .i64 2, .int .i64 2), (h.v, h.v), (.int .i64 2, .int .i64 2), (g.v, g.v), (h.v, h.v), (.bool (ownB ⟨1, (rnd m), 0, none, 0, 0⟩), .bool true), (.bool (decide (I64 1)), .bool true), (.bool (decide (I64 ((rnd m)))), .bool true), (.bool (decide (I64 0)), .bool true), (.bool (ownB ⟨K, N, 0, none, 0, 0⟩), .bool true), (.bool (decide (I64 K)), .bool true), (.bool (decide (I64 (N))), .bool true), (.bool (decide (I64 0)), .bool true), (h.v, h.v), (.int .i64 m, .int .i64 m), (.bool (decide (e = 0)), .bool false), (.int .i64 op, .int .i64 op), (h.v, h.v), (g.v, g.v), (g.v, g.v), (h.v, h.v)] W (by kernel_rfl) (by simp [denL, den, staySV, stayV]) (by simp [bdL, bd, staySV]) (AllT.cons (by rw [hf2]) (AllT.cons (by rw [hf1]) (AllT.cons (rfl) (AllT.cons (rfl) (AllT.cons (rfl) (AllT.cons (rfl) (AllT.cons (rfl) (AllT.cons (rfl) (AllT.cons (rfl) (AllT.cons (rfl) (AllT.cons (rfl) (AllT.cons (hl3.1) (AllT.cons (hl3.2.1) (AllT.cons (hl3.2.2) (AllT.cons (rfl) (AllT.cons (hl2.1) (AllT.cons (hl2.2.1) (AllT.cons (hl2.2.2) (AllT.cons (rfl) (AllT.cons (rfl) (AllT.cons (rfl) (AllT.cons (by rw [heb]) (AllT.cons (rfl) (AllT.cons (rfl) (AllT.cons (rfl) (AllT.cons (rfl) (AllT.cons (rfl) (AllT.nil)))))))))))))))))))))))))))) (fcV_at kv kw)
set_option maxHeartbeats 8000000 in
theorem st_01_ff_n (W : World) (op m : Int) (h g : VH) (kv : VT 40 W h) (kw : VT 40 W g) (hs1 : decide (countW 39 W h 60 ≤ 60) = true) (hs2 : decide (countW 39 W g 60 ≤ 60) = true) (k n e : Int) (hbin : ∀ w, Calls Tryd.prog 21 #[.int .i64 op, h.v, g.v] w fun e' w' => e' = .returned (bRes k n e) ∧ Below w.heap.size w w') (heb : decide (e = 0) = false) (K N : Int) (hix : ∀ w, @FcAt (fcV W h g) w → Calls Tryd.prog 9 #[h.v, .int .i64 m] w fun e w' => e = .returned (ixRes K N true) ∧ Below w.heap.size w w') (hl2 : LeafOk K N) (hl3 : LeafOk 1 (rnd m)) (hA : rightW 40 W h = false) (hA9 : rightW 39 W h = false) (hf1 : ((h.len : Int) == 0) = false) : Calls Tryd.prog 6 #[stayV op h g m] W fun e w' => e = .returned (.bool true) ∧ Below W.heap.size W w' := by
  letI fc : FC := fcV W h g
  exact @ex_valG (fcV W h g) _ ((kgOr (gk kn8) ((kgOr (kgSel (kgAt 24 [h.v] (.v (.bool true))) (kgAt 24 [g.v] (.v (.bool true)))) ((kgOr (kgAt 21 [.int .i64 op, h.v, g.v] (.t [.g [.y (.int .i64 k), .y (.int .i64 n), .v (.int .i64 0), .v (.slice none 0 0)], .y (.int .i64 e)])) ((kgOr (kgLeaf) ((kgOr (kgAt 9 [h.v, .int .i64 m] (.t [.g [.y (.int .i64 K), .y (.int .i64 N), .v (.int .i64 0), .v (.slice none 0 0)], .v (.bool true)])) ((kgOr (kgSel (kgAt 12 [h.v] (.v (.bool false))) (kgAt 12 [h.v] (.v (.bool false)))) (kgSel (kgPan 28 [h.v, .int .i64 2] (.iface 34 (.int .i64 1))) (kgPan 28 [h.v, .int .i64 2] (.iface 34 (.int .i64 1)))))))))))))))) ((kgOr_ok (gk_ok kn8F_ok) ((kgOr_ok (kgSel_ok (kgAt_ok (by simp [bd]) fun w1 hf => by
      have := shallow_is h w1 (vt_less hf.1.2.1.1)
      rw [hf.1.2.2.2.1, hs1] at this
      simpa [den] using this) (kgAt_ok (by simp [bd]) fun w1 hf => by
      have := shallow_is g w1 (vt_less hf.1.2.1.2)
      rw [hf.1.2.2.2.2, hs2] at this
      simpa [den] using this)) ((kgOr_ok (kgAt_ok (by simp [bd, bdL]) fun w1 hf => (hbin w1).mono fun e' w' ⟨he, hb⟩ => ⟨by rw [he]; simp [den, denL, bRes], hb⟩) ((kgOr_ok (kgLeaf_ok) ((kgOr_ok (kgAt_ok (by simp [bd, bdL]) fun w1 hf => (hix w1 hf).mono fun e' w' ⟨he, hb⟩ => ⟨by rw [he]; simp [den, denL, ixRes], hb⟩) ((kgOr_ok (kgSel_ok (kgAt_ok (by simp [bd]) fun w1 hf => by
      have := rr_is h w1 hf.1.2.1.1
      rw [hf.1.2.2.1.1, hA] at this
      simpa [den] using this) (kgAt_ok (by simp [bd]) fun w1 hf => by
      have := rr_is h w1 hf.1.2.1.1
      rw [hf.1.2.2.1.1, hA] at this
      simpa [den] using this)) (kgSel_ok (kgPan_ok fun w1 hf => by
      have := check_is 39 (by omega) h w1 (vt_less hf.1.2.1.1) 2 (by omega)
      rw [hf.1.2.2.1.2.1, hA9] at this
      exact this) (kgPan_ok fun w1 hf => by
      have := check_is 39 (by omega) h w1 (vt_less hf.1.2.1.1) 2 (by omega)
      rw [hf.1.2.2.1.2.1, hA9] at this
      exact this)))))))))))))) 100000 _ _ [staySV op h g m] [.bool true, .bool false, tw 6 42 (.bool false), .bool true, .bool true, .bool true, tw 6 97 (.bool false)] _ [(.bool ((h.len : Int) == 0), .bool false), (h.v, h.v), (.int .i64 2, .int .i64 2), (h.v, h.v), (.int .i64 2, .int .i64 2), (h.v, h.v), (.bool (ownB ⟨1, (rnd m), 0, none, 0, 0⟩), .bool true), (.bool (decide (I64 1)), .bool true), (.bool (decide (I64 ((rnd m)))), .bool true), (.bool (decide (I64 0)), .bool true), (.bool (ownB ⟨K, N, 0, none, 0, 0⟩), .bool true), (.bool (decide (I64 K)), .bool true), (.bool (decide (I64 (N))), .bool true), (.bool (decide (I64 0)), .bool true), (h.v, h.v), (.int .i64 m, .int .i64 m), (.bool (decide (e = 0)), .bool false), (.int .i64 op, .int .i64 op), (h.v, h.v), (g.v, g.v), (g.v, g.v), (h.v, h.v)] W (by kernel_rfl) (by simp [denL, den, staySV, stayV]) (by simp [bdL, bd, staySV]) (AllT.cons (by rw [hf1]) (AllT.cons (rfl) (AllT.cons (rfl) (AllT.cons (rfl) (AllT.cons (rfl) (AllT.cons (rfl) (AllT.cons (hl3.1) (AllT.cons (hl3.2.1) (AllT.cons (hl3.2.2) (AllT.cons (rfl) (AllT.cons (hl2.1) (AllT.cons (hl2.2.1) (AllT.cons (hl2.2.2) (AllT.cons (rfl) (AllT.cons (rfl) (AllT.cons (rfl) (AllT.cons (by rw [heb]) (AllT.cons (rfl) (AllT.cons (rfl) (AllT.cons (rfl) (AllT.cons (rfl) (AllT.cons (rfl) (AllT.nil))))))))))))))))))))))) (fcV_at kv kw)
set_option maxHeartbeats 8000000 in
theorem st_10_tt_ft_n (W : World) (op m : Int) (h g : VH) (kv : VT 40 W h) (kw : VT 40 W g) (hs1 : decide (countW 39 W h 60 ≤ 60) = true) (hs2 : decide (countW 39 W g 60 ≤ 60) = true) (k n e : Int) (hbin : ∀ w, Calls Tryd.prog 21 #[.int .i64 op, h.v, g.v] w fun e' w' => e' = .returned (bRes k n e) ∧ Below w.heap.size w w') (heb : decide (e = 0) = true) (hl1 : LeafOk k n) (K N : Int) (hix : ∀ w, @FcAt (fcV W h g) w → Calls Tryd.prog 9 #[h.v, .int .i64 m] w fun e w' => e = .returned (ixRes K N false) ∧ Below w.heap.size w w') (hl3 : LeafOk 1 (rnd m)) (hA : rightW 40 W h = true) (hA9 : rightW 39 W h = true) (hB : rightW 40 W g = true) (hB9 : rightW 39 W g = false) (hf1 : ((h.len : Int) == 0) = false) : Calls Tryd.prog 6 #[stayV op h g m] W fun e w' => e = .returned (.bool true) ∧ Below W.heap.size W w' := by
  letI fc : FC := fcV W h g
  exact @ex_valG (fcV W h g) _ ((kgOr (gk kn8) ((kgOr (kgSel (kgAt 24 [h.v] (.v (.bool true))) (kgAt 24 [g.v] (.v (.bool true)))) ((kgOr (kgAt 21 [.int .i64 op, h.v, g.v] (.t [.g [.y (.int .i64 k), .y (.int .i64 n), .v (.int .i64 0), .v (.slice none 0 0)], .y (.int .i64 e)])) ((kgOr (kgLeaf) ((kgOr (kgAt 9 [h.v, .int .i64 m] (.t [.g [.y (.int .i64 K), .y (.int .i64 N), .v (.int .i64 0), .v (.slice none 0 0)], .v (.bool false)])) ((kgOr (kgSel (kgAt 12 [h.v] (.v (.bool true))) (kgAt 12 [g.v] (.v (.bool true)))) (kgSel (kgAt 28 [h.v, .int .i64 2] (.v (.tuple #[]))) (kgPan 28 [g.v, .int .i64 2] (.iface 34 (.int .i64 1)))))))))))))))) ((kgOr_ok (gk_ok kn8F_ok) ((kgOr_ok (kgSel_ok (kgAt_ok (by simp [bd]) fun w1 hf => by
      have := shallow_is h w1 (vt_less hf.1.2.1.1)
      rw [hf.1.2.2.2.1, hs1] at this
      simpa [den] using this) (kgAt_ok (by simp [bd]) fun w1 hf => by
      have := shallow_is g w1 (vt_less hf.1.2.1.2)
      rw [hf.1.2.2.2.2, hs2] at this
      simpa [den] using this)) ((kgOr_ok (kgAt_ok (by simp [bd, bdL]) fun w1 hf => (hbin w1).mono fun e' w' ⟨he, hb⟩ => ⟨by rw [he]; simp [den, denL, bRes], hb⟩) ((kgOr_ok (kgLeaf_ok) ((kgOr_ok (kgAt_ok (by simp [bd, bdL]) fun w1 hf => (hix w1 hf).mono fun e' w' ⟨he, hb⟩ => ⟨by rw [he]; simp [den, denL, ixRes], hb⟩) ((kgOr_ok (kgSel_ok (kgAt_ok (by simp [bd]) fun w1 hf => by
      have := rr_is h w1 hf.1.2.1.1
      rw [hf.1.2.2.1.1, hA] at this
      simpa [den] using this) (kgAt_ok (by simp [bd]) fun w1 hf => by
      have := rr_is g w1 hf.1.2.1.2
      rw [hf.1.2.2.1.2.2.1, hB] at this
      simpa [den] using this)) (kgSel_ok (kgAt_ok (by simp [bd]) fun w1 hf => by
      have := check_is 39 (by omega) h w1 (vt_less hf.1.2.1.1) 2 (by omega)
      rw [hf.1.2.2.1.2.1, hA9] at this
      simpa [den, ckPost] using this) (kgPan_ok fun w1 hf => by
      have := check_is 39 (by omega) g w1 (vt_less hf.1.2.1.2) 2 (by omega)
      rw [hf.1.2.2.1.2.2.2, hB9] at this
      exact this)))))))))))))) 100000 _ _ [staySV op h g m] [.bool true, .bool false, tw 6 42 (.bool true), .bool true, .bool false, .bool true, .bool false, .bool true, .bool true, tw 6 97 (.bool false)] _ [(.bool ((h.len : Int) == 0), .bool false), (h.v, h.v), (h.v, h.v), (.int .i64 2, .int .i64 2), (g.v, g.v), (.int .i64 2, .int .i64 2), (h.v, h.v), (.int .i64 2, .int .i64 2), (g.v, g.v), (h.v, h.v), (.bool (ownB ⟨1, (rnd m), 0, none, 0, 0⟩), .bool true), (.bool (decide (I64 1)), .bool true), (.bool (decide (I64 ((rnd m)))), .bool true), (.bool (decide (I64 0)), .bool true), (h.v, h.v), (.int .i64 m, .int .i64 m), (.bool (ownB ⟨k, n, 0, none, 0, 0⟩), .bool true), (.bool (decide (I64 k)), .bool true), (.bool (decide (I64 (n))), .bool true), (.bool (decide (I64 0)), .bool true), (.bool (decide (e = 0)), .bool true), (.int .i64 op, .int .i64 op), (h.v, h.v), (g.v, g.v), (g.v, g.v), (h.v, h.v)] W (by kernel_rfl) (by simp [denL, den, staySV, stayV]) (by simp [bdL, bd, staySV]) (AllT.cons (by rw [hf1]) (AllT.cons (rfl) (AllT.cons (rfl) (AllT.cons (rfl) (AllT.cons (rfl) (AllT.cons (rfl) (AllT.cons (rfl) (AllT.cons (rfl) (AllT.cons (rfl) (AllT.cons (rfl) (AllT.cons (hl3.1) (AllT.cons (hl3.2.1) (AllT.cons (hl3.2.2) (AllT.cons (rfl) (AllT.cons (rfl) (AllT.cons (rfl) (AllT.cons (hl1.1) (AllT.cons (hl1.2.1) (AllT.cons (hl1.2.2) (AllT.cons (rfl) (AllT.cons (by rw [heb]) (AllT.cons (rfl) (AllT.cons (rfl) (AllT.cons (rfl) (AllT.cons (rfl) (AllT.cons (rfl) (AllT.nil))))))))))))))))))))))))))) (fcV_at kv kw)
set_option maxHeartbeats 8000000 in
theorem st_10_ft_t_p (W : World) (op m : Int) (h g : VH) (kv : VT 40 W h) (kw : VT 40 W g) (hs1 : decide (countW 39 W h 60 ≤ 60) = true) (hs2 : decide (countW 39 W g 60 ≤ 60) = true) (k n e : Int) (hbin : ∀ w, Calls Tryd.prog 21 #[.int .i64 op, h.v, g.v] w fun e' w' => e' = .returned (bRes k n e) ∧ Below w.heap.size w w') (heb : decide (e = 0) = true) (hl1 : LeafOk k n) (K N : Int) (hix : ∀ w, @FcAt (fcV W h g) w → Calls Tryd.prog 9 #[h.v, .int .i64 m] w fun e w' => e = .returned (ixRes K N false) ∧ Below w.heap.size w w') (hl3 : LeafOk 1 (rnd m)) (hA : rightW 40 W h = true) (hA9 : rightW 39 W h = false) (hB : rightW 40 W g = true) (hf1 : ((h.len : Int) == 0) = true) (hf2 : ((g.len : Int) == 0) = false) : Calls Tryd.prog 6 #[stayV op h g m] W fun e w' => e = .returned (.bool true) ∧ Below W.heap.size W w' := by
  letI fc : FC := fcV W h g
  exact @ex_valG (fcV W h g) _ ((kgOr (gk kn8) ((kgOr (kgSel (kgAt 24 [h.v] (.v (.bool true))) (kgAt 24 [g.v] (.v (.bool true)))) ((kgOr (kgAt 21 [.int .i64 op, h.v, g.v] (.t [.g [.y (.int .i64 k), .y (.int .i64 n), .v (.int .i64 0), .v (.slice none 0 0)], .y (.int .i64 e)])) ((kgOr (kgLeaf) ((kgOr (kgAt 9 [h.v, .int .i64 m] (.t [.g [.y (.int .i64 K), .y (.int .i64 N), .v (.int .i64 0), .v (.slice none 0 0)], .v (.bool false)])) ((kgOr (kgSel (kgAt 12 [h.v] (.v (.bool true))) (kgAt 12 [g.v] (.v (.bool true)))) (kgSel (kgPan 28 [h.v, .int .i64 2] (.iface 34 (.int .i64 1))) (kgPan 28 [h.v, .int .i64 2] (.iface 34 (.int .i64 1)))))))))))))))) ((kgOr_ok (gk_ok kn8F_ok) ((kgOr_ok (kgSel_ok (kgAt_ok (by simp [bd]) fun w1 hf => by
      have := shallow_is h w1 (vt_less hf.1.2.1.1)
      rw [hf.1.2.2.2.1, hs1] at this
      simpa [den] using this) (kgAt_ok (by simp [bd]) fun w1 hf => by
      have := shallow_is g w1 (vt_less hf.1.2.1.2)
      rw [hf.1.2.2.2.2, hs2] at this
      simpa [den] using this)) ((kgOr_ok (kgAt_ok (by simp [bd, bdL]) fun w1 hf => (hbin w1).mono fun e' w' ⟨he, hb⟩ => ⟨by rw [he]; simp [den, denL, bRes], hb⟩) ((kgOr_ok (kgLeaf_ok) ((kgOr_ok (kgAt_ok (by simp [bd, bdL]) fun w1 hf => (hix w1 hf).mono fun e' w' ⟨he, hb⟩ => ⟨by rw [he]; simp [den, denL, ixRes], hb⟩) ((kgOr_ok (kgSel_ok (kgAt_ok (by simp [bd]) fun w1 hf => by
      have := rr_is h w1 hf.1.2.1.1
      rw [hf.1.2.2.1.1, hA] at this
      simpa [den] using this) (kgAt_ok (by simp [bd]) fun w1 hf => by
      have := rr_is g w1 hf.1.2.1.2
      rw [hf.1.2.2.1.2.2.1, hB] at this
      simpa [den] using this)) (kgSel_ok (kgPan_ok fun w1 hf => by
      have := check_is 39 (by omega) h w1 (vt_less hf.1.2.1.1) 2 (by omega)
      rw [hf.1.2.2.1.2.1, hA9] at this
      exact this) (kgPan_ok fun w1 hf => by
      have := check_is 39 (by omega) h w1 (vt_less hf.1.2.1.1) 2 (by omega)
      rw [hf.1.2.2.1.2.1, hA9] at this
      exact this)))))))))))))) 100000 _ _ [staySV op h g m] [.bool true, .bool false, tw 6 42 (.bool true), .bool true, .bool false, .bool true, .bool true, tw 6 97 (.bool true), tw 6 102 (.bool false)] _ [(.bool ((g.len : Int) == 0), .bool false), (.bool ((h.len : Int) == 0), .bool true), (h.v, h.v), (.int .i64 2, .int .i64 2), (h.v, h.v), (.int .i64 2, .int .i64 2), (g.v, g.v), (h.v, h.v), (.bool (ownB ⟨1, (rnd m), 0, none, 0, 0⟩), .bool true), (.bool (decide (I64 1)), .bool true), (.bool (decide (I64 ((rnd m)))), .bool true), (.bool (decide (I64 0)), .bool true), (h.v, h.v), (.int .i64 m, .int .i64 m), (.bool (ownB ⟨k, n, 0, none, 0, 0⟩), .bool true), (.bool (decide (I64 k)), .bool true), (.bool (decide (I64 (n))), .bool true), (.bool (decide (I64 0)), .bool true), (.bool (decide (e = 0)), .bool true), (.int .i64 op, .int .i64 op), (h.v, h.v), (g.v, g.v), (g.v, g.v), (h.v, h.v)] W (by kernel_rfl) (by simp [denL, den, staySV, stayV]) (by simp [bdL, bd, staySV]) (AllT.cons (by rw [hf2]) (AllT.cons (by rw [hf1]) (AllT.cons (rfl) (AllT.cons (rfl) (AllT.cons (rfl) (AllT.cons (rfl) (AllT.cons (rfl) (AllT.cons (rfl) (AllT.cons (hl3.1) (AllT.cons (hl3.2.1) (AllT.cons (hl3.2.2) (AllT.cons (rfl) (AllT.cons (rfl) (AllT.cons (rfl) (AllT.cons (hl1.1) (AllT.cons (hl1.2.1) (AllT.cons (hl1.2.2) (AllT.cons (rfl) (AllT.cons (by rw [heb]) (AllT.cons (rfl) (AllT.cons (rfl) (AllT.cons (rfl) (AllT.cons (rfl) (AllT.cons (rfl) (AllT.nil))))))))))))))))))))))))) (fcV_at kv kw)
set_option maxHeartbeats 8000000 in
theorem st_11_tt_tt_n (W : World) (op m : Int) (h g : VH) (kv : VT 40 W h) (kw : VT 40 W g) (hs1 : decide (countW 39 W h 60 ≤ 60) = true) (hs2 : decide (countW 39 W g 60 ≤ 60) = true) (k n e : Int) (hbin : ∀ w, Calls Tryd.prog 21 #[.int .i64 op, h.v, g.v] w fun e' w' => e' = .returned (bRes k n e) ∧ Below w.heap.size w w') (heb : decide (e = 0) = true) (hl1 : LeafOk k n) (K N : Int) (hix : ∀ w, @FcAt (fcV W h g) w → Calls Tryd.prog 9 #[h.v, .int .i64 m] w fun e w' => e = .returned (ixRes K N true) ∧ Below w.heap.size w w') (hl2 : LeafOk K N) (hl3 : LeafOk 1 (rnd m)) (hA : rightW 40 W h = true) (hA9 : rightW 39 W h = true) (hB : rightW 40 W g = true) (hB9 : rightW 39 W g = true) (hf1 : ((h.len : Int) == 0) = false) : Calls Tryd.prog 6 #[stayV op h g m] W fun e w' => e = .returned (.bool true) ∧ Below W.heap.size W w' := by
  letI fc : FC := fcV W h g
  exact @ex_valG (fcV W h g) _ ((kgOr (gk kn8) ((kgOr (kgSel (kgAt 24 [h.v] (.v (.bool true))) (kgAt 24 [g.v] (.v (.bool true)))) ((kgOr (kgAt 21 [.int .i64 op, h.v, g.v] (.t [.g [.y (.int .i64 k), .y (.int .i64 n), .v (.int .i64 0), .v (.slice none 0 0)], .y (.int .i64 e)])) ((kgOr (kgLeaf) ((kgOr (kgAt 9 [h.v, .int .i64 m] (.t [.g [.y (.int .i64 K), .y (.int .i64 N), .v (.int .i64 0), .v (.slice none 0 0)], .v (.bool true)])) ((kgOr (kgSel (kgAt 12 [h.v] (.v (.bool true))) (kgAt 12 [g.v] (.v (.bool true)))) (kgSel (kgAt 28 [h.v, .int .i64 2] (.v (.tuple #[]))) (kgAt 28 [g.v, .int .i64 2] (.v (.tuple #[])))))))))))))))) ((kgOr_ok (gk_ok kn8F_ok) ((kgOr_ok (kgSel_ok (kgAt_ok (by simp [bd]) fun w1 hf => by
      have := shallow_is h w1 (vt_less hf.1.2.1.1)
      rw [hf.1.2.2.2.1, hs1] at this
      simpa [den] using this) (kgAt_ok (by simp [bd]) fun w1 hf => by
      have := shallow_is g w1 (vt_less hf.1.2.1.2)
      rw [hf.1.2.2.2.2, hs2] at this
      simpa [den] using this)) ((kgOr_ok (kgAt_ok (by simp [bd, bdL]) fun w1 hf => (hbin w1).mono fun e' w' ⟨he, hb⟩ => ⟨by rw [he]; simp [den, denL, bRes], hb⟩) ((kgOr_ok (kgLeaf_ok) ((kgOr_ok (kgAt_ok (by simp [bd, bdL]) fun w1 hf => (hix w1 hf).mono fun e' w' ⟨he, hb⟩ => ⟨by rw [he]; simp [den, denL, ixRes], hb⟩) ((kgOr_ok (kgSel_ok (kgAt_ok (by simp [bd]) fun w1 hf => by
      have := rr_is h w1 hf.1.2.1.1
      rw [hf.1.2.2.1.1, hA] at this
      simpa [den] using this) (kgAt_ok (by simp [bd]) fun w1 hf => by
      have := rr_is g w1 hf.1.2.1.2
      rw [hf.1.2.2.1.2.2.1, hB] at this
      simpa [den] using this)) (kgSel_ok (kgAt_ok (by simp [bd]) fun w1 hf => by
      have := check_is 39 (by omega) h w1 (vt_less hf.1.2.1.1) 2 (by omega)
      rw [hf.1.2.2.1.2.1, hA9] at this
      simpa [den, ckPost] using this) (kgAt_ok (by simp [bd]) fun w1 hf => by
      have := check_is 39 (by omega) g w1 (vt_less hf.1.2.1.2) 2 (by omega)
      rw [hf.1.2.2.1.2.2.2, hB9] at this
      simpa [den, ckPost] using this)))))))))))))) 100000 _ _ [staySV op h g m] [.bool true, .bool false, tw 6 42 (.bool true), .bool true, .bool false, .bool true, .bool false, .bool true, .bool true, tw 6 97 (.bool false)] _ [(.bool ((h.len : Int) == 0), .bool false), (h.v, h.v), (h.v, h.v), (.int .i64 2, .int .i64 2), (g.v, g.v), (.int .i64 2, .int .i64 2), (h.v, h.v), (.int .i64 2, .int .i64 2), (g.v, g.v), (h.v, h.v), (.bool (ownB ⟨1, (rnd m), 0, none, 0, 0⟩), .bool true), (.bool (decide (I64 1)), .bool true), (.bool (decide (I64 ((rnd m)))), .bool true), (.bool (decide (I64 0)), .bool true), (.bool (ownB ⟨K, N, 0, none, 0, 0⟩), .bool true), (.bool (decide (I64 K)), .bool true), (.bool (decide (I64 (N))), .bool true), (.bool (decide (I64 0)), .bool true), (h.v, h.v), (.int .i64 m, .int .i64 m), (.bool (ownB ⟨k, n, 0, none, 0, 0⟩), .bool true), (.bool (decide (I64 k)), .bool true), (.bool (decide (I64 (n))), .bool true), (.bool (decide (I64 0)), .bool true), (.bool (decide (e = 0)), .bool true), (.int .i64 op, .int .i64 op), (h.v, h.v), (g.v, g.v), (g.v, g.v), (h.v, h.v)] W (by kernel_rfl) (by simp [denL, den, staySV, stayV]) (by simp [bdL, bd, staySV]) (AllT.cons (by rw [hf1]) (AllT.cons (rfl) (AllT.cons (rfl) (AllT.cons (rfl) (AllT.cons (rfl) (AllT.cons (rfl) (AllT.cons (rfl) (AllT.cons (rfl) (AllT.cons (rfl) (AllT.cons (rfl) (AllT.cons (hl3.1) (AllT.cons (hl3.2.1) (AllT.cons (hl3.2.2) (AllT.cons (rfl) (AllT.cons (hl2.1) (AllT.cons (hl2.2.1) (AllT.cons (hl2.2.2) (AllT.cons (rfl) (AllT.cons (rfl) (AllT.cons (rfl) (AllT.cons (hl1.1) (AllT.cons (hl1.2.1) (AllT.cons (hl1.2.2) (AllT.cons (rfl) (AllT.cons (by rw [heb]) (AllT.cons (rfl) (AllT.cons (rfl) (AllT.cons (rfl) (AllT.cons (rfl) (AllT.cons (rfl) (AllT.nil))))))))))))))))))))))))))))))) (fcV_at kv kw)
set_option maxHeartbeats 8000000 in
theorem st_11_tt_ff_p (W : World) (op m : Int) (h g : VH) (kv : VT 40 W h) (kw : VT 40 W g) (hs1 : decide (countW 39 W h 60 ≤ 60) = true) (hs2 : decide (countW 39 W g 60 ≤ 60) = true) (k n e : Int) (hbin : ∀ w, Calls Tryd.prog 21 #[.int .i64 op, h.v, g.v] w fun e' w' => e' = .returned (bRes k n e) ∧ Below w.heap.size w w') (heb : decide (e = 0) = true) (hl1 : LeafOk k n) (K N : Int) (hix : ∀ w, @FcAt (fcV W h g) w → Calls Tryd.prog 9 #[h.v, .int .i64 m] w fun e w' => e = .returned (ixRes K N true) ∧ Below w.heap.size w w') (hl2 : LeafOk K N) (hl3 : LeafOk 1 (rnd m)) (hA : rightW 40 W h = true) (hA9 : rightW 39 W h = true) (hB : rightW 40 W g = false) (hB9 : rightW 39 W g = false) (hf1 : ((h.len : Int) == 0) = true) (hf2 : ((g.len : Int) == 0) = false) : Calls Tryd.prog 6 #[stayV op h g m] W fun e w' => e = .returned (.bool true) ∧ Below W.heap.size W w' := by
  letI fc : FC := fcV W h g
  exact @ex_valG (fcV W h g) _ ((kgOr (gk kn8) ((kgOr (kgSel (kgAt 24 [h.v] (.v (.bool true))) (kgAt 24 [g.v] (.v (.bool true)))) ((kgOr (kgAt 21 [.int .i64 op, h.v, g.v] (.t [.g [.y (.int .i64 k), .y (.int .i64 n), .v (.int .i64 0), .v (.slice none 0 0)], .y (.int .i64 e)])) ((kgOr (kgLeaf) ((kgOr (kgAt 9 [h.v, .int .i64 m] (.t [.g [.y (.int .i64 K), .y (.int .i64 N), .v (.int .i64 0), .v (.slice none 0 0)], .v (.bool true)])) ((kgOr (kgSel (kgAt 12 [h.v] (.v (.bool true))) (kgAt 12 [g.v] (.v (.bool false)))) (kgSel (kgAt 28 [h.v, .int .i64 2] (.v (.tuple #[]))) (kgPan 28 [g.v, .int .i64 2] (.iface 34 (.int .i64 1)))))))))))))))) ((kgOr_ok (gk_ok kn8F_ok) ((kgOr_ok (kgSel_ok (kgAt_ok (by simp [bd]) fun w1 hf => by
      have := shallow_is h w1 (vt_less hf.1.2.1.1)
      rw [hf.1.2.2.2.1, hs1] at this
      simpa [den] using this) (kgAt_ok (by simp [bd]) fun w1 hf => by
      have := shallow_is g w1 (vt_less hf.1.2.1.2)
      rw [hf.1.2.2.2.2, hs2] at this
      simpa [den] using this)) ((kgOr_ok (kgAt_ok (by simp [bd, bdL]) fun w1 hf => (hbin w1).mono fun e' w' ⟨he, hb⟩ => ⟨by rw [he]; simp [den, denL, bRes], hb⟩) ((kgOr_ok (kgLeaf_ok) ((kgOr_ok (kgAt_ok (by simp [bd, bdL]) fun w1 hf => (hix w1 hf).mono fun e' w' ⟨he, hb⟩ => ⟨by rw [he]; simp [den, denL, ixRes], hb⟩) ((kgOr_ok (kgSel_ok (kgAt_ok (by simp [bd]) fun w1 hf => by
      have := rr_is h w1 hf.1.2.1.1
      rw [hf.1.2.2.1.1, hA] at this
      simpa [den] using this) (kgAt_ok (by simp [bd]) fun w1 hf => by
      have := rr_is g w1 hf.1.2.1.2
      rw [hf.1.2.2.1.2.2.1, hB] at this
      simpa [den] using this)) (kgSel_ok (kgAt_ok (by simp [bd]) fun w1 hf => by
      have := check_is 39 (by omega) h w1 (vt_less hf.1.2.1.1) 2 (by omega)
      rw [hf.1.2.2.1.2.1, hA9] at this
      simpa [den, ckPost] using this) (kgPan_ok fun w1 hf => by
      have := check_is 39 (by omega) g w1 (vt_less hf.1.2.1.2) 2 (by omega)
      rw [hf.1.2.2.1.2.2.2, hB9] at this
      exact this)))))))))))))) 100000 _ _ [staySV op h g m] [.bool true, .bool false, tw 6 42 (.bool true), .bool true, .bool false, .bool true, .bool false, .bool true, .bool true, tw 6 97 (.bool true), tw 6 102 (.bool false)] _ [(.bool ((g.len : Int) == 0), .bool false), (.bool ((h.len : Int) == 0), .bool true), (h.v, h.v), (h.v, h.v), (.int .i64 2, .int .i64 2), (g.v, g.v), (.int .i64 2, .int .i64 2), (h.v, h.v), (.int .i64 2, .int .i64 2), (g.v, g.v), (h.v, h.v), (.bool (ownB ⟨1, (rnd m), 0, none, 0, 0⟩), .bool true), (.bool (decide (I64 1)), .bool true), (.bool (decide (I64 ((rnd m)))), .bool true), (.bool (decide (I64 0)), .bool true), (.bool (ownB ⟨K, N, 0, none, 0, 0⟩), .bool true), (.bool (decide (I64 K)), .bool true), (.bool (decide (I64 (N))), .bool true), (.bool (decide (I64 0)), .bool true), (h.v, h.v), (.int .i64 m, .int .i64 m), (.bool (ownB ⟨k, n, 0, none, 0, 0⟩), .bool true), (.bool (decide (I64 k)), .bool true), (.bool (decide (I64 (n))), .bool true), (.bool (decide (I64 0)), .bool true), (.bool (decide (e = 0)), .bool true), (.int .i64 op, .int .i64 op), (h.v, h.v), (g.v, g.v), (g.v, g.v), (h.v, h.v)] W (by kernel_rfl) (by simp [denL, den, staySV, stayV]) (by simp [bdL, bd, staySV]) (AllT.cons (by rw [hf2]) (AllT.cons (by rw [hf1]) (AllT.cons (rfl) (AllT.cons (rfl) (AllT.cons (rfl) (AllT.cons (rfl) (AllT.cons (rfl) (AllT.cons (rfl) (AllT.cons (rfl) (AllT.cons (rfl) (AllT.cons (rfl) (AllT.cons (hl3.1) (AllT.cons (hl3.2.1) (AllT.cons (hl3.2.2) (AllT.cons (rfl) (AllT.cons (hl2.1) (AllT.cons (hl2.2.1) (AllT.cons (hl2.2.2) (AllT.cons (rfl) (AllT.cons (rfl) (AllT.cons (rfl) (AllT.cons (hl1.1) (AllT.cons (hl1.2.1) (AllT.cons (hl1.2.2) (AllT.cons (rfl) (AllT.cons (by rw [heb]) (AllT.cons (rfl) (AllT.cons (rfl) (AllT.cons (rfl) (AllT.cons (rfl) (AllT.cons (rfl) (AllT.nil)))))))))))))))))))))))))))))))) (fcV_at kv kw)
set_option maxHeartbeats 8000000 in
theorem st_11_ff_n (W : World) (op m : Int) (h g : VH) (kv : VT 40 W h) (kw : VT 40 W g) (hs1 : decide (countW 39 W h 60 ≤ 60) = true) (hs2 : decide (countW 39 W g 60 ≤ 60) = true) (k n e : Int) (hbin : ∀ w, Calls Tryd.prog 21 #[.int .i64 op, h.v, g.v] w fun e' w' => e' = .returned (bRes k n e) ∧ Below w.heap.size w w') (heb : decide (e = 0) = true) (hl1 : LeafOk k n) (K N : Int) (hix : ∀ w, @FcAt (fcV W h g) w → Calls Tryd.prog 9 #[h.v, .int .i64 m] w fun e w' => e = .returned (ixRes K N true) ∧ Below w.heap.size w w') (hl2 : LeafOk K N) (hl3 : LeafOk 1 (rnd m)) (hA : rightW 40 W h = false) (hA9 : rightW 39 W h = false) (hf1 : ((h.len : Int) == 0) = false) : Calls Tryd.prog 6 #[stayV op h g m] W fun e w' => e = .returned (.bool true) ∧ Below W.heap.size W w' := by
  letI fc : FC := fcV W h g
  exact @ex_valG (fcV W h g) _ ((kgOr (gk kn8) ((kgOr (kgSel (kgAt 24 [h.v] (.v (.bool true))) (kgAt 24 [g.v] (.v (.bool true)))) ((kgOr (kgAt 21 [.int .i64 op, h.v, g.v] (.t [.g [.y (.int .i64 k), .y (.int .i64 n), .v (.int .i64 0), .v (.slice none 0 0)], .y (.int .i64 e)])) ((kgOr (kgLeaf) ((kgOr (kgAt 9 [h.v, .int .i64 m] (.t [.g [.y (.int .i64 K), .y (.int .i64 N), .v (.int .i64 0), .v (.slice none 0 0)], .v (.bool true)])) ((kgOr (kgSel (kgAt 12 [h.v] (.v (.bool false))) (kgAt 12 [h.v] (.v (.bool false)))) (kgSel (kgPan 28 [h.v, .int .i64 2] (.iface 34 (.int .i64 1))) (kgPan 28 [h.v, .int .i64 2] (.iface 34 (.int .i64 1)))))))))))))))) ((kgOr_ok (gk_ok kn8F_ok) ((kgOr_ok (kgSel_ok (kgAt_ok (by simp [bd]) fun w1 hf => by
      have := shallow_is h w1 (vt_less hf.1.2.1.1)
      rw [hf.1.2.2.2.1, hs1] at this
      simpa [den] using this) (kgAt_ok (by simp [bd]) fun w1 hf => by
      have := shallow_is g w1 (vt_less hf.1.2.1.2)
      rw [hf.1.2.2.2.2, hs2] at this
      simpa [den] using this)) ((kgOr_ok (kgAt_ok (by simp [bd, bdL]) fun w1 hf => (hbin w1).mono fun e' w' ⟨he, hb⟩ => ⟨by rw [he]; simp [den, denL, bRes], hb⟩) ((kgOr_ok (kgLeaf_ok) ((kgOr_ok (kgAt_ok (by simp [bd, bdL]) fun w1 hf => (hix w1 hf).mono fun e' w' ⟨he, hb⟩ => ⟨by rw [he]; simp [den, denL, ixRes], hb⟩) ((kgOr_ok (kgSel_ok (kgAt_ok (by simp [bd]) fun w1 hf => by
      have := rr_is h w1 hf.1.2.1.1
      rw [hf.1.2.2.1.1, hA] at this
      simpa [den] using this) (kgAt_ok (by simp [bd]) fun w1 hf => by
      have := rr_is h w1 hf.1.2.1.1
      rw [hf.1.2.2.1.1, hA] at this
      simpa [den] using this)) (kgSel_ok (kgPan_ok fun w1 hf => by
      have := check_is 39 (by omega) h w1 (vt_less hf.1.2.1.1) 2 (by omega)
      rw [hf.1.2.2.1.2.1, hA9] at this
      exact this) (kgPan_ok fun w1 hf => by
      have := check_is 39 (by omega) h w1 (vt_less hf.1.2.1.1) 2 (by omega)
      rw [hf.1.2.2.1.2.1, hA9] at this
      exact this)))))))))))))) 100000 _ _ [staySV op h g m] [.bool true, .bool false, tw 6 42 (.bool true), .bool true, .bool true, .bool true, tw 6 97 (.bool false)] _ [(.bool ((h.len : Int) == 0), .bool false), (h.v, h.v), (.int .i64 2, .int .i64 2), (h.v, h.v), (.int .i64 2, .int .i64 2), (h.v, h.v), (.bool (ownB ⟨1, (rnd m), 0, none, 0, 0⟩), .bool true), (.bool (decide (I64 1)), .bool true), (.bool (decide (I64 ((rnd m)))), .bool true), (.bool (decide (I64 0)), .bool true), (.bool (ownB ⟨K, N, 0, none, 0, 0⟩), .bool true), (.bool (decide (I64 K)), .bool true), (.bool (decide (I64 (N))), .bool true), (.bool (decide (I64 0)), .bool true), (h.v, h.v), (.int .i64 m, .int .i64 m), (.bool (ownB ⟨k, n, 0, none, 0, 0⟩), .bool true), (.bool (decide (I64 k)), .bool true), (.bool (decide (I64 (n))), .bool true), (.bool (decide (I64 0)), .bool true), (.bool (decide (e = 0)), .bool true), (.int .i64 op, .int .i64 op), (h.v, h.v), (g.v, g.v), (g.v, g.v), (h.v, h.v)] W (by kernel_rfl) (by simp [denL, den, staySV, stayV]) (by simp [bdL, bd, staySV]) (AllT.cons (by rw [hf1]) (AllT.cons (rfl) (AllT.cons (rfl) (AllT.cons (rfl) (AllT.cons (rfl) (AllT.cons (rfl) (AllT.cons (hl3.1) (AllT.cons (hl3.2.1) (AllT.cons (hl3.2.2) (AllT.cons (rfl) (AllT.cons (hl2.1) (AllT.cons (hl2.2.1) (AllT.cons (hl2.2.2) (AllT.cons (rfl) (AllT.cons (rfl) (AllT.cons (rfl) (AllT.cons (hl1.1) (AllT.cons (hl1.2.1) (AllT.cons (hl1.2.2) (AllT.cons (rfl) (AllT.cons (by rw [heb]) (AllT.cons (rfl) (AllT.cons (rfl) (AllT.cons (rfl) (AllT.cons (rfl) (AllT.cons (rfl) (AllT.nil))))))))))))))))))))))))))) (fcV_at kv kw)
end Go.Proofs.YtoijdnlplbeomaaDoor


/-
  Layer 8: ValueStaysValid.
-/
namespace Go.Proofs.YtoijdnlplbeomaaDoor
open Go Go.RowKit EX
set_option maxRecDepth 100000
set_option linter.unusedVariables false
set_option linter.unusedSimpArgs false
set_option linter.unusedSectionVars false

theorem leaf_int {n : Int} (h : -1099511627776 ≤ n ∧ n ≤ 1099511627776) : LeafOk 1 n := by
  refine ⟨?_, rfl, ?_⟩
  · congr 1
    unfold ownB
    simp [h.1, h.2]
  · congr 1
    exact decide_eq_true (by unfold I64; omega)
theorem leaf_bool {n : Int} (h : n = 0 ∨ n = 1) : LeafOk 2 n := by
  rcases h with rfl | rfl <;> exact ⟨rfl, rfl, rfl⟩
theorem leaf_ref {n : Int} (h : 0 ≤ n ∧ n < 32) : LeafOk 4 n := by
  refine ⟨?_, rfl, ?_⟩
  · congr 1
    unfold ownB
    simp [h.1, h.2]
  · congr 1
    exact decide_eq_true (by unfold I64; omega)
theorem flat_eq (W : World) (x : VH) (h0 : x.len = 0) : rightW 40 W x = rightW 39 W x := (rightW_flat (d := 39) h0).trans (rightW_flat (d := 38) h0).symm
theorem stay_all (W : World) (op m : Int) (h g : VH) (kv : VT 40 W h) (kw : VT 40 W g) : Calls Tryd.prog 6 #[stayV op h g m] W fun e w' => e = .returned (.bool true) ∧ Below W.heap.size W w' := by
  cases hs1 : decide (countW 39 W h 60 ≤ 60) with
  | false => exact st_s1 W op m h g kv kw hs1
  | true =>
  cases hs2 : decide (countW 39 W g 60 ≤ 60) with
  | false => exact st_s2 W op m h g kv kw hs1 hs2
  | true =>
  obtain ⟨k, n, e, hbin, hbo⟩ := stay_any op h g
  obtain ⟨K, N, B, hix, hB⟩ := index_any W h g m
  have hl3 : LeafOk 1 (rnd m) := leaf_int (rnd_in2 m)
  have mono := fun (x : VH) (y : rightW 39 W x = true) => (rightW_mono y : rightW (39 + 1) W x = true)
  cases heb : decide (e = 0) with
  | false =>
    cases B with
    | false =>
      cases hA9 : rightW 39 W h with
      | true =>
        have hA := mono h hA9
        cases hB9 : rightW 39 W g with
        | true =>
          have hBB := mono g hB9
          cases hf1 : ((h.len : Int) == 0) with
          | false => exact st_00_tt_tt_n W op m h g kv kw hs1 hs2 k n e hbin heb K N hix hl3 hA hA9 hBB hB9 hf1
          | true =>
            cases hf2 : ((g.len : Int) == 0) with
            | false => exact st_00_tt_tt_p W op m h g kv kw hs1 hs2 k n e hbin heb K N hix hl3 hA hA9 hBB hB9 hf1 hf2
            | true => exact st_00_tt_tt_y W op m h g kv kw hs1 hs2 k n e hbin heb K N hix hl3 hA hA9 hBB hB9 hf1 hf2
        | false =>
          cases hBB : rightW 40 W g with
          | true =>
            cases hf1 : ((h.len : Int) == 0) with
            | false => exact st_00_tt_ft_n W op m h g kv kw hs1 hs2 k n e hbin heb K N hix hl3 hA hA9 hBB hB9 hf1
            | true =>
              cases hf2 : ((g.len : Int) == 0) with
              | false => exact st_00_tt_ft_p W op m h g kv kw hs1 hs2 k n e hbin heb K N hix hl3 hA hA9 hBB hB9 hf1 hf2
              | true => exact absurd (flat_eq W g (by simpa using hf2)) (by rw [hBB, hB9]; decide)
          | false =>
            cases hf1 : ((h.len : Int) == 0) with
            | false => exact st_00_tt_ff_n W op m h g kv kw hs1 hs2 k n e hbin heb K N hix hl3 hA hA9 hBB hB9 hf1
            | true =>
              cases hf2 : ((g.len : Int) == 0) with
              | false => exact st_00_tt_ff_p W op m h g kv kw hs1 hs2 k n e hbin heb K N hix hl3 hA hA9 hBB hB9 hf1 hf2
              | true => exact st_00_tt_ff_y W op m h g kv kw hs1 hs2 k n e hbin heb K N hix hl3 hA hA9 hBB hB9 hf1 hf2
      | false =>
        cases hA : rightW 40 W h with
        | true =>
          cases hBB : rightW 40 W g with
          | true =>
            cases hf1 : ((h.len : Int) == 0) with
            | false => exact st_00_ft_t_n W op m h g kv kw hs1 hs2 k n e hbin heb K N hix hl3 hA hA9 hBB hf1
            | true =>
              cases hf2 : ((g.len : Int) == 0) with
              | false => exact st_00_ft_t_p W op m h g kv kw hs1 hs2 k n e hbin heb K N hix hl3 hA hA9 hBB hf1 hf2
              | true => exact absurd (flat_eq W h (by simpa using hf1)) (by rw [hA, hA9]; decide)
          | false =>
            cases hf1 : ((h.len : Int) == 0) with
            | false => exact st_00_ft_f_n W op m h g kv kw hs1 hs2 k n e hbin heb K N hix hl3 hA hA9 hBB hf1
            | true =>
              cases hf2 : ((g.len : Int) == 0) with
              | false => exact st_00_ft_f_p W op m h g kv kw hs1 hs2 k n e hbin heb K N hix hl3 hA hA9 hBB hf1 hf2
              | true => exact absurd (flat_eq W h (by simpa using hf1)) (by rw [hA, hA9]; decide)
        | false =>
          cases hf1 : ((h.len : Int) == 0) with
          | false => exact st_00_ff_n W op m h g kv kw hs1 hs2 k n e hbin heb K N hix hl3 hA hA9 hf1
          | true =>
            cases hf2 : ((g.len : Int) == 0) with
            | false => exact st_00_ff_p W op m h g kv kw hs1 hs2 k n e hbin heb K N hix hl3 hA hA9 hf1 hf2
            | true => exact st_00_ff_y W op m h g kv kw hs1 hs2 k n e hbin heb K N hix hl3 hA hA9 hf1 hf2
    | true =>
      obtain ⟨rfl, hN⟩ := hB rfl
      have hl2 := leaf_ref hN
      cases hA9 : rightW 39 W h with
      | true =>
        have hA := mono h hA9
        cases hB9 : rightW 39 W g with
        | true =>
          have hBB := mono g hB9
          cases hf1 : ((h.len : Int) == 0) with
          | false => exact st_01_tt_tt_n W op m h g kv kw hs1 hs2 k n e hbin heb 4 N hix hl2 hl3 hA hA9 hBB hB9 hf1
          | true =>
            cases hf2 : ((g.len : Int) == 0) with
            | false => exact st_01_tt_tt_p W op m h g kv kw hs1 hs2 k n e hbin heb 4 N hix hl2 hl3 hA hA9 hBB hB9 hf1 hf2
            | true => exact st_01_tt_tt_y W op m h g kv kw hs1 hs2 k n e hbin heb 4 N hix hl2 hl3 hA hA9 hBB hB9 hf1 hf2
        | false =>
          cases hBB : rightW 40 W g with
          | true =>
            cases hf1 : ((h.len : Int) == 0) with
            | false => exact st_01_tt_ft_n W op m h g kv kw hs1 hs2 k n e hbin heb 4 N hix hl2 hl3 hA hA9 hBB hB9 hf1
            | true =>
              cases hf2 : ((g.len : Int) == 0) with
              | false => exact st_01_tt_ft_p W op m h g kv kw hs1 hs2 k n e hbin heb 4 N hix hl2 hl3 hA hA9 hBB hB9 hf1 hf2
              | true => exact absurd (flat_eq W g (by simpa using hf2)) (by rw [hBB, hB9]; decide)
          | false =>
            cases hf1 : ((h.len : Int) == 0) with
            | false => exact st_01_tt_ff_n W op m h g kv kw hs1 hs2 k n e hbin heb 4 N hix hl2 hl3 hA hA9 hBB hB9 hf1
            | true =>
              cases hf2 : ((g.len : Int) == 0) with
              | false => exact st_01_tt_ff_p W op m h g kv kw hs1 hs2 k n e hbin heb 4 N hix hl2 hl3 hA hA9 hBB hB9 hf1 hf2
              | true => exact st_01_tt_ff_y W op m h g kv kw hs1 hs2 k n e hbin heb 4 N hix hl2 hl3 hA hA9 hBB hB9 hf1 hf2
      | false =>
        cases hA : rightW 40 W h with
        | true =>
          cases hBB : rightW 40 W g with
          | true =>
            cases hf1 : ((h.len : Int) == 0) with
            | false => exact st_01_ft_t_n W op m h g kv kw hs1 hs2 k n e hbin heb 4 N hix hl2 hl3 hA hA9 hBB hf1
            | true =>
              cases hf2 : ((g.len : Int) == 0) with
              | false => exact st_01_ft_t_p W op m h g kv kw hs1 hs2 k n e hbin heb 4 N hix hl2 hl3 hA hA9 hBB hf1 hf2
              | true => exact absurd (flat_eq W h (by simpa using hf1)) (by rw [hA, hA9]; decide)
          | false =>
            cases hf1 : ((h.len : Int) == 0) with
            | false => exact st_01_ft_f_n W op m h g kv kw hs1 hs2 k n e hbin heb 4 N hix hl2 hl3 hA hA9 hBB hf1
            | true =>
              cases hf2 : ((g.len : Int) == 0) with
              | false => exact st_01_ft_f_p W op m h g kv kw hs1 hs2 k n e hbin heb 4 N hix hl2 hl3 hA hA9 hBB hf1 hf2
              | true => exact absurd (flat_eq W h (by simpa using hf1)) (by rw [hA, hA9]; decide)
        | false =>
          cases hf1 : ((h.len : Int) == 0) with
          | false => exact st_01_ff_n W op m h g kv kw hs1 hs2 k n e hbin heb 4 N hix hl2 hl3 hA hA9 hf1
          | true =>
            cases hf2 : ((g.len : Int) == 0) with
            | false => exact st_01_ff_p W op m h g kv kw hs1 hs2 k n e hbin heb 4 N hix hl2 hl3 hA hA9 hf1 hf2
            | true => exact st_01_ff_y W op m h g kv kw hs1 hs2 k n e hbin heb 4 N hix hl2 hl3 hA hA9 hf1 hf2
  | true =>
    have hl1 : LeafOk k n := by
      rcases hbo with h0 | ⟨rfl, h0⟩ | ⟨rfl, h0⟩
      · exact absurd (of_decide_eq_true heb) h0
      · exact leaf_int h0
      · exact leaf_bool h0
    cases B with
    | false =>
      cases hA9 : rightW 39 W h with
      | true =>
        have hA := mono h hA9
        cases hB9 : rightW 39 W g with
        | true =>
          have hBB := mono g hB9
          cases hf1 : ((h.len : Int) == 0) with
          | false => exact st_10_tt_tt_n W op m h g kv kw hs1 hs2 k n e hbin heb hl1 K N hix hl3 hA hA9 hBB hB9 hf1
          | true =>
            cases hf2 : ((g.len : Int) == 0) with
            | false => exact st_10_tt_tt_p W op m h g kv kw hs1 hs2 k n e hbin heb hl1 K N hix hl3 hA hA9 hBB hB9 hf1 hf2
            | true => exact st_10_tt_tt_y W op m h g kv kw hs1 hs2 k n e hbin heb hl1 K N hix hl3 hA hA9 hBB hB9 hf1 hf2
        | false =>
          cases hBB : rightW 40 W g with
          | true =>
            cases hf1 : ((h.len : Int) == 0) with
            | false => exact st_10_tt_ft_n W op m h g kv kw hs1 hs2 k n e hbin heb hl1 K N hix hl3 hA hA9 hBB hB9 hf1
            | true =>
              cases hf2 : ((g.len : Int) == 0) with
              | false => exact st_10_tt_ft_p W op m h g kv kw hs1 hs2 k n e hbin heb hl1 K N hix hl3 hA hA9 hBB hB9 hf1 hf2
              | true => exact absurd (flat_eq W g (by simpa using hf2)) (by rw [hBB, hB9]; decide)
          | false =>
            cases hf1 : ((h.len : Int) == 0) with
            | false => exact st_10_tt_ff_n W op m h g kv kw hs1 hs2 k n e hbin heb hl1 K N hix hl3 hA hA9 hBB hB9 hf1
            | true =>
              cases hf2 : ((g.len : Int) == 0) with
              | false => exact st_10_tt_ff_p W op m h g kv kw hs1 hs2 k n e hbin heb hl1 K N hix hl3 hA hA9 hBB hB9 hf1 hf2
              | true => exact st_10_tt_ff_y W op m h g kv kw hs1 hs2 k n e hbin heb hl1 K N hix hl3 hA hA9 hBB hB9 hf1 hf2
      | false =>
        cases hA : rightW 40 W h with
        | true =>
          cases hBB : rightW 40 W g with
          | true =>
            cases hf1 : ((h.len : Int) == 0) with
            | false => exact st_10_ft_t_n W op m h g kv kw hs1 hs2 k n e hbin heb hl1 K N hix hl3 hA hA9 hBB hf1
            | true =>
              cases hf2 : ((g.len : Int) == 0) with
              | false => exact st_10_ft_t_p W op m h g kv kw hs1 hs2 k n e hbin heb hl1 K N hix hl3 hA hA9 hBB hf1 hf2
              | true => exact absurd (flat_eq W h (by simpa using hf1)) (by rw [hA, hA9]; decide)
          | false =>
            cases hf1 : ((h.len : Int) == 0) with
            | false => exact st_10_ft_f_n W op m h g kv kw hs1 hs2 k n e hbin heb hl1 K N hix hl3 hA hA9 hBB hf1
            | true =>
              cases hf2 : ((g.len : Int) == 0) with
              | false => exact st_10_ft_f_p W op m h g kv kw hs1 hs2 k n e hbin heb hl1 K N hix hl3 hA hA9 hBB hf1 hf2
              | true => exact absurd (flat_eq W h (by simpa using hf1)) (by rw [hA, hA9]; decide)
        | false =>
          cases hf1 : ((h.len : Int) == 0) with
          | false => exact st_10_ff_n W op m h g kv kw hs1 hs2 k n e hbin heb hl1 K N hix hl3 hA hA9 hf1
          | true =>
            cases hf2 : ((g.len : Int) == 0) with
            | false => exact st_10_ff_p W op m h g kv kw hs1 hs2 k n e hbin heb hl1 K N hix hl3 hA hA9 hf1 hf2
            | true => exact st_10_ff_y W op m h g kv kw hs1 hs2 k n e hbin heb hl1 K N hix hl3 hA hA9 hf1 hf2
    | true =>
      obtain ⟨rfl, hN⟩ := hB rfl
      have hl2 := leaf_ref hN
      cases hA9 : rightW 39 W h with
      | true =>
        have hA := mono h hA9
        cases hB9 : rightW 39 W g with
        | true =>
          have hBB := mono g hB9
          cases hf1 : ((h.len : Int) == 0) with
          | false => exact st_11_tt_tt_n W op m h g kv kw hs1 hs2 k n e hbin heb hl1 4 N hix hl2 hl3 hA hA9 hBB hB9 hf1
          | true =>
            cases hf2 : ((g.len : Int) == 0) with
            | false => exact st_11_tt_tt_p W op m h g kv kw hs1 hs2 k n e hbin heb hl1 4 N hix hl2 hl3 hA hA9 hBB hB9 hf1 hf2
            | true => exact st_11_tt_tt_y W op m h g kv kw hs1 hs2 k n e hbin heb hl1 4 N hix hl2 hl3 hA hA9 hBB hB9 hf1 hf2
        | false =>
          cases hBB : rightW 40 W g with
          | true =>
            cases hf1 : ((h.len : Int) == 0) with
            | false => exact st_11_tt_ft_n W op m h g kv kw hs1 hs2 k n e hbin heb hl1 4 N hix hl2 hl3 hA hA9 hBB hB9 hf1
            | true =>
              cases hf2 : ((g.len : Int) == 0) with
              | false => exact st_11_tt_ft_p W op m h g kv kw hs1 hs2 k n e hbin heb hl1 4 N hix hl2 hl3 hA hA9 hBB hB9 hf1 hf2
              | true => exact absurd (flat_eq W g (by simpa using hf2)) (by rw [hBB, hB9]; decide)
          | false =>
            cases hf1 : ((h.len : Int) == 0) with
            | false => exact st_11_tt_ff_n W op m h g kv kw hs1 hs2 k n e hbin heb hl1 4 N hix hl2 hl3 hA hA9 hBB hB9 hf1
            | true =>
              cases hf2 : ((g.len : Int) == 0) with
              | false => exact st_11_tt_ff_p W op m h g kv kw hs1 hs2 k n e hbin heb hl1 4 N hix hl2 hl3 hA hA9 hBB hB9 hf1 hf2
              | true => exact st_11_tt_ff_y W op m h g kv kw hs1 hs2 k n e hbin heb hl1 4 N hix hl2 hl3 hA hA9 hBB hB9 hf1 hf2
      | false =>
        cases hA : rightW 40 W h with
        | true =>
          cases hBB : rightW 40 W g with
          | true =>
            cases hf1 : ((h.len : Int) == 0) with
            | false => exact st_11_ft_t_n W op m h g kv kw hs1 hs2 k n e hbin heb hl1 4 N hix hl2 hl3 hA hA9 hBB hf1
            | true =>
              cases hf2 : ((g.len : Int) == 0) with
              | false => exact st_11_ft_t_p W op m h g kv kw hs1 hs2 k n e hbin heb hl1 4 N hix hl2 hl3 hA hA9 hBB hf1 hf2
              | true => exact absurd (flat_eq W h (by simpa using hf1)) (by rw [hA, hA9]; decide)
          | false =>
            cases hf1 : ((h.len : Int) == 0) with
            | false => exact st_11_ft_f_n W op m h g kv kw hs1 hs2 k n e hbin heb hl1 4 N hix hl2 hl3 hA hA9 hBB hf1
            | true =>
              cases hf2 : ((g.len : Int) == 0) with
              | false => exact st_11_ft_f_p W op m h g kv kw hs1 hs2 k n e hbin heb hl1 4 N hix hl2 hl3 hA hA9 hBB hf1 hf2
              | true => exact absurd (flat_eq W h (by simpa using hf1)) (by rw [hA, hA9]; decide)
        | false =>
          cases hf1 : ((h.len : Int) == 0) with
          | false => exact st_11_ff_n W op m h g kv kw hs1 hs2 k n e hbin heb hl1 4 N hix hl2 hl3 hA hA9 hf1
          | true =>
            cases hf2 : ((g.len : Int) == 0) with
            | false => exact st_11_ff_p W op m h g kv kw hs1 hs2 k n e hbin heb hl1 4 N hix hl2 hl3 hA hA9 hf1 hf2
            | true => exact st_11_ff_y W op m h g kv kw hs1 hs2 k n e hbin heb hl1 4 N hix hl2 hl3 hA hA9 hf1 hf2
end Go.Proofs.YtoijdnlplbeomaaDoor
