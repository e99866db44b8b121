
/-
  Layer 4: the reference: the tokens of a text.
-/
import Derived.Test.YthkgmahkmflfkaaDoorRows
import Derived.Test.YthkgmahkmflfkaaDoorBase
import Derived.Test.YthkgmahkmflfkaaDoorLx8
import Derived.WalkKit
namespace Go.Proofs.YthkgmahkmflfkaaDoor
open Go Go.RowKit SZ
set_option linter.unusedVariables false
set_option linter.unusedSimpArgs false
set_option maxRecDepth 100000
attribute [local irreducible] post GD Nxt NxtAll
noncomputable def rwC : Cfg := ⟨goZ 60 [0] [.code (bodyOf Tryd.f11)], ⟨0, [], []⟩⟩
noncomputable def rw2C (m : Nat) : Cfg := ⟨goZ 200 [1, 0, 0, 0] (.code (bodyL rwC) :: .rnd m (bodyL rwC) :: rwC.k.tail), ⟨0, [], []⟩⟩
noncomputable def rw22 (m : Nat) : List It := goM 60 0 [] (rw2C m).k.tail
noncomputable def rwS (l : List Nat) (v : Value) (a : Nat) : SS := ⟨124, [(0, .v (.string (strOf l))), (4, .v v), (5, .v (.int .i64 (a : Int)))], []⟩
noncomputable def rw2S (l : List Nat) (v : Value) (a : Nat) (k : Int) (n : Nat) : SS := ⟨124, [(0, .v (.string (strOf l))), (4, .v v), (5, .v (.int .i64 (a : Int))), (6, .v (.int .i64 k)), (8, .v (.int .i64 (n : Int)))], []⟩
theorem cls_1 {c : Nat} (h : lettB c = true) : clsN c = 1 := by unfold clsN; rw [h]; rfl
theorem cls_2 {c : Nat} (h1 : lettB c = false) (h : digB c = true) : clsN c = 2 := by unfold clsN; rw [h1, h]; rfl
theorem cls_3 {c : Nat} (h : c = 95) : clsN c = 3 := by subst h; rfl
theorem cls_4 {c : Nat} (h : spcB c = true) : clsN c = 4 := by
  simp only [spcB, Bool.or_eq_true, decide_eq_true_eq] at h
  rcases h with (rfl | rfl) | rfl <;> rfl
theorem cls_0 {c : Nat} (h1 : lettB c = false) (h2 : digB c = false) (h3 : c ≠ 95) (h4 : spcB c = false) : clsN c = 0 := by unfold clsN; rw [h1, h2, h4]; simp [h3]
theorem spc_w {c : Nat} (h : spcB c = true) : lettB c = false ∧ digB c = false := by
  simp only [spcB, Bool.or_eq_true, decide_eq_true_eq] at h
  rcases h with (rfl | rfl) | rfl <;> exact ⟨rfl, rfl⟩
theorem tokL_c (c : Nat) (r : List Nat) : tokL (c :: r) = if lettB c = true then (if ((c :: r).takeWhile wordB).length ≤ 12 then some (1, (c :: r).takeWhile wordB, 0) else none)
    else if digB c = true then (if nOk ((c :: r).takeWhile digB) = true ∧ ((c :: r).drop ((c :: r).takeWhile digB).length).takeWhile wordB = [] then some (2, (c :: r).takeWhile digB, numV ((c :: r).takeWhile digB)) else none)
    else (if fstP (c :: r) sgL = [] then none else some (3, fstP (c :: r) sgL, 0)) := rfl
theorem tok_sg (c : Nat) (r : List Nat) (h1 : lettB c = false) (h2 : digB c = false) : tokL (c :: r) = if fstP (c :: r) sgL = [] then none else some (3, fstP (c :: r) sgL, 0) := by
  rw [tokL_c]
  rw [if_neg (by rw [h1]; decide), if_neg (by rw [h2]; decide)]
theorem let_dig {c : Nat} (h : digB c = true) : lettB c = false := by
  simp only [digB, Bool.and_eq_true, decide_eq_true_eq] at h
  unfold lettB
  simp
  omega
theorem let_word {c : Nat} (h : lettB c = true) : wordB c = true := by unfold wordB; rw [h]; rfl
theorem tok_95 (r : List Nat) : tokL (95 :: r) = none := by
  have h : (fstP (95 :: r) sgL).length = 0 := by
    rw [sgN_is]
    unfold sgN
    have h2 : twoL (95 :: r) ∉ sg2 := by
      unfold twoL
      split
      · cases r with
        | nil => decide
        | cons x r => simp [sg2]
      · decide
    rw [if_neg h2, if_neg (by decide)]
  rw [tok_sg 95 r rfl rfl, if_pos (List.eq_nil_of_length_eq_zero h)]
/-- The text between two offsets. -/
theorem ext_tk {l : List Nat} {a : Nat} {s : List Nat} (h : (l.drop a).take s.length = s) : (strOf l).extract a (a + s.length) = strOf s := by
  rw [strOf_ext, List.drop_take, show a + s.length - a = s.length by omega, h]
theorem cls_w {c : Nat} : wordB c = true → clsN c = 1 ∨ clsN c = 2 ∨ clsN c = 3 := fun h => by
  unfold wordB at h
  cases h1 : lettB c with
  | true => exact Or.inl (cls_1 h1)
  | false =>
    cases h2 : digB c with
    | true => exact Or.inr (Or.inl (cls_2 h1 h2))
    | false => rw [h1, h2] at h; simp at h; exact Or.inr (Or.inr (cls_3 h))
theorem cls_nw {c : Nat} : wordB c = false → clsN c = 0 ∨ clsN c = 4 := fun h => by
  unfold wordB at h
  simp only [Bool.or_eq_false_iff, decide_eq_false_iff_not] at h
  cases h4 : spcB c with
  | true => exact Or.inr (cls_4 h4)
  | false => exact Or.inl (cls_0 h.1.1 h.1.2 h.2 h4)
theorem cls_nd {c : Nat} : digB c = false → clsN c = 0 ∨ clsN c = 1 ∨ clsN c = 3 ∨ clsN c = 4 := fun h => by
  cases h1 : lettB c with
  | true => exact Or.inr (Or.inl (cls_1 h1))
  | false =>
    by_cases h3 : c = 95
    · exact Or.inr (Or.inr (Or.inl (cls_3 h3)))
    · cases h4 : spcB c with
      | true => exact Or.inr (Or.inr (Or.inr (cls_4 h4)))
      | false => exact Or.inl (cls_0 h1 h h3 h4)
theorem tw_at {K : Nat → Bool} {l : List Nat} {a j : Nat} (haj : a ≤ j) (hj : j ≤ l.length) (hall : ∀ i, a ≤ i → i < j → K (l.getD i 0) = true) (hend : j = l.length ∨ K (l.getD j 0) = false) : ((l.drop a).takeWhile K).length = j - a := by
  have hg : ∀ i, (l.drop a).getD i 0 = l.getD (a + i) 0 := fun i => by simp [List.getD, List.getElem?_drop]
  rw [tw_eq K (l.drop a) (j - a) (fun i hi => by rw [hg]; exact hall _ (by omega) (by omega)) (by rw [List.length_drop]; omega) (by
    rcases hend with h | h
    · left; rw [List.length_drop]; omega
    · right; rw [hg, show a + (j - a) = j by omega]; exact h), List.length_take, List.length_drop]
  omega
set_option maxHeartbeats 8000000 in
theorem rw_e (w0 : World) (l : List Nat) (hl : ∀ b ∈ l, b < 256) (hl3 : l.length ≤ 3000) (m a : Nat) (hal : ¬a < l.length) (v : Value) (acc : List Tk) (hn : (acc).length ≤ a) (ha : a ≤ l.length) (hR : lexW l 0 = (lexW (l.drop (a)) (a)).map fun q => (acc) ++ q) (aa : Act) (w : World) (S : Sy w0 [] [] (rwS l v (a)) [rfOwn w0.heap.size 30 4 v (acc).length (tkC (acc))] aa w) : post Tryd.prog (.rnd (m + 1) (bodyL rwC) :: rwC.k.tail) (bodyPost Tryd.prog Tryd.f11 (wdP w0 (lexW l 0))) .normal aa w := by
  have hRs : lexW l 0 = some acc := by
    rw [hR, show a = l.length by omega, List.drop_length]
    show (some []).map _ = _
    simp
  refine sy_run (c := ⟨(.rnd (m + 1) (bodyL rwC) :: rwC.k.tail), rwS l v a⟩) ⟨0, [5]⟩ 50 S fun bs aa w S => ?_
  refine sy_reg S fun S => ?_
  refine sy_ops 3 S fun bs aa w S => ?_
  refine sy_cast 17 S (congrArg (Value.int .i64) (by rw [strOf_size] : ((strOf l).size : Int) = (l.length : Int))) (by kernel_rfl) fun S => ?_
  refine sy_ops 1 S fun bs aa w S => ?_
  refine sy_cast 18 S (congrArg Value.bool (decide_eq_false (by omega) : decide ((a : Int) < (l.length : Int)) = false)) (by kernel_rfl) fun S => ?_
  refine sy_run ⟨0, []⟩ 60 S fun bs aa w S => ?_
  have how : w.ownsRow w0.heap.size 30 4 v acc.length (tkC acc) := S.fact (f := rfOwn w0.heap.size 30 4 v (acc).length (tkC (acc))) (by simp)
  rw [hRs]
  exact sy_ret S (by kernel_rfl) (by kernel_rfl) fun hg => ⟨⟨v, rfl, how⟩, bel_gr hg⟩
set_option maxHeartbeats 8000000 in
theorem rw_k1 (w0 : World) (l : List Nat) (hl : ∀ b ∈ l, b < 256) (hl3 : l.length ≤ 3000) (m a : Nat) (hal : a < l.length) (v : Value) (acc : List Tk) (hn : (acc).length ≤ a) (ha : a ≤ l.length) (hR : lexW l 0 = (lexW (l.drop (a)) (a)).map fun q => (acc) ++ q) (ih : ∀ (v2 : Value) (a2 : Nat) (acc2 : List Tk) (hlt : a < a2) (hn : (acc2).length ≤ a2) (ha : a2 ≤ l.length) (hR : lexW l 0 = (lexW (l.drop (a2)) (a2)).map fun q => (acc2) ++ q) (aa : Act) (w : World) (S : Sy w0 [] [] (rwS l v2 (a2)) [rfOwn w0.heap.size 30 4 v2 (acc2).length (tkC (acc2))] aa w), post Tryd.prog (.rnd (m) (bodyL rwC) :: rwC.k.tail) (bodyPost Tryd.prog Tryd.f11 (wdP w0 (lexW l 0))) .normal aa w) (hk : lettB (l.getD a 0) = true) (j : Nat) (hj1 : a < j) (hj : j ≤ l.length) (hall : ∀ i, a ≤ i → i < j → wordB (l.getD i 0) = true) (hend : j = l.length ∨ wordB (l.getD j 0) = false) (aa : Act) (w : World) (S : Sy w0 [] [] (rw2S l v a 1 j) [rfOwn w0.heap.size 30 4 v (acc).length (tkC (acc))] aa w) : post Tryd.prog (rw22 m) (bodyPost Tryd.prog Tryd.f11 (wdP w0 (lexW l 0))) .normal aa w := by
  obtain ⟨c0, r, hdr⟩ : ∃ c0 r, l.drop a = c0 :: r := ⟨l[a], l.drop (a + 1), List.drop_eq_getElem_cons hal⟩
  have hc0 : l.getD a 0 = c0 := by
    have h := List.drop_eq_getElem_cons hal
    rw [hdr] at h
    injection h with h1 h2
    rw [h1]
    simp [List.getD, List.getElem?_eq_getElem hal]
  rw [hc0] at hk
  have htw := tw_at (K := wordB) (Nat.le_of_lt hj1) hj hall hend
  obtain ⟨W, hW⟩ : ∃ W, (l.drop a).takeWhile wordB = W := ⟨_, rfl⟩
  have hpre : (l.drop a).take W.length = W := by rw [← hW]; exact tw_pre _ _
  have hWm : ∀ b ∈ W, b ∈ l ∧ wordB b = true := fun b hb => by
    rw [← hW] at hb
    have h := mem_tw hb
    exact ⟨List.mem_of_mem_drop h.1, h.2⟩
  rw [hW] at htw
  obtain rfl : j = a + W.length := by omega
  have hW256 : ∀ b ∈ W, b < 256 := fun b hb => hl b (hWm b hb).1
  rw [hdr] at hW
  have hsp : spcB c0 = false := by
    cases h : spcB c0 with
    | true => have h2 := spc_w h; rw [h2.1] at hk; cases hk
    | false => rfl
  have hR2 := hR
  rw [hdr, lexW_tok hsp] at hR2
  refine sy_run (c := ⟨rw22 m, rw2S l v a 1 (a + W.length)⟩) ⟨0, [22]⟩ 60 S fun bs aa w S => ?_
  refine sy_reg S fun S => ?_
  refine sy_ops 4 S fun bs aa w S => ?_
  refine sy_ex (op := .slice 9 (.tmp 77) (some (.tmp 78)) (some (.tmp 79)) none) (ty := 9) (v := .string ((strOf l).extract a (a + W.length))) S (by kernel_rfl) (ex_slS (l2 := some (.v (.int .i64 (a : Int)))) (h2 := some (.v (.int .i64 (((a + W.length) : Nat) : Int)))) Tryd.underlying9 (by kernel_rfl) (by kernel_rfl) (by kernel_rfl) (fun W9 => slS_b (strOf l) a (a + W.length) (by omega) (by rw [strOf_size]; omega) W9)) fun aa S => ?_
  refine sy_cast 80 S (congrArg Value.string (ext_tk hpre)) (by kernel_rfl) fun S => ?_
  refine sy_run ⟨0, [23]⟩ 60 S fun bs aa w S => ?_
  refine sy_reg S fun S => ?_
  refine sy_ops 6 S fun bs aa w S => ?_
  refine sy_cast 88 S (congrArg (Value.int .i64) (by rw [IntKind.wrap_i64]; omega : IntKind.i64.wrap (((a + W.length : Nat) : Int) - (a : Int)) = (W.length : Int))) (by kernel_rfl) fun S => ?_
  refine sy_ops 1 S fun bs aa w S => ?_
  by_cases h12 : W.length ≤ 12
  · have htk : tokL (c0 :: r) = some (1, W, 0) := by
      rw [tokL_c]
      rw [if_pos hk, hW, if_pos h12]
    rw [htk] at hR2
    have hR2 : lexW l 0 = ((lexW ((c0 :: r).drop W.length) (a + W.length)).map fun q => (1, W, 0, a) :: q).map fun q => acc ++ q := hR2
    refine sy_cast 89 S (congrArg Value.bool (decide_eq_false (by omega) : decide ((W.length : Int) > 12) = false)) (by kernel_rfl) fun S => ?_
    refine sy_run ⟨0, [32]⟩ 60 S fun bs aa w S => ?_
    refine sy_reg S fun S => ?_
    refine sy_ops 3 S fun bs aa w S => ?_
    refine sy_nm S fun bs S => ?_
    obtain ⟨ii, hi1, hi2, hi3, hi4⟩ := parts3 infTok
    have how : w.ownsRow w0.heap.size 30 4 v acc.length (tkC acc) := S.fact (f := rfOwn w0.heap.size 30 4 v (acc).length (tkC (acc))) (by simp)
    have hapb := (S.fs (rfOwn w0.heap.size 30 4 v (acc).length (tkC (acc))) (by simp)).2
    have hblk : ∀ j, j < bs.length → bs.getD j 0 < w.heap.size := fun j hj => S.lt hj
    refine sy_appO w0.heap.size (u := .v v) (y := .s 1 0 1 1) (v := v) (ad := adr bs 1 0) (m := 1) (cp := 1) (n := acc.length) (size := 4) (bytes := 40) (e := 30) (t := 23) (xs := tkC acc) (news := [.int .i64 1, .string (strOf W), .int .i64 0, .int .i64 (a : Int)]) [] S (by kernel_rfl) Tryd.underlying23 hi1 hi2 hi3 hi4 rfl (by omega) rfl rfl how S.gr.size (own3 (P := Tryd.prog) (ty := 30) (cs := [.int .i64 1, .string (strOf W), .int .i64 0, .int .i64 (a : Int)]) S 1 (by kernel_rfl)) rfl (by intro u hu; simp only [List.mem_cons, List.not_mem_nil, or_false] at hu; rcases hu with rfl | rfl | rfl | rfl <;> rfl) (by simp only [maxLen]; omega) (by omega)
      (fun g hg => Or.inr (how.lt g hg).1) (fun f hf => by cases hf) (fun j hj hb => hapb j hj hb)
      fun v' aa w2 hO hg' hnn S => ?_
    have S := S.add (rfOwn w0.heap.size 30 4 v' (acc ++ [(1, W, 0, a)]).length (tkC (acc ++ [(1, W, 0, a)]))) (by rw [tkC_snoc, List.length_append]; exact hO) (fun j hj hb => (hnn _ hb).elim (fun q => hapb j hj q) (fun q => by have := hblk j hj; omega))
    refine sy_run ⟨0, [999]⟩ 50 S fun bs aa w S => ?_
    have S := S.sub (F' := [rfOwn w0.heap.size 30 4 v' (acc ++ [(1, W, 0, a)]).length (tkC (acc ++ [(1, W, 0, a)]))]) (by intro f hf; simp only [List.mem_cons, List.not_mem_nil, or_false] at hf; rcases hf with rfl <;> simp)
    have S2 := S.to [] (rwS l v' (a + W.length)) (by kernel_rfl) (by kernel_rfl) (by kernel_rfl) (by kernel_rfl) (by kernel_rfl)
    refine sy_at2 (k' := (.rnd (m) (bodyL rwC) :: rwC.k.tail)) (by kernel_rfl) ?_
    exact ih v' (a + W.length) (acc ++ [(1, W, 0, a)]) (by omega) (by rw [List.length_append, List.length_singleton]; omega) hj (by rw [hR2, map_snoc, ← hdr, List.drop_drop]) aa w S2
  · have htk : tokL (c0 :: r) = none := by
      rw [tokL_c]
      rw [if_pos hk, hW, if_neg h12]
    rw [htk] at hR2
    have hRn : lexW l 0 = none := hR2
    refine sy_cast 89 S (congrArg Value.bool (decide_eq_true (by omega) : decide ((W.length : Int) > 12) = true)) (by kernel_rfl) fun S => ?_
    refine sy_run ⟨0, []⟩ 60 S fun bs aa w S => ?_
    rw [hRn]
    exact sy_ret S (by kernel_rfl) (by kernel_rfl) fun hg => ⟨⟨_, rfl, own_nil _ _⟩, bel_gr hg⟩
set_option maxHeartbeats 8000000 in
theorem rw_k2 (w0 : World) (l : List Nat) (hl : ∀ b ∈ l, b < 256) (hl3 : l.length ≤ 3000) (m a : Nat) (hal : a < l.length) (v : Value) (acc : List Tk) (hn : (acc).length ≤ a) (ha : a ≤ l.length) (hR : lexW l 0 = (lexW (l.drop (a)) (a)).map fun q => (acc) ++ q) (ih : ∀ (v2 : Value) (a2 : Nat) (acc2 : List Tk) (hlt : a < a2) (hn : (acc2).length ≤ a2) (ha : a2 ≤ l.length) (hR : lexW l 0 = (lexW (l.drop (a2)) (a2)).map fun q => (acc2) ++ q) (aa : Act) (w : World) (S : Sy w0 [] [] (rwS l v2 (a2)) [rfOwn w0.heap.size 30 4 v2 (acc2).length (tkC (acc2))] aa w), post Tryd.prog (.rnd (m) (bodyL rwC) :: rwC.k.tail) (bodyPost Tryd.prog Tryd.f11 (wdP w0 (lexW l 0))) .normal aa w) (hk : (lettB (l.getD a 0) = false ∧ digB (l.getD a 0) = true)) (j : Nat) (hj1 : a < j) (hj : j ≤ l.length) (hall : ∀ i, a ≤ i → i < j → digB (l.getD i 0) = true) (hend : j = l.length ∨ digB (l.getD j 0) = false) (aa : Act) (w : World) (S : Sy w0 [] [] (rw2S l v a 2 j) [rfOwn w0.heap.size 30 4 v (acc).length (tkC (acc))] aa w) : post Tryd.prog (rw22 m) (bodyPost Tryd.prog Tryd.f11 (wdP w0 (lexW l 0))) .normal aa w := by
  obtain ⟨c0, r, hdr⟩ : ∃ c0 r, l.drop a = c0 :: r := ⟨l[a], l.drop (a + 1), List.drop_eq_getElem_cons hal⟩
  have hc0 : l.getD a 0 = c0 := by
    have h := List.drop_eq_getElem_cons hal
    rw [hdr] at h
    injection h with h1 h2
    rw [h1]
    simp [List.getD, List.getElem?_eq_getElem hal]
  rw [hc0] at hk
  have htw := tw_at (K := digB) (Nat.le_of_lt hj1) hj hall hend
  obtain ⟨W, hW⟩ : ∃ W, (l.drop a).takeWhile digB = W := ⟨_, rfl⟩
  have hpre : (l.drop a).take W.length = W := by rw [← hW]; exact tw_pre _ _
  have hWm : ∀ b ∈ W, b ∈ l ∧ digB b = true := fun b hb => by
    rw [← hW] at hb
    have h := mem_tw hb
    exact ⟨List.mem_of_mem_drop h.1, h.2⟩
  rw [hW] at htw
  obtain rfl : j = a + W.length := by omega
  have hW256 : ∀ b ∈ W, b < 256 := fun b hb => hl b (hWm b hb).1
  rw [hdr] at hW
  have hsp : spcB c0 = false := by
    cases h : spcB c0 with
    | true => have h2 := spc_w h; rw [h2.2] at hk; cases hk.2
    | false => rfl
  have hR2 := hR
  rw [hdr, lexW_tok hsp] at hR2
  refine sy_run (c := ⟨rw22 m, rw2S l v a 2 (a + W.length)⟩) ⟨0, [22]⟩ 60 S fun bs aa w S => ?_
  refine sy_reg S fun S => ?_
  refine sy_ops 4 S fun bs aa w S => ?_
  refine sy_ex (op := .slice 9 (.tmp 77) (some (.tmp 78)) (some (.tmp 79)) none) (ty := 9) (v := .string ((strOf l).extract a (a + W.length))) S (by kernel_rfl) (ex_slS (l2 := some (.v (.int .i64 (a : Int)))) (h2 := some (.v (.int .i64 (((a + W.length) : Nat) : Int)))) Tryd.underlying9 (by kernel_rfl) (by kernel_rfl) (by kernel_rfl) (fun W9 => slS_b (strOf l) a (a + W.length) (by omega) (by rw [strOf_size]; omega) W9)) fun aa S => ?_
  refine sy_cast 80 S (congrArg Value.string (ext_tk hpre)) (by kernel_rfl) fun S => ?_
  refine sy_run ⟨0, [26]⟩ 60 S fun bs aa w S => ?_
  refine sy_reg S fun S => ?_
  refine sy_ops 3 S fun bs aa w S => ?_
  refine sy_ex (op := .slice 9 (.tmp 93) (some (.tmp 94)) (some (.tmp 95)) none) (ty := 9) (v := .string ((strOf l).extract a (a + W.length))) S (by kernel_rfl) (ex_slS (l2 := some (.v (.int .i64 (a : Int)))) (h2 := some (.v (.int .i64 (((a + W.length) : Nat) : Int)))) Tryd.underlying9 (by kernel_rfl) (by kernel_rfl) (by kernel_rfl) (fun W9 => slS_b (strOf l) a (a + W.length) (by omega) (by rw [strOf_size]; omega) W9)) fun aa S => ?_
  refine sy_cast 96 S (congrArg Value.string (ext_tk hpre)) (by kernel_rfl) fun S => ?_
  cases hok0 : nOk W with
  | false =>
    have hok : ¬nOk W = true := by rw [hok0]; decide
    refine sy_call1 S (by have q := rnum_t w W hW256 (fun b hb => (hWm b hb).2) (by omega); rw [if_neg hok] at q; exact q) (by kernel_rfl) fun aa w hb S => ?_
    have htk : tokL (c0 :: r) = none := by
      rw [tokL_c]
      rw [if_neg (by rw [hk.1]; decide), if_pos hk.2, hW, if_neg (fun q => hok q.1)]
    rw [htk] at hR2
    have hRn : lexW l 0 = none := hR2
    refine sy_run ⟨0, [28]⟩ 60 S fun bs aa w S => ?_
    refine sy_reg S fun S => ?_
    refine sy_ops 3 S fun bs aa w S => ?_
    refine sy_cast 101 S (congrArg (Value.int .i64) (by rw [strOf_size] : ((strOf l).size : Int) = (l.length : Int))) (by kernel_rfl) fun S => ?_
    refine sy_ops 1 S fun bs aa w S => ?_
    by_cases hq : a + W.length < l.length
    · refine sy_cast 102 S (congrArg Value.bool (decide_eq_true (by omega) : decide (((a + W.length : Nat) : Int) < (l.length : Int)) = true)) (by kernel_rfl) fun S => ?_
      refine sy_run ⟨0, [29]⟩ 60 S fun bs aa w S => ?_
      refine sy_reg S fun S => ?_
      refine sy_ops 2 S fun bs aa w S => ?_
      refine sy_ex (op := .index 9 (.tmp 103) (.tmp 104)) (ty := 5) (v := .int .u8 ((l.getD (a + W.length) 0 : Nat) : Int)) S (by kernel_rfl) (ex_ixl (k := (a + W.length)) Tryd.underlying9 (by kernel_rfl) (by kernel_rfl) hl (hq)) fun aa S => ?_
      refine sy_call1 S (cls_t (l.getD (a + W.length) 0) w) (by kernel_rfl) fun aa w hb S => ?_
      refine sy_run ⟨0, []⟩ 60 S fun bs aa w S => ?_
      rw [hRn]
      exact sy_ret S (by kernel_rfl) (by kernel_rfl) fun hg => ⟨⟨_, rfl, own_nil _ _⟩, bel_gr hg⟩
    · refine sy_cast 102 S (congrArg Value.bool (decide_eq_false (by omega) : decide (((a + W.length : Nat) : Int) < (l.length : Int)) = false)) (by kernel_rfl) fun S => ?_
      refine sy_run ⟨0, []⟩ 60 S fun bs aa w S => ?_
      rw [hRn]
      exact sy_ret S (by kernel_rfl) (by kernel_rfl) fun hg => ⟨⟨_, rfl, own_nil _ _⟩, bel_gr hg⟩
  | true =>
    have hok : nOk W = true := hok0
    refine sy_call1 S (by have q := rnum_t w W hW256 (fun b hb => (hWm b hb).2) (by omega); rw [if_pos hok] at q; exact q) (by kernel_rfl) fun aa w hb S => ?_
    have hrest : (c0 :: r).drop W.length = l.drop (a + W.length) := by rw [← hdr, List.drop_drop]
    refine sy_run ⟨0, [28]⟩ 60 S fun bs aa w S => ?_
    refine sy_reg S fun S => ?_
    refine sy_ops 3 S fun bs aa w S => ?_
    refine sy_cast 101 S (congrArg (Value.int .i64) (by rw [strOf_size] : ((strOf l).size : Int) = (l.length : Int))) (by kernel_rfl) fun S => ?_
    refine sy_ops 1 S fun bs aa w S => ?_
    by_cases hq : a + W.length < l.length
    · have hne : (l.drop (a + W.length)) = l[a + W.length] :: l.drop (a + W.length + 1) := List.drop_eq_getElem_cons hq
      have hge : l.getD (a + W.length) 0 = l[a + W.length] := by simp [List.getD, List.getElem?_eq_getElem hq]
      have hde : digB (l.getD (a + W.length) 0) = false := hend.resolve_left (by omega)
      refine sy_cast 102 S (congrArg Value.bool (decide_eq_true (by omega) : decide (((a + W.length : Nat) : Int) < (l.length : Int)) = true)) (by kernel_rfl) fun S => ?_
      refine sy_run ⟨0, [29]⟩ 60 S fun bs aa w S => ?_
      refine sy_reg S fun S => ?_
      refine sy_ops 2 S fun bs aa w S => ?_
      refine sy_ex (op := .index 9 (.tmp 103) (.tmp 104)) (ty := 5) (v := .int .u8 ((l.getD (a + W.length) 0 : Nat) : Int)) S (by kernel_rfl) (ex_ixl (k := (a + W.length)) Tryd.underlying9 (by kernel_rfl) (by kernel_rfl) hl (hq)) fun aa S => ?_
      have hcs := cls_nd hde
      by_cases hw : wordB (l.getD (a + W.length) 0) = true
      · have hcw : clsN (l.getD (a + W.length) 0) = 1 ∨ clsN (l.getD (a + W.length) 0) = 3 := by
          rcases cls_w hw with h | h | h
          · exact Or.inl h
          · rcases hcs with h2 | h2 | h2 | h2 <;> omega
          · exact Or.inr h
        have htk : tokL (c0 :: r) = none := by
          rw [tokL_c]
          rw [if_neg (by rw [hk.1]; decide), if_pos hk.2, hW, if_neg (fun q => by have q2 := q.2; rw [hrest, hne, List.takeWhile_cons, ← hge, hw] at q2; cases q2)]
        rw [htk] at hR2
        have hRn : lexW l 0 = none := hR2
        rcases hcw with h | h
        · refine sy_call1 S (by have q := cls_t (l.getD (a + W.length) 0) w; rw [h] at q; exact q) (by kernel_rfl) fun aa w hb S => ?_
          refine sy_run ⟨0, [30]⟩ 60 S fun bs aa w S => ?_
          refine sy_reg S fun S => ?_
          refine sy_ops 3 S fun bs aa w S => ?_
          refine sy_cast 109 S (congrArg Value.bool (decide_eq_false (by omega) : decide ((numV W : Int) < 0) = false)) (by kernel_rfl) fun S => ?_
          refine sy_run ⟨0, []⟩ 60 S fun bs aa w S => ?_
          rw [hRn]
          exact sy_ret S (by kernel_rfl) (by kernel_rfl) fun hg => ⟨⟨_, rfl, own_nil _ _⟩, bel_gr hg⟩
        · refine sy_call1 S (by have q := cls_t (l.getD (a + W.length) 0) w; rw [h] at q; exact q) (by kernel_rfl) fun aa w hb S => ?_
          refine sy_run ⟨0, [30]⟩ 60 S fun bs aa w S => ?_
          refine sy_reg S fun S => ?_
          refine sy_ops 3 S fun bs aa w S => ?_
          refine sy_cast 109 S (congrArg Value.bool (decide_eq_false (by omega) : decide ((numV W : Int) < 0) = false)) (by kernel_rfl) fun S => ?_
          refine sy_run ⟨0, []⟩ 60 S fun bs aa w S => ?_
          rw [hRn]
          exact sy_ret S (by kernel_rfl) (by kernel_rfl) fun hg => ⟨⟨_, rfl, own_nil _ _⟩, bel_gr hg⟩
      · have hw : wordB (l.getD (a + W.length) 0) = false := by simpa using hw
        have htk : tokL (c0 :: r) = some (2, W, numV W) := by
          rw [tokL_c]
          rw [if_neg (by rw [hk.1]; decide), if_pos hk.2, hW, if_pos ⟨hok, by rw [hrest, hne, List.takeWhile_cons, ← hge, hw]; rfl⟩]
        rw [htk] at hR2
        have hR2 : lexW l 0 = ((lexW ((c0 :: r).drop W.length) (a + W.length)).map fun q => (2, W, numV W, a) :: q).map fun q => acc ++ q := hR2
        rcases cls_nw hw with h | h
        · refine sy_call1 S (by have q := cls_t (l.getD (a + W.length) 0) w; rw [h] at q; exact q) (by kernel_rfl) fun aa w hb S => ?_
          refine sy_run ⟨0, [30]⟩ 60 S fun bs aa w S => ?_
          refine sy_reg S fun S => ?_
          refine sy_ops 3 S fun bs aa w S => ?_
          refine sy_cast 109 S (congrArg Value.bool (decide_eq_false (by omega) : decide ((numV W : Int) < 0) = false)) (by kernel_rfl) fun S => ?_
          refine sy_run ⟨0, [32]⟩ 60 S fun bs aa w S => ?_
          refine sy_reg S fun S => ?_
          refine sy_ops 3 S fun bs aa w S => ?_
          refine sy_nm S fun bs S => ?_
          obtain ⟨ii, hi1, hi2, hi3, hi4⟩ := parts3 infTok
          have how : w.ownsRow w0.heap.size 30 4 v acc.length (tkC acc) := S.fact (f := rfOwn w0.heap.size 30 4 v (acc).length (tkC (acc))) (by simp)
          have hapb := (S.fs (rfOwn w0.heap.size 30 4 v (acc).length (tkC (acc))) (by simp)).2
          have hblk : ∀ j, j < bs.length → bs.getD j 0 < w.heap.size := fun j hj => S.lt hj
          refine sy_appO w0.heap.size (u := .v v) (y := .s 1 0 1 1) (v := v) (ad := adr bs 1 0) (m := 1) (cp := 1) (n := acc.length) (size := 4) (bytes := 40) (e := 30) (t := 23) (xs := tkC acc) (news := [.int .i64 2, .string (strOf W), .int .i64 (numV W : Int), .int .i64 (a : Int)]) [] S (by kernel_rfl) Tryd.underlying23 hi1 hi2 hi3 hi4 rfl (by omega) rfl rfl how S.gr.size (own3 (P := Tryd.prog) (ty := 30) (cs := [.int .i64 2, .string (strOf W), .int .i64 (numV W : Int), .int .i64 (a : Int)]) S 1 (by kernel_rfl)) rfl (by intro u hu; simp only [List.mem_cons, List.not_mem_nil, or_false] at hu; rcases hu with rfl | rfl | rfl | rfl <;> rfl) (by simp only [maxLen]; omega) (by omega)
            (fun g hg => Or.inr (how.lt g hg).1) (fun f hf => by cases hf) (fun j hj hb => hapb j hj hb)
            fun v' aa w2 hO hg' hnn S => ?_
          have S := S.add (rfOwn w0.heap.size 30 4 v' (acc ++ [(2, W, numV W, a)]).length (tkC (acc ++ [(2, W, numV W, a)]))) (by rw [tkC_snoc, List.length_append]; exact hO) (fun j hj hb => (hnn _ hb).elim (fun q => hapb j hj q) (fun q => by have := hblk j hj; omega))
          refine sy_run ⟨0, [999]⟩ 50 S fun bs aa w S => ?_
          have S := S.sub (F' := [rfOwn w0.heap.size 30 4 v' (acc ++ [(2, W, numV W, a)]).length (tkC (acc ++ [(2, W, numV W, a)]))]) (by intro f hf; simp only [List.mem_cons, List.not_mem_nil, or_false] at hf; rcases hf with rfl <;> simp)
          have S2 := S.to [] (rwS l v' (a + W.length)) (by kernel_rfl) (by kernel_rfl) (by kernel_rfl) (by kernel_rfl) (by kernel_rfl)
          refine sy_at2 (k' := (.rnd (m) (bodyL rwC) :: rwC.k.tail)) (by kernel_rfl) ?_
          exact ih v' (a + W.length) (acc ++ [(2, W, numV W, a)]) (by omega) (by rw [List.length_append, List.length_singleton]; omega) hj (by rw [hR2, map_snoc, ← hdr, List.drop_drop]) aa w S2
        · refine sy_call1 S (by have q := cls_t (l.getD (a + W.length) 0) w; rw [h] at q; exact q) (by kernel_rfl) fun aa w hb S => ?_
          refine sy_run ⟨0, [30]⟩ 60 S fun bs aa w S => ?_
          refine sy_reg S fun S => ?_
          refine sy_ops 3 S fun bs aa w S => ?_
          refine sy_cast 109 S (congrArg Value.bool (decide_eq_false (by omega) : decide ((numV W : Int) < 0) = false)) (by kernel_rfl) fun S => ?_
          refine sy_run ⟨0, [32]⟩ 60 S fun bs aa w S => ?_
          refine sy_reg S fun S => ?_
          refine sy_ops 3 S fun bs aa w S => ?_
          refine sy_nm S fun bs S => ?_
          obtain ⟨ii, hi1, hi2, hi3, hi4⟩ := parts3 infTok
          have how : w.ownsRow w0.heap.size 30 4 v acc.length (tkC acc) := S.fact (f := rfOwn w0.heap.size 30 4 v (acc).length (tkC (acc))) (by simp)
          have hapb := (S.fs (rfOwn w0.heap.size 30 4 v (acc).length (tkC (acc))) (by simp)).2
          have hblk : ∀ j, j < bs.length → bs.getD j 0 < w.heap.size := fun j hj => S.lt hj
          refine sy_appO w0.heap.size (u := .v v) (y := .s 1 0 1 1) (v := v) (ad := adr bs 1 0) (m := 1) (cp := 1) (n := acc.length) (size := 4) (bytes := 40) (e := 30) (t := 23) (xs := tkC acc) (news := [.int .i64 2, .string (strOf W), .int .i64 (numV W : Int), .int .i64 (a : Int)]) [] S (by kernel_rfl) Tryd.underlying23 hi1 hi2 hi3 hi4 rfl (by omega) rfl rfl how S.gr.size (own3 (P := Tryd.prog) (ty := 30) (cs := [.int .i64 2, .string (strOf W), .int .i64 (numV W : Int), .int .i64 (a : Int)]) S 1 (by kernel_rfl)) rfl (by intro u hu; simp only [List.mem_cons, List.not_mem_nil, or_false] at hu; rcases hu with rfl | rfl | rfl | rfl <;> rfl) (by simp only [maxLen]; omega) (by omega)
            (fun g hg => Or.inr (how.lt g hg).1) (fun f hf => by cases hf) (fun j hj hb => hapb j hj hb)
            fun v' aa w2 hO hg' hnn S => ?_
          have S := S.add (rfOwn w0.heap.size 30 4 v' (acc ++ [(2, W, numV W, a)]).length (tkC (acc ++ [(2, W, numV W, a)]))) (by rw [tkC_snoc, List.length_append]; exact hO) (fun j hj hb => (hnn _ hb).elim (fun q => hapb j hj q) (fun q => by have := hblk j hj; omega))
          refine sy_run ⟨0, [999]⟩ 50 S fun bs aa w S => ?_
          have S := S.sub (F' := [rfOwn w0.heap.size 30 4 v' (acc ++ [(2, W, numV W, a)]).length (tkC (acc ++ [(2, W, numV W, a)]))]) (by intro f hf; simp only [List.mem_cons, List.not_mem_nil, or_false] at hf; rcases hf with rfl <;> simp)
          have S2 := S.to [] (rwS l v' (a + W.length)) (by kernel_rfl) (by kernel_rfl) (by kernel_rfl) (by kernel_rfl) (by kernel_rfl)
          refine sy_at2 (k' := (.rnd (m) (bodyL rwC) :: rwC.k.tail)) (by kernel_rfl) ?_
          exact ih v' (a + W.length) (acc ++ [(2, W, numV W, a)]) (by omega) (by rw [List.length_append, List.length_singleton]; omega) hj (by rw [hR2, map_snoc, ← hdr, List.drop_drop]) aa w S2
    · refine sy_cast 102 S (congrArg Value.bool (decide_eq_false (by omega) : decide (((a + W.length : Nat) : Int) < (l.length : Int)) = false)) (by kernel_rfl) fun S => ?_
      have htk : tokL (c0 :: r) = some (2, W, numV W) := by
        rw [tokL_c]
        rw [if_neg (by rw [hk.1]; decide), if_pos hk.2, hW, if_pos ⟨hok, by rw [hrest, List.drop_eq_nil_of_le (by omega)]; rfl⟩]
      rw [htk] at hR2
      have hR2 : lexW l 0 = ((lexW ((c0 :: r).drop W.length) (a + W.length)).map fun q => (2, W, numV W, a) :: q).map fun q => acc ++ q := hR2
      refine sy_run ⟨0, [30]⟩ 60 S fun bs aa w S => ?_
      refine sy_reg S fun S => ?_
      refine sy_ops 3 S fun bs aa w S => ?_
      refine sy_cast 109 S (congrArg Value.bool (decide_eq_false (by omega) : decide ((numV W : Int) < 0) = false)) (by kernel_rfl) fun S => ?_
      refine sy_run ⟨0, [32]⟩ 60 S fun bs aa w S => ?_
      refine sy_reg S fun S => ?_
      refine sy_ops 3 S fun bs aa w S => ?_
      refine sy_nm S fun bs S => ?_
      obtain ⟨ii, hi1, hi2, hi3, hi4⟩ := parts3 infTok
      have how : w.ownsRow w0.heap.size 30 4 v acc.length (tkC acc) := S.fact (f := rfOwn w0.heap.size 30 4 v (acc).length (tkC (acc))) (by simp)
      have hapb := (S.fs (rfOwn w0.heap.size 30 4 v (acc).length (tkC (acc))) (by simp)).2
      have hblk : ∀ j, j < bs.length → bs.getD j 0 < w.heap.size := fun j hj => S.lt hj
      refine sy_appO w0.heap.size (u := .v v) (y := .s 1 0 1 1) (v := v) (ad := adr bs 1 0) (m := 1) (cp := 1) (n := acc.length) (size := 4) (bytes := 40) (e := 30) (t := 23) (xs := tkC acc) (news := [.int .i64 2, .string (strOf W), .int .i64 (numV W : Int), .int .i64 (a : Int)]) [] S (by kernel_rfl) Tryd.underlying23 hi1 hi2 hi3 hi4 rfl (by omega) rfl rfl how S.gr.size (own3 (P := Tryd.prog) (ty := 30) (cs := [.int .i64 2, .string (strOf W), .int .i64 (numV W : Int), .int .i64 (a : Int)]) S 1 (by kernel_rfl)) rfl (by intro u hu; simp only [List.mem_cons, List.not_mem_nil, or_false] at hu; rcases hu with rfl | rfl | rfl | rfl <;> rfl) (by simp only [maxLen]; omega) (by omega)
        (fun g hg => Or.inr (how.lt g hg).1) (fun f hf => by cases hf) (fun j hj hb => hapb j hj hb)
        fun v' aa w2 hO hg' hnn S => ?_
      have S := S.add (rfOwn w0.heap.size 30 4 v' (acc ++ [(2, W, numV W, a)]).length (tkC (acc ++ [(2, W, numV W, a)]))) (by rw [tkC_snoc, List.length_append]; exact hO) (fun j hj hb => (hnn _ hb).elim (fun q => hapb j hj q) (fun q => by have := hblk j hj; omega))
      refine sy_run ⟨0, [999]⟩ 50 S fun bs aa w S => ?_
      have S := S.sub (F' := [rfOwn w0.heap.size 30 4 v' (acc ++ [(2, W, numV W, a)]).length (tkC (acc ++ [(2, W, numV W, a)]))]) (by intro f hf; simp only [List.mem_cons, List.not_mem_nil, or_false] at hf; rcases hf with rfl <;> simp)
      have S2 := S.to [] (rwS l v' (a + W.length)) (by kernel_rfl) (by kernel_rfl) (by kernel_rfl) (by kernel_rfl) (by kernel_rfl)
      refine sy_at2 (k' := (.rnd (m) (bodyL rwC) :: rwC.k.tail)) (by kernel_rfl) ?_
      exact ih v' (a + W.length) (acc ++ [(2, W, numV W, a)]) (by omega) (by rw [List.length_append, List.length_singleton]; omega) hj (by rw [hR2, map_snoc, ← hdr, List.drop_drop]) aa w S2
set_option maxHeartbeats 8000000 in
theorem ri1_e (w0 : World) (l : List Nat) (hl : ∀ b ∈ l, b < 256) (hl3 : l.length ≤ 3000) (m a : Nat) (v : Value) (acc : List Tk) (ex : ∀ (j : Nat) (hj1 : a < j) (hj : j ≤ l.length) (hall : ∀ i, a ≤ i → i < j → wordB (l.getD i 0) = true) (hend : j = l.length ∨ wordB (l.getD j 0) = false) (aa : Act) (w : World) (S : Sy w0 [] [] (rw2S l v a 1 j) [rfOwn w0.heap.size 30 4 v (acc).length (tkC (acc))] aa w), post Tryd.prog (rw22 m) (bodyPost Tryd.prog Tryd.f11 (wdP w0 (lexW l 0))) .normal aa w) (q : Nat) (j : Nat) (hj1 : a < j) (hj : j ≤ l.length) (hall : ∀ i, a ≤ i → i < j → wordB (l.getD i 0) = true) (hjl : j = l.length) (aa : Act) (w : World) (S : Sy w0 [] [] (rw2S l v a 1 j) [rfOwn w0.heap.size 30 4 v (acc).length (tkC (acc))] aa w) : post Tryd.prog (.rnd (q + 1) (bodyL (rw2C m)) :: (rw2C m).k.tail) (bodyPost Tryd.prog Tryd.f11 (wdP w0 (lexW l 0))) .normal aa w := by
  refine sy_run (c := ⟨(.rnd (q + 1) (bodyL (rw2C m)) :: (rw2C m).k.tail), rw2S l v a 1 j⟩) ⟨0, [18]⟩ 50 S fun bs aa w S => ?_
  refine sy_reg S fun S => ?_
  refine sy_ops 3 S fun bs aa w S => ?_
  refine sy_cast 54 S (congrArg (Value.int .i64) (by rw [strOf_size] : ((strOf l).size : Int) = (l.length : Int))) (by kernel_rfl) fun S => ?_
  refine sy_ops 1 S fun bs aa w S => ?_
  refine sy_cast 55 S (congrArg Value.bool (decide_eq_false (by omega) : decide ((j : Int) < (l.length : Int)) = false)) (by kernel_rfl) fun S => ?_
  refine sy_run ⟨0, [22]⟩ 60 S fun bs aa w S => ?_
  have S2 := S.to [] (rw2S l v a 1 j) (by kernel_rfl) (by kernel_rfl) (by kernel_rfl) (by kernel_rfl) (by kernel_rfl)
  refine sy_at2 (k' := rw22 m) (by kernel_rfl) ?_
  exact ex j hj1 hj hall (Or.inl hjl) aa w S2
set_option maxHeartbeats 8000000 in
theorem ri1_s (w0 : World) (l : List Nat) (hl : ∀ b ∈ l, b < 256) (hl3 : l.length ≤ 3000) (m a : Nat) (v : Value) (acc : List Tk) (ex : ∀ (j : Nat) (hj1 : a < j) (hj : j ≤ l.length) (hall : ∀ i, a ≤ i → i < j → wordB (l.getD i 0) = true) (hend : j = l.length ∨ wordB (l.getD j 0) = false) (aa : Act) (w : World) (S : Sy w0 [] [] (rw2S l v a 1 j) [rfOwn w0.heap.size 30 4 v (acc).length (tkC (acc))] aa w), post Tryd.prog (rw22 m) (bodyPost Tryd.prog Tryd.f11 (wdP w0 (lexW l 0))) .normal aa w) (q : Nat) (j : Nat) (hj1 : a < j) (hj : j ≤ l.length) (hall : ∀ i, a ≤ i → i < j → wordB (l.getD i 0) = true) (hjl : j < l.length) (ih : wordB (l.getD j 0) = true → ∀ (aa : Act) (w : World) (S : Sy w0 [] [] (rw2S l v a 1 (j + 1)) [rfOwn w0.heap.size 30 4 v (acc).length (tkC (acc))] aa w), post Tryd.prog (.rnd (q) (bodyL (rw2C m)) :: (rw2C m).k.tail) (bodyPost Tryd.prog Tryd.f11 (wdP w0 (lexW l 0))) .normal aa w) (aa : Act) (w : World) (S : Sy w0 [] [] (rw2S l v a 1 j) [rfOwn w0.heap.size 30 4 v (acc).length (tkC (acc))] aa w) : post Tryd.prog (.rnd (q + 1) (bodyL (rw2C m)) :: (rw2C m).k.tail) (bodyPost Tryd.prog Tryd.f11 (wdP w0 (lexW l 0))) .normal aa w := by
  refine sy_run (c := ⟨(.rnd (q + 1) (bodyL (rw2C m)) :: (rw2C m).k.tail), rw2S l v a 1 j⟩) ⟨0, [18]⟩ 50 S fun bs aa w S => ?_
  refine sy_reg S fun S => ?_
  refine sy_ops 3 S fun bs aa w S => ?_
  refine sy_cast 54 S (congrArg (Value.int .i64) (by rw [strOf_size] : ((strOf l).size : Int) = (l.length : Int))) (by kernel_rfl) fun S => ?_
  refine sy_ops 1 S fun bs aa w S => ?_
  refine sy_cast 55 S (congrArg Value.bool (decide_eq_true (by omega) : decide ((j : Int) < (l.length : Int)) = true)) (by kernel_rfl) fun S => ?_
  refine sy_run ⟨0, [19]⟩ 60 S fun bs aa w S => ?_
  refine sy_reg S fun S => ?_
  refine sy_ops 2 S fun bs aa w S => ?_
  refine sy_ex (op := .index 9 (.tmp 56) (.tmp 57)) (ty := 5) (v := .int .u8 ((l.getD j 0 : Nat) : Int)) S (by kernel_rfl) (ex_ixl (k := j) Tryd.underlying9 (by kernel_rfl) (by kernel_rfl) hl (hjl)) fun aa S => ?_
  by_cases hk0 : wordB (l.getD j 0) = true
  · have hk := hk0
    rcases cls_w hk with h | h | h
    · refine sy_call1 S (by have q := cls_t (l.getD j 0) w; rw [h] at q; exact q) (by kernel_rfl) fun aa w hb S => ?_
      refine sy_run ⟨0, [21]⟩ 60 S fun bs aa w S => ?_
      refine sy_reg S fun S => ?_
      refine sy_ops 2 S fun bs aa w S => ?_
      refine sy_cast 75 S (congrArg (Value.int .i64) (by rw [IntKind.wrap_i64]; omega : IntKind.i64.wrap ((j : Int) + 1) = ((j + 1 : Nat) : Int))) (by kernel_rfl) fun S => ?_
      refine sy_run ⟨0, [999]⟩ 50 S fun bs aa w S => ?_
      have S2 := S.to [] (rw2S l v a 1 (j + 1)) (by kernel_rfl) (by kernel_rfl) (by kernel_rfl) (by kernel_rfl) (by kernel_rfl)
      refine sy_at2 (k' := (.rnd (q) (bodyL (rw2C m)) :: (rw2C m).k.tail)) (by kernel_rfl) ?_
      exact ih hk aa w S2
    · refine sy_call1 S (by have q := cls_t (l.getD j 0) w; rw [h] at q; exact q) (by kernel_rfl) fun aa w hb S => ?_
      refine sy_run ⟨0, [21]⟩ 60 S fun bs aa w S => ?_
      refine sy_reg S fun S => ?_
      refine sy_ops 2 S fun bs aa w S => ?_
      refine sy_cast 75 S (congrArg (Value.int .i64) (by rw [IntKind.wrap_i64]; omega : IntKind.i64.wrap ((j : Int) + 1) = ((j + 1 : Nat) : Int))) (by kernel_rfl) fun S => ?_
      refine sy_run ⟨0, [999]⟩ 50 S fun bs aa w S => ?_
      have S2 := S.to [] (rw2S l v a 1 (j + 1)) (by kernel_rfl) (by kernel_rfl) (by kernel_rfl) (by kernel_rfl) (by kernel_rfl)
      refine sy_at2 (k' := (.rnd (q) (bodyL (rw2C m)) :: (rw2C m).k.tail)) (by kernel_rfl) ?_
      exact ih hk aa w S2
    · refine sy_call1 S (by have q := cls_t (l.getD j 0) w; rw [h] at q; exact q) (by kernel_rfl) fun aa w hb S => ?_
      refine sy_run ⟨0, [21]⟩ 60 S fun bs aa w S => ?_
      refine sy_reg S fun S => ?_
      refine sy_ops 2 S fun bs aa w S => ?_
      refine sy_cast 75 S (congrArg (Value.int .i64) (by rw [IntKind.wrap_i64]; omega : IntKind.i64.wrap ((j : Int) + 1) = ((j + 1 : Nat) : Int))) (by kernel_rfl) fun S => ?_
      refine sy_run ⟨0, [999]⟩ 50 S fun bs aa w S => ?_
      have S2 := S.to [] (rw2S l v a 1 (j + 1)) (by kernel_rfl) (by kernel_rfl) (by kernel_rfl) (by kernel_rfl) (by kernel_rfl)
      refine sy_at2 (k' := (.rnd (q) (bodyL (rw2C m)) :: (rw2C m).k.tail)) (by kernel_rfl) ?_
      exact ih hk aa w S2
  · have hk : wordB (l.getD j 0) = false := by simpa using hk0
    rcases cls_nw hk with h | h
    · refine sy_call1 S (by have q := cls_t (l.getD j 0) w; rw [h] at q; exact q) (by kernel_rfl) fun aa w hb S => ?_
      refine sy_run ⟨0, [22]⟩ 60 S fun bs aa w S => ?_
      have S2 := S.to [] (rw2S l v a 1 j) (by kernel_rfl) (by kernel_rfl) (by kernel_rfl) (by kernel_rfl) (by kernel_rfl)
      refine sy_at2 (k' := rw22 m) (by kernel_rfl) ?_
      exact ex j hj1 hj hall (Or.inr hk) aa w S2
    · refine sy_call1 S (by have q := cls_t (l.getD j 0) w; rw [h] at q; exact q) (by kernel_rfl) fun aa w hb S => ?_
      refine sy_run ⟨0, [22]⟩ 60 S fun bs aa w S => ?_
      have S2 := S.to [] (rw2S l v a 1 j) (by kernel_rfl) (by kernel_rfl) (by kernel_rfl) (by kernel_rfl) (by kernel_rfl)
      refine sy_at2 (k' := rw22 m) (by kernel_rfl) ?_
      exact ex j hj1 hj hall (Or.inr hk) aa w S2
theorem ri1_a (w0 : World) (l : List Nat) (hl : ∀ b ∈ l, b < 256) (hl3 : l.length ≤ 3000) (m a : Nat) (v : Value) (acc : List Tk) (ex : ∀ (j : Nat) (hj1 : a < j) (hj : j ≤ l.length) (hall : ∀ i, a ≤ i → i < j → wordB (l.getD i 0) = true) (hend : j = l.length ∨ wordB (l.getD j 0) = false) (aa : Act) (w : World) (S : Sy w0 [] [] (rw2S l v a 1 j) [rfOwn w0.heap.size 30 4 v (acc).length (tkC (acc))] aa w), post Tryd.prog (rw22 m) (bodyPost Tryd.prog Tryd.f11 (wdP w0 (lexW l 0))) .normal aa w) : ∀ (q : Nat) (j : Nat) (hj1 : a < j) (hj : j ≤ l.length) (hall : ∀ i, a ≤ i → i < j → wordB (l.getD i 0) = true), j + q = l.length → ∀ (aa : Act) (w : World) (S : Sy w0 [] [] (rw2S l v a 1 j) [rfOwn w0.heap.size 30 4 v (acc).length (tkC (acc))] aa w), post Tryd.prog (.rnd (q + 1) (bodyL (rw2C m)) :: (rw2C m).k.tail) (bodyPost Tryd.prog Tryd.f11 (wdP w0 (lexW l 0))) .normal aa w := by
  intro q
  induction q with
  | zero => intro j hj1 hj hall hq aa w S; exact ri1_e w0 l hl hl3 m a v acc ex 0 j hj1 hj hall (by omega) aa w S
  | succ q ihq => intro j hj1 hj hall hq aa w S; exact ri1_s w0 l hl hl3 m a v acc ex (q + 1) j hj1 hj hall (by omega) (fun hk aa w S => ihq (j + 1) (by omega) (by omega) (fun i h1 h2 => by rcases Nat.lt_or_ge i j with h | h; exact hall i h1 h; rw [show i = j by omega]; exact hk) (by omega) aa w S) aa w S
set_option maxHeartbeats 8000000 in
theorem ri2_e (w0 : World) (l : List Nat) (hl : ∀ b ∈ l, b < 256) (hl3 : l.length ≤ 3000) (m a : Nat) (v : Value) (acc : List Tk) (ex : ∀ (j : Nat) (hj1 : a < j) (hj : j ≤ l.length) (hall : ∀ i, a ≤ i → i < j → digB (l.getD i 0) = true) (hend : j = l.length ∨ digB (l.getD j 0) = false) (aa : Act) (w : World) (S : Sy w0 [] [] (rw2S l v a 2 j) [rfOwn w0.heap.size 30 4 v (acc).length (tkC (acc))] aa w), post Tryd.prog (rw22 m) (bodyPost Tryd.prog Tryd.f11 (wdP w0 (lexW l 0))) .normal aa w) (q : Nat) (j : Nat) (hj1 : a < j) (hj : j ≤ l.length) (hall : ∀ i, a ≤ i → i < j → digB (l.getD i 0) = true) (hjl : j = l.length) (aa : Act) (w : World) (S : Sy w0 [] [] (rw2S l v a 2 j) [rfOwn w0.heap.size 30 4 v (acc).length (tkC (acc))] aa w) : post Tryd.prog (.rnd (q + 1) (bodyL (rw2C m)) :: (rw2C m).k.tail) (bodyPost Tryd.prog Tryd.f11 (wdP w0 (lexW l 0))) .normal aa w := by
  refine sy_run (c := ⟨(.rnd (q + 1) (bodyL (rw2C m)) :: (rw2C m).k.tail), rw2S l v a 2 j⟩) ⟨0, [18]⟩ 50 S fun bs aa w S => ?_
  refine sy_reg S fun S => ?_
  refine sy_ops 3 S fun bs aa w S => ?_
  refine sy_cast 54 S (congrArg (Value.int .i64) (by rw [strOf_size] : ((strOf l).size : Int) = (l.length : Int))) (by kernel_rfl) fun S => ?_
  refine sy_ops 1 S fun bs aa w S => ?_
  refine sy_cast 55 S (congrArg Value.bool (decide_eq_false (by omega) : decide ((j : Int) < (l.length : Int)) = false)) (by kernel_rfl) fun S => ?_
  refine sy_run ⟨0, [22]⟩ 60 S fun bs aa w S => ?_
  have S2 := S.to [] (rw2S l v a 2 j) (by kernel_rfl) (by kernel_rfl) (by kernel_rfl) (by kernel_rfl) (by kernel_rfl)
  refine sy_at2 (k' := rw22 m) (by kernel_rfl) ?_
  exact ex j hj1 hj hall (Or.inl hjl) aa w S2
set_option maxHeartbeats 8000000 in
theorem ri2_s (w0 : World) (l : List Nat) (hl : ∀ b ∈ l, b < 256) (hl3 : l.length ≤ 3000) (m a : Nat) (v : Value) (acc : List Tk) (ex : ∀ (j : Nat) (hj1 : a < j) (hj : j ≤ l.length) (hall : ∀ i, a ≤ i → i < j → digB (l.getD i 0) = true) (hend : j = l.length ∨ digB (l.getD j 0) = false) (aa : Act) (w : World) (S : Sy w0 [] [] (rw2S l v a 2 j) [rfOwn w0.heap.size 30 4 v (acc).length (tkC (acc))] aa w), post Tryd.prog (rw22 m) (bodyPost Tryd.prog Tryd.f11 (wdP w0 (lexW l 0))) .normal aa w) (q : Nat) (j : Nat) (hj1 : a < j) (hj : j ≤ l.length) (hall : ∀ i, a ≤ i → i < j → digB (l.getD i 0) = true) (hjl : j < l.length) (ih : digB (l.getD j 0) = true → ∀ (aa : Act) (w : World) (S : Sy w0 [] [] (rw2S l v a 2 (j + 1)) [rfOwn w0.heap.size 30 4 v (acc).length (tkC (acc))] aa w), post Tryd.prog (.rnd (q) (bodyL (rw2C m)) :: (rw2C m).k.tail) (bodyPost Tryd.prog Tryd.f11 (wdP w0 (lexW l 0))) .normal aa w) (aa : Act) (w : World) (S : Sy w0 [] [] (rw2S l v a 2 j) [rfOwn w0.heap.size 30 4 v (acc).length (tkC (acc))] aa w) : post Tryd.prog (.rnd (q + 1) (bodyL (rw2C m)) :: (rw2C m).k.tail) (bodyPost Tryd.prog Tryd.f11 (wdP w0 (lexW l 0))) .normal aa w := by
  refine sy_run (c := ⟨(.rnd (q + 1) (bodyL (rw2C m)) :: (rw2C m).k.tail), rw2S l v a 2 j⟩) ⟨0, [18]⟩ 50 S fun bs aa w S => ?_
  refine sy_reg S fun S => ?_
  refine sy_ops 3 S fun bs aa w S => ?_
  refine sy_cast 54 S (congrArg (Value.int .i64) (by rw [strOf_size] : ((strOf l).size : Int) = (l.length : Int))) (by kernel_rfl) fun S => ?_
  refine sy_ops 1 S fun bs aa w S => ?_
  refine sy_cast 55 S (congrArg Value.bool (decide_eq_true (by omega) : decide ((j : Int) < (l.length : Int)) = true)) (by kernel_rfl) fun S => ?_
  refine sy_run ⟨0, [19]⟩ 60 S fun bs aa w S => ?_
  refine sy_reg S fun S => ?_
  refine sy_ops 2 S fun bs aa w S => ?_
  refine sy_ex (op := .index 9 (.tmp 56) (.tmp 57)) (ty := 5) (v := .int .u8 ((l.getD j 0 : Nat) : Int)) S (by kernel_rfl) (ex_ixl (k := j) Tryd.underlying9 (by kernel_rfl) (by kernel_rfl) hl (hjl)) fun aa S => ?_
  by_cases hk0 : digB (l.getD j 0) = true
  · have hk := hk0
    have h : clsN (l.getD j 0) = 2 := cls_2 (let_dig hk) hk
    refine sy_call1 S (by have q := cls_t (l.getD j 0) w; rw [h] at q; exact q) (by kernel_rfl) fun aa w hb S => ?_
    refine sy_run ⟨0, [21]⟩ 60 S fun bs aa w S => ?_
    refine sy_reg S fun S => ?_
    refine sy_ops 2 S fun bs aa w S => ?_
    refine sy_cast 75 S (congrArg (Value.int .i64) (by rw [IntKind.wrap_i64]; omega : IntKind.i64.wrap ((j : Int) + 1) = ((j + 1 : Nat) : Int))) (by kernel_rfl) fun S => ?_
    refine sy_run ⟨0, [999]⟩ 50 S fun bs aa w S => ?_
    have S2 := S.to [] (rw2S l v a 2 (j + 1)) (by kernel_rfl) (by kernel_rfl) (by kernel_rfl) (by kernel_rfl) (by kernel_rfl)
    refine sy_at2 (k' := (.rnd (q) (bodyL (rw2C m)) :: (rw2C m).k.tail)) (by kernel_rfl) ?_
    exact ih hk aa w S2
  · have hk : digB (l.getD j 0) = false := by simpa using hk0
    rcases cls_nd hk with h | h | h | h
    · refine sy_call1 S (by have q := cls_t (l.getD j 0) w; rw [h] at q; exact q) (by kernel_rfl) fun aa w hb S => ?_
      refine sy_run ⟨0, [22]⟩ 60 S fun bs aa w S => ?_
      have S2 := S.to [] (rw2S l v a 2 j) (by kernel_rfl) (by kernel_rfl) (by kernel_rfl) (by kernel_rfl) (by kernel_rfl)
      refine sy_at2 (k' := rw22 m) (by kernel_rfl) ?_
      exact ex j hj1 hj hall (Or.inr hk) aa w S2
    · refine sy_call1 S (by have q := cls_t (l.getD j 0) w; rw [h] at q; exact q) (by kernel_rfl) fun aa w hb S => ?_
      refine sy_run ⟨0, [22]⟩ 60 S fun bs aa w S => ?_
      have S2 := S.to [] (rw2S l v a 2 j) (by kernel_rfl) (by kernel_rfl) (by kernel_rfl) (by kernel_rfl) (by kernel_rfl)
      refine sy_at2 (k' := rw22 m) (by kernel_rfl) ?_
      exact ex j hj1 hj hall (Or.inr hk) aa w S2
    · refine sy_call1 S (by have q := cls_t (l.getD j 0) w; rw [h] at q; exact q) (by kernel_rfl) fun aa w hb S => ?_
      refine sy_run ⟨0, [22]⟩ 60 S fun bs aa w S => ?_
      have S2 := S.to [] (rw2S l v a 2 j) (by kernel_rfl) (by kernel_rfl) (by kernel_rfl) (by kernel_rfl) (by kernel_rfl)
      refine sy_at2 (k' := rw22 m) (by kernel_rfl) ?_
      exact ex j hj1 hj hall (Or.inr hk) aa w S2
    · refine sy_call1 S (by have q := cls_t (l.getD j 0) w; rw [h] at q; exact q) (by kernel_rfl) fun aa w hb S => ?_
      refine sy_run ⟨0, [22]⟩ 60 S fun bs aa w S => ?_
      have S2 := S.to [] (rw2S l v a 2 j) (by kernel_rfl) (by kernel_rfl) (by kernel_rfl) (by kernel_rfl) (by kernel_rfl)
      refine sy_at2 (k' := rw22 m) (by kernel_rfl) ?_
      exact ex j hj1 hj hall (Or.inr hk) aa w S2
theorem ri2_a (w0 : World) (l : List Nat) (hl : ∀ b ∈ l, b < 256) (hl3 : l.length ≤ 3000) (m a : Nat) (v : Value) (acc : List Tk) (ex : ∀ (j : Nat) (hj1 : a < j) (hj : j ≤ l.length) (hall : ∀ i, a ≤ i → i < j → digB (l.getD i 0) = true) (hend : j = l.length ∨ digB (l.getD j 0) = false) (aa : Act) (w : World) (S : Sy w0 [] [] (rw2S l v a 2 j) [rfOwn w0.heap.size 30 4 v (acc).length (tkC (acc))] aa w), post Tryd.prog (rw22 m) (bodyPost Tryd.prog Tryd.f11 (wdP w0 (lexW l 0))) .normal aa w) : ∀ (q : Nat) (j : Nat) (hj1 : a < j) (hj : j ≤ l.length) (hall : ∀ i, a ≤ i → i < j → digB (l.getD i 0) = true), j + q = l.length → ∀ (aa : Act) (w : World) (S : Sy w0 [] [] (rw2S l v a 2 j) [rfOwn w0.heap.size 30 4 v (acc).length (tkC (acc))] aa w), post Tryd.prog (.rnd (q + 1) (bodyL (rw2C m)) :: (rw2C m).k.tail) (bodyPost Tryd.prog Tryd.f11 (wdP w0 (lexW l 0))) .normal aa w := by
  intro q
  induction q with
  | zero => intro j hj1 hj hall hq aa w S; exact ri2_e w0 l hl hl3 m a v acc ex 0 j hj1 hj hall (by omega) aa w S
  | succ q ihq => intro j hj1 hj hall hq aa w S; exact ri2_s w0 l hl hl3 m a v acc ex (q + 1) j hj1 hj hall (by omega) (fun hk aa w S => ihq (j + 1) (by omega) (by omega) (fun i h1 h2 => by rcases Nat.lt_or_ge i j with h | h; exact hall i h1 h; rw [show i = j by omega]; exact hk) (by omega) aa w S) aa w S
set_option maxHeartbeats 8000000 in
theorem rw_s (w0 : World) (l : List Nat) (hl : ∀ b ∈ l, b < 256) (hl3 : l.length ≤ 3000) (m a : Nat) (hal : a < l.length) (v : Value) (acc : List Tk) (hn : (acc).length ≤ a) (ha : a ≤ l.length) (hR : lexW l 0 = (lexW (l.drop (a)) (a)).map fun q => (acc) ++ q) (ih : ∀ (v2 : Value) (a2 : Nat) (acc2 : List Tk) (hlt : a < a2) (hn : (acc2).length ≤ a2) (ha : a2 ≤ l.length) (hR : lexW l 0 = (lexW (l.drop (a2)) (a2)).map fun q => (acc2) ++ q) (aa : Act) (w : World) (S : Sy w0 [] [] (rwS l v2 (a2)) [rfOwn w0.heap.size 30 4 v2 (acc2).length (tkC (acc2))] aa w), post Tryd.prog (.rnd (m) (bodyL rwC) :: rwC.k.tail) (bodyPost Tryd.prog Tryd.f11 (wdP w0 (lexW l 0))) .normal aa w) (aa : Act) (w : World) (S : Sy w0 [] [] (rwS l v (a)) [rfOwn w0.heap.size 30 4 v (acc).length (tkC (acc))] aa w) : post Tryd.prog (.rnd (m + 1) (bodyL rwC) :: rwC.k.tail) (bodyPost Tryd.prog Tryd.f11 (wdP w0 (lexW l 0))) .normal aa w := by
  obtain ⟨c0, r, hdr⟩ : ∃ c0 r, l.drop a = c0 :: r := ⟨l[a], l.drop (a + 1), List.drop_eq_getElem_cons hal⟩
  have hnx : l.drop (a + 1) = r := by
    have h := List.drop_eq_getElem_cons hal
    rw [hdr] at h
    injection h with h1 h2
    exact h2.symm
  have hc0 : l.getD a 0 = c0 := by
    have h := List.drop_eq_getElem_cons hal
    rw [hdr] at h
    injection h with h1 h2
    rw [h1]
    simp [List.getD, List.getElem?_eq_getElem hal]
  have hR2 := hR
  rw [hdr] at hR2
  refine sy_run (c := ⟨(.rnd (m + 1) (bodyL rwC) :: rwC.k.tail), rwS l v a⟩) ⟨0, [5]⟩ 50 S fun bs aa w S => ?_
  refine sy_reg S fun S => ?_
  refine sy_ops 3 S fun bs aa w S => ?_
  refine sy_cast 17 S (congrArg (Value.int .i64) (by rw [strOf_size] : ((strOf l).size : Int) = (l.length : Int))) (by kernel_rfl) fun S => ?_
  refine sy_ops 1 S fun bs aa w S => ?_
  refine sy_cast 18 S (congrArg Value.bool (decide_eq_true (by omega) : decide ((a : Int) < (l.length : Int)) = true)) (by kernel_rfl) fun S => ?_
  refine sy_run ⟨0, [6]⟩ 60 S fun bs aa w S => ?_
  refine sy_reg S fun S => ?_
  refine sy_ops 2 S fun bs aa w S => ?_
  refine sy_ex (op := .index 9 (.tmp 19) (.tmp 20)) (ty := 5) (v := .int .u8 ((l.getD a 0 : Nat) : Int)) S (by kernel_rfl) (ex_ixl (k := a) Tryd.underlying9 (by kernel_rfl) (by kernel_rfl) hl (hal)) fun aa S => ?_
  by_cases h1 : lettB c0 = true
  · have hcl : clsN (l.getD a 0) = 1 := by rw [hc0]; exact cls_1 h1
    refine sy_call1 S (by have q := cls_t (l.getD a 0) w; rw [hcl] at q; exact q) (by kernel_rfl) fun aa w hb S => ?_
    refine sy_run ⟨0, [17]⟩ 60 S fun bs aa w S => ?_
    refine sy_reg S fun S => ?_
    refine sy_ops 2 S fun bs aa w S => ?_
    refine sy_cast 51 S (congrArg (Value.int .i64) (by rw [IntKind.wrap_i64]; omega : IntKind.i64.wrap ((a : Int) + 1) = ((a + 1 : Nat) : Int))) (by kernel_rfl) fun S => ?_
    refine sy_run ⟨0, []⟩ 60 S fun bs aa w S => ?_
    have S2 := S.to [] (rw2S l v a 1 (a + 1)) (by kernel_rfl) (by kernel_rfl) (by kernel_rfl) (by kernel_rfl) (by kernel_rfl)
    refine sy_loop (l.length - (a + 1) + 1) (by kernel_rfl) ?_
    refine sy_at2 (k' := (.rnd (l.length - (a + 1) + 1) (bodyL (rw2C m)) :: (rw2C m).k.tail)) (by kernel_rfl) ?_
    exact ri1_a w0 l hl hl3 m a v acc (fun j hj1 hj hall hend aa w S => rw_k1 w0 l hl hl3 m a hal v acc hn ha hR ih (by rw [hc0]; exact h1) j hj1 hj hall hend aa w S) (l.length - (a + 1)) (a + 1) (by omega) (by omega) (fun i h1' h2' => by rw [show i = a by omega, hc0]; exact let_word h1) (by omega) aa w S2
  have h1 : lettB c0 = false := by simpa using h1
  by_cases h2 : digB c0 = true
  · have hcl : clsN (l.getD a 0) = 2 := by rw [hc0]; exact cls_2 h1 h2
    refine sy_call1 S (by have q := cls_t (l.getD a 0) w; rw [hcl] at q; exact q) (by kernel_rfl) fun aa w hb S => ?_
    refine sy_run ⟨0, [17]⟩ 60 S fun bs aa w S => ?_
    refine sy_reg S fun S => ?_
    refine sy_ops 2 S fun bs aa w S => ?_
    refine sy_cast 51 S (congrArg (Value.int .i64) (by rw [IntKind.wrap_i64]; omega : IntKind.i64.wrap ((a : Int) + 1) = ((a + 1 : Nat) : Int))) (by kernel_rfl) fun S => ?_
    refine sy_run ⟨0, []⟩ 60 S fun bs aa w S => ?_
    have S2 := S.to [] (rw2S l v a 2 (a + 1)) (by kernel_rfl) (by kernel_rfl) (by kernel_rfl) (by kernel_rfl) (by kernel_rfl)
    refine sy_loop (l.length - (a + 1) + 1) (by kernel_rfl) ?_
    refine sy_at2 (k' := (.rnd (l.length - (a + 1) + 1) (bodyL (rw2C m)) :: (rw2C m).k.tail)) (by kernel_rfl) ?_
    exact ri2_a w0 l hl hl3 m a v acc (fun j hj1 hj hall hend aa w S => rw_k2 w0 l hl hl3 m a hal v acc hn ha hR ih (by rw [hc0]; exact ⟨h1, h2⟩) j hj1 hj hall hend aa w S) (l.length - (a + 1)) (a + 1) (by omega) (by omega) (fun i h1' h2' => by rw [show i = a by omega, hc0]; exact h2) (by omega) aa w S2
  have h2 : digB c0 = false := by simpa using h2
  by_cases h4 : spcB c0 = true
  · have hcl : clsN (l.getD a 0) = 4 := by rw [hc0]; exact cls_4 h4
    refine sy_call1 S (by have q := cls_t (l.getD a 0) w; rw [hcl] at q; exact q) (by kernel_rfl) fun aa w hb S => ?_
    refine sy_run ⟨0, [8]⟩ 60 S fun bs aa w S => ?_
    refine sy_reg S fun S => ?_
    refine sy_ops 2 S fun bs aa w S => ?_
    refine sy_cast 26 S (congrArg (Value.int .i64) (by rw [IntKind.wrap_i64]; omega : IntKind.i64.wrap ((a : Int) + 1) = ((a + 1 : Nat) : Int))) (by kernel_rfl) fun S => ?_
    refine sy_run ⟨0, [999]⟩ 50 S fun bs aa w S => ?_
    have S2 := S.to [] (rwS l v (a + 1)) (by kernel_rfl) (by kernel_rfl) (by kernel_rfl) (by kernel_rfl) (by kernel_rfl)
    refine sy_at2 (k' := (.rnd (m) (bodyL rwC) :: rwC.k.tail)) (by kernel_rfl) ?_
    exact ih v (a + 1) acc (by omega) (by omega) (by omega) (by rw [hR2, lexW_spc h4, hnx]) aa w S2
  have h4 : spcB c0 = false := by simpa using h4
  rw [lexW_tok h4] at hR2
  by_cases h3 : c0 = 95
  · have hcl : clsN (l.getD a 0) = 3 := by rw [hc0]; exact cls_3 h3
    have hRn : lexW l 0 = none := by rw [hR2, h3, tok_95]; rfl
    refine sy_call1 S (by have q := cls_t (l.getD a 0) w; rw [hcl] at q; exact q) (by kernel_rfl) fun aa w hb S => ?_
    refine sy_run ⟨0, []⟩ 60 S fun bs aa w S => ?_
    rw [hRn]
    exact sy_ret S (by kernel_rfl) (by kernel_rfl) fun hg => ⟨⟨_, rfl, own_nil _ _⟩, bel_gr hg⟩
  have hcl : clsN (l.getD a 0) = 0 := by rw [hc0]; exact cls_0 h1 h2 h3 h4
  refine sy_call1 S (by have q := cls_t (l.getD a 0) w; rw [hcl] at q; exact q) (by kernel_rfl) fun aa w hb S => ?_
  refine sy_run ⟨0, [12]⟩ 60 S fun bs aa w S => ?_
  refine sy_reg S fun S => ?_
  refine sy_ops 2 S fun bs aa w S => ?_
  obtain ⟨s, hs⟩ : ∃ s, (fstP (c0 :: r) sgL) = s := ⟨_, rfl⟩
  have hpre : (l.drop a).take s.length = s := by rw [hdr, ← hs]; exact fstP_pre _ _
  have hsl := take_lt hpre
  rw [List.length_drop] at hsl
  have htok : tokL (c0 :: r) = if s = [] then none else some (3, s, 0) := by
    rw [tok_sg c0 r h1 h2, hs]
  rw [htok] at hR2
  refine sy_call1 S (by have q := sign_t w l a hl hl3 hal; rw [hdr, hs] at q; exact q) (by kernel_rfl) fun aa w hb S => ?_
  refine sy_run ⟨0, [13]⟩ 60 S fun bs aa w S => ?_
  refine sy_reg S fun S => ?_
  refine sy_ops 2 S fun bs aa w S => ?_
  by_cases h0 : s = []
  · rw [if_pos h0] at hR2
    have hRn : lexW l 0 = none := hR2
    refine sy_cast 35 S (congrArg Value.bool (decide_eq_true (by rw [h0]; rfl) : decide ((s.length : Int) = 0) = true)) (by kernel_rfl) fun S => ?_
    refine sy_run ⟨0, []⟩ 60 S fun bs aa w S => ?_
    rw [hRn]
    exact sy_ret S (by kernel_rfl) (by kernel_rfl) fun hg => ⟨⟨_, rfl, own_nil _ _⟩, bel_gr hg⟩
  · rw [if_neg h0] at hR2
    have h01 : 1 ≤ s.length := by
      rcases Nat.eq_zero_or_pos s.length with q | q
      · exact absurd (List.eq_nil_of_length_eq_zero q) h0
      · exact q
    have hR2 : lexW l 0 = ((lexW ((c0 :: r).drop s.length) (a + s.length)).map fun q => (3, s, 0, a) :: q).map fun q => acc ++ q := hR2
    refine sy_cast 35 S (congrArg Value.bool (decide_eq_false (by omega) : decide ((s.length : Int) = 0) = false)) (by kernel_rfl) fun S => ?_
    refine sy_run ⟨0, [15]⟩ 60 S fun bs aa w S => ?_
    refine sy_reg S fun S => ?_
    refine sy_ops 6 S fun bs aa w S => ?_
    refine sy_cast 41 S (congrArg (Value.int .i64) (by rw [IntKind.wrap_i64]; omega : IntKind.i64.wrap ((a : Int) + (s.length : Int)) = ((a + s.length : Nat) : Int))) (by kernel_rfl) fun S => ?_
    refine sy_ex (op := .slice 9 (.tmp 37) (some (.tmp 38)) (some (.tmp 41)) none) (ty := 9) (v := .string ((strOf l).extract a (a + s.length))) S (by kernel_rfl) (ex_slS (l2 := some (.v (.int .i64 (a : Int)))) (h2 := some (.v (.int .i64 (((a + s.length) : Nat) : Int)))) Tryd.underlying9 (by kernel_rfl) (by kernel_rfl) (by kernel_rfl) (fun W9 => slS_b (strOf l) a (a + s.length) (by omega) (by rw [strOf_size]; omega) W9)) fun aa S => ?_
    refine sy_cast 42 S (congrArg Value.string (ext_tk hpre)) (by kernel_rfl) fun S => ?_
    refine sy_ops 3 S fun bs aa w S => ?_
    refine sy_nm S fun bs S => ?_
    obtain ⟨ii, hi1, hi2, hi3, hi4⟩ := parts3 infTok
    have how : w.ownsRow w0.heap.size 30 4 v acc.length (tkC acc) := S.fact (f := rfOwn w0.heap.size 30 4 v (acc).length (tkC (acc))) (by simp)
    have hapb := (S.fs (rfOwn w0.heap.size 30 4 v (acc).length (tkC (acc))) (by simp)).2
    have hblk : ∀ j, j < bs.length → bs.getD j 0 < w.heap.size := fun j hj => S.lt hj
    refine sy_appO w0.heap.size (u := .v v) (y := .s 0 0 1 1) (v := v) (ad := adr bs 0 0) (m := 1) (cp := 1) (n := acc.length) (size := 4) (bytes := 40) (e := 30) (t := 23) (xs := tkC acc) (news := [.int .i64 3, .string (strOf s), .int .i64 0, .int .i64 (a : Int)]) [] S (by kernel_rfl) Tryd.underlying23 hi1 hi2 hi3 hi4 rfl (by omega) rfl rfl how S.gr.size (own3 (P := Tryd.prog) (ty := 30) (cs := [.int .i64 3, .string (strOf s), .int .i64 0, .int .i64 (a : Int)]) S 0 (by kernel_rfl)) rfl (by intro u hu; simp only [List.mem_cons, List.not_mem_nil, or_false] at hu; rcases hu with rfl | rfl | rfl | rfl <;> rfl) (by simp only [maxLen]; omega) (by omega)
      (fun g hg => Or.inr (how.lt g hg).1) (fun f hf => by cases hf) (fun j hj hb => hapb j hj hb)
      fun v' aa w2 hO hg' hnn S => ?_
    have S := S.add (rfOwn w0.heap.size 30 4 v' (acc ++ [(3, s, 0, a)]).length (tkC (acc ++ [(3, s, 0, a)]))) (by rw [tkC_snoc, List.length_append]; exact hO) (fun j hj hb => (hnn _ hb).elim (fun q => hapb j hj q) (fun q => by have := hblk j hj; omega))
    refine sy_run ⟨0, [16]⟩ 60 S fun bs aa w S => ?_
    refine sy_reg S fun S => ?_
    refine sy_ops 3 S fun bs aa w S => ?_
    refine sy_cast 49 S (congrArg (Value.int .i64) (by rw [IntKind.wrap_i64]; omega : IntKind.i64.wrap ((a : Int) + (s.length : Int)) = ((a + s.length : Nat) : Int))) (by kernel_rfl) fun S => ?_
    refine sy_run ⟨0, [999]⟩ 50 S fun bs aa w S => ?_
    have S := S.sub (F' := [rfOwn w0.heap.size 30 4 v' (acc ++ [(3, s, 0, a)]).length (tkC (acc ++ [(3, s, 0, a)]))]) (by intro f hf; simp only [List.mem_cons, List.not_mem_nil, or_false] at hf; rcases hf with rfl <;> simp)
    have S2 := S.to [] (rwS l v' (a + s.length)) (by kernel_rfl) (by kernel_rfl) (by kernel_rfl) (by kernel_rfl) (by kernel_rfl)
    refine sy_at2 (k' := (.rnd (m) (bodyL rwC) :: rwC.k.tail)) (by kernel_rfl) ?_
    exact ih v' (a + s.length) (acc ++ [(3, s, 0, a)]) (by omega) (by rw [List.length_append, List.length_singleton]; omega) (by omega) (by rw [hR2, map_snoc, ← hdr, List.drop_drop]) aa w S2
theorem rw_a (w0 : World) (l : List Nat) (hl : ∀ b ∈ l, b < 256) (hl3 : l.length ≤ 3000) : ∀ (m a : Nat), l.length ≤ a + m → ∀ (v : Value) (acc : List Tk) (hn : (acc).length ≤ a) (ha : a ≤ l.length) (hR : lexW l 0 = (lexW (l.drop (a)) (a)).map fun q => (acc) ++ q) (aa : Act) (w : World) (S : Sy w0 [] [] (rwS l v (a)) [rfOwn w0.heap.size 30 4 v (acc).length (tkC (acc))] aa w), post Tryd.prog (.rnd (m + 1) (bodyL rwC) :: rwC.k.tail) (bodyPost Tryd.prog Tryd.f11 (wdP w0 (lexW l 0))) .normal aa w := by
  intro m
  induction m with
  | zero => intro a hm v acc hn ha hR aa w S; exact rw_e w0 l hl hl3 0 a (by omega) v acc hn ha hR aa w S
  | succ m ih =>
    intro a hm v acc hn ha hR aa w S
    by_cases h : a < l.length
    · exact rw_s w0 l hl hl3 (m + 1) a h v acc hn ha hR (fun v2 a2 acc2 hlt hn ha hR aa w S => ih a2 (by omega) v2 acc2 hn ha hR aa w S) aa w S
    · exact rw_e w0 l hl hl3 (m + 1) a h v acc hn ha hR aa w S
set_option maxHeartbeats 8000000 in
theorem rwords_t (w0 : World) (l : List Nat) (hl : ∀ b ∈ l, b < 256) (hl3 : l.length ≤ 3000) : Calls Tryd.prog 11 #[.string (strOf l)] w0 (wdP w0 (lexW l 0)) := by
  refine sy_enterF [] [] (by intro f hf; cases hf) Tryd.func11 rfl rfl fun aa S => ?_
  refine sy_run ⟨0, [1]⟩ 60 S fun bs aa w S => ?_
  refine sy_reg S fun S => ?_
  refine sy_ops 2 S fun bs aa w S => ?_
  refine sy_cast 13 S (congrArg (Value.int .i64) (by rw [strOf_size] : ((strOf l).size : Int) = (l.length : Int))) (by kernel_rfl) fun S => ?_
  refine sy_ops 1 S fun bs aa w S => ?_
  refine sy_cast 14 S (congrArg Value.bool (decide_eq_false (by omega) : decide ((l.length : Int) > 3000) = false)) (by kernel_rfl) fun S => ?_
  refine sy_run ⟨0, []⟩ 60 S fun bs aa w S => ?_
  have S := S.add (rfOwn w0.heap.size 30 4 (.slice none 0 0) (([] : List Tk)).length (tkC (([] : List Tk)))) (own_nil _ _) (fun i hi hb => by cases hb)
  have S2 := S.to [] (rwS l (.slice none 0 0) 0) (by kernel_rfl) (by kernel_rfl) (by kernel_rfl) (by kernel_rfl) (by kernel_rfl)
  refine sy_loop (l.length + 1) (by kernel_rfl) ?_
  refine sy_at2 (k' := (.rnd (l.length + 1) (bodyL rwC) :: rwC.k.tail)) (by kernel_rfl) ?_
  exact rw_a w0 l hl hl3 l.length 0 (by omega) (.slice none 0 0) [] (Nat.zero_le _) (Nat.zero_le _) (by simp) aa w S2
end Go.Proofs.YthkgmahkmflfkaaDoor
