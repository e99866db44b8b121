
/-
  Layer 27: what a stall drops.
-/
import Derived.Test.YtfkmcibglaiakaaDoorRows
import Derived.Test.YtfkmcibglaiakaaDoorBase
import Derived.Test.YtfkmcibglaiakaaDoorScS
import Derived.WalkKit
namespace Go.Proofs.YtfkmcibglaiakaaDoor
open Go Go.RowKit SZ
set_option linter.unusedVariables false
set_option linter.unusedSimpArgs false
set_option maxRecDepth 100000
attribute [local irreducible] post GD Nxt NxtAll
/-- Bytes in memory. -/
def B8At (w : World) (b o : Nat) (c : List Nat) : Prop := ∀ j, j < c.length → w.cell? ⟨b, o + j, none⟩ = some (.int .u8 ((c.getD j 0 : Nat) : Int))
def rfB8 (b o : Nat) (c : List Nat) : RF := ⟨fun b' => b' = b ∧ c.length ≠ 0, fun w => B8At w b o c, fun w h b' hb => by
  obtain ⟨rfl, hl⟩ := hb
  exact World.block_lt_of_cell? w _ (h 0 (by omega)), fun w w' h hb j hj => (World.cell?_of_block (a := ⟨b, o + j, none⟩) (hb b ⟨rfl, by omega⟩)).trans (h j hj)⟩
def mkP (a : Nat) : Pk := ⟨1, (a : Int), 0, none, 0, 0, 0, []⟩
def stP (b : Nat) : Pk := ⟨2, 1, (b : Int), none, 0, 0, 0, []⟩
def trnL (T : List Nat) : List Pk := T.map fun x => mkP (x % 3)
def wntF (b : Nat) : Nat → List Nat → List Pk
  | _, [] => []
  | i, x :: r => if ¬x % 3 = 1 ∨ b < i + 1 then mkP (x % 3) :: wntF b (i + 1) r else wntF b (i + 1) r
theorem wntF_snoc (b : Nat) (x : Nat) : ∀ (T : List Nat) (i : Nat), wntF b i (T ++ [x]) = wntF b i T ++ if ¬x % 3 = 1 ∨ b < i + T.length + 1 then [mkP (x % 3)] else []
  | [], i => by
    rw [List.nil_append, List.length_nil, Nat.add_zero]
    unfold wntF
    split <;> rfl
  | y :: r, i => by
    have ih := wntF_snoc b x r (i + 1)
    rw [show i + 1 + r.length + 1 = i + (y :: r).length + 1 by rw [List.length_cons]; omega] at ih
    rw [List.cons_append]
    unfold wntF
    rw [ih]
    by_cases h : ¬y % 3 = 1 ∨ b < i + 1
    · rw [if_pos h, if_pos h, List.cons_append]
    · rw [if_neg h, if_neg h]
theorem wntF_len (b : Nat) : ∀ (T : List Nat) (i : Nat), (wntF b i T).length ≤ T.length
  | [], i => Nat.le_refl _
  | y :: r, i => by
    have ih := wntF_len b r (i + 1)
    unfold wntF
    split <;> simp only [List.length_cons] <;> omega
theorem right_mk (a : Nat) (h : a < 3) : rightB 3 (mkP a).w = true := by
  unfold rightB mkP Pk.w
  simp
  omega
theorem right_st (b : Nat) (h : b < 256) : rightB 3 (stP b).w = true := by
  unfold rightB stP Pk.w
  simp
  omega
theorem plain_trn (b : Nat) : ∀ (T : List Nat) (i : Nat), plainK 3 (upd (fun _ => 0) 1 (1 + (b : Int))) (1 + (i : Int)) (trnL T) = wntF b i T
  | [], i => rfl
  | x :: r, i => by
    have ih := plain_trn b r (i + 1)
    have hx : x % 3 < 3 := Nat.mod_lt _ (by omega)
    show plainK 3 _ _ (mkP (x % 3) :: trnL r) = _
    unfold plainK wntF
    rw [if_pos (right_mk _ hx), if_pos (show (mkP (x % 3)).k = 1 from rfl), show (1 + (i : Int)) + 1 = 1 + ((i + 1 : Nat) : Int) by omega, ih]
    have hu : upd (fun _ => 0) 1 (1 + (b : Int)) (mkP (x % 3)).a = if x % 3 = 1 then 1 + (b : Int) else 0 := by
      show (if ((x % 3 : Nat) : Int) = 1 then 1 + (b : Int) else 0) = _
      by_cases h : x % 3 = 1
      · rw [if_pos h, if_pos (by omega)]
      · rw [if_neg h, if_neg (by omega)]
    rw [hu]
    by_cases h : x % 3 = 1
    · rw [if_pos h]
      by_cases h2 : b < i + 1
      · rw [if_pos (by omega), if_pos (Or.inr h2)]
      · rw [if_neg (by omega), if_neg (by omega)]
    · rw [if_neg h, if_pos (by omega), if_pos (Or.inl h)]
theorem plain_st (b : Nat) (h : b < 256) (T : List Nat) : plainK 3 (fun _ => 0) 0 (stP b :: trnL T) = wntF b 0 T := by
  have h2 := plain_trn b T 0
  unfold plainK
  rw [if_pos (right_st b h), if_neg (show ¬(stP b).k = 1 from by show ¬(2 : Int) = 1; decide), if_pos (show (stP b).k = 2 from rfl)]
  have e : maxI ((fun _ => (0 : Int)) (stP b).a) (0 + 1 + (stP b).b) = 1 + (b : Int) := by
    show maxI 0 (0 + 1 + (b : Int)) = _
    unfold maxI
    rw [if_pos (by omega)]
    omega
  rw [e]
  exact h2
theorem trn_take {T : List Nat} {j : Nat} (hj : j < T.length) : trnL (T.take (j + 1)) = trnL (T.take j) ++ [mkP (T.getD j 0 % 3)] ∧ (∀ b, wntF b 0 (T.take (j + 1)) = wntF b 0 (T.take j) ++ if ¬T.getD j 0 % 3 = 1 ∨ b < j + 1 then [mkP (T.getD j 0 % 3)] else []) := by
  have e : T.getD j 0 = T[j] := by simp [List.getD, List.getElem?_eq_getElem hj]
  rw [List.take_succ_eq_append_getElem hj, e]
  refine ⟨by unfold trnL; rw [List.map_append]; rfl, fun b => ?_⟩
  rw [wntF_snoc, List.length_take, Nat.min_eq_left (Nat.le_of_lt hj), Nat.zero_add]
theorem mem_mk {p : Pk} {b : Nat} {T : List Nat} (h : p ∈ stP b :: trnL T) : p.c = [] ∧ (p = stP b ∨ ∃ a, a < 3 ∧ p = mkP a) := by
  rcases List.mem_cons.1 h with rfl | h
  · exact ⟨rfl, Or.inl rfl⟩
  · obtain ⟨x, _, rfl⟩ := List.mem_map.1 h
    exact ⟨rfl, Or.inr ⟨x % 3, Nat.mod_lt _ (by omega), rfl⟩⟩
theorem mem_wnt (b : Nat) : ∀ (T : List Nat) (i : Nat), ∀ p ∈ wntF b i T, p.c = [] ∧ ∃ a, p = mkP a
  | [], i, p, h => by cases h
  | x :: r, i, p, h => by
    unfold wntF at h
    split at h
    · rcases List.mem_cons.1 h with rfl | h
      · exact ⟨rfl, _, rfl⟩
      · exact mem_wnt b r (i + 1) p h
    · exact mem_wnt b r (i + 1) p h
theorem isAt_nil {w : World} {p : Pk} (h : p.c = []) : IsAt w p.bl p.o p.c := fun j hj => by rw [h] at hj; exact absurd hj (Nat.not_lt_zero _)
theorem own_st {w : World} {B g b : Nat} (hh : w.heap[g]? = some (.cells #[.int .i64 2, .int .i64 1, .int .i64 (b : Int), .slice none 0 0] 25 (0, 0))) (hg : B ≤ g) : w.ownsRow B 25 4 (.slice (some ⟨g, 0, none⟩) [stP b].length 1) [stP b].length (pkV [stP b]) :=
  ⟨rfl, Or.inr ⟨g, 1, _, rfl, hg, hh, Nat.le_refl _, by simp only [maxLen]; decide, rfl, rfl⟩⟩
noncomputable def slC : Cfg := ⟨goZ 60 [0] [.code (bodyOf Tryd.f8)], ⟨0, [], []⟩⟩
noncomputable def slS (k : Nat) (a1 : Option Addr) (n1 c1 : Nat) (v1 v2 : Value) (j : Nat) : SS := ⟨57, [(0, .v (.int .u8 (k : Int))), (1, .v (.slice a1 n1 c1)), (5, .v (.bool true)), (6, .v v1), (7, .v v2), (8, .v (.int .i64 (j : Int)))], []⟩
set_option maxHeartbeats 8000000 in
theorem sl_e (w0 : World) (k : Nat) (hk : k < 256) (T : List Nat) (c1 : Nat) (a1 : Option Addr) (b o : Nat) (h1 : T.length = 0 ∨ a1 = some ⟨b, o, none⟩) (hn : T.length ≤ 200) (h256 : ∀ x ∈ T, x < 256) (hbn : T.length = 0 ∨ b < w0.heap.size) (m : Nat) (v1 v2 : Value) (hd : (∀ b, Value.ownBlock v1 = some b → Value.ownBlock v2 = some b → False)) (aa : Act) (w : World) (S : Sy w0 [] [] (slS k a1 T.length c1 v1 v2 (T.length)) [rfB8 b o T, rfOwn w0.heap.size 25 4 v1 ((stP k :: trnL T)).length (pkV ((stP k :: trnL T))), rfOwn w0.heap.size 25 4 v2 ((wntF k 0 T)).length (pkV ((wntF k 0 T)))] aa w) : post Tryd.prog (.rnd (m + 1) (bodyL slC) :: slC.k.tail) (bodyPost Tryd.prog Tryd.f8 (fun e w' => e = .returned (.bool true) ∧ Below w0.heap.size w0 w')) .normal aa w := by
  refine sy_run (c := ⟨(.rnd (m + 1) (bodyL slC) :: slC.k.tail), slS k a1 T.length c1 v1 v2 (T.length)⟩) ⟨0, [7]⟩ 50 S fun bs aa w S => ?_
  refine sy_reg S fun S => ?_
  refine sy_ops 4 S fun bs aa w S => ?_
  refine sy_cast 22 S (congrArg Value.bool (decide_eq_false (by omega) : decide ((T.length : Int) < (T.length : Int)) = false)) (by kernel_rfl) fun S => ?_
  refine sy_run ⟨0, [13]⟩ 60 S fun bs aa w S => ?_
  refine sy_reg S fun S => ?_
  refine sy_ops 3 S fun bs aa w S => ?_
  refine sy_nm S fun bs S => ?_
  have hblk : ∀ j, j < bs.length → bs.getD j 0 < w.heap.size := fun j hj => S.lt hj
  have hsz := S.gr.size
  have how1 : w.ownsRow w0.heap.size 25 4 v1 (stP k :: trnL T).length (pkV (stP k :: trnL T)) := S.fact (f := rfOwn w0.heap.size 25 4 v1 ((stP k :: trnL T)).length (pkV ((stP k :: trnL T)))) (by simp)
  have how2 : w.ownsRow w0.heap.size 25 4 v2 (wntF k 0 T).length (pkV (wntF k 0 T)) := S.fact (f := rfOwn w0.heap.size 25 4 v2 ((wntF k 0 T)).length (pkV ((wntF k 0 T)))) (by simp)
  have hap1 := (S.fs (rfOwn w0.heap.size 25 4 v1 ((stP k :: trnL T)).length (pkV ((stP k :: trnL T)))) (by simp)).2
  have hap2 := (S.fs (rfOwn w0.heap.size 25 4 v2 ((wntF k 0 T)).length (pkV ((wntF k 0 T)))) (by simp)).2
  have hlen : (stP k :: trnL T).length ≤ 201 := by unfold trnL; rw [List.length_cons, List.length_map]; omega
  have hlen2 := wntF_len k T 0
  have hpl0 := plain_st k hk T
  have hm1 : ∀ p ∈ stP k :: trnL T, p.c = [] ∧ p.ok ∧ I64 p.a := fun p hp => by
    obtain ⟨q1, q2⟩ := mem_mk hp
    refine ⟨q1, Or.inl (by rw [q1]; rfl), ?_⟩
    rcases q2 with rfl | ⟨a, ha, rfl⟩
    · show -9223372036854775808 ≤ (1 : Int) ∧ (1 : Int) ≤ 9223372036854775807
      decide
    · unfold I64 mkP; constructor <;> simp only <;> omega
  have hm2 := mem_wnt k T 0
  generalize stP k :: trnL T = out1 at *
  generalize wntF k 0 T = out2 at *
  obtain ⟨a2, c2, b2, rfl, h2, hAt2, hb2⟩ := ps_of_owns how1
  obtain ⟨a4, c4, b4, rfl, h4, hAt4, hb4⟩ := ps_of_owns how2
  have S := S.add (rfPs b2 0 out1) hAt2 (fun i hi h => hap1 i hi (by
    have h1 : bs.getD i 0 = b2 := h.1
    rw [h1, h2.resolve_left h.2]
    rfl))
  have S := S.add (rfPs b4 0 out2) hAt4 (fun i hi h => hap2 i hi (by
    have h1 : bs.getD i 0 = b4 := h.1
    rw [h1, h4.resolve_left h.2]
    rfl))
  have hpl := plain_p w 3 a2 c2 b2 0 out1 h2 (by omega) (fun p hp => ⟨(hm1 p hp).2.1, (hm1 p hp).2.2, by rw [(hm1 p hp).1]; simp, isAt_nil (hm1 p hp).1⟩) (S.fact (f := rfPs b2 0 out1) (by simp))
  rw [hpl0] at hpl
  refine sy_call S (X := Option Addr × Nat × Nat) (val := fun x => .slice x.1 out2.length x.2.1) (C := fun x w' => (out2.length = 0 ∨ x.1 = some ⟨x.2.2, 0, none⟩) ∧ PsAt w' x.2.2 0 out2 ∧ (out2.length = 0 ∨ w.heap.size ≤ x.2.2) ∧ out2.length ≤ x.2.1 ∧ x.2.1 ≤ maxLen) hpl (by kernel_rfl) fun x aa w1 hC hb S => ?_
  obtain ⟨a3, c3, b3⟩ := x
  obtain ⟨h3, hAt3, hb3, hc3, hm3⟩ := hC
  simp only at h3 hAt3 hb3 hc3 hm3
  have S := S.add (rfPs b3 0 out2) hAt3 (fun i hi h => by
    have h1 : bs.getD i 0 = b3 := h.1
    have := hb3.resolve_left h.2
    have := hblk i hi
    omega)
  refine sy_ops 1 S fun bs aa w S => ?_
  have hsm := same_t w out2 out2 a3 a4 c3 c4 b3 0 b4 0 h3 h4 (by omega) (fun p hp => ⟨Or.inl (by rw [(hm2 p hp).1]; rfl), by rw [(hm2 p hp).1]; simp⟩) (fun p hp => Or.inl (by rw [(hm2 p hp).1]; rfl)) (S.fact (f := rfPs b3 0 out2) (by simp)) (fun p hp => isAt_nil (hm2 p hp).1) (S.fact (f := rfPs b4 0 out2) (by simp)) (fun p hp => isAt_nil (hm2 p hp).1)
  rw [decide_eq_true rfl] at hsm
  refine sy_call1 S hsm (by kernel_rfl) fun aa w hb S => ?_
  refine sy_run ⟨0, []⟩ 60 S fun bs aa w S => ?_
  exact sy_ret S (by kernel_rfl) (by kernel_rfl) fun hg => ⟨rfl, bel_gr hg⟩
set_option maxHeartbeats 8000000 in
theorem sl_s (w0 : World) (k : Nat) (hk : k < 256) (T : List Nat) (c1 : Nat) (a1 : Option Addr) (b o : Nat) (h1 : T.length = 0 ∨ a1 = some ⟨b, o, none⟩) (hn : T.length ≤ 200) (h256 : ∀ x ∈ T, x < 256) (hbn : T.length = 0 ∨ b < w0.heap.size) (m j : Nat) (hj : j < T.length) (ih : ∀ (v1 v2 : Value) (hd : (∀ b, Value.ownBlock v1 = some b → Value.ownBlock v2 = some b → False)) (aa : Act) (w : World) (S : Sy w0 [] [] (slS k a1 T.length c1 v1 v2 (j + 1)) [rfB8 b o T, rfOwn w0.heap.size 25 4 v1 ((stP k :: trnL (T.take (j + 1)))).length (pkV ((stP k :: trnL (T.take (j + 1))))), rfOwn w0.heap.size 25 4 v2 ((wntF k 0 (T.take (j + 1)))).length (pkV ((wntF k 0 (T.take (j + 1)))))] aa w), post Tryd.prog (.rnd (m) (bodyL slC) :: slC.k.tail) (bodyPost Tryd.prog Tryd.f8 (fun e w' => e = .returned (.bool true) ∧ Below w0.heap.size w0 w')) .normal aa w) (v1 v2 : Value) (hd : (∀ b, Value.ownBlock v1 = some b → Value.ownBlock v2 = some b → False)) (aa : Act) (w : World) (S : Sy w0 [] [] (slS k a1 T.length c1 v1 v2 (j)) [rfB8 b o T, rfOwn w0.heap.size 25 4 v1 ((stP k :: trnL (T.take (j)))).length (pkV ((stP k :: trnL (T.take (j))))), rfOwn w0.heap.size 25 4 v2 ((wntF k 0 (T.take (j)))).length (pkV ((wntF k 0 (T.take (j)))))] aa w) : post Tryd.prog (.rnd (m + 1) (bodyL slC) :: slC.k.tail) (bodyPost Tryd.prog Tryd.f8 (fun e w' => e = .returned (.bool true) ∧ Below w0.heap.size w0 w')) .normal aa w := by
  obtain ⟨ii, hi1, hi2, hi3, hi4⟩ := parts3 infPk
  have hx := h256 _ (getD_mem T j 0 hj)
  obtain ⟨e1, e2⟩ := trn_take hj
  have e2 := e2 k
  have hle1 : (stP k :: trnL (T.take (j))).length ≤ 201 := by unfold trnL; rw [List.length_cons, List.length_map, List.length_take]; omega
  have hle2 : (wntF k 0 (T.take (j))).length ≤ 200 := by have h1 := wntF_len k (T.take j) 0; rw [List.length_take] at h1; omega
  rw [e1, e2, ← List.cons_append] at ih
  clear e1 e2
  generalize (stP k :: trnL (T.take (j))) = out1 at ih S hle1
  generalize (wntF k 0 (T.take (j))) = out2 at ih S hle2
  have hx3 : (T.getD j 0) % 3 < 3 := Nat.mod_lt _ (by omega)
  generalize hX3 : (T.getD j 0) % 3 = x3 at ih hx3
  refine sy_run (c := ⟨(.rnd (m + 1) (bodyL slC) :: slC.k.tail), slS k a1 T.length c1 v1 v2 (j)⟩) ⟨0, [7]⟩ 50 S fun bs aa w S => ?_
  refine sy_reg S fun S => ?_
  refine sy_ops 4 S fun bs aa w S => ?_
  refine sy_cast 22 S (congrArg Value.bool (decide_eq_true (by omega) : decide ((j : Int) < (T.length : Int)) = true)) (by kernel_rfl) fun S => ?_
  refine sy_run ⟨0, [9]⟩ 60 S fun bs aa w S => ?_
  refine sy_reg S fun S => ?_
  refine sy_ops 2 S fun bs aa w S => ?_
  refine sy_ix (b := b) (off := o) (len := T.length) (n := j) (size := 1) (i := (j : Int)) S (by rw [← h1.resolve_left (by omega)]; kernel_rfl) rfl hj fun aa S => ?_
  refine sy_ldo S (ld_at (ty := 5) (v := .int .u8 (((T.getD j 0) : Nat) : Int)) (b := b) (off := o + j * 1) (by kernel_rfl) (by rw [Nat.mul_one]; exact S.fact (f := rfB8 b o T) (by simp) j hj)) (by kernel_rfl) fun aa S => ?_
  refine sy_ex (op := .binOp .rem 5 (.tmp 28) (.const (.int .u8 3)) 5) (ty := 5) (v := .int .u8 ((x3 : Nat) : Int)) S (by kernel_rfl) (ex_rem (ki := .u8) (p := (((T.getD j 0) : Nat) : Int)) (q := 3) (by kernel_rfl) (by kernel_rfl) (by decide) (by rw [← hX3]; rfl)) fun aa S => ?_
  refine sy_ops 1 S fun bs aa w S => ?_
  refine sy_cast 30 S (congrArg (Value.int .i64) (by rw [IntKind.wrap_i64]; omega : IntKind.i64.wrap ((x3 : Nat) : Int) = ((x3 : Nat) : Int))) (by kernel_rfl) fun S => ?_
  refine sy_run ⟨0, [10]⟩ 60 S fun bs aa w S => ?_
  refine sy_reg S fun S => ?_
  refine sy_ops 3 S fun bs aa w S => ?_
  refine sy_nm S fun bs S => ?_
  have how : w.ownsRow w0.heap.size 25 4 v1 out1.length (pkV out1) := S.fact (f := rfOwn w0.heap.size 25 4 v1 (out1).length (pkV (out1))) (by simp)
  have hap := (S.fs (rfOwn w0.heap.size 25 4 v1 (out1).length (pkV (out1))) (by simp)).2
  have hlto := (S.fs (rfOwn w0.heap.size 25 4 v2 (out2).length (pkV (out2))) (by simp)).1
  have hblk : ∀ j, j < bs.length → bs.getD j 0 < w.heap.size := fun j hj => S.lt hj
  have hbo : ∀ b2, Value.ownBlock v2 = some b2 → b2 < w.heap.size := fun b2 hb => (rfOwn w0.heap.size 25 4 v2 (out2).length (pkV (out2))).lt w hlto b2 hb
  refine sy_appO w0.heap.size (u := .v v1) (y := .s 1 0 1 1) (v := v1) (ad := adr bs 1 0) (m := 1) (cp := 1) (n := out1.length) (size := 4) (bytes := 48) (e := 25) (t := 22) (xs := pkV out1) (news := [.int .i64 1, .int .i64 ((x3 : Nat) : Int), .int .i64 0, .slice none 0 0]) [rfB8 b o T, rfOwn w0.heap.size 25 4 v2 (out2).length (pkV (out2))] S (by kernel_rfl) Tryd.underlying22 hi1 hi2 hi3 hi4 rfl (by omega) rfl rfl how S.gr.size (own3 (P := Tryd.prog) (ty := 25) (cs := [.int .i64 1, .int .i64 ((x3 : Nat) : Int), .int .i64 0, .slice none 0 0]) S 1 (by kernel_rfl)) rfl (by intro u hu; simp only [List.mem_cons, List.not_mem_nil, or_false] at hu; rcases hu with rfl | rfl | rfl | rfl <;> rfl) (by simp only [maxLen]; omega) (by omega)
    (fun g hg => Or.inr (how.lt g hg).1) (fun f hf => ⟨by simp only [List.mem_cons, List.not_mem_nil, or_false] at hf ⊢; rcases hf with rfl | rfl <;> simp, fun b2 hb => by
      have h9 := (how.lt b2 hb).1
      simp only [List.mem_cons, List.not_mem_nil, or_false] at hf
      rcases hf with rfl | rfl
      · intro hbl
        have h1 : b2 = b := hbl.1
        have h2 := hbn.resolve_left hbl.2
        omega
      · exact fun q => hd _ hb q⟩) (fun j hj hb => hap j hj hb)
    fun v1' aa w2 hO hg' hnn S => ?_
  have S := S.add (rfOwn w0.heap.size 25 4 v1' (out1 ++ [mkP x3]).length (pkV (out1 ++ [mkP x3]))) (by show World.ownsRow _ _ _ _ _ _ _; rw [pkV_snoc, List.length_append]; exact hO) (fun j hj hb => (hnn _ hb).elim (fun q => hap j hj q) (fun q => by have := hblk j hj; omega))
  have hd : (∀ b, Value.ownBlock v1' = some b → Value.ownBlock v2 = some b → False) := fun b2 q1 q2 => (hnn b2 q1).elim (fun q => hd b2 q q2) (fun q => by have := hbo b2 q2; omega)
  refine sy_run ⟨0, [11]⟩ 60 S fun bs aa w S => ?_
  refine sy_reg S fun S => ?_
  refine sy_ops 3 S fun bs aa w S => ?_
  by_cases hne : x3 = 1
  case neg =>
    rw [if_pos (Or.inl hne)] at ih
    refine sy_cast 38 S (congrArg Value.bool (by rw [decide_eq_false (by omega)]; rfl : (!decide (((x3 : Nat) : Int) = 1)) = true)) (by kernel_rfl) fun S => ?_
    refine sy_run ⟨0, [12]⟩ 60 S fun bs aa w S => ?_
    refine sy_reg S fun S => ?_
    refine sy_ops 3 S fun bs aa w S => ?_
    refine sy_nm S fun bs S => ?_
    have how : w.ownsRow w0.heap.size 25 4 v2 out2.length (pkV out2) := S.fact (f := rfOwn w0.heap.size 25 4 v2 (out2).length (pkV (out2))) (by simp)
    have hap := (S.fs (rfOwn w0.heap.size 25 4 v2 (out2).length (pkV (out2))) (by simp)).2
    have hlto := (S.fs (rfOwn w0.heap.size 25 4 v1' ((out1 ++ [mkP x3])).length (pkV ((out1 ++ [mkP x3])))) (by simp)).1
    have hblk : ∀ j, j < bs.length → bs.getD j 0 < w.heap.size := fun j hj => S.lt hj
    have hbo : ∀ b2, Value.ownBlock v1' = some b2 → b2 < w.heap.size := fun b2 hb => (rfOwn w0.heap.size 25 4 v1' ((out1 ++ [mkP x3])).length (pkV ((out1 ++ [mkP x3])))).lt w hlto b2 hb
    refine sy_appO w0.heap.size (u := .v v2) (y := .s 2 0 1 1) (v := v2) (ad := adr bs 2 0) (m := 1) (cp := 1) (n := out2.length) (size := 4) (bytes := 48) (e := 25) (t := 22) (xs := pkV out2) (news := [.int .i64 1, .int .i64 ((x3 : Nat) : Int), .int .i64 0, .slice none 0 0]) [rfB8 b o T, rfOwn w0.heap.size 25 4 v1' ((out1 ++ [mkP x3])).length (pkV ((out1 ++ [mkP x3])))] S (by kernel_rfl) Tryd.underlying22 hi1 hi2 hi3 hi4 rfl (by omega) rfl rfl how S.gr.size (own3 (P := Tryd.prog) (ty := 25) (cs := [.int .i64 1, .int .i64 ((x3 : Nat) : Int), .int .i64 0, .slice none 0 0]) S 2 (by kernel_rfl)) rfl (by intro u hu; simp only [List.mem_cons, List.not_mem_nil, or_false] at hu; rcases hu with rfl | rfl | rfl | rfl <;> rfl) (by simp only [maxLen]; omega) (by omega)
      (fun g hg => Or.inr (how.lt g hg).1) (fun f hf => ⟨by simp only [List.mem_cons, List.not_mem_nil, or_false] at hf ⊢; rcases hf with rfl | rfl <;> simp, fun b2 hb => by
        have h9 := (how.lt b2 hb).1
        simp only [List.mem_cons, List.not_mem_nil, or_false] at hf
        rcases hf with rfl | rfl
        · intro hbl
          have h1 : b2 = b := hbl.1
          have h2 := hbn.resolve_left hbl.2
          omega
        · exact fun q => hd _ q hb⟩) (fun j hj hb => hap j hj hb)
      fun v2' aa w2 hO hg' hnn S => ?_
    have S := S.add (rfOwn w0.heap.size 25 4 v2' (out2 ++ [mkP x3]).length (pkV (out2 ++ [mkP x3]))) (by show World.ownsRow _ _ _ _ _ _ _; rw [pkV_snoc, List.length_append]; exact hO) (fun j hj hb => (hnn _ hb).elim (fun q => hap j hj q) (fun q => by have := hblk j hj; omega))
    have hd : (∀ b, Value.ownBlock v1' = some b → Value.ownBlock v2' = some b → False) := fun b2 q2 q1 => (hnn b2 q1).elim (fun q => hd b2 q2 q) (fun q => by have := hbo b2 q2; omega)
    refine sy_run ⟨0, [8]⟩ 60 S fun bs aa w S => ?_
    refine sy_reg S fun S => ?_
    refine sy_ops 2 S fun bs aa w S => ?_
    refine sy_cast 24 S (congrArg (Value.int .i64) (by rw [IntKind.wrap_i64]; omega : IntKind.i64.wrap ((j : Int) + 1) = ((j + 1 : Nat) : Int))) (by kernel_rfl) fun S => ?_
    refine sy_run ⟨0, [999]⟩ 50 S fun bs aa w S => ?_
    have S := S.sub (F' := [rfB8 b o T, rfOwn w0.heap.size 25 4 v1' (out1 ++ [mkP x3]).length (pkV (out1 ++ [mkP x3])), rfOwn w0.heap.size 25 4 v2' (out2 ++ [mkP x3]).length (pkV (out2 ++ [mkP x3]))]) (by intro f hf; simp only [List.mem_cons, List.not_mem_nil, or_false] at hf; rcases hf with rfl | rfl | rfl <;> simp)
    have S2 := S.to [] (slS k a1 T.length c1 v1' v2' (j + 1)) (by kernel_rfl) (by kernel_rfl) (by kernel_rfl) (by kernel_rfl) (by kernel_rfl)
    refine sy_at2 (k' := (.rnd (m) (bodyL slC) :: slC.k.tail)) (by kernel_rfl) ?_
    exact ih v1' v2' hd aa w S2
  refine sy_cast 38 S (congrArg Value.bool (by rw [decide_eq_true (by omega)]; rfl : (!decide (((x3 : Nat) : Int) = 1)) = false)) (by kernel_rfl) fun S => ?_
  refine sy_ops 3 S fun bs aa w S => ?_
  refine sy_cast 41 S (congrArg (Value.int .i64) (by rw [IntKind.wrap_i64]; omega : IntKind.i64.wrap ((j : Int) + 1) = ((j : Int) + 1))) (by kernel_rfl) fun S => ?_
  refine sy_ops 2 S fun bs aa w S => ?_
  refine sy_cast 43 S (congrArg (Value.int .i64) (by rw [IntKind.wrap_i64]; omega : IntKind.i64.wrap (k : Int) = (k : Int))) (by kernel_rfl) fun S => ?_
  refine sy_ops 1 S fun bs aa w S => ?_
  by_cases hgt : k < j + 1
  · rw [if_pos (Or.inr hgt)] at ih
    refine sy_cast 44 S (congrArg Value.bool (decide_eq_true (by omega) : decide ((j : Int) + 1 > (k : Int)) = true)) (by kernel_rfl) fun S => ?_
    refine sy_run ⟨0, [12]⟩ 60 S fun bs aa w S => ?_
    refine sy_reg S fun S => ?_
    refine sy_ops 3 S fun bs aa w S => ?_
    refine sy_nm S fun bs S => ?_
    have how : w.ownsRow w0.heap.size 25 4 v2 out2.length (pkV out2) := S.fact (f := rfOwn w0.heap.size 25 4 v2 (out2).length (pkV (out2))) (by simp)
    have hap := (S.fs (rfOwn w0.heap.size 25 4 v2 (out2).length (pkV (out2))) (by simp)).2
    have hlto := (S.fs (rfOwn w0.heap.size 25 4 v1' ((out1 ++ [mkP x3])).length (pkV ((out1 ++ [mkP x3])))) (by simp)).1
    have hblk : ∀ j, j < bs.length → bs.getD j 0 < w.heap.size := fun j hj => S.lt hj
    have hbo : ∀ b2, Value.ownBlock v1' = some b2 → b2 < w.heap.size := fun b2 hb => (rfOwn w0.heap.size 25 4 v1' ((out1 ++ [mkP x3])).length (pkV ((out1 ++ [mkP x3])))).lt w hlto b2 hb
    refine sy_appO w0.heap.size (u := .v v2) (y := .s 2 0 1 1) (v := v2) (ad := adr bs 2 0) (m := 1) (cp := 1) (n := out2.length) (size := 4) (bytes := 48) (e := 25) (t := 22) (xs := pkV out2) (news := [.int .i64 1, .int .i64 ((x3 : Nat) : Int), .int .i64 0, .slice none 0 0]) [rfB8 b o T, rfOwn w0.heap.size 25 4 v1' ((out1 ++ [mkP x3])).length (pkV ((out1 ++ [mkP x3])))] S (by kernel_rfl) Tryd.underlying22 hi1 hi2 hi3 hi4 rfl (by omega) rfl rfl how S.gr.size (own3 (P := Tryd.prog) (ty := 25) (cs := [.int .i64 1, .int .i64 ((x3 : Nat) : Int), .int .i64 0, .slice none 0 0]) S 2 (by kernel_rfl)) rfl (by intro u hu; simp only [List.mem_cons, List.not_mem_nil, or_false] at hu; rcases hu with rfl | rfl | rfl | rfl <;> rfl) (by simp only [maxLen]; omega) (by omega)
      (fun g hg => Or.inr (how.lt g hg).1) (fun f hf => ⟨by simp only [List.mem_cons, List.not_mem_nil, or_false] at hf ⊢; rcases hf with rfl | rfl <;> simp, fun b2 hb => by
        have h9 := (how.lt b2 hb).1
        simp only [List.mem_cons, List.not_mem_nil, or_false] at hf
        rcases hf with rfl | rfl
        · intro hbl
          have h1 : b2 = b := hbl.1
          have h2 := hbn.resolve_left hbl.2
          omega
        · exact fun q => hd _ q hb⟩) (fun j hj hb => hap j hj hb)
      fun v2' aa w2 hO hg' hnn S => ?_
    have S := S.add (rfOwn w0.heap.size 25 4 v2' (out2 ++ [mkP x3]).length (pkV (out2 ++ [mkP x3]))) (by show World.ownsRow _ _ _ _ _ _ _; rw [pkV_snoc, List.length_append]; exact hO) (fun j hj hb => (hnn _ hb).elim (fun q => hap j hj q) (fun q => by have := hblk j hj; omega))
    have hd : (∀ b, Value.ownBlock v1' = some b → Value.ownBlock v2' = some b → False) := fun b2 q2 q1 => (hnn b2 q1).elim (fun q => hd b2 q2 q) (fun q => by have := hbo b2 q2; omega)
    refine sy_run ⟨0, [8]⟩ 60 S fun bs aa w S => ?_
    refine sy_reg S fun S => ?_
    refine sy_ops 2 S fun bs aa w S => ?_
    refine sy_cast 24 S (congrArg (Value.int .i64) (by rw [IntKind.wrap_i64]; omega : IntKind.i64.wrap ((j : Int) + 1) = ((j + 1 : Nat) : Int))) (by kernel_rfl) fun S => ?_
    refine sy_run ⟨0, [999]⟩ 50 S fun bs aa w S => ?_
    have S := S.sub (F' := [rfB8 b o T, rfOwn w0.heap.size 25 4 v1' (out1 ++ [mkP x3]).length (pkV (out1 ++ [mkP x3])), rfOwn w0.heap.size 25 4 v2' (out2 ++ [mkP x3]).length (pkV (out2 ++ [mkP x3]))]) (by intro f hf; simp only [List.mem_cons, List.not_mem_nil, or_false] at hf; rcases hf with rfl | rfl | rfl <;> simp)
    have S2 := S.to [] (slS k a1 T.length c1 v1' v2' (j + 1)) (by kernel_rfl) (by kernel_rfl) (by kernel_rfl) (by kernel_rfl) (by kernel_rfl)
    refine sy_at2 (k' := (.rnd (m) (bodyL slC) :: slC.k.tail)) (by kernel_rfl) ?_
    exact ih v1' v2' hd aa w S2
  · rw [if_neg (by omega), List.append_nil] at ih
    refine sy_cast 44 S (congrArg Value.bool (decide_eq_false (by omega) : decide ((j : Int) + 1 > (k : Int)) = false)) (by kernel_rfl) fun S => ?_
    refine sy_run ⟨0, [8]⟩ 60 S fun bs aa w S => ?_
    refine sy_reg S fun S => ?_
    refine sy_ops 2 S fun bs aa w S => ?_
    refine sy_cast 24 S (congrArg (Value.int .i64) (by rw [IntKind.wrap_i64]; omega : IntKind.i64.wrap ((j : Int) + 1) = ((j + 1 : Nat) : Int))) (by kernel_rfl) fun S => ?_
    refine sy_run ⟨0, [999]⟩ 50 S fun bs aa w S => ?_
    have S := S.sub (F' := [rfB8 b o T, rfOwn w0.heap.size 25 4 v1' (out1 ++ [mkP x3]).length (pkV (out1 ++ [mkP x3])), rfOwn w0.heap.size 25 4 v2 (out2).length (pkV (out2))]) (by intro f hf; simp only [List.mem_cons, List.not_mem_nil, or_false] at hf; rcases hf with rfl | rfl | rfl <;> simp)
    have S2 := S.to [] (slS k a1 T.length c1 v1' v2 (j + 1)) (by kernel_rfl) (by kernel_rfl) (by kernel_rfl) (by kernel_rfl) (by kernel_rfl)
    refine sy_at2 (k' := (.rnd (m) (bodyL slC) :: slC.k.tail)) (by kernel_rfl) ?_
    exact ih v1' v2 hd aa w S2
theorem sl_a (w0 : World) (k : Nat) (hk : k < 256) (T : List Nat) (c1 : Nat) (a1 : Option Addr) (b o : Nat) (h1 : T.length = 0 ∨ a1 = some ⟨b, o, none⟩) (hn : T.length ≤ 200) (h256 : ∀ x ∈ T, x < 256) (hbn : T.length = 0 ∨ b < w0.heap.size) : ∀ (m j : Nat), j + m = T.length → ∀ (v1 v2 : Value) (hd : (∀ b, Value.ownBlock v1 = some b → Value.ownBlock v2 = some b → False)) (aa : Act) (w : World) (S : Sy w0 [] [] (slS k a1 T.length c1 v1 v2 (j)) [rfB8 b o T, rfOwn w0.heap.size 25 4 v1 ((stP k :: trnL (T.take (j)))).length (pkV ((stP k :: trnL (T.take (j))))), rfOwn w0.heap.size 25 4 v2 ((wntF k 0 (T.take (j)))).length (pkV ((wntF k 0 (T.take (j)))))] aa w), post Tryd.prog (.rnd (m + 1) (bodyL slC) :: slC.k.tail) (bodyPost Tryd.prog Tryd.f8 (fun e w' => e = .returned (.bool true) ∧ Below w0.heap.size w0 w')) .normal aa w := by
  intro m
  induction m with
  | zero =>
    intro j hj v1 v2 hd aa w S
    obtain rfl : j = T.length := by omega
    rw [List.take_length] at S
    exact sl_e w0 k hk T c1 a1 b o h1 hn h256 hbn 0 v1 v2 hd aa w S
  | succ m ih => intro j hj v1 v2 hd aa w S; exact sl_s w0 k hk T c1 a1 b o h1 hn h256 hbn (m + 1) j (by omega) (fun v1 v2 hd aa w S => ih (j + 1) (by omega) v1 v2 hd aa w S) v1 v2 hd aa w S
set_option maxHeartbeats 8000000 in
theorem stalls_all (w0 : World) (hm : rfMx.P w0) (ht : rfTb.P w0) (k : Nat) (hk : k < 256) (a : Option Addr) (cp b o : Nat) (T : List Nat) (ha : T.length = 0 ∨ a = some ⟨b, o, none⟩) (hAt : B8At w0 b o T) (h256 : ∀ x ∈ T, x < 256) : Calls Tryd.prog 8 #[.int .u8 (k : Int), .slice a T.length cp] w0 (fun e w' => e = .returned (.bool true) ∧ Below w0.heap.size w0 w') := by
  have h00 : 1 < w0.heap.size := rfTb.lt w0 ht 1 rfl
  have hbn : T.length = 0 ∨ b < w0.heap.size := by
    rcases Nat.eq_zero_or_pos T.length with h | h
    · exact Or.inl h
    · exact Or.inr ((rfB8 b o T).lt w0 hAt b ⟨rfl, by omega⟩)
  refine sy_enterF [] [rfB8 b o T, rfMx, rfTb] (by intro f hf; simp only [List.mem_cons, List.not_mem_nil, or_false] at hf; rcases hf with rfl | rfl | rfl; exact hAt; exact hm; exact ht) Tryd.func8 rfl rfl fun aa S => ?_
  refine sy_run ⟨0, [1]⟩ 60 S fun bs aa w S => ?_
  refine sy_reg S fun S => ?_
  have hsz := S.gr.size
  refine sy_call1 S (sane27 _ (by omega) (S.fact (f := rfMx) (by simp)) (S.fact (f := rfTb) (by simp))) (by kernel_rfl) fun aa w hb2 S => ?_
  refine sy_run ⟨0, [2]⟩ 60 S fun bs aa w S => ?_
  refine sy_reg S fun S => ?_
  refine sy_ops 2 S fun bs aa w S => ?_
  refine sy_ops 1 S fun bs aa w S => ?_
  by_cases hn : T.length ≤ 200
  case neg =>
    refine sy_cast 13 S (congrArg Value.bool (decide_eq_true (by omega) : decide ((T.length : Int) > 200) = true)) (by kernel_rfl) fun S => ?_
    refine sy_run ⟨0, []⟩ 60 S fun bs aa w S => ?_
    exact sy_ret S (by kernel_rfl) (by kernel_rfl) fun hg => ⟨rfl, bel_gr hg⟩
  refine sy_cast 13 S (congrArg Value.bool (decide_eq_false (by omega) : decide ((T.length : Int) > 200) = false)) (by kernel_rfl) fun S => ?_
  refine sy_run ⟨0, [4]⟩ 60 S fun bs aa w S => ?_
  refine sy_reg S fun S => ?_
  refine sy_ops 2 S fun bs aa w S => ?_
  refine sy_cast 16 S (congrArg (Value.int .i64) (by rw [IntKind.wrap_i64]; omega : IntKind.i64.wrap (k : Int) = (k : Int))) (by kernel_rfl) fun S => ?_
  refine sy_run ⟨0, []⟩ 60 S fun bs aa w S => ?_
  refine sy_nm S fun bs S => ?_
  have hbx := S.bx 0 ⟨25, [.int .i64 2, .int .i64 1, .int .i64 (k : Int), .slice none 0 0]⟩ (by kernel_rfl)
  have hgs : w0.heap.size ≤ bs.getD 0 0 := S.lo0 0 (by rw [S.bl]; exact Nat.le_of_ble_eq_true (by kernel_rfl))
  have S := S.plain 6 (x := .s 0 0 1 1) (by kernel_rfl)
  have S := S.sub (F' := [rfB8 b o T]) (by intro f hf; simp only [List.mem_singleton] at hf; subst hf; simp)
  have S2 := S.to [] (slS k a T.length cp (.slice (some ⟨bs.getD 0 0, 0, none⟩) [stP k].length 1) (.slice none 0 0) 0) (by kernel_rfl) (by kernel_rfl) (by kernel_rfl) (by kernel_rfl) (by kernel_rfl)
  have S2 := S2.add (rfOwn w0.heap.size 25 4 (.slice (some ⟨bs.getD 0 0, 0, none⟩) [stP k].length 1) ([stP k]).length (pkV ([stP k]))) (own_st hbx hgs) (fun j hj hb => absurd hj (Nat.not_lt_zero _))
  have S2 := S2.add (rfOwn w0.heap.size 25 4 (.slice none 0 0) (([] : List Pk)).length (pkV (([] : List Pk)))) (own_nilP _ _) (fun i hi hbl => by cases hbl)
  have S2 := S2.sub (F' := [rfB8 b o T, rfOwn w0.heap.size 25 4 (.slice (some ⟨bs.getD 0 0, 0, none⟩) [stP k].length 1) ([stP k]).length (pkV ([stP k])), rfOwn w0.heap.size 25 4 (.slice none 0 0) (([] : List Pk)).length (pkV (([] : List Pk)))]) (by intro f hf; simp only [List.mem_cons, List.not_mem_nil, or_false] at hf; rcases hf with rfl | rfl | rfl <;> simp)
  refine sy_loop (T.length + 1) (by kernel_rfl) ?_
  refine sy_at2 (k' := (.rnd (T.length + 1) (bodyL slC) :: slC.k.tail)) (by kernel_rfl) ?_
  exact sl_a w0 k hk T cp a b o ha hn h256 hbn T.length 0 (by omega) _ _ (fun b q1 q2 => by cases q2) aa w S2
end Go.Proofs.YtfkmcibglaiakaaDoor
