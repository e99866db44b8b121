
/-
  Layer 27: the text of a run of picks.
-/
import Derived.Test.YtfkmcibglaiakaaDoorRows
import Derived.Test.YtfkmcibglaiakaaDoorBase
import Derived.Test.YtfkmcibglaiakaaDoorScD
import Derived.Lib.AppendIntMem
import Derived.Lib.ItoaLen
import Derived.WalkKit
namespace Go.Proofs.YtfkmcibglaiakaaDoor
open Go Go.RowKit SZ
set_option linter.unusedVariables false
set_option linter.unusedSimpArgs false
set_option maxRecDepth 100000
attribute [local irreducible] post GD Nxt NxtAll
theorem inter_map (f : Nat → UInt8) (s : List Nat) : ∀ xs : List (List Nat), (s.intercalate xs).map f = (s.map f).intercalate (xs.map fun x => x.map f)
  | [] => rfl
  | [x] => by simp [List.intercalate]
  | x :: y :: r => by
    have ih := inter_map f s (y :: r)
    simp only [List.intercalate] at ih ⊢
    simp only [List.map_cons, List.intersperse_cons_cons, List.flatten_cons, List.map_append] at ih ⊢
    rw [ih]
def joinN (c : Nat) (ls : List (List Nat)) : List Nat := [c].intercalate ls
def stV (ls : List (List Nat)) : List Value := ls.map fun l => .string (strOf l)
theorem stV_snoc (ls : List (List Nat)) (l : List Nat) : stV (ls ++ [l]) = stV ls ++ [.string (strOf l)] := by simp [stV]
theorem join_l (w : World) (c B : Nat) (ts : List (List Nat)) (v : Value) (hb : (joinN c ts).length ≤ 100000000) (hn : ts.length ≤ 100000) (h : w.ownsRow B 9 1 v ts.length (stV ts)) (hw : ∀ g, v.ownBlock = some g → g < w.heap.size) : Calls Tryd.prog 33 #[v, .string (strOf [c])] w fun e w' => e = .returned (.string (strOf (joinN c ts))) ∧ Below w.heap.size w w' := by
  have h0 := h
  by_cases hz : ts.length = 0
  · obtain rfl := List.eq_nil_of_length_eq_zero hz
    rcases h.2 with ⟨rfl, _⟩ | ⟨g, cap, cur, rfl, _⟩
    · exact (Tryd.strings_Join_none none 0 (strOf [c]) w).mono fun e w' ⟨h1, h2⟩ => ⟨h1, by rw [h2]; exact Below.refl _ _⟩
    · exact (Tryd.strings_Join_none (some ⟨g, 0, none⟩) cap (strOf [c]) w).mono fun e w' ⟨h1, h2⟩ => ⟨h1, by rw [h2]; exact Below.refl _ _⟩
  · rcases h.2 with ⟨_, hz2⟩ | ⟨g, cap, cur, rfl, hb0, hg, hnc, hc, _, _⟩
    · exact absurd hz2 hz
    · have hd : ∀ l : List Nat, (strOf l).data.toList = l.map UInt8.ofNat := fun l => by simp [strOf]
      have hj : Lib.join ((ts.map strOf).map (·.data.toList)) (strOf [c]).data.toList = (joinN c ts).map UInt8.ofNat := by
        unfold joinN Lib.join
        rw [inter_map, hd, List.map_map]
        rfl
      have hx := Tryd.strings_Join g 0 cap (ts.map strOf) (strOf [c]) w (fun j x hx => by
        have hjl : j < ts.length := by
          have := (List.getElem?_eq_some_iff.1 hx).1
          simpa using this
        rw [Nat.zero_add, h0.cellAt j (by omega)]
        unfold stV
        rw [List.getElem?_map] at hx ⊢
        rw [List.getElem?_eq_getElem hjl] at hx ⊢
        simp only [Option.map_some, Option.some.injEq] at hx ⊢
        rw [hx]) (hw g rfl) (by rw [List.length_map]; omega) (by rw [List.length_map]; exact hnc) (by rw [hj, List.length_map]; omega)
      rw [hj, List.length_map] at hx
      exact hx
/-- The library's table of powers. -/
def rfTb : RF := ⟨fun b => b = 1, fun w => Lib.TabIs Tryd.prog w "internal/strconv.uint64pow10" .u64 Lib.pow10Tab, fun w h b hb => (by
  subst hb
  have hg : Tryd.prog.globalNamed "internal/strconv.uint64pow10" = some 1 := by kernel_rfl
  unfold Lib.TabIs World.var? at h
  rw [hg] at h
  simp only [Option.bind_some] at h
  split at h
  · next cs t f hb => exact (Array.getElem?_eq_some_iff.1 hb).1
  · cases h), fun w w' h hb => by
  have hg : Tryd.prog.globalNamed "internal/strconv.uint64pow10" = some 1 := by kernel_rfl
  have e := hb 1 rfl
  unfold Lib.TabIs World.var? at h ⊢
  rw [hg] at h ⊢
  simp only [Option.bind_some] at h ⊢
  rw [e]
  exact h⟩
/-- The numeral of an int, as bytes. -/
def digL (n : Int) : List Nat := (Lib.itoa n).map fun b => b.toNat
theorem digL_lt (n : Int) : ∀ b ∈ digL n, b < 256 := by
  intro b hb
  simp only [digL, List.mem_map] at hb
  obtain ⟨x, _, rfl⟩ := hb
  exact x.toNat_lt
theorem strOf_digL (n : Int) : strOf (digL n) = ⟨(Lib.itoa n).toArray⟩ := by
  unfold strOf digL
  rw [List.map_map]
  congr 2
  conv => rhs; rw [← List.map_id (Lib.itoa n)]
  apply List.map_congr_left
  intro x _
  simp
theorem digL_len {n : Int} (h : I64 n) : (digL n).length ≤ 21 := by
  unfold digL
  rw [List.length_map]
  exact Lib.itoa_length_le n (by unfold I64 at h; omega) (by unfold I64 at h; omega)
theorem itoa_t (w : World) (ht : rfTb.P w) {n : Int} (h : I64 n) : Calls Tryd.prog 43 #[.int .i64 n] w fun e w' => e = .returned (.string (strOf (digL n))) ∧ Below w.heap.size w w' := by
  unfold I64 at h
  refine (Tryd.strconv_Itoa n (by omega) (by omega) w ht).mono fun e w' ⟨h1, k, os, h2⟩ => ⟨by rw [h1, strOf_digL], by rw [h2]; exact Lib.below_grow _ w (Nat.le_refl _) k os⟩
/-- The text of a run of picks. -/
def wordT (p : Pw) (n : Int) : List Nat :=
  if p.k = 2 then digL p.a ++ [126] ++ digL p.b
  else if p.k = 3 then [33] ++ joinN 44 (p.c.map digL)
  else if n > 1 then digL p.a ++ [120] ++ digL n
  else digL p.a
theorem joinN_len (c m : Nat) : ∀ ls : List (List Nat), (∀ l ∈ ls, l.length ≤ m) → (joinN c ls).length ≤ ls.length * (m + 1)
  | [], _ => by simp [joinN, List.intercalate]
  | [x], h => by have := h x (by simp); simp [joinN, List.intercalate]; omega
  | x :: y :: r, h => by
    have ih := joinN_len c m (y :: r) (fun l hl => h l (by simp only [List.mem_cons] at hl ⊢; exact Or.inr hl))
    have hx := h x (by simp)
    simp only [joinN, List.intercalate] at ih ⊢
    simp only [List.intersperse_cons_cons, List.flatten_cons, List.length_append, List.length_cons, List.length_nil] at ih ⊢
    rw [show (r.length + 1 + 1) * (m + 1) = (r.length + 1) * (m + 1) + (m + 1) by rw [Nat.add_mul]; omega]
    omega
theorem infStr : (Tryd.prog.info? 9).map (fun i => (i.zero, i.size, i.bytes)) = some (some (.string ByteArray.empty), 1, 16) := by kernel_rfl
noncomputable def woC : Cfg := ⟨goZ 60 [0, 1] [.code (bodyOf Tryd.f32)], ⟨0, [], []⟩⟩
noncomputable def woS (p : Pk) (v : Value) (j : Nat) : SS := ⟨50, [(5, .v v), (23, .v (.slice p.s p.c.length p.cp)), (24, .v (.int .i64 (p.c.length : Int))), (25, .v (.int .i64 (j : Int)))], []⟩
theorem cuts_len {c : List Int} (hc : c.length ≤ 1000) (hI : ∀ x ∈ c, I64 x) : (joinN 44 (c.map digL)).length ≤ 22000 := by
  have h := joinN_len 44 21 (c.map digL) (fun l hl => by
    simp only [List.mem_map] at hl
    obtain ⟨x, hx, rfl⟩ := hl
    exact digL_len (hI x hx))
  rw [List.length_map] at h
  omega
theorem tab_of (w : World) (h : rfTb.P w) : rfTb.P w := h
set_option maxHeartbeats 8000000 in
theorem wo_e (w0 : World) (h00 : 1 < w0.heap.size) (p : Pk) (hok : p.ok) (n : Int) (hc : p.c.length ≤ 1000) (hI : ∀ x ∈ p.c, I64 x) (hk2 : ¬p.k = 2) (hk3 : p.k = 3) (m : Nat) (v : Value) (hv : ∀ b, Value.ownBlock v = some b → p.c.length = 0 ∨ b ≠ p.bl) (aa : Act) (w : World) (S : Sy w0 [] [] (woS p v (p.c.length)) [rfIs p.bl p.o p.c, rfOwn w0.heap.size 9 1 v (p.c.length) (stV ((p.c.take (p.c.length)).map digL)), rfTb] aa w) : post Tryd.prog (.rnd (m + 1) (bodyL woC) :: woC.k.tail) (bodyPost Tryd.prog Tryd.f32 (fun e w' => e = .returned (.string (strOf (wordT p.w n))) ∧ Below w0.heap.size w0 w')) .normal aa w := by
  have hl := cuts_len hc hI
  refine sy_run (c := ⟨(.rnd (m + 1) (bodyL woC) :: woC.k.tail), woS p v p.c.length⟩) ⟨0, [7]⟩ 50 S fun bs aa w S => ?_
  refine sy_reg S fun S => ?_
  refine sy_ops 1 S fun bs aa w S => ?_
  refine sy_cast 26 S (congrArg Value.bool (decide_eq_false (by omega) : decide ((p.c.length : Int) < (p.c.length : Int)) = false)) (by kernel_rfl) fun S => ?_
  refine sy_run ⟨0, [11]⟩ 60 S fun bs aa w S => ?_
  refine sy_reg S fun S => ?_
  refine sy_ops 1 S fun bs aa w S => ?_
  have how : w.ownsRow w0.heap.size 9 1 v p.c.length (stV ((p.c.take p.c.length).map digL)) := S.fact (f := rfOwn w0.heap.size 9 1 v (p.c.length) (stV ((p.c.take (p.c.length)).map digL))) (by simp)
  rw [List.take_length] at how
  have hjl := join_l w 44 w0.heap.size (p.c.map digL) v (by omega) (by rw [List.length_map]; omega) (by rw [List.length_map]; exact how) (fun g hg => (how.lt g hg).2)
  refine sy_call1 S hjl (by kernel_rfl) fun aa w hb S => ?_
  refine sy_ex (op := .binOp .add 9 (.const (.string ⟨#[33]⟩)) (.tmp 36) 9) (ty := 9) (v := .string (strOf ([33] ++ (joinN 44 (p.c.map digL))))) S (by kernel_rfl) (fun o ρ W g1 g2 g3 => by
    have h := ex_cat (P := Tryd.prog) (x := (.const (.string ⟨#[33]⟩))) (y := (.tmp 36)) (t := 9) (t' := 9) (ty := 9) (p := strOf ([33])) (q := strOf ((joinN 44 (p.c.map digL)))) Tryd.underlying9 (by kernel_rfl) (by kernel_rfl) (by rw [strOf_size, strOf_size]; simp only [List.length_singleton]; omega) o ρ W g1 g2 g3
    rw [strOf_app] at h
    exact h) fun aa S => ?_
  refine sy_run ⟨0, []⟩ 60 S fun bs aa w S => ?_
  have hw : wordT p.w n = [33] ++ (joinN 44 (p.c.map digL)) := by show (if p.k = 2 then digL p.a ++ [126] ++ digL p.b else if p.k = 3 then [33] ++ joinN 44 (p.c.map digL) else if n > 1 then digL p.a ++ [120] ++ digL n else digL p.a) = _; rw [if_neg hk2, if_pos hk3]
  rw [hw]
  exact sy_ret S (by kernel_rfl) (by kernel_rfl) fun hg => ⟨rfl, bel_gr hg⟩
set_option maxHeartbeats 8000000 in
theorem wo_s (w0 : World) (h00 : 1 < w0.heap.size) (p : Pk) (hok : p.ok) (n : Int) (hc : p.c.length ≤ 1000) (hI : ∀ x ∈ p.c, I64 x) (hk2 : ¬p.k = 2) (hk3 : p.k = 3) (m j : Nat) (hj : j < p.c.length) (ih : ∀ (v : Value) (hv : ∀ b, Value.ownBlock v = some b → p.c.length = 0 ∨ b ≠ p.bl) (aa : Act) (w : World) (S : Sy w0 [] [] (woS p v (j + 1)) [rfIs p.bl p.o p.c, rfOwn w0.heap.size 9 1 v (j + 1) (stV ((p.c.take (j + 1)).map digL)), rfTb] aa w), post Tryd.prog (.rnd (m) (bodyL woC) :: woC.k.tail) (bodyPost Tryd.prog Tryd.f32 (fun e w' => e = .returned (.string (strOf (wordT p.w n))) ∧ Below w0.heap.size w0 w')) .normal aa w) (v : Value) (hv : ∀ b, Value.ownBlock v = some b → p.c.length = 0 ∨ b ≠ p.bl) (aa : Act) (w : World) (S : Sy w0 [] [] (woS p v (j)) [rfIs p.bl p.o p.c, rfOwn w0.heap.size 9 1 v (j) (stV ((p.c.take (j)).map digL)), rfTb] aa w) : post Tryd.prog (.rnd (m + 1) (bodyL woC) :: woC.k.tail) (bodyPost Tryd.prog Tryd.f32 (fun e w' => e = .returned (.string (strOf (wordT p.w n))) ∧ Below w0.heap.size w0 w')) .normal aa w := by
  have hIj : I64 (p.c.getD j 0) := hI _ (getD_mem p.c j 0 hj)
  obtain ⟨ii, hi1, hi2, hi3, hi4⟩ := parts3 infStr
  refine sy_run (c := ⟨(.rnd (m + 1) (bodyL woC) :: woC.k.tail), woS p v j⟩) ⟨0, [7]⟩ 50 S fun bs aa w S => ?_
  refine sy_reg S fun S => ?_
  refine sy_ops 1 S fun bs aa w S => ?_
  refine sy_cast 26 S (congrArg Value.bool (decide_eq_true (by omega) : decide ((j : Int) < (p.c.length : Int)) = true)) (by kernel_rfl) fun S => ?_
  refine sy_run ⟨0, [8]⟩ 60 S fun bs aa w S => ?_
  refine sy_reg S fun S => ?_
  refine sy_ix (b := p.bl) (off := p.o) (len := p.c.length) (n := j) (size := 1) (i := (j : Int)) S (by rw [← hok.resolve_left (by omega)]; kernel_rfl) rfl hj fun aa S => ?_
  refine sy_ldo S (ld_at (ty := 3) (b := p.bl) (off := p.o + j * 1) (by kernel_rfl) (by rw [Nat.mul_one]; exact S.fact (f := rfIs p.bl p.o p.c) (by simp) j hj)) (by kernel_rfl) fun aa S => ?_
  refine sy_run ⟨0, [9]⟩ 60 S fun bs aa w S => ?_
  refine sy_reg S fun S => ?_
  refine sy_ops 2 S fun bs aa w S => ?_
  refine sy_call1 S (itoa_t _ (S.fact (f := rfTb) (by simp)) hIj) (by kernel_rfl) fun aa w hb S => ?_
  refine sy_ops 1 S fun bs aa w S => ?_
  refine sy_nm S fun bs S => ?_
  have how := S.fact (f := rfOwn w0.heap.size 9 1 v (j) (stV ((p.c.take (j)).map digL))) (by simp)
  have hap := (S.fs (rfOwn w0.heap.size 9 1 v (j) (stV ((p.c.take (j)).map digL))) (by simp)).2
  have hblk : ∀ j, j < bs.length → bs.getD j 0 < w.heap.size := fun j hj => S.lt hj
  have hpl : p.bl < w.heap.size := (rfIs p.bl p.o p.c).lt w (S.fact (f := rfIs p.bl p.o p.c) (by simp)) p.bl ⟨rfl, by omega⟩
  refine sy_appO w0.heap.size (u := .v v) (y := .s 0 0 1 1) (v := v) (ad := adr bs 0 0) (m := 1) (cp := 1) (n := j) (size := 1) (bytes := 16) (e := 9) (t := 49) (xs := stV ((p.c.take j).map digL)) (news := [.string (strOf (digL (p.c.getD j 0)))]) [rfIs p.bl p.o p.c, rfTb] S (by kernel_rfl) Tryd.underlying49 hi1 hi2 hi3 hi4 rfl (by omega) rfl rfl how S.gr.size (own3 (P := Tryd.prog) (ty := 9) (cs := [.string (strOf (digL (p.c.getD j 0)))]) S 0 (by kernel_rfl)) rfl (by intro u hu; simp only [List.mem_singleton] at hu; subst hu; rfl) (by simp only [maxLen]; omega) (by omega)
    (fun g hg => Or.inr (how.lt g hg).1) (fun f hf => ⟨by simp only [List.mem_cons, List.not_mem_nil, or_false] at hf ⊢; rcases hf with rfl | rfl <;> simp, fun b hb => by
      simp only [List.mem_cons, List.not_mem_nil, or_false] at hf
      rcases hf with rfl | rfl
      · intro hbl
        exact (hv b hb).elim (fun h => hbl.2 h) (fun h => h hbl.1)
      · intro hbl
        have h1 : b = 1 := hbl
        have h2 := (how.lt b hb).1
        omega⟩) (fun j hj hb => hap j hj hb)
    fun v' aa w2 hO hg' hnn S => ?_
  have S := S.add (rfOwn w0.heap.size 9 1 v' (j + 1) (stV ((p.c.take (j + 1)).map digL))) (by show World.ownsRow _ _ _ _ _ _ _; rw [show (p.c.take (j + 1)).map digL = (p.c.take j).map digL ++ [digL (p.c.getD j 0)] by rw [List.take_succ_eq_append_getElem hj, List.map_append]; simp only [List.map_cons, List.map_nil, List.getD, List.getElem?_eq_getElem hj, Option.getD_some], stV_snoc]; exact hO) (fun j hj hb => (hnn _ hb).elim (fun q => hap j hj q) (fun q => by have := hblk j hj; omega))
  refine sy_run ⟨0, [10]⟩ 60 S fun bs aa w S => ?_
  refine sy_reg S fun S => ?_
  refine sy_ops 1 S fun bs aa w S => ?_
  refine sy_cast 34 S (congrArg (Value.int .i64) (by rw [IntKind.wrap_i64]; omega : IntKind.i64.wrap ((j : Int) + 1) = ((j + 1 : Nat) : Int))) (by kernel_rfl) fun S => ?_
  refine sy_run ⟨0, [999]⟩ 50 S fun bs aa w S => ?_
  have S := S.sub (F' := [rfIs p.bl p.o p.c, rfOwn w0.heap.size 9 1 v' (j + 1) (stV ((p.c.take (j + 1)).map digL)), rfTb]) (by intro f hf; simp only [List.mem_cons, List.not_mem_nil, or_false] at hf; rcases hf with rfl | rfl | rfl <;> simp)
  have S2 := S.to [] (woS p v' (j + 1)) (by kernel_rfl) (by kernel_rfl) (by kernel_rfl) (by kernel_rfl) (by kernel_rfl)
  refine sy_at2 (k' := (.rnd (m) (bodyL woC) :: woC.k.tail)) (by kernel_rfl) ?_
  exact ih v' (fun b hb => (hnn b hb).elim (fun q => hv b q) (fun q => Or.inr (by omega))) aa w S2
theorem wo_a (w0 : World) (h00 : 1 < w0.heap.size) (p : Pk) (hok : p.ok) (n : Int) (hc : p.c.length ≤ 1000) (hI : ∀ x ∈ p.c, I64 x) (hk2 : ¬p.k = 2) (hk3 : p.k = 3) : ∀ (m j : Nat), j + m = p.c.length → ∀ (v : Value) (hv : ∀ b, Value.ownBlock v = some b → p.c.length = 0 ∨ b ≠ p.bl) (aa : Act) (w : World) (S : Sy w0 [] [] (woS p v (j)) [rfIs p.bl p.o p.c, rfOwn w0.heap.size 9 1 v (j) (stV ((p.c.take (j)).map digL)), rfTb] aa w), post Tryd.prog (.rnd (m + 1) (bodyL woC) :: woC.k.tail) (bodyPost Tryd.prog Tryd.f32 (fun e w' => e = .returned (.string (strOf (wordT p.w n))) ∧ Below w0.heap.size w0 w')) .normal aa w := by
  intro m
  induction m with
  | zero =>
    intro j hj v hv aa w S
    obtain rfl : j = p.c.length := by omega
    exact wo_e w0 h00 p hok n hc hI hk2 hk3 0 v hv aa w S
  | succ m ih => intro j hj v hv aa w S; exact wo_s w0 h00 p hok n hc hI hk2 hk3 (m + 1) j (by omega) (fun v hv aa w S => ih (j + 1) (by omega) v hv aa w S) v hv aa w S
set_option maxHeartbeats 8000000 in
theorem wordOf_t (w0 : World) (h00 : 1 < w0.heap.size) (ht : rfTb.P w0) (p : Pk) (hok : p.ok) (hAt : IsAt w0 p.bl p.o p.c) (n : Int) (ha : I64 p.a) (hb0 : I64 p.b) (hn : I64 n) (hc : p.c.length ≤ 1000) (hI : ∀ x ∈ p.c, I64 x) : Calls Tryd.prog 32 #[p.v, .int .i64 n] w0 (fun e w' => e = .returned (.string (strOf (wordT p.w n))) ∧ Below w0.heap.size w0 w') := by
  have la := digL_len ha
  have lb := digL_len hb0
  have ln := digL_len hn
  refine sy_enterF [] [rfIs p.bl p.o p.c, rfTb] (by intro f hf; simp only [List.mem_cons, List.not_mem_nil, or_false] at hf; rcases hf with rfl | rfl; exact hAt; exact ht) Tryd.func32 rfl rfl fun aa S => ?_
  refine sy_run ⟨0, [2]⟩ 60 S fun bs aa w S => ?_
  refine sy_reg S fun S => ?_
  by_cases hk2 : p.k = 2
  · have hw : wordT p.w n = digL p.a ++ [126] ++ digL p.b := if_pos hk2
    refine sy_ops 1 S fun bs aa w S => ?_
    refine sy_cast 11 S (congrArg Value.bool (decide_eq_true hk2 : decide (p.k = 2) = true)) (by kernel_rfl) fun S => ?_
    refine sy_run ⟨0, []⟩ 60 S fun bs aa w S => ?_
    letI : KP := ⟨[15, 19]⟩
    refine dr_enter [0] (by kernel_rfl) (by kernel_rfl) S (by kernel_rfl) (fun aa w D => ?_)
    refine dr_call1 2 D (by kernel_rfl) (by kernel_rfl) (by kernel_rfl) (itoa_t _ (D.S.fact (f := rfTb) (by simp)) ha) (by kernel_rfl) fun aa w hb D => ?_
    refine dr_ex2 (fun d v c a w h => by cases d <;> exact h) 3 (op := .binOp .add 9 (.tmp 14) (.const (.string ⟨#[126]⟩)) 9) (ty := 9) (v := .string (strOf (digL p.a ++ [126]))) D (by kernel_rfl) (by kernel_rfl) (by kernel_rfl) (by kernel_rfl) (fun o ρ W g1 g2 g3 => by
      have h := ex_cat (P := Tryd.prog) (x := (.tmp 14)) (y := (.const (.string ⟨#[126]⟩))) (t := 9) (t' := 9) (ty := 9) (p := strOf (digL p.a)) (q := strOf ([126])) Tryd.underlying9 (by kernel_rfl) (by kernel_rfl) (by rw [strOf_size, strOf_size]; simp only [List.length_append, List.length_singleton]; omega) o ρ W g1 g2 g3
      rw [strOf_app] at h
      exact h) fun aa D => ?_
    refine dr_call1 6 D (by kernel_rfl) (by kernel_rfl) (by kernel_rfl) (itoa_t _ (D.S.fact (f := rfTb) (by simp)) hb0) (by kernel_rfl) fun aa w hb D => ?_
    refine dr_ex2 (fun d v c a w h => by cases d <;> exact h) 7 (op := .binOp .add 9 (.tmp 15) (.tmp 18) 9) (ty := 9) (v := .string (strOf (digL p.a ++ [126] ++ digL p.b))) D (by kernel_rfl) (by kernel_rfl) (by kernel_rfl) (by kernel_rfl) (fun o ρ W g1 g2 g3 => by
      have h := ex_cat (P := Tryd.prog) (x := (.tmp 15)) (y := (.tmp 18)) (t := 9) (t' := 9) (ty := 9) (p := strOf (digL p.a ++ [126])) (q := strOf (digL p.b)) Tryd.underlying9 (by kernel_rfl) (by kernel_rfl) (by rw [strOf_size, strOf_size]; simp only [List.length_append, List.length_singleton]; omega) o ρ W g1 g2 g3
      rw [strOf_app] at h
      exact h) fun aa D => ?_
    refine dr_end D (by kernel_rfl) fun S => ?_
    refine sy_run ⟨0, []⟩ 60 S fun bs aa w S => ?_
    rw [hw]
    exact sy_ret S (by kernel_rfl) (by kernel_rfl) fun hg => ⟨rfl, bel_gr hg⟩
  refine sy_ops 1 S fun bs aa w S => ?_
  refine sy_cast 11 S (congrArg Value.bool (decide_eq_false hk2 : decide (p.k = 2) = false)) (by kernel_rfl) fun S => ?_
  refine sy_run ⟨0, [4]⟩ 60 S fun bs aa w S => ?_
  refine sy_reg S fun S => ?_
  by_cases hk3 : p.k = 3
  · refine sy_ops 1 S fun bs aa w S => ?_
    refine sy_cast 21 S (congrArg Value.bool (decide_eq_true hk3 : decide (p.k = 3) = true)) (by kernel_rfl) fun S => ?_
    refine sy_run ⟨0, []⟩ 60 S fun bs aa w S => ?_
    have S := S.add (rfOwn w0.heap.size 9 1 (.slice none 0 0) (0) (stV ((p.c.take (0)).map digL))) ⟨rfl, Or.inl ⟨rfl, rfl⟩⟩ (fun i hi hbl => by cases hbl)
    have S := S.sub (F' := [rfIs p.bl p.o p.c, rfOwn w0.heap.size 9 1 (.slice none 0 0) (0) (stV ((p.c.take (0)).map digL)), rfTb]) (by intro f hf; simp only [List.mem_cons, List.not_mem_nil, or_false] at hf; rcases hf with rfl | rfl | rfl <;> simp)
    have S2 := S.to [] (woS p (.slice none 0 0) 0) (by kernel_rfl) (by kernel_rfl) (by kernel_rfl) (by kernel_rfl) (by kernel_rfl)
    refine sy_loop (p.c.length + 1) (by kernel_rfl) ?_
    refine sy_at2 (k' := (.rnd (p.c.length + 1) (bodyL woC) :: woC.k.tail)) (by kernel_rfl) ?_
    exact wo_a w0 h00 p hok n hc hI hk2 hk3 p.c.length 0 (by omega) (.slice none 0 0) (fun b hb => by cases hb) aa w S2
  refine sy_ops 1 S fun bs aa w S => ?_
  refine sy_cast 21 S (congrArg Value.bool (decide_eq_false hk3 : decide (p.k = 3) = false)) (by kernel_rfl) fun S => ?_
  refine sy_run ⟨0, [12]⟩ 60 S fun bs aa w S => ?_
  refine sy_reg S fun S => ?_
  by_cases h1 : n > 1
  · have hw : wordT p.w n = digL p.a ++ [120] ++ digL n := by show (if p.k = 2 then digL p.a ++ [126] ++ digL p.b else if p.k = 3 then [33] ++ joinN 44 (p.c.map digL) else if n > 1 then digL p.a ++ [120] ++ digL n else digL p.a) = _; rw [if_neg hk2, if_neg hk3, if_pos h1]
    refine sy_ops 2 S fun bs aa w S => ?_
    refine sy_cast 39 S (congrArg Value.bool (decide_eq_true h1 : decide (n > 1) = true)) (by kernel_rfl) fun S => ?_
    refine sy_run ⟨0, [13]⟩ 60 S fun bs aa w S => ?_
    refine sy_reg S fun S => ?_
    refine sy_ops 2 S fun bs aa w S => ?_
    refine sy_call1 S (itoa_t _ (S.fact (f := rfTb) (by simp)) ha) (by kernel_rfl) fun aa w hb S => ?_
    refine sy_ex (op := .binOp .add 9 (.tmp 42) (.const (.string ⟨#[120]⟩)) 9) (ty := 9) (v := .string (strOf (digL p.a ++ [120]))) S (by kernel_rfl) (fun o ρ W g1 g2 g3 => by
      have h := ex_cat (P := Tryd.prog) (x := (.tmp 42)) (y := (.const (.string ⟨#[120]⟩))) (t := 9) (t' := 9) (ty := 9) (p := strOf (digL p.a)) (q := strOf ([120])) Tryd.underlying9 (by kernel_rfl) (by kernel_rfl) (by rw [strOf_size, strOf_size]; simp only [List.length_singleton]; omega) o ρ W g1 g2 g3
      rw [strOf_app] at h
      exact h) fun aa S => ?_
    refine sy_ops 1 S fun bs aa w S => ?_
    refine sy_call1 S (itoa_t _ (S.fact (f := rfTb) (by simp)) hn) (by kernel_rfl) fun aa w hb S => ?_
    refine sy_ex (op := .binOp .add 9 (.tmp 43) (.tmp 45) 9) (ty := 9) (v := .string (strOf (digL p.a ++ [120] ++ digL n))) S (by kernel_rfl) (fun o ρ W g1 g2 g3 => by
      have h := ex_cat (P := Tryd.prog) (x := (.tmp 43)) (y := (.tmp 45)) (t := 9) (t' := 9) (ty := 9) (p := strOf (digL p.a ++ [120])) (q := strOf (digL n)) Tryd.underlying9 (by kernel_rfl) (by kernel_rfl) (by rw [strOf_size, strOf_size]; simp only [List.length_append, List.length_singleton]; omega) o ρ W g1 g2 g3
      rw [strOf_app] at h
      exact h) fun aa S => ?_
    refine sy_run ⟨0, []⟩ 60 S fun bs aa w S => ?_
    rw [hw]
    exact sy_ret S (by kernel_rfl) (by kernel_rfl) fun hg => ⟨rfl, bel_gr hg⟩
  · have hw : wordT p.w n = digL p.a := by show (if p.k = 2 then digL p.a ++ [126] ++ digL p.b else if p.k = 3 then [33] ++ joinN 44 (p.c.map digL) else if n > 1 then digL p.a ++ [120] ++ digL n else digL p.a) = _; rw [if_neg hk2, if_neg hk3, if_neg h1]
    refine sy_ops 2 S fun bs aa w S => ?_
    refine sy_cast 39 S (congrArg Value.bool (decide_eq_false h1 : decide (n > 1) = false)) (by kernel_rfl) fun S => ?_
    refine sy_run ⟨0, [14]⟩ 60 S fun bs aa w S => ?_
    refine sy_reg S fun S => ?_
    refine sy_ops 2 S fun bs aa w S => ?_
    refine sy_call1 S (itoa_t _ (S.fact (f := rfTb) (by simp)) ha) (by kernel_rfl) fun aa w hb S => ?_
    refine sy_run ⟨0, []⟩ 60 S fun bs aa w S => ?_
    rw [hw]
    exact sy_ret S (by kernel_rfl) (by kernel_rfl) fun hg => ⟨rfl, bel_gr hg⟩
end Go.Proofs.YtfkmcibglaiakaaDoor
