
/-
  Layer 4: strings as lists; the longest prefix of a class.
-/
import Derived.Test.YthkgmahkmflfkaaDoorRows
import Derived.Test.YthkgmahkmflfkaaDoorBase
import Derived.Test.YthkgmahkmflfkaaDoorLx1
import Derived.WalkKit
namespace Go.Proofs.YthkgmahkmflfkaaDoor
open Go Go.RowKit SZ
set_option linter.unusedVariables false
set_option linter.unusedSimpArgs false
set_option maxRecDepth 100000
attribute [local irreducible] post GD Nxt NxtAll
theorem strOf_size (l : List Nat) : (strOf l).size = l.length := by
  show ((l.map UInt8.ofNat).toArray).size = _
  simp
theorem byt_strOf {l : List Nat} (hl : ∀ b ∈ l, b < 256) {k : Nat} (h : k < l.length) : byt (strOf l) k = l.getD k 0 := by
  unfold byt strOf
  have hb := hl _ (getD_mem l k 0 h)
  simp only [List.getD, List.getElem?_map, List.getElem?_eq_getElem h, Option.map_some, Option.getD_some] at hb ⊢
  exact UInt8.toNat_ofNat_of_lt' (by simpa using hb)
theorem strOf_ext (l : List Nat) (i j : Nat) : (strOf l).extract i j = strOf ((l.take j).drop i) := by
  apply ByteArray.ext
  rw [ByteArray.data_extract]
  apply Array.ext'
  simp [strOf, List.map_take, List.map_drop, List.extract_eq_take_drop, List.drop_take]
theorem get_strOf {l : List Nat} (hl : ∀ b ∈ l, b < 256) {k : Nat} (h : k < l.length) : ((strOf l).get! k).toNat = l.getD k 0 := by
  have h2 : k < (strOf l).size := by rw [strOf_size]; exact h
  have e : (strOf l).get! k = (strOf l)[k]'h2 := by
    show (strOf l).get! k = _
    simp [ByteArray.get!, getElem!_pos, h2]
    rfl
  rw [e, byt_ix _ k h2, byt_strOf hl h]
theorem dec_lo {l : List Nat} (hl : ∀ b ∈ l, b < 256) {k : Nat} (h : k < l.length) (h2 : l.getD k 0 < 128) : Utf8.decode (strOf l) k = (l.getD k 0, 1) := by
  have e := get_strOf hl h
  unfold Utf8.decode
  simp only [Nat.add_zero, e]
  rw [if_pos h2]
theorem dec_hi {l : List Nat} (hl : ∀ b ∈ l, b < 256) {k : Nat} (h : k < l.length) (h2 : ¬l.getD k 0 < 128) : ∃ c wd, Utf8.decode (strOf l) k = (c, wd) ∧ 128 ≤ c := by
  refine ⟨(Utf8.decode (strOf l) k).1, (Utf8.decode (strOf l) k).2, rfl, ?_⟩
  have e := get_strOf hl h
  unfold Utf8.decode
  simp only [Nat.add_zero, e]
  rw [if_neg h2]
  unfold Utf8.runeError
  split
  · split
    · simp only; omega
    · simp
  · split
    · split
      · rename_i hc
        simp only [Bool.and_eq_true, decide_eq_true_eq] at hc
        simp only; omega
      · simp
    · split
      · split
        · rename_i hc
          simp only [Bool.and_eq_true, decide_eq_true_eq] at hc
          simp only; omega
        · simp
      · simp
theorem tw_eq (K : Nat → Bool) : ∀ (l : List Nat) (j : Nat), (∀ i, i < j → K (l.getD i 0) = true) → j ≤ l.length → (j = l.length ∨ K (l.getD j 0) = false) → l.takeWhile K = l.take j
  | [], j, _, hj, _ => by simp
  | x :: l, 0, _, _, h => by
    have h2 : K x = false := h.resolve_left (by simp)
    simp [h2]
  | x :: l, j + 1, h, hj, h3 => by
    have h0 : K x = true := h 0 (by omega)
    simp only [List.takeWhile_cons, h0, List.take_succ_cons, if_true]
    rw [tw_eq K l j (fun i hi => h (i + 1) (by omega)) (by simpa using hj) (by rcases h3 with h3 | h3; exact Or.inl (by simpa using h3); exact Or.inr h3)]
theorem slS_h (s : ByteArray) (m : Nat) (h : m ≤ s.size) (W : World) : (Instr.sliceAt 9 (.string s) none (some (.int .i64 (m : Int))) none).run Tryd.prog W = .ok (.string (s.extract 0 m)) W := by
  have hu : Tryd.prog.underlying 9 = some .string := Tryd.underlying9
  rw [run_sliceAt_string W _ _ _ _ _ hu, run_slice_string_h W _ _ hu _ _ (by omega) (by omega), Int.toNat_natCast]
theorem slS_l (s : ByteArray) (m : Nat) (h : m ≤ s.size) (W : World) : (Instr.sliceAt 9 (.string s) (some (.int .i64 (m : Int))) none none).run Tryd.prog W = .ok (.string (s.extract m s.size)) W := by
  have hu : Tryd.prog.underlying 9 = some .string := Tryd.underlying9
  rw [run_sliceAt_string W _ _ _ _ _ hu, run_slice_string_l W _ _ hu _ _ (by omega) (by omega), Int.toNat_natCast]
theorem ex_ixl {s : SS} {bs : List Nat} {x y : Operand} {t ty : TypeId} {l : List Nat} {k : Nat} (ht : Tryd.prog.underlying t = some .string) (hx : s.val x = some (.v (.string (strOf l)))) (hy : s.val y = some (.v (.int .i64 (k : Int)))) (hl : ∀ b ∈ l, b < 256) (hk : k < l.length) :
    ∀ (o : Oper) (ρ : Operand → Value) (W : World), o.op = .index t x y → o.type = ty → (∀ x y, s.val x = some y → ρ x = den bs y) → (execOp ρ o).run Tryd.prog W = .ok (.value (.int .u8 ((l.getD k 0 : Nat) : Int))) W := by
  have h := ex_ix (bs := bs) (ty := ty) ht hx hy (by rw [strOf_size]; exact hk)
  rw [byt_strOf hl hk] at h
  exact h
theorem word_hi {c : Nat} (h : 128 ≤ c) : wordB c = false := by unfold wordB lettB digB; simp; omega
theorem dig_hi {c : Nat} (h : 128 ≤ c) : digB c = false := by unfold digB; simp; omega
noncomputable def spC : Cfg := ⟨goZ 60 [] [.code (bodyOf Tryd.f25)], ⟨0, [], []⟩⟩
noncomputable def swS (l : List Nat) (g : Nat) : SS := ⟨21, [(0, .v (.string (strOf l))), (1, .v (.func (.func 26) #[] #[])), (8, .v (.pointer (some ⟨g, 0, none⟩)))], []⟩
set_option maxHeartbeats 8000000 in
theorem sw_e (w0 : World) (l : List Nat) (hl : ∀ b ∈ l, b < 256) (g : Nat) (hg : w0.heap.size ≤ g) (m : Nat) (hv : ∀ i, i < l.length → wordB (l.getD i 0) = true) (aa : Act) (w : World) (S : Sy w0 [] [] (swS l g) [rfIt g (strOf l) l.length] aa w) : post Tryd.prog (.rnd (m + 1) (bodyL spC) :: spC.k.tail) (bodyPost Tryd.prog Tryd.f25 fun e w' => e = .returned (.string (strOf (l.takeWhile wordB))) ∧ Below w0.heap.size w0 w') .normal aa w := by
  have et : l.takeWhile wordB = l := (tw_eq wordB l l.length hv (Nat.le_refl _) (Or.inl rfl)).trans List.take_length
  refine sy_run (c := ⟨(.rnd (m + 1) (bodyL spC) :: spC.k.tail), swS l g⟩) ⟨0, [2]⟩ 50 S fun bs aa w S => ?_
  refine sy_reg S fun S => ?_
  refine sy_nxe (ty := 0) (x := .tmp 8) S (by kernel_rfl) (by kernel_rfl) (by rw [strOf_size]; omega) fun aa S => ?_
  refine sy_run ⟨0, []⟩ 60 S fun bs aa w S => ?_
  rw [et]
  exact sy_ret S (by kernel_rfl) (by kernel_rfl) fun hg => ⟨rfl, bel_gr hg⟩
set_option maxHeartbeats 8000000 in
theorem sw_s (w0 : World) (l : List Nat) (hl : ∀ b ∈ l, b < 256) (g : Nat) (hg : w0.heap.size ≤ g) (m j : Nat) (hj : j < l.length) (hv : ∀ i, i < j → wordB (l.getD i 0) = true) (ih : wordB (l.getD j 0) = true → ∀ (aa : Act) (w : World) (S : Sy w0 [] [] (swS l g) [rfIt g (strOf l) (j + 1)] aa w), post Tryd.prog (.rnd (m) (bodyL spC) :: spC.k.tail) (bodyPost Tryd.prog Tryd.f25 fun e w' => e = .returned (.string (strOf (l.takeWhile wordB))) ∧ Below w0.heap.size w0 w') .normal aa w) (aa : Act) (w : World) (S : Sy w0 [] [] (swS l g) [rfIt g (strOf l) j] aa w) : post Tryd.prog (.rnd (m + 1) (bodyL spC) :: spC.k.tail) (bodyPost Tryd.prog Tryd.f25 fun e w' => e = .returned (.string (strOf (l.takeWhile wordB))) ∧ Below w0.heap.size w0 w') .normal aa w := by
  obtain ⟨c, wd, hd, hc⟩ : ∃ c wd, Utf8.decode (strOf l) j = (c, wd) ∧ (wordB c = wordB (l.getD j 0) ∧ (wordB c = true → wd = 1)) := by
    by_cases h : l.getD j 0 < 128
    · exact ⟨_, _, dec_lo hl hj h, rfl, fun _ => rfl⟩
    · obtain ⟨c, wd, h1, h2⟩ := dec_hi hl hj h
      exact ⟨c, wd, h1, by rw [word_hi h2, word_hi (by omega)], fun q => by rw [word_hi h2] at q; cases q⟩
  refine sy_run (c := ⟨(.rnd (m + 1) (bodyL spC) :: spC.k.tail), swS l g⟩) ⟨0, [2]⟩ 50 S fun bs aa w S => ?_
  refine sy_reg S fun S => ?_
  refine sy_nxt (ty := 0) (x := .tmp 8) S hg (fun f hf => by cases hf) (by kernel_rfl) (by kernel_rfl) (by rw [strOf_size]; exact hj) c wd hd fun aa w S => ?_
  refine sy_run ⟨0, [4]⟩ 60 S fun bs aa w S => ?_
  refine sy_reg S fun S => ?_
  refine sy_ops 2 S fun bs aa w S => ?_
  cases hk : wordB c with
  | true =>
    refine sy_call1 S (by have q := word_t c w; rw [hk] at q; exact q) (by kernel_rfl) fun aa w hb S => ?_
    refine sy_run ⟨0, [999]⟩ 50 S fun bs aa w S => ?_
    have S2 := S.to [] (swS l g) (by kernel_rfl) (by kernel_rfl) (by kernel_rfl) (by kernel_rfl) (by kernel_rfl)
    refine sy_at2 (k' := (.rnd (m) (bodyL spC) :: spC.k.tail)) (by kernel_rfl) ?_
    rw [hc.2 hk] at S2
    exact ih (by rw [← hc.1, hk]) aa w S2
  | false =>
    refine sy_call1 S (by have q := word_t c w; rw [hk] at q; exact q) (by kernel_rfl) fun aa w hb S => ?_
    refine sy_run ⟨0, [5]⟩ 60 S fun bs aa w S => ?_
    refine sy_reg S fun S => ?_
    refine sy_ops 2 S fun bs aa w S => ?_
    refine sy_ex (op := .slice 9 (.tmp 17) none (some (.tmp 18)) none) (ty := 9) (v := .string ((strOf l).extract 0 j)) S (by kernel_rfl) (ex_slS (l2 := none) (h2 := some (.v (.int .i64 (j : Int)))) Tryd.underlying9 (by kernel_rfl) rfl (by kernel_rfl) (fun W => slS_h (strOf l) j (by rw [strOf_size]; omega) W)) fun aa S => ?_
    refine sy_run ⟨0, []⟩ 60 S fun bs aa w S => ?_
    rw [tw_eq wordB l j hv (by omega) (Or.inr (by rw [← hc.1, hk])), show strOf (l.take j) = (strOf l).extract 0 j by rw [strOf_ext, List.drop_zero]]
    exact sy_ret S (by kernel_rfl) (by kernel_rfl) fun hg => ⟨rfl, bel_gr hg⟩
theorem sw_a (w0 : World) (l : List Nat) (hl : ∀ b ∈ l, b < 256) (g : Nat) (hg : w0.heap.size ≤ g) : ∀ (m j : Nat), j + m = l.length → ∀ (hv : ∀ i, i < j → wordB (l.getD i 0) = true) (aa : Act) (w : World) (S : Sy w0 [] [] (swS l g) [rfIt g (strOf l) j] aa w), post Tryd.prog (.rnd (m + 1) (bodyL spC) :: spC.k.tail) (bodyPost Tryd.prog Tryd.f25 fun e w' => e = .returned (.string (strOf (l.takeWhile wordB))) ∧ Below w0.heap.size w0 w') .normal aa w := by
  intro m
  induction m with
  | zero =>
    intro j hj hv aa w S
    obtain rfl : j = l.length := by omega
    exact sw_e w0 l hl g hg 0 hv aa w S
  | succ m ih =>
    intro j hj hv aa w S
    exact sw_s w0 l hl g hg (m + 1) j (by omega) hv (fun hk aa w S => ih (j + 1) (by omega) (fun i hi => by rcases Nat.lt_or_ge i j with h | h; exact hv i h; rw [show i = j by omega]; exact hk) aa w S) aa w S
set_option maxHeartbeats 8000000 in
theorem sw_t (w0 : World) (l : List Nat) (hl : ∀ b ∈ l, b < 256) : Calls Tryd.prog 25 #[.string (strOf l), .func (.func 26) #[] #[]] w0 fun e w' => e = .returned (.string (strOf (l.takeWhile wordB))) ∧ Below w0.heap.size w0 w' := by
  refine sy_enterF [] [] (by intro f hf; cases hf) Tryd.func25 rfl rfl fun aa S => ?_
  refine sy_run ⟨0, [1]⟩ 60 S fun bs aa w S => ?_
  refine sy_reg S fun S => ?_
  refine sy_ops 1 S fun bs aa w S => ?_
  refine sy_rng (ty := 0) (t := 9) (x := .tmp 7) (p := strOf l) S Tryd.underlying9 (by kernel_rfl) (by kernel_rfl) fun g aa w hg hf S => ?_
  refine sy_run ⟨0, []⟩ 60 S fun bs aa w S => ?_
  have S2 := S.to [] (swS l g) (by kernel_rfl) (by kernel_rfl) (by kernel_rfl) (by kernel_rfl) (by kernel_rfl)
  refine sy_loop (l.length + 1) (by kernel_rfl) ?_
  refine sy_at2 (k' := (.rnd (l.length + 1) (bodyL spC) :: spC.k.tail)) (by kernel_rfl) ?_
  exact sw_a w0 l hl g hg l.length 0 (by omega) (fun i hi => absurd hi (Nat.not_lt_zero _)) aa w S2
noncomputable def sdS (l : List Nat) (g : Nat) : SS := ⟨21, [(0, .v (.string (strOf l))), (1, .v (.func (.func 27) #[] #[])), (8, .v (.pointer (some ⟨g, 0, none⟩)))], []⟩
set_option maxHeartbeats 8000000 in
theorem sd_e (w0 : World) (l : List Nat) (hl : ∀ b ∈ l, b < 256) (g : Nat) (hg : w0.heap.size ≤ g) (m : Nat) (hv : ∀ i, i < l.length → digB (l.getD i 0) = true) (aa : Act) (w : World) (S : Sy w0 [] [] (sdS l g) [rfIt g (strOf l) l.length] aa w) : post Tryd.prog (.rnd (m + 1) (bodyL spC) :: spC.k.tail) (bodyPost Tryd.prog Tryd.f25 fun e w' => e = .returned (.string (strOf (l.takeWhile digB))) ∧ Below w0.heap.size w0 w') .normal aa w := by
  have et : l.takeWhile digB = l := (tw_eq digB l l.length hv (Nat.le_refl _) (Or.inl rfl)).trans List.take_length
  refine sy_run (c := ⟨(.rnd (m + 1) (bodyL spC) :: spC.k.tail), sdS l g⟩) ⟨0, [2]⟩ 50 S fun bs aa w S => ?_
  refine sy_reg S fun S => ?_
  refine sy_nxe (ty := 0) (x := .tmp 8) S (by kernel_rfl) (by kernel_rfl) (by rw [strOf_size]; omega) fun aa S => ?_
  refine sy_run ⟨0, []⟩ 60 S fun bs aa w S => ?_
  rw [et]
  exact sy_ret S (by kernel_rfl) (by kernel_rfl) fun hg => ⟨rfl, bel_gr hg⟩
set_option maxHeartbeats 8000000 in
theorem sd_s (w0 : World) (l : List Nat) (hl : ∀ b ∈ l, b < 256) (g : Nat) (hg : w0.heap.size ≤ g) (m j : Nat) (hj : j < l.length) (hv : ∀ i, i < j → digB (l.getD i 0) = true) (ih : digB (l.getD j 0) = true → ∀ (aa : Act) (w : World) (S : Sy w0 [] [] (sdS l g) [rfIt g (strOf l) (j + 1)] aa w), post Tryd.prog (.rnd (m) (bodyL spC) :: spC.k.tail) (bodyPost Tryd.prog Tryd.f25 fun e w' => e = .returned (.string (strOf (l.takeWhile digB))) ∧ Below w0.heap.size w0 w') .normal aa w) (aa : Act) (w : World) (S : Sy w0 [] [] (sdS l g) [rfIt g (strOf l) j] aa w) : post Tryd.prog (.rnd (m + 1) (bodyL spC) :: spC.k.tail) (bodyPost Tryd.prog Tryd.f25 fun e w' => e = .returned (.string (strOf (l.takeWhile digB))) ∧ Below w0.heap.size w0 w') .normal aa w := by
  obtain ⟨c, wd, hd, hc⟩ : ∃ c wd, Utf8.decode (strOf l) j = (c, wd) ∧ (digB c = digB (l.getD j 0) ∧ (digB c = true → wd = 1)) := by
    by_cases h : l.getD j 0 < 128
    · exact ⟨_, _, dec_lo hl hj h, rfl, fun _ => rfl⟩
    · obtain ⟨c, wd, h1, h2⟩ := dec_hi hl hj h
      exact ⟨c, wd, h1, by rw [dig_hi h2, dig_hi (by omega)], fun q => by rw [dig_hi h2] at q; cases q⟩
  refine sy_run (c := ⟨(.rnd (m + 1) (bodyL spC) :: spC.k.tail), sdS l g⟩) ⟨0, [2]⟩ 50 S fun bs aa w S => ?_
  refine sy_reg S fun S => ?_
  refine sy_nxt (ty := 0) (x := .tmp 8) S hg (fun f hf => by cases hf) (by kernel_rfl) (by kernel_rfl) (by rw [strOf_size]; exact hj) c wd hd fun aa w S => ?_
  refine sy_run ⟨0, [4]⟩ 60 S fun bs aa w S => ?_
  refine sy_reg S fun S => ?_
  refine sy_ops 2 S fun bs aa w S => ?_
  cases hk : digB c with
  | true =>
    refine sy_call1 S (by have q := dig_t c w; rw [hk] at q; exact q) (by kernel_rfl) fun aa w hb S => ?_
    refine sy_run ⟨0, [999]⟩ 50 S fun bs aa w S => ?_
    have S2 := S.to [] (sdS l g) (by kernel_rfl) (by kernel_rfl) (by kernel_rfl) (by kernel_rfl) (by kernel_rfl)
    refine sy_at2 (k' := (.rnd (m) (bodyL spC) :: spC.k.tail)) (by kernel_rfl) ?_
    rw [hc.2 hk] at S2
    exact ih (by rw [← hc.1, hk]) aa w S2
  | false =>
    refine sy_call1 S (by have q := dig_t c w; rw [hk] at q; exact q) (by kernel_rfl) fun aa w hb S => ?_
    refine sy_run ⟨0, [5]⟩ 60 S fun bs aa w S => ?_
    refine sy_reg S fun S => ?_
    refine sy_ops 2 S fun bs aa w S => ?_
    refine sy_ex (op := .slice 9 (.tmp 17) none (some (.tmp 18)) none) (ty := 9) (v := .string ((strOf l).extract 0 j)) S (by kernel_rfl) (ex_slS (l2 := none) (h2 := some (.v (.int .i64 (j : Int)))) Tryd.underlying9 (by kernel_rfl) rfl (by kernel_rfl) (fun W => slS_h (strOf l) j (by rw [strOf_size]; omega) W)) fun aa S => ?_
    refine sy_run ⟨0, []⟩ 60 S fun bs aa w S => ?_
    rw [tw_eq digB l j hv (by omega) (Or.inr (by rw [← hc.1, hk])), show strOf (l.take j) = (strOf l).extract 0 j by rw [strOf_ext, List.drop_zero]]
    exact sy_ret S (by kernel_rfl) (by kernel_rfl) fun hg => ⟨rfl, bel_gr hg⟩
theorem sd_a (w0 : World) (l : List Nat) (hl : ∀ b ∈ l, b < 256) (g : Nat) (hg : w0.heap.size ≤ g) : ∀ (m j : Nat), j + m = l.length → ∀ (hv : ∀ i, i < j → digB (l.getD i 0) = true) (aa : Act) (w : World) (S : Sy w0 [] [] (sdS l g) [rfIt g (strOf l) j] aa w), post Tryd.prog (.rnd (m + 1) (bodyL spC) :: spC.k.tail) (bodyPost Tryd.prog Tryd.f25 fun e w' => e = .returned (.string (strOf (l.takeWhile digB))) ∧ Below w0.heap.size w0 w') .normal aa w := by
  intro m
  induction m with
  | zero =>
    intro j hj hv aa w S
    obtain rfl : j = l.length := by omega
    exact sd_e w0 l hl g hg 0 hv aa w S
  | succ m ih =>
    intro j hj hv aa w S
    exact sd_s w0 l hl g hg (m + 1) j (by omega) hv (fun hk aa w S => ih (j + 1) (by omega) (fun i hi => by rcases Nat.lt_or_ge i j with h | h; exact hv i h; rw [show i = j by omega]; exact hk) aa w S) aa w S
set_option maxHeartbeats 8000000 in
theorem sd_t (w0 : World) (l : List Nat) (hl : ∀ b ∈ l, b < 256) : Calls Tryd.prog 25 #[.string (strOf l), .func (.func 27) #[] #[]] w0 fun e w' => e = .returned (.string (strOf (l.takeWhile digB))) ∧ Below w0.heap.size w0 w' := by
  refine sy_enterF [] [] (by intro f hf; cases hf) Tryd.func25 rfl rfl fun aa S => ?_
  refine sy_run ⟨0, [1]⟩ 60 S fun bs aa w S => ?_
  refine sy_reg S fun S => ?_
  refine sy_ops 1 S fun bs aa w S => ?_
  refine sy_rng (ty := 0) (t := 9) (x := .tmp 7) (p := strOf l) S Tryd.underlying9 (by kernel_rfl) (by kernel_rfl) fun g aa w hg hf S => ?_
  refine sy_run ⟨0, []⟩ 60 S fun bs aa w S => ?_
  have S2 := S.to [] (sdS l g) (by kernel_rfl) (by kernel_rfl) (by kernel_rfl) (by kernel_rfl) (by kernel_rfl)
  refine sy_loop (l.length + 1) (by kernel_rfl) ?_
  refine sy_at2 (k' := (.rnd (l.length + 1) (bodyL spC) :: spC.k.tail)) (by kernel_rfl) ?_
  exact sd_a w0 l hl g hg l.length 0 (by omega) (fun i hi => absurd hi (Nat.not_lt_zero _)) aa w S2
end Go.Proofs.YthkgmahkmflfkaaDoor
