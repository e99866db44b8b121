
/-
  Layer 4: strings as lists; the longest prefix of a class.
-/
import Derived.Test.YtfkmcibglaiakaaDoorRows
import Derived.Test.YtfkmcibglaiakaaDoorBase
import Derived.Test.YtfkmcibglaiakaaDoorLx1
import Derived.WalkKit
namespace Go.Proofs.YtfkmcibglaiakaaDoor
open Go Go.RowKit SZ
set_option linter.unusedVariables false
set_option linter.unusedSimpArgs false
set_option maxRecDepth 100000
attribute [local irreducible] post GD Nxt NxtAll
theorem strOf_size (l : List Nat) : (strOf l).size = l.length := by
  show ((l.map UInt8.ofNat).toArray).size = _
  simp
theorem byt_strOf {l : List Nat} (hl : ∀ b ∈ l, b < 256) {k : Nat} (h : k < l.length) : byt (strOf l) k = l.getD k 0 := by
  unfold byt strOf
  have hb := hl _ (getD_mem l k 0 h)
  simp only [List.getD, List.getElem?_map, List.getElem?_eq_getElem h, Option.map_some, Option.getD_some] at hb ⊢
  exact UInt8.toNat_ofNat_of_lt' (by simpa using hb)
theorem strOf_ext (l : List Nat) (i j : Nat) : (strOf l).extract i j = strOf ((l.take j).drop i) := by
  apply ByteArray.ext
  rw [ByteArray.data_extract]
  apply Array.ext'
  simp [strOf, List.map_take, List.map_drop, List.extract_eq_take_drop, List.drop_take]
theorem get_strOf {l : List Nat} (hl : ∀ b ∈ l, b < 256) {k : Nat} (h : k < l.length) : ((strOf l).get! k).toNat = l.getD k 0 := by
  have h2 : k < (strOf l).size := by rw [strOf_size]; exact h
  have e : (strOf l).get! k = (strOf l)[k]'h2 := by
    show (strOf l).get! k = _
    simp [ByteArray.get!, getElem!_pos, h2]
    rfl
  rw [e, byt_ix _ k h2, byt_strOf hl h]
theorem dec_lo {l : List Nat} (hl : ∀ b ∈ l, b < 256) {k : Nat} (h : k < l.length) (h2 : l.getD k 0 < 128) : Utf8.decode (strOf l) k = (l.getD k 0, 1) := by
  have e := get_strOf hl h
  unfold Utf8.decode
  simp only [Nat.add_zero, e]
  rw [if_pos h2]
theorem dec_hi {l : List Nat} (hl : ∀ b ∈ l, b < 256) {k : Nat} (h : k < l.length) (h2 : ¬l.getD k 0 < 128) : ∃ c wd, Utf8.decode (strOf l) k = (c, wd) ∧ 128 ≤ c := by
  refine ⟨(Utf8.decode (strOf l) k).1, (Utf8.decode (strOf l) k).2, rfl, ?_⟩
  have e := get_strOf hl h
  unfold Utf8.decode
  simp only [Nat.add_zero, e]
  rw [if_neg h2]
  unfold Utf8.runeError
  split
  · split
    · simp only; omega
    · simp
  · split
    · split
      · rename_i hc
        simp only [Bool.and_eq_true, decide_eq_true_eq] at hc
        simp only; omega
      · simp
    · split
      · split
        · rename_i hc
          simp only [Bool.and_eq_true, decide_eq_true_eq] at hc
          simp only; omega
        · simp
      · simp
theorem tw_eq (K : Nat → Bool) : ∀ (l : List Nat) (j : Nat), (∀ i, i < j → K (l.getD i 0) = true) → j ≤ l.length → (j = l.length ∨ K (l.getD j 0) = false) → l.takeWhile K = l.take j
  | [], j, _, hj, _ => by simp
  | x :: l, 0, _, _, h => by
    have h2 : K x = false := h.resolve_left (by simp)
    simp [h2]
  | x :: l, j + 1, h, hj, h3 => by
    have h0 : K x = true := h 0 (by omega)
    simp only [List.takeWhile_cons, h0, List.take_succ_cons, if_true]
    rw [tw_eq K l j (fun i hi => h (i + 1) (by omega)) (by simpa using hj) (by rcases h3 with h3 | h3; exact Or.inl (by simpa using h3); exact Or.inr h3)]
theorem slS_h (s : ByteArray) (m : Nat) (h : m ≤ s.size) (W : World) : (Instr.sliceAt 9 (.string s) none (some (.int .i64 (m : Int))) none).run Tryd.prog W = .ok (.string (s.extract 0 m)) W := by
  have hu : Tryd.prog.underlying 9 = some .string := Tryd.underlying9
  rw [run_sliceAt_string W _ _ _ _ _ hu, run_slice_string_h W _ _ hu _ _ (by omega) (by omega), Int.toNat_natCast]
theorem slS_l (s : ByteArray) (m : Nat) (h : m ≤ s.size) (W : World) : (Instr.sliceAt 9 (.string s) (some (.int .i64 (m : Int))) none none).run Tryd.prog W = .ok (.string (s.extract m s.size)) W := by
  have hu : Tryd.prog.underlying 9 = some .string := Tryd.underlying9
  rw [run_sliceAt_string W _ _ _ _ _ hu, run_slice_string_l W _ _ hu _ _ (by omega) (by omega), Int.toNat_natCast]
theorem ex_ixl {s : SS} {bs : List Nat} {x y : Operand} {t ty : TypeId} {l : List Nat} {k : Nat} (ht : Tryd.prog.underlying t = some .string) (hx : s.val x = some (.v (.string (strOf l)))) (hy : s.val y = some (.v (.int .i64 (k : Int)))) (hl : ∀ b ∈ l, b < 256) (hk : k < l.length) :
    ∀ (o : Oper) (ρ : Operand → Value) (W : World), o.op = .index t x y → o.type = ty → (∀ x y, s.val x = some y → ρ x = den bs y) → (execOp ρ o).run Tryd.prog W = .ok (.value (.int .u8 ((l.getD k 0 : Nat) : Int))) W := by
  have h := ex_ix (bs := bs) (ty := ty) ht hx hy (by rw [strOf_size]; exact hk)
  rw [byt_strOf hl hk] at h
  exact h
theorem word_hi {c : Nat} (h : 128 ≤ c) : wordB c = false := by unfold wordB lettB digB; simp; omega
theorem dig_hi {c : Nat} (h : 128 ≤ c) : digB c = false := by unfold digB; simp; omega
end Go.Proofs.YtfkmcibglaiakaaDoor
