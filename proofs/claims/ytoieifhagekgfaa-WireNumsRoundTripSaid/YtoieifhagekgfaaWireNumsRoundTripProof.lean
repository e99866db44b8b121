/- WireNumsRoundTrip: the encoding of every string is that of the specification; it can be decoded whatever follows it, and cannot be decoded without its last byte. No condition. -/
import Derived.Test.YtoieifhagekgfaaRows
import Derived.Test.YtoieifhagekgfaaWireA
import Derived.Test.YtoieifhagekgfaaWireB
import Derived.Test.YtoieifhagekgfaaWireC
import Derived.Test.YtoieifhagekgfaaWireE
import Derived.Test.YtoieifhagekgfaaWireF
import Derived.Test.YtoieifhagekgfaaWireG
import Derived.Test.YtoieifhagekgfaaWireH
import Derived.Test.YtoieifhagekgfaaWireI
import Derived.Test.YtoieifhagekgfaaWireO
import Derived.Test.YtoieifhagekgfaaWireP
import Derived.Test.YtoieifhagekgfaaWireS
import Derived.WalkKit
import Derived.ProofKit
import Derived.OpenShut
import Derived.Lib.Hide
import Derived.Carry
namespace Go.Proofs.Ytoieifhagekgfaa.wireNumsRoundTrip
open Go.ChangeShapes Go.WideShapes Go.ChangeAt Go.RowKit
set_option linter.unusedVariables false

theorem scan_ext {p : List Nat} {x : Nat × Nat} (r : List Nat) (h : scan p = some x) : scan (p ++ r) = some x := by
  induction p generalizing x with
  | nil => simp [scan] at h
  | cons b p ih =>
    unfold scan at h
    simp only [List.cons_append]
    unfold scan
    split at h
    · rename_i hs; rw [if_pos hs]; exact h
    · rename_i hs
      rw [if_neg hs]
      split at h
      · cases h
      · rename_i u k he
        rw [ih he]; exact h
theorem dec_ext {p : List Nat} {x : Int × Nat} (r : List Nat) (h : dec p = some x) : dec (p ++ r) = some x := by
  unfold dec at h ⊢
  split at h
  · cases h
  · rename_i u k he
    rw [scan_ext r he]; exact h

theorem decMany_ext {j : Nat} {p : List Nat} {x : List Int × Nat} (hp : ∀ b ∈ p, b < 256) (r : List Nat) (h : decMany j p = some x) : decMany j (p ++ r) = some x := by
  induction j generalizing x with
  | zero => exact h
  | succ j ih =>
    unfold decMany at h ⊢
    split at h
    · cases h
    · rename_i ns u he
      rw [ih he]
      simp only
      split at h
      · cases h
      · rename_i n k hd
        have hu := decMany_used hp he
        rw [List.drop_append_of_le_length hu.2.2.1, dec_ext r hd]
        exact h
theorem decNums_ext {p : List Nat} {ns : List Int} {u : Nat} (hp : ∀ b ∈ p, b < 256) (r : List Nat) (h : decNums p = some (ns, u)) : decNums (p ++ r) = some (ns, u) ∧ u ≤ p.length := by
  unfold decNums at h ⊢
  split at h
  · cases h
  · rename_i c k hd
    rw [dec_ext r hd]
    simp only
    have hs := dec_some hp hd
    split at h
    · cases h
    · rename_i hc
      rw [if_neg hc]
      split at h
      · cases h
      · rename_i ns' u' hm
        have hp' : ∀ b ∈ p.drop k, b < 256 := fun b hb => hp b (List.mem_of_mem_drop hb)
        rw [List.drop_append_of_le_length hs.2.2.2, decMany_ext hp' r hm]
        have hu := decMany_used hp' hm
        rw [List.length_drop] at hu
        simp only [Option.some.injEq, Prod.mk.injEq] at h
        obtain ⟨rfl, rfl⟩ := h
        exact ⟨rfl, by omega⟩
theorem nn_yes (s : List Int) (hI : ∀ n ∈ s, I64 n) (hs : s.length ≤ 300) (l : List Nat) : decNums (numsB s ++ l) = some (s, (numsB s).length) := by
  have h1 := dec_enc (n := (s.length : Int)) (by unfold I64; omega) (encs s ++ l)
  unfold decNums numsB
  rw [List.append_assoc, h1]
  simp only
  rw [if_neg (by omega), List.drop_left, Int.toNat_natCast, decMany_encs s hI l, List.length_append]
theorem nn_no (s : List Int) (hI : ∀ n ∈ s, I64 n) (hs : s.length ≤ 300) (j : Nat) (hj : j < (numsB s).length) : decNums ((numsB s).take j) = none := by
  cases hd : decNums ((numsB s).take j) with
  | none => rfl
  | some x =>
    obtain ⟨ns, u⟩ := x
    have h := decNums_ext (fun b hb => numsB_byte s b (List.mem_of_mem_take hb)) ((numsB s).drop j) hd
    rw [List.take_append_drop] at h
    have h1 := nn_yes s hI hs []
    rw [List.append_nil, h.1] at h1
    simp only [Option.some.injEq, Prod.mk.injEq] at h1
    have h2 := h.2
    rw [List.length_take] at h2
    omega
theorem gnums_n {v : Value} {w : World} (l : List Nat) (hl : ∀ b ∈ l, b < 256) (hlen : l.length ≤ 1000000) (hT : decNums l = none) (hv : HasB w v l) : Calls Try.prog 22 #[v] w fun e w' => e = .returned (.tuple #[.slice none 0 0, .int .i64 0, .int .i64 3]) ∧ Below w.heap.size w w' :=
  (gnums_any v l hl hlen w hv).mono fun e w' ⟨hb, h⟩ => by
    rw [hT] at h
    exact ⟨h, hb⟩

set_option maxHeartbeats 4000000 in
set_option maxRecDepth 100000 in
theorem walk_big (w : World) (sv : Value) (s : List Int) (hsv : HasInts w sv s) (v : Value) (l : List Nat) (hv : HasB w v l) (hbig : 300 < s.length ∨ (s.length ≤ 300 ∧ 1000 < l.length)) :
    Calls Try.prog 8 #[sv, v] w fun e w' => e = .returned (.bool true) ∧ Below w.heap.size w w' := by
  obtain ⟨a, cap, rfl, _, _⟩ := hv
  obtain ⟨sa, sc, rfl, _, _⟩ := hsv
  rcases hbig with h | ⟨h0, h⟩
  all_goals (
    go_enter Try.func8, Try.ntmps8
    go_wp2_with fail
    refine (sane_any _).mono ?_
    rintro e w1 ⟨rfl, hb1⟩
    have HW := Lib.hid hb1
    clear hb1
    go_wp2
    go_ret
    exact ⟨rfl, HW.out⟩)

set_option maxHeartbeats 8000000 in
set_option maxRecDepth 100000 in
theorem walk_small (w : World) (sv : Value) (s : List Int) (hsv : HasInts w sv s) (hI : ∀ n ∈ s, I64 n) (v : Value) (l : List Nat) (hs : s.length ≤ 300) (hs0 : 0 < s.length) (hv : HasB w v l) (hl : ∀ b ∈ l, b < 256) (hsm : l.length ≤ 1000) :
    Calls Try.prog 8 #[sv, v] w fun e w' => e = .returned (.bool true) ∧ Below w.heap.size w w' := by
  obtain ⟨i0, hi, hz0, hz1, hz2⟩ := info_parts info_u8
  have HV := Lib.hid hv
  have HL := Lib.hid hl
  have HSV := Lib.hid hsv
  have HI := Lib.hid hI
  obtain ⟨a, cap, rfl, _, _⟩ := hv
  obtain ⟨sa, sc, rfl, _, _⟩ := hsv
  have hb : decide ((1000 : Int) < l.length) = false := by simp; omega
  have hb2 : decide ((300 : Int) < s.length) = false := by simp; omega
  obtain ⟨M, hM⟩ : ∃ M, M + 1 = (numsB s).length := ⟨(numsB s).length - 1, by have := numsB_pos s; omega⟩
  have p10 : M + 1 ≤ 3010 := by have := numsB_len s hI (by omega); omega
  have hM1 : 0 < M := by (have h2 := enc_pos (s.length : Int); have h1 : 0 < (encs s).length := (by cases s with | nil => simp at hs0 | cons n s => (have := enc_pos n; simp [encs]; omega)); unfold numsB at hM; rw [List.length_append] at hM; omega)
  have HP := Lib.hid hM
  have HD := Lib.hid (nn_yes s hI hs l)
  have HN := Lib.hid (nn_no s hI hs M (by omega))
  have HB : Hid (∀ b ∈ numsB s ++ l, b < 256) := Lib.hid (fun b hb => by
    rcases List.mem_append.1 hb with h | h
    · exact numsB_byte s b h
    · exact hl b h)
  clear hM hl hs0 hI
  go_enter Try.func8, Try.ntmps8
  go_wp2_with fail
  refine (nums_any _ s HI.out (by omega) _ HSV.out).mono ?_
  rintro e w2 ⟨v2, rfl, h2, hb2'⟩
  have HW := Lib.hid hb2'
  obtain ⟨g, c, rfl, hcells⟩ := own_addr h2 (by rw [← HP.out]; omega)
  have H2 := Lib.hid (hasB_of_owns h2)
  rw [← HP.out] at H2 ⊢
  have hc : M + 1 ≤ c := by
    obtain ⟨a', c', he, hl', _⟩ := H2.out
    simp only [Value.slice.injEq] at he
    obtain ⟨_, he2, rfl⟩ := he
    omega
  have HCC := Lib.hid hcells
  have t1 : (M : Int) + 1 ≤ c := by omega
  have t2 : (M : Int) ≤ c := by omega
  clear h2 hb2' hcells
  rcases (hasB_src HV.out).2 with ⟨rfl, hz, rfl⟩ | ⟨ad, rfl, hcs⟩
  · have hl0 : l = [] := List.length_eq_zero_iff.1 hz
    subst hl0
    have H4 : Hid (HasB w2 (.slice (some ⟨g, 0, none⟩) (M + 1) (M + 1)) (numsB s ++ [])) := Lib.hid (by
      rw [List.append_nil]
      have h := H2.out
      obtain ⟨a', c', he, hl', hx⟩ := h
      simp only [Value.slice.injEq] at he
      obtain ⟨rfl, hP', rfl⟩ := he
      exact ⟨_, M + 1, by rw [HP.out], ⟨by rw [← HP.out]; omega, by rw [← HP.out]; exact Nat.le_refl _, by omega, fun h => by cases h⟩, hx⟩)
    clear hz
    go_wp2_with fail
    have h4 := H4.out
    refine (gnums_s (numsB s ++ []) s ((M + 1 : Nat) : Int) HB.out (by rw [List.length_append, ← HP.out]; (first | omega | (simp; done))) (by rw [HD.out, ← HP.out]; rfl) rfl h4).mono ?_
    rintro e w5 ⟨r5, rfl, h5, hb5⟩
    have H5 := Lib.hid h5
    clear h5
    replace HW := Lib.hid (HW.out.trans (hb5.mono HW.out.size))
    replace H2 := Lib.hid (hasB_keep H2.out hb5)
    have HX := Lib.hid (hasB_take H2.out (j := M) (by omega))
    clear hb5
    go_wp2_with fail
    ((with_reducible refine (gnums_n ((numsB s).take M) (fun b hb => numsB_byte s b (List.mem_of_mem_take hb)) (by rw [List.length_take]; omega) HN.out HX.out).mono ?_))
    rintro e w6 ⟨rfl, hb6⟩
    replace HW := Lib.hid (HW.out.trans (hb6.mono HW.out.size))
    replace H2 := Lib.hid (hasB_keep H2.out hb6)
    replace H5 := Lib.hid (hasInts_keep H5.out hb6)
    clear hb6
    go_wp2_with fail
    refine (sane_any _).mono ?_
    rintro e w7 ⟨rfl, hb7⟩
    replace HW := Lib.hid (HW.out.trans (hb7.mono HW.out.size))
    replace H2 := Lib.hid (hasB_keep H2.out hb7)
    replace H5 := Lib.hid (hasInts_keep H5.out hb7)
    clear hb7
    go_wp2_with fail
    refine (rnums_any _ s HI.out (by omega) _ (hasInts_keep HSV.out HW.out)).mono ?_
    rintro e w8 ⟨v8, rfl, h8, hb8⟩
    replace HW := Lib.hid (HW.out.trans (hb8.mono HW.out.size))
    replace H2 := Lib.hid (hasB_keep H2.out hb8)
    replace H5 := Lib.hid (hasInts_keep H5.out hb8)
    have H8 := Lib.hid (hasB_of_owns h8)
    clear hb8 h8
    go_wp2_with fail
    refine (same_s (numsB s) (numsB s) true (by simp) H2.out H8.out).mono ?_
    rintro e w9 ⟨rfl, hb9⟩
    replace HW := Lib.hid (HW.out.trans (hb9.mono HW.out.size))
    replace H5 := Lib.hid (hasInts_keep H5.out hb9)
    clear hb9
    go_wp2_with fail
    refine (ints_s s s true (by simp) H5.out (hasInts_keep HSV.out HW.out)).mono ?_
    rintro e wa ⟨rfl, hba⟩
    replace HW := Lib.hid (HW.out.trans (hba.mono HW.out.size))
    clear hba
    go_wp2
    go_ret
    exact ⟨rfl, HW.out⟩

  · have HCS : Hid (∀ j u, (l.map bV)[j]? = some u → w2.cell? (ad.add j) = some u) := Lib.hid (fun j u hu => by
      have h := hcs j u hu
      exact (HW.out.cell (World.block_lt_of_cell? w _ h)).trans h)
    clear hcs
    go_wp2_with (first
      | (at_builtin; refine wpList_append_cut _ rfl _ _ rfl i0 hi hz0 hz1 hz2 g (M + 1) (numsB s) rfl HP.out.symm (by omega) HCC.out ad l.length cap l rfl rfl HCS.out (by omega) ?_; intro v4 w4 h4 hb4)
      | fail)
    have H4 := Lib.hid h4
    replace HW := Lib.hid (HW.out.trans (hb4.mono HW.out.size))
    replace H2 := Lib.hid (hasB_keep H2.out hb4)
    clear h4 hb4
    refine (gnums_s (numsB s ++ l) s ((M + 1 : Nat) : Int) HB.out (by rw [List.length_append, ← HP.out]; (first | omega | (simp; done))) (by rw [HD.out, ← HP.out]; rfl) rfl H4.out).mono ?_
    rintro e w5 ⟨r5, rfl, h5, hb5⟩
    have H5 := Lib.hid h5
    clear h5
    replace HW := Lib.hid (HW.out.trans (hb5.mono HW.out.size))
    replace H2 := Lib.hid (hasB_keep H2.out hb5)
    have HX := Lib.hid (hasB_take H2.out (j := M) (by omega))
    clear hb5
    go_wp2_with fail
    ((with_reducible refine (gnums_n ((numsB s).take M) (fun b hb => numsB_byte s b (List.mem_of_mem_take hb)) (by rw [List.length_take]; omega) HN.out HX.out).mono ?_))
    rintro e w6 ⟨rfl, hb6⟩
    replace HW := Lib.hid (HW.out.trans (hb6.mono HW.out.size))
    replace H2 := Lib.hid (hasB_keep H2.out hb6)
    replace H5 := Lib.hid (hasInts_keep H5.out hb6)
    clear hb6
    go_wp2_with fail
    refine (sane_any _).mono ?_
    rintro e w7 ⟨rfl, hb7⟩
    replace HW := Lib.hid (HW.out.trans (hb7.mono HW.out.size))
    replace H2 := Lib.hid (hasB_keep H2.out hb7)
    replace H5 := Lib.hid (hasInts_keep H5.out hb7)
    clear hb7
    go_wp2_with fail
    refine (rnums_any _ s HI.out (by omega) _ (hasInts_keep HSV.out HW.out)).mono ?_
    rintro e w8 ⟨v8, rfl, h8, hb8⟩
    replace HW := Lib.hid (HW.out.trans (hb8.mono HW.out.size))
    replace H2 := Lib.hid (hasB_keep H2.out hb8)
    replace H5 := Lib.hid (hasInts_keep H5.out hb8)
    have H8 := Lib.hid (hasB_of_owns h8)
    clear hb8 h8
    go_wp2_with fail
    refine (same_s (numsB s) (numsB s) true (by simp) H2.out H8.out).mono ?_
    rintro e w9 ⟨rfl, hb9⟩
    replace HW := Lib.hid (HW.out.trans (hb9.mono HW.out.size))
    replace H5 := Lib.hid (hasInts_keep H5.out hb9)
    clear hb9
    go_wp2_with fail
    refine (ints_s s s true (by simp) H5.out (hasInts_keep HSV.out HW.out)).mono ?_
    rintro e wa ⟨rfl, hba⟩
    replace HW := Lib.hid (HW.out.trans (hba.mono HW.out.size))
    clear hba
    go_wp2
    go_ret
    exact ⟨rfl, HW.out⟩


set_option maxHeartbeats 8000000 in
set_option maxRecDepth 100000 in
theorem walk_zero (w : World) (sv : Value) (s : List Int) (hsv : HasInts w sv s) (hI : ∀ n ∈ s, I64 n) (v : Value) (l : List Nat) (hs0 : s.length = 0) (hv : HasB w v l) (hl : ∀ b ∈ l, b < 256) (hsm : l.length ≤ 1000) :
    Calls Try.prog 8 #[sv, v] w fun e w' => e = .returned (.bool true) ∧ Below w.heap.size w w' := by
  obtain ⟨i0, hi, hz0, hz1, hz2⟩ := info_parts info_u8
  have HV := Lib.hid hv
  have HL := Lib.hid hl
  have HSV := Lib.hid hsv
  have HI := Lib.hid hI
  obtain ⟨a, cap, rfl, _, _⟩ := hv
  obtain ⟨sa, sc, rfl, _, _⟩ := hsv
  have hb : decide ((1000 : Int) < l.length) = false := by simp; omega
  have hb2 : decide ((300 : Int) < s.length) = false := by simp; omega
  have hs : s.length ≤ 300 := by omega
  have hM : 1 = (numsB s).length := by rw [List.length_eq_zero_iff.1 hs0]; unfold numsB enc; rw [show zz ((([] : List Int).length : Nat) : Int) = 0 by decide, grp_small (by decide)]; rfl
  have HP := Lib.hid hM
  have HD := Lib.hid (nn_yes s hI hs l)
  have HN := Lib.hid (nn_no s hI hs 0 (by omega))
  have HB : Hid (∀ b ∈ numsB s ++ l, b < 256) := Lib.hid (fun b hb => by
    rcases List.mem_append.1 hb with h | h
    · exact numsB_byte s b h
    · exact hl b h)
  clear hM hl hs0 hI
  go_enter Try.func8, Try.ntmps8
  go_wp2_with fail
  refine (nums_any _ s HI.out (by omega) _ HSV.out).mono ?_
  rintro e w2 ⟨v2, rfl, h2, hb2'⟩
  have HW := Lib.hid hb2'
  obtain ⟨g, c, rfl, hcells⟩ := own_addr h2 (by rw [← HP.out]; omega)
  have H2 := Lib.hid (hasB_of_owns h2)
  rw [← HP.out] at H2 ⊢
  have hc : 1 ≤ c := by
    obtain ⟨a', c', he, hl', _⟩ := H2.out
    simp only [Value.slice.injEq] at he
    obtain ⟨_, he2, rfl⟩ := he
    omega
  have HCC := Lib.hid hcells
  have t1 : (1 : Int) ≤ c := by omega
  have t2 : (0 : Int) ≤ c := by omega
  clear h2 hb2' hcells
  rcases (hasB_src HV.out).2 with ⟨rfl, hz, rfl⟩ | ⟨ad, rfl, hcs⟩
  · have hl0 : l = [] := List.length_eq_zero_iff.1 hz
    subst hl0
    have H4 : Hid (HasB w2 (.slice (some ⟨g, 0, none⟩) 1 1) (numsB s ++ [])) := Lib.hid (by
      rw [List.append_nil]
      have h := H2.out
      obtain ⟨a', c', he, hl', hx⟩ := h
      simp only [Value.slice.injEq] at he
      obtain ⟨rfl, hP', rfl⟩ := he
      exact ⟨_, 1, by rw [HP.out], ⟨by rw [← HP.out]; omega, by rw [← HP.out]; exact Nat.le_refl _, by omega, fun h => by cases h⟩, hx⟩)
    clear hz
    go_wp2_with fail
    have h4 := H4.out
    refine (gnums_s (numsB s ++ []) s 1 HB.out (by rw [List.length_append, ← HP.out]; (first | omega | (simp; done))) (by rw [HD.out, ← HP.out]; rfl) rfl h4).mono ?_
    rintro e w5 ⟨r5, rfl, h5, hb5⟩
    have H5 := Lib.hid h5
    clear h5
    replace HW := Lib.hid (HW.out.trans (hb5.mono HW.out.size))
    replace H2 := Lib.hid (hasB_keep H2.out hb5)
    have HX := Lib.hid (hasB_take H2.out (j := 0) (by omega))
    clear hb5
    go_wp2_with fail
    ((with_reducible refine (gnums_n ((numsB s).take 0) (fun b hb => numsB_byte s b (List.mem_of_mem_take hb)) (by rw [List.length_take]; omega) HN.out HX.out).mono ?_))
    rintro e w6 ⟨rfl, hb6⟩
    replace HW := Lib.hid (HW.out.trans (hb6.mono HW.out.size))
    replace H2 := Lib.hid (hasB_keep H2.out hb6)
    replace H5 := Lib.hid (hasInts_keep H5.out hb6)
    clear hb6
    go_wp2_with fail
    refine (sane_any _).mono ?_
    rintro e w7 ⟨rfl, hb7⟩
    replace HW := Lib.hid (HW.out.trans (hb7.mono HW.out.size))
    replace H2 := Lib.hid (hasB_keep H2.out hb7)
    replace H5 := Lib.hid (hasInts_keep H5.out hb7)
    clear hb7
    go_wp2_with fail
    refine (rnums_any _ s HI.out (by omega) _ (hasInts_keep HSV.out HW.out)).mono ?_
    rintro e w8 ⟨v8, rfl, h8, hb8⟩
    replace HW := Lib.hid (HW.out.trans (hb8.mono HW.out.size))
    replace H2 := Lib.hid (hasB_keep H2.out hb8)
    replace H5 := Lib.hid (hasInts_keep H5.out hb8)
    have H8 := Lib.hid (hasB_of_owns h8)
    clear hb8 h8
    go_wp2_with fail
    refine (same_s (numsB s) (numsB s) true (by simp) H2.out H8.out).mono ?_
    rintro e w9 ⟨rfl, hb9⟩
    replace HW := Lib.hid (HW.out.trans (hb9.mono HW.out.size))
    replace H5 := Lib.hid (hasInts_keep H5.out hb9)
    clear hb9
    go_wp2_with fail
    refine (ints_s s s true (by simp) H5.out (hasInts_keep HSV.out HW.out)).mono ?_
    rintro e wa ⟨rfl, hba⟩
    replace HW := Lib.hid (HW.out.trans (hba.mono HW.out.size))
    clear hba
    go_wp2
    go_ret
    exact ⟨rfl, HW.out⟩

  · have HCS : Hid (∀ j u, (l.map bV)[j]? = some u → w2.cell? (ad.add j) = some u) := Lib.hid (fun j u hu => by
      have h := hcs j u hu
      exact (HW.out.cell (World.block_lt_of_cell? w _ h)).trans h)
    clear hcs
    go_wp2_with (first
      | (at_builtin; refine wpList_append_cut _ rfl _ _ rfl i0 hi hz0 hz1 hz2 g 1 (numsB s) rfl HP.out.symm (by omega) HCC.out ad l.length cap l rfl rfl HCS.out (by omega) ?_; intro v4 w4 h4 hb4)
      | fail)
    have H4 := Lib.hid h4
    replace HW := Lib.hid (HW.out.trans (hb4.mono HW.out.size))
    replace H2 := Lib.hid (hasB_keep H2.out hb4)
    clear h4 hb4
    refine (gnums_s (numsB s ++ l) s 1 HB.out (by rw [List.length_append, ← HP.out]; (first | omega | (simp; done))) (by rw [HD.out, ← HP.out]; rfl) rfl H4.out).mono ?_
    rintro e w5 ⟨r5, rfl, h5, hb5⟩
    have H5 := Lib.hid h5
    clear h5
    replace HW := Lib.hid (HW.out.trans (hb5.mono HW.out.size))
    replace H2 := Lib.hid (hasB_keep H2.out hb5)
    have HX := Lib.hid (hasB_take H2.out (j := 0) (by omega))
    clear hb5
    go_wp2_with fail
    ((with_reducible refine (gnums_n ((numsB s).take 0) (fun b hb => numsB_byte s b (List.mem_of_mem_take hb)) (by rw [List.length_take]; omega) HN.out HX.out).mono ?_))
    rintro e w6 ⟨rfl, hb6⟩
    replace HW := Lib.hid (HW.out.trans (hb6.mono HW.out.size))
    replace H2 := Lib.hid (hasB_keep H2.out hb6)
    replace H5 := Lib.hid (hasInts_keep H5.out hb6)
    clear hb6
    go_wp2_with fail
    refine (sane_any _).mono ?_
    rintro e w7 ⟨rfl, hb7⟩
    replace HW := Lib.hid (HW.out.trans (hb7.mono HW.out.size))
    replace H2 := Lib.hid (hasB_keep H2.out hb7)
    replace H5 := Lib.hid (hasInts_keep H5.out hb7)
    clear hb7
    go_wp2_with fail
    refine (rnums_any _ s HI.out (by omega) _ (hasInts_keep HSV.out HW.out)).mono ?_
    rintro e w8 ⟨v8, rfl, h8, hb8⟩
    replace HW := Lib.hid (HW.out.trans (hb8.mono HW.out.size))
    replace H2 := Lib.hid (hasB_keep H2.out hb8)
    replace H5 := Lib.hid (hasInts_keep H5.out hb8)
    have H8 := Lib.hid (hasB_of_owns h8)
    clear hb8 h8
    go_wp2_with fail
    refine (same_s (numsB s) (numsB s) true (by simp) H2.out H8.out).mono ?_
    rintro e w9 ⟨rfl, hb9⟩
    replace HW := Lib.hid (HW.out.trans (hb9.mono HW.out.size))
    replace H5 := Lib.hid (hasInts_keep H5.out hb9)
    clear hb9
    go_wp2_with fail
    refine (ints_s s s true (by simp) H5.out (hasInts_keep HSV.out HW.out)).mono ?_
    rintro e wa ⟨rfl, hba⟩
    replace HW := Lib.hid (HW.out.trans (hba.mono HW.out.size))
    clear hba
    go_wp2
    go_ret
    exact ⟨rfl, HW.out⟩


theorem walk (w : World) (sv : Value) (s : List Int) (hsv : HasInts w sv s) (hI : ∀ n ∈ s, I64 n) (v : Value) (l : List Nat) (hv : HasB w v l) (hl : ∀ b ∈ l, b < 256) :
    Calls Try.prog 8 #[sv, v] w fun e w' => e = .returned (.bool true) ∧ Below w.heap.size w w' := by
  by_cases h : s.length ≤ 300 ∧ l.length ≤ 1000
  · by_cases h0 : s.length = 0
    · exact walk_zero w sv s hsv hI v l h0 hv hl h.2
    · exact walk_small w sv s hsv hI v l h.1 (by omega) hv hl h.2
  · exact walk_big w sv s hsv v l hv (by omega)

theorem own : ownKnob Try.prog.godebug = none := by kernel_rfl
theorem laidOut : laidOutB Try.prog = true := by kernel_rfl

set_option maxRecDepth 100000 in
theorem lifted (os : Os) (started : os.Started) (H : Type) (enc : TypeId × Value → H) :
    ReturnsInHanded {} Try.checked os 8 .any (Rows.wireNumsRoundTripSpec.pre6 enc Try.prog Try.f8 Rows.wireNumsRoundTripRow.domain false) (Rows.wireNumsRoundTripSpec.post enc Try.prog Try.f8 false true false false) := by
  refine returnsInHanded_of_change (C := Try.checked) own started (by kernel_rfl) Try.func8
    (ChangeSpec.witness6 (enc := enc) (C := Try.checked) false ⟨#[], #[.slice none 0 0, .slice none 0 0], []⟩ 8 (by kernel_rfl) (by kernel_rfl) (by kernel_rfl) (by kernel_rfl)) ?_
  intro W base args ds gs before hval0 hW hcnd _
  have hval : ∀ (j : Nat) t v, Try.f8.params[j]? = some t → args[j]? = some v → Value.okWide Try.prog W .any base t v := hval0
  have hW' := hW
  obtain ⟨p, q, hA0, hV, rfl, hfz, hnd⟩ := hW
  have hA : DataW.TrodAll enc Try.prog W 0 (fun _ => true) true Try.f8.params.toList args.toList ds p := hA0
  rw [Try.params8] at hA hval
  obtain ⟨v0, vs0, d0, ds0, p0, q0, hargs, rfl, rfl, h0, r0⟩ := trodAll_cons hA
  obtain ⟨v1, vs1, d1, ds1, p1, q1, rfl, rfl, rfl, h1, r1⟩ := trodAll_cons r0
  obtain ⟨rfl, rfl, rfl⟩ := trodAll_nil r1
  obtain rfl : args = #[v0, v1] := by cases args; simp_all
  obtain ⟨rfl, rfl⟩ := trodVars_none hV
  clear hA0 hval0
  simp only [List.append_nil] at hW'
  have lt0 : ∀ x ∈ p0, x.block < W.heap.size := fun x hx => hW'.lt x (by simp [hx])
  have lt1 : ∀ x ∈ p1, x.block < W.heap.size := fun x hx => hW'.lt x (by simp [hx])
  have back0 : ∀ W', Below W.heap.size W W' → DataW.Trod enc Try.prog W' 0 (fun b => decide (b < W.heap.size)) true 32 v0 d0 p0 := fun W' hb => Below.trod laidOut (by kernel_rfl) (of_decide_eq_true (by kernel_rfl)) h0 hb lt0
  have back1 : ∀ W', Below W.heap.size W W' → DataW.Trod enc Try.prog W' 0 (fun b => decide (b < W.heap.size)) true 24 v1 d1 p1 := fun W' hb => Below.trod laidOut (by kernel_rfl) (of_decide_eq_true (by kernel_rfl)) h1 hb lt1
  obtain ⟨z0, k0, b0⟩ := open_ints64 (hval 0 32 v0 rfl rfl) h0
  obtain ⟨l1, k1, b1⟩ := open_bytesArg (hval 1 24 v1 rfl rfl) h1
  refine (walk W v0 z0 k0 b0 v1 l1 k1 b1).mono fun e W' ⟨he, hg⟩ => ?_
  subst he
  exact ⟨_, rfl, _, _, _, [], _, [], hW', (trodAll_cons_mk (shut_bool Try.underlying4 _) trodAll_mk0), (trodAll_cons_mk (back0 _ hg) (trodAll_cons_mk (back1 _ hg) trodAll_mk0)), rfl, hg.frame _, fun h => by cases h⟩

theorem over : Rows.wireNumsRoundTripRow.holds Try.pinned (OpenSpec.ofChange Rows.wireNumsRoundTripSpec) :=
  OpenClaim.holds_of_wide 8 Try.f8 rfl rfl rfl rfl rfl rfl rfl ⟨rfl, rfl, rfl, rfl, rfl⟩ rfl rfl rfl rfl rfl (by kernel_rfl) Try.func8 (by kernel_rfl)
    (of_decide_eq_true (by kernel_rfl)) (by unfold Func.isWrapper; first | (rw [if_pos (by decide +kernel)]; kernel_rfl) | (rw [if_neg (by decide +kernel)]; exact ⟨rfl, rfl⟩))
    (fun os started H enc _ => lifted os started H enc)

/-- The given statement. -/
theorem proved : Rows.WireNumsRoundTripSaid :=
  over
#print axioms proved
end Go.Proofs.Ytoieifhagekgfaa.wireNumsRoundTrip
