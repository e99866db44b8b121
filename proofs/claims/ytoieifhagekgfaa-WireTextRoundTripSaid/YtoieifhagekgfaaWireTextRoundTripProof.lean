/- WireTextRoundTrip: the encoding of every string is that of the specification; it can be decoded whatever follows it, and cannot be decoded without its last byte. No condition. -/
import Derived.Test.YtoieifhagekgfaaRows
import Derived.Test.YtoieifhagekgfaaWireA
import Derived.Test.YtoieifhagekgfaaWireB
import Derived.Test.YtoieifhagekgfaaWireC
import Derived.Test.YtoieifhagekgfaaWireE
import Derived.Test.YtoieifhagekgfaaWireF
import Derived.Test.YtoieifhagekgfaaWireG
import Derived.Test.YtoieifhagekgfaaWireI
import Derived.Test.YtoieifhagekgfaaWireO
import Derived.Test.YtoieifhagekgfaaWireP
import Derived.Test.YtoieifhagekgfaaWireS
import Derived.ChangeMaps5
import Derived.WalkKit
import Derived.ProofKit
import Derived.OpenShut
import Derived.Lib.Hide
import Derived.Carry
namespace Go.Proofs.Ytoieifhagekgfaa.wireTextRoundTrip
open Go.ChangeShapes Go.WideShapes Go.ChangeAt Go.RowKit
set_option linter.unusedVariables false

theorem scan_ext {p : List Nat} {x : Nat × Nat} (r : List Nat) (h : scan p = some x) : scan (p ++ r) = some x := by
  induction p generalizing x with
  | nil => simp [scan] at h
  | cons b p ih =>
    unfold scan at h
    simp only [List.cons_append]
    unfold scan
    split at h
    · rename_i hs; rw [if_pos hs]; exact h
    · rename_i hs
      rw [if_neg hs]
      split at h
      · cases h
      · rename_i u k he
        rw [ih he]; exact h
theorem dec_ext {p : List Nat} {x : Int × Nat} (r : List Nat) (h : dec p = some x) : dec (p ++ r) = some x := by
  unfold dec at h ⊢
  split at h
  · cases h
  · rename_i u k he
    rw [scan_ext r he]; exact h

theorem gt_yes (s : ByteArray) (hs : s.size ≤ 1000) (l : List Nat) (P : Nat) (hP : P = (txt s).length) : gtextV (txt s ++ l) = .tuple #[.string s, .int .i64 (P : Int), .int .i64 0] := by
  have h1 : dec (txt s ++ l) = some ((s.size : Int), (enc (s.size : Int)).length) := by
    unfold txt; rw [List.append_assoc]; exact dec_enc (by unfold I64; omega) _
  have h2 := txt_len s (by omega)
  have hb : blk (txt s ++ l) = some (s.size, (enc (s.size : Int)).length) := by
    unfold blk; rw [h1]; simp only
    rw [if_pos ⟨by omega, by rw [List.length_append]; omega⟩, Int.toNat_natCast]
  unfold gtextV
  rw [hb]
  simp only
  have h3 : ((txt s ++ l).drop (enc (s.size : Int)).length).take s.size = bytesOf s := by
    unfold txt
    rw [List.append_assoc, List.drop_left, List.take_append_of_le_length (by rw [bytesOf_length]; exact Nat.le_refl _), List.take_of_length_le (by rw [bytesOf_length]; exact Nat.le_refl _)]
  rw [h3, strOf_bytesOf, hP, h2.1]
theorem gt_no (s : ByteArray) (hs : s.size ≤ 1000) (j : Nat) (hj : j < (txt s).length) : gtextV ((txt s).take j) = .tuple #[.string ByteArray.empty, .int .i64 0, .int .i64 3] := by
  have hb : blk ((txt s).take j) = none := by
    cases hd : blk ((txt s).take j) with
    | none => rfl
    | some x =>
      obtain ⟨m, k⟩ := x
      have h := blk_some (fun b hb => txt_byte s b (List.mem_of_mem_take hb)) hd
      have h1 := dec_ext ((txt s).drop j) h.1
      rw [List.take_append_drop] at h1
      have h2 : dec (txt s) = some ((s.size : Int), (enc (s.size : Int)).length) := by
        unfold txt; exact dec_enc (by unfold I64; omega) _
      rw [h2] at h1
      have h3 := txt_len s (by omega)
      have h4 := h.2.2.1
      rw [List.length_take] at h4
      simp only [Option.some.injEq, Prod.mk.injEq] at h1
      omega
  unfold gtextV; rw [hb]

set_option maxHeartbeats 4000000 in
set_option maxRecDepth 100000 in
theorem walk_big (w : World) (s : ByteArray) (v : Value) (l : List Nat) (hs : s.size ≤ 9223372036854775807) (hv : HasB w v l) (hbig : 1000 < s.size ∨ (s.size ≤ 1000 ∧ 1000 < l.length)) :
    Calls Try.prog 7 #[.string s, v] w fun e w' => e = .returned (.bool true) ∧ Below w.heap.size w w' := by
  obtain ⟨a, cap, rfl, _, _⟩ := hv
  rcases hbig with h | ⟨h0, h⟩
  all_goals (
    go_enter Try.func7, Try.ntmps7
    go_wp2_with fail
    refine (sane_any _).mono ?_
    rintro e w1 ⟨rfl, hb1⟩
    have HW := Lib.hid hb1
    clear hb1
    go_wp2
    go_ret
    exact ⟨rfl, HW.out⟩)

set_option maxHeartbeats 8000000 in
set_option maxRecDepth 100000 in
theorem walk_small (w : World) (s : ByteArray) (v : Value) (l : List Nat) (hs : s.size ≤ 1000) (hs0 : 0 < s.size) (hv : HasB w v l) (hl : ∀ b ∈ l, b < 256) (hsm : l.length ≤ 1000) :
    Calls Try.prog 7 #[.string s, v] w fun e w' => e = .returned (.bool true) ∧ Below w.heap.size w w' := by
  obtain ⟨i0, hi, hz0, hz1, hz2⟩ := info_parts info_u8
  have HV := Lib.hid hv
  have HL := Lib.hid hl
  obtain ⟨a, cap, rfl, _, _⟩ := hv
  have hb : decide ((1000 : Int) < l.length) = false := by simp; omega
  have hb2 : decide ((1000 : Int) < s.size) = false := by simp; omega
  obtain ⟨M, hM⟩ : ∃ M, M + 1 = (txt s).length := ⟨(txt s).length - 1, by have := (txt_len s (by omega)).2.2; omega⟩
  have p10 : M + 1 ≤ 1010 := by have := (txt_len s (by omega)).2.1; omega
  have hM1 : 0 < M := by have h1 := txt_len s (by omega); have h2 := enc_pos (s.size : Int); omega
  have HP := Lib.hid hM
  have HD := Lib.hid (gt_yes s hs l (M + 1) hM)
  have HN := Lib.hid (gt_no s hs M (by omega))
  have HB : Hid (∀ b ∈ txt s ++ l, b < 256) := Lib.hid (fun b hb => by
    rcases List.mem_append.1 hb with h | h
    · exact txt_byte s b h
    · exact hl b h)
  clear hM hl hs0
  go_enter Try.func7, Try.ntmps7
  go_wp2_with fail
  refine (text_any s (by omega) _).mono ?_
  rintro e w2 ⟨v2, rfl, h2, hb2'⟩
  have HW := Lib.hid hb2'
  obtain ⟨g, c, rfl, hcells⟩ := own_addr h2 (by rw [← HP.out]; omega)
  have H2 := Lib.hid (hasB_of_owns h2)
  rw [← HP.out] at H2 ⊢
  have hc : M + 1 ≤ c := by
    obtain ⟨a', c', he, hl', _⟩ := H2.out
    simp only [Value.slice.injEq] at he
    obtain ⟨_, he2, rfl⟩ := he
    omega
  have HCC := Lib.hid hcells
  have t1 : (M : Int) + 1 ≤ c := by omega
  have t2 : (M : Int) ≤ c := by omega
  clear h2 hb2' hcells
  rcases (hasB_src HV.out).2 with ⟨rfl, hz, rfl⟩ | ⟨ad, rfl, hcs⟩
  · have hl0 : l = [] := List.length_eq_zero_iff.1 hz
    subst hl0
    have H4 : Hid (HasB w2 (.slice (some ⟨g, 0, none⟩) (M + 1) (M + 1)) (txt s ++ [])) := Lib.hid (by
      rw [List.append_nil]
      have h := H2.out
      obtain ⟨a', c', he, hl', hx⟩ := h
      simp only [Value.slice.injEq] at he
      obtain ⟨rfl, hP', rfl⟩ := he
      exact ⟨_, M + 1, by rw [HP.out], ⟨by rw [← HP.out]; omega, by rw [← HP.out]; exact Nat.le_refl _, by omega, fun h => by cases h⟩, hx⟩)
    clear hz
    go_wp2_with fail
    have h4 := H4.out
    refine (gtext_s (txt s ++ []) _ HB.out HD.out h4).mono ?_
    rintro e w5 ⟨rfl, hb5⟩
    replace HW := Lib.hid (HW.out.trans (hb5.mono HW.out.size))
    replace H2 := Lib.hid (hasB_keep H2.out hb5)
    have HX := Lib.hid (hasB_take H2.out (j := M) (by omega))
    clear hb5
    go_wp2_with fail
    ((with_reducible refine (gtext_s ((txt s).take M) _ (fun b hb => txt_byte s b (List.mem_of_mem_take hb)) HN.out HX.out).mono ?_))
    rintro e w6 ⟨rfl, hb6⟩
    replace HW := Lib.hid (HW.out.trans (hb6.mono HW.out.size))
    replace H2 := Lib.hid (hasB_keep H2.out hb6)
    clear hb6
    go_wp2_with fail
    refine (sane_any _).mono ?_
    rintro e w7 ⟨rfl, hb7⟩
    replace HW := Lib.hid (HW.out.trans (hb7.mono HW.out.size))
    replace H2 := Lib.hid (hasB_keep H2.out hb7)
    clear hb7
    go_wp2_with fail
    refine (rtext_any s (by omega) _).mono ?_
    rintro e w8 ⟨v8, rfl, h8, hb8⟩
    replace HW := Lib.hid (HW.out.trans (hb8.mono HW.out.size))
    replace H2 := Lib.hid (hasB_keep H2.out hb8)
    have H8 := Lib.hid (hasB_of_owns h8)
    clear hb8 h8
    go_wp2_with fail
    refine (same_s (txt s) (txt s) true (by simp) H2.out H8.out).mono ?_
    rintro e w9 ⟨rfl, hb9⟩
    replace HW := Lib.hid (HW.out.trans (hb9.mono HW.out.size))
    clear hb9
    go_wp2
    go_ret
    exact ⟨rfl, HW.out⟩

  · have HCS : Hid (∀ j u, (l.map bV)[j]? = some u → w2.cell? (ad.add j) = some u) := Lib.hid (fun j u hu => by
      have h := hcs j u hu
      exact (HW.out.cell (World.block_lt_of_cell? w _ h)).trans h)
    clear hcs
    go_wp2_with (first
      | (at_builtin; refine wpList_append_cut _ rfl _ _ rfl i0 hi hz0 hz1 hz2 g (M + 1) (txt s) rfl HP.out.symm (by omega) HCC.out ad l.length cap l rfl rfl HCS.out (by omega) ?_; intro v4 w4 h4 hb4)
      | fail)
    have H4 := Lib.hid h4
    replace HW := Lib.hid (HW.out.trans (hb4.mono HW.out.size))
    replace H2 := Lib.hid (hasB_keep H2.out hb4)
    clear h4 hb4
    refine (gtext_s (txt s ++ l) _ HB.out HD.out H4.out).mono ?_
    rintro e w5 ⟨rfl, hb5⟩
    replace HW := Lib.hid (HW.out.trans (hb5.mono HW.out.size))
    replace H2 := Lib.hid (hasB_keep H2.out hb5)
    have HX := Lib.hid (hasB_take H2.out (j := M) (by omega))
    clear hb5
    go_wp2_with fail
    ((with_reducible refine (gtext_s ((txt s).take M) _ (fun b hb => txt_byte s b (List.mem_of_mem_take hb)) HN.out HX.out).mono ?_))
    rintro e w6 ⟨rfl, hb6⟩
    replace HW := Lib.hid (HW.out.trans (hb6.mono HW.out.size))
    replace H2 := Lib.hid (hasB_keep H2.out hb6)
    clear hb6
    go_wp2_with fail
    refine (sane_any _).mono ?_
    rintro e w7 ⟨rfl, hb7⟩
    replace HW := Lib.hid (HW.out.trans (hb7.mono HW.out.size))
    replace H2 := Lib.hid (hasB_keep H2.out hb7)
    clear hb7
    go_wp2_with fail
    refine (rtext_any s (by omega) _).mono ?_
    rintro e w8 ⟨v8, rfl, h8, hb8⟩
    replace HW := Lib.hid (HW.out.trans (hb8.mono HW.out.size))
    replace H2 := Lib.hid (hasB_keep H2.out hb8)
    have H8 := Lib.hid (hasB_of_owns h8)
    clear hb8 h8
    go_wp2_with fail
    refine (same_s (txt s) (txt s) true (by simp) H2.out H8.out).mono ?_
    rintro e w9 ⟨rfl, hb9⟩
    replace HW := Lib.hid (HW.out.trans (hb9.mono HW.out.size))
    clear hb9
    go_wp2
    go_ret
    exact ⟨rfl, HW.out⟩


set_option maxHeartbeats 8000000 in
set_option maxRecDepth 100000 in
theorem walk_zero (w : World) (s : ByteArray) (v : Value) (l : List Nat) (hs0 : s.size = 0) (hv : HasB w v l) (hl : ∀ b ∈ l, b < 256) (hsm : l.length ≤ 1000) :
    Calls Try.prog 7 #[.string s, v] w fun e w' => e = .returned (.bool true) ∧ Below w.heap.size w w' := by
  obtain ⟨i0, hi, hz0, hz1, hz2⟩ := info_parts info_u8
  have HV := Lib.hid hv
  have HL := Lib.hid hl
  obtain ⟨a, cap, rfl, _, _⟩ := hv
  have hb : decide ((1000 : Int) < l.length) = false := by simp; omega
  have hb2 : decide ((1000 : Int) < s.size) = false := by simp; omega
  have hs : s.size ≤ 1000 := by omega
  have hM : 1 = (txt s).length := by have h1 := txt_len s (by omega); rw [h1.1, hs0]; unfold enc; rw [show zz ((0 : Nat) : Int) = 0 by decide, grp_small (by decide)]; rfl
  have HP := Lib.hid hM
  have HD := Lib.hid (gt_yes s hs l 1 hM)
  have HN := Lib.hid (gt_no s hs 0 (by omega))
  have HB : Hid (∀ b ∈ txt s ++ l, b < 256) := Lib.hid (fun b hb => by
    rcases List.mem_append.1 hb with h | h
    · exact txt_byte s b h
    · exact hl b h)
  clear hM hl hs0
  go_enter Try.func7, Try.ntmps7
  go_wp2_with fail
  refine (text_any s (by omega) _).mono ?_
  rintro e w2 ⟨v2, rfl, h2, hb2'⟩
  have HW := Lib.hid hb2'
  obtain ⟨g, c, rfl, hcells⟩ := own_addr h2 (by rw [← HP.out]; omega)
  have H2 := Lib.hid (hasB_of_owns h2)
  rw [← HP.out] at H2 ⊢
  have hc : 1 ≤ c := by
    obtain ⟨a', c', he, hl', _⟩ := H2.out
    simp only [Value.slice.injEq] at he
    obtain ⟨_, he2, rfl⟩ := he
    omega
  have HCC := Lib.hid hcells
  have t1 : (1 : Int) ≤ c := by omega
  have t2 : (0 : Int) ≤ c := by omega
  clear h2 hb2' hcells
  rcases (hasB_src HV.out).2 with ⟨rfl, hz, rfl⟩ | ⟨ad, rfl, hcs⟩
  · have hl0 : l = [] := List.length_eq_zero_iff.1 hz
    subst hl0
    have H4 : Hid (HasB w2 (.slice (some ⟨g, 0, none⟩) 1 1) (txt s ++ [])) := Lib.hid (by
      rw [List.append_nil]
      have h := H2.out
      obtain ⟨a', c', he, hl', hx⟩ := h
      simp only [Value.slice.injEq] at he
      obtain ⟨rfl, hP', rfl⟩ := he
      exact ⟨_, 1, by rw [HP.out], ⟨by rw [← HP.out]; omega, by rw [← HP.out]; exact Nat.le_refl _, by omega, fun h => by cases h⟩, hx⟩)
    clear hz
    go_wp2_with fail
    have h4 := H4.out
    refine (gtext_s (txt s ++ []) _ HB.out HD.out h4).mono ?_
    rintro e w5 ⟨rfl, hb5⟩
    replace HW := Lib.hid (HW.out.trans (hb5.mono HW.out.size))
    replace H2 := Lib.hid (hasB_keep H2.out hb5)
    have HX := Lib.hid (hasB_take H2.out (j := 0) (by omega))
    clear hb5
    go_wp2_with fail
    ((with_reducible refine (gtext_s ((txt s).take 0) _ (fun b hb => txt_byte s b (List.mem_of_mem_take hb)) HN.out HX.out).mono ?_))
    rintro e w6 ⟨rfl, hb6⟩
    replace HW := Lib.hid (HW.out.trans (hb6.mono HW.out.size))
    replace H2 := Lib.hid (hasB_keep H2.out hb6)
    clear hb6
    go_wp2_with fail
    refine (sane_any _).mono ?_
    rintro e w7 ⟨rfl, hb7⟩
    replace HW := Lib.hid (HW.out.trans (hb7.mono HW.out.size))
    replace H2 := Lib.hid (hasB_keep H2.out hb7)
    clear hb7
    go_wp2_with fail
    refine (rtext_any s (by omega) _).mono ?_
    rintro e w8 ⟨v8, rfl, h8, hb8⟩
    replace HW := Lib.hid (HW.out.trans (hb8.mono HW.out.size))
    replace H2 := Lib.hid (hasB_keep H2.out hb8)
    have H8 := Lib.hid (hasB_of_owns h8)
    clear hb8 h8
    go_wp2_with fail
    refine (same_s (txt s) (txt s) true (by simp) H2.out H8.out).mono ?_
    rintro e w9 ⟨rfl, hb9⟩
    replace HW := Lib.hid (HW.out.trans (hb9.mono HW.out.size))
    clear hb9
    go_wp2
    go_ret
    exact ⟨rfl, HW.out⟩

  · have HCS : Hid (∀ j u, (l.map bV)[j]? = some u → w2.cell? (ad.add j) = some u) := Lib.hid (fun j u hu => by
      have h := hcs j u hu
      exact (HW.out.cell (World.block_lt_of_cell? w _ h)).trans h)
    clear hcs
    go_wp2_with (first
      | (at_builtin; refine wpList_append_cut _ rfl _ _ rfl i0 hi hz0 hz1 hz2 g 1 (txt s) rfl HP.out.symm (by omega) HCC.out ad l.length cap l rfl rfl HCS.out (by omega) ?_; intro v4 w4 h4 hb4)
      | fail)
    have H4 := Lib.hid h4
    replace HW := Lib.hid (HW.out.trans (hb4.mono HW.out.size))
    replace H2 := Lib.hid (hasB_keep H2.out hb4)
    clear h4 hb4
    refine (gtext_s (txt s ++ l) _ HB.out HD.out H4.out).mono ?_
    rintro e w5 ⟨rfl, hb5⟩
    replace HW := Lib.hid (HW.out.trans (hb5.mono HW.out.size))
    replace H2 := Lib.hid (hasB_keep H2.out hb5)
    have HX := Lib.hid (hasB_take H2.out (j := 0) (by omega))
    clear hb5
    go_wp2_with fail
    ((with_reducible refine (gtext_s ((txt s).take 0) _ (fun b hb => txt_byte s b (List.mem_of_mem_take hb)) HN.out HX.out).mono ?_))
    rintro e w6 ⟨rfl, hb6⟩
    replace HW := Lib.hid (HW.out.trans (hb6.mono HW.out.size))
    replace H2 := Lib.hid (hasB_keep H2.out hb6)
    clear hb6
    go_wp2_with fail
    refine (sane_any _).mono ?_
    rintro e w7 ⟨rfl, hb7⟩
    replace HW := Lib.hid (HW.out.trans (hb7.mono HW.out.size))
    replace H2 := Lib.hid (hasB_keep H2.out hb7)
    clear hb7
    go_wp2_with fail
    refine (rtext_any s (by omega) _).mono ?_
    rintro e w8 ⟨v8, rfl, h8, hb8⟩
    replace HW := Lib.hid (HW.out.trans (hb8.mono HW.out.size))
    replace H2 := Lib.hid (hasB_keep H2.out hb8)
    have H8 := Lib.hid (hasB_of_owns h8)
    clear hb8 h8
    go_wp2_with fail
    refine (same_s (txt s) (txt s) true (by simp) H2.out H8.out).mono ?_
    rintro e w9 ⟨rfl, hb9⟩
    replace HW := Lib.hid (HW.out.trans (hb9.mono HW.out.size))
    clear hb9
    go_wp2
    go_ret
    exact ⟨rfl, HW.out⟩


theorem walk (w : World) (s : ByteArray) (ws : s.size ≤ maxLen) (v : Value) (l : List Nat) (hv : HasB w v l) (hl : ∀ b ∈ l, b < 256) :
    Calls Try.prog 7 #[.string s, v] w fun e w' => e = .returned (.bool true) ∧ Below w.heap.size w w' := by
  by_cases h : s.size ≤ 1000 ∧ l.length ≤ 1000
  · by_cases h0 : s.size = 0
    · exact walk_zero w s v l h0 hv hl h.2
    · exact walk_small w s v l h.1 (by omega) hv hl h.2
  · exact walk_big w s v l (by unfold maxLen at ws; omega) hv (by omega)

theorem own : ownKnob Try.prog.godebug = none := by kernel_rfl
theorem laidOut : laidOutB Try.prog = true := by kernel_rfl

set_option maxRecDepth 100000 in
theorem lifted (os : Os) (started : os.Started) (H : Type) (enc : TypeId × Value → H) :
    ReturnsInHanded {} Try.checked os 7 .any (Rows.wireTextRoundTripSpec.pre6 enc Try.prog Try.f7 Rows.wireTextRoundTripRow.domain false) (Rows.wireTextRoundTripSpec.post enc Try.prog Try.f7 false true false false) := by
  refine returnsInHanded_of_change (C := Try.checked) own started (by kernel_rfl) Try.func7
    (ChangeSpec.witness6 (enc := enc) (C := Try.checked) false ⟨#[], #[.string ByteArray.empty, .slice none 0 0], []⟩ 8 (by kernel_rfl) (by kernel_rfl) (by kernel_rfl) (by kernel_rfl)) ?_
  intro W base args ds gs before hval0 hW hcnd _
  have hval : ∀ (j : Nat) t v, Try.f7.params[j]? = some t → args[j]? = some v → Value.okWide Try.prog W .any base t v := hval0
  have hW' := hW
  obtain ⟨p, q, hA0, hV, rfl, hfz, hnd⟩ := hW
  have hA : DataW.TrodAll enc Try.prog W 0 (fun _ => true) true Try.f7.params.toList args.toList ds p := hA0
  rw [Try.params7] at hA hval
  obtain ⟨v0, vs0, d0, ds0, p0, q0, hargs, rfl, rfl, h0, r0⟩ := trodAll_cons hA
  obtain ⟨v1, vs1, d1, ds1, p1, q1, rfl, rfl, rfl, h1, r1⟩ := trodAll_cons r0
  obtain ⟨rfl, rfl, rfl⟩ := trodAll_nil r1
  obtain rfl : args = #[v0, v1] := by cases args; simp_all
  obtain ⟨rfl, rfl⟩ := trodVars_none hV
  clear hA0 hval0
  simp only [List.append_nil] at hW'
  have lt0 : ∀ x ∈ p0, x.block < W.heap.size := fun x hx => hW'.lt x (by simp [hx])
  have lt1 : ∀ x ∈ p1, x.block < W.heap.size := fun x hx => hW'.lt x (by simp [hx])
  have back0 : ∀ W', Below W.heap.size W W' → DataW.Trod enc Try.prog W' 0 (fun b => decide (b < W.heap.size)) true 9 v0 d0 p0 := fun W' hb => Below.trod laidOut (by kernel_rfl) (of_decide_eq_true (by kernel_rfl)) h0 hb lt0
  have back1 : ∀ W', Below W.heap.size W W' → DataW.Trod enc Try.prog W' 0 (fun b => decide (b < W.heap.size)) true 24 v1 d1 p1 := fun W' hb => Below.trod laidOut (by kernel_rfl) (of_decide_eq_true (by kernel_rfl)) h1 hb lt1
  obtain ⟨s0, rfl, rfl, rfl, w0⟩ := ChangeMaps.open_string Try.underlying9 (hval 0 9 v0 rfl rfl) h0
  obtain ⟨l1, k1, b1⟩ := open_bytesArg (hval 1 24 v1 rfl rfl) h1
  refine (walk W s0 w0 v1 l1 k1 b1).mono fun e W' ⟨he, hg⟩ => ?_
  subst he
  exact ⟨_, rfl, _, _, _, [], _, [], hW', (trodAll_cons_mk (shut_bool Try.underlying4 _) trodAll_mk0), (trodAll_cons_mk (back0 _ hg) (trodAll_cons_mk (back1 _ hg) trodAll_mk0)), rfl, hg.frame _, fun h => by cases h⟩

theorem over : Rows.wireTextRoundTripRow.holds Try.pinned (OpenSpec.ofChange Rows.wireTextRoundTripSpec) :=
  OpenClaim.holds_of_wide 7 Try.f7 rfl rfl rfl rfl rfl rfl rfl ⟨rfl, rfl, rfl, rfl, rfl⟩ rfl rfl rfl rfl rfl (by kernel_rfl) Try.func7 (by kernel_rfl)
    (of_decide_eq_true (by kernel_rfl)) (by unfold Func.isWrapper; first | (rw [if_pos (by decide +kernel)]; kernel_rfl) | (rw [if_neg (by decide +kernel)]; exact ⟨rfl, rfl⟩))
    (fun os started H enc _ => lifted os started H enc)

/-- The given statement. -/
theorem proved : Rows.WireTextRoundTripSaid :=
  over
#print axioms proved
end Go.Proofs.Ytoieifhagekgfaa.wireTextRoundTrip
