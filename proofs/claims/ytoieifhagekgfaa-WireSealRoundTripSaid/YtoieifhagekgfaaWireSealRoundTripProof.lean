/- WireSealRoundTrip: opening a sealed byte sequence returns its content, whatever follows it, and no proper prefix of it can be opened. No condition. -/
import Derived.Test.YtoieifhagekgfaaRows
import Derived.Test.YtoieifhagekgfaaWireA
import Derived.Test.YtoieifhagekgfaaWireB
import Derived.Test.YtoieifhagekgfaaWireC
import Derived.Test.YtoieifhagekgfaaWireD
import Derived.Test.YtoieifhagekgfaaWireE
import Derived.Test.YtoieifhagekgfaaWireF
import Derived.Test.YtoieifhagekgfaaWireK
import Derived.Test.YtoieifhagekgfaaWireO
import Derived.Test.YtoieifhagekgfaaWireP
import Derived.Test.YtoieifhagekgfaaWireQ
import Derived.Test.YtoieifhagekgfaaWireS
import Derived.WalkKit
import Derived.ProofKit
import Derived.OpenShut
import Derived.Lib.Hide
import Derived.Carry
namespace Go.Proofs.Ytoieifhagekgfaa.wireSealRoundTrip
open Go.ChangeShapes Go.WideShapes Go.ChangeAt Go.RowKit
set_option linter.unusedVariables false

theorem scan_ext {p : List Nat} {x : Nat × Nat} (r : List Nat) (h : scan p = some x) : scan (p ++ r) = some x := by
  induction p generalizing x with
  | nil => simp [scan] at h
  | cons b p ih =>
    unfold scan at h
    simp only [List.cons_append]
    unfold scan
    split at h
    · rename_i hs; rw [if_pos hs]; exact h
    · rename_i hs
      rw [if_neg hs]
      split at h
      · cases h
      · rename_i u k he
        rw [ih he]; exact h
theorem dec_ext {p : List Nat} {x : Int × Nat} (r : List Nat) (h : dec p = some x) : dec (p ++ r) = some x := by
  unfold dec at h ⊢
  split at h
  · cases h
  · rename_i u k he
    rw [scan_ext r he]; exact h

theorem seal_len (b : List Nat) (hb : b.length ≤ 1000) : (sealB b).length = (enc (b.length : Int)).length + b.length + (enc (adler b : Int)).length ∧ (sealB b).length ≤ 20 + b.length ∧ 0 < (sealB b).length := by
  unfold sealB
  rw [List.length_append, List.length_append]
  have h1 := enc_len (n := (b.length : Int)) (by unfold I64; omega)
  have h2 := enc_len (adler_i64 b)
  have h3 := enc_pos (b.length : Int)
  exact ⟨rfl, by omega, by omega⟩
theorem seal_byte (b : List Nat) (hb : ∀ x ∈ b, x < 256) : ∀ x ∈ sealB b, x < 256 := by
  intro x hx
  unfold sealB at hx
  rcases List.mem_append.1 hx with h | h
  · rcases List.mem_append.1 h with h | h
    · exact enc_byte _ x h
    · exact hb x h
  · exact enc_byte _ x h
theorem seal_blk (b : List Nat) (hb : b.length ≤ 1000) (r : List Nat) : dec (sealB b ++ r) = some ((b.length : Int), (enc (b.length : Int)).length) ∧ (sealB b ++ r).drop ((enc (b.length : Int)).length + b.length) = enc (adler b : Int) ++ r ∧ ((sealB b ++ r).drop (enc (b.length : Int)).length).take b.length = b := by
  unfold sealB
  rw [List.append_assoc, List.append_assoc]
  refine ⟨dec_enc (by unfold I64; omega) _, ?_, ?_⟩
  · rw [← List.drop_drop, List.drop_left, List.drop_left]
  · rw [List.drop_left, List.take_append_of_le_length (Nat.le_refl _), List.take_of_length_le (Nat.le_refl _)]
theorem open_yes (b : List Nat) (hb : b.length ≤ 1000) (r : List Nat) : openB (sealB b ++ r) = some (b, (sealB b).length) := by
  have h := seal_blk b hb r
  have hl := (seal_len b hb).1
  have hk : blk (sealB b ++ r) = some (b.length, (enc (b.length : Int)).length) := by
    unfold blk; rw [h.1]; simp only
    rw [if_pos ⟨by omega, by rw [List.length_append]; omega⟩, Int.toNat_natCast]
  unfold openB
  rw [hk]
  simp only
  rw [h.2.1, dec_enc (adler_i64 b)]
  simp only
  rw [h.2.2, if_pos rfl, hl]
theorem open_no (b : List Nat) (hb : b.length ≤ 1000) (hbb : ∀ x ∈ b, x < 256) (j : Nat) (hj : j < (sealB b).length) : openB ((sealB b).take j) = none := by
  have hq : ∀ x ∈ (sealB b).take j, x < 256 := fun x hx => seal_byte b hbb x (List.mem_of_mem_take hx)
  have h := seal_blk b hb []
  rw [List.append_nil, List.append_nil] at h
  have hl := (seal_len b hb).1
  unfold openB
  cases hk : blk ((sealB b).take j) with
  | none => rfl
  | some x =>
    obtain ⟨m, k⟩ := x
    have hs := blk_some hq hk
    have h1 := dec_ext ((sealB b).drop j) hs.1
    rw [List.take_append_drop, h.1] at h1
    simp only [Option.some.injEq, Prod.mk.injEq] at h1
    have hm : m = b.length := by omega
    have hk2 : k = (enc (b.length : Int)).length := h1.2.symm
    have hkm := hs.2.2.1
    simp only
    cases hd : dec (((sealB b).take j).drop (k + m)) with
    | none => rfl
    | some y =>
      exfalso
      obtain ⟨s, u⟩ := y
      have hu := dec_some (fun x hx => hq x (List.mem_of_mem_drop hx)) hd
      have h2 := dec_ext ((sealB b).drop j) hd
      rw [← List.drop_append_of_le_length hkm, List.take_append_drop, hk2, hm, h.2.1] at h2
      have h3 := dec_enc (adler_i64 b) []
      rw [List.append_nil, h2] at h3
      simp only [Option.some.injEq, Prod.mk.injEq] at h3
      have h4 := hu.2.2.2
      rw [List.length_drop, List.length_take] at h4
      rw [List.length_take] at hkm
      omega

set_option maxHeartbeats 4000000 in
set_option maxRecDepth 100000 in
theorem walk_big (w : World) (v : Value) (b : List Nat) (hv : HasB w v b) (u : Value) (r : List Nat) (hu : HasB w u r) (hll : b.length + r.length ≤ 4611686018427387903) (hbig : 600 < b.length + r.length) :
    Calls Try.prog 12 #[v, u] w fun e w' => e = .returned (.bool true) ∧ Below w.heap.size w w' := by
  obtain ⟨a, cap, rfl, _, _⟩ := hv
  obtain ⟨a', cap', rfl, _, _⟩ := hu
  have hb : decide ((600 : Int) < (b.length : Int) + r.length) = true := by simp; omega
  have q1 : 0 ≤ (b.length : Int) + r.length := by omega
  have q2 : (b.length : Int) + r.length ≤ 9223372036854775807 := by omega
  go_enter Try.func12, Try.ntmps12
  go_wp2_with fail
  refine (sane_any _).mono ?_
  rintro e w1 ⟨rfl, hb1⟩
  have HW := Lib.hid hb1
  clear hb1
  go_wp2
  go_ret
  exact ⟨rfl, HW.out⟩

theorem open_s {v : Value} {w : World} (l p : List Nat) (n : Int) (hl : ∀ b ∈ l, b < 256) (hlen : l.length ≤ 1000000) (hT : openB l = some (p, n.toNat)) (hn : ((n.toNat : Nat) : Int) = n) (hv : HasB w v l) : Calls Try.prog 29 #[v] w fun e w' => ∃ r, e = .returned (.tuple #[r, .int .i64 n, .int .i64 0]) ∧ HasB w' r p ∧ Below w.heap.size w w' :=
  (open_any v l hl hlen w hv).mono fun e w' ⟨hb, h⟩ => by
    rw [hT] at h
    obtain ⟨r, he, hr⟩ := h
    exact ⟨r, by rw [he, hn], hr, hb⟩
theorem open_n {v : Value} {w : World} (l : List Nat) (hl : ∀ b ∈ l, b < 256) (hlen : l.length ≤ 1000000) (hT : openB l = none) (hv : HasB w v l) : Calls Try.prog 29 #[v] w fun e w' => e = .returned (.tuple #[.slice none 0 0, .int .i64 0, .int .i64 3]) ∧ Below w.heap.size w w' :=
  (open_any v l hl hlen w hv).mono fun e w' ⟨hb, h⟩ => by
    rw [hT] at h
    exact ⟨h, hb⟩

set_option maxHeartbeats 8000000 in
set_option maxRecDepth 100000 in
theorem walk_small (w : World) (v : Value) (b : List Nat) (hv : HasB w v b) (hbb : ∀ x ∈ b, x < 256) (u : Value) (l : List Nat) (hu : HasB w u l) (hl : ∀ x ∈ l, x < 256) (hsm : b.length + l.length ≤ 600) :
    Calls Try.prog 12 #[v, u] w fun e w' => e = .returned (.bool true) ∧ Below w.heap.size w w' := by
  obtain ⟨i0, hi, hz0, hz1, hz2⟩ := info_parts info_u8
  have HBV := Lib.hid hv
  have HV := Lib.hid hu
  have HBB := Lib.hid hbb
  have HL := Lib.hid hl
  obtain ⟨ab, capb, rfl, _, _⟩ := hv
  obtain ⟨a, cap, rfl, _, _⟩ := hu
  have hb : decide ((600 : Int) < (b.length : Int) + l.length) = false := by simp; omega
  have q1 : (b.length : Int) + l.length ≤ 600 := by omega
  obtain ⟨P, hP⟩ : ∃ P, P = (sealB b).length := ⟨_, rfl⟩
  have p1 : 0 < P := by have := (seal_len b (by omega)).2.2; omega
  have p10 : P ≤ 620 := by have := (seal_len b (by omega)).2.1; omega
  have HP := Lib.hid hP
  have HD := Lib.hid (open_yes b (by omega) l)
  have HN : Hid (∀ j, j < P → openB ((sealB b).take j) = none) := Lib.hid (fun j hj => open_no b (by omega) hbb j (by omega))
  have HB : Hid (∀ x ∈ sealB b ++ l, x < 256) := Lib.hid (fun x hx => by
    rcases List.mem_append.1 hx with h | h
    · exact seal_byte b hbb x h
    · exact hl x h)
  have HLN : Hid ((sealB b ++ l).length ≤ 1000000) := Lib.hid (by rw [List.length_append]; omega)
  clear hP hl hbb
  go_enter Try.func12, Try.ntmps12
  go_wp2_with fail
  refine (seal_any _ b HBB.out (by omega) _ HBV.out).mono ?_
  rintro e w2 ⟨v2, rfl, h2, hb2'⟩
  have HW := Lib.hid hb2'
  obtain ⟨g, c, rfl, hcells⟩ := own_addr h2 (by rw [← HP.out]; omega)
  have H2 := Lib.hid (hasB_of_owns h2)
  rw [← HP.out] at H2 ⊢
  have hc : P ≤ c := by
    obtain ⟨a', c', he, hl', _⟩ := H2.out
    simp only [Value.slice.injEq] at he
    obtain ⟨_, he2, rfl⟩ := he
    omega
  have HCC := Lib.hid hcells
  have t1 : (P : Int) ≤ c := by omega
  clear h2 hb2' hcells
  rcases (hasB_src HV.out).2 with ⟨rfl, hz, rfl⟩ | ⟨ad, rfl, hcs⟩
  · have hl0 : l = [] := List.length_eq_zero_iff.1 hz
    subst hl0
    have H4 : Hid (HasB w2 (.slice (some ⟨g, 0, none⟩) P P) (sealB b ++ [])) := Lib.hid (by
      rw [List.append_nil]
      have h := H2.out
      obtain ⟨a', c', he, hl', hx⟩ := h
      simp only [Value.slice.injEq] at he
      obtain ⟨rfl, hP', rfl⟩ := he
      exact ⟨_, P, by rw [HP.out], ⟨by rw [← HP.out]; omega, by rw [← HP.out]; exact Nat.le_refl _, by omega, fun h => by cases h⟩, hx⟩)
    clear hz
    go_wp2_with fail
    have h4 := H4.out
    refine (open_s (sealB b ++ []) b (P : Int) HB.out HLN.out (by rw [HD.out, Int.toNat_natCast, HP.out]) (by simp) h4).mono ?_
    rintro e w5 ⟨r5, rfl, h5, hb5⟩
    have H5 := Lib.hid h5
    have HW5 := Lib.hid (HW.out.trans (hb5.mono HW.out.size))
    have H25 := Lib.hid (hasB_keep H2.out hb5)
    clear hb5 h5
    go_wp2
    go_loopw [37] (fun i wr => ∃ j : Nat, j ≤ P ∧ i = .int .i64 j ∧ Hid (Below w.heap.size w wr) ∧ Hid (Below w5.heap.size w5 wr)) (fun i _ => P - (intOf i).toNat)
    case atStart => exact ⟨0, Nat.zero_le _, rfl, HW5, Lib.hid (Below.refl _ _)⟩
    case round =>
      obtain ⟨j, hj, rfl, hbw, hb5w⟩ := hrel
      by_cases hlt : j < P
      · have HDJ := Lib.hid (HN.out j hlt)
        have t2 : (j : Int) ≤ c := by omega
        have t3 : j ≤ P := by omega
        have HLJ : Hid (((sealB b).take j).length ≤ 1000000) := Lib.hid (by rw [List.length_take]; omega)
        go_wp2_with fail
        refine (open_n ((sealB b).take j) (fun x hx => seal_byte b HBB.out x (List.mem_of_mem_take hx)) HLJ.out HDJ.out (hasB_take (hasB_keep H25.out hb5w.out) t3)).mono ?_
        rintro e w6 ⟨rfl, hb6⟩
        have HB6 := Lib.hid (hbw.out.trans (hb6.mono hbw.out.size))
        have HB7 := Lib.hid (hb5w.out.trans (hb6.mono hb5w.out.size))
        clear hb6
        go_wp2
        go_roundw
        case rel => exact ⟨j + 1, by omega, by go_num, HB6, HB7⟩
        case measure => simp [intOf]; omega
      · obtain rfl : j = P := by omega
        go_wp2_with fail
        refine (sane_any _).mono ?_
        rintro e w6 ⟨rfl, hb6⟩
        have HB6 := Lib.hid (hbw.out.trans (hb6.mono hbw.out.size))
        have HB7 := Lib.hid (hb5w.out.trans (hb6.mono hb5w.out.size))
        clear hb6
        go_wp2_with fail
        refine (same_s b b true (by simp) (hasB_keep H5.out HB7.out) (hasB_keep HBV.out HB6.out)).mono ?_
        rintro e w7 ⟨rfl, hb7⟩
        have HB8 := Lib.hid (HB6.out.trans (hb7.mono HB6.out.size))
        clear hb7
        go_wp2
        go_ret
        exact ⟨rfl, HB8.out⟩

  · have HCS : Hid (∀ j u, (l.map bV)[j]? = some u → w2.cell? (ad.add j) = some u) := Lib.hid (fun j u hu => by
      have h := hcs j u hu
      exact (HW.out.cell (World.block_lt_of_cell? w _ h)).trans h)
    clear hcs
    go_wp2_with (first
      | (at_builtin; refine wpList_append_cut _ rfl _ _ rfl i0 hi hz0 hz1 hz2 g P (sealB b) rfl HP.out.symm (by omega) HCC.out ad l.length cap l rfl rfl HCS.out (by omega) ?_; intro v4 w4 h4 hb4)
      | fail)
    have H4 := Lib.hid h4
    replace HW := Lib.hid (HW.out.trans (hb4.mono HW.out.size))
    replace H2 := Lib.hid (hasB_keep H2.out hb4)
    clear h4 hb4
    refine (open_s (sealB b ++ l) b (P : Int) HB.out HLN.out (by rw [HD.out, Int.toNat_natCast, HP.out]) (by simp) H4.out).mono ?_
    rintro e w5 ⟨r5, rfl, h5, hb5⟩
    have H5 := Lib.hid h5
    have HW5 := Lib.hid (HW.out.trans (hb5.mono HW.out.size))
    have H25 := Lib.hid (hasB_keep H2.out hb5)
    clear hb5 h5
    go_wp2
    go_loopw [37] (fun i wr => ∃ j : Nat, j ≤ P ∧ i = .int .i64 j ∧ Hid (Below w.heap.size w wr) ∧ Hid (Below w5.heap.size w5 wr)) (fun i _ => P - (intOf i).toNat)
    case atStart => exact ⟨0, Nat.zero_le _, rfl, HW5, Lib.hid (Below.refl _ _)⟩
    case round =>
      obtain ⟨j, hj, rfl, hbw, hb5w⟩ := hrel
      by_cases hlt : j < P
      · have HDJ := Lib.hid (HN.out j hlt)
        have t2 : (j : Int) ≤ c := by omega
        have t3 : j ≤ P := by omega
        have HLJ : Hid (((sealB b).take j).length ≤ 1000000) := Lib.hid (by rw [List.length_take]; omega)
        go_wp2_with fail
        refine (open_n ((sealB b).take j) (fun x hx => seal_byte b HBB.out x (List.mem_of_mem_take hx)) HLJ.out HDJ.out (hasB_take (hasB_keep H25.out hb5w.out) t3)).mono ?_
        rintro e w6 ⟨rfl, hb6⟩
        have HB6 := Lib.hid (hbw.out.trans (hb6.mono hbw.out.size))
        have HB7 := Lib.hid (hb5w.out.trans (hb6.mono hb5w.out.size))
        clear hb6
        go_wp2
        go_roundw
        case rel => exact ⟨j + 1, by omega, by go_num, HB6, HB7⟩
        case measure => simp [intOf]; omega
      · obtain rfl : j = P := by omega
        go_wp2_with fail
        refine (sane_any _).mono ?_
        rintro e w6 ⟨rfl, hb6⟩
        have HB6 := Lib.hid (hbw.out.trans (hb6.mono hbw.out.size))
        have HB7 := Lib.hid (hb5w.out.trans (hb6.mono hb5w.out.size))
        clear hb6
        go_wp2_with fail
        refine (same_s b b true (by simp) (hasB_keep H5.out HB7.out) (hasB_keep HBV.out HB6.out)).mono ?_
        rintro e w7 ⟨rfl, hb7⟩
        have HB8 := Lib.hid (HB6.out.trans (hb7.mono HB6.out.size))
        clear hb7
        go_wp2
        go_ret
        exact ⟨rfl, HB8.out⟩


theorem walk (w : World) (v : Value) (b : List Nat) (hv : HasB w v b) (hbb : ∀ x ∈ b, x < 256) (xb : b.length ≤ 140737488351232) (u : Value) (l : List Nat) (hu : HasB w u l) (hl : ∀ x ∈ l, x < 256) (xl : l.length ≤ 140737488351232) :
    Calls Try.prog 12 #[v, u] w fun e w' => e = .returned (.bool true) ∧ Below w.heap.size w w' := by
  by_cases h : 600 < b.length + l.length
  · exact walk_big w v b hv u l hu (by omega) h
  · exact walk_small w v b hv hbb u l hu hl (by omega)

theorem own : ownKnob Try.prog.godebug = none := by kernel_rfl
theorem laidOut : laidOutB Try.prog = true := by kernel_rfl

set_option maxRecDepth 100000 in
theorem lifted (os : Os) (started : os.Started) (H : Type) (enc : TypeId × Value → H) :
    ReturnsInHanded {} Try.checked os 12 .any (Rows.wireSealRoundTripSpec.pre6 enc Try.prog Try.f12 Rows.wireSealRoundTripRow.domain false) (Rows.wireSealRoundTripSpec.post enc Try.prog Try.f12 false true false false) := by
  refine returnsInHanded_of_change_sized (C := Try.checked) own started (by kernel_rfl) Try.func12
    (ChangeSpec.witness6 (enc := enc) (C := Try.checked) false ⟨#[], #[.slice none 0 0, .slice none 0 0], []⟩ 8 (by kernel_rfl) (by kernel_rfl) (by kernel_rfl) (by kernel_rfl)) ?_
  intro W base args ds gs before hval0 hW hcnd hsz0 _
  have hsz : (DataW.weightsEach Try.prog (Try.f12.params.toList ++ Rows.wireSealRoundTripSpec.plain.varTypes Try.prog) (ds ++ gs)).all (· ≤ reachBytes) = true := hsz0
  have hval : ∀ (j : Nat) t v, Try.f12.params[j]? = some t → args[j]? = some v → Value.okWide Try.prog W .any base t v := hval0
  have hW' := hW
  obtain ⟨p, q, hA0, hV, rfl, hfz, hnd⟩ := hW
  have hA : DataW.TrodAll enc Try.prog W 0 (fun _ => true) true Try.f12.params.toList args.toList ds p := hA0
  rw [Try.params12] at hA hval hsz
  obtain ⟨v0, vs0, d0, ds0, p0, q0, hargs, rfl, rfl, h0, r0⟩ := trodAll_cons hA
  obtain ⟨v1, vs1, d1, ds1, p1, q1, rfl, rfl, rfl, h1, r1⟩ := trodAll_cons r0
  obtain ⟨rfl, rfl, rfl⟩ := trodAll_nil r1
  obtain rfl : args = #[v0, v1] := by cases args; simp_all
  obtain ⟨rfl, rfl⟩ := trodVars_none hV
  clear hA0 hval0
  simp only [List.append_nil] at hW'
  have lt0 : ∀ x ∈ p0, x.block < W.heap.size := fun x hx => hW'.lt x (by simp [hx])
  have lt1 : ∀ x ∈ p1, x.block < W.heap.size := fun x hx => hW'.lt x (by simp [hx])
  have back0 : ∀ W', Below W.heap.size W W' → DataW.Trod enc Try.prog W' 0 (fun b => decide (b < W.heap.size)) true 24 v0 d0 p0 := fun W' hb => Below.trod laidOut (by kernel_rfl) (of_decide_eq_true (by kernel_rfl)) h0 hb lt0
  have back1 : ∀ W', Below W.heap.size W W' → DataW.Trod enc Try.prog W' 0 (fun b => decide (b < W.heap.size)) true 24 v1 d1 p1 := fun W' hb => Below.trod laidOut (by kernel_rfl) (of_decide_eq_true (by kernel_rfl)) h1 hb lt1
  obtain ⟨l0, k0, b0, y0⟩ := open_bytess (hval 0 24 v0 rfl rfl) h0
  have x0 : l0.length ≤ 140737488351232 := by
    rcases y0 with hq | ⟨e, s, rfl, hq⟩
    · omega
    · have := sized_slice hsz (j := 0) (t := 24) (e := 5) rfl rfl Try.underlying24
      rw [bytes_u8] at this; simp only [reachBytes] at this; omega
  obtain ⟨l1, k1, b1, y1⟩ := open_bytess (hval 1 24 v1 rfl rfl) h1
  have x1 : l1.length ≤ 140737488351232 := by
    rcases y1 with hq | ⟨e, s, rfl, hq⟩
    · omega
    · have := sized_slice hsz (j := 1) (t := 24) (e := 5) rfl rfl Try.underlying24
      rw [bytes_u8] at this; simp only [reachBytes] at this; omega
  refine (walk W v0 l0 k0 b0 x0 v1 l1 k1 b1 x1).mono fun e W' ⟨he, hg⟩ => ?_
  subst he
  exact ⟨_, rfl, _, _, _, [], _, [], hW', (trodAll_cons_mk (shut_bool Try.underlying4 _) trodAll_mk0), (trodAll_cons_mk (back0 _ hg) (trodAll_cons_mk (back1 _ hg) trodAll_mk0)), rfl, hg.frame _, fun h => by cases h⟩

theorem over : Rows.wireSealRoundTripRow.holds Try.pinned (OpenSpec.ofChange Rows.wireSealRoundTripSpec) :=
  OpenClaim.holds_of_wide 12 Try.f12 rfl rfl rfl rfl rfl rfl rfl ⟨rfl, rfl, rfl, rfl, rfl⟩ rfl rfl rfl rfl rfl (by kernel_rfl) Try.func12 (by kernel_rfl)
    (of_decide_eq_true (by kernel_rfl)) (by unfold Func.isWrapper; first | (rw [if_pos (by decide +kernel)]; kernel_rfl) | (rw [if_neg (by decide +kernel)]; exact ⟨rfl, rfl⟩))
    (fun os started H enc _ => lifted os started H enc)

/-- The given statement. -/
theorem proved : Rows.WireSealRoundTripSaid :=
  over
#print axioms proved
end Go.Proofs.Ytoieifhagekgfaa.wireSealRoundTrip
