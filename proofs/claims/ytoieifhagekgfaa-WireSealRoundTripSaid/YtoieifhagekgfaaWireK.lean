
/-
  Layer 3: the reference's checksums and seals; opening a seal.
-/
import Derived.Test.YtoieifhagekgfaaRows
import Derived.Test.YtoieifhagekgfaaBase
import Derived.Test.YtoieifhagekgfaaWirePlain
import Derived.Test.YtoieifhagekgfaaWireA
import Derived.Test.YtoieifhagekgfaaWireB
import Derived.Test.YtoieifhagekgfaaWireC
import Derived.Test.YtoieifhagekgfaaWireD
import Derived.Test.YtoieifhagekgfaaWireE
import Derived.Test.YtoieifhagekgfaaWireF
import Derived.Test.YtoieifhagekgfaaWireS
import Derived.Laws.AppendOwnNone
import Derived.OwnWalk
import Derived.Laws.CopyOwn
import Derived.Outline
namespace Go.Proofs.Ytoieifhagekgfaa
set_option maxRecDepth 20000
set_option linter.unusedVariables false
open Go.ChangeShapes Go.WideShapes Go.ChangeAt Go.RowKit

set_option maxHeartbeats 1600000 in
theorem rsums_any (v : Value) (l : List Nat) (hl : ∀ b ∈ l, b < 256) (w : World) (hv : HasB w v l) : Calls Try.prog 39 #[v] w fun e w' => e = .returned (.tuple #[.int .i64 (((adS l).1 : Nat) : Int), .int .i64 (((adS l).2 : Nat) : Int)]) ∧ w = w' := by
  obtain ⟨a, cap, rfl, hll, hc⟩ := hv
  have HC := Lib.hid hc
  have HL := Lib.hid hl
  clear hc hl
  obtain ⟨L, hL⟩ : ∃ L, L = l.length := ⟨_, rfl⟩
  rw [← hL] at HC hll ⊢
  have NL := Lib.hid hL
  clear hL
  go_enter Try.func39, Try.ntmps39
  go_wp2
  go_loop [4, 5, 6] (fun x y i => ∃ k : Nat, k ≤ L ∧ i = .int .i64 k ∧ x = .int .i64 (((adS (l.take k)).1 : Nat) : Int) ∧ y = .int .i64 (((adS (l.take k)).2 : Nat) : Int)) (fun _ _ i => L - (intOf i).toNat)
  case atStart => exact ⟨0, Nat.zero_le _, rfl, by simp [adS], by simp [adS]⟩
  case round =>
    obtain ⟨k, hk, rfl, rfl, rfl⟩ := hrel
    have hlt2 := adS_lt (l.take k)
    by_cases hlt : k < L
    · rcases HC.out with hc | ⟨b, o, rfl, hc⟩
      · omega
      have h1 := hc k hlt
      obtain ⟨c, hc'⟩ : ∃ c, c = l.getD k 0 := ⟨_, rfl⟩
      rw [← hc'] at h1
      have c256 : c < 256 := by
        rw [hc']; have hk' : k < l.length := by rw [← NL.out]; exact hlt
        rw [List.getD_eq_getElem?_getD, List.getElem?_eq_getElem hk']; exact HL.out _ (List.getElem_mem hk')
      have HS : Hid (adS (l.take (k + 1)) = (((adS (l.take k)).1 + c) % 65521, ((adS (l.take k)).2 + ((adS (l.take k)).1 + c) % 65521) % 65521)) := Lib.hid (by
        rw [take_snocB l k (by rw [← NL.out]; exact hlt), adS_snoc, ← hc'])
      obtain ⟨X, hX⟩ : ∃ X, X = (adS (l.take k)).1 := ⟨_, rfl⟩
      obtain ⟨Y, hY⟩ : ∃ Y, Y = (adS (l.take k)).2 := ⟨_, rfl⟩
      rw [← hX, ← hY] at HS hlt2
      rw [← hX, ← hY]
      obtain ⟨x1, y1⟩ := hlt2
      clear hX hY hc hc'
      go_wp2
      go_round
      case rel => exact ⟨k + 1, by omega, by go_num, by rw [HS.out]; first | rfl | (congr 1; simp only; omega), by rw [HS.out]; first | rfl | (congr 1; simp only; omega)⟩
      case measure => simp [intOf]; omega
    · obtain rfl : k = L := by omega
      have ht : l.take k = l := by rw [NL.out]; exact List.take_length
      rw [ht] at hlt2 ⊢
      go_wp2
      go_ret2
      exact ⟨rfl, rfl⟩

theorem rsum_any (v : Value) (l : List Nat) (hl : ∀ b ∈ l, b < 256) (w : World) (hv : HasB w v l) : Calls Try.prog 32 #[v] w fun e w' => e = .returned (.int .i64 (adler l : Int)) ∧ w = w' := by
  have HV := Lib.hid hv
  have HL := Lib.hid hl
  have h2 := adS_lt l
  have HR : Hid (Calls Try.prog 39 #[v] w fun e w' => e = .returned (.tuple #[.int .i64 (((adS l).1 : Nat) : Int), .int .i64 (((adS l).2 : Nat) : Int)]) ∧ w = w') := Lib.hid (rsums_any v l hl w hv)
  have HA : Hid ((adler l : Int) = 65536 * (((adS l).2 : Nat) : Int) + (((adS l).1 : Nat) : Int)) := Lib.hid (by unfold adler; simp)
  obtain ⟨a, cap, rfl, _, _⟩ := hv
  obtain ⟨X, hX⟩ : ∃ X, X = (adS l).1 := ⟨_, rfl⟩
  obtain ⟨Y, hY⟩ : ∃ Y, Y = (adS l).2 := ⟨_, rfl⟩
  rw [← hX, ← hY] at HR HA h2
  obtain ⟨x1, y1⟩ := h2
  clear hX hY hl
  go_enter Try.func32, Try.ntmps32
  go_wp2_with fail
  refine HR.out.mono ?_
  rintro e w' ⟨rfl, rfl⟩
  go_wp2
  go_ret
  exact ⟨ret_int (by rw [HA.out]), rfl⟩

set_option maxHeartbeats 1600000 in
theorem rseal_any (v : Value) (l : List Nat) (hl : ∀ b ∈ l, b < 256) (hlen : l.length ≤ 1000000) (w : World) (hv : HasB w v l) : Calls Try.prog 34 #[v] w fun e w' =>
    ∃ r, e = .returned r ∧ OwnB w' w.heap.size r (sealB l) ∧ Below w.heap.size w w' := by
  obtain ⟨i0, hi, hz0, hz1, hz2⟩ := info_parts info_u8
  have HV := Lib.hid hv
  have HL := Lib.hid hl
  obtain ⟨a, cap, rfl, hll, _⟩ := hv
  obtain ⟨L, hL⟩ : ∃ L, L = l.length := ⟨_, rfl⟩
  rw [← hL] at hll HV hlen ⊢
  have NL := Lib.hid hL
  clear hL hl
  have HI : Hid (I64 (L : Int)) := Lib.hid (by unfold I64; omega)
  have HE := Lib.hid (enc_len HI.out)
  have HS := Lib.hid (enc_len (adler_i64 l))
  have HSP := Lib.hid (enc_pos (adler l : Int))
  have HM : Hid (sealB l = enc (L : Int) ++ l ++ enc (adler l : Int)) := Lib.hid (by unfold sealB; rw [NL.out])
  rcases (hasB_src HV.out).2 with ⟨rfl, hz, rfl⟩ | ⟨ad, rfl, hcells⟩
  · obtain rfl : L = 0 := hz
    have HM2 : Hid (sealB l = enc ((0 : Nat) : Int) ++ enc (adler l : Int)) := Lib.hid (by rw [HM.out, List.length_eq_zero_iff.1 NL.out.symm]; simp)
    go_enter Try.func34, Try.ntmps34
    rw [show ((0 : Nat) : Int) = (0 : Int) from rfl] at HI HE HM2
    go_wp2_with fail
    ((with_reducible refine (rput_any _ HI.out _).mono ?_); rintro e w1 ⟨v1, rfl, hv1, hb1⟩)
    have HO := Lib.hid hv1
    have HB := Lib.hid hb1
    clear hv1 hb1
    go_wp2_with (first
      | (at_builtin; refine wpList_append_own_none rfl _ _ 24 rfl w.heap.size 5 i0 1 Try.underlying24 hi v1 _ _ rfl HO.out rfl ?_)
      | fail)
    ((with_reducible refine (rsum_any _ l HL.out _ (hasB_keep HV.out HB.out)).mono ?_); rintro e w2 ⟨rfl, rfl⟩)
    go_wp2_with fail
    ((with_reducible refine (rput_any _ (adler_i64 l) _).mono ?_); rintro e w3 ⟨v3, rfl, hv3, hb3⟩)
    obtain ⟨g3, c3, rfl, hc3⟩ := own_addr hv3 HSP.out
    have HB3 := Lib.hid (HB.out.trans (hb3.mono HB.out.size))
    have HO3 := Lib.hid (own_below HO.out hb3)
    have HC3 := Lib.hid hc3
    clear hb3 hv3 hc3
    go_wp2_with (first
      | (at_builtin; refine wpList_append_own _ rfl _ _ 24 rfl w.heap.size 5 i0 (.int .u8 0) 1 1 Try.underlying24 hi hz0 hz1 hz2 rfl (by decide) _ _ _ rfl HO3.out ⟨g3, 0, none⟩ _ c3 _ rfl (by rw [List.length_map, Nat.mul_one]) HC3.out (bV_one _) (by have h1 := HE.out; have h2 := HS.out; unfold maxLen; omega) (by have h1 := HE.out; have h2 := HS.out; omega) HB3.out.size ?_; intro v' w4 hown' hgrow' _))
    go_ret
    refine ⟨v', rfl, ?_, HB3.out.grown hgrow' HB3.out.size (fun j hj => (World.ownsRow.lt HO3.out j hj).1)⟩
    rw [HM2.out]
    exact own_join rfl hown'
  · have HCS := Lib.hid hcells
    clear hcells
    go_enter Try.func34, Try.ntmps34
    go_wp2_with fail
    ((with_reducible refine (rput_any _ HI.out _).mono ?_); rintro e w1 ⟨v1, rfl, hv1, hb1⟩)
    have HO := Lib.hid hv1
    have HB := Lib.hid hb1
    have HCS1 : Hid (∀ j u, (l.map bV)[j]? = some u → w1.cell? (ad.add j) = some u) := Lib.hid (fun j u hu => by
      have h := HCS.out j u hu
      exact (hb1.cell (World.block_lt_of_cell? w _ h)).trans h)
    clear hv1 hb1
    go_wp2_with (first
      | (at_builtin; refine wpList_append_own _ rfl _ _ 24 rfl w.heap.size 5 i0 (.int .u8 0) 1 1 Try.underlying24 hi hz0 hz1 hz2 rfl (by decide) _ _ _ rfl HO.out ad L cap (l.map bV) rfl (by rw [List.length_map, NL.out]; omega) HCS1.out (bV_one _) (by have h1 := HE.out; unfold maxLen; omega) (by have h1 := HE.out; omega) HB.out.size ?_; intro v2 w2 hown2 hgrow2 _)
      | fail)
    have HB2 := Lib.hid (HB.out.grown hgrow2 HB.out.size (fun j hj => (World.ownsRow.lt HO.out j hj).1))
    have HO2 : Hid (OwnB w2 w.heap.size v2 (enc (L : Int) ++ l)) := Lib.hid (own_join (by rw [NL.out]) hown2)
    clear hown2 hgrow2
    ((with_reducible refine (rsum_any _ l HL.out _ (hasB_keep HV.out HB2.out)).mono ?_); rintro e w3 ⟨rfl, rfl⟩)
    go_wp2_with fail
    ((with_reducible refine (rput_any _ (adler_i64 l) _).mono ?_); rintro e w3 ⟨v3, rfl, hv3, hb3⟩)
    obtain ⟨g3, c3, rfl, hc3⟩ := own_addr hv3 HSP.out
    have HB3 := Lib.hid (HB2.out.trans (hb3.mono HB2.out.size))
    have HO3 := Lib.hid (own_below HO2.out hb3)
    have HC3 := Lib.hid hc3
    have HEL : Hid ((enc (L : Int) ++ l).length ≤ 10 + L) := Lib.hid (by rw [List.length_append, ← NL.out]; have := HE.out; omega)
    clear hb3 hv3 hc3
    go_wp2_with (first
      | (at_builtin; refine wpList_append_own _ rfl _ _ 24 rfl w.heap.size 5 i0 (.int .u8 0) 1 1 Try.underlying24 hi hz0 hz1 hz2 rfl (by decide) _ _ _ rfl HO3.out ⟨g3, 0, none⟩ _ c3 _ rfl (by rw [List.length_map, Nat.mul_one]) HC3.out (bV_one _) (by have h1 := HEL.out; have h2 := HS.out; unfold maxLen; omega) (by have h1 := HEL.out; have h2 := HS.out; omega) HB3.out.size ?_; intro v' w4 hown' hgrow' _))
    go_ret
    refine ⟨v', rfl, ?_, HB3.out.grown hgrow' HB3.out.size (fun j hj => (World.ownsRow.lt HO3.out j hj).1)⟩
    rw [HM.out]
    exact own_join rfl hown'

/-- What opening a seal gives: the content, and the bytes used. -/
def openB (l : List Nat) : Option (List Nat × Nat) := match blk l with
  | none => none
  | some (m, k) => match dec (l.drop (k + m)) with
    | none => none
    | some (s, u) => if s = (adler ((l.drop k).take m) : Int) then some ((l.drop k).take m, k + m + u) else none
def OpenV (W : World) (l : List Nat) (e : Ending) (w' : World) : Prop :=
  Below W.heap.size W w' ∧ match openB l with
  | none => e = .returned (.tuple #[.slice none 0 0, .int .i64 0, .int .i64 3])
  | some (p, n) => ∃ v, e = .returned (.tuple #[v, .int .i64 (n : Int), .int .i64 0]) ∧ HasB w' v p

theorem madeZerosB (n : Nat) : (madeCells #[Value.int .u8 0] n).toList = List.replicate n (Value.int .u8 0) := by
  rw [toList_madeCells_one]
theorem owns_heapB {w : World} {B g n e : Nat} {xs : List Value} (h : w.ownsRow B e 1 (.slice (some ⟨g, 0, none⟩) n n) n xs) : w.heap[g]? = some (.cells xs.toArray e (0, 0)) := by
  obtain ⟨hl, ⟨h', _⟩ | ⟨g', cap', cur, h', _, hg, _, _, hs, ht⟩⟩ := h
  · simp at h'
  · simp only [Value.slice.injEq, Option.some.injEq, Addr.mk.injEq, and_true, true_and] at h'
    obtain ⟨rfl, rfl⟩ := h'
    rw [List.take_of_length_le (by simp; omega)] at ht
    rw [hg, ← ht]
theorem owns_of_heapB {w : World} {B g e n : Nat} {xs : List Value} (h : w.heap[g]? = some (.cells xs.toArray e (0, 0))) (hn : xs.length = n) (hB : B ≤ g) (hm : n ≤ maxLen) : w.ownsRow B e 1 (.slice (some ⟨g, 0, none⟩) n n) n xs :=
  ⟨by omega, .inr ⟨g, n, xs.toArray, rfl, hB, h, Nat.le_refl _, hm, by simpa using hn, by rw [List.take_of_length_le (by simp; omega)]⟩⟩
theorem size_u8 : (Try.prog.info? 5).map (·.size) = some 1 := by kernel_rfl

set_option maxHeartbeats 8000000 in
set_option maxRecDepth 100000 in
theorem open_any (v : Value) (l : List Nat) (hl : ∀ b ∈ l, b < 256) (hlen : l.length ≤ 1000000) (w : World) (hv : HasB w v l) : Calls Try.prog 29 #[v] w (OpenV w l) := by
  obtain ⟨i0, hi, hz0, hz1, hz2⟩ := info_parts info_u8
  have HV := Lib.hid hv
  have HL := Lib.hid hl
  obtain ⟨a, cap, rfl, hll, _⟩ := hv
  obtain ⟨L, hL⟩ : ∃ L, L = l.length := ⟨_, rfl⟩
  rw [← hL] at hll HV hlen ⊢
  have NL := Lib.hid hL
  clear hL hl
  obtain ⟨_, l2, l3, _⟩ := hll
  cases hb : blk l with
  | none =>
    have HN : Hid (openB l = none) := Lib.hid (by unfold openB; rw [hb])
    have HB := Lib.hid hb
    clear hb
    go_enter Try.func29, Try.ntmps29
    go_wp2_with fail
    ((with_reducible refine (block_any _ l HL.out _ HV.out).mono ?_); rintro e w' ⟨⟨n, rfl⟩, hb⟩)
    rw [HB.out] at hb
    simp only at hb
    subst hb
    go_wp2
    go_ret3
    refine ⟨below_drewN (Below.refl _ _) n, ?_⟩
    rw [HN.out]
    rfl
  | some x =>
    obtain ⟨m, k⟩ := x
    have hs := blk_some HL.out hb
    rw [← NL.out] at hs
    obtain ⟨_, hk1, hkm, _⟩ := hs
    obtain ⟨t, ht⟩ : ∃ t, t = k + m := ⟨_, rfl⟩
    have htL : t ≤ L := by omega
    have t1 : (t : Int) ≤ cap := by omega
    have hmL : m ≤ 1000000 := by omega
    have HT := Lib.hid ht
    have HO : Hid (openB l = match dec (l.drop t) with | none => none | some (s, u) => if s = (adler ((l.drop k).take m) : Int) then some ((l.drop k).take m, t + u) else none) := Lib.hid (by unfold openB; rw [hb, ht])
    obtain ⟨p, hp⟩ : ∃ p, p = (l.drop k).take m := ⟨_, rfl⟩
    rw [← hp] at HO
    have HP := Lib.hid hp
    have HPB : Hid (∀ b ∈ p, b < 256) := Lib.hid (by rw [hp]; exact fun b hb => HL.out b (List.mem_of_mem_drop (List.mem_of_mem_take hb)))
    have HB := Lib.hid hb
    have HX := Lib.hid (hasB_drop HV.out htL)
    have HXB : Hid (∀ b ∈ l.drop t, b < 256) := Lib.hid (fun b hb => HL.out b (List.mem_of_mem_drop hb))
    clear hb ht hp
    cases hd : dec (l.drop t) with
    | none =>
      have HD : Hid (decV (l.drop t) = .tuple #[.int .i64 0, .int .i64 0, .int .i64 3]) := Lib.hid (by unfold decV; rw [hd])
      have HN : Hid (openB l = none) := Lib.hid (by rw [HO.out, hd])
      clear hd
      by_cases hcap : cap = t
      · obtain rfl : L = t := by omega
        subst hcap
        simp only [if_true, Nat.sub_self] at HX
        go_enter Try.func29, Try.ntmps29
        go_wp2_with fail
        ((with_reducible refine (block_any _ l HL.out _ HV.out).mono ?_); rintro e w' ⟨⟨n, rfl⟩, hb⟩)
        rw [HB.out] at hb
        obtain ⟨a', cap', rfl, hB⟩ := hb
        rw [← HT.out]
        clear hB
        go_wp2_with fail
        ((with_reducible refine (get_s _ _ HXB.out HD.out (hasB_drewN HX.out n)).mono ?_); rintro e w2 ⟨rfl, hb2⟩)
        have HW : Hid (Below w.heap.size w w2) := Lib.hid ((below_drewN (Below.refl _ _) n).trans hb2)
        clear hb2
        go_wp2
        go_ret3
        refine ⟨HW.out, ?_⟩
        rw [HN.out]
        rfl
      · rw [if_neg hcap] at HX
        go_enter Try.func29, Try.ntmps29
        go_wp2_with fail
        ((with_reducible refine (block_any _ l HL.out _ HV.out).mono ?_); rintro e w' ⟨⟨n, rfl⟩, hb⟩)
        rw [HB.out] at hb
        obtain ⟨a', cap', rfl, hB⟩ := hb
        rw [← HT.out]
        clear hB
        go_wp2_with fail
        ((with_reducible refine (get_s (l.drop t) _ HXB.out HD.out (hasB_drewN HX.out n)).mono ?_); rintro e w2 ⟨rfl, hb2⟩)
        have HW : Hid (Below w.heap.size w w2) := Lib.hid ((below_drewN (Below.refl _ _) n).trans hb2)
        clear hb2
        go_wp2
        go_ret3
        refine ⟨HW.out, ?_⟩
        rw [HN.out]
        rfl
    | some y =>
      obtain ⟨s, u⟩ := y
      have hs3 := dec_some HXB.out hd
      rw [List.length_drop, ← NL.out] at hs3
      have hcap : ¬ cap = t := by omega
      rw [if_neg hcap] at HX
      have hu : (t : Int) + u ≤ 1000000 := by omega
      have HD : Hid (decV (l.drop t) = .tuple #[.int .i64 s, .int .i64 (u : Int), .int .i64 0]) := Lib.hid (by unfold decV; rw [hd])
      have HO2 : Hid (openB l = if s = (adler p : Int) then some (p, t + u) else none) := Lib.hid (by rw [HO.out, hd])
      clear hd hs3
      by_cases hsum : s = (adler p : Int)
      · have HN : Hid (openB l = some (p, t + u)) := Lib.hid (by rw [HO2.out, if_pos hsum])
        have q : (s != (adler p : Int)) = false := by simp [hsum]
        have HSM := Lib.hid hsum
        clear hsum HO2
        go_enter Try.func29, Try.ntmps29
        go_wp2_with fail
        ((with_reducible refine (block_any _ l HL.out _ HV.out).mono ?_); rintro e w' ⟨⟨n, rfl⟩, hb⟩)
        rw [HB.out] at hb
        obtain ⟨a', cap', rfl, hB⟩ := hb
        rw [← HT.out]
        rw [← HP.out] at hB
        have HBP := Lib.hid hB
        clear hB
        go_wp2_with fail
        ((with_reducible refine (get_s (l.drop t) _ HXB.out HD.out (hasB_drewN HX.out n)).mono ?_); rintro e w2 ⟨rfl, hb2⟩)
        have HW : Hid (Below w.heap.size w w2) := Lib.hid ((below_drewN (Below.refl _ _) n).trans hb2)
        have HBP2 := Lib.hid (hasB_keep (hasB_drewN HBP.out n) hb2)
        clear hb2
        go_wp2_with fail
        ((with_reducible refine (sum_any _ p HPB.out _ HBP2.out).mono ?_); rintro e w3 ⟨rfl, rfl⟩)
        obtain ⟨hpl, hsrc⟩ := hasB_src HBP2.out
        have HPL := Lib.hid hpl
        have HSRC := Lib.hid hsrc
        clear hpl hsrc
        go_wp2_with (first | (at_make; refine wpList_make_full _ rfl _ _ 24 rfl w2.heap.size 5 i0 (.int .u8 0) 1 Try.underlying24 hi hz0 hz1 _ _ _ _ m rfl rfl rfl rfl ?_ ?_ ?_ ?_))
        · rw [hz2]; omega
        · unfold maxLen; omega
        · exact Nat.le_refl _
        intro w4 hown hg
        have hb4 : Below w2.heap.size w2 w4 := (Below.refl _ _).grown hg (Nat.le_refl _) (by simp)
        have hh := owns_heapB hown
        have HH : Hid (w4.heap[w2.heap.size]? = some (.cells (List.replicate m (Value.int .u8 0)).toArray 5 (0, 0))) := Lib.hid (by rw [hh, madeZerosB]; first | done | simp)
        have HG := Lib.hid hb4
        have h1 : Hid ((p.map bV).length = Nat.min m m) := Lib.hid (by rw [List.length_map, HPL.out]; first | done | simp)
        have h2 : Hid (0 < (p.map bV).length → (some (⟨w2.heap.size, 0, none⟩ : Addr)) = some ⟨w2.heap.size, 0, none⟩ ∧ ∃ ad, a' = some ad ∧ ∀ j v, (p.map bV)[j]? = some v → w4.cell? (ad.add j) = some v) := Lib.hid (by
          intro h0
          refine ⟨rfl, ?_⟩
          rcases HSRC.out with ⟨_, h, _⟩ | ⟨ad, rfl, hc⟩
          · rw [List.length_map, HPL.out] at h0; omega
          · exact ⟨ad, rfl, fun j u hu => (HG.out.cell (World.block_lt_of_cell? w2 _ (hc j u hu))).trans (hc j u hu)⟩)
        have h3 : Hid (0 + (p.map bV).length ≤ (List.replicate m (Value.int .u8 0)).length) := Lib.hid (by rw [List.length_map, HPL.out]; first | done | simp)
        clear hh hown hg hb4
        go_wp2_with (first | ((with_reducible refine wpList_copy_splice (o := ⟨some 41, _, _, _, _, _⟩) rfl (.tmp 39) (.tmp 40) 24 24 rfl 5 Try.underlying24 size_u8 _ _ m m m cap' rfl rfl w2.heap.size 0 (List.replicate m (Value.int .u8 0)) 5 HH.out (p.map bV) h1.out h2.out h3.out (bV_one _) w2.heap.size w2 HG.out (Nat.le_refl _) ?_); intro w5 hh5 hb5))
        go_ret3
        refine ⟨HW.out.trans (hb5.mono HW.out.size), ?_⟩
        rw [HN.out]
        refine ⟨_, rfl, ?_⟩
        have hs : splice (List.replicate m (Value.int .u8 0)) 0 (p.map bV) = p.map bV := by
          unfold splice; simp; have := HPL.out; omega
        rw [hs] at hh5
        refine hasB_of_owns (B := w2.heap.size) ?_
        unfold OwnB
        rw [HPL.out]
        exact owns_of_heapB hh5 (by rw [List.length_map, HPL.out]) (Nat.le_refl _) (by unfold maxLen; omega)
      · have HN : Hid (openB l = none) := Lib.hid (by rw [HO2.out, if_neg hsum])
        have q : (s != (adler p : Int)) = true := by simp [hsum]
        clear hsum HO2
        go_enter Try.func29, Try.ntmps29
        go_wp2_with fail
        ((with_reducible refine (block_any _ l HL.out _ HV.out).mono ?_); rintro e w' ⟨⟨n, rfl⟩, hb⟩)
        rw [HB.out] at hb
        obtain ⟨a', cap', rfl, hB⟩ := hb
        rw [← HT.out]
        rw [← HP.out] at hB
        have HBP := Lib.hid hB
        clear hB
        go_wp2_with fail
        ((with_reducible refine (get_s (l.drop t) _ HXB.out HD.out (hasB_drewN HX.out n)).mono ?_); rintro e w2 ⟨rfl, hb2⟩)
        have HW : Hid (Below w.heap.size w w2) := Lib.hid ((below_drewN (Below.refl _ _) n).trans hb2)
        have HBP2 := Lib.hid (hasB_keep (hasB_drewN HBP.out n) hb2)
        clear hb2
        go_wp2_with fail
        ((with_reducible refine (sum_any _ p HPB.out _ HBP2.out).mono ?_); rintro e w3 ⟨rfl, rfl⟩)
        go_wp2
        go_ret3
        refine ⟨HW.out, ?_⟩
        rw [HN.out]
        rfl

end Go.Proofs.Ytoieifhagekgfaa
