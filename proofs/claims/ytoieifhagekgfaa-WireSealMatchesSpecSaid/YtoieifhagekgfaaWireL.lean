
/-
  Layer 3: the reference's opening of a seal.
-/
import Derived.Test.YtoieifhagekgfaaRows
import Derived.Test.YtoieifhagekgfaaBase
import Derived.Test.YtoieifhagekgfaaWirePlain
import Derived.Test.YtoieifhagekgfaaWireA
import Derived.Test.YtoieifhagekgfaaWireB
import Derived.Test.YtoieifhagekgfaaWireC
import Derived.Test.YtoieifhagekgfaaWireD
import Derived.Test.YtoieifhagekgfaaWireE
import Derived.Test.YtoieifhagekgfaaWireF
import Derived.Test.YtoieifhagekgfaaWireK
import Derived.Outline
namespace Go.Proofs.Ytoieifhagekgfaa
set_option maxRecDepth 20000
set_option linter.unusedVariables false
open Go.ChangeShapes Go.WideShapes Go.ChangeAt Go.RowKit

set_option maxHeartbeats 8000000 in
set_option maxRecDepth 100000 in
theorem ropen_any (v : Value) (l : List Nat) (hl : ∀ b ∈ l, b < 256) (hlen : l.length ≤ 1000000) (w : World) (hv : HasB w v l) : Calls Try.prog 30 #[v] w (OpenV w l) := by
  have HV := Lib.hid hv
  have HL := Lib.hid hl
  obtain ⟨a, cap, rfl, hll, _⟩ := hv
  obtain ⟨L, hL⟩ : ∃ L, L = l.length := ⟨_, rfl⟩
  rw [← hL] at hll HV hlen ⊢
  have NL := Lib.hid hL
  clear hL hl
  obtain ⟨_, l2, l3, _⟩ := hll
  cases hd : dec l with
  | none =>
    have HD : Hid (decV l = .tuple #[.int .i64 0, .int .i64 0, .int .i64 3]) := Lib.hid (by unfold decV; rw [hd])
    have HN : Hid (openB l = none) := Lib.hid (by unfold openB blk; rw [hd])
    clear hd
    go_enter Try.func30, Try.ntmps30
    go_wp2_with fail
    ((with_reducible refine (rget_any _ l HL.out _ HV.out).mono ?_); rintro e w' ⟨rfl, hb⟩)
    have HB := Lib.hid hb
    clear hb
    rw [HD.out]
    go_wp2
    go_ret3
    refine ⟨HB.out, ?_⟩
    rw [HN.out]
    rfl
  | some x =>
    obtain ⟨N, k⟩ := x
    have HS := Lib.hid (dec_some HL.out hd)
    have hk2 := HS.out.2.2.2
    have hk1 := HS.out.2.2.1
    rw [← NL.out] at hk2
    have hN := HS.out.1
    have HD : Hid (decV l = .tuple #[.int .i64 N, .int .i64 (k : Int), .int .i64 0]) := Lib.hid (by unfold decV; rw [hd])
    unfold I64 at hN
    by_cases hok : 0 ≤ N ∧ N ≤ (L : Int) - k
    · obtain ⟨h0, h1⟩ := hok
      obtain ⟨m, rfl⟩ := Int.eq_ofNat_of_zero_le h0
      have hb : blk l = some (m, k) := by unfold blk; rw [hd]; simp only; rw [← NL.out, if_pos ⟨h0, h1⟩]; rfl
      have htL : k + m ≤ L := by omega
      have t1 : (k : Int) + m ≤ cap := by omega
      have q3 : (k : Int) ≤ k + m := by omega
      have q4 : (k : Int) + m ≤ 1000000 := by omega
      have HO : Hid (openB l = match dec (l.drop (k + m)) with | none => none | some (s, u) => if s = (adler ((l.drop k).take m) : Int) then some ((l.drop k).take m, k + m + u) else none) := Lib.hid (by unfold openB; rw [hb]; rfl)
      obtain ⟨p, hp⟩ : ∃ p, p = (l.drop k).take m := ⟨_, rfl⟩
      rw [← hp] at HO
      have HP := Lib.hid hp
      have HPB : Hid (∀ b ∈ p, b < 256) := Lib.hid (by rw [hp]; exact fun b hb => HL.out b (List.mem_of_mem_drop (List.mem_of_mem_take hb)))
      have HXB : Hid (∀ b ∈ l.drop (k + m), b < 256) := Lib.hid (fun b hb => HL.out b (List.mem_of_mem_drop hb))
      clear hb hp hd h0 hN
      cases hd : dec (l.drop (k + m)) with
      | none =>
        have HD2 : Hid (decV (l.drop (k + m)) = .tuple #[.int .i64 0, .int .i64 0, .int .i64 3]) := Lib.hid (by unfold decV; rw [hd])
        have HN : Hid (openB l = none) := Lib.hid (by rw [HO.out, hd])
        clear hd HO
        go_enter Try.func30, Try.ntmps30
        go_wp2_with fail
        ((with_reducible refine (rget_any _ l HL.out _ HV.out).mono ?_); rintro e w1 ⟨rfl, hb1⟩)
        have HW := Lib.hid hb1
        have hX := hasB_drop (hasB_keep HV.out hb1) htL
        clear hb1
        rw [HD.out]
        by_cases hcap : cap = k + m
        · rw [if_pos hcap, show cap - (k + m) = 0 by omega] at hX
          have HX := Lib.hid hX
          have hcap2 : (cap : Int) = (k : Int) + m := by omega
          clear hX
          go_wp2_with fail
          ((with_reducible refine (rget_any _ _ HXB.out _ HX.out).mono ?_); rintro e w2 ⟨rfl, hb2⟩)
          replace HW := Lib.hid (HW.out.trans (hb2.mono HW.out.size))
          clear hb2
          rw [HD2.out]
          go_wp2
          go_ret3
          refine ⟨HW.out, ?_⟩
          rw [HN.out]
          rfl
        · rw [if_neg hcap] at hX
          have HX := Lib.hid hX
          clear hX
          go_wp2_with fail
          ((with_reducible refine (rget_any _ _ HXB.out _ HX.out).mono ?_); rintro e w2 ⟨rfl, hb2⟩)
          replace HW := Lib.hid (HW.out.trans (hb2.mono HW.out.size))
          clear hb2
          rw [HD2.out]
          go_wp2
          go_ret3
          refine ⟨HW.out, ?_⟩
          rw [HN.out]
          rfl
      | some y =>
        obtain ⟨s, u⟩ := y
        have hs3 := dec_some HXB.out hd
        rw [List.length_drop, ← NL.out] at hs3
        have hcap : ¬ cap = k + m := by omega
        have hck : ¬ cap = k := by omega
        have hu : (k : Int) + m + u ≤ 1000000 := by omega
        have HD2 : Hid (decV (l.drop (k + m)) = .tuple #[.int .i64 s, .int .i64 (u : Int), .int .i64 0]) := Lib.hid (by unfold decV; rw [hd])
        have HO2 : Hid (openB l = if s = (adler p : Int) then some (p, k + m + u) else none) := Lib.hid (by rw [HO.out, hd])
        clear hd hs3 HO
        have hmL : m ≤ L - k := by omega
        have hT := hasB_take (hasB_drop HV.out hk2) (j := m) hmL
        rw [if_neg hck, ← HP.out] at hT
        have HTP := Lib.hid hT
        have HTQ : Hid (HasB w (.slice (a.map (·.add k)) (k + m - k) (cap - k)) p) := Lib.hid (by rw [Nat.add_sub_cancel_left]; exact hT)
        clear hT
        by_cases hsum : s = (adler p : Int)
        · have HN : Hid (openB l = some (p, k + m + u)) := Lib.hid (by rw [HO2.out, if_pos hsum])
          have q : (s != (adler p : Int)) = false := by simp [hsum]
          have HSM := Lib.hid hsum
          clear hsum HO2
          go_enter Try.func30, Try.ntmps30
          go_wp2_with fail
          ((with_reducible refine (rget_any _ l HL.out _ HV.out).mono ?_); rintro e w1 ⟨rfl, hb1⟩)
          have HW := Lib.hid hb1
          have hX := hasB_drop (hasB_keep HV.out hb1) htL
          rw [if_neg hcap] at hX
          have HX := Lib.hid hX
          clear hX hb1
          rw [HD.out]
          go_wp2_with fail
          ((with_reducible refine (rget_any _ _ HXB.out _ HX.out).mono ?_); rintro e w2 ⟨rfl, hb2⟩)
          replace HW := Lib.hid (HW.out.trans (hb2.mono HW.out.size))
          clear hb2
          rw [HD2.out]
          go_wp2_with fail
          (first
            | (with_reducible refine (rsum_any _ p HPB.out _ (hasB_keep HTQ.out HW.out)).mono ?_)
            | (with_reducible refine (rsum_any _ p HPB.out _ (hasB_keep HTP.out HW.out)).mono ?_))
          rintro e w3 ⟨rfl, rfl⟩
          go_wp2
          go_ret3
          refine ⟨HW.out, ?_⟩
          rw [HN.out]
          first
            | exact ⟨_, by first | rfl | (rw [Int.natCast_add, Int.natCast_add]; rfl), hasB_keep HTQ.out HW.out⟩
            | exact ⟨_, by first | rfl | (rw [Int.natCast_add, Int.natCast_add]; rfl), hasB_keep HTP.out HW.out⟩
        · have HN : Hid (openB l = none) := Lib.hid (by rw [HO2.out, if_neg hsum])
          have q : (s != (adler p : Int)) = true := by simp [hsum]
          clear hsum HO2
          go_enter Try.func30, Try.ntmps30
          go_wp2_with fail
          ((with_reducible refine (rget_any _ l HL.out _ HV.out).mono ?_); rintro e w1 ⟨rfl, hb1⟩)
          have HW := Lib.hid hb1
          have hX := hasB_drop (hasB_keep HV.out hb1) htL
          rw [if_neg hcap] at hX
          have HX := Lib.hid hX
          clear hX hb1
          rw [HD.out]
          go_wp2_with fail
          ((with_reducible refine (rget_any _ _ HXB.out _ HX.out).mono ?_); rintro e w2 ⟨rfl, hb2⟩)
          replace HW := Lib.hid (HW.out.trans (hb2.mono HW.out.size))
          clear hb2
          rw [HD2.out]
          go_wp2_with fail
          (first
            | (with_reducible refine (rsum_any _ p HPB.out _ (hasB_keep HTQ.out HW.out)).mono ?_)
            | (with_reducible refine (rsum_any _ p HPB.out _ (hasB_keep HTP.out HW.out)).mono ?_))
          rintro e w3 ⟨rfl, rfl⟩
          go_wp2
          go_ret3
          refine ⟨HW.out, ?_⟩
          rw [HN.out]
          rfl
    · have HN : Hid (openB l = none) := Lib.hid (by
        have hb : blk l = none := by unfold blk; rw [hd]; simp only; rw [← NL.out, if_neg hok]
        unfold openB; rw [hb])
      clear hd
      rcases (by omega : N < 0 ∨ (0 ≤ N ∧ (L : Int) - k < N)) with h0 | ⟨h0, h1⟩
      all_goals (
        clear hok
        go_enter Try.func30, Try.ntmps30
        go_wp2_with fail
        ((with_reducible refine (rget_any _ l HL.out _ HV.out).mono ?_); rintro e w' ⟨rfl, hb⟩)
        have HB := Lib.hid hb
        clear hb
        rw [HD.out]
        go_wp2
        go_ret3
        refine ⟨HB.out, ?_⟩
        rw [HN.out]
        rfl)

end Go.Proofs.Ytoieifhagekgfaa
