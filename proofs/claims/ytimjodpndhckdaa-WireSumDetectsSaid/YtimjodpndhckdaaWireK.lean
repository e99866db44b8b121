
/-
  Layer 3: the reference's checksums and seals; opening a seal.
-/
import Derived.Test.YtimjodpndhckdaaRows
import Derived.Test.YtimjodpndhckdaaBase
import Derived.Test.YtimjodpndhckdaaWirePlain
import Derived.Test.YtimjodpndhckdaaWireA
import Derived.Test.YtimjodpndhckdaaWireB
import Derived.Test.YtimjodpndhckdaaWireC
import Derived.Test.YtimjodpndhckdaaWireD
import Derived.Test.YtimjodpndhckdaaWireE
import Derived.Test.YtimjodpndhckdaaWireF
import Derived.Test.YtimjodpndhckdaaWireS
import Derived.Laws.AppendOwnNone
import Derived.OwnWalk
import Derived.Laws.CopyOwn
import Derived.Outline
namespace Go.Proofs.Ytimjodpndhckdaa
set_option maxRecDepth 20000
set_option linter.unusedVariables false
open Go.ChangeShapes Go.WideShapes Go.ChangeAt Go.RowKit

/-- What opening a seal gives: the content, and the bytes used. -/
def openB (l : List Nat) : Option (List Nat × Nat) := match blk l with
  | none => none
  | some (m, k) => match dec (l.drop (k + m)) with
    | none => none
    | some (s, u) => if s = (adler ((l.drop k).take m) : Int) then some ((l.drop k).take m, k + m + u) else none
def OpenV (W : World) (l : List Nat) (e : Ending) (w' : World) : Prop :=
  Below W.heap.size W w' ∧ match openB l with
  | none => e = .returned (.tuple #[.slice none 0 0, .int .i64 0, .int .i64 3])
  | some (p, n) => ∃ v, e = .returned (.tuple #[v, .int .i64 (n : Int), .int .i64 0]) ∧ HasB w' v p

theorem madeZerosB (n : Nat) : (madeCells #[Value.int .u8 0] n).toList = List.replicate n (Value.int .u8 0) := by
  rw [toList_madeCells_one]
theorem owns_heapB {w : World} {B g n e : Nat} {xs : List Value} (h : w.ownsRow B e 1 (.slice (some ⟨g, 0, none⟩) n n) n xs) : w.heap[g]? = some (.cells xs.toArray e (0, 0)) := by
  obtain ⟨hl, ⟨h', _⟩ | ⟨g', cap', cur, h', _, hg, _, _, hs, ht⟩⟩ := h
  · simp at h'
  · simp only [Value.slice.injEq, Option.some.injEq, Addr.mk.injEq, and_true, true_and] at h'
    obtain ⟨rfl, rfl⟩ := h'
    rw [List.take_of_length_le (by simp; omega)] at ht
    rw [hg, ← ht]
theorem owns_of_heapB {w : World} {B g e n : Nat} {xs : List Value} (h : w.heap[g]? = some (.cells xs.toArray e (0, 0))) (hn : xs.length = n) (hB : B ≤ g) (hm : n ≤ maxLen) : w.ownsRow B e 1 (.slice (some ⟨g, 0, none⟩) n n) n xs :=
  ⟨by omega, .inr ⟨g, n, xs.toArray, rfl, hB, h, Nat.le_refl _, hm, by simpa using hn, by rw [List.take_of_length_le (by simp; omega)]⟩⟩
theorem size_u8 : (Try.prog.info? 5).map (·.size) = some 1 := by kernel_rfl

set_option maxHeartbeats 8000000 in
set_option maxRecDepth 100000 in
theorem open_any (v : Value) (l : List Nat) (hl : ∀ b ∈ l, b < 256) (hlen : l.length ≤ 1000000) (w : World) (hv : HasB w v l) : Calls Try.prog 23 #[v] w (OpenV w l) := by
  obtain ⟨i0, hi, hz0, hz1, hz2⟩ := info_parts info_u8
  have HV := Lib.hid hv
  have HL := Lib.hid hl
  obtain ⟨a, cap, rfl, hll, _⟩ := hv
  obtain ⟨L, hL⟩ : ∃ L, L = l.length := ⟨_, rfl⟩
  rw [← hL] at hll HV hlen ⊢
  have NL := Lib.hid hL
  clear hL hl
  obtain ⟨_, l2, l3, _⟩ := hll
  cases hb : blk l with
  | none =>
    have HN : Hid (openB l = none) := Lib.hid (by unfold openB; rw [hb])
    have HB := Lib.hid hb
    clear hb
    go_enter Try.func23, Try.ntmps23
    go_wp2_with fail
    ((with_reducible refine (block_any _ l HL.out _ HV.out).mono ?_); rintro e w' ⟨⟨n, rfl⟩, hb⟩)
    rw [HB.out] at hb
    simp only at hb
    subst hb
    go_wp2
    go_ret3
    refine ⟨below_drewN (Below.refl _ _) n, ?_⟩
    rw [HN.out]
    rfl
  | some x =>
    obtain ⟨m, k⟩ := x
    have hs := blk_some HL.out hb
    rw [← NL.out] at hs
    obtain ⟨_, hk1, hkm, _⟩ := hs
    obtain ⟨t, ht⟩ : ∃ t, t = k + m := ⟨_, rfl⟩
    have htL : t ≤ L := by omega
    have t1 : (t : Int) ≤ cap := by omega
    have hmL : m ≤ 1000000 := by omega
    have HT := Lib.hid ht
    have HO : Hid (openB l = match dec (l.drop t) with | none => none | some (s, u) => if s = (adler ((l.drop k).take m) : Int) then some ((l.drop k).take m, t + u) else none) := Lib.hid (by unfold openB; rw [hb, ht])
    obtain ⟨p, hp⟩ : ∃ p, p = (l.drop k).take m := ⟨_, rfl⟩
    rw [← hp] at HO
    have HP := Lib.hid hp
    have HPB : Hid (∀ b ∈ p, b < 256) := Lib.hid (by rw [hp]; exact fun b hb => HL.out b (List.mem_of_mem_drop (List.mem_of_mem_take hb)))
    have HB := Lib.hid hb
    have HX := Lib.hid (hasB_drop HV.out htL)
    have HXB : Hid (∀ b ∈ l.drop t, b < 256) := Lib.hid (fun b hb => HL.out b (List.mem_of_mem_drop hb))
    clear hb ht hp
    cases hd : dec (l.drop t) with
    | none =>
      have HD : Hid (decV (l.drop t) = .tuple #[.int .i64 0, .int .i64 0, .int .i64 3]) := Lib.hid (by unfold decV; rw [hd])
      have HN : Hid (openB l = none) := Lib.hid (by rw [HO.out, hd])
      clear hd
      by_cases hcap : cap = t
      · obtain rfl : L = t := by omega
        subst hcap
        simp only [if_true, Nat.sub_self] at HX
        go_enter Try.func23, Try.ntmps23
        go_wp2_with fail
        ((with_reducible refine (block_any _ l HL.out _ HV.out).mono ?_); rintro e w' ⟨⟨n, rfl⟩, hb⟩)
        rw [HB.out] at hb
        obtain ⟨a', cap', rfl, hB⟩ := hb
        rw [← HT.out]
        clear hB
        go_wp2_with fail
        ((with_reducible refine (get_s _ _ HXB.out HD.out (hasB_drewN HX.out n)).mono ?_); rintro e w2 ⟨rfl, hb2⟩)
        have HW : Hid (Below w.heap.size w w2) := Lib.hid ((below_drewN (Below.refl _ _) n).trans hb2)
        clear hb2
        go_wp2
        go_ret3
        refine ⟨HW.out, ?_⟩
        rw [HN.out]
        rfl
      · rw [if_neg hcap] at HX
        go_enter Try.func23, Try.ntmps23
        go_wp2_with fail
        ((with_reducible refine (block_any _ l HL.out _ HV.out).mono ?_); rintro e w' ⟨⟨n, rfl⟩, hb⟩)
        rw [HB.out] at hb
        obtain ⟨a', cap', rfl, hB⟩ := hb
        rw [← HT.out]
        clear hB
        go_wp2_with fail
        ((with_reducible refine (get_s (l.drop t) _ HXB.out HD.out (hasB_drewN HX.out n)).mono ?_); rintro e w2 ⟨rfl, hb2⟩)
        have HW : Hid (Below w.heap.size w w2) := Lib.hid ((below_drewN (Below.refl _ _) n).trans hb2)
        clear hb2
        go_wp2
        go_ret3
        refine ⟨HW.out, ?_⟩
        rw [HN.out]
        rfl
    | some y =>
      obtain ⟨s, u⟩ := y
      have hs3 := dec_some HXB.out hd
      rw [List.length_drop, ← NL.out] at hs3
      have hcap : ¬ cap = t := by omega
      rw [if_neg hcap] at HX
      have hu : (t : Int) + u ≤ 1000000 := by omega
      have HD : Hid (decV (l.drop t) = .tuple #[.int .i64 s, .int .i64 (u : Int), .int .i64 0]) := Lib.hid (by unfold decV; rw [hd])
      have HO2 : Hid (openB l = if s = (adler p : Int) then some (p, t + u) else none) := Lib.hid (by rw [HO.out, hd])
      clear hd hs3
      by_cases hsum : s = (adler p : Int)
      · have HN : Hid (openB l = some (p, t + u)) := Lib.hid (by rw [HO2.out, if_pos hsum])
        have q : (s != (adler p : Int)) = false := by simp [hsum]
        have HSM := Lib.hid hsum
        clear hsum HO2
        go_enter Try.func23, Try.ntmps23
        go_wp2_with fail
        ((with_reducible refine (block_any _ l HL.out _ HV.out).mono ?_); rintro e w' ⟨⟨n, rfl⟩, hb⟩)
        rw [HB.out] at hb
        obtain ⟨a', cap', rfl, hB⟩ := hb
        rw [← HT.out]
        rw [← HP.out] at hB
        have HBP := Lib.hid hB
        clear hB
        go_wp2_with fail
        ((with_reducible refine (get_s (l.drop t) _ HXB.out HD.out (hasB_drewN HX.out n)).mono ?_); rintro e w2 ⟨rfl, hb2⟩)
        have HW : Hid (Below w.heap.size w w2) := Lib.hid ((below_drewN (Below.refl _ _) n).trans hb2)
        have HBP2 := Lib.hid (hasB_keep (hasB_drewN HBP.out n) hb2)
        clear hb2
        go_wp2_with fail
        ((with_reducible refine (sum_any _ p HPB.out _ HBP2.out).mono ?_); rintro e w3 ⟨rfl, rfl⟩)
        obtain ⟨hpl, hsrc⟩ := hasB_src HBP2.out
        have HPL := Lib.hid hpl
        have HSRC := Lib.hid hsrc
        clear hpl hsrc
        go_wp2_with (first | (at_make; refine wpList_make_full _ rfl _ _ 42 rfl w2.heap.size 5 i0 (.int .u8 0) 1 Try.underlying42 hi hz0 hz1 _ _ _ _ m rfl rfl rfl rfl ?_ ?_ ?_ ?_))
        · rw [hz2]; omega
        · unfold maxLen; omega
        · exact Nat.le_refl _
        intro w4 hown hg
        have hb4 : Below w2.heap.size w2 w4 := (Below.refl _ _).grown hg (Nat.le_refl _) (by simp)
        have hh := owns_heapB hown
        have HH : Hid (w4.heap[w2.heap.size]? = some (.cells (List.replicate m (Value.int .u8 0)).toArray 5 (0, 0))) := Lib.hid (by rw [hh, madeZerosB]; first | done | simp)
        have HG := Lib.hid hb4
        have h1 : Hid ((p.map bV).length = Nat.min m m) := Lib.hid (by rw [List.length_map, HPL.out]; first | done | simp)
        have h2 : Hid (0 < (p.map bV).length → (some (⟨w2.heap.size, 0, none⟩ : Addr)) = some ⟨w2.heap.size, 0, none⟩ ∧ ∃ ad, a' = some ad ∧ ∀ j v, (p.map bV)[j]? = some v → w4.cell? (ad.add j) = some v) := Lib.hid (by
          intro h0
          refine ⟨rfl, ?_⟩
          rcases HSRC.out with ⟨_, h, _⟩ | ⟨ad, rfl, hc⟩
          · rw [List.length_map, HPL.out] at h0; omega
          · exact ⟨ad, rfl, fun j u hu => (HG.out.cell (World.block_lt_of_cell? w2 _ (hc j u hu))).trans (hc j u hu)⟩)
        have h3 : Hid (0 + (p.map bV).length ≤ (List.replicate m (Value.int .u8 0)).length) := Lib.hid (by rw [List.length_map, HPL.out]; first | done | simp)
        clear hh hown hg hb4
        go_wp2_with (first | ((with_reducible refine wpList_copy_splice (o := ⟨some 41, _, _, _, _, _⟩) rfl (.tmp 39) (.tmp 40) 42 42 rfl 5 Try.underlying42 size_u8 _ _ m m m cap' rfl rfl w2.heap.size 0 (List.replicate m (Value.int .u8 0)) 5 HH.out (p.map bV) h1.out h2.out h3.out (bV_one _) w2.heap.size w2 HG.out (Nat.le_refl _) ?_); intro w5 hh5 hb5))
        go_ret3
        refine ⟨HW.out.trans (hb5.mono HW.out.size), ?_⟩
        rw [HN.out]
        refine ⟨_, rfl, ?_⟩
        have hs : splice (List.replicate m (Value.int .u8 0)) 0 (p.map bV) = p.map bV := by
          unfold splice; simp; have := HPL.out; omega
        rw [hs] at hh5
        refine hasB_of_owns (B := w2.heap.size) ?_
        unfold OwnB
        rw [HPL.out]
        exact owns_of_heapB hh5 (by rw [List.length_map, HPL.out]) (Nat.le_refl _) (by unfold maxLen; omega)
      · have HN : Hid (openB l = none) := Lib.hid (by rw [HO2.out, if_neg hsum])
        have q : (s != (adler p : Int)) = true := by simp [hsum]
        clear hsum HO2
        go_enter Try.func23, Try.ntmps23
        go_wp2_with fail
        ((with_reducible refine (block_any _ l HL.out _ HV.out).mono ?_); rintro e w' ⟨⟨n, rfl⟩, hb⟩)
        rw [HB.out] at hb
        obtain ⟨a', cap', rfl, hB⟩ := hb
        rw [← HT.out]
        rw [← HP.out] at hB
        have HBP := Lib.hid hB
        clear hB
        go_wp2_with fail
        ((with_reducible refine (get_s (l.drop t) _ HXB.out HD.out (hasB_drewN HX.out n)).mono ?_); rintro e w2 ⟨rfl, hb2⟩)
        have HW : Hid (Below w.heap.size w w2) := Lib.hid ((below_drewN (Below.refl _ _) n).trans hb2)
        have HBP2 := Lib.hid (hasB_keep (hasB_drewN HBP.out n) hb2)
        clear hb2
        go_wp2_with fail
        ((with_reducible refine (sum_any _ p HPB.out _ HBP2.out).mono ?_); rintro e w3 ⟨rfl, rfl⟩)
        go_wp2
        go_ret3
        refine ⟨HW.out, ?_⟩
        rw [HN.out]
        rfl

end Go.Proofs.Ytimjodpndhckdaa
