
/-
  Layer 3: the reference's texts and lists.
-/
import Derived.Test.YtoieifhagekgfaaRows
import Derived.Test.YtoieifhagekgfaaBase
import Derived.Test.YtoieifhagekgfaaWirePlain
import Derived.Test.YtoieifhagekgfaaWireA
import Derived.Test.YtoieifhagekgfaaWireB
import Derived.Test.YtoieifhagekgfaaWireC
import Derived.Test.YtoieifhagekgfaaWireF
namespace Go.Proofs.Ytoieifhagekgfaa
set_option maxRecDepth 20000
set_option linter.unusedVariables false
open Go.ChangeShapes Go.WideShapes Go.ChangeAt Go.RowKit

set_option maxHeartbeats 800000 in
theorem rtext_any (s : ByteArray) (hs : s.size ≤ 1000000) (w : World) : Calls Try.prog 26 #[.string s] w fun e w' =>
    ∃ v, e = .returned v ∧ OwnB w' w.heap.size v (txt s) ∧ Below w.heap.size w w' := by
  obtain ⟨i0, hi, hz0, hz1, hz2⟩ := info_parts info_u8
  have HE := Lib.hid (enc_len (n := (s.size : Int)) (by unfold I64; omega))
  have HI : Hid (I64 (s.size : Int)) := Lib.hid (by unfold I64; omega)
  go_enter Try.func26, Try.ntmps26
  go_wp2_with fail
  ((with_reducible refine (rput_any _ HI.out _).mono ?_); rintro e w1 ⟨v, rfl, hv, hb⟩)
  have HO := Lib.hid hv
  have HB := Lib.hid hb
  clear hv hb
  go_wp2_with (first
    | (at_builtin; refine Lib.wpList_append_own_string _ rfl _ _ 24 9 rfl w.heap.size 5 i0 Try.underlying24 Try.underlying9 hi hz0 hz1 hz2 _ _ _ rfl HO.out s rfl (by have := HE.out; unfold maxLen; omega) (by have := HE.out; omega) HB.out.size ?_; intro v' w4 hown' hgrow' _))
  go_ret
  refine ⟨v', rfl, ?_, ?_⟩
  · unfold OwnB txt
    rw [List.length_append, List.map_append, bytesOf_length, ← strCells_eq]
    exact hown'
  · exact HB.out.grown hgrow' HB.out.size (fun j hj => (HO.out.lt j hj).1)


set_option maxHeartbeats 1600000 in
theorem rnums_any (v : Value) (l : List Int) (hl : ∀ n ∈ l, I64 n) (hlen : l.length ≤ 100000) (w : World) (hv : HasInts w v l) : Calls Try.prog 28 #[v] w fun e w' =>
    ∃ r, e = .returned r ∧ OwnB w' w.heap.size r (numsB l) ∧ Below w.heap.size w w' := by
  obtain ⟨i0, hi, hz0, hz1, hz2⟩ := info_parts info_u8
  have HL := Lib.hid hl
  obtain ⟨a, cap, rfl, hll, hc⟩ := hv
  have HC := Lib.hid hc
  obtain ⟨L, hL⟩ : ∃ L, L = l.length := ⟨_, rfl⟩
  rw [← hL] at hll HC hlen ⊢
  have NL := Lib.hid hL
  clear hL hl hc
  have HI : Hid (I64 (L : Int)) := Lib.hid (by unfold I64; omega)
  have HE := Lib.hid (enc_len HI.out)
  go_enter Try.func28, Try.ntmps28
  go_wp2_with fail
  ((with_reducible refine (rput_any _ HI.out _).mono ?_); rintro e w1 ⟨v1, rfl, hv1, hb1⟩)
  have HO := Lib.hid hv1
  have HB := Lib.hid hb1
  clear hv1 hb1
  go_wp2
  go_loopw [3, 4] (fun v i wr => ∃ k : Nat, k ≤ L ∧ i = .int .i64 k ∧ OwnB wr w.heap.size v (enc (L : Int) ++ encs (l.take k)) ∧ Hid (Below w.heap.size w wr)) (fun _ i _ => L - (intOf i).toNat)
  case atStart => exact ⟨0, Nat.zero_le _, rfl, by simpa [encs] using HO.out, HB⟩
  case round =>
    obtain ⟨k, hk, rfl, hown, hbw⟩ := hrel
    have HOW := Lib.hid hown
    clear hown
    by_cases hlt : k < L
    · rcases HC.out with hc | ⟨b, o, rfl, hc⟩
      · omega
      have h0 := hc k hlt
      have h1 := cell_keep hbw.out h0
      obtain ⟨x, hx⟩ : ∃ x, x = l.getD k 0 := ⟨_, rfl⟩
      rw [← hx] at h1
      have hkl : k < l.length := by rw [← NL.out]; exact hlt
      have HX : Hid (I64 x) := Lib.hid (by rw [hx, List.getD_eq_getElem?_getD, List.getElem?_eq_getElem hkl]; exact HL.out _ (List.getElem_mem hkl))
      have HT : Hid (encs (l.take (k + 1)) = encs (l.take k) ++ enc x) := Lib.hid (by rw [take_snoc' l k hkl, encs_snoc, ← hx])
      have HEL : Hid ((enc (L : Int) ++ encs (l.take k)).length ≤ 10 + 10 * L) := Lib.hid (by
        have h2 := encs_len (l.take k) (fun n hn => HL.out n (List.mem_of_mem_take hn))
        rw [List.length_take] at h2
        have := HE.out
        rw [List.length_append]; omega)
      have HXL := Lib.hid (enc_len HX.out)
      have HXP := Lib.hid (enc_pos x)
      clear hc h0 hx hkl
      go_wp2_with fail
      ((with_reducible refine (rput_any _ HX.out _).mono ?_); rintro e w3 ⟨v3, rfl, hv3, hb3⟩)
      obtain ⟨g3, c3, rfl, hc3⟩ := own_addr hv3 HXP.out
      have HB3 := Lib.hid (hbw.out.trans (hb3.mono hbw.out.size))
      have HO3 := Lib.hid (own_below HOW.out hb3)
      have HC3 := Lib.hid hc3
      clear hb3 hv3 hc3
      go_wp2_with (first
        | (at_builtin; refine wpList_append_own _ rfl _ _ 24 rfl w.heap.size 5 i0 (.int .u8 0) 1 1 Try.underlying24 hi hz0 hz1 hz2 rfl (by decide) _ _ _ rfl HO3.out ⟨g3, 0, none⟩ _ c3 _ rfl (by rw [List.length_map, Nat.mul_one]) HC3.out (bV_one _) (by have h1 := HEL.out; have h2 := HXL.out; unfold maxLen; omega) (by have h1 := HEL.out; have h2 := HXL.out; omega) HB3.out.size ?_; intro v' w4 hown' hgrow' _))
      have hb4 := Lib.hid (HB3.out.grown hgrow' HB3.out.size (fun j hj => (World.ownsRow.lt HO3.out j hj).1))
      have ho4 : OwnB w4 w.heap.size v' (enc (L : Int) ++ encs (l.take (k + 1))) := by
        rw [HT.out, ← List.append_assoc]; exact own_join rfl hown'
      clear hown' hgrow'
      go_roundw
      case rel => exact ⟨k + 1, by omega, by go_num, ho4, hb4⟩
      case measure => simp [intOf]; omega
    · obtain rfl : k = L := by omega
      have ht : l.take k = l := by rw [NL.out]; exact List.take_length
      go_wp2
      go_ret
      refine ⟨_, rfl, ?_, hbw.out⟩
      have h := HOW.out
      rw [ht] at h
      unfold numsB
      rw [← NL.out]
      exact h


theorem numsB_dec0 (l : List Int) (hl : ∀ n ∈ l, I64 n) (hlen : l.length ≤ 1000) (r : List Nat) : dec (numsB l ++ r) = some ((l.length : Int), (enc (l.length : Int)).length) := by
  unfold numsB
  rw [List.append_assoc]
  exact dec_enc (by unfold I64; omega) _
theorem numsB_byte (l : List Int) : ∀ b ∈ numsB l, b < 256 := by
  intro b hb
  unfold numsB encs at hb
  rcases List.mem_append.1 hb with h | h
  · exact enc_byte _ b h
  · obtain ⟨n, _, hn⟩ := List.mem_flatMap.1 h
    exact enc_byte n b hn
theorem numsB_len (l : List Int) (hl : ∀ n ∈ l, I64 n) (hlen : l.length ≤ 1000) : (numsB l).length ≤ 10 + 10 * l.length := by
  unfold numsB
  rw [List.length_append]
  have h1 := enc_len (n := (l.length : Int)) (by unfold I64; omega)
  have h2 := encs_len l hl
  omega
theorem numsB_pos (l : List Int) : 0 < (numsB l).length := by
  unfold numsB; rw [List.length_append]; have := enc_pos (l.length : Int); omega
theorem txt_byte (s : ByteArray) : ∀ b ∈ txt s, b < 256 := by
  intro b hb
  unfold txt bytesOf at hb
  rcases List.mem_append.1 hb with h | h
  · exact enc_byte _ b h
  · obtain ⟨n, _, hn⟩ := List.mem_map.1 h
    rw [← hn]; exact n.toNat_lt
theorem txt_len (s : ByteArray) (hs : s.size ≤ 1000000) : (txt s).length = (enc (s.size : Int)).length + s.size ∧ (txt s).length ≤ 10 + s.size ∧ 0 < (txt s).length := by
  unfold txt
  rw [List.length_append, bytesOf_length]
  have h1 := enc_len (n := (s.size : Int)) (by unfold I64; omega)
  have h2 := enc_pos (s.size : Int)
  exact ⟨rfl, by omega, by omega⟩

end Go.Proofs.Ytoieifhagekgfaa
