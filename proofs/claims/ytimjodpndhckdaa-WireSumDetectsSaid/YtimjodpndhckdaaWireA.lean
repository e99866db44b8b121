
/-
  Layer 3: the encoding of a number.
-/
import Derived.Test.YtimjodpndhckdaaRows
import Derived.Test.YtimjodpndhckdaaBase
import Derived.Test.YtimjodpndhckdaaWirePlain
import Derived.Lib.Zigzag
import Derived.Laws.Bits64b
import Derived.Outline
namespace Go.Proofs.Ytimjodpndhckdaa
open Go.ChangeShapes Go.WideShapes Go.ChangeAt Go.RowKit

abbrev bV (b : Nat) : Value := .int .u8 (b : Int)
/-- The slice value v is a row of the call's own, of these bytes. -/
def OwnB (w : World) (B : Nat) (v : Value) (l : List Nat) : Prop := w.ownsRow B 5 1 v l.length (l.map bV)

theorem info_u8 : (Try.prog.info? 5).map (fun i => (i.zero, i.size, i.bytes)) = some (some (.int .u8 0), 1, 1) := by kernel_rfl

theorem xor_zz {n : Int} (hn : I64 n) : bits .xor .u64 (IntKind.u64.wrap (IntKind.u64.wrap n * 2)) (IntKind.u64.wrap (n / 9223372036854775808)) = ((zz n : Nat) : Int) := by
  unfold I64 at hn
  by_cases h : 0 ≤ n
  · have e1 : IntKind.u64.wrap (IntKind.u64.wrap n * 2) = ((zz n : Nat) : Int) := by
      rw [IntKind.wrap_u64, IntKind.wrap_u64]; unfold zz; rw [if_pos h]; omega
    have e2 : IntKind.u64.wrap (n / 9223372036854775808) = ((0 : Nat) : Int) := by rw [IntKind.wrap_u64]; omega
    rw [e1, e2, bits_xor_u64_nat _ _ (zz_lt (by unfold I64; omega)) (by omega), Nat.xor_zero]
  · have e1 : IntKind.u64.wrap (IntKind.u64.wrap n * 2) = (((2 * n + 18446744073709551616).toNat : Nat) : Int) := by
      rw [IntKind.wrap_u64, IntKind.wrap_u64]; omega
    have e2 : IntKind.u64.wrap (n / 9223372036854775808) = ((2 ^ 64 - 1 : Nat) : Int) := by rw [IntKind.wrap_u64]; omega
    rw [e1, e2, bits_xor_u64_nat _ _ (by omega) (by decide), Nat.xor_comm, Lib.xor_ones64 _ (by omega)]
    unfold zz; rw [if_neg h]; omega
theorem or_more {x : Nat} (h : x < 128) : bits .or .u8 (x : Int) 128 = ((x + 128 : Nat) : Int) := by
  have : ∀ x : Fin 128, bits .or .u8 ((x.1 : Nat) : Int) 128 = ((x.1 + 128 : Nat) : Int) := by decide +kernel
  exact this ⟨x, h⟩

set_option maxHeartbeats 800000 in
theorem put_any (n : Int) (hn : I64 n) (w : World) : Calls Try.prog 22 #[.int .i64 n] w fun e w' =>
    ∃ v, e = .returned v ∧ OwnB w' w.heap.size v (enc n) ∧ Below w.heap.size w w' := by
  have hx := xor_zz hn
  have HU := Lib.hid (zz_lt hn)
  have HN := Lib.hid hn
  obtain ⟨h0, h1⟩ := hn
  obtain ⟨i0, hi, hz0, hz1, hz2⟩ := info_parts info_u8
  obtain ⟨u0, hu0⟩ : ∃ u0, u0 = zz n := ⟨_, rfl⟩
  rw [← hu0] at hx HU
  have HZ := Lib.hid hu0
  clear hu0
  go_enter Try.func22, Try.ntmps22
  go_wp2
  go_step3
  go_wp2
  go_step3
  go_wp2
  go_loopw [3, 4] (fun u v wr => ∃ (k : Nat) (pre : List Nat), u = .int .u64 k ∧ k < 18446744073709551616 ∧ OwnB wr w.heap.size v pre ∧ Below w.heap.size w wr ∧ pre.length ≤ 9 ∧ Hid (pre ++ grp k = enc n)) (fun u _ _ => (intOf u).toNat)
  case atStart => exact ⟨u0, [], rfl, HU.out, World.ownsRow_nil _ _ _ _, Below.refl _ _, by simp, Lib.hid (by rw [HZ.out]; rfl)⟩
  case round =>
    obtain ⟨k, pre, rfl, hk, hown, hb, hpre, hE⟩ := hrel
    have hs := hb.size
    have HO := Lib.hid hown
    have HB := Lib.hid hb
    clear hown hb
    by_cases hlt : k < 128
    · have hg : grp k = [k] := grp_small hlt
      have HG := Lib.hid hg
      have q1 : (k : Int) % 128 = k := by omega
      have q2 : (k : Int) / 128 = 0 := by omega
      have q3 : IntKind.u8.wrap (k : Int) = k := by rw [IntKind.wrap_u8]; omega
      clear hg
      go_wp2_with (first
        | (at_builtin; refine wpList_append_own _ rfl _ _ 42 rfl w.heap.size 5 i0 (.int .u8 0) 1 1 Try.underlying42 hi hz0 hz1 hz2 rfl (by decide) _ _ _ rfl (World.ownsRow.alloc HO.out _) ⟨wr.heap.size, 0, none⟩ 1 1 [.int .u8 k] rfl rfl (fun j u hj => append_cell j u hj) (by intro u hu; simp at hu; subst hu; rfl) (by unfold maxLen; omega) (by omega) (by simp; omega) ?_; intro v' w4 hown' hgrow' _))
      rw [Exit.noGoto_ret]
      go_ret
      have hE2 : enc n = pre ++ [k] := by rw [← hE.out, HG.out]
      refine ⟨v', rfl, ?_, ?_⟩
      · unfold OwnB
        rw [hE2, List.map_append, List.length_append]
        exact hown'
      · refine (HB.out.alloc hs _).grown hgrow' (by simp; omega) (fun j hj => ?_)
        exact (HO.out.lt j hj).1
    · have hg : grp k = (k % 128 + 128) :: grp (k / 128) := grp_big hlt
      have HG := Lib.hid hg
      have hlt' : 128 ≤ k := by omega
      obtain ⟨lo, hlo⟩ : ∃ lo, lo = k % 128 := ⟨_, rfl⟩
      obtain ⟨up, hup⟩ : ∃ up, up = k / 128 := ⟨_, rfl⟩
      have lo1 : lo < 128 := by omega
      have up1 : 1 ≤ up := by omega
      have up2 : up < k := by omega
      have q1 : (k : Int) % 128 = lo := by omega
      have q2 : (k : Int) / 128 = up := by omega
      have q3 : IntKind.u8.wrap (lo : Int) = lo := by rw [IntKind.wrap_u8]; omega
      have q4 : ((up : Int) == 0) = false := by simp; omega
      have q5 := or_more lo1
      have hp9 : (pre ++ [lo + 128]).length ≤ 9 := by
        have h1 := enc_len HN.out
        rw [← hE.out, hg] at h1
        have h2 := grp_pos (k / 128)
        simp at h1 ⊢; omega
      have HE2 : Hid ((pre ++ [lo + 128]) ++ grp up = enc n) := Lib.hid (by rw [← hE.out, hg, ← hlo, ← hup]; simp)
      have HP9 := Lib.hid hp9
      clear hg hlo hup hp9 hlt
      go_wp2_with (first
        | (at_builtin; refine wpList_append_own _ rfl _ _ 42 rfl w.heap.size 5 i0 (.int .u8 0) 1 1 Try.underlying42 hi hz0 hz1 hz2 rfl (by decide) _ _ _ rfl (World.ownsRow.alloc HO.out _) ⟨wr.heap.size, 0, none⟩ 1 1 [.int .u8 ((lo + 128 : Nat) : Int)] rfl rfl (fun j u hj => append_cell j u hj) (by intro u hu; simp at hu; subst hu; rfl) (by unfold maxLen; omega) (by omega) (by simp; omega) ?_; intro v' w4 hown' hgrow' _))
      have hw4 : OwnB w4 w.heap.size v' (pre ++ [lo + 128]) := by
        unfold OwnB
        rw [List.map_append, List.length_append]
        exact hown'
      have hb4 : Below w.heap.size w w4 := by
        refine (HB.out.alloc hs _).grown hgrow' (by simp; omega) (fun j hj => ?_)
        exact (HO.out.lt j hj).1
      clear hown' hgrow'
      go_roundw
      case rel => exact ⟨up, pre ++ [lo + 128], rfl, by omega, hw4, hb4, HP9.out, HE2⟩
      case measure => simp [intOf]; omega
end Go.Proofs.Ytimjodpndhckdaa
