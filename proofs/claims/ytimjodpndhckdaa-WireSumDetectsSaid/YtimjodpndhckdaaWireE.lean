
/-
  Layer 3: the bytes behind their length.
-/
import Derived.Test.YtimjodpndhckdaaRows
import Derived.Test.YtimjodpndhckdaaBase
import Derived.Test.YtimjodpndhckdaaWirePlain
import Derived.Test.YtimjodpndhckdaaWireA
import Derived.Test.YtimjodpndhckdaaWireB
import Derived.Test.YtimjodpndhckdaaWireC
import Derived.Outline
namespace Go.Proofs.Ytimjodpndhckdaa
set_option maxRecDepth 20000
open Go.ChangeShapes Go.WideShapes Go.ChangeAt Go.RowKit

/-- The size of a block, and where it begins. -/
def blk (l : List Nat) : Option (Nat × Nat) := match dec l with
  | none => none
  | some (n, k) => if 0 ≤ n ∧ n ≤ (l.length : Int) - k then some (n.toNat, k) else none

theorem blk_some {l : List Nat} {m k : Nat} (hl : ∀ b ∈ l, b < 256) (h : blk l = some (m, k)) : dec l = some ((m : Int), k) ∧ 1 ≤ k ∧ k + m ≤ l.length ∧ I64 (m : Int) := by
  unfold blk at h
  split at h
  · cases h
  · rename_i n k' hd
    split at h
    · rename_i hc
      simp at h
      obtain ⟨rfl, rfl⟩ := h
      have h2 := dec_some hl hd
      have e : ((n.toNat : Nat) : Int) = n := by omega
      rw [e]
      exact ⟨hd, h2.2.2.1, by omega, h2.1⟩
    · cases h

def BlockV (w : World) (l : List Nat) (e : Ending) (w' : World) : Prop :=
  (∃ n, w' = w.drewN n) ∧ match blk l with
  | none => e = .returned (.tuple #[.slice none 0 0, .int .i64 0, .int .i64 3])
  | some (m, k) => ∃ a cap, e = .returned (.tuple #[.slice a m cap, .int .i64 ((k + m : Nat) : Int), .int .i64 0]) ∧ HasB w (.slice a m cap) ((l.drop k).take m)

set_option maxHeartbeats 4000000 in
theorem block_any (v : Value) (l : List Nat) (hl : ∀ b ∈ l, b < 256) (w : World) (hv : HasB w v l) : Calls Try.prog 55 #[v] w (BlockV w l) := by
  have HV := Lib.hid hv
  have HL := Lib.hid hl
  obtain ⟨a, cap, rfl, hll, _⟩ := hv
  obtain ⟨L, hL⟩ : ∃ L, L = l.length := ⟨_, rfl⟩
  rw [← hL] at hll HV ⊢
  have NL := Lib.hid hL
  clear hL hl
  cases hd : dec l with
  | none =>
    have HD : Hid (decV l = .tuple #[.int .i64 0, .int .i64 0, .int .i64 3]) := Lib.hid (by unfold decV; rw [hd])
    have HB : Hid (blk l = none) := Lib.hid (by unfold blk; rw [hd])
    clear hd
    go_enter Try.func55, Try.ntmps55
    go_wp2_with fail
    ((with_reducible refine (get_any _ l HL.out _ HV.out).mono ?_); rintro e w' ⟨rfl, n, rfl⟩)
    rw [HD.out]
    go_wp2
    go_ret3
    refine ⟨⟨n, rfl⟩, ?_⟩
    rw [HB.out]
    rfl
  | some x =>
    obtain ⟨N, k⟩ := x
    have HS := Lib.hid (dec_some HL.out hd)
    have hk1 := HS.out.2.2.1
    have hk2 := HS.out.2.2.2
    rw [← NL.out] at hk2
    have hN := HS.out.1
    have HD : Hid (decV l = .tuple #[.int .i64 N, .int .i64 (k : Int), .int .i64 0]) := Lib.hid (by unfold decV; rw [hd])
    unfold I64 at hN
    by_cases hok : 0 ≤ N ∧ N ≤ (L : Int) - k
    · obtain ⟨h0, h1⟩ := hok
      obtain ⟨m, rfl⟩ := Int.eq_ofNat_of_zero_le h0
      have HB : Hid (blk l = some (m, k)) := Lib.hid (by unfold blk; rw [hd]; simp only; rw [← NL.out, if_pos ⟨h0, h1⟩]; rfl)
      clear hd h0 hN
      have q1 : (k : Int) + m ≤ cap := by omega
      have q2 : k + m ≤ cap := by omega
      have q3 : (k : Int) ≤ k + m := by omega
      by_cases hcap : cap = k
      · have hm0 : m = 0 := by omega
        subst hm0
        subst hcap
        have hT := Lib.hid (hasB_take (hasB_drop HV.out hk2) (j := 0) (Nat.zero_le _))
        go_enter Try.func55, Try.ntmps55
        go_wp2_with fail
        ((with_reducible refine (get_any _ l HL.out _ HV.out).mono ?_); rintro e w' ⟨rfl, n, rfl⟩)
        rw [HD.out]
        go_wp2
        go_ret3
        refine ⟨⟨n, rfl⟩, ?_⟩
        rw [HB.out]
        have h := hT.out
        simp only [if_true, Nat.sub_self] at h
        exact ⟨a, 0, rfl, h⟩
      · go_enter Try.func55, Try.ntmps55
        go_wp2_with fail
        ((with_reducible refine (get_any _ l HL.out _ HV.out).mono ?_); rintro e w' ⟨rfl, n, rfl⟩)
        rw [HD.out]
        go_wp2
        go_ret3
        refine ⟨⟨n, rfl⟩, ?_⟩
        rw [HB.out]
        have h := hasB_take (hasB_drop HV.out hk2) (j := m) (by omega)
        rw [if_neg hcap] at h
        refine ⟨_, cap - k, ?_, h⟩
        show Ending.returned (.tuple #[.slice _ (k + m - k) _, .int .i64 ((k : Int) + m), _]) = _
        rw [Nat.add_sub_cancel_left, Int.natCast_add]
        rfl
    · have HB : Hid (blk l = none) := Lib.hid (by unfold blk; rw [hd]; simp only; rw [← NL.out, if_neg hok])
      clear hd
      rcases (by omega : N < 0 ∨ (0 ≤ N ∧ (L : Int) - k < N)) with h0 | ⟨h0, h1⟩
      all_goals (
        clear hok
        go_enter Try.func55, Try.ntmps55
        go_wp2_with fail
        ((with_reducible refine (get_any _ l HL.out _ HV.out).mono ?_); rintro e w' ⟨rfl, n, rfl⟩)
        rw [HD.out]
        go_wp2
        go_ret3
        refine ⟨⟨n, rfl⟩, ?_⟩
        rw [HB.out]
        rfl)

end Go.Proofs.Ytimjodpndhckdaa
