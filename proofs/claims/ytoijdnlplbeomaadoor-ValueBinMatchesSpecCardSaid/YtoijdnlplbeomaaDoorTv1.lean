
/-
  Layer 8: functions that go through a value's parts: they end, and change nothing that was there.
-/
import Derived.Test.YtoijdnlplbeomaaDoorTv0
import Derived.WalkKit
import Derived.ProofKit
import Derived.LoopN
import Derived.Lib.Hide
namespace Go.Proofs.YtoijdnlplbeomaaDoor
set_option linter.unusedVariables false
set_option linter.unusedSimpArgs false
open Go.ChangeShapes Go.WideShapes Go.ChangeAt Go.RowKit
set_option maxRecDepth 100000
set_option maxHeartbeats 2000000 in
theorem count_any : ∀ (d : Nat), d ≤ 1000 → ∀ (h : VH) (w : World), VT d w h → ∀ L mst : Int, L = (d : Int) → Calls Tryd.prog 26 #[h.v, .int .i64 L, .int .i64 mst] w fun e w' => (∃ c : Int, e = .returned (.int .i64 c)) ∧ Below w.heap.size w w'
  | 0, _, h, w, hv, L, mst, hL => by
    obtain rfl : L = 0 := by simpa using hL
    clear hL
    unfold VH.v
    go_enter Tryd.func26, Tryd.ntmps26
    go_wp2
    go_ret
    exact ⟨⟨_, rfl⟩, below_new1 _ _⟩
  | d + 1, hd, h, w, hv, L, mst, hL => by
    have IH := Lib.hid (count_any d (by omega))
    have HV := Lib.hid hv
    have e0 : (L == (0 : Int)) = false := by simp; omega
    have hwd : IntKind.i64.wrap (L - 1) = L - 1 := by rw [IntKind.wrap_i64]; omega
    have HD := Lib.hid (show L - 1 = (d : Int) by omega)
    clear hL
    have hok := hv.ok
    have hlen : h.len ≤ 9223372036854775807 := hok.2.2.2.2
    clear hv hok
    unfold VH.v
    go_enter Tryd.func26, Tryd.ntmps26
    go_wp2
    obtain ⟨W, hW⟩ : ∃ W, W = w.alloc (.cells #[.int .i64 h.k, .int .i64 h.n, .int .i64 h.m, .slice h.a h.len h.cap] 24) := ⟨_, rfl⟩
    have hWs : W.heap.size = w.heap.size + 1 := by rw [hW]; simp
    have hb0 : Below w.heap.size w W := by rw [hW]; exact below_new1 _ _
    have hc3 : W.cell? ⟨w.heap.size, 3, none⟩ = some (.slice h.a h.len h.cap) := by rw [hW]; go_simp
    rw [← hW]
    have HW := Lib.hid hW
    have HS := Lib.hid hWs
    clear hW hWs
    go_loopw [7, 8] (fun n i wr => ∃ k : Nat, k ≤ h.len ∧ i = .int .i64 k ∧ (∃ c : Int, n = .int .i64 c) ∧ Below W.heap.size W wr) (fun _ i _ => h.len - (intOf i).toNat)
    case atStart => exact ⟨0, Nat.zero_le _, rfl, ⟨1, rfl⟩, Below.refl _ _⟩
    case round =>
      obtain ⟨k, hk, rfl, ⟨c, rfl⟩, hb⟩ := hrel
      have p3 : wr.cell? ⟨w.heap.size, 3, none⟩ = some (.slice h.a h.len h.cap) := cel_below hb hc3
      have hbw : Below w.heap.size w wr := hb0.trans (hb.mono hb0.size)
      by_cases hlt : k < h.len
      · have hwk : IntKind.i64.wrap ((k : Int) + 1) = (k : Int) + 1 := by rw [IntKind.wrap_i64]; omega
        have l1 : decide ((k : Int) < (h.len : Int)) = true := by simp; omega
        by_cases hm : c ≤ mst
        · have l2 : decide (c ≤ mst) = true := by simpa using hm
          rcases HV.out.2 with h0 | ⟨b, o, ea, hel⟩
          · omega
          · obtain ⟨g, hg, hgt⟩ := hel k hlt
            obtain ⟨q0, q1, q2, q3⟩ := VH.at_below hbw hg
            have hgw := hgt.below hbw
            rw [ea] at p3
            clear ea hel
            have i1 : (0 : Int) ≤ (k : Int) := by omega
            have i2 : (k : Int) < (h.len : Int) := by omega
            go_wp2_with (first | (go_at_call 26; refine (IH.out g _ hgw _ mst HD.out).mono ?_; rintro e w2 ⟨⟨c2, rfl⟩, hb2⟩))
            go_roundw
            case rel => exact ⟨k + 1, by omega, by simp, ⟨_, rfl⟩, hb.trans (hb2.mono hb.size)⟩
            case measure => simp [intOf, hwk]; omega
        · have l2 : decide (c ≤ mst) = false := by simpa using hm
          go_wp2
          go_ret
          exact ⟨⟨_, rfl⟩, hbw⟩
      · have l1 : decide ((k : Int) < (h.len : Int)) = false := by simp; omega
        go_wp2
        go_ret
        exact ⟨⟨_, rfl⟩, hbw⟩
end Go.Proofs.YtoijdnlplbeomaaDoor
