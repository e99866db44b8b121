
/-
  Layer 8: whether a value is valid apart from its parts, by the reference: it ends.
-/
import Derived.Test.YtoijdnlplbeomaaDoorTv1
namespace Go.Proofs.YtoijdnlplbeomaaDoor
set_option linter.unusedVariables false
set_option linter.unusedSimpArgs false
open Go.ChangeShapes Go.WideShapes Go.ChangeAt Go.RowKit
set_option maxRecDepth 100000
/-- A function that tells whether. -/
def IsBool (e : Ending) : Prop := ∃ b : Bool, e = .returned (.bool b)
set_option maxHeartbeats 8000000 in
theorem own_any (h : VH) (hok : h.ok) (w : World) : Calls Tryd.prog 38 #[h.v] w fun e w' => IsBool e ∧ Below w.heap.size w w' := by
  obtain ⟨hk, hn, hm, _, _⟩ := hok
  unfold VH.v
  go_enter Tryd.func38, Tryd.ntmps38
  go_wp2
  all_goals (go_ret; exact ⟨⟨_, rfl⟩, below_new1 _ _⟩)
set_option maxHeartbeats 4000000 in
theorem within_any : ∀ (d : Nat), d ≤ 1000 → ∀ (h : VH) (w : World), VT d w h → ∀ L : Int, L = (d : Int) → Calls Tryd.prog 29 #[h.v, .int .i64 L] w fun e w' => IsBool e ∧ Below w.heap.size w w'
  | 0, _, h, w, hv, L, hL => by
    obtain rfl : L = 0 := by simpa using hL
    have HO := Lib.hid (own_any h hv.ok)
    clear hL hv
    unfold VH.v
    go_enter Tryd.func29, Tryd.ntmps29
    obtain ⟨W, hW⟩ : ∃ W, W = w.alloc (.cells #[.int .i64 h.k, .int .i64 h.n, .int .i64 h.m, .slice h.a h.len h.cap] 24) := ⟨_, rfl⟩
    have hb0 : Below w.heap.size w W := by rw [hW]; exact below_new1 _ _
    have hz0 : W.heap.size = w.heap.size + 1 := by rw [hW]; simp
    have HZ := Lib.hid hz0
    clear hz0 hW
    go_wp2_with (first | (go_at_call 38; refine (HO.out _).mono ?_; rintro e w1 ⟨⟨b, rfl⟩, hb1⟩; have HB1 := Lib.hid hb1; clear hb1))
    all_goals (go_ret; exact ⟨⟨_, rfl⟩, (below_new1 _ _).trans (HB1.out.mono (by simp))⟩)
  | d + 1, hd, h, w, hv, L, hL => by
    have IH := Lib.hid (within_any d (by omega))
    have HV := Lib.hid hv
    have HO := Lib.hid (own_any h hv.ok)
    have e0 : (L == (0 : Int)) = false := by simp; omega
    have hwd : IntKind.i64.wrap (L - 1) = L - 1 := by rw [IntKind.wrap_i64]; omega
    have HD := Lib.hid (show L - 1 = (d : Int) by omega)
    have hlen : h.len ≤ 9223372036854775807 := hv.ok.2.2.2.2
    clear hL hv
    unfold VH.v
    go_enter Tryd.func29, Tryd.ntmps29
    go_wp2_with (first | (go_at_call 38; refine (HO.out _).mono ?_; rintro e w1 ⟨⟨b, rfl⟩, hb1⟩; have HB1 := Lib.hid hb1; have p3 : w1.cell? ⟨w.heap.size, 3, none⟩ = some (.slice h.a h.len h.cap) := cel_below hb1 (by go_simp); clear hb1))
    · go_ret
      exact ⟨⟨_, rfl⟩, (below_new1 _ _).trans (HB1.out.mono (by simp))⟩
    · obtain rfl : b = true := by cases b <;> simp_all
      have hb1 := HB1.out
      have hbA : Below w.heap.size w w1 := (below_new1 _ _).trans (hb1.mono (by simp))
      obtain ⟨W, hW⟩ : ∃ W, W = w1 := ⟨_, rfl⟩
      rw [← hW] at hbA p3
      rw [← hW]
      clear hb1 HB1 hW
      simp only [Bool.not_true]
      go_loopw [4, 6, 7] (fun r i o wr => ∃ k : Nat, k ≤ h.len ∧ i = .int .i64 k ∧ Below W.heap.size W wr) (fun _ i _ _ => h.len - (intOf i).toNat)
      case atStart => exact ⟨0, Nat.zero_le _, rfl, Below.refl _ _⟩
      case round =>
        obtain ⟨k, hk, rfl, hb⟩ := hrel
        have p4 : wr.cell? ⟨w.heap.size, 3, none⟩ = some (.slice h.a h.len h.cap) := cel_below hb p3
        have hbw : Below w.heap.size w wr := hbA.trans (hb.mono hbA.size)
        by_cases hlt : k < h.len
        · have hwk : IntKind.i64.wrap ((k : Int) + 1) = (k : Int) + 1 := by rw [IntKind.wrap_i64]; omega
          have l1 : decide ((k : Int) < (h.len : Int)) = true := by simp; omega
          rcases HV.out.2 with h0 | ⟨b, o, ea, hel⟩
          · omega
          · obtain ⟨g, hg, hgt⟩ := hel k hlt
            obtain ⟨q0, q1, q2, q3⟩ := VH.at_below hbw hg
            have hgw := hgt.below hbw
            rw [ea] at p4
            clear ea hel p3
            have i1 : (0 : Int) ≤ (k : Int) := by omega
            have i2 : (k : Int) < (h.len : Int) := by omega
            go_wp2_with (first | (go_at_call 29; refine (IH.out g _ hgw _ HD.out).mono ?_; rintro e w2 ⟨⟨b2, rfl⟩, hb2⟩))
            · go_ret
              exact ⟨⟨_, rfl⟩, hbw.trans (hb2.mono hbw.size)⟩
            · go_roundw
              case rel => exact ⟨k + 1, by omega, by simp, hb.trans (hb2.mono hb.size)⟩
              case measure => simp [intOf, hwk]; omega
        · have l1 : decide ((k : Int) < (h.len : Int)) = false := by simp; omega
          go_wp2
          go_ret
          exact ⟨⟨_, rfl⟩, hbw⟩
end Go.Proofs.YtoijdnlplbeomaaDoor
