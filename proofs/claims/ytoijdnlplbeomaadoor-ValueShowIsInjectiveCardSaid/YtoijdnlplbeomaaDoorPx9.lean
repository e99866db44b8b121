/-
  Merged: Tv0, Tv1, Tv2, Tw0, Tw1, Tw2
-/
import Derived.Test.YtoijdnlplbeomaaDoorRows
import Derived.Test.YtoijdnlplbeomaaDoorPx1
import Derived.Deep.Fields
import Derived.Deep.Slices
import Derived.WalkKit
import Derived.ProofKit
import Derived.LoopN
import Derived.Lib.Hide

/-
  Layer 8: values as trees in memory.
-/
namespace Go.Proofs.YtoijdnlplbeomaaDoor
set_option maxRecDepth 100000
set_option linter.unusedVariables false
set_option linter.unusedSimpArgs false
open Go.ChangeShapes Go.WideShapes Go.ChangeAt Go.RowKit Go.Deep
/-- A value's own cells. -/
structure VH where
  k : Int
  n : Int
  m : Int
  a : Option Addr
  len : Nat
  cap : Nat
def VH.v (h : VH) : Value := .agg #[.int .i64 h.k, .int .i64 h.n, .int .i64 h.m, .slice h.a h.len h.cap]
def VH.ok (h : VH) : Prop := I64 h.k ∧ I64 h.n ∧ I64 h.m ∧ h.len ≤ h.cap ∧ h.len ≤ 9223372036854775807
def VH.at (h : VH) (w : World) (b o : Nat) : Prop :=
  w.cell? ⟨b, o, none⟩ = some (.int .i64 h.k) ∧ w.cell? ⟨b, o + 1, none⟩ = some (.int .i64 h.n) ∧ w.cell? ⟨b, o + 2, none⟩ = some (.int .i64 h.m) ∧ w.cell? ⟨b, o + 3, none⟩ = some (.slice h.a h.len h.cap)
/-- A value whose parts lie in memory, so deep. -/
def VT : Nat → World → VH → Prop
  | 0, w, h => h.ok
  | d + 1, w, h => h.ok ∧ (h.len = 0 ∨ ∃ b o, h.a = some ⟨b, o, none⟩ ∧ ∀ i, i < h.len → ∃ g : VH, g.at w b (o + i * 4) ∧ VT d w g)
theorem VT.ok : ∀ {d : Nat} {w : World} {h : VH}, VT d w h → h.ok
  | 0, _, _, h => h
  | _ + 1, _, _, h => h.1
theorem VH.at_below {g : VH} {w w' : World} {b o : Nat} (hb : Below w.heap.size w w') (h : g.at w b o) : g.at w' b o :=
  ⟨cel_below hb h.1, cel_below hb h.2.1, cel_below hb h.2.2.1, cel_below hb h.2.2.2⟩
theorem VT.below {w w' : World} (hb : Below w.heap.size w w') : ∀ {d : Nat} {h : VH}, VT d w h → VT d w' h
  | 0, _, h => h
  | d + 1, _, h => ⟨h.1, h.2.imp id fun ⟨b, o, e, k⟩ => ⟨b, o, e, fun i hi => by
      obtain ⟨g, h1, h2⟩ := k i hi
      exact ⟨g, VH.at_below hb h1, h2.below hb⟩⟩⟩
section
variable {H : Type} {enc : TypeId × Value → H} {W : World}
theorem cells_val : Tryd.prog.cellsOf 24 = 4 := by kernel_rfl
theorem vt_head {n' : Nat} {c0 c1 c2 c3 : Value} {x : DataW H × List MemPlace} (hf : DataW.trod enc Tryd.prog W 0 (fun _ => true) true n' 24 [c0, c1, c2, c3] = some x) :
    ∃ h : VH, [c0, c1, c2, c3] = [.int .i64 h.k, .int .i64 h.n, .int .i64 h.m, .slice h.a h.len h.cap] ∧ h.ok ∧ (h.len = 0 ∨ ∃ b o, h.a = some ⟨b, o, none⟩ ∧ ∀ i, i < h.len → ∃ (e0 e1 e2 e3 : Value) (n2 : Nat) (x2 : DataW H × List MemPlace),
      W.cell? ⟨b, o + i * 4, none⟩ = some e0 ∧ W.cell? ⟨b, o + i * 4 + 1, none⟩ = some e1 ∧ W.cell? ⟨b, o + i * 4 + 2, none⟩ = some e2 ∧ W.cell? ⟨b, o + i * 4 + 3, none⟩ = some e3 ∧ DataW.trod enc Tryd.prog W 0 (fun _ => true) true n2 24 [e0, e1, e2, e3] = some x2) := by
  obtain ⟨xs, n, _, _, _, hlen, hg⟩ := DataW.trod_struct Tryd.underlying24 hf
  match xs, hlen with
  | [y0, y1, y2, y3], _ =>
    have ci : Tryd.prog.cellsOf 3 = 1 := by kernel_rfl
    have cs : Tryd.prog.cellsOf 22 = 1 := by kernel_rfl
    have h0 := hg 0 _ rfl
    have h1 := hg 1 _ rfl
    have h2 := hg 2 _ rfl
    have h3 := hg 3 _ rfl
    simp [ci, cs] at h0 h1 h2 h3
    obtain ⟨a0, e0, _, w0⟩ := DataW.trod_int Tryd.underlying3 h0
    obtain ⟨a1, e1, _, w1⟩ := DataW.trod_int Tryd.underlying3 h1
    obtain ⟨a2, e2, _, w2⟩ := DataW.trod_int Tryd.underlying3 h2
    simp at e0 e1 e2
    subst e0; subst e1; subst e2
    rcases open_slice Tryd.underlying22 h3 with ⟨hcs, _⟩ | ⟨a, len0, cap0, m, n3, D, Pl, hcs, _, hl, hm, hmm, _, hi⟩
    · simp at hcs
      subst hcs
      exact ⟨⟨a0, a1, a2, none, 0, 0⟩, rfl, ⟨i64_of_wf w0, i64_of_wf w1, i64_of_wf w2, by simp, by simp⟩, Or.inl rfl⟩
    · simp at hcs
      subst hcs
      simp only [if_true] at hmm
      have key : ∀ i, i < len0 → ∃ (e0 e1 e2 e3 : Value) (n2 : Nat) (x2 : DataW H × List MemPlace),
          W.cell? (a.add (i * 4)) = some e0 ∧ W.cell? (a.add (i * 4 + 1)) = some e1 ∧ W.cell? (a.add (i * 4 + 2)) = some e2 ∧ W.cell? (a.add (i * 4 + 3)) = some e3 ∧ DataW.trod enc Tryd.prog W 0 (fun _ => true) true n2 24 [e0, e1, e2, e3] = some x2 := by
        intro i hil
        obtain ⟨cs', hc, ht⟩ := hi i (by omega)
        rw [cells_val] at hc
        obtain ⟨_, hcl, hat⟩ := World.cells?_some hc
        match cs', hcl with
        | [c0, c1, c2, c3], _ =>
          have q0 := hat 0 (by omega)
          have q1 := hat 1 (by omega)
          have q2 := hat 2 (by omega)
          have q3 := hat 3 (by omega)
          rw [add_add] at q0 q1 q2 q3
          exact ⟨c0, c1, c2, c3, _, _, by simpa using q0, by simpa using q1, by simpa using q2, by simpa using q3, ht⟩
      refine ⟨⟨a0, a1, a2, some a, len0, cap0⟩, rfl, ⟨i64_of_wf w0, i64_of_wf w1, i64_of_wf w2, by simpa using hl, by show len0 ≤ _; unfold maxLen at hm; omega⟩, ?_⟩
      by_cases hz : len0 = 0
      · exact Or.inl hz
      · obtain ⟨b, off, spot⟩ := a
        obtain ⟨_, _, _, _, _, _, hA0, _⟩ := key 0 (by omega)
        have hspot : spot = none := by simpa [Addr.add] using World.cell?_spot hA0
        subst hspot
        refine Or.inr ⟨b, off, rfl, fun i hil => ?_⟩
        obtain ⟨e0, e1, e2, e3, n2, x2, k0, k1, k2, k3, k4⟩ := key i hil
        simp only [add_plain] at k0 k1 k2 k3
        exact ⟨e0, e1, e2, e3, n2, x2, k0, by simpa [Nat.add_assoc] using k1, by simpa [Nat.add_assoc] using k2, by simpa [Nat.add_assoc] using k3, k4⟩
theorem vt_trod : ∀ (d : Nat) {n' : Nat} {c0 c1 c2 c3 : Value} {x : DataW H × List MemPlace}, DataW.trod enc Tryd.prog W 0 (fun _ => true) true n' 24 [c0, c1, c2, c3] = some x →
    ∃ h : VH, [c0, c1, c2, c3] = [.int .i64 h.k, .int .i64 h.n, .int .i64 h.m, .slice h.a h.len h.cap] ∧ VT d W h
  | 0, _, _, _, _, _, _, hf => by
    obtain ⟨h, e, ho, _⟩ := vt_head hf
    exact ⟨h, e, ho⟩
  | d + 1, _, _, _, _, _, _, hf => by
    obtain ⟨h, e, ho, hs⟩ := vt_head hf
    refine ⟨h, e, ho, hs.imp id fun ⟨b, o, ea, k⟩ => ⟨b, o, ea, fun i hi => ?_⟩⟩
    obtain ⟨e0, e1, e2, e3, n2, x2, k0, k1, k2, k3, k4⟩ := k i hi
    obtain ⟨g, eg, hg⟩ := vt_trod d k4
    simp only [List.cons.injEq, and_true] at eg
    obtain ⟨rfl, rfl, rfl, rfl⟩ := eg
    exact ⟨g, ⟨k0, k1, k2, k3⟩, hg⟩
/-- An argument. -/
theorem open_val {r : Reach} {b0 : Nat} {v : Value} {d : DataW H} {p : List MemPlace} (hv : Value.okWide Tryd.prog W r b0 24 v) (h : DataW.Trod enc Tryd.prog W 0 (fun _ => true) true 24 v d p) :
    ∃ h : VH, v = h.v ∧ ∀ n, VT n W h := by
  obtain ⟨cs, rfl, hsz⟩ := okWide_struct Tryd.underlying24 hv
  obtain ⟨l⟩ := cs
  match l, hsz.trans cells_val with
  | [c0, c1, c2, c3], _ =>
    obtain ⟨fuel, hf⟩ := h
    simp only [Value.cells] at hf
    obtain ⟨h, e, ho, _⟩ := vt_head hf
    refine ⟨h, by unfold VH.v; rw [← e], fun n => ?_⟩
    obtain ⟨g, eg, hg⟩ := vt_trod n hf
    have : g = h := by
      rw [e] at eg
      obtain ⟨k, n, m, a, l, c⟩ := g
      obtain ⟨k', n', m', a', l', c'⟩ := h
      simp at eg
      obtain ⟨rfl, rfl, rfl, rfl, rfl, rfl⟩ := eg
      rfl
    rw [← this]
    exact hg
end
end Go.Proofs.YtoijdnlplbeomaaDoor


/-
  Layer 8: functions that go through a value's parts: they end, and change nothing that was there.
-/
namespace Go.Proofs.YtoijdnlplbeomaaDoor
set_option linter.unusedVariables false
set_option linter.unusedSimpArgs false
open Go.ChangeShapes Go.WideShapes Go.ChangeAt Go.RowKit
set_option maxRecDepth 100000
set_option maxHeartbeats 2000000 in
theorem count_any : ∀ (d : Nat), d ≤ 1000 → ∀ (h : VH) (w : World), VT d w h → ∀ L mst : Int, L = (d : Int) → Calls Tryd.prog 26 #[h.v, .int .i64 L, .int .i64 mst] w fun e w' => (∃ c : Int, e = .returned (.int .i64 c)) ∧ Below w.heap.size w w'
  | 0, _, h, w, hv, L, mst, hL => by
    obtain rfl : L = 0 := by simpa using hL
    clear hL
    unfold VH.v
    go_enter Tryd.func26, Tryd.ntmps26
    go_wp2
    go_ret
    exact ⟨⟨_, rfl⟩, below_new1 _ _⟩
  | d + 1, hd, h, w, hv, L, mst, hL => by
    have IH := Lib.hid (count_any d (by omega))
    have HV := Lib.hid hv
    have e0 : (L == (0 : Int)) = false := by simp; omega
    have hwd : IntKind.i64.wrap (L - 1) = L - 1 := by rw [IntKind.wrap_i64]; omega
    have HD := Lib.hid (show L - 1 = (d : Int) by omega)
    clear hL
    have hok := hv.ok
    have hlen : h.len ≤ 9223372036854775807 := hok.2.2.2.2
    clear hv hok
    unfold VH.v
    go_enter Tryd.func26, Tryd.ntmps26
    go_wp2
    obtain ⟨W, hW⟩ : ∃ W, W = w.alloc (.cells #[.int .i64 h.k, .int .i64 h.n, .int .i64 h.m, .slice h.a h.len h.cap] 24) := ⟨_, rfl⟩
    have hWs : W.heap.size = w.heap.size + 1 := by rw [hW]; simp
    have hb0 : Below w.heap.size w W := by rw [hW]; exact below_new1 _ _
    have hc3 : W.cell? ⟨w.heap.size, 3, none⟩ = some (.slice h.a h.len h.cap) := by rw [hW]; go_simp
    rw [← hW]
    have HW := Lib.hid hW
    have HS := Lib.hid hWs
    clear hW hWs
    go_loopw [7, 8] (fun n i wr => ∃ k : Nat, k ≤ h.len ∧ i = .int .i64 k ∧ (∃ c : Int, n = .int .i64 c) ∧ Below W.heap.size W wr) (fun _ i _ => h.len - (intOf i).toNat)
    case atStart => exact ⟨0, Nat.zero_le _, rfl, ⟨1, rfl⟩, Below.refl _ _⟩
    case round =>
      obtain ⟨k, hk, rfl, ⟨c, rfl⟩, hb⟩ := hrel
      have p3 : wr.cell? ⟨w.heap.size, 3, none⟩ = some (.slice h.a h.len h.cap) := cel_below hb hc3
      have hbw : Below w.heap.size w wr := hb0.trans (hb.mono hb0.size)
      by_cases hlt : k < h.len
      · have hwk : IntKind.i64.wrap ((k : Int) + 1) = (k : Int) + 1 := by rw [IntKind.wrap_i64]; omega
        have l1 : decide ((k : Int) < (h.len : Int)) = true := by simp; omega
        by_cases hm : c ≤ mst
        · have l2 : decide (c ≤ mst) = true := by simpa using hm
          rcases HV.out.2 with h0 | ⟨b, o, ea, hel⟩
          · omega
          · obtain ⟨g, hg, hgt⟩ := hel k hlt
            obtain ⟨q0, q1, q2, q3⟩ := VH.at_below hbw hg
            have hgw := hgt.below hbw
            rw [ea] at p3
            clear ea hel
            have i1 : (0 : Int) ≤ (k : Int) := by omega
            have i2 : (k : Int) < (h.len : Int) := by omega
            go_wp2_with (first | (go_at_call 26; refine (IH.out g _ hgw _ mst HD.out).mono ?_; rintro e w2 ⟨⟨c2, rfl⟩, hb2⟩))
            go_roundw
            case rel => exact ⟨k + 1, by omega, by simp, ⟨_, rfl⟩, hb.trans (hb2.mono hb.size)⟩
            case measure => simp [intOf, hwk]; omega
        · have l2 : decide (c ≤ mst) = false := by simpa using hm
          go_wp2
          go_ret
          exact ⟨⟨_, rfl⟩, hbw⟩
      · have l1 : decide ((k : Int) < (h.len : Int)) = false := by simp; omega
        go_wp2
        go_ret
        exact ⟨⟨_, rfl⟩, hbw⟩
end Go.Proofs.YtoijdnlplbeomaaDoor


/-
  Layer 8: whether a value is valid apart from its parts, by the reference: it ends.
-/
namespace Go.Proofs.YtoijdnlplbeomaaDoor
set_option linter.unusedVariables false
set_option linter.unusedSimpArgs false
open Go.ChangeShapes Go.WideShapes Go.ChangeAt Go.RowKit
set_option maxRecDepth 100000
/-- A function that tells whether. -/
def IsBool (e : Ending) : Prop := ∃ b : Bool, e = .returned (.bool b)
set_option maxHeartbeats 8000000 in
theorem own_any (h : VH) (hok : h.ok) (w : World) : Calls Tryd.prog 38 #[h.v] w fun e w' => IsBool e ∧ Below w.heap.size w w' := by
  obtain ⟨hk, hn, hm, _, _⟩ := hok
  unfold VH.v
  go_enter Tryd.func38, Tryd.ntmps38
  go_wp2
  all_goals (go_ret; exact ⟨⟨_, rfl⟩, below_new1 _ _⟩)
set_option maxHeartbeats 4000000 in
theorem within_any : ∀ (d : Nat), d ≤ 1000 → ∀ (h : VH) (w : World), VT d w h → ∀ L : Int, L = (d : Int) → Calls Tryd.prog 29 #[h.v, .int .i64 L] w fun e w' => IsBool e ∧ Below w.heap.size w w'
  | 0, _, h, w, hv, L, hL => by
    obtain rfl : L = 0 := by simpa using hL
    have HO := Lib.hid (own_any h hv.ok)
    clear hL hv
    unfold VH.v
    go_enter Tryd.func29, Tryd.ntmps29
    obtain ⟨W, hW⟩ : ∃ W, W = w.alloc (.cells #[.int .i64 h.k, .int .i64 h.n, .int .i64 h.m, .slice h.a h.len h.cap] 24) := ⟨_, rfl⟩
    have hb0 : Below w.heap.size w W := by rw [hW]; exact below_new1 _ _
    have hz0 : W.heap.size = w.heap.size + 1 := by rw [hW]; simp
    have HZ := Lib.hid hz0
    clear hz0 hW
    go_wp2_with (first | (go_at_call 38; refine (HO.out _).mono ?_; rintro e w1 ⟨⟨b, rfl⟩, hb1⟩; have HB1 := Lib.hid hb1; clear hb1))
    all_goals (go_ret; exact ⟨⟨_, rfl⟩, (below_new1 _ _).trans (HB1.out.mono (by simp))⟩)
  | d + 1, hd, h, w, hv, L, hL => by
    have IH := Lib.hid (within_any d (by omega))
    have HV := Lib.hid hv
    have HO := Lib.hid (own_any h hv.ok)
    have e0 : (L == (0 : Int)) = false := by simp; omega
    have hwd : IntKind.i64.wrap (L - 1) = L - 1 := by rw [IntKind.wrap_i64]; omega
    have HD := Lib.hid (show L - 1 = (d : Int) by omega)
    have hlen : h.len ≤ 9223372036854775807 := hv.ok.2.2.2.2
    clear hL hv
    unfold VH.v
    go_enter Tryd.func29, Tryd.ntmps29
    go_wp2_with (first | (go_at_call 38; refine (HO.out _).mono ?_; rintro e w1 ⟨⟨b, rfl⟩, hb1⟩; have HB1 := Lib.hid hb1; have p3 : w1.cell? ⟨w.heap.size, 3, none⟩ = some (.slice h.a h.len h.cap) := cel_below hb1 (by go_simp); clear hb1))
    · go_ret
      exact ⟨⟨_, rfl⟩, (below_new1 _ _).trans (HB1.out.mono (by simp))⟩
    · obtain rfl : b = true := by cases b <;> simp_all
      have hb1 := HB1.out
      have hbA : Below w.heap.size w w1 := (below_new1 _ _).trans (hb1.mono (by simp))
      obtain ⟨W, hW⟩ : ∃ W, W = w1 := ⟨_, rfl⟩
      rw [← hW] at hbA p3
      rw [← hW]
      clear hb1 HB1 hW
      simp only [Bool.not_true]
      go_loopw [4, 6, 7] (fun r i o wr => ∃ k : Nat, k ≤ h.len ∧ i = .int .i64 k ∧ Below W.heap.size W wr) (fun _ i _ _ => h.len - (intOf i).toNat)
      case atStart => exact ⟨0, Nat.zero_le _, rfl, Below.refl _ _⟩
      case round =>
        obtain ⟨k, hk, rfl, hb⟩ := hrel
        have p4 : wr.cell? ⟨w.heap.size, 3, none⟩ = some (.slice h.a h.len h.cap) := cel_below hb p3
        have hbw : Below w.heap.size w wr := hbA.trans (hb.mono hbA.size)
        by_cases hlt : k < h.len
        · have hwk : IntKind.i64.wrap ((k : Int) + 1) = (k : Int) + 1 := by rw [IntKind.wrap_i64]; omega
          have l1 : decide ((k : Int) < (h.len : Int)) = true := by simp; omega
          rcases HV.out.2 with h0 | ⟨b, o, ea, hel⟩
          · omega
          · obtain ⟨g, hg, hgt⟩ := hel k hlt
            obtain ⟨q0, q1, q2, q3⟩ := VH.at_below hbw hg
            have hgw := hgt.below hbw
            rw [ea] at p4
            clear ea hel p3
            have i1 : (0 : Int) ≤ (k : Int) := by omega
            have i2 : (k : Int) < (h.len : Int) := by omega
            go_wp2_with (first | (go_at_call 29; refine (IH.out g _ hgw _ HD.out).mono ?_; rintro e w2 ⟨⟨b2, rfl⟩, hb2⟩))
            · go_ret
              exact ⟨⟨_, rfl⟩, hbw.trans (hb2.mono hbw.size)⟩
            · go_roundw
              case rel => exact ⟨k + 1, by omega, by simp, hb.trans (hb2.mono hb.size)⟩
              case measure => simp [intOf, hwk]; omega
        · have l1 : decide ((k : Int) < (h.len : Int)) = false := by simp; omega
          go_wp2
          go_ret
          exact ⟨⟨_, rfl⟩, hbw⟩
end Go.Proofs.YtoijdnlplbeomaaDoor


/-
  Layer 8: whether a value in memory is valid, as a function of the world.
-/
namespace Go.Proofs.YtoijdnlplbeomaaDoor
set_option maxRecDepth 100000
set_option linter.unusedVariables false
set_option linter.unusedSimpArgs false
open Go.ChangeShapes Go.WideShapes Go.ChangeAt Go.RowKit Go.Deep
def celI (w : World) (b o : Nat) : Int := match w.cell? ⟨b, o, none⟩ with
  | some (.int .i64 x) => x
  | _ => 0
def celS (w : World) (b o : Nat) : Option Addr × Nat × Nat := match w.cell? ⟨b, o, none⟩ with
  | some (.slice a l c) => (a, l, c)
  | _ => (none, 0, 0)
/-- A part of a value. -/
def VH.kid (h : VH) (w : World) (i : Nat) : VH := match h.a with
  | some ⟨b, o, none⟩ => ⟨celI w b (o + i * 4), celI w b (o + i * 4 + 1), celI w b (o + i * 4 + 2), (celS w b (o + i * 4 + 3)).1, (celS w b (o + i * 4 + 3)).2.1, (celS w b (o + i * 4 + 3)).2.2⟩
  | _ => ⟨0, 0, 0, none, 0, 0⟩
theorem VH.kid_eq {h g : VH} {w : World} {b o i : Nat} (e : h.a = some ⟨b, o, none⟩) (hg : g.at w b (o + i * 4)) : h.kid w i = g := by
  obtain ⟨h0, h1, h2, h3⟩ := hg
  unfold VH.kid
  rw [e]
  simp only [celI, celS, h0, h1, h2, h3]
/-- A value's own part of validity. -/
def ownB (h : VH) : Bool :=
  bif h.k == 5 then (h.len == 0) && (decide (0 ≤ h.n) && (decide (h.n ≤ 32) && (decide (1 ≤ h.m) && (decide (h.m ≤ 32) && decide (h.n + h.m ≤ 32)))))
  else bif h.m != 0 then false
  else bif h.k == 1 then (h.len == 0) && (decide (-1099511627776 ≤ h.n) && decide (h.n ≤ 1099511627776))
  else bif h.k == 2 then (h.len == 0) && (h.n == 0 || h.n == 1)
  else bif h.k == 3 || h.k == 7 then (h.len == 0) && h.n == 0
  else bif h.k == 4 then (h.len == 0) && (decide (0 ≤ h.n) && decide (h.n < 32))
  else bif h.k == 6 then (h.len == 2) && h.n == 0
  else bif h.k == 8 then (h.len == 1) && h.n == 0
  else bif h.k == 9 then decide (0 ≤ h.n) else false
def rightW : Nat → World → VH → Bool
  | 0, _, _ => false
  | d + 1, w, h => ownB h && (List.range h.len).all fun i => rightW d w (h.kid w i)
theorem rightW_below {w w' : World} (hb : Below w.heap.size w w') : ∀ {d : Nat} {h : VH}, VT d w h → rightW d w' h = rightW d w h
  | 0, _, _ => rfl
  | d + 1, h, hv => by
    unfold rightW
    congr 1
    rcases hv.2 with h0 | ⟨b, o, ea, hel⟩
    · rw [h0]; rfl
    · have hk : ∀ i, i < h.len → rightW d w' (h.kid w' i) = rightW d w (h.kid w i) := fun i hi => by
        obtain ⟨g, hg, hgt⟩ := hel i hi
        rw [VH.kid_eq ea hg, VH.kid_eq ea (VH.at_below hb hg)]
        exact rightW_below hb hgt
      apply Bool.eq_iff_iff.2
      simp only [List.all_eq_true, List.mem_range]
      exact ⟨fun H i hi => by rw [← hk i hi]; exact H i hi, fun H i hi => by rw [hk i hi]; exact H i hi⟩
set_option maxHeartbeats 4000000 in
theorem own_is (h : VH) (hok : h.ok) (w : World) : Calls Tryd.prog 38 #[h.v] w fun e w' => e = .returned (.bool (ownB h)) ∧ Below w.heap.size w w' := by
  obtain ⟨hk, hn, hm, _, _⟩ := hok
  unfold VH.v
  go_enter Tryd.func38, Tryd.ntmps38
  go_wp2
  all_goals (go_ret; refine ⟨congrArg (fun b => Ending.returned (Value.bool b)) ?_, below_new1 _ _⟩; unfold ownB; simp_all; try omega)
end Go.Proofs.YtoijdnlplbeomaaDoor


/-
  Layer 8: whether a value in memory is valid: the reference computes rightW.
-/
namespace Go.Proofs.YtoijdnlplbeomaaDoor
set_option linter.unusedVariables false
set_option linter.unusedSimpArgs false
open Go.ChangeShapes Go.WideShapes Go.ChangeAt Go.RowKit
set_option maxRecDepth 100000
theorem rightW_own {d : Nat} {w : World} {h : VH} (e : ownB h = false) : rightW (d + 1) w h = false := by unfold rightW; rw [e]; rfl
theorem rightW_bad {d : Nat} {w : World} {h : VH} {k : Nat} (hk : k < h.len) (e : rightW d w (h.kid w k) = false) : rightW (d + 1) w h = false := by
  unfold rightW
  have : ((List.range h.len).all fun i => rightW d w (h.kid w i)) = false := by
    rw [Bool.eq_false_iff]
    intro H
    rw [List.all_eq_true] at H
    have := H k (List.mem_range.2 hk)
    rw [e] at this; cases this
  rw [this]; simp
theorem rightW_good {d : Nat} {w : World} {h : VH} (e : ownB h = true) (H : ∀ j, j < h.len → rightW d w (h.kid w j) = true) : rightW (d + 1) w h = true := by
  unfold rightW
  rw [e, Bool.true_and, List.all_eq_true]
  exact fun i hi => H i (List.mem_range.1 hi)
set_option maxHeartbeats 4000000 in
theorem within_is : ∀ (d : Nat), d ≤ 1000 → ∀ (h : VH) (w : World), VT d w h → ∀ L : Int, L = (d : Int) → Calls Tryd.prog 29 #[h.v, .int .i64 L] w fun e w' => e = .returned (.bool (rightW d w h)) ∧ Below w.heap.size w w'
  | 0, _, h, w, hv, L, hL => by
    obtain rfl : L = 0 := by simpa using hL
    have HO0 := own_is h hv.ok
    obtain ⟨b, hb⟩ : ∃ b, ownB h = b := ⟨_, rfl⟩
    rw [hb] at HO0
    have HO := Lib.hid HO0
    clear hL hv HO0 hb
    show Calls Tryd.prog 29 #[h.v, .int .i64 0] w fun e w' => e = .returned (.bool false) ∧ Below w.heap.size w w'
    unfold VH.v
    go_enter Tryd.func29, Tryd.ntmps29
    obtain ⟨W, hW⟩ : ∃ W, W = w.alloc (.cells #[.int .i64 h.k, .int .i64 h.n, .int .i64 h.m, .slice h.a h.len h.cap] 24) := ⟨_, rfl⟩
    have hb0 : Below w.heap.size w W := by rw [hW]; exact below_new1 _ _
    have hz0 : W.heap.size = w.heap.size + 1 := by rw [hW]; simp
    have HZ := Lib.hid hz0
    clear hz0 hW
    go_wp2_with (first | (go_at_call 38; refine (HO.out _).mono ?_; rintro e w1 ⟨rfl, hb1⟩; have HB1 := Lib.hid hb1; clear hb1))
    all_goals (go_ret; exact ⟨rfl, (below_new1 _ _).trans (HB1.out.mono (by simp))⟩)
  | d + 1, hd, h, w, hv, L, hL => by
    have IH := Lib.hid (within_is d (by omega))
    have HV := Lib.hid hv
    have HO0 := own_is h hv.ok
    have e0 : (L == (0 : Int)) = false := by simp; omega
    have hwd : IntKind.i64.wrap (L - 1) = L - 1 := by rw [IntKind.wrap_i64]; omega
    have HD := Lib.hid (show L - 1 = (d : Int) by omega)
    have hlen : h.len ≤ 9223372036854775807 := hv.ok.2.2.2.2
    cases hown : ownB h with
    | false =>
      rw [rightW_own hown]
      rw [hown] at HO0
      have HO := Lib.hid HO0
      clear hL hv HO0 hown
      unfold VH.v
      go_enter Tryd.func29, Tryd.ntmps29
      go_wp2_with (first | (go_at_call 38; refine (HO.out _).mono ?_; rintro e w1 ⟨rfl, hb1⟩; have HB1 := Lib.hid hb1; clear hb1))
      all_goals (go_ret; exact ⟨rfl, (below_new1 _ _).trans (HB1.out.mono (by simp))⟩)
    | true =>
      rw [hown] at HO0
      have HO := Lib.hid HO0
      have HW := Lib.hid hown
      clear hL hv HO0 hown
      unfold VH.v
      go_enter Tryd.func29, Tryd.ntmps29
      go_wp2_with (first | (go_at_call 38; refine (HO.out _).mono ?_; rintro e w1 ⟨rfl, hb1⟩; have HB1 := Lib.hid hb1; have p3 : w1.cell? ⟨w.heap.size, 3, none⟩ = some (.slice h.a h.len h.cap) := cel_below hb1 (by go_simp); clear hb1))
      have hb1 := HB1.out
      have hbA : Below w.heap.size w w1 := (below_new1 _ _).trans (hb1.mono (by simp))
      obtain ⟨W, hW⟩ : ∃ W, W = w1 := ⟨_, rfl⟩
      rw [← hW] at hbA p3
      rw [← hW]
      clear hb1 HB1 hW
      try simp only [Bool.not_true]
      go_loopw [4, 6, 7] (fun r i o wr => ∃ k : Nat, k ≤ h.len ∧ i = .int .i64 k ∧ Below W.heap.size W wr ∧ Hid (∀ j, j < k → rightW d w (h.kid w j) = true)) (fun _ i _ _ => h.len - (intOf i).toNat)
      case atStart => exact ⟨0, Nat.zero_le _, rfl, Below.refl _ _, Lib.hid (fun j hj => by omega)⟩
      case round =>
        obtain ⟨k, hk, rfl, hb, HR⟩ := hrel
        have p4 : wr.cell? ⟨w.heap.size, 3, none⟩ = some (.slice h.a h.len h.cap) := cel_below hb p3
        have hbw : Below w.heap.size w wr := hbA.trans (hb.mono hbA.size)
        by_cases hlt : k < h.len
        · have hwk : IntKind.i64.wrap ((k : Int) + 1) = (k : Int) + 1 := by rw [IntKind.wrap_i64]; omega
          have l1 : decide ((k : Int) < (h.len : Int)) = true := by simp; omega
          rcases HV.out.2 with h0 | ⟨b, o, ea, hel⟩
          · omega
          · obtain ⟨g, hg, hgt⟩ := hel k hlt
            obtain ⟨q0, q1, q2, q3⟩ := VH.at_below hbw hg
            have hgw := hgt.below hbw
            have hr : rightW d wr g = rightW d w (h.kid w k) := by rw [rightW_below hbw hgt, VH.kid_eq ea hg]
            have IHg := IH.out g _ hgw _ HD.out
            rw [hr] at IHg
            rw [ea] at p4
            clear ea hel p3 hr
            have i1 : (0 : Int) ≤ (k : Int) := by omega
            have i2 : (k : Int) < (h.len : Int) := by omega
            cases hc : rightW d w (h.kid w k) with
            | false =>
              rw [hc] at IHg
              have HI := Lib.hid IHg
              have HC := Lib.hid hc
              clear IHg hc
              go_wp2_with (first | (go_at_call 29; refine HI.out.mono ?_; rintro e w2 ⟨rfl, hb2⟩))
              go_ret
              exact ⟨by rw [rightW_bad hlt HC.out]; rfl, hbw.trans (hb2.mono hbw.size)⟩
            | true =>
              rw [hc] at IHg
              have HI := Lib.hid IHg
              have HC := Lib.hid hc
              clear IHg hc
              go_wp2_with (first | (go_at_call 29; refine HI.out.mono ?_; rintro e w2 ⟨rfl, hb2⟩))
              go_roundw
              case rel => exact ⟨k + 1, by omega, by simp, hb.trans (hb2.mono hb.size), Lib.hid (fun j hj => by rcases Nat.lt_succ_iff_lt_or_eq.1 hj with h1 | rfl; exact HR.out j h1; exact HC.out)⟩
              case measure => simp [intOf, hwk]; omega
        · have l1 : decide ((k : Int) < (h.len : Int)) = false := by simp; omega
          go_wp2
          go_ret
          exact ⟨by rw [rightW_good HW.out (fun j hj => HR.out j (by omega))]; rfl, hbw⟩
end Go.Proofs.YtoijdnlplbeomaaDoor


/-
  Layer 8: whether a value is valid: the reference's Right, and the head by the program.
-/
namespace Go.Proofs.YtoijdnlplbeomaaDoor
set_option linter.unusedVariables false
set_option linter.unusedSimpArgs false
open Go.ChangeShapes Go.WideShapes Go.ChangeAt Go.RowKit
set_option maxRecDepth 100000
theorem rr_is (h : VH) (w : World) (hv : VT 40 w h) : Calls Tryd.prog 12 #[h.v] w fun e w' => e = .returned (.bool (rightW 40 w h)) ∧ Below w.heap.size w w' := by
  have H := Lib.hid (within_is 40 (by omega) h _ (hv.below (below_new1 w (.cells #[.int .i64 h.k, .int .i64 h.n, .int .i64 h.m, .slice h.a h.len h.cap] 24))) 40 rfl)
  have e0 := rightW_below (below_new1 w (.cells #[.int .i64 h.k, .int .i64 h.n, .int .i64 h.m, .slice h.a h.len h.cap] 24)) hv
  rw [e0] at H
  obtain ⟨b, hb⟩ : ∃ b, rightW 40 w h = b := ⟨_, rfl⟩
  rw [hb] at H ⊢
  clear hv e0 hb
  unfold VH.v
  go_enter Tryd.func12, Tryd.ntmps12
  go_wp2_with (first | (go_at_call 29; refine H.out.mono ?_; rintro e w1 ⟨rfl, hb⟩))
  go_ret
  exact ⟨rfl, (below_new1 _ _).trans (hb.mono (by simp))⟩
set_option maxHeartbeats 4000000 in
theorem head_is (h : VH) (hok : h.ok) (w : World) : Calls Tryd.prog 37 #[h.v] w fun e w' => e = .returned (.bool (ownB h)) ∧ Below w.heap.size w w' := by
  obtain ⟨hk, hn, hm, _, _⟩ := hok
  unfold VH.v
  go_enter Tryd.func37, Tryd.ntmps37
  go_wp2
  all_goals (go_ret; refine ⟨congrArg (fun b => Ending.returned (Value.bool b)) ?_, below_new1 _ _⟩; unfold ownB; simp_all; try first | omega | (apply Bool.eq_iff_iff.2; simp; done) | (apply Bool.eq_iff_iff.2; simp; omega) | (apply Bool.eq_iff_iff.2; constructor <;> intro hx <;> simp at hx ⊢ <;> omega))
end Go.Proofs.YtoijdnlplbeomaaDoor
