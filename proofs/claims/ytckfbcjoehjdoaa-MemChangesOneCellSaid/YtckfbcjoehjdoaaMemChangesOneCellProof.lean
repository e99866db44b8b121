/- MemChangesOneCell: an access changes at most the accessed cell, a load or a failed comparison changes nothing, and the result is the cell's previous value. No condition. -/
import Derived.Test.YtckfbcjoehjdoaaRows
import Derived.Test.YtckfbcjoehjdoaaMemB
import Derived.Test.YtckfbcjoehjdoaaMemD
import Derived.Test.YtckfbcjoehjdoaaMemE
import Derived.Test.YtckfbcjoehjdoaaMemS
import Derived.Test.YtckfbcjoehjdoaaMemO
import Derived.Test.YtckfbcjoehjdoaaMemT
import Derived.Deep.RegionHeld3
import Derived.WalkKit
import Derived.ProofKit
import Derived.OpenShut
import Derived.Lib.Hide
import Derived.Carry
namespace Go.Proofs.Ytckfbcjoehjdoaa.memChangesOneCell
open Go.ChangeShapes Go.WideShapes Go.ChangeAt Go.RowKit
set_option linter.unusedVariables false

theorem ints_at {w : World} {a : Option Addr} {l c : Nat} {zs : List Int} (h : HasInts w (.slice a l c) zs) (hp : 0 < zs.length) : ∃ b o, a = some ⟨b, o, none⟩ ∧ ∀ j, j < zs.length → w.cell? ⟨b, o + j, none⟩ = some (.int .i64 (zs.getD j 0)) := by
  obtain ⟨a', cap, he, hl, hc⟩ := h
  simp only [Value.slice.injEq] at he
  obtain ⟨rfl, rfl, rfl⟩ := he
  rcases hc with hc | hc
  · omega
  · exact hc
theorem set_away (l : List Int) (i j : Nat) (x : Int) (h : i ≠ j) : (l.set j x).getD i 0 = l.getD i 0 := by
  simp [List.getD, List.getElem?_set, Ne.symm h]
theorem appZ_away (k c o n : Int) (zs : List Int) (i : Nat) (h : i ≠ c.toNat) : (appZ k c o n zs).getD i 0 = zs.getD i 0 := by
  unfold appZ; split
  · exact set_away _ _ _ _ h
  · split
    · exact set_away _ _ _ _ h
    · rfl

set_option maxHeartbeats 4000000 in
set_option maxRecDepth 100000 in
theorem walk (w : World) (s0 : Value) (z0 : List Int) (h0 : HasInts w s0 z0) (k c o n : Int) (b : ByteArray) (i1 : I64 k) (i2 : I64 c) (i3 : I64 o) (i4 : I64 n) :
    Calls Try.prog 6 #[.agg #[s0], acc k c o n b] w fun e w' => e = .returned (.bool true) ∧ Below w.heap.size w w' := by
  have HH0 := Lib.hid h0
  obtain ⟨a0, cap0, rfl, hl0, _⟩ := h0
  have HD : Hid (∀ (v : Value) (w : World), HasInts w v z0 → z0.length ≤ 200 → Calls Try.prog 10 #[.agg #[v], .agg #[.int .i64 k, .int .i64 c, .int .i64 o, .int .i64 n, .string b]] w fun e w' =>
      ∃ a cp, e = .returned (.tuple #[.agg #[.slice a z0.length cp], .agg #[.int .i64 (doR k c o n b z0), .bool (doOk k c o n b z0)], .int .i64 (chk z0.length k c o n b)]) ∧ HasInts w' (.slice a z0.length cp) (doZ k c o n b z0) ∧ Below w.heap.size w w') := Lib.hid (fun v w hv hl => by
    refine (do_any v z0 k c o n b w hv (by omega)).mono ?_
    rintro e w' ⟨u, rfl, hu, hb⟩
    have hu' := hu
    obtain ⟨a, cp, rfl, _, _⟩ := hu'
    have hl : (doZ k c o n b z0).length = z0.length := by unfold doZ; split; exact appZ_length _ _ _ _ _; rfl
    rw [hl] at hu ⊢
    exact ⟨a, cp, rfl, hu, hb⟩)
  obtain ⟨R, hR⟩ : ∃ R, R = doR k c o n b z0 := ⟨_, rfl⟩
  obtain ⟨Q, hQ⟩ : ∃ Q, Q = doOk k c o n b z0 := ⟨_, rfl⟩
  obtain ⟨E, hE⟩ : ∃ E, E = chk z0.length k c o n b := ⟨_, rfl⟩
  obtain ⟨Z, hZ⟩ : ∃ Z, Z = doZ k c o n b z0 := ⟨_, rfl⟩
  rw [← hR, ← hQ, ← hE, ← hZ] at HD
  have NR := Lib.hid hR
  have NQ := Lib.hid hQ
  have NE := Lib.hid hE
  have NZ := Lib.hid hZ
  clear hR hQ hE hZ i1 i2 i3 i4
  unfold acc
  obtain ⟨L0, hL0⟩ : ∃ L0, L0 = z0.length := ⟨_, rfl⟩
  rw [← hL0] at HD HH0 NE ⊢
  have NL := Lib.hid hL0
  clear hl0 hL0
  go_enter Try.func6, Try.ntmps6
  go_wp2_with fail
  refine (sane_any _).mono ?_
  rintro e w1 ⟨rfl, hb1⟩
  have B1 : Hid (Below w.heap.size w w1) := Lib.hid (by
    refine (?_ : Below w.heap.size w _).trans (hb1.mono (by simp; omega))
    repeat (first | with_reducible exact Below.refl _ _ | with_reducible refine Below.alloc ?_ (by first | omega | (simp; omega) | simp) _))
  have p0 : w1.cell? ⟨w.heap.size, 0, none⟩ = some (.slice a0 L0 cap0) := cell_below hb1 (cell_alloc _ (by rw [World.cell?_alloc_at _ _ _ _ rfl]; rfl))
  have p2 : w1.cell? ⟨w.heap.size + 1, 0, none⟩ = some (.int .i64 k) := cell_below hb1 (by rw [World.cell?_alloc_at _ _ _ _ (by simp)]; rfl)
  have p3 : w1.cell? ⟨w.heap.size + 1, 1, none⟩ = some (.int .i64 c) := cell_below hb1 (by rw [World.cell?_alloc_at _ _ _ _ (by simp)]; rfl)
  have p4 : w1.cell? ⟨w.heap.size + 1, 2, none⟩ = some (.int .i64 o) := cell_below hb1 (by rw [World.cell?_alloc_at _ _ _ _ (by simp)]; rfl)
  have p5 : w1.cell? ⟨w.heap.size + 1, 3, none⟩ = some (.int .i64 n) := cell_below hb1 (by rw [World.cell?_alloc_at _ _ _ _ (by simp)]; rfl)
  have p6 : w1.cell? ⟨w.heap.size + 1, 4, none⟩ = some (.string b) := cell_below hb1 (by rw [World.cell?_alloc_at _ _ _ _ (by simp)]; rfl)
  clear hb1
  by_cases g0 : 100 < L0
  · go_wp2_with fail
    go_ret
    exact ⟨rfl, B1.out⟩
  go_wp2_with fail
  refine (HD.out _ _ (hasInts_keep HH0.out B1.out) (by have := NL.out; omega)).mono ?_
  rintro e w2 ⟨a2, cp2, rfl, hx, hb2⟩
  have q0 := cell_below hb2 p0
  have q2 := cell_below hb2 p2
  have q3 := cell_below hb2 p3
  have q4 := cell_below hb2 p4
  have q5 := cell_below hb2 p5
  have q6 := cell_below hb2 p6
  have B2 : Hid (Below w.heap.size w w2) := Lib.hid (B1.out.trans (hb2.mono B1.out.size))
  clear hb2 B1 p0 p2 p3 p4 p5 p6
  have c0 : ((w2.alloc (.cells #[.slice a2 L0 cp2] 24)).alloc (.cells #[.int .i64 R, .bool Q] 29)).cell? ⟨w.heap.size, 0, none⟩ = some (.slice a0 L0 cap0) := cell_alloc _ (cell_alloc _ q0)
  have c2 : ((w2.alloc (.cells #[.slice a2 L0 cp2] 24)).alloc (.cells #[.int .i64 R, .bool Q] 29)).cell? ⟨w.heap.size + 1, 0, none⟩ = some (.int .i64 k) := cell_alloc _ (cell_alloc _ q2)
  have c3 : ((w2.alloc (.cells #[.slice a2 L0 cp2] 24)).alloc (.cells #[.int .i64 R, .bool Q] 29)).cell? ⟨w.heap.size + 1, 1, none⟩ = some (.int .i64 c) := cell_alloc _ (cell_alloc _ q3)
  have c4 : ((w2.alloc (.cells #[.slice a2 L0 cp2] 24)).alloc (.cells #[.int .i64 R, .bool Q] 29)).cell? ⟨w.heap.size + 1, 2, none⟩ = some (.int .i64 o) := cell_alloc _ (cell_alloc _ q4)
  have c5 : ((w2.alloc (.cells #[.slice a2 L0 cp2] 24)).alloc (.cells #[.int .i64 R, .bool Q] 29)).cell? ⟨w.heap.size + 1, 3, none⟩ = some (.int .i64 n) := cell_alloc _ (cell_alloc _ q5)
  have c6 : ((w2.alloc (.cells #[.slice a2 L0 cp2] 24)).alloc (.cells #[.int .i64 R, .bool Q] 29)).cell? ⟨w.heap.size + 1, 4, none⟩ = some (.string b) := cell_alloc _ (cell_alloc _ q6)
  have c7 : ((w2.alloc (.cells #[.slice a2 L0 cp2] 24)).alloc (.cells #[.int .i64 R, .bool Q] 29)).cell? ⟨w2.heap.size, 0, none⟩ = some (.slice a2 L0 cp2) := cell_alloc _ (by rw [World.cell?_alloc_at _ _ _ _ rfl]; rfl)
  have c8 : ((w2.alloc (.cells #[.slice a2 L0 cp2] 24)).alloc (.cells #[.int .i64 R, .bool Q] 29)).cell? ⟨w2.heap.size + 1, 0, none⟩ = some (.int .i64 R) := by rw [World.cell?_alloc_at _ _ _ _ (by simp)]; rfl
  have c9 : ((w2.alloc (.cells #[.slice a2 L0 cp2] 24)).alloc (.cells #[.int .i64 R, .bool Q] 29)).cell? ⟨w2.heap.size + 1, 1, none⟩ = some (.bool Q) := by rw [World.cell?_alloc_at _ _ _ _ (by simp)]; rfl
  have b2r : Below w2.heap.size w2 ((w2.alloc (.cells #[.slice a2 L0 cp2] 24)).alloc (.cells #[.int .i64 R, .bool Q] 29)) := ((Below.refl _ _).alloc (Nat.le_refl _) _).alloc (by simp) _
  have BR : Hid (Below w.heap.size w ((w2.alloc (.cells #[.slice a2 L0 cp2] 24)).alloc (.cells #[.int .i64 R, .bool Q] 29))) := Lib.hid (B2.out.trans (b2r.mono B2.out.size))
  have X0 := Lib.hid (hasInts_keep HH0.out BR.out)
  have X2 := Lib.hid (hasInts_keep hx b2r)
  clear hx HH0 B2 q0 q2 q3 q4 q5 q6 HD b2r
  by_cases hE : E = 0
  · have h1 : (E != 0) = false := by simp [hE]
    have hck : chk L0 k c o n b = 0 := by rw [← NE.out]; exact hE
    obtain ⟨_, d0, d1, _⟩ := chk_zero hck
    have HE := Lib.hid hE
    have HCK := Lib.hid hck
    clear hE hck
    have hR : R = z0.getD c.toNat 0 := by rw [NR.out]; unfold doR; rw [← NL.out, if_pos HCK.out]
    have hQ : Q = appOk k c o z0 := by rw [NQ.out]; unfold doOk; rw [← NL.out, if_pos HCK.out]
    have hZ : Z = appZ k c o n z0 := by rw [NZ.out]; unfold doZ; rw [← NL.out, if_pos HCK.out]
    have hk := (chk_zero HCK.out).1
    have hZl : Z.length = L0 := by rw [hZ, appZ_length, NL.out]
    obtain ⟨j, rfl⟩ := Int.eq_ofNat_of_zero_le d0
    have dj : j < L0 := by omega
    simp only [Int.toNat_natCast] at hR
    obtain ⟨b0, o0, rfl, hm⟩ := ints_at X0.out (by rw [← NL.out]; omega)
    obtain ⟨b2, o2, rfl, hx⟩ := ints_at X2.out (by omega)
    rw [← NL.out] at hm
    rw [hZl] at hx
    obtain ⟨wr, HWR⟩ : ∃ wr, wr = ((w2.alloc (.cells #[.slice (some ⟨b2, o2, none⟩) L0 cp2] 24)).alloc (.cells #[.int .i64 R, .bool Q] 29)) := ⟨_, rfl⟩
    rw [← HWR] at hm hx c0 c2 c3 c4 c5 c6 c7 c8 c9 BR
    have hmj := hm j dj
    rw [← hR] at hmj
    have hxj := hx j dj
    obtain ⟨zz, hzz⟩ : ∃ zz, zz = Z.getD j 0 := ⟨_, rfl⟩
    rw [← hzz] at hxj
    have haway : Hid (∀ i, i ≠ j → Z.getD i 0 = z0.getD i 0) := Lib.hid (fun i hi => by rw [hZ]; exact appZ_away _ _ _ _ _ _ (by simpa using hi))
    have f1 : decide ((j : Int) < 0) = false := by simp
    have f2 : decide ((L0 : Int) ≤ j) = false := by simp; omega
    have HM := Lib.hid hm
    have HX := Lib.hid hx
    have HQ := Lib.hid hQ
    have HZ := Lib.hid hZ
    have HZZ := Lib.hid hzz
    have HR := Lib.hid hR
    have HK := Lib.hid hk
    have DJ := Lib.hid dj
    clear hm hx hQ hZ hzz hR hk X0 X2 hZl NR NQ NZ
    go_wp2_with fail
    rw [← HWR]
    have HWR' := Lib.hid HWR
    clear HWR
    go_quiet (fail)
    go_wp2
    go_loopw [9] (fun i wr' => ∃ q m : Nat, q ≤ L0 ∧ i = .int .i64 q ∧ wr' = wr.drewN m) (fun i _ => L0 - (intOf i).toNat)
    case atStart => exact ⟨0, nq, Nat.zero_le _, rfl, rfl⟩
    case round =>
      obtain ⟨q, m, hq, rfl, rfl⟩ := hrel
      by_cases hlt : q < L0
      · have q4 : (q : Int) < L0 := by omega
        have q5 : (q : Int) ≤ 9223372036854775806 := by omega
        by_cases hj : q = j
        · subst hj
          go_wp2
          go_quiet (fail)
          go_wp2
          go_roundw
          case rel => exact ⟨q + 1, m + nq, by omega, by go_num, rfl⟩
          case measure => simp [intOf]; omega
        · have h1' := HM.out q hlt
          have h2' := HX.out q hlt
          rw [haway.out q hj] at h2'
          obtain ⟨y, hy⟩ : ∃ y, y = z0.getD q 0 := ⟨_, rfl⟩
          rw [← hy] at h1' h2'
          have hne : ((q : Int) != (j : Int)) = true := by simp; omega
          clear hj hy hmj hxj
          go_wp2
          go_quiet (fail)
          go_wp2
          go_roundw
          case rel => exact ⟨q + 1, m + nq, by omega, by go_num, rfl⟩
          case measure => simp [intOf]; omega
      · obtain rfl : q = L0 := by omega
        have hz := HZ.out
        have hq := HQ.out
        have hr := HR.out
        have hw := HZZ.out
        have WR : Hid (∀ m, Below w.heap.size w (wr.drewN m)) := Lib.hid (fun m => below_drewN BR.out m)
        have hok : ∀ k', Q = appOk k' j o z0 → Q = (!(k' == 3) || R == o) := fun k' h => by rw [h]; unfold appOk; rw [Int.toNat_natCast, ← hr]
        rcases (show (k = 1 ∧ Q = true ∧ zz = R) ∨ ((k == 1) = false ∧ (k != 3) = true ∧ Q = true) ∨ (k = 3 ∧ Q = true ∧ R = o) ∨ (k = 3 ∧ Q = false ∧ zz = R ∧ R ≠ o) by
          rcases HK.out with rfl | rfl | rfl | rfl
          · exact Or.inl ⟨rfl, by rw [hok _ hq]; rfl, by rw [hw, hz, appZ_one, hr]⟩
          · exact Or.inr (Or.inl ⟨rfl, rfl, by rw [hok _ hq]; rfl⟩)
          · by_cases ho : R = o
            · exact Or.inr (Or.inr (Or.inl ⟨rfl, by rw [hok _ hq]; simp [ho], ho⟩))
            · refine Or.inr (Or.inr (Or.inr ⟨rfl, by rw [hok _ hq]; simp [ho], ?_, ho⟩))
              rw [hw, hz, hr]; unfold appZ; rw [Int.toNat_natCast, ← hr, if_neg (by simp [ho]), if_neg (by decide), ← hr]
          · exact Or.inr (Or.inl ⟨rfl, rfl, by rw [hok _ hq]; rfl⟩)) with ⟨rfl, rfl, rfl⟩ | ⟨t4, t3, rfl⟩ | ⟨rfl, rfl, rfl⟩ | ⟨rfl, rfl, rfl, h3⟩
        · clear hok hz hq hr hw HZ HQ HR HZZ HK
          go_wp2
          go_quiet (fail)
          go_wp2
          go_ret
          exact ⟨rfl, by first | exact WR.out _ | (rw [World.drewN_drewN]; exact WR.out _)⟩
        · clear hok hz hq hr hw HZ HQ HR HZZ HK
          go_wp2
          go_quiet (fail)
          go_wp2
          go_ret
          exact ⟨rfl, by first | exact WR.out _ | (rw [World.drewN_drewN]; exact WR.out _)⟩
        · clear hok hz hq hr hw HZ HQ HR HZZ HK
          go_wp2
          go_quiet (fail)
          go_wp2
          go_ret
          exact ⟨rfl, by first | exact WR.out _ | (rw [World.drewN_drewN]; exact WR.out _)⟩
        · have t4 : (zz == o) = false := by simp [h3]
          clear hok hz hq hr hw HZ HQ HR HZZ HK h3
          go_wp2
          go_quiet (fail)
          go_wp2
          go_ret
          exact ⟨rfl, by first | exact WR.out _ | (rw [World.drewN_drewN]; exact WR.out _)⟩
  · have h1 : (E != 0) = true := by simp [hE]
    have hE2 : chk z0.length k c o n b ≠ 0 := by rw [← NL.out, ← NE.out]; exact hE
    have hR : R = 0 := by rw [NR.out]; unfold doR; rw [if_neg hE2]
    have hQ : Q = false := by rw [NQ.out]; unfold doOk; rw [if_neg hE2]
    have hZ : Z = z0 := by rw [NZ.out]; unfold doZ; rw [if_neg hE2]
    subst hR hQ hZ
    have hE8 : E = 1 ∨ (E = 8 ∧ (L0 : Int) ≤ c) := by
      have h := NE.out
      unfold chk at h
      split at h
      · split at h
        · exact Or.inr ⟨h, by assumption⟩
        · exact absurd h hE
      · exact Or.inl h
    clear hE hE2 NR NQ NE
    have hre : ∀ w, (binOp .eql 29 (.agg #[.int .i64 0, .bool false]) (.agg #[.int .i64 0, .bool false])).run Try.prog w = .ok (.bool true) w := fun w => by rw [res_eql]; simp
    go_wp2_with fail
    refine (rsame_any _ _ _ _ _ X2.out X0.out).mono ?_
    rintro e w4 ⟨rfl, hb4⟩
    have e0 := cell_below hb4 c0
    have e3 := cell_below hb4 c3
    have e7 := cell_below hb4 c7
    have e8 := cell_below hb4 c8
    have e9 := cell_below hb4 c9
    have B4 : Hid (Below w.heap.size w w4) := Lib.hid (BR.out.trans (hb4.mono BR.out.size))
    clear hb4 c0 c2 c3 c4 c5 c6 c7 c8 c9 X0 X2 BR
    rcases hE8 with rfl | ⟨rfl, hLc⟩
    all_goals go_wp2_with fail
    all_goals go_ret
    all_goals exact ⟨rfl, B4.out⟩

theorem own : ownKnob Try.prog.godebug = none := by kernel_rfl
theorem laidOut : laidOutB Try.prog = true := by kernel_rfl

set_option maxRecDepth 100000 in
theorem lifted (os : Os) (started : os.Started) (H : Type) (enc : TypeId × Value → H) :
    ReturnsInHanded {} Try.checked os 6 .any (Rows.memChangesOneCellSpec.pre6 enc Try.prog Try.f6 Rows.memChangesOneCellRow.domain false) (Rows.memChangesOneCellSpec.post enc Try.prog Try.f6 false true false false) := by
  refine returnsInHanded_of_change (C := Try.checked) own started (by kernel_rfl) Try.func6
    (ChangeSpec.witness6 (enc := enc) (C := Try.checked) false ⟨#[], #[.agg #[.slice none 0 0], .agg #[.int .i64 0, .int .i64 0, .int .i64 0, .int .i64 0, .string ByteArray.empty]], []⟩ 8 (by kernel_rfl) (by kernel_rfl) (by kernel_rfl) (by kernel_rfl)) ?_
  intro W base args ds gs before hval0 hW hcnd _
  have hval : ∀ (j : Nat) t v, Try.f6.params[j]? = some t → args[j]? = some v → Value.okWide Try.prog W .any base t v := hval0
  have hW' := hW
  obtain ⟨p, q, hA0, hV, rfl, hfz, hnd⟩ := hW
  have hA : DataW.TrodAll enc Try.prog W 0 (fun _ => true) true Try.f6.params.toList args.toList ds p := hA0
  rw [Try.params6] at hA hval
  obtain ⟨v0, vs0, d0, ds0, p0, q0, hargs, rfl, rfl, h0, r0⟩ := trodAll_cons hA
  obtain ⟨v1, vs1, d1, ds1, p1, q1, rfl, rfl, rfl, h1, r1⟩ := trodAll_cons r0
  obtain ⟨rfl, rfl, rfl⟩ := trodAll_nil r1
  obtain rfl : args = #[v0, v1] := by cases args; simp_all
  obtain ⟨rfl, rfl⟩ := trodVars_none hV
  clear hA0 hval0
  simp only [List.append_nil] at hW'
  have lt0 : ∀ x ∈ p0, x.block < W.heap.size := fun x hx => hW'.lt x (by simp [hx])
  have lt1 : ∀ x ∈ p1, x.block < W.heap.size := fun x hx => hW'.lt x (by simp [hx])
  have back0 : ∀ W', Below W.heap.size W W' → DataW.Trod enc Try.prog W' 0 (fun b => decide (b < W.heap.size)) true 24 v0 d0 p0 := fun W' hb => Below.trod laidOut (by kernel_rfl) (of_decide_eq_true (by kernel_rfl)) h0 hb lt0
  have back1 : ∀ W', Below W.heap.size W W' → DataW.Trod enc Try.prog W' 0 (fun b => decide (b < W.heap.size)) true 26 v1 d1 p1 := fun W' hb => Below.trod laidOut (by kernel_rfl) (of_decide_eq_true (by kernel_rfl)) h1 hb lt1
  obtain ⟨s0, z0, rfl, k0⟩ := open_mem (hval 0 24 v0 rfl rfl) h0
  obtain ⟨ka1, kc1, ko1, kn1, kb1, rfl, ia1, ic1, io1, in1⟩ := open_acc (hval 1 26 v1 rfl rfl) h1
  refine (walk W s0 z0 k0 ka1 kc1 ko1 kn1 kb1 ia1 ic1 io1 in1).mono fun e W' ⟨he, hg⟩ => ?_
  subst he
  exact ⟨_, rfl, _, _, _, [], _, [], hW', (trodAll_cons_mk (shut_bool Try.underlying4 _) trodAll_mk0), (trodAll_cons_mk (back0 _ hg) (trodAll_cons_mk (back1 _ hg) trodAll_mk0)), rfl, hg.frame _, fun h => by cases h⟩

theorem over : Rows.memChangesOneCellRow.holds Try.pinned (OpenSpec.ofChange Rows.memChangesOneCellSpec) :=
  OpenClaim.holds_of_wide 6 Try.f6 rfl rfl rfl rfl rfl rfl rfl ⟨rfl, rfl, rfl, rfl, rfl⟩ rfl rfl rfl rfl rfl (by kernel_rfl) Try.func6 (by kernel_rfl)
    (of_decide_eq_true (by kernel_rfl)) (by unfold Func.isWrapper; first | (rw [if_pos (by decide +kernel)]; kernel_rfl) | (rw [if_neg (by decide +kernel)]; exact ⟨rfl, rfl⟩))
    (fun os started H enc _ => lifted os started H enc)

/-- The given statement. -/
theorem proved : Rows.MemChangesOneCellSaid :=
  over
#print axioms proved
end Go.Proofs.Ytckfbcjoehjdoaa.memChangesOneCell
