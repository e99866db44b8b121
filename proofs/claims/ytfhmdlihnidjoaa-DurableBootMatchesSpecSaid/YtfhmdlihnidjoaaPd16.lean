/-
  Merged: WireJ
-/
import Derived.Test.YtfhmdlihnidjoaaRows
import Derived.Test.YtfhmdlihnidjoaaPd2
import Derived.Test.YtfhmdlihnidjoaaPd12
import Derived.Test.YtfhmdlihnidjoaaPd15
import Derived.Test.YtfhmdlihnidjoaaPd13
import Derived.Outline
namespace Go.Proofs.Ytfhmdlihnidjoaa
set_option maxRecDepth 100000
set_option linter.unusedVariables false
set_option linter.unusedSectionVars false
set_option linter.unusedSimpArgs false
set_option maxHeartbeats 4000000
open Go.ChangeShapes Go.WideShapes Go.ChangeAt Go.RowKit
theorem Qhq {w w' : World} {B e size n : Nat} {v : Value} {xs : List Value} (h : w.ownsRow B e size v n xs) (hb : Below w.heap.size w w') : w'.ownsRow B e size v n xs := by
  have hlt := World.ownsRow.lt h
  obtain ⟨h1, h2⟩ := h
  refine ⟨h1, ?_⟩
  rcases h2 with h2 | ⟨g, cap, cur, rfl, hB, hh, r⟩
  · exact Or.inl h2
  · exact Or.inr ⟨g, cap, cur, rfl, hB, (hb.block g (hlt g rfl).2).trans hh, r⟩
theorem QfM (v : Value) (l : List Nat) (hl : ∀ b ∈ l, b < 256) (hlen : l.length ≤ 1000000) (w : World) (hv : Qej w v l) : Calls Try.prog 81 #[v] w (NumsW w l) := by
  obtain ⟨i0, hi, hz0, hz1, hz2⟩ := info_parts Qgt
  have HV := Lib.hid hv
  have HL := Lib.hid hl
  obtain ⟨a, cap, rfl, hll, _⟩ := hv
  obtain ⟨L, hL⟩ : ∃ L, L = l.length := ⟨_, rfl⟩
  rw [← hL] at hll HV hlen ⊢
  have NL := Lib.hid hL
  clear hL hl
  obtain ⟨_, l2, l3, _⟩ := hll
  cases hd : dec l with
  | none =>
    have HD : Hid (Qbq l = .tuple #[.int .i64 0, .int .i64 0, .int .i64 3]) := Lib.hid (by unfold Qbq; rw [hd])
    have HN : Hid (QaA l = none) := Lib.hid (by unfold QaA; rw [hd])
    clear hd
    go_enter Try.func81, Try.ntmps81
    go_wp2_with fail
    ((with_reducible refine (Qdw _ l HL.out _ HV.out).mono ?_); rintro e w' ⟨rfl, hb⟩)
    have HB := Lib.hid hb
    clear hb
    rw [HD.out]
    go_wp2
    go_ret3
    refine ⟨HB.out, ?_⟩
    rw [HN.out]
    rfl
  | some x =>
    obtain ⟨c, k⟩ := x
    have HD : Hid (Qbq l = .tuple #[.int .i64 c, .int .i64 (k : Int), .int .i64 0]) := Lib.hid (by unfold Qbq; rw [hd])
    have hs := QdC HL.out hd
    rw [← NL.out] at hs
    have hci := hs.1
    unfold I64 at hci
    obtain ⟨hci1, hci2⟩ := hci
    have HKL : Hid (k ≤ L) := Lib.hid hs.2.2.2
    clear hs
    by_cases hneg : c < 0
    · have HN : Hid (QaA l = none) := Lib.hid (by unfold QaA; rw [hd]; simp only; rw [if_pos hneg])
      clear hd
      go_enter Try.func81, Try.ntmps81
      go_wp2_with fail
      ((with_reducible refine (Qdw _ l HL.out _ HV.out).mono ?_); rintro e w' ⟨rfl, hb⟩)
      have HB := Lib.hid hb
      clear hb
      rw [HD.out]
      go_wp2
      go_ret3
      refine ⟨HB.out, ?_⟩
      rw [HN.out]
      rfl
    · obtain ⟨C, rfl⟩ := Int.eq_ofNat_of_zero_le (show 0 ≤ c by omega)
      have HN1 : Hid (QaA l = match QaY C (l.drop k) with | none => none | some (ns, u) => some (ns, k + u)) := Lib.hid (by
        unfold QaA; rw [hd]; simp only; rw [if_neg hneg]; rfl)
      have HC63 : Hid ((C : Int) ≤ 9223372036854775807) := Lib.hid hci2
      clear hd hneg hci1 hci2
      go_enter Try.func81, Try.ntmps81
      go_wp2_with fail
      ((with_reducible refine (Qdw _ l HL.out _ HV.out).mono ?_); rintro e w1 ⟨rfl, hb⟩)
      have HB1 := Lib.hid hb
      clear hb
      rw [HD.out]
      go_wp2
      go_loopw [8, 6, 9] (fun v t i wr => ∃ (j : Nat) (ns : List Int) (u : Nat), j ≤ C ∧ i = .int .i64 j ∧ t = .int .i64 ((k + u : Nat) : Int) ∧ Hid (QaY j (l.drop k) = some (ns, u)) ∧ Hid (wr.ownsRow w.heap.size 3 1 v j (ns.map (Value.int .i64))) ∧ Hid (Below w.heap.size w wr)) (fun _ _ i _ => C - (intOf i).toNat)
      case atStart => exact ⟨0, [], 0, Nat.zero_le _, rfl, rfl, Lib.hid rfl, Lib.hid (World.ownsRow_nil _ _ _ _), HB1⟩
      case round =>
        obtain ⟨j, ns, u, hj, rfl, rfl, hdm, hown, hbw⟩ := hrel
        have hU := Qb5 (fun b hb => HL.out b (List.mem_of_mem_drop hb)) hdm.out
        rw [List.length_drop, ← NL.out] at hU
        obtain ⟨t, ht⟩ : ∃ t, t = k + u := ⟨_, rfl⟩
        have hku : t ≤ L := by have := HKL.out; omega
        have HNL : Hid (ns.length = j) := Lib.hid hU.1
        have hjL : j ≤ 1000000 := by omega
        rw [← ht]
        have HT := Lib.hid ht
        have t1 : (t : Int) ≤ cap := by omega
        have t2 : (t : Int) ≤ L := by omega
        clear hU ht
        by_cases hlt : j < C
        · have HX := Lib.hid (Qfk (Qbp HV.out hbw.out) hku)
          have HXB : Hid (∀ b ∈ l.drop t, b < 256) := Lib.hid (fun b hb => HL.out b (List.mem_of_mem_drop hb))
          cases hd2 : dec (l.drop t) with
          | none =>
            have HD2 : Hid (Qbq (l.drop t) = .tuple #[.int .i64 0, .int .i64 0, .int .i64 3]) := Lib.hid (by unfold Qbq; rw [hd2])
            have HN : Hid (QaA l = none) := Lib.hid (by
              rw [HN1.out]
              have h1 : QaY (j + 1) (l.drop k) = none := by unfold QaY; rw [hdm.out]; simp only; rw [List.drop_drop, ← HT.out, hd2]
              have h2 := QeH h1 (C - (j + 1))
              rw [show j + 1 + (C - (j + 1)) = C by omega] at h2
              rw [h2])
            clear hd2
            by_cases hcap : cap = t
            · obtain rfl : L = t := by omega
              subst hcap
              simp only [if_true, Nat.sub_self] at HX
              go_wp2_with fail
              ((with_reducible refine (Qdw _ _ HXB.out _ HX.out).mono ?_); rintro e w3 ⟨rfl, hb3⟩)
              have HB3 := Lib.hid (hbw.out.trans (hb3.mono hbw.out.size))
              clear hb3
              rw [HD2.out]
              go_wp2
              go_ret3
              refine ⟨HB3.out, ?_⟩
              rw [HN.out]
              rfl
            · rw [if_neg hcap] at HX
              go_wp2_with fail
              ((with_reducible refine (Qdw _ _ HXB.out _ HX.out).mono ?_); rintro e w3 ⟨rfl, hb3⟩)
              have HB3 := Lib.hid (hbw.out.trans (hb3.mono hbw.out.size))
              clear hb3
              rw [HD2.out]
              go_wp2
              go_ret3
              refine ⟨HB3.out, ?_⟩
              rw [HN.out]
              rfl
          | some y =>
            obtain ⟨n, k'⟩ := y
            have hs3 := QdC HXB.out hd2
            rw [List.length_drop, ← NL.out] at hs3
            have hk' : t + k' ≤ L := by omega
            have hk'' : (t : Int) + k' ≤ 1000000 := by omega
            have hcap : ¬ cap = t := by omega
            rw [if_neg hcap] at HX
            have HD2 : Hid (Qbq (l.drop t) = .tuple #[.int .i64 n, .int .i64 (k' : Int), .int .i64 0]) := Lib.hid (by unfold Qbq; rw [hd2])
            have HM : Hid (QaY (j + 1) (l.drop k) = some (ns ++ [n], u + k')) := Lib.hid (by unfold QaY; rw [hdm.out]; simp only; rw [List.drop_drop, ← HT.out, hd2])
            clear hd2 hs3
            go_wp2_with fail
            ((with_reducible refine (Qdw _ _ HXB.out _ HX.out).mono ?_); rintro e w3 ⟨rfl, hb3⟩)
            have HB3 := Lib.hid (hbw.out.trans (hb3.mono hbw.out.size))
            have HO3 : Hid (w3.ownsRow w.heap.size 3 1 _ j (ns.map (Value.int .i64))) := Lib.hid (Qhq hown.out hb3)
            clear hb3
            rw [HD2.out]
            go_wp2_with (first
              | (at_builtin; refine wpList_append_own _ rfl _ _ 26 rfl w.heap.size 3 i0 (.int .i64 0) 1 8 Try.underlying26 hi hz0 hz1 hz2 rfl (by decide) _ _ _ rfl (World.ownsRow.alloc HO3.out _) ⟨w3.heap.size, 0, none⟩ 1 1 [.int .i64 n] rfl rfl (fun j u hj => QbX j u hj) (by intro u hu; simp at hu; subst hu; rfl) (by unfold maxLen; omega) (by omega) (by have := HB3.out.size; simp; omega) ?_; intro v' w4 hown' hgrow' _))
            have HB4 := Lib.hid ((HB3.out.alloc HB3.out.size _).grown hgrow' (by have := HB3.out.size; simp; omega) (fun j hj => (HO3.out.lt j hj).1))
            have HO4 : Hid (w4.ownsRow w.heap.size 3 1 v' (j + 1) ((ns ++ [n]).map (Value.int .i64))) := Lib.hid (by rw [List.map_append]; exact hown')
            clear hown' hgrow'
            go_roundw
            case rel => exact ⟨j + 1, ns ++ [n], u + k', by omega, by go_num, Qiw (by have := HT.out; omega), HM, HO4, HB4⟩
            case measure => simp [intOf]; omega
        · obtain rfl : j = C := by omega
          have HN : Hid (QaA l = some (ns, t)) := Lib.hid (by rw [HN1.out, hdm.out, HT.out])
          go_wp2
          go_ret3
          refine ⟨hbw.out, ?_⟩
          rw [HN.out]
          refine ⟨_, rfl, QbO (B := w.heap.size) ?_, fun g hg => (hown.out.lt g hg).1⟩
          rw [HNL.out]
          exact hown.out
end Go.Proofs.Ytfhmdlihnidjoaa
