/-
  Merged: WireD
-/
import Derived.Test.YtfhmdlihnidjoaaRows
import Derived.Test.YtfhmdlihnidjoaaPd2
import Derived.Test.YtfhmdlihnidjoaaPd12
import Derived.Deep.RegionHeld3
namespace Go.Proofs.Ytfhmdlihnidjoaa
set_option linter.unusedSectionVars false
set_option maxRecDepth 100000
set_option linter.unusedVariables false
set_option linter.unusedSimpArgs false
set_option maxHeartbeats 8000000
open Go.ChangeShapes Go.WideShapes Go.ChangeAt Go.RowKit
def num : List Nat → Nat
  | [] => 0
  | b :: r => b % 128 + 128 * num r
theorem num_snoc (p : List Nat) (x : Nat) (hp : ∀ b ∈ p, 128 ≤ b) (hp2 : ∀ b ∈ p, b < 256) (hx : x < 128) : num (p ++ [x]) = low p + 128 ^ p.length * x := by
  induction p with
  | nil => simp [num, low]; omega
  | cons b p ih =>
    have h1 := ih (fun y hy => hp y (List.mem_cons_of_mem _ hy)) (fun y hy => hp2 y (List.mem_cons_of_mem _ hy))
    have h2 := hp b (by simp)
    have h3 := hp2 b (by simp)
    simp only [List.cons_append, num, low, h1, List.length_cons, Nat.pow_succ]
    rw [Nat.mul_add, Nat.mul_comm (128 ^ p.length) 128, Nat.mul_assoc 128]; omega
theorem dec_test (l : List Nat) (k : Nat) (hl : ∀ b ∈ l, b < 256) (hk : k < l.length) (hp : ∀ b ∈ l.take k, 128 ≤ b) (hx : l.getD k 0 < 128) :
    dec l = if enc (QdT (num (l.take (k + 1)) % 18446744073709551616)) = l.take (k + 1) then some (QdT (num (l.take (k + 1)) % 18446744073709551616), k + 1) else none := by
  have hL := QkT l k hk
  have hS := QcK l k hk
  have hlen : (l.take k).length = k := by rw [List.length_take]; omega
  have hN := num_snoc (l.take k) (l.getD k 0) hp (fun b hb => hl b (List.mem_of_mem_take hb)) hx
  rw [← hS, hlen] at hN
  have hD := QhP (l.take k) (l.getD k 0) (l.drop (k + 1)) hp hx
  rw [← hL, hlen] at hD
  have hI : I64 (QdT (num (l.take (k + 1)) % 18446744073709551616)) := Qf8 (Nat.mod_lt _ (by decide))
  by_cases hc : (l.getD k 0 = 0 ∧ l.take k ≠ []) ∨ 18446744073709551616 ≤ low (l.take k) + 128 ^ k * l.getD k 0
  · rw [if_pos hc] at hD
    rw [hD, if_neg]
    intro he
    have h := QhQ hI (l.drop (k + 1))
    rw [he, List.take_append_drop, hD] at h
    cases h
  · rw [if_neg hc] at hD
    have hlt : low (l.take k) + 128 ^ k * l.getD k 0 < 18446744073709551616 := by
      apply Nat.lt_of_not_le; intro h; exact hc (Or.inr h)
    rw [hN, Nat.mod_eq_of_lt hlt, hD, if_pos]
    exact (QdC hl hD).2.1.symm
def GotW (w : World) (l : List Nat) (e : Ending) (w' : World) : Prop := e = .returned (Qbq l) ∧ Below w.heap.size w w'
theorem Qiw {k : IntKind} {a b : Int} (h : a = b) : Value.int k a = .int k b := by rw [h]
theorem cont {P G : Prop} (h : P) (k : P → G) : G := k h
theorem Qi4 (u : Nat) : (u % 2 = 0 ∧ QdT u = ((u / 2 : Nat) : Int)) ∨ (u % 2 = 1 ∧ QdT u = -((u / 2 : Nat) : Int) - 1) := by
  unfold QdT
  by_cases h : u % 2 = 0
  · left; rw [if_pos h]; exact ⟨h, rfl⟩
  · right; rw [if_neg h]; exact ⟨by omega, rfl⟩
theorem Qdw (v : Value) (l : List Nat) (hl : ∀ b ∈ l, b < 256) (w : World) (hv : Qej w v l) : Calls Try.prog 86 #[v] w (GotW w l) := by
  have HV0 := Lib.hid hv
  obtain ⟨a, cap, rfl, hll, hc⟩ := hv
  have HC := Lib.hid hc
  have HL := Lib.hid hl
  clear hc hl
  obtain ⟨L, hL⟩ : ∃ L, L = l.length := ⟨_, rfl⟩
  rw [← hL] at HC hll HV0 ⊢
  have HV := HV0
  have NL := Lib.hid hL
  clear hL HV0
  go_enter Try.func86, Try.ntmps86
  go_wp2
  go_loopw [6] (fun i wr => ∃ k n : Nat, k ≤ L ∧ k ≤ 10 ∧ i = .int .i64 k ∧ wr = w.drewN n ∧ Hid (∀ b ∈ l.take k, 128 ≤ b)) (fun i _ => 10 - (intOf i).toNat)
  case atStart => exact ⟨0, 0, Nat.zero_le _, by omega, rfl, rfl, Lib.hid (by simp)⟩
  case round =>
    obtain ⟨k, n, hk, hk10, rfl, rfl, hmore⟩ := hrel
    by_cases hgo : k < L ∧ k < 10 ∧ 128 ≤ l.getD k 0
    · obtain ⟨hlt, hlt10, hbig⟩ := hgo
      rcases HC.out with hc | ⟨b, o, rfl, hc⟩
      · omega
      have h1 := hc k hlt
      obtain ⟨x, hx⟩ : ∃ x, x = l.getD k 0 := ⟨_, rfl⟩
      rw [← hx] at h1 hbig
      have HX := Lib.hid hx
      have L2 : Hid (∀ b ∈ l.take (k + 1), 128 ≤ b) := Lib.hid (by
        rw [QcK l k (by rw [← NL.out]; exact hlt), ← hx]; intro b hb
        rcases List.mem_append.1 hb with hb | hb
        · exact hmore.out b hb
        · simp at hb; omega)
      clear hc hx
      go_wp2
      go_roundw
      case rel => exact ⟨k + 1, n, by omega, by omega, by go_num, rfl, L2⟩
      case measure => simp [intOf]; omega
    · by_cases hend : k = L ∨ k = 10
      · have HD : Hid (Qbq l = .tuple #[.int .i64 0, .int .i64 0, .int .i64 3]) := Lib.hid (by
          have hd : dec l = none := by
            by_cases h10 : k = 10
            · have h := QhO (l.take k) (l.drop k) hmore.out (by rw [List.length_take, ← NL.out]; omega)
              rwa [List.take_append_drop] at h
            · have hkL : k = l.length := by rw [← NL.out]; omega
              have h := QiP (l.take k) hmore.out
              rwa [hkL, List.take_length] at h
          unfold Qbq; rw [hd])
        clear hmore hgo
        rcases (by omega : k = L ∨ (k < L ∧ k = 10)) with rfl | ⟨h1, rfl⟩
        all_goals go_wp2
        all_goals go_ret3
        all_goals exact ⟨by rw [HD.out]; first | done | rfl, Qa0 (Below.refl _ _) n⟩
      · have hlt : k < L := by omega
        have hlt10 : k < 10 := by omega
        have hsm : l.getD k 0 < 128 := by
          by_cases h : 128 ≤ l.getD k 0
          · exact absurd ⟨hlt, hlt10, h⟩ hgo
          · omega
        have KL : k < l.length := by rw [← NL.out]; exact hlt
        rcases HC.out with hc | ⟨b, o, rfl, hc⟩
        · omega
        have h1 := hc k hlt
        have HCC := Lib.hid hc
        have HT := Lib.hid (dec_test l k HL.out KL hmore.out hsm)
        obtain ⟨x, hx⟩ : ∃ x, x = l.getD k 0 := ⟨_, rfl⟩
        rw [← hx] at h1 hsm
        have HX := Lib.hid hx
        have hkL : ((k : Int) == L) = false := by simp; omega
        have hk10' : ((k : Int) == 10) = false := by simp; omega
        clear hc hx hgo hend
        go_wp2
        obtain ⟨wl, hwl⟩ : ∃ wl, wl = w.drewN n := ⟨_, rfl⟩
        go_loop [5, 7] (fun u i => ∃ m : Nat, m ≤ k + 1 ∧ i = .int .i64 ((m : Int) - 1) ∧ u = .int .u64 ((num ((l.take (k + 1)).drop m) % 18446744073709551616 : Nat) : Int)) (fun _ i => (intOf i + 1).toNat)
        case atStart => exact ⟨k + 1, Nat.le_refl _, Qiw (by omega), by rw [List.drop_eq_nil_of_le (by rw [List.length_take]; omega)]; rfl⟩
        case round =>
          obtain ⟨m, hm, rfl, rfl⟩ := hrel
          match m with
          | 0 => 
            rw [show ((0 : Nat) : Int) - 1 = -1 by rfl, List.drop_zero]
            obtain ⟨V, hV⟩ : ∃ V, V = num (l.take (k + 1)) % 18446744073709551616 := ⟨_, rfl⟩
            rw [← hV] at HT ⊢
            have V1 : V < 18446744073709551616 := by rw [hV]; exact Nat.mod_lt _ (by decide)
            have V2 : Hid (I64 (QdT V)) := Lib.hid (Qf8 V1)
            have Q1 : Hid (IntKind.u64.wrap ((V : Int) / 2) = ((V / 2 : Nat) : Int)) := Lib.hid (by rw [IntKind.wrap_u64]; omega)
            have hb63 : ((V / 2 : Nat) : Int) ≤ 9223372036854775807 := by omega
            obtain ⟨Y, hY⟩ : ∃ Y, Y = V / 2 := ⟨_, rfl⟩
            have UC := Qi4 V
            rw [← hY] at Q1 hb63 UC
            obtain ⟨NN, hNN⟩ : ∃ NN, NN = QdT V := ⟨_, rfl⟩
            rw [← hNN] at V2 HT UC
            have HI := V2
            clear hV V1 hNN hY
            rcases UC with ⟨hp, hq⟩ | ⟨hp, hq⟩
            · have p1 : (V : Int) % 2 = 0 := by omega
              have Q2 : Hid (wrap64 (Y : Int) = NN) := Lib.hid (by rw [hq]; unfold wrap64; omega)
              have s1 : (k : Int) + 1 ≤ cap := by omega
              have s3 : ((k : Int) + 1).toNat = k + 1 := by omega
              have s4 : 0 ≤ (k : Int) + 1 := by omega
              have s5 : k + 1 ≤ L := by omega
              have S2 : Hid (IntKind.i64.wrap ((k : Int) + 1) = (k : Int) + 1) := Lib.hid (by rw [IntKind.wrap_i64]; omega)
              have q1 := Q1.out
              have q2 := Q2.out
              have s2 := S2.out
              clear hq hp hb63
              go_wp2
              cases htb : decide (enc NN = l.take (k + 1))
              · have HTB := Lib.hid htb
                have HD : Hid (Qbq l = .tuple #[.int .i64 0, .int .i64 0, .int .i64 3]) := Lib.hid (by unfold Qbq; rw [HT.out, if_neg (of_decide_eq_false htb)])
                clear htb
                refine wp_region_held_drew (S := (fun _ => True)) (by kernel_rfl) ?_ (fun hHeld => ?_)
                · (try dsimp only); first | done | exact trivial
                first | (refine wpAnyH_take (i := 0) (oi := ?oi29) (v := ?v29) ?hi29 (by kernel_rfl) (by kernel_rfl) (by kernel_rfl) ?hQ29 (Or.inl ⟨?hw29, ?hy29⟩) (by assumption) ?rest29; (case hi29 => (simp only [List.getElem?_toArray, List.getElem?_cons_zero]; rfl)); (case hQ29 => exact fun _ _ _ h => h); (case hw29 => rfl); (case hy29 => ((intro w hSw); (try dsimp only at hSw); go_simp; (try with_reducible rfl)))) | (refine wpAnyH_take (i := 0) (oi := ?oi30) (v := undef) ?hi30 (by kernel_rfl) (by kernel_rfl) (by kernel_rfl) ?hQ30 (Or.inr ⟨?hw30, rfl⟩) (by assumption) ?rest30; (case hi30 => (simp only [List.getElem?_toArray, List.getElem?_cons_zero]; rfl)); (case hQ30 => exact fun _ _ _ h => h); (case hw30 => rfl))
                (try simp only [Act.put, List.setIfInBounds_toArray, List.set_cons_zero, List.set_cons_succ])
                first | (refine wpAnyH_take (i := 2) (oi := ?oi31) (v := ?v31) ?hi31 (by kernel_rfl) (by kernel_rfl) (by kernel_rfl) ?hQ31 (Or.inl ⟨?hw31, ?hy31⟩) (by assumption) ?rest31; (case hi31 => (simp only [List.getElem?_toArray, List.getElem?_cons_succ, List.getElem?_cons_zero]; rfl)); (case hQ31 => exact fun _ _ _ h => h); (case hw31 => rfl); (case hy31 => ((intro w hSw); (try dsimp only at hSw); go_simp; (try with_reducible rfl)))) | (refine wpAnyH_take (i := 2) (oi := ?oi32) (v := undef) ?hi32 (by kernel_rfl) (by kernel_rfl) (by kernel_rfl) ?hQ32 (Or.inr ⟨?hw32, rfl⟩) (by assumption) ?rest32; (case hi32 => (simp only [List.getElem?_toArray, List.getElem?_cons_succ, List.getElem?_cons_zero]; rfl)); (case hQ32 => exact fun _ _ _ h => h); (case hw32 => rfl))
                (try simp only [Act.put, List.setIfInBounds_toArray, List.set_cons_zero, List.set_cons_succ])
                first | (refine wpAnyH_take (i := 3) (oi := ?oi33) (v := ?v33) ?hi33 (by kernel_rfl) (by kernel_rfl) (by kernel_rfl) ?hQ33 (Or.inl ⟨?hw33, ?hy33⟩) (by assumption) ?rest33; (case hi33 => (simp only [List.getElem?_toArray, List.getElem?_cons_succ, List.getElem?_cons_zero]; rfl)); (case hQ33 => exact fun _ _ _ h => h); (case hw33 => rfl); (case hy33 => ((intro w hSw); (try dsimp only at hSw); go_simp; (try with_reducible rfl)))) | (refine wpAnyH_take (i := 3) (oi := ?oi34) (v := undef) ?hi34 (by kernel_rfl) (by kernel_rfl) (by kernel_rfl) ?hQ34 (Or.inr ⟨?hw34, rfl⟩) (by assumption) ?rest34; (case hi34 => (simp only [List.getElem?_toArray, List.getElem?_cons_succ, List.getElem?_cons_zero]; rfl)); (case hQ34 => exact fun _ _ _ h => h); (case hw34 => rfl))
                (try simp only [Act.put, List.setIfInBounds_toArray, List.set_cons_zero, List.set_cons_succ])
                first | (refine wpAnyH_take (i := 4) (oi := ?oi35) (v := ?v35) ?hi35 (by kernel_rfl) (by kernel_rfl) (by kernel_rfl) ?hQ35 (Or.inl ⟨?hw35, ?hy35⟩) (by assumption) ?rest35; (case hi35 => (simp only [List.getElem?_toArray, List.getElem?_cons_succ, List.getElem?_cons_zero]; rfl)); (case hQ35 => exact fun _ _ _ h => h); (case hw35 => rfl); (case hy35 => ((intro w hSw); (try dsimp only at hSw); go_simp; (try with_reducible rfl)))) | (refine wpAnyH_take (i := 4) (oi := ?oi36) (v := undef) ?hi36 (by kernel_rfl) (by kernel_rfl) (by kernel_rfl) ?hQ36 (Or.inr ⟨?hw36, rfl⟩) (by assumption) ?rest36; (case hi36 => (simp only [List.getElem?_toArray, List.getElem?_cons_succ, List.getElem?_cons_zero]; rfl)); (case hQ36 => exact fun _ _ _ h => h); (case hw36 => rfl))
                (try simp only [Act.put, List.setIfInBounds_toArray, List.set_cons_zero, List.set_cons_succ])
                first | (refine wpAnyH_take (i := 5) (oi := ?oi37) (v := ?v37) ?hi37 (by kernel_rfl) (by kernel_rfl) (by kernel_rfl) ?hQ37 (Or.inl ⟨?hw37, ?hy37⟩) (by assumption) ?rest37; (case hi37 => (simp only [List.getElem?_toArray, List.getElem?_cons_succ, List.getElem?_cons_zero]; rfl)); (case hQ37 => exact fun _ _ _ h => h); (case hw37 => rfl); (case hy37 => ((intro w hSw); (try dsimp only at hSw); go_simp; (try with_reducible rfl)))) | (refine wpAnyH_take (i := 5) (oi := ?oi38) (v := undef) ?hi38 (by kernel_rfl) (by kernel_rfl) (by kernel_rfl) ?hQ38 (Or.inr ⟨?hw38, rfl⟩) (by assumption) ?rest38; (case hi38 => (simp only [List.getElem?_toArray, List.getElem?_cons_succ, List.getElem?_cons_zero]; rfl)); (case hQ38 => exact fun _ _ _ h => h); (case hw38 => rfl))
                (try simp only [Act.put, List.setIfInBounds_toArray, List.set_cons_zero, List.set_cons_succ])
                refine wpAnyH_ready (rs := [1]) (by kernel_rfl) (by simp) ?_
                refine AllReadyH.cons (o := ?oi39) ?hi39 (fun K hK => ?rest39) AllReadyH.nil
                (case hi39 => (simp only [List.getElem?_toArray, List.getElem?_cons_succ, List.getElem?_cons_zero]; rfl))
                go_simp
                ((with_reducible refine (Qdv _ HI.out _).mono ?_))
                rintro e w2 ⟨vp, rfl, hvp, hb⟩
                refine cont (show Hid (Below w.heap.size w w2) ∧ Hid (Qei w2 w.heap.size vp (enc NN)) from ⟨Lib.hid ((Qa0 (Below.refl _ _) (n + 1)).trans hb), Lib.hid hvp⟩) ?_
                clear hvp hb; rintro ⟨HB2, HP2⟩
                go_wp2_with fail
                refine hK.out _ _ ?_ (fun hHeld => ?_)
                · (try dsimp only); first | done | exact trivial
                clear hK K
                (try simp only [Act.put, List.setIfInBounds_toArray, List.set_cons_zero, List.set_cons_succ])
                refine wpAnyH_ready (rs := [6]) (by kernel_rfl) (by simp) ?_
                refine AllReadyH.cons (o := ?oi40) ?hi40 (fun K hK => ?rest40) AllReadyH.nil
                (case hi40 => (simp only [List.getElem?_toArray, List.getElem?_cons_succ, List.getElem?_cons_zero]; rfl))
                go_simp
                ((with_reducible refine (Qdu _ _ (enc NN) (l.take (k + 1)) _ (Qa9 HP2.out) (Qdl (Qbp HV.out HB2.out) s5)).mono ?_))
                rintro e w3 ⟨rfl, n3, rfl⟩
                rw [HTB.out]
                go_wp2_with fail
                refine hK.out _ _ ?_ (fun hHeld => ?_)
                · (try dsimp only); first | done | exact trivial
                clear hK K
                (try simp only [Act.put, List.setIfInBounds_toArray, List.set_cons_zero, List.set_cons_succ])
                first | (refine wpAnyH_take (i := 7) (oi := ?oi41) (v := ?v41) ?hi41 (by kernel_rfl) (by kernel_rfl) (by kernel_rfl) ?hQ41 (Or.inl ⟨?hw41, ?hy41⟩) (by assumption) ?rest41; (case hi41 => (simp only [List.getElem?_toArray, List.getElem?_cons_succ, List.getElem?_cons_zero]; rfl)); (case hQ41 => exact fun _ _ _ h => h); (case hw41 => rfl); (case hy41 => ((intro w hSw); (try dsimp only at hSw); go_simp; (try with_reducible rfl)))) | (refine wpAnyH_take (i := 7) (oi := ?oi42) (v := undef) ?hi42 (by kernel_rfl) (by kernel_rfl) (by kernel_rfl) ?hQ42 (Or.inr ⟨?hw42, rfl⟩) (by assumption) ?rest42; (case hi42 => (simp only [List.getElem?_toArray, List.getElem?_cons_succ, List.getElem?_cons_zero]; rfl)); (case hQ42 => exact fun _ _ _ h => h); (case hw42 => rfl))
                (try simp only [Act.put, List.setIfInBounds_toArray, List.set_cons_zero, List.set_cons_succ])
                refine wpAnyH_done (by kernel_rfl) ?_ _
                go_wp2
                go_ret3
                exact ⟨by rw [HD.out]; first | done | rfl, Qa0 HB2.out n3⟩
              · have HTB := Lib.hid htb
                have HD : Hid (Qbq l = .tuple #[.int .i64 NN, .int .i64 ((k + 1 : Nat) : Int), .int .i64 0]) := Lib.hid (by unfold Qbq; rw [HT.out, if_pos (of_decide_eq_true htb)])
                clear htb
                refine wp_region_held_drew (S := (fun _ => True)) (by kernel_rfl) ?_ (fun hHeld => ?_)
                · (try dsimp only); first | done | exact trivial
                first | (refine wpAnyH_take (i := 0) (oi := ?oi43) (v := ?v43) ?hi43 (by kernel_rfl) (by kernel_rfl) (by kernel_rfl) ?hQ43 (Or.inl ⟨?hw43, ?hy43⟩) (by assumption) ?rest43; (case hi43 => (simp only [List.getElem?_toArray, List.getElem?_cons_zero]; rfl)); (case hQ43 => exact fun _ _ _ h => h); (case hw43 => rfl); (case hy43 => ((intro w hSw); (try dsimp only at hSw); go_simp; (try with_reducible rfl)))) | (refine wpAnyH_take (i := 0) (oi := ?oi44) (v := undef) ?hi44 (by kernel_rfl) (by kernel_rfl) (by kernel_rfl) ?hQ44 (Or.inr ⟨?hw44, rfl⟩) (by assumption) ?rest44; (case hi44 => (simp only [List.getElem?_toArray, List.getElem?_cons_zero]; rfl)); (case hQ44 => exact fun _ _ _ h => h); (case hw44 => rfl))
                (try simp only [Act.put, List.setIfInBounds_toArray, List.set_cons_zero, List.set_cons_succ])
                first | (refine wpAnyH_take (i := 2) (oi := ?oi45) (v := ?v45) ?hi45 (by kernel_rfl) (by kernel_rfl) (by kernel_rfl) ?hQ45 (Or.inl ⟨?hw45, ?hy45⟩) (by assumption) ?rest45; (case hi45 => (simp only [List.getElem?_toArray, List.getElem?_cons_succ, List.getElem?_cons_zero]; rfl)); (case hQ45 => exact fun _ _ _ h => h); (case hw45 => rfl); (case hy45 => ((intro w hSw); (try dsimp only at hSw); go_simp; (try with_reducible rfl)))) | (refine wpAnyH_take (i := 2) (oi := ?oi46) (v := undef) ?hi46 (by kernel_rfl) (by kernel_rfl) (by kernel_rfl) ?hQ46 (Or.inr ⟨?hw46, rfl⟩) (by assumption) ?rest46; (case hi46 => (simp only [List.getElem?_toArray, List.getElem?_cons_succ, List.getElem?_cons_zero]; rfl)); (case hQ46 => exact fun _ _ _ h => h); (case hw46 => rfl))
                (try simp only [Act.put, List.setIfInBounds_toArray, List.set_cons_zero, List.set_cons_succ])
                first | (refine wpAnyH_take (i := 3) (oi := ?oi47) (v := ?v47) ?hi47 (by kernel_rfl) (by kernel_rfl) (by kernel_rfl) ?hQ47 (Or.inl ⟨?hw47, ?hy47⟩) (by assumption) ?rest47; (case hi47 => (simp only [List.getElem?_toArray, List.getElem?_cons_succ, List.getElem?_cons_zero]; rfl)); (case hQ47 => exact fun _ _ _ h => h); (case hw47 => rfl); (case hy47 => ((intro w hSw); (try dsimp only at hSw); go_simp; (try with_reducible rfl)))) | (refine wpAnyH_take (i := 3) (oi := ?oi48) (v := undef) ?hi48 (by kernel_rfl) (by kernel_rfl) (by kernel_rfl) ?hQ48 (Or.inr ⟨?hw48, rfl⟩) (by assumption) ?rest48; (case hi48 => (simp only [List.getElem?_toArray, List.getElem?_cons_succ, List.getElem?_cons_zero]; rfl)); (case hQ48 => exact fun _ _ _ h => h); (case hw48 => rfl))
                (try simp only [Act.put, List.setIfInBounds_toArray, List.set_cons_zero, List.set_cons_succ])
                first | (refine wpAnyH_take (i := 4) (oi := ?oi49) (v := ?v49) ?hi49 (by kernel_rfl) (by kernel_rfl) (by kernel_rfl) ?hQ49 (Or.inl ⟨?hw49, ?hy49⟩) (by assumption) ?rest49; (case hi49 => (simp only [List.getElem?_toArray, List.getElem?_cons_succ, List.getElem?_cons_zero]; rfl)); (case hQ49 => exact fun _ _ _ h => h); (case hw49 => rfl); (case hy49 => ((intro w hSw); (try dsimp only at hSw); go_simp; (try with_reducible rfl)))) | (refine wpAnyH_take (i := 4) (oi := ?oi50) (v := undef) ?hi50 (by kernel_rfl) (by kernel_rfl) (by kernel_rfl) ?hQ50 (Or.inr ⟨?hw50, rfl⟩) (by assumption) ?rest50; (case hi50 => (simp only [List.getElem?_toArray, List.getElem?_cons_succ, List.getElem?_cons_zero]; rfl)); (case hQ50 => exact fun _ _ _ h => h); (case hw50 => rfl))
                (try simp only [Act.put, List.setIfInBounds_toArray, List.set_cons_zero, List.set_cons_succ])
                first | (refine wpAnyH_take (i := 5) (oi := ?oi51) (v := ?v51) ?hi51 (by kernel_rfl) (by kernel_rfl) (by kernel_rfl) ?hQ51 (Or.inl ⟨?hw51, ?hy51⟩) (by assumption) ?rest51; (case hi51 => (simp only [List.getElem?_toArray, List.getElem?_cons_succ, List.getElem?_cons_zero]; rfl)); (case hQ51 => exact fun _ _ _ h => h); (case hw51 => rfl); (case hy51 => ((intro w hSw); (try dsimp only at hSw); go_simp; (try with_reducible rfl)))) | (refine wpAnyH_take (i := 5) (oi := ?oi52) (v := undef) ?hi52 (by kernel_rfl) (by kernel_rfl) (by kernel_rfl) ?hQ52 (Or.inr ⟨?hw52, rfl⟩) (by assumption) ?rest52; (case hi52 => (simp only [List.getElem?_toArray, List.getElem?_cons_succ, List.getElem?_cons_zero]; rfl)); (case hQ52 => exact fun _ _ _ h => h); (case hw52 => rfl))
                (try simp only [Act.put, List.setIfInBounds_toArray, List.set_cons_zero, List.set_cons_succ])
                refine wpAnyH_ready (rs := [1]) (by kernel_rfl) (by simp) ?_
                refine AllReadyH.cons (o := ?oi53) ?hi53 (fun K hK => ?rest53) AllReadyH.nil
                (case hi53 => (simp only [List.getElem?_toArray, List.getElem?_cons_succ, List.getElem?_cons_zero]; rfl))
                go_simp
                ((with_reducible refine (Qdv _ HI.out _).mono ?_))
                rintro e w2 ⟨vp, rfl, hvp, hb⟩
                refine cont (show Hid (Below w.heap.size w w2) ∧ Hid (Qei w2 w.heap.size vp (enc NN)) from ⟨Lib.hid ((Qa0 (Below.refl _ _) (n + 1)).trans hb), Lib.hid hvp⟩) ?_
                clear hvp hb; rintro ⟨HB2, HP2⟩
                go_wp2_with fail
                refine hK.out _ _ ?_ (fun hHeld => ?_)
                · (try dsimp only); first | done | exact trivial
                clear hK K
                (try simp only [Act.put, List.setIfInBounds_toArray, List.set_cons_zero, List.set_cons_succ])
                refine wpAnyH_ready (rs := [6]) (by kernel_rfl) (by simp) ?_
                refine AllReadyH.cons (o := ?oi54) ?hi54 (fun K hK => ?rest54) AllReadyH.nil
                (case hi54 => (simp only [List.getElem?_toArray, List.getElem?_cons_succ, List.getElem?_cons_zero]; rfl))
                go_simp
                ((with_reducible refine (Qdu _ _ (enc NN) (l.take (k + 1)) _ (Qa9 HP2.out) (Qdl (Qbp HV.out HB2.out) s5)).mono ?_))
                rintro e w3 ⟨rfl, n3, rfl⟩
                rw [HTB.out]
                go_wp2_with fail
                refine hK.out _ _ ?_ (fun hHeld => ?_)
                · (try dsimp only); first | done | exact trivial
                clear hK K
                (try simp only [Act.put, List.setIfInBounds_toArray, List.set_cons_zero, List.set_cons_succ])
                first | (refine wpAnyH_take (i := 7) (oi := ?oi55) (v := ?v55) ?hi55 (by kernel_rfl) (by kernel_rfl) (by kernel_rfl) ?hQ55 (Or.inl ⟨?hw55, ?hy55⟩) (by assumption) ?rest55; (case hi55 => (simp only [List.getElem?_toArray, List.getElem?_cons_succ, List.getElem?_cons_zero]; rfl)); (case hQ55 => exact fun _ _ _ h => h); (case hw55 => rfl); (case hy55 => ((intro w hSw); (try dsimp only at hSw); go_simp; (try with_reducible rfl)))) | (refine wpAnyH_take (i := 7) (oi := ?oi56) (v := undef) ?hi56 (by kernel_rfl) (by kernel_rfl) (by kernel_rfl) ?hQ56 (Or.inr ⟨?hw56, rfl⟩) (by assumption) ?rest56; (case hi56 => (simp only [List.getElem?_toArray, List.getElem?_cons_succ, List.getElem?_cons_zero]; rfl)); (case hQ56 => exact fun _ _ _ h => h); (case hw56 => rfl))
                (try simp only [Act.put, List.setIfInBounds_toArray, List.set_cons_zero, List.set_cons_succ])
                refine wpAnyH_done (by kernel_rfl) ?_ _
                go_wp2
                go_ret3
                exact ⟨by rw [HD.out]; first | done | rfl, Qa0 HB2.out n3⟩
            · have p1 : (V : Int) % 2 = 1 := by omega
              have Q2 : Hid (wrap64 (Y : Int) = (Y : Int)) := Lib.hid (by unfold wrap64; omega)
              have Q3 : Hid (wrap64 (-(Y : Int)) = -(Y : Int)) := Lib.hid (by unfold wrap64; omega)
              have Q4 : Hid (wrap64 (-(Y : Int) - 1) = NN) := Lib.hid (by rw [hq]; unfold wrap64; omega)
              have s1 : (k : Int) + 1 ≤ cap := by omega
              have s3 : ((k : Int) + 1).toNat = k + 1 := by omega
              have s4 : 0 ≤ (k : Int) + 1 := by omega
              have s5 : k + 1 ≤ L := by omega
              have S2 : Hid (IntKind.i64.wrap ((k : Int) + 1) = (k : Int) + 1) := Lib.hid (by rw [IntKind.wrap_i64]; omega)
              have q1 := Q1.out
              have q2 := Q2.out
              have q3 := Q3.out
              have q4 := Q4.out
              have s2 := S2.out
              clear hq hp hb63
              go_wp2
              cases htb : decide (enc NN = l.take (k + 1))
              · have HTB := Lib.hid htb
                have HD : Hid (Qbq l = .tuple #[.int .i64 0, .int .i64 0, .int .i64 3]) := Lib.hid (by unfold Qbq; rw [HT.out, if_neg (of_decide_eq_false htb)])
                clear htb
                refine wp_region_held_drew (S := (fun _ => True)) (by kernel_rfl) ?_ (fun hHeld => ?_)
                · (try dsimp only); first | done | exact trivial
                first | (refine wpAnyH_take (i := 0) (oi := ?oi57) (v := ?v57) ?hi57 (by kernel_rfl) (by kernel_rfl) (by kernel_rfl) ?hQ57 (Or.inl ⟨?hw57, ?hy57⟩) (by assumption) ?rest57; (case hi57 => (simp only [List.getElem?_toArray, List.getElem?_cons_zero]; rfl)); (case hQ57 => exact fun _ _ _ h => h); (case hw57 => rfl); (case hy57 => ((intro w hSw); (try dsimp only at hSw); go_simp; (try with_reducible rfl)))) | (refine wpAnyH_take (i := 0) (oi := ?oi58) (v := undef) ?hi58 (by kernel_rfl) (by kernel_rfl) (by kernel_rfl) ?hQ58 (Or.inr ⟨?hw58, rfl⟩) (by assumption) ?rest58; (case hi58 => (simp only [List.getElem?_toArray, List.getElem?_cons_zero]; rfl)); (case hQ58 => exact fun _ _ _ h => h); (case hw58 => rfl))
                (try simp only [Act.put, List.setIfInBounds_toArray, List.set_cons_zero, List.set_cons_succ])
                first | (refine wpAnyH_take (i := 2) (oi := ?oi59) (v := ?v59) ?hi59 (by kernel_rfl) (by kernel_rfl) (by kernel_rfl) ?hQ59 (Or.inl ⟨?hw59, ?hy59⟩) (by assumption) ?rest59; (case hi59 => (simp only [List.getElem?_toArray, List.getElem?_cons_succ, List.getElem?_cons_zero]; rfl)); (case hQ59 => exact fun _ _ _ h => h); (case hw59 => rfl); (case hy59 => ((intro w hSw); (try dsimp only at hSw); go_simp; (try with_reducible rfl)))) | (refine wpAnyH_take (i := 2) (oi := ?oi60) (v := undef) ?hi60 (by kernel_rfl) (by kernel_rfl) (by kernel_rfl) ?hQ60 (Or.inr ⟨?hw60, rfl⟩) (by assumption) ?rest60; (case hi60 => (simp only [List.getElem?_toArray, List.getElem?_cons_succ, List.getElem?_cons_zero]; rfl)); (case hQ60 => exact fun _ _ _ h => h); (case hw60 => rfl))
                (try simp only [Act.put, List.setIfInBounds_toArray, List.set_cons_zero, List.set_cons_succ])
                first | (refine wpAnyH_take (i := 3) (oi := ?oi61) (v := ?v61) ?hi61 (by kernel_rfl) (by kernel_rfl) (by kernel_rfl) ?hQ61 (Or.inl ⟨?hw61, ?hy61⟩) (by assumption) ?rest61; (case hi61 => (simp only [List.getElem?_toArray, List.getElem?_cons_succ, List.getElem?_cons_zero]; rfl)); (case hQ61 => exact fun _ _ _ h => h); (case hw61 => rfl); (case hy61 => ((intro w hSw); (try dsimp only at hSw); go_simp; (try with_reducible rfl)))) | (refine wpAnyH_take (i := 3) (oi := ?oi62) (v := undef) ?hi62 (by kernel_rfl) (by kernel_rfl) (by kernel_rfl) ?hQ62 (Or.inr ⟨?hw62, rfl⟩) (by assumption) ?rest62; (case hi62 => (simp only [List.getElem?_toArray, List.getElem?_cons_succ, List.getElem?_cons_zero]; rfl)); (case hQ62 => exact fun _ _ _ h => h); (case hw62 => rfl))
                (try simp only [Act.put, List.setIfInBounds_toArray, List.set_cons_zero, List.set_cons_succ])
                first | (refine wpAnyH_take (i := 4) (oi := ?oi63) (v := ?v63) ?hi63 (by kernel_rfl) (by kernel_rfl) (by kernel_rfl) ?hQ63 (Or.inl ⟨?hw63, ?hy63⟩) (by assumption) ?rest63; (case hi63 => (simp only [List.getElem?_toArray, List.getElem?_cons_succ, List.getElem?_cons_zero]; rfl)); (case hQ63 => exact fun _ _ _ h => h); (case hw63 => rfl); (case hy63 => ((intro w hSw); (try dsimp only at hSw); go_simp; (try with_reducible rfl)))) | (refine wpAnyH_take (i := 4) (oi := ?oi64) (v := undef) ?hi64 (by kernel_rfl) (by kernel_rfl) (by kernel_rfl) ?hQ64 (Or.inr ⟨?hw64, rfl⟩) (by assumption) ?rest64; (case hi64 => (simp only [List.getElem?_toArray, List.getElem?_cons_succ, List.getElem?_cons_zero]; rfl)); (case hQ64 => exact fun _ _ _ h => h); (case hw64 => rfl))
                (try simp only [Act.put, List.setIfInBounds_toArray, List.set_cons_zero, List.set_cons_succ])
                first | (refine wpAnyH_take (i := 5) (oi := ?oi65) (v := ?v65) ?hi65 (by kernel_rfl) (by kernel_rfl) (by kernel_rfl) ?hQ65 (Or.inl ⟨?hw65, ?hy65⟩) (by assumption) ?rest65; (case hi65 => (simp only [List.getElem?_toArray, List.getElem?_cons_succ, List.getElem?_cons_zero]; rfl)); (case hQ65 => exact fun _ _ _ h => h); (case hw65 => rfl); (case hy65 => ((intro w hSw); (try dsimp only at hSw); go_simp; (try with_reducible rfl)))) | (refine wpAnyH_take (i := 5) (oi := ?oi66) (v := undef) ?hi66 (by kernel_rfl) (by kernel_rfl) (by kernel_rfl) ?hQ66 (Or.inr ⟨?hw66, rfl⟩) (by assumption) ?rest66; (case hi66 => (simp only [List.getElem?_toArray, List.getElem?_cons_succ, List.getElem?_cons_zero]; rfl)); (case hQ66 => exact fun _ _ _ h => h); (case hw66 => rfl))
                (try simp only [Act.put, List.setIfInBounds_toArray, List.set_cons_zero, List.set_cons_succ])
                refine wpAnyH_ready (rs := [1]) (by kernel_rfl) (by simp) ?_
                refine AllReadyH.cons (o := ?oi67) ?hi67 (fun K hK => ?rest67) AllReadyH.nil
                (case hi67 => (simp only [List.getElem?_toArray, List.getElem?_cons_succ, List.getElem?_cons_zero]; rfl))
                go_simp
                ((with_reducible refine (Qdv _ HI.out _).mono ?_))
                rintro e w2 ⟨vp, rfl, hvp, hb⟩
                refine cont (show Hid (Below w.heap.size w w2) ∧ Hid (Qei w2 w.heap.size vp (enc NN)) from ⟨Lib.hid ((Qa0 (Below.refl _ _) (n + 1)).trans hb), Lib.hid hvp⟩) ?_
                clear hvp hb; rintro ⟨HB2, HP2⟩
                go_wp2_with fail
                refine hK.out _ _ ?_ (fun hHeld => ?_)
                · (try dsimp only); first | done | exact trivial
                clear hK K
                (try simp only [Act.put, List.setIfInBounds_toArray, List.set_cons_zero, List.set_cons_succ])
                refine wpAnyH_ready (rs := [6]) (by kernel_rfl) (by simp) ?_
                refine AllReadyH.cons (o := ?oi68) ?hi68 (fun K hK => ?rest68) AllReadyH.nil
                (case hi68 => (simp only [List.getElem?_toArray, List.getElem?_cons_succ, List.getElem?_cons_zero]; rfl))
                go_simp
                ((with_reducible refine (Qdu _ _ (enc NN) (l.take (k + 1)) _ (Qa9 HP2.out) (Qdl (Qbp HV.out HB2.out) s5)).mono ?_))
                rintro e w3 ⟨rfl, n3, rfl⟩
                rw [HTB.out]
                go_wp2_with fail
                refine hK.out _ _ ?_ (fun hHeld => ?_)
                · (try dsimp only); first | done | exact trivial
                clear hK K
                (try simp only [Act.put, List.setIfInBounds_toArray, List.set_cons_zero, List.set_cons_succ])
                first | (refine wpAnyH_take (i := 7) (oi := ?oi69) (v := ?v69) ?hi69 (by kernel_rfl) (by kernel_rfl) (by kernel_rfl) ?hQ69 (Or.inl ⟨?hw69, ?hy69⟩) (by assumption) ?rest69; (case hi69 => (simp only [List.getElem?_toArray, List.getElem?_cons_succ, List.getElem?_cons_zero]; rfl)); (case hQ69 => exact fun _ _ _ h => h); (case hw69 => rfl); (case hy69 => ((intro w hSw); (try dsimp only at hSw); go_simp; (try with_reducible rfl)))) | (refine wpAnyH_take (i := 7) (oi := ?oi70) (v := undef) ?hi70 (by kernel_rfl) (by kernel_rfl) (by kernel_rfl) ?hQ70 (Or.inr ⟨?hw70, rfl⟩) (by assumption) ?rest70; (case hi70 => (simp only [List.getElem?_toArray, List.getElem?_cons_succ, List.getElem?_cons_zero]; rfl)); (case hQ70 => exact fun _ _ _ h => h); (case hw70 => rfl))
                (try simp only [Act.put, List.setIfInBounds_toArray, List.set_cons_zero, List.set_cons_succ])
                refine wpAnyH_done (by kernel_rfl) ?_ _
                go_wp2
                go_ret3
                exact ⟨by rw [HD.out]; first | done | rfl, Qa0 HB2.out n3⟩
              · have HTB := Lib.hid htb
                have HD : Hid (Qbq l = .tuple #[.int .i64 NN, .int .i64 ((k + 1 : Nat) : Int), .int .i64 0]) := Lib.hid (by unfold Qbq; rw [HT.out, if_pos (of_decide_eq_true htb)])
                clear htb
                refine wp_region_held_drew (S := (fun _ => True)) (by kernel_rfl) ?_ (fun hHeld => ?_)
                · (try dsimp only); first | done | exact trivial
                first | (refine wpAnyH_take (i := 0) (oi := ?oi71) (v := ?v71) ?hi71 (by kernel_rfl) (by kernel_rfl) (by kernel_rfl) ?hQ71 (Or.inl ⟨?hw71, ?hy71⟩) (by assumption) ?rest71; (case hi71 => (simp only [List.getElem?_toArray, List.getElem?_cons_zero]; rfl)); (case hQ71 => exact fun _ _ _ h => h); (case hw71 => rfl); (case hy71 => ((intro w hSw); (try dsimp only at hSw); go_simp; (try with_reducible rfl)))) | (refine wpAnyH_take (i := 0) (oi := ?oi72) (v := undef) ?hi72 (by kernel_rfl) (by kernel_rfl) (by kernel_rfl) ?hQ72 (Or.inr ⟨?hw72, rfl⟩) (by assumption) ?rest72; (case hi72 => (simp only [List.getElem?_toArray, List.getElem?_cons_zero]; rfl)); (case hQ72 => exact fun _ _ _ h => h); (case hw72 => rfl))
                (try simp only [Act.put, List.setIfInBounds_toArray, List.set_cons_zero, List.set_cons_succ])
                first | (refine wpAnyH_take (i := 2) (oi := ?oi73) (v := ?v73) ?hi73 (by kernel_rfl) (by kernel_rfl) (by kernel_rfl) ?hQ73 (Or.inl ⟨?hw73, ?hy73⟩) (by assumption) ?rest73; (case hi73 => (simp only [List.getElem?_toArray, List.getElem?_cons_succ, List.getElem?_cons_zero]; rfl)); (case hQ73 => exact fun _ _ _ h => h); (case hw73 => rfl); (case hy73 => ((intro w hSw); (try dsimp only at hSw); go_simp; (try with_reducible rfl)))) | (refine wpAnyH_take (i := 2) (oi := ?oi74) (v := undef) ?hi74 (by kernel_rfl) (by kernel_rfl) (by kernel_rfl) ?hQ74 (Or.inr ⟨?hw74, rfl⟩) (by assumption) ?rest74; (case hi74 => (simp only [List.getElem?_toArray, List.getElem?_cons_succ, List.getElem?_cons_zero]; rfl)); (case hQ74 => exact fun _ _ _ h => h); (case hw74 => rfl))
                (try simp only [Act.put, List.setIfInBounds_toArray, List.set_cons_zero, List.set_cons_succ])
                first | (refine wpAnyH_take (i := 3) (oi := ?oi75) (v := ?v75) ?hi75 (by kernel_rfl) (by kernel_rfl) (by kernel_rfl) ?hQ75 (Or.inl ⟨?hw75, ?hy75⟩) (by assumption) ?rest75; (case hi75 => (simp only [List.getElem?_toArray, List.getElem?_cons_succ, List.getElem?_cons_zero]; rfl)); (case hQ75 => exact fun _ _ _ h => h); (case hw75 => rfl); (case hy75 => ((intro w hSw); (try dsimp only at hSw); go_simp; (try with_reducible rfl)))) | (refine wpAnyH_take (i := 3) (oi := ?oi76) (v := undef) ?hi76 (by kernel_rfl) (by kernel_rfl) (by kernel_rfl) ?hQ76 (Or.inr ⟨?hw76, rfl⟩) (by assumption) ?rest76; (case hi76 => (simp only [List.getElem?_toArray, List.getElem?_cons_succ, List.getElem?_cons_zero]; rfl)); (case hQ76 => exact fun _ _ _ h => h); (case hw76 => rfl))
                (try simp only [Act.put, List.setIfInBounds_toArray, List.set_cons_zero, List.set_cons_succ])
                first | (refine wpAnyH_take (i := 4) (oi := ?oi77) (v := ?v77) ?hi77 (by kernel_rfl) (by kernel_rfl) (by kernel_rfl) ?hQ77 (Or.inl ⟨?hw77, ?hy77⟩) (by assumption) ?rest77; (case hi77 => (simp only [List.getElem?_toArray, List.getElem?_cons_succ, List.getElem?_cons_zero]; rfl)); (case hQ77 => exact fun _ _ _ h => h); (case hw77 => rfl); (case hy77 => ((intro w hSw); (try dsimp only at hSw); go_simp; (try with_reducible rfl)))) | (refine wpAnyH_take (i := 4) (oi := ?oi78) (v := undef) ?hi78 (by kernel_rfl) (by kernel_rfl) (by kernel_rfl) ?hQ78 (Or.inr ⟨?hw78, rfl⟩) (by assumption) ?rest78; (case hi78 => (simp only [List.getElem?_toArray, List.getElem?_cons_succ, List.getElem?_cons_zero]; rfl)); (case hQ78 => exact fun _ _ _ h => h); (case hw78 => rfl))
                (try simp only [Act.put, List.setIfInBounds_toArray, List.set_cons_zero, List.set_cons_succ])
                first | (refine wpAnyH_take (i := 5) (oi := ?oi79) (v := ?v79) ?hi79 (by kernel_rfl) (by kernel_rfl) (by kernel_rfl) ?hQ79 (Or.inl ⟨?hw79, ?hy79⟩) (by assumption) ?rest79; (case hi79 => (simp only [List.getElem?_toArray, List.getElem?_cons_succ, List.getElem?_cons_zero]; rfl)); (case hQ79 => exact fun _ _ _ h => h); (case hw79 => rfl); (case hy79 => ((intro w hSw); (try dsimp only at hSw); go_simp; (try with_reducible rfl)))) | (refine wpAnyH_take (i := 5) (oi := ?oi80) (v := undef) ?hi80 (by kernel_rfl) (by kernel_rfl) (by kernel_rfl) ?hQ80 (Or.inr ⟨?hw80, rfl⟩) (by assumption) ?rest80; (case hi80 => (simp only [List.getElem?_toArray, List.getElem?_cons_succ, List.getElem?_cons_zero]; rfl)); (case hQ80 => exact fun _ _ _ h => h); (case hw80 => rfl))
                (try simp only [Act.put, List.setIfInBounds_toArray, List.set_cons_zero, List.set_cons_succ])
                refine wpAnyH_ready (rs := [1]) (by kernel_rfl) (by simp) ?_
                refine AllReadyH.cons (o := ?oi81) ?hi81 (fun K hK => ?rest81) AllReadyH.nil
                (case hi81 => (simp only [List.getElem?_toArray, List.getElem?_cons_succ, List.getElem?_cons_zero]; rfl))
                go_simp
                ((with_reducible refine (Qdv _ HI.out _).mono ?_))
                rintro e w2 ⟨vp, rfl, hvp, hb⟩
                refine cont (show Hid (Below w.heap.size w w2) ∧ Hid (Qei w2 w.heap.size vp (enc NN)) from ⟨Lib.hid ((Qa0 (Below.refl _ _) (n + 1)).trans hb), Lib.hid hvp⟩) ?_
                clear hvp hb; rintro ⟨HB2, HP2⟩
                go_wp2_with fail
                refine hK.out _ _ ?_ (fun hHeld => ?_)
                · (try dsimp only); first | done | exact trivial
                clear hK K
                (try simp only [Act.put, List.setIfInBounds_toArray, List.set_cons_zero, List.set_cons_succ])
                refine wpAnyH_ready (rs := [6]) (by kernel_rfl) (by simp) ?_
                refine AllReadyH.cons (o := ?oi82) ?hi82 (fun K hK => ?rest82) AllReadyH.nil
                (case hi82 => (simp only [List.getElem?_toArray, List.getElem?_cons_succ, List.getElem?_cons_zero]; rfl))
                go_simp
                ((with_reducible refine (Qdu _ _ (enc NN) (l.take (k + 1)) _ (Qa9 HP2.out) (Qdl (Qbp HV.out HB2.out) s5)).mono ?_))
                rintro e w3 ⟨rfl, n3, rfl⟩
                rw [HTB.out]
                go_wp2_with fail
                refine hK.out _ _ ?_ (fun hHeld => ?_)
                · (try dsimp only); first | done | exact trivial
                clear hK K
                (try simp only [Act.put, List.setIfInBounds_toArray, List.set_cons_zero, List.set_cons_succ])
                first | (refine wpAnyH_take (i := 7) (oi := ?oi83) (v := ?v83) ?hi83 (by kernel_rfl) (by kernel_rfl) (by kernel_rfl) ?hQ83 (Or.inl ⟨?hw83, ?hy83⟩) (by assumption) ?rest83; (case hi83 => (simp only [List.getElem?_toArray, List.getElem?_cons_succ, List.getElem?_cons_zero]; rfl)); (case hQ83 => exact fun _ _ _ h => h); (case hw83 => rfl); (case hy83 => ((intro w hSw); (try dsimp only at hSw); go_simp; (try with_reducible rfl)))) | (refine wpAnyH_take (i := 7) (oi := ?oi84) (v := undef) ?hi84 (by kernel_rfl) (by kernel_rfl) (by kernel_rfl) ?hQ84 (Or.inr ⟨?hw84, rfl⟩) (by assumption) ?rest84; (case hi84 => (simp only [List.getElem?_toArray, List.getElem?_cons_succ, List.getElem?_cons_zero]; rfl)); (case hQ84 => exact fun _ _ _ h => h); (case hw84 => rfl))
                (try simp only [Act.put, List.setIfInBounds_toArray, List.set_cons_zero, List.set_cons_succ])
                refine wpAnyH_done (by kernel_rfl) ?_ _
                go_wp2
                go_ret3
                exact ⟨by rw [HD.out]; first | done | rfl, Qa0 HB2.out n3⟩
          | m + 1 =>
            rw [show ((m + 1 : Nat) : Int) - 1 = (m : Int) by omega]
            have hmL : m < L := by omega
            have h2 := HCC.out m hmL
            obtain ⟨y, hy⟩ : ∃ y, y = l.getD m 0 := ⟨_, rfl⟩
            rw [← hy] at h2
            have y256 : y < 256 := by
              rw [hy]; have hk' : m < l.length := by rw [← NL.out]; exact hmL
              rw [List.getD_eq_getElem?_getD, List.getElem?_eq_getElem hk']; exact HL.out _ (List.getElem_mem hk')
            have hdr : (l.take (k + 1)).drop m = y :: (l.take (k + 1)).drop (m + 1) := by
              have hk' : m < (l.take (k + 1)).length := by rw [List.length_take, ← NL.out]; omega
              rw [List.drop_eq_getElem_cons hk']
              congr 1
              rw [hy, List.getElem_take, List.getD_eq_getElem?_getD, List.getElem?_eq_getElem (by rw [← NL.out]; exact hmL)]; rfl
            obtain ⟨U, hU⟩ : ∃ U, U = num ((l.take (k + 1)).drop (m + 1)) % 18446744073709551616 := ⟨_, rfl⟩
            have HN : Hid (num ((l.take (k + 1)).drop m) % 18446744073709551616 = (128 * U + y % 128) % 18446744073709551616) := Lib.hid (by
              rw [hdr, hU]; simp only [num]; omega)
            have HU1 : Hid (U < 18446744073709551616) := Lib.hid (by rw [hU]; exact Nat.mod_lt _ (by decide))
            rw [← hU]
            obtain ⟨g, hg⟩ : ∃ g, g = y % 128 := ⟨_, rfl⟩
            rw [← hg] at HN
            have g1 : (y : Int) % 128 = g := by omega
            have g2 : g < 128 := by omega
            clear hU hdr hy hg
            go_wp2
            go_round
            case rel => exact ⟨m, by omega, Qiw (by omega), by rw [HN.out]; exact Qiw (by have := HU1.out; (try simp only [IntKind.wrap_u64]); omega)⟩
            case measure => simp [intOf]
end Go.Proofs.Ytfhmdlihnidjoaa
