
/-
  Layer 21: the iterator over the threads in a mask: its walk.
-/
import Derived.Test.YtmjfnlangebhlaaRouB
namespace Go.Proofs.Ytmjfnlangebhlaa
set_option linter.unusedVariables false
open Go.ChangeShapes Go.WideShapes Go.ChangeAt Go.RowKit Go.Shelf
attribute [local go_sem] Oper.semAt_some
theorem row_cell {W : World} {g : Nat} {zs : List Int} {cur : Array Value} {e : TypeId} (hh : W.heap[g]? = some (.cells cur e (0, 0))) (hx : cur.toList.take (zs.length * 1) = zs.map (Value.int .i64)) {k : Nat} (hk : k < zs.length) : W.cell? ⟨g, k, none⟩ = some (.int .i64 (zs[k]?.getD 0)) := by
  have h1 : (cur.toList.take (zs.length * 1))[k]? = some (.int .i64 (zs[k]?.getD 0)) := by
    rw [hx]; simp [hk]
  rw [List.getElem?_take] at h1
  have h2 : cur.toList[k]? = some (.int .i64 (zs[k]?.getD 0)) := by
    split at h1
    · exact h1
    · cases h1
  simp only [World.cell?, hh]
  simpa using h2
theorem bits_row (m : Int) (w : World) : Calls Try.prog 111 #[.int .i64 m] w fun e w' => ∃ a cap, e = .returned (.slice a (bitsL m 62).length cap) ∧ ((a = none ∧ cap = 0 ∧ (bitsL m 62).length = 0) ∨
    ∃ g cur, a = some ⟨g, 0, none⟩ ∧ w.heap.size ≤ g ∧ w'.heap[g]? = some (.cells cur 3 (0, 0)) ∧ (bitsL m 62).length ≤ cap ∧ cur.toList.take ((bitsL m 62).length * 1) = (bitsL m 62).map (Value.int .i64)) ∧ Below w.heap.size w w' := by
  refine (bits_any m w).mono ?_
  rintro e w' ⟨v, rfl, ⟨_, h⟩, hb⟩
  rcases h with ⟨rfl, h0⟩ | ⟨g, cap, cur, rfl, h1, h2, h3, _, _, h4⟩
  · exact ⟨none, 0, by rw [h0], Or.inl ⟨rfl, rfl, h0⟩, hb⟩
  · exact ⟨_, cap, rfl, Or.inr ⟨g, cur, rfl, h1, h2, h3, h4⟩, hb⟩
set_option maxRecDepth 100000 in
set_option maxHeartbeats 4000000 in
theorem threads1_in (n : Nat) (hn : 1 ≤ n) (l Bm Bl A : Nat) (L : Ly) (hok : L.ok) (m : Int) (J Jx : List Int → World → Prop) (W : World)
    (hY : ∀ pre x W, J pre W → pre.length < 62 → YieldAt Fence.wide (n - 1) Try.prog l #[.int .i64 x] W fun e W' =>
      (e = .returned (.bool true) ∧ J (pre ++ [x]) W' ∧ KpR A W W') ∨ (e = .returned (.bool false) ∧ Jx (pre ++ [x]) W'))
    (hJ : AbidesFrom W.heap.size J) (hA : A < W.heap.size) (hBm : Bm < W.heap.size) (hm : W.cell? ⟨Bm, 0, none⟩ = some (.int .i64 m)) (hl : LyAt W Bl L) (hAl : Bl ≠ A) (ho : ownB A W = none) (h0 : J [] W) :
    CallsIn Fence.wide n Try.prog 110 #[.func (.yield l) #[] #[], .pointer (some ⟨Bm, 0, none⟩), .pointer (some ⟨Bl, 0, none⟩)] W fun e W' => (∃ v, e = .returned v) ∧
      ((∃ ys, ys = fsN L m (bitsL m 62).length ∧ J ys W') ∨ (∃ pre, True ∧ Jx pre W')) := by
  refine callsIn_of_wp Try.func110 rfl trivial ?_ rfl
  simp only [Try.ntmps110, List.size_toArray, List.length_cons, List.length_nil, Nat.reduceAdd, Nat.reduceSub, Array.replicate_succ, Array.replicate_zero, List.push_toArray, List.append_toArray, List.nil_append, List.cons_append]
  gi_wp2_with (refine ⟨trivial, ?_⟩; gi_at_call 111; refine (callsIn_wide.2 (bits_row m _)).mono ?_; rintro e w1 ⟨a, cap, rfl, hrow, hb⟩)
  have hg1 := grown_of_below hb
  have hK1 := KpR.of_grown hA hg1
  have hl1 := hl.kept hK1 hAl (by rw [ho]; simp)
  have ho1 : ownB A w1 = none := by rw [ownB_block (hb.block A hA)]; exact ho
  have hJ1 : J [] w1 := hJ _ _ _ none h0 hg1 (fun r e => by cases e)
  have hlen : (bitsL m 62).length ≤ 62 := bitsL_le m 62
  rcases hrow with ⟨rfl, rfl, hz⟩ | ⟨g, cur, rfl, hlo, hh, hnc, hx⟩
  · rw [hz]
    gi_loopw [9] (fun i wr => i = .int .i64 0 ∧ J [] wr) (fun _ _ => 0)
    case atStart => exact ⟨rfl, hJ1⟩
    case round =>
      obtain ⟨rfl, hJs⟩ := hrel
      gi_wp2
      go_end0
      exact ⟨⟨_, rfl⟩, .inl ⟨[], by rw [hz]; rfl, hJs⟩⟩
  · have hgA : g ≠ A := by omega
    obtain ⟨N, hN⟩ : ∃ N, (bitsL m 62).length = N := ⟨_, rfl⟩
    rw [hN] at hlen hnc ⊢
    gi_loopw [9] (fun i wr => ∃ k : Nat, k ≤ N ∧ i = .int .i64 k ∧ J (fsN L m k) wr ∧ KpR A w1 wr) (fun i _ => N - (intOf i).toNat)
    case atStart => exact ⟨0, Nat.zero_le _, rfl, hJ1, KpR.refl _ _⟩
    case round =>
      obtain ⟨k, hk, rfl, hJs, hK⟩ := hrel
      by_cases hlt : k < N
      · have hrow_g : wr.heap[g]? = some (.cells cur 3 (0, 0)) := (hK.bl g _ _ _ hh hgA (by rw [ho1]; simp)).trans hh
        obtain ⟨t, ht⟩ : ∃ t, (bitsL m 62)[k]? = some t := ⟨_, List.getElem?_eq_getElem (by omega)⟩
        have hc : wr.cell? ⟨g, k, none⟩ = some (.int .i64 t) := by
          have := row_cell hrow_g hx (k := k) (by omega)
          rw [ht] at this
          exact this
        have hl2 := hl1.kept hK hAl (by rw [ho1]; simp)
        have c0 := hl2.cells 0 _ rfl
        have c1 := hl2.cells 1 _ rfl
        have c2 := hl2.cells 2 _ rfl
        have c3 := hl2.cells 3 _ rfl
        have c4 := hl2.cells 4 _ rfl
        have c5 := hl2.cells 5 _ rfl
        have c6 := hl2.cells 6 _ rfl
        have c7 := hl2.cells 7 _ rfl
        have c8 := hl2.cells 8 _ rfl
        have c9 := hl2.cells 9 _ rfl
        have c10 := hl2.cells 10 _ rfl
        have c11 := hl2.cells 11 _ rfl
        have c12 := hl2.cells 12 _ rfl
        have hsz : A < wr.heap.size := by have := hK.sz; have := hb.size; omega
        have hszW : W.heap.size ≤ wr.heap.size := by have := hK.sz; have := hb.size; omega
        have hfl := fsN_len L m k
        cases hth : there L t with
        | false =>
          have hw : atWake L t < 0 := by unfold there at hth; simpa using hth
          gi_wp2_with (refine ⟨trivial, ?_⟩; gi_at_call 65; refine (callsIn_wide.2 (wake_any L t _ hok)).mono ?_; rintro e w2 ⟨rfl, hb2⟩; have hg2 := grown_of_below hb2; have hK2 := hK.trans (KpR.of_grown hsz hg2); have hJ2 := hJ _ _ _ none hJs hg2 (fun r e => by cases e))
          refine ⟨fun _ h => (by cases h), ?_⟩
          gi_wp2
          go_roundw
          case rel => exact ⟨k + 1, by omega, by simp, by rw [fsN_miss ht hth]; exact hJ2, hK2⟩
          case measure => simp [intOf]; omega
        | true =>
          have hw : 0 ≤ atWake L t := by unfold there at hth; simpa using hth
          gi_wp2_with (refine ⟨trivial, ?_⟩; gi_at_call 65; refine (callsIn_wide.2 (wake_any L t _ hok)).mono ?_; rintro e w2 ⟨rfl, hb2⟩; have hg2 := grown_of_below hb2; have hK2 := hK.trans (KpR.of_grown hsz hg2); have hJ2 := hJ _ _ _ none hJs hg2 (fun r e => by cases e); obtain ⟨fn, tmps, assign, body, hy, hR⟩ := hY _ t _ hJ2 (by omega))
          refine hR.mono ?_
          rintro e W3 (⟨rfl, hJ3, hk3⟩ | ⟨rfl, hJx3⟩)
          · gi_wp2
            go_roundw
            case rel => exact ⟨k + 1, by omega, by simp, by rw [fsN_hit ht hth]; exact hJ3, hK2.trans hk3⟩
            case measure => simp [intOf]; omega
          · gi_wp2
            refine bodyPost_ret (results_none rfl _ _ _) rfl ?_
            exact ⟨⟨_, rfl⟩, .inr ⟨_, trivial, hJx3⟩⟩
      · obtain rfl : k = N := by omega
        gi_wp2
        go_end0
        exact ⟨⟨_, rfl⟩, .inl ⟨fsN L m k, by rw [hN], hJs⟩⟩
end Go.Proofs.Ytmjfnlangebhlaa
