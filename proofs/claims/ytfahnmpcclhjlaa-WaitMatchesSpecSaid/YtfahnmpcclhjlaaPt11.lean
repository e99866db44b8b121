/-
  Merged: RouB, RouC
-/
import Derived.RangeFuncBox
import Derived.RangeFuncNested
import Derived.RangeFuncLeaves
import Derived.Shelf.Abstract
import Derived.WalkKit
import Derived.OwnWalkIn
import Derived.TacticsInMore
import Derived.LoopNIn
import Derived.LoopIn
import Derived.Maps.AppendAt
import Derived.Test.YtfahnmpcclhjlaaPt10

/-
  Layer 21: the iterator over the threads in a mask: its contract.
-/
namespace Go.Proofs.Ytfahnmpcclhjlaa
set_option linter.unusedVariables false
open Go.ChangeShapes Go.WideShapes Go.ChangeAt Go.RowKit Go.Shelf
attribute [local go_sem] Oper.semAt_some

/-- The block of the slice that a variable holds. -/
def ownB (A : Nat) (W : World) : Option Nat := match W.cell? ⟨A, 0, none⟩ with
  | some (.slice (some a) _ _) => some a.block
  | _ => none
/-- What a round keeps: all cells but those of the variable A, and of what lies from the row that it holds on. -/
structure KpR (A : Nat) (W W' : World) : Prop where
  sz : W.heap.size ≤ W'.heap.size
  bl : ∀ k c t f, W.heap[k]? = some (.cells c t f) → k ≠ A → (∀ o, ownB A W = some o → k < o) → W'.heap[k]? = W.heap[k]?
  ow : ∀ o', ownB A W' = some o' → (∃ o, ownB A W = some o ∧ o ≤ o') ∨ W.heap.size ≤ o'
theorem heap_lt {W : World} {k : Nat} {o : Obj} (h : W.heap[k]? = some o) : k < W.heap.size := (Array.getElem?_eq_some_iff.1 h).1
theorem KpR.trans {A : Nat} {X Y Z : World} (h : KpR A X Y) (g : KpR A Y Z) : KpR A X Z := by
  refine ⟨Nat.le_trans h.sz g.sz, fun k c t f hk hA ho => ?_, fun o' ho' => ?_⟩
  · have h1 := h.bl k c t f hk hA ho
    refine (g.bl k c t f (h1.trans hk) hA fun o e => ?_).trans h1
    rcases h.ow o e with ⟨p, hp, hle⟩ | hle
    · have := ho p hp
      omega
    · have := heap_lt hk
      omega
  · rcases g.ow o' ho' with ⟨p, hp, hle⟩ | hle
    · rcases h.ow p hp with ⟨q, hq, hle2⟩ | hle2
      · exact Or.inl ⟨q, hq, by omega⟩
      · exact Or.inr (by omega)
    · have := h.sz
      exact Or.inr (by omega)
theorem ownB_block {A : Nat} {W W' : World} (h : W'.heap[A]? = W.heap[A]?) : ownB A W' = ownB A W := by
  unfold ownB; rw [World.cell?_of_block (a := ⟨A, 0, none⟩) h]
theorem KpR.of_grown {A : Nat} {W W' : World} (hA : A < W.heap.size) (h : W.grownBy W' none) : KpR A W W' :=
  ⟨h.size, fun k c t f hk _ _ => h.block k (heap_lt hk) (by simp), fun o' ho' => Or.inl ⟨o', by rw [← ownB_block (h.block A hA (by simp))]; exact ho', Nat.le_refl _⟩⟩
theorem KpR.refl (A : Nat) (W : World) : KpR A W W := ⟨Nat.le_refl _, fun _ _ _ _ _ _ _ => rfl, fun o' ho' => Or.inl ⟨o', ho', Nat.le_refl _⟩⟩
theorem KpR.putObj {A : Nat} {n0 : Nat} (hA : A < n0) (W : World) (l : Nat) (o o' : Obj) (hl : n0 ≤ l) (h : W.heap[l]? = some o) (ho : o.isCells = false) : KpR A W (W.putObj l o') := by
  have hne : ∀ k, k ≠ l → (W.putObj l o').heap[k]? = W.heap[k]? := fun k hk => World.putObj_heap_other (fun e => hk e)
  refine ⟨(grownBy_putObj' W l o').size, fun k c t f hk _ _ => hne k (fun e => ?_), fun o' ho' => Or.inl ⟨o', by rw [← ownB_block (hne A (by omega))]; exact ho', Nat.le_refl _⟩⟩
  subst e
  rw [h] at hk
  cases hk
  cases ho
theorem grown_of_below {W W' : World} (h : Below W.heap.size W W') : W.grownBy W' none := ⟨h.os, h.tape, h.output, h.size, fun k hk _ => h.block k hk⟩
/-- The threads that are there. -/
def there (L : Ly) (t : Int) : Bool := decide (0 ≤ atWake L t)
def zsN (m : Int) (k : Nat) : List Int := (bitsL m 62).take k
def fsN (L : Ly) (m : Int) (k : Nat) : List Int := (zsN m k).filter (there L)
theorem fsN_hit {L : Ly} {m : Int} {k : Nat} {t : Int} (h : (bitsL m 62)[k]? = some t) (ht : there L t = true) : fsN L m (k + 1) = fsN L m k ++ [t] := by
  have hk := (List.getElem?_eq_some_iff.1 h).1
  unfold fsN zsN
  rw [List.take_add_one, h]
  simp [ht]
theorem fsN_miss {L : Ly} {m : Int} {k : Nat} {t : Int} (h : (bitsL m 62)[k]? = some t) (ht : there L t = false) : fsN L m (k + 1) = fsN L m k := by
  unfold fsN zsN
  rw [List.take_add_one, h]
  simp [ht]
theorem fsN_len (L : Ly) (m : Int) (k : Nat) : (fsN L m k).length ≤ k := by
  unfold fsN zsN
  refine Nat.le_trans (List.length_filter_le _ _) ?_
  rw [List.length_take]; omega
def lyCells (L : Ly) : Array Value := #[.int .i64 L.c.t, .int .i64 L.c.l, .int .i64 L.c.k, .int .i64 L.c.s, .int .i64 L.c.m, .int .i64 L.clock, .int .i64 L.stamps, .int .i64 L.log, .int .i64 L.fin, .int .i64 L.thread, .int .i64 L.lock, .int .i64 L.loc, .int .i64 L.size]
/-- A layout lies in a variable. -/
def LyAt (W : World) (Bl : Nat) (L : Ly) : Prop := W.heap[Bl]? = some (.cells (lyCells L) 42 (0, 0))
theorem LyAt.cells {W : World} {Bl : Nat} {L : Ly} (h : LyAt W Bl L) (i : Nat) (v : Value) (hv : (lyCells L)[i]? = some v) : W.cell? ⟨Bl, i, none⟩ = some v := by
  simp [World.cell?, show W.heap[Bl]? = _ from h, hv]
theorem LyAt.kept {A : Nat} {W W' : World} {Bl : Nat} {L : Ly} (h : LyAt W Bl L) (hk : KpR A W W') (hA : Bl ≠ A) (ho : ∀ o, ownB A W = some o → Bl < o) : LyAt W' Bl L :=
  (hk.bl _ _ _ _ h hA ho).trans h
end Go.Proofs.Ytfahnmpcclhjlaa


/-
  Layer 21: the iterator over the threads in a mask: its walk.
-/
namespace Go.Proofs.Ytfahnmpcclhjlaa
set_option linter.unusedVariables false
open Go.ChangeShapes Go.WideShapes Go.ChangeAt Go.RowKit Go.Shelf
attribute [local go_sem] Oper.semAt_some
theorem row_cell {W : World} {g : Nat} {zs : List Int} {cur : Array Value} {e : TypeId} (hh : W.heap[g]? = some (.cells cur e (0, 0))) (hx : cur.toList.take (zs.length * 1) = zs.map (Value.int .i64)) {k : Nat} (hk : k < zs.length) : W.cell? ⟨g, k, none⟩ = some (.int .i64 (zs[k]?.getD 0)) := by
  have h1 : (cur.toList.take (zs.length * 1))[k]? = some (.int .i64 (zs[k]?.getD 0)) := by
    rw [hx]; simp [hk]
  rw [List.getElem?_take] at h1
  have h2 : cur.toList[k]? = some (.int .i64 (zs[k]?.getD 0)) := by
    split at h1
    · exact h1
    · cases h1
  simp only [World.cell?, hh]
  simpa using h2
theorem bits_row (m : Int) (w : World) : Calls Try.prog 84 #[.int .i64 m] w fun e w' => ∃ a cap, e = .returned (.slice a (bitsL m 62).length cap) ∧ ((a = none ∧ cap = 0 ∧ (bitsL m 62).length = 0) ∨
    ∃ g cur, a = some ⟨g, 0, none⟩ ∧ w.heap.size ≤ g ∧ w'.heap[g]? = some (.cells cur 3 (0, 0)) ∧ (bitsL m 62).length ≤ cap ∧ cur.toList.take ((bitsL m 62).length * 1) = (bitsL m 62).map (Value.int .i64)) ∧ Below w.heap.size w w' := by
  refine (bits_any m w).mono ?_
  rintro e w' ⟨v, rfl, ⟨_, h⟩, hb⟩
  rcases h with ⟨rfl, h0⟩ | ⟨g, cap, cur, rfl, h1, h2, h3, _, _, h4⟩
  · exact ⟨none, 0, by rw [h0], Or.inl ⟨rfl, rfl, h0⟩, hb⟩
  · exact ⟨_, cap, rfl, Or.inr ⟨g, cur, rfl, h1, h2, h3, h4⟩, hb⟩
set_option maxRecDepth 100000 in
set_option maxHeartbeats 4000000 in
theorem threads1_in (n : Nat) (hn : 1 ≤ n) (l Bm Bl A : Nat) (L : Ly) (hok : L.ok) (m : Int) (J Jx : List Int → World → Prop) (W : World)
    (hY : ∀ pre x W, J pre W → pre.length < 62 → YieldAt Fence.wide (n - 1) Try.prog l #[.int .i64 x] W fun e W' =>
      (e = .returned (.bool true) ∧ J (pre ++ [x]) W' ∧ KpR A W W') ∨ (e = .returned (.bool false) ∧ Jx (pre ++ [x]) W'))
    (hJ : AbidesFrom W.heap.size J) (hA : A < W.heap.size) (hBm : Bm < W.heap.size) (hm : W.cell? ⟨Bm, 0, none⟩ = some (.int .i64 m)) (hl : LyAt W Bl L) (hAl : Bl ≠ A) (ho : ownB A W = none) (h0 : J [] W) :
    CallsIn Fence.wide n Try.prog 83 #[.func (.yield l) #[] #[], .pointer (some ⟨Bm, 0, none⟩), .pointer (some ⟨Bl, 0, none⟩)] W fun e W' => (∃ v, e = .returned v) ∧
      ((∃ ys, ys = fsN L m (bitsL m 62).length ∧ J ys W') ∨ (∃ pre, True ∧ Jx pre W')) := by
  refine callsIn_of_wp Try.func83 rfl trivial ?_ rfl
  simp only [Try.ntmps83, List.size_toArray, List.length_cons, List.length_nil, Nat.reduceAdd, Nat.reduceSub, Array.replicate_succ, Array.replicate_zero, List.push_toArray, List.append_toArray, List.nil_append, List.cons_append]
  gi_wp2_with (refine ⟨trivial, ?_⟩; gi_at_call 84; refine (callsIn_wide.2 (bits_row m _)).mono ?_; rintro e w1 ⟨a, cap, rfl, hrow, hb⟩)
  have hg1 := grown_of_below hb
  have hK1 := KpR.of_grown hA hg1
  have hl1 := hl.kept hK1 hAl (by rw [ho]; simp)
  have ho1 : ownB A w1 = none := by rw [ownB_block (hb.block A hA)]; exact ho
  have hJ1 : J [] w1 := hJ _ _ _ none h0 hg1 (fun r e => by cases e)
  have hlen : (bitsL m 62).length ≤ 62 := bitsL_le m 62
  rcases hrow with ⟨rfl, rfl, hz⟩ | ⟨g, cur, rfl, hlo, hh, hnc, hx⟩
  · rw [hz]
    gi_loopw [9] (fun i wr => i = .int .i64 0 ∧ J [] wr) (fun _ _ => 0)
    case atStart => exact ⟨rfl, hJ1⟩
    case round =>
      obtain ⟨rfl, hJs⟩ := hrel
      gi_wp2
      go_end0
      exact ⟨⟨_, rfl⟩, .inl ⟨[], by rw [hz]; rfl, hJs⟩⟩
  · have hgA : g ≠ A := by omega
    obtain ⟨N, hN⟩ : ∃ N, (bitsL m 62).length = N := ⟨_, rfl⟩
    rw [hN] at hlen hnc ⊢
    gi_loopw [9] (fun i wr => ∃ k : Nat, k ≤ N ∧ i = .int .i64 k ∧ J (fsN L m k) wr ∧ KpR A w1 wr) (fun i _ => N - (intOf i).toNat)
    case atStart => exact ⟨0, Nat.zero_le _, rfl, hJ1, KpR.refl _ _⟩
    case round =>
      obtain ⟨k, hk, rfl, hJs, hK⟩ := hrel
      by_cases hlt : k < N
      · have hrow_g : wr.heap[g]? = some (.cells cur 3 (0, 0)) := (hK.bl g _ _ _ hh hgA (by rw [ho1]; simp)).trans hh
        obtain ⟨t, ht⟩ : ∃ t, (bitsL m 62)[k]? = some t := ⟨_, List.getElem?_eq_getElem (by omega)⟩
        have hc : wr.cell? ⟨g, k, none⟩ = some (.int .i64 t) := by
          have := row_cell hrow_g hx (k := k) (by omega)
          rw [ht] at this
          exact this
        have hl2 := hl1.kept hK hAl (by rw [ho1]; simp)
        have c0 := hl2.cells 0 _ rfl
        have c1 := hl2.cells 1 _ rfl
        have c2 := hl2.cells 2 _ rfl
        have c3 := hl2.cells 3 _ rfl
        have c4 := hl2.cells 4 _ rfl
        have c5 := hl2.cells 5 _ rfl
        have c6 := hl2.cells 6 _ rfl
        have c7 := hl2.cells 7 _ rfl
        have c8 := hl2.cells 8 _ rfl
        have c9 := hl2.cells 9 _ rfl
        have c10 := hl2.cells 10 _ rfl
        have c11 := hl2.cells 11 _ rfl
        have c12 := hl2.cells 12 _ rfl
        have hsz : A < wr.heap.size := by have := hK.sz; have := hb.size; omega
        have hszW : W.heap.size ≤ wr.heap.size := by have := hK.sz; have := hb.size; omega
        have hfl := fsN_len L m k
        cases hth : there L t with
        | false =>
          have hw : atWake L t < 0 := by unfold there at hth; simpa using hth
          gi_wp2_with (refine ⟨trivial, ?_⟩; gi_at_call 35; refine (callsIn_wide.2 (wake_any L t _ hok)).mono ?_; rintro e w2 ⟨rfl, hb2⟩; have hg2 := grown_of_below hb2; have hK2 := hK.trans (KpR.of_grown hsz hg2); have hJ2 := hJ _ _ _ none hJs hg2 (fun r e => by cases e))
          refine ⟨fun _ h => (by cases h), ?_⟩
          gi_wp2
          go_roundw
          case rel => exact ⟨k + 1, by omega, by simp, by rw [fsN_miss ht hth]; exact hJ2, hK2⟩
          case measure => simp [intOf]; omega
        | true =>
          have hw : 0 ≤ atWake L t := by unfold there at hth; simpa using hth
          gi_wp2_with (refine ⟨trivial, ?_⟩; gi_at_call 35; refine (callsIn_wide.2 (wake_any L t _ hok)).mono ?_; rintro e w2 ⟨rfl, hb2⟩; have hg2 := grown_of_below hb2; have hK2 := hK.trans (KpR.of_grown hsz hg2); have hJ2 := hJ _ _ _ none hJs hg2 (fun r e => by cases e); obtain ⟨fn, tmps, assign, body, hy, hR⟩ := hY _ t _ hJ2 (by omega))
          refine hR.mono ?_
          rintro e W3 (⟨rfl, hJ3, hk3⟩ | ⟨rfl, hJx3⟩)
          · gi_wp2
            go_roundw
            case rel => exact ⟨k + 1, by omega, by simp, by rw [fsN_hit ht hth]; exact hJ3, hK2.trans hk3⟩
            case measure => simp [intOf]; omega
          · gi_wp2
            refine bodyPost_ret (results_none rfl _ _ _) rfl ?_
            exact ⟨⟨_, rfl⟩, .inr ⟨_, trivial, hJx3⟩⟩
      · obtain rfl : k = N := by omega
        gi_wp2
        go_end0
        exact ⟨⟨_, rfl⟩, .inl ⟨fsN L m k, by rw [hN], hJs⟩⟩
end Go.Proofs.Ytfahnmpcclhjlaa
