
/-
  Layer 2: which accesses are valid; copying the cells of a memory; one access on cells of the call's own.
-/
import Derived.Test.YtaclnaedinfhmaaRows
import Derived.Test.YtaclnaedinfhmaaBase
namespace Go.Proofs.Ytaclnaedinfhmaa
open Go.ChangeShapes Go.WideShapes Go.ChangeAt Go.RowKit

/-- An access. -/
def acc (k c o n : Int) (b : ByteArray) : Value := .agg #[.int .i64 k, .int .i64 c, .int .i64 o, .int .i64 n, .string b]
/-- Is it valid? -/
def rightB (k c o n : Int) (b : ByteArray) : Bool :=
  !decide (c < 0) && b.toList.isEmpty && (if k = 1 then n == 0 && o == 0 else if k = 2 ∨ k = 4 then o == 0 else decide (k = 3))

theorem right_any (k c o n : Int) (b : ByteArray) (w : World) : Calls Try.prog 87 #[acc k c o n b] w fun e w' =>
    e = .returned (.bool (rightB k c o n b)) ∧ ∃ cs, w' = w.alloc (.cells cs 32) := by
  unfold acc
  by_cases hc : c < 0
  · have HE := Lib.hid (show rightB k c o n b = false by unfold rightB; simp [hc])
    go_enter Try.func87, Try.ntmps87
    go_wp2
    go_ret
    exact ⟨ret_bool HE.out.symm, _, rfl⟩
  · have hc' : 0 ≤ c := by omega
    cases hb : b.toList.isEmpty
    · have HE := Lib.hid (show rightB k c o n b = false by unfold rightB; simp [hb])
      have hb2 : b.toList = [] ↔ False := by simpa using hb
      go_enter Try.func87, Try.ntmps87
      go_wp2
      all_goals (go_ret; exact ⟨ret_bool HE.out.symm, _, rfl⟩)
    · have hb2 : b.toList = [] := by simpa using hb
      by_cases k1 : k = 1
      · subst k1
        by_cases hn : n = 0
        · subst hn
          have HE := Lib.hid (show (o == 0) = rightB 1 c o 0 b by unfold rightB; simp [hc, hb2])
          clear hb
          go_enter Try.func87, Try.ntmps87
          go_wp2
          go_ret
          exact ⟨ret_bool HE.out, _, rfl⟩
        · have HE := Lib.hid (show rightB 1 c o n b = false by unfold rightB; simp [hn])
          have hn' : (n != 0) = true := by simp [hn]
          clear hb
          go_enter Try.func87, Try.ntmps87
          go_wp2
          go_ret
          exact ⟨ret_bool HE.out.symm, _, rfl⟩
      · by_cases k2 : k = 2 ∨ k = 4
        · have HE : Hid ((o == 0) = rightB k c o n b) := Lib.hid (by unfold rightB; simp [hc, hb2, k1, k2])
          clear hb
          rcases k2 with rfl | rfl
          all_goals
            go_enter Try.func87, Try.ntmps87
            go_wp2
            go_ret
            exact ⟨ret_bool HE.out, _, rfl⟩
        · by_cases k3 : k = 3
          · subst k3
            have HE := Lib.hid (show rightB 3 c o n b = true by unfold rightB; simp [hc, hb2])
            clear hb
            go_enter Try.func87, Try.ntmps87
            go_wp2
            go_ret
            exact ⟨ret_bool HE.out.symm, _, rfl⟩
          · have HE := Lib.hid (show rightB k c o n b = false by unfold rightB; simp [k1, k2, k3])
            have q1 : (k == 1) = false := by simp [k1]
            have q2 : (k == 2) = false := by simp; omega
            have q3 : (k == 3) = false := by simp [k3]
            have q4 : (k == 4) = false := by simp; omega
            clear hb k1 k2 k3
            go_enter Try.func87, Try.ntmps87
            go_wp2
            go_ret
            exact ⟨ret_bool HE.out.symm, _, rfl⟩

/-- The error of an access to a memory of some size. -/
def chk (size : Nat) (k c o n : Int) (b : ByteArray) : Int := if rightB k c o n b then (if (size : Int) ≤ c then 8 else 0) else 1

theorem check_any (size : Nat) (k c o n : Int) (b : ByteArray) (w : World) : Calls Try.prog 55 #[.int .i64 size, acc k c o n b] w fun e w' =>
    e = .returned (.int .i64 (chk size k c o n b)) ∧ ∃ cs cs', w' = (w.alloc (.cells cs 32)).alloc (.cells cs' 32) := by
  cases hr : rightB k c o n b
  · have HE := Lib.hid (show chk size k c o n b = 1 by unfold chk; simp [hr])
    have HR := Lib.hid hr
    clear hr
    have hq : ∀ w, Calls Try.prog 87 #[acc k c o n b] w fun e w' => e = .returned (.bool false) ∧ ∃ cs, w' = w.alloc (.cells cs 32) := fun w => by
      have := right_any k c o n b w; rwa [HR.out] at this
    have HQ := Lib.hid hq
    clear hq
    unfold acc at HQ ⊢
    go_enter Try.func55, Try.ntmps55
    go_wp2_with (first | (go_at_call 87; refine (HQ.out _).mono ?_; rintro e w' ⟨rfl, cs, rfl⟩))
    go_ret
    exact ⟨ret_int HE.out.symm, _, _, rfl⟩
  · have HR := Lib.hid hr
    have hq : ∀ w, Calls Try.prog 87 #[acc k c o n b] w fun e w' => e = .returned (.bool true) ∧ ∃ cs, w' = w.alloc (.cells cs 32) := fun w => by
      have := right_any k c o n b w; rwa [HR.out] at this
    have HQ := Lib.hid hq
    by_cases hs : (size : Int) ≤ c
    · have HE := Lib.hid (show chk size k c o n b = 8 by unfold chk; simp [hr, hs])
      clear hr hq
      unfold acc at HQ ⊢
      go_enter Try.func55, Try.ntmps55
      go_wp2_with (first | (go_at_call 87; refine (HQ.out _).mono ?_; rintro e w' ⟨rfl, cs, rfl⟩))
      go_ret
      exact ⟨ret_int HE.out.symm, _, _, rfl⟩
    · have HE := Lib.hid (show chk size k c o n b = 0 by unfold chk; simp [hr, hs])
      clear hr hq
      unfold acc at HQ ⊢
      go_enter Try.func55, Try.ntmps55
      go_wp2_with (first | (go_at_call 87; refine (HQ.out _).mono ?_; rintro e w' ⟨rfl, cs, rfl⟩))
      go_ret
      exact ⟨ret_int HE.out.symm, _, _, rfl⟩

theorem madeZeros (n : Nat) : (madeCells #[Value.int .i64 0] n).toList = (List.replicate n (0 : Int)).map (Value.int .i64) := by
  rw [toList_madeCells_one]; simp

theorem owns_heap {w : World} {B g n e : Nat} {xs : List Value} (h : w.ownsRow B e 1 (.slice (some ⟨g, 0, none⟩) n n) n xs) : w.heap[g]? = some (.cells xs.toArray e (0, 0)) := by
  obtain ⟨hl, ⟨h', _⟩ | ⟨g', cap', cur, h', _, hg, _, _, hs, ht⟩⟩ := h
  · simp at h'
  · simp only [Value.slice.injEq, Option.some.injEq, Addr.mk.injEq, and_true, true_and] at h'
    obtain ⟨rfl, rfl⟩ := h'
    rw [List.take_of_length_le (by simp; omega)] at ht
    rw [hg, ← ht]
theorem owns_of_heap {w : World} {B g e n : Nat} {xs : List Value} (h : w.heap[g]? = some (.cells xs.toArray e (0, 0))) (hn : xs.length = n) (hB : B ≤ g) (hm : n ≤ maxLen) : w.ownsRow B e 1 (.slice (some ⟨g, 0, none⟩) n n) n xs :=
  ⟨by omega, .inr ⟨g, n, xs.toArray, rfl, hB, h, Nat.le_refl _, hm, by simpa using hn, by rw [List.take_of_length_le (by simp; omega)]⟩⟩

theorem own_any (v : Value) (zs : List Int) (w : World) (hv : HasInts w v zs) (hlen : zs.length ≤ 35184372088832) : Calls Try.prog 54 #[.agg #[v]] w fun e w' =>
    ∃ u, e = .returned u ∧ w'.ownsRow w.heap.size 3 1 u zs.length (zs.map (Value.int .i64)) ∧ Below w.heap.size w w' := by
  obtain ⟨i0, hi, hz0, hz1, hz2⟩ := info_parts info_int
  obtain ⟨a, cap, rfl, hl, hc⟩ := hv
  obtain ⟨B, hB⟩ : ∃ B, B = w.heap.size := ⟨_, rfl⟩
  rw [← hB]
  have HB := Lib.hid hB
  have hcB : zs.length = 0 ∨ ∃ b o, a = some ⟨b, o, none⟩ ∧ b < B ∧ ∀ j, j < zs.length → w.cell? ⟨b, o + j, none⟩ = some (.int .i64 (zs.getD j 0)) := by
    rcases hc with hc | ⟨b, o, ha, hc⟩
    · exact Or.inl hc
    · by_cases h0 : zs.length = 0
      · exact Or.inl h0
      · exact Or.inr ⟨b, o, ha, by rw [hB]; exact World.block_lt_of_cell? w ⟨b, o + 0, none⟩ (hc 0 (by omega)), hc⟩
  have HC := Lib.hid hcB
  clear hB hc hcB
  obtain ⟨n, hn⟩ : ∃ n, n = zs.length := ⟨_, rfl⟩
  rw [← hn] at hlen
  rw [← hn]
  have HN := Lib.hid hn
  clear hn hl
  go_enter Try.func54, Try.ntmps54
  go_wp2_with (first | (at_make; refine wpList_make_full _ rfl _ _ 53 rfl B 3 i0 (.int .i64 0) 1 Try.underlying53 hi hz0 hz1 _ _ _ _ n rfl rfl rfl rfl ?_ ?_ ?_ ?_))
  · rw [hz2]; omega
  · unfold maxLen; omega
  · have := HB.out; simp; omega
  intro w1 hown hg
  have hb1 : Below B w w1 := (((Below.refl _ _).alloc (by have := HB.out; omega) _).grown hg (by have := HB.out; simp; omega) (by simp))
  have hbox : w1.cell? ⟨w.heap.size, 0, none⟩ = some (.slice a n cap) := by
    rw [World.cell?_of_block (hg.block w.heap.size (by simp) (by simp)), World.cell?_alloc_at _ _ _ _ rfl]; rfl
  have hh := owns_heap hown
  have HH := Lib.hid (show w1.heap[w.heap.size + 1]? = some (.cells (List.replicate n (Value.int .i64 0)).toArray 3 (0, 0)) by
    rw [hh, madeZeros]; simp)
  have HW := Lib.hid (show ∀ b, b < B → ∀ o, w1.cell? ⟨b, o, none⟩ = w.cell? ⟨b, o, none⟩ from fun b hb o => hb1.cell (p := ⟨b, o, none⟩) hb)
  have HG := Lib.hid hb1
  have h1 : Hid ((zs.map (Value.int .i64)).length = Nat.min n n) := Lib.hid (by rw [HN.out]; simp)
  have h2 : Hid (0 < (zs.map (Value.int .i64)).length → (some (⟨w.heap.size + 1, 0, none⟩ : Addr)) = some ⟨w.heap.size + 1, 0, none⟩ ∧ ∃ ad, a = some ad ∧ ∀ j v, (zs.map (Value.int .i64))[j]? = some v → w1.cell? (ad.add j) = some v) := Lib.hid (by
    intro h0
    rw [List.length_map] at h0
    refine ⟨rfl, ?_⟩
    rcases HC.out with hc | ⟨b, o, rfl, hbB, hc⟩
    · omega
    · refine ⟨_, rfl, fun j u hj => ?_⟩
      have hjl : j < zs.length := by have := (List.getElem?_eq_some_iff.1 hj).1; simpa using this
      rw [show (⟨b, o, none⟩ : Addr).add j = ⟨b, o + j, none⟩ by simp [Addr.add], HW.out b hbB, hc j hjl, ← hj]
      simp [List.getD, List.getElem?_eq_getElem hjl])
  have h3 : Hid (0 + (zs.map (Value.int .i64)).length ≤ (List.replicate n (Value.int .i64 0)).length) := Lib.hid (by rw [HN.out]; simp)
  have h4 : Hid (B ≤ w.heap.size + 1) := Lib.hid (by have := HB.out; omega)
  clear hh hown hg hb1
  go_wp2_with (first | ((with_reducible refine wpList_copy_splice (o := ⟨some 11, _, _, _, _, _⟩) rfl (.tmp 8) (.tmp 10) 53 53 rfl 3 Try.underlying53 size_int _ _ n n n cap rfl rfl (w.heap.size + 1) 0 (List.replicate n (Value.int .i64 0)) 3 HH.out (zs.map (Value.int .i64)) h1.out h2.out h3.out (ints_oneCell _ _) B w HG.out h4.out ?_); intro w2 hh2 hb2))
  go_ret
  refine ⟨_, rfl, ?_, hb2⟩
  have hs : splice (List.replicate n (Value.int .i64 0)) 0 (zs.map (Value.int .i64)) = zs.map (Value.int .i64) := by
    unfold splice; simp; have := HN.out; omega
  have := hh2.out
  rw [hs] at this
  exact owns_of_heap this (by rw [HN.out]; simp) h4.out (by unfold maxLen; omega)

/-- The cells behind an access. -/
def appZ (k c o n : Int) (zs : List Int) : List Int :=
  if k = 2 ∨ (k = 3 ∧ zs.getD c.toNat 0 = o) then zs.set c.toNat n else if k = 4 then zs.set c.toNat (wrap64 (zs.getD c.toNat 0 + n)) else zs
/-- Did it succeed? -/
def appOk (k c o : Int) (zs : List Int) : Bool := !(k == 3) || zs.getD c.toNat 0 == o
theorem appZ_length (k c o n : Int) (zs : List Int) : (appZ k c o n zs).length = zs.length := by unfold appZ; split; simp; split <;> simp
/-- A result. -/
def resV (r : Int) (ok : Bool) : Value := .agg #[.int .i64 r, .bool ok]

theorem map_set (zs : List Int) (j : Nat) (x : Int) : (zs.map (Value.int .i64)).set j (.int .i64 x) = (zs.set j x).map (Value.int .i64) := by
  rw [List.map_set]

/-- What a call of 'apply' finds: cell j of the row, whatever new blocks lie behind it. -/
theorem row_facts {B g cap j : Nat} {zs : List Int} {w : World} (hown : w.ownsRow B 3 1 (.slice (some ⟨g, 0, none⟩) zs.length cap) zs.length (zs.map (Value.int .i64))) (hj : j < zs.length) :
    g < w.heap.size ∧ w.cell? ⟨g, j, none⟩ = some (.int .i64 (zs.getD j 0)) ∧ w.frozen? ⟨g, j, none⟩ = false ∧
    (∀ c1 c2 c3, (((w.alloc (.cells c1 32)).alloc (.cells c2 85)).alloc (.cells c3 85)).frozen? ⟨g, j, none⟩ = false) ∧
    (∀ c1 c2 c3, (((w.alloc (.cells c1 32)).alloc (.cells c2 85)).alloc (.cells c3 85)).cell? ⟨g, j, none⟩ = some (.int .i64 (zs.getD j 0))) := by
  have hgl : g < w.heap.size := (hown.lt g rfl).2
  have hcell : w.cell? ⟨g, j, none⟩ = some (.int .i64 (zs.getD j 0)) := by
    rw [hown.cellAt j (by omega)]; simp [List.getD, List.getElem?_eq_getElem hj]
  refine ⟨hgl, hcell, hown.frozenAt j, fun c1 c2 c3 => ?_, fun c1 c2 c3 => ?_⟩
  · rw [World.frozen?_alloc_past _ _ _ (by simp; omega), World.frozen?_alloc_past _ _ _ (by simp; omega), World.frozen?_alloc_past _ _ _ hgl]; exact hown.frozenAt j
  · rw [World.cell?_alloc_past _ _ _ (by simp; omega), World.cell?_alloc_past _ _ _ (by simp; omega), World.cell?_alloc_past _ _ _ hgl]; exact hcell

set_option maxHeartbeats 800000 in
theorem apply_store (B g cap : Nat) (zs : List Int) (c o n : Int) (b : ByteArray) (w : World) (hown : w.ownsRow B 3 1 (.slice (some ⟨g, 0, none⟩) zs.length cap) zs.length (zs.map (Value.int .i64)))
    (h0 : 0 ≤ c) (h1 : c < zs.length) (hB : B ≤ w.heap.size) : Calls Try.prog 56 #[.slice (some ⟨g, 0, none⟩) zs.length cap, acc 2 c o n b] w fun e w' =>
    e = .returned (resV (zs.getD c.toNat 0) true) ∧ w'.ownsRow B 3 1 (.slice (some ⟨g, 0, none⟩) zs.length cap) zs.length ((zs.set c.toNat n).map (Value.int .i64)) ∧ Below B w w' ∧ w.grownBy w' (some g) := by
  obtain ⟨j, rfl⟩ := Int.eq_ofNat_of_zero_le h0
  have hj : j < zs.length := by omega
  obtain ⟨hgl, hcell, hfz, hf3, hc3⟩ := row_facts hown hj
  have hBg := (hown.lt g rfl).1
  rw [Int.toNat_natCast]
  obtain ⟨x, hx'⟩ : ∃ x, x = zs.getD j 0 := ⟨_, rfl⟩
  rw [← hx'] at hcell hc3
  have HX := Lib.hid hx'
  obtain ⟨L, hL⟩ : ∃ L, L = zs.length := ⟨_, rfl⟩
  have hjL : (j : Int) < L := by omega
  have HO := Lib.hid hown
  rw [← hL]
  have HL := Lib.hid hL
  unfold acc
  clear hL hown h0 h1 hx'
  go_enter Try.func56, Try.ntmps56
  go_wp2
  refine bodyPost_ret (v := resV x true) (by simp [results, Try.results56, go_sem, resV]) rfl ⟨by rw [HX.out], ?_, ?_, ?_⟩
  · rw [HL.out, List.map_set]
    repeat (first | with_reducible exact HO.out | with_reducible refine owns_setCell_other ?_ (by simp [Value.ownBlock]; omega) _ | with_reducible refine World.ownsRow.alloc ?_ _ | with_reducible refine (World.ownsRow.stored ?_ _ _).1)
  · repeat (first | with_reducible exact Below.refl _ _ | with_reducible refine Below.drew ?_ | with_reducible refine Below.setCell ?_ (by first | omega | (simp; omega)) _ | with_reducible refine Below.alloc ?_ (by first | omega | (simp; omega)) _)
  · repeat (first | with_reducible exact gb_refl _ _ | with_reducible refine gb_drew ?_ | with_reducible refine gb_set ?_ (by first | exact Or.inl rfl | (right; first | omega | (simp; omega) | simp)) _ | with_reducible refine gb_alloc ?_ _)

set_option maxHeartbeats 800000 in
theorem apply_load (B g cap : Nat) (zs : List Int) (c o n : Int) (b : ByteArray) (w : World) (hown : w.ownsRow B 3 1 (.slice (some ⟨g, 0, none⟩) zs.length cap) zs.length (zs.map (Value.int .i64)))
    (h0 : 0 ≤ c) (h1 : c < zs.length) (hB : B ≤ w.heap.size) : Calls Try.prog 56 #[.slice (some ⟨g, 0, none⟩) zs.length cap, acc 1 c o n b] w fun e w' =>
    e = .returned (resV (zs.getD c.toNat 0) true) ∧ w'.ownsRow B 3 1 (.slice (some ⟨g, 0, none⟩) zs.length cap) zs.length ((zs).map (Value.int .i64)) ∧ Below B w w' ∧ w.grownBy w' (some g) := by
  obtain ⟨j, rfl⟩ := Int.eq_ofNat_of_zero_le h0
  have hj : j < zs.length := by omega
  obtain ⟨hgl, hcell, hfz, hf3, hc3⟩ := row_facts hown hj
  have hBg := (hown.lt g rfl).1
  rw [Int.toNat_natCast]
  obtain ⟨x, hx'⟩ : ∃ x, x = zs.getD j 0 := ⟨_, rfl⟩
  rw [← hx'] at hcell hc3
  have HX := Lib.hid hx'
  obtain ⟨L, hL⟩ : ∃ L, L = zs.length := ⟨_, rfl⟩
  have hjL : (j : Int) < L := by omega
  have HO := Lib.hid hown
  rw [← hL]
  have HL := Lib.hid hL
  unfold acc
  clear hL hown h0 h1 hx'
  go_enter Try.func56, Try.ntmps56
  go_wp2
  refine bodyPost_ret (v := resV x true) (by simp [results, Try.results56, go_sem, resV]) rfl ⟨by rw [HX.out], ?_, ?_, ?_⟩
  · rw [HL.out]
    repeat (first | with_reducible exact HO.out | with_reducible refine owns_setCell_other ?_ (by simp [Value.ownBlock]; omega) _ | with_reducible refine World.ownsRow.alloc ?_ _)
  · repeat (first | with_reducible exact Below.refl _ _ | with_reducible refine Below.setCell ?_ (by first | omega | (simp; omega)) _ | with_reducible refine Below.alloc ?_ (by first | omega | (simp; omega)) _)
  · repeat (first | with_reducible exact gb_refl _ _ | with_reducible refine gb_drew ?_ | with_reducible refine gb_set ?_ (by first | exact Or.inl rfl | (right; first | omega | (simp; omega) | simp)) _ | with_reducible refine gb_alloc ?_ _)

set_option maxHeartbeats 800000 in
theorem apply_yes (B g cap : Nat) (zs : List Int) (c o n : Int) (b : ByteArray) (w : World) (hown : w.ownsRow B 3 1 (.slice (some ⟨g, 0, none⟩) zs.length cap) zs.length (zs.map (Value.int .i64)))
    (h0 : 0 ≤ c) (h1 : c < zs.length) (hB : B ≤ w.heap.size) (hx : zs.getD c.toNat 0 = o) : Calls Try.prog 56 #[.slice (some ⟨g, 0, none⟩) zs.length cap, acc 3 c o n b] w fun e w' =>
    e = .returned (resV (zs.getD c.toNat 0) true) ∧ w'.ownsRow B 3 1 (.slice (some ⟨g, 0, none⟩) zs.length cap) zs.length ((zs.set c.toNat n).map (Value.int .i64)) ∧ Below B w w' ∧ w.grownBy w' (some g) := by
  obtain ⟨j, rfl⟩ := Int.eq_ofNat_of_zero_le h0
  have hj : j < zs.length := by omega
  obtain ⟨hgl, hcell, hfz, hf3, hc3⟩ := row_facts hown hj
  have hBg := (hown.lt g rfl).1
  rw [Int.toNat_natCast]
  rw [Int.toNat_natCast] at hx
  obtain ⟨x, hx'⟩ : ∃ x, x = zs.getD j 0 := ⟨_, rfl⟩
  rw [← hx'] at hcell hc3 hx
  subst hx
  have HX := Lib.hid hx'
  obtain ⟨L, hL⟩ : ∃ L, L = zs.length := ⟨_, rfl⟩
  have hjL : (j : Int) < L := by omega
  have HO := Lib.hid hown
  rw [← hL]
  have HL := Lib.hid hL
  unfold acc
  clear hL hown h0 h1 hx'
  go_enter Try.func56, Try.ntmps56
  go_wp2
  refine bodyPost_ret (v := resV x true) (by simp [results, Try.results56, go_sem, resV]) rfl ⟨by rw [HX.out], ?_, ?_, ?_⟩
  · rw [HL.out]
    rw [List.map_set]
    repeat (first | with_reducible exact HO.out | with_reducible refine owns_setCell_other ?_ (by simp [Value.ownBlock]; omega) _ | with_reducible refine World.ownsRow.alloc ?_ _ | with_reducible refine (World.ownsRow.stored ?_ _ _).1)
  · repeat (first | with_reducible exact Below.refl _ _ | with_reducible refine Below.setCell ?_ (by first | omega | (simp; omega)) _ | with_reducible refine Below.alloc ?_ (by first | omega | (simp; omega)) _)
  · repeat (first | with_reducible exact gb_refl _ _ | with_reducible refine gb_drew ?_ | with_reducible refine gb_set ?_ (by first | exact Or.inl rfl | (right; first | omega | (simp; omega) | simp)) _ | with_reducible refine gb_alloc ?_ _)

set_option maxHeartbeats 800000 in
theorem apply_no (B g cap : Nat) (zs : List Int) (c o n : Int) (b : ByteArray) (w : World) (hown : w.ownsRow B 3 1 (.slice (some ⟨g, 0, none⟩) zs.length cap) zs.length (zs.map (Value.int .i64)))
    (h0 : 0 ≤ c) (h1 : c < zs.length) (hB : B ≤ w.heap.size) (hx : zs.getD c.toNat 0 ≠ o) : Calls Try.prog 56 #[.slice (some ⟨g, 0, none⟩) zs.length cap, acc 3 c o n b] w fun e w' =>
    e = .returned (resV (zs.getD c.toNat 0) false) ∧ w'.ownsRow B 3 1 (.slice (some ⟨g, 0, none⟩) zs.length cap) zs.length ((zs).map (Value.int .i64)) ∧ Below B w w' ∧ w.grownBy w' (some g) := by
  obtain ⟨j, rfl⟩ := Int.eq_ofNat_of_zero_le h0
  have hj : j < zs.length := by omega
  obtain ⟨hgl, hcell, hfz, hf3, hc3⟩ := row_facts hown hj
  have hBg := (hown.lt g rfl).1
  rw [Int.toNat_natCast]
  rw [Int.toNat_natCast] at hx
  obtain ⟨x, hx'⟩ : ∃ x, x = zs.getD j 0 := ⟨_, rfl⟩
  rw [← hx'] at hcell hc3 hx
  have he : (x == o) = false := by simp [hx]
  clear hx
  have HX := Lib.hid hx'
  obtain ⟨L, hL⟩ : ∃ L, L = zs.length := ⟨_, rfl⟩
  have hjL : (j : Int) < L := by omega
  have HO := Lib.hid hown
  rw [← hL]
  have HL := Lib.hid hL
  unfold acc
  clear hL hown h0 h1 hx'
  go_enter Try.func56, Try.ntmps56
  go_wp2
  refine bodyPost_ret (v := resV x false) (by simp [results, Try.results56, go_sem, resV]) rfl ⟨by rw [HX.out], ?_, ?_, ?_⟩
  · rw [HL.out]
    repeat (first | with_reducible exact HO.out | with_reducible refine owns_setCell_other ?_ (by simp [Value.ownBlock]; omega) _ | with_reducible refine World.ownsRow.alloc ?_ _)
  · repeat (first | with_reducible exact Below.refl _ _ | with_reducible refine Below.setCell ?_ (by first | omega | (simp; omega)) _ | with_reducible refine Below.alloc ?_ (by first | omega | (simp; omega)) _)
  · repeat (first | with_reducible exact gb_refl _ _ | with_reducible refine gb_drew ?_ | with_reducible refine gb_set ?_ (by first | exact Or.inl rfl | (right; first | omega | (simp; omega) | simp)) _ | with_reducible refine gb_alloc ?_ _)

set_option maxHeartbeats 800000 in
theorem apply_add (B g cap : Nat) (zs : List Int) (c o n : Int) (b : ByteArray) (w : World) (hown : w.ownsRow B 3 1 (.slice (some ⟨g, 0, none⟩) zs.length cap) zs.length (zs.map (Value.int .i64)))
    (h0 : 0 ≤ c) (h1 : c < zs.length) (hB : B ≤ w.heap.size) : Calls Try.prog 56 #[.slice (some ⟨g, 0, none⟩) zs.length cap, acc 4 c o n b] w fun e w' =>
    e = .returned (resV (zs.getD c.toNat 0) true) ∧ w'.ownsRow B 3 1 (.slice (some ⟨g, 0, none⟩) zs.length cap) zs.length ((zs.set c.toNat (wrap64 (zs.getD c.toNat 0 + n))).map (Value.int .i64)) ∧ Below B w w' ∧ w.grownBy w' (some g) := by
  obtain ⟨j, rfl⟩ := Int.eq_ofNat_of_zero_le h0
  have hj : j < zs.length := by omega
  obtain ⟨hgl, hcell, hfz, hf3, hc3⟩ := row_facts hown hj
  have hBg := (hown.lt g rfl).1
  rw [Int.toNat_natCast]
  obtain ⟨x, hx'⟩ : ∃ x, x = zs.getD j 0 := ⟨_, rfl⟩
  rw [← hx'] at hcell hc3
  have HX := Lib.hid hx'
  obtain ⟨L, hL⟩ : ∃ L, L = zs.length := ⟨_, rfl⟩
  have hjL : (j : Int) < L := by omega
  have HO := Lib.hid hown
  rw [← hL]
  have HL := Lib.hid hL
  unfold acc
  clear hL hown h0 h1 hx'
  go_enter Try.func56, Try.ntmps56
  go_wp2
  go_region
  all_goals (
    go_wp2
    refine bodyPost_ret (v := resV x true) (by simp [results, Try.results56, go_sem, resV]) rfl ⟨by rw [HX.out], ?_, ?_, ?_⟩
    · rw [HL.out, ← HX.out, List.map_set]
      repeat (first | with_reducible exact HO.out | with_reducible refine owns_setCell_other ?_ (by simp [Value.ownBlock]; omega) _ | with_reducible refine World.ownsRow.drew ?_ | with_reducible refine World.ownsRow.alloc ?_ _ | with_reducible refine (World.ownsRow.stored ?_ _ _).1)
    · repeat (first | with_reducible exact Below.refl _ _ | with_reducible refine Below.drew ?_ | with_reducible refine Below.setCell ?_ (by first | omega | (simp; omega)) _ | with_reducible refine Below.alloc ?_ (by first | omega | (simp; omega)) _)
    · repeat (first | with_reducible exact gb_refl _ _ | with_reducible refine gb_drew ?_ | with_reducible refine gb_set ?_ (by first | exact Or.inl rfl | (right; first | omega | (simp; omega) | simp)) _ | with_reducible refine gb_alloc ?_ _))

theorem appZ_no {c o n : Int} {zs : List Int} (hx : ¬ zs.getD c.toNat 0 = o) : appZ 3 c o n zs = zs := by
  unfold appZ
  rw [if_neg, if_neg (by omega)]
  intro h
  rcases h with h | ⟨_, h⟩
  · omega
  · exact hx h

theorem apply_any (B g cap : Nat) (zs : List Int) (k c o n : Int) (b : ByteArray) (w : World) (hown : w.ownsRow B 3 1 (.slice (some ⟨g, 0, none⟩) zs.length cap) zs.length (zs.map (Value.int .i64)))
    (hk : k = 1 ∨ k = 2 ∨ k = 3 ∨ k = 4) (h0 : 0 ≤ c) (h1 : c < zs.length) (hB : B ≤ w.heap.size) : Calls Try.prog 56 #[.slice (some ⟨g, 0, none⟩) zs.length cap, acc k c o n b] w fun e w' =>
    e = .returned (resV (zs.getD c.toNat 0) (appOk k c o zs)) ∧ w'.ownsRow B 3 1 (.slice (some ⟨g, 0, none⟩) zs.length cap) zs.length ((appZ k c o n zs).map (Value.int .i64)) ∧ Below B w w' ∧ w.grownBy w' (some g) := by
  rcases hk with rfl | rfl | rfl | rfl
  · exact apply_load B g cap zs c o n b w hown h0 h1 hB
  · exact apply_store B g cap zs c o n b w hown h0 h1 hB
  · by_cases hx : zs.getD c.toNat 0 = o
    · have := apply_yes B g cap zs c o n b w hown h0 h1 hB hx
      rw [show appOk 3 c o zs = true by unfold appOk; rw [hx]; simp, show appZ 3 c o n zs = zs.set c.toNat n by unfold appZ; rw [if_pos (Or.inr ⟨rfl, hx⟩)]]
      exact this
    · have := apply_no B g cap zs c o n b w hown h0 h1 hB hx
      rw [show appOk 3 c o zs = false by unfold appOk; rw [beq_eq_false_iff_ne.2 hx]; rfl, appZ_no hx]
      exact this
  · exact apply_add B g cap zs c o n b w hown h0 h1 hB

end Go.Proofs.Ytaclnaedinfhmaa
