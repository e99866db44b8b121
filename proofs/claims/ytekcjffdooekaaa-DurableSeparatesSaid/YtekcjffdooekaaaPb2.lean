/-
  Merged: Base, MemA, MemB, MemE, MemF, Aux, MemC, MemD, MemP
-/
import Derived.Test.YtekcjffdooekaaaRows
import Derived.WalkKit
import Derived.ProofKit
import Derived.OpenShut
import Derived.Lib.Hide
import Derived.SizedLaws
import Derived.Laws.CopyOwn
import Derived.Deep.QuietTactic
import Derived.BigQuiet

/-
  Small facts used by all texts of this seat: integers in range, slices of integers in memory, what stays below a block number.
-/
namespace Go.Proofs.Ytekcjffdooekaaa
open Go.ChangeShapes Go.WideShapes Go.ChangeAt Go.RowKit

/-- The bounds of an int. -/
def I64 (n : Int) : Prop := -9223372036854775808 ≤ n ∧ n ≤ 9223372036854775807
theorem i64_of_wf {n : Int} (h : (Lit.int .i64 n).wf = true) : I64 n := by
  have h1 : IntKind.i64.min = -9223372036854775808 := rfl
  have h2 : IntKind.i64.max = 9223372036854775807 := rfl
  simp only [Lit.wf, Bool.and_eq_true, decide_eq_true_eq] at h
  unfold I64; omega
theorem i64_wrap64 (n : Int) : I64 (wrap64 n) := by unfold I64 wrap64; omega
theorem wrap64_id {n : Int} (h : I64 n) : wrap64 n = n := by unfold I64 at h; unfold wrap64; omega
theorem i64_zero : I64 0 := ⟨by decide, by decide⟩
theorem u8_of_wf {n : Int} (h : (Lit.int .u8 n).wf = true) : 0 ≤ n ∧ n ≤ 255 := by
  have h1 : IntKind.u8.min = 0 := rfl
  have h2 : IntKind.u8.max = 255 := rfl
  simp only [Lit.wf, Bool.and_eq_true, decide_eq_true_eq] at h
  omega
theorem ret_bool {a b : Bool} (h : a = b) : Ending.returned (.bool a) = .returned (.bool b) := by rw [h]
theorem ret_int {k : IntKind} {a b : Int} (h : a = b) : Ending.returned (.int k a) = .returned (.int k b) := by rw [h]

theorem below_drewN {B : Nat} {a w : World} (h : Below B a w) (n : Nat) : Below B a (w.drewN n) := h.trans ⟨rfl, rfl, rfl, Nat.le_refl _, fun _ _ => rfl⟩
theorem below_then {a b c : World} (h : Below a.heap.size a b) (k : Below b.heap.size b c) : Below a.heap.size a c := h.trans (k.mono h.size)

theorem info_int : (Try.prog.info? 3).map (fun i => (i.zero, i.size, i.bytes)) = some (some (.int .i64 0), 1, 8) := by kernel_rfl
theorem size_int : (Try.prog.info? 3).map (·.size) = some 1 := by kernel_rfl

/-- The slice value v holds these integers. -/
def HasInts (w : World) (v : Value) (zs : List Int) : Prop :=
  ∃ a cap, v = .slice a zs.length cap ∧ zs.length ≤ 9223372036854775807 ∧ (zs.length = 0 ∨ ∃ b o, a = some ⟨b, o, none⟩ ∧ ∀ j, j < zs.length → w.cell? ⟨b, o + j, none⟩ = some (.int .i64 (zs.getD j 0)))

theorem hasInts_of_owns {w : World} {B : Nat} {v : Value} {zs : List Int} (h : w.ownsRow B 3 1 v zs.length (zs.map (Value.int .i64))) : HasInts w v zs := by
  have h0 := h
  obtain ⟨_, h | ⟨g, cap, cur, rfl, _, _, hn, hc, _, _⟩⟩ := h
  · obtain ⟨rfl, hz⟩ := h
    exact ⟨none, 0, by rw [hz], by omega, Or.inl hz⟩
  · refine ⟨some ⟨g, 0, none⟩, cap, rfl, by unfold maxLen at hc; omega, Or.inr ⟨g, 0, rfl, fun j hj => ?_⟩⟩
    rw [Nat.zero_add, h0.cellAt j (by omega)]
    simp [List.getD, List.getElem?_eq_getElem hj]

theorem hasInts_keep {w w' : World} {v : Value} {zs : List Int} (h : HasInts w v zs) (hb : Below w.heap.size w w') : HasInts w' v zs := by
  obtain ⟨a, cap, rfl, hl, h⟩ := h
  refine ⟨a, cap, rfl, hl, ?_⟩
  rcases h with h | ⟨b, o, rfl, h⟩
  · exact Or.inl h
  · refine Or.inr ⟨b, o, rfl, fun j hj => ?_⟩
    have hc := h j hj
    have hlt : b < w.heap.size := World.block_lt_of_cell? w ⟨b, o + j, none⟩ hc
    exact (hb.cell (p := ⟨b, o + j, none⟩) hlt).trans hc
theorem hasInts_drewN {w : World} {v : Value} {zs : List Int} (h : HasInts w v zs) (n : Nat) : HasInts (w.drewN n) v zs := h

theorem owns_setCell_other {w : World} {B e size n : Nat} {v : Value} {xs : List Value} (h : w.ownsRow B e size v n xs) {a : Addr} (hne : v.ownBlock ≠ some a.block) (u : Value) : (w.setCell a u).ownsRow B e size v n xs := by
  obtain ⟨h1, h2⟩ := h
  refine ⟨h1, ?_⟩
  rcases h2 with h2 | ⟨g, cap, cur, rfl, hb, hh, r⟩
  · exact Or.inl h2
  · exact Or.inr ⟨g, cap, cur, rfl, hb, by rw [Below.heap_setCell _ _ _ _ (by simpa [Value.ownBlock] using hne)]; exact hh, r⟩

theorem cell_alloc {w : World} {a : Addr} {v : Value} (o : Obj) (h : w.cell? a = some v) : (w.alloc o).cell? a = some v :=
  (World.cell?_alloc_lt w o a (World.block_lt_of_cell? w a h)).trans h

theorem bcell {W w1 : World} (hb : Below W.heap.size W w1) : (∀ b o, b < W.heap.size → w1.cell? ⟨b, o, none⟩ = W.cell? ⟨b, o, none⟩) ∧ (∀ b o, b < W.heap.size → w1.frozen? ⟨b, o, none⟩ = W.frozen? ⟨b, o, none⟩) :=
  ⟨fun b o h => hb.cell (p := ⟨b, o, none⟩) h, fun b o h => hb.frozen (p := ⟨b, o, none⟩) h⟩

theorem bcellB {B : Nat} {W w1 : World} (hb : Below B W w1) : (∀ b o, b < B → w1.cell? ⟨b, o, none⟩ = W.cell? ⟨b, o, none⟩) ∧ (∀ b o, b < B → w1.frozen? ⟨b, o, none⟩ = W.frozen? ⟨b, o, none⟩) :=
  ⟨fun b o h => hb.cell (p := ⟨b, o, none⟩) h, fun b o h => hb.frozen (p := ⟨b, o, none⟩) h⟩

theorem frozen_alloc {w : World} {b o : Nat} {r : Bool} (ob : Obj) (hb : b < w.heap.size) (h : w.frozen? ⟨b, o, none⟩ = r) : (w.alloc ob).frozen? ⟨b, o, none⟩ = r :=
  (World.frozen?_alloc_past _ _ _ hb).trans h

theorem gb_refl (w : World) (r : Option Nat) : w.grownBy w r := ⟨rfl, rfl, rfl, Nat.le_refl _, fun _ _ _ => rfl⟩
theorem gb_alloc {w w' : World} {r : Option Nat} (h : w.grownBy w' r) (o : Obj) : w.grownBy (w'.alloc o) r :=
  ⟨h.os, h.tape, h.output, Nat.le_trans h.size (by simp), fun k hk hne => (Below.heap_alloc _ _ _ (Nat.lt_of_lt_of_le hk h.size)).trans (h.block k hk hne)⟩
theorem gb_set {w w' : World} {g : Nat} (h : w.grownBy w' (some g)) {a : Addr} (ha : a.block = g ∨ w.heap.size ≤ a.block) (u : Value) : w.grownBy (w'.setCell a u) (some g) :=
  ⟨h.os, h.tape, h.output, Nat.le_trans h.size (by simp [World.setCell]), fun k hk hne => (Below.heap_setCell _ _ _ _ (by
    rcases ha with ha | ha
    · intro hc; apply hne; rw [hc, ha]
    · omega)).trans (h.block k hk hne)⟩
theorem gb_drew {w w' : World} {r : Option Nat} (h : w.grownBy w' r) : w.grownBy w'.drew r := ⟨h.os, h.tape, h.output, h.size, h.block⟩
theorem owns_mono {w : World} {B B' e size n : Nat} {v : Value} {xs : List Value} (h : w.ownsRow B e size v n xs) (hb : B' ≤ B) : w.ownsRow B' e size v n xs :=
  ⟨h.1, h.2.imp id fun ⟨g, cap, cur, h1, h2, h3⟩ => ⟨g, cap, cur, h1, Nat.le_trans hb h2, h3⟩⟩
theorem owns_slice {w : World} {B e size n : Nat} {v : Value} {xs : List Value} (h : w.ownsRow B e size v n xs) : ∃ a c, v = .slice a n c := by
  obtain ⟨_, ⟨rfl, rfl⟩ | ⟨g, cap, cur, rfl, _⟩⟩ := h
  · exact ⟨_, _, rfl⟩
  · exact ⟨_, _, rfl⟩
/-- Two rows of different element types lie in different blocks. -/
theorem owns_apart {w : World} {B e e' size size' n n' : Nat} {v v' : Value} {xs xs' : List Value} (h : w.ownsRow B e size v n xs) (h' : w.ownsRow B e' size' v' n' xs') (hne : e ≠ e') : v.ownBlock = none ∨ v.ownBlock ≠ v'.ownBlock := by
  obtain ⟨_, ⟨rfl, _⟩ | ⟨g, cap, cur, rfl, _, hh, _⟩⟩ := h
  · exact Or.inl rfl
  · obtain ⟨_, ⟨rfl, _⟩ | ⟨g', cap', cur', rfl, _, hh', _⟩⟩ := h'
    · exact Or.inr (by simp [Value.ownBlock])
    · refine Or.inr ?_
      intro hc
      simp [Value.ownBlock] at hc
      subst hc
      rw [hh] at hh'
      simp at hh'
      exact hne hh'.2

theorem append_cell {w : World} {v : Value} {T : TypeId} (j : Nat) (u : Value) (hj : [v][j]? = some u) : (w.alloc (.cells #[v] T)).cell? ((⟨w.heap.size, 0, none⟩ : Addr).add j) = some u := by
  match j, hj with
  | 0, hj =>
    simp at hj; subst hj
    simp [Addr.add, World.cell?_alloc_at]

theorem take_succ_eq {zs ys : List Int} {k : Nat} (h : zs.take k = ys.take k) (hz : k < zs.length) (hy : k < ys.length) (he : zs.getD k 0 = ys.getD k 0) : zs.take (k + 1) = ys.take (k + 1) := by
  rw [List.take_succ_eq_append_getElem hz, List.take_succ_eq_append_getElem hy, h]
  simp [List.getD, List.getElem?_eq_getElem hz, List.getElem?_eq_getElem hy] at he
  rw [he]
theorem take_snoc' (l : List Int) (k : Nat) (h : k < l.length) : l.take (k + 1) = l.take k ++ [l.getD k 0] := by
  rw [List.take_succ_eq_append_getElem h]; simp [List.getD, List.getElem?_eq_getElem h]

end Go.Proofs.Ytekcjffdooekaaa


/-
  Layer 2: which accesses are valid; copying the cells of a memory; one access on cells of the call's own.
-/
namespace Go.Proofs.Ytekcjffdooekaaa
open Go.ChangeShapes Go.WideShapes Go.ChangeAt Go.RowKit

/-- An access. -/
def acc (k c o n : Int) (b : ByteArray) : Value := .agg #[.int .i64 k, .int .i64 c, .int .i64 o, .int .i64 n, .string b]
/-- Is it valid? -/
def rightB (k c o n : Int) (b : ByteArray) : Bool :=
  !decide (c < 0) && b.toList.isEmpty && (if k = 1 then n == 0 && o == 0 else if k = 2 ∨ k = 4 then o == 0 else decide (k = 3))

theorem right_any (k c o n : Int) (b : ByteArray) (w : World) : Calls Try.prog 58 #[acc k c o n b] w fun e w' =>
    e = .returned (.bool (rightB k c o n b)) ∧ ∃ cs, w' = w.alloc (.cells cs 30) := by
  unfold acc
  by_cases hc : c < 0
  · have HE := Lib.hid (show rightB k c o n b = false by unfold rightB; simp [hc])
    go_enter Try.func58, Try.ntmps58
    go_wp2
    go_ret
    exact ⟨ret_bool HE.out.symm, _, rfl⟩
  · have hc' : 0 ≤ c := by omega
    cases hb : b.toList.isEmpty
    · have HE := Lib.hid (show rightB k c o n b = false by unfold rightB; simp [hb])
      have hb2 : b.toList = [] ↔ False := by simpa using hb
      go_enter Try.func58, Try.ntmps58
      go_wp2
      all_goals (go_ret; exact ⟨ret_bool HE.out.symm, _, rfl⟩)
    · have hb2 : b.toList = [] := by simpa using hb
      by_cases k1 : k = 1
      · subst k1
        by_cases hn : n = 0
        · subst hn
          have HE := Lib.hid (show (o == 0) = rightB 1 c o 0 b by unfold rightB; simp [hc, hb2])
          clear hb
          go_enter Try.func58, Try.ntmps58
          go_wp2
          go_ret
          exact ⟨ret_bool HE.out, _, rfl⟩
        · have HE := Lib.hid (show rightB 1 c o n b = false by unfold rightB; simp [hn])
          have hn' : (n != 0) = true := by simp [hn]
          clear hb
          go_enter Try.func58, Try.ntmps58
          go_wp2
          go_ret
          exact ⟨ret_bool HE.out.symm, _, rfl⟩
      · by_cases k2 : k = 2 ∨ k = 4
        · have HE : Hid ((o == 0) = rightB k c o n b) := Lib.hid (by unfold rightB; simp [hc, hb2, k1, k2])
          clear hb
          rcases k2 with rfl | rfl
          all_goals
            go_enter Try.func58, Try.ntmps58
            go_wp2
            go_ret
            exact ⟨ret_bool HE.out, _, rfl⟩
        · by_cases k3 : k = 3
          · subst k3
            have HE := Lib.hid (show rightB 3 c o n b = true by unfold rightB; simp [hc, hb2])
            clear hb
            go_enter Try.func58, Try.ntmps58
            go_wp2
            go_ret
            exact ⟨ret_bool HE.out.symm, _, rfl⟩
          · have HE := Lib.hid (show rightB k c o n b = false by unfold rightB; simp [k1, k2, k3])
            have q1 : (k == 1) = false := by simp [k1]
            have q2 : (k == 2) = false := by simp; omega
            have q3 : (k == 3) = false := by simp [k3]
            have q4 : (k == 4) = false := by simp; omega
            clear hb k1 k2 k3
            go_enter Try.func58, Try.ntmps58
            go_wp2
            go_ret
            exact ⟨ret_bool HE.out.symm, _, rfl⟩

theorem rright_any (k c o n : Int) (b : ByteArray) (w : World) : Calls Try.prog 46 #[acc k c o n b] w fun e w' =>
    e = .returned (.bool (rightB k c o n b)) ∧ ∃ cs, w' = w.alloc (.cells cs 30) := by
  unfold acc
  by_cases k0 : k < 1
  · have HE := Lib.hid (show rightB k c o n b = false by
      have q1 : ¬ k = 1 := by omega
      have q2 : ¬ (k = 2 ∨ k = 4) := by omega
      have q3 : ¬ k = 3 := by omega
      unfold rightB; simp [q1, q2, q3])
    go_enter Try.func46, Try.ntmps46
    go_wp2
    go_ret
    exact ⟨ret_bool HE.out.symm, _, rfl⟩
  · by_cases k4 : 4 < k
    · have HE := Lib.hid (show rightB k c o n b = false by
        have q1 : ¬ k = 1 := by omega
        have q2 : ¬ (k = 2 ∨ k = 4) := by omega
        have q3 : ¬ k = 3 := by omega
        unfold rightB; simp [q1, q2, q3])
      have k0' : 1 ≤ k := by omega
      clear k0
      go_enter Try.func46, Try.ntmps46
      go_wp2
      go_ret
      exact ⟨ret_bool HE.out.symm, _, rfl⟩
    · have k0' : 1 ≤ k := by omega
      have k4' : k ≤ 4 := by omega
      clear k0 k4
      by_cases hc : c < 0
      · have HE := Lib.hid (show rightB k c o n b = false by unfold rightB; simp [hc])
        go_enter Try.func46, Try.ntmps46
        go_wp2
        go_ret
        exact ⟨ret_bool HE.out.symm, _, rfl⟩
      · have hc' : 0 ≤ c := by omega
        cases hb : b.toList.isEmpty
        · have HE := Lib.hid (show rightB k c o n b = false by unfold rightB; simp [hb])
          have hb2 : b.toList = [] ↔ False := by simpa using hb
          clear hc
          go_enter Try.func46, Try.ntmps46
          go_wp2
          go_ret
          exact ⟨ret_bool HE.out.symm, _, rfl⟩
        · have hb2 : b.toList = [] := by simpa using hb
          clear hb
          by_cases k3 : k = 3
          · subst k3
            have HE := Lib.hid (show rightB 3 c o n b = true by unfold rightB; simp [hc, hb2])
            clear hc
            go_enter Try.func46, Try.ntmps46
            go_wp2
            go_ret
            exact ⟨ret_bool HE.out.symm, _, rfl⟩
          · have q3 : (k == 3) = false := by simp [k3]
            by_cases ho : o = 0
            · subst ho
              by_cases k1 : k = 1
              · subst k1
                have HE := Lib.hid (show (n == 0) = rightB 1 c 0 n b by unfold rightB; simp [hc, hb2])
                clear hc k3
                go_enter Try.func46, Try.ntmps46
                go_wp2
                go_ret
                exact ⟨ret_bool HE.out, _, rfl⟩
              · have k2 : k = 2 ∨ k = 4 := by omega
                have HE := Lib.hid (show rightB k c 0 n b = true by unfold rightB; simp [hc, hb2, k1, k2])
                have q1 : (k == 1) = false := by simp [k1]
                have q2 : (k != 1) = true := by simp [k1]
                clear hc k3 k1 k2
                go_enter Try.func46, Try.ntmps46
                go_wp2
                go_ret
                exact ⟨ret_bool HE.out.symm, _, rfl⟩
            · have HE := Lib.hid (show rightB k c o n b = false by
                have : k = 1 ∨ k = 2 ∨ k = 4 := by omega
                unfold rightB
                rcases this with rfl | rfl | rfl <;> simp [ho])
              have qo : (o == 0) = false := by simp [ho]
              clear hc k3 ho
              go_enter Try.func46, Try.ntmps46
              go_wp2
              go_ret
              exact ⟨ret_bool HE.out.symm, _, rfl⟩

/-- The error of an access to a memory of some size. -/
def chk (size : Nat) (k c o n : Int) (b : ByteArray) : Int := if rightB k c o n b then (if (size : Int) ≤ c then 8 else 0) else 1

theorem check_any (size : Nat) (k c o n : Int) (b : ByteArray) (w : World) : Calls Try.prog 43 #[.int .i64 size, acc k c o n b] w fun e w' =>
    e = .returned (.int .i64 (chk size k c o n b)) ∧ ∃ cs cs', w' = (w.alloc (.cells cs 30)).alloc (.cells cs' 30) := by
  cases hr : rightB k c o n b
  · have HE := Lib.hid (show chk size k c o n b = 1 by unfold chk; simp [hr])
    have HR := Lib.hid hr
    clear hr
    have hq : ∀ w, Calls Try.prog 58 #[acc k c o n b] w fun e w' => e = .returned (.bool false) ∧ ∃ cs, w' = w.alloc (.cells cs 30) := fun w => by
      have := right_any k c o n b w; rwa [HR.out] at this
    have HQ := Lib.hid hq
    clear hq
    unfold acc at HQ ⊢
    go_enter Try.func43, Try.ntmps43
    go_wp2_with (first | (go_at_call 58; refine (HQ.out _).mono ?_; rintro e w' ⟨rfl, cs, rfl⟩))
    go_ret
    exact ⟨ret_int HE.out.symm, _, _, rfl⟩
  · have HR := Lib.hid hr
    have hq : ∀ w, Calls Try.prog 58 #[acc k c o n b] w fun e w' => e = .returned (.bool true) ∧ ∃ cs, w' = w.alloc (.cells cs 30) := fun w => by
      have := right_any k c o n b w; rwa [HR.out] at this
    have HQ := Lib.hid hq
    by_cases hs : (size : Int) ≤ c
    · have HE := Lib.hid (show chk size k c o n b = 8 by unfold chk; simp [hr, hs])
      clear hr hq
      unfold acc at HQ ⊢
      go_enter Try.func43, Try.ntmps43
      go_wp2_with (first | (go_at_call 58; refine (HQ.out _).mono ?_; rintro e w' ⟨rfl, cs, rfl⟩))
      go_ret
      exact ⟨ret_int HE.out.symm, _, _, rfl⟩
    · have HE := Lib.hid (show chk size k c o n b = 0 by unfold chk; simp [hr, hs])
      clear hr hq
      unfold acc at HQ ⊢
      go_enter Try.func43, Try.ntmps43
      go_wp2_with (first | (go_at_call 58; refine (HQ.out _).mono ?_; rintro e w' ⟨rfl, cs, rfl⟩))
      go_ret
      exact ⟨ret_int HE.out.symm, _, _, rfl⟩

theorem madeZeros (n : Nat) : (madeCells #[Value.int .i64 0] n).toList = (List.replicate n (0 : Int)).map (Value.int .i64) := by
  rw [toList_madeCells_one]; simp

theorem owns_heap {w : World} {B g n e : Nat} {xs : List Value} (h : w.ownsRow B e 1 (.slice (some ⟨g, 0, none⟩) n n) n xs) : w.heap[g]? = some (.cells xs.toArray e (0, 0)) := by
  obtain ⟨hl, ⟨h', _⟩ | ⟨g', cap', cur, h', _, hg, _, _, hs, ht⟩⟩ := h
  · simp at h'
  · simp only [Value.slice.injEq, Option.some.injEq, Addr.mk.injEq, and_true, true_and] at h'
    obtain ⟨rfl, rfl⟩ := h'
    rw [List.take_of_length_le (by simp; omega)] at ht
    rw [hg, ← ht]
theorem owns_of_heap {w : World} {B g e n : Nat} {xs : List Value} (h : w.heap[g]? = some (.cells xs.toArray e (0, 0))) (hn : xs.length = n) (hB : B ≤ g) (hm : n ≤ maxLen) : w.ownsRow B e 1 (.slice (some ⟨g, 0, none⟩) n n) n xs :=
  ⟨by omega, .inr ⟨g, n, xs.toArray, rfl, hB, h, Nat.le_refl _, hm, by simpa using hn, by rw [List.take_of_length_le (by simp; omega)]⟩⟩

theorem own_any (v : Value) (zs : List Int) (w : World) (hv : HasInts w v zs) (hlen : zs.length ≤ 35184372088832) : Calls Try.prog 44 #[.agg #[v]] w fun e w' =>
    ∃ u, e = .returned u ∧ w'.ownsRow w.heap.size 3 1 u zs.length (zs.map (Value.int .i64)) ∧ Below w.heap.size w w' := by
  obtain ⟨i0, hi, hz0, hz1, hz2⟩ := info_parts info_int
  obtain ⟨a, cap, rfl, hl, hc⟩ := hv
  obtain ⟨B, hB⟩ : ∃ B, B = w.heap.size := ⟨_, rfl⟩
  rw [← hB]
  have HB := Lib.hid hB
  have hcB : zs.length = 0 ∨ ∃ b o, a = some ⟨b, o, none⟩ ∧ b < B ∧ ∀ j, j < zs.length → w.cell? ⟨b, o + j, none⟩ = some (.int .i64 (zs.getD j 0)) := by
    rcases hc with hc | ⟨b, o, ha, hc⟩
    · exact Or.inl hc
    · by_cases h0 : zs.length = 0
      · exact Or.inl h0
      · exact Or.inr ⟨b, o, ha, by rw [hB]; exact World.block_lt_of_cell? w ⟨b, o + 0, none⟩ (hc 0 (by omega)), hc⟩
  have HC := Lib.hid hcB
  clear hB hc hcB
  obtain ⟨n, hn⟩ : ∃ n, n = zs.length := ⟨_, rfl⟩
  rw [← hn] at hlen
  rw [← hn]
  have HN := Lib.hid hn
  clear hn hl
  go_enter Try.func44, Try.ntmps44
  go_wp2_with (first | (at_make; refine wpList_make_full _ rfl _ _ 22 rfl B 3 i0 (.int .i64 0) 1 Try.underlying22 hi hz0 hz1 _ _ _ _ n rfl rfl rfl rfl ?_ ?_ ?_ ?_))
  · rw [hz2]; omega
  · unfold maxLen; omega
  · have := HB.out; simp; omega
  intro w1 hown hg
  have hb1 : Below B w w1 := (((Below.refl _ _).alloc (by have := HB.out; omega) _).grown hg (by have := HB.out; simp; omega) (by simp))
  have hbox : w1.cell? ⟨w.heap.size, 0, none⟩ = some (.slice a n cap) := by
    rw [World.cell?_of_block (hg.block w.heap.size (by simp) (by simp)), World.cell?_alloc_at _ _ _ _ rfl]; rfl
  have hh := owns_heap hown
  have HH := Lib.hid (show w1.heap[w.heap.size + 1]? = some (.cells (List.replicate n (Value.int .i64 0)).toArray 3 (0, 0)) by
    rw [hh, madeZeros]; simp)
  have HW := Lib.hid (show ∀ b, b < B → ∀ o, w1.cell? ⟨b, o, none⟩ = w.cell? ⟨b, o, none⟩ from fun b hb o => hb1.cell (p := ⟨b, o, none⟩) hb)
  have HG := Lib.hid hb1
  have h1 : Hid ((zs.map (Value.int .i64)).length = Nat.min n n) := Lib.hid (by rw [HN.out]; simp)
  have h2 : Hid (0 < (zs.map (Value.int .i64)).length → (some (⟨w.heap.size + 1, 0, none⟩ : Addr)) = some ⟨w.heap.size + 1, 0, none⟩ ∧ ∃ ad, a = some ad ∧ ∀ j v, (zs.map (Value.int .i64))[j]? = some v → w1.cell? (ad.add j) = some v) := Lib.hid (by
    intro h0
    rw [List.length_map] at h0
    refine ⟨rfl, ?_⟩
    rcases HC.out with hc | ⟨b, o, rfl, hbB, hc⟩
    · omega
    · refine ⟨_, rfl, fun j u hj => ?_⟩
      have hjl : j < zs.length := by have := (List.getElem?_eq_some_iff.1 hj).1; simpa using this
      rw [show (⟨b, o, none⟩ : Addr).add j = ⟨b, o + j, none⟩ by simp [Addr.add], HW.out b hbB, hc j hjl, ← hj]
      simp [List.getD, List.getElem?_eq_getElem hjl])
  have h3 : Hid (0 + (zs.map (Value.int .i64)).length ≤ (List.replicate n (Value.int .i64 0)).length) := Lib.hid (by rw [HN.out]; simp)
  have h4 : Hid (B ≤ w.heap.size + 1) := Lib.hid (by have := HB.out; omega)
  clear hh hown hg hb1
  go_wp2_with (first | ((with_reducible refine wpList_copy_splice (o := ⟨some 11, _, _, _, _, _⟩) rfl (.tmp 8) (.tmp 10) 22 22 rfl 3 Try.underlying22 size_int _ _ n n n cap rfl rfl (w.heap.size + 1) 0 (List.replicate n (Value.int .i64 0)) 3 HH.out (zs.map (Value.int .i64)) h1.out h2.out h3.out (ints_oneCell _ _) B w HG.out h4.out ?_); intro w2 hh2 hb2))
  go_ret
  refine ⟨_, rfl, ?_, hb2⟩
  have hs : splice (List.replicate n (Value.int .i64 0)) 0 (zs.map (Value.int .i64)) = zs.map (Value.int .i64) := by
    unfold splice; simp; have := HN.out; omega
  have := hh2.out
  rw [hs] at this
  exact owns_of_heap this (by rw [HN.out]; simp) h4.out (by unfold maxLen; omega)

/-- The cells behind an access. -/
def appZ (k c o n : Int) (zs : List Int) : List Int :=
  if k = 2 ∨ (k = 3 ∧ zs.getD c.toNat 0 = o) then zs.set c.toNat n else if k = 4 then zs.set c.toNat (wrap64 (zs.getD c.toNat 0 + n)) else zs
/-- Did it succeed? -/
def appOk (k c o : Int) (zs : List Int) : Bool := !(k == 3) || zs.getD c.toNat 0 == o
theorem appZ_length (k c o n : Int) (zs : List Int) : (appZ k c o n zs).length = zs.length := by unfold appZ; split; simp; split <;> simp
/-- A result. -/
def resV (r : Int) (ok : Bool) : Value := .agg #[.int .i64 r, .bool ok]

theorem map_set (zs : List Int) (j : Nat) (x : Int) : (zs.map (Value.int .i64)).set j (.int .i64 x) = (zs.set j x).map (Value.int .i64) := by
  rw [List.map_set]

/-- What a call of 'apply' finds: cell j of the row, whatever new blocks lie behind it. -/
theorem row_facts {B g cap j : Nat} {zs : List Int} {w : World} (hown : w.ownsRow B 3 1 (.slice (some ⟨g, 0, none⟩) zs.length cap) zs.length (zs.map (Value.int .i64))) (hj : j < zs.length) :
    g < w.heap.size ∧ w.cell? ⟨g, j, none⟩ = some (.int .i64 (zs.getD j 0)) ∧ w.frozen? ⟨g, j, none⟩ = false ∧
    (∀ c1 c2 c3, (((w.alloc (.cells c1 30)).alloc (.cells c2 34)).alloc (.cells c3 34)).frozen? ⟨g, j, none⟩ = false) ∧
    (∀ c1 c2 c3, (((w.alloc (.cells c1 30)).alloc (.cells c2 34)).alloc (.cells c3 34)).cell? ⟨g, j, none⟩ = some (.int .i64 (zs.getD j 0))) := by
  have hgl : g < w.heap.size := (hown.lt g rfl).2
  have hcell : w.cell? ⟨g, j, none⟩ = some (.int .i64 (zs.getD j 0)) := by
    rw [hown.cellAt j (by omega)]; simp [List.getD, List.getElem?_eq_getElem hj]
  refine ⟨hgl, hcell, hown.frozenAt j, fun c1 c2 c3 => ?_, fun c1 c2 c3 => ?_⟩
  · rw [World.frozen?_alloc_past _ _ _ (by simp; omega), World.frozen?_alloc_past _ _ _ (by simp; omega), World.frozen?_alloc_past _ _ _ hgl]; exact hown.frozenAt j
  · rw [World.cell?_alloc_past _ _ _ (by simp; omega), World.cell?_alloc_past _ _ _ (by simp; omega), World.cell?_alloc_past _ _ _ hgl]; exact hcell

set_option maxHeartbeats 800000 in
theorem apply_store (B g cap : Nat) (zs : List Int) (c o n : Int) (b : ByteArray) (w : World) (hown : w.ownsRow B 3 1 (.slice (some ⟨g, 0, none⟩) zs.length cap) zs.length (zs.map (Value.int .i64)))
    (h0 : 0 ≤ c) (h1 : c < zs.length) (hB : B ≤ w.heap.size) : Calls Try.prog 45 #[.slice (some ⟨g, 0, none⟩) zs.length cap, acc 2 c o n b] w fun e w' =>
    e = .returned (resV (zs.getD c.toNat 0) true) ∧ w'.ownsRow B 3 1 (.slice (some ⟨g, 0, none⟩) zs.length cap) zs.length ((zs.set c.toNat n).map (Value.int .i64)) ∧ Below B w w' ∧ w.grownBy w' (some g) := by
  obtain ⟨j, rfl⟩ := Int.eq_ofNat_of_zero_le h0
  have hj : j < zs.length := by omega
  obtain ⟨hgl, hcell, hfz, hf3, hc3⟩ := row_facts hown hj
  have hBg := (hown.lt g rfl).1
  rw [Int.toNat_natCast]
  obtain ⟨x, hx'⟩ : ∃ x, x = zs.getD j 0 := ⟨_, rfl⟩
  rw [← hx'] at hcell hc3
  have HX := Lib.hid hx'
  obtain ⟨L, hL⟩ : ∃ L, L = zs.length := ⟨_, rfl⟩
  have hjL : (j : Int) < L := by omega
  have HO := Lib.hid hown
  rw [← hL]
  have HL := Lib.hid hL
  unfold acc
  clear hL hown h0 h1 hx'
  go_enter Try.func45, Try.ntmps45
  go_wp2
  refine bodyPost_ret (v := resV x true) (by simp [results, Try.results45, go_sem, resV]) rfl ⟨by rw [HX.out], ?_, ?_, ?_⟩
  · rw [HL.out, List.map_set]
    repeat (first | with_reducible exact HO.out | with_reducible refine owns_setCell_other ?_ (by simp [Value.ownBlock]; omega) _ | with_reducible refine World.ownsRow.alloc ?_ _ | with_reducible refine (World.ownsRow.stored ?_ _ _).1)
  · repeat (first | with_reducible exact Below.refl _ _ | with_reducible refine Below.drew ?_ | with_reducible refine Below.setCell ?_ (by first | omega | (simp; omega)) _ | with_reducible refine Below.alloc ?_ (by first | omega | (simp; omega)) _)
  · repeat (first | with_reducible exact gb_refl _ _ | with_reducible refine gb_drew ?_ | with_reducible refine gb_set ?_ (by first | exact Or.inl rfl | (right; first | omega | (simp; omega) | simp)) _ | with_reducible refine gb_alloc ?_ _)

set_option maxHeartbeats 800000 in
theorem apply_load (B g cap : Nat) (zs : List Int) (c o n : Int) (b : ByteArray) (w : World) (hown : w.ownsRow B 3 1 (.slice (some ⟨g, 0, none⟩) zs.length cap) zs.length (zs.map (Value.int .i64)))
    (h0 : 0 ≤ c) (h1 : c < zs.length) (hB : B ≤ w.heap.size) : Calls Try.prog 45 #[.slice (some ⟨g, 0, none⟩) zs.length cap, acc 1 c o n b] w fun e w' =>
    e = .returned (resV (zs.getD c.toNat 0) true) ∧ w'.ownsRow B 3 1 (.slice (some ⟨g, 0, none⟩) zs.length cap) zs.length ((zs).map (Value.int .i64)) ∧ Below B w w' ∧ w.grownBy w' (some g) := by
  obtain ⟨j, rfl⟩ := Int.eq_ofNat_of_zero_le h0
  have hj : j < zs.length := by omega
  obtain ⟨hgl, hcell, hfz, hf3, hc3⟩ := row_facts hown hj
  have hBg := (hown.lt g rfl).1
  rw [Int.toNat_natCast]
  obtain ⟨x, hx'⟩ : ∃ x, x = zs.getD j 0 := ⟨_, rfl⟩
  rw [← hx'] at hcell hc3
  have HX := Lib.hid hx'
  obtain ⟨L, hL⟩ : ∃ L, L = zs.length := ⟨_, rfl⟩
  have hjL : (j : Int) < L := by omega
  have HO := Lib.hid hown
  rw [← hL]
  have HL := Lib.hid hL
  unfold acc
  clear hL hown h0 h1 hx'
  go_enter Try.func45, Try.ntmps45
  go_wp2
  refine bodyPost_ret (v := resV x true) (by simp [results, Try.results45, go_sem, resV]) rfl ⟨by rw [HX.out], ?_, ?_, ?_⟩
  · rw [HL.out]
    repeat (first | with_reducible exact HO.out | with_reducible refine owns_setCell_other ?_ (by simp [Value.ownBlock]; omega) _ | with_reducible refine World.ownsRow.alloc ?_ _)
  · repeat (first | with_reducible exact Below.refl _ _ | with_reducible refine Below.setCell ?_ (by first | omega | (simp; omega)) _ | with_reducible refine Below.alloc ?_ (by first | omega | (simp; omega)) _)
  · repeat (first | with_reducible exact gb_refl _ _ | with_reducible refine gb_drew ?_ | with_reducible refine gb_set ?_ (by first | exact Or.inl rfl | (right; first | omega | (simp; omega) | simp)) _ | with_reducible refine gb_alloc ?_ _)

set_option maxHeartbeats 800000 in
theorem apply_yes (B g cap : Nat) (zs : List Int) (c o n : Int) (b : ByteArray) (w : World) (hown : w.ownsRow B 3 1 (.slice (some ⟨g, 0, none⟩) zs.length cap) zs.length (zs.map (Value.int .i64)))
    (h0 : 0 ≤ c) (h1 : c < zs.length) (hB : B ≤ w.heap.size) (hx : zs.getD c.toNat 0 = o) : Calls Try.prog 45 #[.slice (some ⟨g, 0, none⟩) zs.length cap, acc 3 c o n b] w fun e w' =>
    e = .returned (resV (zs.getD c.toNat 0) true) ∧ w'.ownsRow B 3 1 (.slice (some ⟨g, 0, none⟩) zs.length cap) zs.length ((zs.set c.toNat n).map (Value.int .i64)) ∧ Below B w w' ∧ w.grownBy w' (some g) := by
  obtain ⟨j, rfl⟩ := Int.eq_ofNat_of_zero_le h0
  have hj : j < zs.length := by omega
  obtain ⟨hgl, hcell, hfz, hf3, hc3⟩ := row_facts hown hj
  have hBg := (hown.lt g rfl).1
  rw [Int.toNat_natCast]
  rw [Int.toNat_natCast] at hx
  obtain ⟨x, hx'⟩ : ∃ x, x = zs.getD j 0 := ⟨_, rfl⟩
  rw [← hx'] at hcell hc3 hx
  subst hx
  have HX := Lib.hid hx'
  obtain ⟨L, hL⟩ : ∃ L, L = zs.length := ⟨_, rfl⟩
  have hjL : (j : Int) < L := by omega
  have HO := Lib.hid hown
  rw [← hL]
  have HL := Lib.hid hL
  unfold acc
  clear hL hown h0 h1 hx'
  go_enter Try.func45, Try.ntmps45
  go_wp2
  refine bodyPost_ret (v := resV x true) (by simp [results, Try.results45, go_sem, resV]) rfl ⟨by rw [HX.out], ?_, ?_, ?_⟩
  · rw [HL.out]
    rw [List.map_set]
    repeat (first | with_reducible exact HO.out | with_reducible refine owns_setCell_other ?_ (by simp [Value.ownBlock]; omega) _ | with_reducible refine World.ownsRow.alloc ?_ _ | with_reducible refine (World.ownsRow.stored ?_ _ _).1)
  · repeat (first | with_reducible exact Below.refl _ _ | with_reducible refine Below.setCell ?_ (by first | omega | (simp; omega)) _ | with_reducible refine Below.alloc ?_ (by first | omega | (simp; omega)) _)
  · repeat (first | with_reducible exact gb_refl _ _ | with_reducible refine gb_drew ?_ | with_reducible refine gb_set ?_ (by first | exact Or.inl rfl | (right; first | omega | (simp; omega) | simp)) _ | with_reducible refine gb_alloc ?_ _)

set_option maxHeartbeats 800000 in
theorem apply_no (B g cap : Nat) (zs : List Int) (c o n : Int) (b : ByteArray) (w : World) (hown : w.ownsRow B 3 1 (.slice (some ⟨g, 0, none⟩) zs.length cap) zs.length (zs.map (Value.int .i64)))
    (h0 : 0 ≤ c) (h1 : c < zs.length) (hB : B ≤ w.heap.size) (hx : zs.getD c.toNat 0 ≠ o) : Calls Try.prog 45 #[.slice (some ⟨g, 0, none⟩) zs.length cap, acc 3 c o n b] w fun e w' =>
    e = .returned (resV (zs.getD c.toNat 0) false) ∧ w'.ownsRow B 3 1 (.slice (some ⟨g, 0, none⟩) zs.length cap) zs.length ((zs).map (Value.int .i64)) ∧ Below B w w' ∧ w.grownBy w' (some g) := by
  obtain ⟨j, rfl⟩ := Int.eq_ofNat_of_zero_le h0
  have hj : j < zs.length := by omega
  obtain ⟨hgl, hcell, hfz, hf3, hc3⟩ := row_facts hown hj
  have hBg := (hown.lt g rfl).1
  rw [Int.toNat_natCast]
  rw [Int.toNat_natCast] at hx
  obtain ⟨x, hx'⟩ : ∃ x, x = zs.getD j 0 := ⟨_, rfl⟩
  rw [← hx'] at hcell hc3 hx
  have he : (x == o) = false := by simp [hx]
  clear hx
  have HX := Lib.hid hx'
  obtain ⟨L, hL⟩ : ∃ L, L = zs.length := ⟨_, rfl⟩
  have hjL : (j : Int) < L := by omega
  have HO := Lib.hid hown
  rw [← hL]
  have HL := Lib.hid hL
  unfold acc
  clear hL hown h0 h1 hx'
  go_enter Try.func45, Try.ntmps45
  go_wp2
  refine bodyPost_ret (v := resV x false) (by simp [results, Try.results45, go_sem, resV]) rfl ⟨by rw [HX.out], ?_, ?_, ?_⟩
  · rw [HL.out]
    repeat (first | with_reducible exact HO.out | with_reducible refine owns_setCell_other ?_ (by simp [Value.ownBlock]; omega) _ | with_reducible refine World.ownsRow.alloc ?_ _)
  · repeat (first | with_reducible exact Below.refl _ _ | with_reducible refine Below.setCell ?_ (by first | omega | (simp; omega)) _ | with_reducible refine Below.alloc ?_ (by first | omega | (simp; omega)) _)
  · repeat (first | with_reducible exact gb_refl _ _ | with_reducible refine gb_drew ?_ | with_reducible refine gb_set ?_ (by first | exact Or.inl rfl | (right; first | omega | (simp; omega) | simp)) _ | with_reducible refine gb_alloc ?_ _)

set_option maxHeartbeats 800000 in
theorem apply_add (B g cap : Nat) (zs : List Int) (c o n : Int) (b : ByteArray) (w : World) (hown : w.ownsRow B 3 1 (.slice (some ⟨g, 0, none⟩) zs.length cap) zs.length (zs.map (Value.int .i64)))
    (h0 : 0 ≤ c) (h1 : c < zs.length) (hB : B ≤ w.heap.size) : Calls Try.prog 45 #[.slice (some ⟨g, 0, none⟩) zs.length cap, acc 4 c o n b] w fun e w' =>
    e = .returned (resV (zs.getD c.toNat 0) true) ∧ w'.ownsRow B 3 1 (.slice (some ⟨g, 0, none⟩) zs.length cap) zs.length ((zs.set c.toNat (wrap64 (zs.getD c.toNat 0 + n))).map (Value.int .i64)) ∧ Below B w w' ∧ w.grownBy w' (some g) := by
  obtain ⟨j, rfl⟩ := Int.eq_ofNat_of_zero_le h0
  have hj : j < zs.length := by omega
  obtain ⟨hgl, hcell, hfz, hf3, hc3⟩ := row_facts hown hj
  have hBg := (hown.lt g rfl).1
  rw [Int.toNat_natCast]
  obtain ⟨x, hx'⟩ : ∃ x, x = zs.getD j 0 := ⟨_, rfl⟩
  rw [← hx'] at hcell hc3
  have HX := Lib.hid hx'
  obtain ⟨L, hL⟩ : ∃ L, L = zs.length := ⟨_, rfl⟩
  have hjL : (j : Int) < L := by omega
  have HO := Lib.hid hown
  rw [← hL]
  have HL := Lib.hid hL
  unfold acc
  clear hL hown h0 h1 hx'
  go_enter Try.func45, Try.ntmps45
  go_wp2
  go_region
  all_goals (
    go_wp2
    refine bodyPost_ret (v := resV x true) (by simp [results, Try.results45, go_sem, resV]) rfl ⟨by rw [HX.out], ?_, ?_, ?_⟩
    · rw [HL.out, ← HX.out, List.map_set]
      repeat (first | with_reducible exact HO.out | with_reducible refine owns_setCell_other ?_ (by simp [Value.ownBlock]; omega) _ | with_reducible refine World.ownsRow.drew ?_ | with_reducible refine World.ownsRow.alloc ?_ _ | with_reducible refine (World.ownsRow.stored ?_ _ _).1)
    · repeat (first | with_reducible exact Below.refl _ _ | with_reducible refine Below.drew ?_ | with_reducible refine Below.setCell ?_ (by first | omega | (simp; omega)) _ | with_reducible refine Below.alloc ?_ (by first | omega | (simp; omega)) _)
    · repeat (first | with_reducible exact gb_refl _ _ | with_reducible refine gb_drew ?_ | with_reducible refine gb_set ?_ (by first | exact Or.inl rfl | (right; first | omega | (simp; omega) | simp)) _ | with_reducible refine gb_alloc ?_ _))

theorem appZ_no {c o n : Int} {zs : List Int} (hx : ¬ zs.getD c.toNat 0 = o) : appZ 3 c o n zs = zs := by
  unfold appZ
  rw [if_neg, if_neg (by omega)]
  intro h
  rcases h with h | ⟨_, h⟩
  · omega
  · exact hx h

theorem apply_any (B g cap : Nat) (zs : List Int) (k c o n : Int) (b : ByteArray) (w : World) (hown : w.ownsRow B 3 1 (.slice (some ⟨g, 0, none⟩) zs.length cap) zs.length (zs.map (Value.int .i64)))
    (hk : k = 1 ∨ k = 2 ∨ k = 3 ∨ k = 4) (h0 : 0 ≤ c) (h1 : c < zs.length) (hB : B ≤ w.heap.size) : Calls Try.prog 45 #[.slice (some ⟨g, 0, none⟩) zs.length cap, acc k c o n b] w fun e w' =>
    e = .returned (resV (zs.getD c.toNat 0) (appOk k c o zs)) ∧ w'.ownsRow B 3 1 (.slice (some ⟨g, 0, none⟩) zs.length cap) zs.length ((appZ k c o n zs).map (Value.int .i64)) ∧ Below B w w' ∧ w.grownBy w' (some g) := by
  rcases hk with rfl | rfl | rfl | rfl
  · exact apply_load B g cap zs c o n b w hown h0 h1 hB
  · exact apply_store B g cap zs c o n b w hown h0 h1 hB
  · by_cases hx : zs.getD c.toNat 0 = o
    · have := apply_yes B g cap zs c o n b w hown h0 h1 hB hx
      rw [show appOk 3 c o zs = true by unfold appOk; rw [hx]; simp, show appZ 3 c o n zs = zs.set c.toNat n by unfold appZ; rw [if_pos (Or.inr ⟨rfl, hx⟩)]]
      exact this
    · have := apply_no B g cap zs c o n b w hown h0 h1 hB hx
      rw [show appOk 3 c o zs = false by unfold appOk; rw [beq_eq_false_iff_ne.2 hx]; rfl, appZ_no hx]
      exact this
  · exact apply_add B g cap zs c o n b w hown h0 h1 hB

end Go.Proofs.Ytekcjffdooekaaa


/-
  Layer 2: one access to a memory, by the program and by the reference.
-/
namespace Go.Proofs.Ytekcjffdooekaaa
open Go.ChangeShapes Go.WideShapes Go.ChangeAt Go.RowKit

theorem chk_zero {size : Nat} {k c o n : Int} {b : ByteArray} (h : chk size k c o n b = 0) : (k = 1 ∨ k = 2 ∨ k = 3 ∨ k = 4) ∧ 0 ≤ c ∧ c < size ∧ rightB k c o n b = true := by
  unfold chk at h
  by_cases hr : rightB k c o n b = true
  · rw [if_pos hr] at h
    by_cases hs : (size : Int) ≤ c
    · rw [if_pos hs] at h; omega
    · refine ⟨?_, ?_, by omega, hr⟩
      · unfold rightB at hr
        by_cases k1 : k = 1
        · exact Or.inl k1
        · by_cases k2 : k = 2 ∨ k = 4
          · rcases k2 with k2 | k2
            · exact Or.inr (Or.inl k2)
            · exact Or.inr (Or.inr (Or.inr k2))
          · rw [if_neg k1, if_neg k2] at hr
            simp at hr
            exact Or.inr (Or.inr (Or.inl hr.2))
      · unfold rightB at hr
        simp at hr
        exact hr.1.1
  · rw [if_neg hr] at h; omega

/-- What an access of a memory returns: the cells, the value, whether it succeeded. -/
def doZ (k c o n : Int) (b : ByteArray) (zs : List Int) : List Int := if chk zs.length k c o n b = 0 then appZ k c o n zs else zs
def doR (k c o n : Int) (b : ByteArray) (zs : List Int) : Int := if chk zs.length k c o n b = 0 then zs.getD c.toNat 0 else 0
def doOk (k c o n : Int) (b : ByteArray) (zs : List Int) : Bool := if chk zs.length k c o n b = 0 then appOk k c o zs else false

theorem appZ_one (c o n : Int) (zs : List Int) : appZ 1 c o n zs = zs := by
  unfold appZ
  rw [if_neg, if_neg (by omega)]
  intro h
  rcases h with h | ⟨h, _⟩ <;> omega

set_option maxHeartbeats 1600000 in
theorem do_any (v : Value) (zs : List Int) (k c o n : Int) (b : ByteArray) (w : World) (hv : HasInts w v zs) (hlen : zs.length ≤ 35184372088832) :
    Calls Try.prog 22 #[.agg #[v], acc k c o n b] w fun e w' =>
    ∃ u, e = .returned (.tuple #[.agg #[u], resV (doR k c o n b zs) (doOk k c o n b zs), .int .i64 (chk zs.length k c o n b)]) ∧ HasInts w' u (doZ k c o n b zs) ∧ Below w.heap.size w w' := by
  have hv0 := hv
  obtain ⟨a, cap, rfl, hl, hc⟩ := hv
  obtain ⟨r, hr⟩ : ∃ r, r = chk zs.length k c o n b := ⟨_, rfl⟩
  by_cases he : r = 0
  · have hck : chk zs.length k c o n b = 0 := by rw [← hr, he]
    obtain ⟨hk, h0, h1, hright⟩ := chk_zero hck
    have HQ : Hid (∀ w, Calls Try.prog 43 #[.int .i64 zs.length, acc k c o n b] w fun e w' => e = .returned (.int .i64 0) ∧ ∃ cs cs', w' = (w.alloc (.cells cs 30)).alloc (.cells cs' 30)) := Lib.hid (fun w => by
      have := check_any zs.length k c o n b w; rwa [hck] at this)
    by_cases k1 : k = 1
    · subst k1
      rw [show doR 1 c o n b zs = zs.getD c.toNat 0 by unfold doR; rw [if_pos hck], show doOk 1 c o n b zs = true by unfold doOk; rw [if_pos hck]; rfl,
        show doZ 1 c o n b zs = zs by unfold doZ; rw [if_pos hck, appZ_one]]
      rw [hck]
      obtain ⟨j, rfl⟩ := Int.eq_ofNat_of_zero_le h0
      rcases hc with hc | ⟨bb, oo, rfl, hc⟩
      · omega
      have hcell := hc j (by omega)
      have hbl : bb < w.heap.size := World.block_lt_of_cell? w ⟨bb, oo + j, none⟩ hcell
      rw [Int.toNat_natCast]
      obtain ⟨x, hx⟩ : ∃ x, x = zs.getD j 0 := ⟨_, rfl⟩
      rw [← hx] at hcell ⊢
      have h6 := fun o1 o2 o3 o4 o5 o6 => cell_alloc o6 (cell_alloc o5 (cell_alloc o4 (cell_alloc o3 (cell_alloc o2 (cell_alloc o1 hcell)))))
      have HV := Lib.hid hv0
      unfold acc at HQ ⊢
      clear hr he hck hk h0 hright hc hx hv0
      go_enter Try.func22, Try.ntmps22
      go_wp2_with (first | (go_at_call 43; refine (HQ.out _).mono ?_; rintro e w' ⟨rfl, cs, cs', rfl⟩))
      go_region
      all_goals (
        go_wp2
        refine bodyPost_ret (v := .tuple #[.agg #[.slice (some ⟨bb, oo, none⟩) zs.length cap], resV x true, .int .i64 0]) (by simp [results, Try.results22, go_sem, resV]) rfl ?_
        refine ⟨_, rfl, hasInts_keep HV.out ?_, ?_⟩
        all_goals repeat (first | with_reducible exact Below.refl _ _ | with_reducible refine Below.drew ?_ | with_reducible refine Below.setCell ?_ (by first | omega | (simp; omega) | simp) _ | with_reducible refine Below.alloc ?_ (by first | omega | (simp; omega) | simp) _))
    · rw [show doR k c o n b zs = zs.getD c.toNat 0 by unfold doR; rw [if_pos hck], show doOk k c o n b zs = appOk k c o zs by unfold doOk; rw [if_pos hck],
        show doZ k c o n b zs = appZ k c o n zs by unfold doZ; rw [if_pos hck]]
      rw [hck]
      have HV := Lib.hid hv0
      have k1' : (k == 1) = false := by simp [k1]
      have HP : Hid (∀ (B g cap : Nat) (w : World), w.ownsRow B 3 1 (.slice (some ⟨g, 0, none⟩) zs.length cap) zs.length (zs.map (Value.int .i64)) → B ≤ w.heap.size → Calls Try.prog 45 #[.slice (some ⟨g, 0, none⟩) zs.length cap, acc k c o n b] w fun e w' =>
          e = .returned (resV (zs.getD c.toNat 0) (appOk k c o zs)) ∧ w'.ownsRow B 3 1 (.slice (some ⟨g, 0, none⟩) zs.length cap) zs.length ((appZ k c o n zs).map (Value.int .i64)) ∧ Below B w w' ∧ w.grownBy w' (some g)) :=
        Lib.hid (fun B g cap w hown hB => apply_any B g cap zs k c o n b w hown hk h0 h1 hB)
      have hpos : 0 < zs.length := by omega
      unfold acc resV at HP
      unfold acc at HQ
      unfold acc resV
      clear hr he hck hk h0 h1 hright hc hv0 k1
      obtain ⟨L, hL⟩ : ∃ L, L = zs.length := ⟨_, rfl⟩
      rw [← hL] at HQ HP hlen hpos ⊢
      have HL := Lib.hid hL
      clear hL hl
      go_enter Try.func22, Try.ntmps22
      go_wp2_with (first
        | (go_at_call 43; refine (HQ.out _).mono ?_; rintro e w' ⟨rfl, cs, cs', rfl⟩))
      refine (own_any _ zs _ (hasInts_keep (by rw [HL.out]; exact HV.out) ?_) (by rw [← HL.out]; exact hlen)).mono ?_
      · repeat (first | with_reducible exact Below.refl _ _ | with_reducible refine Below.alloc ?_ (by first | omega | (simp; omega) | simp) _)
      rintro e w2 ⟨u, rfl, hown, hb2⟩
      rw [← HL.out] at hown
      obtain ⟨g, cap', rfl⟩ : ∃ g cap', u = .slice (some ⟨g, 0, none⟩) L cap' := by
        obtain ⟨_, ⟨_, h0⟩ | ⟨g, cap', cur, rfl, _⟩⟩ := hown
        · omega
        · exact ⟨g, cap', rfl⟩
      obtain ⟨hc2, hf2⟩ := bcell hb2
      have HO := Lib.hid hown
      have HB2 := Lib.hid hb2
      have hz2 := hb2.size
      simp at hz2
      clear hown hb2
      go_wp2_with fail
      refine (HP.out _ g cap' _ HO.out (by simp; omega)).mono ?_
      rintro e w3 ⟨rfl, hown3, hb3, _⟩
      obtain ⟨hc3, hf3⟩ := bcellB hb3
      have hz3 := hb3.size
      have HO3 := Lib.hid hown3
      have HB3 := Lib.hid hb3
      clear hown3 hb3
      have p0 : w3.cell? ⟨w.heap.size + 1 + 1, 0, none⟩ = some (.slice none 0 0) := by
        rw [hc3 _ _ (by simp), hc2 _ _ (by simp)]; simp [World.cell?_alloc_past, World.cell?_alloc_at]
      have p1 : w3.cell? ⟨w.heap.size + 1 + 1 + 1, 0, none⟩ = some (.int .i64 0) := by
        rw [hc3 _ _ (by simp), hc2 _ _ (by simp)]; simp [World.cell?_alloc_past, World.cell?_alloc_at]
      have p2 : w3.cell? ⟨w.heap.size + 1 + 1 + 1, 1, none⟩ = some (.bool false) := by
        rw [hc3 _ _ (by simp), hc2 _ _ (by simp)]; simp [World.cell?_alloc_past, World.cell?_alloc_at]
      have f0 : w3.frozen? ⟨w.heap.size + 1 + 1, 0, none⟩ = false := by
        rw [hf3 _ _ (by simp), hf2 _ _ (by simp)]; simp [World.frozen?_alloc_past, World.frozen?_alloc_at]
      have f1 : w3.frozen? ⟨w.heap.size + 1 + 1 + 1, 0, none⟩ = false := by
        rw [hf3 _ _ (by simp), hf2 _ _ (by simp)]; simp [World.frozen?_alloc_past, World.frozen?_alloc_at]
      have f2 : w3.frozen? ⟨w.heap.size + 1 + 1 + 1, 1, none⟩ = false := by
        rw [hf3 _ _ (by simp), hf2 _ _ (by simp)]; simp [World.frozen?_alloc_past, World.frozen?_alloc_at]
      have q0 := fun ob => cell_alloc ob p0
      have q1 := fun ob => cell_alloc ob p1
      have q2 := fun ob => cell_alloc ob p2
      have g0 := fun ob => frozen_alloc ob (by omega) f0
      have g1 := fun ob => frozen_alloc ob (by omega) f1
      have g2 := fun ob => frozen_alloc ob (by omega) f2
      clear hc2 hf2 hc3 hf3 p0 p1 p2 f0 f1 f2
      obtain ⟨x, hx⟩ : ∃ x, x = zs.getD c.toNat 0 := ⟨_, rfl⟩
      rw [← hx]
      have HX := Lib.hid hx
      clear hx
      go_wp2_with fail
      go_region
      all_goals (
        go_wp2
        refine bodyPost_ret (v := .tuple #[.agg #[.slice (some ⟨g, 0, none⟩) L cap'], .agg #[.int .i64 x, .bool (appOk k c o zs)], .int .i64 0]) (by simp [results, Try.results22, go_sem, q0, q1, q2]) rfl ?_
        have hO := HO3.out
        have hlt := (hO.lt g rfl).1
        simp at hlt
        have hlen' : (appZ k c o n zs).length = L := by rw [appZ_length, HL.out]
        have hb0 : Below w.heap.size w w3 := by
          refine ((?_ : Below w.heap.size w _).trans (HB2.out.mono (by simp; omega))).trans (HB3.out.mono (by simp; omega))
          repeat (first | with_reducible exact Below.refl _ _ | with_reducible refine Below.alloc ?_ (by first | omega | (simp; omega) | simp) _)
        refine ⟨.slice (some ⟨g, 0, none⟩) L cap', by rw [HX.out], ?_, ?_⟩
        · refine hasInts_of_owns (B := 0) ?_
          rw [hlen']
          repeat (first | with_reducible refine World.ownsRow.drew ?_ | with_reducible refine owns_setCell_other ?_ (by simp [Value.ownBlock]; omega) _ | with_reducible refine World.ownsRow.alloc ?_ _)
          exact owns_mono hO (Nat.zero_le _)
        · repeat (first | with_reducible exact hb0 | with_reducible refine Below.drew ?_ | with_reducible refine Below.setCell ?_ (by first | omega | (simp; omega) | simp) _ | with_reducible refine Below.alloc ?_ (by first | omega | (simp; omega) | simp) _))
  · have hck : chk zs.length k c o n b ≠ 0 := by rw [← hr]; exact he
    have HQ : Hid (∀ w, Calls Try.prog 43 #[.int .i64 zs.length, acc k c o n b] w fun e w' => e = .returned (.int .i64 r) ∧ ∃ cs cs', w' = (w.alloc (.cells cs 30)).alloc (.cells cs' 30)) := Lib.hid (fun w => by
      have := check_any zs.length k c o n b w; rwa [← hr] at this)
    rw [show doR k c o n b zs = 0 by unfold doR; rw [if_neg hck], show doOk k c o n b zs = false by unfold doOk; rw [if_neg hck],
      show doZ k c o n b zs = zs by unfold doZ; rw [if_neg hck], ← hr]
    have hr' : (r != 0) = true := by simp [he]
    have HV := Lib.hid hv0
    unfold acc at HQ ⊢
    unfold resV
    clear hr he hck hc hv0
    obtain ⟨L, hL⟩ : ∃ L, L = zs.length := ⟨_, rfl⟩
    rw [← hL] at HQ ⊢
    have HL := Lib.hid hL
    clear hL hl hlen
    go_enter Try.func22, Try.ntmps22
    go_wp2_with (first
      | (go_at_call 43; refine (HQ.out _).mono ?_; rintro e w' ⟨rfl, cs, cs', rfl⟩))
    refine bodyPost_ret (v := .tuple #[.agg #[.slice a L cap], .agg #[.int .i64 0, .bool false], .int .i64 r]) (by simp [results, Try.results22, go_sem]) rfl ?_
    refine ⟨_, rfl, hasInts_keep (by rw [HL.out]; exact HV.out) ?_, ?_⟩
    all_goals repeat (first | with_reducible exact Below.refl _ _ | with_reducible refine Below.setCell ?_ (by first | omega | (simp; omega) | simp) _ | with_reducible refine Below.alloc ?_ (by first | omega | (simp; omega) | simp) _)

end Go.Proofs.Ytekcjffdooekaaa


/-
  Layer 2: when two memories, and two lists of results, are the same.
-/
namespace Go.Proofs.Ytekcjffdooekaaa
open Go.ChangeShapes Go.WideShapes Go.ChangeAt Go.RowKit

set_option maxRecDepth 100000 in
theorem rsame_any (v u : Value) (zs ys : List Int) (w : World) (hv : HasInts w v zs) (hu : HasInts w u ys) : Calls Try.prog 10 #[.agg #[v], .agg #[u]] w fun e w' => e = .returned (.bool (decide (zs = ys))) ∧ Below w.heap.size w w' := by
  obtain ⟨a, cap, rfl, hlz, hca⟩ := hv
  obtain ⟨a', cap', rfl, hly, hcb⟩ := hu
  by_cases hl : zs.length = ys.length
  · have hle : ((zs.length : Int) != (ys.length : Int)) = false := by simp [hl]
    have HL := Lib.hid hl
    clear hl
    have HB : Hid (∀ o1 o2 n, Below w.heap.size w (((w.alloc o1).alloc o2).drewN n)) := Lib.hid (fun o1 o2 n => below_drewN (((Below.refl _ _).alloc (Nat.le_refl _) _).alloc (by simp) _) n)
    go_enter Try.func10, Try.ntmps10
    go_wp2
    go_loopw [5] (fun i wr => ∃ k n : Nat, k ≤ zs.length ∧ i = .int .i64 k ∧ wr = ((w.alloc (.cells #[.slice a zs.length cap] 24)).alloc (.cells #[.slice a' ys.length cap'] 24)).drewN n ∧ Hid (zs.take k = ys.take k)) (fun i _ => zs.length - (intOf i).toNat)
    case atStart => exact ⟨0, 0, Nat.zero_le _, rfl, rfl, Lib.hid (by simp)⟩
    case round =>
      obtain ⟨k, n, hk, rfl, rfl, ht⟩ := hrel
      by_cases hlt : k < zs.length
      · rcases hca with hca | ⟨b, o, rfl, hc⟩
        · omega
        rcases hcb with hcb | ⟨b', o', rfl, hc'⟩
        · have := HL.out; omega
        have hlt' : k < ys.length := by have := HL.out; omega
        have h1' := hc k hlt
        have h2' := hc' k hlt'
        have h1 := fun o1 o2 => cell_alloc o2 (cell_alloc o1 h1')
        have h2 := fun o1 o2 => cell_alloc o2 (cell_alloc o1 h2')
        clear hc hc' h1' h2'
        obtain ⟨x, hx⟩ : ∃ x, x = zs.getD k 0 := ⟨_, rfl⟩
        obtain ⟨y, hy⟩ : ∃ y, y = ys.getD k 0 := ⟨_, rfl⟩
        rw [← hx] at h1
        rw [← hy] at h2
        have HX := Lib.hid hx
        have HY := Lib.hid hy
        clear hx hy
        by_cases he : x = y
        · have he' : (x != y) = false := by simp [he]
          have HE := Lib.hid he
          clear he
          go_wp2
          go_quiet (fail)
          go_wp2
          go_roundw
          case rel => exact ⟨k + 1, n + nq, by omega, by go_num, rfl, Lib.hid (take_succ_eq ht.out hlt hlt' (by rw [← HX.out, ← HY.out]; exact HE.out))⟩
          case measure => simp [intOf]; omega
        · have he' : (x != y) = true := by simp [he]
          have HE : Hid (decide (zs = ys) = false) := Lib.hid (by
            simp only [decide_eq_false_iff_not]; intro hc; apply he; rw [HX.out, HY.out, hc])
          clear he
          go_wp2
          go_quiet (fail)
          go_wp2
          go_ret
          exact ⟨ret_bool HE.out.symm, by rw [World.drewN_drewN]; exact HB.out _ _ _⟩
      · obtain rfl : k = zs.length := by omega
        have HE : Hid (decide (zs = ys) = true) := Lib.hid (by
          have := ht.out
          rw [List.take_length, HL.out, List.take_length] at this
          simpa using this)
        go_wp2
        go_ret
        exact ⟨ret_bool HE.out.symm, HB.out _ _ _⟩
  · have hle : ((zs.length : Int) != (ys.length : Int)) = true := by simp; omega
    have HN : Hid (decide (zs = ys) = false) := Lib.hid (by simp; intro hc; exact hl (by rw [hc]))
    clear hl
    go_enter Try.func10, Try.ntmps10
    go_wp2
    go_ret
    exact ⟨ret_bool HN.out.symm, ((Below.refl _ _).alloc (Nat.le_refl _) _).alloc (by simp) _⟩

theorem res_struct : Try.prog.underlying 34 = some (.struct (Try.prog.fieldsOf 34)) := by kernel_rfl
theorem res_held : Try.prog.stoodInHeld 34 = false := by kernel_rfl
theorem res_guard : Try.prog.eqGuardType Try.prog.depth 34 = false := by kernel_rfl
theorem res_neq (a b : Int) (p q : Bool) (w : World) : (binOp .neq 34 (.agg #[.int .i64 a, .bool p]) (.agg #[.int .i64 b, .bool q])).run Try.prog w = .ok (.bool (!((a == b) && (p == q)))) w := by
  rw [run_neq_struct, show (10000 : Nat) = 9999 + 1 from rfl, run_equalIn_agg w 9999 34 _ _ res_struct res_held]
  have u3 := Try.underlying3
  have a3 := Try.isAgg3
  have z3 := Try.sizeOf3
  have u4 := Try.underlying4
  have a4 := Try.isAgg4
  have z4 := Try.sizeOf4
  simp only [Program.fieldsOf, Try.underlying34]
  go_simp
  by_cases h1 : a = b <;> cases p <;> cases q <;> simp [h1]
theorem res_eql (a b : Int) (p q : Bool) (w : World) : (binOp .eql 34 (.agg #[.int .i64 a, .bool p]) (.agg #[.int .i64 b, .bool q])).run Try.prog w = .ok (.bool ((a == b) && (p == q))) w := by
  rw [run_eql_struct, show (10000 : Nat) = 9999 + 1 from rfl, run_equalIn_agg w 9999 34 _ _ res_struct res_held]
  have u3 := Try.underlying3
  have a3 := Try.isAgg3
  have z3 := Try.sizeOf3
  have u4 := Try.underlying4
  have a4 := Try.isAgg4
  have z4 := Try.sizeOf4
  simp only [Program.fieldsOf, Try.underlying34]
  go_simp
  by_cases h1 : a = b <;> cases p <;> cases q <;> simp [h1]

/-- The slice value v holds these results, two cells each. -/
def HasRes (w : World) (v : Value) (rs : List (Int × Bool)) : Prop :=
  ∃ a cap, v = .slice a rs.length cap ∧ rs.length ≤ 9223372036854775807 ∧ (rs.length = 0 ∨ ∃ b o, a = some ⟨b, o, none⟩ ∧ ∀ j, j < rs.length → w.cell? ⟨b, o + j * 2, none⟩ = some (.int .i64 (rs.getD j (0, false)).1) ∧ w.cell? ⟨b, o + j * 2 + 1, none⟩ = some (.bool (rs.getD j (0, false)).2))

theorem take_succ_res {zs ys : List (Int × Bool)} {k : Nat} (h : zs.take k = ys.take k) (hz : k < zs.length) (hy : k < ys.length) (he : zs.getD k (0, false) = ys.getD k (0, false)) : zs.take (k + 1) = ys.take (k + 1) := by
  rw [List.take_succ_eq_append_getElem hz, List.take_succ_eq_append_getElem hy, h]
  simp [List.getD, List.getElem?_eq_getElem hz, List.getElem?_eq_getElem hy] at he
  rw [he]

end Go.Proofs.Ytekcjffdooekaaa


/-
  Layer 2: lists of accesses as plain lists: the cells and the results behind them, and the first error.
-/
namespace Go.Proofs.Ytekcjffdooekaaa
open Go.ChangeShapes Go.WideShapes Go.ChangeAt Go.RowKit

/-- An access as data. -/
structure AccD where
  k : Int
  c : Int
  o : Int
  n : Int
  b : ByteArray
def noAcc : AccD := ⟨0, 0, 0, 0, ByteArray.empty⟩
def AccD.chk (a : AccD) (size : Nat) : Int := Go.Proofs.Ytekcjffdooekaaa.chk size a.k a.c a.o a.n a.b
def AccD.app (a : AccD) (zs : List Int) : List Int := appZ a.k a.c a.o a.n zs
def AccD.res (a : AccD) (zs : List Int) : Int × Bool := (zs.getD a.c.toNat 0, appOk a.k a.c a.o zs)
theorem app_length (a : AccD) (zs : List Int) : (a.app zs).length = zs.length := appZ_length _ _ _ _ _

/-- The cells behind a list of accesses, each of which is valid. -/
def stZ (zs : List Int) (l : List AccD) : List Int := l.foldl (fun z a => a.app z) zs
/-- Their results. -/
def stR (zs : List Int) : List AccD → List (Int × Bool)
  | [] => []
  | a :: l => a.res zs :: stR (a.app zs) l
/-- The first error of a list of accesses. -/
def errOf (size : Nat) : List AccD → Int
  | [] => 0
  | a :: l => if a.chk size = 0 then errOf size l else a.chk size

theorem stZ_length (zs : List Int) (l : List AccD) : (stZ zs l).length = zs.length := by
  induction l generalizing zs with
  | nil => rfl
  | cons a l ih => show (stZ (a.app zs) l).length = _; rw [ih, app_length]
theorem stZ_snoc (zs : List Int) (l : List AccD) (a : AccD) : stZ zs (l ++ [a]) = a.app (stZ zs l) := by simp [stZ]
theorem stR_snoc (zs : List Int) (l : List AccD) (a : AccD) : stR zs (l ++ [a]) = stR zs l ++ [a.res (stZ zs l)] := by
  induction l generalizing zs with
  | nil => rfl
  | cons x l ih => show x.res zs :: stR (x.app zs) (l ++ [a]) = _; rw [ih]; rfl
theorem stR_length (zs : List Int) (l : List AccD) : (stR zs l).length = l.length := by
  induction l generalizing zs with
  | nil => rfl
  | cons a l ih => show (stR (a.app zs) l).length + 1 = _; rw [ih]; rfl
theorem errOf_snoc (size : Nat) (l : List AccD) (a : AccD) : errOf size (l ++ [a]) = if errOf size l = 0 then a.chk size else errOf size l := by
  induction l with
  | nil =>
    show (if a.chk size = 0 then (0 : Int) else a.chk size) = if (0 : Int) = 0 then a.chk size else 0
    rw [if_pos (rfl : (0 : Int) = 0)]
    split
    · rename_i h; exact h.symm
    · rfl
  | cons x l ih =>
    show (if x.chk size = 0 then errOf size (l ++ [a]) else x.chk size) = if (if x.chk size = 0 then errOf size l else x.chk size) = 0 then a.chk size else (if x.chk size = 0 then errOf size l else x.chk size)
    by_cases hx : x.chk size = 0
    · rw [if_pos hx, if_pos hx, ih]
    · rw [if_neg hx, if_neg hx, if_neg hx]
/-- An error at one place, none before: the list's error. -/
theorem errOf_at {size : Nat} {l : List AccD} {k : Nat} (hk : k < l.length) (h0 : errOf size (l.take k) = 0) (h : (l.getD k noAcc).chk size ≠ 0) : errOf size l = (l.getD k noAcc).chk size := by
  induction l generalizing k with
  | nil => simp at hk
  | cons a l ih =>
    show (if a.chk size = 0 then errOf size l else a.chk size) = _
    cases k with
    | zero =>
      have e : (a :: l).getD 0 noAcc = a := rfl
      rw [e] at h ⊢
      rw [if_neg h]
    | succ k =>
      have e : (a :: l).getD (k + 1) noAcc = l.getD k noAcc := by simp [List.getD]
      rw [e] at h ⊢
      have h1 : (if a.chk size = 0 then errOf size (l.take k) else a.chk size) = 0 := h0
      by_cases ha : a.chk size = 0
      · rw [if_pos ha] at h1 ⊢
        exact ih (by simpa using hk) h1 h
      · rw [if_neg ha] at h1; exact absurd h1 ha
theorem take_acc {l : List AccD} {k : Nat} (hk : k < l.length) : l.take (k + 1) = l.take k ++ [l.getD k noAcc] := by
  rw [List.take_succ_eq_append_getElem hk]; simp [List.getD, List.getElem?_eq_getElem hk]

/-- The slice value v holds these accesses, five cells each. -/
def HasAccs (w : World) (v : Value) (l : List AccD) : Prop :=
  ∃ a cap, v = .slice a l.length cap ∧ l.length ≤ 9223372036854775807 ∧ (l.length = 0 ∨ ∃ b o, a = some ⟨b, o, none⟩ ∧ ∀ j, j < l.length →
    w.cell? ⟨b, o + j * 5, none⟩ = some (.int .i64 (l.getD j noAcc).k) ∧ w.cell? ⟨b, o + j * 5 + 1, none⟩ = some (.int .i64 (l.getD j noAcc).c) ∧ w.cell? ⟨b, o + j * 5 + 2, none⟩ = some (.int .i64 (l.getD j noAcc).o) ∧
    w.cell? ⟨b, o + j * 5 + 3, none⟩ = some (.int .i64 (l.getD j noAcc).n) ∧ w.cell? ⟨b, o + j * 5 + 4, none⟩ = some (.string (l.getD j noAcc).b))

theorem cell_below {w w' : World} {b o : Nat} {x : Value} (hb : Below w.heap.size w w') (h : w.cell? ⟨b, o, none⟩ = some x) : w'.cell? ⟨b, o, none⟩ = some x :=
  (hb.cell (p := ⟨b, o, none⟩) (World.block_lt_of_cell? w ⟨b, o, none⟩ h)).trans h
theorem hasAccs_keep {w w' : World} {v : Value} {l : List AccD} (h : HasAccs w v l) (hb : Below w.heap.size w w') : HasAccs w' v l := by
  obtain ⟨a, cap, rfl, hl, h⟩ := h
  refine ⟨a, cap, rfl, hl, ?_⟩
  rcases h with h | ⟨b, o, rfl, h⟩
  · exact Or.inl h
  · refine Or.inr ⟨b, o, rfl, fun j hj => ?_⟩
    obtain ⟨h1, h2, h3, h4, h5⟩ := h j hj
    exact ⟨cell_below hb h1, cell_below hb h2, cell_below hb h3, cell_below hb h4, cell_below hb h5⟩
theorem hasRes_keep {w w' : World} {v : Value} {l : List (Int × Bool)} (h : HasRes w v l) (hb : Below w.heap.size w w') : HasRes w' v l := by
  obtain ⟨a, cap, rfl, hl, h⟩ := h
  refine ⟨a, cap, rfl, hl, ?_⟩
  rcases h with h | ⟨b, o, rfl, h⟩
  · exact Or.inl h
  · refine Or.inr ⟨b, o, rfl, fun j hj => ?_⟩
    obtain ⟨h1, h2⟩ := h j hj
    exact ⟨cell_below hb h1, cell_below hb h2⟩

theorem info_res : (Try.prog.info? 34).map (fun i => (i.zero, i.size, i.bytes)) = some (some (.agg #[.int .i64 0, .bool false]), 2, 16) := by kernel_rfl
/-- The cells of results. -/
def resCells : List (Int × Bool) → List Value
  | [] => []
  | r :: l => .int .i64 r.1 :: .bool r.2 :: resCells l
theorem resCells_append (l m : List (Int × Bool)) : resCells (l ++ m) = resCells l ++ resCells m := by
  induction l with
  | nil => rfl
  | cons r l ih => show _ :: _ :: resCells (l ++ m) = _; rw [ih]; rfl
theorem resCells_length (l : List (Int × Bool)) : (resCells l).length = l.length * 2 := by
  induction l with
  | nil => rfl
  | cons r l ih => show (resCells l).length + 1 + 1 = (l.length + 1) * 2; omega
theorem resCells_at (l : List (Int × Bool)) (j : Nat) (hj : j < l.length) : (resCells l)[j * 2]? = some (.int .i64 (l.getD j (0, false)).1) ∧ (resCells l)[j * 2 + 1]? = some (.bool (l.getD j (0, false)).2) := by
  induction l generalizing j with
  | nil => simp at hj
  | cons r l ih =>
    cases j with
    | zero => exact ⟨rfl, rfl⟩
    | succ j =>
      have h := ih j (by simpa using hj)
      have e : (r :: l).getD (j + 1) (0, false) = l.getD j (0, false) := by simp [List.getD]
      rw [e]
      have e2 : (j + 1) * 2 = j * 2 + 1 + 1 := by omega
      rw [e2]
      exact h
theorem hasRes_of_owns {w : World} {B : Nat} {v : Value} {rs : List (Int × Bool)} (h : w.ownsRow B 34 2 v rs.length (resCells rs)) : HasRes w v rs := by
  have h0 := h
  obtain ⟨_, h | ⟨g, cap, cur, rfl, _, _, hn, hc, _, _⟩⟩ := h
  · obtain ⟨rfl, hz⟩ := h
    exact ⟨none, 0, by rw [hz], by omega, Or.inl hz⟩
  · refine ⟨some ⟨g, 0, none⟩, cap, rfl, by unfold maxLen at hc; omega, Or.inr ⟨g, 0, rfl, fun j hj => ?_⟩⟩
    obtain ⟨h1, h2⟩ := resCells_at rs j hj
    rw [Nat.zero_add, h0.cellAt (j * 2) (by omega), h0.cellAt (j * 2 + 1) (by omega)]
    exact ⟨h1, h2⟩

end Go.Proofs.Ytekcjffdooekaaa


/-
  Small facts on worlds: what a call that only makes new memory leaves.
-/
namespace Go.Proofs.Ytekcjffdooekaaa
open Go.ChangeShapes Go.WideShapes Go.ChangeAt Go.RowKit

theorem cel_below {W w1 : World} {b o : Nat} {v : Value} (hb : Below W.heap.size W w1) (h : W.cell? ⟨b, o, none⟩ = some v) : w1.cell? ⟨b, o, none⟩ = some v :=
  (hb.cell (p := ⟨b, o, none⟩) (World.block_lt_of_cell? W ⟨b, o, none⟩ h)).trans h
theorem fro_below {W w1 : World} {b o : Nat} {r : Bool} (hb : Below W.heap.size W w1) (hl : b < W.heap.size) (h : W.frozen? ⟨b, o, none⟩ = r) : w1.frozen? ⟨b, o, none⟩ = r :=
  (hb.frozen (p := ⟨b, o, none⟩) hl).trans h
theorem below_new1 (w : World) (o : Obj) : Below w.heap.size w (w.alloc o) := (Below.refl _ _).alloc (Nat.le_refl _) _
theorem below_alloc1 {w w' : World} {o : Obj} (h : Below (w.alloc o).heap.size (w.alloc o) w') : Below w.heap.size w w' :=
  (below_new1 w o).trans (h.mono (by simp))
theorem below_alloc2 {w w' : World} {o o2 : Obj} (h : Below ((w.alloc o).alloc o2).heap.size ((w.alloc o).alloc o2) w') : Below w.heap.size w w' := below_alloc1 (below_alloc1 h)
theorem below_alloc3 {w w' : World} {o o2 o3 : Obj} (h : Below (((w.alloc o).alloc o2).alloc o3).heap.size (((w.alloc o).alloc o2).alloc o3) w') : Below w.heap.size w w' := below_alloc1 (below_alloc2 h)
theorem below_step {a b c : World} (h : Below a.heap.size a b) (k : Below b.heap.size b c) : Below a.heap.size a c := h.trans (k.mono h.size)
theorem below_drews {a b : World} (h : Below a.heap.size a b) (n : Nat) : Below a.heap.size a (b.drewN n) := below_drewN h n
theorem lt_below {W w1 : World} {b : Nat} (hb : Below W.heap.size W w1) (h : b < W.heap.size) : b < w1.heap.size := Nat.lt_of_lt_of_le h hb.size
theorem owns_below {w w' : World} {B e size n : Nat} {v : Value} {xs : List Value} (h : w.ownsRow B e size v n xs) (hb : Below w.heap.size w w') : w'.ownsRow B e size v n xs := by
  refine ⟨h.1, ?_⟩
  rcases h.2 with hn | ⟨g, cap, cur, rfl, hg, hgg, rest⟩
  · exact .inl hn
  · refine .inr ⟨g, cap, cur, rfl, hg, ?_, rest⟩
    rw [hb.block g (by rcases Nat.lt_or_ge g w.heap.size with h | h; exact h; rw [Array.getElem?_eq_none h] at hgg; cases hgg)]
    exact hgg
theorem owns_len {w : World} {B e size n : Nat} {v : Value} {xs : List Value} (h : w.ownsRow B e size v n xs) : ∃ a c, v = .slice a n c := owns_slice h

theorem gb_cell {w w1 : World} {r : Option Nat} (hg : w.grownBy w1 r) {b o : Nat} {x : Value} (h : w.cell? ⟨b, o, none⟩ = some x) (hne : ∀ j, r = some j → j = b → False) : w1.cell? ⟨b, o, none⟩ = some x :=
  (World.cell?_of_block (a := ⟨b, o, none⟩) (hg.block b (World.block_lt_of_cell? w ⟨b, o, none⟩ h) (fun hc => hne b (by simpa using hc.symm) rfl))).trans h

theorem keepA_ {w : World} {b o b' o' : Nat} {v u : Value} (h : w.cell? ⟨b', o', none⟩ = some u) (hne : b ≠ b' ∨ o ≠ o') : (w.setCell ⟨b, o, none⟩ v).cell? ⟨b', o', none⟩ = some u := by
  rw [World.cell?_setCell_other _ _ _ _ (fun he => by simp at he; omega)]; exact h

theorem gb_below {w w1 : World} (h : w.grownBy w1 none) : Below w.heap.size w w1 := ⟨h.os, h.tape, h.output, h.size, fun k hk => h.block k hk (by simp)⟩

/-- A store into a cell that holds a slice keeps a row of integers. -/
theorem hasInts_setS {w : World} {v u : Value} {zs : List Int} {a : Option Addr} {l c : Nat} {b o : Nat} (h : HasInts w v zs) (hbox : w.cell? ⟨b, o, none⟩ = some (.slice a l c)) : HasInts (w.setCell ⟨b, o, none⟩ u) v zs := by
  obtain ⟨a', cap, rfl, hl, h⟩ := h
  refine ⟨a', cap, rfl, hl, ?_⟩
  rcases h with h | ⟨b', o', rfl, h⟩
  · exact Or.inl h
  · refine Or.inr ⟨b', o', rfl, fun j hj => ?_⟩
    have hc := h j hj
    have hne : (⟨b', o' + j, none⟩ : Addr) ≠ ⟨b, o, none⟩ := by
      intro he
      rw [he, hbox] at hc
      simp at hc
    rw [World.cell?_setCell_other _ _ _ _ (Ne.symm hne)]
    exact hc
theorem hasInts_newA {w : World} {cs : Array Value} {T : TypeId} {n g : Nat} (l : List Int) (hcs : cs = (l.map (Value.int .i64)).toArray) (hn : n = l.length) (hl : l.length ≤ 1000) (hg : g = w.heap.size) : HasInts (w.alloc (.cells cs T)) (.slice (some ⟨g, 0, none⟩) n n) l := by
  subst hcs; subst hn; subst hg
  refine ⟨_, _, rfl, by omega, Or.inr ⟨_, _, rfl, fun j hj => ?_⟩⟩
  rw [World.cell?_alloc_at _ _ _ _ rfl]
  simp [List.getD, List.getElem?_eq_getElem hj]

/-- The cells of a block, from its first on. -/
def CellsAt (w : World) (b : Nat) (l : List Value) : Prop := ∀ j v, l[j]? = some v → w.cell? ⟨b, j, none⟩ = some v
theorem cellsAt_keep {w w' : World} {b : Nat} {l : List Value} (h : CellsAt w b l) (hb : Below w.heap.size w w') : CellsAt w' b l := fun j v hj => cel_below hb (h j v hj)
theorem cellsAt_alloc {w : World} {b : Nat} {l : List Value} (h : CellsAt w b l) (o : Obj) : CellsAt (w.alloc o) b l := cellsAt_keep h (below_new1 w o)
theorem cellsAt_new (w : World) (cs : Array Value) (T : TypeId) : CellsAt (w.alloc (.cells cs T)) w.heap.size cs.toList := fun j v hj => by
  rw [World.cell?_alloc_at _ _ _ _ rfl]; simpa using hj

end Go.Proofs.Ytekcjffdooekaaa


/-
  Layer 2: the reference's access of one cell.
-/
namespace Go.Proofs.Ytekcjffdooekaaa
open Go.ChangeShapes Go.WideShapes Go.ChangeAt Go.RowKit

theorem with_facts {w w1 : World} {L j : Nat} {zs : List Int} {v' : Value} {o1 : Obj} {c2 : Array Value} {T2 : TypeId} (hown : w1.ownsRow w.heap.size 3 1 v' (0 + L) ([] ++ zs.map (Value.int .i64))) (hL : L = zs.length) (hj : j < L)
    (hgrow : (((w.alloc o1).alloc (.cells c2 T2)).alloc (.cells #[] 3)).grownBy w1 (some (w.heap.size + 1 + 1))) (hc2 : c2[0]? = some (.slice none 0 0)) :
    ∃ g cap', v' = .slice (some ⟨g, 0, none⟩) L cap' ∧ g < w1.heap.size ∧ w1.cell? ⟨g, j, none⟩ = some (.int .i64 (zs.getD j 0)) ∧ w1.frozen? ⟨g, j, none⟩ = false ∧
      w1.cell? ⟨w.heap.size + 1, 0, none⟩ = some (.slice none 0 0) ∧ w1.frozen? ⟨w.heap.size + 1, 0, none⟩ = false ∧ w.heap.size + 1 + 1 + 1 ≤ w1.heap.size ∧ g ≠ w.heap.size + 1 ∧
      Hid (w1.ownsRow w.heap.size 3 1 (.slice (some ⟨g, 0, none⟩) L cap') L (zs.map (Value.int .i64))) ∧ Hid (Below w.heap.size w w1) := by
  rw [Nat.zero_add, List.nil_append] at hown
  have h0 := hown
  have hlt := hown.lt
  obtain ⟨_, ⟨_, h⟩ | ⟨g, cap', cur, rfl, hg, hh, hn, hcp, _, _⟩⟩ := hown
  · omega
  have hs := hgrow.size
  simp at hs
  have hb : ∀ k, k = w.heap.size + 1 → w1.heap[k]? = (((w.alloc o1).alloc (.cells c2 T2)).alloc (.cells #[] 3)).heap[k]? := fun k hk => hgrow.block k (by simp; omega) (by simp; omega)
  have hk : w1.heap[w.heap.size + 1]? = some (.cells c2 T2 (0, 0)) := by
    rw [hb _ rfl, Below.heap_alloc _ _ _ (by simp)]
    have := heap_alloc_new (w.alloc o1) (.cells c2 T2)
    simpa using this
  refine ⟨g, cap', rfl, (hlt g rfl).2, ?_, h0.frozenAt j, ?_, ?_, by omega, ?_, h0, ?_⟩
  · rw [h0.cellAt j (by omega)]
    simp [List.getD, List.getElem?_eq_getElem (show j < zs.length by omega)]
  · rw [cell_of_row w1 (w.heap.size + 1) 0 c2 T2 (0, 0) hk, hc2]
  · exact frozen_of_row w1 (w.heap.size + 1) 0 c2 T2 hk
  · intro hc
    subst hc
    rw [hk] at hh
    simp at hh
    obtain ⟨rfl, _⟩ := hh
    have he := h0.cellAt 0 (by omega)
    rw [cell_of_row w1 (w.heap.size + 1) 0 c2 T2 (0, 0) hk, hc2] at he
    have hz : 0 < zs.length := by omega
    simp [List.getElem?_eq_getElem hz] at he
  · exact ((((Below.refl w.heap.size w).alloc (Nat.le_refl _) _).alloc (by simp) _).alloc (by simp; omega) _).grown hgrow (by simp; omega) (by simp; omega)

set_option maxHeartbeats 800000 in
theorem with_any (v : Value) (zs : List Int) (j : Nat) (x : Int) (w : World) (hv : HasInts w v zs) (hj : j < zs.length) (hlen : zs.length ≤ 17592186044416) :
    Calls Try.prog 47 #[.agg #[v], .int .i64 j, .int .i64 x] w fun e w' =>
    ∃ u, e = .returned (.agg #[u]) ∧ w'.ownsRow w.heap.size 3 1 u zs.length ((zs.set j x).map (Value.int .i64)) ∧ Below w.heap.size w w' := by
  obtain ⟨i0, hi, hz0, hz1, hz2⟩ := info_parts info_int
  obtain ⟨a, cap, rfl, hl, hc⟩ := hv
  rcases hc with hc | ⟨bb, oo, rfl, hc⟩
  · omega
  have hbw : bb < w.heap.size := World.block_lt_of_cell? w ⟨bb, oo + 0, none⟩ (hc 0 (by omega))
  have HC : Hid (∀ o1 o2 o3, ∀ t u, (zs.map (Value.int .i64))[t]? = some u → (((w.alloc o1).alloc o2).alloc o3).cell? ((⟨bb, oo, none⟩ : Addr).add t) = some u) := Lib.hid (by
    intro o1 o2 o3 t u ht
    have htl : t < zs.length := by have := (List.getElem?_eq_some_iff.1 ht).1; simpa using this
    rw [show (⟨bb, oo, none⟩ : Addr).add t = ⟨bb, oo + t, none⟩ by simp [Addr.add], cell_alloc o3 (cell_alloc o2 (cell_alloc o1 (hc t htl))), ← ht]
    simp [List.getD, List.getElem?_eq_getElem htl])
  obtain ⟨L, hL⟩ : ∃ L, L = zs.length := ⟨_, rfl⟩
  rw [← hL] at hj hlen ⊢
  have HL := Lib.hid hL
  have HLn : Hid ((zs.map (Value.int .i64)).length = L * 1) := Lib.hid (by simp [hL])
  have HO : Hid (∀ o1 o2, (((w.alloc o1).alloc o2).alloc (.cells #[] 3)).ownsRow w.heap.size 3 1 (.slice (some ⟨w.heap.size + 1 + 1, 0, none⟩) 0 0) 0 []) := Lib.hid (by
    intro o1 o2
    have := World.ownsRow_lit (base := w.heap.size) (e := 3) (size := 1) ((w.alloc o1).alloc o2) #[] 0 (by simp; omega) (by unfold maxLen; omega) rfl
    simpa using this)
  clear hL hl hc
  go_enter Try.func47, Try.ntmps47
  go_wp2_with (first
    | (at_builtin; refine wpList_append_own _ rfl _ _ 22 rfl w.heap.size 3 i0 (.int .i64 0) 1 8 Try.underlying22 hi hz0 hz1 hz2 rfl (by decide) _ _ _ rfl (HO.out _ _) ⟨bb, oo, none⟩ L cap (zs.map (Value.int .i64)) rfl HLn.out (HC.out _ _ _) (ints_oneCell _ _) (by unfold maxLen; omega) (by omega) (by simp; omega) ?_; intro v' w1 hown hgrow _; obtain ⟨g, cap', rfl, hgl, hcell, hfz, hbc, hbf, hsz, hne, HW, HB⟩ := with_facts (j := j) hown HL.out hj hgrow rfl; clear hown hgrow))
  have HS := Lib.hid (HW.out.stored j (.int .i64 x)).1
  refine bodyPost_ret (v := .agg #[.slice (some ⟨g, 0, none⟩) L cap']) (by simp [results, Try.results47, go_sem, hbc]) rfl ?_
  have hg := (HW.out.lt g rfl).1
  refine ⟨_, rfl, ?_, ?_⟩
  · rw [List.map_set]
    exact owns_setCell_other HS.out (by simp [Value.ownBlock]; omega) _
  · exact (HB.out.setCell hg _).setCell (by simp) _

end Go.Proofs.Ytekcjffdooekaaa


/-
  Layer 2: one access to a memory, by the reference.
-/
namespace Go.Proofs.Ytekcjffdooekaaa
open Go.ChangeShapes Go.WideShapes Go.ChangeAt Go.RowKit

theorem rright_is (k c o n : Int) (b : ByteArray) (r : Bool) (h : rightB k c o n b = r) : Hid (∀ w, Calls Try.prog 46 #[.agg #[.int .i64 k, .int .i64 c, .int .i64 o, .int .i64 n, .string b]] w fun e w' => e = .returned (.bool r) ∧ ∃ cs, w' = w.alloc (.cells cs 30)) :=
  Lib.hid (fun w => by have := rright_any k c o n b w; rwa [h] at this)

set_option maxHeartbeats 1600000 in
theorem rdo_any (v : Value) (zs : List Int) (k c o n : Int) (b : ByteArray) (w : World) (hv : HasInts w v zs) (hlen : zs.length ≤ 17592186044416) :
    Calls Try.prog 25 #[.agg #[v], acc k c o n b] w fun e w' =>
    ∃ u, e = .returned (.tuple #[.agg #[u], resV (doR k c o n b zs) (doOk k c o n b zs), .int .i64 (chk zs.length k c o n b)]) ∧ HasInts w' u (doZ k c o n b zs) ∧ Below w.heap.size w w' := by
  have HV := Lib.hid hv
  obtain ⟨a, cap, rfl, hl, hc⟩ := hv
  cases hr : rightB k c o n b
  · have hck : chk zs.length k c o n b = 1 := by unfold chk; rw [hr]; rfl
    rw [show doR k c o n b zs = 0 by unfold doR; rw [hck]; rfl, show doOk k c o n b zs = false by unfold doOk; rw [hck]; rfl, show doZ k c o n b zs = zs by unfold doZ; rw [hck]; rfl, hck]
    have HQ := rright_is k c o n b false hr
    unfold acc resV
    clear hck hr hc
    obtain ⟨L, hL⟩ : ∃ L, L = zs.length := ⟨_, rfl⟩
    rw [← hL] at HV ⊢
    clear hL hl hlen
    go_enter Try.func25, Try.ntmps25
    go_wp2_with (first
      | (go_at_call 46; refine (HQ.out _).mono ?_; rintro e w' ⟨rfl, cs, rfl⟩))
    refine bodyPost_ret (v := .tuple #[.agg #[.slice a L cap], .agg #[.int .i64 0, .bool false], .int .i64 1]) (by simp [results, Try.results25, go_sem]) rfl ?_
    refine ⟨_, rfl, hasInts_keep HV.out ?_, ?_⟩
    all_goals repeat (first | with_reducible exact Below.refl _ _ | with_reducible refine Below.setCell ?_ (by first | omega | (simp; omega) | simp) _ | with_reducible refine Below.alloc ?_ (by first | omega | (simp; omega) | simp) _)
  · have HQ := rright_is k c o n b true hr
    by_cases hs : (zs.length : Int) ≤ c
    · have hck : chk zs.length k c o n b = 8 := by unfold chk; rw [hr, if_pos rfl, if_pos hs]
      rw [show doR k c o n b zs = 0 by unfold doR; rw [hck]; rfl, show doOk k c o n b zs = false by unfold doOk; rw [hck]; rfl, show doZ k c o n b zs = zs by unfold doZ; rw [hck]; rfl, hck]
      unfold acc resV
      clear hck hr hc
      obtain ⟨L, hL⟩ : ∃ L, L = zs.length := ⟨_, rfl⟩
      rw [← hL] at HV hs ⊢
      clear hL hl hlen
      go_enter Try.func25, Try.ntmps25
      go_wp2_with (first
        | (go_at_call 46; refine (HQ.out _).mono ?_; rintro e w' ⟨rfl, cs, rfl⟩))
      refine bodyPost_ret (v := .tuple #[.agg #[.slice a L cap], .agg #[.int .i64 0, .bool false], .int .i64 8]) (by simp [results, Try.results25, go_sem]) rfl ?_
      refine ⟨_, rfl, hasInts_keep HV.out ?_, ?_⟩
      all_goals repeat (first | with_reducible exact Below.refl _ _ | with_reducible refine Below.setCell ?_ (by first | omega | (simp; omega) | simp) _ | with_reducible refine Below.alloc ?_ (by first | omega | (simp; omega) | simp) _)
    · have hck : chk zs.length k c o n b = 0 := by unfold chk; rw [hr, if_pos rfl, if_neg hs]
      obtain ⟨hk, h0, h1, _⟩ := chk_zero hck
      rw [show doR k c o n b zs = zs.getD c.toNat 0 by unfold doR; rw [if_pos hck], show doOk k c o n b zs = appOk k c o zs by unfold doOk; rw [if_pos hck],
        show doZ k c o n b zs = appZ k c o n zs by unfold doZ; rw [if_pos hck], hck]
      obtain ⟨j, rfl⟩ := Int.eq_ofNat_of_zero_le h0
      rw [Int.toNat_natCast]
      have hj : j < zs.length := by omega
      rcases hc with hc | ⟨bb, oo, rfl, hc⟩
      · omega
      have hcell := hc j hj
      have h5 := fun o1 o2 o3 o4 o5 => cell_alloc o5 (cell_alloc o4 (cell_alloc o3 (cell_alloc o2 (cell_alloc o1 hcell))))
      obtain ⟨x, hx⟩ : ∃ x, x = zs.getD j 0 := ⟨_, rfl⟩
      rw [← hx] at h5 ⊢
      have HWi : Hid (∀ (y : Int) (w : World), HasInts w (.slice (some ⟨bb, oo, none⟩) zs.length cap) zs → Calls Try.prog 47 #[.agg #[.slice (some ⟨bb, oo, none⟩) zs.length cap], .int .i64 j, .int .i64 y] w fun e w' =>
          ∃ u, e = .returned (.agg #[u]) ∧ w'.ownsRow w.heap.size 3 1 u zs.length ((zs.set j y).map (Value.int .i64)) ∧ Below w.heap.size w w') := Lib.hid (fun y w hv => with_any _ zs j y w hv hj hlen)
      clear hcell hc hck
      by_cases hsame : k = 1 ∨ (k = 3 ∧ x ≠ o)
      · have hz : appZ k j o n zs = zs := by
          rcases hsame with rfl | ⟨rfl, hne⟩
          · exact appZ_one _ _ _ _
          · exact appZ_no (by rw [Int.toNat_natCast, ← hx]; exact hne)
        rw [hz]
        have HX := Lib.hid hx
        have hok : appOk k j o zs = decide (k = 1) := by
          unfold appOk
          rw [Int.toNat_natCast, ← hx]
          rcases hsame with rfl | ⟨rfl, hne⟩
          · rfl
          · rw [beq_eq_false_iff_ne.2 hne]; rfl
        rw [hok]
        clear hok hz hx h0 hr hk
        unfold acc resV
        obtain ⟨L, hL⟩ : ∃ L, L = zs.length := ⟨_, rfl⟩
        rw [← hL] at HV hs h1 hj ⊢
        clear hL hl hlen HWi HX hs
        rcases hsame with rfl | ⟨rfl, hne⟩
        · go_enter Try.func25, Try.ntmps25
          go_wp2_with (first
            | (go_at_call 46; refine (HQ.out _).mono ?_; rintro e w' ⟨rfl, cs, rfl⟩))
          refine bodyPost_ret (v := .tuple #[.agg #[.slice (some ⟨bb, oo, none⟩) L cap], .agg #[.int .i64 x, .bool true], .int .i64 0]) (by simp [results, Try.results25, go_sem]) rfl ?_
          refine ⟨_, rfl, hasInts_keep HV.out ?_, ?_⟩
          all_goals repeat (first | with_reducible exact Below.refl _ _ | with_reducible refine Below.setCell ?_ (by first | omega | (simp; omega) | simp) _ | with_reducible refine Below.alloc ?_ (by first | omega | (simp; omega) | simp) _)
        · have hne' : (x != o) = true := by simp [hne]
          clear hne
          go_enter Try.func25, Try.ntmps25
          go_wp2_with (first
            | (go_at_call 46; refine (HQ.out _).mono ?_; rintro e w' ⟨rfl, cs, rfl⟩))
          refine bodyPost_ret (v := .tuple #[.agg #[.slice (some ⟨bb, oo, none⟩) L cap], .agg #[.int .i64 x, .bool false], .int .i64 0]) (by simp [results, Try.results25, go_sem]) rfl ?_
          refine ⟨_, rfl, hasInts_keep HV.out ?_, ?_⟩
          all_goals repeat (first | with_reducible exact Below.refl _ _ | with_reducible refine Below.setCell ?_ (by first | omega | (simp; omega) | simp) _ | with_reducible refine Below.alloc ?_ (by first | omega | (simp; omega) | simp) _)
      · obtain ⟨y, hy⟩ : ∃ y, y = if k = 4 then wrap64 (x + n) else n := ⟨_, rfl⟩
        have hz : appZ k j o n zs = zs.set j y := by
          rw [hy]
          unfold appZ
          rw [Int.toNat_natCast, ← hx]
          by_cases k4 : k = 4
          · rw [if_neg (by omega), if_pos k4, if_pos k4]
          · rw [if_pos, if_neg k4]
            rcases hk with h | h | h | h
            · exact absurd (Or.inl h) hsame
            · exact Or.inl h
            · exact Or.inr ⟨h, Decidable.byContradiction fun hne => hsame (Or.inr ⟨h, hne⟩)⟩
            · exact absurd h k4
        have hok : appOk k j o zs = true := by
          unfold appOk
          rw [Int.toNat_natCast, ← hx]
          by_cases k3 : k = 3
          · have : x = o := Decidable.byContradiction fun hne => hsame (Or.inr ⟨k3, hne⟩)
            rw [this]; simp
          · simp [k3]
        rw [hz, hok]
        have k1 : (k == 1) = false := by simp; exact fun h => hsame (Or.inl h)
        have hk3 : k ≠ 3 ∨ (k = 3 ∧ x = o) := by
          by_cases k3 : k = 3
          · exact Or.inr ⟨k3, Decidable.byContradiction fun hne => hsame (Or.inr ⟨k3, hne⟩)⟩
          · exact Or.inl k3
        obtain ⟨Z, hZ⟩ : ∃ Z, Z = zs.set j y := ⟨_, rfl⟩
        have HW : Hid (∀ (w : World), HasInts w (.slice (some ⟨bb, oo, none⟩) zs.length cap) zs → Calls Try.prog 47 #[.agg #[.slice (some ⟨bb, oo, none⟩) zs.length cap], .int .i64 j, .int .i64 y] w fun e w' =>
          ∃ u, e = .returned (.agg #[u]) ∧ w'.ownsRow w.heap.size 3 1 u zs.length (Z.map (Value.int .i64)) ∧ Below w.heap.size w w') := Lib.hid (fun w hv => by rw [hZ]; exact HWi.out y w hv)
        have HZl : Hid (Z.length = zs.length) := Lib.hid (by rw [hZ]; simp)
        rw [← hZ]
        clear hok hz hx h0 hr hsame HWi hZ
        unfold acc resV
        obtain ⟨L, hL⟩ : ∃ L, L = zs.length := ⟨_, rfl⟩
        rw [← hL] at HV HW HZl hs h1 hj ⊢
        clear hL hl hlen hs
        have fin : Hid (∀ (k : Int) (u : Value) (cs : Array Value) (w1 : World), Below ((((((w.alloc (.cells #[.slice (some ⟨bb, oo, none⟩) L cap] 24)).alloc (.cells #[.int .i64 k, .int .i64 j, .int .i64 o, .int .i64 n, .string b] 30)).alloc (.cells #[.slice none 0 0] 24)).alloc (.cells #[.int .i64 0, .bool false] 34)).alloc (.cells cs 30))).heap.size (((((w.alloc (.cells #[.slice (some ⟨bb, oo, none⟩) L cap] 24)).alloc (.cells #[.int .i64 k, .int .i64 j, .int .i64 o, .int .i64 n, .string b] 30)).alloc (.cells #[.slice none 0 0] 24)).alloc (.cells #[.int .i64 0, .bool false] 34)).alloc (.cells cs 30)) w1 →
            Hid (Below w.heap.size w w1) ∧ w1.cell? ⟨w.heap.size + 1 + 1, 0, none⟩ = some (.slice none 0 0) ∧ w1.cell? ⟨w.heap.size + 1 + 1 + 1, 0, none⟩ = some (.int .i64 0) ∧ w1.cell? ⟨w.heap.size + 1 + 1 + 1, 1, none⟩ = some (.bool false) ∧
            w1.frozen? ⟨w.heap.size + 1 + 1, 0, none⟩ = false ∧ w1.frozen? ⟨w.heap.size + 1 + 1 + 1, 0, none⟩ = false ∧ w1.frozen? ⟨w.heap.size + 1 + 1 + 1, 1, none⟩ = false) := Lib.hid (by
          intro k u cs w1 hb
          obtain ⟨hc, hf⟩ := bcell hb
          refine ⟨?_, ?_, ?_, ?_, ?_, ?_, ?_⟩
          · refine (?_ : Below w.heap.size w _).trans (hb.mono (by simp; omega))
            repeat (first | with_reducible exact Below.refl _ _ | with_reducible refine Below.alloc ?_ (by first | omega | (simp; omega) | simp) _)
          all_goals first
            | (rw [hc _ _ (by simp)]; simp [World.cell?_alloc_past, World.cell?_alloc_at])
            | (rw [hf _ _ (by simp)]; simp [World.frozen?_alloc_past, World.frozen?_alloc_at]))
        rcases hk3 with k3 | ⟨rfl, rfl⟩
        · have k3' : (k == 3) = false := by simp [k3]
          by_cases k4 : k = 4
          · subst k4
            rw [if_pos rfl] at hy
            subst hy
            clear hk k3 k3' k1
            go_enter Try.func25, Try.ntmps25
            go_wp2_with (first
              | (go_at_call 46; refine (HQ.out _).mono ?_; rintro e w' ⟨rfl, cs, rfl⟩)
              | (go_at_call 47; refine (HW.out _ (hasInts_keep HV.out (by repeat (first | with_reducible exact Below.refl _ _ | with_reducible refine Below.alloc ?_ (by first | omega | (simp; omega) | simp) _)))).mono ?_; rintro e w1 ⟨u, rfl, hu, hb⟩; obtain ⟨HB, q0, q1, q2, g0, g1, g2⟩ := fin.out _ u _ _ hb; have HU := Lib.hid hu; obtain ⟨a', cap', rfl⟩ := owns_slice hu; clear hb hu))
            refine bodyPost_ret (v := .tuple #[.agg #[.slice a' L cap'], .agg #[.int .i64 x, .bool true], .int .i64 0]) (by simp [results, Try.results25, go_sem, q0, q1, q2]) rfl ?_
            have hsz := HB.out.size
            refine ⟨_, rfl, ?_, ((HB.out.setCell (by simp; omega) _).setCell (by simp; omega) _).setCell (by simp; omega) _⟩
            have hlt := HU.out.lt
            simp at hlt
            refine hasInts_of_owns (B := 0) ?_
            rw [HZl.out]
            refine owns_setCell_other (owns_setCell_other (owns_setCell_other (owns_mono HU.out (Nat.zero_le _)) ?_ _) ?_ _) ?_ _
            all_goals (intro hq; have := hlt _ hq; simp at this; omega)
          · rw [if_neg k4] at hy
            subst hy
            have k4' : (k == 4) = false := by simp [k4]
            clear hk k3 k4
            go_enter Try.func25, Try.ntmps25
            go_wp2_with (first
              | (go_at_call 46; refine (HQ.out _).mono ?_; rintro e w' ⟨rfl, cs, rfl⟩)
              | (go_at_call 47; refine (HW.out _ (hasInts_keep HV.out (by repeat (first | with_reducible exact Below.refl _ _ | with_reducible refine Below.alloc ?_ (by first | omega | (simp; omega) | simp) _)))).mono ?_; rintro e w1 ⟨u, rfl, hu, hb⟩; obtain ⟨HB, q0, q1, q2, g0, g1, g2⟩ := fin.out _ u _ _ hb; have HU := Lib.hid hu; obtain ⟨a', cap', rfl⟩ := owns_slice hu; clear hb hu))
            refine bodyPost_ret (v := .tuple #[.agg #[.slice a' L cap'], .agg #[.int .i64 x, .bool true], .int .i64 0]) (by simp [results, Try.results25, go_sem, q0, q1, q2]) rfl ?_
            have hsz := HB.out.size
            refine ⟨_, rfl, ?_, ((HB.out.setCell (by simp; omega) _).setCell (by simp; omega) _).setCell (by simp; omega) _⟩
            have hlt := HU.out.lt
            simp at hlt
            refine hasInts_of_owns (B := 0) ?_
            rw [HZl.out]
            refine owns_setCell_other (owns_setCell_other (owns_setCell_other (owns_mono HU.out (Nat.zero_le _)) ?_ _) ?_ _) ?_ _
            all_goals (intro hq; have := hlt _ hq; simp at this; omega)
        · rw [if_neg (by omega)] at hy
          subst hy
          clear hk k1
          go_enter Try.func25, Try.ntmps25
          go_wp2_with (first
            | (go_at_call 46; refine (HQ.out _).mono ?_; rintro e w' ⟨rfl, cs, rfl⟩)
            | (go_at_call 47; refine (HW.out _ (hasInts_keep HV.out (by repeat (first | with_reducible exact Below.refl _ _ | with_reducible refine Below.alloc ?_ (by first | omega | (simp; omega) | simp) _)))).mono ?_; rintro e w1 ⟨u, rfl, hu, hb⟩; obtain ⟨HB, q0, q1, q2, g0, g1, g2⟩ := fin.out _ u _ _ hb; have HU := Lib.hid hu; obtain ⟨a', cap', rfl⟩ := owns_slice hu; clear hb hu))
          refine bodyPost_ret (v := .tuple #[.agg #[.slice a' L cap'], .agg #[.int .i64 x, .bool true], .int .i64 0]) (by simp [results, Try.results25, go_sem, q0, q1, q2]) rfl ?_
          have hsz := HB.out.size
          refine ⟨_, rfl, ?_, ((HB.out.setCell (by simp; omega) _).setCell (by simp; omega) _).setCell (by simp; omega) _⟩
          have hlt := HU.out.lt
          simp at hlt
          refine hasInts_of_owns (B := 0) ?_
          rw [HZl.out]
          refine owns_setCell_other (owns_setCell_other (owns_setCell_other (owns_mono HU.out (Nat.zero_le _)) ?_ _) ?_ _) ?_ _
          all_goals (intro hq; have := hlt _ hq; simp at this; omega)

end Go.Proofs.Ytekcjffdooekaaa


/-
  Layer 2: one access to a memory: the row that it leaves is the old one, or one of the call's own.
-/
namespace Go.Proofs.Ytekcjffdooekaaa
open Go.ChangeShapes Go.WideShapes Go.ChangeAt Go.RowKit

/-- The row u is v, or owned from block B on. -/
def FromO (w' : World) (B : Nat) (v u : Value) (Z : List Int) : Prop := u = v ∨ w'.ownsRow B 3 1 u Z.length (Z.map (Value.int .i64))

set_option maxHeartbeats 1600000 in
theorem do_anyF (v : Value) (zs : List Int) (k c o n : Int) (b : ByteArray) (w : World) (hv : HasInts w v zs) (hlen : zs.length ≤ 35184372088832) :
    Calls Try.prog 22 #[.agg #[v], acc k c o n b] w fun e w' =>
    ∃ u, e = .returned (.tuple #[.agg #[u], resV (doR k c o n b zs) (doOk k c o n b zs), .int .i64 (chk zs.length k c o n b)]) ∧ HasInts w' u (doZ k c o n b zs) ∧ Below w.heap.size w w' ∧ FromO w' w.heap.size v u (doZ k c o n b zs) := by
  have hv0 := hv
  obtain ⟨a, cap, rfl, hl, hc⟩ := hv
  obtain ⟨r, hr⟩ : ∃ r, r = chk zs.length k c o n b := ⟨_, rfl⟩
  by_cases he : r = 0
  · have hck : chk zs.length k c o n b = 0 := by rw [← hr, he]
    obtain ⟨hk, h0, h1, hright⟩ := chk_zero hck
    have HQ : Hid (∀ w, Calls Try.prog 43 #[.int .i64 zs.length, acc k c o n b] w fun e w' => e = .returned (.int .i64 0) ∧ ∃ cs cs', w' = (w.alloc (.cells cs 30)).alloc (.cells cs' 30)) := Lib.hid (fun w => by
      have := check_any zs.length k c o n b w; rwa [hck] at this)
    by_cases k1 : k = 1
    · subst k1
      rw [show doR 1 c o n b zs = zs.getD c.toNat 0 by unfold doR; rw [if_pos hck], show doOk 1 c o n b zs = true by unfold doOk; rw [if_pos hck]; rfl,
        show doZ 1 c o n b zs = zs by unfold doZ; rw [if_pos hck, appZ_one]]
      rw [hck]
      obtain ⟨j, rfl⟩ := Int.eq_ofNat_of_zero_le h0
      rcases hc with hc | ⟨bb, oo, rfl, hc⟩
      · omega
      have hcell := hc j (by omega)
      have hbl : bb < w.heap.size := World.block_lt_of_cell? w ⟨bb, oo + j, none⟩ hcell
      rw [Int.toNat_natCast]
      obtain ⟨x, hx⟩ : ∃ x, x = zs.getD j 0 := ⟨_, rfl⟩
      rw [← hx] at hcell ⊢
      have h6 := fun o1 o2 o3 o4 o5 o6 => cell_alloc o6 (cell_alloc o5 (cell_alloc o4 (cell_alloc o3 (cell_alloc o2 (cell_alloc o1 hcell)))))
      have HV := Lib.hid hv0
      unfold acc at HQ ⊢
      clear hr he hck hk h0 hright hc hx hv0
      go_enter Try.func22, Try.ntmps22
      go_wp2_with (first | (go_at_call 43; refine (HQ.out _).mono ?_; rintro e w' ⟨rfl, cs, cs', rfl⟩))
      go_region
      all_goals (
        go_wp2
        refine bodyPost_ret (v := .tuple #[.agg #[.slice (some ⟨bb, oo, none⟩) zs.length cap], resV x true, .int .i64 0]) (by simp [results, Try.results22, go_sem, resV]) rfl ?_
        refine ⟨_, rfl, hasInts_keep HV.out ?_, ?_, Or.inl rfl⟩
        all_goals repeat (first | with_reducible exact Below.refl _ _ | with_reducible refine Below.drew ?_ | with_reducible refine Below.setCell ?_ (by first | omega | (simp; omega) | simp) _ | with_reducible refine Below.alloc ?_ (by first | omega | (simp; omega) | simp) _))
    · rw [show doR k c o n b zs = zs.getD c.toNat 0 by unfold doR; rw [if_pos hck], show doOk k c o n b zs = appOk k c o zs by unfold doOk; rw [if_pos hck],
        show doZ k c o n b zs = appZ k c o n zs by unfold doZ; rw [if_pos hck]]
      rw [hck]
      have HV := Lib.hid hv0
      have k1' : (k == 1) = false := by simp [k1]
      have HP : Hid (∀ (B g cap : Nat) (w : World), w.ownsRow B 3 1 (.slice (some ⟨g, 0, none⟩) zs.length cap) zs.length (zs.map (Value.int .i64)) → B ≤ w.heap.size → Calls Try.prog 45 #[.slice (some ⟨g, 0, none⟩) zs.length cap, acc k c o n b] w fun e w' =>
          e = .returned (resV (zs.getD c.toNat 0) (appOk k c o zs)) ∧ w'.ownsRow B 3 1 (.slice (some ⟨g, 0, none⟩) zs.length cap) zs.length ((appZ k c o n zs).map (Value.int .i64)) ∧ Below B w w' ∧ w.grownBy w' (some g)) :=
        Lib.hid (fun B g cap w hown hB => apply_any B g cap zs k c o n b w hown hk h0 h1 hB)
      have hpos : 0 < zs.length := by omega
      unfold acc resV at HP
      unfold acc at HQ
      unfold acc resV
      clear hr he hck hk h0 h1 hright hc hv0 k1
      obtain ⟨L, hL⟩ : ∃ L, L = zs.length := ⟨_, rfl⟩
      rw [← hL] at HQ HP hlen hpos ⊢
      have HL := Lib.hid hL
      clear hL hl
      go_enter Try.func22, Try.ntmps22
      go_wp2_with (first
        | (go_at_call 43; refine (HQ.out _).mono ?_; rintro e w' ⟨rfl, cs, cs', rfl⟩))
      refine (own_any _ zs _ (hasInts_keep (by rw [HL.out]; exact HV.out) ?_) (by rw [← HL.out]; exact hlen)).mono ?_
      · repeat (first | with_reducible exact Below.refl _ _ | with_reducible refine Below.alloc ?_ (by first | omega | (simp; omega) | simp) _)
      rintro e w2 ⟨u, rfl, hown, hb2⟩
      rw [← HL.out] at hown
      obtain ⟨g, cap', rfl⟩ : ∃ g cap', u = .slice (some ⟨g, 0, none⟩) L cap' := by
        obtain ⟨_, ⟨_, h0⟩ | ⟨g, cap', cur, rfl, _⟩⟩ := hown
        · omega
        · exact ⟨g, cap', rfl⟩
      obtain ⟨hc2, hf2⟩ := bcell hb2
      have HO := Lib.hid hown
      have HB2 := Lib.hid hb2
      have hz2 := hb2.size
      simp at hz2
      clear hown hb2
      go_wp2_with fail
      refine (HP.out _ g cap' _ HO.out (by simp; omega)).mono ?_
      rintro e w3 ⟨rfl, hown3, hb3, _⟩
      obtain ⟨hc3, hf3⟩ := bcellB hb3
      have hz3 := hb3.size
      have HO3 := Lib.hid hown3
      have HB3 := Lib.hid hb3
      clear hown3 hb3
      have p0 : w3.cell? ⟨w.heap.size + 1 + 1, 0, none⟩ = some (.slice none 0 0) := by
        rw [hc3 _ _ (by simp), hc2 _ _ (by simp)]; simp [World.cell?_alloc_past, World.cell?_alloc_at]
      have p1 : w3.cell? ⟨w.heap.size + 1 + 1 + 1, 0, none⟩ = some (.int .i64 0) := by
        rw [hc3 _ _ (by simp), hc2 _ _ (by simp)]; simp [World.cell?_alloc_past, World.cell?_alloc_at]
      have p2 : w3.cell? ⟨w.heap.size + 1 + 1 + 1, 1, none⟩ = some (.bool false) := by
        rw [hc3 _ _ (by simp), hc2 _ _ (by simp)]; simp [World.cell?_alloc_past, World.cell?_alloc_at]
      have f0 : w3.frozen? ⟨w.heap.size + 1 + 1, 0, none⟩ = false := by
        rw [hf3 _ _ (by simp), hf2 _ _ (by simp)]; simp [World.frozen?_alloc_past, World.frozen?_alloc_at]
      have f1 : w3.frozen? ⟨w.heap.size + 1 + 1 + 1, 0, none⟩ = false := by
        rw [hf3 _ _ (by simp), hf2 _ _ (by simp)]; simp [World.frozen?_alloc_past, World.frozen?_alloc_at]
      have f2 : w3.frozen? ⟨w.heap.size + 1 + 1 + 1, 1, none⟩ = false := by
        rw [hf3 _ _ (by simp), hf2 _ _ (by simp)]; simp [World.frozen?_alloc_past, World.frozen?_alloc_at]
      have q0 := fun ob => cell_alloc ob p0
      have q1 := fun ob => cell_alloc ob p1
      have q2 := fun ob => cell_alloc ob p2
      have g0 := fun ob => frozen_alloc ob (by omega) f0
      have g1 := fun ob => frozen_alloc ob (by omega) f1
      have g2 := fun ob => frozen_alloc ob (by omega) f2
      clear hc2 hf2 hc3 hf3 p0 p1 p2 f0 f1 f2
      obtain ⟨x, hx⟩ : ∃ x, x = zs.getD c.toNat 0 := ⟨_, rfl⟩
      rw [← hx]
      have HX := Lib.hid hx
      clear hx
      go_wp2_with fail
      go_region
      all_goals (
        go_wp2
        refine bodyPost_ret (v := .tuple #[.agg #[.slice (some ⟨g, 0, none⟩) L cap'], .agg #[.int .i64 x, .bool (appOk k c o zs)], .int .i64 0]) (by simp [results, Try.results22, go_sem, q0, q1, q2]) rfl ?_
        have hO := HO3.out
        have hlt := (hO.lt g rfl).1
        simp at hlt
        have hlen' : (appZ k c o n zs).length = L := by rw [appZ_length, HL.out]
        have hb0 : Below w.heap.size w w3 := by
          refine ((?_ : Below w.heap.size w _).trans (HB2.out.mono (by simp; omega))).trans (HB3.out.mono (by simp; omega))
          repeat (first | with_reducible exact Below.refl _ _ | with_reducible refine Below.alloc ?_ (by first | omega | (simp; omega) | simp) _)
        refine (fun (X : Below _ _ _ ∧ World.ownsRow _ w.heap.size 3 1 (.slice (some ⟨g, 0, none⟩) L cap') (appZ k c o n zs).length ((appZ k c o n zs).map (Value.int .i64))) => ⟨.slice (some ⟨g, 0, none⟩) L cap', by rw [HX.out], hasInts_of_owns X.2, X.1, Or.inr X.2⟩) ⟨?_, ?_⟩
        · repeat (first | with_reducible exact hb0 | with_reducible refine Below.drew ?_ | with_reducible refine Below.setCell ?_ (by first | omega | (simp; omega) | simp) _ | with_reducible refine Below.alloc ?_ (by first | omega | (simp; omega) | simp) _)
        · rw [hlen']
          repeat (first | with_reducible refine World.ownsRow.drew ?_ | with_reducible refine owns_setCell_other ?_ (by simp [Value.ownBlock]; omega) _ | with_reducible refine World.ownsRow.alloc ?_ _)
          exact owns_mono hO (by simp; omega))
  · have hck : chk zs.length k c o n b ≠ 0 := by rw [← hr]; exact he
    have HQ : Hid (∀ w, Calls Try.prog 43 #[.int .i64 zs.length, acc k c o n b] w fun e w' => e = .returned (.int .i64 r) ∧ ∃ cs cs', w' = (w.alloc (.cells cs 30)).alloc (.cells cs' 30)) := Lib.hid (fun w => by
      have := check_any zs.length k c o n b w; rwa [← hr] at this)
    rw [show doR k c o n b zs = 0 by unfold doR; rw [if_neg hck], show doOk k c o n b zs = false by unfold doOk; rw [if_neg hck],
      show doZ k c o n b zs = zs by unfold doZ; rw [if_neg hck], ← hr]
    have hr' : (r != 0) = true := by simp [he]
    have HV := Lib.hid hv0
    unfold acc at HQ ⊢
    unfold resV
    clear hr he hck hc hv0
    obtain ⟨L, hL⟩ : ∃ L, L = zs.length := ⟨_, rfl⟩
    rw [← hL] at HQ ⊢
    have HL := Lib.hid hL
    clear hL hl hlen
    go_enter Try.func22, Try.ntmps22
    go_wp2_with (first
      | (go_at_call 43; refine (HQ.out _).mono ?_; rintro e w' ⟨rfl, cs, cs', rfl⟩))
    refine bodyPost_ret (v := .tuple #[.agg #[.slice a L cap], .agg #[.int .i64 0, .bool false], .int .i64 r]) (by simp [results, Try.results22, go_sem]) rfl ?_
    refine ⟨_, rfl, hasInts_keep (by rw [HL.out]; exact HV.out) ?_, ?_, Or.inl rfl⟩
    all_goals repeat (first | with_reducible exact Below.refl _ _ | with_reducible refine Below.setCell ?_ (by first | omega | (simp; omega) | simp) _ | with_reducible refine Below.alloc ?_ (by first | omega | (simp; omega) | simp) _)



set_option maxHeartbeats 1600000 in
theorem rdo_anyF (v : Value) (zs : List Int) (k c o n : Int) (b : ByteArray) (w : World) (hv : HasInts w v zs) (hlen : zs.length ≤ 17592186044416) :
    Calls Try.prog 25 #[.agg #[v], acc k c o n b] w fun e w' =>
    ∃ u, e = .returned (.tuple #[.agg #[u], resV (doR k c o n b zs) (doOk k c o n b zs), .int .i64 (chk zs.length k c o n b)]) ∧ HasInts w' u (doZ k c o n b zs) ∧ Below w.heap.size w w' ∧ FromO w' w.heap.size v u (doZ k c o n b zs) := by
  have HV := Lib.hid hv
  obtain ⟨a, cap, rfl, hl, hc⟩ := hv
  cases hr : rightB k c o n b
  · have hck : chk zs.length k c o n b = 1 := by unfold chk; rw [hr]; rfl
    rw [show doR k c o n b zs = 0 by unfold doR; rw [hck]; rfl, show doOk k c o n b zs = false by unfold doOk; rw [hck]; rfl, show doZ k c o n b zs = zs by unfold doZ; rw [hck]; rfl, hck]
    have HQ := rright_is k c o n b false hr
    unfold acc resV
    clear hck hr hc
    obtain ⟨L, hL⟩ : ∃ L, L = zs.length := ⟨_, rfl⟩
    rw [← hL] at HV ⊢
    clear hL hl hlen
    go_enter Try.func25, Try.ntmps25
    go_wp2_with (first
      | (go_at_call 46; refine (HQ.out _).mono ?_; rintro e w' ⟨rfl, cs, rfl⟩))
    refine bodyPost_ret (v := .tuple #[.agg #[.slice a L cap], .agg #[.int .i64 0, .bool false], .int .i64 1]) (by simp [results, Try.results25, go_sem]) rfl ?_
    refine ⟨_, rfl, hasInts_keep HV.out ?_, ?_, Or.inl rfl⟩
    all_goals repeat (first | with_reducible exact Below.refl _ _ | with_reducible refine Below.setCell ?_ (by first | omega | (simp; omega) | simp) _ | with_reducible refine Below.alloc ?_ (by first | omega | (simp; omega) | simp) _)
  · have HQ := rright_is k c o n b true hr
    by_cases hs : (zs.length : Int) ≤ c
    · have hck : chk zs.length k c o n b = 8 := by unfold chk; rw [hr, if_pos rfl, if_pos hs]
      rw [show doR k c o n b zs = 0 by unfold doR; rw [hck]; rfl, show doOk k c o n b zs = false by unfold doOk; rw [hck]; rfl, show doZ k c o n b zs = zs by unfold doZ; rw [hck]; rfl, hck]
      unfold acc resV
      clear hck hr hc
      obtain ⟨L, hL⟩ : ∃ L, L = zs.length := ⟨_, rfl⟩
      rw [← hL] at HV hs ⊢
      clear hL hl hlen
      go_enter Try.func25, Try.ntmps25
      go_wp2_with (first
        | (go_at_call 46; refine (HQ.out _).mono ?_; rintro e w' ⟨rfl, cs, rfl⟩))
      refine bodyPost_ret (v := .tuple #[.agg #[.slice a L cap], .agg #[.int .i64 0, .bool false], .int .i64 8]) (by simp [results, Try.results25, go_sem]) rfl ?_
      refine ⟨_, rfl, hasInts_keep HV.out ?_, ?_, Or.inl rfl⟩
      all_goals repeat (first | with_reducible exact Below.refl _ _ | with_reducible refine Below.setCell ?_ (by first | omega | (simp; omega) | simp) _ | with_reducible refine Below.alloc ?_ (by first | omega | (simp; omega) | simp) _)
    · have hck : chk zs.length k c o n b = 0 := by unfold chk; rw [hr, if_pos rfl, if_neg hs]
      obtain ⟨hk, h0, h1, _⟩ := chk_zero hck
      rw [show doR k c o n b zs = zs.getD c.toNat 0 by unfold doR; rw [if_pos hck], show doOk k c o n b zs = appOk k c o zs by unfold doOk; rw [if_pos hck],
        show doZ k c o n b zs = appZ k c o n zs by unfold doZ; rw [if_pos hck], hck]
      obtain ⟨j, rfl⟩ := Int.eq_ofNat_of_zero_le h0
      rw [Int.toNat_natCast]
      have hj : j < zs.length := by omega
      rcases hc with hc | ⟨bb, oo, rfl, hc⟩
      · omega
      have hcell := hc j hj
      have h5 := fun o1 o2 o3 o4 o5 => cell_alloc o5 (cell_alloc o4 (cell_alloc o3 (cell_alloc o2 (cell_alloc o1 hcell))))
      obtain ⟨x, hx⟩ : ∃ x, x = zs.getD j 0 := ⟨_, rfl⟩
      rw [← hx] at h5 ⊢
      have HWi : Hid (∀ (y : Int) (w : World), HasInts w (.slice (some ⟨bb, oo, none⟩) zs.length cap) zs → Calls Try.prog 47 #[.agg #[.slice (some ⟨bb, oo, none⟩) zs.length cap], .int .i64 j, .int .i64 y] w fun e w' =>
          ∃ u, e = .returned (.agg #[u]) ∧ w'.ownsRow w.heap.size 3 1 u zs.length ((zs.set j y).map (Value.int .i64)) ∧ Below w.heap.size w w') := Lib.hid (fun y w hv => with_any _ zs j y w hv hj hlen)
      clear hcell hc hck
      by_cases hsame : k = 1 ∨ (k = 3 ∧ x ≠ o)
      · have hz : appZ k j o n zs = zs := by
          rcases hsame with rfl | ⟨rfl, hne⟩
          · exact appZ_one _ _ _ _
          · exact appZ_no (by rw [Int.toNat_natCast, ← hx]; exact hne)
        rw [hz]
        have HX := Lib.hid hx
        have hok : appOk k j o zs = decide (k = 1) := by
          unfold appOk
          rw [Int.toNat_natCast, ← hx]
          rcases hsame with rfl | ⟨rfl, hne⟩
          · rfl
          · rw [beq_eq_false_iff_ne.2 hne]; rfl
        rw [hok]
        clear hok hz hx h0 hr hk
        unfold acc resV
        obtain ⟨L, hL⟩ : ∃ L, L = zs.length := ⟨_, rfl⟩
        rw [← hL] at HV hs h1 hj ⊢
        clear hL hl hlen HWi HX hs
        rcases hsame with rfl | ⟨rfl, hne⟩
        · go_enter Try.func25, Try.ntmps25
          go_wp2_with (first
            | (go_at_call 46; refine (HQ.out _).mono ?_; rintro e w' ⟨rfl, cs, rfl⟩))
          refine bodyPost_ret (v := .tuple #[.agg #[.slice (some ⟨bb, oo, none⟩) L cap], .agg #[.int .i64 x, .bool true], .int .i64 0]) (by simp [results, Try.results25, go_sem]) rfl ?_
          refine ⟨_, rfl, hasInts_keep HV.out ?_, ?_, Or.inl rfl⟩
          all_goals repeat (first | with_reducible exact Below.refl _ _ | with_reducible refine Below.setCell ?_ (by first | omega | (simp; omega) | simp) _ | with_reducible refine Below.alloc ?_ (by first | omega | (simp; omega) | simp) _)
        · have hne' : (x != o) = true := by simp [hne]
          clear hne
          go_enter Try.func25, Try.ntmps25
          go_wp2_with (first
            | (go_at_call 46; refine (HQ.out _).mono ?_; rintro e w' ⟨rfl, cs, rfl⟩))
          refine bodyPost_ret (v := .tuple #[.agg #[.slice (some ⟨bb, oo, none⟩) L cap], .agg #[.int .i64 x, .bool false], .int .i64 0]) (by simp [results, Try.results25, go_sem]) rfl ?_
          refine ⟨_, rfl, hasInts_keep HV.out ?_, ?_, Or.inl rfl⟩
          all_goals repeat (first | with_reducible exact Below.refl _ _ | with_reducible refine Below.setCell ?_ (by first | omega | (simp; omega) | simp) _ | with_reducible refine Below.alloc ?_ (by first | omega | (simp; omega) | simp) _)
      · obtain ⟨y, hy⟩ : ∃ y, y = if k = 4 then wrap64 (x + n) else n := ⟨_, rfl⟩
        have hz : appZ k j o n zs = zs.set j y := by
          rw [hy]
          unfold appZ
          rw [Int.toNat_natCast, ← hx]
          by_cases k4 : k = 4
          · rw [if_neg (by omega), if_pos k4, if_pos k4]
          · rw [if_pos, if_neg k4]
            rcases hk with h | h | h | h
            · exact absurd (Or.inl h) hsame
            · exact Or.inl h
            · exact Or.inr ⟨h, Decidable.byContradiction fun hne => hsame (Or.inr ⟨h, hne⟩)⟩
            · exact absurd h k4
        have hok : appOk k j o zs = true := by
          unfold appOk
          rw [Int.toNat_natCast, ← hx]
          by_cases k3 : k = 3
          · have : x = o := Decidable.byContradiction fun hne => hsame (Or.inr ⟨k3, hne⟩)
            rw [this]; simp
          · simp [k3]
        rw [hz, hok]
        have k1 : (k == 1) = false := by simp; exact fun h => hsame (Or.inl h)
        have hk3 : k ≠ 3 ∨ (k = 3 ∧ x = o) := by
          by_cases k3 : k = 3
          · exact Or.inr ⟨k3, Decidable.byContradiction fun hne => hsame (Or.inr ⟨k3, hne⟩)⟩
          · exact Or.inl k3
        obtain ⟨Z, hZ⟩ : ∃ Z, Z = zs.set j y := ⟨_, rfl⟩
        have HW : Hid (∀ (w : World), HasInts w (.slice (some ⟨bb, oo, none⟩) zs.length cap) zs → Calls Try.prog 47 #[.agg #[.slice (some ⟨bb, oo, none⟩) zs.length cap], .int .i64 j, .int .i64 y] w fun e w' =>
          ∃ u, e = .returned (.agg #[u]) ∧ w'.ownsRow w.heap.size 3 1 u zs.length (Z.map (Value.int .i64)) ∧ Below w.heap.size w w') := Lib.hid (fun w hv => by rw [hZ]; exact HWi.out y w hv)
        have HZl : Hid (Z.length = zs.length) := Lib.hid (by rw [hZ]; simp)
        rw [← hZ]
        clear hok hz hx h0 hr hsame HWi hZ
        unfold acc resV
        obtain ⟨L, hL⟩ : ∃ L, L = zs.length := ⟨_, rfl⟩
        rw [← hL] at HV HW HZl hs h1 hj ⊢
        clear hL hl hlen hs
        have fin : Hid (∀ (k : Int) (u : Value) (cs : Array Value) (w1 : World), Below ((((((w.alloc (.cells #[.slice (some ⟨bb, oo, none⟩) L cap] 24)).alloc (.cells #[.int .i64 k, .int .i64 j, .int .i64 o, .int .i64 n, .string b] 30)).alloc (.cells #[.slice none 0 0] 24)).alloc (.cells #[.int .i64 0, .bool false] 34)).alloc (.cells cs 30))).heap.size (((((w.alloc (.cells #[.slice (some ⟨bb, oo, none⟩) L cap] 24)).alloc (.cells #[.int .i64 k, .int .i64 j, .int .i64 o, .int .i64 n, .string b] 30)).alloc (.cells #[.slice none 0 0] 24)).alloc (.cells #[.int .i64 0, .bool false] 34)).alloc (.cells cs 30)) w1 →
            Hid (Below w.heap.size w w1) ∧ w1.cell? ⟨w.heap.size + 1 + 1, 0, none⟩ = some (.slice none 0 0) ∧ w1.cell? ⟨w.heap.size + 1 + 1 + 1, 0, none⟩ = some (.int .i64 0) ∧ w1.cell? ⟨w.heap.size + 1 + 1 + 1, 1, none⟩ = some (.bool false) ∧
            w1.frozen? ⟨w.heap.size + 1 + 1, 0, none⟩ = false ∧ w1.frozen? ⟨w.heap.size + 1 + 1 + 1, 0, none⟩ = false ∧ w1.frozen? ⟨w.heap.size + 1 + 1 + 1, 1, none⟩ = false) := Lib.hid (by
          intro k u cs w1 hb
          obtain ⟨hc, hf⟩ := bcell hb
          refine ⟨?_, ?_, ?_, ?_, ?_, ?_, ?_⟩
          · refine (?_ : Below w.heap.size w _).trans (hb.mono (by simp; omega))
            repeat (first | with_reducible exact Below.refl _ _ | with_reducible refine Below.alloc ?_ (by first | omega | (simp; omega) | simp) _)
          all_goals first
            | (rw [hc _ _ (by simp)]; simp [World.cell?_alloc_past, World.cell?_alloc_at])
            | (rw [hf _ _ (by simp)]; simp [World.frozen?_alloc_past, World.frozen?_alloc_at]))
        rcases hk3 with k3 | ⟨rfl, rfl⟩
        · have k3' : (k == 3) = false := by simp [k3]
          by_cases k4 : k = 4
          · subst k4
            rw [if_pos rfl] at hy
            subst hy
            clear hk k3 k3' k1
            go_enter Try.func25, Try.ntmps25
            go_wp2_with (first
              | (go_at_call 46; refine (HQ.out _).mono ?_; rintro e w' ⟨rfl, cs, rfl⟩)
              | (go_at_call 47; refine (HW.out _ (hasInts_keep HV.out (by repeat (first | with_reducible exact Below.refl _ _ | with_reducible refine Below.alloc ?_ (by first | omega | (simp; omega) | simp) _)))).mono ?_; rintro e w1 ⟨u, rfl, hu, hb⟩; obtain ⟨HB, q0, q1, q2, g0, g1, g2⟩ := fin.out _ u _ _ hb; have HU := Lib.hid hu; obtain ⟨a', cap', rfl⟩ := owns_slice hu; clear hb hu))
            refine bodyPost_ret (v := .tuple #[.agg #[.slice a' L cap'], .agg #[.int .i64 x, .bool true], .int .i64 0]) (by simp [results, Try.results25, go_sem, q0, q1, q2]) rfl ?_
            have hsz := HB.out.size
            refine (fun (X : World.ownsRow _ w.heap.size 3 1 (.slice a' L cap') Z.length (Z.map (Value.int .i64))) => ⟨_, rfl, hasInts_of_owns X, ((HB.out.setCell (by simp; omega) _).setCell (by simp; omega) _).setCell (by simp; omega) _, Or.inr X⟩) ?_
            have hlt := HU.out.lt
            simp at hlt
            rw [HZl.out]
            refine owns_setCell_other (owns_setCell_other (owns_setCell_other (owns_mono HU.out (by simp; omega)) ?_ _) ?_ _) ?_ _
            all_goals (intro hq; have := hlt _ hq; simp at this; omega)
          · rw [if_neg k4] at hy
            subst hy
            have k4' : (k == 4) = false := by simp [k4]
            clear hk k3 k4
            go_enter Try.func25, Try.ntmps25
            go_wp2_with (first
              | (go_at_call 46; refine (HQ.out _).mono ?_; rintro e w' ⟨rfl, cs, rfl⟩)
              | (go_at_call 47; refine (HW.out _ (hasInts_keep HV.out (by repeat (first | with_reducible exact Below.refl _ _ | with_reducible refine Below.alloc ?_ (by first | omega | (simp; omega) | simp) _)))).mono ?_; rintro e w1 ⟨u, rfl, hu, hb⟩; obtain ⟨HB, q0, q1, q2, g0, g1, g2⟩ := fin.out _ u _ _ hb; have HU := Lib.hid hu; obtain ⟨a', cap', rfl⟩ := owns_slice hu; clear hb hu))
            refine bodyPost_ret (v := .tuple #[.agg #[.slice a' L cap'], .agg #[.int .i64 x, .bool true], .int .i64 0]) (by simp [results, Try.results25, go_sem, q0, q1, q2]) rfl ?_
            have hsz := HB.out.size
            refine (fun (X : World.ownsRow _ w.heap.size 3 1 (.slice a' L cap') Z.length (Z.map (Value.int .i64))) => ⟨_, rfl, hasInts_of_owns X, ((HB.out.setCell (by simp; omega) _).setCell (by simp; omega) _).setCell (by simp; omega) _, Or.inr X⟩) ?_
            have hlt := HU.out.lt
            simp at hlt
            rw [HZl.out]
            refine owns_setCell_other (owns_setCell_other (owns_setCell_other (owns_mono HU.out (by simp; omega)) ?_ _) ?_ _) ?_ _
            all_goals (intro hq; have := hlt _ hq; simp at this; omega)
        · rw [if_neg (by omega)] at hy
          subst hy
          clear hk k1
          go_enter Try.func25, Try.ntmps25
          go_wp2_with (first
            | (go_at_call 46; refine (HQ.out _).mono ?_; rintro e w' ⟨rfl, cs, rfl⟩)
            | (go_at_call 47; refine (HW.out _ (hasInts_keep HV.out (by repeat (first | with_reducible exact Below.refl _ _ | with_reducible refine Below.alloc ?_ (by first | omega | (simp; omega) | simp) _)))).mono ?_; rintro e w1 ⟨u, rfl, hu, hb⟩; obtain ⟨HB, q0, q1, q2, g0, g1, g2⟩ := fin.out _ u _ _ hb; have HU := Lib.hid hu; obtain ⟨a', cap', rfl⟩ := owns_slice hu; clear hb hu))
          refine bodyPost_ret (v := .tuple #[.agg #[.slice a' L cap'], .agg #[.int .i64 x, .bool true], .int .i64 0]) (by simp [results, Try.results25, go_sem, q0, q1, q2]) rfl ?_
          have hsz := HB.out.size
          refine (fun (X : World.ownsRow _ w.heap.size 3 1 (.slice a' L cap') Z.length (Z.map (Value.int .i64))) => ⟨_, rfl, hasInts_of_owns X, ((HB.out.setCell (by simp; omega) _).setCell (by simp; omega) _).setCell (by simp; omega) _, Or.inr X⟩) ?_
          have hlt := HU.out.lt
          simp at hlt
          rw [HZl.out]
          refine owns_setCell_other (owns_setCell_other (owns_setCell_other (owns_mono HU.out (by simp; omega)) ?_ _) ?_ _) ?_ _
          all_goals (intro hq; have := hlt _ hq; simp at this; omega)


end Go.Proofs.Ytekcjffdooekaaa
