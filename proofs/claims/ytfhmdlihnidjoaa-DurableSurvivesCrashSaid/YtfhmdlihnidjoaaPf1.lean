/-
  Merged: Base, WirePlain, Aux, MemA, MemB, MemE, MemF, LayA, LayB, LayE, LayH, LayC, LayR, Word2, MemC, MemD, MemP, MemG, MemGo, LayEo, LayD
-/
import Derived.Test.YtfhmdlihnidjoaaRows
import Derived.WalkKit
import Derived.ProofKit
import Derived.OpenShut
import Derived.Lib.Hide
import Derived.SizedLaws
import Derived.Laws.CopyOwn
import Derived.Deep.QuietTactic
import Derived.BigQuiet
import Derived.Outline
namespace Go.Proofs.Ytfhmdlihnidjoaa
set_option linter.unusedSectionVars false
set_option linter.unusedVariables false
set_option linter.unusedSimpArgs false
set_option maxRecDepth 100000
open Go.ChangeShapes Go.WideShapes Go.ChangeAt Go.RowKit
def I64 (n : Int) : Prop := -9223372036854775808 ≤ n ∧ n ≤ 9223372036854775807
theorem Qks {n : Int} (h : I64 n) : wrap64 n = n := by unfold I64 at h; unfold wrap64; omega
theorem QiE {n : Int} (h : (Lit.int .u8 n).wf = true) : 0 ≤ n ∧ n ≤ 255 := by
  have h1 : IntKind.u8.min = 0 := rfl
  have h2 : IntKind.u8.max = 255 := rfl
  simp only [Lit.wf, Bool.and_eq_true, decide_eq_true_eq] at h
  omega
theorem Qb2 {a b : Bool} (h : a = b) : Ending.returned (.bool a) = .returned (.bool b) := by rw [h]
theorem QcT {k : IntKind} {a b : Int} (h : a = b) : Ending.returned (.int k a) = .returned (.int k b) := by rw [h]
theorem Qis {B : Nat} {a w : World} (h : Below B a w) (n : Nat) : Below B a (w.drewN n) := h.trans ⟨rfl, rfl, rfl, Nat.le_refl _, fun _ _ => rfl⟩
theorem Qgv : (Try.prog.info? 3).map (fun i => (i.zero, i.size, i.bytes)) = some (some (.int .i64 0), 1, 8) := by kernel_rfl
theorem size_int : (Try.prog.info? 3).map (·.size) = some 1 := by kernel_rfl
def QbH (w : World) (v : Value) (zs : List Int) : Prop :=
  ∃ a cap, v = .slice a zs.length cap ∧ zs.length ≤ 9223372036854775807 ∧ (zs.length = 0 ∨ ∃ b o, a = some ⟨b, o, none⟩ ∧ ∀ j, j < zs.length → w.cell? ⟨b, o + j, none⟩ = some (.int .i64 (zs.getD j 0)))
theorem QbS {w : World} {B : Nat} {v : Value} {zs : List Int} (h : w.ownsRow B 3 1 v zs.length (zs.map (Value.int .i64))) : QbH w v zs := by
  have h0 := h
  obtain ⟨_, h | ⟨g, cap, cur, rfl, _, _, hn, hc, _, _⟩⟩ := h
  · obtain ⟨rfl, hz⟩ := h
    exact ⟨none, 0, by rw [hz], by omega, Or.inl hz⟩
  · refine ⟨some ⟨g, 0, none⟩, cap, rfl, by unfold maxLen at hc; omega, Or.inr ⟨g, 0, rfl, fun j hj => ?_⟩⟩
    rw [Nat.zero_add, h0.cellAt j (by omega)]
    simp [List.getD, List.getElem?_eq_getElem hj]
theorem Qhf {w w' : World} {v : Value} {zs : List Int} (h : QbH w v zs) (hb : Below w.heap.size w w') : QbH w' v zs := by
  obtain ⟨a, cap, rfl, hl, h⟩ := h
  refine ⟨a, cap, rfl, hl, ?_⟩
  rcases h with h | ⟨b, o, rfl, h⟩
  · exact Or.inl h
  · refine Or.inr ⟨b, o, rfl, fun j hj => ?_⟩
    have hc := h j hj
    have hlt : b < w.heap.size := World.block_lt_of_cell? w ⟨b, o + j, none⟩ hc
    exact (hb.cell (p := ⟨b, o + j, none⟩) hlt).trans hc
theorem Qgx {w : World} {v : Value} {zs : List Int} (h : QbH w v zs) (n : Nat) : QbH (w.drewN n) v zs := h
theorem QaV {w : World} {B e size n : Nat} {v : Value} {xs : List Value} (h : w.ownsRow B e size v n xs) {a : Addr} (hne : v.ownBlock ≠ some a.block) (u : Value) : (w.setCell a u).ownsRow B e size v n xs := by
  obtain ⟨h1, h2⟩ := h
  refine ⟨h1, ?_⟩
  rcases h2 with h2 | ⟨g, cap, cur, rfl, hb, hh, r⟩
  · exact Or.inl h2
  · exact Or.inr ⟨g, cap, cur, rfl, hb, by rw [Below.heap_setCell _ _ _ _ (by simpa [Value.ownBlock] using hne)]; exact hh, r⟩
theorem Qa8 {w : World} {a : Addr} {v : Value} (o : Obj) (h : w.cell? a = some v) : (w.alloc o).cell? a = some v :=
  (World.cell?_alloc_lt w o a (World.block_lt_of_cell? w a h)).trans h
theorem bcell {W w1 : World} (hb : Below W.heap.size W w1) : (∀ b o, b < W.heap.size → w1.cell? ⟨b, o, none⟩ = W.cell? ⟨b, o, none⟩) ∧ (∀ b o, b < W.heap.size → w1.frozen? ⟨b, o, none⟩ = W.frozen? ⟨b, o, none⟩) :=
  ⟨fun b o h => hb.cell (p := ⟨b, o, none⟩) h, fun b o h => hb.frozen (p := ⟨b, o, none⟩) h⟩
theorem QcA {w : World} {b o : Nat} {r : Bool} (ob : Obj) (hb : b < w.heap.size) (h : w.frozen? ⟨b, o, none⟩ = r) : (w.alloc ob).frozen? ⟨b, o, none⟩ = r :=
  (World.frozen?_alloc_past _ _ _ hb).trans h
theorem Qfo (w : World) (r : Option Nat) : w.grownBy w r := ⟨rfl, rfl, rfl, Nat.le_refl _, fun _ _ _ => rfl⟩
theorem Qd5 {w w' : World} {r : Option Nat} (h : w.grownBy w' r) (o : Obj) : w.grownBy (w'.alloc o) r :=
  ⟨h.os, h.tape, h.output, Nat.le_trans h.size (by simp), fun k hk hne => (Below.heap_alloc _ _ _ (Nat.lt_of_lt_of_le hk h.size)).trans (h.block k hk hne)⟩
theorem Qfn {w w' : World} {g : Nat} (h : w.grownBy w' (some g)) {a : Addr} (ha : a.block = g ∨ w.heap.size ≤ a.block) (u : Value) : w.grownBy (w'.setCell a u) (some g) :=
  ⟨h.os, h.tape, h.output, Nat.le_trans h.size (by simp [World.setCell]), fun k hk hne => (Below.heap_setCell _ _ _ _ (by
    rcases ha with ha | ha
    · intro hc; apply hne; rw [hc, ha]
    · omega)).trans (h.block k hk hne)⟩
theorem Qfp {w w' : World} {r : Option Nat} (h : w.grownBy w' r) : w.grownBy w'.drew r := ⟨h.os, h.tape, h.output, h.size, h.block⟩
theorem QaS {w : World} {B B' e size n : Nat} {v : Value} {xs : List Value} (h : w.ownsRow B e size v n xs) (hb : B' ≤ B) : w.ownsRow B' e size v n xs :=
  ⟨h.1, h.2.imp id fun ⟨g, cap, cur, h1, h2, h3⟩ => ⟨g, cap, cur, h1, Nat.le_trans hb h2, h3⟩⟩
theorem QcI {w : World} {B e size n : Nat} {v : Value} {xs : List Value} (h : w.ownsRow B e size v n xs) : ∃ a c, v = .slice a n c := by
  obtain ⟨_, ⟨rfl, rfl⟩ | ⟨g, cap, cur, rfl, _⟩⟩ := h
  · exact ⟨_, _, rfl⟩
  · exact ⟨_, _, rfl⟩
theorem QfM {w : World} {B e e' size size' n n' : Nat} {v v' : Value} {xs xs' : List Value} (h : w.ownsRow B e size v n xs) (h' : w.ownsRow B e' size' v' n' xs') (hne : e ≠ e') : v.ownBlock = none ∨ v.ownBlock ≠ v'.ownBlock := by
  obtain ⟨_, ⟨rfl, _⟩ | ⟨g, cap, cur, rfl, _, hh, _⟩⟩ := h
  · exact Or.inl rfl
  · obtain ⟨_, ⟨rfl, _⟩ | ⟨g', cap', cur', rfl, _, hh', _⟩⟩ := h'
    · exact Or.inr (by simp [Value.ownBlock])
    · refine Or.inr ?_
      intro hc
      simp [Value.ownBlock] at hc
      subst hc
      rw [hh] at hh'
      simp at hh'
      exact hne hh'.2
theorem Qct {w : World} {v : Value} {T : TypeId} (j : Nat) (u : Value) (hj : [v][j]? = some u) : (w.alloc (.cells #[v] T)).cell? ((⟨w.heap.size, 0, none⟩ : Addr).add j) = some u := by
  match j, hj with
  | 0, hj =>
    simp at hj; subst hj
    simp [Addr.add, World.cell?_alloc_at]
theorem QfF (l : List Int) (k : Nat) (h : k < l.length) : l.take (k + 1) = l.take k ++ [l.getD k 0] := by
  rw [List.take_succ_eq_append_getElem h]; simp [List.getD, List.getElem?_eq_getElem h]
end Go.Proofs.Ytfhmdlihnidjoaa
namespace Go.Proofs.Ytfhmdlihnidjoaa
set_option linter.unusedSectionVars false
set_option linter.unusedVariables false
set_option linter.unusedSimpArgs false
set_option maxRecDepth 100000
def zz (n : Int) : Nat := if 0 ≤ n then (2 * n).toNat else (-2 * n - 1).toNat
def Qfz (u : Nat) : Int := if u % 2 = 0 then ((u / 2 : Nat) : Int) else -((u / 2 : Nat) : Int) - 1
theorem unzz_zz (n : Int) : Qfz (zz n) = n := by
  unfold zz Qfz
  by_cases h : 0 ≤ n
  · rw [if_pos h, if_pos (by omega)]; omega
  · rw [if_neg h, if_neg (by omega)]; omega
theorem zz_unzz (u : Nat) : zz (Qfz u) = u := by
  unfold zz Qfz
  by_cases h : u % 2 = 0
  · rw [if_pos h, if_pos (by omega)]; omega
  · rw [if_neg h, if_neg (by omega)]; omega
theorem Qkk {n : Int} (h : I64 n) : zz n < 18446744073709551616 := by
  unfold I64 at h; unfold zz; split <;> omega
theorem unzz_i64 {u : Nat} (h : u < 18446744073709551616) : I64 (Qfz u) := by
  unfold I64 Qfz; split <;> omega
def grp (u : Nat) : List Nat := if h : u < 128 then [u] else (u % 128 + 128) :: grp (u / 128)
termination_by u
decreasing_by omega
theorem Qcq {u : Nat} (h : u < 128) : grp u = [u] := by unfold grp; rw [dif_pos h]
theorem Qem {u : Nat} (h : ¬ u < 128) : grp u = (u % 128 + 128) :: grp (u / 128) := by rw [grp.eq_1 u, dif_neg h]
def enc (n : Int) : List Nat := grp (zz n)
def QgP : List Nat → Option (Nat × Nat)
  | [] => none
  | b :: r => if b < 128 then some (b, 1) else
    match QgP r with
    | none => none
    | some (u, k) => if u = 0 then none else some (b - 128 + 128 * u, k + 1)
def dec (l : List Nat) : Option (Int × Nat) :=
  match QgP l with
  | none => none
  | some (u, k) => if u < 18446744073709551616 then some (Qfz u, k) else none
theorem Qia (u : Nat) : 0 < (grp u).length := by
  unfold grp; split <;> simp
theorem grp_byte (u : Nat) : ∀ b ∈ grp u, b < 256 := by
  induction u using Nat.strongRecOn with
  | ind u ih =>
    by_cases h : u < 128
    · rw [Qcq h]; intro b hb; simp at hb; omega
    · rw [Qem h]; intro b hb
      rcases List.mem_cons.1 hb with rfl | hb
      · omega
      · exact ih (u / 128) (by omega) b hb
theorem grp_len (u : Nat) : ∀ k : Nat, u < 128 ^ (k + 1) → (grp u).length ≤ k + 1 := by
  intro k
  induction k generalizing u with
  | zero => intro h; rw [Qcq (by simpa using h)]; simp
  | succ k ih =>
    intro h
    by_cases hs : u < 128
    · rw [Qcq hs]; simp
    · rw [Qem hs]
      have := ih (u / 128) (by rw [Nat.pow_succ] at h; exact Nat.div_lt_of_lt_mul (by rw [Nat.mul_comm]; exact h))
      simp; omega
theorem scan_grp (u : Nat) (r : List Nat) : QgP (grp u ++ r) = some (u, (grp u).length) := by
  induction u using Nat.strongRecOn with
  | ind u ih =>
    by_cases h : u < 128
    · rw [Qcq h]; simp [QgP, h]
    · rw [Qem h]
      have h1 := ih (u / 128) (by omega)
      simp only [List.cons_append, QgP]
      rw [if_neg (by omega), h1]
      simp only
      rw [if_neg (by omega)]
      simp
      omega
theorem QkO {l : List Nat} {u k : Nat} (h : QgP l = some (u, k)) : 1 ≤ k ∧ k ≤ l.length := by
  induction l generalizing u k with
  | nil => simp [QgP] at h
  | cons b r ih =>
    unfold QgP at h
    split at h
    · simp at h; simp; omega
    · split at h
      · cases h
      · rename_i u' k' he
        split at h
        · cases h
        · simp at h
          have := ih he
          simp; omega
theorem QkP {l : List Nat} {u k : Nat} (hb : ∀ b ∈ l, b < 256) (h : QgP l = some (u, k)) : l.take k = grp u := by
  induction l generalizing u k with
  | nil => simp [QgP] at h
  | cons b r ih =>
    unfold QgP at h
    split at h
    · rename_i hs
      simp at h
      obtain ⟨rfl, rfl⟩ := h
      rw [Qcq hs]; rfl
    · rename_i hs
      split at h
      · cases h
      · rename_i u' k' he
        split at h
        · cases h
        · rename_i h0
          simp at h
          obtain ⟨rfl, rfl⟩ := h
          have h1 := ih (fun x hx => hb x (List.mem_cons_of_mem _ hx)) he
          have hb0 := hb b (by simp)
          rw [Qem (by omega), List.take_succ_cons, h1]
          congr 1
          · omega
          · congr 1; omega
theorem Ql8 {n : Int} (h : I64 n) (r : List Nat) : dec (enc n ++ r) = some (n, (enc n).length) := by
  unfold dec enc
  rw [scan_grp]
  simp only
  rw [if_pos (Qkk h), unzz_zz]
theorem QgD {l : List Nat} {n : Int} {k : Nat} (hb : ∀ b ∈ l, b < 256) (h : dec l = some (n, k)) : I64 n ∧ l.take k = enc n ∧ 1 ≤ k ∧ k ≤ l.length := by
  unfold dec at h
  split at h
  · cases h
  · rename_i u k' he
    split at h
    · rename_i hu
      simp at h
      obtain ⟨rfl, rfl⟩ := h
      refine ⟨unzz_i64 hu, ?_, QkO he⟩
      unfold enc
      rw [zz_unzz]
      exact QkP hb he
    · cases h
theorem Qig (n : Int) : 0 < (enc n).length := Qia _
theorem Qdi {n : Int} (h : I64 n) : (enc n).length ≤ 10 := grp_len _ 9 (Nat.lt_of_lt_of_le (Qkk h) (by decide))
theorem Qjl (n : Int) : ∀ b ∈ enc n, b < 256 := grp_byte _
def encs (l : List Int) : List Nat := l.flatMap enc
theorem Qd7 (l : List Int) (n : Int) : encs (l ++ [n]) = encs l ++ enc n := by simp [encs]
end Go.Proofs.Ytfhmdlihnidjoaa
namespace Go.Proofs.Ytfhmdlihnidjoaa
set_option linter.unusedSectionVars false
set_option maxRecDepth 100000
set_option linter.unusedVariables false
set_option linter.unusedSimpArgs false
set_option maxHeartbeats 4000000
open Go.ChangeShapes Go.WideShapes Go.ChangeAt Go.RowKit
theorem Qba {W w1 : World} {b o : Nat} {v : Value} (hb : Below W.heap.size W w1) (h : W.cell? ⟨b, o, none⟩ = some v) : w1.cell? ⟨b, o, none⟩ = some v :=
  (hb.cell (p := ⟨b, o, none⟩) (World.block_lt_of_cell? W ⟨b, o, none⟩ h)).trans h
theorem Qer (w : World) (o : Obj) : Below w.heap.size w (w.alloc o) := (Below.refl _ _).alloc (Nat.le_refl _) _
theorem QeA {w w' : World} {o : Obj} (h : Below (w.alloc o).heap.size (w.alloc o) w') : Below w.heap.size w w' :=
  (Qer w o).trans (h.mono (by simp))
theorem QjN {w w' : World} {B e size n : Nat} {v : Value} {xs : List Value} (h : w.ownsRow B e size v n xs) (hb : Below w.heap.size w w') : w'.ownsRow B e size v n xs := by
  refine ⟨h.1, ?_⟩
  rcases h.2 with hn | ⟨g, cap, cur, rfl, hg, hgg, rest⟩
  · exact .inl hn
  · refine .inr ⟨g, cap, cur, rfl, hg, ?_, rest⟩
    rw [hb.block g (by rcases Nat.lt_or_ge g w.heap.size with h | h; exact h; rw [Array.getElem?_eq_none h] at hgg; cases hgg)]
    exact hgg
theorem Qhe {w : World} {v u : Value} {zs : List Int} {a : Option Addr} {l c : Nat} {b o : Nat} (h : QbH w v zs) (hbox : w.cell? ⟨b, o, none⟩ = some (.slice a l c)) : QbH (w.setCell ⟨b, o, none⟩ u) v zs := by
  obtain ⟨a', cap, rfl, hl, h⟩ := h
  refine ⟨a', cap, rfl, hl, ?_⟩
  rcases h with h | ⟨b', o', rfl, h⟩
  · exact Or.inl h
  · refine Or.inr ⟨b', o', rfl, fun j hj => ?_⟩
    have hc := h j hj
    have hne : (⟨b', o' + j, none⟩ : Addr) ≠ ⟨b, o, none⟩ := by
      intro he
      rw [he, hbox] at hc
      simp at hc
    rw [World.cell?_setCell_other _ _ _ _ (Ne.symm hne)]
    exact hc
def acc (k c o n : Int) (b : ByteArray) : Value := .agg #[.int .i64 k, .int .i64 c, .int .i64 o, .int .i64 n, .string b]
def Qbt (k c o n : Int) (b : ByteArray) : Bool :=
  !decide (c < 0) && b.toList.isEmpty && (if k = 1 then n == 0 && o == 0 else if k = 2 ∨ k = 4 then o == 0 else decide (k = 3))
theorem QgX (k c o n : Int) (b : ByteArray) (w : World) : Calls Try.prog 70 #[acc k c o n b] w fun e w' =>
    e = .returned (.bool (Qbt k c o n b)) ∧ ∃ cs, w' = w.alloc (.cells cs 66) := by
  unfold acc
  by_cases hc : c < 0
  · have HE := Lib.hid (show Qbt k c o n b = false by unfold Qbt; simp [hc])
    go_enter Try.func70, Try.ntmps70
    go_wp2
    go_ret
    exact ⟨Qb2 HE.out.symm, _, rfl⟩
  · have hc' : 0 ≤ c := by omega
    cases hb : b.toList.isEmpty
    · have HE := Lib.hid (show Qbt k c o n b = false by unfold Qbt; simp [hb])
      have hb2 : b.toList = [] ↔ False := by simpa using hb
      go_enter Try.func70, Try.ntmps70
      go_wp2
      all_goals (go_ret; exact ⟨Qb2 HE.out.symm, _, rfl⟩)
    · have hb2 : b.toList = [] := by simpa using hb
      by_cases k1 : k = 1
      · subst k1
        by_cases hn : n = 0
        · subst hn
          have HE := Lib.hid (show (o == 0) = Qbt 1 c o 0 b by unfold Qbt; simp [hc, hb2])
          clear hb
          go_enter Try.func70, Try.ntmps70
          go_wp2
          go_ret
          exact ⟨Qb2 HE.out, _, rfl⟩
        · have HE := Lib.hid (show Qbt 1 c o n b = false by unfold Qbt; simp [hn])
          have hn' : (n != 0) = true := by simp [hn]
          clear hb
          go_enter Try.func70, Try.ntmps70
          go_wp2
          go_ret
          exact ⟨Qb2 HE.out.symm, _, rfl⟩
      · by_cases k2 : k = 2 ∨ k = 4
        · have HE : Hid ((o == 0) = Qbt k c o n b) := Lib.hid (by unfold Qbt; simp [hc, hb2, k1, k2])
          clear hb
          rcases k2 with rfl | rfl
          all_goals
            go_enter Try.func70, Try.ntmps70
            go_wp2
            go_ret
            exact ⟨Qb2 HE.out, _, rfl⟩
        · by_cases k3 : k = 3
          · subst k3
            have HE := Lib.hid (show Qbt 3 c o n b = true by unfold Qbt; simp [hc, hb2])
            clear hb
            go_enter Try.func70, Try.ntmps70
            go_wp2
            go_ret
            exact ⟨Qb2 HE.out.symm, _, rfl⟩
          · have HE := Lib.hid (show Qbt k c o n b = false by unfold Qbt; simp [k1, k2, k3])
            have q1 : (k == 1) = false := by simp [k1]
            have q2 : (k == 2) = false := by simp; omega
            have q3 : (k == 3) = false := by simp [k3]
            have q4 : (k == 4) = false := by simp; omega
            clear hb k1 k2 k3
            go_enter Try.func70, Try.ntmps70
            go_wp2
            go_ret
            exact ⟨Qb2 HE.out.symm, _, rfl⟩
def chk (size : Nat) (k c o n : Int) (b : ByteArray) : Int := if Qbt k c o n b then (if (size : Int) ≤ c then 8 else 0) else 1
theorem Qml (size : Nat) (k c o n : Int) (b : ByteArray) (w : World) : Calls Try.prog 55 #[.int .i64 size, acc k c o n b] w fun e w' =>
    e = .returned (.int .i64 (chk size k c o n b)) ∧ ∃ cs cs', w' = (w.alloc (.cells cs 66)).alloc (.cells cs' 66) := by
  cases hr : Qbt k c o n b
  · have HE := Lib.hid (show chk size k c o n b = 1 by unfold chk; simp [hr])
    have HR := Lib.hid hr
    clear hr
    have hq : ∀ w, Calls Try.prog 70 #[acc k c o n b] w fun e w' => e = .returned (.bool false) ∧ ∃ cs, w' = w.alloc (.cells cs 66) := fun w => by
      have := QgX k c o n b w; rwa [HR.out] at this
    have HQ := Lib.hid hq
    clear hq
    unfold acc at HQ ⊢
    go_enter Try.func55, Try.ntmps55
    go_wp2_with (first | (go_at_call 70; refine (HQ.out _).mono ?_; rintro e w' ⟨rfl, cs, rfl⟩))
    go_ret
    exact ⟨QcT HE.out.symm, _, _, rfl⟩
  · have HR := Lib.hid hr
    have hq : ∀ w, Calls Try.prog 70 #[acc k c o n b] w fun e w' => e = .returned (.bool true) ∧ ∃ cs, w' = w.alloc (.cells cs 66) := fun w => by
      have := QgX k c o n b w; rwa [HR.out] at this
    have HQ := Lib.hid hq
    by_cases hs : (size : Int) ≤ c
    · have HE := Lib.hid (show chk size k c o n b = 8 by unfold chk; simp [hr, hs])
      clear hr hq
      unfold acc at HQ ⊢
      go_enter Try.func55, Try.ntmps55
      go_wp2_with (first | (go_at_call 70; refine (HQ.out _).mono ?_; rintro e w' ⟨rfl, cs, rfl⟩))
      go_ret
      exact ⟨QcT HE.out.symm, _, _, rfl⟩
    · have HE := Lib.hid (show chk size k c o n b = 0 by unfold chk; simp [hr, hs])
      clear hr hq
      unfold acc at HQ ⊢
      go_enter Try.func55, Try.ntmps55
      go_wp2_with (first | (go_at_call 70; refine (HQ.out _).mono ?_; rintro e w' ⟨rfl, cs, rfl⟩))
      go_ret
      exact ⟨QcT HE.out.symm, _, _, rfl⟩
theorem Qg9 (n : Nat) : (madeCells #[Value.int .i64 0] n).toList = (List.replicate n (0 : Int)).map (Value.int .i64) := by
  rw [toList_madeCells_one]; simp
theorem Qlj {w : World} {B g n e : Nat} {xs : List Value} (h : w.ownsRow B e 1 (.slice (some ⟨g, 0, none⟩) n n) n xs) : w.heap[g]? = some (.cells xs.toArray e (0, 0)) := by
  obtain ⟨hl, ⟨h', _⟩ | ⟨g', cap', cur, h', _, hg, _, _, hs, ht⟩⟩ := h
  · simp at h'
  · simp only [Value.slice.injEq, Option.some.injEq, Addr.mk.injEq, and_true, true_and] at h'
    obtain ⟨rfl, rfl⟩ := h'
    rw [List.take_of_length_le (by simp; omega)] at ht
    rw [hg, ← ht]
theorem Qg3 {w : World} {B g e n : Nat} {xs : List Value} (h : w.heap[g]? = some (.cells xs.toArray e (0, 0))) (hn : xs.length = n) (hB : B ≤ g) (hm : n ≤ maxLen) : w.ownsRow B e 1 (.slice (some ⟨g, 0, none⟩) n n) n xs :=
  ⟨by omega, .inr ⟨g, n, xs.toArray, rfl, hB, h, Nat.le_refl _, hm, by simpa using hn, by rw [List.take_of_length_le (by simp; omega)]⟩⟩
theorem own_any (v : Value) (zs : List Int) (w : World) (hv : QbH w v zs) (hlen : zs.length ≤ 35184372088832) : Calls Try.prog 54 #[.agg #[v]] w fun e w' =>
    ∃ u, e = .returned u ∧ w'.ownsRow w.heap.size 3 1 u zs.length (zs.map (Value.int .i64)) ∧ Below w.heap.size w w' := by
  obtain ⟨i0, hi, hz0, hz1, hz2⟩ := info_parts Qgv
  obtain ⟨a, cap, rfl, hl, hc⟩ := hv
  obtain ⟨B, hB⟩ : ∃ B, B = w.heap.size := ⟨_, rfl⟩
  rw [← hB]
  have HB := Lib.hid hB
  have hcB : zs.length = 0 ∨ ∃ b o, a = some ⟨b, o, none⟩ ∧ b < B ∧ ∀ j, j < zs.length → w.cell? ⟨b, o + j, none⟩ = some (.int .i64 (zs.getD j 0)) := by
    rcases hc with hc | ⟨b, o, ha, hc⟩
    · exact Or.inl hc
    · by_cases h0 : zs.length = 0
      · exact Or.inl h0
      · exact Or.inr ⟨b, o, ha, by rw [hB]; exact World.block_lt_of_cell? w ⟨b, o + 0, none⟩ (hc 0 (by omega)), hc⟩
  have HC := Lib.hid hcB
  clear hB hc hcB
  obtain ⟨n, hn⟩ : ∃ n, n = zs.length := ⟨_, rfl⟩
  rw [← hn] at hlen
  rw [← hn]
  have HN := Lib.hid hn
  clear hn hl
  go_enter Try.func54, Try.ntmps54
  go_wp2_with (first | (at_make; refine wpList_make_full _ rfl _ _ 26 rfl B 3 i0 (.int .i64 0) 1 Try.underlying26 hi hz0 hz1 _ _ _ _ n rfl rfl rfl rfl ?_ ?_ ?_ ?_))
  · rw [hz2]; omega
  · unfold maxLen; omega
  · have := HB.out; simp; omega
  intro w1 hown hg
  have hb1 : Below B w w1 := (((Below.refl _ _).alloc (by have := HB.out; omega) _).grown hg (by have := HB.out; simp; omega) (by simp))
  have hbox : w1.cell? ⟨w.heap.size, 0, none⟩ = some (.slice a n cap) := by
    rw [World.cell?_of_block (hg.block w.heap.size (by simp) (by simp)), World.cell?_alloc_at _ _ _ _ rfl]; rfl
  have hh := Qlj hown
  have HH := Lib.hid (show w1.heap[w.heap.size + 1]? = some (.cells (List.replicate n (Value.int .i64 0)).toArray 3 (0, 0)) by
    rw [hh, Qg9]; simp)
  have HW := Lib.hid (show ∀ b, b < B → ∀ o, w1.cell? ⟨b, o, none⟩ = w.cell? ⟨b, o, none⟩ from fun b hb o => hb1.cell (p := ⟨b, o, none⟩) hb)
  have HG := Lib.hid hb1
  have h1 : Hid ((zs.map (Value.int .i64)).length = Nat.min n n) := Lib.hid (by rw [HN.out]; simp)
  have h2 : Hid (0 < (zs.map (Value.int .i64)).length → (some (⟨w.heap.size + 1, 0, none⟩ : Addr)) = some ⟨w.heap.size + 1, 0, none⟩ ∧ ∃ ad, a = some ad ∧ ∀ j v, (zs.map (Value.int .i64))[j]? = some v → w1.cell? (ad.add j) = some v) := Lib.hid (by
    intro h0
    rw [List.length_map] at h0
    refine ⟨rfl, ?_⟩
    rcases HC.out with hc | ⟨b, o, rfl, hbB, hc⟩
    · omega
    · refine ⟨_, rfl, fun j u hj => ?_⟩
      have hjl : j < zs.length := by have := (List.getElem?_eq_some_iff.1 hj).1; simpa using this
      rw [show (⟨b, o, none⟩ : Addr).add j = ⟨b, o + j, none⟩ by simp [Addr.add], HW.out b hbB, hc j hjl, ← hj]
      simp [List.getD, List.getElem?_eq_getElem hjl])
  have h3 : Hid (0 + (zs.map (Value.int .i64)).length ≤ (List.replicate n (Value.int .i64 0)).length) := Lib.hid (by rw [HN.out]; simp)
  have h4 : Hid (B ≤ w.heap.size + 1) := Lib.hid (by have := HB.out; omega)
  clear hh hown hg hb1
  go_wp2_with (first | ((with_reducible refine wpList_copy_splice (o := ⟨some 11, _, _, _, _, _⟩) rfl (.tmp 8) (.tmp 10) 26 26 rfl 3 Try.underlying26 size_int _ _ n n n cap rfl rfl (w.heap.size + 1) 0 (List.replicate n (Value.int .i64 0)) 3 HH.out (zs.map (Value.int .i64)) h1.out h2.out h3.out (ints_oneCell _ _) B w HG.out h4.out ?_); intro w2 hh2 hb2))
  go_ret
  refine ⟨_, rfl, ?_, hb2⟩
  have hs : splice (List.replicate n (Value.int .i64 0)) 0 (zs.map (Value.int .i64)) = zs.map (Value.int .i64) := by
    unfold splice; simp; have := HN.out; omega
  have := hh2.out
  rw [hs] at this
  exact Qg3 this (by rw [HN.out]; simp) h4.out (by unfold maxLen; omega)
def Qjy (k c o n : Int) (zs : List Int) : List Int :=
  if k = 2 ∨ (k = 3 ∧ zs.getD c.toNat 0 = o) then zs.set c.toNat n else if k = 4 then zs.set c.toNat (wrap64 (zs.getD c.toNat 0 + n)) else zs
def QgM (k c o : Int) (zs : List Int) : Bool := !(k == 3) || zs.getD c.toNat 0 == o
theorem Qiv (k c o n : Int) (zs : List Int) : (Qjy k c o n zs).length = zs.length := by unfold Qjy; split; simp; split <;> simp
def QhC (r : Int) (ok : Bool) : Value := .agg #[.int .i64 r, .bool ok]
theorem map_set (zs : List Int) (j : Nat) (x : Int) : (zs.map (Value.int .i64)).set j (.int .i64 x) = (zs.set j x).map (Value.int .i64) := by
  rw [List.map_set]
theorem Qdb {B g cap j : Nat} {zs : List Int} {w : World} (hown : w.ownsRow B 3 1 (.slice (some ⟨g, 0, none⟩) zs.length cap) zs.length (zs.map (Value.int .i64))) (hj : j < zs.length) :
    g < w.heap.size ∧ w.cell? ⟨g, j, none⟩ = some (.int .i64 (zs.getD j 0)) ∧ w.frozen? ⟨g, j, none⟩ = false ∧
    (∀ c1 c2 c3, (((w.alloc (.cells c1 66)).alloc (.cells c2 62)).alloc (.cells c3 62)).frozen? ⟨g, j, none⟩ = false) ∧
    (∀ c1 c2 c3, (((w.alloc (.cells c1 66)).alloc (.cells c2 62)).alloc (.cells c3 62)).cell? ⟨g, j, none⟩ = some (.int .i64 (zs.getD j 0))) := by
  have hgl : g < w.heap.size := (hown.lt g rfl).2
  have hcell : w.cell? ⟨g, j, none⟩ = some (.int .i64 (zs.getD j 0)) := by
    rw [hown.cellAt j (by omega)]; simp [List.getD, List.getElem?_eq_getElem hj]
  refine ⟨hgl, hcell, hown.frozenAt j, fun c1 c2 c3 => ?_, fun c1 c2 c3 => ?_⟩
  · rw [World.frozen?_alloc_past _ _ _ (by simp; omega), World.frozen?_alloc_past _ _ _ (by simp; omega), World.frozen?_alloc_past _ _ _ hgl]; exact hown.frozenAt j
  · rw [World.cell?_alloc_past _ _ _ (by simp; omega), World.cell?_alloc_past _ _ _ (by simp; omega), World.cell?_alloc_past _ _ _ hgl]; exact hcell
section
variable (B g cap : Nat) (zs : List Int) (c o n : Int) (b : ByteArray) (w : World) (hown : w.ownsRow B 3 1 (.slice (some ⟨g, 0, none⟩) zs.length cap) zs.length (zs.map (Value.int .i64))) (h0 : 0 ≤ c) (h1 : c < zs.length) (hB : B ≤ w.heap.size)
include B g cap zs c o n b w hown h0 h1 hB
theorem Qiu : Calls Try.prog 56 #[.slice (some ⟨g, 0, none⟩) zs.length cap, acc 2 c o n b] w fun e w' =>
    e = .returned (QhC (zs.getD c.toNat 0) true) ∧ w'.ownsRow B 3 1 (.slice (some ⟨g, 0, none⟩) zs.length cap) zs.length ((zs.set c.toNat n).map (Value.int .i64)) ∧ Below B w w' ∧ w.grownBy w' (some g) := by
  obtain ⟨j, rfl⟩ := Int.eq_ofNat_of_zero_le h0
  have hj : j < zs.length := by omega
  obtain ⟨hgl, hcell, hfz, hf3, hc3⟩ := Qdb hown hj
  have hBg := (hown.lt g rfl).1
  rw [Int.toNat_natCast]
  obtain ⟨x, hx'⟩ : ∃ x, x = zs.getD j 0 := ⟨_, rfl⟩
  rw [← hx'] at hcell hc3
  have HX := Lib.hid hx'
  obtain ⟨L, hL⟩ : ∃ L, L = zs.length := ⟨_, rfl⟩
  have hjL : (j : Int) < L := by omega
  have HO := Lib.hid hown
  rw [← hL]
  have HL := Lib.hid hL
  unfold acc
  clear hL hown h0 h1 hx'
  go_enter Try.func56, Try.ntmps56
  go_wp2
  refine bodyPost_ret (v := QhC x true) (by simp [results, Try.results56, go_sem, QhC]) rfl ⟨by rw [HX.out], ?_, ?_, ?_⟩
  · rw [HL.out, List.map_set]
    repeat (first | with_reducible exact HO.out | with_reducible refine QaV ?_ (by simp [Value.ownBlock]; omega) _ | with_reducible refine World.ownsRow.alloc ?_ _ | with_reducible refine (World.ownsRow.stored ?_ _ _).1)
  · repeat (first | with_reducible exact Below.refl _ _ | with_reducible refine Below.drew ?_ | with_reducible refine Below.setCell ?_ (by first | omega | (simp; omega)) _ | with_reducible refine Below.alloc ?_ (by first | omega | (simp; omega)) _)
  · repeat (first | with_reducible exact Qfo _ _ | with_reducible refine Qfp ?_ | with_reducible refine Qfn ?_ (by first | exact Or.inl rfl | (right; first | omega | (simp; omega) | simp)) _ | with_reducible refine Qd5 ?_ _)
theorem Qka : Calls Try.prog 56 #[.slice (some ⟨g, 0, none⟩) zs.length cap, acc 1 c o n b] w fun e w' =>
    e = .returned (QhC (zs.getD c.toNat 0) true) ∧ w'.ownsRow B 3 1 (.slice (some ⟨g, 0, none⟩) zs.length cap) zs.length ((zs).map (Value.int .i64)) ∧ Below B w w' ∧ w.grownBy w' (some g) := by
  obtain ⟨j, rfl⟩ := Int.eq_ofNat_of_zero_le h0
  have hj : j < zs.length := by omega
  obtain ⟨hgl, hcell, hfz, hf3, hc3⟩ := Qdb hown hj
  have hBg := (hown.lt g rfl).1
  rw [Int.toNat_natCast]
  obtain ⟨x, hx'⟩ : ∃ x, x = zs.getD j 0 := ⟨_, rfl⟩
  rw [← hx'] at hcell hc3
  have HX := Lib.hid hx'
  obtain ⟨L, hL⟩ : ∃ L, L = zs.length := ⟨_, rfl⟩
  have hjL : (j : Int) < L := by omega
  have HO := Lib.hid hown
  rw [← hL]
  have HL := Lib.hid hL
  unfold acc
  clear hL hown h0 h1 hx'
  go_enter Try.func56, Try.ntmps56
  go_wp2
  refine bodyPost_ret (v := QhC x true) (by simp [results, Try.results56, go_sem, QhC]) rfl ⟨by rw [HX.out], ?_, ?_, ?_⟩
  · rw [HL.out]
    repeat (first | with_reducible exact HO.out | with_reducible refine QaV ?_ (by simp [Value.ownBlock]; omega) _ | with_reducible refine World.ownsRow.alloc ?_ _)
  · repeat (first | with_reducible exact Below.refl _ _ | with_reducible refine Below.setCell ?_ (by first | omega | (simp; omega)) _ | with_reducible refine Below.alloc ?_ (by first | omega | (simp; omega)) _)
  · repeat (first | with_reducible exact Qfo _ _ | with_reducible refine Qfp ?_ | with_reducible refine Qfn ?_ (by first | exact Or.inl rfl | (right; first | omega | (simp; omega) | simp)) _ | with_reducible refine Qd5 ?_ _)
theorem Qmt (hx : zs.getD c.toNat 0 = o) : Calls Try.prog 56 #[.slice (some ⟨g, 0, none⟩) zs.length cap, acc 3 c o n b] w fun e w' =>
    e = .returned (QhC (zs.getD c.toNat 0) true) ∧ w'.ownsRow B 3 1 (.slice (some ⟨g, 0, none⟩) zs.length cap) zs.length ((zs.set c.toNat n).map (Value.int .i64)) ∧ Below B w w' ∧ w.grownBy w' (some g) := by
  obtain ⟨j, rfl⟩ := Int.eq_ofNat_of_zero_le h0
  have hj : j < zs.length := by omega
  obtain ⟨hgl, hcell, hfz, hf3, hc3⟩ := Qdb hown hj
  have hBg := (hown.lt g rfl).1
  rw [Int.toNat_natCast]
  rw [Int.toNat_natCast] at hx
  obtain ⟨x, hx'⟩ : ∃ x, x = zs.getD j 0 := ⟨_, rfl⟩
  rw [← hx'] at hcell hc3 hx
  subst hx
  have HX := Lib.hid hx'
  obtain ⟨L, hL⟩ : ∃ L, L = zs.length := ⟨_, rfl⟩
  have hjL : (j : Int) < L := by omega
  have HO := Lib.hid hown
  rw [← hL]
  have HL := Lib.hid hL
  unfold acc
  clear hL hown h0 h1 hx'
  go_enter Try.func56, Try.ntmps56
  go_wp2
  refine bodyPost_ret (v := QhC x true) (by simp [results, Try.results56, go_sem, QhC]) rfl ⟨by rw [HX.out], ?_, ?_, ?_⟩
  · rw [HL.out]
    rw [List.map_set]
    repeat (first | with_reducible exact HO.out | with_reducible refine QaV ?_ (by simp [Value.ownBlock]; omega) _ | with_reducible refine World.ownsRow.alloc ?_ _ | with_reducible refine (World.ownsRow.stored ?_ _ _).1)
  · repeat (first | with_reducible exact Below.refl _ _ | with_reducible refine Below.setCell ?_ (by first | omega | (simp; omega)) _ | with_reducible refine Below.alloc ?_ (by first | omega | (simp; omega)) _)
  · repeat (first | with_reducible exact Qfo _ _ | with_reducible refine Qfp ?_ | with_reducible refine Qfn ?_ (by first | exact Or.inl rfl | (right; first | omega | (simp; omega) | simp)) _ | with_reducible refine Qd5 ?_ _)
theorem apply_no (hx : zs.getD c.toNat 0 ≠ o) : Calls Try.prog 56 #[.slice (some ⟨g, 0, none⟩) zs.length cap, acc 3 c o n b] w fun e w' =>
    e = .returned (QhC (zs.getD c.toNat 0) false) ∧ w'.ownsRow B 3 1 (.slice (some ⟨g, 0, none⟩) zs.length cap) zs.length ((zs).map (Value.int .i64)) ∧ Below B w w' ∧ w.grownBy w' (some g) := by
  obtain ⟨j, rfl⟩ := Int.eq_ofNat_of_zero_le h0
  have hj : j < zs.length := by omega
  obtain ⟨hgl, hcell, hfz, hf3, hc3⟩ := Qdb hown hj
  have hBg := (hown.lt g rfl).1
  rw [Int.toNat_natCast]
  rw [Int.toNat_natCast] at hx
  obtain ⟨x, hx'⟩ : ∃ x, x = zs.getD j 0 := ⟨_, rfl⟩
  rw [← hx'] at hcell hc3 hx
  have he : (x == o) = false := by simp [hx]
  clear hx
  have HX := Lib.hid hx'
  obtain ⟨L, hL⟩ : ∃ L, L = zs.length := ⟨_, rfl⟩
  have hjL : (j : Int) < L := by omega
  have HO := Lib.hid hown
  rw [← hL]
  have HL := Lib.hid hL
  unfold acc
  clear hL hown h0 h1 hx'
  go_enter Try.func56, Try.ntmps56
  go_wp2
  refine bodyPost_ret (v := QhC x false) (by simp [results, Try.results56, go_sem, QhC]) rfl ⟨by rw [HX.out], ?_, ?_, ?_⟩
  · rw [HL.out]
    repeat (first | with_reducible exact HO.out | with_reducible refine QaV ?_ (by simp [Value.ownBlock]; omega) _ | with_reducible refine World.ownsRow.alloc ?_ _)
  · repeat (first | with_reducible exact Below.refl _ _ | with_reducible refine Below.setCell ?_ (by first | omega | (simp; omega)) _ | with_reducible refine Below.alloc ?_ (by first | omega | (simp; omega)) _)
  · repeat (first | with_reducible exact Qfo _ _ | with_reducible refine Qfp ?_ | with_reducible refine Qfn ?_ (by first | exact Or.inl rfl | (right; first | omega | (simp; omega) | simp)) _ | with_reducible refine Qd5 ?_ _)
theorem Qmv : Calls Try.prog 56 #[.slice (some ⟨g, 0, none⟩) zs.length cap, acc 4 c o n b] w fun e w' =>
    e = .returned (QhC (zs.getD c.toNat 0) true) ∧ w'.ownsRow B 3 1 (.slice (some ⟨g, 0, none⟩) zs.length cap) zs.length ((zs.set c.toNat (wrap64 (zs.getD c.toNat 0 + n))).map (Value.int .i64)) ∧ Below B w w' ∧ w.grownBy w' (some g) := by
  obtain ⟨j, rfl⟩ := Int.eq_ofNat_of_zero_le h0
  have hj : j < zs.length := by omega
  obtain ⟨hgl, hcell, hfz, hf3, hc3⟩ := Qdb hown hj
  have hBg := (hown.lt g rfl).1
  rw [Int.toNat_natCast]
  obtain ⟨x, hx'⟩ : ∃ x, x = zs.getD j 0 := ⟨_, rfl⟩
  rw [← hx'] at hcell hc3
  have HX := Lib.hid hx'
  obtain ⟨L, hL⟩ : ∃ L, L = zs.length := ⟨_, rfl⟩
  have hjL : (j : Int) < L := by omega
  have HO := Lib.hid hown
  rw [← hL]
  have HL := Lib.hid hL
  unfold acc
  clear hL hown h0 h1 hx'
  go_enter Try.func56, Try.ntmps56
  go_wp2
  go_region
  all_goals (
    go_wp2
    refine bodyPost_ret (v := QhC x true) (by simp [results, Try.results56, go_sem, QhC]) rfl ⟨by rw [HX.out], ?_, ?_, ?_⟩
    · rw [HL.out, ← HX.out, List.map_set]
      repeat (first | with_reducible exact HO.out | with_reducible refine QaV ?_ (by simp [Value.ownBlock]; omega) _ | with_reducible refine World.ownsRow.drew ?_ | with_reducible refine World.ownsRow.alloc ?_ _ | with_reducible refine (World.ownsRow.stored ?_ _ _).1)
    · repeat (first | with_reducible exact Below.refl _ _ | with_reducible refine Below.drew ?_ | with_reducible refine Below.setCell ?_ (by first | omega | (simp; omega)) _ | with_reducible refine Below.alloc ?_ (by first | omega | (simp; omega)) _)
    · repeat (first | with_reducible exact Qfo _ _ | with_reducible refine Qfp ?_ | with_reducible refine Qfn ?_ (by first | exact Or.inl rfl | (right; first | omega | (simp; omega) | simp)) _ | with_reducible refine Qd5 ?_ _))
end
theorem appZ_no {c o n : Int} {zs : List Int} (hx : ¬ zs.getD c.toNat 0 = o) : Qjy 3 c o n zs = zs := by
  unfold Qjy
  rw [if_neg, if_neg (by omega)]
  intro h
  rcases h with h | ⟨_, h⟩
  · omega
  · exact hx h
theorem Qmu (B g cap : Nat) (zs : List Int) (k c o n : Int) (b : ByteArray) (w : World) (hown : w.ownsRow B 3 1 (.slice (some ⟨g, 0, none⟩) zs.length cap) zs.length (zs.map (Value.int .i64)))
    (hk : k = 1 ∨ k = 2 ∨ k = 3 ∨ k = 4) (h0 : 0 ≤ c) (h1 : c < zs.length) (hB : B ≤ w.heap.size) : Calls Try.prog 56 #[.slice (some ⟨g, 0, none⟩) zs.length cap, acc k c o n b] w fun e w' =>
    e = .returned (QhC (zs.getD c.toNat 0) (QgM k c o zs)) ∧ w'.ownsRow B 3 1 (.slice (some ⟨g, 0, none⟩) zs.length cap) zs.length ((Qjy k c o n zs).map (Value.int .i64)) ∧ Below B w w' ∧ w.grownBy w' (some g) := by
  rcases hk with rfl | rfl | rfl | rfl
  · exact Qka B g cap zs c o n b w hown h0 h1 hB
  · exact Qiu B g cap zs c o n b w hown h0 h1 hB
  · by_cases hx : zs.getD c.toNat 0 = o
    · have := Qmt B g cap zs c o n b w hown h0 h1 hB hx
      rw [show QgM 3 c o zs = true by unfold QgM; rw [hx]; simp, show Qjy 3 c o n zs = zs.set c.toNat n by unfold Qjy; rw [if_pos (Or.inr ⟨rfl, hx⟩)]]
      exact this
    · have := apply_no B g cap zs c o n b w hown h0 h1 hB hx
      rw [show QgM 3 c o zs = false by unfold QgM; rw [beq_eq_false_iff_ne.2 hx]; rfl, appZ_no hx]
      exact this
  · exact Qmv B g cap zs c o n b w hown h0 h1 hB
theorem chk_zero {size : Nat} {k c o n : Int} {b : ByteArray} (h : chk size k c o n b = 0) : (k = 1 ∨ k = 2 ∨ k = 3 ∨ k = 4) ∧ 0 ≤ c ∧ c < size ∧ Qbt k c o n b = true := by
  unfold chk at h
  by_cases hr : Qbt k c o n b = true
  · rw [if_pos hr] at h
    by_cases hs : (size : Int) ≤ c
    · rw [if_pos hs] at h; omega
    · refine ⟨?_, ?_, by omega, hr⟩
      · unfold Qbt at hr
        by_cases k1 : k = 1
        · exact Or.inl k1
        · by_cases k2 : k = 2 ∨ k = 4
          · rcases k2 with k2 | k2
            · exact Or.inr (Or.inl k2)
            · exact Or.inr (Or.inr (Or.inr k2))
          · rw [if_neg k1, if_neg k2] at hr
            simp at hr
            exact Or.inr (Or.inr (Or.inl hr.2))
      · unfold Qbt at hr
        simp at hr
        exact hr.1.1
  · rw [if_neg hr] at h; omega
structure AccD where
  k : Int
  c : Int
  o : Int
  n : Int
  b : ByteArray
def Qbk : AccD := ⟨0, 0, 0, 0, ByteArray.empty⟩
def AccD.chk (a : AccD) (size : Nat) : Int := Go.Proofs.Ytfhmdlihnidjoaa.chk size a.k a.c a.o a.n a.b
def AccD.app (a : AccD) (zs : List Int) : List Int := Qjy a.k a.c a.o a.n zs
def AccD.res (a : AccD) (zs : List Int) : Int × Bool := (zs.getD a.c.toNat 0, QgM a.k a.c a.o zs)
theorem Qkb (a : AccD) (zs : List Int) : (a.app zs).length = zs.length := Qiv _ _ _ _ _
def stZ (zs : List Int) (l : List AccD) : List Int := l.foldl (fun z a => a.app z) zs
def stR (zs : List Int) : List AccD → List (Int × Bool)
  | [] => []
  | a :: l => a.res zs :: stR (a.app zs) l
def Qc7 (size : Nat) : List AccD → Int
  | [] => 0
  | a :: l => if a.chk size = 0 then Qc7 size l else a.chk size
theorem QjH (zs : List Int) (l : List AccD) : (stZ zs l).length = zs.length := by
  induction l generalizing zs with
  | nil => rfl
  | cons a l ih => show (stZ (a.app zs) l).length = _; rw [ih, Qkb]
theorem QiJ (zs : List Int) (l : List AccD) (a : AccD) : stZ zs (l ++ [a]) = a.app (stZ zs l) := by simp [stZ]
theorem stR_snoc (zs : List Int) (l : List AccD) (a : AccD) : stR zs (l ++ [a]) = stR zs l ++ [a.res (stZ zs l)] := by
  induction l generalizing zs with
  | nil => rfl
  | cons x l ih => show x.res zs :: stR (x.app zs) (l ++ [a]) = _; rw [ih]; rfl
theorem QfX (size : Nat) (l : List AccD) (a : AccD) : Qc7 size (l ++ [a]) = if Qc7 size l = 0 then a.chk size else Qc7 size l := by
  induction l with
  | nil =>
    show (if a.chk size = 0 then (0 : Int) else a.chk size) = if (0 : Int) = 0 then a.chk size else 0
    rw [if_pos (rfl : (0 : Int) = 0)]
    split
    · rename_i h; exact h.symm
    · rfl
  | cons x l ih =>
    show (if x.chk size = 0 then Qc7 size (l ++ [a]) else x.chk size) = if (if x.chk size = 0 then Qc7 size l else x.chk size) = 0 then a.chk size else (if x.chk size = 0 then Qc7 size l else x.chk size)
    by_cases hx : x.chk size = 0
    · rw [if_pos hx, if_pos hx, ih]
    · rw [if_neg hx, if_neg hx, if_neg hx]
theorem errOf_at {size : Nat} {l : List AccD} {k : Nat} (hk : k < l.length) (h0 : Qc7 size (l.take k) = 0) (h : (l.getD k Qbk).chk size ≠ 0) : Qc7 size l = (l.getD k Qbk).chk size := by
  induction l generalizing k with
  | nil => simp at hk
  | cons a l ih =>
    show (if a.chk size = 0 then Qc7 size l else a.chk size) = _
    cases k with
    | zero =>
      have e : (a :: l).getD 0 Qbk = a := rfl
      rw [e] at h ⊢
      rw [if_neg h]
    | succ k =>
      have e : (a :: l).getD (k + 1) Qbk = l.getD k Qbk := by simp [List.getD]
      rw [e] at h ⊢
      have h1 : (if a.chk size = 0 then Qc7 size (l.take k) else a.chk size) = 0 := h0
      by_cases ha : a.chk size = 0
      · rw [if_pos ha] at h1 ⊢
        exact ih (by simpa using hk) h1 h
      · rw [if_neg ha] at h1; exact absurd h1 ha
theorem Qgb {l : List AccD} {k : Nat} (hk : k < l.length) : l.take (k + 1) = l.take k ++ [l.getD k Qbk] := by
  rw [List.take_succ_eq_append_getElem hk]; simp [List.getD, List.getElem?_eq_getElem hk]
def QmF (w : World) (v : Value) (l : List AccD) : Prop :=
  ∃ a cap, v = .slice a l.length cap ∧ l.length ≤ 9223372036854775807 ∧ (l.length = 0 ∨ ∃ b o, a = some ⟨b, o, none⟩ ∧ ∀ j, j < l.length →
    w.cell? ⟨b, o + j * 5, none⟩ = some (.int .i64 (l.getD j Qbk).k) ∧ w.cell? ⟨b, o + j * 5 + 1, none⟩ = some (.int .i64 (l.getD j Qbk).c) ∧ w.cell? ⟨b, o + j * 5 + 2, none⟩ = some (.int .i64 (l.getD j Qbk).o) ∧
    w.cell? ⟨b, o + j * 5 + 3, none⟩ = some (.int .i64 (l.getD j Qbk).n) ∧ w.cell? ⟨b, o + j * 5 + 4, none⟩ = some (.string (l.getD j Qbk).b))
theorem QcQ {w w' : World} {b o : Nat} {x : Value} (hb : Below w.heap.size w w') (h : w.cell? ⟨b, o, none⟩ = some x) : w'.cell? ⟨b, o, none⟩ = some x :=
  (hb.cell (p := ⟨b, o, none⟩) (World.block_lt_of_cell? w ⟨b, o, none⟩ h)).trans h
theorem info_res : (Try.prog.info? 62).map (fun i => (i.zero, i.size, i.bytes)) = some (some (.agg #[.int .i64 0, .bool false]), 2, 16) := by kernel_rfl
def QcU : List (Int × Bool) → List Value
  | [] => []
  | r :: l => .int .i64 r.1 :: .bool r.2 :: QcU l
theorem Qe9 (l m : List (Int × Bool)) : QcU (l ++ m) = QcU l ++ QcU m := by
  induction l with
  | nil => rfl
  | cons r l ih => show _ :: _ :: QcU (l ++ m) = _; rw [ih]; rfl
def Qhr (e c s f o : Int) : Int := if e < 0 ∨ c ≤ e then -1 else f + e * s + o
theorem Qhs (e c f o : Int) (w : World) (b q : Nat) (cap : Nat) (hc : c ≤ 64) (hf : 0 ≤ f ∧ f ≤ 1000) (ho : 0 ≤ o ∧ o ≤ 3) (hcell : w.cell? ⟨b, q, none⟩ = some (.int .i64 o)) :
    Calls Try.prog 57 #[.int .i64 e, .int .i64 c, .int .i64 4, .int .i64 f, .slice (some ⟨b, q, none⟩) 1 cap] w fun e' w' => e' = .returned (.int .i64 (Qhr e c 4 f o)) ∧ w = w' := by
  obtain ⟨f1, f2⟩ := hf
  obtain ⟨o1, o2⟩ := ho
  by_cases h : e < 0 ∨ c ≤ e
  · have HE := Lib.hid (show Qhr e c 4 f o = -1 by unfold Qhr; rw [if_pos h])
    by_cases h1 : e < 0
    · clear h
      go_enter Try.func57, Try.ntmps57
      go_wp2
      go_ret
      exact ⟨QcT HE.out.symm, rfl⟩
    · have h1' : 0 ≤ e := by omega
      have h2 : c ≤ e := by omega
      clear h h1
      go_enter Try.func57, Try.ntmps57
      go_wp2
      go_ret
      exact ⟨QcT HE.out.symm, rfl⟩
  · have HE := Lib.hid (show Qhr e c 4 f o = f + e * 4 + o by unfold Qhr; rw [if_neg h])
    have h1 : 0 ≤ e := by omega
    have h2 : e < c := by omega
    have h3 : e ≤ 63 := by omega
    clear h
    go_enter Try.func57, Try.ntmps57
    go_wp2
    go_loop [11, 28] (fun a i => (i = .int .i64 0 ∧ a = .int .i64 (f + e * 4)) ∨ (i = .int .i64 1 ∧ a = .int .i64 (f + e * 4 + o))) (fun _ i => (1 - intOf i).toNat)
    case atStart => exact Or.inl ⟨rfl, rfl⟩
    case round =>
      rcases hrel with ⟨rfl, rfl⟩ | ⟨rfl, rfl⟩
      · go_wp2
        go_round
        case rel => exact Or.inr ⟨rfl, rfl⟩
        case measure => simp [intOf]
      · go_wp2
        go_ret
        exact ⟨QcT HE.out.symm, rfl⟩
structure Cf where
  t : Int
  l : Int
  k : Int
  s : Int
  m : Int
def Cf.v (c : Cf) : Value := .agg #[.int .i64 c.t, .int .i64 c.l, .int .i64 c.k, .int .i64 c.s, .int .i64 c.m]
structure Ly where
  c : Cf
  clock : Int
  stamps : Int
  log : Int
  fin : Int
  thread : Int
  lock : Int
  loc : Int
  size : Int
def Ly.v (l : Ly) : Value := .agg #[.int .i64 l.c.t, .int .i64 l.c.l, .int .i64 l.c.k, .int .i64 l.c.s, .int .i64 l.c.m, .int .i64 l.clock, .int .i64 l.stamps, .int .i64 l.log, .int .i64 l.fin, .int .i64 l.thread, .int .i64 l.lock, .int .i64 l.loc, .int .i64 l.size]
def Ly.ok (l : Ly) : Prop := l.c.t ≤ 64 ∧ l.c.l ≤ 64 ∧ l.c.k ≤ 64 ∧ 0 ≤ l.thread ∧ l.thread ≤ 1000 ∧ 0 ≤ l.loc ∧ l.loc ≤ 1000 ∧ 0 ≤ l.lock ∧ l.lock ≤ 1000
def Qhw (l : Ly) (n : Int) : Int := Qhr n l.c.l 4 l.loc 0
theorem word_any (l : Ly) (n : Int) (w : World) (hok : l.ok) :
    Calls Try.prog 35 #[l.v, .int .i64 n] w fun e' w' => e' = .returned (.int .i64 (Qhw l n)) ∧ Below w.heap.size w w' := by
  obtain ⟨h1, h2, h3, h4, h5, h6, h7, h8, h9⟩ := hok
  unfold Ly.v Qhw
  go_enter Try.func35, Try.ntmps35
  go_wp2_with fail
  refine (Qhs _ _ _ 0 _ _ _ _ (by assumption) ⟨by assumption, by assumption⟩ (by omega) (by rw [World.cell?_alloc_at _ _ _ _ (by simp)]; rfl)).mono ?_
  rintro e' w' ⟨rfl, rfl⟩
  go_wp2
  go_ret
  exact ⟨rfl, ((Below.refl _ _).alloc (Nat.le_refl _) _).alloc (by simp) _⟩
def Qes (l : Ly) (n : Int) : Int := Qhr n l.c.l 4 l.loc 1
theorem Qky (l : Ly) (n : Int) (w : World) (hok : l.ok) :
    Calls Try.prog 33 #[l.v, .int .i64 n] w fun e' w' => e' = .returned (.int .i64 (Qes l n)) ∧ Below w.heap.size w w' := by
  obtain ⟨h1, h2, h3, h4, h5, h6, h7, h8, h9⟩ := hok
  unfold Ly.v Qes
  go_enter Try.func33, Try.ntmps33
  go_wp2_with fail
  refine (Qhs _ _ _ 1 _ _ _ _ (by assumption) ⟨by assumption, by assumption⟩ (by omega) (by rw [World.cell?_alloc_at _ _ _ _ (by simp)]; rfl)).mono ?_
  rintro e' w' ⟨rfl, rfl⟩
  go_wp2
  go_ret
  exact ⟨rfl, ((Below.refl _ _).alloc (Nat.le_refl _) _).alloc (by simp) _⟩
theorem Qa4 (n a b : Int) (w : World) (h : a ≤ n ∧ n ≤ b) : Calls Try.prog 75 #[.int .i64 n, .int .i64 a, .int .i64 b] w fun e w' => e = .returned (.bool true) ∧ w = w' := by
  obtain ⟨h1, h2⟩ := h
  have h3 : decide (a ≤ n) = true := by simpa using h1
  go_enter Try.func75, Try.ntmps75
  go_wp2
  go_ret
  exact ⟨rfl, rfl⟩
theorem Qdm (n a b : Int) (w : World) (h : ¬(a ≤ n ∧ n ≤ b)) : Calls Try.prog 75 #[.int .i64 n, .int .i64 a, .int .i64 b] w fun e w' => e = .returned (.bool false) ∧ w = w' := by
  by_cases h1 : a ≤ n
  · have h2 : b < n := by omega
    have h3 : decide (a ≤ n) = true := by simpa using h1
    clear h
    go_enter Try.func75, Try.ntmps75
    go_wp2
    go_ret
    exact ⟨Qb2 (by simpa using h2), rfl⟩
  · have h2 : n < a := by omega
    have h3 : decide (a ≤ n) = false := by simpa using h1
    clear h h1
    go_enter Try.func75, Try.ntmps75
    go_wp2
    go_ret
    exact ⟨rfl, rfl⟩
def Cf.ok (c : Cf) : Prop := (1 ≤ c.t ∧ c.t ≤ 4) ∧ (0 ≤ c.l ∧ c.l ≤ 32) ∧ (0 ≤ c.k ∧ c.k ≤ 8) ∧ (0 ≤ c.s ∧ c.s ≤ 512) ∧ (0 ≤ c.m ∧ c.m ≤ 3)
instance (c : Cf) : Decidable c.ok := by unfold Cf.ok; infer_instance
theorem QhR (c : Cf) (w : World) (h : c.ok) : Calls Try.prog 65 #[c.v] w fun e w' => e = .returned (.bool true) ∧ w' = w.alloc (.cells #[.int .i64 c.t, .int .i64 c.l, .int .i64 c.k, .int .i64 c.s, .int .i64 c.m] 23) := by
  obtain ⟨h1, h2, h3, h4, h5⟩ := h
  have H1 := Lib.hid h1
  have H2 := Lib.hid h2
  have H3 := Lib.hid h3
  have H4 := Lib.hid h4
  have H5 := Lib.hid h5
  clear h1 h2 h3 h4 h5
  unfold Cf.v
  go_enter Try.func65, Try.ntmps65
  go_wp2_with fail
  refine (Qa4 _ _ _ _ (by exact H1.out)).mono ?_
  rintro e w' ⟨rfl, rfl⟩
  go_wp2_with fail
  refine (Qa4 _ _ _ _ (by exact H2.out)).mono ?_
  rintro e w' ⟨rfl, rfl⟩
  go_wp2_with fail
  refine (Qa4 _ _ _ _ (by exact H3.out)).mono ?_
  rintro e w' ⟨rfl, rfl⟩
  go_wp2_with fail
  refine (Qa4 _ _ _ _ (by exact H4.out)).mono ?_
  rintro e w' ⟨rfl, rfl⟩
  go_wp2_with fail
  refine (Qa4 _ _ _ _ (by exact H5.out)).mono ?_
  rintro e w' ⟨rfl, rfl⟩
  go_wp2
  go_ret
  exact ⟨rfl, rfl⟩
theorem QhS (c : Cf) (w : World) (h : ¬c.ok) : Calls Try.prog 65 #[c.v] w fun e w' => e = .returned (.bool false) ∧ w' = w.alloc (.cells #[.int .i64 c.t, .int .i64 c.l, .int .i64 c.k, .int .i64 c.s, .int .i64 c.m] 23) := by
  have H := Lib.hid h
  clear h
  by_cases h0 : 1 ≤ c.t ∧ c.t ≤ 4
  case neg =>
    have H0 := Lib.hid h0
    clear h0
    unfold Cf.v
    go_enter Try.func65, Try.ntmps65
    go_wp2_with fail
    refine (Qdm _ _ _ _ (by exact H0.out)).mono ?_
    rintro e w' ⟨rfl, rfl⟩
    go_wp2
    go_ret
    exact ⟨rfl, rfl⟩
  by_cases h1 : 0 ≤ c.l ∧ c.l ≤ 32
  case neg =>
    have H0 := Lib.hid h0
    have H1 := Lib.hid h1
    clear h0 h1
    unfold Cf.v
    go_enter Try.func65, Try.ntmps65
    go_wp2_with fail
    refine (Qa4 _ _ _ _ (by exact H0.out)).mono ?_
    rintro e w' ⟨rfl, rfl⟩
    go_wp2_with fail
    refine (Qdm _ _ _ _ (by exact H1.out)).mono ?_
    rintro e w' ⟨rfl, rfl⟩
    go_wp2
    go_ret
    exact ⟨rfl, rfl⟩
  by_cases h2 : 0 ≤ c.k ∧ c.k ≤ 8
  case neg =>
    have H0 := Lib.hid h0
    have H1 := Lib.hid h1
    have H2 := Lib.hid h2
    clear h0 h1 h2
    unfold Cf.v
    go_enter Try.func65, Try.ntmps65
    go_wp2_with fail
    refine (Qa4 _ _ _ _ (by exact H0.out)).mono ?_
    rintro e w' ⟨rfl, rfl⟩
    go_wp2_with fail
    refine (Qa4 _ _ _ _ (by exact H1.out)).mono ?_
    rintro e w' ⟨rfl, rfl⟩
    go_wp2_with fail
    refine (Qdm _ _ _ _ (by exact H2.out)).mono ?_
    rintro e w' ⟨rfl, rfl⟩
    go_wp2
    go_ret
    exact ⟨rfl, rfl⟩
  by_cases h3 : 0 ≤ c.s ∧ c.s ≤ 512
  case neg =>
    have H0 := Lib.hid h0
    have H1 := Lib.hid h1
    have H2 := Lib.hid h2
    have H3 := Lib.hid h3
    clear h0 h1 h2 h3
    unfold Cf.v
    go_enter Try.func65, Try.ntmps65
    go_wp2_with fail
    refine (Qa4 _ _ _ _ (by exact H0.out)).mono ?_
    rintro e w' ⟨rfl, rfl⟩
    go_wp2_with fail
    refine (Qa4 _ _ _ _ (by exact H1.out)).mono ?_
    rintro e w' ⟨rfl, rfl⟩
    go_wp2_with fail
    refine (Qa4 _ _ _ _ (by exact H2.out)).mono ?_
    rintro e w' ⟨rfl, rfl⟩
    go_wp2_with fail
    refine (Qdm _ _ _ _ (by exact H3.out)).mono ?_
    rintro e w' ⟨rfl, rfl⟩
    go_wp2
    go_ret
    exact ⟨rfl, rfl⟩
  by_cases h4 : 0 ≤ c.m ∧ c.m ≤ 3
  case neg =>
    have H0 := Lib.hid h0
    have H1 := Lib.hid h1
    have H2 := Lib.hid h2
    have H3 := Lib.hid h3
    have H4 := Lib.hid h4
    clear h0 h1 h2 h3 h4
    unfold Cf.v
    go_enter Try.func65, Try.ntmps65
    go_wp2_with fail
    refine (Qa4 _ _ _ _ (by exact H0.out)).mono ?_
    rintro e w' ⟨rfl, rfl⟩
    go_wp2_with fail
    refine (Qa4 _ _ _ _ (by exact H1.out)).mono ?_
    rintro e w' ⟨rfl, rfl⟩
    go_wp2_with fail
    refine (Qa4 _ _ _ _ (by exact H2.out)).mono ?_
    rintro e w' ⟨rfl, rfl⟩
    go_wp2_with fail
    refine (Qa4 _ _ _ _ (by exact H3.out)).mono ?_
    rintro e w' ⟨rfl, rfl⟩
    go_wp2_with fail
    refine (Qdm _ _ _ _ (by exact H4.out)).mono ?_
    rintro e w' ⟨rfl, rfl⟩
    go_wp2
    go_ret
    exact ⟨rfl, rfl⟩
  exact absurd ⟨h0, h1, h2, h3, h4⟩ H.out
theorem may_t (c : Cf) (w : World) (h : c.ok) : Calls Try.prog 39 #[c.v] w fun e w' => e = .returned (.bool true) ∧ w' = w.alloc (.cells #[.int .i64 c.t, .int .i64 c.l, .int .i64 c.k, .int .i64 c.s, .int .i64 c.m] 23) := by
  obtain ⟨⟨h1, h2⟩, ⟨h3, h4⟩, ⟨h5, h6⟩, ⟨h7, h8⟩, ⟨h9, h10⟩⟩ := h
  have d0 : decide (c.t < 1) = false := by simp; omega
  have d1 : decide (4 < c.t) = false := by simp; omega
  have d2 : decide (c.l < 0) = false := by simp; omega
  have d3 : decide (32 < c.l) = false := by simp; omega
  have d4 : decide (c.k < 0) = false := by simp; omega
  have d5 : decide (8 < c.k) = false := by simp; omega
  have d6 : decide (0 ≤ c.s) = true := by simp; omega
  have d7 : decide (c.s ≤ 512) = true := by simp; omega
  have d8 : decide (0 ≤ c.m) = true := by simp; omega
  have d9 : decide (c.m ≤ 3) = true := by simp; omega
  unfold Cf.v
  go_enter Try.func39, Try.ntmps39
  go_wp2
  go_ret
  exact ⟨rfl, rfl⟩
theorem QcV (a n : Int) (B : Nat) (w : World) (ha : 0 ≤ a ∧ a ≤ 10000) (hn : 0 ≤ n ∧ n ≤ 10000) (hc : w.cell? ⟨B, 0, none⟩ = some (.int .i64 a)) (hf : w.frozen? ⟨B, 0, none⟩ = false) :
    Calls Try.prog 66 #[.int .i64 n, .pointer (some ⟨B, 0, none⟩)] w fun e w' => e = .returned (.int .i64 a) ∧ w' = w.setCell ⟨B, 0, none⟩ (.int .i64 (a + n)) := by
  obtain ⟨h1, h2⟩ := ha
  obtain ⟨h3, h4⟩ := hn
  go_enter Try.func66, Try.ntmps66
  go_wp2
  go_ret
  exact ⟨rfl, rfl⟩
def Qbc (c : Cf) : Ly := ⟨c, 0, 1, 2, 3, 4, 4 + 4 * c.t, 4 + 4 * c.t + c.k, 4 + 4 * c.t + c.k + 4 * c.l⟩
def lay0 : Ly := ⟨⟨0, 0, 0, 0, 0⟩, 0, 0, 0, 0, 0, 0, 0, 0⟩
theorem of_t (c : Cf) (w : World) (h : c.ok) : Calls Try.prog 52 #[c.v] w fun e w' => e = .returned (.tuple #[(Qbc c).v, .int .i64 0]) ∧ Below w.heap.size w w' := by
  have HR := Lib.hid (fun w => QhR c w h)
  obtain ⟨⟨h1, h2⟩, ⟨h3, h4⟩, ⟨h5, h6⟩, ⟨h7, h8⟩, ⟨h9, h10⟩⟩ := h
  unfold Cf.v at HR ⊢
  go_enter Try.func52, Try.ntmps52
  go_wp2_with fail
  refine (HR.out _).mono ?_
  rintro e w1 ⟨rfl, rfl⟩
  go_wp2_with fail
  refine (QcV 0 1 _ _ (by omega) (by omega) (by go_simp) (by go_simp)).mono ?_
  rintro e w2 ⟨rfl, rfl⟩
  go_wp2_with fail
  refine (QcV 1 1 _ _ (by omega) (by omega) (by go_simp) (by go_simp)).mono ?_
  rintro e w2 ⟨rfl, rfl⟩
  go_wp2_with fail
  refine (QcV 2 1 _ _ (by omega) (by omega) (by go_simp) (by go_simp)).mono ?_
  rintro e w2 ⟨rfl, rfl⟩
  go_wp2_with fail
  refine (QcV 3 1 _ _ (by omega) (by omega) (by go_simp) (by go_simp)).mono ?_
  rintro e w2 ⟨rfl, rfl⟩
  go_wp2_with fail
  refine (QcV 4 (4 * c.t) _ _ (by omega) (by omega) (by go_simp) (by go_simp)).mono ?_
  rintro e w2 ⟨rfl, rfl⟩
  go_wp2_with fail
  refine (QcV (4 + 4 * c.t) c.k _ _ (by omega) (by omega) (by go_simp) (by go_simp)).mono ?_
  rintro e w2 ⟨rfl, rfl⟩
  go_wp2_with fail
  refine (QcV (4 + 4 * c.t + c.k) (4 * c.l) _ _ (by omega) (by omega) (by go_simp) (by go_simp)).mono ?_
  rintro e w2 ⟨rfl, rfl⟩
  go_wp2_with fail
  refine bodyPost_ret (v := .tuple #[(Qbc c).v, .int .i64 0]) (by simp [results, Try.results52, go_sem, Qbc, Ly.v]) rfl ⟨rfl, ?_⟩
  repeat (first | with_reducible exact Below.refl _ _ | with_reducible refine Below.setCell ?_ (by first | omega | (simp; omega) | simp) _ | with_reducible refine Below.alloc ?_ (by first | omega | (simp; omega) | simp) _)
theorem of_f (c : Cf) (w : World) (h : ¬c.ok) : Calls Try.prog 52 #[c.v] w fun e w' => e = .returned (.tuple #[lay0.v, .int .i64 1]) ∧ Below w.heap.size w w' := by
  have HR := Lib.hid (fun w => QhS c w h)
  clear h
  unfold Cf.v at HR ⊢
  go_enter Try.func52, Try.ntmps52
  go_wp2_with fail
  refine (HR.out _).mono ?_
  rintro e w1 ⟨rfl, rfl⟩
  go_wp2_with fail
  refine bodyPost_ret (v := .tuple #[lay0.v, .int .i64 1]) (by simp [results, Try.results52, go_sem, lay0, Ly.v]) rfl ⟨rfl, ?_⟩
  repeat (first | with_reducible exact Below.refl _ _ | with_reducible refine Below.setCell ?_ (by first | omega | (simp; omega) | simp) _ | with_reducible refine Below.alloc ?_ (by first | omega | (simp; omega) | simp) _)
theorem rof_t (c : Cf) (w : World) (h : c.ok) : Calls Try.prog 16 #[c.v] w fun e w' => e = .returned (.tuple #[(Qbc c).v, .int .i64 0]) ∧ Below w.heap.size w w' := by
  have HR := Lib.hid (fun w => may_t c w h)
  obtain ⟨⟨h1, h2⟩, ⟨h3, h4⟩, ⟨h5, h6⟩, ⟨h7, h8⟩, ⟨h9, h10⟩⟩ := h
  unfold Cf.v at HR ⊢
  go_enter Try.func16, Try.ntmps16
  go_wp2_with fail
  refine (HR.out _).mono ?_
  rintro e w1 ⟨rfl, rfl⟩
  go_wp2_with fail
  refine bodyPost_ret (v := .tuple #[(Qbc c).v, .int .i64 0]) (by simp [results, Try.results16, go_sem, Qbc, Ly.v]) rfl ⟨rfl, ?_⟩
  repeat (first | with_reducible exact Below.refl _ _ | with_reducible refine Below.setCell ?_ (by first | omega | (simp; omega) | simp) _ | with_reducible refine Below.alloc ?_ (by first | omega | (simp; omega) | simp) _)
theorem Qgw : (Try.prog.info? 66).map (fun i => (i.zero, i.size, i.bytes)) = some (some (.agg #[.int .i64 0, .int .i64 0, .int .i64 0, .int .i64 0, .string ByteArray.empty]), 5, 48) := by kernel_rfl
def QaA : List AccD → List Value
  | [] => []
  | a :: l => .int .i64 a.k :: .int .i64 a.c :: .int .i64 a.o :: .int .i64 a.n :: .string a.b :: QaA l
theorem Qcu (l m : List AccD) : QaA (l ++ m) = QaA l ++ QaA m := by
  induction l with
  | nil => rfl
  | cons r l ih => show _ :: _ :: _ :: _ :: _ :: QaA (l ++ m) = _; rw [ih]; rfl
theorem Qfx (l : List AccD) (j : Nat) (hj : j < l.length) : (QaA l)[j * 5]? = some (.int .i64 (l.getD j Qbk).k) ∧ (QaA l)[j * 5 + 1]? = some (.int .i64 (l.getD j Qbk).c) ∧ (QaA l)[j * 5 + 2]? = some (.int .i64 (l.getD j Qbk).o) ∧ (QaA l)[j * 5 + 3]? = some (.int .i64 (l.getD j Qbk).n) ∧ (QaA l)[j * 5 + 4]? = some (.string (l.getD j Qbk).b) := by
  induction l generalizing j with
  | nil => simp at hj
  | cons r l ih =>
    cases j with
    | zero => exact ⟨rfl, rfl, rfl, rfl, rfl⟩
    | succ j =>
      have h := ih j (by simpa using hj)
      have e : (r :: l).getD (j + 1) Qbk = l.getD j Qbk := by simp [List.getD]
      rw [e]
      have e2 : (j + 1) * 5 = j * 5 + 1 + 1 + 1 + 1 + 1 := by omega
      rw [e2]
      exact h
theorem Qfl {w : World} {B : Nat} {v : Value} {rs : List AccD} (h : w.ownsRow B 66 5 v rs.length (QaA rs)) : QmF w v rs := by
  have h0 := h
  obtain ⟨_, h | ⟨g, cap, cur, rfl, _, _, hn, hc, _, _⟩⟩ := h
  · obtain ⟨rfl, hz⟩ := h
    exact ⟨none, 0, by rw [hz], by omega, Or.inl hz⟩
  · refine ⟨some ⟨g, 0, none⟩, cap, rfl, by unfold maxLen at hc; omega, Or.inr ⟨g, 0, rfl, fun j hj => ?_⟩⟩
    obtain ⟨h1, h2, h3, h4, h5⟩ := Qfx rs j hj
    rw [Nat.zero_add, h0.cellAt (j * 5) (by omega), h0.cellAt (j * 5 + 1) (by omega), h0.cellAt (j * 5 + 2) (by omega), h0.cellAt (j * 5 + 3) (by omega), h0.cellAt (j * 5 + 4) (by omega)]
    exact ⟨h1, h2, h3, h4, h5⟩
def Qev (c n : Int) : AccD := ⟨2, c, 0, n, ByteArray.empty⟩
def QbY (l : Ly) (zs : List Int) : Nat → List AccD
  | 0 => [Qev l.stamps 1]
  | k + 1 => QbY l zs k ++ if (k : Int) < l.c.l then [Qev (Qes l k) (zs.getD k 0)] else []
theorem Qey (l : Ly) (zs : List Int) (k : Nat) : (QbY l zs k).length ≤ k + 1 := by
  induction k with
  | zero => exact Nat.le_refl _
  | succ k ih => unfold QbY; rw [List.length_append]; split <;> simp <;> omega
theorem acc_cell {w : World} {k c o n : Int} {s : ByteArray} {T : TypeId} (j : Nat) (u : Value) (hj : [Value.int .i64 k, Value.int .i64 c, Value.int .i64 o, Value.int .i64 n, Value.string s][j]? = some u) : (w.alloc (.cells #[.int .i64 k, .int .i64 c, .int .i64 o, .int .i64 n, .string s] T)).cell? ((⟨w.heap.size, 0, none⟩ : Addr).add j) = some u := by
  match j, hj with
  | 0, hj => simp at hj; subst hj; simp [Addr.add, World.cell?_alloc_at]
  | 1, hj => simp at hj; subst hj; simp [Addr.add, World.cell?_alloc_at]
  | 2, hj => simp at hj; subst hj; simp [Addr.add, World.cell?_alloc_at]
  | 3, hj => simp at hj; subst hj; simp [Addr.add, World.cell?_alloc_at]
  | 4, hj => simp at hj; subst hj; simp [Addr.add, World.cell?_alloc_at]
theorem rnew_any (n : Nat) (w : World) (hn : n ≤ 1000000) : Calls Try.prog 19 #[.int .i64 (n : Nat)] w fun e w' =>
    ∃ g, e = .returned (.agg #[.slice (some ⟨g, 0, none⟩) n n]) ∧ QbH w' (.slice (some ⟨g, 0, none⟩) n n) (List.replicate n 0) ∧ w.heap.size ≤ g ∧ Below w.heap.size w w' := by
  obtain ⟨i0, hi, hz0, hz1, hz2⟩ := info_parts Qgv
  obtain ⟨B, hB⟩ : ∃ B, B = w.heap.size := ⟨_, rfl⟩
  rw [← hB]
  have HB := Lib.hid hB
  clear hB
  go_enter Try.func19, Try.ntmps19
  go_wp2_with (first | (at_make; refine wpList_make_full _ rfl _ _ 26 rfl B 3 i0 (.int .i64 0) 1 Try.underlying26 hi hz0 hz1 _ _ _ _ n rfl rfl rfl rfl ?_ ?_ ?_ ?_))
  · rw [hz2]; omega
  · unfold maxLen; omega
  · have := HB.out; simp; omega
  intro w1 hown hg
  have hb1 : Below B w w1 := (((Below.refl _ _).alloc (by have := HB.out; omega) _).grown hg (by have := HB.out; simp; omega) (by simp))
  have hbox : w1.cell? ⟨w.heap.size, 0, none⟩ = some (.slice none 0 0) := by
    rw [World.cell?_of_block (hg.block w.heap.size (by simp) (by simp)), World.cell?_alloc_at _ _ _ _ rfl]; rfl
  have hfz : w1.frozen? ⟨w.heap.size, 0, none⟩ = false := by
    rw [World.frozen?_of_block (hg.block w.heap.size (by simp) (by simp))]; exact World.frozen?_alloc_at _ _ _ _ rfl
  have hH := QbS (w := w1) (B := B) (v := .slice (some ⟨w.heap.size + 1, 0, none⟩) n n) (zs := List.replicate n 0) (by
    rw [List.length_replicate]
    have h := hown
    rw [Qg9] at h
    simpa using h)
  have HH := Lib.hid hH
  have HG := Lib.hid hb1
  clear hown hg hb1 hH
  go_wp2
  refine bodyPost_ret (v := .agg #[.slice (some ⟨w.heap.size + 1, 0, none⟩) n n]) (by simp [results, Try.results19, go_sem, hbox]) rfl ?_
  exact ⟨_, rfl, Qhe HH.out hbox, by have := HB.out; omega, HG.out.setCell (by have := HB.out; show B ≤ w.heap.size; omega) _⟩
theorem Qmk (size : Nat) (c n : Int) (h : 0 ≤ c ∧ c < size) : (Qev c n).chk size = 0 := by
  show chk size 2 c 0 n ByteArray.empty = 0
  unfold chk
  have hr : Qbt 2 c 0 n ByteArray.empty = true := by unfold Qbt; simp; omega
  rw [hr, if_pos rfl, if_neg (by omega)]
theorem Qid (l : Ly) (zs : List Int) (size k : Nat) (h0 : 0 ≤ l.stamps ∧ l.stamps < size) (hv : ∀ i : Nat, (i : Int) < l.c.l → 0 ≤ Qes l i ∧ Qes l i < size) : Qc7 size (QbY l zs k) = 0 := by
  induction k with
  | zero => show (if (Qev l.stamps 1).chk size = 0 then (0 : Int) else _) = 0; rw [if_pos (Qmk _ _ _ h0)]
  | succ k ih =>
    unfold QbY
    split
    · rename_i h
      rw [QfX, if_pos ih]; exact Qmk _ _ _ (hv k h)
    · simpa using ih
theorem QkI (l : Ly) (zs z0 : List Int) (k : Nat) (h : (k : Int) < l.c.l) : stZ z0 (QbY l zs (k + 1)) = (stZ z0 (QbY l zs k)).set (Qes l k).toNat (zs.getD k 0) := by
  show stZ z0 (QbY l zs k ++ if (k : Int) < l.c.l then [Qev (Qes l k) (zs.getD k 0)] else []) = _
  rw [if_pos h, QiJ]
  show Qjy 2 (Qes l k) 0 (zs.getD k 0) _ = _
  unfold Qjy
  rw [if_pos (Or.inl rfl)]
theorem QkJ (l : Ly) (zs z0 : List Int) : stZ z0 (QbY l zs 0) = z0.set l.stamps.toNat 1 := by
  show Qjy 2 l.stamps 0 1 z0 = _
  unfold Qjy
  rw [if_pos (Or.inl rfl)]
theorem Qi_ (l : Ly) (zs : List Int) (k d : Nat) (h : l.c.l ≤ (k : Int)) : QbY l zs (k + d) = QbY l zs k := by
  induction d with
  | zero => rfl
  | succ d ih => show QbY l zs (k + d) ++ (if ((k + d : Nat) : Int) < l.c.l then _ else []) = _; rw [ih, if_neg (by omega)]; simp
theorem Qip : Try.prog.underlying 23 = some (.struct (Try.prog.fieldsOf 23)) := by kernel_rfl
theorem Qmi : Try.prog.stoodInHeld 23 = false := by kernel_rfl
theorem QjY : Try.prog.underlying 25 = some (.struct (Try.prog.fieldsOf 25)) := by kernel_rfl
theorem lay_held : Try.prog.stoodInHeld 25 = false := by kernel_rfl
def cfEq (a b : Cf) : Bool := a.t == b.t && (a.l == b.l && (a.k == b.k && (a.s == b.s && a.m == b.m)))
theorem cfEq_iff (a b : Cf) : cfEq a b = true ↔ a = b := by
  obtain ⟨a1, a2, a3, a4, a5⟩ := a
  obtain ⟨b1, b2, b3, b4, b5⟩ := b
  simp [cfEq]
def lyEq (a b : Ly) : Bool := cfEq a.c b.c && (a.clock == b.clock && (a.stamps == b.stamps && (a.log == b.log && (a.fin == b.fin && (a.thread == b.thread && (a.lock == b.lock && (a.loc == b.loc && a.size == b.size)))))))
theorem lyEq_iff (a b : Ly) : lyEq a b = true ↔ a = b := by
  obtain ⟨a0, a1, a2, a3, a4, a5, a6, a7, a8⟩ := a
  obtain ⟨b0, b1, b2, b3, b4, b5, b6, b7, b8⟩ := b
  simp [lyEq, cfEq_iff]
theorem QlB (a b : Ly) : lyEq a b = true ↔ (decide (a.c.t = b.c.t ∧ a.c.l = b.c.l ∧ a.c.k = b.c.k ∧ a.c.s = b.c.s ∧ a.c.m = b.c.m ∧ a.clock = b.clock ∧ a.stamps = b.stamps ∧ a.log = b.log ∧ a.fin = b.fin ∧ a.thread = b.thread ∧ a.lock = b.lock ∧ a.loc = b.loc ∧ a.size = b.size)) = true := by
  simp [lyEq, cfEq, and_assoc]
theorem lay_eql (a b : Ly) (w : World) : (binOp .eql 25 a.v b.v).run Try.prog w = .ok (.bool (lyEq a b)) w := by
  unfold Ly.v
  rw [run_eql_struct, show (10000 : Nat) = 9999 + 1 from rfl, run_equalIn_agg w 9999 25 _ _ QjY lay_held]
  have u3 := Try.underlying3
  have a3 := Try.isAgg3
  have z3 := Try.sizeOf3
  have a4 := Try.isAgg23
  have z4 := Try.sizeOf23
  have q4 := fun w x y => run_equalIn_agg w 9998 23 x y Qip Qmi
  simp only [Program.fieldsOf, Try.underlying25, Try.underlying23] at q4 ⊢
  go_simp
  rw [Bool.eq_iff_iff.2 (QlB a b)]
  by_cases h0 : a.c.t = b.c.t
  case neg => simp [h0]
  by_cases h1 : a.c.l = b.c.l
  case neg => simp [h0, h1]
  by_cases h2 : a.c.k = b.c.k
  case neg => simp [h0, h1, h2]
  by_cases h3 : a.c.s = b.c.s
  case neg => simp [h0, h1, h2, h3]
  by_cases h4 : a.c.m = b.c.m
  case neg => simp [h0, h1, h2, h3, h4]
  by_cases h5 : a.clock = b.clock
  case neg => simp [h0, h1, h2, h3, h4, h5]
  by_cases h6 : a.stamps = b.stamps
  case neg => simp [h0, h1, h2, h3, h4, h5, h6]
  by_cases h7 : a.log = b.log
  case neg => simp [h0, h1, h2, h3, h4, h5, h6, h7]
  by_cases h8 : a.fin = b.fin
  case neg => simp [h0, h1, h2, h3, h4, h5, h6, h7, h8]
  by_cases h9 : a.thread = b.thread
  case neg => simp [h0, h1, h2, h3, h4, h5, h6, h7, h8, h9]
  by_cases h10 : a.lock = b.lock
  case neg => simp [h0, h1, h2, h3, h4, h5, h6, h7, h8, h9, h10]
  by_cases h11 : a.loc = b.loc
  case neg => simp [h0, h1, h2, h3, h4, h5, h6, h7, h8, h9, h10, h11]
  by_cases h12 : a.size = b.size
  case neg => simp [h0, h1, h2, h3, h4, h5, h6, h7, h8, h9, h10, h11, h12]
  simp [h0, h1, h2, h3, h4, h5, h6, h7, h8, h9, h10, h11, h12]
theorem free_any (a : Int) (w : World) : Calls Try.prog 34 #[.int .i64 a] w fun e w' => e = .returned (.int .i64 (wrap64 (2 * a))) ∧ w = w' := by
  go_enter Try.func34, Try.ntmps34
  go_wp2
  go_ret
  exact ⟨rfl, rfl⟩
theorem res_cell {w : World} {r : Int} {q : Bool} {T : TypeId} (j : Nat) (u : Value) (hj : [Value.int .i64 r, Value.bool q][j]? = some u) : (w.alloc (.cells #[.int .i64 r, .bool q] T)).cell? ((⟨w.heap.size, 0, none⟩ : Addr).add j) = some u := by
  match j, hj with
  | 0, hj => simp at hj; subst hj; simp [Addr.add, World.cell?_alloc_at]
  | 1, hj => simp at hj; subst hj; simp [Addr.add, World.cell?_alloc_at]
theorem all_own (v x : Value) (zs : List Int) (l : List AccD) (w : World) (hv : QbH w v zs) (hx : QmF w x l) (hlen : zs.length ≤ 17592186044416) (hll : l.length ≤ 1099511627776) (hez : Qc7 zs.length l = 0) :
    Calls Try.prog 30 #[.agg #[v], x] w fun e w' =>
    ∃ u r, e = .returned (.tuple #[.agg #[u], r, .int .i64 0]) ∧ w'.ownsRow w.heap.size 3 1 u zs.length ((stZ zs l).map (Value.int .i64)) ∧ Below w.heap.size w w' := by
  obtain ⟨i0, hi, hz0, hz1, hz2⟩ := info_parts info_res
  have HV := Lib.hid hv
  obtain ⟨a, cap, rfl, _, _⟩ := hv
  obtain ⟨ax, capx, rfl, _, hxc⟩ := hx
  have HXC := Lib.hid hxc
  clear hxc
  obtain ⟨L, hL⟩ : ∃ L, L = zs.length := ⟨_, rfl⟩
  obtain ⟨M, hM⟩ : ∃ M, M = l.length := ⟨_, rfl⟩
  rw [← hL] at hlen HV hez
  rw [← hM] at hll HXC ⊢
  have HEZ := Lib.hid hez
  clear hez
  have HL := Lib.hid hL
  have HM := Lib.hid hM
  clear hL hM
  go_enter Try.func30, Try.ntmps30
  go_wp2_with (first
    | (go_at_call 54; refine (own_any _ zs _ (Qhf (by rw [← HL.out]; exact HV.out) (by repeat (first | with_reducible exact Below.refl _ _ | with_reducible refine Below.alloc ?_ (by first | omega | (simp; omega) | simp) _))) (by rw [← HL.out]; omega)).mono ?_; rintro e w2 ⟨u, rfl, hown, hb2⟩))
  rw [← HL.out] at hown hb2 ⊢
  obtain ⟨au, cu, rfl⟩ := QcI hown
  obtain ⟨hc2, hf2⟩ := bcell hb2
  have HW2 : Hid (Below w.heap.size w w2) := Lib.hid (by
    refine (?_ : Below w.heap.size w _).trans (hb2.mono (by simp; omega))
    repeat (first | with_reducible exact Below.refl _ _ | with_reducible refine Below.alloc ?_ (by first | omega | (simp; omega) | simp) _))
  have c0 : Hid (w2.cell? ⟨w.heap.size, 0, none⟩ = some (.slice a L cap)) := Lib.hid (by
    rw [hc2 _ _ (by simp; omega)]; simp [World.cell?_alloc_past, World.cell?_alloc_at])
  have c1 : Hid (w2.cell? ⟨w.heap.size + 1, 0, none⟩ = some (.slice none 0 0)) := Lib.hid (by
    rw [hc2 _ _ (by simp)]; simp [World.cell?_alloc_at])
  have f1 : Hid (w2.frozen? ⟨w.heap.size + 1, 0, none⟩ = false) := Lib.hid (by
    rw [hf2 _ _ (by simp)]; simp [World.frozen?_alloc_at])
  obtain ⟨B, hB⟩ : ∃ B, B = w.heap.size + 1 + 1 := ⟨_, rfl⟩
  have HO : Hid (w2.ownsRow B 3 1 (.slice au L cu) L (zs.map (Value.int .i64))) := Lib.hid (by rw [hB]; exact QaS hown (by simp))
  have hBw : B ≤ w2.heap.size := by have := hb2.size; simp at this; omega
  have HB := Lib.hid hB
  clear hc2 hf2 hown hb2 hB
  go_loopw [8, 16] (fun v i wr => ∃ k : Nat, k ≤ M ∧ i = .int .i64 k ∧ wr.ownsRow B 3 1 (.slice au L cu) L ((stZ zs (l.take k)).map (Value.int .i64)) ∧ wr.ownsRow B 62 2 v k (QcU (stR zs (l.take k))) ∧ Below B w2 wr ∧ Hid (Qc7 L (l.take k) = 0)) (fun _ i _ => M - (intOf i).toNat)
  case atStart => exact ⟨0, Nat.zero_le _, rfl, by simpa [stZ] using HO.out, World.ownsRow_nil _ _ _ _, Below.refl _ _, Lib.hid (by simp [Qc7])⟩
  case round =>
    obtain ⟨k, hk, rfl, hoz, hor, hbr, herr⟩ := hrel
    have hBr : B ≤ wr.heap.size := by have := hbr.size; omega
    have HWr : Hid (Below w.heap.size w wr) := Lib.hid (HW2.out.trans (hbr.mono (by have := HB.out; omega)))
    have p0 : wr.cell? ⟨w.heap.size, 0, none⟩ = some (.slice a L cap) := (hbr.cell (p := ⟨w.heap.size, 0, none⟩) (by have := HB.out; show w.heap.size < B; omega)).trans c0.out
    have p1 : wr.cell? ⟨w.heap.size + 1, 0, none⟩ = some (.slice none 0 0) := (hbr.cell (p := ⟨w.heap.size + 1, 0, none⟩) (by have := HB.out; show w.heap.size + 1 < B; omega)).trans c1.out
    have g1 : wr.frozen? ⟨w.heap.size + 1, 0, none⟩ = false := (hbr.frozen (p := ⟨w.heap.size + 1, 0, none⟩) (by have := HB.out; show w.heap.size + 1 < B; omega)).trans f1.out
    have hwl : w.heap.size + 1 < wr.heap.size := by have := HB.out; omega
    have p0x := fun o1 o2 o3 => Qa8 o3 (Qa8 o2 (Qa8 o1 p0))
    have p1x := fun o1 o2 o3 => Qa8 o3 (Qa8 o2 (Qa8 o1 p1))
    have g1x := fun o1 o2 o3 => QcA (w := (wr.alloc o1).alloc o2) o3 (by simp; omega) (QcA (w := wr.alloc o1) o2 (by simp; omega) (QcA (w := wr) o1 (by omega) g1))
    by_cases hlt : k < M
    · rcases HXC.out with hx | ⟨bx, ox, rfl, hx⟩
      · omega
      obtain ⟨A, hA⟩ : ∃ A, A = l.getD k Qbk := ⟨_, rfl⟩
      obtain ⟨x1, x2, x3, x4, x5⟩ := hx k hlt
      rw [← hA] at x1 x2 x3 x4 x5
      have y1 := QcQ HWr.out x1
      have y2 := QcQ HWr.out x2
      have y3 := QcQ HWr.out x3
      have y4 := QcQ HWr.out x4
      have y5 := QcQ HWr.out x5
      have HA := Lib.hid hA
      clear hx hA x1 x2 x3 x4 x5
      obtain ⟨ak, ac, ao, an, ab⟩ := A
      simp only at y1 y2 y3 y4 y5
      obtain ⟨r, hr⟩ : ∃ r, r = chk L ak ac ao an ab := ⟨_, rfl⟩
      have HQ : Hid (∀ w, Calls Try.prog 55 #[.int .i64 L, .agg #[.int .i64 ak, .int .i64 ac, .int .i64 ao, .int .i64 an, .string ab]] w fun e w' => e = .returned (.int .i64 r) ∧ ∃ cs cs', w' = (w.alloc (.cells cs 66)).alloc (.cells cs' 66)) := Lib.hid (fun w => by
        have := Qml L ak ac ao an ab w; rwa [← hr] at this)
      have HR := Lib.hid hr
      clear hr
      by_cases he : r = 0
      · subst he
        obtain ⟨hk4, h0, h1, _⟩ := chk_zero HR.out.symm
        obtain ⟨g, rfl⟩ : ∃ g, au = some ⟨g, 0, none⟩ := by
          obtain ⟨_, ⟨_, h⟩ | ⟨g, cap', cur, h, _⟩⟩ := hoz
          · omega
          · simp only [Value.slice.injEq] at h
            exact ⟨g, h.1⟩
        obtain ⟨Z, hZ⟩ : ∃ Z, Z = stZ zs (l.take k) := ⟨_, rfl⟩
        have hZl : Z.length = L := by rw [hZ, QjH, HL.out]
        have HZ1 : Hid (stZ zs (l.take (k + 1)) = Qjy ak ac ao an Z) := Lib.hid (by
          rw [Qgb (by rw [← HM.out]; exact hlt), QiJ, ← HA.out, hZ]; rfl)
        have HR1 : Hid (stR zs (l.take (k + 1)) = stR zs (l.take k) ++ [(Z.getD ac.toNat 0, QgM ak ac ao Z)]) := Lib.hid (by
          rw [Qgb (by rw [← HM.out]; exact hlt), stR_snoc, ← HA.out, hZ]; rfl)
        have HE1 : Hid (Qc7 L (l.take (k + 1)) = 0) := Lib.hid (by
          rw [Qgb (by rw [← HM.out]; exact hlt), QfX, if_pos herr.out, ← HA.out]; exact HR.out.symm)
        have HP : Hid (∀ w, w.ownsRow B 3 1 (.slice (some ⟨g, 0, none⟩) L cu) L (Z.map (Value.int .i64)) → B ≤ w.heap.size → Calls Try.prog 56 #[.slice (some ⟨g, 0, none⟩) L cu, .agg #[.int .i64 ak, .int .i64 ac, .int .i64 ao, .int .i64 an, .string ab]] w fun e w' =>
            e = .returned (.agg #[.int .i64 (Z.getD ac.toNat 0), .bool (QgM ak ac ao Z)]) ∧ w'.ownsRow B 3 1 (.slice (some ⟨g, 0, none⟩) L cu) L ((Qjy ak ac ao an Z).map (Value.int .i64)) ∧ Below B w w' ∧ w.grownBy w' (some g)) := Lib.hid (fun w hw hB => by
          have := Qmu B g cu Z ak ac ao an ab w (by rw [hZl]; exact hw) hk4 h0 (by rw [hZl]; exact h1) hB
          rw [hZl] at this
          exact this)
        obtain ⟨rv, hrv⟩ : ∃ rv, rv = Z.getD ac.toNat 0 := ⟨_, rfl⟩
        obtain ⟨rq, hrq⟩ : ∃ rq, rq = QgM ak ac ao Z := ⟨_, rfl⟩
        rw [← hrv, ← hrq] at HP HR1
        rw [← hZ] at hoz
        have HOZ := Lib.hid hoz
        have HOR := Lib.hid hor
        have HBR := Lib.hid hbr
        clear hrv hrq hZ hZl hk4 h0 h1 hoz hor hbr
        go_wp2_with (first
          | (go_at_call 55; refine (HQ.out _).mono ?_; rintro e w' ⟨rfl, cs, cs', rfl⟩))
        refine (HP.out _ (((HOZ.out.alloc _).alloc _).alloc _) (by simp; omega)).mono ?_
        rintro e w3 ⟨rfl, hoz3, hb3, hg3⟩
        have HOZ3 := Lib.hid hoz3
        have HOR3 := Lib.hid ((((HOR.out.alloc _).alloc _).alloc _).kept hg3 (QfM HOR.out HOZ.out (by decide)))
        have HB3 := Lib.hid (show Below B wr w3 from ((((Below.refl B wr).alloc hBr _).alloc (by simp; omega) _).alloc (by simp; omega) _).trans hb3)
        have hs3 := hb3.size
        simp at hs3
        clear hoz3 hb3 hg3
        go_wp2_with (first
          | (at_builtin; refine wpList_append_own _ rfl _ _ 78 rfl B 62 i0 (.agg #[.int .i64 0, .bool false]) 2 16 Try.underlying78 hi hz0 hz1 hz2 rfl (by decide) _ _ _ rfl (HOR3.out.alloc _) ⟨w3.heap.size, 0, none⟩ 1 1 [.int .i64 rv, .bool rq] rfl rfl (fun j u hj => res_cell j u hj) (by intro u hu; simp at hu; rcases hu with rfl | rfl <;> rfl) (by unfold maxLen; omega) (by omega) (by simp; omega) ?_; intro v' w4 hown' hgrow' _))
        have hoz4 : w4.ownsRow B 3 1 (.slice (some ⟨g, 0, none⟩) L cu) L ((stZ zs (l.take (k + 1))).map (Value.int .i64)) := by
          rw [HZ1.out]; exact (HOZ3.out.alloc _).kept hgrow' (QfM HOZ.out HOR.out (by decide))
        have hor4 : w4.ownsRow B 62 2 v' (k + 1) (QcU (stR zs (l.take (k + 1)))) := by
          rw [HR1.out, Qe9]; exact hown'
        have hbl4 : Below B w2 w4 := HBR.out.trans ((HB3.out.alloc (by omega) _).grown hgrow' (by simp; omega) (fun j hj => (HOR.out.lt j hj).1))
        clear hown' hgrow'
        go_roundw
        case rel => exact ⟨k + 1, by omega, by go_num, hoz4, hor4, hbl4, HE1⟩
        case measure => simp [intOf]; omega
      · have he' : (r != 0) = true := by simp [he]
        have HE : Hid (Qc7 L l = r) := Lib.hid (by
          rw [HR.out]
          have h1 := errOf_at (size := L) (l := l) (k := k) (by rw [← HM.out]; exact hlt) herr.out (by rw [← HA.out]; show chk L ak ac ao an ab ≠ 0; rw [← HR.out]; exact he)
          rw [h1, ← HA.out]; rfl)
        exact absurd (HE.out.symm.trans HEZ.out) he
    · obtain rfl : k = M := by omega
      have htk : l.take k = l := by rw [HM.out]; exact List.take_length
      rw [htk] at hoz hor herr
      go_wp2
      refine bodyPost_ret (v := .tuple #[.agg #[.slice au L cu], u8, .int .i64 0]) (by simp [results, Try.results30, go_sem, p1]) rfl ?_
      have hnb : ∀ (v : Value) (e s n : Nat) (xs : List Value), wr.ownsRow B e s v n xs → v.ownBlock ≠ some (w.heap.size + 1) := fun v e s n xs h hc => by
        have := (h.lt _ hc).1; have := HB.out; omega
      refine ⟨_, _, rfl, ?_, HWr.out.setCell (by simp) _⟩
      have hBB : w.heap.size ≤ B := by have := HB.out; omega
      rw [← HL.out]
      refine QaS ?_ hBB
      exact QaV hoz (hnb _ _ _ _ _ hoz) _
theorem init_own (l : Ly) (v : Value) (zs : List Int) (w : World) (hok : l.ok) (hv : QbH w v zs) (hlen : zs.length ≤ 1000000) :
    Calls Try.prog 31 #[l.v, v] w fun e w' => ∃ u, e = .returned u ∧ w'.ownsRow w.heap.size 66 5 u (QbY l zs zs.length).length (QaA (QbY l zs zs.length)) ∧ Below w.heap.size w w' := by
  obtain ⟨i0, hi, hz0, hz1', hz2⟩ := info_parts Qgw
  obtain ⟨a, cap, rfl, _, hc⟩ := hv
  have HC := Lib.hid hc
  have HV := Lib.hid (fun n w => Qky l n w hok)
  have HK := Lib.hid hok
  clear hc hok
  obtain ⟨M, hM⟩ : ∃ M, M = zs.length := ⟨_, rfl⟩
  rw [← hM] at hlen HC ⊢
  have HM := Lib.hid hM
  clear hM
  unfold Ly.v at HV ⊢
  go_enter Try.func31, Try.ntmps31
  go_wp2
  obtain ⟨W0, hW0⟩ : ∃ W0, W0 = (w.alloc (.cells #[.int .i64 l.c.t, .int .i64 l.c.l, .int .i64 l.c.k, .int .i64 l.c.s, .int .i64 l.c.m, .int .i64 l.clock, .int .i64 l.stamps, .int .i64 l.log, .int .i64 l.fin, .int .i64 l.thread, .int .i64 l.lock, .int .i64 l.loc, .int .i64 l.size] 25)).alloc (.cells #[.int .i64 2, .int .i64 l.stamps, .int .i64 0, .int .i64 1, .string ⟨#[]⟩] 66) := ⟨_, rfl⟩
  rw [← hW0]
  have HS0 : Hid (w.heap.size + 2 = W0.heap.size) := Lib.hid (by rw [hW0]; simp)
  have HB0 : Hid (Below w.heap.size w W0) := Lib.hid (by rw [hW0]; exact ((Below.refl _ _).alloc (Nat.le_refl _) _).alloc (by simp) _)
  have HO0 : Hid (W0.ownsRow (w.heap.size + 1) 66 5 (.slice (some ⟨w.heap.size + 1, 0, none⟩) 1 1) 1 (QaA [Qev l.stamps 1])) := Lib.hid (by
    rw [hW0]
    have := World.ownsRow_lit (base := w.heap.size + 1) (e := 66) (size := 5) (w.alloc (.cells #[.int .i64 l.c.t, .int .i64 l.c.l, .int .i64 l.c.k, .int .i64 l.c.s, .int .i64 l.c.m, .int .i64 l.clock, .int .i64 l.stamps, .int .i64 l.log, .int .i64 l.fin, .int .i64 l.thread, .int .i64 l.lock, .int .i64 l.loc, .int .i64 l.size] 25)) #[.int .i64 2, .int .i64 l.stamps, .int .i64 0, .int .i64 1, .string ⟨#[]⟩] 1 (by simp) (by unfold maxLen; omega) rfl
    rw [show QaA [Qev l.stamps 1] = [.int .i64 2, .int .i64 l.stamps, .int .i64 0, .int .i64 1, .string ⟨#[]⟩] from rfl]
    simpa using this)
  have q0 : Hid (W0.cell? ⟨w.heap.size, 0, none⟩ = some (.int .i64 l.c.t)) := Lib.hid (by rw [hW0]; go_simp)
  have q1 : Hid (W0.cell? ⟨w.heap.size, 1, none⟩ = some (.int .i64 l.c.l)) := Lib.hid (by rw [hW0]; go_simp)
  have q2 : Hid (W0.cell? ⟨w.heap.size, 2, none⟩ = some (.int .i64 l.c.k)) := Lib.hid (by rw [hW0]; go_simp)
  have q3 : Hid (W0.cell? ⟨w.heap.size, 3, none⟩ = some (.int .i64 l.c.s)) := Lib.hid (by rw [hW0]; go_simp)
  have q4 : Hid (W0.cell? ⟨w.heap.size, 4, none⟩ = some (.int .i64 l.c.m)) := Lib.hid (by rw [hW0]; go_simp)
  have q5 : Hid (W0.cell? ⟨w.heap.size, 5, none⟩ = some (.int .i64 l.clock)) := Lib.hid (by rw [hW0]; go_simp)
  have q6 : Hid (W0.cell? ⟨w.heap.size, 6, none⟩ = some (.int .i64 l.stamps)) := Lib.hid (by rw [hW0]; go_simp)
  have q7 : Hid (W0.cell? ⟨w.heap.size, 7, none⟩ = some (.int .i64 l.log)) := Lib.hid (by rw [hW0]; go_simp)
  have q8 : Hid (W0.cell? ⟨w.heap.size, 8, none⟩ = some (.int .i64 l.fin)) := Lib.hid (by rw [hW0]; go_simp)
  have q9 : Hid (W0.cell? ⟨w.heap.size, 9, none⟩ = some (.int .i64 l.thread)) := Lib.hid (by rw [hW0]; go_simp)
  have q10 : Hid (W0.cell? ⟨w.heap.size, 10, none⟩ = some (.int .i64 l.lock)) := Lib.hid (by rw [hW0]; go_simp)
  have q11 : Hid (W0.cell? ⟨w.heap.size, 11, none⟩ = some (.int .i64 l.loc)) := Lib.hid (by rw [hW0]; go_simp)
  have q12 : Hid (W0.cell? ⟨w.heap.size, 12, none⟩ = some (.int .i64 l.size)) := Lib.hid (by rw [hW0]; go_simp)
  clear hW0
  obtain ⟨B, hB⟩ : ∃ B, B = w.heap.size + 1 := ⟨_, rfl⟩
  have HB := Lib.hid hB
  rw [← hB] at HO0 ⊢
  clear hB
  go_loopw [5, 14] (fun v i wr => ∃ k : Nat, k ≤ M ∧ i = .int .i64 k ∧ wr.ownsRow B 66 5 v (QbY l zs k).length (QaA (QbY l zs k)) ∧ Below B W0 wr) (fun _ i _ => M - (intOf i).toNat)
  case atStart => exact ⟨0, Nat.zero_le _, rfl, HO0.out, Below.refl _ _⟩
  case round =>
    obtain ⟨k, hk, rfl, hor, hbr⟩ := hrel
    have hwB : w.heap.size < wr.heap.size := by have := HB.out; have := HS0.out; have := hbr.size; omega
    have p0 : wr.cell? ⟨w.heap.size, 0, none⟩ = some (.int .i64 l.c.t) := (hbr.cell (p := ⟨w.heap.size, 0, none⟩) (by have := HB.out; show w.heap.size < B; omega)).trans q0.out
    have p1 : wr.cell? ⟨w.heap.size, 1, none⟩ = some (.int .i64 l.c.l) := (hbr.cell (p := ⟨w.heap.size, 1, none⟩) (by have := HB.out; show w.heap.size < B; omega)).trans q1.out
    have p2 : wr.cell? ⟨w.heap.size, 2, none⟩ = some (.int .i64 l.c.k) := (hbr.cell (p := ⟨w.heap.size, 2, none⟩) (by have := HB.out; show w.heap.size < B; omega)).trans q2.out
    have p3 : wr.cell? ⟨w.heap.size, 3, none⟩ = some (.int .i64 l.c.s) := (hbr.cell (p := ⟨w.heap.size, 3, none⟩) (by have := HB.out; show w.heap.size < B; omega)).trans q3.out
    have p4 : wr.cell? ⟨w.heap.size, 4, none⟩ = some (.int .i64 l.c.m) := (hbr.cell (p := ⟨w.heap.size, 4, none⟩) (by have := HB.out; show w.heap.size < B; omega)).trans q4.out
    have p5 : wr.cell? ⟨w.heap.size, 5, none⟩ = some (.int .i64 l.clock) := (hbr.cell (p := ⟨w.heap.size, 5, none⟩) (by have := HB.out; show w.heap.size < B; omega)).trans q5.out
    have p6 : wr.cell? ⟨w.heap.size, 6, none⟩ = some (.int .i64 l.stamps) := (hbr.cell (p := ⟨w.heap.size, 6, none⟩) (by have := HB.out; show w.heap.size < B; omega)).trans q6.out
    have p7 : wr.cell? ⟨w.heap.size, 7, none⟩ = some (.int .i64 l.log) := (hbr.cell (p := ⟨w.heap.size, 7, none⟩) (by have := HB.out; show w.heap.size < B; omega)).trans q7.out
    have p8 : wr.cell? ⟨w.heap.size, 8, none⟩ = some (.int .i64 l.fin) := (hbr.cell (p := ⟨w.heap.size, 8, none⟩) (by have := HB.out; show w.heap.size < B; omega)).trans q8.out
    have p9 : wr.cell? ⟨w.heap.size, 9, none⟩ = some (.int .i64 l.thread) := (hbr.cell (p := ⟨w.heap.size, 9, none⟩) (by have := HB.out; show w.heap.size < B; omega)).trans q9.out
    have p10 : wr.cell? ⟨w.heap.size, 10, none⟩ = some (.int .i64 l.lock) := (hbr.cell (p := ⟨w.heap.size, 10, none⟩) (by have := HB.out; show w.heap.size < B; omega)).trans q10.out
    have p11 : wr.cell? ⟨w.heap.size, 11, none⟩ = some (.int .i64 l.loc) := (hbr.cell (p := ⟨w.heap.size, 11, none⟩) (by have := HB.out; show w.heap.size < B; omega)).trans q11.out
    have p12 : wr.cell? ⟨w.heap.size, 12, none⟩ = some (.int .i64 l.size) := (hbr.cell (p := ⟨w.heap.size, 12, none⟩) (by have := HB.out; show w.heap.size < B; omega)).trans q12.out
    have HBw : Hid (Below w.heap.size w wr) := Lib.hid (HB0.out.trans (hbr.mono (by have := HB.out; omega)))
    have HOR := Lib.hid hor
    have HBR := Lib.hid hbr
    have HLn := Lib.hid (Qey l zs k)
    clear hor hbr
    by_cases hlt : k < M
    · rcases HC.out with hx | ⟨bx, ox, rfl, hx⟩
      · omega
      obtain ⟨x, hxx⟩ : ∃ x, x = zs.getD k 0 := ⟨_, rfl⟩
      have hcx := Qba HBw.out (hx k hlt)
      rw [← hxx] at hcx
      have HX := Lib.hid hxx
      clear hx hxx
      by_cases hloc : (k : Int) < l.c.l
      · have HN : Hid (QbY l zs (k + 1) = QbY l zs k ++ [Qev (Qes l k) x]) := Lib.hid (by rw [HX.out]; show _ ++ _ = _; rw [if_pos hloc])
        obtain ⟨c, hc⟩ : ∃ c, c = Qes l k := ⟨_, rfl⟩
        have HVk : Hid (∀ w, Calls Try.prog 33 #[.agg #[.int .i64 l.c.t, .int .i64 l.c.l, .int .i64 l.c.k, .int .i64 l.c.s, .int .i64 l.c.m, .int .i64 l.clock, .int .i64 l.stamps, .int .i64 l.log, .int .i64 l.fin, .int .i64 l.thread, .int .i64 l.lock, .int .i64 l.loc, .int .i64 l.size], .int .i64 k] w fun e' w' => e' = .returned (.int .i64 c) ∧ Below w.heap.size w w') := Lib.hid (fun w => by rw [hc]; exact HV.out k w)
        rw [← hc] at HN
        clear hc
        go_wp2_with fail
        refine (HVk.out _).mono ?_
        rintro e w1 ⟨rfl, hb1⟩
        have HB1 := Lib.hid hb1
        have HO1 := Lib.hid (QjN HOR.out hb1)
        clear hb1
        have hz1 : B ≤ w1.heap.size := by have := HB1.out.size; have := HBR.out.size; have := HS0.out; have := HB.out; omega
        go_wp2_with (first
          | (at_builtin; refine wpList_append_own _ rfl _ _ 56 rfl B 66 i0 (.agg #[.int .i64 0, .int .i64 0, .int .i64 0, .int .i64 0, .string ByteArray.empty]) 5 48 Try.underlying56 hi hz0 hz1' hz2 rfl (by decide) _ _ _ rfl (World.ownsRow.alloc HO1.out _) ⟨w1.heap.size, 0, none⟩ 1 1 [.int .i64 2, .int .i64 c, .int .i64 0, .int .i64 x, .string ⟨#[]⟩] rfl rfl (fun j u hj => acc_cell j u hj) (by intro u hu; simp at hu; rcases hu with rfl | rfl | rfl | rfl | rfl <;> rfl) (by have := HLn.out; unfold maxLen; omega) (by have := HLn.out; omega) (by simp; omega) ?_; intro v' w4 hown' hgrow' _))
        have hor4 : w4.ownsRow B 66 5 v' (QbY l zs (k + 1)).length (QaA (QbY l zs (k + 1))) := by
          rw [HN.out, Qcu, List.length_append]; exact hown'
        have hbl4 : Below B W0 w4 := HBR.out.trans (((HB1.out.mono (by have := HBR.out.size; have := HS0.out; have := HB.out; omega)).alloc hz1 _).grown hgrow' (by simp; omega) (fun j hj => (HO1.out.lt j hj).1))
        clear hown' hgrow'
        go_roundw
        case rel => exact ⟨k + 1, by omega, by go_num, hor4, hbl4⟩
        case measure => simp [intOf]; omega
      · have HN : Hid (QbY l zs (k + 1) = QbY l zs k) := Lib.hid (by show _ ++ _ = _; rw [if_neg hloc]; simp)
        go_wp2
        go_roundw
        case rel => exact ⟨k + 1, by omega, by go_num, by rw [HN.out]; exact HOR.out, HBR.out⟩
        case measure => simp [intOf]; omega
    · obtain rfl : k = M := by omega
      go_wp2
      go_ret
      exact ⟨_, rfl, QaS HOR.out (by have := HB.out; omega), HBw.out⟩
def Qe6 (l : Ly) : Bool := decide l.c.ok && lyEq l (Qbc l.c)
theorem QhT (l : Ly) (w : World) : Calls Try.prog 28 #[l.v] w fun e w' => e = .returned (.bool (Qe6 l)) ∧ Below w.heap.size w w' := by
  by_cases h : l.c.ok
  · obtain ⟨L, hL⟩ : ∃ L, L = Qbc l.c := ⟨_, rfl⟩
    have HO : Hid (∀ w, Calls Try.prog 52 #[l.c.v] w fun e w' => e = .returned (.tuple #[L.v, .int .i64 0]) ∧ Below w.heap.size w w') := Lib.hid (fun w => by rw [hL]; exact of_t l.c w h)
    have HR := Lib.hid (show Qe6 l = lyEq l L by unfold Qe6; rw [hL, decide_eq_true h]; rfl)
    have hre : ∀ w, (binOp .eql 25 l.v L.v).run Try.prog w = .ok (.bool (lyEq l L)) w := fun w => lay_eql l L w
    clear hL h
    unfold Ly.v at hre ⊢
    unfold Ly.v Cf.v at HO
    go_enter Try.func28, Try.ntmps28
    go_wp2_with fail
    refine (HO.out _).mono ?_
    rintro e w1 ⟨rfl, hb⟩
    have hz : w.heap.size < w1.heap.size := by have := hb.size; simp at this; omega
    have HB := Lib.hid (QeA hb)
    have p0 : w1.cell? ⟨w.heap.size, 0, none⟩ = some (.int .i64 l.c.t) := Qba hb (by go_simp)
    have p1 : w1.cell? ⟨w.heap.size, 1, none⟩ = some (.int .i64 l.c.l) := Qba hb (by go_simp)
    have p2 : w1.cell? ⟨w.heap.size, 2, none⟩ = some (.int .i64 l.c.k) := Qba hb (by go_simp)
    have p3 : w1.cell? ⟨w.heap.size, 3, none⟩ = some (.int .i64 l.c.s) := Qba hb (by go_simp)
    have p4 : w1.cell? ⟨w.heap.size, 4, none⟩ = some (.int .i64 l.c.m) := Qba hb (by go_simp)
    have p5 : w1.cell? ⟨w.heap.size, 5, none⟩ = some (.int .i64 l.clock) := Qba hb (by go_simp)
    have p6 : w1.cell? ⟨w.heap.size, 6, none⟩ = some (.int .i64 l.stamps) := Qba hb (by go_simp)
    have p7 : w1.cell? ⟨w.heap.size, 7, none⟩ = some (.int .i64 l.log) := Qba hb (by go_simp)
    have p8 : w1.cell? ⟨w.heap.size, 8, none⟩ = some (.int .i64 l.fin) := Qba hb (by go_simp)
    have p9 : w1.cell? ⟨w.heap.size, 9, none⟩ = some (.int .i64 l.thread) := Qba hb (by go_simp)
    have p10 : w1.cell? ⟨w.heap.size, 10, none⟩ = some (.int .i64 l.lock) := Qba hb (by go_simp)
    have p11 : w1.cell? ⟨w.heap.size, 11, none⟩ = some (.int .i64 l.loc) := Qba hb (by go_simp)
    have p12 : w1.cell? ⟨w.heap.size, 12, none⟩ = some (.int .i64 l.size) := Qba hb (by go_simp)
    clear hb
    go_wp2
    go_ret
    exact ⟨Qb2 HR.out.symm, HB.out.trans ((Qer _ _).mono HB.out.size)⟩
  · have HO := Lib.hid (fun w => of_f l.c w h)
    have HR := Lib.hid (show Qe6 l = false by unfold Qe6; rw [decide_eq_false h]; rfl)
    clear h
    unfold Ly.v
    unfold lay0 Ly.v Cf.v at HO
    go_enter Try.func28, Try.ntmps28
    go_wp2_with fail
    refine (HO.out _).mono ?_
    rintro e w1 ⟨rfl, hb⟩
    have HB := Lib.hid (QeA hb)
    clear hb
    go_wp2
    go_ret
    exact ⟨Qb2 HR.out.symm, HB.out.trans ((Qer _ _).mono HB.out.size)⟩
end Go.Proofs.Ytfhmdlihnidjoaa
