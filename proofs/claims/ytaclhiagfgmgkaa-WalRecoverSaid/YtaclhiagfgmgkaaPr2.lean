/-
  Merged: Base, WirePlain, Aux
-/
import Derived.Test.YtaclhiagfgmgkaaRows
import Derived.WalkKit
import Derived.ProofKit
import Derived.OpenShut
import Derived.Lib.Hide
import Derived.SizedLaws
import Derived.Laws.CopyOwn
import Derived.Deep.QuietTactic
import Derived.BigQuiet
namespace Go.Proofs.Ytaclhiagfgmgkaa
set_option linter.unusedSectionVars false
open Go.ChangeShapes Go.WideShapes Go.ChangeAt Go.RowKit
def I64 (n : Int) : Prop := -9223372036854775808 ≤ n ∧ n ≤ 9223372036854775807
theorem i64_of_wf {n : Int} (h : (Lit.int .i64 n).wf = true) : I64 n := by
  have h1 : IntKind.i64.min = -9223372036854775808 := rfl
  have h2 : IntKind.i64.max = 9223372036854775807 := rfl
  simp only [Lit.wf, Bool.and_eq_true, decide_eq_true_eq] at h
  unfold I64; omega
theorem u8_of_wf {n : Int} (h : (Lit.int .u8 n).wf = true) : 0 ≤ n ∧ n ≤ 255 := by
  have h1 : IntKind.u8.min = 0 := rfl
  have h2 : IntKind.u8.max = 255 := rfl
  simp only [Lit.wf, Bool.and_eq_true, decide_eq_true_eq] at h
  omega
theorem ret_int {k : IntKind} {a b : Int} (h : a = b) : Ending.returned (.int k a) = .returned (.int k b) := by rw [h]
theorem below_drewN {B : Nat} {a w : World} (h : Below B a w) (n : Nat) : Below B a (w.drewN n) := h.trans ⟨rfl, rfl, rfl, Nat.le_refl _, fun _ _ => rfl⟩
theorem info_int : (Try.prog.info? 3).map (fun i => (i.zero, i.size, i.bytes)) = some (some (.int .i64 0), 1, 8) := by kernel_rfl
def HasInts (w : World) (v : Value) (zs : List Int) : Prop :=
  ∃ a cap, v = .slice a zs.length cap ∧ zs.length ≤ 9223372036854775807 ∧ (zs.length = 0 ∨ ∃ b o, a = some ⟨b, o, none⟩ ∧ ∀ j, j < zs.length → w.cell? ⟨b, o + j, none⟩ = some (.int .i64 (zs.getD j 0)))
theorem hasInts_of_owns {w : World} {B : Nat} {v : Value} {zs : List Int} (h : w.ownsRow B 3 1 v zs.length (zs.map (Value.int .i64))) : HasInts w v zs := by
  have h0 := h
  obtain ⟨_, h | ⟨g, cap, cur, rfl, _, _, hn, hc, _, _⟩⟩ := h
  · obtain ⟨rfl, hz⟩ := h
    exact ⟨none, 0, by rw [hz], by omega, Or.inl hz⟩
  · refine ⟨some ⟨g, 0, none⟩, cap, rfl, by unfold maxLen at hc; omega, Or.inr ⟨g, 0, rfl, fun j hj => ?_⟩⟩
    rw [Nat.zero_add, h0.cellAt j (by omega)]
    simp [List.getD, List.getElem?_eq_getElem hj]
theorem hasInts_drewN {w : World} {v : Value} {zs : List Int} (h : HasInts w v zs) (n : Nat) : HasInts (w.drewN n) v zs := h
theorem cell_alloc {w : World} {a : Addr} {v : Value} (o : Obj) (h : w.cell? a = some v) : (w.alloc o).cell? a = some v :=
  (World.cell?_alloc_lt w o a (World.block_lt_of_cell? w a h)).trans h
theorem frozen_alloc {w : World} {b o : Nat} {r : Bool} (ob : Obj) (hb : b < w.heap.size) (h : w.frozen? ⟨b, o, none⟩ = r) : (w.alloc ob).frozen? ⟨b, o, none⟩ = r :=
  (World.frozen?_alloc_past _ _ _ hb).trans h
theorem gb_set {w w' : World} {g : Nat} (h : w.grownBy w' (some g)) {a : Addr} (ha : a.block = g ∨ w.heap.size ≤ a.block) (u : Value) : w.grownBy (w'.setCell a u) (some g) :=
  ⟨h.os, h.tape, h.output, Nat.le_trans h.size (by simp [World.setCell]), fun k hk hne => (Below.heap_setCell _ _ _ _ (by
    rcases ha with ha | ha
    · intro hc; apply hne; rw [hc, ha]
    · omega)).trans (h.block k hk hne)⟩
theorem owns_slice {w : World} {B e size n : Nat} {v : Value} {xs : List Value} (h : w.ownsRow B e size v n xs) : ∃ a c, v = .slice a n c := by
  obtain ⟨_, ⟨rfl, rfl⟩ | ⟨g, cap, cur, rfl, _⟩⟩ := h
  · exact ⟨_, _, rfl⟩
  · exact ⟨_, _, rfl⟩
theorem append_cell {w : World} {v : Value} {T : TypeId} (j : Nat) (u : Value) (hj : [v][j]? = some u) : (w.alloc (.cells #[v] T)).cell? ((⟨w.heap.size, 0, none⟩ : Addr).add j) = some u := by
  match j, hj with
  | 0, hj =>
    simp at hj; subst hj
    simp [Addr.add, World.cell?_alloc_at]
theorem take_snoc' (l : List Int) (k : Nat) (h : k < l.length) : l.take (k + 1) = l.take k ++ [l.getD k 0] := by
  rw [List.take_succ_eq_append_getElem h]; simp [List.getD, List.getElem?_eq_getElem h]
end Go.Proofs.Ytaclhiagfgmgkaa

namespace Go.Proofs.Ytaclhiagfgmgkaa
set_option linter.unusedSectionVars false
def zz (n : Int) : Nat := if 0 ≤ n then (2 * n).toNat else (-2 * n - 1).toNat
def unzz (u : Nat) : Int := if u % 2 = 0 then ((u / 2 : Nat) : Int) else -((u / 2 : Nat) : Int) - 1
theorem unzz_zz (n : Int) : unzz (zz n) = n := by
  unfold zz unzz
  by_cases h : 0 ≤ n
  · rw [if_pos h, if_pos (by omega)]; omega
  · rw [if_neg h, if_neg (by omega)]; omega
theorem zz_unzz (u : Nat) : zz (unzz u) = u := by
  unfold zz unzz
  by_cases h : u % 2 = 0
  · rw [if_pos h, if_pos (by omega)]; omega
  · rw [if_neg h, if_neg (by omega)]; omega
theorem zz_lt {n : Int} (h : I64 n) : zz n < 18446744073709551616 := by
  unfold I64 at h; unfold zz; split <;> omega
theorem unzz_i64 {u : Nat} (h : u < 18446744073709551616) : I64 (unzz u) := by
  unfold I64 unzz; split <;> omega
def grp (u : Nat) : List Nat := if h : u < 128 then [u] else (u % 128 + 128) :: grp (u / 128)
termination_by u
decreasing_by omega
theorem grp_small {u : Nat} (h : u < 128) : grp u = [u] := by unfold grp; rw [dif_pos h]
theorem grp_big {u : Nat} (h : ¬ u < 128) : grp u = (u % 128 + 128) :: grp (u / 128) := by rw [grp.eq_1 u, dif_neg h]
def enc (n : Int) : List Nat := grp (zz n)
def scan : List Nat → Option (Nat × Nat)
  | [] => none
  | b :: r => if b < 128 then some (b, 1) else
    match scan r with
    | none => none
    | some (u, k) => if u = 0 then none else some (b - 128 + 128 * u, k + 1)
def dec (l : List Nat) : Option (Int × Nat) :=
  match scan l with
  | none => none
  | some (u, k) => if u < 18446744073709551616 then some (unzz u, k) else none
theorem grp_pos (u : Nat) : 0 < (grp u).length := by
  unfold grp; split <;> simp
theorem grp_byte (u : Nat) : ∀ b ∈ grp u, b < 256 := by
  induction u using Nat.strongRecOn with
  | ind u ih =>
    by_cases h : u < 128
    · rw [grp_small h]; intro b hb; simp at hb; omega
    · rw [grp_big h]; intro b hb
      rcases List.mem_cons.1 hb with rfl | hb
      · omega
      · exact ih (u / 128) (by omega) b hb
theorem grp_len (u : Nat) : ∀ k : Nat, u < 128 ^ (k + 1) → (grp u).length ≤ k + 1 := by
  intro k
  induction k generalizing u with
  | zero => intro h; rw [grp_small (by simpa using h)]; simp
  | succ k ih =>
    intro h
    by_cases hs : u < 128
    · rw [grp_small hs]; simp
    · rw [grp_big hs]
      have := ih (u / 128) (by rw [Nat.pow_succ] at h; exact Nat.div_lt_of_lt_mul (by rw [Nat.mul_comm]; exact h))
      simp; omega
theorem scan_grp (u : Nat) (r : List Nat) : scan (grp u ++ r) = some (u, (grp u).length) := by
  induction u using Nat.strongRecOn with
  | ind u ih =>
    by_cases h : u < 128
    · rw [grp_small h]; simp [scan, h]
    · rw [grp_big h]
      have h1 := ih (u / 128) (by omega)
      simp only [List.cons_append, scan]
      rw [if_neg (by omega), h1]
      simp only
      rw [if_neg (by omega)]
      simp
      omega
theorem scan_used {l : List Nat} {u k : Nat} (h : scan l = some (u, k)) : 1 ≤ k ∧ k ≤ l.length := by
  induction l generalizing u k with
  | nil => simp [scan] at h
  | cons b r ih =>
    unfold scan at h
    split at h
    · simp at h; simp; omega
    · split at h
      · cases h
      · rename_i u' k' he
        split at h
        · cases h
        · simp at h
          have := ih he
          simp; omega
theorem scan_take {l : List Nat} {u k : Nat} (hb : ∀ b ∈ l, b < 256) (h : scan l = some (u, k)) : l.take k = grp u := by
  induction l generalizing u k with
  | nil => simp [scan] at h
  | cons b r ih =>
    unfold scan at h
    split at h
    · rename_i hs
      simp at h
      obtain ⟨rfl, rfl⟩ := h
      rw [grp_small hs]; rfl
    · rename_i hs
      split at h
      · cases h
      · rename_i u' k' he
        split at h
        · cases h
        · rename_i h0
          simp at h
          obtain ⟨rfl, rfl⟩ := h
          have h1 := ih (fun x hx => hb x (List.mem_cons_of_mem _ hx)) he
          have hb0 := hb b (by simp)
          rw [grp_big (by omega), List.take_succ_cons, h1]
          congr 1
          · omega
          · congr 1; omega
theorem dec_enc {n : Int} (h : I64 n) (r : List Nat) : dec (enc n ++ r) = some (n, (enc n).length) := by
  unfold dec enc
  rw [scan_grp]
  simp only
  rw [if_pos (zz_lt h), unzz_zz]
theorem dec_some {l : List Nat} {n : Int} {k : Nat} (hb : ∀ b ∈ l, b < 256) (h : dec l = some (n, k)) : I64 n ∧ l.take k = enc n ∧ 1 ≤ k ∧ k ≤ l.length := by
  unfold dec at h
  split at h
  · cases h
  · rename_i u k' he
    split at h
    · rename_i hu
      simp at h
      obtain ⟨rfl, rfl⟩ := h
      refine ⟨unzz_i64 hu, ?_, scan_used he⟩
      unfold enc
      rw [zz_unzz]
      exact scan_take hb he
    · cases h
theorem enc_pos (n : Int) : 0 < (enc n).length := grp_pos _
theorem enc_len {n : Int} (h : I64 n) : (enc n).length ≤ 10 := grp_len _ 9 (Nat.lt_of_lt_of_le (zz_lt h) (by decide))
theorem enc_byte (n : Int) : ∀ b ∈ enc n, b < 256 := grp_byte _
def encs (l : List Int) : List Nat := l.flatMap enc
theorem encs_snoc (l : List Int) (n : Int) : encs (l ++ [n]) = encs l ++ enc n := by simp [encs]
end Go.Proofs.Ytaclhiagfgmgkaa

namespace Go.Proofs.Ytaclhiagfgmgkaa
set_option linter.unusedSectionVars false
open Go.ChangeShapes Go.WideShapes Go.ChangeAt Go.RowKit
end Go.Proofs.Ytaclhiagfgmgkaa
