/-
  Merged: Base, Aux, Word2, Word3, LayA, LayB, LayC, LayR
-/
import Derived.Test.YtfahnmpcclhjlaaGreatRows
import Derived.WalkKit
import Derived.ProofKit
import Derived.OpenShut
import Derived.Lib.Hide
import Derived.SizedLaws
import Derived.Laws.CopyOwn
import Derived.Deep.QuietTactic
import Derived.BigQuiet
import Derived.Outline
namespace Go.Proofs.YtfahnmpcclhjlaaGreat
set_option linter.unusedSectionVars false
open Go.ChangeShapes Go.WideShapes Go.ChangeAt Go.RowKit
def I64 (n : Int) : Prop := -9223372036854775808 ≤ n ∧ n ≤ 9223372036854775807
theorem i64_of_wf {n : Int} (h : (Lit.int .i64 n).wf = true) : I64 n := by
  have h1 : IntKind.i64.min = -9223372036854775808 := rfl
  have h2 : IntKind.i64.max = 9223372036854775807 := rfl
  simp only [Lit.wf, Bool.and_eq_true, decide_eq_true_eq] at h
  unfold I64; omega
theorem i64_wrap64 (n : Int) : I64 (wrap64 n) := by unfold I64 wrap64; omega
theorem wrap64_id {n : Int} (h : I64 n) : wrap64 n = n := by unfold I64 at h; unfold wrap64; omega
theorem i64_zero : I64 0 := ⟨by decide, by decide⟩
theorem ret_bool {a b : Bool} (h : a = b) : Ending.returned (.bool a) = .returned (.bool b) := by rw [h]
theorem ret_int {k : IntKind} {a b : Int} (h : a = b) : Ending.returned (.int k a) = .returned (.int k b) := by rw [h]
theorem cell_alloc {w : World} {a : Addr} {v : Value} (o : Obj) (h : w.cell? a = some v) : (w.alloc o).cell? a = some v :=
  (World.cell?_alloc_lt w o a (World.block_lt_of_cell? w a h)).trans h
theorem frozen_alloc {w : World} {b o : Nat} {r : Bool} (ob : Obj) (hb : b < w.heap.size) (h : w.frozen? ⟨b, o, none⟩ = r) : (w.alloc ob).frozen? ⟨b, o, none⟩ = r :=
  (World.frozen?_alloc_past _ _ _ hb).trans h
theorem gb_refl (w : World) (r : Option Nat) : w.grownBy w r := ⟨rfl, rfl, rfl, Nat.le_refl _, fun _ _ _ => rfl⟩
theorem gb_alloc {w w' : World} {r : Option Nat} (h : w.grownBy w' r) (o : Obj) : w.grownBy (w'.alloc o) r :=
  ⟨h.os, h.tape, h.output, Nat.le_trans h.size (by simp), fun k hk hne => (Below.heap_alloc _ _ _ (Nat.lt_of_lt_of_le hk h.size)).trans (h.block k hk hne)⟩
theorem gb_set {w w' : World} {g : Nat} (h : w.grownBy w' (some g)) {a : Addr} (ha : a.block = g ∨ w.heap.size ≤ a.block) (u : Value) : w.grownBy (w'.setCell a u) (some g) :=
  ⟨h.os, h.tape, h.output, Nat.le_trans h.size (by simp [World.setCell]), fun k hk hne => (Below.heap_setCell _ _ _ _ (by
    rcases ha with ha | ha
    · intro hc; apply hne; rw [hc, ha]
    · omega)).trans (h.block k hk hne)⟩
theorem gb_drew {w w' : World} {r : Option Nat} (h : w.grownBy w' r) : w.grownBy w'.drew r := ⟨h.os, h.tape, h.output, h.size, h.block⟩
end Go.Proofs.YtfahnmpcclhjlaaGreat

namespace Go.Proofs.YtfahnmpcclhjlaaGreat
set_option linter.unusedSectionVars false
open Go.ChangeShapes Go.WideShapes Go.ChangeAt Go.RowKit
theorem cel_below {W w1 : World} {b o : Nat} {v : Value} (hb : Below W.heap.size W w1) (h : W.cell? ⟨b, o, none⟩ = some v) : w1.cell? ⟨b, o, none⟩ = some v :=
  (hb.cell (p := ⟨b, o, none⟩) (World.block_lt_of_cell? W ⟨b, o, none⟩ h)).trans h
theorem fro_below {W w1 : World} {b o : Nat} {r : Bool} (hb : Below W.heap.size W w1) (hl : b < W.heap.size) (h : W.frozen? ⟨b, o, none⟩ = r) : w1.frozen? ⟨b, o, none⟩ = r :=
  (hb.frozen (p := ⟨b, o, none⟩) hl).trans h
theorem below_new1 (w : World) (o : Obj) : Below w.heap.size w (w.alloc o) := (Below.refl _ _).alloc (Nat.le_refl _) _
theorem below_alloc1 {w w' : World} {o : Obj} (h : Below (w.alloc o).heap.size (w.alloc o) w') : Below w.heap.size w w' :=
  (below_new1 w o).trans (h.mono (by simp))
theorem below_alloc2 {w w' : World} {o o2 : Obj} (h : Below ((w.alloc o).alloc o2).heap.size ((w.alloc o).alloc o2) w') : Below w.heap.size w w' := below_alloc1 (below_alloc1 h)
theorem below_alloc3 {w w' : World} {o o2 o3 : Obj} (h : Below (((w.alloc o).alloc o2).alloc o3).heap.size (((w.alloc o).alloc o2).alloc o3) w') : Below w.heap.size w w' := below_alloc1 (below_alloc2 h)
theorem gb_cell {w w1 : World} {r : Option Nat} (hg : w.grownBy w1 r) {b o : Nat} {x : Value} (h : w.cell? ⟨b, o, none⟩ = some x) (hne : ∀ j, r = some j → j = b → False) : w1.cell? ⟨b, o, none⟩ = some x :=
  (World.cell?_of_block (a := ⟨b, o, none⟩) (hg.block b (World.block_lt_of_cell? w ⟨b, o, none⟩ h) (fun hc => hne b (by simpa using hc.symm) rfl))).trans h
theorem keepA_ {w : World} {b o b' o' : Nat} {v u : Value} (h : w.cell? ⟨b', o', none⟩ = some u) (hne : b ≠ b' ∨ o ≠ o') : (w.setCell ⟨b, o, none⟩ v).cell? ⟨b', o', none⟩ = some u := by
  rw [World.cell?_setCell_other _ _ _ _ (fun he => by simp at he; omega)]; exact h
end Go.Proofs.YtfahnmpcclhjlaaGreat

namespace Go.Proofs.YtfahnmpcclhjlaaGreat
set_option linter.unusedSectionVars false
open Go.ChangeShapes Go.WideShapes Go.ChangeAt Go.RowKit
theorem bits_i64 (op : BinOp) (x y : Int) : bits op .i64 x y = wrap64 (((match op with
    | .and => BitVec.ofInt 64 x &&& BitVec.ofInt 64 y
    | .or => BitVec.ofInt 64 x ||| BitVec.ofInt 64 y
    | .xor => BitVec.ofInt 64 x ^^^ BitVec.ofInt 64 y
    | _ => BitVec.ofInt 64 x &&& ~~~BitVec.ofInt 64 y).toNat : Nat) : Int) := by
  unfold bits wrap64
  rw [IntKind.wrap_i64]
  cases op <;> rfl
theorem ofInt_toNat (a : Int) : (((BitVec.ofInt 64 a).toNat : Nat) : Int) = a % 18446744073709551616 := by
  rw [BitVec.toNat_ofInt]
  have h : (((2 : Nat) ^ 64 : Nat) : Int) = 18446744073709551616 := by decide
  rw [h]
  omega
theorem wrap_ofInt {a : Int} (h : I64 a) : wrap64 (((BitVec.ofInt 64 a).toNat : Nat) : Int) = a := by
  rw [ofInt_toNat]; unfold I64 at h; unfold wrap64; omega
theorem two_pow_cast (t : Nat) : ((2 ^ t : Nat) : Int) = 2 ^ t := by push_cast; rfl
theorem and_mask (a : Int) (j : Nat) (hj : j ≤ 62) : bits .and .i64 a (2 ^ j - 1) = a % 2 ^ j := by
  rw [bits_i64]
  have hp : (2 : Int) ^ j ≤ 2 ^ 62 := by
    have : (2 : Nat) ^ j ≤ 2 ^ 62 := Nat.pow_le_pow_right (by decide) hj
    exact_mod_cast this
  have h0 : (0 : Int) < 2 ^ j := by exact_mod_cast Nat.pow_pos (n := j) (by decide : 0 < 2)
  have e1 : (BitVec.ofInt 64 (2 ^ j - 1)).toNat = 2 ^ j - 1 := by
    have h1 := ofInt_toNat (2 ^ j - 1)
    have h2 : ((2 : Int) ^ j - 1) % 18446744073709551616 = 2 ^ j - 1 := Int.emod_eq_of_lt (by omega) (by omega)
    rw [h2] at h1
    have h3 := two_pow_cast j
    have h4 : 1 ≤ (2 : Nat) ^ j := Nat.pow_pos (by decide)
    omega
  have e2 : (BitVec.ofInt 64 a &&& BitVec.ofInt 64 (2 ^ j - 1)).toNat = (BitVec.ofInt 64 a).toNat % 2 ^ j := by
    rw [BitVec.toNat_and, e1, Nat.and_two_pow_sub_one_eq_mod]
  show wrap64 (((BitVec.ofInt 64 a &&& BitVec.ofInt 64 (2 ^ j - 1)).toNat : Nat) : Int) = _
  rw [e2]
  have e3 : (((BitVec.ofInt 64 a).toNat % 2 ^ j : Nat) : Int) = a % 2 ^ j := by
    push_cast
    rw [ofInt_toNat]
    have hd : (2 : Int) ^ j ∣ 18446744073709551616 := by
      refine ⟨2 ^ (64 - j), ?_⟩
      rw [← Int.pow_add]
      have : j + (64 - j) = 64 := by omega
      rw [this]; rfl
    exact Int.emod_emod_of_dvd _ hd
  rw [e3]
  have h4 : 0 ≤ a % 2 ^ j := Int.emod_nonneg _ (by omega)
  have h5 : a % 2 ^ j < 2 ^ j := Int.emod_lt_of_pos _ h0
  refine wrap64_id ⟨by omega, ?_⟩
  have : (2 : Int) ^ 62 = 4611686018427387904 := by decide
  omega
theorem odd_ne (a : Int) : (a % 2 != 0) = decide (a % 2 = 1) := by
  have : a % 2 = 0 ∨ a % 2 = 1 := by omega
  rcases this with h | h <;> rw [h] <;> decide
theorem tmod_lem (a n : Int) (hn : 0 < n) : (0 ≤ a.tmod n ∧ a.tmod n = a % n) ∨ (a.tmod n < 0 ∧ -n < a.tmod n ∧ a.tmod n + n = a % n) := by
  rw [Int.tmod_eq_emod]
  have h0 := Int.emod_nonneg a (show n ≠ 0 by omega)
  have h1 := Int.emod_lt_of_pos a hn
  split
  · left; omega
  · rename_i h
    right
    have hne : a % n ≠ 0 := fun hc => h (Or.inr (Int.dvd_of_emod_eq_zero hc))
    have : (n.natAbs : Int) = n := by omega
    omega
theorem mod_any (a n : Int) (hn : 0 < n) (h : n ≤ 2305843009213693952) (w : World) : Calls Tryz.prog 68 #[.int .i64 a, .int .i64 n] w fun e w' => e = .returned (.int .i64 (a % n)) ∧ w = w' := by
  have hz : (n == 0) = false := by simp; omega
  have hl := tmod_lem a n hn
  rcases hl with ⟨h1, h2⟩ | ⟨h1, h2, h3⟩
  · go_enter Tryz.func68, Tryz.ntmps68
    go_wp2
    go_ret
    exact ⟨by first | rfl | (rw [h2]), rfl⟩
  · have h4 : Hid (a.tmod n + n = a % n) := Lib.hid h3
    clear h3
    go_enter Tryz.func68, Tryz.ntmps68
    go_wp2
    go_ret
    exact ⟨ret_int h4.out, rfl⟩
section
variable (a : Int) (w : World)
include a w
theorem locked_any : Calls Tryz.prog 59 #[.int .i64 a] w fun e w' => e = .returned (.bool (decide (a % 2 = 1))) ∧ w = w' := by
  have h := and_mask a 1 (by decide)
  have h' : bits .and .i64 a 1 = a % 2 := by simpa using h
  clear h
  go_enter Tryz.func59, Tryz.ntmps59
  go_wp2
  go_ret
  exact ⟨ret_bool (odd_ne a), rfl⟩
theorem kind_any : Calls Tryz.prog 46 #[.int .i64 a] w fun e w' => e = .returned (.int .i64 (a % 4)) ∧ w = w' := by
  have h := and_mask a 2 (by decide)
  have h' : bits .and .i64 a 3 = a % 4 := by simpa using h
  clear h
  go_enter Tryz.func46, Tryz.ntmps46
  go_wp2
  go_ret
  exact ⟨rfl, rfl⟩
theorem free_any : Calls Tryz.prog 89 #[.int .i64 a] w fun e w' => e = .returned (.int .i64 (wrap64 (2 * a))) ∧ w = w' := by
  go_enter Tryz.func89, Tryz.ntmps89
  go_wp2
  go_ret
  exact ⟨rfl, rfl⟩
theorem ver_any : Calls Tryz.prog 61 #[.int .i64 a] w fun e w' => e = .returned (.int .i64 (a / 2)) ∧ w = w' := by
  go_enter Tryz.func61, Tryz.ntmps61
  go_wp2
  go_ret
  exact ⟨rfl, rfl⟩
theorem who_any : Calls Tryz.prog 60 #[.int .i64 a] w fun e w' => e = .returned (.int .i64 (a / 2)) ∧ w = w' := by
  go_enter Tryz.func60, Tryz.ntmps60
  go_wp2
  go_ret
  exact ⟨rfl, rfl⟩
end
theorem wstatus_any (t k : Int) (w : World) : Calls Tryz.prog 98 #[.int .i64 t, .int .i64 k] w fun e w' => e = .returned (.int .i64 (wrap64 (4 * t + k % 4))) ∧ w = w' := by
  have h := and_mask k 2 (by decide)
  have h' : bits .and .i64 k 3 = k % 4 := by simpa using h
  clear h
  go_enter Tryz.func98, Tryz.ntmps98
  go_wp2
  go_ret
  refine ⟨ret_int ?_, rfl⟩
  unfold wrap64; omega
theorem try_any (a : Int) (ha : I64 a) (w : World) : Calls Tryz.prog 85 #[.int .i64 a] w fun e w' => e = .returned (.int .i64 (a / 4)) ∧ w = w' := by
  obtain ⟨h1, h2⟩ := ha
  have hd : (a - a % 4).tdiv 4 = a / 4 := by rw [Int.tdiv_eq_ediv_of_dvd (by omega)]; omega
  have HD : Hid ((a - a % 4).tdiv 4 = a / 4) := Lib.hid hd
  clear hd
  go_enter Tryz.func85, Tryz.ntmps85
  go_wp2_with (first | (go_at_call 46; refine (kind_any _ _).mono ?_; rintro e w' ⟨rfl, rfl⟩))
  go_ret
  exact ⟨ret_int HD.out, rfl⟩
theorem pow_pos' (t : Nat) : (0 : Int) < 2 ^ t := by exact_mod_cast Nat.pow_pos (n := t) (by decide : 0 < 2)
theorem down_lo {a : Int} (h : I64 a) {n : Nat} (hn : n ≤ 61) : -9223372036854775808 ≤ a - a % 2 ^ n := by
  obtain ⟨h1, h2⟩ := h
  have hp := pow_pos' n
  have e : (-9223372036854775808 : Int) = 2 ^ n * (-(2 ^ (63 - n))) := by
    have h2 : (2 : Int) ^ n * (-(2 ^ (63 - n))) = - 2 ^ (n + (63 - n)) := by rw [Int.pow_add, Int.mul_neg]
    have : n + (63 - n) = 63 := by omega
    rw [h2, this]; decide
  have hq : -(2 ^ (63 - n)) ≤ a / 2 ^ n := by
    have : (-9223372036854775808) / 2 ^ n ≤ a / 2 ^ n := Int.ediv_le_ediv hp h1
    have e2 : (-9223372036854775808 : Int) / 2 ^ n = -(2 ^ (63 - n)) := by
      rw [e, Int.mul_ediv_cancel_left _ (by omega)]
    omega
  have hm := Int.mul_ediv_add_emod a (2 ^ n)
  have hmul : 2 ^ n * (-(2 ^ (63 - n))) ≤ 2 ^ n * (a / 2 ^ n) := Int.mul_le_mul_of_nonneg_left hq (by omega)
  omega
theorem down_any (a n : Int) (ha : I64 a) (hn : 0 < n) (h : n ≤ 2305843009213693952) (hlo : -9223372036854775808 ≤ a - a % n) (w : World) : Calls Tryz.prog 69 #[.int .i64 a, .int .i64 n] w fun e w' => e = .returned (.int .i64 (a / n)) ∧ w = w' := by
  obtain ⟨h1, h2⟩ := ha
  have hz : (n == 0) = false := by simp; omega
  have hm0 := Int.emod_nonneg a (show n ≠ 0 by omega)
  have hd : (a - a % n).tdiv n = a / n := by
    rw [Int.tdiv_eq_ediv_of_dvd (Int.dvd_self_sub_emod)]
    have hm := Int.mul_ediv_add_emod a n
    have : a - a % n = n * (a / n) := by omega
    rw [this, Int.mul_ediv_cancel_left _ (by omega)]
  have HD : Hid ((a - a % n).tdiv n = a / n) := Lib.hid hd
  have hb1 : a - a % n ≤ 9223372036854775807 := by omega
  have hr : n ≠ -1 := by omega
  have HW : Hid (wrap64 ((a - a % n).tdiv n) = a / n) := Lib.hid (by
    rw [hd]
    refine wrap64_id ⟨?_, ?_⟩
    · have h3 : a / n ≥ 0 ∨ a / n < 0 := by omega
      rcases h3 with h3 | h3
      · omega
      · have : n * (a / n) ≤ 1 * (a / n) := Int.mul_le_mul_of_nonpos_right (by omega) (by omega)
        have hm := Int.mul_ediv_add_emod a n
        omega
    · have h3 : a / n ≤ 0 ∨ 0 < a / n := by omega
      rcases h3 with h3 | h3
      · omega
      · have : 1 * (a / n) ≤ n * (a / n) := Int.mul_le_mul_of_nonneg_right (by omega) (by omega)
        have hm := Int.mul_ediv_add_emod a n
        omega)
  clear hd
  go_enter Tryz.func69, Tryz.ntmps69
  go_wp2_with (first | (go_at_call 68; refine (mod_any _ _ hn h _).mono ?_; rintro e w' ⟨rfl, rfl⟩))
  go_ret
  first | exact ⟨ret_int HD.out, rfl⟩ | exact ⟨ret_int HW.out, rfl⟩
theorem rfree_any (a : Int) (w : World) : Calls Tryz.prog 95 #[.int .i64 a] w fun e w' => e = .returned (.int .i64 (wrap64 (2 * a))) ∧ w = w' := by
  go_enter Tryz.func95, Tryz.ntmps95
  go_wp2
  go_ret
  exact ⟨rfl, rfl⟩
theorem rlocked_any (a : Int) (w : World) : Calls Tryz.prog 70 #[.int .i64 a] w fun e w' => e = .returned (.bool (decide (a % 2 = 1))) ∧ w = w' := by
  go_enter Tryz.func70, Tryz.ntmps70
  go_wp2_with (first | (go_at_call 68; refine (mod_any _ _ (by decide) (by decide) _).mono ?_; rintro e w' ⟨rfl, rfl⟩))
  go_ret
  exact ⟨ret_bool (by rfl), rfl⟩
theorem rver_any (a : Int) (ha : I64 a) (w : World) : Calls Tryz.prog 72 #[.int .i64 a] w fun e w' => e = .returned (.int .i64 (a / 2)) ∧ w = w' := by
  have hl := Lib.hid (show -9223372036854775808 ≤ a - a % 2 by unfold I64 at ha; omega)
  have HA := Lib.hid ha
  clear ha
  go_enter Tryz.func72, Tryz.ntmps72
  go_wp2_with (first | (go_at_call 69; refine (down_any _ _ HA.out (by decide) (by decide) hl.out _).mono ?_; rintro e w' ⟨rfl, rfl⟩))
  go_ret
  exact ⟨rfl, rfl⟩
theorem rwho_any (a : Int) (ha : I64 a) (w : World) : Calls Tryz.prog 71 #[.int .i64 a] w fun e w' => e = .returned (.int .i64 (a / 2)) ∧ w = w' := by
  have hl := Lib.hid (show -9223372036854775808 ≤ a - a % 2 by unfold I64 at ha; omega)
  have HA := Lib.hid ha
  clear ha
  go_enter Tryz.func71, Tryz.ntmps71
  go_wp2_with (first | (go_at_call 69; refine (down_any _ _ HA.out (by decide) (by decide) hl.out _).mono ?_; rintro e w' ⟨rfl, rfl⟩))
  go_ret
  exact ⟨rfl, rfl⟩
theorem rwstatus_any (t k : Int) (w : World) : Calls Tryz.prog 94 #[.int .i64 t, .int .i64 k] w fun e w' => e = .returned (.int .i64 (wrap64 (4 * t + k % 4))) ∧ w = w' := by
  go_enter Tryz.func94, Tryz.ntmps94
  go_wp2_with (first | (go_at_call 68; refine (mod_any _ _ (by decide) (by decide) _).mono ?_; rintro e w' ⟨rfl, rfl⟩))
  go_ret
  refine ⟨ret_int ?_, rfl⟩
  unfold wrap64; omega
theorem rtry_any (a : Int) (ha : I64 a) (w : World) : Calls Tryz.prog 92 #[.int .i64 a] w fun e w' => e = .returned (.int .i64 (a / 4)) ∧ w = w' := by
  have hl := Lib.hid (show -9223372036854775808 ≤ a - a % 4 by unfold I64 at ha; omega)
  have HA := Lib.hid ha
  clear ha
  go_enter Tryz.func92, Tryz.ntmps92
  go_wp2_with (first | (go_at_call 69; refine (down_any _ _ HA.out (by decide) (by decide) hl.out _).mono ?_; rintro e w' ⟨rfl, rfl⟩))
  go_ret
  exact ⟨rfl, rfl⟩
theorem rkind_any (a : Int) (w : World) : Calls Tryz.prog 55 #[.int .i64 a] w fun e w' => e = .returned (.int .i64 (a % 4)) ∧ w = w' := by
  go_enter Tryz.func55, Tryz.ntmps55
  go_wp2_with (first | (go_at_call 68; refine (mod_any _ _ (by decide) (by decide) _).mono ?_; rintro e w' ⟨rfl, rfl⟩))
  go_ret
  exact ⟨rfl, rfl⟩
end Go.Proofs.YtfahnmpcclhjlaaGreat

namespace Go.Proofs.YtfahnmpcclhjlaaGreat
set_option linter.unusedVariables false
set_option linter.unusedSectionVars false
open Go.ChangeShapes Go.WideShapes Go.ChangeAt Go.RowKit
def tb (a : Int) (t : Nat) : Bool := a / 2 ^ t % 2 == 1
theorem pow_le61 {t : Nat} (h : t ≤ 61) : (2 : Int) ^ t ≤ 2305843009213693952 := by
  have : (2 : Nat) ^ t ≤ 2 ^ 61 := Nat.pow_le_pow_right (by decide) h
  have h2 : ((2 : Nat) ^ 61 : Nat) = 2305843009213693952 := by decide
  have h3 : ((2 ^ t : Nat) : Int) ≤ ((2305843009213693952 : Nat) : Int) := by exact_mod_cast (h2 ▸ this)
  simpa using h3
theorem ofInt_pow {t : Nat} (h : t ≤ 61) : (BitVec.ofInt 64 (2 ^ t)).toNat = 2 ^ t := by
  have h1 := ofInt_toNat (2 ^ t)
  have h2 := pow_le61 h
  have h3 := pow_pos' t
  have h4 : ((2 : Int) ^ t) % 18446744073709551616 = 2 ^ t := Int.emod_eq_of_lt (by omega) (by omega)
  rw [h4, ← two_pow_cast] at h1
  exact_mod_cast h1
theorem div_bit (a : Int) {t : Nat} (h : t ≤ 61) : (a % 18446744073709551616) / 2 ^ t % 2 = a / 2 ^ t % 2 := by
  have hp := pow_pos' t
  have e : (18446744073709551616 : Int) = 2 ^ t * (2 * 2 ^ (63 - t)) := by
    have : t + (1 + (63 - t)) = 64 := by omega
    have h2 : (2 : Int) ^ t * (2 * 2 ^ (63 - t)) = 2 ^ (t + (1 + (63 - t))) := by rw [Int.pow_add, Int.pow_add]; rfl
    rw [h2, this]; rfl
  have key : a / 2 ^ t = (a % 18446744073709551616) / 2 ^ t + 2 * (2 ^ (63 - t) * (a / 18446744073709551616)) := by
    have h1 : a = a % 18446744073709551616 + 2 ^ t * (2 * (2 ^ (63 - t) * (a / 18446744073709551616))) := by
      have h2 : 2 ^ t * (2 * (2 ^ (63 - t) * (a / 18446744073709551616))) = 18446744073709551616 * (a / 18446744073709551616) := by
        rw [e]; simp only [Int.mul_assoc]
      rw [h2]; omega
    conv => lhs; rw [h1]
    rw [Int.add_mul_ediv_left _ _ (by omega)]
  omega
theorem and_pow (a : Int) {t : Nat} (h : t ≤ 61) : BitVec.ofInt 64 a &&& BitVec.ofInt 64 (2 ^ t) = if tb a t then BitVec.ofInt 64 (2 ^ t) else 0#64 := by
  apply BitVec.eq_of_toNat_eq
  rw [BitVec.toNat_and, ofInt_pow h, nat_bit]
  have e : (((BitVec.ofInt 64 a).toNat / 2 ^ t % 2 : Nat) : Int) = a / 2 ^ t % 2 := by
    push_cast
    rw [ofInt_toNat, div_bit a h]
  have hr : a / 2 ^ t % 2 = 0 ∨ a / 2 ^ t % 2 = 1 := by omega
  unfold tb
  rcases hr with hr | hr
  · rw [hr] at e
    have : (BitVec.ofInt 64 a).toNat / 2 ^ t % 2 = 0 := by exact_mod_cast e
    rw [this, hr]; simp
  · rw [hr] at e
    have : (BitVec.ofInt 64 a).toNat / 2 ^ t % 2 = 1 := by exact_mod_cast e
    rw [this, hr]; simp [ofInt_pow h]
theorem bv_or_of_and {w : Nat} (x y : BitVec w) (h : x &&& y = y) : x ||| y = x := by
  ext i hi
  have := congrArg (fun z : BitVec w => z[i]) h
  simp at this ⊢
  intro hy
  exact this hy
theorem bv_andnot_of_zero {w : Nat} (x y : BitVec w) (h : x &&& y = 0#w) : x &&& ~~~y = x := by
  ext i hi
  have := congrArg (fun z : BitVec w => z[i]) h
  simp at this ⊢
  intro hx
  exact this hx
theorem bv_andnot_add {w : Nat} (x y : BitVec w) (h : x &&& y = y) : (x &&& ~~~y) + y = x := by
  rw [BitVec.add_eq_or_of_and_eq_zero]
  · ext i hi
    have := congrArg (fun z : BitVec w => z[i]) h
    simp at this ⊢
    cases hx : x[i] <;> cases hy : y[i] <;> simp_all
  · ext i hi
    simp
theorem wrap_toNat_add (x y : BitVec 64) : wrap64 (((x + y).toNat : Nat) : Int) = wrap64 ((x.toNat : Int) + (y.toNat : Int)) := by
  rw [BitVec.toNat_add]; unfold wrap64; omega
theorem wrap_add_ofInt (a b : Int) : wrap64 (((BitVec.ofInt 64 a).toNat : Int) + ((BitVec.ofInt 64 b).toNat : Int)) = wrap64 (a + b) := by
  rw [ofInt_toNat, ofInt_toNat]; unfold wrap64; omega
theorem add_pow_in {a : Int} (h : I64 a) {t : Nat} (ht : t ≤ 61) (hb : tb a t = false) : I64 (a + 2 ^ t) := by
  obtain ⟨h1, h2⟩ := h
  have hp := pow_pos' t
  refine ⟨by omega, ?_⟩
  -- a + 2^t ≤ max: the bit t of max is set
  have e : (9223372036854775807 : Int) = 2 ^ t * (2 * 2 ^ (62 - t) - 1) + (2 ^ t - 1) := by
    have : t + (1 + (62 - t)) = 63 := by omega
    have h2 : (2 : Int) ^ t * (2 * 2 ^ (62 - t)) = 2 ^ (t + (1 + (62 - t))) := by rw [Int.pow_add, Int.pow_add]; rfl
    rw [Int.mul_sub, h2, this, Int.mul_one]
    have : (2 : Int) ^ 63 = 9223372036854775808 := by decide
    rw [this]; omega
  have hq : a / 2 ^ t ≤ 2 * 2 ^ (62 - t) - 1 := by
    have : a / 2 ^ t ≤ 9223372036854775807 / 2 ^ t := Int.ediv_le_ediv hp h2
    have e2 : (9223372036854775807 : Int) / 2 ^ t = 2 * 2 ^ (62 - t) - 1 := by
      rw [e, Int.add_comm, Int.add_mul_ediv_left _ _ (by omega), Int.ediv_eq_zero_of_lt (by omega) (by omega)]; omega
    omega
  have hbit : a / 2 ^ t % 2 ≠ 1 := by
    intro hc; unfold tb at hb; rw [hc] at hb; simp at hb
  have hq2 : a / 2 ^ t ≤ 2 * 2 ^ (62 - t) - 2 := by omega
  have hm := Int.mul_ediv_add_emod a (2 ^ t)
  have hl := Int.emod_lt_of_pos a hp
  have hmul : 2 ^ t * (a / 2 ^ t) ≤ 2 ^ t * (2 * 2 ^ (62 - t) - 2) := Int.mul_le_mul_of_nonneg_left hq2 (by omega)
  have hx : (2 : Int) ^ t * (2 * 2 ^ (62 - t) - 2) = 2 ^ t * (2 * 2 ^ (62 - t) - 1) - 2 ^ t := by
    rw [Int.mul_sub, Int.mul_sub, Int.mul_one]; omega
  omega
theorem sub_pow_in {a : Int} (h : I64 a) {t : Nat} (ht : t ≤ 61) (hb : tb a t = true) : I64 (a - 2 ^ t) := by
  obtain ⟨h1, h2⟩ := h
  have hp := pow_pos' t
  refine ⟨?_, by omega⟩
  have e : (-9223372036854775808 : Int) = 2 ^ t * (2 * (-(2 ^ (62 - t)))) := by
    have : t + (1 + (62 - t)) = 63 := by omega
    have h2 : (2 : Int) ^ t * (2 * (-(2 ^ (62 - t)))) = - 2 ^ (t + (1 + (62 - t))) := by rw [Int.pow_add, Int.pow_add, Int.mul_neg, Int.mul_neg]; rfl
    rw [h2, this]; decide
  have hq : 2 * (-(2 ^ (62 - t))) ≤ a / 2 ^ t := by
    have : (-9223372036854775808) / 2 ^ t ≤ a / 2 ^ t := Int.ediv_le_ediv hp h1
    have e2 : (-9223372036854775808 : Int) / 2 ^ t = 2 * (-(2 ^ (62 - t))) := by
      rw [e, Int.mul_ediv_cancel_left _ (by omega)]
    omega
  have hbit : a / 2 ^ t % 2 = 1 := by unfold tb at hb; simpa using hb
  have hq2 : 2 * (-(2 ^ (62 - t))) + 1 ≤ a / 2 ^ t := by omega
  have hm := Int.mul_ediv_add_emod a (2 ^ t)
  have hl := Int.emod_nonneg a (show (2 : Int) ^ t ≠ 0 by omega)
  have hmul : 2 ^ t * (2 * (-(2 ^ (62 - t))) + 1) ≤ 2 ^ t * (a / 2 ^ t) := Int.mul_le_mul_of_nonneg_left hq2 (by omega)
  have hx : (2 : Int) ^ t * (2 * (-(2 ^ (62 - t))) + 1) = 2 ^ t * (2 * (-(2 ^ (62 - t)))) + 2 ^ t := by
    rw [Int.mul_add, Int.mul_one]
  omega
theorem bits_or_pow {a : Int} (ha : I64 a) {t : Nat} (h : t ≤ 61) : bits .or .i64 a (2 ^ t) = if tb a t then a else a + 2 ^ t := by
  rw [bits_i64]
  show wrap64 (((BitVec.ofInt 64 a ||| BitVec.ofInt 64 (2 ^ t)).toNat : Nat) : Int) = _
  have e := and_pow a h
  cases hb : tb a t
  · rw [hb] at e
    simp only [Bool.false_eq_true, if_false] at e ⊢
    rw [← BitVec.add_eq_or_of_and_eq_zero _ _ e, wrap_toNat_add, wrap_add_ofInt]
    exact wrap64_id (add_pow_in ha h hb)
  · rw [hb] at e
    simp only [if_true] at e ⊢
    rw [bv_or_of_and _ _ e]
    exact wrap_ofInt ha
theorem bits_andNot_pow {a : Int} (ha : I64 a) {t : Nat} (h : t ≤ 61) : bits .andNot .i64 a (2 ^ t) = if tb a t then a - 2 ^ t else a := by
  rw [bits_i64]
  show wrap64 (((BitVec.ofInt 64 a &&& ~~~BitVec.ofInt 64 (2 ^ t)).toNat : Nat) : Int) = _
  have e := and_pow a h
  cases hb : tb a t
  · rw [hb] at e
    simp only [Bool.false_eq_true, if_false] at e ⊢
    rw [bv_andnot_of_zero _ _ e]
    exact wrap_ofInt ha
  · rw [hb] at e
    simp only [if_true] at e ⊢
    have e2 := bv_andnot_add _ _ e
    have e3 : wrap64 ((((BitVec.ofInt 64 a &&& ~~~BitVec.ofInt 64 (2 ^ t)) + BitVec.ofInt 64 (2 ^ t)).toNat : Nat) : Int) = a := by rw [e2]; exact wrap_ofInt ha
    rw [wrap_toNat_add, ofInt_pow h, two_pow_cast] at e3
    have hi := sub_pow_in ha h hb
    have hp := pow_pos' t
    have hq := pow_le61 h
    obtain ⟨i1, i2⟩ := hi
    obtain ⟨j1, j2⟩ := ha
    unfold wrap64 at e3 ⊢
    omega
theorem bits_or_zero {a : Int} (ha : I64 a) : bits .or .i64 a 0 = a := by
  rw [bits_i64]
  show wrap64 (((BitVec.ofInt 64 a ||| BitVec.ofInt 64 0).toNat : Nat) : Int) = _
  have : BitVec.ofInt 64 a ||| BitVec.ofInt 64 0 = BitVec.ofInt 64 a := by simp
  rw [this]; exact wrap_ofInt ha
theorem bits_andNot_zero {a : Int} (ha : I64 a) : bits .andNot .i64 a 0 = a := by
  rw [bits_i64]
  show wrap64 (((BitVec.ofInt 64 a &&& ~~~BitVec.ofInt 64 0).toNat : Nat) : Int) = _
  have : BitVec.ofInt 64 a &&& ~~~BitVec.ofInt 64 0 = BitVec.ofInt 64 a := bv_andnot_of_zero _ _ (by simp)
  rw [this]; exact wrap_ofInt ha
def pw (t : Int) : Int := if 0 ≤ t ∧ t ≤ 61 then 2 ^ t.toNat else 0
theorem pw_in {t : Nat} (h : t ≤ 61) : pw t = 2 ^ t := by unfold pw; rw [if_pos (by omega)]; simp
theorem pw_out {t : Int} (h : ¬ (0 ≤ t ∧ t ≤ 61)) : pw t = 0 := by unfold pw; rw [if_neg h]
theorem single_any (t : Int) (w : World) : Calls Tryz.prog 102 #[.int .i64 t] w fun e w' => e = .returned (.int .i64 (pw t)) ∧ w = w' := by
  by_cases h : 0 ≤ t ∧ t ≤ 61
  · obtain ⟨n, rfl⟩ := Int.eq_ofNat_of_zero_le h.1
    have ht : n ≤ 61 := by omega
    have hp := pow_le61 ht
    have hp0 := pow_pos' n
    have HE := Lib.hid (pw_in ht)
    go_enter Tryz.func102, Tryz.ntmps102
    go_wp2
    go_ret
    exact ⟨ret_int HE.out.symm, rfl⟩
  · have HE := Lib.hid (pw_out h)
    by_cases h0 : t < 0
    · go_enter Tryz.func102, Tryz.ntmps102
      go_wp2
      go_ret
      exact ⟨ret_int HE.out.symm, rfl⟩
    · have h1 : 61 < t := by omega
      have h2 : 0 ≤ t := by omega
      clear h h0
      go_enter Tryz.func102, Tryz.ntmps102
      go_wp2
      go_ret
      exact ⟨ret_int HE.out.symm, rfl⟩
def isIn (m t : Int) : Bool := decide (0 ≤ t ∧ t ≤ 61) && tb m t.toNat
theorem isIn_in (m : Int) {t : Nat} (h : t ≤ 61) : isIn m t = tb m t := by
  unfold isIn; rw [decide_eq_true (by omega : (0 : Int) ≤ t ∧ (t : Int) ≤ 61)]; simp
theorem isIn_out (m : Int) {t : Int} (h : ¬ (0 ≤ t ∧ t ≤ 61)) : isIn m t = false := by
  unfold isIn; rw [decide_eq_false h]; rfl
def withT (m t : Int) : Int := if isIn m t then m else m + pw t
def sansT (m t : Int) : Int := if isIn m t then m - pw t else m
theorem or_pw {m : Int} (hm : I64 m) (t : Int) : bits .or .i64 m (pw t) = withT m t := by
  unfold withT
  by_cases h : 0 ≤ t ∧ t ≤ 61
  · obtain ⟨n, rfl⟩ := Int.eq_ofNat_of_zero_le h.1
    have ht : n ≤ 61 := by omega
    rw [pw_in ht, isIn_in m ht, bits_or_pow hm ht]
  · rw [pw_out h, isIn_out m h, bits_or_zero hm]; simp
theorem andNot_pw {m : Int} (hm : I64 m) (t : Int) : bits .andNot .i64 m (pw t) = sansT m t := by
  unfold sansT
  by_cases h : 0 ≤ t ∧ t ≤ 61
  · obtain ⟨n, rfl⟩ := Int.eq_ofNat_of_zero_le h.1
    have ht : n ≤ 61 := by omega
    rw [pw_in ht, isIn_in m ht, bits_andNot_pow hm ht]
  · rw [pw_out h, isIn_out m h, bits_andNot_zero hm]; simp
section
variable (m t : Int) (hm : I64 m) (w : World)
include m t hm w
theorem add_any : Calls Tryz.prog 100 #[.int .i64 m, .int .i64 t] w fun e w' => e = .returned (.int .i64 (withT m t)) ∧ w = w' := by
  have HE := Lib.hid (or_pw hm t)
  go_enter Tryz.func100, Tryz.ntmps100
  go_wp2_with (first | (go_at_call 102; refine (single_any _ _).mono ?_; rintro e w' ⟨rfl, rfl⟩))
  go_ret
  exact ⟨ret_int HE.out, rfl⟩
theorem remove_any : Calls Tryz.prog 101 #[.int .i64 m, .int .i64 t] w fun e w' => e = .returned (.int .i64 (sansT m t)) ∧ w = w' := by
  have HE := Lib.hid (andNot_pw hm t)
  go_enter Tryz.func101, Tryz.ntmps101
  go_wp2_with (first | (go_at_call 102; refine (single_any _ _).mono ?_; rintro e w' ⟨rfl, rfl⟩))
  go_ret
  exact ⟨ret_int HE.out, rfl⟩
theorem wwith_any : Calls Tryz.prog 96 #[.int .i64 m, .int .i64 t] w fun e w' => e = .returned (.int .i64 (withT m t)) ∧ w = w' := by
  have HM := Lib.hid hm
  clear hm
  go_enter Tryz.func96, Tryz.ntmps96
  go_wp2_with (first | (go_at_call 100; refine (add_any _ _ HM.out _).mono ?_; rintro e w' ⟨rfl, rfl⟩) | go_in)
  go_ret
  exact ⟨rfl, rfl⟩
theorem wwithout_any : Calls Tryz.prog 97 #[.int .i64 m, .int .i64 t] w fun e w' => e = .returned (.int .i64 (sansT m t)) ∧ w = w' := by
  have HM := Lib.hid hm
  clear hm
  go_enter Tryz.func97, Tryz.ntmps97
  go_wp2_with (first | (go_at_call 101; refine (remove_any _ _ HM.out _).mono ?_; rintro e w' ⟨rfl, rfl⟩) | go_in)
  go_ret
  exact ⟨rfl, rfl⟩
end
theorem rbit_any (t : Int) (w : World) : Calls Tryz.prog 67 #[.int .i64 t] w fun e w' => e = .returned (.int .i64 (pw t)) ∧ w = w' := by
  by_cases h : 0 ≤ t ∧ t ≤ 61
  · obtain ⟨n, rfl⟩ := Int.eq_ofNat_of_zero_le h.1
    have ht : n ≤ 61 := by omega
    have HE := Lib.hid (pw_in ht)
    clear h
    go_enter Tryz.func67, Tryz.ntmps67
    go_wp2
    go_loop [3, 4] (fun p i => ∃ k : Nat, k ≤ n ∧ i = .int .i64 k ∧ p = .int .i64 (2 ^ k)) (fun _ i => n - (intOf i).toNat)
    case atStart => exact ⟨0, Nat.zero_le _, rfl, rfl⟩
    case round =>
      obtain ⟨k, hk, rfl, rfl⟩ := hrel
      have hp := pow_le61 (show k ≤ 61 by omega)
      have hp0 := pow_pos' k
      by_cases hlt : k < n
      · go_wp2
        go_round
        case rel => exact ⟨k + 1, by omega, by go_num, by rw [Int.pow_succ, Int.mul_comm]⟩
        case measure => simp [intOf]; omega
      · obtain rfl : k = n := by omega
        go_wp2
        go_ret
        exact ⟨ret_int HE.out.symm, rfl⟩
  · have HE := Lib.hid (pw_out h)
    by_cases h0 : t < 0
    · go_enter Tryz.func67, Tryz.ntmps67
      go_wp2
      go_ret
      exact ⟨ret_int HE.out.symm, rfl⟩
    · have h1 : 61 < t := by omega
      have h2 : 0 ≤ t := by omega
      clear h h0
      go_enter Tryz.func67, Tryz.ntmps67
      go_wp2
      go_ret
      exact ⟨ret_int HE.out.symm, rfl⟩
theorem rin_any (m t : Int) (hm : I64 m) (w : World) : Calls Tryz.prog 49 #[.int .i64 m, .int .i64 t] w fun e w' => e = .returned (.bool (isIn m t)) ∧ w = w' := by
  by_cases h : 0 ≤ t ∧ t ≤ 61
  · obtain ⟨n, rfl⟩ := Int.eq_ofNat_of_zero_le h.1
    have ht : n ≤ 61 := by omega
    have HE := Lib.hid (isIn_in m ht)
    have hp := pow_le61 ht
    have hp0 := pow_pos' n
    have HP := Lib.hid (pw_in ht)
    have hpp : 0 < pw n := by rw [pw_in ht]; exact hp0
    have hpl : pw n ≤ 2305843009213693952 := by rw [pw_in ht]; exact hp
    have HL : Hid (-9223372036854775808 ≤ m - m % pw n) := Lib.hid (by rw [pw_in ht]; exact down_lo hm ht)
    have HM := Lib.hid hm
    clear h hm
    go_enter Tryz.func49, Tryz.ntmps49
    go_wp2_with (first | (go_at_call 67; refine (rbit_any _ _).mono ?_; rintro e w' ⟨rfl, rfl⟩) | (go_at_call 69; refine (down_any _ _ HM.out hpp hpl HL.out _).mono ?_; rintro e w' ⟨rfl, rfl⟩) | (go_at_call 68; refine (mod_any _ _ (by decide) (by decide) _).mono ?_; rintro e w' ⟨rfl, rfl⟩))
    go_ret
    refine ⟨ret_bool ?_, rfl⟩
    rw [HE.out, HP.out]
    rfl
  · have HE := Lib.hid (isIn_out m h)
    have HP := Lib.hid (pw_out h)
    clear h
    go_enter Tryz.func49, Tryz.ntmps49
    go_wp2_with (first | (go_at_call 67; refine (rbit_any _ _).mono ?_; rw [HP.out]; rintro e w' ⟨rfl, rfl⟩))
    go_ret
    exact ⟨ret_bool HE.out.symm, rfl⟩
theorem rwith_any (m t : Int) (hm : I64 m) (w : World) : Calls Tryz.prog 51 #[.int .i64 m, .int .i64 t] w fun e w' => e = .returned (.int .i64 (withT m t)) ∧ w = w' := by
  have HM := Lib.hid hm
  have HV : Hid (I64 (withT m t)) := Lib.hid (by rw [← or_pw hm t, bits_i64]; exact i64_wrap64 _)
  clear hm
  cases hb : isIn m t
  · have HW : Hid (withT m t = m + pw t) := Lib.hid (by unfold withT; rw [hb]; rfl)
    have hb1 : -9223372036854775808 ≤ m + pw t := by have := HV.out; rw [HW.out] at this; exact this.1
    have hb2 : m + pw t ≤ 9223372036854775807 := by have := HV.out; rw [HW.out] at this; exact this.2
    go_enter Tryz.func51, Tryz.ntmps51
    go_wp2_with (first | (go_at_call 49; refine (rin_any _ _ HM.out _).mono ?_; rintro e w' ⟨rfl, rfl⟩) | (go_at_call 67; refine (rbit_any _ _).mono ?_; rintro e w' ⟨rfl, rfl⟩))
    go_ret
    exact ⟨ret_int HW.out.symm, rfl⟩
  · have HW : Hid (withT m t = m) := Lib.hid (by unfold withT; rw [hb]; rfl)
    go_enter Tryz.func51, Tryz.ntmps51
    go_wp2_with (first | (go_at_call 49; refine (rin_any _ _ HM.out _).mono ?_; rintro e w' ⟨rfl, rfl⟩) | (go_at_call 67; refine (rbit_any _ _).mono ?_; rintro e w' ⟨rfl, rfl⟩))
    go_ret
    exact ⟨ret_int HW.out.symm, rfl⟩
theorem rwithout_any (m t : Int) (hm : I64 m) (w : World) : Calls Tryz.prog 56 #[.int .i64 m, .int .i64 t] w fun e w' => e = .returned (.int .i64 (sansT m t)) ∧ w = w' := by
  have HM := Lib.hid hm
  have HV : Hid (I64 (sansT m t)) := Lib.hid (by rw [← andNot_pw hm t, bits_i64]; exact i64_wrap64 _)
  clear hm
  cases hb : isIn m t
  · have HW : Hid (sansT m t = m) := Lib.hid (by unfold sansT; rw [hb]; rfl)
    go_enter Tryz.func56, Tryz.ntmps56
    go_wp2_with (first | (go_at_call 49; refine (rin_any _ _ HM.out _).mono ?_; rintro e w' ⟨rfl, rfl⟩) | (go_at_call 67; refine (rbit_any _ _).mono ?_; rintro e w' ⟨rfl, rfl⟩))
    go_ret
    exact ⟨ret_int HW.out.symm, rfl⟩
  · have HW : Hid (sansT m t = m - pw t) := Lib.hid (by unfold sansT; rw [hb]; rfl)
    have hb1 : -9223372036854775808 ≤ m - pw t := by have := HV.out; rw [HW.out] at this; exact this.1
    have hb2 : m - pw t ≤ 9223372036854775807 := by have := HV.out; rw [HW.out] at this; exact this.2
    go_enter Tryz.func56, Tryz.ntmps56
    go_wp2_with (first | (go_at_call 49; refine (rin_any _ _ HM.out _).mono ?_; rintro e w' ⟨rfl, rfl⟩) | (go_at_call 67; refine (rbit_any _ _).mono ?_; rintro e w' ⟨rfl, rfl⟩))
    go_ret
    exact ⟨ret_int HW.out.symm, rfl⟩
def bv (a : Int) : BitVec 64 := BitVec.ofInt 64 a
end Go.Proofs.YtfahnmpcclhjlaaGreat

namespace Go.Proofs.YtfahnmpcclhjlaaGreat
set_option linter.unusedSectionVars false
open Go.ChangeShapes Go.WideShapes Go.ChangeAt Go.RowKit
def cellN (e c s f o : Int) : Int := if e < 0 ∨ c ≤ e then -1 else f + e * s + o
set_option maxHeartbeats 800000 in
theorem cell4_any (e c f o : Int) (w : World) (b q : Nat) (cap : Nat) (hc : c ≤ 64) (hf : 0 ≤ f ∧ f ≤ 1000) (ho : 0 ≤ o ∧ o ≤ 3) (hcell : w.cell? ⟨b, q, none⟩ = some (.int .i64 o)) :
    Calls Tryz.prog 25 #[.int .i64 e, .int .i64 c, .int .i64 4, .int .i64 f, .slice (some ⟨b, q, none⟩) 1 cap] w fun e' w' => e' = .returned (.int .i64 (cellN e c 4 f o)) ∧ w = w' := by
  obtain ⟨f1, f2⟩ := hf
  obtain ⟨o1, o2⟩ := ho
  by_cases h : e < 0 ∨ c ≤ e
  · have HE := Lib.hid (show cellN e c 4 f o = -1 by unfold cellN; rw [if_pos h])
    by_cases h1 : e < 0
    · clear h
      go_enter Tryz.func25, Tryz.ntmps25
      go_wp2
      go_ret
      exact ⟨ret_int HE.out.symm, rfl⟩
    · have h1' : 0 ≤ e := by omega
      have h2 : c ≤ e := by omega
      clear h h1
      go_enter Tryz.func25, Tryz.ntmps25
      go_wp2
      go_ret
      exact ⟨ret_int HE.out.symm, rfl⟩
  · have HE := Lib.hid (show cellN e c 4 f o = f + e * 4 + o by unfold cellN; rw [if_neg h])
    have h1 : 0 ≤ e := by omega
    have h2 : e < c := by omega
    have h3 : e ≤ 63 := by omega
    clear h
    go_enter Tryz.func25, Tryz.ntmps25
    go_wp2
    go_loop [11, 28] (fun a i => (i = .int .i64 0 ∧ a = .int .i64 (f + e * 4)) ∨ (i = .int .i64 1 ∧ a = .int .i64 (f + e * 4 + o))) (fun _ i => (1 - intOf i).toNat)
    case atStart => exact Or.inl ⟨rfl, rfl⟩
    case round =>
      rcases hrel with ⟨rfl, rfl⟩ | ⟨rfl, rfl⟩
      · go_wp2
        go_round
        case rel => exact Or.inr ⟨rfl, rfl⟩
        case measure => simp [intOf]
      · go_wp2
        go_ret
        exact ⟨ret_int HE.out.symm, rfl⟩
structure Cf where
  t : Int
  l : Int
  k : Int
  s : Int
  m : Int
def Cf.v (c : Cf) : Value := .agg #[.int .i64 c.t, .int .i64 c.l, .int .i64 c.k, .int .i64 c.s, .int .i64 c.m]
structure Ly where
  c : Cf
  clock : Int
  stamps : Int
  log : Int
  fin : Int
  thread : Int
  lock : Int
  loc : Int
  size : Int
def Ly.v (l : Ly) : Value := .agg #[.int .i64 l.c.t, .int .i64 l.c.l, .int .i64 l.c.k, .int .i64 l.c.s, .int .i64 l.c.m, .int .i64 l.clock, .int .i64 l.stamps, .int .i64 l.log, .int .i64 l.fin, .int .i64 l.thread, .int .i64 l.lock, .int .i64 l.loc, .int .i64 l.size]
def Ly.ok (l : Ly) : Prop := l.c.t ≤ 64 ∧ l.c.l ≤ 64 ∧ l.c.k ≤ 64 ∧ 0 ≤ l.thread ∧ l.thread ≤ 1000 ∧ 0 ≤ l.loc ∧ l.loc ≤ 1000 ∧ 0 ≤ l.lock ∧ l.lock ≤ 1000
def atStatus (l : Ly) (n : Int) : Int := cellN n l.c.t 4 l.thread 0
theorem status_any (l : Ly) (n : Int) (w : World) (hok : l.ok) :
    Calls Tryz.prog 14 #[l.v, .int .i64 n] w fun e' w' => e' = .returned (.int .i64 (atStatus l n)) ∧ Below w.heap.size w w' := by
  obtain ⟨h1, h2, h3, h4, h5, h6, h7, h8, h9⟩ := hok
  unfold Ly.v atStatus
  go_enter Tryz.func14, Tryz.ntmps14
  go_wp2_with fail
  refine (cell4_any _ _ _ 0 _ _ _ _ (by assumption) ⟨by assumption, by assumption⟩ (by omega) (by rw [World.cell?_alloc_at _ _ _ _ (by simp)]; rfl)).mono ?_
  rintro e' w' ⟨rfl, rfl⟩
  go_wp2
  go_ret
  exact ⟨rfl, ((Below.refl _ _).alloc (Nat.le_refl _) _).alloc (by simp) _⟩
def atStamp (l : Ly) (n : Int) : Int := cellN n l.c.t 4 l.thread 1
theorem stamp_any (l : Ly) (n : Int) (w : World) (hok : l.ok) :
    Calls Tryz.prog 86 #[l.v, .int .i64 n] w fun e' w' => e' = .returned (.int .i64 (atStamp l n)) ∧ Below w.heap.size w w' := by
  obtain ⟨h1, h2, h3, h4, h5, h6, h7, h8, h9⟩ := hok
  unfold Ly.v atStamp
  go_enter Tryz.func86, Tryz.ntmps86
  go_wp2_with fail
  refine (cell4_any _ _ _ 1 _ _ _ _ (by assumption) ⟨by assumption, by assumption⟩ (by omega) (by rw [World.cell?_alloc_at _ _ _ _ (by simp)]; rfl)).mono ?_
  rintro e' w' ⟨rfl, rfl⟩
  go_wp2
  go_ret
  exact ⟨rfl, ((Below.refl _ _).alloc (Nat.le_refl _) _).alloc (by simp) _⟩
def atKarma (l : Ly) (n : Int) : Int := cellN n l.c.t 4 l.thread 3
theorem karma_any (l : Ly) (n : Int) (w : World) (hok : l.ok) :
    Calls Tryz.prog 87 #[l.v, .int .i64 n] w fun e' w' => e' = .returned (.int .i64 (atKarma l n)) ∧ Below w.heap.size w w' := by
  obtain ⟨h1, h2, h3, h4, h5, h6, h7, h8, h9⟩ := hok
  unfold Ly.v atKarma
  go_enter Tryz.func87, Tryz.ntmps87
  go_wp2_with fail
  refine (cell4_any _ _ _ 3 _ _ _ _ (by assumption) ⟨by assumption, by assumption⟩ (by omega) (by rw [World.cell?_alloc_at _ _ _ _ (by simp)]; rfl)).mono ?_
  rintro e' w' ⟨rfl, rfl⟩
  go_wp2
  go_ret
  exact ⟨rfl, ((Below.refl _ _).alloc (Nat.le_refl _) _).alloc (by simp) _⟩
def atWord (l : Ly) (n : Int) : Int := cellN n l.c.l 4 l.loc 0
theorem word_any (l : Ly) (n : Int) (w : World) (hok : l.ok) :
    Calls Tryz.prog 13 #[l.v, .int .i64 n] w fun e' w' => e' = .returned (.int .i64 (atWord l n)) ∧ Below w.heap.size w w' := by
  obtain ⟨h1, h2, h3, h4, h5, h6, h7, h8, h9⟩ := hok
  unfold Ly.v atWord
  go_enter Tryz.func13, Tryz.ntmps13
  go_wp2_with fail
  refine (cell4_any _ _ _ 0 _ _ _ _ (by assumption) ⟨by assumption, by assumption⟩ (by omega) (by rw [World.cell?_alloc_at _ _ _ _ (by simp)]; rfl)).mono ?_
  rintro e' w' ⟨rfl, rfl⟩
  go_wp2
  go_ret
  exact ⟨rfl, ((Below.refl _ _).alloc (Nat.le_refl _) _).alloc (by simp) _⟩
def atVal (l : Ly) (n : Int) : Int := cellN n l.c.l 4 l.loc 1
theorem val_any (l : Ly) (n : Int) (w : World) (hok : l.ok) :
    Calls Tryz.prog 43 #[l.v, .int .i64 n] w fun e' w' => e' = .returned (.int .i64 (atVal l n)) ∧ Below w.heap.size w w' := by
  obtain ⟨h1, h2, h3, h4, h5, h6, h7, h8, h9⟩ := hok
  unfold Ly.v atVal
  go_enter Tryz.func43, Tryz.ntmps43
  go_wp2_with fail
  refine (cell4_any _ _ _ 1 _ _ _ _ (by assumption) ⟨by assumption, by assumption⟩ (by omega) (by rw [World.cell?_alloc_at _ _ _ _ (by simp)]; rfl)).mono ?_
  rintro e' w' ⟨rfl, rfl⟩
  go_wp2
  go_ret
  exact ⟨rfl, ((Below.refl _ _).alloc (Nat.le_refl _) _).alloc (by simp) _⟩
def atReaders (l : Ly) (n : Int) : Int := cellN n l.c.l 4 l.loc 2
section
variable (l : Ly)
include l
theorem readers_any (n : Int) (w : World) (hok : l.ok) :
    Calls Tryz.prog 75 #[l.v, .int .i64 n] w fun e' w' => e' = .returned (.int .i64 (atReaders l n)) ∧ Below w.heap.size w w' := by
  obtain ⟨h1, h2, h3, h4, h5, h6, h7, h8, h9⟩ := hok
  unfold Ly.v atReaders
  go_enter Tryz.func75, Tryz.ntmps75
  go_wp2_with fail
  refine (cell4_any _ _ _ 2 _ _ _ _ (by assumption) ⟨by assumption, by assumption⟩ (by omega) (by rw [World.cell?_alloc_at _ _ _ _ (by simp)]; rfl)).mono ?_
  rintro e' w' ⟨rfl, rfl⟩
  go_wp2
  go_ret
  exact ⟨rfl, ((Below.refl _ _).alloc (Nat.le_refl _) _).alloc (by simp) _⟩
set_option maxHeartbeats 800000 in
theorem rthread_any (n o : Int) (w : World) (hok : l.ok) (ho : 0 ≤ o ∧ o ≤ 3) :
    Calls Tryz.prog 30 #[l.v, .int .i64 n, .int .i64 o] w fun e' w' => e' = .returned (.int .i64 (cellN n l.c.t 4 l.thread o)) ∧ Below w.heap.size w w' := by
  obtain ⟨h1, h2, h3, h4, h5, h6, h7, h8, h9⟩ := hok
  obtain ⟨o1, o2⟩ := ho
  by_cases h : n < 0 ∨ l.c.t ≤ n
  · have HE := Lib.hid (show cellN n l.c.t 4 l.thread o = -1 by unfold cellN; rw [if_pos h])
    unfold Ly.v
    by_cases g : n < 0
    · clear h
      go_enter Tryz.func30, Tryz.ntmps30
      go_wp2
      go_ret
      exact ⟨ret_int HE.out.symm, (Below.refl _ _).alloc (Nat.le_refl _) _⟩
    · have g1 : 0 ≤ n := by omega
      have g2 : l.c.t ≤ n := by omega
      have g3 : decide (n < 0) = false := by simpa using g1
      clear h g
      go_enter Tryz.func30, Tryz.ntmps30
      go_wp2
      go_ret
      exact ⟨ret_int HE.out.symm, (Below.refl _ _).alloc (Nat.le_refl _) _⟩
  · have HE := Lib.hid (show cellN n l.c.t 4 l.thread o = l.thread + 4 * n + o by unfold cellN; rw [if_neg h]; omega)
    unfold Ly.v
    have g1 : 0 ≤ n := by omega
    have g2 : n < l.c.t := by omega
    have g3 : n ≤ 63 := by omega
    clear h
    go_enter Tryz.func30, Tryz.ntmps30
    go_wp2
    go_ret
    exact ⟨ret_int HE.out.symm, (Below.refl _ _).alloc (Nat.le_refl _) _⟩
set_option maxHeartbeats 800000 in
theorem rloc_any (n o : Int) (w : World) (hok : l.ok) (ho : 0 ≤ o ∧ o ≤ 3) :
    Calls Tryz.prog 23 #[l.v, .int .i64 n, .int .i64 o] w fun e' w' => e' = .returned (.int .i64 (cellN n l.c.l 4 l.loc o)) ∧ Below w.heap.size w w' := by
  obtain ⟨h1, h2, h3, h4, h5, h6, h7, h8, h9⟩ := hok
  obtain ⟨o1, o2⟩ := ho
  by_cases h : n < 0 ∨ l.c.l ≤ n
  · have HE := Lib.hid (show cellN n l.c.l 4 l.loc o = -1 by unfold cellN; rw [if_pos h])
    unfold Ly.v
    by_cases g : n < 0
    · clear h
      go_enter Tryz.func23, Tryz.ntmps23
      go_wp2
      go_ret
      exact ⟨ret_int HE.out.symm, (Below.refl _ _).alloc (Nat.le_refl _) _⟩
    · have g1 : 0 ≤ n := by omega
      have g2 : l.c.l ≤ n := by omega
      have g3 : decide (n < 0) = false := by simpa using g1
      clear h g
      go_enter Tryz.func23, Tryz.ntmps23
      go_wp2
      go_ret
      exact ⟨ret_int HE.out.symm, (Below.refl _ _).alloc (Nat.le_refl _) _⟩
  · have HE := Lib.hid (show cellN n l.c.l 4 l.loc o = l.loc + 4 * n + o by unfold cellN; rw [if_neg h]; omega)
    unfold Ly.v
    have g1 : 0 ≤ n := by omega
    have g2 : n < l.c.l := by omega
    have g3 : n ≤ 63 := by omega
    clear h
    go_enter Tryz.func23, Tryz.ntmps23
    go_wp2
    go_ret
    exact ⟨ret_int HE.out.symm, (Below.refl _ _).alloc (Nat.le_refl _) _⟩
section
variable (n : Int) (w : World) (hok : l.ok)
include n w hok
theorem rstatus_any :
    Calls Tryz.prog 19 #[l.v, .int .i64 n] w fun e' w' => e' = .returned (.int .i64 (atStatus l n)) ∧ Below w.heap.size w w' := by
  have H := Lib.hid (fun w => rthread_any l n 0 w hok (by omega))
  unfold Ly.v at H ⊢
  go_enter Tryz.func19, Tryz.ntmps19
  go_wp2_with fail
  refine (H.out _).mono ?_
  rintro e' w' ⟨rfl, hb⟩
  go_wp2
  go_ret
  exact ⟨rfl, ((Below.refl _ _).alloc (Nat.le_refl _) _).trans (hb.mono (by simp))⟩
theorem rstamp_any :
    Calls Tryz.prog 90 #[l.v, .int .i64 n] w fun e' w' => e' = .returned (.int .i64 (atStamp l n)) ∧ Below w.heap.size w w' := by
  have H := Lib.hid (fun w => rthread_any l n 1 w hok (by omega))
  unfold Ly.v at H ⊢
  go_enter Tryz.func90, Tryz.ntmps90
  go_wp2_with fail
  refine (H.out _).mono ?_
  rintro e' w' ⟨rfl, hb⟩
  go_wp2
  go_ret
  exact ⟨rfl, ((Below.refl _ _).alloc (Nat.le_refl _) _).trans (hb.mono (by simp))⟩
theorem rkarma_any :
    Calls Tryz.prog 91 #[l.v, .int .i64 n] w fun e' w' => e' = .returned (.int .i64 (atKarma l n)) ∧ Below w.heap.size w w' := by
  have H := Lib.hid (fun w => rthread_any l n 3 w hok (by omega))
  unfold Ly.v at H ⊢
  go_enter Tryz.func91, Tryz.ntmps91
  go_wp2_with fail
  refine (H.out _).mono ?_
  rintro e' w' ⟨rfl, hb⟩
  go_wp2
  go_ret
  exact ⟨rfl, ((Below.refl _ _).alloc (Nat.le_refl _) _).trans (hb.mono (by simp))⟩
theorem rword_any :
    Calls Tryz.prog 10 #[l.v, .int .i64 n] w fun e' w' => e' = .returned (.int .i64 (atWord l n)) ∧ Below w.heap.size w w' := by
  have H := Lib.hid (fun w => rloc_any l n 0 w hok (by omega))
  unfold Ly.v at H ⊢
  go_enter Tryz.func10, Tryz.ntmps10
  go_wp2_with fail
  refine (H.out _).mono ?_
  rintro e' w' ⟨rfl, hb⟩
  go_wp2
  go_ret
  exact ⟨rfl, ((Below.refl _ _).alloc (Nat.le_refl _) _).trans (hb.mono (by simp))⟩
theorem rval_any :
    Calls Tryz.prog 11 #[l.v, .int .i64 n] w fun e' w' => e' = .returned (.int .i64 (atVal l n)) ∧ Below w.heap.size w w' := by
  have H := Lib.hid (fun w => rloc_any l n 1 w hok (by omega))
  unfold Ly.v at H ⊢
  go_enter Tryz.func11, Tryz.ntmps11
  go_wp2_with fail
  refine (H.out _).mono ?_
  rintro e' w' ⟨rfl, hb⟩
  go_wp2
  go_ret
  exact ⟨rfl, ((Below.refl _ _).alloc (Nat.le_refl _) _).trans (hb.mono (by simp))⟩
theorem rreaders_any :
    Calls Tryz.prog 33 #[l.v, .int .i64 n] w fun e' w' => e' = .returned (.int .i64 (atReaders l n)) ∧ Below w.heap.size w w' := by
  have H := Lib.hid (fun w => rloc_any l n 2 w hok (by omega))
  unfold Ly.v at H ⊢
  go_enter Tryz.func33, Tryz.ntmps33
  go_wp2_with fail
  refine (H.out _).mono ?_
  rintro e' w' ⟨rfl, hb⟩
  go_wp2
  go_ret
  exact ⟨rfl, ((Below.refl _ _).alloc (Nat.le_refl _) _).trans (hb.mono (by simp))⟩
end
end
end Go.Proofs.YtfahnmpcclhjlaaGreat

namespace Go.Proofs.YtfahnmpcclhjlaaGreat
set_option linter.unusedSectionVars false
set_option maxRecDepth 20000
open Go.ChangeShapes Go.WideShapes Go.ChangeAt Go.RowKit
def Cf.ok (c : Cf) : Prop := (1 ≤ c.t ∧ c.t ≤ 4) ∧ (0 ≤ c.l ∧ c.l ≤ 32) ∧ (0 ≤ c.k ∧ c.k ≤ 8) ∧ (0 ≤ c.s ∧ c.s ≤ 512) ∧ (0 ≤ c.m ∧ c.m ≤ 3)
instance (c : Cf) : Decidable c.ok := by unfold Cf.ok; infer_instance
set_option maxHeartbeats 800000 in
theorem may_t (c : Cf) (w : World) (h : c.ok) : Calls Tryz.prog 22 #[c.v] w fun e w' => e = .returned (.bool true) ∧ w' = w.alloc (.cells #[.int .i64 c.t, .int .i64 c.l, .int .i64 c.k, .int .i64 c.s, .int .i64 c.m] 23) := by
  obtain ⟨⟨h1, h2⟩, ⟨h3, h4⟩, ⟨h5, h6⟩, ⟨h7, h8⟩, ⟨h9, h10⟩⟩ := h
  have d0 : decide (c.t < 1) = false := by simp; omega
  have d1 : decide (4 < c.t) = false := by simp; omega
  have d2 : decide (c.l < 0) = false := by simp; omega
  have d3 : decide (32 < c.l) = false := by simp; omega
  have d4 : decide (c.k < 0) = false := by simp; omega
  have d5 : decide (8 < c.k) = false := by simp; omega
  have d6 : decide (0 ≤ c.s) = true := by simp; omega
  have d7 : decide (c.s ≤ 512) = true := by simp; omega
  have d8 : decide (0 ≤ c.m) = true := by simp; omega
  have d9 : decide (c.m ≤ 3) = true := by simp; omega
  unfold Cf.v
  go_enter Tryz.func22, Tryz.ntmps22
  go_wp2
  go_ret
  exact ⟨rfl, rfl⟩
set_option maxHeartbeats 3200000 in
theorem may_f (c : Cf) (w : World) (h : ¬c.ok) : Calls Tryz.prog 22 #[c.v] w fun e w' => e = .returned (.bool false) ∧ w' = w.alloc (.cells #[.int .i64 c.t, .int .i64 c.l, .int .i64 c.k, .int .i64 c.s, .int .i64 c.m] 23) := by
  have H := Lib.hid h
  clear h
  by_cases h0 : 1 ≤ c.t
  case neg =>
    have g0 : c.t < 1 := by omega
    have d0 : decide (c.t < 1) = true := by simp; omega
    clear h0
    unfold Cf.v
    go_enter Tryz.func22, Tryz.ntmps22
    go_wp2
    go_ret
    exact ⟨rfl, rfl⟩
  by_cases h1 : c.t ≤ 4
  case neg =>
    have g1 : 4 < c.t := by omega
    have d0 : decide (c.t < 1) = false := by simp; omega
    have d1 : decide (4 < c.t) = true := by simp; omega
    clear h1
    unfold Cf.v
    go_enter Tryz.func22, Tryz.ntmps22
    go_wp2
    go_ret
    exact ⟨rfl, rfl⟩
  by_cases h2 : 0 ≤ c.l
  case neg =>
    have g2 : c.l < 0 := by omega
    have d0 : decide (c.t < 1) = false := by simp; omega
    have d1 : decide (4 < c.t) = false := by simp; omega
    have d2 : decide (c.l < 0) = true := by simp; omega
    clear h2
    unfold Cf.v
    go_enter Tryz.func22, Tryz.ntmps22
    go_wp2
    go_ret
    exact ⟨rfl, rfl⟩
  by_cases h3 : c.l ≤ 32
  case neg =>
    have g3 : 32 < c.l := by omega
    have d0 : decide (c.t < 1) = false := by simp; omega
    have d1 : decide (4 < c.t) = false := by simp; omega
    have d2 : decide (c.l < 0) = false := by simp; omega
    have d3 : decide (32 < c.l) = true := by simp; omega
    clear h3
    unfold Cf.v
    go_enter Tryz.func22, Tryz.ntmps22
    go_wp2
    go_ret
    exact ⟨rfl, rfl⟩
  by_cases h4 : 0 ≤ c.k
  case neg =>
    have g4 : c.k < 0 := by omega
    have d0 : decide (c.t < 1) = false := by simp; omega
    have d1 : decide (4 < c.t) = false := by simp; omega
    have d2 : decide (c.l < 0) = false := by simp; omega
    have d3 : decide (32 < c.l) = false := by simp; omega
    have d4 : decide (c.k < 0) = true := by simp; omega
    clear h4
    unfold Cf.v
    go_enter Tryz.func22, Tryz.ntmps22
    go_wp2
    go_ret
    exact ⟨rfl, rfl⟩
  by_cases h5 : c.k ≤ 8
  case neg =>
    have g5 : 8 < c.k := by omega
    have d0 : decide (c.t < 1) = false := by simp; omega
    have d1 : decide (4 < c.t) = false := by simp; omega
    have d2 : decide (c.l < 0) = false := by simp; omega
    have d3 : decide (32 < c.l) = false := by simp; omega
    have d4 : decide (c.k < 0) = false := by simp; omega
    have d5 : decide (8 < c.k) = true := by simp; omega
    clear h5
    unfold Cf.v
    go_enter Tryz.func22, Tryz.ntmps22
    go_wp2
    go_ret
    exact ⟨rfl, rfl⟩
  by_cases h6 : 0 ≤ c.s
  case neg =>
    have g6 : c.s < 0 := by omega
    have d0 : decide (c.t < 1) = false := by simp; omega
    have d1 : decide (4 < c.t) = false := by simp; omega
    have d2 : decide (c.l < 0) = false := by simp; omega
    have d3 : decide (32 < c.l) = false := by simp; omega
    have d4 : decide (c.k < 0) = false := by simp; omega
    have d5 : decide (8 < c.k) = false := by simp; omega
    have d6 : decide (0 ≤ c.s) = false := by simp; omega
    clear h6
    unfold Cf.v
    go_enter Tryz.func22, Tryz.ntmps22
    go_wp2
    go_ret
    exact ⟨rfl, rfl⟩
  by_cases h7 : c.s ≤ 512
  case neg =>
    have g7 : 512 < c.s := by omega
    have d0 : decide (c.t < 1) = false := by simp; omega
    have d1 : decide (4 < c.t) = false := by simp; omega
    have d2 : decide (c.l < 0) = false := by simp; omega
    have d3 : decide (32 < c.l) = false := by simp; omega
    have d4 : decide (c.k < 0) = false := by simp; omega
    have d5 : decide (8 < c.k) = false := by simp; omega
    have d6 : decide (0 ≤ c.s) = true := by simp; omega
    have d7 : decide (c.s ≤ 512) = false := by simp; omega
    clear h7
    unfold Cf.v
    go_enter Tryz.func22, Tryz.ntmps22
    go_wp2
    go_ret
    exact ⟨rfl, rfl⟩
  by_cases h8 : 0 ≤ c.m
  case neg =>
    have g8 : c.m < 0 := by omega
    have d0 : decide (c.t < 1) = false := by simp; omega
    have d1 : decide (4 < c.t) = false := by simp; omega
    have d2 : decide (c.l < 0) = false := by simp; omega
    have d3 : decide (32 < c.l) = false := by simp; omega
    have d4 : decide (c.k < 0) = false := by simp; omega
    have d5 : decide (8 < c.k) = false := by simp; omega
    have d6 : decide (0 ≤ c.s) = true := by simp; omega
    have d7 : decide (c.s ≤ 512) = true := by simp; omega
    have d8 : decide (0 ≤ c.m) = false := by simp; omega
    clear h8
    unfold Cf.v
    go_enter Tryz.func22, Tryz.ntmps22
    go_wp2
    go_ret
    exact ⟨rfl, rfl⟩
  by_cases h9 : c.m ≤ 3
  case neg =>
    have g9 : 3 < c.m := by omega
    have d0 : decide (c.t < 1) = false := by simp; omega
    have d1 : decide (4 < c.t) = false := by simp; omega
    have d2 : decide (c.l < 0) = false := by simp; omega
    have d3 : decide (32 < c.l) = false := by simp; omega
    have d4 : decide (c.k < 0) = false := by simp; omega
    have d5 : decide (8 < c.k) = false := by simp; omega
    have d6 : decide (0 ≤ c.s) = true := by simp; omega
    have d7 : decide (c.s ≤ 512) = true := by simp; omega
    have d8 : decide (0 ≤ c.m) = true := by simp; omega
    have d9 : decide (c.m ≤ 3) = false := by simp; omega
    clear h9
    unfold Cf.v
    go_enter Tryz.func22, Tryz.ntmps22
    go_wp2
    go_ret
    exact ⟨rfl, rfl⟩
  exact absurd ⟨⟨h0, h1⟩, ⟨h2, h3⟩, ⟨h4, h5⟩, ⟨h6, h7⟩, ⟨h8, h9⟩⟩ H.out
def layOf (c : Cf) : Ly := ⟨c, 0, 1, 2, 3, 4, 4 + 4 * c.t, 4 + 4 * c.t + c.k, 4 + 4 * c.t + c.k + 4 * c.l⟩
def lay0 : Ly := ⟨⟨0, 0, 0, 0, 0⟩, 0, 0, 0, 0, 0, 0, 0, 0⟩
set_option maxHeartbeats 1600000 in
set_option maxRecDepth 100000 in
theorem rof_t (c : Cf) (w : World) (h : c.ok) : Calls Tryz.prog 8 #[c.v] w fun e w' => e = .returned (.tuple #[(layOf c).v, .int .i64 0]) ∧ Below w.heap.size w w' := by
  have HR := Lib.hid (fun w => may_t c w h)
  obtain ⟨⟨h1, h2⟩, ⟨h3, h4⟩, ⟨h5, h6⟩, ⟨h7, h8⟩, ⟨h9, h10⟩⟩ := h
  unfold Cf.v at HR ⊢
  go_enter Tryz.func8, Tryz.ntmps8
  go_wp2_with fail
  refine (HR.out _).mono ?_
  rintro e w1 ⟨rfl, rfl⟩
  go_wp2_with fail
  refine bodyPost_ret (v := .tuple #[(layOf c).v, .int .i64 0]) (by simp [results, Tryz.results8, go_sem, layOf, Ly.v]) rfl ⟨rfl, ?_⟩
  repeat (first | with_reducible exact Below.refl _ _ | with_reducible refine Below.setCell ?_ (by first | omega | (simp; omega) | simp) _ | with_reducible refine Below.alloc ?_ (by first | omega | (simp; omega) | simp) _)
set_option maxHeartbeats 800000 in
theorem rof_f (c : Cf) (w : World) (h : ¬c.ok) : Calls Tryz.prog 8 #[c.v] w fun e w' => e = .returned (.tuple #[lay0.v, .int .i64 1]) ∧ Below w.heap.size w w' := by
  have HR := Lib.hid (fun w => may_f c w h)
  clear h
  unfold Cf.v at HR ⊢
  go_enter Tryz.func8, Tryz.ntmps8
  go_wp2_with fail
  refine (HR.out _).mono ?_
  rintro e w1 ⟨rfl, rfl⟩
  go_wp2_with fail
  refine bodyPost_ret (v := .tuple #[lay0.v, .int .i64 1]) (by simp [results, Tryz.results8, go_sem, lay0, Ly.v]) rfl ⟨rfl, ?_⟩
  repeat (first | with_reducible exact Below.refl _ _ | with_reducible refine Below.setCell ?_ (by first | omega | (simp; omega) | simp) _ | with_reducible refine Below.alloc ?_ (by first | omega | (simp; omega) | simp) _)
end Go.Proofs.YtfahnmpcclhjlaaGreat

namespace Go.Proofs.YtfahnmpcclhjlaaGreat
set_option linter.unusedSectionVars false
set_option maxRecDepth 20000
open Go.ChangeShapes Go.WideShapes Go.ChangeAt Go.RowKit
theorem conf_struct : Tryz.prog.underlying 23 = some (.struct (Tryz.prog.fieldsOf 23)) := by kernel_rfl
theorem conf_held : Tryz.prog.stoodInHeld 23 = false := by kernel_rfl
theorem lay_struct : Tryz.prog.underlying 25 = some (.struct (Tryz.prog.fieldsOf 25)) := by kernel_rfl
theorem lay_held : Tryz.prog.stoodInHeld 25 = false := by kernel_rfl
def cfEq (a b : Cf) : Bool := a.t == b.t && (a.l == b.l && (a.k == b.k && (a.s == b.s && a.m == b.m)))
theorem cfEq_iff (a b : Cf) : cfEq a b = true ↔ a = b := by
  obtain ⟨a1, a2, a3, a4, a5⟩ := a
  obtain ⟨b1, b2, b3, b4, b5⟩ := b
  simp [cfEq]
def lyEq (a b : Ly) : Bool := cfEq a.c b.c && (a.clock == b.clock && (a.stamps == b.stamps && (a.log == b.log && (a.fin == b.fin && (a.thread == b.thread && (a.lock == b.lock && (a.loc == b.loc && a.size == b.size)))))))
theorem lyEq_iff (a b : Ly) : lyEq a b = true ↔ a = b := by
  obtain ⟨a0, a1, a2, a3, a4, a5, a6, a7, a8⟩ := a
  obtain ⟨b0, b1, b2, b3, b4, b5, b6, b7, b8⟩ := b
  simp [lyEq, cfEq_iff]
theorem lyEq_iff' (a b : Ly) : lyEq a b = true ↔ (decide (a.c.t = b.c.t ∧ a.c.l = b.c.l ∧ a.c.k = b.c.k ∧ a.c.s = b.c.s ∧ a.c.m = b.c.m ∧ a.clock = b.clock ∧ a.stamps = b.stamps ∧ a.log = b.log ∧ a.fin = b.fin ∧ a.thread = b.thread ∧ a.lock = b.lock ∧ a.loc = b.loc ∧ a.size = b.size)) = true := by
  simp [lyEq, cfEq, and_assoc]
theorem lay_eql (a b : Ly) (w : World) : (binOp .eql 25 a.v b.v).run Tryz.prog w = .ok (.bool (lyEq a b)) w := by
  unfold Ly.v
  rw [run_eql_struct, show (10000 : Nat) = 9999 + 1 from rfl, run_equalIn_agg w 9999 25 _ _ lay_struct lay_held]
  have u3 := Tryz.underlying3
  have a3 := Tryz.isAgg3
  have z3 := Tryz.sizeOf3
  have a4 := Tryz.isAgg23
  have z4 := Tryz.sizeOf23
  have q4 := fun w x y => run_equalIn_agg w 9998 23 x y conf_struct conf_held
  simp only [Program.fieldsOf, Tryz.underlying25, Tryz.underlying23] at q4 ⊢
  go_simp
  rw [Bool.eq_iff_iff.2 (lyEq_iff' a b)]
  by_cases h0 : a.c.t = b.c.t
  case neg => simp [h0]
  by_cases h1 : a.c.l = b.c.l
  case neg => simp [h0, h1]
  by_cases h2 : a.c.k = b.c.k
  case neg => simp [h0, h1, h2]
  by_cases h3 : a.c.s = b.c.s
  case neg => simp [h0, h1, h2, h3]
  by_cases h4 : a.c.m = b.c.m
  case neg => simp [h0, h1, h2, h3, h4]
  by_cases h5 : a.clock = b.clock
  case neg => simp [h0, h1, h2, h3, h4, h5]
  by_cases h6 : a.stamps = b.stamps
  case neg => simp [h0, h1, h2, h3, h4, h5, h6]
  by_cases h7 : a.log = b.log
  case neg => simp [h0, h1, h2, h3, h4, h5, h6, h7]
  by_cases h8 : a.fin = b.fin
  case neg => simp [h0, h1, h2, h3, h4, h5, h6, h7, h8]
  by_cases h9 : a.thread = b.thread
  case neg => simp [h0, h1, h2, h3, h4, h5, h6, h7, h8, h9]
  by_cases h10 : a.lock = b.lock
  case neg => simp [h0, h1, h2, h3, h4, h5, h6, h7, h8, h9, h10]
  by_cases h11 : a.loc = b.loc
  case neg => simp [h0, h1, h2, h3, h4, h5, h6, h7, h8, h9, h10, h11]
  by_cases h12 : a.size = b.size
  case neg => simp [h0, h1, h2, h3, h4, h5, h6, h7, h8, h9, h10, h11, h12]
  simp [h0, h1, h2, h3, h4, h5, h6, h7, h8, h9, h10, h11, h12]
end Go.Proofs.YtfahnmpcclhjlaaGreat

namespace Go.Proofs.YtfahnmpcclhjlaaGreat
set_option maxRecDepth 20000
set_option linter.unusedVariables false
set_option linter.unusedSectionVars false
open Go.ChangeShapes Go.WideShapes Go.ChangeAt Go.RowKit
def rightR (l : Ly) : Bool := decide l.c.ok && lyEq (layOf l.c) l
theorem rightR_ok {l : Ly} (h : rightR l = true) : l.c.ok ∧ l = layOf l.c := by
  unfold rightR at h
  simp only [Bool.and_eq_true, decide_eq_true_eq] at h
  exact ⟨h.1, ((lyEq_iff _ _).1 h.2).symm⟩
theorem rightR_ly {l : Ly} (h : rightR l = true) : l.ok := by
  obtain ⟨⟨h1, h2, h3, h4, h5⟩, e⟩ := rightR_ok h
  rw [e]
  simp only [Ly.ok, layOf]
  omega
set_option maxHeartbeats 800000 in
theorem rright_any (l : Ly) (w : World) : Calls Tryz.prog 5 #[l.v] w fun e w' => e = .returned (.bool (rightR l)) ∧ Below w.heap.size w w' := by
  by_cases h : l.c.ok
  · obtain ⟨L, hL⟩ : ∃ L, L = layOf l.c := ⟨_, rfl⟩
    have HO : Hid (∀ w, Calls Tryz.prog 8 #[l.c.v] w fun e w' => e = .returned (.tuple #[L.v, .int .i64 0]) ∧ Below w.heap.size w w') := Lib.hid (fun w => by rw [hL]; exact rof_t l.c w h)
    have HR := Lib.hid (show rightR l = lyEq L l by unfold rightR; rw [hL, decide_eq_true h]; rfl)
    have hre : ∀ w, (binOp .eql 25 L.v l.v).run Tryz.prog w = .ok (.bool (lyEq L l)) w := fun w => lay_eql L l w
    clear hL h
    unfold Ly.v at hre ⊢
    unfold Ly.v Cf.v at HO
    go_enter Tryz.func5, Tryz.ntmps5
    go_wp2_with fail
    refine (HO.out _).mono ?_
    rintro e w1 ⟨rfl, hb⟩
    have hz : w.heap.size < w1.heap.size := by have := hb.size; simp at this; omega
    have HB := Lib.hid (below_alloc1 hb)
    have p0 : w1.cell? ⟨w.heap.size, 0, none⟩ = some (.int .i64 l.c.t) := cel_below hb (by go_simp)
    have p1 : w1.cell? ⟨w.heap.size, 1, none⟩ = some (.int .i64 l.c.l) := cel_below hb (by go_simp)
    have p2 : w1.cell? ⟨w.heap.size, 2, none⟩ = some (.int .i64 l.c.k) := cel_below hb (by go_simp)
    have p3 : w1.cell? ⟨w.heap.size, 3, none⟩ = some (.int .i64 l.c.s) := cel_below hb (by go_simp)
    have p4 : w1.cell? ⟨w.heap.size, 4, none⟩ = some (.int .i64 l.c.m) := cel_below hb (by go_simp)
    have p5 : w1.cell? ⟨w.heap.size, 5, none⟩ = some (.int .i64 l.clock) := cel_below hb (by go_simp)
    have p6 : w1.cell? ⟨w.heap.size, 6, none⟩ = some (.int .i64 l.stamps) := cel_below hb (by go_simp)
    have p7 : w1.cell? ⟨w.heap.size, 7, none⟩ = some (.int .i64 l.log) := cel_below hb (by go_simp)
    have p8 : w1.cell? ⟨w.heap.size, 8, none⟩ = some (.int .i64 l.fin) := cel_below hb (by go_simp)
    have p9 : w1.cell? ⟨w.heap.size, 9, none⟩ = some (.int .i64 l.thread) := cel_below hb (by go_simp)
    have p10 : w1.cell? ⟨w.heap.size, 10, none⟩ = some (.int .i64 l.lock) := cel_below hb (by go_simp)
    have p11 : w1.cell? ⟨w.heap.size, 11, none⟩ = some (.int .i64 l.loc) := cel_below hb (by go_simp)
    have p12 : w1.cell? ⟨w.heap.size, 12, none⟩ = some (.int .i64 l.size) := cel_below hb (by go_simp)
    clear hb
    go_wp2
    go_ret
    exact ⟨ret_bool HR.out.symm, HB.out.trans ((below_new1 _ _).mono HB.out.size)⟩
  · have HO := Lib.hid (fun w => rof_f l.c w h)
    have HR := Lib.hid (show rightR l = false by unfold rightR; rw [decide_eq_false h]; rfl)
    clear h
    unfold Ly.v
    unfold lay0 Ly.v Cf.v at HO
    go_enter Tryz.func5, Tryz.ntmps5
    go_wp2_with fail
    refine (HO.out _).mono ?_
    rintro e w1 ⟨rfl, hb⟩
    have HB := Lib.hid (below_alloc1 hb)
    clear hb
    go_wp2
    go_ret
    exact ⟨ret_bool HR.out.symm, HB.out.trans ((below_new1 _ _).mono HB.out.size)⟩
end Go.Proofs.YtfahnmpcclhjlaaGreat
