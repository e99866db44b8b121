/-
  Merged: WireA, WireB, WireC, WireE
-/
import Derived.Test.YtfhmdlihnidjoaaRows
import Derived.Test.YtfhmdlihnidjoaaPf1
import Derived.Lib.Zigzag
import Derived.Laws.Bits64b
import Derived.Outline
import Derived.Deep.QuietTactic
import Derived.BigQuiet
namespace Go.Proofs.Ytfhmdlihnidjoaa
set_option linter.unusedSectionVars false
set_option maxRecDepth 100000
set_option linter.unusedVariables false
set_option linter.unusedSimpArgs false
set_option maxHeartbeats 16000000
open Go.ChangeShapes Go.WideShapes Go.ChangeAt Go.RowKit
abbrev bV (b : Nat) : Value := .int .u8 (b : Int)
def QeF (w : World) (B : Nat) (v : Value) (l : List Nat) : Prop := w.ownsRow B 5 1 v l.length (l.map bV)
theorem Qfi : (Try.prog.info? 5).map (fun i => (i.zero, i.size, i.bytes)) = some (some (.int .u8 0), 1, 1) := by kernel_rfl
theorem xor_zz {n : Int} (hn : I64 n) : bits .xor .u64 (IntKind.u64.wrap (IntKind.u64.wrap n * 2)) (IntKind.u64.wrap (n / 9223372036854775808)) = ((zz n : Nat) : Int) := by
  unfold I64 at hn
  by_cases h : 0 ≤ n
  · have e1 : IntKind.u64.wrap (IntKind.u64.wrap n * 2) = ((zz n : Nat) : Int) := by
      rw [IntKind.wrap_u64, IntKind.wrap_u64]; unfold zz; rw [if_pos h]; omega
    have e2 : IntKind.u64.wrap (n / 9223372036854775808) = ((0 : Nat) : Int) := by rw [IntKind.wrap_u64]; omega
    rw [e1, e2, bits_xor_u64_nat _ _ (Qkk (by unfold I64; omega)) (by omega), Nat.xor_zero]
  · have e1 : IntKind.u64.wrap (IntKind.u64.wrap n * 2) = (((2 * n + 18446744073709551616).toNat : Nat) : Int) := by
      rw [IntKind.wrap_u64, IntKind.wrap_u64]; omega
    have e2 : IntKind.u64.wrap (n / 9223372036854775808) = ((2 ^ 64 - 1 : Nat) : Int) := by rw [IntKind.wrap_u64]; omega
    rw [e1, e2, bits_xor_u64_nat _ _ (by omega) (by decide), Nat.xor_comm, Lib.xor_ones64 _ (by omega)]
    unfold zz; rw [if_neg h]; omega
theorem or_more {x : Nat} (h : x < 128) : bits .or .u8 (x : Int) 128 = ((x + 128 : Nat) : Int) := by
  have : ∀ x : Fin 128, bits .or .u8 ((x.1 : Nat) : Int) 128 = ((x.1 + 128 : Nat) : Int) := by decide +kernel
  exact this ⟨x, h⟩
theorem Qle (n : Int) (hn : I64 n) (w : World) : Calls Try.prog 84 #[.int .i64 n] w fun e w' =>
    ∃ v, e = .returned v ∧ QeF w' w.heap.size v (enc n) ∧ Below w.heap.size w w' := by
  have hx := xor_zz hn
  have HU := Lib.hid (Qkk hn)
  have HN := Lib.hid hn
  obtain ⟨h0, h1⟩ := hn
  obtain ⟨i0, hi, hz0, hz1, hz2⟩ := info_parts Qfi
  obtain ⟨u0, hu0⟩ : ∃ u0, u0 = zz n := ⟨_, rfl⟩
  rw [← hu0] at hx HU
  have HZ := Lib.hid hu0
  clear hu0
  go_enter Try.func84, Try.ntmps84
  go_wp2
  go_step3
  go_wp2
  go_step3
  go_wp2
  go_loopw [3, 4] (fun u v wr => ∃ (k : Nat) (pre : List Nat), u = .int .u64 k ∧ k < 18446744073709551616 ∧ QeF wr w.heap.size v pre ∧ Below w.heap.size w wr ∧ pre.length ≤ 9 ∧ Hid (pre ++ grp k = enc n)) (fun u _ _ => (intOf u).toNat)
  case atStart => exact ⟨u0, [], rfl, HU.out, World.ownsRow_nil _ _ _ _, Below.refl _ _, by simp, Lib.hid (by rw [HZ.out]; rfl)⟩
  case round =>
    obtain ⟨k, pre, rfl, hk, hown, hb, hpre, hE⟩ := hrel
    have hs := hb.size
    have HO := Lib.hid hown
    have HB := Lib.hid hb
    clear hown hb
    by_cases hlt : k < 128
    · have hg : grp k = [k] := Qcq hlt
      have HG := Lib.hid hg
      have q1 : (k : Int) % 128 = k := by omega
      have q2 : (k : Int) / 128 = 0 := by omega
      have q3 : IntKind.u8.wrap (k : Int) = k := by rw [IntKind.wrap_u8]; omega
      clear hg
      go_wp2_with (first
        | (at_builtin; refine wpList_append_own _ rfl _ _ 48 rfl w.heap.size 5 i0 (.int .u8 0) 1 1 Try.underlying48 hi hz0 hz1 hz2 rfl (by decide) _ _ _ rfl (World.ownsRow.alloc HO.out _) ⟨wr.heap.size, 0, none⟩ 1 1 [.int .u8 k] rfl rfl (fun j u hj => Qct j u hj) (by intro u hu; simp at hu; subst hu; rfl) (by unfold maxLen; omega) (by omega) (by simp; omega) ?_; intro v' w4 hown' hgrow' _))
      rw [Exit.noGoto_ret]
      go_ret
      have hE2 : enc n = pre ++ [k] := by rw [← hE.out, HG.out]
      refine ⟨v', rfl, ?_, ?_⟩
      · unfold QeF
        rw [hE2, List.map_append, List.length_append]
        exact hown'
      · refine (HB.out.alloc hs _).grown hgrow' (by simp; omega) (fun j hj => ?_)
        exact (HO.out.lt j hj).1
    · have hg : grp k = (k % 128 + 128) :: grp (k / 128) := Qem hlt
      have HG := Lib.hid hg
      have hlt' : 128 ≤ k := by omega
      obtain ⟨lo, hlo⟩ : ∃ lo, lo = k % 128 := ⟨_, rfl⟩
      obtain ⟨up, hup⟩ : ∃ up, up = k / 128 := ⟨_, rfl⟩
      have lo1 : lo < 128 := by omega
      have up1 : 1 ≤ up := by omega
      have up2 : up < k := by omega
      have q1 : (k : Int) % 128 = lo := by omega
      have q2 : (k : Int) / 128 = up := by omega
      have q3 : IntKind.u8.wrap (lo : Int) = lo := by rw [IntKind.wrap_u8]; omega
      have q4 : ((up : Int) == 0) = false := by simp; omega
      have q5 := or_more lo1
      have hp9 : (pre ++ [lo + 128]).length ≤ 9 := by
        have h1 := Qdi HN.out
        rw [← hE.out, hg] at h1
        have h2 := Qia (k / 128)
        simp at h1 ⊢; omega
      have HE2 : Hid ((pre ++ [lo + 128]) ++ grp up = enc n) := Lib.hid (by rw [← hE.out, hg, ← hlo, ← hup]; simp)
      have HP9 := Lib.hid hp9
      clear hg hlo hup hp9 hlt
      go_wp2_with (first
        | (at_builtin; refine wpList_append_own _ rfl _ _ 48 rfl w.heap.size 5 i0 (.int .u8 0) 1 1 Try.underlying48 hi hz0 hz1 hz2 rfl (by decide) _ _ _ rfl (World.ownsRow.alloc HO.out _) ⟨wr.heap.size, 0, none⟩ 1 1 [.int .u8 ((lo + 128 : Nat) : Int)] rfl rfl (fun j u hj => Qct j u hj) (by intro u hu; simp at hu; subst hu; rfl) (by unfold maxLen; omega) (by omega) (by simp; omega) ?_; intro v' w4 hown' hgrow' _))
      have hw4 : QeF w4 w.heap.size v' (pre ++ [lo + 128]) := by
        unfold QeF
        rw [List.map_append, List.length_append]
        exact hown'
      have hb4 : Below w.heap.size w w4 := by
        refine (HB.out.alloc hs _).grown hgrow' (by simp; omega) (fun j hj => ?_)
        exact (HO.out.lt j hj).1
      clear hown' hgrow'
      go_roundw
      case rel => exact ⟨up, pre ++ [lo + 128], rfl, by omega, hw4, hb4, HP9.out, HE2⟩
      case measure => simp [intOf]; omega
theorem QjD (n : Int) (hn : I64 n) (w : World) : Calls Try.prog 74 #[.int .i64 n] w fun e w' => e = .returned (.int .u64 ((zz n : Nat) : Int)) ∧ w = w' := by
  have HN := Lib.hid hn
  obtain ⟨h0, h1⟩ := hn
  by_cases h : 0 ≤ n
  · have HZ : Hid (IntKind.u64.wrap (2 * IntKind.u64.wrap n) = ((zz n : Nat) : Int)) := Lib.hid (by rw [IntKind.wrap_u64, IntKind.wrap_u64]; unfold zz; rw [if_pos h]; omega)
    have q := HZ.out
    go_enter Try.func74, Try.ntmps74
    go_wp2
    go_ret
    refine ⟨QcT ?_, rfl⟩
    unfold zz; rw [if_pos h]; omega
  · go_enter Try.func74, Try.ntmps74
    have h' : n < 0 := by omega
    go_wp2
    go_ret
    refine ⟨QcT ?_, rfl⟩
    unfold zz; rw [if_neg (by omega)]
    try simp only [IntKind.wrap_u64]
    omega
theorem QiL (n : Int) (hn : I64 n) (w : World) : Calls Try.prog 64 #[.int .i64 n] w fun e w' =>
    ∃ v, e = .returned v ∧ QeF w' w.heap.size v (enc n) ∧ Below w.heap.size w w' := by
  have HU := Lib.hid (Qkk hn)
  have HN := Lib.hid hn
  clear hn
  obtain ⟨i0, hi, hz0, hz1, hz2⟩ := info_parts Qfi
  obtain ⟨u0, hu0⟩ : ∃ u0, u0 = zz n := ⟨_, rfl⟩
  have HT : Hid (∀ w, Calls Try.prog 74 #[.int .i64 n] w fun e w' => e = .returned (.int .u64 u0) ∧ w = w') := Lib.hid (fun w => by rw [hu0]; exact QjD n HN.out w)
  rw [← hu0] at HU
  have HZ := Lib.hid hu0
  clear hu0
  go_enter Try.func64, Try.ntmps64
  go_wp2_with (go_at_call 74; refine (HT.out _).mono ?_; rintro e w' ⟨rfl, rfl⟩)
  go_loopw [3, 4] (fun u v wr => ∃ (k : Nat) (pre : List Nat), u = .int .u64 k ∧ k < 18446744073709551616 ∧ QeF wr w.heap.size v pre ∧ Below w.heap.size w wr ∧ pre.length ≤ 9 ∧ Hid (pre ++ grp k = enc n)) (fun u _ _ => (intOf u).toNat)
  case atStart => exact ⟨u0, [], rfl, HU.out, World.ownsRow_nil _ _ _ _, Below.refl _ _, by simp, Lib.hid (by rw [HZ.out]; rfl)⟩
  case round =>
    obtain ⟨k, pre, rfl, hk, hown, hb, hpre, hE⟩ := hrel
    have hs := hb.size
    have HO := Lib.hid hown
    have HB := Lib.hid hb
    have HK := Lib.hid hk
    clear hown hb hk
    by_cases hlt : k < 128
    · have HG := Lib.hid (Qcq hlt)
      have q1 : (k : Int) % 128 = k := by omega
      have q3 : IntKind.u8.wrap (k : Int) = k := by rw [IntKind.wrap_u8]; omega
      go_wp2_with (first
        | (at_builtin; refine wpList_append_own _ rfl _ _ 48 rfl w.heap.size 5 i0 (.int .u8 0) 1 1 Try.underlying48 hi hz0 hz1 hz2 rfl (by decide) _ _ _ rfl (World.ownsRow.alloc HO.out _) ⟨wr.heap.size, 0, none⟩ 1 1 [.int .u8 k] rfl rfl (fun j u hj => Qct j u hj) (by intro u hu; simp at hu; subst hu; rfl) (by unfold maxLen; omega) (by omega) (by simp; omega) ?_; intro v' w4 hown' hgrow' _))
      go_ret
      have hE2 : enc n = pre ++ [k] := by rw [← hE.out, HG.out]
      refine ⟨v', rfl, ?_, ?_⟩
      · unfold QeF
        rw [hE2, List.map_append, List.length_append]
        exact hown'
      · refine (HB.out.alloc hs _).grown hgrow' (by simp; omega) (fun j hj => ?_)
        exact (HO.out.lt j hj).1
    · have hg : grp k = (k % 128 + 128) :: grp (k / 128) := Qem hlt
      have hlt' : 128 ≤ k := by omega
      obtain ⟨lo, hlo⟩ : ∃ lo, lo = k % 128 := ⟨_, rfl⟩
      obtain ⟨up, hup⟩ : ∃ up, up = k / 128 := ⟨_, rfl⟩
      have lo1 : lo < 128 := by omega
      have up1 : 1 ≤ up := by omega
      have up2 : up < k := by omega
      have q1 : (k : Int) % 128 = lo := by omega
      have q2 : (k : Int) / 128 = up := by omega
      have q6 : IntKind.u64.wrap (up : Int) = up := by have := HK.out; rw [IntKind.wrap_u64]; omega
      have q3 : IntKind.u8.wrap ((lo : Int) + 128) = ((lo + 128 : Nat) : Int) := by rw [IntKind.wrap_u8]; omega
      have hp9 : (pre ++ [lo + 128]).length ≤ 9 := by
        have h1 := Qdi HN.out
        rw [← hE.out, hg] at h1
        have h2 := Qia (k / 128)
        simp at h1 ⊢; omega
      have HE2 : Hid ((pre ++ [lo + 128]) ++ grp up = enc n) := Lib.hid (by rw [← hE.out, hg, ← hlo, ← hup]; simp)
      have HP9 := Lib.hid hp9
      clear hg hlo hup hp9 hlt
      go_wp2_with (first
        | (at_builtin; refine wpList_append_own _ rfl _ _ 48 rfl w.heap.size 5 i0 (.int .u8 0) 1 1 Try.underlying48 hi hz0 hz1 hz2 rfl (by decide) _ _ _ rfl (World.ownsRow.alloc HO.out _) ⟨wr.heap.size, 0, none⟩ 1 1 [.int .u8 ((lo + 128 : Nat) : Int)] rfl rfl (fun j u hj => Qct j u hj) (by intro u hu; simp at hu; subst hu; rfl) (by unfold maxLen; omega) (by omega) (by simp; omega) ?_; intro v' w4 hown' hgrow' _))
      have hw4 : QeF w4 w.heap.size v' (pre ++ [lo + 128]) := by
        unfold QeF
        rw [List.map_append, List.length_append]
        exact hown'
      have hb4 : Below w.heap.size w w4 := by
        refine (HB.out.alloc hs _).grown hgrow' (by simp; omega) (fun j hj => ?_)
        exact (HO.out.lt j hj).1
      clear hown' hgrow'
      go_roundw
      case rel => exact ⟨up, pre ++ [lo + 128], rfl, by have := HK.out; omega, hw4, hb4, HP9.out, HE2⟩
      case measure => simp [intOf]; omega
def Qeu (w : World) (v : Value) (l : List Nat) : Prop :=
  ∃ a cap, v = .slice a l.length cap ∧ (l.length ≤ 9223372036854775807 ∧ l.length ≤ cap ∧ cap ≤ 9223372036854775807 ∧ (a = none → cap = 0)) ∧ (l.length = 0 ∨ ∃ b o, a = some ⟨b, o, none⟩ ∧ ∀ j, j < l.length → w.cell? ⟨b, o + j, none⟩ = some (.int .u8 ((l.getD j 0 : Nat) : Int)))
theorem Qb9 {w : World} {B : Nat} {v : Value} {l : List Nat} (h : QeF w B v l) : Qeu w v l := by
  have h0 : w.ownsRow B 5 1 v l.length (l.map bV) := h
  obtain ⟨_, h | ⟨g, cap, cur, rfl, _, _, hn, hc, _, _⟩⟩ := h
  · obtain ⟨rfl, hz⟩ := h
    exact ⟨none, 0, by rw [hz], ⟨by omega, by omega, by omega, fun _ => rfl⟩, Or.inl hz⟩
  · refine ⟨some ⟨g, 0, none⟩, cap, rfl, ⟨by unfold maxLen at hc; omega, by omega, by unfold maxLen at hc; omega, fun h => by cases h⟩, Or.inr ⟨g, 0, rfl, fun j hj => ?_⟩⟩
    rw [Nat.zero_add, h0.cellAt j (by omega)]
    simp [List.getD, List.getElem?_eq_getElem hj]
section
variable {w : World} {a : Option Addr} {n cap : Nat} {l : List Nat} (h : Qeu w (.slice a n cap) l) {j : Nat} (hj : j ≤ n)
include w a n cap l h j hj
theorem QlM : Qeu w (.slice a j cap) (l.take j) := by
  obtain ⟨a', cap', he, hl, h⟩ := h
  simp only [Value.slice.injEq] at he
  obtain ⟨rfl, rfl, rfl⟩ := he
  have hjl : (l.take j).length = j := by rw [List.length_take]; omega
  refine ⟨a, cap, by rw [hjl], by rw [hjl]; exact ⟨by omega, by omega, by omega, hl.2.2.2⟩, ?_⟩
  rw [hjl]
  rcases h with h | ⟨b, o, rfl, h⟩
  · exact Or.inl (by omega)
  · refine Or.inr ⟨b, o, rfl, fun i hi => ?_⟩
    rw [h i (by omega)]
    simp [List.getD, hi]
theorem Qhg : Qeu w (.slice (if cap = j then a else a.map (·.add j)) (n - j) (cap - j)) (l.drop j) := by
  obtain ⟨a', cap', he, hl, h⟩ := h
  simp only [Value.slice.injEq] at he
  obtain ⟨rfl, rfl, rfl⟩ := he
  have hjl : (l.drop j).length = l.length - j := by rw [List.length_drop]
  refine ⟨_, _, by rw [hjl], by rw [hjl]; refine ⟨by omega, by omega, by omega, fun h => ?_⟩; (have := hl.2.2.2; cases a with | none => (have := this rfl; omega) | some x => (split at h <;> simp_all)), ?_⟩
  rw [hjl]
  by_cases h0 : l.length - j = 0
  · exact Or.inl h0
  rcases h with h | ⟨b, o, rfl, h⟩
  · exact Or.inl (by omega)
  · refine Or.inr ⟨b, o + j, ?_, fun i hi => ?_⟩
    · rw [if_neg (by omega)]
      simp only [Option.map_some, Addr.add]
      split <;> simp_all
    · rw [Nat.add_assoc, h (j + i) (by omega)]
      simp [List.getD, List.getElem?_drop]
end
theorem QcM {w w' : World} {v : Value} {l : List Nat} (h : Qeu w v l) (hb : Below w.heap.size w w') : Qeu w' v l := by
  obtain ⟨a, cap, rfl, hl, h⟩ := h
  refine ⟨a, cap, rfl, hl, ?_⟩
  rcases h with h | ⟨b, o, rfl, h⟩
  · exact Or.inl h
  · refine Or.inr ⟨b, o, rfl, fun j hj => ?_⟩
    have hc := h j hj
    have hlt : b < w.heap.size := World.block_lt_of_cell? w ⟨b, o + j, none⟩ hc
    exact (hb.cell (p := ⟨b, o + j, none⟩) hlt).trans hc
def Qc_ (l : List Nat) : Value := match dec l with
  | none => .tuple #[.int .i64 0, .int .i64 0, .int .i64 3]
  | some (n, k) => .tuple #[.int .i64 n, .int .i64 (k : Int), .int .i64 0]
def low : List Nat → Nat
  | [] => 0
  | b :: r => (b - 128) + 128 * low r
theorem low_snoc (l : List Nat) (b : Nat) : low (l ++ [b]) = low l + 128 ^ l.length * (b - 128) := by
  induction l with
  | nil => simp [low]
  | cons c r ih => simp only [List.cons_append, low, ih, List.length_cons, Nat.pow_succ]; rw [Nat.mul_add, Nat.mul_comm (128 ^ r.length) 128, Nat.mul_assoc 128]; omega
theorem low_lt (l : List Nat) (h : ∀ b ∈ l, b < 256) : low l < 128 ^ l.length := by
  induction l with
  | nil => simp [low]
  | cons c r ih =>
    have h1 := ih (fun b hb => h b (List.mem_cons_of_mem _ hb))
    have h2 := h c (by simp)
    simp only [low, List.length_cons, Nat.pow_succ]; omega
theorem Qe1 (p r : List Nat) (hp : ∀ b ∈ p, 128 ≤ b) : QgP (p ++ r) = match QgP r with
    | none => none
    | some (u, k) => if u = 0 ∧ p ≠ [] then none else some (low p + 128 ^ p.length * u, k + p.length) := by
  induction p with
  | nil => simp [low]; cases QgP r <;> simp
  | cons b p ih =>
    have h1 := hp b (by simp)
    have ih := ih (fun x hx => hp x (List.mem_cons_of_mem _ hx))
    simp only [List.cons_append, QgP]
    rw [if_neg (by omega), ih]
    cases hs : QgP r with
    | none => rfl
    | some x =>
      obtain ⟨u, k⟩ := x
      simp only
      by_cases hu : u = 0
      · by_cases hp0 : p = []
        · subst hp0; subst hu; simp [low]
        · simp [hu, hp0]
      · rw [if_neg (by simp [hu]), if_neg (by simp [hu])]
        simp only
        have hpos : 0 < 128 ^ p.length := Nat.pow_pos (by decide)
        have hmul : 0 < 128 ^ p.length * u := Nat.mul_pos hpos (by omega)
        rw [if_neg (by omega)]
        simp only [low, List.length_cons, Nat.pow_succ]
        congr 2
        rw [Nat.mul_add, Nat.mul_comm (128 ^ p.length) 128, Nat.mul_assoc]; omega
theorem Ql7 (p : List Nat) (b : Nat) (r : List Nat) (hp : ∀ b ∈ p, 128 ≤ b) (hb : b < 128) :
    dec (p ++ b :: r) = if (b = 0 ∧ p ≠ []) ∨ 18446744073709551616 ≤ low p + 128 ^ p.length * b then none else some (Qfz (low p + 128 ^ p.length * b), p.length + 1) := by
  unfold dec
  rw [Qe1 p (b :: r) hp]
  simp only [QgP]
  rw [if_pos hb]
  simp only
  by_cases h0 : b = 0 ∧ p ≠ []
  · rw [if_pos h0, if_pos (Or.inl h0)]
  · rw [if_neg h0]
    simp only
    by_cases h1 : low p + 128 ^ p.length * b < 18446744073709551616
    · rw [if_pos h1, if_neg (by intro h; rcases h with h | h; exact h0 h; omega)]
      congr 2; omega
    · rw [if_neg h1, if_pos (Or.inr (by omega))]
theorem dec_open (p : List Nat) (hp : ∀ b ∈ p, 128 ≤ b) : dec p = none := by
  unfold dec
  have := Qe1 p [] hp
  rw [List.append_nil] at this
  rw [this]; rfl
theorem Ql6 (p r : List Nat) (hp : ∀ b ∈ p, 128 ≤ b) (hl : 10 ≤ p.length) : dec (p ++ r) = none := by
  unfold dec
  rw [Qe1 p r hp]
  cases hs : QgP r with
  | none => rfl
  | some x =>
    obtain ⟨u, k⟩ := x
    simp only
    by_cases hu : u = 0
    · rw [if_pos ⟨hu, by intro h; subst h; simp at hl⟩]
    · rw [if_neg (by simp [hu])]
      simp only
      have h1 : 128 ^ 10 ≤ 128 ^ p.length := Nat.pow_le_pow_right (by decide) hl
      have h2 : 128 ^ p.length * 1 ≤ 128 ^ p.length * u := Nat.mul_le_mul_left _ (by omega)
      rw [if_neg (by have : (128 : Nat) ^ 10 = 1180591620717411303424 := by decide
                     omega)]
theorem dec_wide (p : List Nat) (b : Nat) (r : List Nat) (hp : ∀ b ∈ p, 128 ≤ b) (hb : b < 256) (hl : p.length = 9) (h2 : 1 < b % 128) : dec (p ++ b :: r) = none := by
  by_cases h : b < 128
  · rw [Ql7 p b r hp h, if_pos]
    right
    rw [hl, Nat.mod_eq_of_lt h] at *
    have : (128 : Nat) ^ 9 = 9223372036854775808 := by decide
    rw [this]; omega
  · have : p ++ b :: r = (p ++ [b]) ++ r := by simp
    rw [this]
    refine Ql6 _ _ ?_ (by simp; omega)
    intro x hx
    rcases List.mem_append.1 hx with hx | hx
    · exact hp x hx
    · simp at hx; omega
theorem orl (m U g : Nat) (hU : U < 2 ^ m) (hT : U + 2 ^ m * g < 18446744073709551616) : bits .or .u64 (U : Int) (((g * 2 ^ m : Nat)) : Int) = ((U + 2 ^ m * g : Nat) : Int) := by
  have hmul : g * 2 ^ m = 2 ^ m * g := Nat.mul_comm _ _
  rw [bits_or_u64_nat _ _ (by omega) (by omega), ← Nat.shiftLeft_eq, Nat.or_comm, ← Nat.shiftLeft_add_eq_or_of_lt hU, Nat.shiftLeft_eq]
  congr 1; omega
theorem Qb1 (V : Nat) (hV : V < 18446744073709551616) : bits .xor .i64 (wrap64 ((V : Int) / 2)) (wrap64 (-wrap64 (bits .and .u64 (V : Int) 1))) = Qfz V := by
  rw [Lib.u64_and1 _ (by omega) (by omega)]
  have e1 : wrap64 ((V : Int) / 2) = ((V / 2 : Nat) : Int) := by unfold wrap64; omega
  by_cases h : V % 2 = 0
  · have e2 : wrap64 (-wrap64 ((V : Int) % 2)) = 0 := by rw [show (V : Int) % 2 = 0 by omega]; unfold wrap64; omega
    rw [e1, e2]
    unfold Qfz; rw [if_pos h]
    show IntKind.i64.wrap ((BitVec.ofInt 64 ((V / 2 : Nat) : Int) ^^^ BitVec.ofInt 64 0).toNat : Int) = _
    rw [show BitVec.ofInt 64 0 = 0#64 by rfl, BitVec.xor_zero, BitVec.ofInt_natCast, BitVec.toNat_ofNat, Nat.mod_eq_of_lt (by omega), IntKind.wrap_i64]
    omega
  · have e2 : wrap64 (-wrap64 ((V : Int) % 2)) = -1 := by rw [show (V : Int) % 2 = 1 by omega]; unfold wrap64; omega
    rw [e1, e2]
    have h3 := Lib.i64_not (V / 2) (by omega)
    have h4 : bits .xor .i64 ((V / 2 : Nat) : Int) (-1) = bits .xor .i64 (-1) ((V / 2 : Nat) : Int) := by
      show IntKind.i64.wrap ((BitVec.ofInt 64 ((V / 2 : Nat) : Int) ^^^ BitVec.ofInt 64 (-1)).toNat : Int) = IntKind.i64.wrap ((BitVec.ofInt 64 (-1) ^^^ BitVec.ofInt 64 ((V / 2 : Nat) : Int)).toNat : Int)
      rw [BitVec.xor_comm]
    rw [h4, h3]
    unfold Qfz; rw [if_neg h]
theorem list_at (l : List Nat) (k : Nat) (hk : k < l.length) : l = l.take k ++ l.getD k 0 :: l.drop (k + 1) := by
  rw [List.getD_eq_getElem?_getD, List.getElem?_eq_getElem hk]; simp
theorem Qeb (l : List Nat) (k : Nat) (h : k < l.length) : l.take (k + 1) = l.take k ++ [l.getD k 0] := by
  rw [List.take_succ_eq_append_getElem h]; simp [List.getD, List.getElem?_eq_getElem h]
theorem QlC (l : List Nat) (k : Nat) (hl : ∀ b ∈ l, b < 256) (hk : k ≤ l.length) : low (l.take k) < 128 ^ k := by
  have h := low_lt (l.take k) (fun b hb => hl b (List.mem_of_mem_take hb))
  rwa [List.length_take, Nat.min_eq_left hk] at h
def GotV (w : World) (l : List Nat) (e : Ending) (w' : World) : Prop := e = .returned (Qc_ l) ∧ ∃ n, w' = w.drewN n
theorem QlP (v : Value) (l : List Nat) (hl : ∀ b ∈ l, b < 256) (w : World) (hv : Qeu w v l) : Calls Try.prog 83 #[v] w (GotV w l) := by
  obtain ⟨a, cap, rfl, hll, hc⟩ := hv
  have HC := Lib.hid hc
  have HL := Lib.hid hl
  clear hc hl
  obtain ⟨L, hL⟩ : ∃ L, L = l.length := ⟨_, rfl⟩
  rw [← hL] at HC hll ⊢
  have NL := Lib.hid hL
  clear hL
  go_enter Try.func83, Try.ntmps83
  go_wp2
  go_loopw [5, 6] (fun u i wr => ∃ k n : Nat, k ≤ L ∧ k ≤ 10 ∧ i = .int .i64 k ∧ wr = w.drewN n ∧ u = .int .u64 ((low (l.take k) : Nat) : Int) ∧ Hid (low (l.take k) < 18446744073709551616) ∧ Hid (∀ b ∈ l.take k, 128 ≤ b)) (fun _ i _ => 10 - (intOf i).toNat)
  case atStart => exact ⟨0, 0, Nat.zero_le _, by omega, rfl, rfl, by simp [low], Lib.hid (by simp [low]), Lib.hid (by simp)⟩
  case round =>
    obtain ⟨k, n, hk, hk10, rfl, rfl, rfl, hlow, hmore⟩ := hrel
    by_cases hlt : k < L ∧ k < 10
    · obtain ⟨hlt, hlt10⟩ := hlt
      rcases HC.out with hc | ⟨b, o, rfl, hc⟩
      · omega
      have h1 := hc k hlt
      obtain ⟨x, hx⟩ : ∃ x, x = l.getD k 0 := ⟨_, rfl⟩
      rw [← hx] at h1
      have HX := Lib.hid hx
      have x256 : x < 256 := by
        rw [hx]; have hk' : k < l.length := by rw [← NL.out]; exact hlt
        rw [List.getD_eq_getElem?_getD, List.getElem?_eq_getElem hk']; exact HL.out _ (List.getElem_mem hk')
      clear hc hx
      obtain ⟨U, hU⟩ : ∃ U, U = low (l.take k) := ⟨_, rfl⟩
      rw [← hU] at hlow ⊢
      have HU := Lib.hid hU
      clear hU
      obtain ⟨g, hg⟩ : ∃ g, g = x % 128 := ⟨_, rfl⟩
      have g1 : (x : Int) % 128 = g := by omega
      have g2 : g < 128 := by omega
      have HG := Lib.hid hg
      clear hg
      -- THE TEN ROUNDS
      have KL : k < l.length := by rw [← NL.out]; exact hlt
      have LB : Hid (U < 128 ^ k) := Lib.hid (by rw [HU.out]; exact QlC l k HL.out (by omega))
      have LL : Hid ((l.take k).length = k) := Lib.hid (by rw [List.length_take]; omega)
      have LA := Lib.hid (list_at l k KL)
      have LS := Lib.hid (Qeb l k KL)
      rw [← HX.out] at LA LS
      have L1 : Hid (low (l.take (k + 1)) = U + 128 ^ k * (x - 128)) := Lib.hid (by rw [LS.out, low_snoc, LL.out, ← HU.out])
      have L2 : Hid (128 ≤ x → ∀ b ∈ l.take (k + 1), 128 ≤ b) := Lib.hid (by
        intro hx; rw [LS.out]; intro b hb
        rcases List.mem_append.1 hb with hb | hb
        · exact hmore.out b hb
        · simp at hb; omega)
      have L3 : Hid (x < 128 → dec l = if (x = 0 ∧ k ≠ 0) ∨ 18446744073709551616 ≤ U + 128 ^ k * x then none else some (Qfz (U + 128 ^ k * x), k + 1)) := Lib.hid (by
        intro hx
        have h := Ql7 (l.take k) x (l.drop (k + 1)) hmore.out hx
        rw [← LA.out, LL.out, ← HU.out] at h
        have e : (l.take k ≠ []) ↔ (k ≠ 0) := by
          rw [← List.length_pos_iff, LL.out]; omega
        simp only [e] at h; exact h)
      clear KL
      rcases (by omega : k = 0 ∨ k = 1 ∨ k = 2 ∨ k = 3 ∨ k = 4 ∨ k = 5 ∨ k = 6 ∨ k = 7 ∨ k = 8 ∨ k = 9) with rfl | rfl | rfl | rfl | rfl | rfl | rfl | rfl | rfl | rfl
      · rw [show ((0 : Nat) : Int) = (0 : Int) from rfl]
        rw [Nat.add_zero] at h1
        have C1 : (128 : Nat) ^ 0 = 1 := by decide
        have lb := LB.out
        rw [C1] at lb L1 L3
        obtain ⟨V, hV⟩ : ∃ V, V = U + 1 * g := ⟨_, rfl⟩
        have VB : V < 18446744073709551616 := by rw [hV]; omega
        have hor : bits .or .u64 (U : Int) ((g : Int)) = ((V : Nat) : Int) := by
          have h := orl 0 U g (by omega) (by omega)
          have e : ((g * 2 ^ 0 : Nat) : Int) = (g : Int) := by simp
          rw [e] at h; rw [h, hV]
        by_cases hm : 128 ≤ x
        · have HVE : Hid (low (l.take 1) = V) := Lib.hid (by rw [L1.out, hV]; have := HG.out; omega)
          have VH := Lib.hid VB
          clear hV lb C1 VB
          go_wp2
          go_roundw
          case rel => exact ⟨1, n, by omega, by omega, rfl, rfl, by rw [HVE.out], by rw [HVE.out]; exact VH, Lib.hid (L2.out hm)⟩
          case measure => simp [intOf]
        · obtain rfl : g = x := by have := HG.out; omega
          have HD : Hid (Qc_ l = .tuple #[.int .i64 (Qfz V), .int .i64 ((1 : Nat) : Int), .int .i64 0]) := Lib.hid (by unfold Qc_; rw [L3.out (by omega), if_neg (by intro h; rcases h with h | h; exact h.2 rfl; omega), ← hV])
          have HU2 := Lib.hid (Qb1 V VB)
          have hm' : g < 128 := by omega
          clear hV lb C1 VB hm
          go_wp2
          all_goals rw [HU2.out]
          all_goals go_ret3
          all_goals exact ⟨by rw [HD.out]; first | done | rfl, n, rfl⟩
      · have C1 : (128 : Nat) ^ 1 = 128 := by decide
        have lb := LB.out
        rw [C1] at lb L1 L3
        obtain ⟨V, hV⟩ : ∃ V, V = U + 128 * g := ⟨_, rfl⟩
        have VB : V < 18446744073709551616 := by rw [hV]; omega
        have hor : bits .or .u64 (U : Int) ((g : Int) * 128) = ((V : Nat) : Int) := by
          have h := orl 7 U g (by omega) (by omega)
          have e : ((g * 2 ^ 7 : Nat) : Int) = (g : Int) * 128 := by simp
          rw [e] at h; rw [h, hV]
        by_cases hm : 128 ≤ x
        · have HVE : Hid (low (l.take 2) = V) := Lib.hid (by rw [L1.out, hV]; have := HG.out; omega)
          have VH := Lib.hid VB
          clear hV lb C1 VB
          go_wp2
          go_roundw
          case rel => exact ⟨2, n, by omega, by omega, rfl, rfl, by rw [HVE.out], by rw [HVE.out]; exact VH, Lib.hid (L2.out hm)⟩
          case measure => simp [intOf]
        · obtain rfl : g = x := by have := HG.out; omega
          by_cases h0 : g = 0
          · subst h0
            have HD : Hid (Qc_ l = .tuple #[.int .i64 0, .int .i64 0, .int .i64 3]) := Lib.hid (by unfold Qc_; rw [L3.out (by omega), if_pos (Or.inl ⟨rfl, by decide⟩)])
            clear hV lb C1 VB hm
            go_wp2
            go_ret3
            exact ⟨by rw [HD.out]; first | done | rfl, n, rfl⟩
          · have h0' : ((g : Int) == 0) = false := by simp; omega
            have HD : Hid (Qc_ l = .tuple #[.int .i64 (Qfz V), .int .i64 ((2 : Nat) : Int), .int .i64 0]) := Lib.hid (by unfold Qc_; rw [L3.out (by omega), if_neg (by intro h; rcases h with h | h; exact h0 h.1; omega), ← hV])
            have HU2 := Lib.hid (Qb1 V VB)
            have hm' : g < 128 := by omega
            clear hV lb C1 VB hm h0
            go_wp2
            rw [HU2.out]
            go_ret3
            exact ⟨by rw [HD.out]; first | done | rfl, n, rfl⟩
      · have C1 : (128 : Nat) ^ 2 = 16384 := by decide
        have lb := LB.out
        rw [C1] at lb L1 L3
        obtain ⟨V, hV⟩ : ∃ V, V = U + 16384 * g := ⟨_, rfl⟩
        have VB : V < 18446744073709551616 := by rw [hV]; omega
        have hor : bits .or .u64 (U : Int) ((g : Int) * 16384) = ((V : Nat) : Int) := by
          have h := orl 14 U g (by omega) (by omega)
          have e : ((g * 2 ^ 14 : Nat) : Int) = (g : Int) * 16384 := by simp
          rw [e] at h; rw [h, hV]
        by_cases hm : 128 ≤ x
        · have HVE : Hid (low (l.take 3) = V) := Lib.hid (by rw [L1.out, hV]; have := HG.out; omega)
          have VH := Lib.hid VB
          clear hV lb C1 VB
          go_wp2
          go_roundw
          case rel => exact ⟨3, n, by omega, by omega, rfl, rfl, by rw [HVE.out], by rw [HVE.out]; exact VH, Lib.hid (L2.out hm)⟩
          case measure => simp [intOf]
        · obtain rfl : g = x := by have := HG.out; omega
          by_cases h0 : g = 0
          · subst h0
            have HD : Hid (Qc_ l = .tuple #[.int .i64 0, .int .i64 0, .int .i64 3]) := Lib.hid (by unfold Qc_; rw [L3.out (by omega), if_pos (Or.inl ⟨rfl, by decide⟩)])
            clear hV lb C1 VB hm
            go_wp2
            go_ret3
            exact ⟨by rw [HD.out]; first | done | rfl, n, rfl⟩
          · have h0' : ((g : Int) == 0) = false := by simp; omega
            have HD : Hid (Qc_ l = .tuple #[.int .i64 (Qfz V), .int .i64 ((3 : Nat) : Int), .int .i64 0]) := Lib.hid (by unfold Qc_; rw [L3.out (by omega), if_neg (by intro h; rcases h with h | h; exact h0 h.1; omega), ← hV])
            have HU2 := Lib.hid (Qb1 V VB)
            have hm' : g < 128 := by omega
            clear hV lb C1 VB hm h0
            go_wp2
            rw [HU2.out]
            go_ret3
            exact ⟨by rw [HD.out]; first | done | rfl, n, rfl⟩
      · have C1 : (128 : Nat) ^ 3 = 2097152 := by decide
        have lb := LB.out
        rw [C1] at lb L1 L3
        obtain ⟨V, hV⟩ : ∃ V, V = U + 2097152 * g := ⟨_, rfl⟩
        have VB : V < 18446744073709551616 := by rw [hV]; omega
        have hor : bits .or .u64 (U : Int) ((g : Int) * 2097152) = ((V : Nat) : Int) := by
          have h := orl 21 U g (by omega) (by omega)
          have e : ((g * 2 ^ 21 : Nat) : Int) = (g : Int) * 2097152 := by simp
          rw [e] at h; rw [h, hV]
        by_cases hm : 128 ≤ x
        · have HVE : Hid (low (l.take 4) = V) := Lib.hid (by rw [L1.out, hV]; have := HG.out; omega)
          have VH := Lib.hid VB
          clear hV lb C1 VB
          go_wp2
          go_roundw
          case rel => exact ⟨4, n, by omega, by omega, rfl, rfl, by rw [HVE.out], by rw [HVE.out]; exact VH, Lib.hid (L2.out hm)⟩
          case measure => simp [intOf]
        · obtain rfl : g = x := by have := HG.out; omega
          by_cases h0 : g = 0
          · subst h0
            have HD : Hid (Qc_ l = .tuple #[.int .i64 0, .int .i64 0, .int .i64 3]) := Lib.hid (by unfold Qc_; rw [L3.out (by omega), if_pos (Or.inl ⟨rfl, by decide⟩)])
            clear hV lb C1 VB hm
            go_wp2
            go_ret3
            exact ⟨by rw [HD.out]; first | done | rfl, n, rfl⟩
          · have h0' : ((g : Int) == 0) = false := by simp; omega
            have HD : Hid (Qc_ l = .tuple #[.int .i64 (Qfz V), .int .i64 ((4 : Nat) : Int), .int .i64 0]) := Lib.hid (by unfold Qc_; rw [L3.out (by omega), if_neg (by intro h; rcases h with h | h; exact h0 h.1; omega), ← hV])
            have HU2 := Lib.hid (Qb1 V VB)
            have hm' : g < 128 := by omega
            clear hV lb C1 VB hm h0
            go_wp2
            rw [HU2.out]
            go_ret3
            exact ⟨by rw [HD.out]; first | done | rfl, n, rfl⟩
      · have C1 : (128 : Nat) ^ 4 = 268435456 := by decide
        have lb := LB.out
        rw [C1] at lb L1 L3
        obtain ⟨V, hV⟩ : ∃ V, V = U + 268435456 * g := ⟨_, rfl⟩
        have VB : V < 18446744073709551616 := by rw [hV]; omega
        have hor : bits .or .u64 (U : Int) ((g : Int) * 268435456) = ((V : Nat) : Int) := by
          have h := orl 28 U g (by omega) (by omega)
          have e : ((g * 2 ^ 28 : Nat) : Int) = (g : Int) * 268435456 := by simp
          rw [e] at h; rw [h, hV]
        by_cases hm : 128 ≤ x
        · have HVE : Hid (low (l.take 5) = V) := Lib.hid (by rw [L1.out, hV]; have := HG.out; omega)
          have VH := Lib.hid VB
          clear hV lb C1 VB
          go_wp2
          go_roundw
          case rel => exact ⟨5, n, by omega, by omega, rfl, rfl, by rw [HVE.out], by rw [HVE.out]; exact VH, Lib.hid (L2.out hm)⟩
          case measure => simp [intOf]
        · obtain rfl : g = x := by have := HG.out; omega
          by_cases h0 : g = 0
          · subst h0
            have HD : Hid (Qc_ l = .tuple #[.int .i64 0, .int .i64 0, .int .i64 3]) := Lib.hid (by unfold Qc_; rw [L3.out (by omega), if_pos (Or.inl ⟨rfl, by decide⟩)])
            clear hV lb C1 VB hm
            go_wp2
            go_ret3
            exact ⟨by rw [HD.out]; first | done | rfl, n, rfl⟩
          · have h0' : ((g : Int) == 0) = false := by simp; omega
            have HD : Hid (Qc_ l = .tuple #[.int .i64 (Qfz V), .int .i64 ((5 : Nat) : Int), .int .i64 0]) := Lib.hid (by unfold Qc_; rw [L3.out (by omega), if_neg (by intro h; rcases h with h | h; exact h0 h.1; omega), ← hV])
            have HU2 := Lib.hid (Qb1 V VB)
            have hm' : g < 128 := by omega
            clear hV lb C1 VB hm h0
            go_wp2
            rw [HU2.out]
            go_ret3
            exact ⟨by rw [HD.out]; first | done | rfl, n, rfl⟩
      · have C1 : (128 : Nat) ^ 5 = 34359738368 := by decide
        have lb := LB.out
        rw [C1] at lb L1 L3
        obtain ⟨V, hV⟩ : ∃ V, V = U + 34359738368 * g := ⟨_, rfl⟩
        have VB : V < 18446744073709551616 := by rw [hV]; omega
        have hor : bits .or .u64 (U : Int) ((g : Int) * 34359738368) = ((V : Nat) : Int) := by
          have h := orl 35 U g (by omega) (by omega)
          have e : ((g * 2 ^ 35 : Nat) : Int) = (g : Int) * 34359738368 := by simp
          rw [e] at h; rw [h, hV]
        by_cases hm : 128 ≤ x
        · have HVE : Hid (low (l.take 6) = V) := Lib.hid (by rw [L1.out, hV]; have := HG.out; omega)
          have VH := Lib.hid VB
          clear hV lb C1 VB
          go_wp2
          go_roundw
          case rel => exact ⟨6, n, by omega, by omega, rfl, rfl, by rw [HVE.out], by rw [HVE.out]; exact VH, Lib.hid (L2.out hm)⟩
          case measure => simp [intOf]
        · obtain rfl : g = x := by have := HG.out; omega
          by_cases h0 : g = 0
          · subst h0
            have HD : Hid (Qc_ l = .tuple #[.int .i64 0, .int .i64 0, .int .i64 3]) := Lib.hid (by unfold Qc_; rw [L3.out (by omega), if_pos (Or.inl ⟨rfl, by decide⟩)])
            clear hV lb C1 VB hm
            go_wp2
            go_ret3
            exact ⟨by rw [HD.out]; first | done | rfl, n, rfl⟩
          · have h0' : ((g : Int) == 0) = false := by simp; omega
            have HD : Hid (Qc_ l = .tuple #[.int .i64 (Qfz V), .int .i64 ((6 : Nat) : Int), .int .i64 0]) := Lib.hid (by unfold Qc_; rw [L3.out (by omega), if_neg (by intro h; rcases h with h | h; exact h0 h.1; omega), ← hV])
            have HU2 := Lib.hid (Qb1 V VB)
            have hm' : g < 128 := by omega
            clear hV lb C1 VB hm h0
            go_wp2
            rw [HU2.out]
            go_ret3
            exact ⟨by rw [HD.out]; first | done | rfl, n, rfl⟩
      · have C1 : (128 : Nat) ^ 6 = 4398046511104 := by decide
        have lb := LB.out
        rw [C1] at lb L1 L3
        obtain ⟨V, hV⟩ : ∃ V, V = U + 4398046511104 * g := ⟨_, rfl⟩
        have VB : V < 18446744073709551616 := by rw [hV]; omega
        have hor : bits .or .u64 (U : Int) ((g : Int) * 4398046511104) = ((V : Nat) : Int) := by
          have h := orl 42 U g (by omega) (by omega)
          have e : ((g * 2 ^ 42 : Nat) : Int) = (g : Int) * 4398046511104 := by simp
          rw [e] at h; rw [h, hV]
        by_cases hm : 128 ≤ x
        · have HVE : Hid (low (l.take 7) = V) := Lib.hid (by rw [L1.out, hV]; have := HG.out; omega)
          have VH := Lib.hid VB
          clear hV lb C1 VB
          go_wp2
          go_roundw
          case rel => exact ⟨7, n, by omega, by omega, rfl, rfl, by rw [HVE.out], by rw [HVE.out]; exact VH, Lib.hid (L2.out hm)⟩
          case measure => simp [intOf]
        · obtain rfl : g = x := by have := HG.out; omega
          by_cases h0 : g = 0
          · subst h0
            have HD : Hid (Qc_ l = .tuple #[.int .i64 0, .int .i64 0, .int .i64 3]) := Lib.hid (by unfold Qc_; rw [L3.out (by omega), if_pos (Or.inl ⟨rfl, by decide⟩)])
            clear hV lb C1 VB hm
            go_wp2
            go_ret3
            exact ⟨by rw [HD.out]; first | done | rfl, n, rfl⟩
          · have h0' : ((g : Int) == 0) = false := by simp; omega
            have HD : Hid (Qc_ l = .tuple #[.int .i64 (Qfz V), .int .i64 ((7 : Nat) : Int), .int .i64 0]) := Lib.hid (by unfold Qc_; rw [L3.out (by omega), if_neg (by intro h; rcases h with h | h; exact h0 h.1; omega), ← hV])
            have HU2 := Lib.hid (Qb1 V VB)
            have hm' : g < 128 := by omega
            clear hV lb C1 VB hm h0
            go_wp2
            rw [HU2.out]
            go_ret3
            exact ⟨by rw [HD.out]; first | done | rfl, n, rfl⟩
      · have C1 : (128 : Nat) ^ 7 = 562949953421312 := by decide
        have lb := LB.out
        rw [C1] at lb L1 L3
        obtain ⟨V, hV⟩ : ∃ V, V = U + 562949953421312 * g := ⟨_, rfl⟩
        have VB : V < 18446744073709551616 := by rw [hV]; omega
        have hor : bits .or .u64 (U : Int) ((g : Int) * 562949953421312) = ((V : Nat) : Int) := by
          have h := orl 49 U g (by omega) (by omega)
          have e : ((g * 2 ^ 49 : Nat) : Int) = (g : Int) * 562949953421312 := by simp
          rw [e] at h; rw [h, hV]
        by_cases hm : 128 ≤ x
        · have HVE : Hid (low (l.take 8) = V) := Lib.hid (by rw [L1.out, hV]; have := HG.out; omega)
          have VH := Lib.hid VB
          clear hV lb C1 VB
          go_wp2
          go_roundw
          case rel => exact ⟨8, n, by omega, by omega, rfl, rfl, by rw [HVE.out], by rw [HVE.out]; exact VH, Lib.hid (L2.out hm)⟩
          case measure => simp [intOf]
        · obtain rfl : g = x := by have := HG.out; omega
          by_cases h0 : g = 0
          · subst h0
            have HD : Hid (Qc_ l = .tuple #[.int .i64 0, .int .i64 0, .int .i64 3]) := Lib.hid (by unfold Qc_; rw [L3.out (by omega), if_pos (Or.inl ⟨rfl, by decide⟩)])
            clear hV lb C1 VB hm
            go_wp2
            go_ret3
            exact ⟨by rw [HD.out]; first | done | rfl, n, rfl⟩
          · have h0' : ((g : Int) == 0) = false := by simp; omega
            have HD : Hid (Qc_ l = .tuple #[.int .i64 (Qfz V), .int .i64 ((8 : Nat) : Int), .int .i64 0]) := Lib.hid (by unfold Qc_; rw [L3.out (by omega), if_neg (by intro h; rcases h with h | h; exact h0 h.1; omega), ← hV])
            have HU2 := Lib.hid (Qb1 V VB)
            have hm' : g < 128 := by omega
            clear hV lb C1 VB hm h0
            go_wp2
            rw [HU2.out]
            go_ret3
            exact ⟨by rw [HD.out]; first | done | rfl, n, rfl⟩
      · have C1 : (128 : Nat) ^ 8 = 72057594037927936 := by decide
        have lb := LB.out
        rw [C1] at lb L1 L3
        obtain ⟨V, hV⟩ : ∃ V, V = U + 72057594037927936 * g := ⟨_, rfl⟩
        have VB : V < 18446744073709551616 := by rw [hV]; omega
        have hor : bits .or .u64 (U : Int) ((g : Int) * 72057594037927936) = ((V : Nat) : Int) := by
          have h := orl 56 U g (by omega) (by omega)
          have e : ((g * 2 ^ 56 : Nat) : Int) = (g : Int) * 72057594037927936 := by simp
          rw [e] at h; rw [h, hV]
        by_cases hm : 128 ≤ x
        · have HVE : Hid (low (l.take 9) = V) := Lib.hid (by rw [L1.out, hV]; have := HG.out; omega)
          have VH := Lib.hid VB
          clear hV lb C1 VB
          go_wp2
          go_roundw
          case rel => exact ⟨9, n, by omega, by omega, rfl, rfl, by rw [HVE.out], by rw [HVE.out]; exact VH, Lib.hid (L2.out hm)⟩
          case measure => simp [intOf]
        · obtain rfl : g = x := by have := HG.out; omega
          by_cases h0 : g = 0
          · subst h0
            have HD : Hid (Qc_ l = .tuple #[.int .i64 0, .int .i64 0, .int .i64 3]) := Lib.hid (by unfold Qc_; rw [L3.out (by omega), if_pos (Or.inl ⟨rfl, by decide⟩)])
            clear hV lb C1 VB hm
            go_wp2
            go_ret3
            exact ⟨by rw [HD.out]; first | done | rfl, n, rfl⟩
          · have h0' : ((g : Int) == 0) = false := by simp; omega
            have HD : Hid (Qc_ l = .tuple #[.int .i64 (Qfz V), .int .i64 ((9 : Nat) : Int), .int .i64 0]) := Lib.hid (by unfold Qc_; rw [L3.out (by omega), if_neg (by intro h; rcases h with h | h; exact h0 h.1; omega), ← hV])
            have HU2 := Lib.hid (Qb1 V VB)
            have hm' : g < 128 := by omega
            clear hV lb C1 VB hm h0
            go_wp2
            rw [HU2.out]
            go_ret3
            exact ⟨by rw [HD.out]; first | done | rfl, n, rfl⟩
      · have C1 : (128 : Nat) ^ 9 = 9223372036854775808 := by decide
        have lb := LB.out
        rw [C1] at lb L1 L3
        obtain ⟨V, hV⟩ : ∃ V, V = U + 9223372036854775808 * g := ⟨_, rfl⟩
        by_cases h9 : 1 < g
        · have HN : Hid (dec l = none) := Lib.hid (by
            have h := dec_wide (l.take 9) x (l.drop 10) hmore.out x256 LL.out (by rw [← HG.out]; exact h9)
            rw [← LA.out] at h; exact h)
          have HD : Hid (Qc_ l = .tuple #[.int .i64 0, .int .i64 0, .int .i64 3]) := Lib.hid (by unfold Qc_; rw [HN.out])
          have h9' : (1 : Int) < g := by omega
          clear hV lb C1 h9
          go_wp2
          go_ret3
          exact ⟨by rw [HD.out]; first | done | rfl, n, rfl⟩
        have h9' : (g : Int) ≤ 1 := by omega
        have VB : V < 18446744073709551616 := by rw [hV]; omega
        have hor : bits .or .u64 (U : Int) ((g : Int) * 9223372036854775808) = ((V : Nat) : Int) := by
          have h := orl 63 U g (by omega) (by omega)
          have e : ((g * 2 ^ 63 : Nat) : Int) = (g : Int) * 9223372036854775808 := by simp
          rw [e] at h; rw [h, hV]
        by_cases hm : 128 ≤ x
        · have HVE : Hid (low (l.take 10) = V) := Lib.hid (by rw [L1.out, hV]; have := HG.out; omega)
          have VH := Lib.hid VB
          clear hV lb C1 VB
          go_wp2
          go_roundw
          case rel => exact ⟨10, n, by omega, by omega, rfl, rfl, by rw [HVE.out], by rw [HVE.out]; exact VH, Lib.hid (L2.out hm)⟩
          case measure => simp [intOf]
        · obtain rfl : g = x := by have := HG.out; omega
          by_cases h0 : g = 0
          · subst h0
            have HD : Hid (Qc_ l = .tuple #[.int .i64 0, .int .i64 0, .int .i64 3]) := Lib.hid (by unfold Qc_; rw [L3.out (by omega), if_pos (Or.inl ⟨rfl, by decide⟩)])
            clear hV lb C1 VB hm
            go_wp2
            go_ret3
            exact ⟨by rw [HD.out]; first | done | rfl, n, rfl⟩
          · have h0' : ((g : Int) == 0) = false := by simp; omega
            have HD : Hid (Qc_ l = .tuple #[.int .i64 (Qfz V), .int .i64 ((10 : Nat) : Int), .int .i64 0]) := Lib.hid (by unfold Qc_; rw [L3.out (by omega), if_neg (by intro h; rcases h with h | h; exact h0 h.1; omega), ← hV])
            have HU2 := Lib.hid (Qb1 V VB)
            have hm' : g < 128 := by omega
            clear hV lb C1 VB hm h0
            go_wp2
            rw [HU2.out]
            go_ret3
            exact ⟨by rw [HD.out]; first | done | rfl, n, rfl⟩
    · have HD : Hid (Qc_ l = .tuple #[.int .i64 0, .int .i64 0, .int .i64 3]) := Lib.hid (by
        have hd : dec l = none := by
          by_cases h10 : k = 10
          · have h := Ql6 (l.take k) (l.drop k) hmore.out (by rw [List.length_take, ← NL.out]; omega)
            rwa [List.take_append_drop] at h
          · have hkL : k = l.length := by rw [← NL.out]; omega
            have h := dec_open (l.take k) hmore.out
            rwa [hkL, List.take_length] at h
        unfold Qc_; rw [hd])
      clear hmore hlow
      rcases (by omega : k = L ∨ (k < L ∧ k = 10)) with rfl | ⟨h1, rfl⟩
      all_goals go_wp2
      all_goals go_ret3
      all_goals exact ⟨by rw [HD.out]; first | done | rfl, n, rfl⟩
def blk (l : List Nat) : Option (Nat × Nat) := match dec l with
  | none => none
  | some (n, k) => if 0 ≤ n ∧ n ≤ (l.length : Int) - k then some (n.toNat, k) else none
end Go.Proofs.Ytfhmdlihnidjoaa
