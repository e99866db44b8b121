/-
  Merged: Vn0
-/
import Derived.Test.YtoijdnlplbeomaaDoorPx6
import Derived.Test.YtoijdnlplbeomaaDoorPx1
import Derived.Lib.ItoaNum

/-
  Layer 8: decimal numerals, as the reference writes them.
-/
namespace Go.Proofs.YtoijdnlplbeomaaDoor
open Go Go.RowKit EX
set_option maxRecDepth 100000
set_option linter.unusedVariables false
set_option linter.unusedSimpArgs false
def decB (a : Int) : ByteArray := ⟨(Lib.decDigits a.toNat).toArray⟩
theorem decB_step {a : Int} (h : 9 < a) : decB a = decB (a / 10) ++ decB (a % 10) := by
  have h1 : ¬ a.toNat < 10 := by omega
  have e1 : (a / 10).toNat = a.toNat / 10 := by omega
  have e2 : (a % 10).toNat = a.toNat % 10 := by omega
  have h2 : a.toNat % 10 < 10 := Nat.mod_lt _ (by omega)
  have hd : Lib.decDigits a.toNat = Lib.decDigits (a.toNat / 10) ++ Lib.decDigits (a.toNat % 10) := by
    rw [Lib.decDigits_one h2]
    conv => lhs; rw [Lib.decDigits, dif_neg h1]
  unfold decB
  rw [e1, e2, hd]
  apply ByteArray.ext
  simp
theorem decB_small {a : Int} (h0 : 0 ≤ a) (h : a < 10) : decB a = ⟨#[UInt8.ofNat (48 + a.toNat)]⟩ := by
  unfold decB
  rw [Lib.decDigits_one (by omega)]
theorem dec_len : ∀ (n u : Nat), u ≤ n → (Lib.decDigits u).length ≤ u / 10 + 1
  | 0, u, h => by
    have : u = 0 := by omega
    subst this
    rw [Lib.decDigits_one (by omega)]; simp
  | n + 1, u, h => by
    by_cases hu : u < 10
    · rw [Lib.decDigits_one hu]; simp
    · rw [Lib.decDigits, dif_neg hu]
      have := dec_len n (u / 10) (by omega)
      simp only [List.length_append, List.length_cons, List.length_nil]
      omega
theorem decB_size (a : Int) : (decB a).size ≤ a.toNat / 10 + 1 := by
  have := dec_len a.toNat a.toNat (Nat.le_refl _)
  unfold decB
  show (Lib.decDigits a.toNat).toArray.size ≤ _
  simpa using this
abbrev DIG : FuncId := 51
section
variable [FC]
def knD (u : Int) : Kn := fun f args => match Nat.beq f DIG, args with
  | true, [.y (.int .u64 a)] => some (.y (.string (decB a)), [(.bool (decide (0 ≤ a ∧ a < u)), .bool true)])
  | _, _ => none
theorem knD_ok {u : Int} (h : ∀ a w, 0 ≤ a ∧ a < u → Calls Tryd.prog DIG #[.int .u64 a] w fun e w' => e = .returned (.string (decB a)) ∧ Below w.heap.size w w') : KnOk Tryd.prog (knD u) := by
  intro f args x cs hx
  unfold knD at hx
  split at hx
  · rename_i a hb
    simp only [Option.some.injEq, Prod.mk.injEq] at hx
    obtain ⟨rfl, rfl⟩ := hx
    have := Nat.eq_of_beq_eq_true hb
    subst this
    refine ⟨by simp [bd], fun tr B w => ?_⟩
    have c := tr _ (List.mem_cons_self ..)
    simp only [Value.bool.injEq, decide_eq_true_eq] at c
    simpa [denL, den] using h a w c
  · cases hx
/-- Known results, once something was asked: so the call itself is run. -/
def kgCnd (k : KnG) : KnG := fun f args st => match st.cnd with
  | [] => none
  | _ :: _ => k f args st
theorem kgCnd_ok {P : Program} {k : KnG} (h : KnGOk P k) : KnGOk P (kgCnd k) := by
  intro f args st o hk
  unfold kgCnd at hk
  split at hk
  · cases hk
  · exact h f args st o hk
end
theorem dig_known (k : Nat) (hk : k < 10) (w : World) : Calls Tryd.prog DIG #[.int .u64 (k : Int)] w fun e w' => e = .returned (.string ⟨#[UInt8.ofNat (48 + k)]⟩) ∧ Below w.heap.size w w' := by
  match k, hk with
  | 0, _ => exact ex_val knNone_ok 100000 [.v (.int .u64 0)] [] [] (by kernel_rfl) (by simp [denL, den]) (by simp [bdL, bd]) (by intro q hq; cases hq)
  | 1, _ => exact ex_val knNone_ok 100000 [.v (.int .u64 1)] [] [] (by kernel_rfl) (by simp [denL, den]) (by simp [bdL, bd]) (by intro q hq; cases hq)
  | 2, _ => exact ex_val knNone_ok 100000 [.v (.int .u64 2)] [] [] (by kernel_rfl) (by simp [denL, den]) (by simp [bdL, bd]) (by intro q hq; cases hq)
  | 3, _ => exact ex_val knNone_ok 100000 [.v (.int .u64 3)] [] [] (by kernel_rfl) (by simp [denL, den]) (by simp [bdL, bd]) (by intro q hq; cases hq)
  | 4, _ => exact ex_val knNone_ok 100000 [.v (.int .u64 4)] [] [] (by kernel_rfl) (by simp [denL, den]) (by simp [bdL, bd]) (by intro q hq; cases hq)
  | 5, _ => exact ex_val knNone_ok 100000 [.v (.int .u64 5)] [] [] (by kernel_rfl) (by simp [denL, den]) (by simp [bdL, bd]) (by intro q hq; cases hq)
  | 6, _ => exact ex_val knNone_ok 100000 [.v (.int .u64 6)] [] [] (by kernel_rfl) (by simp [denL, den]) (by simp [bdL, bd]) (by intro q hq; cases hq)
  | 7, _ => exact ex_val knNone_ok 100000 [.v (.int .u64 7)] [] [] (by kernel_rfl) (by simp [denL, den]) (by simp [bdL, bd]) (by intro q hq; cases hq)
  | 8, _ => exact ex_val knNone_ok 100000 [.v (.int .u64 8)] [] [] (by kernel_rfl) (by simp [denL, den]) (by simp [bdL, bd]) (by intro q hq; cases hq)
  | 9, _ => exact ex_val knNone_ok 100000 [.v (.int .u64 9)] [] [] (by kernel_rfl) (by simp [denL, den]) (by simp [bdL, bd]) (by intro q hq; cases hq)
theorem dig_any : ∀ (n : Nat) (u : Int), u.toNat ≤ n → 0 ≤ u → u < 18446744073709551616 → ∀ w, Calls Tryd.prog DIG #[.int .u64 u] w fun e w' => e = .returned (.string (decB u)) ∧ Below w.heap.size w w' := by
  intro n
  induction n with
  | zero =>
    intro u h1 h0 hu w
    have : u = 0 := by omega
    subst this
    rw [decB_small (by omega) (by omega)]
    exact dig_known 0 (by omega) w
  | succ n ih =>
    intro u h1 h0 hu w
    by_cases h9 : 9 < u
    · have hd : u.tdiv 10 = u / 10 := Int.tdiv_eq_ediv_of_nonneg h0
      have hm : u.tmod 10 = u % 10 := Int.tmod_eq_emod_of_nonneg h0
      have hw : IntKind.u64.wrap (u.tdiv 10) = u / 10 := by
        rw [hd]
        simp [IntKind.wrap, IntKind.bits, IntKind.signed]
        omega
      rw [decB_step h9]
      refine (ex_runG (w := w) (x := .y (.string (decB (IntKind.u64.wrap (u.tdiv 10)) ++ decB (u.tmod 10)))) (kgCnd_ok (gk_ok (knD_ok (u := u) fun a w ha => ih a (by omega) ha.1 (by omega) w))) 100000 [.y (.int .u64 u)] [.bool true] [(.bool (decide ((decB (IntKind.u64.wrap (u.tdiv 10))).size + (decB (u.tmod 10)).size ≤ 9223372036854775807)), .bool true), (.bool (decide (0 ≤ u.tmod 10 ∧ u.tmod 10 < u)), .bool true), (.bool (decide (0 ≤ IntKind.u64.wrap (u.tdiv 10) ∧ IntKind.u64.wrap (u.tdiv 10) < u)), .bool true), (.bool (decide (u > 9)), .bool true)] (by kernel_rfl) (by simp [denL, den]) (by simp [bdL, bd]) (by
        intro q hq
        simp only [List.mem_cons, List.not_mem_nil, or_false] at hq
        rcases hq with rfl | rfl | rfl | rfl
        · exact congrArg Value.bool (decide_eq_true (by
            have a1 := decB_size (IntKind.u64.wrap (u.tdiv 10))
            have a2 := decB_size (u.tmod 10)
            rw [hw] at a1 ⊢
            rw [hm] at a2 ⊢
            omega))
        · exact congrArg Value.bool (decide_eq_true (by rw [hm]; omega))
        · exact congrArg Value.bool (decide_eq_true (by rw [hw]; omega))
        · exact congrArg Value.bool (decide_eq_true (by omega)))).mono ?_
      rintro e w' ⟨B, rfl, hb⟩
      exact ⟨by simp [den, hw, hm], hb⟩
    · have e : decB u = ⟨#[UInt8.ofNat (48 + u.toNat)]⟩ := decB_small h0 (by omega)
      rw [e]
      have := dig_known u.toNat (by omega) w
      rw [Int.toNat_of_nonneg h0] at this
      exact this
/-- A number's text. -/
def numB (n : Int) : ByteArray := ⟨(Lib.itoa n).toArray⟩
theorem numB_neg {n : Int} (h : n < 0) : numB n = (⟨#[45]⟩ : ByteArray) ++ decB (-n) := by
  have e : n.natAbs = (-n).toNat := by omega
  unfold numB Lib.itoa decB
  rw [if_pos h, e]
  apply ByteArray.ext
  simp
theorem numB_pos {n : Int} (h : 0 ≤ n) : numB n = decB n := by
  unfold numB Lib.itoa decB
  rw [if_neg (by omega)]
theorem num_any (n : Int) (hn : I64 n) (w : World) : Calls Tryd.prog 41 #[.int .i64 n] w fun e w' => e = .returned (.string (numB n)) ∧ Below w.heap.size w w' := by
  unfold I64 at hn
  have K : KnOk Tryd.prog (knD 18446744073709551616) := knD_ok fun a w ha => dig_any a.toNat a (Nat.le_refl _) ha.1 ha.2 w
  by_cases h : n < 0
  · have hw : IntKind.u64.wrap (0 - IntKind.u64.wrap n) = -n := by
      simp [IntKind.wrap, IntKind.bits, IntKind.signed]
      omega
    rw [numB_neg h]
    refine (ex_run (w := w) (x := .y (.string ((⟨#[45]⟩ : ByteArray) ++ decB (IntKind.u64.wrap (0 - IntKind.u64.wrap n))))) K 100000 [.y (.int .i64 n)] [.bool true] [(.bool (decide ((⟨#[45]⟩ : ByteArray).size + (decB (IntKind.u64.wrap (0 - IntKind.u64.wrap n))).size ≤ 9223372036854775807)), .bool true), (.bool (decide (0 ≤ IntKind.u64.wrap (0 - IntKind.u64.wrap n) ∧ IntKind.u64.wrap (0 - IntKind.u64.wrap n) < 18446744073709551616)), .bool true), (.bool (decide (n < 0)), .bool true)] (by kernel_rfl) (by simp [denL, den]) (by simp [bdL, bd]) (by
      intro q hq
      simp only [List.mem_cons, List.not_mem_nil, or_false] at hq
      rcases hq with rfl | rfl | rfl
      · exact congrArg Value.bool (decide_eq_true (by
          have a1 := decB_size (IntKind.u64.wrap (0 - IntKind.u64.wrap n))
          have a2 : (⟨#[45]⟩ : ByteArray).size = 1 := rfl
          rw [hw] at a1 ⊢
          omega))
      · exact congrArg Value.bool (decide_eq_true (by rw [hw]; omega))
      · exact congrArg Value.bool (decide_eq_true h))).mono ?_
    rintro e w' ⟨B, rfl, hb⟩
    exact ⟨by simp only [den]; rw [hw], hb⟩
  · have hw : IntKind.u64.wrap n = n := by
      simp [IntKind.wrap, IntKind.bits, IntKind.signed]
      omega
    rw [numB_pos (by omega)]
    refine (ex_run (w := w) (x := .y (.string (decB (IntKind.u64.wrap n)))) K 100000 [.y (.int .i64 n)] [.bool false] [(.bool (decide (0 ≤ IntKind.u64.wrap n ∧ IntKind.u64.wrap n < 18446744073709551616)), .bool true), (.bool (decide (n < 0)), .bool false)] (by kernel_rfl) (by simp [denL, den]) (by simp [bdL, bd]) (by
      intro q hq
      simp only [List.mem_cons, List.not_mem_nil, or_false] at hq
      rcases hq with rfl | rfl
      · exact congrArg Value.bool (decide_eq_true (by rw [hw]; omega))
      · exact congrArg Value.bool (decide_eq_false h))).mono ?_
    rintro e w' ⟨B, rfl, hb⟩
    exact ⟨by simp [den, hw], hb⟩
end Go.Proofs.YtoijdnlplbeomaaDoor
