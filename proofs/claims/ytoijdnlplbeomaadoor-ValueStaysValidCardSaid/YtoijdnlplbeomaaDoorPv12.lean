/-
  Merged: Rd0, Md0, Md1, Md2, Md3, Md4, Md5, Md6, Md7
-/
import Derived.Test.YtoijdnlplbeomaaDoorRows
import Derived.Test.YtoijdnlplbeomaaDoorPv5
import Derived.Test.YtoijdnlplbeomaaDoorPv3

/-
  Layer 8: the example, and how integers are brought into range.
-/
namespace Go.Proofs.YtoijdnlplbeomaaDoor
open Go Go.RowKit EX
set_option maxRecDepth 100000
set_option linter.unusedVariables false
set_option linter.unusedSimpArgs false
theorem sane08 (w : World) : Calls Tryd.prog 7 #[] w fun e w' => e = .returned (.bool true) ∧ Below w.heap.size w w' :=
  ex_val knNone_ok 100000 [] [] [] (by kernel_rfl) (by simp [denL]) trivial (by intro q hq; cases hq)
def ff : Value := .bool false
def tt : Value := .bool true
/-- Round, as the program does it. -/
def rnd (n : Int) : Int := if Int.tmod n 2199023255553 > 1099511627776 then Int.tmod n 2199023255553 - 2199023255553 else if Int.tmod n 2199023255553 < -1099511627776 then Int.tmod n 2199023255553 + 2199023255553 else Int.tmod n 2199023255553
theorem tmod_M (n : Int) : (0 ≤ n ∧ Int.tmod n 2199023255553 = n % 2199023255553) ∨ (n < 0 ∧ Int.tmod n 2199023255553 = -((-n) % 2199023255553)) := by
  by_cases h : 0 ≤ n
  · exact Or.inl ⟨h, Int.tmod_eq_emod_of_nonneg h⟩
  · refine Or.inr ⟨by omega, ?_⟩
    have := Int.neg_tmod (-n) 2199023255553
    rw [Int.neg_neg] at this
    rw [this, Int.tmod_eq_emod_of_nonneg (by omega)]
/-- Round, as the remainder that lies around zero. -/
theorem rnd_eq (n : Int) : rnd n = if n % 2199023255553 ≤ 1099511627776 then n % 2199023255553 else n % 2199023255553 - 2199023255553 := by
  unfold rnd
  rcases tmod_M n with ⟨h, e⟩ | ⟨h, e⟩ <;> rw [e] <;> split <;> (try split) <;> (try split) <;> omega
theorem rnd_range (n : Int) : -1099511627776 ≤ rnd n ∧ rnd n ≤ 1099511627776 := by
  rw [rnd_eq]; split <;> omega
def tm (n : Int) : Int := Int.tmod n 2199023255553
theorem tm_range (n : Int) : -2199023255553 < tm n ∧ tm n < 2199023255553 := by
  unfold tm
  rcases tmod_M n with ⟨h, e⟩ | ⟨h, e⟩ <;> rw [e] <;> omega
theorem round_any (n : Int) (w : World) : Calls Tryd.prog 17 #[.int .i64 n] w fun e w' => e = .returned (.int .i64 (rnd n)) ∧ Below w.heap.size w w' := by
  have hr := tm_range n
  by_cases h1 : tm n > 1099511627776
  · refine (ex_run (w := w) (x := .y (.int .i64 (IntKind.i64.wrap (tm n - 2199023255553)))) knNone_ok 100000 [.y (.int .i64 n)] [tt] [(.bool (decide (tm n > 1099511627776)), tt)] (by kernel_rfl) (by simp [denL, den]) (by simp [bdL, bd]) (by
      intro q hq
      simp only [List.mem_cons, List.not_mem_nil, or_false] at hq
      subst hq; simp [h1, tt])).mono ?_
    rintro e w' ⟨B, rfl, hb⟩
    have e1 : IntKind.i64.wrap (tm n - 2199023255553) = rnd n := by
      rw [IntKind.wrap_i64]
      have : rnd n = tm n - 2199023255553 := by unfold rnd; exact if_pos h1
      omega
    exact ⟨by rw [den, e1], hb⟩
  · by_cases h2 : tm n < -1099511627776
    · refine (ex_run (w := w) (x := .y (.int .i64 (IntKind.i64.wrap (tm n + 2199023255553)))) knNone_ok 100000 [.y (.int .i64 n)] [ff, tt] [(.bool (decide (tm n < -1099511627776)), tt), (.bool (decide (tm n > 1099511627776)), ff)] (by kernel_rfl) (by simp [denL, den]) (by simp [bdL, bd]) (by
        intro q hq
        simp only [List.mem_cons, List.not_mem_nil, or_false] at hq
        rcases hq with rfl | rfl
        · simp [h2, tt]
        · simp only [ff, Value.bool.injEq, decide_eq_false_iff_not]; exact h1)).mono ?_
      rintro e w' ⟨B, rfl, hb⟩
      have e1 : IntKind.i64.wrap (tm n + 2199023255553) = rnd n := by
        rw [IntKind.wrap_i64]
        have : rnd n = tm n + 2199023255553 := by unfold rnd; exact (if_neg h1).trans (if_pos h2)
        omega
      exact ⟨by rw [den, e1], hb⟩
    · refine (ex_run (w := w) (x := .y (.int .i64 (tm n))) knNone_ok 100000 [.y (.int .i64 n)] [ff, ff] [(.bool (decide (tm n < -1099511627776)), ff), (.bool (decide (tm n > 1099511627776)), ff)] (by kernel_rfl) (by simp [denL, den]) (by simp [bdL, bd]) (by
        intro q hq
        simp only [List.mem_cons, List.not_mem_nil, or_false] at hq
        rcases hq with rfl | rfl
        · simp only [ff, Value.bool.injEq, decide_eq_false_iff_not]; exact h2
        · simp only [ff, Value.bool.injEq, decide_eq_false_iff_not]; exact h1)).mono ?_
      rintro e w' ⟨B, rfl, hb⟩
      have e1 : tm n = rnd n := by unfold rnd; exact ((if_neg h1).trans (if_neg h2)).symm
      exact ⟨by rw [den, e1], hb⟩
theorem knI_ok' {P : Program} {f0 : FuncId} {g : Int → Value} (h : ∀ a w, Calls P f0 #[.int .i64 a] w fun e w' => e = .returned (g a) ∧ Below w.heap.size w w') : KnOk P (knI f0 g) := by
  intro f args x cs hx
  unfold knI at hx
  split at hx
  · rename_i a hb
    simp only [Option.some.injEq, Prod.mk.injEq] at hx
    obtain ⟨rfl, rfl⟩ := hx
    have := Nat.eq_of_beq_eq_true hb
    subst this
    refine ⟨by simp [bd], fun tr B w => ?_⟩
    simpa [denL, den] using h a w
  · cases hx
def kn8 : Kn := knOr (kn1 7 (.bool true)) (knI 17 fun a => .int .i64 (rnd a))
theorem kn8_ok : KnOk Tryd.prog kn8 := knOr_ok (kn1_ok sane08) (knI_ok' round_any)
end Go.Proofs.YtoijdnlplbeomaaDoor


/-
  Layer 8: the remainder of a product of two words by the modulus, as the standard library computes it.
-/
namespace Go.Proofs.YtoijdnlplbeomaaDoor
open Go Go.RowKit EX
set_option maxRecDepth 100000
set_option linter.unusedVariables false
set_option linter.unusedSimpArgs false
def pw (p : Bool) (b : Bool) : Value × Value := (.bool p, .bool b)
def wU (x : Int) : Int := IntKind.u64.wrap x
def wAn (x m : Int) : Int := IntKind.u64.wrap (((BitVec.ofInt 64 x &&& BitVec.ofInt 64 m).toNat : Nat) : Int)
def wOr (x m : Int) : Int := IntKind.u64.wrap (((BitVec.ofInt 64 x ||| BitVec.ofInt 64 m).toNat : Nat) : Int)
def wSh (x : Int) (n : Nat) : Int := x.fdiv (2 ^ n)
def wSl (x : Int) (n : Nat) : Int := IntKind.u64.wrap (x * 2 ^ n)
/-- The high part of the dividend, as it is taken. -/
def mH (hi : Int) : Int := Int.tmod hi 2199023255553
def mA (hi lo : Int) : Int := wOr (wSl (mH hi) 22) (wSh lo 42)
def mL (lo : Int) : Int := wSl lo 22
def mD (lo : Int) : Int := wSh (mL lo) 32
def mE (lo : Int) : Int := wAn (mL lo) 4294967295
def mQ (v : Int) : Int := wU (Int.tdiv v 2147483648)
def mR (v : Int) : Int := wU (v - wU (mQ v * 2147483648))
def mCmp (q r d : Int) : Bool := decide (wU (q * 4194304) > wU (wU (4294967296 * r) + d))
def mDec (q : Int) : Int := wU (q - 1)
def mInc (r : Int) : Int := wU (r + 2147483648)
def mV (a d q : Int) : Int := wU (wU (wU (a * 4294967296) + d) - wU (q * 9223372036858970112))
def mRes (v e q : Int) : Int := wSh (wU (wU (wU (v * 4294967296) + e) - wU (q * 9223372036858970112))) 22
def big (x : Int) : Bool := decide (x ≥ 4294967296)
abbrev REM : FuncId := 54
abbrev argR (hi lo : Int) : List SV := [.y (.int .u64 hi), .y (.int .u64 lo), .v (.int .u64 2199023255553)]
def csZ (hi : Int) : List (Value × Value) := [pw (mH hi == 0) true, pw (decide (2199023255553 ≤ mH hi)) false]
theorem rem_0 (w : World) (hi lo : Int) (hc : ∀ q ∈ csZ hi, q.1 = q.2) : Calls Tryd.prog REM #[.int .u64 hi, .int .u64 lo, .int .u64 2199023255553] w fun e w' => e = .returned (.int .u64 (Int.tmod lo 2199023255553)) ∧ Below w.heap.size w w' :=
  (ex_run (x := .y (.int .u64 (Int.tmod lo 2199023255553))) knNone_ok 100000 (argR hi lo) [ff, tt] (csZ hi) (by kernel_rfl) (by simp [argR, denL, den]) (by simp [argR, bdL, bd]) hc).mono fun e w' ⟨B, h1, h2⟩ => ⟨by rw [h1, den], h2⟩
end Go.Proofs.YtoijdnlplbeomaaDoor


/-
  Layer 8: the remainder by the modulus: runs, each step under a name.
-/
namespace Go.Proofs.YtoijdnlplbeomaaDoor
open Go Go.RowKit EX
set_option maxRecDepth 100000
set_option linter.unusedVariables false
set_option linter.unusedSimpArgs false
abbrev DIV : FuncId := 59
def tl (f s : Nat) (x : Int) : Value := .tuple #[.int .i64 f, .int .i64 s, .int .u64 x, .bool true]
def pe (x y : Int) : Value × Value := (.int .u64 x, .int .u64 y)
def csNN (hi lo H A L D E Q1 R1 V Q3 R3 X : Int) : List (Value × Value) := [pe (mRes V E Q3) X, pw (mCmp Q3 R3 E) false, pw (big Q3) false, pe (wU (V - wU (Q3 * 2147483648))) R3, pe (wU (Int.tdiv V 2147483648)) Q3, pe (mV A D Q1) V, pw (mCmp Q1 R1 D) false, pw (big Q1) false, pe (wU (A - wU (Q1 * 2147483648))) R1, pe (wU (Int.tdiv A 2147483648)) Q1, pe (wAn L 4294967295) E, pe (wSh L 32) D, pe (wSl lo 22) L, pe (wOr (wSl H 22) (wSh lo 42)) A, pw (H == 0) false, pw (decide (2199023255553 ≤ H)) false, pe (Int.tmod hi 2199023255553) H]
theorem rem_NN (w : World) (hi lo H A L D E Q1 R1 V Q3 R3 X : Int) (hc : ∀ q ∈ csNN hi lo H A L D E Q1 R1 V Q3 R3 X, q.1 = q.2) : Calls Tryd.prog REM #[.int .u64 hi, .int .u64 lo, .int .u64 2199023255553] w fun e w' => e = .returned (.int .u64 X) ∧ Below w.heap.size w w' :=
  (ex_run (x := .y (.int .u64 X)) knNone_ok 100000 (argR hi lo) [tl REM 12 H, ff, ff, tl DIV 51 A, tl DIV 54 L, tl DIV 56 D, tl DIV 58 E, tl DIV 61 Q1, tl DIV 66 R1, ff, ff, tl DIV 93 V, tl DIV 96 Q3, tl DIV 101 R3, ff, ff, tl DIV 134 X] (csNN hi lo H A L D E Q1 R1 V Q3 R3 X) (by kernel_rfl) (by simp [argR, denL, den]) (by simp [argR, bdL, bd]) hc).mono fun e w' ⟨B, h1, h2⟩ => ⟨by rw [h1, den], h2⟩
def csNM (hi lo H A L D E Q1 R1 V Q3 R3 Q4 R4 X : Int) : List (Value × Value) := [pe (mRes V E Q4) X, pw (mCmp Q4 R4 E) false, pw (big Q4) false, pw (big R4) false, pe (mInc R3) R4, pe (mDec Q3) Q4, pw (mCmp Q3 R3 E) true, pw (big Q3) false, pe (wU (V - wU (Q3 * 2147483648))) R3, pe (wU (Int.tdiv V 2147483648)) Q3, pe (mV A D Q1) V, pw (mCmp Q1 R1 D) false, pw (big Q1) false, pe (wU (A - wU (Q1 * 2147483648))) R1, pe (wU (Int.tdiv A 2147483648)) Q1, pe (wAn L 4294967295) E, pe (wSh L 32) D, pe (wSl lo 22) L, pe (wOr (wSl H 22) (wSh lo 42)) A, pw (H == 0) false, pw (decide (2199023255553 ≤ H)) false, pe (Int.tmod hi 2199023255553) H]
theorem rem_NM (w : World) (hi lo H A L D E Q1 R1 V Q3 R3 Q4 R4 X : Int) (hc : ∀ q ∈ csNM hi lo H A L D E Q1 R1 V Q3 R3 Q4 R4 X, q.1 = q.2) : Calls Tryd.prog REM #[.int .u64 hi, .int .u64 lo, .int .u64 2199023255553] w fun e w' => e = .returned (.int .u64 X) ∧ Below w.heap.size w w' :=
  (ex_run (x := .y (.int .u64 X)) knNone_ok 100000 (argR hi lo) [tl REM 12 H, ff, ff, tl DIV 51 A, tl DIV 54 L, tl DIV 56 D, tl DIV 58 E, tl DIV 61 Q1, tl DIV 66 R1, ff, ff, tl DIV 93 V, tl DIV 96 Q3, tl DIV 101 R3, ff, tt, tl DIV 115 Q4, tl DIV 118 R4, ff, ff, ff, tl DIV 134 X] (csNM hi lo H A L D E Q1 R1 V Q3 R3 Q4 R4 X) (by kernel_rfl) (by simp [argR, denL, den]) (by simp [argR, bdL, bd]) hc).mono fun e w' ⟨B, h1, h2⟩ => ⟨by rw [h1, den], h2⟩
def csNF (hi lo H A L D E Q1 R1 V Q3 R3 Q4 R4 X : Int) : List (Value × Value) := [pe (mRes V E Q4) X, pw (mCmp Q4 R4 E) false, pw (big Q4) false, pw (big R4) false, pe (mInc R3) R4, pe (mDec Q3) Q4, pw (big Q3) true, pe (wU (V - wU (Q3 * 2147483648))) R3, pe (wU (Int.tdiv V 2147483648)) Q3, pe (mV A D Q1) V, pw (mCmp Q1 R1 D) false, pw (big Q1) false, pe (wU (A - wU (Q1 * 2147483648))) R1, pe (wU (Int.tdiv A 2147483648)) Q1, pe (wAn L 4294967295) E, pe (wSh L 32) D, pe (wSl lo 22) L, pe (wOr (wSl H 22) (wSh lo 42)) A, pw (H == 0) false, pw (decide (2199023255553 ≤ H)) false, pe (Int.tmod hi 2199023255553) H]
theorem rem_NF (w : World) (hi lo H A L D E Q1 R1 V Q3 R3 Q4 R4 X : Int) (hc : ∀ q ∈ csNF hi lo H A L D E Q1 R1 V Q3 R3 Q4 R4 X, q.1 = q.2) : Calls Tryd.prog REM #[.int .u64 hi, .int .u64 lo, .int .u64 2199023255553] w fun e w' => e = .returned (.int .u64 X) ∧ Below w.heap.size w w' :=
  (ex_run (x := .y (.int .u64 X)) knNone_ok 100000 (argR hi lo) [tl REM 12 H, ff, ff, tl DIV 51 A, tl DIV 54 L, tl DIV 56 D, tl DIV 58 E, tl DIV 61 Q1, tl DIV 66 R1, ff, ff, tl DIV 93 V, tl DIV 96 Q3, tl DIV 101 R3, tt, tl DIV 115 Q4, tl DIV 118 R4, ff, ff, ff, tl DIV 134 X] (csNF hi lo H A L D E Q1 R1 V Q3 R3 Q4 R4 X) (by kernel_rfl) (by simp [argR, denL, den]) (by simp [argR, bdL, bd]) hc).mono fun e w' ⟨B, h1, h2⟩ => ⟨by rw [h1, den], h2⟩
def csMN (hi lo H A L D E Q1 R1 Q2 R2 V Q3 R3 X : Int) : List (Value × Value) := [pe (mRes V E Q3) X, pw (mCmp Q3 R3 E) false, pw (big Q3) false, pe (wU (V - wU (Q3 * 2147483648))) R3, pe (wU (Int.tdiv V 2147483648)) Q3, pe (mV A D Q2) V, pw (mCmp Q2 R2 D) false, pw (big Q2) false, pw (big R2) false, pe (mInc R1) R2, pe (mDec Q1) Q2, pw (mCmp Q1 R1 D) true, pw (big Q1) false, pe (wU (A - wU (Q1 * 2147483648))) R1, pe (wU (Int.tdiv A 2147483648)) Q1, pe (wAn L 4294967295) E, pe (wSh L 32) D, pe (wSl lo 22) L, pe (wOr (wSl H 22) (wSh lo 42)) A, pw (H == 0) false, pw (decide (2199023255553 ≤ H)) false, pe (Int.tmod hi 2199023255553) H]
theorem rem_MN (w : World) (hi lo H A L D E Q1 R1 Q2 R2 V Q3 R3 X : Int) (hc : ∀ q ∈ csMN hi lo H A L D E Q1 R1 Q2 R2 V Q3 R3 X, q.1 = q.2) : Calls Tryd.prog REM #[.int .u64 hi, .int .u64 lo, .int .u64 2199023255553] w fun e w' => e = .returned (.int .u64 X) ∧ Below w.heap.size w w' :=
  (ex_run (x := .y (.int .u64 X)) knNone_ok 100000 (argR hi lo) [tl REM 12 H, ff, ff, tl DIV 51 A, tl DIV 54 L, tl DIV 56 D, tl DIV 58 E, tl DIV 61 Q1, tl DIV 66 R1, ff, tt, tl DIV 80 Q2, tl DIV 83 R2, ff, ff, ff, tl DIV 93 V, tl DIV 96 Q3, tl DIV 101 R3, ff, ff, tl DIV 134 X] (csMN hi lo H A L D E Q1 R1 Q2 R2 V Q3 R3 X) (by kernel_rfl) (by simp [argR, denL, den]) (by simp [argR, bdL, bd]) hc).mono fun e w' ⟨B, h1, h2⟩ => ⟨by rw [h1, den], h2⟩
def csMM (hi lo H A L D E Q1 R1 Q2 R2 V Q3 R3 Q4 R4 X : Int) : List (Value × Value) := [pe (mRes V E Q4) X, pw (mCmp Q4 R4 E) false, pw (big Q4) false, pw (big R4) false, pe (mInc R3) R4, pe (mDec Q3) Q4, pw (mCmp Q3 R3 E) true, pw (big Q3) false, pe (wU (V - wU (Q3 * 2147483648))) R3, pe (wU (Int.tdiv V 2147483648)) Q3, pe (mV A D Q2) V, pw (mCmp Q2 R2 D) false, pw (big Q2) false, pw (big R2) false, pe (mInc R1) R2, pe (mDec Q1) Q2, pw (mCmp Q1 R1 D) true, pw (big Q1) false, pe (wU (A - wU (Q1 * 2147483648))) R1, pe (wU (Int.tdiv A 2147483648)) Q1, pe (wAn L 4294967295) E, pe (wSh L 32) D, pe (wSl lo 22) L, pe (wOr (wSl H 22) (wSh lo 42)) A, pw (H == 0) false, pw (decide (2199023255553 ≤ H)) false, pe (Int.tmod hi 2199023255553) H]
theorem rem_MM (w : World) (hi lo H A L D E Q1 R1 Q2 R2 V Q3 R3 Q4 R4 X : Int) (hc : ∀ q ∈ csMM hi lo H A L D E Q1 R1 Q2 R2 V Q3 R3 Q4 R4 X, q.1 = q.2) : Calls Tryd.prog REM #[.int .u64 hi, .int .u64 lo, .int .u64 2199023255553] w fun e w' => e = .returned (.int .u64 X) ∧ Below w.heap.size w w' :=
  (ex_run (x := .y (.int .u64 X)) knNone_ok 100000 (argR hi lo) [tl REM 12 H, ff, ff, tl DIV 51 A, tl DIV 54 L, tl DIV 56 D, tl DIV 58 E, tl DIV 61 Q1, tl DIV 66 R1, ff, tt, tl DIV 80 Q2, tl DIV 83 R2, ff, ff, ff, tl DIV 93 V, tl DIV 96 Q3, tl DIV 101 R3, ff, tt, tl DIV 115 Q4, tl DIV 118 R4, ff, ff, ff, tl DIV 134 X] (csMM hi lo H A L D E Q1 R1 Q2 R2 V Q3 R3 Q4 R4 X) (by kernel_rfl) (by simp [argR, denL, den]) (by simp [argR, bdL, bd]) hc).mono fun e w' ⟨B, h1, h2⟩ => ⟨by rw [h1, den], h2⟩
def csMF (hi lo H A L D E Q1 R1 Q2 R2 V Q3 R3 Q4 R4 X : Int) : List (Value × Value) := [pe (mRes V E Q4) X, pw (mCmp Q4 R4 E) false, pw (big Q4) false, pw (big R4) false, pe (mInc R3) R4, pe (mDec Q3) Q4, pw (big Q3) true, pe (wU (V - wU (Q3 * 2147483648))) R3, pe (wU (Int.tdiv V 2147483648)) Q3, pe (mV A D Q2) V, pw (mCmp Q2 R2 D) false, pw (big Q2) false, pw (big R2) false, pe (mInc R1) R2, pe (mDec Q1) Q2, pw (mCmp Q1 R1 D) true, pw (big Q1) false, pe (wU (A - wU (Q1 * 2147483648))) R1, pe (wU (Int.tdiv A 2147483648)) Q1, pe (wAn L 4294967295) E, pe (wSh L 32) D, pe (wSl lo 22) L, pe (wOr (wSl H 22) (wSh lo 42)) A, pw (H == 0) false, pw (decide (2199023255553 ≤ H)) false, pe (Int.tmod hi 2199023255553) H]
theorem rem_MF (w : World) (hi lo H A L D E Q1 R1 Q2 R2 V Q3 R3 Q4 R4 X : Int) (hc : ∀ q ∈ csMF hi lo H A L D E Q1 R1 Q2 R2 V Q3 R3 Q4 R4 X, q.1 = q.2) : Calls Tryd.prog REM #[.int .u64 hi, .int .u64 lo, .int .u64 2199023255553] w fun e w' => e = .returned (.int .u64 X) ∧ Below w.heap.size w w' :=
  (ex_run (x := .y (.int .u64 X)) knNone_ok 100000 (argR hi lo) [tl REM 12 H, ff, ff, tl DIV 51 A, tl DIV 54 L, tl DIV 56 D, tl DIV 58 E, tl DIV 61 Q1, tl DIV 66 R1, ff, tt, tl DIV 80 Q2, tl DIV 83 R2, ff, ff, ff, tl DIV 93 V, tl DIV 96 Q3, tl DIV 101 R3, tt, tl DIV 115 Q4, tl DIV 118 R4, ff, ff, ff, tl DIV 134 X] (csMF hi lo H A L D E Q1 R1 Q2 R2 V Q3 R3 Q4 R4 X) (by kernel_rfl) (by simp [argR, denL, den]) (by simp [argR, bdL, bd]) hc).mono fun e w' ⟨B, h1, h2⟩ => ⟨by rw [h1, den], h2⟩
end Go.Proofs.YtoijdnlplbeomaaDoor


/-
  Layer 8: the remainder by the modulus: arithmetic.
-/
namespace Go.Proofs.YtoijdnlplbeomaaDoor
open Go Go.RowKit EX
set_option maxRecDepth 100000
set_option linter.unusedVariables false
set_option linter.unusedSimpArgs false
theorem wU_eq (x : Int) : wU x = x % 18446744073709551616 := by
  unfold wU
  simp [IntKind.wrap, IntKind.signed, IntKind.bits]
theorem wSh_eq (x : Int) (n : Nat) : wSh x n = x / 2 ^ n := by
  unfold wSh
  exact Int.fdiv_eq_ediv_of_nonneg x (Int.le_of_lt (Int.pow_pos (by decide)))
theorem wSl_eq (x : Int) (n : Nat) : wSl x n = (x * 2 ^ n) % 18446744073709551616 := wU_eq _
theorem ofN {x : Int} (h0 : 0 ≤ x) (h1 : x < 18446744073709551616) : (BitVec.ofInt 64 x).toNat = x.toNat := by
  rw [BitVec.toNat_ofInt]
  have h : (((2 : Nat) ^ 64 : Nat) : Int) = 18446744073709551616 := by decide
  rw [h, Int.emod_eq_of_lt h0 h1]
theorem wAn_eq {x : Int} (h0 : 0 ≤ x) (h1 : x < 18446744073709551616) : wAn x 4294967295 = x % 4294967296 := by
  have e := wU_eq (((BitVec.ofInt 64 x &&& BitVec.ofInt 64 4294967295).toNat : Nat) : Int)
  unfold wU at e
  unfold wAn
  rw [e, BitVec.toNat_and, ofN h0 h1, ofN (by decide) (by decide)]
  have : x.toNat &&& (4294967295 : Int).toNat = x.toNat % 4294967296 := Nat.and_two_pow_sub_one_eq_mod x.toNat 32
  rw [this]
  omega
theorem wOr_eq {a b : Int} (h0 : 0 ≤ a) (h1 : a < 4398046511104) (h2 : 0 ≤ b) (h3 : b < 4194304) : wOr (a * 4194304) b = a * 4194304 + b := by
  have e := wU_eq (((BitVec.ofInt 64 (a * 4194304) ||| BitVec.ofInt 64 b).toNat : Nat) : Int)
  unfold wU at e
  unfold wOr
  rw [e, BitVec.toNat_or, ofN (by omega) (by omega), ofN h2 (by omega)]
  have h : (a * 4194304).toNat = a.toNat <<< 22 := by
    rw [Nat.shiftLeft_eq]; omega
  have g := Nat.shiftLeft_add_eq_or_of_lt (b := b.toNat) (i := 22) (by omega) a.toNat
  rw [h, ← g, Nat.shiftLeft_eq]
  omega
end Go.Proofs.YtoijdnlplbeomaaDoor


/-
  Layer 8: the remainder by the modulus is the remainder.
-/
namespace Go.Proofs.YtoijdnlplbeomaaDoor
open Go Go.RowKit EX
set_option maxRecDepth 100000
set_option linter.unusedVariables false
set_option linter.unusedSimpArgs false
theorem pe_ok {x y : Int} (h : x = y) : (pe x y).1 = (pe x y).2 := by simp [pe, h]
theorem pw_ok {p b : Bool} (h : p = b) : (pw p b).1 = (pw p b).2 := by simp [pw, h]
theorem p22 : (2 : Int) ^ 22 = 4194304 := by decide
theorem p32 : (2 : Int) ^ 32 = 4294967296 := by decide
theorem p42 : (2 : Int) ^ 42 = 4398046511104 := by decide
theorem eA {hi lo : Int} (h0 : 0 ≤ hi) (h1 : hi ≤ 65536) (l0 : 0 ≤ lo) (l1 : lo < 18446744073709551616) : wOr (wSl hi 22) (wSh lo 42) = hi * 4194304 + lo / 4398046511104 := by
  rw [wSl_eq, wSh_eq, p22, p42]
  have : (hi * 4194304) % 18446744073709551616 = hi * 4194304 := by omega
  rw [this]
  exact wOr_eq h0 (by omega) (by omega) (by omega)
theorem eL (lo : Int) : wSl lo 22 = (lo * 4194304) % 18446744073709551616 := by rw [wSl_eq, p22]
theorem eD (l : Int) : wSh l 32 = l / 4294967296 := by rw [wSh_eq, p32]
theorem eQ {v : Int} (h0 : 0 ≤ v) (h1 : v < 18446744073709551616) : wU (Int.tdiv v 2147483648) = v / 2147483648 := by
  rw [wU_eq, Int.tdiv_eq_ediv_of_nonneg h0]; omega
theorem eR {v : Int} (h0 : 0 ≤ v) (h1 : v < 18446744073709551616) : wU (v - wU (v / 2147483648 * 2147483648)) = v % 2147483648 := by
  rw [wU_eq, wU_eq]; omega
theorem eC {q r d : Int} (a : 0 ≤ q ∧ q ≤ 4294967296) (b : 0 ≤ r ∧ r < 4294967296) (c : 0 ≤ d ∧ d < 4294967296) : mCmp q r d = decide (q * 4194304 > 4294967296 * r + d) := by
  unfold mCmp
  rw [wU_eq, wU_eq, wU_eq]
  have e1 : (q * 4194304) % 18446744073709551616 = q * 4194304 := by omega
  have e2 : (4294967296 * r) % 18446744073709551616 = 4294967296 * r := by omega
  have e3 : (4294967296 * r + d) % 18446744073709551616 = 4294967296 * r + d := by omega
  rw [e1, e2, e3]
theorem eDec {q : Int} (a : 1 ≤ q ∧ q ≤ 4294967296) : mDec q = q - 1 := by unfold mDec; rw [wU_eq]; omega
theorem eInc {r : Int} (a : 0 ≤ r ∧ r < 4294967296) : mInc r = r + 2147483648 := by unfold mInc; rw [wU_eq]; omega
theorem eV {a d q : Int} (h0 : 0 ≤ a * 4294967296 + d - q * 9223372036858970112) (h1 : a * 4294967296 + d - q * 9223372036858970112 < 18446744073709551616) : mV a d q = a * 4294967296 + d - q * 9223372036858970112 := by
  unfold mV
  rw [wU_eq, wU_eq, wU_eq, wU_eq]; omega
theorem eX {a d q : Int} (h0 : 0 ≤ a * 4294967296 + d - q * 9223372036858970112) (h1 : a * 4294967296 + d - q * 9223372036858970112 < 18446744073709551616) : mRes a d q = (a * 4294967296 + d - q * 9223372036858970112) / 4194304 := by
  unfold mRes
  rw [wSh_eq, p22]
  have := eV h0 h1
  unfold mV at this
  rw [this]
theorem eB {x : Int} (b : Bool) (h : decide (x ≥ 4294967296) = b) : big x = b := h
theorem hyp_NN {hi lo H A L D E Q1 R1 V Q3 R3 X : Int} (h0 : 0 < hi) (h1 : hi ≤ 65536) (l0 : 0 ≤ lo) (l1 : lo < 18446744073709551616)
    (vH : H = hi) (vA : A = hi * 4194304 + lo / 4398046511104) (vL : L = (lo * 4194304) % 18446744073709551616) (vD : D = L / 4294967296) (vE : E = L % 4294967296) (vQ1 : Q1 = A / 2147483648) (vR1 : R1 = A % 2147483648)
    (k1 : ¬Q1 * 4194304 > 4294967296 * R1 + D)
    (vV : V = A * 4294967296 + D - Q1 * 9223372036858970112) (vQ3 : Q3 = V / 2147483648) (vR3 : R3 = V % 2147483648)
    (k3 : ¬Q3 ≥ 4294967296) (k4 : ¬Q3 * 4194304 > 4294967296 * R3 + E)
    (vX : X = (V * 4294967296 + E - Q3 * 9223372036858970112) / 4194304) : (∀ q ∈ csNN hi lo H A L D E Q1 R1 V Q3 R3 X, q.1 = q.2) ∧ X = (hi * 18446744073709551616 + lo) % 2199023255553 := by
  have bA : 0 ≤ A ∧ A < 274882101248 := by omega
  have bD : 0 ≤ D ∧ D < 4294967296 := by omega
  have bE : 0 ≤ E ∧ E < 4294967296 := by omega
  have bV : 0 ≤ V ∧ V < 9223372036858970112 := by omega
  have bX : 0 ≤ V * 4294967296 + E - Q3 * 9223372036858970112 ∧ V * 4294967296 + E - Q3 * 9223372036858970112 < 9223372036858970112 := by omega
  refine ⟨?_, by omega⟩
  intro q hq
  simp only [csNN, List.mem_cons, List.not_mem_nil, or_false] at hq
  rcases hq with rfl | rfl | rfl | rfl | rfl | rfl | rfl | rfl | rfl | rfl | rfl | rfl | rfl | rfl | rfl | rfl | rfl
  · exact pe_ok ((eX (by omega) (by omega)).trans vX.symm)
  · exact pw_ok (by rw [eC (by omega) (by omega) (by omega)]; simp only [decide_eq_false_iff_not, decide_eq_true_eq]; omega)
  · exact pw_ok (eB _ (by simp only [decide_eq_false_iff_not, decide_eq_true_eq]; omega))
  · exact pe_ok (by rw [vQ3, vR3]; exact eR (by omega) (by omega))
  · exact pe_ok ((eQ (by omega) (by omega)).trans vQ3.symm)
  · exact pe_ok ((eV (by omega) (by omega)).trans vV.symm)
  · exact pw_ok (by rw [eC (by omega) (by omega) (by omega)]; simp only [decide_eq_false_iff_not, decide_eq_true_eq]; omega)
  · exact pw_ok (eB _ (by simp only [decide_eq_false_iff_not, decide_eq_true_eq]; omega))
  · exact pe_ok (by rw [vQ1, vR1]; exact eR (by omega) (by omega))
  · exact pe_ok ((eQ (by omega) (by omega)).trans vQ1.symm)
  · exact pe_ok ((wAn_eq (by omega) (by omega)).trans vE.symm)
  · exact pe_ok ((eD L).trans vD.symm)
  · exact pe_ok ((eL lo).trans vL.symm)
  · exact pe_ok (by rw [vH]; exact (eA (by omega) h1 l0 l1).trans vA.symm)
  · exact pw_ok (by simp only [beq_eq_false_iff_ne, ne_eq]; omega)
  · exact pw_ok (by simp only [decide_eq_false_iff_not]; omega)
  · exact pe_ok (by rw [Int.tmod_eq_of_lt (by omega) (by omega)]; omega)
theorem hyp_NM {hi lo H A L D E Q1 R1 V Q3 R3 Q4 R4 X : Int} (h0 : 0 < hi) (h1 : hi ≤ 65536) (l0 : 0 ≤ lo) (l1 : lo < 18446744073709551616)
    (vH : H = hi) (vA : A = hi * 4194304 + lo / 4398046511104) (vL : L = (lo * 4194304) % 18446744073709551616) (vD : D = L / 4294967296) (vE : E = L % 4294967296) (vQ1 : Q1 = A / 2147483648) (vR1 : R1 = A % 2147483648)
    (k1 : ¬Q1 * 4194304 > 4294967296 * R1 + D)
    (vV : V = A * 4294967296 + D - Q1 * 9223372036858970112) (vQ3 : Q3 = V / 2147483648) (vR3 : R3 = V % 2147483648)
    (k3 : ¬Q3 ≥ 4294967296) (k4 : Q3 * 4194304 > 4294967296 * R3 + E) (vQ4 : Q4 = Q3 - 1) (vR4 : R4 = R3 + 2147483648)
    (vX : X = (V * 4294967296 + E - Q4 * 9223372036858970112) / 4194304) : (∀ q ∈ csNM hi lo H A L D E Q1 R1 V Q3 R3 Q4 R4 X, q.1 = q.2) ∧ X = (hi * 18446744073709551616 + lo) % 2199023255553 := by
  have bA : 0 ≤ A ∧ A < 274882101248 := by omega
  have bD : 0 ≤ D ∧ D < 4294967296 := by omega
  have bE : 0 ≤ E ∧ E < 4294967296 := by omega
  have bV : 0 ≤ V ∧ V < 9223372036858970112 := by omega
  have bX : 0 ≤ V * 4294967296 + E - Q4 * 9223372036858970112 ∧ V * 4294967296 + E - Q4 * 9223372036858970112 < 9223372036858970112 := by omega
  refine ⟨?_, by omega⟩
  intro q hq
  simp only [csNM, List.mem_cons, List.not_mem_nil, or_false] at hq
  rcases hq with rfl | rfl | rfl | rfl | rfl | rfl | rfl | rfl | rfl | rfl | rfl | rfl | rfl | rfl | rfl | rfl | rfl | rfl | rfl | rfl | rfl | rfl
  · exact pe_ok ((eX (by omega) (by omega)).trans vX.symm)
  · exact pw_ok (by rw [eC (by omega) (by omega) (by omega)]; simp only [decide_eq_false_iff_not, decide_eq_true_eq]; omega)
  · exact pw_ok (eB _ (by simp only [decide_eq_false_iff_not, decide_eq_true_eq]; omega))
  · exact pw_ok (eB _ (by simp only [decide_eq_false_iff_not, decide_eq_true_eq]; omega))
  · exact pe_ok ((eInc (by omega)).trans (by omega))
  · exact pe_ok ((eDec (by omega)).trans (by omega))
  · exact pw_ok (by rw [eC (by omega) (by omega) (by omega)]; simp only [decide_eq_false_iff_not, decide_eq_true_eq]; omega)
  · exact pw_ok (eB _ (by simp only [decide_eq_false_iff_not, decide_eq_true_eq]; omega))
  · exact pe_ok (by rw [vQ3, vR3]; exact eR (by omega) (by omega))
  · exact pe_ok ((eQ (by omega) (by omega)).trans vQ3.symm)
  · exact pe_ok ((eV (by omega) (by omega)).trans vV.symm)
  · exact pw_ok (by rw [eC (by omega) (by omega) (by omega)]; simp only [decide_eq_false_iff_not, decide_eq_true_eq]; omega)
  · exact pw_ok (eB _ (by simp only [decide_eq_false_iff_not, decide_eq_true_eq]; omega))
  · exact pe_ok (by rw [vQ1, vR1]; exact eR (by omega) (by omega))
  · exact pe_ok ((eQ (by omega) (by omega)).trans vQ1.symm)
  · exact pe_ok ((wAn_eq (by omega) (by omega)).trans vE.symm)
  · exact pe_ok ((eD L).trans vD.symm)
  · exact pe_ok ((eL lo).trans vL.symm)
  · exact pe_ok (by rw [vH]; exact (eA (by omega) h1 l0 l1).trans vA.symm)
  · exact pw_ok (by simp only [beq_eq_false_iff_ne, ne_eq]; omega)
  · exact pw_ok (by simp only [decide_eq_false_iff_not]; omega)
  · exact pe_ok (by rw [Int.tmod_eq_of_lt (by omega) (by omega)]; omega)
theorem hyp_NF {hi lo H A L D E Q1 R1 V Q3 R3 Q4 R4 X : Int} (h0 : 0 < hi) (h1 : hi ≤ 65536) (l0 : 0 ≤ lo) (l1 : lo < 18446744073709551616)
    (vH : H = hi) (vA : A = hi * 4194304 + lo / 4398046511104) (vL : L = (lo * 4194304) % 18446744073709551616) (vD : D = L / 4294967296) (vE : E = L % 4294967296) (vQ1 : Q1 = A / 2147483648) (vR1 : R1 = A % 2147483648)
    (k1 : ¬Q1 * 4194304 > 4294967296 * R1 + D)
    (vV : V = A * 4294967296 + D - Q1 * 9223372036858970112) (vQ3 : Q3 = V / 2147483648) (vR3 : R3 = V % 2147483648)
    (k3 : Q3 ≥ 4294967296) (vQ4 : Q4 = Q3 - 1) (vR4 : R4 = R3 + 2147483648)
    (vX : X = (V * 4294967296 + E - Q4 * 9223372036858970112) / 4194304) : (∀ q ∈ csNF hi lo H A L D E Q1 R1 V Q3 R3 Q4 R4 X, q.1 = q.2) ∧ X = (hi * 18446744073709551616 + lo) % 2199023255553 := by
  have bA : 0 ≤ A ∧ A < 274882101248 := by omega
  have bD : 0 ≤ D ∧ D < 4294967296 := by omega
  have bE : 0 ≤ E ∧ E < 4294967296 := by omega
  have bV : 0 ≤ V ∧ V < 9223372036858970112 := by omega
  have bX : 0 ≤ V * 4294967296 + E - Q4 * 9223372036858970112 ∧ V * 4294967296 + E - Q4 * 9223372036858970112 < 9223372036858970112 := by omega
  refine ⟨?_, by omega⟩
  intro q hq
  simp only [csNF, List.mem_cons, List.not_mem_nil, or_false] at hq
  rcases hq with rfl | rfl | rfl | rfl | rfl | rfl | rfl | rfl | rfl | rfl | rfl | rfl | rfl | rfl | rfl | rfl | rfl | rfl | rfl | rfl | rfl
  · exact pe_ok ((eX (by omega) (by omega)).trans vX.symm)
  · exact pw_ok (by rw [eC (by omega) (by omega) (by omega)]; simp only [decide_eq_false_iff_not, decide_eq_true_eq]; omega)
  · exact pw_ok (eB _ (by simp only [decide_eq_false_iff_not, decide_eq_true_eq]; omega))
  · exact pw_ok (eB _ (by simp only [decide_eq_false_iff_not, decide_eq_true_eq]; omega))
  · exact pe_ok ((eInc (by omega)).trans (by omega))
  · exact pe_ok ((eDec (by omega)).trans (by omega))
  · exact pw_ok (eB _ (by simp only [decide_eq_false_iff_not, decide_eq_true_eq]; omega))
  · exact pe_ok (by rw [vQ3, vR3]; exact eR (by omega) (by omega))
  · exact pe_ok ((eQ (by omega) (by omega)).trans vQ3.symm)
  · exact pe_ok ((eV (by omega) (by omega)).trans vV.symm)
  · exact pw_ok (by rw [eC (by omega) (by omega) (by omega)]; simp only [decide_eq_false_iff_not, decide_eq_true_eq]; omega)
  · exact pw_ok (eB _ (by simp only [decide_eq_false_iff_not, decide_eq_true_eq]; omega))
  · exact pe_ok (by rw [vQ1, vR1]; exact eR (by omega) (by omega))
  · exact pe_ok ((eQ (by omega) (by omega)).trans vQ1.symm)
  · exact pe_ok ((wAn_eq (by omega) (by omega)).trans vE.symm)
  · exact pe_ok ((eD L).trans vD.symm)
  · exact pe_ok ((eL lo).trans vL.symm)
  · exact pe_ok (by rw [vH]; exact (eA (by omega) h1 l0 l1).trans vA.symm)
  · exact pw_ok (by simp only [beq_eq_false_iff_ne, ne_eq]; omega)
  · exact pw_ok (by simp only [decide_eq_false_iff_not]; omega)
  · exact pe_ok (by rw [Int.tmod_eq_of_lt (by omega) (by omega)]; omega)
theorem hyp_MN {hi lo H A L D E Q1 R1 Q2 R2 V Q3 R3 X : Int} (h0 : 0 < hi) (h1 : hi ≤ 65536) (l0 : 0 ≤ lo) (l1 : lo < 18446744073709551616)
    (vH : H = hi) (vA : A = hi * 4194304 + lo / 4398046511104) (vL : L = (lo * 4194304) % 18446744073709551616) (vD : D = L / 4294967296) (vE : E = L % 4294967296) (vQ1 : Q1 = A / 2147483648) (vR1 : R1 = A % 2147483648)
    (k1 : Q1 * 4194304 > 4294967296 * R1 + D) (vQ2 : Q2 = Q1 - 1) (vR2 : R2 = R1 + 2147483648)
    (vV : V = A * 4294967296 + D - Q2 * 9223372036858970112) (vQ3 : Q3 = V / 2147483648) (vR3 : R3 = V % 2147483648)
    (k3 : ¬Q3 ≥ 4294967296) (k4 : ¬Q3 * 4194304 > 4294967296 * R3 + E)
    (vX : X = (V * 4294967296 + E - Q3 * 9223372036858970112) / 4194304) : (∀ q ∈ csMN hi lo H A L D E Q1 R1 Q2 R2 V Q3 R3 X, q.1 = q.2) ∧ X = (hi * 18446744073709551616 + lo) % 2199023255553 := by
  have bA : 0 ≤ A ∧ A < 274882101248 := by omega
  have bD : 0 ≤ D ∧ D < 4294967296 := by omega
  have bE : 0 ≤ E ∧ E < 4294967296 := by omega
  have bV : 0 ≤ V ∧ V < 9223372036858970112 := by omega
  have bX : 0 ≤ V * 4294967296 + E - Q3 * 9223372036858970112 ∧ V * 4294967296 + E - Q3 * 9223372036858970112 < 9223372036858970112 := by omega
  refine ⟨?_, by omega⟩
  intro q hq
  simp only [csMN, List.mem_cons, List.not_mem_nil, or_false] at hq
  rcases hq with rfl | rfl | rfl | rfl | rfl | rfl | rfl | rfl | rfl | rfl | rfl | rfl | rfl | rfl | rfl | rfl | rfl | rfl | rfl | rfl | rfl | rfl
  · exact pe_ok ((eX (by omega) (by omega)).trans vX.symm)
  · exact pw_ok (by rw [eC (by omega) (by omega) (by omega)]; simp only [decide_eq_false_iff_not, decide_eq_true_eq]; omega)
  · exact pw_ok (eB _ (by simp only [decide_eq_false_iff_not, decide_eq_true_eq]; omega))
  · exact pe_ok (by rw [vQ3, vR3]; exact eR (by omega) (by omega))
  · exact pe_ok ((eQ (by omega) (by omega)).trans vQ3.symm)
  · exact pe_ok ((eV (by omega) (by omega)).trans vV.symm)
  · exact pw_ok (by rw [eC (by omega) (by omega) (by omega)]; simp only [decide_eq_false_iff_not, decide_eq_true_eq]; omega)
  · exact pw_ok (eB _ (by simp only [decide_eq_false_iff_not, decide_eq_true_eq]; omega))
  · exact pw_ok (eB _ (by simp only [decide_eq_false_iff_not, decide_eq_true_eq]; omega))
  · exact pe_ok ((eInc (by omega)).trans (by omega))
  · exact pe_ok ((eDec (by omega)).trans (by omega))
  · exact pw_ok (by rw [eC (by omega) (by omega) (by omega)]; simp only [decide_eq_false_iff_not, decide_eq_true_eq]; omega)
  · exact pw_ok (eB _ (by simp only [decide_eq_false_iff_not, decide_eq_true_eq]; omega))
  · exact pe_ok (by rw [vQ1, vR1]; exact eR (by omega) (by omega))
  · exact pe_ok ((eQ (by omega) (by omega)).trans vQ1.symm)
  · exact pe_ok ((wAn_eq (by omega) (by omega)).trans vE.symm)
  · exact pe_ok ((eD L).trans vD.symm)
  · exact pe_ok ((eL lo).trans vL.symm)
  · exact pe_ok (by rw [vH]; exact (eA (by omega) h1 l0 l1).trans vA.symm)
  · exact pw_ok (by simp only [beq_eq_false_iff_ne, ne_eq]; omega)
  · exact pw_ok (by simp only [decide_eq_false_iff_not]; omega)
  · exact pe_ok (by rw [Int.tmod_eq_of_lt (by omega) (by omega)]; omega)
theorem hyp_MM {hi lo H A L D E Q1 R1 Q2 R2 V Q3 R3 Q4 R4 X : Int} (h0 : 0 < hi) (h1 : hi ≤ 65536) (l0 : 0 ≤ lo) (l1 : lo < 18446744073709551616)
    (vH : H = hi) (vA : A = hi * 4194304 + lo / 4398046511104) (vL : L = (lo * 4194304) % 18446744073709551616) (vD : D = L / 4294967296) (vE : E = L % 4294967296) (vQ1 : Q1 = A / 2147483648) (vR1 : R1 = A % 2147483648)
    (k1 : Q1 * 4194304 > 4294967296 * R1 + D) (vQ2 : Q2 = Q1 - 1) (vR2 : R2 = R1 + 2147483648)
    (vV : V = A * 4294967296 + D - Q2 * 9223372036858970112) (vQ3 : Q3 = V / 2147483648) (vR3 : R3 = V % 2147483648)
    (k3 : ¬Q3 ≥ 4294967296) (k4 : Q3 * 4194304 > 4294967296 * R3 + E) (vQ4 : Q4 = Q3 - 1) (vR4 : R4 = R3 + 2147483648)
    (vX : X = (V * 4294967296 + E - Q4 * 9223372036858970112) / 4194304) : (∀ q ∈ csMM hi lo H A L D E Q1 R1 Q2 R2 V Q3 R3 Q4 R4 X, q.1 = q.2) ∧ X = (hi * 18446744073709551616 + lo) % 2199023255553 := by
  have bA : 0 ≤ A ∧ A < 274882101248 := by omega
  have bD : 0 ≤ D ∧ D < 4294967296 := by omega
  have bE : 0 ≤ E ∧ E < 4294967296 := by omega
  have bV : 0 ≤ V ∧ V < 9223372036858970112 := by omega
  have bX : 0 ≤ V * 4294967296 + E - Q4 * 9223372036858970112 ∧ V * 4294967296 + E - Q4 * 9223372036858970112 < 9223372036858970112 := by omega
  refine ⟨?_, by omega⟩
  intro q hq
  simp only [csMM, List.mem_cons, List.not_mem_nil, or_false] at hq
  rcases hq with rfl | rfl | rfl | rfl | rfl | rfl | rfl | rfl | rfl | rfl | rfl | rfl | rfl | rfl | rfl | rfl | rfl | rfl | rfl | rfl | rfl | rfl | rfl | rfl | rfl | rfl | rfl
  · exact pe_ok ((eX (by omega) (by omega)).trans vX.symm)
  · exact pw_ok (by rw [eC (by omega) (by omega) (by omega)]; simp only [decide_eq_false_iff_not, decide_eq_true_eq]; omega)
  · exact pw_ok (eB _ (by simp only [decide_eq_false_iff_not, decide_eq_true_eq]; omega))
  · exact pw_ok (eB _ (by simp only [decide_eq_false_iff_not, decide_eq_true_eq]; omega))
  · exact pe_ok ((eInc (by omega)).trans (by omega))
  · exact pe_ok ((eDec (by omega)).trans (by omega))
  · exact pw_ok (by rw [eC (by omega) (by omega) (by omega)]; simp only [decide_eq_false_iff_not, decide_eq_true_eq]; omega)
  · exact pw_ok (eB _ (by simp only [decide_eq_false_iff_not, decide_eq_true_eq]; omega))
  · exact pe_ok (by rw [vQ3, vR3]; exact eR (by omega) (by omega))
  · exact pe_ok ((eQ (by omega) (by omega)).trans vQ3.symm)
  · exact pe_ok ((eV (by omega) (by omega)).trans vV.symm)
  · exact pw_ok (by rw [eC (by omega) (by omega) (by omega)]; simp only [decide_eq_false_iff_not, decide_eq_true_eq]; omega)
  · exact pw_ok (eB _ (by simp only [decide_eq_false_iff_not, decide_eq_true_eq]; omega))
  · exact pw_ok (eB _ (by simp only [decide_eq_false_iff_not, decide_eq_true_eq]; omega))
  · exact pe_ok ((eInc (by omega)).trans (by omega))
  · exact pe_ok ((eDec (by omega)).trans (by omega))
  · exact pw_ok (by rw [eC (by omega) (by omega) (by omega)]; simp only [decide_eq_false_iff_not, decide_eq_true_eq]; omega)
  · exact pw_ok (eB _ (by simp only [decide_eq_false_iff_not, decide_eq_true_eq]; omega))
  · exact pe_ok (by rw [vQ1, vR1]; exact eR (by omega) (by omega))
  · exact pe_ok ((eQ (by omega) (by omega)).trans vQ1.symm)
  · exact pe_ok ((wAn_eq (by omega) (by omega)).trans vE.symm)
  · exact pe_ok ((eD L).trans vD.symm)
  · exact pe_ok ((eL lo).trans vL.symm)
  · exact pe_ok (by rw [vH]; exact (eA (by omega) h1 l0 l1).trans vA.symm)
  · exact pw_ok (by simp only [beq_eq_false_iff_ne, ne_eq]; omega)
  · exact pw_ok (by simp only [decide_eq_false_iff_not]; omega)
  · exact pe_ok (by rw [Int.tmod_eq_of_lt (by omega) (by omega)]; omega)
theorem hyp_MF {hi lo H A L D E Q1 R1 Q2 R2 V Q3 R3 Q4 R4 X : Int} (h0 : 0 < hi) (h1 : hi ≤ 65536) (l0 : 0 ≤ lo) (l1 : lo < 18446744073709551616)
    (vH : H = hi) (vA : A = hi * 4194304 + lo / 4398046511104) (vL : L = (lo * 4194304) % 18446744073709551616) (vD : D = L / 4294967296) (vE : E = L % 4294967296) (vQ1 : Q1 = A / 2147483648) (vR1 : R1 = A % 2147483648)
    (k1 : Q1 * 4194304 > 4294967296 * R1 + D) (vQ2 : Q2 = Q1 - 1) (vR2 : R2 = R1 + 2147483648)
    (vV : V = A * 4294967296 + D - Q2 * 9223372036858970112) (vQ3 : Q3 = V / 2147483648) (vR3 : R3 = V % 2147483648)
    (k3 : Q3 ≥ 4294967296) (vQ4 : Q4 = Q3 - 1) (vR4 : R4 = R3 + 2147483648)
    (vX : X = (V * 4294967296 + E - Q4 * 9223372036858970112) / 4194304) : (∀ q ∈ csMF hi lo H A L D E Q1 R1 Q2 R2 V Q3 R3 Q4 R4 X, q.1 = q.2) ∧ X = (hi * 18446744073709551616 + lo) % 2199023255553 := by
  have bA : 0 ≤ A ∧ A < 274882101248 := by omega
  have bD : 0 ≤ D ∧ D < 4294967296 := by omega
  have bE : 0 ≤ E ∧ E < 4294967296 := by omega
  have bV : 0 ≤ V ∧ V < 9223372036858970112 := by omega
  have bX : 0 ≤ V * 4294967296 + E - Q4 * 9223372036858970112 ∧ V * 4294967296 + E - Q4 * 9223372036858970112 < 9223372036858970112 := by omega
  refine ⟨?_, by omega⟩
  intro q hq
  simp only [csMF, List.mem_cons, List.not_mem_nil, or_false] at hq
  rcases hq with rfl | rfl | rfl | rfl | rfl | rfl | rfl | rfl | rfl | rfl | rfl | rfl | rfl | rfl | rfl | rfl | rfl | rfl | rfl | rfl | rfl | rfl | rfl | rfl | rfl | rfl
  · exact pe_ok ((eX (by omega) (by omega)).trans vX.symm)
  · exact pw_ok (by rw [eC (by omega) (by omega) (by omega)]; simp only [decide_eq_false_iff_not, decide_eq_true_eq]; omega)
  · exact pw_ok (eB _ (by simp only [decide_eq_false_iff_not, decide_eq_true_eq]; omega))
  · exact pw_ok (eB _ (by simp only [decide_eq_false_iff_not, decide_eq_true_eq]; omega))
  · exact pe_ok ((eInc (by omega)).trans (by omega))
  · exact pe_ok ((eDec (by omega)).trans (by omega))
  · exact pw_ok (eB _ (by simp only [decide_eq_false_iff_not, decide_eq_true_eq]; omega))
  · exact pe_ok (by rw [vQ3, vR3]; exact eR (by omega) (by omega))
  · exact pe_ok ((eQ (by omega) (by omega)).trans vQ3.symm)
  · exact pe_ok ((eV (by omega) (by omega)).trans vV.symm)
  · exact pw_ok (by rw [eC (by omega) (by omega) (by omega)]; simp only [decide_eq_false_iff_not, decide_eq_true_eq]; omega)
  · exact pw_ok (eB _ (by simp only [decide_eq_false_iff_not, decide_eq_true_eq]; omega))
  · exact pw_ok (eB _ (by simp only [decide_eq_false_iff_not, decide_eq_true_eq]; omega))
  · exact pe_ok ((eInc (by omega)).trans (by omega))
  · exact pe_ok ((eDec (by omega)).trans (by omega))
  · exact pw_ok (by rw [eC (by omega) (by omega) (by omega)]; simp only [decide_eq_false_iff_not, decide_eq_true_eq]; omega)
  · exact pw_ok (eB _ (by simp only [decide_eq_false_iff_not, decide_eq_true_eq]; omega))
  · exact pe_ok (by rw [vQ1, vR1]; exact eR (by omega) (by omega))
  · exact pe_ok ((eQ (by omega) (by omega)).trans vQ1.symm)
  · exact pe_ok ((wAn_eq (by omega) (by omega)).trans vE.symm)
  · exact pe_ok ((eD L).trans vD.symm)
  · exact pe_ok ((eL lo).trans vL.symm)
  · exact pe_ok (by rw [vH]; exact (eA (by omega) h1 l0 l1).trans vA.symm)
  · exact pw_ok (by simp only [beq_eq_false_iff_ne, ne_eq]; omega)
  · exact pw_ok (by simp only [decide_eq_false_iff_not]; omega)
  · exact pe_ok (by rw [Int.tmod_eq_of_lt (by omega) (by omega)]; omega)
/-- bits.Rem64 by the modulus. -/
theorem rem_any (w : World) (hi lo : Int) (h0 : 0 ≤ hi) (h1 : hi ≤ 65536) (l0 : 0 ≤ lo) (l1 : lo < 18446744073709551616) : Calls Tryd.prog REM #[.int .u64 hi, .int .u64 lo, .int .u64 2199023255553] w fun e w' => e = .returned (.int .u64 ((hi * 18446744073709551616 + lo) % 2199023255553)) ∧ Below w.heap.size w w' := by
  by_cases hz : hi = 0
  · subst hz
    refine (rem_0 w 0 lo ?_).mono fun e w' ⟨e1, e2⟩ => ⟨?_, e2⟩
    · intro q hq
      simp only [csZ, List.mem_cons, List.not_mem_nil, or_false] at hq
      rcases hq with rfl | rfl <;> simp [pw, mH]
    · rw [e1, Int.tmod_eq_emod_of_nonneg l0]
      congr 2
      omega
  · have hp : 0 < hi := by omega
    obtain ⟨A, vA⟩ : ∃ A, A = hi * 4194304 + lo / 4398046511104 := ⟨_, rfl⟩
    obtain ⟨L, vL⟩ : ∃ L, L = (lo * 4194304) % 18446744073709551616 := ⟨_, rfl⟩
    obtain ⟨D, vD⟩ : ∃ D, D = L / 4294967296 := ⟨_, rfl⟩
    obtain ⟨E, vE⟩ : ∃ E, E = L % 4294967296 := ⟨_, rfl⟩
    obtain ⟨Q1, vQ1⟩ : ∃ Q1, Q1 = A / 2147483648 := ⟨_, rfl⟩
    obtain ⟨R1, vR1⟩ : ∃ R1, R1 = A % 2147483648 := ⟨_, rfl⟩
    by_cases k1 : Q1 * 4194304 > 4294967296 * R1 + D
    · obtain ⟨V, vV⟩ : ∃ V, V = A * 4294967296 + D - (Q1 - 1) * 9223372036858970112 := ⟨_, rfl⟩
      by_cases k3 : V / 2147483648 ≥ 4294967296
      · obtain ⟨c1, c2⟩ := hyp_MF hp h1 l0 l1 rfl vA vL vD vE vQ1 vR1 k1 rfl rfl vV rfl rfl k3 rfl rfl rfl
        exact c2 ▸ rem_MF w hi lo _ _ _ _ _ _ _ _ _ _ _ _ _ _ _ c1
      · by_cases k4 : V / 2147483648 * 4194304 > 4294967296 * (V % 2147483648) + E
        · obtain ⟨c1, c2⟩ := hyp_MM hp h1 l0 l1 rfl vA vL vD vE vQ1 vR1 k1 rfl rfl vV rfl rfl k3 k4 rfl rfl rfl
          exact c2 ▸ rem_MM w hi lo _ _ _ _ _ _ _ _ _ _ _ _ _ _ _ c1
        · obtain ⟨c1, c2⟩ := hyp_MN hp h1 l0 l1 rfl vA vL vD vE vQ1 vR1 k1 rfl rfl vV rfl rfl k3 k4 rfl
          exact c2 ▸ rem_MN w hi lo _ _ _ _ _ _ _ _ _ _ _ _ _ c1
    · obtain ⟨V, vV⟩ : ∃ V, V = A * 4294967296 + D - Q1 * 9223372036858970112 := ⟨_, rfl⟩
      by_cases k3 : V / 2147483648 ≥ 4294967296
      · obtain ⟨c1, c2⟩ := hyp_NF hp h1 l0 l1 rfl vA vL vD vE vQ1 vR1 k1 vV rfl rfl k3 rfl rfl rfl
        exact c2 ▸ rem_NF w hi lo _ _ _ _ _ _ _ _ _ _ _ _ _ c1
      · by_cases k4 : V / 2147483648 * 4194304 > 4294967296 * (V % 2147483648) + E
        · obtain ⟨c1, c2⟩ := hyp_NM hp h1 l0 l1 rfl vA vL vD vE vQ1 vR1 k1 vV rfl rfl k3 k4 rfl rfl rfl
          exact c2 ▸ rem_NM w hi lo _ _ _ _ _ _ _ _ _ _ _ _ _ c1
        · obtain ⟨c1, c2⟩ := hyp_NN hp h1 l0 l1 rfl vA vL vD vE vQ1 vR1 k1 vV rfl rfl k3 k4 rfl
          exact c2 ▸ rem_NN w hi lo _ _ _ _ _ _ _ _ _ _ _ c1
end Go.Proofs.YtoijdnlplbeomaaDoor


/-
  Layer 8: the product of two words, as the standard library computes it.
-/
namespace Go.Proofs.YtoijdnlplbeomaaDoor
open Go Go.RowKit EX
set_option maxRecDepth 100000
set_option linter.unusedVariables false
set_option linter.unusedSimpArgs false
abbrev MUL : FuncId := 52
def csP (x y X0 X1 Y0 Y1 W0 P10 T W1 W2 P01 W3 P11 HI LO : Int) : List (Value × Value) := [pe (wU (x * y)) LO, pe (wU (wU (P11 + W2) + wSh W3 32)) HI, pe (wU (X1 * Y1)) P11, pe (wU (W1 + P01)) W3, pe (wU (X0 * Y1)) P01, pe (wSh T 32) W2, pe (wAn T 4294967295) W1, pe (wU (P10 + wSh W0 32)) T, pe (wU (X1 * Y0)) P10, pe (wU (X0 * Y0)) W0, pe (wSh y 32) Y1, pe (wAn y 4294967295) Y0, pe (wSh x 32) X1, pe (wAn x 4294967295) X0]
theorem mul_run (w : World) (x y X0 X1 Y0 Y1 W0 P10 T W1 W2 P01 W3 P11 HI LO : Int) (hc : ∀ q ∈ csP x y X0 X1 Y0 Y1 W0 P10 T W1 W2 P01 W3 P11 HI LO, q.1 = q.2) : Calls Tryd.prog MUL #[.int .u64 x, .int .u64 y] w fun e w' => e = .returned (.tuple #[.int .u64 HI, .int .u64 LO]) ∧ Below w.heap.size w w' :=
  (ex_run (x := .t [.y (.int .u64 HI), .y (.int .u64 LO)]) knNone_ok 100000 [.y (.int .u64 x), .y (.int .u64 y)] [tl MUL 15 X0, tl MUL 17 X1, tl MUL 19 Y0, tl MUL 21 Y1, tl MUL 24 W0, tl MUL 27 P10, tl MUL 30 T, tl MUL 32 W1, tl MUL 34 W2, tl MUL 38 P01, tl MUL 39 W3, tl MUL 42 P11, tl MUL 47 HI, tl MUL 50 LO] (csP x y X0 X1 Y0 Y1 W0 P10 T W1 W2 P01 W3 P11 HI LO) (by kernel_rfl) (by simp [denL, den]) (by simp [bdL, bd]) hc).mono fun e w' ⟨B, h1, h2⟩ => ⟨by rw [h1]; simp [den, denL], h2⟩
theorem mul_any (w : World) (x y : Int) (x0 : 0 ≤ x) (x1 : x ≤ 1099511627776) (y0 : 0 ≤ y) (y1 : y ≤ 1099511627776) : Calls Tryd.prog MUL #[.int .u64 x, .int .u64 y] w fun e w' => e = .returned (.tuple #[.int .u64 (x * y / 18446744073709551616), .int .u64 (x * y % 18446744073709551616)]) ∧ Below w.heap.size w w' := by
  obtain ⟨a, ha⟩ : ∃ a, a = x / 4294967296 := ⟨_, rfl⟩
  obtain ⟨b, hb⟩ : ∃ b, b = x % 4294967296 := ⟨_, rfl⟩
  obtain ⟨c, hc⟩ : ∃ c, c = y / 4294967296 := ⟨_, rfl⟩
  obtain ⟨d, hd⟩ : ∃ d, d = y % 4294967296 := ⟨_, rfl⟩
  have hx : x = a * 4294967296 + b := by omega
  have hy : y = c * 4294967296 + d := by omega
  have hxy : x * y = a * c * 18446744073709551616 + (a * d + b * c) * 4294967296 + b * d := by rw [hx, hy]; grind
  have b1 : 0 ≤ b * d ∧ b * d ≤ 4294967295 * 4294967295 := ⟨Int.mul_nonneg (by omega) (by omega), Int.mul_le_mul (by omega) (by omega) (by omega) (by omega)⟩
  have b2 : 0 ≤ a * d ∧ a * d ≤ 256 * 4294967295 := ⟨Int.mul_nonneg (by omega) (by omega), Int.mul_le_mul (by omega) (by omega) (by omega) (by omega)⟩
  have b3 : 0 ≤ b * c ∧ b * c ≤ 4294967295 * 256 := ⟨Int.mul_nonneg (by omega) (by omega), Int.mul_le_mul (by omega) (by omega) (by omega) (by omega)⟩
  have b4 : 0 ≤ a * c ∧ a * c ≤ 256 * 256 := ⟨Int.mul_nonneg (by omega) (by omega), Int.mul_le_mul (by omega) (by omega) (by omega) (by omega)⟩
  have b5 : 0 ≤ x * y := Int.mul_nonneg x0 y0
  generalize hp : b * d = p at *
  generalize hq : a * d = q at *
  generalize hr : b * c = r at *
  generalize hs : a * c = s at *
  generalize hn : x * y = n at *
  obtain ⟨t, ht⟩ : ∃ t, t = q + p / 4294967296 := ⟨_, rfl⟩
  have h1 := mul_run w x y b a d c p q t (t % 4294967296) (t / 4294967296) r (t % 4294967296 + r) s (s + t / 4294967296 + (t % 4294967296 + r) / 4294967296) (n % 18446744073709551616) ?_
  · have e1 : s + t / 4294967296 + (t % 4294967296 + r) / 4294967296 = n / 18446744073709551616 := by omega
    rw [e1] at h1
    exact h1
  · intro z hz
    simp only [csP, List.mem_cons, List.not_mem_nil, or_false] at hz
    rcases hz with rfl | rfl | rfl | rfl | rfl | rfl | rfl | rfl | rfl | rfl | rfl | rfl | rfl | rfl
    · exact pe_ok (by rw [hn, wU_eq])
    · exact pe_ok (by rw [wU_eq, wU_eq, eD]; omega)
    · exact pe_ok (by rw [hs, wU_eq]; omega)
    · exact pe_ok (by rw [wU_eq]; omega)
    · exact pe_ok (by rw [hr, wU_eq]; omega)
    · exact pe_ok (by rw [eD])
    · exact pe_ok (wAn_eq (by omega) (by omega))
    · exact pe_ok (by rw [wU_eq, eD]; omega)
    · exact pe_ok (by rw [hq, wU_eq]; omega)
    · exact pe_ok (by rw [hp, wU_eq]; omega)
    · exact pe_ok (by rw [eD]; exact hc.symm)
    · exact pe_ok ((wAn_eq (by omega) (by omega)).trans hd.symm)
    · exact pe_ok (by rw [eD]; exact ha.symm)
    · exact pe_ok ((wAn_eq (by omega) (by omega)).trans hb.symm)
end Go.Proofs.YtoijdnlplbeomaaDoor


/-
  Layer 8: the product of two integers in range.
-/
namespace Go.Proofs.YtoijdnlplbeomaaDoor
open Go Go.RowKit EX
set_option maxRecDepth 100000
set_option linter.unusedVariables false
set_option linter.unusedSimpArgs false
def askM (x y : Int) : List (Value × Value) := [pw (decide (0 ≤ x)) true, pw (decide (x ≤ 1099511627776)) true, pw (decide (0 ≤ y)) true, pw (decide (y ≤ 1099511627776)) true]
def askR (hi lo : Int) : List (Value × Value) := [pw (decide (0 ≤ hi)) true, pw (decide (hi ≤ 65536)) true, pw (decide (0 ≤ lo)) true, pw (decide (lo < 18446744073709551616)) true]
def knM : Kn := fun f args => match Nat.beq f MUL, args with
  | true, [.y (.int .u64 x), .y (.int .u64 y)] => some (.t [.y (.int .u64 (x * y / 18446744073709551616)), .y (.int .u64 (x * y % 18446744073709551616))], askM x y)
  | _, _ => none
theorem knM_ok : KnOk Tryd.prog knM := by
  intro f args x cs hx
  unfold knM at hx
  split at hx
  · rename_i a b hb
    simp only [Option.some.injEq, Prod.mk.injEq] at hx
    obtain ⟨rfl, rfl⟩ := hx
    have := Nat.eq_of_beq_eq_true hb
    subst this
    refine ⟨by simp [bd, bdL], fun tr B w => ?_⟩
    have h1 := tr (pw (decide (0 ≤ a)) true) (by simp [askM])
    have h2 := tr (pw (decide (a ≤ 1099511627776)) true) (by simp [askM])
    have h3 := tr (pw (decide (0 ≤ b)) true) (by simp [askM])
    have h4 := tr (pw (decide (b ≤ 1099511627776)) true) (by simp [askM])
    simp only [pw, Value.bool.injEq, decide_eq_true_eq] at h1 h2 h3 h4
    simpa [denL, den] using mul_any w a b h1 h2 h3 h4
  · cases hx
def knRe : Kn := fun f args => match Nat.beq f REM, args with
  | true, [.y (.int .u64 hi), .y (.int .u64 lo), .v (.int .u64 2199023255553)] => some (.y (.int .u64 ((hi * 18446744073709551616 + lo) % 2199023255553)), askR hi lo)
  | _, _ => none
theorem knRe_ok : KnOk Tryd.prog knRe := by
  intro f args x cs hx
  unfold knRe at hx
  split at hx
  · rename_i a b hb
    simp only [Option.some.injEq, Prod.mk.injEq] at hx
    obtain ⟨rfl, rfl⟩ := hx
    have := Nat.eq_of_beq_eq_true hb
    subst this
    refine ⟨by simp [bd], fun tr B w => ?_⟩
    have h1 := tr (pw (decide (0 ≤ a)) true) (by simp [askR])
    have h2 := tr (pw (decide (a ≤ 65536)) true) (by simp [askR])
    have h3 := tr (pw (decide (0 ≤ b)) true) (by simp [askR])
    have h4 := tr (pw (decide (b < 18446744073709551616)) true) (by simp [askR])
    simp only [pw, Value.bool.injEq, decide_eq_true_eq] at h1 h2 h3 h4
    simpa [denL, den] using rem_any w a b h1 h2 h3 h4
  · cases hx
def knX (R : Int → Int) : Kn := knOr (knI 17 fun a => .int .i64 (R a)) (knOr knM knRe)
theorem knX_ok : KnOk Tryd.prog (knX rnd) := knOr_ok (knI_ok' round_any) (knOr_ok knM_ok knRe_ok)
def mgP (a : Int) : Int := IntKind.u64.wrap a
def mgN (a : Int) : Int := IntKind.u64.wrap (IntKind.i64.wrap (0 - a))
def pr2 (x y : Int) : Int := (x * y / 18446744073709551616 * 18446744073709551616 + x * y % 18446744073709551616) % 2199023255553
def csTm (a b : Int) (sa sb s : Bool) (x y : Int) : List (Value × Value) := pw (decide (a < 0) != decide (b < 0)) s :: (askR (x * y / 18446744073709551616) (x * y % 18446744073709551616) ++ (askM x y ++ [pw (decide (b < 0)) sb, pw (decide (a < 0)) sa]))
abbrev TIM : FuncId := 45
theorem tim_00 (R : Int → Int) (hk : KnOk Tryd.prog (knX R)) (w : World) (a b : Int) (hc : ∀ q ∈ csTm a b false false false (mgP a) (mgP b), q.1 = q.2) : Calls Tryd.prog TIM #[.int .i64 a, .int .i64 b] w fun e w' => e = .returned (.int .i64 (R (IntKind.i64.wrap (pr2 (mgP a) (mgP b))))) ∧ Below w.heap.size w w' :=
  (ex_run (x := .y (.int .i64 (R (IntKind.i64.wrap (pr2 (mgP a) (mgP b)))))) hk 100000 [.y (.int .i64 a), .y (.int .i64 b)] [ff, ff, ff] (csTm a b false false false (mgP a) (mgP b)) (by kernel_rfl) (by simp [denL, den]) (by simp [bdL, bd]) hc).mono fun e w' ⟨B, h1, h2⟩ => ⟨by rw [h1, den], h2⟩
theorem tim_01 (R : Int → Int) (hk : KnOk Tryd.prog (knX R)) (w : World) (a b : Int) (hc : ∀ q ∈ csTm a b false true true (mgP a) (mgN b), q.1 = q.2) : Calls Tryd.prog TIM #[.int .i64 a, .int .i64 b] w fun e w' => e = .returned (.int .i64 (R (IntKind.i64.wrap (0 - IntKind.i64.wrap (pr2 (mgP a) (mgN b)))))) ∧ Below w.heap.size w w' :=
  (ex_run (x := .y (.int .i64 (R (IntKind.i64.wrap (0 - IntKind.i64.wrap (pr2 (mgP a) (mgN b))))))) hk 100000 [.y (.int .i64 a), .y (.int .i64 b)] [ff, tt, tt] (csTm a b false true true (mgP a) (mgN b)) (by kernel_rfl) (by simp [denL, den]) (by simp [bdL, bd]) hc).mono fun e w' ⟨B, h1, h2⟩ => ⟨by rw [h1, den], h2⟩
theorem tim_10 (R : Int → Int) (hk : KnOk Tryd.prog (knX R)) (w : World) (a b : Int) (hc : ∀ q ∈ csTm a b true false true (mgN a) (mgP b), q.1 = q.2) : Calls Tryd.prog TIM #[.int .i64 a, .int .i64 b] w fun e w' => e = .returned (.int .i64 (R (IntKind.i64.wrap (0 - IntKind.i64.wrap (pr2 (mgN a) (mgP b)))))) ∧ Below w.heap.size w w' :=
  (ex_run (x := .y (.int .i64 (R (IntKind.i64.wrap (0 - IntKind.i64.wrap (pr2 (mgN a) (mgP b))))))) hk 100000 [.y (.int .i64 a), .y (.int .i64 b)] [tt, ff, tt] (csTm a b true false true (mgN a) (mgP b)) (by kernel_rfl) (by simp [denL, den]) (by simp [bdL, bd]) hc).mono fun e w' ⟨B, h1, h2⟩ => ⟨by rw [h1, den], h2⟩
theorem tim_11 (R : Int → Int) (hk : KnOk Tryd.prog (knX R)) (w : World) (a b : Int) (hc : ∀ q ∈ csTm a b true true false (mgN a) (mgN b), q.1 = q.2) : Calls Tryd.prog TIM #[.int .i64 a, .int .i64 b] w fun e w' => e = .returned (.int .i64 (R (IntKind.i64.wrap (pr2 (mgN a) (mgN b))))) ∧ Below w.heap.size w w' :=
  (ex_run (x := .y (.int .i64 (R (IntKind.i64.wrap (pr2 (mgN a) (mgN b)))))) hk 100000 [.y (.int .i64 a), .y (.int .i64 b)] [tt, tt, ff] (csTm a b true true false (mgN a) (mgN b)) (by kernel_rfl) (by simp [denL, den]) (by simp [bdL, bd]) hc).mono fun e w' ⟨B, h1, h2⟩ => ⟨by rw [h1, den], h2⟩
end Go.Proofs.YtoijdnlplbeomaaDoor


/-
  Layer 8: the product of two integers in range is their product brought into range.
-/
namespace Go.Proofs.YtoijdnlplbeomaaDoor
open Go Go.RowKit EX
set_option maxRecDepth 100000
set_option linter.unusedVariables false
set_option linter.unusedSimpArgs false
theorem rnd_congr {m n : Int} (h : m % 2199023255553 = n % 2199023255553) : rnd m = rnd n := by rw [rnd_eq, rnd_eq, h]
theorem rnd_mod (n : Int) : rnd n % 2199023255553 = n % 2199023255553 := by rw [rnd_eq]; split <;> omega
theorem mul_rng {x y : Int} (hx : 0 ≤ x ∧ x ≤ 1099511627776) (hy : 0 ≤ y ∧ y ≤ 1099511627776) : 0 ≤ x * y ∧ x * y ≤ 1208925819614629174706176 :=
  ⟨Int.mul_nonneg hx.1 hy.1, Int.le_trans (Int.mul_le_mul hx.2 hy.2 hy.1 (by decide)) (by decide)⟩
theorem pr2_eq {x y : Int} (hx : 0 ≤ x ∧ x ≤ 1099511627776) (hy : 0 ≤ y ∧ y ≤ 1099511627776) : pr2 x y = x * y % 2199023255553 := by
  unfold pr2
  generalize x * y = p
  have : p / 18446744073709551616 * 18446744073709551616 + p % 18446744073709551616 = p := by omega
  rw [this]
theorem csTm_ok {a b : Int} {sa sb s : Bool} {x y : Int} (ha : decide (a < 0) = sa) (hb : decide (b < 0) = sb) (hs : (sa != sb) = s) (hx : 0 ≤ x ∧ x ≤ 1099511627776) (hy : 0 ≤ y ∧ y ≤ 1099511627776) : ∀ q ∈ csTm a b sa sb s x y, q.1 = q.2 := by
  have h := mul_rng hx hy
  intro q hq
  simp only [csTm, askR, askM, List.mem_cons, List.mem_append, List.not_mem_nil, or_false] at hq
  generalize x * y = p at h hq
  rcases hq with rfl | (rfl | rfl | rfl | rfl) | (rfl | rfl | rfl | rfl) | rfl | rfl
  · simp only [pw, ha, hb, hs]
  all_goals simp only [pw, Value.bool.injEq, decide_eq_true_eq, ha, hb]
  all_goals omega
theorem mgP_eq {a : Int} (h : 0 ≤ a ∧ a ≤ 1099511627776) : mgP a = a := by
  unfold mgP; rw [IntKind.wrap_u64]; omega
theorem mgN_eq {a : Int} (h : -1099511627776 ≤ a ∧ a < 0) : mgN a = -a := by
  unfold mgN; rw [IntKind.wrap_i64, IntKind.wrap_u64]; omega
theorem tim_pos {x y : Int} (hx : 0 ≤ x ∧ x ≤ 1099511627776) (hy : 0 ≤ y ∧ y ≤ 1099511627776) : rnd (IntKind.i64.wrap (pr2 x y)) = rnd (x * y) := by
  rw [pr2_eq hx hy]
  generalize x * y = p
  have : IntKind.i64.wrap (p % 2199023255553) = p % 2199023255553 := by rw [IntKind.wrap_i64]; omega
  rw [this]
  exact rnd_congr (by omega)
theorem tim_neg {x y : Int} (hx : 0 ≤ x ∧ x ≤ 1099511627776) (hy : 0 ≤ y ∧ y ≤ 1099511627776) : rnd (IntKind.i64.wrap (0 - IntKind.i64.wrap (pr2 x y))) = rnd (-(x * y)) := by
  rw [pr2_eq hx hy]
  generalize x * y = p
  have : IntKind.i64.wrap (p % 2199023255553) = p % 2199023255553 := by rw [IntKind.wrap_i64]; omega
  rw [this]
  have : IntKind.i64.wrap (0 - p % 2199023255553) = -(p % 2199023255553) := by rw [IntKind.wrap_i64]; omega
  rw [this]
  exact rnd_congr (by omega)
theorem times_any (w : World) (a b : Int) (ha : -1099511627776 ≤ a ∧ a ≤ 1099511627776) (hb : -1099511627776 ≤ b ∧ b ≤ 1099511627776) : Calls Tryd.prog TIM #[.int .i64 a, .int .i64 b] w fun e w' => e = .returned (.int .i64 (rnd (a * b))) ∧ Below w.heap.size w w' := by
  by_cases h1 : a < 0 <;> by_cases h2 : b < 0
  · have e1 := mgN_eq ⟨ha.1, h1⟩
    have e2 := mgN_eq ⟨hb.1, h2⟩
    have h := tim_11 rnd knX_ok w a b (csTm_ok (by simp [h1]) (by simp [h2]) rfl (by rw [e1]; omega) (by rw [e2]; omega))
    rwa [tim_pos (by rw [e1]; omega) (by rw [e2]; omega), e1, e2, Int.neg_mul_neg] at h
  · have e1 := mgN_eq ⟨ha.1, h1⟩
    have e2 := mgP_eq (a := b) ⟨by omega, hb.2⟩
    have h := tim_10 rnd knX_ok w a b (csTm_ok (by simp [h1]) (by simp [h2]) rfl (by rw [e1]; omega) (by rw [e2]; omega))
    rwa [tim_neg (by rw [e1]; omega) (by rw [e2]; omega), e1, e2, Int.neg_mul, Int.neg_neg] at h
  · have e1 := mgP_eq (a := a) ⟨by omega, ha.2⟩
    have e2 := mgN_eq ⟨hb.1, h2⟩
    have h := tim_01 rnd knX_ok w a b (csTm_ok (by simp [h1]) (by simp [h2]) rfl (by rw [e1]; omega) (by rw [e2]; omega))
    rwa [tim_neg (by rw [e1]; omega) (by rw [e2]; omega), e1, e2, Int.mul_neg, Int.neg_neg] at h
  · have e1 := mgP_eq (a := a) ⟨by omega, ha.2⟩
    have e2 := mgP_eq (a := b) ⟨by omega, hb.2⟩
    have h := tim_00 rnd knX_ok w a b (csTm_ok (by simp [h1]) (by simp [h2]) rfl (by rw [e1]; omega) (by rw [e2]; omega))
    rwa [tim_pos (by rw [e1]; omega) (by rw [e2]; omega), e1, e2] at h
/-! ### What Bin gives -/
def nI : SV → Option Int
  | .y (.int .i64 a) => some a
  | .v (.int .i64 a) => some a
  | _ => none
theorem nI_den {B : Pl} {x : SV} {a : Int} (h : nI x = some a) : den B x = .int .i64 a := by
  unfold nI at h
  split at h
  · cases h; simp [den]
  · cases h; simp [den]
  · cases h
def pIn8 (n : Int) : List (Value × Value) := [pw (decide (n ≥ -1099511627776)) true, pw (decide (n ≤ 1099511627776)) true]
theorem pIn8_ok {n : Int} (h : -1099511627776 ≤ n ∧ n ≤ 1099511627776) : ∀ q ∈ pIn8 n, q.1 = q.2 := by
  intro q hq
  simp only [pIn8, List.mem_cons, List.not_mem_nil, or_false] at hq
  rcases hq with rfl | rfl <;> simp only [pw, Value.bool.injEq, decide_eq_true_eq] <;> omega
theorem pIn8_of {n : Int} (h : ∀ q ∈ pIn8 n, q.1 = q.2) : -1099511627776 ≤ n ∧ n ≤ 1099511627776 := by
  have h1 := h (pw (decide (n ≥ -1099511627776)) true) (by simp [pIn8])
  have h2 := h (pw (decide (n ≤ 1099511627776)) true) (by simp [pIn8])
  simp only [pw, Value.bool.injEq, decide_eq_true_eq] at h1 h2
  omega
/-- A function of two integers in range. -/
def knN (f0 : FuncId) (g : Int → Int → Int) : Kn := fun f args => match Nat.beq f f0, args with
  | true, [x, y] => match nI x, nI y with
    | some a, some b => some (.y (.int .i64 (g a b)), pIn8 a ++ pIn8 b)
    | _, _ => none
  | _, _ => none
theorem knN_ok {P : Program} {f0 : FuncId} {g : Int → Int → Int} (h : ∀ (w : World) (a b : Int), (-1099511627776 ≤ a ∧ a ≤ 1099511627776) → (-1099511627776 ≤ b ∧ b ≤ 1099511627776) → Calls P f0 #[.int .i64 a, .int .i64 b] w fun e w' => e = .returned (.int .i64 (g a b)) ∧ Below w.heap.size w w') : KnOk P (knN f0 g) := by
  intro f args x cs hx
  unfold knN at hx
  split at hx
  · rename_i x1 y1 hb
    split at hx
    · rename_i a b ha hb2
      simp only [Option.some.injEq, Prod.mk.injEq] at hx
      obtain ⟨rfl, rfl⟩ := hx
      have := Nat.eq_of_beq_eq_true hb
      subst this
      refine ⟨by simp [bd], fun tr B w => ?_⟩
      have h1 := pIn8_of fun q hq => tr q (List.mem_append_left _ hq)
      have h2 := pIn8_of fun q hq => tr q (List.mem_append_right _ hq)
      simpa [denL, den, nI_den ha, nI_den hb2] using h w a b h1 h2
    · cases hx
  · cases hx
/-- What the three operators give. -/
def kn3 (f0 : FuncId) (g1 g2 g3 : Int → Int → Int) : Kn := fun f args => match Nat.beq f f0, args with
  | true, [.v (.int .i64 op), x, y] => match nI x, nI y with
    | some a, some b => match op with
      | 1 => some (.y (.int .i64 (g1 a b)), [])
      | 2 => some (.y (.int .i64 (g2 a b)), [])
      | 3 => some (.y (.int .i64 (g3 a b)), [])
      | _ => none
    | _, _ => none
  | _, _ => none
theorem kn3_ok {P : Program} {f0 : FuncId} {g1 g2 g3 : Int → Int → Int} (h1 : ∀ (w : World) (a b : Int), Calls P f0 #[.int .i64 1, .int .i64 a, .int .i64 b] w fun e w' => e = .returned (.int .i64 (g1 a b)) ∧ Below w.heap.size w w') (h2 : ∀ (w : World) (a b : Int), Calls P f0 #[.int .i64 2, .int .i64 a, .int .i64 b] w fun e w' => e = .returned (.int .i64 (g2 a b)) ∧ Below w.heap.size w w') (h3 : ∀ (w : World) (a b : Int), Calls P f0 #[.int .i64 3, .int .i64 a, .int .i64 b] w fun e w' => e = .returned (.int .i64 (g3 a b)) ∧ Below w.heap.size w w') : KnOk P (kn3 f0 g1 g2 g3) := by
  intro f args x cs hx
  unfold kn3 at hx
  split at hx
  · rename_i op x1 y1 hb
    have hf := Nat.eq_of_beq_eq_true hb
    split at hx
    · rename_i a b ha hb2
      split at hx
      all_goals first
        | (cases hx; done)
        | (simp only [Option.some.injEq, Prod.mk.injEq] at hx
           obtain ⟨rfl, rfl⟩ := hx
           subst hf
           refine ⟨by simp [bd], fun tr B w => ?_⟩
           first
             | simpa [denL, den, nI_den ha, nI_den hb2] using h1 w a b
             | simpa [denL, den, nI_den ha, nI_den hb2] using h2 w a b
             | simpa [denL, den, nI_den ha, nI_den hb2] using h3 w a b)
    · cases hx
  · cases hx
end Go.Proofs.YtoijdnlplbeomaaDoor


/-
  Layer 8: the reference's product.
-/
namespace Go.Proofs.YtoijdnlplbeomaaDoor
open Go Go.RowKit EX
set_option maxRecDepth 100000
set_option linter.unusedVariables false
set_option linter.unusedSimpArgs false
abbrev RRD : FuncId := 18
abbrev RTM : FuncId := 35
theorem rround_any (n : Int) (w : World) : Calls Tryd.prog RRD #[.int .i64 n] w fun e w' => e = .returned (.int .i64 (rnd n)) ∧ Below w.heap.size w w' := by
  have hr := tm_range n
  by_cases h1 : tm n > 1099511627776
  · have e1 : IntKind.i64.wrap (IntKind.i64.wrap (tm n - 2199023255552) - 1) = rnd n := by
      rw [IntKind.wrap_i64, IntKind.wrap_i64]
      have : rnd n = tm n - 2199023255553 := by unfold rnd; exact if_pos h1
      omega
    have hr2 := rnd_range n
    refine (ex_run (w := w) (x := .y (.int .i64 (IntKind.i64.wrap (IntKind.i64.wrap (tm n - 2199023255552) - 1)))) knNone_ok 100000 [.y (.int .i64 n)] [tt, ff] [pw (decide (IntKind.i64.wrap (IntKind.i64.wrap (tm n - 2199023255552) - 1) < -1099511627776)) false, pw (decide (tm n > 1099511627776)) true] (by kernel_rfl) (by simp [denL, den]) (by simp [bdL, bd]) (by
      intro q hq
      simp only [List.mem_cons, List.not_mem_nil, or_false] at hq
      rcases hq with rfl | rfl
      · rw [e1]; simp only [pw, Value.bool.injEq, decide_eq_false_iff_not]; omega
      · simp only [pw, Value.bool.injEq, decide_eq_true_eq]; exact h1)).mono ?_
    rintro e w' ⟨B, rfl, hb⟩
    exact ⟨by rw [den, e1], hb⟩
  · by_cases h2 : tm n < -1099511627776
    · refine (ex_run (w := w) (x := .y (.int .i64 (IntKind.i64.wrap (IntKind.i64.wrap (tm n + 2199023255552) + 1)))) knNone_ok 100000 [.y (.int .i64 n)] [ff, tt] [pw (decide (tm n < -1099511627776)) true, pw (decide (tm n > 1099511627776)) false] (by kernel_rfl) (by simp [denL, den]) (by simp [bdL, bd]) (by
        intro q hq
        simp only [List.mem_cons, List.not_mem_nil, or_false] at hq
        rcases hq with rfl | rfl
        · simp only [pw, Value.bool.injEq, decide_eq_true_eq]; exact h2
        · simp only [pw, Value.bool.injEq, decide_eq_false_iff_not]; exact h1)).mono ?_
      rintro e w' ⟨B, rfl, hb⟩
      have e1 : IntKind.i64.wrap (IntKind.i64.wrap (tm n + 2199023255552) + 1) = rnd n := by
        rw [IntKind.wrap_i64, IntKind.wrap_i64]
        have : rnd n = tm n + 2199023255553 := by unfold rnd; exact (if_neg h1).trans (if_pos h2)
        omega
      exact ⟨by rw [den, e1], hb⟩
    · refine (ex_run (w := w) (x := .y (.int .i64 (tm n))) knNone_ok 100000 [.y (.int .i64 n)] [ff, ff] [pw (decide (tm n < -1099511627776)) false, pw (decide (tm n > 1099511627776)) false] (by kernel_rfl) (by simp [denL, den]) (by simp [bdL, bd]) (by
        intro q hq
        simp only [List.mem_cons, List.not_mem_nil, or_false] at hq
        rcases hq with rfl | rfl
        · simp only [pw, Value.bool.injEq, decide_eq_false_iff_not]; exact h2
        · simp only [pw, Value.bool.injEq, decide_eq_false_iff_not]; exact h1)).mono ?_
      rintro e w' ⟨B, rfl, hb⟩
      have e1 : tm n = rnd n := by unfold rnd; exact ((if_neg h1).trans (if_neg h2)).symm
      exact ⟨by rw [den, e1], hb⟩
/-! ### Congruence -/
theorem rnd_off (n : Int) : ∃ k, rnd n = n + 2199023255553 * k := by
  have h := rnd_mod n
  exact ⟨(rnd n - n) / 2199023255553, by omega⟩
theorem rnd_add (n k : Int) : rnd (n + 2199023255553 * k) = rnd n := rnd_congr (by omega)
theorem in_R {n : Int} (h : -1099511627776 ≤ n ∧ n ≤ 1099511627776) : rnd n = n := by
  rw [rnd_eq]; split <;> omega
theorem wr2 {a b : Int} (ha : -1099511627776 ≤ a ∧ a ≤ 1099511627776) (hb : -1099511627776 ≤ b ∧ b ≤ 1099511627776) : IntKind.i64.wrap (a + b) = a + b := by rw [IntKind.wrap_i64]; omega
theorem step0 (o a b : Int) : rnd (o + rnd (a + a) * b) = rnd (o + a * (2 * b)) := by
  obtain ⟨k, e⟩ := rnd_off (a + a)
  rw [e]
  have : o + (a + a + 2199023255553 * k) * b = o + a * (2 * b) + 2199023255553 * (k * b) := by
    rw [Int.add_mul, Int.add_mul, Int.mul_assoc, ← Int.mul_assoc a 2 b, Int.mul_comm a 2, Int.mul_assoc]; omega
  rw [this, rnd_add]
theorem step1 (o a b : Int) : rnd (rnd (o + a) + rnd (a + a) * b) = rnd (o + a * (2 * b + 1)) := by
  obtain ⟨k, e⟩ := rnd_off (o + a)
  rw [step0, e, Int.mul_add, Int.mul_one]
  have : o + a + 2199023255553 * k + a * (2 * b) = o + (a * (2 * b) + a) + 2199023255553 * k := by omega
  rw [this, rnd_add]
open SX
attribute [local irreducible] post
noncomputable def rtc1 (a b : Int) : Cfg := condC (opsN Tryd.prog 3 (regC (runC Tryd.prog ⟨0, [1]⟩ 50 (cfg0 Tryd.f35 #[.int .i64 a, .int .i64 b])))) false
noncomputable def rtc (a b : Int) : Cfg := runC Tryd.prog ⟨0, []⟩ 50 (rtc1 a b)
noncomputable def rts (o a b : Int) : SS := ⟨30, [(0, .v (.int .i64 a)), (1, .v (.int .i64 b)), (5, .v (.int .i64 o))], []⟩
abbrev half (b : Int) : Int := IntKind.i64.wrap (Int.tdiv b 2)
theorem half_eq {b : Int} (h : 0 < b ∧ b ≤ 1099511627776) : half b = b / 2 := by
  unfold half
  rw [IntKind.wrap_i64, Int.tdiv_eq_ediv_of_nonneg (by omega)]; omega
theorem odd_eq {b : Int} (h : 0 < b) : Int.tmod b 2 = b % 2 := Int.tmod_eq_emod_of_nonneg (by omega)
set_option maxHeartbeats 8000000 in
theorem rt_loop (w0 : World) (a0 b0 : Int) (N : Nat) : ∀ (n : Nat) (o a b : Int) (bs : List Nat) (aa : Act) (w : World), N < n → (-1099511627776 ≤ o ∧ o ≤ 1099511627776) → (-1099511627776 ≤ a ∧ a ≤ 1099511627776) → (0 ≤ b ∧ b ≤ 1099511627776) → b < 2 ^ N → Sy w0 none bs (rts o a b) [] aa w →
    post Tryd.prog (.rnd n (bodyL (rtc a0 b0)) :: (rtc a0 b0).k.tail) (bodyPost Tryd.prog Tryd.f35 (fun e w' => e = .returned (.int .i64 (rnd (o + a * b))) ∧ Below w0.heap.size w0 w')) .normal aa w := by
  induction N with
  | zero =>
    intro n o a b bs aa w hn ho ha hb hN S
    obtain ⟨n, rfl⟩ : ∃ m, n = m + 1 := ⟨n - 1, by omega⟩
    have e0 : b = 0 := by omega
    subst e0
    refine sy_run (c := ⟨.rnd (n + 1) (bodyL (rtc a0 b0)) :: (rtc a0 b0).k.tail, rts o a 0⟩) ⟨0, []⟩ 50 S fun bs aa w S => ?_
    exact sy_ret S (by kernel_rfl) (v := .int .i64 o) (by kernel_rfl) fun hg => ⟨by rw [Int.mul_zero, Int.add_zero, in_R ho], below_of_gr hg⟩
  | succ N ih =>
    intro n o a b bs aa w hn ho ha hb hN S
    obtain ⟨n, rfl⟩ : ∃ m, n = m + 1 := ⟨n - 1, by omega⟩
    by_cases h0 : b = 0
    · subst h0
      refine sy_run (c := ⟨.rnd (n + 1) (bodyL (rtc a0 b0)) :: (rtc a0 b0).k.tail, rts o a 0⟩) ⟨0, []⟩ 50 S fun bs aa w S => ?_
      exact sy_ret S (by kernel_rfl) (v := .int .i64 o) (by kernel_rfl) fun hg => ⟨by rw [Int.mul_zero, Int.add_zero, in_R ho], below_of_gr hg⟩
    · have hp : 0 < b := by omega
      have hh := half_eq (b := b) ⟨hp, hb.2⟩
      have hN2 : half b < 2 ^ N := by
        rw [hh]
        have : (2 : Int) ^ (N + 1) = 2 ^ N * 2 := Int.pow_succ 2 N
        omega
      refine sy_run (c := ⟨.rnd (n + 1) (bodyL (rtc a0 b0)) :: (rtc a0 b0).k.tail, rts o a b⟩) ⟨0, [4]⟩ 50 S fun bs aa w S => ?_
      refine sy_reg S fun S => ?_
      refine sy_ops 3 S fun bs aa w S => ?_
      refine sy_cond true S (by simpa using hp : decide (0 < b) = true) (by kernel_rfl) fun S => ?_
      refine sy_run ⟨0, [5]⟩ 50 S fun bs aa w S => ?_
      refine sy_reg S fun S => ?_
      refine sy_ops 4 S fun bs aa w S => ?_
      by_cases hd : Int.tmod b 2 = 1
      · refine sy_cond true S (by simpa using hd : decide (Int.tmod b 2 = 1) = true) (by kernel_rfl) fun S => ?_
        refine sy_run ⟨0, []⟩ 50 S fun bs aa w S => ?_
        refine sy_call1 S (rround_any (IntKind.i64.wrap (o + a)) w) (by kernel_rfl) fun aa w hb S => ?_
        refine sy_run ⟨0, []⟩ 50 S fun bs aa w S => ?_
        refine sy_call1 S (rround_any (IntKind.i64.wrap (a + a)) w) (by kernel_rfl) fun aa w hb S => ?_
        refine sy_run ⟨0, [999]⟩ 50 S fun bs aa w S => ?_
        have S' := S.to [] (rts (rnd (IntKind.i64.wrap (o + a))) (rnd (IntKind.i64.wrap (a + a))) (half b)) (by kernel_rfl) (by kernel_rfl) (by kernel_rfl) (by kernel_rfl) (by kernel_rfl)
        refine sy_at (k := .rnd n (bodyL (rtc a0 b0)) :: (rtc a0 b0).k.tail) (by kernel_rfl) ?_
        have h := ih n _ _ _ _ aa w (by omega) (rnd_range _) (rnd_range _) (by rw [hh]; omega) hN2 S'
        rw [wr2 ho ha, wr2 ha ha, step1, hh] at h
        have e2 : 2 * (b / 2) + 1 = b := by rw [odd_eq hp] at hd; omega
        rwa [e2] at h
      · refine sy_cond false S (by simpa using hd : decide (Int.tmod b 2 = 1) = false) (by kernel_rfl) fun S => ?_
        refine sy_run ⟨0, []⟩ 50 S fun bs aa w S => ?_
        refine sy_call1 S (rround_any (IntKind.i64.wrap (a + a)) w) (by kernel_rfl) fun aa w hb S => ?_
        refine sy_run ⟨0, [999]⟩ 50 S fun bs aa w S => ?_
        have S' := S.to [] (rts o (rnd (IntKind.i64.wrap (a + a))) (half b)) (by kernel_rfl) (by kernel_rfl) (by kernel_rfl) (by kernel_rfl) (by kernel_rfl)
        refine sy_at (k := .rnd n (bodyL (rtc a0 b0)) :: (rtc a0 b0).k.tail) (by kernel_rfl) ?_
        have h := ih n _ _ _ _ aa w (by omega) ho (rnd_range _) (by rw [hh]; omega) hN2 S'
        rw [wr2 ha ha, step0, hh] at h
        have e2 : 2 * (b / 2) = b := by rw [odd_eq hp] at hd; omega
        rwa [e2] at h
theorem rtimes_pos (w : World) (a b : Int) (ha : -1099511627776 ≤ a ∧ a ≤ 1099511627776) (hb : 0 ≤ b ∧ b ≤ 1099511627776) : Calls Tryd.prog RTM #[.int .i64 a, .int .i64 b] w fun e w' => e = .returned (.int .i64 (rnd (a * b))) ∧ Below w.heap.size w w' := by
  refine sy_enterF none [] (by intro f hf; simp at hf) Tryd.func35 rfl fun aa S => ?_
  refine sy_run ⟨0, [1]⟩ 50 S fun bs aa w1 S => ?_
  refine sy_reg S fun S => ?_
  refine sy_ops 3 S fun bs aa w1 S => ?_
  refine sy_cond false S (by simp; omega : decide (b < 0) = false) (by kernel_rfl) fun S => ?_
  refine sy_run ⟨0, []⟩ 50 S fun bs aa w1 S => ?_
  have S' := S.to [] (rts 0 a b) (by kernel_rfl) (by kernel_rfl) (by kernel_rfl) (by kernel_rfl) (by kernel_rfl)
  refine sy_loop 42 (by kernel_rfl) ?_
  have h := rt_loop w a b 41 42 0 a b _ aa w1 (by omega) (by decide) ha hb (by have : (2 : Int) ^ 41 = 2199023255552 := by decide
                                                                               omega) S'
  rwa [Int.zero_add] at h
theorem neg_mul_rnd (a b : Int) : rnd (rnd (IntKind.i64.wrap (0 - a)) * IntKind.i64.wrap (0 - b)) = rnd (rnd (IntKind.i64.wrap (0 - a)) * IntKind.i64.wrap (0 - b)) := rfl
theorem rtimes_any (w : World) (a b : Int) (ha : -1099511627776 ≤ a ∧ a ≤ 1099511627776) (hb : -1099511627776 ≤ b ∧ b ≤ 1099511627776) : Calls Tryd.prog RTM #[.int .i64 a, .int .i64 b] w fun e w' => e = .returned (.int .i64 (rnd (a * b))) ∧ Below w.heap.size w w' := by
  by_cases hn : b < 0
  · have e1 : rnd (IntKind.i64.wrap (0 - a)) = -a := by rw [IntKind.wrap_i64, in_R] <;> omega
    have e2 : IntKind.i64.wrap (0 - b) = -b := by rw [IntKind.wrap_i64]; omega
    refine sy_enterF none [] (by intro f hf; simp at hf) Tryd.func35 rfl fun aa S => ?_
    refine sy_run ⟨0, [1]⟩ 50 S fun bs aa w1 S => ?_
    refine sy_reg S fun S => ?_
    refine sy_ops 3 S fun bs aa w1 S => ?_
    refine sy_cond true S (by simpa using hn : decide (b < 0) = true) (by kernel_rfl) fun S => ?_
    refine sy_run ⟨0, []⟩ 50 S fun bs aa w1 S => ?_
    refine sy_call1 S (rround_any (IntKind.i64.wrap (0 - a)) w1) (by kernel_rfl) fun aa w1 hb1 S => ?_
    refine sy_run ⟨0, []⟩ 50 S fun bs aa w1 S => ?_
    refine sy_call1 S (rtimes_pos w1 (rnd (IntKind.i64.wrap (0 - a))) (IntKind.i64.wrap (0 - b)) (rnd_range _) (by rw [e2]; omega)) (by kernel_rfl) fun aa w1 hb1 S => ?_
    refine sy_run ⟨0, []⟩ 50 S fun bs aa w1 S => ?_
    exact sy_ret S (by kernel_rfl) (v := .int .i64 (rnd (rnd (IntKind.i64.wrap (0 - a)) * IntKind.i64.wrap (0 - b)))) (by kernel_rfl) fun hg => ⟨by rw [e1, e2, Int.neg_mul_neg], below_of_gr hg⟩
  · exact rtimes_pos w a b ha ⟨by omega, hb.2⟩
end Go.Proofs.YtoijdnlplbeomaaDoor
