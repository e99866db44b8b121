
/-
  Layer 8: the remainder of a product of two words by the modulus, as the standard library computes it.
-/
import Derived.Test.YtoijdnlplbeomaaDoorRd0
namespace Go.Proofs.YtoijdnlplbeomaaDoor
open Go Go.RowKit EX
set_option maxRecDepth 100000
set_option linter.unusedVariables false
set_option linter.unusedSimpArgs false
def pw (p : Bool) (b : Bool) : Value × Value := (.bool p, .bool b)
def wU (x : Int) : Int := IntKind.u64.wrap x
def wAn (x m : Int) : Int := IntKind.u64.wrap (((BitVec.ofInt 64 x &&& BitVec.ofInt 64 m).toNat : Nat) : Int)
def wOr (x m : Int) : Int := IntKind.u64.wrap (((BitVec.ofInt 64 x ||| BitVec.ofInt 64 m).toNat : Nat) : Int)
def wSh (x : Int) (n : Nat) : Int := x.fdiv (2 ^ n)
def wSl (x : Int) (n : Nat) : Int := IntKind.u64.wrap (x * 2 ^ n)
/-- The high part of the dividend, as it is taken. -/
def mH (hi : Int) : Int := Int.tmod hi 2199023255553
def mA (hi lo : Int) : Int := wOr (wSl (mH hi) 22) (wSh lo 42)
def mL (lo : Int) : Int := wSl lo 22
def mD (lo : Int) : Int := wSh (mL lo) 32
def mE (lo : Int) : Int := wAn (mL lo) 4294967295
def mQ (v : Int) : Int := wU (Int.tdiv v 2147483648)
def mR (v : Int) : Int := wU (v - wU (mQ v * 2147483648))
def mCmp (q r d : Int) : Bool := decide (wU (q * 4194304) > wU (wU (4294967296 * r) + d))
def mDec (q : Int) : Int := wU (q - 1)
def mInc (r : Int) : Int := wU (r + 2147483648)
def mV (a d q : Int) : Int := wU (wU (wU (a * 4294967296) + d) - wU (q * 9223372036858970112))
def mRes (v e q : Int) : Int := wSh (wU (wU (wU (v * 4294967296) + e) - wU (q * 9223372036858970112))) 22
def big (x : Int) : Bool := decide (x ≥ 4294967296)
abbrev REM : FuncId := 54
abbrev argR (hi lo : Int) : List SV := [.y (.int .u64 hi), .y (.int .u64 lo), .v (.int .u64 2199023255553)]
def csZ (hi : Int) : List (Value × Value) := [pw (mH hi == 0) true, pw (decide (2199023255553 ≤ mH hi)) false]
theorem rem_0 (w : World) (hi lo : Int) (hc : ∀ q ∈ csZ hi, q.1 = q.2) : Calls Tryd.prog REM #[.int .u64 hi, .int .u64 lo, .int .u64 2199023255553] w fun e w' => e = .returned (.int .u64 (Int.tmod lo 2199023255553)) ∧ Below w.heap.size w w' :=
  (ex_run (x := .y (.int .u64 (Int.tmod lo 2199023255553))) knNone_ok 100000 (argR hi lo) [ff, tt] (csZ hi) (by kernel_rfl) (by simp [argR, denL, den]) (by simp [argR, bdL, bd]) hc).mono fun e w' ⟨B, h1, h2⟩ => ⟨by rw [h1, den], h2⟩
end Go.Proofs.YtoijdnlplbeomaaDoor
