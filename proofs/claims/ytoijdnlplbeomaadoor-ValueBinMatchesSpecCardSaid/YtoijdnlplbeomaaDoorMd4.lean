
/-
  Layer 8: the product of two words, as the standard library computes it.
-/
import Derived.Test.YtoijdnlplbeomaaDoorMd3
namespace Go.Proofs.YtoijdnlplbeomaaDoor
open Go Go.RowKit EX
set_option maxRecDepth 100000
set_option linter.unusedVariables false
set_option linter.unusedSimpArgs false
abbrev MUL : FuncId := 52
def csP (x y X0 X1 Y0 Y1 W0 P10 T W1 W2 P01 W3 P11 HI LO : Int) : List (Value × Value) := [pe (wU (x * y)) LO, pe (wU (wU (P11 + W2) + wSh W3 32)) HI, pe (wU (X1 * Y1)) P11, pe (wU (W1 + P01)) W3, pe (wU (X0 * Y1)) P01, pe (wSh T 32) W2, pe (wAn T 4294967295) W1, pe (wU (P10 + wSh W0 32)) T, pe (wU (X1 * Y0)) P10, pe (wU (X0 * Y0)) W0, pe (wSh y 32) Y1, pe (wAn y 4294967295) Y0, pe (wSh x 32) X1, pe (wAn x 4294967295) X0]
theorem mul_run (w : World) (x y X0 X1 Y0 Y1 W0 P10 T W1 W2 P01 W3 P11 HI LO : Int) (hc : ∀ q ∈ csP x y X0 X1 Y0 Y1 W0 P10 T W1 W2 P01 W3 P11 HI LO, q.1 = q.2) : Calls Tryd.prog MUL #[.int .u64 x, .int .u64 y] w fun e w' => e = .returned (.tuple #[.int .u64 HI, .int .u64 LO]) ∧ Below w.heap.size w w' :=
  (ex_run (x := .t [.y (.int .u64 HI), .y (.int .u64 LO)]) knNone_ok 100000 [.y (.int .u64 x), .y (.int .u64 y)] [tl MUL 15 X0, tl MUL 17 X1, tl MUL 19 Y0, tl MUL 21 Y1, tl MUL 24 W0, tl MUL 27 P10, tl MUL 30 T, tl MUL 32 W1, tl MUL 34 W2, tl MUL 38 P01, tl MUL 39 W3, tl MUL 42 P11, tl MUL 47 HI, tl MUL 50 LO] (csP x y X0 X1 Y0 Y1 W0 P10 T W1 W2 P01 W3 P11 HI LO) (by kernel_rfl) (by simp [denL, den]) (by simp [bdL, bd]) hc).mono fun e w' ⟨B, h1, h2⟩ => ⟨by rw [h1]; simp [den, denL], h2⟩
theorem mul_any (w : World) (x y : Int) (x0 : 0 ≤ x) (x1 : x ≤ 1099511627776) (y0 : 0 ≤ y) (y1 : y ≤ 1099511627776) : Calls Tryd.prog MUL #[.int .u64 x, .int .u64 y] w fun e w' => e = .returned (.tuple #[.int .u64 (x * y / 18446744073709551616), .int .u64 (x * y % 18446744073709551616)]) ∧ Below w.heap.size w w' := by
  obtain ⟨a, ha⟩ : ∃ a, a = x / 4294967296 := ⟨_, rfl⟩
  obtain ⟨b, hb⟩ : ∃ b, b = x % 4294967296 := ⟨_, rfl⟩
  obtain ⟨c, hc⟩ : ∃ c, c = y / 4294967296 := ⟨_, rfl⟩
  obtain ⟨d, hd⟩ : ∃ d, d = y % 4294967296 := ⟨_, rfl⟩
  have hx : x = a * 4294967296 + b := by omega
  have hy : y = c * 4294967296 + d := by omega
  have hxy : x * y = a * c * 18446744073709551616 + (a * d + b * c) * 4294967296 + b * d := by rw [hx, hy]; grind
  have b1 : 0 ≤ b * d ∧ b * d ≤ 4294967295 * 4294967295 := ⟨Int.mul_nonneg (by omega) (by omega), Int.mul_le_mul (by omega) (by omega) (by omega) (by omega)⟩
  have b2 : 0 ≤ a * d ∧ a * d ≤ 256 * 4294967295 := ⟨Int.mul_nonneg (by omega) (by omega), Int.mul_le_mul (by omega) (by omega) (by omega) (by omega)⟩
  have b3 : 0 ≤ b * c ∧ b * c ≤ 4294967295 * 256 := ⟨Int.mul_nonneg (by omega) (by omega), Int.mul_le_mul (by omega) (by omega) (by omega) (by omega)⟩
  have b4 : 0 ≤ a * c ∧ a * c ≤ 256 * 256 := ⟨Int.mul_nonneg (by omega) (by omega), Int.mul_le_mul (by omega) (by omega) (by omega) (by omega)⟩
  have b5 : 0 ≤ x * y := Int.mul_nonneg x0 y0
  generalize hp : b * d = p at *
  generalize hq : a * d = q at *
  generalize hr : b * c = r at *
  generalize hs : a * c = s at *
  generalize hn : x * y = n at *
  obtain ⟨t, ht⟩ : ∃ t, t = q + p / 4294967296 := ⟨_, rfl⟩
  have h1 := mul_run w x y b a d c p q t (t % 4294967296) (t / 4294967296) r (t % 4294967296 + r) s (s + t / 4294967296 + (t % 4294967296 + r) / 4294967296) (n % 18446744073709551616) ?_
  · have e1 : s + t / 4294967296 + (t % 4294967296 + r) / 4294967296 = n / 18446744073709551616 := by omega
    rw [e1] at h1
    exact h1
  · intro z hz
    simp only [csP, List.mem_cons, List.not_mem_nil, or_false] at hz
    rcases hz with rfl | rfl | rfl | rfl | rfl | rfl | rfl | rfl | rfl | rfl | rfl | rfl | rfl | rfl
    · exact pe_ok (by rw [hn, wU_eq])
    · exact pe_ok (by rw [wU_eq, wU_eq, eD]; omega)
    · exact pe_ok (by rw [hs, wU_eq]; omega)
    · exact pe_ok (by rw [wU_eq]; omega)
    · exact pe_ok (by rw [hr, wU_eq]; omega)
    · exact pe_ok (by rw [eD])
    · exact pe_ok (wAn_eq (by omega) (by omega))
    · exact pe_ok (by rw [wU_eq, eD]; omega)
    · exact pe_ok (by rw [hq, wU_eq]; omega)
    · exact pe_ok (by rw [hp, wU_eq]; omega)
    · exact pe_ok (by rw [eD]; exact hc.symm)
    · exact pe_ok ((wAn_eq (by omega) (by omega)).trans hd.symm)
    · exact pe_ok (by rw [eD]; exact ha.symm)
    · exact pe_ok ((wAn_eq (by omega) (by omega)).trans hb.symm)
end Go.Proofs.YtoijdnlplbeomaaDoor
