/- LockNext: for every operation on a lock and every log of results, Next returns the access or the outcome that the reference implementation returns (and the example of the documentation holds). No condition. -/
import Derived.Test.YtmjfnlangebhlaaRows
import Derived.Test.YtmjfnlangebhlaaBase
import Derived.Test.YtmjfnlangebhlaaAux
import Derived.Test.YtmjfnlangebhlaaWord2
import Derived.Test.YtmjfnlangebhlaaKni
import Derived.Test.YtmjfnlangebhlaaLv0
import Derived.Test.YtmjfnlangebhlaaQl0
import Derived.Test.YtmjfnlangebhlaaQl1
import Derived.Test.YtmjfnlangebhlaaQl2
import Derived.Test.YtmjfnlangebhlaaQl3
import Derived.Test.YtmjfnlangebhlaaQlO
import Derived.WalkKit
import Derived.ProofKit
import Derived.OpenShut
import Derived.Lib.Hide
import Derived.Carry
namespace Go.Proofs.Ytmjfnlangebhlaa.lockNext
open Go.ChangeShapes Go.WideShapes Go.ChangeAt Go.RowKit
set_option linter.unusedVariables false

set_option linter.unusedSimpArgs false
theorem row1 {w : World} {b o : Nat} {x1 : Int} {b1 : Bool} (h : w.cell? ⟨b, o + 0 * 2, none⟩ = some (.int .i64 x1) ∧ w.cell? ⟨b, o + 0 * 2 + 1, none⟩ = some (.bool b1)) :
    ∀ j x, [EX.SV.y (.int .i64 x1), EX.SV.y (.bool b1)][j]? = some x → w.cell? ⟨b, o + j, none⟩ = some (@EX.den EX.noFC (fun _ => (0, 0)) x) := by
  intro j x hj
  match j with
  | 0 => simp at hj; subst hj; simpa [EX.den] using h.1
  | 1 => simp at hj; subst hj; simpa [EX.den] using h.2
  | k + 2 => simp at hj
theorem row2 {w : World} {b o : Nat} {x1 x2 : Int} {b1 b2 : Bool} (h : w.cell? ⟨b, o + 0 * 2, none⟩ = some (.int .i64 x1) ∧ w.cell? ⟨b, o + 0 * 2 + 1, none⟩ = some (.bool b1))
    (h2 : w.cell? ⟨b, o + 1 * 2, none⟩ = some (.int .i64 x2) ∧ w.cell? ⟨b, o + 1 * 2 + 1, none⟩ = some (.bool b2)) :
    ∀ j x, [EX.SV.y (.int .i64 x1), EX.SV.y (.bool b1), EX.SV.y (.int .i64 x2), EX.SV.y (.bool b2)][j]? = some x → w.cell? ⟨b, o + j, none⟩ = some (@EX.den EX.noFC (fun _ => (0, 0)) x) := by
  intro j x hj
  match j with
  | 0 => simp at hj; subst hj; simpa [EX.den] using h.1
  | 1 => simp at hj; subst hj; simpa [EX.den] using h.2
  | 2 => simp at hj; subst hj; simpa [EX.den] using h2.1
  | 3 => simp at hj; subst hj; simpa [EX.den] using h2.2
  | k + 4 => simp at hj
theorem row3 {w : World} {b o : Nat} {x1 x2 x3 : Int} {b1 b2 b3 : Bool} (h : w.cell? ⟨b, o + 0 * 2, none⟩ = some (.int .i64 x1) ∧ w.cell? ⟨b, o + 0 * 2 + 1, none⟩ = some (.bool b1))
    (h2 : w.cell? ⟨b, o + 1 * 2, none⟩ = some (.int .i64 x2) ∧ w.cell? ⟨b, o + 1 * 2 + 1, none⟩ = some (.bool b2)) (h3 : w.cell? ⟨b, o + 2 * 2, none⟩ = some (.int .i64 x3) ∧ w.cell? ⟨b, o + 2 * 2 + 1, none⟩ = some (.bool b3)) :
    ∀ j x, [EX.SV.y (.int .i64 x1), EX.SV.y (.bool b1), EX.SV.y (.int .i64 x2), EX.SV.y (.bool b2), EX.SV.y (.int .i64 x3), EX.SV.y (.bool b3)][j]? = some x → w.cell? ⟨b, o + j, none⟩ = some (@EX.den EX.noFC (fun _ => (0, 0)) x) := by
  intro j x hj
  match j with
  | 0 => simp at hj; subst hj; simpa [EX.den] using h.1
  | 1 => simp at hj; subst hj; simpa [EX.den] using h.2
  | 2 => simp at hj; subst hj; simpa [EX.den] using h2.1
  | 3 => simp at hj; subst hj; simpa [EX.den] using h2.2
  | 4 => simp at hj; subst hj; simpa [EX.den] using h3.1
  | 5 => simp at hj; subst hj; simpa [EX.den] using h3.2
  | k + 6 => simp at hj
--WALKS
theorem all_t0 (w : World) (m k a b t s kr ab : Int) (sa wa da : Option Addr) (sl sc wl wc dl dc : Nat) (v : Value) (l : List (Int × Bool)) (hv : LogQ w v l) (hI : ∀ x ∈ l, I64 x.1) (hl : l.length ≤ 20 ∧ sl ≤ 20 ∧ wl ≤ 20 ∧ dl ≤ 20) : Calls Try.prog 3 #[.int .u8 m, .agg #[.int .i64 1, .int .i64 0, .int .i64 b, .int .i64 t, .int .i64 s, .int .i64 kr, .int .i64 ab, .slice sa sl sc, .slice wa wl wc, .slice da dl dc], v] w fun e w' => e = .returned (.bool true) ∧ Below w.heap.size w w' := by
  obtain ⟨la, lc, rfl, hlc, hcb, hrow⟩ := hv
  have z : I64 0 := ⟨by omega, by omega⟩
  match l, hrow, hI, hl, hlc with
  | [], hrow, hI, hl, hlc =>
    exact run_t00 w m k a b t s kr ab sa wa da la sl sc wl wc dl dc 0 lc 0 0 0 0 0 0 0 false false false z hl
  | [(x1, b1)], hrow, hI, hl, hlc =>
    rcases hrow with h0 | ⟨bb, oo, rfl, hc⟩
    · simp at h0
    have c1 := hc 0 (by simp)
    simp only [List.getD_cons_zero, List.getD_cons_succ] at c1
    have i1 : I64 x1 := hI (x1, b1) (by simp)
    simp only [List.length_cons, List.length_nil] at hlc hl
    obtain ⟨d, rfl⟩ : ∃ d, lc = d + (1) := ⟨lc - (1), by omega⟩
    have hr := row1 c1
    cases h1 : decide (x1 % 2 = 1) with
    | true => exact run_t01l w m k a b t s kr ab sa wa da none sl sc wl wc dl dc 0 0 0 d bb oo x1 0 0 b1 false false i1 hl h1 hr
    | false => exact run_t01f w m k a b t s kr ab sa wa da none sl sc wl wc dl dc 0 0 0 d bb oo x1 0 0 b1 false false i1 hl h1 hr
  | (x1, b1) :: (x2, b2) :: rest, hrow, hI, hl, hlc =>
    rcases hrow with h0 | ⟨bb, oo, rfl, hc⟩
    · simp at h0
    have c1 := hc 0 (by simp)
    have c2 := hc 1 (by simp)
    simp only [List.getD_cons_zero, List.getD_cons_succ] at c1 c2
    have i1 : I64 x1 := hI (x1, b1) (by simp)
    simp only [List.length_cons, List.length_nil] at hlc hl
    obtain ⟨d, rfl⟩ : ∃ d, lc = d + (rest.length + 2) := ⟨lc - (rest.length + 2), by omega⟩
    have hr := row2 c1 c2
    cases h1 : decide (x1 % 2 = 1) with
    | true => exact run_t02l w m k a b t s kr ab sa wa da none sl sc wl wc dl dc 0 0 rest.length d bb oo x1 x2 0 b1 b2 false i1 hl h1 hr
    | false =>
      cases h2 : b2 with
      | false => subst h2; exact run_t02n w m k a b t s kr ab sa wa da none sl sc wl wc dl dc 0 0 rest.length d bb oo x1 x2 0 b1 false false i1 hl h1 rfl hr
      | true => subst h2; exact run_t02y w m k a b t s kr ab sa wa da none sl sc wl wc dl dc 0 0 rest.length d bb oo x1 x2 0 b1 true false i1 hl h1 rfl hr

theorem all_g0 (w : World) (m k a b t s kr ab : Int) (sa wa da : Option Addr) (sl sc wl wc dl dc : Nat) (v : Value) (l : List (Int × Bool)) (hv : LogQ w v l) (hI : ∀ x ∈ l, I64 x.1) (hl : l.length ≤ 20 ∧ sl ≤ 20 ∧ wl ≤ 20 ∧ dl ≤ 20) : Calls Try.prog 3 #[.int .u8 m, .agg #[.int .i64 2, .int .i64 0, .int .i64 b, .int .i64 t, .int .i64 s, .int .i64 kr, .int .i64 ab, .slice sa sl sc, .slice wa wl wc, .slice da dl dc], v] w fun e w' => e = .returned (.bool true) ∧ Below w.heap.size w w' := by
  obtain ⟨la, lc, rfl, hlc, hcb, hrow⟩ := hv
  have z : I64 0 := ⟨by omega, by omega⟩
  match l, hrow, hI, hl, hlc with
  | [], hrow, hI, hl, hlc =>
    exact run_g00 w m k a b t s kr ab sa wa da la sl sc wl wc dl dc 0 lc 0 0 0 0 0 0 0 false false false z hl
  | (x1, b1) :: rest, hrow, hI, hl, hlc =>
    rcases hrow with h0 | ⟨bb, oo, rfl, hc⟩
    · simp at h0
    have c1 := hc 0 (by simp)
    simp only [List.getD_cons_zero, List.getD_cons_succ] at c1
    have i1 : I64 x1 := hI (x1, b1) (by simp)
    simp only [List.length_cons, List.length_nil] at hlc hl
    obtain ⟨d, rfl⟩ : ∃ d, lc = d + (rest.length + 1) := ⟨lc - (rest.length + 1), by omega⟩
    have hr := row1 c1
    exact run_g01 w m k a b t s kr ab sa wa da none sl sc wl wc dl dc 0 0 rest.length d bb oo x1 0 0 b1 false false i1 hl  hr

theorem all_k0 (w : World) (m k a b t s kr ab : Int) (sa wa da : Option Addr) (sl sc wl wc dl dc : Nat) (v : Value) (l : List (Int × Bool)) (hv : LogQ w v l) (hI : ∀ x ∈ l, I64 x.1) (hl : l.length ≤ 20 ∧ sl ≤ 20 ∧ wl ≤ 20 ∧ dl ≤ 20) : Calls Try.prog 3 #[.int .u8 m, .agg #[.int .i64 3, .int .i64 0, .int .i64 b, .int .i64 t, .int .i64 s, .int .i64 kr, .int .i64 ab, .slice sa sl sc, .slice wa wl wc, .slice da dl dc], v] w fun e w' => e = .returned (.bool true) ∧ Below w.heap.size w w' := by
  obtain ⟨la, lc, rfl, hlc, hcb, hrow⟩ := hv
  have z : I64 0 := ⟨by omega, by omega⟩
  match l, hrow, hI, hl, hlc with
  | [], hrow, hI, hl, hlc =>
    by_cases he : 0 = fr b
    · exact run_k00e w m k a b t s kr ab sa wa da la sl sc wl wc dl dc 0 lc 0 0 0 0 0 0 0 false false false z hl he
    · exact run_k00d w m k a b t s kr ab sa wa da la sl sc wl wc dl dc 0 lc 0 0 0 0 0 0 0 false false false z hl he
  | (x1, b1) :: rest, hrow, hI, hl, hlc =>
    rcases hrow with h0 | ⟨bb, oo, rfl, hc⟩
    · simp at h0
    have c1 := hc 0 (by simp)
    simp only [List.getD_cons_zero, List.getD_cons_succ] at c1
    have i1 : I64 x1 := hI (x1, b1) (by simp)
    simp only [List.length_cons, List.length_nil] at hlc hl
    obtain ⟨d, rfl⟩ : ∃ d, lc = d + (rest.length + 1) := ⟨lc - (rest.length + 1), by omega⟩
    have hr := row1 c1
    by_cases he : x1 = fr b
    · exact run_k01e w m k a b t s kr ab sa wa da none sl sc wl wc dl dc 0 0 rest.length d bb oo x1 0 0 b1 false false i1 hl he hr
    · cases h1 : decide (x1 % 2 = 1) with
      | true => exact run_k01l w m k a b t s kr ab sa wa da none sl sc wl wc dl dc 0 0 rest.length d bb oo x1 0 0 b1 false false i1 hl he h1 hr
      | false => exact run_k01f w m k a b t s kr ab sa wa da none sl sc wl wc dl dc 0 0 rest.length d bb oo x1 0 0 b1 false false i1 hl he h1 hr

theorem all_r0 (w : World) (m k a b t s kr ab : Int) (sa wa da : Option Addr) (sl sc wl wc dl dc : Nat) (v : Value) (l : List (Int × Bool)) (hv : LogQ w v l) (hI : ∀ x ∈ l, I64 x.1) (hl : l.length ≤ 20 ∧ sl ≤ 20 ∧ wl ≤ 20 ∧ dl ≤ 20) : Calls Try.prog 3 #[.int .u8 m, .agg #[.int .i64 4, .int .i64 0, .int .i64 b, .int .i64 t, .int .i64 s, .int .i64 kr, .int .i64 ab, .slice sa sl sc, .slice wa wl wc, .slice da dl dc], v] w fun e w' => e = .returned (.bool true) ∧ Below w.heap.size w w' := by
  obtain ⟨la, lc, rfl, hlc, hcb, hrow⟩ := hv
  have z : I64 0 := ⟨by omega, by omega⟩
  match l, hrow, hI, hl, hlc with
  | [], hrow, hI, hl, hlc =>
    exact run_r00 w m k a b t s kr ab sa wa da la sl sc wl wc dl dc 0 lc 0 0 0 0 0 0 0 false false false z hl
  | [(x1, b1)], hrow, hI, hl, hlc =>
    rcases hrow with h0 | ⟨bb, oo, rfl, hc⟩
    · simp at h0
    have c1 := hc 0 (by simp)
    simp only [List.getD_cons_zero, List.getD_cons_succ] at c1
    have i1 : I64 x1 := hI (x1, b1) (by simp)
    simp only [List.length_cons, List.length_nil] at hlc hl
    obtain ⟨d, rfl⟩ : ∃ d, lc = d + (1) := ⟨lc - (1), by omega⟩
    have hr := row1 c1
    cases h1 : decide (x1 % 2 = 1) with
    | true => exact run_r01l w m k a b t s kr ab sa wa da none sl sc wl wc dl dc 0 0 0 d bb oo x1 0 0 b1 false false i1 hl h1 hr
    | false =>
      by_cases h3 : 0 = x1
      · exact run_r01z w m k a b t s kr ab sa wa da none sl sc wl wc dl dc 0 0 0 d bb oo x1 0 0 b1 false false i1 hl h1 h3 hr
      · exact run_r01w w m k a b t s kr ab sa wa da none sl sc wl wc dl dc 0 0 0 d bb oo x1 0 0 b1 false false i1 hl h1 h3 hr
  | [(x1, b1), (x2, b2)], hrow, hI, hl, hlc =>
    rcases hrow with h0 | ⟨bb, oo, rfl, hc⟩
    · simp at h0
    have c1 := hc 0 (by simp)
    have c2 := hc 1 (by simp)
    simp only [List.getD_cons_zero, List.getD_cons_succ] at c1 c2
    have i1 : I64 x1 := hI (x1, b1) (by simp)
    simp only [List.length_cons, List.length_nil] at hlc hl
    obtain ⟨d, rfl⟩ : ∃ d, lc = d + (2) := ⟨lc - (2), by omega⟩
    have hr := row2 c1 c2
    cases h1 : decide (x1 % 2 = 1) with
    | true => exact run_r02l w m k a b t s kr ab sa wa da none sl sc wl wc dl dc 0 0 0 d bb oo x1 x2 0 b1 b2 false i1 hl h1 hr
    | false =>
      by_cases h3 : 0 = x1
      · exact run_r02z w m k a b t s kr ab sa wa da none sl sc wl wc dl dc 0 0 0 d bb oo x1 x2 0 b1 b2 false i1 hl h1 h3 hr
      · exact run_r02w w m k a b t s kr ab sa wa da none sl sc wl wc dl dc 0 0 0 d bb oo x1 x2 0 b1 b2 false i1 hl h1 h3 hr
  | (x1, b1) :: (x2, b2) :: (x3, b3) :: rest, hrow, hI, hl, hlc =>
    rcases hrow with h0 | ⟨bb, oo, rfl, hc⟩
    · simp at h0
    have c1 := hc 0 (by simp)
    have c2 := hc 1 (by simp)
    have c3 := hc 2 (by simp)
    simp only [List.getD_cons_zero, List.getD_cons_succ] at c1 c2 c3
    have i1 : I64 x1 := hI (x1, b1) (by simp)
    simp only [List.length_cons, List.length_nil] at hlc hl
    obtain ⟨d, rfl⟩ : ∃ d, lc = d + (rest.length + 3) := ⟨lc - (rest.length + 3), by omega⟩
    have hr := row3 c1 c2 c3
    cases h1 : decide (x1 % 2 = 1) with
    | true => exact run_r03l w m k a b t s kr ab sa wa da none sl sc wl wc dl dc 0 0 rest.length d bb oo x1 x2 x3 b1 b2 b3 i1 hl h1 hr
    | false =>
      by_cases h3 : x3 = x1
      · exact run_r03y w m k a b t s kr ab sa wa da none sl sc wl wc dl dc 0 0 rest.length d bb oo x1 x2 x3 b1 b2 b3 i1 hl h1 h3 hr
      · exact run_r03n w m k a b t s kr ab sa wa da none sl sc wl wc dl dc 0 0 rest.length d bb oo x1 x2 x3 b1 b2 b3 i1 hl h1 h3 hr

theorem all_t1 (w : World) (m k a b t s kr ab : Int) (sa wa da : Option Addr) (sl sc wl wc dl dc : Nat) (v : Value) (l : List (Int × Bool)) (hv : LogQ w v l) (hI : ∀ x ∈ l, I64 x.1) (hl : l.length ≤ 20 ∧ sl ≤ 20 ∧ wl ≤ 20 ∧ dl ≤ 20) : Calls Try.prog 3 #[.int .u8 m, .agg #[.int .i64 1, .int .i64 1, .int .i64 b, .int .i64 t, .int .i64 s, .int .i64 kr, .int .i64 ab, .slice sa sl sc, .slice wa wl wc, .slice da dl dc], v] w fun e w' => e = .returned (.bool true) ∧ Below w.heap.size w w' := by
  obtain ⟨la, lc, rfl, hlc, hcb, hrow⟩ := hv
  have z : I64 0 := ⟨by omega, by omega⟩
  match l, hrow, hI, hl, hlc with
  | [], hrow, hI, hl, hlc =>
    exact run_t10 w m k a b t s kr ab sa wa da la sl sc wl wc dl dc 0 lc 0 0 0 0 0 0 0 false false false z hl
  | [(x1, b1)], hrow, hI, hl, hlc =>
    rcases hrow with h0 | ⟨bb, oo, rfl, hc⟩
    · simp at h0
    have c1 := hc 0 (by simp)
    simp only [List.getD_cons_zero, List.getD_cons_succ] at c1
    have i1 : I64 x1 := hI (x1, b1) (by simp)
    simp only [List.length_cons, List.length_nil] at hlc hl
    obtain ⟨d, rfl⟩ : ∃ d, lc = d + (1) := ⟨lc - (1), by omega⟩
    have hr := row1 c1
    cases h1 : decide (x1 % 2 = 1) with
    | true => exact run_t11l w m k a b t s kr ab sa wa da none sl sc wl wc dl dc 0 0 0 d bb oo x1 0 0 b1 false false i1 hl h1 hr
    | false => exact run_t11f w m k a b t s kr ab sa wa da none sl sc wl wc dl dc 0 0 0 d bb oo x1 0 0 b1 false false i1 hl h1 hr
  | (x1, b1) :: (x2, b2) :: rest, hrow, hI, hl, hlc =>
    rcases hrow with h0 | ⟨bb, oo, rfl, hc⟩
    · simp at h0
    have c1 := hc 0 (by simp)
    have c2 := hc 1 (by simp)
    simp only [List.getD_cons_zero, List.getD_cons_succ] at c1 c2
    have i1 : I64 x1 := hI (x1, b1) (by simp)
    simp only [List.length_cons, List.length_nil] at hlc hl
    obtain ⟨d, rfl⟩ : ∃ d, lc = d + (rest.length + 2) := ⟨lc - (rest.length + 2), by omega⟩
    have hr := row2 c1 c2
    cases h1 : decide (x1 % 2 = 1) with
    | true => exact run_t12l w m k a b t s kr ab sa wa da none sl sc wl wc dl dc 0 0 rest.length d bb oo x1 x2 0 b1 b2 false i1 hl h1 hr
    | false =>
      cases h2 : b2 with
      | false => subst h2; exact run_t12n w m k a b t s kr ab sa wa da none sl sc wl wc dl dc 0 0 rest.length d bb oo x1 x2 0 b1 false false i1 hl h1 rfl hr
      | true => subst h2; exact run_t12y w m k a b t s kr ab sa wa da none sl sc wl wc dl dc 0 0 rest.length d bb oo x1 x2 0 b1 true false i1 hl h1 rfl hr

theorem all_g1 (w : World) (m k a b t s kr ab : Int) (sa wa da : Option Addr) (sl sc wl wc dl dc : Nat) (v : Value) (l : List (Int × Bool)) (hv : LogQ w v l) (hI : ∀ x ∈ l, I64 x.1) (hl : l.length ≤ 20 ∧ sl ≤ 20 ∧ wl ≤ 20 ∧ dl ≤ 20) : Calls Try.prog 3 #[.int .u8 m, .agg #[.int .i64 2, .int .i64 1, .int .i64 b, .int .i64 t, .int .i64 s, .int .i64 kr, .int .i64 ab, .slice sa sl sc, .slice wa wl wc, .slice da dl dc], v] w fun e w' => e = .returned (.bool true) ∧ Below w.heap.size w w' := by
  obtain ⟨la, lc, rfl, hlc, hcb, hrow⟩ := hv
  have z : I64 0 := ⟨by omega, by omega⟩
  match l, hrow, hI, hl, hlc with
  | [], hrow, hI, hl, hlc =>
    exact run_g10 w m k a b t s kr ab sa wa da la sl sc wl wc dl dc 0 lc 0 0 0 0 0 0 0 false false false z hl
  | (x1, b1) :: rest, hrow, hI, hl, hlc =>
    rcases hrow with h0 | ⟨bb, oo, rfl, hc⟩
    · simp at h0
    have c1 := hc 0 (by simp)
    simp only [List.getD_cons_zero, List.getD_cons_succ] at c1
    have i1 : I64 x1 := hI (x1, b1) (by simp)
    simp only [List.length_cons, List.length_nil] at hlc hl
    obtain ⟨d, rfl⟩ : ∃ d, lc = d + (rest.length + 1) := ⟨lc - (rest.length + 1), by omega⟩
    have hr := row1 c1
    exact run_g11 w m k a b t s kr ab sa wa da none sl sc wl wc dl dc 0 0 rest.length d bb oo x1 0 0 b1 false false i1 hl  hr

theorem all_k1 (w : World) (m k a b t s kr ab : Int) (sa wa da : Option Addr) (sl sc wl wc dl dc : Nat) (v : Value) (l : List (Int × Bool)) (hv : LogQ w v l) (hI : ∀ x ∈ l, I64 x.1) (hl : l.length ≤ 20 ∧ sl ≤ 20 ∧ wl ≤ 20 ∧ dl ≤ 20) : Calls Try.prog 3 #[.int .u8 m, .agg #[.int .i64 3, .int .i64 1, .int .i64 b, .int .i64 t, .int .i64 s, .int .i64 kr, .int .i64 ab, .slice sa sl sc, .slice wa wl wc, .slice da dl dc], v] w fun e w' => e = .returned (.bool true) ∧ Below w.heap.size w w' := by
  obtain ⟨la, lc, rfl, hlc, hcb, hrow⟩ := hv
  have z : I64 0 := ⟨by omega, by omega⟩
  match l, hrow, hI, hl, hlc with
  | [], hrow, hI, hl, hlc =>
    by_cases he : 0 = fr b
    · exact run_k10e w m k a b t s kr ab sa wa da la sl sc wl wc dl dc 0 lc 0 0 0 0 0 0 0 false false false z hl he
    · exact run_k10d w m k a b t s kr ab sa wa da la sl sc wl wc dl dc 0 lc 0 0 0 0 0 0 0 false false false z hl he
  | (x1, b1) :: rest, hrow, hI, hl, hlc =>
    rcases hrow with h0 | ⟨bb, oo, rfl, hc⟩
    · simp at h0
    have c1 := hc 0 (by simp)
    simp only [List.getD_cons_zero, List.getD_cons_succ] at c1
    have i1 : I64 x1 := hI (x1, b1) (by simp)
    simp only [List.length_cons, List.length_nil] at hlc hl
    obtain ⟨d, rfl⟩ : ∃ d, lc = d + (rest.length + 1) := ⟨lc - (rest.length + 1), by omega⟩
    have hr := row1 c1
    by_cases he : x1 = fr b
    · exact run_k11e w m k a b t s kr ab sa wa da none sl sc wl wc dl dc 0 0 rest.length d bb oo x1 0 0 b1 false false i1 hl he hr
    · cases h1 : decide (x1 % 2 = 1) with
      | true => exact run_k11l w m k a b t s kr ab sa wa da none sl sc wl wc dl dc 0 0 rest.length d bb oo x1 0 0 b1 false false i1 hl he h1 hr
      | false => exact run_k11f w m k a b t s kr ab sa wa da none sl sc wl wc dl dc 0 0 rest.length d bb oo x1 0 0 b1 false false i1 hl he h1 hr

theorem all_r1 (w : World) (m k a b t s kr ab : Int) (sa wa da : Option Addr) (sl sc wl wc dl dc : Nat) (v : Value) (l : List (Int × Bool)) (hv : LogQ w v l) (hI : ∀ x ∈ l, I64 x.1) (hl : l.length ≤ 20 ∧ sl ≤ 20 ∧ wl ≤ 20 ∧ dl ≤ 20) : Calls Try.prog 3 #[.int .u8 m, .agg #[.int .i64 4, .int .i64 1, .int .i64 b, .int .i64 t, .int .i64 s, .int .i64 kr, .int .i64 ab, .slice sa sl sc, .slice wa wl wc, .slice da dl dc], v] w fun e w' => e = .returned (.bool true) ∧ Below w.heap.size w w' := by
  obtain ⟨la, lc, rfl, hlc, hcb, hrow⟩ := hv
  have z : I64 0 := ⟨by omega, by omega⟩
  match l, hrow, hI, hl, hlc with
  | [], hrow, hI, hl, hlc =>
    exact run_r10 w m k a b t s kr ab sa wa da la sl sc wl wc dl dc 0 lc 0 0 0 0 0 0 0 false false false z hl
  | [(x1, b1)], hrow, hI, hl, hlc =>
    rcases hrow with h0 | ⟨bb, oo, rfl, hc⟩
    · simp at h0
    have c1 := hc 0 (by simp)
    simp only [List.getD_cons_zero, List.getD_cons_succ] at c1
    have i1 : I64 x1 := hI (x1, b1) (by simp)
    simp only [List.length_cons, List.length_nil] at hlc hl
    obtain ⟨d, rfl⟩ : ∃ d, lc = d + (1) := ⟨lc - (1), by omega⟩
    have hr := row1 c1
    cases h1 : decide (x1 % 2 = 1) with
    | true => exact run_r11l w m k a b t s kr ab sa wa da none sl sc wl wc dl dc 0 0 0 d bb oo x1 0 0 b1 false false i1 hl h1 hr
    | false =>
      by_cases h3 : 0 = x1
      · exact run_r11z w m k a b t s kr ab sa wa da none sl sc wl wc dl dc 0 0 0 d bb oo x1 0 0 b1 false false i1 hl h1 h3 hr
      · exact run_r11w w m k a b t s kr ab sa wa da none sl sc wl wc dl dc 0 0 0 d bb oo x1 0 0 b1 false false i1 hl h1 h3 hr
  | [(x1, b1), (x2, b2)], hrow, hI, hl, hlc =>
    rcases hrow with h0 | ⟨bb, oo, rfl, hc⟩
    · simp at h0
    have c1 := hc 0 (by simp)
    have c2 := hc 1 (by simp)
    simp only [List.getD_cons_zero, List.getD_cons_succ] at c1 c2
    have i1 : I64 x1 := hI (x1, b1) (by simp)
    simp only [List.length_cons, List.length_nil] at hlc hl
    obtain ⟨d, rfl⟩ : ∃ d, lc = d + (2) := ⟨lc - (2), by omega⟩
    have hr := row2 c1 c2
    cases h1 : decide (x1 % 2 = 1) with
    | true => exact run_r12l w m k a b t s kr ab sa wa da none sl sc wl wc dl dc 0 0 0 d bb oo x1 x2 0 b1 b2 false i1 hl h1 hr
    | false =>
      by_cases h3 : 0 = x1
      · exact run_r12z w m k a b t s kr ab sa wa da none sl sc wl wc dl dc 0 0 0 d bb oo x1 x2 0 b1 b2 false i1 hl h1 h3 hr
      · exact run_r12w w m k a b t s kr ab sa wa da none sl sc wl wc dl dc 0 0 0 d bb oo x1 x2 0 b1 b2 false i1 hl h1 h3 hr
  | (x1, b1) :: (x2, b2) :: (x3, b3) :: rest, hrow, hI, hl, hlc =>
    rcases hrow with h0 | ⟨bb, oo, rfl, hc⟩
    · simp at h0
    have c1 := hc 0 (by simp)
    have c2 := hc 1 (by simp)
    have c3 := hc 2 (by simp)
    simp only [List.getD_cons_zero, List.getD_cons_succ] at c1 c2 c3
    have i1 : I64 x1 := hI (x1, b1) (by simp)
    simp only [List.length_cons, List.length_nil] at hlc hl
    obtain ⟨d, rfl⟩ : ∃ d, lc = d + (rest.length + 3) := ⟨lc - (rest.length + 3), by omega⟩
    have hr := row3 c1 c2 c3
    cases h1 : decide (x1 % 2 = 1) with
    | true => exact run_r13l w m k a b t s kr ab sa wa da none sl sc wl wc dl dc 0 0 rest.length d bb oo x1 x2 x3 b1 b2 b3 i1 hl h1 hr
    | false =>
      by_cases h3 : x3 = x1
      · exact run_r13y w m k a b t s kr ab sa wa da none sl sc wl wc dl dc 0 0 rest.length d bb oo x1 x2 x3 b1 b2 b3 i1 hl h1 h3 hr
      · exact run_r13n w m k a b t s kr ab sa wa da none sl sc wl wc dl dc 0 0 rest.length d bb oo x1 x2 x3 b1 b2 b3 i1 hl h1 h3 hr

theorem bad_loc (w : World) (m k a b t s kr ab : Int) (sa wa da : Option Addr) (sl sc wl wc dl dc : Nat) (la : Option Addr) (ll lc : Nat) (hl : ll ≤ 20 ∧ sl ≤ 20 ∧ wl ≤ 20 ∧ dl ≤ 20) (hk : 1 ≤ k ∧ k ≤ 4) (ha : ¬(a = 0 ∨ a = 1)) : Calls Try.prog 3 #[.int .u8 m, .agg #[.int .i64 k, .int .i64 a, .int .i64 b, .int .i64 t, .int .i64 s, .int .i64 kr, .int .i64 ab, .slice sa sl sc, .slice wa wl wc, .slice da dl dc], .slice la ll lc] w fun e w' => e = .returned (.bool true) ∧ Below w.heap.size w w' := by
  have z : I64 0 := ⟨by omega, by omega⟩
  have hk4 : k = 1 ∨ k = 2 ∨ k = 3 ∨ k = 4 := by omega
  by_cases hn : a < 0
  · rcases hk4 with rfl | rfl | rfl | rfl
    · exact run_e1n w m 1 a b t s kr ab sa wa da la sl sc wl wc dl dc ll lc 0 0 0 0 0 0 0 false false false z hl hn
    · exact run_e2n w m 2 a b t s kr ab sa wa da la sl sc wl wc dl dc ll lc 0 0 0 0 0 0 0 false false false z hl hn
    · exact run_e3n w m 3 a b t s kr ab sa wa da la sl sc wl wc dl dc ll lc 0 0 0 0 0 0 0 false false false z hl hn
    · exact run_e4n w m 4 a b t s kr ab sa wa da la sl sc wl wc dl dc ll lc 0 0 0 0 0 0 0 false false false z hl hn
  · rcases hk4 with rfl | rfl | rfl | rfl
    · exact run_e1p w m 1 a b t s kr ab sa wa da la sl sc wl wc dl dc ll lc 0 0 0 0 0 0 0 false false false z hl ⟨by omega, by omega⟩
    · exact run_e2p w m 2 a b t s kr ab sa wa da la sl sc wl wc dl dc ll lc 0 0 0 0 0 0 0 false false false z hl ⟨by omega, by omega⟩
    · exact run_e3p w m 3 a b t s kr ab sa wa da la sl sc wl wc dl dc ll lc 0 0 0 0 0 0 0 false false false z hl ⟨by omega, by omega⟩
    · exact run_e4p w m 4 a b t s kr ab sa wa da la sl sc wl wc dl dc ll lc 0 0 0 0 0 0 0 false false false z hl ⟨by omega, by omega⟩

theorem bad_kind (w : World) (m k a b t s kr ab : Int) (sa wa da : Option Addr) (sl sc wl wc dl dc : Nat) (la : Option Addr) (ll lc : Nat) (hl : ll ≤ 20 ∧ sl ≤ 20 ∧ wl ≤ 20 ∧ dl ≤ 20) (hk : ¬(1 ≤ k ∧ k ≤ 4)) : Calls Try.prog 3 #[.int .u8 m, .agg #[.int .i64 k, .int .i64 a, .int .i64 b, .int .i64 t, .int .i64 s, .int .i64 kr, .int .i64 ab, .slice sa sl sc, .slice wa wl wc, .slice da dl dc], .slice la ll lc] w fun e w' => e = .returned (.bool true) ∧ Below w.heap.size w w' := by
  have z : I64 0 := ⟨by omega, by omega⟩
  by_cases hl2 : k < 1
  · by_cases hn : a < 0
    · exact run_bnl w m k a b t s kr ab sa wa da la sl sc wl wc dl dc ll lc 0 0 0 0 0 0 0 false false false z hl hn hl2
    · by_cases hp : a < 2
      · exact run_bil w m k a b t s kr ab sa wa da la sl sc wl wc dl dc ll lc 0 0 0 0 0 0 0 false false false z hl ⟨by omega, hp⟩ hl2
      · exact run_bpl w m k a b t s kr ab sa wa da la sl sc wl wc dl dc ll lc 0 0 0 0 0 0 0 false false false z hl ⟨by omega, by omega⟩ hl2
  · by_cases hn : a < 0
    · exact run_bnh w m k a b t s kr ab sa wa da la sl sc wl wc dl dc ll lc 0 0 0 0 0 0 0 false false false z hl hn ⟨by omega, by omega⟩
    · by_cases hp : a < 2
      · exact run_bih w m k a b t s kr ab sa wa da la sl sc wl wc dl dc ll lc 0 0 0 0 0 0 0 false false false z hl ⟨by omega, hp⟩ ⟨by omega, by omega⟩
      · exact run_bph w m k a b t s kr ab sa wa da la sl sc wl wc dl dc ll lc 0 0 0 0 0 0 0 false false false z hl ⟨by omega, by omega⟩ ⟨by omega, by omega⟩

theorem long (w : World) (m k a b t s kr ab : Int) (sa wa da : Option Addr) (sl sc wl wc dl dc : Nat) (la : Option Addr) (ll lc : Nat) (hl : ¬(ll ≤ 20 ∧ sl ≤ 20 ∧ wl ≤ 20 ∧ dl ≤ 20)) : Calls Try.prog 3 #[.int .u8 m, .agg #[.int .i64 k, .int .i64 a, .int .i64 b, .int .i64 t, .int .i64 s, .int .i64 kr, .int .i64 ab, .slice sa sl sc, .slice wa wl wc, .slice da dl dc], .slice la ll lc] w fun e w' => e = .returned (.bool true) ∧ Below w.heap.size w w' := by
  have z : I64 0 := ⟨by omega, by omega⟩
  by_cases h1 : 20 < ll
  · exact run_x1 w m k a b t s kr ab sa wa da la sl sc wl wc dl dc ll lc 0 0 0 0 0 0 0 false false false z h1
  · by_cases h2 : 20 < sl
    · exact run_x2 w m k a b t s kr ab sa wa da la sl sc wl wc dl dc ll lc 0 0 0 0 0 0 0 false false false z (by omega) h2
    · by_cases h3 : 20 < wl
      · exact run_x3 w m k a b t s kr ab sa wa da la sl sc wl wc dl dc ll lc 0 0 0 0 0 0 0 false false false z ⟨by omega, by omega⟩ h3
      · exact run_x4 w m k a b t s kr ab sa wa da la sl sc wl wc dl dc ll lc 0 0 0 0 0 0 0 false false false z ⟨by omega, by omega, by omega⟩ (by omega)

theorem walk (w : World) (m : Int) (h1 : (Lit.int .u8 m).wf = true) (k a b t s kr ab : Int) (sa wa da : Option Addr) (sl sc wl wc dl dc : Nat) (g1 : I64 k) (g2 : I64 a) (g3 : I64 b) (g4 : I64 t) (g5 : I64 s) (g6 : I64 kr) (g7 : I64 ab) (v : Value) (l : List (Int × Bool)) (hv : LogQ w v l) (hI : ∀ x ∈ l, I64 x.1) : Calls Try.prog 3 #[.int .u8 m, .agg #[.int .i64 k, .int .i64 a, .int .i64 b, .int .i64 t, .int .i64 s, .int .i64 kr, .int .i64 ab, .slice sa sl sc, .slice wa wl wc, .slice da dl dc], v] w fun e w' => e = .returned (.bool true) ∧ Below w.heap.size w w' := by
  have hv2 := hv
  obtain ⟨la, lc, rfl, hlc, hcb, hrow⟩ := hv
  by_cases hl : l.length ≤ 20 ∧ sl ≤ 20 ∧ wl ≤ 20 ∧ dl ≤ 20
  · by_cases hk : 1 ≤ k ∧ k ≤ 4
    · by_cases ha : a = 0 ∨ a = 1
      · have hk4 : k = 1 ∨ k = 2 ∨ k = 3 ∨ k = 4 := by omega
        rcases ha with rfl | rfl
        · rcases hk4 with rfl | rfl | rfl | rfl
          · exact all_t0 w m 1 0 b t s kr ab sa wa da sl sc wl wc dl dc _ l hv2 hI hl
          · exact all_g0 w m 2 0 b t s kr ab sa wa da sl sc wl wc dl dc _ l hv2 hI hl
          · exact all_k0 w m 3 0 b t s kr ab sa wa da sl sc wl wc dl dc _ l hv2 hI hl
          · exact all_r0 w m 4 0 b t s kr ab sa wa da sl sc wl wc dl dc _ l hv2 hI hl
        · rcases hk4 with rfl | rfl | rfl | rfl
          · exact all_t1 w m 1 1 b t s kr ab sa wa da sl sc wl wc dl dc _ l hv2 hI hl
          · exact all_g1 w m 2 1 b t s kr ab sa wa da sl sc wl wc dl dc _ l hv2 hI hl
          · exact all_k1 w m 3 1 b t s kr ab sa wa da sl sc wl wc dl dc _ l hv2 hI hl
          · exact all_r1 w m 4 1 b t s kr ab sa wa da sl sc wl wc dl dc _ l hv2 hI hl
      · exact bad_loc w m k a b t s kr ab sa wa da sl sc wl wc dl dc la l.length lc hl hk ha
    · exact bad_kind w m k a b t s kr ab sa wa da sl sc wl wc dl dc la l.length lc hl hk
  · exact long w m k a b t s kr ab sa wa da sl sc wl wc dl dc la l.length lc hl

theorem own : ownKnob Try.prog.godebug = none := by kernel_rfl
theorem laidOut : laidOutB Try.prog = true := by kernel_rfl

set_option maxRecDepth 100000 in
theorem lifted (os : Os) (started : os.Started) (H : Type) (enc : TypeId × Value → H) :
    ReturnsInHanded {} Try.checked os 3 .any (Rows.lockNextSpec.pre6 enc Try.prog Try.f3 Rows.lockNextRow.domain false) (Rows.lockNextSpec.post enc Try.prog Try.f3 false true false false) := by
  refine returnsInHanded_of_change (C := Try.checked) own started (by kernel_rfl) Try.func3
    (ChangeSpec.witness6 (enc := enc) (C := Try.checked) false ⟨#[], #[.int .u8 0, .agg #[.int .i64 0, .int .i64 0, .int .i64 0, .int .i64 0, .int .i64 0, .int .i64 0, .int .i64 0, .slice none 0 0, .slice none 0 0, .slice none 0 0], .slice none 0 0], []⟩ 8 (by kernel_rfl) (by kernel_rfl) (by kernel_rfl) (by kernel_rfl)) ?_
  intro W base args ds gs before hval0 hW hcnd _
  have hval : ∀ (j : Nat) t v, Try.f3.params[j]? = some t → args[j]? = some v → Value.okWide Try.prog W .any base t v := hval0
  have hW' := hW
  obtain ⟨p, q, hA0, hV, rfl, hfz, hnd⟩ := hW
  have hA : DataW.TrodAll enc Try.prog W 0 (fun _ => true) true Try.f3.params.toList args.toList ds p := hA0
  rw [Try.params3] at hA hval
  obtain ⟨v0, vs0, d0, ds0, p0, q0, hargs, rfl, rfl, h0, r0⟩ := trodAll_cons hA
  obtain ⟨v1, vs1, d1, ds1, p1, q1, rfl, rfl, rfl, h1, r1⟩ := trodAll_cons r0
  obtain ⟨v2, vs2, d2, ds2, p2, q2, rfl, rfl, rfl, h2, r2⟩ := trodAll_cons r1
  obtain ⟨rfl, rfl, rfl⟩ := trodAll_nil r2
  obtain rfl : args = #[v0, v1, v2] := by cases args; simp_all
  obtain ⟨rfl, rfl⟩ := trodVars_none hV
  clear hA0 hval0
  simp only [List.append_nil] at hW'
  have lt0 : ∀ x ∈ p0, x.block < W.heap.size := fun x hx => hW'.lt x (by simp [hx])
  have lt1 : ∀ x ∈ p1, x.block < W.heap.size := fun x hx => hW'.lt x (by simp [hx])
  have lt2 : ∀ x ∈ p2, x.block < W.heap.size := fun x hx => hW'.lt x (by simp [hx])
  have back0 : ∀ W', Below W.heap.size W W' → DataW.Trod enc Try.prog W' 0 (fun b => decide (b < W.heap.size)) true 5 v0 d0 p0 := fun W' hb => Below.trod laidOut (by kernel_rfl) (of_decide_eq_true (by kernel_rfl)) h0 hb lt0
  have back1 : ∀ W', Below W.heap.size W W' → DataW.Trod enc Try.prog W' 0 (fun b => decide (b < W.heap.size)) true 28 v1 d1 p1 := fun W' hb => Below.trod laidOut (by kernel_rfl) (of_decide_eq_true (by kernel_rfl)) h1 hb lt1
  have back2 : ∀ W', Below W.heap.size W W' → DataW.Trod enc Try.prog W' 0 (fun b => decide (b < W.heap.size)) true 29 v2 d2 p2 := fun W' hb => Below.trod laidOut (by kernel_rfl) (of_decide_eq_true (by kernel_rfl)) h2 hb lt2
  obtain ⟨a0, rfl, rfl, rfl, w0⟩ := open_int Try.underlying5 (hval 0 5 v0 rfl rfl) h0
  obtain ⟨ok1, oa1, ob1, oy1, os1, or1, om1, sa1, wa1, da1, sl1, sc1, wl1, wc1, dl1, dc1, rfl, xa1, xb1, xc1, xd1, xe1, xf1, xg1⟩ := open_opq (hval 1 28 v1 rfl rfl) h1
  obtain ⟨l2, k2, y2⟩ := open_ressq (hval 2 29 v2 rfl rfl) h2
  refine (walk W a0 w0 ok1 oa1 ob1 oy1 os1 or1 om1 sa1 wa1 da1 sl1 sc1 wl1 wc1 dl1 dc1 xa1 xb1 xc1 xd1 xe1 xf1 xg1 v2 l2 k2 y2).mono fun e W' ⟨he, hg⟩ => ?_
  subst he
  exact ⟨_, rfl, _, _, _, [], _, [], hW', (trodAll_cons_mk (shut_bool Try.underlying4 _) trodAll_mk0), (trodAll_cons_mk (back0 _ hg) (trodAll_cons_mk (back1 _ hg) (trodAll_cons_mk (back2 _ hg) trodAll_mk0))), rfl, hg.frame _, fun h => by cases h⟩

theorem over : Rows.lockNextRow.holds Try.pinned (OpenSpec.ofChange Rows.lockNextSpec) :=
  OpenClaim.holds_of_wide 3 Try.f3 rfl rfl rfl rfl rfl rfl rfl ⟨rfl, rfl, rfl, rfl, rfl⟩ rfl rfl rfl rfl rfl (by kernel_rfl) Try.func3 (by kernel_rfl)
    (of_decide_eq_true (by kernel_rfl)) (by unfold Func.isWrapper; first | (rw [if_pos (by decide +kernel)]; kernel_rfl) | (rw [if_neg (by decide +kernel)]; exact ⟨rfl, rfl⟩))
    (fun os started H enc _ => lifted os started H enc)

/-- The given statement. -/
theorem proved : Rows.LockNextSaid :=
  over
#print axioms proved
end Go.Proofs.Ytmjfnlangebhlaa.lockNext
