
/-
  Layer 15: the layout of a configuration.
-/
import Derived.Test.YtmjfnlangebhlaaRows
import Derived.Test.YtmjfnlangebhlaaBase
import Derived.Test.YtmjfnlangebhlaaLayA
import Derived.Outline
namespace Go.Proofs.Ytmjfnlangebhlaa
set_option maxRecDepth 20000
open Go.ChangeShapes Go.WideShapes Go.ChangeAt Go.RowKit

theorem between_t (n a b : Int) (w : World) (h : a ≤ n ∧ n ≤ b) : Calls Try.prog 119 #[.int .i64 n, .int .i64 a, .int .i64 b] w fun e w' => e = .returned (.bool true) ∧ w = w' := by
  obtain ⟨h1, h2⟩ := h
  have h3 : decide (a ≤ n) = true := by simpa using h1
  go_enter Try.func119, Try.ntmps119
  go_wp2
  go_ret
  exact ⟨rfl, rfl⟩
theorem between_f (n a b : Int) (w : World) (h : ¬(a ≤ n ∧ n ≤ b)) : Calls Try.prog 119 #[.int .i64 n, .int .i64 a, .int .i64 b] w fun e w' => e = .returned (.bool false) ∧ w = w' := by
  by_cases h1 : a ≤ n
  · have h2 : b < n := by omega
    have h3 : decide (a ≤ n) = true := by simpa using h1
    clear h
    go_enter Try.func119, Try.ntmps119
    go_wp2
    go_ret
    exact ⟨ret_bool (by simpa using h2), rfl⟩
  · have h2 : n < a := by omega
    have h3 : decide (a ≤ n) = false := by simpa using h1
    clear h h1
    go_enter Try.func119, Try.ntmps119
    go_wp2
    go_ret
    exact ⟨rfl, rfl⟩

/-- Is a configuration valid? -/
def Cf.ok (c : Cf) : Prop := (1 ≤ c.t ∧ c.t ≤ 4) ∧ (0 ≤ c.l ∧ c.l ≤ 32) ∧ (0 ≤ c.k ∧ c.k ≤ 8) ∧ (0 ≤ c.s ∧ c.s ≤ 512) ∧ (0 ≤ c.m ∧ c.m ≤ 3)
instance (c : Cf) : Decidable c.ok := by unfold Cf.ok; infer_instance
theorem rightConf_t (c : Cf) (w : World) (h : c.ok) : Calls Try.prog 87 #[c.v] w fun e w' => e = .returned (.bool true) ∧ w' = w.alloc (.cells #[.int .i64 c.t, .int .i64 c.l, .int .i64 c.k, .int .i64 c.s, .int .i64 c.m] 39) := by
  obtain ⟨h1, h2, h3, h4, h5⟩ := h
  have H1 := Lib.hid h1
  have H2 := Lib.hid h2
  have H3 := Lib.hid h3
  have H4 := Lib.hid h4
  have H5 := Lib.hid h5
  clear h1 h2 h3 h4 h5
  unfold Cf.v
  go_enter Try.func87, Try.ntmps87
  go_wp2_with fail
  refine (between_t _ _ _ _ (by exact H1.out)).mono ?_
  rintro e w' ⟨rfl, rfl⟩
  go_wp2_with fail
  refine (between_t _ _ _ _ (by exact H2.out)).mono ?_
  rintro e w' ⟨rfl, rfl⟩
  go_wp2_with fail
  refine (between_t _ _ _ _ (by exact H3.out)).mono ?_
  rintro e w' ⟨rfl, rfl⟩
  go_wp2_with fail
  refine (between_t _ _ _ _ (by exact H4.out)).mono ?_
  rintro e w' ⟨rfl, rfl⟩
  go_wp2_with fail
  refine (between_t _ _ _ _ (by exact H5.out)).mono ?_
  rintro e w' ⟨rfl, rfl⟩
  go_wp2
  go_ret
  exact ⟨rfl, rfl⟩
theorem rightConf_f (c : Cf) (w : World) (h : ¬c.ok) : Calls Try.prog 87 #[c.v] w fun e w' => e = .returned (.bool false) ∧ w' = w.alloc (.cells #[.int .i64 c.t, .int .i64 c.l, .int .i64 c.k, .int .i64 c.s, .int .i64 c.m] 39) := by
  have H := Lib.hid h
  clear h
  by_cases h0 : 1 ≤ c.t ∧ c.t ≤ 4
  case neg =>
    have H0 := Lib.hid h0
    clear h0
    unfold Cf.v
    go_enter Try.func87, Try.ntmps87
    go_wp2_with fail
    refine (between_f _ _ _ _ (by exact H0.out)).mono ?_
    rintro e w' ⟨rfl, rfl⟩
    go_wp2
    go_ret
    exact ⟨rfl, rfl⟩
  by_cases h1 : 0 ≤ c.l ∧ c.l ≤ 32
  case neg =>
    have H0 := Lib.hid h0
    have H1 := Lib.hid h1
    clear h0 h1
    unfold Cf.v
    go_enter Try.func87, Try.ntmps87
    go_wp2_with fail
    refine (between_t _ _ _ _ (by exact H0.out)).mono ?_
    rintro e w' ⟨rfl, rfl⟩
    go_wp2_with fail
    refine (between_f _ _ _ _ (by exact H1.out)).mono ?_
    rintro e w' ⟨rfl, rfl⟩
    go_wp2
    go_ret
    exact ⟨rfl, rfl⟩
  by_cases h2 : 0 ≤ c.k ∧ c.k ≤ 8
  case neg =>
    have H0 := Lib.hid h0
    have H1 := Lib.hid h1
    have H2 := Lib.hid h2
    clear h0 h1 h2
    unfold Cf.v
    go_enter Try.func87, Try.ntmps87
    go_wp2_with fail
    refine (between_t _ _ _ _ (by exact H0.out)).mono ?_
    rintro e w' ⟨rfl, rfl⟩
    go_wp2_with fail
    refine (between_t _ _ _ _ (by exact H1.out)).mono ?_
    rintro e w' ⟨rfl, rfl⟩
    go_wp2_with fail
    refine (between_f _ _ _ _ (by exact H2.out)).mono ?_
    rintro e w' ⟨rfl, rfl⟩
    go_wp2
    go_ret
    exact ⟨rfl, rfl⟩
  by_cases h3 : 0 ≤ c.s ∧ c.s ≤ 512
  case neg =>
    have H0 := Lib.hid h0
    have H1 := Lib.hid h1
    have H2 := Lib.hid h2
    have H3 := Lib.hid h3
    clear h0 h1 h2 h3
    unfold Cf.v
    go_enter Try.func87, Try.ntmps87
    go_wp2_with fail
    refine (between_t _ _ _ _ (by exact H0.out)).mono ?_
    rintro e w' ⟨rfl, rfl⟩
    go_wp2_with fail
    refine (between_t _ _ _ _ (by exact H1.out)).mono ?_
    rintro e w' ⟨rfl, rfl⟩
    go_wp2_with fail
    refine (between_t _ _ _ _ (by exact H2.out)).mono ?_
    rintro e w' ⟨rfl, rfl⟩
    go_wp2_with fail
    refine (between_f _ _ _ _ (by exact H3.out)).mono ?_
    rintro e w' ⟨rfl, rfl⟩
    go_wp2
    go_ret
    exact ⟨rfl, rfl⟩
  by_cases h4 : 0 ≤ c.m ∧ c.m ≤ 3
  case neg =>
    have H0 := Lib.hid h0
    have H1 := Lib.hid h1
    have H2 := Lib.hid h2
    have H3 := Lib.hid h3
    have H4 := Lib.hid h4
    clear h0 h1 h2 h3 h4
    unfold Cf.v
    go_enter Try.func87, Try.ntmps87
    go_wp2_with fail
    refine (between_t _ _ _ _ (by exact H0.out)).mono ?_
    rintro e w' ⟨rfl, rfl⟩
    go_wp2_with fail
    refine (between_t _ _ _ _ (by exact H1.out)).mono ?_
    rintro e w' ⟨rfl, rfl⟩
    go_wp2_with fail
    refine (between_t _ _ _ _ (by exact H2.out)).mono ?_
    rintro e w' ⟨rfl, rfl⟩
    go_wp2_with fail
    refine (between_t _ _ _ _ (by exact H3.out)).mono ?_
    rintro e w' ⟨rfl, rfl⟩
    go_wp2_with fail
    refine (between_f _ _ _ _ (by exact H4.out)).mono ?_
    rintro e w' ⟨rfl, rfl⟩
    go_wp2
    go_ret
    exact ⟨rfl, rfl⟩
  exact absurd ⟨h0, h1, h2, h3, h4⟩ H.out

set_option maxHeartbeats 800000 in
theorem may_t (c : Cf) (w : World) (h : c.ok) : Calls Try.prog 57 #[c.v] w fun e w' => e = .returned (.bool true) ∧ w' = w.alloc (.cells #[.int .i64 c.t, .int .i64 c.l, .int .i64 c.k, .int .i64 c.s, .int .i64 c.m] 39) := by
  obtain ⟨⟨h1, h2⟩, ⟨h3, h4⟩, ⟨h5, h6⟩, ⟨h7, h8⟩, ⟨h9, h10⟩⟩ := h
  have d0 : decide (c.t < 1) = false := by simp; omega
  have d1 : decide (4 < c.t) = false := by simp; omega
  have d2 : decide (c.l < 0) = false := by simp; omega
  have d3 : decide (32 < c.l) = false := by simp; omega
  have d4 : decide (c.k < 0) = false := by simp; omega
  have d5 : decide (8 < c.k) = false := by simp; omega
  have d6 : decide (0 ≤ c.s) = true := by simp; omega
  have d7 : decide (c.s ≤ 512) = true := by simp; omega
  have d8 : decide (0 ≤ c.m) = true := by simp; omega
  have d9 : decide (c.m ≤ 3) = true := by simp; omega
  unfold Cf.v
  go_enter Try.func57, Try.ntmps57
  go_wp2
  go_ret
  exact ⟨rfl, rfl⟩
set_option maxHeartbeats 3200000 in
theorem may_f (c : Cf) (w : World) (h : ¬c.ok) : Calls Try.prog 57 #[c.v] w fun e w' => e = .returned (.bool false) ∧ w' = w.alloc (.cells #[.int .i64 c.t, .int .i64 c.l, .int .i64 c.k, .int .i64 c.s, .int .i64 c.m] 39) := by
  have H := Lib.hid h
  clear h
  by_cases h0 : 1 ≤ c.t
  case neg =>
    have g0 : c.t < 1 := by omega
    have d0 : decide (c.t < 1) = true := by simp; omega
    clear h0
    unfold Cf.v
    go_enter Try.func57, Try.ntmps57
    go_wp2
    go_ret
    exact ⟨rfl, rfl⟩
  by_cases h1 : c.t ≤ 4
  case neg =>
    have g1 : 4 < c.t := by omega
    have d0 : decide (c.t < 1) = false := by simp; omega
    have d1 : decide (4 < c.t) = true := by simp; omega
    clear h1
    unfold Cf.v
    go_enter Try.func57, Try.ntmps57
    go_wp2
    go_ret
    exact ⟨rfl, rfl⟩
  by_cases h2 : 0 ≤ c.l
  case neg =>
    have g2 : c.l < 0 := by omega
    have d0 : decide (c.t < 1) = false := by simp; omega
    have d1 : decide (4 < c.t) = false := by simp; omega
    have d2 : decide (c.l < 0) = true := by simp; omega
    clear h2
    unfold Cf.v
    go_enter Try.func57, Try.ntmps57
    go_wp2
    go_ret
    exact ⟨rfl, rfl⟩
  by_cases h3 : c.l ≤ 32
  case neg =>
    have g3 : 32 < c.l := by omega
    have d0 : decide (c.t < 1) = false := by simp; omega
    have d1 : decide (4 < c.t) = false := by simp; omega
    have d2 : decide (c.l < 0) = false := by simp; omega
    have d3 : decide (32 < c.l) = true := by simp; omega
    clear h3
    unfold Cf.v
    go_enter Try.func57, Try.ntmps57
    go_wp2
    go_ret
    exact ⟨rfl, rfl⟩
  by_cases h4 : 0 ≤ c.k
  case neg =>
    have g4 : c.k < 0 := by omega
    have d0 : decide (c.t < 1) = false := by simp; omega
    have d1 : decide (4 < c.t) = false := by simp; omega
    have d2 : decide (c.l < 0) = false := by simp; omega
    have d3 : decide (32 < c.l) = false := by simp; omega
    have d4 : decide (c.k < 0) = true := by simp; omega
    clear h4
    unfold Cf.v
    go_enter Try.func57, Try.ntmps57
    go_wp2
    go_ret
    exact ⟨rfl, rfl⟩
  by_cases h5 : c.k ≤ 8
  case neg =>
    have g5 : 8 < c.k := by omega
    have d0 : decide (c.t < 1) = false := by simp; omega
    have d1 : decide (4 < c.t) = false := by simp; omega
    have d2 : decide (c.l < 0) = false := by simp; omega
    have d3 : decide (32 < c.l) = false := by simp; omega
    have d4 : decide (c.k < 0) = false := by simp; omega
    have d5 : decide (8 < c.k) = true := by simp; omega
    clear h5
    unfold Cf.v
    go_enter Try.func57, Try.ntmps57
    go_wp2
    go_ret
    exact ⟨rfl, rfl⟩
  by_cases h6 : 0 ≤ c.s
  case neg =>
    have g6 : c.s < 0 := by omega
    have d0 : decide (c.t < 1) = false := by simp; omega
    have d1 : decide (4 < c.t) = false := by simp; omega
    have d2 : decide (c.l < 0) = false := by simp; omega
    have d3 : decide (32 < c.l) = false := by simp; omega
    have d4 : decide (c.k < 0) = false := by simp; omega
    have d5 : decide (8 < c.k) = false := by simp; omega
    have d6 : decide (0 ≤ c.s) = false := by simp; omega
    clear h6
    unfold Cf.v
    go_enter Try.func57, Try.ntmps57
    go_wp2
    go_ret
    exact ⟨rfl, rfl⟩
  by_cases h7 : c.s ≤ 512
  case neg =>
    have g7 : 512 < c.s := by omega
    have d0 : decide (c.t < 1) = false := by simp; omega
    have d1 : decide (4 < c.t) = false := by simp; omega
    have d2 : decide (c.l < 0) = false := by simp; omega
    have d3 : decide (32 < c.l) = false := by simp; omega
    have d4 : decide (c.k < 0) = false := by simp; omega
    have d5 : decide (8 < c.k) = false := by simp; omega
    have d6 : decide (0 ≤ c.s) = true := by simp; omega
    have d7 : decide (c.s ≤ 512) = false := by simp; omega
    clear h7
    unfold Cf.v
    go_enter Try.func57, Try.ntmps57
    go_wp2
    go_ret
    exact ⟨rfl, rfl⟩
  by_cases h8 : 0 ≤ c.m
  case neg =>
    have g8 : c.m < 0 := by omega
    have d0 : decide (c.t < 1) = false := by simp; omega
    have d1 : decide (4 < c.t) = false := by simp; omega
    have d2 : decide (c.l < 0) = false := by simp; omega
    have d3 : decide (32 < c.l) = false := by simp; omega
    have d4 : decide (c.k < 0) = false := by simp; omega
    have d5 : decide (8 < c.k) = false := by simp; omega
    have d6 : decide (0 ≤ c.s) = true := by simp; omega
    have d7 : decide (c.s ≤ 512) = true := by simp; omega
    have d8 : decide (0 ≤ c.m) = false := by simp; omega
    clear h8
    unfold Cf.v
    go_enter Try.func57, Try.ntmps57
    go_wp2
    go_ret
    exact ⟨rfl, rfl⟩
  by_cases h9 : c.m ≤ 3
  case neg =>
    have g9 : 3 < c.m := by omega
    have d0 : decide (c.t < 1) = false := by simp; omega
    have d1 : decide (4 < c.t) = false := by simp; omega
    have d2 : decide (c.l < 0) = false := by simp; omega
    have d3 : decide (32 < c.l) = false := by simp; omega
    have d4 : decide (c.k < 0) = false := by simp; omega
    have d5 : decide (8 < c.k) = false := by simp; omega
    have d6 : decide (0 ≤ c.s) = true := by simp; omega
    have d7 : decide (c.s ≤ 512) = true := by simp; omega
    have d8 : decide (0 ≤ c.m) = true := by simp; omega
    have d9 : decide (c.m ≤ 3) = false := by simp; omega
    clear h9
    unfold Cf.v
    go_enter Try.func57, Try.ntmps57
    go_wp2
    go_ret
    exact ⟨rfl, rfl⟩
  exact absurd ⟨⟨h0, h1⟩, ⟨h2, h3⟩, ⟨h4, h5⟩, ⟨h6, h7⟩, ⟨h8, h9⟩⟩ H.out


theorem part_any (a n : Int) (B : Nat) (w : World) (ha : 0 ≤ a ∧ a ≤ 10000) (hn : 0 ≤ n ∧ n ≤ 10000) (hc : w.cell? ⟨B, 0, none⟩ = some (.int .i64 a)) (hf : w.frozen? ⟨B, 0, none⟩ = false) :
    Calls Try.prog 88 #[.int .i64 n, .pointer (some ⟨B, 0, none⟩)] w fun e w' => e = .returned (.int .i64 a) ∧ w' = w.setCell ⟨B, 0, none⟩ (.int .i64 (a + n)) := by
  obtain ⟨h1, h2⟩ := ha
  obtain ⟨h3, h4⟩ := hn
  go_enter Try.func88, Try.ntmps88
  go_wp2
  go_ret
  exact ⟨rfl, rfl⟩

def layOf (c : Cf) : Ly := ⟨c, 0, 1, 2, 3, 4, 4 + 4 * c.t, 4 + 4 * c.t + c.k, 4 + 4 * c.t + c.k + 4 * c.l⟩
def lay0 : Ly := ⟨⟨0, 0, 0, 0, 0⟩, 0, 0, 0, 0, 0, 0, 0, 0⟩

set_option maxHeartbeats 3200000 in
set_option maxRecDepth 100000 in
theorem of_t (c : Cf) (w : World) (h : c.ok) : Calls Try.prog 42 #[c.v] w fun e w' => e = .returned (.tuple #[(layOf c).v, .int .i64 0]) ∧ Below w.heap.size w w' := by
  have HR := Lib.hid (fun w => rightConf_t c w h)
  obtain ⟨⟨h1, h2⟩, ⟨h3, h4⟩, ⟨h5, h6⟩, ⟨h7, h8⟩, ⟨h9, h10⟩⟩ := h
  unfold Cf.v at HR ⊢
  go_enter Try.func42, Try.ntmps42
  go_wp2_with fail
  refine (HR.out _).mono ?_
  rintro e w1 ⟨rfl, rfl⟩
  go_wp2_with fail
  refine (part_any 0 1 _ _ (by omega) (by omega) (by go_simp) (by go_simp)).mono ?_
  rintro e w2 ⟨rfl, rfl⟩
  go_wp2_with fail
  refine (part_any 1 1 _ _ (by omega) (by omega) (by go_simp) (by go_simp)).mono ?_
  rintro e w2 ⟨rfl, rfl⟩
  go_wp2_with fail
  refine (part_any 2 1 _ _ (by omega) (by omega) (by go_simp) (by go_simp)).mono ?_
  rintro e w2 ⟨rfl, rfl⟩
  go_wp2_with fail
  refine (part_any 3 1 _ _ (by omega) (by omega) (by go_simp) (by go_simp)).mono ?_
  rintro e w2 ⟨rfl, rfl⟩
  go_wp2_with fail
  refine (part_any 4 (4 * c.t) _ _ (by omega) (by omega) (by go_simp) (by go_simp)).mono ?_
  rintro e w2 ⟨rfl, rfl⟩
  go_wp2_with fail
  refine (part_any (4 + 4 * c.t) c.k _ _ (by omega) (by omega) (by go_simp) (by go_simp)).mono ?_
  rintro e w2 ⟨rfl, rfl⟩
  go_wp2_with fail
  refine (part_any (4 + 4 * c.t + c.k) (4 * c.l) _ _ (by omega) (by omega) (by go_simp) (by go_simp)).mono ?_
  rintro e w2 ⟨rfl, rfl⟩
  go_wp2_with fail
  refine bodyPost_ret (v := .tuple #[(layOf c).v, .int .i64 0]) (by simp [results, Try.results42, go_sem, layOf, Ly.v]) rfl ⟨rfl, ?_⟩
  repeat (first | with_reducible exact Below.refl _ _ | with_reducible refine Below.setCell ?_ (by first | omega | (simp; omega) | simp) _ | with_reducible refine Below.alloc ?_ (by first | omega | (simp; omega) | simp) _)

set_option maxHeartbeats 800000 in
theorem of_f (c : Cf) (w : World) (h : ¬c.ok) : Calls Try.prog 42 #[c.v] w fun e w' => e = .returned (.tuple #[lay0.v, .int .i64 1]) ∧ Below w.heap.size w w' := by
  have HR := Lib.hid (fun w => rightConf_f c w h)
  clear h
  unfold Cf.v at HR ⊢
  go_enter Try.func42, Try.ntmps42
  go_wp2_with fail
  refine (HR.out _).mono ?_
  rintro e w1 ⟨rfl, rfl⟩
  go_wp2_with fail
  refine bodyPost_ret (v := .tuple #[lay0.v, .int .i64 1]) (by simp [results, Try.results42, go_sem, lay0, Ly.v]) rfl ⟨rfl, ?_⟩
  repeat (first | with_reducible exact Below.refl _ _ | with_reducible refine Below.setCell ?_ (by first | omega | (simp; omega) | simp) _ | with_reducible refine Below.alloc ?_ (by first | omega | (simp; omega) | simp) _)

set_option maxHeartbeats 1600000 in
set_option maxRecDepth 100000 in
theorem rof_t (c : Cf) (w : World) (h : c.ok) : Calls Try.prog 19 #[c.v] w fun e w' => e = .returned (.tuple #[(layOf c).v, .int .i64 0]) ∧ Below w.heap.size w w' := by
  have HR := Lib.hid (fun w => may_t c w h)
  obtain ⟨⟨h1, h2⟩, ⟨h3, h4⟩, ⟨h5, h6⟩, ⟨h7, h8⟩, ⟨h9, h10⟩⟩ := h
  unfold Cf.v at HR ⊢
  go_enter Try.func19, Try.ntmps19
  go_wp2_with fail
  refine (HR.out _).mono ?_
  rintro e w1 ⟨rfl, rfl⟩
  go_wp2_with fail
  refine bodyPost_ret (v := .tuple #[(layOf c).v, .int .i64 0]) (by simp [results, Try.results19, go_sem, layOf, Ly.v]) rfl ⟨rfl, ?_⟩
  repeat (first | with_reducible exact Below.refl _ _ | with_reducible refine Below.setCell ?_ (by first | omega | (simp; omega) | simp) _ | with_reducible refine Below.alloc ?_ (by first | omega | (simp; omega) | simp) _)

set_option maxHeartbeats 800000 in
theorem rof_f (c : Cf) (w : World) (h : ¬c.ok) : Calls Try.prog 19 #[c.v] w fun e w' => e = .returned (.tuple #[lay0.v, .int .i64 1]) ∧ Below w.heap.size w w' := by
  have HR := Lib.hid (fun w => may_f c w h)
  clear h
  unfold Cf.v at HR ⊢
  go_enter Try.func19, Try.ntmps19
  go_wp2_with fail
  refine (HR.out _).mono ?_
  rintro e w1 ⟨rfl, rfl⟩
  go_wp2_with fail
  refine bodyPost_ret (v := .tuple #[lay0.v, .int .i64 1]) (by simp [results, Try.results19, go_sem, lay0, Ly.v]) rfl ⟨rfl, ?_⟩
  repeat (first | with_reducible exact Below.refl _ _ | with_reducible refine Below.setCell ?_ (by first | omega | (simp; omega) | simp) _ | with_reducible refine Below.alloc ?_ (by first | omega | (simp; omega) | simp) _)

end Go.Proofs.Ytmjfnlangebhlaa
