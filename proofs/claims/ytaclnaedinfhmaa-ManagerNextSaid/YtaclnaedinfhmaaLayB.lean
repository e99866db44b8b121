
/-
  Layer 15: the layout of a configuration.
-/
import Derived.Test.YtaclnaedinfhmaaRows
import Derived.Test.YtaclnaedinfhmaaBase
import Derived.Test.YtaclnaedinfhmaaLayA
import Derived.Outline
namespace Go.Proofs.Ytaclnaedinfhmaa
set_option maxRecDepth 20000
open Go.ChangeShapes Go.WideShapes Go.ChangeAt Go.RowKit

theorem between_t (n a b : Int) (w : World) (h : a ≤ n ∧ n ≤ b) : Calls Try.prog 104 #[.int .i64 n, .int .i64 a, .int .i64 b] w fun e w' => e = .returned (.bool true) ∧ w = w' := by
  obtain ⟨h1, h2⟩ := h
  have h3 : decide (a ≤ n) = true := by simpa using h1
  go_enter Try.func104, Try.ntmps104
  go_wp2
  go_ret
  exact ⟨rfl, rfl⟩
theorem between_f (n a b : Int) (w : World) (h : ¬(a ≤ n ∧ n ≤ b)) : Calls Try.prog 104 #[.int .i64 n, .int .i64 a, .int .i64 b] w fun e w' => e = .returned (.bool false) ∧ w = w' := by
  by_cases h1 : a ≤ n
  · have h2 : b < n := by omega
    have h3 : decide (a ≤ n) = true := by simpa using h1
    clear h
    go_enter Try.func104, Try.ntmps104
    go_wp2
    go_ret
    exact ⟨ret_bool (by simpa using h2), rfl⟩
  · have h2 : n < a := by omega
    have h3 : decide (a ≤ n) = false := by simpa using h1
    clear h h1
    go_enter Try.func104, Try.ntmps104
    go_wp2
    go_ret
    exact ⟨rfl, rfl⟩

/-- Is a configuration valid? -/
def Cf.ok (c : Cf) : Prop := (1 ≤ c.t ∧ c.t ≤ 4) ∧ (0 ≤ c.l ∧ c.l ≤ 32) ∧ (0 ≤ c.k ∧ c.k ≤ 8) ∧ (0 ≤ c.s ∧ c.s ≤ 512) ∧ (0 ≤ c.m ∧ c.m ≤ 3)
instance (c : Cf) : Decidable c.ok := by unfold Cf.ok; infer_instance
theorem rightConf_t (c : Cf) (w : World) (h : c.ok) : Calls Try.prog 75 #[c.v] w fun e w' => e = .returned (.bool true) ∧ w' = w.alloc (.cells #[.int .i64 c.t, .int .i64 c.l, .int .i64 c.k, .int .i64 c.s, .int .i64 c.m] 39) := by
  obtain ⟨h1, h2, h3, h4, h5⟩ := h
  have H1 := Lib.hid h1
  have H2 := Lib.hid h2
  have H3 := Lib.hid h3
  have H4 := Lib.hid h4
  have H5 := Lib.hid h5
  clear h1 h2 h3 h4 h5
  unfold Cf.v
  go_enter Try.func75, Try.ntmps75
  go_wp2_with fail
  refine (between_t _ _ _ _ (by exact H1.out)).mono ?_
  rintro e w' ⟨rfl, rfl⟩
  go_wp2_with fail
  refine (between_t _ _ _ _ (by exact H2.out)).mono ?_
  rintro e w' ⟨rfl, rfl⟩
  go_wp2_with fail
  refine (between_t _ _ _ _ (by exact H3.out)).mono ?_
  rintro e w' ⟨rfl, rfl⟩
  go_wp2_with fail
  refine (between_t _ _ _ _ (by exact H4.out)).mono ?_
  rintro e w' ⟨rfl, rfl⟩
  go_wp2_with fail
  refine (between_t _ _ _ _ (by exact H5.out)).mono ?_
  rintro e w' ⟨rfl, rfl⟩
  go_wp2
  go_ret
  exact ⟨rfl, rfl⟩
theorem rightConf_f (c : Cf) (w : World) (h : ¬c.ok) : Calls Try.prog 75 #[c.v] w fun e w' => e = .returned (.bool false) ∧ w' = w.alloc (.cells #[.int .i64 c.t, .int .i64 c.l, .int .i64 c.k, .int .i64 c.s, .int .i64 c.m] 39) := by
  have H := Lib.hid h
  clear h
  by_cases h0 : 1 ≤ c.t ∧ c.t ≤ 4
  case neg =>
    have H0 := Lib.hid h0
    clear h0
    unfold Cf.v
    go_enter Try.func75, Try.ntmps75
    go_wp2_with fail
    refine (between_f _ _ _ _ (by exact H0.out)).mono ?_
    rintro e w' ⟨rfl, rfl⟩
    go_wp2
    go_ret
    exact ⟨rfl, rfl⟩
  by_cases h1 : 0 ≤ c.l ∧ c.l ≤ 32
  case neg =>
    have H0 := Lib.hid h0
    have H1 := Lib.hid h1
    clear h0 h1
    unfold Cf.v
    go_enter Try.func75, Try.ntmps75
    go_wp2_with fail
    refine (between_t _ _ _ _ (by exact H0.out)).mono ?_
    rintro e w' ⟨rfl, rfl⟩
    go_wp2_with fail
    refine (between_f _ _ _ _ (by exact H1.out)).mono ?_
    rintro e w' ⟨rfl, rfl⟩
    go_wp2
    go_ret
    exact ⟨rfl, rfl⟩
  by_cases h2 : 0 ≤ c.k ∧ c.k ≤ 8
  case neg =>
    have H0 := Lib.hid h0
    have H1 := Lib.hid h1
    have H2 := Lib.hid h2
    clear h0 h1 h2
    unfold Cf.v
    go_enter Try.func75, Try.ntmps75
    go_wp2_with fail
    refine (between_t _ _ _ _ (by exact H0.out)).mono ?_
    rintro e w' ⟨rfl, rfl⟩
    go_wp2_with fail
    refine (between_t _ _ _ _ (by exact H1.out)).mono ?_
    rintro e w' ⟨rfl, rfl⟩
    go_wp2_with fail
    refine (between_f _ _ _ _ (by exact H2.out)).mono ?_
    rintro e w' ⟨rfl, rfl⟩
    go_wp2
    go_ret
    exact ⟨rfl, rfl⟩
  by_cases h3 : 0 ≤ c.s ∧ c.s ≤ 512
  case neg =>
    have H0 := Lib.hid h0
    have H1 := Lib.hid h1
    have H2 := Lib.hid h2
    have H3 := Lib.hid h3
    clear h0 h1 h2 h3
    unfold Cf.v
    go_enter Try.func75, Try.ntmps75
    go_wp2_with fail
    refine (between_t _ _ _ _ (by exact H0.out)).mono ?_
    rintro e w' ⟨rfl, rfl⟩
    go_wp2_with fail
    refine (between_t _ _ _ _ (by exact H1.out)).mono ?_
    rintro e w' ⟨rfl, rfl⟩
    go_wp2_with fail
    refine (between_t _ _ _ _ (by exact H2.out)).mono ?_
    rintro e w' ⟨rfl, rfl⟩
    go_wp2_with fail
    refine (between_f _ _ _ _ (by exact H3.out)).mono ?_
    rintro e w' ⟨rfl, rfl⟩
    go_wp2
    go_ret
    exact ⟨rfl, rfl⟩
  by_cases h4 : 0 ≤ c.m ∧ c.m ≤ 3
  case neg =>
    have H0 := Lib.hid h0
    have H1 := Lib.hid h1
    have H2 := Lib.hid h2
    have H3 := Lib.hid h3
    have H4 := Lib.hid h4
    clear h0 h1 h2 h3 h4
    unfold Cf.v
    go_enter Try.func75, Try.ntmps75
    go_wp2_with fail
    refine (between_t _ _ _ _ (by exact H0.out)).mono ?_
    rintro e w' ⟨rfl, rfl⟩
    go_wp2_with fail
    refine (between_t _ _ _ _ (by exact H1.out)).mono ?_
    rintro e w' ⟨rfl, rfl⟩
    go_wp2_with fail
    refine (between_t _ _ _ _ (by exact H2.out)).mono ?_
    rintro e w' ⟨rfl, rfl⟩
    go_wp2_with fail
    refine (between_t _ _ _ _ (by exact H3.out)).mono ?_
    rintro e w' ⟨rfl, rfl⟩
    go_wp2_with fail
    refine (between_f _ _ _ _ (by exact H4.out)).mono ?_
    rintro e w' ⟨rfl, rfl⟩
    go_wp2
    go_ret
    exact ⟨rfl, rfl⟩
  exact absurd ⟨h0, h1, h2, h3, h4⟩ H.out

theorem part_any (a n : Int) (B : Nat) (w : World) (ha : 0 ≤ a ∧ a ≤ 10000) (hn : 0 ≤ n ∧ n ≤ 10000) (hc : w.cell? ⟨B, 0, none⟩ = some (.int .i64 a)) (hf : w.frozen? ⟨B, 0, none⟩ = false) :
    Calls Try.prog 76 #[.int .i64 n, .pointer (some ⟨B, 0, none⟩)] w fun e w' => e = .returned (.int .i64 a) ∧ w' = w.setCell ⟨B, 0, none⟩ (.int .i64 (a + n)) := by
  obtain ⟨h1, h2⟩ := ha
  obtain ⟨h3, h4⟩ := hn
  go_enter Try.func76, Try.ntmps76
  go_wp2
  go_ret
  exact ⟨rfl, rfl⟩

def layOf (c : Cf) : Ly := ⟨c, 0, 1, 2, 3, 4, 4 + 4 * c.t, 4 + 4 * c.t + c.k, 4 + 4 * c.t + c.k + 4 * c.l⟩
def lay0 : Ly := ⟨⟨0, 0, 0, 0, 0⟩, 0, 0, 0, 0, 0, 0, 0, 0⟩

set_option maxHeartbeats 3200000 in
set_option maxRecDepth 100000 in
theorem of_t (c : Cf) (w : World) (h : c.ok) : Calls Try.prog 43 #[c.v] w fun e w' => e = .returned (.tuple #[(layOf c).v, .int .i64 0]) ∧ Below w.heap.size w w' := by
  have HR := Lib.hid (fun w => rightConf_t c w h)
  obtain ⟨⟨h1, h2⟩, ⟨h3, h4⟩, ⟨h5, h6⟩, ⟨h7, h8⟩, ⟨h9, h10⟩⟩ := h
  unfold Cf.v at HR ⊢
  go_enter Try.func43, Try.ntmps43
  go_wp2_with fail
  refine (HR.out _).mono ?_
  rintro e w1 ⟨rfl, rfl⟩
  go_wp2_with fail
  refine (part_any 0 1 _ _ (by omega) (by omega) (by go_simp) (by go_simp)).mono ?_
  rintro e w2 ⟨rfl, rfl⟩
  go_wp2_with fail
  refine (part_any 1 1 _ _ (by omega) (by omega) (by go_simp) (by go_simp)).mono ?_
  rintro e w2 ⟨rfl, rfl⟩
  go_wp2_with fail
  refine (part_any 2 1 _ _ (by omega) (by omega) (by go_simp) (by go_simp)).mono ?_
  rintro e w2 ⟨rfl, rfl⟩
  go_wp2_with fail
  refine (part_any 3 1 _ _ (by omega) (by omega) (by go_simp) (by go_simp)).mono ?_
  rintro e w2 ⟨rfl, rfl⟩
  go_wp2_with fail
  refine (part_any 4 (4 * c.t) _ _ (by omega) (by omega) (by go_simp) (by go_simp)).mono ?_
  rintro e w2 ⟨rfl, rfl⟩
  go_wp2_with fail
  refine (part_any (4 + 4 * c.t) c.k _ _ (by omega) (by omega) (by go_simp) (by go_simp)).mono ?_
  rintro e w2 ⟨rfl, rfl⟩
  go_wp2_with fail
  refine (part_any (4 + 4 * c.t + c.k) (4 * c.l) _ _ (by omega) (by omega) (by go_simp) (by go_simp)).mono ?_
  rintro e w2 ⟨rfl, rfl⟩
  go_wp2_with fail
  refine bodyPost_ret (v := .tuple #[(layOf c).v, .int .i64 0]) (by simp [results, Try.results43, go_sem, layOf, Ly.v]) rfl ⟨rfl, ?_⟩
  repeat (first | with_reducible exact Below.refl _ _ | with_reducible refine Below.setCell ?_ (by first | omega | (simp; omega) | simp) _ | with_reducible refine Below.alloc ?_ (by first | omega | (simp; omega) | simp) _)

set_option maxHeartbeats 800000 in
theorem of_f (c : Cf) (w : World) (h : ¬c.ok) : Calls Try.prog 43 #[c.v] w fun e w' => e = .returned (.tuple #[lay0.v, .int .i64 1]) ∧ Below w.heap.size w w' := by
  have HR := Lib.hid (fun w => rightConf_f c w h)
  clear h
  unfold Cf.v at HR ⊢
  go_enter Try.func43, Try.ntmps43
  go_wp2_with fail
  refine (HR.out _).mono ?_
  rintro e w1 ⟨rfl, rfl⟩
  go_wp2_with fail
  refine bodyPost_ret (v := .tuple #[lay0.v, .int .i64 1]) (by simp [results, Try.results43, go_sem, lay0, Ly.v]) rfl ⟨rfl, ?_⟩
  repeat (first | with_reducible exact Below.refl _ _ | with_reducible refine Below.setCell ?_ (by first | omega | (simp; omega) | simp) _ | with_reducible refine Below.alloc ?_ (by first | omega | (simp; omega) | simp) _)

end Go.Proofs.Ytaclnaedinfhmaa
