
/-
  Layer 8: the integers of the language form a ring.
-/
import Derived.Test.YtnabfpcfodgmpaaDoorMd7
namespace Go.Proofs.YtnabfpcfodgmpaaDoor
open Go Go.RowKit EX
set_option maxRecDepth 100000
set_option linter.unusedVariables false
set_option linter.unusedSimpArgs false
abbrev BIN : FuncId := 8
abbrev LAWR : FuncId := 3
def adF (R : Int → Int) (a b : Int) : Int := R (IntKind.i64.wrap (R a + R b))
def sbF (R : Int → Int) (a b : Int) : Int := R (IntKind.i64.wrap (R a - R b))
def mlF (R : Int → Int) (T : Int → Int → Int) (a b : Int) : Int := R (T (R a) (R b))
def knV (R : Int → Int) (T : Int → Int → Int) : Kn := knOr (knI 6 fun a => .int .i64 (R a)) (knN TIM T)
def tmR (a b : Int) : Int := rnd (a * b)
theorem knV_ok : KnOk Tryd.prog (knV rnd tmR) := knOr_ok (knI_ok' round_any) (knN_ok times_any)
def rg1 (a : Int) : List (Value × Value) := [pw (decide (a ≤ 1099511627776)) true, pw (decide (a ≥ -1099511627776)) true]
def rg2 (a b : Int) : List (Value × Value) := rg1 b ++ rg1 a
def rg3 (a b : Int) : List (Value × Value) := pIn8 a ++ pIn8 b
theorem rg1_ok {n : Int} (h : -1099511627776 ≤ n ∧ n ≤ 1099511627776) : ∀ q ∈ rg1 n, q.1 = q.2 := by
  intro q hq
  simp only [rg1, List.mem_cons, List.not_mem_nil, or_false] at hq
  rcases hq with rfl | rfl <;> simp only [pw, Value.bool.injEq, decide_eq_true_eq] <;> omega
theorem pw_app {l m : List (Value × Value)} (h : ∀ q ∈ l, q.1 = q.2) (g : ∀ q ∈ m, q.1 = q.2) : ∀ q ∈ l ++ m, q.1 = q.2 := fun q hq => (List.mem_append.1 hq).elim (h q) (g q)
theorem bin_1 (R : Int → Int) (T : Int → Int → Int) (hk : KnOk Tryd.prog (knV R T)) (w : World) (a b : Int) (hc : ∀ q ∈ rg2 (R a) (R b), q.1 = q.2) : Calls Tryd.prog BIN #[.int .i64 1, .int .i64 a, .int .i64 b] w fun e w' => e = .returned (.int .i64 (adF R a b)) ∧ Below w.heap.size w w' :=
  (ex_run (x := .y (.int .i64 (adF R a b))) hk 100000 [.v (.int .i64 1), .y (.int .i64 a), .y (.int .i64 b)] [tt, tt, tt, tt] (rg2 (R a) (R b)) (by kernel_rfl) (by simp [denL, den]) (by simp [bdL, bd]) hc).mono fun e w' ⟨B, h1, h2⟩ => ⟨by rw [h1, den], h2⟩
theorem bin_2 (R : Int → Int) (T : Int → Int → Int) (hk : KnOk Tryd.prog (knV R T)) (w : World) (a b : Int) (hc : ∀ q ∈ rg2 (R a) (R b), q.1 = q.2) : Calls Tryd.prog BIN #[.int .i64 2, .int .i64 a, .int .i64 b] w fun e w' => e = .returned (.int .i64 (sbF R a b)) ∧ Below w.heap.size w w' :=
  (ex_run (x := .y (.int .i64 (sbF R a b))) hk 100000 [.v (.int .i64 2), .y (.int .i64 a), .y (.int .i64 b)] [tt, tt, tt, tt] (rg2 (R a) (R b)) (by kernel_rfl) (by simp [denL, den]) (by simp [bdL, bd]) hc).mono fun e w' ⟨B, h1, h2⟩ => ⟨by rw [h1, den], h2⟩
theorem bin_3 (R : Int → Int) (T : Int → Int → Int) (hk : KnOk Tryd.prog (knV R T)) (w : World) (a b : Int) (hc : ∀ q ∈ rg3 (R a) (R b) ++ rg2 (R a) (R b), q.1 = q.2) : Calls Tryd.prog BIN #[.int .i64 3, .int .i64 a, .int .i64 b] w fun e w' => e = .returned (.int .i64 (mlF R T a b)) ∧ Below w.heap.size w w' :=
  (ex_run (x := .y (.int .i64 (mlF R T a b))) hk 100000 [.v (.int .i64 3), .y (.int .i64 a), .y (.int .i64 b)] [tt, tt, tt, tt] (rg3 (R a) (R b) ++ rg2 (R a) (R b)) (by kernel_rfl) (by simp [denL, den]) (by simp [bdL, bd]) hc).mono fun e w' ⟨B, h1, h2⟩ => ⟨by rw [h1, den], h2⟩
theorem rg2_ok (a b : Int) : ∀ q ∈ rg2 (rnd a) (rnd b), q.1 = q.2 := pw_app (rg1_ok (rnd_range b)) (rg1_ok (rnd_range a))
theorem rg3_ok (a b : Int) : ∀ q ∈ rg3 (rnd a) (rnd b), q.1 = q.2 := pw_app (pIn8_ok (rnd_range a)) (pIn8_ok (rnd_range b))
theorem bin3_ok : KnOk Tryd.prog (kn3 BIN (adF rnd) (sbF rnd) (mlF rnd tmR)) :=
  kn3_ok (fun w a b => bin_1 rnd tmR knV_ok w a b (rg2_ok a b)) (fun w a b => bin_2 rnd tmR knV_ok w a b (rg2_ok a b)) (fun w a b => bin_3 rnd tmR knV_ok w a b (pw_app (rg3_ok a b) (rg2_ok a b)))
def knL (R : Int → Int) (T ad sb ml : Int → Int → Int) : Kn := knOr (kn1 5 (.bool true)) (knOr (knI 6 fun a => .int .i64 (R a)) (knOr (knN TIM T) (knOr (knN RTM T) (kn3 BIN ad sb ml))))
theorem knL_ok : KnOk Tryd.prog (knL rnd tmR (adF rnd) (sbF rnd) (mlF rnd tmR)) :=
  knOr_ok (kn1_ok sane08) (knOr_ok (knI_ok' round_any) (knOr_ok (knN_ok times_any) (knOr_ok (knN_ok rtimes_any) bin3_ok)))
/-- What the statement asks. -/
def csL1 (T ad sb ml : Int → Int → Int) (a b c : Int) : List (Value × Value) := [pw (ml a 0 == 0) true, pw (ml a 1 == a) true, pw (ad (sb a b) b == a) true, pw (ml a (ad b c) == ad (ml a b) (ml a c)) true, pw (ml a (ml b c) != ml (ml a b) c) false, pw (ad a (ad b c) != ad (ad a b) c) false, pw (ml a b != ml b a) false, pw (ad a b != ad b a) false, pw (T a b != T a b) false]
def csL (T ad sb ml : Int → Int → Int) (a b c : Int) : List (Value × Value) := csL1 T ad sb ml a b c ++ (rg3 a b ++ (rg3 a b ++ (pw (T a b != ml a b) false :: rg3 a b)))
theorem ring_run (R : Int → Int) (T ad sb ml : Int → Int → Int) (hk : KnOk Tryd.prog (knL R T ad sb ml)) (w : World) (x y z : Int) (hc : ∀ q ∈ csL T ad sb ml (R x) (R y) (R z), q.1 = q.2) : Calls Tryd.prog LAWR #[.int .i64 x, .int .i64 y, .int .i64 z] w fun e w' => e = .returned (.bool (sb 0 (R x) == IntKind.i64.wrap (0 - R x))) ∧ Below w.heap.size w w' :=
  (ex_run (x := .y (.bool (sb 0 (R x) == IntKind.i64.wrap (0 - R x)))) hk 100000 [.y (.int .i64 x), .y (.int .i64 y), .y (.int .i64 z)] [ff, ff, ff, ff, ff, ff, tt, tt, tt, tt] (csL T ad sb ml (R x) (R y) (R z)) (by kernel_rfl) (by simp [denL, den]) (by simp [bdL, bd]) hc).mono fun e w' ⟨B, h1, h2⟩ => ⟨by rw [h1, den], h2⟩
/-! ### The ring -/
theorem rnd_addr (u n : Int) : rnd (u + rnd n) = rnd (u + n) := by
  obtain ⟨k, e⟩ := rnd_off n
  rw [e, ← Int.add_assoc, rnd_add]
theorem rnd_addl (u n : Int) : rnd (rnd n + u) = rnd (n + u) := by rw [Int.add_comm, rnd_addr, Int.add_comm]
theorem rnd_mulr (u n : Int) : rnd (u * rnd n) = rnd (u * n) := by
  obtain ⟨k, e⟩ := rnd_off n
  rw [e, Int.mul_add, Int.mul_left_comm u, rnd_add]
theorem rnd_mull (u n : Int) : rnd (rnd n * u) = rnd (n * u) := by rw [Int.mul_comm, rnd_mulr, Int.mul_comm]
theorem rnd_subr (u n : Int) : rnd (u - rnd n) = rnd (u - n) := by
  obtain ⟨k, e⟩ := rnd_off n
  rw [e]
  have : u - (n + 2199023255553 * k) = u - n + 2199023255553 * (-k) := by omega
  rw [this, rnd_add]
theorem rnd_subl (u n : Int) : rnd (rnd n - u) = rnd (n - u) := by
  obtain ⟨k, e⟩ := rnd_off n
  rw [e]
  have : n + 2199023255553 * k - u = n - u + 2199023255553 * k := by omega
  rw [this, rnd_add]
theorem rnd_rnd (n : Int) : rnd (rnd n) = rnd n := in_R (rnd_range n)
theorem ad_eq (a b : Int) : adF rnd a b = rnd (a + b) := by
  unfold adF
  rw [wr2 (rnd_range a) (rnd_range b), rnd_addr, rnd_addl]
theorem sb_eq (a b : Int) : sbF rnd a b = rnd (a - b) := by
  unfold sbF
  have h1 := rnd_range a
  have h2 := rnd_range b
  have : IntKind.i64.wrap (rnd a - rnd b) = rnd a - rnd b := by rw [IntKind.wrap_i64]; omega
  rw [this, rnd_subr, rnd_subl]
theorem ml_eq (a b : Int) : mlF rnd tmR a b = rnd (a * b) := by
  unfold mlF tmR
  rw [rnd_rnd, rnd_mulr, rnd_mull]
theorem ring_any (w : World) (x y z : Int) : Calls Tryd.prog LAWR #[.int .i64 x, .int .i64 y, .int .i64 z] w fun e w' => e = .returned (.bool true) ∧ Below w.heap.size w w' := by
  have hx := rnd_range x
  have h := ring_run rnd tmR (adF rnd) (sbF rnd) (mlF rnd tmR) knL_ok w x y z (by
    refine pw_app ?_ (pw_app (rg3_ok x y) (pw_app (rg3_ok x y) ?_))
    · generalize rnd x = a at hx
      generalize rnd y = b
      generalize rnd z = c
      intro q hq
      simp only [csL1, List.mem_cons, List.not_mem_nil, or_false, ad_eq, sb_eq, ml_eq] at hq
      rcases hq with rfl | rfl | rfl | rfl | rfl | rfl | rfl | rfl | rfl
      · simp [pw, in_R]
      · simp [pw, in_R hx]
      · simp [pw, rnd_addl, in_R hx]
      · simp [pw, rnd_mulr, rnd_addl, rnd_addr, Int.mul_add]
      · simp [pw, rnd_mulr, rnd_mull, Int.mul_assoc]
      · simp [pw, rnd_addr, rnd_addl, Int.add_assoc]
      · simp [pw, Int.mul_comm]
      · simp [pw, Int.add_comm]
      · simp [pw]
    · intro q hq
      rcases List.mem_cons.1 hq with rfl | hq
      · simp [pw, ml_eq, tmR]
      · exact rg3_ok x y q hq)
  have e : (sbF rnd 0 (rnd x) == IntKind.i64.wrap (0 - rnd x)) = true := by
    rw [sb_eq]
    have e1 : IntKind.i64.wrap (0 - rnd x) = -rnd x := by rw [IntKind.wrap_i64]; omega
    rw [e1, in_R (by omega)]
    simp
  rwa [e] at h
end Go.Proofs.YtnabfpcfodgmpaaDoor
