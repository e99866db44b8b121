
/-
  Layer 8: the reference's product.
-/
import Derived.Test.YtoijdnlplbeomaaDoorMd6
import Derived.Test.YtoijdnlplbeomaaDoorSx
namespace Go.Proofs.YtoijdnlplbeomaaDoor
open Go Go.RowKit EX
set_option maxRecDepth 100000
set_option linter.unusedVariables false
set_option linter.unusedSimpArgs false
abbrev RRD : FuncId := 18
abbrev RTM : FuncId := 35
theorem rround_any (n : Int) (w : World) : Calls Tryd.prog RRD #[.int .i64 n] w fun e w' => e = .returned (.int .i64 (rnd n)) ∧ Below w.heap.size w w' := by
  have hr := tm_range n
  by_cases h1 : tm n > 1099511627776
  · have e1 : IntKind.i64.wrap (IntKind.i64.wrap (tm n - 2199023255552) - 1) = rnd n := by
      rw [IntKind.wrap_i64, IntKind.wrap_i64]
      have : rnd n = tm n - 2199023255553 := by unfold rnd; exact if_pos h1
      omega
    have hr2 := rnd_range n
    refine (ex_run (w := w) (x := .y (.int .i64 (IntKind.i64.wrap (IntKind.i64.wrap (tm n - 2199023255552) - 1)))) knNone_ok 100000 [.y (.int .i64 n)] [tt, ff] [pw (decide (IntKind.i64.wrap (IntKind.i64.wrap (tm n - 2199023255552) - 1) < -1099511627776)) false, pw (decide (tm n > 1099511627776)) true] (by kernel_rfl) (by simp [denL, den]) (by simp [bdL, bd]) (by
      intro q hq
      simp only [List.mem_cons, List.not_mem_nil, or_false] at hq
      rcases hq with rfl | rfl
      · rw [e1]; simp only [pw, Value.bool.injEq, decide_eq_false_iff_not]; omega
      · simp only [pw, Value.bool.injEq, decide_eq_true_eq]; exact h1)).mono ?_
    rintro e w' ⟨B, rfl, hb⟩
    exact ⟨by rw [den, e1], hb⟩
  · by_cases h2 : tm n < -1099511627776
    · refine (ex_run (w := w) (x := .y (.int .i64 (IntKind.i64.wrap (IntKind.i64.wrap (tm n + 2199023255552) + 1)))) knNone_ok 100000 [.y (.int .i64 n)] [ff, tt] [pw (decide (tm n < -1099511627776)) true, pw (decide (tm n > 1099511627776)) false] (by kernel_rfl) (by simp [denL, den]) (by simp [bdL, bd]) (by
        intro q hq
        simp only [List.mem_cons, List.not_mem_nil, or_false] at hq
        rcases hq with rfl | rfl
        · simp only [pw, Value.bool.injEq, decide_eq_true_eq]; exact h2
        · simp only [pw, Value.bool.injEq, decide_eq_false_iff_not]; exact h1)).mono ?_
      rintro e w' ⟨B, rfl, hb⟩
      have e1 : IntKind.i64.wrap (IntKind.i64.wrap (tm n + 2199023255552) + 1) = rnd n := by
        rw [IntKind.wrap_i64, IntKind.wrap_i64]
        have : rnd n = tm n + 2199023255553 := by unfold rnd; exact (if_neg h1).trans (if_pos h2)
        omega
      exact ⟨by rw [den, e1], hb⟩
    · refine (ex_run (w := w) (x := .y (.int .i64 (tm n))) knNone_ok 100000 [.y (.int .i64 n)] [ff, ff] [pw (decide (tm n < -1099511627776)) false, pw (decide (tm n > 1099511627776)) false] (by kernel_rfl) (by simp [denL, den]) (by simp [bdL, bd]) (by
        intro q hq
        simp only [List.mem_cons, List.not_mem_nil, or_false] at hq
        rcases hq with rfl | rfl
        · simp only [pw, Value.bool.injEq, decide_eq_false_iff_not]; exact h2
        · simp only [pw, Value.bool.injEq, decide_eq_false_iff_not]; exact h1)).mono ?_
      rintro e w' ⟨B, rfl, hb⟩
      have e1 : tm n = rnd n := by unfold rnd; exact ((if_neg h1).trans (if_neg h2)).symm
      exact ⟨by rw [den, e1], hb⟩
/-! ### Congruence -/
theorem rnd_off (n : Int) : ∃ k, rnd n = n + 2199023255553 * k := by
  have h := rnd_mod n
  exact ⟨(rnd n - n) / 2199023255553, by omega⟩
theorem rnd_add (n k : Int) : rnd (n + 2199023255553 * k) = rnd n := rnd_congr (by omega)
theorem in_R {n : Int} (h : -1099511627776 ≤ n ∧ n ≤ 1099511627776) : rnd n = n := by
  rw [rnd_eq]; split <;> omega
theorem wr2 {a b : Int} (ha : -1099511627776 ≤ a ∧ a ≤ 1099511627776) (hb : -1099511627776 ≤ b ∧ b ≤ 1099511627776) : IntKind.i64.wrap (a + b) = a + b := by rw [IntKind.wrap_i64]; omega
theorem step0 (o a b : Int) : rnd (o + rnd (a + a) * b) = rnd (o + a * (2 * b)) := by
  obtain ⟨k, e⟩ := rnd_off (a + a)
  rw [e]
  have : o + (a + a + 2199023255553 * k) * b = o + a * (2 * b) + 2199023255553 * (k * b) := by
    rw [Int.add_mul, Int.add_mul, Int.mul_assoc, ← Int.mul_assoc a 2 b, Int.mul_comm a 2, Int.mul_assoc]; omega
  rw [this, rnd_add]
theorem step1 (o a b : Int) : rnd (rnd (o + a) + rnd (a + a) * b) = rnd (o + a * (2 * b + 1)) := by
  obtain ⟨k, e⟩ := rnd_off (o + a)
  rw [step0, e, Int.mul_add, Int.mul_one]
  have : o + a + 2199023255553 * k + a * (2 * b) = o + (a * (2 * b) + a) + 2199023255553 * k := by omega
  rw [this, rnd_add]
open SX
attribute [local irreducible] post
noncomputable def rtc1 (a b : Int) : Cfg := condC (opsN Tryd.prog 3 (regC (runC Tryd.prog ⟨0, [1]⟩ 50 (cfg0 Tryd.f35 #[.int .i64 a, .int .i64 b])))) false
noncomputable def rtc (a b : Int) : Cfg := runC Tryd.prog ⟨0, []⟩ 50 (rtc1 a b)
noncomputable def rts (o a b : Int) : SS := ⟨30, [(0, .v (.int .i64 a)), (1, .v (.int .i64 b)), (5, .v (.int .i64 o))], []⟩
abbrev half (b : Int) : Int := IntKind.i64.wrap (Int.tdiv b 2)
theorem half_eq {b : Int} (h : 0 < b ∧ b ≤ 1099511627776) : half b = b / 2 := by
  unfold half
  rw [IntKind.wrap_i64, Int.tdiv_eq_ediv_of_nonneg (by omega)]; omega
theorem odd_eq {b : Int} (h : 0 < b) : Int.tmod b 2 = b % 2 := Int.tmod_eq_emod_of_nonneg (by omega)
set_option maxHeartbeats 8000000 in
theorem rt_loop (w0 : World) (a0 b0 : Int) (N : Nat) : ∀ (n : Nat) (o a b : Int) (bs : List Nat) (aa : Act) (w : World), N < n → (-1099511627776 ≤ o ∧ o ≤ 1099511627776) → (-1099511627776 ≤ a ∧ a ≤ 1099511627776) → (0 ≤ b ∧ b ≤ 1099511627776) → b < 2 ^ N → Sy w0 none bs (rts o a b) [] aa w →
    post Tryd.prog (.rnd n (bodyL (rtc a0 b0)) :: (rtc a0 b0).k.tail) (bodyPost Tryd.prog Tryd.f35 (fun e w' => e = .returned (.int .i64 (rnd (o + a * b))) ∧ Below w0.heap.size w0 w')) .normal aa w := by
  induction N with
  | zero =>
    intro n o a b bs aa w hn ho ha hb hN S
    obtain ⟨n, rfl⟩ : ∃ m, n = m + 1 := ⟨n - 1, by omega⟩
    have e0 : b = 0 := by omega
    subst e0
    refine sy_run (c := ⟨.rnd (n + 1) (bodyL (rtc a0 b0)) :: (rtc a0 b0).k.tail, rts o a 0⟩) ⟨0, []⟩ 50 S fun bs aa w S => ?_
    exact sy_ret S (by kernel_rfl) (v := .int .i64 o) (by kernel_rfl) fun hg => ⟨by rw [Int.mul_zero, Int.add_zero, in_R ho], below_of_gr hg⟩
  | succ N ih =>
    intro n o a b bs aa w hn ho ha hb hN S
    obtain ⟨n, rfl⟩ : ∃ m, n = m + 1 := ⟨n - 1, by omega⟩
    by_cases h0 : b = 0
    · subst h0
      refine sy_run (c := ⟨.rnd (n + 1) (bodyL (rtc a0 b0)) :: (rtc a0 b0).k.tail, rts o a 0⟩) ⟨0, []⟩ 50 S fun bs aa w S => ?_
      exact sy_ret S (by kernel_rfl) (v := .int .i64 o) (by kernel_rfl) fun hg => ⟨by rw [Int.mul_zero, Int.add_zero, in_R ho], below_of_gr hg⟩
    · have hp : 0 < b := by omega
      have hh := half_eq (b := b) ⟨hp, hb.2⟩
      have hN2 : half b < 2 ^ N := by
        rw [hh]
        have : (2 : Int) ^ (N + 1) = 2 ^ N * 2 := Int.pow_succ 2 N
        omega
      refine sy_run (c := ⟨.rnd (n + 1) (bodyL (rtc a0 b0)) :: (rtc a0 b0).k.tail, rts o a b⟩) ⟨0, [4]⟩ 50 S fun bs aa w S => ?_
      refine sy_reg S fun S => ?_
      refine sy_ops 3 S fun bs aa w S => ?_
      refine sy_cond true S (by simpa using hp : decide (0 < b) = true) (by kernel_rfl) fun S => ?_
      refine sy_run ⟨0, [5]⟩ 50 S fun bs aa w S => ?_
      refine sy_reg S fun S => ?_
      refine sy_ops 4 S fun bs aa w S => ?_
      by_cases hd : Int.tmod b 2 = 1
      · refine sy_cond true S (by simpa using hd : decide (Int.tmod b 2 = 1) = true) (by kernel_rfl) fun S => ?_
        refine sy_run ⟨0, []⟩ 50 S fun bs aa w S => ?_
        refine sy_call1 S (rround_any (IntKind.i64.wrap (o + a)) w) (by kernel_rfl) fun aa w hb S => ?_
        refine sy_run ⟨0, []⟩ 50 S fun bs aa w S => ?_
        refine sy_call1 S (rround_any (IntKind.i64.wrap (a + a)) w) (by kernel_rfl) fun aa w hb S => ?_
        refine sy_run ⟨0, [999]⟩ 50 S fun bs aa w S => ?_
        have S' := S.to [] (rts (rnd (IntKind.i64.wrap (o + a))) (rnd (IntKind.i64.wrap (a + a))) (half b)) (by kernel_rfl) (by kernel_rfl) (by kernel_rfl) (by kernel_rfl) (by kernel_rfl)
        refine sy_at (k := .rnd n (bodyL (rtc a0 b0)) :: (rtc a0 b0).k.tail) (by kernel_rfl) ?_
        have h := ih n _ _ _ _ aa w (by omega) (rnd_range _) (rnd_range _) (by rw [hh]; omega) hN2 S'
        rw [wr2 ho ha, wr2 ha ha, step1, hh] at h
        have e2 : 2 * (b / 2) + 1 = b := by rw [odd_eq hp] at hd; omega
        rwa [e2] at h
      · refine sy_cond false S (by simpa using hd : decide (Int.tmod b 2 = 1) = false) (by kernel_rfl) fun S => ?_
        refine sy_run ⟨0, []⟩ 50 S fun bs aa w S => ?_
        refine sy_call1 S (rround_any (IntKind.i64.wrap (a + a)) w) (by kernel_rfl) fun aa w hb S => ?_
        refine sy_run ⟨0, [999]⟩ 50 S fun bs aa w S => ?_
        have S' := S.to [] (rts o (rnd (IntKind.i64.wrap (a + a))) (half b)) (by kernel_rfl) (by kernel_rfl) (by kernel_rfl) (by kernel_rfl) (by kernel_rfl)
        refine sy_at (k := .rnd n (bodyL (rtc a0 b0)) :: (rtc a0 b0).k.tail) (by kernel_rfl) ?_
        have h := ih n _ _ _ _ aa w (by omega) ho (rnd_range _) (by rw [hh]; omega) hN2 S'
        rw [wr2 ha ha, step0, hh] at h
        have e2 : 2 * (b / 2) = b := by rw [odd_eq hp] at hd; omega
        rwa [e2] at h
theorem rtimes_pos (w : World) (a b : Int) (ha : -1099511627776 ≤ a ∧ a ≤ 1099511627776) (hb : 0 ≤ b ∧ b ≤ 1099511627776) : Calls Tryd.prog RTM #[.int .i64 a, .int .i64 b] w fun e w' => e = .returned (.int .i64 (rnd (a * b))) ∧ Below w.heap.size w w' := by
  refine sy_enterF none [] (by intro f hf; simp at hf) Tryd.func35 rfl fun aa S => ?_
  refine sy_run ⟨0, [1]⟩ 50 S fun bs aa w1 S => ?_
  refine sy_reg S fun S => ?_
  refine sy_ops 3 S fun bs aa w1 S => ?_
  refine sy_cond false S (by simp; omega : decide (b < 0) = false) (by kernel_rfl) fun S => ?_
  refine sy_run ⟨0, []⟩ 50 S fun bs aa w1 S => ?_
  have S' := S.to [] (rts 0 a b) (by kernel_rfl) (by kernel_rfl) (by kernel_rfl) (by kernel_rfl) (by kernel_rfl)
  refine sy_loop 42 (by kernel_rfl) ?_
  have h := rt_loop w a b 41 42 0 a b _ aa w1 (by omega) (by decide) ha hb (by have : (2 : Int) ^ 41 = 2199023255552 := by decide
                                                                               omega) S'
  rwa [Int.zero_add] at h
theorem neg_mul_rnd (a b : Int) : rnd (rnd (IntKind.i64.wrap (0 - a)) * IntKind.i64.wrap (0 - b)) = rnd (rnd (IntKind.i64.wrap (0 - a)) * IntKind.i64.wrap (0 - b)) := rfl
theorem rtimes_any (w : World) (a b : Int) (ha : -1099511627776 ≤ a ∧ a ≤ 1099511627776) (hb : -1099511627776 ≤ b ∧ b ≤ 1099511627776) : Calls Tryd.prog RTM #[.int .i64 a, .int .i64 b] w fun e w' => e = .returned (.int .i64 (rnd (a * b))) ∧ Below w.heap.size w w' := by
  by_cases hn : b < 0
  · have e1 : rnd (IntKind.i64.wrap (0 - a)) = -a := by rw [IntKind.wrap_i64, in_R] <;> omega
    have e2 : IntKind.i64.wrap (0 - b) = -b := by rw [IntKind.wrap_i64]; omega
    refine sy_enterF none [] (by intro f hf; simp at hf) Tryd.func35 rfl fun aa S => ?_
    refine sy_run ⟨0, [1]⟩ 50 S fun bs aa w1 S => ?_
    refine sy_reg S fun S => ?_
    refine sy_ops 3 S fun bs aa w1 S => ?_
    refine sy_cond true S (by simpa using hn : decide (b < 0) = true) (by kernel_rfl) fun S => ?_
    refine sy_run ⟨0, []⟩ 50 S fun bs aa w1 S => ?_
    refine sy_call1 S (rround_any (IntKind.i64.wrap (0 - a)) w1) (by kernel_rfl) fun aa w1 hb1 S => ?_
    refine sy_run ⟨0, []⟩ 50 S fun bs aa w1 S => ?_
    refine sy_call1 S (rtimes_pos w1 (rnd (IntKind.i64.wrap (0 - a))) (IntKind.i64.wrap (0 - b)) (rnd_range _) (by rw [e2]; omega)) (by kernel_rfl) fun aa w1 hb1 S => ?_
    refine sy_run ⟨0, []⟩ 50 S fun bs aa w1 S => ?_
    exact sy_ret S (by kernel_rfl) (v := .int .i64 (rnd (rnd (IntKind.i64.wrap (0 - a)) * IntKind.i64.wrap (0 - b)))) (by kernel_rfl) fun hg => ⟨by rw [e1, e2, Int.neg_mul_neg], below_of_gr hg⟩
  · exact rtimes_pos w a b ha ⟨by omega, hb.2⟩
end Go.Proofs.YtoijdnlplbeomaaDoor
