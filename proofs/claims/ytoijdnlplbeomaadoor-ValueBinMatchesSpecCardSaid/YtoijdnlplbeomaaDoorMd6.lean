
/-
  Layer 8: the product of two integers in range is their product brought into range.
-/
import Derived.Test.YtoijdnlplbeomaaDoorMd5
namespace Go.Proofs.YtoijdnlplbeomaaDoor
open Go Go.RowKit EX
set_option maxRecDepth 100000
set_option linter.unusedVariables false
set_option linter.unusedSimpArgs false
theorem rnd_congr {m n : Int} (h : m % 2199023255553 = n % 2199023255553) : rnd m = rnd n := by rw [rnd_eq, rnd_eq, h]
theorem rnd_mod (n : Int) : rnd n % 2199023255553 = n % 2199023255553 := by rw [rnd_eq]; split <;> omega
theorem mul_rng {x y : Int} (hx : 0 ≤ x ∧ x ≤ 1099511627776) (hy : 0 ≤ y ∧ y ≤ 1099511627776) : 0 ≤ x * y ∧ x * y ≤ 1208925819614629174706176 :=
  ⟨Int.mul_nonneg hx.1 hy.1, Int.le_trans (Int.mul_le_mul hx.2 hy.2 hy.1 (by decide)) (by decide)⟩
theorem pr2_eq {x y : Int} (hx : 0 ≤ x ∧ x ≤ 1099511627776) (hy : 0 ≤ y ∧ y ≤ 1099511627776) : pr2 x y = x * y % 2199023255553 := by
  unfold pr2
  generalize x * y = p
  have : p / 18446744073709551616 * 18446744073709551616 + p % 18446744073709551616 = p := by omega
  rw [this]
theorem csTm_ok {a b : Int} {sa sb s : Bool} {x y : Int} (ha : decide (a < 0) = sa) (hb : decide (b < 0) = sb) (hs : (sa != sb) = s) (hx : 0 ≤ x ∧ x ≤ 1099511627776) (hy : 0 ≤ y ∧ y ≤ 1099511627776) : ∀ q ∈ csTm a b sa sb s x y, q.1 = q.2 := by
  have h := mul_rng hx hy
  intro q hq
  simp only [csTm, askR, askM, List.mem_cons, List.mem_append, List.not_mem_nil, or_false] at hq
  generalize x * y = p at h hq
  rcases hq with rfl | (rfl | rfl | rfl | rfl) | (rfl | rfl | rfl | rfl) | rfl | rfl
  · simp only [pw, ha, hb, hs]
  all_goals simp only [pw, Value.bool.injEq, decide_eq_true_eq, ha, hb]
  all_goals omega
theorem mgP_eq {a : Int} (h : 0 ≤ a ∧ a ≤ 1099511627776) : mgP a = a := by
  unfold mgP; rw [IntKind.wrap_u64]; omega
theorem mgN_eq {a : Int} (h : -1099511627776 ≤ a ∧ a < 0) : mgN a = -a := by
  unfold mgN; rw [IntKind.wrap_i64, IntKind.wrap_u64]; omega
theorem tim_pos {x y : Int} (hx : 0 ≤ x ∧ x ≤ 1099511627776) (hy : 0 ≤ y ∧ y ≤ 1099511627776) : rnd (IntKind.i64.wrap (pr2 x y)) = rnd (x * y) := by
  rw [pr2_eq hx hy]
  generalize x * y = p
  have : IntKind.i64.wrap (p % 2199023255553) = p % 2199023255553 := by rw [IntKind.wrap_i64]; omega
  rw [this]
  exact rnd_congr (by omega)
theorem tim_neg {x y : Int} (hx : 0 ≤ x ∧ x ≤ 1099511627776) (hy : 0 ≤ y ∧ y ≤ 1099511627776) : rnd (IntKind.i64.wrap (0 - IntKind.i64.wrap (pr2 x y))) = rnd (-(x * y)) := by
  rw [pr2_eq hx hy]
  generalize x * y = p
  have : IntKind.i64.wrap (p % 2199023255553) = p % 2199023255553 := by rw [IntKind.wrap_i64]; omega
  rw [this]
  have : IntKind.i64.wrap (0 - p % 2199023255553) = -(p % 2199023255553) := by rw [IntKind.wrap_i64]; omega
  rw [this]
  exact rnd_congr (by omega)
theorem times_any (w : World) (a b : Int) (ha : -1099511627776 ≤ a ∧ a ≤ 1099511627776) (hb : -1099511627776 ≤ b ∧ b ≤ 1099511627776) : Calls Tryd.prog TIM #[.int .i64 a, .int .i64 b] w fun e w' => e = .returned (.int .i64 (rnd (a * b))) ∧ Below w.heap.size w w' := by
  by_cases h1 : a < 0 <;> by_cases h2 : b < 0
  · have e1 := mgN_eq ⟨ha.1, h1⟩
    have e2 := mgN_eq ⟨hb.1, h2⟩
    have h := tim_11 rnd knX_ok w a b (csTm_ok (by simp [h1]) (by simp [h2]) rfl (by rw [e1]; omega) (by rw [e2]; omega))
    rwa [tim_pos (by rw [e1]; omega) (by rw [e2]; omega), e1, e2, Int.neg_mul_neg] at h
  · have e1 := mgN_eq ⟨ha.1, h1⟩
    have e2 := mgP_eq (a := b) ⟨by omega, hb.2⟩
    have h := tim_10 rnd knX_ok w a b (csTm_ok (by simp [h1]) (by simp [h2]) rfl (by rw [e1]; omega) (by rw [e2]; omega))
    rwa [tim_neg (by rw [e1]; omega) (by rw [e2]; omega), e1, e2, Int.neg_mul, Int.neg_neg] at h
  · have e1 := mgP_eq (a := a) ⟨by omega, ha.2⟩
    have e2 := mgN_eq ⟨hb.1, h2⟩
    have h := tim_01 rnd knX_ok w a b (csTm_ok (by simp [h1]) (by simp [h2]) rfl (by rw [e1]; omega) (by rw [e2]; omega))
    rwa [tim_neg (by rw [e1]; omega) (by rw [e2]; omega), e1, e2, Int.mul_neg, Int.neg_neg] at h
  · have e1 := mgP_eq (a := a) ⟨by omega, ha.2⟩
    have e2 := mgP_eq (a := b) ⟨by omega, hb.2⟩
    have h := tim_00 rnd knX_ok w a b (csTm_ok (by simp [h1]) (by simp [h2]) rfl (by rw [e1]; omega) (by rw [e2]; omega))
    rwa [tim_pos (by rw [e1]; omega) (by rw [e2]; omega), e1, e2] at h
/-! ### What Bin gives -/
def nI : SV → Option Int
  | .y (.int .i64 a) => some a
  | .v (.int .i64 a) => some a
  | _ => none
theorem nI_den {B : Pl} {x : SV} {a : Int} (h : nI x = some a) : den B x = .int .i64 a := by
  unfold nI at h
  split at h
  · cases h; simp [den]
  · cases h; simp [den]
  · cases h
def pIn8 (n : Int) : List (Value × Value) := [pw (decide (n ≥ -1099511627776)) true, pw (decide (n ≤ 1099511627776)) true]
theorem pIn8_ok {n : Int} (h : -1099511627776 ≤ n ∧ n ≤ 1099511627776) : ∀ q ∈ pIn8 n, q.1 = q.2 := by
  intro q hq
  simp only [pIn8, List.mem_cons, List.not_mem_nil, or_false] at hq
  rcases hq with rfl | rfl <;> simp only [pw, Value.bool.injEq, decide_eq_true_eq] <;> omega
theorem pIn8_of {n : Int} (h : ∀ q ∈ pIn8 n, q.1 = q.2) : -1099511627776 ≤ n ∧ n ≤ 1099511627776 := by
  have h1 := h (pw (decide (n ≥ -1099511627776)) true) (by simp [pIn8])
  have h2 := h (pw (decide (n ≤ 1099511627776)) true) (by simp [pIn8])
  simp only [pw, Value.bool.injEq, decide_eq_true_eq] at h1 h2
  omega
/-- A function of two integers in range. -/
def knN (f0 : FuncId) (g : Int → Int → Int) : Kn := fun f args => match Nat.beq f f0, args with
  | true, [x, y] => match nI x, nI y with
    | some a, some b => some (.y (.int .i64 (g a b)), pIn8 a ++ pIn8 b)
    | _, _ => none
  | _, _ => none
theorem knN_ok {P : Program} {f0 : FuncId} {g : Int → Int → Int} (h : ∀ (w : World) (a b : Int), (-1099511627776 ≤ a ∧ a ≤ 1099511627776) → (-1099511627776 ≤ b ∧ b ≤ 1099511627776) → Calls P f0 #[.int .i64 a, .int .i64 b] w fun e w' => e = .returned (.int .i64 (g a b)) ∧ Below w.heap.size w w') : KnOk P (knN f0 g) := by
  intro f args x cs hx
  unfold knN at hx
  split at hx
  · rename_i x1 y1 hb
    split at hx
    · rename_i a b ha hb2
      simp only [Option.some.injEq, Prod.mk.injEq] at hx
      obtain ⟨rfl, rfl⟩ := hx
      have := Nat.eq_of_beq_eq_true hb
      subst this
      refine ⟨by simp [bd], fun tr B w => ?_⟩
      have h1 := pIn8_of fun q hq => tr q (List.mem_append_left _ hq)
      have h2 := pIn8_of fun q hq => tr q (List.mem_append_right _ hq)
      simpa [denL, den, nI_den ha, nI_den hb2] using h w a b h1 h2
    · cases hx
  · cases hx
/-- What the three operators give. -/
def kn3 (f0 : FuncId) (g1 g2 g3 : Int → Int → Int) : Kn := fun f args => match Nat.beq f f0, args with
  | true, [.v (.int .i64 op), x, y] => match nI x, nI y with
    | some a, some b => match op with
      | 1 => some (.y (.int .i64 (g1 a b)), [])
      | 2 => some (.y (.int .i64 (g2 a b)), [])
      | 3 => some (.y (.int .i64 (g3 a b)), [])
      | _ => none
    | _, _ => none
  | _, _ => none
theorem kn3_ok {P : Program} {f0 : FuncId} {g1 g2 g3 : Int → Int → Int} (h1 : ∀ (w : World) (a b : Int), Calls P f0 #[.int .i64 1, .int .i64 a, .int .i64 b] w fun e w' => e = .returned (.int .i64 (g1 a b)) ∧ Below w.heap.size w w') (h2 : ∀ (w : World) (a b : Int), Calls P f0 #[.int .i64 2, .int .i64 a, .int .i64 b] w fun e w' => e = .returned (.int .i64 (g2 a b)) ∧ Below w.heap.size w w') (h3 : ∀ (w : World) (a b : Int), Calls P f0 #[.int .i64 3, .int .i64 a, .int .i64 b] w fun e w' => e = .returned (.int .i64 (g3 a b)) ∧ Below w.heap.size w w') : KnOk P (kn3 f0 g1 g2 g3) := by
  intro f args x cs hx
  unfold kn3 at hx
  split at hx
  · rename_i op x1 y1 hb
    have hf := Nat.eq_of_beq_eq_true hb
    split at hx
    · rename_i a b ha hb2
      split at hx
      all_goals first
        | (cases hx; done)
        | (simp only [Option.some.injEq, Prod.mk.injEq] at hx
           obtain ⟨rfl, rfl⟩ := hx
           subst hf
           refine ⟨by simp [bd], fun tr B w => ?_⟩
           first
             | simpa [denL, den, nI_den ha, nI_den hb2] using h1 w a b
             | simpa [denL, den, nI_den ha, nI_den hb2] using h2 w a b
             | simpa [denL, den, nI_den ha, nI_den hb2] using h3 w a b)
    · cases hx
  · cases hx
end Go.Proofs.YtoijdnlplbeomaaDoor
