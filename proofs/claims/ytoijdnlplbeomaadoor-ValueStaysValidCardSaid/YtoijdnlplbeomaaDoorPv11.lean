/-
  Merged: Tx2, Ts0
-/
import Derived.Test.YtoijdnlplbeomaaDoorPv8
import Derived.Test.YtoijdnlplbeomaaDoorPv10

/-
  Layer 8: Right of any value is rightW.
-/
namespace Go.Proofs.YtoijdnlplbeomaaDoor
open Go Go.RowKit EX
set_option maxRecDepth 100000
set_option linter.unusedVariables false
set_option linter.unusedSimpArgs false
def argV (h : VH) : SV := .g [.y (.int .i64 h.k), .y (.int .i64 h.n), .y (.int .i64 h.m), .y (.slice h.a h.len h.cap)]
theorem argV_den (B : Pl) [FC] (h : VH) : den B (argV h) = h.v := by simp [argV, den, denL, VH.v]
theorem rightP_is (w : World) (h : VH) (hv : VT 40 w h) : Calls Tryd.prog 11 #[h.v] w fun e w' => e = .returned (.bool (rightW 40 w h)) ∧ Below w.heap.size w w' := by
  cases hb : rightW 40 w h with
  | true =>
    letI fc : FC := fcV w h h
    exact @ex_valG (fcV w h h) _ (kgAt 28 [h.v, .int .i64 1] (.v (.tuple #[]))) (kgAt_ok (by simp [bd]) fun w1 hf => by
      have := check_is 40 (by omega) h w1 hf.1.2.1.1 1 (by omega)
      rw [hf.1.2.2.1.1, hb] at this
      simpa [den, ckPost] using this) 100000 _ _ [argV h] [] _ [(h.v, h.v), (.int .i64 1, .int .i64 1)] w (by kernel_rfl) (by simp [denL, den, argV, VH.v]) (by simp [bdL, bd, argV]) (by intro q hq; simp only [List.mem_cons, List.not_mem_nil, or_false] at hq; rcases hq with rfl | rfl <;> rfl) (fcV_at hv hv)
  | false =>
    letI fc : FC := fcV w h h
    exact @ex_valG (fcV w h h) _ (kgPan 28 [h.v, .int .i64 1] (.iface 34 (.int .i64 1))) (kgPan_ok fun w1 hf => by
      have := check_is 40 (by omega) h w1 hf.1.2.1.1 1 (by omega)
      rw [hf.1.2.2.1.1, hb] at this
      exact this) 100000 _ _ [argV h] [] _ [(h.v, h.v), (.int .i64 1, .int .i64 1)] w (by kernel_rfl) (by simp [denL, den, argV, VH.v]) (by simp [bdL, bd, argV]) (by intro q hq; simp only [List.mem_cons, List.not_mem_nil, or_false] at hq; rcases hq with rfl | rfl <;> rfl) (fcV_at hv hv)
end Go.Proofs.YtoijdnlplbeomaaDoor


/-
  A leaf is right, as a known result.
-/
namespace Go.Proofs.YtoijdnlplbeomaaDoor
open Go Go.RowKit EX
set_option maxRecDepth 100000
set_option linter.unusedVariables false
set_option linter.unusedSimpArgs false
set_option linter.unusedSectionVars false
section
variable [FC]
instance decI64 (x : Int) : Decidable (I64 x) := by unfold I64; infer_instance
/-- A leaf: its words. -/
def leafE : List SV → Option VH
  | [.g [x0, x1, x2, .v (.slice none 0 0)]] => match pvE x0, pvE x1, pvE x2 with
    | some (.int .i64 k), some (.int .i64 n), some (.int .i64 m) => some ⟨k, n, m, none, 0, 0⟩
    | _, _, _ => none
  | _ => none
theorem leafE_den (B : Pl) {args : List SV} {h : VH} (e : leafE args = some h) : denL B args = [h.v] ∧ h.len = 0 ∧ h.cap = 0 := by
  unfold leafE at e
  split at e
  · rename_i x0 x1 x2
    split at e
    · rename_i k n m h0 h1 h2
      simp only [Option.some.injEq] at e
      subst e
      refine ⟨?_, rfl, rfl⟩
      simp [denL, den, pvE_den B h0, pvE_den B h1, pvE_den B h2, VH.v]
    · cases e
  · cases e
/-- Right of a leaf that is right. -/
def kgLeaf : KnG := fun f args st => match Nat.beq f 11, leafE args with
  | true, some h => some ⟨.ret (.v (.bool true)), ⟨st.m, st.orc, (.bool (ownB h), .bool true) :: (.bool (decide (I64 h.k)), .bool true) :: (.bool (decide (I64 h.n)), .bool true) :: (.bool (decide (I64 h.m)), .bool true) :: st.cnd⟩⟩
  | _, _ => none
theorem kgLeaf_ok : KnGOk Tryd.prog kgLeaf := by
  intro f args st o hk
  unfold kgLeaf at hk
  split at hk
  · rename_i h hf hl
    have := Nat.eq_of_beq_eq_true hf
    subst this
    simp only [Option.some.injEq] at hk
    subst hk
    refine ⟨⟨⟨[(.bool (ownB h), .bool true), (.bool (decide (I64 h.k)), .bool true), (.bool (decide (I64 h.n)), .bool true), (.bool (decide (I64 h.m)), .bool true)], rfl⟩, Fm.refl _⟩, trivial, fun tr w0 F B S w hS R hargs => ?_⟩
    obtain ⟨e1, e2, e3⟩ := leafE_den B hl
    have c1 := tr (.bool (ownB h), .bool true) (by simp)
    have c2 := tr (.bool (decide (I64 h.k)), .bool true) (by simp)
    have c3 := tr (.bool (decide (I64 h.n)), .bool true) (by simp)
    have c4 := tr (.bool (decide (I64 h.m)), .bool true) (by simp)
    simp only [Value.bool.injEq, decide_eq_true_eq] at c1 c2 c3 c4
    rw [e1]
    have hv : VT 40 w h := ⟨⟨c2, c3, c4, by omega, by omega⟩, Or.inl e2⟩
    refine (rightP_is w h hv).mono ?_
    rintro e w' ⟨rfl, hb⟩
    exact ⟨B, Ag.refl _ _ _, Nat.le_refl _, by rw [ext_self]; exact R.below hb, by rw [show (40 : Nat) = 39 + 1 from rfl, rightW_flat e2, c1]; simp [den], by simp [bd]⟩
  · cases hk
end
end Go.Proofs.YtoijdnlplbeomaaDoor
