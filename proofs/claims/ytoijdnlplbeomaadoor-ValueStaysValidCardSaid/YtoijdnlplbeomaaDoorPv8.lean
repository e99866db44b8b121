/-
  Merged: Tk0, Bn0
-/
import Derived.Test.YtoijdnlplbeomaaDoorPv5
import Derived.Test.YtoijdnlplbeomaaDoorPv7
import Derived.Test.YtoijdnlplbeomaaDoorRows
import Derived.Test.YtoijdnlplbeomaaDoorPv1
import Derived.Test.YtoijdnlplbeomaaDoorPv2

/-
  Known results: calls that panic; two entries for one function; two values that are given.
-/
namespace Go.Proofs.YtoijdnlplbeomaaDoor
open Go Go.RowKit EX
set_option maxRecDepth 100000
set_option linter.unusedVariables false
set_option linter.unusedSimpArgs false
set_option linter.unusedSectionVars false
section
variable [FC]
/-- A call with these arguments panics with this. -/
def kgPan (f0 : FuncId) (al : List Value) (v : Value) : KnG := fun f args st => match Nat.beq f f0, pvL args with
  | true, some vs => match Nat.beq vs.length al.length with
    | true => some ⟨.pan (.v v), ⟨st.m, st.orc, vs.zip al ++ st.cnd⟩⟩
    | false => none
  | _, _ => none
theorem kgPan_ok {P : Program} {f0 : FuncId} {al : List Value} {v : Value} (h : ∀ w, FcAt w → Calls P f0 al.toArray w fun e w' => e = .panicked [{ v := v, recovered := false }] ∧ Below w.heap.size w w') : KnGOk P (kgPan f0 al v) := by
  intro f args st o hk
  unfold kgPan at hk
  split at hk
  · rename_i vs hf hv
    have := Nat.eq_of_beq_eq_true hf
    subst this
    cases hl : Nat.beq vs.length al.length with
    | false => rw [hl] at hk; cases hk
    | true =>
      rw [hl] at hk
      simp only [Option.some.injEq] at hk
      subst hk
      refine ⟨⟨⟨_, rfl⟩, Fm.refl _⟩, trivial, fun tr w0 F B S w hS R hargs => ?_⟩
      have e1 : vs = al := zip_eq (Nat.eq_of_beq_eq_true hl) fun q hq => tr q (List.mem_append_left _ hq)
      rw [pvL_den B hv, e1]
      refine (h w R.fc).mono ?_
      rintro e w' ⟨rfl, hb⟩
      exact ⟨B, Ag.refl _ _ _, Nat.le_refl _, by rw [ext_self]; exact R.below hb, by simp [chn, hdP, tlP, den, denL, ent], by simp [bd]⟩
  · cases hk
/-- Is the first argument a value whose parts lie elsewhere? -/
def isYV : List SV → Bool
  | .g [_, _, _, .y _] :: _ => true
  | _ => false
/-- Two entries: what is told next picks one. -/
def kgSel (k1 k2 : KnG) : KnG := fun f args st => match isYV args, st.orc with
  | true, .bool true :: r => k1 f args ⟨st.m, r, st.cnd⟩
  | true, .bool false :: r => k2 f args ⟨st.m, r, st.cnd⟩
  | _, _ => none
theorem kgSel_ok {P : Program} {k1 k2 : KnG} (h1 : KnGOk P k1) (h2 : KnGOk P k2) : KnGOk P (kgSel k1 k2) := by
  intro f args st o hk
  unfold kgSel at hk
  split at hk
  · have := h1 f args _ o hk
    exact this
  · have := h2 f args _ o hk
    exact this
  · cases hk
end
/-- Two values that are given. -/
abbrev fcV (W : World) (h g : VH) : FC := ⟨fun _ => 0, fun _ => 0, fun _ => [], fun w => Below W.heap.size W w ∧ (VT 40 w h ∧ VT 40 w g) ∧ (rightW 40 w h = rightW 40 W h ∧ rightW 39 w h = rightW 39 W h ∧ rightW 40 w g = rightW 40 W g ∧ rightW 39 w g = rightW 39 W g) ∧ (countW 39 w h 60 = countW 39 W h 60 ∧ countW 39 w g 60 = countW 39 W g 60),
  fun w w' k gr => by
    have hb : Below w.heap.size w w' := ⟨gr.os, gr.tape, gr.output, gr.size, fun k hk => gr.block k hk (by simp)⟩
    obtain ⟨k1, ⟨k2, k3⟩, ⟨k4, k5, k6, k7⟩, k8, k9⟩ := k
    exact ⟨k1.trans (hb.mono k1.size), ⟨k2.below hb, k3.below hb⟩, ⟨(rightW_below hb k2).trans k4, (rightW_below hb (vt_less k2)).trans k5, (rightW_below hb k3).trans k6, (rightW_below hb (vt_less k3)).trans k7⟩, (countW_below hb (vt_less k2)).trans k8, (countW_below hb (vt_less k3)).trans k9⟩⟩
theorem fcV_at {W : World} {h g : VH} (k2 : VT 40 W h) (k3 : VT 40 W g) : @FcAt (fcV W h g) W := ⟨⟨Below.refl _ _, ⟨k2, k3⟩, ⟨rfl, rfl, rfl, rfl⟩, rfl, rfl⟩, fun i j x hx => by cases hx⟩
end Go.Proofs.YtoijdnlplbeomaaDoor


/-
  Layer 8: whether an integer or a bool is valid, program and reference.
-/
namespace Go.Proofs.YtoijdnlplbeomaaDoor
open Go Go.RowKit EX
set_option maxRecDepth 100000
set_option linter.unusedVariables false
set_option linter.unusedSimpArgs false
theorem rp1_m (w : World) (n m : Int) (a : Option Addr) (len cap : Nat) (hM : (m != 0) = true) : Calls Tryd.prog 11 #[.agg #[.int .i64 1, .int .i64 n, .int .i64 m, .slice a len cap]] w fun e w' => e = .returned (.bool false) ∧ Below w.heap.size w w' :=
  ex_val knNone_ok 100000 [.g [.v (.int .i64 1), .y (.int .i64 n), .y (.int .i64 m), .y (.slice a len cap)]] [.bool true] [(.bool (m != 0), .bool true)] (by kernel_rfl) (by simp [denL, den]) (by simp [bdL, bd]) (by
    intro q hq
    simp only [List.mem_cons, List.not_mem_nil, or_false] at hq
    rcases hq with rfl <;> first | exact congrArg Value.bool hM)
theorem rr1_m (w : World) (n m : Int) (a : Option Addr) (len cap : Nat) (hM : (m != 0) = true) : Calls Tryd.prog 12 #[.agg #[.int .i64 1, .int .i64 n, .int .i64 m, .slice a len cap]] w fun e w' => e = .returned (.bool false) ∧ Below w.heap.size w w' :=
  ex_val knNone_ok 100000 [.g [.v (.int .i64 1), .y (.int .i64 n), .y (.int .i64 m), .y (.slice a len cap)]] [.bool true] [(.bool (m != 0), .bool true)] (by kernel_rfl) (by simp [denL, den]) (by simp [bdL, bd]) (by
    intro q hq
    simp only [List.mem_cons, List.not_mem_nil, or_false] at hq
    rcases hq with rfl <;> first | exact congrArg Value.bool hM)
theorem rp1_a (w : World) (n m : Int) (a : Option Addr) (len cap : Nat) (hM : (m != 0) = false) (hA : (decide (n ≥ -1099511627776)) = false) : Calls Tryd.prog 11 #[.agg #[.int .i64 1, .int .i64 n, .int .i64 m, .slice a len cap]] w fun e w' => e = .returned (.bool false) ∧ Below w.heap.size w w' :=
  ex_val knNone_ok 100000 [.g [.v (.int .i64 1), .y (.int .i64 n), .y (.int .i64 m), .y (.slice a len cap)]] [.bool false, .bool false] [(.bool (decide (n ≥ -1099511627776)), .bool false), (.bool (m != 0), .bool false)] (by kernel_rfl) (by simp [denL, den]) (by simp [bdL, bd]) (by
    intro q hq
    simp only [List.mem_cons, List.not_mem_nil, or_false] at hq
    rcases hq with rfl | rfl <;> first | exact congrArg Value.bool hM | exact congrArg Value.bool hA)
theorem rp1_b (w : World) (n m : Int) (a : Option Addr) (len cap : Nat) (hM : (m != 0) = false) (hA : (decide (n ≥ -1099511627776)) = true) (hB : (decide (n ≤ 1099511627776)) = false) : Calls Tryd.prog 11 #[.agg #[.int .i64 1, .int .i64 n, .int .i64 m, .slice a len cap]] w fun e w' => e = .returned (.bool false) ∧ Below w.heap.size w w' :=
  ex_val knNone_ok 100000 [.g [.v (.int .i64 1), .y (.int .i64 n), .y (.int .i64 m), .y (.slice a len cap)]] [.bool false, .bool true, .bool false] [(.bool (decide (n ≤ 1099511627776)), .bool false), (.bool (decide (n ≥ -1099511627776)), .bool true), (.bool (m != 0), .bool false)] (by kernel_rfl) (by simp [denL, den]) (by simp [bdL, bd]) (by
    intro q hq
    simp only [List.mem_cons, List.not_mem_nil, or_false] at hq
    rcases hq with rfl | rfl | rfl <;> first | exact congrArg Value.bool hM | exact congrArg Value.bool hA | exact congrArg Value.bool hB)
theorem rp1_l (w : World) (n m : Int) (a : Option Addr) (len cap : Nat) (hM : (m != 0) = false) (hA : (decide (n ≥ -1099511627776)) = true) (hB : (decide (n ≤ 1099511627776)) = true) (hnL : (!((len : Int) == 0)) = true) : Calls Tryd.prog 11 #[.agg #[.int .i64 1, .int .i64 n, .int .i64 m, .slice a len cap]] w fun e w' => e = .returned (.bool false) ∧ Below w.heap.size w w' :=
  ex_val knNone_ok 100000 [.g [.v (.int .i64 1), .y (.int .i64 n), .y (.int .i64 m), .y (.slice a len cap)]] [.bool false, .bool true, .bool true, .bool true] [(.bool (!((len : Int) == 0)), .bool true), (.bool (decide (n ≤ 1099511627776)), .bool true), (.bool (decide (n ≥ -1099511627776)), .bool true), (.bool (m != 0), .bool false)] (by kernel_rfl) (by simp [denL, den]) (by simp [bdL, bd]) (by
    intro q hq
    simp only [List.mem_cons, List.not_mem_nil, or_false] at hq
    rcases hq with rfl | rfl | rfl | rfl <;> first | exact congrArg Value.bool hM | exact congrArg Value.bool hA | exact congrArg Value.bool hB | exact congrArg Value.bool hnL)
theorem rp1_y (w : World) (n m : Int) (a : Option Addr) (len cap : Nat) (hM : (m != 0) = false) (hA : (decide (n ≥ -1099511627776)) = true) (hB : (decide (n ≤ 1099511627776)) = true) (hnL : (!((len : Int) == 0)) = false) (hK : (decide ((0 : Int) < (len : Int))) = false) : Calls Tryd.prog 11 #[.agg #[.int .i64 1, .int .i64 n, .int .i64 m, .slice a len cap]] w fun e w' => e = .returned (.bool true) ∧ Below w.heap.size w w' :=
  ex_val knNone_ok 100000 [.g [.v (.int .i64 1), .y (.int .i64 n), .y (.int .i64 m), .y (.slice a len cap)]] [.bool false, .bool true, .bool true, .bool false, .bool false] [(.bool (decide ((0 : Int) < (len : Int))), .bool false), (.bool (!((len : Int) == 0)), .bool false), (.bool (decide (n ≤ 1099511627776)), .bool true), (.bool (decide (n ≥ -1099511627776)), .bool true), (.bool (m != 0), .bool false)] (by kernel_rfl) (by simp [denL, den]) (by simp [bdL, bd]) (by
    intro q hq
    simp only [List.mem_cons, List.not_mem_nil, or_false] at hq
    rcases hq with rfl | rfl | rfl | rfl | rfl <;> first | exact congrArg Value.bool hM | exact congrArg Value.bool hA | exact congrArg Value.bool hB | exact congrArg Value.bool hnL | exact congrArg Value.bool hK)
theorem rr1_l (w : World) (n m : Int) (a : Option Addr) (len cap : Nat) (hM : (m != 0) = false) (hL : ((len : Int) == 0) = false) : Calls Tryd.prog 12 #[.agg #[.int .i64 1, .int .i64 n, .int .i64 m, .slice a len cap]] w fun e w' => e = .returned (.bool false) ∧ Below w.heap.size w w' :=
  ex_val knNone_ok 100000 [.g [.v (.int .i64 1), .y (.int .i64 n), .y (.int .i64 m), .y (.slice a len cap)]] [.bool false, .bool false] [(.bool ((len : Int) == 0), .bool false), (.bool (m != 0), .bool false)] (by kernel_rfl) (by simp [denL, den]) (by simp [bdL, bd]) (by
    intro q hq
    simp only [List.mem_cons, List.not_mem_nil, or_false] at hq
    rcases hq with rfl | rfl <;> first | exact congrArg Value.bool hM | exact congrArg Value.bool hL)
theorem rr1_a (w : World) (n m : Int) (a : Option Addr) (len cap : Nat) (hM : (m != 0) = false) (hL : ((len : Int) == 0) = true) (hA : (decide (n ≥ -1099511627776)) = false) : Calls Tryd.prog 12 #[.agg #[.int .i64 1, .int .i64 n, .int .i64 m, .slice a len cap]] w fun e w' => e = .returned (.bool false) ∧ Below w.heap.size w w' :=
  ex_val knNone_ok 100000 [.g [.v (.int .i64 1), .y (.int .i64 n), .y (.int .i64 m), .y (.slice a len cap)]] [.bool false, .bool true, .bool false] [(.bool (decide (n ≥ -1099511627776)), .bool false), (.bool ((len : Int) == 0), .bool true), (.bool (m != 0), .bool false)] (by kernel_rfl) (by simp [denL, den]) (by simp [bdL, bd]) (by
    intro q hq
    simp only [List.mem_cons, List.not_mem_nil, or_false] at hq
    rcases hq with rfl | rfl | rfl <;> first | exact congrArg Value.bool hM | exact congrArg Value.bool hL | exact congrArg Value.bool hA)
theorem rr1_b (w : World) (n m : Int) (a : Option Addr) (len cap : Nat) (hM : (m != 0) = false) (hL : ((len : Int) == 0) = true) (hA : (decide (n ≥ -1099511627776)) = true) (hnB : (!(decide (n ≤ 1099511627776))) = true) : Calls Tryd.prog 12 #[.agg #[.int .i64 1, .int .i64 n, .int .i64 m, .slice a len cap]] w fun e w' => e = .returned (.bool false) ∧ Below w.heap.size w w' :=
  ex_val knNone_ok 100000 [.g [.v (.int .i64 1), .y (.int .i64 n), .y (.int .i64 m), .y (.slice a len cap)]] [.bool false, .bool true, .bool true, .bool true] [(.bool (!(decide (n ≤ 1099511627776))), .bool true), (.bool (decide (n ≥ -1099511627776)), .bool true), (.bool ((len : Int) == 0), .bool true), (.bool (m != 0), .bool false)] (by kernel_rfl) (by simp [denL, den]) (by simp [bdL, bd]) (by
    intro q hq
    simp only [List.mem_cons, List.not_mem_nil, or_false] at hq
    rcases hq with rfl | rfl | rfl | rfl <;> first | exact congrArg Value.bool hM | exact congrArg Value.bool hL | exact congrArg Value.bool hA | exact congrArg Value.bool hnB)
theorem rr1_y (w : World) (n m : Int) (a : Option Addr) (len cap : Nat) (hM : (m != 0) = false) (hL : ((len : Int) == 0) = true) (hA : (decide (n ≥ -1099511627776)) = true) (hnB : (!(decide (n ≤ 1099511627776))) = false) (hK : (decide ((0 : Int) < (len : Int))) = false) : Calls Tryd.prog 12 #[.agg #[.int .i64 1, .int .i64 n, .int .i64 m, .slice a len cap]] w fun e w' => e = .returned (.bool true) ∧ Below w.heap.size w w' :=
  ex_val knNone_ok 100000 [.g [.v (.int .i64 1), .y (.int .i64 n), .y (.int .i64 m), .y (.slice a len cap)]] [.bool false, .bool true, .bool true, .bool false, .bool false] [(.bool (decide ((0 : Int) < (len : Int))), .bool false), (.bool (!(decide (n ≤ 1099511627776))), .bool false), (.bool (decide (n ≥ -1099511627776)), .bool true), (.bool ((len : Int) == 0), .bool true), (.bool (m != 0), .bool false)] (by kernel_rfl) (by simp [denL, den]) (by simp [bdL, bd]) (by
    intro q hq
    simp only [List.mem_cons, List.not_mem_nil, or_false] at hq
    rcases hq with rfl | rfl | rfl | rfl | rfl <;> first | exact congrArg Value.bool hM | exact congrArg Value.bool hL | exact congrArg Value.bool hA | exact congrArg Value.bool hnB | exact congrArg Value.bool hK)
theorem rp2_m (w : World) (n m : Int) (a : Option Addr) (len cap : Nat) (hM : (m != 0) = true) : Calls Tryd.prog 11 #[.agg #[.int .i64 2, .int .i64 n, .int .i64 m, .slice a len cap]] w fun e w' => e = .returned (.bool false) ∧ Below w.heap.size w w' :=
  ex_val knNone_ok 100000 [.g [.v (.int .i64 2), .y (.int .i64 n), .y (.int .i64 m), .y (.slice a len cap)]] [.bool true] [(.bool (m != 0), .bool true)] (by kernel_rfl) (by simp [denL, den]) (by simp [bdL, bd]) (by
    intro q hq
    simp only [List.mem_cons, List.not_mem_nil, or_false] at hq
    rcases hq with rfl <;> first | exact congrArg Value.bool hM)
theorem rr2_m (w : World) (n m : Int) (a : Option Addr) (len cap : Nat) (hM : (m != 0) = true) : Calls Tryd.prog 12 #[.agg #[.int .i64 2, .int .i64 n, .int .i64 m, .slice a len cap]] w fun e w' => e = .returned (.bool false) ∧ Below w.heap.size w w' :=
  ex_val knNone_ok 100000 [.g [.v (.int .i64 2), .y (.int .i64 n), .y (.int .i64 m), .y (.slice a len cap)]] [.bool true] [(.bool (m != 0), .bool true)] (by kernel_rfl) (by simp [denL, den]) (by simp [bdL, bd]) (by
    intro q hq
    simp only [List.mem_cons, List.not_mem_nil, or_false] at hq
    rcases hq with rfl <;> first | exact congrArg Value.bool hM)
theorem rp2_n (w : World) (n m : Int) (a : Option Addr) (len cap : Nat) (hM : (m != 0) = false) (hZ : (n == 0) = false) (hO : (n == 1) = false) : Calls Tryd.prog 11 #[.agg #[.int .i64 2, .int .i64 n, .int .i64 m, .slice a len cap]] w fun e w' => e = .returned (.bool false) ∧ Below w.heap.size w w' :=
  ex_val knNone_ok 100000 [.g [.v (.int .i64 2), .y (.int .i64 n), .y (.int .i64 m), .y (.slice a len cap)]] [.bool false, .bool false, .bool false] [(.bool (n == 1), .bool false), (.bool (n == 0), .bool false), (.bool (m != 0), .bool false)] (by kernel_rfl) (by simp [denL, den]) (by simp [bdL, bd]) (by
    intro q hq
    simp only [List.mem_cons, List.not_mem_nil, or_false] at hq
    rcases hq with rfl | rfl | rfl <;> first | exact congrArg Value.bool hM | exact congrArg Value.bool hZ | exact congrArg Value.bool hO)
theorem rp2_zl (w : World) (n m : Int) (a : Option Addr) (len cap : Nat) (hM : (m != 0) = false) (hZ : (n == 0) = true) (hnL : (!((len : Int) == 0)) = true) : Calls Tryd.prog 11 #[.agg #[.int .i64 2, .int .i64 n, .int .i64 m, .slice a len cap]] w fun e w' => e = .returned (.bool false) ∧ Below w.heap.size w w' :=
  ex_val knNone_ok 100000 [.g [.v (.int .i64 2), .y (.int .i64 n), .y (.int .i64 m), .y (.slice a len cap)]] [.bool false, .bool true, .bool true] [(.bool (!((len : Int) == 0)), .bool true), (.bool (n == 0), .bool true), (.bool (m != 0), .bool false)] (by kernel_rfl) (by simp [denL, den]) (by simp [bdL, bd]) (by
    intro q hq
    simp only [List.mem_cons, List.not_mem_nil, or_false] at hq
    rcases hq with rfl | rfl | rfl <;> first | exact congrArg Value.bool hM | exact congrArg Value.bool hZ | exact congrArg Value.bool hnL)
theorem rp2_zy (w : World) (n m : Int) (a : Option Addr) (len cap : Nat) (hM : (m != 0) = false) (hZ : (n == 0) = true) (hnL : (!((len : Int) == 0)) = false) (hK : (decide ((0 : Int) < (len : Int))) = false) : Calls Tryd.prog 11 #[.agg #[.int .i64 2, .int .i64 n, .int .i64 m, .slice a len cap]] w fun e w' => e = .returned (.bool true) ∧ Below w.heap.size w w' :=
  ex_val knNone_ok 100000 [.g [.v (.int .i64 2), .y (.int .i64 n), .y (.int .i64 m), .y (.slice a len cap)]] [.bool false, .bool true, .bool false, .bool false] [(.bool (decide ((0 : Int) < (len : Int))), .bool false), (.bool (!((len : Int) == 0)), .bool false), (.bool (n == 0), .bool true), (.bool (m != 0), .bool false)] (by kernel_rfl) (by simp [denL, den]) (by simp [bdL, bd]) (by
    intro q hq
    simp only [List.mem_cons, List.not_mem_nil, or_false] at hq
    rcases hq with rfl | rfl | rfl | rfl <;> first | exact congrArg Value.bool hM | exact congrArg Value.bool hZ | exact congrArg Value.bool hnL | exact congrArg Value.bool hK)
theorem rp2_ol (w : World) (n m : Int) (a : Option Addr) (len cap : Nat) (hM : (m != 0) = false) (hZ : (n == 0) = false) (hO : (n == 1) = true) (hnL : (!((len : Int) == 0)) = true) : Calls Tryd.prog 11 #[.agg #[.int .i64 2, .int .i64 n, .int .i64 m, .slice a len cap]] w fun e w' => e = .returned (.bool false) ∧ Below w.heap.size w w' :=
  ex_val knNone_ok 100000 [.g [.v (.int .i64 2), .y (.int .i64 n), .y (.int .i64 m), .y (.slice a len cap)]] [.bool false, .bool false, .bool true, .bool true] [(.bool (!((len : Int) == 0)), .bool true), (.bool (n == 1), .bool true), (.bool (n == 0), .bool false), (.bool (m != 0), .bool false)] (by kernel_rfl) (by simp [denL, den]) (by simp [bdL, bd]) (by
    intro q hq
    simp only [List.mem_cons, List.not_mem_nil, or_false] at hq
    rcases hq with rfl | rfl | rfl | rfl <;> first | exact congrArg Value.bool hM | exact congrArg Value.bool hZ | exact congrArg Value.bool hO | exact congrArg Value.bool hnL)
theorem rp2_oy (w : World) (n m : Int) (a : Option Addr) (len cap : Nat) (hM : (m != 0) = false) (hZ : (n == 0) = false) (hO : (n == 1) = true) (hnL : (!((len : Int) == 0)) = false) (hK : (decide ((0 : Int) < (len : Int))) = false) : Calls Tryd.prog 11 #[.agg #[.int .i64 2, .int .i64 n, .int .i64 m, .slice a len cap]] w fun e w' => e = .returned (.bool true) ∧ Below w.heap.size w w' :=
  ex_val knNone_ok 100000 [.g [.v (.int .i64 2), .y (.int .i64 n), .y (.int .i64 m), .y (.slice a len cap)]] [.bool false, .bool false, .bool true, .bool false, .bool false] [(.bool (decide ((0 : Int) < (len : Int))), .bool false), (.bool (!((len : Int) == 0)), .bool false), (.bool (n == 1), .bool true), (.bool (n == 0), .bool false), (.bool (m != 0), .bool false)] (by kernel_rfl) (by simp [denL, den]) (by simp [bdL, bd]) (by
    intro q hq
    simp only [List.mem_cons, List.not_mem_nil, or_false] at hq
    rcases hq with rfl | rfl | rfl | rfl | rfl <;> first | exact congrArg Value.bool hM | exact congrArg Value.bool hZ | exact congrArg Value.bool hO | exact congrArg Value.bool hnL | exact congrArg Value.bool hK)
theorem rr2_l (w : World) (n m : Int) (a : Option Addr) (len cap : Nat) (hM : (m != 0) = false) (hL : ((len : Int) == 0) = false) : Calls Tryd.prog 12 #[.agg #[.int .i64 2, .int .i64 n, .int .i64 m, .slice a len cap]] w fun e w' => e = .returned (.bool false) ∧ Below w.heap.size w w' :=
  ex_val knNone_ok 100000 [.g [.v (.int .i64 2), .y (.int .i64 n), .y (.int .i64 m), .y (.slice a len cap)]] [.bool false, .bool false] [(.bool ((len : Int) == 0), .bool false), (.bool (m != 0), .bool false)] (by kernel_rfl) (by simp [denL, den]) (by simp [bdL, bd]) (by
    intro q hq
    simp only [List.mem_cons, List.not_mem_nil, or_false] at hq
    rcases hq with rfl | rfl <;> first | exact congrArg Value.bool hM | exact congrArg Value.bool hL)
theorem rr2_n (w : World) (n m : Int) (a : Option Addr) (len cap : Nat) (hM : (m != 0) = false) (hL : ((len : Int) == 0) = true) (hZ : (n == 0) = false) (hnO : (!(n == 1)) = true) : Calls Tryd.prog 12 #[.agg #[.int .i64 2, .int .i64 n, .int .i64 m, .slice a len cap]] w fun e w' => e = .returned (.bool false) ∧ Below w.heap.size w w' :=
  ex_val knNone_ok 100000 [.g [.v (.int .i64 2), .y (.int .i64 n), .y (.int .i64 m), .y (.slice a len cap)]] [.bool false, .bool true, .bool false, .bool true] [(.bool (!(n == 1)), .bool true), (.bool (n == 0), .bool false), (.bool ((len : Int) == 0), .bool true), (.bool (m != 0), .bool false)] (by kernel_rfl) (by simp [denL, den]) (by simp [bdL, bd]) (by
    intro q hq
    simp only [List.mem_cons, List.not_mem_nil, or_false] at hq
    rcases hq with rfl | rfl | rfl | rfl <;> first | exact congrArg Value.bool hM | exact congrArg Value.bool hL | exact congrArg Value.bool hZ | exact congrArg Value.bool hnO)
theorem rr2_zy (w : World) (n m : Int) (a : Option Addr) (len cap : Nat) (hM : (m != 0) = false) (hL : ((len : Int) == 0) = true) (hZ : (n == 0) = true) (hK : (decide ((0 : Int) < (len : Int))) = false) : Calls Tryd.prog 12 #[.agg #[.int .i64 2, .int .i64 n, .int .i64 m, .slice a len cap]] w fun e w' => e = .returned (.bool true) ∧ Below w.heap.size w w' :=
  ex_val knNone_ok 100000 [.g [.v (.int .i64 2), .y (.int .i64 n), .y (.int .i64 m), .y (.slice a len cap)]] [.bool false, .bool true, .bool true, .bool false] [(.bool (decide ((0 : Int) < (len : Int))), .bool false), (.bool (n == 0), .bool true), (.bool ((len : Int) == 0), .bool true), (.bool (m != 0), .bool false)] (by kernel_rfl) (by simp [denL, den]) (by simp [bdL, bd]) (by
    intro q hq
    simp only [List.mem_cons, List.not_mem_nil, or_false] at hq
    rcases hq with rfl | rfl | rfl | rfl <;> first | exact congrArg Value.bool hM | exact congrArg Value.bool hL | exact congrArg Value.bool hZ | exact congrArg Value.bool hK)
theorem rr2_oy (w : World) (n m : Int) (a : Option Addr) (len cap : Nat) (hM : (m != 0) = false) (hL : ((len : Int) == 0) = true) (hZ : (n == 0) = false) (hnO : (!(n == 1)) = false) (hK : (decide ((0 : Int) < (len : Int))) = false) : Calls Tryd.prog 12 #[.agg #[.int .i64 2, .int .i64 n, .int .i64 m, .slice a len cap]] w fun e w' => e = .returned (.bool true) ∧ Below w.heap.size w w' :=
  ex_val knNone_ok 100000 [.g [.v (.int .i64 2), .y (.int .i64 n), .y (.int .i64 m), .y (.slice a len cap)]] [.bool false, .bool true, .bool false, .bool false, .bool false] [(.bool (decide ((0 : Int) < (len : Int))), .bool false), (.bool (!(n == 1)), .bool false), (.bool (n == 0), .bool false), (.bool ((len : Int) == 0), .bool true), (.bool (m != 0), .bool false)] (by kernel_rfl) (by simp [denL, den]) (by simp [bdL, bd]) (by
    intro q hq
    simp only [List.mem_cons, List.not_mem_nil, or_false] at hq
    rcases hq with rfl | rfl | rfl | rfl | rfl <;> first | exact congrArg Value.bool hM | exact congrArg Value.bool hL | exact congrArg Value.bool hZ | exact congrArg Value.bool hnO | exact congrArg Value.bool hK)
theorem right1 (n m : Int) (a : Option Addr) (len cap : Nat) : ∃ b : Bool, (∀ w, Calls Tryd.prog 11 #[.agg #[.int .i64 1, .int .i64 n, .int .i64 m, .slice a len cap]] w fun e w' => e = .returned (.bool b) ∧ Below w.heap.size w w') ∧ (∀ w, Calls Tryd.prog 12 #[.agg #[.int .i64 1, .int .i64 n, .int .i64 m, .slice a len cap]] w fun e w' => e = .returned (.bool b) ∧ Below w.heap.size w w') ∧ (b = true → -1099511627776 ≤ n ∧ n ≤ 1099511627776) := by
  cases hM : (m != 0) with
  | true => exact ⟨false, fun w => rp1_m w n m a len cap hM, fun w => rr1_m w n m a len cap hM, fun h => by cases h⟩
  | false =>
    cases hL : ((len : Int) == 0) with
    | false =>
      have hnL : (!((len : Int) == 0)) = true := by rw [hL]; rfl
      cases hA : decide (n ≥ -1099511627776) with
      | false => exact ⟨false, fun w => rp1_a w n m a len cap hM hA, fun w => rr1_l w n m a len cap hM hL, fun h => by cases h⟩
      | true =>
        cases hB : decide (n ≤ 1099511627776) with
        | false => exact ⟨false, fun w => rp1_b w n m a len cap hM hA hB, fun w => rr1_l w n m a len cap hM hL, fun h => by cases h⟩
        | true => exact ⟨false, fun w => rp1_l w n m a len cap hM hA hB hnL, fun w => rr1_l w n m a len cap hM hL, fun h => by cases h⟩
    | true =>
      have hnL : (!((len : Int) == 0)) = false := by rw [hL]; rfl
      have hK : decide ((0 : Int) < (len : Int)) = false := by simp only [beq_iff_eq] at hL; simp only [decide_eq_false_iff_not]; omega
      cases hA : decide (n ≥ -1099511627776) with
      | false => exact ⟨false, fun w => rp1_a w n m a len cap hM hA, fun w => rr1_a w n m a len cap hM hL hA, fun h => by cases h⟩
      | true =>
        cases hB : decide (n ≤ 1099511627776) with
        | false => exact ⟨false, fun w => rp1_b w n m a len cap hM hA hB, fun w => rr1_b w n m a len cap hM hL hA (by rw [hB]; rfl), fun h => by cases h⟩
        | true => exact ⟨true, fun w => rp1_y w n m a len cap hM hA hB hnL hK, fun w => rr1_y w n m a len cap hM hL hA (by rw [hB]; rfl) hK, fun _ => by simp only [decide_eq_true_eq] at hA hB; omega⟩
theorem right2 (n m : Int) (a : Option Addr) (len cap : Nat) : ∃ b : Bool, (∀ w, Calls Tryd.prog 11 #[.agg #[.int .i64 2, .int .i64 n, .int .i64 m, .slice a len cap]] w fun e w' => e = .returned (.bool b) ∧ Below w.heap.size w w') ∧ (∀ w, Calls Tryd.prog 12 #[.agg #[.int .i64 2, .int .i64 n, .int .i64 m, .slice a len cap]] w fun e w' => e = .returned (.bool b) ∧ Below w.heap.size w w') ∧ (b = true → n = 0 ∨ n = 1) := by
  cases hM : (m != 0) with
  | true => exact ⟨false, fun w => rp2_m w n m a len cap hM, fun w => rr2_m w n m a len cap hM, fun h => by cases h⟩
  | false =>
    cases hL : ((len : Int) == 0) with
    | false =>
      have hnL : (!((len : Int) == 0)) = true := by rw [hL]; rfl
      cases hZ : (n == 0) with
      | true => exact ⟨false, fun w => rp2_zl w n m a len cap hM hZ hnL, fun w => rr2_l w n m a len cap hM hL, fun h => by cases h⟩
      | false =>
        cases hO : (n == 1) with
        | false => exact ⟨false, fun w => rp2_n w n m a len cap hM hZ hO, fun w => rr2_l w n m a len cap hM hL, fun h => by cases h⟩
        | true => exact ⟨false, fun w => rp2_ol w n m a len cap hM hZ hO hnL, fun w => rr2_l w n m a len cap hM hL, fun h => by cases h⟩
    | true =>
      have hnL : (!((len : Int) == 0)) = false := by rw [hL]; rfl
      have hK : decide ((0 : Int) < (len : Int)) = false := by simp only [beq_iff_eq] at hL; simp only [decide_eq_false_iff_not]; omega
      cases hZ : (n == 0) with
      | true => exact ⟨true, fun w => rp2_zy w n m a len cap hM hZ hnL hK, fun w => rr2_zy w n m a len cap hM hL hZ hK, fun _ => by simp only [beq_iff_eq] at hZ; omega⟩
      | false =>
        cases hO : (n == 1) with
        | false => exact ⟨false, fun w => rp2_n w n m a len cap hM hZ hO, fun w => rr2_n w n m a len cap hM hL hZ (by rw [hO]; rfl), fun h => by cases h⟩
        | true => exact ⟨true, fun w => rp2_oy w n m a len cap hM hZ hO hnL hK, fun w => rr2_oy w n m a len cap hM hL hZ (by rw [hO]; rfl) hK, fun _ => by simp only [beq_iff_eq] at hO; omega⟩
/-- Any value: the reference tells. -/
theorem rright_ok (h : VH) (w : World) (hv : VT 40 w h) : Calls Tryd.prog 12 #[h.v] w fun e w' => IsBool e ∧ Below w.heap.size w w' := by
  have H := Lib.hid (within_any 40 (by omega) h)
  have HV := Lib.hid hv
  clear hv
  unfold VH.v
  go_enter Tryd.func12, Tryd.ntmps12
  go_wp2_with (first | (go_at_call 29; refine (H.out _ (HV.out.below (below_new1 _ _)) 40 rfl).mono ?_; rintro e w1 ⟨⟨b, rfl⟩, hb⟩))
  go_ret
  exact ⟨⟨_, rfl⟩, (below_new1 _ _).trans (hb.mono (by simp))⟩
end Go.Proofs.YtoijdnlplbeomaaDoor
