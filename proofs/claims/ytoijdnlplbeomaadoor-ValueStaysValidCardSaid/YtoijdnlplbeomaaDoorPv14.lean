/-
  Merged: Ts1, Ts2, Ts3, Ts4, Ts5, Ts6
-/
import Derived.Test.YtoijdnlplbeomaaDoorPv11
import Derived.Test.YtoijdnlplbeomaaDoorPv7
import Derived.Test.YtoijdnlplbeomaaDoorPv13
import Derived.Test.YtoijdnlplbeomaaDoorPv12

/-
  Layer 8: what ValueStaysValid asks; Index of any value.
-/
namespace Go.Proofs.YtoijdnlplbeomaaDoor
open Go Go.RowKit EX
set_option maxRecDepth 100000
set_option linter.unusedVariables false
set_option linter.unusedSimpArgs false
set_option linter.unusedSectionVars false

def AllT (cs : List (Value × Value)) : Prop := ∀ q ∈ cs, q.1 = q.2
theorem AllT.nil : AllT [] := fun q hq => by cases hq
theorem AllT.cons {a b : Value} {l : List (Value × Value)} (h : a = b) (k : AllT l) : AllT ((a, b) :: l) := fun q hq => by
  rcases List.mem_cons.1 hq with rfl | hq
  · exact h
  · exact k q hq
def tw (F s : Int) (v : Value) : Value := .tuple #[.int .i64 F, .int .i64 s, v]
section
variable [FC]
theorem knI_okF {P : Program} {f0 : FuncId} {g : Int → Value} (h : ∀ a w, Calls P f0 #[.int .i64 a] w fun e w' => e = .returned (g a) ∧ Below w.heap.size w w') : KnOk P (knI f0 g) := by
  intro f args x cs hx
  unfold knI at hx
  split at hx
  · rename_i a hb
    simp only [Option.some.injEq, Prod.mk.injEq] at hx
    obtain ⟨rfl, rfl⟩ := hx
    have := Nat.eq_of_beq_eq_true hb
    subst this
    refine ⟨by simp [bd], fun tr B w => ?_⟩
    simpa [denL, den] using h a w
  · cases hx
theorem kn8F_ok : KnOk Tryd.prog kn8 := knOr_ok (kn1_ok sane08) (knI_okF round_any)
def kgIf (k : KnG) : KnG := fun f args st => match isYV args with
  | true => k f args st
  | false => none
theorem kgIf_ok {P : Program} {k : KnG} (h : KnGOk P k) : KnGOk P (kgIf k) := by
  intro f args st o hk
  unfold kgIf at hk
  split at hk
  · exact h f args st o hk
  · cases hk
end
theorem rightTab {W : World} {h g : VH} (b : Bool) (e : rightW 40 W h = b) : @KnGOk (fcV W h g) Tryd.prog (@kgAt (fcV W h g) 11 [h.v] (.v (.bool b))) := by
  letI fc : FC := fcV W h g
  exact kgAt_ok (by simp [bd]) fun w1 hf => by
    have := rightP_is w1 h hf.1.2.1.1
    rw [hf.1.2.2.1.1, e] at this
    simpa [den] using this
set_option maxHeartbeats 4000000 in
theorem ix_k (w W : World) (h g : VH) (n : Int) (hk : (h.k != 5) = true) (hf : @FcAt (fcV W h g) w) : Calls Tryd.prog 9 #[h.v, .int .i64 n] w fun e w' => e = .returned (.tuple #[.agg #[.int .i64 0, .int .i64 0, .int .i64 0, .slice none 0 0], .bool false]) ∧ Below w.heap.size w w' := by
  letI fc : FC := fcV W h g
  refine (@ex_runG (fcV W h g) _ (gk knNone) (gk_ok knNone_ok) 100000 _ _ [argV h, .y (.int .i64 n)] [tw 9 8 (.bool true)] (.v (.tuple #[.agg #[.int .i64 0, .int .i64 0, .int .i64 0, .slice none 0 0], .bool false])) ([(.bool (h.k != 5), .bool true)]) w (by kernel_rfl) (by simp [denL, den, argV, VH.v]) (by simp [bdL, bd, argV]) (AllT.cons (by rw [hk]) (AllT.nil)) hf).mono ?_
  rintro e w' ⟨B, he, hb⟩
  exact ⟨by rw [he]; simp [den, denL], hb⟩
set_option maxHeartbeats 4000000 in
theorem ix_r (w W : World) (h g : VH) (n : Int) (hk : (h.k != 5) = false) (hA : rightW 40 W h = false) (hf : @FcAt (fcV W h g) w) : Calls Tryd.prog 9 #[h.v, .int .i64 n] w fun e w' => e = .returned (.tuple #[.agg #[.int .i64 0, .int .i64 0, .int .i64 0, .slice none 0 0], .bool false]) ∧ Below w.heap.size w w' := by
  letI fc : FC := fcV W h g
  refine (@ex_runG (fcV W h g) _ (kgIf (kgAt 11 [h.v] (.v (.bool false)))) (kgIf_ok (rightTab false hA)) 100000 _ _ [argV h, .y (.int .i64 n)] [tw 9 8 (.bool false)] (.v (.tuple #[.agg #[.int .i64 0, .int .i64 0, .int .i64 0, .slice none 0 0], .bool false])) ([(h.v, h.v), (.bool (h.k != 5), .bool false)]) w (by kernel_rfl) (by simp [denL, den, argV, VH.v]) (by simp [bdL, bd, argV]) (AllT.cons (rfl) (AllT.cons (by rw [hk]) (AllT.nil))) hf).mono ?_
  rintro e w' ⟨B, he, hb⟩
  exact ⟨by rw [he]; simp [den, denL], hb⟩
set_option maxHeartbeats 4000000 in
theorem ix_n (w W : World) (h g : VH) (n : Int) (hk : (h.k != 5) = false) (hA : rightW 40 W h = true) (hn : decide (n < 0) = true) (hf : @FcAt (fcV W h g) w) : Calls Tryd.prog 9 #[h.v, .int .i64 n] w fun e w' => e = .returned (.tuple #[.agg #[.int .i64 0, .int .i64 0, .int .i64 0, .slice none 0 0], .bool false]) ∧ Below w.heap.size w w' := by
  letI fc : FC := fcV W h g
  refine (@ex_runG (fcV W h g) _ (kgIf (kgAt 11 [h.v] (.v (.bool true)))) (kgIf_ok (rightTab true hA)) 100000 _ _ [argV h, .y (.int .i64 n)] [tw 9 8 (.bool false), tw 9 16 (.bool true)] (.v (.tuple #[.agg #[.int .i64 0, .int .i64 0, .int .i64 0, .slice none 0 0], .bool false])) ([(.bool (decide (n < 0)), .bool true), (h.v, h.v), (.bool (h.k != 5), .bool false)]) w (by kernel_rfl) (by simp [denL, den, argV, VH.v]) (by simp [bdL, bd, argV]) (AllT.cons (by rw [hn]) (AllT.cons (rfl) (AllT.cons (by rw [hk]) (AllT.nil)))) hf).mono ?_
  rintro e w' ⟨B, he, hb⟩
  exact ⟨by rw [he]; simp [den, denL], hb⟩
set_option maxHeartbeats 4000000 in
theorem ix_m (w W : World) (h g : VH) (n : Int) (hk : (h.k != 5) = false) (hA : rightW 40 W h = true) (hn : decide (n < 0) = false) (hm : decide (n ≥ h.m) = true) (hf : @FcAt (fcV W h g) w) : Calls Tryd.prog 9 #[h.v, .int .i64 n] w fun e w' => e = .returned (.tuple #[.agg #[.int .i64 0, .int .i64 0, .int .i64 0, .slice none 0 0], .bool false]) ∧ Below w.heap.size w w' := by
  letI fc : FC := fcV W h g
  refine (@ex_runG (fcV W h g) _ (kgIf (kgAt 11 [h.v] (.v (.bool true)))) (kgIf_ok (rightTab true hA)) 100000 _ _ [argV h, .y (.int .i64 n)] [tw 9 8 (.bool false), tw 9 16 (.bool false), tw 9 22 (.bool true)] (.v (.tuple #[.agg #[.int .i64 0, .int .i64 0, .int .i64 0, .slice none 0 0], .bool false])) ([(.bool (decide (n ≥ h.m)), .bool true), (.bool (decide (n < 0)), .bool false), (h.v, h.v), (.bool (h.k != 5), .bool false)]) w (by kernel_rfl) (by simp [denL, den, argV, VH.v]) (by simp [bdL, bd, argV]) (AllT.cons (by rw [hm]) (AllT.cons (by rw [hn]) (AllT.cons (rfl) (AllT.cons (by rw [hk]) (AllT.nil))))) hf).mono ?_
  rintro e w' ⟨B, he, hb⟩
  exact ⟨by rw [he]; simp [den, denL], hb⟩
set_option maxHeartbeats 4000000 in
theorem ix_y (w W : World) (h g : VH) (n : Int) (hk : (h.k != 5) = false) (hA : rightW 40 W h = true) (hn : decide (n < 0) = false) (hm : decide (n ≥ h.m) = false) (hf : @FcAt (fcV W h g) w) : Calls Tryd.prog 9 #[h.v, .int .i64 n] w fun e w' => e = .returned (.tuple #[.agg #[.int .i64 4, .int .i64 (IntKind.i64.wrap (h.n + n)), .int .i64 0, .slice none 0 0], .bool true]) ∧ Below w.heap.size w w' := by
  letI fc : FC := fcV W h g
  refine (@ex_runG (fcV W h g) _ (kgIf (kgAt 11 [h.v] (.v (.bool true)))) (kgIf_ok (rightTab true hA)) 100000 _ _ [argV h, .y (.int .i64 n)] [tw 9 8 (.bool false), tw 9 16 (.bool false), tw 9 22 (.bool false)] (.t [.g [.v (.int .i64 4), .y (.int .i64 (IntKind.i64.wrap (h.n + n))), .v (.int .i64 0), .v (.slice none 0 0)], .v (.bool true)]) ([(.bool (decide (n ≥ h.m)), .bool false), (.bool (decide (n < 0)), .bool false), (h.v, h.v), (.bool (h.k != 5), .bool false)]) w (by kernel_rfl) (by simp [denL, den, argV, VH.v]) (by simp [bdL, bd, argV]) (AllT.cons (by rw [hm]) (AllT.cons (by rw [hn]) (AllT.cons (rfl) (AllT.cons (by rw [hk]) (AllT.nil))))) hf).mono ?_
  rintro e w' ⟨B, he, hb⟩
  exact ⟨by rw [he]; simp [den, denL], hb⟩
def stayV (op : Int) (h g : VH) (m : Int) : Value := .agg #[.int .i64 op, .int .i64 h.k, .int .i64 h.n, .int .i64 h.m, .slice h.a h.len h.cap, .int .i64 g.k, .int .i64 g.n, .int .i64 g.m, .slice g.a g.len g.cap, .int .i64 m]
def staySV (op : Int) (h g : VH) (m : Int) : SV := .g [.y (.int .i64 op), .y (.int .i64 h.k), .y (.int .i64 h.n), .y (.int .i64 h.m), .y (.slice h.a h.len h.cap), .y (.int .i64 g.k), .y (.int .i64 g.n), .y (.int .i64 g.m), .y (.slice g.a g.len g.cap), .y (.int .i64 m)]
def LeafOk (k n : Int) : Prop := (Value.bool (ownB ⟨k, n, 0, none, 0, 0⟩) = .bool true) ∧ (Value.bool (decide (I64 k)) = .bool true) ∧ (Value.bool (decide (I64 n)) = .bool true)
/-- What Index gives. -/
def ixRes (k n : Int) (b : Bool) : Value := .tuple #[.agg #[.int .i64 k, .int .i64 n, .int .i64 0, .slice none 0 0], .bool b]
theorem index_any (W : World) (h g : VH) (n : Int) : ∃ (K N : Int) (b : Bool), (∀ w, @FcAt (fcV W h g) w → Calls Tryd.prog 9 #[h.v, .int .i64 n] w fun e w' => e = .returned (ixRes K N b) ∧ Below w.heap.size w w') ∧ (b = true → K = 4 ∧ 0 ≤ N ∧ N < 32) := by
  cases hk : (h.k != 5) with
  | true => exact ⟨0, 0, false, fun w hf => ix_k w W h g n hk hf, fun e => by cases e⟩
  | false =>
    cases hA : rightW 40 W h with
    | false => exact ⟨0, 0, false, fun w hf => ix_r w W h g n hk hA hf, fun e => by cases e⟩
    | true =>
      cases hn : decide (n < 0) with
      | true => exact ⟨0, 0, false, fun w hf => ix_n w W h g n hk hA hn hf, fun e => by cases e⟩
      | false =>
        cases hm : decide (n ≥ h.m) with
        | true => exact ⟨0, 0, false, fun w hf => ix_m w W h g n hk hA hn hm hf, fun e => by cases e⟩
        | false =>
          refine ⟨4, IntKind.i64.wrap (h.n + n), true, fun w hf => ix_y w W h g n hk hA hn hm hf, fun _ => ⟨rfl, ?_⟩⟩
          have ho : ownB h = true := by
            unfold rightW at hA
            rw [Bool.and_eq_true] at hA
            exact hA.1
          have hk5 : h.k = 5 := by simpa using hk
          have hn' := of_decide_eq_false hn
          have hm' := of_decide_eq_false hm
          unfold ownB at ho
          simp only [hk5, beq_self_eq_true, cond_true, Bool.and_eq_true, decide_eq_true_eq] at ho
          rw [IntKind.wrap_i64]
          omega
end Go.Proofs.YtoijdnlplbeomaaDoor


/-
  Layer 8: runs of ValueStaysValid, part 2.
-/
namespace Go.Proofs.YtoijdnlplbeomaaDoor
open Go Go.RowKit EX
set_option maxRecDepth 100000
set_option linter.unusedVariables false
set_option linter.unusedSimpArgs false
set_option linter.unusedSectionVars false
set_option maxHeartbeats 8000000 in
theorem st_s1 (W : World) (op m : Int) (h g : VH) (kv : VT 40 W h) (kw : VT 40 W g) (hs1 : decide (countW 39 W h 60 ≤ 60) = false) : Calls Tryd.prog 6 #[stayV op h g m] W fun e w' => e = .returned (.bool true) ∧ Below W.heap.size W w' := by
  letI fc : FC := fcV W h g
  exact @ex_valG (fcV W h g) _ ((kgOr (gk kn8) (kgSel (kgAt 24 [h.v] (.v (.bool false))) (kgAt 24 [h.v] (.v (.bool false)))))) ((kgOr_ok (gk_ok kn8F_ok) (kgSel_ok (kgAt_ok (by simp [bd]) fun w1 hf => by
      have := shallow_is h w1 (vt_less hf.1.2.1.1)
      rw [hf.1.2.2.2.1, hs1] at this
      simpa [den] using this) (kgAt_ok (by simp [bd]) fun w1 hf => by
      have := shallow_is h w1 (vt_less hf.1.2.1.1)
      rw [hf.1.2.2.2.1, hs1] at this
      simpa [den] using this)))) 100000 _ _ [staySV op h g m] [.bool true] _ [(h.v, h.v)] W (by kernel_rfl) (by simp [denL, den, staySV, stayV]) (by simp [bdL, bd, staySV]) (AllT.cons (rfl) (AllT.nil)) (fcV_at kv kw)
set_option maxHeartbeats 8000000 in
theorem st_00_tt_ft_p (W : World) (op m : Int) (h g : VH) (kv : VT 40 W h) (kw : VT 40 W g) (hs1 : decide (countW 39 W h 60 ≤ 60) = true) (hs2 : decide (countW 39 W g 60 ≤ 60) = true) (k n e : Int) (hbin : ∀ w, Calls Tryd.prog 21 #[.int .i64 op, h.v, g.v] w fun e' w' => e' = .returned (bRes k n e) ∧ Below w.heap.size w w') (heb : decide (e = 0) = false) (K N : Int) (hix : ∀ w, @FcAt (fcV W h g) w → Calls Tryd.prog 9 #[h.v, .int .i64 m] w fun e w' => e = .returned (ixRes K N false) ∧ Below w.heap.size w w') (hl3 : LeafOk 1 (rnd m)) (hA : rightW 40 W h = true) (hA9 : rightW 39 W h = true) (hB : rightW 40 W g = true) (hB9 : rightW 39 W g = false) (hf1 : ((h.len : Int) == 0) = true) (hf2 : ((g.len : Int) == 0) = false) : Calls Tryd.prog 6 #[stayV op h g m] W fun e w' => e = .returned (.bool true) ∧ Below W.heap.size W w' := by
  letI fc : FC := fcV W h g
  exact @ex_valG (fcV W h g) _ ((kgOr (gk kn8) ((kgOr (kgSel (kgAt 24 [h.v] (.v (.bool true))) (kgAt 24 [g.v] (.v (.bool true)))) ((kgOr (kgAt 21 [.int .i64 op, h.v, g.v] (.t [.g [.y (.int .i64 k), .y (.int .i64 n), .v (.int .i64 0), .v (.slice none 0 0)], .y (.int .i64 e)])) ((kgOr (kgLeaf) ((kgOr (kgAt 9 [h.v, .int .i64 m] (.t [.g [.y (.int .i64 K), .y (.int .i64 N), .v (.int .i64 0), .v (.slice none 0 0)], .v (.bool false)])) ((kgOr (kgSel (kgAt 12 [h.v] (.v (.bool true))) (kgAt 12 [g.v] (.v (.bool true)))) (kgSel (kgAt 28 [h.v, .int .i64 2] (.v (.tuple #[]))) (kgPan 28 [g.v, .int .i64 2] (.iface 34 (.int .i64 1)))))))))))))))) ((kgOr_ok (gk_ok kn8F_ok) ((kgOr_ok (kgSel_ok (kgAt_ok (by simp [bd]) fun w1 hf => by
      have := shallow_is h w1 (vt_less hf.1.2.1.1)
      rw [hf.1.2.2.2.1, hs1] at this
      simpa [den] using this) (kgAt_ok (by simp [bd]) fun w1 hf => by
      have := shallow_is g w1 (vt_less hf.1.2.1.2)
      rw [hf.1.2.2.2.2, hs2] at this
      simpa [den] using this)) ((kgOr_ok (kgAt_ok (by simp [bd, bdL]) fun w1 hf => (hbin w1).mono fun e' w' ⟨he, hb⟩ => ⟨by rw [he]; simp [den, denL, bRes], hb⟩) ((kgOr_ok (kgLeaf_ok) ((kgOr_ok (kgAt_ok (by simp [bd, bdL]) fun w1 hf => (hix w1 hf).mono fun e' w' ⟨he, hb⟩ => ⟨by rw [he]; simp [den, denL, ixRes], hb⟩) ((kgOr_ok (kgSel_ok (kgAt_ok (by simp [bd]) fun w1 hf => by
      have := rr_is h w1 hf.1.2.1.1
      rw [hf.1.2.2.1.1, hA] at this
      simpa [den] using this) (kgAt_ok (by simp [bd]) fun w1 hf => by
      have := rr_is g w1 hf.1.2.1.2
      rw [hf.1.2.2.1.2.2.1, hB] at this
      simpa [den] using this)) (kgSel_ok (kgAt_ok (by simp [bd]) fun w1 hf => by
      have := check_is 39 (by omega) h w1 (vt_less hf.1.2.1.1) 2 (by omega)
      rw [hf.1.2.2.1.2.1, hA9] at this
      simpa [den, ckPost] using this) (kgPan_ok fun w1 hf => by
      have := check_is 39 (by omega) g w1 (vt_less hf.1.2.1.2) 2 (by omega)
      rw [hf.1.2.2.1.2.2.2, hB9] at this
      exact this)))))))))))))) 100000 _ _ [staySV op h g m] [.bool true, .bool false, tw 6 42 (.bool false), .bool true, .bool false, .bool true, .bool false, .bool true, .bool true, tw 6 97 (.bool true), tw 6 102 (.bool false)] _ [(.bool ((g.len : Int) == 0), .bool false), (.bool ((h.len : Int) == 0), .bool true), (h.v, h.v), (h.v, h.v), (.int .i64 2, .int .i64 2), (g.v, g.v), (.int .i64 2, .int .i64 2), (h.v, h.v), (.int .i64 2, .int .i64 2), (g.v, g.v), (h.v, h.v), (.bool (ownB ⟨1, (rnd m), 0, none, 0, 0⟩), .bool true), (.bool (decide (I64 1)), .bool true), (.bool (decide (I64 ((rnd m)))), .bool true), (.bool (decide (I64 0)), .bool true), (h.v, h.v), (.int .i64 m, .int .i64 m), (.bool (decide (e = 0)), .bool false), (.int .i64 op, .int .i64 op), (h.v, h.v), (g.v, g.v), (g.v, g.v), (h.v, h.v)] W (by kernel_rfl) (by simp [denL, den, staySV, stayV]) (by simp [bdL, bd, staySV]) (AllT.cons (by rw [hf2]) (AllT.cons (by rw [hf1]) (AllT.cons (rfl) (AllT.cons (rfl) (AllT.cons (rfl) (AllT.cons (rfl) (AllT.cons (rfl) (AllT.cons (rfl) (AllT.cons (rfl) (AllT.cons (rfl) (AllT.cons (rfl) (AllT.cons (hl3.1) (AllT.cons (hl3.2.1) (AllT.cons (hl3.2.2) (AllT.cons (rfl) (AllT.cons (rfl) (AllT.cons (rfl) (AllT.cons (by rw [heb]) (AllT.cons (rfl) (AllT.cons (rfl) (AllT.cons (rfl) (AllT.cons (rfl) (AllT.cons (rfl) (AllT.nil)))))))))))))))))))))))) (fcV_at kv kw)
set_option maxHeartbeats 8000000 in
theorem st_00_ft_f_n (W : World) (op m : Int) (h g : VH) (kv : VT 40 W h) (kw : VT 40 W g) (hs1 : decide (countW 39 W h 60 ≤ 60) = true) (hs2 : decide (countW 39 W g 60 ≤ 60) = true) (k n e : Int) (hbin : ∀ w, Calls Tryd.prog 21 #[.int .i64 op, h.v, g.v] w fun e' w' => e' = .returned (bRes k n e) ∧ Below w.heap.size w w') (heb : decide (e = 0) = false) (K N : Int) (hix : ∀ w, @FcAt (fcV W h g) w → Calls Tryd.prog 9 #[h.v, .int .i64 m] w fun e w' => e = .returned (ixRes K N false) ∧ Below w.heap.size w w') (hl3 : LeafOk 1 (rnd m)) (hA : rightW 40 W h = true) (hA9 : rightW 39 W h = false) (hB : rightW 40 W g = false) (hf1 : ((h.len : Int) == 0) = false) : Calls Tryd.prog 6 #[stayV op h g m] W fun e w' => e = .returned (.bool true) ∧ Below W.heap.size W w' := by
  letI fc : FC := fcV W h g
  exact @ex_valG (fcV W h g) _ ((kgOr (gk kn8) ((kgOr (kgSel (kgAt 24 [h.v] (.v (.bool true))) (kgAt 24 [g.v] (.v (.bool true)))) ((kgOr (kgAt 21 [.int .i64 op, h.v, g.v] (.t [.g [.y (.int .i64 k), .y (.int .i64 n), .v (.int .i64 0), .v (.slice none 0 0)], .y (.int .i64 e)])) ((kgOr (kgLeaf) ((kgOr (kgAt 9 [h.v, .int .i64 m] (.t [.g [.y (.int .i64 K), .y (.int .i64 N), .v (.int .i64 0), .v (.slice none 0 0)], .v (.bool false)])) ((kgOr (kgSel (kgAt 12 [h.v] (.v (.bool true))) (kgAt 12 [g.v] (.v (.bool false)))) (kgSel (kgPan 28 [h.v, .int .i64 2] (.iface 34 (.int .i64 1))) (kgPan 28 [h.v, .int .i64 2] (.iface 34 (.int .i64 1)))))))))))))))) ((kgOr_ok (gk_ok kn8F_ok) ((kgOr_ok (kgSel_ok (kgAt_ok (by simp [bd]) fun w1 hf => by
      have := shallow_is h w1 (vt_less hf.1.2.1.1)
      rw [hf.1.2.2.2.1, hs1] at this
      simpa [den] using this) (kgAt_ok (by simp [bd]) fun w1 hf => by
      have := shallow_is g w1 (vt_less hf.1.2.1.2)
      rw [hf.1.2.2.2.2, hs2] at this
      simpa [den] using this)) ((kgOr_ok (kgAt_ok (by simp [bd, bdL]) fun w1 hf => (hbin w1).mono fun e' w' ⟨he, hb⟩ => ⟨by rw [he]; simp [den, denL, bRes], hb⟩) ((kgOr_ok (kgLeaf_ok) ((kgOr_ok (kgAt_ok (by simp [bd, bdL]) fun w1 hf => (hix w1 hf).mono fun e' w' ⟨he, hb⟩ => ⟨by rw [he]; simp [den, denL, ixRes], hb⟩) ((kgOr_ok (kgSel_ok (kgAt_ok (by simp [bd]) fun w1 hf => by
      have := rr_is h w1 hf.1.2.1.1
      rw [hf.1.2.2.1.1, hA] at this
      simpa [den] using this) (kgAt_ok (by simp [bd]) fun w1 hf => by
      have := rr_is g w1 hf.1.2.1.2
      rw [hf.1.2.2.1.2.2.1, hB] at this
      simpa [den] using this)) (kgSel_ok (kgPan_ok fun w1 hf => by
      have := check_is 39 (by omega) h w1 (vt_less hf.1.2.1.1) 2 (by omega)
      rw [hf.1.2.2.1.2.1, hA9] at this
      exact this) (kgPan_ok fun w1 hf => by
      have := check_is 39 (by omega) h w1 (vt_less hf.1.2.1.1) 2 (by omega)
      rw [hf.1.2.2.1.2.1, hA9] at this
      exact this)))))))))))))) 100000 _ _ [staySV op h g m] [.bool true, .bool false, tw 6 42 (.bool false), .bool true, .bool false, .bool true, .bool true, tw 6 97 (.bool false)] _ [(.bool ((h.len : Int) == 0), .bool false), (h.v, h.v), (.int .i64 2, .int .i64 2), (h.v, h.v), (.int .i64 2, .int .i64 2), (g.v, g.v), (h.v, h.v), (.bool (ownB ⟨1, (rnd m), 0, none, 0, 0⟩), .bool true), (.bool (decide (I64 1)), .bool true), (.bool (decide (I64 ((rnd m)))), .bool true), (.bool (decide (I64 0)), .bool true), (h.v, h.v), (.int .i64 m, .int .i64 m), (.bool (decide (e = 0)), .bool false), (.int .i64 op, .int .i64 op), (h.v, h.v), (g.v, g.v), (g.v, g.v), (h.v, h.v)] W (by kernel_rfl) (by simp [denL, den, staySV, stayV]) (by simp [bdL, bd, staySV]) (AllT.cons (by rw [hf1]) (AllT.cons (rfl) (AllT.cons (rfl) (AllT.cons (rfl) (AllT.cons (rfl) (AllT.cons (rfl) (AllT.cons (rfl) (AllT.cons (hl3.1) (AllT.cons (hl3.2.1) (AllT.cons (hl3.2.2) (AllT.cons (rfl) (AllT.cons (rfl) (AllT.cons (rfl) (AllT.cons (by rw [heb]) (AllT.cons (rfl) (AllT.cons (rfl) (AllT.cons (rfl) (AllT.cons (rfl) (AllT.cons (rfl) (AllT.nil)))))))))))))))))))) (fcV_at kv kw)
set_option maxHeartbeats 8000000 in
theorem st_01_tt_tt_p (W : World) (op m : Int) (h g : VH) (kv : VT 40 W h) (kw : VT 40 W g) (hs1 : decide (countW 39 W h 60 ≤ 60) = true) (hs2 : decide (countW 39 W g 60 ≤ 60) = true) (k n e : Int) (hbin : ∀ w, Calls Tryd.prog 21 #[.int .i64 op, h.v, g.v] w fun e' w' => e' = .returned (bRes k n e) ∧ Below w.heap.size w w') (heb : decide (e = 0) = false) (K N : Int) (hix : ∀ w, @FcAt (fcV W h g) w → Calls Tryd.prog 9 #[h.v, .int .i64 m] w fun e w' => e = .returned (ixRes K N true) ∧ Below w.heap.size w w') (hl2 : LeafOk K N) (hl3 : LeafOk 1 (rnd m)) (hA : rightW 40 W h = true) (hA9 : rightW 39 W h = true) (hB : rightW 40 W g = true) (hB9 : rightW 39 W g = true) (hf1 : ((h.len : Int) == 0) = true) (hf2 : ((g.len : Int) == 0) = false) : Calls Tryd.prog 6 #[stayV op h g m] W fun e w' => e = .returned (.bool true) ∧ Below W.heap.size W w' := by
  letI fc : FC := fcV W h g
  exact @ex_valG (fcV W h g) _ ((kgOr (gk kn8) ((kgOr (kgSel (kgAt 24 [h.v] (.v (.bool true))) (kgAt 24 [g.v] (.v (.bool true)))) ((kgOr (kgAt 21 [.int .i64 op, h.v, g.v] (.t [.g [.y (.int .i64 k), .y (.int .i64 n), .v (.int .i64 0), .v (.slice none 0 0)], .y (.int .i64 e)])) ((kgOr (kgLeaf) ((kgOr (kgAt 9 [h.v, .int .i64 m] (.t [.g [.y (.int .i64 K), .y (.int .i64 N), .v (.int .i64 0), .v (.slice none 0 0)], .v (.bool true)])) ((kgOr (kgSel (kgAt 12 [h.v] (.v (.bool true))) (kgAt 12 [g.v] (.v (.bool true)))) (kgSel (kgAt 28 [h.v, .int .i64 2] (.v (.tuple #[]))) (kgAt 28 [g.v, .int .i64 2] (.v (.tuple #[])))))))))))))))) ((kgOr_ok (gk_ok kn8F_ok) ((kgOr_ok (kgSel_ok (kgAt_ok (by simp [bd]) fun w1 hf => by
      have := shallow_is h w1 (vt_less hf.1.2.1.1)
      rw [hf.1.2.2.2.1, hs1] at this
      simpa [den] using this) (kgAt_ok (by simp [bd]) fun w1 hf => by
      have := shallow_is g w1 (vt_less hf.1.2.1.2)
      rw [hf.1.2.2.2.2, hs2] at this
      simpa [den] using this)) ((kgOr_ok (kgAt_ok (by simp [bd, bdL]) fun w1 hf => (hbin w1).mono fun e' w' ⟨he, hb⟩ => ⟨by rw [he]; simp [den, denL, bRes], hb⟩) ((kgOr_ok (kgLeaf_ok) ((kgOr_ok (kgAt_ok (by simp [bd, bdL]) fun w1 hf => (hix w1 hf).mono fun e' w' ⟨he, hb⟩ => ⟨by rw [he]; simp [den, denL, ixRes], hb⟩) ((kgOr_ok (kgSel_ok (kgAt_ok (by simp [bd]) fun w1 hf => by
      have := rr_is h w1 hf.1.2.1.1
      rw [hf.1.2.2.1.1, hA] at this
      simpa [den] using this) (kgAt_ok (by simp [bd]) fun w1 hf => by
      have := rr_is g w1 hf.1.2.1.2
      rw [hf.1.2.2.1.2.2.1, hB] at this
      simpa [den] using this)) (kgSel_ok (kgAt_ok (by simp [bd]) fun w1 hf => by
      have := check_is 39 (by omega) h w1 (vt_less hf.1.2.1.1) 2 (by omega)
      rw [hf.1.2.2.1.2.1, hA9] at this
      simpa [den, ckPost] using this) (kgAt_ok (by simp [bd]) fun w1 hf => by
      have := check_is 39 (by omega) g w1 (vt_less hf.1.2.1.2) 2 (by omega)
      rw [hf.1.2.2.1.2.2.2, hB9] at this
      simpa [den, ckPost] using this)))))))))))))) 100000 _ _ [staySV op h g m] [.bool true, .bool false, tw 6 42 (.bool false), .bool true, .bool false, .bool true, .bool false, .bool true, .bool true, tw 6 97 (.bool true), tw 6 102 (.bool false)] _ [(.bool ((g.len : Int) == 0), .bool false), (.bool ((h.len : Int) == 0), .bool true), (h.v, h.v), (h.v, h.v), (.int .i64 2, .int .i64 2), (g.v, g.v), (.int .i64 2, .int .i64 2), (h.v, h.v), (.int .i64 2, .int .i64 2), (g.v, g.v), (h.v, h.v), (.bool (ownB ⟨1, (rnd m), 0, none, 0, 0⟩), .bool true), (.bool (decide (I64 1)), .bool true), (.bool (decide (I64 ((rnd m)))), .bool true), (.bool (decide (I64 0)), .bool true), (.bool (ownB ⟨K, N, 0, none, 0, 0⟩), .bool true), (.bool (decide (I64 K)), .bool true), (.bool (decide (I64 (N))), .bool true), (.bool (decide (I64 0)), .bool true), (h.v, h.v), (.int .i64 m, .int .i64 m), (.bool (decide (e = 0)), .bool false), (.int .i64 op, .int .i64 op), (h.v, h.v), (g.v, g.v), (g.v, g.v), (h.v, h.v)] W (by kernel_rfl) (by simp [denL, den, staySV, stayV]) (by simp [bdL, bd, staySV]) (AllT.cons (by rw [hf2]) (AllT.cons (by rw [hf1]) (AllT.cons (rfl) (AllT.cons (rfl) (AllT.cons (rfl) (AllT.cons (rfl) (AllT.cons (rfl) (AllT.cons (rfl) (AllT.cons (rfl) (AllT.cons (rfl) (AllT.cons (rfl) (AllT.cons (hl3.1) (AllT.cons (hl3.2.1) (AllT.cons (hl3.2.2) (AllT.cons (rfl) (AllT.cons (hl2.1) (AllT.cons (hl2.2.1) (AllT.cons (hl2.2.2) (AllT.cons (rfl) (AllT.cons (rfl) (AllT.cons (rfl) (AllT.cons (by rw [heb]) (AllT.cons (rfl) (AllT.cons (rfl) (AllT.cons (rfl) (AllT.cons (rfl) (AllT.cons (rfl) (AllT.nil)))))))))))))))))))))))))))) (fcV_at kv kw)
set_option maxHeartbeats 8000000 in
theorem st_01_tt_ff_y (W : World) (op m : Int) (h g : VH) (kv : VT 40 W h) (kw : VT 40 W g) (hs1 : decide (countW 39 W h 60 ≤ 60) = true) (hs2 : decide (countW 39 W g 60 ≤ 60) = true) (k n e : Int) (hbin : ∀ w, Calls Tryd.prog 21 #[.int .i64 op, h.v, g.v] w fun e' w' => e' = .returned (bRes k n e) ∧ Below w.heap.size w w') (heb : decide (e = 0) = false) (K N : Int) (hix : ∀ w, @FcAt (fcV W h g) w → Calls Tryd.prog 9 #[h.v, .int .i64 m] w fun e w' => e = .returned (ixRes K N true) ∧ Below w.heap.size w w') (hl2 : LeafOk K N) (hl3 : LeafOk 1 (rnd m)) (hA : rightW 40 W h = true) (hA9 : rightW 39 W h = true) (hB : rightW 40 W g = false) (hB9 : rightW 39 W g = false) (hf1 : ((h.len : Int) == 0) = true) (hf2 : ((g.len : Int) == 0) = true) : Calls Tryd.prog 6 #[stayV op h g m] W fun e w' => e = .returned (.bool true) ∧ Below W.heap.size W w' := by
  letI fc : FC := fcV W h g
  exact @ex_valG (fcV W h g) _ ((kgOr (gk kn8) ((kgOr (kgSel (kgAt 24 [h.v] (.v (.bool true))) (kgAt 24 [g.v] (.v (.bool true)))) ((kgOr (kgAt 21 [.int .i64 op, h.v, g.v] (.t [.g [.y (.int .i64 k), .y (.int .i64 n), .v (.int .i64 0), .v (.slice none 0 0)], .y (.int .i64 e)])) ((kgOr (kgLeaf) ((kgOr (kgAt 9 [h.v, .int .i64 m] (.t [.g [.y (.int .i64 K), .y (.int .i64 N), .v (.int .i64 0), .v (.slice none 0 0)], .v (.bool true)])) ((kgOr (kgSel (kgAt 12 [h.v] (.v (.bool true))) (kgAt 12 [g.v] (.v (.bool false)))) (kgSel (kgAt 28 [h.v, .int .i64 2] (.v (.tuple #[]))) (kgPan 28 [g.v, .int .i64 2] (.iface 34 (.int .i64 1)))))))))))))))) ((kgOr_ok (gk_ok kn8F_ok) ((kgOr_ok (kgSel_ok (kgAt_ok (by simp [bd]) fun w1 hf => by
      have := shallow_is h w1 (vt_less hf.1.2.1.1)
      rw [hf.1.2.2.2.1, hs1] at this
      simpa [den] using this) (kgAt_ok (by simp [bd]) fun w1 hf => by
      have := shallow_is g w1 (vt_less hf.1.2.1.2)
      rw [hf.1.2.2.2.2, hs2] at this
      simpa [den] using this)) ((kgOr_ok (kgAt_ok (by simp [bd, bdL]) fun w1 hf => (hbin w1).mono fun e' w' ⟨he, hb⟩ => ⟨by rw [he]; simp [den, denL, bRes], hb⟩) ((kgOr_ok (kgLeaf_ok) ((kgOr_ok (kgAt_ok (by simp [bd, bdL]) fun w1 hf => (hix w1 hf).mono fun e' w' ⟨he, hb⟩ => ⟨by rw [he]; simp [den, denL, ixRes], hb⟩) ((kgOr_ok (kgSel_ok (kgAt_ok (by simp [bd]) fun w1 hf => by
      have := rr_is h w1 hf.1.2.1.1
      rw [hf.1.2.2.1.1, hA] at this
      simpa [den] using this) (kgAt_ok (by simp [bd]) fun w1 hf => by
      have := rr_is g w1 hf.1.2.1.2
      rw [hf.1.2.2.1.2.2.1, hB] at this
      simpa [den] using this)) (kgSel_ok (kgAt_ok (by simp [bd]) fun w1 hf => by
      have := check_is 39 (by omega) h w1 (vt_less hf.1.2.1.1) 2 (by omega)
      rw [hf.1.2.2.1.2.1, hA9] at this
      simpa [den, ckPost] using this) (kgPan_ok fun w1 hf => by
      have := check_is 39 (by omega) g w1 (vt_less hf.1.2.1.2) 2 (by omega)
      rw [hf.1.2.2.1.2.2.2, hB9] at this
      exact this)))))))))))))) 100000 _ _ [staySV op h g m] [.bool true, .bool false, tw 6 42 (.bool false), .bool true, .bool false, .bool true, .bool false, .bool true, .bool true, tw 6 97 (.bool true), tw 6 102 (.bool true), .bool true, .bool false, .bool true, .bool true] _ [(h.v, h.v), (h.v, h.v), (.int .i64 2, .int .i64 2), (g.v, g.v), (.int .i64 2, .int .i64 2), (h.v, h.v), (.int .i64 2, .int .i64 2), (.bool ((g.len : Int) == 0), .bool true), (.bool ((h.len : Int) == 0), .bool true), (h.v, h.v), (h.v, h.v), (.int .i64 2, .int .i64 2), (g.v, g.v), (.int .i64 2, .int .i64 2), (h.v, h.v), (.int .i64 2, .int .i64 2), (g.v, g.v), (h.v, h.v), (.bool (ownB ⟨1, (rnd m), 0, none, 0, 0⟩), .bool true), (.bool (decide (I64 1)), .bool true), (.bool (decide (I64 ((rnd m)))), .bool true), (.bool (decide (I64 0)), .bool true), (.bool (ownB ⟨K, N, 0, none, 0, 0⟩), .bool true), (.bool (decide (I64 K)), .bool true), (.bool (decide (I64 (N))), .bool true), (.bool (decide (I64 0)), .bool true), (h.v, h.v), (.int .i64 m, .int .i64 m), (.bool (decide (e = 0)), .bool false), (.int .i64 op, .int .i64 op), (h.v, h.v), (g.v, g.v), (g.v, g.v), (h.v, h.v)] W (by kernel_rfl) (by simp [denL, den, staySV, stayV]) (by simp [bdL, bd, staySV]) (AllT.cons (rfl) (AllT.cons (rfl) (AllT.cons (rfl) (AllT.cons (rfl) (AllT.cons (rfl) (AllT.cons (rfl) (AllT.cons (rfl) (AllT.cons (by rw [hf2]) (AllT.cons (by rw [hf1]) (AllT.cons (rfl) (AllT.cons (rfl) (AllT.cons (rfl) (AllT.cons (rfl) (AllT.cons (rfl) (AllT.cons (rfl) (AllT.cons (rfl) (AllT.cons (rfl) (AllT.cons (rfl) (AllT.cons (hl3.1) (AllT.cons (hl3.2.1) (AllT.cons (hl3.2.2) (AllT.cons (rfl) (AllT.cons (hl2.1) (AllT.cons (hl2.2.1) (AllT.cons (hl2.2.2) (AllT.cons (rfl) (AllT.cons (rfl) (AllT.cons (rfl) (AllT.cons (by rw [heb]) (AllT.cons (rfl) (AllT.cons (rfl) (AllT.cons (rfl) (AllT.cons (rfl) (AllT.cons (rfl) (AllT.nil))))))))))))))))))))))))))))))))))) (fcV_at kv kw)
set_option maxHeartbeats 8000000 in
theorem st_01_ff_p (W : World) (op m : Int) (h g : VH) (kv : VT 40 W h) (kw : VT 40 W g) (hs1 : decide (countW 39 W h 60 ≤ 60) = true) (hs2 : decide (countW 39 W g 60 ≤ 60) = true) (k n e : Int) (hbin : ∀ w, Calls Tryd.prog 21 #[.int .i64 op, h.v, g.v] w fun e' w' => e' = .returned (bRes k n e) ∧ Below w.heap.size w w') (heb : decide (e = 0) = false) (K N : Int) (hix : ∀ w, @FcAt (fcV W h g) w → Calls Tryd.prog 9 #[h.v, .int .i64 m] w fun e w' => e = .returned (ixRes K N true) ∧ Below w.heap.size w w') (hl2 : LeafOk K N) (hl3 : LeafOk 1 (rnd m)) (hA : rightW 40 W h = false) (hA9 : rightW 39 W h = false) (hf1 : ((h.len : Int) == 0) = true) (hf2 : ((g.len : Int) == 0) = false) : Calls Tryd.prog 6 #[stayV op h g m] W fun e w' => e = .returned (.bool true) ∧ Below W.heap.size W w' := by
  letI fc : FC := fcV W h g
  exact @ex_valG (fcV W h g) _ ((kgOr (gk kn8) ((kgOr (kgSel (kgAt 24 [h.v] (.v (.bool true))) (kgAt 24 [g.v] (.v (.bool true)))) ((kgOr (kgAt 21 [.int .i64 op, h.v, g.v] (.t [.g [.y (.int .i64 k), .y (.int .i64 n), .v (.int .i64 0), .v (.slice none 0 0)], .y (.int .i64 e)])) ((kgOr (kgLeaf) ((kgOr (kgAt 9 [h.v, .int .i64 m] (.t [.g [.y (.int .i64 K), .y (.int .i64 N), .v (.int .i64 0), .v (.slice none 0 0)], .v (.bool true)])) ((kgOr (kgSel (kgAt 12 [h.v] (.v (.bool false))) (kgAt 12 [h.v] (.v (.bool false)))) (kgSel (kgPan 28 [h.v, .int .i64 2] (.iface 34 (.int .i64 1))) (kgPan 28 [h.v, .int .i64 2] (.iface 34 (.int .i64 1)))))))))))))))) ((kgOr_ok (gk_ok kn8F_ok) ((kgOr_ok (kgSel_ok (kgAt_ok (by simp [bd]) fun w1 hf => by
      have := shallow_is h w1 (vt_less hf.1.2.1.1)
      rw [hf.1.2.2.2.1, hs1] at this
      simpa [den] using this) (kgAt_ok (by simp [bd]) fun w1 hf => by
      have := shallow_is g w1 (vt_less hf.1.2.1.2)
      rw [hf.1.2.2.2.2, hs2] at this
      simpa [den] using this)) ((kgOr_ok (kgAt_ok (by simp [bd, bdL]) fun w1 hf => (hbin w1).mono fun e' w' ⟨he, hb⟩ => ⟨by rw [he]; simp [den, denL, bRes], hb⟩) ((kgOr_ok (kgLeaf_ok) ((kgOr_ok (kgAt_ok (by simp [bd, bdL]) fun w1 hf => (hix w1 hf).mono fun e' w' ⟨he, hb⟩ => ⟨by rw [he]; simp [den, denL, ixRes], hb⟩) ((kgOr_ok (kgSel_ok (kgAt_ok (by simp [bd]) fun w1 hf => by
      have := rr_is h w1 hf.1.2.1.1
      rw [hf.1.2.2.1.1, hA] at this
      simpa [den] using this) (kgAt_ok (by simp [bd]) fun w1 hf => by
      have := rr_is h w1 hf.1.2.1.1
      rw [hf.1.2.2.1.1, hA] at this
      simpa [den] using this)) (kgSel_ok (kgPan_ok fun w1 hf => by
      have := check_is 39 (by omega) h w1 (vt_less hf.1.2.1.1) 2 (by omega)
      rw [hf.1.2.2.1.2.1, hA9] at this
      exact this) (kgPan_ok fun w1 hf => by
      have := check_is 39 (by omega) h w1 (vt_less hf.1.2.1.1) 2 (by omega)
      rw [hf.1.2.2.1.2.1, hA9] at this
      exact this)))))))))))))) 100000 _ _ [staySV op h g m] [.bool true, .bool false, tw 6 42 (.bool false), .bool true, .bool true, .bool true, tw 6 97 (.bool true), tw 6 102 (.bool false)] _ [(.bool ((g.len : Int) == 0), .bool false), (.bool ((h.len : Int) == 0), .bool true), (h.v, h.v), (.int .i64 2, .int .i64 2), (h.v, h.v), (.int .i64 2, .int .i64 2), (h.v, h.v), (.bool (ownB ⟨1, (rnd m), 0, none, 0, 0⟩), .bool true), (.bool (decide (I64 1)), .bool true), (.bool (decide (I64 ((rnd m)))), .bool true), (.bool (decide (I64 0)), .bool true), (.bool (ownB ⟨K, N, 0, none, 0, 0⟩), .bool true), (.bool (decide (I64 K)), .bool true), (.bool (decide (I64 (N))), .bool true), (.bool (decide (I64 0)), .bool true), (h.v, h.v), (.int .i64 m, .int .i64 m), (.bool (decide (e = 0)), .bool false), (.int .i64 op, .int .i64 op), (h.v, h.v), (g.v, g.v), (g.v, g.v), (h.v, h.v)] W (by kernel_rfl) (by simp [denL, den, staySV, stayV]) (by simp [bdL, bd, staySV]) (AllT.cons (by rw [hf2]) (AllT.cons (by rw [hf1]) (AllT.cons (rfl) (AllT.cons (rfl) (AllT.cons (rfl) (AllT.cons (rfl) (AllT.cons (rfl) (AllT.cons (hl3.1) (AllT.cons (hl3.2.1) (AllT.cons (hl3.2.2) (AllT.cons (rfl) (AllT.cons (hl2.1) (AllT.cons (hl2.2.1) (AllT.cons (hl2.2.2) (AllT.cons (rfl) (AllT.cons (rfl) (AllT.cons (rfl) (AllT.cons (by rw [heb]) (AllT.cons (rfl) (AllT.cons (rfl) (AllT.cons (rfl) (AllT.cons (rfl) (AllT.cons (rfl) (AllT.nil)))))))))))))))))))))))) (fcV_at kv kw)
set_option maxHeartbeats 8000000 in
theorem st_10_tt_ft_p (W : World) (op m : Int) (h g : VH) (kv : VT 40 W h) (kw : VT 40 W g) (hs1 : decide (countW 39 W h 60 ≤ 60) = true) (hs2 : decide (countW 39 W g 60 ≤ 60) = true) (k n e : Int) (hbin : ∀ w, Calls Tryd.prog 21 #[.int .i64 op, h.v, g.v] w fun e' w' => e' = .returned (bRes k n e) ∧ Below w.heap.size w w') (heb : decide (e = 0) = true) (hl1 : LeafOk k n) (K N : Int) (hix : ∀ w, @FcAt (fcV W h g) w → Calls Tryd.prog 9 #[h.v, .int .i64 m] w fun e w' => e = .returned (ixRes K N false) ∧ Below w.heap.size w w') (hl3 : LeafOk 1 (rnd m)) (hA : rightW 40 W h = true) (hA9 : rightW 39 W h = true) (hB : rightW 40 W g = true) (hB9 : rightW 39 W g = false) (hf1 : ((h.len : Int) == 0) = true) (hf2 : ((g.len : Int) == 0) = false) : Calls Tryd.prog 6 #[stayV op h g m] W fun e w' => e = .returned (.bool true) ∧ Below W.heap.size W w' := by
  letI fc : FC := fcV W h g
  exact @ex_valG (fcV W h g) _ ((kgOr (gk kn8) ((kgOr (kgSel (kgAt 24 [h.v] (.v (.bool true))) (kgAt 24 [g.v] (.v (.bool true)))) ((kgOr (kgAt 21 [.int .i64 op, h.v, g.v] (.t [.g [.y (.int .i64 k), .y (.int .i64 n), .v (.int .i64 0), .v (.slice none 0 0)], .y (.int .i64 e)])) ((kgOr (kgLeaf) ((kgOr (kgAt 9 [h.v, .int .i64 m] (.t [.g [.y (.int .i64 K), .y (.int .i64 N), .v (.int .i64 0), .v (.slice none 0 0)], .v (.bool false)])) ((kgOr (kgSel (kgAt 12 [h.v] (.v (.bool true))) (kgAt 12 [g.v] (.v (.bool true)))) (kgSel (kgAt 28 [h.v, .int .i64 2] (.v (.tuple #[]))) (kgPan 28 [g.v, .int .i64 2] (.iface 34 (.int .i64 1)))))))))))))))) ((kgOr_ok (gk_ok kn8F_ok) ((kgOr_ok (kgSel_ok (kgAt_ok (by simp [bd]) fun w1 hf => by
      have := shallow_is h w1 (vt_less hf.1.2.1.1)
      rw [hf.1.2.2.2.1, hs1] at this
      simpa [den] using this) (kgAt_ok (by simp [bd]) fun w1 hf => by
      have := shallow_is g w1 (vt_less hf.1.2.1.2)
      rw [hf.1.2.2.2.2, hs2] at this
      simpa [den] using this)) ((kgOr_ok (kgAt_ok (by simp [bd, bdL]) fun w1 hf => (hbin w1).mono fun e' w' ⟨he, hb⟩ => ⟨by rw [he]; simp [den, denL, bRes], hb⟩) ((kgOr_ok (kgLeaf_ok) ((kgOr_ok (kgAt_ok (by simp [bd, bdL]) fun w1 hf => (hix w1 hf).mono fun e' w' ⟨he, hb⟩ => ⟨by rw [he]; simp [den, denL, ixRes], hb⟩) ((kgOr_ok (kgSel_ok (kgAt_ok (by simp [bd]) fun w1 hf => by
      have := rr_is h w1 hf.1.2.1.1
      rw [hf.1.2.2.1.1, hA] at this
      simpa [den] using this) (kgAt_ok (by simp [bd]) fun w1 hf => by
      have := rr_is g w1 hf.1.2.1.2
      rw [hf.1.2.2.1.2.2.1, hB] at this
      simpa [den] using this)) (kgSel_ok (kgAt_ok (by simp [bd]) fun w1 hf => by
      have := check_is 39 (by omega) h w1 (vt_less hf.1.2.1.1) 2 (by omega)
      rw [hf.1.2.2.1.2.1, hA9] at this
      simpa [den, ckPost] using this) (kgPan_ok fun w1 hf => by
      have := check_is 39 (by omega) g w1 (vt_less hf.1.2.1.2) 2 (by omega)
      rw [hf.1.2.2.1.2.2.2, hB9] at this
      exact this)))))))))))))) 100000 _ _ [staySV op h g m] [.bool true, .bool false, tw 6 42 (.bool true), .bool true, .bool false, .bool true, .bool false, .bool true, .bool true, tw 6 97 (.bool true), tw 6 102 (.bool false)] _ [(.bool ((g.len : Int) == 0), .bool false), (.bool ((h.len : Int) == 0), .bool true), (h.v, h.v), (h.v, h.v), (.int .i64 2, .int .i64 2), (g.v, g.v), (.int .i64 2, .int .i64 2), (h.v, h.v), (.int .i64 2, .int .i64 2), (g.v, g.v), (h.v, h.v), (.bool (ownB ⟨1, (rnd m), 0, none, 0, 0⟩), .bool true), (.bool (decide (I64 1)), .bool true), (.bool (decide (I64 ((rnd m)))), .bool true), (.bool (decide (I64 0)), .bool true), (h.v, h.v), (.int .i64 m, .int .i64 m), (.bool (ownB ⟨k, n, 0, none, 0, 0⟩), .bool true), (.bool (decide (I64 k)), .bool true), (.bool (decide (I64 (n))), .bool true), (.bool (decide (I64 0)), .bool true), (.bool (decide (e = 0)), .bool true), (.int .i64 op, .int .i64 op), (h.v, h.v), (g.v, g.v), (g.v, g.v), (h.v, h.v)] W (by kernel_rfl) (by simp [denL, den, staySV, stayV]) (by simp [bdL, bd, staySV]) (AllT.cons (by rw [hf2]) (AllT.cons (by rw [hf1]) (AllT.cons (rfl) (AllT.cons (rfl) (AllT.cons (rfl) (AllT.cons (rfl) (AllT.cons (rfl) (AllT.cons (rfl) (AllT.cons (rfl) (AllT.cons (rfl) (AllT.cons (rfl) (AllT.cons (hl3.1) (AllT.cons (hl3.2.1) (AllT.cons (hl3.2.2) (AllT.cons (rfl) (AllT.cons (rfl) (AllT.cons (rfl) (AllT.cons (hl1.1) (AllT.cons (hl1.2.1) (AllT.cons (hl1.2.2) (AllT.cons (rfl) (AllT.cons (by rw [heb]) (AllT.cons (rfl) (AllT.cons (rfl) (AllT.cons (rfl) (AllT.cons (rfl) (AllT.cons (rfl) (AllT.nil)))))))))))))))))))))))))))) (fcV_at kv kw)
set_option maxHeartbeats 8000000 in
theorem st_10_ft_f_n (W : World) (op m : Int) (h g : VH) (kv : VT 40 W h) (kw : VT 40 W g) (hs1 : decide (countW 39 W h 60 ≤ 60) = true) (hs2 : decide (countW 39 W g 60 ≤ 60) = true) (k n e : Int) (hbin : ∀ w, Calls Tryd.prog 21 #[.int .i64 op, h.v, g.v] w fun e' w' => e' = .returned (bRes k n e) ∧ Below w.heap.size w w') (heb : decide (e = 0) = true) (hl1 : LeafOk k n) (K N : Int) (hix : ∀ w, @FcAt (fcV W h g) w → Calls Tryd.prog 9 #[h.v, .int .i64 m] w fun e w' => e = .returned (ixRes K N false) ∧ Below w.heap.size w w') (hl3 : LeafOk 1 (rnd m)) (hA : rightW 40 W h = true) (hA9 : rightW 39 W h = false) (hB : rightW 40 W g = false) (hf1 : ((h.len : Int) == 0) = false) : Calls Tryd.prog 6 #[stayV op h g m] W fun e w' => e = .returned (.bool true) ∧ Below W.heap.size W w' := by
  letI fc : FC := fcV W h g
  exact @ex_valG (fcV W h g) _ ((kgOr (gk kn8) ((kgOr (kgSel (kgAt 24 [h.v] (.v (.bool true))) (kgAt 24 [g.v] (.v (.bool true)))) ((kgOr (kgAt 21 [.int .i64 op, h.v, g.v] (.t [.g [.y (.int .i64 k), .y (.int .i64 n), .v (.int .i64 0), .v (.slice none 0 0)], .y (.int .i64 e)])) ((kgOr (kgLeaf) ((kgOr (kgAt 9 [h.v, .int .i64 m] (.t [.g [.y (.int .i64 K), .y (.int .i64 N), .v (.int .i64 0), .v (.slice none 0 0)], .v (.bool false)])) ((kgOr (kgSel (kgAt 12 [h.v] (.v (.bool true))) (kgAt 12 [g.v] (.v (.bool false)))) (kgSel (kgPan 28 [h.v, .int .i64 2] (.iface 34 (.int .i64 1))) (kgPan 28 [h.v, .int .i64 2] (.iface 34 (.int .i64 1)))))))))))))))) ((kgOr_ok (gk_ok kn8F_ok) ((kgOr_ok (kgSel_ok (kgAt_ok (by simp [bd]) fun w1 hf => by
      have := shallow_is h w1 (vt_less hf.1.2.1.1)
      rw [hf.1.2.2.2.1, hs1] at this
      simpa [den] using this) (kgAt_ok (by simp [bd]) fun w1 hf => by
      have := shallow_is g w1 (vt_less hf.1.2.1.2)
      rw [hf.1.2.2.2.2, hs2] at this
      simpa [den] using this)) ((kgOr_ok (kgAt_ok (by simp [bd, bdL]) fun w1 hf => (hbin w1).mono fun e' w' ⟨he, hb⟩ => ⟨by rw [he]; simp [den, denL, bRes], hb⟩) ((kgOr_ok (kgLeaf_ok) ((kgOr_ok (kgAt_ok (by simp [bd, bdL]) fun w1 hf => (hix w1 hf).mono fun e' w' ⟨he, hb⟩ => ⟨by rw [he]; simp [den, denL, ixRes], hb⟩) ((kgOr_ok (kgSel_ok (kgAt_ok (by simp [bd]) fun w1 hf => by
      have := rr_is h w1 hf.1.2.1.1
      rw [hf.1.2.2.1.1, hA] at this
      simpa [den] using this) (kgAt_ok (by simp [bd]) fun w1 hf => by
      have := rr_is g w1 hf.1.2.1.2
      rw [hf.1.2.2.1.2.2.1, hB] at this
      simpa [den] using this)) (kgSel_ok (kgPan_ok fun w1 hf => by
      have := check_is 39 (by omega) h w1 (vt_less hf.1.2.1.1) 2 (by omega)
      rw [hf.1.2.2.1.2.1, hA9] at this
      exact this) (kgPan_ok fun w1 hf => by
      have := check_is 39 (by omega) h w1 (vt_less hf.1.2.1.1) 2 (by omega)
      rw [hf.1.2.2.1.2.1, hA9] at this
      exact this)))))))))))))) 100000 _ _ [staySV op h g m] [.bool true, .bool false, tw 6 42 (.bool true), .bool true, .bool false, .bool true, .bool true, tw 6 97 (.bool false)] _ [(.bool ((h.len : Int) == 0), .bool false), (h.v, h.v), (.int .i64 2, .int .i64 2), (h.v, h.v), (.int .i64 2, .int .i64 2), (g.v, g.v), (h.v, h.v), (.bool (ownB ⟨1, (rnd m), 0, none, 0, 0⟩), .bool true), (.bool (decide (I64 1)), .bool true), (.bool (decide (I64 ((rnd m)))), .bool true), (.bool (decide (I64 0)), .bool true), (h.v, h.v), (.int .i64 m, .int .i64 m), (.bool (ownB ⟨k, n, 0, none, 0, 0⟩), .bool true), (.bool (decide (I64 k)), .bool true), (.bool (decide (I64 (n))), .bool true), (.bool (decide (I64 0)), .bool true), (.bool (decide (e = 0)), .bool true), (.int .i64 op, .int .i64 op), (h.v, h.v), (g.v, g.v), (g.v, g.v), (h.v, h.v)] W (by kernel_rfl) (by simp [denL, den, staySV, stayV]) (by simp [bdL, bd, staySV]) (AllT.cons (by rw [hf1]) (AllT.cons (rfl) (AllT.cons (rfl) (AllT.cons (rfl) (AllT.cons (rfl) (AllT.cons (rfl) (AllT.cons (rfl) (AllT.cons (hl3.1) (AllT.cons (hl3.2.1) (AllT.cons (hl3.2.2) (AllT.cons (rfl) (AllT.cons (rfl) (AllT.cons (rfl) (AllT.cons (hl1.1) (AllT.cons (hl1.2.1) (AllT.cons (hl1.2.2) (AllT.cons (rfl) (AllT.cons (by rw [heb]) (AllT.cons (rfl) (AllT.cons (rfl) (AllT.cons (rfl) (AllT.cons (rfl) (AllT.cons (rfl) (AllT.nil)))))))))))))))))))))))) (fcV_at kv kw)
set_option maxHeartbeats 8000000 in
theorem st_11_tt_tt_p (W : World) (op m : Int) (h g : VH) (kv : VT 40 W h) (kw : VT 40 W g) (hs1 : decide (countW 39 W h 60 ≤ 60) = true) (hs2 : decide (countW 39 W g 60 ≤ 60) = true) (k n e : Int) (hbin : ∀ w, Calls Tryd.prog 21 #[.int .i64 op, h.v, g.v] w fun e' w' => e' = .returned (bRes k n e) ∧ Below w.heap.size w w') (heb : decide (e = 0) = true) (hl1 : LeafOk k n) (K N : Int) (hix : ∀ w, @FcAt (fcV W h g) w → Calls Tryd.prog 9 #[h.v, .int .i64 m] w fun e w' => e = .returned (ixRes K N true) ∧ Below w.heap.size w w') (hl2 : LeafOk K N) (hl3 : LeafOk 1 (rnd m)) (hA : rightW 40 W h = true) (hA9 : rightW 39 W h = true) (hB : rightW 40 W g = true) (hB9 : rightW 39 W g = true) (hf1 : ((h.len : Int) == 0) = true) (hf2 : ((g.len : Int) == 0) = false) : Calls Tryd.prog 6 #[stayV op h g m] W fun e w' => e = .returned (.bool true) ∧ Below W.heap.size W w' := by
  letI fc : FC := fcV W h g
  exact @ex_valG (fcV W h g) _ ((kgOr (gk kn8) ((kgOr (kgSel (kgAt 24 [h.v] (.v (.bool true))) (kgAt 24 [g.v] (.v (.bool true)))) ((kgOr (kgAt 21 [.int .i64 op, h.v, g.v] (.t [.g [.y (.int .i64 k), .y (.int .i64 n), .v (.int .i64 0), .v (.slice none 0 0)], .y (.int .i64 e)])) ((kgOr (kgLeaf) ((kgOr (kgAt 9 [h.v, .int .i64 m] (.t [.g [.y (.int .i64 K), .y (.int .i64 N), .v (.int .i64 0), .v (.slice none 0 0)], .v (.bool true)])) ((kgOr (kgSel (kgAt 12 [h.v] (.v (.bool true))) (kgAt 12 [g.v] (.v (.bool true)))) (kgSel (kgAt 28 [h.v, .int .i64 2] (.v (.tuple #[]))) (kgAt 28 [g.v, .int .i64 2] (.v (.tuple #[])))))))))))))))) ((kgOr_ok (gk_ok kn8F_ok) ((kgOr_ok (kgSel_ok (kgAt_ok (by simp [bd]) fun w1 hf => by
      have := shallow_is h w1 (vt_less hf.1.2.1.1)
      rw [hf.1.2.2.2.1, hs1] at this
      simpa [den] using this) (kgAt_ok (by simp [bd]) fun w1 hf => by
      have := shallow_is g w1 (vt_less hf.1.2.1.2)
      rw [hf.1.2.2.2.2, hs2] at this
      simpa [den] using this)) ((kgOr_ok (kgAt_ok (by simp [bd, bdL]) fun w1 hf => (hbin w1).mono fun e' w' ⟨he, hb⟩ => ⟨by rw [he]; simp [den, denL, bRes], hb⟩) ((kgOr_ok (kgLeaf_ok) ((kgOr_ok (kgAt_ok (by simp [bd, bdL]) fun w1 hf => (hix w1 hf).mono fun e' w' ⟨he, hb⟩ => ⟨by rw [he]; simp [den, denL, ixRes], hb⟩) ((kgOr_ok (kgSel_ok (kgAt_ok (by simp [bd]) fun w1 hf => by
      have := rr_is h w1 hf.1.2.1.1
      rw [hf.1.2.2.1.1, hA] at this
      simpa [den] using this) (kgAt_ok (by simp [bd]) fun w1 hf => by
      have := rr_is g w1 hf.1.2.1.2
      rw [hf.1.2.2.1.2.2.1, hB] at this
      simpa [den] using this)) (kgSel_ok (kgAt_ok (by simp [bd]) fun w1 hf => by
      have := check_is 39 (by omega) h w1 (vt_less hf.1.2.1.1) 2 (by omega)
      rw [hf.1.2.2.1.2.1, hA9] at this
      simpa [den, ckPost] using this) (kgAt_ok (by simp [bd]) fun w1 hf => by
      have := check_is 39 (by omega) g w1 (vt_less hf.1.2.1.2) 2 (by omega)
      rw [hf.1.2.2.1.2.2.2, hB9] at this
      simpa [den, ckPost] using this)))))))))))))) 100000 _ _ [staySV op h g m] [.bool true, .bool false, tw 6 42 (.bool true), .bool true, .bool false, .bool true, .bool false, .bool true, .bool true, tw 6 97 (.bool true), tw 6 102 (.bool false)] _ [(.bool ((g.len : Int) == 0), .bool false), (.bool ((h.len : Int) == 0), .bool true), (h.v, h.v), (h.v, h.v), (.int .i64 2, .int .i64 2), (g.v, g.v), (.int .i64 2, .int .i64 2), (h.v, h.v), (.int .i64 2, .int .i64 2), (g.v, g.v), (h.v, h.v), (.bool (ownB ⟨1, (rnd m), 0, none, 0, 0⟩), .bool true), (.bool (decide (I64 1)), .bool true), (.bool (decide (I64 ((rnd m)))), .bool true), (.bool (decide (I64 0)), .bool true), (.bool (ownB ⟨K, N, 0, none, 0, 0⟩), .bool true), (.bool (decide (I64 K)), .bool true), (.bool (decide (I64 (N))), .bool true), (.bool (decide (I64 0)), .bool true), (h.v, h.v), (.int .i64 m, .int .i64 m), (.bool (ownB ⟨k, n, 0, none, 0, 0⟩), .bool true), (.bool (decide (I64 k)), .bool true), (.bool (decide (I64 (n))), .bool true), (.bool (decide (I64 0)), .bool true), (.bool (decide (e = 0)), .bool true), (.int .i64 op, .int .i64 op), (h.v, h.v), (g.v, g.v), (g.v, g.v), (h.v, h.v)] W (by kernel_rfl) (by simp [denL, den, staySV, stayV]) (by simp [bdL, bd, staySV]) (AllT.cons (by rw [hf2]) (AllT.cons (by rw [hf1]) (AllT.cons (rfl) (AllT.cons (rfl) (AllT.cons (rfl) (AllT.cons (rfl) (AllT.cons (rfl) (AllT.cons (rfl) (AllT.cons (rfl) (AllT.cons (rfl) (AllT.cons (rfl) (AllT.cons (hl3.1) (AllT.cons (hl3.2.1) (AllT.cons (hl3.2.2) (AllT.cons (rfl) (AllT.cons (hl2.1) (AllT.cons (hl2.2.1) (AllT.cons (hl2.2.2) (AllT.cons (rfl) (AllT.cons (rfl) (AllT.cons (rfl) (AllT.cons (hl1.1) (AllT.cons (hl1.2.1) (AllT.cons (hl1.2.2) (AllT.cons (rfl) (AllT.cons (by rw [heb]) (AllT.cons (rfl) (AllT.cons (rfl) (AllT.cons (rfl) (AllT.cons (rfl) (AllT.cons (rfl) (AllT.nil)))))))))))))))))))))))))))))))) (fcV_at kv kw)
set_option maxHeartbeats 8000000 in
theorem st_11_tt_ff_y (W : World) (op m : Int) (h g : VH) (kv : VT 40 W h) (kw : VT 40 W g) (hs1 : decide (countW 39 W h 60 ≤ 60) = true) (hs2 : decide (countW 39 W g 60 ≤ 60) = true) (k n e : Int) (hbin : ∀ w, Calls Tryd.prog 21 #[.int .i64 op, h.v, g.v] w fun e' w' => e' = .returned (bRes k n e) ∧ Below w.heap.size w w') (heb : decide (e = 0) = true) (hl1 : LeafOk k n) (K N : Int) (hix : ∀ w, @FcAt (fcV W h g) w → Calls Tryd.prog 9 #[h.v, .int .i64 m] w fun e w' => e = .returned (ixRes K N true) ∧ Below w.heap.size w w') (hl2 : LeafOk K N) (hl3 : LeafOk 1 (rnd m)) (hA : rightW 40 W h = true) (hA9 : rightW 39 W h = true) (hB : rightW 40 W g = false) (hB9 : rightW 39 W g = false) (hf1 : ((h.len : Int) == 0) = true) (hf2 : ((g.len : Int) == 0) = true) : Calls Tryd.prog 6 #[stayV op h g m] W fun e w' => e = .returned (.bool true) ∧ Below W.heap.size W w' := by
  letI fc : FC := fcV W h g
  exact @ex_valG (fcV W h g) _ ((kgOr (gk kn8) ((kgOr (kgSel (kgAt 24 [h.v] (.v (.bool true))) (kgAt 24 [g.v] (.v (.bool true)))) ((kgOr (kgAt 21 [.int .i64 op, h.v, g.v] (.t [.g [.y (.int .i64 k), .y (.int .i64 n), .v (.int .i64 0), .v (.slice none 0 0)], .y (.int .i64 e)])) ((kgOr (kgLeaf) ((kgOr (kgAt 9 [h.v, .int .i64 m] (.t [.g [.y (.int .i64 K), .y (.int .i64 N), .v (.int .i64 0), .v (.slice none 0 0)], .v (.bool true)])) ((kgOr (kgSel (kgAt 12 [h.v] (.v (.bool true))) (kgAt 12 [g.v] (.v (.bool false)))) (kgSel (kgAt 28 [h.v, .int .i64 2] (.v (.tuple #[]))) (kgPan 28 [g.v, .int .i64 2] (.iface 34 (.int .i64 1)))))))))))))))) ((kgOr_ok (gk_ok kn8F_ok) ((kgOr_ok (kgSel_ok (kgAt_ok (by simp [bd]) fun w1 hf => by
      have := shallow_is h w1 (vt_less hf.1.2.1.1)
      rw [hf.1.2.2.2.1, hs1] at this
      simpa [den] using this) (kgAt_ok (by simp [bd]) fun w1 hf => by
      have := shallow_is g w1 (vt_less hf.1.2.1.2)
      rw [hf.1.2.2.2.2, hs2] at this
      simpa [den] using this)) ((kgOr_ok (kgAt_ok (by simp [bd, bdL]) fun w1 hf => (hbin w1).mono fun e' w' ⟨he, hb⟩ => ⟨by rw [he]; simp [den, denL, bRes], hb⟩) ((kgOr_ok (kgLeaf_ok) ((kgOr_ok (kgAt_ok (by simp [bd, bdL]) fun w1 hf => (hix w1 hf).mono fun e' w' ⟨he, hb⟩ => ⟨by rw [he]; simp [den, denL, ixRes], hb⟩) ((kgOr_ok (kgSel_ok (kgAt_ok (by simp [bd]) fun w1 hf => by
      have := rr_is h w1 hf.1.2.1.1
      rw [hf.1.2.2.1.1, hA] at this
      simpa [den] using this) (kgAt_ok (by simp [bd]) fun w1 hf => by
      have := rr_is g w1 hf.1.2.1.2
      rw [hf.1.2.2.1.2.2.1, hB] at this
      simpa [den] using this)) (kgSel_ok (kgAt_ok (by simp [bd]) fun w1 hf => by
      have := check_is 39 (by omega) h w1 (vt_less hf.1.2.1.1) 2 (by omega)
      rw [hf.1.2.2.1.2.1, hA9] at this
      simpa [den, ckPost] using this) (kgPan_ok fun w1 hf => by
      have := check_is 39 (by omega) g w1 (vt_less hf.1.2.1.2) 2 (by omega)
      rw [hf.1.2.2.1.2.2.2, hB9] at this
      exact this)))))))))))))) 100000 _ _ [staySV op h g m] [.bool true, .bool false, tw 6 42 (.bool true), .bool true, .bool false, .bool true, .bool false, .bool true, .bool true, tw 6 97 (.bool true), tw 6 102 (.bool true), .bool true, .bool false, .bool true, .bool true] _ [(h.v, h.v), (h.v, h.v), (.int .i64 2, .int .i64 2), (g.v, g.v), (.int .i64 2, .int .i64 2), (h.v, h.v), (.int .i64 2, .int .i64 2), (.bool ((g.len : Int) == 0), .bool true), (.bool ((h.len : Int) == 0), .bool true), (h.v, h.v), (h.v, h.v), (.int .i64 2, .int .i64 2), (g.v, g.v), (.int .i64 2, .int .i64 2), (h.v, h.v), (.int .i64 2, .int .i64 2), (g.v, g.v), (h.v, h.v), (.bool (ownB ⟨1, (rnd m), 0, none, 0, 0⟩), .bool true), (.bool (decide (I64 1)), .bool true), (.bool (decide (I64 ((rnd m)))), .bool true), (.bool (decide (I64 0)), .bool true), (.bool (ownB ⟨K, N, 0, none, 0, 0⟩), .bool true), (.bool (decide (I64 K)), .bool true), (.bool (decide (I64 (N))), .bool true), (.bool (decide (I64 0)), .bool true), (h.v, h.v), (.int .i64 m, .int .i64 m), (.bool (ownB ⟨k, n, 0, none, 0, 0⟩), .bool true), (.bool (decide (I64 k)), .bool true), (.bool (decide (I64 (n))), .bool true), (.bool (decide (I64 0)), .bool true), (.bool (decide (e = 0)), .bool true), (.int .i64 op, .int .i64 op), (h.v, h.v), (g.v, g.v), (g.v, g.v), (h.v, h.v)] W (by kernel_rfl) (by simp [denL, den, staySV, stayV]) (by simp [bdL, bd, staySV]) (AllT.cons (rfl) (AllT.cons (rfl) (AllT.cons (rfl) (AllT.cons (rfl) (AllT.cons (rfl) (AllT.cons (rfl) (AllT.cons (rfl) (AllT.cons (by rw [hf2]) (AllT.cons (by rw [hf1]) (AllT.cons (rfl) (AllT.cons (rfl) (AllT.cons (rfl) (AllT.cons (rfl) (AllT.cons (rfl) (AllT.cons (rfl) (AllT.cons (rfl) (AllT.cons (rfl) (AllT.cons (rfl) (AllT.cons (hl3.1) (AllT.cons (hl3.2.1) (AllT.cons (hl3.2.2) (AllT.cons (rfl) (AllT.cons (hl2.1) (AllT.cons (hl2.2.1) (AllT.cons (hl2.2.2) (AllT.cons (rfl) (AllT.cons (rfl) (AllT.cons (rfl) (AllT.cons (hl1.1) (AllT.cons (hl1.2.1) (AllT.cons (hl1.2.2) (AllT.cons (rfl) (AllT.cons (by rw [heb]) (AllT.cons (rfl) (AllT.cons (rfl) (AllT.cons (rfl) (AllT.cons (rfl) (AllT.cons (rfl) (AllT.nil))))))))))))))))))))))))))))))))))))))) (fcV_at kv kw)
set_option maxHeartbeats 8000000 in
theorem st_11_ff_p (W : World) (op m : Int) (h g : VH) (kv : VT 40 W h) (kw : VT 40 W g) (hs1 : decide (countW 39 W h 60 ≤ 60) = true) (hs2 : decide (countW 39 W g 60 ≤ 60) = true) (k n e : Int) (hbin : ∀ w, Calls Tryd.prog 21 #[.int .i64 op, h.v, g.v] w fun e' w' => e' = .returned (bRes k n e) ∧ Below w.heap.size w w') (heb : decide (e = 0) = true) (hl1 : LeafOk k n) (K N : Int) (hix : ∀ w, @FcAt (fcV W h g) w → Calls Tryd.prog 9 #[h.v, .int .i64 m] w fun e w' => e = .returned (ixRes K N true) ∧ Below w.heap.size w w') (hl2 : LeafOk K N) (hl3 : LeafOk 1 (rnd m)) (hA : rightW 40 W h = false) (hA9 : rightW 39 W h = false) (hf1 : ((h.len : Int) == 0) = true) (hf2 : ((g.len : Int) == 0) = false) : Calls Tryd.prog 6 #[stayV op h g m] W fun e w' => e = .returned (.bool true) ∧ Below W.heap.size W w' := by
  letI fc : FC := fcV W h g
  exact @ex_valG (fcV W h g) _ ((kgOr (gk kn8) ((kgOr (kgSel (kgAt 24 [h.v] (.v (.bool true))) (kgAt 24 [g.v] (.v (.bool true)))) ((kgOr (kgAt 21 [.int .i64 op, h.v, g.v] (.t [.g [.y (.int .i64 k), .y (.int .i64 n), .v (.int .i64 0), .v (.slice none 0 0)], .y (.int .i64 e)])) ((kgOr (kgLeaf) ((kgOr (kgAt 9 [h.v, .int .i64 m] (.t [.g [.y (.int .i64 K), .y (.int .i64 N), .v (.int .i64 0), .v (.slice none 0 0)], .v (.bool true)])) ((kgOr (kgSel (kgAt 12 [h.v] (.v (.bool false))) (kgAt 12 [h.v] (.v (.bool false)))) (kgSel (kgPan 28 [h.v, .int .i64 2] (.iface 34 (.int .i64 1))) (kgPan 28 [h.v, .int .i64 2] (.iface 34 (.int .i64 1)))))))))))))))) ((kgOr_ok (gk_ok kn8F_ok) ((kgOr_ok (kgSel_ok (kgAt_ok (by simp [bd]) fun w1 hf => by
      have := shallow_is h w1 (vt_less hf.1.2.1.1)
      rw [hf.1.2.2.2.1, hs1] at this
      simpa [den] using this) (kgAt_ok (by simp [bd]) fun w1 hf => by
      have := shallow_is g w1 (vt_less hf.1.2.1.2)
      rw [hf.1.2.2.2.2, hs2] at this
      simpa [den] using this)) ((kgOr_ok (kgAt_ok (by simp [bd, bdL]) fun w1 hf => (hbin w1).mono fun e' w' ⟨he, hb⟩ => ⟨by rw [he]; simp [den, denL, bRes], hb⟩) ((kgOr_ok (kgLeaf_ok) ((kgOr_ok (kgAt_ok (by simp [bd, bdL]) fun w1 hf => (hix w1 hf).mono fun e' w' ⟨he, hb⟩ => ⟨by rw [he]; simp [den, denL, ixRes], hb⟩) ((kgOr_ok (kgSel_ok (kgAt_ok (by simp [bd]) fun w1 hf => by
      have := rr_is h w1 hf.1.2.1.1
      rw [hf.1.2.2.1.1, hA] at this
      simpa [den] using this) (kgAt_ok (by simp [bd]) fun w1 hf => by
      have := rr_is h w1 hf.1.2.1.1
      rw [hf.1.2.2.1.1, hA] at this
      simpa [den] using this)) (kgSel_ok (kgPan_ok fun w1 hf => by
      have := check_is 39 (by omega) h w1 (vt_less hf.1.2.1.1) 2 (by omega)
      rw [hf.1.2.2.1.2.1, hA9] at this
      exact this) (kgPan_ok fun w1 hf => by
      have := check_is 39 (by omega) h w1 (vt_less hf.1.2.1.1) 2 (by omega)
      rw [hf.1.2.2.1.2.1, hA9] at this
      exact this)))))))))))))) 100000 _ _ [staySV op h g m] [.bool true, .bool false, tw 6 42 (.bool true), .bool true, .bool true, .bool true, tw 6 97 (.bool true), tw 6 102 (.bool false)] _ [(.bool ((g.len : Int) == 0), .bool false), (.bool ((h.len : Int) == 0), .bool true), (h.v, h.v), (.int .i64 2, .int .i64 2), (h.v, h.v), (.int .i64 2, .int .i64 2), (h.v, h.v), (.bool (ownB ⟨1, (rnd m), 0, none, 0, 0⟩), .bool true), (.bool (decide (I64 1)), .bool true), (.bool (decide (I64 ((rnd m)))), .bool true), (.bool (decide (I64 0)), .bool true), (.bool (ownB ⟨K, N, 0, none, 0, 0⟩), .bool true), (.bool (decide (I64 K)), .bool true), (.bool (decide (I64 (N))), .bool true), (.bool (decide (I64 0)), .bool true), (h.v, h.v), (.int .i64 m, .int .i64 m), (.bool (ownB ⟨k, n, 0, none, 0, 0⟩), .bool true), (.bool (decide (I64 k)), .bool true), (.bool (decide (I64 (n))), .bool true), (.bool (decide (I64 0)), .bool true), (.bool (decide (e = 0)), .bool true), (.int .i64 op, .int .i64 op), (h.v, h.v), (g.v, g.v), (g.v, g.v), (h.v, h.v)] W (by kernel_rfl) (by simp [denL, den, staySV, stayV]) (by simp [bdL, bd, staySV]) (AllT.cons (by rw [hf2]) (AllT.cons (by rw [hf1]) (AllT.cons (rfl) (AllT.cons (rfl) (AllT.cons (rfl) (AllT.cons (rfl) (AllT.cons (rfl) (AllT.cons (hl3.1) (AllT.cons (hl3.2.1) (AllT.cons (hl3.2.2) (AllT.cons (rfl) (AllT.cons (hl2.1) (AllT.cons (hl2.2.1) (AllT.cons (hl2.2.2) (AllT.cons (rfl) (AllT.cons (rfl) (AllT.cons (rfl) (AllT.cons (hl1.1) (AllT.cons (hl1.2.1) (AllT.cons (hl1.2.2) (AllT.cons (rfl) (AllT.cons (by rw [heb]) (AllT.cons (rfl) (AllT.cons (rfl) (AllT.cons (rfl) (AllT.cons (rfl) (AllT.cons (rfl) (AllT.nil)))))))))))))))))))))))))))) (fcV_at kv kw)
end Go.Proofs.YtoijdnlplbeomaaDoor


/-
  Layer 8: runs of ValueStaysValid, part 3.
-/
namespace Go.Proofs.YtoijdnlplbeomaaDoor
open Go Go.RowKit EX
set_option maxRecDepth 100000
set_option linter.unusedVariables false
set_option linter.unusedSimpArgs false
set_option linter.unusedSectionVars false
set_option maxHeartbeats 8000000 in
theorem st_s2 (W : World) (op m : Int) (h g : VH) (kv : VT 40 W h) (kw : VT 40 W g) (hs1 : decide (countW 39 W h 60 ≤ 60) = true) (hs2 : decide (countW 39 W g 60 ≤ 60) = false) : Calls Tryd.prog 6 #[stayV op h g m] W fun e w' => e = .returned (.bool true) ∧ Below W.heap.size W w' := by
  letI fc : FC := fcV W h g
  exact @ex_valG (fcV W h g) _ ((kgOr (gk kn8) (kgSel (kgAt 24 [h.v] (.v (.bool true))) (kgAt 24 [g.v] (.v (.bool false)))))) ((kgOr_ok (gk_ok kn8F_ok) (kgSel_ok (kgAt_ok (by simp [bd]) fun w1 hf => by
      have := shallow_is h w1 (vt_less hf.1.2.1.1)
      rw [hf.1.2.2.2.1, hs1] at this
      simpa [den] using this) (kgAt_ok (by simp [bd]) fun w1 hf => by
      have := shallow_is g w1 (vt_less hf.1.2.1.2)
      rw [hf.1.2.2.2.2, hs2] at this
      simpa [den] using this)))) 100000 _ _ [staySV op h g m] [.bool true, .bool false] _ [(g.v, g.v), (h.v, h.v)] W (by kernel_rfl) (by simp [denL, den, staySV, stayV]) (by simp [bdL, bd, staySV]) (AllT.cons (rfl) (AllT.cons (rfl) (AllT.nil))) (fcV_at kv kw)
set_option maxHeartbeats 8000000 in
theorem st_00_tt_ff_n (W : World) (op m : Int) (h g : VH) (kv : VT 40 W h) (kw : VT 40 W g) (hs1 : decide (countW 39 W h 60 ≤ 60) = true) (hs2 : decide (countW 39 W g 60 ≤ 60) = true) (k n e : Int) (hbin : ∀ w, Calls Tryd.prog 21 #[.int .i64 op, h.v, g.v] w fun e' w' => e' = .returned (bRes k n e) ∧ Below w.heap.size w w') (heb : decide (e = 0) = false) (K N : Int) (hix : ∀ w, @FcAt (fcV W h g) w → Calls Tryd.prog 9 #[h.v, .int .i64 m] w fun e w' => e = .returned (ixRes K N false) ∧ Below w.heap.size w w') (hl3 : LeafOk 1 (rnd m)) (hA : rightW 40 W h = true) (hA9 : rightW 39 W h = true) (hB : rightW 40 W g = false) (hB9 : rightW 39 W g = false) (hf1 : ((h.len : Int) == 0) = false) : Calls Tryd.prog 6 #[stayV op h g m] W fun e w' => e = .returned (.bool true) ∧ Below W.heap.size W w' := by
  letI fc : FC := fcV W h g
  exact @ex_valG (fcV W h g) _ ((kgOr (gk kn8) ((kgOr (kgSel (kgAt 24 [h.v] (.v (.bool true))) (kgAt 24 [g.v] (.v (.bool true)))) ((kgOr (kgAt 21 [.int .i64 op, h.v, g.v] (.t [.g [.y (.int .i64 k), .y (.int .i64 n), .v (.int .i64 0), .v (.slice none 0 0)], .y (.int .i64 e)])) ((kgOr (kgLeaf) ((kgOr (kgAt 9 [h.v, .int .i64 m] (.t [.g [.y (.int .i64 K), .y (.int .i64 N), .v (.int .i64 0), .v (.slice none 0 0)], .v (.bool false)])) ((kgOr (kgSel (kgAt 12 [h.v] (.v (.bool true))) (kgAt 12 [g.v] (.v (.bool false)))) (kgSel (kgAt 28 [h.v, .int .i64 2] (.v (.tuple #[]))) (kgPan 28 [g.v, .int .i64 2] (.iface 34 (.int .i64 1)))))))))))))))) ((kgOr_ok (gk_ok kn8F_ok) ((kgOr_ok (kgSel_ok (kgAt_ok (by simp [bd]) fun w1 hf => by
      have := shallow_is h w1 (vt_less hf.1.2.1.1)
      rw [hf.1.2.2.2.1, hs1] at this
      simpa [den] using this) (kgAt_ok (by simp [bd]) fun w1 hf => by
      have := shallow_is g w1 (vt_less hf.1.2.1.2)
      rw [hf.1.2.2.2.2, hs2] at this
      simpa [den] using this)) ((kgOr_ok (kgAt_ok (by simp [bd, bdL]) fun w1 hf => (hbin w1).mono fun e' w' ⟨he, hb⟩ => ⟨by rw [he]; simp [den, denL, bRes], hb⟩) ((kgOr_ok (kgLeaf_ok) ((kgOr_ok (kgAt_ok (by simp [bd, bdL]) fun w1 hf => (hix w1 hf).mono fun e' w' ⟨he, hb⟩ => ⟨by rw [he]; simp [den, denL, ixRes], hb⟩) ((kgOr_ok (kgSel_ok (kgAt_ok (by simp [bd]) fun w1 hf => by
      have := rr_is h w1 hf.1.2.1.1
      rw [hf.1.2.2.1.1, hA] at this
      simpa [den] using this) (kgAt_ok (by simp [bd]) fun w1 hf => by
      have := rr_is g w1 hf.1.2.1.2
      rw [hf.1.2.2.1.2.2.1, hB] at this
      simpa [den] using this)) (kgSel_ok (kgAt_ok (by simp [bd]) fun w1 hf => by
      have := check_is 39 (by omega) h w1 (vt_less hf.1.2.1.1) 2 (by omega)
      rw [hf.1.2.2.1.2.1, hA9] at this
      simpa [den, ckPost] using this) (kgPan_ok fun w1 hf => by
      have := check_is 39 (by omega) g w1 (vt_less hf.1.2.1.2) 2 (by omega)
      rw [hf.1.2.2.1.2.2.2, hB9] at this
      exact this)))))))))))))) 100000 _ _ [staySV op h g m] [.bool true, .bool false, tw 6 42 (.bool false), .bool true, .bool false, .bool true, .bool false, .bool true, .bool true, tw 6 97 (.bool false)] _ [(.bool ((h.len : Int) == 0), .bool false), (h.v, h.v), (h.v, h.v), (.int .i64 2, .int .i64 2), (g.v, g.v), (.int .i64 2, .int .i64 2), (h.v, h.v), (.int .i64 2, .int .i64 2), (g.v, g.v), (h.v, h.v), (.bool (ownB ⟨1, (rnd m), 0, none, 0, 0⟩), .bool true), (.bool (decide (I64 1)), .bool true), (.bool (decide (I64 ((rnd m)))), .bool true), (.bool (decide (I64 0)), .bool true), (h.v, h.v), (.int .i64 m, .int .i64 m), (.bool (decide (e = 0)), .bool false), (.int .i64 op, .int .i64 op), (h.v, h.v), (g.v, g.v), (g.v, g.v), (h.v, h.v)] W (by kernel_rfl) (by simp [denL, den, staySV, stayV]) (by simp [bdL, bd, staySV]) (AllT.cons (by rw [hf1]) (AllT.cons (rfl) (AllT.cons (rfl) (AllT.cons (rfl) (AllT.cons (rfl) (AllT.cons (rfl) (AllT.cons (rfl) (AllT.cons (rfl) (AllT.cons (rfl) (AllT.cons (rfl) (AllT.cons (hl3.1) (AllT.cons (hl3.2.1) (AllT.cons (hl3.2.2) (AllT.cons (rfl) (AllT.cons (rfl) (AllT.cons (rfl) (AllT.cons (by rw [heb]) (AllT.cons (rfl) (AllT.cons (rfl) (AllT.cons (rfl) (AllT.cons (rfl) (AllT.cons (rfl) (AllT.nil))))))))))))))))))))))) (fcV_at kv kw)
set_option maxHeartbeats 8000000 in
theorem st_00_ft_f_p (W : World) (op m : Int) (h g : VH) (kv : VT 40 W h) (kw : VT 40 W g) (hs1 : decide (countW 39 W h 60 ≤ 60) = true) (hs2 : decide (countW 39 W g 60 ≤ 60) = true) (k n e : Int) (hbin : ∀ w, Calls Tryd.prog 21 #[.int .i64 op, h.v, g.v] w fun e' w' => e' = .returned (bRes k n e) ∧ Below w.heap.size w w') (heb : decide (e = 0) = false) (K N : Int) (hix : ∀ w, @FcAt (fcV W h g) w → Calls Tryd.prog 9 #[h.v, .int .i64 m] w fun e w' => e = .returned (ixRes K N false) ∧ Below w.heap.size w w') (hl3 : LeafOk 1 (rnd m)) (hA : rightW 40 W h = true) (hA9 : rightW 39 W h = false) (hB : rightW 40 W g = false) (hf1 : ((h.len : Int) == 0) = true) (hf2 : ((g.len : Int) == 0) = false) : Calls Tryd.prog 6 #[stayV op h g m] W fun e w' => e = .returned (.bool true) ∧ Below W.heap.size W w' := by
  letI fc : FC := fcV W h g
  exact @ex_valG (fcV W h g) _ ((kgOr (gk kn8) ((kgOr (kgSel (kgAt 24 [h.v] (.v (.bool true))) (kgAt 24 [g.v] (.v (.bool true)))) ((kgOr (kgAt 21 [.int .i64 op, h.v, g.v] (.t [.g [.y (.int .i64 k), .y (.int .i64 n), .v (.int .i64 0), .v (.slice none 0 0)], .y (.int .i64 e)])) ((kgOr (kgLeaf) ((kgOr (kgAt 9 [h.v, .int .i64 m] (.t [.g [.y (.int .i64 K), .y (.int .i64 N), .v (.int .i64 0), .v (.slice none 0 0)], .v (.bool false)])) ((kgOr (kgSel (kgAt 12 [h.v] (.v (.bool true))) (kgAt 12 [g.v] (.v (.bool false)))) (kgSel (kgPan 28 [h.v, .int .i64 2] (.iface 34 (.int .i64 1))) (kgPan 28 [h.v, .int .i64 2] (.iface 34 (.int .i64 1)))))))))))))))) ((kgOr_ok (gk_ok kn8F_ok) ((kgOr_ok (kgSel_ok (kgAt_ok (by simp [bd]) fun w1 hf => by
      have := shallow_is h w1 (vt_less hf.1.2.1.1)
      rw [hf.1.2.2.2.1, hs1] at this
      simpa [den] using this) (kgAt_ok (by simp [bd]) fun w1 hf => by
      have := shallow_is g w1 (vt_less hf.1.2.1.2)
      rw [hf.1.2.2.2.2, hs2] at this
      simpa [den] using this)) ((kgOr_ok (kgAt_ok (by simp [bd, bdL]) fun w1 hf => (hbin w1).mono fun e' w' ⟨he, hb⟩ => ⟨by rw [he]; simp [den, denL, bRes], hb⟩) ((kgOr_ok (kgLeaf_ok) ((kgOr_ok (kgAt_ok (by simp [bd, bdL]) fun w1 hf => (hix w1 hf).mono fun e' w' ⟨he, hb⟩ => ⟨by rw [he]; simp [den, denL, ixRes], hb⟩) ((kgOr_ok (kgSel_ok (kgAt_ok (by simp [bd]) fun w1 hf => by
      have := rr_is h w1 hf.1.2.1.1
      rw [hf.1.2.2.1.1, hA] at this
      simpa [den] using this) (kgAt_ok (by simp [bd]) fun w1 hf => by
      have := rr_is g w1 hf.1.2.1.2
      rw [hf.1.2.2.1.2.2.1, hB] at this
      simpa [den] using this)) (kgSel_ok (kgPan_ok fun w1 hf => by
      have := check_is 39 (by omega) h w1 (vt_less hf.1.2.1.1) 2 (by omega)
      rw [hf.1.2.2.1.2.1, hA9] at this
      exact this) (kgPan_ok fun w1 hf => by
      have := check_is 39 (by omega) h w1 (vt_less hf.1.2.1.1) 2 (by omega)
      rw [hf.1.2.2.1.2.1, hA9] at this
      exact this)))))))))))))) 100000 _ _ [staySV op h g m] [.bool true, .bool false, tw 6 42 (.bool false), .bool true, .bool false, .bool true, .bool true, tw 6 97 (.bool true), tw 6 102 (.bool false)] _ [(.bool ((g.len : Int) == 0), .bool false), (.bool ((h.len : Int) == 0), .bool true), (h.v, h.v), (.int .i64 2, .int .i64 2), (h.v, h.v), (.int .i64 2, .int .i64 2), (g.v, g.v), (h.v, h.v), (.bool (ownB ⟨1, (rnd m), 0, none, 0, 0⟩), .bool true), (.bool (decide (I64 1)), .bool true), (.bool (decide (I64 ((rnd m)))), .bool true), (.bool (decide (I64 0)), .bool true), (h.v, h.v), (.int .i64 m, .int .i64 m), (.bool (decide (e = 0)), .bool false), (.int .i64 op, .int .i64 op), (h.v, h.v), (g.v, g.v), (g.v, g.v), (h.v, h.v)] W (by kernel_rfl) (by simp [denL, den, staySV, stayV]) (by simp [bdL, bd, staySV]) (AllT.cons (by rw [hf2]) (AllT.cons (by rw [hf1]) (AllT.cons (rfl) (AllT.cons (rfl) (AllT.cons (rfl) (AllT.cons (rfl) (AllT.cons (rfl) (AllT.cons (rfl) (AllT.cons (hl3.1) (AllT.cons (hl3.2.1) (AllT.cons (hl3.2.2) (AllT.cons (rfl) (AllT.cons (rfl) (AllT.cons (rfl) (AllT.cons (by rw [heb]) (AllT.cons (rfl) (AllT.cons (rfl) (AllT.cons (rfl) (AllT.cons (rfl) (AllT.cons (rfl) (AllT.nil))))))))))))))))))))) (fcV_at kv kw)
set_option maxHeartbeats 8000000 in
theorem st_01_tt_tt_y (W : World) (op m : Int) (h g : VH) (kv : VT 40 W h) (kw : VT 40 W g) (hs1 : decide (countW 39 W h 60 ≤ 60) = true) (hs2 : decide (countW 39 W g 60 ≤ 60) = true) (k n e : Int) (hbin : ∀ w, Calls Tryd.prog 21 #[.int .i64 op, h.v, g.v] w fun e' w' => e' = .returned (bRes k n e) ∧ Below w.heap.size w w') (heb : decide (e = 0) = false) (K N : Int) (hix : ∀ w, @FcAt (fcV W h g) w → Calls Tryd.prog 9 #[h.v, .int .i64 m] w fun e w' => e = .returned (ixRes K N true) ∧ Below w.heap.size w w') (hl2 : LeafOk K N) (hl3 : LeafOk 1 (rnd m)) (hA : rightW 40 W h = true) (hA9 : rightW 39 W h = true) (hB : rightW 40 W g = true) (hB9 : rightW 39 W g = true) (hf1 : ((h.len : Int) == 0) = true) (hf2 : ((g.len : Int) == 0) = true) : Calls Tryd.prog 6 #[stayV op h g m] W fun e w' => e = .returned (.bool true) ∧ Below W.heap.size W w' := by
  letI fc : FC := fcV W h g
  exact @ex_valG (fcV W h g) _ ((kgOr (gk kn8) ((kgOr (kgSel (kgAt 24 [h.v] (.v (.bool true))) (kgAt 24 [g.v] (.v (.bool true)))) ((kgOr (kgAt 21 [.int .i64 op, h.v, g.v] (.t [.g [.y (.int .i64 k), .y (.int .i64 n), .v (.int .i64 0), .v (.slice none 0 0)], .y (.int .i64 e)])) ((kgOr (kgLeaf) ((kgOr (kgAt 9 [h.v, .int .i64 m] (.t [.g [.y (.int .i64 K), .y (.int .i64 N), .v (.int .i64 0), .v (.slice none 0 0)], .v (.bool true)])) ((kgOr (kgSel (kgAt 12 [h.v] (.v (.bool true))) (kgAt 12 [g.v] (.v (.bool true)))) (kgSel (kgAt 28 [h.v, .int .i64 2] (.v (.tuple #[]))) (kgAt 28 [g.v, .int .i64 2] (.v (.tuple #[])))))))))))))))) ((kgOr_ok (gk_ok kn8F_ok) ((kgOr_ok (kgSel_ok (kgAt_ok (by simp [bd]) fun w1 hf => by
      have := shallow_is h w1 (vt_less hf.1.2.1.1)
      rw [hf.1.2.2.2.1, hs1] at this
      simpa [den] using this) (kgAt_ok (by simp [bd]) fun w1 hf => by
      have := shallow_is g w1 (vt_less hf.1.2.1.2)
      rw [hf.1.2.2.2.2, hs2] at this
      simpa [den] using this)) ((kgOr_ok (kgAt_ok (by simp [bd, bdL]) fun w1 hf => (hbin w1).mono fun e' w' ⟨he, hb⟩ => ⟨by rw [he]; simp [den, denL, bRes], hb⟩) ((kgOr_ok (kgLeaf_ok) ((kgOr_ok (kgAt_ok (by simp [bd, bdL]) fun w1 hf => (hix w1 hf).mono fun e' w' ⟨he, hb⟩ => ⟨by rw [he]; simp [den, denL, ixRes], hb⟩) ((kgOr_ok (kgSel_ok (kgAt_ok (by simp [bd]) fun w1 hf => by
      have := rr_is h w1 hf.1.2.1.1
      rw [hf.1.2.2.1.1, hA] at this
      simpa [den] using this) (kgAt_ok (by simp [bd]) fun w1 hf => by
      have := rr_is g w1 hf.1.2.1.2
      rw [hf.1.2.2.1.2.2.1, hB] at this
      simpa [den] using this)) (kgSel_ok (kgAt_ok (by simp [bd]) fun w1 hf => by
      have := check_is 39 (by omega) h w1 (vt_less hf.1.2.1.1) 2 (by omega)
      rw [hf.1.2.2.1.2.1, hA9] at this
      simpa [den, ckPost] using this) (kgAt_ok (by simp [bd]) fun w1 hf => by
      have := check_is 39 (by omega) g w1 (vt_less hf.1.2.1.2) 2 (by omega)
      rw [hf.1.2.2.1.2.2.2, hB9] at this
      simpa [den, ckPost] using this)))))))))))))) 100000 _ _ [staySV op h g m] [.bool true, .bool false, tw 6 42 (.bool false), .bool true, .bool false, .bool true, .bool false, .bool true, .bool true, tw 6 97 (.bool true), tw 6 102 (.bool true), .bool true, .bool false, .bool true, .bool true] _ [(h.v, h.v), (h.v, h.v), (.int .i64 2, .int .i64 2), (g.v, g.v), (.int .i64 2, .int .i64 2), (h.v, h.v), (.int .i64 2, .int .i64 2), (.bool ((g.len : Int) == 0), .bool true), (.bool ((h.len : Int) == 0), .bool true), (h.v, h.v), (h.v, h.v), (.int .i64 2, .int .i64 2), (g.v, g.v), (.int .i64 2, .int .i64 2), (h.v, h.v), (.int .i64 2, .int .i64 2), (g.v, g.v), (h.v, h.v), (.bool (ownB ⟨1, (rnd m), 0, none, 0, 0⟩), .bool true), (.bool (decide (I64 1)), .bool true), (.bool (decide (I64 ((rnd m)))), .bool true), (.bool (decide (I64 0)), .bool true), (.bool (ownB ⟨K, N, 0, none, 0, 0⟩), .bool true), (.bool (decide (I64 K)), .bool true), (.bool (decide (I64 (N))), .bool true), (.bool (decide (I64 0)), .bool true), (h.v, h.v), (.int .i64 m, .int .i64 m), (.bool (decide (e = 0)), .bool false), (.int .i64 op, .int .i64 op), (h.v, h.v), (g.v, g.v), (g.v, g.v), (h.v, h.v)] W (by kernel_rfl) (by simp [denL, den, staySV, stayV]) (by simp [bdL, bd, staySV]) (AllT.cons (rfl) (AllT.cons (rfl) (AllT.cons (rfl) (AllT.cons (rfl) (AllT.cons (rfl) (AllT.cons (rfl) (AllT.cons (rfl) (AllT.cons (by rw [hf2]) (AllT.cons (by rw [hf1]) (AllT.cons (rfl) (AllT.cons (rfl) (AllT.cons (rfl) (AllT.cons (rfl) (AllT.cons (rfl) (AllT.cons (rfl) (AllT.cons (rfl) (AllT.cons (rfl) (AllT.cons (rfl) (AllT.cons (hl3.1) (AllT.cons (hl3.2.1) (AllT.cons (hl3.2.2) (AllT.cons (rfl) (AllT.cons (hl2.1) (AllT.cons (hl2.2.1) (AllT.cons (hl2.2.2) (AllT.cons (rfl) (AllT.cons (rfl) (AllT.cons (rfl) (AllT.cons (by rw [heb]) (AllT.cons (rfl) (AllT.cons (rfl) (AllT.cons (rfl) (AllT.cons (rfl) (AllT.cons (rfl) (AllT.nil))))))))))))))))))))))))))))))))))) (fcV_at kv kw)
set_option maxHeartbeats 8000000 in
theorem st_01_ft_t_n (W : World) (op m : Int) (h g : VH) (kv : VT 40 W h) (kw : VT 40 W g) (hs1 : decide (countW 39 W h 60 ≤ 60) = true) (hs2 : decide (countW 39 W g 60 ≤ 60) = true) (k n e : Int) (hbin : ∀ w, Calls Tryd.prog 21 #[.int .i64 op, h.v, g.v] w fun e' w' => e' = .returned (bRes k n e) ∧ Below w.heap.size w w') (heb : decide (e = 0) = false) (K N : Int) (hix : ∀ w, @FcAt (fcV W h g) w → Calls Tryd.prog 9 #[h.v, .int .i64 m] w fun e w' => e = .returned (ixRes K N true) ∧ Below w.heap.size w w') (hl2 : LeafOk K N) (hl3 : LeafOk 1 (rnd m)) (hA : rightW 40 W h = true) (hA9 : rightW 39 W h = false) (hB : rightW 40 W g = true) (hf1 : ((h.len : Int) == 0) = false) : Calls Tryd.prog 6 #[stayV op h g m] W fun e w' => e = .returned (.bool true) ∧ Below W.heap.size W w' := by
  letI fc : FC := fcV W h g
  exact @ex_valG (fcV W h g) _ ((kgOr (gk kn8) ((kgOr (kgSel (kgAt 24 [h.v] (.v (.bool true))) (kgAt 24 [g.v] (.v (.bool true)))) ((kgOr (kgAt 21 [.int .i64 op, h.v, g.v] (.t [.g [.y (.int .i64 k), .y (.int .i64 n), .v (.int .i64 0), .v (.slice none 0 0)], .y (.int .i64 e)])) ((kgOr (kgLeaf) ((kgOr (kgAt 9 [h.v, .int .i64 m] (.t [.g [.y (.int .i64 K), .y (.int .i64 N), .v (.int .i64 0), .v (.slice none 0 0)], .v (.bool true)])) ((kgOr (kgSel (kgAt 12 [h.v] (.v (.bool true))) (kgAt 12 [g.v] (.v (.bool true)))) (kgSel (kgPan 28 [h.v, .int .i64 2] (.iface 34 (.int .i64 1))) (kgPan 28 [h.v, .int .i64 2] (.iface 34 (.int .i64 1)))))))))))))))) ((kgOr_ok (gk_ok kn8F_ok) ((kgOr_ok (kgSel_ok (kgAt_ok (by simp [bd]) fun w1 hf => by
      have := shallow_is h w1 (vt_less hf.1.2.1.1)
      rw [hf.1.2.2.2.1, hs1] at this
      simpa [den] using this) (kgAt_ok (by simp [bd]) fun w1 hf => by
      have := shallow_is g w1 (vt_less hf.1.2.1.2)
      rw [hf.1.2.2.2.2, hs2] at this
      simpa [den] using this)) ((kgOr_ok (kgAt_ok (by simp [bd, bdL]) fun w1 hf => (hbin w1).mono fun e' w' ⟨he, hb⟩ => ⟨by rw [he]; simp [den, denL, bRes], hb⟩) ((kgOr_ok (kgLeaf_ok) ((kgOr_ok (kgAt_ok (by simp [bd, bdL]) fun w1 hf => (hix w1 hf).mono fun e' w' ⟨he, hb⟩ => ⟨by rw [he]; simp [den, denL, ixRes], hb⟩) ((kgOr_ok (kgSel_ok (kgAt_ok (by simp [bd]) fun w1 hf => by
      have := rr_is h w1 hf.1.2.1.1
      rw [hf.1.2.2.1.1, hA] at this
      simpa [den] using this) (kgAt_ok (by simp [bd]) fun w1 hf => by
      have := rr_is g w1 hf.1.2.1.2
      rw [hf.1.2.2.1.2.2.1, hB] at this
      simpa [den] using this)) (kgSel_ok (kgPan_ok fun w1 hf => by
      have := check_is 39 (by omega) h w1 (vt_less hf.1.2.1.1) 2 (by omega)
      rw [hf.1.2.2.1.2.1, hA9] at this
      exact this) (kgPan_ok fun w1 hf => by
      have := check_is 39 (by omega) h w1 (vt_less hf.1.2.1.1) 2 (by omega)
      rw [hf.1.2.2.1.2.1, hA9] at this
      exact this)))))))))))))) 100000 _ _ [staySV op h g m] [.bool true, .bool false, tw 6 42 (.bool false), .bool true, .bool false, .bool true, .bool true, tw 6 97 (.bool false)] _ [(.bool ((h.len : Int) == 0), .bool false), (h.v, h.v), (.int .i64 2, .int .i64 2), (h.v, h.v), (.int .i64 2, .int .i64 2), (g.v, g.v), (h.v, h.v), (.bool (ownB ⟨1, (rnd m), 0, none, 0, 0⟩), .bool true), (.bool (decide (I64 1)), .bool true), (.bool (decide (I64 ((rnd m)))), .bool true), (.bool (decide (I64 0)), .bool true), (.bool (ownB ⟨K, N, 0, none, 0, 0⟩), .bool true), (.bool (decide (I64 K)), .bool true), (.bool (decide (I64 (N))), .bool true), (.bool (decide (I64 0)), .bool true), (h.v, h.v), (.int .i64 m, .int .i64 m), (.bool (decide (e = 0)), .bool false), (.int .i64 op, .int .i64 op), (h.v, h.v), (g.v, g.v), (g.v, g.v), (h.v, h.v)] W (by kernel_rfl) (by simp [denL, den, staySV, stayV]) (by simp [bdL, bd, staySV]) (AllT.cons (by rw [hf1]) (AllT.cons (rfl) (AllT.cons (rfl) (AllT.cons (rfl) (AllT.cons (rfl) (AllT.cons (rfl) (AllT.cons (rfl) (AllT.cons (hl3.1) (AllT.cons (hl3.2.1) (AllT.cons (hl3.2.2) (AllT.cons (rfl) (AllT.cons (hl2.1) (AllT.cons (hl2.2.1) (AllT.cons (hl2.2.2) (AllT.cons (rfl) (AllT.cons (rfl) (AllT.cons (rfl) (AllT.cons (by rw [heb]) (AllT.cons (rfl) (AllT.cons (rfl) (AllT.cons (rfl) (AllT.cons (rfl) (AllT.cons (rfl) (AllT.nil)))))))))))))))))))))))) (fcV_at kv kw)
set_option maxHeartbeats 8000000 in
theorem st_01_ff_y (W : World) (op m : Int) (h g : VH) (kv : VT 40 W h) (kw : VT 40 W g) (hs1 : decide (countW 39 W h 60 ≤ 60) = true) (hs2 : decide (countW 39 W g 60 ≤ 60) = true) (k n e : Int) (hbin : ∀ w, Calls Tryd.prog 21 #[.int .i64 op, h.v, g.v] w fun e' w' => e' = .returned (bRes k n e) ∧ Below w.heap.size w w') (heb : decide (e = 0) = false) (K N : Int) (hix : ∀ w, @FcAt (fcV W h g) w → Calls Tryd.prog 9 #[h.v, .int .i64 m] w fun e w' => e = .returned (ixRes K N true) ∧ Below w.heap.size w w') (hl2 : LeafOk K N) (hl3 : LeafOk 1 (rnd m)) (hA : rightW 40 W h = false) (hA9 : rightW 39 W h = false) (hf1 : ((h.len : Int) == 0) = true) (hf2 : ((g.len : Int) == 0) = true) : Calls Tryd.prog 6 #[stayV op h g m] W fun e w' => e = .returned (.bool true) ∧ Below W.heap.size W w' := by
  letI fc : FC := fcV W h g
  exact @ex_valG (fcV W h g) _ ((kgOr (gk kn8) ((kgOr (kgSel (kgAt 24 [h.v] (.v (.bool true))) (kgAt 24 [g.v] (.v (.bool true)))) ((kgOr (kgAt 21 [.int .i64 op, h.v, g.v] (.t [.g [.y (.int .i64 k), .y (.int .i64 n), .v (.int .i64 0), .v (.slice none 0 0)], .y (.int .i64 e)])) ((kgOr (kgLeaf) ((kgOr (kgAt 9 [h.v, .int .i64 m] (.t [.g [.y (.int .i64 K), .y (.int .i64 N), .v (.int .i64 0), .v (.slice none 0 0)], .v (.bool true)])) ((kgOr (kgSel (kgAt 12 [h.v] (.v (.bool false))) (kgAt 12 [h.v] (.v (.bool false)))) (kgSel (kgPan 28 [h.v, .int .i64 2] (.iface 34 (.int .i64 1))) (kgPan 28 [h.v, .int .i64 2] (.iface 34 (.int .i64 1)))))))))))))))) ((kgOr_ok (gk_ok kn8F_ok) ((kgOr_ok (kgSel_ok (kgAt_ok (by simp [bd]) fun w1 hf => by
      have := shallow_is h w1 (vt_less hf.1.2.1.1)
      rw [hf.1.2.2.2.1, hs1] at this
      simpa [den] using this) (kgAt_ok (by simp [bd]) fun w1 hf => by
      have := shallow_is g w1 (vt_less hf.1.2.1.2)
      rw [hf.1.2.2.2.2, hs2] at this
      simpa [den] using this)) ((kgOr_ok (kgAt_ok (by simp [bd, bdL]) fun w1 hf => (hbin w1).mono fun e' w' ⟨he, hb⟩ => ⟨by rw [he]; simp [den, denL, bRes], hb⟩) ((kgOr_ok (kgLeaf_ok) ((kgOr_ok (kgAt_ok (by simp [bd, bdL]) fun w1 hf => (hix w1 hf).mono fun e' w' ⟨he, hb⟩ => ⟨by rw [he]; simp [den, denL, ixRes], hb⟩) ((kgOr_ok (kgSel_ok (kgAt_ok (by simp [bd]) fun w1 hf => by
      have := rr_is h w1 hf.1.2.1.1
      rw [hf.1.2.2.1.1, hA] at this
      simpa [den] using this) (kgAt_ok (by simp [bd]) fun w1 hf => by
      have := rr_is h w1 hf.1.2.1.1
      rw [hf.1.2.2.1.1, hA] at this
      simpa [den] using this)) (kgSel_ok (kgPan_ok fun w1 hf => by
      have := check_is 39 (by omega) h w1 (vt_less hf.1.2.1.1) 2 (by omega)
      rw [hf.1.2.2.1.2.1, hA9] at this
      exact this) (kgPan_ok fun w1 hf => by
      have := check_is 39 (by omega) h w1 (vt_less hf.1.2.1.1) 2 (by omega)
      rw [hf.1.2.2.1.2.1, hA9] at this
      exact this)))))))))))))) 100000 _ _ [staySV op h g m] [.bool true, .bool false, tw 6 42 (.bool false), .bool true, .bool true, .bool true, tw 6 97 (.bool true), tw 6 102 (.bool true), .bool true, .bool true, .bool true] _ [(h.v, h.v), (h.v, h.v), (.int .i64 2, .int .i64 2), (h.v, h.v), (.int .i64 2, .int .i64 2), (.bool ((g.len : Int) == 0), .bool true), (.bool ((h.len : Int) == 0), .bool true), (h.v, h.v), (.int .i64 2, .int .i64 2), (h.v, h.v), (.int .i64 2, .int .i64 2), (h.v, h.v), (.bool (ownB ⟨1, (rnd m), 0, none, 0, 0⟩), .bool true), (.bool (decide (I64 1)), .bool true), (.bool (decide (I64 ((rnd m)))), .bool true), (.bool (decide (I64 0)), .bool true), (.bool (ownB ⟨K, N, 0, none, 0, 0⟩), .bool true), (.bool (decide (I64 K)), .bool true), (.bool (decide (I64 (N))), .bool true), (.bool (decide (I64 0)), .bool true), (h.v, h.v), (.int .i64 m, .int .i64 m), (.bool (decide (e = 0)), .bool false), (.int .i64 op, .int .i64 op), (h.v, h.v), (g.v, g.v), (g.v, g.v), (h.v, h.v)] W (by kernel_rfl) (by simp [denL, den, staySV, stayV]) (by simp [bdL, bd, staySV]) (AllT.cons (rfl) (AllT.cons (rfl) (AllT.cons (rfl) (AllT.cons (rfl) (AllT.cons (rfl) (AllT.cons (by rw [hf2]) (AllT.cons (by rw [hf1]) (AllT.cons (rfl) (AllT.cons (rfl) (AllT.cons (rfl) (AllT.cons (rfl) (AllT.cons (rfl) (AllT.cons (hl3.1) (AllT.cons (hl3.2.1) (AllT.cons (hl3.2.2) (AllT.cons (rfl) (AllT.cons (hl2.1) (AllT.cons (hl2.2.1) (AllT.cons (hl2.2.2) (AllT.cons (rfl) (AllT.cons (rfl) (AllT.cons (rfl) (AllT.cons (by rw [heb]) (AllT.cons (rfl) (AllT.cons (rfl) (AllT.cons (rfl) (AllT.cons (rfl) (AllT.cons (rfl) (AllT.nil))))))))))))))))))))))))))))) (fcV_at kv kw)
set_option maxHeartbeats 8000000 in
theorem st_10_tt_ff_n (W : World) (op m : Int) (h g : VH) (kv : VT 40 W h) (kw : VT 40 W g) (hs1 : decide (countW 39 W h 60 ≤ 60) = true) (hs2 : decide (countW 39 W g 60 ≤ 60) = true) (k n e : Int) (hbin : ∀ w, Calls Tryd.prog 21 #[.int .i64 op, h.v, g.v] w fun e' w' => e' = .returned (bRes k n e) ∧ Below w.heap.size w w') (heb : decide (e = 0) = true) (hl1 : LeafOk k n) (K N : Int) (hix : ∀ w, @FcAt (fcV W h g) w → Calls Tryd.prog 9 #[h.v, .int .i64 m] w fun e w' => e = .returned (ixRes K N false) ∧ Below w.heap.size w w') (hl3 : LeafOk 1 (rnd m)) (hA : rightW 40 W h = true) (hA9 : rightW 39 W h = true) (hB : rightW 40 W g = false) (hB9 : rightW 39 W g = false) (hf1 : ((h.len : Int) == 0) = false) : Calls Tryd.prog 6 #[stayV op h g m] W fun e w' => e = .returned (.bool true) ∧ Below W.heap.size W w' := by
  letI fc : FC := fcV W h g
  exact @ex_valG (fcV W h g) _ ((kgOr (gk kn8) ((kgOr (kgSel (kgAt 24 [h.v] (.v (.bool true))) (kgAt 24 [g.v] (.v (.bool true)))) ((kgOr (kgAt 21 [.int .i64 op, h.v, g.v] (.t [.g [.y (.int .i64 k), .y (.int .i64 n), .v (.int .i64 0), .v (.slice none 0 0)], .y (.int .i64 e)])) ((kgOr (kgLeaf) ((kgOr (kgAt 9 [h.v, .int .i64 m] (.t [.g [.y (.int .i64 K), .y (.int .i64 N), .v (.int .i64 0), .v (.slice none 0 0)], .v (.bool false)])) ((kgOr (kgSel (kgAt 12 [h.v] (.v (.bool true))) (kgAt 12 [g.v] (.v (.bool false)))) (kgSel (kgAt 28 [h.v, .int .i64 2] (.v (.tuple #[]))) (kgPan 28 [g.v, .int .i64 2] (.iface 34 (.int .i64 1)))))))))))))))) ((kgOr_ok (gk_ok kn8F_ok) ((kgOr_ok (kgSel_ok (kgAt_ok (by simp [bd]) fun w1 hf => by
      have := shallow_is h w1 (vt_less hf.1.2.1.1)
      rw [hf.1.2.2.2.1, hs1] at this
      simpa [den] using this) (kgAt_ok (by simp [bd]) fun w1 hf => by
      have := shallow_is g w1 (vt_less hf.1.2.1.2)
      rw [hf.1.2.2.2.2, hs2] at this
      simpa [den] using this)) ((kgOr_ok (kgAt_ok (by simp [bd, bdL]) fun w1 hf => (hbin w1).mono fun e' w' ⟨he, hb⟩ => ⟨by rw [he]; simp [den, denL, bRes], hb⟩) ((kgOr_ok (kgLeaf_ok) ((kgOr_ok (kgAt_ok (by simp [bd, bdL]) fun w1 hf => (hix w1 hf).mono fun e' w' ⟨he, hb⟩ => ⟨by rw [he]; simp [den, denL, ixRes], hb⟩) ((kgOr_ok (kgSel_ok (kgAt_ok (by simp [bd]) fun w1 hf => by
      have := rr_is h w1 hf.1.2.1.1
      rw [hf.1.2.2.1.1, hA] at this
      simpa [den] using this) (kgAt_ok (by simp [bd]) fun w1 hf => by
      have := rr_is g w1 hf.1.2.1.2
      rw [hf.1.2.2.1.2.2.1, hB] at this
      simpa [den] using this)) (kgSel_ok (kgAt_ok (by simp [bd]) fun w1 hf => by
      have := check_is 39 (by omega) h w1 (vt_less hf.1.2.1.1) 2 (by omega)
      rw [hf.1.2.2.1.2.1, hA9] at this
      simpa [den, ckPost] using this) (kgPan_ok fun w1 hf => by
      have := check_is 39 (by omega) g w1 (vt_less hf.1.2.1.2) 2 (by omega)
      rw [hf.1.2.2.1.2.2.2, hB9] at this
      exact this)))))))))))))) 100000 _ _ [staySV op h g m] [.bool true, .bool false, tw 6 42 (.bool true), .bool true, .bool false, .bool true, .bool false, .bool true, .bool true, tw 6 97 (.bool false)] _ [(.bool ((h.len : Int) == 0), .bool false), (h.v, h.v), (h.v, h.v), (.int .i64 2, .int .i64 2), (g.v, g.v), (.int .i64 2, .int .i64 2), (h.v, h.v), (.int .i64 2, .int .i64 2), (g.v, g.v), (h.v, h.v), (.bool (ownB ⟨1, (rnd m), 0, none, 0, 0⟩), .bool true), (.bool (decide (I64 1)), .bool true), (.bool (decide (I64 ((rnd m)))), .bool true), (.bool (decide (I64 0)), .bool true), (h.v, h.v), (.int .i64 m, .int .i64 m), (.bool (ownB ⟨k, n, 0, none, 0, 0⟩), .bool true), (.bool (decide (I64 k)), .bool true), (.bool (decide (I64 (n))), .bool true), (.bool (decide (I64 0)), .bool true), (.bool (decide (e = 0)), .bool true), (.int .i64 op, .int .i64 op), (h.v, h.v), (g.v, g.v), (g.v, g.v), (h.v, h.v)] W (by kernel_rfl) (by simp [denL, den, staySV, stayV]) (by simp [bdL, bd, staySV]) (AllT.cons (by rw [hf1]) (AllT.cons (rfl) (AllT.cons (rfl) (AllT.cons (rfl) (AllT.cons (rfl) (AllT.cons (rfl) (AllT.cons (rfl) (AllT.cons (rfl) (AllT.cons (rfl) (AllT.cons (rfl) (AllT.cons (hl3.1) (AllT.cons (hl3.2.1) (AllT.cons (hl3.2.2) (AllT.cons (rfl) (AllT.cons (rfl) (AllT.cons (rfl) (AllT.cons (hl1.1) (AllT.cons (hl1.2.1) (AllT.cons (hl1.2.2) (AllT.cons (rfl) (AllT.cons (by rw [heb]) (AllT.cons (rfl) (AllT.cons (rfl) (AllT.cons (rfl) (AllT.cons (rfl) (AllT.cons (rfl) (AllT.nil))))))))))))))))))))))))))) (fcV_at kv kw)
set_option maxHeartbeats 8000000 in
theorem st_10_ft_f_p (W : World) (op m : Int) (h g : VH) (kv : VT 40 W h) (kw : VT 40 W g) (hs1 : decide (countW 39 W h 60 ≤ 60) = true) (hs2 : decide (countW 39 W g 60 ≤ 60) = true) (k n e : Int) (hbin : ∀ w, Calls Tryd.prog 21 #[.int .i64 op, h.v, g.v] w fun e' w' => e' = .returned (bRes k n e) ∧ Below w.heap.size w w') (heb : decide (e = 0) = true) (hl1 : LeafOk k n) (K N : Int) (hix : ∀ w, @FcAt (fcV W h g) w → Calls Tryd.prog 9 #[h.v, .int .i64 m] w fun e w' => e = .returned (ixRes K N false) ∧ Below w.heap.size w w') (hl3 : LeafOk 1 (rnd m)) (hA : rightW 40 W h = true) (hA9 : rightW 39 W h = false) (hB : rightW 40 W g = false) (hf1 : ((h.len : Int) == 0) = true) (hf2 : ((g.len : Int) == 0) = false) : Calls Tryd.prog 6 #[stayV op h g m] W fun e w' => e = .returned (.bool true) ∧ Below W.heap.size W w' := by
  letI fc : FC := fcV W h g
  exact @ex_valG (fcV W h g) _ ((kgOr (gk kn8) ((kgOr (kgSel (kgAt 24 [h.v] (.v (.bool true))) (kgAt 24 [g.v] (.v (.bool true)))) ((kgOr (kgAt 21 [.int .i64 op, h.v, g.v] (.t [.g [.y (.int .i64 k), .y (.int .i64 n), .v (.int .i64 0), .v (.slice none 0 0)], .y (.int .i64 e)])) ((kgOr (kgLeaf) ((kgOr (kgAt 9 [h.v, .int .i64 m] (.t [.g [.y (.int .i64 K), .y (.int .i64 N), .v (.int .i64 0), .v (.slice none 0 0)], .v (.bool false)])) ((kgOr (kgSel (kgAt 12 [h.v] (.v (.bool true))) (kgAt 12 [g.v] (.v (.bool false)))) (kgSel (kgPan 28 [h.v, .int .i64 2] (.iface 34 (.int .i64 1))) (kgPan 28 [h.v, .int .i64 2] (.iface 34 (.int .i64 1)))))))))))))))) ((kgOr_ok (gk_ok kn8F_ok) ((kgOr_ok (kgSel_ok (kgAt_ok (by simp [bd]) fun w1 hf => by
      have := shallow_is h w1 (vt_less hf.1.2.1.1)
      rw [hf.1.2.2.2.1, hs1] at this
      simpa [den] using this) (kgAt_ok (by simp [bd]) fun w1 hf => by
      have := shallow_is g w1 (vt_less hf.1.2.1.2)
      rw [hf.1.2.2.2.2, hs2] at this
      simpa [den] using this)) ((kgOr_ok (kgAt_ok (by simp [bd, bdL]) fun w1 hf => (hbin w1).mono fun e' w' ⟨he, hb⟩ => ⟨by rw [he]; simp [den, denL, bRes], hb⟩) ((kgOr_ok (kgLeaf_ok) ((kgOr_ok (kgAt_ok (by simp [bd, bdL]) fun w1 hf => (hix w1 hf).mono fun e' w' ⟨he, hb⟩ => ⟨by rw [he]; simp [den, denL, ixRes], hb⟩) ((kgOr_ok (kgSel_ok (kgAt_ok (by simp [bd]) fun w1 hf => by
      have := rr_is h w1 hf.1.2.1.1
      rw [hf.1.2.2.1.1, hA] at this
      simpa [den] using this) (kgAt_ok (by simp [bd]) fun w1 hf => by
      have := rr_is g w1 hf.1.2.1.2
      rw [hf.1.2.2.1.2.2.1, hB] at this
      simpa [den] using this)) (kgSel_ok (kgPan_ok fun w1 hf => by
      have := check_is 39 (by omega) h w1 (vt_less hf.1.2.1.1) 2 (by omega)
      rw [hf.1.2.2.1.2.1, hA9] at this
      exact this) (kgPan_ok fun w1 hf => by
      have := check_is 39 (by omega) h w1 (vt_less hf.1.2.1.1) 2 (by omega)
      rw [hf.1.2.2.1.2.1, hA9] at this
      exact this)))))))))))))) 100000 _ _ [staySV op h g m] [.bool true, .bool false, tw 6 42 (.bool true), .bool true, .bool false, .bool true, .bool true, tw 6 97 (.bool true), tw 6 102 (.bool false)] _ [(.bool ((g.len : Int) == 0), .bool false), (.bool ((h.len : Int) == 0), .bool true), (h.v, h.v), (.int .i64 2, .int .i64 2), (h.v, h.v), (.int .i64 2, .int .i64 2), (g.v, g.v), (h.v, h.v), (.bool (ownB ⟨1, (rnd m), 0, none, 0, 0⟩), .bool true), (.bool (decide (I64 1)), .bool true), (.bool (decide (I64 ((rnd m)))), .bool true), (.bool (decide (I64 0)), .bool true), (h.v, h.v), (.int .i64 m, .int .i64 m), (.bool (ownB ⟨k, n, 0, none, 0, 0⟩), .bool true), (.bool (decide (I64 k)), .bool true), (.bool (decide (I64 (n))), .bool true), (.bool (decide (I64 0)), .bool true), (.bool (decide (e = 0)), .bool true), (.int .i64 op, .int .i64 op), (h.v, h.v), (g.v, g.v), (g.v, g.v), (h.v, h.v)] W (by kernel_rfl) (by simp [denL, den, staySV, stayV]) (by simp [bdL, bd, staySV]) (AllT.cons (by rw [hf2]) (AllT.cons (by rw [hf1]) (AllT.cons (rfl) (AllT.cons (rfl) (AllT.cons (rfl) (AllT.cons (rfl) (AllT.cons (rfl) (AllT.cons (rfl) (AllT.cons (hl3.1) (AllT.cons (hl3.2.1) (AllT.cons (hl3.2.2) (AllT.cons (rfl) (AllT.cons (rfl) (AllT.cons (rfl) (AllT.cons (hl1.1) (AllT.cons (hl1.2.1) (AllT.cons (hl1.2.2) (AllT.cons (rfl) (AllT.cons (by rw [heb]) (AllT.cons (rfl) (AllT.cons (rfl) (AllT.cons (rfl) (AllT.cons (rfl) (AllT.cons (rfl) (AllT.nil))))))))))))))))))))))))) (fcV_at kv kw)
set_option maxHeartbeats 8000000 in
theorem st_11_tt_tt_y (W : World) (op m : Int) (h g : VH) (kv : VT 40 W h) (kw : VT 40 W g) (hs1 : decide (countW 39 W h 60 ≤ 60) = true) (hs2 : decide (countW 39 W g 60 ≤ 60) = true) (k n e : Int) (hbin : ∀ w, Calls Tryd.prog 21 #[.int .i64 op, h.v, g.v] w fun e' w' => e' = .returned (bRes k n e) ∧ Below w.heap.size w w') (heb : decide (e = 0) = true) (hl1 : LeafOk k n) (K N : Int) (hix : ∀ w, @FcAt (fcV W h g) w → Calls Tryd.prog 9 #[h.v, .int .i64 m] w fun e w' => e = .returned (ixRes K N true) ∧ Below w.heap.size w w') (hl2 : LeafOk K N) (hl3 : LeafOk 1 (rnd m)) (hA : rightW 40 W h = true) (hA9 : rightW 39 W h = true) (hB : rightW 40 W g = true) (hB9 : rightW 39 W g = true) (hf1 : ((h.len : Int) == 0) = true) (hf2 : ((g.len : Int) == 0) = true) : Calls Tryd.prog 6 #[stayV op h g m] W fun e w' => e = .returned (.bool true) ∧ Below W.heap.size W w' := by
  letI fc : FC := fcV W h g
  exact @ex_valG (fcV W h g) _ ((kgOr (gk kn8) ((kgOr (kgSel (kgAt 24 [h.v] (.v (.bool true))) (kgAt 24 [g.v] (.v (.bool true)))) ((kgOr (kgAt 21 [.int .i64 op, h.v, g.v] (.t [.g [.y (.int .i64 k), .y (.int .i64 n), .v (.int .i64 0), .v (.slice none 0 0)], .y (.int .i64 e)])) ((kgOr (kgLeaf) ((kgOr (kgAt 9 [h.v, .int .i64 m] (.t [.g [.y (.int .i64 K), .y (.int .i64 N), .v (.int .i64 0), .v (.slice none 0 0)], .v (.bool true)])) ((kgOr (kgSel (kgAt 12 [h.v] (.v (.bool true))) (kgAt 12 [g.v] (.v (.bool true)))) (kgSel (kgAt 28 [h.v, .int .i64 2] (.v (.tuple #[]))) (kgAt 28 [g.v, .int .i64 2] (.v (.tuple #[])))))))))))))))) ((kgOr_ok (gk_ok kn8F_ok) ((kgOr_ok (kgSel_ok (kgAt_ok (by simp [bd]) fun w1 hf => by
      have := shallow_is h w1 (vt_less hf.1.2.1.1)
      rw [hf.1.2.2.2.1, hs1] at this
      simpa [den] using this) (kgAt_ok (by simp [bd]) fun w1 hf => by
      have := shallow_is g w1 (vt_less hf.1.2.1.2)
      rw [hf.1.2.2.2.2, hs2] at this
      simpa [den] using this)) ((kgOr_ok (kgAt_ok (by simp [bd, bdL]) fun w1 hf => (hbin w1).mono fun e' w' ⟨he, hb⟩ => ⟨by rw [he]; simp [den, denL, bRes], hb⟩) ((kgOr_ok (kgLeaf_ok) ((kgOr_ok (kgAt_ok (by simp [bd, bdL]) fun w1 hf => (hix w1 hf).mono fun e' w' ⟨he, hb⟩ => ⟨by rw [he]; simp [den, denL, ixRes], hb⟩) ((kgOr_ok (kgSel_ok (kgAt_ok (by simp [bd]) fun w1 hf => by
      have := rr_is h w1 hf.1.2.1.1
      rw [hf.1.2.2.1.1, hA] at this
      simpa [den] using this) (kgAt_ok (by simp [bd]) fun w1 hf => by
      have := rr_is g w1 hf.1.2.1.2
      rw [hf.1.2.2.1.2.2.1, hB] at this
      simpa [den] using this)) (kgSel_ok (kgAt_ok (by simp [bd]) fun w1 hf => by
      have := check_is 39 (by omega) h w1 (vt_less hf.1.2.1.1) 2 (by omega)
      rw [hf.1.2.2.1.2.1, hA9] at this
      simpa [den, ckPost] using this) (kgAt_ok (by simp [bd]) fun w1 hf => by
      have := check_is 39 (by omega) g w1 (vt_less hf.1.2.1.2) 2 (by omega)
      rw [hf.1.2.2.1.2.2.2, hB9] at this
      simpa [den, ckPost] using this)))))))))))))) 100000 _ _ [staySV op h g m] [.bool true, .bool false, tw 6 42 (.bool true), .bool true, .bool false, .bool true, .bool false, .bool true, .bool true, tw 6 97 (.bool true), tw 6 102 (.bool true), .bool true, .bool false, .bool true, .bool true] _ [(h.v, h.v), (h.v, h.v), (.int .i64 2, .int .i64 2), (g.v, g.v), (.int .i64 2, .int .i64 2), (h.v, h.v), (.int .i64 2, .int .i64 2), (.bool ((g.len : Int) == 0), .bool true), (.bool ((h.len : Int) == 0), .bool true), (h.v, h.v), (h.v, h.v), (.int .i64 2, .int .i64 2), (g.v, g.v), (.int .i64 2, .int .i64 2), (h.v, h.v), (.int .i64 2, .int .i64 2), (g.v, g.v), (h.v, h.v), (.bool (ownB ⟨1, (rnd m), 0, none, 0, 0⟩), .bool true), (.bool (decide (I64 1)), .bool true), (.bool (decide (I64 ((rnd m)))), .bool true), (.bool (decide (I64 0)), .bool true), (.bool (ownB ⟨K, N, 0, none, 0, 0⟩), .bool true), (.bool (decide (I64 K)), .bool true), (.bool (decide (I64 (N))), .bool true), (.bool (decide (I64 0)), .bool true), (h.v, h.v), (.int .i64 m, .int .i64 m), (.bool (ownB ⟨k, n, 0, none, 0, 0⟩), .bool true), (.bool (decide (I64 k)), .bool true), (.bool (decide (I64 (n))), .bool true), (.bool (decide (I64 0)), .bool true), (.bool (decide (e = 0)), .bool true), (.int .i64 op, .int .i64 op), (h.v, h.v), (g.v, g.v), (g.v, g.v), (h.v, h.v)] W (by kernel_rfl) (by simp [denL, den, staySV, stayV]) (by simp [bdL, bd, staySV]) (AllT.cons (rfl) (AllT.cons (rfl) (AllT.cons (rfl) (AllT.cons (rfl) (AllT.cons (rfl) (AllT.cons (rfl) (AllT.cons (rfl) (AllT.cons (by rw [hf2]) (AllT.cons (by rw [hf1]) (AllT.cons (rfl) (AllT.cons (rfl) (AllT.cons (rfl) (AllT.cons (rfl) (AllT.cons (rfl) (AllT.cons (rfl) (AllT.cons (rfl) (AllT.cons (rfl) (AllT.cons (rfl) (AllT.cons (hl3.1) (AllT.cons (hl3.2.1) (AllT.cons (hl3.2.2) (AllT.cons (rfl) (AllT.cons (hl2.1) (AllT.cons (hl2.2.1) (AllT.cons (hl2.2.2) (AllT.cons (rfl) (AllT.cons (rfl) (AllT.cons (rfl) (AllT.cons (hl1.1) (AllT.cons (hl1.2.1) (AllT.cons (hl1.2.2) (AllT.cons (rfl) (AllT.cons (by rw [heb]) (AllT.cons (rfl) (AllT.cons (rfl) (AllT.cons (rfl) (AllT.cons (rfl) (AllT.cons (rfl) (AllT.nil))))))))))))))))))))))))))))))))))))))) (fcV_at kv kw)
set_option maxHeartbeats 8000000 in
theorem st_11_ft_t_n (W : World) (op m : Int) (h g : VH) (kv : VT 40 W h) (kw : VT 40 W g) (hs1 : decide (countW 39 W h 60 ≤ 60) = true) (hs2 : decide (countW 39 W g 60 ≤ 60) = true) (k n e : Int) (hbin : ∀ w, Calls Tryd.prog 21 #[.int .i64 op, h.v, g.v] w fun e' w' => e' = .returned (bRes k n e) ∧ Below w.heap.size w w') (heb : decide (e = 0) = true) (hl1 : LeafOk k n) (K N : Int) (hix : ∀ w, @FcAt (fcV W h g) w → Calls Tryd.prog 9 #[h.v, .int .i64 m] w fun e w' => e = .returned (ixRes K N true) ∧ Below w.heap.size w w') (hl2 : LeafOk K N) (hl3 : LeafOk 1 (rnd m)) (hA : rightW 40 W h = true) (hA9 : rightW 39 W h = false) (hB : rightW 40 W g = true) (hf1 : ((h.len : Int) == 0) = false) : Calls Tryd.prog 6 #[stayV op h g m] W fun e w' => e = .returned (.bool true) ∧ Below W.heap.size W w' := by
  letI fc : FC := fcV W h g
  exact @ex_valG (fcV W h g) _ ((kgOr (gk kn8) ((kgOr (kgSel (kgAt 24 [h.v] (.v (.bool true))) (kgAt 24 [g.v] (.v (.bool true)))) ((kgOr (kgAt 21 [.int .i64 op, h.v, g.v] (.t [.g [.y (.int .i64 k), .y (.int .i64 n), .v (.int .i64 0), .v (.slice none 0 0)], .y (.int .i64 e)])) ((kgOr (kgLeaf) ((kgOr (kgAt 9 [h.v, .int .i64 m] (.t [.g [.y (.int .i64 K), .y (.int .i64 N), .v (.int .i64 0), .v (.slice none 0 0)], .v (.bool true)])) ((kgOr (kgSel (kgAt 12 [h.v] (.v (.bool true))) (kgAt 12 [g.v] (.v (.bool true)))) (kgSel (kgPan 28 [h.v, .int .i64 2] (.iface 34 (.int .i64 1))) (kgPan 28 [h.v, .int .i64 2] (.iface 34 (.int .i64 1)))))))))))))))) ((kgOr_ok (gk_ok kn8F_ok) ((kgOr_ok (kgSel_ok (kgAt_ok (by simp [bd]) fun w1 hf => by
      have := shallow_is h w1 (vt_less hf.1.2.1.1)
      rw [hf.1.2.2.2.1, hs1] at this
      simpa [den] using this) (kgAt_ok (by simp [bd]) fun w1 hf => by
      have := shallow_is g w1 (vt_less hf.1.2.1.2)
      rw [hf.1.2.2.2.2, hs2] at this
      simpa [den] using this)) ((kgOr_ok (kgAt_ok (by simp [bd, bdL]) fun w1 hf => (hbin w1).mono fun e' w' ⟨he, hb⟩ => ⟨by rw [he]; simp [den, denL, bRes], hb⟩) ((kgOr_ok (kgLeaf_ok) ((kgOr_ok (kgAt_ok (by simp [bd, bdL]) fun w1 hf => (hix w1 hf).mono fun e' w' ⟨he, hb⟩ => ⟨by rw [he]; simp [den, denL, ixRes], hb⟩) ((kgOr_ok (kgSel_ok (kgAt_ok (by simp [bd]) fun w1 hf => by
      have := rr_is h w1 hf.1.2.1.1
      rw [hf.1.2.2.1.1, hA] at this
      simpa [den] using this) (kgAt_ok (by simp [bd]) fun w1 hf => by
      have := rr_is g w1 hf.1.2.1.2
      rw [hf.1.2.2.1.2.2.1, hB] at this
      simpa [den] using this)) (kgSel_ok (kgPan_ok fun w1 hf => by
      have := check_is 39 (by omega) h w1 (vt_less hf.1.2.1.1) 2 (by omega)
      rw [hf.1.2.2.1.2.1, hA9] at this
      exact this) (kgPan_ok fun w1 hf => by
      have := check_is 39 (by omega) h w1 (vt_less hf.1.2.1.1) 2 (by omega)
      rw [hf.1.2.2.1.2.1, hA9] at this
      exact this)))))))))))))) 100000 _ _ [staySV op h g m] [.bool true, .bool false, tw 6 42 (.bool true), .bool true, .bool false, .bool true, .bool true, tw 6 97 (.bool false)] _ [(.bool ((h.len : Int) == 0), .bool false), (h.v, h.v), (.int .i64 2, .int .i64 2), (h.v, h.v), (.int .i64 2, .int .i64 2), (g.v, g.v), (h.v, h.v), (.bool (ownB ⟨1, (rnd m), 0, none, 0, 0⟩), .bool true), (.bool (decide (I64 1)), .bool true), (.bool (decide (I64 ((rnd m)))), .bool true), (.bool (decide (I64 0)), .bool true), (.bool (ownB ⟨K, N, 0, none, 0, 0⟩), .bool true), (.bool (decide (I64 K)), .bool true), (.bool (decide (I64 (N))), .bool true), (.bool (decide (I64 0)), .bool true), (h.v, h.v), (.int .i64 m, .int .i64 m), (.bool (ownB ⟨k, n, 0, none, 0, 0⟩), .bool true), (.bool (decide (I64 k)), .bool true), (.bool (decide (I64 (n))), .bool true), (.bool (decide (I64 0)), .bool true), (.bool (decide (e = 0)), .bool true), (.int .i64 op, .int .i64 op), (h.v, h.v), (g.v, g.v), (g.v, g.v), (h.v, h.v)] W (by kernel_rfl) (by simp [denL, den, staySV, stayV]) (by simp [bdL, bd, staySV]) (AllT.cons (by rw [hf1]) (AllT.cons (rfl) (AllT.cons (rfl) (AllT.cons (rfl) (AllT.cons (rfl) (AllT.cons (rfl) (AllT.cons (rfl) (AllT.cons (hl3.1) (AllT.cons (hl3.2.1) (AllT.cons (hl3.2.2) (AllT.cons (rfl) (AllT.cons (hl2.1) (AllT.cons (hl2.2.1) (AllT.cons (hl2.2.2) (AllT.cons (rfl) (AllT.cons (rfl) (AllT.cons (rfl) (AllT.cons (hl1.1) (AllT.cons (hl1.2.1) (AllT.cons (hl1.2.2) (AllT.cons (rfl) (AllT.cons (by rw [heb]) (AllT.cons (rfl) (AllT.cons (rfl) (AllT.cons (rfl) (AllT.cons (rfl) (AllT.cons (rfl) (AllT.nil)))))))))))))))))))))))))))) (fcV_at kv kw)
set_option maxHeartbeats 8000000 in
theorem st_11_ff_y (W : World) (op m : Int) (h g : VH) (kv : VT 40 W h) (kw : VT 40 W g) (hs1 : decide (countW 39 W h 60 ≤ 60) = true) (hs2 : decide (countW 39 W g 60 ≤ 60) = true) (k n e : Int) (hbin : ∀ w, Calls Tryd.prog 21 #[.int .i64 op, h.v, g.v] w fun e' w' => e' = .returned (bRes k n e) ∧ Below w.heap.size w w') (heb : decide (e = 0) = true) (hl1 : LeafOk k n) (K N : Int) (hix : ∀ w, @FcAt (fcV W h g) w → Calls Tryd.prog 9 #[h.v, .int .i64 m] w fun e w' => e = .returned (ixRes K N true) ∧ Below w.heap.size w w') (hl2 : LeafOk K N) (hl3 : LeafOk 1 (rnd m)) (hA : rightW 40 W h = false) (hA9 : rightW 39 W h = false) (hf1 : ((h.len : Int) == 0) = true) (hf2 : ((g.len : Int) == 0) = true) : Calls Tryd.prog 6 #[stayV op h g m] W fun e w' => e = .returned (.bool true) ∧ Below W.heap.size W w' := by
  letI fc : FC := fcV W h g
  exact @ex_valG (fcV W h g) _ ((kgOr (gk kn8) ((kgOr (kgSel (kgAt 24 [h.v] (.v (.bool true))) (kgAt 24 [g.v] (.v (.bool true)))) ((kgOr (kgAt 21 [.int .i64 op, h.v, g.v] (.t [.g [.y (.int .i64 k), .y (.int .i64 n), .v (.int .i64 0), .v (.slice none 0 0)], .y (.int .i64 e)])) ((kgOr (kgLeaf) ((kgOr (kgAt 9 [h.v, .int .i64 m] (.t [.g [.y (.int .i64 K), .y (.int .i64 N), .v (.int .i64 0), .v (.slice none 0 0)], .v (.bool true)])) ((kgOr (kgSel (kgAt 12 [h.v] (.v (.bool false))) (kgAt 12 [h.v] (.v (.bool false)))) (kgSel (kgPan 28 [h.v, .int .i64 2] (.iface 34 (.int .i64 1))) (kgPan 28 [h.v, .int .i64 2] (.iface 34 (.int .i64 1)))))))))))))))) ((kgOr_ok (gk_ok kn8F_ok) ((kgOr_ok (kgSel_ok (kgAt_ok (by simp [bd]) fun w1 hf => by
      have := shallow_is h w1 (vt_less hf.1.2.1.1)
      rw [hf.1.2.2.2.1, hs1] at this
      simpa [den] using this) (kgAt_ok (by simp [bd]) fun w1 hf => by
      have := shallow_is g w1 (vt_less hf.1.2.1.2)
      rw [hf.1.2.2.2.2, hs2] at this
      simpa [den] using this)) ((kgOr_ok (kgAt_ok (by simp [bd, bdL]) fun w1 hf => (hbin w1).mono fun e' w' ⟨he, hb⟩ => ⟨by rw [he]; simp [den, denL, bRes], hb⟩) ((kgOr_ok (kgLeaf_ok) ((kgOr_ok (kgAt_ok (by simp [bd, bdL]) fun w1 hf => (hix w1 hf).mono fun e' w' ⟨he, hb⟩ => ⟨by rw [he]; simp [den, denL, ixRes], hb⟩) ((kgOr_ok (kgSel_ok (kgAt_ok (by simp [bd]) fun w1 hf => by
      have := rr_is h w1 hf.1.2.1.1
      rw [hf.1.2.2.1.1, hA] at this
      simpa [den] using this) (kgAt_ok (by simp [bd]) fun w1 hf => by
      have := rr_is h w1 hf.1.2.1.1
      rw [hf.1.2.2.1.1, hA] at this
      simpa [den] using this)) (kgSel_ok (kgPan_ok fun w1 hf => by
      have := check_is 39 (by omega) h w1 (vt_less hf.1.2.1.1) 2 (by omega)
      rw [hf.1.2.2.1.2.1, hA9] at this
      exact this) (kgPan_ok fun w1 hf => by
      have := check_is 39 (by omega) h w1 (vt_less hf.1.2.1.1) 2 (by omega)
      rw [hf.1.2.2.1.2.1, hA9] at this
      exact this)))))))))))))) 100000 _ _ [staySV op h g m] [.bool true, .bool false, tw 6 42 (.bool true), .bool true, .bool true, .bool true, tw 6 97 (.bool true), tw 6 102 (.bool true), .bool true, .bool true, .bool true] _ [(h.v, h.v), (h.v, h.v), (.int .i64 2, .int .i64 2), (h.v, h.v), (.int .i64 2, .int .i64 2), (.bool ((g.len : Int) == 0), .bool true), (.bool ((h.len : Int) == 0), .bool true), (h.v, h.v), (.int .i64 2, .int .i64 2), (h.v, h.v), (.int .i64 2, .int .i64 2), (h.v, h.v), (.bool (ownB ⟨1, (rnd m), 0, none, 0, 0⟩), .bool true), (.bool (decide (I64 1)), .bool true), (.bool (decide (I64 ((rnd m)))), .bool true), (.bool (decide (I64 0)), .bool true), (.bool (ownB ⟨K, N, 0, none, 0, 0⟩), .bool true), (.bool (decide (I64 K)), .bool true), (.bool (decide (I64 (N))), .bool true), (.bool (decide (I64 0)), .bool true), (h.v, h.v), (.int .i64 m, .int .i64 m), (.bool (ownB ⟨k, n, 0, none, 0, 0⟩), .bool true), (.bool (decide (I64 k)), .bool true), (.bool (decide (I64 (n))), .bool true), (.bool (decide (I64 0)), .bool true), (.bool (decide (e = 0)), .bool true), (.int .i64 op, .int .i64 op), (h.v, h.v), (g.v, g.v), (g.v, g.v), (h.v, h.v)] W (by kernel_rfl) (by simp [denL, den, staySV, stayV]) (by simp [bdL, bd, staySV]) (AllT.cons (rfl) (AllT.cons (rfl) (AllT.cons (rfl) (AllT.cons (rfl) (AllT.cons (rfl) (AllT.cons (by rw [hf2]) (AllT.cons (by rw [hf1]) (AllT.cons (rfl) (AllT.cons (rfl) (AllT.cons (rfl) (AllT.cons (rfl) (AllT.cons (rfl) (AllT.cons (hl3.1) (AllT.cons (hl3.2.1) (AllT.cons (hl3.2.2) (AllT.cons (rfl) (AllT.cons (hl2.1) (AllT.cons (hl2.2.1) (AllT.cons (hl2.2.2) (AllT.cons (rfl) (AllT.cons (rfl) (AllT.cons (rfl) (AllT.cons (hl1.1) (AllT.cons (hl1.2.1) (AllT.cons (hl1.2.2) (AllT.cons (rfl) (AllT.cons (by rw [heb]) (AllT.cons (rfl) (AllT.cons (rfl) (AllT.cons (rfl) (AllT.cons (rfl) (AllT.cons (rfl) (AllT.nil))))))))))))))))))))))))))))))))) (fcV_at kv kw)
end Go.Proofs.YtoijdnlplbeomaaDoor


/-
  Layer 8: runs of ValueStaysValid, part 4.
-/
namespace Go.Proofs.YtoijdnlplbeomaaDoor
open Go Go.RowKit EX
set_option maxRecDepth 100000
set_option linter.unusedVariables false
set_option linter.unusedSimpArgs false
set_option linter.unusedSectionVars false
set_option maxHeartbeats 8000000 in
theorem st_00_tt_tt_n (W : World) (op m : Int) (h g : VH) (kv : VT 40 W h) (kw : VT 40 W g) (hs1 : decide (countW 39 W h 60 ≤ 60) = true) (hs2 : decide (countW 39 W g 60 ≤ 60) = true) (k n e : Int) (hbin : ∀ w, Calls Tryd.prog 21 #[.int .i64 op, h.v, g.v] w fun e' w' => e' = .returned (bRes k n e) ∧ Below w.heap.size w w') (heb : decide (e = 0) = false) (K N : Int) (hix : ∀ w, @FcAt (fcV W h g) w → Calls Tryd.prog 9 #[h.v, .int .i64 m] w fun e w' => e = .returned (ixRes K N false) ∧ Below w.heap.size w w') (hl3 : LeafOk 1 (rnd m)) (hA : rightW 40 W h = true) (hA9 : rightW 39 W h = true) (hB : rightW 40 W g = true) (hB9 : rightW 39 W g = true) (hf1 : ((h.len : Int) == 0) = false) : Calls Tryd.prog 6 #[stayV op h g m] W fun e w' => e = .returned (.bool true) ∧ Below W.heap.size W w' := by
  letI fc : FC := fcV W h g
  exact @ex_valG (fcV W h g) _ ((kgOr (gk kn8) ((kgOr (kgSel (kgAt 24 [h.v] (.v (.bool true))) (kgAt 24 [g.v] (.v (.bool true)))) ((kgOr (kgAt 21 [.int .i64 op, h.v, g.v] (.t [.g [.y (.int .i64 k), .y (.int .i64 n), .v (.int .i64 0), .v (.slice none 0 0)], .y (.int .i64 e)])) ((kgOr (kgLeaf) ((kgOr (kgAt 9 [h.v, .int .i64 m] (.t [.g [.y (.int .i64 K), .y (.int .i64 N), .v (.int .i64 0), .v (.slice none 0 0)], .v (.bool false)])) ((kgOr (kgSel (kgAt 12 [h.v] (.v (.bool true))) (kgAt 12 [g.v] (.v (.bool true)))) (kgSel (kgAt 28 [h.v, .int .i64 2] (.v (.tuple #[]))) (kgAt 28 [g.v, .int .i64 2] (.v (.tuple #[])))))))))))))))) ((kgOr_ok (gk_ok kn8F_ok) ((kgOr_ok (kgSel_ok (kgAt_ok (by simp [bd]) fun w1 hf => by
      have := shallow_is h w1 (vt_less hf.1.2.1.1)
      rw [hf.1.2.2.2.1, hs1] at this
      simpa [den] using this) (kgAt_ok (by simp [bd]) fun w1 hf => by
      have := shallow_is g w1 (vt_less hf.1.2.1.2)
      rw [hf.1.2.2.2.2, hs2] at this
      simpa [den] using this)) ((kgOr_ok (kgAt_ok (by simp [bd, bdL]) fun w1 hf => (hbin w1).mono fun e' w' ⟨he, hb⟩ => ⟨by rw [he]; simp [den, denL, bRes], hb⟩) ((kgOr_ok (kgLeaf_ok) ((kgOr_ok (kgAt_ok (by simp [bd, bdL]) fun w1 hf => (hix w1 hf).mono fun e' w' ⟨he, hb⟩ => ⟨by rw [he]; simp [den, denL, ixRes], hb⟩) ((kgOr_ok (kgSel_ok (kgAt_ok (by simp [bd]) fun w1 hf => by
      have := rr_is h w1 hf.1.2.1.1
      rw [hf.1.2.2.1.1, hA] at this
      simpa [den] using this) (kgAt_ok (by simp [bd]) fun w1 hf => by
      have := rr_is g w1 hf.1.2.1.2
      rw [hf.1.2.2.1.2.2.1, hB] at this
      simpa [den] using this)) (kgSel_ok (kgAt_ok (by simp [bd]) fun w1 hf => by
      have := check_is 39 (by omega) h w1 (vt_less hf.1.2.1.1) 2 (by omega)
      rw [hf.1.2.2.1.2.1, hA9] at this
      simpa [den, ckPost] using this) (kgAt_ok (by simp [bd]) fun w1 hf => by
      have := check_is 39 (by omega) g w1 (vt_less hf.1.2.1.2) 2 (by omega)
      rw [hf.1.2.2.1.2.2.2, hB9] at this
      simpa [den, ckPost] using this)))))))))))))) 100000 _ _ [staySV op h g m] [.bool true, .bool false, tw 6 42 (.bool false), .bool true, .bool false, .bool true, .bool false, .bool true, .bool true, tw 6 97 (.bool false)] _ [(.bool ((h.len : Int) == 0), .bool false), (h.v, h.v), (h.v, h.v), (.int .i64 2, .int .i64 2), (g.v, g.v), (.int .i64 2, .int .i64 2), (h.v, h.v), (.int .i64 2, .int .i64 2), (g.v, g.v), (h.v, h.v), (.bool (ownB ⟨1, (rnd m), 0, none, 0, 0⟩), .bool true), (.bool (decide (I64 1)), .bool true), (.bool (decide (I64 ((rnd m)))), .bool true), (.bool (decide (I64 0)), .bool true), (h.v, h.v), (.int .i64 m, .int .i64 m), (.bool (decide (e = 0)), .bool false), (.int .i64 op, .int .i64 op), (h.v, h.v), (g.v, g.v), (g.v, g.v), (h.v, h.v)] W (by kernel_rfl) (by simp [denL, den, staySV, stayV]) (by simp [bdL, bd, staySV]) (AllT.cons (by rw [hf1]) (AllT.cons (rfl) (AllT.cons (rfl) (AllT.cons (rfl) (AllT.cons (rfl) (AllT.cons (rfl) (AllT.cons (rfl) (AllT.cons (rfl) (AllT.cons (rfl) (AllT.cons (rfl) (AllT.cons (hl3.1) (AllT.cons (hl3.2.1) (AllT.cons (hl3.2.2) (AllT.cons (rfl) (AllT.cons (rfl) (AllT.cons (rfl) (AllT.cons (by rw [heb]) (AllT.cons (rfl) (AllT.cons (rfl) (AllT.cons (rfl) (AllT.cons (rfl) (AllT.cons (rfl) (AllT.nil))))))))))))))))))))))) (fcV_at kv kw)
set_option maxHeartbeats 8000000 in
theorem st_00_tt_ff_p (W : World) (op m : Int) (h g : VH) (kv : VT 40 W h) (kw : VT 40 W g) (hs1 : decide (countW 39 W h 60 ≤ 60) = true) (hs2 : decide (countW 39 W g 60 ≤ 60) = true) (k n e : Int) (hbin : ∀ w, Calls Tryd.prog 21 #[.int .i64 op, h.v, g.v] w fun e' w' => e' = .returned (bRes k n e) ∧ Below w.heap.size w w') (heb : decide (e = 0) = false) (K N : Int) (hix : ∀ w, @FcAt (fcV W h g) w → Calls Tryd.prog 9 #[h.v, .int .i64 m] w fun e w' => e = .returned (ixRes K N false) ∧ Below w.heap.size w w') (hl3 : LeafOk 1 (rnd m)) (hA : rightW 40 W h = true) (hA9 : rightW 39 W h = true) (hB : rightW 40 W g = false) (hB9 : rightW 39 W g = false) (hf1 : ((h.len : Int) == 0) = true) (hf2 : ((g.len : Int) == 0) = false) : Calls Tryd.prog 6 #[stayV op h g m] W fun e w' => e = .returned (.bool true) ∧ Below W.heap.size W w' := by
  letI fc : FC := fcV W h g
  exact @ex_valG (fcV W h g) _ ((kgOr (gk kn8) ((kgOr (kgSel (kgAt 24 [h.v] (.v (.bool true))) (kgAt 24 [g.v] (.v (.bool true)))) ((kgOr (kgAt 21 [.int .i64 op, h.v, g.v] (.t [.g [.y (.int .i64 k), .y (.int .i64 n), .v (.int .i64 0), .v (.slice none 0 0)], .y (.int .i64 e)])) ((kgOr (kgLeaf) ((kgOr (kgAt 9 [h.v, .int .i64 m] (.t [.g [.y (.int .i64 K), .y (.int .i64 N), .v (.int .i64 0), .v (.slice none 0 0)], .v (.bool false)])) ((kgOr (kgSel (kgAt 12 [h.v] (.v (.bool true))) (kgAt 12 [g.v] (.v (.bool false)))) (kgSel (kgAt 28 [h.v, .int .i64 2] (.v (.tuple #[]))) (kgPan 28 [g.v, .int .i64 2] (.iface 34 (.int .i64 1)))))))))))))))) ((kgOr_ok (gk_ok kn8F_ok) ((kgOr_ok (kgSel_ok (kgAt_ok (by simp [bd]) fun w1 hf => by
      have := shallow_is h w1 (vt_less hf.1.2.1.1)
      rw [hf.1.2.2.2.1, hs1] at this
      simpa [den] using this) (kgAt_ok (by simp [bd]) fun w1 hf => by
      have := shallow_is g w1 (vt_less hf.1.2.1.2)
      rw [hf.1.2.2.2.2, hs2] at this
      simpa [den] using this)) ((kgOr_ok (kgAt_ok (by simp [bd, bdL]) fun w1 hf => (hbin w1).mono fun e' w' ⟨he, hb⟩ => ⟨by rw [he]; simp [den, denL, bRes], hb⟩) ((kgOr_ok (kgLeaf_ok) ((kgOr_ok (kgAt_ok (by simp [bd, bdL]) fun w1 hf => (hix w1 hf).mono fun e' w' ⟨he, hb⟩ => ⟨by rw [he]; simp [den, denL, ixRes], hb⟩) ((kgOr_ok (kgSel_ok (kgAt_ok (by simp [bd]) fun w1 hf => by
      have := rr_is h w1 hf.1.2.1.1
      rw [hf.1.2.2.1.1, hA] at this
      simpa [den] using this) (kgAt_ok (by simp [bd]) fun w1 hf => by
      have := rr_is g w1 hf.1.2.1.2
      rw [hf.1.2.2.1.2.2.1, hB] at this
      simpa [den] using this)) (kgSel_ok (kgAt_ok (by simp [bd]) fun w1 hf => by
      have := check_is 39 (by omega) h w1 (vt_less hf.1.2.1.1) 2 (by omega)
      rw [hf.1.2.2.1.2.1, hA9] at this
      simpa [den, ckPost] using this) (kgPan_ok fun w1 hf => by
      have := check_is 39 (by omega) g w1 (vt_less hf.1.2.1.2) 2 (by omega)
      rw [hf.1.2.2.1.2.2.2, hB9] at this
      exact this)))))))))))))) 100000 _ _ [staySV op h g m] [.bool true, .bool false, tw 6 42 (.bool false), .bool true, .bool false, .bool true, .bool false, .bool true, .bool true, tw 6 97 (.bool true), tw 6 102 (.bool false)] _ [(.bool ((g.len : Int) == 0), .bool false), (.bool ((h.len : Int) == 0), .bool true), (h.v, h.v), (h.v, h.v), (.int .i64 2, .int .i64 2), (g.v, g.v), (.int .i64 2, .int .i64 2), (h.v, h.v), (.int .i64 2, .int .i64 2), (g.v, g.v), (h.v, h.v), (.bool (ownB ⟨1, (rnd m), 0, none, 0, 0⟩), .bool true), (.bool (decide (I64 1)), .bool true), (.bool (decide (I64 ((rnd m)))), .bool true), (.bool (decide (I64 0)), .bool true), (h.v, h.v), (.int .i64 m, .int .i64 m), (.bool (decide (e = 0)), .bool false), (.int .i64 op, .int .i64 op), (h.v, h.v), (g.v, g.v), (g.v, g.v), (h.v, h.v)] W (by kernel_rfl) (by simp [denL, den, staySV, stayV]) (by simp [bdL, bd, staySV]) (AllT.cons (by rw [hf2]) (AllT.cons (by rw [hf1]) (AllT.cons (rfl) (AllT.cons (rfl) (AllT.cons (rfl) (AllT.cons (rfl) (AllT.cons (rfl) (AllT.cons (rfl) (AllT.cons (rfl) (AllT.cons (rfl) (AllT.cons (rfl) (AllT.cons (hl3.1) (AllT.cons (hl3.2.1) (AllT.cons (hl3.2.2) (AllT.cons (rfl) (AllT.cons (rfl) (AllT.cons (rfl) (AllT.cons (by rw [heb]) (AllT.cons (rfl) (AllT.cons (rfl) (AllT.cons (rfl) (AllT.cons (rfl) (AllT.cons (rfl) (AllT.nil)))))))))))))))))))))))) (fcV_at kv kw)
set_option maxHeartbeats 8000000 in
theorem st_00_ff_n (W : World) (op m : Int) (h g : VH) (kv : VT 40 W h) (kw : VT 40 W g) (hs1 : decide (countW 39 W h 60 ≤ 60) = true) (hs2 : decide (countW 39 W g 60 ≤ 60) = true) (k n e : Int) (hbin : ∀ w, Calls Tryd.prog 21 #[.int .i64 op, h.v, g.v] w fun e' w' => e' = .returned (bRes k n e) ∧ Below w.heap.size w w') (heb : decide (e = 0) = false) (K N : Int) (hix : ∀ w, @FcAt (fcV W h g) w → Calls Tryd.prog 9 #[h.v, .int .i64 m] w fun e w' => e = .returned (ixRes K N false) ∧ Below w.heap.size w w') (hl3 : LeafOk 1 (rnd m)) (hA : rightW 40 W h = false) (hA9 : rightW 39 W h = false) (hf1 : ((h.len : Int) == 0) = false) : Calls Tryd.prog 6 #[stayV op h g m] W fun e w' => e = .returned (.bool true) ∧ Below W.heap.size W w' := by
  letI fc : FC := fcV W h g
  exact @ex_valG (fcV W h g) _ ((kgOr (gk kn8) ((kgOr (kgSel (kgAt 24 [h.v] (.v (.bool true))) (kgAt 24 [g.v] (.v (.bool true)))) ((kgOr (kgAt 21 [.int .i64 op, h.v, g.v] (.t [.g [.y (.int .i64 k), .y (.int .i64 n), .v (.int .i64 0), .v (.slice none 0 0)], .y (.int .i64 e)])) ((kgOr (kgLeaf) ((kgOr (kgAt 9 [h.v, .int .i64 m] (.t [.g [.y (.int .i64 K), .y (.int .i64 N), .v (.int .i64 0), .v (.slice none 0 0)], .v (.bool false)])) ((kgOr (kgSel (kgAt 12 [h.v] (.v (.bool false))) (kgAt 12 [h.v] (.v (.bool false)))) (kgSel (kgPan 28 [h.v, .int .i64 2] (.iface 34 (.int .i64 1))) (kgPan 28 [h.v, .int .i64 2] (.iface 34 (.int .i64 1)))))))))))))))) ((kgOr_ok (gk_ok kn8F_ok) ((kgOr_ok (kgSel_ok (kgAt_ok (by simp [bd]) fun w1 hf => by
      have := shallow_is h w1 (vt_less hf.1.2.1.1)
      rw [hf.1.2.2.2.1, hs1] at this
      simpa [den] using this) (kgAt_ok (by simp [bd]) fun w1 hf => by
      have := shallow_is g w1 (vt_less hf.1.2.1.2)
      rw [hf.1.2.2.2.2, hs2] at this
      simpa [den] using this)) ((kgOr_ok (kgAt_ok (by simp [bd, bdL]) fun w1 hf => (hbin w1).mono fun e' w' ⟨he, hb⟩ => ⟨by rw [he]; simp [den, denL, bRes], hb⟩) ((kgOr_ok (kgLeaf_ok) ((kgOr_ok (kgAt_ok (by simp [bd, bdL]) fun w1 hf => (hix w1 hf).mono fun e' w' ⟨he, hb⟩ => ⟨by rw [he]; simp [den, denL, ixRes], hb⟩) ((kgOr_ok (kgSel_ok (kgAt_ok (by simp [bd]) fun w1 hf => by
      have := rr_is h w1 hf.1.2.1.1
      rw [hf.1.2.2.1.1, hA] at this
      simpa [den] using this) (kgAt_ok (by simp [bd]) fun w1 hf => by
      have := rr_is h w1 hf.1.2.1.1
      rw [hf.1.2.2.1.1, hA] at this
      simpa [den] using this)) (kgSel_ok (kgPan_ok fun w1 hf => by
      have := check_is 39 (by omega) h w1 (vt_less hf.1.2.1.1) 2 (by omega)
      rw [hf.1.2.2.1.2.1, hA9] at this
      exact this) (kgPan_ok fun w1 hf => by
      have := check_is 39 (by omega) h w1 (vt_less hf.1.2.1.1) 2 (by omega)
      rw [hf.1.2.2.1.2.1, hA9] at this
      exact this)))))))))))))) 100000 _ _ [staySV op h g m] [.bool true, .bool false, tw 6 42 (.bool false), .bool true, .bool true, .bool true, tw 6 97 (.bool false)] _ [(.bool ((h.len : Int) == 0), .bool false), (h.v, h.v), (.int .i64 2, .int .i64 2), (h.v, h.v), (.int .i64 2, .int .i64 2), (h.v, h.v), (.bool (ownB ⟨1, (rnd m), 0, none, 0, 0⟩), .bool true), (.bool (decide (I64 1)), .bool true), (.bool (decide (I64 ((rnd m)))), .bool true), (.bool (decide (I64 0)), .bool true), (h.v, h.v), (.int .i64 m, .int .i64 m), (.bool (decide (e = 0)), .bool false), (.int .i64 op, .int .i64 op), (h.v, h.v), (g.v, g.v), (g.v, g.v), (h.v, h.v)] W (by kernel_rfl) (by simp [denL, den, staySV, stayV]) (by simp [bdL, bd, staySV]) (AllT.cons (by rw [hf1]) (AllT.cons (rfl) (AllT.cons (rfl) (AllT.cons (rfl) (AllT.cons (rfl) (AllT.cons (rfl) (AllT.cons (hl3.1) (AllT.cons (hl3.2.1) (AllT.cons (hl3.2.2) (AllT.cons (rfl) (AllT.cons (rfl) (AllT.cons (rfl) (AllT.cons (by rw [heb]) (AllT.cons (rfl) (AllT.cons (rfl) (AllT.cons (rfl) (AllT.cons (rfl) (AllT.cons (rfl) (AllT.nil))))))))))))))))))) (fcV_at kv kw)
set_option maxHeartbeats 8000000 in
theorem st_01_tt_ft_n (W : World) (op m : Int) (h g : VH) (kv : VT 40 W h) (kw : VT 40 W g) (hs1 : decide (countW 39 W h 60 ≤ 60) = true) (hs2 : decide (countW 39 W g 60 ≤ 60) = true) (k n e : Int) (hbin : ∀ w, Calls Tryd.prog 21 #[.int .i64 op, h.v, g.v] w fun e' w' => e' = .returned (bRes k n e) ∧ Below w.heap.size w w') (heb : decide (e = 0) = false) (K N : Int) (hix : ∀ w, @FcAt (fcV W h g) w → Calls Tryd.prog 9 #[h.v, .int .i64 m] w fun e w' => e = .returned (ixRes K N true) ∧ Below w.heap.size w w') (hl2 : LeafOk K N) (hl3 : LeafOk 1 (rnd m)) (hA : rightW 40 W h = true) (hA9 : rightW 39 W h = true) (hB : rightW 40 W g = true) (hB9 : rightW 39 W g = false) (hf1 : ((h.len : Int) == 0) = false) : Calls Tryd.prog 6 #[stayV op h g m] W fun e w' => e = .returned (.bool true) ∧ Below W.heap.size W w' := by
  letI fc : FC := fcV W h g
  exact @ex_valG (fcV W h g) _ ((kgOr (gk kn8) ((kgOr (kgSel (kgAt 24 [h.v] (.v (.bool true))) (kgAt 24 [g.v] (.v (.bool true)))) ((kgOr (kgAt 21 [.int .i64 op, h.v, g.v] (.t [.g [.y (.int .i64 k), .y (.int .i64 n), .v (.int .i64 0), .v (.slice none 0 0)], .y (.int .i64 e)])) ((kgOr (kgLeaf) ((kgOr (kgAt 9 [h.v, .int .i64 m] (.t [.g [.y (.int .i64 K), .y (.int .i64 N), .v (.int .i64 0), .v (.slice none 0 0)], .v (.bool true)])) ((kgOr (kgSel (kgAt 12 [h.v] (.v (.bool true))) (kgAt 12 [g.v] (.v (.bool true)))) (kgSel (kgAt 28 [h.v, .int .i64 2] (.v (.tuple #[]))) (kgPan 28 [g.v, .int .i64 2] (.iface 34 (.int .i64 1)))))))))))))))) ((kgOr_ok (gk_ok kn8F_ok) ((kgOr_ok (kgSel_ok (kgAt_ok (by simp [bd]) fun w1 hf => by
      have := shallow_is h w1 (vt_less hf.1.2.1.1)
      rw [hf.1.2.2.2.1, hs1] at this
      simpa [den] using this) (kgAt_ok (by simp [bd]) fun w1 hf => by
      have := shallow_is g w1 (vt_less hf.1.2.1.2)
      rw [hf.1.2.2.2.2, hs2] at this
      simpa [den] using this)) ((kgOr_ok (kgAt_ok (by simp [bd, bdL]) fun w1 hf => (hbin w1).mono fun e' w' ⟨he, hb⟩ => ⟨by rw [he]; simp [den, denL, bRes], hb⟩) ((kgOr_ok (kgLeaf_ok) ((kgOr_ok (kgAt_ok (by simp [bd, bdL]) fun w1 hf => (hix w1 hf).mono fun e' w' ⟨he, hb⟩ => ⟨by rw [he]; simp [den, denL, ixRes], hb⟩) ((kgOr_ok (kgSel_ok (kgAt_ok (by simp [bd]) fun w1 hf => by
      have := rr_is h w1 hf.1.2.1.1
      rw [hf.1.2.2.1.1, hA] at this
      simpa [den] using this) (kgAt_ok (by simp [bd]) fun w1 hf => by
      have := rr_is g w1 hf.1.2.1.2
      rw [hf.1.2.2.1.2.2.1, hB] at this
      simpa [den] using this)) (kgSel_ok (kgAt_ok (by simp [bd]) fun w1 hf => by
      have := check_is 39 (by omega) h w1 (vt_less hf.1.2.1.1) 2 (by omega)
      rw [hf.1.2.2.1.2.1, hA9] at this
      simpa [den, ckPost] using this) (kgPan_ok fun w1 hf => by
      have := check_is 39 (by omega) g w1 (vt_less hf.1.2.1.2) 2 (by omega)
      rw [hf.1.2.2.1.2.2.2, hB9] at this
      exact this)))))))))))))) 100000 _ _ [staySV op h g m] [.bool true, .bool false, tw 6 42 (.bool false), .bool true, .bool false, .bool true, .bool false, .bool true, .bool true, tw 6 97 (.bool false)] _ [(.bool ((h.len : Int) == 0), .bool false), (h.v, h.v), (h.v, h.v), (.int .i64 2, .int .i64 2), (g.v, g.v), (.int .i64 2, .int .i64 2), (h.v, h.v), (.int .i64 2, .int .i64 2), (g.v, g.v), (h.v, h.v), (.bool (ownB ⟨1, (rnd m), 0, none, 0, 0⟩), .bool true), (.bool (decide (I64 1)), .bool true), (.bool (decide (I64 ((rnd m)))), .bool true), (.bool (decide (I64 0)), .bool true), (.bool (ownB ⟨K, N, 0, none, 0, 0⟩), .bool true), (.bool (decide (I64 K)), .bool true), (.bool (decide (I64 (N))), .bool true), (.bool (decide (I64 0)), .bool true), (h.v, h.v), (.int .i64 m, .int .i64 m), (.bool (decide (e = 0)), .bool false), (.int .i64 op, .int .i64 op), (h.v, h.v), (g.v, g.v), (g.v, g.v), (h.v, h.v)] W (by kernel_rfl) (by simp [denL, den, staySV, stayV]) (by simp [bdL, bd, staySV]) (AllT.cons (by rw [hf1]) (AllT.cons (rfl) (AllT.cons (rfl) (AllT.cons (rfl) (AllT.cons (rfl) (AllT.cons (rfl) (AllT.cons (rfl) (AllT.cons (rfl) (AllT.cons (rfl) (AllT.cons (rfl) (AllT.cons (hl3.1) (AllT.cons (hl3.2.1) (AllT.cons (hl3.2.2) (AllT.cons (rfl) (AllT.cons (hl2.1) (AllT.cons (hl2.2.1) (AllT.cons (hl2.2.2) (AllT.cons (rfl) (AllT.cons (rfl) (AllT.cons (rfl) (AllT.cons (by rw [heb]) (AllT.cons (rfl) (AllT.cons (rfl) (AllT.cons (rfl) (AllT.cons (rfl) (AllT.cons (rfl) (AllT.nil))))))))))))))))))))))))))) (fcV_at kv kw)
set_option maxHeartbeats 8000000 in
theorem st_01_ft_t_p (W : World) (op m : Int) (h g : VH) (kv : VT 40 W h) (kw : VT 40 W g) (hs1 : decide (countW 39 W h 60 ≤ 60) = true) (hs2 : decide (countW 39 W g 60 ≤ 60) = true) (k n e : Int) (hbin : ∀ w, Calls Tryd.prog 21 #[.int .i64 op, h.v, g.v] w fun e' w' => e' = .returned (bRes k n e) ∧ Below w.heap.size w w') (heb : decide (e = 0) = false) (K N : Int) (hix : ∀ w, @FcAt (fcV W h g) w → Calls Tryd.prog 9 #[h.v, .int .i64 m] w fun e w' => e = .returned (ixRes K N true) ∧ Below w.heap.size w w') (hl2 : LeafOk K N) (hl3 : LeafOk 1 (rnd m)) (hA : rightW 40 W h = true) (hA9 : rightW 39 W h = false) (hB : rightW 40 W g = true) (hf1 : ((h.len : Int) == 0) = true) (hf2 : ((g.len : Int) == 0) = false) : Calls Tryd.prog 6 #[stayV op h g m] W fun e w' => e = .returned (.bool true) ∧ Below W.heap.size W w' := by
  letI fc : FC := fcV W h g
  exact @ex_valG (fcV W h g) _ ((kgOr (gk kn8) ((kgOr (kgSel (kgAt 24 [h.v] (.v (.bool true))) (kgAt 24 [g.v] (.v (.bool true)))) ((kgOr (kgAt 21 [.int .i64 op, h.v, g.v] (.t [.g [.y (.int .i64 k), .y (.int .i64 n), .v (.int .i64 0), .v (.slice none 0 0)], .y (.int .i64 e)])) ((kgOr (kgLeaf) ((kgOr (kgAt 9 [h.v, .int .i64 m] (.t [.g [.y (.int .i64 K), .y (.int .i64 N), .v (.int .i64 0), .v (.slice none 0 0)], .v (.bool true)])) ((kgOr (kgSel (kgAt 12 [h.v] (.v (.bool true))) (kgAt 12 [g.v] (.v (.bool true)))) (kgSel (kgPan 28 [h.v, .int .i64 2] (.iface 34 (.int .i64 1))) (kgPan 28 [h.v, .int .i64 2] (.iface 34 (.int .i64 1)))))))))))))))) ((kgOr_ok (gk_ok kn8F_ok) ((kgOr_ok (kgSel_ok (kgAt_ok (by simp [bd]) fun w1 hf => by
      have := shallow_is h w1 (vt_less hf.1.2.1.1)
      rw [hf.1.2.2.2.1, hs1] at this
      simpa [den] using this) (kgAt_ok (by simp [bd]) fun w1 hf => by
      have := shallow_is g w1 (vt_less hf.1.2.1.2)
      rw [hf.1.2.2.2.2, hs2] at this
      simpa [den] using this)) ((kgOr_ok (kgAt_ok (by simp [bd, bdL]) fun w1 hf => (hbin w1).mono fun e' w' ⟨he, hb⟩ => ⟨by rw [he]; simp [den, denL, bRes], hb⟩) ((kgOr_ok (kgLeaf_ok) ((kgOr_ok (kgAt_ok (by simp [bd, bdL]) fun w1 hf => (hix w1 hf).mono fun e' w' ⟨he, hb⟩ => ⟨by rw [he]; simp [den, denL, ixRes], hb⟩) ((kgOr_ok (kgSel_ok (kgAt_ok (by simp [bd]) fun w1 hf => by
      have := rr_is h w1 hf.1.2.1.1
      rw [hf.1.2.2.1.1, hA] at this
      simpa [den] using this) (kgAt_ok (by simp [bd]) fun w1 hf => by
      have := rr_is g w1 hf.1.2.1.2
      rw [hf.1.2.2.1.2.2.1, hB] at this
      simpa [den] using this)) (kgSel_ok (kgPan_ok fun w1 hf => by
      have := check_is 39 (by omega) h w1 (vt_less hf.1.2.1.1) 2 (by omega)
      rw [hf.1.2.2.1.2.1, hA9] at this
      exact this) (kgPan_ok fun w1 hf => by
      have := check_is 39 (by omega) h w1 (vt_less hf.1.2.1.1) 2 (by omega)
      rw [hf.1.2.2.1.2.1, hA9] at this
      exact this)))))))))))))) 100000 _ _ [staySV op h g m] [.bool true, .bool false, tw 6 42 (.bool false), .bool true, .bool false, .bool true, .bool true, tw 6 97 (.bool true), tw 6 102 (.bool false)] _ [(.bool ((g.len : Int) == 0), .bool false), (.bool ((h.len : Int) == 0), .bool true), (h.v, h.v), (.int .i64 2, .int .i64 2), (h.v, h.v), (.int .i64 2, .int .i64 2), (g.v, g.v), (h.v, h.v), (.bool (ownB ⟨1, (rnd m), 0, none, 0, 0⟩), .bool true), (.bool (decide (I64 1)), .bool true), (.bool (decide (I64 ((rnd m)))), .bool true), (.bool (decide (I64 0)), .bool true), (.bool (ownB ⟨K, N, 0, none, 0, 0⟩), .bool true), (.bool (decide (I64 K)), .bool true), (.bool (decide (I64 (N))), .bool true), (.bool (decide (I64 0)), .bool true), (h.v, h.v), (.int .i64 m, .int .i64 m), (.bool (decide (e = 0)), .bool false), (.int .i64 op, .int .i64 op), (h.v, h.v), (g.v, g.v), (g.v, g.v), (h.v, h.v)] W (by kernel_rfl) (by simp [denL, den, staySV, stayV]) (by simp [bdL, bd, staySV]) (AllT.cons (by rw [hf2]) (AllT.cons (by rw [hf1]) (AllT.cons (rfl) (AllT.cons (rfl) (AllT.cons (rfl) (AllT.cons (rfl) (AllT.cons (rfl) (AllT.cons (rfl) (AllT.cons (hl3.1) (AllT.cons (hl3.2.1) (AllT.cons (hl3.2.2) (AllT.cons (rfl) (AllT.cons (hl2.1) (AllT.cons (hl2.2.1) (AllT.cons (hl2.2.2) (AllT.cons (rfl) (AllT.cons (rfl) (AllT.cons (rfl) (AllT.cons (by rw [heb]) (AllT.cons (rfl) (AllT.cons (rfl) (AllT.cons (rfl) (AllT.cons (rfl) (AllT.cons (rfl) (AllT.nil))))))))))))))))))))))))) (fcV_at kv kw)
set_option maxHeartbeats 8000000 in
theorem st_10_tt_tt_n (W : World) (op m : Int) (h g : VH) (kv : VT 40 W h) (kw : VT 40 W g) (hs1 : decide (countW 39 W h 60 ≤ 60) = true) (hs2 : decide (countW 39 W g 60 ≤ 60) = true) (k n e : Int) (hbin : ∀ w, Calls Tryd.prog 21 #[.int .i64 op, h.v, g.v] w fun e' w' => e' = .returned (bRes k n e) ∧ Below w.heap.size w w') (heb : decide (e = 0) = true) (hl1 : LeafOk k n) (K N : Int) (hix : ∀ w, @FcAt (fcV W h g) w → Calls Tryd.prog 9 #[h.v, .int .i64 m] w fun e w' => e = .returned (ixRes K N false) ∧ Below w.heap.size w w') (hl3 : LeafOk 1 (rnd m)) (hA : rightW 40 W h = true) (hA9 : rightW 39 W h = true) (hB : rightW 40 W g = true) (hB9 : rightW 39 W g = true) (hf1 : ((h.len : Int) == 0) = false) : Calls Tryd.prog 6 #[stayV op h g m] W fun e w' => e = .returned (.bool true) ∧ Below W.heap.size W w' := by
  letI fc : FC := fcV W h g
  exact @ex_valG (fcV W h g) _ ((kgOr (gk kn8) ((kgOr (kgSel (kgAt 24 [h.v] (.v (.bool true))) (kgAt 24 [g.v] (.v (.bool true)))) ((kgOr (kgAt 21 [.int .i64 op, h.v, g.v] (.t [.g [.y (.int .i64 k), .y (.int .i64 n), .v (.int .i64 0), .v (.slice none 0 0)], .y (.int .i64 e)])) ((kgOr (kgLeaf) ((kgOr (kgAt 9 [h.v, .int .i64 m] (.t [.g [.y (.int .i64 K), .y (.int .i64 N), .v (.int .i64 0), .v (.slice none 0 0)], .v (.bool false)])) ((kgOr (kgSel (kgAt 12 [h.v] (.v (.bool true))) (kgAt 12 [g.v] (.v (.bool true)))) (kgSel (kgAt 28 [h.v, .int .i64 2] (.v (.tuple #[]))) (kgAt 28 [g.v, .int .i64 2] (.v (.tuple #[])))))))))))))))) ((kgOr_ok (gk_ok kn8F_ok) ((kgOr_ok (kgSel_ok (kgAt_ok (by simp [bd]) fun w1 hf => by
      have := shallow_is h w1 (vt_less hf.1.2.1.1)
      rw [hf.1.2.2.2.1, hs1] at this
      simpa [den] using this) (kgAt_ok (by simp [bd]) fun w1 hf => by
      have := shallow_is g w1 (vt_less hf.1.2.1.2)
      rw [hf.1.2.2.2.2, hs2] at this
      simpa [den] using this)) ((kgOr_ok (kgAt_ok (by simp [bd, bdL]) fun w1 hf => (hbin w1).mono fun e' w' ⟨he, hb⟩ => ⟨by rw [he]; simp [den, denL, bRes], hb⟩) ((kgOr_ok (kgLeaf_ok) ((kgOr_ok (kgAt_ok (by simp [bd, bdL]) fun w1 hf => (hix w1 hf).mono fun e' w' ⟨he, hb⟩ => ⟨by rw [he]; simp [den, denL, ixRes], hb⟩) ((kgOr_ok (kgSel_ok (kgAt_ok (by simp [bd]) fun w1 hf => by
      have := rr_is h w1 hf.1.2.1.1
      rw [hf.1.2.2.1.1, hA] at this
      simpa [den] using this) (kgAt_ok (by simp [bd]) fun w1 hf => by
      have := rr_is g w1 hf.1.2.1.2
      rw [hf.1.2.2.1.2.2.1, hB] at this
      simpa [den] using this)) (kgSel_ok (kgAt_ok (by simp [bd]) fun w1 hf => by
      have := check_is 39 (by omega) h w1 (vt_less hf.1.2.1.1) 2 (by omega)
      rw [hf.1.2.2.1.2.1, hA9] at this
      simpa [den, ckPost] using this) (kgAt_ok (by simp [bd]) fun w1 hf => by
      have := check_is 39 (by omega) g w1 (vt_less hf.1.2.1.2) 2 (by omega)
      rw [hf.1.2.2.1.2.2.2, hB9] at this
      simpa [den, ckPost] using this)))))))))))))) 100000 _ _ [staySV op h g m] [.bool true, .bool false, tw 6 42 (.bool true), .bool true, .bool false, .bool true, .bool false, .bool true, .bool true, tw 6 97 (.bool false)] _ [(.bool ((h.len : Int) == 0), .bool false), (h.v, h.v), (h.v, h.v), (.int .i64 2, .int .i64 2), (g.v, g.v), (.int .i64 2, .int .i64 2), (h.v, h.v), (.int .i64 2, .int .i64 2), (g.v, g.v), (h.v, h.v), (.bool (ownB ⟨1, (rnd m), 0, none, 0, 0⟩), .bool true), (.bool (decide (I64 1)), .bool true), (.bool (decide (I64 ((rnd m)))), .bool true), (.bool (decide (I64 0)), .bool true), (h.v, h.v), (.int .i64 m, .int .i64 m), (.bool (ownB ⟨k, n, 0, none, 0, 0⟩), .bool true), (.bool (decide (I64 k)), .bool true), (.bool (decide (I64 (n))), .bool true), (.bool (decide (I64 0)), .bool true), (.bool (decide (e = 0)), .bool true), (.int .i64 op, .int .i64 op), (h.v, h.v), (g.v, g.v), (g.v, g.v), (h.v, h.v)] W (by kernel_rfl) (by simp [denL, den, staySV, stayV]) (by simp [bdL, bd, staySV]) (AllT.cons (by rw [hf1]) (AllT.cons (rfl) (AllT.cons (rfl) (AllT.cons (rfl) (AllT.cons (rfl) (AllT.cons (rfl) (AllT.cons (rfl) (AllT.cons (rfl) (AllT.cons (rfl) (AllT.cons (rfl) (AllT.cons (hl3.1) (AllT.cons (hl3.2.1) (AllT.cons (hl3.2.2) (AllT.cons (rfl) (AllT.cons (rfl) (AllT.cons (rfl) (AllT.cons (hl1.1) (AllT.cons (hl1.2.1) (AllT.cons (hl1.2.2) (AllT.cons (rfl) (AllT.cons (by rw [heb]) (AllT.cons (rfl) (AllT.cons (rfl) (AllT.cons (rfl) (AllT.cons (rfl) (AllT.cons (rfl) (AllT.nil))))))))))))))))))))))))))) (fcV_at kv kw)
set_option maxHeartbeats 8000000 in
theorem st_10_tt_ff_p (W : World) (op m : Int) (h g : VH) (kv : VT 40 W h) (kw : VT 40 W g) (hs1 : decide (countW 39 W h 60 ≤ 60) = true) (hs2 : decide (countW 39 W g 60 ≤ 60) = true) (k n e : Int) (hbin : ∀ w, Calls Tryd.prog 21 #[.int .i64 op, h.v, g.v] w fun e' w' => e' = .returned (bRes k n e) ∧ Below w.heap.size w w') (heb : decide (e = 0) = true) (hl1 : LeafOk k n) (K N : Int) (hix : ∀ w, @FcAt (fcV W h g) w → Calls Tryd.prog 9 #[h.v, .int .i64 m] w fun e w' => e = .returned (ixRes K N false) ∧ Below w.heap.size w w') (hl3 : LeafOk 1 (rnd m)) (hA : rightW 40 W h = true) (hA9 : rightW 39 W h = true) (hB : rightW 40 W g = false) (hB9 : rightW 39 W g = false) (hf1 : ((h.len : Int) == 0) = true) (hf2 : ((g.len : Int) == 0) = false) : Calls Tryd.prog 6 #[stayV op h g m] W fun e w' => e = .returned (.bool true) ∧ Below W.heap.size W w' := by
  letI fc : FC := fcV W h g
  exact @ex_valG (fcV W h g) _ ((kgOr (gk kn8) ((kgOr (kgSel (kgAt 24 [h.v] (.v (.bool true))) (kgAt 24 [g.v] (.v (.bool true)))) ((kgOr (kgAt 21 [.int .i64 op, h.v, g.v] (.t [.g [.y (.int .i64 k), .y (.int .i64 n), .v (.int .i64 0), .v (.slice none 0 0)], .y (.int .i64 e)])) ((kgOr (kgLeaf) ((kgOr (kgAt 9 [h.v, .int .i64 m] (.t [.g [.y (.int .i64 K), .y (.int .i64 N), .v (.int .i64 0), .v (.slice none 0 0)], .v (.bool false)])) ((kgOr (kgSel (kgAt 12 [h.v] (.v (.bool true))) (kgAt 12 [g.v] (.v (.bool false)))) (kgSel (kgAt 28 [h.v, .int .i64 2] (.v (.tuple #[]))) (kgPan 28 [g.v, .int .i64 2] (.iface 34 (.int .i64 1)))))))))))))))) ((kgOr_ok (gk_ok kn8F_ok) ((kgOr_ok (kgSel_ok (kgAt_ok (by simp [bd]) fun w1 hf => by
      have := shallow_is h w1 (vt_less hf.1.2.1.1)
      rw [hf.1.2.2.2.1, hs1] at this
      simpa [den] using this) (kgAt_ok (by simp [bd]) fun w1 hf => by
      have := shallow_is g w1 (vt_less hf.1.2.1.2)
      rw [hf.1.2.2.2.2, hs2] at this
      simpa [den] using this)) ((kgOr_ok (kgAt_ok (by simp [bd, bdL]) fun w1 hf => (hbin w1).mono fun e' w' ⟨he, hb⟩ => ⟨by rw [he]; simp [den, denL, bRes], hb⟩) ((kgOr_ok (kgLeaf_ok) ((kgOr_ok (kgAt_ok (by simp [bd, bdL]) fun w1 hf => (hix w1 hf).mono fun e' w' ⟨he, hb⟩ => ⟨by rw [he]; simp [den, denL, ixRes], hb⟩) ((kgOr_ok (kgSel_ok (kgAt_ok (by simp [bd]) fun w1 hf => by
      have := rr_is h w1 hf.1.2.1.1
      rw [hf.1.2.2.1.1, hA] at this
      simpa [den] using this) (kgAt_ok (by simp [bd]) fun w1 hf => by
      have := rr_is g w1 hf.1.2.1.2
      rw [hf.1.2.2.1.2.2.1, hB] at this
      simpa [den] using this)) (kgSel_ok (kgAt_ok (by simp [bd]) fun w1 hf => by
      have := check_is 39 (by omega) h w1 (vt_less hf.1.2.1.1) 2 (by omega)
      rw [hf.1.2.2.1.2.1, hA9] at this
      simpa [den, ckPost] using this) (kgPan_ok fun w1 hf => by
      have := check_is 39 (by omega) g w1 (vt_less hf.1.2.1.2) 2 (by omega)
      rw [hf.1.2.2.1.2.2.2, hB9] at this
      exact this)))))))))))))) 100000 _ _ [staySV op h g m] [.bool true, .bool false, tw 6 42 (.bool true), .bool true, .bool false, .bool true, .bool false, .bool true, .bool true, tw 6 97 (.bool true), tw 6 102 (.bool false)] _ [(.bool ((g.len : Int) == 0), .bool false), (.bool ((h.len : Int) == 0), .bool true), (h.v, h.v), (h.v, h.v), (.int .i64 2, .int .i64 2), (g.v, g.v), (.int .i64 2, .int .i64 2), (h.v, h.v), (.int .i64 2, .int .i64 2), (g.v, g.v), (h.v, h.v), (.bool (ownB ⟨1, (rnd m), 0, none, 0, 0⟩), .bool true), (.bool (decide (I64 1)), .bool true), (.bool (decide (I64 ((rnd m)))), .bool true), (.bool (decide (I64 0)), .bool true), (h.v, h.v), (.int .i64 m, .int .i64 m), (.bool (ownB ⟨k, n, 0, none, 0, 0⟩), .bool true), (.bool (decide (I64 k)), .bool true), (.bool (decide (I64 (n))), .bool true), (.bool (decide (I64 0)), .bool true), (.bool (decide (e = 0)), .bool true), (.int .i64 op, .int .i64 op), (h.v, h.v), (g.v, g.v), (g.v, g.v), (h.v, h.v)] W (by kernel_rfl) (by simp [denL, den, staySV, stayV]) (by simp [bdL, bd, staySV]) (AllT.cons (by rw [hf2]) (AllT.cons (by rw [hf1]) (AllT.cons (rfl) (AllT.cons (rfl) (AllT.cons (rfl) (AllT.cons (rfl) (AllT.cons (rfl) (AllT.cons (rfl) (AllT.cons (rfl) (AllT.cons (rfl) (AllT.cons (rfl) (AllT.cons (hl3.1) (AllT.cons (hl3.2.1) (AllT.cons (hl3.2.2) (AllT.cons (rfl) (AllT.cons (rfl) (AllT.cons (rfl) (AllT.cons (hl1.1) (AllT.cons (hl1.2.1) (AllT.cons (hl1.2.2) (AllT.cons (rfl) (AllT.cons (by rw [heb]) (AllT.cons (rfl) (AllT.cons (rfl) (AllT.cons (rfl) (AllT.cons (rfl) (AllT.cons (rfl) (AllT.nil)))))))))))))))))))))))))))) (fcV_at kv kw)
set_option maxHeartbeats 8000000 in
theorem st_10_ff_n (W : World) (op m : Int) (h g : VH) (kv : VT 40 W h) (kw : VT 40 W g) (hs1 : decide (countW 39 W h 60 ≤ 60) = true) (hs2 : decide (countW 39 W g 60 ≤ 60) = true) (k n e : Int) (hbin : ∀ w, Calls Tryd.prog 21 #[.int .i64 op, h.v, g.v] w fun e' w' => e' = .returned (bRes k n e) ∧ Below w.heap.size w w') (heb : decide (e = 0) = true) (hl1 : LeafOk k n) (K N : Int) (hix : ∀ w, @FcAt (fcV W h g) w → Calls Tryd.prog 9 #[h.v, .int .i64 m] w fun e w' => e = .returned (ixRes K N false) ∧ Below w.heap.size w w') (hl3 : LeafOk 1 (rnd m)) (hA : rightW 40 W h = false) (hA9 : rightW 39 W h = false) (hf1 : ((h.len : Int) == 0) = false) : Calls Tryd.prog 6 #[stayV op h g m] W fun e w' => e = .returned (.bool true) ∧ Below W.heap.size W w' := by
  letI fc : FC := fcV W h g
  exact @ex_valG (fcV W h g) _ ((kgOr (gk kn8) ((kgOr (kgSel (kgAt 24 [h.v] (.v (.bool true))) (kgAt 24 [g.v] (.v (.bool true)))) ((kgOr (kgAt 21 [.int .i64 op, h.v, g.v] (.t [.g [.y (.int .i64 k), .y (.int .i64 n), .v (.int .i64 0), .v (.slice none 0 0)], .y (.int .i64 e)])) ((kgOr (kgLeaf) ((kgOr (kgAt 9 [h.v, .int .i64 m] (.t [.g [.y (.int .i64 K), .y (.int .i64 N), .v (.int .i64 0), .v (.slice none 0 0)], .v (.bool false)])) ((kgOr (kgSel (kgAt 12 [h.v] (.v (.bool false))) (kgAt 12 [h.v] (.v (.bool false)))) (kgSel (kgPan 28 [h.v, .int .i64 2] (.iface 34 (.int .i64 1))) (kgPan 28 [h.v, .int .i64 2] (.iface 34 (.int .i64 1)))))))))))))))) ((kgOr_ok (gk_ok kn8F_ok) ((kgOr_ok (kgSel_ok (kgAt_ok (by simp [bd]) fun w1 hf => by
      have := shallow_is h w1 (vt_less hf.1.2.1.1)
      rw [hf.1.2.2.2.1, hs1] at this
      simpa [den] using this) (kgAt_ok (by simp [bd]) fun w1 hf => by
      have := shallow_is g w1 (vt_less hf.1.2.1.2)
      rw [hf.1.2.2.2.2, hs2] at this
      simpa [den] using this)) ((kgOr_ok (kgAt_ok (by simp [bd, bdL]) fun w1 hf => (hbin w1).mono fun e' w' ⟨he, hb⟩ => ⟨by rw [he]; simp [den, denL, bRes], hb⟩) ((kgOr_ok (kgLeaf_ok) ((kgOr_ok (kgAt_ok (by simp [bd, bdL]) fun w1 hf => (hix w1 hf).mono fun e' w' ⟨he, hb⟩ => ⟨by rw [he]; simp [den, denL, ixRes], hb⟩) ((kgOr_ok (kgSel_ok (kgAt_ok (by simp [bd]) fun w1 hf => by
      have := rr_is h w1 hf.1.2.1.1
      rw [hf.1.2.2.1.1, hA] at this
      simpa [den] using this) (kgAt_ok (by simp [bd]) fun w1 hf => by
      have := rr_is h w1 hf.1.2.1.1
      rw [hf.1.2.2.1.1, hA] at this
      simpa [den] using this)) (kgSel_ok (kgPan_ok fun w1 hf => by
      have := check_is 39 (by omega) h w1 (vt_less hf.1.2.1.1) 2 (by omega)
      rw [hf.1.2.2.1.2.1, hA9] at this
      exact this) (kgPan_ok fun w1 hf => by
      have := check_is 39 (by omega) h w1 (vt_less hf.1.2.1.1) 2 (by omega)
      rw [hf.1.2.2.1.2.1, hA9] at this
      exact this)))))))))))))) 100000 _ _ [staySV op h g m] [.bool true, .bool false, tw 6 42 (.bool true), .bool true, .bool true, .bool true, tw 6 97 (.bool false)] _ [(.bool ((h.len : Int) == 0), .bool false), (h.v, h.v), (.int .i64 2, .int .i64 2), (h.v, h.v), (.int .i64 2, .int .i64 2), (h.v, h.v), (.bool (ownB ⟨1, (rnd m), 0, none, 0, 0⟩), .bool true), (.bool (decide (I64 1)), .bool true), (.bool (decide (I64 ((rnd m)))), .bool true), (.bool (decide (I64 0)), .bool true), (h.v, h.v), (.int .i64 m, .int .i64 m), (.bool (ownB ⟨k, n, 0, none, 0, 0⟩), .bool true), (.bool (decide (I64 k)), .bool true), (.bool (decide (I64 (n))), .bool true), (.bool (decide (I64 0)), .bool true), (.bool (decide (e = 0)), .bool true), (.int .i64 op, .int .i64 op), (h.v, h.v), (g.v, g.v), (g.v, g.v), (h.v, h.v)] W (by kernel_rfl) (by simp [denL, den, staySV, stayV]) (by simp [bdL, bd, staySV]) (AllT.cons (by rw [hf1]) (AllT.cons (rfl) (AllT.cons (rfl) (AllT.cons (rfl) (AllT.cons (rfl) (AllT.cons (rfl) (AllT.cons (hl3.1) (AllT.cons (hl3.2.1) (AllT.cons (hl3.2.2) (AllT.cons (rfl) (AllT.cons (rfl) (AllT.cons (rfl) (AllT.cons (hl1.1) (AllT.cons (hl1.2.1) (AllT.cons (hl1.2.2) (AllT.cons (rfl) (AllT.cons (by rw [heb]) (AllT.cons (rfl) (AllT.cons (rfl) (AllT.cons (rfl) (AllT.cons (rfl) (AllT.cons (rfl) (AllT.nil))))))))))))))))))))))) (fcV_at kv kw)
set_option maxHeartbeats 8000000 in
theorem st_11_tt_ft_n (W : World) (op m : Int) (h g : VH) (kv : VT 40 W h) (kw : VT 40 W g) (hs1 : decide (countW 39 W h 60 ≤ 60) = true) (hs2 : decide (countW 39 W g 60 ≤ 60) = true) (k n e : Int) (hbin : ∀ w, Calls Tryd.prog 21 #[.int .i64 op, h.v, g.v] w fun e' w' => e' = .returned (bRes k n e) ∧ Below w.heap.size w w') (heb : decide (e = 0) = true) (hl1 : LeafOk k n) (K N : Int) (hix : ∀ w, @FcAt (fcV W h g) w → Calls Tryd.prog 9 #[h.v, .int .i64 m] w fun e w' => e = .returned (ixRes K N true) ∧ Below w.heap.size w w') (hl2 : LeafOk K N) (hl3 : LeafOk 1 (rnd m)) (hA : rightW 40 W h = true) (hA9 : rightW 39 W h = true) (hB : rightW 40 W g = true) (hB9 : rightW 39 W g = false) (hf1 : ((h.len : Int) == 0) = false) : Calls Tryd.prog 6 #[stayV op h g m] W fun e w' => e = .returned (.bool true) ∧ Below W.heap.size W w' := by
  letI fc : FC := fcV W h g
  exact @ex_valG (fcV W h g) _ ((kgOr (gk kn8) ((kgOr (kgSel (kgAt 24 [h.v] (.v (.bool true))) (kgAt 24 [g.v] (.v (.bool true)))) ((kgOr (kgAt 21 [.int .i64 op, h.v, g.v] (.t [.g [.y (.int .i64 k), .y (.int .i64 n), .v (.int .i64 0), .v (.slice none 0 0)], .y (.int .i64 e)])) ((kgOr (kgLeaf) ((kgOr (kgAt 9 [h.v, .int .i64 m] (.t [.g [.y (.int .i64 K), .y (.int .i64 N), .v (.int .i64 0), .v (.slice none 0 0)], .v (.bool true)])) ((kgOr (kgSel (kgAt 12 [h.v] (.v (.bool true))) (kgAt 12 [g.v] (.v (.bool true)))) (kgSel (kgAt 28 [h.v, .int .i64 2] (.v (.tuple #[]))) (kgPan 28 [g.v, .int .i64 2] (.iface 34 (.int .i64 1)))))))))))))))) ((kgOr_ok (gk_ok kn8F_ok) ((kgOr_ok (kgSel_ok (kgAt_ok (by simp [bd]) fun w1 hf => by
      have := shallow_is h w1 (vt_less hf.1.2.1.1)
      rw [hf.1.2.2.2.1, hs1] at this
      simpa [den] using this) (kgAt_ok (by simp [bd]) fun w1 hf => by
      have := shallow_is g w1 (vt_less hf.1.2.1.2)
      rw [hf.1.2.2.2.2, hs2] at this
      simpa [den] using this)) ((kgOr_ok (kgAt_ok (by simp [bd, bdL]) fun w1 hf => (hbin w1).mono fun e' w' ⟨he, hb⟩ => ⟨by rw [he]; simp [den, denL, bRes], hb⟩) ((kgOr_ok (kgLeaf_ok) ((kgOr_ok (kgAt_ok (by simp [bd, bdL]) fun w1 hf => (hix w1 hf).mono fun e' w' ⟨he, hb⟩ => ⟨by rw [he]; simp [den, denL, ixRes], hb⟩) ((kgOr_ok (kgSel_ok (kgAt_ok (by simp [bd]) fun w1 hf => by
      have := rr_is h w1 hf.1.2.1.1
      rw [hf.1.2.2.1.1, hA] at this
      simpa [den] using this) (kgAt_ok (by simp [bd]) fun w1 hf => by
      have := rr_is g w1 hf.1.2.1.2
      rw [hf.1.2.2.1.2.2.1, hB] at this
      simpa [den] using this)) (kgSel_ok (kgAt_ok (by simp [bd]) fun w1 hf => by
      have := check_is 39 (by omega) h w1 (vt_less hf.1.2.1.1) 2 (by omega)
      rw [hf.1.2.2.1.2.1, hA9] at this
      simpa [den, ckPost] using this) (kgPan_ok fun w1 hf => by
      have := check_is 39 (by omega) g w1 (vt_less hf.1.2.1.2) 2 (by omega)
      rw [hf.1.2.2.1.2.2.2, hB9] at this
      exact this)))))))))))))) 100000 _ _ [staySV op h g m] [.bool true, .bool false, tw 6 42 (.bool true), .bool true, .bool false, .bool true, .bool false, .bool true, .bool true, tw 6 97 (.bool false)] _ [(.bool ((h.len : Int) == 0), .bool false), (h.v, h.v), (h.v, h.v), (.int .i64 2, .int .i64 2), (g.v, g.v), (.int .i64 2, .int .i64 2), (h.v, h.v), (.int .i64 2, .int .i64 2), (g.v, g.v), (h.v, h.v), (.bool (ownB ⟨1, (rnd m), 0, none, 0, 0⟩), .bool true), (.bool (decide (I64 1)), .bool true), (.bool (decide (I64 ((rnd m)))), .bool true), (.bool (decide (I64 0)), .bool true), (.bool (ownB ⟨K, N, 0, none, 0, 0⟩), .bool true), (.bool (decide (I64 K)), .bool true), (.bool (decide (I64 (N))), .bool true), (.bool (decide (I64 0)), .bool true), (h.v, h.v), (.int .i64 m, .int .i64 m), (.bool (ownB ⟨k, n, 0, none, 0, 0⟩), .bool true), (.bool (decide (I64 k)), .bool true), (.bool (decide (I64 (n))), .bool true), (.bool (decide (I64 0)), .bool true), (.bool (decide (e = 0)), .bool true), (.int .i64 op, .int .i64 op), (h.v, h.v), (g.v, g.v), (g.v, g.v), (h.v, h.v)] W (by kernel_rfl) (by simp [denL, den, staySV, stayV]) (by simp [bdL, bd, staySV]) (AllT.cons (by rw [hf1]) (AllT.cons (rfl) (AllT.cons (rfl) (AllT.cons (rfl) (AllT.cons (rfl) (AllT.cons (rfl) (AllT.cons (rfl) (AllT.cons (rfl) (AllT.cons (rfl) (AllT.cons (rfl) (AllT.cons (hl3.1) (AllT.cons (hl3.2.1) (AllT.cons (hl3.2.2) (AllT.cons (rfl) (AllT.cons (hl2.1) (AllT.cons (hl2.2.1) (AllT.cons (hl2.2.2) (AllT.cons (rfl) (AllT.cons (rfl) (AllT.cons (rfl) (AllT.cons (hl1.1) (AllT.cons (hl1.2.1) (AllT.cons (hl1.2.2) (AllT.cons (rfl) (AllT.cons (by rw [heb]) (AllT.cons (rfl) (AllT.cons (rfl) (AllT.cons (rfl) (AllT.cons (rfl) (AllT.cons (rfl) (AllT.nil))))))))))))))))))))))))))))))) (fcV_at kv kw)
set_option maxHeartbeats 8000000 in
theorem st_11_ft_t_p (W : World) (op m : Int) (h g : VH) (kv : VT 40 W h) (kw : VT 40 W g) (hs1 : decide (countW 39 W h 60 ≤ 60) = true) (hs2 : decide (countW 39 W g 60 ≤ 60) = true) (k n e : Int) (hbin : ∀ w, Calls Tryd.prog 21 #[.int .i64 op, h.v, g.v] w fun e' w' => e' = .returned (bRes k n e) ∧ Below w.heap.size w w') (heb : decide (e = 0) = true) (hl1 : LeafOk k n) (K N : Int) (hix : ∀ w, @FcAt (fcV W h g) w → Calls Tryd.prog 9 #[h.v, .int .i64 m] w fun e w' => e = .returned (ixRes K N true) ∧ Below w.heap.size w w') (hl2 : LeafOk K N) (hl3 : LeafOk 1 (rnd m)) (hA : rightW 40 W h = true) (hA9 : rightW 39 W h = false) (hB : rightW 40 W g = true) (hf1 : ((h.len : Int) == 0) = true) (hf2 : ((g.len : Int) == 0) = false) : Calls Tryd.prog 6 #[stayV op h g m] W fun e w' => e = .returned (.bool true) ∧ Below W.heap.size W w' := by
  letI fc : FC := fcV W h g
  exact @ex_valG (fcV W h g) _ ((kgOr (gk kn8) ((kgOr (kgSel (kgAt 24 [h.v] (.v (.bool true))) (kgAt 24 [g.v] (.v (.bool true)))) ((kgOr (kgAt 21 [.int .i64 op, h.v, g.v] (.t [.g [.y (.int .i64 k), .y (.int .i64 n), .v (.int .i64 0), .v (.slice none 0 0)], .y (.int .i64 e)])) ((kgOr (kgLeaf) ((kgOr (kgAt 9 [h.v, .int .i64 m] (.t [.g [.y (.int .i64 K), .y (.int .i64 N), .v (.int .i64 0), .v (.slice none 0 0)], .v (.bool true)])) ((kgOr (kgSel (kgAt 12 [h.v] (.v (.bool true))) (kgAt 12 [g.v] (.v (.bool true)))) (kgSel (kgPan 28 [h.v, .int .i64 2] (.iface 34 (.int .i64 1))) (kgPan 28 [h.v, .int .i64 2] (.iface 34 (.int .i64 1)))))))))))))))) ((kgOr_ok (gk_ok kn8F_ok) ((kgOr_ok (kgSel_ok (kgAt_ok (by simp [bd]) fun w1 hf => by
      have := shallow_is h w1 (vt_less hf.1.2.1.1)
      rw [hf.1.2.2.2.1, hs1] at this
      simpa [den] using this) (kgAt_ok (by simp [bd]) fun w1 hf => by
      have := shallow_is g w1 (vt_less hf.1.2.1.2)
      rw [hf.1.2.2.2.2, hs2] at this
      simpa [den] using this)) ((kgOr_ok (kgAt_ok (by simp [bd, bdL]) fun w1 hf => (hbin w1).mono fun e' w' ⟨he, hb⟩ => ⟨by rw [he]; simp [den, denL, bRes], hb⟩) ((kgOr_ok (kgLeaf_ok) ((kgOr_ok (kgAt_ok (by simp [bd, bdL]) fun w1 hf => (hix w1 hf).mono fun e' w' ⟨he, hb⟩ => ⟨by rw [he]; simp [den, denL, ixRes], hb⟩) ((kgOr_ok (kgSel_ok (kgAt_ok (by simp [bd]) fun w1 hf => by
      have := rr_is h w1 hf.1.2.1.1
      rw [hf.1.2.2.1.1, hA] at this
      simpa [den] using this) (kgAt_ok (by simp [bd]) fun w1 hf => by
      have := rr_is g w1 hf.1.2.1.2
      rw [hf.1.2.2.1.2.2.1, hB] at this
      simpa [den] using this)) (kgSel_ok (kgPan_ok fun w1 hf => by
      have := check_is 39 (by omega) h w1 (vt_less hf.1.2.1.1) 2 (by omega)
      rw [hf.1.2.2.1.2.1, hA9] at this
      exact this) (kgPan_ok fun w1 hf => by
      have := check_is 39 (by omega) h w1 (vt_less hf.1.2.1.1) 2 (by omega)
      rw [hf.1.2.2.1.2.1, hA9] at this
      exact this)))))))))))))) 100000 _ _ [staySV op h g m] [.bool true, .bool false, tw 6 42 (.bool true), .bool true, .bool false, .bool true, .bool true, tw 6 97 (.bool true), tw 6 102 (.bool false)] _ [(.bool ((g.len : Int) == 0), .bool false), (.bool ((h.len : Int) == 0), .bool true), (h.v, h.v), (.int .i64 2, .int .i64 2), (h.v, h.v), (.int .i64 2, .int .i64 2), (g.v, g.v), (h.v, h.v), (.bool (ownB ⟨1, (rnd m), 0, none, 0, 0⟩), .bool true), (.bool (decide (I64 1)), .bool true), (.bool (decide (I64 ((rnd m)))), .bool true), (.bool (decide (I64 0)), .bool true), (.bool (ownB ⟨K, N, 0, none, 0, 0⟩), .bool true), (.bool (decide (I64 K)), .bool true), (.bool (decide (I64 (N))), .bool true), (.bool (decide (I64 0)), .bool true), (h.v, h.v), (.int .i64 m, .int .i64 m), (.bool (ownB ⟨k, n, 0, none, 0, 0⟩), .bool true), (.bool (decide (I64 k)), .bool true), (.bool (decide (I64 (n))), .bool true), (.bool (decide (I64 0)), .bool true), (.bool (decide (e = 0)), .bool true), (.int .i64 op, .int .i64 op), (h.v, h.v), (g.v, g.v), (g.v, g.v), (h.v, h.v)] W (by kernel_rfl) (by simp [denL, den, staySV, stayV]) (by simp [bdL, bd, staySV]) (AllT.cons (by rw [hf2]) (AllT.cons (by rw [hf1]) (AllT.cons (rfl) (AllT.cons (rfl) (AllT.cons (rfl) (AllT.cons (rfl) (AllT.cons (rfl) (AllT.cons (rfl) (AllT.cons (hl3.1) (AllT.cons (hl3.2.1) (AllT.cons (hl3.2.2) (AllT.cons (rfl) (AllT.cons (hl2.1) (AllT.cons (hl2.2.1) (AllT.cons (hl2.2.2) (AllT.cons (rfl) (AllT.cons (rfl) (AllT.cons (rfl) (AllT.cons (hl1.1) (AllT.cons (hl1.2.1) (AllT.cons (hl1.2.2) (AllT.cons (rfl) (AllT.cons (by rw [heb]) (AllT.cons (rfl) (AllT.cons (rfl) (AllT.cons (rfl) (AllT.cons (rfl) (AllT.cons (rfl) (AllT.nil))))))))))))))))))))))))))))) (fcV_at kv kw)
end Go.Proofs.YtoijdnlplbeomaaDoor


/-
  Layer 8: runs of ValueStaysValid, part 5.
-/
namespace Go.Proofs.YtoijdnlplbeomaaDoor
open Go Go.RowKit EX
set_option maxRecDepth 100000
set_option linter.unusedVariables false
set_option linter.unusedSimpArgs false
set_option linter.unusedSectionVars false
set_option maxHeartbeats 8000000 in
theorem st_00_tt_tt_p (W : World) (op m : Int) (h g : VH) (kv : VT 40 W h) (kw : VT 40 W g) (hs1 : decide (countW 39 W h 60 ≤ 60) = true) (hs2 : decide (countW 39 W g 60 ≤ 60) = true) (k n e : Int) (hbin : ∀ w, Calls Tryd.prog 21 #[.int .i64 op, h.v, g.v] w fun e' w' => e' = .returned (bRes k n e) ∧ Below w.heap.size w w') (heb : decide (e = 0) = false) (K N : Int) (hix : ∀ w, @FcAt (fcV W h g) w → Calls Tryd.prog 9 #[h.v, .int .i64 m] w fun e w' => e = .returned (ixRes K N false) ∧ Below w.heap.size w w') (hl3 : LeafOk 1 (rnd m)) (hA : rightW 40 W h = true) (hA9 : rightW 39 W h = true) (hB : rightW 40 W g = true) (hB9 : rightW 39 W g = true) (hf1 : ((h.len : Int) == 0) = true) (hf2 : ((g.len : Int) == 0) = false) : Calls Tryd.prog 6 #[stayV op h g m] W fun e w' => e = .returned (.bool true) ∧ Below W.heap.size W w' := by
  letI fc : FC := fcV W h g
  exact @ex_valG (fcV W h g) _ ((kgOr (gk kn8) ((kgOr (kgSel (kgAt 24 [h.v] (.v (.bool true))) (kgAt 24 [g.v] (.v (.bool true)))) ((kgOr (kgAt 21 [.int .i64 op, h.v, g.v] (.t [.g [.y (.int .i64 k), .y (.int .i64 n), .v (.int .i64 0), .v (.slice none 0 0)], .y (.int .i64 e)])) ((kgOr (kgLeaf) ((kgOr (kgAt 9 [h.v, .int .i64 m] (.t [.g [.y (.int .i64 K), .y (.int .i64 N), .v (.int .i64 0), .v (.slice none 0 0)], .v (.bool false)])) ((kgOr (kgSel (kgAt 12 [h.v] (.v (.bool true))) (kgAt 12 [g.v] (.v (.bool true)))) (kgSel (kgAt 28 [h.v, .int .i64 2] (.v (.tuple #[]))) (kgAt 28 [g.v, .int .i64 2] (.v (.tuple #[])))))))))))))))) ((kgOr_ok (gk_ok kn8F_ok) ((kgOr_ok (kgSel_ok (kgAt_ok (by simp [bd]) fun w1 hf => by
      have := shallow_is h w1 (vt_less hf.1.2.1.1)
      rw [hf.1.2.2.2.1, hs1] at this
      simpa [den] using this) (kgAt_ok (by simp [bd]) fun w1 hf => by
      have := shallow_is g w1 (vt_less hf.1.2.1.2)
      rw [hf.1.2.2.2.2, hs2] at this
      simpa [den] using this)) ((kgOr_ok (kgAt_ok (by simp [bd, bdL]) fun w1 hf => (hbin w1).mono fun e' w' ⟨he, hb⟩ => ⟨by rw [he]; simp [den, denL, bRes], hb⟩) ((kgOr_ok (kgLeaf_ok) ((kgOr_ok (kgAt_ok (by simp [bd, bdL]) fun w1 hf => (hix w1 hf).mono fun e' w' ⟨he, hb⟩ => ⟨by rw [he]; simp [den, denL, ixRes], hb⟩) ((kgOr_ok (kgSel_ok (kgAt_ok (by simp [bd]) fun w1 hf => by
      have := rr_is h w1 hf.1.2.1.1
      rw [hf.1.2.2.1.1, hA] at this
      simpa [den] using this) (kgAt_ok (by simp [bd]) fun w1 hf => by
      have := rr_is g w1 hf.1.2.1.2
      rw [hf.1.2.2.1.2.2.1, hB] at this
      simpa [den] using this)) (kgSel_ok (kgAt_ok (by simp [bd]) fun w1 hf => by
      have := check_is 39 (by omega) h w1 (vt_less hf.1.2.1.1) 2 (by omega)
      rw [hf.1.2.2.1.2.1, hA9] at this
      simpa [den, ckPost] using this) (kgAt_ok (by simp [bd]) fun w1 hf => by
      have := check_is 39 (by omega) g w1 (vt_less hf.1.2.1.2) 2 (by omega)
      rw [hf.1.2.2.1.2.2.2, hB9] at this
      simpa [den, ckPost] using this)))))))))))))) 100000 _ _ [staySV op h g m] [.bool true, .bool false, tw 6 42 (.bool false), .bool true, .bool false, .bool true, .bool false, .bool true, .bool true, tw 6 97 (.bool true), tw 6 102 (.bool false)] _ [(.bool ((g.len : Int) == 0), .bool false), (.bool ((h.len : Int) == 0), .bool true), (h.v, h.v), (h.v, h.v), (.int .i64 2, .int .i64 2), (g.v, g.v), (.int .i64 2, .int .i64 2), (h.v, h.v), (.int .i64 2, .int .i64 2), (g.v, g.v), (h.v, h.v), (.bool (ownB ⟨1, (rnd m), 0, none, 0, 0⟩), .bool true), (.bool (decide (I64 1)), .bool true), (.bool (decide (I64 ((rnd m)))), .bool true), (.bool (decide (I64 0)), .bool true), (h.v, h.v), (.int .i64 m, .int .i64 m), (.bool (decide (e = 0)), .bool false), (.int .i64 op, .int .i64 op), (h.v, h.v), (g.v, g.v), (g.v, g.v), (h.v, h.v)] W (by kernel_rfl) (by simp [denL, den, staySV, stayV]) (by simp [bdL, bd, staySV]) (AllT.cons (by rw [hf2]) (AllT.cons (by rw [hf1]) (AllT.cons (rfl) (AllT.cons (rfl) (AllT.cons (rfl) (AllT.cons (rfl) (AllT.cons (rfl) (AllT.cons (rfl) (AllT.cons (rfl) (AllT.cons (rfl) (AllT.cons (rfl) (AllT.cons (hl3.1) (AllT.cons (hl3.2.1) (AllT.cons (hl3.2.2) (AllT.cons (rfl) (AllT.cons (rfl) (AllT.cons (rfl) (AllT.cons (by rw [heb]) (AllT.cons (rfl) (AllT.cons (rfl) (AllT.cons (rfl) (AllT.cons (rfl) (AllT.cons (rfl) (AllT.nil)))))))))))))))))))))))) (fcV_at kv kw)
set_option maxHeartbeats 8000000 in
theorem st_00_tt_ff_y (W : World) (op m : Int) (h g : VH) (kv : VT 40 W h) (kw : VT 40 W g) (hs1 : decide (countW 39 W h 60 ≤ 60) = true) (hs2 : decide (countW 39 W g 60 ≤ 60) = true) (k n e : Int) (hbin : ∀ w, Calls Tryd.prog 21 #[.int .i64 op, h.v, g.v] w fun e' w' => e' = .returned (bRes k n e) ∧ Below w.heap.size w w') (heb : decide (e = 0) = false) (K N : Int) (hix : ∀ w, @FcAt (fcV W h g) w → Calls Tryd.prog 9 #[h.v, .int .i64 m] w fun e w' => e = .returned (ixRes K N false) ∧ Below w.heap.size w w') (hl3 : LeafOk 1 (rnd m)) (hA : rightW 40 W h = true) (hA9 : rightW 39 W h = true) (hB : rightW 40 W g = false) (hB9 : rightW 39 W g = false) (hf1 : ((h.len : Int) == 0) = true) (hf2 : ((g.len : Int) == 0) = true) : Calls Tryd.prog 6 #[stayV op h g m] W fun e w' => e = .returned (.bool true) ∧ Below W.heap.size W w' := by
  letI fc : FC := fcV W h g
  exact @ex_valG (fcV W h g) _ ((kgOr (gk kn8) ((kgOr (kgSel (kgAt 24 [h.v] (.v (.bool true))) (kgAt 24 [g.v] (.v (.bool true)))) ((kgOr (kgAt 21 [.int .i64 op, h.v, g.v] (.t [.g [.y (.int .i64 k), .y (.int .i64 n), .v (.int .i64 0), .v (.slice none 0 0)], .y (.int .i64 e)])) ((kgOr (kgLeaf) ((kgOr (kgAt 9 [h.v, .int .i64 m] (.t [.g [.y (.int .i64 K), .y (.int .i64 N), .v (.int .i64 0), .v (.slice none 0 0)], .v (.bool false)])) ((kgOr (kgSel (kgAt 12 [h.v] (.v (.bool true))) (kgAt 12 [g.v] (.v (.bool false)))) (kgSel (kgAt 28 [h.v, .int .i64 2] (.v (.tuple #[]))) (kgPan 28 [g.v, .int .i64 2] (.iface 34 (.int .i64 1)))))))))))))))) ((kgOr_ok (gk_ok kn8F_ok) ((kgOr_ok (kgSel_ok (kgAt_ok (by simp [bd]) fun w1 hf => by
      have := shallow_is h w1 (vt_less hf.1.2.1.1)
      rw [hf.1.2.2.2.1, hs1] at this
      simpa [den] using this) (kgAt_ok (by simp [bd]) fun w1 hf => by
      have := shallow_is g w1 (vt_less hf.1.2.1.2)
      rw [hf.1.2.2.2.2, hs2] at this
      simpa [den] using this)) ((kgOr_ok (kgAt_ok (by simp [bd, bdL]) fun w1 hf => (hbin w1).mono fun e' w' ⟨he, hb⟩ => ⟨by rw [he]; simp [den, denL, bRes], hb⟩) ((kgOr_ok (kgLeaf_ok) ((kgOr_ok (kgAt_ok (by simp [bd, bdL]) fun w1 hf => (hix w1 hf).mono fun e' w' ⟨he, hb⟩ => ⟨by rw [he]; simp [den, denL, ixRes], hb⟩) ((kgOr_ok (kgSel_ok (kgAt_ok (by simp [bd]) fun w1 hf => by
      have := rr_is h w1 hf.1.2.1.1
      rw [hf.1.2.2.1.1, hA] at this
      simpa [den] using this) (kgAt_ok (by simp [bd]) fun w1 hf => by
      have := rr_is g w1 hf.1.2.1.2
      rw [hf.1.2.2.1.2.2.1, hB] at this
      simpa [den] using this)) (kgSel_ok (kgAt_ok (by simp [bd]) fun w1 hf => by
      have := check_is 39 (by omega) h w1 (vt_less hf.1.2.1.1) 2 (by omega)
      rw [hf.1.2.2.1.2.1, hA9] at this
      simpa [den, ckPost] using this) (kgPan_ok fun w1 hf => by
      have := check_is 39 (by omega) g w1 (vt_less hf.1.2.1.2) 2 (by omega)
      rw [hf.1.2.2.1.2.2.2, hB9] at this
      exact this)))))))))))))) 100000 _ _ [staySV op h g m] [.bool true, .bool false, tw 6 42 (.bool false), .bool true, .bool false, .bool true, .bool false, .bool true, .bool true, tw 6 97 (.bool true), tw 6 102 (.bool true), .bool true, .bool false, .bool true, .bool true] _ [(h.v, h.v), (h.v, h.v), (.int .i64 2, .int .i64 2), (g.v, g.v), (.int .i64 2, .int .i64 2), (h.v, h.v), (.int .i64 2, .int .i64 2), (.bool ((g.len : Int) == 0), .bool true), (.bool ((h.len : Int) == 0), .bool true), (h.v, h.v), (h.v, h.v), (.int .i64 2, .int .i64 2), (g.v, g.v), (.int .i64 2, .int .i64 2), (h.v, h.v), (.int .i64 2, .int .i64 2), (g.v, g.v), (h.v, h.v), (.bool (ownB ⟨1, (rnd m), 0, none, 0, 0⟩), .bool true), (.bool (decide (I64 1)), .bool true), (.bool (decide (I64 ((rnd m)))), .bool true), (.bool (decide (I64 0)), .bool true), (h.v, h.v), (.int .i64 m, .int .i64 m), (.bool (decide (e = 0)), .bool false), (.int .i64 op, .int .i64 op), (h.v, h.v), (g.v, g.v), (g.v, g.v), (h.v, h.v)] W (by kernel_rfl) (by simp [denL, den, staySV, stayV]) (by simp [bdL, bd, staySV]) (AllT.cons (rfl) (AllT.cons (rfl) (AllT.cons (rfl) (AllT.cons (rfl) (AllT.cons (rfl) (AllT.cons (rfl) (AllT.cons (rfl) (AllT.cons (by rw [hf2]) (AllT.cons (by rw [hf1]) (AllT.cons (rfl) (AllT.cons (rfl) (AllT.cons (rfl) (AllT.cons (rfl) (AllT.cons (rfl) (AllT.cons (rfl) (AllT.cons (rfl) (AllT.cons (rfl) (AllT.cons (rfl) (AllT.cons (hl3.1) (AllT.cons (hl3.2.1) (AllT.cons (hl3.2.2) (AllT.cons (rfl) (AllT.cons (rfl) (AllT.cons (rfl) (AllT.cons (by rw [heb]) (AllT.cons (rfl) (AllT.cons (rfl) (AllT.cons (rfl) (AllT.cons (rfl) (AllT.cons (rfl) (AllT.nil))))))))))))))))))))))))))))))) (fcV_at kv kw)
set_option maxHeartbeats 8000000 in
theorem st_00_ff_p (W : World) (op m : Int) (h g : VH) (kv : VT 40 W h) (kw : VT 40 W g) (hs1 : decide (countW 39 W h 60 ≤ 60) = true) (hs2 : decide (countW 39 W g 60 ≤ 60) = true) (k n e : Int) (hbin : ∀ w, Calls Tryd.prog 21 #[.int .i64 op, h.v, g.v] w fun e' w' => e' = .returned (bRes k n e) ∧ Below w.heap.size w w') (heb : decide (e = 0) = false) (K N : Int) (hix : ∀ w, @FcAt (fcV W h g) w → Calls Tryd.prog 9 #[h.v, .int .i64 m] w fun e w' => e = .returned (ixRes K N false) ∧ Below w.heap.size w w') (hl3 : LeafOk 1 (rnd m)) (hA : rightW 40 W h = false) (hA9 : rightW 39 W h = false) (hf1 : ((h.len : Int) == 0) = true) (hf2 : ((g.len : Int) == 0) = false) : Calls Tryd.prog 6 #[stayV op h g m] W fun e w' => e = .returned (.bool true) ∧ Below W.heap.size W w' := by
  letI fc : FC := fcV W h g
  exact @ex_valG (fcV W h g) _ ((kgOr (gk kn8) ((kgOr (kgSel (kgAt 24 [h.v] (.v (.bool true))) (kgAt 24 [g.v] (.v (.bool true)))) ((kgOr (kgAt 21 [.int .i64 op, h.v, g.v] (.t [.g [.y (.int .i64 k), .y (.int .i64 n), .v (.int .i64 0), .v (.slice none 0 0)], .y (.int .i64 e)])) ((kgOr (kgLeaf) ((kgOr (kgAt 9 [h.v, .int .i64 m] (.t [.g [.y (.int .i64 K), .y (.int .i64 N), .v (.int .i64 0), .v (.slice none 0 0)], .v (.bool false)])) ((kgOr (kgSel (kgAt 12 [h.v] (.v (.bool false))) (kgAt 12 [h.v] (.v (.bool false)))) (kgSel (kgPan 28 [h.v, .int .i64 2] (.iface 34 (.int .i64 1))) (kgPan 28 [h.v, .int .i64 2] (.iface 34 (.int .i64 1)))))))))))))))) ((kgOr_ok (gk_ok kn8F_ok) ((kgOr_ok (kgSel_ok (kgAt_ok (by simp [bd]) fun w1 hf => by
      have := shallow_is h w1 (vt_less hf.1.2.1.1)
      rw [hf.1.2.2.2.1, hs1] at this
      simpa [den] using this) (kgAt_ok (by simp [bd]) fun w1 hf => by
      have := shallow_is g w1 (vt_less hf.1.2.1.2)
      rw [hf.1.2.2.2.2, hs2] at this
      simpa [den] using this)) ((kgOr_ok (kgAt_ok (by simp [bd, bdL]) fun w1 hf => (hbin w1).mono fun e' w' ⟨he, hb⟩ => ⟨by rw [he]; simp [den, denL, bRes], hb⟩) ((kgOr_ok (kgLeaf_ok) ((kgOr_ok (kgAt_ok (by simp [bd, bdL]) fun w1 hf => (hix w1 hf).mono fun e' w' ⟨he, hb⟩ => ⟨by rw [he]; simp [den, denL, ixRes], hb⟩) ((kgOr_ok (kgSel_ok (kgAt_ok (by simp [bd]) fun w1 hf => by
      have := rr_is h w1 hf.1.2.1.1
      rw [hf.1.2.2.1.1, hA] at this
      simpa [den] using this) (kgAt_ok (by simp [bd]) fun w1 hf => by
      have := rr_is h w1 hf.1.2.1.1
      rw [hf.1.2.2.1.1, hA] at this
      simpa [den] using this)) (kgSel_ok (kgPan_ok fun w1 hf => by
      have := check_is 39 (by omega) h w1 (vt_less hf.1.2.1.1) 2 (by omega)
      rw [hf.1.2.2.1.2.1, hA9] at this
      exact this) (kgPan_ok fun w1 hf => by
      have := check_is 39 (by omega) h w1 (vt_less hf.1.2.1.1) 2 (by omega)
      rw [hf.1.2.2.1.2.1, hA9] at this
      exact this)))))))))))))) 100000 _ _ [staySV op h g m] [.bool true, .bool false, tw 6 42 (.bool false), .bool true, .bool true, .bool true, tw 6 97 (.bool true), tw 6 102 (.bool false)] _ [(.bool ((g.len : Int) == 0), .bool false), (.bool ((h.len : Int) == 0), .bool true), (h.v, h.v), (.int .i64 2, .int .i64 2), (h.v, h.v), (.int .i64 2, .int .i64 2), (h.v, h.v), (.bool (ownB ⟨1, (rnd m), 0, none, 0, 0⟩), .bool true), (.bool (decide (I64 1)), .bool true), (.bool (decide (I64 ((rnd m)))), .bool true), (.bool (decide (I64 0)), .bool true), (h.v, h.v), (.int .i64 m, .int .i64 m), (.bool (decide (e = 0)), .bool false), (.int .i64 op, .int .i64 op), (h.v, h.v), (g.v, g.v), (g.v, g.v), (h.v, h.v)] W (by kernel_rfl) (by simp [denL, den, staySV, stayV]) (by simp [bdL, bd, staySV]) (AllT.cons (by rw [hf2]) (AllT.cons (by rw [hf1]) (AllT.cons (rfl) (AllT.cons (rfl) (AllT.cons (rfl) (AllT.cons (rfl) (AllT.cons (rfl) (AllT.cons (hl3.1) (AllT.cons (hl3.2.1) (AllT.cons (hl3.2.2) (AllT.cons (rfl) (AllT.cons (rfl) (AllT.cons (rfl) (AllT.cons (by rw [heb]) (AllT.cons (rfl) (AllT.cons (rfl) (AllT.cons (rfl) (AllT.cons (rfl) (AllT.cons (rfl) (AllT.nil)))))))))))))))))))) (fcV_at kv kw)
set_option maxHeartbeats 8000000 in
theorem st_01_tt_ft_p (W : World) (op m : Int) (h g : VH) (kv : VT 40 W h) (kw : VT 40 W g) (hs1 : decide (countW 39 W h 60 ≤ 60) = true) (hs2 : decide (countW 39 W g 60 ≤ 60) = true) (k n e : Int) (hbin : ∀ w, Calls Tryd.prog 21 #[.int .i64 op, h.v, g.v] w fun e' w' => e' = .returned (bRes k n e) ∧ Below w.heap.size w w') (heb : decide (e = 0) = false) (K N : Int) (hix : ∀ w, @FcAt (fcV W h g) w → Calls Tryd.prog 9 #[h.v, .int .i64 m] w fun e w' => e = .returned (ixRes K N true) ∧ Below w.heap.size w w') (hl2 : LeafOk K N) (hl3 : LeafOk 1 (rnd m)) (hA : rightW 40 W h = true) (hA9 : rightW 39 W h = true) (hB : rightW 40 W g = true) (hB9 : rightW 39 W g = false) (hf1 : ((h.len : Int) == 0) = true) (hf2 : ((g.len : Int) == 0) = false) : Calls Tryd.prog 6 #[stayV op h g m] W fun e w' => e = .returned (.bool true) ∧ Below W.heap.size W w' := by
  letI fc : FC := fcV W h g
  exact @ex_valG (fcV W h g) _ ((kgOr (gk kn8) ((kgOr (kgSel (kgAt 24 [h.v] (.v (.bool true))) (kgAt 24 [g.v] (.v (.bool true)))) ((kgOr (kgAt 21 [.int .i64 op, h.v, g.v] (.t [.g [.y (.int .i64 k), .y (.int .i64 n), .v (.int .i64 0), .v (.slice none 0 0)], .y (.int .i64 e)])) ((kgOr (kgLeaf) ((kgOr (kgAt 9 [h.v, .int .i64 m] (.t [.g [.y (.int .i64 K), .y (.int .i64 N), .v (.int .i64 0), .v (.slice none 0 0)], .v (.bool true)])) ((kgOr (kgSel (kgAt 12 [h.v] (.v (.bool true))) (kgAt 12 [g.v] (.v (.bool true)))) (kgSel (kgAt 28 [h.v, .int .i64 2] (.v (.tuple #[]))) (kgPan 28 [g.v, .int .i64 2] (.iface 34 (.int .i64 1)))))))))))))))) ((kgOr_ok (gk_ok kn8F_ok) ((kgOr_ok (kgSel_ok (kgAt_ok (by simp [bd]) fun w1 hf => by
      have := shallow_is h w1 (vt_less hf.1.2.1.1)
      rw [hf.1.2.2.2.1, hs1] at this
      simpa [den] using this) (kgAt_ok (by simp [bd]) fun w1 hf => by
      have := shallow_is g w1 (vt_less hf.1.2.1.2)
      rw [hf.1.2.2.2.2, hs2] at this
      simpa [den] using this)) ((kgOr_ok (kgAt_ok (by simp [bd, bdL]) fun w1 hf => (hbin w1).mono fun e' w' ⟨he, hb⟩ => ⟨by rw [he]; simp [den, denL, bRes], hb⟩) ((kgOr_ok (kgLeaf_ok) ((kgOr_ok (kgAt_ok (by simp [bd, bdL]) fun w1 hf => (hix w1 hf).mono fun e' w' ⟨he, hb⟩ => ⟨by rw [he]; simp [den, denL, ixRes], hb⟩) ((kgOr_ok (kgSel_ok (kgAt_ok (by simp [bd]) fun w1 hf => by
      have := rr_is h w1 hf.1.2.1.1
      rw [hf.1.2.2.1.1, hA] at this
      simpa [den] using this) (kgAt_ok (by simp [bd]) fun w1 hf => by
      have := rr_is g w1 hf.1.2.1.2
      rw [hf.1.2.2.1.2.2.1, hB] at this
      simpa [den] using this)) (kgSel_ok (kgAt_ok (by simp [bd]) fun w1 hf => by
      have := check_is 39 (by omega) h w1 (vt_less hf.1.2.1.1) 2 (by omega)
      rw [hf.1.2.2.1.2.1, hA9] at this
      simpa [den, ckPost] using this) (kgPan_ok fun w1 hf => by
      have := check_is 39 (by omega) g w1 (vt_less hf.1.2.1.2) 2 (by omega)
      rw [hf.1.2.2.1.2.2.2, hB9] at this
      exact this)))))))))))))) 100000 _ _ [staySV op h g m] [.bool true, .bool false, tw 6 42 (.bool false), .bool true, .bool false, .bool true, .bool false, .bool true, .bool true, tw 6 97 (.bool true), tw 6 102 (.bool false)] _ [(.bool ((g.len : Int) == 0), .bool false), (.bool ((h.len : Int) == 0), .bool true), (h.v, h.v), (h.v, h.v), (.int .i64 2, .int .i64 2), (g.v, g.v), (.int .i64 2, .int .i64 2), (h.v, h.v), (.int .i64 2, .int .i64 2), (g.v, g.v), (h.v, h.v), (.bool (ownB ⟨1, (rnd m), 0, none, 0, 0⟩), .bool true), (.bool (decide (I64 1)), .bool true), (.bool (decide (I64 ((rnd m)))), .bool true), (.bool (decide (I64 0)), .bool true), (.bool (ownB ⟨K, N, 0, none, 0, 0⟩), .bool true), (.bool (decide (I64 K)), .bool true), (.bool (decide (I64 (N))), .bool true), (.bool (decide (I64 0)), .bool true), (h.v, h.v), (.int .i64 m, .int .i64 m), (.bool (decide (e = 0)), .bool false), (.int .i64 op, .int .i64 op), (h.v, h.v), (g.v, g.v), (g.v, g.v), (h.v, h.v)] W (by kernel_rfl) (by simp [denL, den, staySV, stayV]) (by simp [bdL, bd, staySV]) (AllT.cons (by rw [hf2]) (AllT.cons (by rw [hf1]) (AllT.cons (rfl) (AllT.cons (rfl) (AllT.cons (rfl) (AllT.cons (rfl) (AllT.cons (rfl) (AllT.cons (rfl) (AllT.cons (rfl) (AllT.cons (rfl) (AllT.cons (rfl) (AllT.cons (hl3.1) (AllT.cons (hl3.2.1) (AllT.cons (hl3.2.2) (AllT.cons (rfl) (AllT.cons (hl2.1) (AllT.cons (hl2.2.1) (AllT.cons (hl2.2.2) (AllT.cons (rfl) (AllT.cons (rfl) (AllT.cons (rfl) (AllT.cons (by rw [heb]) (AllT.cons (rfl) (AllT.cons (rfl) (AllT.cons (rfl) (AllT.cons (rfl) (AllT.cons (rfl) (AllT.nil)))))))))))))))))))))))))))) (fcV_at kv kw)
set_option maxHeartbeats 8000000 in
theorem st_01_ft_f_n (W : World) (op m : Int) (h g : VH) (kv : VT 40 W h) (kw : VT 40 W g) (hs1 : decide (countW 39 W h 60 ≤ 60) = true) (hs2 : decide (countW 39 W g 60 ≤ 60) = true) (k n e : Int) (hbin : ∀ w, Calls Tryd.prog 21 #[.int .i64 op, h.v, g.v] w fun e' w' => e' = .returned (bRes k n e) ∧ Below w.heap.size w w') (heb : decide (e = 0) = false) (K N : Int) (hix : ∀ w, @FcAt (fcV W h g) w → Calls Tryd.prog 9 #[h.v, .int .i64 m] w fun e w' => e = .returned (ixRes K N true) ∧ Below w.heap.size w w') (hl2 : LeafOk K N) (hl3 : LeafOk 1 (rnd m)) (hA : rightW 40 W h = true) (hA9 : rightW 39 W h = false) (hB : rightW 40 W g = false) (hf1 : ((h.len : Int) == 0) = false) : Calls Tryd.prog 6 #[stayV op h g m] W fun e w' => e = .returned (.bool true) ∧ Below W.heap.size W w' := by
  letI fc : FC := fcV W h g
  exact @ex_valG (fcV W h g) _ ((kgOr (gk kn8) ((kgOr (kgSel (kgAt 24 [h.v] (.v (.bool true))) (kgAt 24 [g.v] (.v (.bool true)))) ((kgOr (kgAt 21 [.int .i64 op, h.v, g.v] (.t [.g [.y (.int .i64 k), .y (.int .i64 n), .v (.int .i64 0), .v (.slice none 0 0)], .y (.int .i64 e)])) ((kgOr (kgLeaf) ((kgOr (kgAt 9 [h.v, .int .i64 m] (.t [.g [.y (.int .i64 K), .y (.int .i64 N), .v (.int .i64 0), .v (.slice none 0 0)], .v (.bool true)])) ((kgOr (kgSel (kgAt 12 [h.v] (.v (.bool true))) (kgAt 12 [g.v] (.v (.bool false)))) (kgSel (kgPan 28 [h.v, .int .i64 2] (.iface 34 (.int .i64 1))) (kgPan 28 [h.v, .int .i64 2] (.iface 34 (.int .i64 1)))))))))))))))) ((kgOr_ok (gk_ok kn8F_ok) ((kgOr_ok (kgSel_ok (kgAt_ok (by simp [bd]) fun w1 hf => by
      have := shallow_is h w1 (vt_less hf.1.2.1.1)
      rw [hf.1.2.2.2.1, hs1] at this
      simpa [den] using this) (kgAt_ok (by simp [bd]) fun w1 hf => by
      have := shallow_is g w1 (vt_less hf.1.2.1.2)
      rw [hf.1.2.2.2.2, hs2] at this
      simpa [den] using this)) ((kgOr_ok (kgAt_ok (by simp [bd, bdL]) fun w1 hf => (hbin w1).mono fun e' w' ⟨he, hb⟩ => ⟨by rw [he]; simp [den, denL, bRes], hb⟩) ((kgOr_ok (kgLeaf_ok) ((kgOr_ok (kgAt_ok (by simp [bd, bdL]) fun w1 hf => (hix w1 hf).mono fun e' w' ⟨he, hb⟩ => ⟨by rw [he]; simp [den, denL, ixRes], hb⟩) ((kgOr_ok (kgSel_ok (kgAt_ok (by simp [bd]) fun w1 hf => by
      have := rr_is h w1 hf.1.2.1.1
      rw [hf.1.2.2.1.1, hA] at this
      simpa [den] using this) (kgAt_ok (by simp [bd]) fun w1 hf => by
      have := rr_is g w1 hf.1.2.1.2
      rw [hf.1.2.2.1.2.2.1, hB] at this
      simpa [den] using this)) (kgSel_ok (kgPan_ok fun w1 hf => by
      have := check_is 39 (by omega) h w1 (vt_less hf.1.2.1.1) 2 (by omega)
      rw [hf.1.2.2.1.2.1, hA9] at this
      exact this) (kgPan_ok fun w1 hf => by
      have := check_is 39 (by omega) h w1 (vt_less hf.1.2.1.1) 2 (by omega)
      rw [hf.1.2.2.1.2.1, hA9] at this
      exact this)))))))))))))) 100000 _ _ [staySV op h g m] [.bool true, .bool false, tw 6 42 (.bool false), .bool true, .bool false, .bool true, .bool true, tw 6 97 (.bool false)] _ [(.bool ((h.len : Int) == 0), .bool false), (h.v, h.v), (.int .i64 2, .int .i64 2), (h.v, h.v), (.int .i64 2, .int .i64 2), (g.v, g.v), (h.v, h.v), (.bool (ownB ⟨1, (rnd m), 0, none, 0, 0⟩), .bool true), (.bool (decide (I64 1)), .bool true), (.bool (decide (I64 ((rnd m)))), .bool true), (.bool (decide (I64 0)), .bool true), (.bool (ownB ⟨K, N, 0, none, 0, 0⟩), .bool true), (.bool (decide (I64 K)), .bool true), (.bool (decide (I64 (N))), .bool true), (.bool (decide (I64 0)), .bool true), (h.v, h.v), (.int .i64 m, .int .i64 m), (.bool (decide (e = 0)), .bool false), (.int .i64 op, .int .i64 op), (h.v, h.v), (g.v, g.v), (g.v, g.v), (h.v, h.v)] W (by kernel_rfl) (by simp [denL, den, staySV, stayV]) (by simp [bdL, bd, staySV]) (AllT.cons (by rw [hf1]) (AllT.cons (rfl) (AllT.cons (rfl) (AllT.cons (rfl) (AllT.cons (rfl) (AllT.cons (rfl) (AllT.cons (rfl) (AllT.cons (hl3.1) (AllT.cons (hl3.2.1) (AllT.cons (hl3.2.2) (AllT.cons (rfl) (AllT.cons (hl2.1) (AllT.cons (hl2.2.1) (AllT.cons (hl2.2.2) (AllT.cons (rfl) (AllT.cons (rfl) (AllT.cons (rfl) (AllT.cons (by rw [heb]) (AllT.cons (rfl) (AllT.cons (rfl) (AllT.cons (rfl) (AllT.cons (rfl) (AllT.cons (rfl) (AllT.nil)))))))))))))))))))))))) (fcV_at kv kw)
set_option maxHeartbeats 8000000 in
theorem st_10_tt_tt_p (W : World) (op m : Int) (h g : VH) (kv : VT 40 W h) (kw : VT 40 W g) (hs1 : decide (countW 39 W h 60 ≤ 60) = true) (hs2 : decide (countW 39 W g 60 ≤ 60) = true) (k n e : Int) (hbin : ∀ w, Calls Tryd.prog 21 #[.int .i64 op, h.v, g.v] w fun e' w' => e' = .returned (bRes k n e) ∧ Below w.heap.size w w') (heb : decide (e = 0) = true) (hl1 : LeafOk k n) (K N : Int) (hix : ∀ w, @FcAt (fcV W h g) w → Calls Tryd.prog 9 #[h.v, .int .i64 m] w fun e w' => e = .returned (ixRes K N false) ∧ Below w.heap.size w w') (hl3 : LeafOk 1 (rnd m)) (hA : rightW 40 W h = true) (hA9 : rightW 39 W h = true) (hB : rightW 40 W g = true) (hB9 : rightW 39 W g = true) (hf1 : ((h.len : Int) == 0) = true) (hf2 : ((g.len : Int) == 0) = false) : Calls Tryd.prog 6 #[stayV op h g m] W fun e w' => e = .returned (.bool true) ∧ Below W.heap.size W w' := by
  letI fc : FC := fcV W h g
  exact @ex_valG (fcV W h g) _ ((kgOr (gk kn8) ((kgOr (kgSel (kgAt 24 [h.v] (.v (.bool true))) (kgAt 24 [g.v] (.v (.bool true)))) ((kgOr (kgAt 21 [.int .i64 op, h.v, g.v] (.t [.g [.y (.int .i64 k), .y (.int .i64 n), .v (.int .i64 0), .v (.slice none 0 0)], .y (.int .i64 e)])) ((kgOr (kgLeaf) ((kgOr (kgAt 9 [h.v, .int .i64 m] (.t [.g [.y (.int .i64 K), .y (.int .i64 N), .v (.int .i64 0), .v (.slice none 0 0)], .v (.bool false)])) ((kgOr (kgSel (kgAt 12 [h.v] (.v (.bool true))) (kgAt 12 [g.v] (.v (.bool true)))) (kgSel (kgAt 28 [h.v, .int .i64 2] (.v (.tuple #[]))) (kgAt 28 [g.v, .int .i64 2] (.v (.tuple #[])))))))))))))))) ((kgOr_ok (gk_ok kn8F_ok) ((kgOr_ok (kgSel_ok (kgAt_ok (by simp [bd]) fun w1 hf => by
      have := shallow_is h w1 (vt_less hf.1.2.1.1)
      rw [hf.1.2.2.2.1, hs1] at this
      simpa [den] using this) (kgAt_ok (by simp [bd]) fun w1 hf => by
      have := shallow_is g w1 (vt_less hf.1.2.1.2)
      rw [hf.1.2.2.2.2, hs2] at this
      simpa [den] using this)) ((kgOr_ok (kgAt_ok (by simp [bd, bdL]) fun w1 hf => (hbin w1).mono fun e' w' ⟨he, hb⟩ => ⟨by rw [he]; simp [den, denL, bRes], hb⟩) ((kgOr_ok (kgLeaf_ok) ((kgOr_ok (kgAt_ok (by simp [bd, bdL]) fun w1 hf => (hix w1 hf).mono fun e' w' ⟨he, hb⟩ => ⟨by rw [he]; simp [den, denL, ixRes], hb⟩) ((kgOr_ok (kgSel_ok (kgAt_ok (by simp [bd]) fun w1 hf => by
      have := rr_is h w1 hf.1.2.1.1
      rw [hf.1.2.2.1.1, hA] at this
      simpa [den] using this) (kgAt_ok (by simp [bd]) fun w1 hf => by
      have := rr_is g w1 hf.1.2.1.2
      rw [hf.1.2.2.1.2.2.1, hB] at this
      simpa [den] using this)) (kgSel_ok (kgAt_ok (by simp [bd]) fun w1 hf => by
      have := check_is 39 (by omega) h w1 (vt_less hf.1.2.1.1) 2 (by omega)
      rw [hf.1.2.2.1.2.1, hA9] at this
      simpa [den, ckPost] using this) (kgAt_ok (by simp [bd]) fun w1 hf => by
      have := check_is 39 (by omega) g w1 (vt_less hf.1.2.1.2) 2 (by omega)
      rw [hf.1.2.2.1.2.2.2, hB9] at this
      simpa [den, ckPost] using this)))))))))))))) 100000 _ _ [staySV op h g m] [.bool true, .bool false, tw 6 42 (.bool true), .bool true, .bool false, .bool true, .bool false, .bool true, .bool true, tw 6 97 (.bool true), tw 6 102 (.bool false)] _ [(.bool ((g.len : Int) == 0), .bool false), (.bool ((h.len : Int) == 0), .bool true), (h.v, h.v), (h.v, h.v), (.int .i64 2, .int .i64 2), (g.v, g.v), (.int .i64 2, .int .i64 2), (h.v, h.v), (.int .i64 2, .int .i64 2), (g.v, g.v), (h.v, h.v), (.bool (ownB ⟨1, (rnd m), 0, none, 0, 0⟩), .bool true), (.bool (decide (I64 1)), .bool true), (.bool (decide (I64 ((rnd m)))), .bool true), (.bool (decide (I64 0)), .bool true), (h.v, h.v), (.int .i64 m, .int .i64 m), (.bool (ownB ⟨k, n, 0, none, 0, 0⟩), .bool true), (.bool (decide (I64 k)), .bool true), (.bool (decide (I64 (n))), .bool true), (.bool (decide (I64 0)), .bool true), (.bool (decide (e = 0)), .bool true), (.int .i64 op, .int .i64 op), (h.v, h.v), (g.v, g.v), (g.v, g.v), (h.v, h.v)] W (by kernel_rfl) (by simp [denL, den, staySV, stayV]) (by simp [bdL, bd, staySV]) (AllT.cons (by rw [hf2]) (AllT.cons (by rw [hf1]) (AllT.cons (rfl) (AllT.cons (rfl) (AllT.cons (rfl) (AllT.cons (rfl) (AllT.cons (rfl) (AllT.cons (rfl) (AllT.cons (rfl) (AllT.cons (rfl) (AllT.cons (rfl) (AllT.cons (hl3.1) (AllT.cons (hl3.2.1) (AllT.cons (hl3.2.2) (AllT.cons (rfl) (AllT.cons (rfl) (AllT.cons (rfl) (AllT.cons (hl1.1) (AllT.cons (hl1.2.1) (AllT.cons (hl1.2.2) (AllT.cons (rfl) (AllT.cons (by rw [heb]) (AllT.cons (rfl) (AllT.cons (rfl) (AllT.cons (rfl) (AllT.cons (rfl) (AllT.cons (rfl) (AllT.nil)))))))))))))))))))))))))))) (fcV_at kv kw)
set_option maxHeartbeats 8000000 in
theorem st_10_tt_ff_y (W : World) (op m : Int) (h g : VH) (kv : VT 40 W h) (kw : VT 40 W g) (hs1 : decide (countW 39 W h 60 ≤ 60) = true) (hs2 : decide (countW 39 W g 60 ≤ 60) = true) (k n e : Int) (hbin : ∀ w, Calls Tryd.prog 21 #[.int .i64 op, h.v, g.v] w fun e' w' => e' = .returned (bRes k n e) ∧ Below w.heap.size w w') (heb : decide (e = 0) = true) (hl1 : LeafOk k n) (K N : Int) (hix : ∀ w, @FcAt (fcV W h g) w → Calls Tryd.prog 9 #[h.v, .int .i64 m] w fun e w' => e = .returned (ixRes K N false) ∧ Below w.heap.size w w') (hl3 : LeafOk 1 (rnd m)) (hA : rightW 40 W h = true) (hA9 : rightW 39 W h = true) (hB : rightW 40 W g = false) (hB9 : rightW 39 W g = false) (hf1 : ((h.len : Int) == 0) = true) (hf2 : ((g.len : Int) == 0) = true) : Calls Tryd.prog 6 #[stayV op h g m] W fun e w' => e = .returned (.bool true) ∧ Below W.heap.size W w' := by
  letI fc : FC := fcV W h g
  exact @ex_valG (fcV W h g) _ ((kgOr (gk kn8) ((kgOr (kgSel (kgAt 24 [h.v] (.v (.bool true))) (kgAt 24 [g.v] (.v (.bool true)))) ((kgOr (kgAt 21 [.int .i64 op, h.v, g.v] (.t [.g [.y (.int .i64 k), .y (.int .i64 n), .v (.int .i64 0), .v (.slice none 0 0)], .y (.int .i64 e)])) ((kgOr (kgLeaf) ((kgOr (kgAt 9 [h.v, .int .i64 m] (.t [.g [.y (.int .i64 K), .y (.int .i64 N), .v (.int .i64 0), .v (.slice none 0 0)], .v (.bool false)])) ((kgOr (kgSel (kgAt 12 [h.v] (.v (.bool true))) (kgAt 12 [g.v] (.v (.bool false)))) (kgSel (kgAt 28 [h.v, .int .i64 2] (.v (.tuple #[]))) (kgPan 28 [g.v, .int .i64 2] (.iface 34 (.int .i64 1)))))))))))))))) ((kgOr_ok (gk_ok kn8F_ok) ((kgOr_ok (kgSel_ok (kgAt_ok (by simp [bd]) fun w1 hf => by
      have := shallow_is h w1 (vt_less hf.1.2.1.1)
      rw [hf.1.2.2.2.1, hs1] at this
      simpa [den] using this) (kgAt_ok (by simp [bd]) fun w1 hf => by
      have := shallow_is g w1 (vt_less hf.1.2.1.2)
      rw [hf.1.2.2.2.2, hs2] at this
      simpa [den] using this)) ((kgOr_ok (kgAt_ok (by simp [bd, bdL]) fun w1 hf => (hbin w1).mono fun e' w' ⟨he, hb⟩ => ⟨by rw [he]; simp [den, denL, bRes], hb⟩) ((kgOr_ok (kgLeaf_ok) ((kgOr_ok (kgAt_ok (by simp [bd, bdL]) fun w1 hf => (hix w1 hf).mono fun e' w' ⟨he, hb⟩ => ⟨by rw [he]; simp [den, denL, ixRes], hb⟩) ((kgOr_ok (kgSel_ok (kgAt_ok (by simp [bd]) fun w1 hf => by
      have := rr_is h w1 hf.1.2.1.1
      rw [hf.1.2.2.1.1, hA] at this
      simpa [den] using this) (kgAt_ok (by simp [bd]) fun w1 hf => by
      have := rr_is g w1 hf.1.2.1.2
      rw [hf.1.2.2.1.2.2.1, hB] at this
      simpa [den] using this)) (kgSel_ok (kgAt_ok (by simp [bd]) fun w1 hf => by
      have := check_is 39 (by omega) h w1 (vt_less hf.1.2.1.1) 2 (by omega)
      rw [hf.1.2.2.1.2.1, hA9] at this
      simpa [den, ckPost] using this) (kgPan_ok fun w1 hf => by
      have := check_is 39 (by omega) g w1 (vt_less hf.1.2.1.2) 2 (by omega)
      rw [hf.1.2.2.1.2.2.2, hB9] at this
      exact this)))))))))))))) 100000 _ _ [staySV op h g m] [.bool true, .bool false, tw 6 42 (.bool true), .bool true, .bool false, .bool true, .bool false, .bool true, .bool true, tw 6 97 (.bool true), tw 6 102 (.bool true), .bool true, .bool false, .bool true, .bool true] _ [(h.v, h.v), (h.v, h.v), (.int .i64 2, .int .i64 2), (g.v, g.v), (.int .i64 2, .int .i64 2), (h.v, h.v), (.int .i64 2, .int .i64 2), (.bool ((g.len : Int) == 0), .bool true), (.bool ((h.len : Int) == 0), .bool true), (h.v, h.v), (h.v, h.v), (.int .i64 2, .int .i64 2), (g.v, g.v), (.int .i64 2, .int .i64 2), (h.v, h.v), (.int .i64 2, .int .i64 2), (g.v, g.v), (h.v, h.v), (.bool (ownB ⟨1, (rnd m), 0, none, 0, 0⟩), .bool true), (.bool (decide (I64 1)), .bool true), (.bool (decide (I64 ((rnd m)))), .bool true), (.bool (decide (I64 0)), .bool true), (h.v, h.v), (.int .i64 m, .int .i64 m), (.bool (ownB ⟨k, n, 0, none, 0, 0⟩), .bool true), (.bool (decide (I64 k)), .bool true), (.bool (decide (I64 (n))), .bool true), (.bool (decide (I64 0)), .bool true), (.bool (decide (e = 0)), .bool true), (.int .i64 op, .int .i64 op), (h.v, h.v), (g.v, g.v), (g.v, g.v), (h.v, h.v)] W (by kernel_rfl) (by simp [denL, den, staySV, stayV]) (by simp [bdL, bd, staySV]) (AllT.cons (rfl) (AllT.cons (rfl) (AllT.cons (rfl) (AllT.cons (rfl) (AllT.cons (rfl) (AllT.cons (rfl) (AllT.cons (rfl) (AllT.cons (by rw [hf2]) (AllT.cons (by rw [hf1]) (AllT.cons (rfl) (AllT.cons (rfl) (AllT.cons (rfl) (AllT.cons (rfl) (AllT.cons (rfl) (AllT.cons (rfl) (AllT.cons (rfl) (AllT.cons (rfl) (AllT.cons (rfl) (AllT.cons (hl3.1) (AllT.cons (hl3.2.1) (AllT.cons (hl3.2.2) (AllT.cons (rfl) (AllT.cons (rfl) (AllT.cons (rfl) (AllT.cons (hl1.1) (AllT.cons (hl1.2.1) (AllT.cons (hl1.2.2) (AllT.cons (rfl) (AllT.cons (by rw [heb]) (AllT.cons (rfl) (AllT.cons (rfl) (AllT.cons (rfl) (AllT.cons (rfl) (AllT.cons (rfl) (AllT.nil))))))))))))))))))))))))))))))))))) (fcV_at kv kw)
set_option maxHeartbeats 8000000 in
theorem st_10_ff_p (W : World) (op m : Int) (h g : VH) (kv : VT 40 W h) (kw : VT 40 W g) (hs1 : decide (countW 39 W h 60 ≤ 60) = true) (hs2 : decide (countW 39 W g 60 ≤ 60) = true) (k n e : Int) (hbin : ∀ w, Calls Tryd.prog 21 #[.int .i64 op, h.v, g.v] w fun e' w' => e' = .returned (bRes k n e) ∧ Below w.heap.size w w') (heb : decide (e = 0) = true) (hl1 : LeafOk k n) (K N : Int) (hix : ∀ w, @FcAt (fcV W h g) w → Calls Tryd.prog 9 #[h.v, .int .i64 m] w fun e w' => e = .returned (ixRes K N false) ∧ Below w.heap.size w w') (hl3 : LeafOk 1 (rnd m)) (hA : rightW 40 W h = false) (hA9 : rightW 39 W h = false) (hf1 : ((h.len : Int) == 0) = true) (hf2 : ((g.len : Int) == 0) = false) : Calls Tryd.prog 6 #[stayV op h g m] W fun e w' => e = .returned (.bool true) ∧ Below W.heap.size W w' := by
  letI fc : FC := fcV W h g
  exact @ex_valG (fcV W h g) _ ((kgOr (gk kn8) ((kgOr (kgSel (kgAt 24 [h.v] (.v (.bool true))) (kgAt 24 [g.v] (.v (.bool true)))) ((kgOr (kgAt 21 [.int .i64 op, h.v, g.v] (.t [.g [.y (.int .i64 k), .y (.int .i64 n), .v (.int .i64 0), .v (.slice none 0 0)], .y (.int .i64 e)])) ((kgOr (kgLeaf) ((kgOr (kgAt 9 [h.v, .int .i64 m] (.t [.g [.y (.int .i64 K), .y (.int .i64 N), .v (.int .i64 0), .v (.slice none 0 0)], .v (.bool false)])) ((kgOr (kgSel (kgAt 12 [h.v] (.v (.bool false))) (kgAt 12 [h.v] (.v (.bool false)))) (kgSel (kgPan 28 [h.v, .int .i64 2] (.iface 34 (.int .i64 1))) (kgPan 28 [h.v, .int .i64 2] (.iface 34 (.int .i64 1)))))))))))))))) ((kgOr_ok (gk_ok kn8F_ok) ((kgOr_ok (kgSel_ok (kgAt_ok (by simp [bd]) fun w1 hf => by
      have := shallow_is h w1 (vt_less hf.1.2.1.1)
      rw [hf.1.2.2.2.1, hs1] at this
      simpa [den] using this) (kgAt_ok (by simp [bd]) fun w1 hf => by
      have := shallow_is g w1 (vt_less hf.1.2.1.2)
      rw [hf.1.2.2.2.2, hs2] at this
      simpa [den] using this)) ((kgOr_ok (kgAt_ok (by simp [bd, bdL]) fun w1 hf => (hbin w1).mono fun e' w' ⟨he, hb⟩ => ⟨by rw [he]; simp [den, denL, bRes], hb⟩) ((kgOr_ok (kgLeaf_ok) ((kgOr_ok (kgAt_ok (by simp [bd, bdL]) fun w1 hf => (hix w1 hf).mono fun e' w' ⟨he, hb⟩ => ⟨by rw [he]; simp [den, denL, ixRes], hb⟩) ((kgOr_ok (kgSel_ok (kgAt_ok (by simp [bd]) fun w1 hf => by
      have := rr_is h w1 hf.1.2.1.1
      rw [hf.1.2.2.1.1, hA] at this
      simpa [den] using this) (kgAt_ok (by simp [bd]) fun w1 hf => by
      have := rr_is h w1 hf.1.2.1.1
      rw [hf.1.2.2.1.1, hA] at this
      simpa [den] using this)) (kgSel_ok (kgPan_ok fun w1 hf => by
      have := check_is 39 (by omega) h w1 (vt_less hf.1.2.1.1) 2 (by omega)
      rw [hf.1.2.2.1.2.1, hA9] at this
      exact this) (kgPan_ok fun w1 hf => by
      have := check_is 39 (by omega) h w1 (vt_less hf.1.2.1.1) 2 (by omega)
      rw [hf.1.2.2.1.2.1, hA9] at this
      exact this)))))))))))))) 100000 _ _ [staySV op h g m] [.bool true, .bool false, tw 6 42 (.bool true), .bool true, .bool true, .bool true, tw 6 97 (.bool true), tw 6 102 (.bool false)] _ [(.bool ((g.len : Int) == 0), .bool false), (.bool ((h.len : Int) == 0), .bool true), (h.v, h.v), (.int .i64 2, .int .i64 2), (h.v, h.v), (.int .i64 2, .int .i64 2), (h.v, h.v), (.bool (ownB ⟨1, (rnd m), 0, none, 0, 0⟩), .bool true), (.bool (decide (I64 1)), .bool true), (.bool (decide (I64 ((rnd m)))), .bool true), (.bool (decide (I64 0)), .bool true), (h.v, h.v), (.int .i64 m, .int .i64 m), (.bool (ownB ⟨k, n, 0, none, 0, 0⟩), .bool true), (.bool (decide (I64 k)), .bool true), (.bool (decide (I64 (n))), .bool true), (.bool (decide (I64 0)), .bool true), (.bool (decide (e = 0)), .bool true), (.int .i64 op, .int .i64 op), (h.v, h.v), (g.v, g.v), (g.v, g.v), (h.v, h.v)] W (by kernel_rfl) (by simp [denL, den, staySV, stayV]) (by simp [bdL, bd, staySV]) (AllT.cons (by rw [hf2]) (AllT.cons (by rw [hf1]) (AllT.cons (rfl) (AllT.cons (rfl) (AllT.cons (rfl) (AllT.cons (rfl) (AllT.cons (rfl) (AllT.cons (hl3.1) (AllT.cons (hl3.2.1) (AllT.cons (hl3.2.2) (AllT.cons (rfl) (AllT.cons (rfl) (AllT.cons (rfl) (AllT.cons (hl1.1) (AllT.cons (hl1.2.1) (AllT.cons (hl1.2.2) (AllT.cons (rfl) (AllT.cons (by rw [heb]) (AllT.cons (rfl) (AllT.cons (rfl) (AllT.cons (rfl) (AllT.cons (rfl) (AllT.cons (rfl) (AllT.nil)))))))))))))))))))))))) (fcV_at kv kw)
set_option maxHeartbeats 8000000 in
theorem st_11_tt_ft_p (W : World) (op m : Int) (h g : VH) (kv : VT 40 W h) (kw : VT 40 W g) (hs1 : decide (countW 39 W h 60 ≤ 60) = true) (hs2 : decide (countW 39 W g 60 ≤ 60) = true) (k n e : Int) (hbin : ∀ w, Calls Tryd.prog 21 #[.int .i64 op, h.v, g.v] w fun e' w' => e' = .returned (bRes k n e) ∧ Below w.heap.size w w') (heb : decide (e = 0) = true) (hl1 : LeafOk k n) (K N : Int) (hix : ∀ w, @FcAt (fcV W h g) w → Calls Tryd.prog 9 #[h.v, .int .i64 m] w fun e w' => e = .returned (ixRes K N true) ∧ Below w.heap.size w w') (hl2 : LeafOk K N) (hl3 : LeafOk 1 (rnd m)) (hA : rightW 40 W h = true) (hA9 : rightW 39 W h = true) (hB : rightW 40 W g = true) (hB9 : rightW 39 W g = false) (hf1 : ((h.len : Int) == 0) = true) (hf2 : ((g.len : Int) == 0) = false) : Calls Tryd.prog 6 #[stayV op h g m] W fun e w' => e = .returned (.bool true) ∧ Below W.heap.size W w' := by
  letI fc : FC := fcV W h g
  exact @ex_valG (fcV W h g) _ ((kgOr (gk kn8) ((kgOr (kgSel (kgAt 24 [h.v] (.v (.bool true))) (kgAt 24 [g.v] (.v (.bool true)))) ((kgOr (kgAt 21 [.int .i64 op, h.v, g.v] (.t [.g [.y (.int .i64 k), .y (.int .i64 n), .v (.int .i64 0), .v (.slice none 0 0)], .y (.int .i64 e)])) ((kgOr (kgLeaf) ((kgOr (kgAt 9 [h.v, .int .i64 m] (.t [.g [.y (.int .i64 K), .y (.int .i64 N), .v (.int .i64 0), .v (.slice none 0 0)], .v (.bool true)])) ((kgOr (kgSel (kgAt 12 [h.v] (.v (.bool true))) (kgAt 12 [g.v] (.v (.bool true)))) (kgSel (kgAt 28 [h.v, .int .i64 2] (.v (.tuple #[]))) (kgPan 28 [g.v, .int .i64 2] (.iface 34 (.int .i64 1)))))))))))))))) ((kgOr_ok (gk_ok kn8F_ok) ((kgOr_ok (kgSel_ok (kgAt_ok (by simp [bd]) fun w1 hf => by
      have := shallow_is h w1 (vt_less hf.1.2.1.1)
      rw [hf.1.2.2.2.1, hs1] at this
      simpa [den] using this) (kgAt_ok (by simp [bd]) fun w1 hf => by
      have := shallow_is g w1 (vt_less hf.1.2.1.2)
      rw [hf.1.2.2.2.2, hs2] at this
      simpa [den] using this)) ((kgOr_ok (kgAt_ok (by simp [bd, bdL]) fun w1 hf => (hbin w1).mono fun e' w' ⟨he, hb⟩ => ⟨by rw [he]; simp [den, denL, bRes], hb⟩) ((kgOr_ok (kgLeaf_ok) ((kgOr_ok (kgAt_ok (by simp [bd, bdL]) fun w1 hf => (hix w1 hf).mono fun e' w' ⟨he, hb⟩ => ⟨by rw [he]; simp [den, denL, ixRes], hb⟩) ((kgOr_ok (kgSel_ok (kgAt_ok (by simp [bd]) fun w1 hf => by
      have := rr_is h w1 hf.1.2.1.1
      rw [hf.1.2.2.1.1, hA] at this
      simpa [den] using this) (kgAt_ok (by simp [bd]) fun w1 hf => by
      have := rr_is g w1 hf.1.2.1.2
      rw [hf.1.2.2.1.2.2.1, hB] at this
      simpa [den] using this)) (kgSel_ok (kgAt_ok (by simp [bd]) fun w1 hf => by
      have := check_is 39 (by omega) h w1 (vt_less hf.1.2.1.1) 2 (by omega)
      rw [hf.1.2.2.1.2.1, hA9] at this
      simpa [den, ckPost] using this) (kgPan_ok fun w1 hf => by
      have := check_is 39 (by omega) g w1 (vt_less hf.1.2.1.2) 2 (by omega)
      rw [hf.1.2.2.1.2.2.2, hB9] at this
      exact this)))))))))))))) 100000 _ _ [staySV op h g m] [.bool true, .bool false, tw 6 42 (.bool true), .bool true, .bool false, .bool true, .bool false, .bool true, .bool true, tw 6 97 (.bool true), tw 6 102 (.bool false)] _ [(.bool ((g.len : Int) == 0), .bool false), (.bool ((h.len : Int) == 0), .bool true), (h.v, h.v), (h.v, h.v), (.int .i64 2, .int .i64 2), (g.v, g.v), (.int .i64 2, .int .i64 2), (h.v, h.v), (.int .i64 2, .int .i64 2), (g.v, g.v), (h.v, h.v), (.bool (ownB ⟨1, (rnd m), 0, none, 0, 0⟩), .bool true), (.bool (decide (I64 1)), .bool true), (.bool (decide (I64 ((rnd m)))), .bool true), (.bool (decide (I64 0)), .bool true), (.bool (ownB ⟨K, N, 0, none, 0, 0⟩), .bool true), (.bool (decide (I64 K)), .bool true), (.bool (decide (I64 (N))), .bool true), (.bool (decide (I64 0)), .bool true), (h.v, h.v), (.int .i64 m, .int .i64 m), (.bool (ownB ⟨k, n, 0, none, 0, 0⟩), .bool true), (.bool (decide (I64 k)), .bool true), (.bool (decide (I64 (n))), .bool true), (.bool (decide (I64 0)), .bool true), (.bool (decide (e = 0)), .bool true), (.int .i64 op, .int .i64 op), (h.v, h.v), (g.v, g.v), (g.v, g.v), (h.v, h.v)] W (by kernel_rfl) (by simp [denL, den, staySV, stayV]) (by simp [bdL, bd, staySV]) (AllT.cons (by rw [hf2]) (AllT.cons (by rw [hf1]) (AllT.cons (rfl) (AllT.cons (rfl) (AllT.cons (rfl) (AllT.cons (rfl) (AllT.cons (rfl) (AllT.cons (rfl) (AllT.cons (rfl) (AllT.cons (rfl) (AllT.cons (rfl) (AllT.cons (hl3.1) (AllT.cons (hl3.2.1) (AllT.cons (hl3.2.2) (AllT.cons (rfl) (AllT.cons (hl2.1) (AllT.cons (hl2.2.1) (AllT.cons (hl2.2.2) (AllT.cons (rfl) (AllT.cons (rfl) (AllT.cons (rfl) (AllT.cons (hl1.1) (AllT.cons (hl1.2.1) (AllT.cons (hl1.2.2) (AllT.cons (rfl) (AllT.cons (by rw [heb]) (AllT.cons (rfl) (AllT.cons (rfl) (AllT.cons (rfl) (AllT.cons (rfl) (AllT.cons (rfl) (AllT.nil)))))))))))))))))))))))))))))))) (fcV_at kv kw)
set_option maxHeartbeats 8000000 in
theorem st_11_ft_f_n (W : World) (op m : Int) (h g : VH) (kv : VT 40 W h) (kw : VT 40 W g) (hs1 : decide (countW 39 W h 60 ≤ 60) = true) (hs2 : decide (countW 39 W g 60 ≤ 60) = true) (k n e : Int) (hbin : ∀ w, Calls Tryd.prog 21 #[.int .i64 op, h.v, g.v] w fun e' w' => e' = .returned (bRes k n e) ∧ Below w.heap.size w w') (heb : decide (e = 0) = true) (hl1 : LeafOk k n) (K N : Int) (hix : ∀ w, @FcAt (fcV W h g) w → Calls Tryd.prog 9 #[h.v, .int .i64 m] w fun e w' => e = .returned (ixRes K N true) ∧ Below w.heap.size w w') (hl2 : LeafOk K N) (hl3 : LeafOk 1 (rnd m)) (hA : rightW 40 W h = true) (hA9 : rightW 39 W h = false) (hB : rightW 40 W g = false) (hf1 : ((h.len : Int) == 0) = false) : Calls Tryd.prog 6 #[stayV op h g m] W fun e w' => e = .returned (.bool true) ∧ Below W.heap.size W w' := by
  letI fc : FC := fcV W h g
  exact @ex_valG (fcV W h g) _ ((kgOr (gk kn8) ((kgOr (kgSel (kgAt 24 [h.v] (.v (.bool true))) (kgAt 24 [g.v] (.v (.bool true)))) ((kgOr (kgAt 21 [.int .i64 op, h.v, g.v] (.t [.g [.y (.int .i64 k), .y (.int .i64 n), .v (.int .i64 0), .v (.slice none 0 0)], .y (.int .i64 e)])) ((kgOr (kgLeaf) ((kgOr (kgAt 9 [h.v, .int .i64 m] (.t [.g [.y (.int .i64 K), .y (.int .i64 N), .v (.int .i64 0), .v (.slice none 0 0)], .v (.bool true)])) ((kgOr (kgSel (kgAt 12 [h.v] (.v (.bool true))) (kgAt 12 [g.v] (.v (.bool false)))) (kgSel (kgPan 28 [h.v, .int .i64 2] (.iface 34 (.int .i64 1))) (kgPan 28 [h.v, .int .i64 2] (.iface 34 (.int .i64 1)))))))))))))))) ((kgOr_ok (gk_ok kn8F_ok) ((kgOr_ok (kgSel_ok (kgAt_ok (by simp [bd]) fun w1 hf => by
      have := shallow_is h w1 (vt_less hf.1.2.1.1)
      rw [hf.1.2.2.2.1, hs1] at this
      simpa [den] using this) (kgAt_ok (by simp [bd]) fun w1 hf => by
      have := shallow_is g w1 (vt_less hf.1.2.1.2)
      rw [hf.1.2.2.2.2, hs2] at this
      simpa [den] using this)) ((kgOr_ok (kgAt_ok (by simp [bd, bdL]) fun w1 hf => (hbin w1).mono fun e' w' ⟨he, hb⟩ => ⟨by rw [he]; simp [den, denL, bRes], hb⟩) ((kgOr_ok (kgLeaf_ok) ((kgOr_ok (kgAt_ok (by simp [bd, bdL]) fun w1 hf => (hix w1 hf).mono fun e' w' ⟨he, hb⟩ => ⟨by rw [he]; simp [den, denL, ixRes], hb⟩) ((kgOr_ok (kgSel_ok (kgAt_ok (by simp [bd]) fun w1 hf => by
      have := rr_is h w1 hf.1.2.1.1
      rw [hf.1.2.2.1.1, hA] at this
      simpa [den] using this) (kgAt_ok (by simp [bd]) fun w1 hf => by
      have := rr_is g w1 hf.1.2.1.2
      rw [hf.1.2.2.1.2.2.1, hB] at this
      simpa [den] using this)) (kgSel_ok (kgPan_ok fun w1 hf => by
      have := check_is 39 (by omega) h w1 (vt_less hf.1.2.1.1) 2 (by omega)
      rw [hf.1.2.2.1.2.1, hA9] at this
      exact this) (kgPan_ok fun w1 hf => by
      have := check_is 39 (by omega) h w1 (vt_less hf.1.2.1.1) 2 (by omega)
      rw [hf.1.2.2.1.2.1, hA9] at this
      exact this)))))))))))))) 100000 _ _ [staySV op h g m] [.bool true, .bool false, tw 6 42 (.bool true), .bool true, .bool false, .bool true, .bool true, tw 6 97 (.bool false)] _ [(.bool ((h.len : Int) == 0), .bool false), (h.v, h.v), (.int .i64 2, .int .i64 2), (h.v, h.v), (.int .i64 2, .int .i64 2), (g.v, g.v), (h.v, h.v), (.bool (ownB ⟨1, (rnd m), 0, none, 0, 0⟩), .bool true), (.bool (decide (I64 1)), .bool true), (.bool (decide (I64 ((rnd m)))), .bool true), (.bool (decide (I64 0)), .bool true), (.bool (ownB ⟨K, N, 0, none, 0, 0⟩), .bool true), (.bool (decide (I64 K)), .bool true), (.bool (decide (I64 (N))), .bool true), (.bool (decide (I64 0)), .bool true), (h.v, h.v), (.int .i64 m, .int .i64 m), (.bool (ownB ⟨k, n, 0, none, 0, 0⟩), .bool true), (.bool (decide (I64 k)), .bool true), (.bool (decide (I64 (n))), .bool true), (.bool (decide (I64 0)), .bool true), (.bool (decide (e = 0)), .bool true), (.int .i64 op, .int .i64 op), (h.v, h.v), (g.v, g.v), (g.v, g.v), (h.v, h.v)] W (by kernel_rfl) (by simp [denL, den, staySV, stayV]) (by simp [bdL, bd, staySV]) (AllT.cons (by rw [hf1]) (AllT.cons (rfl) (AllT.cons (rfl) (AllT.cons (rfl) (AllT.cons (rfl) (AllT.cons (rfl) (AllT.cons (rfl) (AllT.cons (hl3.1) (AllT.cons (hl3.2.1) (AllT.cons (hl3.2.2) (AllT.cons (rfl) (AllT.cons (hl2.1) (AllT.cons (hl2.2.1) (AllT.cons (hl2.2.2) (AllT.cons (rfl) (AllT.cons (rfl) (AllT.cons (rfl) (AllT.cons (hl1.1) (AllT.cons (hl1.2.1) (AllT.cons (hl1.2.2) (AllT.cons (rfl) (AllT.cons (by rw [heb]) (AllT.cons (rfl) (AllT.cons (rfl) (AllT.cons (rfl) (AllT.cons (rfl) (AllT.cons (rfl) (AllT.nil)))))))))))))))))))))))))))) (fcV_at kv kw)
end Go.Proofs.YtoijdnlplbeomaaDoor


/-
  Layer 8: runs of ValueStaysValid, part 6.
-/
namespace Go.Proofs.YtoijdnlplbeomaaDoor
open Go Go.RowKit EX
set_option maxRecDepth 100000
set_option linter.unusedVariables false
set_option linter.unusedSimpArgs false
set_option linter.unusedSectionVars false
set_option maxHeartbeats 8000000 in
theorem st_00_tt_tt_y (W : World) (op m : Int) (h g : VH) (kv : VT 40 W h) (kw : VT 40 W g) (hs1 : decide (countW 39 W h 60 ≤ 60) = true) (hs2 : decide (countW 39 W g 60 ≤ 60) = true) (k n e : Int) (hbin : ∀ w, Calls Tryd.prog 21 #[.int .i64 op, h.v, g.v] w fun e' w' => e' = .returned (bRes k n e) ∧ Below w.heap.size w w') (heb : decide (e = 0) = false) (K N : Int) (hix : ∀ w, @FcAt (fcV W h g) w → Calls Tryd.prog 9 #[h.v, .int .i64 m] w fun e w' => e = .returned (ixRes K N false) ∧ Below w.heap.size w w') (hl3 : LeafOk 1 (rnd m)) (hA : rightW 40 W h = true) (hA9 : rightW 39 W h = true) (hB : rightW 40 W g = true) (hB9 : rightW 39 W g = true) (hf1 : ((h.len : Int) == 0) = true) (hf2 : ((g.len : Int) == 0) = true) : Calls Tryd.prog 6 #[stayV op h g m] W fun e w' => e = .returned (.bool true) ∧ Below W.heap.size W w' := by
  letI fc : FC := fcV W h g
  exact @ex_valG (fcV W h g) _ ((kgOr (gk kn8) ((kgOr (kgSel (kgAt 24 [h.v] (.v (.bool true))) (kgAt 24 [g.v] (.v (.bool true)))) ((kgOr (kgAt 21 [.int .i64 op, h.v, g.v] (.t [.g [.y (.int .i64 k), .y (.int .i64 n), .v (.int .i64 0), .v (.slice none 0 0)], .y (.int .i64 e)])) ((kgOr (kgLeaf) ((kgOr (kgAt 9 [h.v, .int .i64 m] (.t [.g [.y (.int .i64 K), .y (.int .i64 N), .v (.int .i64 0), .v (.slice none 0 0)], .v (.bool false)])) ((kgOr (kgSel (kgAt 12 [h.v] (.v (.bool true))) (kgAt 12 [g.v] (.v (.bool true)))) (kgSel (kgAt 28 [h.v, .int .i64 2] (.v (.tuple #[]))) (kgAt 28 [g.v, .int .i64 2] (.v (.tuple #[])))))))))))))))) ((kgOr_ok (gk_ok kn8F_ok) ((kgOr_ok (kgSel_ok (kgAt_ok (by simp [bd]) fun w1 hf => by
      have := shallow_is h w1 (vt_less hf.1.2.1.1)
      rw [hf.1.2.2.2.1, hs1] at this
      simpa [den] using this) (kgAt_ok (by simp [bd]) fun w1 hf => by
      have := shallow_is g w1 (vt_less hf.1.2.1.2)
      rw [hf.1.2.2.2.2, hs2] at this
      simpa [den] using this)) ((kgOr_ok (kgAt_ok (by simp [bd, bdL]) fun w1 hf => (hbin w1).mono fun e' w' ⟨he, hb⟩ => ⟨by rw [he]; simp [den, denL, bRes], hb⟩) ((kgOr_ok (kgLeaf_ok) ((kgOr_ok (kgAt_ok (by simp [bd, bdL]) fun w1 hf => (hix w1 hf).mono fun e' w' ⟨he, hb⟩ => ⟨by rw [he]; simp [den, denL, ixRes], hb⟩) ((kgOr_ok (kgSel_ok (kgAt_ok (by simp [bd]) fun w1 hf => by
      have := rr_is h w1 hf.1.2.1.1
      rw [hf.1.2.2.1.1, hA] at this
      simpa [den] using this) (kgAt_ok (by simp [bd]) fun w1 hf => by
      have := rr_is g w1 hf.1.2.1.2
      rw [hf.1.2.2.1.2.2.1, hB] at this
      simpa [den] using this)) (kgSel_ok (kgAt_ok (by simp [bd]) fun w1 hf => by
      have := check_is 39 (by omega) h w1 (vt_less hf.1.2.1.1) 2 (by omega)
      rw [hf.1.2.2.1.2.1, hA9] at this
      simpa [den, ckPost] using this) (kgAt_ok (by simp [bd]) fun w1 hf => by
      have := check_is 39 (by omega) g w1 (vt_less hf.1.2.1.2) 2 (by omega)
      rw [hf.1.2.2.1.2.2.2, hB9] at this
      simpa [den, ckPost] using this)))))))))))))) 100000 _ _ [staySV op h g m] [.bool true, .bool false, tw 6 42 (.bool false), .bool true, .bool false, .bool true, .bool false, .bool true, .bool true, tw 6 97 (.bool true), tw 6 102 (.bool true), .bool true, .bool false, .bool true, .bool true] _ [(h.v, h.v), (h.v, h.v), (.int .i64 2, .int .i64 2), (g.v, g.v), (.int .i64 2, .int .i64 2), (h.v, h.v), (.int .i64 2, .int .i64 2), (.bool ((g.len : Int) == 0), .bool true), (.bool ((h.len : Int) == 0), .bool true), (h.v, h.v), (h.v, h.v), (.int .i64 2, .int .i64 2), (g.v, g.v), (.int .i64 2, .int .i64 2), (h.v, h.v), (.int .i64 2, .int .i64 2), (g.v, g.v), (h.v, h.v), (.bool (ownB ⟨1, (rnd m), 0, none, 0, 0⟩), .bool true), (.bool (decide (I64 1)), .bool true), (.bool (decide (I64 ((rnd m)))), .bool true), (.bool (decide (I64 0)), .bool true), (h.v, h.v), (.int .i64 m, .int .i64 m), (.bool (decide (e = 0)), .bool false), (.int .i64 op, .int .i64 op), (h.v, h.v), (g.v, g.v), (g.v, g.v), (h.v, h.v)] W (by kernel_rfl) (by simp [denL, den, staySV, stayV]) (by simp [bdL, bd, staySV]) (AllT.cons (rfl) (AllT.cons (rfl) (AllT.cons (rfl) (AllT.cons (rfl) (AllT.cons (rfl) (AllT.cons (rfl) (AllT.cons (rfl) (AllT.cons (by rw [hf2]) (AllT.cons (by rw [hf1]) (AllT.cons (rfl) (AllT.cons (rfl) (AllT.cons (rfl) (AllT.cons (rfl) (AllT.cons (rfl) (AllT.cons (rfl) (AllT.cons (rfl) (AllT.cons (rfl) (AllT.cons (rfl) (AllT.cons (hl3.1) (AllT.cons (hl3.2.1) (AllT.cons (hl3.2.2) (AllT.cons (rfl) (AllT.cons (rfl) (AllT.cons (rfl) (AllT.cons (by rw [heb]) (AllT.cons (rfl) (AllT.cons (rfl) (AllT.cons (rfl) (AllT.cons (rfl) (AllT.cons (rfl) (AllT.nil))))))))))))))))))))))))))))))) (fcV_at kv kw)
set_option maxHeartbeats 8000000 in
theorem st_00_ft_t_n (W : World) (op m : Int) (h g : VH) (kv : VT 40 W h) (kw : VT 40 W g) (hs1 : decide (countW 39 W h 60 ≤ 60) = true) (hs2 : decide (countW 39 W g 60 ≤ 60) = true) (k n e : Int) (hbin : ∀ w, Calls Tryd.prog 21 #[.int .i64 op, h.v, g.v] w fun e' w' => e' = .returned (bRes k n e) ∧ Below w.heap.size w w') (heb : decide (e = 0) = false) (K N : Int) (hix : ∀ w, @FcAt (fcV W h g) w → Calls Tryd.prog 9 #[h.v, .int .i64 m] w fun e w' => e = .returned (ixRes K N false) ∧ Below w.heap.size w w') (hl3 : LeafOk 1 (rnd m)) (hA : rightW 40 W h = true) (hA9 : rightW 39 W h = false) (hB : rightW 40 W g = true) (hf1 : ((h.len : Int) == 0) = false) : Calls Tryd.prog 6 #[stayV op h g m] W fun e w' => e = .returned (.bool true) ∧ Below W.heap.size W w' := by
  letI fc : FC := fcV W h g
  exact @ex_valG (fcV W h g) _ ((kgOr (gk kn8) ((kgOr (kgSel (kgAt 24 [h.v] (.v (.bool true))) (kgAt 24 [g.v] (.v (.bool true)))) ((kgOr (kgAt 21 [.int .i64 op, h.v, g.v] (.t [.g [.y (.int .i64 k), .y (.int .i64 n), .v (.int .i64 0), .v (.slice none 0 0)], .y (.int .i64 e)])) ((kgOr (kgLeaf) ((kgOr (kgAt 9 [h.v, .int .i64 m] (.t [.g [.y (.int .i64 K), .y (.int .i64 N), .v (.int .i64 0), .v (.slice none 0 0)], .v (.bool false)])) ((kgOr (kgSel (kgAt 12 [h.v] (.v (.bool true))) (kgAt 12 [g.v] (.v (.bool true)))) (kgSel (kgPan 28 [h.v, .int .i64 2] (.iface 34 (.int .i64 1))) (kgPan 28 [h.v, .int .i64 2] (.iface 34 (.int .i64 1)))))))))))))))) ((kgOr_ok (gk_ok kn8F_ok) ((kgOr_ok (kgSel_ok (kgAt_ok (by simp [bd]) fun w1 hf => by
      have := shallow_is h w1 (vt_less hf.1.2.1.1)
      rw [hf.1.2.2.2.1, hs1] at this
      simpa [den] using this) (kgAt_ok (by simp [bd]) fun w1 hf => by
      have := shallow_is g w1 (vt_less hf.1.2.1.2)
      rw [hf.1.2.2.2.2, hs2] at this
      simpa [den] using this)) ((kgOr_ok (kgAt_ok (by simp [bd, bdL]) fun w1 hf => (hbin w1).mono fun e' w' ⟨he, hb⟩ => ⟨by rw [he]; simp [den, denL, bRes], hb⟩) ((kgOr_ok (kgLeaf_ok) ((kgOr_ok (kgAt_ok (by simp [bd, bdL]) fun w1 hf => (hix w1 hf).mono fun e' w' ⟨he, hb⟩ => ⟨by rw [he]; simp [den, denL, ixRes], hb⟩) ((kgOr_ok (kgSel_ok (kgAt_ok (by simp [bd]) fun w1 hf => by
      have := rr_is h w1 hf.1.2.1.1
      rw [hf.1.2.2.1.1, hA] at this
      simpa [den] using this) (kgAt_ok (by simp [bd]) fun w1 hf => by
      have := rr_is g w1 hf.1.2.1.2
      rw [hf.1.2.2.1.2.2.1, hB] at this
      simpa [den] using this)) (kgSel_ok (kgPan_ok fun w1 hf => by
      have := check_is 39 (by omega) h w1 (vt_less hf.1.2.1.1) 2 (by omega)
      rw [hf.1.2.2.1.2.1, hA9] at this
      exact this) (kgPan_ok fun w1 hf => by
      have := check_is 39 (by omega) h w1 (vt_less hf.1.2.1.1) 2 (by omega)
      rw [hf.1.2.2.1.2.1, hA9] at this
      exact this)))))))))))))) 100000 _ _ [staySV op h g m] [.bool true, .bool false, tw 6 42 (.bool false), .bool true, .bool false, .bool true, .bool true, tw 6 97 (.bool false)] _ [(.bool ((h.len : Int) == 0), .bool false), (h.v, h.v), (.int .i64 2, .int .i64 2), (h.v, h.v), (.int .i64 2, .int .i64 2), (g.v, g.v), (h.v, h.v), (.bool (ownB ⟨1, (rnd m), 0, none, 0, 0⟩), .bool true), (.bool (decide (I64 1)), .bool true), (.bool (decide (I64 ((rnd m)))), .bool true), (.bool (decide (I64 0)), .bool true), (h.v, h.v), (.int .i64 m, .int .i64 m), (.bool (decide (e = 0)), .bool false), (.int .i64 op, .int .i64 op), (h.v, h.v), (g.v, g.v), (g.v, g.v), (h.v, h.v)] W (by kernel_rfl) (by simp [denL, den, staySV, stayV]) (by simp [bdL, bd, staySV]) (AllT.cons (by rw [hf1]) (AllT.cons (rfl) (AllT.cons (rfl) (AllT.cons (rfl) (AllT.cons (rfl) (AllT.cons (rfl) (AllT.cons (rfl) (AllT.cons (hl3.1) (AllT.cons (hl3.2.1) (AllT.cons (hl3.2.2) (AllT.cons (rfl) (AllT.cons (rfl) (AllT.cons (rfl) (AllT.cons (by rw [heb]) (AllT.cons (rfl) (AllT.cons (rfl) (AllT.cons (rfl) (AllT.cons (rfl) (AllT.cons (rfl) (AllT.nil)))))))))))))))))))) (fcV_at kv kw)
set_option maxHeartbeats 8000000 in
theorem st_00_ff_y (W : World) (op m : Int) (h g : VH) (kv : VT 40 W h) (kw : VT 40 W g) (hs1 : decide (countW 39 W h 60 ≤ 60) = true) (hs2 : decide (countW 39 W g 60 ≤ 60) = true) (k n e : Int) (hbin : ∀ w, Calls Tryd.prog 21 #[.int .i64 op, h.v, g.v] w fun e' w' => e' = .returned (bRes k n e) ∧ Below w.heap.size w w') (heb : decide (e = 0) = false) (K N : Int) (hix : ∀ w, @FcAt (fcV W h g) w → Calls Tryd.prog 9 #[h.v, .int .i64 m] w fun e w' => e = .returned (ixRes K N false) ∧ Below w.heap.size w w') (hl3 : LeafOk 1 (rnd m)) (hA : rightW 40 W h = false) (hA9 : rightW 39 W h = false) (hf1 : ((h.len : Int) == 0) = true) (hf2 : ((g.len : Int) == 0) = true) : Calls Tryd.prog 6 #[stayV op h g m] W fun e w' => e = .returned (.bool true) ∧ Below W.heap.size W w' := by
  letI fc : FC := fcV W h g
  exact @ex_valG (fcV W h g) _ ((kgOr (gk kn8) ((kgOr (kgSel (kgAt 24 [h.v] (.v (.bool true))) (kgAt 24 [g.v] (.v (.bool true)))) ((kgOr (kgAt 21 [.int .i64 op, h.v, g.v] (.t [.g [.y (.int .i64 k), .y (.int .i64 n), .v (.int .i64 0), .v (.slice none 0 0)], .y (.int .i64 e)])) ((kgOr (kgLeaf) ((kgOr (kgAt 9 [h.v, .int .i64 m] (.t [.g [.y (.int .i64 K), .y (.int .i64 N), .v (.int .i64 0), .v (.slice none 0 0)], .v (.bool false)])) ((kgOr (kgSel (kgAt 12 [h.v] (.v (.bool false))) (kgAt 12 [h.v] (.v (.bool false)))) (kgSel (kgPan 28 [h.v, .int .i64 2] (.iface 34 (.int .i64 1))) (kgPan 28 [h.v, .int .i64 2] (.iface 34 (.int .i64 1)))))))))))))))) ((kgOr_ok (gk_ok kn8F_ok) ((kgOr_ok (kgSel_ok (kgAt_ok (by simp [bd]) fun w1 hf => by
      have := shallow_is h w1 (vt_less hf.1.2.1.1)
      rw [hf.1.2.2.2.1, hs1] at this
      simpa [den] using this) (kgAt_ok (by simp [bd]) fun w1 hf => by
      have := shallow_is g w1 (vt_less hf.1.2.1.2)
      rw [hf.1.2.2.2.2, hs2] at this
      simpa [den] using this)) ((kgOr_ok (kgAt_ok (by simp [bd, bdL]) fun w1 hf => (hbin w1).mono fun e' w' ⟨he, hb⟩ => ⟨by rw [he]; simp [den, denL, bRes], hb⟩) ((kgOr_ok (kgLeaf_ok) ((kgOr_ok (kgAt_ok (by simp [bd, bdL]) fun w1 hf => (hix w1 hf).mono fun e' w' ⟨he, hb⟩ => ⟨by rw [he]; simp [den, denL, ixRes], hb⟩) ((kgOr_ok (kgSel_ok (kgAt_ok (by simp [bd]) fun w1 hf => by
      have := rr_is h w1 hf.1.2.1.1
      rw [hf.1.2.2.1.1, hA] at this
      simpa [den] using this) (kgAt_ok (by simp [bd]) fun w1 hf => by
      have := rr_is h w1 hf.1.2.1.1
      rw [hf.1.2.2.1.1, hA] at this
      simpa [den] using this)) (kgSel_ok (kgPan_ok fun w1 hf => by
      have := check_is 39 (by omega) h w1 (vt_less hf.1.2.1.1) 2 (by omega)
      rw [hf.1.2.2.1.2.1, hA9] at this
      exact this) (kgPan_ok fun w1 hf => by
      have := check_is 39 (by omega) h w1 (vt_less hf.1.2.1.1) 2 (by omega)
      rw [hf.1.2.2.1.2.1, hA9] at this
      exact this)))))))))))))) 100000 _ _ [staySV op h g m] [.bool true, .bool false, tw 6 42 (.bool false), .bool true, .bool true, .bool true, tw 6 97 (.bool true), tw 6 102 (.bool true), .bool true, .bool true, .bool true] _ [(h.v, h.v), (h.v, h.v), (.int .i64 2, .int .i64 2), (h.v, h.v), (.int .i64 2, .int .i64 2), (.bool ((g.len : Int) == 0), .bool true), (.bool ((h.len : Int) == 0), .bool true), (h.v, h.v), (.int .i64 2, .int .i64 2), (h.v, h.v), (.int .i64 2, .int .i64 2), (h.v, h.v), (.bool (ownB ⟨1, (rnd m), 0, none, 0, 0⟩), .bool true), (.bool (decide (I64 1)), .bool true), (.bool (decide (I64 ((rnd m)))), .bool true), (.bool (decide (I64 0)), .bool true), (h.v, h.v), (.int .i64 m, .int .i64 m), (.bool (decide (e = 0)), .bool false), (.int .i64 op, .int .i64 op), (h.v, h.v), (g.v, g.v), (g.v, g.v), (h.v, h.v)] W (by kernel_rfl) (by simp [denL, den, staySV, stayV]) (by simp [bdL, bd, staySV]) (AllT.cons (rfl) (AllT.cons (rfl) (AllT.cons (rfl) (AllT.cons (rfl) (AllT.cons (rfl) (AllT.cons (by rw [hf2]) (AllT.cons (by rw [hf1]) (AllT.cons (rfl) (AllT.cons (rfl) (AllT.cons (rfl) (AllT.cons (rfl) (AllT.cons (rfl) (AllT.cons (hl3.1) (AllT.cons (hl3.2.1) (AllT.cons (hl3.2.2) (AllT.cons (rfl) (AllT.cons (rfl) (AllT.cons (rfl) (AllT.cons (by rw [heb]) (AllT.cons (rfl) (AllT.cons (rfl) (AllT.cons (rfl) (AllT.cons (rfl) (AllT.cons (rfl) (AllT.nil))))))))))))))))))))))))) (fcV_at kv kw)
set_option maxHeartbeats 8000000 in
theorem st_01_tt_ff_n (W : World) (op m : Int) (h g : VH) (kv : VT 40 W h) (kw : VT 40 W g) (hs1 : decide (countW 39 W h 60 ≤ 60) = true) (hs2 : decide (countW 39 W g 60 ≤ 60) = true) (k n e : Int) (hbin : ∀ w, Calls Tryd.prog 21 #[.int .i64 op, h.v, g.v] w fun e' w' => e' = .returned (bRes k n e) ∧ Below w.heap.size w w') (heb : decide (e = 0) = false) (K N : Int) (hix : ∀ w, @FcAt (fcV W h g) w → Calls Tryd.prog 9 #[h.v, .int .i64 m] w fun e w' => e = .returned (ixRes K N true) ∧ Below w.heap.size w w') (hl2 : LeafOk K N) (hl3 : LeafOk 1 (rnd m)) (hA : rightW 40 W h = true) (hA9 : rightW 39 W h = true) (hB : rightW 40 W g = false) (hB9 : rightW 39 W g = false) (hf1 : ((h.len : Int) == 0) = false) : Calls Tryd.prog 6 #[stayV op h g m] W fun e w' => e = .returned (.bool true) ∧ Below W.heap.size W w' := by
  letI fc : FC := fcV W h g
  exact @ex_valG (fcV W h g) _ ((kgOr (gk kn8) ((kgOr (kgSel (kgAt 24 [h.v] (.v (.bool true))) (kgAt 24 [g.v] (.v (.bool true)))) ((kgOr (kgAt 21 [.int .i64 op, h.v, g.v] (.t [.g [.y (.int .i64 k), .y (.int .i64 n), .v (.int .i64 0), .v (.slice none 0 0)], .y (.int .i64 e)])) ((kgOr (kgLeaf) ((kgOr (kgAt 9 [h.v, .int .i64 m] (.t [.g [.y (.int .i64 K), .y (.int .i64 N), .v (.int .i64 0), .v (.slice none 0 0)], .v (.bool true)])) ((kgOr (kgSel (kgAt 12 [h.v] (.v (.bool true))) (kgAt 12 [g.v] (.v (.bool false)))) (kgSel (kgAt 28 [h.v, .int .i64 2] (.v (.tuple #[]))) (kgPan 28 [g.v, .int .i64 2] (.iface 34 (.int .i64 1)))))))))))))))) ((kgOr_ok (gk_ok kn8F_ok) ((kgOr_ok (kgSel_ok (kgAt_ok (by simp [bd]) fun w1 hf => by
      have := shallow_is h w1 (vt_less hf.1.2.1.1)
      rw [hf.1.2.2.2.1, hs1] at this
      simpa [den] using this) (kgAt_ok (by simp [bd]) fun w1 hf => by
      have := shallow_is g w1 (vt_less hf.1.2.1.2)
      rw [hf.1.2.2.2.2, hs2] at this
      simpa [den] using this)) ((kgOr_ok (kgAt_ok (by simp [bd, bdL]) fun w1 hf => (hbin w1).mono fun e' w' ⟨he, hb⟩ => ⟨by rw [he]; simp [den, denL, bRes], hb⟩) ((kgOr_ok (kgLeaf_ok) ((kgOr_ok (kgAt_ok (by simp [bd, bdL]) fun w1 hf => (hix w1 hf).mono fun e' w' ⟨he, hb⟩ => ⟨by rw [he]; simp [den, denL, ixRes], hb⟩) ((kgOr_ok (kgSel_ok (kgAt_ok (by simp [bd]) fun w1 hf => by
      have := rr_is h w1 hf.1.2.1.1
      rw [hf.1.2.2.1.1, hA] at this
      simpa [den] using this) (kgAt_ok (by simp [bd]) fun w1 hf => by
      have := rr_is g w1 hf.1.2.1.2
      rw [hf.1.2.2.1.2.2.1, hB] at this
      simpa [den] using this)) (kgSel_ok (kgAt_ok (by simp [bd]) fun w1 hf => by
      have := check_is 39 (by omega) h w1 (vt_less hf.1.2.1.1) 2 (by omega)
      rw [hf.1.2.2.1.2.1, hA9] at this
      simpa [den, ckPost] using this) (kgPan_ok fun w1 hf => by
      have := check_is 39 (by omega) g w1 (vt_less hf.1.2.1.2) 2 (by omega)
      rw [hf.1.2.2.1.2.2.2, hB9] at this
      exact this)))))))))))))) 100000 _ _ [staySV op h g m] [.bool true, .bool false, tw 6 42 (.bool false), .bool true, .bool false, .bool true, .bool false, .bool true, .bool true, tw 6 97 (.bool false)] _ [(.bool ((h.len : Int) == 0), .bool false), (h.v, h.v), (h.v, h.v), (.int .i64 2, .int .i64 2), (g.v, g.v), (.int .i64 2, .int .i64 2), (h.v, h.v), (.int .i64 2, .int .i64 2), (g.v, g.v), (h.v, h.v), (.bool (ownB ⟨1, (rnd m), 0, none, 0, 0⟩), .bool true), (.bool (decide (I64 1)), .bool true), (.bool (decide (I64 ((rnd m)))), .bool true), (.bool (decide (I64 0)), .bool true), (.bool (ownB ⟨K, N, 0, none, 0, 0⟩), .bool true), (.bool (decide (I64 K)), .bool true), (.bool (decide (I64 (N))), .bool true), (.bool (decide (I64 0)), .bool true), (h.v, h.v), (.int .i64 m, .int .i64 m), (.bool (decide (e = 0)), .bool false), (.int .i64 op, .int .i64 op), (h.v, h.v), (g.v, g.v), (g.v, g.v), (h.v, h.v)] W (by kernel_rfl) (by simp [denL, den, staySV, stayV]) (by simp [bdL, bd, staySV]) (AllT.cons (by rw [hf1]) (AllT.cons (rfl) (AllT.cons (rfl) (AllT.cons (rfl) (AllT.cons (rfl) (AllT.cons (rfl) (AllT.cons (rfl) (AllT.cons (rfl) (AllT.cons (rfl) (AllT.cons (rfl) (AllT.cons (hl3.1) (AllT.cons (hl3.2.1) (AllT.cons (hl3.2.2) (AllT.cons (rfl) (AllT.cons (hl2.1) (AllT.cons (hl2.2.1) (AllT.cons (hl2.2.2) (AllT.cons (rfl) (AllT.cons (rfl) (AllT.cons (rfl) (AllT.cons (by rw [heb]) (AllT.cons (rfl) (AllT.cons (rfl) (AllT.cons (rfl) (AllT.cons (rfl) (AllT.cons (rfl) (AllT.nil))))))))))))))))))))))))))) (fcV_at kv kw)
set_option maxHeartbeats 8000000 in
theorem st_01_ft_f_p (W : World) (op m : Int) (h g : VH) (kv : VT 40 W h) (kw : VT 40 W g) (hs1 : decide (countW 39 W h 60 ≤ 60) = true) (hs2 : decide (countW 39 W g 60 ≤ 60) = true) (k n e : Int) (hbin : ∀ w, Calls Tryd.prog 21 #[.int .i64 op, h.v, g.v] w fun e' w' => e' = .returned (bRes k n e) ∧ Below w.heap.size w w') (heb : decide (e = 0) = false) (K N : Int) (hix : ∀ w, @FcAt (fcV W h g) w → Calls Tryd.prog 9 #[h.v, .int .i64 m] w fun e w' => e = .returned (ixRes K N true) ∧ Below w.heap.size w w') (hl2 : LeafOk K N) (hl3 : LeafOk 1 (rnd m)) (hA : rightW 40 W h = true) (hA9 : rightW 39 W h = false) (hB : rightW 40 W g = false) (hf1 : ((h.len : Int) == 0) = true) (hf2 : ((g.len : Int) == 0) = false) : Calls Tryd.prog 6 #[stayV op h g m] W fun e w' => e = .returned (.bool true) ∧ Below W.heap.size W w' := by
  letI fc : FC := fcV W h g
  exact @ex_valG (fcV W h g) _ ((kgOr (gk kn8) ((kgOr (kgSel (kgAt 24 [h.v] (.v (.bool true))) (kgAt 24 [g.v] (.v (.bool true)))) ((kgOr (kgAt 21 [.int .i64 op, h.v, g.v] (.t [.g [.y (.int .i64 k), .y (.int .i64 n), .v (.int .i64 0), .v (.slice none 0 0)], .y (.int .i64 e)])) ((kgOr (kgLeaf) ((kgOr (kgAt 9 [h.v, .int .i64 m] (.t [.g [.y (.int .i64 K), .y (.int .i64 N), .v (.int .i64 0), .v (.slice none 0 0)], .v (.bool true)])) ((kgOr (kgSel (kgAt 12 [h.v] (.v (.bool true))) (kgAt 12 [g.v] (.v (.bool false)))) (kgSel (kgPan 28 [h.v, .int .i64 2] (.iface 34 (.int .i64 1))) (kgPan 28 [h.v, .int .i64 2] (.iface 34 (.int .i64 1)))))))))))))))) ((kgOr_ok (gk_ok kn8F_ok) ((kgOr_ok (kgSel_ok (kgAt_ok (by simp [bd]) fun w1 hf => by
      have := shallow_is h w1 (vt_less hf.1.2.1.1)
      rw [hf.1.2.2.2.1, hs1] at this
      simpa [den] using this) (kgAt_ok (by simp [bd]) fun w1 hf => by
      have := shallow_is g w1 (vt_less hf.1.2.1.2)
      rw [hf.1.2.2.2.2, hs2] at this
      simpa [den] using this)) ((kgOr_ok (kgAt_ok (by simp [bd, bdL]) fun w1 hf => (hbin w1).mono fun e' w' ⟨he, hb⟩ => ⟨by rw [he]; simp [den, denL, bRes], hb⟩) ((kgOr_ok (kgLeaf_ok) ((kgOr_ok (kgAt_ok (by simp [bd, bdL]) fun w1 hf => (hix w1 hf).mono fun e' w' ⟨he, hb⟩ => ⟨by rw [he]; simp [den, denL, ixRes], hb⟩) ((kgOr_ok (kgSel_ok (kgAt_ok (by simp [bd]) fun w1 hf => by
      have := rr_is h w1 hf.1.2.1.1
      rw [hf.1.2.2.1.1, hA] at this
      simpa [den] using this) (kgAt_ok (by simp [bd]) fun w1 hf => by
      have := rr_is g w1 hf.1.2.1.2
      rw [hf.1.2.2.1.2.2.1, hB] at this
      simpa [den] using this)) (kgSel_ok (kgPan_ok fun w1 hf => by
      have := check_is 39 (by omega) h w1 (vt_less hf.1.2.1.1) 2 (by omega)
      rw [hf.1.2.2.1.2.1, hA9] at this
      exact this) (kgPan_ok fun w1 hf => by
      have := check_is 39 (by omega) h w1 (vt_less hf.1.2.1.1) 2 (by omega)
      rw [hf.1.2.2.1.2.1, hA9] at this
      exact this)))))))))))))) 100000 _ _ [staySV op h g m] [.bool true, .bool false, tw 6 42 (.bool false), .bool true, .bool false, .bool true, .bool true, tw 6 97 (.bool true), tw 6 102 (.bool false)] _ [(.bool ((g.len : Int) == 0), .bool false), (.bool ((h.len : Int) == 0), .bool true), (h.v, h.v), (.int .i64 2, .int .i64 2), (h.v, h.v), (.int .i64 2, .int .i64 2), (g.v, g.v), (h.v, h.v), (.bool (ownB ⟨1, (rnd m), 0, none, 0, 0⟩), .bool true), (.bool (decide (I64 1)), .bool true), (.bool (decide (I64 ((rnd m)))), .bool true), (.bool (decide (I64 0)), .bool true), (.bool (ownB ⟨K, N, 0, none, 0, 0⟩), .bool true), (.bool (decide (I64 K)), .bool true), (.bool (decide (I64 (N))), .bool true), (.bool (decide (I64 0)), .bool true), (h.v, h.v), (.int .i64 m, .int .i64 m), (.bool (decide (e = 0)), .bool false), (.int .i64 op, .int .i64 op), (h.v, h.v), (g.v, g.v), (g.v, g.v), (h.v, h.v)] W (by kernel_rfl) (by simp [denL, den, staySV, stayV]) (by simp [bdL, bd, staySV]) (AllT.cons (by rw [hf2]) (AllT.cons (by rw [hf1]) (AllT.cons (rfl) (AllT.cons (rfl) (AllT.cons (rfl) (AllT.cons (rfl) (AllT.cons (rfl) (AllT.cons (rfl) (AllT.cons (hl3.1) (AllT.cons (hl3.2.1) (AllT.cons (hl3.2.2) (AllT.cons (rfl) (AllT.cons (hl2.1) (AllT.cons (hl2.2.1) (AllT.cons (hl2.2.2) (AllT.cons (rfl) (AllT.cons (rfl) (AllT.cons (rfl) (AllT.cons (by rw [heb]) (AllT.cons (rfl) (AllT.cons (rfl) (AllT.cons (rfl) (AllT.cons (rfl) (AllT.cons (rfl) (AllT.nil))))))))))))))))))))))))) (fcV_at kv kw)
set_option maxHeartbeats 8000000 in
theorem st_10_tt_tt_y (W : World) (op m : Int) (h g : VH) (kv : VT 40 W h) (kw : VT 40 W g) (hs1 : decide (countW 39 W h 60 ≤ 60) = true) (hs2 : decide (countW 39 W g 60 ≤ 60) = true) (k n e : Int) (hbin : ∀ w, Calls Tryd.prog 21 #[.int .i64 op, h.v, g.v] w fun e' w' => e' = .returned (bRes k n e) ∧ Below w.heap.size w w') (heb : decide (e = 0) = true) (hl1 : LeafOk k n) (K N : Int) (hix : ∀ w, @FcAt (fcV W h g) w → Calls Tryd.prog 9 #[h.v, .int .i64 m] w fun e w' => e = .returned (ixRes K N false) ∧ Below w.heap.size w w') (hl3 : LeafOk 1 (rnd m)) (hA : rightW 40 W h = true) (hA9 : rightW 39 W h = true) (hB : rightW 40 W g = true) (hB9 : rightW 39 W g = true) (hf1 : ((h.len : Int) == 0) = true) (hf2 : ((g.len : Int) == 0) = true) : Calls Tryd.prog 6 #[stayV op h g m] W fun e w' => e = .returned (.bool true) ∧ Below W.heap.size W w' := by
  letI fc : FC := fcV W h g
  exact @ex_valG (fcV W h g) _ ((kgOr (gk kn8) ((kgOr (kgSel (kgAt 24 [h.v] (.v (.bool true))) (kgAt 24 [g.v] (.v (.bool true)))) ((kgOr (kgAt 21 [.int .i64 op, h.v, g.v] (.t [.g [.y (.int .i64 k), .y (.int .i64 n), .v (.int .i64 0), .v (.slice none 0 0)], .y (.int .i64 e)])) ((kgOr (kgLeaf) ((kgOr (kgAt 9 [h.v, .int .i64 m] (.t [.g [.y (.int .i64 K), .y (.int .i64 N), .v (.int .i64 0), .v (.slice none 0 0)], .v (.bool false)])) ((kgOr (kgSel (kgAt 12 [h.v] (.v (.bool true))) (kgAt 12 [g.v] (.v (.bool true)))) (kgSel (kgAt 28 [h.v, .int .i64 2] (.v (.tuple #[]))) (kgAt 28 [g.v, .int .i64 2] (.v (.tuple #[])))))))))))))))) ((kgOr_ok (gk_ok kn8F_ok) ((kgOr_ok (kgSel_ok (kgAt_ok (by simp [bd]) fun w1 hf => by
      have := shallow_is h w1 (vt_less hf.1.2.1.1)
      rw [hf.1.2.2.2.1, hs1] at this
      simpa [den] using this) (kgAt_ok (by simp [bd]) fun w1 hf => by
      have := shallow_is g w1 (vt_less hf.1.2.1.2)
      rw [hf.1.2.2.2.2, hs2] at this
      simpa [den] using this)) ((kgOr_ok (kgAt_ok (by simp [bd, bdL]) fun w1 hf => (hbin w1).mono fun e' w' ⟨he, hb⟩ => ⟨by rw [he]; simp [den, denL, bRes], hb⟩) ((kgOr_ok (kgLeaf_ok) ((kgOr_ok (kgAt_ok (by simp [bd, bdL]) fun w1 hf => (hix w1 hf).mono fun e' w' ⟨he, hb⟩ => ⟨by rw [he]; simp [den, denL, ixRes], hb⟩) ((kgOr_ok (kgSel_ok (kgAt_ok (by simp [bd]) fun w1 hf => by
      have := rr_is h w1 hf.1.2.1.1
      rw [hf.1.2.2.1.1, hA] at this
      simpa [den] using this) (kgAt_ok (by simp [bd]) fun w1 hf => by
      have := rr_is g w1 hf.1.2.1.2
      rw [hf.1.2.2.1.2.2.1, hB] at this
      simpa [den] using this)) (kgSel_ok (kgAt_ok (by simp [bd]) fun w1 hf => by
      have := check_is 39 (by omega) h w1 (vt_less hf.1.2.1.1) 2 (by omega)
      rw [hf.1.2.2.1.2.1, hA9] at this
      simpa [den, ckPost] using this) (kgAt_ok (by simp [bd]) fun w1 hf => by
      have := check_is 39 (by omega) g w1 (vt_less hf.1.2.1.2) 2 (by omega)
      rw [hf.1.2.2.1.2.2.2, hB9] at this
      simpa [den, ckPost] using this)))))))))))))) 100000 _ _ [staySV op h g m] [.bool true, .bool false, tw 6 42 (.bool true), .bool true, .bool false, .bool true, .bool false, .bool true, .bool true, tw 6 97 (.bool true), tw 6 102 (.bool true), .bool true, .bool false, .bool true, .bool true] _ [(h.v, h.v), (h.v, h.v), (.int .i64 2, .int .i64 2), (g.v, g.v), (.int .i64 2, .int .i64 2), (h.v, h.v), (.int .i64 2, .int .i64 2), (.bool ((g.len : Int) == 0), .bool true), (.bool ((h.len : Int) == 0), .bool true), (h.v, h.v), (h.v, h.v), (.int .i64 2, .int .i64 2), (g.v, g.v), (.int .i64 2, .int .i64 2), (h.v, h.v), (.int .i64 2, .int .i64 2), (g.v, g.v), (h.v, h.v), (.bool (ownB ⟨1, (rnd m), 0, none, 0, 0⟩), .bool true), (.bool (decide (I64 1)), .bool true), (.bool (decide (I64 ((rnd m)))), .bool true), (.bool (decide (I64 0)), .bool true), (h.v, h.v), (.int .i64 m, .int .i64 m), (.bool (ownB ⟨k, n, 0, none, 0, 0⟩), .bool true), (.bool (decide (I64 k)), .bool true), (.bool (decide (I64 (n))), .bool true), (.bool (decide (I64 0)), .bool true), (.bool (decide (e = 0)), .bool true), (.int .i64 op, .int .i64 op), (h.v, h.v), (g.v, g.v), (g.v, g.v), (h.v, h.v)] W (by kernel_rfl) (by simp [denL, den, staySV, stayV]) (by simp [bdL, bd, staySV]) (AllT.cons (rfl) (AllT.cons (rfl) (AllT.cons (rfl) (AllT.cons (rfl) (AllT.cons (rfl) (AllT.cons (rfl) (AllT.cons (rfl) (AllT.cons (by rw [hf2]) (AllT.cons (by rw [hf1]) (AllT.cons (rfl) (AllT.cons (rfl) (AllT.cons (rfl) (AllT.cons (rfl) (AllT.cons (rfl) (AllT.cons (rfl) (AllT.cons (rfl) (AllT.cons (rfl) (AllT.cons (rfl) (AllT.cons (hl3.1) (AllT.cons (hl3.2.1) (AllT.cons (hl3.2.2) (AllT.cons (rfl) (AllT.cons (rfl) (AllT.cons (rfl) (AllT.cons (hl1.1) (AllT.cons (hl1.2.1) (AllT.cons (hl1.2.2) (AllT.cons (rfl) (AllT.cons (by rw [heb]) (AllT.cons (rfl) (AllT.cons (rfl) (AllT.cons (rfl) (AllT.cons (rfl) (AllT.cons (rfl) (AllT.nil))))))))))))))))))))))))))))))))))) (fcV_at kv kw)
set_option maxHeartbeats 8000000 in
theorem st_10_ft_t_n (W : World) (op m : Int) (h g : VH) (kv : VT 40 W h) (kw : VT 40 W g) (hs1 : decide (countW 39 W h 60 ≤ 60) = true) (hs2 : decide (countW 39 W g 60 ≤ 60) = true) (k n e : Int) (hbin : ∀ w, Calls Tryd.prog 21 #[.int .i64 op, h.v, g.v] w fun e' w' => e' = .returned (bRes k n e) ∧ Below w.heap.size w w') (heb : decide (e = 0) = true) (hl1 : LeafOk k n) (K N : Int) (hix : ∀ w, @FcAt (fcV W h g) w → Calls Tryd.prog 9 #[h.v, .int .i64 m] w fun e w' => e = .returned (ixRes K N false) ∧ Below w.heap.size w w') (hl3 : LeafOk 1 (rnd m)) (hA : rightW 40 W h = true) (hA9 : rightW 39 W h = false) (hB : rightW 40 W g = true) (hf1 : ((h.len : Int) == 0) = false) : Calls Tryd.prog 6 #[stayV op h g m] W fun e w' => e = .returned (.bool true) ∧ Below W.heap.size W w' := by
  letI fc : FC := fcV W h g
  exact @ex_valG (fcV W h g) _ ((kgOr (gk kn8) ((kgOr (kgSel (kgAt 24 [h.v] (.v (.bool true))) (kgAt 24 [g.v] (.v (.bool true)))) ((kgOr (kgAt 21 [.int .i64 op, h.v, g.v] (.t [.g [.y (.int .i64 k), .y (.int .i64 n), .v (.int .i64 0), .v (.slice none 0 0)], .y (.int .i64 e)])) ((kgOr (kgLeaf) ((kgOr (kgAt 9 [h.v, .int .i64 m] (.t [.g [.y (.int .i64 K), .y (.int .i64 N), .v (.int .i64 0), .v (.slice none 0 0)], .v (.bool false)])) ((kgOr (kgSel (kgAt 12 [h.v] (.v (.bool true))) (kgAt 12 [g.v] (.v (.bool true)))) (kgSel (kgPan 28 [h.v, .int .i64 2] (.iface 34 (.int .i64 1))) (kgPan 28 [h.v, .int .i64 2] (.iface 34 (.int .i64 1)))))))))))))))) ((kgOr_ok (gk_ok kn8F_ok) ((kgOr_ok (kgSel_ok (kgAt_ok (by simp [bd]) fun w1 hf => by
      have := shallow_is h w1 (vt_less hf.1.2.1.1)
      rw [hf.1.2.2.2.1, hs1] at this
      simpa [den] using this) (kgAt_ok (by simp [bd]) fun w1 hf => by
      have := shallow_is g w1 (vt_less hf.1.2.1.2)
      rw [hf.1.2.2.2.2, hs2] at this
      simpa [den] using this)) ((kgOr_ok (kgAt_ok (by simp [bd, bdL]) fun w1 hf => (hbin w1).mono fun e' w' ⟨he, hb⟩ => ⟨by rw [he]; simp [den, denL, bRes], hb⟩) ((kgOr_ok (kgLeaf_ok) ((kgOr_ok (kgAt_ok (by simp [bd, bdL]) fun w1 hf => (hix w1 hf).mono fun e' w' ⟨he, hb⟩ => ⟨by rw [he]; simp [den, denL, ixRes], hb⟩) ((kgOr_ok (kgSel_ok (kgAt_ok (by simp [bd]) fun w1 hf => by
      have := rr_is h w1 hf.1.2.1.1
      rw [hf.1.2.2.1.1, hA] at this
      simpa [den] using this) (kgAt_ok (by simp [bd]) fun w1 hf => by
      have := rr_is g w1 hf.1.2.1.2
      rw [hf.1.2.2.1.2.2.1, hB] at this
      simpa [den] using this)) (kgSel_ok (kgPan_ok fun w1 hf => by
      have := check_is 39 (by omega) h w1 (vt_less hf.1.2.1.1) 2 (by omega)
      rw [hf.1.2.2.1.2.1, hA9] at this
      exact this) (kgPan_ok fun w1 hf => by
      have := check_is 39 (by omega) h w1 (vt_less hf.1.2.1.1) 2 (by omega)
      rw [hf.1.2.2.1.2.1, hA9] at this
      exact this)))))))))))))) 100000 _ _ [staySV op h g m] [.bool true, .bool false, tw 6 42 (.bool true), .bool true, .bool false, .bool true, .bool true, tw 6 97 (.bool false)] _ [(.bool ((h.len : Int) == 0), .bool false), (h.v, h.v), (.int .i64 2, .int .i64 2), (h.v, h.v), (.int .i64 2, .int .i64 2), (g.v, g.v), (h.v, h.v), (.bool (ownB ⟨1, (rnd m), 0, none, 0, 0⟩), .bool true), (.bool (decide (I64 1)), .bool true), (.bool (decide (I64 ((rnd m)))), .bool true), (.bool (decide (I64 0)), .bool true), (h.v, h.v), (.int .i64 m, .int .i64 m), (.bool (ownB ⟨k, n, 0, none, 0, 0⟩), .bool true), (.bool (decide (I64 k)), .bool true), (.bool (decide (I64 (n))), .bool true), (.bool (decide (I64 0)), .bool true), (.bool (decide (e = 0)), .bool true), (.int .i64 op, .int .i64 op), (h.v, h.v), (g.v, g.v), (g.v, g.v), (h.v, h.v)] W (by kernel_rfl) (by simp [denL, den, staySV, stayV]) (by simp [bdL, bd, staySV]) (AllT.cons (by rw [hf1]) (AllT.cons (rfl) (AllT.cons (rfl) (AllT.cons (rfl) (AllT.cons (rfl) (AllT.cons (rfl) (AllT.cons (rfl) (AllT.cons (hl3.1) (AllT.cons (hl3.2.1) (AllT.cons (hl3.2.2) (AllT.cons (rfl) (AllT.cons (rfl) (AllT.cons (rfl) (AllT.cons (hl1.1) (AllT.cons (hl1.2.1) (AllT.cons (hl1.2.2) (AllT.cons (rfl) (AllT.cons (by rw [heb]) (AllT.cons (rfl) (AllT.cons (rfl) (AllT.cons (rfl) (AllT.cons (rfl) (AllT.cons (rfl) (AllT.nil)))))))))))))))))))))))) (fcV_at kv kw)
set_option maxHeartbeats 8000000 in
theorem st_10_ff_y (W : World) (op m : Int) (h g : VH) (kv : VT 40 W h) (kw : VT 40 W g) (hs1 : decide (countW 39 W h 60 ≤ 60) = true) (hs2 : decide (countW 39 W g 60 ≤ 60) = true) (k n e : Int) (hbin : ∀ w, Calls Tryd.prog 21 #[.int .i64 op, h.v, g.v] w fun e' w' => e' = .returned (bRes k n e) ∧ Below w.heap.size w w') (heb : decide (e = 0) = true) (hl1 : LeafOk k n) (K N : Int) (hix : ∀ w, @FcAt (fcV W h g) w → Calls Tryd.prog 9 #[h.v, .int .i64 m] w fun e w' => e = .returned (ixRes K N false) ∧ Below w.heap.size w w') (hl3 : LeafOk 1 (rnd m)) (hA : rightW 40 W h = false) (hA9 : rightW 39 W h = false) (hf1 : ((h.len : Int) == 0) = true) (hf2 : ((g.len : Int) == 0) = true) : Calls Tryd.prog 6 #[stayV op h g m] W fun e w' => e = .returned (.bool true) ∧ Below W.heap.size W w' := by
  letI fc : FC := fcV W h g
  exact @ex_valG (fcV W h g) _ ((kgOr (gk kn8) ((kgOr (kgSel (kgAt 24 [h.v] (.v (.bool true))) (kgAt 24 [g.v] (.v (.bool true)))) ((kgOr (kgAt 21 [.int .i64 op, h.v, g.v] (.t [.g [.y (.int .i64 k), .y (.int .i64 n), .v (.int .i64 0), .v (.slice none 0 0)], .y (.int .i64 e)])) ((kgOr (kgLeaf) ((kgOr (kgAt 9 [h.v, .int .i64 m] (.t [.g [.y (.int .i64 K), .y (.int .i64 N), .v (.int .i64 0), .v (.slice none 0 0)], .v (.bool false)])) ((kgOr (kgSel (kgAt 12 [h.v] (.v (.bool false))) (kgAt 12 [h.v] (.v (.bool false)))) (kgSel (kgPan 28 [h.v, .int .i64 2] (.iface 34 (.int .i64 1))) (kgPan 28 [h.v, .int .i64 2] (.iface 34 (.int .i64 1)))))))))))))))) ((kgOr_ok (gk_ok kn8F_ok) ((kgOr_ok (kgSel_ok (kgAt_ok (by simp [bd]) fun w1 hf => by
      have := shallow_is h w1 (vt_less hf.1.2.1.1)
      rw [hf.1.2.2.2.1, hs1] at this
      simpa [den] using this) (kgAt_ok (by simp [bd]) fun w1 hf => by
      have := shallow_is g w1 (vt_less hf.1.2.1.2)
      rw [hf.1.2.2.2.2, hs2] at this
      simpa [den] using this)) ((kgOr_ok (kgAt_ok (by simp [bd, bdL]) fun w1 hf => (hbin w1).mono fun e' w' ⟨he, hb⟩ => ⟨by rw [he]; simp [den, denL, bRes], hb⟩) ((kgOr_ok (kgLeaf_ok) ((kgOr_ok (kgAt_ok (by simp [bd, bdL]) fun w1 hf => (hix w1 hf).mono fun e' w' ⟨he, hb⟩ => ⟨by rw [he]; simp [den, denL, ixRes], hb⟩) ((kgOr_ok (kgSel_ok (kgAt_ok (by simp [bd]) fun w1 hf => by
      have := rr_is h w1 hf.1.2.1.1
      rw [hf.1.2.2.1.1, hA] at this
      simpa [den] using this) (kgAt_ok (by simp [bd]) fun w1 hf => by
      have := rr_is h w1 hf.1.2.1.1
      rw [hf.1.2.2.1.1, hA] at this
      simpa [den] using this)) (kgSel_ok (kgPan_ok fun w1 hf => by
      have := check_is 39 (by omega) h w1 (vt_less hf.1.2.1.1) 2 (by omega)
      rw [hf.1.2.2.1.2.1, hA9] at this
      exact this) (kgPan_ok fun w1 hf => by
      have := check_is 39 (by omega) h w1 (vt_less hf.1.2.1.1) 2 (by omega)
      rw [hf.1.2.2.1.2.1, hA9] at this
      exact this)))))))))))))) 100000 _ _ [staySV op h g m] [.bool true, .bool false, tw 6 42 (.bool true), .bool true, .bool true, .bool true, tw 6 97 (.bool true), tw 6 102 (.bool true), .bool true, .bool true, .bool true] _ [(h.v, h.v), (h.v, h.v), (.int .i64 2, .int .i64 2), (h.v, h.v), (.int .i64 2, .int .i64 2), (.bool ((g.len : Int) == 0), .bool true), (.bool ((h.len : Int) == 0), .bool true), (h.v, h.v), (.int .i64 2, .int .i64 2), (h.v, h.v), (.int .i64 2, .int .i64 2), (h.v, h.v), (.bool (ownB ⟨1, (rnd m), 0, none, 0, 0⟩), .bool true), (.bool (decide (I64 1)), .bool true), (.bool (decide (I64 ((rnd m)))), .bool true), (.bool (decide (I64 0)), .bool true), (h.v, h.v), (.int .i64 m, .int .i64 m), (.bool (ownB ⟨k, n, 0, none, 0, 0⟩), .bool true), (.bool (decide (I64 k)), .bool true), (.bool (decide (I64 (n))), .bool true), (.bool (decide (I64 0)), .bool true), (.bool (decide (e = 0)), .bool true), (.int .i64 op, .int .i64 op), (h.v, h.v), (g.v, g.v), (g.v, g.v), (h.v, h.v)] W (by kernel_rfl) (by simp [denL, den, staySV, stayV]) (by simp [bdL, bd, staySV]) (AllT.cons (rfl) (AllT.cons (rfl) (AllT.cons (rfl) (AllT.cons (rfl) (AllT.cons (rfl) (AllT.cons (by rw [hf2]) (AllT.cons (by rw [hf1]) (AllT.cons (rfl) (AllT.cons (rfl) (AllT.cons (rfl) (AllT.cons (rfl) (AllT.cons (rfl) (AllT.cons (hl3.1) (AllT.cons (hl3.2.1) (AllT.cons (hl3.2.2) (AllT.cons (rfl) (AllT.cons (rfl) (AllT.cons (rfl) (AllT.cons (hl1.1) (AllT.cons (hl1.2.1) (AllT.cons (hl1.2.2) (AllT.cons (rfl) (AllT.cons (by rw [heb]) (AllT.cons (rfl) (AllT.cons (rfl) (AllT.cons (rfl) (AllT.cons (rfl) (AllT.cons (rfl) (AllT.nil))))))))))))))))))))))))))))) (fcV_at kv kw)
set_option maxHeartbeats 8000000 in
theorem st_11_tt_ff_n (W : World) (op m : Int) (h g : VH) (kv : VT 40 W h) (kw : VT 40 W g) (hs1 : decide (countW 39 W h 60 ≤ 60) = true) (hs2 : decide (countW 39 W g 60 ≤ 60) = true) (k n e : Int) (hbin : ∀ w, Calls Tryd.prog 21 #[.int .i64 op, h.v, g.v] w fun e' w' => e' = .returned (bRes k n e) ∧ Below w.heap.size w w') (heb : decide (e = 0) = true) (hl1 : LeafOk k n) (K N : Int) (hix : ∀ w, @FcAt (fcV W h g) w → Calls Tryd.prog 9 #[h.v, .int .i64 m] w fun e w' => e = .returned (ixRes K N true) ∧ Below w.heap.size w w') (hl2 : LeafOk K N) (hl3 : LeafOk 1 (rnd m)) (hA : rightW 40 W h = true) (hA9 : rightW 39 W h = true) (hB : rightW 40 W g = false) (hB9 : rightW 39 W g = false) (hf1 : ((h.len : Int) == 0) = false) : Calls Tryd.prog 6 #[stayV op h g m] W fun e w' => e = .returned (.bool true) ∧ Below W.heap.size W w' := by
  letI fc : FC := fcV W h g
  exact @ex_valG (fcV W h g) _ ((kgOr (gk kn8) ((kgOr (kgSel (kgAt 24 [h.v] (.v (.bool true))) (kgAt 24 [g.v] (.v (.bool true)))) ((kgOr (kgAt 21 [.int .i64 op, h.v, g.v] (.t [.g [.y (.int .i64 k), .y (.int .i64 n), .v (.int .i64 0), .v (.slice none 0 0)], .y (.int .i64 e)])) ((kgOr (kgLeaf) ((kgOr (kgAt 9 [h.v, .int .i64 m] (.t [.g [.y (.int .i64 K), .y (.int .i64 N), .v (.int .i64 0), .v (.slice none 0 0)], .v (.bool true)])) ((kgOr (kgSel (kgAt 12 [h.v] (.v (.bool true))) (kgAt 12 [g.v] (.v (.bool false)))) (kgSel (kgAt 28 [h.v, .int .i64 2] (.v (.tuple #[]))) (kgPan 28 [g.v, .int .i64 2] (.iface 34 (.int .i64 1)))))))))))))))) ((kgOr_ok (gk_ok kn8F_ok) ((kgOr_ok (kgSel_ok (kgAt_ok (by simp [bd]) fun w1 hf => by
      have := shallow_is h w1 (vt_less hf.1.2.1.1)
      rw [hf.1.2.2.2.1, hs1] at this
      simpa [den] using this) (kgAt_ok (by simp [bd]) fun w1 hf => by
      have := shallow_is g w1 (vt_less hf.1.2.1.2)
      rw [hf.1.2.2.2.2, hs2] at this
      simpa [den] using this)) ((kgOr_ok (kgAt_ok (by simp [bd, bdL]) fun w1 hf => (hbin w1).mono fun e' w' ⟨he, hb⟩ => ⟨by rw [he]; simp [den, denL, bRes], hb⟩) ((kgOr_ok (kgLeaf_ok) ((kgOr_ok (kgAt_ok (by simp [bd, bdL]) fun w1 hf => (hix w1 hf).mono fun e' w' ⟨he, hb⟩ => ⟨by rw [he]; simp [den, denL, ixRes], hb⟩) ((kgOr_ok (kgSel_ok (kgAt_ok (by simp [bd]) fun w1 hf => by
      have := rr_is h w1 hf.1.2.1.1
      rw [hf.1.2.2.1.1, hA] at this
      simpa [den] using this) (kgAt_ok (by simp [bd]) fun w1 hf => by
      have := rr_is g w1 hf.1.2.1.2
      rw [hf.1.2.2.1.2.2.1, hB] at this
      simpa [den] using this)) (kgSel_ok (kgAt_ok (by simp [bd]) fun w1 hf => by
      have := check_is 39 (by omega) h w1 (vt_less hf.1.2.1.1) 2 (by omega)
      rw [hf.1.2.2.1.2.1, hA9] at this
      simpa [den, ckPost] using this) (kgPan_ok fun w1 hf => by
      have := check_is 39 (by omega) g w1 (vt_less hf.1.2.1.2) 2 (by omega)
      rw [hf.1.2.2.1.2.2.2, hB9] at this
      exact this)))))))))))))) 100000 _ _ [staySV op h g m] [.bool true, .bool false, tw 6 42 (.bool true), .bool true, .bool false, .bool true, .bool false, .bool true, .bool true, tw 6 97 (.bool false)] _ [(.bool ((h.len : Int) == 0), .bool false), (h.v, h.v), (h.v, h.v), (.int .i64 2, .int .i64 2), (g.v, g.v), (.int .i64 2, .int .i64 2), (h.v, h.v), (.int .i64 2, .int .i64 2), (g.v, g.v), (h.v, h.v), (.bool (ownB ⟨1, (rnd m), 0, none, 0, 0⟩), .bool true), (.bool (decide (I64 1)), .bool true), (.bool (decide (I64 ((rnd m)))), .bool true), (.bool (decide (I64 0)), .bool true), (.bool (ownB ⟨K, N, 0, none, 0, 0⟩), .bool true), (.bool (decide (I64 K)), .bool true), (.bool (decide (I64 (N))), .bool true), (.bool (decide (I64 0)), .bool true), (h.v, h.v), (.int .i64 m, .int .i64 m), (.bool (ownB ⟨k, n, 0, none, 0, 0⟩), .bool true), (.bool (decide (I64 k)), .bool true), (.bool (decide (I64 (n))), .bool true), (.bool (decide (I64 0)), .bool true), (.bool (decide (e = 0)), .bool true), (.int .i64 op, .int .i64 op), (h.v, h.v), (g.v, g.v), (g.v, g.v), (h.v, h.v)] W (by kernel_rfl) (by simp [denL, den, staySV, stayV]) (by simp [bdL, bd, staySV]) (AllT.cons (by rw [hf1]) (AllT.cons (rfl) (AllT.cons (rfl) (AllT.cons (rfl) (AllT.cons (rfl) (AllT.cons (rfl) (AllT.cons (rfl) (AllT.cons (rfl) (AllT.cons (rfl) (AllT.cons (rfl) (AllT.cons (hl3.1) (AllT.cons (hl3.2.1) (AllT.cons (hl3.2.2) (AllT.cons (rfl) (AllT.cons (hl2.1) (AllT.cons (hl2.2.1) (AllT.cons (hl2.2.2) (AllT.cons (rfl) (AllT.cons (rfl) (AllT.cons (rfl) (AllT.cons (hl1.1) (AllT.cons (hl1.2.1) (AllT.cons (hl1.2.2) (AllT.cons (rfl) (AllT.cons (by rw [heb]) (AllT.cons (rfl) (AllT.cons (rfl) (AllT.cons (rfl) (AllT.cons (rfl) (AllT.cons (rfl) (AllT.nil))))))))))))))))))))))))))))))) (fcV_at kv kw)
set_option maxHeartbeats 8000000 in
theorem st_11_ft_f_p (W : World) (op m : Int) (h g : VH) (kv : VT 40 W h) (kw : VT 40 W g) (hs1 : decide (countW 39 W h 60 ≤ 60) = true) (hs2 : decide (countW 39 W g 60 ≤ 60) = true) (k n e : Int) (hbin : ∀ w, Calls Tryd.prog 21 #[.int .i64 op, h.v, g.v] w fun e' w' => e' = .returned (bRes k n e) ∧ Below w.heap.size w w') (heb : decide (e = 0) = true) (hl1 : LeafOk k n) (K N : Int) (hix : ∀ w, @FcAt (fcV W h g) w → Calls Tryd.prog 9 #[h.v, .int .i64 m] w fun e w' => e = .returned (ixRes K N true) ∧ Below w.heap.size w w') (hl2 : LeafOk K N) (hl3 : LeafOk 1 (rnd m)) (hA : rightW 40 W h = true) (hA9 : rightW 39 W h = false) (hB : rightW 40 W g = false) (hf1 : ((h.len : Int) == 0) = true) (hf2 : ((g.len : Int) == 0) = false) : Calls Tryd.prog 6 #[stayV op h g m] W fun e w' => e = .returned (.bool true) ∧ Below W.heap.size W w' := by
  letI fc : FC := fcV W h g
  exact @ex_valG (fcV W h g) _ ((kgOr (gk kn8) ((kgOr (kgSel (kgAt 24 [h.v] (.v (.bool true))) (kgAt 24 [g.v] (.v (.bool true)))) ((kgOr (kgAt 21 [.int .i64 op, h.v, g.v] (.t [.g [.y (.int .i64 k), .y (.int .i64 n), .v (.int .i64 0), .v (.slice none 0 0)], .y (.int .i64 e)])) ((kgOr (kgLeaf) ((kgOr (kgAt 9 [h.v, .int .i64 m] (.t [.g [.y (.int .i64 K), .y (.int .i64 N), .v (.int .i64 0), .v (.slice none 0 0)], .v (.bool true)])) ((kgOr (kgSel (kgAt 12 [h.v] (.v (.bool true))) (kgAt 12 [g.v] (.v (.bool false)))) (kgSel (kgPan 28 [h.v, .int .i64 2] (.iface 34 (.int .i64 1))) (kgPan 28 [h.v, .int .i64 2] (.iface 34 (.int .i64 1)))))))))))))))) ((kgOr_ok (gk_ok kn8F_ok) ((kgOr_ok (kgSel_ok (kgAt_ok (by simp [bd]) fun w1 hf => by
      have := shallow_is h w1 (vt_less hf.1.2.1.1)
      rw [hf.1.2.2.2.1, hs1] at this
      simpa [den] using this) (kgAt_ok (by simp [bd]) fun w1 hf => by
      have := shallow_is g w1 (vt_less hf.1.2.1.2)
      rw [hf.1.2.2.2.2, hs2] at this
      simpa [den] using this)) ((kgOr_ok (kgAt_ok (by simp [bd, bdL]) fun w1 hf => (hbin w1).mono fun e' w' ⟨he, hb⟩ => ⟨by rw [he]; simp [den, denL, bRes], hb⟩) ((kgOr_ok (kgLeaf_ok) ((kgOr_ok (kgAt_ok (by simp [bd, bdL]) fun w1 hf => (hix w1 hf).mono fun e' w' ⟨he, hb⟩ => ⟨by rw [he]; simp [den, denL, ixRes], hb⟩) ((kgOr_ok (kgSel_ok (kgAt_ok (by simp [bd]) fun w1 hf => by
      have := rr_is h w1 hf.1.2.1.1
      rw [hf.1.2.2.1.1, hA] at this
      simpa [den] using this) (kgAt_ok (by simp [bd]) fun w1 hf => by
      have := rr_is g w1 hf.1.2.1.2
      rw [hf.1.2.2.1.2.2.1, hB] at this
      simpa [den] using this)) (kgSel_ok (kgPan_ok fun w1 hf => by
      have := check_is 39 (by omega) h w1 (vt_less hf.1.2.1.1) 2 (by omega)
      rw [hf.1.2.2.1.2.1, hA9] at this
      exact this) (kgPan_ok fun w1 hf => by
      have := check_is 39 (by omega) h w1 (vt_less hf.1.2.1.1) 2 (by omega)
      rw [hf.1.2.2.1.2.1, hA9] at this
      exact this)))))))))))))) 100000 _ _ [staySV op h g m] [.bool true, .bool false, tw 6 42 (.bool true), .bool true, .bool false, .bool true, .bool true, tw 6 97 (.bool true), tw 6 102 (.bool false)] _ [(.bool ((g.len : Int) == 0), .bool false), (.bool ((h.len : Int) == 0), .bool true), (h.v, h.v), (.int .i64 2, .int .i64 2), (h.v, h.v), (.int .i64 2, .int .i64 2), (g.v, g.v), (h.v, h.v), (.bool (ownB ⟨1, (rnd m), 0, none, 0, 0⟩), .bool true), (.bool (decide (I64 1)), .bool true), (.bool (decide (I64 ((rnd m)))), .bool true), (.bool (decide (I64 0)), .bool true), (.bool (ownB ⟨K, N, 0, none, 0, 0⟩), .bool true), (.bool (decide (I64 K)), .bool true), (.bool (decide (I64 (N))), .bool true), (.bool (decide (I64 0)), .bool true), (h.v, h.v), (.int .i64 m, .int .i64 m), (.bool (ownB ⟨k, n, 0, none, 0, 0⟩), .bool true), (.bool (decide (I64 k)), .bool true), (.bool (decide (I64 (n))), .bool true), (.bool (decide (I64 0)), .bool true), (.bool (decide (e = 0)), .bool true), (.int .i64 op, .int .i64 op), (h.v, h.v), (g.v, g.v), (g.v, g.v), (h.v, h.v)] W (by kernel_rfl) (by simp [denL, den, staySV, stayV]) (by simp [bdL, bd, staySV]) (AllT.cons (by rw [hf2]) (AllT.cons (by rw [hf1]) (AllT.cons (rfl) (AllT.cons (rfl) (AllT.cons (rfl) (AllT.cons (rfl) (AllT.cons (rfl) (AllT.cons (rfl) (AllT.cons (hl3.1) (AllT.cons (hl3.2.1) (AllT.cons (hl3.2.2) (AllT.cons (rfl) (AllT.cons (hl2.1) (AllT.cons (hl2.2.1) (AllT.cons (hl2.2.2) (AllT.cons (rfl) (AllT.cons (rfl) (AllT.cons (rfl) (AllT.cons (hl1.1) (AllT.cons (hl1.2.1) (AllT.cons (hl1.2.2) (AllT.cons (rfl) (AllT.cons (by rw [heb]) (AllT.cons (rfl) (AllT.cons (rfl) (AllT.cons (rfl) (AllT.cons (rfl) (AllT.cons (rfl) (AllT.nil))))))))))))))))))))))))))))) (fcV_at kv kw)
end Go.Proofs.YtoijdnlplbeomaaDoor
