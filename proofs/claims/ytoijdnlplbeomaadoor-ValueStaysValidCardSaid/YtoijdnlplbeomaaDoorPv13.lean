/-
  Merged: Bn1, Bn2, Bn3, BnS
-/
import Derived.Test.YtoijdnlplbeomaaDoorPv12
import Derived.Test.YtoijdnlplbeomaaDoorPv8

/-
  Layer 8: binary operators, program and reference: the runs.
-/
namespace Go.Proofs.YtoijdnlplbeomaaDoor
open Go Go.RowKit EX
set_option maxRecDepth 100000
set_option linter.unusedVariables false
set_option linter.unusedSimpArgs false
abbrev PRI : FuncId := 11
abbrev RRI : FuncId := 12
/-- Two calls with known arguments: the next answer tells which. -/
def kg2 (f0 : FuncId) (l1 l2 : List Value) (x y : SV) : KnG := fun f args st => match st.orc with
  | .bool true :: r => kgAt f0 l1 x f args ⟨st.m, r, st.cnd⟩
  | .bool false :: r => kgAt f0 l2 y f args ⟨st.m, r, st.cnd⟩
  | _ => none
theorem kg2_ok {P : Program} {f0 : FuncId} {l1 l2 : List Value} {x y : SV} (h1 : KnGOk P (kgAt f0 l1 x)) (h2 : KnGOk P (kgAt f0 l2 y)) : KnGOk P (kg2 f0 l1 l2 x y) := by
  intro f args st o hk
  unfold kg2 at hk
  split at hk
  · have := h1 f args _ o hk
    exact this
  · have := h2 f args _ o hk
    exact this
  · cases hk
def VH.w (h : VH) (k : Int) : Value := .agg #[.int .i64 k, .int .i64 h.n, .int .i64 h.m, .slice h.a h.len h.cap]
def VH.s (h : VH) (k : SV) : SV := .g [k, .y (.int .i64 h.n), .y (.int .i64 h.m), .y (.slice h.a h.len h.cap)]
theorem VH.w_v {h : VH} {k : Int} (e : h.k = k) : h.v = h.w k := by subst e; rfl
/-- What Bin gives. -/
def bRes (k n e : Int) : Value := .tuple #[.agg #[.int .i64 k, .int .i64 n, .int .i64 0, .slice none 0 0], .int .i64 e]
def RightIs (f0 : FuncId) (k : Int) (h : VH) (b : Bool) : Prop := ∀ w, Calls Tryd.prog f0 #[h.w k] w fun e w' => e = .returned (.bool b) ∧ Below w.heap.size w w'
theorem right_kg {f0 : FuncId} {k : Int} {h : VH} {b : Bool} (H : RightIs f0 k h b) : KnGOk Tryd.prog (kgAt f0 [h.w k] (.v (.bool b))) :=
  kgAt_ok (by simp [bd]) fun w _ => by simpa [den] using H w
def knBi (R : Int → Int) (T : Int → Int → Int) (f0 fr ft : FuncId) (k : Int) (h g : VH) (b c : Bool) : KnG := kgOr (kg2 f0 [h.w k] [g.w k] (.v (.bool b)) (.v (.bool c))) (gk (knOr (knI fr fun a => .int .i64 (R a)) (knN ft T)))
def prAB (k : Int) (h g : VH) : List (Value × Value) := [(g.w k, g.w k), (h.w k, h.w k)]
def prA (k : Int) (h : VH) : List (Value × Value) := [(h.w k, h.w k)]
theorem pr_app {l m : List (Value × Value)} (h : ∀ q ∈ l, q.1 = q.2) (g : ∀ q ∈ m, q.1 = q.2) : ∀ q ∈ l ++ m, q.1 = q.2 := fun q hq => (List.mem_append.1 hq).elim (h q) (g q)
theorem prAB_ok (k : Int) (h g : VH) : ∀ q ∈ prAB k h g, q.1 = q.2 := by intro q hq; simp only [prAB, List.mem_cons, List.not_mem_nil, or_false] at hq; rcases hq with rfl | rfl <;> rfl
theorem prA_ok (k : Int) (h : VH) : ∀ q ∈ prA k h, q.1 = q.2 := by intro q hq; simp only [prA, List.mem_cons, List.not_mem_nil, or_false] at hq; rcases hq with rfl; rfl
theorem pw1 {p b : Bool} (h : p = b) : ∀ q ∈ [pw p b], q.1 = q.2 := by intro q hq; simp only [List.mem_cons, List.not_mem_nil, or_false] at hq; subst hq; simp [pw, h]
def tmQ (a b : Int) : Int := rnd (a * b)
theorem knP_ok {k : Int} {h g : VH} {b c : Bool} (H : RightIs PRI k h b) (G : RightIs PRI k g c) : KnGOk Tryd.prog (knBi rnd tmQ PRI 17 TIM k h g b c) :=
  kgOr_ok (kg2_ok (right_kg H) (right_kg G)) (gk_ok (knOr_ok (knI_ok' round_any) (knN_ok times_any)))
theorem knR_ok {k : Int} {h g : VH} {b c : Bool} (H : RightIs RRI k h b) (G : RightIs RRI k g c) : KnGOk Tryd.prog (knBi rnd tmQ RRI RRD RTM k h g b c) :=
  kgOr_ok (kg2_ok (right_kg H) (right_kg G)) (gk_ok (knOr_ok (knI_ok' rround_any) (knN_ok rtimes_any)))
theorem vb1_a (w : World) (h g : VH) (hk : (h.k != 1) = true) : Calls Tryd.prog 21 #[.int .i64 1, h.v, g.v] w fun e w' => e = .returned (bRes 0 0 1) ∧ Below w.heap.size w w' :=
  (ex_runG (x := .v (bRes 0 0 1)) (gk_ok knNone_ok) 100000 [.v (.int .i64 1), h.s (.y (.int .i64 h.k)), g.s (.y (.int .i64 g.k))] [tt] ([pw (h.k != 1) true]) (by kernel_rfl) (by simp [VH.s, VH.w, VH.v, denL, den]) (by simp [VH.s, bdL, bd]) (pw1 hk)).mono fun e w' ⟨B, h1, h2⟩ => ⟨by rw [h1]; simp [den, denL, bRes], h2⟩
theorem vb1_b (w : World) (h g : VH) (hk : (g.k != 1) = true) : Calls Tryd.prog 21 #[.int .i64 1, h.w 1, g.v] w fun e w' => e = .returned (bRes 0 0 1) ∧ Below w.heap.size w w' :=
  (ex_runG (x := .v (bRes 0 0 1)) (gk_ok knNone_ok) 100000 [.v (.int .i64 1), h.s (.v (.int .i64 1)), g.s (.y (.int .i64 g.k))] [tt] ([pw (g.k != 1) true]) (by kernel_rfl) (by simp [VH.s, VH.w, VH.v, denL, den]) (by simp [VH.s, bdL, bd]) (pw1 hk)).mono fun e w' ⟨B, h1, h2⟩ => ⟨by rw [h1]; simp [den, denL, bRes], h2⟩
theorem vb2_a (w : World) (h g : VH) (hk : (h.k != 1) = true) : Calls Tryd.prog 21 #[.int .i64 2, h.v, g.v] w fun e w' => e = .returned (bRes 0 0 1) ∧ Below w.heap.size w w' :=
  (ex_runG (x := .v (bRes 0 0 1)) (gk_ok knNone_ok) 100000 [.v (.int .i64 2), h.s (.y (.int .i64 h.k)), g.s (.y (.int .i64 g.k))] [tt] ([pw (h.k != 1) true]) (by kernel_rfl) (by simp [VH.s, VH.w, VH.v, denL, den]) (by simp [VH.s, bdL, bd]) (pw1 hk)).mono fun e w' ⟨B, h1, h2⟩ => ⟨by rw [h1]; simp [den, denL, bRes], h2⟩
theorem vb2_b (w : World) (h g : VH) (hk : (g.k != 1) = true) : Calls Tryd.prog 21 #[.int .i64 2, h.w 1, g.v] w fun e w' => e = .returned (bRes 0 0 1) ∧ Below w.heap.size w w' :=
  (ex_runG (x := .v (bRes 0 0 1)) (gk_ok knNone_ok) 100000 [.v (.int .i64 2), h.s (.v (.int .i64 1)), g.s (.y (.int .i64 g.k))] [tt] ([pw (g.k != 1) true]) (by kernel_rfl) (by simp [VH.s, VH.w, VH.v, denL, den]) (by simp [VH.s, bdL, bd]) (pw1 hk)).mono fun e w' ⟨B, h1, h2⟩ => ⟨by rw [h1]; simp [den, denL, bRes], h2⟩
theorem vb3_a (w : World) (h g : VH) (hk : (h.k != 1) = true) : Calls Tryd.prog 21 #[.int .i64 3, h.v, g.v] w fun e w' => e = .returned (bRes 0 0 1) ∧ Below w.heap.size w w' :=
  (ex_runG (x := .v (bRes 0 0 1)) (gk_ok knNone_ok) 100000 [.v (.int .i64 3), h.s (.y (.int .i64 h.k)), g.s (.y (.int .i64 g.k))] [tt] ([pw (h.k != 1) true]) (by kernel_rfl) (by simp [VH.s, VH.w, VH.v, denL, den]) (by simp [VH.s, bdL, bd]) (pw1 hk)).mono fun e w' ⟨B, h1, h2⟩ => ⟨by rw [h1]; simp [den, denL, bRes], h2⟩
theorem vb3_b (w : World) (h g : VH) (hk : (g.k != 1) = true) : Calls Tryd.prog 21 #[.int .i64 3, h.w 1, g.v] w fun e w' => e = .returned (bRes 0 0 1) ∧ Below w.heap.size w w' :=
  (ex_runG (x := .v (bRes 0 0 1)) (gk_ok knNone_ok) 100000 [.v (.int .i64 3), h.s (.v (.int .i64 1)), g.s (.y (.int .i64 g.k))] [tt] ([pw (g.k != 1) true]) (by kernel_rfl) (by simp [VH.s, VH.w, VH.v, denL, den]) (by simp [VH.s, bdL, bd]) (pw1 hk)).mono fun e w' ⟨B, h1, h2⟩ => ⟨by rw [h1]; simp [den, denL, bRes], h2⟩
theorem vb4_a (w : World) (h g : VH) (hk : (h.k != 1) = true) : Calls Tryd.prog 21 #[.int .i64 4, h.v, g.v] w fun e w' => e = .returned (bRes 0 0 1) ∧ Below w.heap.size w w' :=
  (ex_runG (x := .v (bRes 0 0 1)) (gk_ok knNone_ok) 100000 [.v (.int .i64 4), h.s (.y (.int .i64 h.k)), g.s (.y (.int .i64 g.k))] [tt] ([pw (h.k != 1) true]) (by kernel_rfl) (by simp [VH.s, VH.w, VH.v, denL, den]) (by simp [VH.s, bdL, bd]) (pw1 hk)).mono fun e w' ⟨B, h1, h2⟩ => ⟨by rw [h1]; simp [den, denL, bRes], h2⟩
theorem vb4_b (w : World) (h g : VH) (hk : (g.k != 1) = true) : Calls Tryd.prog 21 #[.int .i64 4, h.w 1, g.v] w fun e w' => e = .returned (bRes 0 0 1) ∧ Below w.heap.size w w' :=
  (ex_runG (x := .v (bRes 0 0 1)) (gk_ok knNone_ok) 100000 [.v (.int .i64 4), h.s (.v (.int .i64 1)), g.s (.y (.int .i64 g.k))] [tt] ([pw (g.k != 1) true]) (by kernel_rfl) (by simp [VH.s, VH.w, VH.v, denL, den]) (by simp [VH.s, bdL, bd]) (pw1 hk)).mono fun e w' ⟨B, h1, h2⟩ => ⟨by rw [h1]; simp [den, denL, bRes], h2⟩
theorem vb5_a (w : World) (h g : VH) (hk : (h.k != 1) = true) : Calls Tryd.prog 21 #[.int .i64 5, h.v, g.v] w fun e w' => e = .returned (bRes 0 0 1) ∧ Below w.heap.size w w' :=
  (ex_runG (x := .v (bRes 0 0 1)) (gk_ok knNone_ok) 100000 [.v (.int .i64 5), h.s (.y (.int .i64 h.k)), g.s (.y (.int .i64 g.k))] [tt] ([pw (h.k != 1) true]) (by kernel_rfl) (by simp [VH.s, VH.w, VH.v, denL, den]) (by simp [VH.s, bdL, bd]) (pw1 hk)).mono fun e w' ⟨B, h1, h2⟩ => ⟨by rw [h1]; simp [den, denL, bRes], h2⟩
theorem vb5_b (w : World) (h g : VH) (hk : (g.k != 1) = true) : Calls Tryd.prog 21 #[.int .i64 5, h.w 1, g.v] w fun e w' => e = .returned (bRes 0 0 1) ∧ Below w.heap.size w w' :=
  (ex_runG (x := .v (bRes 0 0 1)) (gk_ok knNone_ok) 100000 [.v (.int .i64 5), h.s (.v (.int .i64 1)), g.s (.y (.int .i64 g.k))] [tt] ([pw (g.k != 1) true]) (by kernel_rfl) (by simp [VH.s, VH.w, VH.v, denL, den]) (by simp [VH.s, bdL, bd]) (pw1 hk)).mono fun e w' ⟨B, h1, h2⟩ => ⟨by rw [h1]; simp [den, denL, bRes], h2⟩
theorem vb6_a (w : World) (h g : VH) (hk : (h.k != 2) = true) : Calls Tryd.prog 21 #[.int .i64 6, h.v, g.v] w fun e w' => e = .returned (bRes 0 0 1) ∧ Below w.heap.size w w' :=
  (ex_runG (x := .v (bRes 0 0 1)) (gk_ok knNone_ok) 100000 [.v (.int .i64 6), h.s (.y (.int .i64 h.k)), g.s (.y (.int .i64 g.k))] [tt] ([pw (h.k != 2) true]) (by kernel_rfl) (by simp [VH.s, VH.w, VH.v, denL, den]) (by simp [VH.s, bdL, bd]) (pw1 hk)).mono fun e w' ⟨B, h1, h2⟩ => ⟨by rw [h1]; simp [den, denL, bRes], h2⟩
theorem vb6_b (w : World) (h g : VH) (hk : (g.k != 2) = true) : Calls Tryd.prog 21 #[.int .i64 6, h.w 2, g.v] w fun e w' => e = .returned (bRes 0 0 1) ∧ Below w.heap.size w w' :=
  (ex_runG (x := .v (bRes 0 0 1)) (gk_ok knNone_ok) 100000 [.v (.int .i64 6), h.s (.v (.int .i64 2)), g.s (.y (.int .i64 g.k))] [tt] ([pw (g.k != 2) true]) (by kernel_rfl) (by simp [VH.s, VH.w, VH.v, denL, den]) (by simp [VH.s, bdL, bd]) (pw1 hk)).mono fun e w' ⟨B, h1, h2⟩ => ⟨by rw [h1]; simp [den, denL, bRes], h2⟩
theorem vb7_a (w : World) (h g : VH) (hk : (h.k != 2) = true) : Calls Tryd.prog 21 #[.int .i64 7, h.v, g.v] w fun e w' => e = .returned (bRes 0 0 1) ∧ Below w.heap.size w w' :=
  (ex_runG (x := .v (bRes 0 0 1)) (gk_ok knNone_ok) 100000 [.v (.int .i64 7), h.s (.y (.int .i64 h.k)), g.s (.y (.int .i64 g.k))] [tt] ([pw (h.k != 2) true]) (by kernel_rfl) (by simp [VH.s, VH.w, VH.v, denL, den]) (by simp [VH.s, bdL, bd]) (pw1 hk)).mono fun e w' ⟨B, h1, h2⟩ => ⟨by rw [h1]; simp [den, denL, bRes], h2⟩
theorem vb7_b (w : World) (h g : VH) (hk : (g.k != 2) = true) : Calls Tryd.prog 21 #[.int .i64 7, h.w 2, g.v] w fun e w' => e = .returned (bRes 0 0 1) ∧ Below w.heap.size w w' :=
  (ex_runG (x := .v (bRes 0 0 1)) (gk_ok knNone_ok) 100000 [.v (.int .i64 7), h.s (.v (.int .i64 2)), g.s (.y (.int .i64 g.k))] [tt] ([pw (g.k != 2) true]) (by kernel_rfl) (by simp [VH.s, VH.w, VH.v, denL, den]) (by simp [VH.s, bdL, bd]) (pw1 hk)).mono fun e w' ⟨B, h1, h2⟩ => ⟨by rw [h1]; simp [den, denL, bRes], h2⟩
theorem vb1_c (R : Int → Int) (T : Int → Int → Int) (c : Bool) (w : World) (h g : VH) (HK : KnGOk Tryd.prog (knBi R T PRI 17 TIM 1 h g false c)) : Calls Tryd.prog 21 #[.int .i64 1, h.w 1, g.w 1] w fun e w' => e = .returned (bRes 0 0 1) ∧ Below w.heap.size w w' :=
  (ex_runG (x := .v (bRes 0 0 1)) HK 100000 [.v (.int .i64 1), h.s (.v (.int .i64 1)), g.s (.v (.int .i64 1))] [tt] (prA 1 h) (by kernel_rfl) (by simp [VH.s, VH.w, VH.v, denL, den]) (by simp [VH.s, bdL, bd]) (prA_ok 1 h)).mono fun e w' ⟨B, h1, h2⟩ => ⟨by rw [h1]; simp [den, denL, bRes], h2⟩
theorem vb1_d (R : Int → Int) (T : Int → Int → Int) (w : World) (h g : VH) (HK : KnGOk Tryd.prog (knBi R T PRI 17 TIM 1 h g true false)) : Calls Tryd.prog 21 #[.int .i64 1, h.w 1, g.w 1] w fun e w' => e = .returned (bRes 0 0 1) ∧ Below w.heap.size w w' :=
  (ex_runG (x := .v (bRes 0 0 1)) HK 100000 [.v (.int .i64 1), h.s (.v (.int .i64 1)), g.s (.v (.int .i64 1))] [tt, ff] (prAB 1 h g) (by kernel_rfl) (by simp [VH.s, VH.w, VH.v, denL, den]) (by simp [VH.s, bdL, bd]) (prAB_ok 1 h g)).mono fun e w' ⟨B, h1, h2⟩ => ⟨by rw [h1]; simp [den, denL, bRes], h2⟩
theorem vb1_y (R : Int → Int) (T : Int → Int → Int) (w : World) (h g : VH) (HK : KnGOk Tryd.prog (knBi R T PRI 17 TIM 1 h g true true)) : Calls Tryd.prog 21 #[.int .i64 1, h.w 1, g.w 1] w fun e w' => e = .returned (bRes 1 (R (IntKind.i64.wrap (h.n + g.n))) 0) ∧ Below w.heap.size w w' :=
  (ex_runG (x := .t [.g [.v (.int .i64 1), .y (.int .i64 (R (IntKind.i64.wrap (h.n + g.n)))), .v (.int .i64 0), .v (.slice none 0 0)], .v (.int .i64 0)]) HK 100000 [.v (.int .i64 1), h.s (.v (.int .i64 1)), g.s (.v (.int .i64 1))] [tt, ff] (prAB 1 h g) (by kernel_rfl) (by simp [VH.s, VH.w, VH.v, denL, den]) (by simp [VH.s, bdL, bd]) (prAB_ok 1 h g)).mono fun e w' ⟨B, h1, h2⟩ => ⟨by rw [h1]; simp [den, denL, bRes], h2⟩
theorem vb2_c (R : Int → Int) (T : Int → Int → Int) (c : Bool) (w : World) (h g : VH) (HK : KnGOk Tryd.prog (knBi R T PRI 17 TIM 1 h g false c)) : Calls Tryd.prog 21 #[.int .i64 2, h.w 1, g.w 1] w fun e w' => e = .returned (bRes 0 0 1) ∧ Below w.heap.size w w' :=
  (ex_runG (x := .v (bRes 0 0 1)) HK 100000 [.v (.int .i64 2), h.s (.v (.int .i64 1)), g.s (.v (.int .i64 1))] [tt] (prA 1 h) (by kernel_rfl) (by simp [VH.s, VH.w, VH.v, denL, den]) (by simp [VH.s, bdL, bd]) (prA_ok 1 h)).mono fun e w' ⟨B, h1, h2⟩ => ⟨by rw [h1]; simp [den, denL, bRes], h2⟩
theorem vb2_d (R : Int → Int) (T : Int → Int → Int) (w : World) (h g : VH) (HK : KnGOk Tryd.prog (knBi R T PRI 17 TIM 1 h g true false)) : Calls Tryd.prog 21 #[.int .i64 2, h.w 1, g.w 1] w fun e w' => e = .returned (bRes 0 0 1) ∧ Below w.heap.size w w' :=
  (ex_runG (x := .v (bRes 0 0 1)) HK 100000 [.v (.int .i64 2), h.s (.v (.int .i64 1)), g.s (.v (.int .i64 1))] [tt, ff] (prAB 1 h g) (by kernel_rfl) (by simp [VH.s, VH.w, VH.v, denL, den]) (by simp [VH.s, bdL, bd]) (prAB_ok 1 h g)).mono fun e w' ⟨B, h1, h2⟩ => ⟨by rw [h1]; simp [den, denL, bRes], h2⟩
theorem vb2_y (R : Int → Int) (T : Int → Int → Int) (w : World) (h g : VH) (HK : KnGOk Tryd.prog (knBi R T PRI 17 TIM 1 h g true true)) : Calls Tryd.prog 21 #[.int .i64 2, h.w 1, g.w 1] w fun e w' => e = .returned (bRes 1 (R (IntKind.i64.wrap (h.n - g.n))) 0) ∧ Below w.heap.size w w' :=
  (ex_runG (x := .t [.g [.v (.int .i64 1), .y (.int .i64 (R (IntKind.i64.wrap (h.n - g.n)))), .v (.int .i64 0), .v (.slice none 0 0)], .v (.int .i64 0)]) HK 100000 [.v (.int .i64 2), h.s (.v (.int .i64 1)), g.s (.v (.int .i64 1))] [tt, ff] (prAB 1 h g) (by kernel_rfl) (by simp [VH.s, VH.w, VH.v, denL, den]) (by simp [VH.s, bdL, bd]) (prAB_ok 1 h g)).mono fun e w' ⟨B, h1, h2⟩ => ⟨by rw [h1]; simp [den, denL, bRes], h2⟩
theorem vb3_c (R : Int → Int) (T : Int → Int → Int) (c : Bool) (w : World) (h g : VH) (HK : KnGOk Tryd.prog (knBi R T PRI 17 TIM 1 h g false c)) : Calls Tryd.prog 21 #[.int .i64 3, h.w 1, g.w 1] w fun e w' => e = .returned (bRes 0 0 1) ∧ Below w.heap.size w w' :=
  (ex_runG (x := .v (bRes 0 0 1)) HK 100000 [.v (.int .i64 3), h.s (.v (.int .i64 1)), g.s (.v (.int .i64 1))] [tt] (prA 1 h) (by kernel_rfl) (by simp [VH.s, VH.w, VH.v, denL, den]) (by simp [VH.s, bdL, bd]) (prA_ok 1 h)).mono fun e w' ⟨B, h1, h2⟩ => ⟨by rw [h1]; simp [den, denL, bRes], h2⟩
theorem vb3_d (R : Int → Int) (T : Int → Int → Int) (w : World) (h g : VH) (HK : KnGOk Tryd.prog (knBi R T PRI 17 TIM 1 h g true false)) : Calls Tryd.prog 21 #[.int .i64 3, h.w 1, g.w 1] w fun e w' => e = .returned (bRes 0 0 1) ∧ Below w.heap.size w w' :=
  (ex_runG (x := .v (bRes 0 0 1)) HK 100000 [.v (.int .i64 3), h.s (.v (.int .i64 1)), g.s (.v (.int .i64 1))] [tt, ff] (prAB 1 h g) (by kernel_rfl) (by simp [VH.s, VH.w, VH.v, denL, den]) (by simp [VH.s, bdL, bd]) (prAB_ok 1 h g)).mono fun e w' ⟨B, h1, h2⟩ => ⟨by rw [h1]; simp [den, denL, bRes], h2⟩
theorem vb3_y (R : Int → Int) (T : Int → Int → Int) (w : World) (h g : VH) (HK : KnGOk Tryd.prog (knBi R T PRI 17 TIM 1 h g true true)) (hh : -1099511627776 ≤ h.n ∧ h.n ≤ 1099511627776) (hg : -1099511627776 ≤ g.n ∧ g.n ≤ 1099511627776) : Calls Tryd.prog 21 #[.int .i64 3, h.w 1, g.w 1] w fun e w' => e = .returned (bRes 1 (R (T h.n g.n)) 0) ∧ Below w.heap.size w w' :=
  (ex_runG (x := .t [.g [.v (.int .i64 1), .y (.int .i64 (R (T h.n g.n))), .v (.int .i64 0), .v (.slice none 0 0)], .v (.int .i64 0)]) HK 100000 [.v (.int .i64 3), h.s (.v (.int .i64 1)), g.s (.v (.int .i64 1))] [tt, ff] ((pIn8 h.n ++ pIn8 g.n) ++ prAB 1 h g) (by kernel_rfl) (by simp [VH.s, VH.w, VH.v, denL, den]) (by simp [VH.s, bdL, bd]) (pr_app (pr_app (pIn8_ok hh) (pIn8_ok hg)) (prAB_ok 1 h g))).mono fun e w' ⟨B, h1, h2⟩ => ⟨by rw [h1]; simp [den, denL, bRes], h2⟩
theorem vb4_c (R : Int → Int) (T : Int → Int → Int) (c : Bool) (w : World) (h g : VH) (HK : KnGOk Tryd.prog (knBi R T PRI 17 TIM 1 h g false c)) : Calls Tryd.prog 21 #[.int .i64 4, h.w 1, g.w 1] w fun e w' => e = .returned (bRes 0 0 1) ∧ Below w.heap.size w w' :=
  (ex_runG (x := .v (bRes 0 0 1)) HK 100000 [.v (.int .i64 4), h.s (.v (.int .i64 1)), g.s (.v (.int .i64 1))] [tt] (prA 1 h) (by kernel_rfl) (by simp [VH.s, VH.w, VH.v, denL, den]) (by simp [VH.s, bdL, bd]) (prA_ok 1 h)).mono fun e w' ⟨B, h1, h2⟩ => ⟨by rw [h1]; simp [den, denL, bRes], h2⟩
theorem vb4_d (R : Int → Int) (T : Int → Int → Int) (w : World) (h g : VH) (HK : KnGOk Tryd.prog (knBi R T PRI 17 TIM 1 h g true false)) : Calls Tryd.prog 21 #[.int .i64 4, h.w 1, g.w 1] w fun e w' => e = .returned (bRes 0 0 1) ∧ Below w.heap.size w w' :=
  (ex_runG (x := .v (bRes 0 0 1)) HK 100000 [.v (.int .i64 4), h.s (.v (.int .i64 1)), g.s (.v (.int .i64 1))] [tt, ff] (prAB 1 h g) (by kernel_rfl) (by simp [VH.s, VH.w, VH.v, denL, den]) (by simp [VH.s, bdL, bd]) (prAB_ok 1 h g)).mono fun e w' ⟨B, h1, h2⟩ => ⟨by rw [h1]; simp [den, denL, bRes], h2⟩
theorem vb4_y0 (R : Int → Int) (T : Int → Int → Int) (w : World) (h g : VH) (HK : KnGOk Tryd.prog (knBi R T PRI 17 TIM 1 h g true true)) (hb : (decide (h.n < g.n)) = false) : Calls Tryd.prog 21 #[.int .i64 4, h.w 1, g.w 1] w fun e w' => e = .returned (bRes 2 0 0) ∧ Below w.heap.size w w' :=
  (ex_runG (x := .v (bRes 2 0 0)) HK 100000 [.v (.int .i64 4), h.s (.v (.int .i64 1)), g.s (.v (.int .i64 1))] [tt, ff, ff] ([pw (decide (h.n < g.n)) false] ++ prAB 1 h g) (by kernel_rfl) (by simp [VH.s, VH.w, VH.v, denL, den]) (by simp [VH.s, bdL, bd]) (pr_app (pw1 hb) (prAB_ok 1 h g))).mono fun e w' ⟨B, h1, h2⟩ => ⟨by rw [h1]; simp [den, denL, bRes], h2⟩
theorem vb4_y1 (R : Int → Int) (T : Int → Int → Int) (w : World) (h g : VH) (HK : KnGOk Tryd.prog (knBi R T PRI 17 TIM 1 h g true true)) (hb : (decide (h.n < g.n)) = true) : Calls Tryd.prog 21 #[.int .i64 4, h.w 1, g.w 1] w fun e w' => e = .returned (bRes 2 1 0) ∧ Below w.heap.size w w' :=
  (ex_runG (x := .v (bRes 2 1 0)) HK 100000 [.v (.int .i64 4), h.s (.v (.int .i64 1)), g.s (.v (.int .i64 1))] [tt, ff, tt] ([pw (decide (h.n < g.n)) true] ++ prAB 1 h g) (by kernel_rfl) (by simp [VH.s, VH.w, VH.v, denL, den]) (by simp [VH.s, bdL, bd]) (pr_app (pw1 hb) (prAB_ok 1 h g))).mono fun e w' ⟨B, h1, h2⟩ => ⟨by rw [h1]; simp [den, denL, bRes], h2⟩
theorem vb5_c (R : Int → Int) (T : Int → Int → Int) (c : Bool) (w : World) (h g : VH) (HK : KnGOk Tryd.prog (knBi R T PRI 17 TIM 1 h g false c)) : Calls Tryd.prog 21 #[.int .i64 5, h.w 1, g.w 1] w fun e w' => e = .returned (bRes 0 0 1) ∧ Below w.heap.size w w' :=
  (ex_runG (x := .v (bRes 0 0 1)) HK 100000 [.v (.int .i64 5), h.s (.v (.int .i64 1)), g.s (.v (.int .i64 1))] [tt] (prA 1 h) (by kernel_rfl) (by simp [VH.s, VH.w, VH.v, denL, den]) (by simp [VH.s, bdL, bd]) (prA_ok 1 h)).mono fun e w' ⟨B, h1, h2⟩ => ⟨by rw [h1]; simp [den, denL, bRes], h2⟩
theorem vb5_d (R : Int → Int) (T : Int → Int → Int) (w : World) (h g : VH) (HK : KnGOk Tryd.prog (knBi R T PRI 17 TIM 1 h g true false)) : Calls Tryd.prog 21 #[.int .i64 5, h.w 1, g.w 1] w fun e w' => e = .returned (bRes 0 0 1) ∧ Below w.heap.size w w' :=
  (ex_runG (x := .v (bRes 0 0 1)) HK 100000 [.v (.int .i64 5), h.s (.v (.int .i64 1)), g.s (.v (.int .i64 1))] [tt, ff] (prAB 1 h g) (by kernel_rfl) (by simp [VH.s, VH.w, VH.v, denL, den]) (by simp [VH.s, bdL, bd]) (prAB_ok 1 h g)).mono fun e w' ⟨B, h1, h2⟩ => ⟨by rw [h1]; simp [den, denL, bRes], h2⟩
theorem vb5_y0 (R : Int → Int) (T : Int → Int → Int) (w : World) (h g : VH) (HK : KnGOk Tryd.prog (knBi R T PRI 17 TIM 1 h g true true)) (hb : (h.n == g.n) = false) : Calls Tryd.prog 21 #[.int .i64 5, h.w 1, g.w 1] w fun e w' => e = .returned (bRes 2 0 0) ∧ Below w.heap.size w w' :=
  (ex_runG (x := .v (bRes 2 0 0)) HK 100000 [.v (.int .i64 5), h.s (.v (.int .i64 1)), g.s (.v (.int .i64 1))] [tt, ff, ff] ([pw (h.n == g.n) false] ++ prAB 1 h g) (by kernel_rfl) (by simp [VH.s, VH.w, VH.v, denL, den]) (by simp [VH.s, bdL, bd]) (pr_app (pw1 hb) (prAB_ok 1 h g))).mono fun e w' ⟨B, h1, h2⟩ => ⟨by rw [h1]; simp [den, denL, bRes], h2⟩
theorem vb5_y1 (R : Int → Int) (T : Int → Int → Int) (w : World) (h g : VH) (HK : KnGOk Tryd.prog (knBi R T PRI 17 TIM 1 h g true true)) (hb : (h.n == g.n) = true) : Calls Tryd.prog 21 #[.int .i64 5, h.w 1, g.w 1] w fun e w' => e = .returned (bRes 2 1 0) ∧ Below w.heap.size w w' :=
  (ex_runG (x := .v (bRes 2 1 0)) HK 100000 [.v (.int .i64 5), h.s (.v (.int .i64 1)), g.s (.v (.int .i64 1))] [tt, ff, tt] ([pw (h.n == g.n) true] ++ prAB 1 h g) (by kernel_rfl) (by simp [VH.s, VH.w, VH.v, denL, den]) (by simp [VH.s, bdL, bd]) (pr_app (pw1 hb) (prAB_ok 1 h g))).mono fun e w' ⟨B, h1, h2⟩ => ⟨by rw [h1]; simp [den, denL, bRes], h2⟩
theorem vb6_c (R : Int → Int) (T : Int → Int → Int) (c : Bool) (w : World) (h g : VH) (HK : KnGOk Tryd.prog (knBi R T PRI 17 TIM 2 h g false c)) : Calls Tryd.prog 21 #[.int .i64 6, h.w 2, g.w 2] w fun e w' => e = .returned (bRes 0 0 1) ∧ Below w.heap.size w w' :=
  (ex_runG (x := .v (bRes 0 0 1)) HK 100000 [.v (.int .i64 6), h.s (.v (.int .i64 2)), g.s (.v (.int .i64 2))] [tt] (prA 2 h) (by kernel_rfl) (by simp [VH.s, VH.w, VH.v, denL, den]) (by simp [VH.s, bdL, bd]) (prA_ok 2 h)).mono fun e w' ⟨B, h1, h2⟩ => ⟨by rw [h1]; simp [den, denL, bRes], h2⟩
theorem vb6_d (R : Int → Int) (T : Int → Int → Int) (w : World) (h g : VH) (HK : KnGOk Tryd.prog (knBi R T PRI 17 TIM 2 h g true false)) : Calls Tryd.prog 21 #[.int .i64 6, h.w 2, g.w 2] w fun e w' => e = .returned (bRes 0 0 1) ∧ Below w.heap.size w w' :=
  (ex_runG (x := .v (bRes 0 0 1)) HK 100000 [.v (.int .i64 6), h.s (.v (.int .i64 2)), g.s (.v (.int .i64 2))] [tt, ff] (prAB 2 h g) (by kernel_rfl) (by simp [VH.s, VH.w, VH.v, denL, den]) (by simp [VH.s, bdL, bd]) (prAB_ok 2 h g)).mono fun e w' ⟨B, h1, h2⟩ => ⟨by rw [h1]; simp [den, denL, bRes], h2⟩
theorem vb6_ys (R : Int → Int) (T : Int → Int → Int) (w : World) (h g : VH) (HK : KnGOk Tryd.prog (knBi R T PRI 17 TIM 2 h g true true)) (h0 : (h.n == 1) = false) : Calls Tryd.prog 21 #[.int .i64 6, h.w 2, g.w 2] w fun e w' => e = .returned (bRes 2 0 0) ∧ Below w.heap.size w w' :=
  (ex_runG (x := .v (bRes 2 0 0)) HK 100000 [.v (.int .i64 6), h.s (.v (.int .i64 2)), g.s (.v (.int .i64 2))] [tt, ff, ff] (([pw (h.n == 1) false]) ++ prAB 2 h g) (by kernel_rfl) (by simp [VH.s, VH.w, VH.v, denL, den]) (by simp [VH.s, bdL, bd]) (pr_app (pw1 h0) (prAB_ok 2 h g))).mono fun e w' ⟨B, h1, h2⟩ => ⟨by rw [h1]; simp [den, denL, bRes], h2⟩
theorem vb6_yf (R : Int → Int) (T : Int → Int → Int) (w : World) (h g : VH) (HK : KnGOk Tryd.prog (knBi R T PRI 17 TIM 2 h g true true)) (h0 : (h.n == 1) = true) (h1 : (g.n == 1) = false) : Calls Tryd.prog 21 #[.int .i64 6, h.w 2, g.w 2] w fun e w' => e = .returned (bRes 2 0 0) ∧ Below w.heap.size w w' :=
  (ex_runG (x := .v (bRes 2 0 0)) HK 100000 [.v (.int .i64 6), h.s (.v (.int .i64 2)), g.s (.v (.int .i64 2))] [tt, ff, tt, ff] (([pw (g.n == 1) false] ++ [pw (h.n == 1) true]) ++ prAB 2 h g) (by kernel_rfl) (by simp [VH.s, VH.w, VH.v, denL, den]) (by simp [VH.s, bdL, bd]) (pr_app (pr_app (pw1 h1) (pw1 h0)) (prAB_ok 2 h g))).mono fun e w' ⟨B, h1, h2⟩ => ⟨by rw [h1]; simp [den, denL, bRes], h2⟩
theorem vb6_yt (R : Int → Int) (T : Int → Int → Int) (w : World) (h g : VH) (HK : KnGOk Tryd.prog (knBi R T PRI 17 TIM 2 h g true true)) (h0 : (h.n == 1) = true) (h1 : (g.n == 1) = true) : Calls Tryd.prog 21 #[.int .i64 6, h.w 2, g.w 2] w fun e w' => e = .returned (bRes 2 1 0) ∧ Below w.heap.size w w' :=
  (ex_runG (x := .v (bRes 2 1 0)) HK 100000 [.v (.int .i64 6), h.s (.v (.int .i64 2)), g.s (.v (.int .i64 2))] [tt, ff, tt, tt] (([pw (g.n == 1) true] ++ [pw (h.n == 1) true]) ++ prAB 2 h g) (by kernel_rfl) (by simp [VH.s, VH.w, VH.v, denL, den]) (by simp [VH.s, bdL, bd]) (pr_app (pr_app (pw1 h1) (pw1 h0)) (prAB_ok 2 h g))).mono fun e w' ⟨B, h1, h2⟩ => ⟨by rw [h1]; simp [den, denL, bRes], h2⟩
theorem vb7_c (R : Int → Int) (T : Int → Int → Int) (c : Bool) (w : World) (h g : VH) (HK : KnGOk Tryd.prog (knBi R T PRI 17 TIM 2 h g false c)) : Calls Tryd.prog 21 #[.int .i64 7, h.w 2, g.w 2] w fun e w' => e = .returned (bRes 0 0 1) ∧ Below w.heap.size w w' :=
  (ex_runG (x := .v (bRes 0 0 1)) HK 100000 [.v (.int .i64 7), h.s (.v (.int .i64 2)), g.s (.v (.int .i64 2))] [tt] (prA 2 h) (by kernel_rfl) (by simp [VH.s, VH.w, VH.v, denL, den]) (by simp [VH.s, bdL, bd]) (prA_ok 2 h)).mono fun e w' ⟨B, h1, h2⟩ => ⟨by rw [h1]; simp [den, denL, bRes], h2⟩
theorem vb7_d (R : Int → Int) (T : Int → Int → Int) (w : World) (h g : VH) (HK : KnGOk Tryd.prog (knBi R T PRI 17 TIM 2 h g true false)) : Calls Tryd.prog 21 #[.int .i64 7, h.w 2, g.w 2] w fun e w' => e = .returned (bRes 0 0 1) ∧ Below w.heap.size w w' :=
  (ex_runG (x := .v (bRes 0 0 1)) HK 100000 [.v (.int .i64 7), h.s (.v (.int .i64 2)), g.s (.v (.int .i64 2))] [tt, ff] (prAB 2 h g) (by kernel_rfl) (by simp [VH.s, VH.w, VH.v, denL, den]) (by simp [VH.s, bdL, bd]) (prAB_ok 2 h g)).mono fun e w' ⟨B, h1, h2⟩ => ⟨by rw [h1]; simp [den, denL, bRes], h2⟩
theorem vb7_ys (R : Int → Int) (T : Int → Int → Int) (w : World) (h g : VH) (HK : KnGOk Tryd.prog (knBi R T PRI 17 TIM 2 h g true true)) (h0 : (h.n == 1) = true) : Calls Tryd.prog 21 #[.int .i64 7, h.w 2, g.w 2] w fun e w' => e = .returned (bRes 2 1 0) ∧ Below w.heap.size w w' :=
  (ex_runG (x := .v (bRes 2 1 0)) HK 100000 [.v (.int .i64 7), h.s (.v (.int .i64 2)), g.s (.v (.int .i64 2))] [tt, ff, tt] (([pw (h.n == 1) true]) ++ prAB 2 h g) (by kernel_rfl) (by simp [VH.s, VH.w, VH.v, denL, den]) (by simp [VH.s, bdL, bd]) (pr_app (pw1 h0) (prAB_ok 2 h g))).mono fun e w' ⟨B, h1, h2⟩ => ⟨by rw [h1]; simp [den, denL, bRes], h2⟩
theorem vb7_yf (R : Int → Int) (T : Int → Int → Int) (w : World) (h g : VH) (HK : KnGOk Tryd.prog (knBi R T PRI 17 TIM 2 h g true true)) (h0 : (h.n == 1) = false) (h1 : (g.n == 1) = false) : Calls Tryd.prog 21 #[.int .i64 7, h.w 2, g.w 2] w fun e w' => e = .returned (bRes 2 0 0) ∧ Below w.heap.size w w' :=
  (ex_runG (x := .v (bRes 2 0 0)) HK 100000 [.v (.int .i64 7), h.s (.v (.int .i64 2)), g.s (.v (.int .i64 2))] [tt, ff, ff, ff] (([pw (g.n == 1) false] ++ [pw (h.n == 1) false]) ++ prAB 2 h g) (by kernel_rfl) (by simp [VH.s, VH.w, VH.v, denL, den]) (by simp [VH.s, bdL, bd]) (pr_app (pr_app (pw1 h1) (pw1 h0)) (prAB_ok 2 h g))).mono fun e w' ⟨B, h1, h2⟩ => ⟨by rw [h1]; simp [den, denL, bRes], h2⟩
theorem vb7_yt (R : Int → Int) (T : Int → Int → Int) (w : World) (h g : VH) (HK : KnGOk Tryd.prog (knBi R T PRI 17 TIM 2 h g true true)) (h0 : (h.n == 1) = false) (h1 : (g.n == 1) = true) : Calls Tryd.prog 21 #[.int .i64 7, h.w 2, g.w 2] w fun e w' => e = .returned (bRes 2 1 0) ∧ Below w.heap.size w w' :=
  (ex_runG (x := .v (bRes 2 1 0)) HK 100000 [.v (.int .i64 7), h.s (.v (.int .i64 2)), g.s (.v (.int .i64 2))] [tt, ff, ff, tt] (([pw (g.n == 1) true] ++ [pw (h.n == 1) false]) ++ prAB 2 h g) (by kernel_rfl) (by simp [VH.s, VH.w, VH.v, denL, den]) (by simp [VH.s, bdL, bd]) (pr_app (pr_app (pw1 h1) (pw1 h0)) (prAB_ok 2 h g))).mono fun e w' ⟨B, h1, h2⟩ => ⟨by rw [h1]; simp [den, denL, bRes], h2⟩
theorem rb1_c (R : Int → Int) (T : Int → Int → Int) (w : World) (h g : VH) (HK : KnGOk Tryd.prog (knBi R T RRI RRD RTM 1 h g false false)) : Calls Tryd.prog 22 #[.int .i64 1, h.w 1, g.w 1] w fun e w' => e = .returned (bRes 0 0 1) ∧ Below w.heap.size w w' :=
  (ex_runG (x := .v (bRes 0 0 1)) HK 100000 [.v (.int .i64 1), h.s (.v (.int .i64 1)), g.s (.v (.int .i64 1))] [tt, ff] (prAB 1 h g) (by kernel_rfl) (by simp [VH.s, VH.w, VH.v, denL, den]) (by simp [VH.s, bdL, bd]) (prAB_ok 1 h g)).mono fun e w' ⟨B, h1, h2⟩ => ⟨by rw [h1]; simp [den, denL, bRes], h2⟩
theorem rb1_e (R : Int → Int) (T : Int → Int → Int) (w : World) (h g : VH) (HK : KnGOk Tryd.prog (knBi R T RRI RRD RTM 1 h g false true)) : Calls Tryd.prog 22 #[.int .i64 1, h.w 1, g.w 1] w fun e w' => e = .returned (bRes 0 0 1) ∧ Below w.heap.size w w' :=
  (ex_runG (x := .v (bRes 0 0 1)) HK 100000 [.v (.int .i64 1), h.s (.v (.int .i64 1)), g.s (.v (.int .i64 1))] [tt, ff] (prAB 1 h g) (by kernel_rfl) (by simp [VH.s, VH.w, VH.v, denL, den]) (by simp [VH.s, bdL, bd]) (prAB_ok 1 h g)).mono fun e w' ⟨B, h1, h2⟩ => ⟨by rw [h1]; simp [den, denL, bRes], h2⟩
theorem rb1_d (R : Int → Int) (T : Int → Int → Int) (w : World) (h g : VH) (HK : KnGOk Tryd.prog (knBi R T RRI RRD RTM 1 h g true false)) : Calls Tryd.prog 22 #[.int .i64 1, h.w 1, g.w 1] w fun e w' => e = .returned (bRes 0 0 1) ∧ Below w.heap.size w w' :=
  (ex_runG (x := .v (bRes 0 0 1)) HK 100000 [.v (.int .i64 1), h.s (.v (.int .i64 1)), g.s (.v (.int .i64 1))] [tt, ff] (prAB 1 h g) (by kernel_rfl) (by simp [VH.s, VH.w, VH.v, denL, den]) (by simp [VH.s, bdL, bd]) (prAB_ok 1 h g)).mono fun e w' ⟨B, h1, h2⟩ => ⟨by rw [h1]; simp [den, denL, bRes], h2⟩
theorem rb1_y (R : Int → Int) (T : Int → Int → Int) (w : World) (h g : VH) (HK : KnGOk Tryd.prog (knBi R T RRI RRD RTM 1 h g true true)) : Calls Tryd.prog 22 #[.int .i64 1, h.w 1, g.w 1] w fun e w' => e = .returned (bRes 1 (R (IntKind.i64.wrap (h.n + g.n))) 0) ∧ Below w.heap.size w w' :=
  (ex_runG (x := .t [.g [.v (.int .i64 1), .y (.int .i64 (R (IntKind.i64.wrap (h.n + g.n)))), .v (.int .i64 0), .v (.slice none 0 0)], .v (.int .i64 0)]) HK 100000 [.v (.int .i64 1), h.s (.v (.int .i64 1)), g.s (.v (.int .i64 1))] [tt, ff] (prAB 1 h g) (by kernel_rfl) (by simp [VH.s, VH.w, VH.v, denL, den]) (by simp [VH.s, bdL, bd]) (prAB_ok 1 h g)).mono fun e w' ⟨B, h1, h2⟩ => ⟨by rw [h1]; simp [den, denL, bRes], h2⟩
theorem rb2_c (R : Int → Int) (T : Int → Int → Int) (w : World) (h g : VH) (HK : KnGOk Tryd.prog (knBi R T RRI RRD RTM 1 h g false false)) : Calls Tryd.prog 22 #[.int .i64 2, h.w 1, g.w 1] w fun e w' => e = .returned (bRes 0 0 1) ∧ Below w.heap.size w w' :=
  (ex_runG (x := .v (bRes 0 0 1)) HK 100000 [.v (.int .i64 2), h.s (.v (.int .i64 1)), g.s (.v (.int .i64 1))] [tt, ff] (prAB 1 h g) (by kernel_rfl) (by simp [VH.s, VH.w, VH.v, denL, den]) (by simp [VH.s, bdL, bd]) (prAB_ok 1 h g)).mono fun e w' ⟨B, h1, h2⟩ => ⟨by rw [h1]; simp [den, denL, bRes], h2⟩
theorem rb2_e (R : Int → Int) (T : Int → Int → Int) (w : World) (h g : VH) (HK : KnGOk Tryd.prog (knBi R T RRI RRD RTM 1 h g false true)) : Calls Tryd.prog 22 #[.int .i64 2, h.w 1, g.w 1] w fun e w' => e = .returned (bRes 0 0 1) ∧ Below w.heap.size w w' :=
  (ex_runG (x := .v (bRes 0 0 1)) HK 100000 [.v (.int .i64 2), h.s (.v (.int .i64 1)), g.s (.v (.int .i64 1))] [tt, ff] (prAB 1 h g) (by kernel_rfl) (by simp [VH.s, VH.w, VH.v, denL, den]) (by simp [VH.s, bdL, bd]) (prAB_ok 1 h g)).mono fun e w' ⟨B, h1, h2⟩ => ⟨by rw [h1]; simp [den, denL, bRes], h2⟩
theorem rb2_d (R : Int → Int) (T : Int → Int → Int) (w : World) (h g : VH) (HK : KnGOk Tryd.prog (knBi R T RRI RRD RTM 1 h g true false)) : Calls Tryd.prog 22 #[.int .i64 2, h.w 1, g.w 1] w fun e w' => e = .returned (bRes 0 0 1) ∧ Below w.heap.size w w' :=
  (ex_runG (x := .v (bRes 0 0 1)) HK 100000 [.v (.int .i64 2), h.s (.v (.int .i64 1)), g.s (.v (.int .i64 1))] [tt, ff] (prAB 1 h g) (by kernel_rfl) (by simp [VH.s, VH.w, VH.v, denL, den]) (by simp [VH.s, bdL, bd]) (prAB_ok 1 h g)).mono fun e w' ⟨B, h1, h2⟩ => ⟨by rw [h1]; simp [den, denL, bRes], h2⟩
theorem rb2_y (R : Int → Int) (T : Int → Int → Int) (w : World) (h g : VH) (HK : KnGOk Tryd.prog (knBi R T RRI RRD RTM 1 h g true true)) : Calls Tryd.prog 22 #[.int .i64 2, h.w 1, g.w 1] w fun e w' => e = .returned (bRes 1 (R (IntKind.i64.wrap (h.n - g.n))) 0) ∧ Below w.heap.size w w' :=
  (ex_runG (x := .t [.g [.v (.int .i64 1), .y (.int .i64 (R (IntKind.i64.wrap (h.n - g.n)))), .v (.int .i64 0), .v (.slice none 0 0)], .v (.int .i64 0)]) HK 100000 [.v (.int .i64 2), h.s (.v (.int .i64 1)), g.s (.v (.int .i64 1))] [tt, ff] (prAB 1 h g) (by kernel_rfl) (by simp [VH.s, VH.w, VH.v, denL, den]) (by simp [VH.s, bdL, bd]) (prAB_ok 1 h g)).mono fun e w' ⟨B, h1, h2⟩ => ⟨by rw [h1]; simp [den, denL, bRes], h2⟩
theorem rb3_c (R : Int → Int) (T : Int → Int → Int) (w : World) (h g : VH) (HK : KnGOk Tryd.prog (knBi R T RRI RRD RTM 1 h g false false)) : Calls Tryd.prog 22 #[.int .i64 3, h.w 1, g.w 1] w fun e w' => e = .returned (bRes 0 0 1) ∧ Below w.heap.size w w' :=
  (ex_runG (x := .v (bRes 0 0 1)) HK 100000 [.v (.int .i64 3), h.s (.v (.int .i64 1)), g.s (.v (.int .i64 1))] [tt, ff] (prAB 1 h g) (by kernel_rfl) (by simp [VH.s, VH.w, VH.v, denL, den]) (by simp [VH.s, bdL, bd]) (prAB_ok 1 h g)).mono fun e w' ⟨B, h1, h2⟩ => ⟨by rw [h1]; simp [den, denL, bRes], h2⟩
theorem rb3_e (R : Int → Int) (T : Int → Int → Int) (w : World) (h g : VH) (HK : KnGOk Tryd.prog (knBi R T RRI RRD RTM 1 h g false true)) : Calls Tryd.prog 22 #[.int .i64 3, h.w 1, g.w 1] w fun e w' => e = .returned (bRes 0 0 1) ∧ Below w.heap.size w w' :=
  (ex_runG (x := .v (bRes 0 0 1)) HK 100000 [.v (.int .i64 3), h.s (.v (.int .i64 1)), g.s (.v (.int .i64 1))] [tt, ff] (prAB 1 h g) (by kernel_rfl) (by simp [VH.s, VH.w, VH.v, denL, den]) (by simp [VH.s, bdL, bd]) (prAB_ok 1 h g)).mono fun e w' ⟨B, h1, h2⟩ => ⟨by rw [h1]; simp [den, denL, bRes], h2⟩
theorem rb3_d (R : Int → Int) (T : Int → Int → Int) (w : World) (h g : VH) (HK : KnGOk Tryd.prog (knBi R T RRI RRD RTM 1 h g true false)) : Calls Tryd.prog 22 #[.int .i64 3, h.w 1, g.w 1] w fun e w' => e = .returned (bRes 0 0 1) ∧ Below w.heap.size w w' :=
  (ex_runG (x := .v (bRes 0 0 1)) HK 100000 [.v (.int .i64 3), h.s (.v (.int .i64 1)), g.s (.v (.int .i64 1))] [tt, ff] (prAB 1 h g) (by kernel_rfl) (by simp [VH.s, VH.w, VH.v, denL, den]) (by simp [VH.s, bdL, bd]) (prAB_ok 1 h g)).mono fun e w' ⟨B, h1, h2⟩ => ⟨by rw [h1]; simp [den, denL, bRes], h2⟩
theorem rb3_y (R : Int → Int) (T : Int → Int → Int) (w : World) (h g : VH) (HK : KnGOk Tryd.prog (knBi R T RRI RRD RTM 1 h g true true)) (hh : -1099511627776 ≤ h.n ∧ h.n ≤ 1099511627776) (hg : -1099511627776 ≤ g.n ∧ g.n ≤ 1099511627776) : Calls Tryd.prog 22 #[.int .i64 3, h.w 1, g.w 1] w fun e w' => e = .returned (bRes 1 (R (T h.n g.n)) 0) ∧ Below w.heap.size w w' :=
  (ex_runG (x := .t [.g [.v (.int .i64 1), .y (.int .i64 (R (T h.n g.n))), .v (.int .i64 0), .v (.slice none 0 0)], .v (.int .i64 0)]) HK 100000 [.v (.int .i64 3), h.s (.v (.int .i64 1)), g.s (.v (.int .i64 1))] [tt, ff] ((pIn8 h.n ++ pIn8 g.n) ++ prAB 1 h g) (by kernel_rfl) (by simp [VH.s, VH.w, VH.v, denL, den]) (by simp [VH.s, bdL, bd]) (pr_app (pr_app (pIn8_ok hh) (pIn8_ok hg)) (prAB_ok 1 h g))).mono fun e w' ⟨B, h1, h2⟩ => ⟨by rw [h1]; simp [den, denL, bRes], h2⟩
theorem rb4_c (R : Int → Int) (T : Int → Int → Int) (w : World) (h g : VH) (HK : KnGOk Tryd.prog (knBi R T RRI RRD RTM 1 h g false false)) : Calls Tryd.prog 22 #[.int .i64 4, h.w 1, g.w 1] w fun e w' => e = .returned (bRes 0 0 1) ∧ Below w.heap.size w w' :=
  (ex_runG (x := .v (bRes 0 0 1)) HK 100000 [.v (.int .i64 4), h.s (.v (.int .i64 1)), g.s (.v (.int .i64 1))] [tt, ff] (prAB 1 h g) (by kernel_rfl) (by simp [VH.s, VH.w, VH.v, denL, den]) (by simp [VH.s, bdL, bd]) (prAB_ok 1 h g)).mono fun e w' ⟨B, h1, h2⟩ => ⟨by rw [h1]; simp [den, denL, bRes], h2⟩
theorem rb4_e (R : Int → Int) (T : Int → Int → Int) (w : World) (h g : VH) (HK : KnGOk Tryd.prog (knBi R T RRI RRD RTM 1 h g false true)) : Calls Tryd.prog 22 #[.int .i64 4, h.w 1, g.w 1] w fun e w' => e = .returned (bRes 0 0 1) ∧ Below w.heap.size w w' :=
  (ex_runG (x := .v (bRes 0 0 1)) HK 100000 [.v (.int .i64 4), h.s (.v (.int .i64 1)), g.s (.v (.int .i64 1))] [tt, ff] (prAB 1 h g) (by kernel_rfl) (by simp [VH.s, VH.w, VH.v, denL, den]) (by simp [VH.s, bdL, bd]) (prAB_ok 1 h g)).mono fun e w' ⟨B, h1, h2⟩ => ⟨by rw [h1]; simp [den, denL, bRes], h2⟩
theorem rb4_d (R : Int → Int) (T : Int → Int → Int) (w : World) (h g : VH) (HK : KnGOk Tryd.prog (knBi R T RRI RRD RTM 1 h g true false)) : Calls Tryd.prog 22 #[.int .i64 4, h.w 1, g.w 1] w fun e w' => e = .returned (bRes 0 0 1) ∧ Below w.heap.size w w' :=
  (ex_runG (x := .v (bRes 0 0 1)) HK 100000 [.v (.int .i64 4), h.s (.v (.int .i64 1)), g.s (.v (.int .i64 1))] [tt, ff] (prAB 1 h g) (by kernel_rfl) (by simp [VH.s, VH.w, VH.v, denL, den]) (by simp [VH.s, bdL, bd]) (prAB_ok 1 h g)).mono fun e w' ⟨B, h1, h2⟩ => ⟨by rw [h1]; simp [den, denL, bRes], h2⟩
theorem rb4_y0 (R : Int → Int) (T : Int → Int → Int) (w : World) (h g : VH) (HK : KnGOk Tryd.prog (knBi R T RRI RRD RTM 1 h g true true)) (hb : (decide (h.n < g.n)) = false) : Calls Tryd.prog 22 #[.int .i64 4, h.w 1, g.w 1] w fun e w' => e = .returned (bRes 2 0 0) ∧ Below w.heap.size w w' :=
  (ex_runG (x := .v (bRes 2 0 0)) HK 100000 [.v (.int .i64 4), h.s (.v (.int .i64 1)), g.s (.v (.int .i64 1))] [tt, ff, ff] ([pw (decide (h.n < g.n)) false] ++ prAB 1 h g) (by kernel_rfl) (by simp [VH.s, VH.w, VH.v, denL, den]) (by simp [VH.s, bdL, bd]) (pr_app (pw1 hb) (prAB_ok 1 h g))).mono fun e w' ⟨B, h1, h2⟩ => ⟨by rw [h1]; simp [den, denL, bRes], h2⟩
theorem rb4_y1 (R : Int → Int) (T : Int → Int → Int) (w : World) (h g : VH) (HK : KnGOk Tryd.prog (knBi R T RRI RRD RTM 1 h g true true)) (hb : (decide (h.n < g.n)) = true) : Calls Tryd.prog 22 #[.int .i64 4, h.w 1, g.w 1] w fun e w' => e = .returned (bRes 2 1 0) ∧ Below w.heap.size w w' :=
  (ex_runG (x := .v (bRes 2 1 0)) HK 100000 [.v (.int .i64 4), h.s (.v (.int .i64 1)), g.s (.v (.int .i64 1))] [tt, ff, tt] ([pw (decide (h.n < g.n)) true] ++ prAB 1 h g) (by kernel_rfl) (by simp [VH.s, VH.w, VH.v, denL, den]) (by simp [VH.s, bdL, bd]) (pr_app (pw1 hb) (prAB_ok 1 h g))).mono fun e w' ⟨B, h1, h2⟩ => ⟨by rw [h1]; simp [den, denL, bRes], h2⟩
theorem rb5_c (R : Int → Int) (T : Int → Int → Int) (w : World) (h g : VH) (HK : KnGOk Tryd.prog (knBi R T RRI RRD RTM 1 h g false false)) : Calls Tryd.prog 22 #[.int .i64 5, h.w 1, g.w 1] w fun e w' => e = .returned (bRes 0 0 1) ∧ Below w.heap.size w w' :=
  (ex_runG (x := .v (bRes 0 0 1)) HK 100000 [.v (.int .i64 5), h.s (.v (.int .i64 1)), g.s (.v (.int .i64 1))] [tt, ff] (prAB 1 h g) (by kernel_rfl) (by simp [VH.s, VH.w, VH.v, denL, den]) (by simp [VH.s, bdL, bd]) (prAB_ok 1 h g)).mono fun e w' ⟨B, h1, h2⟩ => ⟨by rw [h1]; simp [den, denL, bRes], h2⟩
theorem rb5_e (R : Int → Int) (T : Int → Int → Int) (w : World) (h g : VH) (HK : KnGOk Tryd.prog (knBi R T RRI RRD RTM 1 h g false true)) : Calls Tryd.prog 22 #[.int .i64 5, h.w 1, g.w 1] w fun e w' => e = .returned (bRes 0 0 1) ∧ Below w.heap.size w w' :=
  (ex_runG (x := .v (bRes 0 0 1)) HK 100000 [.v (.int .i64 5), h.s (.v (.int .i64 1)), g.s (.v (.int .i64 1))] [tt, ff] (prAB 1 h g) (by kernel_rfl) (by simp [VH.s, VH.w, VH.v, denL, den]) (by simp [VH.s, bdL, bd]) (prAB_ok 1 h g)).mono fun e w' ⟨B, h1, h2⟩ => ⟨by rw [h1]; simp [den, denL, bRes], h2⟩
theorem rb5_d (R : Int → Int) (T : Int → Int → Int) (w : World) (h g : VH) (HK : KnGOk Tryd.prog (knBi R T RRI RRD RTM 1 h g true false)) : Calls Tryd.prog 22 #[.int .i64 5, h.w 1, g.w 1] w fun e w' => e = .returned (bRes 0 0 1) ∧ Below w.heap.size w w' :=
  (ex_runG (x := .v (bRes 0 0 1)) HK 100000 [.v (.int .i64 5), h.s (.v (.int .i64 1)), g.s (.v (.int .i64 1))] [tt, ff] (prAB 1 h g) (by kernel_rfl) (by simp [VH.s, VH.w, VH.v, denL, den]) (by simp [VH.s, bdL, bd]) (prAB_ok 1 h g)).mono fun e w' ⟨B, h1, h2⟩ => ⟨by rw [h1]; simp [den, denL, bRes], h2⟩
theorem rb5_y0 (R : Int → Int) (T : Int → Int → Int) (w : World) (h g : VH) (HK : KnGOk Tryd.prog (knBi R T RRI RRD RTM 1 h g true true)) (hb : (h.n == g.n) = false) : Calls Tryd.prog 22 #[.int .i64 5, h.w 1, g.w 1] w fun e w' => e = .returned (bRes 2 0 0) ∧ Below w.heap.size w w' :=
  (ex_runG (x := .v (bRes 2 0 0)) HK 100000 [.v (.int .i64 5), h.s (.v (.int .i64 1)), g.s (.v (.int .i64 1))] [tt, ff, ff] ([pw (h.n == g.n) false] ++ prAB 1 h g) (by kernel_rfl) (by simp [VH.s, VH.w, VH.v, denL, den]) (by simp [VH.s, bdL, bd]) (pr_app (pw1 hb) (prAB_ok 1 h g))).mono fun e w' ⟨B, h1, h2⟩ => ⟨by rw [h1]; simp [den, denL, bRes], h2⟩
theorem rb5_y1 (R : Int → Int) (T : Int → Int → Int) (w : World) (h g : VH) (HK : KnGOk Tryd.prog (knBi R T RRI RRD RTM 1 h g true true)) (hb : (h.n == g.n) = true) : Calls Tryd.prog 22 #[.int .i64 5, h.w 1, g.w 1] w fun e w' => e = .returned (bRes 2 1 0) ∧ Below w.heap.size w w' :=
  (ex_runG (x := .v (bRes 2 1 0)) HK 100000 [.v (.int .i64 5), h.s (.v (.int .i64 1)), g.s (.v (.int .i64 1))] [tt, ff, tt] ([pw (h.n == g.n) true] ++ prAB 1 h g) (by kernel_rfl) (by simp [VH.s, VH.w, VH.v, denL, den]) (by simp [VH.s, bdL, bd]) (pr_app (pw1 hb) (prAB_ok 1 h g))).mono fun e w' ⟨B, h1, h2⟩ => ⟨by rw [h1]; simp [den, denL, bRes], h2⟩
theorem rb6_c (R : Int → Int) (T : Int → Int → Int) (w : World) (h g : VH) (HK : KnGOk Tryd.prog (knBi R T RRI RRD RTM 2 h g false false)) : Calls Tryd.prog 22 #[.int .i64 6, h.w 2, g.w 2] w fun e w' => e = .returned (bRes 0 0 1) ∧ Below w.heap.size w w' :=
  (ex_runG (x := .v (bRes 0 0 1)) HK 100000 [.v (.int .i64 6), h.s (.v (.int .i64 2)), g.s (.v (.int .i64 2))] [tt, ff] (prAB 2 h g) (by kernel_rfl) (by simp [VH.s, VH.w, VH.v, denL, den]) (by simp [VH.s, bdL, bd]) (prAB_ok 2 h g)).mono fun e w' ⟨B, h1, h2⟩ => ⟨by rw [h1]; simp [den, denL, bRes], h2⟩
theorem rb6_e (R : Int → Int) (T : Int → Int → Int) (w : World) (h g : VH) (HK : KnGOk Tryd.prog (knBi R T RRI RRD RTM 2 h g false true)) : Calls Tryd.prog 22 #[.int .i64 6, h.w 2, g.w 2] w fun e w' => e = .returned (bRes 0 0 1) ∧ Below w.heap.size w w' :=
  (ex_runG (x := .v (bRes 0 0 1)) HK 100000 [.v (.int .i64 6), h.s (.v (.int .i64 2)), g.s (.v (.int .i64 2))] [tt, ff] (prAB 2 h g) (by kernel_rfl) (by simp [VH.s, VH.w, VH.v, denL, den]) (by simp [VH.s, bdL, bd]) (prAB_ok 2 h g)).mono fun e w' ⟨B, h1, h2⟩ => ⟨by rw [h1]; simp [den, denL, bRes], h2⟩
theorem rb6_d (R : Int → Int) (T : Int → Int → Int) (w : World) (h g : VH) (HK : KnGOk Tryd.prog (knBi R T RRI RRD RTM 2 h g true false)) : Calls Tryd.prog 22 #[.int .i64 6, h.w 2, g.w 2] w fun e w' => e = .returned (bRes 0 0 1) ∧ Below w.heap.size w w' :=
  (ex_runG (x := .v (bRes 0 0 1)) HK 100000 [.v (.int .i64 6), h.s (.v (.int .i64 2)), g.s (.v (.int .i64 2))] [tt, ff] (prAB 2 h g) (by kernel_rfl) (by simp [VH.s, VH.w, VH.v, denL, den]) (by simp [VH.s, bdL, bd]) (prAB_ok 2 h g)).mono fun e w' ⟨B, h1, h2⟩ => ⟨by rw [h1]; simp [den, denL, bRes], h2⟩
theorem rb6_ys (R : Int → Int) (T : Int → Int → Int) (w : World) (h g : VH) (HK : KnGOk Tryd.prog (knBi R T RRI RRD RTM 2 h g true true)) (h0 : (h.n == 1) = false) : Calls Tryd.prog 22 #[.int .i64 6, h.w 2, g.w 2] w fun e w' => e = .returned (bRes 2 0 0) ∧ Below w.heap.size w w' :=
  (ex_runG (x := .v (bRes 2 0 0)) HK 100000 [.v (.int .i64 6), h.s (.v (.int .i64 2)), g.s (.v (.int .i64 2))] [tt, ff, ff] (([pw (h.n == 1) false]) ++ prAB 2 h g) (by kernel_rfl) (by simp [VH.s, VH.w, VH.v, denL, den]) (by simp [VH.s, bdL, bd]) (pr_app (pw1 h0) (prAB_ok 2 h g))).mono fun e w' ⟨B, h1, h2⟩ => ⟨by rw [h1]; simp [den, denL, bRes], h2⟩
theorem rb6_yf (R : Int → Int) (T : Int → Int → Int) (w : World) (h g : VH) (HK : KnGOk Tryd.prog (knBi R T RRI RRD RTM 2 h g true true)) (h0 : (h.n == 1) = true) (h1 : (g.n == 1) = false) : Calls Tryd.prog 22 #[.int .i64 6, h.w 2, g.w 2] w fun e w' => e = .returned (bRes 2 0 0) ∧ Below w.heap.size w w' :=
  (ex_runG (x := .v (bRes 2 0 0)) HK 100000 [.v (.int .i64 6), h.s (.v (.int .i64 2)), g.s (.v (.int .i64 2))] [tt, ff, tt, ff] (([pw (g.n == 1) false] ++ [pw (h.n == 1) true]) ++ prAB 2 h g) (by kernel_rfl) (by simp [VH.s, VH.w, VH.v, denL, den]) (by simp [VH.s, bdL, bd]) (pr_app (pr_app (pw1 h1) (pw1 h0)) (prAB_ok 2 h g))).mono fun e w' ⟨B, h1, h2⟩ => ⟨by rw [h1]; simp [den, denL, bRes], h2⟩
theorem rb6_yt (R : Int → Int) (T : Int → Int → Int) (w : World) (h g : VH) (HK : KnGOk Tryd.prog (knBi R T RRI RRD RTM 2 h g true true)) (h0 : (h.n == 1) = true) (h1 : (g.n == 1) = true) : Calls Tryd.prog 22 #[.int .i64 6, h.w 2, g.w 2] w fun e w' => e = .returned (bRes 2 1 0) ∧ Below w.heap.size w w' :=
  (ex_runG (x := .v (bRes 2 1 0)) HK 100000 [.v (.int .i64 6), h.s (.v (.int .i64 2)), g.s (.v (.int .i64 2))] [tt, ff, tt, tt] (([pw (g.n == 1) true] ++ [pw (h.n == 1) true]) ++ prAB 2 h g) (by kernel_rfl) (by simp [VH.s, VH.w, VH.v, denL, den]) (by simp [VH.s, bdL, bd]) (pr_app (pr_app (pw1 h1) (pw1 h0)) (prAB_ok 2 h g))).mono fun e w' ⟨B, h1, h2⟩ => ⟨by rw [h1]; simp [den, denL, bRes], h2⟩
theorem rb7_c (R : Int → Int) (T : Int → Int → Int) (w : World) (h g : VH) (HK : KnGOk Tryd.prog (knBi R T RRI RRD RTM 2 h g false false)) : Calls Tryd.prog 22 #[.int .i64 7, h.w 2, g.w 2] w fun e w' => e = .returned (bRes 0 0 1) ∧ Below w.heap.size w w' :=
  (ex_runG (x := .v (bRes 0 0 1)) HK 100000 [.v (.int .i64 7), h.s (.v (.int .i64 2)), g.s (.v (.int .i64 2))] [tt, ff] (prAB 2 h g) (by kernel_rfl) (by simp [VH.s, VH.w, VH.v, denL, den]) (by simp [VH.s, bdL, bd]) (prAB_ok 2 h g)).mono fun e w' ⟨B, h1, h2⟩ => ⟨by rw [h1]; simp [den, denL, bRes], h2⟩
theorem rb7_e (R : Int → Int) (T : Int → Int → Int) (w : World) (h g : VH) (HK : KnGOk Tryd.prog (knBi R T RRI RRD RTM 2 h g false true)) : Calls Tryd.prog 22 #[.int .i64 7, h.w 2, g.w 2] w fun e w' => e = .returned (bRes 0 0 1) ∧ Below w.heap.size w w' :=
  (ex_runG (x := .v (bRes 0 0 1)) HK 100000 [.v (.int .i64 7), h.s (.v (.int .i64 2)), g.s (.v (.int .i64 2))] [tt, ff] (prAB 2 h g) (by kernel_rfl) (by simp [VH.s, VH.w, VH.v, denL, den]) (by simp [VH.s, bdL, bd]) (prAB_ok 2 h g)).mono fun e w' ⟨B, h1, h2⟩ => ⟨by rw [h1]; simp [den, denL, bRes], h2⟩
theorem rb7_d (R : Int → Int) (T : Int → Int → Int) (w : World) (h g : VH) (HK : KnGOk Tryd.prog (knBi R T RRI RRD RTM 2 h g true false)) : Calls Tryd.prog 22 #[.int .i64 7, h.w 2, g.w 2] w fun e w' => e = .returned (bRes 0 0 1) ∧ Below w.heap.size w w' :=
  (ex_runG (x := .v (bRes 0 0 1)) HK 100000 [.v (.int .i64 7), h.s (.v (.int .i64 2)), g.s (.v (.int .i64 2))] [tt, ff] (prAB 2 h g) (by kernel_rfl) (by simp [VH.s, VH.w, VH.v, denL, den]) (by simp [VH.s, bdL, bd]) (prAB_ok 2 h g)).mono fun e w' ⟨B, h1, h2⟩ => ⟨by rw [h1]; simp [den, denL, bRes], h2⟩
theorem rb7_ys (R : Int → Int) (T : Int → Int → Int) (w : World) (h g : VH) (HK : KnGOk Tryd.prog (knBi R T RRI RRD RTM 2 h g true true)) (h0 : (h.n == 1) = true) : Calls Tryd.prog 22 #[.int .i64 7, h.w 2, g.w 2] w fun e w' => e = .returned (bRes 2 1 0) ∧ Below w.heap.size w w' :=
  (ex_runG (x := .v (bRes 2 1 0)) HK 100000 [.v (.int .i64 7), h.s (.v (.int .i64 2)), g.s (.v (.int .i64 2))] [tt, ff, tt] (([pw (h.n == 1) true]) ++ prAB 2 h g) (by kernel_rfl) (by simp [VH.s, VH.w, VH.v, denL, den]) (by simp [VH.s, bdL, bd]) (pr_app (pw1 h0) (prAB_ok 2 h g))).mono fun e w' ⟨B, h1, h2⟩ => ⟨by rw [h1]; simp [den, denL, bRes], h2⟩
theorem rb7_yf (R : Int → Int) (T : Int → Int → Int) (w : World) (h g : VH) (HK : KnGOk Tryd.prog (knBi R T RRI RRD RTM 2 h g true true)) (h0 : (h.n == 1) = false) (h1 : (g.n == 1) = false) : Calls Tryd.prog 22 #[.int .i64 7, h.w 2, g.w 2] w fun e w' => e = .returned (bRes 2 0 0) ∧ Below w.heap.size w w' :=
  (ex_runG (x := .v (bRes 2 0 0)) HK 100000 [.v (.int .i64 7), h.s (.v (.int .i64 2)), g.s (.v (.int .i64 2))] [tt, ff, ff, ff] (([pw (g.n == 1) false] ++ [pw (h.n == 1) false]) ++ prAB 2 h g) (by kernel_rfl) (by simp [VH.s, VH.w, VH.v, denL, den]) (by simp [VH.s, bdL, bd]) (pr_app (pr_app (pw1 h1) (pw1 h0)) (prAB_ok 2 h g))).mono fun e w' ⟨B, h1, h2⟩ => ⟨by rw [h1]; simp [den, denL, bRes], h2⟩
theorem rb7_yt (R : Int → Int) (T : Int → Int → Int) (w : World) (h g : VH) (HK : KnGOk Tryd.prog (knBi R T RRI RRD RTM 2 h g true true)) (h0 : (h.n == 1) = false) (h1 : (g.n == 1) = true) : Calls Tryd.prog 22 #[.int .i64 7, h.w 2, g.w 2] w fun e w' => e = .returned (bRes 2 1 0) ∧ Below w.heap.size w w' :=
  (ex_runG (x := .v (bRes 2 1 0)) HK 100000 [.v (.int .i64 7), h.s (.v (.int .i64 2)), g.s (.v (.int .i64 2))] [tt, ff, ff, tt] (([pw (g.n == 1) true] ++ [pw (h.n == 1) false]) ++ prAB 2 h g) (by kernel_rfl) (by simp [VH.s, VH.w, VH.v, denL, den]) (by simp [VH.s, bdL, bd]) (pr_app (pr_app (pw1 h1) (pw1 h0)) (prAB_ok 2 h g))).mono fun e w' ⟨B, h1, h2⟩ => ⟨by rw [h1]; simp [den, denL, bRes], h2⟩
end Go.Proofs.YtoijdnlplbeomaaDoor


/-
  Layer 8: binary operators on other operands.
-/
namespace Go.Proofs.YtoijdnlplbeomaaDoor
open Go Go.RowKit EX
set_option maxRecDepth 100000
set_option linter.unusedVariables false
set_option linter.unusedSimpArgs false
theorem vb_lo (w : World) (h g : VH) (op : Int) (ho : decide (op < 1) = true) : Calls Tryd.prog 21 #[.int .i64 op, h.v, g.v] w fun e w' => e = .returned (bRes 0 0 1) ∧ Below w.heap.size w w' :=
  (ex_runG (x := .v (bRes 0 0 1)) (gk_ok knNone_ok) 100000 [.y (.int .i64 op), h.s (.y (.int .i64 h.k)), g.s (.y (.int .i64 g.k))] [tt] [pw (decide (op < 1)) true] (by kernel_rfl) (by simp [VH.s, VH.w, VH.v, denL, den]) (by simp [VH.s, bdL, bd]) (pw1 ho)).mono fun e w' ⟨B, h1, h2⟩ => ⟨by rw [h1]; simp [den, denL, bRes], h2⟩
theorem vb_hi (w : World) (h g : VH) (op : Int) (ho : decide (op < 1) = false) (hp : decide (op > 7) = true) : Calls Tryd.prog 21 #[.int .i64 op, h.v, g.v] w fun e w' => e = .returned (bRes 0 0 1) ∧ Below w.heap.size w w' :=
  (ex_runG (x := .v (bRes 0 0 1)) (gk_ok knNone_ok) 100000 [.y (.int .i64 op), h.s (.y (.int .i64 h.k)), g.s (.y (.int .i64 g.k))] [ff, tt] ([pw (decide (op > 7)) true] ++ [pw (decide (op < 1)) false]) (by kernel_rfl) (by simp [VH.s, VH.w, VH.v, denL, den]) (by simp [VH.s, bdL, bd]) (pr_app (pw1 hp) (pw1 ho))).mono fun e w' ⟨B, h1, h2⟩ => ⟨by rw [h1]; simp [den, denL, bRes], h2⟩
theorem below_new3 (w : World) (o1 o2 o3 : Obj) : Below w.heap.size w (((w.alloc o1).alloc o2).alloc o3) :=
  (((Below.refl _ _).alloc (Nat.le_refl _) _).alloc (by simp) _).alloc (by simp; omega) _
theorem zc0 {w : World} {b : Nat} (z0 : w.cell? ⟨b, 0, none⟩ = some (.int .i64 0)) : (w.setCell ⟨b, 0, none⟩ (.int .i64 0)).cell? ⟨b, 0, none⟩ = some (.int .i64 0) := World.cell?_setCell_same _ _ _ z0
theorem zc1 {w : World} {b : Nat} (z0 : w.cell? ⟨b, 0, none⟩ = some (.int .i64 0)) (z1 : w.cell? ⟨b, 1, none⟩ = some (.int .i64 0)) : ((w.setCell ⟨b, 0, none⟩ (.int .i64 0)).setCell ⟨b, 1, none⟩ (.int .i64 0)).cell? ⟨b, 1, none⟩ = some (.int .i64 0) := World.cell?_setCell_same _ _ _ (keepA_ z1 (Or.inr (by omega)))
theorem zc2 {w : World} {b : Nat} (z0 : w.cell? ⟨b, 0, none⟩ = some (.int .i64 0)) (z1 : w.cell? ⟨b, 1, none⟩ = some (.int .i64 0)) (z2 : w.cell? ⟨b, 2, none⟩ = some (.int .i64 0)) : (((w.setCell ⟨b, 0, none⟩ (.int .i64 0)).setCell ⟨b, 1, none⟩ (.int .i64 0)).setCell ⟨b, 2, none⟩ (.int .i64 0)).cell? ⟨b, 2, none⟩ = some (.int .i64 0) := World.cell?_setCell_same _ _ _ (keepA_ (keepA_ z2 (Or.inr (by omega))) (Or.inr (by omega)))
theorem zc3 {w : World} {b : Nat} (z0 : w.cell? ⟨b, 0, none⟩ = some (.int .i64 0)) (z1 : w.cell? ⟨b, 1, none⟩ = some (.int .i64 0)) (z2 : w.cell? ⟨b, 2, none⟩ = some (.int .i64 0)) (z3 : w.cell? ⟨b, 3, none⟩ = some (.slice none 0 0)) : ((((w.setCell ⟨b, 0, none⟩ (.int .i64 0)).setCell ⟨b, 1, none⟩ (.int .i64 0)).setCell ⟨b, 2, none⟩ (.int .i64 0)).setCell ⟨b, 3, none⟩ (.slice none 0 0)).cell? ⟨b, 3, none⟩ = some (.slice none 0 0) := World.cell?_setCell_same _ _ _ (keepA_ (keepA_ (keepA_ z3 (Or.inr (by omega))) (Or.inr (by omega))) (Or.inr (by omega)))
set_option maxHeartbeats 1000000 in
theorem rb_ne (w : World) (h g : VH) (op : Int) (hv : VT 40 w h) (gv : VT 40 w g) (hk : (h.k == g.k) = false) : Calls Tryd.prog 22 #[.int .i64 op, h.v, g.v] w fun e w' => e = .returned (bRes 0 0 1) ∧ Below w.heap.size w w' := by
  have H0 := rright_ok h
  have G0 := rright_ok g
  have H := Lib.hid H0
  have G := Lib.hid G0
  have HV := Lib.hid hv
  have GV := Lib.hid gv
  clear hv gv H0 G0
  unfold VH.v bRes
  go_enter Tryd.func22, Tryd.ntmps22
  go_wp2_with (first | (go_at_call 12; first | (refine (H.out _ (HV.out.below (below_new3 _ _ _ _))).mono ?_; rintro e w1 ⟨⟨b1, rfl⟩, hb1⟩; have p0 : w1.cell? ⟨w.heap.size, 0, none⟩ = some (.int .i64 h.k) := cel_below hb1 (by go_simp); have q0 : w1.cell? ⟨w.heap.size + 1, 0, none⟩ = some (.int .i64 g.k) := cel_below hb1 (by go_simp); have q1 : w1.cell? ⟨w.heap.size + 1, 1, none⟩ = some (.int .i64 g.n) := cel_below hb1 (by go_simp); have q2 : w1.cell? ⟨w.heap.size + 1, 2, none⟩ = some (.int .i64 g.m) := cel_below hb1 (by go_simp); have q3 : w1.cell? ⟨w.heap.size + 1, 3, none⟩ = some (.slice g.a g.len g.cap) := cel_below hb1 (by go_simp); have z0 : w1.cell? ⟨w.heap.size + 1 + 1, 0, none⟩ = some (.int .i64 0) := cel_below hb1 (by go_simp); have z1 : w1.cell? ⟨w.heap.size + 1 + 1, 1, none⟩ = some (.int .i64 0) := cel_below hb1 (by go_simp); have z2 : w1.cell? ⟨w.heap.size + 1 + 1, 2, none⟩ = some (.int .i64 0) := cel_below hb1 (by go_simp); have z3 : w1.cell? ⟨w.heap.size + 1 + 1, 3, none⟩ = some (.slice none 0 0) := cel_below hb1 (by go_simp); have f0 : w1.frozen? ⟨w.heap.size + 1 + 1, 0, none⟩ = false := fro_below hb1 (by simp) (by go_simp); have f1 : w1.frozen? ⟨w.heap.size + 1 + 1, 1, none⟩ = false := fro_below hb1 (by simp) (by go_simp); have f2 : w1.frozen? ⟨w.heap.size + 1 + 1, 2, none⟩ = false := fro_below hb1 (by simp) (by go_simp); have f3 : w1.frozen? ⟨w.heap.size + 1 + 1, 3, none⟩ = false := fro_below hb1 (by simp) (by go_simp); have HB1 := Lib.hid ((below_new3 w _ _ _).trans (hb1.mono (by simp; omega))); clear hb1) | (refine (G.out _ (GV.out.below HB1.out)).mono ?_; rintro e w2 ⟨⟨b2, rfl⟩, hb2⟩; have z0q := z0; have p0 : w2.cell? ⟨w.heap.size, 0, none⟩ = some (.int .i64 h.k) := cel_below hb2 p0; have q0 : w2.cell? ⟨w.heap.size + 1, 0, none⟩ = some (.int .i64 g.k) := cel_below hb2 q0; have q1 : w2.cell? ⟨w.heap.size + 1, 1, none⟩ = some (.int .i64 g.n) := cel_below hb2 q1; have q2 : w2.cell? ⟨w.heap.size + 1, 2, none⟩ = some (.int .i64 g.m) := cel_below hb2 q2; have q3 : w2.cell? ⟨w.heap.size + 1, 3, none⟩ = some (.slice g.a g.len g.cap) := cel_below hb2 q3; have z0 : w2.cell? ⟨w.heap.size + 1 + 1, 0, none⟩ = some (.int .i64 0) := cel_below hb2 z0; have z1 : w2.cell? ⟨w.heap.size + 1 + 1, 1, none⟩ = some (.int .i64 0) := cel_below hb2 z1; have z2 : w2.cell? ⟨w.heap.size + 1 + 1, 2, none⟩ = some (.int .i64 0) := cel_below hb2 z2; have z3 : w2.cell? ⟨w.heap.size + 1 + 1, 3, none⟩ = some (.slice none 0 0) := cel_below hb2 z3; have hlz := World.block_lt_of_cell? w1 ⟨w.heap.size + 1 + 1, 0, none⟩ z0q; have f0 : w2.frozen? ⟨w.heap.size + 1 + 1, 0, none⟩ = false := fro_below hb2 hlz f0; have f1 : w2.frozen? ⟨w.heap.size + 1 + 1, 1, none⟩ = false := fro_below hb2 hlz f1; have f2 : w2.frozen? ⟨w.heap.size + 1 + 1, 2, none⟩ = false := fro_below hb2 hlz f2; have f3 : w2.frozen? ⟨w.heap.size + 1 + 1, 3, none⟩ = false := fro_below hb2 hlz f3; clear hlz; have HB2 := Lib.hid (HB1.out.trans (hb2.mono HB1.out.size)); clear hb2)))
  all_goals (refine bodyPost_ret (v := .tuple #[.agg #[.int .i64 0, .int .i64 0, .int .i64 0, .slice none 0 0], .int .i64 1]) (by simp [results, Tryd.results22, go_sem, zc0 z0, zc1 z0 z1, zc2 z0 z1 z2, zc3 z0 z1 z2 z3]) rfl ⟨rfl, ?_⟩; exact Below.setCell (Below.setCell (Below.setCell (Below.setCell HB2.out (by simp; try omega) _) (by simp; try omega) _) (by simp; try omega) _) (by simp; try omega) _)
set_option maxHeartbeats 1000000 in
theorem rb_k (w : World) (h g : VH) (op : Int) (hv : VT 40 w h) (gv : VT 40 w g) (hk : (h.k == g.k) = true) (h1 : (h.k == 1) = false) (h2 : (h.k == 2) = false) : Calls Tryd.prog 22 #[.int .i64 op, h.v, g.v] w fun e w' => e = .returned (bRes 0 0 1) ∧ Below w.heap.size w w' := by
  have H0 := rright_ok h
  have G0 := rright_ok g
  have H := Lib.hid H0
  have G := Lib.hid G0
  have HV := Lib.hid hv
  have GV := Lib.hid gv
  clear hv gv H0 G0
  unfold VH.v bRes
  go_enter Tryd.func22, Tryd.ntmps22
  go_wp2_with (first | (go_at_call 12; first | (refine (H.out _ (HV.out.below (below_new3 _ _ _ _))).mono ?_; rintro e w1 ⟨⟨b1, rfl⟩, hb1⟩; have p0 : w1.cell? ⟨w.heap.size, 0, none⟩ = some (.int .i64 h.k) := cel_below hb1 (by go_simp); have q0 : w1.cell? ⟨w.heap.size + 1, 0, none⟩ = some (.int .i64 g.k) := cel_below hb1 (by go_simp); have q1 : w1.cell? ⟨w.heap.size + 1, 1, none⟩ = some (.int .i64 g.n) := cel_below hb1 (by go_simp); have q2 : w1.cell? ⟨w.heap.size + 1, 2, none⟩ = some (.int .i64 g.m) := cel_below hb1 (by go_simp); have q3 : w1.cell? ⟨w.heap.size + 1, 3, none⟩ = some (.slice g.a g.len g.cap) := cel_below hb1 (by go_simp); have z0 : w1.cell? ⟨w.heap.size + 1 + 1, 0, none⟩ = some (.int .i64 0) := cel_below hb1 (by go_simp); have z1 : w1.cell? ⟨w.heap.size + 1 + 1, 1, none⟩ = some (.int .i64 0) := cel_below hb1 (by go_simp); have z2 : w1.cell? ⟨w.heap.size + 1 + 1, 2, none⟩ = some (.int .i64 0) := cel_below hb1 (by go_simp); have z3 : w1.cell? ⟨w.heap.size + 1 + 1, 3, none⟩ = some (.slice none 0 0) := cel_below hb1 (by go_simp); have f0 : w1.frozen? ⟨w.heap.size + 1 + 1, 0, none⟩ = false := fro_below hb1 (by simp) (by go_simp); have f1 : w1.frozen? ⟨w.heap.size + 1 + 1, 1, none⟩ = false := fro_below hb1 (by simp) (by go_simp); have f2 : w1.frozen? ⟨w.heap.size + 1 + 1, 2, none⟩ = false := fro_below hb1 (by simp) (by go_simp); have f3 : w1.frozen? ⟨w.heap.size + 1 + 1, 3, none⟩ = false := fro_below hb1 (by simp) (by go_simp); have HB1 := Lib.hid ((below_new3 w _ _ _).trans (hb1.mono (by simp; omega))); clear hb1) | (refine (G.out _ (GV.out.below HB1.out)).mono ?_; rintro e w2 ⟨⟨b2, rfl⟩, hb2⟩; have z0q := z0; have p0 : w2.cell? ⟨w.heap.size, 0, none⟩ = some (.int .i64 h.k) := cel_below hb2 p0; have q0 : w2.cell? ⟨w.heap.size + 1, 0, none⟩ = some (.int .i64 g.k) := cel_below hb2 q0; have q1 : w2.cell? ⟨w.heap.size + 1, 1, none⟩ = some (.int .i64 g.n) := cel_below hb2 q1; have q2 : w2.cell? ⟨w.heap.size + 1, 2, none⟩ = some (.int .i64 g.m) := cel_below hb2 q2; have q3 : w2.cell? ⟨w.heap.size + 1, 3, none⟩ = some (.slice g.a g.len g.cap) := cel_below hb2 q3; have z0 : w2.cell? ⟨w.heap.size + 1 + 1, 0, none⟩ = some (.int .i64 0) := cel_below hb2 z0; have z1 : w2.cell? ⟨w.heap.size + 1 + 1, 1, none⟩ = some (.int .i64 0) := cel_below hb2 z1; have z2 : w2.cell? ⟨w.heap.size + 1 + 1, 2, none⟩ = some (.int .i64 0) := cel_below hb2 z2; have z3 : w2.cell? ⟨w.heap.size + 1 + 1, 3, none⟩ = some (.slice none 0 0) := cel_below hb2 z3; have hlz := World.block_lt_of_cell? w1 ⟨w.heap.size + 1 + 1, 0, none⟩ z0q; have f0 : w2.frozen? ⟨w.heap.size + 1 + 1, 0, none⟩ = false := fro_below hb2 hlz f0; have f1 : w2.frozen? ⟨w.heap.size + 1 + 1, 1, none⟩ = false := fro_below hb2 hlz f1; have f2 : w2.frozen? ⟨w.heap.size + 1 + 1, 2, none⟩ = false := fro_below hb2 hlz f2; have f3 : w2.frozen? ⟨w.heap.size + 1 + 1, 3, none⟩ = false := fro_below hb2 hlz f3; clear hlz; have HB2 := Lib.hid (HB1.out.trans (hb2.mono HB1.out.size)); clear hb2)))
  all_goals (refine bodyPost_ret (v := .tuple #[.agg #[.int .i64 0, .int .i64 0, .int .i64 0, .slice none 0 0], .int .i64 1]) (by simp [results, Tryd.results22, go_sem, zc0 z0, zc1 z0 z1, zc2 z0 z1 z2, zc3 z0 z1 z2 z3]) rfl ⟨rfl, ?_⟩; exact Below.setCell (Below.setCell (Below.setCell (Below.setCell HB2.out (by simp; try omega) _) (by simp; try omega) _) (by simp; try omega) _) (by simp; try omega) _)
set_option maxHeartbeats 1000000 in
theorem rb_1 (w : World) (h g : VH) (op : Int) (hv : VT 40 w h) (gv : VT 40 w g) (e : h.k = 1) (e2 : g.k = 1) (o1 : (op == 1) = false) (o2 : (op == 2) = false) (o3 : (op == 3) = false) (o4 : (op == 4) = false) (o5 : (op == 5) = false) : Calls Tryd.prog 22 #[.int .i64 op, h.w 1, g.w 1] w fun e w' => e = .returned (bRes 0 0 1) ∧ Below w.heap.size w w' := by
  have H0 := rright_ok h
  have G0 := rright_ok g
  rw [VH.w_v e] at H0
  rw [VH.w_v e2] at G0
  clear e e2
  have H := Lib.hid H0
  have G := Lib.hid G0
  have HV := Lib.hid hv
  have GV := Lib.hid gv
  clear hv gv H0 G0
  unfold VH.w bRes
  go_enter Tryd.func22, Tryd.ntmps22
  go_wp2_with (first | (go_at_call 12; first | (refine (H.out _ (HV.out.below (below_new3 _ _ _ _))).mono ?_; rintro e w1 ⟨⟨b1, rfl⟩, hb1⟩; have p0 : w1.cell? ⟨w.heap.size, 0, none⟩ = some (.int .i64 1) := cel_below hb1 (by go_simp); have q0 : w1.cell? ⟨w.heap.size + 1, 0, none⟩ = some (.int .i64 1) := cel_below hb1 (by go_simp); have q1 : w1.cell? ⟨w.heap.size + 1, 1, none⟩ = some (.int .i64 g.n) := cel_below hb1 (by go_simp); have q2 : w1.cell? ⟨w.heap.size + 1, 2, none⟩ = some (.int .i64 g.m) := cel_below hb1 (by go_simp); have q3 : w1.cell? ⟨w.heap.size + 1, 3, none⟩ = some (.slice g.a g.len g.cap) := cel_below hb1 (by go_simp); have z0 : w1.cell? ⟨w.heap.size + 1 + 1, 0, none⟩ = some (.int .i64 0) := cel_below hb1 (by go_simp); have z1 : w1.cell? ⟨w.heap.size + 1 + 1, 1, none⟩ = some (.int .i64 0) := cel_below hb1 (by go_simp); have z2 : w1.cell? ⟨w.heap.size + 1 + 1, 2, none⟩ = some (.int .i64 0) := cel_below hb1 (by go_simp); have z3 : w1.cell? ⟨w.heap.size + 1 + 1, 3, none⟩ = some (.slice none 0 0) := cel_below hb1 (by go_simp); have f0 : w1.frozen? ⟨w.heap.size + 1 + 1, 0, none⟩ = false := fro_below hb1 (by simp) (by go_simp); have f1 : w1.frozen? ⟨w.heap.size + 1 + 1, 1, none⟩ = false := fro_below hb1 (by simp) (by go_simp); have f2 : w1.frozen? ⟨w.heap.size + 1 + 1, 2, none⟩ = false := fro_below hb1 (by simp) (by go_simp); have f3 : w1.frozen? ⟨w.heap.size + 1 + 1, 3, none⟩ = false := fro_below hb1 (by simp) (by go_simp); have HB1 := Lib.hid ((below_new3 w _ _ _).trans (hb1.mono (by simp; omega))); clear hb1) | (refine (G.out _ (GV.out.below HB1.out)).mono ?_; rintro e w2 ⟨⟨b2, rfl⟩, hb2⟩; have z0q := z0; have p0 : w2.cell? ⟨w.heap.size, 0, none⟩ = some (.int .i64 1) := cel_below hb2 p0; have q0 : w2.cell? ⟨w.heap.size + 1, 0, none⟩ = some (.int .i64 1) := cel_below hb2 q0; have q1 : w2.cell? ⟨w.heap.size + 1, 1, none⟩ = some (.int .i64 g.n) := cel_below hb2 q1; have q2 : w2.cell? ⟨w.heap.size + 1, 2, none⟩ = some (.int .i64 g.m) := cel_below hb2 q2; have q3 : w2.cell? ⟨w.heap.size + 1, 3, none⟩ = some (.slice g.a g.len g.cap) := cel_below hb2 q3; have z0 : w2.cell? ⟨w.heap.size + 1 + 1, 0, none⟩ = some (.int .i64 0) := cel_below hb2 z0; have z1 : w2.cell? ⟨w.heap.size + 1 + 1, 1, none⟩ = some (.int .i64 0) := cel_below hb2 z1; have z2 : w2.cell? ⟨w.heap.size + 1 + 1, 2, none⟩ = some (.int .i64 0) := cel_below hb2 z2; have z3 : w2.cell? ⟨w.heap.size + 1 + 1, 3, none⟩ = some (.slice none 0 0) := cel_below hb2 z3; have hlz := World.block_lt_of_cell? w1 ⟨w.heap.size + 1 + 1, 0, none⟩ z0q; have f0 : w2.frozen? ⟨w.heap.size + 1 + 1, 0, none⟩ = false := fro_below hb2 hlz f0; have f1 : w2.frozen? ⟨w.heap.size + 1 + 1, 1, none⟩ = false := fro_below hb2 hlz f1; have f2 : w2.frozen? ⟨w.heap.size + 1 + 1, 2, none⟩ = false := fro_below hb2 hlz f2; have f3 : w2.frozen? ⟨w.heap.size + 1 + 1, 3, none⟩ = false := fro_below hb2 hlz f3; clear hlz; have HB2 := Lib.hid (HB1.out.trans (hb2.mono HB1.out.size)); clear hb2)))
  all_goals (refine bodyPost_ret (v := .tuple #[.agg #[.int .i64 0, .int .i64 0, .int .i64 0, .slice none 0 0], .int .i64 1]) (by simp [results, Tryd.results22, go_sem, zc0 z0, zc1 z0 z1, zc2 z0 z1 z2, zc3 z0 z1 z2 z3]) rfl ⟨rfl, ?_⟩; exact Below.setCell (Below.setCell (Below.setCell (Below.setCell HB2.out (by simp; try omega) _) (by simp; try omega) _) (by simp; try omega) _) (by simp; try omega) _)
set_option maxHeartbeats 1000000 in
theorem rb_2 (w : World) (h g : VH) (op : Int) (hv : VT 40 w h) (gv : VT 40 w g) (e : h.k = 2) (e2 : g.k = 2) (o6 : (op == 6) = false) (o7 : (op == 7) = false) : Calls Tryd.prog 22 #[.int .i64 op, h.w 2, g.w 2] w fun e w' => e = .returned (bRes 0 0 1) ∧ Below w.heap.size w w' := by
  have H0 := rright_ok h
  have G0 := rright_ok g
  rw [VH.w_v e] at H0
  rw [VH.w_v e2] at G0
  clear e e2
  have H := Lib.hid H0
  have G := Lib.hid G0
  have HV := Lib.hid hv
  have GV := Lib.hid gv
  clear hv gv H0 G0
  unfold VH.w bRes
  go_enter Tryd.func22, Tryd.ntmps22
  go_wp2_with (first | (go_at_call 12; first | (refine (H.out _ (HV.out.below (below_new3 _ _ _ _))).mono ?_; rintro e w1 ⟨⟨b1, rfl⟩, hb1⟩; have p0 : w1.cell? ⟨w.heap.size, 0, none⟩ = some (.int .i64 2) := cel_below hb1 (by go_simp); have q0 : w1.cell? ⟨w.heap.size + 1, 0, none⟩ = some (.int .i64 2) := cel_below hb1 (by go_simp); have q1 : w1.cell? ⟨w.heap.size + 1, 1, none⟩ = some (.int .i64 g.n) := cel_below hb1 (by go_simp); have q2 : w1.cell? ⟨w.heap.size + 1, 2, none⟩ = some (.int .i64 g.m) := cel_below hb1 (by go_simp); have q3 : w1.cell? ⟨w.heap.size + 1, 3, none⟩ = some (.slice g.a g.len g.cap) := cel_below hb1 (by go_simp); have z0 : w1.cell? ⟨w.heap.size + 1 + 1, 0, none⟩ = some (.int .i64 0) := cel_below hb1 (by go_simp); have z1 : w1.cell? ⟨w.heap.size + 1 + 1, 1, none⟩ = some (.int .i64 0) := cel_below hb1 (by go_simp); have z2 : w1.cell? ⟨w.heap.size + 1 + 1, 2, none⟩ = some (.int .i64 0) := cel_below hb1 (by go_simp); have z3 : w1.cell? ⟨w.heap.size + 1 + 1, 3, none⟩ = some (.slice none 0 0) := cel_below hb1 (by go_simp); have f0 : w1.frozen? ⟨w.heap.size + 1 + 1, 0, none⟩ = false := fro_below hb1 (by simp) (by go_simp); have f1 : w1.frozen? ⟨w.heap.size + 1 + 1, 1, none⟩ = false := fro_below hb1 (by simp) (by go_simp); have f2 : w1.frozen? ⟨w.heap.size + 1 + 1, 2, none⟩ = false := fro_below hb1 (by simp) (by go_simp); have f3 : w1.frozen? ⟨w.heap.size + 1 + 1, 3, none⟩ = false := fro_below hb1 (by simp) (by go_simp); have HB1 := Lib.hid ((below_new3 w _ _ _).trans (hb1.mono (by simp; omega))); clear hb1) | (refine (G.out _ (GV.out.below HB1.out)).mono ?_; rintro e w2 ⟨⟨b2, rfl⟩, hb2⟩; have z0q := z0; have p0 : w2.cell? ⟨w.heap.size, 0, none⟩ = some (.int .i64 2) := cel_below hb2 p0; have q0 : w2.cell? ⟨w.heap.size + 1, 0, none⟩ = some (.int .i64 2) := cel_below hb2 q0; have q1 : w2.cell? ⟨w.heap.size + 1, 1, none⟩ = some (.int .i64 g.n) := cel_below hb2 q1; have q2 : w2.cell? ⟨w.heap.size + 1, 2, none⟩ = some (.int .i64 g.m) := cel_below hb2 q2; have q3 : w2.cell? ⟨w.heap.size + 1, 3, none⟩ = some (.slice g.a g.len g.cap) := cel_below hb2 q3; have z0 : w2.cell? ⟨w.heap.size + 1 + 1, 0, none⟩ = some (.int .i64 0) := cel_below hb2 z0; have z1 : w2.cell? ⟨w.heap.size + 1 + 1, 1, none⟩ = some (.int .i64 0) := cel_below hb2 z1; have z2 : w2.cell? ⟨w.heap.size + 1 + 1, 2, none⟩ = some (.int .i64 0) := cel_below hb2 z2; have z3 : w2.cell? ⟨w.heap.size + 1 + 1, 3, none⟩ = some (.slice none 0 0) := cel_below hb2 z3; have hlz := World.block_lt_of_cell? w1 ⟨w.heap.size + 1 + 1, 0, none⟩ z0q; have f0 : w2.frozen? ⟨w.heap.size + 1 + 1, 0, none⟩ = false := fro_below hb2 hlz f0; have f1 : w2.frozen? ⟨w.heap.size + 1 + 1, 1, none⟩ = false := fro_below hb2 hlz f1; have f2 : w2.frozen? ⟨w.heap.size + 1 + 1, 2, none⟩ = false := fro_below hb2 hlz f2; have f3 : w2.frozen? ⟨w.heap.size + 1 + 1, 3, none⟩ = false := fro_below hb2 hlz f3; clear hlz; have HB2 := Lib.hid (HB1.out.trans (hb2.mono HB1.out.size)); clear hb2)))
  all_goals (refine bodyPost_ret (v := .tuple #[.agg #[.int .i64 0, .int .i64 0, .int .i64 0, .slice none 0 0], .int .i64 1]) (by simp [results, Tryd.results22, go_sem, zc0 z0, zc1 z0 z1, zc2 z0 z1 z2, zc3 z0 z1 z2 z3]) rfl ⟨rfl, ?_⟩; exact Below.setCell (Below.setCell (Below.setCell (Below.setCell HB2.out (by simp; try omega) _) (by simp; try omega) _) (by simp; try omega) _) (by simp; try omega) _)
end Go.Proofs.YtoijdnlplbeomaaDoor


/-
  Layer 8: binary operators: program and reference give the same.
-/
namespace Go.Proofs.YtoijdnlplbeomaaDoor
open Go Go.RowKit EX
set_option maxRecDepth 100000
set_option linter.unusedVariables false
set_option linter.unusedSimpArgs false
/-- Both give this. -/
def BinBoth (op : Int) (h g : VH) : Prop := ∃ k n e : Int, (∀ w, Calls Tryd.prog 21 #[.int .i64 op, h.v, g.v] w fun e' w' => e' = .returned (bRes k n e) ∧ Below w.heap.size w w') ∧
  (∀ w, VT 40 w h → VT 40 w g → Calls Tryd.prog 22 #[.int .i64 op, h.v, g.v] w fun e' w' => e' = .returned (bRes k n e) ∧ Below w.heap.size w w')
theorem rb_bad (w : World) (h g : VH) (op : Int) (hv : VT 40 w h) (gv : VT 40 w g) (h1 : ¬(h.k = 1 ∧ g.k = 1 ∧ 1 ≤ op ∧ op ≤ 5)) (h2 : ¬(h.k = 2 ∧ g.k = 2 ∧ 6 ≤ op ∧ op ≤ 7)) : Calls Tryd.prog 22 #[.int .i64 op, h.v, g.v] w fun e' w' => e' = .returned (bRes 0 0 1) ∧ Below w.heap.size w w' := by
  cases hk : (h.k == g.k) with
  | false => exact rb_ne w h g op hv gv hk
  | true =>
    have e : h.k = g.k := by simpa using hk
    by_cases e1 : h.k = 1
    · rw [VH.w_v e1, VH.w_v (h := g) (k := 1) (by omega)]
      exact rb_1 w h g op hv gv e1 (by omega) (by simp; omega) (by simp; omega) (by simp; omega) (by simp; omega) (by simp; omega)
    · by_cases e2 : h.k = 2
      · rw [VH.w_v e2, VH.w_v (h := g) (k := 2) (by omega)]
        exact rb_2 w h g op hv gv e2 (by omega) (by simp; omega) (by simp; omega)
      · exact rb_k w h g op hv gv hk (by simpa using e1) (by simpa using e2)
theorem both_1 (h g : VH) : BinBoth 1 h g := by
  by_cases e1 : h.k = 1
  · by_cases e2 : g.k = 1
    · obtain ⟨b, pb, rb, hb⟩ := right1 h.n h.m h.a h.len h.cap
      obtain ⟨c, pc, rc, hc⟩ := right1 g.n g.m g.a g.len g.cap
      unfold BinBoth
      simp only [VH.w_v e1, VH.w_v e2]
      cases b with
      | false =>
        cases c with
        | false => exact ⟨0, 0, 1, fun w => vb1_c rnd tmQ false w h g (knP_ok pb pc), fun w _ _ => rb1_c rnd tmQ w h g (knR_ok rb rc)⟩
        | true => exact ⟨0, 0, 1, fun w => vb1_c rnd tmQ true w h g (knP_ok pb pc), fun w _ _ => rb1_e rnd tmQ w h g (knR_ok rb rc)⟩
      | true =>
      cases c with
      | false => exact ⟨0, 0, 1, fun w => vb1_d rnd tmQ w h g (knP_ok pb pc), fun w _ _ => rb1_d rnd tmQ w h g (knR_ok rb rc)⟩
      | true =>
        exact ⟨1, rnd (IntKind.i64.wrap (h.n + g.n)), 0, fun w => vb1_y rnd tmQ w h g (knP_ok pb pc), fun w _ _ => rb1_y rnd tmQ w h g (knR_ok rb rc)⟩
    · refine ⟨0, 0, 1, fun w => ?_, fun w hv gv => rb_bad w h g 1 hv gv (by omega) (by omega)⟩
      rw [VH.w_v e1]
      exact vb1_b w h g (by simpa using e2)
  · exact ⟨0, 0, 1, fun w => vb1_a w h g (by simpa using e1), fun w hv gv => rb_bad w h g 1 hv gv (by omega) (by omega)⟩
theorem both_2 (h g : VH) : BinBoth 2 h g := by
  by_cases e1 : h.k = 1
  · by_cases e2 : g.k = 1
    · obtain ⟨b, pb, rb, hb⟩ := right1 h.n h.m h.a h.len h.cap
      obtain ⟨c, pc, rc, hc⟩ := right1 g.n g.m g.a g.len g.cap
      unfold BinBoth
      simp only [VH.w_v e1, VH.w_v e2]
      cases b with
      | false =>
        cases c with
        | false => exact ⟨0, 0, 1, fun w => vb2_c rnd tmQ false w h g (knP_ok pb pc), fun w _ _ => rb2_c rnd tmQ w h g (knR_ok rb rc)⟩
        | true => exact ⟨0, 0, 1, fun w => vb2_c rnd tmQ true w h g (knP_ok pb pc), fun w _ _ => rb2_e rnd tmQ w h g (knR_ok rb rc)⟩
      | true =>
      cases c with
      | false => exact ⟨0, 0, 1, fun w => vb2_d rnd tmQ w h g (knP_ok pb pc), fun w _ _ => rb2_d rnd tmQ w h g (knR_ok rb rc)⟩
      | true =>
        exact ⟨1, rnd (IntKind.i64.wrap (h.n - g.n)), 0, fun w => vb2_y rnd tmQ w h g (knP_ok pb pc), fun w _ _ => rb2_y rnd tmQ w h g (knR_ok rb rc)⟩
    · refine ⟨0, 0, 1, fun w => ?_, fun w hv gv => rb_bad w h g 2 hv gv (by omega) (by omega)⟩
      rw [VH.w_v e1]
      exact vb2_b w h g (by simpa using e2)
  · exact ⟨0, 0, 1, fun w => vb2_a w h g (by simpa using e1), fun w hv gv => rb_bad w h g 2 hv gv (by omega) (by omega)⟩
theorem both_3 (h g : VH) : BinBoth 3 h g := by
  by_cases e1 : h.k = 1
  · by_cases e2 : g.k = 1
    · obtain ⟨b, pb, rb, hb⟩ := right1 h.n h.m h.a h.len h.cap
      obtain ⟨c, pc, rc, hc⟩ := right1 g.n g.m g.a g.len g.cap
      unfold BinBoth
      simp only [VH.w_v e1, VH.w_v e2]
      cases b with
      | false =>
        cases c with
        | false => exact ⟨0, 0, 1, fun w => vb3_c rnd tmQ false w h g (knP_ok pb pc), fun w _ _ => rb3_c rnd tmQ w h g (knR_ok rb rc)⟩
        | true => exact ⟨0, 0, 1, fun w => vb3_c rnd tmQ true w h g (knP_ok pb pc), fun w _ _ => rb3_e rnd tmQ w h g (knR_ok rb rc)⟩
      | true =>
      cases c with
      | false => exact ⟨0, 0, 1, fun w => vb3_d rnd tmQ w h g (knP_ok pb pc), fun w _ _ => rb3_d rnd tmQ w h g (knR_ok rb rc)⟩
      | true =>
        exact ⟨1, rnd (tmQ h.n g.n), 0, fun w => vb3_y rnd tmQ w h g (knP_ok pb pc) (hb rfl) (hc rfl), fun w _ _ => rb3_y rnd tmQ w h g (knR_ok rb rc) (hb rfl) (hc rfl)⟩
    · refine ⟨0, 0, 1, fun w => ?_, fun w hv gv => rb_bad w h g 3 hv gv (by omega) (by omega)⟩
      rw [VH.w_v e1]
      exact vb3_b w h g (by simpa using e2)
  · exact ⟨0, 0, 1, fun w => vb3_a w h g (by simpa using e1), fun w hv gv => rb_bad w h g 3 hv gv (by omega) (by omega)⟩
theorem both_4 (h g : VH) : BinBoth 4 h g := by
  by_cases e1 : h.k = 1
  · by_cases e2 : g.k = 1
    · obtain ⟨b, pb, rb, hb⟩ := right1 h.n h.m h.a h.len h.cap
      obtain ⟨c, pc, rc, hc⟩ := right1 g.n g.m g.a g.len g.cap
      unfold BinBoth
      simp only [VH.w_v e1, VH.w_v e2]
      cases b with
      | false =>
        cases c with
        | false => exact ⟨0, 0, 1, fun w => vb4_c rnd tmQ false w h g (knP_ok pb pc), fun w _ _ => rb4_c rnd tmQ w h g (knR_ok rb rc)⟩
        | true => exact ⟨0, 0, 1, fun w => vb4_c rnd tmQ true w h g (knP_ok pb pc), fun w _ _ => rb4_e rnd tmQ w h g (knR_ok rb rc)⟩
      | true =>
      cases c with
      | false => exact ⟨0, 0, 1, fun w => vb4_d rnd tmQ w h g (knP_ok pb pc), fun w _ _ => rb4_d rnd tmQ w h g (knR_ok rb rc)⟩
      | true =>
        cases hd : (decide (h.n < g.n)) with
        | false => exact ⟨2, 0, 0, fun w => vb4_y0 rnd tmQ w h g (knP_ok pb pc) hd, fun w _ _ => rb4_y0 rnd tmQ w h g (knR_ok rb rc) hd⟩
        | true => exact ⟨2, 1, 0, fun w => vb4_y1 rnd tmQ w h g (knP_ok pb pc) hd, fun w _ _ => rb4_y1 rnd tmQ w h g (knR_ok rb rc) hd⟩
    · refine ⟨0, 0, 1, fun w => ?_, fun w hv gv => rb_bad w h g 4 hv gv (by omega) (by omega)⟩
      rw [VH.w_v e1]
      exact vb4_b w h g (by simpa using e2)
  · exact ⟨0, 0, 1, fun w => vb4_a w h g (by simpa using e1), fun w hv gv => rb_bad w h g 4 hv gv (by omega) (by omega)⟩
theorem both_5 (h g : VH) : BinBoth 5 h g := by
  by_cases e1 : h.k = 1
  · by_cases e2 : g.k = 1
    · obtain ⟨b, pb, rb, hb⟩ := right1 h.n h.m h.a h.len h.cap
      obtain ⟨c, pc, rc, hc⟩ := right1 g.n g.m g.a g.len g.cap
      unfold BinBoth
      simp only [VH.w_v e1, VH.w_v e2]
      cases b with
      | false =>
        cases c with
        | false => exact ⟨0, 0, 1, fun w => vb5_c rnd tmQ false w h g (knP_ok pb pc), fun w _ _ => rb5_c rnd tmQ w h g (knR_ok rb rc)⟩
        | true => exact ⟨0, 0, 1, fun w => vb5_c rnd tmQ true w h g (knP_ok pb pc), fun w _ _ => rb5_e rnd tmQ w h g (knR_ok rb rc)⟩
      | true =>
      cases c with
      | false => exact ⟨0, 0, 1, fun w => vb5_d rnd tmQ w h g (knP_ok pb pc), fun w _ _ => rb5_d rnd tmQ w h g (knR_ok rb rc)⟩
      | true =>
        cases hd : (h.n == g.n) with
        | false => exact ⟨2, 0, 0, fun w => vb5_y0 rnd tmQ w h g (knP_ok pb pc) hd, fun w _ _ => rb5_y0 rnd tmQ w h g (knR_ok rb rc) hd⟩
        | true => exact ⟨2, 1, 0, fun w => vb5_y1 rnd tmQ w h g (knP_ok pb pc) hd, fun w _ _ => rb5_y1 rnd tmQ w h g (knR_ok rb rc) hd⟩
    · refine ⟨0, 0, 1, fun w => ?_, fun w hv gv => rb_bad w h g 5 hv gv (by omega) (by omega)⟩
      rw [VH.w_v e1]
      exact vb5_b w h g (by simpa using e2)
  · exact ⟨0, 0, 1, fun w => vb5_a w h g (by simpa using e1), fun w hv gv => rb_bad w h g 5 hv gv (by omega) (by omega)⟩
theorem both_6 (h g : VH) : BinBoth 6 h g := by
  by_cases e1 : h.k = 2
  · by_cases e2 : g.k = 2
    · obtain ⟨b, pb, rb, hb⟩ := right2 h.n h.m h.a h.len h.cap
      obtain ⟨c, pc, rc, hc⟩ := right2 g.n g.m g.a g.len g.cap
      unfold BinBoth
      simp only [VH.w_v e1, VH.w_v e2]
      cases b with
      | false =>
        cases c with
        | false => exact ⟨0, 0, 1, fun w => vb6_c rnd tmQ false w h g (knP_ok pb pc), fun w _ _ => rb6_c rnd tmQ w h g (knR_ok rb rc)⟩
        | true => exact ⟨0, 0, 1, fun w => vb6_c rnd tmQ true w h g (knP_ok pb pc), fun w _ _ => rb6_e rnd tmQ w h g (knR_ok rb rc)⟩
      | true =>
      cases c with
      | false => exact ⟨0, 0, 1, fun w => vb6_d rnd tmQ w h g (knP_ok pb pc), fun w _ _ => rb6_d rnd tmQ w h g (knR_ok rb rc)⟩
      | true =>
        cases h0 : (h.n == 1) with
        | false => exact ⟨2, 0, 0, fun w => vb6_ys rnd tmQ w h g (knP_ok pb pc) h0, fun w _ _ => rb6_ys rnd tmQ w h g (knR_ok rb rc) h0⟩
        | true =>
          cases h1 : (g.n == 1) with
          | false => exact ⟨2, 0, 0, fun w => vb6_yf rnd tmQ w h g (knP_ok pb pc) h0 h1, fun w _ _ => rb6_yf rnd tmQ w h g (knR_ok rb rc) h0 h1⟩
          | true => exact ⟨2, 1, 0, fun w => vb6_yt rnd tmQ w h g (knP_ok pb pc) h0 h1, fun w _ _ => rb6_yt rnd tmQ w h g (knR_ok rb rc) h0 h1⟩
    · refine ⟨0, 0, 1, fun w => ?_, fun w hv gv => rb_bad w h g 6 hv gv (by omega) (by omega)⟩
      rw [VH.w_v e1]
      exact vb6_b w h g (by simpa using e2)
  · exact ⟨0, 0, 1, fun w => vb6_a w h g (by simpa using e1), fun w hv gv => rb_bad w h g 6 hv gv (by omega) (by omega)⟩
theorem both_7 (h g : VH) : BinBoth 7 h g := by
  by_cases e1 : h.k = 2
  · by_cases e2 : g.k = 2
    · obtain ⟨b, pb, rb, hb⟩ := right2 h.n h.m h.a h.len h.cap
      obtain ⟨c, pc, rc, hc⟩ := right2 g.n g.m g.a g.len g.cap
      unfold BinBoth
      simp only [VH.w_v e1, VH.w_v e2]
      cases b with
      | false =>
        cases c with
        | false => exact ⟨0, 0, 1, fun w => vb7_c rnd tmQ false w h g (knP_ok pb pc), fun w _ _ => rb7_c rnd tmQ w h g (knR_ok rb rc)⟩
        | true => exact ⟨0, 0, 1, fun w => vb7_c rnd tmQ true w h g (knP_ok pb pc), fun w _ _ => rb7_e rnd tmQ w h g (knR_ok rb rc)⟩
      | true =>
      cases c with
      | false => exact ⟨0, 0, 1, fun w => vb7_d rnd tmQ w h g (knP_ok pb pc), fun w _ _ => rb7_d rnd tmQ w h g (knR_ok rb rc)⟩
      | true =>
        cases h0 : (h.n == 1) with
        | true => exact ⟨2, 1, 0, fun w => vb7_ys rnd tmQ w h g (knP_ok pb pc) h0, fun w _ _ => rb7_ys rnd tmQ w h g (knR_ok rb rc) h0⟩
        | false =>
          cases h1 : (g.n == 1) with
          | false => exact ⟨2, 0, 0, fun w => vb7_yf rnd tmQ w h g (knP_ok pb pc) h0 h1, fun w _ _ => rb7_yf rnd tmQ w h g (knR_ok rb rc) h0 h1⟩
          | true => exact ⟨2, 1, 0, fun w => vb7_yt rnd tmQ w h g (knP_ok pb pc) h0 h1, fun w _ _ => rb7_yt rnd tmQ w h g (knR_ok rb rc) h0 h1⟩
    · refine ⟨0, 0, 1, fun w => ?_, fun w hv gv => rb_bad w h g 7 hv gv (by omega) (by omega)⟩
      rw [VH.w_v e1]
      exact vb7_b w h g (by simpa using e2)
  · exact ⟨0, 0, 1, fun w => vb7_a w h g (by simpa using e1), fun w hv gv => rb_bad w h g 7 hv gv (by omega) (by omega)⟩
theorem both_any (op : Int) (h g : VH) : BinBoth op h g := by
  by_cases h1 : op < 1
  · exact ⟨0, 0, 1, fun w => vb_lo w h g op (by simpa using h1), fun w hv gv => rb_bad w h g op hv gv (by omega) (by omega)⟩
  · by_cases h2 : op > 7
    · exact ⟨0, 0, 1, fun w => vb_hi w h g op (by simpa using h1) (by simpa using h2), fun w hv gv => rb_bad w h g op hv gv (by omega) (by omega)⟩
    · have : op = 1 ∨ op = 2 ∨ op = 3 ∨ op = 4 ∨ op = 5 ∨ op = 6 ∨ op = 7 := by omega
      rcases this with rfl | rfl | rfl | rfl | rfl | rfl | rfl
      · exact both_1 h g
      · exact both_2 h g
      · exact both_3 h g
      · exact both_4 h g
      · exact both_5 h g
      · exact both_6 h g
      · exact both_7 h g
end Go.Proofs.YtoijdnlplbeomaaDoor


/-
  Layer 8: binary operators: program and reference give the same.
-/
namespace Go.Proofs.YtoijdnlplbeomaaDoor
open Go Go.RowKit EX
set_option maxRecDepth 100000
set_option linter.unusedVariables false
set_option linter.unusedSimpArgs false
def BinOk (k n e : Int) : Prop := e ≠ 0 ∨ (k = 1 ∧ -1099511627776 ≤ n ∧ n ≤ 1099511627776) ∨ (k = 2 ∧ (n = 0 ∨ n = 1))
/-- What Bin gives is right. -/
def BinS (op : Int) (h g : VH) : Prop := ∃ k n e : Int, (∀ w, Calls Tryd.prog 21 #[.int .i64 op, h.v, g.v] w fun e' w' => e' = .returned (bRes k n e) ∧ Below w.heap.size w w') ∧ BinOk k n e
theorem rnd_in2 (n : Int) : -1099511627776 ≤ rnd n ∧ rnd n ≤ 1099511627776 := by rw [rnd_eq]; split <;> omega
theorem stay_1 (h g : VH) : BinS 1 h g := by
  by_cases e1 : h.k = 1
  · by_cases e2 : g.k = 1
    · obtain ⟨b, pb, rb, hb⟩ := right1 h.n h.m h.a h.len h.cap
      obtain ⟨c, pc, rc, hc⟩ := right1 g.n g.m g.a g.len g.cap
      unfold BinS
      simp only [VH.w_v e1, VH.w_v e2]
      cases b with
      | false =>
        cases c with
        | false => exact ⟨0, 0, 1, fun w => vb1_c rnd tmQ false w h g (knP_ok pb pc), (by unfold BinOk; first | exact Or.inl (by decide) | exact Or.inr (Or.inl ⟨rfl, rnd_in2 _⟩) | exact Or.inr (Or.inr ⟨rfl, by simp⟩))⟩
        | true => exact ⟨0, 0, 1, fun w => vb1_c rnd tmQ true w h g (knP_ok pb pc), (by unfold BinOk; first | exact Or.inl (by decide) | exact Or.inr (Or.inl ⟨rfl, rnd_in2 _⟩) | exact Or.inr (Or.inr ⟨rfl, by simp⟩))⟩
      | true =>
      cases c with
      | false => exact ⟨0, 0, 1, fun w => vb1_d rnd tmQ w h g (knP_ok pb pc), (by unfold BinOk; first | exact Or.inl (by decide) | exact Or.inr (Or.inl ⟨rfl, rnd_in2 _⟩) | exact Or.inr (Or.inr ⟨rfl, by simp⟩))⟩
      | true =>
        exact ⟨1, rnd (IntKind.i64.wrap (h.n + g.n)), 0, fun w => vb1_y rnd tmQ w h g (knP_ok pb pc), (by unfold BinOk; first | exact Or.inl (by decide) | exact Or.inr (Or.inl ⟨rfl, rnd_in2 _⟩) | exact Or.inr (Or.inr ⟨rfl, by simp⟩))⟩
    · refine ⟨0, 0, 1, fun w => ?_, (by unfold BinOk; first | exact Or.inl (by decide) | exact Or.inr (Or.inl ⟨rfl, rnd_in2 _⟩) | exact Or.inr (Or.inr ⟨rfl, by simp⟩))⟩
      rw [VH.w_v e1]
      exact vb1_b w h g (by simpa using e2)
  · exact ⟨0, 0, 1, fun w => vb1_a w h g (by simpa using e1), (by unfold BinOk; first | exact Or.inl (by decide) | exact Or.inr (Or.inl ⟨rfl, rnd_in2 _⟩) | exact Or.inr (Or.inr ⟨rfl, by simp⟩))⟩
theorem stay_2 (h g : VH) : BinS 2 h g := by
  by_cases e1 : h.k = 1
  · by_cases e2 : g.k = 1
    · obtain ⟨b, pb, rb, hb⟩ := right1 h.n h.m h.a h.len h.cap
      obtain ⟨c, pc, rc, hc⟩ := right1 g.n g.m g.a g.len g.cap
      unfold BinS
      simp only [VH.w_v e1, VH.w_v e2]
      cases b with
      | false =>
        cases c with
        | false => exact ⟨0, 0, 1, fun w => vb2_c rnd tmQ false w h g (knP_ok pb pc), (by unfold BinOk; first | exact Or.inl (by decide) | exact Or.inr (Or.inl ⟨rfl, rnd_in2 _⟩) | exact Or.inr (Or.inr ⟨rfl, by simp⟩))⟩
        | true => exact ⟨0, 0, 1, fun w => vb2_c rnd tmQ true w h g (knP_ok pb pc), (by unfold BinOk; first | exact Or.inl (by decide) | exact Or.inr (Or.inl ⟨rfl, rnd_in2 _⟩) | exact Or.inr (Or.inr ⟨rfl, by simp⟩))⟩
      | true =>
      cases c with
      | false => exact ⟨0, 0, 1, fun w => vb2_d rnd tmQ w h g (knP_ok pb pc), (by unfold BinOk; first | exact Or.inl (by decide) | exact Or.inr (Or.inl ⟨rfl, rnd_in2 _⟩) | exact Or.inr (Or.inr ⟨rfl, by simp⟩))⟩
      | true =>
        exact ⟨1, rnd (IntKind.i64.wrap (h.n - g.n)), 0, fun w => vb2_y rnd tmQ w h g (knP_ok pb pc), (by unfold BinOk; first | exact Or.inl (by decide) | exact Or.inr (Or.inl ⟨rfl, rnd_in2 _⟩) | exact Or.inr (Or.inr ⟨rfl, by simp⟩))⟩
    · refine ⟨0, 0, 1, fun w => ?_, (by unfold BinOk; first | exact Or.inl (by decide) | exact Or.inr (Or.inl ⟨rfl, rnd_in2 _⟩) | exact Or.inr (Or.inr ⟨rfl, by simp⟩))⟩
      rw [VH.w_v e1]
      exact vb2_b w h g (by simpa using e2)
  · exact ⟨0, 0, 1, fun w => vb2_a w h g (by simpa using e1), (by unfold BinOk; first | exact Or.inl (by decide) | exact Or.inr (Or.inl ⟨rfl, rnd_in2 _⟩) | exact Or.inr (Or.inr ⟨rfl, by simp⟩))⟩
theorem stay_3 (h g : VH) : BinS 3 h g := by
  by_cases e1 : h.k = 1
  · by_cases e2 : g.k = 1
    · obtain ⟨b, pb, rb, hb⟩ := right1 h.n h.m h.a h.len h.cap
      obtain ⟨c, pc, rc, hc⟩ := right1 g.n g.m g.a g.len g.cap
      unfold BinS
      simp only [VH.w_v e1, VH.w_v e2]
      cases b with
      | false =>
        cases c with
        | false => exact ⟨0, 0, 1, fun w => vb3_c rnd tmQ false w h g (knP_ok pb pc), (by unfold BinOk; first | exact Or.inl (by decide) | exact Or.inr (Or.inl ⟨rfl, rnd_in2 _⟩) | exact Or.inr (Or.inr ⟨rfl, by simp⟩))⟩
        | true => exact ⟨0, 0, 1, fun w => vb3_c rnd tmQ true w h g (knP_ok pb pc), (by unfold BinOk; first | exact Or.inl (by decide) | exact Or.inr (Or.inl ⟨rfl, rnd_in2 _⟩) | exact Or.inr (Or.inr ⟨rfl, by simp⟩))⟩
      | true =>
      cases c with
      | false => exact ⟨0, 0, 1, fun w => vb3_d rnd tmQ w h g (knP_ok pb pc), (by unfold BinOk; first | exact Or.inl (by decide) | exact Or.inr (Or.inl ⟨rfl, rnd_in2 _⟩) | exact Or.inr (Or.inr ⟨rfl, by simp⟩))⟩
      | true =>
        exact ⟨1, rnd (tmQ h.n g.n), 0, fun w => vb3_y rnd tmQ w h g (knP_ok pb pc) (hb rfl) (hc rfl), (by unfold BinOk; first | exact Or.inl (by decide) | exact Or.inr (Or.inl ⟨rfl, rnd_in2 _⟩) | exact Or.inr (Or.inr ⟨rfl, by simp⟩))⟩
    · refine ⟨0, 0, 1, fun w => ?_, (by unfold BinOk; first | exact Or.inl (by decide) | exact Or.inr (Or.inl ⟨rfl, rnd_in2 _⟩) | exact Or.inr (Or.inr ⟨rfl, by simp⟩))⟩
      rw [VH.w_v e1]
      exact vb3_b w h g (by simpa using e2)
  · exact ⟨0, 0, 1, fun w => vb3_a w h g (by simpa using e1), (by unfold BinOk; first | exact Or.inl (by decide) | exact Or.inr (Or.inl ⟨rfl, rnd_in2 _⟩) | exact Or.inr (Or.inr ⟨rfl, by simp⟩))⟩
theorem stay_4 (h g : VH) : BinS 4 h g := by
  by_cases e1 : h.k = 1
  · by_cases e2 : g.k = 1
    · obtain ⟨b, pb, rb, hb⟩ := right1 h.n h.m h.a h.len h.cap
      obtain ⟨c, pc, rc, hc⟩ := right1 g.n g.m g.a g.len g.cap
      unfold BinS
      simp only [VH.w_v e1, VH.w_v e2]
      cases b with
      | false =>
        cases c with
        | false => exact ⟨0, 0, 1, fun w => vb4_c rnd tmQ false w h g (knP_ok pb pc), (by unfold BinOk; first | exact Or.inl (by decide) | exact Or.inr (Or.inl ⟨rfl, rnd_in2 _⟩) | exact Or.inr (Or.inr ⟨rfl, by simp⟩))⟩
        | true => exact ⟨0, 0, 1, fun w => vb4_c rnd tmQ true w h g (knP_ok pb pc), (by unfold BinOk; first | exact Or.inl (by decide) | exact Or.inr (Or.inl ⟨rfl, rnd_in2 _⟩) | exact Or.inr (Or.inr ⟨rfl, by simp⟩))⟩
      | true =>
      cases c with
      | false => exact ⟨0, 0, 1, fun w => vb4_d rnd tmQ w h g (knP_ok pb pc), (by unfold BinOk; first | exact Or.inl (by decide) | exact Or.inr (Or.inl ⟨rfl, rnd_in2 _⟩) | exact Or.inr (Or.inr ⟨rfl, by simp⟩))⟩
      | true =>
        cases hd : (decide (h.n < g.n)) with
        | false => exact ⟨2, 0, 0, fun w => vb4_y0 rnd tmQ w h g (knP_ok pb pc) hd, (by unfold BinOk; first | exact Or.inl (by decide) | exact Or.inr (Or.inl ⟨rfl, rnd_in2 _⟩) | exact Or.inr (Or.inr ⟨rfl, by simp⟩))⟩
        | true => exact ⟨2, 1, 0, fun w => vb4_y1 rnd tmQ w h g (knP_ok pb pc) hd, (by unfold BinOk; first | exact Or.inl (by decide) | exact Or.inr (Or.inl ⟨rfl, rnd_in2 _⟩) | exact Or.inr (Or.inr ⟨rfl, by simp⟩))⟩
    · refine ⟨0, 0, 1, fun w => ?_, (by unfold BinOk; first | exact Or.inl (by decide) | exact Or.inr (Or.inl ⟨rfl, rnd_in2 _⟩) | exact Or.inr (Or.inr ⟨rfl, by simp⟩))⟩
      rw [VH.w_v e1]
      exact vb4_b w h g (by simpa using e2)
  · exact ⟨0, 0, 1, fun w => vb4_a w h g (by simpa using e1), (by unfold BinOk; first | exact Or.inl (by decide) | exact Or.inr (Or.inl ⟨rfl, rnd_in2 _⟩) | exact Or.inr (Or.inr ⟨rfl, by simp⟩))⟩
theorem stay_5 (h g : VH) : BinS 5 h g := by
  by_cases e1 : h.k = 1
  · by_cases e2 : g.k = 1
    · obtain ⟨b, pb, rb, hb⟩ := right1 h.n h.m h.a h.len h.cap
      obtain ⟨c, pc, rc, hc⟩ := right1 g.n g.m g.a g.len g.cap
      unfold BinS
      simp only [VH.w_v e1, VH.w_v e2]
      cases b with
      | false =>
        cases c with
        | false => exact ⟨0, 0, 1, fun w => vb5_c rnd tmQ false w h g (knP_ok pb pc), (by unfold BinOk; first | exact Or.inl (by decide) | exact Or.inr (Or.inl ⟨rfl, rnd_in2 _⟩) | exact Or.inr (Or.inr ⟨rfl, by simp⟩))⟩
        | true => exact ⟨0, 0, 1, fun w => vb5_c rnd tmQ true w h g (knP_ok pb pc), (by unfold BinOk; first | exact Or.inl (by decide) | exact Or.inr (Or.inl ⟨rfl, rnd_in2 _⟩) | exact Or.inr (Or.inr ⟨rfl, by simp⟩))⟩
      | true =>
      cases c with
      | false => exact ⟨0, 0, 1, fun w => vb5_d rnd tmQ w h g (knP_ok pb pc), (by unfold BinOk; first | exact Or.inl (by decide) | exact Or.inr (Or.inl ⟨rfl, rnd_in2 _⟩) | exact Or.inr (Or.inr ⟨rfl, by simp⟩))⟩
      | true =>
        cases hd : (h.n == g.n) with
        | false => exact ⟨2, 0, 0, fun w => vb5_y0 rnd tmQ w h g (knP_ok pb pc) hd, (by unfold BinOk; first | exact Or.inl (by decide) | exact Or.inr (Or.inl ⟨rfl, rnd_in2 _⟩) | exact Or.inr (Or.inr ⟨rfl, by simp⟩))⟩
        | true => exact ⟨2, 1, 0, fun w => vb5_y1 rnd tmQ w h g (knP_ok pb pc) hd, (by unfold BinOk; first | exact Or.inl (by decide) | exact Or.inr (Or.inl ⟨rfl, rnd_in2 _⟩) | exact Or.inr (Or.inr ⟨rfl, by simp⟩))⟩
    · refine ⟨0, 0, 1, fun w => ?_, (by unfold BinOk; first | exact Or.inl (by decide) | exact Or.inr (Or.inl ⟨rfl, rnd_in2 _⟩) | exact Or.inr (Or.inr ⟨rfl, by simp⟩))⟩
      rw [VH.w_v e1]
      exact vb5_b w h g (by simpa using e2)
  · exact ⟨0, 0, 1, fun w => vb5_a w h g (by simpa using e1), (by unfold BinOk; first | exact Or.inl (by decide) | exact Or.inr (Or.inl ⟨rfl, rnd_in2 _⟩) | exact Or.inr (Or.inr ⟨rfl, by simp⟩))⟩
theorem stay_6 (h g : VH) : BinS 6 h g := by
  by_cases e1 : h.k = 2
  · by_cases e2 : g.k = 2
    · obtain ⟨b, pb, rb, hb⟩ := right2 h.n h.m h.a h.len h.cap
      obtain ⟨c, pc, rc, hc⟩ := right2 g.n g.m g.a g.len g.cap
      unfold BinS
      simp only [VH.w_v e1, VH.w_v e2]
      cases b with
      | false =>
        cases c with
        | false => exact ⟨0, 0, 1, fun w => vb6_c rnd tmQ false w h g (knP_ok pb pc), (by unfold BinOk; first | exact Or.inl (by decide) | exact Or.inr (Or.inl ⟨rfl, rnd_in2 _⟩) | exact Or.inr (Or.inr ⟨rfl, by simp⟩))⟩
        | true => exact ⟨0, 0, 1, fun w => vb6_c rnd tmQ true w h g (knP_ok pb pc), (by unfold BinOk; first | exact Or.inl (by decide) | exact Or.inr (Or.inl ⟨rfl, rnd_in2 _⟩) | exact Or.inr (Or.inr ⟨rfl, by simp⟩))⟩
      | true =>
      cases c with
      | false => exact ⟨0, 0, 1, fun w => vb6_d rnd tmQ w h g (knP_ok pb pc), (by unfold BinOk; first | exact Or.inl (by decide) | exact Or.inr (Or.inl ⟨rfl, rnd_in2 _⟩) | exact Or.inr (Or.inr ⟨rfl, by simp⟩))⟩
      | true =>
        cases h0 : (h.n == 1) with
        | false => exact ⟨2, 0, 0, fun w => vb6_ys rnd tmQ w h g (knP_ok pb pc) h0, (by unfold BinOk; first | exact Or.inl (by decide) | exact Or.inr (Or.inl ⟨rfl, rnd_in2 _⟩) | exact Or.inr (Or.inr ⟨rfl, by simp⟩))⟩
        | true =>
          cases h1 : (g.n == 1) with
          | false => exact ⟨2, 0, 0, fun w => vb6_yf rnd tmQ w h g (knP_ok pb pc) h0 h1, (by unfold BinOk; first | exact Or.inl (by decide) | exact Or.inr (Or.inl ⟨rfl, rnd_in2 _⟩) | exact Or.inr (Or.inr ⟨rfl, by simp⟩))⟩
          | true => exact ⟨2, 1, 0, fun w => vb6_yt rnd tmQ w h g (knP_ok pb pc) h0 h1, (by unfold BinOk; first | exact Or.inl (by decide) | exact Or.inr (Or.inl ⟨rfl, rnd_in2 _⟩) | exact Or.inr (Or.inr ⟨rfl, by simp⟩))⟩
    · refine ⟨0, 0, 1, fun w => ?_, (by unfold BinOk; first | exact Or.inl (by decide) | exact Or.inr (Or.inl ⟨rfl, rnd_in2 _⟩) | exact Or.inr (Or.inr ⟨rfl, by simp⟩))⟩
      rw [VH.w_v e1]
      exact vb6_b w h g (by simpa using e2)
  · exact ⟨0, 0, 1, fun w => vb6_a w h g (by simpa using e1), (by unfold BinOk; first | exact Or.inl (by decide) | exact Or.inr (Or.inl ⟨rfl, rnd_in2 _⟩) | exact Or.inr (Or.inr ⟨rfl, by simp⟩))⟩
theorem stay_7 (h g : VH) : BinS 7 h g := by
  by_cases e1 : h.k = 2
  · by_cases e2 : g.k = 2
    · obtain ⟨b, pb, rb, hb⟩ := right2 h.n h.m h.a h.len h.cap
      obtain ⟨c, pc, rc, hc⟩ := right2 g.n g.m g.a g.len g.cap
      unfold BinS
      simp only [VH.w_v e1, VH.w_v e2]
      cases b with
      | false =>
        cases c with
        | false => exact ⟨0, 0, 1, fun w => vb7_c rnd tmQ false w h g (knP_ok pb pc), (by unfold BinOk; first | exact Or.inl (by decide) | exact Or.inr (Or.inl ⟨rfl, rnd_in2 _⟩) | exact Or.inr (Or.inr ⟨rfl, by simp⟩))⟩
        | true => exact ⟨0, 0, 1, fun w => vb7_c rnd tmQ true w h g (knP_ok pb pc), (by unfold BinOk; first | exact Or.inl (by decide) | exact Or.inr (Or.inl ⟨rfl, rnd_in2 _⟩) | exact Or.inr (Or.inr ⟨rfl, by simp⟩))⟩
      | true =>
      cases c with
      | false => exact ⟨0, 0, 1, fun w => vb7_d rnd tmQ w h g (knP_ok pb pc), (by unfold BinOk; first | exact Or.inl (by decide) | exact Or.inr (Or.inl ⟨rfl, rnd_in2 _⟩) | exact Or.inr (Or.inr ⟨rfl, by simp⟩))⟩
      | true =>
        cases h0 : (h.n == 1) with
        | true => exact ⟨2, 1, 0, fun w => vb7_ys rnd tmQ w h g (knP_ok pb pc) h0, (by unfold BinOk; first | exact Or.inl (by decide) | exact Or.inr (Or.inl ⟨rfl, rnd_in2 _⟩) | exact Or.inr (Or.inr ⟨rfl, by simp⟩))⟩
        | false =>
          cases h1 : (g.n == 1) with
          | false => exact ⟨2, 0, 0, fun w => vb7_yf rnd tmQ w h g (knP_ok pb pc) h0 h1, (by unfold BinOk; first | exact Or.inl (by decide) | exact Or.inr (Or.inl ⟨rfl, rnd_in2 _⟩) | exact Or.inr (Or.inr ⟨rfl, by simp⟩))⟩
          | true => exact ⟨2, 1, 0, fun w => vb7_yt rnd tmQ w h g (knP_ok pb pc) h0 h1, (by unfold BinOk; first | exact Or.inl (by decide) | exact Or.inr (Or.inl ⟨rfl, rnd_in2 _⟩) | exact Or.inr (Or.inr ⟨rfl, by simp⟩))⟩
    · refine ⟨0, 0, 1, fun w => ?_, (by unfold BinOk; first | exact Or.inl (by decide) | exact Or.inr (Or.inl ⟨rfl, rnd_in2 _⟩) | exact Or.inr (Or.inr ⟨rfl, by simp⟩))⟩
      rw [VH.w_v e1]
      exact vb7_b w h g (by simpa using e2)
  · exact ⟨0, 0, 1, fun w => vb7_a w h g (by simpa using e1), (by unfold BinOk; first | exact Or.inl (by decide) | exact Or.inr (Or.inl ⟨rfl, rnd_in2 _⟩) | exact Or.inr (Or.inr ⟨rfl, by simp⟩))⟩
theorem stay_any (op : Int) (h g : VH) : BinS op h g := by
  by_cases h1 : op < 1
  · exact ⟨0, 0, 1, fun w => vb_lo w h g op (by simpa using h1), (by unfold BinOk; first | exact Or.inl (by decide) | exact Or.inr (Or.inl ⟨rfl, rnd_in2 _⟩) | exact Or.inr (Or.inr ⟨rfl, by simp⟩))⟩
  · by_cases h2 : op > 7
    · exact ⟨0, 0, 1, fun w => vb_hi w h g op (by simpa using h1) (by simpa using h2), (by unfold BinOk; first | exact Or.inl (by decide) | exact Or.inr (Or.inl ⟨rfl, rnd_in2 _⟩) | exact Or.inr (Or.inr ⟨rfl, by simp⟩))⟩
    · have : op = 1 ∨ op = 2 ∨ op = 3 ∨ op = 4 ∨ op = 5 ∨ op = 6 ∨ op = 7 := by omega
      rcases this with rfl | rfl | rfl | rfl | rfl | rfl | rfl
      · exact stay_1 h g
      · exact stay_2 h g
      · exact stay_3 h g
      · exact stay_4 h g
      · exact stay_5 h g
      · exact stay_6 h g
      · exact stay_7 h g
end Go.Proofs.YtoijdnlplbeomaaDoor
