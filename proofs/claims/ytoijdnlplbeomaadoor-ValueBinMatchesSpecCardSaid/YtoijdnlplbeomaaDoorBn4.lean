
/-
  Layer 8: ValueBinMatchesSpec: the run.
-/
import Derived.Test.YtoijdnlplbeomaaDoorBn3
namespace Go.Proofs.YtoijdnlplbeomaaDoor
open Go Go.RowKit EX
set_option maxRecDepth 100000
set_option linter.unusedVariables false
set_option linter.unusedSimpArgs false
abbrev LAWB : FuncId := 4
theorem small_any (h : VH) (w : World) (hv : VT 40 w h) : Calls Tryd.prog 8 #[h.v] w fun e w' => IsBool e ∧ Below w.heap.size w w' := by
  have H := Lib.hid (count_any 40 (by omega) h)
  have HV := Lib.hid hv
  clear hv
  unfold VH.v
  go_enter Tryd.func8, Tryd.ntmps8
  go_wp2_with (first | (go_at_call 26; refine (H.out _ (HV.out.below (below_new1 _ _)) 40 _ rfl).mono ?_; rintro e w1 ⟨⟨c, rfl⟩, hb⟩))
  go_ret
  exact ⟨⟨_, rfl⟩, (below_new1 _ _).trans (hb.mono (by simp))⟩
theorem below_new2 (w : World) (o1 o2 : Obj) : Below w.heap.size w ((w.alloc o1).alloc o2) := ((Below.refl _ _).alloc (Nat.le_refl _) _).alloc (by simp) _
theorem cel_alloc {w : World} {b o : Nat} {v : Value} (ob : Obj) (h : w.cell? ⟨b, o, none⟩ = some v) : (w.alloc ob).cell? ⟨b, o, none⟩ = some v := cel_below (below_new1 _ _) h
def bLeaf (k n : Int) : Value := .agg #[.int .i64 k, .int .i64 n, .int .i64 0, .slice none 0 0]
theorem same_leaf (k n : Int) (w : World) : Calls Tryd.prog 14 #[bLeaf k n, bLeaf k n] w fun e w' => e = .returned (.bool true) ∧ Below w.heap.size w w' :=
  ex_val knNone_ok 100000 [.g [.y (.int .i64 k), .y (.int .i64 n), .v (.int .i64 0), .v (.slice none 0 0)], .g [.y (.int .i64 k), .y (.int .i64 n), .v (.int .i64 0), .v (.slice none 0 0)]] [ff, ff] [pw (n != n) false, pw (k != k) false] (by kernel_rfl) (by simp [bLeaf, denL, den]) (by simp [bdL, bd]) (by
    intro q hq
    simp only [List.mem_cons, List.not_mem_nil, or_false] at hq
    rcases hq with rfl | rfl <;> simp [pw])
set_option maxHeartbeats 1000000 in
theorem bin_law (w : World) (h g : VH) (op : Int) (hv : VT 40 w h) (gv : VT 40 w g) : Calls Tryd.prog LAWB #[.int .i64 op, h.v, g.v] w fun e w' => e = .returned (.bool true) ∧ Below w.heap.size w w' := by
  have HS := Lib.hid sane08
  have H1 := Lib.hid (small_any h)
  have H2 := Lib.hid (small_any g)
  have HV := Lib.hid hv
  have GV := Lib.hid gv
  obtain ⟨k, n, x, pb, rb⟩ := both_any op h g
  have PB := Lib.hid pb
  have RB := Lib.hid rb
  have HL := Lib.hid (same_leaf k n)
  clear hv gv pb rb
  unfold VH.v
  go_enter Tryd.func4, Tryd.ntmps4
  go_wp2_with (first
    | (go_at_call 7; refine (HS.out _).mono ?_; rintro e w1 ⟨rfl, hb1⟩; have p0 : w1.cell? ⟨w.heap.size, 0, none⟩ = some (.int .i64 h.k) := cel_below hb1 (by go_simp); have p1 : w1.cell? ⟨w.heap.size, 1, none⟩ = some (.int .i64 h.n) := cel_below hb1 (by go_simp); have p2 : w1.cell? ⟨w.heap.size, 2, none⟩ = some (.int .i64 h.m) := cel_below hb1 (by go_simp); have p3 : w1.cell? ⟨w.heap.size, 3, none⟩ = some (.slice h.a h.len h.cap) := cel_below hb1 (by go_simp); have q0 : w1.cell? ⟨w.heap.size + 1, 0, none⟩ = some (.int .i64 g.k) := cel_below hb1 (by go_simp); have q1 : w1.cell? ⟨w.heap.size + 1, 1, none⟩ = some (.int .i64 g.n) := cel_below hb1 (by go_simp); have q2 : w1.cell? ⟨w.heap.size + 1, 2, none⟩ = some (.int .i64 g.m) := cel_below hb1 (by go_simp); have q3 : w1.cell? ⟨w.heap.size + 1, 3, none⟩ = some (.slice g.a g.len g.cap) := cel_below hb1 (by go_simp); have B1 := Lib.hid ((below_new2 w _ _).trans (hb1.mono (by simp; try omega))); clear hb1)
    | (go_at_call 8; first
      | (refine (H1.out _ (HV.out.below B1.out)).mono ?_; rintro e w2 ⟨⟨b1, rfl⟩, hb2⟩; have p0 : w2.cell? ⟨w.heap.size, 0, none⟩ = some (.int .i64 h.k) := cel_below hb2 p0; have p1 : w2.cell? ⟨w.heap.size, 1, none⟩ = some (.int .i64 h.n) := cel_below hb2 p1; have p2 : w2.cell? ⟨w.heap.size, 2, none⟩ = some (.int .i64 h.m) := cel_below hb2 p2; have p3 : w2.cell? ⟨w.heap.size, 3, none⟩ = some (.slice h.a h.len h.cap) := cel_below hb2 p3; have q0 : w2.cell? ⟨w.heap.size + 1, 0, none⟩ = some (.int .i64 g.k) := cel_below hb2 q0; have q1 : w2.cell? ⟨w.heap.size + 1, 1, none⟩ = some (.int .i64 g.n) := cel_below hb2 q1; have q2 : w2.cell? ⟨w.heap.size + 1, 2, none⟩ = some (.int .i64 g.m) := cel_below hb2 q2; have q3 : w2.cell? ⟨w.heap.size + 1, 3, none⟩ = some (.slice g.a g.len g.cap) := cel_below hb2 q3; have B2 := Lib.hid (B1.out.trans (hb2.mono B1.out.size)); clear hb2)
      | (refine (H2.out _ (GV.out.below B2.out)).mono ?_; rintro e w3 ⟨⟨b2, rfl⟩, hb3⟩; have p0 : w3.cell? ⟨w.heap.size, 0, none⟩ = some (.int .i64 h.k) := cel_below hb3 p0; have p1 : w3.cell? ⟨w.heap.size, 1, none⟩ = some (.int .i64 h.n) := cel_below hb3 p1; have p2 : w3.cell? ⟨w.heap.size, 2, none⟩ = some (.int .i64 h.m) := cel_below hb3 p2; have p3 : w3.cell? ⟨w.heap.size, 3, none⟩ = some (.slice h.a h.len h.cap) := cel_below hb3 p3; have q0 : w3.cell? ⟨w.heap.size + 1, 0, none⟩ = some (.int .i64 g.k) := cel_below hb3 q0; have q1 : w3.cell? ⟨w.heap.size + 1, 1, none⟩ = some (.int .i64 g.n) := cel_below hb3 q1; have q2 : w3.cell? ⟨w.heap.size + 1, 2, none⟩ = some (.int .i64 g.m) := cel_below hb3 q2; have q3 : w3.cell? ⟨w.heap.size + 1, 3, none⟩ = some (.slice g.a g.len g.cap) := cel_below hb3 q3; have B3 := Lib.hid (B2.out.trans (hb3.mono B2.out.size)); clear hb3))
    | (go_at_call 21; refine (PB.out _).mono ?_; rintro e w4 ⟨rfl, hb4⟩; have p0 : w4.cell? ⟨w.heap.size, 0, none⟩ = some (.int .i64 h.k) := cel_below hb4 p0; have p1 : w4.cell? ⟨w.heap.size, 1, none⟩ = some (.int .i64 h.n) := cel_below hb4 p1; have p2 : w4.cell? ⟨w.heap.size, 2, none⟩ = some (.int .i64 h.m) := cel_below hb4 p2; have p3 : w4.cell? ⟨w.heap.size, 3, none⟩ = some (.slice h.a h.len h.cap) := cel_below hb4 p3; have q0 : w4.cell? ⟨w.heap.size + 1, 0, none⟩ = some (.int .i64 g.k) := cel_below hb4 q0; have q1 : w4.cell? ⟨w.heap.size + 1, 1, none⟩ = some (.int .i64 g.n) := cel_below hb4 q1; have q2 : w4.cell? ⟨w.heap.size + 1, 2, none⟩ = some (.int .i64 g.m) := cel_below hb4 q2; have q3 : w4.cell? ⟨w.heap.size + 1, 3, none⟩ = some (.slice g.a g.len g.cap) := cel_below hb4 q3; have B4 := Lib.hid (B3.out.trans (hb4.mono B3.out.size)); clear hb4; have B5 := Lib.hid (B4.out.alloc B4.out.size (.cells #[.int .i64 k, .int .i64 n, .int .i64 0, .slice none 0 0] 24)); have p0 : (w4.alloc (.cells #[.int .i64 k, .int .i64 n, .int .i64 0, .slice none 0 0] 24)).cell? ⟨w.heap.size, 0, none⟩ = some (.int .i64 h.k) := cel_alloc _ p0; have p1 : (w4.alloc (.cells #[.int .i64 k, .int .i64 n, .int .i64 0, .slice none 0 0] 24)).cell? ⟨w.heap.size, 1, none⟩ = some (.int .i64 h.n) := cel_alloc _ p1; have p2 : (w4.alloc (.cells #[.int .i64 k, .int .i64 n, .int .i64 0, .slice none 0 0] 24)).cell? ⟨w.heap.size, 2, none⟩ = some (.int .i64 h.m) := cel_alloc _ p2; have p3 : (w4.alloc (.cells #[.int .i64 k, .int .i64 n, .int .i64 0, .slice none 0 0] 24)).cell? ⟨w.heap.size, 3, none⟩ = some (.slice h.a h.len h.cap) := cel_alloc _ p3; have q0 : (w4.alloc (.cells #[.int .i64 k, .int .i64 n, .int .i64 0, .slice none 0 0] 24)).cell? ⟨w.heap.size + 1, 0, none⟩ = some (.int .i64 g.k) := cel_alloc _ q0; have q1 : (w4.alloc (.cells #[.int .i64 k, .int .i64 n, .int .i64 0, .slice none 0 0] 24)).cell? ⟨w.heap.size + 1, 1, none⟩ = some (.int .i64 g.n) := cel_alloc _ q1; have q2 : (w4.alloc (.cells #[.int .i64 k, .int .i64 n, .int .i64 0, .slice none 0 0] 24)).cell? ⟨w.heap.size + 1, 2, none⟩ = some (.int .i64 g.m) := cel_alloc _ q2; have q3 : (w4.alloc (.cells #[.int .i64 k, .int .i64 n, .int .i64 0, .slice none 0 0] 24)).cell? ⟨w.heap.size + 1, 3, none⟩ = some (.slice g.a g.len g.cap) := cel_alloc _ q3; have a0 : (w4.alloc (.cells #[.int .i64 k, .int .i64 n, .int .i64 0, .slice none 0 0] 24)).cell? ⟨w4.heap.size, 0, none⟩ = some (.int .i64 k) := (by simp); have a1 : (w4.alloc (.cells #[.int .i64 k, .int .i64 n, .int .i64 0, .slice none 0 0] 24)).cell? ⟨w4.heap.size, 1, none⟩ = some (.int .i64 n) := (by simp); have a2 : (w4.alloc (.cells #[.int .i64 k, .int .i64 n, .int .i64 0, .slice none 0 0] 24)).cell? ⟨w4.heap.size, 2, none⟩ = some (.int .i64 0) := (by simp); have a3 : (w4.alloc (.cells #[.int .i64 k, .int .i64 n, .int .i64 0, .slice none 0 0] 24)).cell? ⟨w4.heap.size, 3, none⟩ = some (.slice none 0 0) := (by simp); unfold bRes)
    | (go_at_call 22; refine (RB.out _ (HV.out.below B5.out) (GV.out.below B5.out)).mono ?_; rintro e w5 ⟨rfl, hb5⟩; have a0 : w5.cell? ⟨w4.heap.size, 0, none⟩ = some (.int .i64 k) := cel_below hb5 a0; have a0 : (w5.alloc (.cells #[.int .i64 k, .int .i64 n, .int .i64 0, .slice none 0 0] 24)).cell? ⟨w4.heap.size, 0, none⟩ = some (.int .i64 k) := cel_alloc _ a0; have a1 : w5.cell? ⟨w4.heap.size, 1, none⟩ = some (.int .i64 n) := cel_below hb5 a1; have a1 : (w5.alloc (.cells #[.int .i64 k, .int .i64 n, .int .i64 0, .slice none 0 0] 24)).cell? ⟨w4.heap.size, 1, none⟩ = some (.int .i64 n) := cel_alloc _ a1; have a2 : w5.cell? ⟨w4.heap.size, 2, none⟩ = some (.int .i64 0) := cel_below hb5 a2; have a2 : (w5.alloc (.cells #[.int .i64 k, .int .i64 n, .int .i64 0, .slice none 0 0] 24)).cell? ⟨w4.heap.size, 2, none⟩ = some (.int .i64 0) := cel_alloc _ a2; have a3 : w5.cell? ⟨w4.heap.size, 3, none⟩ = some (.slice none 0 0) := cel_below hb5 a3; have a3 : (w5.alloc (.cells #[.int .i64 k, .int .i64 n, .int .i64 0, .slice none 0 0] 24)).cell? ⟨w4.heap.size, 3, none⟩ = some (.slice none 0 0) := cel_alloc _ a3; have B6 := Lib.hid (B5.out.trans (hb5.mono B5.out.size)); clear hb5; have B7 := Lib.hid (B6.out.alloc B6.out.size (.cells #[.int .i64 k, .int .i64 n, .int .i64 0, .slice none 0 0] 24)); unfold bRes)
    | (go_at_call 14; refine (HL.out _).mono ?_; rintro e w6 ⟨rfl, hb6⟩; have B8 := Lib.hid (B7.out.trans (hb6.mono B7.out.size)); clear hb6))
  all_goals (go_ret; first | exact ⟨rfl, B8.out⟩ | exact ⟨rfl, B3.out⟩ | exact ⟨rfl, B2.out⟩ | trace_state)
end Go.Proofs.YtoijdnlplbeomaaDoor
