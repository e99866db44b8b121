/-
  Merged: Vs1, Vs2, Vs3, Tx2
-/
import Derived.Test.YtoijdnlplbeomaaDoorPx13
import Derived.Test.YtoijdnlplbeomaaDoorPx5
import Derived.Test.YtoijdnlplbeomaaDoorPx14

/-
  Layer 8: equality of two values, as the program and as the reference decide it.
-/
namespace Go.Proofs.YtoijdnlplbeomaaDoor
open Go Go.RowKit EX
set_option maxRecDepth 100000
set_option linter.unusedVariables false
set_option linter.unusedSimpArgs false
set_option linter.unusedSectionVars false
def VH.sv (g : VH) : List SV := [.y (.int .i64 g.k), .y (.int .i64 g.n), .y (.int .i64 g.m), .y (.slice g.a g.len g.cap)]
def bOf (h : VH) : Nat := match h.a with
  | some ⟨b, _, _⟩ => b
  | none => 0
def oOf (h : VH) : Nat := match h.a with
  | some ⟨_, o, _⟩ => o
  | none => 0
def clJ (h : VH) (j : Nat) : Nat := min (j / 1000) (h.len - 1)
def kidJ (W : World) (h g : VH) (da : Nat) (j : Nat) : VH := if j % 1000 = da then h.kid W (clJ h j) else g.kid W (clJ h j)
/-- The parts of two values, told by the place. -/
abbrev fcS (W : World) (h g : VH) (da : Nat) : FC := ⟨fun j => if j % 1000 = da then bOf h else bOf g, fun j => (if j % 1000 = da then oOf h else oOf g) + clJ h j * 4, fun j => (kidJ W h g da j).sv, fun w => Below W.heap.size W w, fun w w' h k => ⟨k.os.trans h.os, k.tape.trans h.tape, k.output.trans h.output, Nat.le_trans h.size k.size, fun b hb => (k.block b (Nat.lt_of_lt_of_le hb h.size) (by simp)).trans (h.block b hb)⟩⟩
theorem sv_cell [FC] {w : World} {g : VH} {b o : Nat} (hg : g.at w b o) (j : Nat) (x : SV) (hx : g.sv[j]? = some x) : w.cell? ⟨b, o + j, none⟩ = some (den (fun _ => (0, 0)) x) ∧ bd (fun _ => False) x := by
  obtain ⟨h0, h1, h2, h3⟩ := hg
  match j, hx with
  | 0, hx => simp [VH.sv] at hx; subst hx; exact ⟨h0, by simp [bd]⟩
  | 1, hx => simp [VH.sv] at hx; subst hx; exact ⟨h1, by simp [bd]⟩
  | 2, hx => simp [VH.sv] at hx; subst hx; exact ⟨h2, by simp [bd]⟩
  | 3, hx => simp [VH.sv] at hx; subst hx; exact ⟨h3, by simp [bd]⟩
  | j + 4, hx => simp [VH.sv] at hx
theorem fcS_at {d : Nat} {W w : World} {h g : VH} (da : Nat) (hv : VT (d + 1) W h) (gv : VT (d + 1) W g) (hl : h.len = g.len) (h0 : h.len ≠ 0) (hb : Below W.heap.size W w) : @FcAt (fcS W h g da) w := by
  refine ⟨hb, fun i j x hx => ?_⟩
  have hc : clJ h i < h.len := by unfold clJ; omega
  rcases hv.2 with q | ⟨b, o, ea, hel⟩
  · exact absurd q h0
  rcases gv.2 with q | ⟨b', o', ea', hel'⟩
  · exact absurd (hl.trans q) h0
  by_cases hi : i % 1000 = da
  · obtain ⟨k, hk, _⟩ := hel (clJ h i) hc
    have e := VH.kid_eq ea hk
    have hx' : k.sv[j]? = some x := by
      have : (kidJ W h g da i).sv[j]? = some x := hx
      unfold kidJ at this
      rw [if_pos hi, e] at this
      exact this
    have hcell := @sv_cell (fcS W h g da) _ _ _ _ (VH.at_below hb hk) j x hx'
    show w.cell? ⟨if i % 1000 = da then bOf h else bOf g, (if i % 1000 = da then oOf h else oOf g) + clJ h i * 4 + j, none⟩ = _ ∧ _
    rw [if_pos hi, if_pos hi]
    have eb : bOf h = b := by unfold bOf; rw [ea]
    have eo : oOf h = o := by unfold oOf; rw [ea]
    rw [eb, eo]
    exact hcell
  · obtain ⟨k, hk, _⟩ := hel' (clJ h i) (by omega)
    have e := VH.kid_eq ea' hk
    have hx' : k.sv[j]? = some x := by
      have : (kidJ W h g da i).sv[j]? = some x := hx
      unfold kidJ at this
      rw [if_neg hi, e] at this
      exact this
    have hcell := @sv_cell (fcS W h g da) _ _ _ _ (VH.at_below hb hk) j x hx'
    show w.cell? ⟨if i % 1000 = da then bOf h else bOf g, (if i % 1000 = da then oOf h else oOf g) + clJ h i * 4 + j, none⟩ = _ ∧ _
    rw [if_neg hi, if_neg hi]
    have eb : bOf g = b' := by unfold bOf; rw [ea']
    have eo : oOf g = o' := by unfold oOf; rw [ea']
    rw [eb, eo]
    exact hcell
theorem kidJ_at (W : World) (h g : VH) (da d k : Nat) (hd : d < 1000) (hk : k < h.len) : kidJ W h g da (tldR (k : Int) d) = (if d = da then h.kid W k else g.kid W k) := by
  have e1 : tldR (k : Int) d = k * 1000 + d := by simp [tldR]
  have e2 : (k * 1000 + d) % 1000 = d := by omega
  have e3 : clJ h (k * 1000 + d) = k := by unfold clJ; omega
  unfold kidJ
  rw [e1, e2, e3]
/-- The place that is told. -/
theorem ptr_at {W : World} {h g : VH} {da d k : Nat} (hd : d < 1000) (hk : k < h.len) {x : VH} (hx : x = if d = da then h else g) {b o : Nat} (ea : x.a = some ⟨b, o, none⟩) :
    (Value.pointer (some ⟨b, o + ((k : Int)).toNat * 4, none⟩)) = Value.pointer (some ⟨(fcS W h g da).b (tldR (k : Int) d), (fcS W h g da).o (tldR (k : Int) d), none⟩) := by
  have e1 : tldR (k : Int) d = k * 1000 + d := by simp [tldR]
  have e2 : (k * 1000 + d) % 1000 = d := by omega
  have e3 : clJ h (k * 1000 + d) = k := by unfold clJ; omega
  have eb : bOf x = b := by unfold bOf; rw [ea]
  have eo : oOf x = o := by unfold oOf; rw [ea]
  show _ = Value.pointer (some ⟨if tldR (k : Int) d % 1000 = da then bOf h else bOf g, (if tldR (k : Int) d % 1000 = da then oOf h else oOf g) + clJ h (tldR (k : Int) d) * 4, none⟩)
  rw [e1, e2, e3]
  by_cases hq : d = da
  · rw [if_pos hq] at hx
    subst hx
    rw [if_pos hq, if_pos hq, eb, eo]
    simp
  · rw [if_neg hq] at hx
    subst hx
    rw [if_neg hq, if_neg hq, eb, eo]
    simp
def pq (a : Bool) (b : Bool) : Value × Value := (.bool a, .bool b)

/-! ### hallmoot/value.Same -/
abbrev psaF : FuncId := 13
noncomputable def psaK (h g : VH) : List SX.It := kOf (@midF noFC Tryd.prog (gk knNone) 100000 49 (.run (fr0 psaF Tryd.f13 [.g h.sv, .g g.sv]) [.code (match (Tryd.f13).body with
  | some c => c
  | none => .skip)]) ⟨⟨.leaf, 0, []⟩, [.bool false, .bool false, .bool false, .bool false], []⟩)
noncomputable def psatl (h g : VH) (x : Int) : List (Nat × SV) := [(2, .p 0 0), (3, .p 1 0), (36, .y (goInt h.len)), (37, .y (.int .i64 x))]
def psakl (h g : VH) : List (Nat × Bx) := [(0, ⟨24, h.sv, 0, false, []⟩), (1, ⟨24, g.sv, 0, false, []⟩)]
def psacs (W : World) (h g : VH) (k : Nat) (x : Int) (b1 o1 b2 o2 : Nat) : List (Value × Value) := [((.agg #[.int .i64 (kidJ W h g 43 (tldR x 43)).k, .int .i64 (kidJ W h g 43 (tldR x 43)).n, .int .i64 (kidJ W h g 43 (tldR x 43)).m, .slice (kidJ W h g 43 (tldR x 43)).a (kidJ W h g 43 (tldR x 43)).len (kidJ W h g 43 (tldR x 43)).cap]), (h.kid W k).v), ((.agg #[.int .i64 (kidJ W h g 43 (tldR x 48)).k, .int .i64 (kidJ W h g 43 (tldR x 48)).n, .int .i64 (kidJ W h g 43 (tldR x 48)).m, .slice (kidJ W h g 43 (tldR x 48)).a (kidJ W h g 43 (tldR x 48)).len (kidJ W h g 43 (tldR x 48)).cap]), (g.kid W k).v), pq (decide (0 ≤ x ∧ x < ((g.len : Nat) : Int))) true, (.pointer (some ⟨b2, o2 + x.toNat * 4, none⟩), .pointer (some ⟨(fcS W h g 43).b (tldR x 48), (fcS W h g 43).o (tldR x 48), none⟩)), pq (decide (0 ≤ x ∧ x < ((h.len : Nat) : Int))) true, (.pointer (some ⟨b1, o1 + x.toNat * 4, none⟩), .pointer (some ⟨(fcS W h g 43).b (tldR x 43), (fcS W h g 43).o (tldR x 43), none⟩)), pq (decide (x < ((h.len : Nat) : Int))) true]
theorem psacs_ok {W : World} {h g : VH} {k : Nat} {x : Int} {b1 o1 b2 o2 : Nat} (hx : x = (k : Int)) (hk : k < h.len) (hl : h.len = g.len) (e1 : h.a = some ⟨b1, o1, none⟩) (e2 : g.a = some ⟨b2, o2, none⟩) : ∀ q ∈ psacs W h g k x b1 o1 b2 o2, q.1 = q.2 := by
  subst hx
  intro q hq
  have k1 := kidJ_at W h g 43 43 k (by omega) hk
  have k2 := kidJ_at W h g 43 48 k (by omega) hk
  rw [if_pos rfl] at k1
  rw [if_neg (by omega)] at k2
  simp only [psacs, k1, k2, List.mem_cons, List.not_mem_nil, or_false] at hq
  rcases hq with rfl | rfl | rfl | rfl | rfl | rfl | rfl
  · rfl
  · rfl
  · exact congrArg Value.bool (decide_eq_true (by omega))
  · exact ptr_at (d := 48) (by omega) hk (by rw [if_neg (by omega)]) e2
  · exact congrArg Value.bool (decide_eq_true (by omega))
  · exact ptr_at (d := 43) (by omega) hk (by rw [if_pos rfl]) e1
  · exact congrArg Value.bool (decide_eq_true (by omega))
set_option maxHeartbeats 4000000 in
theorem psa_loop (d : Nat) (W : World) (h g : VH) (hv : VT (d + 1) W h) (gv : VT (d + 1) W g) (hl : h.len = g.len)
    (ih : ∀ k, k < h.len → ∀ w, Below W.heap.size W w → Calls Tryd.prog psaF #[(h.kid W k).v, (g.kid W k).v] w fun e w' => e = .returned (.bool (sameW d W (h.kid W k) (g.kid W k))) ∧ Below w.heap.size w w') :
    ∀ (r k : Nat) (x : Int), x = (k : Int) → k + r = h.len → @EX.Good (fcS W h g 43) Tryd.prog W (bodyPostD Tryd.prog Tryd.f13 fun e w' => e = .returned (.bool (okFrom (fun i => sameW d W (h.kid W i) (g.kid W i)) r k)) ∧ Below W.heap.size W w') ⟨psaF, 53, mkTr (psatl h g x), []⟩ (.rnd (r + 1) (loopB (psaK h g)) :: (psaK h g).tail) ⟨⟨mkTr (psakl h g), 2, []⟩, [], []⟩ := by
  letI fc : FC := fcS W h g 43
  intro r
  have hlen : h.len ≤ 9223372036854775807 := hv.ok.2.2.2.2
  induction r with
  | zero =>
    intro k x hx hk
    exact EX.Good.orc (cut_end (gk_ok knNone_ok) 100000 (v := .bool true) (cs := [pq (decide (x < ((h.len : Nat) : Int))) false]) (st := ⟨⟨mkTr (psakl h g), 2, []⟩, [.bool false], []⟩) (by kernel_rfl) (by
      intro q hq
      simp only [List.mem_cons, List.not_mem_nil, or_false] at hq
      subst hq
      exact congrArg Value.bool (decide_eq_false (by omega))))
  | succ r ihr =>
    intro k x hx hk
    have hlt : k < h.len := by omega
    rcases hv.2 with q | ⟨b1, o1, e1, _⟩
    · omega
    rcases gv.2 with q | ⟨b2, o2, e2, _⟩
    · omega
    have hfx : okFrom (fun i => sameW d W (h.kid W i) (g.kid W i)) (r + 1) k = (sameW d W (h.kid W k) (g.kid W k) && okFrom (fun i => sameW d W (h.kid W i) (g.kid W i)) r (k + 1)) := rfl
    have tab : ∀ b, sameW d W (h.kid W k) (g.kid W k) = b → KnGOk Tryd.prog (kgAt psaF [(h.kid W k).v, (g.kid W k).v] (.v (.bool b))) := fun b hb => kgAt_ok (by simp [bd]) fun w hf => by
      have := ih k hlt w hf.1
      rw [hb] at this
      simpa [den] using this
    obtain ⟨hk0, hn0, hm0, ha0, hl0, hc0⟩ := h
    obtain ⟨gk0, gn0, gm0, ga0, gl0, gc0⟩ := g
    simp only at e1 e2
    subst e1 e2
    cases hb : sameW d W (VH.kid ⟨hk0, hn0, hm0, some ⟨b1, o1, none⟩, hl0, hc0⟩ W k) (VH.kid ⟨gk0, gn0, gm0, some ⟨b2, o2, none⟩, gl0, gc0⟩ W k) with
    | false =>
      rw [hfx, hb, Bool.false_and]
      exact EX.Good.orc (cut_end (tab false hb) 100000 (v := .bool false) (cs := psacs W ⟨hk0, hn0, hm0, some ⟨b1, o1, none⟩, hl0, hc0⟩ ⟨gk0, gn0, gm0, some ⟨b2, o2, none⟩, gl0, gc0⟩ k x b1 o1 b2 o2) (st := ⟨⟨mkTr (psakl ⟨hk0, hn0, hm0, some ⟨b1, o1, none⟩, hl0, hc0⟩ ⟨gk0, gn0, gm0, some ⟨b2, o2, none⟩, gl0, gc0⟩), 2, []⟩, [.bool true], []⟩) (by kernel_rfl) (psacs_ok hx hlt hl rfl rfl))
    | true =>
      rw [hfx, hb, Bool.true_and]
      exact EX.Good.orc (cut_mid (tab true hb) 100000 24 (psatl ⟨hk0, hn0, hm0, some ⟨b1, o1, none⟩, hl0, hc0⟩ ⟨gk0, gn0, gm0, some ⟨b2, o2, none⟩, gl0, gc0⟩ (IntKind.i64.wrap (x + 1))) (psakl ⟨hk0, hn0, hm0, some ⟨b1, o1, none⟩, hl0, hc0⟩ ⟨gk0, gn0, gm0, some ⟨b2, o2, none⟩, gl0, gc0⟩) [0, 1] (cs := psacs W ⟨hk0, hn0, hm0, some ⟨b1, o1, none⟩, hl0, hc0⟩ ⟨gk0, gn0, gm0, some ⟨b2, o2, none⟩, gl0, gc0⟩ k x b1 o1 b2 o2) (st := ⟨⟨mkTr (psakl ⟨hk0, hn0, hm0, some ⟨b1, o1, none⟩, hl0, hc0⟩ ⟨gk0, gn0, gm0, some ⟨b2, o2, none⟩, gl0, gc0⟩), 2, []⟩, [.bool true], []⟩) (by kernel_rfl) (psacs_ok hx hlt hl rfl rfl) (by decide) (by kernel_rfl) (ihr (k + 1) (IntKind.i64.wrap (x + 1)) (by simp only at hlen hlt; rw [IntKind.wrap_i64]; omega) (by omega)))
end Go.Proofs.YtoijdnlplbeomaaDoor


/-
  Layer 8: equality of two values, as the reference decides it.
-/
namespace Go.Proofs.YtoijdnlplbeomaaDoor
open Go Go.RowKit EX
set_option maxRecDepth 100000
set_option linter.unusedVariables false
set_option linter.unusedSimpArgs false
set_option linter.unusedSectionVars false

/-! ### hallmoot/hallmootref08.same -/
abbrev rsaF : FuncId := 30
noncomputable def rsaK (h g : VH) (L : Int) : List SX.It := kOf (@midF noFC Tryd.prog (gk knNone) 100000 50 (.run (fr0 rsaF Tryd.f30 [.g h.sv, .g g.sv, .y (.int .i64 L)]) [.code (match (Tryd.f30).body with
  | some c => c
  | none => .skip)]) ⟨⟨.leaf, 0, []⟩, [.bool false, .bool false, .bool false, .bool false, .bool false], []⟩)
noncomputable def rsatl (h g : VH) (L : Int) (x : Int) : List (Nat × SV) := [(3, .p 0 0), (4, .p 1 0), (2, .y (.int .i64 L)), (7, .y (.int .i64 x))]
def rsakl (h g : VH) : List (Nat × Bx) := [(0, ⟨24, h.sv, 0, false, []⟩), (1, ⟨24, g.sv, 0, false, []⟩)]
def rsacs (W : World) (h g : VH) (L : Int) (k : Nat) (x : Int) (b1 o1 b2 o2 : Nat) : List (Value × Value) := [((.agg #[.int .i64 (kidJ W h g 51 (tldR x 51)).k, .int .i64 (kidJ W h g 51 (tldR x 51)).n, .int .i64 (kidJ W h g 51 (tldR x 51)).m, .slice (kidJ W h g 51 (tldR x 51)).a (kidJ W h g 51 (tldR x 51)).len (kidJ W h g 51 (tldR x 51)).cap]), (h.kid W k).v), ((.agg #[.int .i64 (kidJ W h g 51 (tldR x 56)).k, .int .i64 (kidJ W h g 51 (tldR x 56)).n, .int .i64 (kidJ W h g 51 (tldR x 56)).m, .slice (kidJ W h g 51 (tldR x 56)).a (kidJ W h g 51 (tldR x 56)).len (kidJ W h g 51 (tldR x 56)).cap]), (g.kid W k).v), (.int .i64 (IntKind.i64.wrap (L - 1)), .int .i64 (L - 1)), pq (decide (0 ≤ x ∧ x < ((g.len : Nat) : Int))) true, (.pointer (some ⟨b2, o2 + x.toNat * 4, none⟩), .pointer (some ⟨(fcS W h g 51).b (tldR x 56), (fcS W h g 51).o (tldR x 56), none⟩)), pq (decide (0 ≤ x ∧ x < ((h.len : Nat) : Int))) true, (.pointer (some ⟨b1, o1 + x.toNat * 4, none⟩), .pointer (some ⟨(fcS W h g 51).b (tldR x 51), (fcS W h g 51).o (tldR x 51), none⟩)), pq (decide (x < ((h.len : Nat) : Int))) true]
theorem rsacs_ok {W : World} {h g : VH} {L : Int} {k : Nat} {x : Int} {b1 o1 b2 o2 : Nat} (hx : x = (k : Int)) (hk : k < h.len) (hl : h.len = g.len) (e1 : h.a = some ⟨b1, o1, none⟩) (e2 : g.a = some ⟨b2, o2, none⟩) (hL : IntKind.i64.wrap (L - 1) = L - 1) : ∀ q ∈ rsacs W h g L k x b1 o1 b2 o2, q.1 = q.2 := by
  subst hx
  intro q hq
  have k1 := kidJ_at W h g 51 51 k (by omega) hk
  have k2 := kidJ_at W h g 51 56 k (by omega) hk
  rw [if_pos rfl] at k1
  rw [if_neg (by omega)] at k2
  simp only [rsacs, k1, k2, List.mem_cons, List.not_mem_nil, or_false] at hq
  rcases hq with rfl | rfl | rfl | rfl | rfl | rfl | rfl | rfl
  · rfl
  · rfl
  · exact congrArg (Value.int .i64) hL
  · exact congrArg Value.bool (decide_eq_true (by omega))
  · exact ptr_at (d := 56) (by omega) hk (by rw [if_neg (by omega)]) e2
  · exact congrArg Value.bool (decide_eq_true (by omega))
  · exact ptr_at (d := 51) (by omega) hk (by rw [if_pos rfl]) e1
  · exact congrArg Value.bool (decide_eq_true (by omega))
set_option maxHeartbeats 4000000 in
theorem rsa_loop (d : Nat) (W : World) (h g : VH) (L : Int) (hv : VT (d + 1) W h) (gv : VT (d + 1) W g) (hl : h.len = g.len) (hL : IntKind.i64.wrap (L - 1) = L - 1)
    (ih : ∀ k, k < h.len → ∀ w, Below W.heap.size W w → Calls Tryd.prog rsaF #[(h.kid W k).v, (g.kid W k).v, .int .i64 (L - 1)] w fun e w' => e = .returned (.bool (sameW d W (h.kid W k) (g.kid W k))) ∧ Below w.heap.size w w') :
    ∀ (r k : Nat) (x : Int), x = (k : Int) → k + r = h.len → @EX.Good (fcS W h g 51) Tryd.prog W (bodyPostD Tryd.prog Tryd.f30 fun e w' => e = .returned (.bool (okFrom (fun i => sameW d W (h.kid W i) (g.kid W i)) r k)) ∧ Below W.heap.size W w') ⟨rsaF, 63, mkTr (rsatl h g L x), []⟩ (.rnd (r + 1) (loopB (rsaK h g L)) :: (rsaK h g L).tail) ⟨⟨mkTr (rsakl h g), 2, []⟩, [], []⟩ := by
  letI fc : FC := fcS W h g 51
  intro r
  have hlen : h.len ≤ 9223372036854775807 := hv.ok.2.2.2.2
  induction r with
  | zero =>
    intro k x hx hk
    exact EX.Good.orc (cut_end (gk_ok knNone_ok) 100000 (v := .bool true) (cs := [pq (decide (x < ((h.len : Nat) : Int))) false]) (st := ⟨⟨mkTr (rsakl h g), 2, []⟩, [.bool false], []⟩) (by kernel_rfl) (by
      intro q hq
      simp only [List.mem_cons, List.not_mem_nil, or_false] at hq
      subst hq
      exact congrArg Value.bool (decide_eq_false (by omega))))
  | succ r ihr =>
    intro k x hx hk
    have hlt : k < h.len := by omega
    rcases hv.2 with q | ⟨b1, o1, e1, _⟩
    · omega
    rcases gv.2 with q | ⟨b2, o2, e2, _⟩
    · omega
    have hfx : okFrom (fun i => sameW d W (h.kid W i) (g.kid W i)) (r + 1) k = (sameW d W (h.kid W k) (g.kid W k) && okFrom (fun i => sameW d W (h.kid W i) (g.kid W i)) r (k + 1)) := rfl
    have tab : ∀ b, sameW d W (h.kid W k) (g.kid W k) = b → KnGOk Tryd.prog (kgAt rsaF [(h.kid W k).v, (g.kid W k).v, .int .i64 (L - 1)] (.v (.bool b))) := fun b hb => kgAt_ok (by simp [bd]) fun w hf => by
      have := ih k hlt w hf.1
      rw [hb] at this
      simpa [den] using this
    obtain ⟨hk0, hn0, hm0, ha0, hl0, hc0⟩ := h
    obtain ⟨gk0, gn0, gm0, ga0, gl0, gc0⟩ := g
    simp only at e1 e2
    subst e1 e2
    cases hb : sameW d W (VH.kid ⟨hk0, hn0, hm0, some ⟨b1, o1, none⟩, hl0, hc0⟩ W k) (VH.kid ⟨gk0, gn0, gm0, some ⟨b2, o2, none⟩, gl0, gc0⟩ W k) with
    | false =>
      rw [hfx, hb, Bool.false_and]
      exact EX.Good.orc (cut_end (tab false hb) 100000 (v := .bool false) (cs := rsacs W ⟨hk0, hn0, hm0, some ⟨b1, o1, none⟩, hl0, hc0⟩ ⟨gk0, gn0, gm0, some ⟨b2, o2, none⟩, gl0, gc0⟩ L k x b1 o1 b2 o2) (st := ⟨⟨mkTr (rsakl ⟨hk0, hn0, hm0, some ⟨b1, o1, none⟩, hl0, hc0⟩ ⟨gk0, gn0, gm0, some ⟨b2, o2, none⟩, gl0, gc0⟩), 2, []⟩, [.bool true], []⟩) (by kernel_rfl) (rsacs_ok hx hlt hl rfl rfl hL))
    | true =>
      rw [hfx, hb, Bool.true_and]
      exact EX.Good.orc (cut_mid (tab true hb) 100000 29 (rsatl ⟨hk0, hn0, hm0, some ⟨b1, o1, none⟩, hl0, hc0⟩ ⟨gk0, gn0, gm0, some ⟨b2, o2, none⟩, gl0, gc0⟩ L (IntKind.i64.wrap (x + 1))) (rsakl ⟨hk0, hn0, hm0, some ⟨b1, o1, none⟩, hl0, hc0⟩ ⟨gk0, gn0, gm0, some ⟨b2, o2, none⟩, gl0, gc0⟩) [0, 1] (cs := rsacs W ⟨hk0, hn0, hm0, some ⟨b1, o1, none⟩, hl0, hc0⟩ ⟨gk0, gn0, gm0, some ⟨b2, o2, none⟩, gl0, gc0⟩ L k x b1 o1 b2 o2) (st := ⟨⟨mkTr (rsakl ⟨hk0, hn0, hm0, some ⟨b1, o1, none⟩, hl0, hc0⟩ ⟨gk0, gn0, gm0, some ⟨b2, o2, none⟩, gl0, gc0⟩), 2, []⟩, [.bool true], []⟩) (by kernel_rfl) (rsacs_ok hx hlt hl rfl rfl hL) (by decide) (by kernel_rfl) (ihr (k + 1) (IntKind.i64.wrap (x + 1)) (by simp only at hlen hlt; rw [IntKind.wrap_i64]; omega) (by omega)))
end Go.Proofs.YtoijdnlplbeomaaDoor


/-
  Layer 8: equality of two values, whole.
-/
namespace Go.Proofs.YtoijdnlplbeomaaDoor
open Go Go.RowKit EX
set_option maxRecDepth 100000
set_option linter.unusedVariables false
set_option linter.unusedSimpArgs false
set_option linter.unusedSectionVars false
theorem EX.Good.sub [FC] {P : Program} {w0 : World} {Q : Exit → Act → World → Prop} {f : FuncId} {n : Nat} {tl tl' : List (Nat × SV)} {k : List SX.It} {st : St} (h : EX.Good P w0 Q ⟨f, n, mkTr tl', []⟩ k st)
    (hs : ∀ q ∈ tl', ∃ x, (mkTr tl).get q.1 = some x ∧ (∀ B, den B q.2 = den B x) ∧ (∀ S, bd S x → bd S q.2)) : EX.Good P w0 Q ⟨f, n, mkTr tl, []⟩ k st := by
  intro B S a w hS R A
  refine h B S a w hS R ⟨⟨A.ra.sz, fun t x hx => ?_⟩, A.df, fun d hd => by simp at hd⟩
  obtain ⟨y, h1, h2, h3⟩ := hs _ (mkTr_mem tl' hx)
  have e := A.ra.tm _ _ h1
  simp only at h2 h3
  exact ⟨by rw [e.1, h2 B], h3 _ e.2⟩
theorem sv_den [FC] (h : VH) (B : Pl) : den B (.g h.sv) = h.v := by
  simp [den, denL, VH.sv, VH.v]
theorem sv_bd [FC] (h : VH) (S : Nat → Prop) : bd S (.g h.sv) := by
  simp [bd, bdL, VH.sv]
theorem below_rfl (w : World) : Below w.heap.size w w := ⟨rfl, rfl, rfl, Nat.le_refl _, fun _ _ => rfl⟩

/-! ### hallmoot/value.Same -/
theorem psa_is : ∀ (d : Nat), d ≤ 1000 → ∀ (W : World) (h g : VH), VT d W h → VT d W g → deepB d W h = true → Calls Tryd.prog psaF #[h.v, g.v] W fun e w' => e = .returned (.bool (sameW d W h g)) ∧ Below W.heap.size W w'
  | 0, _, W, h, g, _, _, hd => by cases hd
  | d + 1, hd1, W, h, g, hv, gv, hd => by
    have ha : ∀ [FC], denL (fun _ => (0, 0)) [.g h.sv, .g g.sv] = [h.v, g.v] := by intro _; simp [denL, den, VH.sv, VH.v]
    have hb : ∀ [FC], bdL (fun _ => False) [.g h.sv, .g g.sv] := by intro _; simp [bdL, bd, VH.sv]
    by_cases h0 : h.k = g.k
    rotate_left
    · have hs : sameW (d + 1) W h g = false := by
        have : headEq h g = false := by
          cases he : headEq h g with
          | false => rfl
          | true => exact absurd (headEq_iff.1 he).1 h0
        unfold sameW
        rw [this]; rfl
      rw [hs]
      refine (ex_valG (w := W) (gk_ok knNone_ok) 100000 [.g h.sv, .g g.sv] [.bool true] [(.bool (h.k != g.k), .bool true)] (by kernel_rfl) ha hb (by
        intro q hq
        simp only [List.mem_cons, List.not_mem_nil, or_false] at hq
        rcases hq with rfl
        all_goals exact congrArg Value.bool (by simp; omega)))
    by_cases h1 : h.n = g.n
    rotate_left
    · have hs : sameW (d + 1) W h g = false := by
        have : headEq h g = false := by
          cases he : headEq h g with
          | false => rfl
          | true => exact absurd (headEq_iff.1 he).2.1 h1
        unfold sameW
        rw [this]; rfl
      rw [hs]
      refine (ex_valG (w := W) (gk_ok knNone_ok) 100000 [.g h.sv, .g g.sv] [.bool false, .bool true] [(.bool (h.n != g.n), .bool true), (.bool (h.k != g.k), .bool false)] (by kernel_rfl) ha hb (by
        intro q hq
        simp only [List.mem_cons, List.not_mem_nil, or_false] at hq
        rcases hq with rfl | rfl
        all_goals exact congrArg Value.bool (by simp; omega)))
    by_cases h2 : h.m = g.m
    rotate_left
    · have hs : sameW (d + 1) W h g = false := by
        have : headEq h g = false := by
          cases he : headEq h g with
          | false => rfl
          | true => exact absurd (headEq_iff.1 he).2.2.1 h2
        unfold sameW
        rw [this]; rfl
      rw [hs]
      refine (ex_valG (w := W) (gk_ok knNone_ok) 100000 [.g h.sv, .g g.sv] [.bool false, .bool false, .bool true] [(.bool (h.m != g.m), .bool true), (.bool (h.n != g.n), .bool false), (.bool (h.k != g.k), .bool false)] (by kernel_rfl) ha hb (by
        intro q hq
        simp only [List.mem_cons, List.not_mem_nil, or_false] at hq
        rcases hq with rfl | rfl | rfl
        all_goals exact congrArg Value.bool (by simp; omega)))
    by_cases h3 : h.len = g.len
    rotate_left
    · have hs : sameW (d + 1) W h g = false := by
        have : headEq h g = false := by
          cases he : headEq h g with
          | false => rfl
          | true => exact absurd (headEq_iff.1 he).2.2.2 h3
        unfold sameW
        rw [this]; rfl
      rw [hs]
      refine (ex_valG (w := W) (gk_ok knNone_ok) 100000 [.g h.sv, .g g.sv] [.bool false, .bool false, .bool false, .bool true] [(.bool (((h.len : Nat) : Int) != ((g.len : Nat) : Int)), .bool true), (.bool (h.m != g.m), .bool false), (.bool (h.n != g.n), .bool false), (.bool (h.k != g.k), .bool false)] (by kernel_rfl) ha hb (by
        intro q hq
        simp only [List.mem_cons, List.not_mem_nil, or_false] at hq
        rcases hq with rfl | rfl | rfl | rfl
        all_goals exact congrArg Value.bool (by simp; omega)))
    have hs : sameW (d + 1) W h g = okFrom (fun i => sameW d W (h.kid W i) (g.kid W i)) h.len 0 := by
      show (headEq h g && okFrom (fun i => sameW d W (h.kid W i) (g.kid W i)) h.len 0) = _
      rw [headEq_iff.2 ⟨h0, h1, h2, h3⟩, Bool.true_and]
    rw [hs]
    by_cases hz : h.len = 0
    · have e0 : okFrom (fun i => sameW d W (h.kid W i) (g.kid W i)) h.len 0 = true := by rw [hz]; rfl
      rw [e0]
      exact ex_valG (w := W) (gk_ok knNone_ok) 100000 [.g h.sv, .g g.sv] [.bool false, .bool false, .bool false, .bool false, .bool false] [(.bool (decide ((0 : Int) < ((h.len : Nat) : Int))), .bool false), (.bool (((h.len : Nat) : Int) != ((g.len : Nat) : Int)), .bool false), (.bool (h.m != g.m), .bool false), (.bool (h.n != g.n), .bool false), (.bool (h.k != g.k), .bool false)] (by kernel_rfl) ha hb (by
        intro q hq
        simp only [List.mem_cons, List.not_mem_nil, or_false] at hq
        rcases hq with rfl | rfl | rfl | rfl | rfl
        all_goals exact congrArg Value.bool (by simp; omega))
    · letI fc : FC := fcS W h g 43
      have hfc : FcAt W := fcS_at 43 hv gv h3 hz (below_rfl W)
      refine cut_allA (fn := Tryd.f13) [.g h.sv, .g g.sv] [.bool false, .bool false, .bool false, .bool false] rfl rfl ha hb ?_ hfc
      refine cut_mid (f := psaF) (nt := 53) (gk_ok knNone_ok) 100000 49 [(2, .p 0 0), (3, .p 1 0), (36, .y (goInt h.len)), (37, .v (.int .i64 0))] (psakl h g) [0, 1] (cs := [(.bool (((h.len : Nat) : Int) != ((g.len : Nat) : Int)), .bool false), (.bool (h.m != g.m), .bool false), (.bool (h.n != g.n), .bool false), (.bool (h.k != g.k), .bool false)]) (k1 := .code (.loop (loopB (psaK h g))) :: (psaK h g).tail) (by kernel_rfl) (by
        intro q hq
        simp only [List.mem_cons, List.not_mem_nil, or_false] at hq
        rcases hq with rfl | rfl | rfl | rfl
        all_goals exact congrArg Value.bool (by simp; omega)) (by decide) (by kernel_rfl) ?_
      refine EX.Good.sub (tl' := psatl h g 0) ?_ (by
        intro q hq
        simp only [psatl, List.mem_cons, List.not_mem_nil, or_false] at hq
        rcases hq with rfl | rfl | rfl | rfl
        all_goals exact ⟨_, rfl, fun _ => rfl, fun _ hx => by first | exact hx | simp [bd]⟩)
      refine EX.Good.loop (h.len + 1) ?_
      exact psa_loop d W h g hv gv h3 (fun k hk w hw => by
        obtain ⟨e1, k1⟩ := kid_below hw hv hk
        obtain ⟨e2, k2⟩ := kid_below hw gv (i := k) (by omega)
        have := psa_is d (by omega) w (h.kid W k) (g.kid W k) (VT.below hw k1) (VT.below hw k2) (by rw [deepB_below hw k1]; exact deepB_kid hd hk)
        rw [sameW_below hw k1 k2] at this
        exact this) h.len 0 0 rfl (by omega)

/-! ### hallmoot/hallmootref08.same -/
theorem rsa_is : ∀ (d : Nat), d ≤ 1000 → ∀ (L : Int), (d : Int) ≤ L → L ≤ 1000 → ∀ (W : World) (h g : VH), VT d W h → VT d W g → deepB d W h = true → Calls Tryd.prog rsaF #[h.v, g.v, .int .i64 L] W fun e w' => e = .returned (.bool (sameW d W h g)) ∧ Below W.heap.size W w'
  | 0, _, L, hL0, hL1, W, h, g, _, _, hd => by cases hd
  | d + 1, hd1, L, hL0, hL1, W, h, g, hv, gv, hd => by
    have ha : ∀ [FC], denL (fun _ => (0, 0)) [.g h.sv, .g g.sv, .y (.int .i64 L)] = [h.v, g.v, .int .i64 L] := by intro _; simp [denL, den, VH.sv, VH.v]
    have hb : ∀ [FC], bdL (fun _ => False) [.g h.sv, .g g.sv, .y (.int .i64 L)] := by intro _; simp [bdL, bd, VH.sv]
    by_cases h0 : h.k = g.k
    rotate_left
    · have hs : sameW (d + 1) W h g = false := by
        have : headEq h g = false := by
          cases he : headEq h g with
          | false => rfl
          | true => exact absurd (headEq_iff.1 he).1 h0
        unfold sameW
        rw [this]; rfl
      rw [hs]
      refine (ex_valG (w := W) (gk_ok knNone_ok) 100000 [.g h.sv, .g g.sv, .y (.int .i64 L)] [.bool true] [(.bool (h.k != g.k), .bool true)] (by kernel_rfl) ha hb (by
        intro q hq
        simp only [List.mem_cons, List.not_mem_nil, or_false] at hq
        rcases hq with rfl
        all_goals exact congrArg Value.bool (by simp; omega)))
    by_cases h1 : h.n = g.n
    rotate_left
    · have hs : sameW (d + 1) W h g = false := by
        have : headEq h g = false := by
          cases he : headEq h g with
          | false => rfl
          | true => exact absurd (headEq_iff.1 he).2.1 h1
        unfold sameW
        rw [this]; rfl
      rw [hs]
      refine (ex_valG (w := W) (gk_ok knNone_ok) 100000 [.g h.sv, .g g.sv, .y (.int .i64 L)] [.bool false, .bool true] [(.bool (h.n != g.n), .bool true), (.bool (h.k != g.k), .bool false)] (by kernel_rfl) ha hb (by
        intro q hq
        simp only [List.mem_cons, List.not_mem_nil, or_false] at hq
        rcases hq with rfl | rfl
        all_goals exact congrArg Value.bool (by simp; omega)))
    by_cases h2 : h.m = g.m
    rotate_left
    · have hs : sameW (d + 1) W h g = false := by
        have : headEq h g = false := by
          cases he : headEq h g with
          | false => rfl
          | true => exact absurd (headEq_iff.1 he).2.2.1 h2
        unfold sameW
        rw [this]; rfl
      rw [hs]
      refine (ex_valG (w := W) (gk_ok knNone_ok) 100000 [.g h.sv, .g g.sv, .y (.int .i64 L)] [.bool false, .bool false, .bool true] [(.bool (h.m != g.m), .bool true), (.bool (h.n != g.n), .bool false), (.bool (h.k != g.k), .bool false)] (by kernel_rfl) ha hb (by
        intro q hq
        simp only [List.mem_cons, List.not_mem_nil, or_false] at hq
        rcases hq with rfl | rfl | rfl
        all_goals exact congrArg Value.bool (by simp; omega)))
    by_cases h3 : h.len = g.len
    rotate_left
    · have hs : sameW (d + 1) W h g = false := by
        have : headEq h g = false := by
          cases he : headEq h g with
          | false => rfl
          | true => exact absurd (headEq_iff.1 he).2.2.2 h3
        unfold sameW
        rw [this]; rfl
      rw [hs]
      refine (ex_valG (w := W) (gk_ok knNone_ok) 100000 [.g h.sv, .g g.sv, .y (.int .i64 L)] [.bool false, .bool false, .bool false, .bool true] [(.bool (((h.len : Nat) : Int) != ((g.len : Nat) : Int)), .bool true), (.bool (h.m != g.m), .bool false), (.bool (h.n != g.n), .bool false), (.bool (h.k != g.k), .bool false)] (by kernel_rfl) ha hb (by
        intro q hq
        simp only [List.mem_cons, List.not_mem_nil, or_false] at hq
        rcases hq with rfl | rfl | rfl | rfl
        all_goals exact congrArg Value.bool (by simp; omega)))
    have hs : sameW (d + 1) W h g = okFrom (fun i => sameW d W (h.kid W i) (g.kid W i)) h.len 0 := by
      show (headEq h g && okFrom (fun i => sameW d W (h.kid W i) (g.kid W i)) h.len 0) = _
      rw [headEq_iff.2 ⟨h0, h1, h2, h3⟩, Bool.true_and]
    rw [hs]
    by_cases hz : h.len = 0
    · have e0 : okFrom (fun i => sameW d W (h.kid W i) (g.kid W i)) h.len 0 = true := by rw [hz]; rfl
      rw [e0]
      exact ex_valG (w := W) (gk_ok knNone_ok) 100000 [.g h.sv, .g g.sv, .y (.int .i64 L)] [.bool false, .bool false, .bool false, .bool false, .bool false, .bool false] [(.bool (decide ((0 : Int) < ((h.len : Nat) : Int))), .bool false), (.bool (L == 0), .bool false), (.bool (((h.len : Nat) : Int) != ((g.len : Nat) : Int)), .bool false), (.bool (h.m != g.m), .bool false), (.bool (h.n != g.n), .bool false), (.bool (h.k != g.k), .bool false)] (by kernel_rfl) ha hb (by
        intro q hq
        simp only [List.mem_cons, List.not_mem_nil, or_false] at hq
        rcases hq with rfl | rfl | rfl | rfl | rfl | rfl
        all_goals exact congrArg Value.bool (by simp; omega))
    · letI fc : FC := fcS W h g 51
      have hfc : FcAt W := fcS_at 51 hv gv h3 hz (below_rfl W)
      refine cut_allA (fn := Tryd.f30) [.g h.sv, .g g.sv, .y (.int .i64 L)] [.bool false, .bool false, .bool false, .bool false, .bool false] rfl rfl ha hb ?_ hfc
      refine cut_mid (f := rsaF) (nt := 63) (gk_ok knNone_ok) 100000 50 [(3, .p 0 0), (4, .p 1 0), (2, .y (.int .i64 L)), (7, .v (.int .i64 0))] (rsakl h g) [0, 1] (cs := [(.bool (L == 0), .bool false), (.bool (((h.len : Nat) : Int) != ((g.len : Nat) : Int)), .bool false), (.bool (h.m != g.m), .bool false), (.bool (h.n != g.n), .bool false), (.bool (h.k != g.k), .bool false)]) (k1 := .code (.loop (loopB (rsaK h g L))) :: (rsaK h g L).tail) (by kernel_rfl) (by
        intro q hq
        simp only [List.mem_cons, List.not_mem_nil, or_false] at hq
        rcases hq with rfl | rfl | rfl | rfl | rfl
        all_goals exact congrArg Value.bool (by simp; omega)) (by decide) (by kernel_rfl) ?_
      refine EX.Good.sub (tl' := rsatl h g L 0) ?_ (by
        intro q hq
        simp only [rsatl, List.mem_cons, List.not_mem_nil, or_false] at hq
        rcases hq with rfl | rfl | rfl | rfl
        all_goals exact ⟨_, rfl, fun _ => rfl, fun _ hx => by first | exact hx | simp [bd]⟩)
      refine EX.Good.loop (h.len + 1) ?_
      exact rsa_loop d W h g L hv gv h3 (by rw [IntKind.wrap_i64]; omega) (fun k hk w hw => by
        obtain ⟨e1, k1⟩ := kid_below hw hv hk
        obtain ⟨e2, k2⟩ := kid_below hw gv (i := k) (by omega)
        have := rsa_is d (by omega) (L - 1) (by omega) (by omega) w (h.kid W k) (g.kid W k) (VT.below hw k1) (VT.below hw k2) (by rw [deepB_below hw k1]; exact deepB_kid hd hk)
        rw [sameW_below hw k1 k2] at this
        exact this) h.len 0 0 rfl (by omega)

theorem rSame_is {d : Nat} (hd1 : d ≤ 50) {W : World} {h g : VH} (hv : VT d W h) (gv : VT d W g) (hd : deepB d W h = true) : Calls Tryd.prog 14 #[h.v, g.v] W fun e w' => e = .returned (.bool (sameW d W h g)) ∧ Below W.heap.size W w' := by
  letI fc : FC := ⟨fun _ => 0, fun _ => 0, fun _ => [], fun w => Below W.heap.size W w, fun w w' h k => ⟨k.os.trans h.os, k.tape.trans h.tape, k.output.trans h.output, Nat.le_trans h.size k.size, fun b hb => (k.block b (Nat.lt_of_lt_of_le hb h.size) (by simp)).trans (h.block b hb)⟩⟩
  have K : KnGOk Tryd.prog (kgAt rsaF [h.v, g.v, .int .i64 50] (.v (.bool (sameW d W h g)))) := kgAt_ok (by simp [bd]) fun w hf => by
    have := rsa_is d (by omega) 50 (by omega) (by omega) w h g (VT.below hf.1 hv) (VT.below hf.1 gv) (by rw [deepB_below hf.1 hv]; exact hd)
    rw [sameW_below hf.1 hv gv] at this
    simpa [den] using this
  exact ex_valG (w := W) K 100000 [.y h.v, .y g.v] [] [(h.v, h.v), (g.v, g.v), (.int .i64 50, .int .i64 50)] (by kernel_rfl) (by simp [denL, den]) (by simp [bdL, bd]) (by
      intro q hq
      simp only [List.mem_cons, List.not_mem_nil, or_false] at hq
      rcases hq with rfl | rfl | rfl <;> rfl) ⟨below_rfl W, fun i j x hx => absurd (show ([] : List SV)[j]? = some x from hx) (by simp)⟩
end Go.Proofs.YtoijdnlplbeomaaDoor


/-
  Layer 8: Right of any value is rightW.
-/
namespace Go.Proofs.YtoijdnlplbeomaaDoor
open Go Go.RowKit EX
set_option maxRecDepth 100000
set_option linter.unusedVariables false
set_option linter.unusedSimpArgs false
def argV (h : VH) : SV := .g [.y (.int .i64 h.k), .y (.int .i64 h.n), .y (.int .i64 h.m), .y (.slice h.a h.len h.cap)]
theorem argV_den (B : Pl) [FC] (h : VH) : den B (argV h) = h.v := by simp [argV, den, denL, VH.v]
theorem rightP_is (w : World) (h : VH) (hv : VT 40 w h) : Calls Tryd.prog 11 #[h.v] w fun e w' => e = .returned (.bool (rightW 40 w h)) ∧ Below w.heap.size w w' := by
  cases hb : rightW 40 w h with
  | true =>
    letI fc : FC := fcV w h h
    exact @ex_valG (fcV w h h) _ (kgAt 28 [h.v, .int .i64 1] (.v (.tuple #[]))) (kgAt_ok (by simp [bd]) fun w1 hf => by
      have := check_is 40 (by omega) h w1 hf.1.2.1.1 1 (by omega)
      rw [hf.1.2.2.1.1, hb] at this
      simpa [den, ckPost] using this) 100000 _ _ [argV h] [] _ [(h.v, h.v), (.int .i64 1, .int .i64 1)] w (by kernel_rfl) (by simp [denL, den, argV, VH.v]) (by simp [bdL, bd, argV]) (by intro q hq; simp only [List.mem_cons, List.not_mem_nil, or_false] at hq; rcases hq with rfl | rfl <;> rfl) (fcV_at hv hv)
  | false =>
    letI fc : FC := fcV w h h
    exact @ex_valG (fcV w h h) _ (kgPan 28 [h.v, .int .i64 1] (.iface 34 (.int .i64 1))) (kgPan_ok fun w1 hf => by
      have := check_is 40 (by omega) h w1 hf.1.2.1.1 1 (by omega)
      rw [hf.1.2.2.1.1, hb] at this
      exact this) 100000 _ _ [argV h] [] _ [(h.v, h.v), (.int .i64 1, .int .i64 1)] w (by kernel_rfl) (by simp [denL, den, argV, VH.v]) (by simp [bdL, bd, argV]) (by intro q hq; simp only [List.mem_cons, List.not_mem_nil, or_false] at hq; rcases hq with rfl | rfl <;> rfl) (fcV_at hv hv)
end Go.Proofs.YtoijdnlplbeomaaDoor
