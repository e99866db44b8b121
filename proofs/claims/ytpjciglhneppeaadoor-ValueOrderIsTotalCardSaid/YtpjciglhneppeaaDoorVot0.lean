
/-
  Layer 8: the order of integers: what is asked.
-/
import Derived.Test.YtpjciglhneppeaaDoorRd1
namespace Go.Proofs.YtpjciglhneppeaaDoor
open Go Go.RowKit EX
set_option maxRecDepth 100000
set_option linter.unusedVariables false
set_option linter.unusedSimpArgs false
/-- An integer is in range. -/
def pIn (n : Int) : List (Value × Value) := [pq (decide (n ≥ -1099511627776)) true, pq (decide (n ≤ 1099511627776)) true]
def pRng (u v : Int) : List (Value × Value) := pIn u ++ pIn v
def bnV : Bool → Int
  | true => 1
  | false => 0
abbrev vInt (n : Int) : SV := .g [.v (.int .i64 1), .y (.int .i64 n), .v (.int .i64 0), .v (.slice none 0 0)]
abbrev wInt (n : Int) : Value := .agg #[.int .i64 1, .int .i64 n, .int .i64 0, .slice none 0 0]
abbrev wBool (n : Int) : Value := .tuple #[.agg #[.int .i64 2, .int .i64 n, .int .i64 0, .slice none 0 0], .int .i64 0]
/-- What a comparison of integers in range gives. -/
def knB : Kn := fun f args => match Nat.beq f 8, args with
  | true, [.v (.int .i64 4), .g [.v (.int .i64 1), .y (.int .i64 a), .v (.int .i64 0), .v (.slice none 0 0)], .g [.v (.int .i64 1), .y (.int .i64 b), .v (.int .i64 0), .v (.slice none 0 0)]] =>
    some (.t [.g [.v (.int .i64 2), .y (.int .i64 (bnV (decide (a < b)))), .v (.int .i64 0), .v (.slice none 0 0)], .v (.int .i64 0)], pRng a b)
  | true, [.v (.int .i64 5), .g [.v (.int .i64 1), .y (.int .i64 a), .v (.int .i64 0), .v (.slice none 0 0)], .g [.v (.int .i64 1), .y (.int .i64 b), .v (.int .i64 0), .v (.slice none 0 0)]] =>
    some (.t [.g [.v (.int .i64 2), .y (.int .i64 (bnV (a == b))), .v (.int .i64 0), .v (.slice none 0 0)], .v (.int .i64 0)], pRng a b)
  | _, _ => none
theorem pIn_ok {n : Int} (h : -1099511627776 ≤ n ∧ n ≤ 1099511627776) : ∀ q ∈ pIn n, q.1 = q.2 := by
  intro q hq
  simp only [pIn, List.mem_cons, List.not_mem_nil, or_false] at hq
  rcases hq with rfl | rfl <;> simp only [pq, Value.bool.injEq, decide_eq_true_eq] <;> omega
theorem pIn_of {n : Int} {m : List (Value × Value)} (h : ∀ q ∈ pIn n, q.1 = q.2) : -1099511627776 ≤ n ∧ n ≤ 1099511627776 := by
  have h1 := h (pq (decide (n ≥ -1099511627776)) true) (by simp [pIn])
  have h2 := h (pq (decide (n ≤ 1099511627776)) true) (by simp [pIn])
  simp only [pq, Value.bool.injEq, decide_eq_true_eq] at h1 h2
  omega
theorem pOne {p b : Bool} (h : p = b) : ∀ q ∈ [pq p b], q.1 = q.2 := by
  intro q hq
  simp only [List.mem_cons, List.not_mem_nil, or_false] at hq
  subst hq; simp [pq, h]
def csBin (r : Bool) (a b : Int) (k : Bool) : List (Value × Value) := [pq r k, pq (decide (b ≤ 1099511627776)) true, pq (decide (b ≥ -1099511627776)) true, pq (decide (a ≤ 1099511627776)) true, pq (decide (a ≥ -1099511627776)) true]
theorem csBin_ok {r : Bool} {a b : Int} {k : Bool} (ha : -1099511627776 ≤ a ∧ a ≤ 1099511627776) (hb : -1099511627776 ≤ b ∧ b ≤ 1099511627776) (h : r = k) : ∀ q ∈ csBin r a b k, q.1 = q.2 := by
  intro q hq
  simp only [csBin, List.mem_cons, List.not_mem_nil, or_false] at hq
  rcases hq with rfl | rfl | rfl | rfl | rfl
  · simp [pq, h]
  all_goals simp only [pq, Value.bool.injEq, decide_eq_true_eq]; omega
theorem less_any (w : World) (a b : Int) (ha : -1099511627776 ≤ a ∧ a ≤ 1099511627776) (hb : -1099511627776 ≤ b ∧ b ≤ 1099511627776) : Calls Tryd.prog 8 #[.int .i64 4, wInt a, wInt b] w fun e w' => e = .returned (wBool (bnV (decide (a < b)))) ∧ Below w.heap.size w w' := by
  cases h : decide (a < b) with
  | true => exact ex_val knNone_ok 100000 [.v (.int .i64 4), vInt a, vInt b] [tt, tt, tt, tt, tt] (csBin (decide (a < b)) a b true) (by kernel_rfl) (by simp [vInt, wInt, denL, den]) (by simp [vInt, bdL, bd]) (csBin_ok ha hb h)
  | false => exact ex_val knNone_ok 100000 [.v (.int .i64 4), vInt a, vInt b] [tt, tt, tt, tt, ff] (csBin (decide (a < b)) a b false) (by kernel_rfl) (by simp [vInt, wInt, denL, den]) (by simp [vInt, bdL, bd]) (csBin_ok ha hb h)
theorem eq_any (w : World) (a b : Int) (ha : -1099511627776 ≤ a ∧ a ≤ 1099511627776) (hb : -1099511627776 ≤ b ∧ b ≤ 1099511627776) : Calls Tryd.prog 8 #[.int .i64 5, wInt a, wInt b] w fun e w' => e = .returned (wBool (bnV (a == b))) ∧ Below w.heap.size w w' := by
  cases h : (a == b) with
  | true => exact ex_val knNone_ok 100000 [.v (.int .i64 5), vInt a, vInt b] [tt, tt, tt, tt, tt] (csBin (a == b) a b true) (by kernel_rfl) (by simp [vInt, wInt, denL, den]) (by simp [vInt, bdL, bd]) (csBin_ok ha hb h)
  | false => exact ex_val knNone_ok 100000 [.v (.int .i64 5), vInt a, vInt b] [tt, tt, tt, tt, ff] (csBin (a == b) a b false) (by kernel_rfl) (by simp [vInt, wInt, denL, den]) (by simp [vInt, bdL, bd]) (csBin_ok ha hb h)
theorem knB_ok : KnOk Tryd.prog knB := by
  intro f args x cs hx
  unfold knB at hx
  split at hx
  · rename_i a b hb
    simp only [Option.some.injEq, Prod.mk.injEq] at hx
    obtain ⟨rfl, rfl⟩ := hx
    have := Nat.eq_of_beq_eq_true hb
    subst this
    refine ⟨by simp [bd, bdL], fun tr B w => ?_⟩
    have h1 := pIn_of (m := []) fun q hq => tr q (List.mem_append_left _ hq)
    have h2 := pIn_of (m := []) fun q hq => tr q (List.mem_append_right _ hq)
    simpa [denL, den, wBool, wInt] using less_any w a b h1 h2
  · rename_i a b hb
    simp only [Option.some.injEq, Prod.mk.injEq] at hx
    obtain ⟨rfl, rfl⟩ := hx
    have := Nat.eq_of_beq_eq_true hb
    subst this
    refine ⟨by simp [bd, bdL], fun tr B w => ?_⟩
    have h1 := pIn_of (m := []) fun q hq => tr q (List.mem_append_left _ hq)
    have h2 := pIn_of (m := []) fun q hq => tr q (List.mem_append_right _ hq)
    simpa [denL, den, wBool, wInt] using eq_any w a b h1 h2
  · cases hx
/-- With any function in the place of Round. -/
def knT (R : Int → Int) : Kn := knOr (kn1 5 (.bool true)) (knOr (knI 6 fun a => .int .i64 (R a)) knB)
theorem knT_ok : KnOk Tryd.prog (knT rnd) := knOr_ok (kn1_ok sane08) (knOr_ok (knI_ok' round_any) knB_ok)
def pBlk (u v : Int) (l e : Bool) : List (Value × Value) := [pq (bnV (u == v) == 1) e, pq (bnV (decide (u < v)) == 1) l] ++ pRng u v ++ pRng u v
def pEnd (u v : Int) (e : Bool) : List (Value × Value) := [pq (e != (u == v)) false]
/-- What a run asks: the nine comparisons, then whether they fit; the newest first. -/
def csT (a b c : Int) (lab lac lba lbc lca lcb eab eac ebc : Bool) : List (Value × Value) :=
  pEnd c c true ++ pEnd c b ebc ++ pEnd c a eac ++ pEnd b c ebc ++ pEnd b b true ++ pEnd b a eab ++ pEnd a c eac ++ pEnd a b eab ++ pEnd a a true ++
  (pBlk c c false true ++ pBlk c b lcb ebc ++ pBlk c a lca eac ++ pBlk b c lbc ebc ++ pBlk b b false true ++ pBlk b a lba eab ++ pBlk a c lac eac ++ pBlk a b lab eab ++ pBlk a a false true)
theorem bnV_one (p : Bool) : (bnV p == 1) = p := by cases p <;> rfl
theorem pBlk_ok {u v : Int} {l e : Bool} (hu : -1099511627776 ≤ u ∧ u ≤ 1099511627776) (hv : -1099511627776 ≤ v ∧ v ≤ 1099511627776) (hl : decide (u < v) = l) (he : (u == v) = e) : ∀ q ∈ pBlk u v l e, q.1 = q.2 := by
  refine pq_app (pq_app ?_ (pq_app (pIn_ok hu) (pIn_ok hv))) (pq_app (pIn_ok hu) (pIn_ok hv))
  intro q hq
  simp only [bnV_one, List.mem_cons, List.not_mem_nil, or_false] at hq
  rcases hq with rfl | rfl
  · simp [pq, he]
  · simp only [pq, Value.bool.injEq]; exact hl
theorem pEnd_ok {u v : Int} {e : Bool} (he : (u == v) = e) : ∀ q ∈ pEnd u v e, q.1 = q.2 := pOne (by rw [he]; cases e <;> rfl)
theorem beq_comm' (u v : Int) : (u == v) = (v == u) := by
  by_cases h : u = v
  · subst h; rfl
  · rw [beq_eq_false_iff_ne.2 h, beq_eq_false_iff_ne.2 (fun e => h e.symm)]
theorem csT_ok {a b c : Int} {lab lac lba lbc lca lcb eab eac ebc : Bool} (ha : -1099511627776 ≤ a ∧ a ≤ 1099511627776) (hb : -1099511627776 ≤ b ∧ b ≤ 1099511627776) (hc : -1099511627776 ≤ c ∧ c ≤ 1099511627776)
    (h1 : decide (a < b) = lab) (h2 : decide (a < c) = lac) (h3 : decide (b < a) = lba) (h4 : decide (b < c) = lbc) (h5 : decide (c < a) = lca) (h6 : decide (c < b) = lcb) (h7 : (a == b) = eab) (h8 : (a == c) = eac) (h9 : (b == c) = ebc) :
    ∀ q ∈ csT a b c lab lac lba lbc lca lcb eab eac ebc, q.1 = q.2 := by
  have hi : ∀ u : Int, decide (u < u) = false := fun u => by simp
  have hr : ∀ u : Int, (u == u) = true := fun u => by simp
  have g7 : (b == a) = eab := by rw [beq_comm']; exact h7
  have g8 : (c == a) = eac := by rw [beq_comm']; exact h8
  have g9 : (c == b) = ebc := by rw [beq_comm']; exact h9
  exact pq_app (pq_app (pq_app (pq_app (pq_app (pq_app (pq_app (pq_app (pq_app (pEnd_ok (hr c)) (pEnd_ok g9)) (pEnd_ok g8)) (pEnd_ok h9)) (pEnd_ok (hr b))) (pEnd_ok g7)) (pEnd_ok h8)) (pEnd_ok h7)) (pEnd_ok (hr a)))
    (pq_app (pq_app (pq_app (pq_app (pq_app (pq_app (pq_app (pq_app (pBlk_ok hc hc (hi c) (hr c)) (pBlk_ok hc hb h6 g9)) (pBlk_ok hc ha h5 g8)) (pBlk_ok hb hc h4 h9)) (pBlk_ok hb hb (hi b) (hr b))) (pBlk_ok hb ha h3 g7)) (pBlk_ok ha hc h2 h8)) (pBlk_ok ha hb h1 h7)) (pBlk_ok ha ha (hi a) (hr a)))
abbrev LAWT : FuncId := 4
abbrev valT (x y z : Int) (p q : Bool) : Value := .agg #[.int .i64 x, .int .i64 y, .int .i64 z, .bool p, .bool q]
abbrev argT (x y z : Int) (p q : Bool) : List SV := [.g [.y (.int .i64 x), .y (.int .i64 y), .y (.int .i64 z), .v (.bool p), .v (.bool q)]]
/-- Whether it is less, and whether it is the same, is told. -/
def tL (b : Bool) : Value := .tuple #[.int .i64 LAWT, .int .i64 98, .bool b]
def tS (b : Bool) : Value := .tuple #[.int .i64 LAWT, .int .i64 104, .bool b]
end Go.Proofs.YtpjciglhneppeaaDoor
