/-
  Merged: MgrA, MgrB
-/
import Derived.Test.YtfahnmpcclhjlaaGreatRows
import Derived.Test.YtfahnmpcclhjlaaGreatPv3
import Derived.Test.YtfahnmpcclhjlaaGreatPv6
import Derived.Test.YtfahnmpcclhjlaaGreatPv10
import Derived.WalkKit
import Derived.Deep.RegionHeld3
import Derived.IntWalk
import Derived.Lib.Hide
import Derived.Test.YtfahnmpcclhjlaaGreatPv5
import Derived.WalkLawsBesides
namespace Go.Proofs.YtfahnmpcclhjlaaGreat
set_option linter.unusedVariables false
set_option linter.unusedSectionVars false
set_option maxRecDepth 100000
set_option maxHeartbeats 2000000
open Go.ChangeShapes Go.WideShapes Go.ChangeAt Go.RowKit
structure Ct where
  s : Int := 0
  k : Int := 0
  a : Int := 0
def Ct.v (c : Ct) : Value := .agg #[.int .i64 c.s, .int .i64 c.k, .int .i64 c.a]
def karmaB (m o : Ct) : Bool := if m.k = o.k then decide (m.s < o.s) else decide (o.k < m.k)
def mixedB (m o : Ct) : Bool := decide (2 ≤ m.a) && decide (m.s < o.s)
def ahead (kind : Int) (m o : Ct) : Bool := if kind = 1 then decide (m.s < o.s) else if kind = 2 then karmaB m o else if kind = 3 then mixedB m o else false
def chooseD (kind : Int) (m o : Ct) : Int := if ahead kind m o = true then 2 else 1
theorem ahead_1 (m o : Ct) : ahead 1 m o = decide (m.s < o.s) := rfl
theorem ahead_2 (m o : Ct) : ahead 2 m o = karmaB m o := rfl
theorem ahead_3 (m o : Ct) : ahead 3 m o = mixedB m o := rfl
theorem ahead_0 {kind : Int} (m o : Ct) (h1 : ¬kind = 1) (h2 : ¬kind = 2) (h3 : ¬kind = 3) : ahead kind m o = false := by unfold ahead; rw [if_neg h1, if_neg h2, if_neg h3]
theorem chooseD_t {kind : Int} {m o : Ct} (h : ahead kind m o = true) : chooseD kind m o = 2 := by unfold chooseD; rw [if_pos h]
theorem chooseD_f {kind : Int} {m o : Ct} (h : ahead kind m o = false) : chooseD kind m o = 1 := by unfold chooseD; rw [if_neg (by rw [h]; simp)]
theorem below2 (w : World) (a b : Obj) : Below w.heap.size w ((w.alloc a).alloc b) := below_alloc2 (Below.refl _ _)
section
open EX
def chI (x : SV) (m o : Ct) : List SV := [x, .g [.y (.int .i64 m.s), .y (.int .i64 m.k), .y (.int .i64 m.a)], .g [.y (.int .i64 o.s), .y (.int .i64 o.k), .y (.int .i64 o.a)]]
theorem ch_run {kind : Int} {x : SV} {m o : Ct} {w : World} {v : Int} {orc : List Value} {cnd : List (Value × Value)} (hx : x = .y (.int .i64 kind) ∨ x = .v (.int .i64 kind)) (hk : outE (@goF noFC Tryz.prog (gk knNone) 100000 (.call 62 (chI x m o)) (st1 orc)) = some (.v (.int .i64 v), cnd)) (hc : ∀ q ∈ cnd, q.1 = q.2) :
    Calls Tryz.prog 62 #[.int .i64 kind, m.v, o.v] w fun e w' => e = .returned (.int .i64 v) ∧ Below w.heap.size w w' :=
  ex_val knNone_ok 100000 (chI x m o) orc cnd hk (show denL (fun _ => (0, 0)) (chI x m o) = [.int .i64 kind, m.v, o.v] by rcases hx with rfl | rfl <;> simp [chI, denL, den, Ct.v]) (by rcases hx with rfl | rfl <;> simp [chI, bdL, bd]) hc
def tB (b : Bool) : Value := .bool b
theorem t1 {p : Prop} [Decidable p] {b : Bool} (h : decide p = b) : ∀ q ∈ [(Value.bool (decide p), tB b)], q.1 = q.2 := by intro q hq; simp only [List.mem_singleton] at hq; subst hq; exact congrArg Value.bool h
theorem t2 {p q : Prop} [Decidable p] [Decidable q] {b c : Bool} (h : decide p = b) (k : decide q = c) : ∀ x ∈ [(Value.bool (decide p), tB b), (Value.bool (decide q), tB c)], x.1 = x.2 := by intro x hx; simp only [List.mem_cons, List.not_mem_nil, or_false] at hx; rcases hx with rfl | rfl; exact congrArg Value.bool h; exact congrArg Value.bool k
theorem tn {p q : Prop} [Decidable p] [Decidable q] {b c : Bool} (n k : Nat) (h : decide p = b) (g : decide q = c) : ∀ x ∈ List.replicate n (Value.bool (decide p), tB b) ++ List.replicate k (Value.bool (decide q), tB c), x.1 = x.2 := by
  intro x hx
  rcases List.mem_append.1 hx with hx | hx
  · rw [(List.mem_replicate.1 hx).2]; exact congrArg Value.bool h
  · rw [(List.mem_replicate.1 hx).2]; exact congrArg Value.bool g
theorem choose_any (kind : Int) (m o : Ct) (w : World) : Calls Tryz.prog 62 #[.int .i64 kind, m.v, o.v] w fun e w' => e = .returned (.int .i64 (chooseD kind m o)) ∧ Below w.heap.size w w' := by
  by_cases h1 : kind < 0
  · rw [chooseD_f (ahead_0 m o (by omega) (by omega) (by omega))]
    exact ch_run (orc := [tB false, tB false, tB false]) (Or.inl rfl) (by kernel_rfl) (tn (p := kind ≥ 0) (q := kind ≥ 0) (b := false) (c := false) 3 0 (decide_eq_false (by omega)) (decide_eq_false (by omega)))
  by_cases h2 : 3 < kind
  · rw [chooseD_f (ahead_0 m o (by omega) (by omega) (by omega))]
    exact ch_run (orc := List.replicate 3 (tB true) ++ List.replicate 7 (tB false)) (Or.inl rfl) (by kernel_rfl) (tn (p := kind < 4) (q := kind ≥ 0) (b := false) (c := true) 7 3 (decide_eq_false (by omega)) (decide_eq_true (by omega)))
  have h3 : kind = 0 ∨ kind = 1 ∨ kind = 2 ∨ kind = 3 := by omega
  rcases h3 with rfl | rfl | rfl | rfl
  · exact ch_run (orc := []) (cnd := []) (Or.inr rfl) (by kernel_rfl) (by simp)
  · by_cases h : m.s < o.s
    · rw [chooseD_t (by rw [ahead_1]; exact decide_eq_true h)]; exact ch_run (orc := [tB true]) (Or.inr rfl) (by kernel_rfl) (t1 (decide_eq_true h))
    · rw [chooseD_f (by rw [ahead_1]; exact decide_eq_false h)]; exact ch_run (orc := [tB false]) (Or.inr rfl) (by kernel_rfl) (t1 (decide_eq_false h))
  · by_cases hk : m.k = o.k
    · have e : ahead 2 m o = decide (m.s < o.s) := by rw [ahead_2]; unfold karmaB; rw [if_pos hk]
      by_cases h : m.s < o.s
      · rw [chooseD_t (e.trans (decide_eq_true h))]; exact ch_run (orc := [tB true, tB true]) (Or.inr rfl) (by kernel_rfl) (t2 (decide_eq_true h) (decide_eq_true hk))
      · rw [chooseD_f (e.trans (decide_eq_false h))]; exact ch_run (orc := [tB true, tB false]) (Or.inr rfl) (by kernel_rfl) (t2 (decide_eq_false h) (decide_eq_true hk))
    · have e : ahead 2 m o = decide (o.k < m.k) := by rw [ahead_2]; unfold karmaB; rw [if_neg hk]
      by_cases h : m.k > o.k
      · rw [chooseD_t (e.trans (decide_eq_true h))]; exact ch_run (orc := [tB false, tB true]) (Or.inr rfl) (by kernel_rfl) (t2 (decide_eq_true h) (decide_eq_false hk))
      · rw [chooseD_f (e.trans (decide_eq_false h))]; exact ch_run (orc := [tB false, tB false]) (Or.inr rfl) (by kernel_rfl) (t2 (decide_eq_false h) (decide_eq_false hk))
  · by_cases hk : m.a ≥ 2
    · have e : ahead 3 m o = decide (m.s < o.s) := by rw [ahead_3]; unfold mixedB; rw [decide_eq_true hk, Bool.true_and]
      by_cases h : m.s < o.s
      · rw [chooseD_t (e.trans (decide_eq_true h))]; exact ch_run (orc := [tB true, tB true]) (Or.inr rfl) (by kernel_rfl) (t2 (decide_eq_true h) (decide_eq_true hk))
      · rw [chooseD_f (e.trans (decide_eq_false h))]; exact ch_run (orc := [tB true, tB false]) (Or.inr rfl) (by kernel_rfl) (t2 (decide_eq_false h) (decide_eq_true hk))
    · have e : ahead 3 m o = false := by rw [ahead_3]; unfold mixedB; rw [decide_eq_false hk, Bool.false_and]
      rw [chooseD_f e]; exact ch_run (orc := [tB false]) (Or.inr rfl) (by kernel_rfl) (t1 (decide_eq_false hk))
end
section
variable (m o : Ct) (w : World)
include m o w
theorem rchoose_1t (q0 : decide (m.s < o.s) = true) : Calls Tryz.prog 93 #[.int .i64 1, m.v, o.v] w fun e w' => e = .returned (.int .i64 2) ∧ Below w.heap.size w w' := by
  unfold Ct.v
  go_enter Tryz.func93, Tryz.ntmps93
  go_wp2
  go_ret
  exact ⟨rfl, below2 _ _ _⟩
theorem rchoose_1f (q0 : decide (m.s < o.s) = false) : Calls Tryz.prog 93 #[.int .i64 1, m.v, o.v] w fun e w' => e = .returned (.int .i64 1) ∧ Below w.heap.size w w' := by
  unfold Ct.v
  go_enter Tryz.func93, Tryz.ntmps93
  go_wp2
  go_ret
  exact ⟨rfl, below2 _ _ _⟩
theorem rchoose_2a (q0 : decide (o.k < m.k) = true) : Calls Tryz.prog 93 #[.int .i64 2, m.v, o.v] w fun e w' => e = .returned (.int .i64 2) ∧ Below w.heap.size w w' := by
  unfold Ct.v
  go_enter Tryz.func93, Tryz.ntmps93
  go_wp2
  go_ret
  exact ⟨rfl, below2 _ _ _⟩
theorem rchoose_2b (q0 : decide (o.k < m.k) = false) (q1 : (m.k == o.k) = true) (q2 : decide (m.s < o.s) = true) : Calls Tryz.prog 93 #[.int .i64 2, m.v, o.v] w fun e w' => e = .returned (.int .i64 2) ∧ Below w.heap.size w w' := by
  unfold Ct.v
  go_enter Tryz.func93, Tryz.ntmps93
  go_wp2
  go_ret
  exact ⟨rfl, below2 _ _ _⟩
theorem rchoose_2c (q0 : decide (o.k < m.k) = false) (q1 : (m.k == o.k) = true) (q2 : decide (m.s < o.s) = false) : Calls Tryz.prog 93 #[.int .i64 2, m.v, o.v] w fun e w' => e = .returned (.int .i64 1) ∧ Below w.heap.size w w' := by
  unfold Ct.v
  go_enter Tryz.func93, Tryz.ntmps93
  go_wp2
  go_ret
  exact ⟨rfl, below2 _ _ _⟩
theorem rchoose_2d (q0 : decide (o.k < m.k) = false) (q1 : (m.k == o.k) = false) : Calls Tryz.prog 93 #[.int .i64 2, m.v, o.v] w fun e w' => e = .returned (.int .i64 1) ∧ Below w.heap.size w w' := by
  unfold Ct.v
  go_enter Tryz.func93, Tryz.ntmps93
  go_wp2
  go_ret
  exact ⟨rfl, below2 _ _ _⟩
theorem rchoose_3a (q0 : decide (1 < m.a) = true) (q1 : decide (m.s < o.s) = true) : Calls Tryz.prog 93 #[.int .i64 3, m.v, o.v] w fun e w' => e = .returned (.int .i64 2) ∧ Below w.heap.size w w' := by
  unfold Ct.v
  go_enter Tryz.func93, Tryz.ntmps93
  go_wp2
  go_ret
  exact ⟨rfl, below2 _ _ _⟩
theorem rchoose_3b (q0 : decide (1 < m.a) = true) (q1 : decide (m.s < o.s) = false) : Calls Tryz.prog 93 #[.int .i64 3, m.v, o.v] w fun e w' => e = .returned (.int .i64 1) ∧ Below w.heap.size w w' := by
  unfold Ct.v
  go_enter Tryz.func93, Tryz.ntmps93
  go_wp2
  go_ret
  exact ⟨rfl, below2 _ _ _⟩
theorem rchoose_3c (q0 : decide (1 < m.a) = false) : Calls Tryz.prog 93 #[.int .i64 3, m.v, o.v] w fun e w' => e = .returned (.int .i64 1) ∧ Below w.heap.size w w' := by
  unfold Ct.v
  go_enter Tryz.func93, Tryz.ntmps93
  go_wp2
  go_ret
  exact ⟨rfl, below2 _ _ _⟩
end
theorem rchoose_0 (kind : Int) (m o : Ct) (w : World) (q0 : (kind == 1) = false) (q1 : (kind == 2) = false) (q2 : (kind == 3) = false) : Calls Tryz.prog 93 #[.int .i64 kind, m.v, o.v] w fun e w' => e = .returned (.int .i64 1) ∧ Below w.heap.size w w' := by
  unfold Ct.v
  go_enter Tryz.func93, Tryz.ntmps93
  go_wp2
  go_ret
  exact ⟨rfl, below2 _ _ _⟩
theorem rchoose_any (kind : Int) (m o : Ct) (w : World) : Calls Tryz.prog 93 #[.int .i64 kind, m.v, o.v] w fun e w' => e = .returned (.int .i64 (chooseD kind m o)) ∧ Below w.heap.size w w' := by
  by_cases h1 : kind = 1
  · subst h1
    by_cases h : m.s < o.s
    · rw [chooseD_t (by rw [ahead_1]; exact decide_eq_true h)]; exact rchoose_1t m o w (decide_eq_true h)
    · rw [chooseD_f (by rw [ahead_1]; exact decide_eq_false h)]; exact rchoose_1f m o w (decide_eq_false h)
  by_cases h2 : kind = 2
  · subst h2
    by_cases g : m.k = o.k
    · have e : ahead 2 m o = decide (m.s < o.s) := by rw [ahead_2]; unfold karmaB; rw [if_pos g]
      by_cases h : m.s < o.s
      · rw [chooseD_t (by rw [e]; exact decide_eq_true h)]; exact rchoose_2b m o w (decide_eq_false (by omega)) (by simp [g]) (decide_eq_true h)
      · rw [chooseD_f (by rw [e]; exact decide_eq_false h)]; exact rchoose_2c m o w (decide_eq_false (by omega)) (by simp [g]) (decide_eq_false h)
    · have e : ahead 2 m o = decide (o.k < m.k) := by rw [ahead_2]; unfold karmaB; rw [if_neg g]
      by_cases h : o.k < m.k
      · rw [chooseD_t (by rw [e]; exact decide_eq_true h)]; exact rchoose_2a m o w (decide_eq_true h)
      · rw [chooseD_f (by rw [e]; exact decide_eq_false h)]; exact rchoose_2d m o w (decide_eq_false h) (by simp [g])
  by_cases h3 : kind = 3
  · subst h3
    by_cases g : 2 ≤ m.a
    · have e : ahead 3 m o = decide (m.s < o.s) := by rw [ahead_3]; unfold mixedB; rw [decide_eq_true g, Bool.true_and]
      by_cases h : m.s < o.s
      · rw [chooseD_t (by rw [e]; exact decide_eq_true h)]; exact rchoose_3a m o w (decide_eq_true (by omega)) (decide_eq_true h)
      · rw [chooseD_f (by rw [e]; exact decide_eq_false h)]; exact rchoose_3b m o w (decide_eq_true (by omega)) (decide_eq_false h)
    · have e : ahead 3 m o = false := by rw [ahead_3]; unfold mixedB; rw [decide_eq_false g, Bool.false_and]
      rw [chooseD_f e]; exact rchoose_3c m o w (decide_eq_false (by omega))
  · have e : chooseD kind m o = 1 := chooseD_f (ahead_0 m o h1 h2 h3)
    rw [e]; exact rchoose_0 kind m o w (by simp [h1]) (by simp [h2]) (by simp [h3])
end Go.Proofs.YtfahnmpcclhjlaaGreat

namespace Go.Proofs.YtfahnmpcclhjlaaGreat
set_option linter.unusedVariables false
set_option linter.unusedSectionVars false
set_option linter.unusedSimpArgs false
set_option maxRecDepth 100000
set_option maxHeartbeats 4000000
open Go.ChangeShapes Go.WideShapes Go.ChangeAt Go.RowKit
def doomT (L : Ly) (other s : Int) : Tree :=
  if s % 4 = 1 then .ask ⟨3, atStatus L other, s, wrap64 (4 * (s / 4) + 3)⟩ fun u => if u.2 = true then .ret { val := 2 } else .ret { val := 0 }
  else if s % 4 = 3 then .ret { val := 2 } else .ret { val := 3 }
def asksT (L : Ly) (other : Int) (m : Ct) : Tree :=
  .ask ⟨1, atStatus L other, 0, 0⟩ fun s => if s.1 % 4 = 0 then .ret { val := 0 } else .ask ⟨1, atStamp L other, 0, 0⟩ fun t => .ask ⟨1, atKarma L other, 0, 0⟩ fun k =>
    if chooseD L.c.m m ⟨t.1, k.1, s.1 / 4⟩ = 1 then .ret { val := 1 } else doomT L other s.1
def resolveT (L : Ly) (me other : Int) (own : Bool) (m : Ct) : Tree :=
  if own = true then .ask ⟨1, atStatus L me, 0, 0⟩ fun r => if r.1 % 4 = 3 then .ret { val := 1, lost := true } else asksT L other m
  else asksT L other m
def caseV (L : Ly) (me other : Int) (own : Bool) (m : Ct) : Value := .agg #[.int .i64 L.c.t, .int .i64 L.c.l, .int .i64 L.c.k, .int .i64 L.c.s, .int .i64 L.c.m, .int .i64 L.clock, .int .i64 L.stamps, .int .i64 L.log, .int .i64 L.fin, .int .i64 L.thread, .int .i64 L.lock, .int .i64 L.loc, .int .i64 L.size, .int .i64 me, .int .i64 other, .bool own, .int .i64 m.s, .int .i64 m.k, .int .i64 m.a, .func (.func 62) #[] #[]]
end Go.Proofs.YtfahnmpcclhjlaaGreat
