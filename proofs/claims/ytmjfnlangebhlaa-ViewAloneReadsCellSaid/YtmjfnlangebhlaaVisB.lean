
/-
  Layer 18: which change an operation makes, and the next access of one.
-/
import Derived.Test.YtmjfnlangebhlaaRows
import Derived.Test.YtmjfnlangebhlaaBase
import Derived.Test.YtmjfnlangebhlaaLayA
import Derived.Test.YtmjfnlangebhlaaStepF
import Derived.Test.YtmjfnlangebhlaaStepG
import Derived.Test.YtmjfnlangebhlaaSd
import Derived.Test.YtmjfnlangebhlaaSxR
import Derived.Test.YtmjfnlangebhlaaVisA
import Derived.WalkKit
namespace Go.Proofs.Ytmjfnlangebhlaa
open Go Go.RowKit SX
set_option linter.unusedVariables false
set_option maxRecDepth 100000
attribute [local irreducible] post GD

def kd (k a b ty : Int) (ms mk ma : Int) (sa wa da : Option Addr) (sl sc wl wc dl dc : Nat) : Value := .agg #[.int .i64 k, .int .i64 a, .int .i64 b, .int .i64 ty, .int .i64 ms, .int .i64 mk, .int .i64 ma, .slice sa sl sc, .slice wa wl wc, .slice da dl dc]
def chJ (c t : Int) : Value := .agg #[.int .i64 c, .func (.func 98) #[.agg #[.int .i64 t]] #[]]
def chQ (c t : Int) : Value := .agg #[.int .i64 c, .func (.func 99) #[.agg #[.int .i64 t]] #[]]
set_option maxHeartbeats 4000000 in
theorem chof_1 (w : World) (L : Ly) (hok : L.ok) (t : Int) (a b ty : Int) (ms mk ma : Int) (sa wa da : Option Addr) (sl sc wl wc dl dc : Nat) : Calls Try.prog 49 #[L.v, .agg #[.int .i64 t], (kd 1 a b ty ms mk ma sa wa da sl sc wl wc dl dc)] w fun e w' => e = .returned (.tuple #[chJ (atReaders L a) t, .bool true]) ∧ Below w.heap.size w w' := by
  refine sy_enter Try.func49 rfl fun aa S => ?_
  refine sy_run ⟨0, []⟩ 60 S fun bs aa w1 S => ?_
  refine dr_enter [0, 1, 2] (by kernel_rfl) (by kernel_rfl) S (by kernel_rfl) fun aa w2 D => ?_
  refine dr_call1 3 D (by kernel_rfl) (by kernel_rfl) (by kernel_rfl) (readers_any L a w2 hok) (by kernel_rfl) fun aa w3 hb D => ?_
  refine dr_op 7 D (by kernel_rfl) (by kernel_rfl) (by kernel_rfl) (by simp) (by kernel_rfl) (by kernel_rfl) fun bs2 aa w4 D hl => ?_
  refine dr_end D (by kernel_rfl) fun S => ?_
  refine sy_run ⟨0, []⟩ 60 S fun bs aa w5 S => ?_
  exact sy_ret S (by kernel_rfl) (by kernel_rfl) fun g => ⟨rfl, below_of_gr g⟩
set_option maxHeartbeats 4000000 in
theorem chof_2 (w : World) (L : Ly) (hok : L.ok) (t : Int) (a b ty : Int) (ms mk ma : Int) (sa wa da : Option Addr) (sl sc wl wc dl dc : Nat) : Calls Try.prog 49 #[L.v, .agg #[.int .i64 t], (kd 2 a b ty ms mk ma sa wa da sl sc wl wc dl dc)] w fun e w' => e = .returned (.tuple #[chQ (atReaders L a) t, .bool true]) ∧ Below w.heap.size w w' := by
  refine sy_enter Try.func49 rfl fun aa S => ?_
  refine sy_run ⟨0, []⟩ 60 S fun bs aa w1 S => ?_
  refine dr_enter [0, 1, 2] (by kernel_rfl) (by kernel_rfl) S (by kernel_rfl) fun aa w2 D => ?_
  refine dr_call1 3 D (by kernel_rfl) (by kernel_rfl) (by kernel_rfl) (readers_any L a w2 hok) (by kernel_rfl) fun aa w3 hb D => ?_
  refine dr_op 7 D (by kernel_rfl) (by kernel_rfl) (by kernel_rfl) (by simp) (by kernel_rfl) (by kernel_rfl) fun bs2 aa w4 D hl => ?_
  refine dr_end D (by kernel_rfl) fun S => ?_
  refine sy_run ⟨0, []⟩ 60 S fun bs aa w5 S => ?_
  exact sy_ret S (by kernel_rfl) (by kernel_rfl) fun g => ⟨rfl, below_of_gr g⟩
set_option maxHeartbeats 4000000 in
theorem chof_3 (w : World) (L : Ly) (hok : L.ok) (t : Int) (a b ty : Int) (ms mk ma : Int) (sa wa da : Option Addr) (sl sc wl wc dl dc : Nat) : Calls Try.prog 49 #[L.v, .agg #[.int .i64 t], (kd 3 a b ty ms mk ma sa wa da sl sc wl wc dl dc)] w fun e w' => e = .returned (.tuple #[chJ (atWaiters L a) t, .bool true]) ∧ Below w.heap.size w w' := by
  refine sy_enter Try.func49 rfl fun aa S => ?_
  refine sy_run ⟨0, []⟩ 60 S fun bs aa w1 S => ?_
  refine dr_enter [0, 1, 2] (by kernel_rfl) (by kernel_rfl) S (by kernel_rfl) fun aa w2 D => ?_
  refine dr_call1 3 D (by kernel_rfl) (by kernel_rfl) (by kernel_rfl) (waiters_any L a w2 hok) (by kernel_rfl) fun aa w3 hb D => ?_
  refine dr_op 7 D (by kernel_rfl) (by kernel_rfl) (by kernel_rfl) (by simp) (by kernel_rfl) (by kernel_rfl) fun bs2 aa w4 D hl => ?_
  refine dr_end D (by kernel_rfl) fun S => ?_
  refine sy_run ⟨0, []⟩ 60 S fun bs aa w5 S => ?_
  exact sy_ret S (by kernel_rfl) (by kernel_rfl) fun g => ⟨rfl, below_of_gr g⟩
set_option maxHeartbeats 4000000 in
theorem chof_4 (w : World) (L : Ly) (hok : L.ok) (t : Int) (a b ty : Int) (ms mk ma : Int) (sa wa da : Option Addr) (sl sc wl wc dl dc : Nat) : Calls Try.prog 49 #[L.v, .agg #[.int .i64 t], (kd 4 a b ty ms mk ma sa wa da sl sc wl wc dl dc)] w fun e w' => e = .returned (.tuple #[chQ (atWaiters L a) t, .bool true]) ∧ Below w.heap.size w w' := by
  refine sy_enter Try.func49 rfl fun aa S => ?_
  refine sy_run ⟨0, []⟩ 60 S fun bs aa w1 S => ?_
  refine dr_enter [0, 1, 2] (by kernel_rfl) (by kernel_rfl) S (by kernel_rfl) fun aa w2 D => ?_
  refine dr_call1 3 D (by kernel_rfl) (by kernel_rfl) (by kernel_rfl) (waiters_any L a w2 hok) (by kernel_rfl) fun aa w3 hb D => ?_
  refine dr_op 7 D (by kernel_rfl) (by kernel_rfl) (by kernel_rfl) (by simp) (by kernel_rfl) (by kernel_rfl) fun bs2 aa w4 D hl => ?_
  refine dr_end D (by kernel_rfl) fun S => ?_
  refine sy_run ⟨0, []⟩ 60 S fun bs aa w5 S => ?_
  exact sy_ret S (by kernel_rfl) (by kernel_rfl) fun g => ⟨rfl, below_of_gr g⟩
set_option maxHeartbeats 4000000 in
theorem chof_0 (w : World) (L : Ly) (t k : Int) (a b ty : Int) (ms mk ma : Int) (sa wa da : Option Addr) (sl sc wl wc dl dc : Nat) (h1 : k ≠ 1) (h2 : k ≠ 2) (h3 : k ≠ 3) (h4 : k ≠ 4) : Calls Try.prog 49 #[L.v, .agg #[.int .i64 t], (kd k a b ty ms mk ma sa wa da sl sc wl wc dl dc)] w fun e w' => e = .returned (.tuple #[.agg #[.int .i64 0, .nilFunc], .bool false]) ∧ Below w.heap.size w w' := by
  refine sy_enter Try.func49 rfl fun aa S => ?_
  refine sy_run ⟨0, [2]⟩ 60 S fun bs aa w1 S => ?_
  refine sy_reg S fun S => ?_
  refine sy_ops 3 S fun bs aa w1 S => ?_
  refine sy_cond false S (by simpa using h1 : decide (k = 1) = false) (by kernel_rfl) fun S => ?_
  refine sy_run ⟨0, [4]⟩ 60 S fun bs aa w1 S => ?_
  refine sy_reg S fun S => ?_
  refine sy_ops 3 S fun bs aa w1 S => ?_
  refine sy_cond false S (by simpa using h2 : decide (k = 2) = false) (by kernel_rfl) fun S => ?_
  refine sy_run ⟨0, [6]⟩ 60 S fun bs aa w1 S => ?_
  refine sy_reg S fun S => ?_
  refine sy_ops 3 S fun bs aa w1 S => ?_
  refine sy_cond false S (by simpa using h3 : decide (k = 3) = false) (by kernel_rfl) fun S => ?_
  refine sy_run ⟨0, [8]⟩ 60 S fun bs aa w1 S => ?_
  refine sy_reg S fun S => ?_
  refine sy_ops 3 S fun bs aa w1 S => ?_
  refine sy_cond false S (by simpa using h4 : decide (k = 4) = false) (by kernel_rfl) fun S => ?_
  refine sy_run ⟨0, []⟩ 60 S fun bs aa w1 S => ?_
  exact sy_ret S (by kernel_rfl) (by kernel_rfl) fun g => ⟨rfl, below_of_gr g⟩
set_option maxHeartbeats 4000000 in
theorem nxta_1 (w : World) (L : Ly) (hok : L.ok) (t : Int) (a b ty : Int) (ms mk ma : Int) (sa wa da : Option Addr) (sl sc wl wc dl dc : Nat) (v : Value) (l : List (Int × Bool)) (hv : LogOf w v l) (hc : decide (atReaders L a < 0) = true) : Calls Try.prog 14 #[L.v, .int .i64 t, (kd 1 a b ty ms mk ma sa wa da sl sc wl wc dl dc), v] w fun e w' => e = .returned (nextV (.inr { err := 1 })) ∧ Below w.heap.size w w' := by
  refine sy_enterF none [rfLog v l] (by intro f hf; simp at hf; subst hf; exact hv) Try.func14 rfl fun aa S => ?_
  refine sy_run ⟨0, []⟩ 60 S fun bs aa w1 S => ?_
  refine sy_call1 S (chof_1 w1 L hok t a b ty ms mk ma sa wa da sl sc wl wc dl dc) (by kernel_rfl) fun aa w2 hb S => ?_
  refine sy_run ⟨0, [2]⟩ 60 S fun bs aa w1 S => ?_
  refine sy_reg S fun S => ?_
  refine sy_ops 8 S fun bs aa w1 S => ?_
  refine sy_cast 28 S (congrArg Value.bool hc) (by kernel_rfl) fun S => ?_
  refine sy_run ⟨0, []⟩ 60 S fun bs aa w1 S => ?_
  refine sy_call1 S (refuse_any 1 w1) (by kernel_rfl) fun aa w2 hb S => ?_
  refine sy_run ⟨0, []⟩ 60 S fun bs aa w1 S => ?_
  exact sy_ret S (by kernel_rfl) (by kernel_rfl) fun g => ⟨rfl, below_of_gr g⟩
set_option maxHeartbeats 4000000 in
theorem nxtb_1 (w : World) (L : Ly) (hok : L.ok) (t : Int) (a b ty : Int) (ms mk ma : Int) (sa wa da : Option Addr) (sl sc wl wc dl dc : Nat) (v : Value) (l : List (Int × Bool)) (hv : LogOf w v l) (hc : decide (atReaders L a < 0) = false) (hs : decide (atStatus L t < 0) = true) : Calls Try.prog 14 #[L.v, .int .i64 t, (kd 1 a b ty ms mk ma sa wa da sl sc wl wc dl dc), v] w fun e w' => e = .returned (nextV (.inr { err := 1 })) ∧ Below w.heap.size w w' := by
  refine sy_enterF none [rfLog v l] (by intro f hf; simp at hf; subst hf; exact hv) Try.func14 rfl fun aa S => ?_
  refine sy_run ⟨0, []⟩ 60 S fun bs aa w1 S => ?_
  refine sy_call1 S (chof_1 w1 L hok t a b ty ms mk ma sa wa da sl sc wl wc dl dc) (by kernel_rfl) fun aa w2 hb S => ?_
  refine sy_run ⟨0, [2]⟩ 60 S fun bs aa w1 S => ?_
  refine sy_reg S fun S => ?_
  refine sy_ops 8 S fun bs aa w1 S => ?_
  refine sy_cast 28 S (congrArg Value.bool hc) (by kernel_rfl) fun S => ?_
  refine sy_run ⟨0, []⟩ 60 S fun bs aa w1 S => ?_
  refine sy_call1 S (status_any L t w1 hok) (by kernel_rfl) fun aa w2 hb S => ?_
  refine sy_ops 3 S fun bs aa w1 S => ?_
  refine sy_cond true S hs (by kernel_rfl) fun S => ?_
  refine sy_run ⟨0, []⟩ 60 S fun bs aa w1 S => ?_
  refine sy_call1 S (refuse_any 1 w1) (by kernel_rfl) fun aa w2 hb S => ?_
  refine sy_run ⟨0, []⟩ 60 S fun bs aa w1 S => ?_
  exact sy_ret S (by kernel_rfl) (by kernel_rfl) fun g => ⟨rfl, below_of_gr g⟩
set_option maxHeartbeats 4000000 in
theorem nxtc_1 (w : World) (L : Ly) (hok : L.ok) (t : Int) (a b ty : Int) (ms mk ma : Int) (sa wa da : Option Addr) (sl sc wl wc dl dc : Nat) (v : Value) (l : List (Int × Bool)) (hv : LogOf w v l) (hI : ∀ x ∈ l, I64 x.1) (hc : decide (atReaders L a < 0) = false) (hs : decide (atStatus L t < 0) = false) (x : Ask ⊕ OutD) (hx : runV (fun m => withT m t) (atReaders L a) l = x) : Calls Try.prog 14 #[L.v, .int .i64 t, (kd 1 a b ty ms mk ma sa wa da sl sc wl wc dl dc), v] w fun e w' => e = .returned (nextV x) ∧ Below w.heap.size w w' := by
  refine sy_enterF none [rfLog v l] (by intro f hf; simp at hf; subst hf; exact hv) Try.func14 rfl fun aa S => ?_
  refine sy_run ⟨0, []⟩ 60 S fun bs aa w1 S => ?_
  refine sy_call1 S (chof_1 w1 L hok t a b ty ms mk ma sa wa da sl sc wl wc dl dc) (by kernel_rfl) fun aa w2 hb S => ?_
  refine sy_run ⟨0, [2]⟩ 60 S fun bs aa w1 S => ?_
  refine sy_reg S fun S => ?_
  refine sy_ops 8 S fun bs aa w1 S => ?_
  refine sy_cast 28 S (congrArg Value.bool hc) (by kernel_rfl) fun S => ?_
  refine sy_run ⟨0, []⟩ 60 S fun bs aa w1 S => ?_
  refine sy_call1 S (status_any L t w1 hok) (by kernel_rfl) fun aa w2 hb S => ?_
  refine sy_ops 3 S fun bs aa w1 S => ?_
  refine sy_cond false S hs (by kernel_rfl) fun S => ?_
  refine sy_run ⟨0, []⟩ 60 S fun bs aa w1 S => ?_
  cases x with
  | inl o =>
    refine sy_call1 S (of_m1 w1 v l 51 (by intro args w; rfl) (chJ (atReaders L a) t) (.inl o) (S.fact (f := rfLog v l) (by simp)) (fun w1 g hb hg hR => by rw [← hx]; exact crun_join _ t g l hI w1 hR)) (by kernel_rfl) fun aa w2 hb S => ?_
    refine sy_run ⟨0, []⟩ 60 S fun bs aa w1 S => ?_
    exact sy_ret S (by kernel_rfl) (by kernel_rfl) fun g => ⟨rfl, below_of_gr g⟩
  | inr o =>
    refine sy_call1 S (of_m1 w1 v l 51 (by intro args w; rfl) (chJ (atReaders L a) t) (.inr o) (S.fact (f := rfLog v l) (by simp)) (fun w1 g hb hg hR => by rw [← hx]; exact crun_join _ t g l hI w1 hR)) (by kernel_rfl) fun aa w2 hb S => ?_
    refine sy_run ⟨0, []⟩ 60 S fun bs aa w1 S => ?_
    exact sy_ret S (by kernel_rfl) (by kernel_rfl) fun g => ⟨rfl, below_of_gr g⟩
set_option maxHeartbeats 4000000 in
theorem nxta_2 (w : World) (L : Ly) (hok : L.ok) (t : Int) (a b ty : Int) (ms mk ma : Int) (sa wa da : Option Addr) (sl sc wl wc dl dc : Nat) (v : Value) (l : List (Int × Bool)) (hv : LogOf w v l) (hc : decide (atReaders L a < 0) = true) : Calls Try.prog 14 #[L.v, .int .i64 t, (kd 2 a b ty ms mk ma sa wa da sl sc wl wc dl dc), v] w fun e w' => e = .returned (nextV (.inr { err := 1 })) ∧ Below w.heap.size w w' := by
  refine sy_enterF none [rfLog v l] (by intro f hf; simp at hf; subst hf; exact hv) Try.func14 rfl fun aa S => ?_
  refine sy_run ⟨0, []⟩ 60 S fun bs aa w1 S => ?_
  refine sy_call1 S (chof_2 w1 L hok t a b ty ms mk ma sa wa da sl sc wl wc dl dc) (by kernel_rfl) fun aa w2 hb S => ?_
  refine sy_run ⟨0, [2]⟩ 60 S fun bs aa w1 S => ?_
  refine sy_reg S fun S => ?_
  refine sy_ops 8 S fun bs aa w1 S => ?_
  refine sy_cast 28 S (congrArg Value.bool hc) (by kernel_rfl) fun S => ?_
  refine sy_run ⟨0, []⟩ 60 S fun bs aa w1 S => ?_
  refine sy_call1 S (refuse_any 1 w1) (by kernel_rfl) fun aa w2 hb S => ?_
  refine sy_run ⟨0, []⟩ 60 S fun bs aa w1 S => ?_
  exact sy_ret S (by kernel_rfl) (by kernel_rfl) fun g => ⟨rfl, below_of_gr g⟩
set_option maxHeartbeats 4000000 in
theorem nxtb_2 (w : World) (L : Ly) (hok : L.ok) (t : Int) (a b ty : Int) (ms mk ma : Int) (sa wa da : Option Addr) (sl sc wl wc dl dc : Nat) (v : Value) (l : List (Int × Bool)) (hv : LogOf w v l) (hc : decide (atReaders L a < 0) = false) (hs : decide (atStatus L t < 0) = true) : Calls Try.prog 14 #[L.v, .int .i64 t, (kd 2 a b ty ms mk ma sa wa da sl sc wl wc dl dc), v] w fun e w' => e = .returned (nextV (.inr { err := 1 })) ∧ Below w.heap.size w w' := by
  refine sy_enterF none [rfLog v l] (by intro f hf; simp at hf; subst hf; exact hv) Try.func14 rfl fun aa S => ?_
  refine sy_run ⟨0, []⟩ 60 S fun bs aa w1 S => ?_
  refine sy_call1 S (chof_2 w1 L hok t a b ty ms mk ma sa wa da sl sc wl wc dl dc) (by kernel_rfl) fun aa w2 hb S => ?_
  refine sy_run ⟨0, [2]⟩ 60 S fun bs aa w1 S => ?_
  refine sy_reg S fun S => ?_
  refine sy_ops 8 S fun bs aa w1 S => ?_
  refine sy_cast 28 S (congrArg Value.bool hc) (by kernel_rfl) fun S => ?_
  refine sy_run ⟨0, []⟩ 60 S fun bs aa w1 S => ?_
  refine sy_call1 S (status_any L t w1 hok) (by kernel_rfl) fun aa w2 hb S => ?_
  refine sy_ops 3 S fun bs aa w1 S => ?_
  refine sy_cond true S hs (by kernel_rfl) fun S => ?_
  refine sy_run ⟨0, []⟩ 60 S fun bs aa w1 S => ?_
  refine sy_call1 S (refuse_any 1 w1) (by kernel_rfl) fun aa w2 hb S => ?_
  refine sy_run ⟨0, []⟩ 60 S fun bs aa w1 S => ?_
  exact sy_ret S (by kernel_rfl) (by kernel_rfl) fun g => ⟨rfl, below_of_gr g⟩
set_option maxHeartbeats 4000000 in
theorem nxtc_2 (w : World) (L : Ly) (hok : L.ok) (t : Int) (a b ty : Int) (ms mk ma : Int) (sa wa da : Option Addr) (sl sc wl wc dl dc : Nat) (v : Value) (l : List (Int × Bool)) (hv : LogOf w v l) (hI : ∀ x ∈ l, I64 x.1) (hc : decide (atReaders L a < 0) = false) (hs : decide (atStatus L t < 0) = false) (x : Ask ⊕ OutD) (hx : runV (fun m => sansT m t) (atReaders L a) l = x) : Calls Try.prog 14 #[L.v, .int .i64 t, (kd 2 a b ty ms mk ma sa wa da sl sc wl wc dl dc), v] w fun e w' => e = .returned (nextV x) ∧ Below w.heap.size w w' := by
  refine sy_enterF none [rfLog v l] (by intro f hf; simp at hf; subst hf; exact hv) Try.func14 rfl fun aa S => ?_
  refine sy_run ⟨0, []⟩ 60 S fun bs aa w1 S => ?_
  refine sy_call1 S (chof_2 w1 L hok t a b ty ms mk ma sa wa da sl sc wl wc dl dc) (by kernel_rfl) fun aa w2 hb S => ?_
  refine sy_run ⟨0, [2]⟩ 60 S fun bs aa w1 S => ?_
  refine sy_reg S fun S => ?_
  refine sy_ops 8 S fun bs aa w1 S => ?_
  refine sy_cast 28 S (congrArg Value.bool hc) (by kernel_rfl) fun S => ?_
  refine sy_run ⟨0, []⟩ 60 S fun bs aa w1 S => ?_
  refine sy_call1 S (status_any L t w1 hok) (by kernel_rfl) fun aa w2 hb S => ?_
  refine sy_ops 3 S fun bs aa w1 S => ?_
  refine sy_cond false S hs (by kernel_rfl) fun S => ?_
  refine sy_run ⟨0, []⟩ 60 S fun bs aa w1 S => ?_
  cases x with
  | inl o =>
    refine sy_call1 S (of_m1 w1 v l 51 (by intro args w; rfl) (chQ (atReaders L a) t) (.inl o) (S.fact (f := rfLog v l) (by simp)) (fun w1 g hb hg hR => by rw [← hx]; exact crun_quit _ t g l hI w1 hR)) (by kernel_rfl) fun aa w2 hb S => ?_
    refine sy_run ⟨0, []⟩ 60 S fun bs aa w1 S => ?_
    exact sy_ret S (by kernel_rfl) (by kernel_rfl) fun g => ⟨rfl, below_of_gr g⟩
  | inr o =>
    refine sy_call1 S (of_m1 w1 v l 51 (by intro args w; rfl) (chQ (atReaders L a) t) (.inr o) (S.fact (f := rfLog v l) (by simp)) (fun w1 g hb hg hR => by rw [← hx]; exact crun_quit _ t g l hI w1 hR)) (by kernel_rfl) fun aa w2 hb S => ?_
    refine sy_run ⟨0, []⟩ 60 S fun bs aa w1 S => ?_
    exact sy_ret S (by kernel_rfl) (by kernel_rfl) fun g => ⟨rfl, below_of_gr g⟩
set_option maxHeartbeats 4000000 in
theorem nxta_3 (w : World) (L : Ly) (hok : L.ok) (t : Int) (a b ty : Int) (ms mk ma : Int) (sa wa da : Option Addr) (sl sc wl wc dl dc : Nat) (v : Value) (l : List (Int × Bool)) (hv : LogOf w v l) (hc : decide (atWaiters L a < 0) = true) : Calls Try.prog 14 #[L.v, .int .i64 t, (kd 3 a b ty ms mk ma sa wa da sl sc wl wc dl dc), v] w fun e w' => e = .returned (nextV (.inr { err := 1 })) ∧ Below w.heap.size w w' := by
  refine sy_enterF none [rfLog v l] (by intro f hf; simp at hf; subst hf; exact hv) Try.func14 rfl fun aa S => ?_
  refine sy_run ⟨0, []⟩ 60 S fun bs aa w1 S => ?_
  refine sy_call1 S (chof_3 w1 L hok t a b ty ms mk ma sa wa da sl sc wl wc dl dc) (by kernel_rfl) fun aa w2 hb S => ?_
  refine sy_run ⟨0, [2]⟩ 60 S fun bs aa w1 S => ?_
  refine sy_reg S fun S => ?_
  refine sy_ops 8 S fun bs aa w1 S => ?_
  refine sy_cast 28 S (congrArg Value.bool hc) (by kernel_rfl) fun S => ?_
  refine sy_run ⟨0, []⟩ 60 S fun bs aa w1 S => ?_
  refine sy_call1 S (refuse_any 1 w1) (by kernel_rfl) fun aa w2 hb S => ?_
  refine sy_run ⟨0, []⟩ 60 S fun bs aa w1 S => ?_
  exact sy_ret S (by kernel_rfl) (by kernel_rfl) fun g => ⟨rfl, below_of_gr g⟩
set_option maxHeartbeats 4000000 in
theorem nxtb_3 (w : World) (L : Ly) (hok : L.ok) (t : Int) (a b ty : Int) (ms mk ma : Int) (sa wa da : Option Addr) (sl sc wl wc dl dc : Nat) (v : Value) (l : List (Int × Bool)) (hv : LogOf w v l) (hc : decide (atWaiters L a < 0) = false) (hs : decide (atStatus L t < 0) = true) : Calls Try.prog 14 #[L.v, .int .i64 t, (kd 3 a b ty ms mk ma sa wa da sl sc wl wc dl dc), v] w fun e w' => e = .returned (nextV (.inr { err := 1 })) ∧ Below w.heap.size w w' := by
  refine sy_enterF none [rfLog v l] (by intro f hf; simp at hf; subst hf; exact hv) Try.func14 rfl fun aa S => ?_
  refine sy_run ⟨0, []⟩ 60 S fun bs aa w1 S => ?_
  refine sy_call1 S (chof_3 w1 L hok t a b ty ms mk ma sa wa da sl sc wl wc dl dc) (by kernel_rfl) fun aa w2 hb S => ?_
  refine sy_run ⟨0, [2]⟩ 60 S fun bs aa w1 S => ?_
  refine sy_reg S fun S => ?_
  refine sy_ops 8 S fun bs aa w1 S => ?_
  refine sy_cast 28 S (congrArg Value.bool hc) (by kernel_rfl) fun S => ?_
  refine sy_run ⟨0, []⟩ 60 S fun bs aa w1 S => ?_
  refine sy_call1 S (status_any L t w1 hok) (by kernel_rfl) fun aa w2 hb S => ?_
  refine sy_ops 3 S fun bs aa w1 S => ?_
  refine sy_cond true S hs (by kernel_rfl) fun S => ?_
  refine sy_run ⟨0, []⟩ 60 S fun bs aa w1 S => ?_
  refine sy_call1 S (refuse_any 1 w1) (by kernel_rfl) fun aa w2 hb S => ?_
  refine sy_run ⟨0, []⟩ 60 S fun bs aa w1 S => ?_
  exact sy_ret S (by kernel_rfl) (by kernel_rfl) fun g => ⟨rfl, below_of_gr g⟩
set_option maxHeartbeats 4000000 in
theorem nxtc_3 (w : World) (L : Ly) (hok : L.ok) (t : Int) (a b ty : Int) (ms mk ma : Int) (sa wa da : Option Addr) (sl sc wl wc dl dc : Nat) (v : Value) (l : List (Int × Bool)) (hv : LogOf w v l) (hI : ∀ x ∈ l, I64 x.1) (hc : decide (atWaiters L a < 0) = false) (hs : decide (atStatus L t < 0) = false) (x : Ask ⊕ OutD) (hx : runV (fun m => withT m t) (atWaiters L a) l = x) : Calls Try.prog 14 #[L.v, .int .i64 t, (kd 3 a b ty ms mk ma sa wa da sl sc wl wc dl dc), v] w fun e w' => e = .returned (nextV x) ∧ Below w.heap.size w w' := by
  refine sy_enterF none [rfLog v l] (by intro f hf; simp at hf; subst hf; exact hv) Try.func14 rfl fun aa S => ?_
  refine sy_run ⟨0, []⟩ 60 S fun bs aa w1 S => ?_
  refine sy_call1 S (chof_3 w1 L hok t a b ty ms mk ma sa wa da sl sc wl wc dl dc) (by kernel_rfl) fun aa w2 hb S => ?_
  refine sy_run ⟨0, [2]⟩ 60 S fun bs aa w1 S => ?_
  refine sy_reg S fun S => ?_
  refine sy_ops 8 S fun bs aa w1 S => ?_
  refine sy_cast 28 S (congrArg Value.bool hc) (by kernel_rfl) fun S => ?_
  refine sy_run ⟨0, []⟩ 60 S fun bs aa w1 S => ?_
  refine sy_call1 S (status_any L t w1 hok) (by kernel_rfl) fun aa w2 hb S => ?_
  refine sy_ops 3 S fun bs aa w1 S => ?_
  refine sy_cond false S hs (by kernel_rfl) fun S => ?_
  refine sy_run ⟨0, []⟩ 60 S fun bs aa w1 S => ?_
  cases x with
  | inl o =>
    refine sy_call1 S (of_m1 w1 v l 51 (by intro args w; rfl) (chJ (atWaiters L a) t) (.inl o) (S.fact (f := rfLog v l) (by simp)) (fun w1 g hb hg hR => by rw [← hx]; exact crun_join _ t g l hI w1 hR)) (by kernel_rfl) fun aa w2 hb S => ?_
    refine sy_run ⟨0, []⟩ 60 S fun bs aa w1 S => ?_
    exact sy_ret S (by kernel_rfl) (by kernel_rfl) fun g => ⟨rfl, below_of_gr g⟩
  | inr o =>
    refine sy_call1 S (of_m1 w1 v l 51 (by intro args w; rfl) (chJ (atWaiters L a) t) (.inr o) (S.fact (f := rfLog v l) (by simp)) (fun w1 g hb hg hR => by rw [← hx]; exact crun_join _ t g l hI w1 hR)) (by kernel_rfl) fun aa w2 hb S => ?_
    refine sy_run ⟨0, []⟩ 60 S fun bs aa w1 S => ?_
    exact sy_ret S (by kernel_rfl) (by kernel_rfl) fun g => ⟨rfl, below_of_gr g⟩
set_option maxHeartbeats 4000000 in
theorem nxta_4 (w : World) (L : Ly) (hok : L.ok) (t : Int) (a b ty : Int) (ms mk ma : Int) (sa wa da : Option Addr) (sl sc wl wc dl dc : Nat) (v : Value) (l : List (Int × Bool)) (hv : LogOf w v l) (hc : decide (atWaiters L a < 0) = true) : Calls Try.prog 14 #[L.v, .int .i64 t, (kd 4 a b ty ms mk ma sa wa da sl sc wl wc dl dc), v] w fun e w' => e = .returned (nextV (.inr { err := 1 })) ∧ Below w.heap.size w w' := by
  refine sy_enterF none [rfLog v l] (by intro f hf; simp at hf; subst hf; exact hv) Try.func14 rfl fun aa S => ?_
  refine sy_run ⟨0, []⟩ 60 S fun bs aa w1 S => ?_
  refine sy_call1 S (chof_4 w1 L hok t a b ty ms mk ma sa wa da sl sc wl wc dl dc) (by kernel_rfl) fun aa w2 hb S => ?_
  refine sy_run ⟨0, [2]⟩ 60 S fun bs aa w1 S => ?_
  refine sy_reg S fun S => ?_
  refine sy_ops 8 S fun bs aa w1 S => ?_
  refine sy_cast 28 S (congrArg Value.bool hc) (by kernel_rfl) fun S => ?_
  refine sy_run ⟨0, []⟩ 60 S fun bs aa w1 S => ?_
  refine sy_call1 S (refuse_any 1 w1) (by kernel_rfl) fun aa w2 hb S => ?_
  refine sy_run ⟨0, []⟩ 60 S fun bs aa w1 S => ?_
  exact sy_ret S (by kernel_rfl) (by kernel_rfl) fun g => ⟨rfl, below_of_gr g⟩
set_option maxHeartbeats 4000000 in
theorem nxtb_4 (w : World) (L : Ly) (hok : L.ok) (t : Int) (a b ty : Int) (ms mk ma : Int) (sa wa da : Option Addr) (sl sc wl wc dl dc : Nat) (v : Value) (l : List (Int × Bool)) (hv : LogOf w v l) (hc : decide (atWaiters L a < 0) = false) (hs : decide (atStatus L t < 0) = true) : Calls Try.prog 14 #[L.v, .int .i64 t, (kd 4 a b ty ms mk ma sa wa da sl sc wl wc dl dc), v] w fun e w' => e = .returned (nextV (.inr { err := 1 })) ∧ Below w.heap.size w w' := by
  refine sy_enterF none [rfLog v l] (by intro f hf; simp at hf; subst hf; exact hv) Try.func14 rfl fun aa S => ?_
  refine sy_run ⟨0, []⟩ 60 S fun bs aa w1 S => ?_
  refine sy_call1 S (chof_4 w1 L hok t a b ty ms mk ma sa wa da sl sc wl wc dl dc) (by kernel_rfl) fun aa w2 hb S => ?_
  refine sy_run ⟨0, [2]⟩ 60 S fun bs aa w1 S => ?_
  refine sy_reg S fun S => ?_
  refine sy_ops 8 S fun bs aa w1 S => ?_
  refine sy_cast 28 S (congrArg Value.bool hc) (by kernel_rfl) fun S => ?_
  refine sy_run ⟨0, []⟩ 60 S fun bs aa w1 S => ?_
  refine sy_call1 S (status_any L t w1 hok) (by kernel_rfl) fun aa w2 hb S => ?_
  refine sy_ops 3 S fun bs aa w1 S => ?_
  refine sy_cond true S hs (by kernel_rfl) fun S => ?_
  refine sy_run ⟨0, []⟩ 60 S fun bs aa w1 S => ?_
  refine sy_call1 S (refuse_any 1 w1) (by kernel_rfl) fun aa w2 hb S => ?_
  refine sy_run ⟨0, []⟩ 60 S fun bs aa w1 S => ?_
  exact sy_ret S (by kernel_rfl) (by kernel_rfl) fun g => ⟨rfl, below_of_gr g⟩
set_option maxHeartbeats 4000000 in
theorem nxtc_4 (w : World) (L : Ly) (hok : L.ok) (t : Int) (a b ty : Int) (ms mk ma : Int) (sa wa da : Option Addr) (sl sc wl wc dl dc : Nat) (v : Value) (l : List (Int × Bool)) (hv : LogOf w v l) (hI : ∀ x ∈ l, I64 x.1) (hc : decide (atWaiters L a < 0) = false) (hs : decide (atStatus L t < 0) = false) (x : Ask ⊕ OutD) (hx : runV (fun m => sansT m t) (atWaiters L a) l = x) : Calls Try.prog 14 #[L.v, .int .i64 t, (kd 4 a b ty ms mk ma sa wa da sl sc wl wc dl dc), v] w fun e w' => e = .returned (nextV x) ∧ Below w.heap.size w w' := by
  refine sy_enterF none [rfLog v l] (by intro f hf; simp at hf; subst hf; exact hv) Try.func14 rfl fun aa S => ?_
  refine sy_run ⟨0, []⟩ 60 S fun bs aa w1 S => ?_
  refine sy_call1 S (chof_4 w1 L hok t a b ty ms mk ma sa wa da sl sc wl wc dl dc) (by kernel_rfl) fun aa w2 hb S => ?_
  refine sy_run ⟨0, [2]⟩ 60 S fun bs aa w1 S => ?_
  refine sy_reg S fun S => ?_
  refine sy_ops 8 S fun bs aa w1 S => ?_
  refine sy_cast 28 S (congrArg Value.bool hc) (by kernel_rfl) fun S => ?_
  refine sy_run ⟨0, []⟩ 60 S fun bs aa w1 S => ?_
  refine sy_call1 S (status_any L t w1 hok) (by kernel_rfl) fun aa w2 hb S => ?_
  refine sy_ops 3 S fun bs aa w1 S => ?_
  refine sy_cond false S hs (by kernel_rfl) fun S => ?_
  refine sy_run ⟨0, []⟩ 60 S fun bs aa w1 S => ?_
  cases x with
  | inl o =>
    refine sy_call1 S (of_m1 w1 v l 51 (by intro args w; rfl) (chQ (atWaiters L a) t) (.inl o) (S.fact (f := rfLog v l) (by simp)) (fun w1 g hb hg hR => by rw [← hx]; exact crun_quit _ t g l hI w1 hR)) (by kernel_rfl) fun aa w2 hb S => ?_
    refine sy_run ⟨0, []⟩ 60 S fun bs aa w1 S => ?_
    exact sy_ret S (by kernel_rfl) (by kernel_rfl) fun g => ⟨rfl, below_of_gr g⟩
  | inr o =>
    refine sy_call1 S (of_m1 w1 v l 51 (by intro args w; rfl) (chQ (atWaiters L a) t) (.inr o) (S.fact (f := rfLog v l) (by simp)) (fun w1 g hb hg hR => by rw [← hx]; exact crun_quit _ t g l hI w1 hR)) (by kernel_rfl) fun aa w2 hb S => ?_
    refine sy_run ⟨0, []⟩ 60 S fun bs aa w1 S => ?_
    exact sy_ret S (by kernel_rfl) (by kernel_rfl) fun g => ⟨rfl, below_of_gr g⟩
set_option maxHeartbeats 4000000 in
theorem nxta_0 (w : World) (L : Ly) (hok : L.ok) (t : Int) (a b ty : Int) (ms mk ma : Int) (sa wa da : Option Addr) (sl sc wl wc dl dc : Nat) (v : Value) (l : List (Int × Bool)) (hv : LogOf w v l) (k : Int) (h1 : k ≠ 1) (h2 : k ≠ 2) (h3 : k ≠ 3) (h4 : k ≠ 4) : Calls Try.prog 14 #[L.v, .int .i64 t, (kd k a b ty ms mk ma sa wa da sl sc wl wc dl dc), v] w fun e w' => e = .returned (nextV (.inr { err := 1 })) ∧ Below w.heap.size w w' := by
  refine sy_enterF none [rfLog v l] (by intro f hf; simp at hf; subst hf; exact hv) Try.func14 rfl fun aa S => ?_
  refine sy_run ⟨0, []⟩ 60 S fun bs aa w1 S => ?_
  refine sy_call1 S (chof_0 w1 L t k a b ty ms mk ma sa wa da sl sc wl wc dl dc h1 h2 h3 h4) (by kernel_rfl) fun aa w2 hb S => ?_
  refine sy_run ⟨0, []⟩ 60 S fun bs aa w1 S => ?_
  refine sy_call1 S (refuse_any 1 w1) (by kernel_rfl) fun aa w2 hb S => ?_
  refine sy_run ⟨0, []⟩ 60 S fun bs aa w1 S => ?_
  exact sy_ret S (by kernel_rfl) (by kernel_rfl) fun g => ⟨rfl, below_of_gr g⟩
end Go.Proofs.Ytmjfnlangebhlaa
