
/-
  Layer 18: the reference's next access of an operation on a mask.
-/
import Derived.Test.YtmjfnlangebhlaaRows
import Derived.Test.YtmjfnlangebhlaaBase
import Derived.Test.YtmjfnlangebhlaaLayA
import Derived.Test.YtmjfnlangebhlaaStepF
import Derived.Test.YtmjfnlangebhlaaCurA
import Derived.Test.YtmjfnlangebhlaaCurC
import Derived.Test.YtmjfnlangebhlaaCurD
import Derived.Test.YtmjfnlangebhlaaSd
import Derived.Test.YtmjfnlangebhlaaSq
import Derived.Test.YtmjfnlangebhlaaSxR
import Derived.Test.YtmjfnlangebhlaaVisA
import Derived.Test.YtmjfnlangebhlaaVisB
import Derived.Test.YtmjfnlangebhlaaVisC
import Derived.WalkKit
namespace Go.Proofs.Ytmjfnlangebhlaa
open Go Go.RowKit SX
set_option linter.unusedVariables false
set_option maxRecDepth 100000

theorem cur_box {w0 : World} {bs : List Nat} {s : SS} {F : List RF} {a : Act} {w : World} (S : Sy w0 none bs s F a w) (i : Nat) {la : Option Addr} {lc : Nat} {l : List (Int × Bool)}
    (hk : s.K[i]? = some ⟨87, [.slice la l.length lc, .int .i64 0, .int .i64 0, .int .i64 0, .int .i64 0, .int .i64 0, .string ⟨#[]⟩, .bool false]⟩)
    (hv0 : LogOf w0 (.slice la l.length lc) l) (hv : LogOf w (.slice la l.length lc) l) (hl : l.length ≤ 1000000) : CurAt w (bs.getD i 0) (l, none) := by
  have hb := S.bx i _ hk
  have hi : i < bs.length := by rw [S.bl]; exact (List.getElem?_eq_some_iff.1 hk).1
  have c := fun (o : Nat) => cell_of_heap (o := o) hb
  refine ⟨la, lc, 0, l, c 0, c 1, c 2, c 3, c 4, c 5, c 6, c 7, fun o => frozen_of_heap hb, Nat.zero_le _, rfl, hl, ?_⟩
  obtain ⟨a0, c0, e0, _, _, h0⟩ := hv0
  obtain ⟨a1, c1, e1, _, _, h1⟩ := hv
  cases e0; cases e1
  rcases h1 with h1 | ⟨b, o, hab, h1⟩
  · exact Or.inl h1
  · rcases Nat.eq_zero_or_pos l.length with hz | hz
    · exact Or.inl hz
    · refine Or.inr ⟨b, o, hab, ?_, h1⟩
      rcases h0 with h0 | ⟨b', o', hab', h0⟩
      · omega
      · rw [hab] at hab'; cases hab'
        have := World.block_lt_of_cell? w0 _ (h0 0 hz).1
        have h2 := S.lo0 i hi
        simp at this
        omega
theorem own_ne4 {w0 : World} {r : Option Nat} {bs : List Nat} {s : SS} {F : List RF} {a : Act} {w : World} (S : Sy w0 r bs s F a w) (h : (s.K.length == 5) = true) : ∀ i, i < 4 → bs.getD i 0 = bs.getD 4 0 → False := fun i hi he => by
  have hl : bs.length = 5 := by rw [S.bl]; simpa using h
  have := S.nd i 4 (by omega) (by omega) he
  omega
theorem own_ge4 {w0 : World} {bs : List Nat} {s : SS} {F : List RF} {a : Act} {w : World} (S : Sy w0 none bs s F a w) (h : (s.K.length == 5) = true) : w0.heap.size ≤ bs.getD 4 0 := by
  have hl : bs.length = 5 := by rw [S.bl]; simpa using h
  exact S.lo0 4 (by omega)
attribute [local irreducible] post GD
set_option maxHeartbeats 4000000 in
theorem rnxta_1 (w : World) (L : Ly) (hok : L.ok) (t : Int) (a b ty ms mk ma : Int) (sa wa da : Option Addr) (sl sc wl wc dl dc : Nat) (la : Option Addr) (lc : Nat) (l : List (Int × Bool)) (hv : LogOf w (.slice la l.length lc) l) (hc : decide (atReaders L a < 0) = true) : Calls Try.prog 15 #[L.v, .int .i64 t, (kd 1 a b ty ms mk ma sa wa da sl sc wl wc dl dc), .slice la l.length lc] w fun e w' => e = .returned (nextV (.inr { err := 1 })) ∧ Below w.heap.size w w' := by
  refine sy_enterF none [rfLog (.slice la l.length lc) l] (by intro f hf; simp at hf; subst hf; exact hv) Try.func15 rfl fun aa S => ?_
  refine sy_run ⟨0, []⟩ 80 S fun bs aa w1 S => ?_
  refine sy_call1 S (rreaders_any L a w1 hok) (by kernel_rfl) fun aa w2 hb S => ?_
  refine sy_run ⟨0, [5]⟩ 80 S fun bs aa w1 S => ?_
  refine sy_reg S fun S => ?_
  refine sy_ops 13 S fun bs aa w1 S => ?_
  refine sy_cast 40 S (congrArg Value.bool hc) (by kernel_rfl) fun S => ?_
  refine sy_run ⟨0, []⟩ 80 S fun bs aa w1 S => ?_
  exact sy_ret S (by kernel_rfl) (by kernel_rfl) fun g => ⟨rfl, below_of_gr g⟩
set_option maxHeartbeats 4000000 in
theorem rnxtb_1 (w : World) (L : Ly) (hok : L.ok) (t : Int) (a b ty ms mk ma : Int) (sa wa da : Option Addr) (sl sc wl wc dl dc : Nat) (la : Option Addr) (lc : Nat) (l : List (Int × Bool)) (hv : LogOf w (.slice la l.length lc) l) (hc : decide (atReaders L a < 0) = false) (hs : decide (atStatus L t < 0) = true) : Calls Try.prog 15 #[L.v, .int .i64 t, (kd 1 a b ty ms mk ma sa wa da sl sc wl wc dl dc), .slice la l.length lc] w fun e w' => e = .returned (nextV (.inr { err := 1 })) ∧ Below w.heap.size w w' := by
  refine sy_enterF none [rfLog (.slice la l.length lc) l] (by intro f hf; simp at hf; subst hf; exact hv) Try.func15 rfl fun aa S => ?_
  refine sy_run ⟨0, []⟩ 80 S fun bs aa w1 S => ?_
  refine sy_call1 S (rreaders_any L a w1 hok) (by kernel_rfl) fun aa w2 hb S => ?_
  refine sy_run ⟨0, [5]⟩ 80 S fun bs aa w1 S => ?_
  refine sy_reg S fun S => ?_
  refine sy_ops 13 S fun bs aa w1 S => ?_
  refine sy_cast 40 S (congrArg Value.bool hc) (by kernel_rfl) fun S => ?_
  refine sy_run ⟨0, []⟩ 80 S fun bs aa w1 S => ?_
  refine sy_call1 S (rstatus_any L t w1 hok) (by kernel_rfl) fun aa w2 hb S => ?_
  refine sy_ops 3 S fun bs aa w1 S => ?_
  refine sy_cond true S hs (by kernel_rfl) fun S => ?_
  refine sy_run ⟨0, []⟩ 80 S fun bs aa w1 S => ?_
  exact sy_ret S (by kernel_rfl) (by kernel_rfl) fun g => ⟨rfl, below_of_gr g⟩
set_option maxHeartbeats 4000000 in
theorem rnxtc_1 (w : World) (L : Ly) (hok : L.ok) (t : Int) (a b ty ms mk ma : Int) (sa wa da : Option Addr) (sl sc wl wc dl dc : Nat) (la : Option Addr) (lc : Nat) (l : List (Int × Bool)) (hv : LogOf w (.slice la l.length lc) l) (hI : ∀ x ∈ l, I64 x.1) (hl : l.length ≤ 1000000) (ht : 0 ≤ t ∧ t ≤ 61) (hc : decide (atReaders L a < 0) = false) (hs : decide (atStatus L t < 0) = false) (x : Ask ⊕ OutD) (hx : runV (fun m => withT m t) (atReaders L a) l = x) : Calls Try.prog 15 #[L.v, .int .i64 t, (kd 1 a b ty ms mk ma sa wa da sl sc wl wc dl dc), .slice la l.length lc] w fun e w' => e = .returned (nextV x) ∧ Below w.heap.size w w' := by
  have hT : toldX ({ ok := (runP (fun m => isIn m t) (fun m => withT m t) (atReaders L a) l).1 }, (runP (fun m => isIn m t) (fun m => withT m t) (atReaders L a) l).2) = runV (fun m => withT m t) (atReaders L a) l := runP_told _ (l.length + 1) l (by omega) fun x _ => has_with ht x.1
  refine sy_enterF none [rfLog (.slice la l.length lc) l] (by intro f hf; simp at hf; subst hf; exact hv) Try.func15 rfl fun aa S => ?_
  refine sy_run ⟨0, []⟩ 80 S fun bs aa w1 S => ?_
  refine sy_call1 S (rreaders_any L a w1 hok) (by kernel_rfl) fun aa w2 hb S => ?_
  refine sy_run ⟨0, [5]⟩ 80 S fun bs aa w1 S => ?_
  refine sy_reg S fun S => ?_
  refine sy_ops 13 S fun bs aa w1 S => ?_
  refine sy_cast 40 S (congrArg Value.bool hc) (by kernel_rfl) fun S => ?_
  refine sy_run ⟨0, []⟩ 80 S fun bs aa w1 S => ?_
  refine sy_call1 S (rstatus_any L t w1 hok) (by kernel_rfl) fun aa w2 hb S => ?_
  refine sy_ops 3 S fun bs aa w1 S => ?_
  refine sy_cond false S hs (by kernel_rfl) fun S => ?_
  refine sy_run ⟨0, []⟩ 80 S fun bs aa w1 S => ?_
  refine sy_reify 11 4 0 S (by kernel_rfl) fun S => ?_
  refine sy_reify 52 4 0 S (by kernel_rfl) fun S => ?_
  have hC0 := cur_box S 4 (by kernel_rfl) hv (S.fact (f := rfLog (.slice la l.length lc) l) (by simp)) hl
  have hg := own_ge4 S (by kernel_rfl)
  have hnd := own_ne4 S (by kernel_rfl)
  refine sy_less [0, 1, 2, 3] S (by kernel_rfl) (by kernel_rfl) (by kernel_rfl) (by kernel_rfl) fun S => ?_
  refine sy_callG S (Or.inr hg) (X := Unit) (val := fun _ => .bool (runP (fun m => isIn m t) (fun m => withT m t) (atReaders L a) l).1) (C := fun _ w' => CurAt w' _ (runP (fun m => isIn m t) (fun m => withT m t) (atReaders L a) l).2) ((pput_any (atReaders L a) t _ l hI _ hC0).mono fun e w' h => ⟨(), h⟩) (by kernel_rfl) [] (by simp) (by
    intro i hi he
    have hi4 : i < 4 := by simpa using hi
    refine hnd i hi4 ?_
    rw [← he]
    match i, hi4 with
    | 0, _ => rfl
    | 1, _ => rfl
    | 2, _ => rfl
    | 3, _ => rfl) fun _ aa w hC hgr S => ?_
  generalize hgg : List.getD _ 4 0 = g at hC S
  refine sy_quiet (O := ⟨0, []⟩) 40 S fun aa S => ?_
  cases x with
  | inl o =>
    refine sy_call1 S (by rw [← hx, ← hT]; exact rtold_any w g (runP (fun m => isIn m t) (fun m => withT m t) (atReaders L a) l).2 { ok := (runP (fun m => isIn m t) (fun m => withT m t) (atReaders L a) l).1 } hC : Calls Try.prog 47 #[.pointer (some ⟨g, 0, none⟩), ({ ok := (runP (fun m => isIn m t) (fun m => withT m t) (atReaders L a) l).1 } : OutD).v] w fun e w' => e = .returned (nextV (.inl o)) ∧ Below w.heap.size w w') (by kernel_rfl) fun aa w2 hb S => ?_
    refine sy_run ⟨0, []⟩ 80 S fun bs aa w1 S => ?_
    exact sy_ret S (by kernel_rfl) (by kernel_rfl) fun g => ⟨rfl, below_of_gr g⟩
  | inr o =>
    refine sy_call1 S (by rw [← hx, ← hT]; exact rtold_any w g (runP (fun m => isIn m t) (fun m => withT m t) (atReaders L a) l).2 { ok := (runP (fun m => isIn m t) (fun m => withT m t) (atReaders L a) l).1 } hC : Calls Try.prog 47 #[.pointer (some ⟨g, 0, none⟩), ({ ok := (runP (fun m => isIn m t) (fun m => withT m t) (atReaders L a) l).1 } : OutD).v] w fun e w' => e = .returned (nextV (.inr o)) ∧ Below w.heap.size w w') (by kernel_rfl) fun aa w2 hb S => ?_
    refine sy_run ⟨0, []⟩ 80 S fun bs aa w1 S => ?_
    exact sy_ret S (by kernel_rfl) (by kernel_rfl) fun g => ⟨rfl, below_of_gr g⟩
set_option maxHeartbeats 4000000 in
theorem rnxta_2 (w : World) (L : Ly) (hok : L.ok) (t : Int) (a b ty ms mk ma : Int) (sa wa da : Option Addr) (sl sc wl wc dl dc : Nat) (la : Option Addr) (lc : Nat) (l : List (Int × Bool)) (hv : LogOf w (.slice la l.length lc) l) (hc : decide (atReaders L a < 0) = true) : Calls Try.prog 15 #[L.v, .int .i64 t, (kd 2 a b ty ms mk ma sa wa da sl sc wl wc dl dc), .slice la l.length lc] w fun e w' => e = .returned (nextV (.inr { err := 1 })) ∧ Below w.heap.size w w' := by
  refine sy_enterF none [rfLog (.slice la l.length lc) l] (by intro f hf; simp at hf; subst hf; exact hv) Try.func15 rfl fun aa S => ?_
  refine sy_run ⟨0, []⟩ 80 S fun bs aa w1 S => ?_
  refine sy_call1 S (rreaders_any L a w1 hok) (by kernel_rfl) fun aa w2 hb S => ?_
  refine sy_run ⟨0, [5]⟩ 80 S fun bs aa w1 S => ?_
  refine sy_reg S fun S => ?_
  refine sy_ops 13 S fun bs aa w1 S => ?_
  refine sy_cast 40 S (congrArg Value.bool hc) (by kernel_rfl) fun S => ?_
  refine sy_run ⟨0, []⟩ 80 S fun bs aa w1 S => ?_
  exact sy_ret S (by kernel_rfl) (by kernel_rfl) fun g => ⟨rfl, below_of_gr g⟩
set_option maxHeartbeats 4000000 in
theorem rnxtb_2 (w : World) (L : Ly) (hok : L.ok) (t : Int) (a b ty ms mk ma : Int) (sa wa da : Option Addr) (sl sc wl wc dl dc : Nat) (la : Option Addr) (lc : Nat) (l : List (Int × Bool)) (hv : LogOf w (.slice la l.length lc) l) (hc : decide (atReaders L a < 0) = false) (hs : decide (atStatus L t < 0) = true) : Calls Try.prog 15 #[L.v, .int .i64 t, (kd 2 a b ty ms mk ma sa wa da sl sc wl wc dl dc), .slice la l.length lc] w fun e w' => e = .returned (nextV (.inr { err := 1 })) ∧ Below w.heap.size w w' := by
  refine sy_enterF none [rfLog (.slice la l.length lc) l] (by intro f hf; simp at hf; subst hf; exact hv) Try.func15 rfl fun aa S => ?_
  refine sy_run ⟨0, []⟩ 80 S fun bs aa w1 S => ?_
  refine sy_call1 S (rreaders_any L a w1 hok) (by kernel_rfl) fun aa w2 hb S => ?_
  refine sy_run ⟨0, [5]⟩ 80 S fun bs aa w1 S => ?_
  refine sy_reg S fun S => ?_
  refine sy_ops 13 S fun bs aa w1 S => ?_
  refine sy_cast 40 S (congrArg Value.bool hc) (by kernel_rfl) fun S => ?_
  refine sy_run ⟨0, []⟩ 80 S fun bs aa w1 S => ?_
  refine sy_call1 S (rstatus_any L t w1 hok) (by kernel_rfl) fun aa w2 hb S => ?_
  refine sy_ops 3 S fun bs aa w1 S => ?_
  refine sy_cond true S hs (by kernel_rfl) fun S => ?_
  refine sy_run ⟨0, []⟩ 80 S fun bs aa w1 S => ?_
  exact sy_ret S (by kernel_rfl) (by kernel_rfl) fun g => ⟨rfl, below_of_gr g⟩
set_option maxHeartbeats 4000000 in
theorem rnxtc_2 (w : World) (L : Ly) (hok : L.ok) (t : Int) (a b ty ms mk ma : Int) (sa wa da : Option Addr) (sl sc wl wc dl dc : Nat) (la : Option Addr) (lc : Nat) (l : List (Int × Bool)) (hv : LogOf w (.slice la l.length lc) l) (hI : ∀ x ∈ l, I64 x.1) (hl : l.length ≤ 1000000) (ht : 0 ≤ t ∧ t ≤ 61) (hc : decide (atReaders L a < 0) = false) (hs : decide (atStatus L t < 0) = false) (x : Ask ⊕ OutD) (hx : runV (fun m => sansT m t) (atReaders L a) l = x) : Calls Try.prog 15 #[L.v, .int .i64 t, (kd 2 a b ty ms mk ma sa wa da sl sc wl wc dl dc), .slice la l.length lc] w fun e w' => e = .returned (nextV x) ∧ Below w.heap.size w w' := by
  have hT : toldX ({ ok := (runP (fun m => !isIn m t) (fun m => sansT m t) (atReaders L a) l).1 }, (runP (fun m => !isIn m t) (fun m => sansT m t) (atReaders L a) l).2) = runV (fun m => sansT m t) (atReaders L a) l := runP_told _ (l.length + 1) l (by omega) fun x _ => has_sans ht x.1
  refine sy_enterF none [rfLog (.slice la l.length lc) l] (by intro f hf; simp at hf; subst hf; exact hv) Try.func15 rfl fun aa S => ?_
  refine sy_run ⟨0, []⟩ 80 S fun bs aa w1 S => ?_
  refine sy_call1 S (rreaders_any L a w1 hok) (by kernel_rfl) fun aa w2 hb S => ?_
  refine sy_run ⟨0, [5]⟩ 80 S fun bs aa w1 S => ?_
  refine sy_reg S fun S => ?_
  refine sy_ops 13 S fun bs aa w1 S => ?_
  refine sy_cast 40 S (congrArg Value.bool hc) (by kernel_rfl) fun S => ?_
  refine sy_run ⟨0, []⟩ 80 S fun bs aa w1 S => ?_
  refine sy_call1 S (rstatus_any L t w1 hok) (by kernel_rfl) fun aa w2 hb S => ?_
  refine sy_ops 3 S fun bs aa w1 S => ?_
  refine sy_cond false S hs (by kernel_rfl) fun S => ?_
  refine sy_run ⟨0, []⟩ 80 S fun bs aa w1 S => ?_
  refine sy_reify 11 4 0 S (by kernel_rfl) fun S => ?_
  refine sy_reify 56 4 0 S (by kernel_rfl) fun S => ?_
  have hC0 := cur_box S 4 (by kernel_rfl) hv (S.fact (f := rfLog (.slice la l.length lc) l) (by simp)) hl
  have hg := own_ge4 S (by kernel_rfl)
  have hnd := own_ne4 S (by kernel_rfl)
  refine sy_less [0, 1, 2, 3] S (by kernel_rfl) (by kernel_rfl) (by kernel_rfl) (by kernel_rfl) fun S => ?_
  refine sy_callG S (Or.inr hg) (X := Unit) (val := fun _ => .bool (runP (fun m => !isIn m t) (fun m => sansT m t) (atReaders L a) l).1) (C := fun _ w' => CurAt w' _ (runP (fun m => !isIn m t) (fun m => sansT m t) (atReaders L a) l).2) ((pout_any (atReaders L a) t _ l hI _ hC0).mono fun e w' h => ⟨(), h⟩) (by kernel_rfl) [] (by simp) (by
    intro i hi he
    have hi4 : i < 4 := by simpa using hi
    refine hnd i hi4 ?_
    rw [← he]
    match i, hi4 with
    | 0, _ => rfl
    | 1, _ => rfl
    | 2, _ => rfl
    | 3, _ => rfl) fun _ aa w hC hgr S => ?_
  generalize hgg : List.getD _ 4 0 = g at hC S
  refine sy_quiet (O := ⟨0, []⟩) 40 S fun aa S => ?_
  cases x with
  | inl o =>
    refine sy_call1 S (by rw [← hx, ← hT]; exact rtold_any w g (runP (fun m => !isIn m t) (fun m => sansT m t) (atReaders L a) l).2 { ok := (runP (fun m => !isIn m t) (fun m => sansT m t) (atReaders L a) l).1 } hC : Calls Try.prog 47 #[.pointer (some ⟨g, 0, none⟩), ({ ok := (runP (fun m => !isIn m t) (fun m => sansT m t) (atReaders L a) l).1 } : OutD).v] w fun e w' => e = .returned (nextV (.inl o)) ∧ Below w.heap.size w w') (by kernel_rfl) fun aa w2 hb S => ?_
    refine sy_run ⟨0, []⟩ 80 S fun bs aa w1 S => ?_
    exact sy_ret S (by kernel_rfl) (by kernel_rfl) fun g => ⟨rfl, below_of_gr g⟩
  | inr o =>
    refine sy_call1 S (by rw [← hx, ← hT]; exact rtold_any w g (runP (fun m => !isIn m t) (fun m => sansT m t) (atReaders L a) l).2 { ok := (runP (fun m => !isIn m t) (fun m => sansT m t) (atReaders L a) l).1 } hC : Calls Try.prog 47 #[.pointer (some ⟨g, 0, none⟩), ({ ok := (runP (fun m => !isIn m t) (fun m => sansT m t) (atReaders L a) l).1 } : OutD).v] w fun e w' => e = .returned (nextV (.inr o)) ∧ Below w.heap.size w w') (by kernel_rfl) fun aa w2 hb S => ?_
    refine sy_run ⟨0, []⟩ 80 S fun bs aa w1 S => ?_
    exact sy_ret S (by kernel_rfl) (by kernel_rfl) fun g => ⟨rfl, below_of_gr g⟩
set_option maxHeartbeats 4000000 in
theorem rnxta_3 (w : World) (L : Ly) (hok : L.ok) (t : Int) (a b ty ms mk ma : Int) (sa wa da : Option Addr) (sl sc wl wc dl dc : Nat) (la : Option Addr) (lc : Nat) (l : List (Int × Bool)) (hv : LogOf w (.slice la l.length lc) l) (hc : decide (atWaiters L a < 0) = true) : Calls Try.prog 15 #[L.v, .int .i64 t, (kd 3 a b ty ms mk ma sa wa da sl sc wl wc dl dc), .slice la l.length lc] w fun e w' => e = .returned (nextV (.inr { err := 1 })) ∧ Below w.heap.size w w' := by
  refine sy_enterF none [rfLog (.slice la l.length lc) l] (by intro f hf; simp at hf; subst hf; exact hv) Try.func15 rfl fun aa S => ?_
  refine sy_run ⟨0, []⟩ 80 S fun bs aa w1 S => ?_
  refine sy_call1 S (rreaders_any L a w1 hok) (by kernel_rfl) fun aa w2 hb S => ?_
  refine sy_run ⟨0, []⟩ 80 S fun bs aa w1 S => ?_
  refine sy_call1 S (rwaiters_any L a w1 hok) (by kernel_rfl) fun aa w2 hb S => ?_
  refine sy_run ⟨0, [5]⟩ 80 S fun bs aa w1 S => ?_
  refine sy_reg S fun S => ?_
  refine sy_ops 13 S fun bs aa w1 S => ?_
  refine sy_cast 40 S (congrArg Value.bool hc) (by kernel_rfl) fun S => ?_
  refine sy_run ⟨0, []⟩ 80 S fun bs aa w1 S => ?_
  exact sy_ret S (by kernel_rfl) (by kernel_rfl) fun g => ⟨rfl, below_of_gr g⟩
set_option maxHeartbeats 4000000 in
theorem rnxtb_3 (w : World) (L : Ly) (hok : L.ok) (t : Int) (a b ty ms mk ma : Int) (sa wa da : Option Addr) (sl sc wl wc dl dc : Nat) (la : Option Addr) (lc : Nat) (l : List (Int × Bool)) (hv : LogOf w (.slice la l.length lc) l) (hc : decide (atWaiters L a < 0) = false) (hs : decide (atStatus L t < 0) = true) : Calls Try.prog 15 #[L.v, .int .i64 t, (kd 3 a b ty ms mk ma sa wa da sl sc wl wc dl dc), .slice la l.length lc] w fun e w' => e = .returned (nextV (.inr { err := 1 })) ∧ Below w.heap.size w w' := by
  refine sy_enterF none [rfLog (.slice la l.length lc) l] (by intro f hf; simp at hf; subst hf; exact hv) Try.func15 rfl fun aa S => ?_
  refine sy_run ⟨0, []⟩ 80 S fun bs aa w1 S => ?_
  refine sy_call1 S (rreaders_any L a w1 hok) (by kernel_rfl) fun aa w2 hb S => ?_
  refine sy_run ⟨0, []⟩ 80 S fun bs aa w1 S => ?_
  refine sy_call1 S (rwaiters_any L a w1 hok) (by kernel_rfl) fun aa w2 hb S => ?_
  refine sy_run ⟨0, [5]⟩ 80 S fun bs aa w1 S => ?_
  refine sy_reg S fun S => ?_
  refine sy_ops 13 S fun bs aa w1 S => ?_
  refine sy_cast 40 S (congrArg Value.bool hc) (by kernel_rfl) fun S => ?_
  refine sy_run ⟨0, []⟩ 80 S fun bs aa w1 S => ?_
  refine sy_call1 S (rstatus_any L t w1 hok) (by kernel_rfl) fun aa w2 hb S => ?_
  refine sy_ops 3 S fun bs aa w1 S => ?_
  refine sy_cond true S hs (by kernel_rfl) fun S => ?_
  refine sy_run ⟨0, []⟩ 80 S fun bs aa w1 S => ?_
  exact sy_ret S (by kernel_rfl) (by kernel_rfl) fun g => ⟨rfl, below_of_gr g⟩
set_option maxHeartbeats 4000000 in
theorem rnxtc_3 (w : World) (L : Ly) (hok : L.ok) (t : Int) (a b ty ms mk ma : Int) (sa wa da : Option Addr) (sl sc wl wc dl dc : Nat) (la : Option Addr) (lc : Nat) (l : List (Int × Bool)) (hv : LogOf w (.slice la l.length lc) l) (hI : ∀ x ∈ l, I64 x.1) (hl : l.length ≤ 1000000) (ht : 0 ≤ t ∧ t ≤ 61) (hc : decide (atWaiters L a < 0) = false) (hs : decide (atStatus L t < 0) = false) (x : Ask ⊕ OutD) (hx : runV (fun m => withT m t) (atWaiters L a) l = x) : Calls Try.prog 15 #[L.v, .int .i64 t, (kd 3 a b ty ms mk ma sa wa da sl sc wl wc dl dc), .slice la l.length lc] w fun e w' => e = .returned (nextV x) ∧ Below w.heap.size w w' := by
  have hT : toldX ({ ok := (runP (fun m => isIn m t) (fun m => withT m t) (atWaiters L a) l).1 }, (runP (fun m => isIn m t) (fun m => withT m t) (atWaiters L a) l).2) = runV (fun m => withT m t) (atWaiters L a) l := runP_told _ (l.length + 1) l (by omega) fun x _ => has_with ht x.1
  refine sy_enterF none [rfLog (.slice la l.length lc) l] (by intro f hf; simp at hf; subst hf; exact hv) Try.func15 rfl fun aa S => ?_
  refine sy_run ⟨0, []⟩ 80 S fun bs aa w1 S => ?_
  refine sy_call1 S (rreaders_any L a w1 hok) (by kernel_rfl) fun aa w2 hb S => ?_
  refine sy_run ⟨0, []⟩ 80 S fun bs aa w1 S => ?_
  refine sy_call1 S (rwaiters_any L a w1 hok) (by kernel_rfl) fun aa w2 hb S => ?_
  refine sy_run ⟨0, [5]⟩ 80 S fun bs aa w1 S => ?_
  refine sy_reg S fun S => ?_
  refine sy_ops 13 S fun bs aa w1 S => ?_
  refine sy_cast 40 S (congrArg Value.bool hc) (by kernel_rfl) fun S => ?_
  refine sy_run ⟨0, []⟩ 80 S fun bs aa w1 S => ?_
  refine sy_call1 S (rstatus_any L t w1 hok) (by kernel_rfl) fun aa w2 hb S => ?_
  refine sy_ops 3 S fun bs aa w1 S => ?_
  refine sy_cond false S hs (by kernel_rfl) fun S => ?_
  refine sy_run ⟨0, []⟩ 80 S fun bs aa w1 S => ?_
  refine sy_reify 11 4 0 S (by kernel_rfl) fun S => ?_
  refine sy_reify 52 4 0 S (by kernel_rfl) fun S => ?_
  have hC0 := cur_box S 4 (by kernel_rfl) hv (S.fact (f := rfLog (.slice la l.length lc) l) (by simp)) hl
  have hg := own_ge4 S (by kernel_rfl)
  have hnd := own_ne4 S (by kernel_rfl)
  refine sy_less [0, 1, 2, 3] S (by kernel_rfl) (by kernel_rfl) (by kernel_rfl) (by kernel_rfl) fun S => ?_
  refine sy_callG S (Or.inr hg) (X := Unit) (val := fun _ => .bool (runP (fun m => isIn m t) (fun m => withT m t) (atWaiters L a) l).1) (C := fun _ w' => CurAt w' _ (runP (fun m => isIn m t) (fun m => withT m t) (atWaiters L a) l).2) ((pput_any (atWaiters L a) t _ l hI _ hC0).mono fun e w' h => ⟨(), h⟩) (by kernel_rfl) [] (by simp) (by
    intro i hi he
    have hi4 : i < 4 := by simpa using hi
    refine hnd i hi4 ?_
    rw [← he]
    match i, hi4 with
    | 0, _ => rfl
    | 1, _ => rfl
    | 2, _ => rfl
    | 3, _ => rfl) fun _ aa w hC hgr S => ?_
  generalize hgg : List.getD _ 4 0 = g at hC S
  refine sy_quiet (O := ⟨0, []⟩) 40 S fun aa S => ?_
  cases x with
  | inl o =>
    refine sy_call1 S (by rw [← hx, ← hT]; exact rtold_any w g (runP (fun m => isIn m t) (fun m => withT m t) (atWaiters L a) l).2 { ok := (runP (fun m => isIn m t) (fun m => withT m t) (atWaiters L a) l).1 } hC : Calls Try.prog 47 #[.pointer (some ⟨g, 0, none⟩), ({ ok := (runP (fun m => isIn m t) (fun m => withT m t) (atWaiters L a) l).1 } : OutD).v] w fun e w' => e = .returned (nextV (.inl o)) ∧ Below w.heap.size w w') (by kernel_rfl) fun aa w2 hb S => ?_
    refine sy_run ⟨0, []⟩ 80 S fun bs aa w1 S => ?_
    exact sy_ret S (by kernel_rfl) (by kernel_rfl) fun g => ⟨rfl, below_of_gr g⟩
  | inr o =>
    refine sy_call1 S (by rw [← hx, ← hT]; exact rtold_any w g (runP (fun m => isIn m t) (fun m => withT m t) (atWaiters L a) l).2 { ok := (runP (fun m => isIn m t) (fun m => withT m t) (atWaiters L a) l).1 } hC : Calls Try.prog 47 #[.pointer (some ⟨g, 0, none⟩), ({ ok := (runP (fun m => isIn m t) (fun m => withT m t) (atWaiters L a) l).1 } : OutD).v] w fun e w' => e = .returned (nextV (.inr o)) ∧ Below w.heap.size w w') (by kernel_rfl) fun aa w2 hb S => ?_
    refine sy_run ⟨0, []⟩ 80 S fun bs aa w1 S => ?_
    exact sy_ret S (by kernel_rfl) (by kernel_rfl) fun g => ⟨rfl, below_of_gr g⟩
set_option maxHeartbeats 4000000 in
theorem rnxta_4 (w : World) (L : Ly) (hok : L.ok) (t : Int) (a b ty ms mk ma : Int) (sa wa da : Option Addr) (sl sc wl wc dl dc : Nat) (la : Option Addr) (lc : Nat) (l : List (Int × Bool)) (hv : LogOf w (.slice la l.length lc) l) (hc : decide (atWaiters L a < 0) = true) : Calls Try.prog 15 #[L.v, .int .i64 t, (kd 4 a b ty ms mk ma sa wa da sl sc wl wc dl dc), .slice la l.length lc] w fun e w' => e = .returned (nextV (.inr { err := 1 })) ∧ Below w.heap.size w w' := by
  refine sy_enterF none [rfLog (.slice la l.length lc) l] (by intro f hf; simp at hf; subst hf; exact hv) Try.func15 rfl fun aa S => ?_
  refine sy_run ⟨0, []⟩ 80 S fun bs aa w1 S => ?_
  refine sy_call1 S (rreaders_any L a w1 hok) (by kernel_rfl) fun aa w2 hb S => ?_
  refine sy_run ⟨0, []⟩ 80 S fun bs aa w1 S => ?_
  refine sy_call1 S (rwaiters_any L a w1 hok) (by kernel_rfl) fun aa w2 hb S => ?_
  refine sy_run ⟨0, [5]⟩ 80 S fun bs aa w1 S => ?_
  refine sy_reg S fun S => ?_
  refine sy_ops 13 S fun bs aa w1 S => ?_
  refine sy_cast 40 S (congrArg Value.bool hc) (by kernel_rfl) fun S => ?_
  refine sy_run ⟨0, []⟩ 80 S fun bs aa w1 S => ?_
  exact sy_ret S (by kernel_rfl) (by kernel_rfl) fun g => ⟨rfl, below_of_gr g⟩
set_option maxHeartbeats 4000000 in
theorem rnxtb_4 (w : World) (L : Ly) (hok : L.ok) (t : Int) (a b ty ms mk ma : Int) (sa wa da : Option Addr) (sl sc wl wc dl dc : Nat) (la : Option Addr) (lc : Nat) (l : List (Int × Bool)) (hv : LogOf w (.slice la l.length lc) l) (hc : decide (atWaiters L a < 0) = false) (hs : decide (atStatus L t < 0) = true) : Calls Try.prog 15 #[L.v, .int .i64 t, (kd 4 a b ty ms mk ma sa wa da sl sc wl wc dl dc), .slice la l.length lc] w fun e w' => e = .returned (nextV (.inr { err := 1 })) ∧ Below w.heap.size w w' := by
  refine sy_enterF none [rfLog (.slice la l.length lc) l] (by intro f hf; simp at hf; subst hf; exact hv) Try.func15 rfl fun aa S => ?_
  refine sy_run ⟨0, []⟩ 80 S fun bs aa w1 S => ?_
  refine sy_call1 S (rreaders_any L a w1 hok) (by kernel_rfl) fun aa w2 hb S => ?_
  refine sy_run ⟨0, []⟩ 80 S fun bs aa w1 S => ?_
  refine sy_call1 S (rwaiters_any L a w1 hok) (by kernel_rfl) fun aa w2 hb S => ?_
  refine sy_run ⟨0, [5]⟩ 80 S fun bs aa w1 S => ?_
  refine sy_reg S fun S => ?_
  refine sy_ops 13 S fun bs aa w1 S => ?_
  refine sy_cast 40 S (congrArg Value.bool hc) (by kernel_rfl) fun S => ?_
  refine sy_run ⟨0, []⟩ 80 S fun bs aa w1 S => ?_
  refine sy_call1 S (rstatus_any L t w1 hok) (by kernel_rfl) fun aa w2 hb S => ?_
  refine sy_ops 3 S fun bs aa w1 S => ?_
  refine sy_cond true S hs (by kernel_rfl) fun S => ?_
  refine sy_run ⟨0, []⟩ 80 S fun bs aa w1 S => ?_
  exact sy_ret S (by kernel_rfl) (by kernel_rfl) fun g => ⟨rfl, below_of_gr g⟩
set_option maxHeartbeats 4000000 in
theorem rnxtc_4 (w : World) (L : Ly) (hok : L.ok) (t : Int) (a b ty ms mk ma : Int) (sa wa da : Option Addr) (sl sc wl wc dl dc : Nat) (la : Option Addr) (lc : Nat) (l : List (Int × Bool)) (hv : LogOf w (.slice la l.length lc) l) (hI : ∀ x ∈ l, I64 x.1) (hl : l.length ≤ 1000000) (ht : 0 ≤ t ∧ t ≤ 61) (hc : decide (atWaiters L a < 0) = false) (hs : decide (atStatus L t < 0) = false) (x : Ask ⊕ OutD) (hx : runV (fun m => sansT m t) (atWaiters L a) l = x) : Calls Try.prog 15 #[L.v, .int .i64 t, (kd 4 a b ty ms mk ma sa wa da sl sc wl wc dl dc), .slice la l.length lc] w fun e w' => e = .returned (nextV x) ∧ Below w.heap.size w w' := by
  have hT : toldX ({ ok := (runP (fun m => !isIn m t) (fun m => sansT m t) (atWaiters L a) l).1 }, (runP (fun m => !isIn m t) (fun m => sansT m t) (atWaiters L a) l).2) = runV (fun m => sansT m t) (atWaiters L a) l := runP_told _ (l.length + 1) l (by omega) fun x _ => has_sans ht x.1
  refine sy_enterF none [rfLog (.slice la l.length lc) l] (by intro f hf; simp at hf; subst hf; exact hv) Try.func15 rfl fun aa S => ?_
  refine sy_run ⟨0, []⟩ 80 S fun bs aa w1 S => ?_
  refine sy_call1 S (rreaders_any L a w1 hok) (by kernel_rfl) fun aa w2 hb S => ?_
  refine sy_run ⟨0, []⟩ 80 S fun bs aa w1 S => ?_
  refine sy_call1 S (rwaiters_any L a w1 hok) (by kernel_rfl) fun aa w2 hb S => ?_
  refine sy_run ⟨0, [5]⟩ 80 S fun bs aa w1 S => ?_
  refine sy_reg S fun S => ?_
  refine sy_ops 13 S fun bs aa w1 S => ?_
  refine sy_cast 40 S (congrArg Value.bool hc) (by kernel_rfl) fun S => ?_
  refine sy_run ⟨0, []⟩ 80 S fun bs aa w1 S => ?_
  refine sy_call1 S (rstatus_any L t w1 hok) (by kernel_rfl) fun aa w2 hb S => ?_
  refine sy_ops 3 S fun bs aa w1 S => ?_
  refine sy_cond false S hs (by kernel_rfl) fun S => ?_
  refine sy_run ⟨0, []⟩ 80 S fun bs aa w1 S => ?_
  refine sy_reify 11 4 0 S (by kernel_rfl) fun S => ?_
  refine sy_reify 56 4 0 S (by kernel_rfl) fun S => ?_
  have hC0 := cur_box S 4 (by kernel_rfl) hv (S.fact (f := rfLog (.slice la l.length lc) l) (by simp)) hl
  have hg := own_ge4 S (by kernel_rfl)
  have hnd := own_ne4 S (by kernel_rfl)
  refine sy_less [0, 1, 2, 3] S (by kernel_rfl) (by kernel_rfl) (by kernel_rfl) (by kernel_rfl) fun S => ?_
  refine sy_callG S (Or.inr hg) (X := Unit) (val := fun _ => .bool (runP (fun m => !isIn m t) (fun m => sansT m t) (atWaiters L a) l).1) (C := fun _ w' => CurAt w' _ (runP (fun m => !isIn m t) (fun m => sansT m t) (atWaiters L a) l).2) ((pout_any (atWaiters L a) t _ l hI _ hC0).mono fun e w' h => ⟨(), h⟩) (by kernel_rfl) [] (by simp) (by
    intro i hi he
    have hi4 : i < 4 := by simpa using hi
    refine hnd i hi4 ?_
    rw [← he]
    match i, hi4 with
    | 0, _ => rfl
    | 1, _ => rfl
    | 2, _ => rfl
    | 3, _ => rfl) fun _ aa w hC hgr S => ?_
  generalize hgg : List.getD _ 4 0 = g at hC S
  refine sy_quiet (O := ⟨0, []⟩) 40 S fun aa S => ?_
  cases x with
  | inl o =>
    refine sy_call1 S (by rw [← hx, ← hT]; exact rtold_any w g (runP (fun m => !isIn m t) (fun m => sansT m t) (atWaiters L a) l).2 { ok := (runP (fun m => !isIn m t) (fun m => sansT m t) (atWaiters L a) l).1 } hC : Calls Try.prog 47 #[.pointer (some ⟨g, 0, none⟩), ({ ok := (runP (fun m => !isIn m t) (fun m => sansT m t) (atWaiters L a) l).1 } : OutD).v] w fun e w' => e = .returned (nextV (.inl o)) ∧ Below w.heap.size w w') (by kernel_rfl) fun aa w2 hb S => ?_
    refine sy_run ⟨0, []⟩ 80 S fun bs aa w1 S => ?_
    exact sy_ret S (by kernel_rfl) (by kernel_rfl) fun g => ⟨rfl, below_of_gr g⟩
  | inr o =>
    refine sy_call1 S (by rw [← hx, ← hT]; exact rtold_any w g (runP (fun m => !isIn m t) (fun m => sansT m t) (atWaiters L a) l).2 { ok := (runP (fun m => !isIn m t) (fun m => sansT m t) (atWaiters L a) l).1 } hC : Calls Try.prog 47 #[.pointer (some ⟨g, 0, none⟩), ({ ok := (runP (fun m => !isIn m t) (fun m => sansT m t) (atWaiters L a) l).1 } : OutD).v] w fun e w' => e = .returned (nextV (.inr o)) ∧ Below w.heap.size w w') (by kernel_rfl) fun aa w2 hb S => ?_
    refine sy_run ⟨0, []⟩ 80 S fun bs aa w1 S => ?_
    exact sy_ret S (by kernel_rfl) (by kernel_rfl) fun g => ⟨rfl, below_of_gr g⟩
set_option maxHeartbeats 4000000 in
theorem rnxt_lo (w : World) (L : Ly) (hok : L.ok) (t : Int) (a b ty ms mk ma : Int) (sa wa da : Option Addr) (sl sc wl wc dl dc : Nat) (la : Option Addr) (lc : Nat) (l : List (Int × Bool)) (hv : LogOf w (.slice la l.length lc) l) (k : Int) (h2 : decide (2 < k) = false) (h1 : decide (k < 1) = true) : Calls Try.prog 15 #[L.v, .int .i64 t, (kd k a b ty ms mk ma sa wa da sl sc wl wc dl dc), .slice la l.length lc] w fun e w' => e = .returned (nextV (.inr { err := 1 })) ∧ Below w.heap.size w w' := by
  refine sy_enterF none [rfLog (.slice la l.length lc) l] (by intro f hf; simp at hf; subst hf; exact hv) Try.func15 rfl fun aa S => ?_
  refine sy_run ⟨0, []⟩ 80 S fun bs aa w1 S => ?_
  refine sy_call1 S (rreaders_any L a w1 hok) (by kernel_rfl) fun aa w2 hb S => ?_
  refine sy_run ⟨0, [3]⟩ 80 S fun bs aa w1 S => ?_
  refine sy_reg S fun S => ?_
  refine sy_ops 4 S fun bs aa w1 S => ?_
  refine sy_cond false S h2 (by kernel_rfl) fun S => ?_
  refine sy_run ⟨0, [5]⟩ 80 S fun bs aa w1 S => ?_
  refine sy_reg S fun S => ?_
  refine sy_ops 4 S fun bs aa w1 S => ?_
  refine sy_cast 31 S (congrArg Value.bool h1) (by kernel_rfl) fun S => ?_
  refine sy_run ⟨0, []⟩ 80 S fun bs aa w1 S => ?_
  exact sy_ret S (by kernel_rfl) (by kernel_rfl) fun g => ⟨rfl, below_of_gr g⟩
set_option maxHeartbeats 4000000 in
theorem rnxt_hi (w : World) (L : Ly) (hok : L.ok) (t : Int) (a b ty ms mk ma : Int) (sa wa da : Option Addr) (sl sc wl wc dl dc : Nat) (la : Option Addr) (lc : Nat) (l : List (Int × Bool)) (hv : LogOf w (.slice la l.length lc) l) (k : Int) (h2 : decide (2 < k) = true) (h1 : decide (k < 1) = false) (h4 : decide (4 < k) = true) : Calls Try.prog 15 #[L.v, .int .i64 t, (kd k a b ty ms mk ma sa wa da sl sc wl wc dl dc), .slice la l.length lc] w fun e w' => e = .returned (nextV (.inr { err := 1 })) ∧ Below w.heap.size w w' := by
  refine sy_enterF none [rfLog (.slice la l.length lc) l] (by intro f hf; simp at hf; subst hf; exact hv) Try.func15 rfl fun aa S => ?_
  refine sy_run ⟨0, []⟩ 80 S fun bs aa w1 S => ?_
  refine sy_call1 S (rreaders_any L a w1 hok) (by kernel_rfl) fun aa w2 hb S => ?_
  refine sy_run ⟨0, [3]⟩ 80 S fun bs aa w1 S => ?_
  refine sy_reg S fun S => ?_
  refine sy_ops 4 S fun bs aa w1 S => ?_
  refine sy_cond true S h2 (by kernel_rfl) fun S => ?_
  refine sy_run ⟨0, []⟩ 80 S fun bs aa w1 S => ?_
  refine sy_call1 S (rwaiters_any L a w1 hok) (by kernel_rfl) fun aa w2 hb S => ?_
  refine sy_run ⟨0, [5]⟩ 80 S fun bs aa w1 S => ?_
  refine sy_reg S fun S => ?_
  refine sy_ops 4 S fun bs aa w1 S => ?_
  refine sy_cast 31 S (congrArg Value.bool h1) (by kernel_rfl) fun S => ?_
  refine sy_ops 5 S fun bs aa w1 S => ?_
  refine sy_cast 36 S (congrArg Value.bool h4) (by kernel_rfl) fun S => ?_
  refine sy_run ⟨0, []⟩ 80 S fun bs aa w1 S => ?_
  exact sy_ret S (by kernel_rfl) (by kernel_rfl) fun g => ⟨rfl, below_of_gr g⟩

/-- Must reads be visible? -/
def needsV (M A : Int) : Bool := if M = 1 then true else if M = 3 then decide (2 ≤ A) else false
set_option maxHeartbeats 4000000 in
theorem needs_any1 (w : World) (L : Ly) (s k A : Int) (h1 : decide (L.c.m = 1) = true) : Calls Try.prog 16 #[L.v, .agg #[.int .i64 s, .int .i64 k, .int .i64 A]] w fun e w' => e = .returned (.bool true) ∧ Below w.heap.size w w' := by
  refine sy_enter Try.func16 rfl fun aa S => ?_
  refine sy_run ⟨0, [2]⟩ 80 S fun bs aa w1 S => ?_
  refine sy_reg S fun S => ?_
  refine sy_ops 3 S fun bs aa w1 S => ?_
  refine sy_cond true S h1 (by kernel_rfl) fun S => ?_
  refine sy_run ⟨0, []⟩ 80 S fun bs aa w1 S => ?_
  exact sy_ret S (by kernel_rfl) (by kernel_rfl) fun g => ⟨rfl, below_of_gr g⟩
set_option maxHeartbeats 4000000 in
theorem needs_any3 (w : World) (L : Ly) (s k A : Int) (h1 : decide (L.c.m = 1) = false) (h3 : decide (L.c.m = 3) = true) : Calls Try.prog 16 #[L.v, .agg #[.int .i64 s, .int .i64 k, .int .i64 A]] w fun e w' => e = .returned (.bool (decide (A ≥ 2))) ∧ Below w.heap.size w w' := by
  refine sy_enter Try.func16 rfl fun aa S => ?_
  refine sy_run ⟨0, [2]⟩ 80 S fun bs aa w1 S => ?_
  refine sy_reg S fun S => ?_
  refine sy_ops 3 S fun bs aa w1 S => ?_
  refine sy_cond false S h1 (by kernel_rfl) fun S => ?_
  refine sy_run ⟨0, [4]⟩ 80 S fun bs aa w1 S => ?_
  refine sy_reg S fun S => ?_
  refine sy_ops 3 S fun bs aa w1 S => ?_
  refine sy_cond true S h3 (by kernel_rfl) fun S => ?_
  refine sy_run ⟨0, []⟩ 80 S fun bs aa w1 S => ?_
  exact sy_ret S (by kernel_rfl) (by kernel_rfl) fun g => ⟨rfl, below_of_gr g⟩
set_option maxHeartbeats 4000000 in
theorem needs_any0 (w : World) (L : Ly) (s k A : Int) (h1 : decide (L.c.m = 1) = false) (h3 : decide (L.c.m = 3) = false) : Calls Try.prog 16 #[L.v, .agg #[.int .i64 s, .int .i64 k, .int .i64 A]] w fun e w' => e = .returned (.bool false) ∧ Below w.heap.size w w' := by
  refine sy_enter Try.func16 rfl fun aa S => ?_
  refine sy_run ⟨0, [2]⟩ 80 S fun bs aa w1 S => ?_
  refine sy_reg S fun S => ?_
  refine sy_ops 3 S fun bs aa w1 S => ?_
  refine sy_cond false S h1 (by kernel_rfl) fun S => ?_
  refine sy_run ⟨0, [4]⟩ 80 S fun bs aa w1 S => ?_
  refine sy_reg S fun S => ?_
  refine sy_ops 3 S fun bs aa w1 S => ?_
  refine sy_cond false S h3 (by kernel_rfl) fun S => ?_
  refine sy_run ⟨0, []⟩ 80 S fun bs aa w1 S => ?_
  exact sy_ret S (by kernel_rfl) (by kernel_rfl) fun g => ⟨rfl, below_of_gr g⟩
theorem needs_any (w : World) (L : Ly) (s k A : Int) : Calls Try.prog 16 #[L.v, .agg #[.int .i64 s, .int .i64 k, .int .i64 A]] w fun e w' => e = .returned (.bool (needsV L.c.m A)) ∧ Below w.heap.size w w' := by
  unfold needsV
  by_cases h1 : L.c.m = 1
  · rw [if_pos h1]; exact needs_any1 w L s k A (decide_eq_true h1)
  · rw [if_neg h1]
    by_cases h3 : L.c.m = 3
    · rw [if_pos h3, show decide (2 ≤ A) = decide (A ≥ 2) by simp]; exact needs_any3 w L s k A (decide_eq_false h1) (decide_eq_true h3)
    · rw [if_neg h3]; exact needs_any0 w L s k A (decide_eq_false h1) (decide_eq_false h3)
set_option maxHeartbeats 4000000 in
theorem rneeds_any1 (w : World) (L : Ly) (s k A : Int) (h1 : decide (L.c.m = 1) = true) : Calls Try.prog 17 #[L.v, .agg #[.int .i64 s, .int .i64 k, .int .i64 A]] w fun e w' => e = .returned (.bool true) ∧ Below w.heap.size w w' := by
  refine sy_enter Try.func17 rfl fun aa S => ?_
  refine sy_run ⟨0, [1]⟩ 80 S fun bs aa w1 S => ?_
  refine sy_reg S fun S => ?_
  refine sy_ops 5 S fun bs aa w1 S => ?_
  refine sy_cond true S h1 (by kernel_rfl) fun S => ?_
  refine sy_run ⟨0, []⟩ 80 S fun bs aa w1 S => ?_
  exact sy_ret S (by kernel_rfl) (by kernel_rfl) fun g => ⟨rfl, below_of_gr g⟩
set_option maxHeartbeats 4000000 in
theorem rneeds_any3 (w : World) (L : Ly) (s k A : Int) (h1 : decide (L.c.m = 1) = false) (h3 : decide (L.c.m = 3) = true) : Calls Try.prog 17 #[L.v, .agg #[.int .i64 s, .int .i64 k, .int .i64 A]] w fun e w' => e = .returned (.bool (decide (A > 1))) ∧ Below w.heap.size w w' := by
  refine sy_enter Try.func17 rfl fun aa S => ?_
  refine sy_run ⟨0, [1]⟩ 80 S fun bs aa w1 S => ?_
  refine sy_reg S fun S => ?_
  refine sy_ops 5 S fun bs aa w1 S => ?_
  refine sy_cond false S h1 (by kernel_rfl) fun S => ?_
  refine sy_run ⟨0, [3]⟩ 80 S fun bs aa w1 S => ?_
  refine sy_reg S fun S => ?_
  refine sy_ops 5 S fun bs aa w1 S => ?_
  refine sy_cast 13 S (congrArg Value.bool h3) (by kernel_rfl) fun S => ?_
  refine sy_run ⟨0, []⟩ 80 S fun bs aa w1 S => ?_
  exact sy_ret S (by kernel_rfl) (by kernel_rfl) fun g => ⟨rfl, below_of_gr g⟩
set_option maxHeartbeats 4000000 in
theorem rneeds_any0 (w : World) (L : Ly) (s k A : Int) (h1 : decide (L.c.m = 1) = false) (h3 : decide (L.c.m = 3) = false) : Calls Try.prog 17 #[L.v, .agg #[.int .i64 s, .int .i64 k, .int .i64 A]] w fun e w' => e = .returned (.bool false) ∧ Below w.heap.size w w' := by
  refine sy_enter Try.func17 rfl fun aa S => ?_
  refine sy_run ⟨0, [1]⟩ 80 S fun bs aa w1 S => ?_
  refine sy_reg S fun S => ?_
  refine sy_ops 5 S fun bs aa w1 S => ?_
  refine sy_cond false S h1 (by kernel_rfl) fun S => ?_
  refine sy_run ⟨0, [3]⟩ 80 S fun bs aa w1 S => ?_
  refine sy_reg S fun S => ?_
  refine sy_ops 5 S fun bs aa w1 S => ?_
  refine sy_cast 13 S (congrArg Value.bool h3) (by kernel_rfl) fun S => ?_
  refine sy_run ⟨0, []⟩ 80 S fun bs aa w1 S => ?_
  exact sy_ret S (by kernel_rfl) (by kernel_rfl) fun g => ⟨rfl, below_of_gr g⟩
theorem rneeds_any (w : World) (L : Ly) (s k A : Int) : Calls Try.prog 17 #[L.v, .agg #[.int .i64 s, .int .i64 k, .int .i64 A]] w fun e w' => e = .returned (.bool (needsV L.c.m A)) ∧ Below w.heap.size w w' := by
  unfold needsV
  by_cases h1 : L.c.m = 1
  · rw [if_pos h1]; exact rneeds_any1 w L s k A (decide_eq_true h1)
  · rw [if_neg h1]
    by_cases h3 : L.c.m = 3
    · rw [if_pos h3, show decide (2 ≤ A) = decide (A > 1) by simp; omega]; exact rneeds_any3 w L s k A (decide_eq_false h1) (decide_eq_true h3)
    · rw [if_neg h3]; exact rneeds_any0 w L s k A (decide_eq_false h1) (decide_eq_false h3)
end Go.Proofs.Ytmjfnlangebhlaa
