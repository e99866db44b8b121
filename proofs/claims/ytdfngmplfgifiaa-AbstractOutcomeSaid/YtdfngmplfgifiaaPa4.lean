/-
  Merged: MgrA, MgrB, AbsB, AbsM
-/
import Derived.Test.YtdfngmplfgifiaaRows
import Derived.Test.YtdfngmplfgifiaaPa1
import Derived.Test.YtdfngmplfgifiaaPa3
import Derived.WalkKit
import Derived.Deep.RegionHeld3
import Derived.IntWalk
import Derived.Lib.Hide
import Derived.Test.YtdfngmplfgifiaaPa2
import Derived.WalkLawsBesides

/-
  Layer 17: the contention managers' choice, program and reference.
-/
namespace Go.Proofs.Ytdfngmplfgifiaa
set_option linter.unusedVariables false
set_option maxRecDepth 100000
set_option maxHeartbeats 2000000
open Go.ChangeShapes Go.WideShapes Go.ChangeAt Go.RowKit

/-- A contender: timestamp, karma, aborts. -/
structure Ct where
  s : Int := 0
  k : Int := 0
  a : Int := 0
def Ct.v (c : Ct) : Value := .agg #[.int .i64 c.s, .int .i64 c.k, .int .i64 c.a]
def karmaB (m o : Ct) : Bool := if m.k = o.k then decide (m.s < o.s) else decide (o.k < m.k)
def mixedB (m o : Ct) : Bool := decide (2 ≤ m.a) && decide (m.s < o.s)
def ahead (kind : Int) (m o : Ct) : Bool := if kind = 1 then decide (m.s < o.s) else if kind = 2 then karmaB m o else if kind = 3 then mixedB m o else false
def chooseD (kind : Int) (m o : Ct) : Int := if ahead kind m o = true then 2 else 1

theorem ahead_1 (m o : Ct) : ahead 1 m o = decide (m.s < o.s) := rfl
theorem ahead_2 (m o : Ct) : ahead 2 m o = karmaB m o := rfl
theorem ahead_3 (m o : Ct) : ahead 3 m o = mixedB m o := rfl
theorem ahead_0 {kind : Int} (m o : Ct) (h1 : ¬kind = 1) (h2 : ¬kind = 2) (h3 : ¬kind = 3) : ahead kind m o = false := by unfold ahead; rw [if_neg h1, if_neg h2, if_neg h3]
theorem chooseD_t {kind : Int} {m o : Ct} (h : ahead kind m o = true) : chooseD kind m o = 2 := by unfold chooseD; rw [if_pos h]
theorem chooseD_f {kind : Int} {m o : Ct} (h : ahead kind m o = false) : chooseD kind m o = 1 := by unfold chooseD; rw [if_neg (by rw [h]; simp)]
theorem below2 (w : World) (a b : Obj) : Below w.heap.size w ((w.alloc a).alloc b) := below_alloc2 (Below.refl _ _)
theorem timid_any (m o : Ct) (w : World) : Calls Try.prog 90 #[m.v, o.v] w fun e w' => e = .returned (.bool false) ∧ Below w.heap.size w w' := by
  unfold Ct.v
  go_enter Try.func90, Try.ntmps90
  go_wp2
  go_ret
  exact ⟨rfl, below2 _ _ _⟩
theorem greedy_any (m o : Ct) (w : World) : Calls Try.prog 91 #[m.v, o.v] w fun e w' => e = .returned (.bool (decide (m.s < o.s))) ∧ Below w.heap.size w w' := by
  unfold Ct.v
  go_enter Try.func91, Try.ntmps91
  go_wp2
  go_ret
  exact ⟨rfl, below2 _ _ _⟩
theorem karma_eq (m o : Ct) (w : World) (h : m.k = o.k) : Calls Try.prog 92 #[m.v, o.v] w fun e w' => e = .returned (.bool (decide (m.s < o.s))) ∧ Below w.heap.size w w' := by
  have HG := Lib.hid (greedy_any m o)
  unfold Ct.v at HG ⊢
  have hd : (m.k == o.k) = true := by simp [h]
  clear h
  go_enter Try.func92, Try.ntmps92
  go_wp2_with (first | (with_reducible refine (HG.out _).mono ?_; rintro e w1 ⟨rfl, hb⟩))
  go_ret
  exact ⟨rfl, below_alloc2 hb⟩
theorem karma_ne (m o : Ct) (w : World) (h : ¬m.k = o.k) : Calls Try.prog 92 #[m.v, o.v] w fun e w' => e = .returned (.bool (decide (o.k < m.k))) ∧ Below w.heap.size w w' := by
  unfold Ct.v
  have hd : (m.k == o.k) = false := by simp [h]
  clear h
  go_enter Try.func92, Try.ntmps92
  go_wp2
  go_ret
  exact ⟨rfl, below2 _ _ _⟩
theorem karma_any17 (m o : Ct) (w : World) : Calls Try.prog 92 #[m.v, o.v] w fun e w' => e = .returned (.bool (karmaB m o)) ∧ Below w.heap.size w w' := by
  unfold karmaB
  by_cases h : m.k = o.k
  · rw [if_pos h]; exact karma_eq m o w h
  · rw [if_neg h]; exact karma_ne m o w h
theorem mixed_any (m o : Ct) (w : World) : Calls Try.prog 93 #[m.v, o.v] w fun e w' => e = .returned (.bool (mixedB m o)) ∧ Below w.heap.size w w' := by
  unfold mixedB
  have HG := Lib.hid (greedy_any m o)
  unfold Ct.v at HG ⊢
  by_cases h : 2 ≤ m.a
  · have hd : decide (2 ≤ m.a) = true := by simp [h]
    rw [hd, Bool.true_and]
    clear hd
    go_enter Try.func93, Try.ntmps93
    go_wp2_with (first | (with_reducible refine (HG.out _).mono ?_; rintro e w1 ⟨rfl, hb⟩))
    go_ret
    exact ⟨rfl, below_alloc2 hb⟩
  · have hd : decide (2 ≤ m.a) = false := by simp [h]
    rw [hd, Bool.false_and]
    have h2 : m.a < 2 := by omega
    clear h
    go_enter Try.func93, Try.ntmps93
    go_wp2
    go_ret
    exact ⟨rfl, below2 _ _ _⟩

theorem choose_0f (m o : Ct) (w : World) (HP : ∀ w, Calls Try.prog 90 #[m.v, o.v] w fun e w' => e = .returned (.bool false) ∧ Below w.heap.size w w') : Calls Try.prog 82 #[.int .i64 0, m.v, o.v] w fun e w' => e = .returned (.int .i64 1) ∧ Below w.heap.size w w' := by
  have hst : ∀ (fn : Fn) (f c : Array Value) (a : Addr) (w : World), (store a (.func fn f c)).run Try.prog w = stored Try.prog w a (.func fn f c) .plain := fun _ _ _ _ _ => run_store _ _ _ _ _ rfl
  replace HP := Lib.hid HP
  unfold Ct.v at HP ⊢
  go_enter Try.func82, Try.ntmps82
  go_wp2_with fail
  have HW := Lib.hid (below_alloc2 (below_alloc1 (Below.refl (World.heap (((w.alloc (.cells #[.int .i64 m.s, .int .i64 m.k, .int .i64 m.a] 27)).alloc (.cells #[.int .i64 o.s, .int .i64 o.k, .int .i64 o.a] 27)).alloc (.cells #[.func (.func 90) #[] #[], .func (.func 91) #[] #[], .func (.func 92) #[] #[], .func (.func 93) #[] #[]] 136))).size (((w.alloc (.cells #[.int .i64 m.s, .int .i64 m.k, .int .i64 m.a] 27)).alloc (.cells #[.int .i64 o.s, .int .i64 o.k, .int .i64 o.a] 27)).alloc (.cells #[.func (.func 90) #[] #[], .func (.func 91) #[] #[], .func (.func 92) #[] #[], .func (.func 93) #[] #[]] 136)))))
  refine wp_region_held_drew (S := fun W => W.cell? ⟨w.heap.size, 0, none⟩ = some (.int .i64 m.s) ∧ W.cell? ⟨w.heap.size, 1, none⟩ = some (.int .i64 m.k) ∧ W.cell? ⟨w.heap.size, 2, none⟩ = some (.int .i64 m.a) ∧ W.cell? ⟨w.heap.size + 1, 0, none⟩ = some (.int .i64 o.s) ∧ W.cell? ⟨w.heap.size + 1, 1, none⟩ = some (.int .i64 o.k) ∧ W.cell? ⟨w.heap.size + 1, 2, none⟩ = some (.int .i64 o.a) ∧ W.cell? ⟨w.heap.size + 1 + 1, 0, none⟩ = some (.func (.func 90) #[] #[]) ∧ W.cell? ⟨w.heap.size + 1 + 1, 1, none⟩ = some (.func (.func 91) #[] #[]) ∧ W.cell? ⟨w.heap.size + 1 + 1, 2, none⟩ = some (.func (.func 92) #[] #[]) ∧ W.cell? ⟨w.heap.size + 1 + 1, 3, none⟩ = some (.func (.func 93) #[] #[])) (by kernel_rfl) ?_ (fun hHeld => ?_)
  · (try dsimp only); exact ⟨by first | assumption | go_simp, by first | assumption | go_simp, by first | assumption | go_simp, by first | assumption | go_simp, by first | assumption | go_simp, by first | assumption | go_simp, by first | assumption | go_simp, by first | assumption | go_simp, by first | assumption | go_simp, by first | assumption | go_simp⟩
  replace HW := Lib.hid (below_drews HW.out 1)
  refine tkA 0 (by kernel_rfl) (by assumption) ⟨_, _, ?_, rfl, rfl, ?_, fun _ _ _ h => h, ?_⟩; rotate_left; · intro w hSw; (try dsimp only at hSw); go_simp; (try with_reducible rfl)
  (try simp only [Act.put, List.setIfInBounds_toArray, List.set_cons_zero, List.set_cons_succ])
  refine tkA 1 (by kernel_rfl) (by assumption) ⟨_, _, ?_, rfl, rfl, ?_, fun _ _ _ h => h, ?_⟩; rotate_left; · intro w hSw; (try dsimp only at hSw); go_simp; (try with_reducible rfl)
  (try simp only [Act.put, List.setIfInBounds_toArray, List.set_cons_zero, List.set_cons_succ])
  refine tkA 2 (by kernel_rfl) (by assumption) ⟨_, _, ?_, rfl, rfl, ?_, fun _ _ _ h => h, ?_⟩; rotate_left; · intro w hSw; (try dsimp only at hSw); go_simp; (try with_reducible rfl)
  (try simp only [Act.put, List.setIfInBounds_toArray, List.set_cons_zero, List.set_cons_succ])
  first | (refine tkA 3 (by kernel_rfl) (by assumption) ⟨_, _, ?_, rfl, rfl, ?_, fun _ _ _ h => h, ?_⟩; rotate_left; · intro w hSw; (try dsimp only at hSw); go_simp; (try with_reducible rfl)) | refine tkB 3 (by kernel_rfl) (by assumption) ⟨_, _, rfl, rfl, fun _ _ _ h => h, ?_⟩
  (try simp only [Act.put, List.setIfInBounds_toArray, List.set_cons_zero, List.set_cons_succ])
  first | (refine tkA 4 (by kernel_rfl) (by assumption) ⟨_, _, ?_, rfl, rfl, ?_, fun _ _ _ h => h, ?_⟩; rotate_left; · intro w hSw; (try dsimp only at hSw); go_simp; (try with_reducible rfl)) | refine tkB 4 (by kernel_rfl) (by assumption) ⟨_, _, rfl, rfl, fun _ _ _ h => h, ?_⟩
  (try simp only [Act.put, List.setIfInBounds_toArray, List.set_cons_zero, List.set_cons_succ])
  refine tkA 5 (by kernel_rfl) (by assumption) ⟨_, _, ?_, rfl, rfl, ?_, fun _ _ _ h => h, ?_⟩; rotate_left; · intro w hSw; (try dsimp only at hSw); go_simp; (try with_reducible rfl)
  (try simp only [Act.put, List.setIfInBounds_toArray, List.set_cons_zero, List.set_cons_succ])
  refine tkA 6 (by kernel_rfl) (by assumption) ⟨_, _, ?_, rfl, rfl, ?_, fun _ _ _ h => h, ?_⟩; rotate_left; · intro w hSw; (try dsimp only at hSw); go_simp; (try with_reducible rfl)
  (try simp only [Act.put, List.setIfInBounds_toArray, List.set_cons_zero, List.set_cons_succ])
  first | (refine tkA 7 (by kernel_rfl) (by assumption) ⟨_, _, ?_, rfl, rfl, ?_, fun _ _ _ h => h, ?_⟩; rotate_left; · intro w hSw; (try dsimp only at hSw); go_simp; (try with_reducible rfl)) | refine tkB 7 (by kernel_rfl) (by assumption) ⟨_, _, rfl, rfl, fun _ _ _ h => h, ?_⟩
  (try simp only [Act.put, List.setIfInBounds_toArray, List.set_cons_zero, List.set_cons_succ])
  first | (refine tkA 8 (by kernel_rfl) (by assumption) ⟨_, _, ?_, rfl, rfl, ?_, fun _ _ _ h => h, ?_⟩; rotate_left; · intro w hSw; (try dsimp only at hSw); go_simp; (try with_reducible rfl)) | refine tkB 8 (by kernel_rfl) (by assumption) ⟨_, _, rfl, rfl, fun _ _ _ h => h, ?_⟩
  (try simp only [Act.put, List.setIfInBounds_toArray, List.set_cons_zero, List.set_cons_succ])
  first | (refine tkA 9 (by kernel_rfl) (by assumption) ⟨_, _, ?_, rfl, rfl, ?_, fun _ _ _ h => h, ?_⟩; rotate_left; · intro w hSw; (try dsimp only at hSw); go_simp; (try with_reducible rfl)) | refine tkB 9 (by kernel_rfl) (by assumption) ⟨_, _, rfl, rfl, fun _ _ _ h => h, ?_⟩
  (try simp only [Act.put, List.setIfInBounds_toArray, List.set_cons_zero, List.set_cons_succ])
  first | (refine tkA 10 (by kernel_rfl) (by assumption) ⟨_, _, ?_, rfl, rfl, ?_, fun _ _ _ h => h, ?_⟩; rotate_left; · intro w hSw; (try dsimp only at hSw); go_simp; (try with_reducible rfl)) | refine tkB 10 (by kernel_rfl) (by assumption) ⟨_, _, rfl, rfl, fun _ _ _ h => h, ?_⟩
  (try simp only [Act.put, List.setIfInBounds_toArray, List.set_cons_zero, List.set_cons_succ])
  first | (refine tkA 11 (by kernel_rfl) (by assumption) ⟨_, _, ?_, rfl, rfl, ?_, fun _ _ _ h => h, ?_⟩; rotate_left; · intro w hSw; (try dsimp only at hSw); go_simp; (try with_reducible rfl)) | refine tkB 11 (by kernel_rfl) (by assumption) ⟨_, _, rfl, rfl, fun _ _ _ h => h, ?_⟩
  (try simp only [Act.put, List.setIfInBounds_toArray, List.set_cons_zero, List.set_cons_succ])
  refine wpAnyH_ready (rs := [12]) (by kernel_rfl) (by simp) ?_
  refine AllReadyH.cons (o := ?oi1) ?hi1 (fun K hK => ?rest1) AllReadyH.nil
  (case hi1 => (simp only [List.getElem?_toArray, List.getElem?_cons_succ, List.getElem?_cons_zero]; rfl))
  obtain ⟨s0, s1, s2, s3, s4, s5, s6, s7, s8, s9⟩ := hHeld
  go_simp
  ((with_reducible refine (HP.out _).mono ?_); rintro e wx1 ⟨rfl, hb⟩)
  replace HW := Lib.hid (below_step HW.out hb)
  refine hK.out _ _ ?_ (fun hHeld => ?_)
  · (try dsimp only); exact ⟨cel_below hb s0, cel_below hb s1, cel_below hb s2, cel_below hb s3, cel_below hb s4, cel_below hb s5, cel_below hb s6, cel_below hb s7, cel_below hb s8, cel_below hb s9⟩
  clear hK K s0 s1 s2 s3 s4 s5 s6 s7 s8 s9 hb
  (try simp only [Act.put, List.setIfInBounds_toArray, List.set_cons_zero, List.set_cons_succ])
  refine tkA 13 (by kernel_rfl) (by assumption) ⟨_, _, ?_, rfl, rfl, ?_, fun _ _ _ h => h, ?_⟩; rotate_left; · intro w hSw; (try dsimp only at hSw); go_simp; (try with_reducible rfl)
  (try simp only [Act.put, List.setIfInBounds_toArray, List.set_cons_zero, List.set_cons_succ])
  refine wpAnyH_done (by kernel_rfl) ?_ _
  obtain ⟨s0, s1, s2, s3, s4, s5, s6, s7, s8, s9⟩ := hHeld
  go_wp2
  go_ret
  exact ⟨rfl, HW.out⟩

theorem choose_1t (m o : Ct) (w : World) (HP : ∀ w, Calls Try.prog 91 #[m.v, o.v] w fun e w' => e = .returned (.bool true) ∧ Below w.heap.size w w') : Calls Try.prog 82 #[.int .i64 1, m.v, o.v] w fun e w' => e = .returned (.int .i64 2) ∧ Below w.heap.size w w' := by
  have hst : ∀ (fn : Fn) (f c : Array Value) (a : Addr) (w : World), (store a (.func fn f c)).run Try.prog w = stored Try.prog w a (.func fn f c) .plain := fun _ _ _ _ _ => run_store _ _ _ _ _ rfl
  replace HP := Lib.hid HP
  unfold Ct.v at HP ⊢
  go_enter Try.func82, Try.ntmps82
  go_wp2_with fail
  have HW := Lib.hid (below_alloc2 (below_alloc1 (Below.refl (World.heap (((w.alloc (.cells #[.int .i64 m.s, .int .i64 m.k, .int .i64 m.a] 27)).alloc (.cells #[.int .i64 o.s, .int .i64 o.k, .int .i64 o.a] 27)).alloc (.cells #[.func (.func 90) #[] #[], .func (.func 91) #[] #[], .func (.func 92) #[] #[], .func (.func 93) #[] #[]] 136))).size (((w.alloc (.cells #[.int .i64 m.s, .int .i64 m.k, .int .i64 m.a] 27)).alloc (.cells #[.int .i64 o.s, .int .i64 o.k, .int .i64 o.a] 27)).alloc (.cells #[.func (.func 90) #[] #[], .func (.func 91) #[] #[], .func (.func 92) #[] #[], .func (.func 93) #[] #[]] 136)))))
  refine wp_region_held_drew (S := fun W => W.cell? ⟨w.heap.size, 0, none⟩ = some (.int .i64 m.s) ∧ W.cell? ⟨w.heap.size, 1, none⟩ = some (.int .i64 m.k) ∧ W.cell? ⟨w.heap.size, 2, none⟩ = some (.int .i64 m.a) ∧ W.cell? ⟨w.heap.size + 1, 0, none⟩ = some (.int .i64 o.s) ∧ W.cell? ⟨w.heap.size + 1, 1, none⟩ = some (.int .i64 o.k) ∧ W.cell? ⟨w.heap.size + 1, 2, none⟩ = some (.int .i64 o.a) ∧ W.cell? ⟨w.heap.size + 1 + 1, 0, none⟩ = some (.func (.func 90) #[] #[]) ∧ W.cell? ⟨w.heap.size + 1 + 1, 1, none⟩ = some (.func (.func 91) #[] #[]) ∧ W.cell? ⟨w.heap.size + 1 + 1, 2, none⟩ = some (.func (.func 92) #[] #[]) ∧ W.cell? ⟨w.heap.size + 1 + 1, 3, none⟩ = some (.func (.func 93) #[] #[])) (by kernel_rfl) ?_ (fun hHeld => ?_)
  · (try dsimp only); exact ⟨by first | assumption | go_simp, by first | assumption | go_simp, by first | assumption | go_simp, by first | assumption | go_simp, by first | assumption | go_simp, by first | assumption | go_simp, by first | assumption | go_simp, by first | assumption | go_simp, by first | assumption | go_simp, by first | assumption | go_simp⟩
  replace HW := Lib.hid (below_drews HW.out 1)
  refine tkA 0 (by kernel_rfl) (by assumption) ⟨_, _, ?_, rfl, rfl, ?_, fun _ _ _ h => h, ?_⟩; rotate_left; · intro w hSw; (try dsimp only at hSw); go_simp; (try with_reducible rfl)
  (try simp only [Act.put, List.setIfInBounds_toArray, List.set_cons_zero, List.set_cons_succ])
  refine tkA 1 (by kernel_rfl) (by assumption) ⟨_, _, ?_, rfl, rfl, ?_, fun _ _ _ h => h, ?_⟩; rotate_left; · intro w hSw; (try dsimp only at hSw); go_simp; (try with_reducible rfl)
  (try simp only [Act.put, List.setIfInBounds_toArray, List.set_cons_zero, List.set_cons_succ])
  refine tkA 2 (by kernel_rfl) (by assumption) ⟨_, _, ?_, rfl, rfl, ?_, fun _ _ _ h => h, ?_⟩; rotate_left; · intro w hSw; (try dsimp only at hSw); go_simp; (try with_reducible rfl)
  (try simp only [Act.put, List.setIfInBounds_toArray, List.set_cons_zero, List.set_cons_succ])
  first | (refine tkA 3 (by kernel_rfl) (by assumption) ⟨_, _, ?_, rfl, rfl, ?_, fun _ _ _ h => h, ?_⟩; rotate_left; · intro w hSw; (try dsimp only at hSw); go_simp; (try with_reducible rfl)) | refine tkB 3 (by kernel_rfl) (by assumption) ⟨_, _, rfl, rfl, fun _ _ _ h => h, ?_⟩
  (try simp only [Act.put, List.setIfInBounds_toArray, List.set_cons_zero, List.set_cons_succ])
  first | (refine tkA 4 (by kernel_rfl) (by assumption) ⟨_, _, ?_, rfl, rfl, ?_, fun _ _ _ h => h, ?_⟩; rotate_left; · intro w hSw; (try dsimp only at hSw); go_simp; (try with_reducible rfl)) | refine tkB 4 (by kernel_rfl) (by assumption) ⟨_, _, rfl, rfl, fun _ _ _ h => h, ?_⟩
  (try simp only [Act.put, List.setIfInBounds_toArray, List.set_cons_zero, List.set_cons_succ])
  refine tkA 5 (by kernel_rfl) (by assumption) ⟨_, _, ?_, rfl, rfl, ?_, fun _ _ _ h => h, ?_⟩; rotate_left; · intro w hSw; (try dsimp only at hSw); go_simp; (try with_reducible rfl)
  (try simp only [Act.put, List.setIfInBounds_toArray, List.set_cons_zero, List.set_cons_succ])
  refine tkA 6 (by kernel_rfl) (by assumption) ⟨_, _, ?_, rfl, rfl, ?_, fun _ _ _ h => h, ?_⟩; rotate_left; · intro w hSw; (try dsimp only at hSw); go_simp; (try with_reducible rfl)
  (try simp only [Act.put, List.setIfInBounds_toArray, List.set_cons_zero, List.set_cons_succ])
  first | (refine tkA 7 (by kernel_rfl) (by assumption) ⟨_, _, ?_, rfl, rfl, ?_, fun _ _ _ h => h, ?_⟩; rotate_left; · intro w hSw; (try dsimp only at hSw); go_simp; (try with_reducible rfl)) | refine tkB 7 (by kernel_rfl) (by assumption) ⟨_, _, rfl, rfl, fun _ _ _ h => h, ?_⟩
  (try simp only [Act.put, List.setIfInBounds_toArray, List.set_cons_zero, List.set_cons_succ])
  first | (refine tkA 8 (by kernel_rfl) (by assumption) ⟨_, _, ?_, rfl, rfl, ?_, fun _ _ _ h => h, ?_⟩; rotate_left; · intro w hSw; (try dsimp only at hSw); go_simp; (try with_reducible rfl)) | refine tkB 8 (by kernel_rfl) (by assumption) ⟨_, _, rfl, rfl, fun _ _ _ h => h, ?_⟩
  (try simp only [Act.put, List.setIfInBounds_toArray, List.set_cons_zero, List.set_cons_succ])
  first | (refine tkA 9 (by kernel_rfl) (by assumption) ⟨_, _, ?_, rfl, rfl, ?_, fun _ _ _ h => h, ?_⟩; rotate_left; · intro w hSw; (try dsimp only at hSw); go_simp; (try with_reducible rfl)) | refine tkB 9 (by kernel_rfl) (by assumption) ⟨_, _, rfl, rfl, fun _ _ _ h => h, ?_⟩
  (try simp only [Act.put, List.setIfInBounds_toArray, List.set_cons_zero, List.set_cons_succ])
  first | (refine tkA 10 (by kernel_rfl) (by assumption) ⟨_, _, ?_, rfl, rfl, ?_, fun _ _ _ h => h, ?_⟩; rotate_left; · intro w hSw; (try dsimp only at hSw); go_simp; (try with_reducible rfl)) | refine tkB 10 (by kernel_rfl) (by assumption) ⟨_, _, rfl, rfl, fun _ _ _ h => h, ?_⟩
  (try simp only [Act.put, List.setIfInBounds_toArray, List.set_cons_zero, List.set_cons_succ])
  first | (refine tkA 11 (by kernel_rfl) (by assumption) ⟨_, _, ?_, rfl, rfl, ?_, fun _ _ _ h => h, ?_⟩; rotate_left; · intro w hSw; (try dsimp only at hSw); go_simp; (try with_reducible rfl)) | refine tkB 11 (by kernel_rfl) (by assumption) ⟨_, _, rfl, rfl, fun _ _ _ h => h, ?_⟩
  (try simp only [Act.put, List.setIfInBounds_toArray, List.set_cons_zero, List.set_cons_succ])
  refine wpAnyH_ready (rs := [12]) (by kernel_rfl) (by simp) ?_
  refine AllReadyH.cons (o := ?oi2) ?hi2 (fun K hK => ?rest2) AllReadyH.nil
  (case hi2 => (simp only [List.getElem?_toArray, List.getElem?_cons_succ, List.getElem?_cons_zero]; rfl))
  obtain ⟨s0, s1, s2, s3, s4, s5, s6, s7, s8, s9⟩ := hHeld
  go_simp
  ((with_reducible refine (HP.out _).mono ?_); rintro e wx1 ⟨rfl, hb⟩)
  replace HW := Lib.hid (below_step HW.out hb)
  refine hK.out _ _ ?_ (fun hHeld => ?_)
  · (try dsimp only); exact ⟨cel_below hb s0, cel_below hb s1, cel_below hb s2, cel_below hb s3, cel_below hb s4, cel_below hb s5, cel_below hb s6, cel_below hb s7, cel_below hb s8, cel_below hb s9⟩
  clear hK K s0 s1 s2 s3 s4 s5 s6 s7 s8 s9 hb
  (try simp only [Act.put, List.setIfInBounds_toArray, List.set_cons_zero, List.set_cons_succ])
  refine tkA 13 (by kernel_rfl) (by assumption) ⟨_, _, ?_, rfl, rfl, ?_, fun _ _ _ h => h, ?_⟩; rotate_left; · intro w hSw; (try dsimp only at hSw); go_simp; (try with_reducible rfl)
  (try simp only [Act.put, List.setIfInBounds_toArray, List.set_cons_zero, List.set_cons_succ])
  refine wpAnyH_done (by kernel_rfl) ?_ _
  obtain ⟨s0, s1, s2, s3, s4, s5, s6, s7, s8, s9⟩ := hHeld
  go_wp2
  go_ret
  exact ⟨rfl, HW.out⟩

theorem choose_1f (m o : Ct) (w : World) (HP : ∀ w, Calls Try.prog 91 #[m.v, o.v] w fun e w' => e = .returned (.bool false) ∧ Below w.heap.size w w') : Calls Try.prog 82 #[.int .i64 1, m.v, o.v] w fun e w' => e = .returned (.int .i64 1) ∧ Below w.heap.size w w' := by
  have hst : ∀ (fn : Fn) (f c : Array Value) (a : Addr) (w : World), (store a (.func fn f c)).run Try.prog w = stored Try.prog w a (.func fn f c) .plain := fun _ _ _ _ _ => run_store _ _ _ _ _ rfl
  replace HP := Lib.hid HP
  unfold Ct.v at HP ⊢
  go_enter Try.func82, Try.ntmps82
  go_wp2_with fail
  have HW := Lib.hid (below_alloc2 (below_alloc1 (Below.refl (World.heap (((w.alloc (.cells #[.int .i64 m.s, .int .i64 m.k, .int .i64 m.a] 27)).alloc (.cells #[.int .i64 o.s, .int .i64 o.k, .int .i64 o.a] 27)).alloc (.cells #[.func (.func 90) #[] #[], .func (.func 91) #[] #[], .func (.func 92) #[] #[], .func (.func 93) #[] #[]] 136))).size (((w.alloc (.cells #[.int .i64 m.s, .int .i64 m.k, .int .i64 m.a] 27)).alloc (.cells #[.int .i64 o.s, .int .i64 o.k, .int .i64 o.a] 27)).alloc (.cells #[.func (.func 90) #[] #[], .func (.func 91) #[] #[], .func (.func 92) #[] #[], .func (.func 93) #[] #[]] 136)))))
  refine wp_region_held_drew (S := fun W => W.cell? ⟨w.heap.size, 0, none⟩ = some (.int .i64 m.s) ∧ W.cell? ⟨w.heap.size, 1, none⟩ = some (.int .i64 m.k) ∧ W.cell? ⟨w.heap.size, 2, none⟩ = some (.int .i64 m.a) ∧ W.cell? ⟨w.heap.size + 1, 0, none⟩ = some (.int .i64 o.s) ∧ W.cell? ⟨w.heap.size + 1, 1, none⟩ = some (.int .i64 o.k) ∧ W.cell? ⟨w.heap.size + 1, 2, none⟩ = some (.int .i64 o.a) ∧ W.cell? ⟨w.heap.size + 1 + 1, 0, none⟩ = some (.func (.func 90) #[] #[]) ∧ W.cell? ⟨w.heap.size + 1 + 1, 1, none⟩ = some (.func (.func 91) #[] #[]) ∧ W.cell? ⟨w.heap.size + 1 + 1, 2, none⟩ = some (.func (.func 92) #[] #[]) ∧ W.cell? ⟨w.heap.size + 1 + 1, 3, none⟩ = some (.func (.func 93) #[] #[])) (by kernel_rfl) ?_ (fun hHeld => ?_)
  · (try dsimp only); exact ⟨by first | assumption | go_simp, by first | assumption | go_simp, by first | assumption | go_simp, by first | assumption | go_simp, by first | assumption | go_simp, by first | assumption | go_simp, by first | assumption | go_simp, by first | assumption | go_simp, by first | assumption | go_simp, by first | assumption | go_simp⟩
  replace HW := Lib.hid (below_drews HW.out 1)
  refine tkA 0 (by kernel_rfl) (by assumption) ⟨_, _, ?_, rfl, rfl, ?_, fun _ _ _ h => h, ?_⟩; rotate_left; · intro w hSw; (try dsimp only at hSw); go_simp; (try with_reducible rfl)
  (try simp only [Act.put, List.setIfInBounds_toArray, List.set_cons_zero, List.set_cons_succ])
  refine tkA 1 (by kernel_rfl) (by assumption) ⟨_, _, ?_, rfl, rfl, ?_, fun _ _ _ h => h, ?_⟩; rotate_left; · intro w hSw; (try dsimp only at hSw); go_simp; (try with_reducible rfl)
  (try simp only [Act.put, List.setIfInBounds_toArray, List.set_cons_zero, List.set_cons_succ])
  refine tkA 2 (by kernel_rfl) (by assumption) ⟨_, _, ?_, rfl, rfl, ?_, fun _ _ _ h => h, ?_⟩; rotate_left; · intro w hSw; (try dsimp only at hSw); go_simp; (try with_reducible rfl)
  (try simp only [Act.put, List.setIfInBounds_toArray, List.set_cons_zero, List.set_cons_succ])
  first | (refine tkA 3 (by kernel_rfl) (by assumption) ⟨_, _, ?_, rfl, rfl, ?_, fun _ _ _ h => h, ?_⟩; rotate_left; · intro w hSw; (try dsimp only at hSw); go_simp; (try with_reducible rfl)) | refine tkB 3 (by kernel_rfl) (by assumption) ⟨_, _, rfl, rfl, fun _ _ _ h => h, ?_⟩
  (try simp only [Act.put, List.setIfInBounds_toArray, List.set_cons_zero, List.set_cons_succ])
  first | (refine tkA 4 (by kernel_rfl) (by assumption) ⟨_, _, ?_, rfl, rfl, ?_, fun _ _ _ h => h, ?_⟩; rotate_left; · intro w hSw; (try dsimp only at hSw); go_simp; (try with_reducible rfl)) | refine tkB 4 (by kernel_rfl) (by assumption) ⟨_, _, rfl, rfl, fun _ _ _ h => h, ?_⟩
  (try simp only [Act.put, List.setIfInBounds_toArray, List.set_cons_zero, List.set_cons_succ])
  refine tkA 5 (by kernel_rfl) (by assumption) ⟨_, _, ?_, rfl, rfl, ?_, fun _ _ _ h => h, ?_⟩; rotate_left; · intro w hSw; (try dsimp only at hSw); go_simp; (try with_reducible rfl)
  (try simp only [Act.put, List.setIfInBounds_toArray, List.set_cons_zero, List.set_cons_succ])
  refine tkA 6 (by kernel_rfl) (by assumption) ⟨_, _, ?_, rfl, rfl, ?_, fun _ _ _ h => h, ?_⟩; rotate_left; · intro w hSw; (try dsimp only at hSw); go_simp; (try with_reducible rfl)
  (try simp only [Act.put, List.setIfInBounds_toArray, List.set_cons_zero, List.set_cons_succ])
  first | (refine tkA 7 (by kernel_rfl) (by assumption) ⟨_, _, ?_, rfl, rfl, ?_, fun _ _ _ h => h, ?_⟩; rotate_left; · intro w hSw; (try dsimp only at hSw); go_simp; (try with_reducible rfl)) | refine tkB 7 (by kernel_rfl) (by assumption) ⟨_, _, rfl, rfl, fun _ _ _ h => h, ?_⟩
  (try simp only [Act.put, List.setIfInBounds_toArray, List.set_cons_zero, List.set_cons_succ])
  first | (refine tkA 8 (by kernel_rfl) (by assumption) ⟨_, _, ?_, rfl, rfl, ?_, fun _ _ _ h => h, ?_⟩; rotate_left; · intro w hSw; (try dsimp only at hSw); go_simp; (try with_reducible rfl)) | refine tkB 8 (by kernel_rfl) (by assumption) ⟨_, _, rfl, rfl, fun _ _ _ h => h, ?_⟩
  (try simp only [Act.put, List.setIfInBounds_toArray, List.set_cons_zero, List.set_cons_succ])
  first | (refine tkA 9 (by kernel_rfl) (by assumption) ⟨_, _, ?_, rfl, rfl, ?_, fun _ _ _ h => h, ?_⟩; rotate_left; · intro w hSw; (try dsimp only at hSw); go_simp; (try with_reducible rfl)) | refine tkB 9 (by kernel_rfl) (by assumption) ⟨_, _, rfl, rfl, fun _ _ _ h => h, ?_⟩
  (try simp only [Act.put, List.setIfInBounds_toArray, List.set_cons_zero, List.set_cons_succ])
  first | (refine tkA 10 (by kernel_rfl) (by assumption) ⟨_, _, ?_, rfl, rfl, ?_, fun _ _ _ h => h, ?_⟩; rotate_left; · intro w hSw; (try dsimp only at hSw); go_simp; (try with_reducible rfl)) | refine tkB 10 (by kernel_rfl) (by assumption) ⟨_, _, rfl, rfl, fun _ _ _ h => h, ?_⟩
  (try simp only [Act.put, List.setIfInBounds_toArray, List.set_cons_zero, List.set_cons_succ])
  first | (refine tkA 11 (by kernel_rfl) (by assumption) ⟨_, _, ?_, rfl, rfl, ?_, fun _ _ _ h => h, ?_⟩; rotate_left; · intro w hSw; (try dsimp only at hSw); go_simp; (try with_reducible rfl)) | refine tkB 11 (by kernel_rfl) (by assumption) ⟨_, _, rfl, rfl, fun _ _ _ h => h, ?_⟩
  (try simp only [Act.put, List.setIfInBounds_toArray, List.set_cons_zero, List.set_cons_succ])
  refine wpAnyH_ready (rs := [12]) (by kernel_rfl) (by simp) ?_
  refine AllReadyH.cons (o := ?oi3) ?hi3 (fun K hK => ?rest3) AllReadyH.nil
  (case hi3 => (simp only [List.getElem?_toArray, List.getElem?_cons_succ, List.getElem?_cons_zero]; rfl))
  obtain ⟨s0, s1, s2, s3, s4, s5, s6, s7, s8, s9⟩ := hHeld
  go_simp
  ((with_reducible refine (HP.out _).mono ?_); rintro e wx1 ⟨rfl, hb⟩)
  replace HW := Lib.hid (below_step HW.out hb)
  refine hK.out _ _ ?_ (fun hHeld => ?_)
  · (try dsimp only); exact ⟨cel_below hb s0, cel_below hb s1, cel_below hb s2, cel_below hb s3, cel_below hb s4, cel_below hb s5, cel_below hb s6, cel_below hb s7, cel_below hb s8, cel_below hb s9⟩
  clear hK K s0 s1 s2 s3 s4 s5 s6 s7 s8 s9 hb
  (try simp only [Act.put, List.setIfInBounds_toArray, List.set_cons_zero, List.set_cons_succ])
  refine tkA 13 (by kernel_rfl) (by assumption) ⟨_, _, ?_, rfl, rfl, ?_, fun _ _ _ h => h, ?_⟩; rotate_left; · intro w hSw; (try dsimp only at hSw); go_simp; (try with_reducible rfl)
  (try simp only [Act.put, List.setIfInBounds_toArray, List.set_cons_zero, List.set_cons_succ])
  refine wpAnyH_done (by kernel_rfl) ?_ _
  obtain ⟨s0, s1, s2, s3, s4, s5, s6, s7, s8, s9⟩ := hHeld
  go_wp2
  go_ret
  exact ⟨rfl, HW.out⟩

theorem choose_2t (m o : Ct) (w : World) (HP : ∀ w, Calls Try.prog 92 #[m.v, o.v] w fun e w' => e = .returned (.bool true) ∧ Below w.heap.size w w') : Calls Try.prog 82 #[.int .i64 2, m.v, o.v] w fun e w' => e = .returned (.int .i64 2) ∧ Below w.heap.size w w' := by
  have hst : ∀ (fn : Fn) (f c : Array Value) (a : Addr) (w : World), (store a (.func fn f c)).run Try.prog w = stored Try.prog w a (.func fn f c) .plain := fun _ _ _ _ _ => run_store _ _ _ _ _ rfl
  replace HP := Lib.hid HP
  unfold Ct.v at HP ⊢
  go_enter Try.func82, Try.ntmps82
  go_wp2_with fail
  have HW := Lib.hid (below_alloc2 (below_alloc1 (Below.refl (World.heap (((w.alloc (.cells #[.int .i64 m.s, .int .i64 m.k, .int .i64 m.a] 27)).alloc (.cells #[.int .i64 o.s, .int .i64 o.k, .int .i64 o.a] 27)).alloc (.cells #[.func (.func 90) #[] #[], .func (.func 91) #[] #[], .func (.func 92) #[] #[], .func (.func 93) #[] #[]] 136))).size (((w.alloc (.cells #[.int .i64 m.s, .int .i64 m.k, .int .i64 m.a] 27)).alloc (.cells #[.int .i64 o.s, .int .i64 o.k, .int .i64 o.a] 27)).alloc (.cells #[.func (.func 90) #[] #[], .func (.func 91) #[] #[], .func (.func 92) #[] #[], .func (.func 93) #[] #[]] 136)))))
  refine wp_region_held_drew (S := fun W => W.cell? ⟨w.heap.size, 0, none⟩ = some (.int .i64 m.s) ∧ W.cell? ⟨w.heap.size, 1, none⟩ = some (.int .i64 m.k) ∧ W.cell? ⟨w.heap.size, 2, none⟩ = some (.int .i64 m.a) ∧ W.cell? ⟨w.heap.size + 1, 0, none⟩ = some (.int .i64 o.s) ∧ W.cell? ⟨w.heap.size + 1, 1, none⟩ = some (.int .i64 o.k) ∧ W.cell? ⟨w.heap.size + 1, 2, none⟩ = some (.int .i64 o.a) ∧ W.cell? ⟨w.heap.size + 1 + 1, 0, none⟩ = some (.func (.func 90) #[] #[]) ∧ W.cell? ⟨w.heap.size + 1 + 1, 1, none⟩ = some (.func (.func 91) #[] #[]) ∧ W.cell? ⟨w.heap.size + 1 + 1, 2, none⟩ = some (.func (.func 92) #[] #[]) ∧ W.cell? ⟨w.heap.size + 1 + 1, 3, none⟩ = some (.func (.func 93) #[] #[])) (by kernel_rfl) ?_ (fun hHeld => ?_)
  · (try dsimp only); exact ⟨by first | assumption | go_simp, by first | assumption | go_simp, by first | assumption | go_simp, by first | assumption | go_simp, by first | assumption | go_simp, by first | assumption | go_simp, by first | assumption | go_simp, by first | assumption | go_simp, by first | assumption | go_simp, by first | assumption | go_simp⟩
  replace HW := Lib.hid (below_drews HW.out 1)
  refine tkA 0 (by kernel_rfl) (by assumption) ⟨_, _, ?_, rfl, rfl, ?_, fun _ _ _ h => h, ?_⟩; rotate_left; · intro w hSw; (try dsimp only at hSw); go_simp; (try with_reducible rfl)
  (try simp only [Act.put, List.setIfInBounds_toArray, List.set_cons_zero, List.set_cons_succ])
  refine tkA 1 (by kernel_rfl) (by assumption) ⟨_, _, ?_, rfl, rfl, ?_, fun _ _ _ h => h, ?_⟩; rotate_left; · intro w hSw; (try dsimp only at hSw); go_simp; (try with_reducible rfl)
  (try simp only [Act.put, List.setIfInBounds_toArray, List.set_cons_zero, List.set_cons_succ])
  refine tkA 2 (by kernel_rfl) (by assumption) ⟨_, _, ?_, rfl, rfl, ?_, fun _ _ _ h => h, ?_⟩; rotate_left; · intro w hSw; (try dsimp only at hSw); go_simp; (try with_reducible rfl)
  (try simp only [Act.put, List.setIfInBounds_toArray, List.set_cons_zero, List.set_cons_succ])
  first | (refine tkA 3 (by kernel_rfl) (by assumption) ⟨_, _, ?_, rfl, rfl, ?_, fun _ _ _ h => h, ?_⟩; rotate_left; · intro w hSw; (try dsimp only at hSw); go_simp; (try with_reducible rfl)) | refine tkB 3 (by kernel_rfl) (by assumption) ⟨_, _, rfl, rfl, fun _ _ _ h => h, ?_⟩
  (try simp only [Act.put, List.setIfInBounds_toArray, List.set_cons_zero, List.set_cons_succ])
  first | (refine tkA 4 (by kernel_rfl) (by assumption) ⟨_, _, ?_, rfl, rfl, ?_, fun _ _ _ h => h, ?_⟩; rotate_left; · intro w hSw; (try dsimp only at hSw); go_simp; (try with_reducible rfl)) | refine tkB 4 (by kernel_rfl) (by assumption) ⟨_, _, rfl, rfl, fun _ _ _ h => h, ?_⟩
  (try simp only [Act.put, List.setIfInBounds_toArray, List.set_cons_zero, List.set_cons_succ])
  refine tkA 5 (by kernel_rfl) (by assumption) ⟨_, _, ?_, rfl, rfl, ?_, fun _ _ _ h => h, ?_⟩; rotate_left; · intro w hSw; (try dsimp only at hSw); go_simp; (try with_reducible rfl)
  (try simp only [Act.put, List.setIfInBounds_toArray, List.set_cons_zero, List.set_cons_succ])
  refine tkA 6 (by kernel_rfl) (by assumption) ⟨_, _, ?_, rfl, rfl, ?_, fun _ _ _ h => h, ?_⟩; rotate_left; · intro w hSw; (try dsimp only at hSw); go_simp; (try with_reducible rfl)
  (try simp only [Act.put, List.setIfInBounds_toArray, List.set_cons_zero, List.set_cons_succ])
  first | (refine tkA 7 (by kernel_rfl) (by assumption) ⟨_, _, ?_, rfl, rfl, ?_, fun _ _ _ h => h, ?_⟩; rotate_left; · intro w hSw; (try dsimp only at hSw); go_simp; (try with_reducible rfl)) | refine tkB 7 (by kernel_rfl) (by assumption) ⟨_, _, rfl, rfl, fun _ _ _ h => h, ?_⟩
  (try simp only [Act.put, List.setIfInBounds_toArray, List.set_cons_zero, List.set_cons_succ])
  first | (refine tkA 8 (by kernel_rfl) (by assumption) ⟨_, _, ?_, rfl, rfl, ?_, fun _ _ _ h => h, ?_⟩; rotate_left; · intro w hSw; (try dsimp only at hSw); go_simp; (try with_reducible rfl)) | refine tkB 8 (by kernel_rfl) (by assumption) ⟨_, _, rfl, rfl, fun _ _ _ h => h, ?_⟩
  (try simp only [Act.put, List.setIfInBounds_toArray, List.set_cons_zero, List.set_cons_succ])
  first | (refine tkA 9 (by kernel_rfl) (by assumption) ⟨_, _, ?_, rfl, rfl, ?_, fun _ _ _ h => h, ?_⟩; rotate_left; · intro w hSw; (try dsimp only at hSw); go_simp; (try with_reducible rfl)) | refine tkB 9 (by kernel_rfl) (by assumption) ⟨_, _, rfl, rfl, fun _ _ _ h => h, ?_⟩
  (try simp only [Act.put, List.setIfInBounds_toArray, List.set_cons_zero, List.set_cons_succ])
  first | (refine tkA 10 (by kernel_rfl) (by assumption) ⟨_, _, ?_, rfl, rfl, ?_, fun _ _ _ h => h, ?_⟩; rotate_left; · intro w hSw; (try dsimp only at hSw); go_simp; (try with_reducible rfl)) | refine tkB 10 (by kernel_rfl) (by assumption) ⟨_, _, rfl, rfl, fun _ _ _ h => h, ?_⟩
  (try simp only [Act.put, List.setIfInBounds_toArray, List.set_cons_zero, List.set_cons_succ])
  first | (refine tkA 11 (by kernel_rfl) (by assumption) ⟨_, _, ?_, rfl, rfl, ?_, fun _ _ _ h => h, ?_⟩; rotate_left; · intro w hSw; (try dsimp only at hSw); go_simp; (try with_reducible rfl)) | refine tkB 11 (by kernel_rfl) (by assumption) ⟨_, _, rfl, rfl, fun _ _ _ h => h, ?_⟩
  (try simp only [Act.put, List.setIfInBounds_toArray, List.set_cons_zero, List.set_cons_succ])
  refine wpAnyH_ready (rs := [12]) (by kernel_rfl) (by simp) ?_
  refine AllReadyH.cons (o := ?oi4) ?hi4 (fun K hK => ?rest4) AllReadyH.nil
  (case hi4 => (simp only [List.getElem?_toArray, List.getElem?_cons_succ, List.getElem?_cons_zero]; rfl))
  obtain ⟨s0, s1, s2, s3, s4, s5, s6, s7, s8, s9⟩ := hHeld
  go_simp
  ((with_reducible refine (HP.out _).mono ?_); rintro e wx1 ⟨rfl, hb⟩)
  replace HW := Lib.hid (below_step HW.out hb)
  refine hK.out _ _ ?_ (fun hHeld => ?_)
  · (try dsimp only); exact ⟨cel_below hb s0, cel_below hb s1, cel_below hb s2, cel_below hb s3, cel_below hb s4, cel_below hb s5, cel_below hb s6, cel_below hb s7, cel_below hb s8, cel_below hb s9⟩
  clear hK K s0 s1 s2 s3 s4 s5 s6 s7 s8 s9 hb
  (try simp only [Act.put, List.setIfInBounds_toArray, List.set_cons_zero, List.set_cons_succ])
  refine tkA 13 (by kernel_rfl) (by assumption) ⟨_, _, ?_, rfl, rfl, ?_, fun _ _ _ h => h, ?_⟩; rotate_left; · intro w hSw; (try dsimp only at hSw); go_simp; (try with_reducible rfl)
  (try simp only [Act.put, List.setIfInBounds_toArray, List.set_cons_zero, List.set_cons_succ])
  refine wpAnyH_done (by kernel_rfl) ?_ _
  obtain ⟨s0, s1, s2, s3, s4, s5, s6, s7, s8, s9⟩ := hHeld
  go_wp2
  go_ret
  exact ⟨rfl, HW.out⟩

theorem choose_2f (m o : Ct) (w : World) (HP : ∀ w, Calls Try.prog 92 #[m.v, o.v] w fun e w' => e = .returned (.bool false) ∧ Below w.heap.size w w') : Calls Try.prog 82 #[.int .i64 2, m.v, o.v] w fun e w' => e = .returned (.int .i64 1) ∧ Below w.heap.size w w' := by
  have hst : ∀ (fn : Fn) (f c : Array Value) (a : Addr) (w : World), (store a (.func fn f c)).run Try.prog w = stored Try.prog w a (.func fn f c) .plain := fun _ _ _ _ _ => run_store _ _ _ _ _ rfl
  replace HP := Lib.hid HP
  unfold Ct.v at HP ⊢
  go_enter Try.func82, Try.ntmps82
  go_wp2_with fail
  have HW := Lib.hid (below_alloc2 (below_alloc1 (Below.refl (World.heap (((w.alloc (.cells #[.int .i64 m.s, .int .i64 m.k, .int .i64 m.a] 27)).alloc (.cells #[.int .i64 o.s, .int .i64 o.k, .int .i64 o.a] 27)).alloc (.cells #[.func (.func 90) #[] #[], .func (.func 91) #[] #[], .func (.func 92) #[] #[], .func (.func 93) #[] #[]] 136))).size (((w.alloc (.cells #[.int .i64 m.s, .int .i64 m.k, .int .i64 m.a] 27)).alloc (.cells #[.int .i64 o.s, .int .i64 o.k, .int .i64 o.a] 27)).alloc (.cells #[.func (.func 90) #[] #[], .func (.func 91) #[] #[], .func (.func 92) #[] #[], .func (.func 93) #[] #[]] 136)))))
  refine wp_region_held_drew (S := fun W => W.cell? ⟨w.heap.size, 0, none⟩ = some (.int .i64 m.s) ∧ W.cell? ⟨w.heap.size, 1, none⟩ = some (.int .i64 m.k) ∧ W.cell? ⟨w.heap.size, 2, none⟩ = some (.int .i64 m.a) ∧ W.cell? ⟨w.heap.size + 1, 0, none⟩ = some (.int .i64 o.s) ∧ W.cell? ⟨w.heap.size + 1, 1, none⟩ = some (.int .i64 o.k) ∧ W.cell? ⟨w.heap.size + 1, 2, none⟩ = some (.int .i64 o.a) ∧ W.cell? ⟨w.heap.size + 1 + 1, 0, none⟩ = some (.func (.func 90) #[] #[]) ∧ W.cell? ⟨w.heap.size + 1 + 1, 1, none⟩ = some (.func (.func 91) #[] #[]) ∧ W.cell? ⟨w.heap.size + 1 + 1, 2, none⟩ = some (.func (.func 92) #[] #[]) ∧ W.cell? ⟨w.heap.size + 1 + 1, 3, none⟩ = some (.func (.func 93) #[] #[])) (by kernel_rfl) ?_ (fun hHeld => ?_)
  · (try dsimp only); exact ⟨by first | assumption | go_simp, by first | assumption | go_simp, by first | assumption | go_simp, by first | assumption | go_simp, by first | assumption | go_simp, by first | assumption | go_simp, by first | assumption | go_simp, by first | assumption | go_simp, by first | assumption | go_simp, by first | assumption | go_simp⟩
  replace HW := Lib.hid (below_drews HW.out 1)
  refine tkA 0 (by kernel_rfl) (by assumption) ⟨_, _, ?_, rfl, rfl, ?_, fun _ _ _ h => h, ?_⟩; rotate_left; · intro w hSw; (try dsimp only at hSw); go_simp; (try with_reducible rfl)
  (try simp only [Act.put, List.setIfInBounds_toArray, List.set_cons_zero, List.set_cons_succ])
  refine tkA 1 (by kernel_rfl) (by assumption) ⟨_, _, ?_, rfl, rfl, ?_, fun _ _ _ h => h, ?_⟩; rotate_left; · intro w hSw; (try dsimp only at hSw); go_simp; (try with_reducible rfl)
  (try simp only [Act.put, List.setIfInBounds_toArray, List.set_cons_zero, List.set_cons_succ])
  refine tkA 2 (by kernel_rfl) (by assumption) ⟨_, _, ?_, rfl, rfl, ?_, fun _ _ _ h => h, ?_⟩; rotate_left; · intro w hSw; (try dsimp only at hSw); go_simp; (try with_reducible rfl)
  (try simp only [Act.put, List.setIfInBounds_toArray, List.set_cons_zero, List.set_cons_succ])
  first | (refine tkA 3 (by kernel_rfl) (by assumption) ⟨_, _, ?_, rfl, rfl, ?_, fun _ _ _ h => h, ?_⟩; rotate_left; · intro w hSw; (try dsimp only at hSw); go_simp; (try with_reducible rfl)) | refine tkB 3 (by kernel_rfl) (by assumption) ⟨_, _, rfl, rfl, fun _ _ _ h => h, ?_⟩
  (try simp only [Act.put, List.setIfInBounds_toArray, List.set_cons_zero, List.set_cons_succ])
  first | (refine tkA 4 (by kernel_rfl) (by assumption) ⟨_, _, ?_, rfl, rfl, ?_, fun _ _ _ h => h, ?_⟩; rotate_left; · intro w hSw; (try dsimp only at hSw); go_simp; (try with_reducible rfl)) | refine tkB 4 (by kernel_rfl) (by assumption) ⟨_, _, rfl, rfl, fun _ _ _ h => h, ?_⟩
  (try simp only [Act.put, List.setIfInBounds_toArray, List.set_cons_zero, List.set_cons_succ])
  refine tkA 5 (by kernel_rfl) (by assumption) ⟨_, _, ?_, rfl, rfl, ?_, fun _ _ _ h => h, ?_⟩; rotate_left; · intro w hSw; (try dsimp only at hSw); go_simp; (try with_reducible rfl)
  (try simp only [Act.put, List.setIfInBounds_toArray, List.set_cons_zero, List.set_cons_succ])
  refine tkA 6 (by kernel_rfl) (by assumption) ⟨_, _, ?_, rfl, rfl, ?_, fun _ _ _ h => h, ?_⟩; rotate_left; · intro w hSw; (try dsimp only at hSw); go_simp; (try with_reducible rfl)
  (try simp only [Act.put, List.setIfInBounds_toArray, List.set_cons_zero, List.set_cons_succ])
  first | (refine tkA 7 (by kernel_rfl) (by assumption) ⟨_, _, ?_, rfl, rfl, ?_, fun _ _ _ h => h, ?_⟩; rotate_left; · intro w hSw; (try dsimp only at hSw); go_simp; (try with_reducible rfl)) | refine tkB 7 (by kernel_rfl) (by assumption) ⟨_, _, rfl, rfl, fun _ _ _ h => h, ?_⟩
  (try simp only [Act.put, List.setIfInBounds_toArray, List.set_cons_zero, List.set_cons_succ])
  first | (refine tkA 8 (by kernel_rfl) (by assumption) ⟨_, _, ?_, rfl, rfl, ?_, fun _ _ _ h => h, ?_⟩; rotate_left; · intro w hSw; (try dsimp only at hSw); go_simp; (try with_reducible rfl)) | refine tkB 8 (by kernel_rfl) (by assumption) ⟨_, _, rfl, rfl, fun _ _ _ h => h, ?_⟩
  (try simp only [Act.put, List.setIfInBounds_toArray, List.set_cons_zero, List.set_cons_succ])
  first | (refine tkA 9 (by kernel_rfl) (by assumption) ⟨_, _, ?_, rfl, rfl, ?_, fun _ _ _ h => h, ?_⟩; rotate_left; · intro w hSw; (try dsimp only at hSw); go_simp; (try with_reducible rfl)) | refine tkB 9 (by kernel_rfl) (by assumption) ⟨_, _, rfl, rfl, fun _ _ _ h => h, ?_⟩
  (try simp only [Act.put, List.setIfInBounds_toArray, List.set_cons_zero, List.set_cons_succ])
  first | (refine tkA 10 (by kernel_rfl) (by assumption) ⟨_, _, ?_, rfl, rfl, ?_, fun _ _ _ h => h, ?_⟩; rotate_left; · intro w hSw; (try dsimp only at hSw); go_simp; (try with_reducible rfl)) | refine tkB 10 (by kernel_rfl) (by assumption) ⟨_, _, rfl, rfl, fun _ _ _ h => h, ?_⟩
  (try simp only [Act.put, List.setIfInBounds_toArray, List.set_cons_zero, List.set_cons_succ])
  first | (refine tkA 11 (by kernel_rfl) (by assumption) ⟨_, _, ?_, rfl, rfl, ?_, fun _ _ _ h => h, ?_⟩; rotate_left; · intro w hSw; (try dsimp only at hSw); go_simp; (try with_reducible rfl)) | refine tkB 11 (by kernel_rfl) (by assumption) ⟨_, _, rfl, rfl, fun _ _ _ h => h, ?_⟩
  (try simp only [Act.put, List.setIfInBounds_toArray, List.set_cons_zero, List.set_cons_succ])
  refine wpAnyH_ready (rs := [12]) (by kernel_rfl) (by simp) ?_
  refine AllReadyH.cons (o := ?oi5) ?hi5 (fun K hK => ?rest5) AllReadyH.nil
  (case hi5 => (simp only [List.getElem?_toArray, List.getElem?_cons_succ, List.getElem?_cons_zero]; rfl))
  obtain ⟨s0, s1, s2, s3, s4, s5, s6, s7, s8, s9⟩ := hHeld
  go_simp
  ((with_reducible refine (HP.out _).mono ?_); rintro e wx1 ⟨rfl, hb⟩)
  replace HW := Lib.hid (below_step HW.out hb)
  refine hK.out _ _ ?_ (fun hHeld => ?_)
  · (try dsimp only); exact ⟨cel_below hb s0, cel_below hb s1, cel_below hb s2, cel_below hb s3, cel_below hb s4, cel_below hb s5, cel_below hb s6, cel_below hb s7, cel_below hb s8, cel_below hb s9⟩
  clear hK K s0 s1 s2 s3 s4 s5 s6 s7 s8 s9 hb
  (try simp only [Act.put, List.setIfInBounds_toArray, List.set_cons_zero, List.set_cons_succ])
  refine tkA 13 (by kernel_rfl) (by assumption) ⟨_, _, ?_, rfl, rfl, ?_, fun _ _ _ h => h, ?_⟩; rotate_left; · intro w hSw; (try dsimp only at hSw); go_simp; (try with_reducible rfl)
  (try simp only [Act.put, List.setIfInBounds_toArray, List.set_cons_zero, List.set_cons_succ])
  refine wpAnyH_done (by kernel_rfl) ?_ _
  obtain ⟨s0, s1, s2, s3, s4, s5, s6, s7, s8, s9⟩ := hHeld
  go_wp2
  go_ret
  exact ⟨rfl, HW.out⟩

theorem choose_3t (m o : Ct) (w : World) (HP : ∀ w, Calls Try.prog 93 #[m.v, o.v] w fun e w' => e = .returned (.bool true) ∧ Below w.heap.size w w') : Calls Try.prog 82 #[.int .i64 3, m.v, o.v] w fun e w' => e = .returned (.int .i64 2) ∧ Below w.heap.size w w' := by
  have hst : ∀ (fn : Fn) (f c : Array Value) (a : Addr) (w : World), (store a (.func fn f c)).run Try.prog w = stored Try.prog w a (.func fn f c) .plain := fun _ _ _ _ _ => run_store _ _ _ _ _ rfl
  replace HP := Lib.hid HP
  unfold Ct.v at HP ⊢
  go_enter Try.func82, Try.ntmps82
  go_wp2_with fail
  have HW := Lib.hid (below_alloc2 (below_alloc1 (Below.refl (World.heap (((w.alloc (.cells #[.int .i64 m.s, .int .i64 m.k, .int .i64 m.a] 27)).alloc (.cells #[.int .i64 o.s, .int .i64 o.k, .int .i64 o.a] 27)).alloc (.cells #[.func (.func 90) #[] #[], .func (.func 91) #[] #[], .func (.func 92) #[] #[], .func (.func 93) #[] #[]] 136))).size (((w.alloc (.cells #[.int .i64 m.s, .int .i64 m.k, .int .i64 m.a] 27)).alloc (.cells #[.int .i64 o.s, .int .i64 o.k, .int .i64 o.a] 27)).alloc (.cells #[.func (.func 90) #[] #[], .func (.func 91) #[] #[], .func (.func 92) #[] #[], .func (.func 93) #[] #[]] 136)))))
  refine wp_region_held_drew (S := fun W => W.cell? ⟨w.heap.size, 0, none⟩ = some (.int .i64 m.s) ∧ W.cell? ⟨w.heap.size, 1, none⟩ = some (.int .i64 m.k) ∧ W.cell? ⟨w.heap.size, 2, none⟩ = some (.int .i64 m.a) ∧ W.cell? ⟨w.heap.size + 1, 0, none⟩ = some (.int .i64 o.s) ∧ W.cell? ⟨w.heap.size + 1, 1, none⟩ = some (.int .i64 o.k) ∧ W.cell? ⟨w.heap.size + 1, 2, none⟩ = some (.int .i64 o.a) ∧ W.cell? ⟨w.heap.size + 1 + 1, 0, none⟩ = some (.func (.func 90) #[] #[]) ∧ W.cell? ⟨w.heap.size + 1 + 1, 1, none⟩ = some (.func (.func 91) #[] #[]) ∧ W.cell? ⟨w.heap.size + 1 + 1, 2, none⟩ = some (.func (.func 92) #[] #[]) ∧ W.cell? ⟨w.heap.size + 1 + 1, 3, none⟩ = some (.func (.func 93) #[] #[])) (by kernel_rfl) ?_ (fun hHeld => ?_)
  · (try dsimp only); exact ⟨by first | assumption | go_simp, by first | assumption | go_simp, by first | assumption | go_simp, by first | assumption | go_simp, by first | assumption | go_simp, by first | assumption | go_simp, by first | assumption | go_simp, by first | assumption | go_simp, by first | assumption | go_simp, by first | assumption | go_simp⟩
  replace HW := Lib.hid (below_drews HW.out 1)
  refine tkA 0 (by kernel_rfl) (by assumption) ⟨_, _, ?_, rfl, rfl, ?_, fun _ _ _ h => h, ?_⟩; rotate_left; · intro w hSw; (try dsimp only at hSw); go_simp; (try with_reducible rfl)
  (try simp only [Act.put, List.setIfInBounds_toArray, List.set_cons_zero, List.set_cons_succ])
  refine tkA 1 (by kernel_rfl) (by assumption) ⟨_, _, ?_, rfl, rfl, ?_, fun _ _ _ h => h, ?_⟩; rotate_left; · intro w hSw; (try dsimp only at hSw); go_simp; (try with_reducible rfl)
  (try simp only [Act.put, List.setIfInBounds_toArray, List.set_cons_zero, List.set_cons_succ])
  refine tkA 2 (by kernel_rfl) (by assumption) ⟨_, _, ?_, rfl, rfl, ?_, fun _ _ _ h => h, ?_⟩; rotate_left; · intro w hSw; (try dsimp only at hSw); go_simp; (try with_reducible rfl)
  (try simp only [Act.put, List.setIfInBounds_toArray, List.set_cons_zero, List.set_cons_succ])
  first | (refine tkA 3 (by kernel_rfl) (by assumption) ⟨_, _, ?_, rfl, rfl, ?_, fun _ _ _ h => h, ?_⟩; rotate_left; · intro w hSw; (try dsimp only at hSw); go_simp; (try with_reducible rfl)) | refine tkB 3 (by kernel_rfl) (by assumption) ⟨_, _, rfl, rfl, fun _ _ _ h => h, ?_⟩
  (try simp only [Act.put, List.setIfInBounds_toArray, List.set_cons_zero, List.set_cons_succ])
  first | (refine tkA 4 (by kernel_rfl) (by assumption) ⟨_, _, ?_, rfl, rfl, ?_, fun _ _ _ h => h, ?_⟩; rotate_left; · intro w hSw; (try dsimp only at hSw); go_simp; (try with_reducible rfl)) | refine tkB 4 (by kernel_rfl) (by assumption) ⟨_, _, rfl, rfl, fun _ _ _ h => h, ?_⟩
  (try simp only [Act.put, List.setIfInBounds_toArray, List.set_cons_zero, List.set_cons_succ])
  refine tkA 5 (by kernel_rfl) (by assumption) ⟨_, _, ?_, rfl, rfl, ?_, fun _ _ _ h => h, ?_⟩; rotate_left; · intro w hSw; (try dsimp only at hSw); go_simp; (try with_reducible rfl)
  (try simp only [Act.put, List.setIfInBounds_toArray, List.set_cons_zero, List.set_cons_succ])
  refine tkA 6 (by kernel_rfl) (by assumption) ⟨_, _, ?_, rfl, rfl, ?_, fun _ _ _ h => h, ?_⟩; rotate_left; · intro w hSw; (try dsimp only at hSw); go_simp; (try with_reducible rfl)
  (try simp only [Act.put, List.setIfInBounds_toArray, List.set_cons_zero, List.set_cons_succ])
  first | (refine tkA 7 (by kernel_rfl) (by assumption) ⟨_, _, ?_, rfl, rfl, ?_, fun _ _ _ h => h, ?_⟩; rotate_left; · intro w hSw; (try dsimp only at hSw); go_simp; (try with_reducible rfl)) | refine tkB 7 (by kernel_rfl) (by assumption) ⟨_, _, rfl, rfl, fun _ _ _ h => h, ?_⟩
  (try simp only [Act.put, List.setIfInBounds_toArray, List.set_cons_zero, List.set_cons_succ])
  first | (refine tkA 8 (by kernel_rfl) (by assumption) ⟨_, _, ?_, rfl, rfl, ?_, fun _ _ _ h => h, ?_⟩; rotate_left; · intro w hSw; (try dsimp only at hSw); go_simp; (try with_reducible rfl)) | refine tkB 8 (by kernel_rfl) (by assumption) ⟨_, _, rfl, rfl, fun _ _ _ h => h, ?_⟩
  (try simp only [Act.put, List.setIfInBounds_toArray, List.set_cons_zero, List.set_cons_succ])
  first | (refine tkA 9 (by kernel_rfl) (by assumption) ⟨_, _, ?_, rfl, rfl, ?_, fun _ _ _ h => h, ?_⟩; rotate_left; · intro w hSw; (try dsimp only at hSw); go_simp; (try with_reducible rfl)) | refine tkB 9 (by kernel_rfl) (by assumption) ⟨_, _, rfl, rfl, fun _ _ _ h => h, ?_⟩
  (try simp only [Act.put, List.setIfInBounds_toArray, List.set_cons_zero, List.set_cons_succ])
  first | (refine tkA 10 (by kernel_rfl) (by assumption) ⟨_, _, ?_, rfl, rfl, ?_, fun _ _ _ h => h, ?_⟩; rotate_left; · intro w hSw; (try dsimp only at hSw); go_simp; (try with_reducible rfl)) | refine tkB 10 (by kernel_rfl) (by assumption) ⟨_, _, rfl, rfl, fun _ _ _ h => h, ?_⟩
  (try simp only [Act.put, List.setIfInBounds_toArray, List.set_cons_zero, List.set_cons_succ])
  first | (refine tkA 11 (by kernel_rfl) (by assumption) ⟨_, _, ?_, rfl, rfl, ?_, fun _ _ _ h => h, ?_⟩; rotate_left; · intro w hSw; (try dsimp only at hSw); go_simp; (try with_reducible rfl)) | refine tkB 11 (by kernel_rfl) (by assumption) ⟨_, _, rfl, rfl, fun _ _ _ h => h, ?_⟩
  (try simp only [Act.put, List.setIfInBounds_toArray, List.set_cons_zero, List.set_cons_succ])
  refine wpAnyH_ready (rs := [12]) (by kernel_rfl) (by simp) ?_
  refine AllReadyH.cons (o := ?oi6) ?hi6 (fun K hK => ?rest6) AllReadyH.nil
  (case hi6 => (simp only [List.getElem?_toArray, List.getElem?_cons_succ, List.getElem?_cons_zero]; rfl))
  obtain ⟨s0, s1, s2, s3, s4, s5, s6, s7, s8, s9⟩ := hHeld
  go_simp
  ((with_reducible refine (HP.out _).mono ?_); rintro e wx1 ⟨rfl, hb⟩)
  replace HW := Lib.hid (below_step HW.out hb)
  refine hK.out _ _ ?_ (fun hHeld => ?_)
  · (try dsimp only); exact ⟨cel_below hb s0, cel_below hb s1, cel_below hb s2, cel_below hb s3, cel_below hb s4, cel_below hb s5, cel_below hb s6, cel_below hb s7, cel_below hb s8, cel_below hb s9⟩
  clear hK K s0 s1 s2 s3 s4 s5 s6 s7 s8 s9 hb
  (try simp only [Act.put, List.setIfInBounds_toArray, List.set_cons_zero, List.set_cons_succ])
  refine tkA 13 (by kernel_rfl) (by assumption) ⟨_, _, ?_, rfl, rfl, ?_, fun _ _ _ h => h, ?_⟩; rotate_left; · intro w hSw; (try dsimp only at hSw); go_simp; (try with_reducible rfl)
  (try simp only [Act.put, List.setIfInBounds_toArray, List.set_cons_zero, List.set_cons_succ])
  refine wpAnyH_done (by kernel_rfl) ?_ _
  obtain ⟨s0, s1, s2, s3, s4, s5, s6, s7, s8, s9⟩ := hHeld
  go_wp2
  go_ret
  exact ⟨rfl, HW.out⟩

theorem choose_3f (m o : Ct) (w : World) (HP : ∀ w, Calls Try.prog 93 #[m.v, o.v] w fun e w' => e = .returned (.bool false) ∧ Below w.heap.size w w') : Calls Try.prog 82 #[.int .i64 3, m.v, o.v] w fun e w' => e = .returned (.int .i64 1) ∧ Below w.heap.size w w' := by
  have hst : ∀ (fn : Fn) (f c : Array Value) (a : Addr) (w : World), (store a (.func fn f c)).run Try.prog w = stored Try.prog w a (.func fn f c) .plain := fun _ _ _ _ _ => run_store _ _ _ _ _ rfl
  replace HP := Lib.hid HP
  unfold Ct.v at HP ⊢
  go_enter Try.func82, Try.ntmps82
  go_wp2_with fail
  have HW := Lib.hid (below_alloc2 (below_alloc1 (Below.refl (World.heap (((w.alloc (.cells #[.int .i64 m.s, .int .i64 m.k, .int .i64 m.a] 27)).alloc (.cells #[.int .i64 o.s, .int .i64 o.k, .int .i64 o.a] 27)).alloc (.cells #[.func (.func 90) #[] #[], .func (.func 91) #[] #[], .func (.func 92) #[] #[], .func (.func 93) #[] #[]] 136))).size (((w.alloc (.cells #[.int .i64 m.s, .int .i64 m.k, .int .i64 m.a] 27)).alloc (.cells #[.int .i64 o.s, .int .i64 o.k, .int .i64 o.a] 27)).alloc (.cells #[.func (.func 90) #[] #[], .func (.func 91) #[] #[], .func (.func 92) #[] #[], .func (.func 93) #[] #[]] 136)))))
  refine wp_region_held_drew (S := fun W => W.cell? ⟨w.heap.size, 0, none⟩ = some (.int .i64 m.s) ∧ W.cell? ⟨w.heap.size, 1, none⟩ = some (.int .i64 m.k) ∧ W.cell? ⟨w.heap.size, 2, none⟩ = some (.int .i64 m.a) ∧ W.cell? ⟨w.heap.size + 1, 0, none⟩ = some (.int .i64 o.s) ∧ W.cell? ⟨w.heap.size + 1, 1, none⟩ = some (.int .i64 o.k) ∧ W.cell? ⟨w.heap.size + 1, 2, none⟩ = some (.int .i64 o.a) ∧ W.cell? ⟨w.heap.size + 1 + 1, 0, none⟩ = some (.func (.func 90) #[] #[]) ∧ W.cell? ⟨w.heap.size + 1 + 1, 1, none⟩ = some (.func (.func 91) #[] #[]) ∧ W.cell? ⟨w.heap.size + 1 + 1, 2, none⟩ = some (.func (.func 92) #[] #[]) ∧ W.cell? ⟨w.heap.size + 1 + 1, 3, none⟩ = some (.func (.func 93) #[] #[])) (by kernel_rfl) ?_ (fun hHeld => ?_)
  · (try dsimp only); exact ⟨by first | assumption | go_simp, by first | assumption | go_simp, by first | assumption | go_simp, by first | assumption | go_simp, by first | assumption | go_simp, by first | assumption | go_simp, by first | assumption | go_simp, by first | assumption | go_simp, by first | assumption | go_simp, by first | assumption | go_simp⟩
  replace HW := Lib.hid (below_drews HW.out 1)
  refine tkA 0 (by kernel_rfl) (by assumption) ⟨_, _, ?_, rfl, rfl, ?_, fun _ _ _ h => h, ?_⟩; rotate_left; · intro w hSw; (try dsimp only at hSw); go_simp; (try with_reducible rfl)
  (try simp only [Act.put, List.setIfInBounds_toArray, List.set_cons_zero, List.set_cons_succ])
  refine tkA 1 (by kernel_rfl) (by assumption) ⟨_, _, ?_, rfl, rfl, ?_, fun _ _ _ h => h, ?_⟩; rotate_left; · intro w hSw; (try dsimp only at hSw); go_simp; (try with_reducible rfl)
  (try simp only [Act.put, List.setIfInBounds_toArray, List.set_cons_zero, List.set_cons_succ])
  refine tkA 2 (by kernel_rfl) (by assumption) ⟨_, _, ?_, rfl, rfl, ?_, fun _ _ _ h => h, ?_⟩; rotate_left; · intro w hSw; (try dsimp only at hSw); go_simp; (try with_reducible rfl)
  (try simp only [Act.put, List.setIfInBounds_toArray, List.set_cons_zero, List.set_cons_succ])
  first | (refine tkA 3 (by kernel_rfl) (by assumption) ⟨_, _, ?_, rfl, rfl, ?_, fun _ _ _ h => h, ?_⟩; rotate_left; · intro w hSw; (try dsimp only at hSw); go_simp; (try with_reducible rfl)) | refine tkB 3 (by kernel_rfl) (by assumption) ⟨_, _, rfl, rfl, fun _ _ _ h => h, ?_⟩
  (try simp only [Act.put, List.setIfInBounds_toArray, List.set_cons_zero, List.set_cons_succ])
  first | (refine tkA 4 (by kernel_rfl) (by assumption) ⟨_, _, ?_, rfl, rfl, ?_, fun _ _ _ h => h, ?_⟩; rotate_left; · intro w hSw; (try dsimp only at hSw); go_simp; (try with_reducible rfl)) | refine tkB 4 (by kernel_rfl) (by assumption) ⟨_, _, rfl, rfl, fun _ _ _ h => h, ?_⟩
  (try simp only [Act.put, List.setIfInBounds_toArray, List.set_cons_zero, List.set_cons_succ])
  refine tkA 5 (by kernel_rfl) (by assumption) ⟨_, _, ?_, rfl, rfl, ?_, fun _ _ _ h => h, ?_⟩; rotate_left; · intro w hSw; (try dsimp only at hSw); go_simp; (try with_reducible rfl)
  (try simp only [Act.put, List.setIfInBounds_toArray, List.set_cons_zero, List.set_cons_succ])
  refine tkA 6 (by kernel_rfl) (by assumption) ⟨_, _, ?_, rfl, rfl, ?_, fun _ _ _ h => h, ?_⟩; rotate_left; · intro w hSw; (try dsimp only at hSw); go_simp; (try with_reducible rfl)
  (try simp only [Act.put, List.setIfInBounds_toArray, List.set_cons_zero, List.set_cons_succ])
  first | (refine tkA 7 (by kernel_rfl) (by assumption) ⟨_, _, ?_, rfl, rfl, ?_, fun _ _ _ h => h, ?_⟩; rotate_left; · intro w hSw; (try dsimp only at hSw); go_simp; (try with_reducible rfl)) | refine tkB 7 (by kernel_rfl) (by assumption) ⟨_, _, rfl, rfl, fun _ _ _ h => h, ?_⟩
  (try simp only [Act.put, List.setIfInBounds_toArray, List.set_cons_zero, List.set_cons_succ])
  first | (refine tkA 8 (by kernel_rfl) (by assumption) ⟨_, _, ?_, rfl, rfl, ?_, fun _ _ _ h => h, ?_⟩; rotate_left; · intro w hSw; (try dsimp only at hSw); go_simp; (try with_reducible rfl)) | refine tkB 8 (by kernel_rfl) (by assumption) ⟨_, _, rfl, rfl, fun _ _ _ h => h, ?_⟩
  (try simp only [Act.put, List.setIfInBounds_toArray, List.set_cons_zero, List.set_cons_succ])
  first | (refine tkA 9 (by kernel_rfl) (by assumption) ⟨_, _, ?_, rfl, rfl, ?_, fun _ _ _ h => h, ?_⟩; rotate_left; · intro w hSw; (try dsimp only at hSw); go_simp; (try with_reducible rfl)) | refine tkB 9 (by kernel_rfl) (by assumption) ⟨_, _, rfl, rfl, fun _ _ _ h => h, ?_⟩
  (try simp only [Act.put, List.setIfInBounds_toArray, List.set_cons_zero, List.set_cons_succ])
  first | (refine tkA 10 (by kernel_rfl) (by assumption) ⟨_, _, ?_, rfl, rfl, ?_, fun _ _ _ h => h, ?_⟩; rotate_left; · intro w hSw; (try dsimp only at hSw); go_simp; (try with_reducible rfl)) | refine tkB 10 (by kernel_rfl) (by assumption) ⟨_, _, rfl, rfl, fun _ _ _ h => h, ?_⟩
  (try simp only [Act.put, List.setIfInBounds_toArray, List.set_cons_zero, List.set_cons_succ])
  first | (refine tkA 11 (by kernel_rfl) (by assumption) ⟨_, _, ?_, rfl, rfl, ?_, fun _ _ _ h => h, ?_⟩; rotate_left; · intro w hSw; (try dsimp only at hSw); go_simp; (try with_reducible rfl)) | refine tkB 11 (by kernel_rfl) (by assumption) ⟨_, _, rfl, rfl, fun _ _ _ h => h, ?_⟩
  (try simp only [Act.put, List.setIfInBounds_toArray, List.set_cons_zero, List.set_cons_succ])
  refine wpAnyH_ready (rs := [12]) (by kernel_rfl) (by simp) ?_
  refine AllReadyH.cons (o := ?oi7) ?hi7 (fun K hK => ?rest7) AllReadyH.nil
  (case hi7 => (simp only [List.getElem?_toArray, List.getElem?_cons_succ, List.getElem?_cons_zero]; rfl))
  obtain ⟨s0, s1, s2, s3, s4, s5, s6, s7, s8, s9⟩ := hHeld
  go_simp
  ((with_reducible refine (HP.out _).mono ?_); rintro e wx1 ⟨rfl, hb⟩)
  replace HW := Lib.hid (below_step HW.out hb)
  refine hK.out _ _ ?_ (fun hHeld => ?_)
  · (try dsimp only); exact ⟨cel_below hb s0, cel_below hb s1, cel_below hb s2, cel_below hb s3, cel_below hb s4, cel_below hb s5, cel_below hb s6, cel_below hb s7, cel_below hb s8, cel_below hb s9⟩
  clear hK K s0 s1 s2 s3 s4 s5 s6 s7 s8 s9 hb
  (try simp only [Act.put, List.setIfInBounds_toArray, List.set_cons_zero, List.set_cons_succ])
  refine tkA 13 (by kernel_rfl) (by assumption) ⟨_, _, ?_, rfl, rfl, ?_, fun _ _ _ h => h, ?_⟩; rotate_left; · intro w hSw; (try dsimp only at hSw); go_simp; (try with_reducible rfl)
  (try simp only [Act.put, List.setIfInBounds_toArray, List.set_cons_zero, List.set_cons_succ])
  refine wpAnyH_done (by kernel_rfl) ?_ _
  obtain ⟨s0, s1, s2, s3, s4, s5, s6, s7, s8, s9⟩ := hHeld
  go_wp2
  go_ret
  exact ⟨rfl, HW.out⟩

theorem choose_lo (kind : Int) (m o : Ct) (w : World) (h : kind < 0) : Calls Try.prog 82 #[.int .i64 kind, m.v, o.v] w fun e w' => e = .returned (.int .i64 1) ∧ Below w.heap.size w w' := by
  have hst : ∀ (fn : Fn) (f c : Array Value) (a : Addr) (w : World), (store a (.func fn f c)).run Try.prog w = stored Try.prog w a (.func fn f c) .plain := fun _ _ _ _ _ => run_store _ _ _ _ _ rfl
  unfold Ct.v
  have q1 : decide (0 ≤ kind) = false := by simp; omega
  clear h
  go_enter Try.func82, Try.ntmps82
  go_wp2_with fail
  have HW := Lib.hid (below_alloc2 (below_alloc1 (Below.refl (World.heap (((w.alloc (.cells #[.int .i64 m.s, .int .i64 m.k, .int .i64 m.a] 27)).alloc (.cells #[.int .i64 o.s, .int .i64 o.k, .int .i64 o.a] 27)).alloc (.cells #[.func (.func 90) #[] #[], .func (.func 91) #[] #[], .func (.func 92) #[] #[], .func (.func 93) #[] #[]] 136))).size (((w.alloc (.cells #[.int .i64 m.s, .int .i64 m.k, .int .i64 m.a] 27)).alloc (.cells #[.int .i64 o.s, .int .i64 o.k, .int .i64 o.a] 27)).alloc (.cells #[.func (.func 90) #[] #[], .func (.func 91) #[] #[], .func (.func 92) #[] #[], .func (.func 93) #[] #[]] 136)))))
  refine wp_region_held_drew (S := fun W => W.cell? ⟨w.heap.size, 0, none⟩ = some (.int .i64 m.s) ∧ W.cell? ⟨w.heap.size, 1, none⟩ = some (.int .i64 m.k) ∧ W.cell? ⟨w.heap.size, 2, none⟩ = some (.int .i64 m.a) ∧ W.cell? ⟨w.heap.size + 1, 0, none⟩ = some (.int .i64 o.s) ∧ W.cell? ⟨w.heap.size + 1, 1, none⟩ = some (.int .i64 o.k) ∧ W.cell? ⟨w.heap.size + 1, 2, none⟩ = some (.int .i64 o.a) ∧ W.cell? ⟨w.heap.size + 1 + 1, 0, none⟩ = some (.func (.func 90) #[] #[]) ∧ W.cell? ⟨w.heap.size + 1 + 1, 1, none⟩ = some (.func (.func 91) #[] #[]) ∧ W.cell? ⟨w.heap.size + 1 + 1, 2, none⟩ = some (.func (.func 92) #[] #[]) ∧ W.cell? ⟨w.heap.size + 1 + 1, 3, none⟩ = some (.func (.func 93) #[] #[])) (by kernel_rfl) ?_ (fun hHeld => ?_)
  · (try dsimp only); exact ⟨by first | assumption | go_simp, by first | assumption | go_simp, by first | assumption | go_simp, by first | assumption | go_simp, by first | assumption | go_simp, by first | assumption | go_simp, by first | assumption | go_simp, by first | assumption | go_simp, by first | assumption | go_simp, by first | assumption | go_simp⟩
  replace HW := Lib.hid (below_drews HW.out 1)
  refine tkA 0 (by kernel_rfl) (by assumption) ⟨_, _, ?_, rfl, rfl, ?_, fun _ _ _ h => h, ?_⟩; rotate_left; · intro w hSw; (try dsimp only at hSw); go_simp; (try with_reducible rfl)
  (try simp only [Act.put, List.setIfInBounds_toArray, List.set_cons_zero, List.set_cons_succ])
  refine tkA 1 (by kernel_rfl) (by assumption) ⟨_, _, ?_, rfl, rfl, ?_, fun _ _ _ h => h, ?_⟩; rotate_left; · intro w hSw; (try dsimp only at hSw); go_simp; (try with_reducible rfl)
  (try simp only [Act.put, List.setIfInBounds_toArray, List.set_cons_zero, List.set_cons_succ])
  refine tkA 2 (by kernel_rfl) (by assumption) ⟨_, _, ?_, rfl, rfl, ?_, fun _ _ _ h => h, ?_⟩; rotate_left; · intro w hSw; (try dsimp only at hSw); go_simp; (try with_reducible rfl)
  (try simp only [Act.put, List.setIfInBounds_toArray, List.set_cons_zero, List.set_cons_succ])
  first | (refine tkA 3 (by kernel_rfl) (by assumption) ⟨_, _, ?_, rfl, rfl, ?_, fun _ _ _ h => h, ?_⟩; rotate_left; · intro w hSw; (try dsimp only at hSw); go_simp; (try with_reducible rfl)) | refine tkB 3 (by kernel_rfl) (by assumption) ⟨_, _, rfl, rfl, fun _ _ _ h => h, ?_⟩
  (try simp only [Act.put, List.setIfInBounds_toArray, List.set_cons_zero, List.set_cons_succ])
  first | (refine tkA 4 (by kernel_rfl) (by assumption) ⟨_, _, ?_, rfl, rfl, ?_, fun _ _ _ h => h, ?_⟩; rotate_left; · intro w hSw; (try dsimp only at hSw); go_simp; (try with_reducible rfl)) | refine tkB 4 (by kernel_rfl) (by assumption) ⟨_, _, rfl, rfl, fun _ _ _ h => h, ?_⟩
  (try simp only [Act.put, List.setIfInBounds_toArray, List.set_cons_zero, List.set_cons_succ])
  refine tkA 5 (by kernel_rfl) (by assumption) ⟨_, _, ?_, rfl, rfl, ?_, fun _ _ _ h => h, ?_⟩; rotate_left; · intro w hSw; (try dsimp only at hSw); go_simp; (try with_reducible rfl)
  (try simp only [Act.put, List.setIfInBounds_toArray, List.set_cons_zero, List.set_cons_succ])
  refine tkA 6 (by kernel_rfl) (by assumption) ⟨_, _, ?_, rfl, rfl, ?_, fun _ _ _ h => h, ?_⟩; rotate_left; · intro w hSw; (try dsimp only at hSw); go_simp; (try with_reducible rfl)
  (try simp only [Act.put, List.setIfInBounds_toArray, List.set_cons_zero, List.set_cons_succ])
  first | (refine tkA 7 (by kernel_rfl) (by assumption) ⟨_, _, ?_, rfl, rfl, ?_, fun _ _ _ h => h, ?_⟩; rotate_left; · intro w hSw; (try dsimp only at hSw); go_simp; (try with_reducible rfl)) | refine tkB 7 (by kernel_rfl) (by assumption) ⟨_, _, rfl, rfl, fun _ _ _ h => h, ?_⟩
  (try simp only [Act.put, List.setIfInBounds_toArray, List.set_cons_zero, List.set_cons_succ])
  first | (refine tkA 8 (by kernel_rfl) (by assumption) ⟨_, _, ?_, rfl, rfl, ?_, fun _ _ _ h => h, ?_⟩; rotate_left; · intro w hSw; (try dsimp only at hSw); go_simp; (try with_reducible rfl)) | refine tkB 8 (by kernel_rfl) (by assumption) ⟨_, _, rfl, rfl, fun _ _ _ h => h, ?_⟩
  (try simp only [Act.put, List.setIfInBounds_toArray, List.set_cons_zero, List.set_cons_succ])
  first | (refine tkA 9 (by kernel_rfl) (by assumption) ⟨_, _, ?_, rfl, rfl, ?_, fun _ _ _ h => h, ?_⟩; rotate_left; · intro w hSw; (try dsimp only at hSw); go_simp; (try with_reducible rfl)) | refine tkB 9 (by kernel_rfl) (by assumption) ⟨_, _, rfl, rfl, fun _ _ _ h => h, ?_⟩
  (try simp only [Act.put, List.setIfInBounds_toArray, List.set_cons_zero, List.set_cons_succ])
  first | (refine tkA 10 (by kernel_rfl) (by assumption) ⟨_, _, ?_, rfl, rfl, ?_, fun _ _ _ h => h, ?_⟩; rotate_left; · intro w hSw; (try dsimp only at hSw); go_simp; (try with_reducible rfl)) | refine tkB 10 (by kernel_rfl) (by assumption) ⟨_, _, rfl, rfl, fun _ _ _ h => h, ?_⟩
  (try simp only [Act.put, List.setIfInBounds_toArray, List.set_cons_zero, List.set_cons_succ])
  first | (refine tkA 11 (by kernel_rfl) (by assumption) ⟨_, _, ?_, rfl, rfl, ?_, fun _ _ _ h => h, ?_⟩; rotate_left; · intro w hSw; (try dsimp only at hSw); go_simp; (try with_reducible rfl)) | refine tkB 11 (by kernel_rfl) (by assumption) ⟨_, _, rfl, rfl, fun _ _ _ h => h, ?_⟩
  (try simp only [Act.put, List.setIfInBounds_toArray, List.set_cons_zero, List.set_cons_succ])
  first | (refine tkA 12 (by kernel_rfl) (by assumption) ⟨_, _, ?_, rfl, rfl, ?_, fun _ _ _ h => h, ?_⟩; rotate_left; · intro w hSw; (try dsimp only at hSw); go_simp; (try with_reducible rfl)) | refine tkB 12 (by kernel_rfl) (by assumption) ⟨_, _, rfl, rfl, fun _ _ _ h => h, ?_⟩
  (try simp only [Act.put, List.setIfInBounds_toArray, List.set_cons_zero, List.set_cons_succ])
  refine tkA 13 (by kernel_rfl) (by assumption) ⟨_, _, ?_, rfl, rfl, ?_, fun _ _ _ h => h, ?_⟩; rotate_left; · intro w hSw; (try dsimp only at hSw); go_simp; (try with_reducible rfl)
  (try simp only [Act.put, List.setIfInBounds_toArray, List.set_cons_zero, List.set_cons_succ])
  refine wpAnyH_done (by kernel_rfl) ?_ _
  obtain ⟨s0, s1, s2, s3, s4, s5, s6, s7, s8, s9⟩ := hHeld
  go_wp2
  go_ret
  exact ⟨rfl, HW.out⟩

theorem choose_hi (kind : Int) (m o : Ct) (w : World) (h : 3 < kind) : Calls Try.prog 82 #[.int .i64 kind, m.v, o.v] w fun e w' => e = .returned (.int .i64 1) ∧ Below w.heap.size w w' := by
  have hst : ∀ (fn : Fn) (f c : Array Value) (a : Addr) (w : World), (store a (.func fn f c)).run Try.prog w = stored Try.prog w a (.func fn f c) .plain := fun _ _ _ _ _ => run_store _ _ _ _ _ rfl
  unfold Ct.v
  have q1 : decide (0 ≤ kind) = true := by simp; omega
  have q2 : decide (kind < 4) = false := by simp; omega
  clear h
  go_enter Try.func82, Try.ntmps82
  go_wp2_with fail
  have HW := Lib.hid (below_alloc2 (below_alloc1 (Below.refl (World.heap (((w.alloc (.cells #[.int .i64 m.s, .int .i64 m.k, .int .i64 m.a] 27)).alloc (.cells #[.int .i64 o.s, .int .i64 o.k, .int .i64 o.a] 27)).alloc (.cells #[.func (.func 90) #[] #[], .func (.func 91) #[] #[], .func (.func 92) #[] #[], .func (.func 93) #[] #[]] 136))).size (((w.alloc (.cells #[.int .i64 m.s, .int .i64 m.k, .int .i64 m.a] 27)).alloc (.cells #[.int .i64 o.s, .int .i64 o.k, .int .i64 o.a] 27)).alloc (.cells #[.func (.func 90) #[] #[], .func (.func 91) #[] #[], .func (.func 92) #[] #[], .func (.func 93) #[] #[]] 136)))))
  refine wp_region_held_drew (S := fun W => W.cell? ⟨w.heap.size, 0, none⟩ = some (.int .i64 m.s) ∧ W.cell? ⟨w.heap.size, 1, none⟩ = some (.int .i64 m.k) ∧ W.cell? ⟨w.heap.size, 2, none⟩ = some (.int .i64 m.a) ∧ W.cell? ⟨w.heap.size + 1, 0, none⟩ = some (.int .i64 o.s) ∧ W.cell? ⟨w.heap.size + 1, 1, none⟩ = some (.int .i64 o.k) ∧ W.cell? ⟨w.heap.size + 1, 2, none⟩ = some (.int .i64 o.a) ∧ W.cell? ⟨w.heap.size + 1 + 1, 0, none⟩ = some (.func (.func 90) #[] #[]) ∧ W.cell? ⟨w.heap.size + 1 + 1, 1, none⟩ = some (.func (.func 91) #[] #[]) ∧ W.cell? ⟨w.heap.size + 1 + 1, 2, none⟩ = some (.func (.func 92) #[] #[]) ∧ W.cell? ⟨w.heap.size + 1 + 1, 3, none⟩ = some (.func (.func 93) #[] #[])) (by kernel_rfl) ?_ (fun hHeld => ?_)
  · (try dsimp only); exact ⟨by first | assumption | go_simp, by first | assumption | go_simp, by first | assumption | go_simp, by first | assumption | go_simp, by first | assumption | go_simp, by first | assumption | go_simp, by first | assumption | go_simp, by first | assumption | go_simp, by first | assumption | go_simp, by first | assumption | go_simp⟩
  replace HW := Lib.hid (below_drews HW.out 1)
  refine tkA 0 (by kernel_rfl) (by assumption) ⟨_, _, ?_, rfl, rfl, ?_, fun _ _ _ h => h, ?_⟩; rotate_left; · intro w hSw; (try dsimp only at hSw); go_simp; (try with_reducible rfl)
  (try simp only [Act.put, List.setIfInBounds_toArray, List.set_cons_zero, List.set_cons_succ])
  refine tkA 1 (by kernel_rfl) (by assumption) ⟨_, _, ?_, rfl, rfl, ?_, fun _ _ _ h => h, ?_⟩; rotate_left; · intro w hSw; (try dsimp only at hSw); go_simp; (try with_reducible rfl)
  (try simp only [Act.put, List.setIfInBounds_toArray, List.set_cons_zero, List.set_cons_succ])
  refine tkA 2 (by kernel_rfl) (by assumption) ⟨_, _, ?_, rfl, rfl, ?_, fun _ _ _ h => h, ?_⟩; rotate_left; · intro w hSw; (try dsimp only at hSw); go_simp; (try with_reducible rfl)
  (try simp only [Act.put, List.setIfInBounds_toArray, List.set_cons_zero, List.set_cons_succ])
  first | (refine tkA 3 (by kernel_rfl) (by assumption) ⟨_, _, ?_, rfl, rfl, ?_, fun _ _ _ h => h, ?_⟩; rotate_left; · intro w hSw; (try dsimp only at hSw); go_simp; (try with_reducible rfl)) | refine tkB 3 (by kernel_rfl) (by assumption) ⟨_, _, rfl, rfl, fun _ _ _ h => h, ?_⟩
  (try simp only [Act.put, List.setIfInBounds_toArray, List.set_cons_zero, List.set_cons_succ])
  first | (refine tkA 4 (by kernel_rfl) (by assumption) ⟨_, _, ?_, rfl, rfl, ?_, fun _ _ _ h => h, ?_⟩; rotate_left; · intro w hSw; (try dsimp only at hSw); go_simp; (try with_reducible rfl)) | refine tkB 4 (by kernel_rfl) (by assumption) ⟨_, _, rfl, rfl, fun _ _ _ h => h, ?_⟩
  (try simp only [Act.put, List.setIfInBounds_toArray, List.set_cons_zero, List.set_cons_succ])
  refine tkA 5 (by kernel_rfl) (by assumption) ⟨_, _, ?_, rfl, rfl, ?_, fun _ _ _ h => h, ?_⟩; rotate_left; · intro w hSw; (try dsimp only at hSw); go_simp; (try with_reducible rfl)
  (try simp only [Act.put, List.setIfInBounds_toArray, List.set_cons_zero, List.set_cons_succ])
  refine tkA 6 (by kernel_rfl) (by assumption) ⟨_, _, ?_, rfl, rfl, ?_, fun _ _ _ h => h, ?_⟩; rotate_left; · intro w hSw; (try dsimp only at hSw); go_simp; (try with_reducible rfl)
  (try simp only [Act.put, List.setIfInBounds_toArray, List.set_cons_zero, List.set_cons_succ])
  first | (refine tkA 7 (by kernel_rfl) (by assumption) ⟨_, _, ?_, rfl, rfl, ?_, fun _ _ _ h => h, ?_⟩; rotate_left; · intro w hSw; (try dsimp only at hSw); go_simp; (try with_reducible rfl)) | refine tkB 7 (by kernel_rfl) (by assumption) ⟨_, _, rfl, rfl, fun _ _ _ h => h, ?_⟩
  (try simp only [Act.put, List.setIfInBounds_toArray, List.set_cons_zero, List.set_cons_succ])
  first | (refine tkA 8 (by kernel_rfl) (by assumption) ⟨_, _, ?_, rfl, rfl, ?_, fun _ _ _ h => h, ?_⟩; rotate_left; · intro w hSw; (try dsimp only at hSw); go_simp; (try with_reducible rfl)) | refine tkB 8 (by kernel_rfl) (by assumption) ⟨_, _, rfl, rfl, fun _ _ _ h => h, ?_⟩
  (try simp only [Act.put, List.setIfInBounds_toArray, List.set_cons_zero, List.set_cons_succ])
  first | (refine tkA 9 (by kernel_rfl) (by assumption) ⟨_, _, ?_, rfl, rfl, ?_, fun _ _ _ h => h, ?_⟩; rotate_left; · intro w hSw; (try dsimp only at hSw); go_simp; (try with_reducible rfl)) | refine tkB 9 (by kernel_rfl) (by assumption) ⟨_, _, rfl, rfl, fun _ _ _ h => h, ?_⟩
  (try simp only [Act.put, List.setIfInBounds_toArray, List.set_cons_zero, List.set_cons_succ])
  first | (refine tkA 10 (by kernel_rfl) (by assumption) ⟨_, _, ?_, rfl, rfl, ?_, fun _ _ _ h => h, ?_⟩; rotate_left; · intro w hSw; (try dsimp only at hSw); go_simp; (try with_reducible rfl)) | refine tkB 10 (by kernel_rfl) (by assumption) ⟨_, _, rfl, rfl, fun _ _ _ h => h, ?_⟩
  (try simp only [Act.put, List.setIfInBounds_toArray, List.set_cons_zero, List.set_cons_succ])
  first | (refine tkA 11 (by kernel_rfl) (by assumption) ⟨_, _, ?_, rfl, rfl, ?_, fun _ _ _ h => h, ?_⟩; rotate_left; · intro w hSw; (try dsimp only at hSw); go_simp; (try with_reducible rfl)) | refine tkB 11 (by kernel_rfl) (by assumption) ⟨_, _, rfl, rfl, fun _ _ _ h => h, ?_⟩
  (try simp only [Act.put, List.setIfInBounds_toArray, List.set_cons_zero, List.set_cons_succ])
  first | (refine tkA 12 (by kernel_rfl) (by assumption) ⟨_, _, ?_, rfl, rfl, ?_, fun _ _ _ h => h, ?_⟩; rotate_left; · intro w hSw; (try dsimp only at hSw); go_simp; (try with_reducible rfl)) | refine tkB 12 (by kernel_rfl) (by assumption) ⟨_, _, rfl, rfl, fun _ _ _ h => h, ?_⟩
  (try simp only [Act.put, List.setIfInBounds_toArray, List.set_cons_zero, List.set_cons_succ])
  refine tkA 13 (by kernel_rfl) (by assumption) ⟨_, _, ?_, rfl, rfl, ?_, fun _ _ _ h => h, ?_⟩; rotate_left; · intro w hSw; (try dsimp only at hSw); go_simp; (try with_reducible rfl)
  (try simp only [Act.put, List.setIfInBounds_toArray, List.set_cons_zero, List.set_cons_succ])
  refine wpAnyH_done (by kernel_rfl) ?_ _
  obtain ⟨s0, s1, s2, s3, s4, s5, s6, s7, s8, s9⟩ := hHeld
  go_wp2
  go_ret
  exact ⟨rfl, HW.out⟩

theorem choose_any (kind : Int) (m o : Ct) (w : World) : Calls Try.prog 82 #[.int .i64 kind, m.v, o.v] w fun e w' => e = .returned (.int .i64 (chooseD kind m o)) ∧ Below w.heap.size w w' := by
  by_cases h1 : kind < 0
  · have e : chooseD kind m o = 1 := chooseD_f (ahead_0 m o (by omega) (by omega) (by omega))
    rw [e]; exact choose_lo kind m o w h1
  by_cases h2 : 3 < kind
  · have e : chooseD kind m o = 1 := chooseD_f (ahead_0 m o (by omega) (by omega) (by omega))
    rw [e]; exact choose_hi kind m o w h2
  have h3 : kind = 0 ∨ kind = 1 ∨ kind = 2 ∨ kind = 3 := by omega
  rcases h3 with rfl | rfl | rfl | rfl
  · exact choose_0f m o w (timid_any m o)
  · by_cases h : m.s < o.s
    · rw [chooseD_t (by rw [ahead_1]; exact decide_eq_true h)]; exact choose_1t m o w (fun w => by have := greedy_any m o w; rwa [decide_eq_true h] at this)
    · rw [chooseD_f (by rw [ahead_1]; exact decide_eq_false h)]; exact choose_1f m o w (fun w => by have := greedy_any m o w; rwa [decide_eq_false h] at this)
  · cases h : karmaB m o
    · rw [chooseD_f (by rw [ahead_2]; exact h)]; exact choose_2f m o w (fun w => by have := karma_any17 m o w; rwa [h] at this)
    · rw [chooseD_t (by rw [ahead_2]; exact h)]; exact choose_2t m o w (fun w => by have := karma_any17 m o w; rwa [h] at this)
  · cases h : mixedB m o
    · rw [chooseD_f (by rw [ahead_3]; exact h)]; exact choose_3f m o w (fun w => by have := mixed_any m o w; rwa [h] at this)
    · rw [chooseD_t (by rw [ahead_3]; exact h)]; exact choose_3t m o w (fun w => by have := mixed_any m o w; rwa [h] at this)

theorem rchoose_1t (m o : Ct) (w : World) (q0 : decide (m.s < o.s) = true) : Calls Try.prog 101 #[.int .i64 1, m.v, o.v] w fun e w' => e = .returned (.int .i64 2) ∧ Below w.heap.size w w' := by
  unfold Ct.v
  go_enter Try.func101, Try.ntmps101
  go_wp2
  go_ret
  exact ⟨rfl, below2 _ _ _⟩

theorem rchoose_1f (m o : Ct) (w : World) (q0 : decide (m.s < o.s) = false) : Calls Try.prog 101 #[.int .i64 1, m.v, o.v] w fun e w' => e = .returned (.int .i64 1) ∧ Below w.heap.size w w' := by
  unfold Ct.v
  go_enter Try.func101, Try.ntmps101
  go_wp2
  go_ret
  exact ⟨rfl, below2 _ _ _⟩

theorem rchoose_2a (m o : Ct) (w : World) (q0 : decide (o.k < m.k) = true) : Calls Try.prog 101 #[.int .i64 2, m.v, o.v] w fun e w' => e = .returned (.int .i64 2) ∧ Below w.heap.size w w' := by
  unfold Ct.v
  go_enter Try.func101, Try.ntmps101
  go_wp2
  go_ret
  exact ⟨rfl, below2 _ _ _⟩

theorem rchoose_2b (m o : Ct) (w : World) (q0 : decide (o.k < m.k) = false) (q1 : (m.k == o.k) = true) (q2 : decide (m.s < o.s) = true) : Calls Try.prog 101 #[.int .i64 2, m.v, o.v] w fun e w' => e = .returned (.int .i64 2) ∧ Below w.heap.size w w' := by
  unfold Ct.v
  go_enter Try.func101, Try.ntmps101
  go_wp2
  go_ret
  exact ⟨rfl, below2 _ _ _⟩

theorem rchoose_2c (m o : Ct) (w : World) (q0 : decide (o.k < m.k) = false) (q1 : (m.k == o.k) = true) (q2 : decide (m.s < o.s) = false) : Calls Try.prog 101 #[.int .i64 2, m.v, o.v] w fun e w' => e = .returned (.int .i64 1) ∧ Below w.heap.size w w' := by
  unfold Ct.v
  go_enter Try.func101, Try.ntmps101
  go_wp2
  go_ret
  exact ⟨rfl, below2 _ _ _⟩

theorem rchoose_2d (m o : Ct) (w : World) (q0 : decide (o.k < m.k) = false) (q1 : (m.k == o.k) = false) : Calls Try.prog 101 #[.int .i64 2, m.v, o.v] w fun e w' => e = .returned (.int .i64 1) ∧ Below w.heap.size w w' := by
  unfold Ct.v
  go_enter Try.func101, Try.ntmps101
  go_wp2
  go_ret
  exact ⟨rfl, below2 _ _ _⟩

theorem rchoose_3a (m o : Ct) (w : World) (q0 : decide (1 < m.a) = true) (q1 : decide (m.s < o.s) = true) : Calls Try.prog 101 #[.int .i64 3, m.v, o.v] w fun e w' => e = .returned (.int .i64 2) ∧ Below w.heap.size w w' := by
  unfold Ct.v
  go_enter Try.func101, Try.ntmps101
  go_wp2
  go_ret
  exact ⟨rfl, below2 _ _ _⟩

theorem rchoose_3b (m o : Ct) (w : World) (q0 : decide (1 < m.a) = true) (q1 : decide (m.s < o.s) = false) : Calls Try.prog 101 #[.int .i64 3, m.v, o.v] w fun e w' => e = .returned (.int .i64 1) ∧ Below w.heap.size w w' := by
  unfold Ct.v
  go_enter Try.func101, Try.ntmps101
  go_wp2
  go_ret
  exact ⟨rfl, below2 _ _ _⟩

theorem rchoose_3c (m o : Ct) (w : World) (q0 : decide (1 < m.a) = false) : Calls Try.prog 101 #[.int .i64 3, m.v, o.v] w fun e w' => e = .returned (.int .i64 1) ∧ Below w.heap.size w w' := by
  unfold Ct.v
  go_enter Try.func101, Try.ntmps101
  go_wp2
  go_ret
  exact ⟨rfl, below2 _ _ _⟩

theorem rchoose_0 (kind : Int) (m o : Ct) (w : World) (q0 : (kind == 1) = false) (q1 : (kind == 2) = false) (q2 : (kind == 3) = false) : Calls Try.prog 101 #[.int .i64 kind, m.v, o.v] w fun e w' => e = .returned (.int .i64 1) ∧ Below w.heap.size w w' := by
  unfold Ct.v
  go_enter Try.func101, Try.ntmps101
  go_wp2
  go_ret
  exact ⟨rfl, below2 _ _ _⟩

theorem rchoose_any (kind : Int) (m o : Ct) (w : World) : Calls Try.prog 101 #[.int .i64 kind, m.v, o.v] w fun e w' => e = .returned (.int .i64 (chooseD kind m o)) ∧ Below w.heap.size w w' := by
  by_cases h1 : kind = 1
  · subst h1
    by_cases h : m.s < o.s
    · rw [chooseD_t (by rw [ahead_1]; exact decide_eq_true h)]; exact rchoose_1t m o w (decide_eq_true h)
    · rw [chooseD_f (by rw [ahead_1]; exact decide_eq_false h)]; exact rchoose_1f m o w (decide_eq_false h)
  by_cases h2 : kind = 2
  · subst h2
    by_cases g : m.k = o.k
    · have e : ahead 2 m o = decide (m.s < o.s) := by rw [ahead_2]; unfold karmaB; rw [if_pos g]
      by_cases h : m.s < o.s
      · rw [chooseD_t (by rw [e]; exact decide_eq_true h)]; exact rchoose_2b m o w (decide_eq_false (by omega)) (by simp [g]) (decide_eq_true h)
      · rw [chooseD_f (by rw [e]; exact decide_eq_false h)]; exact rchoose_2c m o w (decide_eq_false (by omega)) (by simp [g]) (decide_eq_false h)
    · have e : ahead 2 m o = decide (o.k < m.k) := by rw [ahead_2]; unfold karmaB; rw [if_neg g]
      by_cases h : o.k < m.k
      · rw [chooseD_t (by rw [e]; exact decide_eq_true h)]; exact rchoose_2a m o w (decide_eq_true h)
      · rw [chooseD_f (by rw [e]; exact decide_eq_false h)]; exact rchoose_2d m o w (decide_eq_false h) (by simp [g])
  by_cases h3 : kind = 3
  · subst h3
    by_cases g : 2 ≤ m.a
    · have e : ahead 3 m o = decide (m.s < o.s) := by rw [ahead_3]; unfold mixedB; rw [decide_eq_true g, Bool.true_and]
      by_cases h : m.s < o.s
      · rw [chooseD_t (by rw [e]; exact decide_eq_true h)]; exact rchoose_3a m o w (decide_eq_true (by omega)) (decide_eq_true h)
      · rw [chooseD_f (by rw [e]; exact decide_eq_false h)]; exact rchoose_3b m o w (decide_eq_true (by omega)) (decide_eq_false h)
    · have e : ahead 3 m o = false := by rw [ahead_3]; unfold mixedB; rw [decide_eq_false g, Bool.false_and]
      rw [chooseD_f e]; exact rchoose_3c m o w (decide_eq_false (by omega))
  · have e : chooseD kind m o = 1 := chooseD_f (ahead_0 m o h1 h2 h3)
    rw [e]; exact rchoose_0 kind m o w (by simp [h1]) (by simp [h2]) (by simp [h3])

end Go.Proofs.Ytdfngmplfgifiaa


/-
  Layer 17: the accesses by which a transaction resolves a conflict, as their tree.
-/
namespace Go.Proofs.Ytdfngmplfgifiaa
set_option linter.unusedVariables false
set_option linter.unusedSimpArgs false
set_option maxRecDepth 100000
set_option maxHeartbeats 4000000
open Go.ChangeShapes Go.WideShapes Go.ChangeAt Go.RowKit

def doomT (L : Ly) (other s : Int) : Tree :=
  if s % 4 = 1 then .ask ⟨3, atStatus L other, s, wrap64 (4 * (s / 4) + 3)⟩ fun u => if u.2 = true then .ret { val := 2 } else .ret { val := 0 }
  else if s % 4 = 3 then .ret { val := 2 } else .ret { val := 3 }
def asksT (L : Ly) (other : Int) (m : Ct) : Tree :=
  .ask ⟨1, atStatus L other, 0, 0⟩ fun s => if s.1 % 4 = 0 then .ret { val := 0 } else .ask ⟨1, atStamp L other, 0, 0⟩ fun t => .ask ⟨1, atKarma L other, 0, 0⟩ fun k =>
    if chooseD L.c.m m ⟨t.1, k.1, s.1 / 4⟩ = 1 then .ret { val := 1 } else doomT L other s.1
def resolveT (L : Ly) (me other : Int) (own : Bool) (m : Ct) : Tree :=
  if own = true then .ask ⟨1, atStatus L me, 0, 0⟩ fun r => if r.1 % 4 = 3 then .ret { val := 1, lost := true } else asksT L other m
  else asksT L other m
def caseV (L : Ly) (me other : Int) (own : Bool) (m : Ct) : Value := .agg #[.int .i64 L.c.t, .int .i64 L.c.l, .int .i64 L.c.k, .int .i64 L.c.s, .int .i64 L.c.m, .int .i64 L.clock, .int .i64 L.stamps, .int .i64 L.log, .int .i64 L.fin, .int .i64 L.thread, .int .i64 L.lock, .int .i64 L.loc, .int .i64 L.size, .int .i64 me, .int .i64 other, .bool own, .int .i64 m.s, .int .i64 m.k, .int .i64 m.a, .func (.func 82) #[] #[]]

theorem doom_1 (w : World) (g : Nat) (L : Ly) (hok : L.ok) (me other : Int) (own : Bool) (m : Ct) (s : Int) (h0 : RunAt w g []) (hs : I64 s) (hk : s % 4 = 1) :
    Calls Try.prog 96 #[caseV L me other own m, .pointer (some ⟨g, 0, none⟩), .int .i64 s] w fun e w' => e = .panicked [{ v := .iface 122 (Ask.v ⟨3, atStatus L other, s, wrap64 (4 * (s / 4) + 3)⟩), recovered := false }] ∧ w.grownBy w' (some g) := by
  unfold caseV
  have HS : Hid (∀ w, Calls Try.prog 39 #[L.v, .int .i64 other] w fun e w' => e = .returned (.int .i64 (atStatus L other)) ∧ Below w.heap.size w w') := Lib.hid (fun w => status_any L other w hok)
  unfold Ly.v at HS
  have hk1 : (s % 4 == 1) = true := by simp; omega
  have hg0 := runAt_lt h0
  have G : w.grownBy w (some g) := gb_refl _ _
  have hS0 : w.heap.size + 0 ≤ w.heap.size := Nat.le_refl _
  go_enter Try.func96, Try.ntmps96
  go_wp2_with fail
  obtain ⟨w1, hwr⟩ : ∃ W, W = ((w.alloc (.cells #[.int .i64 L.c.t, .int .i64 L.c.l, .int .i64 L.c.k, .int .i64 L.c.s, .int .i64 L.c.m, .int .i64 L.clock, .int .i64 L.stamps, .int .i64 L.log, .int .i64 L.fin, .int .i64 L.thread, .int .i64 L.lock, .int .i64 L.loc, .int .i64 L.size, .int .i64 me, .int .i64 other, .bool own, .int .i64 m.s, .int .i64 m.k, .int .i64 m.a, .func (.func 82) #[] #[]] 131)).alloc (.cells #[.int .i64 0, .int .i64 0, .int .i64 0, .int .i64 0, .bool false, .bool false, .int .i64 0] 42)) := ⟨_, rfl⟩
  rw [← hwr]
  have hb : Below w.heap.size w w1 := by rw [hwr]; exact (Below.alloc (Below.alloc (Below.refl _ _) (by first | exact Nat.le_refl _ | (simp; omega) | simp) _) (by first | exact Nat.le_refl _ | (simp; omega) | simp) _)
  have cc : CellsAt w1 (w.heap.size) [.int .i64 L.c.t, .int .i64 L.c.l, .int .i64 L.c.k, .int .i64 L.c.s, .int .i64 L.c.m, .int .i64 L.clock, .int .i64 L.stamps, .int .i64 L.log, .int .i64 L.fin, .int .i64 L.thread, .int .i64 L.lock, .int .i64 L.loc, .int .i64 L.size, .int .i64 me, .int .i64 other, .bool own, .int .i64 m.s, .int .i64 m.k, .int .i64 m.a, .func (.func 82) #[] #[]] := by rw [hwr]; exact (cellsAt_alloc (cellsAt_new' w _ _ (w.heap.size) (by simp)) _)
  have ccz : w.heap.size < w1.heap.size := World.block_lt_of_cell? _ _ (cc 0 _ rfl)
  have oz : OutZ w1 (w.heap.size + 1) := by rw [hwr]; exact (OutZ.new' (w.alloc (.cells #[.int .i64 L.c.t, .int .i64 L.c.l, .int .i64 L.c.k, .int .i64 L.c.s, .int .i64 L.c.m, .int .i64 L.clock, .int .i64 L.stamps, .int .i64 L.log, .int .i64 L.fin, .int .i64 L.thread, .int .i64 L.lock, .int .i64 L.loc, .int .i64 L.size, .int .i64 me, .int .i64 other, .bool own, .int .i64 m.s, .int .i64 m.k, .int .i64 m.a, .func (.func 82) #[] #[]] 131)) _ (w.heap.size + 1) (by simp))
  have ozz : w.heap.size + 1 < w1.heap.size := OutZ.lt oz
  have h1 := runAt_keep h0 hb
  replace G := gb_trans G (gb_of_below (some g) hb)
  clear hb hwr
  replace hS0 := G.size
  have cc_4 := cc 4 _ rfl
  have cc_13 := cc 13 _ rfl
  have cc_14 := cc 14 _ rfl
  have cc_15 := cc 15 _ rfl
  have cc_16 := cc 16 _ rfl
  have cc_17 := cc 17 _ rfl
  have cc_18 := cc 18 _ rfl
  have cc_19 := cc 19 _ rfl
  go_wp2_with (first | ((with_reducible refine ld_layT cc ?a1 ?h1); (case a1 => exact ⟨_, rfl, rfl, rfl⟩)) | ((with_reducible refine ld_case cc rfl ?a2 ?h2); (case a2 => exact ⟨_, rfl, rfl, rfl⟩)))
  ((with_reducible refine (kind_any _ _).mono ?_); rintro e w' ⟨rfl, rfl⟩)
  go_wp2_with (first | ((with_reducible refine ld_layT cc ?a3 ?h3); (case a3 => exact ⟨_, rfl, rfl, rfl⟩)) | ((with_reducible refine ld_case cc rfl ?a4 ?h4); (case a4 => exact ⟨_, rfl, rfl, rfl⟩)))
  ((with_reducible refine (try_any _ hs _).mono ?_); rintro e w' ⟨rfl, rfl⟩)
  go_wp2_with (first | ((with_reducible refine ld_layT cc ?a5 ?h5); (case a5 => exact ⟨_, rfl, rfl, rfl⟩)) | ((with_reducible refine ld_case cc rfl ?a6 ?h6); (case a6 => exact ⟨_, rfl, rfl, rfl⟩)))
  ((with_reducible refine (wstatus_any _ _ _).mono ?_); rintro e w' ⟨rfl, rfl⟩)
  go_wp2_with (first | ((with_reducible refine ld_layT cc ?a7 ?h7); (case a7 => exact ⟨_, rfl, rfl, rfl⟩)) | ((with_reducible refine ld_case cc rfl ?a8 ?h8); (case a8 => exact ⟨_, rfl, rfl, rfl⟩)))
  ((with_reducible refine (HS.out _).mono ?_); rintro e w2 ⟨rfl, hb⟩)
  clear cc_4 cc_13 cc_14 cc_15 cc_16 cc_17 cc_18 cc_19
  have hsz := hb.size
  (try simp at hsz)
  replace cc := cellsAt_keep cc hb
  replace oz := OutZ.below oz hb
  replace ccz : w.heap.size < w2.heap.size := by omega
  replace ozz : w.heap.size + 1 < w2.heap.size := by omega
  have h2 := runAt_keep h1 hb
  replace G := gb_trans G (gb_of_below (some g) hb)
  clear hb hsz
  replace hS0 := G.size
  have cc_4 := cc 4 _ rfl
  have cc_13 := cc 13 _ rfl
  have cc_14 := cc 14 _ rfl
  have cc_15 := cc 15 _ rfl
  have cc_16 := cc 16 _ rfl
  have cc_17 := cc 17 _ rfl
  have cc_18 := cc 18 _ rfl
  have cc_19 := cc 19 _ rfl
  go_wp2_with (first | ((with_reducible refine ld_layT cc ?a9 ?h9); (case a9 => exact ⟨_, rfl, rfl, rfl⟩)) | ((with_reducible refine ld_case cc rfl ?a10 ?h10); (case a10 => exact ⟨_, rfl, rfl, rfl⟩)))
  ((with_reducible refine (swap_none _ g _ _ _ h2).mono ?_); rintro e w3 ⟨rfl, hb⟩)
  exact ⟨rfl, rfl, gb_trans G (gb_of_below (some g) hb)⟩

theorem doom_t (w : World) (g : Nat) (L : Ly) (hok : L.ok) (me other : Int) (own : Bool) (m : Ct) (s n : Int) (l : List (Int × Bool)) (h0 : RunAt w g ((n, true) :: l)) (hs : I64 s) (hk : s % 4 = 1) :
    Calls Try.prog 96 #[caseV L me other own m, .pointer (some ⟨g, 0, none⟩), .int .i64 s] w fun e w' => e = .returned (OutD.v { val := 2 }) ∧ w.grownBy w' (some g) := by
  unfold caseV
  have HS : Hid (∀ w, Calls Try.prog 39 #[L.v, .int .i64 other] w fun e w' => e = .returned (.int .i64 (atStatus L other)) ∧ Below w.heap.size w w') := Lib.hid (fun w => status_any L other w hok)
  unfold Ly.v at HS
  have hk1 : (s % 4 == 1) = true := by simp; omega
  have hg0 := runAt_lt h0
  have G : w.grownBy w (some g) := gb_refl _ _
  have hS0 : w.heap.size + 0 ≤ w.heap.size := Nat.le_refl _
  go_enter Try.func96, Try.ntmps96
  go_wp2_with fail
  obtain ⟨w1, hwr⟩ : ∃ W, W = ((w.alloc (.cells #[.int .i64 L.c.t, .int .i64 L.c.l, .int .i64 L.c.k, .int .i64 L.c.s, .int .i64 L.c.m, .int .i64 L.clock, .int .i64 L.stamps, .int .i64 L.log, .int .i64 L.fin, .int .i64 L.thread, .int .i64 L.lock, .int .i64 L.loc, .int .i64 L.size, .int .i64 me, .int .i64 other, .bool own, .int .i64 m.s, .int .i64 m.k, .int .i64 m.a, .func (.func 82) #[] #[]] 131)).alloc (.cells #[.int .i64 0, .int .i64 0, .int .i64 0, .int .i64 0, .bool false, .bool false, .int .i64 0] 42)) := ⟨_, rfl⟩
  rw [← hwr]
  have hb : Below w.heap.size w w1 := by rw [hwr]; exact (Below.alloc (Below.alloc (Below.refl _ _) (by first | exact Nat.le_refl _ | (simp; omega) | simp) _) (by first | exact Nat.le_refl _ | (simp; omega) | simp) _)
  have cc : CellsAt w1 (w.heap.size) [.int .i64 L.c.t, .int .i64 L.c.l, .int .i64 L.c.k, .int .i64 L.c.s, .int .i64 L.c.m, .int .i64 L.clock, .int .i64 L.stamps, .int .i64 L.log, .int .i64 L.fin, .int .i64 L.thread, .int .i64 L.lock, .int .i64 L.loc, .int .i64 L.size, .int .i64 me, .int .i64 other, .bool own, .int .i64 m.s, .int .i64 m.k, .int .i64 m.a, .func (.func 82) #[] #[]] := by rw [hwr]; exact (cellsAt_alloc (cellsAt_new' w _ _ (w.heap.size) (by simp)) _)
  have ccz : w.heap.size < w1.heap.size := World.block_lt_of_cell? _ _ (cc 0 _ rfl)
  have oz : OutZ w1 (w.heap.size + 1) := by rw [hwr]; exact (OutZ.new' (w.alloc (.cells #[.int .i64 L.c.t, .int .i64 L.c.l, .int .i64 L.c.k, .int .i64 L.c.s, .int .i64 L.c.m, .int .i64 L.clock, .int .i64 L.stamps, .int .i64 L.log, .int .i64 L.fin, .int .i64 L.thread, .int .i64 L.lock, .int .i64 L.loc, .int .i64 L.size, .int .i64 me, .int .i64 other, .bool own, .int .i64 m.s, .int .i64 m.k, .int .i64 m.a, .func (.func 82) #[] #[]] 131)) _ (w.heap.size + 1) (by simp))
  have ozz : w.heap.size + 1 < w1.heap.size := OutZ.lt oz
  have h1 := runAt_keep h0 hb
  replace G := gb_trans G (gb_of_below (some g) hb)
  clear hb hwr
  replace hS0 := G.size
  have cc_4 := cc 4 _ rfl
  have cc_13 := cc 13 _ rfl
  have cc_14 := cc 14 _ rfl
  have cc_15 := cc 15 _ rfl
  have cc_16 := cc 16 _ rfl
  have cc_17 := cc 17 _ rfl
  have cc_18 := cc 18 _ rfl
  have cc_19 := cc 19 _ rfl
  go_wp2_with (first | ((with_reducible refine ld_layT cc ?a11 ?h11); (case a11 => exact ⟨_, rfl, rfl, rfl⟩)) | ((with_reducible refine ld_case cc rfl ?a12 ?h12); (case a12 => exact ⟨_, rfl, rfl, rfl⟩)))
  ((with_reducible refine (kind_any _ _).mono ?_); rintro e w' ⟨rfl, rfl⟩)
  go_wp2_with (first | ((with_reducible refine ld_layT cc ?a13 ?h13); (case a13 => exact ⟨_, rfl, rfl, rfl⟩)) | ((with_reducible refine ld_case cc rfl ?a14 ?h14); (case a14 => exact ⟨_, rfl, rfl, rfl⟩)))
  ((with_reducible refine (try_any _ hs _).mono ?_); rintro e w' ⟨rfl, rfl⟩)
  go_wp2_with (first | ((with_reducible refine ld_layT cc ?a15 ?h15); (case a15 => exact ⟨_, rfl, rfl, rfl⟩)) | ((with_reducible refine ld_case cc rfl ?a16 ?h16); (case a16 => exact ⟨_, rfl, rfl, rfl⟩)))
  ((with_reducible refine (wstatus_any _ _ _).mono ?_); rintro e w' ⟨rfl, rfl⟩)
  go_wp2_with (first | ((with_reducible refine ld_layT cc ?a17 ?h17); (case a17 => exact ⟨_, rfl, rfl, rfl⟩)) | ((with_reducible refine ld_case cc rfl ?a18 ?h18); (case a18 => exact ⟨_, rfl, rfl, rfl⟩)))
  ((with_reducible refine (HS.out _).mono ?_); rintro e w2 ⟨rfl, hb⟩)
  clear cc_4 cc_13 cc_14 cc_15 cc_16 cc_17 cc_18 cc_19
  have hsz := hb.size
  (try simp at hsz)
  replace cc := cellsAt_keep cc hb
  replace oz := OutZ.below oz hb
  replace ccz : w.heap.size < w2.heap.size := by omega
  replace ozz : w.heap.size + 1 < w2.heap.size := by omega
  have h2 := runAt_keep h1 hb
  replace G := gb_trans G (gb_of_below (some g) hb)
  clear hb hsz
  replace hS0 := G.size
  have cc_4 := cc 4 _ rfl
  have cc_13 := cc 13 _ rfl
  have cc_14 := cc 14 _ rfl
  have cc_15 := cc 15 _ rfl
  have cc_16 := cc 16 _ rfl
  have cc_17 := cc 17 _ rfl
  have cc_18 := cc 18 _ rfl
  have cc_19 := cc 19 _ rfl
  go_wp2_with (first | ((with_reducible refine ld_layT cc ?a19 ?h19); (case a19 => exact ⟨_, rfl, rfl, rfl⟩)) | ((with_reducible refine ld_case cc rfl ?a20 ?h20); (case a20 => exact ⟨_, rfl, rfl, rfl⟩)))
  ((with_reducible refine (swap_some _ g _ _ _ _ _ h2).mono ?_); rintro e w3 ⟨rfl, h3, hb⟩)
  clear cc_4 cc_13 cc_14 cc_15 cc_16 cc_17 cc_18 cc_19
  have hsz := hb.size
  (try simp at hsz)
  replace cc := cellsAt_gb cc hb (by omega)
  replace oz := OutZ.gb oz hb (by omega)
  replace ccz : w.heap.size < w3.heap.size := by omega
  replace ozz : w.heap.size + 1 < w3.heap.size := by omega
  replace G := gb_trans G hb
  clear hb hsz
  replace hS0 := G.size
  have cc_4 := cc 4 _ rfl
  have cc_13 := cc 13 _ rfl
  have cc_14 := cc 14 _ rfl
  have cc_15 := cc 15 _ rfl
  have cc_16 := cc 16 _ rfl
  have cc_17 := cc 17 _ rfl
  have cc_18 := cc 18 _ rfl
  have cc_19 := cc 19 _ rfl
  have oq0 := oz.c0
  have oq1 := oz.c1
  have oq2 := oz.c2
  have oq3 := oz.c3
  have oq4 := oz.c4
  have oq5 := oz.c5
  have oq6 := oz.c6
  have of := oz.fr
  go_wp2_with (first | ((with_reducible refine ld_layT cc ?a21 ?h21); (case a21 => exact ⟨_, rfl, rfl, rfl⟩)) | ((with_reducible refine ld_case cc rfl ?a22 ?h22); (case a22 => exact ⟨_, rfl, rfl, rfl⟩)))
  obtain ⟨W, hW, k0, k1, k2, k3, k4, k5, k6⟩ := outs_at oz (.int .i64 (2)) (.int .i64 (0)) (.int .i64 (0)) (.int .i64 (0)) (.bool false) (.bool false) (.int .i64 (0))
  rw [← hW]
  simp [bodyPost, results, Try.results96, go_sem, k0, k1, k2, k3, k4, k5, k6, OutD.v]
  rw [hW]
  exact gb_outs G (by first | exact Nat.le_refl _ | omega) _ _ _ _ _ _ _

theorem doom_f (w : World) (g : Nat) (L : Ly) (hok : L.ok) (me other : Int) (own : Bool) (m : Ct) (s n : Int) (l : List (Int × Bool)) (h0 : RunAt w g ((n, false) :: l)) (hs : I64 s) (hk : s % 4 = 1) :
    Calls Try.prog 96 #[caseV L me other own m, .pointer (some ⟨g, 0, none⟩), .int .i64 s] w fun e w' => e = .returned (OutD.v { val := 0 }) ∧ w.grownBy w' (some g) := by
  unfold caseV
  have HS : Hid (∀ w, Calls Try.prog 39 #[L.v, .int .i64 other] w fun e w' => e = .returned (.int .i64 (atStatus L other)) ∧ Below w.heap.size w w') := Lib.hid (fun w => status_any L other w hok)
  unfold Ly.v at HS
  have hk1 : (s % 4 == 1) = true := by simp; omega
  have hg0 := runAt_lt h0
  have G : w.grownBy w (some g) := gb_refl _ _
  have hS0 : w.heap.size + 0 ≤ w.heap.size := Nat.le_refl _
  go_enter Try.func96, Try.ntmps96
  go_wp2_with fail
  obtain ⟨w1, hwr⟩ : ∃ W, W = ((w.alloc (.cells #[.int .i64 L.c.t, .int .i64 L.c.l, .int .i64 L.c.k, .int .i64 L.c.s, .int .i64 L.c.m, .int .i64 L.clock, .int .i64 L.stamps, .int .i64 L.log, .int .i64 L.fin, .int .i64 L.thread, .int .i64 L.lock, .int .i64 L.loc, .int .i64 L.size, .int .i64 me, .int .i64 other, .bool own, .int .i64 m.s, .int .i64 m.k, .int .i64 m.a, .func (.func 82) #[] #[]] 131)).alloc (.cells #[.int .i64 0, .int .i64 0, .int .i64 0, .int .i64 0, .bool false, .bool false, .int .i64 0] 42)) := ⟨_, rfl⟩
  rw [← hwr]
  have hb : Below w.heap.size w w1 := by rw [hwr]; exact (Below.alloc (Below.alloc (Below.refl _ _) (by first | exact Nat.le_refl _ | (simp; omega) | simp) _) (by first | exact Nat.le_refl _ | (simp; omega) | simp) _)
  have cc : CellsAt w1 (w.heap.size) [.int .i64 L.c.t, .int .i64 L.c.l, .int .i64 L.c.k, .int .i64 L.c.s, .int .i64 L.c.m, .int .i64 L.clock, .int .i64 L.stamps, .int .i64 L.log, .int .i64 L.fin, .int .i64 L.thread, .int .i64 L.lock, .int .i64 L.loc, .int .i64 L.size, .int .i64 me, .int .i64 other, .bool own, .int .i64 m.s, .int .i64 m.k, .int .i64 m.a, .func (.func 82) #[] #[]] := by rw [hwr]; exact (cellsAt_alloc (cellsAt_new' w _ _ (w.heap.size) (by simp)) _)
  have ccz : w.heap.size < w1.heap.size := World.block_lt_of_cell? _ _ (cc 0 _ rfl)
  have oz : OutZ w1 (w.heap.size + 1) := by rw [hwr]; exact (OutZ.new' (w.alloc (.cells #[.int .i64 L.c.t, .int .i64 L.c.l, .int .i64 L.c.k, .int .i64 L.c.s, .int .i64 L.c.m, .int .i64 L.clock, .int .i64 L.stamps, .int .i64 L.log, .int .i64 L.fin, .int .i64 L.thread, .int .i64 L.lock, .int .i64 L.loc, .int .i64 L.size, .int .i64 me, .int .i64 other, .bool own, .int .i64 m.s, .int .i64 m.k, .int .i64 m.a, .func (.func 82) #[] #[]] 131)) _ (w.heap.size + 1) (by simp))
  have ozz : w.heap.size + 1 < w1.heap.size := OutZ.lt oz
  have h1 := runAt_keep h0 hb
  replace G := gb_trans G (gb_of_below (some g) hb)
  clear hb hwr
  replace hS0 := G.size
  have cc_4 := cc 4 _ rfl
  have cc_13 := cc 13 _ rfl
  have cc_14 := cc 14 _ rfl
  have cc_15 := cc 15 _ rfl
  have cc_16 := cc 16 _ rfl
  have cc_17 := cc 17 _ rfl
  have cc_18 := cc 18 _ rfl
  have cc_19 := cc 19 _ rfl
  go_wp2_with (first | ((with_reducible refine ld_layT cc ?a23 ?h23); (case a23 => exact ⟨_, rfl, rfl, rfl⟩)) | ((with_reducible refine ld_case cc rfl ?a24 ?h24); (case a24 => exact ⟨_, rfl, rfl, rfl⟩)))
  ((with_reducible refine (kind_any _ _).mono ?_); rintro e w' ⟨rfl, rfl⟩)
  go_wp2_with (first | ((with_reducible refine ld_layT cc ?a25 ?h25); (case a25 => exact ⟨_, rfl, rfl, rfl⟩)) | ((with_reducible refine ld_case cc rfl ?a26 ?h26); (case a26 => exact ⟨_, rfl, rfl, rfl⟩)))
  ((with_reducible refine (try_any _ hs _).mono ?_); rintro e w' ⟨rfl, rfl⟩)
  go_wp2_with (first | ((with_reducible refine ld_layT cc ?a27 ?h27); (case a27 => exact ⟨_, rfl, rfl, rfl⟩)) | ((with_reducible refine ld_case cc rfl ?a28 ?h28); (case a28 => exact ⟨_, rfl, rfl, rfl⟩)))
  ((with_reducible refine (wstatus_any _ _ _).mono ?_); rintro e w' ⟨rfl, rfl⟩)
  go_wp2_with (first | ((with_reducible refine ld_layT cc ?a29 ?h29); (case a29 => exact ⟨_, rfl, rfl, rfl⟩)) | ((with_reducible refine ld_case cc rfl ?a30 ?h30); (case a30 => exact ⟨_, rfl, rfl, rfl⟩)))
  ((with_reducible refine (HS.out _).mono ?_); rintro e w2 ⟨rfl, hb⟩)
  clear cc_4 cc_13 cc_14 cc_15 cc_16 cc_17 cc_18 cc_19
  have hsz := hb.size
  (try simp at hsz)
  replace cc := cellsAt_keep cc hb
  replace oz := OutZ.below oz hb
  replace ccz : w.heap.size < w2.heap.size := by omega
  replace ozz : w.heap.size + 1 < w2.heap.size := by omega
  have h2 := runAt_keep h1 hb
  replace G := gb_trans G (gb_of_below (some g) hb)
  clear hb hsz
  replace hS0 := G.size
  have cc_4 := cc 4 _ rfl
  have cc_13 := cc 13 _ rfl
  have cc_14 := cc 14 _ rfl
  have cc_15 := cc 15 _ rfl
  have cc_16 := cc 16 _ rfl
  have cc_17 := cc 17 _ rfl
  have cc_18 := cc 18 _ rfl
  have cc_19 := cc 19 _ rfl
  go_wp2_with (first | ((with_reducible refine ld_layT cc ?a31 ?h31); (case a31 => exact ⟨_, rfl, rfl, rfl⟩)) | ((with_reducible refine ld_case cc rfl ?a32 ?h32); (case a32 => exact ⟨_, rfl, rfl, rfl⟩)))
  ((with_reducible refine (swap_some _ g _ _ _ _ _ h2).mono ?_); rintro e w3 ⟨rfl, h3, hb⟩)
  clear cc_4 cc_13 cc_14 cc_15 cc_16 cc_17 cc_18 cc_19
  have hsz := hb.size
  (try simp at hsz)
  replace cc := cellsAt_gb cc hb (by omega)
  replace oz := OutZ.gb oz hb (by omega)
  replace ccz : w.heap.size < w3.heap.size := by omega
  replace ozz : w.heap.size + 1 < w3.heap.size := by omega
  replace G := gb_trans G hb
  clear hb hsz
  replace hS0 := G.size
  have cc_4 := cc 4 _ rfl
  have cc_13 := cc 13 _ rfl
  have cc_14 := cc 14 _ rfl
  have cc_15 := cc 15 _ rfl
  have cc_16 := cc 16 _ rfl
  have cc_17 := cc 17 _ rfl
  have cc_18 := cc 18 _ rfl
  have cc_19 := cc 19 _ rfl
  have oq0 := oz.c0
  have oq1 := oz.c1
  have oq2 := oz.c2
  have oq3 := oz.c3
  have oq4 := oz.c4
  have oq5 := oz.c5
  have oq6 := oz.c6
  have of := oz.fr
  go_wp2_with (first | ((with_reducible refine ld_layT cc ?a33 ?h33); (case a33 => exact ⟨_, rfl, rfl, rfl⟩)) | ((with_reducible refine ld_case cc rfl ?a34 ?h34); (case a34 => exact ⟨_, rfl, rfl, rfl⟩)))
  obtain ⟨W, hW, k0, k1, k2, k3, k4, k5, k6⟩ := outs_at oz (.int .i64 (0)) (.int .i64 (0)) (.int .i64 (0)) (.int .i64 (0)) (.bool false) (.bool false) (.int .i64 (0))
  rw [← hW]
  simp [bodyPost, results, Try.results96, go_sem, k0, k1, k2, k3, k4, k5, k6, OutD.v]
  rw [hW]
  exact gb_outs G (by first | exact Nat.le_refl _ | omega) _ _ _ _ _ _ _

theorem doom_3 (w : World) (g : Nat) (L : Ly) (hok : L.ok) (me other : Int) (own : Bool) (m : Ct) (s : Int) (l : List (Int × Bool)) (h0 : RunAt w g l) (hk : s % 4 = 3) :
    Calls Try.prog 96 #[caseV L me other own m, .pointer (some ⟨g, 0, none⟩), .int .i64 s] w fun e w' => e = .returned (OutD.v { val := 2 }) ∧ w.grownBy w' (some g) := by
  unfold caseV
  have hk1 : (s % 4 == 1) = false := by simp; omega
  have hk3 : (s % 4 == 3) = true := by simp; omega
  have hg0 := runAt_lt h0
  have G : w.grownBy w (some g) := gb_refl _ _
  have hS0 : w.heap.size + 0 ≤ w.heap.size := Nat.le_refl _
  go_enter Try.func96, Try.ntmps96
  go_wp2_with fail
  obtain ⟨w1, hwr⟩ : ∃ W, W = ((w.alloc (.cells #[.int .i64 L.c.t, .int .i64 L.c.l, .int .i64 L.c.k, .int .i64 L.c.s, .int .i64 L.c.m, .int .i64 L.clock, .int .i64 L.stamps, .int .i64 L.log, .int .i64 L.fin, .int .i64 L.thread, .int .i64 L.lock, .int .i64 L.loc, .int .i64 L.size, .int .i64 me, .int .i64 other, .bool own, .int .i64 m.s, .int .i64 m.k, .int .i64 m.a, .func (.func 82) #[] #[]] 131)).alloc (.cells #[.int .i64 0, .int .i64 0, .int .i64 0, .int .i64 0, .bool false, .bool false, .int .i64 0] 42)) := ⟨_, rfl⟩
  rw [← hwr]
  have hb : Below w.heap.size w w1 := by rw [hwr]; exact (Below.alloc (Below.alloc (Below.refl _ _) (by first | exact Nat.le_refl _ | (simp; omega) | simp) _) (by first | exact Nat.le_refl _ | (simp; omega) | simp) _)
  have cc : CellsAt w1 (w.heap.size) [.int .i64 L.c.t, .int .i64 L.c.l, .int .i64 L.c.k, .int .i64 L.c.s, .int .i64 L.c.m, .int .i64 L.clock, .int .i64 L.stamps, .int .i64 L.log, .int .i64 L.fin, .int .i64 L.thread, .int .i64 L.lock, .int .i64 L.loc, .int .i64 L.size, .int .i64 me, .int .i64 other, .bool own, .int .i64 m.s, .int .i64 m.k, .int .i64 m.a, .func (.func 82) #[] #[]] := by rw [hwr]; exact (cellsAt_alloc (cellsAt_new' w _ _ (w.heap.size) (by simp)) _)
  have ccz : w.heap.size < w1.heap.size := World.block_lt_of_cell? _ _ (cc 0 _ rfl)
  have oz : OutZ w1 (w.heap.size + 1) := by rw [hwr]; exact (OutZ.new' (w.alloc (.cells #[.int .i64 L.c.t, .int .i64 L.c.l, .int .i64 L.c.k, .int .i64 L.c.s, .int .i64 L.c.m, .int .i64 L.clock, .int .i64 L.stamps, .int .i64 L.log, .int .i64 L.fin, .int .i64 L.thread, .int .i64 L.lock, .int .i64 L.loc, .int .i64 L.size, .int .i64 me, .int .i64 other, .bool own, .int .i64 m.s, .int .i64 m.k, .int .i64 m.a, .func (.func 82) #[] #[]] 131)) _ (w.heap.size + 1) (by simp))
  have ozz : w.heap.size + 1 < w1.heap.size := OutZ.lt oz
  have h1 := runAt_keep h0 hb
  replace G := gb_trans G (gb_of_below (some g) hb)
  clear hb hwr
  replace hS0 := G.size
  have cc_4 := cc 4 _ rfl
  have cc_13 := cc 13 _ rfl
  have cc_14 := cc 14 _ rfl
  have cc_15 := cc 15 _ rfl
  have cc_16 := cc 16 _ rfl
  have cc_17 := cc 17 _ rfl
  have cc_18 := cc 18 _ rfl
  have cc_19 := cc 19 _ rfl
  go_wp2_with (first | ((with_reducible refine ld_layT cc ?a35 ?h35); (case a35 => exact ⟨_, rfl, rfl, rfl⟩)) | ((with_reducible refine ld_case cc rfl ?a36 ?h36); (case a36 => exact ⟨_, rfl, rfl, rfl⟩)))
  ((with_reducible refine (kind_any _ _).mono ?_); rintro e w' ⟨rfl, rfl⟩)
  have oq0 := oz.c0
  have oq1 := oz.c1
  have oq2 := oz.c2
  have oq3 := oz.c3
  have oq4 := oz.c4
  have oq5 := oz.c5
  have oq6 := oz.c6
  have of := oz.fr
  go_wp2_with (first | ((with_reducible refine ld_layT cc ?a37 ?h37); (case a37 => exact ⟨_, rfl, rfl, rfl⟩)) | ((with_reducible refine ld_case cc rfl ?a38 ?h38); (case a38 => exact ⟨_, rfl, rfl, rfl⟩)))
  obtain ⟨W, hW, k0, k1, k2, k3, k4, k5, k6⟩ := outs_at oz (.int .i64 (2)) (.int .i64 (0)) (.int .i64 (0)) (.int .i64 (0)) (.bool false) (.bool false) (.int .i64 (0))
  rw [← hW]
  simp [bodyPost, results, Try.results96, go_sem, k0, k1, k2, k3, k4, k5, k6, OutD.v]
  rw [hW]
  exact gb_outs G (by first | exact Nat.le_refl _ | omega) _ _ _ _ _ _ _

theorem doom_2 (w : World) (g : Nat) (L : Ly) (hok : L.ok) (me other : Int) (own : Bool) (m : Ct) (s : Int) (l : List (Int × Bool)) (h0 : RunAt w g l) (hk : ¬s % 4 = 1) (hq : ¬s % 4 = 3) :
    Calls Try.prog 96 #[caseV L me other own m, .pointer (some ⟨g, 0, none⟩), .int .i64 s] w fun e w' => e = .returned (OutD.v { val := 3 }) ∧ w.grownBy w' (some g) := by
  unfold caseV
  have hk1 : (s % 4 == 1) = false := by simp; omega
  have hk3 : (s % 4 == 3) = false := by simp; omega
  have hg0 := runAt_lt h0
  have G : w.grownBy w (some g) := gb_refl _ _
  have hS0 : w.heap.size + 0 ≤ w.heap.size := Nat.le_refl _
  go_enter Try.func96, Try.ntmps96
  go_wp2_with fail
  obtain ⟨w1, hwr⟩ : ∃ W, W = ((w.alloc (.cells #[.int .i64 L.c.t, .int .i64 L.c.l, .int .i64 L.c.k, .int .i64 L.c.s, .int .i64 L.c.m, .int .i64 L.clock, .int .i64 L.stamps, .int .i64 L.log, .int .i64 L.fin, .int .i64 L.thread, .int .i64 L.lock, .int .i64 L.loc, .int .i64 L.size, .int .i64 me, .int .i64 other, .bool own, .int .i64 m.s, .int .i64 m.k, .int .i64 m.a, .func (.func 82) #[] #[]] 131)).alloc (.cells #[.int .i64 0, .int .i64 0, .int .i64 0, .int .i64 0, .bool false, .bool false, .int .i64 0] 42)) := ⟨_, rfl⟩
  rw [← hwr]
  have hb : Below w.heap.size w w1 := by rw [hwr]; exact (Below.alloc (Below.alloc (Below.refl _ _) (by first | exact Nat.le_refl _ | (simp; omega) | simp) _) (by first | exact Nat.le_refl _ | (simp; omega) | simp) _)
  have cc : CellsAt w1 (w.heap.size) [.int .i64 L.c.t, .int .i64 L.c.l, .int .i64 L.c.k, .int .i64 L.c.s, .int .i64 L.c.m, .int .i64 L.clock, .int .i64 L.stamps, .int .i64 L.log, .int .i64 L.fin, .int .i64 L.thread, .int .i64 L.lock, .int .i64 L.loc, .int .i64 L.size, .int .i64 me, .int .i64 other, .bool own, .int .i64 m.s, .int .i64 m.k, .int .i64 m.a, .func (.func 82) #[] #[]] := by rw [hwr]; exact (cellsAt_alloc (cellsAt_new' w _ _ (w.heap.size) (by simp)) _)
  have ccz : w.heap.size < w1.heap.size := World.block_lt_of_cell? _ _ (cc 0 _ rfl)
  have oz : OutZ w1 (w.heap.size + 1) := by rw [hwr]; exact (OutZ.new' (w.alloc (.cells #[.int .i64 L.c.t, .int .i64 L.c.l, .int .i64 L.c.k, .int .i64 L.c.s, .int .i64 L.c.m, .int .i64 L.clock, .int .i64 L.stamps, .int .i64 L.log, .int .i64 L.fin, .int .i64 L.thread, .int .i64 L.lock, .int .i64 L.loc, .int .i64 L.size, .int .i64 me, .int .i64 other, .bool own, .int .i64 m.s, .int .i64 m.k, .int .i64 m.a, .func (.func 82) #[] #[]] 131)) _ (w.heap.size + 1) (by simp))
  have ozz : w.heap.size + 1 < w1.heap.size := OutZ.lt oz
  have h1 := runAt_keep h0 hb
  replace G := gb_trans G (gb_of_below (some g) hb)
  clear hb hwr
  replace hS0 := G.size
  have cc_4 := cc 4 _ rfl
  have cc_13 := cc 13 _ rfl
  have cc_14 := cc 14 _ rfl
  have cc_15 := cc 15 _ rfl
  have cc_16 := cc 16 _ rfl
  have cc_17 := cc 17 _ rfl
  have cc_18 := cc 18 _ rfl
  have cc_19 := cc 19 _ rfl
  go_wp2_with (first | ((with_reducible refine ld_layT cc ?a39 ?h39); (case a39 => exact ⟨_, rfl, rfl, rfl⟩)) | ((with_reducible refine ld_case cc rfl ?a40 ?h40); (case a40 => exact ⟨_, rfl, rfl, rfl⟩)))
  ((with_reducible refine (kind_any _ _).mono ?_); rintro e w' ⟨rfl, rfl⟩)
  have oq0 := oz.c0
  have oq1 := oz.c1
  have oq2 := oz.c2
  have oq3 := oz.c3
  have oq4 := oz.c4
  have oq5 := oz.c5
  have oq6 := oz.c6
  have of := oz.fr
  go_wp2_with (first | ((with_reducible refine ld_layT cc ?a41 ?h41); (case a41 => exact ⟨_, rfl, rfl, rfl⟩)) | ((with_reducible refine ld_case cc rfl ?a42 ?h42); (case a42 => exact ⟨_, rfl, rfl, rfl⟩)))
  obtain ⟨W, hW, k0, k1, k2, k3, k4, k5, k6⟩ := outs_at oz (.int .i64 (3)) (.int .i64 (0)) (.int .i64 (0)) (.int .i64 (0)) (.bool false) (.bool false) (.int .i64 (0))
  rw [← hW]
  simp [bodyPost, results, Try.results96, go_sem, k0, k1, k2, k3, k4, k5, k6, OutD.v]
  rw [hW]
  exact gb_outs G (by first | exact Nat.le_refl _ | omega) _ _ _ _ _ _ _

theorem doom_any (w : World) (g : Nat) (L : Ly) (hok : L.ok) (me other : Int) (own : Bool) (m : Ct) (s : Int) (hs : I64 s) (l : List (Int × Bool)) (h0 : RunAt w g l) :
    Calls Try.prog 96 #[caseV L me other own m, .pointer (some ⟨g, 0, none⟩), .int .i64 s] w (OpPost ((doomT L other s).run l) g w) := by
  by_cases hk : s % 4 = 1
  · match l, h0 with
    | [], h0 =>
      have e : (doomT L other s).run [] = .inl ⟨3, atStatus L other, s, wrap64 (4 * (s / 4) + 3)⟩ := by unfold doomT; rw [if_pos hk]; rfl
      rw [e]; exact doom_1 w g L hok me other own m s h0 hs hk
    | (n, true) :: l, h0 =>
      have e : (doomT L other s).run ((n, true) :: l) = .inr { val := 2 } := by unfold doomT; rw [if_pos hk]; rfl
      rw [e]; exact doom_t w g L hok me other own m s n l h0 hs hk
    | (n, false) :: l, h0 =>
      have e : (doomT L other s).run ((n, false) :: l) = .inr { val := 0 } := by unfold doomT; rw [if_pos hk]; rfl
      rw [e]; exact doom_f w g L hok me other own m s n l h0 hs hk
  · by_cases hq : s % 4 = 3
    · have e : (doomT L other s).run l = .inr { val := 2 } := by unfold doomT; rw [if_neg hk, if_pos hq]; cases l <;> rfl
      rw [e]; exact doom_3 w g L hok me other own m s l h0 hq
    · have e : (doomT L other s).run l = .inr { val := 3 } := by unfold doomT; rw [if_neg hk, if_neg hq]; cases l <;> rfl
      rw [e]; exact doom_2 w g L hok me other own m s l h0 hk hq

end Go.Proofs.Ytdfngmplfgifiaa


/-
  Layer 17: the accesses by which a transaction resolves a conflict, as their tree.
-/
namespace Go.Proofs.Ytdfngmplfgifiaa
set_option linter.unusedVariables false
set_option linter.unusedSimpArgs false
set_option maxRecDepth 100000
set_option maxHeartbeats 4000000
open Go.ChangeShapes Go.WideShapes Go.ChangeAt Go.RowKit

/-- What is left of a log behind a tree. -/
def Tree.rest : Tree → List (Int × Bool) → List (Int × Bool)
  | .ret _, l => l
  | .ask _ _, [] => []
  | .ask _ f, r :: l => (f r).rest l
def OpPostR (x : Ask ⊕ OutD) (rest : List (Int × Bool)) (g : Nat) (w : World) (e : Ending) (w' : World) : Prop :=
  OpPost x g w e w' ∧ (∀ o, x = .inr o → RunAt w' g rest)
theorem trun_ask (a : Ask) (f : Int × Bool → Tree) (r : Int × Bool) (l : List (Int × Bool)) : (Tree.ask a f).run (r :: l) = (f r).run l := rfl
theorem trun_ret (o : OutD) (l : List (Int × Bool)) : (Tree.ret o).run l = .inr o := by cases l <;> rfl
theorem tchoose_12 (k : Int) (m o : Ct) : chooseD k m o = 1 ∨ chooseD k m o = 2 := by
  cases h : ahead k m o
  · exact Or.inl (chooseD_f h)
  · exact Or.inr (chooseD_t h)
theorem runAt_outs {w : World} {g b : Nat} {l : List (Int × Bool)} (h : RunAt w g l) (hb : g < b) (v0 v1 v2 v3 v4 v5 v6 : Value) : RunAt (((((((w.setCell ⟨b, 0, none⟩ v0).setCell ⟨b, 1, none⟩ v1).setCell ⟨b, 2, none⟩ v2).setCell ⟨b, 3, none⟩ v3).setCell ⟨b, 4, none⟩ v4).setCell ⟨b, 5, none⟩ v5).setCell ⟨b, 6, none⟩ v6) g l :=
  runAt_set (runAt_set (runAt_set (runAt_set (runAt_set (runAt_set (runAt_set h hb _) hb _) hb _) hb _) hb _) hb _) hb _


theorem doomR_1 (w : World) (g : Nat) (L : Ly) (hok : L.ok) (me other : Int) (own : Bool) (m : Ct) (s : Int) (h0 : RunAt w g []) (hs : I64 s) (hk : s % 4 = 1) :
    Calls Try.prog 96 #[caseV L me other own m, .pointer (some ⟨g, 0, none⟩), .int .i64 s] w fun e w' => e = .panicked [{ v := .iface 122 (Ask.v ⟨3, atStatus L other, s, wrap64 (4 * (s / 4) + 3)⟩), recovered := false }] ∧ w.grownBy w' (some g) := by
  unfold caseV
  have HS : Hid (∀ w, Calls Try.prog 39 #[L.v, .int .i64 other] w fun e w' => e = .returned (.int .i64 (atStatus L other)) ∧ Below w.heap.size w w') := Lib.hid (fun w => status_any L other w hok)
  unfold Ly.v at HS
  have hk1 : (s % 4 == 1) = true := by simp; omega
  have hg0 := runAt_lt h0
  have G : w.grownBy w (some g) := gb_refl _ _
  have hS0 : w.heap.size + 0 ≤ w.heap.size := Nat.le_refl _
  go_enter Try.func96, Try.ntmps96
  go_wp2_with fail
  obtain ⟨w1, hwr⟩ : ∃ W, W = ((w.alloc (.cells #[.int .i64 L.c.t, .int .i64 L.c.l, .int .i64 L.c.k, .int .i64 L.c.s, .int .i64 L.c.m, .int .i64 L.clock, .int .i64 L.stamps, .int .i64 L.log, .int .i64 L.fin, .int .i64 L.thread, .int .i64 L.lock, .int .i64 L.loc, .int .i64 L.size, .int .i64 me, .int .i64 other, .bool own, .int .i64 m.s, .int .i64 m.k, .int .i64 m.a, .func (.func 82) #[] #[]] 131)).alloc (.cells #[.int .i64 0, .int .i64 0, .int .i64 0, .int .i64 0, .bool false, .bool false, .int .i64 0] 42)) := ⟨_, rfl⟩
  rw [← hwr]
  have hb : Below w.heap.size w w1 := by rw [hwr]; exact (Below.alloc (Below.alloc (Below.refl _ _) (by first | exact Nat.le_refl _ | (simp; omega) | simp) _) (by first | exact Nat.le_refl _ | (simp; omega) | simp) _)
  have cc : CellsAt w1 (w.heap.size) [.int .i64 L.c.t, .int .i64 L.c.l, .int .i64 L.c.k, .int .i64 L.c.s, .int .i64 L.c.m, .int .i64 L.clock, .int .i64 L.stamps, .int .i64 L.log, .int .i64 L.fin, .int .i64 L.thread, .int .i64 L.lock, .int .i64 L.loc, .int .i64 L.size, .int .i64 me, .int .i64 other, .bool own, .int .i64 m.s, .int .i64 m.k, .int .i64 m.a, .func (.func 82) #[] #[]] := by rw [hwr]; exact (cellsAt_alloc (cellsAt_new' w _ _ (w.heap.size) (by simp)) _)
  have ccz : w.heap.size < w1.heap.size := World.block_lt_of_cell? _ _ (cc 0 _ rfl)
  have oz : OutZ w1 (w.heap.size + 1) := by rw [hwr]; exact (OutZ.new' (w.alloc (.cells #[.int .i64 L.c.t, .int .i64 L.c.l, .int .i64 L.c.k, .int .i64 L.c.s, .int .i64 L.c.m, .int .i64 L.clock, .int .i64 L.stamps, .int .i64 L.log, .int .i64 L.fin, .int .i64 L.thread, .int .i64 L.lock, .int .i64 L.loc, .int .i64 L.size, .int .i64 me, .int .i64 other, .bool own, .int .i64 m.s, .int .i64 m.k, .int .i64 m.a, .func (.func 82) #[] #[]] 131)) _ (w.heap.size + 1) (by simp))
  have ozz : w.heap.size + 1 < w1.heap.size := OutZ.lt oz
  have h1 := runAt_keep h0 hb
  replace G := gb_trans G (gb_of_below (some g) hb)
  clear hb hwr
  replace hS0 := G.size
  have cc_4 := cc 4 _ rfl
  have cc_13 := cc 13 _ rfl
  have cc_14 := cc 14 _ rfl
  have cc_15 := cc 15 _ rfl
  have cc_16 := cc 16 _ rfl
  have cc_17 := cc 17 _ rfl
  have cc_18 := cc 18 _ rfl
  have cc_19 := cc 19 _ rfl
  go_wp2_with (first | ((with_reducible refine ld_layT cc ?a1 ?h1); (case a1 => exact ⟨_, rfl, rfl, rfl⟩)) | ((with_reducible refine ld_case cc rfl ?a2 ?h2); (case a2 => exact ⟨_, rfl, rfl, rfl⟩)))
  ((with_reducible refine (kind_any _ _).mono ?_); rintro e w' ⟨rfl, rfl⟩)
  go_wp2_with (first | ((with_reducible refine ld_layT cc ?a3 ?h3); (case a3 => exact ⟨_, rfl, rfl, rfl⟩)) | ((with_reducible refine ld_case cc rfl ?a4 ?h4); (case a4 => exact ⟨_, rfl, rfl, rfl⟩)))
  ((with_reducible refine (try_any _ hs _).mono ?_); rintro e w' ⟨rfl, rfl⟩)
  go_wp2_with (first | ((with_reducible refine ld_layT cc ?a5 ?h5); (case a5 => exact ⟨_, rfl, rfl, rfl⟩)) | ((with_reducible refine ld_case cc rfl ?a6 ?h6); (case a6 => exact ⟨_, rfl, rfl, rfl⟩)))
  ((with_reducible refine (wstatus_any _ _ _).mono ?_); rintro e w' ⟨rfl, rfl⟩)
  go_wp2_with (first | ((with_reducible refine ld_layT cc ?a7 ?h7); (case a7 => exact ⟨_, rfl, rfl, rfl⟩)) | ((with_reducible refine ld_case cc rfl ?a8 ?h8); (case a8 => exact ⟨_, rfl, rfl, rfl⟩)))
  ((with_reducible refine (HS.out _).mono ?_); rintro e w2 ⟨rfl, hb⟩)
  clear cc_4 cc_13 cc_14 cc_15 cc_16 cc_17 cc_18 cc_19
  have hsz := hb.size
  (try simp at hsz)
  replace cc := cellsAt_keep cc hb
  replace oz := OutZ.below oz hb
  replace ccz : w.heap.size < w2.heap.size := by omega
  replace ozz : w.heap.size + 1 < w2.heap.size := by omega
  have h2 := runAt_keep h1 hb
  replace G := gb_trans G (gb_of_below (some g) hb)
  clear hb hsz
  replace hS0 := G.size
  have cc_4 := cc 4 _ rfl
  have cc_13 := cc 13 _ rfl
  have cc_14 := cc 14 _ rfl
  have cc_15 := cc 15 _ rfl
  have cc_16 := cc 16 _ rfl
  have cc_17 := cc 17 _ rfl
  have cc_18 := cc 18 _ rfl
  have cc_19 := cc 19 _ rfl
  go_wp2_with (first | ((with_reducible refine ld_layT cc ?a9 ?h9); (case a9 => exact ⟨_, rfl, rfl, rfl⟩)) | ((with_reducible refine ld_case cc rfl ?a10 ?h10); (case a10 => exact ⟨_, rfl, rfl, rfl⟩)))
  ((with_reducible refine (swap_none _ g _ _ _ h2).mono ?_); rintro e w3 ⟨rfl, hb⟩)
  exact ⟨rfl, rfl, gb_trans G (gb_of_below (some g) hb)⟩

theorem doomR_t (w : World) (g : Nat) (L : Ly) (hok : L.ok) (me other : Int) (own : Bool) (m : Ct) (s n : Int) (l : List (Int × Bool)) (h0 : RunAt w g ((n, true) :: l)) (hs : I64 s) (hk : s % 4 = 1) :
    Calls Try.prog 96 #[caseV L me other own m, .pointer (some ⟨g, 0, none⟩), .int .i64 s] w fun e w' => e = .returned (OutD.v { val := 2 }) ∧ w.grownBy w' (some g) ∧ RunAt w' g l := by
  unfold caseV
  have HS : Hid (∀ w, Calls Try.prog 39 #[L.v, .int .i64 other] w fun e w' => e = .returned (.int .i64 (atStatus L other)) ∧ Below w.heap.size w w') := Lib.hid (fun w => status_any L other w hok)
  unfold Ly.v at HS
  have hk1 : (s % 4 == 1) = true := by simp; omega
  have hg0 := runAt_lt h0
  have G : w.grownBy w (some g) := gb_refl _ _
  have hS0 : w.heap.size + 0 ≤ w.heap.size := Nat.le_refl _
  go_enter Try.func96, Try.ntmps96
  go_wp2_with fail
  obtain ⟨w1, hwr⟩ : ∃ W, W = ((w.alloc (.cells #[.int .i64 L.c.t, .int .i64 L.c.l, .int .i64 L.c.k, .int .i64 L.c.s, .int .i64 L.c.m, .int .i64 L.clock, .int .i64 L.stamps, .int .i64 L.log, .int .i64 L.fin, .int .i64 L.thread, .int .i64 L.lock, .int .i64 L.loc, .int .i64 L.size, .int .i64 me, .int .i64 other, .bool own, .int .i64 m.s, .int .i64 m.k, .int .i64 m.a, .func (.func 82) #[] #[]] 131)).alloc (.cells #[.int .i64 0, .int .i64 0, .int .i64 0, .int .i64 0, .bool false, .bool false, .int .i64 0] 42)) := ⟨_, rfl⟩
  rw [← hwr]
  have hb : Below w.heap.size w w1 := by rw [hwr]; exact (Below.alloc (Below.alloc (Below.refl _ _) (by first | exact Nat.le_refl _ | (simp; omega) | simp) _) (by first | exact Nat.le_refl _ | (simp; omega) | simp) _)
  have cc : CellsAt w1 (w.heap.size) [.int .i64 L.c.t, .int .i64 L.c.l, .int .i64 L.c.k, .int .i64 L.c.s, .int .i64 L.c.m, .int .i64 L.clock, .int .i64 L.stamps, .int .i64 L.log, .int .i64 L.fin, .int .i64 L.thread, .int .i64 L.lock, .int .i64 L.loc, .int .i64 L.size, .int .i64 me, .int .i64 other, .bool own, .int .i64 m.s, .int .i64 m.k, .int .i64 m.a, .func (.func 82) #[] #[]] := by rw [hwr]; exact (cellsAt_alloc (cellsAt_new' w _ _ (w.heap.size) (by simp)) _)
  have ccz : w.heap.size < w1.heap.size := World.block_lt_of_cell? _ _ (cc 0 _ rfl)
  have oz : OutZ w1 (w.heap.size + 1) := by rw [hwr]; exact (OutZ.new' (w.alloc (.cells #[.int .i64 L.c.t, .int .i64 L.c.l, .int .i64 L.c.k, .int .i64 L.c.s, .int .i64 L.c.m, .int .i64 L.clock, .int .i64 L.stamps, .int .i64 L.log, .int .i64 L.fin, .int .i64 L.thread, .int .i64 L.lock, .int .i64 L.loc, .int .i64 L.size, .int .i64 me, .int .i64 other, .bool own, .int .i64 m.s, .int .i64 m.k, .int .i64 m.a, .func (.func 82) #[] #[]] 131)) _ (w.heap.size + 1) (by simp))
  have ozz : w.heap.size + 1 < w1.heap.size := OutZ.lt oz
  have h1 := runAt_keep h0 hb
  replace G := gb_trans G (gb_of_below (some g) hb)
  clear hb hwr
  replace hS0 := G.size
  have cc_4 := cc 4 _ rfl
  have cc_13 := cc 13 _ rfl
  have cc_14 := cc 14 _ rfl
  have cc_15 := cc 15 _ rfl
  have cc_16 := cc 16 _ rfl
  have cc_17 := cc 17 _ rfl
  have cc_18 := cc 18 _ rfl
  have cc_19 := cc 19 _ rfl
  go_wp2_with (first | ((with_reducible refine ld_layT cc ?a11 ?h11); (case a11 => exact ⟨_, rfl, rfl, rfl⟩)) | ((with_reducible refine ld_case cc rfl ?a12 ?h12); (case a12 => exact ⟨_, rfl, rfl, rfl⟩)))
  ((with_reducible refine (kind_any _ _).mono ?_); rintro e w' ⟨rfl, rfl⟩)
  go_wp2_with (first | ((with_reducible refine ld_layT cc ?a13 ?h13); (case a13 => exact ⟨_, rfl, rfl, rfl⟩)) | ((with_reducible refine ld_case cc rfl ?a14 ?h14); (case a14 => exact ⟨_, rfl, rfl, rfl⟩)))
  ((with_reducible refine (try_any _ hs _).mono ?_); rintro e w' ⟨rfl, rfl⟩)
  go_wp2_with (first | ((with_reducible refine ld_layT cc ?a15 ?h15); (case a15 => exact ⟨_, rfl, rfl, rfl⟩)) | ((with_reducible refine ld_case cc rfl ?a16 ?h16); (case a16 => exact ⟨_, rfl, rfl, rfl⟩)))
  ((with_reducible refine (wstatus_any _ _ _).mono ?_); rintro e w' ⟨rfl, rfl⟩)
  go_wp2_with (first | ((with_reducible refine ld_layT cc ?a17 ?h17); (case a17 => exact ⟨_, rfl, rfl, rfl⟩)) | ((with_reducible refine ld_case cc rfl ?a18 ?h18); (case a18 => exact ⟨_, rfl, rfl, rfl⟩)))
  ((with_reducible refine (HS.out _).mono ?_); rintro e w2 ⟨rfl, hb⟩)
  clear cc_4 cc_13 cc_14 cc_15 cc_16 cc_17 cc_18 cc_19
  have hsz := hb.size
  (try simp at hsz)
  replace cc := cellsAt_keep cc hb
  replace oz := OutZ.below oz hb
  replace ccz : w.heap.size < w2.heap.size := by omega
  replace ozz : w.heap.size + 1 < w2.heap.size := by omega
  have h2 := runAt_keep h1 hb
  replace G := gb_trans G (gb_of_below (some g) hb)
  clear hb hsz
  replace hS0 := G.size
  have cc_4 := cc 4 _ rfl
  have cc_13 := cc 13 _ rfl
  have cc_14 := cc 14 _ rfl
  have cc_15 := cc 15 _ rfl
  have cc_16 := cc 16 _ rfl
  have cc_17 := cc 17 _ rfl
  have cc_18 := cc 18 _ rfl
  have cc_19 := cc 19 _ rfl
  go_wp2_with (first | ((with_reducible refine ld_layT cc ?a19 ?h19); (case a19 => exact ⟨_, rfl, rfl, rfl⟩)) | ((with_reducible refine ld_case cc rfl ?a20 ?h20); (case a20 => exact ⟨_, rfl, rfl, rfl⟩)))
  ((with_reducible refine (swap_some _ g _ _ _ _ _ h2).mono ?_); rintro e w3 ⟨rfl, h3, hb⟩)
  clear cc_4 cc_13 cc_14 cc_15 cc_16 cc_17 cc_18 cc_19
  have hsz := hb.size
  (try simp at hsz)
  replace cc := cellsAt_gb cc hb (by omega)
  replace oz := OutZ.gb oz hb (by omega)
  replace ccz : w.heap.size < w3.heap.size := by omega
  replace ozz : w.heap.size + 1 < w3.heap.size := by omega
  replace G := gb_trans G hb
  clear hb hsz
  replace hS0 := G.size
  have cc_4 := cc 4 _ rfl
  have cc_13 := cc 13 _ rfl
  have cc_14 := cc 14 _ rfl
  have cc_15 := cc 15 _ rfl
  have cc_16 := cc 16 _ rfl
  have cc_17 := cc 17 _ rfl
  have cc_18 := cc 18 _ rfl
  have cc_19 := cc 19 _ rfl
  have oq0 := oz.c0
  have oq1 := oz.c1
  have oq2 := oz.c2
  have oq3 := oz.c3
  have oq4 := oz.c4
  have oq5 := oz.c5
  have oq6 := oz.c6
  have of := oz.fr
  go_wp2_with (first | ((with_reducible refine ld_layT cc ?a21 ?h21); (case a21 => exact ⟨_, rfl, rfl, rfl⟩)) | ((with_reducible refine ld_case cc rfl ?a22 ?h22); (case a22 => exact ⟨_, rfl, rfl, rfl⟩)))
  obtain ⟨W, hW, k0, k1, k2, k3, k4, k5, k6⟩ := outs_at oz (.int .i64 (2)) (.int .i64 (0)) (.int .i64 (0)) (.int .i64 (0)) (.bool false) (.bool false) (.int .i64 (0))
  rw [← hW]
  simp [bodyPost, results, Try.results96, go_sem, k0, k1, k2, k3, k4, k5, k6, OutD.v]
  rw [hW]
  exact ⟨gb_outs G (by first | exact Nat.le_refl _ | omega) _ _ _ _ _ _ _, runAt_outs h3 (by omega) _ _ _ _ _ _ _⟩

theorem doomR_f (w : World) (g : Nat) (L : Ly) (hok : L.ok) (me other : Int) (own : Bool) (m : Ct) (s n : Int) (l : List (Int × Bool)) (h0 : RunAt w g ((n, false) :: l)) (hs : I64 s) (hk : s % 4 = 1) :
    Calls Try.prog 96 #[caseV L me other own m, .pointer (some ⟨g, 0, none⟩), .int .i64 s] w fun e w' => e = .returned (OutD.v { val := 0 }) ∧ w.grownBy w' (some g) ∧ RunAt w' g l := by
  unfold caseV
  have HS : Hid (∀ w, Calls Try.prog 39 #[L.v, .int .i64 other] w fun e w' => e = .returned (.int .i64 (atStatus L other)) ∧ Below w.heap.size w w') := Lib.hid (fun w => status_any L other w hok)
  unfold Ly.v at HS
  have hk1 : (s % 4 == 1) = true := by simp; omega
  have hg0 := runAt_lt h0
  have G : w.grownBy w (some g) := gb_refl _ _
  have hS0 : w.heap.size + 0 ≤ w.heap.size := Nat.le_refl _
  go_enter Try.func96, Try.ntmps96
  go_wp2_with fail
  obtain ⟨w1, hwr⟩ : ∃ W, W = ((w.alloc (.cells #[.int .i64 L.c.t, .int .i64 L.c.l, .int .i64 L.c.k, .int .i64 L.c.s, .int .i64 L.c.m, .int .i64 L.clock, .int .i64 L.stamps, .int .i64 L.log, .int .i64 L.fin, .int .i64 L.thread, .int .i64 L.lock, .int .i64 L.loc, .int .i64 L.size, .int .i64 me, .int .i64 other, .bool own, .int .i64 m.s, .int .i64 m.k, .int .i64 m.a, .func (.func 82) #[] #[]] 131)).alloc (.cells #[.int .i64 0, .int .i64 0, .int .i64 0, .int .i64 0, .bool false, .bool false, .int .i64 0] 42)) := ⟨_, rfl⟩
  rw [← hwr]
  have hb : Below w.heap.size w w1 := by rw [hwr]; exact (Below.alloc (Below.alloc (Below.refl _ _) (by first | exact Nat.le_refl _ | (simp; omega) | simp) _) (by first | exact Nat.le_refl _ | (simp; omega) | simp) _)
  have cc : CellsAt w1 (w.heap.size) [.int .i64 L.c.t, .int .i64 L.c.l, .int .i64 L.c.k, .int .i64 L.c.s, .int .i64 L.c.m, .int .i64 L.clock, .int .i64 L.stamps, .int .i64 L.log, .int .i64 L.fin, .int .i64 L.thread, .int .i64 L.lock, .int .i64 L.loc, .int .i64 L.size, .int .i64 me, .int .i64 other, .bool own, .int .i64 m.s, .int .i64 m.k, .int .i64 m.a, .func (.func 82) #[] #[]] := by rw [hwr]; exact (cellsAt_alloc (cellsAt_new' w _ _ (w.heap.size) (by simp)) _)
  have ccz : w.heap.size < w1.heap.size := World.block_lt_of_cell? _ _ (cc 0 _ rfl)
  have oz : OutZ w1 (w.heap.size + 1) := by rw [hwr]; exact (OutZ.new' (w.alloc (.cells #[.int .i64 L.c.t, .int .i64 L.c.l, .int .i64 L.c.k, .int .i64 L.c.s, .int .i64 L.c.m, .int .i64 L.clock, .int .i64 L.stamps, .int .i64 L.log, .int .i64 L.fin, .int .i64 L.thread, .int .i64 L.lock, .int .i64 L.loc, .int .i64 L.size, .int .i64 me, .int .i64 other, .bool own, .int .i64 m.s, .int .i64 m.k, .int .i64 m.a, .func (.func 82) #[] #[]] 131)) _ (w.heap.size + 1) (by simp))
  have ozz : w.heap.size + 1 < w1.heap.size := OutZ.lt oz
  have h1 := runAt_keep h0 hb
  replace G := gb_trans G (gb_of_below (some g) hb)
  clear hb hwr
  replace hS0 := G.size
  have cc_4 := cc 4 _ rfl
  have cc_13 := cc 13 _ rfl
  have cc_14 := cc 14 _ rfl
  have cc_15 := cc 15 _ rfl
  have cc_16 := cc 16 _ rfl
  have cc_17 := cc 17 _ rfl
  have cc_18 := cc 18 _ rfl
  have cc_19 := cc 19 _ rfl
  go_wp2_with (first | ((with_reducible refine ld_layT cc ?a23 ?h23); (case a23 => exact ⟨_, rfl, rfl, rfl⟩)) | ((with_reducible refine ld_case cc rfl ?a24 ?h24); (case a24 => exact ⟨_, rfl, rfl, rfl⟩)))
  ((with_reducible refine (kind_any _ _).mono ?_); rintro e w' ⟨rfl, rfl⟩)
  go_wp2_with (first | ((with_reducible refine ld_layT cc ?a25 ?h25); (case a25 => exact ⟨_, rfl, rfl, rfl⟩)) | ((with_reducible refine ld_case cc rfl ?a26 ?h26); (case a26 => exact ⟨_, rfl, rfl, rfl⟩)))
  ((with_reducible refine (try_any _ hs _).mono ?_); rintro e w' ⟨rfl, rfl⟩)
  go_wp2_with (first | ((with_reducible refine ld_layT cc ?a27 ?h27); (case a27 => exact ⟨_, rfl, rfl, rfl⟩)) | ((with_reducible refine ld_case cc rfl ?a28 ?h28); (case a28 => exact ⟨_, rfl, rfl, rfl⟩)))
  ((with_reducible refine (wstatus_any _ _ _).mono ?_); rintro e w' ⟨rfl, rfl⟩)
  go_wp2_with (first | ((with_reducible refine ld_layT cc ?a29 ?h29); (case a29 => exact ⟨_, rfl, rfl, rfl⟩)) | ((with_reducible refine ld_case cc rfl ?a30 ?h30); (case a30 => exact ⟨_, rfl, rfl, rfl⟩)))
  ((with_reducible refine (HS.out _).mono ?_); rintro e w2 ⟨rfl, hb⟩)
  clear cc_4 cc_13 cc_14 cc_15 cc_16 cc_17 cc_18 cc_19
  have hsz := hb.size
  (try simp at hsz)
  replace cc := cellsAt_keep cc hb
  replace oz := OutZ.below oz hb
  replace ccz : w.heap.size < w2.heap.size := by omega
  replace ozz : w.heap.size + 1 < w2.heap.size := by omega
  have h2 := runAt_keep h1 hb
  replace G := gb_trans G (gb_of_below (some g) hb)
  clear hb hsz
  replace hS0 := G.size
  have cc_4 := cc 4 _ rfl
  have cc_13 := cc 13 _ rfl
  have cc_14 := cc 14 _ rfl
  have cc_15 := cc 15 _ rfl
  have cc_16 := cc 16 _ rfl
  have cc_17 := cc 17 _ rfl
  have cc_18 := cc 18 _ rfl
  have cc_19 := cc 19 _ rfl
  go_wp2_with (first | ((with_reducible refine ld_layT cc ?a31 ?h31); (case a31 => exact ⟨_, rfl, rfl, rfl⟩)) | ((with_reducible refine ld_case cc rfl ?a32 ?h32); (case a32 => exact ⟨_, rfl, rfl, rfl⟩)))
  ((with_reducible refine (swap_some _ g _ _ _ _ _ h2).mono ?_); rintro e w3 ⟨rfl, h3, hb⟩)
  clear cc_4 cc_13 cc_14 cc_15 cc_16 cc_17 cc_18 cc_19
  have hsz := hb.size
  (try simp at hsz)
  replace cc := cellsAt_gb cc hb (by omega)
  replace oz := OutZ.gb oz hb (by omega)
  replace ccz : w.heap.size < w3.heap.size := by omega
  replace ozz : w.heap.size + 1 < w3.heap.size := by omega
  replace G := gb_trans G hb
  clear hb hsz
  replace hS0 := G.size
  have cc_4 := cc 4 _ rfl
  have cc_13 := cc 13 _ rfl
  have cc_14 := cc 14 _ rfl
  have cc_15 := cc 15 _ rfl
  have cc_16 := cc 16 _ rfl
  have cc_17 := cc 17 _ rfl
  have cc_18 := cc 18 _ rfl
  have cc_19 := cc 19 _ rfl
  have oq0 := oz.c0
  have oq1 := oz.c1
  have oq2 := oz.c2
  have oq3 := oz.c3
  have oq4 := oz.c4
  have oq5 := oz.c5
  have oq6 := oz.c6
  have of := oz.fr
  go_wp2_with (first | ((with_reducible refine ld_layT cc ?a33 ?h33); (case a33 => exact ⟨_, rfl, rfl, rfl⟩)) | ((with_reducible refine ld_case cc rfl ?a34 ?h34); (case a34 => exact ⟨_, rfl, rfl, rfl⟩)))
  obtain ⟨W, hW, k0, k1, k2, k3, k4, k5, k6⟩ := outs_at oz (.int .i64 (0)) (.int .i64 (0)) (.int .i64 (0)) (.int .i64 (0)) (.bool false) (.bool false) (.int .i64 (0))
  rw [← hW]
  simp [bodyPost, results, Try.results96, go_sem, k0, k1, k2, k3, k4, k5, k6, OutD.v]
  rw [hW]
  exact ⟨gb_outs G (by first | exact Nat.le_refl _ | omega) _ _ _ _ _ _ _, runAt_outs h3 (by omega) _ _ _ _ _ _ _⟩

theorem doomR_3 (w : World) (g : Nat) (L : Ly) (hok : L.ok) (me other : Int) (own : Bool) (m : Ct) (s : Int) (l : List (Int × Bool)) (h0 : RunAt w g l) (hk : s % 4 = 3) :
    Calls Try.prog 96 #[caseV L me other own m, .pointer (some ⟨g, 0, none⟩), .int .i64 s] w fun e w' => e = .returned (OutD.v { val := 2 }) ∧ w.grownBy w' (some g) ∧ RunAt w' g l := by
  unfold caseV
  have hk1 : (s % 4 == 1) = false := by simp; omega
  have hk3 : (s % 4 == 3) = true := by simp; omega
  have hg0 := runAt_lt h0
  have G : w.grownBy w (some g) := gb_refl _ _
  have hS0 : w.heap.size + 0 ≤ w.heap.size := Nat.le_refl _
  go_enter Try.func96, Try.ntmps96
  go_wp2_with fail
  obtain ⟨w1, hwr⟩ : ∃ W, W = ((w.alloc (.cells #[.int .i64 L.c.t, .int .i64 L.c.l, .int .i64 L.c.k, .int .i64 L.c.s, .int .i64 L.c.m, .int .i64 L.clock, .int .i64 L.stamps, .int .i64 L.log, .int .i64 L.fin, .int .i64 L.thread, .int .i64 L.lock, .int .i64 L.loc, .int .i64 L.size, .int .i64 me, .int .i64 other, .bool own, .int .i64 m.s, .int .i64 m.k, .int .i64 m.a, .func (.func 82) #[] #[]] 131)).alloc (.cells #[.int .i64 0, .int .i64 0, .int .i64 0, .int .i64 0, .bool false, .bool false, .int .i64 0] 42)) := ⟨_, rfl⟩
  rw [← hwr]
  have hb : Below w.heap.size w w1 := by rw [hwr]; exact (Below.alloc (Below.alloc (Below.refl _ _) (by first | exact Nat.le_refl _ | (simp; omega) | simp) _) (by first | exact Nat.le_refl _ | (simp; omega) | simp) _)
  have cc : CellsAt w1 (w.heap.size) [.int .i64 L.c.t, .int .i64 L.c.l, .int .i64 L.c.k, .int .i64 L.c.s, .int .i64 L.c.m, .int .i64 L.clock, .int .i64 L.stamps, .int .i64 L.log, .int .i64 L.fin, .int .i64 L.thread, .int .i64 L.lock, .int .i64 L.loc, .int .i64 L.size, .int .i64 me, .int .i64 other, .bool own, .int .i64 m.s, .int .i64 m.k, .int .i64 m.a, .func (.func 82) #[] #[]] := by rw [hwr]; exact (cellsAt_alloc (cellsAt_new' w _ _ (w.heap.size) (by simp)) _)
  have ccz : w.heap.size < w1.heap.size := World.block_lt_of_cell? _ _ (cc 0 _ rfl)
  have oz : OutZ w1 (w.heap.size + 1) := by rw [hwr]; exact (OutZ.new' (w.alloc (.cells #[.int .i64 L.c.t, .int .i64 L.c.l, .int .i64 L.c.k, .int .i64 L.c.s, .int .i64 L.c.m, .int .i64 L.clock, .int .i64 L.stamps, .int .i64 L.log, .int .i64 L.fin, .int .i64 L.thread, .int .i64 L.lock, .int .i64 L.loc, .int .i64 L.size, .int .i64 me, .int .i64 other, .bool own, .int .i64 m.s, .int .i64 m.k, .int .i64 m.a, .func (.func 82) #[] #[]] 131)) _ (w.heap.size + 1) (by simp))
  have ozz : w.heap.size + 1 < w1.heap.size := OutZ.lt oz
  have h1 := runAt_keep h0 hb
  replace G := gb_trans G (gb_of_below (some g) hb)
  clear hb hwr
  replace hS0 := G.size
  have cc_4 := cc 4 _ rfl
  have cc_13 := cc 13 _ rfl
  have cc_14 := cc 14 _ rfl
  have cc_15 := cc 15 _ rfl
  have cc_16 := cc 16 _ rfl
  have cc_17 := cc 17 _ rfl
  have cc_18 := cc 18 _ rfl
  have cc_19 := cc 19 _ rfl
  go_wp2_with (first | ((with_reducible refine ld_layT cc ?a35 ?h35); (case a35 => exact ⟨_, rfl, rfl, rfl⟩)) | ((with_reducible refine ld_case cc rfl ?a36 ?h36); (case a36 => exact ⟨_, rfl, rfl, rfl⟩)))
  ((with_reducible refine (kind_any _ _).mono ?_); rintro e w' ⟨rfl, rfl⟩)
  have oq0 := oz.c0
  have oq1 := oz.c1
  have oq2 := oz.c2
  have oq3 := oz.c3
  have oq4 := oz.c4
  have oq5 := oz.c5
  have oq6 := oz.c6
  have of := oz.fr
  go_wp2_with (first | ((with_reducible refine ld_layT cc ?a37 ?h37); (case a37 => exact ⟨_, rfl, rfl, rfl⟩)) | ((with_reducible refine ld_case cc rfl ?a38 ?h38); (case a38 => exact ⟨_, rfl, rfl, rfl⟩)))
  obtain ⟨W, hW, k0, k1, k2, k3, k4, k5, k6⟩ := outs_at oz (.int .i64 (2)) (.int .i64 (0)) (.int .i64 (0)) (.int .i64 (0)) (.bool false) (.bool false) (.int .i64 (0))
  rw [← hW]
  simp [bodyPost, results, Try.results96, go_sem, k0, k1, k2, k3, k4, k5, k6, OutD.v]
  rw [hW]
  exact ⟨gb_outs G (by first | exact Nat.le_refl _ | omega) _ _ _ _ _ _ _, runAt_outs h1 (by omega) _ _ _ _ _ _ _⟩

theorem doomR_2 (w : World) (g : Nat) (L : Ly) (hok : L.ok) (me other : Int) (own : Bool) (m : Ct) (s : Int) (l : List (Int × Bool)) (h0 : RunAt w g l) (hk : ¬s % 4 = 1) (hq : ¬s % 4 = 3) :
    Calls Try.prog 96 #[caseV L me other own m, .pointer (some ⟨g, 0, none⟩), .int .i64 s] w fun e w' => e = .returned (OutD.v { val := 3 }) ∧ w.grownBy w' (some g) ∧ RunAt w' g l := by
  unfold caseV
  have hk1 : (s % 4 == 1) = false := by simp; omega
  have hk3 : (s % 4 == 3) = false := by simp; omega
  have hg0 := runAt_lt h0
  have G : w.grownBy w (some g) := gb_refl _ _
  have hS0 : w.heap.size + 0 ≤ w.heap.size := Nat.le_refl _
  go_enter Try.func96, Try.ntmps96
  go_wp2_with fail
  obtain ⟨w1, hwr⟩ : ∃ W, W = ((w.alloc (.cells #[.int .i64 L.c.t, .int .i64 L.c.l, .int .i64 L.c.k, .int .i64 L.c.s, .int .i64 L.c.m, .int .i64 L.clock, .int .i64 L.stamps, .int .i64 L.log, .int .i64 L.fin, .int .i64 L.thread, .int .i64 L.lock, .int .i64 L.loc, .int .i64 L.size, .int .i64 me, .int .i64 other, .bool own, .int .i64 m.s, .int .i64 m.k, .int .i64 m.a, .func (.func 82) #[] #[]] 131)).alloc (.cells #[.int .i64 0, .int .i64 0, .int .i64 0, .int .i64 0, .bool false, .bool false, .int .i64 0] 42)) := ⟨_, rfl⟩
  rw [← hwr]
  have hb : Below w.heap.size w w1 := by rw [hwr]; exact (Below.alloc (Below.alloc (Below.refl _ _) (by first | exact Nat.le_refl _ | (simp; omega) | simp) _) (by first | exact Nat.le_refl _ | (simp; omega) | simp) _)
  have cc : CellsAt w1 (w.heap.size) [.int .i64 L.c.t, .int .i64 L.c.l, .int .i64 L.c.k, .int .i64 L.c.s, .int .i64 L.c.m, .int .i64 L.clock, .int .i64 L.stamps, .int .i64 L.log, .int .i64 L.fin, .int .i64 L.thread, .int .i64 L.lock, .int .i64 L.loc, .int .i64 L.size, .int .i64 me, .int .i64 other, .bool own, .int .i64 m.s, .int .i64 m.k, .int .i64 m.a, .func (.func 82) #[] #[]] := by rw [hwr]; exact (cellsAt_alloc (cellsAt_new' w _ _ (w.heap.size) (by simp)) _)
  have ccz : w.heap.size < w1.heap.size := World.block_lt_of_cell? _ _ (cc 0 _ rfl)
  have oz : OutZ w1 (w.heap.size + 1) := by rw [hwr]; exact (OutZ.new' (w.alloc (.cells #[.int .i64 L.c.t, .int .i64 L.c.l, .int .i64 L.c.k, .int .i64 L.c.s, .int .i64 L.c.m, .int .i64 L.clock, .int .i64 L.stamps, .int .i64 L.log, .int .i64 L.fin, .int .i64 L.thread, .int .i64 L.lock, .int .i64 L.loc, .int .i64 L.size, .int .i64 me, .int .i64 other, .bool own, .int .i64 m.s, .int .i64 m.k, .int .i64 m.a, .func (.func 82) #[] #[]] 131)) _ (w.heap.size + 1) (by simp))
  have ozz : w.heap.size + 1 < w1.heap.size := OutZ.lt oz
  have h1 := runAt_keep h0 hb
  replace G := gb_trans G (gb_of_below (some g) hb)
  clear hb hwr
  replace hS0 := G.size
  have cc_4 := cc 4 _ rfl
  have cc_13 := cc 13 _ rfl
  have cc_14 := cc 14 _ rfl
  have cc_15 := cc 15 _ rfl
  have cc_16 := cc 16 _ rfl
  have cc_17 := cc 17 _ rfl
  have cc_18 := cc 18 _ rfl
  have cc_19 := cc 19 _ rfl
  go_wp2_with (first | ((with_reducible refine ld_layT cc ?a39 ?h39); (case a39 => exact ⟨_, rfl, rfl, rfl⟩)) | ((with_reducible refine ld_case cc rfl ?a40 ?h40); (case a40 => exact ⟨_, rfl, rfl, rfl⟩)))
  ((with_reducible refine (kind_any _ _).mono ?_); rintro e w' ⟨rfl, rfl⟩)
  have oq0 := oz.c0
  have oq1 := oz.c1
  have oq2 := oz.c2
  have oq3 := oz.c3
  have oq4 := oz.c4
  have oq5 := oz.c5
  have oq6 := oz.c6
  have of := oz.fr
  go_wp2_with (first | ((with_reducible refine ld_layT cc ?a41 ?h41); (case a41 => exact ⟨_, rfl, rfl, rfl⟩)) | ((with_reducible refine ld_case cc rfl ?a42 ?h42); (case a42 => exact ⟨_, rfl, rfl, rfl⟩)))
  obtain ⟨W, hW, k0, k1, k2, k3, k4, k5, k6⟩ := outs_at oz (.int .i64 (3)) (.int .i64 (0)) (.int .i64 (0)) (.int .i64 (0)) (.bool false) (.bool false) (.int .i64 (0))
  rw [← hW]
  simp [bodyPost, results, Try.results96, go_sem, k0, k1, k2, k3, k4, k5, k6, OutD.v]
  rw [hW]
  exact ⟨gb_outs G (by first | exact Nat.le_refl _ | omega) _ _ _ _ _ _ _, runAt_outs h1 (by omega) _ _ _ _ _ _ _⟩

theorem doomR_any (w : World) (g : Nat) (L : Ly) (hok : L.ok) (me other : Int) (own : Bool) (m : Ct) (s : Int) (hs : I64 s) (l : List (Int × Bool)) (h0 : RunAt w g l) :
    Calls Try.prog 96 #[caseV L me other own m, .pointer (some ⟨g, 0, none⟩), .int .i64 s] w (OpPostR ((doomT L other s).run l) ((doomT L other s).rest l) g w) := by
  by_cases hk : s % 4 = 1
  · match l, h0 with
    | [], h0 =>
      have e : (doomT L other s).run [] = .inl ⟨3, atStatus L other, s, wrap64 (4 * (s / 4) + 3)⟩ := by unfold doomT; rw [if_pos hk]; rfl
      rw [e]; exact (doomR_1 w g L hok me other own m s h0 hs hk).mono fun e w' h => ⟨⟨h.1, h.2⟩, fun o ho => by cases ho⟩
    | (n, true) :: l, h0 =>
      have e : (doomT L other s).run ((n, true) :: l) = .inr { val := 2 } := by unfold doomT; rw [if_pos hk]; rfl
      have e2 : (doomT L other s).rest ((n, true) :: l) = l := by unfold doomT; rw [if_pos hk]; rfl
      rw [e, e2]; exact (doomR_t w g L hok me other own m s n l h0 hs hk).mono fun e w' h => ⟨⟨h.1, h.2.1⟩, fun o ho => h.2.2⟩
    | (n, false) :: l, h0 =>
      have e : (doomT L other s).run ((n, false) :: l) = .inr { val := 0 } := by unfold doomT; rw [if_pos hk]; rfl
      have e2 : (doomT L other s).rest ((n, false) :: l) = l := by unfold doomT; rw [if_pos hk]; rfl
      rw [e, e2]; exact (doomR_f w g L hok me other own m s n l h0 hs hk).mono fun e w' h => ⟨⟨h.1, h.2.1⟩, fun o ho => h.2.2⟩
  · by_cases hq : s % 4 = 3
    · have e : (doomT L other s).run l = .inr { val := 2 } := by unfold doomT; rw [if_neg hk, if_pos hq]; cases l <;> rfl
      have e2 : (doomT L other s).rest l = l := by unfold doomT; rw [if_neg hk, if_pos hq]; cases l <;> rfl
      rw [e, e2]; exact (doomR_3 w g L hok me other own m s l h0 hq).mono fun e w' h => ⟨⟨h.1, h.2.1⟩, fun o ho => h.2.2⟩
    · have e : (doomT L other s).run l = .inr { val := 3 } := by unfold doomT; rw [if_neg hk, if_neg hq]; cases l <;> rfl
      have e2 : (doomT L other s).rest l = l := by unfold doomT; rw [if_neg hk, if_neg hq]; cases l <;> rfl
      rw [e, e2]; exact (doomR_2 w g L hok me other own m s l h0 hk hq).mono fun e w' h => ⟨⟨h.1, h.2.1⟩, fun o ho => h.2.2⟩

end Go.Proofs.Ytdfngmplfgifiaa


/-
  Layer 20: to take an abstract lock, as a tree of accesses; the reference's way of running it.
-/
namespace Go.Proofs.Ytdfngmplfgifiaa
set_option linter.unusedVariables false
set_option linter.unusedSimpArgs false
open Go Go.RowKit

def Tree.bind : Tree → (OutD → Tree) → Tree
  | .ret o, k => k o
  | .ask a f, k => .ask a fun r => (f r).bind k
theorem run_bind (k : OutD → Tree) : ∀ (T : Tree) (l : List (Int × Bool)), (T.bind k).run l = match T.run l with
    | .inl a => .inl a
    | .inr o => (k o).run (T.rest l) := by
  intro T
  induction T with
  | ret o => intro l; cases l <;> rfl
  | ask a f ih =>
    intro l
    match l with
    | [] => rfl
    | r :: l => exact ih r l
theorem rest_le : ∀ (T : Tree) (l : List (Int × Bool)), (T.rest l).length ≤ l.length := by
  intro T
  induction T with
  | ret o => intro l; cases l <;> exact Nat.le_refl _
  | ask a f ih =>
    intro l
    match l with
    | [] => exact Nat.le_refl _
    | r :: l => exact Nat.le_trans (ih r l) (Nat.le_succ _)
theorem rest_mem : ∀ (T : Tree) (l : List (Int × Bool)), ∀ x ∈ T.rest l, x ∈ l := by
  intro T
  induction T with
  | ret o => intro l x hx; cases l <;> exact hx
  | ask a f ih =>
    intro l x hx
    match l, hx with
    | [], hx => exact hx
    | r :: l, hx => exact List.mem_cons_of_mem _ (ih r l x hx)
theorem refRun_inr : ∀ (T : Tree) (l : List (Int × Bool)) (o : OutD), T.run l = .inr o → refRun T (l, none) = (o, (T.rest l, none)) := by
  intro T
  induction T with
  | ret o => intro l o' h; cases l <;> (cases h; rfl)
  | ask a f ih =>
    intro l o h
    match l, h with
    | [], h => cases h
    | r :: l, h => exact ih r l o h
theorem refRun_inl (T : Tree) (l : List (Int × Bool)) (a : Ask) (h : T.run l = .inl a) : (refRun T (l, none)).2.2 = some a := by
  have k := told_run T l
  rw [h] at k
  unfold toldX at k
  cases h2 : (refRun T (l, none)).2.2 with
  | none => rw [h2] at k; cases k
  | some b => rw [h2] at k; cases k; rfl

/-- To take the lock in a cell: the holder is looked at, the lock taken if it is free, a conflict resolved; again and again. -/
def takeT (L : Ly) (me cell : Int) (m : Ct) : Nat → Tree
  | 0 => .ret { lost := true }
  | n + 1 => .ask ⟨1, cell, 0, 0⟩ fun r =>
    if r.1 = IntKind.i64.wrap (me + 1) then .ret { ok := true }
    else if r.1 = 0 then .ask ⟨3, cell, 0, IntKind.i64.wrap (me + 1)⟩ fun s => if s.2 = true then .ret { ok := true } else takeT L me cell m n
    else (resolveT L me (IntKind.i64.wrap (r.1 - 1)) true m).bind fun o => if o.lost = true ∨ o.val = 1 then .ret { lost := true } else takeT L me cell m n
/-- The same as the reference runs it. -/
def rtake (L : Ly) (me cell : Int) (m : Ct) : Nat → List (Int × Bool) → Bool × CSt
  | 0, l => (false, (l, none))
  | _ + 1, [] => (false, ([], some ⟨1, cell, 0, 0⟩))
  | n + 1, r :: l =>
    if r.1 = IntKind.i64.wrap (me + 1) then (true, (l, none))
    else if r.1 = 0 then match l with
      | [] => (false, ([], some ⟨3, cell, 0, IntKind.i64.wrap (me + 1)⟩))
      | s :: l => if s.2 = true then (true, (l, none)) else rtake L me cell m n l
    else match refRun (resolveT L me (IntKind.i64.wrap (r.1 - 1)) true m) (l, none) with
      | (o, (l', some a)) => (false, (l', some a))
      | (o, (l', none)) => if o.lost = true ∨ o.val = 1 then (false, (l', none)) else rtake L me cell m n l'
theorem rtake_cons (L : Ly) (me cell : Int) (m : Ct) (n : Nat) (r : Int × Bool) (l : List (Int × Bool)) : rtake L me cell m (n + 1) (r :: l) = (if r.1 = IntKind.i64.wrap (me + 1) then (true, (l, none)) else if r.1 = 0 then match l with
      | [] => (false, ([], some ⟨3, cell, 0, IntKind.i64.wrap (me + 1)⟩))
      | s :: l => if s.2 = true then (true, (l, none)) else rtake L me cell m n l
    else match refRun (resolveT L me (IntKind.i64.wrap (r.1 - 1)) true m) (l, none) with
      | (o, (l', some a)) => (false, (l', some a))
      | (o, (l', none)) => if o.lost = true ∨ o.val = 1 then (false, (l', none)) else rtake L me cell m n l') := rfl
theorem rtake_told (L : Ly) (me cell : Int) (m : Ct) : ∀ (n : Nat) (l : List (Int × Bool)), l.length < n →
    toldX ({ ok := (rtake L me cell m n l).1, lost := !(rtake L me cell m n l).1 }, (rtake L me cell m n l).2) = (takeT L me cell m n).run l := by
  intro n
  induction n with
  | zero => intro l h; omega
  | succ n ih =>
    intro l hl
    match l, hl with
    | [], hl => rfl
    | r :: l, hl =>
      show _ = (if r.1 = IntKind.i64.wrap (me + 1) then Tree.ret { ok := true } else if r.1 = 0 then Tree.ask ⟨3, cell, 0, IntKind.i64.wrap (me + 1)⟩ fun s => if s.2 = true then .ret { ok := true } else takeT L me cell m n else (resolveT L me (IntKind.i64.wrap (r.1 - 1)) true m).bind fun o => if o.lost = true ∨ o.val = 1 then .ret { lost := true } else takeT L me cell m n).run l
      have e : rtake L me cell m (n + 1) (r :: l) = (if r.1 = IntKind.i64.wrap (me + 1) then (true, (l, none)) else if r.1 = 0 then match l with
          | [] => (false, ([], some ⟨3, cell, 0, IntKind.i64.wrap (me + 1)⟩))
          | s :: l => if s.2 = true then (true, (l, none)) else rtake L me cell m n l
        else match refRun (resolveT L me (IntKind.i64.wrap (r.1 - 1)) true m) (l, none) with
          | (o, (l', some a)) => (false, (l', some a))
          | (o, (l', none)) => if o.lost = true ∨ o.val = 1 then (false, (l', none)) else rtake L me cell m n l') := rfl
      rw [e]
      by_cases h1 : r.1 = IntKind.i64.wrap (me + 1)
      · rw [if_pos h1, if_pos h1, trun_ret]; rfl
      · rw [if_neg h1, if_neg h1]
        by_cases h2 : r.1 = 0
        · rw [if_pos h2, if_pos h2]
          match l, hl with
          | [], hl => rfl
          | s :: l, hl =>
            rw [trun_ask]
            show toldX ({ ok := (if s.2 = true then (true, (l, none)) else rtake L me cell m n l).1, lost := !(if s.2 = true then (true, (l, none)) else rtake L me cell m n l).1 }, (if s.2 = true then (true, (l, none)) else rtake L me cell m n l).2) = _
            by_cases h3 : s.2 = true
            · rw [if_pos h3, if_pos h3, trun_ret]; rfl
            · rw [if_neg h3, if_neg h3]
              exact ih l (by simp at hl; omega)
        · rw [if_neg h2, if_neg h2, run_bind]
          cases h3 : (resolveT L me (IntKind.i64.wrap (r.1 - 1)) true m).run l with
          | inl a =>
            have k := refRun_inl _ _ _ h3
            obtain ⟨⟨o, l', x⟩, e⟩ : ∃ X, refRun (resolveT L me (IntKind.i64.wrap (r.1 - 1)) true m) (l, none) = X := ⟨_, rfl⟩
            rw [e] at k
            simp only at k
            subst k
            rw [e]
            rfl
          | inr o =>
            rw [refRun_inr _ _ _ h3]
            simp only
            by_cases h4 : o.lost = true ∨ o.val = 1
            · rw [if_pos h4, if_pos h4, trun_ret]; rfl
            · rw [if_neg h4, if_neg h4]
              exact ih _ (by have := rest_le (resolveT L me (IntKind.i64.wrap (r.1 - 1)) true m) l; simp at hl; omega)
/-- What Next of layer 20 makes of a log: n is greater than the log's length. -/
def absT (L : Ly) (me kind a : Int) (m : Ct) (n : Nat) : Tree :=
  if atLock L a < 0 then .ret { err := 1 }
  else if kind = 7 then takeT L me (atLock L a) m n
  else if kind = 8 then .ask ⟨2, atLock L a, 0, 0⟩ fun _ => .ret { ok := true }
  else .ret { err := 1 }
end Go.Proofs.Ytdfngmplfgifiaa
