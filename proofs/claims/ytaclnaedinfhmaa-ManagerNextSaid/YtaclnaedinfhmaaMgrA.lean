
/-
  Layer 17: the contention managers' choice, program and reference.
-/
import Derived.Test.YtaclnaedinfhmaaRows
import Derived.Test.YtaclnaedinfhmaaBase
import Derived.Test.YtaclnaedinfhmaaAux
import Derived.Test.YtaclnaedinfhmaaTake
import Derived.WalkKit
import Derived.Deep.RegionHeld3
import Derived.IntWalk
import Derived.Lib.Hide
namespace Go.Proofs.Ytaclnaedinfhmaa
set_option linter.unusedVariables false
set_option maxRecDepth 100000
set_option maxHeartbeats 2000000
open Go.ChangeShapes Go.WideShapes Go.ChangeAt Go.RowKit

/-- A contender: timestamp, karma, aborts. -/
structure Ct where
  s : Int := 0
  k : Int := 0
  a : Int := 0
def Ct.v (c : Ct) : Value := .agg #[.int .i64 c.s, .int .i64 c.k, .int .i64 c.a]
def karmaB (m o : Ct) : Bool := if m.k = o.k then decide (m.s < o.s) else decide (o.k < m.k)
def mixedB (m o : Ct) : Bool := decide (2 ≤ m.a) && decide (m.s < o.s)
def ahead (kind : Int) (m o : Ct) : Bool := if kind = 1 then decide (m.s < o.s) else if kind = 2 then karmaB m o else if kind = 3 then mixedB m o else false
def chooseD (kind : Int) (m o : Ct) : Int := if ahead kind m o = true then 2 else 1

theorem ahead_1 (m o : Ct) : ahead 1 m o = decide (m.s < o.s) := rfl
theorem ahead_2 (m o : Ct) : ahead 2 m o = karmaB m o := rfl
theorem ahead_3 (m o : Ct) : ahead 3 m o = mixedB m o := rfl
theorem ahead_0 {kind : Int} (m o : Ct) (h1 : ¬kind = 1) (h2 : ¬kind = 2) (h3 : ¬kind = 3) : ahead kind m o = false := by unfold ahead; rw [if_neg h1, if_neg h2, if_neg h3]
theorem chooseD_t {kind : Int} {m o : Ct} (h : ahead kind m o = true) : chooseD kind m o = 2 := by unfold chooseD; rw [if_pos h]
theorem chooseD_f {kind : Int} {m o : Ct} (h : ahead kind m o = false) : chooseD kind m o = 1 := by unfold chooseD; rw [if_neg (by rw [h]; simp)]
theorem below2 (w : World) (a b : Obj) : Below w.heap.size w ((w.alloc a).alloc b) := below_alloc2 (Below.refl _ _)
theorem timid_any (m o : Ct) (w : World) : Calls Try.prog 57 #[m.v, o.v] w fun e w' => e = .returned (.bool false) ∧ Below w.heap.size w w' := by
  unfold Ct.v
  go_enter Try.func57, Try.ntmps57
  go_wp2
  go_ret
  exact ⟨rfl, below2 _ _ _⟩
theorem greedy_any (m o : Ct) (w : World) : Calls Try.prog 58 #[m.v, o.v] w fun e w' => e = .returned (.bool (decide (m.s < o.s))) ∧ Below w.heap.size w w' := by
  unfold Ct.v
  go_enter Try.func58, Try.ntmps58
  go_wp2
  go_ret
  exact ⟨rfl, below2 _ _ _⟩
theorem karma_eq (m o : Ct) (w : World) (h : m.k = o.k) : Calls Try.prog 59 #[m.v, o.v] w fun e w' => e = .returned (.bool (decide (m.s < o.s))) ∧ Below w.heap.size w w' := by
  have HG := Lib.hid (greedy_any m o)
  unfold Ct.v at HG ⊢
  have hd : (m.k == o.k) = true := by simp [h]
  clear h
  go_enter Try.func59, Try.ntmps59
  go_wp2_with (first | (with_reducible refine (HG.out _).mono ?_; rintro e w1 ⟨rfl, hb⟩))
  go_ret
  exact ⟨rfl, below_alloc2 hb⟩
theorem karma_ne (m o : Ct) (w : World) (h : ¬m.k = o.k) : Calls Try.prog 59 #[m.v, o.v] w fun e w' => e = .returned (.bool (decide (o.k < m.k))) ∧ Below w.heap.size w w' := by
  unfold Ct.v
  have hd : (m.k == o.k) = false := by simp [h]
  clear h
  go_enter Try.func59, Try.ntmps59
  go_wp2
  go_ret
  exact ⟨rfl, below2 _ _ _⟩
theorem karma_any17 (m o : Ct) (w : World) : Calls Try.prog 59 #[m.v, o.v] w fun e w' => e = .returned (.bool (karmaB m o)) ∧ Below w.heap.size w w' := by
  unfold karmaB
  by_cases h : m.k = o.k
  · rw [if_pos h]; exact karma_eq m o w h
  · rw [if_neg h]; exact karma_ne m o w h
theorem mixed_any (m o : Ct) (w : World) : Calls Try.prog 60 #[m.v, o.v] w fun e w' => e = .returned (.bool (mixedB m o)) ∧ Below w.heap.size w w' := by
  unfold mixedB
  have HG := Lib.hid (greedy_any m o)
  unfold Ct.v at HG ⊢
  by_cases h : 2 ≤ m.a
  · have hd : decide (2 ≤ m.a) = true := by simp [h]
    rw [hd, Bool.true_and]
    clear hd
    go_enter Try.func60, Try.ntmps60
    go_wp2_with (first | (with_reducible refine (HG.out _).mono ?_; rintro e w1 ⟨rfl, hb⟩))
    go_ret
    exact ⟨rfl, below_alloc2 hb⟩
  · have hd : decide (2 ≤ m.a) = false := by simp [h]
    rw [hd, Bool.false_and]
    have h2 : m.a < 2 := by omega
    clear h
    go_enter Try.func60, Try.ntmps60
    go_wp2
    go_ret
    exact ⟨rfl, below2 _ _ _⟩

theorem choose_0f (m o : Ct) (w : World) (HP : ∀ w, Calls Try.prog 57 #[m.v, o.v] w fun e w' => e = .returned (.bool false) ∧ Below w.heap.size w w') : Calls Try.prog 30 #[.int .i64 0, m.v, o.v] w fun e w' => e = .returned (.int .i64 1) ∧ Below w.heap.size w w' := by
  have hst : ∀ (fn : Fn) (f c : Array Value) (a : Addr) (w : World), (store a (.func fn f c)).run Try.prog w = stored Try.prog w a (.func fn f c) .plain := fun _ _ _ _ _ => run_store _ _ _ _ _ rfl
  replace HP := Lib.hid HP
  unfold Ct.v at HP ⊢
  go_enter Try.func30, Try.ntmps30
  go_wp2_with fail
  have HW := Lib.hid (below_alloc2 (below_alloc1 (Below.refl (World.heap (((w.alloc (.cells #[.int .i64 m.s, .int .i64 m.k, .int .i64 m.a] 23)).alloc (.cells #[.int .i64 o.s, .int .i64 o.k, .int .i64 o.a] 23)).alloc (.cells #[.func (.func 57) #[] #[], .func (.func 58) #[] #[], .func (.func 59) #[] #[], .func (.func 60) #[] #[]] 117))).size (((w.alloc (.cells #[.int .i64 m.s, .int .i64 m.k, .int .i64 m.a] 23)).alloc (.cells #[.int .i64 o.s, .int .i64 o.k, .int .i64 o.a] 23)).alloc (.cells #[.func (.func 57) #[] #[], .func (.func 58) #[] #[], .func (.func 59) #[] #[], .func (.func 60) #[] #[]] 117)))))
  refine wp_region_held_drew (S := fun W => W.cell? ⟨w.heap.size, 0, none⟩ = some (.int .i64 m.s) ∧ W.cell? ⟨w.heap.size, 1, none⟩ = some (.int .i64 m.k) ∧ W.cell? ⟨w.heap.size, 2, none⟩ = some (.int .i64 m.a) ∧ W.cell? ⟨w.heap.size + 1, 0, none⟩ = some (.int .i64 o.s) ∧ W.cell? ⟨w.heap.size + 1, 1, none⟩ = some (.int .i64 o.k) ∧ W.cell? ⟨w.heap.size + 1, 2, none⟩ = some (.int .i64 o.a) ∧ W.cell? ⟨w.heap.size + 1 + 1, 0, none⟩ = some (.func (.func 57) #[] #[]) ∧ W.cell? ⟨w.heap.size + 1 + 1, 1, none⟩ = some (.func (.func 58) #[] #[]) ∧ W.cell? ⟨w.heap.size + 1 + 1, 2, none⟩ = some (.func (.func 59) #[] #[]) ∧ W.cell? ⟨w.heap.size + 1 + 1, 3, none⟩ = some (.func (.func 60) #[] #[])) (by kernel_rfl) ?_ (fun hHeld => ?_)
  · (try dsimp only); exact ⟨by first | assumption | go_simp, by first | assumption | go_simp, by first | assumption | go_simp, by first | assumption | go_simp, by first | assumption | go_simp, by first | assumption | go_simp, by first | assumption | go_simp, by first | assumption | go_simp, by first | assumption | go_simp, by first | assumption | go_simp⟩
  replace HW := Lib.hid (below_drews HW.out 1)
  refine tkA 0 (by kernel_rfl) (by assumption) ⟨_, _, ?_, rfl, rfl, ?_, fun _ _ _ h => h, ?_⟩; rotate_left; · intro w hSw; (try dsimp only at hSw); go_simp; (try with_reducible rfl)
  (try simp only [Act.put, List.setIfInBounds_toArray, List.set_cons_zero, List.set_cons_succ])
  refine tkA 1 (by kernel_rfl) (by assumption) ⟨_, _, ?_, rfl, rfl, ?_, fun _ _ _ h => h, ?_⟩; rotate_left; · intro w hSw; (try dsimp only at hSw); go_simp; (try with_reducible rfl)
  (try simp only [Act.put, List.setIfInBounds_toArray, List.set_cons_zero, List.set_cons_succ])
  refine tkA 2 (by kernel_rfl) (by assumption) ⟨_, _, ?_, rfl, rfl, ?_, fun _ _ _ h => h, ?_⟩; rotate_left; · intro w hSw; (try dsimp only at hSw); go_simp; (try with_reducible rfl)
  (try simp only [Act.put, List.setIfInBounds_toArray, List.set_cons_zero, List.set_cons_succ])
  first | (refine tkA 3 (by kernel_rfl) (by assumption) ⟨_, _, ?_, rfl, rfl, ?_, fun _ _ _ h => h, ?_⟩; rotate_left; · intro w hSw; (try dsimp only at hSw); go_simp; (try with_reducible rfl)) | refine tkB 3 (by kernel_rfl) (by assumption) ⟨_, _, rfl, rfl, fun _ _ _ h => h, ?_⟩
  (try simp only [Act.put, List.setIfInBounds_toArray, List.set_cons_zero, List.set_cons_succ])
  first | (refine tkA 4 (by kernel_rfl) (by assumption) ⟨_, _, ?_, rfl, rfl, ?_, fun _ _ _ h => h, ?_⟩; rotate_left; · intro w hSw; (try dsimp only at hSw); go_simp; (try with_reducible rfl)) | refine tkB 4 (by kernel_rfl) (by assumption) ⟨_, _, rfl, rfl, fun _ _ _ h => h, ?_⟩
  (try simp only [Act.put, List.setIfInBounds_toArray, List.set_cons_zero, List.set_cons_succ])
  refine tkA 5 (by kernel_rfl) (by assumption) ⟨_, _, ?_, rfl, rfl, ?_, fun _ _ _ h => h, ?_⟩; rotate_left; · intro w hSw; (try dsimp only at hSw); go_simp; (try with_reducible rfl)
  (try simp only [Act.put, List.setIfInBounds_toArray, List.set_cons_zero, List.set_cons_succ])
  refine tkA 6 (by kernel_rfl) (by assumption) ⟨_, _, ?_, rfl, rfl, ?_, fun _ _ _ h => h, ?_⟩; rotate_left; · intro w hSw; (try dsimp only at hSw); go_simp; (try with_reducible rfl)
  (try simp only [Act.put, List.setIfInBounds_toArray, List.set_cons_zero, List.set_cons_succ])
  first | (refine tkA 7 (by kernel_rfl) (by assumption) ⟨_, _, ?_, rfl, rfl, ?_, fun _ _ _ h => h, ?_⟩; rotate_left; · intro w hSw; (try dsimp only at hSw); go_simp; (try with_reducible rfl)) | refine tkB 7 (by kernel_rfl) (by assumption) ⟨_, _, rfl, rfl, fun _ _ _ h => h, ?_⟩
  (try simp only [Act.put, List.setIfInBounds_toArray, List.set_cons_zero, List.set_cons_succ])
  first | (refine tkA 8 (by kernel_rfl) (by assumption) ⟨_, _, ?_, rfl, rfl, ?_, fun _ _ _ h => h, ?_⟩; rotate_left; · intro w hSw; (try dsimp only at hSw); go_simp; (try with_reducible rfl)) | refine tkB 8 (by kernel_rfl) (by assumption) ⟨_, _, rfl, rfl, fun _ _ _ h => h, ?_⟩
  (try simp only [Act.put, List.setIfInBounds_toArray, List.set_cons_zero, List.set_cons_succ])
  first | (refine tkA 9 (by kernel_rfl) (by assumption) ⟨_, _, ?_, rfl, rfl, ?_, fun _ _ _ h => h, ?_⟩; rotate_left; · intro w hSw; (try dsimp only at hSw); go_simp; (try with_reducible rfl)) | refine tkB 9 (by kernel_rfl) (by assumption) ⟨_, _, rfl, rfl, fun _ _ _ h => h, ?_⟩
  (try simp only [Act.put, List.setIfInBounds_toArray, List.set_cons_zero, List.set_cons_succ])
  first | (refine tkA 10 (by kernel_rfl) (by assumption) ⟨_, _, ?_, rfl, rfl, ?_, fun _ _ _ h => h, ?_⟩; rotate_left; · intro w hSw; (try dsimp only at hSw); go_simp; (try with_reducible rfl)) | refine tkB 10 (by kernel_rfl) (by assumption) ⟨_, _, rfl, rfl, fun _ _ _ h => h, ?_⟩
  (try simp only [Act.put, List.setIfInBounds_toArray, List.set_cons_zero, List.set_cons_succ])
  first | (refine tkA 11 (by kernel_rfl) (by assumption) ⟨_, _, ?_, rfl, rfl, ?_, fun _ _ _ h => h, ?_⟩; rotate_left; · intro w hSw; (try dsimp only at hSw); go_simp; (try with_reducible rfl)) | refine tkB 11 (by kernel_rfl) (by assumption) ⟨_, _, rfl, rfl, fun _ _ _ h => h, ?_⟩
  (try simp only [Act.put, List.setIfInBounds_toArray, List.set_cons_zero, List.set_cons_succ])
  refine wpAnyH_ready (rs := [12]) (by kernel_rfl) (by simp) ?_
  refine AllReadyH.cons (o := ?oi1) ?hi1 (fun K hK => ?rest1) AllReadyH.nil
  (case hi1 => (simp only [List.getElem?_toArray, List.getElem?_cons_succ, List.getElem?_cons_zero]; rfl))
  obtain ⟨s0, s1, s2, s3, s4, s5, s6, s7, s8, s9⟩ := hHeld
  go_simp
  ((with_reducible refine (HP.out _).mono ?_); rintro e wx1 ⟨rfl, hb⟩)
  replace HW := Lib.hid (below_step HW.out hb)
  refine hK.out _ _ ?_ (fun hHeld => ?_)
  · (try dsimp only); exact ⟨cel_below hb s0, cel_below hb s1, cel_below hb s2, cel_below hb s3, cel_below hb s4, cel_below hb s5, cel_below hb s6, cel_below hb s7, cel_below hb s8, cel_below hb s9⟩
  clear hK K s0 s1 s2 s3 s4 s5 s6 s7 s8 s9 hb
  (try simp only [Act.put, List.setIfInBounds_toArray, List.set_cons_zero, List.set_cons_succ])
  refine tkA 13 (by kernel_rfl) (by assumption) ⟨_, _, ?_, rfl, rfl, ?_, fun _ _ _ h => h, ?_⟩; rotate_left; · intro w hSw; (try dsimp only at hSw); go_simp; (try with_reducible rfl)
  (try simp only [Act.put, List.setIfInBounds_toArray, List.set_cons_zero, List.set_cons_succ])
  refine wpAnyH_done (by kernel_rfl) ?_ _
  obtain ⟨s0, s1, s2, s3, s4, s5, s6, s7, s8, s9⟩ := hHeld
  go_wp2
  go_ret
  exact ⟨rfl, HW.out⟩

theorem choose_1t (m o : Ct) (w : World) (HP : ∀ w, Calls Try.prog 58 #[m.v, o.v] w fun e w' => e = .returned (.bool true) ∧ Below w.heap.size w w') : Calls Try.prog 30 #[.int .i64 1, m.v, o.v] w fun e w' => e = .returned (.int .i64 2) ∧ Below w.heap.size w w' := by
  have hst : ∀ (fn : Fn) (f c : Array Value) (a : Addr) (w : World), (store a (.func fn f c)).run Try.prog w = stored Try.prog w a (.func fn f c) .plain := fun _ _ _ _ _ => run_store _ _ _ _ _ rfl
  replace HP := Lib.hid HP
  unfold Ct.v at HP ⊢
  go_enter Try.func30, Try.ntmps30
  go_wp2_with fail
  have HW := Lib.hid (below_alloc2 (below_alloc1 (Below.refl (World.heap (((w.alloc (.cells #[.int .i64 m.s, .int .i64 m.k, .int .i64 m.a] 23)).alloc (.cells #[.int .i64 o.s, .int .i64 o.k, .int .i64 o.a] 23)).alloc (.cells #[.func (.func 57) #[] #[], .func (.func 58) #[] #[], .func (.func 59) #[] #[], .func (.func 60) #[] #[]] 117))).size (((w.alloc (.cells #[.int .i64 m.s, .int .i64 m.k, .int .i64 m.a] 23)).alloc (.cells #[.int .i64 o.s, .int .i64 o.k, .int .i64 o.a] 23)).alloc (.cells #[.func (.func 57) #[] #[], .func (.func 58) #[] #[], .func (.func 59) #[] #[], .func (.func 60) #[] #[]] 117)))))
  refine wp_region_held_drew (S := fun W => W.cell? ⟨w.heap.size, 0, none⟩ = some (.int .i64 m.s) ∧ W.cell? ⟨w.heap.size, 1, none⟩ = some (.int .i64 m.k) ∧ W.cell? ⟨w.heap.size, 2, none⟩ = some (.int .i64 m.a) ∧ W.cell? ⟨w.heap.size + 1, 0, none⟩ = some (.int .i64 o.s) ∧ W.cell? ⟨w.heap.size + 1, 1, none⟩ = some (.int .i64 o.k) ∧ W.cell? ⟨w.heap.size + 1, 2, none⟩ = some (.int .i64 o.a) ∧ W.cell? ⟨w.heap.size + 1 + 1, 0, none⟩ = some (.func (.func 57) #[] #[]) ∧ W.cell? ⟨w.heap.size + 1 + 1, 1, none⟩ = some (.func (.func 58) #[] #[]) ∧ W.cell? ⟨w.heap.size + 1 + 1, 2, none⟩ = some (.func (.func 59) #[] #[]) ∧ W.cell? ⟨w.heap.size + 1 + 1, 3, none⟩ = some (.func (.func 60) #[] #[])) (by kernel_rfl) ?_ (fun hHeld => ?_)
  · (try dsimp only); exact ⟨by first | assumption | go_simp, by first | assumption | go_simp, by first | assumption | go_simp, by first | assumption | go_simp, by first | assumption | go_simp, by first | assumption | go_simp, by first | assumption | go_simp, by first | assumption | go_simp, by first | assumption | go_simp, by first | assumption | go_simp⟩
  replace HW := Lib.hid (below_drews HW.out 1)
  refine tkA 0 (by kernel_rfl) (by assumption) ⟨_, _, ?_, rfl, rfl, ?_, fun _ _ _ h => h, ?_⟩; rotate_left; · intro w hSw; (try dsimp only at hSw); go_simp; (try with_reducible rfl)
  (try simp only [Act.put, List.setIfInBounds_toArray, List.set_cons_zero, List.set_cons_succ])
  refine tkA 1 (by kernel_rfl) (by assumption) ⟨_, _, ?_, rfl, rfl, ?_, fun _ _ _ h => h, ?_⟩; rotate_left; · intro w hSw; (try dsimp only at hSw); go_simp; (try with_reducible rfl)
  (try simp only [Act.put, List.setIfInBounds_toArray, List.set_cons_zero, List.set_cons_succ])
  refine tkA 2 (by kernel_rfl) (by assumption) ⟨_, _, ?_, rfl, rfl, ?_, fun _ _ _ h => h, ?_⟩; rotate_left; · intro w hSw; (try dsimp only at hSw); go_simp; (try with_reducible rfl)
  (try simp only [Act.put, List.setIfInBounds_toArray, List.set_cons_zero, List.set_cons_succ])
  first | (refine tkA 3 (by kernel_rfl) (by assumption) ⟨_, _, ?_, rfl, rfl, ?_, fun _ _ _ h => h, ?_⟩; rotate_left; · intro w hSw; (try dsimp only at hSw); go_simp; (try with_reducible rfl)) | refine tkB 3 (by kernel_rfl) (by assumption) ⟨_, _, rfl, rfl, fun _ _ _ h => h, ?_⟩
  (try simp only [Act.put, List.setIfInBounds_toArray, List.set_cons_zero, List.set_cons_succ])
  first | (refine tkA 4 (by kernel_rfl) (by assumption) ⟨_, _, ?_, rfl, rfl, ?_, fun _ _ _ h => h, ?_⟩; rotate_left; · intro w hSw; (try dsimp only at hSw); go_simp; (try with_reducible rfl)) | refine tkB 4 (by kernel_rfl) (by assumption) ⟨_, _, rfl, rfl, fun _ _ _ h => h, ?_⟩
  (try simp only [Act.put, List.setIfInBounds_toArray, List.set_cons_zero, List.set_cons_succ])
  refine tkA 5 (by kernel_rfl) (by assumption) ⟨_, _, ?_, rfl, rfl, ?_, fun _ _ _ h => h, ?_⟩; rotate_left; · intro w hSw; (try dsimp only at hSw); go_simp; (try with_reducible rfl)
  (try simp only [Act.put, List.setIfInBounds_toArray, List.set_cons_zero, List.set_cons_succ])
  refine tkA 6 (by kernel_rfl) (by assumption) ⟨_, _, ?_, rfl, rfl, ?_, fun _ _ _ h => h, ?_⟩; rotate_left; · intro w hSw; (try dsimp only at hSw); go_simp; (try with_reducible rfl)
  (try simp only [Act.put, List.setIfInBounds_toArray, List.set_cons_zero, List.set_cons_succ])
  first | (refine tkA 7 (by kernel_rfl) (by assumption) ⟨_, _, ?_, rfl, rfl, ?_, fun _ _ _ h => h, ?_⟩; rotate_left; · intro w hSw; (try dsimp only at hSw); go_simp; (try with_reducible rfl)) | refine tkB 7 (by kernel_rfl) (by assumption) ⟨_, _, rfl, rfl, fun _ _ _ h => h, ?_⟩
  (try simp only [Act.put, List.setIfInBounds_toArray, List.set_cons_zero, List.set_cons_succ])
  first | (refine tkA 8 (by kernel_rfl) (by assumption) ⟨_, _, ?_, rfl, rfl, ?_, fun _ _ _ h => h, ?_⟩; rotate_left; · intro w hSw; (try dsimp only at hSw); go_simp; (try with_reducible rfl)) | refine tkB 8 (by kernel_rfl) (by assumption) ⟨_, _, rfl, rfl, fun _ _ _ h => h, ?_⟩
  (try simp only [Act.put, List.setIfInBounds_toArray, List.set_cons_zero, List.set_cons_succ])
  first | (refine tkA 9 (by kernel_rfl) (by assumption) ⟨_, _, ?_, rfl, rfl, ?_, fun _ _ _ h => h, ?_⟩; rotate_left; · intro w hSw; (try dsimp only at hSw); go_simp; (try with_reducible rfl)) | refine tkB 9 (by kernel_rfl) (by assumption) ⟨_, _, rfl, rfl, fun _ _ _ h => h, ?_⟩
  (try simp only [Act.put, List.setIfInBounds_toArray, List.set_cons_zero, List.set_cons_succ])
  first | (refine tkA 10 (by kernel_rfl) (by assumption) ⟨_, _, ?_, rfl, rfl, ?_, fun _ _ _ h => h, ?_⟩; rotate_left; · intro w hSw; (try dsimp only at hSw); go_simp; (try with_reducible rfl)) | refine tkB 10 (by kernel_rfl) (by assumption) ⟨_, _, rfl, rfl, fun _ _ _ h => h, ?_⟩
  (try simp only [Act.put, List.setIfInBounds_toArray, List.set_cons_zero, List.set_cons_succ])
  first | (refine tkA 11 (by kernel_rfl) (by assumption) ⟨_, _, ?_, rfl, rfl, ?_, fun _ _ _ h => h, ?_⟩; rotate_left; · intro w hSw; (try dsimp only at hSw); go_simp; (try with_reducible rfl)) | refine tkB 11 (by kernel_rfl) (by assumption) ⟨_, _, rfl, rfl, fun _ _ _ h => h, ?_⟩
  (try simp only [Act.put, List.setIfInBounds_toArray, List.set_cons_zero, List.set_cons_succ])
  refine wpAnyH_ready (rs := [12]) (by kernel_rfl) (by simp) ?_
  refine AllReadyH.cons (o := ?oi2) ?hi2 (fun K hK => ?rest2) AllReadyH.nil
  (case hi2 => (simp only [List.getElem?_toArray, List.getElem?_cons_succ, List.getElem?_cons_zero]; rfl))
  obtain ⟨s0, s1, s2, s3, s4, s5, s6, s7, s8, s9⟩ := hHeld
  go_simp
  ((with_reducible refine (HP.out _).mono ?_); rintro e wx1 ⟨rfl, hb⟩)
  replace HW := Lib.hid (below_step HW.out hb)
  refine hK.out _ _ ?_ (fun hHeld => ?_)
  · (try dsimp only); exact ⟨cel_below hb s0, cel_below hb s1, cel_below hb s2, cel_below hb s3, cel_below hb s4, cel_below hb s5, cel_below hb s6, cel_below hb s7, cel_below hb s8, cel_below hb s9⟩
  clear hK K s0 s1 s2 s3 s4 s5 s6 s7 s8 s9 hb
  (try simp only [Act.put, List.setIfInBounds_toArray, List.set_cons_zero, List.set_cons_succ])
  refine tkA 13 (by kernel_rfl) (by assumption) ⟨_, _, ?_, rfl, rfl, ?_, fun _ _ _ h => h, ?_⟩; rotate_left; · intro w hSw; (try dsimp only at hSw); go_simp; (try with_reducible rfl)
  (try simp only [Act.put, List.setIfInBounds_toArray, List.set_cons_zero, List.set_cons_succ])
  refine wpAnyH_done (by kernel_rfl) ?_ _
  obtain ⟨s0, s1, s2, s3, s4, s5, s6, s7, s8, s9⟩ := hHeld
  go_wp2
  go_ret
  exact ⟨rfl, HW.out⟩

theorem choose_1f (m o : Ct) (w : World) (HP : ∀ w, Calls Try.prog 58 #[m.v, o.v] w fun e w' => e = .returned (.bool false) ∧ Below w.heap.size w w') : Calls Try.prog 30 #[.int .i64 1, m.v, o.v] w fun e w' => e = .returned (.int .i64 1) ∧ Below w.heap.size w w' := by
  have hst : ∀ (fn : Fn) (f c : Array Value) (a : Addr) (w : World), (store a (.func fn f c)).run Try.prog w = stored Try.prog w a (.func fn f c) .plain := fun _ _ _ _ _ => run_store _ _ _ _ _ rfl
  replace HP := Lib.hid HP
  unfold Ct.v at HP ⊢
  go_enter Try.func30, Try.ntmps30
  go_wp2_with fail
  have HW := Lib.hid (below_alloc2 (below_alloc1 (Below.refl (World.heap (((w.alloc (.cells #[.int .i64 m.s, .int .i64 m.k, .int .i64 m.a] 23)).alloc (.cells #[.int .i64 o.s, .int .i64 o.k, .int .i64 o.a] 23)).alloc (.cells #[.func (.func 57) #[] #[], .func (.func 58) #[] #[], .func (.func 59) #[] #[], .func (.func 60) #[] #[]] 117))).size (((w.alloc (.cells #[.int .i64 m.s, .int .i64 m.k, .int .i64 m.a] 23)).alloc (.cells #[.int .i64 o.s, .int .i64 o.k, .int .i64 o.a] 23)).alloc (.cells #[.func (.func 57) #[] #[], .func (.func 58) #[] #[], .func (.func 59) #[] #[], .func (.func 60) #[] #[]] 117)))))
  refine wp_region_held_drew (S := fun W => W.cell? ⟨w.heap.size, 0, none⟩ = some (.int .i64 m.s) ∧ W.cell? ⟨w.heap.size, 1, none⟩ = some (.int .i64 m.k) ∧ W.cell? ⟨w.heap.size, 2, none⟩ = some (.int .i64 m.a) ∧ W.cell? ⟨w.heap.size + 1, 0, none⟩ = some (.int .i64 o.s) ∧ W.cell? ⟨w.heap.size + 1, 1, none⟩ = some (.int .i64 o.k) ∧ W.cell? ⟨w.heap.size + 1, 2, none⟩ = some (.int .i64 o.a) ∧ W.cell? ⟨w.heap.size + 1 + 1, 0, none⟩ = some (.func (.func 57) #[] #[]) ∧ W.cell? ⟨w.heap.size + 1 + 1, 1, none⟩ = some (.func (.func 58) #[] #[]) ∧ W.cell? ⟨w.heap.size + 1 + 1, 2, none⟩ = some (.func (.func 59) #[] #[]) ∧ W.cell? ⟨w.heap.size + 1 + 1, 3, none⟩ = some (.func (.func 60) #[] #[])) (by kernel_rfl) ?_ (fun hHeld => ?_)
  · (try dsimp only); exact ⟨by first | assumption | go_simp, by first | assumption | go_simp, by first | assumption | go_simp, by first | assumption | go_simp, by first | assumption | go_simp, by first | assumption | go_simp, by first | assumption | go_simp, by first | assumption | go_simp, by first | assumption | go_simp, by first | assumption | go_simp⟩
  replace HW := Lib.hid (below_drews HW.out 1)
  refine tkA 0 (by kernel_rfl) (by assumption) ⟨_, _, ?_, rfl, rfl, ?_, fun _ _ _ h => h, ?_⟩; rotate_left; · intro w hSw; (try dsimp only at hSw); go_simp; (try with_reducible rfl)
  (try simp only [Act.put, List.setIfInBounds_toArray, List.set_cons_zero, List.set_cons_succ])
  refine tkA 1 (by kernel_rfl) (by assumption) ⟨_, _, ?_, rfl, rfl, ?_, fun _ _ _ h => h, ?_⟩; rotate_left; · intro w hSw; (try dsimp only at hSw); go_simp; (try with_reducible rfl)
  (try simp only [Act.put, List.setIfInBounds_toArray, List.set_cons_zero, List.set_cons_succ])
  refine tkA 2 (by kernel_rfl) (by assumption) ⟨_, _, ?_, rfl, rfl, ?_, fun _ _ _ h => h, ?_⟩; rotate_left; · intro w hSw; (try dsimp only at hSw); go_simp; (try with_reducible rfl)
  (try simp only [Act.put, List.setIfInBounds_toArray, List.set_cons_zero, List.set_cons_succ])
  first | (refine tkA 3 (by kernel_rfl) (by assumption) ⟨_, _, ?_, rfl, rfl, ?_, fun _ _ _ h => h, ?_⟩; rotate_left; · intro w hSw; (try dsimp only at hSw); go_simp; (try with_reducible rfl)) | refine tkB 3 (by kernel_rfl) (by assumption) ⟨_, _, rfl, rfl, fun _ _ _ h => h, ?_⟩
  (try simp only [Act.put, List.setIfInBounds_toArray, List.set_cons_zero, List.set_cons_succ])
  first | (refine tkA 4 (by kernel_rfl) (by assumption) ⟨_, _, ?_, rfl, rfl, ?_, fun _ _ _ h => h, ?_⟩; rotate_left; · intro w hSw; (try dsimp only at hSw); go_simp; (try with_reducible rfl)) | refine tkB 4 (by kernel_rfl) (by assumption) ⟨_, _, rfl, rfl, fun _ _ _ h => h, ?_⟩
  (try simp only [Act.put, List.setIfInBounds_toArray, List.set_cons_zero, List.set_cons_succ])
  refine tkA 5 (by kernel_rfl) (by assumption) ⟨_, _, ?_, rfl, rfl, ?_, fun _ _ _ h => h, ?_⟩; rotate_left; · intro w hSw; (try dsimp only at hSw); go_simp; (try with_reducible rfl)
  (try simp only [Act.put, List.setIfInBounds_toArray, List.set_cons_zero, List.set_cons_succ])
  refine tkA 6 (by kernel_rfl) (by assumption) ⟨_, _, ?_, rfl, rfl, ?_, fun _ _ _ h => h, ?_⟩; rotate_left; · intro w hSw; (try dsimp only at hSw); go_simp; (try with_reducible rfl)
  (try simp only [Act.put, List.setIfInBounds_toArray, List.set_cons_zero, List.set_cons_succ])
  first | (refine tkA 7 (by kernel_rfl) (by assumption) ⟨_, _, ?_, rfl, rfl, ?_, fun _ _ _ h => h, ?_⟩; rotate_left; · intro w hSw; (try dsimp only at hSw); go_simp; (try with_reducible rfl)) | refine tkB 7 (by kernel_rfl) (by assumption) ⟨_, _, rfl, rfl, fun _ _ _ h => h, ?_⟩
  (try simp only [Act.put, List.setIfInBounds_toArray, List.set_cons_zero, List.set_cons_succ])
  first | (refine tkA 8 (by kernel_rfl) (by assumption) ⟨_, _, ?_, rfl, rfl, ?_, fun _ _ _ h => h, ?_⟩; rotate_left; · intro w hSw; (try dsimp only at hSw); go_simp; (try with_reducible rfl)) | refine tkB 8 (by kernel_rfl) (by assumption) ⟨_, _, rfl, rfl, fun _ _ _ h => h, ?_⟩
  (try simp only [Act.put, List.setIfInBounds_toArray, List.set_cons_zero, List.set_cons_succ])
  first | (refine tkA 9 (by kernel_rfl) (by assumption) ⟨_, _, ?_, rfl, rfl, ?_, fun _ _ _ h => h, ?_⟩; rotate_left; · intro w hSw; (try dsimp only at hSw); go_simp; (try with_reducible rfl)) | refine tkB 9 (by kernel_rfl) (by assumption) ⟨_, _, rfl, rfl, fun _ _ _ h => h, ?_⟩
  (try simp only [Act.put, List.setIfInBounds_toArray, List.set_cons_zero, List.set_cons_succ])
  first | (refine tkA 10 (by kernel_rfl) (by assumption) ⟨_, _, ?_, rfl, rfl, ?_, fun _ _ _ h => h, ?_⟩; rotate_left; · intro w hSw; (try dsimp only at hSw); go_simp; (try with_reducible rfl)) | refine tkB 10 (by kernel_rfl) (by assumption) ⟨_, _, rfl, rfl, fun _ _ _ h => h, ?_⟩
  (try simp only [Act.put, List.setIfInBounds_toArray, List.set_cons_zero, List.set_cons_succ])
  first | (refine tkA 11 (by kernel_rfl) (by assumption) ⟨_, _, ?_, rfl, rfl, ?_, fun _ _ _ h => h, ?_⟩; rotate_left; · intro w hSw; (try dsimp only at hSw); go_simp; (try with_reducible rfl)) | refine tkB 11 (by kernel_rfl) (by assumption) ⟨_, _, rfl, rfl, fun _ _ _ h => h, ?_⟩
  (try simp only [Act.put, List.setIfInBounds_toArray, List.set_cons_zero, List.set_cons_succ])
  refine wpAnyH_ready (rs := [12]) (by kernel_rfl) (by simp) ?_
  refine AllReadyH.cons (o := ?oi3) ?hi3 (fun K hK => ?rest3) AllReadyH.nil
  (case hi3 => (simp only [List.getElem?_toArray, List.getElem?_cons_succ, List.getElem?_cons_zero]; rfl))
  obtain ⟨s0, s1, s2, s3, s4, s5, s6, s7, s8, s9⟩ := hHeld
  go_simp
  ((with_reducible refine (HP.out _).mono ?_); rintro e wx1 ⟨rfl, hb⟩)
  replace HW := Lib.hid (below_step HW.out hb)
  refine hK.out _ _ ?_ (fun hHeld => ?_)
  · (try dsimp only); exact ⟨cel_below hb s0, cel_below hb s1, cel_below hb s2, cel_below hb s3, cel_below hb s4, cel_below hb s5, cel_below hb s6, cel_below hb s7, cel_below hb s8, cel_below hb s9⟩
  clear hK K s0 s1 s2 s3 s4 s5 s6 s7 s8 s9 hb
  (try simp only [Act.put, List.setIfInBounds_toArray, List.set_cons_zero, List.set_cons_succ])
  refine tkA 13 (by kernel_rfl) (by assumption) ⟨_, _, ?_, rfl, rfl, ?_, fun _ _ _ h => h, ?_⟩; rotate_left; · intro w hSw; (try dsimp only at hSw); go_simp; (try with_reducible rfl)
  (try simp only [Act.put, List.setIfInBounds_toArray, List.set_cons_zero, List.set_cons_succ])
  refine wpAnyH_done (by kernel_rfl) ?_ _
  obtain ⟨s0, s1, s2, s3, s4, s5, s6, s7, s8, s9⟩ := hHeld
  go_wp2
  go_ret
  exact ⟨rfl, HW.out⟩

theorem choose_2t (m o : Ct) (w : World) (HP : ∀ w, Calls Try.prog 59 #[m.v, o.v] w fun e w' => e = .returned (.bool true) ∧ Below w.heap.size w w') : Calls Try.prog 30 #[.int .i64 2, m.v, o.v] w fun e w' => e = .returned (.int .i64 2) ∧ Below w.heap.size w w' := by
  have hst : ∀ (fn : Fn) (f c : Array Value) (a : Addr) (w : World), (store a (.func fn f c)).run Try.prog w = stored Try.prog w a (.func fn f c) .plain := fun _ _ _ _ _ => run_store _ _ _ _ _ rfl
  replace HP := Lib.hid HP
  unfold Ct.v at HP ⊢
  go_enter Try.func30, Try.ntmps30
  go_wp2_with fail
  have HW := Lib.hid (below_alloc2 (below_alloc1 (Below.refl (World.heap (((w.alloc (.cells #[.int .i64 m.s, .int .i64 m.k, .int .i64 m.a] 23)).alloc (.cells #[.int .i64 o.s, .int .i64 o.k, .int .i64 o.a] 23)).alloc (.cells #[.func (.func 57) #[] #[], .func (.func 58) #[] #[], .func (.func 59) #[] #[], .func (.func 60) #[] #[]] 117))).size (((w.alloc (.cells #[.int .i64 m.s, .int .i64 m.k, .int .i64 m.a] 23)).alloc (.cells #[.int .i64 o.s, .int .i64 o.k, .int .i64 o.a] 23)).alloc (.cells #[.func (.func 57) #[] #[], .func (.func 58) #[] #[], .func (.func 59) #[] #[], .func (.func 60) #[] #[]] 117)))))
  refine wp_region_held_drew (S := fun W => W.cell? ⟨w.heap.size, 0, none⟩ = some (.int .i64 m.s) ∧ W.cell? ⟨w.heap.size, 1, none⟩ = some (.int .i64 m.k) ∧ W.cell? ⟨w.heap.size, 2, none⟩ = some (.int .i64 m.a) ∧ W.cell? ⟨w.heap.size + 1, 0, none⟩ = some (.int .i64 o.s) ∧ W.cell? ⟨w.heap.size + 1, 1, none⟩ = some (.int .i64 o.k) ∧ W.cell? ⟨w.heap.size + 1, 2, none⟩ = some (.int .i64 o.a) ∧ W.cell? ⟨w.heap.size + 1 + 1, 0, none⟩ = some (.func (.func 57) #[] #[]) ∧ W.cell? ⟨w.heap.size + 1 + 1, 1, none⟩ = some (.func (.func 58) #[] #[]) ∧ W.cell? ⟨w.heap.size + 1 + 1, 2, none⟩ = some (.func (.func 59) #[] #[]) ∧ W.cell? ⟨w.heap.size + 1 + 1, 3, none⟩ = some (.func (.func 60) #[] #[])) (by kernel_rfl) ?_ (fun hHeld => ?_)
  · (try dsimp only); exact ⟨by first | assumption | go_simp, by first | assumption | go_simp, by first | assumption | go_simp, by first | assumption | go_simp, by first | assumption | go_simp, by first | assumption | go_simp, by first | assumption | go_simp, by first | assumption | go_simp, by first | assumption | go_simp, by first | assumption | go_simp⟩
  replace HW := Lib.hid (below_drews HW.out 1)
  refine tkA 0 (by kernel_rfl) (by assumption) ⟨_, _, ?_, rfl, rfl, ?_, fun _ _ _ h => h, ?_⟩; rotate_left; · intro w hSw; (try dsimp only at hSw); go_simp; (try with_reducible rfl)
  (try simp only [Act.put, List.setIfInBounds_toArray, List.set_cons_zero, List.set_cons_succ])
  refine tkA 1 (by kernel_rfl) (by assumption) ⟨_, _, ?_, rfl, rfl, ?_, fun _ _ _ h => h, ?_⟩; rotate_left; · intro w hSw; (try dsimp only at hSw); go_simp; (try with_reducible rfl)
  (try simp only [Act.put, List.setIfInBounds_toArray, List.set_cons_zero, List.set_cons_succ])
  refine tkA 2 (by kernel_rfl) (by assumption) ⟨_, _, ?_, rfl, rfl, ?_, fun _ _ _ h => h, ?_⟩; rotate_left; · intro w hSw; (try dsimp only at hSw); go_simp; (try with_reducible rfl)
  (try simp only [Act.put, List.setIfInBounds_toArray, List.set_cons_zero, List.set_cons_succ])
  first | (refine tkA 3 (by kernel_rfl) (by assumption) ⟨_, _, ?_, rfl, rfl, ?_, fun _ _ _ h => h, ?_⟩; rotate_left; · intro w hSw; (try dsimp only at hSw); go_simp; (try with_reducible rfl)) | refine tkB 3 (by kernel_rfl) (by assumption) ⟨_, _, rfl, rfl, fun _ _ _ h => h, ?_⟩
  (try simp only [Act.put, List.setIfInBounds_toArray, List.set_cons_zero, List.set_cons_succ])
  first | (refine tkA 4 (by kernel_rfl) (by assumption) ⟨_, _, ?_, rfl, rfl, ?_, fun _ _ _ h => h, ?_⟩; rotate_left; · intro w hSw; (try dsimp only at hSw); go_simp; (try with_reducible rfl)) | refine tkB 4 (by kernel_rfl) (by assumption) ⟨_, _, rfl, rfl, fun _ _ _ h => h, ?_⟩
  (try simp only [Act.put, List.setIfInBounds_toArray, List.set_cons_zero, List.set_cons_succ])
  refine tkA 5 (by kernel_rfl) (by assumption) ⟨_, _, ?_, rfl, rfl, ?_, fun _ _ _ h => h, ?_⟩; rotate_left; · intro w hSw; (try dsimp only at hSw); go_simp; (try with_reducible rfl)
  (try simp only [Act.put, List.setIfInBounds_toArray, List.set_cons_zero, List.set_cons_succ])
  refine tkA 6 (by kernel_rfl) (by assumption) ⟨_, _, ?_, rfl, rfl, ?_, fun _ _ _ h => h, ?_⟩; rotate_left; · intro w hSw; (try dsimp only at hSw); go_simp; (try with_reducible rfl)
  (try simp only [Act.put, List.setIfInBounds_toArray, List.set_cons_zero, List.set_cons_succ])
  first | (refine tkA 7 (by kernel_rfl) (by assumption) ⟨_, _, ?_, rfl, rfl, ?_, fun _ _ _ h => h, ?_⟩; rotate_left; · intro w hSw; (try dsimp only at hSw); go_simp; (try with_reducible rfl)) | refine tkB 7 (by kernel_rfl) (by assumption) ⟨_, _, rfl, rfl, fun _ _ _ h => h, ?_⟩
  (try simp only [Act.put, List.setIfInBounds_toArray, List.set_cons_zero, List.set_cons_succ])
  first | (refine tkA 8 (by kernel_rfl) (by assumption) ⟨_, _, ?_, rfl, rfl, ?_, fun _ _ _ h => h, ?_⟩; rotate_left; · intro w hSw; (try dsimp only at hSw); go_simp; (try with_reducible rfl)) | refine tkB 8 (by kernel_rfl) (by assumption) ⟨_, _, rfl, rfl, fun _ _ _ h => h, ?_⟩
  (try simp only [Act.put, List.setIfInBounds_toArray, List.set_cons_zero, List.set_cons_succ])
  first | (refine tkA 9 (by kernel_rfl) (by assumption) ⟨_, _, ?_, rfl, rfl, ?_, fun _ _ _ h => h, ?_⟩; rotate_left; · intro w hSw; (try dsimp only at hSw); go_simp; (try with_reducible rfl)) | refine tkB 9 (by kernel_rfl) (by assumption) ⟨_, _, rfl, rfl, fun _ _ _ h => h, ?_⟩
  (try simp only [Act.put, List.setIfInBounds_toArray, List.set_cons_zero, List.set_cons_succ])
  first | (refine tkA 10 (by kernel_rfl) (by assumption) ⟨_, _, ?_, rfl, rfl, ?_, fun _ _ _ h => h, ?_⟩; rotate_left; · intro w hSw; (try dsimp only at hSw); go_simp; (try with_reducible rfl)) | refine tkB 10 (by kernel_rfl) (by assumption) ⟨_, _, rfl, rfl, fun _ _ _ h => h, ?_⟩
  (try simp only [Act.put, List.setIfInBounds_toArray, List.set_cons_zero, List.set_cons_succ])
  first | (refine tkA 11 (by kernel_rfl) (by assumption) ⟨_, _, ?_, rfl, rfl, ?_, fun _ _ _ h => h, ?_⟩; rotate_left; · intro w hSw; (try dsimp only at hSw); go_simp; (try with_reducible rfl)) | refine tkB 11 (by kernel_rfl) (by assumption) ⟨_, _, rfl, rfl, fun _ _ _ h => h, ?_⟩
  (try simp only [Act.put, List.setIfInBounds_toArray, List.set_cons_zero, List.set_cons_succ])
  refine wpAnyH_ready (rs := [12]) (by kernel_rfl) (by simp) ?_
  refine AllReadyH.cons (o := ?oi4) ?hi4 (fun K hK => ?rest4) AllReadyH.nil
  (case hi4 => (simp only [List.getElem?_toArray, List.getElem?_cons_succ, List.getElem?_cons_zero]; rfl))
  obtain ⟨s0, s1, s2, s3, s4, s5, s6, s7, s8, s9⟩ := hHeld
  go_simp
  ((with_reducible refine (HP.out _).mono ?_); rintro e wx1 ⟨rfl, hb⟩)
  replace HW := Lib.hid (below_step HW.out hb)
  refine hK.out _ _ ?_ (fun hHeld => ?_)
  · (try dsimp only); exact ⟨cel_below hb s0, cel_below hb s1, cel_below hb s2, cel_below hb s3, cel_below hb s4, cel_below hb s5, cel_below hb s6, cel_below hb s7, cel_below hb s8, cel_below hb s9⟩
  clear hK K s0 s1 s2 s3 s4 s5 s6 s7 s8 s9 hb
  (try simp only [Act.put, List.setIfInBounds_toArray, List.set_cons_zero, List.set_cons_succ])
  refine tkA 13 (by kernel_rfl) (by assumption) ⟨_, _, ?_, rfl, rfl, ?_, fun _ _ _ h => h, ?_⟩; rotate_left; · intro w hSw; (try dsimp only at hSw); go_simp; (try with_reducible rfl)
  (try simp only [Act.put, List.setIfInBounds_toArray, List.set_cons_zero, List.set_cons_succ])
  refine wpAnyH_done (by kernel_rfl) ?_ _
  obtain ⟨s0, s1, s2, s3, s4, s5, s6, s7, s8, s9⟩ := hHeld
  go_wp2
  go_ret
  exact ⟨rfl, HW.out⟩

theorem choose_2f (m o : Ct) (w : World) (HP : ∀ w, Calls Try.prog 59 #[m.v, o.v] w fun e w' => e = .returned (.bool false) ∧ Below w.heap.size w w') : Calls Try.prog 30 #[.int .i64 2, m.v, o.v] w fun e w' => e = .returned (.int .i64 1) ∧ Below w.heap.size w w' := by
  have hst : ∀ (fn : Fn) (f c : Array Value) (a : Addr) (w : World), (store a (.func fn f c)).run Try.prog w = stored Try.prog w a (.func fn f c) .plain := fun _ _ _ _ _ => run_store _ _ _ _ _ rfl
  replace HP := Lib.hid HP
  unfold Ct.v at HP ⊢
  go_enter Try.func30, Try.ntmps30
  go_wp2_with fail
  have HW := Lib.hid (below_alloc2 (below_alloc1 (Below.refl (World.heap (((w.alloc (.cells #[.int .i64 m.s, .int .i64 m.k, .int .i64 m.a] 23)).alloc (.cells #[.int .i64 o.s, .int .i64 o.k, .int .i64 o.a] 23)).alloc (.cells #[.func (.func 57) #[] #[], .func (.func 58) #[] #[], .func (.func 59) #[] #[], .func (.func 60) #[] #[]] 117))).size (((w.alloc (.cells #[.int .i64 m.s, .int .i64 m.k, .int .i64 m.a] 23)).alloc (.cells #[.int .i64 o.s, .int .i64 o.k, .int .i64 o.a] 23)).alloc (.cells #[.func (.func 57) #[] #[], .func (.func 58) #[] #[], .func (.func 59) #[] #[], .func (.func 60) #[] #[]] 117)))))
  refine wp_region_held_drew (S := fun W => W.cell? ⟨w.heap.size, 0, none⟩ = some (.int .i64 m.s) ∧ W.cell? ⟨w.heap.size, 1, none⟩ = some (.int .i64 m.k) ∧ W.cell? ⟨w.heap.size, 2, none⟩ = some (.int .i64 m.a) ∧ W.cell? ⟨w.heap.size + 1, 0, none⟩ = some (.int .i64 o.s) ∧ W.cell? ⟨w.heap.size + 1, 1, none⟩ = some (.int .i64 o.k) ∧ W.cell? ⟨w.heap.size + 1, 2, none⟩ = some (.int .i64 o.a) ∧ W.cell? ⟨w.heap.size + 1 + 1, 0, none⟩ = some (.func (.func 57) #[] #[]) ∧ W.cell? ⟨w.heap.size + 1 + 1, 1, none⟩ = some (.func (.func 58) #[] #[]) ∧ W.cell? ⟨w.heap.size + 1 + 1, 2, none⟩ = some (.func (.func 59) #[] #[]) ∧ W.cell? ⟨w.heap.size + 1 + 1, 3, none⟩ = some (.func (.func 60) #[] #[])) (by kernel_rfl) ?_ (fun hHeld => ?_)
  · (try dsimp only); exact ⟨by first | assumption | go_simp, by first | assumption | go_simp, by first | assumption | go_simp, by first | assumption | go_simp, by first | assumption | go_simp, by first | assumption | go_simp, by first | assumption | go_simp, by first | assumption | go_simp, by first | assumption | go_simp, by first | assumption | go_simp⟩
  replace HW := Lib.hid (below_drews HW.out 1)
  refine tkA 0 (by kernel_rfl) (by assumption) ⟨_, _, ?_, rfl, rfl, ?_, fun _ _ _ h => h, ?_⟩; rotate_left; · intro w hSw; (try dsimp only at hSw); go_simp; (try with_reducible rfl)
  (try simp only [Act.put, List.setIfInBounds_toArray, List.set_cons_zero, List.set_cons_succ])
  refine tkA 1 (by kernel_rfl) (by assumption) ⟨_, _, ?_, rfl, rfl, ?_, fun _ _ _ h => h, ?_⟩; rotate_left; · intro w hSw; (try dsimp only at hSw); go_simp; (try with_reducible rfl)
  (try simp only [Act.put, List.setIfInBounds_toArray, List.set_cons_zero, List.set_cons_succ])
  refine tkA 2 (by kernel_rfl) (by assumption) ⟨_, _, ?_, rfl, rfl, ?_, fun _ _ _ h => h, ?_⟩; rotate_left; · intro w hSw; (try dsimp only at hSw); go_simp; (try with_reducible rfl)
  (try simp only [Act.put, List.setIfInBounds_toArray, List.set_cons_zero, List.set_cons_succ])
  first | (refine tkA 3 (by kernel_rfl) (by assumption) ⟨_, _, ?_, rfl, rfl, ?_, fun _ _ _ h => h, ?_⟩; rotate_left; · intro w hSw; (try dsimp only at hSw); go_simp; (try with_reducible rfl)) | refine tkB 3 (by kernel_rfl) (by assumption) ⟨_, _, rfl, rfl, fun _ _ _ h => h, ?_⟩
  (try simp only [Act.put, List.setIfInBounds_toArray, List.set_cons_zero, List.set_cons_succ])
  first | (refine tkA 4 (by kernel_rfl) (by assumption) ⟨_, _, ?_, rfl, rfl, ?_, fun _ _ _ h => h, ?_⟩; rotate_left; · intro w hSw; (try dsimp only at hSw); go_simp; (try with_reducible rfl)) | refine tkB 4 (by kernel_rfl) (by assumption) ⟨_, _, rfl, rfl, fun _ _ _ h => h, ?_⟩
  (try simp only [Act.put, List.setIfInBounds_toArray, List.set_cons_zero, List.set_cons_succ])
  refine tkA 5 (by kernel_rfl) (by assumption) ⟨_, _, ?_, rfl, rfl, ?_, fun _ _ _ h => h, ?_⟩; rotate_left; · intro w hSw; (try dsimp only at hSw); go_simp; (try with_reducible rfl)
  (try simp only [Act.put, List.setIfInBounds_toArray, List.set_cons_zero, List.set_cons_succ])
  refine tkA 6 (by kernel_rfl) (by assumption) ⟨_, _, ?_, rfl, rfl, ?_, fun _ _ _ h => h, ?_⟩; rotate_left; · intro w hSw; (try dsimp only at hSw); go_simp; (try with_reducible rfl)
  (try simp only [Act.put, List.setIfInBounds_toArray, List.set_cons_zero, List.set_cons_succ])
  first | (refine tkA 7 (by kernel_rfl) (by assumption) ⟨_, _, ?_, rfl, rfl, ?_, fun _ _ _ h => h, ?_⟩; rotate_left; · intro w hSw; (try dsimp only at hSw); go_simp; (try with_reducible rfl)) | refine tkB 7 (by kernel_rfl) (by assumption) ⟨_, _, rfl, rfl, fun _ _ _ h => h, ?_⟩
  (try simp only [Act.put, List.setIfInBounds_toArray, List.set_cons_zero, List.set_cons_succ])
  first | (refine tkA 8 (by kernel_rfl) (by assumption) ⟨_, _, ?_, rfl, rfl, ?_, fun _ _ _ h => h, ?_⟩; rotate_left; · intro w hSw; (try dsimp only at hSw); go_simp; (try with_reducible rfl)) | refine tkB 8 (by kernel_rfl) (by assumption) ⟨_, _, rfl, rfl, fun _ _ _ h => h, ?_⟩
  (try simp only [Act.put, List.setIfInBounds_toArray, List.set_cons_zero, List.set_cons_succ])
  first | (refine tkA 9 (by kernel_rfl) (by assumption) ⟨_, _, ?_, rfl, rfl, ?_, fun _ _ _ h => h, ?_⟩; rotate_left; · intro w hSw; (try dsimp only at hSw); go_simp; (try with_reducible rfl)) | refine tkB 9 (by kernel_rfl) (by assumption) ⟨_, _, rfl, rfl, fun _ _ _ h => h, ?_⟩
  (try simp only [Act.put, List.setIfInBounds_toArray, List.set_cons_zero, List.set_cons_succ])
  first | (refine tkA 10 (by kernel_rfl) (by assumption) ⟨_, _, ?_, rfl, rfl, ?_, fun _ _ _ h => h, ?_⟩; rotate_left; · intro w hSw; (try dsimp only at hSw); go_simp; (try with_reducible rfl)) | refine tkB 10 (by kernel_rfl) (by assumption) ⟨_, _, rfl, rfl, fun _ _ _ h => h, ?_⟩
  (try simp only [Act.put, List.setIfInBounds_toArray, List.set_cons_zero, List.set_cons_succ])
  first | (refine tkA 11 (by kernel_rfl) (by assumption) ⟨_, _, ?_, rfl, rfl, ?_, fun _ _ _ h => h, ?_⟩; rotate_left; · intro w hSw; (try dsimp only at hSw); go_simp; (try with_reducible rfl)) | refine tkB 11 (by kernel_rfl) (by assumption) ⟨_, _, rfl, rfl, fun _ _ _ h => h, ?_⟩
  (try simp only [Act.put, List.setIfInBounds_toArray, List.set_cons_zero, List.set_cons_succ])
  refine wpAnyH_ready (rs := [12]) (by kernel_rfl) (by simp) ?_
  refine AllReadyH.cons (o := ?oi5) ?hi5 (fun K hK => ?rest5) AllReadyH.nil
  (case hi5 => (simp only [List.getElem?_toArray, List.getElem?_cons_succ, List.getElem?_cons_zero]; rfl))
  obtain ⟨s0, s1, s2, s3, s4, s5, s6, s7, s8, s9⟩ := hHeld
  go_simp
  ((with_reducible refine (HP.out _).mono ?_); rintro e wx1 ⟨rfl, hb⟩)
  replace HW := Lib.hid (below_step HW.out hb)
  refine hK.out _ _ ?_ (fun hHeld => ?_)
  · (try dsimp only); exact ⟨cel_below hb s0, cel_below hb s1, cel_below hb s2, cel_below hb s3, cel_below hb s4, cel_below hb s5, cel_below hb s6, cel_below hb s7, cel_below hb s8, cel_below hb s9⟩
  clear hK K s0 s1 s2 s3 s4 s5 s6 s7 s8 s9 hb
  (try simp only [Act.put, List.setIfInBounds_toArray, List.set_cons_zero, List.set_cons_succ])
  refine tkA 13 (by kernel_rfl) (by assumption) ⟨_, _, ?_, rfl, rfl, ?_, fun _ _ _ h => h, ?_⟩; rotate_left; · intro w hSw; (try dsimp only at hSw); go_simp; (try with_reducible rfl)
  (try simp only [Act.put, List.setIfInBounds_toArray, List.set_cons_zero, List.set_cons_succ])
  refine wpAnyH_done (by kernel_rfl) ?_ _
  obtain ⟨s0, s1, s2, s3, s4, s5, s6, s7, s8, s9⟩ := hHeld
  go_wp2
  go_ret
  exact ⟨rfl, HW.out⟩

theorem choose_3t (m o : Ct) (w : World) (HP : ∀ w, Calls Try.prog 60 #[m.v, o.v] w fun e w' => e = .returned (.bool true) ∧ Below w.heap.size w w') : Calls Try.prog 30 #[.int .i64 3, m.v, o.v] w fun e w' => e = .returned (.int .i64 2) ∧ Below w.heap.size w w' := by
  have hst : ∀ (fn : Fn) (f c : Array Value) (a : Addr) (w : World), (store a (.func fn f c)).run Try.prog w = stored Try.prog w a (.func fn f c) .plain := fun _ _ _ _ _ => run_store _ _ _ _ _ rfl
  replace HP := Lib.hid HP
  unfold Ct.v at HP ⊢
  go_enter Try.func30, Try.ntmps30
  go_wp2_with fail
  have HW := Lib.hid (below_alloc2 (below_alloc1 (Below.refl (World.heap (((w.alloc (.cells #[.int .i64 m.s, .int .i64 m.k, .int .i64 m.a] 23)).alloc (.cells #[.int .i64 o.s, .int .i64 o.k, .int .i64 o.a] 23)).alloc (.cells #[.func (.func 57) #[] #[], .func (.func 58) #[] #[], .func (.func 59) #[] #[], .func (.func 60) #[] #[]] 117))).size (((w.alloc (.cells #[.int .i64 m.s, .int .i64 m.k, .int .i64 m.a] 23)).alloc (.cells #[.int .i64 o.s, .int .i64 o.k, .int .i64 o.a] 23)).alloc (.cells #[.func (.func 57) #[] #[], .func (.func 58) #[] #[], .func (.func 59) #[] #[], .func (.func 60) #[] #[]] 117)))))
  refine wp_region_held_drew (S := fun W => W.cell? ⟨w.heap.size, 0, none⟩ = some (.int .i64 m.s) ∧ W.cell? ⟨w.heap.size, 1, none⟩ = some (.int .i64 m.k) ∧ W.cell? ⟨w.heap.size, 2, none⟩ = some (.int .i64 m.a) ∧ W.cell? ⟨w.heap.size + 1, 0, none⟩ = some (.int .i64 o.s) ∧ W.cell? ⟨w.heap.size + 1, 1, none⟩ = some (.int .i64 o.k) ∧ W.cell? ⟨w.heap.size + 1, 2, none⟩ = some (.int .i64 o.a) ∧ W.cell? ⟨w.heap.size + 1 + 1, 0, none⟩ = some (.func (.func 57) #[] #[]) ∧ W.cell? ⟨w.heap.size + 1 + 1, 1, none⟩ = some (.func (.func 58) #[] #[]) ∧ W.cell? ⟨w.heap.size + 1 + 1, 2, none⟩ = some (.func (.func 59) #[] #[]) ∧ W.cell? ⟨w.heap.size + 1 + 1, 3, none⟩ = some (.func (.func 60) #[] #[])) (by kernel_rfl) ?_ (fun hHeld => ?_)
  · (try dsimp only); exact ⟨by first | assumption | go_simp, by first | assumption | go_simp, by first | assumption | go_simp, by first | assumption | go_simp, by first | assumption | go_simp, by first | assumption | go_simp, by first | assumption | go_simp, by first | assumption | go_simp, by first | assumption | go_simp, by first | assumption | go_simp⟩
  replace HW := Lib.hid (below_drews HW.out 1)
  refine tkA 0 (by kernel_rfl) (by assumption) ⟨_, _, ?_, rfl, rfl, ?_, fun _ _ _ h => h, ?_⟩; rotate_left; · intro w hSw; (try dsimp only at hSw); go_simp; (try with_reducible rfl)
  (try simp only [Act.put, List.setIfInBounds_toArray, List.set_cons_zero, List.set_cons_succ])
  refine tkA 1 (by kernel_rfl) (by assumption) ⟨_, _, ?_, rfl, rfl, ?_, fun _ _ _ h => h, ?_⟩; rotate_left; · intro w hSw; (try dsimp only at hSw); go_simp; (try with_reducible rfl)
  (try simp only [Act.put, List.setIfInBounds_toArray, List.set_cons_zero, List.set_cons_succ])
  refine tkA 2 (by kernel_rfl) (by assumption) ⟨_, _, ?_, rfl, rfl, ?_, fun _ _ _ h => h, ?_⟩; rotate_left; · intro w hSw; (try dsimp only at hSw); go_simp; (try with_reducible rfl)
  (try simp only [Act.put, List.setIfInBounds_toArray, List.set_cons_zero, List.set_cons_succ])
  first | (refine tkA 3 (by kernel_rfl) (by assumption) ⟨_, _, ?_, rfl, rfl, ?_, fun _ _ _ h => h, ?_⟩; rotate_left; · intro w hSw; (try dsimp only at hSw); go_simp; (try with_reducible rfl)) | refine tkB 3 (by kernel_rfl) (by assumption) ⟨_, _, rfl, rfl, fun _ _ _ h => h, ?_⟩
  (try simp only [Act.put, List.setIfInBounds_toArray, List.set_cons_zero, List.set_cons_succ])
  first | (refine tkA 4 (by kernel_rfl) (by assumption) ⟨_, _, ?_, rfl, rfl, ?_, fun _ _ _ h => h, ?_⟩; rotate_left; · intro w hSw; (try dsimp only at hSw); go_simp; (try with_reducible rfl)) | refine tkB 4 (by kernel_rfl) (by assumption) ⟨_, _, rfl, rfl, fun _ _ _ h => h, ?_⟩
  (try simp only [Act.put, List.setIfInBounds_toArray, List.set_cons_zero, List.set_cons_succ])
  refine tkA 5 (by kernel_rfl) (by assumption) ⟨_, _, ?_, rfl, rfl, ?_, fun _ _ _ h => h, ?_⟩; rotate_left; · intro w hSw; (try dsimp only at hSw); go_simp; (try with_reducible rfl)
  (try simp only [Act.put, List.setIfInBounds_toArray, List.set_cons_zero, List.set_cons_succ])
  refine tkA 6 (by kernel_rfl) (by assumption) ⟨_, _, ?_, rfl, rfl, ?_, fun _ _ _ h => h, ?_⟩; rotate_left; · intro w hSw; (try dsimp only at hSw); go_simp; (try with_reducible rfl)
  (try simp only [Act.put, List.setIfInBounds_toArray, List.set_cons_zero, List.set_cons_succ])
  first | (refine tkA 7 (by kernel_rfl) (by assumption) ⟨_, _, ?_, rfl, rfl, ?_, fun _ _ _ h => h, ?_⟩; rotate_left; · intro w hSw; (try dsimp only at hSw); go_simp; (try with_reducible rfl)) | refine tkB 7 (by kernel_rfl) (by assumption) ⟨_, _, rfl, rfl, fun _ _ _ h => h, ?_⟩
  (try simp only [Act.put, List.setIfInBounds_toArray, List.set_cons_zero, List.set_cons_succ])
  first | (refine tkA 8 (by kernel_rfl) (by assumption) ⟨_, _, ?_, rfl, rfl, ?_, fun _ _ _ h => h, ?_⟩; rotate_left; · intro w hSw; (try dsimp only at hSw); go_simp; (try with_reducible rfl)) | refine tkB 8 (by kernel_rfl) (by assumption) ⟨_, _, rfl, rfl, fun _ _ _ h => h, ?_⟩
  (try simp only [Act.put, List.setIfInBounds_toArray, List.set_cons_zero, List.set_cons_succ])
  first | (refine tkA 9 (by kernel_rfl) (by assumption) ⟨_, _, ?_, rfl, rfl, ?_, fun _ _ _ h => h, ?_⟩; rotate_left; · intro w hSw; (try dsimp only at hSw); go_simp; (try with_reducible rfl)) | refine tkB 9 (by kernel_rfl) (by assumption) ⟨_, _, rfl, rfl, fun _ _ _ h => h, ?_⟩
  (try simp only [Act.put, List.setIfInBounds_toArray, List.set_cons_zero, List.set_cons_succ])
  first | (refine tkA 10 (by kernel_rfl) (by assumption) ⟨_, _, ?_, rfl, rfl, ?_, fun _ _ _ h => h, ?_⟩; rotate_left; · intro w hSw; (try dsimp only at hSw); go_simp; (try with_reducible rfl)) | refine tkB 10 (by kernel_rfl) (by assumption) ⟨_, _, rfl, rfl, fun _ _ _ h => h, ?_⟩
  (try simp only [Act.put, List.setIfInBounds_toArray, List.set_cons_zero, List.set_cons_succ])
  first | (refine tkA 11 (by kernel_rfl) (by assumption) ⟨_, _, ?_, rfl, rfl, ?_, fun _ _ _ h => h, ?_⟩; rotate_left; · intro w hSw; (try dsimp only at hSw); go_simp; (try with_reducible rfl)) | refine tkB 11 (by kernel_rfl) (by assumption) ⟨_, _, rfl, rfl, fun _ _ _ h => h, ?_⟩
  (try simp only [Act.put, List.setIfInBounds_toArray, List.set_cons_zero, List.set_cons_succ])
  refine wpAnyH_ready (rs := [12]) (by kernel_rfl) (by simp) ?_
  refine AllReadyH.cons (o := ?oi6) ?hi6 (fun K hK => ?rest6) AllReadyH.nil
  (case hi6 => (simp only [List.getElem?_toArray, List.getElem?_cons_succ, List.getElem?_cons_zero]; rfl))
  obtain ⟨s0, s1, s2, s3, s4, s5, s6, s7, s8, s9⟩ := hHeld
  go_simp
  ((with_reducible refine (HP.out _).mono ?_); rintro e wx1 ⟨rfl, hb⟩)
  replace HW := Lib.hid (below_step HW.out hb)
  refine hK.out _ _ ?_ (fun hHeld => ?_)
  · (try dsimp only); exact ⟨cel_below hb s0, cel_below hb s1, cel_below hb s2, cel_below hb s3, cel_below hb s4, cel_below hb s5, cel_below hb s6, cel_below hb s7, cel_below hb s8, cel_below hb s9⟩
  clear hK K s0 s1 s2 s3 s4 s5 s6 s7 s8 s9 hb
  (try simp only [Act.put, List.setIfInBounds_toArray, List.set_cons_zero, List.set_cons_succ])
  refine tkA 13 (by kernel_rfl) (by assumption) ⟨_, _, ?_, rfl, rfl, ?_, fun _ _ _ h => h, ?_⟩; rotate_left; · intro w hSw; (try dsimp only at hSw); go_simp; (try with_reducible rfl)
  (try simp only [Act.put, List.setIfInBounds_toArray, List.set_cons_zero, List.set_cons_succ])
  refine wpAnyH_done (by kernel_rfl) ?_ _
  obtain ⟨s0, s1, s2, s3, s4, s5, s6, s7, s8, s9⟩ := hHeld
  go_wp2
  go_ret
  exact ⟨rfl, HW.out⟩

theorem choose_3f (m o : Ct) (w : World) (HP : ∀ w, Calls Try.prog 60 #[m.v, o.v] w fun e w' => e = .returned (.bool false) ∧ Below w.heap.size w w') : Calls Try.prog 30 #[.int .i64 3, m.v, o.v] w fun e w' => e = .returned (.int .i64 1) ∧ Below w.heap.size w w' := by
  have hst : ∀ (fn : Fn) (f c : Array Value) (a : Addr) (w : World), (store a (.func fn f c)).run Try.prog w = stored Try.prog w a (.func fn f c) .plain := fun _ _ _ _ _ => run_store _ _ _ _ _ rfl
  replace HP := Lib.hid HP
  unfold Ct.v at HP ⊢
  go_enter Try.func30, Try.ntmps30
  go_wp2_with fail
  have HW := Lib.hid (below_alloc2 (below_alloc1 (Below.refl (World.heap (((w.alloc (.cells #[.int .i64 m.s, .int .i64 m.k, .int .i64 m.a] 23)).alloc (.cells #[.int .i64 o.s, .int .i64 o.k, .int .i64 o.a] 23)).alloc (.cells #[.func (.func 57) #[] #[], .func (.func 58) #[] #[], .func (.func 59) #[] #[], .func (.func 60) #[] #[]] 117))).size (((w.alloc (.cells #[.int .i64 m.s, .int .i64 m.k, .int .i64 m.a] 23)).alloc (.cells #[.int .i64 o.s, .int .i64 o.k, .int .i64 o.a] 23)).alloc (.cells #[.func (.func 57) #[] #[], .func (.func 58) #[] #[], .func (.func 59) #[] #[], .func (.func 60) #[] #[]] 117)))))
  refine wp_region_held_drew (S := fun W => W.cell? ⟨w.heap.size, 0, none⟩ = some (.int .i64 m.s) ∧ W.cell? ⟨w.heap.size, 1, none⟩ = some (.int .i64 m.k) ∧ W.cell? ⟨w.heap.size, 2, none⟩ = some (.int .i64 m.a) ∧ W.cell? ⟨w.heap.size + 1, 0, none⟩ = some (.int .i64 o.s) ∧ W.cell? ⟨w.heap.size + 1, 1, none⟩ = some (.int .i64 o.k) ∧ W.cell? ⟨w.heap.size + 1, 2, none⟩ = some (.int .i64 o.a) ∧ W.cell? ⟨w.heap.size + 1 + 1, 0, none⟩ = some (.func (.func 57) #[] #[]) ∧ W.cell? ⟨w.heap.size + 1 + 1, 1, none⟩ = some (.func (.func 58) #[] #[]) ∧ W.cell? ⟨w.heap.size + 1 + 1, 2, none⟩ = some (.func (.func 59) #[] #[]) ∧ W.cell? ⟨w.heap.size + 1 + 1, 3, none⟩ = some (.func (.func 60) #[] #[])) (by kernel_rfl) ?_ (fun hHeld => ?_)
  · (try dsimp only); exact ⟨by first | assumption | go_simp, by first | assumption | go_simp, by first | assumption | go_simp, by first | assumption | go_simp, by first | assumption | go_simp, by first | assumption | go_simp, by first | assumption | go_simp, by first | assumption | go_simp, by first | assumption | go_simp, by first | assumption | go_simp⟩
  replace HW := Lib.hid (below_drews HW.out 1)
  refine tkA 0 (by kernel_rfl) (by assumption) ⟨_, _, ?_, rfl, rfl, ?_, fun _ _ _ h => h, ?_⟩; rotate_left; · intro w hSw; (try dsimp only at hSw); go_simp; (try with_reducible rfl)
  (try simp only [Act.put, List.setIfInBounds_toArray, List.set_cons_zero, List.set_cons_succ])
  refine tkA 1 (by kernel_rfl) (by assumption) ⟨_, _, ?_, rfl, rfl, ?_, fun _ _ _ h => h, ?_⟩; rotate_left; · intro w hSw; (try dsimp only at hSw); go_simp; (try with_reducible rfl)
  (try simp only [Act.put, List.setIfInBounds_toArray, List.set_cons_zero, List.set_cons_succ])
  refine tkA 2 (by kernel_rfl) (by assumption) ⟨_, _, ?_, rfl, rfl, ?_, fun _ _ _ h => h, ?_⟩; rotate_left; · intro w hSw; (try dsimp only at hSw); go_simp; (try with_reducible rfl)
  (try simp only [Act.put, List.setIfInBounds_toArray, List.set_cons_zero, List.set_cons_succ])
  first | (refine tkA 3 (by kernel_rfl) (by assumption) ⟨_, _, ?_, rfl, rfl, ?_, fun _ _ _ h => h, ?_⟩; rotate_left; · intro w hSw; (try dsimp only at hSw); go_simp; (try with_reducible rfl)) | refine tkB 3 (by kernel_rfl) (by assumption) ⟨_, _, rfl, rfl, fun _ _ _ h => h, ?_⟩
  (try simp only [Act.put, List.setIfInBounds_toArray, List.set_cons_zero, List.set_cons_succ])
  first | (refine tkA 4 (by kernel_rfl) (by assumption) ⟨_, _, ?_, rfl, rfl, ?_, fun _ _ _ h => h, ?_⟩; rotate_left; · intro w hSw; (try dsimp only at hSw); go_simp; (try with_reducible rfl)) | refine tkB 4 (by kernel_rfl) (by assumption) ⟨_, _, rfl, rfl, fun _ _ _ h => h, ?_⟩
  (try simp only [Act.put, List.setIfInBounds_toArray, List.set_cons_zero, List.set_cons_succ])
  refine tkA 5 (by kernel_rfl) (by assumption) ⟨_, _, ?_, rfl, rfl, ?_, fun _ _ _ h => h, ?_⟩; rotate_left; · intro w hSw; (try dsimp only at hSw); go_simp; (try with_reducible rfl)
  (try simp only [Act.put, List.setIfInBounds_toArray, List.set_cons_zero, List.set_cons_succ])
  refine tkA 6 (by kernel_rfl) (by assumption) ⟨_, _, ?_, rfl, rfl, ?_, fun _ _ _ h => h, ?_⟩; rotate_left; · intro w hSw; (try dsimp only at hSw); go_simp; (try with_reducible rfl)
  (try simp only [Act.put, List.setIfInBounds_toArray, List.set_cons_zero, List.set_cons_succ])
  first | (refine tkA 7 (by kernel_rfl) (by assumption) ⟨_, _, ?_, rfl, rfl, ?_, fun _ _ _ h => h, ?_⟩; rotate_left; · intro w hSw; (try dsimp only at hSw); go_simp; (try with_reducible rfl)) | refine tkB 7 (by kernel_rfl) (by assumption) ⟨_, _, rfl, rfl, fun _ _ _ h => h, ?_⟩
  (try simp only [Act.put, List.setIfInBounds_toArray, List.set_cons_zero, List.set_cons_succ])
  first | (refine tkA 8 (by kernel_rfl) (by assumption) ⟨_, _, ?_, rfl, rfl, ?_, fun _ _ _ h => h, ?_⟩; rotate_left; · intro w hSw; (try dsimp only at hSw); go_simp; (try with_reducible rfl)) | refine tkB 8 (by kernel_rfl) (by assumption) ⟨_, _, rfl, rfl, fun _ _ _ h => h, ?_⟩
  (try simp only [Act.put, List.setIfInBounds_toArray, List.set_cons_zero, List.set_cons_succ])
  first | (refine tkA 9 (by kernel_rfl) (by assumption) ⟨_, _, ?_, rfl, rfl, ?_, fun _ _ _ h => h, ?_⟩; rotate_left; · intro w hSw; (try dsimp only at hSw); go_simp; (try with_reducible rfl)) | refine tkB 9 (by kernel_rfl) (by assumption) ⟨_, _, rfl, rfl, fun _ _ _ h => h, ?_⟩
  (try simp only [Act.put, List.setIfInBounds_toArray, List.set_cons_zero, List.set_cons_succ])
  first | (refine tkA 10 (by kernel_rfl) (by assumption) ⟨_, _, ?_, rfl, rfl, ?_, fun _ _ _ h => h, ?_⟩; rotate_left; · intro w hSw; (try dsimp only at hSw); go_simp; (try with_reducible rfl)) | refine tkB 10 (by kernel_rfl) (by assumption) ⟨_, _, rfl, rfl, fun _ _ _ h => h, ?_⟩
  (try simp only [Act.put, List.setIfInBounds_toArray, List.set_cons_zero, List.set_cons_succ])
  first | (refine tkA 11 (by kernel_rfl) (by assumption) ⟨_, _, ?_, rfl, rfl, ?_, fun _ _ _ h => h, ?_⟩; rotate_left; · intro w hSw; (try dsimp only at hSw); go_simp; (try with_reducible rfl)) | refine tkB 11 (by kernel_rfl) (by assumption) ⟨_, _, rfl, rfl, fun _ _ _ h => h, ?_⟩
  (try simp only [Act.put, List.setIfInBounds_toArray, List.set_cons_zero, List.set_cons_succ])
  refine wpAnyH_ready (rs := [12]) (by kernel_rfl) (by simp) ?_
  refine AllReadyH.cons (o := ?oi7) ?hi7 (fun K hK => ?rest7) AllReadyH.nil
  (case hi7 => (simp only [List.getElem?_toArray, List.getElem?_cons_succ, List.getElem?_cons_zero]; rfl))
  obtain ⟨s0, s1, s2, s3, s4, s5, s6, s7, s8, s9⟩ := hHeld
  go_simp
  ((with_reducible refine (HP.out _).mono ?_); rintro e wx1 ⟨rfl, hb⟩)
  replace HW := Lib.hid (below_step HW.out hb)
  refine hK.out _ _ ?_ (fun hHeld => ?_)
  · (try dsimp only); exact ⟨cel_below hb s0, cel_below hb s1, cel_below hb s2, cel_below hb s3, cel_below hb s4, cel_below hb s5, cel_below hb s6, cel_below hb s7, cel_below hb s8, cel_below hb s9⟩
  clear hK K s0 s1 s2 s3 s4 s5 s6 s7 s8 s9 hb
  (try simp only [Act.put, List.setIfInBounds_toArray, List.set_cons_zero, List.set_cons_succ])
  refine tkA 13 (by kernel_rfl) (by assumption) ⟨_, _, ?_, rfl, rfl, ?_, fun _ _ _ h => h, ?_⟩; rotate_left; · intro w hSw; (try dsimp only at hSw); go_simp; (try with_reducible rfl)
  (try simp only [Act.put, List.setIfInBounds_toArray, List.set_cons_zero, List.set_cons_succ])
  refine wpAnyH_done (by kernel_rfl) ?_ _
  obtain ⟨s0, s1, s2, s3, s4, s5, s6, s7, s8, s9⟩ := hHeld
  go_wp2
  go_ret
  exact ⟨rfl, HW.out⟩

theorem choose_lo (kind : Int) (m o : Ct) (w : World) (h : kind < 0) : Calls Try.prog 30 #[.int .i64 kind, m.v, o.v] w fun e w' => e = .returned (.int .i64 1) ∧ Below w.heap.size w w' := by
  have hst : ∀ (fn : Fn) (f c : Array Value) (a : Addr) (w : World), (store a (.func fn f c)).run Try.prog w = stored Try.prog w a (.func fn f c) .plain := fun _ _ _ _ _ => run_store _ _ _ _ _ rfl
  unfold Ct.v
  have q1 : decide (0 ≤ kind) = false := by simp; omega
  clear h
  go_enter Try.func30, Try.ntmps30
  go_wp2_with fail
  have HW := Lib.hid (below_alloc2 (below_alloc1 (Below.refl (World.heap (((w.alloc (.cells #[.int .i64 m.s, .int .i64 m.k, .int .i64 m.a] 23)).alloc (.cells #[.int .i64 o.s, .int .i64 o.k, .int .i64 o.a] 23)).alloc (.cells #[.func (.func 57) #[] #[], .func (.func 58) #[] #[], .func (.func 59) #[] #[], .func (.func 60) #[] #[]] 117))).size (((w.alloc (.cells #[.int .i64 m.s, .int .i64 m.k, .int .i64 m.a] 23)).alloc (.cells #[.int .i64 o.s, .int .i64 o.k, .int .i64 o.a] 23)).alloc (.cells #[.func (.func 57) #[] #[], .func (.func 58) #[] #[], .func (.func 59) #[] #[], .func (.func 60) #[] #[]] 117)))))
  refine wp_region_held_drew (S := fun W => W.cell? ⟨w.heap.size, 0, none⟩ = some (.int .i64 m.s) ∧ W.cell? ⟨w.heap.size, 1, none⟩ = some (.int .i64 m.k) ∧ W.cell? ⟨w.heap.size, 2, none⟩ = some (.int .i64 m.a) ∧ W.cell? ⟨w.heap.size + 1, 0, none⟩ = some (.int .i64 o.s) ∧ W.cell? ⟨w.heap.size + 1, 1, none⟩ = some (.int .i64 o.k) ∧ W.cell? ⟨w.heap.size + 1, 2, none⟩ = some (.int .i64 o.a) ∧ W.cell? ⟨w.heap.size + 1 + 1, 0, none⟩ = some (.func (.func 57) #[] #[]) ∧ W.cell? ⟨w.heap.size + 1 + 1, 1, none⟩ = some (.func (.func 58) #[] #[]) ∧ W.cell? ⟨w.heap.size + 1 + 1, 2, none⟩ = some (.func (.func 59) #[] #[]) ∧ W.cell? ⟨w.heap.size + 1 + 1, 3, none⟩ = some (.func (.func 60) #[] #[])) (by kernel_rfl) ?_ (fun hHeld => ?_)
  · (try dsimp only); exact ⟨by first | assumption | go_simp, by first | assumption | go_simp, by first | assumption | go_simp, by first | assumption | go_simp, by first | assumption | go_simp, by first | assumption | go_simp, by first | assumption | go_simp, by first | assumption | go_simp, by first | assumption | go_simp, by first | assumption | go_simp⟩
  replace HW := Lib.hid (below_drews HW.out 1)
  refine tkA 0 (by kernel_rfl) (by assumption) ⟨_, _, ?_, rfl, rfl, ?_, fun _ _ _ h => h, ?_⟩; rotate_left; · intro w hSw; (try dsimp only at hSw); go_simp; (try with_reducible rfl)
  (try simp only [Act.put, List.setIfInBounds_toArray, List.set_cons_zero, List.set_cons_succ])
  refine tkA 1 (by kernel_rfl) (by assumption) ⟨_, _, ?_, rfl, rfl, ?_, fun _ _ _ h => h, ?_⟩; rotate_left; · intro w hSw; (try dsimp only at hSw); go_simp; (try with_reducible rfl)
  (try simp only [Act.put, List.setIfInBounds_toArray, List.set_cons_zero, List.set_cons_succ])
  refine tkA 2 (by kernel_rfl) (by assumption) ⟨_, _, ?_, rfl, rfl, ?_, fun _ _ _ h => h, ?_⟩; rotate_left; · intro w hSw; (try dsimp only at hSw); go_simp; (try with_reducible rfl)
  (try simp only [Act.put, List.setIfInBounds_toArray, List.set_cons_zero, List.set_cons_succ])
  first | (refine tkA 3 (by kernel_rfl) (by assumption) ⟨_, _, ?_, rfl, rfl, ?_, fun _ _ _ h => h, ?_⟩; rotate_left; · intro w hSw; (try dsimp only at hSw); go_simp; (try with_reducible rfl)) | refine tkB 3 (by kernel_rfl) (by assumption) ⟨_, _, rfl, rfl, fun _ _ _ h => h, ?_⟩
  (try simp only [Act.put, List.setIfInBounds_toArray, List.set_cons_zero, List.set_cons_succ])
  first | (refine tkA 4 (by kernel_rfl) (by assumption) ⟨_, _, ?_, rfl, rfl, ?_, fun _ _ _ h => h, ?_⟩; rotate_left; · intro w hSw; (try dsimp only at hSw); go_simp; (try with_reducible rfl)) | refine tkB 4 (by kernel_rfl) (by assumption) ⟨_, _, rfl, rfl, fun _ _ _ h => h, ?_⟩
  (try simp only [Act.put, List.setIfInBounds_toArray, List.set_cons_zero, List.set_cons_succ])
  refine tkA 5 (by kernel_rfl) (by assumption) ⟨_, _, ?_, rfl, rfl, ?_, fun _ _ _ h => h, ?_⟩; rotate_left; · intro w hSw; (try dsimp only at hSw); go_simp; (try with_reducible rfl)
  (try simp only [Act.put, List.setIfInBounds_toArray, List.set_cons_zero, List.set_cons_succ])
  refine tkA 6 (by kernel_rfl) (by assumption) ⟨_, _, ?_, rfl, rfl, ?_, fun _ _ _ h => h, ?_⟩; rotate_left; · intro w hSw; (try dsimp only at hSw); go_simp; (try with_reducible rfl)
  (try simp only [Act.put, List.setIfInBounds_toArray, List.set_cons_zero, List.set_cons_succ])
  first | (refine tkA 7 (by kernel_rfl) (by assumption) ⟨_, _, ?_, rfl, rfl, ?_, fun _ _ _ h => h, ?_⟩; rotate_left; · intro w hSw; (try dsimp only at hSw); go_simp; (try with_reducible rfl)) | refine tkB 7 (by kernel_rfl) (by assumption) ⟨_, _, rfl, rfl, fun _ _ _ h => h, ?_⟩
  (try simp only [Act.put, List.setIfInBounds_toArray, List.set_cons_zero, List.set_cons_succ])
  first | (refine tkA 8 (by kernel_rfl) (by assumption) ⟨_, _, ?_, rfl, rfl, ?_, fun _ _ _ h => h, ?_⟩; rotate_left; · intro w hSw; (try dsimp only at hSw); go_simp; (try with_reducible rfl)) | refine tkB 8 (by kernel_rfl) (by assumption) ⟨_, _, rfl, rfl, fun _ _ _ h => h, ?_⟩
  (try simp only [Act.put, List.setIfInBounds_toArray, List.set_cons_zero, List.set_cons_succ])
  first | (refine tkA 9 (by kernel_rfl) (by assumption) ⟨_, _, ?_, rfl, rfl, ?_, fun _ _ _ h => h, ?_⟩; rotate_left; · intro w hSw; (try dsimp only at hSw); go_simp; (try with_reducible rfl)) | refine tkB 9 (by kernel_rfl) (by assumption) ⟨_, _, rfl, rfl, fun _ _ _ h => h, ?_⟩
  (try simp only [Act.put, List.setIfInBounds_toArray, List.set_cons_zero, List.set_cons_succ])
  first | (refine tkA 10 (by kernel_rfl) (by assumption) ⟨_, _, ?_, rfl, rfl, ?_, fun _ _ _ h => h, ?_⟩; rotate_left; · intro w hSw; (try dsimp only at hSw); go_simp; (try with_reducible rfl)) | refine tkB 10 (by kernel_rfl) (by assumption) ⟨_, _, rfl, rfl, fun _ _ _ h => h, ?_⟩
  (try simp only [Act.put, List.setIfInBounds_toArray, List.set_cons_zero, List.set_cons_succ])
  first | (refine tkA 11 (by kernel_rfl) (by assumption) ⟨_, _, ?_, rfl, rfl, ?_, fun _ _ _ h => h, ?_⟩; rotate_left; · intro w hSw; (try dsimp only at hSw); go_simp; (try with_reducible rfl)) | refine tkB 11 (by kernel_rfl) (by assumption) ⟨_, _, rfl, rfl, fun _ _ _ h => h, ?_⟩
  (try simp only [Act.put, List.setIfInBounds_toArray, List.set_cons_zero, List.set_cons_succ])
  first | (refine tkA 12 (by kernel_rfl) (by assumption) ⟨_, _, ?_, rfl, rfl, ?_, fun _ _ _ h => h, ?_⟩; rotate_left; · intro w hSw; (try dsimp only at hSw); go_simp; (try with_reducible rfl)) | refine tkB 12 (by kernel_rfl) (by assumption) ⟨_, _, rfl, rfl, fun _ _ _ h => h, ?_⟩
  (try simp only [Act.put, List.setIfInBounds_toArray, List.set_cons_zero, List.set_cons_succ])
  refine tkA 13 (by kernel_rfl) (by assumption) ⟨_, _, ?_, rfl, rfl, ?_, fun _ _ _ h => h, ?_⟩; rotate_left; · intro w hSw; (try dsimp only at hSw); go_simp; (try with_reducible rfl)
  (try simp only [Act.put, List.setIfInBounds_toArray, List.set_cons_zero, List.set_cons_succ])
  refine wpAnyH_done (by kernel_rfl) ?_ _
  obtain ⟨s0, s1, s2, s3, s4, s5, s6, s7, s8, s9⟩ := hHeld
  go_wp2
  go_ret
  exact ⟨rfl, HW.out⟩

theorem choose_hi (kind : Int) (m o : Ct) (w : World) (h : 3 < kind) : Calls Try.prog 30 #[.int .i64 kind, m.v, o.v] w fun e w' => e = .returned (.int .i64 1) ∧ Below w.heap.size w w' := by
  have hst : ∀ (fn : Fn) (f c : Array Value) (a : Addr) (w : World), (store a (.func fn f c)).run Try.prog w = stored Try.prog w a (.func fn f c) .plain := fun _ _ _ _ _ => run_store _ _ _ _ _ rfl
  unfold Ct.v
  have q1 : decide (0 ≤ kind) = true := by simp; omega
  have q2 : decide (kind < 4) = false := by simp; omega
  clear h
  go_enter Try.func30, Try.ntmps30
  go_wp2_with fail
  have HW := Lib.hid (below_alloc2 (below_alloc1 (Below.refl (World.heap (((w.alloc (.cells #[.int .i64 m.s, .int .i64 m.k, .int .i64 m.a] 23)).alloc (.cells #[.int .i64 o.s, .int .i64 o.k, .int .i64 o.a] 23)).alloc (.cells #[.func (.func 57) #[] #[], .func (.func 58) #[] #[], .func (.func 59) #[] #[], .func (.func 60) #[] #[]] 117))).size (((w.alloc (.cells #[.int .i64 m.s, .int .i64 m.k, .int .i64 m.a] 23)).alloc (.cells #[.int .i64 o.s, .int .i64 o.k, .int .i64 o.a] 23)).alloc (.cells #[.func (.func 57) #[] #[], .func (.func 58) #[] #[], .func (.func 59) #[] #[], .func (.func 60) #[] #[]] 117)))))
  refine wp_region_held_drew (S := fun W => W.cell? ⟨w.heap.size, 0, none⟩ = some (.int .i64 m.s) ∧ W.cell? ⟨w.heap.size, 1, none⟩ = some (.int .i64 m.k) ∧ W.cell? ⟨w.heap.size, 2, none⟩ = some (.int .i64 m.a) ∧ W.cell? ⟨w.heap.size + 1, 0, none⟩ = some (.int .i64 o.s) ∧ W.cell? ⟨w.heap.size + 1, 1, none⟩ = some (.int .i64 o.k) ∧ W.cell? ⟨w.heap.size + 1, 2, none⟩ = some (.int .i64 o.a) ∧ W.cell? ⟨w.heap.size + 1 + 1, 0, none⟩ = some (.func (.func 57) #[] #[]) ∧ W.cell? ⟨w.heap.size + 1 + 1, 1, none⟩ = some (.func (.func 58) #[] #[]) ∧ W.cell? ⟨w.heap.size + 1 + 1, 2, none⟩ = some (.func (.func 59) #[] #[]) ∧ W.cell? ⟨w.heap.size + 1 + 1, 3, none⟩ = some (.func (.func 60) #[] #[])) (by kernel_rfl) ?_ (fun hHeld => ?_)
  · (try dsimp only); exact ⟨by first | assumption | go_simp, by first | assumption | go_simp, by first | assumption | go_simp, by first | assumption | go_simp, by first | assumption | go_simp, by first | assumption | go_simp, by first | assumption | go_simp, by first | assumption | go_simp, by first | assumption | go_simp, by first | assumption | go_simp⟩
  replace HW := Lib.hid (below_drews HW.out 1)
  refine tkA 0 (by kernel_rfl) (by assumption) ⟨_, _, ?_, rfl, rfl, ?_, fun _ _ _ h => h, ?_⟩; rotate_left; · intro w hSw; (try dsimp only at hSw); go_simp; (try with_reducible rfl)
  (try simp only [Act.put, List.setIfInBounds_toArray, List.set_cons_zero, List.set_cons_succ])
  refine tkA 1 (by kernel_rfl) (by assumption) ⟨_, _, ?_, rfl, rfl, ?_, fun _ _ _ h => h, ?_⟩; rotate_left; · intro w hSw; (try dsimp only at hSw); go_simp; (try with_reducible rfl)
  (try simp only [Act.put, List.setIfInBounds_toArray, List.set_cons_zero, List.set_cons_succ])
  refine tkA 2 (by kernel_rfl) (by assumption) ⟨_, _, ?_, rfl, rfl, ?_, fun _ _ _ h => h, ?_⟩; rotate_left; · intro w hSw; (try dsimp only at hSw); go_simp; (try with_reducible rfl)
  (try simp only [Act.put, List.setIfInBounds_toArray, List.set_cons_zero, List.set_cons_succ])
  first | (refine tkA 3 (by kernel_rfl) (by assumption) ⟨_, _, ?_, rfl, rfl, ?_, fun _ _ _ h => h, ?_⟩; rotate_left; · intro w hSw; (try dsimp only at hSw); go_simp; (try with_reducible rfl)) | refine tkB 3 (by kernel_rfl) (by assumption) ⟨_, _, rfl, rfl, fun _ _ _ h => h, ?_⟩
  (try simp only [Act.put, List.setIfInBounds_toArray, List.set_cons_zero, List.set_cons_succ])
  first | (refine tkA 4 (by kernel_rfl) (by assumption) ⟨_, _, ?_, rfl, rfl, ?_, fun _ _ _ h => h, ?_⟩; rotate_left; · intro w hSw; (try dsimp only at hSw); go_simp; (try with_reducible rfl)) | refine tkB 4 (by kernel_rfl) (by assumption) ⟨_, _, rfl, rfl, fun _ _ _ h => h, ?_⟩
  (try simp only [Act.put, List.setIfInBounds_toArray, List.set_cons_zero, List.set_cons_succ])
  refine tkA 5 (by kernel_rfl) (by assumption) ⟨_, _, ?_, rfl, rfl, ?_, fun _ _ _ h => h, ?_⟩; rotate_left; · intro w hSw; (try dsimp only at hSw); go_simp; (try with_reducible rfl)
  (try simp only [Act.put, List.setIfInBounds_toArray, List.set_cons_zero, List.set_cons_succ])
  refine tkA 6 (by kernel_rfl) (by assumption) ⟨_, _, ?_, rfl, rfl, ?_, fun _ _ _ h => h, ?_⟩; rotate_left; · intro w hSw; (try dsimp only at hSw); go_simp; (try with_reducible rfl)
  (try simp only [Act.put, List.setIfInBounds_toArray, List.set_cons_zero, List.set_cons_succ])
  first | (refine tkA 7 (by kernel_rfl) (by assumption) ⟨_, _, ?_, rfl, rfl, ?_, fun _ _ _ h => h, ?_⟩; rotate_left; · intro w hSw; (try dsimp only at hSw); go_simp; (try with_reducible rfl)) | refine tkB 7 (by kernel_rfl) (by assumption) ⟨_, _, rfl, rfl, fun _ _ _ h => h, ?_⟩
  (try simp only [Act.put, List.setIfInBounds_toArray, List.set_cons_zero, List.set_cons_succ])
  first | (refine tkA 8 (by kernel_rfl) (by assumption) ⟨_, _, ?_, rfl, rfl, ?_, fun _ _ _ h => h, ?_⟩; rotate_left; · intro w hSw; (try dsimp only at hSw); go_simp; (try with_reducible rfl)) | refine tkB 8 (by kernel_rfl) (by assumption) ⟨_, _, rfl, rfl, fun _ _ _ h => h, ?_⟩
  (try simp only [Act.put, List.setIfInBounds_toArray, List.set_cons_zero, List.set_cons_succ])
  first | (refine tkA 9 (by kernel_rfl) (by assumption) ⟨_, _, ?_, rfl, rfl, ?_, fun _ _ _ h => h, ?_⟩; rotate_left; · intro w hSw; (try dsimp only at hSw); go_simp; (try with_reducible rfl)) | refine tkB 9 (by kernel_rfl) (by assumption) ⟨_, _, rfl, rfl, fun _ _ _ h => h, ?_⟩
  (try simp only [Act.put, List.setIfInBounds_toArray, List.set_cons_zero, List.set_cons_succ])
  first | (refine tkA 10 (by kernel_rfl) (by assumption) ⟨_, _, ?_, rfl, rfl, ?_, fun _ _ _ h => h, ?_⟩; rotate_left; · intro w hSw; (try dsimp only at hSw); go_simp; (try with_reducible rfl)) | refine tkB 10 (by kernel_rfl) (by assumption) ⟨_, _, rfl, rfl, fun _ _ _ h => h, ?_⟩
  (try simp only [Act.put, List.setIfInBounds_toArray, List.set_cons_zero, List.set_cons_succ])
  first | (refine tkA 11 (by kernel_rfl) (by assumption) ⟨_, _, ?_, rfl, rfl, ?_, fun _ _ _ h => h, ?_⟩; rotate_left; · intro w hSw; (try dsimp only at hSw); go_simp; (try with_reducible rfl)) | refine tkB 11 (by kernel_rfl) (by assumption) ⟨_, _, rfl, rfl, fun _ _ _ h => h, ?_⟩
  (try simp only [Act.put, List.setIfInBounds_toArray, List.set_cons_zero, List.set_cons_succ])
  first | (refine tkA 12 (by kernel_rfl) (by assumption) ⟨_, _, ?_, rfl, rfl, ?_, fun _ _ _ h => h, ?_⟩; rotate_left; · intro w hSw; (try dsimp only at hSw); go_simp; (try with_reducible rfl)) | refine tkB 12 (by kernel_rfl) (by assumption) ⟨_, _, rfl, rfl, fun _ _ _ h => h, ?_⟩
  (try simp only [Act.put, List.setIfInBounds_toArray, List.set_cons_zero, List.set_cons_succ])
  refine tkA 13 (by kernel_rfl) (by assumption) ⟨_, _, ?_, rfl, rfl, ?_, fun _ _ _ h => h, ?_⟩; rotate_left; · intro w hSw; (try dsimp only at hSw); go_simp; (try with_reducible rfl)
  (try simp only [Act.put, List.setIfInBounds_toArray, List.set_cons_zero, List.set_cons_succ])
  refine wpAnyH_done (by kernel_rfl) ?_ _
  obtain ⟨s0, s1, s2, s3, s4, s5, s6, s7, s8, s9⟩ := hHeld
  go_wp2
  go_ret
  exact ⟨rfl, HW.out⟩

theorem choose_any (kind : Int) (m o : Ct) (w : World) : Calls Try.prog 30 #[.int .i64 kind, m.v, o.v] w fun e w' => e = .returned (.int .i64 (chooseD kind m o)) ∧ Below w.heap.size w w' := by
  by_cases h1 : kind < 0
  · have e : chooseD kind m o = 1 := chooseD_f (ahead_0 m o (by omega) (by omega) (by omega))
    rw [e]; exact choose_lo kind m o w h1
  by_cases h2 : 3 < kind
  · have e : chooseD kind m o = 1 := chooseD_f (ahead_0 m o (by omega) (by omega) (by omega))
    rw [e]; exact choose_hi kind m o w h2
  have h3 : kind = 0 ∨ kind = 1 ∨ kind = 2 ∨ kind = 3 := by omega
  rcases h3 with rfl | rfl | rfl | rfl
  · exact choose_0f m o w (timid_any m o)
  · by_cases h : m.s < o.s
    · rw [chooseD_t (by rw [ahead_1]; exact decide_eq_true h)]; exact choose_1t m o w (fun w => by have := greedy_any m o w; rwa [decide_eq_true h] at this)
    · rw [chooseD_f (by rw [ahead_1]; exact decide_eq_false h)]; exact choose_1f m o w (fun w => by have := greedy_any m o w; rwa [decide_eq_false h] at this)
  · cases h : karmaB m o
    · rw [chooseD_f (by rw [ahead_2]; exact h)]; exact choose_2f m o w (fun w => by have := karma_any17 m o w; rwa [h] at this)
    · rw [chooseD_t (by rw [ahead_2]; exact h)]; exact choose_2t m o w (fun w => by have := karma_any17 m o w; rwa [h] at this)
  · cases h : mixedB m o
    · rw [chooseD_f (by rw [ahead_3]; exact h)]; exact choose_3f m o w (fun w => by have := mixed_any m o w; rwa [h] at this)
    · rw [chooseD_t (by rw [ahead_3]; exact h)]; exact choose_3t m o w (fun w => by have := mixed_any m o w; rwa [h] at this)

theorem rchoose_1t (m o : Ct) (w : World) (q0 : decide (m.s < o.s) = true) : Calls Try.prog 31 #[.int .i64 1, m.v, o.v] w fun e w' => e = .returned (.int .i64 2) ∧ Below w.heap.size w w' := by
  unfold Ct.v
  go_enter Try.func31, Try.ntmps31
  go_wp2
  go_ret
  exact ⟨rfl, below2 _ _ _⟩

theorem rchoose_1f (m o : Ct) (w : World) (q0 : decide (m.s < o.s) = false) : Calls Try.prog 31 #[.int .i64 1, m.v, o.v] w fun e w' => e = .returned (.int .i64 1) ∧ Below w.heap.size w w' := by
  unfold Ct.v
  go_enter Try.func31, Try.ntmps31
  go_wp2
  go_ret
  exact ⟨rfl, below2 _ _ _⟩

theorem rchoose_2a (m o : Ct) (w : World) (q0 : decide (o.k < m.k) = true) : Calls Try.prog 31 #[.int .i64 2, m.v, o.v] w fun e w' => e = .returned (.int .i64 2) ∧ Below w.heap.size w w' := by
  unfold Ct.v
  go_enter Try.func31, Try.ntmps31
  go_wp2
  go_ret
  exact ⟨rfl, below2 _ _ _⟩

theorem rchoose_2b (m o : Ct) (w : World) (q0 : decide (o.k < m.k) = false) (q1 : (m.k == o.k) = true) (q2 : decide (m.s < o.s) = true) : Calls Try.prog 31 #[.int .i64 2, m.v, o.v] w fun e w' => e = .returned (.int .i64 2) ∧ Below w.heap.size w w' := by
  unfold Ct.v
  go_enter Try.func31, Try.ntmps31
  go_wp2
  go_ret
  exact ⟨rfl, below2 _ _ _⟩

theorem rchoose_2c (m o : Ct) (w : World) (q0 : decide (o.k < m.k) = false) (q1 : (m.k == o.k) = true) (q2 : decide (m.s < o.s) = false) : Calls Try.prog 31 #[.int .i64 2, m.v, o.v] w fun e w' => e = .returned (.int .i64 1) ∧ Below w.heap.size w w' := by
  unfold Ct.v
  go_enter Try.func31, Try.ntmps31
  go_wp2
  go_ret
  exact ⟨rfl, below2 _ _ _⟩

theorem rchoose_2d (m o : Ct) (w : World) (q0 : decide (o.k < m.k) = false) (q1 : (m.k == o.k) = false) : Calls Try.prog 31 #[.int .i64 2, m.v, o.v] w fun e w' => e = .returned (.int .i64 1) ∧ Below w.heap.size w w' := by
  unfold Ct.v
  go_enter Try.func31, Try.ntmps31
  go_wp2
  go_ret
  exact ⟨rfl, below2 _ _ _⟩

theorem rchoose_3a (m o : Ct) (w : World) (q0 : decide (1 < m.a) = true) (q1 : decide (m.s < o.s) = true) : Calls Try.prog 31 #[.int .i64 3, m.v, o.v] w fun e w' => e = .returned (.int .i64 2) ∧ Below w.heap.size w w' := by
  unfold Ct.v
  go_enter Try.func31, Try.ntmps31
  go_wp2
  go_ret
  exact ⟨rfl, below2 _ _ _⟩

theorem rchoose_3b (m o : Ct) (w : World) (q0 : decide (1 < m.a) = true) (q1 : decide (m.s < o.s) = false) : Calls Try.prog 31 #[.int .i64 3, m.v, o.v] w fun e w' => e = .returned (.int .i64 1) ∧ Below w.heap.size w w' := by
  unfold Ct.v
  go_enter Try.func31, Try.ntmps31
  go_wp2
  go_ret
  exact ⟨rfl, below2 _ _ _⟩

theorem rchoose_3c (m o : Ct) (w : World) (q0 : decide (1 < m.a) = false) : Calls Try.prog 31 #[.int .i64 3, m.v, o.v] w fun e w' => e = .returned (.int .i64 1) ∧ Below w.heap.size w w' := by
  unfold Ct.v
  go_enter Try.func31, Try.ntmps31
  go_wp2
  go_ret
  exact ⟨rfl, below2 _ _ _⟩

theorem rchoose_0 (kind : Int) (m o : Ct) (w : World) (q0 : (kind == 1) = false) (q1 : (kind == 2) = false) (q2 : (kind == 3) = false) : Calls Try.prog 31 #[.int .i64 kind, m.v, o.v] w fun e w' => e = .returned (.int .i64 1) ∧ Below w.heap.size w w' := by
  unfold Ct.v
  go_enter Try.func31, Try.ntmps31
  go_wp2
  go_ret
  exact ⟨rfl, below2 _ _ _⟩

theorem rchoose_any (kind : Int) (m o : Ct) (w : World) : Calls Try.prog 31 #[.int .i64 kind, m.v, o.v] w fun e w' => e = .returned (.int .i64 (chooseD kind m o)) ∧ Below w.heap.size w w' := by
  by_cases h1 : kind = 1
  · subst h1
    by_cases h : m.s < o.s
    · rw [chooseD_t (by rw [ahead_1]; exact decide_eq_true h)]; exact rchoose_1t m o w (decide_eq_true h)
    · rw [chooseD_f (by rw [ahead_1]; exact decide_eq_false h)]; exact rchoose_1f m o w (decide_eq_false h)
  by_cases h2 : kind = 2
  · subst h2
    by_cases g : m.k = o.k
    · have e : ahead 2 m o = decide (m.s < o.s) := by rw [ahead_2]; unfold karmaB; rw [if_pos g]
      by_cases h : m.s < o.s
      · rw [chooseD_t (by rw [e]; exact decide_eq_true h)]; exact rchoose_2b m o w (decide_eq_false (by omega)) (by simp [g]) (decide_eq_true h)
      · rw [chooseD_f (by rw [e]; exact decide_eq_false h)]; exact rchoose_2c m o w (decide_eq_false (by omega)) (by simp [g]) (decide_eq_false h)
    · have e : ahead 2 m o = decide (o.k < m.k) := by rw [ahead_2]; unfold karmaB; rw [if_neg g]
      by_cases h : o.k < m.k
      · rw [chooseD_t (by rw [e]; exact decide_eq_true h)]; exact rchoose_2a m o w (decide_eq_true h)
      · rw [chooseD_f (by rw [e]; exact decide_eq_false h)]; exact rchoose_2d m o w (decide_eq_false h) (by simp [g])
  by_cases h3 : kind = 3
  · subst h3
    by_cases g : 2 ≤ m.a
    · have e : ahead 3 m o = decide (m.s < o.s) := by rw [ahead_3]; unfold mixedB; rw [decide_eq_true g, Bool.true_and]
      by_cases h : m.s < o.s
      · rw [chooseD_t (by rw [e]; exact decide_eq_true h)]; exact rchoose_3a m o w (decide_eq_true (by omega)) (decide_eq_true h)
      · rw [chooseD_f (by rw [e]; exact decide_eq_false h)]; exact rchoose_3b m o w (decide_eq_true (by omega)) (decide_eq_false h)
    · have e : ahead 3 m o = false := by rw [ahead_3]; unfold mixedB; rw [decide_eq_false g, Bool.false_and]
      rw [chooseD_f e]; exact rchoose_3c m o w (decide_eq_false (by omega))
  · have e : chooseD kind m o = 1 := chooseD_f (ahead_0 m o h1 h2 h3)
    rw [e]; exact rchoose_0 kind m o w (by simp [h1]) (by simp [h2]) (by simp [h3])

end Go.Proofs.Ytaclnaedinfhmaa
