
/-
  Layer 15: the cell of a part's element.
-/
import Derived.Test.YtmjfnlangebhlaaRows
import Derived.Test.YtmjfnlangebhlaaBase
import Derived.Outline
namespace Go.Proofs.Ytmjfnlangebhlaa
open Go.ChangeShapes Go.WideShapes Go.ChangeAt Go.RowKit

/-- The cell of an element. -/
def cellN (e c s f o : Int) : Int := if e < 0 ∨ c ≤ e then -1 else f + e * s + o

set_option maxHeartbeats 800000 in
theorem cell4_any (e c f o : Int) (w : World) (b q : Nat) (cap : Nat) (hc : c ≤ 64) (hf : 0 ≤ f ∧ f ≤ 1000) (ho : 0 ≤ o ∧ o ≤ 3) (hcell : w.cell? ⟨b, q, none⟩ = some (.int .i64 o)) :
    Calls Try.prog 76 #[.int .i64 e, .int .i64 c, .int .i64 4, .int .i64 f, .slice (some ⟨b, q, none⟩) 1 cap] w fun e' w' => e' = .returned (.int .i64 (cellN e c 4 f o)) ∧ w = w' := by
  obtain ⟨f1, f2⟩ := hf
  obtain ⟨o1, o2⟩ := ho
  by_cases h : e < 0 ∨ c ≤ e
  · have HE := Lib.hid (show cellN e c 4 f o = -1 by unfold cellN; rw [if_pos h])
    by_cases h1 : e < 0
    · clear h
      go_enter Try.func76, Try.ntmps76
      go_wp2
      go_ret
      exact ⟨ret_int HE.out.symm, rfl⟩
    · have h1' : 0 ≤ e := by omega
      have h2 : c ≤ e := by omega
      clear h h1
      go_enter Try.func76, Try.ntmps76
      go_wp2
      go_ret
      exact ⟨ret_int HE.out.symm, rfl⟩
  · have HE := Lib.hid (show cellN e c 4 f o = f + e * 4 + o by unfold cellN; rw [if_neg h])
    have h1 : 0 ≤ e := by omega
    have h2 : e < c := by omega
    have h3 : e ≤ 63 := by omega
    clear h
    go_enter Try.func76, Try.ntmps76
    go_wp2
    go_loop [11, 28] (fun a i => (i = .int .i64 0 ∧ a = .int .i64 (f + e * 4)) ∨ (i = .int .i64 1 ∧ a = .int .i64 (f + e * 4 + o))) (fun _ i => (1 - intOf i).toNat)
    case atStart => exact Or.inl ⟨rfl, rfl⟩
    case round =>
      rcases hrel with ⟨rfl, rfl⟩ | ⟨rfl, rfl⟩
      · go_wp2
        go_round
        case rel => exact Or.inr ⟨rfl, rfl⟩
        case measure => simp [intOf]
      · go_wp2
        go_ret
        exact ⟨ret_int HE.out.symm, rfl⟩

set_option maxHeartbeats 800000 in
theorem cell1_any (e c f : Int) (w : World) (hc : c ≤ 64) (hf : 0 ≤ f ∧ f ≤ 1000) :
    Calls Try.prog 76 #[.int .i64 e, .int .i64 c, .int .i64 1, .int .i64 f, .slice none 0 0] w fun e' w' => e' = .returned (.int .i64 (cellN e c 1 f 0)) ∧ w = w' := by
  obtain ⟨f1, f2⟩ := hf
  by_cases h : e < 0 ∨ c ≤ e
  · have HE := Lib.hid (show cellN e c 1 f 0 = -1 by unfold cellN; rw [if_pos h])
    by_cases h1 : e < 0
    · clear h
      go_enter Try.func76, Try.ntmps76
      go_wp2
      go_ret
      exact ⟨ret_int HE.out.symm, rfl⟩
    · have h1' : 0 ≤ e := by omega
      have h2 : c ≤ e := by omega
      clear h h1
      go_enter Try.func76, Try.ntmps76
      go_wp2
      go_ret
      exact ⟨ret_int HE.out.symm, rfl⟩
  · have HE := Lib.hid (show cellN e c 1 f 0 = f + e by unfold cellN; rw [if_neg h]; omega)
    have h1 : 0 ≤ e := by omega
    have h2 : e < c := by omega
    have h3 : e ≤ 63 := by omega
    clear h
    go_enter Try.func76, Try.ntmps76
    go_wp2
    go_loop [11, 28] (fun a i => i = .int .i64 0 ∧ a = .int .i64 (f + e)) (fun _ i => (1 - intOf i).toNat)
    case atStart => exact ⟨rfl, rfl⟩
    case round =>
      obtain ⟨rfl, rfl⟩ := hrel
      go_wp2
      go_ret
      exact ⟨ret_int HE.out.symm, rfl⟩

/-- A configuration. -/
structure Cf where
  t : Int
  l : Int
  k : Int
  s : Int
  m : Int
def Cf.v (c : Cf) : Value := .agg #[.int .i64 c.t, .int .i64 c.l, .int .i64 c.k, .int .i64 c.s, .int .i64 c.m]
/-- A layout. -/
structure Ly where
  c : Cf
  clock : Int
  stamps : Int
  log : Int
  fin : Int
  thread : Int
  lock : Int
  loc : Int
  size : Int
def Ly.v (l : Ly) : Value := .agg #[.int .i64 l.c.t, .int .i64 l.c.l, .int .i64 l.c.k, .int .i64 l.c.s, .int .i64 l.c.m, .int .i64 l.clock, .int .i64 l.stamps, .int .i64 l.log, .int .i64 l.fin, .int .i64 l.thread, .int .i64 l.lock, .int .i64 l.loc, .int .i64 l.size]

/-- The bounds within which the cells of a layout are computed. -/
def Ly.ok (l : Ly) : Prop := l.c.t ≤ 64 ∧ l.c.l ≤ 64 ∧ l.c.k ≤ 64 ∧ 0 ≤ l.thread ∧ l.thread ≤ 1000 ∧ 0 ≤ l.loc ∧ l.loc ≤ 1000 ∧ 0 ≤ l.lock ∧ l.lock ≤ 1000

def atStatus (l : Ly) (n : Int) : Int := cellN n l.c.t 4 l.thread 0
theorem status_any (l : Ly) (n : Int) (w : World) (hok : l.ok) :
    Calls Try.prog 50 #[l.v, .int .i64 n] w fun e' w' => e' = .returned (.int .i64 (atStatus l n)) ∧ Below w.heap.size w w' := by
  obtain ⟨h1, h2, h3, h4, h5, h6, h7, h8, h9⟩ := hok
  unfold Ly.v atStatus
  go_enter Try.func50, Try.ntmps50
  go_wp2_with fail
  refine (cell4_any _ _ _ 0 _ _ _ _ (by assumption) ⟨by assumption, by assumption⟩ (by omega) (by rw [World.cell?_alloc_at _ _ _ _ (by simp)]; rfl)).mono ?_
  rintro e' w' ⟨rfl, rfl⟩
  go_wp2
  go_ret
  exact ⟨rfl, ((Below.refl _ _).alloc (Nat.le_refl _) _).alloc (by simp) _⟩

def atStamp (l : Ly) (n : Int) : Int := cellN n l.c.t 4 l.thread 1
theorem stamp_any (l : Ly) (n : Int) (w : World) (hok : l.ok) :
    Calls Try.prog 149 #[l.v, .int .i64 n] w fun e' w' => e' = .returned (.int .i64 (atStamp l n)) ∧ Below w.heap.size w w' := by
  obtain ⟨h1, h2, h3, h4, h5, h6, h7, h8, h9⟩ := hok
  unfold Ly.v atStamp
  go_enter Try.func149, Try.ntmps149
  go_wp2_with fail
  refine (cell4_any _ _ _ 1 _ _ _ _ (by assumption) ⟨by assumption, by assumption⟩ (by omega) (by rw [World.cell?_alloc_at _ _ _ _ (by simp)]; rfl)).mono ?_
  rintro e' w' ⟨rfl, rfl⟩
  go_wp2
  go_ret
  exact ⟨rfl, ((Below.refl _ _).alloc (Nat.le_refl _) _).alloc (by simp) _⟩

def atWake (l : Ly) (n : Int) : Int := cellN n l.c.t 4 l.thread 2
theorem wake_any (l : Ly) (n : Int) (w : World) (hok : l.ok) :
    Calls Try.prog 65 #[l.v, .int .i64 n] w fun e' w' => e' = .returned (.int .i64 (atWake l n)) ∧ Below w.heap.size w w' := by
  obtain ⟨h1, h2, h3, h4, h5, h6, h7, h8, h9⟩ := hok
  unfold Ly.v atWake
  go_enter Try.func65, Try.ntmps65
  go_wp2_with fail
  refine (cell4_any _ _ _ 2 _ _ _ _ (by assumption) ⟨by assumption, by assumption⟩ (by omega) (by rw [World.cell?_alloc_at _ _ _ _ (by simp)]; rfl)).mono ?_
  rintro e' w' ⟨rfl, rfl⟩
  go_wp2
  go_ret
  exact ⟨rfl, ((Below.refl _ _).alloc (Nat.le_refl _) _).alloc (by simp) _⟩

def atKarma (l : Ly) (n : Int) : Int := cellN n l.c.t 4 l.thread 3
theorem karma_any (l : Ly) (n : Int) (w : World) (hok : l.ok) :
    Calls Try.prog 150 #[l.v, .int .i64 n] w fun e' w' => e' = .returned (.int .i64 (atKarma l n)) ∧ Below w.heap.size w w' := by
  obtain ⟨h1, h2, h3, h4, h5, h6, h7, h8, h9⟩ := hok
  unfold Ly.v atKarma
  go_enter Try.func150, Try.ntmps150
  go_wp2_with fail
  refine (cell4_any _ _ _ 3 _ _ _ _ (by assumption) ⟨by assumption, by assumption⟩ (by omega) (by rw [World.cell?_alloc_at _ _ _ _ (by simp)]; rfl)).mono ?_
  rintro e' w' ⟨rfl, rfl⟩
  go_wp2
  go_ret
  exact ⟨rfl, ((Below.refl _ _).alloc (Nat.le_refl _) _).alloc (by simp) _⟩

def atWord (l : Ly) (n : Int) : Int := cellN n l.c.l 4 l.loc 0
theorem word_any (l : Ly) (n : Int) (w : World) (hok : l.ok) :
    Calls Try.prog 37 #[l.v, .int .i64 n] w fun e' w' => e' = .returned (.int .i64 (atWord l n)) ∧ Below w.heap.size w w' := by
  obtain ⟨h1, h2, h3, h4, h5, h6, h7, h8, h9⟩ := hok
  unfold Ly.v atWord
  go_enter Try.func37, Try.ntmps37
  go_wp2_with fail
  refine (cell4_any _ _ _ 0 _ _ _ _ (by assumption) ⟨by assumption, by assumption⟩ (by omega) (by rw [World.cell?_alloc_at _ _ _ _ (by simp)]; rfl)).mono ?_
  rintro e' w' ⟨rfl, rfl⟩
  go_wp2
  go_ret
  exact ⟨rfl, ((Below.refl _ _).alloc (Nat.le_refl _) _).alloc (by simp) _⟩

def atVal (l : Ly) (n : Int) : Int := cellN n l.c.l 4 l.loc 1
theorem val_any (l : Ly) (n : Int) (w : World) (hok : l.ok) :
    Calls Try.prog 85 #[l.v, .int .i64 n] w fun e' w' => e' = .returned (.int .i64 (atVal l n)) ∧ Below w.heap.size w w' := by
  obtain ⟨h1, h2, h3, h4, h5, h6, h7, h8, h9⟩ := hok
  unfold Ly.v atVal
  go_enter Try.func85, Try.ntmps85
  go_wp2_with fail
  refine (cell4_any _ _ _ 1 _ _ _ _ (by assumption) ⟨by assumption, by assumption⟩ (by omega) (by rw [World.cell?_alloc_at _ _ _ _ (by simp)]; rfl)).mono ?_
  rintro e' w' ⟨rfl, rfl⟩
  go_wp2
  go_ret
  exact ⟨rfl, ((Below.refl _ _).alloc (Nat.le_refl _) _).alloc (by simp) _⟩

def atReaders (l : Ly) (n : Int) : Int := cellN n l.c.l 4 l.loc 2
theorem readers_any (l : Ly) (n : Int) (w : World) (hok : l.ok) :
    Calls Try.prog 97 #[l.v, .int .i64 n] w fun e' w' => e' = .returned (.int .i64 (atReaders l n)) ∧ Below w.heap.size w w' := by
  obtain ⟨h1, h2, h3, h4, h5, h6, h7, h8, h9⟩ := hok
  unfold Ly.v atReaders
  go_enter Try.func97, Try.ntmps97
  go_wp2_with fail
  refine (cell4_any _ _ _ 2 _ _ _ _ (by assumption) ⟨by assumption, by assumption⟩ (by omega) (by rw [World.cell?_alloc_at _ _ _ _ (by simp)]; rfl)).mono ?_
  rintro e' w' ⟨rfl, rfl⟩
  go_wp2
  go_ret
  exact ⟨rfl, ((Below.refl _ _).alloc (Nat.le_refl _) _).alloc (by simp) _⟩

def atWaiters (l : Ly) (n : Int) : Int := cellN n l.c.l 4 l.loc 3
theorem waiters_any (l : Ly) (n : Int) (w : World) (hok : l.ok) :
    Calls Try.prog 100 #[l.v, .int .i64 n] w fun e' w' => e' = .returned (.int .i64 (atWaiters l n)) ∧ Below w.heap.size w w' := by
  obtain ⟨h1, h2, h3, h4, h5, h6, h7, h8, h9⟩ := hok
  unfold Ly.v atWaiters
  go_enter Try.func100, Try.ntmps100
  go_wp2_with fail
  refine (cell4_any _ _ _ 3 _ _ _ _ (by assumption) ⟨by assumption, by assumption⟩ (by omega) (by rw [World.cell?_alloc_at _ _ _ _ (by simp)]; rfl)).mono ?_
  rintro e' w' ⟨rfl, rfl⟩
  go_wp2
  go_ret
  exact ⟨rfl, ((Below.refl _ _).alloc (Nat.le_refl _) _).alloc (by simp) _⟩

def atLock (l : Ly) (n : Int) : Int := cellN n l.c.k 1 l.lock 0
set_option maxHeartbeats 800000 in
theorem rthread_any (l : Ly) (n o : Int) (w : World) (hok : l.ok) (ho : 0 ≤ o ∧ o ≤ 3) :
    Calls Try.prog 69 #[l.v, .int .i64 n, .int .i64 o] w fun e' w' => e' = .returned (.int .i64 (cellN n l.c.t 4 l.thread o)) ∧ Below w.heap.size w w' := by
  obtain ⟨h1, h2, h3, h4, h5, h6, h7, h8, h9⟩ := hok
  obtain ⟨o1, o2⟩ := ho
  by_cases h : n < 0 ∨ l.c.t ≤ n
  · have HE := Lib.hid (show cellN n l.c.t 4 l.thread o = -1 by unfold cellN; rw [if_pos h])
    unfold Ly.v
    by_cases g : n < 0
    · clear h
      go_enter Try.func69, Try.ntmps69
      go_wp2
      go_ret
      exact ⟨ret_int HE.out.symm, (Below.refl _ _).alloc (Nat.le_refl _) _⟩
    · have g1 : 0 ≤ n := by omega
      have g2 : l.c.t ≤ n := by omega
      have g3 : decide (n < 0) = false := by simpa using g1
      clear h g
      go_enter Try.func69, Try.ntmps69
      go_wp2
      go_ret
      exact ⟨ret_int HE.out.symm, (Below.refl _ _).alloc (Nat.le_refl _) _⟩
  · have HE := Lib.hid (show cellN n l.c.t 4 l.thread o = l.thread + 4 * n + o by unfold cellN; rw [if_neg h]; omega)
    unfold Ly.v
    have g1 : 0 ≤ n := by omega
    have g2 : n < l.c.t := by omega
    have g3 : n ≤ 63 := by omega
    clear h
    go_enter Try.func69, Try.ntmps69
    go_wp2
    go_ret
    exact ⟨ret_int HE.out.symm, (Below.refl _ _).alloc (Nat.le_refl _) _⟩

set_option maxHeartbeats 800000 in
theorem rloc_any (l : Ly) (n o : Int) (w : World) (hok : l.ok) (ho : 0 ≤ o ∧ o ≤ 3) :
    Calls Try.prog 58 #[l.v, .int .i64 n, .int .i64 o] w fun e' w' => e' = .returned (.int .i64 (cellN n l.c.l 4 l.loc o)) ∧ Below w.heap.size w w' := by
  obtain ⟨h1, h2, h3, h4, h5, h6, h7, h8, h9⟩ := hok
  obtain ⟨o1, o2⟩ := ho
  by_cases h : n < 0 ∨ l.c.l ≤ n
  · have HE := Lib.hid (show cellN n l.c.l 4 l.loc o = -1 by unfold cellN; rw [if_pos h])
    unfold Ly.v
    by_cases g : n < 0
    · clear h
      go_enter Try.func58, Try.ntmps58
      go_wp2
      go_ret
      exact ⟨ret_int HE.out.symm, (Below.refl _ _).alloc (Nat.le_refl _) _⟩
    · have g1 : 0 ≤ n := by omega
      have g2 : l.c.l ≤ n := by omega
      have g3 : decide (n < 0) = false := by simpa using g1
      clear h g
      go_enter Try.func58, Try.ntmps58
      go_wp2
      go_ret
      exact ⟨ret_int HE.out.symm, (Below.refl _ _).alloc (Nat.le_refl _) _⟩
  · have HE := Lib.hid (show cellN n l.c.l 4 l.loc o = l.loc + 4 * n + o by unfold cellN; rw [if_neg h]; omega)
    unfold Ly.v
    have g1 : 0 ≤ n := by omega
    have g2 : n < l.c.l := by omega
    have g3 : n ≤ 63 := by omega
    clear h
    go_enter Try.func58, Try.ntmps58
    go_wp2
    go_ret
    exact ⟨ret_int HE.out.symm, (Below.refl _ _).alloc (Nat.le_refl _) _⟩

theorem rstatus_any (l : Ly) (n : Int) (w : World) (hok : l.ok) :
    Calls Try.prog 53 #[l.v, .int .i64 n] w fun e' w' => e' = .returned (.int .i64 (atStatus l n)) ∧ Below w.heap.size w w' := by
  have H := Lib.hid (fun w => rthread_any l n 0 w hok (by omega))
  unfold Ly.v at H ⊢
  go_enter Try.func53, Try.ntmps53
  go_wp2_with fail
  refine (H.out _).mono ?_
  rintro e' w' ⟨rfl, hb⟩
  go_wp2
  go_ret
  exact ⟨rfl, ((Below.refl _ _).alloc (Nat.le_refl _) _).trans (hb.mono (by simp))⟩

theorem rwake_any (l : Ly) (n : Int) (w : World) (hok : l.ok) :
    Calls Try.prog 30 #[l.v, .int .i64 n] w fun e' w' => e' = .returned (.int .i64 (atWake l n)) ∧ Below w.heap.size w w' := by
  have H := Lib.hid (fun w => rthread_any l n 2 w hok (by omega))
  unfold Ly.v at H ⊢
  go_enter Try.func30, Try.ntmps30
  go_wp2_with fail
  refine (H.out _).mono ?_
  rintro e' w' ⟨rfl, hb⟩
  go_wp2
  go_ret
  exact ⟨rfl, ((Below.refl _ _).alloc (Nat.le_refl _) _).trans (hb.mono (by simp))⟩

theorem rword_any (l : Ly) (n : Int) (w : World) (hok : l.ok) :
    Calls Try.prog 21 #[l.v, .int .i64 n] w fun e' w' => e' = .returned (.int .i64 (atWord l n)) ∧ Below w.heap.size w w' := by
  have H := Lib.hid (fun w => rloc_any l n 0 w hok (by omega))
  unfold Ly.v at H ⊢
  go_enter Try.func21, Try.ntmps21
  go_wp2_with fail
  refine (H.out _).mono ?_
  rintro e' w' ⟨rfl, hb⟩
  go_wp2
  go_ret
  exact ⟨rfl, ((Below.refl _ _).alloc (Nat.le_refl _) _).trans (hb.mono (by simp))⟩

theorem rval_any (l : Ly) (n : Int) (w : World) (hok : l.ok) :
    Calls Try.prog 22 #[l.v, .int .i64 n] w fun e' w' => e' = .returned (.int .i64 (atVal l n)) ∧ Below w.heap.size w w' := by
  have H := Lib.hid (fun w => rloc_any l n 1 w hok (by omega))
  unfold Ly.v at H ⊢
  go_enter Try.func22, Try.ntmps22
  go_wp2_with fail
  refine (H.out _).mono ?_
  rintro e' w' ⟨rfl, hb⟩
  go_wp2
  go_ret
  exact ⟨rfl, ((Below.refl _ _).alloc (Nat.le_refl _) _).trans (hb.mono (by simp))⟩

theorem rreaders_any (l : Ly) (n : Int) (w : World) (hok : l.ok) :
    Calls Try.prog 24 #[l.v, .int .i64 n] w fun e' w' => e' = .returned (.int .i64 (atReaders l n)) ∧ Below w.heap.size w w' := by
  have H := Lib.hid (fun w => rloc_any l n 2 w hok (by omega))
  unfold Ly.v at H ⊢
  go_enter Try.func24, Try.ntmps24
  go_wp2_with fail
  refine (H.out _).mono ?_
  rintro e' w' ⟨rfl, hb⟩
  go_wp2
  go_ret
  exact ⟨rfl, ((Below.refl _ _).alloc (Nat.le_refl _) _).trans (hb.mono (by simp))⟩

theorem rwaiters_any (l : Ly) (n : Int) (w : World) (hok : l.ok) :
    Calls Try.prog 52 #[l.v, .int .i64 n] w fun e' w' => e' = .returned (.int .i64 (atWaiters l n)) ∧ Below w.heap.size w w' := by
  have H := Lib.hid (fun w => rloc_any l n 3 w hok (by omega))
  unfold Ly.v at H ⊢
  go_enter Try.func52, Try.ntmps52
  go_wp2_with fail
  refine (H.out _).mono ?_
  rintro e' w' ⟨rfl, hb⟩
  go_wp2
  go_ret
  exact ⟨rfl, ((Below.refl _ _).alloc (Nat.le_refl _) _).trans (hb.mono (by simp))⟩

end Go.Proofs.Ytmjfnlangebhlaa
