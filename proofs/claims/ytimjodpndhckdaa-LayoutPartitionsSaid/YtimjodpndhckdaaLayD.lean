
/-
  Layer 15: valid layouts; the configuration of a program.
-/
import Derived.Test.YtimjodpndhckdaaRows
import Derived.Test.YtimjodpndhckdaaBase
import Derived.Test.YtimjodpndhckdaaAux
import Derived.Test.YtimjodpndhckdaaLayA
import Derived.Test.YtimjodpndhckdaaLayB
import Derived.Test.YtimjodpndhckdaaLayC
import Derived.Outline
namespace Go.Proofs.Ytimjodpndhckdaa
set_option maxRecDepth 20000
open Go.ChangeShapes Go.WideShapes Go.ChangeAt Go.RowKit

def rightL (l : Ly) : Bool := decide l.c.ok && lyEq l (layOf l.c)

set_option maxHeartbeats 800000 in
theorem right15_any (l : Ly) (w : World) : Calls Try.prog 27 #[l.v] w fun e w' => e = .returned (.bool (rightL l)) ∧ Below w.heap.size w w' := by
  by_cases h : l.c.ok
  · obtain ⟨L, hL⟩ : ∃ L, L = layOf l.c := ⟨_, rfl⟩
    have HO : Hid (∀ w, Calls Try.prog 25 #[l.c.v] w fun e w' => e = .returned (.tuple #[L.v, .int .i64 0]) ∧ Below w.heap.size w w') := Lib.hid (fun w => by rw [hL]; exact of_t l.c w h)
    have HR := Lib.hid (show rightL l = lyEq l L by unfold rightL; rw [hL, decide_eq_true h]; rfl)
    have hre : ∀ w, (binOp .eql 53 l.v L.v).run Try.prog w = .ok (.bool (lyEq l L)) w := fun w => lay_eql l L w
    clear hL h
    unfold Ly.v at hre ⊢
    unfold Ly.v Cf.v at HO
    go_enter Try.func27, Try.ntmps27
    go_wp2_with fail
    refine (HO.out _).mono ?_
    rintro e w1 ⟨rfl, hb⟩
    have hz : w.heap.size < w1.heap.size := by have := hb.size; simp at this; omega
    have HB := Lib.hid (below_alloc1 hb)
    have p0 : w1.cell? ⟨w.heap.size, 0, none⟩ = some (.int .i64 l.c.t) := cel_below hb (by go_simp)
    have p1 : w1.cell? ⟨w.heap.size, 1, none⟩ = some (.int .i64 l.c.l) := cel_below hb (by go_simp)
    have p2 : w1.cell? ⟨w.heap.size, 2, none⟩ = some (.int .i64 l.c.k) := cel_below hb (by go_simp)
    have p3 : w1.cell? ⟨w.heap.size, 3, none⟩ = some (.int .i64 l.c.s) := cel_below hb (by go_simp)
    have p4 : w1.cell? ⟨w.heap.size, 4, none⟩ = some (.int .i64 l.c.m) := cel_below hb (by go_simp)
    have p5 : w1.cell? ⟨w.heap.size, 5, none⟩ = some (.int .i64 l.clock) := cel_below hb (by go_simp)
    have p6 : w1.cell? ⟨w.heap.size, 6, none⟩ = some (.int .i64 l.stamps) := cel_below hb (by go_simp)
    have p7 : w1.cell? ⟨w.heap.size, 7, none⟩ = some (.int .i64 l.log) := cel_below hb (by go_simp)
    have p8 : w1.cell? ⟨w.heap.size, 8, none⟩ = some (.int .i64 l.fin) := cel_below hb (by go_simp)
    have p9 : w1.cell? ⟨w.heap.size, 9, none⟩ = some (.int .i64 l.thread) := cel_below hb (by go_simp)
    have p10 : w1.cell? ⟨w.heap.size, 10, none⟩ = some (.int .i64 l.lock) := cel_below hb (by go_simp)
    have p11 : w1.cell? ⟨w.heap.size, 11, none⟩ = some (.int .i64 l.loc) := cel_below hb (by go_simp)
    have p12 : w1.cell? ⟨w.heap.size, 12, none⟩ = some (.int .i64 l.size) := cel_below hb (by go_simp)
    clear hb
    go_wp2
    go_ret
    exact ⟨ret_bool HR.out.symm, HB.out.trans ((below_new1 _ _).mono HB.out.size)⟩
  · have HO := Lib.hid (fun w => of_f l.c w h)
    have HR := Lib.hid (show rightL l = false by unfold rightL; rw [decide_eq_false h]; rfl)
    clear h
    unfold Ly.v
    unfold lay0 Ly.v Cf.v at HO
    go_enter Try.func27, Try.ntmps27
    go_wp2_with fail
    refine (HO.out _).mono ?_
    rintro e w1 ⟨rfl, hb⟩
    have HB := Lib.hid (below_alloc1 hb)
    clear hb
    go_wp2
    go_ret
    exact ⟨ret_bool HR.out.symm, HB.out.trans ((below_new1 _ _).mono HB.out.size)⟩

/-- The slice of a field: nothing but its length matters. -/
def SlLen (v : Value) (n : Nat) : Prop := ∃ a c, v = .slice a n c

def progCf (t l : Nat) (k s m : Int) : Cf := ⟨t, l, k, s, m⟩
def cf0 : Cf := ⟨0, 0, 0, 0, 0⟩

set_option maxHeartbeats 800000 in
theorem for_t (f0 f1 f2 f3 f4 f5 : Value) (t n : Nat) (k s m : Int) (w : World) (ht : SlLen f1 t) (hn : SlLen f3 n) (h : (progCf t n k s m).ok) :
    Calls Try.prog 34 #[.agg #[f0, f1, f2, f3, f4, f5, .int .i64 k], .int .i64 s, .int .i64 m] w fun e w' => e = .returned (.tuple #[(progCf t n k s m).v, .int .i64 0]) ∧ Below w.heap.size w w' := by
  obtain ⟨a1, c1, rfl⟩ := ht
  obtain ⟨a3, c3, rfl⟩ := hn
  have HR := Lib.hid (fun w => rightConf_t _ w h)
  clear h
  unfold progCf at HR ⊢
  unfold Cf.v at HR ⊢
  go_enter Try.func34, Try.ntmps34
  go_wp2_with fail
  refine (HR.out _).mono ?_
  rintro e w1 ⟨rfl, rfl⟩
  go_wp2
  refine bodyPost_ret (v := .tuple #[.agg #[.int .i64 t, .int .i64 n, .int .i64 k, .int .i64 s, .int .i64 m], .int .i64 0]) (by simp [results, Try.results34, go_sem]) rfl ⟨rfl, ?_⟩
  repeat (first | with_reducible exact Below.refl _ _ | with_reducible refine Below.setCell ?_ (by first | omega | (simp; omega) | simp) _ | with_reducible refine Below.alloc ?_ (by first | omega | (simp; omega) | simp) _)

set_option maxHeartbeats 800000 in
theorem for_f (f0 f1 f2 f3 f4 f5 : Value) (t n : Nat) (k s m : Int) (w : World) (ht : SlLen f1 t) (hn : SlLen f3 n) (h : ¬(progCf t n k s m).ok) :
    Calls Try.prog 34 #[.agg #[f0, f1, f2, f3, f4, f5, .int .i64 k], .int .i64 s, .int .i64 m] w fun e w' => e = .returned (.tuple #[cf0.v, .int .i64 1]) ∧ Below w.heap.size w w' := by
  obtain ⟨a1, c1, rfl⟩ := ht
  obtain ⟨a3, c3, rfl⟩ := hn
  have HR := Lib.hid (fun w => rightConf_f _ w h)
  clear h
  unfold progCf at HR
  unfold Cf.v at HR ⊢
  go_enter Try.func34, Try.ntmps34
  go_wp2_with fail
  refine (HR.out _).mono ?_
  rintro e w1 ⟨rfl, rfl⟩
  go_wp2
  refine bodyPost_ret (v := .tuple #[.agg #[.int .i64 0, .int .i64 0, .int .i64 0, .int .i64 0, .int .i64 0], .int .i64 1]) (by simp [results, Try.results34, go_sem]) rfl ⟨rfl, ?_⟩
  repeat (first | with_reducible exact Below.refl _ _ | with_reducible refine Below.setCell ?_ (by first | omega | (simp; omega) | simp) _ | with_reducible refine Below.alloc ?_ (by first | omega | (simp; omega) | simp) _)

set_option maxHeartbeats 800000 in
theorem rfor_t (f0 f1 f2 f3 f4 f5 : Value) (t n : Nat) (k s m : Int) (w : World) (ht : SlLen f1 t) (hn : SlLen f3 n) (h : (progCf t n k s m).ok) :
    Calls Try.prog 35 #[.agg #[f0, f1, f2, f3, f4, f5, .int .i64 k], .int .i64 s, .int .i64 m] w fun e w' => e = .returned (.tuple #[(progCf t n k s m).v, .int .i64 0]) ∧ Below w.heap.size w w' := by
  obtain ⟨a1, c1, rfl⟩ := ht
  obtain ⟨a3, c3, rfl⟩ := hn
  have HR := Lib.hid (fun w => may_t _ w h)
  clear h
  unfold progCf at HR ⊢
  unfold Cf.v at HR ⊢
  go_enter Try.func35, Try.ntmps35
  go_wp2_with fail
  refine (HR.out _).mono ?_
  rintro e w1 ⟨rfl, rfl⟩
  go_wp2
  refine bodyPost_ret (v := .tuple #[.agg #[.int .i64 t, .int .i64 n, .int .i64 k, .int .i64 s, .int .i64 m], .int .i64 0]) (by simp [results, Try.results35, go_sem]) rfl ⟨rfl, ?_⟩
  repeat (first | with_reducible exact Below.refl _ _ | with_reducible refine Below.setCell ?_ (by first | omega | (simp; omega) | simp) _ | with_reducible refine Below.alloc ?_ (by first | omega | (simp; omega) | simp) _)

set_option maxHeartbeats 800000 in
theorem rfor_f (f0 f1 f2 f3 f4 f5 : Value) (t n : Nat) (k s m : Int) (w : World) (ht : SlLen f1 t) (hn : SlLen f3 n) (h : ¬(progCf t n k s m).ok) :
    Calls Try.prog 35 #[.agg #[f0, f1, f2, f3, f4, f5, .int .i64 k], .int .i64 s, .int .i64 m] w fun e w' => e = .returned (.tuple #[cf0.v, .int .i64 1]) ∧ Below w.heap.size w w' := by
  obtain ⟨a1, c1, rfl⟩ := ht
  obtain ⟨a3, c3, rfl⟩ := hn
  have HR := Lib.hid (fun w => may_f _ w h)
  clear h
  unfold progCf at HR
  unfold Cf.v at HR ⊢
  go_enter Try.func35, Try.ntmps35
  go_wp2_with fail
  refine (HR.out _).mono ?_
  rintro e w1 ⟨rfl, rfl⟩
  go_wp2
  refine bodyPost_ret (v := .tuple #[.agg #[.int .i64 0, .int .i64 0, .int .i64 0, .int .i64 0, .int .i64 0], .int .i64 1]) (by simp [results, Try.results35, go_sem]) rfl ⟨rfl, ?_⟩
  repeat (first | with_reducible exact Below.refl _ _ | with_reducible refine Below.setCell ?_ (by first | omega | (simp; omega) | simp) _ | with_reducible refine Below.alloc ?_ (by first | omega | (simp; omega) | simp) _)

end Go.Proofs.Ytimjodpndhckdaa
