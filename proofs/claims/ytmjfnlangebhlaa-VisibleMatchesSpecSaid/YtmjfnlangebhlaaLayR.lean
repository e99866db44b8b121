
/-
  Layer 15: the reference's valid layouts.
-/
import Derived.Test.YtmjfnlangebhlaaRows
import Derived.Test.YtmjfnlangebhlaaBase
import Derived.Test.YtmjfnlangebhlaaAux
import Derived.Test.YtmjfnlangebhlaaLayA
import Derived.Test.YtmjfnlangebhlaaLayB
import Derived.Test.YtmjfnlangebhlaaLayC
import Derived.Outline
namespace Go.Proofs.Ytmjfnlangebhlaa
set_option maxRecDepth 20000
set_option linter.unusedVariables false
open Go.ChangeShapes Go.WideShapes Go.ChangeAt Go.RowKit
def rightR (l : Ly) : Bool := decide l.c.ok && lyEq (layOf l.c) l
theorem rightR_ok {l : Ly} (h : rightR l = true) : l.c.ok ∧ l = layOf l.c := by
  unfold rightR at h
  simp only [Bool.and_eq_true, decide_eq_true_eq] at h
  exact ⟨h.1, ((lyEq_iff _ _).1 h.2).symm⟩
theorem rightR_ly {l : Ly} (h : rightR l = true) : l.ok := by
  obtain ⟨⟨h1, h2, h3, h4, h5⟩, e⟩ := rightR_ok h
  rw [e]
  simp only [Ly.ok, layOf]
  omega

set_option maxHeartbeats 800000 in
theorem rright_any (l : Ly) (w : World) : Calls Try.prog 13 #[l.v] w fun e w' => e = .returned (.bool (rightR l)) ∧ Below w.heap.size w w' := by
  by_cases h : l.c.ok
  · obtain ⟨L, hL⟩ : ∃ L, L = layOf l.c := ⟨_, rfl⟩
    have HO : Hid (∀ w, Calls Try.prog 19 #[l.c.v] w fun e w' => e = .returned (.tuple #[L.v, .int .i64 0]) ∧ Below w.heap.size w w') := Lib.hid (fun w => by rw [hL]; exact rof_t l.c w h)
    have HR := Lib.hid (show rightR l = lyEq L l by unfold rightR; rw [hL, decide_eq_true h]; rfl)
    have hre : ∀ w, (binOp .eql 41 L.v l.v).run Try.prog w = .ok (.bool (lyEq L l)) w := fun w => lay_eql L l w
    clear hL h
    unfold Ly.v at hre ⊢
    unfold Ly.v Cf.v at HO
    go_enter Try.func13, Try.ntmps13
    go_wp2_with fail
    refine (HO.out _).mono ?_
    rintro e w1 ⟨rfl, hb⟩
    have hz : w.heap.size < w1.heap.size := by have := hb.size; simp at this; omega
    have HB := Lib.hid (below_alloc1 hb)
    have p0 : w1.cell? ⟨w.heap.size, 0, none⟩ = some (.int .i64 l.c.t) := cel_below hb (by go_simp)
    have p1 : w1.cell? ⟨w.heap.size, 1, none⟩ = some (.int .i64 l.c.l) := cel_below hb (by go_simp)
    have p2 : w1.cell? ⟨w.heap.size, 2, none⟩ = some (.int .i64 l.c.k) := cel_below hb (by go_simp)
    have p3 : w1.cell? ⟨w.heap.size, 3, none⟩ = some (.int .i64 l.c.s) := cel_below hb (by go_simp)
    have p4 : w1.cell? ⟨w.heap.size, 4, none⟩ = some (.int .i64 l.c.m) := cel_below hb (by go_simp)
    have p5 : w1.cell? ⟨w.heap.size, 5, none⟩ = some (.int .i64 l.clock) := cel_below hb (by go_simp)
    have p6 : w1.cell? ⟨w.heap.size, 6, none⟩ = some (.int .i64 l.stamps) := cel_below hb (by go_simp)
    have p7 : w1.cell? ⟨w.heap.size, 7, none⟩ = some (.int .i64 l.log) := cel_below hb (by go_simp)
    have p8 : w1.cell? ⟨w.heap.size, 8, none⟩ = some (.int .i64 l.fin) := cel_below hb (by go_simp)
    have p9 : w1.cell? ⟨w.heap.size, 9, none⟩ = some (.int .i64 l.thread) := cel_below hb (by go_simp)
    have p10 : w1.cell? ⟨w.heap.size, 10, none⟩ = some (.int .i64 l.lock) := cel_below hb (by go_simp)
    have p11 : w1.cell? ⟨w.heap.size, 11, none⟩ = some (.int .i64 l.loc) := cel_below hb (by go_simp)
    have p12 : w1.cell? ⟨w.heap.size, 12, none⟩ = some (.int .i64 l.size) := cel_below hb (by go_simp)
    clear hb
    go_wp2
    go_ret
    exact ⟨ret_bool HR.out.symm, HB.out.trans ((below_new1 _ _).mono HB.out.size)⟩
  · have HO := Lib.hid (fun w => rof_f l.c w h)
    have HR := Lib.hid (show rightR l = false by unfold rightR; rw [decide_eq_false h]; rfl)
    clear h
    unfold Ly.v
    unfold lay0 Ly.v Cf.v at HO
    go_enter Try.func13, Try.ntmps13
    go_wp2_with fail
    refine (HO.out _).mono ?_
    rintro e w1 ⟨rfl, hb⟩
    have HB := Lib.hid (below_alloc1 hb)
    clear hb
    go_wp2
    go_ret
    exact ⟨ret_bool HR.out.symm, HB.out.trans ((below_new1 _ _).mono HB.out.size)⟩
end Go.Proofs.Ytmjfnlangebhlaa
