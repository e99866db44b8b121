/- LayoutRejectsChange: for every valid configuration, changing any one offset of its layout makes Right false. No condition. -/
import Derived.Test.YtimjodpndhckdaaRows
import Derived.Test.YtimjodpndhckdaaAux
import Derived.Test.YtimjodpndhckdaaLayS
import Derived.Test.YtimjodpndhckdaaLayO
import Derived.Outline
import Derived.WalkKit
import Derived.ProofKit
import Derived.OpenShut
import Derived.Lib.Hide
import Derived.Carry
namespace Go.Proofs.Ytimjodpndhckdaa.layoutRejectsChange
open Go.ChangeShapes Go.WideShapes Go.ChangeAt Go.RowKit
set_option linter.unusedVariables false

theorem wrap_ne (x y : Int) (h : I64 y) (hy : y ≠ 0) : wrap64 (x + y) ≠ x := by unfold I64 at h; unfold wrap64; omega
def HasWalk (c : Cf) (a1 a2 : Int) : Prop := ∀ w, Calls Try.prog 8 #[c.v, .int .u8 a1, .int .i64 a2] w fun e w' => e = .returned (.bool true) ∧ Below w.heap.size w w'

theorem right_t (c : Cf) (h : c.ok) : rightL (layOf c) = true := by
  unfold rightL; rw [show (layOf c).c = c from rfl, decide_eq_true h, (lyEq_iff _ _).2 rfl]; rfl
theorem right_f (c : Cf) (m : Ly) (hm : m.c = c) (h : m ≠ layOf c) : rightL m = false := by
  unfold rightL; rw [hm]
  have : lyEq m (layOf c) = false := by rw [Bool.eq_false_iff]; intro hc; exact h ((lyEq_iff _ _).1 hc)
  rw [this, Bool.and_false]

set_option maxHeartbeats 4000000 in
set_option maxRecDepth 100000 in
theorem walk0 (w : World) (c : Cf) (a1 : Int) (u1 : 0 ≤ a1) (u2 : a1 ≤ 255) (a2 : Int) (hi : I64 a2) (hc : c.ok) (hy : a2 ≠ 0) (q : a1 % 8 = 0) : Calls Try.prog 8 #[c.v, .int .u8 a1, .int .i64 a2] w fun e w' => e = .returned (.bool true) ∧ Below w.heap.size w w' := by
  obtain ⟨L, hL⟩ : ∃ L, L = layOf c := ⟨_, rfl⟩
  have HO : Hid (∀ w, Calls Try.prog 26 #[c.v] w fun e w' => e = .returned (.tuple #[L.v, .int .i64 0]) ∧ Below w.heap.size w w') := Lib.hid (fun w => by rw [hL]; exact rof_t c w hc)
  have HT : Hid (∀ w, Calls Try.prog 27 #[L.v] w fun e w' => e = .returned (.bool true) ∧ Below w.heap.size w w') := Lib.hid (fun w => by have := right15_any L w; rwa [hL, right_t c hc, ← hL] at this)
  have HF : Hid (∀ w, Calls Try.prog 27 #[.agg #[.int .i64 (L.c.t), .int .i64 (L.c.l), .int .i64 (L.c.k), .int .i64 (L.c.s), .int .i64 (L.c.m), .int .i64 (wrap64 (L.clock + a2)), .int .i64 (L.stamps), .int .i64 (L.log), .int .i64 (L.fin), .int .i64 (L.thread), .int .i64 (L.lock), .int .i64 (L.loc), .int .i64 (L.size)]] w fun e w' => e = .returned (.bool false) ∧ Below w.heap.size w w') := Lib.hid (fun w => by
    have := right15_any ⟨L.c, wrap64 (L.clock + a2), L.stamps, L.log, L.fin, L.thread, L.lock, L.loc, L.size⟩ w
    rwa [right_f c _ (by show L.c = c; rw [hL]; rfl) (by
      intro h
      have h2 : wrap64 (L.clock + a2) = L.clock := by
        have := congrArg Ly.clock h
        rw [← hL] at this
        exact this
      exact wrap_ne _ _ hi hy h2)] at this)
  have hy' : (a2 == 0) = false := by simp [hy]
  clear hL hi hy hc
  unfold Ly.v at HO HT
  unfold Cf.v at HO ⊢
  go_enter Try.func8, Try.ntmps8
  go_wp2_with fail
  ((with_reducible refine (sane15_any _).mono ?_); rintro e w1 ⟨rfl, hb⟩)
  have HW := Lib.hid (below_alloc1 hb)
  have zz : w.heap.size + 1 ≤ w1.heap.size := by have := hb.size; (try simp at this); omega
  have p0 : w1.cell? ⟨w.heap.size, 0, none⟩ = some (.int .i64 c.t) := cel_below hb (by rw [World.cell?_alloc_at _ _ _ _ (by simp)]; rfl)
  have p1 : w1.cell? ⟨w.heap.size, 1, none⟩ = some (.int .i64 c.l) := cel_below hb (by rw [World.cell?_alloc_at _ _ _ _ (by simp)]; rfl)
  have p2 : w1.cell? ⟨w.heap.size, 2, none⟩ = some (.int .i64 c.k) := cel_below hb (by rw [World.cell?_alloc_at _ _ _ _ (by simp)]; rfl)
  have p3 : w1.cell? ⟨w.heap.size, 3, none⟩ = some (.int .i64 c.s) := cel_below hb (by rw [World.cell?_alloc_at _ _ _ _ (by simp)]; rfl)
  have p4 : w1.cell? ⟨w.heap.size, 4, none⟩ = some (.int .i64 c.m) := cel_below hb (by rw [World.cell?_alloc_at _ _ _ _ (by simp)]; rfl)
  have z0 : w.heap.size < w1.heap.size := by omega
  clear hb zz
  go_wp2_with fail
  ((with_reducible refine (HO.out _).mono ?_); rintro e w2 ⟨rfl, hb⟩)
  replace HW := Lib.hid (below_step HW.out (hb))
  have zz : w1.heap.size + 0 ≤ w2.heap.size := by have := hb.size; (try simp at this); omega
  replace z0 : w.heap.size < w2.heap.size := by omega
  clear hb zz
  go_wp2_with fail
  ((with_reducible refine (HT.out _).mono ?_); rintro e w3 ⟨rfl, hb⟩)
  replace HW := Lib.hid (below_step HW.out (below_alloc2 hb))
  have zz : w2.heap.size + 2 ≤ w3.heap.size := by have := hb.size; (try simp at this); omega
  replace z0 : w.heap.size < w3.heap.size := by omega
  have m0 : w3.cell? ⟨w2.heap.size + 1, 0, none⟩ = some (.int .i64 (L.c.t)) := cel_below hb (by rw [World.cell?_alloc_at _ _ _ _ (by simp)]; rfl)
  have m1 : w3.cell? ⟨w2.heap.size + 1, 1, none⟩ = some (.int .i64 (L.c.l)) := cel_below hb (by rw [World.cell?_alloc_at _ _ _ _ (by simp)]; rfl)
  have m2 : w3.cell? ⟨w2.heap.size + 1, 2, none⟩ = some (.int .i64 (L.c.k)) := cel_below hb (by rw [World.cell?_alloc_at _ _ _ _ (by simp)]; rfl)
  have m3 : w3.cell? ⟨w2.heap.size + 1, 3, none⟩ = some (.int .i64 (L.c.s)) := cel_below hb (by rw [World.cell?_alloc_at _ _ _ _ (by simp)]; rfl)
  have m4 : w3.cell? ⟨w2.heap.size + 1, 4, none⟩ = some (.int .i64 (L.c.m)) := cel_below hb (by rw [World.cell?_alloc_at _ _ _ _ (by simp)]; rfl)
  have m5 : w3.cell? ⟨w2.heap.size + 1, 5, none⟩ = some (.int .i64 (wrap64 (L.clock + a2))) := cel_below hb (by rw [World.cell?_alloc_at _ _ _ _ (by simp)]; rfl)
  have m6 : w3.cell? ⟨w2.heap.size + 1, 6, none⟩ = some (.int .i64 (L.stamps)) := cel_below hb (by rw [World.cell?_alloc_at _ _ _ _ (by simp)]; rfl)
  have m7 : w3.cell? ⟨w2.heap.size + 1, 7, none⟩ = some (.int .i64 (L.log)) := cel_below hb (by rw [World.cell?_alloc_at _ _ _ _ (by simp)]; rfl)
  have m8 : w3.cell? ⟨w2.heap.size + 1, 8, none⟩ = some (.int .i64 (L.fin)) := cel_below hb (by rw [World.cell?_alloc_at _ _ _ _ (by simp)]; rfl)
  have m9 : w3.cell? ⟨w2.heap.size + 1, 9, none⟩ = some (.int .i64 (L.thread)) := cel_below hb (by rw [World.cell?_alloc_at _ _ _ _ (by simp)]; rfl)
  have m10 : w3.cell? ⟨w2.heap.size + 1, 10, none⟩ = some (.int .i64 (L.lock)) := cel_below hb (by rw [World.cell?_alloc_at _ _ _ _ (by simp)]; rfl)
  have m11 : w3.cell? ⟨w2.heap.size + 1, 11, none⟩ = some (.int .i64 (L.loc)) := cel_below hb (by rw [World.cell?_alloc_at _ _ _ _ (by simp)]; rfl)
  have m12 : w3.cell? ⟨w2.heap.size + 1, 12, none⟩ = some (.int .i64 (L.size)) := cel_below hb (by rw [World.cell?_alloc_at _ _ _ _ (by simp)]; rfl)
  have z1 : w2.heap.size + 1 < w3.heap.size := by omega
  clear hb zz
  go_wp2_with fail
  ((with_reducible refine (HF.out _).mono ?_); rintro e w4 ⟨rfl, hb⟩)
  replace HW := Lib.hid (below_step HW.out (hb))
  have zz : w3.heap.size + 0 ≤ w4.heap.size := by have := hb.size; (try simp at this); omega
  replace m0 : w4.cell? ⟨w2.heap.size + 1, 0, none⟩ = some (.int .i64 (L.c.t)) := cel_below hb (m0)
  replace m1 : w4.cell? ⟨w2.heap.size + 1, 1, none⟩ = some (.int .i64 (L.c.l)) := cel_below hb (m1)
  replace m2 : w4.cell? ⟨w2.heap.size + 1, 2, none⟩ = some (.int .i64 (L.c.k)) := cel_below hb (m2)
  replace m3 : w4.cell? ⟨w2.heap.size + 1, 3, none⟩ = some (.int .i64 (L.c.s)) := cel_below hb (m3)
  replace m4 : w4.cell? ⟨w2.heap.size + 1, 4, none⟩ = some (.int .i64 (L.c.m)) := cel_below hb (m4)
  replace m5 : w4.cell? ⟨w2.heap.size + 1, 5, none⟩ = some (.int .i64 (wrap64 (L.clock + a2))) := cel_below hb (m5)
  replace m6 : w4.cell? ⟨w2.heap.size + 1, 6, none⟩ = some (.int .i64 (L.stamps)) := cel_below hb (m6)
  replace m7 : w4.cell? ⟨w2.heap.size + 1, 7, none⟩ = some (.int .i64 (L.log)) := cel_below hb (m7)
  replace m8 : w4.cell? ⟨w2.heap.size + 1, 8, none⟩ = some (.int .i64 (L.fin)) := cel_below hb (m8)
  replace m9 : w4.cell? ⟨w2.heap.size + 1, 9, none⟩ = some (.int .i64 (L.thread)) := cel_below hb (m9)
  replace m10 : w4.cell? ⟨w2.heap.size + 1, 10, none⟩ = some (.int .i64 (L.lock)) := cel_below hb (m10)
  replace m11 : w4.cell? ⟨w2.heap.size + 1, 11, none⟩ = some (.int .i64 (L.loc)) := cel_below hb (m11)
  replace m12 : w4.cell? ⟨w2.heap.size + 1, 12, none⟩ = some (.int .i64 (L.size)) := cel_below hb (m12)
  replace z0 : w.heap.size < w4.heap.size := by omega
  replace z1 : w2.heap.size + 1 < w4.heap.size := by omega
  clear hb zz
  go_wp2
  go_ret
  exact ⟨rfl, HW.out⟩

set_option maxHeartbeats 4000000 in
set_option maxRecDepth 100000 in
theorem walk1 (w : World) (c : Cf) (a1 : Int) (u1 : 0 ≤ a1) (u2 : a1 ≤ 255) (a2 : Int) (hi : I64 a2) (hc : c.ok) (hy : a2 ≠ 0) (q : a1 % 8 = 1) : Calls Try.prog 8 #[c.v, .int .u8 a1, .int .i64 a2] w fun e w' => e = .returned (.bool true) ∧ Below w.heap.size w w' := by
  obtain ⟨L, hL⟩ : ∃ L, L = layOf c := ⟨_, rfl⟩
  have HO : Hid (∀ w, Calls Try.prog 26 #[c.v] w fun e w' => e = .returned (.tuple #[L.v, .int .i64 0]) ∧ Below w.heap.size w w') := Lib.hid (fun w => by rw [hL]; exact rof_t c w hc)
  have HT : Hid (∀ w, Calls Try.prog 27 #[L.v] w fun e w' => e = .returned (.bool true) ∧ Below w.heap.size w w') := Lib.hid (fun w => by have := right15_any L w; rwa [hL, right_t c hc, ← hL] at this)
  have HF : Hid (∀ w, Calls Try.prog 27 #[.agg #[.int .i64 (L.c.t), .int .i64 (L.c.l), .int .i64 (L.c.k), .int .i64 (L.c.s), .int .i64 (L.c.m), .int .i64 (L.clock), .int .i64 (wrap64 (L.stamps + a2)), .int .i64 (L.log), .int .i64 (L.fin), .int .i64 (L.thread), .int .i64 (L.lock), .int .i64 (L.loc), .int .i64 (L.size)]] w fun e w' => e = .returned (.bool false) ∧ Below w.heap.size w w') := Lib.hid (fun w => by
    have := right15_any ⟨L.c, L.clock, wrap64 (L.stamps + a2), L.log, L.fin, L.thread, L.lock, L.loc, L.size⟩ w
    rwa [right_f c _ (by show L.c = c; rw [hL]; rfl) (by
      intro h
      have h2 : wrap64 (L.stamps + a2) = L.stamps := by
        have := congrArg Ly.stamps h
        rw [← hL] at this
        exact this
      exact wrap_ne _ _ hi hy h2)] at this)
  have hy' : (a2 == 0) = false := by simp [hy]
  clear hL hi hy hc
  unfold Ly.v at HO HT
  unfold Cf.v at HO ⊢
  go_enter Try.func8, Try.ntmps8
  go_wp2_with fail
  ((with_reducible refine (sane15_any _).mono ?_); rintro e w1 ⟨rfl, hb⟩)
  have HW := Lib.hid (below_alloc1 hb)
  have zz : w.heap.size + 1 ≤ w1.heap.size := by have := hb.size; (try simp at this); omega
  have p0 : w1.cell? ⟨w.heap.size, 0, none⟩ = some (.int .i64 c.t) := cel_below hb (by rw [World.cell?_alloc_at _ _ _ _ (by simp)]; rfl)
  have p1 : w1.cell? ⟨w.heap.size, 1, none⟩ = some (.int .i64 c.l) := cel_below hb (by rw [World.cell?_alloc_at _ _ _ _ (by simp)]; rfl)
  have p2 : w1.cell? ⟨w.heap.size, 2, none⟩ = some (.int .i64 c.k) := cel_below hb (by rw [World.cell?_alloc_at _ _ _ _ (by simp)]; rfl)
  have p3 : w1.cell? ⟨w.heap.size, 3, none⟩ = some (.int .i64 c.s) := cel_below hb (by rw [World.cell?_alloc_at _ _ _ _ (by simp)]; rfl)
  have p4 : w1.cell? ⟨w.heap.size, 4, none⟩ = some (.int .i64 c.m) := cel_below hb (by rw [World.cell?_alloc_at _ _ _ _ (by simp)]; rfl)
  have z0 : w.heap.size < w1.heap.size := by omega
  clear hb zz
  go_wp2_with fail
  ((with_reducible refine (HO.out _).mono ?_); rintro e w2 ⟨rfl, hb⟩)
  replace HW := Lib.hid (below_step HW.out (hb))
  have zz : w1.heap.size + 0 ≤ w2.heap.size := by have := hb.size; (try simp at this); omega
  replace z0 : w.heap.size < w2.heap.size := by omega
  clear hb zz
  go_wp2_with fail
  ((with_reducible refine (HT.out _).mono ?_); rintro e w3 ⟨rfl, hb⟩)
  replace HW := Lib.hid (below_step HW.out (below_alloc2 hb))
  have zz : w2.heap.size + 2 ≤ w3.heap.size := by have := hb.size; (try simp at this); omega
  replace z0 : w.heap.size < w3.heap.size := by omega
  have m0 : w3.cell? ⟨w2.heap.size + 1, 0, none⟩ = some (.int .i64 (L.c.t)) := cel_below hb (by rw [World.cell?_alloc_at _ _ _ _ (by simp)]; rfl)
  have m1 : w3.cell? ⟨w2.heap.size + 1, 1, none⟩ = some (.int .i64 (L.c.l)) := cel_below hb (by rw [World.cell?_alloc_at _ _ _ _ (by simp)]; rfl)
  have m2 : w3.cell? ⟨w2.heap.size + 1, 2, none⟩ = some (.int .i64 (L.c.k)) := cel_below hb (by rw [World.cell?_alloc_at _ _ _ _ (by simp)]; rfl)
  have m3 : w3.cell? ⟨w2.heap.size + 1, 3, none⟩ = some (.int .i64 (L.c.s)) := cel_below hb (by rw [World.cell?_alloc_at _ _ _ _ (by simp)]; rfl)
  have m4 : w3.cell? ⟨w2.heap.size + 1, 4, none⟩ = some (.int .i64 (L.c.m)) := cel_below hb (by rw [World.cell?_alloc_at _ _ _ _ (by simp)]; rfl)
  have m5 : w3.cell? ⟨w2.heap.size + 1, 5, none⟩ = some (.int .i64 (L.clock)) := cel_below hb (by rw [World.cell?_alloc_at _ _ _ _ (by simp)]; rfl)
  have m6 : w3.cell? ⟨w2.heap.size + 1, 6, none⟩ = some (.int .i64 (wrap64 (L.stamps + a2))) := cel_below hb (by rw [World.cell?_alloc_at _ _ _ _ (by simp)]; rfl)
  have m7 : w3.cell? ⟨w2.heap.size + 1, 7, none⟩ = some (.int .i64 (L.log)) := cel_below hb (by rw [World.cell?_alloc_at _ _ _ _ (by simp)]; rfl)
  have m8 : w3.cell? ⟨w2.heap.size + 1, 8, none⟩ = some (.int .i64 (L.fin)) := cel_below hb (by rw [World.cell?_alloc_at _ _ _ _ (by simp)]; rfl)
  have m9 : w3.cell? ⟨w2.heap.size + 1, 9, none⟩ = some (.int .i64 (L.thread)) := cel_below hb (by rw [World.cell?_alloc_at _ _ _ _ (by simp)]; rfl)
  have m10 : w3.cell? ⟨w2.heap.size + 1, 10, none⟩ = some (.int .i64 (L.lock)) := cel_below hb (by rw [World.cell?_alloc_at _ _ _ _ (by simp)]; rfl)
  have m11 : w3.cell? ⟨w2.heap.size + 1, 11, none⟩ = some (.int .i64 (L.loc)) := cel_below hb (by rw [World.cell?_alloc_at _ _ _ _ (by simp)]; rfl)
  have m12 : w3.cell? ⟨w2.heap.size + 1, 12, none⟩ = some (.int .i64 (L.size)) := cel_below hb (by rw [World.cell?_alloc_at _ _ _ _ (by simp)]; rfl)
  have z1 : w2.heap.size + 1 < w3.heap.size := by omega
  clear hb zz
  go_wp2_with fail
  ((with_reducible refine (HF.out _).mono ?_); rintro e w4 ⟨rfl, hb⟩)
  replace HW := Lib.hid (below_step HW.out (hb))
  have zz : w3.heap.size + 0 ≤ w4.heap.size := by have := hb.size; (try simp at this); omega
  replace m0 : w4.cell? ⟨w2.heap.size + 1, 0, none⟩ = some (.int .i64 (L.c.t)) := cel_below hb (m0)
  replace m1 : w4.cell? ⟨w2.heap.size + 1, 1, none⟩ = some (.int .i64 (L.c.l)) := cel_below hb (m1)
  replace m2 : w4.cell? ⟨w2.heap.size + 1, 2, none⟩ = some (.int .i64 (L.c.k)) := cel_below hb (m2)
  replace m3 : w4.cell? ⟨w2.heap.size + 1, 3, none⟩ = some (.int .i64 (L.c.s)) := cel_below hb (m3)
  replace m4 : w4.cell? ⟨w2.heap.size + 1, 4, none⟩ = some (.int .i64 (L.c.m)) := cel_below hb (m4)
  replace m5 : w4.cell? ⟨w2.heap.size + 1, 5, none⟩ = some (.int .i64 (L.clock)) := cel_below hb (m5)
  replace m6 : w4.cell? ⟨w2.heap.size + 1, 6, none⟩ = some (.int .i64 (wrap64 (L.stamps + a2))) := cel_below hb (m6)
  replace m7 : w4.cell? ⟨w2.heap.size + 1, 7, none⟩ = some (.int .i64 (L.log)) := cel_below hb (m7)
  replace m8 : w4.cell? ⟨w2.heap.size + 1, 8, none⟩ = some (.int .i64 (L.fin)) := cel_below hb (m8)
  replace m9 : w4.cell? ⟨w2.heap.size + 1, 9, none⟩ = some (.int .i64 (L.thread)) := cel_below hb (m9)
  replace m10 : w4.cell? ⟨w2.heap.size + 1, 10, none⟩ = some (.int .i64 (L.lock)) := cel_below hb (m10)
  replace m11 : w4.cell? ⟨w2.heap.size + 1, 11, none⟩ = some (.int .i64 (L.loc)) := cel_below hb (m11)
  replace m12 : w4.cell? ⟨w2.heap.size + 1, 12, none⟩ = some (.int .i64 (L.size)) := cel_below hb (m12)
  replace z0 : w.heap.size < w4.heap.size := by omega
  replace z1 : w2.heap.size + 1 < w4.heap.size := by omega
  clear hb zz
  go_wp2
  go_ret
  exact ⟨rfl, HW.out⟩

set_option maxHeartbeats 4000000 in
set_option maxRecDepth 100000 in
theorem walk2 (w : World) (c : Cf) (a1 : Int) (u1 : 0 ≤ a1) (u2 : a1 ≤ 255) (a2 : Int) (hi : I64 a2) (hc : c.ok) (hy : a2 ≠ 0) (q : a1 % 8 = 2) : Calls Try.prog 8 #[c.v, .int .u8 a1, .int .i64 a2] w fun e w' => e = .returned (.bool true) ∧ Below w.heap.size w w' := by
  obtain ⟨L, hL⟩ : ∃ L, L = layOf c := ⟨_, rfl⟩
  have HO : Hid (∀ w, Calls Try.prog 26 #[c.v] w fun e w' => e = .returned (.tuple #[L.v, .int .i64 0]) ∧ Below w.heap.size w w') := Lib.hid (fun w => by rw [hL]; exact rof_t c w hc)
  have HT : Hid (∀ w, Calls Try.prog 27 #[L.v] w fun e w' => e = .returned (.bool true) ∧ Below w.heap.size w w') := Lib.hid (fun w => by have := right15_any L w; rwa [hL, right_t c hc, ← hL] at this)
  have HF : Hid (∀ w, Calls Try.prog 27 #[.agg #[.int .i64 (L.c.t), .int .i64 (L.c.l), .int .i64 (L.c.k), .int .i64 (L.c.s), .int .i64 (L.c.m), .int .i64 (L.clock), .int .i64 (L.stamps), .int .i64 (wrap64 (L.log + a2)), .int .i64 (L.fin), .int .i64 (L.thread), .int .i64 (L.lock), .int .i64 (L.loc), .int .i64 (L.size)]] w fun e w' => e = .returned (.bool false) ∧ Below w.heap.size w w') := Lib.hid (fun w => by
    have := right15_any ⟨L.c, L.clock, L.stamps, wrap64 (L.log + a2), L.fin, L.thread, L.lock, L.loc, L.size⟩ w
    rwa [right_f c _ (by show L.c = c; rw [hL]; rfl) (by
      intro h
      have h2 : wrap64 (L.log + a2) = L.log := by
        have := congrArg Ly.log h
        rw [← hL] at this
        exact this
      exact wrap_ne _ _ hi hy h2)] at this)
  have hy' : (a2 == 0) = false := by simp [hy]
  clear hL hi hy hc
  unfold Ly.v at HO HT
  unfold Cf.v at HO ⊢
  go_enter Try.func8, Try.ntmps8
  go_wp2_with fail
  ((with_reducible refine (sane15_any _).mono ?_); rintro e w1 ⟨rfl, hb⟩)
  have HW := Lib.hid (below_alloc1 hb)
  have zz : w.heap.size + 1 ≤ w1.heap.size := by have := hb.size; (try simp at this); omega
  have p0 : w1.cell? ⟨w.heap.size, 0, none⟩ = some (.int .i64 c.t) := cel_below hb (by rw [World.cell?_alloc_at _ _ _ _ (by simp)]; rfl)
  have p1 : w1.cell? ⟨w.heap.size, 1, none⟩ = some (.int .i64 c.l) := cel_below hb (by rw [World.cell?_alloc_at _ _ _ _ (by simp)]; rfl)
  have p2 : w1.cell? ⟨w.heap.size, 2, none⟩ = some (.int .i64 c.k) := cel_below hb (by rw [World.cell?_alloc_at _ _ _ _ (by simp)]; rfl)
  have p3 : w1.cell? ⟨w.heap.size, 3, none⟩ = some (.int .i64 c.s) := cel_below hb (by rw [World.cell?_alloc_at _ _ _ _ (by simp)]; rfl)
  have p4 : w1.cell? ⟨w.heap.size, 4, none⟩ = some (.int .i64 c.m) := cel_below hb (by rw [World.cell?_alloc_at _ _ _ _ (by simp)]; rfl)
  have z0 : w.heap.size < w1.heap.size := by omega
  clear hb zz
  go_wp2_with fail
  ((with_reducible refine (HO.out _).mono ?_); rintro e w2 ⟨rfl, hb⟩)
  replace HW := Lib.hid (below_step HW.out (hb))
  have zz : w1.heap.size + 0 ≤ w2.heap.size := by have := hb.size; (try simp at this); omega
  replace z0 : w.heap.size < w2.heap.size := by omega
  clear hb zz
  go_wp2_with fail
  ((with_reducible refine (HT.out _).mono ?_); rintro e w3 ⟨rfl, hb⟩)
  replace HW := Lib.hid (below_step HW.out (below_alloc2 hb))
  have zz : w2.heap.size + 2 ≤ w3.heap.size := by have := hb.size; (try simp at this); omega
  replace z0 : w.heap.size < w3.heap.size := by omega
  have m0 : w3.cell? ⟨w2.heap.size + 1, 0, none⟩ = some (.int .i64 (L.c.t)) := cel_below hb (by rw [World.cell?_alloc_at _ _ _ _ (by simp)]; rfl)
  have m1 : w3.cell? ⟨w2.heap.size + 1, 1, none⟩ = some (.int .i64 (L.c.l)) := cel_below hb (by rw [World.cell?_alloc_at _ _ _ _ (by simp)]; rfl)
  have m2 : w3.cell? ⟨w2.heap.size + 1, 2, none⟩ = some (.int .i64 (L.c.k)) := cel_below hb (by rw [World.cell?_alloc_at _ _ _ _ (by simp)]; rfl)
  have m3 : w3.cell? ⟨w2.heap.size + 1, 3, none⟩ = some (.int .i64 (L.c.s)) := cel_below hb (by rw [World.cell?_alloc_at _ _ _ _ (by simp)]; rfl)
  have m4 : w3.cell? ⟨w2.heap.size + 1, 4, none⟩ = some (.int .i64 (L.c.m)) := cel_below hb (by rw [World.cell?_alloc_at _ _ _ _ (by simp)]; rfl)
  have m5 : w3.cell? ⟨w2.heap.size + 1, 5, none⟩ = some (.int .i64 (L.clock)) := cel_below hb (by rw [World.cell?_alloc_at _ _ _ _ (by simp)]; rfl)
  have m6 : w3.cell? ⟨w2.heap.size + 1, 6, none⟩ = some (.int .i64 (L.stamps)) := cel_below hb (by rw [World.cell?_alloc_at _ _ _ _ (by simp)]; rfl)
  have m7 : w3.cell? ⟨w2.heap.size + 1, 7, none⟩ = some (.int .i64 (wrap64 (L.log + a2))) := cel_below hb (by rw [World.cell?_alloc_at _ _ _ _ (by simp)]; rfl)
  have m8 : w3.cell? ⟨w2.heap.size + 1, 8, none⟩ = some (.int .i64 (L.fin)) := cel_below hb (by rw [World.cell?_alloc_at _ _ _ _ (by simp)]; rfl)
  have m9 : w3.cell? ⟨w2.heap.size + 1, 9, none⟩ = some (.int .i64 (L.thread)) := cel_below hb (by rw [World.cell?_alloc_at _ _ _ _ (by simp)]; rfl)
  have m10 : w3.cell? ⟨w2.heap.size + 1, 10, none⟩ = some (.int .i64 (L.lock)) := cel_below hb (by rw [World.cell?_alloc_at _ _ _ _ (by simp)]; rfl)
  have m11 : w3.cell? ⟨w2.heap.size + 1, 11, none⟩ = some (.int .i64 (L.loc)) := cel_below hb (by rw [World.cell?_alloc_at _ _ _ _ (by simp)]; rfl)
  have m12 : w3.cell? ⟨w2.heap.size + 1, 12, none⟩ = some (.int .i64 (L.size)) := cel_below hb (by rw [World.cell?_alloc_at _ _ _ _ (by simp)]; rfl)
  have z1 : w2.heap.size + 1 < w3.heap.size := by omega
  clear hb zz
  go_wp2_with fail
  ((with_reducible refine (HF.out _).mono ?_); rintro e w4 ⟨rfl, hb⟩)
  replace HW := Lib.hid (below_step HW.out (hb))
  have zz : w3.heap.size + 0 ≤ w4.heap.size := by have := hb.size; (try simp at this); omega
  replace m0 : w4.cell? ⟨w2.heap.size + 1, 0, none⟩ = some (.int .i64 (L.c.t)) := cel_below hb (m0)
  replace m1 : w4.cell? ⟨w2.heap.size + 1, 1, none⟩ = some (.int .i64 (L.c.l)) := cel_below hb (m1)
  replace m2 : w4.cell? ⟨w2.heap.size + 1, 2, none⟩ = some (.int .i64 (L.c.k)) := cel_below hb (m2)
  replace m3 : w4.cell? ⟨w2.heap.size + 1, 3, none⟩ = some (.int .i64 (L.c.s)) := cel_below hb (m3)
  replace m4 : w4.cell? ⟨w2.heap.size + 1, 4, none⟩ = some (.int .i64 (L.c.m)) := cel_below hb (m4)
  replace m5 : w4.cell? ⟨w2.heap.size + 1, 5, none⟩ = some (.int .i64 (L.clock)) := cel_below hb (m5)
  replace m6 : w4.cell? ⟨w2.heap.size + 1, 6, none⟩ = some (.int .i64 (L.stamps)) := cel_below hb (m6)
  replace m7 : w4.cell? ⟨w2.heap.size + 1, 7, none⟩ = some (.int .i64 (wrap64 (L.log + a2))) := cel_below hb (m7)
  replace m8 : w4.cell? ⟨w2.heap.size + 1, 8, none⟩ = some (.int .i64 (L.fin)) := cel_below hb (m8)
  replace m9 : w4.cell? ⟨w2.heap.size + 1, 9, none⟩ = some (.int .i64 (L.thread)) := cel_below hb (m9)
  replace m10 : w4.cell? ⟨w2.heap.size + 1, 10, none⟩ = some (.int .i64 (L.lock)) := cel_below hb (m10)
  replace m11 : w4.cell? ⟨w2.heap.size + 1, 11, none⟩ = some (.int .i64 (L.loc)) := cel_below hb (m11)
  replace m12 : w4.cell? ⟨w2.heap.size + 1, 12, none⟩ = some (.int .i64 (L.size)) := cel_below hb (m12)
  replace z0 : w.heap.size < w4.heap.size := by omega
  replace z1 : w2.heap.size + 1 < w4.heap.size := by omega
  clear hb zz
  go_wp2
  go_ret
  exact ⟨rfl, HW.out⟩

set_option maxHeartbeats 4000000 in
set_option maxRecDepth 100000 in
theorem walk3 (w : World) (c : Cf) (a1 : Int) (u1 : 0 ≤ a1) (u2 : a1 ≤ 255) (a2 : Int) (hi : I64 a2) (hc : c.ok) (hy : a2 ≠ 0) (q : a1 % 8 = 3) : Calls Try.prog 8 #[c.v, .int .u8 a1, .int .i64 a2] w fun e w' => e = .returned (.bool true) ∧ Below w.heap.size w w' := by
  obtain ⟨L, hL⟩ : ∃ L, L = layOf c := ⟨_, rfl⟩
  have HO : Hid (∀ w, Calls Try.prog 26 #[c.v] w fun e w' => e = .returned (.tuple #[L.v, .int .i64 0]) ∧ Below w.heap.size w w') := Lib.hid (fun w => by rw [hL]; exact rof_t c w hc)
  have HT : Hid (∀ w, Calls Try.prog 27 #[L.v] w fun e w' => e = .returned (.bool true) ∧ Below w.heap.size w w') := Lib.hid (fun w => by have := right15_any L w; rwa [hL, right_t c hc, ← hL] at this)
  have HF : Hid (∀ w, Calls Try.prog 27 #[.agg #[.int .i64 (L.c.t), .int .i64 (L.c.l), .int .i64 (L.c.k), .int .i64 (L.c.s), .int .i64 (L.c.m), .int .i64 (L.clock), .int .i64 (L.stamps), .int .i64 (L.log), .int .i64 (wrap64 (L.fin + a2)), .int .i64 (L.thread), .int .i64 (L.lock), .int .i64 (L.loc), .int .i64 (L.size)]] w fun e w' => e = .returned (.bool false) ∧ Below w.heap.size w w') := Lib.hid (fun w => by
    have := right15_any ⟨L.c, L.clock, L.stamps, L.log, wrap64 (L.fin + a2), L.thread, L.lock, L.loc, L.size⟩ w
    rwa [right_f c _ (by show L.c = c; rw [hL]; rfl) (by
      intro h
      have h2 : wrap64 (L.fin + a2) = L.fin := by
        have := congrArg Ly.fin h
        rw [← hL] at this
        exact this
      exact wrap_ne _ _ hi hy h2)] at this)
  have hy' : (a2 == 0) = false := by simp [hy]
  clear hL hi hy hc
  unfold Ly.v at HO HT
  unfold Cf.v at HO ⊢
  go_enter Try.func8, Try.ntmps8
  go_wp2_with fail
  ((with_reducible refine (sane15_any _).mono ?_); rintro e w1 ⟨rfl, hb⟩)
  have HW := Lib.hid (below_alloc1 hb)
  have zz : w.heap.size + 1 ≤ w1.heap.size := by have := hb.size; (try simp at this); omega
  have p0 : w1.cell? ⟨w.heap.size, 0, none⟩ = some (.int .i64 c.t) := cel_below hb (by rw [World.cell?_alloc_at _ _ _ _ (by simp)]; rfl)
  have p1 : w1.cell? ⟨w.heap.size, 1, none⟩ = some (.int .i64 c.l) := cel_below hb (by rw [World.cell?_alloc_at _ _ _ _ (by simp)]; rfl)
  have p2 : w1.cell? ⟨w.heap.size, 2, none⟩ = some (.int .i64 c.k) := cel_below hb (by rw [World.cell?_alloc_at _ _ _ _ (by simp)]; rfl)
  have p3 : w1.cell? ⟨w.heap.size, 3, none⟩ = some (.int .i64 c.s) := cel_below hb (by rw [World.cell?_alloc_at _ _ _ _ (by simp)]; rfl)
  have p4 : w1.cell? ⟨w.heap.size, 4, none⟩ = some (.int .i64 c.m) := cel_below hb (by rw [World.cell?_alloc_at _ _ _ _ (by simp)]; rfl)
  have z0 : w.heap.size < w1.heap.size := by omega
  clear hb zz
  go_wp2_with fail
  ((with_reducible refine (HO.out _).mono ?_); rintro e w2 ⟨rfl, hb⟩)
  replace HW := Lib.hid (below_step HW.out (hb))
  have zz : w1.heap.size + 0 ≤ w2.heap.size := by have := hb.size; (try simp at this); omega
  replace z0 : w.heap.size < w2.heap.size := by omega
  clear hb zz
  go_wp2_with fail
  ((with_reducible refine (HT.out _).mono ?_); rintro e w3 ⟨rfl, hb⟩)
  replace HW := Lib.hid (below_step HW.out (below_alloc2 hb))
  have zz : w2.heap.size + 2 ≤ w3.heap.size := by have := hb.size; (try simp at this); omega
  replace z0 : w.heap.size < w3.heap.size := by omega
  have m0 : w3.cell? ⟨w2.heap.size + 1, 0, none⟩ = some (.int .i64 (L.c.t)) := cel_below hb (by rw [World.cell?_alloc_at _ _ _ _ (by simp)]; rfl)
  have m1 : w3.cell? ⟨w2.heap.size + 1, 1, none⟩ = some (.int .i64 (L.c.l)) := cel_below hb (by rw [World.cell?_alloc_at _ _ _ _ (by simp)]; rfl)
  have m2 : w3.cell? ⟨w2.heap.size + 1, 2, none⟩ = some (.int .i64 (L.c.k)) := cel_below hb (by rw [World.cell?_alloc_at _ _ _ _ (by simp)]; rfl)
  have m3 : w3.cell? ⟨w2.heap.size + 1, 3, none⟩ = some (.int .i64 (L.c.s)) := cel_below hb (by rw [World.cell?_alloc_at _ _ _ _ (by simp)]; rfl)
  have m4 : w3.cell? ⟨w2.heap.size + 1, 4, none⟩ = some (.int .i64 (L.c.m)) := cel_below hb (by rw [World.cell?_alloc_at _ _ _ _ (by simp)]; rfl)
  have m5 : w3.cell? ⟨w2.heap.size + 1, 5, none⟩ = some (.int .i64 (L.clock)) := cel_below hb (by rw [World.cell?_alloc_at _ _ _ _ (by simp)]; rfl)
  have m6 : w3.cell? ⟨w2.heap.size + 1, 6, none⟩ = some (.int .i64 (L.stamps)) := cel_below hb (by rw [World.cell?_alloc_at _ _ _ _ (by simp)]; rfl)
  have m7 : w3.cell? ⟨w2.heap.size + 1, 7, none⟩ = some (.int .i64 (L.log)) := cel_below hb (by rw [World.cell?_alloc_at _ _ _ _ (by simp)]; rfl)
  have m8 : w3.cell? ⟨w2.heap.size + 1, 8, none⟩ = some (.int .i64 (wrap64 (L.fin + a2))) := cel_below hb (by rw [World.cell?_alloc_at _ _ _ _ (by simp)]; rfl)
  have m9 : w3.cell? ⟨w2.heap.size + 1, 9, none⟩ = some (.int .i64 (L.thread)) := cel_below hb (by rw [World.cell?_alloc_at _ _ _ _ (by simp)]; rfl)
  have m10 : w3.cell? ⟨w2.heap.size + 1, 10, none⟩ = some (.int .i64 (L.lock)) := cel_below hb (by rw [World.cell?_alloc_at _ _ _ _ (by simp)]; rfl)
  have m11 : w3.cell? ⟨w2.heap.size + 1, 11, none⟩ = some (.int .i64 (L.loc)) := cel_below hb (by rw [World.cell?_alloc_at _ _ _ _ (by simp)]; rfl)
  have m12 : w3.cell? ⟨w2.heap.size + 1, 12, none⟩ = some (.int .i64 (L.size)) := cel_below hb (by rw [World.cell?_alloc_at _ _ _ _ (by simp)]; rfl)
  have z1 : w2.heap.size + 1 < w3.heap.size := by omega
  clear hb zz
  go_wp2_with fail
  ((with_reducible refine (HF.out _).mono ?_); rintro e w4 ⟨rfl, hb⟩)
  replace HW := Lib.hid (below_step HW.out (hb))
  have zz : w3.heap.size + 0 ≤ w4.heap.size := by have := hb.size; (try simp at this); omega
  replace m0 : w4.cell? ⟨w2.heap.size + 1, 0, none⟩ = some (.int .i64 (L.c.t)) := cel_below hb (m0)
  replace m1 : w4.cell? ⟨w2.heap.size + 1, 1, none⟩ = some (.int .i64 (L.c.l)) := cel_below hb (m1)
  replace m2 : w4.cell? ⟨w2.heap.size + 1, 2, none⟩ = some (.int .i64 (L.c.k)) := cel_below hb (m2)
  replace m3 : w4.cell? ⟨w2.heap.size + 1, 3, none⟩ = some (.int .i64 (L.c.s)) := cel_below hb (m3)
  replace m4 : w4.cell? ⟨w2.heap.size + 1, 4, none⟩ = some (.int .i64 (L.c.m)) := cel_below hb (m4)
  replace m5 : w4.cell? ⟨w2.heap.size + 1, 5, none⟩ = some (.int .i64 (L.clock)) := cel_below hb (m5)
  replace m6 : w4.cell? ⟨w2.heap.size + 1, 6, none⟩ = some (.int .i64 (L.stamps)) := cel_below hb (m6)
  replace m7 : w4.cell? ⟨w2.heap.size + 1, 7, none⟩ = some (.int .i64 (L.log)) := cel_below hb (m7)
  replace m8 : w4.cell? ⟨w2.heap.size + 1, 8, none⟩ = some (.int .i64 (wrap64 (L.fin + a2))) := cel_below hb (m8)
  replace m9 : w4.cell? ⟨w2.heap.size + 1, 9, none⟩ = some (.int .i64 (L.thread)) := cel_below hb (m9)
  replace m10 : w4.cell? ⟨w2.heap.size + 1, 10, none⟩ = some (.int .i64 (L.lock)) := cel_below hb (m10)
  replace m11 : w4.cell? ⟨w2.heap.size + 1, 11, none⟩ = some (.int .i64 (L.loc)) := cel_below hb (m11)
  replace m12 : w4.cell? ⟨w2.heap.size + 1, 12, none⟩ = some (.int .i64 (L.size)) := cel_below hb (m12)
  replace z0 : w.heap.size < w4.heap.size := by omega
  replace z1 : w2.heap.size + 1 < w4.heap.size := by omega
  clear hb zz
  go_wp2
  go_ret
  exact ⟨rfl, HW.out⟩

set_option maxHeartbeats 4000000 in
set_option maxRecDepth 100000 in
theorem walk4 (w : World) (c : Cf) (a1 : Int) (u1 : 0 ≤ a1) (u2 : a1 ≤ 255) (a2 : Int) (hi : I64 a2) (hc : c.ok) (hy : a2 ≠ 0) (q : a1 % 8 = 4) : Calls Try.prog 8 #[c.v, .int .u8 a1, .int .i64 a2] w fun e w' => e = .returned (.bool true) ∧ Below w.heap.size w w' := by
  obtain ⟨L, hL⟩ : ∃ L, L = layOf c := ⟨_, rfl⟩
  have HO : Hid (∀ w, Calls Try.prog 26 #[c.v] w fun e w' => e = .returned (.tuple #[L.v, .int .i64 0]) ∧ Below w.heap.size w w') := Lib.hid (fun w => by rw [hL]; exact rof_t c w hc)
  have HT : Hid (∀ w, Calls Try.prog 27 #[L.v] w fun e w' => e = .returned (.bool true) ∧ Below w.heap.size w w') := Lib.hid (fun w => by have := right15_any L w; rwa [hL, right_t c hc, ← hL] at this)
  have HF : Hid (∀ w, Calls Try.prog 27 #[.agg #[.int .i64 (L.c.t), .int .i64 (L.c.l), .int .i64 (L.c.k), .int .i64 (L.c.s), .int .i64 (L.c.m), .int .i64 (L.clock), .int .i64 (L.stamps), .int .i64 (L.log), .int .i64 (L.fin), .int .i64 (wrap64 (L.thread + a2)), .int .i64 (L.lock), .int .i64 (L.loc), .int .i64 (L.size)]] w fun e w' => e = .returned (.bool false) ∧ Below w.heap.size w w') := Lib.hid (fun w => by
    have := right15_any ⟨L.c, L.clock, L.stamps, L.log, L.fin, wrap64 (L.thread + a2), L.lock, L.loc, L.size⟩ w
    rwa [right_f c _ (by show L.c = c; rw [hL]; rfl) (by
      intro h
      have h2 : wrap64 (L.thread + a2) = L.thread := by
        have := congrArg Ly.thread h
        rw [← hL] at this
        exact this
      exact wrap_ne _ _ hi hy h2)] at this)
  have hy' : (a2 == 0) = false := by simp [hy]
  clear hL hi hy hc
  unfold Ly.v at HO HT
  unfold Cf.v at HO ⊢
  go_enter Try.func8, Try.ntmps8
  go_wp2_with fail
  ((with_reducible refine (sane15_any _).mono ?_); rintro e w1 ⟨rfl, hb⟩)
  have HW := Lib.hid (below_alloc1 hb)
  have zz : w.heap.size + 1 ≤ w1.heap.size := by have := hb.size; (try simp at this); omega
  have p0 : w1.cell? ⟨w.heap.size, 0, none⟩ = some (.int .i64 c.t) := cel_below hb (by rw [World.cell?_alloc_at _ _ _ _ (by simp)]; rfl)
  have p1 : w1.cell? ⟨w.heap.size, 1, none⟩ = some (.int .i64 c.l) := cel_below hb (by rw [World.cell?_alloc_at _ _ _ _ (by simp)]; rfl)
  have p2 : w1.cell? ⟨w.heap.size, 2, none⟩ = some (.int .i64 c.k) := cel_below hb (by rw [World.cell?_alloc_at _ _ _ _ (by simp)]; rfl)
  have p3 : w1.cell? ⟨w.heap.size, 3, none⟩ = some (.int .i64 c.s) := cel_below hb (by rw [World.cell?_alloc_at _ _ _ _ (by simp)]; rfl)
  have p4 : w1.cell? ⟨w.heap.size, 4, none⟩ = some (.int .i64 c.m) := cel_below hb (by rw [World.cell?_alloc_at _ _ _ _ (by simp)]; rfl)
  have z0 : w.heap.size < w1.heap.size := by omega
  clear hb zz
  go_wp2_with fail
  ((with_reducible refine (HO.out _).mono ?_); rintro e w2 ⟨rfl, hb⟩)
  replace HW := Lib.hid (below_step HW.out (hb))
  have zz : w1.heap.size + 0 ≤ w2.heap.size := by have := hb.size; (try simp at this); omega
  replace z0 : w.heap.size < w2.heap.size := by omega
  clear hb zz
  go_wp2_with fail
  ((with_reducible refine (HT.out _).mono ?_); rintro e w3 ⟨rfl, hb⟩)
  replace HW := Lib.hid (below_step HW.out (below_alloc2 hb))
  have zz : w2.heap.size + 2 ≤ w3.heap.size := by have := hb.size; (try simp at this); omega
  replace z0 : w.heap.size < w3.heap.size := by omega
  have m0 : w3.cell? ⟨w2.heap.size + 1, 0, none⟩ = some (.int .i64 (L.c.t)) := cel_below hb (by rw [World.cell?_alloc_at _ _ _ _ (by simp)]; rfl)
  have m1 : w3.cell? ⟨w2.heap.size + 1, 1, none⟩ = some (.int .i64 (L.c.l)) := cel_below hb (by rw [World.cell?_alloc_at _ _ _ _ (by simp)]; rfl)
  have m2 : w3.cell? ⟨w2.heap.size + 1, 2, none⟩ = some (.int .i64 (L.c.k)) := cel_below hb (by rw [World.cell?_alloc_at _ _ _ _ (by simp)]; rfl)
  have m3 : w3.cell? ⟨w2.heap.size + 1, 3, none⟩ = some (.int .i64 (L.c.s)) := cel_below hb (by rw [World.cell?_alloc_at _ _ _ _ (by simp)]; rfl)
  have m4 : w3.cell? ⟨w2.heap.size + 1, 4, none⟩ = some (.int .i64 (L.c.m)) := cel_below hb (by rw [World.cell?_alloc_at _ _ _ _ (by simp)]; rfl)
  have m5 : w3.cell? ⟨w2.heap.size + 1, 5, none⟩ = some (.int .i64 (L.clock)) := cel_below hb (by rw [World.cell?_alloc_at _ _ _ _ (by simp)]; rfl)
  have m6 : w3.cell? ⟨w2.heap.size + 1, 6, none⟩ = some (.int .i64 (L.stamps)) := cel_below hb (by rw [World.cell?_alloc_at _ _ _ _ (by simp)]; rfl)
  have m7 : w3.cell? ⟨w2.heap.size + 1, 7, none⟩ = some (.int .i64 (L.log)) := cel_below hb (by rw [World.cell?_alloc_at _ _ _ _ (by simp)]; rfl)
  have m8 : w3.cell? ⟨w2.heap.size + 1, 8, none⟩ = some (.int .i64 (L.fin)) := cel_below hb (by rw [World.cell?_alloc_at _ _ _ _ (by simp)]; rfl)
  have m9 : w3.cell? ⟨w2.heap.size + 1, 9, none⟩ = some (.int .i64 (wrap64 (L.thread + a2))) := cel_below hb (by rw [World.cell?_alloc_at _ _ _ _ (by simp)]; rfl)
  have m10 : w3.cell? ⟨w2.heap.size + 1, 10, none⟩ = some (.int .i64 (L.lock)) := cel_below hb (by rw [World.cell?_alloc_at _ _ _ _ (by simp)]; rfl)
  have m11 : w3.cell? ⟨w2.heap.size + 1, 11, none⟩ = some (.int .i64 (L.loc)) := cel_below hb (by rw [World.cell?_alloc_at _ _ _ _ (by simp)]; rfl)
  have m12 : w3.cell? ⟨w2.heap.size + 1, 12, none⟩ = some (.int .i64 (L.size)) := cel_below hb (by rw [World.cell?_alloc_at _ _ _ _ (by simp)]; rfl)
  have z1 : w2.heap.size + 1 < w3.heap.size := by omega
  clear hb zz
  go_wp2_with fail
  ((with_reducible refine (HF.out _).mono ?_); rintro e w4 ⟨rfl, hb⟩)
  replace HW := Lib.hid (below_step HW.out (hb))
  have zz : w3.heap.size + 0 ≤ w4.heap.size := by have := hb.size; (try simp at this); omega
  replace m0 : w4.cell? ⟨w2.heap.size + 1, 0, none⟩ = some (.int .i64 (L.c.t)) := cel_below hb (m0)
  replace m1 : w4.cell? ⟨w2.heap.size + 1, 1, none⟩ = some (.int .i64 (L.c.l)) := cel_below hb (m1)
  replace m2 : w4.cell? ⟨w2.heap.size + 1, 2, none⟩ = some (.int .i64 (L.c.k)) := cel_below hb (m2)
  replace m3 : w4.cell? ⟨w2.heap.size + 1, 3, none⟩ = some (.int .i64 (L.c.s)) := cel_below hb (m3)
  replace m4 : w4.cell? ⟨w2.heap.size + 1, 4, none⟩ = some (.int .i64 (L.c.m)) := cel_below hb (m4)
  replace m5 : w4.cell? ⟨w2.heap.size + 1, 5, none⟩ = some (.int .i64 (L.clock)) := cel_below hb (m5)
  replace m6 : w4.cell? ⟨w2.heap.size + 1, 6, none⟩ = some (.int .i64 (L.stamps)) := cel_below hb (m6)
  replace m7 : w4.cell? ⟨w2.heap.size + 1, 7, none⟩ = some (.int .i64 (L.log)) := cel_below hb (m7)
  replace m8 : w4.cell? ⟨w2.heap.size + 1, 8, none⟩ = some (.int .i64 (L.fin)) := cel_below hb (m8)
  replace m9 : w4.cell? ⟨w2.heap.size + 1, 9, none⟩ = some (.int .i64 (wrap64 (L.thread + a2))) := cel_below hb (m9)
  replace m10 : w4.cell? ⟨w2.heap.size + 1, 10, none⟩ = some (.int .i64 (L.lock)) := cel_below hb (m10)
  replace m11 : w4.cell? ⟨w2.heap.size + 1, 11, none⟩ = some (.int .i64 (L.loc)) := cel_below hb (m11)
  replace m12 : w4.cell? ⟨w2.heap.size + 1, 12, none⟩ = some (.int .i64 (L.size)) := cel_below hb (m12)
  replace z0 : w.heap.size < w4.heap.size := by omega
  replace z1 : w2.heap.size + 1 < w4.heap.size := by omega
  clear hb zz
  go_wp2
  go_ret
  exact ⟨rfl, HW.out⟩

set_option maxHeartbeats 4000000 in
set_option maxRecDepth 100000 in
theorem walk5 (w : World) (c : Cf) (a1 : Int) (u1 : 0 ≤ a1) (u2 : a1 ≤ 255) (a2 : Int) (hi : I64 a2) (hc : c.ok) (hy : a2 ≠ 0) (q : a1 % 8 = 5) : Calls Try.prog 8 #[c.v, .int .u8 a1, .int .i64 a2] w fun e w' => e = .returned (.bool true) ∧ Below w.heap.size w w' := by
  obtain ⟨L, hL⟩ : ∃ L, L = layOf c := ⟨_, rfl⟩
  have HO : Hid (∀ w, Calls Try.prog 26 #[c.v] w fun e w' => e = .returned (.tuple #[L.v, .int .i64 0]) ∧ Below w.heap.size w w') := Lib.hid (fun w => by rw [hL]; exact rof_t c w hc)
  have HT : Hid (∀ w, Calls Try.prog 27 #[L.v] w fun e w' => e = .returned (.bool true) ∧ Below w.heap.size w w') := Lib.hid (fun w => by have := right15_any L w; rwa [hL, right_t c hc, ← hL] at this)
  have HF : Hid (∀ w, Calls Try.prog 27 #[.agg #[.int .i64 (L.c.t), .int .i64 (L.c.l), .int .i64 (L.c.k), .int .i64 (L.c.s), .int .i64 (L.c.m), .int .i64 (L.clock), .int .i64 (L.stamps), .int .i64 (L.log), .int .i64 (L.fin), .int .i64 (L.thread), .int .i64 (wrap64 (L.lock + a2)), .int .i64 (L.loc), .int .i64 (L.size)]] w fun e w' => e = .returned (.bool false) ∧ Below w.heap.size w w') := Lib.hid (fun w => by
    have := right15_any ⟨L.c, L.clock, L.stamps, L.log, L.fin, L.thread, wrap64 (L.lock + a2), L.loc, L.size⟩ w
    rwa [right_f c _ (by show L.c = c; rw [hL]; rfl) (by
      intro h
      have h2 : wrap64 (L.lock + a2) = L.lock := by
        have := congrArg Ly.lock h
        rw [← hL] at this
        exact this
      exact wrap_ne _ _ hi hy h2)] at this)
  have hy' : (a2 == 0) = false := by simp [hy]
  clear hL hi hy hc
  unfold Ly.v at HO HT
  unfold Cf.v at HO ⊢
  go_enter Try.func8, Try.ntmps8
  go_wp2_with fail
  ((with_reducible refine (sane15_any _).mono ?_); rintro e w1 ⟨rfl, hb⟩)
  have HW := Lib.hid (below_alloc1 hb)
  have zz : w.heap.size + 1 ≤ w1.heap.size := by have := hb.size; (try simp at this); omega
  have p0 : w1.cell? ⟨w.heap.size, 0, none⟩ = some (.int .i64 c.t) := cel_below hb (by rw [World.cell?_alloc_at _ _ _ _ (by simp)]; rfl)
  have p1 : w1.cell? ⟨w.heap.size, 1, none⟩ = some (.int .i64 c.l) := cel_below hb (by rw [World.cell?_alloc_at _ _ _ _ (by simp)]; rfl)
  have p2 : w1.cell? ⟨w.heap.size, 2, none⟩ = some (.int .i64 c.k) := cel_below hb (by rw [World.cell?_alloc_at _ _ _ _ (by simp)]; rfl)
  have p3 : w1.cell? ⟨w.heap.size, 3, none⟩ = some (.int .i64 c.s) := cel_below hb (by rw [World.cell?_alloc_at _ _ _ _ (by simp)]; rfl)
  have p4 : w1.cell? ⟨w.heap.size, 4, none⟩ = some (.int .i64 c.m) := cel_below hb (by rw [World.cell?_alloc_at _ _ _ _ (by simp)]; rfl)
  have z0 : w.heap.size < w1.heap.size := by omega
  clear hb zz
  go_wp2_with fail
  ((with_reducible refine (HO.out _).mono ?_); rintro e w2 ⟨rfl, hb⟩)
  replace HW := Lib.hid (below_step HW.out (hb))
  have zz : w1.heap.size + 0 ≤ w2.heap.size := by have := hb.size; (try simp at this); omega
  replace z0 : w.heap.size < w2.heap.size := by omega
  clear hb zz
  go_wp2_with fail
  ((with_reducible refine (HT.out _).mono ?_); rintro e w3 ⟨rfl, hb⟩)
  replace HW := Lib.hid (below_step HW.out (below_alloc2 hb))
  have zz : w2.heap.size + 2 ≤ w3.heap.size := by have := hb.size; (try simp at this); omega
  replace z0 : w.heap.size < w3.heap.size := by omega
  have m0 : w3.cell? ⟨w2.heap.size + 1, 0, none⟩ = some (.int .i64 (L.c.t)) := cel_below hb (by rw [World.cell?_alloc_at _ _ _ _ (by simp)]; rfl)
  have m1 : w3.cell? ⟨w2.heap.size + 1, 1, none⟩ = some (.int .i64 (L.c.l)) := cel_below hb (by rw [World.cell?_alloc_at _ _ _ _ (by simp)]; rfl)
  have m2 : w3.cell? ⟨w2.heap.size + 1, 2, none⟩ = some (.int .i64 (L.c.k)) := cel_below hb (by rw [World.cell?_alloc_at _ _ _ _ (by simp)]; rfl)
  have m3 : w3.cell? ⟨w2.heap.size + 1, 3, none⟩ = some (.int .i64 (L.c.s)) := cel_below hb (by rw [World.cell?_alloc_at _ _ _ _ (by simp)]; rfl)
  have m4 : w3.cell? ⟨w2.heap.size + 1, 4, none⟩ = some (.int .i64 (L.c.m)) := cel_below hb (by rw [World.cell?_alloc_at _ _ _ _ (by simp)]; rfl)
  have m5 : w3.cell? ⟨w2.heap.size + 1, 5, none⟩ = some (.int .i64 (L.clock)) := cel_below hb (by rw [World.cell?_alloc_at _ _ _ _ (by simp)]; rfl)
  have m6 : w3.cell? ⟨w2.heap.size + 1, 6, none⟩ = some (.int .i64 (L.stamps)) := cel_below hb (by rw [World.cell?_alloc_at _ _ _ _ (by simp)]; rfl)
  have m7 : w3.cell? ⟨w2.heap.size + 1, 7, none⟩ = some (.int .i64 (L.log)) := cel_below hb (by rw [World.cell?_alloc_at _ _ _ _ (by simp)]; rfl)
  have m8 : w3.cell? ⟨w2.heap.size + 1, 8, none⟩ = some (.int .i64 (L.fin)) := cel_below hb (by rw [World.cell?_alloc_at _ _ _ _ (by simp)]; rfl)
  have m9 : w3.cell? ⟨w2.heap.size + 1, 9, none⟩ = some (.int .i64 (L.thread)) := cel_below hb (by rw [World.cell?_alloc_at _ _ _ _ (by simp)]; rfl)
  have m10 : w3.cell? ⟨w2.heap.size + 1, 10, none⟩ = some (.int .i64 (wrap64 (L.lock + a2))) := cel_below hb (by rw [World.cell?_alloc_at _ _ _ _ (by simp)]; rfl)
  have m11 : w3.cell? ⟨w2.heap.size + 1, 11, none⟩ = some (.int .i64 (L.loc)) := cel_below hb (by rw [World.cell?_alloc_at _ _ _ _ (by simp)]; rfl)
  have m12 : w3.cell? ⟨w2.heap.size + 1, 12, none⟩ = some (.int .i64 (L.size)) := cel_below hb (by rw [World.cell?_alloc_at _ _ _ _ (by simp)]; rfl)
  have z1 : w2.heap.size + 1 < w3.heap.size := by omega
  clear hb zz
  go_wp2_with fail
  ((with_reducible refine (HF.out _).mono ?_); rintro e w4 ⟨rfl, hb⟩)
  replace HW := Lib.hid (below_step HW.out (hb))
  have zz : w3.heap.size + 0 ≤ w4.heap.size := by have := hb.size; (try simp at this); omega
  replace m0 : w4.cell? ⟨w2.heap.size + 1, 0, none⟩ = some (.int .i64 (L.c.t)) := cel_below hb (m0)
  replace m1 : w4.cell? ⟨w2.heap.size + 1, 1, none⟩ = some (.int .i64 (L.c.l)) := cel_below hb (m1)
  replace m2 : w4.cell? ⟨w2.heap.size + 1, 2, none⟩ = some (.int .i64 (L.c.k)) := cel_below hb (m2)
  replace m3 : w4.cell? ⟨w2.heap.size + 1, 3, none⟩ = some (.int .i64 (L.c.s)) := cel_below hb (m3)
  replace m4 : w4.cell? ⟨w2.heap.size + 1, 4, none⟩ = some (.int .i64 (L.c.m)) := cel_below hb (m4)
  replace m5 : w4.cell? ⟨w2.heap.size + 1, 5, none⟩ = some (.int .i64 (L.clock)) := cel_below hb (m5)
  replace m6 : w4.cell? ⟨w2.heap.size + 1, 6, none⟩ = some (.int .i64 (L.stamps)) := cel_below hb (m6)
  replace m7 : w4.cell? ⟨w2.heap.size + 1, 7, none⟩ = some (.int .i64 (L.log)) := cel_below hb (m7)
  replace m8 : w4.cell? ⟨w2.heap.size + 1, 8, none⟩ = some (.int .i64 (L.fin)) := cel_below hb (m8)
  replace m9 : w4.cell? ⟨w2.heap.size + 1, 9, none⟩ = some (.int .i64 (L.thread)) := cel_below hb (m9)
  replace m10 : w4.cell? ⟨w2.heap.size + 1, 10, none⟩ = some (.int .i64 (wrap64 (L.lock + a2))) := cel_below hb (m10)
  replace m11 : w4.cell? ⟨w2.heap.size + 1, 11, none⟩ = some (.int .i64 (L.loc)) := cel_below hb (m11)
  replace m12 : w4.cell? ⟨w2.heap.size + 1, 12, none⟩ = some (.int .i64 (L.size)) := cel_below hb (m12)
  replace z0 : w.heap.size < w4.heap.size := by omega
  replace z1 : w2.heap.size + 1 < w4.heap.size := by omega
  clear hb zz
  go_wp2
  go_ret
  exact ⟨rfl, HW.out⟩

set_option maxHeartbeats 4000000 in
set_option maxRecDepth 100000 in
theorem walk6 (w : World) (c : Cf) (a1 : Int) (u1 : 0 ≤ a1) (u2 : a1 ≤ 255) (a2 : Int) (hi : I64 a2) (hc : c.ok) (hy : a2 ≠ 0) (q : a1 % 8 = 6) : Calls Try.prog 8 #[c.v, .int .u8 a1, .int .i64 a2] w fun e w' => e = .returned (.bool true) ∧ Below w.heap.size w w' := by
  obtain ⟨L, hL⟩ : ∃ L, L = layOf c := ⟨_, rfl⟩
  have HO : Hid (∀ w, Calls Try.prog 26 #[c.v] w fun e w' => e = .returned (.tuple #[L.v, .int .i64 0]) ∧ Below w.heap.size w w') := Lib.hid (fun w => by rw [hL]; exact rof_t c w hc)
  have HT : Hid (∀ w, Calls Try.prog 27 #[L.v] w fun e w' => e = .returned (.bool true) ∧ Below w.heap.size w w') := Lib.hid (fun w => by have := right15_any L w; rwa [hL, right_t c hc, ← hL] at this)
  have HF : Hid (∀ w, Calls Try.prog 27 #[.agg #[.int .i64 (L.c.t), .int .i64 (L.c.l), .int .i64 (L.c.k), .int .i64 (L.c.s), .int .i64 (L.c.m), .int .i64 (L.clock), .int .i64 (L.stamps), .int .i64 (L.log), .int .i64 (L.fin), .int .i64 (L.thread), .int .i64 (L.lock), .int .i64 (wrap64 (L.loc + a2)), .int .i64 (L.size)]] w fun e w' => e = .returned (.bool false) ∧ Below w.heap.size w w') := Lib.hid (fun w => by
    have := right15_any ⟨L.c, L.clock, L.stamps, L.log, L.fin, L.thread, L.lock, wrap64 (L.loc + a2), L.size⟩ w
    rwa [right_f c _ (by show L.c = c; rw [hL]; rfl) (by
      intro h
      have h2 : wrap64 (L.loc + a2) = L.loc := by
        have := congrArg Ly.loc h
        rw [← hL] at this
        exact this
      exact wrap_ne _ _ hi hy h2)] at this)
  have hy' : (a2 == 0) = false := by simp [hy]
  clear hL hi hy hc
  unfold Ly.v at HO HT
  unfold Cf.v at HO ⊢
  go_enter Try.func8, Try.ntmps8
  go_wp2_with fail
  ((with_reducible refine (sane15_any _).mono ?_); rintro e w1 ⟨rfl, hb⟩)
  have HW := Lib.hid (below_alloc1 hb)
  have zz : w.heap.size + 1 ≤ w1.heap.size := by have := hb.size; (try simp at this); omega
  have p0 : w1.cell? ⟨w.heap.size, 0, none⟩ = some (.int .i64 c.t) := cel_below hb (by rw [World.cell?_alloc_at _ _ _ _ (by simp)]; rfl)
  have p1 : w1.cell? ⟨w.heap.size, 1, none⟩ = some (.int .i64 c.l) := cel_below hb (by rw [World.cell?_alloc_at _ _ _ _ (by simp)]; rfl)
  have p2 : w1.cell? ⟨w.heap.size, 2, none⟩ = some (.int .i64 c.k) := cel_below hb (by rw [World.cell?_alloc_at _ _ _ _ (by simp)]; rfl)
  have p3 : w1.cell? ⟨w.heap.size, 3, none⟩ = some (.int .i64 c.s) := cel_below hb (by rw [World.cell?_alloc_at _ _ _ _ (by simp)]; rfl)
  have p4 : w1.cell? ⟨w.heap.size, 4, none⟩ = some (.int .i64 c.m) := cel_below hb (by rw [World.cell?_alloc_at _ _ _ _ (by simp)]; rfl)
  have z0 : w.heap.size < w1.heap.size := by omega
  clear hb zz
  go_wp2_with fail
  ((with_reducible refine (HO.out _).mono ?_); rintro e w2 ⟨rfl, hb⟩)
  replace HW := Lib.hid (below_step HW.out (hb))
  have zz : w1.heap.size + 0 ≤ w2.heap.size := by have := hb.size; (try simp at this); omega
  replace z0 : w.heap.size < w2.heap.size := by omega
  clear hb zz
  go_wp2_with fail
  ((with_reducible refine (HT.out _).mono ?_); rintro e w3 ⟨rfl, hb⟩)
  replace HW := Lib.hid (below_step HW.out (below_alloc2 hb))
  have zz : w2.heap.size + 2 ≤ w3.heap.size := by have := hb.size; (try simp at this); omega
  replace z0 : w.heap.size < w3.heap.size := by omega
  have m0 : w3.cell? ⟨w2.heap.size + 1, 0, none⟩ = some (.int .i64 (L.c.t)) := cel_below hb (by rw [World.cell?_alloc_at _ _ _ _ (by simp)]; rfl)
  have m1 : w3.cell? ⟨w2.heap.size + 1, 1, none⟩ = some (.int .i64 (L.c.l)) := cel_below hb (by rw [World.cell?_alloc_at _ _ _ _ (by simp)]; rfl)
  have m2 : w3.cell? ⟨w2.heap.size + 1, 2, none⟩ = some (.int .i64 (L.c.k)) := cel_below hb (by rw [World.cell?_alloc_at _ _ _ _ (by simp)]; rfl)
  have m3 : w3.cell? ⟨w2.heap.size + 1, 3, none⟩ = some (.int .i64 (L.c.s)) := cel_below hb (by rw [World.cell?_alloc_at _ _ _ _ (by simp)]; rfl)
  have m4 : w3.cell? ⟨w2.heap.size + 1, 4, none⟩ = some (.int .i64 (L.c.m)) := cel_below hb (by rw [World.cell?_alloc_at _ _ _ _ (by simp)]; rfl)
  have m5 : w3.cell? ⟨w2.heap.size + 1, 5, none⟩ = some (.int .i64 (L.clock)) := cel_below hb (by rw [World.cell?_alloc_at _ _ _ _ (by simp)]; rfl)
  have m6 : w3.cell? ⟨w2.heap.size + 1, 6, none⟩ = some (.int .i64 (L.stamps)) := cel_below hb (by rw [World.cell?_alloc_at _ _ _ _ (by simp)]; rfl)
  have m7 : w3.cell? ⟨w2.heap.size + 1, 7, none⟩ = some (.int .i64 (L.log)) := cel_below hb (by rw [World.cell?_alloc_at _ _ _ _ (by simp)]; rfl)
  have m8 : w3.cell? ⟨w2.heap.size + 1, 8, none⟩ = some (.int .i64 (L.fin)) := cel_below hb (by rw [World.cell?_alloc_at _ _ _ _ (by simp)]; rfl)
  have m9 : w3.cell? ⟨w2.heap.size + 1, 9, none⟩ = some (.int .i64 (L.thread)) := cel_below hb (by rw [World.cell?_alloc_at _ _ _ _ (by simp)]; rfl)
  have m10 : w3.cell? ⟨w2.heap.size + 1, 10, none⟩ = some (.int .i64 (L.lock)) := cel_below hb (by rw [World.cell?_alloc_at _ _ _ _ (by simp)]; rfl)
  have m11 : w3.cell? ⟨w2.heap.size + 1, 11, none⟩ = some (.int .i64 (wrap64 (L.loc + a2))) := cel_below hb (by rw [World.cell?_alloc_at _ _ _ _ (by simp)]; rfl)
  have m12 : w3.cell? ⟨w2.heap.size + 1, 12, none⟩ = some (.int .i64 (L.size)) := cel_below hb (by rw [World.cell?_alloc_at _ _ _ _ (by simp)]; rfl)
  have z1 : w2.heap.size + 1 < w3.heap.size := by omega
  clear hb zz
  go_wp2_with fail
  ((with_reducible refine (HF.out _).mono ?_); rintro e w4 ⟨rfl, hb⟩)
  replace HW := Lib.hid (below_step HW.out (hb))
  have zz : w3.heap.size + 0 ≤ w4.heap.size := by have := hb.size; (try simp at this); omega
  replace m0 : w4.cell? ⟨w2.heap.size + 1, 0, none⟩ = some (.int .i64 (L.c.t)) := cel_below hb (m0)
  replace m1 : w4.cell? ⟨w2.heap.size + 1, 1, none⟩ = some (.int .i64 (L.c.l)) := cel_below hb (m1)
  replace m2 : w4.cell? ⟨w2.heap.size + 1, 2, none⟩ = some (.int .i64 (L.c.k)) := cel_below hb (m2)
  replace m3 : w4.cell? ⟨w2.heap.size + 1, 3, none⟩ = some (.int .i64 (L.c.s)) := cel_below hb (m3)
  replace m4 : w4.cell? ⟨w2.heap.size + 1, 4, none⟩ = some (.int .i64 (L.c.m)) := cel_below hb (m4)
  replace m5 : w4.cell? ⟨w2.heap.size + 1, 5, none⟩ = some (.int .i64 (L.clock)) := cel_below hb (m5)
  replace m6 : w4.cell? ⟨w2.heap.size + 1, 6, none⟩ = some (.int .i64 (L.stamps)) := cel_below hb (m6)
  replace m7 : w4.cell? ⟨w2.heap.size + 1, 7, none⟩ = some (.int .i64 (L.log)) := cel_below hb (m7)
  replace m8 : w4.cell? ⟨w2.heap.size + 1, 8, none⟩ = some (.int .i64 (L.fin)) := cel_below hb (m8)
  replace m9 : w4.cell? ⟨w2.heap.size + 1, 9, none⟩ = some (.int .i64 (L.thread)) := cel_below hb (m9)
  replace m10 : w4.cell? ⟨w2.heap.size + 1, 10, none⟩ = some (.int .i64 (L.lock)) := cel_below hb (m10)
  replace m11 : w4.cell? ⟨w2.heap.size + 1, 11, none⟩ = some (.int .i64 (wrap64 (L.loc + a2))) := cel_below hb (m11)
  replace m12 : w4.cell? ⟨w2.heap.size + 1, 12, none⟩ = some (.int .i64 (L.size)) := cel_below hb (m12)
  replace z0 : w.heap.size < w4.heap.size := by omega
  replace z1 : w2.heap.size + 1 < w4.heap.size := by omega
  clear hb zz
  go_wp2
  go_ret
  exact ⟨rfl, HW.out⟩

set_option maxHeartbeats 4000000 in
set_option maxRecDepth 100000 in
theorem walk7 (w : World) (c : Cf) (a1 : Int) (u1 : 0 ≤ a1) (u2 : a1 ≤ 255) (a2 : Int) (hi : I64 a2) (hc : c.ok) (hy : a2 ≠ 0) (q : a1 % 8 = 7) : Calls Try.prog 8 #[c.v, .int .u8 a1, .int .i64 a2] w fun e w' => e = .returned (.bool true) ∧ Below w.heap.size w w' := by
  obtain ⟨L, hL⟩ : ∃ L, L = layOf c := ⟨_, rfl⟩
  have HO : Hid (∀ w, Calls Try.prog 26 #[c.v] w fun e w' => e = .returned (.tuple #[L.v, .int .i64 0]) ∧ Below w.heap.size w w') := Lib.hid (fun w => by rw [hL]; exact rof_t c w hc)
  have HT : Hid (∀ w, Calls Try.prog 27 #[L.v] w fun e w' => e = .returned (.bool true) ∧ Below w.heap.size w w') := Lib.hid (fun w => by have := right15_any L w; rwa [hL, right_t c hc, ← hL] at this)
  have HF : Hid (∀ w, Calls Try.prog 27 #[.agg #[.int .i64 (L.c.t), .int .i64 (L.c.l), .int .i64 (L.c.k), .int .i64 (L.c.s), .int .i64 (L.c.m), .int .i64 (L.clock), .int .i64 (L.stamps), .int .i64 (L.log), .int .i64 (L.fin), .int .i64 (L.thread), .int .i64 (L.lock), .int .i64 (L.loc), .int .i64 (wrap64 (L.size + a2))]] w fun e w' => e = .returned (.bool false) ∧ Below w.heap.size w w') := Lib.hid (fun w => by
    have := right15_any ⟨L.c, L.clock, L.stamps, L.log, L.fin, L.thread, L.lock, L.loc, wrap64 (L.size + a2)⟩ w
    rwa [right_f c _ (by show L.c = c; rw [hL]; rfl) (by
      intro h
      have h2 : wrap64 (L.size + a2) = L.size := by
        have := congrArg Ly.size h
        rw [← hL] at this
        exact this
      exact wrap_ne _ _ hi hy h2)] at this)
  have hy' : (a2 == 0) = false := by simp [hy]
  clear hL hi hy hc
  unfold Ly.v at HO HT
  unfold Cf.v at HO ⊢
  go_enter Try.func8, Try.ntmps8
  go_wp2_with fail
  ((with_reducible refine (sane15_any _).mono ?_); rintro e w1 ⟨rfl, hb⟩)
  have HW := Lib.hid (below_alloc1 hb)
  have zz : w.heap.size + 1 ≤ w1.heap.size := by have := hb.size; (try simp at this); omega
  have p0 : w1.cell? ⟨w.heap.size, 0, none⟩ = some (.int .i64 c.t) := cel_below hb (by rw [World.cell?_alloc_at _ _ _ _ (by simp)]; rfl)
  have p1 : w1.cell? ⟨w.heap.size, 1, none⟩ = some (.int .i64 c.l) := cel_below hb (by rw [World.cell?_alloc_at _ _ _ _ (by simp)]; rfl)
  have p2 : w1.cell? ⟨w.heap.size, 2, none⟩ = some (.int .i64 c.k) := cel_below hb (by rw [World.cell?_alloc_at _ _ _ _ (by simp)]; rfl)
  have p3 : w1.cell? ⟨w.heap.size, 3, none⟩ = some (.int .i64 c.s) := cel_below hb (by rw [World.cell?_alloc_at _ _ _ _ (by simp)]; rfl)
  have p4 : w1.cell? ⟨w.heap.size, 4, none⟩ = some (.int .i64 c.m) := cel_below hb (by rw [World.cell?_alloc_at _ _ _ _ (by simp)]; rfl)
  have z0 : w.heap.size < w1.heap.size := by omega
  clear hb zz
  go_wp2_with fail
  ((with_reducible refine (HO.out _).mono ?_); rintro e w2 ⟨rfl, hb⟩)
  replace HW := Lib.hid (below_step HW.out (hb))
  have zz : w1.heap.size + 0 ≤ w2.heap.size := by have := hb.size; (try simp at this); omega
  replace z0 : w.heap.size < w2.heap.size := by omega
  clear hb zz
  go_wp2_with fail
  ((with_reducible refine (HT.out _).mono ?_); rintro e w3 ⟨rfl, hb⟩)
  replace HW := Lib.hid (below_step HW.out (below_alloc2 hb))
  have zz : w2.heap.size + 2 ≤ w3.heap.size := by have := hb.size; (try simp at this); omega
  replace z0 : w.heap.size < w3.heap.size := by omega
  have m0 : w3.cell? ⟨w2.heap.size + 1, 0, none⟩ = some (.int .i64 (L.c.t)) := cel_below hb (by rw [World.cell?_alloc_at _ _ _ _ (by simp)]; rfl)
  have m1 : w3.cell? ⟨w2.heap.size + 1, 1, none⟩ = some (.int .i64 (L.c.l)) := cel_below hb (by rw [World.cell?_alloc_at _ _ _ _ (by simp)]; rfl)
  have m2 : w3.cell? ⟨w2.heap.size + 1, 2, none⟩ = some (.int .i64 (L.c.k)) := cel_below hb (by rw [World.cell?_alloc_at _ _ _ _ (by simp)]; rfl)
  have m3 : w3.cell? ⟨w2.heap.size + 1, 3, none⟩ = some (.int .i64 (L.c.s)) := cel_below hb (by rw [World.cell?_alloc_at _ _ _ _ (by simp)]; rfl)
  have m4 : w3.cell? ⟨w2.heap.size + 1, 4, none⟩ = some (.int .i64 (L.c.m)) := cel_below hb (by rw [World.cell?_alloc_at _ _ _ _ (by simp)]; rfl)
  have m5 : w3.cell? ⟨w2.heap.size + 1, 5, none⟩ = some (.int .i64 (L.clock)) := cel_below hb (by rw [World.cell?_alloc_at _ _ _ _ (by simp)]; rfl)
  have m6 : w3.cell? ⟨w2.heap.size + 1, 6, none⟩ = some (.int .i64 (L.stamps)) := cel_below hb (by rw [World.cell?_alloc_at _ _ _ _ (by simp)]; rfl)
  have m7 : w3.cell? ⟨w2.heap.size + 1, 7, none⟩ = some (.int .i64 (L.log)) := cel_below hb (by rw [World.cell?_alloc_at _ _ _ _ (by simp)]; rfl)
  have m8 : w3.cell? ⟨w2.heap.size + 1, 8, none⟩ = some (.int .i64 (L.fin)) := cel_below hb (by rw [World.cell?_alloc_at _ _ _ _ (by simp)]; rfl)
  have m9 : w3.cell? ⟨w2.heap.size + 1, 9, none⟩ = some (.int .i64 (L.thread)) := cel_below hb (by rw [World.cell?_alloc_at _ _ _ _ (by simp)]; rfl)
  have m10 : w3.cell? ⟨w2.heap.size + 1, 10, none⟩ = some (.int .i64 (L.lock)) := cel_below hb (by rw [World.cell?_alloc_at _ _ _ _ (by simp)]; rfl)
  have m11 : w3.cell? ⟨w2.heap.size + 1, 11, none⟩ = some (.int .i64 (L.loc)) := cel_below hb (by rw [World.cell?_alloc_at _ _ _ _ (by simp)]; rfl)
  have m12 : w3.cell? ⟨w2.heap.size + 1, 12, none⟩ = some (.int .i64 (wrap64 (L.size + a2))) := cel_below hb (by rw [World.cell?_alloc_at _ _ _ _ (by simp)]; rfl)
  have z1 : w2.heap.size + 1 < w3.heap.size := by omega
  clear hb zz
  go_wp2_with fail
  ((with_reducible refine (HF.out _).mono ?_); rintro e w4 ⟨rfl, hb⟩)
  replace HW := Lib.hid (below_step HW.out (hb))
  have zz : w3.heap.size + 0 ≤ w4.heap.size := by have := hb.size; (try simp at this); omega
  replace m0 : w4.cell? ⟨w2.heap.size + 1, 0, none⟩ = some (.int .i64 (L.c.t)) := cel_below hb (m0)
  replace m1 : w4.cell? ⟨w2.heap.size + 1, 1, none⟩ = some (.int .i64 (L.c.l)) := cel_below hb (m1)
  replace m2 : w4.cell? ⟨w2.heap.size + 1, 2, none⟩ = some (.int .i64 (L.c.k)) := cel_below hb (m2)
  replace m3 : w4.cell? ⟨w2.heap.size + 1, 3, none⟩ = some (.int .i64 (L.c.s)) := cel_below hb (m3)
  replace m4 : w4.cell? ⟨w2.heap.size + 1, 4, none⟩ = some (.int .i64 (L.c.m)) := cel_below hb (m4)
  replace m5 : w4.cell? ⟨w2.heap.size + 1, 5, none⟩ = some (.int .i64 (L.clock)) := cel_below hb (m5)
  replace m6 : w4.cell? ⟨w2.heap.size + 1, 6, none⟩ = some (.int .i64 (L.stamps)) := cel_below hb (m6)
  replace m7 : w4.cell? ⟨w2.heap.size + 1, 7, none⟩ = some (.int .i64 (L.log)) := cel_below hb (m7)
  replace m8 : w4.cell? ⟨w2.heap.size + 1, 8, none⟩ = some (.int .i64 (L.fin)) := cel_below hb (m8)
  replace m9 : w4.cell? ⟨w2.heap.size + 1, 9, none⟩ = some (.int .i64 (L.thread)) := cel_below hb (m9)
  replace m10 : w4.cell? ⟨w2.heap.size + 1, 10, none⟩ = some (.int .i64 (L.lock)) := cel_below hb (m10)
  replace m11 : w4.cell? ⟨w2.heap.size + 1, 11, none⟩ = some (.int .i64 (L.loc)) := cel_below hb (m11)
  replace m12 : w4.cell? ⟨w2.heap.size + 1, 12, none⟩ = some (.int .i64 (wrap64 (L.size + a2))) := cel_below hb (m12)
  replace z0 : w.heap.size < w4.heap.size := by omega
  replace z1 : w2.heap.size + 1 < w4.heap.size := by omega
  clear hb zz
  go_wp2
  go_ret
  exact ⟨rfl, HW.out⟩

set_option maxHeartbeats 4000000 in
set_option maxRecDepth 100000 in
theorem walkZ (w : World) (c : Cf) (a1 : Int) (hc : c.ok) : Calls Try.prog 8 #[c.v, .int .u8 a1, .int .i64 0] w fun e w' => e = .returned (.bool true) ∧ Below w.heap.size w w' := by
  have HO := Lib.hid (fun w => rof_t c w hc)
  obtain ⟨L, hL⟩ : ∃ L, L = layOf c := ⟨_, rfl⟩
  rw [← hL] at HO
  clear hL hc
  unfold Ly.v at HO
  unfold Cf.v at HO ⊢
  go_enter Try.func8, Try.ntmps8
  go_wp2_with fail
  ((with_reducible refine (sane15_any _).mono ?_); rintro e w1 ⟨rfl, hb⟩)
  have HW := Lib.hid (below_alloc1 hb)
  have zz : w.heap.size + 1 ≤ w1.heap.size := by have := hb.size; (try simp at this); omega
  have p0 : w1.cell? ⟨w.heap.size, 0, none⟩ = some (.int .i64 c.t) := cel_below hb (by rw [World.cell?_alloc_at _ _ _ _ (by simp)]; rfl)
  have p1 : w1.cell? ⟨w.heap.size, 1, none⟩ = some (.int .i64 c.l) := cel_below hb (by rw [World.cell?_alloc_at _ _ _ _ (by simp)]; rfl)
  have p2 : w1.cell? ⟨w.heap.size, 2, none⟩ = some (.int .i64 c.k) := cel_below hb (by rw [World.cell?_alloc_at _ _ _ _ (by simp)]; rfl)
  have p3 : w1.cell? ⟨w.heap.size, 3, none⟩ = some (.int .i64 c.s) := cel_below hb (by rw [World.cell?_alloc_at _ _ _ _ (by simp)]; rfl)
  have p4 : w1.cell? ⟨w.heap.size, 4, none⟩ = some (.int .i64 c.m) := cel_below hb (by rw [World.cell?_alloc_at _ _ _ _ (by simp)]; rfl)
  have z0 : w.heap.size < w1.heap.size := by omega
  clear hb zz
  go_wp2_with fail
  ((with_reducible refine (HO.out _).mono ?_); rintro e w2 ⟨rfl, hb⟩)
  replace HW := Lib.hid (below_step HW.out (hb))
  have zz : w1.heap.size + 0 ≤ w2.heap.size := by have := hb.size; (try simp at this); omega
  replace z0 : w.heap.size < w2.heap.size := by omega
  clear hb zz
  go_wp2
  go_ret
  exact ⟨rfl, below_step HW.out (below_new1 _ _)⟩

set_option maxHeartbeats 4000000 in
set_option maxRecDepth 100000 in
theorem walkN (w : World) (c : Cf) (a1 a2 : Int) (hc : ¬c.ok) : Calls Try.prog 8 #[c.v, .int .u8 a1, .int .i64 a2] w fun e w' => e = .returned (.bool true) ∧ Below w.heap.size w w' := by
  have HO := Lib.hid (fun w => rof_f c w hc)
  clear hc
  unfold lay0 Ly.v at HO
  unfold Cf.v at HO ⊢
  go_enter Try.func8, Try.ntmps8
  go_wp2_with fail
  ((with_reducible refine (sane15_any _).mono ?_); rintro e w1 ⟨rfl, hb⟩)
  have HW := Lib.hid (below_alloc1 hb)
  have zz : w.heap.size + 1 ≤ w1.heap.size := by have := hb.size; (try simp at this); omega
  have p0 : w1.cell? ⟨w.heap.size, 0, none⟩ = some (.int .i64 c.t) := cel_below hb (by rw [World.cell?_alloc_at _ _ _ _ (by simp)]; rfl)
  have p1 : w1.cell? ⟨w.heap.size, 1, none⟩ = some (.int .i64 c.l) := cel_below hb (by rw [World.cell?_alloc_at _ _ _ _ (by simp)]; rfl)
  have p2 : w1.cell? ⟨w.heap.size, 2, none⟩ = some (.int .i64 c.k) := cel_below hb (by rw [World.cell?_alloc_at _ _ _ _ (by simp)]; rfl)
  have p3 : w1.cell? ⟨w.heap.size, 3, none⟩ = some (.int .i64 c.s) := cel_below hb (by rw [World.cell?_alloc_at _ _ _ _ (by simp)]; rfl)
  have p4 : w1.cell? ⟨w.heap.size, 4, none⟩ = some (.int .i64 c.m) := cel_below hb (by rw [World.cell?_alloc_at _ _ _ _ (by simp)]; rfl)
  have z0 : w.heap.size < w1.heap.size := by omega
  clear hb zz
  go_wp2_with fail
  ((with_reducible refine (HO.out _).mono ?_); rintro e w2 ⟨rfl, hb⟩)
  replace HW := Lib.hid (below_step HW.out (hb))
  have zz : w1.heap.size + 0 ≤ w2.heap.size := by have := hb.size; (try simp at this); omega
  replace z0 : w.heap.size < w2.heap.size := by omega
  clear hb zz
  go_wp2
  go_ret
  exact ⟨rfl, below_step HW.out (below_new1 _ _)⟩

theorem walk (w : World) (c : Cf) (i1 : I64 c.t) (i2 : I64 c.l) (i3 : I64 c.k) (i4 : I64 c.s) (i5 : I64 c.m) (a1 : Int) (w1 : (Lit.int .u8 a1).wf = true) (a2 : Int) (w2 : (Lit.int .i64 a2).wf = true) :
    Calls Try.prog 8 #[c.v, .int .u8 a1, .int .i64 a2] w fun e w' => e = .returned (.bool true) ∧ Below w.heap.size w w' := by
  obtain ⟨u1, u2⟩ := u8_of_wf w1
  have hi := i64_of_wf w2
  by_cases hc : c.ok
  · by_cases hy : a2 = 0
    · subst hy; exact walkZ w c a1 hc
    · have : a1 % 8 = 0 ∨ a1 % 8 = 1 ∨ a1 % 8 = 2 ∨ a1 % 8 = 3 ∨ a1 % 8 = 4 ∨ a1 % 8 = 5 ∨ a1 % 8 = 6 ∨ a1 % 8 = 7 := by omega
      rcases this with q | q | q | q | q | q | q | q
      · exact walk0 w c a1 u1 u2 a2 hi hc hy q
      · exact walk1 w c a1 u1 u2 a2 hi hc hy q
      · exact walk2 w c a1 u1 u2 a2 hi hc hy q
      · exact walk3 w c a1 u1 u2 a2 hi hc hy q
      · exact walk4 w c a1 u1 u2 a2 hi hc hy q
      · exact walk5 w c a1 u1 u2 a2 hi hc hy q
      · exact walk6 w c a1 u1 u2 a2 hi hc hy q
      · exact walk7 w c a1 u1 u2 a2 hi hc hy q
  · exact walkN w c a1 a2 hc

theorem own : ownKnob Try.prog.godebug = none := by kernel_rfl
theorem laidOut : laidOutB Try.prog = true := by kernel_rfl

set_option maxRecDepth 100000 in
theorem lifted (os : Os) (started : os.Started) (H : Type) (enc : TypeId × Value → H) :
    ReturnsInHanded {} Try.checked os 8 .any (Rows.layoutRejectsChangeSpec.pre6 enc Try.prog Try.f8 Rows.layoutRejectsChangeRow.domain false) (Rows.layoutRejectsChangeSpec.post enc Try.prog Try.f8 false true false false) := by
  refine returnsInHanded_of_change (C := Try.checked) own started (by kernel_rfl) Try.func8
    (ChangeSpec.witness6 (enc := enc) (C := Try.checked) false ⟨#[], #[.agg #[.int .i64 0, .int .i64 0, .int .i64 0, .int .i64 0, .int .i64 0], .int .u8 0, .int .i64 0], []⟩ 8 (by kernel_rfl) (by kernel_rfl) (by kernel_rfl) (by kernel_rfl)) ?_
  intro W base args ds gs before hval0 hW hcnd _
  have hval : ∀ (j : Nat) t v, Try.f8.params[j]? = some t → args[j]? = some v → Value.okWide Try.prog W .any base t v := hval0
  have hW' := hW
  obtain ⟨p, q, hA0, hV, rfl, hfz, hnd⟩ := hW
  have hA : DataW.TrodAll enc Try.prog W 0 (fun _ => true) true Try.f8.params.toList args.toList ds p := hA0
  rw [Try.params8] at hA hval
  obtain ⟨v0, vs0, d0, ds0, p0, q0, hargs, rfl, rfl, h0, r0⟩ := trodAll_cons hA
  obtain ⟨v1, vs1, d1, ds1, p1, q1, rfl, rfl, rfl, h1, r1⟩ := trodAll_cons r0
  obtain ⟨v2, vs2, d2, ds2, p2, q2, rfl, rfl, rfl, h2, r2⟩ := trodAll_cons r1
  obtain ⟨rfl, rfl, rfl⟩ := trodAll_nil r2
  obtain rfl : args = #[v0, v1, v2] := by cases args; simp_all
  obtain ⟨rfl, rfl⟩ := trodVars_none hV
  clear hA0 hval0
  simp only [List.append_nil] at hW'
  have lt0 : ∀ x ∈ p0, x.block < W.heap.size := fun x hx => hW'.lt x (by simp [hx])
  have lt1 : ∀ x ∈ p1, x.block < W.heap.size := fun x hx => hW'.lt x (by simp [hx])
  have lt2 : ∀ x ∈ p2, x.block < W.heap.size := fun x hx => hW'.lt x (by simp [hx])
  have back0 : ∀ W', Below W.heap.size W W' → DataW.Trod enc Try.prog W' 0 (fun b => decide (b < W.heap.size)) true 51 v0 d0 p0 := fun W' hb => Below.trod laidOut (by kernel_rfl) (of_decide_eq_true (by kernel_rfl)) h0 hb lt0
  have back1 : ∀ W', Below W.heap.size W W' → DataW.Trod enc Try.prog W' 0 (fun b => decide (b < W.heap.size)) true 5 v1 d1 p1 := fun W' hb => Below.trod laidOut (by kernel_rfl) (of_decide_eq_true (by kernel_rfl)) h1 hb lt1
  have back2 : ∀ W', Below W.heap.size W W' → DataW.Trod enc Try.prog W' 0 (fun b => decide (b < W.heap.size)) true 3 v2 d2 p2 := fun W' hb => Below.trod laidOut (by kernel_rfl) (of_decide_eq_true (by kernel_rfl)) h2 hb lt2
  obtain ⟨cf0, rfl, ia0, ib0, ic0, id0, ie0⟩ := open_conf (hval 0 51 v0 rfl rfl) h0
  obtain ⟨a1, rfl, rfl, rfl, w1⟩ := open_int Try.underlying5 (hval 1 5 v1 rfl rfl) h1
  obtain ⟨a2, rfl, rfl, rfl, w2⟩ := open_int Try.underlying3 (hval 2 3 v2 rfl rfl) h2
  refine (walk W cf0 ia0 ib0 ic0 id0 ie0 a1 w1 a2 w2).mono fun e W' ⟨he, hg⟩ => ?_
  subst he
  exact ⟨_, rfl, _, _, _, [], _, [], hW', (trodAll_cons_mk (shut_bool Try.underlying4 _) trodAll_mk0), (trodAll_cons_mk (back0 _ hg) (trodAll_cons_mk (back1 _ hg) (trodAll_cons_mk (back2 _ hg) trodAll_mk0))), rfl, hg.frame _, fun h => by cases h⟩

theorem over : Rows.layoutRejectsChangeRow.holds Try.pinned (OpenSpec.ofChange Rows.layoutRejectsChangeSpec) :=
  OpenClaim.holds_of_wide 8 Try.f8 rfl rfl rfl rfl rfl rfl rfl ⟨rfl, rfl, rfl, rfl, rfl⟩ rfl rfl rfl rfl rfl (by kernel_rfl) Try.func8 (by kernel_rfl)
    (of_decide_eq_true (by kernel_rfl)) (by unfold Func.isWrapper; first | (rw [if_pos (by decide +kernel)]; kernel_rfl) | (rw [if_neg (by decide +kernel)]; exact ⟨rfl, rfl⟩))
    (fun os started H enc _ => lifted os started H enc)

/-- The given statement. -/
theorem proved : Rows.LayoutRejectsChangeSaid :=
  over
#print axioms proved
end Go.Proofs.Ytimjodpndhckdaa.layoutRejectsChange
