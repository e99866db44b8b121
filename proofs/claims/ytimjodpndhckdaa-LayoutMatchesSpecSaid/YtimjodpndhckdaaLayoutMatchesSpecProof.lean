/- LayoutMatchesSpec: for every configuration, every index and every list of at most 60 initial values, Of, Right, the cell functions and Init return what the specification says. No condition. -/
import Derived.Test.YtimjodpndhckdaaRows
import Derived.Test.YtimjodpndhckdaaAux
import Derived.Test.YtimjodpndhckdaaLayS
import Derived.Test.YtimjodpndhckdaaLayO
import Derived.Test.YtimjodpndhckdaaLayF
import Derived.Test.YtimjodpndhckdaaLayG
import Derived.Test.YtimjodpndhckdaaMemT
import Derived.Outline
import Derived.Deep.RegionHeld3
import Derived.WalkKit
import Derived.ProofKit
import Derived.OpenShut
import Derived.Lib.Hide
import Derived.Carry
namespace Go.Proofs.Ytimjodpndhckdaa.layoutMatchesSpec
open Go.ChangeShapes Go.WideShapes Go.ChangeAt Go.RowKit
set_option linter.unusedVariables false

theorem rints15_s {v u : Value} {w : World} (zs : List Int) (hv : HasInts w v zs) (hu : HasInts w u zs) : Calls Try.prog 28 #[v, u] w fun e w' => e = .returned (.bool true) ∧ Below w.heap.size w w' :=
  (rints15_any v u zs zs w hv hu).mono fun e w' ⟨he, n, hw⟩ => ⟨by rw [he]; simp, hw ▸ below_drewN (Below.refl _ _) n⟩
theorem raccs_s {v u : Value} {w : World} (zs : List AccD) (hv : HasAccs w v zs) (hu : HasAccs w u zs) : Calls Try.prog 31 #[v, u] w fun e w' => e = .returned (.bool true) ∧ Below w.heap.size w w' :=
  (raccs_same v u zs w hv hu).mono fun e w' ⟨he, n, hw⟩ => ⟨he, hw ▸ below_drewN (Below.refl _ _) n⟩

set_option maxHeartbeats 4000000 in
set_option maxRecDepth 100000 in
theorem walk_big (w : World) (c : Cf) (n : Int) (a : Option Addr) (len cap : Nat) (hl : 60 < len) : Calls Try.prog 7 #[c.v, .int .i64 n, .slice a len cap] w fun e w' => e = .returned (.bool true) ∧ Below w.heap.size w w' := by
  have hl' : decide ((60 : Int) < len) = true := by simp; omega
  unfold Cf.v
  go_enter Try.func7, Try.ntmps7
  go_wp2_with fail
  ((with_reducible refine (sane15_any _).mono ?_); rintro e w1 ⟨rfl, hb⟩)
  have HW := Lib.hid (below_alloc1 hb)
  have zz : w.heap.size + 1 ≤ w1.heap.size := by have := hb.size; (try simp at this); omega
  have ccq0 : w1.cell? ⟨w.heap.size, 0, none⟩ = some (.int .i64 c.t) := cel_below hb (by rw [World.cell?_alloc_at _ _ _ _ (by simp)]; rfl)
  have ccq1 : w1.cell? ⟨w.heap.size, 1, none⟩ = some (.int .i64 c.l) := cel_below hb (by rw [World.cell?_alloc_at _ _ _ _ (by simp)]; rfl)
  have ccq2 : w1.cell? ⟨w.heap.size, 2, none⟩ = some (.int .i64 c.k) := cel_below hb (by rw [World.cell?_alloc_at _ _ _ _ (by simp)]; rfl)
  have ccq3 : w1.cell? ⟨w.heap.size, 3, none⟩ = some (.int .i64 c.s) := cel_below hb (by rw [World.cell?_alloc_at _ _ _ _ (by simp)]; rfl)
  have ccq4 : w1.cell? ⟨w.heap.size, 4, none⟩ = some (.int .i64 c.m) := cel_below hb (by rw [World.cell?_alloc_at _ _ _ _ (by simp)]; rfl)
  have z0 : w.heap.size < w1.heap.size := by omega
  clear hb zz
  go_wp2
  go_ret
  exact ⟨rfl, HW.out⟩
set_option maxHeartbeats 4000000 in
set_option maxRecDepth 100000 in
theorem walk_no (w : World) (c : Cf) (n : Int) (a : Option Addr) (len cap : Nat) (hl : len ≤ 60) (hc : ¬c.ok) : Calls Try.prog 7 #[c.v, .int .i64 n, .slice a len cap] w fun e w' => e = .returned (.bool true) ∧ Below w.heap.size w w' := by
  have hl' : decide ((60 : Int) < len) = false := by simp; omega
  have HO := Lib.hid (fun w => of_f c w hc)
  have HR := Lib.hid (fun w => rof_f c w hc)
  have HT : Hid (∀ w, Calls Try.prog 27 #[Ly.v ⟨c, 0, 0, 0, 0, 0, 0, 0, 0⟩] w fun e w' => e = .returned (.bool false) ∧ Below w.heap.size w w') := Lib.hid (fun w => by
    have := right15_any ⟨c, 0, 0, 0, 0, 0, 0, 0, 0⟩ w
    rwa [show rightL ⟨c, 0, 0, 0, 0, 0, 0, 0, 0⟩ = false by unfold rightL; rw [decide_eq_false hc]; rfl] at this)
  have hne : ∀ w, (binOp .neq 53 lay0.v lay0.v).run Try.prog w = .ok (.bool false) w := fun w => by rw [lay_neq, (lyEq_iff _ _).2 rfl]; rfl
  clear hc
  unfold lay0 Ly.v at HO HR hne
  unfold Ly.v at HT
  unfold Cf.v at HO HR ⊢
  go_enter Try.func7, Try.ntmps7
  go_wp2_with fail
  ((with_reducible refine (sane15_any _).mono ?_); rintro e w1 ⟨rfl, hb⟩)
  have HW := Lib.hid (below_alloc1 hb)
  have zz : w.heap.size + 1 ≤ w1.heap.size := by have := hb.size; (try simp at this); omega
  have ccq0 : w1.cell? ⟨w.heap.size, 0, none⟩ = some (.int .i64 c.t) := cel_below hb (by rw [World.cell?_alloc_at _ _ _ _ (by simp)]; rfl)
  have ccq1 : w1.cell? ⟨w.heap.size, 1, none⟩ = some (.int .i64 c.l) := cel_below hb (by rw [World.cell?_alloc_at _ _ _ _ (by simp)]; rfl)
  have ccq2 : w1.cell? ⟨w.heap.size, 2, none⟩ = some (.int .i64 c.k) := cel_below hb (by rw [World.cell?_alloc_at _ _ _ _ (by simp)]; rfl)
  have ccq3 : w1.cell? ⟨w.heap.size, 3, none⟩ = some (.int .i64 c.s) := cel_below hb (by rw [World.cell?_alloc_at _ _ _ _ (by simp)]; rfl)
  have ccq4 : w1.cell? ⟨w.heap.size, 4, none⟩ = some (.int .i64 c.m) := cel_below hb (by rw [World.cell?_alloc_at _ _ _ _ (by simp)]; rfl)
  have z0 : w.heap.size < w1.heap.size := by omega
  clear hb zz
  go_wp2_with fail
  ((with_reducible refine (HO.out _).mono ?_); rintro e w2 ⟨rfl, hb⟩)
  replace HW := Lib.hid (below_step HW.out (hb))
  have zz : w1.heap.size + 0 ≤ w2.heap.size := by have := hb.size; (try simp at this); omega
  replace ccq0 : w2.cell? ⟨w.heap.size, 0, none⟩ = some (.int .i64 c.t) := cel_below hb (ccq0)
  replace ccq1 : w2.cell? ⟨w.heap.size, 1, none⟩ = some (.int .i64 c.l) := cel_below hb (ccq1)
  replace ccq2 : w2.cell? ⟨w.heap.size, 2, none⟩ = some (.int .i64 c.k) := cel_below hb (ccq2)
  replace ccq3 : w2.cell? ⟨w.heap.size, 3, none⟩ = some (.int .i64 c.s) := cel_below hb (ccq3)
  replace ccq4 : w2.cell? ⟨w.heap.size, 4, none⟩ = some (.int .i64 c.m) := cel_below hb (ccq4)
  replace z0 : w.heap.size < w2.heap.size := by omega
  clear hb zz
  go_wp2_with fail
  ((with_reducible refine (HR.out _).mono ?_); rintro e w3 ⟨rfl, hb⟩)
  replace HW := Lib.hid (below_step HW.out (below_alloc1 hb))
  have zz : w2.heap.size + 1 ≤ w3.heap.size := by have := hb.size; (try simp at this); omega
  replace ccq0 : w3.cell? ⟨w.heap.size, 0, none⟩ = some (.int .i64 c.t) := cel_below hb (cell_alloc _ (ccq0))
  replace ccq1 : w3.cell? ⟨w.heap.size, 1, none⟩ = some (.int .i64 c.l) := cel_below hb (cell_alloc _ (ccq1))
  replace ccq2 : w3.cell? ⟨w.heap.size, 2, none⟩ = some (.int .i64 c.k) := cel_below hb (cell_alloc _ (ccq2))
  replace ccq3 : w3.cell? ⟨w.heap.size, 3, none⟩ = some (.int .i64 c.s) := cel_below hb (cell_alloc _ (ccq3))
  replace ccq4 : w3.cell? ⟨w.heap.size, 4, none⟩ = some (.int .i64 c.m) := cel_below hb (cell_alloc _ (ccq4))
  replace z0 : w.heap.size < w3.heap.size := by omega
  have laq0 : w3.cell? ⟨w2.heap.size, 0, none⟩ = some (.int .i64 0) := cel_below hb (by rw [World.cell?_alloc_at _ _ _ _ (by simp)]; rfl)
  have laq1 : w3.cell? ⟨w2.heap.size, 1, none⟩ = some (.int .i64 0) := cel_below hb (by rw [World.cell?_alloc_at _ _ _ _ (by simp)]; rfl)
  have laq2 : w3.cell? ⟨w2.heap.size, 2, none⟩ = some (.int .i64 0) := cel_below hb (by rw [World.cell?_alloc_at _ _ _ _ (by simp)]; rfl)
  have laq3 : w3.cell? ⟨w2.heap.size, 3, none⟩ = some (.int .i64 0) := cel_below hb (by rw [World.cell?_alloc_at _ _ _ _ (by simp)]; rfl)
  have laq4 : w3.cell? ⟨w2.heap.size, 4, none⟩ = some (.int .i64 0) := cel_below hb (by rw [World.cell?_alloc_at _ _ _ _ (by simp)]; rfl)
  have laq5 : w3.cell? ⟨w2.heap.size, 5, none⟩ = some (.int .i64 0) := cel_below hb (by rw [World.cell?_alloc_at _ _ _ _ (by simp)]; rfl)
  have laq6 : w3.cell? ⟨w2.heap.size, 6, none⟩ = some (.int .i64 0) := cel_below hb (by rw [World.cell?_alloc_at _ _ _ _ (by simp)]; rfl)
  have laq7 : w3.cell? ⟨w2.heap.size, 7, none⟩ = some (.int .i64 0) := cel_below hb (by rw [World.cell?_alloc_at _ _ _ _ (by simp)]; rfl)
  have laq8 : w3.cell? ⟨w2.heap.size, 8, none⟩ = some (.int .i64 0) := cel_below hb (by rw [World.cell?_alloc_at _ _ _ _ (by simp)]; rfl)
  have laq9 : w3.cell? ⟨w2.heap.size, 9, none⟩ = some (.int .i64 0) := cel_below hb (by rw [World.cell?_alloc_at _ _ _ _ (by simp)]; rfl)
  have laq10 : w3.cell? ⟨w2.heap.size, 10, none⟩ = some (.int .i64 0) := cel_below hb (by rw [World.cell?_alloc_at _ _ _ _ (by simp)]; rfl)
  have laq11 : w3.cell? ⟨w2.heap.size, 11, none⟩ = some (.int .i64 0) := cel_below hb (by rw [World.cell?_alloc_at _ _ _ _ (by simp)]; rfl)
  have laq12 : w3.cell? ⟨w2.heap.size, 12, none⟩ = some (.int .i64 0) := cel_below hb (by rw [World.cell?_alloc_at _ _ _ _ (by simp)]; rfl)
  have z1 : w2.heap.size < w3.heap.size := by omega
  clear hb zz
  go_wp2_with fail
  ((with_reducible refine (HT.out _).mono ?_); rintro e w4 ⟨rfl, hb⟩)
  replace HW := Lib.hid (below_step HW.out (below_alloc1 hb))
  have zz : w3.heap.size + 1 ≤ w4.heap.size := by have := hb.size; (try simp at this); omega
  replace ccq0 : w4.cell? ⟨w.heap.size, 0, none⟩ = some (.int .i64 c.t) := cel_below hb (cell_alloc _ (ccq0))
  replace ccq1 : w4.cell? ⟨w.heap.size, 1, none⟩ = some (.int .i64 c.l) := cel_below hb (cell_alloc _ (ccq1))
  replace ccq2 : w4.cell? ⟨w.heap.size, 2, none⟩ = some (.int .i64 c.k) := cel_below hb (cell_alloc _ (ccq2))
  replace ccq3 : w4.cell? ⟨w.heap.size, 3, none⟩ = some (.int .i64 c.s) := cel_below hb (cell_alloc _ (ccq3))
  replace ccq4 : w4.cell? ⟨w.heap.size, 4, none⟩ = some (.int .i64 c.m) := cel_below hb (cell_alloc _ (ccq4))
  replace laq0 : w4.cell? ⟨w2.heap.size, 0, none⟩ = some (.int .i64 0) := cel_below hb (cell_alloc _ (laq0))
  replace laq1 : w4.cell? ⟨w2.heap.size, 1, none⟩ = some (.int .i64 0) := cel_below hb (cell_alloc _ (laq1))
  replace laq2 : w4.cell? ⟨w2.heap.size, 2, none⟩ = some (.int .i64 0) := cel_below hb (cell_alloc _ (laq2))
  replace laq3 : w4.cell? ⟨w2.heap.size, 3, none⟩ = some (.int .i64 0) := cel_below hb (cell_alloc _ (laq3))
  replace laq4 : w4.cell? ⟨w2.heap.size, 4, none⟩ = some (.int .i64 0) := cel_below hb (cell_alloc _ (laq4))
  replace laq5 : w4.cell? ⟨w2.heap.size, 5, none⟩ = some (.int .i64 0) := cel_below hb (cell_alloc _ (laq5))
  replace laq6 : w4.cell? ⟨w2.heap.size, 6, none⟩ = some (.int .i64 0) := cel_below hb (cell_alloc _ (laq6))
  replace laq7 : w4.cell? ⟨w2.heap.size, 7, none⟩ = some (.int .i64 0) := cel_below hb (cell_alloc _ (laq7))
  replace laq8 : w4.cell? ⟨w2.heap.size, 8, none⟩ = some (.int .i64 0) := cel_below hb (cell_alloc _ (laq8))
  replace laq9 : w4.cell? ⟨w2.heap.size, 9, none⟩ = some (.int .i64 0) := cel_below hb (cell_alloc _ (laq9))
  replace laq10 : w4.cell? ⟨w2.heap.size, 10, none⟩ = some (.int .i64 0) := cel_below hb (cell_alloc _ (laq10))
  replace laq11 : w4.cell? ⟨w2.heap.size, 11, none⟩ = some (.int .i64 0) := cel_below hb (cell_alloc _ (laq11))
  replace laq12 : w4.cell? ⟨w2.heap.size, 12, none⟩ = some (.int .i64 0) := cel_below hb (cell_alloc _ (laq12))
  replace z0 : w.heap.size < w4.heap.size := by omega
  replace z1 : w2.heap.size < w4.heap.size := by omega
  clear hb zz
  go_wp2
  go_ret
  exact ⟨rfl, HW.out⟩
set_option maxHeartbeats 4000000 in
set_option maxRecDepth 100000 in
theorem walk_yes (w : World) (c : Cf) (n : Int) (a : Option Addr) (len cap : Nat) (zs : List Int) (hz : len = zs.length) (hv : HasInts w (.slice a len cap) zs) (hl : len ≤ 60) (hc : c.ok) : Calls Try.prog 7 #[c.v, .int .i64 n, .slice a len cap] w fun e w' => e = .returned (.bool true) ∧ Below w.heap.size w w' := by
  have hl' : decide ((60 : Int) < len) = false := by simp; omega
  obtain ⟨L, hL⟩ : ∃ L, L = layOf c := ⟨_, rfl⟩
  have hlok : L.ok := by
    obtain ⟨⟨h1, h2⟩, ⟨h3, h4⟩, ⟨h5, h6⟩, ⟨h7, h8⟩, ⟨h9, h10⟩⟩ := hc
    rw [hL]; unfold Ly.ok layOf; simp only; omega
  have HO : Hid (∀ w, Calls Try.prog 25 #[c.v] w fun e w' => e = .returned (.tuple #[L.v, .int .i64 0]) ∧ Below w.heap.size w w') := Lib.hid (fun w => by rw [hL]; exact of_t c w hc)
  have HR : Hid (∀ w, Calls Try.prog 26 #[c.v] w fun e w' => e = .returned (.tuple #[L.v, .int .i64 0]) ∧ Below w.heap.size w w') := Lib.hid (fun w => by rw [hL]; exact rof_t c w hc)
  have HT : Hid (∀ w, Calls Try.prog 27 #[L.v] w fun e w' => e = .returned (.bool true) ∧ Below w.heap.size w w') := Lib.hid (fun w => by
    have := right15_any L w
    rwa [show rightL L = true by unfold rightL; rw [hL, show (layOf c).c = c from rfl, decide_eq_true hc, (lyEq_iff _ _).2 rfl]; rfl] at this)
  have hne : ∀ w, (binOp .neq 53 L.v L.v).run Try.prog w = .ok (.bool false) w := fun w => by rw [lay_neq, (lyEq_iff _ _).2 rfl]; rfl
  have HP := Lib.hid (fun w => places_any L n w hlok)
  have HA := Lib.hid (fun w => rall15_any L n w hlok)
  have HZ : Hid (zs.length ≤ 1000000) := Lib.hid (by omega)
  have HI := Lib.hid (fun w (h : HasInts w (.slice a len cap) zs) => init_any L (.slice a len cap) zs w hlok h HZ.out)
  have HJ := Lib.hid (fun w (h : HasInts w (.slice a len cap) zs) => rinit_any L (.slice a len cap) zs w hlok h HZ.out)
  have HV := Lib.hid hv
  obtain ⟨P, hP⟩ : ∃ P, P = placesL L n := ⟨_, rfl⟩
  obtain ⟨I, hI⟩ : ∃ I, I = initN L zs zs.length := ⟨_, rfl⟩
  rw [← hP] at HP HA
  rw [← hI] at HI HJ
  clear hL hlok hc hz hv hP hI HZ
  unfold Ly.v at HO HR HT HP HA HI HJ hne
  unfold Cf.v at HO HR ⊢
  go_enter Try.func7, Try.ntmps7
  go_wp2_with fail
  ((with_reducible refine (sane15_any _).mono ?_); rintro e w1 ⟨rfl, hb⟩)
  have HW := Lib.hid (below_alloc1 hb)
  have zz : w.heap.size + 1 ≤ w1.heap.size := by have := hb.size; (try simp at this); omega
  have ccq0 : w1.cell? ⟨w.heap.size, 0, none⟩ = some (.int .i64 c.t) := cel_below hb (by rw [World.cell?_alloc_at _ _ _ _ (by simp)]; rfl)
  have ccq1 : w1.cell? ⟨w.heap.size, 1, none⟩ = some (.int .i64 c.l) := cel_below hb (by rw [World.cell?_alloc_at _ _ _ _ (by simp)]; rfl)
  have ccq2 : w1.cell? ⟨w.heap.size, 2, none⟩ = some (.int .i64 c.k) := cel_below hb (by rw [World.cell?_alloc_at _ _ _ _ (by simp)]; rfl)
  have ccq3 : w1.cell? ⟨w.heap.size, 3, none⟩ = some (.int .i64 c.s) := cel_below hb (by rw [World.cell?_alloc_at _ _ _ _ (by simp)]; rfl)
  have ccq4 : w1.cell? ⟨w.heap.size, 4, none⟩ = some (.int .i64 c.m) := cel_below hb (by rw [World.cell?_alloc_at _ _ _ _ (by simp)]; rfl)
  have z0 : w.heap.size < w1.heap.size := by omega
  clear hb zz
  go_wp2_with fail
  ((with_reducible refine (HO.out _).mono ?_); rintro e w2 ⟨rfl, hb⟩)
  replace HW := Lib.hid (below_step HW.out (hb))
  have zz : w1.heap.size + 0 ≤ w2.heap.size := by have := hb.size; (try simp at this); omega
  replace ccq0 : w2.cell? ⟨w.heap.size, 0, none⟩ = some (.int .i64 c.t) := cel_below hb (ccq0)
  replace ccq1 : w2.cell? ⟨w.heap.size, 1, none⟩ = some (.int .i64 c.l) := cel_below hb (ccq1)
  replace ccq2 : w2.cell? ⟨w.heap.size, 2, none⟩ = some (.int .i64 c.k) := cel_below hb (ccq2)
  replace ccq3 : w2.cell? ⟨w.heap.size, 3, none⟩ = some (.int .i64 c.s) := cel_below hb (ccq3)
  replace ccq4 : w2.cell? ⟨w.heap.size, 4, none⟩ = some (.int .i64 c.m) := cel_below hb (ccq4)
  replace z0 : w.heap.size < w2.heap.size := by omega
  clear hb zz
  go_wp2_with fail
  ((with_reducible refine (HR.out _).mono ?_); rintro e w3 ⟨rfl, hb⟩)
  replace HW := Lib.hid (below_step HW.out (below_alloc1 hb))
  have zz : w2.heap.size + 1 ≤ w3.heap.size := by have := hb.size; (try simp at this); omega
  replace ccq0 : w3.cell? ⟨w.heap.size, 0, none⟩ = some (.int .i64 c.t) := cel_below hb (cell_alloc _ (ccq0))
  replace ccq1 : w3.cell? ⟨w.heap.size, 1, none⟩ = some (.int .i64 c.l) := cel_below hb (cell_alloc _ (ccq1))
  replace ccq2 : w3.cell? ⟨w.heap.size, 2, none⟩ = some (.int .i64 c.k) := cel_below hb (cell_alloc _ (ccq2))
  replace ccq3 : w3.cell? ⟨w.heap.size, 3, none⟩ = some (.int .i64 c.s) := cel_below hb (cell_alloc _ (ccq3))
  replace ccq4 : w3.cell? ⟨w.heap.size, 4, none⟩ = some (.int .i64 c.m) := cel_below hb (cell_alloc _ (ccq4))
  replace z0 : w.heap.size < w3.heap.size := by omega
  have laq0 : w3.cell? ⟨w2.heap.size, 0, none⟩ = some (.int .i64 L.c.t) := cel_below hb (by rw [World.cell?_alloc_at _ _ _ _ (by simp)]; rfl)
  have laq1 : w3.cell? ⟨w2.heap.size, 1, none⟩ = some (.int .i64 L.c.l) := cel_below hb (by rw [World.cell?_alloc_at _ _ _ _ (by simp)]; rfl)
  have laq2 : w3.cell? ⟨w2.heap.size, 2, none⟩ = some (.int .i64 L.c.k) := cel_below hb (by rw [World.cell?_alloc_at _ _ _ _ (by simp)]; rfl)
  have laq3 : w3.cell? ⟨w2.heap.size, 3, none⟩ = some (.int .i64 L.c.s) := cel_below hb (by rw [World.cell?_alloc_at _ _ _ _ (by simp)]; rfl)
  have laq4 : w3.cell? ⟨w2.heap.size, 4, none⟩ = some (.int .i64 L.c.m) := cel_below hb (by rw [World.cell?_alloc_at _ _ _ _ (by simp)]; rfl)
  have laq5 : w3.cell? ⟨w2.heap.size, 5, none⟩ = some (.int .i64 L.clock) := cel_below hb (by rw [World.cell?_alloc_at _ _ _ _ (by simp)]; rfl)
  have laq6 : w3.cell? ⟨w2.heap.size, 6, none⟩ = some (.int .i64 L.stamps) := cel_below hb (by rw [World.cell?_alloc_at _ _ _ _ (by simp)]; rfl)
  have laq7 : w3.cell? ⟨w2.heap.size, 7, none⟩ = some (.int .i64 L.log) := cel_below hb (by rw [World.cell?_alloc_at _ _ _ _ (by simp)]; rfl)
  have laq8 : w3.cell? ⟨w2.heap.size, 8, none⟩ = some (.int .i64 L.fin) := cel_below hb (by rw [World.cell?_alloc_at _ _ _ _ (by simp)]; rfl)
  have laq9 : w3.cell? ⟨w2.heap.size, 9, none⟩ = some (.int .i64 L.thread) := cel_below hb (by rw [World.cell?_alloc_at _ _ _ _ (by simp)]; rfl)
  have laq10 : w3.cell? ⟨w2.heap.size, 10, none⟩ = some (.int .i64 L.lock) := cel_below hb (by rw [World.cell?_alloc_at _ _ _ _ (by simp)]; rfl)
  have laq11 : w3.cell? ⟨w2.heap.size, 11, none⟩ = some (.int .i64 L.loc) := cel_below hb (by rw [World.cell?_alloc_at _ _ _ _ (by simp)]; rfl)
  have laq12 : w3.cell? ⟨w2.heap.size, 12, none⟩ = some (.int .i64 L.size) := cel_below hb (by rw [World.cell?_alloc_at _ _ _ _ (by simp)]; rfl)
  have z1 : w2.heap.size < w3.heap.size := by omega
  clear hb zz
  go_wp2_with fail
  obtain ⟨wr4, hwr⟩ : ∃ W, W = w3.alloc (.cells #[.int .i64 L.c.t, .int .i64 L.c.l, .int .i64 L.c.k, .int .i64 L.c.s, .int .i64 L.c.m, .int .i64 L.clock, .int .i64 L.stamps, .int .i64 L.log, .int .i64 L.fin, .int .i64 L.thread, .int .i64 L.lock, .int .i64 L.loc, .int .i64 L.size] 53) := ⟨_, rfl⟩
  rw [← hwr]
  have hb : Below w3.heap.size w3 wr4 := by rw [hwr]; exact (Below.alloc (Below.refl _ w3) (by first | exact Nat.le_refl _ | (simp; omega) | simp) _)
  have zz : w3.heap.size + 1 ≤ wr4.heap.size := by rw [hwr]; simp
  replace HW := Lib.hid (below_step HW.out hb)
  replace z0 : w.heap.size < wr4.heap.size := by omega
  replace z1 : w2.heap.size < wr4.heap.size := by omega
  have lbq0 : wr4.cell? ⟨w3.heap.size, 0, none⟩ = some (.int .i64 L.c.t) := by rw [hwr]; exact by rw [World.cell?_alloc_at _ _ _ _ (by simp)]; rfl
  have lbq1 : wr4.cell? ⟨w3.heap.size, 1, none⟩ = some (.int .i64 L.c.l) := by rw [hwr]; exact by rw [World.cell?_alloc_at _ _ _ _ (by simp)]; rfl
  have lbq2 : wr4.cell? ⟨w3.heap.size, 2, none⟩ = some (.int .i64 L.c.k) := by rw [hwr]; exact by rw [World.cell?_alloc_at _ _ _ _ (by simp)]; rfl
  have lbq3 : wr4.cell? ⟨w3.heap.size, 3, none⟩ = some (.int .i64 L.c.s) := by rw [hwr]; exact by rw [World.cell?_alloc_at _ _ _ _ (by simp)]; rfl
  have lbq4 : wr4.cell? ⟨w3.heap.size, 4, none⟩ = some (.int .i64 L.c.m) := by rw [hwr]; exact by rw [World.cell?_alloc_at _ _ _ _ (by simp)]; rfl
  have lbq5 : wr4.cell? ⟨w3.heap.size, 5, none⟩ = some (.int .i64 L.clock) := by rw [hwr]; exact by rw [World.cell?_alloc_at _ _ _ _ (by simp)]; rfl
  have lbq6 : wr4.cell? ⟨w3.heap.size, 6, none⟩ = some (.int .i64 L.stamps) := by rw [hwr]; exact by rw [World.cell?_alloc_at _ _ _ _ (by simp)]; rfl
  have lbq7 : wr4.cell? ⟨w3.heap.size, 7, none⟩ = some (.int .i64 L.log) := by rw [hwr]; exact by rw [World.cell?_alloc_at _ _ _ _ (by simp)]; rfl
  have lbq8 : wr4.cell? ⟨w3.heap.size, 8, none⟩ = some (.int .i64 L.fin) := by rw [hwr]; exact by rw [World.cell?_alloc_at _ _ _ _ (by simp)]; rfl
  have lbq9 : wr4.cell? ⟨w3.heap.size, 9, none⟩ = some (.int .i64 L.thread) := by rw [hwr]; exact by rw [World.cell?_alloc_at _ _ _ _ (by simp)]; rfl
  have lbq10 : wr4.cell? ⟨w3.heap.size, 10, none⟩ = some (.int .i64 L.lock) := by rw [hwr]; exact by rw [World.cell?_alloc_at _ _ _ _ (by simp)]; rfl
  have lbq11 : wr4.cell? ⟨w3.heap.size, 11, none⟩ = some (.int .i64 L.loc) := by rw [hwr]; exact by rw [World.cell?_alloc_at _ _ _ _ (by simp)]; rfl
  have lbq12 : wr4.cell? ⟨w3.heap.size, 12, none⟩ = some (.int .i64 L.size) := by rw [hwr]; exact by rw [World.cell?_alloc_at _ _ _ _ (by simp)]; rfl
  have z2 : w3.heap.size < wr4.heap.size := by omega
  clear hb zz hwr
  refine wp_region_held_drew (S := fun W => W.cell? ⟨w3.heap.size, 0, none⟩ = some (.int .i64 L.c.t) ∧ W.cell? ⟨w3.heap.size, 1, none⟩ = some (.int .i64 L.c.l) ∧ W.cell? ⟨w3.heap.size, 2, none⟩ = some (.int .i64 L.c.k) ∧ W.cell? ⟨w3.heap.size, 3, none⟩ = some (.int .i64 L.c.s) ∧ W.cell? ⟨w3.heap.size, 4, none⟩ = some (.int .i64 L.c.m) ∧ W.cell? ⟨w3.heap.size, 5, none⟩ = some (.int .i64 L.clock) ∧ W.cell? ⟨w3.heap.size, 6, none⟩ = some (.int .i64 L.stamps) ∧ W.cell? ⟨w3.heap.size, 7, none⟩ = some (.int .i64 L.log) ∧ W.cell? ⟨w3.heap.size, 8, none⟩ = some (.int .i64 L.fin) ∧ W.cell? ⟨w3.heap.size, 9, none⟩ = some (.int .i64 L.thread) ∧ W.cell? ⟨w3.heap.size, 10, none⟩ = some (.int .i64 L.lock) ∧ W.cell? ⟨w3.heap.size, 11, none⟩ = some (.int .i64 L.loc) ∧ W.cell? ⟨w3.heap.size, 12, none⟩ = some (.int .i64 L.size)) (by kernel_rfl) ?_ (fun hHeld => ?_)
  · (try dsimp only); exact ⟨by first | assumption | go_simp, by first | assumption | go_simp, by first | assumption | go_simp, by first | assumption | go_simp, by first | assumption | go_simp, by first | assumption | go_simp, by first | assumption | go_simp, by first | assumption | go_simp, by first | assumption | go_simp, by first | assumption | go_simp, by first | assumption | go_simp, by first | assumption | go_simp, by first | assumption | go_simp⟩
  replace HW := Lib.hid (below_drews HW.out 1)
  first | (refine wpAnyH_take (i := 0) (oi := ?oi1) (v := ?v1) ?hi1 (by kernel_rfl) (by kernel_rfl) (by kernel_rfl) ?hQ1 (Or.inl ⟨?hw1, ?hy1⟩) (by assumption) ?rest1; (case hi1 => (simp only [List.getElem?_toArray, List.getElem?_cons_zero]; rfl)); (case hQ1 => exact fun _ _ _ h => h); (case hw1 => rfl); (case hy1 => ((intro w hSw); (try dsimp only at hSw); go_simp; (try with_reducible rfl)))) | (refine wpAnyH_take (i := 0) (oi := ?oi2) (v := undef) ?hi2 (by kernel_rfl) (by kernel_rfl) (by kernel_rfl) ?hQ2 (Or.inr ⟨?hw2, rfl⟩) (by assumption) ?rest2; (case hi2 => (simp only [List.getElem?_toArray, List.getElem?_cons_zero]; rfl)); (case hQ2 => exact fun _ _ _ h => h); (case hw2 => rfl))
  (try simp only [Act.put, List.setIfInBounds_toArray, List.set_cons_zero, List.set_cons_succ])
  first | (refine wpAnyH_take (i := 1) (oi := ?oi3) (v := ?v3) ?hi3 (by kernel_rfl) (by kernel_rfl) (by kernel_rfl) ?hQ3 (Or.inl ⟨?hw3, ?hy3⟩) (by assumption) ?rest3; (case hi3 => (simp only [List.getElem?_toArray, List.getElem?_cons_succ, List.getElem?_cons_zero]; rfl)); (case hQ3 => exact fun _ _ _ h => h); (case hw3 => rfl); (case hy3 => ((intro w hSw); (try dsimp only at hSw); go_simp; (try with_reducible rfl)))) | (refine wpAnyH_take (i := 1) (oi := ?oi4) (v := undef) ?hi4 (by kernel_rfl) (by kernel_rfl) (by kernel_rfl) ?hQ4 (Or.inr ⟨?hw4, rfl⟩) (by assumption) ?rest4; (case hi4 => (simp only [List.getElem?_toArray, List.getElem?_cons_succ, List.getElem?_cons_zero]; rfl)); (case hQ4 => exact fun _ _ _ h => h); (case hw4 => rfl))
  (try simp only [Act.put, List.setIfInBounds_toArray, List.set_cons_zero, List.set_cons_succ])
  first | (refine wpAnyH_take (i := 2) (oi := ?oi5) (v := ?v5) ?hi5 (by kernel_rfl) (by kernel_rfl) (by kernel_rfl) ?hQ5 (Or.inl ⟨?hw5, ?hy5⟩) (by assumption) ?rest5; (case hi5 => (simp only [List.getElem?_toArray, List.getElem?_cons_succ, List.getElem?_cons_zero]; rfl)); (case hQ5 => exact fun _ _ _ h => h); (case hw5 => rfl); (case hy5 => ((intro w hSw); (try dsimp only at hSw); go_simp; (try with_reducible rfl)))) | (refine wpAnyH_take (i := 2) (oi := ?oi6) (v := undef) ?hi6 (by kernel_rfl) (by kernel_rfl) (by kernel_rfl) ?hQ6 (Or.inr ⟨?hw6, rfl⟩) (by assumption) ?rest6; (case hi6 => (simp only [List.getElem?_toArray, List.getElem?_cons_succ, List.getElem?_cons_zero]; rfl)); (case hQ6 => exact fun _ _ _ h => h); (case hw6 => rfl))
  (try simp only [Act.put, List.setIfInBounds_toArray, List.set_cons_zero, List.set_cons_succ])
  refine wpAnyH_ready (rs := [3]) (by kernel_rfl) (by simp) ?_
  refine AllReadyH.cons (o := ?oi7) ?hi7 (fun K hK => ?rest7) AllReadyH.nil
  (case hi7 => (simp only [List.getElem?_toArray, List.getElem?_cons_succ, List.getElem?_cons_zero]; rfl))
  obtain ⟨s0, s1, s2, s3, s4, s5, s6, s7, s8, s9, s10, s11, s12⟩ := hHeld
  go_simp
  ((with_reducible refine (HT.out _).mono ?_); rintro e wx1 ⟨rfl, hb⟩)
  replace HW := Lib.hid (below_step HW.out hb)
  refine hK.out _ _ ?_ (fun hHeld => ?_)
  · (try dsimp only); exact ⟨cel_below hb s0, cel_below hb s1, cel_below hb s2, cel_below hb s3, cel_below hb s4, cel_below hb s5, cel_below hb s6, cel_below hb s7, cel_below hb s8, cel_below hb s9, cel_below hb s10, cel_below hb s11, cel_below hb s12⟩
  clear hK K s0 s1 s2 s3 s4 s5 s6 s7 s8 s9 s10 s11 s12 hb
  (try simp only [Act.put, List.setIfInBounds_toArray, List.set_cons_zero, List.set_cons_succ])
  first | (refine wpAnyH_take (i := 4) (oi := ?oi8) (v := ?v8) ?hi8 (by kernel_rfl) (by kernel_rfl) (by kernel_rfl) ?hQ8 (Or.inl ⟨?hw8, ?hy8⟩) (by assumption) ?rest8; (case hi8 => (simp only [List.getElem?_toArray, List.getElem?_cons_succ, List.getElem?_cons_zero]; rfl)); (case hQ8 => exact fun _ _ _ h => h); (case hw8 => rfl); (case hy8 => ((intro w hSw); (try dsimp only at hSw); go_simp; (try with_reducible rfl)))) | (refine wpAnyH_take (i := 4) (oi := ?oi9) (v := undef) ?hi9 (by kernel_rfl) (by kernel_rfl) (by kernel_rfl) ?hQ9 (Or.inr ⟨?hw9, rfl⟩) (by assumption) ?rest9; (case hi9 => (simp only [List.getElem?_toArray, List.getElem?_cons_succ, List.getElem?_cons_zero]; rfl)); (case hQ9 => exact fun _ _ _ h => h); (case hw9 => rfl))
  (try simp only [Act.put, List.setIfInBounds_toArray, List.set_cons_zero, List.set_cons_succ])
  first | (refine wpAnyH_take (i := 5) (oi := ?oi10) (v := ?v10) ?hi10 (by kernel_rfl) (by kernel_rfl) (by kernel_rfl) ?hQ10 (Or.inl ⟨?hw10, ?hy10⟩) (by assumption) ?rest10; (case hi10 => (simp only [List.getElem?_toArray, List.getElem?_cons_succ, List.getElem?_cons_zero]; rfl)); (case hQ10 => exact fun _ _ _ h => h); (case hw10 => rfl); (case hy10 => ((intro w hSw); (try dsimp only at hSw); go_simp; (try with_reducible rfl)))) | (refine wpAnyH_take (i := 5) (oi := ?oi11) (v := undef) ?hi11 (by kernel_rfl) (by kernel_rfl) (by kernel_rfl) ?hQ11 (Or.inr ⟨?hw11, rfl⟩) (by assumption) ?rest11; (case hi11 => (simp only [List.getElem?_toArray, List.getElem?_cons_succ, List.getElem?_cons_zero]; rfl)); (case hQ11 => exact fun _ _ _ h => h); (case hw11 => rfl))
  (try simp only [Act.put, List.setIfInBounds_toArray, List.set_cons_zero, List.set_cons_succ])
  first | (refine wpAnyH_take (i := 6) (oi := ?oi12) (v := ?v12) ?hi12 (by kernel_rfl) (by kernel_rfl) (by kernel_rfl) ?hQ12 (Or.inl ⟨?hw12, ?hy12⟩) (by assumption) ?rest12; (case hi12 => (simp only [List.getElem?_toArray, List.getElem?_cons_succ, List.getElem?_cons_zero]; rfl)); (case hQ12 => exact fun _ _ _ h => h); (case hw12 => rfl); (case hy12 => ((intro w hSw); (try dsimp only at hSw); go_simp; (try with_reducible rfl)))) | (refine wpAnyH_take (i := 6) (oi := ?oi13) (v := undef) ?hi13 (by kernel_rfl) (by kernel_rfl) (by kernel_rfl) ?hQ13 (Or.inr ⟨?hw13, rfl⟩) (by assumption) ?rest13; (case hi13 => (simp only [List.getElem?_toArray, List.getElem?_cons_succ, List.getElem?_cons_zero]; rfl)); (case hQ13 => exact fun _ _ _ h => h); (case hw13 => rfl))
  (try simp only [Act.put, List.setIfInBounds_toArray, List.set_cons_zero, List.set_cons_succ])
  first | (refine wpAnyH_take (i := 7) (oi := ?oi14) (v := ?v14) ?hi14 (by kernel_rfl) (by kernel_rfl) (by kernel_rfl) ?hQ14 (Or.inl ⟨?hw14, ?hy14⟩) (by assumption) ?rest14; (case hi14 => (simp only [List.getElem?_toArray, List.getElem?_cons_succ, List.getElem?_cons_zero]; rfl)); (case hQ14 => exact fun _ _ _ h => h); (case hw14 => rfl); (case hy14 => ((intro w hSw); (try dsimp only at hSw); go_simp; (try with_reducible rfl)))) | (refine wpAnyH_take (i := 7) (oi := ?oi15) (v := undef) ?hi15 (by kernel_rfl) (by kernel_rfl) (by kernel_rfl) ?hQ15 (Or.inr ⟨?hw15, rfl⟩) (by assumption) ?rest15; (case hi15 => (simp only [List.getElem?_toArray, List.getElem?_cons_succ, List.getElem?_cons_zero]; rfl)); (case hQ15 => exact fun _ _ _ h => h); (case hw15 => rfl))
  (try simp only [Act.put, List.setIfInBounds_toArray, List.set_cons_zero, List.set_cons_succ])
  first | (refine wpAnyH_take (i := 9) (oi := ?oi16) (v := ?v16) ?hi16 (by kernel_rfl) (by kernel_rfl) (by kernel_rfl) ?hQ16 (Or.inl ⟨?hw16, ?hy16⟩) (by assumption) ?rest16; (case hi16 => (simp only [List.getElem?_toArray, List.getElem?_cons_succ, List.getElem?_cons_zero]; rfl)); (case hQ16 => exact fun _ _ _ h => h); (case hw16 => rfl); (case hy16 => ((intro w hSw); (try dsimp only at hSw); go_simp; (try with_reducible rfl)))) | (refine wpAnyH_take (i := 9) (oi := ?oi17) (v := undef) ?hi17 (by kernel_rfl) (by kernel_rfl) (by kernel_rfl) ?hQ17 (Or.inr ⟨?hw17, rfl⟩) (by assumption) ?rest17; (case hi17 => (simp only [List.getElem?_toArray, List.getElem?_cons_succ, List.getElem?_cons_zero]; rfl)); (case hQ17 => exact fun _ _ _ h => h); (case hw17 => rfl))
  (try simp only [Act.put, List.setIfInBounds_toArray, List.set_cons_zero, List.set_cons_succ])
  first | (refine wpAnyH_take (i := 10) (oi := ?oi18) (v := ?v18) ?hi18 (by kernel_rfl) (by kernel_rfl) (by kernel_rfl) ?hQ18 (Or.inl ⟨?hw18, ?hy18⟩) (by assumption) ?rest18; (case hi18 => (simp only [List.getElem?_toArray, List.getElem?_cons_succ, List.getElem?_cons_zero]; rfl)); (case hQ18 => exact fun _ _ _ h => h); (case hw18 => rfl); (case hy18 => ((intro w hSw); (try dsimp only at hSw); go_simp; (try with_reducible rfl)))) | (refine wpAnyH_take (i := 10) (oi := ?oi19) (v := undef) ?hi19 (by kernel_rfl) (by kernel_rfl) (by kernel_rfl) ?hQ19 (Or.inr ⟨?hw19, rfl⟩) (by assumption) ?rest19; (case hi19 => (simp only [List.getElem?_toArray, List.getElem?_cons_succ, List.getElem?_cons_zero]; rfl)); (case hQ19 => exact fun _ _ _ h => h); (case hw19 => rfl))
  (try simp only [Act.put, List.setIfInBounds_toArray, List.set_cons_zero, List.set_cons_succ])
  refine wpAnyH_ready (rs := [8]) (by kernel_rfl) (by simp) ?_
  refine AllReadyH.cons (o := ?oi20) ?hi20 (fun K hK => ?rest20) AllReadyH.nil
  (case hi20 => (simp only [List.getElem?_toArray, List.getElem?_cons_succ, List.getElem?_cons_zero]; rfl))
  obtain ⟨s0, s1, s2, s3, s4, s5, s6, s7, s8, s9, s10, s11, s12⟩ := hHeld
  go_simp
  ((with_reducible refine (HP.out _).mono ?_); rintro e wx2 ⟨u1, rfl, hu, hb⟩)
  replace HW := Lib.hid (below_step HW.out hb)
  have HU1 := Lib.hid hu
  clear hu
  refine hK.out _ _ ?_ (fun hHeld => ?_)
  · (try dsimp only); exact ⟨cel_below hb s0, cel_below hb s1, cel_below hb s2, cel_below hb s3, cel_below hb s4, cel_below hb s5, cel_below hb s6, cel_below hb s7, cel_below hb s8, cel_below hb s9, cel_below hb s10, cel_below hb s11, cel_below hb s12⟩
  clear hK K s0 s1 s2 s3 s4 s5 s6 s7 s8 s9 s10 s11 s12 hb
  (try simp only [Act.put, List.setIfInBounds_toArray, List.set_cons_zero, List.set_cons_succ])
  refine wpAnyH_ready (rs := [11]) (by kernel_rfl) (by simp) ?_
  refine AllReadyH.cons (o := ?oi21) ?hi21 (fun K hK => ?rest21) AllReadyH.nil
  (case hi21 => (simp only [List.getElem?_toArray, List.getElem?_cons_succ, List.getElem?_cons_zero]; rfl))
  obtain ⟨s0, s1, s2, s3, s4, s5, s6, s7, s8, s9, s10, s11, s12⟩ := hHeld
  go_simp
  ((with_reducible refine (HA.out _).mono ?_); rintro e wx3 ⟨u2, rfl, hu, hb⟩)
  replace HW := Lib.hid (below_step HW.out hb)
  have HU2 := Lib.hid hu
  clear hu
  replace HU1 := Lib.hid (hasInts_keep HU1.out hb)
  refine hK.out _ _ ?_ (fun hHeld => ?_)
  · (try dsimp only); exact ⟨cel_below hb s0, cel_below hb s1, cel_below hb s2, cel_below hb s3, cel_below hb s4, cel_below hb s5, cel_below hb s6, cel_below hb s7, cel_below hb s8, cel_below hb s9, cel_below hb s10, cel_below hb s11, cel_below hb s12⟩
  clear hK K s0 s1 s2 s3 s4 s5 s6 s7 s8 s9 s10 s11 s12 hb
  (try simp only [Act.put, List.setIfInBounds_toArray, List.set_cons_zero, List.set_cons_succ])
  refine wpAnyH_ready (rs := [12]) (by kernel_rfl) (by simp) ?_
  refine AllReadyH.cons (o := ?oi22) ?hi22 (fun K hK => ?rest22) AllReadyH.nil
  (case hi22 => (simp only [List.getElem?_toArray, List.getElem?_cons_succ, List.getElem?_cons_zero]; rfl))
  obtain ⟨s0, s1, s2, s3, s4, s5, s6, s7, s8, s9, s10, s11, s12⟩ := hHeld
  go_simp
  ((with_reducible refine (rints15_s P HU1.out HU2.out).mono ?_); rintro e wx4 ⟨rfl, hb⟩)
  replace HW := Lib.hid (below_step HW.out hb)
  refine hK.out _ _ ?_ (fun hHeld => ?_)
  · (try dsimp only); exact ⟨cel_below hb s0, cel_below hb s1, cel_below hb s2, cel_below hb s3, cel_below hb s4, cel_below hb s5, cel_below hb s6, cel_below hb s7, cel_below hb s8, cel_below hb s9, cel_below hb s10, cel_below hb s11, cel_below hb s12⟩
  clear hK K s0 s1 s2 s3 s4 s5 s6 s7 s8 s9 s10 s11 s12 hb
  (try simp only [Act.put, List.setIfInBounds_toArray, List.set_cons_zero, List.set_cons_succ])
  first | (refine wpAnyH_take (i := 13) (oi := ?oi23) (v := ?v23) ?hi23 (by kernel_rfl) (by kernel_rfl) (by kernel_rfl) ?hQ23 (Or.inl ⟨?hw23, ?hy23⟩) (by assumption) ?rest23; (case hi23 => (simp only [List.getElem?_toArray, List.getElem?_cons_succ, List.getElem?_cons_zero]; rfl)); (case hQ23 => exact fun _ _ _ h => h); (case hw23 => rfl); (case hy23 => ((intro w hSw); (try dsimp only at hSw); go_simp; (try with_reducible rfl)))) | (refine wpAnyH_take (i := 13) (oi := ?oi24) (v := undef) ?hi24 (by kernel_rfl) (by kernel_rfl) (by kernel_rfl) ?hQ24 (Or.inr ⟨?hw24, rfl⟩) (by assumption) ?rest24; (case hi24 => (simp only [List.getElem?_toArray, List.getElem?_cons_succ, List.getElem?_cons_zero]; rfl)); (case hQ24 => exact fun _ _ _ h => h); (case hw24 => rfl))
  (try simp only [Act.put, List.setIfInBounds_toArray, List.set_cons_zero, List.set_cons_succ])
  first | (refine wpAnyH_take (i := 14) (oi := ?oi25) (v := ?v25) ?hi25 (by kernel_rfl) (by kernel_rfl) (by kernel_rfl) ?hQ25 (Or.inl ⟨?hw25, ?hy25⟩) (by assumption) ?rest25; (case hi25 => (simp only [List.getElem?_toArray, List.getElem?_cons_succ, List.getElem?_cons_zero]; rfl)); (case hQ25 => exact fun _ _ _ h => h); (case hw25 => rfl); (case hy25 => ((intro w hSw); (try dsimp only at hSw); go_simp; (try with_reducible rfl)))) | (refine wpAnyH_take (i := 14) (oi := ?oi26) (v := undef) ?hi26 (by kernel_rfl) (by kernel_rfl) (by kernel_rfl) ?hQ26 (Or.inr ⟨?hw26, rfl⟩) (by assumption) ?rest26; (case hi26 => (simp only [List.getElem?_toArray, List.getElem?_cons_succ, List.getElem?_cons_zero]; rfl)); (case hQ26 => exact fun _ _ _ h => h); (case hw26 => rfl))
  (try simp only [Act.put, List.setIfInBounds_toArray, List.set_cons_zero, List.set_cons_succ])
  first | (refine wpAnyH_take (i := 15) (oi := ?oi27) (v := ?v27) ?hi27 (by kernel_rfl) (by kernel_rfl) (by kernel_rfl) ?hQ27 (Or.inl ⟨?hw27, ?hy27⟩) (by assumption) ?rest27; (case hi27 => (simp only [List.getElem?_toArray, List.getElem?_cons_succ, List.getElem?_cons_zero]; rfl)); (case hQ27 => exact fun _ _ _ h => h); (case hw27 => rfl); (case hy27 => ((intro w hSw); (try dsimp only at hSw); go_simp; (try with_reducible rfl)))) | (refine wpAnyH_take (i := 15) (oi := ?oi28) (v := undef) ?hi28 (by kernel_rfl) (by kernel_rfl) (by kernel_rfl) ?hQ28 (Or.inr ⟨?hw28, rfl⟩) (by assumption) ?rest28; (case hi28 => (simp only [List.getElem?_toArray, List.getElem?_cons_succ, List.getElem?_cons_zero]; rfl)); (case hQ28 => exact fun _ _ _ h => h); (case hw28 => rfl))
  (try simp only [Act.put, List.setIfInBounds_toArray, List.set_cons_zero, List.set_cons_succ])
  first | (refine wpAnyH_take (i := 16) (oi := ?oi29) (v := ?v29) ?hi29 (by kernel_rfl) (by kernel_rfl) (by kernel_rfl) ?hQ29 (Or.inl ⟨?hw29, ?hy29⟩) (by assumption) ?rest29; (case hi29 => (simp only [List.getElem?_toArray, List.getElem?_cons_succ, List.getElem?_cons_zero]; rfl)); (case hQ29 => exact fun _ _ _ h => h); (case hw29 => rfl); (case hy29 => ((intro w hSw); (try dsimp only at hSw); go_simp; (try with_reducible rfl)))) | (refine wpAnyH_take (i := 16) (oi := ?oi30) (v := undef) ?hi30 (by kernel_rfl) (by kernel_rfl) (by kernel_rfl) ?hQ30 (Or.inr ⟨?hw30, rfl⟩) (by assumption) ?rest30; (case hi30 => (simp only [List.getElem?_toArray, List.getElem?_cons_succ, List.getElem?_cons_zero]; rfl)); (case hQ30 => exact fun _ _ _ h => h); (case hw30 => rfl))
  (try simp only [Act.put, List.setIfInBounds_toArray, List.set_cons_zero, List.set_cons_succ])
  first | (refine wpAnyH_take (i := 18) (oi := ?oi31) (v := ?v31) ?hi31 (by kernel_rfl) (by kernel_rfl) (by kernel_rfl) ?hQ31 (Or.inl ⟨?hw31, ?hy31⟩) (by assumption) ?rest31; (case hi31 => (simp only [List.getElem?_toArray, List.getElem?_cons_succ, List.getElem?_cons_zero]; rfl)); (case hQ31 => exact fun _ _ _ h => h); (case hw31 => rfl); (case hy31 => ((intro w hSw); (try dsimp only at hSw); go_simp; (try with_reducible rfl)))) | (refine wpAnyH_take (i := 18) (oi := ?oi32) (v := undef) ?hi32 (by kernel_rfl) (by kernel_rfl) (by kernel_rfl) ?hQ32 (Or.inr ⟨?hw32, rfl⟩) (by assumption) ?rest32; (case hi32 => (simp only [List.getElem?_toArray, List.getElem?_cons_succ, List.getElem?_cons_zero]; rfl)); (case hQ32 => exact fun _ _ _ h => h); (case hw32 => rfl))
  (try simp only [Act.put, List.setIfInBounds_toArray, List.set_cons_zero, List.set_cons_succ])
  first | (refine wpAnyH_take (i := 19) (oi := ?oi33) (v := ?v33) ?hi33 (by kernel_rfl) (by kernel_rfl) (by kernel_rfl) ?hQ33 (Or.inl ⟨?hw33, ?hy33⟩) (by assumption) ?rest33; (case hi33 => (simp only [List.getElem?_toArray, List.getElem?_cons_succ, List.getElem?_cons_zero]; rfl)); (case hQ33 => exact fun _ _ _ h => h); (case hw33 => rfl); (case hy33 => ((intro w hSw); (try dsimp only at hSw); go_simp; (try with_reducible rfl)))) | (refine wpAnyH_take (i := 19) (oi := ?oi34) (v := undef) ?hi34 (by kernel_rfl) (by kernel_rfl) (by kernel_rfl) ?hQ34 (Or.inr ⟨?hw34, rfl⟩) (by assumption) ?rest34; (case hi34 => (simp only [List.getElem?_toArray, List.getElem?_cons_succ, List.getElem?_cons_zero]; rfl)); (case hQ34 => exact fun _ _ _ h => h); (case hw34 => rfl))
  (try simp only [Act.put, List.setIfInBounds_toArray, List.set_cons_zero, List.set_cons_succ])
  refine wpAnyH_ready (rs := [17]) (by kernel_rfl) (by simp) ?_
  refine AllReadyH.cons (o := ?oi35) ?hi35 (fun K hK => ?rest35) AllReadyH.nil
  (case hi35 => (simp only [List.getElem?_toArray, List.getElem?_cons_succ, List.getElem?_cons_zero]; rfl))
  obtain ⟨s0, s1, s2, s3, s4, s5, s6, s7, s8, s9, s10, s11, s12⟩ := hHeld
  go_simp
  ((with_reducible refine (HI.out _ (hasInts_keep HV.out HW.out)).mono ?_); rintro e wx5 ⟨u3, rfl, hu, hb⟩)
  replace HW := Lib.hid (below_step HW.out hb)
  have HX1 := Lib.hid hu
  clear hu
  refine hK.out _ _ ?_ (fun hHeld => ?_)
  · (try dsimp only); exact ⟨cel_below hb s0, cel_below hb s1, cel_below hb s2, cel_below hb s3, cel_below hb s4, cel_below hb s5, cel_below hb s6, cel_below hb s7, cel_below hb s8, cel_below hb s9, cel_below hb s10, cel_below hb s11, cel_below hb s12⟩
  clear hK K s0 s1 s2 s3 s4 s5 s6 s7 s8 s9 s10 s11 s12 hb
  (try simp only [Act.put, List.setIfInBounds_toArray, List.set_cons_zero, List.set_cons_succ])
  refine wpAnyH_ready (rs := [20]) (by kernel_rfl) (by simp) ?_
  refine AllReadyH.cons (o := ?oi36) ?hi36 (fun K hK => ?rest36) AllReadyH.nil
  (case hi36 => (simp only [List.getElem?_toArray, List.getElem?_cons_succ, List.getElem?_cons_zero]; rfl))
  obtain ⟨s0, s1, s2, s3, s4, s5, s6, s7, s8, s9, s10, s11, s12⟩ := hHeld
  go_simp
  ((with_reducible refine (HJ.out _ (hasInts_keep HV.out HW.out)).mono ?_); rintro e wx6 ⟨u4, rfl, hu, hb⟩)
  replace HW := Lib.hid (below_step HW.out hb)
  have HX2 := Lib.hid hu
  clear hu
  replace HX1 := Lib.hid (hasAccs_keep HX1.out hb)
  refine hK.out _ _ ?_ (fun hHeld => ?_)
  · (try dsimp only); exact ⟨cel_below hb s0, cel_below hb s1, cel_below hb s2, cel_below hb s3, cel_below hb s4, cel_below hb s5, cel_below hb s6, cel_below hb s7, cel_below hb s8, cel_below hb s9, cel_below hb s10, cel_below hb s11, cel_below hb s12⟩
  clear hK K s0 s1 s2 s3 s4 s5 s6 s7 s8 s9 s10 s11 s12 hb
  (try simp only [Act.put, List.setIfInBounds_toArray, List.set_cons_zero, List.set_cons_succ])
  refine wpAnyH_ready (rs := [21]) (by kernel_rfl) (by simp) ?_
  refine AllReadyH.cons (o := ?oi37) ?hi37 (fun K hK => ?rest37) AllReadyH.nil
  (case hi37 => (simp only [List.getElem?_toArray, List.getElem?_cons_succ, List.getElem?_cons_zero]; rfl))
  obtain ⟨s0, s1, s2, s3, s4, s5, s6, s7, s8, s9, s10, s11, s12⟩ := hHeld
  go_simp
  ((with_reducible refine (raccs_s I HX1.out HX2.out).mono ?_); rintro e wx7 ⟨rfl, hb⟩)
  replace HW := Lib.hid (below_step HW.out hb)
  refine hK.out _ _ ?_ (fun hHeld => ?_)
  · (try dsimp only); exact ⟨cel_below hb s0, cel_below hb s1, cel_below hb s2, cel_below hb s3, cel_below hb s4, cel_below hb s5, cel_below hb s6, cel_below hb s7, cel_below hb s8, cel_below hb s9, cel_below hb s10, cel_below hb s11, cel_below hb s12⟩
  clear hK K s0 s1 s2 s3 s4 s5 s6 s7 s8 s9 s10 s11 s12 hb
  (try simp only [Act.put, List.setIfInBounds_toArray, List.set_cons_zero, List.set_cons_succ])
  first | (refine wpAnyH_take (i := 22) (oi := ?oi38) (v := ?v38) ?hi38 (by kernel_rfl) (by kernel_rfl) (by kernel_rfl) ?hQ38 (Or.inl ⟨?hw38, ?hy38⟩) (by assumption) ?rest38; (case hi38 => (simp only [List.getElem?_toArray, List.getElem?_cons_succ, List.getElem?_cons_zero]; rfl)); (case hQ38 => exact fun _ _ _ h => h); (case hw38 => rfl); (case hy38 => ((intro w hSw); (try dsimp only at hSw); go_simp; (try with_reducible rfl)))) | (refine wpAnyH_take (i := 22) (oi := ?oi39) (v := undef) ?hi39 (by kernel_rfl) (by kernel_rfl) (by kernel_rfl) ?hQ39 (Or.inr ⟨?hw39, rfl⟩) (by assumption) ?rest39; (case hi39 => (simp only [List.getElem?_toArray, List.getElem?_cons_succ, List.getElem?_cons_zero]; rfl)); (case hQ39 => exact fun _ _ _ h => h); (case hw39 => rfl))
  (try simp only [Act.put, List.setIfInBounds_toArray, List.set_cons_zero, List.set_cons_succ])
  first | (refine wpAnyH_take (i := 23) (oi := ?oi40) (v := ?v40) ?hi40 (by kernel_rfl) (by kernel_rfl) (by kernel_rfl) ?hQ40 (Or.inl ⟨?hw40, ?hy40⟩) (by assumption) ?rest40; (case hi40 => (simp only [List.getElem?_toArray, List.getElem?_cons_succ, List.getElem?_cons_zero]; rfl)); (case hQ40 => exact fun _ _ _ h => h); (case hw40 => rfl); (case hy40 => ((intro w hSw); (try dsimp only at hSw); go_simp; (try with_reducible rfl)))) | (refine wpAnyH_take (i := 23) (oi := ?oi41) (v := undef) ?hi41 (by kernel_rfl) (by kernel_rfl) (by kernel_rfl) ?hQ41 (Or.inr ⟨?hw41, rfl⟩) (by assumption) ?rest41; (case hi41 => (simp only [List.getElem?_toArray, List.getElem?_cons_succ, List.getElem?_cons_zero]; rfl)); (case hQ41 => exact fun _ _ _ h => h); (case hw41 => rfl))
  (try simp only [Act.put, List.setIfInBounds_toArray, List.set_cons_zero, List.set_cons_succ])
  refine wpAnyH_done (by kernel_rfl) ?_ _
  obtain ⟨s0, s1, s2, s3, s4, s5, s6, s7, s8, s9, s10, s11, s12⟩ := hHeld
  go_wp2
  go_ret
  exact ⟨rfl, HW.out⟩

theorem walk (w : World) (c : Cf) (i1 : I64 c.t) (i2 : I64 c.l) (i3 : I64 c.k) (i4 : I64 c.s) (i5 : I64 c.m) (n : Int) (w1 : (Lit.int .i64 n).wf = true) (v : Value) (zs : List Int) (hv : HasInts w v zs) :
    Calls Try.prog 7 #[c.v, .int .i64 n, v] w fun e w' => e = .returned (.bool true) ∧ Below w.heap.size w w' := by
  have hv0 := hv
  obtain ⟨a, cap, rfl, _, _⟩ := hv0
  by_cases hl : 60 < zs.length
  · exact walk_big w c n a _ cap hl
  by_cases hc : c.ok
  · exact walk_yes w c n a _ cap zs rfl hv (by omega) hc
  · exact walk_no w c n a _ cap (by omega) hc

theorem own : ownKnob Try.prog.godebug = none := by kernel_rfl
theorem laidOut : laidOutB Try.prog = true := by kernel_rfl

set_option maxRecDepth 100000 in
theorem lifted (os : Os) (started : os.Started) (H : Type) (enc : TypeId × Value → H) :
    ReturnsInHanded {} Try.checked os 7 .any (Rows.layoutMatchesSpecSpec.pre6 enc Try.prog Try.f7 Rows.layoutMatchesSpecRow.domain false) (Rows.layoutMatchesSpecSpec.post enc Try.prog Try.f7 false true false false) := by
  refine returnsInHanded_of_change (C := Try.checked) own started (by kernel_rfl) Try.func7
    (ChangeSpec.witness6 (enc := enc) (C := Try.checked) false ⟨#[], #[.agg #[.int .i64 0, .int .i64 0, .int .i64 0, .int .i64 0, .int .i64 0], .int .i64 0, .slice none 0 0], []⟩ 8 (by kernel_rfl) (by kernel_rfl) (by kernel_rfl) (by kernel_rfl)) ?_
  intro W base args ds gs before hval0 hW hcnd _
  have hval : ∀ (j : Nat) t v, Try.f7.params[j]? = some t → args[j]? = some v → Value.okWide Try.prog W .any base t v := hval0
  have hW' := hW
  obtain ⟨p, q, hA0, hV, rfl, hfz, hnd⟩ := hW
  have hA : DataW.TrodAll enc Try.prog W 0 (fun _ => true) true Try.f7.params.toList args.toList ds p := hA0
  rw [Try.params7] at hA hval
  obtain ⟨v0, vs0, d0, ds0, p0, q0, hargs, rfl, rfl, h0, r0⟩ := trodAll_cons hA
  obtain ⟨v1, vs1, d1, ds1, p1, q1, rfl, rfl, rfl, h1, r1⟩ := trodAll_cons r0
  obtain ⟨v2, vs2, d2, ds2, p2, q2, rfl, rfl, rfl, h2, r2⟩ := trodAll_cons r1
  obtain ⟨rfl, rfl, rfl⟩ := trodAll_nil r2
  obtain rfl : args = #[v0, v1, v2] := by cases args; simp_all
  obtain ⟨rfl, rfl⟩ := trodVars_none hV
  clear hA0 hval0
  simp only [List.append_nil] at hW'
  have lt0 : ∀ x ∈ p0, x.block < W.heap.size := fun x hx => hW'.lt x (by simp [hx])
  have lt1 : ∀ x ∈ p1, x.block < W.heap.size := fun x hx => hW'.lt x (by simp [hx])
  have lt2 : ∀ x ∈ p2, x.block < W.heap.size := fun x hx => hW'.lt x (by simp [hx])
  have back0 : ∀ W', Below W.heap.size W W' → DataW.Trod enc Try.prog W' 0 (fun b => decide (b < W.heap.size)) true 51 v0 d0 p0 := fun W' hb => Below.trod laidOut (by kernel_rfl) (of_decide_eq_true (by kernel_rfl)) h0 hb lt0
  have back1 : ∀ W', Below W.heap.size W W' → DataW.Trod enc Try.prog W' 0 (fun b => decide (b < W.heap.size)) true 3 v1 d1 p1 := fun W' hb => Below.trod laidOut (by kernel_rfl) (of_decide_eq_true (by kernel_rfl)) h1 hb lt1
  have back2 : ∀ W', Below W.heap.size W W' → DataW.Trod enc Try.prog W' 0 (fun b => decide (b < W.heap.size)) true 22 v2 d2 p2 := fun W' hb => Below.trod laidOut (by kernel_rfl) (of_decide_eq_true (by kernel_rfl)) h2 hb lt2
  obtain ⟨cf0, rfl, ia0, ib0, ic0, id0, ie0⟩ := open_conf (hval 0 51 v0 rfl rfl) h0
  obtain ⟨a1, rfl, rfl, rfl, w1⟩ := open_int Try.underlying3 (hval 1 3 v1 rfl rfl) h1
  obtain ⟨z2, k2⟩ := open_intsArg (hval 2 22 v2 rfl rfl) h2
  refine (walk W cf0 ia0 ib0 ic0 id0 ie0 a1 w1 v2 z2 k2).mono fun e W' ⟨he, hg⟩ => ?_
  subst he
  exact ⟨_, rfl, _, _, _, [], _, [], hW', (trodAll_cons_mk (shut_bool Try.underlying4 _) trodAll_mk0), (trodAll_cons_mk (back0 _ hg) (trodAll_cons_mk (back1 _ hg) (trodAll_cons_mk (back2 _ hg) trodAll_mk0))), rfl, hg.frame _, fun h => by cases h⟩

theorem over : Rows.layoutMatchesSpecRow.holds Try.pinned (OpenSpec.ofChange Rows.layoutMatchesSpecSpec) :=
  OpenClaim.holds_of_wide 7 Try.f7 rfl rfl rfl rfl rfl rfl rfl ⟨rfl, rfl, rfl, rfl, rfl⟩ rfl rfl rfl rfl rfl (by kernel_rfl) Try.func7 (by kernel_rfl)
    (of_decide_eq_true (by kernel_rfl)) (by unfold Func.isWrapper; first | (rw [if_pos (by decide +kernel)]; kernel_rfl) | (rw [if_neg (by decide +kernel)]; exact ⟨rfl, rfl⟩))
    (fun os started H enc _ => lifted os started H enc)

/-- The given statement. -/
theorem proved : Rows.LayoutMatchesSpecSaid :=
  over
#print axioms proved
end Go.Proofs.Ytimjodpndhckdaa.layoutMatchesSpec
