/- LayoutForFits: for every code of at most 40 threads and 60 locations, For returns what the specification says, and the layout of that configuration has cells for exactly the code's threads, locations and locks. No condition. -/
import Derived.Test.YtimjodpndhckdaaRows
import Derived.Test.YtimjodpndhckdaaAux
import Derived.Test.YtimjodpndhckdaaLayS
import Derived.Test.YtimjodpndhckdaaLayO
import Derived.Outline
import Derived.Deep.RegionHeld3
import Derived.IntWalk
import Derived.WalkKit
import Derived.ProofKit
import Derived.OpenShut
import Derived.Lib.Hide
import Derived.Carry
namespace Go.Proofs.Ytimjodpndhckdaa.layoutForFits
open Go.ChangeShapes Go.WideShapes Go.ChangeAt Go.RowKit
set_option linter.unusedVariables false

set_option maxHeartbeats 4000000 in
set_option maxRecDepth 100000 in
theorem walk_t (w : World) (f0 : Value) (a1 : Option Addr) (t c1 : Nat) (f2 : Value) (a3 : Option Addr) (n c3 : Nat) (f4 f5 : Value) (k s m : Int) (ht : 40 < t) : Calls Try.prog 10 #[.agg #[f0, .slice a1 t c1, f2, .slice a3 n c3, f4, f5, .int .i64 k], .int .i64 s, .int .i64 m] w fun e w' => e = .returned (.bool true) ∧ Below w.heap.size w w' := by
  go_enter Try.func10, Try.ntmps10
  go_wp2_with fail
  ((with_reducible refine (sane15_any _).mono ?_); rintro e w1 ⟨rfl, hb⟩)
  have HW := Lib.hid (below_alloc1 hb)
  have zz : w.heap.size + 1 ≤ w1.heap.size := by have := hb.size; (try simp at this); omega
  have ccq0 : w1.cell? ⟨w.heap.size, 0, none⟩ = some (f0) := cel_below hb (by rw [World.cell?_alloc_at _ _ _ _ (by simp)]; rfl)
  have ccq1 : w1.cell? ⟨w.heap.size, 1, none⟩ = some (.slice a1 t c1) := cel_below hb (by rw [World.cell?_alloc_at _ _ _ _ (by simp)]; rfl)
  have ccq2 : w1.cell? ⟨w.heap.size, 2, none⟩ = some (f2) := cel_below hb (by rw [World.cell?_alloc_at _ _ _ _ (by simp)]; rfl)
  have ccq3 : w1.cell? ⟨w.heap.size, 3, none⟩ = some (.slice a3 n c3) := cel_below hb (by rw [World.cell?_alloc_at _ _ _ _ (by simp)]; rfl)
  have ccq4 : w1.cell? ⟨w.heap.size, 4, none⟩ = some (f4) := cel_below hb (by rw [World.cell?_alloc_at _ _ _ _ (by simp)]; rfl)
  have ccq5 : w1.cell? ⟨w.heap.size, 5, none⟩ = some (f5) := cel_below hb (by rw [World.cell?_alloc_at _ _ _ _ (by simp)]; rfl)
  have ccq6 : w1.cell? ⟨w.heap.size, 6, none⟩ = some (.int .i64 k) := cel_below hb (by rw [World.cell?_alloc_at _ _ _ _ (by simp)]; rfl)
  have z0 : w.heap.size < w1.heap.size := by omega
  clear hb zz
  go_wp2
  go_ret
  exact ⟨rfl, HW.out⟩
set_option maxHeartbeats 4000000 in
set_option maxRecDepth 100000 in
theorem walk_n (w : World) (f0 : Value) (a1 : Option Addr) (t c1 : Nat) (f2 : Value) (a3 : Option Addr) (n c3 : Nat) (f4 f5 : Value) (k s m : Int) (ht : t ≤ 40) (hn : 60 < n) : Calls Try.prog 10 #[.agg #[f0, .slice a1 t c1, f2, .slice a3 n c3, f4, f5, .int .i64 k], .int .i64 s, .int .i64 m] w fun e w' => e = .returned (.bool true) ∧ Below w.heap.size w w' := by
  have ht' : decide ((40 : Int) < t) = false := by simp; omega
  go_enter Try.func10, Try.ntmps10
  go_wp2_with fail
  ((with_reducible refine (sane15_any _).mono ?_); rintro e w1 ⟨rfl, hb⟩)
  have HW := Lib.hid (below_alloc1 hb)
  have zz : w.heap.size + 1 ≤ w1.heap.size := by have := hb.size; (try simp at this); omega
  have ccq0 : w1.cell? ⟨w.heap.size, 0, none⟩ = some (f0) := cel_below hb (by rw [World.cell?_alloc_at _ _ _ _ (by simp)]; rfl)
  have ccq1 : w1.cell? ⟨w.heap.size, 1, none⟩ = some (.slice a1 t c1) := cel_below hb (by rw [World.cell?_alloc_at _ _ _ _ (by simp)]; rfl)
  have ccq2 : w1.cell? ⟨w.heap.size, 2, none⟩ = some (f2) := cel_below hb (by rw [World.cell?_alloc_at _ _ _ _ (by simp)]; rfl)
  have ccq3 : w1.cell? ⟨w.heap.size, 3, none⟩ = some (.slice a3 n c3) := cel_below hb (by rw [World.cell?_alloc_at _ _ _ _ (by simp)]; rfl)
  have ccq4 : w1.cell? ⟨w.heap.size, 4, none⟩ = some (f4) := cel_below hb (by rw [World.cell?_alloc_at _ _ _ _ (by simp)]; rfl)
  have ccq5 : w1.cell? ⟨w.heap.size, 5, none⟩ = some (f5) := cel_below hb (by rw [World.cell?_alloc_at _ _ _ _ (by simp)]; rfl)
  have ccq6 : w1.cell? ⟨w.heap.size, 6, none⟩ = some (.int .i64 k) := cel_below hb (by rw [World.cell?_alloc_at _ _ _ _ (by simp)]; rfl)
  have z0 : w.heap.size < w1.heap.size := by omega
  clear hb zz
  go_wp2
  go_ret
  exact ⟨rfl, HW.out⟩
set_option maxHeartbeats 4000000 in
set_option maxRecDepth 100000 in
theorem walk_no (w : World) (f0 : Value) (a1 : Option Addr) (t c1 : Nat) (f2 : Value) (a3 : Option Addr) (n c3 : Nat) (f4 f5 : Value) (k s m : Int) (ht : t ≤ 40) (hn : n ≤ 60) (hc : ¬(progCf t n k s m).ok) : Calls Try.prog 10 #[.agg #[f0, .slice a1 t c1, f2, .slice a3 n c3, f4, f5, .int .i64 k], .int .i64 s, .int .i64 m] w fun e w' => e = .returned (.bool true) ∧ Below w.heap.size w w' := by
  have ht' : decide ((40 : Int) < t) = false := by simp; omega
  have HF := Lib.hid (fun w => for_f f0 (.slice a1 t c1) f2 (.slice a3 n c3) f4 f5 t n k s m w ⟨_, _, rfl⟩ ⟨_, _, rfl⟩ hc)
  have HR := Lib.hid (fun w => rfor_f f0 (.slice a1 t c1) f2 (.slice a3 n c3) f4 f5 t n k s m w ⟨_, _, rfl⟩ ⟨_, _, rfl⟩ hc)
  have hne : ∀ w, (binOp .neq 51 cf0.v cf0.v).run Try.prog w = .ok (.bool false) w := fun w => conf_neq cf0 cf0 w
  unfold cf0 Cf.v at HF HR hne
  clear hc
  go_enter Try.func10, Try.ntmps10
  go_wp2_with fail
  ((with_reducible refine (sane15_any _).mono ?_); rintro e w1 ⟨rfl, hb⟩)
  have HW := Lib.hid (below_alloc1 hb)
  have zz : w.heap.size + 1 ≤ w1.heap.size := by have := hb.size; (try simp at this); omega
  have ccq0 : w1.cell? ⟨w.heap.size, 0, none⟩ = some (f0) := cel_below hb (by rw [World.cell?_alloc_at _ _ _ _ (by simp)]; rfl)
  have ccq1 : w1.cell? ⟨w.heap.size, 1, none⟩ = some (.slice a1 t c1) := cel_below hb (by rw [World.cell?_alloc_at _ _ _ _ (by simp)]; rfl)
  have ccq2 : w1.cell? ⟨w.heap.size, 2, none⟩ = some (f2) := cel_below hb (by rw [World.cell?_alloc_at _ _ _ _ (by simp)]; rfl)
  have ccq3 : w1.cell? ⟨w.heap.size, 3, none⟩ = some (.slice a3 n c3) := cel_below hb (by rw [World.cell?_alloc_at _ _ _ _ (by simp)]; rfl)
  have ccq4 : w1.cell? ⟨w.heap.size, 4, none⟩ = some (f4) := cel_below hb (by rw [World.cell?_alloc_at _ _ _ _ (by simp)]; rfl)
  have ccq5 : w1.cell? ⟨w.heap.size, 5, none⟩ = some (f5) := cel_below hb (by rw [World.cell?_alloc_at _ _ _ _ (by simp)]; rfl)
  have ccq6 : w1.cell? ⟨w.heap.size, 6, none⟩ = some (.int .i64 k) := cel_below hb (by rw [World.cell?_alloc_at _ _ _ _ (by simp)]; rfl)
  have z0 : w.heap.size < w1.heap.size := by omega
  clear hb zz
  go_wp2_with fail
  ((with_reducible refine (HF.out _).mono ?_); rintro e w2 ⟨rfl, hb⟩)
  replace HW := Lib.hid (below_step HW.out (hb))
  have zz : w1.heap.size + 0 ≤ w2.heap.size := by have := hb.size; (try simp at this); omega
  replace ccq0 : w2.cell? ⟨w.heap.size, 0, none⟩ = some (f0) := cel_below hb (ccq0)
  replace ccq1 : w2.cell? ⟨w.heap.size, 1, none⟩ = some (.slice a1 t c1) := cel_below hb (ccq1)
  replace ccq2 : w2.cell? ⟨w.heap.size, 2, none⟩ = some (f2) := cel_below hb (ccq2)
  replace ccq3 : w2.cell? ⟨w.heap.size, 3, none⟩ = some (.slice a3 n c3) := cel_below hb (ccq3)
  replace ccq4 : w2.cell? ⟨w.heap.size, 4, none⟩ = some (f4) := cel_below hb (ccq4)
  replace ccq5 : w2.cell? ⟨w.heap.size, 5, none⟩ = some (f5) := cel_below hb (ccq5)
  replace ccq6 : w2.cell? ⟨w.heap.size, 6, none⟩ = some (.int .i64 k) := cel_below hb (ccq6)
  replace z0 : w.heap.size < w2.heap.size := by omega
  clear hb zz
  go_wp2_with fail
  ((with_reducible refine (HR.out _).mono ?_); rintro e w3 ⟨rfl, hb⟩)
  replace HW := Lib.hid (below_step HW.out (below_alloc1 hb))
  have zz : w2.heap.size + 1 ≤ w3.heap.size := by have := hb.size; (try simp at this); omega
  replace ccq0 : w3.cell? ⟨w.heap.size, 0, none⟩ = some (f0) := cel_below hb (cell_alloc _ (ccq0))
  replace ccq1 : w3.cell? ⟨w.heap.size, 1, none⟩ = some (.slice a1 t c1) := cel_below hb (cell_alloc _ (ccq1))
  replace ccq2 : w3.cell? ⟨w.heap.size, 2, none⟩ = some (f2) := cel_below hb (cell_alloc _ (ccq2))
  replace ccq3 : w3.cell? ⟨w.heap.size, 3, none⟩ = some (.slice a3 n c3) := cel_below hb (cell_alloc _ (ccq3))
  replace ccq4 : w3.cell? ⟨w.heap.size, 4, none⟩ = some (f4) := cel_below hb (cell_alloc _ (ccq4))
  replace ccq5 : w3.cell? ⟨w.heap.size, 5, none⟩ = some (f5) := cel_below hb (cell_alloc _ (ccq5))
  replace ccq6 : w3.cell? ⟨w.heap.size, 6, none⟩ = some (.int .i64 k) := cel_below hb (cell_alloc _ (ccq6))
  replace z0 : w.heap.size < w3.heap.size := by omega
  have aq0 : w3.cell? ⟨w2.heap.size, 0, none⟩ = some (.int .i64 0) := cel_below hb (by rw [World.cell?_alloc_at _ _ _ _ (by simp)]; rfl)
  have aq1 : w3.cell? ⟨w2.heap.size, 1, none⟩ = some (.int .i64 0) := cel_below hb (by rw [World.cell?_alloc_at _ _ _ _ (by simp)]; rfl)
  have aq2 : w3.cell? ⟨w2.heap.size, 2, none⟩ = some (.int .i64 0) := cel_below hb (by rw [World.cell?_alloc_at _ _ _ _ (by simp)]; rfl)
  have aq3 : w3.cell? ⟨w2.heap.size, 3, none⟩ = some (.int .i64 0) := cel_below hb (by rw [World.cell?_alloc_at _ _ _ _ (by simp)]; rfl)
  have aq4 : w3.cell? ⟨w2.heap.size, 4, none⟩ = some (.int .i64 0) := cel_below hb (by rw [World.cell?_alloc_at _ _ _ _ (by simp)]; rfl)
  have z1 : w2.heap.size < w3.heap.size := by omega
  clear hb zz
  go_wp2
  go_ret
  exact ⟨rfl, below_step HW.out (below_new1 _ _)⟩
set_option maxHeartbeats 4000000 in
set_option maxRecDepth 100000 in
theorem walk_nzkz (w : World) (f0 : Value) (a1 : Option Addr) (t c1 : Nat) (f2 : Value) (a3 : Option Addr) (n c3 : Nat) (f4 f5 : Value) (k s m : Int) (ht : t ≤ 40) (hc : (progCf t n k s m).ok) (gn : n = 0) (gk : k = 0) : Calls Try.prog 10 #[.agg #[f0, .slice a1 t c1, f2, .slice a3 n c3, f4, f5, .int .i64 k], .int .i64 s, .int .i64 m] w fun e w' => e = .returned (.bool true) ∧ Below w.heap.size w w' := by
  obtain ⟨L, hL⟩ : ∃ L, L = layOf (progCf t n k s m) := ⟨_, rfl⟩
  have hlok : L.ok := by
    obtain ⟨⟨h1, h2⟩, ⟨h3, h4⟩, ⟨h5, h6⟩, ⟨h7, h8⟩, ⟨h9, h10⟩⟩ := hc
    rw [hL]; unfold Ly.ok layOf progCf at *; simp only at *; omega
  have hx := hc
  obtain ⟨⟨h1, h2⟩, ⟨h3, h4⟩, ⟨h5, h6⟩, ⟨h7, h8⟩, ⟨h9, h10⟩⟩ := hx
  simp only [progCf] at h1 h2 h3 h4 h5 h6 h7 h8 h9 h10
  obtain ⟨v1, hv1⟩ : ∃ v, v = atStatus L ((t : Int) - 1) := ⟨_, rfl⟩
  have g1 : 0 ≤ v1 := by rw [hv1, hL]; unfold atStatus cellN layOf progCf; simp only; rw [if_neg (by omega)]; omega
  have H1 : Hid (∀ w, Calls Try.prog 36 #[L.v, .int .i64 ((t : Int) - 1)] w fun e w' => e = .returned (.int .i64 v1) ∧ Below w.heap.size w w') := Lib.hid (fun w => by rw [hv1]; exact status_any L _ w hlok)
  have H2 : Hid (∀ w, Calls Try.prog 36 #[L.v, .int .i64 (t : Nat)] w fun e w' => e = .returned (.int .i64 (-1)) ∧ Below w.heap.size w w') := Lib.hid (fun w => by
    have := status_any L t w hlok
    rwa [show atStatus L t = -1 by rw [hL]; unfold atStatus cellN layOf progCf; simp only; rw [if_pos (by omega)]] at this)
  have H3 : Hid (∀ w, Calls Try.prog 37 #[L.v, .int .i64 (n : Nat)] w fun e w' => e = .returned (.int .i64 (-1)) ∧ Below w.heap.size w w') := Lib.hid (fun w => by
    have := word_any L n w hlok
    rwa [show atWord L n = -1 by rw [hL]; unfold atWord cellN layOf progCf; simp only; rw [if_pos (by omega)]] at this)
  have H5 : Hid (∀ w, Calls Try.prog 39 #[L.v, .int .i64 k] w fun e w' => e = .returned (.int .i64 (-1)) ∧ Below w.heap.size w w') := Lib.hid (fun w => by
    have := lock_any L k w hlok
    rwa [show atLock L k = -1 by rw [hL]; unfold atLock cellN layOf progCf; simp only; rw [if_pos (by omega)]] at this)
  have HO : Hid (∀ w, Calls Try.prog 25 #[(progCf t n k s m).v] w fun e w' => e = .returned (.tuple #[L.v, .int .i64 0]) ∧ Below w.heap.size w w') := Lib.hid (fun w => by rw [hL]; exact of_t _ w hc)
  have HF := Lib.hid (fun w => for_t f0 (.slice a1 t c1) f2 (.slice a3 n c3) f4 f5 t n k s m w ⟨_, _, rfl⟩ ⟨_, _, rfl⟩ hc)
  have HR := Lib.hid (fun w => rfor_t f0 (.slice a1 t c1) f2 (.slice a3 n c3) f4 f5 t n k s m w ⟨_, _, rfl⟩ ⟨_, _, rfl⟩ hc)
  have hne : ∀ w, (binOp .neq 51 (progCf t n k s m).v (progCf t n k s m).v).run Try.prog w = .ok (.bool false) w := fun w => by rw [conf_neq, (cfEq_iff _ _).2 rfl]; rfl
  unfold Ly.v at HO H1 H2 H3 H5
  unfold progCf at HO HF HR hne
  unfold Cf.v at HO HF HR hne
  have ht' : decide ((40 : Int) < t) = false := by simp; omega
  have hn' : decide ((60 : Int) < n) = false := by simp; omega
  have ht2 : (t : Int) ≤ 4 := h2
  have E1 := Lib.hid (show IntKind.i64.wrap ((t : Int) - 1) = (t : Int) - 1 from IntWalk.i64_in _ (by omega))
  have E2 := Lib.hid (show IntKind.i64.wrap ((n : Int) - 1) = (n : Int) - 1 from IntWalk.i64_in _ (by omega))
  have E3 := Lib.hid (show IntKind.i64.wrap (k - 1) = k - 1 from IntWalk.i64_in _ (by omega))
  have hn2 : (n : Int) ≤ 32 := h4
  clear hv1  hL hlok hc h7 h8 h9 h10
  have gn' : ((n : Int) == 0) = true := by simp [gn]
  clear gn
  have gk' : (k == 0) = true := by simp [gk]
  clear gk
  go_enter Try.func10, Try.ntmps10
  go_wp2_with fail
  ((with_reducible refine (sane15_any _).mono ?_); rintro e w1 ⟨rfl, hb⟩)
  have HW := Lib.hid (below_alloc1 hb)
  have zz : w.heap.size + 1 ≤ w1.heap.size := by have := hb.size; (try simp at this); omega
  have ccq0 : w1.cell? ⟨w.heap.size, 0, none⟩ = some (f0) := cel_below hb (by rw [World.cell?_alloc_at _ _ _ _ (by simp)]; rfl)
  have ccq1 : w1.cell? ⟨w.heap.size, 1, none⟩ = some (.slice a1 t c1) := cel_below hb (by rw [World.cell?_alloc_at _ _ _ _ (by simp)]; rfl)
  have ccq2 : w1.cell? ⟨w.heap.size, 2, none⟩ = some (f2) := cel_below hb (by rw [World.cell?_alloc_at _ _ _ _ (by simp)]; rfl)
  have ccq3 : w1.cell? ⟨w.heap.size, 3, none⟩ = some (.slice a3 n c3) := cel_below hb (by rw [World.cell?_alloc_at _ _ _ _ (by simp)]; rfl)
  have ccq4 : w1.cell? ⟨w.heap.size, 4, none⟩ = some (f4) := cel_below hb (by rw [World.cell?_alloc_at _ _ _ _ (by simp)]; rfl)
  have ccq5 : w1.cell? ⟨w.heap.size, 5, none⟩ = some (f5) := cel_below hb (by rw [World.cell?_alloc_at _ _ _ _ (by simp)]; rfl)
  have ccq6 : w1.cell? ⟨w.heap.size, 6, none⟩ = some (.int .i64 k) := cel_below hb (by rw [World.cell?_alloc_at _ _ _ _ (by simp)]; rfl)
  have z0 : w.heap.size < w1.heap.size := by omega
  clear hb zz
  go_wp2_with fail
  ((with_reducible refine (HF.out _).mono ?_); rintro e w2 ⟨rfl, hb⟩)
  replace HW := Lib.hid (below_step HW.out (hb))
  have zz : w1.heap.size + 0 ≤ w2.heap.size := by have := hb.size; (try simp at this); omega
  replace ccq0 : w2.cell? ⟨w.heap.size, 0, none⟩ = some (f0) := cel_below hb (ccq0)
  replace ccq1 : w2.cell? ⟨w.heap.size, 1, none⟩ = some (.slice a1 t c1) := cel_below hb (ccq1)
  replace ccq2 : w2.cell? ⟨w.heap.size, 2, none⟩ = some (f2) := cel_below hb (ccq2)
  replace ccq3 : w2.cell? ⟨w.heap.size, 3, none⟩ = some (.slice a3 n c3) := cel_below hb (ccq3)
  replace ccq4 : w2.cell? ⟨w.heap.size, 4, none⟩ = some (f4) := cel_below hb (ccq4)
  replace ccq5 : w2.cell? ⟨w.heap.size, 5, none⟩ = some (f5) := cel_below hb (ccq5)
  replace ccq6 : w2.cell? ⟨w.heap.size, 6, none⟩ = some (.int .i64 k) := cel_below hb (ccq6)
  replace z0 : w.heap.size < w2.heap.size := by omega
  clear hb zz
  go_wp2_with fail
  ((with_reducible refine (HR.out _).mono ?_); rintro e w3 ⟨rfl, hb⟩)
  replace HW := Lib.hid (below_step HW.out (below_alloc1 hb))
  have zz : w2.heap.size + 1 ≤ w3.heap.size := by have := hb.size; (try simp at this); omega
  replace ccq0 : w3.cell? ⟨w.heap.size, 0, none⟩ = some (f0) := cel_below hb (cell_alloc _ (ccq0))
  replace ccq1 : w3.cell? ⟨w.heap.size, 1, none⟩ = some (.slice a1 t c1) := cel_below hb (cell_alloc _ (ccq1))
  replace ccq2 : w3.cell? ⟨w.heap.size, 2, none⟩ = some (f2) := cel_below hb (cell_alloc _ (ccq2))
  replace ccq3 : w3.cell? ⟨w.heap.size, 3, none⟩ = some (.slice a3 n c3) := cel_below hb (cell_alloc _ (ccq3))
  replace ccq4 : w3.cell? ⟨w.heap.size, 4, none⟩ = some (f4) := cel_below hb (cell_alloc _ (ccq4))
  replace ccq5 : w3.cell? ⟨w.heap.size, 5, none⟩ = some (f5) := cel_below hb (cell_alloc _ (ccq5))
  replace ccq6 : w3.cell? ⟨w.heap.size, 6, none⟩ = some (.int .i64 k) := cel_below hb (cell_alloc _ (ccq6))
  replace z0 : w.heap.size < w3.heap.size := by omega
  have aq0 : w3.cell? ⟨w2.heap.size, 0, none⟩ = some (.int .i64 ((t : Nat) : Int)) := cel_below hb (by rw [World.cell?_alloc_at _ _ _ _ (by simp)]; rfl)
  have aq1 : w3.cell? ⟨w2.heap.size, 1, none⟩ = some (.int .i64 ((n : Nat) : Int)) := cel_below hb (by rw [World.cell?_alloc_at _ _ _ _ (by simp)]; rfl)
  have aq2 : w3.cell? ⟨w2.heap.size, 2, none⟩ = some (.int .i64 k) := cel_below hb (by rw [World.cell?_alloc_at _ _ _ _ (by simp)]; rfl)
  have aq3 : w3.cell? ⟨w2.heap.size, 3, none⟩ = some (.int .i64 s) := cel_below hb (by rw [World.cell?_alloc_at _ _ _ _ (by simp)]; rfl)
  have aq4 : w3.cell? ⟨w2.heap.size, 4, none⟩ = some (.int .i64 m) := cel_below hb (by rw [World.cell?_alloc_at _ _ _ _ (by simp)]; rfl)
  have z1 : w2.heap.size < w3.heap.size := by omega
  clear hb zz
  go_wp2_with fail
  ((with_reducible refine (HO.out _).mono ?_); rintro e w4 ⟨rfl, hb⟩)
  replace HW := Lib.hid (below_step HW.out (below_alloc1 hb))
  have zz : w3.heap.size + 1 ≤ w4.heap.size := by have := hb.size; (try simp at this); omega
  replace ccq0 : w4.cell? ⟨w.heap.size, 0, none⟩ = some (f0) := cel_below hb (cell_alloc _ (ccq0))
  replace ccq1 : w4.cell? ⟨w.heap.size, 1, none⟩ = some (.slice a1 t c1) := cel_below hb (cell_alloc _ (ccq1))
  replace ccq2 : w4.cell? ⟨w.heap.size, 2, none⟩ = some (f2) := cel_below hb (cell_alloc _ (ccq2))
  replace ccq3 : w4.cell? ⟨w.heap.size, 3, none⟩ = some (.slice a3 n c3) := cel_below hb (cell_alloc _ (ccq3))
  replace ccq4 : w4.cell? ⟨w.heap.size, 4, none⟩ = some (f4) := cel_below hb (cell_alloc _ (ccq4))
  replace ccq5 : w4.cell? ⟨w.heap.size, 5, none⟩ = some (f5) := cel_below hb (cell_alloc _ (ccq5))
  replace ccq6 : w4.cell? ⟨w.heap.size, 6, none⟩ = some (.int .i64 k) := cel_below hb (cell_alloc _ (ccq6))
  replace aq0 : w4.cell? ⟨w2.heap.size, 0, none⟩ = some (.int .i64 ((t : Nat) : Int)) := cel_below hb (cell_alloc _ (aq0))
  replace aq1 : w4.cell? ⟨w2.heap.size, 1, none⟩ = some (.int .i64 ((n : Nat) : Int)) := cel_below hb (cell_alloc _ (aq1))
  replace aq2 : w4.cell? ⟨w2.heap.size, 2, none⟩ = some (.int .i64 k) := cel_below hb (cell_alloc _ (aq2))
  replace aq3 : w4.cell? ⟨w2.heap.size, 3, none⟩ = some (.int .i64 s) := cel_below hb (cell_alloc _ (aq3))
  replace aq4 : w4.cell? ⟨w2.heap.size, 4, none⟩ = some (.int .i64 m) := cel_below hb (cell_alloc _ (aq4))
  replace z0 : w.heap.size < w4.heap.size := by omega
  replace z1 : w2.heap.size < w4.heap.size := by omega
  clear hb zz
  go_wp2_with fail
  obtain ⟨wr5, hwr⟩ : ∃ W, W = w4.alloc (.cells #[.int .i64 L.c.t, .int .i64 L.c.l, .int .i64 L.c.k, .int .i64 L.c.s, .int .i64 L.c.m, .int .i64 L.clock, .int .i64 L.stamps, .int .i64 L.log, .int .i64 L.fin, .int .i64 L.thread, .int .i64 L.lock, .int .i64 L.loc, .int .i64 L.size] 53) := ⟨_, rfl⟩
  rw [← hwr]
  have hb : Below w4.heap.size w4 wr5 := by rw [hwr]; exact (Below.alloc (Below.refl _ w4) (by first | exact Nat.le_refl _ | (simp; omega) | simp) _)
  have zz : w4.heap.size + 1 ≤ wr5.heap.size := by rw [hwr]; simp
  replace HW := Lib.hid (below_step HW.out hb)
  replace ccq0 : wr5.cell? ⟨w.heap.size, 0, none⟩ = some (f0) := cel_below hb ccq0
  replace ccq1 : wr5.cell? ⟨w.heap.size, 1, none⟩ = some (.slice a1 t c1) := cel_below hb ccq1
  replace ccq2 : wr5.cell? ⟨w.heap.size, 2, none⟩ = some (f2) := cel_below hb ccq2
  replace ccq3 : wr5.cell? ⟨w.heap.size, 3, none⟩ = some (.slice a3 n c3) := cel_below hb ccq3
  replace ccq4 : wr5.cell? ⟨w.heap.size, 4, none⟩ = some (f4) := cel_below hb ccq4
  replace ccq5 : wr5.cell? ⟨w.heap.size, 5, none⟩ = some (f5) := cel_below hb ccq5
  replace ccq6 : wr5.cell? ⟨w.heap.size, 6, none⟩ = some (.int .i64 k) := cel_below hb ccq6
  replace z0 : w.heap.size < wr5.heap.size := by omega
  replace z1 : w2.heap.size < wr5.heap.size := by omega
  have lq0 : wr5.cell? ⟨w4.heap.size, 0, none⟩ = some (.int .i64 L.c.t) := by rw [hwr]; exact by rw [World.cell?_alloc_at _ _ _ _ (by simp)]; rfl
  have lq1 : wr5.cell? ⟨w4.heap.size, 1, none⟩ = some (.int .i64 L.c.l) := by rw [hwr]; exact by rw [World.cell?_alloc_at _ _ _ _ (by simp)]; rfl
  have lq2 : wr5.cell? ⟨w4.heap.size, 2, none⟩ = some (.int .i64 L.c.k) := by rw [hwr]; exact by rw [World.cell?_alloc_at _ _ _ _ (by simp)]; rfl
  have lq3 : wr5.cell? ⟨w4.heap.size, 3, none⟩ = some (.int .i64 L.c.s) := by rw [hwr]; exact by rw [World.cell?_alloc_at _ _ _ _ (by simp)]; rfl
  have lq4 : wr5.cell? ⟨w4.heap.size, 4, none⟩ = some (.int .i64 L.c.m) := by rw [hwr]; exact by rw [World.cell?_alloc_at _ _ _ _ (by simp)]; rfl
  have lq5 : wr5.cell? ⟨w4.heap.size, 5, none⟩ = some (.int .i64 L.clock) := by rw [hwr]; exact by rw [World.cell?_alloc_at _ _ _ _ (by simp)]; rfl
  have lq6 : wr5.cell? ⟨w4.heap.size, 6, none⟩ = some (.int .i64 L.stamps) := by rw [hwr]; exact by rw [World.cell?_alloc_at _ _ _ _ (by simp)]; rfl
  have lq7 : wr5.cell? ⟨w4.heap.size, 7, none⟩ = some (.int .i64 L.log) := by rw [hwr]; exact by rw [World.cell?_alloc_at _ _ _ _ (by simp)]; rfl
  have lq8 : wr5.cell? ⟨w4.heap.size, 8, none⟩ = some (.int .i64 L.fin) := by rw [hwr]; exact by rw [World.cell?_alloc_at _ _ _ _ (by simp)]; rfl
  have lq9 : wr5.cell? ⟨w4.heap.size, 9, none⟩ = some (.int .i64 L.thread) := by rw [hwr]; exact by rw [World.cell?_alloc_at _ _ _ _ (by simp)]; rfl
  have lq10 : wr5.cell? ⟨w4.heap.size, 10, none⟩ = some (.int .i64 L.lock) := by rw [hwr]; exact by rw [World.cell?_alloc_at _ _ _ _ (by simp)]; rfl
  have lq11 : wr5.cell? ⟨w4.heap.size, 11, none⟩ = some (.int .i64 L.loc) := by rw [hwr]; exact by rw [World.cell?_alloc_at _ _ _ _ (by simp)]; rfl
  have lq12 : wr5.cell? ⟨w4.heap.size, 12, none⟩ = some (.int .i64 L.size) := by rw [hwr]; exact by rw [World.cell?_alloc_at _ _ _ _ (by simp)]; rfl
  have z2 : w4.heap.size < wr5.heap.size := by omega
  clear hb zz hwr
  have e1 := E1.out
  have e2 := E2.out
  have e3 := E3.out
  refine wp_region_held_drew (S := fun W => W.cell? ⟨w4.heap.size, 0, none⟩ = some (.int .i64 L.c.t) ∧ W.cell? ⟨w4.heap.size, 1, none⟩ = some (.int .i64 L.c.l) ∧ W.cell? ⟨w4.heap.size, 2, none⟩ = some (.int .i64 L.c.k) ∧ W.cell? ⟨w4.heap.size, 3, none⟩ = some (.int .i64 L.c.s) ∧ W.cell? ⟨w4.heap.size, 4, none⟩ = some (.int .i64 L.c.m) ∧ W.cell? ⟨w4.heap.size, 5, none⟩ = some (.int .i64 L.clock) ∧ W.cell? ⟨w4.heap.size, 6, none⟩ = some (.int .i64 L.stamps) ∧ W.cell? ⟨w4.heap.size, 7, none⟩ = some (.int .i64 L.log) ∧ W.cell? ⟨w4.heap.size, 8, none⟩ = some (.int .i64 L.fin) ∧ W.cell? ⟨w4.heap.size, 9, none⟩ = some (.int .i64 L.thread) ∧ W.cell? ⟨w4.heap.size, 10, none⟩ = some (.int .i64 L.lock) ∧ W.cell? ⟨w4.heap.size, 11, none⟩ = some (.int .i64 L.loc) ∧ W.cell? ⟨w4.heap.size, 12, none⟩ = some (.int .i64 L.size) ∧ W.cell? ⟨w.heap.size, 6, none⟩ = some (.int .i64 k)) (by kernel_rfl) ?_ (fun hHeld => ?_)
  · (try dsimp only); exact ⟨by first | assumption | go_simp, by first | assumption | go_simp, by first | assumption | go_simp, by first | assumption | go_simp, by first | assumption | go_simp, by first | assumption | go_simp, by first | assumption | go_simp, by first | assumption | go_simp, by first | assumption | go_simp, by first | assumption | go_simp, by first | assumption | go_simp, by first | assumption | go_simp, by first | assumption | go_simp, by first | assumption | go_simp⟩
  replace HW := Lib.hid (below_drews HW.out 1)
  first | (refine wpAnyH_take (i := 0) (oi := ?oi1) (v := ?v1) ?hi1 (by kernel_rfl) (by kernel_rfl) (by kernel_rfl) ?hQ1 (Or.inl ⟨?hw1, ?hy1⟩) (by assumption) ?rest1; (case hi1 => (simp only [List.getElem?_toArray, List.getElem?_cons_zero]; rfl)); (case hQ1 => exact fun _ _ _ h => h); (case hw1 => rfl); (case hy1 => ((intro w hSw); (try dsimp only at hSw); go_simp; (try with_reducible rfl)))) | (refine wpAnyH_take (i := 0) (oi := ?oi2) (v := undef) ?hi2 (by kernel_rfl) (by kernel_rfl) (by kernel_rfl) ?hQ2 (Or.inr ⟨?hw2, rfl⟩) (by assumption) ?rest2; (case hi2 => (simp only [List.getElem?_toArray, List.getElem?_cons_zero]; rfl)); (case hQ2 => exact fun _ _ _ h => h); (case hw2 => rfl))
  (try simp only [Act.put, List.setIfInBounds_toArray, List.set_cons_zero, List.set_cons_succ])
  first | (refine wpAnyH_take (i := 1) (oi := ?oi3) (v := ?v3) ?hi3 (by kernel_rfl) (by kernel_rfl) (by kernel_rfl) ?hQ3 (Or.inl ⟨?hw3, ?hy3⟩) (by assumption) ?rest3; (case hi3 => (simp only [List.getElem?_toArray, List.getElem?_cons_succ, List.getElem?_cons_zero]; rfl)); (case hQ3 => exact fun _ _ _ h => h); (case hw3 => rfl); (case hy3 => ((intro w hSw); (try dsimp only at hSw); go_simp; (try with_reducible rfl)))) | (refine wpAnyH_take (i := 1) (oi := ?oi4) (v := undef) ?hi4 (by kernel_rfl) (by kernel_rfl) (by kernel_rfl) ?hQ4 (Or.inr ⟨?hw4, rfl⟩) (by assumption) ?rest4; (case hi4 => (simp only [List.getElem?_toArray, List.getElem?_cons_succ, List.getElem?_cons_zero]; rfl)); (case hQ4 => exact fun _ _ _ h => h); (case hw4 => rfl))
  (try simp only [Act.put, List.setIfInBounds_toArray, List.set_cons_zero, List.set_cons_succ])
  first | (refine wpAnyH_take (i := 2) (oi := ?oi5) (v := ?v5) ?hi5 (by kernel_rfl) (by kernel_rfl) (by kernel_rfl) ?hQ5 (Or.inl ⟨?hw5, ?hy5⟩) (by assumption) ?rest5; (case hi5 => (simp only [List.getElem?_toArray, List.getElem?_cons_succ, List.getElem?_cons_zero]; rfl)); (case hQ5 => exact fun _ _ _ h => h); (case hw5 => rfl); (case hy5 => ((intro w hSw); (try dsimp only at hSw); go_simp; (try with_reducible rfl)))) | (refine wpAnyH_take (i := 2) (oi := ?oi6) (v := undef) ?hi6 (by kernel_rfl) (by kernel_rfl) (by kernel_rfl) ?hQ6 (Or.inr ⟨?hw6, rfl⟩) (by assumption) ?rest6; (case hi6 => (simp only [List.getElem?_toArray, List.getElem?_cons_succ, List.getElem?_cons_zero]; rfl)); (case hQ6 => exact fun _ _ _ h => h); (case hw6 => rfl))
  (try simp only [Act.put, List.setIfInBounds_toArray, List.set_cons_zero, List.set_cons_succ])
  first | (refine wpAnyH_take (i := 3) (oi := ?oi7) (v := ?v7) ?hi7 (by kernel_rfl) (by kernel_rfl) (by kernel_rfl) ?hQ7 (Or.inl ⟨?hw7, ?hy7⟩) (by assumption) ?rest7; (case hi7 => (simp only [List.getElem?_toArray, List.getElem?_cons_succ, List.getElem?_cons_zero]; rfl)); (case hQ7 => exact fun _ _ _ h => h); (case hw7 => rfl); (case hy7 => ((intro w hSw); (try dsimp only at hSw); go_simp; (try with_reducible rfl)))) | (refine wpAnyH_take (i := 3) (oi := ?oi8) (v := undef) ?hi8 (by kernel_rfl) (by kernel_rfl) (by kernel_rfl) ?hQ8 (Or.inr ⟨?hw8, rfl⟩) (by assumption) ?rest8; (case hi8 => (simp only [List.getElem?_toArray, List.getElem?_cons_succ, List.getElem?_cons_zero]; rfl)); (case hQ8 => exact fun _ _ _ h => h); (case hw8 => rfl))
  (try simp only [Act.put, List.setIfInBounds_toArray, List.set_cons_zero, List.set_cons_succ])
  first | (refine wpAnyH_take (i := 4) (oi := ?oi9) (v := ?v9) ?hi9 (by kernel_rfl) (by kernel_rfl) (by kernel_rfl) ?hQ9 (Or.inl ⟨?hw9, ?hy9⟩) (by assumption) ?rest9; (case hi9 => (simp only [List.getElem?_toArray, List.getElem?_cons_succ, List.getElem?_cons_zero]; rfl)); (case hQ9 => exact fun _ _ _ h => h); (case hw9 => rfl); (case hy9 => ((intro w hSw); (try dsimp only at hSw); go_simp; (try with_reducible rfl)))) | (refine wpAnyH_take (i := 4) (oi := ?oi10) (v := undef) ?hi10 (by kernel_rfl) (by kernel_rfl) (by kernel_rfl) ?hQ10 (Or.inr ⟨?hw10, rfl⟩) (by assumption) ?rest10; (case hi10 => (simp only [List.getElem?_toArray, List.getElem?_cons_succ, List.getElem?_cons_zero]; rfl)); (case hQ10 => exact fun _ _ _ h => h); (case hw10 => rfl))
  (try simp only [Act.put, List.setIfInBounds_toArray, List.set_cons_zero, List.set_cons_succ])
  first | (refine wpAnyH_take (i := 5) (oi := ?oi11) (v := ?v11) ?hi11 (by kernel_rfl) (by kernel_rfl) (by kernel_rfl) ?hQ11 (Or.inl ⟨?hw11, ?hy11⟩) (by assumption) ?rest11; (case hi11 => (simp only [List.getElem?_toArray, List.getElem?_cons_succ, List.getElem?_cons_zero]; rfl)); (case hQ11 => exact fun _ _ _ h => h); (case hw11 => rfl); (case hy11 => ((intro w hSw); (try dsimp only at hSw); go_simp; (try with_reducible rfl)))) | (refine wpAnyH_take (i := 5) (oi := ?oi12) (v := undef) ?hi12 (by kernel_rfl) (by kernel_rfl) (by kernel_rfl) ?hQ12 (Or.inr ⟨?hw12, rfl⟩) (by assumption) ?rest12; (case hi12 => (simp only [List.getElem?_toArray, List.getElem?_cons_succ, List.getElem?_cons_zero]; rfl)); (case hQ12 => exact fun _ _ _ h => h); (case hw12 => rfl))
  (try simp only [Act.put, List.setIfInBounds_toArray, List.set_cons_zero, List.set_cons_succ])
  first | (refine wpAnyH_take (i := 6) (oi := ?oi13) (v := ?v13) ?hi13 (by kernel_rfl) (by kernel_rfl) (by kernel_rfl) ?hQ13 (Or.inl ⟨?hw13, ?hy13⟩) (by assumption) ?rest13; (case hi13 => (simp only [List.getElem?_toArray, List.getElem?_cons_succ, List.getElem?_cons_zero]; rfl)); (case hQ13 => exact fun _ _ _ h => h); (case hw13 => rfl); (case hy13 => ((intro w hSw); (try dsimp only at hSw); go_simp; (try with_reducible rfl)))) | (refine wpAnyH_take (i := 6) (oi := ?oi14) (v := undef) ?hi14 (by kernel_rfl) (by kernel_rfl) (by kernel_rfl) ?hQ14 (Or.inr ⟨?hw14, rfl⟩) (by assumption) ?rest14; (case hi14 => (simp only [List.getElem?_toArray, List.getElem?_cons_succ, List.getElem?_cons_zero]; rfl)); (case hQ14 => exact fun _ _ _ h => h); (case hw14 => rfl))
  (try simp only [Act.put, List.setIfInBounds_toArray, List.set_cons_zero, List.set_cons_succ])
  first | (refine wpAnyH_take (i := 7) (oi := ?oi15) (v := ?v15) ?hi15 (by kernel_rfl) (by kernel_rfl) (by kernel_rfl) ?hQ15 (Or.inl ⟨?hw15, ?hy15⟩) (by assumption) ?rest15; (case hi15 => (simp only [List.getElem?_toArray, List.getElem?_cons_succ, List.getElem?_cons_zero]; rfl)); (case hQ15 => exact fun _ _ _ h => h); (case hw15 => rfl); (case hy15 => ((intro w hSw); (try dsimp only at hSw); go_simp; (try with_reducible rfl)))) | (refine wpAnyH_take (i := 7) (oi := ?oi16) (v := undef) ?hi16 (by kernel_rfl) (by kernel_rfl) (by kernel_rfl) ?hQ16 (Or.inr ⟨?hw16, rfl⟩) (by assumption) ?rest16; (case hi16 => (simp only [List.getElem?_toArray, List.getElem?_cons_succ, List.getElem?_cons_zero]; rfl)); (case hQ16 => exact fun _ _ _ h => h); (case hw16 => rfl))
  (try simp only [Act.put, List.setIfInBounds_toArray, List.set_cons_zero, List.set_cons_succ])
  first | (refine wpAnyH_take (i := 8) (oi := ?oi17) (v := ?v17) ?hi17 (by kernel_rfl) (by kernel_rfl) (by kernel_rfl) ?hQ17 (Or.inl ⟨?hw17, ?hy17⟩) (by assumption) ?rest17; (case hi17 => (simp only [List.getElem?_toArray, List.getElem?_cons_succ, List.getElem?_cons_zero]; rfl)); (case hQ17 => exact fun _ _ _ h => h); (case hw17 => rfl); (case hy17 => ((intro w hSw); (try dsimp only at hSw); go_simp; (try with_reducible rfl)))) | (refine wpAnyH_take (i := 8) (oi := ?oi18) (v := undef) ?hi18 (by kernel_rfl) (by kernel_rfl) (by kernel_rfl) ?hQ18 (Or.inr ⟨?hw18, rfl⟩) (by assumption) ?rest18; (case hi18 => (simp only [List.getElem?_toArray, List.getElem?_cons_succ, List.getElem?_cons_zero]; rfl)); (case hQ18 => exact fun _ _ _ h => h); (case hw18 => rfl))
  (try simp only [Act.put, List.setIfInBounds_toArray, List.set_cons_zero, List.set_cons_succ])
  refine wpAnyH_ready (rs := [9]) (by kernel_rfl) (by simp) ?_
  refine AllReadyH.cons (o := ?oi19) ?hi19 (fun K hK => ?rest19) AllReadyH.nil
  (case hi19 => (simp only [List.getElem?_toArray, List.getElem?_cons_succ, List.getElem?_cons_zero]; rfl))
  obtain ⟨s0, s1, s2, s3, s4, s5, s6, s7, s8, s9, s10, s11, s12, s13⟩ := hHeld
  go_simp
  ((with_reducible refine (H1.out _).mono ?_); rintro e wx1 ⟨rfl, hb⟩)
  replace HW := Lib.hid (below_step HW.out hb)
  refine hK.out _ _ ?_ (fun hHeld => ?_)
  · (try dsimp only); exact ⟨cel_below hb s0, cel_below hb s1, cel_below hb s2, cel_below hb s3, cel_below hb s4, cel_below hb s5, cel_below hb s6, cel_below hb s7, cel_below hb s8, cel_below hb s9, cel_below hb s10, cel_below hb s11, cel_below hb s12, cel_below hb s13⟩
  clear hK K hb s0 s1 s2 s3 s4 s5 s6 s7 s8 s9 s10 s11 s12 s13
  (try simp only [Act.put, List.setIfInBounds_toArray, List.set_cons_zero, List.set_cons_succ])
  first | (refine wpAnyH_take (i := 10) (oi := ?oi20) (v := ?v20) ?hi20 (by kernel_rfl) (by kernel_rfl) (by kernel_rfl) ?hQ20 (Or.inl ⟨?hw20, ?hy20⟩) (by assumption) ?rest20; (case hi20 => (simp only [List.getElem?_toArray, List.getElem?_cons_succ, List.getElem?_cons_zero]; rfl)); (case hQ20 => exact fun _ _ _ h => h); (case hw20 => rfl); (case hy20 => ((intro w hSw); (try dsimp only at hSw); go_simp; (try with_reducible rfl)))) | (refine wpAnyH_take (i := 10) (oi := ?oi21) (v := undef) ?hi21 (by kernel_rfl) (by kernel_rfl) (by kernel_rfl) ?hQ21 (Or.inr ⟨?hw21, rfl⟩) (by assumption) ?rest21; (case hi21 => (simp only [List.getElem?_toArray, List.getElem?_cons_succ, List.getElem?_cons_zero]; rfl)); (case hQ21 => exact fun _ _ _ h => h); (case hw21 => rfl))
  (try simp only [Act.put, List.setIfInBounds_toArray, List.set_cons_zero, List.set_cons_succ])
  first | (refine wpAnyH_take (i := 11) (oi := ?oi22) (v := ?v22) ?hi22 (by kernel_rfl) (by kernel_rfl) (by kernel_rfl) ?hQ22 (Or.inl ⟨?hw22, ?hy22⟩) (by assumption) ?rest22; (case hi22 => (simp only [List.getElem?_toArray, List.getElem?_cons_succ, List.getElem?_cons_zero]; rfl)); (case hQ22 => exact fun _ _ _ h => h); (case hw22 => rfl); (case hy22 => ((intro w hSw); (try dsimp only at hSw); go_simp; (try with_reducible rfl)))) | (refine wpAnyH_take (i := 11) (oi := ?oi23) (v := undef) ?hi23 (by kernel_rfl) (by kernel_rfl) (by kernel_rfl) ?hQ23 (Or.inr ⟨?hw23, rfl⟩) (by assumption) ?rest23; (case hi23 => (simp only [List.getElem?_toArray, List.getElem?_cons_succ, List.getElem?_cons_zero]; rfl)); (case hQ23 => exact fun _ _ _ h => h); (case hw23 => rfl))
  (try simp only [Act.put, List.setIfInBounds_toArray, List.set_cons_zero, List.set_cons_succ])
  first | (refine wpAnyH_take (i := 12) (oi := ?oi24) (v := ?v24) ?hi24 (by kernel_rfl) (by kernel_rfl) (by kernel_rfl) ?hQ24 (Or.inl ⟨?hw24, ?hy24⟩) (by assumption) ?rest24; (case hi24 => (simp only [List.getElem?_toArray, List.getElem?_cons_succ, List.getElem?_cons_zero]; rfl)); (case hQ24 => exact fun _ _ _ h => h); (case hw24 => rfl); (case hy24 => ((intro w hSw); (try dsimp only at hSw); go_simp; (try with_reducible rfl)))) | (refine wpAnyH_take (i := 12) (oi := ?oi25) (v := undef) ?hi25 (by kernel_rfl) (by kernel_rfl) (by kernel_rfl) ?hQ25 (Or.inr ⟨?hw25, rfl⟩) (by assumption) ?rest25; (case hi25 => (simp only [List.getElem?_toArray, List.getElem?_cons_succ, List.getElem?_cons_zero]; rfl)); (case hQ25 => exact fun _ _ _ h => h); (case hw25 => rfl))
  (try simp only [Act.put, List.setIfInBounds_toArray, List.set_cons_zero, List.set_cons_succ])
  first | (refine wpAnyH_take (i := 13) (oi := ?oi26) (v := ?v26) ?hi26 (by kernel_rfl) (by kernel_rfl) (by kernel_rfl) ?hQ26 (Or.inl ⟨?hw26, ?hy26⟩) (by assumption) ?rest26; (case hi26 => (simp only [List.getElem?_toArray, List.getElem?_cons_succ, List.getElem?_cons_zero]; rfl)); (case hQ26 => exact fun _ _ _ h => h); (case hw26 => rfl); (case hy26 => ((intro w hSw); (try dsimp only at hSw); go_simp; (try with_reducible rfl)))) | (refine wpAnyH_take (i := 13) (oi := ?oi27) (v := undef) ?hi27 (by kernel_rfl) (by kernel_rfl) (by kernel_rfl) ?hQ27 (Or.inr ⟨?hw27, rfl⟩) (by assumption) ?rest27; (case hi27 => (simp only [List.getElem?_toArray, List.getElem?_cons_succ, List.getElem?_cons_zero]; rfl)); (case hQ27 => exact fun _ _ _ h => h); (case hw27 => rfl))
  (try simp only [Act.put, List.setIfInBounds_toArray, List.set_cons_zero, List.set_cons_succ])
  first | (refine wpAnyH_take (i := 14) (oi := ?oi28) (v := ?v28) ?hi28 (by kernel_rfl) (by kernel_rfl) (by kernel_rfl) ?hQ28 (Or.inl ⟨?hw28, ?hy28⟩) (by assumption) ?rest28; (case hi28 => (simp only [List.getElem?_toArray, List.getElem?_cons_succ, List.getElem?_cons_zero]; rfl)); (case hQ28 => exact fun _ _ _ h => h); (case hw28 => rfl); (case hy28 => ((intro w hSw); (try dsimp only at hSw); go_simp; (try with_reducible rfl)))) | (refine wpAnyH_take (i := 14) (oi := ?oi29) (v := undef) ?hi29 (by kernel_rfl) (by kernel_rfl) (by kernel_rfl) ?hQ29 (Or.inr ⟨?hw29, rfl⟩) (by assumption) ?rest29; (case hi29 => (simp only [List.getElem?_toArray, List.getElem?_cons_succ, List.getElem?_cons_zero]; rfl)); (case hQ29 => exact fun _ _ _ h => h); (case hw29 => rfl))
  (try simp only [Act.put, List.setIfInBounds_toArray, List.set_cons_zero, List.set_cons_succ])
  refine wpAnyH_ready (rs := [15]) (by kernel_rfl) (by simp) ?_
  refine AllReadyH.cons (o := ?oi30) ?hi30 (fun K hK => ?rest30) AllReadyH.nil
  (case hi30 => (simp only [List.getElem?_toArray, List.getElem?_cons_succ, List.getElem?_cons_zero]; rfl))
  obtain ⟨s0, s1, s2, s3, s4, s5, s6, s7, s8, s9, s10, s11, s12, s13⟩ := hHeld
  go_simp
  ((with_reducible refine (H2.out _).mono ?_); rintro e wx2 ⟨rfl, hb⟩)
  replace HW := Lib.hid (below_step HW.out hb)
  refine hK.out _ _ ?_ (fun hHeld => ?_)
  · (try dsimp only); exact ⟨cel_below hb s0, cel_below hb s1, cel_below hb s2, cel_below hb s3, cel_below hb s4, cel_below hb s5, cel_below hb s6, cel_below hb s7, cel_below hb s8, cel_below hb s9, cel_below hb s10, cel_below hb s11, cel_below hb s12, cel_below hb s13⟩
  clear hK K hb s0 s1 s2 s3 s4 s5 s6 s7 s8 s9 s10 s11 s12 s13
  (try simp only [Act.put, List.setIfInBounds_toArray, List.set_cons_zero, List.set_cons_succ])
  first | (refine wpAnyH_take (i := 16) (oi := ?oi31) (v := ?v31) ?hi31 (by kernel_rfl) (by kernel_rfl) (by kernel_rfl) ?hQ31 (Or.inl ⟨?hw31, ?hy31⟩) (by assumption) ?rest31; (case hi31 => (simp only [List.getElem?_toArray, List.getElem?_cons_succ, List.getElem?_cons_zero]; rfl)); (case hQ31 => exact fun _ _ _ h => h); (case hw31 => rfl); (case hy31 => ((intro w hSw); (try dsimp only at hSw); go_simp; (try with_reducible rfl)))) | (refine wpAnyH_take (i := 16) (oi := ?oi32) (v := undef) ?hi32 (by kernel_rfl) (by kernel_rfl) (by kernel_rfl) ?hQ32 (Or.inr ⟨?hw32, rfl⟩) (by assumption) ?rest32; (case hi32 => (simp only [List.getElem?_toArray, List.getElem?_cons_succ, List.getElem?_cons_zero]; rfl)); (case hQ32 => exact fun _ _ _ h => h); (case hw32 => rfl))
  (try simp only [Act.put, List.setIfInBounds_toArray, List.set_cons_zero, List.set_cons_succ])
  first | (refine wpAnyH_take (i := 17) (oi := ?oi33) (v := ?v33) ?hi33 (by kernel_rfl) (by kernel_rfl) (by kernel_rfl) ?hQ33 (Or.inl ⟨?hw33, ?hy33⟩) (by assumption) ?rest33; (case hi33 => (simp only [List.getElem?_toArray, List.getElem?_cons_succ, List.getElem?_cons_zero]; rfl)); (case hQ33 => exact fun _ _ _ h => h); (case hw33 => rfl); (case hy33 => ((intro w hSw); (try dsimp only at hSw); go_simp; (try with_reducible rfl)))) | (refine wpAnyH_take (i := 17) (oi := ?oi34) (v := undef) ?hi34 (by kernel_rfl) (by kernel_rfl) (by kernel_rfl) ?hQ34 (Or.inr ⟨?hw34, rfl⟩) (by assumption) ?rest34; (case hi34 => (simp only [List.getElem?_toArray, List.getElem?_cons_succ, List.getElem?_cons_zero]; rfl)); (case hQ34 => exact fun _ _ _ h => h); (case hw34 => rfl))
  (try simp only [Act.put, List.setIfInBounds_toArray, List.set_cons_zero, List.set_cons_succ])
  first | (refine wpAnyH_take (i := 18) (oi := ?oi35) (v := ?v35) ?hi35 (by kernel_rfl) (by kernel_rfl) (by kernel_rfl) ?hQ35 (Or.inl ⟨?hw35, ?hy35⟩) (by assumption) ?rest35; (case hi35 => (simp only [List.getElem?_toArray, List.getElem?_cons_succ, List.getElem?_cons_zero]; rfl)); (case hQ35 => exact fun _ _ _ h => h); (case hw35 => rfl); (case hy35 => ((intro w hSw); (try dsimp only at hSw); go_simp; (try with_reducible rfl)))) | (refine wpAnyH_take (i := 18) (oi := ?oi36) (v := undef) ?hi36 (by kernel_rfl) (by kernel_rfl) (by kernel_rfl) ?hQ36 (Or.inr ⟨?hw36, rfl⟩) (by assumption) ?rest36; (case hi36 => (simp only [List.getElem?_toArray, List.getElem?_cons_succ, List.getElem?_cons_zero]; rfl)); (case hQ36 => exact fun _ _ _ h => h); (case hw36 => rfl))
  (try simp only [Act.put, List.setIfInBounds_toArray, List.set_cons_zero, List.set_cons_succ])
  first | (refine wpAnyH_take (i := 19) (oi := ?oi37) (v := ?v37) ?hi37 (by kernel_rfl) (by kernel_rfl) (by kernel_rfl) ?hQ37 (Or.inl ⟨?hw37, ?hy37⟩) (by assumption) ?rest37; (case hi37 => (simp only [List.getElem?_toArray, List.getElem?_cons_succ, List.getElem?_cons_zero]; rfl)); (case hQ37 => exact fun _ _ _ h => h); (case hw37 => rfl); (case hy37 => ((intro w hSw); (try dsimp only at hSw); go_simp; (try with_reducible rfl)))) | (refine wpAnyH_take (i := 19) (oi := ?oi38) (v := undef) ?hi38 (by kernel_rfl) (by kernel_rfl) (by kernel_rfl) ?hQ38 (Or.inr ⟨?hw38, rfl⟩) (by assumption) ?rest38; (case hi38 => (simp only [List.getElem?_toArray, List.getElem?_cons_succ, List.getElem?_cons_zero]; rfl)); (case hQ38 => exact fun _ _ _ h => h); (case hw38 => rfl))
  (try simp only [Act.put, List.setIfInBounds_toArray, List.set_cons_zero, List.set_cons_succ])
  first | (refine wpAnyH_take (i := 20) (oi := ?oi39) (v := ?v39) ?hi39 (by kernel_rfl) (by kernel_rfl) (by kernel_rfl) ?hQ39 (Or.inl ⟨?hw39, ?hy39⟩) (by assumption) ?rest39; (case hi39 => (simp only [List.getElem?_toArray, List.getElem?_cons_succ, List.getElem?_cons_zero]; rfl)); (case hQ39 => exact fun _ _ _ h => h); (case hw39 => rfl); (case hy39 => ((intro w hSw); (try dsimp only at hSw); go_simp; (try with_reducible rfl)))) | (refine wpAnyH_take (i := 20) (oi := ?oi40) (v := undef) ?hi40 (by kernel_rfl) (by kernel_rfl) (by kernel_rfl) ?hQ40 (Or.inr ⟨?hw40, rfl⟩) (by assumption) ?rest40; (case hi40 => (simp only [List.getElem?_toArray, List.getElem?_cons_succ, List.getElem?_cons_zero]; rfl)); (case hQ40 => exact fun _ _ _ h => h); (case hw40 => rfl))
  (try simp only [Act.put, List.setIfInBounds_toArray, List.set_cons_zero, List.set_cons_succ])
  refine wpAnyH_ready (rs := [21]) (by kernel_rfl) (by simp) ?_
  refine AllReadyH.cons (o := ?oi41) ?hi41 (fun K hK => ?rest41) AllReadyH.nil
  (case hi41 => (simp only [List.getElem?_toArray, List.getElem?_cons_succ, List.getElem?_cons_zero]; rfl))
  obtain ⟨s0, s1, s2, s3, s4, s5, s6, s7, s8, s9, s10, s11, s12, s13⟩ := hHeld
  go_simp
  ((with_reducible refine (H3.out _).mono ?_); rintro e wx3 ⟨rfl, hb⟩)
  replace HW := Lib.hid (below_step HW.out hb)
  refine hK.out _ _ ?_ (fun hHeld => ?_)
  · (try dsimp only); exact ⟨cel_below hb s0, cel_below hb s1, cel_below hb s2, cel_below hb s3, cel_below hb s4, cel_below hb s5, cel_below hb s6, cel_below hb s7, cel_below hb s8, cel_below hb s9, cel_below hb s10, cel_below hb s11, cel_below hb s12, cel_below hb s13⟩
  clear hK K hb s0 s1 s2 s3 s4 s5 s6 s7 s8 s9 s10 s11 s12 s13
  (try simp only [Act.put, List.setIfInBounds_toArray, List.set_cons_zero, List.set_cons_succ])
  first | (refine wpAnyH_take (i := 22) (oi := ?oi42) (v := ?v42) ?hi42 (by kernel_rfl) (by kernel_rfl) (by kernel_rfl) ?hQ42 (Or.inl ⟨?hw42, ?hy42⟩) (by assumption) ?rest42; (case hi42 => (simp only [List.getElem?_toArray, List.getElem?_cons_succ, List.getElem?_cons_zero]; rfl)); (case hQ42 => exact fun _ _ _ h => h); (case hw42 => rfl); (case hy42 => ((intro w hSw); (try dsimp only at hSw); go_simp; (try with_reducible rfl)))) | (refine wpAnyH_take (i := 22) (oi := ?oi43) (v := undef) ?hi43 (by kernel_rfl) (by kernel_rfl) (by kernel_rfl) ?hQ43 (Or.inr ⟨?hw43, rfl⟩) (by assumption) ?rest43; (case hi43 => (simp only [List.getElem?_toArray, List.getElem?_cons_succ, List.getElem?_cons_zero]; rfl)); (case hQ43 => exact fun _ _ _ h => h); (case hw43 => rfl))
  (try simp only [Act.put, List.setIfInBounds_toArray, List.set_cons_zero, List.set_cons_succ])
  first | (refine wpAnyH_take (i := 23) (oi := ?oi44) (v := ?v44) ?hi44 (by kernel_rfl) (by kernel_rfl) (by kernel_rfl) ?hQ44 (Or.inl ⟨?hw44, ?hy44⟩) (by assumption) ?rest44; (case hi44 => (simp only [List.getElem?_toArray, List.getElem?_cons_succ, List.getElem?_cons_zero]; rfl)); (case hQ44 => exact fun _ _ _ h => h); (case hw44 => rfl); (case hy44 => ((intro w hSw); (try dsimp only at hSw); go_simp; (try with_reducible rfl)))) | (refine wpAnyH_take (i := 23) (oi := ?oi45) (v := undef) ?hi45 (by kernel_rfl) (by kernel_rfl) (by kernel_rfl) ?hQ45 (Or.inr ⟨?hw45, rfl⟩) (by assumption) ?rest45; (case hi45 => (simp only [List.getElem?_toArray, List.getElem?_cons_succ, List.getElem?_cons_zero]; rfl)); (case hQ45 => exact fun _ _ _ h => h); (case hw45 => rfl))
  (try simp only [Act.put, List.setIfInBounds_toArray, List.set_cons_zero, List.set_cons_succ])
  first | (refine wpAnyH_take (i := 24) (oi := ?oi46) (v := ?v46) ?hi46 (by kernel_rfl) (by kernel_rfl) (by kernel_rfl) ?hQ46 (Or.inl ⟨?hw46, ?hy46⟩) (by assumption) ?rest46; (case hi46 => (simp only [List.getElem?_toArray, List.getElem?_cons_succ, List.getElem?_cons_zero]; rfl)); (case hQ46 => exact fun _ _ _ h => h); (case hw46 => rfl); (case hy46 => ((intro w hSw); (try dsimp only at hSw); go_simp; (try with_reducible rfl)))) | (refine wpAnyH_take (i := 24) (oi := ?oi47) (v := undef) ?hi47 (by kernel_rfl) (by kernel_rfl) (by kernel_rfl) ?hQ47 (Or.inr ⟨?hw47, rfl⟩) (by assumption) ?rest47; (case hi47 => (simp only [List.getElem?_toArray, List.getElem?_cons_succ, List.getElem?_cons_zero]; rfl)); (case hQ47 => exact fun _ _ _ h => h); (case hw47 => rfl))
  (try simp only [Act.put, List.setIfInBounds_toArray, List.set_cons_zero, List.set_cons_succ])
  first | (refine wpAnyH_take (i := 25) (oi := ?oi48) (v := ?v48) ?hi48 (by kernel_rfl) (by kernel_rfl) (by kernel_rfl) ?hQ48 (Or.inl ⟨?hw48, ?hy48⟩) (by assumption) ?rest48; (case hi48 => (simp only [List.getElem?_toArray, List.getElem?_cons_succ, List.getElem?_cons_zero]; rfl)); (case hQ48 => exact fun _ _ _ h => h); (case hw48 => rfl); (case hy48 => ((intro w hSw); (try dsimp only at hSw); go_simp; (try with_reducible rfl)))) | (refine wpAnyH_take (i := 25) (oi := ?oi49) (v := undef) ?hi49 (by kernel_rfl) (by kernel_rfl) (by kernel_rfl) ?hQ49 (Or.inr ⟨?hw49, rfl⟩) (by assumption) ?rest49; (case hi49 => (simp only [List.getElem?_toArray, List.getElem?_cons_succ, List.getElem?_cons_zero]; rfl)); (case hQ49 => exact fun _ _ _ h => h); (case hw49 => rfl))
  (try simp only [Act.put, List.setIfInBounds_toArray, List.set_cons_zero, List.set_cons_succ])
  first | (refine wpAnyH_take (i := 26) (oi := ?oi50) (v := ?v50) ?hi50 (by kernel_rfl) (by kernel_rfl) (by kernel_rfl) ?hQ50 (Or.inl ⟨?hw50, ?hy50⟩) (by assumption) ?rest50; (case hi50 => (simp only [List.getElem?_toArray, List.getElem?_cons_succ, List.getElem?_cons_zero]; rfl)); (case hQ50 => exact fun _ _ _ h => h); (case hw50 => rfl); (case hy50 => ((intro w hSw); (try dsimp only at hSw); go_simp; (try with_reducible rfl)))) | (refine wpAnyH_take (i := 26) (oi := ?oi51) (v := undef) ?hi51 (by kernel_rfl) (by kernel_rfl) (by kernel_rfl) ?hQ51 (Or.inr ⟨?hw51, rfl⟩) (by assumption) ?rest51; (case hi51 => (simp only [List.getElem?_toArray, List.getElem?_cons_succ, List.getElem?_cons_zero]; rfl)); (case hQ51 => exact fun _ _ _ h => h); (case hw51 => rfl))
  (try simp only [Act.put, List.setIfInBounds_toArray, List.set_cons_zero, List.set_cons_succ])
  first | (refine wpAnyH_take (i := 27) (oi := ?oi52) (v := ?v52) ?hi52 (by kernel_rfl) (by kernel_rfl) (by kernel_rfl) ?hQ52 (Or.inl ⟨?hw52, ?hy52⟩) (by assumption) ?rest52; (case hi52 => (simp only [List.getElem?_toArray, List.getElem?_cons_succ, List.getElem?_cons_zero]; rfl)); (case hQ52 => exact fun _ _ _ h => h); (case hw52 => rfl); (case hy52 => ((intro w hSw); (try dsimp only at hSw); go_simp; (try with_reducible rfl)))) | (refine wpAnyH_take (i := 27) (oi := ?oi53) (v := undef) ?hi53 (by kernel_rfl) (by kernel_rfl) (by kernel_rfl) ?hQ53 (Or.inr ⟨?hw53, rfl⟩) (by assumption) ?rest53; (case hi53 => (simp only [List.getElem?_toArray, List.getElem?_cons_succ, List.getElem?_cons_zero]; rfl)); (case hQ53 => exact fun _ _ _ h => h); (case hw53 => rfl))
  (try simp only [Act.put, List.setIfInBounds_toArray, List.set_cons_zero, List.set_cons_succ])
  first | (refine wpAnyH_take (i := 28) (oi := ?oi54) (v := ?v54) ?hi54 (by kernel_rfl) (by kernel_rfl) (by kernel_rfl) ?hQ54 (Or.inl ⟨?hw54, ?hy54⟩) (by assumption) ?rest54; (case hi54 => (simp only [List.getElem?_toArray, List.getElem?_cons_succ, List.getElem?_cons_zero]; rfl)); (case hQ54 => exact fun _ _ _ h => h); (case hw54 => rfl); (case hy54 => ((intro w hSw); (try dsimp only at hSw); go_simp; (try with_reducible rfl)))) | (refine wpAnyH_take (i := 28) (oi := ?oi55) (v := undef) ?hi55 (by kernel_rfl) (by kernel_rfl) (by kernel_rfl) ?hQ55 (Or.inr ⟨?hw55, rfl⟩) (by assumption) ?rest55; (case hi55 => (simp only [List.getElem?_toArray, List.getElem?_cons_succ, List.getElem?_cons_zero]; rfl)); (case hQ55 => exact fun _ _ _ h => h); (case hw55 => rfl))
  (try simp only [Act.put, List.setIfInBounds_toArray, List.set_cons_zero, List.set_cons_succ])
  first | (refine wpAnyH_take (i := 29) (oi := ?oi56) (v := ?v56) ?hi56 (by kernel_rfl) (by kernel_rfl) (by kernel_rfl) ?hQ56 (Or.inl ⟨?hw56, ?hy56⟩) (by assumption) ?rest56; (case hi56 => (simp only [List.getElem?_toArray, List.getElem?_cons_succ, List.getElem?_cons_zero]; rfl)); (case hQ56 => exact fun _ _ _ h => h); (case hw56 => rfl); (case hy56 => ((intro w hSw); (try dsimp only at hSw); go_simp; (try with_reducible rfl)))) | (refine wpAnyH_take (i := 29) (oi := ?oi57) (v := undef) ?hi57 (by kernel_rfl) (by kernel_rfl) (by kernel_rfl) ?hQ57 (Or.inr ⟨?hw57, rfl⟩) (by assumption) ?rest57; (case hi57 => (simp only [List.getElem?_toArray, List.getElem?_cons_succ, List.getElem?_cons_zero]; rfl)); (case hQ57 => exact fun _ _ _ h => h); (case hw57 => rfl))
  (try simp only [Act.put, List.setIfInBounds_toArray, List.set_cons_zero, List.set_cons_succ])
  first | (refine wpAnyH_take (i := 30) (oi := ?oi58) (v := ?v58) ?hi58 (by kernel_rfl) (by kernel_rfl) (by kernel_rfl) ?hQ58 (Or.inl ⟨?hw58, ?hy58⟩) (by assumption) ?rest58; (case hi58 => (simp only [List.getElem?_toArray, List.getElem?_cons_succ, List.getElem?_cons_zero]; rfl)); (case hQ58 => exact fun _ _ _ h => h); (case hw58 => rfl); (case hy58 => ((intro w hSw); (try dsimp only at hSw); go_simp; (try with_reducible rfl)))) | (refine wpAnyH_take (i := 30) (oi := ?oi59) (v := undef) ?hi59 (by kernel_rfl) (by kernel_rfl) (by kernel_rfl) ?hQ59 (Or.inr ⟨?hw59, rfl⟩) (by assumption) ?rest59; (case hi59 => (simp only [List.getElem?_toArray, List.getElem?_cons_succ, List.getElem?_cons_zero]; rfl)); (case hQ59 => exact fun _ _ _ h => h); (case hw59 => rfl))
  (try simp only [Act.put, List.setIfInBounds_toArray, List.set_cons_zero, List.set_cons_succ])
  first | (refine wpAnyH_take (i := 31) (oi := ?oi60) (v := ?v60) ?hi60 (by kernel_rfl) (by kernel_rfl) (by kernel_rfl) ?hQ60 (Or.inl ⟨?hw60, ?hy60⟩) (by assumption) ?rest60; (case hi60 => (simp only [List.getElem?_toArray, List.getElem?_cons_succ, List.getElem?_cons_zero]; rfl)); (case hQ60 => exact fun _ _ _ h => h); (case hw60 => rfl); (case hy60 => ((intro w hSw); (try dsimp only at hSw); go_simp; (try with_reducible rfl)))) | (refine wpAnyH_take (i := 31) (oi := ?oi61) (v := undef) ?hi61 (by kernel_rfl) (by kernel_rfl) (by kernel_rfl) ?hQ61 (Or.inr ⟨?hw61, rfl⟩) (by assumption) ?rest61; (case hi61 => (simp only [List.getElem?_toArray, List.getElem?_cons_succ, List.getElem?_cons_zero]; rfl)); (case hQ61 => exact fun _ _ _ h => h); (case hw61 => rfl))
  (try simp only [Act.put, List.setIfInBounds_toArray, List.set_cons_zero, List.set_cons_succ])
  first | (refine wpAnyH_take (i := 32) (oi := ?oi62) (v := ?v62) ?hi62 (by kernel_rfl) (by kernel_rfl) (by kernel_rfl) ?hQ62 (Or.inl ⟨?hw62, ?hy62⟩) (by assumption) ?rest62; (case hi62 => (simp only [List.getElem?_toArray, List.getElem?_cons_succ, List.getElem?_cons_zero]; rfl)); (case hQ62 => exact fun _ _ _ h => h); (case hw62 => rfl); (case hy62 => ((intro w hSw); (try dsimp only at hSw); go_simp; (try with_reducible rfl)))) | (refine wpAnyH_take (i := 32) (oi := ?oi63) (v := undef) ?hi63 (by kernel_rfl) (by kernel_rfl) (by kernel_rfl) ?hQ63 (Or.inr ⟨?hw63, rfl⟩) (by assumption) ?rest63; (case hi63 => (simp only [List.getElem?_toArray, List.getElem?_cons_succ, List.getElem?_cons_zero]; rfl)); (case hQ63 => exact fun _ _ _ h => h); (case hw63 => rfl))
  (try simp only [Act.put, List.setIfInBounds_toArray, List.set_cons_zero, List.set_cons_succ])
  first | (refine wpAnyH_take (i := 33) (oi := ?oi64) (v := ?v64) ?hi64 (by kernel_rfl) (by kernel_rfl) (by kernel_rfl) ?hQ64 (Or.inl ⟨?hw64, ?hy64⟩) (by assumption) ?rest64; (case hi64 => (simp only [List.getElem?_toArray, List.getElem?_cons_succ, List.getElem?_cons_zero]; rfl)); (case hQ64 => exact fun _ _ _ h => h); (case hw64 => rfl); (case hy64 => ((intro w hSw); (try dsimp only at hSw); go_simp; (try with_reducible rfl)))) | (refine wpAnyH_take (i := 33) (oi := ?oi65) (v := undef) ?hi65 (by kernel_rfl) (by kernel_rfl) (by kernel_rfl) ?hQ65 (Or.inr ⟨?hw65, rfl⟩) (by assumption) ?rest65; (case hi65 => (simp only [List.getElem?_toArray, List.getElem?_cons_succ, List.getElem?_cons_zero]; rfl)); (case hQ65 => exact fun _ _ _ h => h); (case hw65 => rfl))
  (try simp only [Act.put, List.setIfInBounds_toArray, List.set_cons_zero, List.set_cons_succ])
  first | (refine wpAnyH_take (i := 34) (oi := ?oi66) (v := ?v66) ?hi66 (by kernel_rfl) (by kernel_rfl) (by kernel_rfl) ?hQ66 (Or.inl ⟨?hw66, ?hy66⟩) (by assumption) ?rest66; (case hi66 => (simp only [List.getElem?_toArray, List.getElem?_cons_succ, List.getElem?_cons_zero]; rfl)); (case hQ66 => exact fun _ _ _ h => h); (case hw66 => rfl); (case hy66 => ((intro w hSw); (try dsimp only at hSw); go_simp; (try with_reducible rfl)))) | (refine wpAnyH_take (i := 34) (oi := ?oi67) (v := undef) ?hi67 (by kernel_rfl) (by kernel_rfl) (by kernel_rfl) ?hQ67 (Or.inr ⟨?hw67, rfl⟩) (by assumption) ?rest67; (case hi67 => (simp only [List.getElem?_toArray, List.getElem?_cons_succ, List.getElem?_cons_zero]; rfl)); (case hQ67 => exact fun _ _ _ h => h); (case hw67 => rfl))
  (try simp only [Act.put, List.setIfInBounds_toArray, List.set_cons_zero, List.set_cons_succ])
  first | (refine wpAnyH_take (i := 35) (oi := ?oi68) (v := ?v68) ?hi68 (by kernel_rfl) (by kernel_rfl) (by kernel_rfl) ?hQ68 (Or.inl ⟨?hw68, ?hy68⟩) (by assumption) ?rest68; (case hi68 => (simp only [List.getElem?_toArray, List.getElem?_cons_succ, List.getElem?_cons_zero]; rfl)); (case hQ68 => exact fun _ _ _ h => h); (case hw68 => rfl); (case hy68 => ((intro w hSw); (try dsimp only at hSw); go_simp; (try with_reducible rfl)))) | (refine wpAnyH_take (i := 35) (oi := ?oi69) (v := undef) ?hi69 (by kernel_rfl) (by kernel_rfl) (by kernel_rfl) ?hQ69 (Or.inr ⟨?hw69, rfl⟩) (by assumption) ?rest69; (case hi69 => (simp only [List.getElem?_toArray, List.getElem?_cons_succ, List.getElem?_cons_zero]; rfl)); (case hQ69 => exact fun _ _ _ h => h); (case hw69 => rfl))
  (try simp only [Act.put, List.setIfInBounds_toArray, List.set_cons_zero, List.set_cons_succ])
  first | (refine wpAnyH_take (i := 36) (oi := ?oi70) (v := ?v70) ?hi70 (by kernel_rfl) (by kernel_rfl) (by kernel_rfl) ?hQ70 (Or.inl ⟨?hw70, ?hy70⟩) (by assumption) ?rest70; (case hi70 => (simp only [List.getElem?_toArray, List.getElem?_cons_succ, List.getElem?_cons_zero]; rfl)); (case hQ70 => exact fun _ _ _ h => h); (case hw70 => rfl); (case hy70 => ((intro w hSw); (try dsimp only at hSw); go_simp; (try with_reducible rfl)))) | (refine wpAnyH_take (i := 36) (oi := ?oi71) (v := undef) ?hi71 (by kernel_rfl) (by kernel_rfl) (by kernel_rfl) ?hQ71 (Or.inr ⟨?hw71, rfl⟩) (by assumption) ?rest71; (case hi71 => (simp only [List.getElem?_toArray, List.getElem?_cons_succ, List.getElem?_cons_zero]; rfl)); (case hQ71 => exact fun _ _ _ h => h); (case hw71 => rfl))
  (try simp only [Act.put, List.setIfInBounds_toArray, List.set_cons_zero, List.set_cons_succ])
  first | (refine wpAnyH_take (i := 37) (oi := ?oi72) (v := ?v72) ?hi72 (by kernel_rfl) (by kernel_rfl) (by kernel_rfl) ?hQ72 (Or.inl ⟨?hw72, ?hy72⟩) (by assumption) ?rest72; (case hi72 => (simp only [List.getElem?_toArray, List.getElem?_cons_succ, List.getElem?_cons_zero]; rfl)); (case hQ72 => exact fun _ _ _ h => h); (case hw72 => rfl); (case hy72 => ((intro w hSw); (try dsimp only at hSw); go_simp; (try with_reducible rfl)))) | (refine wpAnyH_take (i := 37) (oi := ?oi73) (v := undef) ?hi73 (by kernel_rfl) (by kernel_rfl) (by kernel_rfl) ?hQ73 (Or.inr ⟨?hw73, rfl⟩) (by assumption) ?rest73; (case hi73 => (simp only [List.getElem?_toArray, List.getElem?_cons_succ, List.getElem?_cons_zero]; rfl)); (case hQ73 => exact fun _ _ _ h => h); (case hw73 => rfl))
  (try simp only [Act.put, List.setIfInBounds_toArray, List.set_cons_zero, List.set_cons_succ])
  first | (refine wpAnyH_take (i := 38) (oi := ?oi74) (v := ?v74) ?hi74 (by kernel_rfl) (by kernel_rfl) (by kernel_rfl) ?hQ74 (Or.inl ⟨?hw74, ?hy74⟩) (by assumption) ?rest74; (case hi74 => (simp only [List.getElem?_toArray, List.getElem?_cons_succ, List.getElem?_cons_zero]; rfl)); (case hQ74 => exact fun _ _ _ h => h); (case hw74 => rfl); (case hy74 => ((intro w hSw); (try dsimp only at hSw); go_simp; (try with_reducible rfl)))) | (refine wpAnyH_take (i := 38) (oi := ?oi75) (v := undef) ?hi75 (by kernel_rfl) (by kernel_rfl) (by kernel_rfl) ?hQ75 (Or.inr ⟨?hw75, rfl⟩) (by assumption) ?rest75; (case hi75 => (simp only [List.getElem?_toArray, List.getElem?_cons_succ, List.getElem?_cons_zero]; rfl)); (case hQ75 => exact fun _ _ _ h => h); (case hw75 => rfl))
  (try simp only [Act.put, List.setIfInBounds_toArray, List.set_cons_zero, List.set_cons_succ])
  first | (refine wpAnyH_take (i := 39) (oi := ?oi76) (v := ?v76) ?hi76 (by kernel_rfl) (by kernel_rfl) (by kernel_rfl) ?hQ76 (Or.inl ⟨?hw76, ?hy76⟩) (by assumption) ?rest76; (case hi76 => (simp only [List.getElem?_toArray, List.getElem?_cons_succ, List.getElem?_cons_zero]; rfl)); (case hQ76 => exact fun _ _ _ h => h); (case hw76 => rfl); (case hy76 => ((intro w hSw); (try dsimp only at hSw); go_simp; (try with_reducible rfl)))) | (refine wpAnyH_take (i := 39) (oi := ?oi77) (v := undef) ?hi77 (by kernel_rfl) (by kernel_rfl) (by kernel_rfl) ?hQ77 (Or.inr ⟨?hw77, rfl⟩) (by assumption) ?rest77; (case hi77 => (simp only [List.getElem?_toArray, List.getElem?_cons_succ, List.getElem?_cons_zero]; rfl)); (case hQ77 => exact fun _ _ _ h => h); (case hw77 => rfl))
  (try simp only [Act.put, List.setIfInBounds_toArray, List.set_cons_zero, List.set_cons_succ])
  first | (refine wpAnyH_take (i := 40) (oi := ?oi78) (v := ?v78) ?hi78 (by kernel_rfl) (by kernel_rfl) (by kernel_rfl) ?hQ78 (Or.inl ⟨?hw78, ?hy78⟩) (by assumption) ?rest78; (case hi78 => (simp only [List.getElem?_toArray, List.getElem?_cons_succ, List.getElem?_cons_zero]; rfl)); (case hQ78 => exact fun _ _ _ h => h); (case hw78 => rfl); (case hy78 => ((intro w hSw); (try dsimp only at hSw); go_simp; (try with_reducible rfl)))) | (refine wpAnyH_take (i := 40) (oi := ?oi79) (v := undef) ?hi79 (by kernel_rfl) (by kernel_rfl) (by kernel_rfl) ?hQ79 (Or.inr ⟨?hw79, rfl⟩) (by assumption) ?rest79; (case hi79 => (simp only [List.getElem?_toArray, List.getElem?_cons_succ, List.getElem?_cons_zero]; rfl)); (case hQ79 => exact fun _ _ _ h => h); (case hw79 => rfl))
  (try simp only [Act.put, List.setIfInBounds_toArray, List.set_cons_zero, List.set_cons_succ])
  first | (refine wpAnyH_take (i := 41) (oi := ?oi80) (v := ?v80) ?hi80 (by kernel_rfl) (by kernel_rfl) (by kernel_rfl) ?hQ80 (Or.inl ⟨?hw80, ?hy80⟩) (by assumption) ?rest80; (case hi80 => (simp only [List.getElem?_toArray, List.getElem?_cons_succ, List.getElem?_cons_zero]; rfl)); (case hQ80 => exact fun _ _ _ h => h); (case hw80 => rfl); (case hy80 => ((intro w hSw); (try dsimp only at hSw); go_simp; (try with_reducible rfl)))) | (refine wpAnyH_take (i := 41) (oi := ?oi81) (v := undef) ?hi81 (by kernel_rfl) (by kernel_rfl) (by kernel_rfl) ?hQ81 (Or.inr ⟨?hw81, rfl⟩) (by assumption) ?rest81; (case hi81 => (simp only [List.getElem?_toArray, List.getElem?_cons_succ, List.getElem?_cons_zero]; rfl)); (case hQ81 => exact fun _ _ _ h => h); (case hw81 => rfl))
  (try simp only [Act.put, List.setIfInBounds_toArray, List.set_cons_zero, List.set_cons_succ])
  refine wpAnyH_ready (rs := [42]) (by kernel_rfl) (by simp) ?_
  refine AllReadyH.cons (o := ?oi82) ?hi82 (fun K hK => ?rest82) AllReadyH.nil
  (case hi82 => (simp only [List.getElem?_toArray, List.getElem?_cons_succ, List.getElem?_cons_zero]; rfl))
  obtain ⟨s0, s1, s2, s3, s4, s5, s6, s7, s8, s9, s10, s11, s12, s13⟩ := hHeld
  go_simp
  ((with_reducible refine (H5.out _).mono ?_); rintro e wx5 ⟨rfl, hb⟩)
  replace HW := Lib.hid (below_step HW.out hb)
  refine hK.out _ _ ?_ (fun hHeld => ?_)
  · (try dsimp only); exact ⟨cel_below hb s0, cel_below hb s1, cel_below hb s2, cel_below hb s3, cel_below hb s4, cel_below hb s5, cel_below hb s6, cel_below hb s7, cel_below hb s8, cel_below hb s9, cel_below hb s10, cel_below hb s11, cel_below hb s12, cel_below hb s13⟩
  clear hK K hb s0 s1 s2 s3 s4 s5 s6 s7 s8 s9 s10 s11 s12 s13
  (try simp only [Act.put, List.setIfInBounds_toArray, List.set_cons_zero, List.set_cons_succ])
  first | (refine wpAnyH_take (i := 43) (oi := ?oi83) (v := ?v83) ?hi83 (by kernel_rfl) (by kernel_rfl) (by kernel_rfl) ?hQ83 (Or.inl ⟨?hw83, ?hy83⟩) (by assumption) ?rest83; (case hi83 => (simp only [List.getElem?_toArray, List.getElem?_cons_succ, List.getElem?_cons_zero]; rfl)); (case hQ83 => exact fun _ _ _ h => h); (case hw83 => rfl); (case hy83 => ((intro w hSw); (try dsimp only at hSw); go_simp; (try with_reducible rfl)))) | (refine wpAnyH_take (i := 43) (oi := ?oi84) (v := undef) ?hi84 (by kernel_rfl) (by kernel_rfl) (by kernel_rfl) ?hQ84 (Or.inr ⟨?hw84, rfl⟩) (by assumption) ?rest84; (case hi84 => (simp only [List.getElem?_toArray, List.getElem?_cons_succ, List.getElem?_cons_zero]; rfl)); (case hQ84 => exact fun _ _ _ h => h); (case hw84 => rfl))
  (try simp only [Act.put, List.setIfInBounds_toArray, List.set_cons_zero, List.set_cons_succ])
  first | (refine wpAnyH_take (i := 44) (oi := ?oi85) (v := ?v85) ?hi85 (by kernel_rfl) (by kernel_rfl) (by kernel_rfl) ?hQ85 (Or.inl ⟨?hw85, ?hy85⟩) (by assumption) ?rest85; (case hi85 => (simp only [List.getElem?_toArray, List.getElem?_cons_succ, List.getElem?_cons_zero]; rfl)); (case hQ85 => exact fun _ _ _ h => h); (case hw85 => rfl); (case hy85 => ((intro w hSw); (try dsimp only at hSw); go_simp; (try with_reducible rfl)))) | (refine wpAnyH_take (i := 44) (oi := ?oi86) (v := undef) ?hi86 (by kernel_rfl) (by kernel_rfl) (by kernel_rfl) ?hQ86 (Or.inr ⟨?hw86, rfl⟩) (by assumption) ?rest86; (case hi86 => (simp only [List.getElem?_toArray, List.getElem?_cons_succ, List.getElem?_cons_zero]; rfl)); (case hQ86 => exact fun _ _ _ h => h); (case hw86 => rfl))
  (try simp only [Act.put, List.setIfInBounds_toArray, List.set_cons_zero, List.set_cons_succ])
  first | (refine wpAnyH_take (i := 45) (oi := ?oi87) (v := ?v87) ?hi87 (by kernel_rfl) (by kernel_rfl) (by kernel_rfl) ?hQ87 (Or.inl ⟨?hw87, ?hy87⟩) (by assumption) ?rest87; (case hi87 => (simp only [List.getElem?_toArray, List.getElem?_cons_succ, List.getElem?_cons_zero]; rfl)); (case hQ87 => exact fun _ _ _ h => h); (case hw87 => rfl); (case hy87 => ((intro w hSw); (try dsimp only at hSw); go_simp; (try with_reducible rfl)))) | (refine wpAnyH_take (i := 45) (oi := ?oi88) (v := undef) ?hi88 (by kernel_rfl) (by kernel_rfl) (by kernel_rfl) ?hQ88 (Or.inr ⟨?hw88, rfl⟩) (by assumption) ?rest88; (case hi88 => (simp only [List.getElem?_toArray, List.getElem?_cons_succ, List.getElem?_cons_zero]; rfl)); (case hQ88 => exact fun _ _ _ h => h); (case hw88 => rfl))
  (try simp only [Act.put, List.setIfInBounds_toArray, List.set_cons_zero, List.set_cons_succ])
  first | (refine wpAnyH_take (i := 46) (oi := ?oi89) (v := ?v89) ?hi89 (by kernel_rfl) (by kernel_rfl) (by kernel_rfl) ?hQ89 (Or.inl ⟨?hw89, ?hy89⟩) (by assumption) ?rest89; (case hi89 => (simp only [List.getElem?_toArray, List.getElem?_cons_succ, List.getElem?_cons_zero]; rfl)); (case hQ89 => exact fun _ _ _ h => h); (case hw89 => rfl); (case hy89 => ((intro w hSw); (try dsimp only at hSw); go_simp; (try with_reducible rfl)))) | (refine wpAnyH_take (i := 46) (oi := ?oi90) (v := undef) ?hi90 (by kernel_rfl) (by kernel_rfl) (by kernel_rfl) ?hQ90 (Or.inr ⟨?hw90, rfl⟩) (by assumption) ?rest90; (case hi90 => (simp only [List.getElem?_toArray, List.getElem?_cons_succ, List.getElem?_cons_zero]; rfl)); (case hQ90 => exact fun _ _ _ h => h); (case hw90 => rfl))
  (try simp only [Act.put, List.setIfInBounds_toArray, List.set_cons_zero, List.set_cons_succ])
  first | (refine wpAnyH_take (i := 47) (oi := ?oi91) (v := ?v91) ?hi91 (by kernel_rfl) (by kernel_rfl) (by kernel_rfl) ?hQ91 (Or.inl ⟨?hw91, ?hy91⟩) (by assumption) ?rest91; (case hi91 => (simp only [List.getElem?_toArray, List.getElem?_cons_succ, List.getElem?_cons_zero]; rfl)); (case hQ91 => exact fun _ _ _ h => h); (case hw91 => rfl); (case hy91 => ((intro w hSw); (try dsimp only at hSw); go_simp; (try with_reducible rfl)))) | (refine wpAnyH_take (i := 47) (oi := ?oi92) (v := undef) ?hi92 (by kernel_rfl) (by kernel_rfl) (by kernel_rfl) ?hQ92 (Or.inr ⟨?hw92, rfl⟩) (by assumption) ?rest92; (case hi92 => (simp only [List.getElem?_toArray, List.getElem?_cons_succ, List.getElem?_cons_zero]; rfl)); (case hQ92 => exact fun _ _ _ h => h); (case hw92 => rfl))
  (try simp only [Act.put, List.setIfInBounds_toArray, List.set_cons_zero, List.set_cons_succ])
  first | (refine wpAnyH_take (i := 48) (oi := ?oi93) (v := ?v93) ?hi93 (by kernel_rfl) (by kernel_rfl) (by kernel_rfl) ?hQ93 (Or.inl ⟨?hw93, ?hy93⟩) (by assumption) ?rest93; (case hi93 => (simp only [List.getElem?_toArray, List.getElem?_cons_succ, List.getElem?_cons_zero]; rfl)); (case hQ93 => exact fun _ _ _ h => h); (case hw93 => rfl); (case hy93 => ((intro w hSw); (try dsimp only at hSw); go_simp; (try with_reducible rfl)))) | (refine wpAnyH_take (i := 48) (oi := ?oi94) (v := undef) ?hi94 (by kernel_rfl) (by kernel_rfl) (by kernel_rfl) ?hQ94 (Or.inr ⟨?hw94, rfl⟩) (by assumption) ?rest94; (case hi94 => (simp only [List.getElem?_toArray, List.getElem?_cons_succ, List.getElem?_cons_zero]; rfl)); (case hQ94 => exact fun _ _ _ h => h); (case hw94 => rfl))
  (try simp only [Act.put, List.setIfInBounds_toArray, List.set_cons_zero, List.set_cons_succ])
  first | (refine wpAnyH_take (i := 49) (oi := ?oi95) (v := ?v95) ?hi95 (by kernel_rfl) (by kernel_rfl) (by kernel_rfl) ?hQ95 (Or.inl ⟨?hw95, ?hy95⟩) (by assumption) ?rest95; (case hi95 => (simp only [List.getElem?_toArray, List.getElem?_cons_succ, List.getElem?_cons_zero]; rfl)); (case hQ95 => exact fun _ _ _ h => h); (case hw95 => rfl); (case hy95 => ((intro w hSw); (try dsimp only at hSw); go_simp; (try with_reducible rfl)))) | (refine wpAnyH_take (i := 49) (oi := ?oi96) (v := undef) ?hi96 (by kernel_rfl) (by kernel_rfl) (by kernel_rfl) ?hQ96 (Or.inr ⟨?hw96, rfl⟩) (by assumption) ?rest96; (case hi96 => (simp only [List.getElem?_toArray, List.getElem?_cons_succ, List.getElem?_cons_zero]; rfl)); (case hQ96 => exact fun _ _ _ h => h); (case hw96 => rfl))
  (try simp only [Act.put, List.setIfInBounds_toArray, List.set_cons_zero, List.set_cons_succ])
  first | (refine wpAnyH_take (i := 50) (oi := ?oi97) (v := ?v97) ?hi97 (by kernel_rfl) (by kernel_rfl) (by kernel_rfl) ?hQ97 (Or.inl ⟨?hw97, ?hy97⟩) (by assumption) ?rest97; (case hi97 => (simp only [List.getElem?_toArray, List.getElem?_cons_succ, List.getElem?_cons_zero]; rfl)); (case hQ97 => exact fun _ _ _ h => h); (case hw97 => rfl); (case hy97 => ((intro w hSw); (try dsimp only at hSw); go_simp; (try with_reducible rfl)))) | (refine wpAnyH_take (i := 50) (oi := ?oi98) (v := undef) ?hi98 (by kernel_rfl) (by kernel_rfl) (by kernel_rfl) ?hQ98 (Or.inr ⟨?hw98, rfl⟩) (by assumption) ?rest98; (case hi98 => (simp only [List.getElem?_toArray, List.getElem?_cons_succ, List.getElem?_cons_zero]; rfl)); (case hQ98 => exact fun _ _ _ h => h); (case hw98 => rfl))
  (try simp only [Act.put, List.setIfInBounds_toArray, List.set_cons_zero, List.set_cons_succ])
  first | (refine wpAnyH_take (i := 51) (oi := ?oi99) (v := ?v99) ?hi99 (by kernel_rfl) (by kernel_rfl) (by kernel_rfl) ?hQ99 (Or.inl ⟨?hw99, ?hy99⟩) (by assumption) ?rest99; (case hi99 => (simp only [List.getElem?_toArray, List.getElem?_cons_succ, List.getElem?_cons_zero]; rfl)); (case hQ99 => exact fun _ _ _ h => h); (case hw99 => rfl); (case hy99 => ((intro w hSw); (try dsimp only at hSw); go_simp; (try with_reducible rfl)))) | (refine wpAnyH_take (i := 51) (oi := ?oi100) (v := undef) ?hi100 (by kernel_rfl) (by kernel_rfl) (by kernel_rfl) ?hQ100 (Or.inr ⟨?hw100, rfl⟩) (by assumption) ?rest100; (case hi100 => (simp only [List.getElem?_toArray, List.getElem?_cons_succ, List.getElem?_cons_zero]; rfl)); (case hQ100 => exact fun _ _ _ h => h); (case hw100 => rfl))
  (try simp only [Act.put, List.setIfInBounds_toArray, List.set_cons_zero, List.set_cons_succ])
  first | (refine wpAnyH_take (i := 52) (oi := ?oi101) (v := ?v101) ?hi101 (by kernel_rfl) (by kernel_rfl) (by kernel_rfl) ?hQ101 (Or.inl ⟨?hw101, ?hy101⟩) (by assumption) ?rest101; (case hi101 => (simp only [List.getElem?_toArray, List.getElem?_cons_succ, List.getElem?_cons_zero]; rfl)); (case hQ101 => exact fun _ _ _ h => h); (case hw101 => rfl); (case hy101 => ((intro w hSw); (try dsimp only at hSw); go_simp; (try with_reducible rfl)))) | (refine wpAnyH_take (i := 52) (oi := ?oi102) (v := undef) ?hi102 (by kernel_rfl) (by kernel_rfl) (by kernel_rfl) ?hQ102 (Or.inr ⟨?hw102, rfl⟩) (by assumption) ?rest102; (case hi102 => (simp only [List.getElem?_toArray, List.getElem?_cons_succ, List.getElem?_cons_zero]; rfl)); (case hQ102 => exact fun _ _ _ h => h); (case hw102 => rfl))
  (try simp only [Act.put, List.setIfInBounds_toArray, List.set_cons_zero, List.set_cons_succ])
  first | (refine wpAnyH_take (i := 53) (oi := ?oi103) (v := ?v103) ?hi103 (by kernel_rfl) (by kernel_rfl) (by kernel_rfl) ?hQ103 (Or.inl ⟨?hw103, ?hy103⟩) (by assumption) ?rest103; (case hi103 => (simp only [List.getElem?_toArray, List.getElem?_cons_succ, List.getElem?_cons_zero]; rfl)); (case hQ103 => exact fun _ _ _ h => h); (case hw103 => rfl); (case hy103 => ((intro w hSw); (try dsimp only at hSw); go_simp; (try with_reducible rfl)))) | (refine wpAnyH_take (i := 53) (oi := ?oi104) (v := undef) ?hi104 (by kernel_rfl) (by kernel_rfl) (by kernel_rfl) ?hQ104 (Or.inr ⟨?hw104, rfl⟩) (by assumption) ?rest104; (case hi104 => (simp only [List.getElem?_toArray, List.getElem?_cons_succ, List.getElem?_cons_zero]; rfl)); (case hQ104 => exact fun _ _ _ h => h); (case hw104 => rfl))
  (try simp only [Act.put, List.setIfInBounds_toArray, List.set_cons_zero, List.set_cons_succ])
  first | (refine wpAnyH_take (i := 54) (oi := ?oi105) (v := ?v105) ?hi105 (by kernel_rfl) (by kernel_rfl) (by kernel_rfl) ?hQ105 (Or.inl ⟨?hw105, ?hy105⟩) (by assumption) ?rest105; (case hi105 => (simp only [List.getElem?_toArray, List.getElem?_cons_succ, List.getElem?_cons_zero]; rfl)); (case hQ105 => exact fun _ _ _ h => h); (case hw105 => rfl); (case hy105 => ((intro w hSw); (try dsimp only at hSw); go_simp; (try with_reducible rfl)))) | (refine wpAnyH_take (i := 54) (oi := ?oi106) (v := undef) ?hi106 (by kernel_rfl) (by kernel_rfl) (by kernel_rfl) ?hQ106 (Or.inr ⟨?hw106, rfl⟩) (by assumption) ?rest106; (case hi106 => (simp only [List.getElem?_toArray, List.getElem?_cons_succ, List.getElem?_cons_zero]; rfl)); (case hQ106 => exact fun _ _ _ h => h); (case hw106 => rfl))
  (try simp only [Act.put, List.setIfInBounds_toArray, List.set_cons_zero, List.set_cons_succ])
  first | (refine wpAnyH_take (i := 55) (oi := ?oi107) (v := ?v107) ?hi107 (by kernel_rfl) (by kernel_rfl) (by kernel_rfl) ?hQ107 (Or.inl ⟨?hw107, ?hy107⟩) (by assumption) ?rest107; (case hi107 => (simp only [List.getElem?_toArray, List.getElem?_cons_succ, List.getElem?_cons_zero]; rfl)); (case hQ107 => exact fun _ _ _ h => h); (case hw107 => rfl); (case hy107 => ((intro w hSw); (try dsimp only at hSw); go_simp; (try with_reducible rfl)))) | (refine wpAnyH_take (i := 55) (oi := ?oi108) (v := undef) ?hi108 (by kernel_rfl) (by kernel_rfl) (by kernel_rfl) ?hQ108 (Or.inr ⟨?hw108, rfl⟩) (by assumption) ?rest108; (case hi108 => (simp only [List.getElem?_toArray, List.getElem?_cons_succ, List.getElem?_cons_zero]; rfl)); (case hQ108 => exact fun _ _ _ h => h); (case hw108 => rfl))
  (try simp only [Act.put, List.setIfInBounds_toArray, List.set_cons_zero, List.set_cons_succ])
  first | (refine wpAnyH_take (i := 56) (oi := ?oi109) (v := ?v109) ?hi109 (by kernel_rfl) (by kernel_rfl) (by kernel_rfl) ?hQ109 (Or.inl ⟨?hw109, ?hy109⟩) (by assumption) ?rest109; (case hi109 => (simp only [List.getElem?_toArray, List.getElem?_cons_succ, List.getElem?_cons_zero]; rfl)); (case hQ109 => exact fun _ _ _ h => h); (case hw109 => rfl); (case hy109 => ((intro w hSw); (try dsimp only at hSw); go_simp; (try with_reducible rfl)))) | (refine wpAnyH_take (i := 56) (oi := ?oi110) (v := undef) ?hi110 (by kernel_rfl) (by kernel_rfl) (by kernel_rfl) ?hQ110 (Or.inr ⟨?hw110, rfl⟩) (by assumption) ?rest110; (case hi110 => (simp only [List.getElem?_toArray, List.getElem?_cons_succ, List.getElem?_cons_zero]; rfl)); (case hQ110 => exact fun _ _ _ h => h); (case hw110 => rfl))
  (try simp only [Act.put, List.setIfInBounds_toArray, List.set_cons_zero, List.set_cons_succ])
  first | (refine wpAnyH_take (i := 57) (oi := ?oi111) (v := ?v111) ?hi111 (by kernel_rfl) (by kernel_rfl) (by kernel_rfl) ?hQ111 (Or.inl ⟨?hw111, ?hy111⟩) (by assumption) ?rest111; (case hi111 => (simp only [List.getElem?_toArray, List.getElem?_cons_succ, List.getElem?_cons_zero]; rfl)); (case hQ111 => exact fun _ _ _ h => h); (case hw111 => rfl); (case hy111 => ((intro w hSw); (try dsimp only at hSw); go_simp; (try with_reducible rfl)))) | (refine wpAnyH_take (i := 57) (oi := ?oi112) (v := undef) ?hi112 (by kernel_rfl) (by kernel_rfl) (by kernel_rfl) ?hQ112 (Or.inr ⟨?hw112, rfl⟩) (by assumption) ?rest112; (case hi112 => (simp only [List.getElem?_toArray, List.getElem?_cons_succ, List.getElem?_cons_zero]; rfl)); (case hQ112 => exact fun _ _ _ h => h); (case hw112 => rfl))
  (try simp only [Act.put, List.setIfInBounds_toArray, List.set_cons_zero, List.set_cons_succ])
  first | (refine wpAnyH_take (i := 58) (oi := ?oi113) (v := ?v113) ?hi113 (by kernel_rfl) (by kernel_rfl) (by kernel_rfl) ?hQ113 (Or.inl ⟨?hw113, ?hy113⟩) (by assumption) ?rest113; (case hi113 => (simp only [List.getElem?_toArray, List.getElem?_cons_succ, List.getElem?_cons_zero]; rfl)); (case hQ113 => exact fun _ _ _ h => h); (case hw113 => rfl); (case hy113 => ((intro w hSw); (try dsimp only at hSw); go_simp; (try with_reducible rfl)))) | (refine wpAnyH_take (i := 58) (oi := ?oi114) (v := undef) ?hi114 (by kernel_rfl) (by kernel_rfl) (by kernel_rfl) ?hQ114 (Or.inr ⟨?hw114, rfl⟩) (by assumption) ?rest114; (case hi114 => (simp only [List.getElem?_toArray, List.getElem?_cons_succ, List.getElem?_cons_zero]; rfl)); (case hQ114 => exact fun _ _ _ h => h); (case hw114 => rfl))
  (try simp only [Act.put, List.setIfInBounds_toArray, List.set_cons_zero, List.set_cons_succ])
  refine wpAnyH_done (by kernel_rfl) ?_ _
  obtain ⟨s0, s1, s2, s3, s4, s5, s6, s7, s8, s9, s10, s11, s12, s13⟩ := hHeld
  go_wp2
  go_ret
  exact ⟨rfl, HW.out⟩
set_option maxHeartbeats 4000000 in
set_option maxRecDepth 100000 in
theorem walk_nzkp (w : World) (f0 : Value) (a1 : Option Addr) (t c1 : Nat) (f2 : Value) (a3 : Option Addr) (n c3 : Nat) (f4 f5 : Value) (k s m : Int) (ht : t ≤ 40) (hc : (progCf t n k s m).ok) (gn : n = 0) (gk : 0 < k) : Calls Try.prog 10 #[.agg #[f0, .slice a1 t c1, f2, .slice a3 n c3, f4, f5, .int .i64 k], .int .i64 s, .int .i64 m] w fun e w' => e = .returned (.bool true) ∧ Below w.heap.size w w' := by
  obtain ⟨L, hL⟩ : ∃ L, L = layOf (progCf t n k s m) := ⟨_, rfl⟩
  have hlok : L.ok := by
    obtain ⟨⟨h1, h2⟩, ⟨h3, h4⟩, ⟨h5, h6⟩, ⟨h7, h8⟩, ⟨h9, h10⟩⟩ := hc
    rw [hL]; unfold Ly.ok layOf progCf at *; simp only at *; omega
  have hx := hc
  obtain ⟨⟨h1, h2⟩, ⟨h3, h4⟩, ⟨h5, h6⟩, ⟨h7, h8⟩, ⟨h9, h10⟩⟩ := hx
  simp only [progCf] at h1 h2 h3 h4 h5 h6 h7 h8 h9 h10
  obtain ⟨v1, hv1⟩ : ∃ v, v = atStatus L ((t : Int) - 1) := ⟨_, rfl⟩
  have g1 : 0 ≤ v1 := by rw [hv1, hL]; unfold atStatus cellN layOf progCf; simp only; rw [if_neg (by omega)]; omega
  have H1 : Hid (∀ w, Calls Try.prog 36 #[L.v, .int .i64 ((t : Int) - 1)] w fun e w' => e = .returned (.int .i64 v1) ∧ Below w.heap.size w w') := Lib.hid (fun w => by rw [hv1]; exact status_any L _ w hlok)
  have H2 : Hid (∀ w, Calls Try.prog 36 #[L.v, .int .i64 (t : Nat)] w fun e w' => e = .returned (.int .i64 (-1)) ∧ Below w.heap.size w w') := Lib.hid (fun w => by
    have := status_any L t w hlok
    rwa [show atStatus L t = -1 by rw [hL]; unfold atStatus cellN layOf progCf; simp only; rw [if_pos (by omega)]] at this)
  have H3 : Hid (∀ w, Calls Try.prog 37 #[L.v, .int .i64 (n : Nat)] w fun e w' => e = .returned (.int .i64 (-1)) ∧ Below w.heap.size w w') := Lib.hid (fun w => by
    have := word_any L n w hlok
    rwa [show atWord L n = -1 by rw [hL]; unfold atWord cellN layOf progCf; simp only; rw [if_pos (by omega)]] at this)
  have H5 : Hid (∀ w, Calls Try.prog 39 #[L.v, .int .i64 k] w fun e w' => e = .returned (.int .i64 (-1)) ∧ Below w.heap.size w w') := Lib.hid (fun w => by
    have := lock_any L k w hlok
    rwa [show atLock L k = -1 by rw [hL]; unfold atLock cellN layOf progCf; simp only; rw [if_pos (by omega)]] at this)
  obtain ⟨v6, hv6⟩ : ∃ v, v = atLock L (k - 1) := ⟨_, rfl⟩
  have g6 : 0 ≤ v6 := by rw [hv6, hL]; unfold atLock cellN layOf progCf; simp only; rw [if_neg (by omega)]; omega
  have H6 : Hid (∀ w, Calls Try.prog 39 #[L.v, .int .i64 (k - 1)] w fun e w' => e = .returned (.int .i64 v6) ∧ Below w.heap.size w w') := Lib.hid (fun w => by rw [hv6]; exact lock_any L _ w hlok)
  have gk' : (k == 0) = false := by simp; omega
  have HO : Hid (∀ w, Calls Try.prog 25 #[(progCf t n k s m).v] w fun e w' => e = .returned (.tuple #[L.v, .int .i64 0]) ∧ Below w.heap.size w w') := Lib.hid (fun w => by rw [hL]; exact of_t _ w hc)
  have HF := Lib.hid (fun w => for_t f0 (.slice a1 t c1) f2 (.slice a3 n c3) f4 f5 t n k s m w ⟨_, _, rfl⟩ ⟨_, _, rfl⟩ hc)
  have HR := Lib.hid (fun w => rfor_t f0 (.slice a1 t c1) f2 (.slice a3 n c3) f4 f5 t n k s m w ⟨_, _, rfl⟩ ⟨_, _, rfl⟩ hc)
  have hne : ∀ w, (binOp .neq 51 (progCf t n k s m).v (progCf t n k s m).v).run Try.prog w = .ok (.bool false) w := fun w => by rw [conf_neq, (cfEq_iff _ _).2 rfl]; rfl
  unfold Ly.v at HO H1 H2 H3 H5 H6
  unfold progCf at HO HF HR hne
  unfold Cf.v at HO HF HR hne
  have ht' : decide ((40 : Int) < t) = false := by simp; omega
  have hn' : decide ((60 : Int) < n) = false := by simp; omega
  have ht2 : (t : Int) ≤ 4 := h2
  have E1 := Lib.hid (show IntKind.i64.wrap ((t : Int) - 1) = (t : Int) - 1 from IntWalk.i64_in _ (by omega))
  have E2 := Lib.hid (show IntKind.i64.wrap ((n : Int) - 1) = (n : Int) - 1 from IntWalk.i64_in _ (by omega))
  have E3 := Lib.hid (show IntKind.i64.wrap (k - 1) = k - 1 from IntWalk.i64_in _ (by omega))
  have hn2 : (n : Int) ≤ 32 := h4
  clear hv1 hv6 hL hlok hc h7 h8 h9 h10
  have gn' : ((n : Int) == 0) = true := by simp [gn]
  clear gn
  go_enter Try.func10, Try.ntmps10
  go_wp2_with fail
  ((with_reducible refine (sane15_any _).mono ?_); rintro e w1 ⟨rfl, hb⟩)
  have HW := Lib.hid (below_alloc1 hb)
  have zz : w.heap.size + 1 ≤ w1.heap.size := by have := hb.size; (try simp at this); omega
  have ccq0 : w1.cell? ⟨w.heap.size, 0, none⟩ = some (f0) := cel_below hb (by rw [World.cell?_alloc_at _ _ _ _ (by simp)]; rfl)
  have ccq1 : w1.cell? ⟨w.heap.size, 1, none⟩ = some (.slice a1 t c1) := cel_below hb (by rw [World.cell?_alloc_at _ _ _ _ (by simp)]; rfl)
  have ccq2 : w1.cell? ⟨w.heap.size, 2, none⟩ = some (f2) := cel_below hb (by rw [World.cell?_alloc_at _ _ _ _ (by simp)]; rfl)
  have ccq3 : w1.cell? ⟨w.heap.size, 3, none⟩ = some (.slice a3 n c3) := cel_below hb (by rw [World.cell?_alloc_at _ _ _ _ (by simp)]; rfl)
  have ccq4 : w1.cell? ⟨w.heap.size, 4, none⟩ = some (f4) := cel_below hb (by rw [World.cell?_alloc_at _ _ _ _ (by simp)]; rfl)
  have ccq5 : w1.cell? ⟨w.heap.size, 5, none⟩ = some (f5) := cel_below hb (by rw [World.cell?_alloc_at _ _ _ _ (by simp)]; rfl)
  have ccq6 : w1.cell? ⟨w.heap.size, 6, none⟩ = some (.int .i64 k) := cel_below hb (by rw [World.cell?_alloc_at _ _ _ _ (by simp)]; rfl)
  have z0 : w.heap.size < w1.heap.size := by omega
  clear hb zz
  go_wp2_with fail
  ((with_reducible refine (HF.out _).mono ?_); rintro e w2 ⟨rfl, hb⟩)
  replace HW := Lib.hid (below_step HW.out (hb))
  have zz : w1.heap.size + 0 ≤ w2.heap.size := by have := hb.size; (try simp at this); omega
  replace ccq0 : w2.cell? ⟨w.heap.size, 0, none⟩ = some (f0) := cel_below hb (ccq0)
  replace ccq1 : w2.cell? ⟨w.heap.size, 1, none⟩ = some (.slice a1 t c1) := cel_below hb (ccq1)
  replace ccq2 : w2.cell? ⟨w.heap.size, 2, none⟩ = some (f2) := cel_below hb (ccq2)
  replace ccq3 : w2.cell? ⟨w.heap.size, 3, none⟩ = some (.slice a3 n c3) := cel_below hb (ccq3)
  replace ccq4 : w2.cell? ⟨w.heap.size, 4, none⟩ = some (f4) := cel_below hb (ccq4)
  replace ccq5 : w2.cell? ⟨w.heap.size, 5, none⟩ = some (f5) := cel_below hb (ccq5)
  replace ccq6 : w2.cell? ⟨w.heap.size, 6, none⟩ = some (.int .i64 k) := cel_below hb (ccq6)
  replace z0 : w.heap.size < w2.heap.size := by omega
  clear hb zz
  go_wp2_with fail
  ((with_reducible refine (HR.out _).mono ?_); rintro e w3 ⟨rfl, hb⟩)
  replace HW := Lib.hid (below_step HW.out (below_alloc1 hb))
  have zz : w2.heap.size + 1 ≤ w3.heap.size := by have := hb.size; (try simp at this); omega
  replace ccq0 : w3.cell? ⟨w.heap.size, 0, none⟩ = some (f0) := cel_below hb (cell_alloc _ (ccq0))
  replace ccq1 : w3.cell? ⟨w.heap.size, 1, none⟩ = some (.slice a1 t c1) := cel_below hb (cell_alloc _ (ccq1))
  replace ccq2 : w3.cell? ⟨w.heap.size, 2, none⟩ = some (f2) := cel_below hb (cell_alloc _ (ccq2))
  replace ccq3 : w3.cell? ⟨w.heap.size, 3, none⟩ = some (.slice a3 n c3) := cel_below hb (cell_alloc _ (ccq3))
  replace ccq4 : w3.cell? ⟨w.heap.size, 4, none⟩ = some (f4) := cel_below hb (cell_alloc _ (ccq4))
  replace ccq5 : w3.cell? ⟨w.heap.size, 5, none⟩ = some (f5) := cel_below hb (cell_alloc _ (ccq5))
  replace ccq6 : w3.cell? ⟨w.heap.size, 6, none⟩ = some (.int .i64 k) := cel_below hb (cell_alloc _ (ccq6))
  replace z0 : w.heap.size < w3.heap.size := by omega
  have aq0 : w3.cell? ⟨w2.heap.size, 0, none⟩ = some (.int .i64 ((t : Nat) : Int)) := cel_below hb (by rw [World.cell?_alloc_at _ _ _ _ (by simp)]; rfl)
  have aq1 : w3.cell? ⟨w2.heap.size, 1, none⟩ = some (.int .i64 ((n : Nat) : Int)) := cel_below hb (by rw [World.cell?_alloc_at _ _ _ _ (by simp)]; rfl)
  have aq2 : w3.cell? ⟨w2.heap.size, 2, none⟩ = some (.int .i64 k) := cel_below hb (by rw [World.cell?_alloc_at _ _ _ _ (by simp)]; rfl)
  have aq3 : w3.cell? ⟨w2.heap.size, 3, none⟩ = some (.int .i64 s) := cel_below hb (by rw [World.cell?_alloc_at _ _ _ _ (by simp)]; rfl)
  have aq4 : w3.cell? ⟨w2.heap.size, 4, none⟩ = some (.int .i64 m) := cel_below hb (by rw [World.cell?_alloc_at _ _ _ _ (by simp)]; rfl)
  have z1 : w2.heap.size < w3.heap.size := by omega
  clear hb zz
  go_wp2_with fail
  ((with_reducible refine (HO.out _).mono ?_); rintro e w4 ⟨rfl, hb⟩)
  replace HW := Lib.hid (below_step HW.out (below_alloc1 hb))
  have zz : w3.heap.size + 1 ≤ w4.heap.size := by have := hb.size; (try simp at this); omega
  replace ccq0 : w4.cell? ⟨w.heap.size, 0, none⟩ = some (f0) := cel_below hb (cell_alloc _ (ccq0))
  replace ccq1 : w4.cell? ⟨w.heap.size, 1, none⟩ = some (.slice a1 t c1) := cel_below hb (cell_alloc _ (ccq1))
  replace ccq2 : w4.cell? ⟨w.heap.size, 2, none⟩ = some (f2) := cel_below hb (cell_alloc _ (ccq2))
  replace ccq3 : w4.cell? ⟨w.heap.size, 3, none⟩ = some (.slice a3 n c3) := cel_below hb (cell_alloc _ (ccq3))
  replace ccq4 : w4.cell? ⟨w.heap.size, 4, none⟩ = some (f4) := cel_below hb (cell_alloc _ (ccq4))
  replace ccq5 : w4.cell? ⟨w.heap.size, 5, none⟩ = some (f5) := cel_below hb (cell_alloc _ (ccq5))
  replace ccq6 : w4.cell? ⟨w.heap.size, 6, none⟩ = some (.int .i64 k) := cel_below hb (cell_alloc _ (ccq6))
  replace aq0 : w4.cell? ⟨w2.heap.size, 0, none⟩ = some (.int .i64 ((t : Nat) : Int)) := cel_below hb (cell_alloc _ (aq0))
  replace aq1 : w4.cell? ⟨w2.heap.size, 1, none⟩ = some (.int .i64 ((n : Nat) : Int)) := cel_below hb (cell_alloc _ (aq1))
  replace aq2 : w4.cell? ⟨w2.heap.size, 2, none⟩ = some (.int .i64 k) := cel_below hb (cell_alloc _ (aq2))
  replace aq3 : w4.cell? ⟨w2.heap.size, 3, none⟩ = some (.int .i64 s) := cel_below hb (cell_alloc _ (aq3))
  replace aq4 : w4.cell? ⟨w2.heap.size, 4, none⟩ = some (.int .i64 m) := cel_below hb (cell_alloc _ (aq4))
  replace z0 : w.heap.size < w4.heap.size := by omega
  replace z1 : w2.heap.size < w4.heap.size := by omega
  clear hb zz
  go_wp2_with fail
  obtain ⟨wr5, hwr⟩ : ∃ W, W = w4.alloc (.cells #[.int .i64 L.c.t, .int .i64 L.c.l, .int .i64 L.c.k, .int .i64 L.c.s, .int .i64 L.c.m, .int .i64 L.clock, .int .i64 L.stamps, .int .i64 L.log, .int .i64 L.fin, .int .i64 L.thread, .int .i64 L.lock, .int .i64 L.loc, .int .i64 L.size] 53) := ⟨_, rfl⟩
  rw [← hwr]
  have hb : Below w4.heap.size w4 wr5 := by rw [hwr]; exact (Below.alloc (Below.refl _ w4) (by first | exact Nat.le_refl _ | (simp; omega) | simp) _)
  have zz : w4.heap.size + 1 ≤ wr5.heap.size := by rw [hwr]; simp
  replace HW := Lib.hid (below_step HW.out hb)
  replace ccq0 : wr5.cell? ⟨w.heap.size, 0, none⟩ = some (f0) := cel_below hb ccq0
  replace ccq1 : wr5.cell? ⟨w.heap.size, 1, none⟩ = some (.slice a1 t c1) := cel_below hb ccq1
  replace ccq2 : wr5.cell? ⟨w.heap.size, 2, none⟩ = some (f2) := cel_below hb ccq2
  replace ccq3 : wr5.cell? ⟨w.heap.size, 3, none⟩ = some (.slice a3 n c3) := cel_below hb ccq3
  replace ccq4 : wr5.cell? ⟨w.heap.size, 4, none⟩ = some (f4) := cel_below hb ccq4
  replace ccq5 : wr5.cell? ⟨w.heap.size, 5, none⟩ = some (f5) := cel_below hb ccq5
  replace ccq6 : wr5.cell? ⟨w.heap.size, 6, none⟩ = some (.int .i64 k) := cel_below hb ccq6
  replace z0 : w.heap.size < wr5.heap.size := by omega
  replace z1 : w2.heap.size < wr5.heap.size := by omega
  have lq0 : wr5.cell? ⟨w4.heap.size, 0, none⟩ = some (.int .i64 L.c.t) := by rw [hwr]; exact by rw [World.cell?_alloc_at _ _ _ _ (by simp)]; rfl
  have lq1 : wr5.cell? ⟨w4.heap.size, 1, none⟩ = some (.int .i64 L.c.l) := by rw [hwr]; exact by rw [World.cell?_alloc_at _ _ _ _ (by simp)]; rfl
  have lq2 : wr5.cell? ⟨w4.heap.size, 2, none⟩ = some (.int .i64 L.c.k) := by rw [hwr]; exact by rw [World.cell?_alloc_at _ _ _ _ (by simp)]; rfl
  have lq3 : wr5.cell? ⟨w4.heap.size, 3, none⟩ = some (.int .i64 L.c.s) := by rw [hwr]; exact by rw [World.cell?_alloc_at _ _ _ _ (by simp)]; rfl
  have lq4 : wr5.cell? ⟨w4.heap.size, 4, none⟩ = some (.int .i64 L.c.m) := by rw [hwr]; exact by rw [World.cell?_alloc_at _ _ _ _ (by simp)]; rfl
  have lq5 : wr5.cell? ⟨w4.heap.size, 5, none⟩ = some (.int .i64 L.clock) := by rw [hwr]; exact by rw [World.cell?_alloc_at _ _ _ _ (by simp)]; rfl
  have lq6 : wr5.cell? ⟨w4.heap.size, 6, none⟩ = some (.int .i64 L.stamps) := by rw [hwr]; exact by rw [World.cell?_alloc_at _ _ _ _ (by simp)]; rfl
  have lq7 : wr5.cell? ⟨w4.heap.size, 7, none⟩ = some (.int .i64 L.log) := by rw [hwr]; exact by rw [World.cell?_alloc_at _ _ _ _ (by simp)]; rfl
  have lq8 : wr5.cell? ⟨w4.heap.size, 8, none⟩ = some (.int .i64 L.fin) := by rw [hwr]; exact by rw [World.cell?_alloc_at _ _ _ _ (by simp)]; rfl
  have lq9 : wr5.cell? ⟨w4.heap.size, 9, none⟩ = some (.int .i64 L.thread) := by rw [hwr]; exact by rw [World.cell?_alloc_at _ _ _ _ (by simp)]; rfl
  have lq10 : wr5.cell? ⟨w4.heap.size, 10, none⟩ = some (.int .i64 L.lock) := by rw [hwr]; exact by rw [World.cell?_alloc_at _ _ _ _ (by simp)]; rfl
  have lq11 : wr5.cell? ⟨w4.heap.size, 11, none⟩ = some (.int .i64 L.loc) := by rw [hwr]; exact by rw [World.cell?_alloc_at _ _ _ _ (by simp)]; rfl
  have lq12 : wr5.cell? ⟨w4.heap.size, 12, none⟩ = some (.int .i64 L.size) := by rw [hwr]; exact by rw [World.cell?_alloc_at _ _ _ _ (by simp)]; rfl
  have z2 : w4.heap.size < wr5.heap.size := by omega
  clear hb zz hwr
  have e1 := E1.out
  have e2 := E2.out
  have e3 := E3.out
  refine wp_region_held_drew (S := fun W => W.cell? ⟨w4.heap.size, 0, none⟩ = some (.int .i64 L.c.t) ∧ W.cell? ⟨w4.heap.size, 1, none⟩ = some (.int .i64 L.c.l) ∧ W.cell? ⟨w4.heap.size, 2, none⟩ = some (.int .i64 L.c.k) ∧ W.cell? ⟨w4.heap.size, 3, none⟩ = some (.int .i64 L.c.s) ∧ W.cell? ⟨w4.heap.size, 4, none⟩ = some (.int .i64 L.c.m) ∧ W.cell? ⟨w4.heap.size, 5, none⟩ = some (.int .i64 L.clock) ∧ W.cell? ⟨w4.heap.size, 6, none⟩ = some (.int .i64 L.stamps) ∧ W.cell? ⟨w4.heap.size, 7, none⟩ = some (.int .i64 L.log) ∧ W.cell? ⟨w4.heap.size, 8, none⟩ = some (.int .i64 L.fin) ∧ W.cell? ⟨w4.heap.size, 9, none⟩ = some (.int .i64 L.thread) ∧ W.cell? ⟨w4.heap.size, 10, none⟩ = some (.int .i64 L.lock) ∧ W.cell? ⟨w4.heap.size, 11, none⟩ = some (.int .i64 L.loc) ∧ W.cell? ⟨w4.heap.size, 12, none⟩ = some (.int .i64 L.size) ∧ W.cell? ⟨w.heap.size, 6, none⟩ = some (.int .i64 k)) (by kernel_rfl) ?_ (fun hHeld => ?_)
  · (try dsimp only); exact ⟨by first | assumption | go_simp, by first | assumption | go_simp, by first | assumption | go_simp, by first | assumption | go_simp, by first | assumption | go_simp, by first | assumption | go_simp, by first | assumption | go_simp, by first | assumption | go_simp, by first | assumption | go_simp, by first | assumption | go_simp, by first | assumption | go_simp, by first | assumption | go_simp, by first | assumption | go_simp, by first | assumption | go_simp⟩
  replace HW := Lib.hid (below_drews HW.out 1)
  first | (refine wpAnyH_take (i := 0) (oi := ?oi115) (v := ?v115) ?hi115 (by kernel_rfl) (by kernel_rfl) (by kernel_rfl) ?hQ115 (Or.inl ⟨?hw115, ?hy115⟩) (by assumption) ?rest115; (case hi115 => (simp only [List.getElem?_toArray, List.getElem?_cons_zero]; rfl)); (case hQ115 => exact fun _ _ _ h => h); (case hw115 => rfl); (case hy115 => ((intro w hSw); (try dsimp only at hSw); go_simp; (try with_reducible rfl)))) | (refine wpAnyH_take (i := 0) (oi := ?oi116) (v := undef) ?hi116 (by kernel_rfl) (by kernel_rfl) (by kernel_rfl) ?hQ116 (Or.inr ⟨?hw116, rfl⟩) (by assumption) ?rest116; (case hi116 => (simp only [List.getElem?_toArray, List.getElem?_cons_zero]; rfl)); (case hQ116 => exact fun _ _ _ h => h); (case hw116 => rfl))
  (try simp only [Act.put, List.setIfInBounds_toArray, List.set_cons_zero, List.set_cons_succ])
  first | (refine wpAnyH_take (i := 1) (oi := ?oi117) (v := ?v117) ?hi117 (by kernel_rfl) (by kernel_rfl) (by kernel_rfl) ?hQ117 (Or.inl ⟨?hw117, ?hy117⟩) (by assumption) ?rest117; (case hi117 => (simp only [List.getElem?_toArray, List.getElem?_cons_succ, List.getElem?_cons_zero]; rfl)); (case hQ117 => exact fun _ _ _ h => h); (case hw117 => rfl); (case hy117 => ((intro w hSw); (try dsimp only at hSw); go_simp; (try with_reducible rfl)))) | (refine wpAnyH_take (i := 1) (oi := ?oi118) (v := undef) ?hi118 (by kernel_rfl) (by kernel_rfl) (by kernel_rfl) ?hQ118 (Or.inr ⟨?hw118, rfl⟩) (by assumption) ?rest118; (case hi118 => (simp only [List.getElem?_toArray, List.getElem?_cons_succ, List.getElem?_cons_zero]; rfl)); (case hQ118 => exact fun _ _ _ h => h); (case hw118 => rfl))
  (try simp only [Act.put, List.setIfInBounds_toArray, List.set_cons_zero, List.set_cons_succ])
  first | (refine wpAnyH_take (i := 2) (oi := ?oi119) (v := ?v119) ?hi119 (by kernel_rfl) (by kernel_rfl) (by kernel_rfl) ?hQ119 (Or.inl ⟨?hw119, ?hy119⟩) (by assumption) ?rest119; (case hi119 => (simp only [List.getElem?_toArray, List.getElem?_cons_succ, List.getElem?_cons_zero]; rfl)); (case hQ119 => exact fun _ _ _ h => h); (case hw119 => rfl); (case hy119 => ((intro w hSw); (try dsimp only at hSw); go_simp; (try with_reducible rfl)))) | (refine wpAnyH_take (i := 2) (oi := ?oi120) (v := undef) ?hi120 (by kernel_rfl) (by kernel_rfl) (by kernel_rfl) ?hQ120 (Or.inr ⟨?hw120, rfl⟩) (by assumption) ?rest120; (case hi120 => (simp only [List.getElem?_toArray, List.getElem?_cons_succ, List.getElem?_cons_zero]; rfl)); (case hQ120 => exact fun _ _ _ h => h); (case hw120 => rfl))
  (try simp only [Act.put, List.setIfInBounds_toArray, List.set_cons_zero, List.set_cons_succ])
  first | (refine wpAnyH_take (i := 3) (oi := ?oi121) (v := ?v121) ?hi121 (by kernel_rfl) (by kernel_rfl) (by kernel_rfl) ?hQ121 (Or.inl ⟨?hw121, ?hy121⟩) (by assumption) ?rest121; (case hi121 => (simp only [List.getElem?_toArray, List.getElem?_cons_succ, List.getElem?_cons_zero]; rfl)); (case hQ121 => exact fun _ _ _ h => h); (case hw121 => rfl); (case hy121 => ((intro w hSw); (try dsimp only at hSw); go_simp; (try with_reducible rfl)))) | (refine wpAnyH_take (i := 3) (oi := ?oi122) (v := undef) ?hi122 (by kernel_rfl) (by kernel_rfl) (by kernel_rfl) ?hQ122 (Or.inr ⟨?hw122, rfl⟩) (by assumption) ?rest122; (case hi122 => (simp only [List.getElem?_toArray, List.getElem?_cons_succ, List.getElem?_cons_zero]; rfl)); (case hQ122 => exact fun _ _ _ h => h); (case hw122 => rfl))
  (try simp only [Act.put, List.setIfInBounds_toArray, List.set_cons_zero, List.set_cons_succ])
  first | (refine wpAnyH_take (i := 4) (oi := ?oi123) (v := ?v123) ?hi123 (by kernel_rfl) (by kernel_rfl) (by kernel_rfl) ?hQ123 (Or.inl ⟨?hw123, ?hy123⟩) (by assumption) ?rest123; (case hi123 => (simp only [List.getElem?_toArray, List.getElem?_cons_succ, List.getElem?_cons_zero]; rfl)); (case hQ123 => exact fun _ _ _ h => h); (case hw123 => rfl); (case hy123 => ((intro w hSw); (try dsimp only at hSw); go_simp; (try with_reducible rfl)))) | (refine wpAnyH_take (i := 4) (oi := ?oi124) (v := undef) ?hi124 (by kernel_rfl) (by kernel_rfl) (by kernel_rfl) ?hQ124 (Or.inr ⟨?hw124, rfl⟩) (by assumption) ?rest124; (case hi124 => (simp only [List.getElem?_toArray, List.getElem?_cons_succ, List.getElem?_cons_zero]; rfl)); (case hQ124 => exact fun _ _ _ h => h); (case hw124 => rfl))
  (try simp only [Act.put, List.setIfInBounds_toArray, List.set_cons_zero, List.set_cons_succ])
  first | (refine wpAnyH_take (i := 5) (oi := ?oi125) (v := ?v125) ?hi125 (by kernel_rfl) (by kernel_rfl) (by kernel_rfl) ?hQ125 (Or.inl ⟨?hw125, ?hy125⟩) (by assumption) ?rest125; (case hi125 => (simp only [List.getElem?_toArray, List.getElem?_cons_succ, List.getElem?_cons_zero]; rfl)); (case hQ125 => exact fun _ _ _ h => h); (case hw125 => rfl); (case hy125 => ((intro w hSw); (try dsimp only at hSw); go_simp; (try with_reducible rfl)))) | (refine wpAnyH_take (i := 5) (oi := ?oi126) (v := undef) ?hi126 (by kernel_rfl) (by kernel_rfl) (by kernel_rfl) ?hQ126 (Or.inr ⟨?hw126, rfl⟩) (by assumption) ?rest126; (case hi126 => (simp only [List.getElem?_toArray, List.getElem?_cons_succ, List.getElem?_cons_zero]; rfl)); (case hQ126 => exact fun _ _ _ h => h); (case hw126 => rfl))
  (try simp only [Act.put, List.setIfInBounds_toArray, List.set_cons_zero, List.set_cons_succ])
  first | (refine wpAnyH_take (i := 6) (oi := ?oi127) (v := ?v127) ?hi127 (by kernel_rfl) (by kernel_rfl) (by kernel_rfl) ?hQ127 (Or.inl ⟨?hw127, ?hy127⟩) (by assumption) ?rest127; (case hi127 => (simp only [List.getElem?_toArray, List.getElem?_cons_succ, List.getElem?_cons_zero]; rfl)); (case hQ127 => exact fun _ _ _ h => h); (case hw127 => rfl); (case hy127 => ((intro w hSw); (try dsimp only at hSw); go_simp; (try with_reducible rfl)))) | (refine wpAnyH_take (i := 6) (oi := ?oi128) (v := undef) ?hi128 (by kernel_rfl) (by kernel_rfl) (by kernel_rfl) ?hQ128 (Or.inr ⟨?hw128, rfl⟩) (by assumption) ?rest128; (case hi128 => (simp only [List.getElem?_toArray, List.getElem?_cons_succ, List.getElem?_cons_zero]; rfl)); (case hQ128 => exact fun _ _ _ h => h); (case hw128 => rfl))
  (try simp only [Act.put, List.setIfInBounds_toArray, List.set_cons_zero, List.set_cons_succ])
  first | (refine wpAnyH_take (i := 7) (oi := ?oi129) (v := ?v129) ?hi129 (by kernel_rfl) (by kernel_rfl) (by kernel_rfl) ?hQ129 (Or.inl ⟨?hw129, ?hy129⟩) (by assumption) ?rest129; (case hi129 => (simp only [List.getElem?_toArray, List.getElem?_cons_succ, List.getElem?_cons_zero]; rfl)); (case hQ129 => exact fun _ _ _ h => h); (case hw129 => rfl); (case hy129 => ((intro w hSw); (try dsimp only at hSw); go_simp; (try with_reducible rfl)))) | (refine wpAnyH_take (i := 7) (oi := ?oi130) (v := undef) ?hi130 (by kernel_rfl) (by kernel_rfl) (by kernel_rfl) ?hQ130 (Or.inr ⟨?hw130, rfl⟩) (by assumption) ?rest130; (case hi130 => (simp only [List.getElem?_toArray, List.getElem?_cons_succ, List.getElem?_cons_zero]; rfl)); (case hQ130 => exact fun _ _ _ h => h); (case hw130 => rfl))
  (try simp only [Act.put, List.setIfInBounds_toArray, List.set_cons_zero, List.set_cons_succ])
  first | (refine wpAnyH_take (i := 8) (oi := ?oi131) (v := ?v131) ?hi131 (by kernel_rfl) (by kernel_rfl) (by kernel_rfl) ?hQ131 (Or.inl ⟨?hw131, ?hy131⟩) (by assumption) ?rest131; (case hi131 => (simp only [List.getElem?_toArray, List.getElem?_cons_succ, List.getElem?_cons_zero]; rfl)); (case hQ131 => exact fun _ _ _ h => h); (case hw131 => rfl); (case hy131 => ((intro w hSw); (try dsimp only at hSw); go_simp; (try with_reducible rfl)))) | (refine wpAnyH_take (i := 8) (oi := ?oi132) (v := undef) ?hi132 (by kernel_rfl) (by kernel_rfl) (by kernel_rfl) ?hQ132 (Or.inr ⟨?hw132, rfl⟩) (by assumption) ?rest132; (case hi132 => (simp only [List.getElem?_toArray, List.getElem?_cons_succ, List.getElem?_cons_zero]; rfl)); (case hQ132 => exact fun _ _ _ h => h); (case hw132 => rfl))
  (try simp only [Act.put, List.setIfInBounds_toArray, List.set_cons_zero, List.set_cons_succ])
  refine wpAnyH_ready (rs := [9]) (by kernel_rfl) (by simp) ?_
  refine AllReadyH.cons (o := ?oi133) ?hi133 (fun K hK => ?rest133) AllReadyH.nil
  (case hi133 => (simp only [List.getElem?_toArray, List.getElem?_cons_succ, List.getElem?_cons_zero]; rfl))
  obtain ⟨s0, s1, s2, s3, s4, s5, s6, s7, s8, s9, s10, s11, s12, s13⟩ := hHeld
  go_simp
  ((with_reducible refine (H1.out _).mono ?_); rintro e wx1 ⟨rfl, hb⟩)
  replace HW := Lib.hid (below_step HW.out hb)
  refine hK.out _ _ ?_ (fun hHeld => ?_)
  · (try dsimp only); exact ⟨cel_below hb s0, cel_below hb s1, cel_below hb s2, cel_below hb s3, cel_below hb s4, cel_below hb s5, cel_below hb s6, cel_below hb s7, cel_below hb s8, cel_below hb s9, cel_below hb s10, cel_below hb s11, cel_below hb s12, cel_below hb s13⟩
  clear hK K hb s0 s1 s2 s3 s4 s5 s6 s7 s8 s9 s10 s11 s12 s13
  (try simp only [Act.put, List.setIfInBounds_toArray, List.set_cons_zero, List.set_cons_succ])
  first | (refine wpAnyH_take (i := 10) (oi := ?oi134) (v := ?v134) ?hi134 (by kernel_rfl) (by kernel_rfl) (by kernel_rfl) ?hQ134 (Or.inl ⟨?hw134, ?hy134⟩) (by assumption) ?rest134; (case hi134 => (simp only [List.getElem?_toArray, List.getElem?_cons_succ, List.getElem?_cons_zero]; rfl)); (case hQ134 => exact fun _ _ _ h => h); (case hw134 => rfl); (case hy134 => ((intro w hSw); (try dsimp only at hSw); go_simp; (try with_reducible rfl)))) | (refine wpAnyH_take (i := 10) (oi := ?oi135) (v := undef) ?hi135 (by kernel_rfl) (by kernel_rfl) (by kernel_rfl) ?hQ135 (Or.inr ⟨?hw135, rfl⟩) (by assumption) ?rest135; (case hi135 => (simp only [List.getElem?_toArray, List.getElem?_cons_succ, List.getElem?_cons_zero]; rfl)); (case hQ135 => exact fun _ _ _ h => h); (case hw135 => rfl))
  (try simp only [Act.put, List.setIfInBounds_toArray, List.set_cons_zero, List.set_cons_succ])
  first | (refine wpAnyH_take (i := 11) (oi := ?oi136) (v := ?v136) ?hi136 (by kernel_rfl) (by kernel_rfl) (by kernel_rfl) ?hQ136 (Or.inl ⟨?hw136, ?hy136⟩) (by assumption) ?rest136; (case hi136 => (simp only [List.getElem?_toArray, List.getElem?_cons_succ, List.getElem?_cons_zero]; rfl)); (case hQ136 => exact fun _ _ _ h => h); (case hw136 => rfl); (case hy136 => ((intro w hSw); (try dsimp only at hSw); go_simp; (try with_reducible rfl)))) | (refine wpAnyH_take (i := 11) (oi := ?oi137) (v := undef) ?hi137 (by kernel_rfl) (by kernel_rfl) (by kernel_rfl) ?hQ137 (Or.inr ⟨?hw137, rfl⟩) (by assumption) ?rest137; (case hi137 => (simp only [List.getElem?_toArray, List.getElem?_cons_succ, List.getElem?_cons_zero]; rfl)); (case hQ137 => exact fun _ _ _ h => h); (case hw137 => rfl))
  (try simp only [Act.put, List.setIfInBounds_toArray, List.set_cons_zero, List.set_cons_succ])
  first | (refine wpAnyH_take (i := 12) (oi := ?oi138) (v := ?v138) ?hi138 (by kernel_rfl) (by kernel_rfl) (by kernel_rfl) ?hQ138 (Or.inl ⟨?hw138, ?hy138⟩) (by assumption) ?rest138; (case hi138 => (simp only [List.getElem?_toArray, List.getElem?_cons_succ, List.getElem?_cons_zero]; rfl)); (case hQ138 => exact fun _ _ _ h => h); (case hw138 => rfl); (case hy138 => ((intro w hSw); (try dsimp only at hSw); go_simp; (try with_reducible rfl)))) | (refine wpAnyH_take (i := 12) (oi := ?oi139) (v := undef) ?hi139 (by kernel_rfl) (by kernel_rfl) (by kernel_rfl) ?hQ139 (Or.inr ⟨?hw139, rfl⟩) (by assumption) ?rest139; (case hi139 => (simp only [List.getElem?_toArray, List.getElem?_cons_succ, List.getElem?_cons_zero]; rfl)); (case hQ139 => exact fun _ _ _ h => h); (case hw139 => rfl))
  (try simp only [Act.put, List.setIfInBounds_toArray, List.set_cons_zero, List.set_cons_succ])
  first | (refine wpAnyH_take (i := 13) (oi := ?oi140) (v := ?v140) ?hi140 (by kernel_rfl) (by kernel_rfl) (by kernel_rfl) ?hQ140 (Or.inl ⟨?hw140, ?hy140⟩) (by assumption) ?rest140; (case hi140 => (simp only [List.getElem?_toArray, List.getElem?_cons_succ, List.getElem?_cons_zero]; rfl)); (case hQ140 => exact fun _ _ _ h => h); (case hw140 => rfl); (case hy140 => ((intro w hSw); (try dsimp only at hSw); go_simp; (try with_reducible rfl)))) | (refine wpAnyH_take (i := 13) (oi := ?oi141) (v := undef) ?hi141 (by kernel_rfl) (by kernel_rfl) (by kernel_rfl) ?hQ141 (Or.inr ⟨?hw141, rfl⟩) (by assumption) ?rest141; (case hi141 => (simp only [List.getElem?_toArray, List.getElem?_cons_succ, List.getElem?_cons_zero]; rfl)); (case hQ141 => exact fun _ _ _ h => h); (case hw141 => rfl))
  (try simp only [Act.put, List.setIfInBounds_toArray, List.set_cons_zero, List.set_cons_succ])
  first | (refine wpAnyH_take (i := 14) (oi := ?oi142) (v := ?v142) ?hi142 (by kernel_rfl) (by kernel_rfl) (by kernel_rfl) ?hQ142 (Or.inl ⟨?hw142, ?hy142⟩) (by assumption) ?rest142; (case hi142 => (simp only [List.getElem?_toArray, List.getElem?_cons_succ, List.getElem?_cons_zero]; rfl)); (case hQ142 => exact fun _ _ _ h => h); (case hw142 => rfl); (case hy142 => ((intro w hSw); (try dsimp only at hSw); go_simp; (try with_reducible rfl)))) | (refine wpAnyH_take (i := 14) (oi := ?oi143) (v := undef) ?hi143 (by kernel_rfl) (by kernel_rfl) (by kernel_rfl) ?hQ143 (Or.inr ⟨?hw143, rfl⟩) (by assumption) ?rest143; (case hi143 => (simp only [List.getElem?_toArray, List.getElem?_cons_succ, List.getElem?_cons_zero]; rfl)); (case hQ143 => exact fun _ _ _ h => h); (case hw143 => rfl))
  (try simp only [Act.put, List.setIfInBounds_toArray, List.set_cons_zero, List.set_cons_succ])
  refine wpAnyH_ready (rs := [15]) (by kernel_rfl) (by simp) ?_
  refine AllReadyH.cons (o := ?oi144) ?hi144 (fun K hK => ?rest144) AllReadyH.nil
  (case hi144 => (simp only [List.getElem?_toArray, List.getElem?_cons_succ, List.getElem?_cons_zero]; rfl))
  obtain ⟨s0, s1, s2, s3, s4, s5, s6, s7, s8, s9, s10, s11, s12, s13⟩ := hHeld
  go_simp
  ((with_reducible refine (H2.out _).mono ?_); rintro e wx2 ⟨rfl, hb⟩)
  replace HW := Lib.hid (below_step HW.out hb)
  refine hK.out _ _ ?_ (fun hHeld => ?_)
  · (try dsimp only); exact ⟨cel_below hb s0, cel_below hb s1, cel_below hb s2, cel_below hb s3, cel_below hb s4, cel_below hb s5, cel_below hb s6, cel_below hb s7, cel_below hb s8, cel_below hb s9, cel_below hb s10, cel_below hb s11, cel_below hb s12, cel_below hb s13⟩
  clear hK K hb s0 s1 s2 s3 s4 s5 s6 s7 s8 s9 s10 s11 s12 s13
  (try simp only [Act.put, List.setIfInBounds_toArray, List.set_cons_zero, List.set_cons_succ])
  first | (refine wpAnyH_take (i := 16) (oi := ?oi145) (v := ?v145) ?hi145 (by kernel_rfl) (by kernel_rfl) (by kernel_rfl) ?hQ145 (Or.inl ⟨?hw145, ?hy145⟩) (by assumption) ?rest145; (case hi145 => (simp only [List.getElem?_toArray, List.getElem?_cons_succ, List.getElem?_cons_zero]; rfl)); (case hQ145 => exact fun _ _ _ h => h); (case hw145 => rfl); (case hy145 => ((intro w hSw); (try dsimp only at hSw); go_simp; (try with_reducible rfl)))) | (refine wpAnyH_take (i := 16) (oi := ?oi146) (v := undef) ?hi146 (by kernel_rfl) (by kernel_rfl) (by kernel_rfl) ?hQ146 (Or.inr ⟨?hw146, rfl⟩) (by assumption) ?rest146; (case hi146 => (simp only [List.getElem?_toArray, List.getElem?_cons_succ, List.getElem?_cons_zero]; rfl)); (case hQ146 => exact fun _ _ _ h => h); (case hw146 => rfl))
  (try simp only [Act.put, List.setIfInBounds_toArray, List.set_cons_zero, List.set_cons_succ])
  first | (refine wpAnyH_take (i := 17) (oi := ?oi147) (v := ?v147) ?hi147 (by kernel_rfl) (by kernel_rfl) (by kernel_rfl) ?hQ147 (Or.inl ⟨?hw147, ?hy147⟩) (by assumption) ?rest147; (case hi147 => (simp only [List.getElem?_toArray, List.getElem?_cons_succ, List.getElem?_cons_zero]; rfl)); (case hQ147 => exact fun _ _ _ h => h); (case hw147 => rfl); (case hy147 => ((intro w hSw); (try dsimp only at hSw); go_simp; (try with_reducible rfl)))) | (refine wpAnyH_take (i := 17) (oi := ?oi148) (v := undef) ?hi148 (by kernel_rfl) (by kernel_rfl) (by kernel_rfl) ?hQ148 (Or.inr ⟨?hw148, rfl⟩) (by assumption) ?rest148; (case hi148 => (simp only [List.getElem?_toArray, List.getElem?_cons_succ, List.getElem?_cons_zero]; rfl)); (case hQ148 => exact fun _ _ _ h => h); (case hw148 => rfl))
  (try simp only [Act.put, List.setIfInBounds_toArray, List.set_cons_zero, List.set_cons_succ])
  first | (refine wpAnyH_take (i := 18) (oi := ?oi149) (v := ?v149) ?hi149 (by kernel_rfl) (by kernel_rfl) (by kernel_rfl) ?hQ149 (Or.inl ⟨?hw149, ?hy149⟩) (by assumption) ?rest149; (case hi149 => (simp only [List.getElem?_toArray, List.getElem?_cons_succ, List.getElem?_cons_zero]; rfl)); (case hQ149 => exact fun _ _ _ h => h); (case hw149 => rfl); (case hy149 => ((intro w hSw); (try dsimp only at hSw); go_simp; (try with_reducible rfl)))) | (refine wpAnyH_take (i := 18) (oi := ?oi150) (v := undef) ?hi150 (by kernel_rfl) (by kernel_rfl) (by kernel_rfl) ?hQ150 (Or.inr ⟨?hw150, rfl⟩) (by assumption) ?rest150; (case hi150 => (simp only [List.getElem?_toArray, List.getElem?_cons_succ, List.getElem?_cons_zero]; rfl)); (case hQ150 => exact fun _ _ _ h => h); (case hw150 => rfl))
  (try simp only [Act.put, List.setIfInBounds_toArray, List.set_cons_zero, List.set_cons_succ])
  first | (refine wpAnyH_take (i := 19) (oi := ?oi151) (v := ?v151) ?hi151 (by kernel_rfl) (by kernel_rfl) (by kernel_rfl) ?hQ151 (Or.inl ⟨?hw151, ?hy151⟩) (by assumption) ?rest151; (case hi151 => (simp only [List.getElem?_toArray, List.getElem?_cons_succ, List.getElem?_cons_zero]; rfl)); (case hQ151 => exact fun _ _ _ h => h); (case hw151 => rfl); (case hy151 => ((intro w hSw); (try dsimp only at hSw); go_simp; (try with_reducible rfl)))) | (refine wpAnyH_take (i := 19) (oi := ?oi152) (v := undef) ?hi152 (by kernel_rfl) (by kernel_rfl) (by kernel_rfl) ?hQ152 (Or.inr ⟨?hw152, rfl⟩) (by assumption) ?rest152; (case hi152 => (simp only [List.getElem?_toArray, List.getElem?_cons_succ, List.getElem?_cons_zero]; rfl)); (case hQ152 => exact fun _ _ _ h => h); (case hw152 => rfl))
  (try simp only [Act.put, List.setIfInBounds_toArray, List.set_cons_zero, List.set_cons_succ])
  first | (refine wpAnyH_take (i := 20) (oi := ?oi153) (v := ?v153) ?hi153 (by kernel_rfl) (by kernel_rfl) (by kernel_rfl) ?hQ153 (Or.inl ⟨?hw153, ?hy153⟩) (by assumption) ?rest153; (case hi153 => (simp only [List.getElem?_toArray, List.getElem?_cons_succ, List.getElem?_cons_zero]; rfl)); (case hQ153 => exact fun _ _ _ h => h); (case hw153 => rfl); (case hy153 => ((intro w hSw); (try dsimp only at hSw); go_simp; (try with_reducible rfl)))) | (refine wpAnyH_take (i := 20) (oi := ?oi154) (v := undef) ?hi154 (by kernel_rfl) (by kernel_rfl) (by kernel_rfl) ?hQ154 (Or.inr ⟨?hw154, rfl⟩) (by assumption) ?rest154; (case hi154 => (simp only [List.getElem?_toArray, List.getElem?_cons_succ, List.getElem?_cons_zero]; rfl)); (case hQ154 => exact fun _ _ _ h => h); (case hw154 => rfl))
  (try simp only [Act.put, List.setIfInBounds_toArray, List.set_cons_zero, List.set_cons_succ])
  refine wpAnyH_ready (rs := [21]) (by kernel_rfl) (by simp) ?_
  refine AllReadyH.cons (o := ?oi155) ?hi155 (fun K hK => ?rest155) AllReadyH.nil
  (case hi155 => (simp only [List.getElem?_toArray, List.getElem?_cons_succ, List.getElem?_cons_zero]; rfl))
  obtain ⟨s0, s1, s2, s3, s4, s5, s6, s7, s8, s9, s10, s11, s12, s13⟩ := hHeld
  go_simp
  ((with_reducible refine (H3.out _).mono ?_); rintro e wx3 ⟨rfl, hb⟩)
  replace HW := Lib.hid (below_step HW.out hb)
  refine hK.out _ _ ?_ (fun hHeld => ?_)
  · (try dsimp only); exact ⟨cel_below hb s0, cel_below hb s1, cel_below hb s2, cel_below hb s3, cel_below hb s4, cel_below hb s5, cel_below hb s6, cel_below hb s7, cel_below hb s8, cel_below hb s9, cel_below hb s10, cel_below hb s11, cel_below hb s12, cel_below hb s13⟩
  clear hK K hb s0 s1 s2 s3 s4 s5 s6 s7 s8 s9 s10 s11 s12 s13
  (try simp only [Act.put, List.setIfInBounds_toArray, List.set_cons_zero, List.set_cons_succ])
  first | (refine wpAnyH_take (i := 22) (oi := ?oi156) (v := ?v156) ?hi156 (by kernel_rfl) (by kernel_rfl) (by kernel_rfl) ?hQ156 (Or.inl ⟨?hw156, ?hy156⟩) (by assumption) ?rest156; (case hi156 => (simp only [List.getElem?_toArray, List.getElem?_cons_succ, List.getElem?_cons_zero]; rfl)); (case hQ156 => exact fun _ _ _ h => h); (case hw156 => rfl); (case hy156 => ((intro w hSw); (try dsimp only at hSw); go_simp; (try with_reducible rfl)))) | (refine wpAnyH_take (i := 22) (oi := ?oi157) (v := undef) ?hi157 (by kernel_rfl) (by kernel_rfl) (by kernel_rfl) ?hQ157 (Or.inr ⟨?hw157, rfl⟩) (by assumption) ?rest157; (case hi157 => (simp only [List.getElem?_toArray, List.getElem?_cons_succ, List.getElem?_cons_zero]; rfl)); (case hQ157 => exact fun _ _ _ h => h); (case hw157 => rfl))
  (try simp only [Act.put, List.setIfInBounds_toArray, List.set_cons_zero, List.set_cons_succ])
  first | (refine wpAnyH_take (i := 23) (oi := ?oi158) (v := ?v158) ?hi158 (by kernel_rfl) (by kernel_rfl) (by kernel_rfl) ?hQ158 (Or.inl ⟨?hw158, ?hy158⟩) (by assumption) ?rest158; (case hi158 => (simp only [List.getElem?_toArray, List.getElem?_cons_succ, List.getElem?_cons_zero]; rfl)); (case hQ158 => exact fun _ _ _ h => h); (case hw158 => rfl); (case hy158 => ((intro w hSw); (try dsimp only at hSw); go_simp; (try with_reducible rfl)))) | (refine wpAnyH_take (i := 23) (oi := ?oi159) (v := undef) ?hi159 (by kernel_rfl) (by kernel_rfl) (by kernel_rfl) ?hQ159 (Or.inr ⟨?hw159, rfl⟩) (by assumption) ?rest159; (case hi159 => (simp only [List.getElem?_toArray, List.getElem?_cons_succ, List.getElem?_cons_zero]; rfl)); (case hQ159 => exact fun _ _ _ h => h); (case hw159 => rfl))
  (try simp only [Act.put, List.setIfInBounds_toArray, List.set_cons_zero, List.set_cons_succ])
  first | (refine wpAnyH_take (i := 24) (oi := ?oi160) (v := ?v160) ?hi160 (by kernel_rfl) (by kernel_rfl) (by kernel_rfl) ?hQ160 (Or.inl ⟨?hw160, ?hy160⟩) (by assumption) ?rest160; (case hi160 => (simp only [List.getElem?_toArray, List.getElem?_cons_succ, List.getElem?_cons_zero]; rfl)); (case hQ160 => exact fun _ _ _ h => h); (case hw160 => rfl); (case hy160 => ((intro w hSw); (try dsimp only at hSw); go_simp; (try with_reducible rfl)))) | (refine wpAnyH_take (i := 24) (oi := ?oi161) (v := undef) ?hi161 (by kernel_rfl) (by kernel_rfl) (by kernel_rfl) ?hQ161 (Or.inr ⟨?hw161, rfl⟩) (by assumption) ?rest161; (case hi161 => (simp only [List.getElem?_toArray, List.getElem?_cons_succ, List.getElem?_cons_zero]; rfl)); (case hQ161 => exact fun _ _ _ h => h); (case hw161 => rfl))
  (try simp only [Act.put, List.setIfInBounds_toArray, List.set_cons_zero, List.set_cons_succ])
  first | (refine wpAnyH_take (i := 25) (oi := ?oi162) (v := ?v162) ?hi162 (by kernel_rfl) (by kernel_rfl) (by kernel_rfl) ?hQ162 (Or.inl ⟨?hw162, ?hy162⟩) (by assumption) ?rest162; (case hi162 => (simp only [List.getElem?_toArray, List.getElem?_cons_succ, List.getElem?_cons_zero]; rfl)); (case hQ162 => exact fun _ _ _ h => h); (case hw162 => rfl); (case hy162 => ((intro w hSw); (try dsimp only at hSw); go_simp; (try with_reducible rfl)))) | (refine wpAnyH_take (i := 25) (oi := ?oi163) (v := undef) ?hi163 (by kernel_rfl) (by kernel_rfl) (by kernel_rfl) ?hQ163 (Or.inr ⟨?hw163, rfl⟩) (by assumption) ?rest163; (case hi163 => (simp only [List.getElem?_toArray, List.getElem?_cons_succ, List.getElem?_cons_zero]; rfl)); (case hQ163 => exact fun _ _ _ h => h); (case hw163 => rfl))
  (try simp only [Act.put, List.setIfInBounds_toArray, List.set_cons_zero, List.set_cons_succ])
  first | (refine wpAnyH_take (i := 26) (oi := ?oi164) (v := ?v164) ?hi164 (by kernel_rfl) (by kernel_rfl) (by kernel_rfl) ?hQ164 (Or.inl ⟨?hw164, ?hy164⟩) (by assumption) ?rest164; (case hi164 => (simp only [List.getElem?_toArray, List.getElem?_cons_succ, List.getElem?_cons_zero]; rfl)); (case hQ164 => exact fun _ _ _ h => h); (case hw164 => rfl); (case hy164 => ((intro w hSw); (try dsimp only at hSw); go_simp; (try with_reducible rfl)))) | (refine wpAnyH_take (i := 26) (oi := ?oi165) (v := undef) ?hi165 (by kernel_rfl) (by kernel_rfl) (by kernel_rfl) ?hQ165 (Or.inr ⟨?hw165, rfl⟩) (by assumption) ?rest165; (case hi165 => (simp only [List.getElem?_toArray, List.getElem?_cons_succ, List.getElem?_cons_zero]; rfl)); (case hQ165 => exact fun _ _ _ h => h); (case hw165 => rfl))
  (try simp only [Act.put, List.setIfInBounds_toArray, List.set_cons_zero, List.set_cons_succ])
  first | (refine wpAnyH_take (i := 27) (oi := ?oi166) (v := ?v166) ?hi166 (by kernel_rfl) (by kernel_rfl) (by kernel_rfl) ?hQ166 (Or.inl ⟨?hw166, ?hy166⟩) (by assumption) ?rest166; (case hi166 => (simp only [List.getElem?_toArray, List.getElem?_cons_succ, List.getElem?_cons_zero]; rfl)); (case hQ166 => exact fun _ _ _ h => h); (case hw166 => rfl); (case hy166 => ((intro w hSw); (try dsimp only at hSw); go_simp; (try with_reducible rfl)))) | (refine wpAnyH_take (i := 27) (oi := ?oi167) (v := undef) ?hi167 (by kernel_rfl) (by kernel_rfl) (by kernel_rfl) ?hQ167 (Or.inr ⟨?hw167, rfl⟩) (by assumption) ?rest167; (case hi167 => (simp only [List.getElem?_toArray, List.getElem?_cons_succ, List.getElem?_cons_zero]; rfl)); (case hQ167 => exact fun _ _ _ h => h); (case hw167 => rfl))
  (try simp only [Act.put, List.setIfInBounds_toArray, List.set_cons_zero, List.set_cons_succ])
  first | (refine wpAnyH_take (i := 28) (oi := ?oi168) (v := ?v168) ?hi168 (by kernel_rfl) (by kernel_rfl) (by kernel_rfl) ?hQ168 (Or.inl ⟨?hw168, ?hy168⟩) (by assumption) ?rest168; (case hi168 => (simp only [List.getElem?_toArray, List.getElem?_cons_succ, List.getElem?_cons_zero]; rfl)); (case hQ168 => exact fun _ _ _ h => h); (case hw168 => rfl); (case hy168 => ((intro w hSw); (try dsimp only at hSw); go_simp; (try with_reducible rfl)))) | (refine wpAnyH_take (i := 28) (oi := ?oi169) (v := undef) ?hi169 (by kernel_rfl) (by kernel_rfl) (by kernel_rfl) ?hQ169 (Or.inr ⟨?hw169, rfl⟩) (by assumption) ?rest169; (case hi169 => (simp only [List.getElem?_toArray, List.getElem?_cons_succ, List.getElem?_cons_zero]; rfl)); (case hQ169 => exact fun _ _ _ h => h); (case hw169 => rfl))
  (try simp only [Act.put, List.setIfInBounds_toArray, List.set_cons_zero, List.set_cons_succ])
  first | (refine wpAnyH_take (i := 29) (oi := ?oi170) (v := ?v170) ?hi170 (by kernel_rfl) (by kernel_rfl) (by kernel_rfl) ?hQ170 (Or.inl ⟨?hw170, ?hy170⟩) (by assumption) ?rest170; (case hi170 => (simp only [List.getElem?_toArray, List.getElem?_cons_succ, List.getElem?_cons_zero]; rfl)); (case hQ170 => exact fun _ _ _ h => h); (case hw170 => rfl); (case hy170 => ((intro w hSw); (try dsimp only at hSw); go_simp; (try with_reducible rfl)))) | (refine wpAnyH_take (i := 29) (oi := ?oi171) (v := undef) ?hi171 (by kernel_rfl) (by kernel_rfl) (by kernel_rfl) ?hQ171 (Or.inr ⟨?hw171, rfl⟩) (by assumption) ?rest171; (case hi171 => (simp only [List.getElem?_toArray, List.getElem?_cons_succ, List.getElem?_cons_zero]; rfl)); (case hQ171 => exact fun _ _ _ h => h); (case hw171 => rfl))
  (try simp only [Act.put, List.setIfInBounds_toArray, List.set_cons_zero, List.set_cons_succ])
  first | (refine wpAnyH_take (i := 30) (oi := ?oi172) (v := ?v172) ?hi172 (by kernel_rfl) (by kernel_rfl) (by kernel_rfl) ?hQ172 (Or.inl ⟨?hw172, ?hy172⟩) (by assumption) ?rest172; (case hi172 => (simp only [List.getElem?_toArray, List.getElem?_cons_succ, List.getElem?_cons_zero]; rfl)); (case hQ172 => exact fun _ _ _ h => h); (case hw172 => rfl); (case hy172 => ((intro w hSw); (try dsimp only at hSw); go_simp; (try with_reducible rfl)))) | (refine wpAnyH_take (i := 30) (oi := ?oi173) (v := undef) ?hi173 (by kernel_rfl) (by kernel_rfl) (by kernel_rfl) ?hQ173 (Or.inr ⟨?hw173, rfl⟩) (by assumption) ?rest173; (case hi173 => (simp only [List.getElem?_toArray, List.getElem?_cons_succ, List.getElem?_cons_zero]; rfl)); (case hQ173 => exact fun _ _ _ h => h); (case hw173 => rfl))
  (try simp only [Act.put, List.setIfInBounds_toArray, List.set_cons_zero, List.set_cons_succ])
  first | (refine wpAnyH_take (i := 31) (oi := ?oi174) (v := ?v174) ?hi174 (by kernel_rfl) (by kernel_rfl) (by kernel_rfl) ?hQ174 (Or.inl ⟨?hw174, ?hy174⟩) (by assumption) ?rest174; (case hi174 => (simp only [List.getElem?_toArray, List.getElem?_cons_succ, List.getElem?_cons_zero]; rfl)); (case hQ174 => exact fun _ _ _ h => h); (case hw174 => rfl); (case hy174 => ((intro w hSw); (try dsimp only at hSw); go_simp; (try with_reducible rfl)))) | (refine wpAnyH_take (i := 31) (oi := ?oi175) (v := undef) ?hi175 (by kernel_rfl) (by kernel_rfl) (by kernel_rfl) ?hQ175 (Or.inr ⟨?hw175, rfl⟩) (by assumption) ?rest175; (case hi175 => (simp only [List.getElem?_toArray, List.getElem?_cons_succ, List.getElem?_cons_zero]; rfl)); (case hQ175 => exact fun _ _ _ h => h); (case hw175 => rfl))
  (try simp only [Act.put, List.setIfInBounds_toArray, List.set_cons_zero, List.set_cons_succ])
  first | (refine wpAnyH_take (i := 32) (oi := ?oi176) (v := ?v176) ?hi176 (by kernel_rfl) (by kernel_rfl) (by kernel_rfl) ?hQ176 (Or.inl ⟨?hw176, ?hy176⟩) (by assumption) ?rest176; (case hi176 => (simp only [List.getElem?_toArray, List.getElem?_cons_succ, List.getElem?_cons_zero]; rfl)); (case hQ176 => exact fun _ _ _ h => h); (case hw176 => rfl); (case hy176 => ((intro w hSw); (try dsimp only at hSw); go_simp; (try with_reducible rfl)))) | (refine wpAnyH_take (i := 32) (oi := ?oi177) (v := undef) ?hi177 (by kernel_rfl) (by kernel_rfl) (by kernel_rfl) ?hQ177 (Or.inr ⟨?hw177, rfl⟩) (by assumption) ?rest177; (case hi177 => (simp only [List.getElem?_toArray, List.getElem?_cons_succ, List.getElem?_cons_zero]; rfl)); (case hQ177 => exact fun _ _ _ h => h); (case hw177 => rfl))
  (try simp only [Act.put, List.setIfInBounds_toArray, List.set_cons_zero, List.set_cons_succ])
  first | (refine wpAnyH_take (i := 33) (oi := ?oi178) (v := ?v178) ?hi178 (by kernel_rfl) (by kernel_rfl) (by kernel_rfl) ?hQ178 (Or.inl ⟨?hw178, ?hy178⟩) (by assumption) ?rest178; (case hi178 => (simp only [List.getElem?_toArray, List.getElem?_cons_succ, List.getElem?_cons_zero]; rfl)); (case hQ178 => exact fun _ _ _ h => h); (case hw178 => rfl); (case hy178 => ((intro w hSw); (try dsimp only at hSw); go_simp; (try with_reducible rfl)))) | (refine wpAnyH_take (i := 33) (oi := ?oi179) (v := undef) ?hi179 (by kernel_rfl) (by kernel_rfl) (by kernel_rfl) ?hQ179 (Or.inr ⟨?hw179, rfl⟩) (by assumption) ?rest179; (case hi179 => (simp only [List.getElem?_toArray, List.getElem?_cons_succ, List.getElem?_cons_zero]; rfl)); (case hQ179 => exact fun _ _ _ h => h); (case hw179 => rfl))
  (try simp only [Act.put, List.setIfInBounds_toArray, List.set_cons_zero, List.set_cons_succ])
  first | (refine wpAnyH_take (i := 34) (oi := ?oi180) (v := ?v180) ?hi180 (by kernel_rfl) (by kernel_rfl) (by kernel_rfl) ?hQ180 (Or.inl ⟨?hw180, ?hy180⟩) (by assumption) ?rest180; (case hi180 => (simp only [List.getElem?_toArray, List.getElem?_cons_succ, List.getElem?_cons_zero]; rfl)); (case hQ180 => exact fun _ _ _ h => h); (case hw180 => rfl); (case hy180 => ((intro w hSw); (try dsimp only at hSw); go_simp; (try with_reducible rfl)))) | (refine wpAnyH_take (i := 34) (oi := ?oi181) (v := undef) ?hi181 (by kernel_rfl) (by kernel_rfl) (by kernel_rfl) ?hQ181 (Or.inr ⟨?hw181, rfl⟩) (by assumption) ?rest181; (case hi181 => (simp only [List.getElem?_toArray, List.getElem?_cons_succ, List.getElem?_cons_zero]; rfl)); (case hQ181 => exact fun _ _ _ h => h); (case hw181 => rfl))
  (try simp only [Act.put, List.setIfInBounds_toArray, List.set_cons_zero, List.set_cons_succ])
  first | (refine wpAnyH_take (i := 35) (oi := ?oi182) (v := ?v182) ?hi182 (by kernel_rfl) (by kernel_rfl) (by kernel_rfl) ?hQ182 (Or.inl ⟨?hw182, ?hy182⟩) (by assumption) ?rest182; (case hi182 => (simp only [List.getElem?_toArray, List.getElem?_cons_succ, List.getElem?_cons_zero]; rfl)); (case hQ182 => exact fun _ _ _ h => h); (case hw182 => rfl); (case hy182 => ((intro w hSw); (try dsimp only at hSw); go_simp; (try with_reducible rfl)))) | (refine wpAnyH_take (i := 35) (oi := ?oi183) (v := undef) ?hi183 (by kernel_rfl) (by kernel_rfl) (by kernel_rfl) ?hQ183 (Or.inr ⟨?hw183, rfl⟩) (by assumption) ?rest183; (case hi183 => (simp only [List.getElem?_toArray, List.getElem?_cons_succ, List.getElem?_cons_zero]; rfl)); (case hQ183 => exact fun _ _ _ h => h); (case hw183 => rfl))
  (try simp only [Act.put, List.setIfInBounds_toArray, List.set_cons_zero, List.set_cons_succ])
  first | (refine wpAnyH_take (i := 36) (oi := ?oi184) (v := ?v184) ?hi184 (by kernel_rfl) (by kernel_rfl) (by kernel_rfl) ?hQ184 (Or.inl ⟨?hw184, ?hy184⟩) (by assumption) ?rest184; (case hi184 => (simp only [List.getElem?_toArray, List.getElem?_cons_succ, List.getElem?_cons_zero]; rfl)); (case hQ184 => exact fun _ _ _ h => h); (case hw184 => rfl); (case hy184 => ((intro w hSw); (try dsimp only at hSw); go_simp; (try with_reducible rfl)))) | (refine wpAnyH_take (i := 36) (oi := ?oi185) (v := undef) ?hi185 (by kernel_rfl) (by kernel_rfl) (by kernel_rfl) ?hQ185 (Or.inr ⟨?hw185, rfl⟩) (by assumption) ?rest185; (case hi185 => (simp only [List.getElem?_toArray, List.getElem?_cons_succ, List.getElem?_cons_zero]; rfl)); (case hQ185 => exact fun _ _ _ h => h); (case hw185 => rfl))
  (try simp only [Act.put, List.setIfInBounds_toArray, List.set_cons_zero, List.set_cons_succ])
  first | (refine wpAnyH_take (i := 37) (oi := ?oi186) (v := ?v186) ?hi186 (by kernel_rfl) (by kernel_rfl) (by kernel_rfl) ?hQ186 (Or.inl ⟨?hw186, ?hy186⟩) (by assumption) ?rest186; (case hi186 => (simp only [List.getElem?_toArray, List.getElem?_cons_succ, List.getElem?_cons_zero]; rfl)); (case hQ186 => exact fun _ _ _ h => h); (case hw186 => rfl); (case hy186 => ((intro w hSw); (try dsimp only at hSw); go_simp; (try with_reducible rfl)))) | (refine wpAnyH_take (i := 37) (oi := ?oi187) (v := undef) ?hi187 (by kernel_rfl) (by kernel_rfl) (by kernel_rfl) ?hQ187 (Or.inr ⟨?hw187, rfl⟩) (by assumption) ?rest187; (case hi187 => (simp only [List.getElem?_toArray, List.getElem?_cons_succ, List.getElem?_cons_zero]; rfl)); (case hQ187 => exact fun _ _ _ h => h); (case hw187 => rfl))
  (try simp only [Act.put, List.setIfInBounds_toArray, List.set_cons_zero, List.set_cons_succ])
  first | (refine wpAnyH_take (i := 38) (oi := ?oi188) (v := ?v188) ?hi188 (by kernel_rfl) (by kernel_rfl) (by kernel_rfl) ?hQ188 (Or.inl ⟨?hw188, ?hy188⟩) (by assumption) ?rest188; (case hi188 => (simp only [List.getElem?_toArray, List.getElem?_cons_succ, List.getElem?_cons_zero]; rfl)); (case hQ188 => exact fun _ _ _ h => h); (case hw188 => rfl); (case hy188 => ((intro w hSw); (try dsimp only at hSw); go_simp; (try with_reducible rfl)))) | (refine wpAnyH_take (i := 38) (oi := ?oi189) (v := undef) ?hi189 (by kernel_rfl) (by kernel_rfl) (by kernel_rfl) ?hQ189 (Or.inr ⟨?hw189, rfl⟩) (by assumption) ?rest189; (case hi189 => (simp only [List.getElem?_toArray, List.getElem?_cons_succ, List.getElem?_cons_zero]; rfl)); (case hQ189 => exact fun _ _ _ h => h); (case hw189 => rfl))
  (try simp only [Act.put, List.setIfInBounds_toArray, List.set_cons_zero, List.set_cons_succ])
  first | (refine wpAnyH_take (i := 39) (oi := ?oi190) (v := ?v190) ?hi190 (by kernel_rfl) (by kernel_rfl) (by kernel_rfl) ?hQ190 (Or.inl ⟨?hw190, ?hy190⟩) (by assumption) ?rest190; (case hi190 => (simp only [List.getElem?_toArray, List.getElem?_cons_succ, List.getElem?_cons_zero]; rfl)); (case hQ190 => exact fun _ _ _ h => h); (case hw190 => rfl); (case hy190 => ((intro w hSw); (try dsimp only at hSw); go_simp; (try with_reducible rfl)))) | (refine wpAnyH_take (i := 39) (oi := ?oi191) (v := undef) ?hi191 (by kernel_rfl) (by kernel_rfl) (by kernel_rfl) ?hQ191 (Or.inr ⟨?hw191, rfl⟩) (by assumption) ?rest191; (case hi191 => (simp only [List.getElem?_toArray, List.getElem?_cons_succ, List.getElem?_cons_zero]; rfl)); (case hQ191 => exact fun _ _ _ h => h); (case hw191 => rfl))
  (try simp only [Act.put, List.setIfInBounds_toArray, List.set_cons_zero, List.set_cons_succ])
  first | (refine wpAnyH_take (i := 40) (oi := ?oi192) (v := ?v192) ?hi192 (by kernel_rfl) (by kernel_rfl) (by kernel_rfl) ?hQ192 (Or.inl ⟨?hw192, ?hy192⟩) (by assumption) ?rest192; (case hi192 => (simp only [List.getElem?_toArray, List.getElem?_cons_succ, List.getElem?_cons_zero]; rfl)); (case hQ192 => exact fun _ _ _ h => h); (case hw192 => rfl); (case hy192 => ((intro w hSw); (try dsimp only at hSw); go_simp; (try with_reducible rfl)))) | (refine wpAnyH_take (i := 40) (oi := ?oi193) (v := undef) ?hi193 (by kernel_rfl) (by kernel_rfl) (by kernel_rfl) ?hQ193 (Or.inr ⟨?hw193, rfl⟩) (by assumption) ?rest193; (case hi193 => (simp only [List.getElem?_toArray, List.getElem?_cons_succ, List.getElem?_cons_zero]; rfl)); (case hQ193 => exact fun _ _ _ h => h); (case hw193 => rfl))
  (try simp only [Act.put, List.setIfInBounds_toArray, List.set_cons_zero, List.set_cons_succ])
  first | (refine wpAnyH_take (i := 41) (oi := ?oi194) (v := ?v194) ?hi194 (by kernel_rfl) (by kernel_rfl) (by kernel_rfl) ?hQ194 (Or.inl ⟨?hw194, ?hy194⟩) (by assumption) ?rest194; (case hi194 => (simp only [List.getElem?_toArray, List.getElem?_cons_succ, List.getElem?_cons_zero]; rfl)); (case hQ194 => exact fun _ _ _ h => h); (case hw194 => rfl); (case hy194 => ((intro w hSw); (try dsimp only at hSw); go_simp; (try with_reducible rfl)))) | (refine wpAnyH_take (i := 41) (oi := ?oi195) (v := undef) ?hi195 (by kernel_rfl) (by kernel_rfl) (by kernel_rfl) ?hQ195 (Or.inr ⟨?hw195, rfl⟩) (by assumption) ?rest195; (case hi195 => (simp only [List.getElem?_toArray, List.getElem?_cons_succ, List.getElem?_cons_zero]; rfl)); (case hQ195 => exact fun _ _ _ h => h); (case hw195 => rfl))
  (try simp only [Act.put, List.setIfInBounds_toArray, List.set_cons_zero, List.set_cons_succ])
  refine wpAnyH_ready (rs := [42]) (by kernel_rfl) (by simp) ?_
  refine AllReadyH.cons (o := ?oi196) ?hi196 (fun K hK => ?rest196) AllReadyH.nil
  (case hi196 => (simp only [List.getElem?_toArray, List.getElem?_cons_succ, List.getElem?_cons_zero]; rfl))
  obtain ⟨s0, s1, s2, s3, s4, s5, s6, s7, s8, s9, s10, s11, s12, s13⟩ := hHeld
  go_simp
  ((with_reducible refine (H5.out _).mono ?_); rintro e wx5 ⟨rfl, hb⟩)
  replace HW := Lib.hid (below_step HW.out hb)
  refine hK.out _ _ ?_ (fun hHeld => ?_)
  · (try dsimp only); exact ⟨cel_below hb s0, cel_below hb s1, cel_below hb s2, cel_below hb s3, cel_below hb s4, cel_below hb s5, cel_below hb s6, cel_below hb s7, cel_below hb s8, cel_below hb s9, cel_below hb s10, cel_below hb s11, cel_below hb s12, cel_below hb s13⟩
  clear hK K hb s0 s1 s2 s3 s4 s5 s6 s7 s8 s9 s10 s11 s12 s13
  (try simp only [Act.put, List.setIfInBounds_toArray, List.set_cons_zero, List.set_cons_succ])
  first | (refine wpAnyH_take (i := 43) (oi := ?oi197) (v := ?v197) ?hi197 (by kernel_rfl) (by kernel_rfl) (by kernel_rfl) ?hQ197 (Or.inl ⟨?hw197, ?hy197⟩) (by assumption) ?rest197; (case hi197 => (simp only [List.getElem?_toArray, List.getElem?_cons_succ, List.getElem?_cons_zero]; rfl)); (case hQ197 => exact fun _ _ _ h => h); (case hw197 => rfl); (case hy197 => ((intro w hSw); (try dsimp only at hSw); go_simp; (try with_reducible rfl)))) | (refine wpAnyH_take (i := 43) (oi := ?oi198) (v := undef) ?hi198 (by kernel_rfl) (by kernel_rfl) (by kernel_rfl) ?hQ198 (Or.inr ⟨?hw198, rfl⟩) (by assumption) ?rest198; (case hi198 => (simp only [List.getElem?_toArray, List.getElem?_cons_succ, List.getElem?_cons_zero]; rfl)); (case hQ198 => exact fun _ _ _ h => h); (case hw198 => rfl))
  (try simp only [Act.put, List.setIfInBounds_toArray, List.set_cons_zero, List.set_cons_succ])
  first | (refine wpAnyH_take (i := 44) (oi := ?oi199) (v := ?v199) ?hi199 (by kernel_rfl) (by kernel_rfl) (by kernel_rfl) ?hQ199 (Or.inl ⟨?hw199, ?hy199⟩) (by assumption) ?rest199; (case hi199 => (simp only [List.getElem?_toArray, List.getElem?_cons_succ, List.getElem?_cons_zero]; rfl)); (case hQ199 => exact fun _ _ _ h => h); (case hw199 => rfl); (case hy199 => ((intro w hSw); (try dsimp only at hSw); go_simp; (try with_reducible rfl)))) | (refine wpAnyH_take (i := 44) (oi := ?oi200) (v := undef) ?hi200 (by kernel_rfl) (by kernel_rfl) (by kernel_rfl) ?hQ200 (Or.inr ⟨?hw200, rfl⟩) (by assumption) ?rest200; (case hi200 => (simp only [List.getElem?_toArray, List.getElem?_cons_succ, List.getElem?_cons_zero]; rfl)); (case hQ200 => exact fun _ _ _ h => h); (case hw200 => rfl))
  (try simp only [Act.put, List.setIfInBounds_toArray, List.set_cons_zero, List.set_cons_succ])
  first | (refine wpAnyH_take (i := 45) (oi := ?oi201) (v := ?v201) ?hi201 (by kernel_rfl) (by kernel_rfl) (by kernel_rfl) ?hQ201 (Or.inl ⟨?hw201, ?hy201⟩) (by assumption) ?rest201; (case hi201 => (simp only [List.getElem?_toArray, List.getElem?_cons_succ, List.getElem?_cons_zero]; rfl)); (case hQ201 => exact fun _ _ _ h => h); (case hw201 => rfl); (case hy201 => ((intro w hSw); (try dsimp only at hSw); go_simp; (try with_reducible rfl)))) | (refine wpAnyH_take (i := 45) (oi := ?oi202) (v := undef) ?hi202 (by kernel_rfl) (by kernel_rfl) (by kernel_rfl) ?hQ202 (Or.inr ⟨?hw202, rfl⟩) (by assumption) ?rest202; (case hi202 => (simp only [List.getElem?_toArray, List.getElem?_cons_succ, List.getElem?_cons_zero]; rfl)); (case hQ202 => exact fun _ _ _ h => h); (case hw202 => rfl))
  (try simp only [Act.put, List.setIfInBounds_toArray, List.set_cons_zero, List.set_cons_succ])
  first | (refine wpAnyH_take (i := 46) (oi := ?oi203) (v := ?v203) ?hi203 (by kernel_rfl) (by kernel_rfl) (by kernel_rfl) ?hQ203 (Or.inl ⟨?hw203, ?hy203⟩) (by assumption) ?rest203; (case hi203 => (simp only [List.getElem?_toArray, List.getElem?_cons_succ, List.getElem?_cons_zero]; rfl)); (case hQ203 => exact fun _ _ _ h => h); (case hw203 => rfl); (case hy203 => ((intro w hSw); (try dsimp only at hSw); go_simp; (try with_reducible rfl)))) | (refine wpAnyH_take (i := 46) (oi := ?oi204) (v := undef) ?hi204 (by kernel_rfl) (by kernel_rfl) (by kernel_rfl) ?hQ204 (Or.inr ⟨?hw204, rfl⟩) (by assumption) ?rest204; (case hi204 => (simp only [List.getElem?_toArray, List.getElem?_cons_succ, List.getElem?_cons_zero]; rfl)); (case hQ204 => exact fun _ _ _ h => h); (case hw204 => rfl))
  (try simp only [Act.put, List.setIfInBounds_toArray, List.set_cons_zero, List.set_cons_succ])
  first | (refine wpAnyH_take (i := 47) (oi := ?oi205) (v := ?v205) ?hi205 (by kernel_rfl) (by kernel_rfl) (by kernel_rfl) ?hQ205 (Or.inl ⟨?hw205, ?hy205⟩) (by assumption) ?rest205; (case hi205 => (simp only [List.getElem?_toArray, List.getElem?_cons_succ, List.getElem?_cons_zero]; rfl)); (case hQ205 => exact fun _ _ _ h => h); (case hw205 => rfl); (case hy205 => ((intro w hSw); (try dsimp only at hSw); go_simp; (try with_reducible rfl)))) | (refine wpAnyH_take (i := 47) (oi := ?oi206) (v := undef) ?hi206 (by kernel_rfl) (by kernel_rfl) (by kernel_rfl) ?hQ206 (Or.inr ⟨?hw206, rfl⟩) (by assumption) ?rest206; (case hi206 => (simp only [List.getElem?_toArray, List.getElem?_cons_succ, List.getElem?_cons_zero]; rfl)); (case hQ206 => exact fun _ _ _ h => h); (case hw206 => rfl))
  (try simp only [Act.put, List.setIfInBounds_toArray, List.set_cons_zero, List.set_cons_succ])
  first | (refine wpAnyH_take (i := 48) (oi := ?oi207) (v := ?v207) ?hi207 (by kernel_rfl) (by kernel_rfl) (by kernel_rfl) ?hQ207 (Or.inl ⟨?hw207, ?hy207⟩) (by assumption) ?rest207; (case hi207 => (simp only [List.getElem?_toArray, List.getElem?_cons_succ, List.getElem?_cons_zero]; rfl)); (case hQ207 => exact fun _ _ _ h => h); (case hw207 => rfl); (case hy207 => ((intro w hSw); (try dsimp only at hSw); go_simp; (try with_reducible rfl)))) | (refine wpAnyH_take (i := 48) (oi := ?oi208) (v := undef) ?hi208 (by kernel_rfl) (by kernel_rfl) (by kernel_rfl) ?hQ208 (Or.inr ⟨?hw208, rfl⟩) (by assumption) ?rest208; (case hi208 => (simp only [List.getElem?_toArray, List.getElem?_cons_succ, List.getElem?_cons_zero]; rfl)); (case hQ208 => exact fun _ _ _ h => h); (case hw208 => rfl))
  (try simp only [Act.put, List.setIfInBounds_toArray, List.set_cons_zero, List.set_cons_succ])
  first | (refine wpAnyH_take (i := 49) (oi := ?oi209) (v := ?v209) ?hi209 (by kernel_rfl) (by kernel_rfl) (by kernel_rfl) ?hQ209 (Or.inl ⟨?hw209, ?hy209⟩) (by assumption) ?rest209; (case hi209 => (simp only [List.getElem?_toArray, List.getElem?_cons_succ, List.getElem?_cons_zero]; rfl)); (case hQ209 => exact fun _ _ _ h => h); (case hw209 => rfl); (case hy209 => ((intro w hSw); (try dsimp only at hSw); go_simp; (try with_reducible rfl)))) | (refine wpAnyH_take (i := 49) (oi := ?oi210) (v := undef) ?hi210 (by kernel_rfl) (by kernel_rfl) (by kernel_rfl) ?hQ210 (Or.inr ⟨?hw210, rfl⟩) (by assumption) ?rest210; (case hi210 => (simp only [List.getElem?_toArray, List.getElem?_cons_succ, List.getElem?_cons_zero]; rfl)); (case hQ210 => exact fun _ _ _ h => h); (case hw210 => rfl))
  (try simp only [Act.put, List.setIfInBounds_toArray, List.set_cons_zero, List.set_cons_succ])
  first | (refine wpAnyH_take (i := 50) (oi := ?oi211) (v := ?v211) ?hi211 (by kernel_rfl) (by kernel_rfl) (by kernel_rfl) ?hQ211 (Or.inl ⟨?hw211, ?hy211⟩) (by assumption) ?rest211; (case hi211 => (simp only [List.getElem?_toArray, List.getElem?_cons_succ, List.getElem?_cons_zero]; rfl)); (case hQ211 => exact fun _ _ _ h => h); (case hw211 => rfl); (case hy211 => ((intro w hSw); (try dsimp only at hSw); go_simp; (try with_reducible rfl)))) | (refine wpAnyH_take (i := 50) (oi := ?oi212) (v := undef) ?hi212 (by kernel_rfl) (by kernel_rfl) (by kernel_rfl) ?hQ212 (Or.inr ⟨?hw212, rfl⟩) (by assumption) ?rest212; (case hi212 => (simp only [List.getElem?_toArray, List.getElem?_cons_succ, List.getElem?_cons_zero]; rfl)); (case hQ212 => exact fun _ _ _ h => h); (case hw212 => rfl))
  (try simp only [Act.put, List.setIfInBounds_toArray, List.set_cons_zero, List.set_cons_succ])
  first | (refine wpAnyH_take (i := 51) (oi := ?oi213) (v := ?v213) ?hi213 (by kernel_rfl) (by kernel_rfl) (by kernel_rfl) ?hQ213 (Or.inl ⟨?hw213, ?hy213⟩) (by assumption) ?rest213; (case hi213 => (simp only [List.getElem?_toArray, List.getElem?_cons_succ, List.getElem?_cons_zero]; rfl)); (case hQ213 => exact fun _ _ _ h => h); (case hw213 => rfl); (case hy213 => ((intro w hSw); (try dsimp only at hSw); go_simp; (try with_reducible rfl)))) | (refine wpAnyH_take (i := 51) (oi := ?oi214) (v := undef) ?hi214 (by kernel_rfl) (by kernel_rfl) (by kernel_rfl) ?hQ214 (Or.inr ⟨?hw214, rfl⟩) (by assumption) ?rest214; (case hi214 => (simp only [List.getElem?_toArray, List.getElem?_cons_succ, List.getElem?_cons_zero]; rfl)); (case hQ214 => exact fun _ _ _ h => h); (case hw214 => rfl))
  (try simp only [Act.put, List.setIfInBounds_toArray, List.set_cons_zero, List.set_cons_succ])
  first | (refine wpAnyH_take (i := 52) (oi := ?oi215) (v := ?v215) ?hi215 (by kernel_rfl) (by kernel_rfl) (by kernel_rfl) ?hQ215 (Or.inl ⟨?hw215, ?hy215⟩) (by assumption) ?rest215; (case hi215 => (simp only [List.getElem?_toArray, List.getElem?_cons_succ, List.getElem?_cons_zero]; rfl)); (case hQ215 => exact fun _ _ _ h => h); (case hw215 => rfl); (case hy215 => ((intro w hSw); (try dsimp only at hSw); go_simp; (try with_reducible rfl)))) | (refine wpAnyH_take (i := 52) (oi := ?oi216) (v := undef) ?hi216 (by kernel_rfl) (by kernel_rfl) (by kernel_rfl) ?hQ216 (Or.inr ⟨?hw216, rfl⟩) (by assumption) ?rest216; (case hi216 => (simp only [List.getElem?_toArray, List.getElem?_cons_succ, List.getElem?_cons_zero]; rfl)); (case hQ216 => exact fun _ _ _ h => h); (case hw216 => rfl))
  (try simp only [Act.put, List.setIfInBounds_toArray, List.set_cons_zero, List.set_cons_succ])
  first | (refine wpAnyH_take (i := 53) (oi := ?oi217) (v := ?v217) ?hi217 (by kernel_rfl) (by kernel_rfl) (by kernel_rfl) ?hQ217 (Or.inl ⟨?hw217, ?hy217⟩) (by assumption) ?rest217; (case hi217 => (simp only [List.getElem?_toArray, List.getElem?_cons_succ, List.getElem?_cons_zero]; rfl)); (case hQ217 => exact fun _ _ _ h => h); (case hw217 => rfl); (case hy217 => ((intro w hSw); (try dsimp only at hSw); go_simp; (try with_reducible rfl)))) | (refine wpAnyH_take (i := 53) (oi := ?oi218) (v := undef) ?hi218 (by kernel_rfl) (by kernel_rfl) (by kernel_rfl) ?hQ218 (Or.inr ⟨?hw218, rfl⟩) (by assumption) ?rest218; (case hi218 => (simp only [List.getElem?_toArray, List.getElem?_cons_succ, List.getElem?_cons_zero]; rfl)); (case hQ218 => exact fun _ _ _ h => h); (case hw218 => rfl))
  (try simp only [Act.put, List.setIfInBounds_toArray, List.set_cons_zero, List.set_cons_succ])
  refine wpAnyH_ready (rs := [54]) (by kernel_rfl) (by simp) ?_
  refine AllReadyH.cons (o := ?oi219) ?hi219 (fun K hK => ?rest219) AllReadyH.nil
  (case hi219 => (simp only [List.getElem?_toArray, List.getElem?_cons_succ, List.getElem?_cons_zero]; rfl))
  obtain ⟨s0, s1, s2, s3, s4, s5, s6, s7, s8, s9, s10, s11, s12, s13⟩ := hHeld
  go_simp
  ((with_reducible refine (H6.out _).mono ?_); rintro e wx6 ⟨rfl, hb⟩)
  replace HW := Lib.hid (below_step HW.out hb)
  refine hK.out _ _ ?_ (fun hHeld => ?_)
  · (try dsimp only); exact ⟨cel_below hb s0, cel_below hb s1, cel_below hb s2, cel_below hb s3, cel_below hb s4, cel_below hb s5, cel_below hb s6, cel_below hb s7, cel_below hb s8, cel_below hb s9, cel_below hb s10, cel_below hb s11, cel_below hb s12, cel_below hb s13⟩
  clear hK K hb s0 s1 s2 s3 s4 s5 s6 s7 s8 s9 s10 s11 s12 s13
  (try simp only [Act.put, List.setIfInBounds_toArray, List.set_cons_zero, List.set_cons_succ])
  first | (refine wpAnyH_take (i := 55) (oi := ?oi220) (v := ?v220) ?hi220 (by kernel_rfl) (by kernel_rfl) (by kernel_rfl) ?hQ220 (Or.inl ⟨?hw220, ?hy220⟩) (by assumption) ?rest220; (case hi220 => (simp only [List.getElem?_toArray, List.getElem?_cons_succ, List.getElem?_cons_zero]; rfl)); (case hQ220 => exact fun _ _ _ h => h); (case hw220 => rfl); (case hy220 => ((intro w hSw); (try dsimp only at hSw); go_simp; (try with_reducible rfl)))) | (refine wpAnyH_take (i := 55) (oi := ?oi221) (v := undef) ?hi221 (by kernel_rfl) (by kernel_rfl) (by kernel_rfl) ?hQ221 (Or.inr ⟨?hw221, rfl⟩) (by assumption) ?rest221; (case hi221 => (simp only [List.getElem?_toArray, List.getElem?_cons_succ, List.getElem?_cons_zero]; rfl)); (case hQ221 => exact fun _ _ _ h => h); (case hw221 => rfl))
  (try simp only [Act.put, List.setIfInBounds_toArray, List.set_cons_zero, List.set_cons_succ])
  first | (refine wpAnyH_take (i := 56) (oi := ?oi222) (v := ?v222) ?hi222 (by kernel_rfl) (by kernel_rfl) (by kernel_rfl) ?hQ222 (Or.inl ⟨?hw222, ?hy222⟩) (by assumption) ?rest222; (case hi222 => (simp only [List.getElem?_toArray, List.getElem?_cons_succ, List.getElem?_cons_zero]; rfl)); (case hQ222 => exact fun _ _ _ h => h); (case hw222 => rfl); (case hy222 => ((intro w hSw); (try dsimp only at hSw); go_simp; (try with_reducible rfl)))) | (refine wpAnyH_take (i := 56) (oi := ?oi223) (v := undef) ?hi223 (by kernel_rfl) (by kernel_rfl) (by kernel_rfl) ?hQ223 (Or.inr ⟨?hw223, rfl⟩) (by assumption) ?rest223; (case hi223 => (simp only [List.getElem?_toArray, List.getElem?_cons_succ, List.getElem?_cons_zero]; rfl)); (case hQ223 => exact fun _ _ _ h => h); (case hw223 => rfl))
  (try simp only [Act.put, List.setIfInBounds_toArray, List.set_cons_zero, List.set_cons_succ])
  first | (refine wpAnyH_take (i := 57) (oi := ?oi224) (v := ?v224) ?hi224 (by kernel_rfl) (by kernel_rfl) (by kernel_rfl) ?hQ224 (Or.inl ⟨?hw224, ?hy224⟩) (by assumption) ?rest224; (case hi224 => (simp only [List.getElem?_toArray, List.getElem?_cons_succ, List.getElem?_cons_zero]; rfl)); (case hQ224 => exact fun _ _ _ h => h); (case hw224 => rfl); (case hy224 => ((intro w hSw); (try dsimp only at hSw); go_simp; (try with_reducible rfl)))) | (refine wpAnyH_take (i := 57) (oi := ?oi225) (v := undef) ?hi225 (by kernel_rfl) (by kernel_rfl) (by kernel_rfl) ?hQ225 (Or.inr ⟨?hw225, rfl⟩) (by assumption) ?rest225; (case hi225 => (simp only [List.getElem?_toArray, List.getElem?_cons_succ, List.getElem?_cons_zero]; rfl)); (case hQ225 => exact fun _ _ _ h => h); (case hw225 => rfl))
  (try simp only [Act.put, List.setIfInBounds_toArray, List.set_cons_zero, List.set_cons_succ])
  first | (refine wpAnyH_take (i := 58) (oi := ?oi226) (v := ?v226) ?hi226 (by kernel_rfl) (by kernel_rfl) (by kernel_rfl) ?hQ226 (Or.inl ⟨?hw226, ?hy226⟩) (by assumption) ?rest226; (case hi226 => (simp only [List.getElem?_toArray, List.getElem?_cons_succ, List.getElem?_cons_zero]; rfl)); (case hQ226 => exact fun _ _ _ h => h); (case hw226 => rfl); (case hy226 => ((intro w hSw); (try dsimp only at hSw); go_simp; (try with_reducible rfl)))) | (refine wpAnyH_take (i := 58) (oi := ?oi227) (v := undef) ?hi227 (by kernel_rfl) (by kernel_rfl) (by kernel_rfl) ?hQ227 (Or.inr ⟨?hw227, rfl⟩) (by assumption) ?rest227; (case hi227 => (simp only [List.getElem?_toArray, List.getElem?_cons_succ, List.getElem?_cons_zero]; rfl)); (case hQ227 => exact fun _ _ _ h => h); (case hw227 => rfl))
  (try simp only [Act.put, List.setIfInBounds_toArray, List.set_cons_zero, List.set_cons_succ])
  refine wpAnyH_done (by kernel_rfl) ?_ _
  obtain ⟨s0, s1, s2, s3, s4, s5, s6, s7, s8, s9, s10, s11, s12, s13⟩ := hHeld
  go_wp2
  go_ret
  exact ⟨rfl, HW.out⟩
set_option maxHeartbeats 4000000 in
set_option maxRecDepth 100000 in
theorem walk_npkz (w : World) (f0 : Value) (a1 : Option Addr) (t c1 : Nat) (f2 : Value) (a3 : Option Addr) (n c3 : Nat) (f4 f5 : Value) (k s m : Int) (ht : t ≤ 40) (hc : (progCf t n k s m).ok) (gn : 0 < n) (gk : k = 0) : Calls Try.prog 10 #[.agg #[f0, .slice a1 t c1, f2, .slice a3 n c3, f4, f5, .int .i64 k], .int .i64 s, .int .i64 m] w fun e w' => e = .returned (.bool true) ∧ Below w.heap.size w w' := by
  obtain ⟨L, hL⟩ : ∃ L, L = layOf (progCf t n k s m) := ⟨_, rfl⟩
  have hlok : L.ok := by
    obtain ⟨⟨h1, h2⟩, ⟨h3, h4⟩, ⟨h5, h6⟩, ⟨h7, h8⟩, ⟨h9, h10⟩⟩ := hc
    rw [hL]; unfold Ly.ok layOf progCf at *; simp only at *; omega
  have hx := hc
  obtain ⟨⟨h1, h2⟩, ⟨h3, h4⟩, ⟨h5, h6⟩, ⟨h7, h8⟩, ⟨h9, h10⟩⟩ := hx
  simp only [progCf] at h1 h2 h3 h4 h5 h6 h7 h8 h9 h10
  obtain ⟨v1, hv1⟩ : ∃ v, v = atStatus L ((t : Int) - 1) := ⟨_, rfl⟩
  have g1 : 0 ≤ v1 := by rw [hv1, hL]; unfold atStatus cellN layOf progCf; simp only; rw [if_neg (by omega)]; omega
  have H1 : Hid (∀ w, Calls Try.prog 36 #[L.v, .int .i64 ((t : Int) - 1)] w fun e w' => e = .returned (.int .i64 v1) ∧ Below w.heap.size w w') := Lib.hid (fun w => by rw [hv1]; exact status_any L _ w hlok)
  have H2 : Hid (∀ w, Calls Try.prog 36 #[L.v, .int .i64 (t : Nat)] w fun e w' => e = .returned (.int .i64 (-1)) ∧ Below w.heap.size w w') := Lib.hid (fun w => by
    have := status_any L t w hlok
    rwa [show atStatus L t = -1 by rw [hL]; unfold atStatus cellN layOf progCf; simp only; rw [if_pos (by omega)]] at this)
  have H3 : Hid (∀ w, Calls Try.prog 37 #[L.v, .int .i64 (n : Nat)] w fun e w' => e = .returned (.int .i64 (-1)) ∧ Below w.heap.size w w') := Lib.hid (fun w => by
    have := word_any L n w hlok
    rwa [show atWord L n = -1 by rw [hL]; unfold atWord cellN layOf progCf; simp only; rw [if_pos (by omega)]] at this)
  have H5 : Hid (∀ w, Calls Try.prog 39 #[L.v, .int .i64 k] w fun e w' => e = .returned (.int .i64 (-1)) ∧ Below w.heap.size w w') := Lib.hid (fun w => by
    have := lock_any L k w hlok
    rwa [show atLock L k = -1 by rw [hL]; unfold atLock cellN layOf progCf; simp only; rw [if_pos (by omega)]] at this)
  have g4 : 0 ≤ L.size ∧ L.size ≤ 1000 := by rw [hL]; unfold layOf progCf; simp only; omega
  obtain ⟨g4, g4'⟩ := g4
  have H4 : Hid (∀ w, Calls Try.prog 38 #[L.v, .int .i64 ((n : Int) - 1)] w fun e w' => e = .returned (.int .i64 (L.size - 1)) ∧ Below w.heap.size w w') := Lib.hid (fun w => by
    have := waiters_any L ((n : Int) - 1) w hlok
    rwa [show atWaiters L ((n : Int) - 1) = L.size - 1 by rw [hL]; unfold atWaiters cellN layOf progCf; simp only; rw [if_neg (by omega)]; omega] at this)
  have gn' : ((n : Int) == 0) = false := by simp; omega
  have E4 := Lib.hid (show IntKind.i64.wrap (L.size - 1) = L.size - 1 from IntWalk.i64_in _ (by omega))
  have HO : Hid (∀ w, Calls Try.prog 25 #[(progCf t n k s m).v] w fun e w' => e = .returned (.tuple #[L.v, .int .i64 0]) ∧ Below w.heap.size w w') := Lib.hid (fun w => by rw [hL]; exact of_t _ w hc)
  have HF := Lib.hid (fun w => for_t f0 (.slice a1 t c1) f2 (.slice a3 n c3) f4 f5 t n k s m w ⟨_, _, rfl⟩ ⟨_, _, rfl⟩ hc)
  have HR := Lib.hid (fun w => rfor_t f0 (.slice a1 t c1) f2 (.slice a3 n c3) f4 f5 t n k s m w ⟨_, _, rfl⟩ ⟨_, _, rfl⟩ hc)
  have hne : ∀ w, (binOp .neq 51 (progCf t n k s m).v (progCf t n k s m).v).run Try.prog w = .ok (.bool false) w := fun w => by rw [conf_neq, (cfEq_iff _ _).2 rfl]; rfl
  unfold Ly.v at HO H1 H2 H3 H5 H4
  unfold progCf at HO HF HR hne
  unfold Cf.v at HO HF HR hne
  have ht' : decide ((40 : Int) < t) = false := by simp; omega
  have hn' : decide ((60 : Int) < n) = false := by simp; omega
  have ht2 : (t : Int) ≤ 4 := h2
  have E1 := Lib.hid (show IntKind.i64.wrap ((t : Int) - 1) = (t : Int) - 1 from IntWalk.i64_in _ (by omega))
  have E2 := Lib.hid (show IntKind.i64.wrap ((n : Int) - 1) = (n : Int) - 1 from IntWalk.i64_in _ (by omega))
  have E3 := Lib.hid (show IntKind.i64.wrap (k - 1) = k - 1 from IntWalk.i64_in _ (by omega))
  have hn2 : (n : Int) ≤ 32 := h4
  clear hv1  hL hlok hc h7 h8 h9 h10
  have gk' : (k == 0) = true := by simp [gk]
  clear gk
  go_enter Try.func10, Try.ntmps10
  go_wp2_with fail
  ((with_reducible refine (sane15_any _).mono ?_); rintro e w1 ⟨rfl, hb⟩)
  have HW := Lib.hid (below_alloc1 hb)
  have zz : w.heap.size + 1 ≤ w1.heap.size := by have := hb.size; (try simp at this); omega
  have ccq0 : w1.cell? ⟨w.heap.size, 0, none⟩ = some (f0) := cel_below hb (by rw [World.cell?_alloc_at _ _ _ _ (by simp)]; rfl)
  have ccq1 : w1.cell? ⟨w.heap.size, 1, none⟩ = some (.slice a1 t c1) := cel_below hb (by rw [World.cell?_alloc_at _ _ _ _ (by simp)]; rfl)
  have ccq2 : w1.cell? ⟨w.heap.size, 2, none⟩ = some (f2) := cel_below hb (by rw [World.cell?_alloc_at _ _ _ _ (by simp)]; rfl)
  have ccq3 : w1.cell? ⟨w.heap.size, 3, none⟩ = some (.slice a3 n c3) := cel_below hb (by rw [World.cell?_alloc_at _ _ _ _ (by simp)]; rfl)
  have ccq4 : w1.cell? ⟨w.heap.size, 4, none⟩ = some (f4) := cel_below hb (by rw [World.cell?_alloc_at _ _ _ _ (by simp)]; rfl)
  have ccq5 : w1.cell? ⟨w.heap.size, 5, none⟩ = some (f5) := cel_below hb (by rw [World.cell?_alloc_at _ _ _ _ (by simp)]; rfl)
  have ccq6 : w1.cell? ⟨w.heap.size, 6, none⟩ = some (.int .i64 k) := cel_below hb (by rw [World.cell?_alloc_at _ _ _ _ (by simp)]; rfl)
  have z0 : w.heap.size < w1.heap.size := by omega
  clear hb zz
  go_wp2_with fail
  ((with_reducible refine (HF.out _).mono ?_); rintro e w2 ⟨rfl, hb⟩)
  replace HW := Lib.hid (below_step HW.out (hb))
  have zz : w1.heap.size + 0 ≤ w2.heap.size := by have := hb.size; (try simp at this); omega
  replace ccq0 : w2.cell? ⟨w.heap.size, 0, none⟩ = some (f0) := cel_below hb (ccq0)
  replace ccq1 : w2.cell? ⟨w.heap.size, 1, none⟩ = some (.slice a1 t c1) := cel_below hb (ccq1)
  replace ccq2 : w2.cell? ⟨w.heap.size, 2, none⟩ = some (f2) := cel_below hb (ccq2)
  replace ccq3 : w2.cell? ⟨w.heap.size, 3, none⟩ = some (.slice a3 n c3) := cel_below hb (ccq3)
  replace ccq4 : w2.cell? ⟨w.heap.size, 4, none⟩ = some (f4) := cel_below hb (ccq4)
  replace ccq5 : w2.cell? ⟨w.heap.size, 5, none⟩ = some (f5) := cel_below hb (ccq5)
  replace ccq6 : w2.cell? ⟨w.heap.size, 6, none⟩ = some (.int .i64 k) := cel_below hb (ccq6)
  replace z0 : w.heap.size < w2.heap.size := by omega
  clear hb zz
  go_wp2_with fail
  ((with_reducible refine (HR.out _).mono ?_); rintro e w3 ⟨rfl, hb⟩)
  replace HW := Lib.hid (below_step HW.out (below_alloc1 hb))
  have zz : w2.heap.size + 1 ≤ w3.heap.size := by have := hb.size; (try simp at this); omega
  replace ccq0 : w3.cell? ⟨w.heap.size, 0, none⟩ = some (f0) := cel_below hb (cell_alloc _ (ccq0))
  replace ccq1 : w3.cell? ⟨w.heap.size, 1, none⟩ = some (.slice a1 t c1) := cel_below hb (cell_alloc _ (ccq1))
  replace ccq2 : w3.cell? ⟨w.heap.size, 2, none⟩ = some (f2) := cel_below hb (cell_alloc _ (ccq2))
  replace ccq3 : w3.cell? ⟨w.heap.size, 3, none⟩ = some (.slice a3 n c3) := cel_below hb (cell_alloc _ (ccq3))
  replace ccq4 : w3.cell? ⟨w.heap.size, 4, none⟩ = some (f4) := cel_below hb (cell_alloc _ (ccq4))
  replace ccq5 : w3.cell? ⟨w.heap.size, 5, none⟩ = some (f5) := cel_below hb (cell_alloc _ (ccq5))
  replace ccq6 : w3.cell? ⟨w.heap.size, 6, none⟩ = some (.int .i64 k) := cel_below hb (cell_alloc _ (ccq6))
  replace z0 : w.heap.size < w3.heap.size := by omega
  have aq0 : w3.cell? ⟨w2.heap.size, 0, none⟩ = some (.int .i64 ((t : Nat) : Int)) := cel_below hb (by rw [World.cell?_alloc_at _ _ _ _ (by simp)]; rfl)
  have aq1 : w3.cell? ⟨w2.heap.size, 1, none⟩ = some (.int .i64 ((n : Nat) : Int)) := cel_below hb (by rw [World.cell?_alloc_at _ _ _ _ (by simp)]; rfl)
  have aq2 : w3.cell? ⟨w2.heap.size, 2, none⟩ = some (.int .i64 k) := cel_below hb (by rw [World.cell?_alloc_at _ _ _ _ (by simp)]; rfl)
  have aq3 : w3.cell? ⟨w2.heap.size, 3, none⟩ = some (.int .i64 s) := cel_below hb (by rw [World.cell?_alloc_at _ _ _ _ (by simp)]; rfl)
  have aq4 : w3.cell? ⟨w2.heap.size, 4, none⟩ = some (.int .i64 m) := cel_below hb (by rw [World.cell?_alloc_at _ _ _ _ (by simp)]; rfl)
  have z1 : w2.heap.size < w3.heap.size := by omega
  clear hb zz
  go_wp2_with fail
  ((with_reducible refine (HO.out _).mono ?_); rintro e w4 ⟨rfl, hb⟩)
  replace HW := Lib.hid (below_step HW.out (below_alloc1 hb))
  have zz : w3.heap.size + 1 ≤ w4.heap.size := by have := hb.size; (try simp at this); omega
  replace ccq0 : w4.cell? ⟨w.heap.size, 0, none⟩ = some (f0) := cel_below hb (cell_alloc _ (ccq0))
  replace ccq1 : w4.cell? ⟨w.heap.size, 1, none⟩ = some (.slice a1 t c1) := cel_below hb (cell_alloc _ (ccq1))
  replace ccq2 : w4.cell? ⟨w.heap.size, 2, none⟩ = some (f2) := cel_below hb (cell_alloc _ (ccq2))
  replace ccq3 : w4.cell? ⟨w.heap.size, 3, none⟩ = some (.slice a3 n c3) := cel_below hb (cell_alloc _ (ccq3))
  replace ccq4 : w4.cell? ⟨w.heap.size, 4, none⟩ = some (f4) := cel_below hb (cell_alloc _ (ccq4))
  replace ccq5 : w4.cell? ⟨w.heap.size, 5, none⟩ = some (f5) := cel_below hb (cell_alloc _ (ccq5))
  replace ccq6 : w4.cell? ⟨w.heap.size, 6, none⟩ = some (.int .i64 k) := cel_below hb (cell_alloc _ (ccq6))
  replace aq0 : w4.cell? ⟨w2.heap.size, 0, none⟩ = some (.int .i64 ((t : Nat) : Int)) := cel_below hb (cell_alloc _ (aq0))
  replace aq1 : w4.cell? ⟨w2.heap.size, 1, none⟩ = some (.int .i64 ((n : Nat) : Int)) := cel_below hb (cell_alloc _ (aq1))
  replace aq2 : w4.cell? ⟨w2.heap.size, 2, none⟩ = some (.int .i64 k) := cel_below hb (cell_alloc _ (aq2))
  replace aq3 : w4.cell? ⟨w2.heap.size, 3, none⟩ = some (.int .i64 s) := cel_below hb (cell_alloc _ (aq3))
  replace aq4 : w4.cell? ⟨w2.heap.size, 4, none⟩ = some (.int .i64 m) := cel_below hb (cell_alloc _ (aq4))
  replace z0 : w.heap.size < w4.heap.size := by omega
  replace z1 : w2.heap.size < w4.heap.size := by omega
  clear hb zz
  go_wp2_with fail
  obtain ⟨wr5, hwr⟩ : ∃ W, W = w4.alloc (.cells #[.int .i64 L.c.t, .int .i64 L.c.l, .int .i64 L.c.k, .int .i64 L.c.s, .int .i64 L.c.m, .int .i64 L.clock, .int .i64 L.stamps, .int .i64 L.log, .int .i64 L.fin, .int .i64 L.thread, .int .i64 L.lock, .int .i64 L.loc, .int .i64 L.size] 53) := ⟨_, rfl⟩
  rw [← hwr]
  have hb : Below w4.heap.size w4 wr5 := by rw [hwr]; exact (Below.alloc (Below.refl _ w4) (by first | exact Nat.le_refl _ | (simp; omega) | simp) _)
  have zz : w4.heap.size + 1 ≤ wr5.heap.size := by rw [hwr]; simp
  replace HW := Lib.hid (below_step HW.out hb)
  replace ccq0 : wr5.cell? ⟨w.heap.size, 0, none⟩ = some (f0) := cel_below hb ccq0
  replace ccq1 : wr5.cell? ⟨w.heap.size, 1, none⟩ = some (.slice a1 t c1) := cel_below hb ccq1
  replace ccq2 : wr5.cell? ⟨w.heap.size, 2, none⟩ = some (f2) := cel_below hb ccq2
  replace ccq3 : wr5.cell? ⟨w.heap.size, 3, none⟩ = some (.slice a3 n c3) := cel_below hb ccq3
  replace ccq4 : wr5.cell? ⟨w.heap.size, 4, none⟩ = some (f4) := cel_below hb ccq4
  replace ccq5 : wr5.cell? ⟨w.heap.size, 5, none⟩ = some (f5) := cel_below hb ccq5
  replace ccq6 : wr5.cell? ⟨w.heap.size, 6, none⟩ = some (.int .i64 k) := cel_below hb ccq6
  replace z0 : w.heap.size < wr5.heap.size := by omega
  replace z1 : w2.heap.size < wr5.heap.size := by omega
  have lq0 : wr5.cell? ⟨w4.heap.size, 0, none⟩ = some (.int .i64 L.c.t) := by rw [hwr]; exact by rw [World.cell?_alloc_at _ _ _ _ (by simp)]; rfl
  have lq1 : wr5.cell? ⟨w4.heap.size, 1, none⟩ = some (.int .i64 L.c.l) := by rw [hwr]; exact by rw [World.cell?_alloc_at _ _ _ _ (by simp)]; rfl
  have lq2 : wr5.cell? ⟨w4.heap.size, 2, none⟩ = some (.int .i64 L.c.k) := by rw [hwr]; exact by rw [World.cell?_alloc_at _ _ _ _ (by simp)]; rfl
  have lq3 : wr5.cell? ⟨w4.heap.size, 3, none⟩ = some (.int .i64 L.c.s) := by rw [hwr]; exact by rw [World.cell?_alloc_at _ _ _ _ (by simp)]; rfl
  have lq4 : wr5.cell? ⟨w4.heap.size, 4, none⟩ = some (.int .i64 L.c.m) := by rw [hwr]; exact by rw [World.cell?_alloc_at _ _ _ _ (by simp)]; rfl
  have lq5 : wr5.cell? ⟨w4.heap.size, 5, none⟩ = some (.int .i64 L.clock) := by rw [hwr]; exact by rw [World.cell?_alloc_at _ _ _ _ (by simp)]; rfl
  have lq6 : wr5.cell? ⟨w4.heap.size, 6, none⟩ = some (.int .i64 L.stamps) := by rw [hwr]; exact by rw [World.cell?_alloc_at _ _ _ _ (by simp)]; rfl
  have lq7 : wr5.cell? ⟨w4.heap.size, 7, none⟩ = some (.int .i64 L.log) := by rw [hwr]; exact by rw [World.cell?_alloc_at _ _ _ _ (by simp)]; rfl
  have lq8 : wr5.cell? ⟨w4.heap.size, 8, none⟩ = some (.int .i64 L.fin) := by rw [hwr]; exact by rw [World.cell?_alloc_at _ _ _ _ (by simp)]; rfl
  have lq9 : wr5.cell? ⟨w4.heap.size, 9, none⟩ = some (.int .i64 L.thread) := by rw [hwr]; exact by rw [World.cell?_alloc_at _ _ _ _ (by simp)]; rfl
  have lq10 : wr5.cell? ⟨w4.heap.size, 10, none⟩ = some (.int .i64 L.lock) := by rw [hwr]; exact by rw [World.cell?_alloc_at _ _ _ _ (by simp)]; rfl
  have lq11 : wr5.cell? ⟨w4.heap.size, 11, none⟩ = some (.int .i64 L.loc) := by rw [hwr]; exact by rw [World.cell?_alloc_at _ _ _ _ (by simp)]; rfl
  have lq12 : wr5.cell? ⟨w4.heap.size, 12, none⟩ = some (.int .i64 L.size) := by rw [hwr]; exact by rw [World.cell?_alloc_at _ _ _ _ (by simp)]; rfl
  have z2 : w4.heap.size < wr5.heap.size := by omega
  clear hb zz hwr
  have e1 := E1.out
  have e2 := E2.out
  have e3 := E3.out
  have e4 := E4.out
  refine wp_region_held_drew (S := fun W => W.cell? ⟨w4.heap.size, 0, none⟩ = some (.int .i64 L.c.t) ∧ W.cell? ⟨w4.heap.size, 1, none⟩ = some (.int .i64 L.c.l) ∧ W.cell? ⟨w4.heap.size, 2, none⟩ = some (.int .i64 L.c.k) ∧ W.cell? ⟨w4.heap.size, 3, none⟩ = some (.int .i64 L.c.s) ∧ W.cell? ⟨w4.heap.size, 4, none⟩ = some (.int .i64 L.c.m) ∧ W.cell? ⟨w4.heap.size, 5, none⟩ = some (.int .i64 L.clock) ∧ W.cell? ⟨w4.heap.size, 6, none⟩ = some (.int .i64 L.stamps) ∧ W.cell? ⟨w4.heap.size, 7, none⟩ = some (.int .i64 L.log) ∧ W.cell? ⟨w4.heap.size, 8, none⟩ = some (.int .i64 L.fin) ∧ W.cell? ⟨w4.heap.size, 9, none⟩ = some (.int .i64 L.thread) ∧ W.cell? ⟨w4.heap.size, 10, none⟩ = some (.int .i64 L.lock) ∧ W.cell? ⟨w4.heap.size, 11, none⟩ = some (.int .i64 L.loc) ∧ W.cell? ⟨w4.heap.size, 12, none⟩ = some (.int .i64 L.size) ∧ W.cell? ⟨w.heap.size, 6, none⟩ = some (.int .i64 k)) (by kernel_rfl) ?_ (fun hHeld => ?_)
  · (try dsimp only); exact ⟨by first | assumption | go_simp, by first | assumption | go_simp, by first | assumption | go_simp, by first | assumption | go_simp, by first | assumption | go_simp, by first | assumption | go_simp, by first | assumption | go_simp, by first | assumption | go_simp, by first | assumption | go_simp, by first | assumption | go_simp, by first | assumption | go_simp, by first | assumption | go_simp, by first | assumption | go_simp, by first | assumption | go_simp⟩
  replace HW := Lib.hid (below_drews HW.out 1)
  first | (refine wpAnyH_take (i := 0) (oi := ?oi228) (v := ?v228) ?hi228 (by kernel_rfl) (by kernel_rfl) (by kernel_rfl) ?hQ228 (Or.inl ⟨?hw228, ?hy228⟩) (by assumption) ?rest228; (case hi228 => (simp only [List.getElem?_toArray, List.getElem?_cons_zero]; rfl)); (case hQ228 => exact fun _ _ _ h => h); (case hw228 => rfl); (case hy228 => ((intro w hSw); (try dsimp only at hSw); go_simp; (try with_reducible rfl)))) | (refine wpAnyH_take (i := 0) (oi := ?oi229) (v := undef) ?hi229 (by kernel_rfl) (by kernel_rfl) (by kernel_rfl) ?hQ229 (Or.inr ⟨?hw229, rfl⟩) (by assumption) ?rest229; (case hi229 => (simp only [List.getElem?_toArray, List.getElem?_cons_zero]; rfl)); (case hQ229 => exact fun _ _ _ h => h); (case hw229 => rfl))
  (try simp only [Act.put, List.setIfInBounds_toArray, List.set_cons_zero, List.set_cons_succ])
  first | (refine wpAnyH_take (i := 1) (oi := ?oi230) (v := ?v230) ?hi230 (by kernel_rfl) (by kernel_rfl) (by kernel_rfl) ?hQ230 (Or.inl ⟨?hw230, ?hy230⟩) (by assumption) ?rest230; (case hi230 => (simp only [List.getElem?_toArray, List.getElem?_cons_succ, List.getElem?_cons_zero]; rfl)); (case hQ230 => exact fun _ _ _ h => h); (case hw230 => rfl); (case hy230 => ((intro w hSw); (try dsimp only at hSw); go_simp; (try with_reducible rfl)))) | (refine wpAnyH_take (i := 1) (oi := ?oi231) (v := undef) ?hi231 (by kernel_rfl) (by kernel_rfl) (by kernel_rfl) ?hQ231 (Or.inr ⟨?hw231, rfl⟩) (by assumption) ?rest231; (case hi231 => (simp only [List.getElem?_toArray, List.getElem?_cons_succ, List.getElem?_cons_zero]; rfl)); (case hQ231 => exact fun _ _ _ h => h); (case hw231 => rfl))
  (try simp only [Act.put, List.setIfInBounds_toArray, List.set_cons_zero, List.set_cons_succ])
  first | (refine wpAnyH_take (i := 2) (oi := ?oi232) (v := ?v232) ?hi232 (by kernel_rfl) (by kernel_rfl) (by kernel_rfl) ?hQ232 (Or.inl ⟨?hw232, ?hy232⟩) (by assumption) ?rest232; (case hi232 => (simp only [List.getElem?_toArray, List.getElem?_cons_succ, List.getElem?_cons_zero]; rfl)); (case hQ232 => exact fun _ _ _ h => h); (case hw232 => rfl); (case hy232 => ((intro w hSw); (try dsimp only at hSw); go_simp; (try with_reducible rfl)))) | (refine wpAnyH_take (i := 2) (oi := ?oi233) (v := undef) ?hi233 (by kernel_rfl) (by kernel_rfl) (by kernel_rfl) ?hQ233 (Or.inr ⟨?hw233, rfl⟩) (by assumption) ?rest233; (case hi233 => (simp only [List.getElem?_toArray, List.getElem?_cons_succ, List.getElem?_cons_zero]; rfl)); (case hQ233 => exact fun _ _ _ h => h); (case hw233 => rfl))
  (try simp only [Act.put, List.setIfInBounds_toArray, List.set_cons_zero, List.set_cons_succ])
  first | (refine wpAnyH_take (i := 3) (oi := ?oi234) (v := ?v234) ?hi234 (by kernel_rfl) (by kernel_rfl) (by kernel_rfl) ?hQ234 (Or.inl ⟨?hw234, ?hy234⟩) (by assumption) ?rest234; (case hi234 => (simp only [List.getElem?_toArray, List.getElem?_cons_succ, List.getElem?_cons_zero]; rfl)); (case hQ234 => exact fun _ _ _ h => h); (case hw234 => rfl); (case hy234 => ((intro w hSw); (try dsimp only at hSw); go_simp; (try with_reducible rfl)))) | (refine wpAnyH_take (i := 3) (oi := ?oi235) (v := undef) ?hi235 (by kernel_rfl) (by kernel_rfl) (by kernel_rfl) ?hQ235 (Or.inr ⟨?hw235, rfl⟩) (by assumption) ?rest235; (case hi235 => (simp only [List.getElem?_toArray, List.getElem?_cons_succ, List.getElem?_cons_zero]; rfl)); (case hQ235 => exact fun _ _ _ h => h); (case hw235 => rfl))
  (try simp only [Act.put, List.setIfInBounds_toArray, List.set_cons_zero, List.set_cons_succ])
  first | (refine wpAnyH_take (i := 4) (oi := ?oi236) (v := ?v236) ?hi236 (by kernel_rfl) (by kernel_rfl) (by kernel_rfl) ?hQ236 (Or.inl ⟨?hw236, ?hy236⟩) (by assumption) ?rest236; (case hi236 => (simp only [List.getElem?_toArray, List.getElem?_cons_succ, List.getElem?_cons_zero]; rfl)); (case hQ236 => exact fun _ _ _ h => h); (case hw236 => rfl); (case hy236 => ((intro w hSw); (try dsimp only at hSw); go_simp; (try with_reducible rfl)))) | (refine wpAnyH_take (i := 4) (oi := ?oi237) (v := undef) ?hi237 (by kernel_rfl) (by kernel_rfl) (by kernel_rfl) ?hQ237 (Or.inr ⟨?hw237, rfl⟩) (by assumption) ?rest237; (case hi237 => (simp only [List.getElem?_toArray, List.getElem?_cons_succ, List.getElem?_cons_zero]; rfl)); (case hQ237 => exact fun _ _ _ h => h); (case hw237 => rfl))
  (try simp only [Act.put, List.setIfInBounds_toArray, List.set_cons_zero, List.set_cons_succ])
  first | (refine wpAnyH_take (i := 5) (oi := ?oi238) (v := ?v238) ?hi238 (by kernel_rfl) (by kernel_rfl) (by kernel_rfl) ?hQ238 (Or.inl ⟨?hw238, ?hy238⟩) (by assumption) ?rest238; (case hi238 => (simp only [List.getElem?_toArray, List.getElem?_cons_succ, List.getElem?_cons_zero]; rfl)); (case hQ238 => exact fun _ _ _ h => h); (case hw238 => rfl); (case hy238 => ((intro w hSw); (try dsimp only at hSw); go_simp; (try with_reducible rfl)))) | (refine wpAnyH_take (i := 5) (oi := ?oi239) (v := undef) ?hi239 (by kernel_rfl) (by kernel_rfl) (by kernel_rfl) ?hQ239 (Or.inr ⟨?hw239, rfl⟩) (by assumption) ?rest239; (case hi239 => (simp only [List.getElem?_toArray, List.getElem?_cons_succ, List.getElem?_cons_zero]; rfl)); (case hQ239 => exact fun _ _ _ h => h); (case hw239 => rfl))
  (try simp only [Act.put, List.setIfInBounds_toArray, List.set_cons_zero, List.set_cons_succ])
  first | (refine wpAnyH_take (i := 6) (oi := ?oi240) (v := ?v240) ?hi240 (by kernel_rfl) (by kernel_rfl) (by kernel_rfl) ?hQ240 (Or.inl ⟨?hw240, ?hy240⟩) (by assumption) ?rest240; (case hi240 => (simp only [List.getElem?_toArray, List.getElem?_cons_succ, List.getElem?_cons_zero]; rfl)); (case hQ240 => exact fun _ _ _ h => h); (case hw240 => rfl); (case hy240 => ((intro w hSw); (try dsimp only at hSw); go_simp; (try with_reducible rfl)))) | (refine wpAnyH_take (i := 6) (oi := ?oi241) (v := undef) ?hi241 (by kernel_rfl) (by kernel_rfl) (by kernel_rfl) ?hQ241 (Or.inr ⟨?hw241, rfl⟩) (by assumption) ?rest241; (case hi241 => (simp only [List.getElem?_toArray, List.getElem?_cons_succ, List.getElem?_cons_zero]; rfl)); (case hQ241 => exact fun _ _ _ h => h); (case hw241 => rfl))
  (try simp only [Act.put, List.setIfInBounds_toArray, List.set_cons_zero, List.set_cons_succ])
  first | (refine wpAnyH_take (i := 7) (oi := ?oi242) (v := ?v242) ?hi242 (by kernel_rfl) (by kernel_rfl) (by kernel_rfl) ?hQ242 (Or.inl ⟨?hw242, ?hy242⟩) (by assumption) ?rest242; (case hi242 => (simp only [List.getElem?_toArray, List.getElem?_cons_succ, List.getElem?_cons_zero]; rfl)); (case hQ242 => exact fun _ _ _ h => h); (case hw242 => rfl); (case hy242 => ((intro w hSw); (try dsimp only at hSw); go_simp; (try with_reducible rfl)))) | (refine wpAnyH_take (i := 7) (oi := ?oi243) (v := undef) ?hi243 (by kernel_rfl) (by kernel_rfl) (by kernel_rfl) ?hQ243 (Or.inr ⟨?hw243, rfl⟩) (by assumption) ?rest243; (case hi243 => (simp only [List.getElem?_toArray, List.getElem?_cons_succ, List.getElem?_cons_zero]; rfl)); (case hQ243 => exact fun _ _ _ h => h); (case hw243 => rfl))
  (try simp only [Act.put, List.setIfInBounds_toArray, List.set_cons_zero, List.set_cons_succ])
  first | (refine wpAnyH_take (i := 8) (oi := ?oi244) (v := ?v244) ?hi244 (by kernel_rfl) (by kernel_rfl) (by kernel_rfl) ?hQ244 (Or.inl ⟨?hw244, ?hy244⟩) (by assumption) ?rest244; (case hi244 => (simp only [List.getElem?_toArray, List.getElem?_cons_succ, List.getElem?_cons_zero]; rfl)); (case hQ244 => exact fun _ _ _ h => h); (case hw244 => rfl); (case hy244 => ((intro w hSw); (try dsimp only at hSw); go_simp; (try with_reducible rfl)))) | (refine wpAnyH_take (i := 8) (oi := ?oi245) (v := undef) ?hi245 (by kernel_rfl) (by kernel_rfl) (by kernel_rfl) ?hQ245 (Or.inr ⟨?hw245, rfl⟩) (by assumption) ?rest245; (case hi245 => (simp only [List.getElem?_toArray, List.getElem?_cons_succ, List.getElem?_cons_zero]; rfl)); (case hQ245 => exact fun _ _ _ h => h); (case hw245 => rfl))
  (try simp only [Act.put, List.setIfInBounds_toArray, List.set_cons_zero, List.set_cons_succ])
  refine wpAnyH_ready (rs := [9]) (by kernel_rfl) (by simp) ?_
  refine AllReadyH.cons (o := ?oi246) ?hi246 (fun K hK => ?rest246) AllReadyH.nil
  (case hi246 => (simp only [List.getElem?_toArray, List.getElem?_cons_succ, List.getElem?_cons_zero]; rfl))
  obtain ⟨s0, s1, s2, s3, s4, s5, s6, s7, s8, s9, s10, s11, s12, s13⟩ := hHeld
  go_simp
  ((with_reducible refine (H1.out _).mono ?_); rintro e wx1 ⟨rfl, hb⟩)
  replace HW := Lib.hid (below_step HW.out hb)
  refine hK.out _ _ ?_ (fun hHeld => ?_)
  · (try dsimp only); exact ⟨cel_below hb s0, cel_below hb s1, cel_below hb s2, cel_below hb s3, cel_below hb s4, cel_below hb s5, cel_below hb s6, cel_below hb s7, cel_below hb s8, cel_below hb s9, cel_below hb s10, cel_below hb s11, cel_below hb s12, cel_below hb s13⟩
  clear hK K hb s0 s1 s2 s3 s4 s5 s6 s7 s8 s9 s10 s11 s12 s13
  (try simp only [Act.put, List.setIfInBounds_toArray, List.set_cons_zero, List.set_cons_succ])
  first | (refine wpAnyH_take (i := 10) (oi := ?oi247) (v := ?v247) ?hi247 (by kernel_rfl) (by kernel_rfl) (by kernel_rfl) ?hQ247 (Or.inl ⟨?hw247, ?hy247⟩) (by assumption) ?rest247; (case hi247 => (simp only [List.getElem?_toArray, List.getElem?_cons_succ, List.getElem?_cons_zero]; rfl)); (case hQ247 => exact fun _ _ _ h => h); (case hw247 => rfl); (case hy247 => ((intro w hSw); (try dsimp only at hSw); go_simp; (try with_reducible rfl)))) | (refine wpAnyH_take (i := 10) (oi := ?oi248) (v := undef) ?hi248 (by kernel_rfl) (by kernel_rfl) (by kernel_rfl) ?hQ248 (Or.inr ⟨?hw248, rfl⟩) (by assumption) ?rest248; (case hi248 => (simp only [List.getElem?_toArray, List.getElem?_cons_succ, List.getElem?_cons_zero]; rfl)); (case hQ248 => exact fun _ _ _ h => h); (case hw248 => rfl))
  (try simp only [Act.put, List.setIfInBounds_toArray, List.set_cons_zero, List.set_cons_succ])
  first | (refine wpAnyH_take (i := 11) (oi := ?oi249) (v := ?v249) ?hi249 (by kernel_rfl) (by kernel_rfl) (by kernel_rfl) ?hQ249 (Or.inl ⟨?hw249, ?hy249⟩) (by assumption) ?rest249; (case hi249 => (simp only [List.getElem?_toArray, List.getElem?_cons_succ, List.getElem?_cons_zero]; rfl)); (case hQ249 => exact fun _ _ _ h => h); (case hw249 => rfl); (case hy249 => ((intro w hSw); (try dsimp only at hSw); go_simp; (try with_reducible rfl)))) | (refine wpAnyH_take (i := 11) (oi := ?oi250) (v := undef) ?hi250 (by kernel_rfl) (by kernel_rfl) (by kernel_rfl) ?hQ250 (Or.inr ⟨?hw250, rfl⟩) (by assumption) ?rest250; (case hi250 => (simp only [List.getElem?_toArray, List.getElem?_cons_succ, List.getElem?_cons_zero]; rfl)); (case hQ250 => exact fun _ _ _ h => h); (case hw250 => rfl))
  (try simp only [Act.put, List.setIfInBounds_toArray, List.set_cons_zero, List.set_cons_succ])
  first | (refine wpAnyH_take (i := 12) (oi := ?oi251) (v := ?v251) ?hi251 (by kernel_rfl) (by kernel_rfl) (by kernel_rfl) ?hQ251 (Or.inl ⟨?hw251, ?hy251⟩) (by assumption) ?rest251; (case hi251 => (simp only [List.getElem?_toArray, List.getElem?_cons_succ, List.getElem?_cons_zero]; rfl)); (case hQ251 => exact fun _ _ _ h => h); (case hw251 => rfl); (case hy251 => ((intro w hSw); (try dsimp only at hSw); go_simp; (try with_reducible rfl)))) | (refine wpAnyH_take (i := 12) (oi := ?oi252) (v := undef) ?hi252 (by kernel_rfl) (by kernel_rfl) (by kernel_rfl) ?hQ252 (Or.inr ⟨?hw252, rfl⟩) (by assumption) ?rest252; (case hi252 => (simp only [List.getElem?_toArray, List.getElem?_cons_succ, List.getElem?_cons_zero]; rfl)); (case hQ252 => exact fun _ _ _ h => h); (case hw252 => rfl))
  (try simp only [Act.put, List.setIfInBounds_toArray, List.set_cons_zero, List.set_cons_succ])
  first | (refine wpAnyH_take (i := 13) (oi := ?oi253) (v := ?v253) ?hi253 (by kernel_rfl) (by kernel_rfl) (by kernel_rfl) ?hQ253 (Or.inl ⟨?hw253, ?hy253⟩) (by assumption) ?rest253; (case hi253 => (simp only [List.getElem?_toArray, List.getElem?_cons_succ, List.getElem?_cons_zero]; rfl)); (case hQ253 => exact fun _ _ _ h => h); (case hw253 => rfl); (case hy253 => ((intro w hSw); (try dsimp only at hSw); go_simp; (try with_reducible rfl)))) | (refine wpAnyH_take (i := 13) (oi := ?oi254) (v := undef) ?hi254 (by kernel_rfl) (by kernel_rfl) (by kernel_rfl) ?hQ254 (Or.inr ⟨?hw254, rfl⟩) (by assumption) ?rest254; (case hi254 => (simp only [List.getElem?_toArray, List.getElem?_cons_succ, List.getElem?_cons_zero]; rfl)); (case hQ254 => exact fun _ _ _ h => h); (case hw254 => rfl))
  (try simp only [Act.put, List.setIfInBounds_toArray, List.set_cons_zero, List.set_cons_succ])
  first | (refine wpAnyH_take (i := 14) (oi := ?oi255) (v := ?v255) ?hi255 (by kernel_rfl) (by kernel_rfl) (by kernel_rfl) ?hQ255 (Or.inl ⟨?hw255, ?hy255⟩) (by assumption) ?rest255; (case hi255 => (simp only [List.getElem?_toArray, List.getElem?_cons_succ, List.getElem?_cons_zero]; rfl)); (case hQ255 => exact fun _ _ _ h => h); (case hw255 => rfl); (case hy255 => ((intro w hSw); (try dsimp only at hSw); go_simp; (try with_reducible rfl)))) | (refine wpAnyH_take (i := 14) (oi := ?oi256) (v := undef) ?hi256 (by kernel_rfl) (by kernel_rfl) (by kernel_rfl) ?hQ256 (Or.inr ⟨?hw256, rfl⟩) (by assumption) ?rest256; (case hi256 => (simp only [List.getElem?_toArray, List.getElem?_cons_succ, List.getElem?_cons_zero]; rfl)); (case hQ256 => exact fun _ _ _ h => h); (case hw256 => rfl))
  (try simp only [Act.put, List.setIfInBounds_toArray, List.set_cons_zero, List.set_cons_succ])
  refine wpAnyH_ready (rs := [15]) (by kernel_rfl) (by simp) ?_
  refine AllReadyH.cons (o := ?oi257) ?hi257 (fun K hK => ?rest257) AllReadyH.nil
  (case hi257 => (simp only [List.getElem?_toArray, List.getElem?_cons_succ, List.getElem?_cons_zero]; rfl))
  obtain ⟨s0, s1, s2, s3, s4, s5, s6, s7, s8, s9, s10, s11, s12, s13⟩ := hHeld
  go_simp
  ((with_reducible refine (H2.out _).mono ?_); rintro e wx2 ⟨rfl, hb⟩)
  replace HW := Lib.hid (below_step HW.out hb)
  refine hK.out _ _ ?_ (fun hHeld => ?_)
  · (try dsimp only); exact ⟨cel_below hb s0, cel_below hb s1, cel_below hb s2, cel_below hb s3, cel_below hb s4, cel_below hb s5, cel_below hb s6, cel_below hb s7, cel_below hb s8, cel_below hb s9, cel_below hb s10, cel_below hb s11, cel_below hb s12, cel_below hb s13⟩
  clear hK K hb s0 s1 s2 s3 s4 s5 s6 s7 s8 s9 s10 s11 s12 s13
  (try simp only [Act.put, List.setIfInBounds_toArray, List.set_cons_zero, List.set_cons_succ])
  first | (refine wpAnyH_take (i := 16) (oi := ?oi258) (v := ?v258) ?hi258 (by kernel_rfl) (by kernel_rfl) (by kernel_rfl) ?hQ258 (Or.inl ⟨?hw258, ?hy258⟩) (by assumption) ?rest258; (case hi258 => (simp only [List.getElem?_toArray, List.getElem?_cons_succ, List.getElem?_cons_zero]; rfl)); (case hQ258 => exact fun _ _ _ h => h); (case hw258 => rfl); (case hy258 => ((intro w hSw); (try dsimp only at hSw); go_simp; (try with_reducible rfl)))) | (refine wpAnyH_take (i := 16) (oi := ?oi259) (v := undef) ?hi259 (by kernel_rfl) (by kernel_rfl) (by kernel_rfl) ?hQ259 (Or.inr ⟨?hw259, rfl⟩) (by assumption) ?rest259; (case hi259 => (simp only [List.getElem?_toArray, List.getElem?_cons_succ, List.getElem?_cons_zero]; rfl)); (case hQ259 => exact fun _ _ _ h => h); (case hw259 => rfl))
  (try simp only [Act.put, List.setIfInBounds_toArray, List.set_cons_zero, List.set_cons_succ])
  first | (refine wpAnyH_take (i := 17) (oi := ?oi260) (v := ?v260) ?hi260 (by kernel_rfl) (by kernel_rfl) (by kernel_rfl) ?hQ260 (Or.inl ⟨?hw260, ?hy260⟩) (by assumption) ?rest260; (case hi260 => (simp only [List.getElem?_toArray, List.getElem?_cons_succ, List.getElem?_cons_zero]; rfl)); (case hQ260 => exact fun _ _ _ h => h); (case hw260 => rfl); (case hy260 => ((intro w hSw); (try dsimp only at hSw); go_simp; (try with_reducible rfl)))) | (refine wpAnyH_take (i := 17) (oi := ?oi261) (v := undef) ?hi261 (by kernel_rfl) (by kernel_rfl) (by kernel_rfl) ?hQ261 (Or.inr ⟨?hw261, rfl⟩) (by assumption) ?rest261; (case hi261 => (simp only [List.getElem?_toArray, List.getElem?_cons_succ, List.getElem?_cons_zero]; rfl)); (case hQ261 => exact fun _ _ _ h => h); (case hw261 => rfl))
  (try simp only [Act.put, List.setIfInBounds_toArray, List.set_cons_zero, List.set_cons_succ])
  first | (refine wpAnyH_take (i := 18) (oi := ?oi262) (v := ?v262) ?hi262 (by kernel_rfl) (by kernel_rfl) (by kernel_rfl) ?hQ262 (Or.inl ⟨?hw262, ?hy262⟩) (by assumption) ?rest262; (case hi262 => (simp only [List.getElem?_toArray, List.getElem?_cons_succ, List.getElem?_cons_zero]; rfl)); (case hQ262 => exact fun _ _ _ h => h); (case hw262 => rfl); (case hy262 => ((intro w hSw); (try dsimp only at hSw); go_simp; (try with_reducible rfl)))) | (refine wpAnyH_take (i := 18) (oi := ?oi263) (v := undef) ?hi263 (by kernel_rfl) (by kernel_rfl) (by kernel_rfl) ?hQ263 (Or.inr ⟨?hw263, rfl⟩) (by assumption) ?rest263; (case hi263 => (simp only [List.getElem?_toArray, List.getElem?_cons_succ, List.getElem?_cons_zero]; rfl)); (case hQ263 => exact fun _ _ _ h => h); (case hw263 => rfl))
  (try simp only [Act.put, List.setIfInBounds_toArray, List.set_cons_zero, List.set_cons_succ])
  first | (refine wpAnyH_take (i := 19) (oi := ?oi264) (v := ?v264) ?hi264 (by kernel_rfl) (by kernel_rfl) (by kernel_rfl) ?hQ264 (Or.inl ⟨?hw264, ?hy264⟩) (by assumption) ?rest264; (case hi264 => (simp only [List.getElem?_toArray, List.getElem?_cons_succ, List.getElem?_cons_zero]; rfl)); (case hQ264 => exact fun _ _ _ h => h); (case hw264 => rfl); (case hy264 => ((intro w hSw); (try dsimp only at hSw); go_simp; (try with_reducible rfl)))) | (refine wpAnyH_take (i := 19) (oi := ?oi265) (v := undef) ?hi265 (by kernel_rfl) (by kernel_rfl) (by kernel_rfl) ?hQ265 (Or.inr ⟨?hw265, rfl⟩) (by assumption) ?rest265; (case hi265 => (simp only [List.getElem?_toArray, List.getElem?_cons_succ, List.getElem?_cons_zero]; rfl)); (case hQ265 => exact fun _ _ _ h => h); (case hw265 => rfl))
  (try simp only [Act.put, List.setIfInBounds_toArray, List.set_cons_zero, List.set_cons_succ])
  first | (refine wpAnyH_take (i := 20) (oi := ?oi266) (v := ?v266) ?hi266 (by kernel_rfl) (by kernel_rfl) (by kernel_rfl) ?hQ266 (Or.inl ⟨?hw266, ?hy266⟩) (by assumption) ?rest266; (case hi266 => (simp only [List.getElem?_toArray, List.getElem?_cons_succ, List.getElem?_cons_zero]; rfl)); (case hQ266 => exact fun _ _ _ h => h); (case hw266 => rfl); (case hy266 => ((intro w hSw); (try dsimp only at hSw); go_simp; (try with_reducible rfl)))) | (refine wpAnyH_take (i := 20) (oi := ?oi267) (v := undef) ?hi267 (by kernel_rfl) (by kernel_rfl) (by kernel_rfl) ?hQ267 (Or.inr ⟨?hw267, rfl⟩) (by assumption) ?rest267; (case hi267 => (simp only [List.getElem?_toArray, List.getElem?_cons_succ, List.getElem?_cons_zero]; rfl)); (case hQ267 => exact fun _ _ _ h => h); (case hw267 => rfl))
  (try simp only [Act.put, List.setIfInBounds_toArray, List.set_cons_zero, List.set_cons_succ])
  refine wpAnyH_ready (rs := [21]) (by kernel_rfl) (by simp) ?_
  refine AllReadyH.cons (o := ?oi268) ?hi268 (fun K hK => ?rest268) AllReadyH.nil
  (case hi268 => (simp only [List.getElem?_toArray, List.getElem?_cons_succ, List.getElem?_cons_zero]; rfl))
  obtain ⟨s0, s1, s2, s3, s4, s5, s6, s7, s8, s9, s10, s11, s12, s13⟩ := hHeld
  go_simp
  ((with_reducible refine (H3.out _).mono ?_); rintro e wx3 ⟨rfl, hb⟩)
  replace HW := Lib.hid (below_step HW.out hb)
  refine hK.out _ _ ?_ (fun hHeld => ?_)
  · (try dsimp only); exact ⟨cel_below hb s0, cel_below hb s1, cel_below hb s2, cel_below hb s3, cel_below hb s4, cel_below hb s5, cel_below hb s6, cel_below hb s7, cel_below hb s8, cel_below hb s9, cel_below hb s10, cel_below hb s11, cel_below hb s12, cel_below hb s13⟩
  clear hK K hb s0 s1 s2 s3 s4 s5 s6 s7 s8 s9 s10 s11 s12 s13
  (try simp only [Act.put, List.setIfInBounds_toArray, List.set_cons_zero, List.set_cons_succ])
  first | (refine wpAnyH_take (i := 22) (oi := ?oi269) (v := ?v269) ?hi269 (by kernel_rfl) (by kernel_rfl) (by kernel_rfl) ?hQ269 (Or.inl ⟨?hw269, ?hy269⟩) (by assumption) ?rest269; (case hi269 => (simp only [List.getElem?_toArray, List.getElem?_cons_succ, List.getElem?_cons_zero]; rfl)); (case hQ269 => exact fun _ _ _ h => h); (case hw269 => rfl); (case hy269 => ((intro w hSw); (try dsimp only at hSw); go_simp; (try with_reducible rfl)))) | (refine wpAnyH_take (i := 22) (oi := ?oi270) (v := undef) ?hi270 (by kernel_rfl) (by kernel_rfl) (by kernel_rfl) ?hQ270 (Or.inr ⟨?hw270, rfl⟩) (by assumption) ?rest270; (case hi270 => (simp only [List.getElem?_toArray, List.getElem?_cons_succ, List.getElem?_cons_zero]; rfl)); (case hQ270 => exact fun _ _ _ h => h); (case hw270 => rfl))
  (try simp only [Act.put, List.setIfInBounds_toArray, List.set_cons_zero, List.set_cons_succ])
  first | (refine wpAnyH_take (i := 23) (oi := ?oi271) (v := ?v271) ?hi271 (by kernel_rfl) (by kernel_rfl) (by kernel_rfl) ?hQ271 (Or.inl ⟨?hw271, ?hy271⟩) (by assumption) ?rest271; (case hi271 => (simp only [List.getElem?_toArray, List.getElem?_cons_succ, List.getElem?_cons_zero]; rfl)); (case hQ271 => exact fun _ _ _ h => h); (case hw271 => rfl); (case hy271 => ((intro w hSw); (try dsimp only at hSw); go_simp; (try with_reducible rfl)))) | (refine wpAnyH_take (i := 23) (oi := ?oi272) (v := undef) ?hi272 (by kernel_rfl) (by kernel_rfl) (by kernel_rfl) ?hQ272 (Or.inr ⟨?hw272, rfl⟩) (by assumption) ?rest272; (case hi272 => (simp only [List.getElem?_toArray, List.getElem?_cons_succ, List.getElem?_cons_zero]; rfl)); (case hQ272 => exact fun _ _ _ h => h); (case hw272 => rfl))
  (try simp only [Act.put, List.setIfInBounds_toArray, List.set_cons_zero, List.set_cons_succ])
  first | (refine wpAnyH_take (i := 24) (oi := ?oi273) (v := ?v273) ?hi273 (by kernel_rfl) (by kernel_rfl) (by kernel_rfl) ?hQ273 (Or.inl ⟨?hw273, ?hy273⟩) (by assumption) ?rest273; (case hi273 => (simp only [List.getElem?_toArray, List.getElem?_cons_succ, List.getElem?_cons_zero]; rfl)); (case hQ273 => exact fun _ _ _ h => h); (case hw273 => rfl); (case hy273 => ((intro w hSw); (try dsimp only at hSw); go_simp; (try with_reducible rfl)))) | (refine wpAnyH_take (i := 24) (oi := ?oi274) (v := undef) ?hi274 (by kernel_rfl) (by kernel_rfl) (by kernel_rfl) ?hQ274 (Or.inr ⟨?hw274, rfl⟩) (by assumption) ?rest274; (case hi274 => (simp only [List.getElem?_toArray, List.getElem?_cons_succ, List.getElem?_cons_zero]; rfl)); (case hQ274 => exact fun _ _ _ h => h); (case hw274 => rfl))
  (try simp only [Act.put, List.setIfInBounds_toArray, List.set_cons_zero, List.set_cons_succ])
  first | (refine wpAnyH_take (i := 25) (oi := ?oi275) (v := ?v275) ?hi275 (by kernel_rfl) (by kernel_rfl) (by kernel_rfl) ?hQ275 (Or.inl ⟨?hw275, ?hy275⟩) (by assumption) ?rest275; (case hi275 => (simp only [List.getElem?_toArray, List.getElem?_cons_succ, List.getElem?_cons_zero]; rfl)); (case hQ275 => exact fun _ _ _ h => h); (case hw275 => rfl); (case hy275 => ((intro w hSw); (try dsimp only at hSw); go_simp; (try with_reducible rfl)))) | (refine wpAnyH_take (i := 25) (oi := ?oi276) (v := undef) ?hi276 (by kernel_rfl) (by kernel_rfl) (by kernel_rfl) ?hQ276 (Or.inr ⟨?hw276, rfl⟩) (by assumption) ?rest276; (case hi276 => (simp only [List.getElem?_toArray, List.getElem?_cons_succ, List.getElem?_cons_zero]; rfl)); (case hQ276 => exact fun _ _ _ h => h); (case hw276 => rfl))
  (try simp only [Act.put, List.setIfInBounds_toArray, List.set_cons_zero, List.set_cons_succ])
  first | (refine wpAnyH_take (i := 26) (oi := ?oi277) (v := ?v277) ?hi277 (by kernel_rfl) (by kernel_rfl) (by kernel_rfl) ?hQ277 (Or.inl ⟨?hw277, ?hy277⟩) (by assumption) ?rest277; (case hi277 => (simp only [List.getElem?_toArray, List.getElem?_cons_succ, List.getElem?_cons_zero]; rfl)); (case hQ277 => exact fun _ _ _ h => h); (case hw277 => rfl); (case hy277 => ((intro w hSw); (try dsimp only at hSw); go_simp; (try with_reducible rfl)))) | (refine wpAnyH_take (i := 26) (oi := ?oi278) (v := undef) ?hi278 (by kernel_rfl) (by kernel_rfl) (by kernel_rfl) ?hQ278 (Or.inr ⟨?hw278, rfl⟩) (by assumption) ?rest278; (case hi278 => (simp only [List.getElem?_toArray, List.getElem?_cons_succ, List.getElem?_cons_zero]; rfl)); (case hQ278 => exact fun _ _ _ h => h); (case hw278 => rfl))
  (try simp only [Act.put, List.setIfInBounds_toArray, List.set_cons_zero, List.set_cons_succ])
  first | (refine wpAnyH_take (i := 27) (oi := ?oi279) (v := ?v279) ?hi279 (by kernel_rfl) (by kernel_rfl) (by kernel_rfl) ?hQ279 (Or.inl ⟨?hw279, ?hy279⟩) (by assumption) ?rest279; (case hi279 => (simp only [List.getElem?_toArray, List.getElem?_cons_succ, List.getElem?_cons_zero]; rfl)); (case hQ279 => exact fun _ _ _ h => h); (case hw279 => rfl); (case hy279 => ((intro w hSw); (try dsimp only at hSw); go_simp; (try with_reducible rfl)))) | (refine wpAnyH_take (i := 27) (oi := ?oi280) (v := undef) ?hi280 (by kernel_rfl) (by kernel_rfl) (by kernel_rfl) ?hQ280 (Or.inr ⟨?hw280, rfl⟩) (by assumption) ?rest280; (case hi280 => (simp only [List.getElem?_toArray, List.getElem?_cons_succ, List.getElem?_cons_zero]; rfl)); (case hQ280 => exact fun _ _ _ h => h); (case hw280 => rfl))
  (try simp only [Act.put, List.setIfInBounds_toArray, List.set_cons_zero, List.set_cons_succ])
  first | (refine wpAnyH_take (i := 28) (oi := ?oi281) (v := ?v281) ?hi281 (by kernel_rfl) (by kernel_rfl) (by kernel_rfl) ?hQ281 (Or.inl ⟨?hw281, ?hy281⟩) (by assumption) ?rest281; (case hi281 => (simp only [List.getElem?_toArray, List.getElem?_cons_succ, List.getElem?_cons_zero]; rfl)); (case hQ281 => exact fun _ _ _ h => h); (case hw281 => rfl); (case hy281 => ((intro w hSw); (try dsimp only at hSw); go_simp; (try with_reducible rfl)))) | (refine wpAnyH_take (i := 28) (oi := ?oi282) (v := undef) ?hi282 (by kernel_rfl) (by kernel_rfl) (by kernel_rfl) ?hQ282 (Or.inr ⟨?hw282, rfl⟩) (by assumption) ?rest282; (case hi282 => (simp only [List.getElem?_toArray, List.getElem?_cons_succ, List.getElem?_cons_zero]; rfl)); (case hQ282 => exact fun _ _ _ h => h); (case hw282 => rfl))
  (try simp only [Act.put, List.setIfInBounds_toArray, List.set_cons_zero, List.set_cons_succ])
  first | (refine wpAnyH_take (i := 29) (oi := ?oi283) (v := ?v283) ?hi283 (by kernel_rfl) (by kernel_rfl) (by kernel_rfl) ?hQ283 (Or.inl ⟨?hw283, ?hy283⟩) (by assumption) ?rest283; (case hi283 => (simp only [List.getElem?_toArray, List.getElem?_cons_succ, List.getElem?_cons_zero]; rfl)); (case hQ283 => exact fun _ _ _ h => h); (case hw283 => rfl); (case hy283 => ((intro w hSw); (try dsimp only at hSw); go_simp; (try with_reducible rfl)))) | (refine wpAnyH_take (i := 29) (oi := ?oi284) (v := undef) ?hi284 (by kernel_rfl) (by kernel_rfl) (by kernel_rfl) ?hQ284 (Or.inr ⟨?hw284, rfl⟩) (by assumption) ?rest284; (case hi284 => (simp only [List.getElem?_toArray, List.getElem?_cons_succ, List.getElem?_cons_zero]; rfl)); (case hQ284 => exact fun _ _ _ h => h); (case hw284 => rfl))
  (try simp only [Act.put, List.setIfInBounds_toArray, List.set_cons_zero, List.set_cons_succ])
  first | (refine wpAnyH_take (i := 30) (oi := ?oi285) (v := ?v285) ?hi285 (by kernel_rfl) (by kernel_rfl) (by kernel_rfl) ?hQ285 (Or.inl ⟨?hw285, ?hy285⟩) (by assumption) ?rest285; (case hi285 => (simp only [List.getElem?_toArray, List.getElem?_cons_succ, List.getElem?_cons_zero]; rfl)); (case hQ285 => exact fun _ _ _ h => h); (case hw285 => rfl); (case hy285 => ((intro w hSw); (try dsimp only at hSw); go_simp; (try with_reducible rfl)))) | (refine wpAnyH_take (i := 30) (oi := ?oi286) (v := undef) ?hi286 (by kernel_rfl) (by kernel_rfl) (by kernel_rfl) ?hQ286 (Or.inr ⟨?hw286, rfl⟩) (by assumption) ?rest286; (case hi286 => (simp only [List.getElem?_toArray, List.getElem?_cons_succ, List.getElem?_cons_zero]; rfl)); (case hQ286 => exact fun _ _ _ h => h); (case hw286 => rfl))
  (try simp only [Act.put, List.setIfInBounds_toArray, List.set_cons_zero, List.set_cons_succ])
  first | (refine wpAnyH_take (i := 32) (oi := ?oi287) (v := ?v287) ?hi287 (by kernel_rfl) (by kernel_rfl) (by kernel_rfl) ?hQ287 (Or.inl ⟨?hw287, ?hy287⟩) (by assumption) ?rest287; (case hi287 => (simp only [List.getElem?_toArray, List.getElem?_cons_succ, List.getElem?_cons_zero]; rfl)); (case hQ287 => exact fun _ _ _ h => h); (case hw287 => rfl); (case hy287 => ((intro w hSw); (try dsimp only at hSw); go_simp; (try with_reducible rfl)))) | (refine wpAnyH_take (i := 32) (oi := ?oi288) (v := undef) ?hi288 (by kernel_rfl) (by kernel_rfl) (by kernel_rfl) ?hQ288 (Or.inr ⟨?hw288, rfl⟩) (by assumption) ?rest288; (case hi288 => (simp only [List.getElem?_toArray, List.getElem?_cons_succ, List.getElem?_cons_zero]; rfl)); (case hQ288 => exact fun _ _ _ h => h); (case hw288 => rfl))
  (try simp only [Act.put, List.setIfInBounds_toArray, List.set_cons_zero, List.set_cons_succ])
  first | (refine wpAnyH_take (i := 33) (oi := ?oi289) (v := ?v289) ?hi289 (by kernel_rfl) (by kernel_rfl) (by kernel_rfl) ?hQ289 (Or.inl ⟨?hw289, ?hy289⟩) (by assumption) ?rest289; (case hi289 => (simp only [List.getElem?_toArray, List.getElem?_cons_succ, List.getElem?_cons_zero]; rfl)); (case hQ289 => exact fun _ _ _ h => h); (case hw289 => rfl); (case hy289 => ((intro w hSw); (try dsimp only at hSw); go_simp; (try with_reducible rfl)))) | (refine wpAnyH_take (i := 33) (oi := ?oi290) (v := undef) ?hi290 (by kernel_rfl) (by kernel_rfl) (by kernel_rfl) ?hQ290 (Or.inr ⟨?hw290, rfl⟩) (by assumption) ?rest290; (case hi290 => (simp only [List.getElem?_toArray, List.getElem?_cons_succ, List.getElem?_cons_zero]; rfl)); (case hQ290 => exact fun _ _ _ h => h); (case hw290 => rfl))
  (try simp only [Act.put, List.setIfInBounds_toArray, List.set_cons_zero, List.set_cons_succ])
  first | (refine wpAnyH_take (i := 34) (oi := ?oi291) (v := ?v291) ?hi291 (by kernel_rfl) (by kernel_rfl) (by kernel_rfl) ?hQ291 (Or.inl ⟨?hw291, ?hy291⟩) (by assumption) ?rest291; (case hi291 => (simp only [List.getElem?_toArray, List.getElem?_cons_succ, List.getElem?_cons_zero]; rfl)); (case hQ291 => exact fun _ _ _ h => h); (case hw291 => rfl); (case hy291 => ((intro w hSw); (try dsimp only at hSw); go_simp; (try with_reducible rfl)))) | (refine wpAnyH_take (i := 34) (oi := ?oi292) (v := undef) ?hi292 (by kernel_rfl) (by kernel_rfl) (by kernel_rfl) ?hQ292 (Or.inr ⟨?hw292, rfl⟩) (by assumption) ?rest292; (case hi292 => (simp only [List.getElem?_toArray, List.getElem?_cons_succ, List.getElem?_cons_zero]; rfl)); (case hQ292 => exact fun _ _ _ h => h); (case hw292 => rfl))
  (try simp only [Act.put, List.setIfInBounds_toArray, List.set_cons_zero, List.set_cons_succ])
  refine wpAnyH_ready (rs := [31]) (by kernel_rfl) (by simp) ?_
  refine AllReadyH.cons (o := ?oi293) ?hi293 (fun K hK => ?rest293) AllReadyH.nil
  (case hi293 => (simp only [List.getElem?_toArray, List.getElem?_cons_succ, List.getElem?_cons_zero]; rfl))
  obtain ⟨s0, s1, s2, s3, s4, s5, s6, s7, s8, s9, s10, s11, s12, s13⟩ := hHeld
  go_simp
  ((with_reducible refine (H4.out _).mono ?_); rintro e wx4 ⟨rfl, hb⟩)
  replace HW := Lib.hid (below_step HW.out hb)
  refine hK.out _ _ ?_ (fun hHeld => ?_)
  · (try dsimp only); exact ⟨cel_below hb s0, cel_below hb s1, cel_below hb s2, cel_below hb s3, cel_below hb s4, cel_below hb s5, cel_below hb s6, cel_below hb s7, cel_below hb s8, cel_below hb s9, cel_below hb s10, cel_below hb s11, cel_below hb s12, cel_below hb s13⟩
  clear hK K hb s0 s1 s2 s3 s4 s5 s6 s7 s8 s9 s10 s11 s12 s13
  (try simp only [Act.put, List.setIfInBounds_toArray, List.set_cons_zero, List.set_cons_succ])
  first | (refine wpAnyH_take (i := 35) (oi := ?oi294) (v := ?v294) ?hi294 (by kernel_rfl) (by kernel_rfl) (by kernel_rfl) ?hQ294 (Or.inl ⟨?hw294, ?hy294⟩) (by assumption) ?rest294; (case hi294 => (simp only [List.getElem?_toArray, List.getElem?_cons_succ, List.getElem?_cons_zero]; rfl)); (case hQ294 => exact fun _ _ _ h => h); (case hw294 => rfl); (case hy294 => ((intro w hSw); (try dsimp only at hSw); go_simp; (try with_reducible rfl)))) | (refine wpAnyH_take (i := 35) (oi := ?oi295) (v := undef) ?hi295 (by kernel_rfl) (by kernel_rfl) (by kernel_rfl) ?hQ295 (Or.inr ⟨?hw295, rfl⟩) (by assumption) ?rest295; (case hi295 => (simp only [List.getElem?_toArray, List.getElem?_cons_succ, List.getElem?_cons_zero]; rfl)); (case hQ295 => exact fun _ _ _ h => h); (case hw295 => rfl))
  (try simp only [Act.put, List.setIfInBounds_toArray, List.set_cons_zero, List.set_cons_succ])
  first | (refine wpAnyH_take (i := 36) (oi := ?oi296) (v := ?v296) ?hi296 (by kernel_rfl) (by kernel_rfl) (by kernel_rfl) ?hQ296 (Or.inl ⟨?hw296, ?hy296⟩) (by assumption) ?rest296; (case hi296 => (simp only [List.getElem?_toArray, List.getElem?_cons_succ, List.getElem?_cons_zero]; rfl)); (case hQ296 => exact fun _ _ _ h => h); (case hw296 => rfl); (case hy296 => ((intro w hSw); (try dsimp only at hSw); go_simp; (try with_reducible rfl)))) | (refine wpAnyH_take (i := 36) (oi := ?oi297) (v := undef) ?hi297 (by kernel_rfl) (by kernel_rfl) (by kernel_rfl) ?hQ297 (Or.inr ⟨?hw297, rfl⟩) (by assumption) ?rest297; (case hi297 => (simp only [List.getElem?_toArray, List.getElem?_cons_succ, List.getElem?_cons_zero]; rfl)); (case hQ297 => exact fun _ _ _ h => h); (case hw297 => rfl))
  (try simp only [Act.put, List.setIfInBounds_toArray, List.set_cons_zero, List.set_cons_succ])
  first | (refine wpAnyH_take (i := 37) (oi := ?oi298) (v := ?v298) ?hi298 (by kernel_rfl) (by kernel_rfl) (by kernel_rfl) ?hQ298 (Or.inl ⟨?hw298, ?hy298⟩) (by assumption) ?rest298; (case hi298 => (simp only [List.getElem?_toArray, List.getElem?_cons_succ, List.getElem?_cons_zero]; rfl)); (case hQ298 => exact fun _ _ _ h => h); (case hw298 => rfl); (case hy298 => ((intro w hSw); (try dsimp only at hSw); go_simp; (try with_reducible rfl)))) | (refine wpAnyH_take (i := 37) (oi := ?oi299) (v := undef) ?hi299 (by kernel_rfl) (by kernel_rfl) (by kernel_rfl) ?hQ299 (Or.inr ⟨?hw299, rfl⟩) (by assumption) ?rest299; (case hi299 => (simp only [List.getElem?_toArray, List.getElem?_cons_succ, List.getElem?_cons_zero]; rfl)); (case hQ299 => exact fun _ _ _ h => h); (case hw299 => rfl))
  (try simp only [Act.put, List.setIfInBounds_toArray, List.set_cons_zero, List.set_cons_succ])
  first | (refine wpAnyH_take (i := 38) (oi := ?oi300) (v := ?v300) ?hi300 (by kernel_rfl) (by kernel_rfl) (by kernel_rfl) ?hQ300 (Or.inl ⟨?hw300, ?hy300⟩) (by assumption) ?rest300; (case hi300 => (simp only [List.getElem?_toArray, List.getElem?_cons_succ, List.getElem?_cons_zero]; rfl)); (case hQ300 => exact fun _ _ _ h => h); (case hw300 => rfl); (case hy300 => ((intro w hSw); (try dsimp only at hSw); go_simp; (try with_reducible rfl)))) | (refine wpAnyH_take (i := 38) (oi := ?oi301) (v := undef) ?hi301 (by kernel_rfl) (by kernel_rfl) (by kernel_rfl) ?hQ301 (Or.inr ⟨?hw301, rfl⟩) (by assumption) ?rest301; (case hi301 => (simp only [List.getElem?_toArray, List.getElem?_cons_succ, List.getElem?_cons_zero]; rfl)); (case hQ301 => exact fun _ _ _ h => h); (case hw301 => rfl))
  (try simp only [Act.put, List.setIfInBounds_toArray, List.set_cons_zero, List.set_cons_succ])
  first | (refine wpAnyH_take (i := 39) (oi := ?oi302) (v := ?v302) ?hi302 (by kernel_rfl) (by kernel_rfl) (by kernel_rfl) ?hQ302 (Or.inl ⟨?hw302, ?hy302⟩) (by assumption) ?rest302; (case hi302 => (simp only [List.getElem?_toArray, List.getElem?_cons_succ, List.getElem?_cons_zero]; rfl)); (case hQ302 => exact fun _ _ _ h => h); (case hw302 => rfl); (case hy302 => ((intro w hSw); (try dsimp only at hSw); go_simp; (try with_reducible rfl)))) | (refine wpAnyH_take (i := 39) (oi := ?oi303) (v := undef) ?hi303 (by kernel_rfl) (by kernel_rfl) (by kernel_rfl) ?hQ303 (Or.inr ⟨?hw303, rfl⟩) (by assumption) ?rest303; (case hi303 => (simp only [List.getElem?_toArray, List.getElem?_cons_succ, List.getElem?_cons_zero]; rfl)); (case hQ303 => exact fun _ _ _ h => h); (case hw303 => rfl))
  (try simp only [Act.put, List.setIfInBounds_toArray, List.set_cons_zero, List.set_cons_succ])
  first | (refine wpAnyH_take (i := 40) (oi := ?oi304) (v := ?v304) ?hi304 (by kernel_rfl) (by kernel_rfl) (by kernel_rfl) ?hQ304 (Or.inl ⟨?hw304, ?hy304⟩) (by assumption) ?rest304; (case hi304 => (simp only [List.getElem?_toArray, List.getElem?_cons_succ, List.getElem?_cons_zero]; rfl)); (case hQ304 => exact fun _ _ _ h => h); (case hw304 => rfl); (case hy304 => ((intro w hSw); (try dsimp only at hSw); go_simp; (try with_reducible rfl)))) | (refine wpAnyH_take (i := 40) (oi := ?oi305) (v := undef) ?hi305 (by kernel_rfl) (by kernel_rfl) (by kernel_rfl) ?hQ305 (Or.inr ⟨?hw305, rfl⟩) (by assumption) ?rest305; (case hi305 => (simp only [List.getElem?_toArray, List.getElem?_cons_succ, List.getElem?_cons_zero]; rfl)); (case hQ305 => exact fun _ _ _ h => h); (case hw305 => rfl))
  (try simp only [Act.put, List.setIfInBounds_toArray, List.set_cons_zero, List.set_cons_succ])
  first | (refine wpAnyH_take (i := 41) (oi := ?oi306) (v := ?v306) ?hi306 (by kernel_rfl) (by kernel_rfl) (by kernel_rfl) ?hQ306 (Or.inl ⟨?hw306, ?hy306⟩) (by assumption) ?rest306; (case hi306 => (simp only [List.getElem?_toArray, List.getElem?_cons_succ, List.getElem?_cons_zero]; rfl)); (case hQ306 => exact fun _ _ _ h => h); (case hw306 => rfl); (case hy306 => ((intro w hSw); (try dsimp only at hSw); go_simp; (try with_reducible rfl)))) | (refine wpAnyH_take (i := 41) (oi := ?oi307) (v := undef) ?hi307 (by kernel_rfl) (by kernel_rfl) (by kernel_rfl) ?hQ307 (Or.inr ⟨?hw307, rfl⟩) (by assumption) ?rest307; (case hi307 => (simp only [List.getElem?_toArray, List.getElem?_cons_succ, List.getElem?_cons_zero]; rfl)); (case hQ307 => exact fun _ _ _ h => h); (case hw307 => rfl))
  (try simp only [Act.put, List.setIfInBounds_toArray, List.set_cons_zero, List.set_cons_succ])
  refine wpAnyH_ready (rs := [42]) (by kernel_rfl) (by simp) ?_
  refine AllReadyH.cons (o := ?oi308) ?hi308 (fun K hK => ?rest308) AllReadyH.nil
  (case hi308 => (simp only [List.getElem?_toArray, List.getElem?_cons_succ, List.getElem?_cons_zero]; rfl))
  obtain ⟨s0, s1, s2, s3, s4, s5, s6, s7, s8, s9, s10, s11, s12, s13⟩ := hHeld
  go_simp
  ((with_reducible refine (H5.out _).mono ?_); rintro e wx5 ⟨rfl, hb⟩)
  replace HW := Lib.hid (below_step HW.out hb)
  refine hK.out _ _ ?_ (fun hHeld => ?_)
  · (try dsimp only); exact ⟨cel_below hb s0, cel_below hb s1, cel_below hb s2, cel_below hb s3, cel_below hb s4, cel_below hb s5, cel_below hb s6, cel_below hb s7, cel_below hb s8, cel_below hb s9, cel_below hb s10, cel_below hb s11, cel_below hb s12, cel_below hb s13⟩
  clear hK K hb s0 s1 s2 s3 s4 s5 s6 s7 s8 s9 s10 s11 s12 s13
  (try simp only [Act.put, List.setIfInBounds_toArray, List.set_cons_zero, List.set_cons_succ])
  first | (refine wpAnyH_take (i := 43) (oi := ?oi309) (v := ?v309) ?hi309 (by kernel_rfl) (by kernel_rfl) (by kernel_rfl) ?hQ309 (Or.inl ⟨?hw309, ?hy309⟩) (by assumption) ?rest309; (case hi309 => (simp only [List.getElem?_toArray, List.getElem?_cons_succ, List.getElem?_cons_zero]; rfl)); (case hQ309 => exact fun _ _ _ h => h); (case hw309 => rfl); (case hy309 => ((intro w hSw); (try dsimp only at hSw); go_simp; (try with_reducible rfl)))) | (refine wpAnyH_take (i := 43) (oi := ?oi310) (v := undef) ?hi310 (by kernel_rfl) (by kernel_rfl) (by kernel_rfl) ?hQ310 (Or.inr ⟨?hw310, rfl⟩) (by assumption) ?rest310; (case hi310 => (simp only [List.getElem?_toArray, List.getElem?_cons_succ, List.getElem?_cons_zero]; rfl)); (case hQ310 => exact fun _ _ _ h => h); (case hw310 => rfl))
  (try simp only [Act.put, List.setIfInBounds_toArray, List.set_cons_zero, List.set_cons_succ])
  first | (refine wpAnyH_take (i := 44) (oi := ?oi311) (v := ?v311) ?hi311 (by kernel_rfl) (by kernel_rfl) (by kernel_rfl) ?hQ311 (Or.inl ⟨?hw311, ?hy311⟩) (by assumption) ?rest311; (case hi311 => (simp only [List.getElem?_toArray, List.getElem?_cons_succ, List.getElem?_cons_zero]; rfl)); (case hQ311 => exact fun _ _ _ h => h); (case hw311 => rfl); (case hy311 => ((intro w hSw); (try dsimp only at hSw); go_simp; (try with_reducible rfl)))) | (refine wpAnyH_take (i := 44) (oi := ?oi312) (v := undef) ?hi312 (by kernel_rfl) (by kernel_rfl) (by kernel_rfl) ?hQ312 (Or.inr ⟨?hw312, rfl⟩) (by assumption) ?rest312; (case hi312 => (simp only [List.getElem?_toArray, List.getElem?_cons_succ, List.getElem?_cons_zero]; rfl)); (case hQ312 => exact fun _ _ _ h => h); (case hw312 => rfl))
  (try simp only [Act.put, List.setIfInBounds_toArray, List.set_cons_zero, List.set_cons_succ])
  first | (refine wpAnyH_take (i := 45) (oi := ?oi313) (v := ?v313) ?hi313 (by kernel_rfl) (by kernel_rfl) (by kernel_rfl) ?hQ313 (Or.inl ⟨?hw313, ?hy313⟩) (by assumption) ?rest313; (case hi313 => (simp only [List.getElem?_toArray, List.getElem?_cons_succ, List.getElem?_cons_zero]; rfl)); (case hQ313 => exact fun _ _ _ h => h); (case hw313 => rfl); (case hy313 => ((intro w hSw); (try dsimp only at hSw); go_simp; (try with_reducible rfl)))) | (refine wpAnyH_take (i := 45) (oi := ?oi314) (v := undef) ?hi314 (by kernel_rfl) (by kernel_rfl) (by kernel_rfl) ?hQ314 (Or.inr ⟨?hw314, rfl⟩) (by assumption) ?rest314; (case hi314 => (simp only [List.getElem?_toArray, List.getElem?_cons_succ, List.getElem?_cons_zero]; rfl)); (case hQ314 => exact fun _ _ _ h => h); (case hw314 => rfl))
  (try simp only [Act.put, List.setIfInBounds_toArray, List.set_cons_zero, List.set_cons_succ])
  first | (refine wpAnyH_take (i := 46) (oi := ?oi315) (v := ?v315) ?hi315 (by kernel_rfl) (by kernel_rfl) (by kernel_rfl) ?hQ315 (Or.inl ⟨?hw315, ?hy315⟩) (by assumption) ?rest315; (case hi315 => (simp only [List.getElem?_toArray, List.getElem?_cons_succ, List.getElem?_cons_zero]; rfl)); (case hQ315 => exact fun _ _ _ h => h); (case hw315 => rfl); (case hy315 => ((intro w hSw); (try dsimp only at hSw); go_simp; (try with_reducible rfl)))) | (refine wpAnyH_take (i := 46) (oi := ?oi316) (v := undef) ?hi316 (by kernel_rfl) (by kernel_rfl) (by kernel_rfl) ?hQ316 (Or.inr ⟨?hw316, rfl⟩) (by assumption) ?rest316; (case hi316 => (simp only [List.getElem?_toArray, List.getElem?_cons_succ, List.getElem?_cons_zero]; rfl)); (case hQ316 => exact fun _ _ _ h => h); (case hw316 => rfl))
  (try simp only [Act.put, List.setIfInBounds_toArray, List.set_cons_zero, List.set_cons_succ])
  first | (refine wpAnyH_take (i := 47) (oi := ?oi317) (v := ?v317) ?hi317 (by kernel_rfl) (by kernel_rfl) (by kernel_rfl) ?hQ317 (Or.inl ⟨?hw317, ?hy317⟩) (by assumption) ?rest317; (case hi317 => (simp only [List.getElem?_toArray, List.getElem?_cons_succ, List.getElem?_cons_zero]; rfl)); (case hQ317 => exact fun _ _ _ h => h); (case hw317 => rfl); (case hy317 => ((intro w hSw); (try dsimp only at hSw); go_simp; (try with_reducible rfl)))) | (refine wpAnyH_take (i := 47) (oi := ?oi318) (v := undef) ?hi318 (by kernel_rfl) (by kernel_rfl) (by kernel_rfl) ?hQ318 (Or.inr ⟨?hw318, rfl⟩) (by assumption) ?rest318; (case hi318 => (simp only [List.getElem?_toArray, List.getElem?_cons_succ, List.getElem?_cons_zero]; rfl)); (case hQ318 => exact fun _ _ _ h => h); (case hw318 => rfl))
  (try simp only [Act.put, List.setIfInBounds_toArray, List.set_cons_zero, List.set_cons_succ])
  first | (refine wpAnyH_take (i := 48) (oi := ?oi319) (v := ?v319) ?hi319 (by kernel_rfl) (by kernel_rfl) (by kernel_rfl) ?hQ319 (Or.inl ⟨?hw319, ?hy319⟩) (by assumption) ?rest319; (case hi319 => (simp only [List.getElem?_toArray, List.getElem?_cons_succ, List.getElem?_cons_zero]; rfl)); (case hQ319 => exact fun _ _ _ h => h); (case hw319 => rfl); (case hy319 => ((intro w hSw); (try dsimp only at hSw); go_simp; (try with_reducible rfl)))) | (refine wpAnyH_take (i := 48) (oi := ?oi320) (v := undef) ?hi320 (by kernel_rfl) (by kernel_rfl) (by kernel_rfl) ?hQ320 (Or.inr ⟨?hw320, rfl⟩) (by assumption) ?rest320; (case hi320 => (simp only [List.getElem?_toArray, List.getElem?_cons_succ, List.getElem?_cons_zero]; rfl)); (case hQ320 => exact fun _ _ _ h => h); (case hw320 => rfl))
  (try simp only [Act.put, List.setIfInBounds_toArray, List.set_cons_zero, List.set_cons_succ])
  first | (refine wpAnyH_take (i := 49) (oi := ?oi321) (v := ?v321) ?hi321 (by kernel_rfl) (by kernel_rfl) (by kernel_rfl) ?hQ321 (Or.inl ⟨?hw321, ?hy321⟩) (by assumption) ?rest321; (case hi321 => (simp only [List.getElem?_toArray, List.getElem?_cons_succ, List.getElem?_cons_zero]; rfl)); (case hQ321 => exact fun _ _ _ h => h); (case hw321 => rfl); (case hy321 => ((intro w hSw); (try dsimp only at hSw); go_simp; (try with_reducible rfl)))) | (refine wpAnyH_take (i := 49) (oi := ?oi322) (v := undef) ?hi322 (by kernel_rfl) (by kernel_rfl) (by kernel_rfl) ?hQ322 (Or.inr ⟨?hw322, rfl⟩) (by assumption) ?rest322; (case hi322 => (simp only [List.getElem?_toArray, List.getElem?_cons_succ, List.getElem?_cons_zero]; rfl)); (case hQ322 => exact fun _ _ _ h => h); (case hw322 => rfl))
  (try simp only [Act.put, List.setIfInBounds_toArray, List.set_cons_zero, List.set_cons_succ])
  first | (refine wpAnyH_take (i := 50) (oi := ?oi323) (v := ?v323) ?hi323 (by kernel_rfl) (by kernel_rfl) (by kernel_rfl) ?hQ323 (Or.inl ⟨?hw323, ?hy323⟩) (by assumption) ?rest323; (case hi323 => (simp only [List.getElem?_toArray, List.getElem?_cons_succ, List.getElem?_cons_zero]; rfl)); (case hQ323 => exact fun _ _ _ h => h); (case hw323 => rfl); (case hy323 => ((intro w hSw); (try dsimp only at hSw); go_simp; (try with_reducible rfl)))) | (refine wpAnyH_take (i := 50) (oi := ?oi324) (v := undef) ?hi324 (by kernel_rfl) (by kernel_rfl) (by kernel_rfl) ?hQ324 (Or.inr ⟨?hw324, rfl⟩) (by assumption) ?rest324; (case hi324 => (simp only [List.getElem?_toArray, List.getElem?_cons_succ, List.getElem?_cons_zero]; rfl)); (case hQ324 => exact fun _ _ _ h => h); (case hw324 => rfl))
  (try simp only [Act.put, List.setIfInBounds_toArray, List.set_cons_zero, List.set_cons_succ])
  first | (refine wpAnyH_take (i := 51) (oi := ?oi325) (v := ?v325) ?hi325 (by kernel_rfl) (by kernel_rfl) (by kernel_rfl) ?hQ325 (Or.inl ⟨?hw325, ?hy325⟩) (by assumption) ?rest325; (case hi325 => (simp only [List.getElem?_toArray, List.getElem?_cons_succ, List.getElem?_cons_zero]; rfl)); (case hQ325 => exact fun _ _ _ h => h); (case hw325 => rfl); (case hy325 => ((intro w hSw); (try dsimp only at hSw); go_simp; (try with_reducible rfl)))) | (refine wpAnyH_take (i := 51) (oi := ?oi326) (v := undef) ?hi326 (by kernel_rfl) (by kernel_rfl) (by kernel_rfl) ?hQ326 (Or.inr ⟨?hw326, rfl⟩) (by assumption) ?rest326; (case hi326 => (simp only [List.getElem?_toArray, List.getElem?_cons_succ, List.getElem?_cons_zero]; rfl)); (case hQ326 => exact fun _ _ _ h => h); (case hw326 => rfl))
  (try simp only [Act.put, List.setIfInBounds_toArray, List.set_cons_zero, List.set_cons_succ])
  first | (refine wpAnyH_take (i := 52) (oi := ?oi327) (v := ?v327) ?hi327 (by kernel_rfl) (by kernel_rfl) (by kernel_rfl) ?hQ327 (Or.inl ⟨?hw327, ?hy327⟩) (by assumption) ?rest327; (case hi327 => (simp only [List.getElem?_toArray, List.getElem?_cons_succ, List.getElem?_cons_zero]; rfl)); (case hQ327 => exact fun _ _ _ h => h); (case hw327 => rfl); (case hy327 => ((intro w hSw); (try dsimp only at hSw); go_simp; (try with_reducible rfl)))) | (refine wpAnyH_take (i := 52) (oi := ?oi328) (v := undef) ?hi328 (by kernel_rfl) (by kernel_rfl) (by kernel_rfl) ?hQ328 (Or.inr ⟨?hw328, rfl⟩) (by assumption) ?rest328; (case hi328 => (simp only [List.getElem?_toArray, List.getElem?_cons_succ, List.getElem?_cons_zero]; rfl)); (case hQ328 => exact fun _ _ _ h => h); (case hw328 => rfl))
  (try simp only [Act.put, List.setIfInBounds_toArray, List.set_cons_zero, List.set_cons_succ])
  first | (refine wpAnyH_take (i := 53) (oi := ?oi329) (v := ?v329) ?hi329 (by kernel_rfl) (by kernel_rfl) (by kernel_rfl) ?hQ329 (Or.inl ⟨?hw329, ?hy329⟩) (by assumption) ?rest329; (case hi329 => (simp only [List.getElem?_toArray, List.getElem?_cons_succ, List.getElem?_cons_zero]; rfl)); (case hQ329 => exact fun _ _ _ h => h); (case hw329 => rfl); (case hy329 => ((intro w hSw); (try dsimp only at hSw); go_simp; (try with_reducible rfl)))) | (refine wpAnyH_take (i := 53) (oi := ?oi330) (v := undef) ?hi330 (by kernel_rfl) (by kernel_rfl) (by kernel_rfl) ?hQ330 (Or.inr ⟨?hw330, rfl⟩) (by assumption) ?rest330; (case hi330 => (simp only [List.getElem?_toArray, List.getElem?_cons_succ, List.getElem?_cons_zero]; rfl)); (case hQ330 => exact fun _ _ _ h => h); (case hw330 => rfl))
  (try simp only [Act.put, List.setIfInBounds_toArray, List.set_cons_zero, List.set_cons_succ])
  first | (refine wpAnyH_take (i := 54) (oi := ?oi331) (v := ?v331) ?hi331 (by kernel_rfl) (by kernel_rfl) (by kernel_rfl) ?hQ331 (Or.inl ⟨?hw331, ?hy331⟩) (by assumption) ?rest331; (case hi331 => (simp only [List.getElem?_toArray, List.getElem?_cons_succ, List.getElem?_cons_zero]; rfl)); (case hQ331 => exact fun _ _ _ h => h); (case hw331 => rfl); (case hy331 => ((intro w hSw); (try dsimp only at hSw); go_simp; (try with_reducible rfl)))) | (refine wpAnyH_take (i := 54) (oi := ?oi332) (v := undef) ?hi332 (by kernel_rfl) (by kernel_rfl) (by kernel_rfl) ?hQ332 (Or.inr ⟨?hw332, rfl⟩) (by assumption) ?rest332; (case hi332 => (simp only [List.getElem?_toArray, List.getElem?_cons_succ, List.getElem?_cons_zero]; rfl)); (case hQ332 => exact fun _ _ _ h => h); (case hw332 => rfl))
  (try simp only [Act.put, List.setIfInBounds_toArray, List.set_cons_zero, List.set_cons_succ])
  first | (refine wpAnyH_take (i := 55) (oi := ?oi333) (v := ?v333) ?hi333 (by kernel_rfl) (by kernel_rfl) (by kernel_rfl) ?hQ333 (Or.inl ⟨?hw333, ?hy333⟩) (by assumption) ?rest333; (case hi333 => (simp only [List.getElem?_toArray, List.getElem?_cons_succ, List.getElem?_cons_zero]; rfl)); (case hQ333 => exact fun _ _ _ h => h); (case hw333 => rfl); (case hy333 => ((intro w hSw); (try dsimp only at hSw); go_simp; (try with_reducible rfl)))) | (refine wpAnyH_take (i := 55) (oi := ?oi334) (v := undef) ?hi334 (by kernel_rfl) (by kernel_rfl) (by kernel_rfl) ?hQ334 (Or.inr ⟨?hw334, rfl⟩) (by assumption) ?rest334; (case hi334 => (simp only [List.getElem?_toArray, List.getElem?_cons_succ, List.getElem?_cons_zero]; rfl)); (case hQ334 => exact fun _ _ _ h => h); (case hw334 => rfl))
  (try simp only [Act.put, List.setIfInBounds_toArray, List.set_cons_zero, List.set_cons_succ])
  first | (refine wpAnyH_take (i := 56) (oi := ?oi335) (v := ?v335) ?hi335 (by kernel_rfl) (by kernel_rfl) (by kernel_rfl) ?hQ335 (Or.inl ⟨?hw335, ?hy335⟩) (by assumption) ?rest335; (case hi335 => (simp only [List.getElem?_toArray, List.getElem?_cons_succ, List.getElem?_cons_zero]; rfl)); (case hQ335 => exact fun _ _ _ h => h); (case hw335 => rfl); (case hy335 => ((intro w hSw); (try dsimp only at hSw); go_simp; (try with_reducible rfl)))) | (refine wpAnyH_take (i := 56) (oi := ?oi336) (v := undef) ?hi336 (by kernel_rfl) (by kernel_rfl) (by kernel_rfl) ?hQ336 (Or.inr ⟨?hw336, rfl⟩) (by assumption) ?rest336; (case hi336 => (simp only [List.getElem?_toArray, List.getElem?_cons_succ, List.getElem?_cons_zero]; rfl)); (case hQ336 => exact fun _ _ _ h => h); (case hw336 => rfl))
  (try simp only [Act.put, List.setIfInBounds_toArray, List.set_cons_zero, List.set_cons_succ])
  first | (refine wpAnyH_take (i := 57) (oi := ?oi337) (v := ?v337) ?hi337 (by kernel_rfl) (by kernel_rfl) (by kernel_rfl) ?hQ337 (Or.inl ⟨?hw337, ?hy337⟩) (by assumption) ?rest337; (case hi337 => (simp only [List.getElem?_toArray, List.getElem?_cons_succ, List.getElem?_cons_zero]; rfl)); (case hQ337 => exact fun _ _ _ h => h); (case hw337 => rfl); (case hy337 => ((intro w hSw); (try dsimp only at hSw); go_simp; (try with_reducible rfl)))) | (refine wpAnyH_take (i := 57) (oi := ?oi338) (v := undef) ?hi338 (by kernel_rfl) (by kernel_rfl) (by kernel_rfl) ?hQ338 (Or.inr ⟨?hw338, rfl⟩) (by assumption) ?rest338; (case hi338 => (simp only [List.getElem?_toArray, List.getElem?_cons_succ, List.getElem?_cons_zero]; rfl)); (case hQ338 => exact fun _ _ _ h => h); (case hw338 => rfl))
  (try simp only [Act.put, List.setIfInBounds_toArray, List.set_cons_zero, List.set_cons_succ])
  first | (refine wpAnyH_take (i := 58) (oi := ?oi339) (v := ?v339) ?hi339 (by kernel_rfl) (by kernel_rfl) (by kernel_rfl) ?hQ339 (Or.inl ⟨?hw339, ?hy339⟩) (by assumption) ?rest339; (case hi339 => (simp only [List.getElem?_toArray, List.getElem?_cons_succ, List.getElem?_cons_zero]; rfl)); (case hQ339 => exact fun _ _ _ h => h); (case hw339 => rfl); (case hy339 => ((intro w hSw); (try dsimp only at hSw); go_simp; (try with_reducible rfl)))) | (refine wpAnyH_take (i := 58) (oi := ?oi340) (v := undef) ?hi340 (by kernel_rfl) (by kernel_rfl) (by kernel_rfl) ?hQ340 (Or.inr ⟨?hw340, rfl⟩) (by assumption) ?rest340; (case hi340 => (simp only [List.getElem?_toArray, List.getElem?_cons_succ, List.getElem?_cons_zero]; rfl)); (case hQ340 => exact fun _ _ _ h => h); (case hw340 => rfl))
  (try simp only [Act.put, List.setIfInBounds_toArray, List.set_cons_zero, List.set_cons_succ])
  refine wpAnyH_done (by kernel_rfl) ?_ _
  obtain ⟨s0, s1, s2, s3, s4, s5, s6, s7, s8, s9, s10, s11, s12, s13⟩ := hHeld
  go_wp2
  go_ret
  exact ⟨rfl, HW.out⟩
set_option maxHeartbeats 4000000 in
set_option maxRecDepth 100000 in
theorem walk_npkp (w : World) (f0 : Value) (a1 : Option Addr) (t c1 : Nat) (f2 : Value) (a3 : Option Addr) (n c3 : Nat) (f4 f5 : Value) (k s m : Int) (ht : t ≤ 40) (hc : (progCf t n k s m).ok) (gn : 0 < n) (gk : 0 < k) : Calls Try.prog 10 #[.agg #[f0, .slice a1 t c1, f2, .slice a3 n c3, f4, f5, .int .i64 k], .int .i64 s, .int .i64 m] w fun e w' => e = .returned (.bool true) ∧ Below w.heap.size w w' := by
  obtain ⟨L, hL⟩ : ∃ L, L = layOf (progCf t n k s m) := ⟨_, rfl⟩
  have hlok : L.ok := by
    obtain ⟨⟨h1, h2⟩, ⟨h3, h4⟩, ⟨h5, h6⟩, ⟨h7, h8⟩, ⟨h9, h10⟩⟩ := hc
    rw [hL]; unfold Ly.ok layOf progCf at *; simp only at *; omega
  have hx := hc
  obtain ⟨⟨h1, h2⟩, ⟨h3, h4⟩, ⟨h5, h6⟩, ⟨h7, h8⟩, ⟨h9, h10⟩⟩ := hx
  simp only [progCf] at h1 h2 h3 h4 h5 h6 h7 h8 h9 h10
  obtain ⟨v1, hv1⟩ : ∃ v, v = atStatus L ((t : Int) - 1) := ⟨_, rfl⟩
  have g1 : 0 ≤ v1 := by rw [hv1, hL]; unfold atStatus cellN layOf progCf; simp only; rw [if_neg (by omega)]; omega
  have H1 : Hid (∀ w, Calls Try.prog 36 #[L.v, .int .i64 ((t : Int) - 1)] w fun e w' => e = .returned (.int .i64 v1) ∧ Below w.heap.size w w') := Lib.hid (fun w => by rw [hv1]; exact status_any L _ w hlok)
  have H2 : Hid (∀ w, Calls Try.prog 36 #[L.v, .int .i64 (t : Nat)] w fun e w' => e = .returned (.int .i64 (-1)) ∧ Below w.heap.size w w') := Lib.hid (fun w => by
    have := status_any L t w hlok
    rwa [show atStatus L t = -1 by rw [hL]; unfold atStatus cellN layOf progCf; simp only; rw [if_pos (by omega)]] at this)
  have H3 : Hid (∀ w, Calls Try.prog 37 #[L.v, .int .i64 (n : Nat)] w fun e w' => e = .returned (.int .i64 (-1)) ∧ Below w.heap.size w w') := Lib.hid (fun w => by
    have := word_any L n w hlok
    rwa [show atWord L n = -1 by rw [hL]; unfold atWord cellN layOf progCf; simp only; rw [if_pos (by omega)]] at this)
  have H5 : Hid (∀ w, Calls Try.prog 39 #[L.v, .int .i64 k] w fun e w' => e = .returned (.int .i64 (-1)) ∧ Below w.heap.size w w') := Lib.hid (fun w => by
    have := lock_any L k w hlok
    rwa [show atLock L k = -1 by rw [hL]; unfold atLock cellN layOf progCf; simp only; rw [if_pos (by omega)]] at this)
  have g4 : 0 ≤ L.size ∧ L.size ≤ 1000 := by rw [hL]; unfold layOf progCf; simp only; omega
  obtain ⟨g4, g4'⟩ := g4
  have H4 : Hid (∀ w, Calls Try.prog 38 #[L.v, .int .i64 ((n : Int) - 1)] w fun e w' => e = .returned (.int .i64 (L.size - 1)) ∧ Below w.heap.size w w') := Lib.hid (fun w => by
    have := waiters_any L ((n : Int) - 1) w hlok
    rwa [show atWaiters L ((n : Int) - 1) = L.size - 1 by rw [hL]; unfold atWaiters cellN layOf progCf; simp only; rw [if_neg (by omega)]; omega] at this)
  have gn' : ((n : Int) == 0) = false := by simp; omega
  have E4 := Lib.hid (show IntKind.i64.wrap (L.size - 1) = L.size - 1 from IntWalk.i64_in _ (by omega))
  obtain ⟨v6, hv6⟩ : ∃ v, v = atLock L (k - 1) := ⟨_, rfl⟩
  have g6 : 0 ≤ v6 := by rw [hv6, hL]; unfold atLock cellN layOf progCf; simp only; rw [if_neg (by omega)]; omega
  have H6 : Hid (∀ w, Calls Try.prog 39 #[L.v, .int .i64 (k - 1)] w fun e w' => e = .returned (.int .i64 v6) ∧ Below w.heap.size w w') := Lib.hid (fun w => by rw [hv6]; exact lock_any L _ w hlok)
  have gk' : (k == 0) = false := by simp; omega
  have HO : Hid (∀ w, Calls Try.prog 25 #[(progCf t n k s m).v] w fun e w' => e = .returned (.tuple #[L.v, .int .i64 0]) ∧ Below w.heap.size w w') := Lib.hid (fun w => by rw [hL]; exact of_t _ w hc)
  have HF := Lib.hid (fun w => for_t f0 (.slice a1 t c1) f2 (.slice a3 n c3) f4 f5 t n k s m w ⟨_, _, rfl⟩ ⟨_, _, rfl⟩ hc)
  have HR := Lib.hid (fun w => rfor_t f0 (.slice a1 t c1) f2 (.slice a3 n c3) f4 f5 t n k s m w ⟨_, _, rfl⟩ ⟨_, _, rfl⟩ hc)
  have hne : ∀ w, (binOp .neq 51 (progCf t n k s m).v (progCf t n k s m).v).run Try.prog w = .ok (.bool false) w := fun w => by rw [conf_neq, (cfEq_iff _ _).2 rfl]; rfl
  unfold Ly.v at HO H1 H2 H3 H5 H4 H6
  unfold progCf at HO HF HR hne
  unfold Cf.v at HO HF HR hne
  have ht' : decide ((40 : Int) < t) = false := by simp; omega
  have hn' : decide ((60 : Int) < n) = false := by simp; omega
  have ht2 : (t : Int) ≤ 4 := h2
  have E1 := Lib.hid (show IntKind.i64.wrap ((t : Int) - 1) = (t : Int) - 1 from IntWalk.i64_in _ (by omega))
  have E2 := Lib.hid (show IntKind.i64.wrap ((n : Int) - 1) = (n : Int) - 1 from IntWalk.i64_in _ (by omega))
  have E3 := Lib.hid (show IntKind.i64.wrap (k - 1) = k - 1 from IntWalk.i64_in _ (by omega))
  have hn2 : (n : Int) ≤ 32 := h4
  clear hv1 hv6 hL hlok hc h7 h8 h9 h10
  go_enter Try.func10, Try.ntmps10
  go_wp2_with fail
  ((with_reducible refine (sane15_any _).mono ?_); rintro e w1 ⟨rfl, hb⟩)
  have HW := Lib.hid (below_alloc1 hb)
  have zz : w.heap.size + 1 ≤ w1.heap.size := by have := hb.size; (try simp at this); omega
  have ccq0 : w1.cell? ⟨w.heap.size, 0, none⟩ = some (f0) := cel_below hb (by rw [World.cell?_alloc_at _ _ _ _ (by simp)]; rfl)
  have ccq1 : w1.cell? ⟨w.heap.size, 1, none⟩ = some (.slice a1 t c1) := cel_below hb (by rw [World.cell?_alloc_at _ _ _ _ (by simp)]; rfl)
  have ccq2 : w1.cell? ⟨w.heap.size, 2, none⟩ = some (f2) := cel_below hb (by rw [World.cell?_alloc_at _ _ _ _ (by simp)]; rfl)
  have ccq3 : w1.cell? ⟨w.heap.size, 3, none⟩ = some (.slice a3 n c3) := cel_below hb (by rw [World.cell?_alloc_at _ _ _ _ (by simp)]; rfl)
  have ccq4 : w1.cell? ⟨w.heap.size, 4, none⟩ = some (f4) := cel_below hb (by rw [World.cell?_alloc_at _ _ _ _ (by simp)]; rfl)
  have ccq5 : w1.cell? ⟨w.heap.size, 5, none⟩ = some (f5) := cel_below hb (by rw [World.cell?_alloc_at _ _ _ _ (by simp)]; rfl)
  have ccq6 : w1.cell? ⟨w.heap.size, 6, none⟩ = some (.int .i64 k) := cel_below hb (by rw [World.cell?_alloc_at _ _ _ _ (by simp)]; rfl)
  have z0 : w.heap.size < w1.heap.size := by omega
  clear hb zz
  go_wp2_with fail
  ((with_reducible refine (HF.out _).mono ?_); rintro e w2 ⟨rfl, hb⟩)
  replace HW := Lib.hid (below_step HW.out (hb))
  have zz : w1.heap.size + 0 ≤ w2.heap.size := by have := hb.size; (try simp at this); omega
  replace ccq0 : w2.cell? ⟨w.heap.size, 0, none⟩ = some (f0) := cel_below hb (ccq0)
  replace ccq1 : w2.cell? ⟨w.heap.size, 1, none⟩ = some (.slice a1 t c1) := cel_below hb (ccq1)
  replace ccq2 : w2.cell? ⟨w.heap.size, 2, none⟩ = some (f2) := cel_below hb (ccq2)
  replace ccq3 : w2.cell? ⟨w.heap.size, 3, none⟩ = some (.slice a3 n c3) := cel_below hb (ccq3)
  replace ccq4 : w2.cell? ⟨w.heap.size, 4, none⟩ = some (f4) := cel_below hb (ccq4)
  replace ccq5 : w2.cell? ⟨w.heap.size, 5, none⟩ = some (f5) := cel_below hb (ccq5)
  replace ccq6 : w2.cell? ⟨w.heap.size, 6, none⟩ = some (.int .i64 k) := cel_below hb (ccq6)
  replace z0 : w.heap.size < w2.heap.size := by omega
  clear hb zz
  go_wp2_with fail
  ((with_reducible refine (HR.out _).mono ?_); rintro e w3 ⟨rfl, hb⟩)
  replace HW := Lib.hid (below_step HW.out (below_alloc1 hb))
  have zz : w2.heap.size + 1 ≤ w3.heap.size := by have := hb.size; (try simp at this); omega
  replace ccq0 : w3.cell? ⟨w.heap.size, 0, none⟩ = some (f0) := cel_below hb (cell_alloc _ (ccq0))
  replace ccq1 : w3.cell? ⟨w.heap.size, 1, none⟩ = some (.slice a1 t c1) := cel_below hb (cell_alloc _ (ccq1))
  replace ccq2 : w3.cell? ⟨w.heap.size, 2, none⟩ = some (f2) := cel_below hb (cell_alloc _ (ccq2))
  replace ccq3 : w3.cell? ⟨w.heap.size, 3, none⟩ = some (.slice a3 n c3) := cel_below hb (cell_alloc _ (ccq3))
  replace ccq4 : w3.cell? ⟨w.heap.size, 4, none⟩ = some (f4) := cel_below hb (cell_alloc _ (ccq4))
  replace ccq5 : w3.cell? ⟨w.heap.size, 5, none⟩ = some (f5) := cel_below hb (cell_alloc _ (ccq5))
  replace ccq6 : w3.cell? ⟨w.heap.size, 6, none⟩ = some (.int .i64 k) := cel_below hb (cell_alloc _ (ccq6))
  replace z0 : w.heap.size < w3.heap.size := by omega
  have aq0 : w3.cell? ⟨w2.heap.size, 0, none⟩ = some (.int .i64 ((t : Nat) : Int)) := cel_below hb (by rw [World.cell?_alloc_at _ _ _ _ (by simp)]; rfl)
  have aq1 : w3.cell? ⟨w2.heap.size, 1, none⟩ = some (.int .i64 ((n : Nat) : Int)) := cel_below hb (by rw [World.cell?_alloc_at _ _ _ _ (by simp)]; rfl)
  have aq2 : w3.cell? ⟨w2.heap.size, 2, none⟩ = some (.int .i64 k) := cel_below hb (by rw [World.cell?_alloc_at _ _ _ _ (by simp)]; rfl)
  have aq3 : w3.cell? ⟨w2.heap.size, 3, none⟩ = some (.int .i64 s) := cel_below hb (by rw [World.cell?_alloc_at _ _ _ _ (by simp)]; rfl)
  have aq4 : w3.cell? ⟨w2.heap.size, 4, none⟩ = some (.int .i64 m) := cel_below hb (by rw [World.cell?_alloc_at _ _ _ _ (by simp)]; rfl)
  have z1 : w2.heap.size < w3.heap.size := by omega
  clear hb zz
  go_wp2_with fail
  ((with_reducible refine (HO.out _).mono ?_); rintro e w4 ⟨rfl, hb⟩)
  replace HW := Lib.hid (below_step HW.out (below_alloc1 hb))
  have zz : w3.heap.size + 1 ≤ w4.heap.size := by have := hb.size; (try simp at this); omega
  replace ccq0 : w4.cell? ⟨w.heap.size, 0, none⟩ = some (f0) := cel_below hb (cell_alloc _ (ccq0))
  replace ccq1 : w4.cell? ⟨w.heap.size, 1, none⟩ = some (.slice a1 t c1) := cel_below hb (cell_alloc _ (ccq1))
  replace ccq2 : w4.cell? ⟨w.heap.size, 2, none⟩ = some (f2) := cel_below hb (cell_alloc _ (ccq2))
  replace ccq3 : w4.cell? ⟨w.heap.size, 3, none⟩ = some (.slice a3 n c3) := cel_below hb (cell_alloc _ (ccq3))
  replace ccq4 : w4.cell? ⟨w.heap.size, 4, none⟩ = some (f4) := cel_below hb (cell_alloc _ (ccq4))
  replace ccq5 : w4.cell? ⟨w.heap.size, 5, none⟩ = some (f5) := cel_below hb (cell_alloc _ (ccq5))
  replace ccq6 : w4.cell? ⟨w.heap.size, 6, none⟩ = some (.int .i64 k) := cel_below hb (cell_alloc _ (ccq6))
  replace aq0 : w4.cell? ⟨w2.heap.size, 0, none⟩ = some (.int .i64 ((t : Nat) : Int)) := cel_below hb (cell_alloc _ (aq0))
  replace aq1 : w4.cell? ⟨w2.heap.size, 1, none⟩ = some (.int .i64 ((n : Nat) : Int)) := cel_below hb (cell_alloc _ (aq1))
  replace aq2 : w4.cell? ⟨w2.heap.size, 2, none⟩ = some (.int .i64 k) := cel_below hb (cell_alloc _ (aq2))
  replace aq3 : w4.cell? ⟨w2.heap.size, 3, none⟩ = some (.int .i64 s) := cel_below hb (cell_alloc _ (aq3))
  replace aq4 : w4.cell? ⟨w2.heap.size, 4, none⟩ = some (.int .i64 m) := cel_below hb (cell_alloc _ (aq4))
  replace z0 : w.heap.size < w4.heap.size := by omega
  replace z1 : w2.heap.size < w4.heap.size := by omega
  clear hb zz
  go_wp2_with fail
  obtain ⟨wr5, hwr⟩ : ∃ W, W = w4.alloc (.cells #[.int .i64 L.c.t, .int .i64 L.c.l, .int .i64 L.c.k, .int .i64 L.c.s, .int .i64 L.c.m, .int .i64 L.clock, .int .i64 L.stamps, .int .i64 L.log, .int .i64 L.fin, .int .i64 L.thread, .int .i64 L.lock, .int .i64 L.loc, .int .i64 L.size] 53) := ⟨_, rfl⟩
  rw [← hwr]
  have hb : Below w4.heap.size w4 wr5 := by rw [hwr]; exact (Below.alloc (Below.refl _ w4) (by first | exact Nat.le_refl _ | (simp; omega) | simp) _)
  have zz : w4.heap.size + 1 ≤ wr5.heap.size := by rw [hwr]; simp
  replace HW := Lib.hid (below_step HW.out hb)
  replace ccq0 : wr5.cell? ⟨w.heap.size, 0, none⟩ = some (f0) := cel_below hb ccq0
  replace ccq1 : wr5.cell? ⟨w.heap.size, 1, none⟩ = some (.slice a1 t c1) := cel_below hb ccq1
  replace ccq2 : wr5.cell? ⟨w.heap.size, 2, none⟩ = some (f2) := cel_below hb ccq2
  replace ccq3 : wr5.cell? ⟨w.heap.size, 3, none⟩ = some (.slice a3 n c3) := cel_below hb ccq3
  replace ccq4 : wr5.cell? ⟨w.heap.size, 4, none⟩ = some (f4) := cel_below hb ccq4
  replace ccq5 : wr5.cell? ⟨w.heap.size, 5, none⟩ = some (f5) := cel_below hb ccq5
  replace ccq6 : wr5.cell? ⟨w.heap.size, 6, none⟩ = some (.int .i64 k) := cel_below hb ccq6
  replace z0 : w.heap.size < wr5.heap.size := by omega
  replace z1 : w2.heap.size < wr5.heap.size := by omega
  have lq0 : wr5.cell? ⟨w4.heap.size, 0, none⟩ = some (.int .i64 L.c.t) := by rw [hwr]; exact by rw [World.cell?_alloc_at _ _ _ _ (by simp)]; rfl
  have lq1 : wr5.cell? ⟨w4.heap.size, 1, none⟩ = some (.int .i64 L.c.l) := by rw [hwr]; exact by rw [World.cell?_alloc_at _ _ _ _ (by simp)]; rfl
  have lq2 : wr5.cell? ⟨w4.heap.size, 2, none⟩ = some (.int .i64 L.c.k) := by rw [hwr]; exact by rw [World.cell?_alloc_at _ _ _ _ (by simp)]; rfl
  have lq3 : wr5.cell? ⟨w4.heap.size, 3, none⟩ = some (.int .i64 L.c.s) := by rw [hwr]; exact by rw [World.cell?_alloc_at _ _ _ _ (by simp)]; rfl
  have lq4 : wr5.cell? ⟨w4.heap.size, 4, none⟩ = some (.int .i64 L.c.m) := by rw [hwr]; exact by rw [World.cell?_alloc_at _ _ _ _ (by simp)]; rfl
  have lq5 : wr5.cell? ⟨w4.heap.size, 5, none⟩ = some (.int .i64 L.clock) := by rw [hwr]; exact by rw [World.cell?_alloc_at _ _ _ _ (by simp)]; rfl
  have lq6 : wr5.cell? ⟨w4.heap.size, 6, none⟩ = some (.int .i64 L.stamps) := by rw [hwr]; exact by rw [World.cell?_alloc_at _ _ _ _ (by simp)]; rfl
  have lq7 : wr5.cell? ⟨w4.heap.size, 7, none⟩ = some (.int .i64 L.log) := by rw [hwr]; exact by rw [World.cell?_alloc_at _ _ _ _ (by simp)]; rfl
  have lq8 : wr5.cell? ⟨w4.heap.size, 8, none⟩ = some (.int .i64 L.fin) := by rw [hwr]; exact by rw [World.cell?_alloc_at _ _ _ _ (by simp)]; rfl
  have lq9 : wr5.cell? ⟨w4.heap.size, 9, none⟩ = some (.int .i64 L.thread) := by rw [hwr]; exact by rw [World.cell?_alloc_at _ _ _ _ (by simp)]; rfl
  have lq10 : wr5.cell? ⟨w4.heap.size, 10, none⟩ = some (.int .i64 L.lock) := by rw [hwr]; exact by rw [World.cell?_alloc_at _ _ _ _ (by simp)]; rfl
  have lq11 : wr5.cell? ⟨w4.heap.size, 11, none⟩ = some (.int .i64 L.loc) := by rw [hwr]; exact by rw [World.cell?_alloc_at _ _ _ _ (by simp)]; rfl
  have lq12 : wr5.cell? ⟨w4.heap.size, 12, none⟩ = some (.int .i64 L.size) := by rw [hwr]; exact by rw [World.cell?_alloc_at _ _ _ _ (by simp)]; rfl
  have z2 : w4.heap.size < wr5.heap.size := by omega
  clear hb zz hwr
  have e1 := E1.out
  have e2 := E2.out
  have e3 := E3.out
  have e4 := E4.out
  refine wp_region_held_drew (S := fun W => W.cell? ⟨w4.heap.size, 0, none⟩ = some (.int .i64 L.c.t) ∧ W.cell? ⟨w4.heap.size, 1, none⟩ = some (.int .i64 L.c.l) ∧ W.cell? ⟨w4.heap.size, 2, none⟩ = some (.int .i64 L.c.k) ∧ W.cell? ⟨w4.heap.size, 3, none⟩ = some (.int .i64 L.c.s) ∧ W.cell? ⟨w4.heap.size, 4, none⟩ = some (.int .i64 L.c.m) ∧ W.cell? ⟨w4.heap.size, 5, none⟩ = some (.int .i64 L.clock) ∧ W.cell? ⟨w4.heap.size, 6, none⟩ = some (.int .i64 L.stamps) ∧ W.cell? ⟨w4.heap.size, 7, none⟩ = some (.int .i64 L.log) ∧ W.cell? ⟨w4.heap.size, 8, none⟩ = some (.int .i64 L.fin) ∧ W.cell? ⟨w4.heap.size, 9, none⟩ = some (.int .i64 L.thread) ∧ W.cell? ⟨w4.heap.size, 10, none⟩ = some (.int .i64 L.lock) ∧ W.cell? ⟨w4.heap.size, 11, none⟩ = some (.int .i64 L.loc) ∧ W.cell? ⟨w4.heap.size, 12, none⟩ = some (.int .i64 L.size) ∧ W.cell? ⟨w.heap.size, 6, none⟩ = some (.int .i64 k)) (by kernel_rfl) ?_ (fun hHeld => ?_)
  · (try dsimp only); exact ⟨by first | assumption | go_simp, by first | assumption | go_simp, by first | assumption | go_simp, by first | assumption | go_simp, by first | assumption | go_simp, by first | assumption | go_simp, by first | assumption | go_simp, by first | assumption | go_simp, by first | assumption | go_simp, by first | assumption | go_simp, by first | assumption | go_simp, by first | assumption | go_simp, by first | assumption | go_simp, by first | assumption | go_simp⟩
  replace HW := Lib.hid (below_drews HW.out 1)
  first | (refine wpAnyH_take (i := 0) (oi := ?oi341) (v := ?v341) ?hi341 (by kernel_rfl) (by kernel_rfl) (by kernel_rfl) ?hQ341 (Or.inl ⟨?hw341, ?hy341⟩) (by assumption) ?rest341; (case hi341 => (simp only [List.getElem?_toArray, List.getElem?_cons_zero]; rfl)); (case hQ341 => exact fun _ _ _ h => h); (case hw341 => rfl); (case hy341 => ((intro w hSw); (try dsimp only at hSw); go_simp; (try with_reducible rfl)))) | (refine wpAnyH_take (i := 0) (oi := ?oi342) (v := undef) ?hi342 (by kernel_rfl) (by kernel_rfl) (by kernel_rfl) ?hQ342 (Or.inr ⟨?hw342, rfl⟩) (by assumption) ?rest342; (case hi342 => (simp only [List.getElem?_toArray, List.getElem?_cons_zero]; rfl)); (case hQ342 => exact fun _ _ _ h => h); (case hw342 => rfl))
  (try simp only [Act.put, List.setIfInBounds_toArray, List.set_cons_zero, List.set_cons_succ])
  first | (refine wpAnyH_take (i := 1) (oi := ?oi343) (v := ?v343) ?hi343 (by kernel_rfl) (by kernel_rfl) (by kernel_rfl) ?hQ343 (Or.inl ⟨?hw343, ?hy343⟩) (by assumption) ?rest343; (case hi343 => (simp only [List.getElem?_toArray, List.getElem?_cons_succ, List.getElem?_cons_zero]; rfl)); (case hQ343 => exact fun _ _ _ h => h); (case hw343 => rfl); (case hy343 => ((intro w hSw); (try dsimp only at hSw); go_simp; (try with_reducible rfl)))) | (refine wpAnyH_take (i := 1) (oi := ?oi344) (v := undef) ?hi344 (by kernel_rfl) (by kernel_rfl) (by kernel_rfl) ?hQ344 (Or.inr ⟨?hw344, rfl⟩) (by assumption) ?rest344; (case hi344 => (simp only [List.getElem?_toArray, List.getElem?_cons_succ, List.getElem?_cons_zero]; rfl)); (case hQ344 => exact fun _ _ _ h => h); (case hw344 => rfl))
  (try simp only [Act.put, List.setIfInBounds_toArray, List.set_cons_zero, List.set_cons_succ])
  first | (refine wpAnyH_take (i := 2) (oi := ?oi345) (v := ?v345) ?hi345 (by kernel_rfl) (by kernel_rfl) (by kernel_rfl) ?hQ345 (Or.inl ⟨?hw345, ?hy345⟩) (by assumption) ?rest345; (case hi345 => (simp only [List.getElem?_toArray, List.getElem?_cons_succ, List.getElem?_cons_zero]; rfl)); (case hQ345 => exact fun _ _ _ h => h); (case hw345 => rfl); (case hy345 => ((intro w hSw); (try dsimp only at hSw); go_simp; (try with_reducible rfl)))) | (refine wpAnyH_take (i := 2) (oi := ?oi346) (v := undef) ?hi346 (by kernel_rfl) (by kernel_rfl) (by kernel_rfl) ?hQ346 (Or.inr ⟨?hw346, rfl⟩) (by assumption) ?rest346; (case hi346 => (simp only [List.getElem?_toArray, List.getElem?_cons_succ, List.getElem?_cons_zero]; rfl)); (case hQ346 => exact fun _ _ _ h => h); (case hw346 => rfl))
  (try simp only [Act.put, List.setIfInBounds_toArray, List.set_cons_zero, List.set_cons_succ])
  first | (refine wpAnyH_take (i := 3) (oi := ?oi347) (v := ?v347) ?hi347 (by kernel_rfl) (by kernel_rfl) (by kernel_rfl) ?hQ347 (Or.inl ⟨?hw347, ?hy347⟩) (by assumption) ?rest347; (case hi347 => (simp only [List.getElem?_toArray, List.getElem?_cons_succ, List.getElem?_cons_zero]; rfl)); (case hQ347 => exact fun _ _ _ h => h); (case hw347 => rfl); (case hy347 => ((intro w hSw); (try dsimp only at hSw); go_simp; (try with_reducible rfl)))) | (refine wpAnyH_take (i := 3) (oi := ?oi348) (v := undef) ?hi348 (by kernel_rfl) (by kernel_rfl) (by kernel_rfl) ?hQ348 (Or.inr ⟨?hw348, rfl⟩) (by assumption) ?rest348; (case hi348 => (simp only [List.getElem?_toArray, List.getElem?_cons_succ, List.getElem?_cons_zero]; rfl)); (case hQ348 => exact fun _ _ _ h => h); (case hw348 => rfl))
  (try simp only [Act.put, List.setIfInBounds_toArray, List.set_cons_zero, List.set_cons_succ])
  first | (refine wpAnyH_take (i := 4) (oi := ?oi349) (v := ?v349) ?hi349 (by kernel_rfl) (by kernel_rfl) (by kernel_rfl) ?hQ349 (Or.inl ⟨?hw349, ?hy349⟩) (by assumption) ?rest349; (case hi349 => (simp only [List.getElem?_toArray, List.getElem?_cons_succ, List.getElem?_cons_zero]; rfl)); (case hQ349 => exact fun _ _ _ h => h); (case hw349 => rfl); (case hy349 => ((intro w hSw); (try dsimp only at hSw); go_simp; (try with_reducible rfl)))) | (refine wpAnyH_take (i := 4) (oi := ?oi350) (v := undef) ?hi350 (by kernel_rfl) (by kernel_rfl) (by kernel_rfl) ?hQ350 (Or.inr ⟨?hw350, rfl⟩) (by assumption) ?rest350; (case hi350 => (simp only [List.getElem?_toArray, List.getElem?_cons_succ, List.getElem?_cons_zero]; rfl)); (case hQ350 => exact fun _ _ _ h => h); (case hw350 => rfl))
  (try simp only [Act.put, List.setIfInBounds_toArray, List.set_cons_zero, List.set_cons_succ])
  first | (refine wpAnyH_take (i := 5) (oi := ?oi351) (v := ?v351) ?hi351 (by kernel_rfl) (by kernel_rfl) (by kernel_rfl) ?hQ351 (Or.inl ⟨?hw351, ?hy351⟩) (by assumption) ?rest351; (case hi351 => (simp only [List.getElem?_toArray, List.getElem?_cons_succ, List.getElem?_cons_zero]; rfl)); (case hQ351 => exact fun _ _ _ h => h); (case hw351 => rfl); (case hy351 => ((intro w hSw); (try dsimp only at hSw); go_simp; (try with_reducible rfl)))) | (refine wpAnyH_take (i := 5) (oi := ?oi352) (v := undef) ?hi352 (by kernel_rfl) (by kernel_rfl) (by kernel_rfl) ?hQ352 (Or.inr ⟨?hw352, rfl⟩) (by assumption) ?rest352; (case hi352 => (simp only [List.getElem?_toArray, List.getElem?_cons_succ, List.getElem?_cons_zero]; rfl)); (case hQ352 => exact fun _ _ _ h => h); (case hw352 => rfl))
  (try simp only [Act.put, List.setIfInBounds_toArray, List.set_cons_zero, List.set_cons_succ])
  first | (refine wpAnyH_take (i := 6) (oi := ?oi353) (v := ?v353) ?hi353 (by kernel_rfl) (by kernel_rfl) (by kernel_rfl) ?hQ353 (Or.inl ⟨?hw353, ?hy353⟩) (by assumption) ?rest353; (case hi353 => (simp only [List.getElem?_toArray, List.getElem?_cons_succ, List.getElem?_cons_zero]; rfl)); (case hQ353 => exact fun _ _ _ h => h); (case hw353 => rfl); (case hy353 => ((intro w hSw); (try dsimp only at hSw); go_simp; (try with_reducible rfl)))) | (refine wpAnyH_take (i := 6) (oi := ?oi354) (v := undef) ?hi354 (by kernel_rfl) (by kernel_rfl) (by kernel_rfl) ?hQ354 (Or.inr ⟨?hw354, rfl⟩) (by assumption) ?rest354; (case hi354 => (simp only [List.getElem?_toArray, List.getElem?_cons_succ, List.getElem?_cons_zero]; rfl)); (case hQ354 => exact fun _ _ _ h => h); (case hw354 => rfl))
  (try simp only [Act.put, List.setIfInBounds_toArray, List.set_cons_zero, List.set_cons_succ])
  first | (refine wpAnyH_take (i := 7) (oi := ?oi355) (v := ?v355) ?hi355 (by kernel_rfl) (by kernel_rfl) (by kernel_rfl) ?hQ355 (Or.inl ⟨?hw355, ?hy355⟩) (by assumption) ?rest355; (case hi355 => (simp only [List.getElem?_toArray, List.getElem?_cons_succ, List.getElem?_cons_zero]; rfl)); (case hQ355 => exact fun _ _ _ h => h); (case hw355 => rfl); (case hy355 => ((intro w hSw); (try dsimp only at hSw); go_simp; (try with_reducible rfl)))) | (refine wpAnyH_take (i := 7) (oi := ?oi356) (v := undef) ?hi356 (by kernel_rfl) (by kernel_rfl) (by kernel_rfl) ?hQ356 (Or.inr ⟨?hw356, rfl⟩) (by assumption) ?rest356; (case hi356 => (simp only [List.getElem?_toArray, List.getElem?_cons_succ, List.getElem?_cons_zero]; rfl)); (case hQ356 => exact fun _ _ _ h => h); (case hw356 => rfl))
  (try simp only [Act.put, List.setIfInBounds_toArray, List.set_cons_zero, List.set_cons_succ])
  first | (refine wpAnyH_take (i := 8) (oi := ?oi357) (v := ?v357) ?hi357 (by kernel_rfl) (by kernel_rfl) (by kernel_rfl) ?hQ357 (Or.inl ⟨?hw357, ?hy357⟩) (by assumption) ?rest357; (case hi357 => (simp only [List.getElem?_toArray, List.getElem?_cons_succ, List.getElem?_cons_zero]; rfl)); (case hQ357 => exact fun _ _ _ h => h); (case hw357 => rfl); (case hy357 => ((intro w hSw); (try dsimp only at hSw); go_simp; (try with_reducible rfl)))) | (refine wpAnyH_take (i := 8) (oi := ?oi358) (v := undef) ?hi358 (by kernel_rfl) (by kernel_rfl) (by kernel_rfl) ?hQ358 (Or.inr ⟨?hw358, rfl⟩) (by assumption) ?rest358; (case hi358 => (simp only [List.getElem?_toArray, List.getElem?_cons_succ, List.getElem?_cons_zero]; rfl)); (case hQ358 => exact fun _ _ _ h => h); (case hw358 => rfl))
  (try simp only [Act.put, List.setIfInBounds_toArray, List.set_cons_zero, List.set_cons_succ])
  refine wpAnyH_ready (rs := [9]) (by kernel_rfl) (by simp) ?_
  refine AllReadyH.cons (o := ?oi359) ?hi359 (fun K hK => ?rest359) AllReadyH.nil
  (case hi359 => (simp only [List.getElem?_toArray, List.getElem?_cons_succ, List.getElem?_cons_zero]; rfl))
  obtain ⟨s0, s1, s2, s3, s4, s5, s6, s7, s8, s9, s10, s11, s12, s13⟩ := hHeld
  go_simp
  ((with_reducible refine (H1.out _).mono ?_); rintro e wx1 ⟨rfl, hb⟩)
  replace HW := Lib.hid (below_step HW.out hb)
  refine hK.out _ _ ?_ (fun hHeld => ?_)
  · (try dsimp only); exact ⟨cel_below hb s0, cel_below hb s1, cel_below hb s2, cel_below hb s3, cel_below hb s4, cel_below hb s5, cel_below hb s6, cel_below hb s7, cel_below hb s8, cel_below hb s9, cel_below hb s10, cel_below hb s11, cel_below hb s12, cel_below hb s13⟩
  clear hK K hb s0 s1 s2 s3 s4 s5 s6 s7 s8 s9 s10 s11 s12 s13
  (try simp only [Act.put, List.setIfInBounds_toArray, List.set_cons_zero, List.set_cons_succ])
  first | (refine wpAnyH_take (i := 10) (oi := ?oi360) (v := ?v360) ?hi360 (by kernel_rfl) (by kernel_rfl) (by kernel_rfl) ?hQ360 (Or.inl ⟨?hw360, ?hy360⟩) (by assumption) ?rest360; (case hi360 => (simp only [List.getElem?_toArray, List.getElem?_cons_succ, List.getElem?_cons_zero]; rfl)); (case hQ360 => exact fun _ _ _ h => h); (case hw360 => rfl); (case hy360 => ((intro w hSw); (try dsimp only at hSw); go_simp; (try with_reducible rfl)))) | (refine wpAnyH_take (i := 10) (oi := ?oi361) (v := undef) ?hi361 (by kernel_rfl) (by kernel_rfl) (by kernel_rfl) ?hQ361 (Or.inr ⟨?hw361, rfl⟩) (by assumption) ?rest361; (case hi361 => (simp only [List.getElem?_toArray, List.getElem?_cons_succ, List.getElem?_cons_zero]; rfl)); (case hQ361 => exact fun _ _ _ h => h); (case hw361 => rfl))
  (try simp only [Act.put, List.setIfInBounds_toArray, List.set_cons_zero, List.set_cons_succ])
  first | (refine wpAnyH_take (i := 11) (oi := ?oi362) (v := ?v362) ?hi362 (by kernel_rfl) (by kernel_rfl) (by kernel_rfl) ?hQ362 (Or.inl ⟨?hw362, ?hy362⟩) (by assumption) ?rest362; (case hi362 => (simp only [List.getElem?_toArray, List.getElem?_cons_succ, List.getElem?_cons_zero]; rfl)); (case hQ362 => exact fun _ _ _ h => h); (case hw362 => rfl); (case hy362 => ((intro w hSw); (try dsimp only at hSw); go_simp; (try with_reducible rfl)))) | (refine wpAnyH_take (i := 11) (oi := ?oi363) (v := undef) ?hi363 (by kernel_rfl) (by kernel_rfl) (by kernel_rfl) ?hQ363 (Or.inr ⟨?hw363, rfl⟩) (by assumption) ?rest363; (case hi363 => (simp only [List.getElem?_toArray, List.getElem?_cons_succ, List.getElem?_cons_zero]; rfl)); (case hQ363 => exact fun _ _ _ h => h); (case hw363 => rfl))
  (try simp only [Act.put, List.setIfInBounds_toArray, List.set_cons_zero, List.set_cons_succ])
  first | (refine wpAnyH_take (i := 12) (oi := ?oi364) (v := ?v364) ?hi364 (by kernel_rfl) (by kernel_rfl) (by kernel_rfl) ?hQ364 (Or.inl ⟨?hw364, ?hy364⟩) (by assumption) ?rest364; (case hi364 => (simp only [List.getElem?_toArray, List.getElem?_cons_succ, List.getElem?_cons_zero]; rfl)); (case hQ364 => exact fun _ _ _ h => h); (case hw364 => rfl); (case hy364 => ((intro w hSw); (try dsimp only at hSw); go_simp; (try with_reducible rfl)))) | (refine wpAnyH_take (i := 12) (oi := ?oi365) (v := undef) ?hi365 (by kernel_rfl) (by kernel_rfl) (by kernel_rfl) ?hQ365 (Or.inr ⟨?hw365, rfl⟩) (by assumption) ?rest365; (case hi365 => (simp only [List.getElem?_toArray, List.getElem?_cons_succ, List.getElem?_cons_zero]; rfl)); (case hQ365 => exact fun _ _ _ h => h); (case hw365 => rfl))
  (try simp only [Act.put, List.setIfInBounds_toArray, List.set_cons_zero, List.set_cons_succ])
  first | (refine wpAnyH_take (i := 13) (oi := ?oi366) (v := ?v366) ?hi366 (by kernel_rfl) (by kernel_rfl) (by kernel_rfl) ?hQ366 (Or.inl ⟨?hw366, ?hy366⟩) (by assumption) ?rest366; (case hi366 => (simp only [List.getElem?_toArray, List.getElem?_cons_succ, List.getElem?_cons_zero]; rfl)); (case hQ366 => exact fun _ _ _ h => h); (case hw366 => rfl); (case hy366 => ((intro w hSw); (try dsimp only at hSw); go_simp; (try with_reducible rfl)))) | (refine wpAnyH_take (i := 13) (oi := ?oi367) (v := undef) ?hi367 (by kernel_rfl) (by kernel_rfl) (by kernel_rfl) ?hQ367 (Or.inr ⟨?hw367, rfl⟩) (by assumption) ?rest367; (case hi367 => (simp only [List.getElem?_toArray, List.getElem?_cons_succ, List.getElem?_cons_zero]; rfl)); (case hQ367 => exact fun _ _ _ h => h); (case hw367 => rfl))
  (try simp only [Act.put, List.setIfInBounds_toArray, List.set_cons_zero, List.set_cons_succ])
  first | (refine wpAnyH_take (i := 14) (oi := ?oi368) (v := ?v368) ?hi368 (by kernel_rfl) (by kernel_rfl) (by kernel_rfl) ?hQ368 (Or.inl ⟨?hw368, ?hy368⟩) (by assumption) ?rest368; (case hi368 => (simp only [List.getElem?_toArray, List.getElem?_cons_succ, List.getElem?_cons_zero]; rfl)); (case hQ368 => exact fun _ _ _ h => h); (case hw368 => rfl); (case hy368 => ((intro w hSw); (try dsimp only at hSw); go_simp; (try with_reducible rfl)))) | (refine wpAnyH_take (i := 14) (oi := ?oi369) (v := undef) ?hi369 (by kernel_rfl) (by kernel_rfl) (by kernel_rfl) ?hQ369 (Or.inr ⟨?hw369, rfl⟩) (by assumption) ?rest369; (case hi369 => (simp only [List.getElem?_toArray, List.getElem?_cons_succ, List.getElem?_cons_zero]; rfl)); (case hQ369 => exact fun _ _ _ h => h); (case hw369 => rfl))
  (try simp only [Act.put, List.setIfInBounds_toArray, List.set_cons_zero, List.set_cons_succ])
  refine wpAnyH_ready (rs := [15]) (by kernel_rfl) (by simp) ?_
  refine AllReadyH.cons (o := ?oi370) ?hi370 (fun K hK => ?rest370) AllReadyH.nil
  (case hi370 => (simp only [List.getElem?_toArray, List.getElem?_cons_succ, List.getElem?_cons_zero]; rfl))
  obtain ⟨s0, s1, s2, s3, s4, s5, s6, s7, s8, s9, s10, s11, s12, s13⟩ := hHeld
  go_simp
  ((with_reducible refine (H2.out _).mono ?_); rintro e wx2 ⟨rfl, hb⟩)
  replace HW := Lib.hid (below_step HW.out hb)
  refine hK.out _ _ ?_ (fun hHeld => ?_)
  · (try dsimp only); exact ⟨cel_below hb s0, cel_below hb s1, cel_below hb s2, cel_below hb s3, cel_below hb s4, cel_below hb s5, cel_below hb s6, cel_below hb s7, cel_below hb s8, cel_below hb s9, cel_below hb s10, cel_below hb s11, cel_below hb s12, cel_below hb s13⟩
  clear hK K hb s0 s1 s2 s3 s4 s5 s6 s7 s8 s9 s10 s11 s12 s13
  (try simp only [Act.put, List.setIfInBounds_toArray, List.set_cons_zero, List.set_cons_succ])
  first | (refine wpAnyH_take (i := 16) (oi := ?oi371) (v := ?v371) ?hi371 (by kernel_rfl) (by kernel_rfl) (by kernel_rfl) ?hQ371 (Or.inl ⟨?hw371, ?hy371⟩) (by assumption) ?rest371; (case hi371 => (simp only [List.getElem?_toArray, List.getElem?_cons_succ, List.getElem?_cons_zero]; rfl)); (case hQ371 => exact fun _ _ _ h => h); (case hw371 => rfl); (case hy371 => ((intro w hSw); (try dsimp only at hSw); go_simp; (try with_reducible rfl)))) | (refine wpAnyH_take (i := 16) (oi := ?oi372) (v := undef) ?hi372 (by kernel_rfl) (by kernel_rfl) (by kernel_rfl) ?hQ372 (Or.inr ⟨?hw372, rfl⟩) (by assumption) ?rest372; (case hi372 => (simp only [List.getElem?_toArray, List.getElem?_cons_succ, List.getElem?_cons_zero]; rfl)); (case hQ372 => exact fun _ _ _ h => h); (case hw372 => rfl))
  (try simp only [Act.put, List.setIfInBounds_toArray, List.set_cons_zero, List.set_cons_succ])
  first | (refine wpAnyH_take (i := 17) (oi := ?oi373) (v := ?v373) ?hi373 (by kernel_rfl) (by kernel_rfl) (by kernel_rfl) ?hQ373 (Or.inl ⟨?hw373, ?hy373⟩) (by assumption) ?rest373; (case hi373 => (simp only [List.getElem?_toArray, List.getElem?_cons_succ, List.getElem?_cons_zero]; rfl)); (case hQ373 => exact fun _ _ _ h => h); (case hw373 => rfl); (case hy373 => ((intro w hSw); (try dsimp only at hSw); go_simp; (try with_reducible rfl)))) | (refine wpAnyH_take (i := 17) (oi := ?oi374) (v := undef) ?hi374 (by kernel_rfl) (by kernel_rfl) (by kernel_rfl) ?hQ374 (Or.inr ⟨?hw374, rfl⟩) (by assumption) ?rest374; (case hi374 => (simp only [List.getElem?_toArray, List.getElem?_cons_succ, List.getElem?_cons_zero]; rfl)); (case hQ374 => exact fun _ _ _ h => h); (case hw374 => rfl))
  (try simp only [Act.put, List.setIfInBounds_toArray, List.set_cons_zero, List.set_cons_succ])
  first | (refine wpAnyH_take (i := 18) (oi := ?oi375) (v := ?v375) ?hi375 (by kernel_rfl) (by kernel_rfl) (by kernel_rfl) ?hQ375 (Or.inl ⟨?hw375, ?hy375⟩) (by assumption) ?rest375; (case hi375 => (simp only [List.getElem?_toArray, List.getElem?_cons_succ, List.getElem?_cons_zero]; rfl)); (case hQ375 => exact fun _ _ _ h => h); (case hw375 => rfl); (case hy375 => ((intro w hSw); (try dsimp only at hSw); go_simp; (try with_reducible rfl)))) | (refine wpAnyH_take (i := 18) (oi := ?oi376) (v := undef) ?hi376 (by kernel_rfl) (by kernel_rfl) (by kernel_rfl) ?hQ376 (Or.inr ⟨?hw376, rfl⟩) (by assumption) ?rest376; (case hi376 => (simp only [List.getElem?_toArray, List.getElem?_cons_succ, List.getElem?_cons_zero]; rfl)); (case hQ376 => exact fun _ _ _ h => h); (case hw376 => rfl))
  (try simp only [Act.put, List.setIfInBounds_toArray, List.set_cons_zero, List.set_cons_succ])
  first | (refine wpAnyH_take (i := 19) (oi := ?oi377) (v := ?v377) ?hi377 (by kernel_rfl) (by kernel_rfl) (by kernel_rfl) ?hQ377 (Or.inl ⟨?hw377, ?hy377⟩) (by assumption) ?rest377; (case hi377 => (simp only [List.getElem?_toArray, List.getElem?_cons_succ, List.getElem?_cons_zero]; rfl)); (case hQ377 => exact fun _ _ _ h => h); (case hw377 => rfl); (case hy377 => ((intro w hSw); (try dsimp only at hSw); go_simp; (try with_reducible rfl)))) | (refine wpAnyH_take (i := 19) (oi := ?oi378) (v := undef) ?hi378 (by kernel_rfl) (by kernel_rfl) (by kernel_rfl) ?hQ378 (Or.inr ⟨?hw378, rfl⟩) (by assumption) ?rest378; (case hi378 => (simp only [List.getElem?_toArray, List.getElem?_cons_succ, List.getElem?_cons_zero]; rfl)); (case hQ378 => exact fun _ _ _ h => h); (case hw378 => rfl))
  (try simp only [Act.put, List.setIfInBounds_toArray, List.set_cons_zero, List.set_cons_succ])
  first | (refine wpAnyH_take (i := 20) (oi := ?oi379) (v := ?v379) ?hi379 (by kernel_rfl) (by kernel_rfl) (by kernel_rfl) ?hQ379 (Or.inl ⟨?hw379, ?hy379⟩) (by assumption) ?rest379; (case hi379 => (simp only [List.getElem?_toArray, List.getElem?_cons_succ, List.getElem?_cons_zero]; rfl)); (case hQ379 => exact fun _ _ _ h => h); (case hw379 => rfl); (case hy379 => ((intro w hSw); (try dsimp only at hSw); go_simp; (try with_reducible rfl)))) | (refine wpAnyH_take (i := 20) (oi := ?oi380) (v := undef) ?hi380 (by kernel_rfl) (by kernel_rfl) (by kernel_rfl) ?hQ380 (Or.inr ⟨?hw380, rfl⟩) (by assumption) ?rest380; (case hi380 => (simp only [List.getElem?_toArray, List.getElem?_cons_succ, List.getElem?_cons_zero]; rfl)); (case hQ380 => exact fun _ _ _ h => h); (case hw380 => rfl))
  (try simp only [Act.put, List.setIfInBounds_toArray, List.set_cons_zero, List.set_cons_succ])
  refine wpAnyH_ready (rs := [21]) (by kernel_rfl) (by simp) ?_
  refine AllReadyH.cons (o := ?oi381) ?hi381 (fun K hK => ?rest381) AllReadyH.nil
  (case hi381 => (simp only [List.getElem?_toArray, List.getElem?_cons_succ, List.getElem?_cons_zero]; rfl))
  obtain ⟨s0, s1, s2, s3, s4, s5, s6, s7, s8, s9, s10, s11, s12, s13⟩ := hHeld
  go_simp
  ((with_reducible refine (H3.out _).mono ?_); rintro e wx3 ⟨rfl, hb⟩)
  replace HW := Lib.hid (below_step HW.out hb)
  refine hK.out _ _ ?_ (fun hHeld => ?_)
  · (try dsimp only); exact ⟨cel_below hb s0, cel_below hb s1, cel_below hb s2, cel_below hb s3, cel_below hb s4, cel_below hb s5, cel_below hb s6, cel_below hb s7, cel_below hb s8, cel_below hb s9, cel_below hb s10, cel_below hb s11, cel_below hb s12, cel_below hb s13⟩
  clear hK K hb s0 s1 s2 s3 s4 s5 s6 s7 s8 s9 s10 s11 s12 s13
  (try simp only [Act.put, List.setIfInBounds_toArray, List.set_cons_zero, List.set_cons_succ])
  first | (refine wpAnyH_take (i := 22) (oi := ?oi382) (v := ?v382) ?hi382 (by kernel_rfl) (by kernel_rfl) (by kernel_rfl) ?hQ382 (Or.inl ⟨?hw382, ?hy382⟩) (by assumption) ?rest382; (case hi382 => (simp only [List.getElem?_toArray, List.getElem?_cons_succ, List.getElem?_cons_zero]; rfl)); (case hQ382 => exact fun _ _ _ h => h); (case hw382 => rfl); (case hy382 => ((intro w hSw); (try dsimp only at hSw); go_simp; (try with_reducible rfl)))) | (refine wpAnyH_take (i := 22) (oi := ?oi383) (v := undef) ?hi383 (by kernel_rfl) (by kernel_rfl) (by kernel_rfl) ?hQ383 (Or.inr ⟨?hw383, rfl⟩) (by assumption) ?rest383; (case hi383 => (simp only [List.getElem?_toArray, List.getElem?_cons_succ, List.getElem?_cons_zero]; rfl)); (case hQ383 => exact fun _ _ _ h => h); (case hw383 => rfl))
  (try simp only [Act.put, List.setIfInBounds_toArray, List.set_cons_zero, List.set_cons_succ])
  first | (refine wpAnyH_take (i := 23) (oi := ?oi384) (v := ?v384) ?hi384 (by kernel_rfl) (by kernel_rfl) (by kernel_rfl) ?hQ384 (Or.inl ⟨?hw384, ?hy384⟩) (by assumption) ?rest384; (case hi384 => (simp only [List.getElem?_toArray, List.getElem?_cons_succ, List.getElem?_cons_zero]; rfl)); (case hQ384 => exact fun _ _ _ h => h); (case hw384 => rfl); (case hy384 => ((intro w hSw); (try dsimp only at hSw); go_simp; (try with_reducible rfl)))) | (refine wpAnyH_take (i := 23) (oi := ?oi385) (v := undef) ?hi385 (by kernel_rfl) (by kernel_rfl) (by kernel_rfl) ?hQ385 (Or.inr ⟨?hw385, rfl⟩) (by assumption) ?rest385; (case hi385 => (simp only [List.getElem?_toArray, List.getElem?_cons_succ, List.getElem?_cons_zero]; rfl)); (case hQ385 => exact fun _ _ _ h => h); (case hw385 => rfl))
  (try simp only [Act.put, List.setIfInBounds_toArray, List.set_cons_zero, List.set_cons_succ])
  first | (refine wpAnyH_take (i := 24) (oi := ?oi386) (v := ?v386) ?hi386 (by kernel_rfl) (by kernel_rfl) (by kernel_rfl) ?hQ386 (Or.inl ⟨?hw386, ?hy386⟩) (by assumption) ?rest386; (case hi386 => (simp only [List.getElem?_toArray, List.getElem?_cons_succ, List.getElem?_cons_zero]; rfl)); (case hQ386 => exact fun _ _ _ h => h); (case hw386 => rfl); (case hy386 => ((intro w hSw); (try dsimp only at hSw); go_simp; (try with_reducible rfl)))) | (refine wpAnyH_take (i := 24) (oi := ?oi387) (v := undef) ?hi387 (by kernel_rfl) (by kernel_rfl) (by kernel_rfl) ?hQ387 (Or.inr ⟨?hw387, rfl⟩) (by assumption) ?rest387; (case hi387 => (simp only [List.getElem?_toArray, List.getElem?_cons_succ, List.getElem?_cons_zero]; rfl)); (case hQ387 => exact fun _ _ _ h => h); (case hw387 => rfl))
  (try simp only [Act.put, List.setIfInBounds_toArray, List.set_cons_zero, List.set_cons_succ])
  first | (refine wpAnyH_take (i := 25) (oi := ?oi388) (v := ?v388) ?hi388 (by kernel_rfl) (by kernel_rfl) (by kernel_rfl) ?hQ388 (Or.inl ⟨?hw388, ?hy388⟩) (by assumption) ?rest388; (case hi388 => (simp only [List.getElem?_toArray, List.getElem?_cons_succ, List.getElem?_cons_zero]; rfl)); (case hQ388 => exact fun _ _ _ h => h); (case hw388 => rfl); (case hy388 => ((intro w hSw); (try dsimp only at hSw); go_simp; (try with_reducible rfl)))) | (refine wpAnyH_take (i := 25) (oi := ?oi389) (v := undef) ?hi389 (by kernel_rfl) (by kernel_rfl) (by kernel_rfl) ?hQ389 (Or.inr ⟨?hw389, rfl⟩) (by assumption) ?rest389; (case hi389 => (simp only [List.getElem?_toArray, List.getElem?_cons_succ, List.getElem?_cons_zero]; rfl)); (case hQ389 => exact fun _ _ _ h => h); (case hw389 => rfl))
  (try simp only [Act.put, List.setIfInBounds_toArray, List.set_cons_zero, List.set_cons_succ])
  first | (refine wpAnyH_take (i := 26) (oi := ?oi390) (v := ?v390) ?hi390 (by kernel_rfl) (by kernel_rfl) (by kernel_rfl) ?hQ390 (Or.inl ⟨?hw390, ?hy390⟩) (by assumption) ?rest390; (case hi390 => (simp only [List.getElem?_toArray, List.getElem?_cons_succ, List.getElem?_cons_zero]; rfl)); (case hQ390 => exact fun _ _ _ h => h); (case hw390 => rfl); (case hy390 => ((intro w hSw); (try dsimp only at hSw); go_simp; (try with_reducible rfl)))) | (refine wpAnyH_take (i := 26) (oi := ?oi391) (v := undef) ?hi391 (by kernel_rfl) (by kernel_rfl) (by kernel_rfl) ?hQ391 (Or.inr ⟨?hw391, rfl⟩) (by assumption) ?rest391; (case hi391 => (simp only [List.getElem?_toArray, List.getElem?_cons_succ, List.getElem?_cons_zero]; rfl)); (case hQ391 => exact fun _ _ _ h => h); (case hw391 => rfl))
  (try simp only [Act.put, List.setIfInBounds_toArray, List.set_cons_zero, List.set_cons_succ])
  first | (refine wpAnyH_take (i := 27) (oi := ?oi392) (v := ?v392) ?hi392 (by kernel_rfl) (by kernel_rfl) (by kernel_rfl) ?hQ392 (Or.inl ⟨?hw392, ?hy392⟩) (by assumption) ?rest392; (case hi392 => (simp only [List.getElem?_toArray, List.getElem?_cons_succ, List.getElem?_cons_zero]; rfl)); (case hQ392 => exact fun _ _ _ h => h); (case hw392 => rfl); (case hy392 => ((intro w hSw); (try dsimp only at hSw); go_simp; (try with_reducible rfl)))) | (refine wpAnyH_take (i := 27) (oi := ?oi393) (v := undef) ?hi393 (by kernel_rfl) (by kernel_rfl) (by kernel_rfl) ?hQ393 (Or.inr ⟨?hw393, rfl⟩) (by assumption) ?rest393; (case hi393 => (simp only [List.getElem?_toArray, List.getElem?_cons_succ, List.getElem?_cons_zero]; rfl)); (case hQ393 => exact fun _ _ _ h => h); (case hw393 => rfl))
  (try simp only [Act.put, List.setIfInBounds_toArray, List.set_cons_zero, List.set_cons_succ])
  first | (refine wpAnyH_take (i := 28) (oi := ?oi394) (v := ?v394) ?hi394 (by kernel_rfl) (by kernel_rfl) (by kernel_rfl) ?hQ394 (Or.inl ⟨?hw394, ?hy394⟩) (by assumption) ?rest394; (case hi394 => (simp only [List.getElem?_toArray, List.getElem?_cons_succ, List.getElem?_cons_zero]; rfl)); (case hQ394 => exact fun _ _ _ h => h); (case hw394 => rfl); (case hy394 => ((intro w hSw); (try dsimp only at hSw); go_simp; (try with_reducible rfl)))) | (refine wpAnyH_take (i := 28) (oi := ?oi395) (v := undef) ?hi395 (by kernel_rfl) (by kernel_rfl) (by kernel_rfl) ?hQ395 (Or.inr ⟨?hw395, rfl⟩) (by assumption) ?rest395; (case hi395 => (simp only [List.getElem?_toArray, List.getElem?_cons_succ, List.getElem?_cons_zero]; rfl)); (case hQ395 => exact fun _ _ _ h => h); (case hw395 => rfl))
  (try simp only [Act.put, List.setIfInBounds_toArray, List.set_cons_zero, List.set_cons_succ])
  first | (refine wpAnyH_take (i := 29) (oi := ?oi396) (v := ?v396) ?hi396 (by kernel_rfl) (by kernel_rfl) (by kernel_rfl) ?hQ396 (Or.inl ⟨?hw396, ?hy396⟩) (by assumption) ?rest396; (case hi396 => (simp only [List.getElem?_toArray, List.getElem?_cons_succ, List.getElem?_cons_zero]; rfl)); (case hQ396 => exact fun _ _ _ h => h); (case hw396 => rfl); (case hy396 => ((intro w hSw); (try dsimp only at hSw); go_simp; (try with_reducible rfl)))) | (refine wpAnyH_take (i := 29) (oi := ?oi397) (v := undef) ?hi397 (by kernel_rfl) (by kernel_rfl) (by kernel_rfl) ?hQ397 (Or.inr ⟨?hw397, rfl⟩) (by assumption) ?rest397; (case hi397 => (simp only [List.getElem?_toArray, List.getElem?_cons_succ, List.getElem?_cons_zero]; rfl)); (case hQ397 => exact fun _ _ _ h => h); (case hw397 => rfl))
  (try simp only [Act.put, List.setIfInBounds_toArray, List.set_cons_zero, List.set_cons_succ])
  first | (refine wpAnyH_take (i := 30) (oi := ?oi398) (v := ?v398) ?hi398 (by kernel_rfl) (by kernel_rfl) (by kernel_rfl) ?hQ398 (Or.inl ⟨?hw398, ?hy398⟩) (by assumption) ?rest398; (case hi398 => (simp only [List.getElem?_toArray, List.getElem?_cons_succ, List.getElem?_cons_zero]; rfl)); (case hQ398 => exact fun _ _ _ h => h); (case hw398 => rfl); (case hy398 => ((intro w hSw); (try dsimp only at hSw); go_simp; (try with_reducible rfl)))) | (refine wpAnyH_take (i := 30) (oi := ?oi399) (v := undef) ?hi399 (by kernel_rfl) (by kernel_rfl) (by kernel_rfl) ?hQ399 (Or.inr ⟨?hw399, rfl⟩) (by assumption) ?rest399; (case hi399 => (simp only [List.getElem?_toArray, List.getElem?_cons_succ, List.getElem?_cons_zero]; rfl)); (case hQ399 => exact fun _ _ _ h => h); (case hw399 => rfl))
  (try simp only [Act.put, List.setIfInBounds_toArray, List.set_cons_zero, List.set_cons_succ])
  first | (refine wpAnyH_take (i := 32) (oi := ?oi400) (v := ?v400) ?hi400 (by kernel_rfl) (by kernel_rfl) (by kernel_rfl) ?hQ400 (Or.inl ⟨?hw400, ?hy400⟩) (by assumption) ?rest400; (case hi400 => (simp only [List.getElem?_toArray, List.getElem?_cons_succ, List.getElem?_cons_zero]; rfl)); (case hQ400 => exact fun _ _ _ h => h); (case hw400 => rfl); (case hy400 => ((intro w hSw); (try dsimp only at hSw); go_simp; (try with_reducible rfl)))) | (refine wpAnyH_take (i := 32) (oi := ?oi401) (v := undef) ?hi401 (by kernel_rfl) (by kernel_rfl) (by kernel_rfl) ?hQ401 (Or.inr ⟨?hw401, rfl⟩) (by assumption) ?rest401; (case hi401 => (simp only [List.getElem?_toArray, List.getElem?_cons_succ, List.getElem?_cons_zero]; rfl)); (case hQ401 => exact fun _ _ _ h => h); (case hw401 => rfl))
  (try simp only [Act.put, List.setIfInBounds_toArray, List.set_cons_zero, List.set_cons_succ])
  first | (refine wpAnyH_take (i := 33) (oi := ?oi402) (v := ?v402) ?hi402 (by kernel_rfl) (by kernel_rfl) (by kernel_rfl) ?hQ402 (Or.inl ⟨?hw402, ?hy402⟩) (by assumption) ?rest402; (case hi402 => (simp only [List.getElem?_toArray, List.getElem?_cons_succ, List.getElem?_cons_zero]; rfl)); (case hQ402 => exact fun _ _ _ h => h); (case hw402 => rfl); (case hy402 => ((intro w hSw); (try dsimp only at hSw); go_simp; (try with_reducible rfl)))) | (refine wpAnyH_take (i := 33) (oi := ?oi403) (v := undef) ?hi403 (by kernel_rfl) (by kernel_rfl) (by kernel_rfl) ?hQ403 (Or.inr ⟨?hw403, rfl⟩) (by assumption) ?rest403; (case hi403 => (simp only [List.getElem?_toArray, List.getElem?_cons_succ, List.getElem?_cons_zero]; rfl)); (case hQ403 => exact fun _ _ _ h => h); (case hw403 => rfl))
  (try simp only [Act.put, List.setIfInBounds_toArray, List.set_cons_zero, List.set_cons_succ])
  first | (refine wpAnyH_take (i := 34) (oi := ?oi404) (v := ?v404) ?hi404 (by kernel_rfl) (by kernel_rfl) (by kernel_rfl) ?hQ404 (Or.inl ⟨?hw404, ?hy404⟩) (by assumption) ?rest404; (case hi404 => (simp only [List.getElem?_toArray, List.getElem?_cons_succ, List.getElem?_cons_zero]; rfl)); (case hQ404 => exact fun _ _ _ h => h); (case hw404 => rfl); (case hy404 => ((intro w hSw); (try dsimp only at hSw); go_simp; (try with_reducible rfl)))) | (refine wpAnyH_take (i := 34) (oi := ?oi405) (v := undef) ?hi405 (by kernel_rfl) (by kernel_rfl) (by kernel_rfl) ?hQ405 (Or.inr ⟨?hw405, rfl⟩) (by assumption) ?rest405; (case hi405 => (simp only [List.getElem?_toArray, List.getElem?_cons_succ, List.getElem?_cons_zero]; rfl)); (case hQ405 => exact fun _ _ _ h => h); (case hw405 => rfl))
  (try simp only [Act.put, List.setIfInBounds_toArray, List.set_cons_zero, List.set_cons_succ])
  refine wpAnyH_ready (rs := [31]) (by kernel_rfl) (by simp) ?_
  refine AllReadyH.cons (o := ?oi406) ?hi406 (fun K hK => ?rest406) AllReadyH.nil
  (case hi406 => (simp only [List.getElem?_toArray, List.getElem?_cons_succ, List.getElem?_cons_zero]; rfl))
  obtain ⟨s0, s1, s2, s3, s4, s5, s6, s7, s8, s9, s10, s11, s12, s13⟩ := hHeld
  go_simp
  ((with_reducible refine (H4.out _).mono ?_); rintro e wx4 ⟨rfl, hb⟩)
  replace HW := Lib.hid (below_step HW.out hb)
  refine hK.out _ _ ?_ (fun hHeld => ?_)
  · (try dsimp only); exact ⟨cel_below hb s0, cel_below hb s1, cel_below hb s2, cel_below hb s3, cel_below hb s4, cel_below hb s5, cel_below hb s6, cel_below hb s7, cel_below hb s8, cel_below hb s9, cel_below hb s10, cel_below hb s11, cel_below hb s12, cel_below hb s13⟩
  clear hK K hb s0 s1 s2 s3 s4 s5 s6 s7 s8 s9 s10 s11 s12 s13
  (try simp only [Act.put, List.setIfInBounds_toArray, List.set_cons_zero, List.set_cons_succ])
  first | (refine wpAnyH_take (i := 35) (oi := ?oi407) (v := ?v407) ?hi407 (by kernel_rfl) (by kernel_rfl) (by kernel_rfl) ?hQ407 (Or.inl ⟨?hw407, ?hy407⟩) (by assumption) ?rest407; (case hi407 => (simp only [List.getElem?_toArray, List.getElem?_cons_succ, List.getElem?_cons_zero]; rfl)); (case hQ407 => exact fun _ _ _ h => h); (case hw407 => rfl); (case hy407 => ((intro w hSw); (try dsimp only at hSw); go_simp; (try with_reducible rfl)))) | (refine wpAnyH_take (i := 35) (oi := ?oi408) (v := undef) ?hi408 (by kernel_rfl) (by kernel_rfl) (by kernel_rfl) ?hQ408 (Or.inr ⟨?hw408, rfl⟩) (by assumption) ?rest408; (case hi408 => (simp only [List.getElem?_toArray, List.getElem?_cons_succ, List.getElem?_cons_zero]; rfl)); (case hQ408 => exact fun _ _ _ h => h); (case hw408 => rfl))
  (try simp only [Act.put, List.setIfInBounds_toArray, List.set_cons_zero, List.set_cons_succ])
  first | (refine wpAnyH_take (i := 36) (oi := ?oi409) (v := ?v409) ?hi409 (by kernel_rfl) (by kernel_rfl) (by kernel_rfl) ?hQ409 (Or.inl ⟨?hw409, ?hy409⟩) (by assumption) ?rest409; (case hi409 => (simp only [List.getElem?_toArray, List.getElem?_cons_succ, List.getElem?_cons_zero]; rfl)); (case hQ409 => exact fun _ _ _ h => h); (case hw409 => rfl); (case hy409 => ((intro w hSw); (try dsimp only at hSw); go_simp; (try with_reducible rfl)))) | (refine wpAnyH_take (i := 36) (oi := ?oi410) (v := undef) ?hi410 (by kernel_rfl) (by kernel_rfl) (by kernel_rfl) ?hQ410 (Or.inr ⟨?hw410, rfl⟩) (by assumption) ?rest410; (case hi410 => (simp only [List.getElem?_toArray, List.getElem?_cons_succ, List.getElem?_cons_zero]; rfl)); (case hQ410 => exact fun _ _ _ h => h); (case hw410 => rfl))
  (try simp only [Act.put, List.setIfInBounds_toArray, List.set_cons_zero, List.set_cons_succ])
  first | (refine wpAnyH_take (i := 37) (oi := ?oi411) (v := ?v411) ?hi411 (by kernel_rfl) (by kernel_rfl) (by kernel_rfl) ?hQ411 (Or.inl ⟨?hw411, ?hy411⟩) (by assumption) ?rest411; (case hi411 => (simp only [List.getElem?_toArray, List.getElem?_cons_succ, List.getElem?_cons_zero]; rfl)); (case hQ411 => exact fun _ _ _ h => h); (case hw411 => rfl); (case hy411 => ((intro w hSw); (try dsimp only at hSw); go_simp; (try with_reducible rfl)))) | (refine wpAnyH_take (i := 37) (oi := ?oi412) (v := undef) ?hi412 (by kernel_rfl) (by kernel_rfl) (by kernel_rfl) ?hQ412 (Or.inr ⟨?hw412, rfl⟩) (by assumption) ?rest412; (case hi412 => (simp only [List.getElem?_toArray, List.getElem?_cons_succ, List.getElem?_cons_zero]; rfl)); (case hQ412 => exact fun _ _ _ h => h); (case hw412 => rfl))
  (try simp only [Act.put, List.setIfInBounds_toArray, List.set_cons_zero, List.set_cons_succ])
  first | (refine wpAnyH_take (i := 38) (oi := ?oi413) (v := ?v413) ?hi413 (by kernel_rfl) (by kernel_rfl) (by kernel_rfl) ?hQ413 (Or.inl ⟨?hw413, ?hy413⟩) (by assumption) ?rest413; (case hi413 => (simp only [List.getElem?_toArray, List.getElem?_cons_succ, List.getElem?_cons_zero]; rfl)); (case hQ413 => exact fun _ _ _ h => h); (case hw413 => rfl); (case hy413 => ((intro w hSw); (try dsimp only at hSw); go_simp; (try with_reducible rfl)))) | (refine wpAnyH_take (i := 38) (oi := ?oi414) (v := undef) ?hi414 (by kernel_rfl) (by kernel_rfl) (by kernel_rfl) ?hQ414 (Or.inr ⟨?hw414, rfl⟩) (by assumption) ?rest414; (case hi414 => (simp only [List.getElem?_toArray, List.getElem?_cons_succ, List.getElem?_cons_zero]; rfl)); (case hQ414 => exact fun _ _ _ h => h); (case hw414 => rfl))
  (try simp only [Act.put, List.setIfInBounds_toArray, List.set_cons_zero, List.set_cons_succ])
  first | (refine wpAnyH_take (i := 39) (oi := ?oi415) (v := ?v415) ?hi415 (by kernel_rfl) (by kernel_rfl) (by kernel_rfl) ?hQ415 (Or.inl ⟨?hw415, ?hy415⟩) (by assumption) ?rest415; (case hi415 => (simp only [List.getElem?_toArray, List.getElem?_cons_succ, List.getElem?_cons_zero]; rfl)); (case hQ415 => exact fun _ _ _ h => h); (case hw415 => rfl); (case hy415 => ((intro w hSw); (try dsimp only at hSw); go_simp; (try with_reducible rfl)))) | (refine wpAnyH_take (i := 39) (oi := ?oi416) (v := undef) ?hi416 (by kernel_rfl) (by kernel_rfl) (by kernel_rfl) ?hQ416 (Or.inr ⟨?hw416, rfl⟩) (by assumption) ?rest416; (case hi416 => (simp only [List.getElem?_toArray, List.getElem?_cons_succ, List.getElem?_cons_zero]; rfl)); (case hQ416 => exact fun _ _ _ h => h); (case hw416 => rfl))
  (try simp only [Act.put, List.setIfInBounds_toArray, List.set_cons_zero, List.set_cons_succ])
  first | (refine wpAnyH_take (i := 40) (oi := ?oi417) (v := ?v417) ?hi417 (by kernel_rfl) (by kernel_rfl) (by kernel_rfl) ?hQ417 (Or.inl ⟨?hw417, ?hy417⟩) (by assumption) ?rest417; (case hi417 => (simp only [List.getElem?_toArray, List.getElem?_cons_succ, List.getElem?_cons_zero]; rfl)); (case hQ417 => exact fun _ _ _ h => h); (case hw417 => rfl); (case hy417 => ((intro w hSw); (try dsimp only at hSw); go_simp; (try with_reducible rfl)))) | (refine wpAnyH_take (i := 40) (oi := ?oi418) (v := undef) ?hi418 (by kernel_rfl) (by kernel_rfl) (by kernel_rfl) ?hQ418 (Or.inr ⟨?hw418, rfl⟩) (by assumption) ?rest418; (case hi418 => (simp only [List.getElem?_toArray, List.getElem?_cons_succ, List.getElem?_cons_zero]; rfl)); (case hQ418 => exact fun _ _ _ h => h); (case hw418 => rfl))
  (try simp only [Act.put, List.setIfInBounds_toArray, List.set_cons_zero, List.set_cons_succ])
  first | (refine wpAnyH_take (i := 41) (oi := ?oi419) (v := ?v419) ?hi419 (by kernel_rfl) (by kernel_rfl) (by kernel_rfl) ?hQ419 (Or.inl ⟨?hw419, ?hy419⟩) (by assumption) ?rest419; (case hi419 => (simp only [List.getElem?_toArray, List.getElem?_cons_succ, List.getElem?_cons_zero]; rfl)); (case hQ419 => exact fun _ _ _ h => h); (case hw419 => rfl); (case hy419 => ((intro w hSw); (try dsimp only at hSw); go_simp; (try with_reducible rfl)))) | (refine wpAnyH_take (i := 41) (oi := ?oi420) (v := undef) ?hi420 (by kernel_rfl) (by kernel_rfl) (by kernel_rfl) ?hQ420 (Or.inr ⟨?hw420, rfl⟩) (by assumption) ?rest420; (case hi420 => (simp only [List.getElem?_toArray, List.getElem?_cons_succ, List.getElem?_cons_zero]; rfl)); (case hQ420 => exact fun _ _ _ h => h); (case hw420 => rfl))
  (try simp only [Act.put, List.setIfInBounds_toArray, List.set_cons_zero, List.set_cons_succ])
  refine wpAnyH_ready (rs := [42]) (by kernel_rfl) (by simp) ?_
  refine AllReadyH.cons (o := ?oi421) ?hi421 (fun K hK => ?rest421) AllReadyH.nil
  (case hi421 => (simp only [List.getElem?_toArray, List.getElem?_cons_succ, List.getElem?_cons_zero]; rfl))
  obtain ⟨s0, s1, s2, s3, s4, s5, s6, s7, s8, s9, s10, s11, s12, s13⟩ := hHeld
  go_simp
  ((with_reducible refine (H5.out _).mono ?_); rintro e wx5 ⟨rfl, hb⟩)
  replace HW := Lib.hid (below_step HW.out hb)
  refine hK.out _ _ ?_ (fun hHeld => ?_)
  · (try dsimp only); exact ⟨cel_below hb s0, cel_below hb s1, cel_below hb s2, cel_below hb s3, cel_below hb s4, cel_below hb s5, cel_below hb s6, cel_below hb s7, cel_below hb s8, cel_below hb s9, cel_below hb s10, cel_below hb s11, cel_below hb s12, cel_below hb s13⟩
  clear hK K hb s0 s1 s2 s3 s4 s5 s6 s7 s8 s9 s10 s11 s12 s13
  (try simp only [Act.put, List.setIfInBounds_toArray, List.set_cons_zero, List.set_cons_succ])
  first | (refine wpAnyH_take (i := 43) (oi := ?oi422) (v := ?v422) ?hi422 (by kernel_rfl) (by kernel_rfl) (by kernel_rfl) ?hQ422 (Or.inl ⟨?hw422, ?hy422⟩) (by assumption) ?rest422; (case hi422 => (simp only [List.getElem?_toArray, List.getElem?_cons_succ, List.getElem?_cons_zero]; rfl)); (case hQ422 => exact fun _ _ _ h => h); (case hw422 => rfl); (case hy422 => ((intro w hSw); (try dsimp only at hSw); go_simp; (try with_reducible rfl)))) | (refine wpAnyH_take (i := 43) (oi := ?oi423) (v := undef) ?hi423 (by kernel_rfl) (by kernel_rfl) (by kernel_rfl) ?hQ423 (Or.inr ⟨?hw423, rfl⟩) (by assumption) ?rest423; (case hi423 => (simp only [List.getElem?_toArray, List.getElem?_cons_succ, List.getElem?_cons_zero]; rfl)); (case hQ423 => exact fun _ _ _ h => h); (case hw423 => rfl))
  (try simp only [Act.put, List.setIfInBounds_toArray, List.set_cons_zero, List.set_cons_succ])
  first | (refine wpAnyH_take (i := 44) (oi := ?oi424) (v := ?v424) ?hi424 (by kernel_rfl) (by kernel_rfl) (by kernel_rfl) ?hQ424 (Or.inl ⟨?hw424, ?hy424⟩) (by assumption) ?rest424; (case hi424 => (simp only [List.getElem?_toArray, List.getElem?_cons_succ, List.getElem?_cons_zero]; rfl)); (case hQ424 => exact fun _ _ _ h => h); (case hw424 => rfl); (case hy424 => ((intro w hSw); (try dsimp only at hSw); go_simp; (try with_reducible rfl)))) | (refine wpAnyH_take (i := 44) (oi := ?oi425) (v := undef) ?hi425 (by kernel_rfl) (by kernel_rfl) (by kernel_rfl) ?hQ425 (Or.inr ⟨?hw425, rfl⟩) (by assumption) ?rest425; (case hi425 => (simp only [List.getElem?_toArray, List.getElem?_cons_succ, List.getElem?_cons_zero]; rfl)); (case hQ425 => exact fun _ _ _ h => h); (case hw425 => rfl))
  (try simp only [Act.put, List.setIfInBounds_toArray, List.set_cons_zero, List.set_cons_succ])
  first | (refine wpAnyH_take (i := 45) (oi := ?oi426) (v := ?v426) ?hi426 (by kernel_rfl) (by kernel_rfl) (by kernel_rfl) ?hQ426 (Or.inl ⟨?hw426, ?hy426⟩) (by assumption) ?rest426; (case hi426 => (simp only [List.getElem?_toArray, List.getElem?_cons_succ, List.getElem?_cons_zero]; rfl)); (case hQ426 => exact fun _ _ _ h => h); (case hw426 => rfl); (case hy426 => ((intro w hSw); (try dsimp only at hSw); go_simp; (try with_reducible rfl)))) | (refine wpAnyH_take (i := 45) (oi := ?oi427) (v := undef) ?hi427 (by kernel_rfl) (by kernel_rfl) (by kernel_rfl) ?hQ427 (Or.inr ⟨?hw427, rfl⟩) (by assumption) ?rest427; (case hi427 => (simp only [List.getElem?_toArray, List.getElem?_cons_succ, List.getElem?_cons_zero]; rfl)); (case hQ427 => exact fun _ _ _ h => h); (case hw427 => rfl))
  (try simp only [Act.put, List.setIfInBounds_toArray, List.set_cons_zero, List.set_cons_succ])
  first | (refine wpAnyH_take (i := 46) (oi := ?oi428) (v := ?v428) ?hi428 (by kernel_rfl) (by kernel_rfl) (by kernel_rfl) ?hQ428 (Or.inl ⟨?hw428, ?hy428⟩) (by assumption) ?rest428; (case hi428 => (simp only [List.getElem?_toArray, List.getElem?_cons_succ, List.getElem?_cons_zero]; rfl)); (case hQ428 => exact fun _ _ _ h => h); (case hw428 => rfl); (case hy428 => ((intro w hSw); (try dsimp only at hSw); go_simp; (try with_reducible rfl)))) | (refine wpAnyH_take (i := 46) (oi := ?oi429) (v := undef) ?hi429 (by kernel_rfl) (by kernel_rfl) (by kernel_rfl) ?hQ429 (Or.inr ⟨?hw429, rfl⟩) (by assumption) ?rest429; (case hi429 => (simp only [List.getElem?_toArray, List.getElem?_cons_succ, List.getElem?_cons_zero]; rfl)); (case hQ429 => exact fun _ _ _ h => h); (case hw429 => rfl))
  (try simp only [Act.put, List.setIfInBounds_toArray, List.set_cons_zero, List.set_cons_succ])
  first | (refine wpAnyH_take (i := 47) (oi := ?oi430) (v := ?v430) ?hi430 (by kernel_rfl) (by kernel_rfl) (by kernel_rfl) ?hQ430 (Or.inl ⟨?hw430, ?hy430⟩) (by assumption) ?rest430; (case hi430 => (simp only [List.getElem?_toArray, List.getElem?_cons_succ, List.getElem?_cons_zero]; rfl)); (case hQ430 => exact fun _ _ _ h => h); (case hw430 => rfl); (case hy430 => ((intro w hSw); (try dsimp only at hSw); go_simp; (try with_reducible rfl)))) | (refine wpAnyH_take (i := 47) (oi := ?oi431) (v := undef) ?hi431 (by kernel_rfl) (by kernel_rfl) (by kernel_rfl) ?hQ431 (Or.inr ⟨?hw431, rfl⟩) (by assumption) ?rest431; (case hi431 => (simp only [List.getElem?_toArray, List.getElem?_cons_succ, List.getElem?_cons_zero]; rfl)); (case hQ431 => exact fun _ _ _ h => h); (case hw431 => rfl))
  (try simp only [Act.put, List.setIfInBounds_toArray, List.set_cons_zero, List.set_cons_succ])
  first | (refine wpAnyH_take (i := 48) (oi := ?oi432) (v := ?v432) ?hi432 (by kernel_rfl) (by kernel_rfl) (by kernel_rfl) ?hQ432 (Or.inl ⟨?hw432, ?hy432⟩) (by assumption) ?rest432; (case hi432 => (simp only [List.getElem?_toArray, List.getElem?_cons_succ, List.getElem?_cons_zero]; rfl)); (case hQ432 => exact fun _ _ _ h => h); (case hw432 => rfl); (case hy432 => ((intro w hSw); (try dsimp only at hSw); go_simp; (try with_reducible rfl)))) | (refine wpAnyH_take (i := 48) (oi := ?oi433) (v := undef) ?hi433 (by kernel_rfl) (by kernel_rfl) (by kernel_rfl) ?hQ433 (Or.inr ⟨?hw433, rfl⟩) (by assumption) ?rest433; (case hi433 => (simp only [List.getElem?_toArray, List.getElem?_cons_succ, List.getElem?_cons_zero]; rfl)); (case hQ433 => exact fun _ _ _ h => h); (case hw433 => rfl))
  (try simp only [Act.put, List.setIfInBounds_toArray, List.set_cons_zero, List.set_cons_succ])
  first | (refine wpAnyH_take (i := 49) (oi := ?oi434) (v := ?v434) ?hi434 (by kernel_rfl) (by kernel_rfl) (by kernel_rfl) ?hQ434 (Or.inl ⟨?hw434, ?hy434⟩) (by assumption) ?rest434; (case hi434 => (simp only [List.getElem?_toArray, List.getElem?_cons_succ, List.getElem?_cons_zero]; rfl)); (case hQ434 => exact fun _ _ _ h => h); (case hw434 => rfl); (case hy434 => ((intro w hSw); (try dsimp only at hSw); go_simp; (try with_reducible rfl)))) | (refine wpAnyH_take (i := 49) (oi := ?oi435) (v := undef) ?hi435 (by kernel_rfl) (by kernel_rfl) (by kernel_rfl) ?hQ435 (Or.inr ⟨?hw435, rfl⟩) (by assumption) ?rest435; (case hi435 => (simp only [List.getElem?_toArray, List.getElem?_cons_succ, List.getElem?_cons_zero]; rfl)); (case hQ435 => exact fun _ _ _ h => h); (case hw435 => rfl))
  (try simp only [Act.put, List.setIfInBounds_toArray, List.set_cons_zero, List.set_cons_succ])
  first | (refine wpAnyH_take (i := 50) (oi := ?oi436) (v := ?v436) ?hi436 (by kernel_rfl) (by kernel_rfl) (by kernel_rfl) ?hQ436 (Or.inl ⟨?hw436, ?hy436⟩) (by assumption) ?rest436; (case hi436 => (simp only [List.getElem?_toArray, List.getElem?_cons_succ, List.getElem?_cons_zero]; rfl)); (case hQ436 => exact fun _ _ _ h => h); (case hw436 => rfl); (case hy436 => ((intro w hSw); (try dsimp only at hSw); go_simp; (try with_reducible rfl)))) | (refine wpAnyH_take (i := 50) (oi := ?oi437) (v := undef) ?hi437 (by kernel_rfl) (by kernel_rfl) (by kernel_rfl) ?hQ437 (Or.inr ⟨?hw437, rfl⟩) (by assumption) ?rest437; (case hi437 => (simp only [List.getElem?_toArray, List.getElem?_cons_succ, List.getElem?_cons_zero]; rfl)); (case hQ437 => exact fun _ _ _ h => h); (case hw437 => rfl))
  (try simp only [Act.put, List.setIfInBounds_toArray, List.set_cons_zero, List.set_cons_succ])
  first | (refine wpAnyH_take (i := 51) (oi := ?oi438) (v := ?v438) ?hi438 (by kernel_rfl) (by kernel_rfl) (by kernel_rfl) ?hQ438 (Or.inl ⟨?hw438, ?hy438⟩) (by assumption) ?rest438; (case hi438 => (simp only [List.getElem?_toArray, List.getElem?_cons_succ, List.getElem?_cons_zero]; rfl)); (case hQ438 => exact fun _ _ _ h => h); (case hw438 => rfl); (case hy438 => ((intro w hSw); (try dsimp only at hSw); go_simp; (try with_reducible rfl)))) | (refine wpAnyH_take (i := 51) (oi := ?oi439) (v := undef) ?hi439 (by kernel_rfl) (by kernel_rfl) (by kernel_rfl) ?hQ439 (Or.inr ⟨?hw439, rfl⟩) (by assumption) ?rest439; (case hi439 => (simp only [List.getElem?_toArray, List.getElem?_cons_succ, List.getElem?_cons_zero]; rfl)); (case hQ439 => exact fun _ _ _ h => h); (case hw439 => rfl))
  (try simp only [Act.put, List.setIfInBounds_toArray, List.set_cons_zero, List.set_cons_succ])
  first | (refine wpAnyH_take (i := 52) (oi := ?oi440) (v := ?v440) ?hi440 (by kernel_rfl) (by kernel_rfl) (by kernel_rfl) ?hQ440 (Or.inl ⟨?hw440, ?hy440⟩) (by assumption) ?rest440; (case hi440 => (simp only [List.getElem?_toArray, List.getElem?_cons_succ, List.getElem?_cons_zero]; rfl)); (case hQ440 => exact fun _ _ _ h => h); (case hw440 => rfl); (case hy440 => ((intro w hSw); (try dsimp only at hSw); go_simp; (try with_reducible rfl)))) | (refine wpAnyH_take (i := 52) (oi := ?oi441) (v := undef) ?hi441 (by kernel_rfl) (by kernel_rfl) (by kernel_rfl) ?hQ441 (Or.inr ⟨?hw441, rfl⟩) (by assumption) ?rest441; (case hi441 => (simp only [List.getElem?_toArray, List.getElem?_cons_succ, List.getElem?_cons_zero]; rfl)); (case hQ441 => exact fun _ _ _ h => h); (case hw441 => rfl))
  (try simp only [Act.put, List.setIfInBounds_toArray, List.set_cons_zero, List.set_cons_succ])
  first | (refine wpAnyH_take (i := 53) (oi := ?oi442) (v := ?v442) ?hi442 (by kernel_rfl) (by kernel_rfl) (by kernel_rfl) ?hQ442 (Or.inl ⟨?hw442, ?hy442⟩) (by assumption) ?rest442; (case hi442 => (simp only [List.getElem?_toArray, List.getElem?_cons_succ, List.getElem?_cons_zero]; rfl)); (case hQ442 => exact fun _ _ _ h => h); (case hw442 => rfl); (case hy442 => ((intro w hSw); (try dsimp only at hSw); go_simp; (try with_reducible rfl)))) | (refine wpAnyH_take (i := 53) (oi := ?oi443) (v := undef) ?hi443 (by kernel_rfl) (by kernel_rfl) (by kernel_rfl) ?hQ443 (Or.inr ⟨?hw443, rfl⟩) (by assumption) ?rest443; (case hi443 => (simp only [List.getElem?_toArray, List.getElem?_cons_succ, List.getElem?_cons_zero]; rfl)); (case hQ443 => exact fun _ _ _ h => h); (case hw443 => rfl))
  (try simp only [Act.put, List.setIfInBounds_toArray, List.set_cons_zero, List.set_cons_succ])
  refine wpAnyH_ready (rs := [54]) (by kernel_rfl) (by simp) ?_
  refine AllReadyH.cons (o := ?oi444) ?hi444 (fun K hK => ?rest444) AllReadyH.nil
  (case hi444 => (simp only [List.getElem?_toArray, List.getElem?_cons_succ, List.getElem?_cons_zero]; rfl))
  obtain ⟨s0, s1, s2, s3, s4, s5, s6, s7, s8, s9, s10, s11, s12, s13⟩ := hHeld
  go_simp
  ((with_reducible refine (H6.out _).mono ?_); rintro e wx6 ⟨rfl, hb⟩)
  replace HW := Lib.hid (below_step HW.out hb)
  refine hK.out _ _ ?_ (fun hHeld => ?_)
  · (try dsimp only); exact ⟨cel_below hb s0, cel_below hb s1, cel_below hb s2, cel_below hb s3, cel_below hb s4, cel_below hb s5, cel_below hb s6, cel_below hb s7, cel_below hb s8, cel_below hb s9, cel_below hb s10, cel_below hb s11, cel_below hb s12, cel_below hb s13⟩
  clear hK K hb s0 s1 s2 s3 s4 s5 s6 s7 s8 s9 s10 s11 s12 s13
  (try simp only [Act.put, List.setIfInBounds_toArray, List.set_cons_zero, List.set_cons_succ])
  first | (refine wpAnyH_take (i := 55) (oi := ?oi445) (v := ?v445) ?hi445 (by kernel_rfl) (by kernel_rfl) (by kernel_rfl) ?hQ445 (Or.inl ⟨?hw445, ?hy445⟩) (by assumption) ?rest445; (case hi445 => (simp only [List.getElem?_toArray, List.getElem?_cons_succ, List.getElem?_cons_zero]; rfl)); (case hQ445 => exact fun _ _ _ h => h); (case hw445 => rfl); (case hy445 => ((intro w hSw); (try dsimp only at hSw); go_simp; (try with_reducible rfl)))) | (refine wpAnyH_take (i := 55) (oi := ?oi446) (v := undef) ?hi446 (by kernel_rfl) (by kernel_rfl) (by kernel_rfl) ?hQ446 (Or.inr ⟨?hw446, rfl⟩) (by assumption) ?rest446; (case hi446 => (simp only [List.getElem?_toArray, List.getElem?_cons_succ, List.getElem?_cons_zero]; rfl)); (case hQ446 => exact fun _ _ _ h => h); (case hw446 => rfl))
  (try simp only [Act.put, List.setIfInBounds_toArray, List.set_cons_zero, List.set_cons_succ])
  first | (refine wpAnyH_take (i := 56) (oi := ?oi447) (v := ?v447) ?hi447 (by kernel_rfl) (by kernel_rfl) (by kernel_rfl) ?hQ447 (Or.inl ⟨?hw447, ?hy447⟩) (by assumption) ?rest447; (case hi447 => (simp only [List.getElem?_toArray, List.getElem?_cons_succ, List.getElem?_cons_zero]; rfl)); (case hQ447 => exact fun _ _ _ h => h); (case hw447 => rfl); (case hy447 => ((intro w hSw); (try dsimp only at hSw); go_simp; (try with_reducible rfl)))) | (refine wpAnyH_take (i := 56) (oi := ?oi448) (v := undef) ?hi448 (by kernel_rfl) (by kernel_rfl) (by kernel_rfl) ?hQ448 (Or.inr ⟨?hw448, rfl⟩) (by assumption) ?rest448; (case hi448 => (simp only [List.getElem?_toArray, List.getElem?_cons_succ, List.getElem?_cons_zero]; rfl)); (case hQ448 => exact fun _ _ _ h => h); (case hw448 => rfl))
  (try simp only [Act.put, List.setIfInBounds_toArray, List.set_cons_zero, List.set_cons_succ])
  first | (refine wpAnyH_take (i := 57) (oi := ?oi449) (v := ?v449) ?hi449 (by kernel_rfl) (by kernel_rfl) (by kernel_rfl) ?hQ449 (Or.inl ⟨?hw449, ?hy449⟩) (by assumption) ?rest449; (case hi449 => (simp only [List.getElem?_toArray, List.getElem?_cons_succ, List.getElem?_cons_zero]; rfl)); (case hQ449 => exact fun _ _ _ h => h); (case hw449 => rfl); (case hy449 => ((intro w hSw); (try dsimp only at hSw); go_simp; (try with_reducible rfl)))) | (refine wpAnyH_take (i := 57) (oi := ?oi450) (v := undef) ?hi450 (by kernel_rfl) (by kernel_rfl) (by kernel_rfl) ?hQ450 (Or.inr ⟨?hw450, rfl⟩) (by assumption) ?rest450; (case hi450 => (simp only [List.getElem?_toArray, List.getElem?_cons_succ, List.getElem?_cons_zero]; rfl)); (case hQ450 => exact fun _ _ _ h => h); (case hw450 => rfl))
  (try simp only [Act.put, List.setIfInBounds_toArray, List.set_cons_zero, List.set_cons_succ])
  first | (refine wpAnyH_take (i := 58) (oi := ?oi451) (v := ?v451) ?hi451 (by kernel_rfl) (by kernel_rfl) (by kernel_rfl) ?hQ451 (Or.inl ⟨?hw451, ?hy451⟩) (by assumption) ?rest451; (case hi451 => (simp only [List.getElem?_toArray, List.getElem?_cons_succ, List.getElem?_cons_zero]; rfl)); (case hQ451 => exact fun _ _ _ h => h); (case hw451 => rfl); (case hy451 => ((intro w hSw); (try dsimp only at hSw); go_simp; (try with_reducible rfl)))) | (refine wpAnyH_take (i := 58) (oi := ?oi452) (v := undef) ?hi452 (by kernel_rfl) (by kernel_rfl) (by kernel_rfl) ?hQ452 (Or.inr ⟨?hw452, rfl⟩) (by assumption) ?rest452; (case hi452 => (simp only [List.getElem?_toArray, List.getElem?_cons_succ, List.getElem?_cons_zero]; rfl)); (case hQ452 => exact fun _ _ _ h => h); (case hw452 => rfl))
  (try simp only [Act.put, List.setIfInBounds_toArray, List.set_cons_zero, List.set_cons_succ])
  refine wpAnyH_done (by kernel_rfl) ?_ _
  obtain ⟨s0, s1, s2, s3, s4, s5, s6, s7, s8, s9, s10, s11, s12, s13⟩ := hHeld
  go_wp2
  go_ret
  exact ⟨rfl, HW.out⟩

theorem walk (w : World) (f0 f1 f2 f3 f4 f5 : Value) (t n : Nat) (k : Int) (h1 : SlLen f1 t) (h3 : SlLen f3 n) (m1 : t ≤ 9223372036854775807) (m3 : n ≤ 9223372036854775807) (ik : I64 k) (s : Int) (w1 : (Lit.int .i64 s).wf = true) (m : Int) (w2 : (Lit.int .i64 m).wf = true) :
    Calls Try.prog 10 #[.agg #[f0, f1, f2, f3, f4, f5, .int .i64 k], .int .i64 s, .int .i64 m] w fun e w' => e = .returned (.bool true) ∧ Below w.heap.size w w' := by
  obtain ⟨a1, c1, rfl⟩ := h1
  obtain ⟨a3, c3, rfl⟩ := h3
  by_cases ht : 40 < t
  · exact walk_t w f0 a1 t c1 f2 a3 n c3 f4 f5 k s m ht
  by_cases hn : 60 < n
  · exact walk_n w f0 a1 t c1 f2 a3 n c3 f4 f5 k s m (by omega) hn
  by_cases hc : (progCf t n k s m).ok
  · have hk : 0 ≤ k := hc.2.2.1.1
    by_cases gn : n = 0
    · by_cases gk : k = 0
      · exact walk_nzkz w f0 a1 t c1 f2 a3 n c3 f4 f5 k s m (by omega) hc gn gk
      · exact walk_nzkp w f0 a1 t c1 f2 a3 n c3 f4 f5 k s m (by omega) hc gn (by omega)
    · by_cases gk : k = 0
      · exact walk_npkz w f0 a1 t c1 f2 a3 n c3 f4 f5 k s m (by omega) hc (by omega) gk
      · exact walk_npkp w f0 a1 t c1 f2 a3 n c3 f4 f5 k s m (by omega) hc (by omega) (by omega)
  · exact walk_no w f0 a1 t c1 f2 a3 n c3 f4 f5 k s m (by omega) (by omega) hc

theorem own : ownKnob Try.prog.godebug = none := by kernel_rfl
theorem laidOut : laidOutB Try.prog = true := by kernel_rfl

set_option maxRecDepth 100000 in
theorem lifted (os : Os) (started : os.Started) (H : Type) (enc : TypeId × Value → H) :
    ReturnsInHanded {} Try.checked os 10 .any (Rows.layoutForFitsSpec.pre6 enc Try.prog Try.f10 Rows.layoutForFitsRow.domain false) (Rows.layoutForFitsSpec.post enc Try.prog Try.f10 false true false false) := by
  refine returnsInHanded_of_change (C := Try.checked) own started (by kernel_rfl) Try.func10
    (ChangeSpec.witness6 (enc := enc) (C := Try.checked) false ⟨#[], #[.agg #[.slice none 0 0, .slice none 0 0, .slice none 0 0, .slice none 0 0, .slice none 0 0, .slice none 0 0, .int .i64 0], .int .i64 0, .int .i64 0], []⟩ 8 (by kernel_rfl) (by kernel_rfl) (by kernel_rfl) (by kernel_rfl)) ?_
  intro W base args ds gs before hval0 hW hcnd _
  have hval : ∀ (j : Nat) t v, Try.f10.params[j]? = some t → args[j]? = some v → Value.okWide Try.prog W .any base t v := hval0
  have hW' := hW
  obtain ⟨p, q, hA0, hV, rfl, hfz, hnd⟩ := hW
  have hA : DataW.TrodAll enc Try.prog W 0 (fun _ => true) true Try.f10.params.toList args.toList ds p := hA0
  rw [Try.params10] at hA hval
  obtain ⟨v0, vs0, d0, ds0, p0, q0, hargs, rfl, rfl, h0, r0⟩ := trodAll_cons hA
  obtain ⟨v1, vs1, d1, ds1, p1, q1, rfl, rfl, rfl, h1, r1⟩ := trodAll_cons r0
  obtain ⟨v2, vs2, d2, ds2, p2, q2, rfl, rfl, rfl, h2, r2⟩ := trodAll_cons r1
  obtain ⟨rfl, rfl, rfl⟩ := trodAll_nil r2
  obtain rfl : args = #[v0, v1, v2] := by cases args; simp_all
  obtain ⟨rfl, rfl⟩ := trodVars_none hV
  clear hA0 hval0
  simp only [List.append_nil] at hW'
  have lt0 : ∀ x ∈ p0, x.block < W.heap.size := fun x hx => hW'.lt x (by simp [hx])
  have lt1 : ∀ x ∈ p1, x.block < W.heap.size := fun x hx => hW'.lt x (by simp [hx])
  have lt2 : ∀ x ∈ p2, x.block < W.heap.size := fun x hx => hW'.lt x (by simp [hx])
  have back0 : ∀ W', Below W.heap.size W W' → DataW.Trod enc Try.prog W' 0 (fun b => decide (b < W.heap.size)) true 67 v0 d0 p0 := fun W' hb => Below.trod laidOut (by kernel_rfl) (of_decide_eq_true (by kernel_rfl)) h0 hb lt0
  have back1 : ∀ W', Below W.heap.size W W' → DataW.Trod enc Try.prog W' 0 (fun b => decide (b < W.heap.size)) true 3 v1 d1 p1 := fun W' hb => Below.trod laidOut (by kernel_rfl) (of_decide_eq_true (by kernel_rfl)) h1 hb lt1
  have back2 : ∀ W', Below W.heap.size W W' → DataW.Trod enc Try.prog W' 0 (fun b => decide (b < W.heap.size)) true 3 v2 d2 p2 := fun W' hb => Below.trod laidOut (by kernel_rfl) (of_decide_eq_true (by kernel_rfl)) h2 hb lt2
  obtain ⟨fa0, fb0, fc0, fd0, fe0, ff0, t0, n0, k0, rfl, st0, sn0, mt0, mn0, ik0⟩ := open_code (hval 0 67 v0 rfl rfl) h0
  obtain ⟨a1, rfl, rfl, rfl, w1⟩ := open_int Try.underlying3 (hval 1 3 v1 rfl rfl) h1
  obtain ⟨a2, rfl, rfl, rfl, w2⟩ := open_int Try.underlying3 (hval 2 3 v2 rfl rfl) h2
  refine (walk W fa0 fb0 fc0 fd0 fe0 ff0 t0 n0 k0 st0 sn0 mt0 mn0 ik0 a1 w1 a2 w2).mono fun e W' ⟨he, hg⟩ => ?_
  subst he
  exact ⟨_, rfl, _, _, _, [], _, [], hW', (trodAll_cons_mk (shut_bool Try.underlying4 _) trodAll_mk0), (trodAll_cons_mk (back0 _ hg) (trodAll_cons_mk (back1 _ hg) (trodAll_cons_mk (back2 _ hg) trodAll_mk0))), rfl, hg.frame _, fun h => by cases h⟩

theorem over : Rows.layoutForFitsRow.holds Try.pinned (OpenSpec.ofChange Rows.layoutForFitsSpec) :=
  OpenClaim.holds_of_wide 10 Try.f10 rfl rfl rfl rfl rfl rfl rfl ⟨rfl, rfl, rfl, rfl, rfl⟩ rfl rfl rfl rfl rfl (by kernel_rfl) Try.func10 (by kernel_rfl)
    (of_decide_eq_true (by kernel_rfl)) (by unfold Func.isWrapper; first | (rw [if_pos (by decide +kernel)]; kernel_rfl) | (rw [if_neg (by decide +kernel)]; exact ⟨rfl, rfl⟩))
    (fun os started H enc _ => lifted os started H enc)

/-- The given statement. -/
theorem proved : Rows.LayoutForFitsSaid :=
  over
#print axioms proved
end Go.Proofs.Ytimjodpndhckdaa.layoutForFits
