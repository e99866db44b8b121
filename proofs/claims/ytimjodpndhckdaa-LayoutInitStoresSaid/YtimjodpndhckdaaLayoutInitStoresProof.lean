/- LayoutInitStores: for every valid configuration and at most 40 initial values, performing Init on zero cells stores each initial value in its location, 1 in Stamps, and nothing else. No condition. -/
import Derived.Test.YtimjodpndhckdaaRows
import Derived.Test.YtimjodpndhckdaaAux
import Derived.Test.YtimjodpndhckdaaLayS
import Derived.Test.YtimjodpndhckdaaLayO
import Derived.Test.YtimjodpndhckdaaLayG
import Derived.Test.YtimjodpndhckdaaLayH
import Derived.Test.YtimjodpndhckdaaMemT
import Derived.Test.YtimjodpndhckdaaMemG
import Derived.Outline
import Derived.Deep.RegionHeld3
import Derived.Deep.DeepCutAuto
import Derived.WalkKit
import Derived.ProofKit
import Derived.OpenShut
import Derived.Lib.Hide
import Derived.Carry
namespace Go.Proofs.Ytimjodpndhckdaa.layoutInitStores
open Go.ChangeShapes Go.WideShapes Go.ChangeAt Go.RowKit
set_option linter.unusedVariables false

theorem rints15_s {v u : Value} {w : World} (zs : List Int) (hv : HasInts w v zs) (hu : HasInts w u zs) : Calls Try.prog 28 #[v, u] w fun e w' => e = .returned (.bool true) ∧ Below w.heap.size w w' :=
  (rints15_any v u zs zs w hv hu).mono fun e w' ⟨he, n, hw⟩ => ⟨by rw [he]; simp, hw ▸ below_drewN (Below.refl _ _) n⟩
theorem all_s {v x : Value} {w : World} (zs Z : List Int) (l : List AccD) (n : Nat) (hn : zs.length = n) (hl : l.length ≤ 1000) (hs : n ≤ 1000) (he : errOf n l = 0) (hZ : stZ zs l = Z) (hv : HasInts w v zs) (hx : HasAccs w x l) :
    Calls Try.prog 13 #[.agg #[v], x] w fun e w' => ∃ a cp r, e = .returned (.tuple #[.agg #[.slice a n cp], r, .int .i64 0]) ∧ HasInts w' (.slice a n cp) Z ∧ Below w.heap.size w w' := by
  subst hn; subst hZ
  refine (all_any v x zs l w hv hx (by omega) (by omega)).mono ?_
  rintro e w' ⟨u, r, rfl, hu, hr, hb⟩
  rw [he]
  have hz : allZ zs l = stZ zs l := by unfold allZ; rw [if_pos he]
  rw [hz] at hu
  have hu' := hu
  obtain ⟨a, cp, rfl, _, _⟩ := hu'
  have hlen := stZ_length zs l
  rw [hlen] at hu ⊢
  exact ⟨a, cp, r, rfl, hu, hb⟩

set_option maxHeartbeats 4000000 in
set_option maxRecDepth 100000 in
theorem walk_no (w : World) (c : Cf) (a : Option Addr) (len cap : Nat) (hc : ¬c.ok) : Calls Try.prog 11 #[c.v, .slice a len cap] w fun e w' => e = .returned (.bool true) ∧ Below w.heap.size w w' := by
  have HR := Lib.hid (fun w => rof_f c w hc)
  clear hc
  unfold lay0 Ly.v at HR
  unfold Cf.v at HR ⊢
  go_enter Try.func11, Try.ntmps11
  go_wp2_with fail
  ((with_reducible refine (sane15_any _).mono ?_); rintro e w1 ⟨rfl, hb⟩)
  have HW := Lib.hid (below_alloc1 hb)
  have zz : w.heap.size + 1 ≤ w1.heap.size := by have := hb.size; (try simp at this); omega
  have ccq0 : w1.cell? ⟨w.heap.size, 0, none⟩ = some (.int .i64 c.t) := cel_below hb (by rw [World.cell?_alloc_at _ _ _ _ (by simp)]; rfl)
  have ccq1 : w1.cell? ⟨w.heap.size, 1, none⟩ = some (.int .i64 c.l) := cel_below hb (by rw [World.cell?_alloc_at _ _ _ _ (by simp)]; rfl)
  have ccq2 : w1.cell? ⟨w.heap.size, 2, none⟩ = some (.int .i64 c.k) := cel_below hb (by rw [World.cell?_alloc_at _ _ _ _ (by simp)]; rfl)
  have ccq3 : w1.cell? ⟨w.heap.size, 3, none⟩ = some (.int .i64 c.s) := cel_below hb (by rw [World.cell?_alloc_at _ _ _ _ (by simp)]; rfl)
  have ccq4 : w1.cell? ⟨w.heap.size, 4, none⟩ = some (.int .i64 c.m) := cel_below hb (by rw [World.cell?_alloc_at _ _ _ _ (by simp)]; rfl)
  have z0 : w.heap.size < w1.heap.size := by omega
  clear hb zz
  go_wp2_with fail
  ((with_reducible refine (HR.out _).mono ?_); rintro e w2 ⟨rfl, hb⟩)
  replace HW := Lib.hid (below_step HW.out (hb))
  have zz : w1.heap.size + 0 ≤ w2.heap.size := by have := hb.size; (try simp at this); omega
  replace ccq0 : w2.cell? ⟨w.heap.size, 0, none⟩ = some (.int .i64 c.t) := cel_below hb (ccq0)
  replace ccq1 : w2.cell? ⟨w.heap.size, 1, none⟩ = some (.int .i64 c.l) := cel_below hb (ccq1)
  replace ccq2 : w2.cell? ⟨w.heap.size, 2, none⟩ = some (.int .i64 c.k) := cel_below hb (ccq2)
  replace ccq3 : w2.cell? ⟨w.heap.size, 3, none⟩ = some (.int .i64 c.s) := cel_below hb (ccq3)
  replace ccq4 : w2.cell? ⟨w.heap.size, 4, none⟩ = some (.int .i64 c.m) := cel_below hb (ccq4)
  replace z0 : w.heap.size < w2.heap.size := by omega
  clear hb zz
  go_wp2
  go_ret
  exact ⟨rfl, below_step HW.out (below_new1 _ _)⟩
set_option maxHeartbeats 4000000 in
set_option maxRecDepth 100000 in
theorem walk_big (w : World) (c : Cf) (a : Option Addr) (len cap : Nat) (hl : 40 < len) (hc : c.ok) : Calls Try.prog 11 #[c.v, .slice a len cap] w fun e w' => e = .returned (.bool true) ∧ Below w.heap.size w w' := by
  have hl' : decide ((40 : Int) < len) = true := by simp; omega
  obtain ⟨lo, hlo⟩ : ∃ x, x = 4 + 4 * c.t := ⟨_, rfl⟩
  obtain ⟨lc, hlc⟩ : ∃ x, x = 4 + 4 * c.t + c.k := ⟨_, rfl⟩
  have hx := hc
  obtain ⟨⟨h1, h2⟩, ⟨h3, h4⟩, ⟨h5, h6⟩, ⟨h7, h8⟩, ⟨h9, h10⟩⟩ := hx
  obtain ⟨sz, hsz⟩ : ∃ x : Nat, (x : Int) = 4 + 4 * c.t + c.k + 4 * c.l := ⟨(4 + 4 * c.t + c.k + 4 * c.l).toNat, by omega⟩
  have HR : Hid (∀ w, Calls Try.prog 26 #[c.v] w fun e w' => e = .returned (.tuple #[.agg #[.int .i64 c.t, .int .i64 c.l, .int .i64 c.k, .int .i64 c.s, .int .i64 c.m, .int .i64 0, .int .i64 1, .int .i64 2, .int .i64 3, .int .i64 4, .int .i64 lo, .int .i64 lc, .int .i64 ((sz : Nat) : Int)], .int .i64 0]) ∧ Below w.heap.size w w') := Lib.hid (fun w => by
    have := rof_t c w hc
    unfold layOf Ly.v at this
    simp only [hlo, hlc, hsz]
    exact this)
  clear hc hlo hlc hsz h1 h2 h3 h4 h5 h6 h7 h8 h9 h10
  unfold Cf.v at HR ⊢
  go_enter Try.func11, Try.ntmps11
  go_wp2_with fail
  ((with_reducible refine (sane15_any _).mono ?_); rintro e w1 ⟨rfl, hb⟩)
  have HW := Lib.hid (below_alloc1 hb)
  have zz : w.heap.size + 1 ≤ w1.heap.size := by have := hb.size; (try simp at this); omega
  have ccq0 : w1.cell? ⟨w.heap.size, 0, none⟩ = some (.int .i64 c.t) := cel_below hb (by rw [World.cell?_alloc_at _ _ _ _ (by simp)]; rfl)
  have ccq1 : w1.cell? ⟨w.heap.size, 1, none⟩ = some (.int .i64 c.l) := cel_below hb (by rw [World.cell?_alloc_at _ _ _ _ (by simp)]; rfl)
  have ccq2 : w1.cell? ⟨w.heap.size, 2, none⟩ = some (.int .i64 c.k) := cel_below hb (by rw [World.cell?_alloc_at _ _ _ _ (by simp)]; rfl)
  have ccq3 : w1.cell? ⟨w.heap.size, 3, none⟩ = some (.int .i64 c.s) := cel_below hb (by rw [World.cell?_alloc_at _ _ _ _ (by simp)]; rfl)
  have ccq4 : w1.cell? ⟨w.heap.size, 4, none⟩ = some (.int .i64 c.m) := cel_below hb (by rw [World.cell?_alloc_at _ _ _ _ (by simp)]; rfl)
  have z0 : w.heap.size < w1.heap.size := by omega
  clear hb zz
  go_wp2_with fail
  ((with_reducible refine (HR.out _).mono ?_); rintro e w2 ⟨rfl, hb⟩)
  replace HW := Lib.hid (below_step HW.out (hb))
  have zz : w1.heap.size + 0 ≤ w2.heap.size := by have := hb.size; (try simp at this); omega
  replace ccq0 : w2.cell? ⟨w.heap.size, 0, none⟩ = some (.int .i64 c.t) := cel_below hb (ccq0)
  replace ccq1 : w2.cell? ⟨w.heap.size, 1, none⟩ = some (.int .i64 c.l) := cel_below hb (ccq1)
  replace ccq2 : w2.cell? ⟨w.heap.size, 2, none⟩ = some (.int .i64 c.k) := cel_below hb (ccq2)
  replace ccq3 : w2.cell? ⟨w.heap.size, 3, none⟩ = some (.int .i64 c.s) := cel_below hb (ccq3)
  replace ccq4 : w2.cell? ⟨w.heap.size, 4, none⟩ = some (.int .i64 c.m) := cel_below hb (ccq4)
  replace z0 : w.heap.size < w2.heap.size := by omega
  clear hb zz
  go_wp2
  go_ret
  exact ⟨rfl, below_step HW.out (below_new1 _ _)⟩
set_option maxHeartbeats 4000000 in
set_option maxRecDepth 100000 in
theorem walk_yes (w : World) (c : Cf) (a : Option Addr) (len cap : Nat) (zs : List Int) (hz : len = zs.length) (hv : HasInts w (.slice a len cap) zs) (hl : len ≤ 40) (hc : c.ok) : Calls Try.prog 11 #[c.v, .slice a len cap] w fun e w' => e = .returned (.bool true) ∧ Below w.heap.size w w' := by
  have hl' : decide ((40 : Int) < len) = false := by simp; omega
  obtain ⟨lo, hlo⟩ : ∃ x, x = 4 + 4 * c.t := ⟨_, rfl⟩
  obtain ⟨lc, hlc⟩ : ∃ x, x = 4 + 4 * c.t + c.k := ⟨_, rfl⟩
  have hx := hc
  obtain ⟨⟨h1, h2⟩, ⟨h3, h4⟩, ⟨h5, h6⟩, ⟨h7, h8⟩, ⟨h9, h10⟩⟩ := hx
  obtain ⟨sz, hsz⟩ : ∃ x : Nat, (x : Int) = 4 + 4 * c.t + c.k + 4 * c.l := ⟨(4 + 4 * c.t + c.k + 4 * c.l).toNat, by omega⟩
  have HR : Hid (∀ w, Calls Try.prog 26 #[c.v] w fun e w' => e = .returned (.tuple #[.agg #[.int .i64 c.t, .int .i64 c.l, .int .i64 c.k, .int .i64 c.s, .int .i64 c.m, .int .i64 0, .int .i64 1, .int .i64 2, .int .i64 3, .int .i64 4, .int .i64 lo, .int .i64 lc, .int .i64 ((sz : Nat) : Int)], .int .i64 0]) ∧ Below w.heap.size w w') := Lib.hid (fun w => by
    have := rof_t c w hc
    unfold layOf Ly.v at this
    simp only [hlo, hlc, hsz]
    exact this)
  obtain ⟨L, hL⟩ : ∃ L : Ly, L = ⟨c, 0, 1, 2, 3, 4, lo, lc, (sz : Nat)⟩ := ⟨_, rfl⟩
  have hlok : L.ok := by rw [hL]; unfold Ly.ok; simp only; omega
  have hat : ∀ i : Nat, (i : Int) < c.l → atVal L i = lc + i * 4 + 1 := fun i hi => by rw [hL]; unfold atVal cellN; simp only; rw [if_neg (by omega)]
  have HV := Lib.hid hv
  have HI : Hid (∀ w, HasInts w (.slice a len cap) zs → Calls Try.prog 32 #[.agg #[.int .i64 c.t, .int .i64 c.l, .int .i64 c.k, .int .i64 c.s, .int .i64 c.m, .int .i64 0, .int .i64 1, .int .i64 2, .int .i64 3, .int .i64 4, .int .i64 lo, .int .i64 lc, .int .i64 ((sz : Nat) : Int)], .slice a len cap] w fun e w' => ∃ u, e = .returned u ∧ HasAccs w' u (initN L zs zs.length) ∧ Below w.heap.size w w') := Lib.hid (fun w h => by
    have := init_any L (.slice a len cap) zs w hlok h (by omega)
    rw [hL] at this
    rw [hL]; exact this)
  have HVk : Hid (∀ (k : Nat) w, (k : Int) < c.l → Calls Try.prog 41 #[.agg #[.int .i64 c.t, .int .i64 c.l, .int .i64 c.k, .int .i64 c.s, .int .i64 c.m, .int .i64 0, .int .i64 1, .int .i64 2, .int .i64 3, .int .i64 4, .int .i64 lo, .int .i64 lc, .int .i64 ((sz : Nat) : Int)], .int .i64 k] w fun e' w' => e' = .returned (.int .i64 ((lc.toNat + k * 4 + 1 : Nat) : Int)) ∧ Below w.heap.size w w') := Lib.hid (fun k w hk => by
    have := rval_any L k w hlok
    rw [hat k hk, hL] at this
    rw [show (((lc.toNat + k * 4 + 1 : Nat) : Int)) = lc + k * 4 + 1 by omega]
    exact this)
  have hN := Lib.hid (rnew_any sz)
  have HE : Hid (errOf sz (initN L zs zs.length) = 0) := Lib.hid (errOf_initN L zs sz _ (by rw [hL]; simp only; omega) (fun i hi => by
    have hi' : (i : Int) < c.l := by rw [hL] at hi; exact hi
    rw [hat i hi']; omega))
  have hszb : sz ≤ 1000 := by omega
  have hszp : 4 ≤ sz := by omega
  have HLI : Hid ((initN L zs zs.length).length ≤ 1000) := Lib.hid (by have := initN_length L zs zs.length; omega)
  have HST : Hid (∀ k : Nat, (k : Int) < c.l → stZ (List.replicate sz 0) (initN L zs (k + 1)) = (stZ (List.replicate sz 0) (initN L zs k)).set (lc.toNat + k * 4 + 1) (zs.getD k 0)) := Lib.hid (fun k hk => by
    rw [stZ_initN L zs _ k (by rw [hL]; exact hk), hat k hk]; congr 1; omega)
  have HS0 : Hid (stZ (List.replicate sz 0) (initN L zs 0) = (List.replicate sz 0).set 1 1) := Lib.hid (by rw [stZ_init0, hL]; rfl)
  have HSL : Hid (∀ k, (stZ (List.replicate sz 0) (initN L zs k)).length = sz) := Lib.hid (fun k => by rw [stZ_length]; simp)
  have HSP : Hid (∀ k : Nat, c.l ≤ (k : Int) → k ≤ zs.length → stZ (List.replicate sz 0) (initN L zs k) = stZ (List.replicate sz 0) (initN L zs zs.length)) := Lib.hid (fun k hk hk2 => by
    have := initN_stop' L zs k (zs.length - k) (by rw [hL]; exact hk)
    rw [show k + (zs.length - k) = zs.length by omega] at this
    rw [this])
  have HLT : Hid (∀ k : Nat, (k : Int) < c.l → lc.toNat + k * 4 + 1 < sz) := Lib.hid (fun k hk => by omega)
  have HZL := Lib.hid hz
  obtain ⟨Z, hZ⟩ : ∃ Z, Z = stZ (List.replicate sz 0) (initN L zs zs.length) := ⟨_, rfl⟩
  rw [← hZ] at HSP
  have HZ := Lib.hid hZ
  obtain ⟨Q, hQ⟩ : ∃ Q : Nat → List Int, Q = fun k => stZ (List.replicate sz 0) (initN L zs k) := ⟨_, rfl⟩
  have HQ : Hid (∀ k, stZ (List.replicate sz 0) (initN L zs k) = Q k) := Lib.hid (fun k => by rw [hQ])
  clear hlo hlc hsz hL hlok hat hc hv hZ hQ h1 h2 h5 h6 h7 h8 h9 h10 hz
  obtain ⟨i0, hi, hz0, hz1, hz2⟩ := info_parts info_int
  unfold Cf.v at HR ⊢
  go_enter Try.func11, Try.ntmps11
  go_wp2_with fail
  ((with_reducible refine (sane15_any _).mono ?_); rintro e w1 ⟨rfl, hb⟩)
  have HW := Lib.hid (below_alloc1 hb)
  have zz : w.heap.size + 1 ≤ w1.heap.size := by have := hb.size; (try simp at this); omega
  have ccq0 : w1.cell? ⟨w.heap.size, 0, none⟩ = some (.int .i64 c.t) := cel_below hb (by rw [World.cell?_alloc_at _ _ _ _ (by simp)]; rfl)
  have ccq1 : w1.cell? ⟨w.heap.size, 1, none⟩ = some (.int .i64 c.l) := cel_below hb (by rw [World.cell?_alloc_at _ _ _ _ (by simp)]; rfl)
  have ccq2 : w1.cell? ⟨w.heap.size, 2, none⟩ = some (.int .i64 c.k) := cel_below hb (by rw [World.cell?_alloc_at _ _ _ _ (by simp)]; rfl)
  have ccq3 : w1.cell? ⟨w.heap.size, 3, none⟩ = some (.int .i64 c.s) := cel_below hb (by rw [World.cell?_alloc_at _ _ _ _ (by simp)]; rfl)
  have ccq4 : w1.cell? ⟨w.heap.size, 4, none⟩ = some (.int .i64 c.m) := cel_below hb (by rw [World.cell?_alloc_at _ _ _ _ (by simp)]; rfl)
  have z0 : w.heap.size < w1.heap.size := by omega
  clear hb zz
  go_wp2_with fail
  ((with_reducible refine (HR.out _).mono ?_); rintro e w2 ⟨rfl, hb⟩)
  replace HW := Lib.hid (below_step HW.out (hb))
  have zz : w1.heap.size + 0 ≤ w2.heap.size := by have := hb.size; (try simp at this); omega
  replace ccq0 : w2.cell? ⟨w.heap.size, 0, none⟩ = some (.int .i64 c.t) := cel_below hb (ccq0)
  replace ccq1 : w2.cell? ⟨w.heap.size, 1, none⟩ = some (.int .i64 c.l) := cel_below hb (ccq1)
  replace ccq2 : w2.cell? ⟨w.heap.size, 2, none⟩ = some (.int .i64 c.k) := cel_below hb (ccq2)
  replace ccq3 : w2.cell? ⟨w.heap.size, 3, none⟩ = some (.int .i64 c.s) := cel_below hb (ccq3)
  replace ccq4 : w2.cell? ⟨w.heap.size, 4, none⟩ = some (.int .i64 c.m) := cel_below hb (ccq4)
  replace z0 : w.heap.size < w2.heap.size := by omega
  clear hb zz
  go_upto_region 5 with fail
  obtain ⟨wr3, hwr⟩ : ∃ W, W = w2.alloc (.cells #[.int .i64 c.t, .int .i64 c.l, .int .i64 c.k, .int .i64 c.s, .int .i64 c.m, .int .i64 0, .int .i64 1, .int .i64 2, .int .i64 3, .int .i64 4, .int .i64 lo, .int .i64 lc, .int .i64 (sz : Nat)] 53) := ⟨_, rfl⟩
  rw [← hwr]
  have hb : Below w2.heap.size w2 wr3 := by rw [hwr]; exact (Below.alloc (Below.refl _ w2) (by first | exact Nat.le_refl _ | (simp; omega) | simp) _)
  have zz : w2.heap.size + 1 ≤ wr3.heap.size := by rw [hwr]; simp
  replace HW := Lib.hid (below_step HW.out hb)
  replace ccq0 : wr3.cell? ⟨w.heap.size, 0, none⟩ = some (.int .i64 c.t) := cel_below hb ccq0
  replace ccq1 : wr3.cell? ⟨w.heap.size, 1, none⟩ = some (.int .i64 c.l) := cel_below hb ccq1
  replace ccq2 : wr3.cell? ⟨w.heap.size, 2, none⟩ = some (.int .i64 c.k) := cel_below hb ccq2
  replace ccq3 : wr3.cell? ⟨w.heap.size, 3, none⟩ = some (.int .i64 c.s) := cel_below hb ccq3
  replace ccq4 : wr3.cell? ⟨w.heap.size, 4, none⟩ = some (.int .i64 c.m) := cel_below hb ccq4
  replace z0 : w.heap.size < wr3.heap.size := by omega
  have lqq0 : wr3.cell? ⟨w2.heap.size, 0, none⟩ = some (.int .i64 c.t) := by rw [hwr]; exact by rw [World.cell?_alloc_at _ _ _ _ (by simp)]; rfl
  have lqq1 : wr3.cell? ⟨w2.heap.size, 1, none⟩ = some (.int .i64 c.l) := by rw [hwr]; exact by rw [World.cell?_alloc_at _ _ _ _ (by simp)]; rfl
  have lqq2 : wr3.cell? ⟨w2.heap.size, 2, none⟩ = some (.int .i64 c.k) := by rw [hwr]; exact by rw [World.cell?_alloc_at _ _ _ _ (by simp)]; rfl
  have lqq3 : wr3.cell? ⟨w2.heap.size, 3, none⟩ = some (.int .i64 c.s) := by rw [hwr]; exact by rw [World.cell?_alloc_at _ _ _ _ (by simp)]; rfl
  have lqq4 : wr3.cell? ⟨w2.heap.size, 4, none⟩ = some (.int .i64 c.m) := by rw [hwr]; exact by rw [World.cell?_alloc_at _ _ _ _ (by simp)]; rfl
  have lqq5 : wr3.cell? ⟨w2.heap.size, 5, none⟩ = some (.int .i64 0) := by rw [hwr]; exact by rw [World.cell?_alloc_at _ _ _ _ (by simp)]; rfl
  have lqq6 : wr3.cell? ⟨w2.heap.size, 6, none⟩ = some (.int .i64 1) := by rw [hwr]; exact by rw [World.cell?_alloc_at _ _ _ _ (by simp)]; rfl
  have lqq7 : wr3.cell? ⟨w2.heap.size, 7, none⟩ = some (.int .i64 2) := by rw [hwr]; exact by rw [World.cell?_alloc_at _ _ _ _ (by simp)]; rfl
  have lqq8 : wr3.cell? ⟨w2.heap.size, 8, none⟩ = some (.int .i64 3) := by rw [hwr]; exact by rw [World.cell?_alloc_at _ _ _ _ (by simp)]; rfl
  have lqq9 : wr3.cell? ⟨w2.heap.size, 9, none⟩ = some (.int .i64 4) := by rw [hwr]; exact by rw [World.cell?_alloc_at _ _ _ _ (by simp)]; rfl
  have lqq10 : wr3.cell? ⟨w2.heap.size, 10, none⟩ = some (.int .i64 lo) := by rw [hwr]; exact by rw [World.cell?_alloc_at _ _ _ _ (by simp)]; rfl
  have lqq11 : wr3.cell? ⟨w2.heap.size, 11, none⟩ = some (.int .i64 lc) := by rw [hwr]; exact by rw [World.cell?_alloc_at _ _ _ _ (by simp)]; rfl
  have lqq12 : wr3.cell? ⟨w2.heap.size, 12, none⟩ = some (.int .i64 (sz : Nat)) := by rw [hwr]; exact by rw [World.cell?_alloc_at _ _ _ _ (by simp)]; rfl
  have z1 : w2.heap.size < wr3.heap.size := by omega
  clear hb zz hwr
  have HWS := Lib.hid HW.out.size
  have HBL : w2.heap.size < wr3.heap.size := z1
  have HWr := Lib.hid HW.out
  go_cut [8, 10] (fun s8 s10 wx => ∃ (g : Nat) (am : Option Addr) (cm : Nat), s8 = .pointer (some ⟨g, 0, none⟩) ∧ g < wx.heap.size ∧ s10 = .int .i64 0 ∧ wr3.heap.size ≤ g ∧ wx.cell? ⟨g, 0, none⟩ = some (.slice am sz cm) ∧ HasInts wx (.slice am sz cm) Z ∧ Below wr3.heap.size wr3 wx)
  case first =>
    have HW := Lib.hid (Below.refl wr3.heap.size wr3)
    have HWS := Lib.hid (Nat.le_refl wr3.heap.size)
    refine wp_region_held_drew (S := fun W => W.cell? ⟨w2.heap.size, 0, none⟩ = some (.int .i64 c.t) ∧ W.cell? ⟨w2.heap.size, 1, none⟩ = some (.int .i64 c.l) ∧ W.cell? ⟨w2.heap.size, 2, none⟩ = some (.int .i64 c.k) ∧ W.cell? ⟨w2.heap.size, 3, none⟩ = some (.int .i64 c.s) ∧ W.cell? ⟨w2.heap.size, 4, none⟩ = some (.int .i64 c.m) ∧ W.cell? ⟨w2.heap.size, 5, none⟩ = some (.int .i64 0) ∧ W.cell? ⟨w2.heap.size, 6, none⟩ = some (.int .i64 1) ∧ W.cell? ⟨w2.heap.size, 7, none⟩ = some (.int .i64 2) ∧ W.cell? ⟨w2.heap.size, 8, none⟩ = some (.int .i64 3) ∧ W.cell? ⟨w2.heap.size, 9, none⟩ = some (.int .i64 4) ∧ W.cell? ⟨w2.heap.size, 10, none⟩ = some (.int .i64 lo) ∧ W.cell? ⟨w2.heap.size, 11, none⟩ = some (.int .i64 lc) ∧ W.cell? ⟨w2.heap.size, 12, none⟩ = some (.int .i64 (sz : Nat))) (by kernel_rfl) ?_ (fun hHeld => ?_)
    · (try dsimp only); exact ⟨by first | assumption | go_simp, by first | assumption | go_simp, by first | assumption | go_simp, by first | assumption | go_simp, by first | assumption | go_simp, by first | assumption | go_simp, by first | assumption | go_simp, by first | assumption | go_simp, by first | assumption | go_simp, by first | assumption | go_simp, by first | assumption | go_simp, by first | assumption | go_simp, by first | assumption | go_simp⟩
    replace HW := Lib.hid (show Below _ _ (World.drew wr3) from below_drews HW.out 1)
    obtain ⟨wy0, hwy⟩ : ∃ W, W = World.drew wr3 := ⟨_, rfl⟩
    rw [← hwy] at HW ⊢
    have hHeld2 := hHeld
    rw [← hwy] at hHeld2
    clear hHeld
    have LO : wr3.heap.size ≤ wy0.heap.size := by rw [hwy]; exact Nat.le_refl _
    have hb : Below wr3.heap.size wr3 wy0 := by rw [hwy]; exact below_drews (Below.refl _ _) 1
    clear hb hwy
    obtain ⟨s0, s1, s2, s3, s4, s5, s6, s7, s8, s9, s10, s11, s12⟩ := hHeld2
    have hHeld : (fun W => W.cell? ⟨w2.heap.size, 0, none⟩ = some (.int .i64 c.t) ∧ W.cell? ⟨w2.heap.size, 1, none⟩ = some (.int .i64 c.l) ∧ W.cell? ⟨w2.heap.size, 2, none⟩ = some (.int .i64 c.k) ∧ W.cell? ⟨w2.heap.size, 3, none⟩ = some (.int .i64 c.s) ∧ W.cell? ⟨w2.heap.size, 4, none⟩ = some (.int .i64 c.m) ∧ W.cell? ⟨w2.heap.size, 5, none⟩ = some (.int .i64 0) ∧ W.cell? ⟨w2.heap.size, 6, none⟩ = some (.int .i64 1) ∧ W.cell? ⟨w2.heap.size, 7, none⟩ = some (.int .i64 2) ∧ W.cell? ⟨w2.heap.size, 8, none⟩ = some (.int .i64 3) ∧ W.cell? ⟨w2.heap.size, 9, none⟩ = some (.int .i64 4) ∧ W.cell? ⟨w2.heap.size, 10, none⟩ = some (.int .i64 lo) ∧ W.cell? ⟨w2.heap.size, 11, none⟩ = some (.int .i64 lc) ∧ W.cell? ⟨w2.heap.size, 12, none⟩ = some (.int .i64 (sz : Nat))) wy0 := ⟨s0, s1, s2, s3, s4, s5, s6, s7, s8, s9, s10, s11, s12⟩
    first | (refine wpAnyH_take (i := 0) (oi := ?oi1) (v := ?v1) ?hi1 (by kernel_rfl) (by kernel_rfl) (by kernel_rfl) ?hQ1 (Or.inl ⟨?hw1, ?hy1⟩) (by assumption) ?rest1; (case hi1 => (simp only [List.getElem?_toArray, List.getElem?_cons_zero]; rfl)); (case hQ1 => exact fun _ _ _ h => h); (case hw1 => rfl); (case hy1 => ((intro w hSw); (try dsimp only at hSw); go_simp; (try with_reducible rfl)))) | (refine wpAnyH_take (i := 0) (oi := ?oi2) (v := undef) ?hi2 (by kernel_rfl) (by kernel_rfl) (by kernel_rfl) ?hQ2 (Or.inr ⟨?hw2, rfl⟩) (by assumption) ?rest2; (case hi2 => (simp only [List.getElem?_toArray, List.getElem?_cons_zero]; rfl)); (case hQ2 => exact fun _ _ _ h => h); (case hw2 => rfl))
    (try simp only [Act.put, List.setIfInBounds_toArray, List.set_cons_zero, List.set_cons_succ])
    first | (refine wpAnyH_take (i := 3) (oi := ?oi3) (v := ?v3) ?hi3 (by kernel_rfl) (by kernel_rfl) (by kernel_rfl) ?hQ3 (Or.inl ⟨?hw3, ?hy3⟩) (by assumption) ?rest3; (case hi3 => (simp only [List.getElem?_toArray, List.getElem?_cons_succ, List.getElem?_cons_zero]; rfl)); (case hQ3 => exact fun _ _ _ h => h); (case hw3 => rfl); (case hy3 => ((intro w hSw); (try dsimp only at hSw); go_simp; (try with_reducible rfl)))) | (refine wpAnyH_take (i := 3) (oi := ?oi4) (v := undef) ?hi4 (by kernel_rfl) (by kernel_rfl) (by kernel_rfl) ?hQ4 (Or.inr ⟨?hw4, rfl⟩) (by assumption) ?rest4; (case hi4 => (simp only [List.getElem?_toArray, List.getElem?_cons_succ, List.getElem?_cons_zero]; rfl)); (case hQ4 => exact fun _ _ _ h => h); (case hw4 => rfl))
    (try simp only [Act.put, List.setIfInBounds_toArray, List.set_cons_zero, List.set_cons_succ])
    first | (refine wpAnyH_take (i := 4) (oi := ?oi5) (v := ?v5) ?hi5 (by kernel_rfl) (by kernel_rfl) (by kernel_rfl) ?hQ5 (Or.inl ⟨?hw5, ?hy5⟩) (by assumption) ?rest5; (case hi5 => (simp only [List.getElem?_toArray, List.getElem?_cons_succ, List.getElem?_cons_zero]; rfl)); (case hQ5 => exact fun _ _ _ h => h); (case hw5 => rfl); (case hy5 => ((intro w hSw); (try dsimp only at hSw); go_simp; (try with_reducible rfl)))) | (refine wpAnyH_take (i := 4) (oi := ?oi6) (v := undef) ?hi6 (by kernel_rfl) (by kernel_rfl) (by kernel_rfl) ?hQ6 (Or.inr ⟨?hw6, rfl⟩) (by assumption) ?rest6; (case hi6 => (simp only [List.getElem?_toArray, List.getElem?_cons_succ, List.getElem?_cons_zero]; rfl)); (case hQ6 => exact fun _ _ _ h => h); (case hw6 => rfl))
    (try simp only [Act.put, List.setIfInBounds_toArray, List.set_cons_zero, List.set_cons_succ])
    first | (refine wpAnyH_take (i := 1) (oi := ?oi7) (v := ?v7) ?hi7 (by kernel_rfl) (by kernel_rfl) (by kernel_rfl) ?hQ7 (Or.inl ⟨?hw7, ?hy7⟩) (by assumption) ?rest7; (case hi7 => (simp only [List.getElem?_toArray, List.getElem?_cons_succ, List.getElem?_cons_zero]; rfl)); (case hQ7 => exact fun _ _ _ h => h); (case hw7 => rfl); (case hy7 => ((intro w hSw); (try dsimp only at hSw); go_simp; (try with_reducible rfl)))) | (refine wpAnyH_take (i := 1) (oi := ?oi8) (v := undef) ?hi8 (by kernel_rfl) (by kernel_rfl) (by kernel_rfl) ?hQ8 (Or.inr ⟨?hw8, rfl⟩) (by assumption) ?rest8; (case hi8 => (simp only [List.getElem?_toArray, List.getElem?_cons_succ, List.getElem?_cons_zero]; rfl)); (case hQ8 => exact fun _ _ _ h => h); (case hw8 => rfl))
    (try simp only [Act.put, List.setIfInBounds_toArray, List.set_cons_zero, List.set_cons_succ])
    clear hHeld
    refine wpAnyH_ready (rs := [2, 11]) (by kernel_rfl) (by simp) ?_
    refine AllReadyH.cons (o := ?oi9) ?hi9 (fun K hK => ?rest9) (AllReadyH.cons (o := ?oi10) ?hi10 (fun K hK => ?rest10) AllReadyH.nil)
    (case hi9 => (simp only [List.getElem?_toArray, List.getElem?_cons_succ, List.getElem?_cons_zero]; rfl))
    (case hi10 => (simp only [List.getElem?_toArray, List.getElem?_cons_succ, List.getElem?_cons_zero]; rfl))
    case rest9 =>
      go_simp
      ((with_reducible refine (hN.out _ (by omega)).mono ?_); rintro e wz11 ⟨g1, rfl, hq, hg1, hb⟩)
      replace HW := Lib.hid (below_step HW.out hb)
      replace s0 := cel_below hb s0
      replace s1 := cel_below hb s1
      replace s2 := cel_below hb s2
      replace s3 := cel_below hb s3
      replace s4 := cel_below hb s4
      replace s5 := cel_below hb s5
      replace s6 := cel_below hb s6
      replace s7 := cel_below hb s7
      replace s8 := cel_below hb s8
      replace s9 := cel_below hb s9
      replace s10 := cel_below hb s10
      replace s11 := cel_below hb s11
      replace s12 := cel_below hb s12
      have HN1 := Lib.hid hq
      clear hq hg1
      replace LO := Nat.le_trans LO hb.size
      clear hb
      refine hK.out _ _ ?_ (fun _ => ?_)
      · (try dsimp only); exact ⟨s0, s1, s2, s3, s4, s5, s6, s7, s8, s9, s10, s11, s12⟩
      clear hK K
      (try simp only [Act.put, List.setIfInBounds_toArray, List.set_cons_zero, List.set_cons_succ])
      refine wpAnyH_ready (rs := [5, 11]) (by kernel_rfl) (by simp) ?_
      refine AllReadyH.cons (o := ?oi12) ?hi12 (fun K hK => ?rest12) (AllReadyH.cons (o := ?oi13) ?hi13 (fun K hK => ?rest13) AllReadyH.nil)
      (case hi12 => (simp only [List.getElem?_toArray, List.getElem?_cons_succ, List.getElem?_cons_zero]; rfl))
      (case hi13 => (simp only [List.getElem?_toArray, List.getElem?_cons_succ, List.getElem?_cons_zero]; rfl))
      case rest12 =>
        go_simp
        ((with_reducible refine (HI.out _ (hasInts_keep HV.out (below_step HWr.out HW.out))).mono ?_); rintro e wz14 ⟨u2, rfl, hq, hb⟩)
        replace HW := Lib.hid (below_step HW.out hb)
        replace s0 := cel_below hb s0
        replace s1 := cel_below hb s1
        replace s2 := cel_below hb s2
        replace s3 := cel_below hb s3
        replace s4 := cel_below hb s4
        replace s5 := cel_below hb s5
        replace s6 := cel_below hb s6
        replace s7 := cel_below hb s7
        replace s8 := cel_below hb s8
        replace s9 := cel_below hb s9
        replace s10 := cel_below hb s10
        replace s11 := cel_below hb s11
        replace s12 := cel_below hb s12
        replace HN1 := Lib.hid (hasInts_keep HN1.out hb)
        have HX1 := Lib.hid hq
        clear hq
        replace LO := Nat.le_trans LO hb.size
        clear hb
        refine hK.out _ _ ?_ (fun _ => ?_)
        · (try dsimp only); exact ⟨s0, s1, s2, s3, s4, s5, s6, s7, s8, s9, s10, s11, s12⟩
        clear hK K
        (try simp only [Act.put, List.setIfInBounds_toArray, List.set_cons_zero, List.set_cons_succ])
        refine wpAnyH_ready (rs := [6, 11]) (by kernel_rfl) (by simp) ?_
        refine AllReadyH.cons (o := ?oi15) ?hi15 (fun K hK => ?rest15) (AllReadyH.cons (o := ?oi16) ?hi16 (fun K hK => ?rest16) AllReadyH.nil)
        (case hi15 => (simp only [List.getElem?_toArray, List.getElem?_cons_succ, List.getElem?_cons_zero]; rfl))
        (case hi16 => (simp only [List.getElem?_toArray, List.getElem?_cons_succ, List.getElem?_cons_zero]; rfl))
        case rest15 =>
          go_simp
          ((with_reducible refine (all_s (List.replicate sz 0) Z (initN L zs zs.length) sz (by simp) HLI.out hszb HE.out HZ.out.symm HN1.out HX1.out).mono ?_); rintro e wz17 ⟨am, cm, r3, rfl, hq, hb⟩)
          replace HW := Lib.hid (below_step HW.out hb)
          replace s0 := cel_below hb s0
          replace s1 := cel_below hb s1
          replace s2 := cel_below hb s2
          replace s3 := cel_below hb s3
          replace s4 := cel_below hb s4
          replace s5 := cel_below hb s5
          replace s6 := cel_below hb s6
          replace s7 := cel_below hb s7
          replace s8 := cel_below hb s8
          replace s9 := cel_below hb s9
          replace s10 := cel_below hb s10
          replace s11 := cel_below hb s11
          replace s12 := cel_below hb s12
          replace HN1 := Lib.hid (hasInts_keep HN1.out hb)
          replace HX1 := Lib.hid (hasAccs_keep HX1.out hb)
          have HM1 := Lib.hid hq
          clear hq HX1 HN1
          replace LO := Nat.le_trans LO hb.size
          clear hb
          refine hK.out _ _ ?_ (fun _ => ?_)
          · (try dsimp only); exact ⟨s0, s1, s2, s3, s4, s5, s6, s7, s8, s9, s10, s11, s12⟩
          clear hK K
          (try simp only [Act.put, List.setIfInBounds_toArray, List.set_cons_zero, List.set_cons_succ])
          have hHeld : (fun W => W.cell? ⟨w2.heap.size, 0, none⟩ = some (.int .i64 c.t) ∧ W.cell? ⟨w2.heap.size, 1, none⟩ = some (.int .i64 c.l) ∧ W.cell? ⟨w2.heap.size, 2, none⟩ = some (.int .i64 c.k) ∧ W.cell? ⟨w2.heap.size, 3, none⟩ = some (.int .i64 c.s) ∧ W.cell? ⟨w2.heap.size, 4, none⟩ = some (.int .i64 c.m) ∧ W.cell? ⟨w2.heap.size, 5, none⟩ = some (.int .i64 0) ∧ W.cell? ⟨w2.heap.size, 6, none⟩ = some (.int .i64 1) ∧ W.cell? ⟨w2.heap.size, 7, none⟩ = some (.int .i64 2) ∧ W.cell? ⟨w2.heap.size, 8, none⟩ = some (.int .i64 3) ∧ W.cell? ⟨w2.heap.size, 9, none⟩ = some (.int .i64 4) ∧ W.cell? ⟨w2.heap.size, 10, none⟩ = some (.int .i64 lo) ∧ W.cell? ⟨w2.heap.size, 11, none⟩ = some (.int .i64 lc) ∧ W.cell? ⟨w2.heap.size, 12, none⟩ = some (.int .i64 (sz : Nat))) wz17 := ⟨s0, s1, s2, s3, s4, s5, s6, s7, s8, s9, s10, s11, s12⟩
          first | (refine wpAnyH_take (i := 7) (oi := ?oi18) (v := ?v18) ?hi18 (by kernel_rfl) (by kernel_rfl) (by kernel_rfl) ?hQ18 (Or.inl ⟨?hw18, ?hy18⟩) (by assumption) ?rest18; (case hi18 => (simp only [List.getElem?_toArray, List.getElem?_cons_succ, List.getElem?_cons_zero]; rfl)); (case hQ18 => exact fun _ _ _ h => h); (case hw18 => rfl); (case hy18 => ((intro w hSw); (try dsimp only at hSw); go_simp; (try with_reducible rfl)))) | (refine wpAnyH_take (i := 7) (oi := ?oi19) (v := undef) ?hi19 (by kernel_rfl) (by kernel_rfl) (by kernel_rfl) ?hQ19 (Or.inr ⟨?hw19, rfl⟩) (by assumption) ?rest19; (case hi19 => (simp only [List.getElem?_toArray, List.getElem?_cons_succ, List.getElem?_cons_zero]; rfl)); (case hQ19 => exact fun _ _ _ h => h); (case hw19 => rfl))
          (try simp only [Act.put, List.setIfInBounds_toArray, List.set_cons_zero, List.set_cons_succ])
          first | (refine wpAnyH_take (i := 8) (oi := ?oi20) (v := ?v20) ?hi20 (by kernel_rfl) (by kernel_rfl) (by kernel_rfl) ?hQ20 (Or.inl ⟨?hw20, ?hy20⟩) (by assumption) ?rest20; (case hi20 => (simp only [List.getElem?_toArray, List.getElem?_cons_succ, List.getElem?_cons_zero]; rfl)); (case hQ20 => exact fun _ _ _ h => h); (case hw20 => rfl); (case hy20 => ((intro w hSw); (try dsimp only at hSw); go_simp; (try with_reducible rfl)))) | (refine wpAnyH_take (i := 8) (oi := ?oi21) (v := undef) ?hi21 (by kernel_rfl) (by kernel_rfl) (by kernel_rfl) ?hQ21 (Or.inr ⟨?hw21, rfl⟩) (by assumption) ?rest21; (case hi21 => (simp only [List.getElem?_toArray, List.getElem?_cons_succ, List.getElem?_cons_zero]; rfl)); (case hQ21 => exact fun _ _ _ h => h); (case hw21 => rfl))
          (try simp only [Act.put, List.setIfInBounds_toArray, List.set_cons_zero, List.set_cons_succ])
          first | (refine wpAnyH_take (i := 9) (oi := ?oi22) (v := ?v22) ?hi22 (by kernel_rfl) (by kernel_rfl) (by kernel_rfl) ?hQ22 (Or.inl ⟨?hw22, ?hy22⟩) (by assumption) ?rest22; (case hi22 => (simp only [List.getElem?_toArray, List.getElem?_cons_succ, List.getElem?_cons_zero]; rfl)); (case hQ22 => exact fun _ _ _ h => h); (case hw22 => rfl); (case hy22 => ((intro w hSw); (try dsimp only at hSw); go_simp; (try with_reducible rfl)))) | (refine wpAnyH_take (i := 9) (oi := ?oi23) (v := undef) ?hi23 (by kernel_rfl) (by kernel_rfl) (by kernel_rfl) ?hQ23 (Or.inr ⟨?hw23, rfl⟩) (by assumption) ?rest23; (case hi23 => (simp only [List.getElem?_toArray, List.getElem?_cons_succ, List.getElem?_cons_zero]; rfl)); (case hQ23 => exact fun _ _ _ h => h); (case hw23 => rfl))
          (try simp only [Act.put, List.setIfInBounds_toArray, List.set_cons_zero, List.set_cons_succ])
          first | (refine wpAnyH_take (i := 10) (oi := ?oi24) (v := ?v24) ?hi24 (by kernel_rfl) (by kernel_rfl) (by kernel_rfl) ?hQ24 (Or.inl ⟨?hw24, ?hy24⟩) (by assumption) ?rest24; (case hi24 => (simp only [List.getElem?_toArray, List.getElem?_cons_succ, List.getElem?_cons_zero]; rfl)); (case hQ24 => exact fun _ _ _ h => h); (case hw24 => rfl); (case hy24 => ((intro w hSw); (try dsimp only at hSw); go_simp; (try with_reducible rfl)))) | (refine wpAnyH_take (i := 10) (oi := ?oi25) (v := undef) ?hi25 (by kernel_rfl) (by kernel_rfl) (by kernel_rfl) ?hQ25 (Or.inr ⟨?hw25, rfl⟩) (by assumption) ?rest25; (case hi25 => (simp only [List.getElem?_toArray, List.getElem?_cons_succ, List.getElem?_cons_zero]; rfl)); (case hQ25 => exact fun _ _ _ h => h); (case hw25 => rfl))
          (try simp only [Act.put, List.setIfInBounds_toArray, List.set_cons_zero, List.set_cons_succ])
          clear hHeld
          refine wpAnyH_ready (rs := [11]) (by kernel_rfl) (by simp) ?_
          refine AllReadyH.cons (o := ?oi26) ?hi26 (fun K hK => ?rest26) AllReadyH.nil
          (case hi26 => (simp only [List.getElem?_toArray, List.getElem?_cons_succ, List.getElem?_cons_zero]; rfl))
          go_simp
          obtain ⟨wz27, hwy⟩ : ∃ W, W = wz17.alloc (.cells #[.slice none 0 0] 24) := ⟨_, rfl⟩
          rw [← hwy]
          have hb : Below wz17.heap.size wz17 wz27 := by rw [hwy]; exact below_new1 _ _
          have mc0 : wz27.cell? ⟨wz17.heap.size, 0, none⟩ = some (.slice none 0 0) := by rw [hwy, World.cell?_alloc_at _ _ _ _ rfl]; rfl
          have mf0 : wz27.frozen? ⟨wz17.heap.size, 0, none⟩ = false := by rw [hwy]; exact World.frozen?_alloc_at _ _ _ _ rfl
          have mz : wz17.heap.size < wz27.heap.size := by rw [hwy]; simp
          have ml := LO
          replace HW := Lib.hid (below_step HW.out hb)
          replace s0 := cel_below hb s0
          replace s1 := cel_below hb s1
          replace s2 := cel_below hb s2
          replace s3 := cel_below hb s3
          replace s4 := cel_below hb s4
          replace s5 := cel_below hb s5
          replace s6 := cel_below hb s6
          replace s7 := cel_below hb s7
          replace s8 := cel_below hb s8
          replace s9 := cel_below hb s9
          replace s10 := cel_below hb s10
          replace s11 := cel_below hb s11
          replace s12 := cel_below hb s12
          replace HM1 := Lib.hid (hasInts_keep HM1.out hb)
          replace LO := Nat.le_trans LO hb.size
          clear hb hwy
          refine hK.out _ _ ?_ (fun _ => ?_)
          · (try dsimp only); exact ⟨s0, s1, s2, s3, s4, s5, s6, s7, s8, s9, s10, s11, s12⟩
          clear hK K
          (try simp only [Act.put, List.setIfInBounds_toArray, List.set_cons_zero, List.set_cons_succ])
          refine wpAnyH_ready (rs := [12]) (by kernel_rfl) (by simp) ?_
          refine AllReadyH.cons (o := ?oi28) ?hi28 (fun K hK => ?rest28) AllReadyH.nil
          (case hi28 => (simp only [List.getElem?_toArray, List.getElem?_cons_succ, List.getElem?_cons_zero]; rfl))
          go_simp
          obtain ⟨wz29, hwy⟩ : ∃ W, W = (wz27.setCell ⟨wz17.heap.size, 0, none⟩ (.slice am sz cm)) := ⟨_, rfl⟩
          rw [← hwy]
          replace s0 : wz29.cell? ⟨w2.heap.size, 0, none⟩ = some (.int .i64 c.t) := by rw [hwy]; exact keepA_ (s0) (Or.inl (by omega))
          replace s1 : wz29.cell? ⟨w2.heap.size, 1, none⟩ = some (.int .i64 c.l) := by rw [hwy]; exact keepA_ (s1) (Or.inl (by omega))
          replace s2 : wz29.cell? ⟨w2.heap.size, 2, none⟩ = some (.int .i64 c.k) := by rw [hwy]; exact keepA_ (s2) (Or.inl (by omega))
          replace s3 : wz29.cell? ⟨w2.heap.size, 3, none⟩ = some (.int .i64 c.s) := by rw [hwy]; exact keepA_ (s3) (Or.inl (by omega))
          replace s4 : wz29.cell? ⟨w2.heap.size, 4, none⟩ = some (.int .i64 c.m) := by rw [hwy]; exact keepA_ (s4) (Or.inl (by omega))
          replace s5 : wz29.cell? ⟨w2.heap.size, 5, none⟩ = some (.int .i64 0) := by rw [hwy]; exact keepA_ (s5) (Or.inl (by omega))
          replace s6 : wz29.cell? ⟨w2.heap.size, 6, none⟩ = some (.int .i64 1) := by rw [hwy]; exact keepA_ (s6) (Or.inl (by omega))
          replace s7 : wz29.cell? ⟨w2.heap.size, 7, none⟩ = some (.int .i64 2) := by rw [hwy]; exact keepA_ (s7) (Or.inl (by omega))
          replace s8 : wz29.cell? ⟨w2.heap.size, 8, none⟩ = some (.int .i64 3) := by rw [hwy]; exact keepA_ (s8) (Or.inl (by omega))
          replace s9 : wz29.cell? ⟨w2.heap.size, 9, none⟩ = some (.int .i64 4) := by rw [hwy]; exact keepA_ (s9) (Or.inl (by omega))
          replace s10 : wz29.cell? ⟨w2.heap.size, 10, none⟩ = some (.int .i64 lo) := by rw [hwy]; exact keepA_ (s10) (Or.inl (by omega))
          replace s11 : wz29.cell? ⟨w2.heap.size, 11, none⟩ = some (.int .i64 lc) := by rw [hwy]; exact keepA_ (s11) (Or.inl (by omega))
          replace s12 : wz29.cell? ⟨w2.heap.size, 12, none⟩ = some (.int .i64 (sz : Nat)) := by rw [hwy]; exact keepA_ (s12) (Or.inl (by omega))
          replace HM1 := Lib.hid (hasInts_setS HM1.out mc0 (u := .slice am sz cm))
          rw [← hwy] at HM1
          have md0 : wz29.cell? ⟨wz17.heap.size, 0, none⟩ = some (.slice am sz cm) := by rw [hwy]; exact World.cell?_setCell_same _ _ _ mc0
          replace mf0 : wz29.frozen? ⟨wz17.heap.size, 0, none⟩ = false := by rw [hwy]; simpa using mf0
          replace HW := Lib.hid (Below.setCell (p := ⟨wz17.heap.size, 0, none⟩) HW.out (by have := HWS.out; dsimp only; omega) (.slice am sz cm))
          rw [← hwy] at HW
          have hsz : wz29.heap.size = wz27.heap.size := by rw [hwy]; simp
          replace mz : wz17.heap.size < wz29.heap.size := by omega
          replace LO : _ ≤ wz29.heap.size := Nat.le_trans LO (Nat.le_of_eq hsz.symm)
          clear hsz hwy mc0
          have mc0 := md0
          clear md0
          refine hK.out _ _ ?_ (fun _ => ?_)
          · (try dsimp only); exact ⟨s0, s1, s2, s3, s4, s5, s6, s7, s8, s9, s10, s11, s12⟩
          clear hK K
          (try simp only [Act.put, List.setIfInBounds_toArray, List.set_cons_zero, List.set_cons_succ])
          have hHeld : (fun W => W.cell? ⟨w2.heap.size, 0, none⟩ = some (.int .i64 c.t) ∧ W.cell? ⟨w2.heap.size, 1, none⟩ = some (.int .i64 c.l) ∧ W.cell? ⟨w2.heap.size, 2, none⟩ = some (.int .i64 c.k) ∧ W.cell? ⟨w2.heap.size, 3, none⟩ = some (.int .i64 c.s) ∧ W.cell? ⟨w2.heap.size, 4, none⟩ = some (.int .i64 c.m) ∧ W.cell? ⟨w2.heap.size, 5, none⟩ = some (.int .i64 0) ∧ W.cell? ⟨w2.heap.size, 6, none⟩ = some (.int .i64 1) ∧ W.cell? ⟨w2.heap.size, 7, none⟩ = some (.int .i64 2) ∧ W.cell? ⟨w2.heap.size, 8, none⟩ = some (.int .i64 3) ∧ W.cell? ⟨w2.heap.size, 9, none⟩ = some (.int .i64 4) ∧ W.cell? ⟨w2.heap.size, 10, none⟩ = some (.int .i64 lo) ∧ W.cell? ⟨w2.heap.size, 11, none⟩ = some (.int .i64 lc) ∧ W.cell? ⟨w2.heap.size, 12, none⟩ = some (.int .i64 (sz : Nat))) wz29 := ⟨s0, s1, s2, s3, s4, s5, s6, s7, s8, s9, s10, s11, s12⟩
          first | (refine wpAnyH_take (i := 13) (oi := ?oi30) (v := ?v30) ?hi30 (by kernel_rfl) (by kernel_rfl) (by kernel_rfl) ?hQ30 (Or.inl ⟨?hw30, ?hy30⟩) (by assumption) ?rest30; (case hi30 => (simp only [List.getElem?_toArray, List.getElem?_cons_succ, List.getElem?_cons_zero]; rfl)); (case hQ30 => exact fun _ _ _ h => h); (case hw30 => rfl); (case hy30 => ((intro w hSw); (try dsimp only at hSw); go_simp; (try with_reducible rfl)))) | (refine wpAnyH_take (i := 13) (oi := ?oi31) (v := undef) ?hi31 (by kernel_rfl) (by kernel_rfl) (by kernel_rfl) ?hQ31 (Or.inr ⟨?hw31, rfl⟩) (by assumption) ?rest31; (case hi31 => (simp only [List.getElem?_toArray, List.getElem?_cons_succ, List.getElem?_cons_zero]; rfl)); (case hQ31 => exact fun _ _ _ h => h); (case hw31 => rfl))
          (try simp only [Act.put, List.setIfInBounds_toArray, List.set_cons_zero, List.set_cons_succ])
          first | (refine wpAnyH_take (i := 14) (oi := ?oi32) (v := ?v32) ?hi32 (by kernel_rfl) (by kernel_rfl) (by kernel_rfl) ?hQ32 (Or.inl ⟨?hw32, ?hy32⟩) (by assumption) ?rest32; (case hi32 => (simp only [List.getElem?_toArray, List.getElem?_cons_succ, List.getElem?_cons_zero]; rfl)); (case hQ32 => exact fun _ _ _ h => h); (case hw32 => rfl); (case hy32 => ((intro w hSw); (try dsimp only at hSw); go_simp; (try with_reducible rfl)))) | (refine wpAnyH_take (i := 14) (oi := ?oi33) (v := undef) ?hi33 (by kernel_rfl) (by kernel_rfl) (by kernel_rfl) ?hQ33 (Or.inr ⟨?hw33, rfl⟩) (by assumption) ?rest33; (case hi33 => (simp only [List.getElem?_toArray, List.getElem?_cons_succ, List.getElem?_cons_zero]; rfl)); (case hQ33 => exact fun _ _ _ h => h); (case hw33 => rfl))
          (try simp only [Act.put, List.setIfInBounds_toArray, List.set_cons_zero, List.set_cons_succ])
          clear hHeld
          refine wpAnyH_done (by kernel_rfl) ?_ _
          go_wp2_with fail
          go_meet
          exact ⟨wz17.heap.size, am, cm, rfl, mz, rfl, ml, mc0, HM1.out, HW.out⟩
        case rest16 =>
          go_simp
          obtain ⟨wz34, hwy⟩ : ∃ W, W = wz14.alloc (.cells #[.slice none 0 0] 24) := ⟨_, rfl⟩
          rw [← hwy]
          have hb : Below wz14.heap.size wz14 wz34 := by rw [hwy]; exact below_new1 _ _
          have mc0 : wz34.cell? ⟨wz14.heap.size, 0, none⟩ = some (.slice none 0 0) := by rw [hwy, World.cell?_alloc_at _ _ _ _ rfl]; rfl
          have mf0 : wz34.frozen? ⟨wz14.heap.size, 0, none⟩ = false := by rw [hwy]; exact World.frozen?_alloc_at _ _ _ _ rfl
          have mz : wz14.heap.size < wz34.heap.size := by rw [hwy]; simp
          have ml := LO
          replace HW := Lib.hid (below_step HW.out hb)
          replace s0 := cel_below hb s0
          replace s1 := cel_below hb s1
          replace s2 := cel_below hb s2
          replace s3 := cel_below hb s3
          replace s4 := cel_below hb s4
          replace s5 := cel_below hb s5
          replace s6 := cel_below hb s6
          replace s7 := cel_below hb s7
          replace s8 := cel_below hb s8
          replace s9 := cel_below hb s9
          replace s10 := cel_below hb s10
          replace s11 := cel_below hb s11
          replace s12 := cel_below hb s12
          replace HN1 := Lib.hid (hasInts_keep HN1.out hb)
          replace HX1 := Lib.hid (hasAccs_keep HX1.out hb)
          replace LO := Nat.le_trans LO hb.size
          clear hb hwy
          refine hK.out _ _ ?_ (fun _ => ?_)
          · (try dsimp only); exact ⟨s0, s1, s2, s3, s4, s5, s6, s7, s8, s9, s10, s11, s12⟩
          clear hK K
          (try simp only [Act.put, List.setIfInBounds_toArray, List.set_cons_zero, List.set_cons_succ])
          refine wpAnyH_ready (rs := [6]) (by kernel_rfl) (by simp) ?_
          refine AllReadyH.cons (o := ?oi35) ?hi35 (fun K hK => ?rest35) AllReadyH.nil
          (case hi35 => (simp only [List.getElem?_toArray, List.getElem?_cons_succ, List.getElem?_cons_zero]; rfl))
          go_simp
          ((with_reducible refine (all_s (List.replicate sz 0) Z (initN L zs zs.length) sz (by simp) HLI.out hszb HE.out HZ.out.symm HN1.out HX1.out).mono ?_); rintro e wz36 ⟨am, cm, r3, rfl, hq, hb⟩)
          replace HW := Lib.hid (below_step HW.out hb)
          replace s0 := cel_below hb s0
          replace s1 := cel_below hb s1
          replace s2 := cel_below hb s2
          replace s3 := cel_below hb s3
          replace s4 := cel_below hb s4
          replace s5 := cel_below hb s5
          replace s6 := cel_below hb s6
          replace s7 := cel_below hb s7
          replace s8 := cel_below hb s8
          replace s9 := cel_below hb s9
          replace s10 := cel_below hb s10
          replace s11 := cel_below hb s11
          replace s12 := cel_below hb s12
          replace mc0 := cel_below hb mc0
          replace mf0 := fro_below hb mz mf0
          replace mz := lt_below hb mz
          replace HN1 := Lib.hid (hasInts_keep HN1.out hb)
          replace HX1 := Lib.hid (hasAccs_keep HX1.out hb)
          have HM1 := Lib.hid hq
          clear hq HX1 HN1
          replace LO := Nat.le_trans LO hb.size
          clear hb
          refine hK.out _ _ ?_ (fun _ => ?_)
          · (try dsimp only); exact ⟨s0, s1, s2, s3, s4, s5, s6, s7, s8, s9, s10, s11, s12⟩
          clear hK K
          (try simp only [Act.put, List.setIfInBounds_toArray, List.set_cons_zero, List.set_cons_succ])
          have hHeld : (fun W => W.cell? ⟨w2.heap.size, 0, none⟩ = some (.int .i64 c.t) ∧ W.cell? ⟨w2.heap.size, 1, none⟩ = some (.int .i64 c.l) ∧ W.cell? ⟨w2.heap.size, 2, none⟩ = some (.int .i64 c.k) ∧ W.cell? ⟨w2.heap.size, 3, none⟩ = some (.int .i64 c.s) ∧ W.cell? ⟨w2.heap.size, 4, none⟩ = some (.int .i64 c.m) ∧ W.cell? ⟨w2.heap.size, 5, none⟩ = some (.int .i64 0) ∧ W.cell? ⟨w2.heap.size, 6, none⟩ = some (.int .i64 1) ∧ W.cell? ⟨w2.heap.size, 7, none⟩ = some (.int .i64 2) ∧ W.cell? ⟨w2.heap.size, 8, none⟩ = some (.int .i64 3) ∧ W.cell? ⟨w2.heap.size, 9, none⟩ = some (.int .i64 4) ∧ W.cell? ⟨w2.heap.size, 10, none⟩ = some (.int .i64 lo) ∧ W.cell? ⟨w2.heap.size, 11, none⟩ = some (.int .i64 lc) ∧ W.cell? ⟨w2.heap.size, 12, none⟩ = some (.int .i64 (sz : Nat))) wz36 := ⟨s0, s1, s2, s3, s4, s5, s6, s7, s8, s9, s10, s11, s12⟩
          first | (refine wpAnyH_take (i := 7) (oi := ?oi37) (v := ?v37) ?hi37 (by kernel_rfl) (by kernel_rfl) (by kernel_rfl) ?hQ37 (Or.inl ⟨?hw37, ?hy37⟩) (by assumption) ?rest37; (case hi37 => (simp only [List.getElem?_toArray, List.getElem?_cons_succ, List.getElem?_cons_zero]; rfl)); (case hQ37 => exact fun _ _ _ h => h); (case hw37 => rfl); (case hy37 => ((intro w hSw); (try dsimp only at hSw); go_simp; (try with_reducible rfl)))) | (refine wpAnyH_take (i := 7) (oi := ?oi38) (v := undef) ?hi38 (by kernel_rfl) (by kernel_rfl) (by kernel_rfl) ?hQ38 (Or.inr ⟨?hw38, rfl⟩) (by assumption) ?rest38; (case hi38 => (simp only [List.getElem?_toArray, List.getElem?_cons_succ, List.getElem?_cons_zero]; rfl)); (case hQ38 => exact fun _ _ _ h => h); (case hw38 => rfl))
          (try simp only [Act.put, List.setIfInBounds_toArray, List.set_cons_zero, List.set_cons_succ])
          first | (refine wpAnyH_take (i := 8) (oi := ?oi39) (v := ?v39) ?hi39 (by kernel_rfl) (by kernel_rfl) (by kernel_rfl) ?hQ39 (Or.inl ⟨?hw39, ?hy39⟩) (by assumption) ?rest39; (case hi39 => (simp only [List.getElem?_toArray, List.getElem?_cons_succ, List.getElem?_cons_zero]; rfl)); (case hQ39 => exact fun _ _ _ h => h); (case hw39 => rfl); (case hy39 => ((intro w hSw); (try dsimp only at hSw); go_simp; (try with_reducible rfl)))) | (refine wpAnyH_take (i := 8) (oi := ?oi40) (v := undef) ?hi40 (by kernel_rfl) (by kernel_rfl) (by kernel_rfl) ?hQ40 (Or.inr ⟨?hw40, rfl⟩) (by assumption) ?rest40; (case hi40 => (simp only [List.getElem?_toArray, List.getElem?_cons_succ, List.getElem?_cons_zero]; rfl)); (case hQ40 => exact fun _ _ _ h => h); (case hw40 => rfl))
          (try simp only [Act.put, List.setIfInBounds_toArray, List.set_cons_zero, List.set_cons_succ])
          first | (refine wpAnyH_take (i := 9) (oi := ?oi41) (v := ?v41) ?hi41 (by kernel_rfl) (by kernel_rfl) (by kernel_rfl) ?hQ41 (Or.inl ⟨?hw41, ?hy41⟩) (by assumption) ?rest41; (case hi41 => (simp only [List.getElem?_toArray, List.getElem?_cons_succ, List.getElem?_cons_zero]; rfl)); (case hQ41 => exact fun _ _ _ h => h); (case hw41 => rfl); (case hy41 => ((intro w hSw); (try dsimp only at hSw); go_simp; (try with_reducible rfl)))) | (refine wpAnyH_take (i := 9) (oi := ?oi42) (v := undef) ?hi42 (by kernel_rfl) (by kernel_rfl) (by kernel_rfl) ?hQ42 (Or.inr ⟨?hw42, rfl⟩) (by assumption) ?rest42; (case hi42 => (simp only [List.getElem?_toArray, List.getElem?_cons_succ, List.getElem?_cons_zero]; rfl)); (case hQ42 => exact fun _ _ _ h => h); (case hw42 => rfl))
          (try simp only [Act.put, List.setIfInBounds_toArray, List.set_cons_zero, List.set_cons_succ])
          first | (refine wpAnyH_take (i := 10) (oi := ?oi43) (v := ?v43) ?hi43 (by kernel_rfl) (by kernel_rfl) (by kernel_rfl) ?hQ43 (Or.inl ⟨?hw43, ?hy43⟩) (by assumption) ?rest43; (case hi43 => (simp only [List.getElem?_toArray, List.getElem?_cons_succ, List.getElem?_cons_zero]; rfl)); (case hQ43 => exact fun _ _ _ h => h); (case hw43 => rfl); (case hy43 => ((intro w hSw); (try dsimp only at hSw); go_simp; (try with_reducible rfl)))) | (refine wpAnyH_take (i := 10) (oi := ?oi44) (v := undef) ?hi44 (by kernel_rfl) (by kernel_rfl) (by kernel_rfl) ?hQ44 (Or.inr ⟨?hw44, rfl⟩) (by assumption) ?rest44; (case hi44 => (simp only [List.getElem?_toArray, List.getElem?_cons_succ, List.getElem?_cons_zero]; rfl)); (case hQ44 => exact fun _ _ _ h => h); (case hw44 => rfl))
          (try simp only [Act.put, List.setIfInBounds_toArray, List.set_cons_zero, List.set_cons_succ])
          clear hHeld
          refine wpAnyH_ready (rs := [12]) (by kernel_rfl) (by simp) ?_
          refine AllReadyH.cons (o := ?oi45) ?hi45 (fun K hK => ?rest45) AllReadyH.nil
          (case hi45 => (simp only [List.getElem?_toArray, List.getElem?_cons_succ, List.getElem?_cons_zero]; rfl))
          go_simp
          obtain ⟨wz46, hwy⟩ : ∃ W, W = (wz36.setCell ⟨wz14.heap.size, 0, none⟩ (.slice am sz cm)) := ⟨_, rfl⟩
          rw [← hwy]
          replace s0 : wz46.cell? ⟨w2.heap.size, 0, none⟩ = some (.int .i64 c.t) := by rw [hwy]; exact keepA_ (s0) (Or.inl (by omega))
          replace s1 : wz46.cell? ⟨w2.heap.size, 1, none⟩ = some (.int .i64 c.l) := by rw [hwy]; exact keepA_ (s1) (Or.inl (by omega))
          replace s2 : wz46.cell? ⟨w2.heap.size, 2, none⟩ = some (.int .i64 c.k) := by rw [hwy]; exact keepA_ (s2) (Or.inl (by omega))
          replace s3 : wz46.cell? ⟨w2.heap.size, 3, none⟩ = some (.int .i64 c.s) := by rw [hwy]; exact keepA_ (s3) (Or.inl (by omega))
          replace s4 : wz46.cell? ⟨w2.heap.size, 4, none⟩ = some (.int .i64 c.m) := by rw [hwy]; exact keepA_ (s4) (Or.inl (by omega))
          replace s5 : wz46.cell? ⟨w2.heap.size, 5, none⟩ = some (.int .i64 0) := by rw [hwy]; exact keepA_ (s5) (Or.inl (by omega))
          replace s6 : wz46.cell? ⟨w2.heap.size, 6, none⟩ = some (.int .i64 1) := by rw [hwy]; exact keepA_ (s6) (Or.inl (by omega))
          replace s7 : wz46.cell? ⟨w2.heap.size, 7, none⟩ = some (.int .i64 2) := by rw [hwy]; exact keepA_ (s7) (Or.inl (by omega))
          replace s8 : wz46.cell? ⟨w2.heap.size, 8, none⟩ = some (.int .i64 3) := by rw [hwy]; exact keepA_ (s8) (Or.inl (by omega))
          replace s9 : wz46.cell? ⟨w2.heap.size, 9, none⟩ = some (.int .i64 4) := by rw [hwy]; exact keepA_ (s9) (Or.inl (by omega))
          replace s10 : wz46.cell? ⟨w2.heap.size, 10, none⟩ = some (.int .i64 lo) := by rw [hwy]; exact keepA_ (s10) (Or.inl (by omega))
          replace s11 : wz46.cell? ⟨w2.heap.size, 11, none⟩ = some (.int .i64 lc) := by rw [hwy]; exact keepA_ (s11) (Or.inl (by omega))
          replace s12 : wz46.cell? ⟨w2.heap.size, 12, none⟩ = some (.int .i64 (sz : Nat)) := by rw [hwy]; exact keepA_ (s12) (Or.inl (by omega))
          replace HM1 := Lib.hid (hasInts_setS HM1.out mc0 (u := .slice am sz cm))
          rw [← hwy] at HM1
          have md0 : wz46.cell? ⟨wz14.heap.size, 0, none⟩ = some (.slice am sz cm) := by rw [hwy]; exact World.cell?_setCell_same _ _ _ mc0
          replace mf0 : wz46.frozen? ⟨wz14.heap.size, 0, none⟩ = false := by rw [hwy]; simpa using mf0
          replace HW := Lib.hid (Below.setCell (p := ⟨wz14.heap.size, 0, none⟩) HW.out (by have := HWS.out; dsimp only; omega) (.slice am sz cm))
          rw [← hwy] at HW
          have hsz : wz46.heap.size = wz36.heap.size := by rw [hwy]; simp
          replace mz : wz14.heap.size < wz46.heap.size := by omega
          replace LO : _ ≤ wz46.heap.size := Nat.le_trans LO (Nat.le_of_eq hsz.symm)
          clear hsz hwy mc0
          have mc0 := md0
          clear md0
          refine hK.out _ _ ?_ (fun _ => ?_)
          · (try dsimp only); exact ⟨s0, s1, s2, s3, s4, s5, s6, s7, s8, s9, s10, s11, s12⟩
          clear hK K
          (try simp only [Act.put, List.setIfInBounds_toArray, List.set_cons_zero, List.set_cons_succ])
          have hHeld : (fun W => W.cell? ⟨w2.heap.size, 0, none⟩ = some (.int .i64 c.t) ∧ W.cell? ⟨w2.heap.size, 1, none⟩ = some (.int .i64 c.l) ∧ W.cell? ⟨w2.heap.size, 2, none⟩ = some (.int .i64 c.k) ∧ W.cell? ⟨w2.heap.size, 3, none⟩ = some (.int .i64 c.s) ∧ W.cell? ⟨w2.heap.size, 4, none⟩ = some (.int .i64 c.m) ∧ W.cell? ⟨w2.heap.size, 5, none⟩ = some (.int .i64 0) ∧ W.cell? ⟨w2.heap.size, 6, none⟩ = some (.int .i64 1) ∧ W.cell? ⟨w2.heap.size, 7, none⟩ = some (.int .i64 2) ∧ W.cell? ⟨w2.heap.size, 8, none⟩ = some (.int .i64 3) ∧ W.cell? ⟨w2.heap.size, 9, none⟩ = some (.int .i64 4) ∧ W.cell? ⟨w2.heap.size, 10, none⟩ = some (.int .i64 lo) ∧ W.cell? ⟨w2.heap.size, 11, none⟩ = some (.int .i64 lc) ∧ W.cell? ⟨w2.heap.size, 12, none⟩ = some (.int .i64 (sz : Nat))) wz46 := ⟨s0, s1, s2, s3, s4, s5, s6, s7, s8, s9, s10, s11, s12⟩
          first | (refine wpAnyH_take (i := 13) (oi := ?oi47) (v := ?v47) ?hi47 (by kernel_rfl) (by kernel_rfl) (by kernel_rfl) ?hQ47 (Or.inl ⟨?hw47, ?hy47⟩) (by assumption) ?rest47; (case hi47 => (simp only [List.getElem?_toArray, List.getElem?_cons_succ, List.getElem?_cons_zero]; rfl)); (case hQ47 => exact fun _ _ _ h => h); (case hw47 => rfl); (case hy47 => ((intro w hSw); (try dsimp only at hSw); go_simp; (try with_reducible rfl)))) | (refine wpAnyH_take (i := 13) (oi := ?oi48) (v := undef) ?hi48 (by kernel_rfl) (by kernel_rfl) (by kernel_rfl) ?hQ48 (Or.inr ⟨?hw48, rfl⟩) (by assumption) ?rest48; (case hi48 => (simp only [List.getElem?_toArray, List.getElem?_cons_succ, List.getElem?_cons_zero]; rfl)); (case hQ48 => exact fun _ _ _ h => h); (case hw48 => rfl))
          (try simp only [Act.put, List.setIfInBounds_toArray, List.set_cons_zero, List.set_cons_succ])
          first | (refine wpAnyH_take (i := 14) (oi := ?oi49) (v := ?v49) ?hi49 (by kernel_rfl) (by kernel_rfl) (by kernel_rfl) ?hQ49 (Or.inl ⟨?hw49, ?hy49⟩) (by assumption) ?rest49; (case hi49 => (simp only [List.getElem?_toArray, List.getElem?_cons_succ, List.getElem?_cons_zero]; rfl)); (case hQ49 => exact fun _ _ _ h => h); (case hw49 => rfl); (case hy49 => ((intro w hSw); (try dsimp only at hSw); go_simp; (try with_reducible rfl)))) | (refine wpAnyH_take (i := 14) (oi := ?oi50) (v := undef) ?hi50 (by kernel_rfl) (by kernel_rfl) (by kernel_rfl) ?hQ50 (Or.inr ⟨?hw50, rfl⟩) (by assumption) ?rest50; (case hi50 => (simp only [List.getElem?_toArray, List.getElem?_cons_succ, List.getElem?_cons_zero]; rfl)); (case hQ50 => exact fun _ _ _ h => h); (case hw50 => rfl))
          (try simp only [Act.put, List.setIfInBounds_toArray, List.set_cons_zero, List.set_cons_succ])
          clear hHeld
          refine wpAnyH_done (by kernel_rfl) ?_ _
          go_wp2_with fail
          go_meet
          exact ⟨wz14.heap.size, am, cm, rfl, mz, rfl, ml, mc0, HM1.out, HW.out⟩
      case rest13 =>
        go_simp
        obtain ⟨wz51, hwy⟩ : ∃ W, W = wz11.alloc (.cells #[.slice none 0 0] 24) := ⟨_, rfl⟩
        rw [← hwy]
        have hb : Below wz11.heap.size wz11 wz51 := by rw [hwy]; exact below_new1 _ _
        have mc0 : wz51.cell? ⟨wz11.heap.size, 0, none⟩ = some (.slice none 0 0) := by rw [hwy, World.cell?_alloc_at _ _ _ _ rfl]; rfl
        have mf0 : wz51.frozen? ⟨wz11.heap.size, 0, none⟩ = false := by rw [hwy]; exact World.frozen?_alloc_at _ _ _ _ rfl
        have mz : wz11.heap.size < wz51.heap.size := by rw [hwy]; simp
        have ml := LO
        replace HW := Lib.hid (below_step HW.out hb)
        replace s0 := cel_below hb s0
        replace s1 := cel_below hb s1
        replace s2 := cel_below hb s2
        replace s3 := cel_below hb s3
        replace s4 := cel_below hb s4
        replace s5 := cel_below hb s5
        replace s6 := cel_below hb s6
        replace s7 := cel_below hb s7
        replace s8 := cel_below hb s8
        replace s9 := cel_below hb s9
        replace s10 := cel_below hb s10
        replace s11 := cel_below hb s11
        replace s12 := cel_below hb s12
        replace HN1 := Lib.hid (hasInts_keep HN1.out hb)
        replace LO := Nat.le_trans LO hb.size
        clear hb hwy
        refine hK.out _ _ ?_ (fun _ => ?_)
        · (try dsimp only); exact ⟨s0, s1, s2, s3, s4, s5, s6, s7, s8, s9, s10, s11, s12⟩
        clear hK K
        (try simp only [Act.put, List.setIfInBounds_toArray, List.set_cons_zero, List.set_cons_succ])
        refine wpAnyH_ready (rs := [5]) (by kernel_rfl) (by simp) ?_
        refine AllReadyH.cons (o := ?oi52) ?hi52 (fun K hK => ?rest52) AllReadyH.nil
        (case hi52 => (simp only [List.getElem?_toArray, List.getElem?_cons_succ, List.getElem?_cons_zero]; rfl))
        go_simp
        ((with_reducible refine (HI.out _ (hasInts_keep HV.out (below_step HWr.out HW.out))).mono ?_); rintro e wz53 ⟨u2, rfl, hq, hb⟩)
        replace HW := Lib.hid (below_step HW.out hb)
        replace s0 := cel_below hb s0
        replace s1 := cel_below hb s1
        replace s2 := cel_below hb s2
        replace s3 := cel_below hb s3
        replace s4 := cel_below hb s4
        replace s5 := cel_below hb s5
        replace s6 := cel_below hb s6
        replace s7 := cel_below hb s7
        replace s8 := cel_below hb s8
        replace s9 := cel_below hb s9
        replace s10 := cel_below hb s10
        replace s11 := cel_below hb s11
        replace s12 := cel_below hb s12
        replace mc0 := cel_below hb mc0
        replace mf0 := fro_below hb mz mf0
        replace mz := lt_below hb mz
        replace HN1 := Lib.hid (hasInts_keep HN1.out hb)
        have HX1 := Lib.hid hq
        clear hq
        replace LO := Nat.le_trans LO hb.size
        clear hb
        refine hK.out _ _ ?_ (fun _ => ?_)
        · (try dsimp only); exact ⟨s0, s1, s2, s3, s4, s5, s6, s7, s8, s9, s10, s11, s12⟩
        clear hK K
        (try simp only [Act.put, List.setIfInBounds_toArray, List.set_cons_zero, List.set_cons_succ])
        refine wpAnyH_ready (rs := [6]) (by kernel_rfl) (by simp) ?_
        refine AllReadyH.cons (o := ?oi54) ?hi54 (fun K hK => ?rest54) AllReadyH.nil
        (case hi54 => (simp only [List.getElem?_toArray, List.getElem?_cons_succ, List.getElem?_cons_zero]; rfl))
        go_simp
        ((with_reducible refine (all_s (List.replicate sz 0) Z (initN L zs zs.length) sz (by simp) HLI.out hszb HE.out HZ.out.symm HN1.out HX1.out).mono ?_); rintro e wz55 ⟨am, cm, r3, rfl, hq, hb⟩)
        replace HW := Lib.hid (below_step HW.out hb)
        replace s0 := cel_below hb s0
        replace s1 := cel_below hb s1
        replace s2 := cel_below hb s2
        replace s3 := cel_below hb s3
        replace s4 := cel_below hb s4
        replace s5 := cel_below hb s5
        replace s6 := cel_below hb s6
        replace s7 := cel_below hb s7
        replace s8 := cel_below hb s8
        replace s9 := cel_below hb s9
        replace s10 := cel_below hb s10
        replace s11 := cel_below hb s11
        replace s12 := cel_below hb s12
        replace mc0 := cel_below hb mc0
        replace mf0 := fro_below hb mz mf0
        replace mz := lt_below hb mz
        replace HN1 := Lib.hid (hasInts_keep HN1.out hb)
        replace HX1 := Lib.hid (hasAccs_keep HX1.out hb)
        have HM1 := Lib.hid hq
        clear hq HX1 HN1
        replace LO := Nat.le_trans LO hb.size
        clear hb
        refine hK.out _ _ ?_ (fun _ => ?_)
        · (try dsimp only); exact ⟨s0, s1, s2, s3, s4, s5, s6, s7, s8, s9, s10, s11, s12⟩
        clear hK K
        (try simp only [Act.put, List.setIfInBounds_toArray, List.set_cons_zero, List.set_cons_succ])
        have hHeld : (fun W => W.cell? ⟨w2.heap.size, 0, none⟩ = some (.int .i64 c.t) ∧ W.cell? ⟨w2.heap.size, 1, none⟩ = some (.int .i64 c.l) ∧ W.cell? ⟨w2.heap.size, 2, none⟩ = some (.int .i64 c.k) ∧ W.cell? ⟨w2.heap.size, 3, none⟩ = some (.int .i64 c.s) ∧ W.cell? ⟨w2.heap.size, 4, none⟩ = some (.int .i64 c.m) ∧ W.cell? ⟨w2.heap.size, 5, none⟩ = some (.int .i64 0) ∧ W.cell? ⟨w2.heap.size, 6, none⟩ = some (.int .i64 1) ∧ W.cell? ⟨w2.heap.size, 7, none⟩ = some (.int .i64 2) ∧ W.cell? ⟨w2.heap.size, 8, none⟩ = some (.int .i64 3) ∧ W.cell? ⟨w2.heap.size, 9, none⟩ = some (.int .i64 4) ∧ W.cell? ⟨w2.heap.size, 10, none⟩ = some (.int .i64 lo) ∧ W.cell? ⟨w2.heap.size, 11, none⟩ = some (.int .i64 lc) ∧ W.cell? ⟨w2.heap.size, 12, none⟩ = some (.int .i64 (sz : Nat))) wz55 := ⟨s0, s1, s2, s3, s4, s5, s6, s7, s8, s9, s10, s11, s12⟩
        first | (refine wpAnyH_take (i := 7) (oi := ?oi56) (v := ?v56) ?hi56 (by kernel_rfl) (by kernel_rfl) (by kernel_rfl) ?hQ56 (Or.inl ⟨?hw56, ?hy56⟩) (by assumption) ?rest56; (case hi56 => (simp only [List.getElem?_toArray, List.getElem?_cons_succ, List.getElem?_cons_zero]; rfl)); (case hQ56 => exact fun _ _ _ h => h); (case hw56 => rfl); (case hy56 => ((intro w hSw); (try dsimp only at hSw); go_simp; (try with_reducible rfl)))) | (refine wpAnyH_take (i := 7) (oi := ?oi57) (v := undef) ?hi57 (by kernel_rfl) (by kernel_rfl) (by kernel_rfl) ?hQ57 (Or.inr ⟨?hw57, rfl⟩) (by assumption) ?rest57; (case hi57 => (simp only [List.getElem?_toArray, List.getElem?_cons_succ, List.getElem?_cons_zero]; rfl)); (case hQ57 => exact fun _ _ _ h => h); (case hw57 => rfl))
        (try simp only [Act.put, List.setIfInBounds_toArray, List.set_cons_zero, List.set_cons_succ])
        first | (refine wpAnyH_take (i := 8) (oi := ?oi58) (v := ?v58) ?hi58 (by kernel_rfl) (by kernel_rfl) (by kernel_rfl) ?hQ58 (Or.inl ⟨?hw58, ?hy58⟩) (by assumption) ?rest58; (case hi58 => (simp only [List.getElem?_toArray, List.getElem?_cons_succ, List.getElem?_cons_zero]; rfl)); (case hQ58 => exact fun _ _ _ h => h); (case hw58 => rfl); (case hy58 => ((intro w hSw); (try dsimp only at hSw); go_simp; (try with_reducible rfl)))) | (refine wpAnyH_take (i := 8) (oi := ?oi59) (v := undef) ?hi59 (by kernel_rfl) (by kernel_rfl) (by kernel_rfl) ?hQ59 (Or.inr ⟨?hw59, rfl⟩) (by assumption) ?rest59; (case hi59 => (simp only [List.getElem?_toArray, List.getElem?_cons_succ, List.getElem?_cons_zero]; rfl)); (case hQ59 => exact fun _ _ _ h => h); (case hw59 => rfl))
        (try simp only [Act.put, List.setIfInBounds_toArray, List.set_cons_zero, List.set_cons_succ])
        first | (refine wpAnyH_take (i := 9) (oi := ?oi60) (v := ?v60) ?hi60 (by kernel_rfl) (by kernel_rfl) (by kernel_rfl) ?hQ60 (Or.inl ⟨?hw60, ?hy60⟩) (by assumption) ?rest60; (case hi60 => (simp only [List.getElem?_toArray, List.getElem?_cons_succ, List.getElem?_cons_zero]; rfl)); (case hQ60 => exact fun _ _ _ h => h); (case hw60 => rfl); (case hy60 => ((intro w hSw); (try dsimp only at hSw); go_simp; (try with_reducible rfl)))) | (refine wpAnyH_take (i := 9) (oi := ?oi61) (v := undef) ?hi61 (by kernel_rfl) (by kernel_rfl) (by kernel_rfl) ?hQ61 (Or.inr ⟨?hw61, rfl⟩) (by assumption) ?rest61; (case hi61 => (simp only [List.getElem?_toArray, List.getElem?_cons_succ, List.getElem?_cons_zero]; rfl)); (case hQ61 => exact fun _ _ _ h => h); (case hw61 => rfl))
        (try simp only [Act.put, List.setIfInBounds_toArray, List.set_cons_zero, List.set_cons_succ])
        first | (refine wpAnyH_take (i := 10) (oi := ?oi62) (v := ?v62) ?hi62 (by kernel_rfl) (by kernel_rfl) (by kernel_rfl) ?hQ62 (Or.inl ⟨?hw62, ?hy62⟩) (by assumption) ?rest62; (case hi62 => (simp only [List.getElem?_toArray, List.getElem?_cons_succ, List.getElem?_cons_zero]; rfl)); (case hQ62 => exact fun _ _ _ h => h); (case hw62 => rfl); (case hy62 => ((intro w hSw); (try dsimp only at hSw); go_simp; (try with_reducible rfl)))) | (refine wpAnyH_take (i := 10) (oi := ?oi63) (v := undef) ?hi63 (by kernel_rfl) (by kernel_rfl) (by kernel_rfl) ?hQ63 (Or.inr ⟨?hw63, rfl⟩) (by assumption) ?rest63; (case hi63 => (simp only [List.getElem?_toArray, List.getElem?_cons_succ, List.getElem?_cons_zero]; rfl)); (case hQ63 => exact fun _ _ _ h => h); (case hw63 => rfl))
        (try simp only [Act.put, List.setIfInBounds_toArray, List.set_cons_zero, List.set_cons_succ])
        clear hHeld
        refine wpAnyH_ready (rs := [12]) (by kernel_rfl) (by simp) ?_
        refine AllReadyH.cons (o := ?oi64) ?hi64 (fun K hK => ?rest64) AllReadyH.nil
        (case hi64 => (simp only [List.getElem?_toArray, List.getElem?_cons_succ, List.getElem?_cons_zero]; rfl))
        go_simp
        obtain ⟨wz65, hwy⟩ : ∃ W, W = (wz55.setCell ⟨wz11.heap.size, 0, none⟩ (.slice am sz cm)) := ⟨_, rfl⟩
        rw [← hwy]
        replace s0 : wz65.cell? ⟨w2.heap.size, 0, none⟩ = some (.int .i64 c.t) := by rw [hwy]; exact keepA_ (s0) (Or.inl (by omega))
        replace s1 : wz65.cell? ⟨w2.heap.size, 1, none⟩ = some (.int .i64 c.l) := by rw [hwy]; exact keepA_ (s1) (Or.inl (by omega))
        replace s2 : wz65.cell? ⟨w2.heap.size, 2, none⟩ = some (.int .i64 c.k) := by rw [hwy]; exact keepA_ (s2) (Or.inl (by omega))
        replace s3 : wz65.cell? ⟨w2.heap.size, 3, none⟩ = some (.int .i64 c.s) := by rw [hwy]; exact keepA_ (s3) (Or.inl (by omega))
        replace s4 : wz65.cell? ⟨w2.heap.size, 4, none⟩ = some (.int .i64 c.m) := by rw [hwy]; exact keepA_ (s4) (Or.inl (by omega))
        replace s5 : wz65.cell? ⟨w2.heap.size, 5, none⟩ = some (.int .i64 0) := by rw [hwy]; exact keepA_ (s5) (Or.inl (by omega))
        replace s6 : wz65.cell? ⟨w2.heap.size, 6, none⟩ = some (.int .i64 1) := by rw [hwy]; exact keepA_ (s6) (Or.inl (by omega))
        replace s7 : wz65.cell? ⟨w2.heap.size, 7, none⟩ = some (.int .i64 2) := by rw [hwy]; exact keepA_ (s7) (Or.inl (by omega))
        replace s8 : wz65.cell? ⟨w2.heap.size, 8, none⟩ = some (.int .i64 3) := by rw [hwy]; exact keepA_ (s8) (Or.inl (by omega))
        replace s9 : wz65.cell? ⟨w2.heap.size, 9, none⟩ = some (.int .i64 4) := by rw [hwy]; exact keepA_ (s9) (Or.inl (by omega))
        replace s10 : wz65.cell? ⟨w2.heap.size, 10, none⟩ = some (.int .i64 lo) := by rw [hwy]; exact keepA_ (s10) (Or.inl (by omega))
        replace s11 : wz65.cell? ⟨w2.heap.size, 11, none⟩ = some (.int .i64 lc) := by rw [hwy]; exact keepA_ (s11) (Or.inl (by omega))
        replace s12 : wz65.cell? ⟨w2.heap.size, 12, none⟩ = some (.int .i64 (sz : Nat)) := by rw [hwy]; exact keepA_ (s12) (Or.inl (by omega))
        replace HM1 := Lib.hid (hasInts_setS HM1.out mc0 (u := .slice am sz cm))
        rw [← hwy] at HM1
        have md0 : wz65.cell? ⟨wz11.heap.size, 0, none⟩ = some (.slice am sz cm) := by rw [hwy]; exact World.cell?_setCell_same _ _ _ mc0
        replace mf0 : wz65.frozen? ⟨wz11.heap.size, 0, none⟩ = false := by rw [hwy]; simpa using mf0
        replace HW := Lib.hid (Below.setCell (p := ⟨wz11.heap.size, 0, none⟩) HW.out (by have := HWS.out; dsimp only; omega) (.slice am sz cm))
        rw [← hwy] at HW
        have hsz : wz65.heap.size = wz55.heap.size := by rw [hwy]; simp
        replace mz : wz11.heap.size < wz65.heap.size := by omega
        replace LO : _ ≤ wz65.heap.size := Nat.le_trans LO (Nat.le_of_eq hsz.symm)
        clear hsz hwy mc0
        have mc0 := md0
        clear md0
        refine hK.out _ _ ?_ (fun _ => ?_)
        · (try dsimp only); exact ⟨s0, s1, s2, s3, s4, s5, s6, s7, s8, s9, s10, s11, s12⟩
        clear hK K
        (try simp only [Act.put, List.setIfInBounds_toArray, List.set_cons_zero, List.set_cons_succ])
        have hHeld : (fun W => W.cell? ⟨w2.heap.size, 0, none⟩ = some (.int .i64 c.t) ∧ W.cell? ⟨w2.heap.size, 1, none⟩ = some (.int .i64 c.l) ∧ W.cell? ⟨w2.heap.size, 2, none⟩ = some (.int .i64 c.k) ∧ W.cell? ⟨w2.heap.size, 3, none⟩ = some (.int .i64 c.s) ∧ W.cell? ⟨w2.heap.size, 4, none⟩ = some (.int .i64 c.m) ∧ W.cell? ⟨w2.heap.size, 5, none⟩ = some (.int .i64 0) ∧ W.cell? ⟨w2.heap.size, 6, none⟩ = some (.int .i64 1) ∧ W.cell? ⟨w2.heap.size, 7, none⟩ = some (.int .i64 2) ∧ W.cell? ⟨w2.heap.size, 8, none⟩ = some (.int .i64 3) ∧ W.cell? ⟨w2.heap.size, 9, none⟩ = some (.int .i64 4) ∧ W.cell? ⟨w2.heap.size, 10, none⟩ = some (.int .i64 lo) ∧ W.cell? ⟨w2.heap.size, 11, none⟩ = some (.int .i64 lc) ∧ W.cell? ⟨w2.heap.size, 12, none⟩ = some (.int .i64 (sz : Nat))) wz65 := ⟨s0, s1, s2, s3, s4, s5, s6, s7, s8, s9, s10, s11, s12⟩
        first | (refine wpAnyH_take (i := 13) (oi := ?oi66) (v := ?v66) ?hi66 (by kernel_rfl) (by kernel_rfl) (by kernel_rfl) ?hQ66 (Or.inl ⟨?hw66, ?hy66⟩) (by assumption) ?rest66; (case hi66 => (simp only [List.getElem?_toArray, List.getElem?_cons_succ, List.getElem?_cons_zero]; rfl)); (case hQ66 => exact fun _ _ _ h => h); (case hw66 => rfl); (case hy66 => ((intro w hSw); (try dsimp only at hSw); go_simp; (try with_reducible rfl)))) | (refine wpAnyH_take (i := 13) (oi := ?oi67) (v := undef) ?hi67 (by kernel_rfl) (by kernel_rfl) (by kernel_rfl) ?hQ67 (Or.inr ⟨?hw67, rfl⟩) (by assumption) ?rest67; (case hi67 => (simp only [List.getElem?_toArray, List.getElem?_cons_succ, List.getElem?_cons_zero]; rfl)); (case hQ67 => exact fun _ _ _ h => h); (case hw67 => rfl))
        (try simp only [Act.put, List.setIfInBounds_toArray, List.set_cons_zero, List.set_cons_succ])
        first | (refine wpAnyH_take (i := 14) (oi := ?oi68) (v := ?v68) ?hi68 (by kernel_rfl) (by kernel_rfl) (by kernel_rfl) ?hQ68 (Or.inl ⟨?hw68, ?hy68⟩) (by assumption) ?rest68; (case hi68 => (simp only [List.getElem?_toArray, List.getElem?_cons_succ, List.getElem?_cons_zero]; rfl)); (case hQ68 => exact fun _ _ _ h => h); (case hw68 => rfl); (case hy68 => ((intro w hSw); (try dsimp only at hSw); go_simp; (try with_reducible rfl)))) | (refine wpAnyH_take (i := 14) (oi := ?oi69) (v := undef) ?hi69 (by kernel_rfl) (by kernel_rfl) (by kernel_rfl) ?hQ69 (Or.inr ⟨?hw69, rfl⟩) (by assumption) ?rest69; (case hi69 => (simp only [List.getElem?_toArray, List.getElem?_cons_succ, List.getElem?_cons_zero]; rfl)); (case hQ69 => exact fun _ _ _ h => h); (case hw69 => rfl))
        (try simp only [Act.put, List.setIfInBounds_toArray, List.set_cons_zero, List.set_cons_succ])
        clear hHeld
        refine wpAnyH_done (by kernel_rfl) ?_ _
        go_wp2_with fail
        go_meet
        exact ⟨wz11.heap.size, am, cm, rfl, mz, rfl, ml, mc0, HM1.out, HW.out⟩
    case rest10 =>
      go_simp
      obtain ⟨wz70, hwy⟩ : ∃ W, W = wy0.alloc (.cells #[.slice none 0 0] 24) := ⟨_, rfl⟩
      rw [← hwy]
      have hb : Below wy0.heap.size wy0 wz70 := by rw [hwy]; exact below_new1 _ _
      have mc0 : wz70.cell? ⟨wy0.heap.size, 0, none⟩ = some (.slice none 0 0) := by rw [hwy, World.cell?_alloc_at _ _ _ _ rfl]; rfl
      have mf0 : wz70.frozen? ⟨wy0.heap.size, 0, none⟩ = false := by rw [hwy]; exact World.frozen?_alloc_at _ _ _ _ rfl
      have mz : wy0.heap.size < wz70.heap.size := by rw [hwy]; simp
      have ml := LO
      replace HW := Lib.hid (below_step HW.out hb)
      replace s0 := cel_below hb s0
      replace s1 := cel_below hb s1
      replace s2 := cel_below hb s2
      replace s3 := cel_below hb s3
      replace s4 := cel_below hb s4
      replace s5 := cel_below hb s5
      replace s6 := cel_below hb s6
      replace s7 := cel_below hb s7
      replace s8 := cel_below hb s8
      replace s9 := cel_below hb s9
      replace s10 := cel_below hb s10
      replace s11 := cel_below hb s11
      replace s12 := cel_below hb s12
      replace LO := Nat.le_trans LO hb.size
      clear hb hwy
      refine hK.out _ _ ?_ (fun _ => ?_)
      · (try dsimp only); exact ⟨s0, s1, s2, s3, s4, s5, s6, s7, s8, s9, s10, s11, s12⟩
      clear hK K
      (try simp only [Act.put, List.setIfInBounds_toArray, List.set_cons_zero, List.set_cons_succ])
      refine wpAnyH_ready (rs := [2]) (by kernel_rfl) (by simp) ?_
      refine AllReadyH.cons (o := ?oi71) ?hi71 (fun K hK => ?rest71) AllReadyH.nil
      (case hi71 => (simp only [List.getElem?_toArray, List.getElem?_cons_succ, List.getElem?_cons_zero]; rfl))
      go_simp
      ((with_reducible refine (hN.out _ (by omega)).mono ?_); rintro e wz72 ⟨g1, rfl, hq, hg1, hb⟩)
      replace HW := Lib.hid (below_step HW.out hb)
      replace s0 := cel_below hb s0
      replace s1 := cel_below hb s1
      replace s2 := cel_below hb s2
      replace s3 := cel_below hb s3
      replace s4 := cel_below hb s4
      replace s5 := cel_below hb s5
      replace s6 := cel_below hb s6
      replace s7 := cel_below hb s7
      replace s8 := cel_below hb s8
      replace s9 := cel_below hb s9
      replace s10 := cel_below hb s10
      replace s11 := cel_below hb s11
      replace s12 := cel_below hb s12
      replace mc0 := cel_below hb mc0
      replace mf0 := fro_below hb mz mf0
      replace mz := lt_below hb mz
      have HN1 := Lib.hid hq
      clear hq hg1
      replace LO := Nat.le_trans LO hb.size
      clear hb
      refine hK.out _ _ ?_ (fun _ => ?_)
      · (try dsimp only); exact ⟨s0, s1, s2, s3, s4, s5, s6, s7, s8, s9, s10, s11, s12⟩
      clear hK K
      (try simp only [Act.put, List.setIfInBounds_toArray, List.set_cons_zero, List.set_cons_succ])
      refine wpAnyH_ready (rs := [5]) (by kernel_rfl) (by simp) ?_
      refine AllReadyH.cons (o := ?oi73) ?hi73 (fun K hK => ?rest73) AllReadyH.nil
      (case hi73 => (simp only [List.getElem?_toArray, List.getElem?_cons_succ, List.getElem?_cons_zero]; rfl))
      go_simp
      ((with_reducible refine (HI.out _ (hasInts_keep HV.out (below_step HWr.out HW.out))).mono ?_); rintro e wz74 ⟨u2, rfl, hq, hb⟩)
      replace HW := Lib.hid (below_step HW.out hb)
      replace s0 := cel_below hb s0
      replace s1 := cel_below hb s1
      replace s2 := cel_below hb s2
      replace s3 := cel_below hb s3
      replace s4 := cel_below hb s4
      replace s5 := cel_below hb s5
      replace s6 := cel_below hb s6
      replace s7 := cel_below hb s7
      replace s8 := cel_below hb s8
      replace s9 := cel_below hb s9
      replace s10 := cel_below hb s10
      replace s11 := cel_below hb s11
      replace s12 := cel_below hb s12
      replace mc0 := cel_below hb mc0
      replace mf0 := fro_below hb mz mf0
      replace mz := lt_below hb mz
      replace HN1 := Lib.hid (hasInts_keep HN1.out hb)
      have HX1 := Lib.hid hq
      clear hq
      replace LO := Nat.le_trans LO hb.size
      clear hb
      refine hK.out _ _ ?_ (fun _ => ?_)
      · (try dsimp only); exact ⟨s0, s1, s2, s3, s4, s5, s6, s7, s8, s9, s10, s11, s12⟩
      clear hK K
      (try simp only [Act.put, List.setIfInBounds_toArray, List.set_cons_zero, List.set_cons_succ])
      refine wpAnyH_ready (rs := [6]) (by kernel_rfl) (by simp) ?_
      refine AllReadyH.cons (o := ?oi75) ?hi75 (fun K hK => ?rest75) AllReadyH.nil
      (case hi75 => (simp only [List.getElem?_toArray, List.getElem?_cons_succ, List.getElem?_cons_zero]; rfl))
      go_simp
      ((with_reducible refine (all_s (List.replicate sz 0) Z (initN L zs zs.length) sz (by simp) HLI.out hszb HE.out HZ.out.symm HN1.out HX1.out).mono ?_); rintro e wz76 ⟨am, cm, r3, rfl, hq, hb⟩)
      replace HW := Lib.hid (below_step HW.out hb)
      replace s0 := cel_below hb s0
      replace s1 := cel_below hb s1
      replace s2 := cel_below hb s2
      replace s3 := cel_below hb s3
      replace s4 := cel_below hb s4
      replace s5 := cel_below hb s5
      replace s6 := cel_below hb s6
      replace s7 := cel_below hb s7
      replace s8 := cel_below hb s8
      replace s9 := cel_below hb s9
      replace s10 := cel_below hb s10
      replace s11 := cel_below hb s11
      replace s12 := cel_below hb s12
      replace mc0 := cel_below hb mc0
      replace mf0 := fro_below hb mz mf0
      replace mz := lt_below hb mz
      replace HN1 := Lib.hid (hasInts_keep HN1.out hb)
      replace HX1 := Lib.hid (hasAccs_keep HX1.out hb)
      have HM1 := Lib.hid hq
      clear hq HX1 HN1
      replace LO := Nat.le_trans LO hb.size
      clear hb
      refine hK.out _ _ ?_ (fun _ => ?_)
      · (try dsimp only); exact ⟨s0, s1, s2, s3, s4, s5, s6, s7, s8, s9, s10, s11, s12⟩
      clear hK K
      (try simp only [Act.put, List.setIfInBounds_toArray, List.set_cons_zero, List.set_cons_succ])
      have hHeld : (fun W => W.cell? ⟨w2.heap.size, 0, none⟩ = some (.int .i64 c.t) ∧ W.cell? ⟨w2.heap.size, 1, none⟩ = some (.int .i64 c.l) ∧ W.cell? ⟨w2.heap.size, 2, none⟩ = some (.int .i64 c.k) ∧ W.cell? ⟨w2.heap.size, 3, none⟩ = some (.int .i64 c.s) ∧ W.cell? ⟨w2.heap.size, 4, none⟩ = some (.int .i64 c.m) ∧ W.cell? ⟨w2.heap.size, 5, none⟩ = some (.int .i64 0) ∧ W.cell? ⟨w2.heap.size, 6, none⟩ = some (.int .i64 1) ∧ W.cell? ⟨w2.heap.size, 7, none⟩ = some (.int .i64 2) ∧ W.cell? ⟨w2.heap.size, 8, none⟩ = some (.int .i64 3) ∧ W.cell? ⟨w2.heap.size, 9, none⟩ = some (.int .i64 4) ∧ W.cell? ⟨w2.heap.size, 10, none⟩ = some (.int .i64 lo) ∧ W.cell? ⟨w2.heap.size, 11, none⟩ = some (.int .i64 lc) ∧ W.cell? ⟨w2.heap.size, 12, none⟩ = some (.int .i64 (sz : Nat))) wz76 := ⟨s0, s1, s2, s3, s4, s5, s6, s7, s8, s9, s10, s11, s12⟩
      first | (refine wpAnyH_take (i := 7) (oi := ?oi77) (v := ?v77) ?hi77 (by kernel_rfl) (by kernel_rfl) (by kernel_rfl) ?hQ77 (Or.inl ⟨?hw77, ?hy77⟩) (by assumption) ?rest77; (case hi77 => (simp only [List.getElem?_toArray, List.getElem?_cons_succ, List.getElem?_cons_zero]; rfl)); (case hQ77 => exact fun _ _ _ h => h); (case hw77 => rfl); (case hy77 => ((intro w hSw); (try dsimp only at hSw); go_simp; (try with_reducible rfl)))) | (refine wpAnyH_take (i := 7) (oi := ?oi78) (v := undef) ?hi78 (by kernel_rfl) (by kernel_rfl) (by kernel_rfl) ?hQ78 (Or.inr ⟨?hw78, rfl⟩) (by assumption) ?rest78; (case hi78 => (simp only [List.getElem?_toArray, List.getElem?_cons_succ, List.getElem?_cons_zero]; rfl)); (case hQ78 => exact fun _ _ _ h => h); (case hw78 => rfl))
      (try simp only [Act.put, List.setIfInBounds_toArray, List.set_cons_zero, List.set_cons_succ])
      first | (refine wpAnyH_take (i := 8) (oi := ?oi79) (v := ?v79) ?hi79 (by kernel_rfl) (by kernel_rfl) (by kernel_rfl) ?hQ79 (Or.inl ⟨?hw79, ?hy79⟩) (by assumption) ?rest79; (case hi79 => (simp only [List.getElem?_toArray, List.getElem?_cons_succ, List.getElem?_cons_zero]; rfl)); (case hQ79 => exact fun _ _ _ h => h); (case hw79 => rfl); (case hy79 => ((intro w hSw); (try dsimp only at hSw); go_simp; (try with_reducible rfl)))) | (refine wpAnyH_take (i := 8) (oi := ?oi80) (v := undef) ?hi80 (by kernel_rfl) (by kernel_rfl) (by kernel_rfl) ?hQ80 (Or.inr ⟨?hw80, rfl⟩) (by assumption) ?rest80; (case hi80 => (simp only [List.getElem?_toArray, List.getElem?_cons_succ, List.getElem?_cons_zero]; rfl)); (case hQ80 => exact fun _ _ _ h => h); (case hw80 => rfl))
      (try simp only [Act.put, List.setIfInBounds_toArray, List.set_cons_zero, List.set_cons_succ])
      first | (refine wpAnyH_take (i := 9) (oi := ?oi81) (v := ?v81) ?hi81 (by kernel_rfl) (by kernel_rfl) (by kernel_rfl) ?hQ81 (Or.inl ⟨?hw81, ?hy81⟩) (by assumption) ?rest81; (case hi81 => (simp only [List.getElem?_toArray, List.getElem?_cons_succ, List.getElem?_cons_zero]; rfl)); (case hQ81 => exact fun _ _ _ h => h); (case hw81 => rfl); (case hy81 => ((intro w hSw); (try dsimp only at hSw); go_simp; (try with_reducible rfl)))) | (refine wpAnyH_take (i := 9) (oi := ?oi82) (v := undef) ?hi82 (by kernel_rfl) (by kernel_rfl) (by kernel_rfl) ?hQ82 (Or.inr ⟨?hw82, rfl⟩) (by assumption) ?rest82; (case hi82 => (simp only [List.getElem?_toArray, List.getElem?_cons_succ, List.getElem?_cons_zero]; rfl)); (case hQ82 => exact fun _ _ _ h => h); (case hw82 => rfl))
      (try simp only [Act.put, List.setIfInBounds_toArray, List.set_cons_zero, List.set_cons_succ])
      first | (refine wpAnyH_take (i := 10) (oi := ?oi83) (v := ?v83) ?hi83 (by kernel_rfl) (by kernel_rfl) (by kernel_rfl) ?hQ83 (Or.inl ⟨?hw83, ?hy83⟩) (by assumption) ?rest83; (case hi83 => (simp only [List.getElem?_toArray, List.getElem?_cons_succ, List.getElem?_cons_zero]; rfl)); (case hQ83 => exact fun _ _ _ h => h); (case hw83 => rfl); (case hy83 => ((intro w hSw); (try dsimp only at hSw); go_simp; (try with_reducible rfl)))) | (refine wpAnyH_take (i := 10) (oi := ?oi84) (v := undef) ?hi84 (by kernel_rfl) (by kernel_rfl) (by kernel_rfl) ?hQ84 (Or.inr ⟨?hw84, rfl⟩) (by assumption) ?rest84; (case hi84 => (simp only [List.getElem?_toArray, List.getElem?_cons_succ, List.getElem?_cons_zero]; rfl)); (case hQ84 => exact fun _ _ _ h => h); (case hw84 => rfl))
      (try simp only [Act.put, List.setIfInBounds_toArray, List.set_cons_zero, List.set_cons_succ])
      clear hHeld
      refine wpAnyH_ready (rs := [12]) (by kernel_rfl) (by simp) ?_
      refine AllReadyH.cons (o := ?oi85) ?hi85 (fun K hK => ?rest85) AllReadyH.nil
      (case hi85 => (simp only [List.getElem?_toArray, List.getElem?_cons_succ, List.getElem?_cons_zero]; rfl))
      go_simp
      obtain ⟨wz86, hwy⟩ : ∃ W, W = (wz76.setCell ⟨wy0.heap.size, 0, none⟩ (.slice am sz cm)) := ⟨_, rfl⟩
      rw [← hwy]
      replace s0 : wz86.cell? ⟨w2.heap.size, 0, none⟩ = some (.int .i64 c.t) := by rw [hwy]; exact keepA_ (s0) (Or.inl (by omega))
      replace s1 : wz86.cell? ⟨w2.heap.size, 1, none⟩ = some (.int .i64 c.l) := by rw [hwy]; exact keepA_ (s1) (Or.inl (by omega))
      replace s2 : wz86.cell? ⟨w2.heap.size, 2, none⟩ = some (.int .i64 c.k) := by rw [hwy]; exact keepA_ (s2) (Or.inl (by omega))
      replace s3 : wz86.cell? ⟨w2.heap.size, 3, none⟩ = some (.int .i64 c.s) := by rw [hwy]; exact keepA_ (s3) (Or.inl (by omega))
      replace s4 : wz86.cell? ⟨w2.heap.size, 4, none⟩ = some (.int .i64 c.m) := by rw [hwy]; exact keepA_ (s4) (Or.inl (by omega))
      replace s5 : wz86.cell? ⟨w2.heap.size, 5, none⟩ = some (.int .i64 0) := by rw [hwy]; exact keepA_ (s5) (Or.inl (by omega))
      replace s6 : wz86.cell? ⟨w2.heap.size, 6, none⟩ = some (.int .i64 1) := by rw [hwy]; exact keepA_ (s6) (Or.inl (by omega))
      replace s7 : wz86.cell? ⟨w2.heap.size, 7, none⟩ = some (.int .i64 2) := by rw [hwy]; exact keepA_ (s7) (Or.inl (by omega))
      replace s8 : wz86.cell? ⟨w2.heap.size, 8, none⟩ = some (.int .i64 3) := by rw [hwy]; exact keepA_ (s8) (Or.inl (by omega))
      replace s9 : wz86.cell? ⟨w2.heap.size, 9, none⟩ = some (.int .i64 4) := by rw [hwy]; exact keepA_ (s9) (Or.inl (by omega))
      replace s10 : wz86.cell? ⟨w2.heap.size, 10, none⟩ = some (.int .i64 lo) := by rw [hwy]; exact keepA_ (s10) (Or.inl (by omega))
      replace s11 : wz86.cell? ⟨w2.heap.size, 11, none⟩ = some (.int .i64 lc) := by rw [hwy]; exact keepA_ (s11) (Or.inl (by omega))
      replace s12 : wz86.cell? ⟨w2.heap.size, 12, none⟩ = some (.int .i64 (sz : Nat)) := by rw [hwy]; exact keepA_ (s12) (Or.inl (by omega))
      replace HM1 := Lib.hid (hasInts_setS HM1.out mc0 (u := .slice am sz cm))
      rw [← hwy] at HM1
      have md0 : wz86.cell? ⟨wy0.heap.size, 0, none⟩ = some (.slice am sz cm) := by rw [hwy]; exact World.cell?_setCell_same _ _ _ mc0
      replace mf0 : wz86.frozen? ⟨wy0.heap.size, 0, none⟩ = false := by rw [hwy]; simpa using mf0
      replace HW := Lib.hid (Below.setCell (p := ⟨wy0.heap.size, 0, none⟩) HW.out (by have := HWS.out; dsimp only; omega) (.slice am sz cm))
      rw [← hwy] at HW
      have hsz : wz86.heap.size = wz76.heap.size := by rw [hwy]; simp
      replace mz : wy0.heap.size < wz86.heap.size := by omega
      replace LO : _ ≤ wz86.heap.size := Nat.le_trans LO (Nat.le_of_eq hsz.symm)
      clear hsz hwy mc0
      have mc0 := md0
      clear md0
      refine hK.out _ _ ?_ (fun _ => ?_)
      · (try dsimp only); exact ⟨s0, s1, s2, s3, s4, s5, s6, s7, s8, s9, s10, s11, s12⟩
      clear hK K
      (try simp only [Act.put, List.setIfInBounds_toArray, List.set_cons_zero, List.set_cons_succ])
      have hHeld : (fun W => W.cell? ⟨w2.heap.size, 0, none⟩ = some (.int .i64 c.t) ∧ W.cell? ⟨w2.heap.size, 1, none⟩ = some (.int .i64 c.l) ∧ W.cell? ⟨w2.heap.size, 2, none⟩ = some (.int .i64 c.k) ∧ W.cell? ⟨w2.heap.size, 3, none⟩ = some (.int .i64 c.s) ∧ W.cell? ⟨w2.heap.size, 4, none⟩ = some (.int .i64 c.m) ∧ W.cell? ⟨w2.heap.size, 5, none⟩ = some (.int .i64 0) ∧ W.cell? ⟨w2.heap.size, 6, none⟩ = some (.int .i64 1) ∧ W.cell? ⟨w2.heap.size, 7, none⟩ = some (.int .i64 2) ∧ W.cell? ⟨w2.heap.size, 8, none⟩ = some (.int .i64 3) ∧ W.cell? ⟨w2.heap.size, 9, none⟩ = some (.int .i64 4) ∧ W.cell? ⟨w2.heap.size, 10, none⟩ = some (.int .i64 lo) ∧ W.cell? ⟨w2.heap.size, 11, none⟩ = some (.int .i64 lc) ∧ W.cell? ⟨w2.heap.size, 12, none⟩ = some (.int .i64 (sz : Nat))) wz86 := ⟨s0, s1, s2, s3, s4, s5, s6, s7, s8, s9, s10, s11, s12⟩
      first | (refine wpAnyH_take (i := 13) (oi := ?oi87) (v := ?v87) ?hi87 (by kernel_rfl) (by kernel_rfl) (by kernel_rfl) ?hQ87 (Or.inl ⟨?hw87, ?hy87⟩) (by assumption) ?rest87; (case hi87 => (simp only [List.getElem?_toArray, List.getElem?_cons_succ, List.getElem?_cons_zero]; rfl)); (case hQ87 => exact fun _ _ _ h => h); (case hw87 => rfl); (case hy87 => ((intro w hSw); (try dsimp only at hSw); go_simp; (try with_reducible rfl)))) | (refine wpAnyH_take (i := 13) (oi := ?oi88) (v := undef) ?hi88 (by kernel_rfl) (by kernel_rfl) (by kernel_rfl) ?hQ88 (Or.inr ⟨?hw88, rfl⟩) (by assumption) ?rest88; (case hi88 => (simp only [List.getElem?_toArray, List.getElem?_cons_succ, List.getElem?_cons_zero]; rfl)); (case hQ88 => exact fun _ _ _ h => h); (case hw88 => rfl))
      (try simp only [Act.put, List.setIfInBounds_toArray, List.set_cons_zero, List.set_cons_succ])
      first | (refine wpAnyH_take (i := 14) (oi := ?oi89) (v := ?v89) ?hi89 (by kernel_rfl) (by kernel_rfl) (by kernel_rfl) ?hQ89 (Or.inl ⟨?hw89, ?hy89⟩) (by assumption) ?rest89; (case hi89 => (simp only [List.getElem?_toArray, List.getElem?_cons_succ, List.getElem?_cons_zero]; rfl)); (case hQ89 => exact fun _ _ _ h => h); (case hw89 => rfl); (case hy89 => ((intro w hSw); (try dsimp only at hSw); go_simp; (try with_reducible rfl)))) | (refine wpAnyH_take (i := 14) (oi := ?oi90) (v := undef) ?hi90 (by kernel_rfl) (by kernel_rfl) (by kernel_rfl) ?hQ90 (Or.inr ⟨?hw90, rfl⟩) (by assumption) ?rest90; (case hi90 => (simp only [List.getElem?_toArray, List.getElem?_cons_succ, List.getElem?_cons_zero]; rfl)); (case hQ90 => exact fun _ _ _ h => h); (case hw90 => rfl))
      (try simp only [Act.put, List.setIfInBounds_toArray, List.set_cons_zero, List.set_cons_succ])
      clear hHeld
      refine wpAnyH_done (by kernel_rfl) ?_ _
      go_wp2_with fail
      go_meet
      exact ⟨wy0.heap.size, am, cm, rfl, mz, rfl, ml, mc0, HM1.out, HW.out⟩
  case rest =>
    obtain ⟨g, am, cm, rfl, hgB0, rfl, hg, hm, hM, hb⟩ := hcut
    have HM := Lib.hid hM
    replace HW := Lib.hid (below_step HWr.out hb)
    replace ccq0 := cel_below hb ccq0
    replace ccq1 := cel_below hb ccq1
    replace ccq2 := cel_below hb ccq2
    replace ccq3 := cel_below hb ccq3
    replace ccq4 := cel_below hb ccq4
    replace lqq0 := cel_below hb lqq0
    replace lqq1 := cel_below hb lqq1
    replace lqq2 := cel_below hb lqq2
    replace lqq3 := cel_below hb lqq3
    replace lqq4 := cel_below hb lqq4
    replace lqq5 := cel_below hb lqq5
    replace lqq6 := cel_below hb lqq6
    replace lqq7 := cel_below hb lqq7
    replace lqq8 := cel_below hb lqq8
    replace lqq9 := cel_below hb lqq9
    replace lqq10 := cel_below hb lqq10
    replace lqq11 := cel_below hb lqq11
    replace lqq12 := cel_below hb lqq12
    have zb := lt_below hb HBL
    have zc := lt_below hb z0
    clear hb hM hg z0 z1 HBL HWS
    go_wp2_with (first | (at_make; refine wpList_make_full _ rfl _ _ 22 rfl w.heap.size 3 i0 (.int .i64 0) 1 Try.underlying22 hi hz0 hz1 _ _ _ _ sz rfl rfl rfl rfl ?_ ?_ ?_ ?_))
    · rw [hz2]; omega
    · unfold maxLen; omega
    · exact HW.out.size
    intro w5 hown hgr
    have hown0 : w5.ownsRow w.heap.size 3 1 (.slice (some ⟨wc.heap.size, 0, none⟩) sz sz) sz ((List.replicate sz (0 : Int)).map (Value.int .i64)) := by
      have h := hown
      rw [madeZeros] at h
      exact h
    have hb := gb_below hgr
    have HB5 := Lib.hid hb
    have h1c : w5.cell? ⟨wc.heap.size, 1, none⟩ = some (.int .i64 0) := by
      rw [hown0.cellAt 1 (by omega)]
      have : 1 < sz := by omega
      simp [List.getElem?_replicate, this]
    have h1f : w5.frozen? ⟨wc.heap.size, 1, none⟩ = false := hown0.frozenAt 1
    have HO6 := Lib.hid (hown0.stored 1 (.int .i64 1)).1
    replace HW := Lib.hid (below_step HW.out hb)
    have HM5 := Lib.hid (hasInts_keep HM.out hb)
    replace ccq0 := cel_below hb ccq0
    replace ccq1 := cel_below hb ccq1
    replace ccq2 := cel_below hb ccq2
    replace ccq3 := cel_below hb ccq3
    replace ccq4 := cel_below hb ccq4
    replace lqq0 := cel_below hb lqq0
    replace lqq1 := cel_below hb lqq1
    replace lqq2 := cel_below hb lqq2
    replace lqq3 := cel_below hb lqq3
    replace lqq4 := cel_below hb lqq4
    replace lqq5 := cel_below hb lqq5
    replace lqq6 := cel_below hb lqq6
    replace lqq7 := cel_below hb lqq7
    replace lqq8 := cel_below hb lqq8
    replace lqq9 := cel_below hb lqq9
    replace lqq10 := cel_below hb lqq10
    replace lqq11 := cel_below hb lqq11
    replace lqq12 := cel_below hb lqq12
    replace hm := cel_below hb hm
    have hgB : g < wc.heap.size := by first | exact hgB0 | omega
    have HC5 : Hid (wc.heap.size < w5.heap.size) := Lib.hid (by have := World.block_lt_of_cell? w5 _ h1c; exact this)
    have h1s : decide ((0 : Int) < 1) = true := rfl
    have hsz1 : (1 : Int) < sz := by omega
    obtain ⟨B, hB⟩ : ∃ B, B = wc.heap.size := ⟨_, rfl⟩
    rw [← hB] at h1c h1f HO6 HC5 hgB zb zc HB5 ⊢
    have HB := Lib.hid hB
    clear hb hown hown0 hgr hB
    go_wp2
    obtain ⟨W6, hW6⟩ : ∃ W, W = w5.setCell ⟨B, 1, none⟩ (.int .i64 1) := ⟨_, rfl⟩
    rw [← hW6] at HO6 ⊢
    have HB6 : Hid (Below B w5 W6) := Lib.hid (by rw [hW6]; exact Below.setCell (p := ⟨B, 1, none⟩) (Below.refl B w5) (Nat.le_refl B) _)
    have HS6 : Hid (W6.heap.size = w5.heap.size) := Lib.hid (by rw [hW6]; simp)
    have HQ0 : Hid ((Q 0).map (Value.int .i64) = ((List.replicate sz (0 : Int)).map (Value.int .i64)).set 1 (.int .i64 1)) := Lib.hid (by rw [← HQ.out, HS0.out, List.map_set])
    clear hW6 h1c h1f
    go_loopw [12] (fun i wr => ∃ k : Nat, k ≤ len ∧ i = .int .i64 k ∧ wr.ownsRow w.heap.size 3 1 (.slice (some ⟨B, 0, none⟩) sz sz) sz ((Q k).map (Value.int .i64)) ∧ Below B w5 wr) (fun i _ => len - (intOf i).toNat)
    case atStart => exact ⟨0, Nat.zero_le _, rfl, by rw [HQ0.out]; exact HO6.out, HB6.out⟩
    case round =>
      obtain ⟨k, hk, rfl, hor, hbr⟩ := hrel
      have rccq0 : wr.cell? ⟨w.heap.size, 0, none⟩ = some (.int .i64 c.t) := (hbr.cell (p := ⟨w.heap.size, 0, none⟩) zc).trans ccq0
      have rccq1 : wr.cell? ⟨w.heap.size, 1, none⟩ = some (.int .i64 c.l) := (hbr.cell (p := ⟨w.heap.size, 1, none⟩) zc).trans ccq1
      have rccq2 : wr.cell? ⟨w.heap.size, 2, none⟩ = some (.int .i64 c.k) := (hbr.cell (p := ⟨w.heap.size, 2, none⟩) zc).trans ccq2
      have rccq3 : wr.cell? ⟨w.heap.size, 3, none⟩ = some (.int .i64 c.s) := (hbr.cell (p := ⟨w.heap.size, 3, none⟩) zc).trans ccq3
      have rccq4 : wr.cell? ⟨w.heap.size, 4, none⟩ = some (.int .i64 c.m) := (hbr.cell (p := ⟨w.heap.size, 4, none⟩) zc).trans ccq4
      have rlqq0 : wr.cell? ⟨w2.heap.size, 0, none⟩ = some (.int .i64 c.t) := (hbr.cell (p := ⟨w2.heap.size, 0, none⟩) zb).trans lqq0
      have rlqq1 : wr.cell? ⟨w2.heap.size, 1, none⟩ = some (.int .i64 c.l) := (hbr.cell (p := ⟨w2.heap.size, 1, none⟩) zb).trans lqq1
      have rlqq2 : wr.cell? ⟨w2.heap.size, 2, none⟩ = some (.int .i64 c.k) := (hbr.cell (p := ⟨w2.heap.size, 2, none⟩) zb).trans lqq2
      have rlqq3 : wr.cell? ⟨w2.heap.size, 3, none⟩ = some (.int .i64 c.s) := (hbr.cell (p := ⟨w2.heap.size, 3, none⟩) zb).trans lqq3
      have rlqq4 : wr.cell? ⟨w2.heap.size, 4, none⟩ = some (.int .i64 c.m) := (hbr.cell (p := ⟨w2.heap.size, 4, none⟩) zb).trans lqq4
      have rlqq5 : wr.cell? ⟨w2.heap.size, 5, none⟩ = some (.int .i64 0) := (hbr.cell (p := ⟨w2.heap.size, 5, none⟩) zb).trans lqq5
      have rlqq6 : wr.cell? ⟨w2.heap.size, 6, none⟩ = some (.int .i64 1) := (hbr.cell (p := ⟨w2.heap.size, 6, none⟩) zb).trans lqq6
      have rlqq7 : wr.cell? ⟨w2.heap.size, 7, none⟩ = some (.int .i64 2) := (hbr.cell (p := ⟨w2.heap.size, 7, none⟩) zb).trans lqq7
      have rlqq8 : wr.cell? ⟨w2.heap.size, 8, none⟩ = some (.int .i64 3) := (hbr.cell (p := ⟨w2.heap.size, 8, none⟩) zb).trans lqq8
      have rlqq9 : wr.cell? ⟨w2.heap.size, 9, none⟩ = some (.int .i64 4) := (hbr.cell (p := ⟨w2.heap.size, 9, none⟩) zb).trans lqq9
      have rlqq10 : wr.cell? ⟨w2.heap.size, 10, none⟩ = some (.int .i64 lo) := (hbr.cell (p := ⟨w2.heap.size, 10, none⟩) zb).trans lqq10
      have rlqq11 : wr.cell? ⟨w2.heap.size, 11, none⟩ = some (.int .i64 lc) := (hbr.cell (p := ⟨w2.heap.size, 11, none⟩) zb).trans lqq11
      have rlqq12 : wr.cell? ⟨w2.heap.size, 12, none⟩ = some (.int .i64 (sz : Nat)) := (hbr.cell (p := ⟨w2.heap.size, 12, none⟩) zb).trans lqq12
      have rhm : wr.cell? ⟨g, 0, none⟩ = some (.slice am sz cm) := (hbr.cell (p := ⟨g, 0, none⟩) hgB).trans hm
      have HBR := Lib.hid hbr
      have HOR := Lib.hid hor
      have HWw : Hid (Below w.heap.size w wr) := Lib.hid (HW.out.trans (hbr.mono (by have := HB.out; omega)))
      clear hbr hor
      have fin : Q k = Z → Hid (HasInts wr (.slice (some ⟨B, 0, none⟩) sz sz) Z) := fun hq => Lib.hid (by
        have h := hasInts_of_owns (w := wr) (B := w.heap.size) (v := .slice (some ⟨B, 0, none⟩) sz sz) (zs := Q k) (by rw [← HQ.out, HSL.out, HQ.out]; exact HOR.out)
        rwa [hq] at h)
      have FIN := Lib.hid fin
      clear fin
      by_cases hlt : k < len
      · by_cases hloc : (k : Int) < c.l
        · obtain ⟨b, o, hab, hxc⟩ : ∃ b o, a = some ⟨b, o, none⟩ ∧ w.cell? ⟨b, o + k, none⟩ = some (.int .i64 (zs.getD k 0)) := by
            obtain ⟨a', cap', he, _, h⟩ := HV.out
            simp only [Value.slice.injEq] at he
            obtain ⟨rfl, _, _⟩ := he
            rcases h with h | ⟨b, o, rfl, h⟩
            · have := HZL.out; omega
            · exact ⟨b, o, rfl, h k (by have := HZL.out; omega)⟩
          subst hab
          obtain ⟨x, hx⟩ : ∃ x, x = zs.getD k 0 := ⟨_, rfl⟩
          rw [← hx] at hxc
          have hbw : b < B := by have h1 := World.block_lt_of_cell? w _ hxc; have : b < w.heap.size := h1; omega
          have rx := cel_below HWw.out hxc
          obtain ⟨J, hJ⟩ : ∃ J, J = lc.toNat + k * 4 + 1 := ⟨_, rfl⟩
          have hJs : J < sz := by rw [hJ]; exact HLT.out k hloc
          have hJi : (J : Int) < sz := by omega
          have HVJ : Hid (∀ w, Calls Try.prog 41 #[.agg #[.int .i64 c.t, .int .i64 c.l, .int .i64 c.k, .int .i64 c.s, .int .i64 c.m, .int .i64 0, .int .i64 1, .int .i64 2, .int .i64 3, .int .i64 4, .int .i64 lo, .int .i64 lc, .int .i64 ((sz : Nat) : Int)], .int .i64 k] w fun e' w' => e' = .returned (.int .i64 (J : Nat)) ∧ Below w.heap.size w w') := Lib.hid (fun w => by rw [hJ]; exact HVk.out k w hloc)
          have HQk : Hid ((Q (k + 1)).map (Value.int .i64) = ((Q k).map (Value.int .i64)).set J (.int .i64 x)) := Lib.hid (by rw [← HQ.out, HST.out k hloc, HQ.out, ← hJ, ← hx, List.map_set])
          obtain ⟨y, hy⟩ : ∃ y, ((Q k).map (Value.int .i64))[J]? = some (.int .i64 y) := by
            have : J < (Q k).length := by rw [← HQ.out, HSL.out]; exact hJs
            exact ⟨(Q k)[J], by simp [this]⟩
          have HY := Lib.hid hy
          have hlt2 : (k : Int) < len := by omega
          have HBs : Hid (B ≤ wr.heap.size) := Lib.hid (by have := HBR.out.size; have := HC5.out; omega)
          clear hx hJ hy hxc
          have HWo := Lib.hid HWw.out
          have HW := Lib.hid (Below.refl wr.heap.size wr)
          go_wp2_with fail
          refine wp_region_held_drew (S := fun W => W.cell? ⟨w2.heap.size, 0, none⟩ = some (.int .i64 c.t) ∧ W.cell? ⟨w2.heap.size, 1, none⟩ = some (.int .i64 c.l) ∧ W.cell? ⟨w2.heap.size, 2, none⟩ = some (.int .i64 c.k) ∧ W.cell? ⟨w2.heap.size, 3, none⟩ = some (.int .i64 c.s) ∧ W.cell? ⟨w2.heap.size, 4, none⟩ = some (.int .i64 c.m) ∧ W.cell? ⟨w2.heap.size, 5, none⟩ = some (.int .i64 0) ∧ W.cell? ⟨w2.heap.size, 6, none⟩ = some (.int .i64 1) ∧ W.cell? ⟨w2.heap.size, 7, none⟩ = some (.int .i64 2) ∧ W.cell? ⟨w2.heap.size, 8, none⟩ = some (.int .i64 3) ∧ W.cell? ⟨w2.heap.size, 9, none⟩ = some (.int .i64 4) ∧ W.cell? ⟨w2.heap.size, 10, none⟩ = some (.int .i64 lo) ∧ W.cell? ⟨w2.heap.size, 11, none⟩ = some (.int .i64 lc) ∧ W.cell? ⟨w2.heap.size, 12, none⟩ = some (.int .i64 (sz : Nat)) ∧ W.cell? ⟨b, o + k, none⟩ = some (.int .i64 x)) (by kernel_rfl) ?_ (fun hHeld => ?_)
          · (try dsimp only); exact ⟨by first | assumption | go_simp, by first | assumption | go_simp, by first | assumption | go_simp, by first | assumption | go_simp, by first | assumption | go_simp, by first | assumption | go_simp, by first | assumption | go_simp, by first | assumption | go_simp, by first | assumption | go_simp, by first | assumption | go_simp, by first | assumption | go_simp, by first | assumption | go_simp, by first | assumption | go_simp, by first | assumption | go_simp⟩
          replace HW := Lib.hid (below_drews HW.out 1)
          first | (refine wpAnyH_take (i := 0) (oi := ?oi91) (v := ?v91) ?hi91 (by kernel_rfl) (by kernel_rfl) (by kernel_rfl) ?hQ91 (Or.inl ⟨?hw91, ?hy91⟩) (by assumption) ?rest91; (case hi91 => (simp only [List.getElem?_toArray, List.getElem?_cons_zero]; rfl)); (case hQ91 => exact fun _ _ _ h => h); (case hw91 => rfl); (case hy91 => ((intro w hSw); (try dsimp only at hSw); go_simp; (try with_reducible rfl)))) | (refine wpAnyH_take (i := 0) (oi := ?oi92) (v := undef) ?hi92 (by kernel_rfl) (by kernel_rfl) (by kernel_rfl) ?hQ92 (Or.inr ⟨?hw92, rfl⟩) (by assumption) ?rest92; (case hi92 => (simp only [List.getElem?_toArray, List.getElem?_cons_zero]; rfl)); (case hQ92 => exact fun _ _ _ h => h); (case hw92 => rfl))
          (try simp only [Act.put, List.setIfInBounds_toArray, List.set_cons_zero, List.set_cons_succ])
          first | (refine wpAnyH_take (i := 1) (oi := ?oi93) (v := ?v93) ?hi93 (by kernel_rfl) (by kernel_rfl) (by kernel_rfl) ?hQ93 (Or.inl ⟨?hw93, ?hy93⟩) (by assumption) ?rest93; (case hi93 => (simp only [List.getElem?_toArray, List.getElem?_cons_succ, List.getElem?_cons_zero]; rfl)); (case hQ93 => exact fun _ _ _ h => h); (case hw93 => rfl); (case hy93 => ((intro w hSw); (try dsimp only at hSw); go_simp; (try with_reducible rfl)))) | (refine wpAnyH_take (i := 1) (oi := ?oi94) (v := undef) ?hi94 (by kernel_rfl) (by kernel_rfl) (by kernel_rfl) ?hQ94 (Or.inr ⟨?hw94, rfl⟩) (by assumption) ?rest94; (case hi94 => (simp only [List.getElem?_toArray, List.getElem?_cons_succ, List.getElem?_cons_zero]; rfl)); (case hQ94 => exact fun _ _ _ h => h); (case hw94 => rfl))
          (try simp only [Act.put, List.setIfInBounds_toArray, List.set_cons_zero, List.set_cons_succ])
          first | (refine wpAnyH_take (i := 2) (oi := ?oi95) (v := ?v95) ?hi95 (by kernel_rfl) (by kernel_rfl) (by kernel_rfl) ?hQ95 (Or.inl ⟨?hw95, ?hy95⟩) (by assumption) ?rest95; (case hi95 => (simp only [List.getElem?_toArray, List.getElem?_cons_succ, List.getElem?_cons_zero]; rfl)); (case hQ95 => exact fun _ _ _ h => h); (case hw95 => rfl); (case hy95 => ((intro w hSw); (try dsimp only at hSw); go_simp; (try with_reducible rfl)))) | (refine wpAnyH_take (i := 2) (oi := ?oi96) (v := undef) ?hi96 (by kernel_rfl) (by kernel_rfl) (by kernel_rfl) ?hQ96 (Or.inr ⟨?hw96, rfl⟩) (by assumption) ?rest96; (case hi96 => (simp only [List.getElem?_toArray, List.getElem?_cons_succ, List.getElem?_cons_zero]; rfl)); (case hQ96 => exact fun _ _ _ h => h); (case hw96 => rfl))
          (try simp only [Act.put, List.setIfInBounds_toArray, List.set_cons_zero, List.set_cons_succ])
          first | (refine wpAnyH_take (i := 4) (oi := ?oi97) (v := ?v97) ?hi97 (by kernel_rfl) (by kernel_rfl) (by kernel_rfl) ?hQ97 (Or.inl ⟨?hw97, ?hy97⟩) (by assumption) ?rest97; (case hi97 => (simp only [List.getElem?_toArray, List.getElem?_cons_succ, List.getElem?_cons_zero]; rfl)); (case hQ97 => exact fun _ _ _ h => h); (case hw97 => rfl); (case hy97 => ((intro w hSw); (try dsimp only at hSw); go_simp; (try with_reducible rfl)))) | (refine wpAnyH_take (i := 4) (oi := ?oi98) (v := undef) ?hi98 (by kernel_rfl) (by kernel_rfl) (by kernel_rfl) ?hQ98 (Or.inr ⟨?hw98, rfl⟩) (by assumption) ?rest98; (case hi98 => (simp only [List.getElem?_toArray, List.getElem?_cons_succ, List.getElem?_cons_zero]; rfl)); (case hQ98 => exact fun _ _ _ h => h); (case hw98 => rfl))
          (try simp only [Act.put, List.setIfInBounds_toArray, List.set_cons_zero, List.set_cons_succ])
          first | (refine wpAnyH_take (i := 5) (oi := ?oi99) (v := ?v99) ?hi99 (by kernel_rfl) (by kernel_rfl) (by kernel_rfl) ?hQ99 (Or.inl ⟨?hw99, ?hy99⟩) (by assumption) ?rest99; (case hi99 => (simp only [List.getElem?_toArray, List.getElem?_cons_succ, List.getElem?_cons_zero]; rfl)); (case hQ99 => exact fun _ _ _ h => h); (case hw99 => rfl); (case hy99 => ((intro w hSw); (try dsimp only at hSw); go_simp; (try with_reducible rfl)))) | (refine wpAnyH_take (i := 5) (oi := ?oi100) (v := undef) ?hi100 (by kernel_rfl) (by kernel_rfl) (by kernel_rfl) ?hQ100 (Or.inr ⟨?hw100, rfl⟩) (by assumption) ?rest100; (case hi100 => (simp only [List.getElem?_toArray, List.getElem?_cons_succ, List.getElem?_cons_zero]; rfl)); (case hQ100 => exact fun _ _ _ h => h); (case hw100 => rfl))
          (try simp only [Act.put, List.setIfInBounds_toArray, List.set_cons_zero, List.set_cons_succ])
          first | (refine wpAnyH_take (i := 6) (oi := ?oi101) (v := ?v101) ?hi101 (by kernel_rfl) (by kernel_rfl) (by kernel_rfl) ?hQ101 (Or.inl ⟨?hw101, ?hy101⟩) (by assumption) ?rest101; (case hi101 => (simp only [List.getElem?_toArray, List.getElem?_cons_succ, List.getElem?_cons_zero]; rfl)); (case hQ101 => exact fun _ _ _ h => h); (case hw101 => rfl); (case hy101 => ((intro w hSw); (try dsimp only at hSw); go_simp; (try with_reducible rfl)))) | (refine wpAnyH_take (i := 6) (oi := ?oi102) (v := undef) ?hi102 (by kernel_rfl) (by kernel_rfl) (by kernel_rfl) ?hQ102 (Or.inr ⟨?hw102, rfl⟩) (by assumption) ?rest102; (case hi102 => (simp only [List.getElem?_toArray, List.getElem?_cons_succ, List.getElem?_cons_zero]; rfl)); (case hQ102 => exact fun _ _ _ h => h); (case hw102 => rfl))
          (try simp only [Act.put, List.setIfInBounds_toArray, List.set_cons_zero, List.set_cons_succ])
          first | (refine wpAnyH_take (i := 7) (oi := ?oi103) (v := ?v103) ?hi103 (by kernel_rfl) (by kernel_rfl) (by kernel_rfl) ?hQ103 (Or.inl ⟨?hw103, ?hy103⟩) (by assumption) ?rest103; (case hi103 => (simp only [List.getElem?_toArray, List.getElem?_cons_succ, List.getElem?_cons_zero]; rfl)); (case hQ103 => exact fun _ _ _ h => h); (case hw103 => rfl); (case hy103 => ((intro w hSw); (try dsimp only at hSw); go_simp; (try with_reducible rfl)))) | (refine wpAnyH_take (i := 7) (oi := ?oi104) (v := undef) ?hi104 (by kernel_rfl) (by kernel_rfl) (by kernel_rfl) ?hQ104 (Or.inr ⟨?hw104, rfl⟩) (by assumption) ?rest104; (case hi104 => (simp only [List.getElem?_toArray, List.getElem?_cons_succ, List.getElem?_cons_zero]; rfl)); (case hQ104 => exact fun _ _ _ h => h); (case hw104 => rfl))
          (try simp only [Act.put, List.setIfInBounds_toArray, List.set_cons_zero, List.set_cons_succ])
          refine wpAnyH_ready (rs := [3]) (by kernel_rfl) (by simp) ?_
          refine AllReadyH.cons (o := ?oi105) ?hi105 (fun K hK => ?rest105) AllReadyH.nil
          (case hi105 => (simp only [List.getElem?_toArray, List.getElem?_cons_succ, List.getElem?_cons_zero]; rfl))
          obtain ⟨s0, s1, s2, s3, s4, s5, s6, s7, s8, s9, s10, s11, s12, s13⟩ := hHeld
          go_simp
          ((with_reducible refine (HVJ.out _).mono ?_); rintro e wx1 ⟨rfl, hb⟩)
          replace HW := Lib.hid (below_step HW.out hb)
          have HO1 := Lib.hid (owns_below (owns_below HOR.out (show Below wr.heap.size wr wr.drew from below_drews (Below.refl _ _) 1)) hb)
          have rc : wx1.cell? ⟨B, J, none⟩ = some (.int .i64 y) := by rw [HO1.out.cellAt J (by omega)]; exact HY.out
          have rf : wx1.frozen? ⟨B, J, none⟩ = false := HO1.out.frozenAt J
          have HO2 := Lib.hid (HO1.out.stored J (.int .i64 x)).1
          refine hK.out _ _ ?_ (fun hHeld => ?_)
          · (try dsimp only); exact ⟨cel_below hb s0, cel_below hb s1, cel_below hb s2, cel_below hb s3, cel_below hb s4, cel_below hb s5, cel_below hb s6, cel_below hb s7, cel_below hb s8, cel_below hb s9, cel_below hb s10, cel_below hb s11, cel_below hb s12, cel_below hb s13⟩
          clear hK K s0 s1 s2 s3 s4 s5 s6 s7 s8 s9 s10 s11 s12 s13 hb
          (try simp only [Act.put, List.setIfInBounds_toArray, List.set_cons_zero, List.set_cons_succ])
          first | (refine wpAnyH_take (i := 8) (oi := ?oi106) (v := ?v106) ?hi106 (by kernel_rfl) (by kernel_rfl) (by kernel_rfl) ?hQ106 (Or.inl ⟨?hw106, ?hy106⟩) (by assumption) ?rest106; (case hi106 => (simp only [List.getElem?_toArray, List.getElem?_cons_succ, List.getElem?_cons_zero]; rfl)); (case hQ106 => exact fun _ _ _ h => h); (case hw106 => rfl); (case hy106 => ((intro w hSw); (try dsimp only at hSw); go_simp; (try with_reducible rfl)))) | (refine wpAnyH_take (i := 8) (oi := ?oi107) (v := undef) ?hi107 (by kernel_rfl) (by kernel_rfl) (by kernel_rfl) ?hQ107 (Or.inr ⟨?hw107, rfl⟩) (by assumption) ?rest107; (case hi107 => (simp only [List.getElem?_toArray, List.getElem?_cons_succ, List.getElem?_cons_zero]; rfl)); (case hQ107 => exact fun _ _ _ h => h); (case hw107 => rfl))
          (try simp only [Act.put, List.setIfInBounds_toArray, List.set_cons_zero, List.set_cons_succ])
          refine wpAnyH_ready (rs := [9]) (by kernel_rfl) (by simp) ?_
          refine AllReadyH.cons (o := ?oi108) ?hi108 (fun K hK => ?rest108) AllReadyH.nil
          (case hi108 => (simp only [List.getElem?_toArray, List.getElem?_cons_succ, List.getElem?_cons_zero]; rfl))
          obtain ⟨s0, s1, s2, s3, s4, s5, s6, s7, s8, s9, s10, s11, s12, s13⟩ := hHeld
          go_simp
          refine hK.out _ _ ?_ (fun hHeld => ?_)
          · (try dsimp only); exact ⟨keepA_ s0 (Or.inl (by omega)), keepA_ s1 (Or.inl (by omega)), keepA_ s2 (Or.inl (by omega)), keepA_ s3 (Or.inl (by omega)), keepA_ s4 (Or.inl (by omega)), keepA_ s5 (Or.inl (by omega)), keepA_ s6 (Or.inl (by omega)), keepA_ s7 (Or.inl (by omega)), keepA_ s8 (Or.inl (by omega)), keepA_ s9 (Or.inl (by omega)), keepA_ s10 (Or.inl (by omega)), keepA_ s11 (Or.inl (by omega)), keepA_ s12 (Or.inl (by omega)), keepA_ s13 (Or.inl (by omega))⟩
          clear hK K s0 s1 s2 s3 s4 s5 s6 s7 s8 s9 s10 s11 s12 s13
          (try simp only [Act.put, List.setIfInBounds_toArray, List.set_cons_zero, List.set_cons_succ])
          refine wpAnyH_done (by kernel_rfl) ?_ _
          obtain ⟨s0, s1, s2, s3, s4, s5, s6, s7, s8, s9, s10, s11, s12, s13⟩ := hHeld
          have hor2 : (wx1.setCell ⟨B, J, none⟩ (.int .i64 x)).ownsRow w.heap.size 3 1 (.slice (some ⟨B, 0, none⟩) sz sz) sz ((Q (k + 1)).map (Value.int .i64)) := by rw [HQk.out]; exact HO2.out
          have hbl2 : Below B w5 (wx1.setCell ⟨B, J, none⟩ (.int .i64 x)) := (HBR.out.trans (HW.out.mono HBs.out)).setCell (by dsimp only; omega) _
          clear rc rf
          go_wp2
          go_roundw
          case rel => exact ⟨k + 1, by omega, by go_num, hor2, hbl2⟩
          case measure => simp [intOf]; omega
        · have HF := FIN.out (by rw [← HQ.out]; exact HSP.out k (by omega) (by have := HZL.out; omega))
          have HMw := Lib.hid (hasInts_keep (w := wc) (w' := wr) HM.out (by rw [← HB.out]; exact HB5.out.trans HBR.out))
          have hlt2 : (k : Int) < len := by omega
          go_wp2_with fail
          ((with_reducible refine (rints15_s Z HMw.out HF.out).mono ?_); rintro e wz ⟨rfl, hb⟩)
          have HE2 := Lib.hid (below_step HWw.out hb)
          clear hb
          go_wp2
          go_ret
          exact ⟨rfl, HE2.out⟩
      · obtain rfl : k = len := by omega
        have HF := FIN.out (by rw [← HQ.out, HZL.out]; exact HZ.out.symm)
        have HMw := Lib.hid (hasInts_keep (w := wc) (w' := wr) HM.out (by rw [← HB.out]; exact HB5.out.trans HBR.out))
        go_wp2_with fail
        ((with_reducible refine (rints15_s Z HMw.out HF.out).mono ?_); rintro e wz ⟨rfl, hb⟩)
        have HE2 := Lib.hid (below_step HWw.out hb)
        clear hb
        go_wp2
        go_ret
        exact ⟨rfl, HE2.out⟩

theorem walk (w : World) (c : Cf) (i1 : I64 c.t) (i2 : I64 c.l) (i3 : I64 c.k) (i4 : I64 c.s) (i5 : I64 c.m) (v : Value) (zs : List Int) (hv : HasInts w v zs) :
    Calls Try.prog 11 #[c.v, v] w fun e w' => e = .returned (.bool true) ∧ Below w.heap.size w w' := by
  have hv0 := hv
  obtain ⟨a, cap, rfl, _, _⟩ := hv0
  by_cases hc : c.ok
  · by_cases hl : 40 < zs.length
    · exact walk_big w c a _ cap hl hc
    · exact walk_yes w c a _ cap zs rfl hv (by omega) hc
  · exact walk_no w c a _ cap hc

theorem own : ownKnob Try.prog.godebug = none := by kernel_rfl
theorem laidOut : laidOutB Try.prog = true := by kernel_rfl

set_option maxRecDepth 100000 in
theorem lifted (os : Os) (started : os.Started) (H : Type) (enc : TypeId × Value → H) :
    ReturnsInHanded {} Try.checked os 11 .any (Rows.layoutInitStoresSpec.pre6 enc Try.prog Try.f11 Rows.layoutInitStoresRow.domain false) (Rows.layoutInitStoresSpec.post enc Try.prog Try.f11 false true false false) := by
  refine returnsInHanded_of_change (C := Try.checked) own started (by kernel_rfl) Try.func11
    (ChangeSpec.witness6 (enc := enc) (C := Try.checked) false ⟨#[], #[.agg #[.int .i64 0, .int .i64 0, .int .i64 0, .int .i64 0, .int .i64 0], .slice none 0 0], []⟩ 8 (by kernel_rfl) (by kernel_rfl) (by kernel_rfl) (by kernel_rfl)) ?_
  intro W base args ds gs before hval0 hW hcnd _
  have hval : ∀ (j : Nat) t v, Try.f11.params[j]? = some t → args[j]? = some v → Value.okWide Try.prog W .any base t v := hval0
  have hW' := hW
  obtain ⟨p, q, hA0, hV, rfl, hfz, hnd⟩ := hW
  have hA : DataW.TrodAll enc Try.prog W 0 (fun _ => true) true Try.f11.params.toList args.toList ds p := hA0
  rw [Try.params11] at hA hval
  obtain ⟨v0, vs0, d0, ds0, p0, q0, hargs, rfl, rfl, h0, r0⟩ := trodAll_cons hA
  obtain ⟨v1, vs1, d1, ds1, p1, q1, rfl, rfl, rfl, h1, r1⟩ := trodAll_cons r0
  obtain ⟨rfl, rfl, rfl⟩ := trodAll_nil r1
  obtain rfl : args = #[v0, v1] := by cases args; simp_all
  obtain ⟨rfl, rfl⟩ := trodVars_none hV
  clear hA0 hval0
  simp only [List.append_nil] at hW'
  have lt0 : ∀ x ∈ p0, x.block < W.heap.size := fun x hx => hW'.lt x (by simp [hx])
  have lt1 : ∀ x ∈ p1, x.block < W.heap.size := fun x hx => hW'.lt x (by simp [hx])
  have back0 : ∀ W', Below W.heap.size W W' → DataW.Trod enc Try.prog W' 0 (fun b => decide (b < W.heap.size)) true 51 v0 d0 p0 := fun W' hb => Below.trod laidOut (by kernel_rfl) (of_decide_eq_true (by kernel_rfl)) h0 hb lt0
  have back1 : ∀ W', Below W.heap.size W W' → DataW.Trod enc Try.prog W' 0 (fun b => decide (b < W.heap.size)) true 22 v1 d1 p1 := fun W' hb => Below.trod laidOut (by kernel_rfl) (of_decide_eq_true (by kernel_rfl)) h1 hb lt1
  obtain ⟨cf0, rfl, ia0, ib0, ic0, id0, ie0⟩ := open_conf (hval 0 51 v0 rfl rfl) h0
  obtain ⟨z1, k1⟩ := open_intsArg (hval 1 22 v1 rfl rfl) h1
  refine (walk W cf0 ia0 ib0 ic0 id0 ie0 v1 z1 k1).mono fun e W' ⟨he, hg⟩ => ?_
  subst he
  exact ⟨_, rfl, _, _, _, [], _, [], hW', (trodAll_cons_mk (shut_bool Try.underlying4 _) trodAll_mk0), (trodAll_cons_mk (back0 _ hg) (trodAll_cons_mk (back1 _ hg) trodAll_mk0)), rfl, hg.frame _, fun h => by cases h⟩

theorem over : Rows.layoutInitStoresRow.holds Try.pinned (OpenSpec.ofChange Rows.layoutInitStoresSpec) :=
  OpenClaim.holds_of_wide 11 Try.f11 rfl rfl rfl rfl rfl rfl rfl ⟨rfl, rfl, rfl, rfl, rfl⟩ rfl rfl rfl rfl rfl (by kernel_rfl) Try.func11 (by kernel_rfl)
    (of_decide_eq_true (by kernel_rfl)) (by unfold Func.isWrapper; first | (rw [if_pos (by decide +kernel)]; kernel_rfl) | (rw [if_neg (by decide +kernel)]; exact ⟨rfl, rfl⟩))
    (fun os started H enc _ => lifted os started H enc)

/-- The given statement. -/
theorem proved : Rows.LayoutInitStoresSaid :=
  over
#print axioms proved
end Go.Proofs.Ytimjodpndhckdaa.layoutInitStores
