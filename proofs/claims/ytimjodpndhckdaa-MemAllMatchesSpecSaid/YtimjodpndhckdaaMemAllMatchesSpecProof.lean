/- MemAllMatchesSpec: for every memory of at most 100 cells and every list of at most 40 accesses, All returns what the specification says. No condition. -/
import Derived.Test.YtimjodpndhckdaaRows
import Derived.Test.YtimjodpndhckdaaAux
import Derived.Test.YtimjodpndhckdaaMemG
import Derived.Test.YtimjodpndhckdaaMemS
import Derived.Test.YtimjodpndhckdaaMemO
import Derived.Test.YtimjodpndhckdaaMemT
import Derived.Test.YtimjodpndhckdaaMemQ
import Derived.Outline
import Derived.WalkKit
import Derived.ProofKit
import Derived.OpenShut
import Derived.Lib.Hide
import Derived.Carry
namespace Go.Proofs.Ytimjodpndhckdaa.memAllMatchesSpec
open Go.ChangeShapes Go.WideShapes Go.ChangeAt Go.RowKit
set_option linter.unusedVariables false

theorem rsame_s {v u : Value} {w : World} (zs : List Int) (hv : HasInts w v zs) (hu : HasInts w u zs) : Calls Try.prog 15 #[.agg #[v], .agg #[u]] w fun e w' => e = .returned (.bool true) ∧ Below w.heap.size w w' :=
  (rsame_any v u zs zs w hv hu).mono fun e w' ⟨he, hb⟩ => ⟨by rw [he]; simp, hb⟩
theorem told_s {v u : Value} {w : World} (zs : List (Int × Bool)) (hv : HasRes w v zs) (hu : HasRes w u zs) : Calls Try.prog 16 #[v, u] w fun e w' => e = .returned (.bool true) ∧ Below w.heap.size w w' :=
  (told_any v u zs zs w hv hu).mono fun e w' ⟨he, n, hw⟩ => ⟨by rw [he]; simp, hw ▸ below_drewN (Below.refl _ _) n⟩

set_option maxHeartbeats 4000000 in
set_option maxRecDepth 100000 in
theorem walk_big (w : World) (a : Option Addr) (L cap : Nat) (b : Option Addr) (M cp : Nat) (h : 100 < L ∨ (L ≤ 100 ∧ 40 < M)) : Calls Try.prog 3 #[.agg #[.slice a L cap], .slice b M cp] w fun e w' => e = .returned (.bool true) ∧ Below w.heap.size w w' := by
  rcases h with h | ⟨h, h2⟩
  · have h1 : decide ((100 : Int) < L) = true := by simp; omega
    go_enter Try.func3, Try.ntmps3
    go_wp2_with fail
    ((with_reducible refine (sane_any _).mono ?_); rintro e w1 ⟨rfl, hb⟩)
    have HW := Lib.hid (below_alloc1 hb)
    have zz : w.heap.size + 1 ≤ w1.heap.size := by have := hb.size; (try simp at this); omega
    have mmq0 : w1.cell? ⟨w.heap.size, 0, none⟩ = some (.slice a L cap) := cel_below hb (by rw [World.cell?_alloc_at _ _ _ _ (by simp)]; rfl)
    have z0 : w.heap.size < w1.heap.size := by omega
    clear hb zz
    go_wp2
    go_ret
    exact ⟨rfl, HW.out⟩
  · have h1 : decide ((100 : Int) < L) = false := by simp; omega
    have h3 : decide ((40 : Int) < M) = true := by simp; omega
    go_enter Try.func3, Try.ntmps3
    go_wp2_with fail
    ((with_reducible refine (sane_any _).mono ?_); rintro e w1 ⟨rfl, hb⟩)
    have HW := Lib.hid (below_alloc1 hb)
    have zz : w.heap.size + 1 ≤ w1.heap.size := by have := hb.size; (try simp at this); omega
    have mmq0 : w1.cell? ⟨w.heap.size, 0, none⟩ = some (.slice a L cap) := cel_below hb (by rw [World.cell?_alloc_at _ _ _ _ (by simp)]; rfl)
    have z0 : w.heap.size < w1.heap.size := by omega
    clear hb zz
    go_wp2
    go_ret
    exact ⟨rfl, HW.out⟩
set_option maxHeartbeats 4000000 in
set_option maxRecDepth 100000 in
theorem walk_sm (w : World) (a : Option Addr) (L cap : Nat) (b : Option Addr) (M cp : Nat) (zs : List Int) (l : List AccD) (hL : L = zs.length) (hM : M = l.length) (hv : HasInts w (.slice a L cap) zs) (hx : HasAccs w (.slice b M cp) l) (h : L ≤ 100) (h2 : M ≤ 40) : Calls Try.prog 3 #[.agg #[.slice a L cap], .slice b M cp] w fun e w' => e = .returned (.bool true) ∧ Below w.heap.size w w' := by
  have h1 : decide ((100 : Int) < L) = false := by simp; omega
  have h3 : decide ((40 : Int) < M) = false := by simp; omega
  have HV := Lib.hid hv
  have HX := Lib.hid hx
  obtain ⟨E, hE⟩ : ∃ E, E = errOf zs.length l := ⟨_, rfl⟩
  obtain ⟨Z, hZ⟩ : ∃ Z, Z = if E = 0 then stZ zs l else zs := ⟨_, rfl⟩
  obtain ⟨R, hR⟩ : ∃ R, R = if E = 0 then stR zs l else [] := ⟨_, rfl⟩
  have sh : ∀ (w' : World) u r, HasInts w' u Z → HasRes w' r R → ∃ a1 l1 c1 a2 l2 c2, u = .slice a1 l1 c1 ∧ r = .slice a2 l2 c2 := fun w' u r hu hr => by
    obtain ⟨a1, c1, rfl, _⟩ := hu
    obtain ⟨a2, c2, rfl, _⟩ := hr
    exact ⟨_, _, _, _, _, _, rfl, rfl⟩
  have HA : Hid (∀ w, HasInts w (.slice a L cap) zs → HasAccs w (.slice b M cp) l → Calls Try.prog 13 #[.agg #[.slice a L cap], .slice b M cp] w fun e w' => ∃ a1 l1 c1 a2 l2 c2, e = .returned (.tuple #[.agg #[.slice a1 l1 c1], .slice a2 l2 c2, .int .i64 E]) ∧ HasInts w' (.slice a1 l1 c1) Z ∧ HasRes w' (.slice a2 l2 c2) R ∧ Below w.heap.size w w') := Lib.hid (fun w hv hx => by
    refine (all_any _ _ zs l w hv hx (by omega) (by omega)).mono ?_
    rintro e w' ⟨u, r, rfl, hu, hr, hb⟩
    have hu2 : HasInts w' u Z := by rw [hZ, hE]; exact hu
    have hr2 : HasRes w' r R := by rw [hR, hE]; exact hr
    obtain ⟨a1, l1, c1, a2, l2, c2, rfl, rfl⟩ := sh _ _ _ hu2 hr2
    exact ⟨a1, l1, c1, a2, l2, c2, by rw [hE], hu2, hr2, hb⟩)
  have HQ : Hid (∀ w, HasInts w (.slice a L cap) zs → HasAccs w (.slice b M cp) l → Calls Try.prog 14 #[.agg #[.slice a L cap], .slice b M cp] w fun e w' => ∃ a1 l1 c1 a2 l2 c2, e = .returned (.tuple #[.agg #[.slice a1 l1 c1], .slice a2 l2 c2, .int .i64 E]) ∧ HasInts w' (.slice a1 l1 c1) Z ∧ HasRes w' (.slice a2 l2 c2) R ∧ Below w.heap.size w w') := Lib.hid (fun w hv hx => by
    refine (rallQ_any _ _ zs l w hv hx (by omega) (by omega)).mono ?_
    rintro e w' ⟨u, r, rfl, hu, hr, hb⟩
    have hu2 : HasInts w' u Z := by rw [hZ, hE]; exact hu
    have hr2 : HasRes w' r R := by rw [hR, hE]; exact hr
    obtain ⟨a1, l1, c1, a2, l2, c2, rfl, rfl⟩ := sh _ _ _ hu2 hr2
    exact ⟨a1, l1, c1, a2, l2, c2, by rw [hE], hu2, hr2, hb⟩)
  clear hE hZ hR sh hL hM hv hx
  go_enter Try.func3, Try.ntmps3
  go_wp2_with fail
  ((with_reducible refine (sane_any _).mono ?_); rintro e w1 ⟨rfl, hb⟩)
  have HW := Lib.hid (below_alloc1 hb)
  have zz : w.heap.size + 1 ≤ w1.heap.size := by have := hb.size; (try simp at this); omega
  have mmq0 : w1.cell? ⟨w.heap.size, 0, none⟩ = some (.slice a L cap) := cel_below hb (by rw [World.cell?_alloc_at _ _ _ _ (by simp)]; rfl)
  have z0 : w.heap.size < w1.heap.size := by omega
  clear hb zz
  go_wp2_with fail
  ((with_reducible refine (HA.out _ (hasInts_keep HV.out HW.out) (hasAccs_keep HX.out HW.out)).mono ?_); rintro e w2 ⟨a1, l1, c1, a2, l2, c2, rfl, hu, hr, hb⟩)
  replace HW := Lib.hid (below_step HW.out (hb))
  have zz : w1.heap.size + 0 ≤ w2.heap.size := by have := hb.size; (try simp at this); omega
  replace mmq0 : w2.cell? ⟨w.heap.size, 0, none⟩ = some (.slice a L cap) := cel_below hb (mmq0)
  replace z0 : w.heap.size < w2.heap.size := by omega
  have HU1 := Lib.hid (hu)
  have HR1 := Lib.hid (hr)
  clear hb zz
  clear hu hr
  go_wp2_with fail
  ((with_reducible refine (HQ.out _ (hasInts_keep HV.out (below_step HW.out (below_new1 _ _))) (hasAccs_keep HX.out (below_step HW.out (below_new1 _ _)))).mono ?_); rintro e w3 ⟨a3, l3, c3, a4, l4, c4, rfl, hu, hr, hb⟩)
  replace HW := Lib.hid (below_step HW.out (below_alloc1 hb))
  have zz : w2.heap.size + 1 ≤ w3.heap.size := by have := hb.size; (try simp at this); omega
  replace mmq0 : w3.cell? ⟨w.heap.size, 0, none⟩ = some (.slice a L cap) := cel_below hb (cell_alloc _ (mmq0))
  replace z0 : w.heap.size < w3.heap.size := by omega
  replace HU1 := Lib.hid (hasInts_keep HU1.out (below_step (Below.alloc (Below.refl _ w2) (by first | exact Nat.le_refl _ | (simp; omega) | simp) _) hb))
  replace HR1 := Lib.hid (hasRes_keep HR1.out (below_step (Below.alloc (Below.refl _ w2) (by first | exact Nat.le_refl _ | (simp; omega) | simp) _) hb))
  have xxq0 : w3.cell? ⟨w2.heap.size, 0, none⟩ = some (.slice a1 l1 c1) := cel_below hb (by rw [World.cell?_alloc_at _ _ _ _ (by simp)]; rfl)
  have z1 : w2.heap.size < w3.heap.size := by omega
  have HU2 := Lib.hid (hu)
  have HR2 := Lib.hid (hr)
  clear hb zz
  clear hu hr
  go_wp2_with fail
  ((with_reducible refine (rsame_s Z (hasInts_keep HU1.out (below_new1 _ _)) (hasInts_keep HU2.out (below_new1 _ _))).mono ?_); rintro e w4 ⟨rfl, hb⟩)
  replace HW := Lib.hid (below_step HW.out (below_alloc1 hb))
  have zz : w3.heap.size + 1 ≤ w4.heap.size := by have := hb.size; (try simp at this); omega
  replace mmq0 : w4.cell? ⟨w.heap.size, 0, none⟩ = some (.slice a L cap) := cel_below hb (cell_alloc _ (mmq0))
  replace xxq0 : w4.cell? ⟨w2.heap.size, 0, none⟩ = some (.slice a1 l1 c1) := cel_below hb (cell_alloc _ (xxq0))
  replace z0 : w.heap.size < w4.heap.size := by omega
  replace z1 : w2.heap.size < w4.heap.size := by omega
  replace HU1 := Lib.hid (hasInts_keep HU1.out (below_step (Below.alloc (Below.refl _ w3) (by first | exact Nat.le_refl _ | (simp; omega) | simp) _) hb))
  replace HR1 := Lib.hid (hasRes_keep HR1.out (below_step (Below.alloc (Below.refl _ w3) (by first | exact Nat.le_refl _ | (simp; omega) | simp) _) hb))
  replace HU2 := Lib.hid (hasInts_keep HU2.out (below_step (Below.alloc (Below.refl _ w3) (by first | exact Nat.le_refl _ | (simp; omega) | simp) _) hb))
  replace HR2 := Lib.hid (hasRes_keep HR2.out (below_step (Below.alloc (Below.refl _ w3) (by first | exact Nat.le_refl _ | (simp; omega) | simp) _) hb))
  clear hb zz
  go_wp2_with fail
  ((with_reducible refine (told_s R HR1.out HR2.out).mono ?_); rintro e w5 ⟨rfl, hb⟩)
  replace HW := Lib.hid (below_step HW.out (hb))
  have zz : w4.heap.size + 0 ≤ w5.heap.size := by have := hb.size; (try simp at this); omega
  replace mmq0 : w5.cell? ⟨w.heap.size, 0, none⟩ = some (.slice a L cap) := cel_below hb (mmq0)
  replace xxq0 : w5.cell? ⟨w2.heap.size, 0, none⟩ = some (.slice a1 l1 c1) := cel_below hb (xxq0)
  replace z0 : w.heap.size < w5.heap.size := by omega
  replace z1 : w2.heap.size < w5.heap.size := by omega
  replace HU1 := Lib.hid (hasInts_keep HU1.out (below_step (Below.refl _ w4) hb))
  replace HR1 := Lib.hid (hasRes_keep HR1.out (below_step (Below.refl _ w4) hb))
  replace HU2 := Lib.hid (hasInts_keep HU2.out (below_step (Below.refl _ w4) hb))
  replace HR2 := Lib.hid (hasRes_keep HR2.out (below_step (Below.refl _ w4) hb))
  clear hb zz
  go_wp2
  go_ret
  exact ⟨rfl, HW.out⟩

theorem walk (w : World) (s0 : Value) (zs : List Int) (hv : HasInts w s0 zs) (x : Value) (l : List AccD) (hx : HasAccs w x l) :
    Calls Try.prog 3 #[.agg #[s0], x] w fun e w' => e = .returned (.bool true) ∧ Below w.heap.size w w' := by
  have hv0 := hv
  have hx0 := hx
  obtain ⟨a, cap, rfl, _, _⟩ := hv0
  obtain ⟨b, cp, rfl, _, _⟩ := hx0
  by_cases h : 100 < zs.length
  · exact walk_big w a _ cap b _ cp (Or.inl h)
  by_cases h2 : 40 < l.length
  · exact walk_big w a _ cap b _ cp (Or.inr ⟨by omega, h2⟩)
  · exact walk_sm w a _ cap b _ cp zs l rfl rfl hv hx (by omega) (by omega)

theorem own : ownKnob Try.prog.godebug = none := by kernel_rfl
theorem laidOut : laidOutB Try.prog = true := by kernel_rfl

set_option maxRecDepth 100000 in
theorem lifted (os : Os) (started : os.Started) (H : Type) (enc : TypeId × Value → H) :
    ReturnsInHanded {} Try.checked os 3 .any (Rows.memAllMatchesSpecSpec.pre6 enc Try.prog Try.f3 Rows.memAllMatchesSpecRow.domain false) (Rows.memAllMatchesSpecSpec.post enc Try.prog Try.f3 false true false false) := by
  refine returnsInHanded_of_change (C := Try.checked) own started (by kernel_rfl) Try.func3
    (ChangeSpec.witness6 (enc := enc) (C := Try.checked) false ⟨#[], #[.agg #[.slice none 0 0], .slice none 0 0], []⟩ 8 (by kernel_rfl) (by kernel_rfl) (by kernel_rfl) (by kernel_rfl)) ?_
  intro W base args ds gs before hval0 hW hcnd _
  have hval : ∀ (j : Nat) t v, Try.f3.params[j]? = some t → args[j]? = some v → Value.okWide Try.prog W .any base t v := hval0
  have hW' := hW
  obtain ⟨p, q, hA0, hV, rfl, hfz, hnd⟩ := hW
  have hA : DataW.TrodAll enc Try.prog W 0 (fun _ => true) true Try.f3.params.toList args.toList ds p := hA0
  rw [Try.params3] at hA hval
  obtain ⟨v0, vs0, d0, ds0, p0, q0, hargs, rfl, rfl, h0, r0⟩ := trodAll_cons hA
  obtain ⟨v1, vs1, d1, ds1, p1, q1, rfl, rfl, rfl, h1, r1⟩ := trodAll_cons r0
  obtain ⟨rfl, rfl, rfl⟩ := trodAll_nil r1
  obtain rfl : args = #[v0, v1] := by cases args; simp_all
  obtain ⟨rfl, rfl⟩ := trodVars_none hV
  clear hA0 hval0
  simp only [List.append_nil] at hW'
  have lt0 : ∀ x ∈ p0, x.block < W.heap.size := fun x hx => hW'.lt x (by simp [hx])
  have lt1 : ∀ x ∈ p1, x.block < W.heap.size := fun x hx => hW'.lt x (by simp [hx])
  have back0 : ∀ W', Below W.heap.size W W' → DataW.Trod enc Try.prog W' 0 (fun b => decide (b < W.heap.size)) true 24 v0 d0 p0 := fun W' hb => Below.trod laidOut (by kernel_rfl) (of_decide_eq_true (by kernel_rfl)) h0 hb lt0
  have back1 : ∀ W', Below W.heap.size W W' → DataW.Trod enc Try.prog W' 0 (fun b => decide (b < W.heap.size)) true 25 v1 d1 p1 := fun W' hb => Below.trod laidOut (by kernel_rfl) (of_decide_eq_true (by kernel_rfl)) h1 hb lt1
  obtain ⟨s0, z0, rfl, k0⟩ := open_mem (hval 0 24 v0 rfl rfl) h0
  obtain ⟨l1, k1⟩ := open_accs (hval 1 25 v1 rfl rfl) h1
  refine (walk W s0 z0 k0 v1 l1 k1).mono fun e W' ⟨he, hg⟩ => ?_
  subst he
  exact ⟨_, rfl, _, _, _, [], _, [], hW', (trodAll_cons_mk (shut_bool Try.underlying4 _) trodAll_mk0), (trodAll_cons_mk (back0 _ hg) (trodAll_cons_mk (back1 _ hg) trodAll_mk0)), rfl, hg.frame _, fun h => by cases h⟩

theorem over : Rows.memAllMatchesSpecRow.holds Try.pinned (OpenSpec.ofChange Rows.memAllMatchesSpecSpec) :=
  OpenClaim.holds_of_wide 3 Try.f3 rfl rfl rfl rfl rfl rfl rfl ⟨rfl, rfl, rfl, rfl, rfl⟩ rfl rfl rfl rfl rfl (by kernel_rfl) Try.func3 (by kernel_rfl)
    (of_decide_eq_true (by kernel_rfl)) (by unfold Func.isWrapper; first | (rw [if_pos (by decide +kernel)]; kernel_rfl) | (rw [if_neg (by decide +kernel)]; exact ⟨rfl, rfl⟩))
    (fun os started H enc _ => lifted os started H enc)

/-- The given statement. -/
theorem proved : Rows.MemAllMatchesSpecSaid :=
  over
#print axioms proved
end Go.Proofs.Ytimjodpndhckdaa.memAllMatchesSpec
