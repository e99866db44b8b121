
/-
  Layer 17: the chapter's examples, which every statement asks first.
-/
import Derived.Test.YtaclnaedinfhmaaRows
import Derived.Test.YtaclnaedinfhmaaBase
import Derived.Test.YtaclnaedinfhmaaAux
import Derived.Test.YtaclnaedinfhmaaWord2
import Derived.Test.YtaclnaedinfhmaaLayA
import Derived.Test.YtaclnaedinfhmaaMemA
import Derived.Test.YtaclnaedinfhmaaMemB
import Derived.Test.YtaclnaedinfhmaaMemE
import Derived.Test.YtaclnaedinfhmaaMemF
import Derived.Test.YtaclnaedinfhmaaTag
import Derived.Test.YtaclnaedinfhmaaStepD
import Derived.Test.YtaclnaedinfhmaaStepH
import Derived.Test.YtaclnaedinfhmaaMgrA
import Derived.Test.YtaclnaedinfhmaaMgrE
import Derived.Test.YtaclnaedinfhmaaMgrS
import Derived.Test.YtaclnaedinfhmaaAloneA
import Derived.Test.YtaclnaedinfhmaaAloneM
import Derived.WalkKit
import Derived.Lib.Hide
import Derived.Deep.MidRow
import Derived.Deep.Cut
import Derived.Deep.DeepCutAuto
import Derived.Deep.RegionHeld3
import Derived.IntWalk
namespace Go.Proofs.Ytaclnaedinfhmaa
set_option linter.unusedVariables false
set_option linter.unusedSimpArgs false
set_option maxRecDepth 100000
set_option maxHeartbeats 4000000
open Go.ChangeShapes Go.WideShapes Go.ChangeAt Go.RowKit

theorem cell16_any (v : Value) (zs : List Int) (k : Nat) (hk : k < zs.length) (w : World) (hv : HasInts w v zs) : Calls Try.prog 20 #[.agg #[v], .int .i64 (k : Nat)] w fun e w' => e = .returned (.int .i64 (zs.getD k 0)) ∧ Below w.heap.size w w' := by
  obtain ⟨a, cap, rfl, hl, hc⟩ := hv
  rcases hc with hc | ⟨b, o, rfl, hc⟩
  · omega
  obtain ⟨x, hx⟩ : ∃ x, x = zs.getD k 0 := ⟨_, rfl⟩
  have hcell := hc k hk
  rw [← hx] at hcell ⊢
  have hb : b < w.heap.size := World.block_lt_of_cell? w _ hcell
  have h1 : ∀ q : Obj, (w.alloc q).cell? ⟨b, o + k, none⟩ = some (.int .i64 x) := fun q => cell_alloc _ hcell
  obtain ⟨L, hL⟩ : ∃ L, L = zs.length := ⟨_, rfl⟩
  rw [← hL] at hk hl ⊢
  clear hc hx hL
  have d1 : decide ((k : Int) < 0) = false := by simp
  have d2 : decide ((L : Int) ≤ k) = false := by simp; omega
  have d3 : IntKind.i64.wrap (k : Int) = k := IntWalk.i64_in _ (by omega)
  have d4 : (k : Int) < L := by omega
  go_enter Try.func20, Try.ntmps20
  go_wp2
  go_ret
  exact ⟨rfl, below_new1 _ _⟩

def zA : List Int := laidZ 1 17 ⟨2, 3, 1⟩
def zB : List Int := zA.set 8 19
theorem laidZ_i64 : ∀ z ∈ zA, I64 z := by unfold zA laidZ; intro z hz; simp at hz; unfold I64; omega
theorem zB_i64 : ∀ z ∈ zB, I64 z := by unfold zB zA laidZ; intro z hz; simp at hz; unfold I64; omega
theorem exec1 : exec 19 (mgrT (lay3 1) 0 1 1 ⟨1, 3, 0⟩) zA = some ({ val := 2 }, zB, 5) := by kernel_rfl
theorem exec2 : exec 19 (mgrT (lay3 1) 0 1 0 ⟨1, 3, 0⟩) zB = some ({ val := 2 }, zB, 3) := by kernel_rfl
theorem exec3 : exec 19 (mgrT (lay3 1) 1 0 1 ⟨2, 3, 1⟩) zB = some ({ val := 1, lost := true }, zB, 1) := by kernel_rfl
theorem sane17_any (w : World) : Calls Try.prog 29 #[] w fun e w' => e = .returned (.bool true) ∧ Below w.heap.size w w' := by
  have HWh : Hid (∀ w, Calls Try.prog 32 #[.int .i64 1] w fun e w' => e = .returned (.agg #[.int .i64 3, .int .i64 0, .int .i64 0, .int .i64 0, .int .i64 1, .int .i64 0, .int .i64 1, .int .i64 2, .int .i64 3, .int .i64 4, .int .i64 16, .int .i64 16, .int .i64 16]) ∧ Below w.heap.size w w') := Lib.hid (fun w => where17_any 1 (by decide) w)
  have HSt : Hid (∀ w, Calls Try.prog 35 #[.int .i64 4, .int .i64 1] w fun e w' => e = .returned (.int .i64 17) ∧ Below w.heap.size w w') := Lib.hid (fun w => (wstatus_any 4 1 w).mono (by rintro e w' ⟨rfl, rfl⟩; exact ⟨ret_int (by decide +kernel), Below.refl _ _⟩))
  have HSu : Hid (∀ w, Calls Try.prog 35 #[.int .i64 4, .int .i64 3] w fun e w' => e = .returned (.int .i64 19) ∧ Below w.heap.size w w') := Lib.hid (fun w => (wstatus_any 4 3 w).mono (by rintro e w' ⟨rfl, rfl⟩; exact ⟨ret_int (by decide +kernel), Below.refl _ _⟩))
  have HLd : Hid (∀ w, Calls Try.prog 36 #[.agg #[.int .i64 3, .int .i64 0, .int .i64 0, .int .i64 0, .int .i64 1, .int .i64 0, .int .i64 1, .int .i64 2, .int .i64 3, .int .i64 4, .int .i64 16, .int .i64 16, .int .i64 16], .int .i64 1, .int .i64 17, .agg #[.int .i64 2, .int .i64 3, .int .i64 1]] w fun e w' => ∃ a c, e = .returned (.agg #[.slice a 16 c]) ∧ HasInts w' (.slice a 16 c) zA ∧ Below w.heap.size w w') := Lib.hid (fun w => laid17_any 1 17 1 (by decide) ⟨2, 3, 1⟩ w)
  have HA1 : Hid (∀ w am cm, HasInts w (.slice am 16 cm) zA → Calls Try.prog 37 #[.agg #[.int .i64 3, .int .i64 0, .int .i64 0, .int .i64 0, .int .i64 1, .int .i64 0, .int .i64 1, .int .i64 2, .int .i64 3, .int .i64 4, .int .i64 16, .int .i64 16, .int .i64 16], .agg #[.slice am 16 cm], .int .i64 0, .agg #[.int .i64 0, .int .i64 1, .int .i64 1, .int .i64 0, .int .i64 1, .int .i64 3, .int .i64 0, .slice none 0 0, .slice none 0 0, .slice none 0 0]] w fun e w' => ∃ a2 c2, e = .returned (.tuple #[.agg #[.int .i64 2, .int .i64 0, .int .i64 0, .int .i64 0, .bool false, .bool false, .int .i64 0], .agg #[.slice a2 16 c2], .int .i64 5]) ∧ HasInts w' (.slice a2 16 c2) zB ∧ Below w.heap.size w w') := Lib.hid (fun w am cm hv => by
    refine (alone17_any w (lay3 1) (lay3_ok 1) 0 0 1 1 0 ⟨1, 3, 0⟩ none none none 0 0 0 0 0 0 am 16 cm zA hv (by simp [zA, zA, laidZ]) laidZ_i64 _ _ _ exec1).mono ?_
    rintro e w' ⟨a2, l2, c2, rfl, hu, hb⟩
    have hl : (zB : List Int).length = 16 := by simp [zB, zA, laidZ]
    obtain ⟨a3, c3, he, _⟩ := id hu
    simp only [Value.slice.injEq] at he
    obtain ⟨rfl, rfl, rfl⟩ := he
    rw [hl] at hu ⊢
    exact ⟨_, _, rfl, hu, hb⟩)
  have HA2 : Hid (∀ w am cm, HasInts w (.slice am 16 cm) zB → Calls Try.prog 37 #[.agg #[.int .i64 3, .int .i64 0, .int .i64 0, .int .i64 0, .int .i64 1, .int .i64 0, .int .i64 1, .int .i64 2, .int .i64 3, .int .i64 4, .int .i64 16, .int .i64 16, .int .i64 16], .agg #[.slice am 16 cm], .int .i64 0, .agg #[.int .i64 0, .int .i64 1, .int .i64 0, .int .i64 0, .int .i64 1, .int .i64 3, .int .i64 0, .slice none 0 0, .slice none 0 0, .slice none 0 0]] w fun e w' => ∃ a2 c2, e = .returned (.tuple #[.agg #[.int .i64 2, .int .i64 0, .int .i64 0, .int .i64 0, .bool false, .bool false, .int .i64 0], .agg #[.slice a2 16 c2], .int .i64 3]) ∧ HasInts w' (.slice a2 16 c2) zB ∧ Below w.heap.size w w') := Lib.hid (fun w am cm hv => by
    refine (alone17_any w (lay3 1) (lay3_ok 1) 0 0 1 0 0 ⟨1, 3, 0⟩ none none none 0 0 0 0 0 0 am 16 cm zB hv (by simp [zB, zA, laidZ]) zB_i64 _ _ _ exec2).mono ?_
    rintro e w' ⟨a2, l2, c2, rfl, hu, hb⟩
    have hl : (zB : List Int).length = 16 := by simp [zB, zA, laidZ]
    obtain ⟨a3, c3, he, _⟩ := id hu
    simp only [Value.slice.injEq] at he
    obtain ⟨rfl, rfl, rfl⟩ := he
    rw [hl] at hu ⊢
    exact ⟨_, _, rfl, hu, hb⟩)
  have HA3 : Hid (∀ w am cm, HasInts w (.slice am 16 cm) zB → Calls Try.prog 37 #[.agg #[.int .i64 3, .int .i64 0, .int .i64 0, .int .i64 0, .int .i64 1, .int .i64 0, .int .i64 1, .int .i64 2, .int .i64 3, .int .i64 4, .int .i64 16, .int .i64 16, .int .i64 16], .agg #[.slice am 16 cm], .int .i64 1, .agg #[.int .i64 0, .int .i64 0, .int .i64 1, .int .i64 0, .int .i64 2, .int .i64 3, .int .i64 1, .slice none 0 0, .slice none 0 0, .slice none 0 0]] w fun e w' => ∃ a2 c2, e = .returned (.tuple #[.agg #[.int .i64 1, .int .i64 0, .int .i64 0, .int .i64 0, .bool false, .bool true, .int .i64 0], .agg #[.slice a2 16 c2], .int .i64 1]) ∧ HasInts w' (.slice a2 16 c2) zB ∧ Below w.heap.size w w') := Lib.hid (fun w am cm hv => by
    refine (alone17_any w (lay3 1) (lay3_ok 1) 1 0 0 1 0 ⟨2, 3, 1⟩ none none none 0 0 0 0 0 0 am 16 cm zB hv (by simp [zB, zA, laidZ]) zB_i64 _ _ _ exec3).mono ?_
    rintro e w' ⟨a2, l2, c2, rfl, hu, hb⟩
    have hl : (zB : List Int).length = 16 := by simp [zB, zA, laidZ]
    obtain ⟨a3, c3, he, _⟩ := id hu
    simp only [Value.slice.injEq] at he
    obtain ⟨rfl, rfl, rfl⟩ := he
    rw [hl] at hu ⊢
    exact ⟨_, _, rfl, hu, hb⟩)
  have HC1 : Hid (∀ w, Calls Try.prog 30 #[.int .i64 2, .agg #[.int .i64 1, .int .i64 3, .int .i64 0], .agg #[.int .i64 2, .int .i64 3, .int .i64 1]] w fun e w' => e = .returned (.int .i64 2) ∧ Below w.heap.size w w') := Lib.hid (fun w => choose_any 2 ⟨1, 3, 0⟩ ⟨2, 3, 1⟩ w)
  have HC2 : Hid (∀ w, Calls Try.prog 30 #[.int .i64 2, .agg #[.int .i64 2, .int .i64 3, .int .i64 1], .agg #[.int .i64 1, .int .i64 3, .int .i64 0]] w fun e w' => e = .returned (.int .i64 1) ∧ Below w.heap.size w w') := Lib.hid (fun w => choose_any 2 ⟨2, 3, 1⟩ ⟨1, 3, 0⟩ w)
  have HC3 : Hid (∀ w, Calls Try.prog 30 #[.int .i64 3, .agg #[.int .i64 2, .int .i64 3, .int .i64 1], .agg #[.int .i64 1, .int .i64 3, .int .i64 0]] w fun e w' => e = .returned (.int .i64 1) ∧ Below w.heap.size w w') := Lib.hid (fun w => choose_any 3 ⟨2, 3, 1⟩ ⟨1, 3, 0⟩ w)
  have HC4 : Hid (∀ w, Calls Try.prog 30 #[.int .i64 0, .agg #[.int .i64 1, .int .i64 3, .int .i64 0], .agg #[.int .i64 2, .int .i64 3, .int .i64 1]] w fun e w' => e = .returned (.int .i64 1) ∧ Below w.heap.size w w') := Lib.hid (fun w => choose_any 0 ⟨1, 3, 0⟩ ⟨2, 3, 1⟩ w)
  have HL8 : Hid (∀ w, Calls Try.prog 38 #[.agg #[.int .i64 3, .int .i64 0, .int .i64 0, .int .i64 0, .int .i64 1, .int .i64 0, .int .i64 1, .int .i64 2, .int .i64 3, .int .i64 4, .int .i64 16, .int .i64 16, .int .i64 16], .int .i64 1] w fun e w' => e = .returned (.int .i64 8) ∧ Below w.heap.size w w') := Lib.hid (fun w => status_any (lay3 1) 1 w (lay3_ok 1))
  have HCe : Hid (∀ w a c, HasInts w (.slice a 16 c) zB → Calls Try.prog 20 #[.agg #[.slice a 16 c], .int .i64 8] w fun e w' => e = .returned (.int .i64 19) ∧ Below w.heap.size w w') := Lib.hid (fun w a c h => cell16_any _ zB 8 (by simp [zB, zA, laidZ]) w h)
  have hq1 : ∀ w, (binOp .eql 35 (.agg #[.int .i64 2, .int .i64 0, .int .i64 0, .int .i64 0, .bool false, .bool false, .int .i64 0]) (.agg #[.int .i64 2, .int .i64 0, .int .i64 0, .int .i64 0, .bool false, .bool false, .int .i64 0])).run Try.prog w = .ok (.bool true) w := fun _ => by kernel_rfl
  have hq2 : ∀ w, (binOp .eql 35 (.agg #[.int .i64 1, .int .i64 0, .int .i64 0, .int .i64 0, .bool false, .bool true, .int .i64 0]) (.agg #[.int .i64 1, .int .i64 0, .int .i64 0, .int .i64 0, .bool false, .bool true, .int .i64 0])).run Try.prog w = .ok (.bool true) w := fun _ => by kernel_rfl
  go_enter Try.func29, Try.ntmps29
  go_wp2_with fail
  ((with_reducible refine (HWh.out _).mono ?_); rintro e w1 ⟨rfl, hb⟩)
  have HW := Lib.hid (below_alloc2 hb)
  have zz : w.heap.size + 2 ≤ w1.heap.size := by have := hb.size; (try simp at this); omega
  have caq0 : w1.cell? ⟨w.heap.size, 0, none⟩ = some (.int .i64 1) := cel_below hb (cell_alloc _ (by rw [World.cell?_alloc_at _ _ _ _ (by simp)]; rfl))
  have caq1 : w1.cell? ⟨w.heap.size, 1, none⟩ = some (.int .i64 3) := cel_below hb (cell_alloc _ (by rw [World.cell?_alloc_at _ _ _ _ (by simp)]; rfl))
  have caq2 : w1.cell? ⟨w.heap.size, 2, none⟩ = some (.int .i64 0) := cel_below hb (cell_alloc _ (by rw [World.cell?_alloc_at _ _ _ _ (by simp)]; rfl))
  have z0 : w.heap.size < w1.heap.size := by omega
  have cbq0 : w1.cell? ⟨w.heap.size + 1, 0, none⟩ = some (.int .i64 2) := cel_below hb (by rw [World.cell?_alloc_at _ _ _ _ (by simp)]; rfl)
  have cbq1 : w1.cell? ⟨w.heap.size + 1, 1, none⟩ = some (.int .i64 3) := cel_below hb (by rw [World.cell?_alloc_at _ _ _ _ (by simp)]; rfl)
  have cbq2 : w1.cell? ⟨w.heap.size + 1, 2, none⟩ = some (.int .i64 1) := cel_below hb (by rw [World.cell?_alloc_at _ _ _ _ (by simp)]; rfl)
  have z1 : w.heap.size + 1 < w1.heap.size := by omega
  clear hb zz
  go_upto_region 4 with fail
  obtain ⟨wr2, hwr⟩ : ∃ W, W = w1.alloc (.cells #[.int .i64 3, .int .i64 0, .int .i64 0, .int .i64 0, .int .i64 1, .int .i64 0, .int .i64 1, .int .i64 2, .int .i64 3, .int .i64 4, .int .i64 16, .int .i64 16, .int .i64 16] 41) := ⟨_, rfl⟩
  rw [← hwr]
  have hb : Below w1.heap.size w1 wr2 := by rw [hwr]; exact (Below.alloc (Below.refl _ w1) (by first | exact Nat.le_refl _ | (simp; omega) | simp) _)
  have zz : w1.heap.size + 1 ≤ wr2.heap.size := by rw [hwr]; simp
  replace HW := Lib.hid (below_step HW.out hb)
  replace caq0 : wr2.cell? ⟨w.heap.size, 0, none⟩ = some (.int .i64 1) := cel_below hb caq0
  replace caq1 : wr2.cell? ⟨w.heap.size, 1, none⟩ = some (.int .i64 3) := cel_below hb caq1
  replace caq2 : wr2.cell? ⟨w.heap.size, 2, none⟩ = some (.int .i64 0) := cel_below hb caq2
  replace cbq0 : wr2.cell? ⟨w.heap.size + 1, 0, none⟩ = some (.int .i64 2) := cel_below hb cbq0
  replace cbq1 : wr2.cell? ⟨w.heap.size + 1, 1, none⟩ = some (.int .i64 3) := cel_below hb cbq1
  replace cbq2 : wr2.cell? ⟨w.heap.size + 1, 2, none⟩ = some (.int .i64 1) := cel_below hb cbq2
  replace z0 : w.heap.size < wr2.heap.size := by omega
  replace z1 : w.heap.size + 1 < wr2.heap.size := by omega
  have lq0 : wr2.cell? ⟨w1.heap.size, 0, none⟩ = some (.int .i64 3) := by rw [hwr]; exact by rw [World.cell?_alloc_at _ _ _ _ (by simp)]; rfl
  have lq1 : wr2.cell? ⟨w1.heap.size, 1, none⟩ = some (.int .i64 0) := by rw [hwr]; exact by rw [World.cell?_alloc_at _ _ _ _ (by simp)]; rfl
  have lq2 : wr2.cell? ⟨w1.heap.size, 2, none⟩ = some (.int .i64 0) := by rw [hwr]; exact by rw [World.cell?_alloc_at _ _ _ _ (by simp)]; rfl
  have lq3 : wr2.cell? ⟨w1.heap.size, 3, none⟩ = some (.int .i64 0) := by rw [hwr]; exact by rw [World.cell?_alloc_at _ _ _ _ (by simp)]; rfl
  have lq4 : wr2.cell? ⟨w1.heap.size, 4, none⟩ = some (.int .i64 1) := by rw [hwr]; exact by rw [World.cell?_alloc_at _ _ _ _ (by simp)]; rfl
  have lq5 : wr2.cell? ⟨w1.heap.size, 5, none⟩ = some (.int .i64 0) := by rw [hwr]; exact by rw [World.cell?_alloc_at _ _ _ _ (by simp)]; rfl
  have lq6 : wr2.cell? ⟨w1.heap.size, 6, none⟩ = some (.int .i64 1) := by rw [hwr]; exact by rw [World.cell?_alloc_at _ _ _ _ (by simp)]; rfl
  have lq7 : wr2.cell? ⟨w1.heap.size, 7, none⟩ = some (.int .i64 2) := by rw [hwr]; exact by rw [World.cell?_alloc_at _ _ _ _ (by simp)]; rfl
  have lq8 : wr2.cell? ⟨w1.heap.size, 8, none⟩ = some (.int .i64 3) := by rw [hwr]; exact by rw [World.cell?_alloc_at _ _ _ _ (by simp)]; rfl
  have lq9 : wr2.cell? ⟨w1.heap.size, 9, none⟩ = some (.int .i64 4) := by rw [hwr]; exact by rw [World.cell?_alloc_at _ _ _ _ (by simp)]; rfl
  have lq10 : wr2.cell? ⟨w1.heap.size, 10, none⟩ = some (.int .i64 16) := by rw [hwr]; exact by rw [World.cell?_alloc_at _ _ _ _ (by simp)]; rfl
  have lq11 : wr2.cell? ⟨w1.heap.size, 11, none⟩ = some (.int .i64 16) := by rw [hwr]; exact by rw [World.cell?_alloc_at _ _ _ _ (by simp)]; rfl
  have lq12 : wr2.cell? ⟨w1.heap.size, 12, none⟩ = some (.int .i64 16) := by rw [hwr]; exact by rw [World.cell?_alloc_at _ _ _ _ (by simp)]; rfl
  have z2 : w1.heap.size < wr2.heap.size := by omega
  clear hb zz hwr
  have HWr := Lib.hid HW.out
  go_cut [4] (fun s4 wx => ∃ (g : Nat) (am : Option Addr) (cm : Nat), s4 = .pointer (some ⟨g, 0, none⟩) ∧ g < wx.heap.size ∧ wr2.heap.size ≤ g ∧ wx.cell? ⟨g, 0, none⟩ = some (.slice am 16 cm) ∧ HasInts wx (.slice am 16 cm) zA ∧ Below wr2.heap.size wr2 wx)
  case first =>
    have HW := Lib.hid (Below.refl wr2.heap.size wr2)
    have HWS := Lib.hid (Nat.le_refl wr2.heap.size)
    refine wp_region_held_drew (S := fun W => W.cell? ⟨w.heap.size + 1, 0, none⟩ = some (.int .i64 2) ∧ W.cell? ⟨w.heap.size + 1, 1, none⟩ = some (.int .i64 3) ∧ W.cell? ⟨w.heap.size + 1, 2, none⟩ = some (.int .i64 1) ∧ W.cell? ⟨w1.heap.size, 0, none⟩ = some (.int .i64 3) ∧ W.cell? ⟨w1.heap.size, 1, none⟩ = some (.int .i64 0) ∧ W.cell? ⟨w1.heap.size, 2, none⟩ = some (.int .i64 0) ∧ W.cell? ⟨w1.heap.size, 3, none⟩ = some (.int .i64 0) ∧ W.cell? ⟨w1.heap.size, 4, none⟩ = some (.int .i64 1) ∧ W.cell? ⟨w1.heap.size, 5, none⟩ = some (.int .i64 0) ∧ W.cell? ⟨w1.heap.size, 6, none⟩ = some (.int .i64 1) ∧ W.cell? ⟨w1.heap.size, 7, none⟩ = some (.int .i64 2) ∧ W.cell? ⟨w1.heap.size, 8, none⟩ = some (.int .i64 3) ∧ W.cell? ⟨w1.heap.size, 9, none⟩ = some (.int .i64 4) ∧ W.cell? ⟨w1.heap.size, 10, none⟩ = some (.int .i64 16) ∧ W.cell? ⟨w1.heap.size, 11, none⟩ = some (.int .i64 16) ∧ W.cell? ⟨w1.heap.size, 12, none⟩ = some (.int .i64 16)) (by kernel_rfl) ?_ (fun hHeld => ?_)
    · (try dsimp only); exact ⟨by first | assumption | go_simp, by first | assumption | go_simp, by first | assumption | go_simp, by first | assumption | go_simp, by first | assumption | go_simp, by first | assumption | go_simp, by first | assumption | go_simp, by first | assumption | go_simp, by first | assumption | go_simp, by first | assumption | go_simp, by first | assumption | go_simp, by first | assumption | go_simp, by first | assumption | go_simp, by first | assumption | go_simp, by first | assumption | go_simp, by first | assumption | go_simp⟩
    replace HW := Lib.hid (show Below _ _ (World.drew wr2) from below_drews HW.out 1)
    obtain ⟨wy0, hwy⟩ : ∃ W, W = World.drew wr2 := ⟨_, rfl⟩
    rw [← hwy] at HW ⊢
    have hHeld2 := hHeld
    rw [← hwy] at hHeld2
    clear hHeld
    have LO : wr2.heap.size ≤ wy0.heap.size := by rw [hwy]; exact Nat.le_refl _
    have hb : Below wr2.heap.size wr2 wy0 := by rw [hwy]; exact below_drews (Below.refl _ _) 1
    clear hb hwy
    obtain ⟨s0, s1, s2, s3, s4, s5, s6, s7, s8, s9, s10, s11, s12, s13, s14, s15⟩ := hHeld2
    have hHeld := And.intro s0 (And.intro s1 (And.intro s2 (And.intro s3 (And.intro s4 (And.intro s5 (And.intro s6 (And.intro s7 (And.intro s8 (And.intro s9 (And.intro s10 (And.intro s11 (And.intro s12 (And.intro s13 (And.intro s14 (s15)))))))))))))))
    refine wpAnyH_take (i := 0) (oi := ?oi1) (v := ?v1) ?hi1 (by kernel_rfl) (by kernel_rfl) (by kernel_rfl) ?hQ1 (Or.inl ⟨?hw1, ?hy1⟩) (by assumption) ?rest1; (case hi1 => (simp only [List.getElem?_toArray, List.getElem?_cons_zero]; rfl)); (case hQ1 => exact fun _ _ _ h => h); (case hw1 => rfl); (case hy1 => ((intro w hSw); (try dsimp only at hSw); go_simp; (try with_reducible rfl)))
    (try simp only [Act.put, List.setIfInBounds_toArray, List.set_cons_zero, List.set_cons_succ])
    refine wpAnyH_take (i := 2) (oi := ?oi3) (v := ?v3) ?hi3 (by kernel_rfl) (by kernel_rfl) (by kernel_rfl) ?hQ3 (Or.inl ⟨?hw3, ?hy3⟩) (by assumption) ?rest3; (case hi3 => (simp only [List.getElem?_toArray, List.getElem?_cons_succ, List.getElem?_cons_zero]; rfl)); (case hQ3 => exact fun _ _ _ h => h); (case hw3 => rfl); (case hy3 => ((intro w hSw); (try dsimp only at hSw); go_simp; (try with_reducible rfl)))
    (try simp only [Act.put, List.setIfInBounds_toArray, List.set_cons_zero, List.set_cons_succ])
    clear hHeld
    refine wpAnyH_ready (rs := [1, 4]) (by kernel_rfl) (by simp) ?_
    refine AllReadyH.cons (o := ?oi5) ?hi5 (fun K hK => ?rest5) (AllReadyH.cons (o := ?oi6) ?hi6 (fun K hK => ?rest6) AllReadyH.nil)
    (case hi5 => (simp only [List.getElem?_toArray, List.getElem?_cons_succ, List.getElem?_cons_zero]; rfl))
    (case hi6 => (simp only [List.getElem?_toArray, List.getElem?_cons_succ, List.getElem?_cons_zero]; rfl))
    case rest5 =>
     go_simp
     ((with_reducible refine (HSt.out _).mono ?_); rintro e wz7 ⟨rfl, hb⟩)
     replace HW := Lib.hid (below_step HW.out hb)
     replace s0 := cel_below hb s0
     replace s1 := cel_below hb s1
     replace s2 := cel_below hb s2
     replace s3 := cel_below hb s3
     replace s4 := cel_below hb s4
     replace s5 := cel_below hb s5
     replace s6 := cel_below hb s6
     replace s7 := cel_below hb s7
     replace s8 := cel_below hb s8
     replace s9 := cel_below hb s9
     replace s10 := cel_below hb s10
     replace s11 := cel_below hb s11
     replace s12 := cel_below hb s12
     replace s13 := cel_below hb s13
     replace s14 := cel_below hb s14
     replace s15 := cel_below hb s15
     replace LO := Nat.le_trans LO hb.size
     clear hb
     refine hK.out _ _ ?_ (fun _ => ?_)
     · (try dsimp only); exact ⟨s0, s1, s2, s3, s4, s5, s6, s7, s8, s9, s10, s11, s12, s13, s14, s15⟩
     clear hK K
     (try simp only [Act.put, List.setIfInBounds_toArray, List.set_cons_zero, List.set_cons_succ])
     refine wpAnyH_ready (rs := [3, 4]) (by kernel_rfl) (by simp) ?_
     refine AllReadyH.cons (o := ?oi8) ?hi8 (fun K hK => ?rest8) (AllReadyH.cons (o := ?oi9) ?hi9 (fun K hK => ?rest9) AllReadyH.nil)
     (case hi8 => (simp only [List.getElem?_toArray, List.getElem?_cons_succ, List.getElem?_cons_zero]; rfl))
     (case hi9 => (simp only [List.getElem?_toArray, List.getElem?_cons_succ, List.getElem?_cons_zero]; rfl))
     case rest8 =>
      go_simp
      ((with_reducible refine (HLd.out _).mono ?_); rintro e wz10 ⟨am, cm, rfl, hq, hb⟩)
      replace HW := Lib.hid (below_step HW.out hb)
      replace s0 := cel_below hb s0
      replace s1 := cel_below hb s1
      replace s2 := cel_below hb s2
      replace s3 := cel_below hb s3
      replace s4 := cel_below hb s4
      replace s5 := cel_below hb s5
      replace s6 := cel_below hb s6
      replace s7 := cel_below hb s7
      replace s8 := cel_below hb s8
      replace s9 := cel_below hb s9
      replace s10 := cel_below hb s10
      replace s11 := cel_below hb s11
      replace s12 := cel_below hb s12
      replace s13 := cel_below hb s13
      replace s14 := cel_below hb s14
      replace s15 := cel_below hb s15
      have HM1 := Lib.hid hq
      clear hq
      replace LO := Nat.le_trans LO hb.size
      clear hb
      refine hK.out _ _ ?_ (fun _ => ?_)
      · (try dsimp only); exact ⟨s0, s1, s2, s3, s4, s5, s6, s7, s8, s9, s10, s11, s12, s13, s14, s15⟩
      clear hK K
      (try simp only [Act.put, List.setIfInBounds_toArray, List.set_cons_zero, List.set_cons_succ])
      refine wpAnyH_ready (rs := [4]) (by kernel_rfl) (by simp) ?_
      refine AllReadyH.cons (o := ?oi11) ?hi11 (fun K hK => ?rest11) AllReadyH.nil
      (case hi11 => (simp only [List.getElem?_toArray, List.getElem?_cons_succ, List.getElem?_cons_zero]; rfl))
      go_simp
      obtain ⟨wz12, hwy⟩ : ∃ W, W = wz10.alloc (.cells #[.slice none 0 0] 55) := ⟨_, rfl⟩
      rw [← hwy]
      have hb : Below wz10.heap.size wz10 wz12 := by rw [hwy]; exact below_new1 _ _
      have mc0 : wz12.cell? ⟨wz10.heap.size, 0, none⟩ = some (.slice none 0 0) := by rw [hwy, World.cell?_alloc_at _ _ _ _ rfl]; rfl
      have mf0 : wz12.frozen? ⟨wz10.heap.size, 0, none⟩ = false := by rw [hwy]; exact World.frozen?_alloc_at _ _ _ _ rfl
      have mt : Tag wz12 wz10.heap.size 55 := by rw [hwy]; exact tag_new _ _ _
      have mz : wz10.heap.size < wz12.heap.size := by rw [hwy]; simp
      have ml := LO
      replace HW := Lib.hid (below_step HW.out hb)
      replace s0 := cel_below hb s0
      replace s1 := cel_below hb s1
      replace s2 := cel_below hb s2
      replace s3 := cel_below hb s3
      replace s4 := cel_below hb s4
      replace s5 := cel_below hb s5
      replace s6 := cel_below hb s6
      replace s7 := cel_below hb s7
      replace s8 := cel_below hb s8
      replace s9 := cel_below hb s9
      replace s10 := cel_below hb s10
      replace s11 := cel_below hb s11
      replace s12 := cel_below hb s12
      replace s13 := cel_below hb s13
      replace s14 := cel_below hb s14
      replace s15 := cel_below hb s15
      replace HM1 := Lib.hid (hasInts_keep HM1.out hb)
      replace LO := Nat.le_trans LO hb.size
      clear hb hwy
      refine hK.out _ _ ?_ (fun _ => ?_)
      · (try dsimp only); exact ⟨s0, s1, s2, s3, s4, s5, s6, s7, s8, s9, s10, s11, s12, s13, s14, s15⟩
      clear hK K
      (try simp only [Act.put, List.setIfInBounds_toArray, List.set_cons_zero, List.set_cons_succ])
      refine wpAnyH_ready (rs := [5]) (by kernel_rfl) (by simp) ?_
      refine AllReadyH.cons (o := ?oi13) ?hi13 (fun K hK => ?rest13) AllReadyH.nil
      (case hi13 => (simp only [List.getElem?_toArray, List.getElem?_cons_succ, List.getElem?_cons_zero]; rfl))
      go_simp
      obtain ⟨wz14, hwy⟩ : ∃ W, W = (wz12.setCell ⟨wz10.heap.size, 0, none⟩ (.slice am 16 cm)) := ⟨_, rfl⟩
      rw [← hwy]
      have kp : ∀ {b' o' : Nat} {u : Value}, wz12.cell? ⟨b', o', none⟩ = some u → wz10.heap.size ≠ b' → wz14.cell? ⟨b', o', none⟩ = some u := fun h hn => by rw [hwy]; exact keepA_ (h) (Or.inl hn)
      replace s0 := kp s0 (by omega)
      replace s1 := kp s1 (by omega)
      replace s2 := kp s2 (by omega)
      replace s3 := kp s3 (by omega)
      replace s4 := kp s4 (by omega)
      replace s5 := kp s5 (by omega)
      replace s6 := kp s6 (by omega)
      replace s7 := kp s7 (by omega)
      replace s8 := kp s8 (by omega)
      replace s9 := kp s9 (by omega)
      replace s10 := kp s10 (by omega)
      replace s11 := kp s11 (by omega)
      replace s12 := kp s12 (by omega)
      replace s13 := kp s13 (by omega)
      replace s14 := kp s14 (by omega)
      replace s15 := kp s15 (by omega)
      clear kp
      replace HM1 := Lib.hid (hasInts_setS HM1.out mc0 (u := .slice am 16 cm))
      rw [← hwy] at HM1
      have md0 : wz14.cell? ⟨wz10.heap.size, 0, none⟩ = some (.slice am 16 cm) := by rw [hwy]; exact World.cell?_setCell_same _ _ _ mc0
      replace mt : Tag wz14 wz10.heap.size 55 := by rw [hwy]; exact (tag_set mt _ _)
      replace mf0 : wz14.frozen? ⟨wz10.heap.size, 0, none⟩ = false := by rw [hwy]; simpa using mf0
      replace HW := Lib.hid (Below.setCell (p := ⟨wz10.heap.size, 0, none⟩) HW.out (by have := HWS.out; dsimp only; omega) (.slice am 16 cm))
      rw [← hwy] at HW
      have hsz : wz14.heap.size = wz12.heap.size := by rw [hwy]; simp
      replace mz : wz10.heap.size < wz14.heap.size := by omega
      replace LO : _ ≤ wz14.heap.size := Nat.le_trans LO (Nat.le_of_eq hsz.symm)
      clear hsz hwy mc0
      have mc0 := md0
      clear md0
      refine hK.out _ _ ?_ (fun _ => ?_)
      · (try dsimp only); exact ⟨s0, s1, s2, s3, s4, s5, s6, s7, s8, s9, s10, s11, s12, s13, s14, s15⟩
      clear hK K
      (try simp only [Act.put, List.setIfInBounds_toArray, List.set_cons_zero, List.set_cons_succ])
      refine wpAnyH_done (by kernel_rfl) ?_ _
      go_wp2_with fail
      go_meet
      exact ⟨wz10.heap.size, am, cm, rfl, mz, ml, mc0, HM1.out, HW.out⟩
     case rest9 =>
      go_simp
      obtain ⟨wz15, hwy⟩ : ∃ W, W = wz7.alloc (.cells #[.slice none 0 0] 55) := ⟨_, rfl⟩
      rw [← hwy]
      have hb : Below wz7.heap.size wz7 wz15 := by rw [hwy]; exact below_new1 _ _
      have mc0 : wz15.cell? ⟨wz7.heap.size, 0, none⟩ = some (.slice none 0 0) := by rw [hwy, World.cell?_alloc_at _ _ _ _ rfl]; rfl
      have mf0 : wz15.frozen? ⟨wz7.heap.size, 0, none⟩ = false := by rw [hwy]; exact World.frozen?_alloc_at _ _ _ _ rfl
      have mt : Tag wz15 wz7.heap.size 55 := by rw [hwy]; exact tag_new _ _ _
      have mz : wz7.heap.size < wz15.heap.size := by rw [hwy]; simp
      have ml := LO
      replace HW := Lib.hid (below_step HW.out hb)
      replace s0 := cel_below hb s0
      replace s1 := cel_below hb s1
      replace s2 := cel_below hb s2
      replace s3 := cel_below hb s3
      replace s4 := cel_below hb s4
      replace s5 := cel_below hb s5
      replace s6 := cel_below hb s6
      replace s7 := cel_below hb s7
      replace s8 := cel_below hb s8
      replace s9 := cel_below hb s9
      replace s10 := cel_below hb s10
      replace s11 := cel_below hb s11
      replace s12 := cel_below hb s12
      replace s13 := cel_below hb s13
      replace s14 := cel_below hb s14
      replace s15 := cel_below hb s15
      replace LO := Nat.le_trans LO hb.size
      clear hb hwy
      refine hK.out _ _ ?_ (fun _ => ?_)
      · (try dsimp only); exact ⟨s0, s1, s2, s3, s4, s5, s6, s7, s8, s9, s10, s11, s12, s13, s14, s15⟩
      clear hK K
      (try simp only [Act.put, List.setIfInBounds_toArray, List.set_cons_zero, List.set_cons_succ])
      refine wpAnyH_ready (rs := [3]) (by kernel_rfl) (by simp) ?_
      refine AllReadyH.cons (o := ?oi16) ?hi16 (fun K hK => ?rest16) AllReadyH.nil
      (case hi16 => (simp only [List.getElem?_toArray, List.getElem?_cons_succ, List.getElem?_cons_zero]; rfl))
      go_simp
      ((with_reducible refine (HLd.out _).mono ?_); rintro e wz17 ⟨am, cm, rfl, hq, hb⟩)
      replace HW := Lib.hid (below_step HW.out hb)
      replace s0 := cel_below hb s0
      replace s1 := cel_below hb s1
      replace s2 := cel_below hb s2
      replace s3 := cel_below hb s3
      replace s4 := cel_below hb s4
      replace s5 := cel_below hb s5
      replace s6 := cel_below hb s6
      replace s7 := cel_below hb s7
      replace s8 := cel_below hb s8
      replace s9 := cel_below hb s9
      replace s10 := cel_below hb s10
      replace s11 := cel_below hb s11
      replace s12 := cel_below hb s12
      replace s13 := cel_below hb s13
      replace s14 := cel_below hb s14
      replace s15 := cel_below hb s15
      replace mc0 := cel_below hb mc0
      replace mf0 := fro_below hb mz mf0
      replace mz := lt_below hb mz
      replace mt := tag_below mt hb
      have HM1 := Lib.hid hq
      clear hq
      replace LO := Nat.le_trans LO hb.size
      clear hb
      refine hK.out _ _ ?_ (fun _ => ?_)
      · (try dsimp only); exact ⟨s0, s1, s2, s3, s4, s5, s6, s7, s8, s9, s10, s11, s12, s13, s14, s15⟩
      clear hK K
      (try simp only [Act.put, List.setIfInBounds_toArray, List.set_cons_zero, List.set_cons_succ])
      refine wpAnyH_ready (rs := [5]) (by kernel_rfl) (by simp) ?_
      refine AllReadyH.cons (o := ?oi18) ?hi18 (fun K hK => ?rest18) AllReadyH.nil
      (case hi18 => (simp only [List.getElem?_toArray, List.getElem?_cons_succ, List.getElem?_cons_zero]; rfl))
      go_simp
      obtain ⟨wz19, hwy⟩ : ∃ W, W = (wz17.setCell ⟨wz7.heap.size, 0, none⟩ (.slice am 16 cm)) := ⟨_, rfl⟩
      rw [← hwy]
      have kp : ∀ {b' o' : Nat} {u : Value}, wz17.cell? ⟨b', o', none⟩ = some u → wz7.heap.size ≠ b' → wz19.cell? ⟨b', o', none⟩ = some u := fun h hn => by rw [hwy]; exact keepA_ (h) (Or.inl hn)
      replace s0 := kp s0 (by omega)
      replace s1 := kp s1 (by omega)
      replace s2 := kp s2 (by omega)
      replace s3 := kp s3 (by omega)
      replace s4 := kp s4 (by omega)
      replace s5 := kp s5 (by omega)
      replace s6 := kp s6 (by omega)
      replace s7 := kp s7 (by omega)
      replace s8 := kp s8 (by omega)
      replace s9 := kp s9 (by omega)
      replace s10 := kp s10 (by omega)
      replace s11 := kp s11 (by omega)
      replace s12 := kp s12 (by omega)
      replace s13 := kp s13 (by omega)
      replace s14 := kp s14 (by omega)
      replace s15 := kp s15 (by omega)
      clear kp
      replace HM1 := Lib.hid (hasInts_setS HM1.out mc0 (u := .slice am 16 cm))
      rw [← hwy] at HM1
      have md0 : wz19.cell? ⟨wz7.heap.size, 0, none⟩ = some (.slice am 16 cm) := by rw [hwy]; exact World.cell?_setCell_same _ _ _ mc0
      replace mt : Tag wz19 wz7.heap.size 55 := by rw [hwy]; exact (tag_set mt _ _)
      replace mf0 : wz19.frozen? ⟨wz7.heap.size, 0, none⟩ = false := by rw [hwy]; simpa using mf0
      replace HW := Lib.hid (Below.setCell (p := ⟨wz7.heap.size, 0, none⟩) HW.out (by have := HWS.out; dsimp only; omega) (.slice am 16 cm))
      rw [← hwy] at HW
      have hsz : wz19.heap.size = wz17.heap.size := by rw [hwy]; simp
      replace mz : wz7.heap.size < wz19.heap.size := by omega
      replace LO : _ ≤ wz19.heap.size := Nat.le_trans LO (Nat.le_of_eq hsz.symm)
      clear hsz hwy mc0
      have mc0 := md0
      clear md0
      refine hK.out _ _ ?_ (fun _ => ?_)
      · (try dsimp only); exact ⟨s0, s1, s2, s3, s4, s5, s6, s7, s8, s9, s10, s11, s12, s13, s14, s15⟩
      clear hK K
      (try simp only [Act.put, List.setIfInBounds_toArray, List.set_cons_zero, List.set_cons_succ])
      refine wpAnyH_done (by kernel_rfl) ?_ _
      go_wp2_with fail
      go_meet
      exact ⟨wz7.heap.size, am, cm, rfl, mz, ml, mc0, HM1.out, HW.out⟩
    case rest6 =>
     go_simp
     obtain ⟨wz20, hwy⟩ : ∃ W, W = wy0.alloc (.cells #[.slice none 0 0] 55) := ⟨_, rfl⟩
     rw [← hwy]
     have hb : Below wy0.heap.size wy0 wz20 := by rw [hwy]; exact below_new1 _ _
     have mc0 : wz20.cell? ⟨wy0.heap.size, 0, none⟩ = some (.slice none 0 0) := by rw [hwy, World.cell?_alloc_at _ _ _ _ rfl]; rfl
     have mf0 : wz20.frozen? ⟨wy0.heap.size, 0, none⟩ = false := by rw [hwy]; exact World.frozen?_alloc_at _ _ _ _ rfl
     have mt : Tag wz20 wy0.heap.size 55 := by rw [hwy]; exact tag_new _ _ _
     have mz : wy0.heap.size < wz20.heap.size := by rw [hwy]; simp
     have ml := LO
     replace HW := Lib.hid (below_step HW.out hb)
     replace s0 := cel_below hb s0
     replace s1 := cel_below hb s1
     replace s2 := cel_below hb s2
     replace s3 := cel_below hb s3
     replace s4 := cel_below hb s4
     replace s5 := cel_below hb s5
     replace s6 := cel_below hb s6
     replace s7 := cel_below hb s7
     replace s8 := cel_below hb s8
     replace s9 := cel_below hb s9
     replace s10 := cel_below hb s10
     replace s11 := cel_below hb s11
     replace s12 := cel_below hb s12
     replace s13 := cel_below hb s13
     replace s14 := cel_below hb s14
     replace s15 := cel_below hb s15
     replace LO := Nat.le_trans LO hb.size
     clear hb hwy
     refine hK.out _ _ ?_ (fun _ => ?_)
     · (try dsimp only); exact ⟨s0, s1, s2, s3, s4, s5, s6, s7, s8, s9, s10, s11, s12, s13, s14, s15⟩
     clear hK K
     (try simp only [Act.put, List.setIfInBounds_toArray, List.set_cons_zero, List.set_cons_succ])
     refine wpAnyH_ready (rs := [1]) (by kernel_rfl) (by simp) ?_
     refine AllReadyH.cons (o := ?oi21) ?hi21 (fun K hK => ?rest21) AllReadyH.nil
     (case hi21 => (simp only [List.getElem?_toArray, List.getElem?_cons_succ, List.getElem?_cons_zero]; rfl))
     go_simp
     ((with_reducible refine (HSt.out _).mono ?_); rintro e wz22 ⟨rfl, hb⟩)
     replace HW := Lib.hid (below_step HW.out hb)
     replace s0 := cel_below hb s0
     replace s1 := cel_below hb s1
     replace s2 := cel_below hb s2
     replace s3 := cel_below hb s3
     replace s4 := cel_below hb s4
     replace s5 := cel_below hb s5
     replace s6 := cel_below hb s6
     replace s7 := cel_below hb s7
     replace s8 := cel_below hb s8
     replace s9 := cel_below hb s9
     replace s10 := cel_below hb s10
     replace s11 := cel_below hb s11
     replace s12 := cel_below hb s12
     replace s13 := cel_below hb s13
     replace s14 := cel_below hb s14
     replace s15 := cel_below hb s15
     replace mc0 := cel_below hb mc0
     replace mf0 := fro_below hb mz mf0
     replace mz := lt_below hb mz
     replace mt := tag_below mt hb
     replace LO := Nat.le_trans LO hb.size
     clear hb
     refine hK.out _ _ ?_ (fun _ => ?_)
     · (try dsimp only); exact ⟨s0, s1, s2, s3, s4, s5, s6, s7, s8, s9, s10, s11, s12, s13, s14, s15⟩
     clear hK K
     (try simp only [Act.put, List.setIfInBounds_toArray, List.set_cons_zero, List.set_cons_succ])
     refine wpAnyH_ready (rs := [3]) (by kernel_rfl) (by simp) ?_
     refine AllReadyH.cons (o := ?oi23) ?hi23 (fun K hK => ?rest23) AllReadyH.nil
     (case hi23 => (simp only [List.getElem?_toArray, List.getElem?_cons_succ, List.getElem?_cons_zero]; rfl))
     go_simp
     ((with_reducible refine (HLd.out _).mono ?_); rintro e wz24 ⟨am, cm, rfl, hq, hb⟩)
     replace HW := Lib.hid (below_step HW.out hb)
     replace s0 := cel_below hb s0
     replace s1 := cel_below hb s1
     replace s2 := cel_below hb s2
     replace s3 := cel_below hb s3
     replace s4 := cel_below hb s4
     replace s5 := cel_below hb s5
     replace s6 := cel_below hb s6
     replace s7 := cel_below hb s7
     replace s8 := cel_below hb s8
     replace s9 := cel_below hb s9
     replace s10 := cel_below hb s10
     replace s11 := cel_below hb s11
     replace s12 := cel_below hb s12
     replace s13 := cel_below hb s13
     replace s14 := cel_below hb s14
     replace s15 := cel_below hb s15
     replace mc0 := cel_below hb mc0
     replace mf0 := fro_below hb mz mf0
     replace mz := lt_below hb mz
     replace mt := tag_below mt hb
     have HM1 := Lib.hid hq
     clear hq
     replace LO := Nat.le_trans LO hb.size
     clear hb
     refine hK.out _ _ ?_ (fun _ => ?_)
     · (try dsimp only); exact ⟨s0, s1, s2, s3, s4, s5, s6, s7, s8, s9, s10, s11, s12, s13, s14, s15⟩
     clear hK K
     (try simp only [Act.put, List.setIfInBounds_toArray, List.set_cons_zero, List.set_cons_succ])
     refine wpAnyH_ready (rs := [5]) (by kernel_rfl) (by simp) ?_
     refine AllReadyH.cons (o := ?oi25) ?hi25 (fun K hK => ?rest25) AllReadyH.nil
     (case hi25 => (simp only [List.getElem?_toArray, List.getElem?_cons_succ, List.getElem?_cons_zero]; rfl))
     go_simp
     obtain ⟨wz26, hwy⟩ : ∃ W, W = (wz24.setCell ⟨wy0.heap.size, 0, none⟩ (.slice am 16 cm)) := ⟨_, rfl⟩
     rw [← hwy]
     have kp : ∀ {b' o' : Nat} {u : Value}, wz24.cell? ⟨b', o', none⟩ = some u → wy0.heap.size ≠ b' → wz26.cell? ⟨b', o', none⟩ = some u := fun h hn => by rw [hwy]; exact keepA_ (h) (Or.inl hn)
     replace s0 := kp s0 (by omega)
     replace s1 := kp s1 (by omega)
     replace s2 := kp s2 (by omega)
     replace s3 := kp s3 (by omega)
     replace s4 := kp s4 (by omega)
     replace s5 := kp s5 (by omega)
     replace s6 := kp s6 (by omega)
     replace s7 := kp s7 (by omega)
     replace s8 := kp s8 (by omega)
     replace s9 := kp s9 (by omega)
     replace s10 := kp s10 (by omega)
     replace s11 := kp s11 (by omega)
     replace s12 := kp s12 (by omega)
     replace s13 := kp s13 (by omega)
     replace s14 := kp s14 (by omega)
     replace s15 := kp s15 (by omega)
     clear kp
     replace HM1 := Lib.hid (hasInts_setS HM1.out mc0 (u := .slice am 16 cm))
     rw [← hwy] at HM1
     have md0 : wz26.cell? ⟨wy0.heap.size, 0, none⟩ = some (.slice am 16 cm) := by rw [hwy]; exact World.cell?_setCell_same _ _ _ mc0
     replace mt : Tag wz26 wy0.heap.size 55 := by rw [hwy]; exact (tag_set mt _ _)
     replace mf0 : wz26.frozen? ⟨wy0.heap.size, 0, none⟩ = false := by rw [hwy]; simpa using mf0
     replace HW := Lib.hid (Below.setCell (p := ⟨wy0.heap.size, 0, none⟩) HW.out (by have := HWS.out; dsimp only; omega) (.slice am 16 cm))
     rw [← hwy] at HW
     have hsz : wz26.heap.size = wz24.heap.size := by rw [hwy]; simp
     replace mz : wy0.heap.size < wz26.heap.size := by omega
     replace LO : _ ≤ wz26.heap.size := Nat.le_trans LO (Nat.le_of_eq hsz.symm)
     clear hsz hwy mc0
     have mc0 := md0
     clear md0
     refine hK.out _ _ ?_ (fun _ => ?_)
     · (try dsimp only); exact ⟨s0, s1, s2, s3, s4, s5, s6, s7, s8, s9, s10, s11, s12, s13, s14, s15⟩
     clear hK K
     (try simp only [Act.put, List.setIfInBounds_toArray, List.set_cons_zero, List.set_cons_succ])
     refine wpAnyH_done (by kernel_rfl) ?_ _
     go_wp2_with fail
     go_meet
     exact ⟨wy0.heap.size, am, cm, rfl, mz, ml, mc0, HM1.out, HW.out⟩
  case rest =>
    obtain ⟨g, am, cm, rfl, hgB, hg, hm, hM, hb⟩ := hcut
    have HM := Lib.hid hM
    replace HW := Lib.hid (below_step HWr.out hb)
    replace caq0 := cel_below hb caq0
    replace caq1 := cel_below hb caq1
    replace caq2 := cel_below hb caq2
    replace cbq0 := cel_below hb cbq0
    replace cbq1 := cel_below hb cbq1
    replace cbq2 := cel_below hb cbq2
    replace lq0 := cel_below hb lq0
    replace lq1 := cel_below hb lq1
    replace lq2 := cel_below hb lq2
    replace lq3 := cel_below hb lq3
    replace lq4 := cel_below hb lq4
    replace lq5 := cel_below hb lq5
    replace lq6 := cel_below hb lq6
    replace lq7 := cel_below hb lq7
    replace lq8 := cel_below hb lq8
    replace lq9 := cel_below hb lq9
    replace lq10 := cel_below hb lq10
    replace lq11 := cel_below hb lq11
    replace lq12 := cel_below hb lq12
    replace z0 := lt_below hb z0
    replace z1 := lt_below hb z1
    replace z2 := lt_below hb z2
    clear hb hM hg
    have mmq0 := hm
    clear hm
    have z3 := hgB
    clear hgB
    go_wp2_with fail
    ((with_reducible refine (HA1.out _ _ _ (hasInts_keep HM.out (Below.refl _ _))).mono ?_); rintro e w3 ⟨a1, c1, rfl, hq, hb⟩)
    replace HW := Lib.hid (below_step HW.out (hb))
    have zz : wc.heap.size + 0 ≤ w3.heap.size := by have := hb.size; (try simp at this); omega
    replace caq0 : w3.cell? ⟨w.heap.size, 0, none⟩ = some (.int .i64 1) := cel_below hb (caq0)
    replace caq1 : w3.cell? ⟨w.heap.size, 1, none⟩ = some (.int .i64 3) := cel_below hb (caq1)
    replace caq2 : w3.cell? ⟨w.heap.size, 2, none⟩ = some (.int .i64 0) := cel_below hb (caq2)
    replace cbq0 : w3.cell? ⟨w.heap.size + 1, 0, none⟩ = some (.int .i64 2) := cel_below hb (cbq0)
    replace cbq1 : w3.cell? ⟨w.heap.size + 1, 1, none⟩ = some (.int .i64 3) := cel_below hb (cbq1)
    replace cbq2 : w3.cell? ⟨w.heap.size + 1, 2, none⟩ = some (.int .i64 1) := cel_below hb (cbq2)
    replace lq0 : w3.cell? ⟨w1.heap.size, 0, none⟩ = some (.int .i64 3) := cel_below hb (lq0)
    replace lq1 : w3.cell? ⟨w1.heap.size, 1, none⟩ = some (.int .i64 0) := cel_below hb (lq1)
    replace lq2 : w3.cell? ⟨w1.heap.size, 2, none⟩ = some (.int .i64 0) := cel_below hb (lq2)
    replace lq3 : w3.cell? ⟨w1.heap.size, 3, none⟩ = some (.int .i64 0) := cel_below hb (lq3)
    replace lq4 : w3.cell? ⟨w1.heap.size, 4, none⟩ = some (.int .i64 1) := cel_below hb (lq4)
    replace lq5 : w3.cell? ⟨w1.heap.size, 5, none⟩ = some (.int .i64 0) := cel_below hb (lq5)
    replace lq6 : w3.cell? ⟨w1.heap.size, 6, none⟩ = some (.int .i64 1) := cel_below hb (lq6)
    replace lq7 : w3.cell? ⟨w1.heap.size, 7, none⟩ = some (.int .i64 2) := cel_below hb (lq7)
    replace lq8 : w3.cell? ⟨w1.heap.size, 8, none⟩ = some (.int .i64 3) := cel_below hb (lq8)
    replace lq9 : w3.cell? ⟨w1.heap.size, 9, none⟩ = some (.int .i64 4) := cel_below hb (lq9)
    replace lq10 : w3.cell? ⟨w1.heap.size, 10, none⟩ = some (.int .i64 16) := cel_below hb (lq10)
    replace lq11 : w3.cell? ⟨w1.heap.size, 11, none⟩ = some (.int .i64 16) := cel_below hb (lq11)
    replace lq12 : w3.cell? ⟨w1.heap.size, 12, none⟩ = some (.int .i64 16) := cel_below hb (lq12)
    replace mmq0 : w3.cell? ⟨g, 0, none⟩ = some (.slice am 16 cm) := cel_below hb (mmq0)
    replace z0 : w.heap.size < w3.heap.size := by omega
    replace z1 : w.heap.size + 1 < w3.heap.size := by omega
    replace z2 : w1.heap.size < w3.heap.size := by omega
    replace z3 : g < w3.heap.size := by omega
    clear hb zz
    have HN := Lib.hid hq
    clear hq HM
    go_wp2_with fail
    ((with_reducible refine (HA2.out _ _ _ (hasInts_keep HN.out (below_alloc2 (Below.refl _ _)))).mono ?_); rintro e w4 ⟨a2, c2, rfl, hq, hb⟩)
    replace HW := Lib.hid (below_step HW.out (below_alloc2 hb))
    have zz : w3.heap.size + 2 ≤ w4.heap.size := by have := hb.size; (try simp at this); omega
    replace caq0 : w4.cell? ⟨w.heap.size, 0, none⟩ = some (.int .i64 1) := cel_below hb (cell_alloc _ (cell_alloc _ (caq0)))
    replace caq1 : w4.cell? ⟨w.heap.size, 1, none⟩ = some (.int .i64 3) := cel_below hb (cell_alloc _ (cell_alloc _ (caq1)))
    replace caq2 : w4.cell? ⟨w.heap.size, 2, none⟩ = some (.int .i64 0) := cel_below hb (cell_alloc _ (cell_alloc _ (caq2)))
    replace cbq0 : w4.cell? ⟨w.heap.size + 1, 0, none⟩ = some (.int .i64 2) := cel_below hb (cell_alloc _ (cell_alloc _ (cbq0)))
    replace cbq1 : w4.cell? ⟨w.heap.size + 1, 1, none⟩ = some (.int .i64 3) := cel_below hb (cell_alloc _ (cell_alloc _ (cbq1)))
    replace cbq2 : w4.cell? ⟨w.heap.size + 1, 2, none⟩ = some (.int .i64 1) := cel_below hb (cell_alloc _ (cell_alloc _ (cbq2)))
    replace lq0 : w4.cell? ⟨w1.heap.size, 0, none⟩ = some (.int .i64 3) := cel_below hb (cell_alloc _ (cell_alloc _ (lq0)))
    replace lq1 : w4.cell? ⟨w1.heap.size, 1, none⟩ = some (.int .i64 0) := cel_below hb (cell_alloc _ (cell_alloc _ (lq1)))
    replace lq2 : w4.cell? ⟨w1.heap.size, 2, none⟩ = some (.int .i64 0) := cel_below hb (cell_alloc _ (cell_alloc _ (lq2)))
    replace lq3 : w4.cell? ⟨w1.heap.size, 3, none⟩ = some (.int .i64 0) := cel_below hb (cell_alloc _ (cell_alloc _ (lq3)))
    replace lq4 : w4.cell? ⟨w1.heap.size, 4, none⟩ = some (.int .i64 1) := cel_below hb (cell_alloc _ (cell_alloc _ (lq4)))
    replace lq5 : w4.cell? ⟨w1.heap.size, 5, none⟩ = some (.int .i64 0) := cel_below hb (cell_alloc _ (cell_alloc _ (lq5)))
    replace lq6 : w4.cell? ⟨w1.heap.size, 6, none⟩ = some (.int .i64 1) := cel_below hb (cell_alloc _ (cell_alloc _ (lq6)))
    replace lq7 : w4.cell? ⟨w1.heap.size, 7, none⟩ = some (.int .i64 2) := cel_below hb (cell_alloc _ (cell_alloc _ (lq7)))
    replace lq8 : w4.cell? ⟨w1.heap.size, 8, none⟩ = some (.int .i64 3) := cel_below hb (cell_alloc _ (cell_alloc _ (lq8)))
    replace lq9 : w4.cell? ⟨w1.heap.size, 9, none⟩ = some (.int .i64 4) := cel_below hb (cell_alloc _ (cell_alloc _ (lq9)))
    replace lq10 : w4.cell? ⟨w1.heap.size, 10, none⟩ = some (.int .i64 16) := cel_below hb (cell_alloc _ (cell_alloc _ (lq10)))
    replace lq11 : w4.cell? ⟨w1.heap.size, 11, none⟩ = some (.int .i64 16) := cel_below hb (cell_alloc _ (cell_alloc _ (lq11)))
    replace lq12 : w4.cell? ⟨w1.heap.size, 12, none⟩ = some (.int .i64 16) := cel_below hb (cell_alloc _ (cell_alloc _ (lq12)))
    replace mmq0 : w4.cell? ⟨g, 0, none⟩ = some (.slice am 16 cm) := cel_below hb (cell_alloc _ (cell_alloc _ (mmq0)))
    replace z0 : w.heap.size < w4.heap.size := by omega
    replace z1 : w.heap.size + 1 < w4.heap.size := by omega
    replace z2 : w1.heap.size < w4.heap.size := by omega
    replace z3 : g < w4.heap.size := by omega
    have uq0 : w4.cell? ⟨w3.heap.size, 0, none⟩ = some (.int .i64 2) := cel_below hb (cell_alloc _ (by rw [World.cell?_alloc_at _ _ _ _ (by simp)]; rfl))
    have uq1 : w4.cell? ⟨w3.heap.size, 1, none⟩ = some (.int .i64 0) := cel_below hb (cell_alloc _ (by rw [World.cell?_alloc_at _ _ _ _ (by simp)]; rfl))
    have uq2 : w4.cell? ⟨w3.heap.size, 2, none⟩ = some (.int .i64 0) := cel_below hb (cell_alloc _ (by rw [World.cell?_alloc_at _ _ _ _ (by simp)]; rfl))
    have uq3 : w4.cell? ⟨w3.heap.size, 3, none⟩ = some (.int .i64 0) := cel_below hb (cell_alloc _ (by rw [World.cell?_alloc_at _ _ _ _ (by simp)]; rfl))
    have uq4 : w4.cell? ⟨w3.heap.size, 4, none⟩ = some (.bool false) := cel_below hb (cell_alloc _ (by rw [World.cell?_alloc_at _ _ _ _ (by simp)]; rfl))
    have uq5 : w4.cell? ⟨w3.heap.size, 5, none⟩ = some (.bool false) := cel_below hb (cell_alloc _ (by rw [World.cell?_alloc_at _ _ _ _ (by simp)]; rfl))
    have uq6 : w4.cell? ⟨w3.heap.size, 6, none⟩ = some (.int .i64 0) := cel_below hb (cell_alloc _ (by rw [World.cell?_alloc_at _ _ _ _ (by simp)]; rfl))
    have z4 : w3.heap.size < w4.heap.size := by omega
    have nq0 : w4.cell? ⟨w3.heap.size + 1, 0, none⟩ = some (.slice a1 16 c1) := cel_below hb (by rw [World.cell?_alloc_at _ _ _ _ (by simp)]; rfl)
    have z5 : w3.heap.size + 1 < w4.heap.size := by omega
    have HN2 := Lib.hid (hasInts_keep HN.out (below_alloc2 hb))
    clear hb zz
    clear hq HN
    go_wp2_with fail
    ((with_reducible refine (HA3.out _ _ _ (hasInts_keep HN2.out (below_alloc2 (Below.refl _ _)))).mono ?_); rintro e w5 ⟨a3, c3, rfl, hq, hb⟩)
    replace HW := Lib.hid (below_step HW.out (below_alloc2 hb))
    have zz : w4.heap.size + 2 ≤ w5.heap.size := by have := hb.size; (try simp at this); omega
    replace caq0 : w5.cell? ⟨w.heap.size, 0, none⟩ = some (.int .i64 1) := cel_below hb (cell_alloc _ (cell_alloc _ (caq0)))
    replace caq1 : w5.cell? ⟨w.heap.size, 1, none⟩ = some (.int .i64 3) := cel_below hb (cell_alloc _ (cell_alloc _ (caq1)))
    replace caq2 : w5.cell? ⟨w.heap.size, 2, none⟩ = some (.int .i64 0) := cel_below hb (cell_alloc _ (cell_alloc _ (caq2)))
    replace cbq0 : w5.cell? ⟨w.heap.size + 1, 0, none⟩ = some (.int .i64 2) := cel_below hb (cell_alloc _ (cell_alloc _ (cbq0)))
    replace cbq1 : w5.cell? ⟨w.heap.size + 1, 1, none⟩ = some (.int .i64 3) := cel_below hb (cell_alloc _ (cell_alloc _ (cbq1)))
    replace cbq2 : w5.cell? ⟨w.heap.size + 1, 2, none⟩ = some (.int .i64 1) := cel_below hb (cell_alloc _ (cell_alloc _ (cbq2)))
    replace lq0 : w5.cell? ⟨w1.heap.size, 0, none⟩ = some (.int .i64 3) := cel_below hb (cell_alloc _ (cell_alloc _ (lq0)))
    replace lq1 : w5.cell? ⟨w1.heap.size, 1, none⟩ = some (.int .i64 0) := cel_below hb (cell_alloc _ (cell_alloc _ (lq1)))
    replace lq2 : w5.cell? ⟨w1.heap.size, 2, none⟩ = some (.int .i64 0) := cel_below hb (cell_alloc _ (cell_alloc _ (lq2)))
    replace lq3 : w5.cell? ⟨w1.heap.size, 3, none⟩ = some (.int .i64 0) := cel_below hb (cell_alloc _ (cell_alloc _ (lq3)))
    replace lq4 : w5.cell? ⟨w1.heap.size, 4, none⟩ = some (.int .i64 1) := cel_below hb (cell_alloc _ (cell_alloc _ (lq4)))
    replace lq5 : w5.cell? ⟨w1.heap.size, 5, none⟩ = some (.int .i64 0) := cel_below hb (cell_alloc _ (cell_alloc _ (lq5)))
    replace lq6 : w5.cell? ⟨w1.heap.size, 6, none⟩ = some (.int .i64 1) := cel_below hb (cell_alloc _ (cell_alloc _ (lq6)))
    replace lq7 : w5.cell? ⟨w1.heap.size, 7, none⟩ = some (.int .i64 2) := cel_below hb (cell_alloc _ (cell_alloc _ (lq7)))
    replace lq8 : w5.cell? ⟨w1.heap.size, 8, none⟩ = some (.int .i64 3) := cel_below hb (cell_alloc _ (cell_alloc _ (lq8)))
    replace lq9 : w5.cell? ⟨w1.heap.size, 9, none⟩ = some (.int .i64 4) := cel_below hb (cell_alloc _ (cell_alloc _ (lq9)))
    replace lq10 : w5.cell? ⟨w1.heap.size, 10, none⟩ = some (.int .i64 16) := cel_below hb (cell_alloc _ (cell_alloc _ (lq10)))
    replace lq11 : w5.cell? ⟨w1.heap.size, 11, none⟩ = some (.int .i64 16) := cel_below hb (cell_alloc _ (cell_alloc _ (lq11)))
    replace lq12 : w5.cell? ⟨w1.heap.size, 12, none⟩ = some (.int .i64 16) := cel_below hb (cell_alloc _ (cell_alloc _ (lq12)))
    replace mmq0 : w5.cell? ⟨g, 0, none⟩ = some (.slice am 16 cm) := cel_below hb (cell_alloc _ (cell_alloc _ (mmq0)))
    replace uq0 : w5.cell? ⟨w3.heap.size, 0, none⟩ = some (.int .i64 2) := cel_below hb (cell_alloc _ (cell_alloc _ (uq0)))
    replace uq1 : w5.cell? ⟨w3.heap.size, 1, none⟩ = some (.int .i64 0) := cel_below hb (cell_alloc _ (cell_alloc _ (uq1)))
    replace uq2 : w5.cell? ⟨w3.heap.size, 2, none⟩ = some (.int .i64 0) := cel_below hb (cell_alloc _ (cell_alloc _ (uq2)))
    replace uq3 : w5.cell? ⟨w3.heap.size, 3, none⟩ = some (.int .i64 0) := cel_below hb (cell_alloc _ (cell_alloc _ (uq3)))
    replace uq4 : w5.cell? ⟨w3.heap.size, 4, none⟩ = some (.bool false) := cel_below hb (cell_alloc _ (cell_alloc _ (uq4)))
    replace uq5 : w5.cell? ⟨w3.heap.size, 5, none⟩ = some (.bool false) := cel_below hb (cell_alloc _ (cell_alloc _ (uq5)))
    replace uq6 : w5.cell? ⟨w3.heap.size, 6, none⟩ = some (.int .i64 0) := cel_below hb (cell_alloc _ (cell_alloc _ (uq6)))
    replace nq0 : w5.cell? ⟨w3.heap.size + 1, 0, none⟩ = some (.slice a1 16 c1) := cel_below hb (cell_alloc _ (cell_alloc _ (nq0)))
    replace z0 : w.heap.size < w5.heap.size := by omega
    replace z1 : w.heap.size + 1 < w5.heap.size := by omega
    replace z2 : w1.heap.size < w5.heap.size := by omega
    replace z3 : g < w5.heap.size := by omega
    replace z4 : w3.heap.size < w5.heap.size := by omega
    replace z5 : w3.heap.size + 1 < w5.heap.size := by omega
    replace HN2 := Lib.hid (hasInts_keep HN2.out (below_step (Below.alloc (Below.alloc (Below.refl _ w4) (by first | exact Nat.le_refl _ | (simp; omega) | simp) _) (by first | exact Nat.le_refl _ | (simp; omega) | simp) _) hb))
    have vq0 : w5.cell? ⟨w4.heap.size, 0, none⟩ = some (.int .i64 2) := cel_below hb (cell_alloc _ (by rw [World.cell?_alloc_at _ _ _ _ (by simp)]; rfl))
    have vq1 : w5.cell? ⟨w4.heap.size, 1, none⟩ = some (.int .i64 0) := cel_below hb (cell_alloc _ (by rw [World.cell?_alloc_at _ _ _ _ (by simp)]; rfl))
    have vq2 : w5.cell? ⟨w4.heap.size, 2, none⟩ = some (.int .i64 0) := cel_below hb (cell_alloc _ (by rw [World.cell?_alloc_at _ _ _ _ (by simp)]; rfl))
    have vq3 : w5.cell? ⟨w4.heap.size, 3, none⟩ = some (.int .i64 0) := cel_below hb (cell_alloc _ (by rw [World.cell?_alloc_at _ _ _ _ (by simp)]; rfl))
    have vq4 : w5.cell? ⟨w4.heap.size, 4, none⟩ = some (.bool false) := cel_below hb (cell_alloc _ (by rw [World.cell?_alloc_at _ _ _ _ (by simp)]; rfl))
    have vq5 : w5.cell? ⟨w4.heap.size, 5, none⟩ = some (.bool false) := cel_below hb (cell_alloc _ (by rw [World.cell?_alloc_at _ _ _ _ (by simp)]; rfl))
    have vq6 : w5.cell? ⟨w4.heap.size, 6, none⟩ = some (.int .i64 0) := cel_below hb (cell_alloc _ (by rw [World.cell?_alloc_at _ _ _ _ (by simp)]; rfl))
    have z6 : w4.heap.size < w5.heap.size := by omega
    clear hb zz
    clear hq
    go_upto_region 8 with fail
    obtain ⟨wr6, hwr⟩ : ∃ W, W = (w5.alloc (.cells #[.int .i64 1, .int .i64 0, .int .i64 0, .int .i64 0, .bool false, .bool true, .int .i64 0] 35)).alloc (.cells #[.slice a3 16 c3] 55) := ⟨_, rfl⟩
    rw [← hwr]
    have hb : Below w5.heap.size w5 wr6 := by rw [hwr]; exact (Below.alloc (Below.alloc (Below.refl _ w5) (by first | exact Nat.le_refl _ | (simp; omega) | simp) _) (by first | exact Nat.le_refl _ | (simp; omega) | simp) _)
    have zz : w5.heap.size + 2 ≤ wr6.heap.size := by rw [hwr]; simp
    replace HW := Lib.hid (below_step HW.out hb)
    replace caq0 : wr6.cell? ⟨w.heap.size, 0, none⟩ = some (.int .i64 1) := cel_below hb caq0
    replace caq1 : wr6.cell? ⟨w.heap.size, 1, none⟩ = some (.int .i64 3) := cel_below hb caq1
    replace caq2 : wr6.cell? ⟨w.heap.size, 2, none⟩ = some (.int .i64 0) := cel_below hb caq2
    replace cbq0 : wr6.cell? ⟨w.heap.size + 1, 0, none⟩ = some (.int .i64 2) := cel_below hb cbq0
    replace cbq1 : wr6.cell? ⟨w.heap.size + 1, 1, none⟩ = some (.int .i64 3) := cel_below hb cbq1
    replace cbq2 : wr6.cell? ⟨w.heap.size + 1, 2, none⟩ = some (.int .i64 1) := cel_below hb cbq2
    replace lq0 : wr6.cell? ⟨w1.heap.size, 0, none⟩ = some (.int .i64 3) := cel_below hb lq0
    replace lq1 : wr6.cell? ⟨w1.heap.size, 1, none⟩ = some (.int .i64 0) := cel_below hb lq1
    replace lq2 : wr6.cell? ⟨w1.heap.size, 2, none⟩ = some (.int .i64 0) := cel_below hb lq2
    replace lq3 : wr6.cell? ⟨w1.heap.size, 3, none⟩ = some (.int .i64 0) := cel_below hb lq3
    replace lq4 : wr6.cell? ⟨w1.heap.size, 4, none⟩ = some (.int .i64 1) := cel_below hb lq4
    replace lq5 : wr6.cell? ⟨w1.heap.size, 5, none⟩ = some (.int .i64 0) := cel_below hb lq5
    replace lq6 : wr6.cell? ⟨w1.heap.size, 6, none⟩ = some (.int .i64 1) := cel_below hb lq6
    replace lq7 : wr6.cell? ⟨w1.heap.size, 7, none⟩ = some (.int .i64 2) := cel_below hb lq7
    replace lq8 : wr6.cell? ⟨w1.heap.size, 8, none⟩ = some (.int .i64 3) := cel_below hb lq8
    replace lq9 : wr6.cell? ⟨w1.heap.size, 9, none⟩ = some (.int .i64 4) := cel_below hb lq9
    replace lq10 : wr6.cell? ⟨w1.heap.size, 10, none⟩ = some (.int .i64 16) := cel_below hb lq10
    replace lq11 : wr6.cell? ⟨w1.heap.size, 11, none⟩ = some (.int .i64 16) := cel_below hb lq11
    replace lq12 : wr6.cell? ⟨w1.heap.size, 12, none⟩ = some (.int .i64 16) := cel_below hb lq12
    replace mmq0 : wr6.cell? ⟨g, 0, none⟩ = some (.slice am 16 cm) := cel_below hb mmq0
    replace uq0 : wr6.cell? ⟨w3.heap.size, 0, none⟩ = some (.int .i64 2) := cel_below hb uq0
    replace uq1 : wr6.cell? ⟨w3.heap.size, 1, none⟩ = some (.int .i64 0) := cel_below hb uq1
    replace uq2 : wr6.cell? ⟨w3.heap.size, 2, none⟩ = some (.int .i64 0) := cel_below hb uq2
    replace uq3 : wr6.cell? ⟨w3.heap.size, 3, none⟩ = some (.int .i64 0) := cel_below hb uq3
    replace uq4 : wr6.cell? ⟨w3.heap.size, 4, none⟩ = some (.bool false) := cel_below hb uq4
    replace uq5 : wr6.cell? ⟨w3.heap.size, 5, none⟩ = some (.bool false) := cel_below hb uq5
    replace uq6 : wr6.cell? ⟨w3.heap.size, 6, none⟩ = some (.int .i64 0) := cel_below hb uq6
    replace nq0 : wr6.cell? ⟨w3.heap.size + 1, 0, none⟩ = some (.slice a1 16 c1) := cel_below hb nq0
    replace vq0 : wr6.cell? ⟨w4.heap.size, 0, none⟩ = some (.int .i64 2) := cel_below hb vq0
    replace vq1 : wr6.cell? ⟨w4.heap.size, 1, none⟩ = some (.int .i64 0) := cel_below hb vq1
    replace vq2 : wr6.cell? ⟨w4.heap.size, 2, none⟩ = some (.int .i64 0) := cel_below hb vq2
    replace vq3 : wr6.cell? ⟨w4.heap.size, 3, none⟩ = some (.int .i64 0) := cel_below hb vq3
    replace vq4 : wr6.cell? ⟨w4.heap.size, 4, none⟩ = some (.bool false) := cel_below hb vq4
    replace vq5 : wr6.cell? ⟨w4.heap.size, 5, none⟩ = some (.bool false) := cel_below hb vq5
    replace vq6 : wr6.cell? ⟨w4.heap.size, 6, none⟩ = some (.int .i64 0) := cel_below hb vq6
    replace z0 : w.heap.size < wr6.heap.size := by omega
    replace z1 : w.heap.size + 1 < wr6.heap.size := by omega
    replace z2 : w1.heap.size < wr6.heap.size := by omega
    replace z3 : g < wr6.heap.size := by omega
    replace z4 : w3.heap.size < wr6.heap.size := by omega
    replace z5 : w3.heap.size + 1 < wr6.heap.size := by omega
    replace z6 : w4.heap.size < wr6.heap.size := by omega
    replace HN2 := Lib.hid (hasInts_keep HN2.out hb)
    have xq0 : wr6.cell? ⟨w5.heap.size, 0, none⟩ = some (.int .i64 1) := by rw [hwr]; exact cell_alloc _ (by rw [World.cell?_alloc_at _ _ _ _ (by simp)]; rfl)
    have xq1 : wr6.cell? ⟨w5.heap.size, 1, none⟩ = some (.int .i64 0) := by rw [hwr]; exact cell_alloc _ (by rw [World.cell?_alloc_at _ _ _ _ (by simp)]; rfl)
    have xq2 : wr6.cell? ⟨w5.heap.size, 2, none⟩ = some (.int .i64 0) := by rw [hwr]; exact cell_alloc _ (by rw [World.cell?_alloc_at _ _ _ _ (by simp)]; rfl)
    have xq3 : wr6.cell? ⟨w5.heap.size, 3, none⟩ = some (.int .i64 0) := by rw [hwr]; exact cell_alloc _ (by rw [World.cell?_alloc_at _ _ _ _ (by simp)]; rfl)
    have xq4 : wr6.cell? ⟨w5.heap.size, 4, none⟩ = some (.bool false) := by rw [hwr]; exact cell_alloc _ (by rw [World.cell?_alloc_at _ _ _ _ (by simp)]; rfl)
    have xq5 : wr6.cell? ⟨w5.heap.size, 5, none⟩ = some (.bool true) := by rw [hwr]; exact cell_alloc _ (by rw [World.cell?_alloc_at _ _ _ _ (by simp)]; rfl)
    have xq6 : wr6.cell? ⟨w5.heap.size, 6, none⟩ = some (.int .i64 0) := by rw [hwr]; exact cell_alloc _ (by rw [World.cell?_alloc_at _ _ _ _ (by simp)]; rfl)
    have z7 : w5.heap.size < wr6.heap.size := by omega
    clear hb zz hwr
    refine wp_region_held_drew (S := fun W => W.cell? ⟨w.heap.size, 0, none⟩ = some (.int .i64 1) ∧ W.cell? ⟨w.heap.size, 1, none⟩ = some (.int .i64 3) ∧ W.cell? ⟨w.heap.size, 2, none⟩ = some (.int .i64 0) ∧ W.cell? ⟨w.heap.size + 1, 0, none⟩ = some (.int .i64 2) ∧ W.cell? ⟨w.heap.size + 1, 1, none⟩ = some (.int .i64 3) ∧ W.cell? ⟨w.heap.size + 1, 2, none⟩ = some (.int .i64 1) ∧ W.cell? ⟨w1.heap.size, 0, none⟩ = some (.int .i64 3) ∧ W.cell? ⟨w1.heap.size, 1, none⟩ = some (.int .i64 0) ∧ W.cell? ⟨w1.heap.size, 2, none⟩ = some (.int .i64 0) ∧ W.cell? ⟨w1.heap.size, 3, none⟩ = some (.int .i64 0) ∧ W.cell? ⟨w1.heap.size, 4, none⟩ = some (.int .i64 1) ∧ W.cell? ⟨w1.heap.size, 5, none⟩ = some (.int .i64 0) ∧ W.cell? ⟨w1.heap.size, 6, none⟩ = some (.int .i64 1) ∧ W.cell? ⟨w1.heap.size, 7, none⟩ = some (.int .i64 2) ∧ W.cell? ⟨w1.heap.size, 8, none⟩ = some (.int .i64 3) ∧ W.cell? ⟨w1.heap.size, 9, none⟩ = some (.int .i64 4) ∧ W.cell? ⟨w1.heap.size, 10, none⟩ = some (.int .i64 16) ∧ W.cell? ⟨w1.heap.size, 11, none⟩ = some (.int .i64 16) ∧ W.cell? ⟨w1.heap.size, 12, none⟩ = some (.int .i64 16) ∧ W.cell? ⟨w3.heap.size, 0, none⟩ = some (.int .i64 2) ∧ W.cell? ⟨w3.heap.size, 1, none⟩ = some (.int .i64 0) ∧ W.cell? ⟨w3.heap.size, 2, none⟩ = some (.int .i64 0) ∧ W.cell? ⟨w3.heap.size, 3, none⟩ = some (.int .i64 0) ∧ W.cell? ⟨w3.heap.size, 4, none⟩ = some (.bool false) ∧ W.cell? ⟨w3.heap.size, 5, none⟩ = some (.bool false) ∧ W.cell? ⟨w3.heap.size, 6, none⟩ = some (.int .i64 0) ∧ W.cell? ⟨w3.heap.size + 1, 0, none⟩ = some (.slice a1 16 c1) ∧ W.cell? ⟨w4.heap.size, 0, none⟩ = some (.int .i64 2) ∧ W.cell? ⟨w4.heap.size, 1, none⟩ = some (.int .i64 0) ∧ W.cell? ⟨w4.heap.size, 2, none⟩ = some (.int .i64 0) ∧ W.cell? ⟨w4.heap.size, 3, none⟩ = some (.int .i64 0) ∧ W.cell? ⟨w4.heap.size, 4, none⟩ = some (.bool false) ∧ W.cell? ⟨w4.heap.size, 5, none⟩ = some (.bool false) ∧ W.cell? ⟨w4.heap.size, 6, none⟩ = some (.int .i64 0) ∧ W.cell? ⟨w5.heap.size, 0, none⟩ = some (.int .i64 1) ∧ W.cell? ⟨w5.heap.size, 1, none⟩ = some (.int .i64 0) ∧ W.cell? ⟨w5.heap.size, 2, none⟩ = some (.int .i64 0) ∧ W.cell? ⟨w5.heap.size, 3, none⟩ = some (.int .i64 0) ∧ W.cell? ⟨w5.heap.size, 4, none⟩ = some (.bool false) ∧ W.cell? ⟨w5.heap.size, 5, none⟩ = some (.bool true) ∧ W.cell? ⟨w5.heap.size, 6, none⟩ = some (.int .i64 0) ∧ HasInts W (.slice a1 16 c1) zB) (by kernel_rfl) ?_ (fun hHeld => ?_)
    · (try dsimp only); exact ⟨by first | assumption | go_simp, by first | assumption | go_simp, by first | assumption | go_simp, by first | assumption | go_simp, by first | assumption | go_simp, by first | assumption | go_simp, by first | assumption | go_simp, by first | assumption | go_simp, by first | assumption | go_simp, by first | assumption | go_simp, by first | assumption | go_simp, by first | assumption | go_simp, by first | assumption | go_simp, by first | assumption | go_simp, by first | assumption | go_simp, by first | assumption | go_simp, by first | assumption | go_simp, by first | assumption | go_simp, by first | assumption | go_simp, by first | assumption | go_simp, by first | assumption | go_simp, by first | assumption | go_simp, by first | assumption | go_simp, by first | assumption | go_simp, by first | assumption | go_simp, by first | assumption | go_simp, by first | assumption | go_simp, by first | assumption | go_simp, by first | assumption | go_simp, by first | assumption | go_simp, by first | assumption | go_simp, by first | assumption | go_simp, by first | assumption | go_simp, by first | assumption | go_simp, by first | assumption | go_simp, by first | assumption | go_simp, by first | assumption | go_simp, by first | assumption | go_simp, by first | assumption | go_simp, by first | assumption | go_simp, by first | assumption | go_simp, HN2.out⟩
    replace HW := Lib.hid (below_drews HW.out 1)
    refine wpAnyH_take (i := 0) (oi := ?oi27) (v := ?v27) ?hi27 (by kernel_rfl) (by kernel_rfl) (by kernel_rfl) ?hQ27 (Or.inl ⟨?hw27, ?hy27⟩) (by assumption) ?rest27; (case hi27 => (simp only [List.getElem?_toArray, List.getElem?_cons_zero]; rfl)); (case hQ27 => exact fun _ _ _ h => h); (case hw27 => rfl); (case hy27 => ((intro w hSw); (try dsimp only at hSw); go_simp; (try with_reducible rfl)))
    (try simp only [Act.put, List.setIfInBounds_toArray, List.set_cons_zero, List.set_cons_succ])
    refine wpAnyH_take (i := 1) (oi := ?oi29) (v := ?v29) ?hi29 (by kernel_rfl) (by kernel_rfl) (by kernel_rfl) ?hQ29 (Or.inl ⟨?hw29, ?hy29⟩) (by assumption) ?rest29; (case hi29 => (simp only [List.getElem?_toArray, List.getElem?_cons_succ, List.getElem?_cons_zero]; rfl)); (case hQ29 => exact fun _ _ _ h => h); (case hw29 => rfl); (case hy29 => ((intro w hSw); (try dsimp only at hSw); go_simp; (try with_reducible rfl)))
    (try simp only [Act.put, List.setIfInBounds_toArray, List.set_cons_zero, List.set_cons_succ])
    refine wpAnyH_ready (rs := [2]) (by kernel_rfl) (by simp) ?_
    refine AllReadyH.cons (o := ?oi31) ?hi31 (fun K hK => ?rest31) AllReadyH.nil
    (case hi31 => (simp only [List.getElem?_toArray, List.getElem?_cons_succ, List.getElem?_cons_zero]; rfl))
    obtain ⟨s0, s1, s2, s3, s4, s5, s6, s7, s8, s9, s10, s11, s12, s13, s14, s15, s16, s17, s18, s19, s20, s21, s22, s23, s24, s25, s26, s27, s28, s29, s30, s31, s32, s33, s34, s35, s36, s37, s38, s39, s40, t0⟩ := hHeld
    go_simp
    ((with_reducible refine (HC1.out _).mono ?_); rintro e wx1 ⟨rfl, hb⟩)
    replace HW := Lib.hid (below_step HW.out hb)
    refine hK.out _ _ ?_ (fun hHeld => ?_)
    · (try dsimp only); exact ⟨cel_below hb s0, cel_below hb s1, cel_below hb s2, cel_below hb s3, cel_below hb s4, cel_below hb s5, cel_below hb s6, cel_below hb s7, cel_below hb s8, cel_below hb s9, cel_below hb s10, cel_below hb s11, cel_below hb s12, cel_below hb s13, cel_below hb s14, cel_below hb s15, cel_below hb s16, cel_below hb s17, cel_below hb s18, cel_below hb s19, cel_below hb s20, cel_below hb s21, cel_below hb s22, cel_below hb s23, cel_below hb s24, cel_below hb s25, cel_below hb s26, cel_below hb s27, cel_below hb s28, cel_below hb s29, cel_below hb s30, cel_below hb s31, cel_below hb s32, cel_below hb s33, cel_below hb s34, cel_below hb s35, cel_below hb s36, cel_below hb s37, cel_below hb s38, cel_below hb s39, cel_below hb s40, hasInts_keep t0 hb⟩
    clear hK K s0 s1 s2 s3 s4 s5 s6 s7 s8 s9 s10 s11 s12 s13 s14 s15 s16 s17 s18 s19 s20 s21 s22 s23 s24 s25 s26 s27 s28 s29 s30 s31 s32 s33 s34 s35 s36 s37 s38 s39 s40 t0 hb
    (try simp only [Act.put, List.setIfInBounds_toArray, List.set_cons_zero, List.set_cons_succ])
    refine wpAnyH_take (i := 3) (oi := ?oi32) (v := ?v32) ?hi32 (by kernel_rfl) (by kernel_rfl) (by kernel_rfl) ?hQ32 (Or.inl ⟨?hw32, ?hy32⟩) (by assumption) ?rest32; (case hi32 => (simp only [List.getElem?_toArray, List.getElem?_cons_succ, List.getElem?_cons_zero]; rfl)); (case hQ32 => exact fun _ _ _ h => h); (case hw32 => rfl); (case hy32 => ((intro w hSw); (try dsimp only at hSw); go_simp; (try with_reducible rfl)))
    (try simp only [Act.put, List.setIfInBounds_toArray, List.set_cons_zero, List.set_cons_succ])
    refine wpAnyH_take (i := 4) (oi := ?oi34) (v := ?v34) ?hi34 (by kernel_rfl) (by kernel_rfl) (by kernel_rfl) ?hQ34 (Or.inl ⟨?hw34, ?hy34⟩) (by assumption) ?rest34; (case hi34 => (simp only [List.getElem?_toArray, List.getElem?_cons_succ, List.getElem?_cons_zero]; rfl)); (case hQ34 => exact fun _ _ _ h => h); (case hw34 => rfl); (case hy34 => ((intro w hSw); (try dsimp only at hSw); go_simp; (try with_reducible rfl)))
    (try simp only [Act.put, List.setIfInBounds_toArray, List.set_cons_zero, List.set_cons_succ])
    first | (refine wpAnyH_take (i := 5) (oi := ?oi36) (v := ?v36) ?hi36 (by kernel_rfl) (by kernel_rfl) (by kernel_rfl) ?hQ36 (Or.inl ⟨?hw36, ?hy36⟩) (by assumption) ?rest36; (case hi36 => (simp only [List.getElem?_toArray, List.getElem?_cons_succ, List.getElem?_cons_zero]; rfl)); (case hQ36 => exact fun _ _ _ h => h); (case hw36 => rfl); (case hy36 => ((intro w hSw); (try dsimp only at hSw); go_simp; (try with_reducible rfl)))) | (refine wpAnyH_take (i := 5) (oi := ?oi37) (v := undef) ?hi37 (by kernel_rfl) (by kernel_rfl) (by kernel_rfl) ?hQ37 (Or.inr ⟨?hw37, rfl⟩) (by assumption) ?rest37; (case hi37 => (simp only [List.getElem?_toArray, List.getElem?_cons_succ, List.getElem?_cons_zero]; rfl)); (case hQ37 => exact fun _ _ _ h => h); (case hw37 => rfl))
    (try simp only [Act.put, List.setIfInBounds_toArray, List.set_cons_zero, List.set_cons_succ])
    first | (refine wpAnyH_take (i := 6) (oi := ?oi38) (v := ?v38) ?hi38 (by kernel_rfl) (by kernel_rfl) (by kernel_rfl) ?hQ38 (Or.inl ⟨?hw38, ?hy38⟩) (by assumption) ?rest38; (case hi38 => (simp only [List.getElem?_toArray, List.getElem?_cons_succ, List.getElem?_cons_zero]; rfl)); (case hQ38 => exact fun _ _ _ h => h); (case hw38 => rfl); (case hy38 => ((intro w hSw); (try dsimp only at hSw); go_simp; (try with_reducible rfl)))) | (refine wpAnyH_take (i := 6) (oi := ?oi39) (v := undef) ?hi39 (by kernel_rfl) (by kernel_rfl) (by kernel_rfl) ?hQ39 (Or.inr ⟨?hw39, rfl⟩) (by assumption) ?rest39; (case hi39 => (simp only [List.getElem?_toArray, List.getElem?_cons_succ, List.getElem?_cons_zero]; rfl)); (case hQ39 => exact fun _ _ _ h => h); (case hw39 => rfl))
    (try simp only [Act.put, List.setIfInBounds_toArray, List.set_cons_zero, List.set_cons_succ])
    refine wpAnyH_ready (rs := [7]) (by kernel_rfl) (by simp) ?_
    refine AllReadyH.cons (o := ?oi40) ?hi40 (fun K hK => ?rest40) AllReadyH.nil
    (case hi40 => (simp only [List.getElem?_toArray, List.getElem?_cons_succ, List.getElem?_cons_zero]; rfl))
    obtain ⟨s0, s1, s2, s3, s4, s5, s6, s7, s8, s9, s10, s11, s12, s13, s14, s15, s16, s17, s18, s19, s20, s21, s22, s23, s24, s25, s26, s27, s28, s29, s30, s31, s32, s33, s34, s35, s36, s37, s38, s39, s40, t0⟩ := hHeld
    go_simp
    ((with_reducible refine (HC2.out _).mono ?_); rintro e wx2 ⟨rfl, hb⟩)
    replace HW := Lib.hid (below_step HW.out hb)
    refine hK.out _ _ ?_ (fun hHeld => ?_)
    · (try dsimp only); exact ⟨cel_below hb s0, cel_below hb s1, cel_below hb s2, cel_below hb s3, cel_below hb s4, cel_below hb s5, cel_below hb s6, cel_below hb s7, cel_below hb s8, cel_below hb s9, cel_below hb s10, cel_below hb s11, cel_below hb s12, cel_below hb s13, cel_below hb s14, cel_below hb s15, cel_below hb s16, cel_below hb s17, cel_below hb s18, cel_below hb s19, cel_below hb s20, cel_below hb s21, cel_below hb s22, cel_below hb s23, cel_below hb s24, cel_below hb s25, cel_below hb s26, cel_below hb s27, cel_below hb s28, cel_below hb s29, cel_below hb s30, cel_below hb s31, cel_below hb s32, cel_below hb s33, cel_below hb s34, cel_below hb s35, cel_below hb s36, cel_below hb s37, cel_below hb s38, cel_below hb s39, cel_below hb s40, hasInts_keep t0 hb⟩
    clear hK K s0 s1 s2 s3 s4 s5 s6 s7 s8 s9 s10 s11 s12 s13 s14 s15 s16 s17 s18 s19 s20 s21 s22 s23 s24 s25 s26 s27 s28 s29 s30 s31 s32 s33 s34 s35 s36 s37 s38 s39 s40 t0 hb
    (try simp only [Act.put, List.setIfInBounds_toArray, List.set_cons_zero, List.set_cons_succ])
    first | (refine wpAnyH_take (i := 8) (oi := ?oi41) (v := ?v41) ?hi41 (by kernel_rfl) (by kernel_rfl) (by kernel_rfl) ?hQ41 (Or.inl ⟨?hw41, ?hy41⟩) (by assumption) ?rest41; (case hi41 => (simp only [List.getElem?_toArray, List.getElem?_cons_succ, List.getElem?_cons_zero]; rfl)); (case hQ41 => exact fun _ _ _ h => h); (case hw41 => rfl); (case hy41 => ((intro w hSw); (try dsimp only at hSw); go_simp; (try with_reducible rfl)))) | (refine wpAnyH_take (i := 8) (oi := ?oi42) (v := undef) ?hi42 (by kernel_rfl) (by kernel_rfl) (by kernel_rfl) ?hQ42 (Or.inr ⟨?hw42, rfl⟩) (by assumption) ?rest42; (case hi42 => (simp only [List.getElem?_toArray, List.getElem?_cons_succ, List.getElem?_cons_zero]; rfl)); (case hQ42 => exact fun _ _ _ h => h); (case hw42 => rfl))
    (try simp only [Act.put, List.setIfInBounds_toArray, List.set_cons_zero, List.set_cons_succ])
    refine wpAnyH_take (i := 9) (oi := ?oi43) (v := ?v43) ?hi43 (by kernel_rfl) (by kernel_rfl) (by kernel_rfl) ?hQ43 (Or.inl ⟨?hw43, ?hy43⟩) (by assumption) ?rest43; (case hi43 => (simp only [List.getElem?_toArray, List.getElem?_cons_succ, List.getElem?_cons_zero]; rfl)); (case hQ43 => exact fun _ _ _ h => h); (case hw43 => rfl); (case hy43 => ((intro w hSw); (try dsimp only at hSw); go_simp; (try with_reducible rfl)))
    (try simp only [Act.put, List.setIfInBounds_toArray, List.set_cons_zero, List.set_cons_succ])
    refine wpAnyH_take (i := 10) (oi := ?oi45) (v := ?v45) ?hi45 (by kernel_rfl) (by kernel_rfl) (by kernel_rfl) ?hQ45 (Or.inl ⟨?hw45, ?hy45⟩) (by assumption) ?rest45; (case hi45 => (simp only [List.getElem?_toArray, List.getElem?_cons_succ, List.getElem?_cons_zero]; rfl)); (case hQ45 => exact fun _ _ _ h => h); (case hw45 => rfl); (case hy45 => ((intro w hSw); (try dsimp only at hSw); go_simp; (try with_reducible rfl)))
    (try simp only [Act.put, List.setIfInBounds_toArray, List.set_cons_zero, List.set_cons_succ])
    first | (refine wpAnyH_take (i := 11) (oi := ?oi47) (v := ?v47) ?hi47 (by kernel_rfl) (by kernel_rfl) (by kernel_rfl) ?hQ47 (Or.inl ⟨?hw47, ?hy47⟩) (by assumption) ?rest47; (case hi47 => (simp only [List.getElem?_toArray, List.getElem?_cons_succ, List.getElem?_cons_zero]; rfl)); (case hQ47 => exact fun _ _ _ h => h); (case hw47 => rfl); (case hy47 => ((intro w hSw); (try dsimp only at hSw); go_simp; (try with_reducible rfl)))) | (refine wpAnyH_take (i := 11) (oi := ?oi48) (v := undef) ?hi48 (by kernel_rfl) (by kernel_rfl) (by kernel_rfl) ?hQ48 (Or.inr ⟨?hw48, rfl⟩) (by assumption) ?rest48; (case hi48 => (simp only [List.getElem?_toArray, List.getElem?_cons_succ, List.getElem?_cons_zero]; rfl)); (case hQ48 => exact fun _ _ _ h => h); (case hw48 => rfl))
    (try simp only [Act.put, List.setIfInBounds_toArray, List.set_cons_zero, List.set_cons_succ])
    first | (refine wpAnyH_take (i := 12) (oi := ?oi49) (v := ?v49) ?hi49 (by kernel_rfl) (by kernel_rfl) (by kernel_rfl) ?hQ49 (Or.inl ⟨?hw49, ?hy49⟩) (by assumption) ?rest49; (case hi49 => (simp only [List.getElem?_toArray, List.getElem?_cons_succ, List.getElem?_cons_zero]; rfl)); (case hQ49 => exact fun _ _ _ h => h); (case hw49 => rfl); (case hy49 => ((intro w hSw); (try dsimp only at hSw); go_simp; (try with_reducible rfl)))) | (refine wpAnyH_take (i := 12) (oi := ?oi50) (v := undef) ?hi50 (by kernel_rfl) (by kernel_rfl) (by kernel_rfl) ?hQ50 (Or.inr ⟨?hw50, rfl⟩) (by assumption) ?rest50; (case hi50 => (simp only [List.getElem?_toArray, List.getElem?_cons_succ, List.getElem?_cons_zero]; rfl)); (case hQ50 => exact fun _ _ _ h => h); (case hw50 => rfl))
    (try simp only [Act.put, List.setIfInBounds_toArray, List.set_cons_zero, List.set_cons_succ])
    refine wpAnyH_ready (rs := [13]) (by kernel_rfl) (by simp) ?_
    refine AllReadyH.cons (o := ?oi51) ?hi51 (fun K hK => ?rest51) AllReadyH.nil
    (case hi51 => (simp only [List.getElem?_toArray, List.getElem?_cons_succ, List.getElem?_cons_zero]; rfl))
    obtain ⟨s0, s1, s2, s3, s4, s5, s6, s7, s8, s9, s10, s11, s12, s13, s14, s15, s16, s17, s18, s19, s20, s21, s22, s23, s24, s25, s26, s27, s28, s29, s30, s31, s32, s33, s34, s35, s36, s37, s38, s39, s40, t0⟩ := hHeld
    go_simp
    ((with_reducible refine (HC3.out _).mono ?_); rintro e wx3 ⟨rfl, hb⟩)
    replace HW := Lib.hid (below_step HW.out hb)
    refine hK.out _ _ ?_ (fun hHeld => ?_)
    · (try dsimp only); exact ⟨cel_below hb s0, cel_below hb s1, cel_below hb s2, cel_below hb s3, cel_below hb s4, cel_below hb s5, cel_below hb s6, cel_below hb s7, cel_below hb s8, cel_below hb s9, cel_below hb s10, cel_below hb s11, cel_below hb s12, cel_below hb s13, cel_below hb s14, cel_below hb s15, cel_below hb s16, cel_below hb s17, cel_below hb s18, cel_below hb s19, cel_below hb s20, cel_below hb s21, cel_below hb s22, cel_below hb s23, cel_below hb s24, cel_below hb s25, cel_below hb s26, cel_below hb s27, cel_below hb s28, cel_below hb s29, cel_below hb s30, cel_below hb s31, cel_below hb s32, cel_below hb s33, cel_below hb s34, cel_below hb s35, cel_below hb s36, cel_below hb s37, cel_below hb s38, cel_below hb s39, cel_below hb s40, hasInts_keep t0 hb⟩
    clear hK K s0 s1 s2 s3 s4 s5 s6 s7 s8 s9 s10 s11 s12 s13 s14 s15 s16 s17 s18 s19 s20 s21 s22 s23 s24 s25 s26 s27 s28 s29 s30 s31 s32 s33 s34 s35 s36 s37 s38 s39 s40 t0 hb
    (try simp only [Act.put, List.setIfInBounds_toArray, List.set_cons_zero, List.set_cons_succ])
    first | (refine wpAnyH_take (i := 14) (oi := ?oi52) (v := ?v52) ?hi52 (by kernel_rfl) (by kernel_rfl) (by kernel_rfl) ?hQ52 (Or.inl ⟨?hw52, ?hy52⟩) (by assumption) ?rest52; (case hi52 => (simp only [List.getElem?_toArray, List.getElem?_cons_succ, List.getElem?_cons_zero]; rfl)); (case hQ52 => exact fun _ _ _ h => h); (case hw52 => rfl); (case hy52 => ((intro w hSw); (try dsimp only at hSw); go_simp; (try with_reducible rfl)))) | (refine wpAnyH_take (i := 14) (oi := ?oi53) (v := undef) ?hi53 (by kernel_rfl) (by kernel_rfl) (by kernel_rfl) ?hQ53 (Or.inr ⟨?hw53, rfl⟩) (by assumption) ?rest53; (case hi53 => (simp only [List.getElem?_toArray, List.getElem?_cons_succ, List.getElem?_cons_zero]; rfl)); (case hQ53 => exact fun _ _ _ h => h); (case hw53 => rfl))
    (try simp only [Act.put, List.setIfInBounds_toArray, List.set_cons_zero, List.set_cons_succ])
    refine wpAnyH_take (i := 15) (oi := ?oi54) (v := ?v54) ?hi54 (by kernel_rfl) (by kernel_rfl) (by kernel_rfl) ?hQ54 (Or.inl ⟨?hw54, ?hy54⟩) (by assumption) ?rest54; (case hi54 => (simp only [List.getElem?_toArray, List.getElem?_cons_succ, List.getElem?_cons_zero]; rfl)); (case hQ54 => exact fun _ _ _ h => h); (case hw54 => rfl); (case hy54 => ((intro w hSw); (try dsimp only at hSw); go_simp; (try with_reducible rfl)))
    (try simp only [Act.put, List.setIfInBounds_toArray, List.set_cons_zero, List.set_cons_succ])
    refine wpAnyH_take (i := 16) (oi := ?oi56) (v := ?v56) ?hi56 (by kernel_rfl) (by kernel_rfl) (by kernel_rfl) ?hQ56 (Or.inl ⟨?hw56, ?hy56⟩) (by assumption) ?rest56; (case hi56 => (simp only [List.getElem?_toArray, List.getElem?_cons_succ, List.getElem?_cons_zero]; rfl)); (case hQ56 => exact fun _ _ _ h => h); (case hw56 => rfl); (case hy56 => ((intro w hSw); (try dsimp only at hSw); go_simp; (try with_reducible rfl)))
    (try simp only [Act.put, List.setIfInBounds_toArray, List.set_cons_zero, List.set_cons_succ])
    first | (refine wpAnyH_take (i := 17) (oi := ?oi58) (v := ?v58) ?hi58 (by kernel_rfl) (by kernel_rfl) (by kernel_rfl) ?hQ58 (Or.inl ⟨?hw58, ?hy58⟩) (by assumption) ?rest58; (case hi58 => (simp only [List.getElem?_toArray, List.getElem?_cons_succ, List.getElem?_cons_zero]; rfl)); (case hQ58 => exact fun _ _ _ h => h); (case hw58 => rfl); (case hy58 => ((intro w hSw); (try dsimp only at hSw); go_simp; (try with_reducible rfl)))) | (refine wpAnyH_take (i := 17) (oi := ?oi59) (v := undef) ?hi59 (by kernel_rfl) (by kernel_rfl) (by kernel_rfl) ?hQ59 (Or.inr ⟨?hw59, rfl⟩) (by assumption) ?rest59; (case hi59 => (simp only [List.getElem?_toArray, List.getElem?_cons_succ, List.getElem?_cons_zero]; rfl)); (case hQ59 => exact fun _ _ _ h => h); (case hw59 => rfl))
    (try simp only [Act.put, List.setIfInBounds_toArray, List.set_cons_zero, List.set_cons_succ])
    first | (refine wpAnyH_take (i := 18) (oi := ?oi60) (v := ?v60) ?hi60 (by kernel_rfl) (by kernel_rfl) (by kernel_rfl) ?hQ60 (Or.inl ⟨?hw60, ?hy60⟩) (by assumption) ?rest60; (case hi60 => (simp only [List.getElem?_toArray, List.getElem?_cons_succ, List.getElem?_cons_zero]; rfl)); (case hQ60 => exact fun _ _ _ h => h); (case hw60 => rfl); (case hy60 => ((intro w hSw); (try dsimp only at hSw); go_simp; (try with_reducible rfl)))) | (refine wpAnyH_take (i := 18) (oi := ?oi61) (v := undef) ?hi61 (by kernel_rfl) (by kernel_rfl) (by kernel_rfl) ?hQ61 (Or.inr ⟨?hw61, rfl⟩) (by assumption) ?rest61; (case hi61 => (simp only [List.getElem?_toArray, List.getElem?_cons_succ, List.getElem?_cons_zero]; rfl)); (case hQ61 => exact fun _ _ _ h => h); (case hw61 => rfl))
    (try simp only [Act.put, List.setIfInBounds_toArray, List.set_cons_zero, List.set_cons_succ])
    refine wpAnyH_ready (rs := [19]) (by kernel_rfl) (by simp) ?_
    refine AllReadyH.cons (o := ?oi62) ?hi62 (fun K hK => ?rest62) AllReadyH.nil
    (case hi62 => (simp only [List.getElem?_toArray, List.getElem?_cons_succ, List.getElem?_cons_zero]; rfl))
    obtain ⟨s0, s1, s2, s3, s4, s5, s6, s7, s8, s9, s10, s11, s12, s13, s14, s15, s16, s17, s18, s19, s20, s21, s22, s23, s24, s25, s26, s27, s28, s29, s30, s31, s32, s33, s34, s35, s36, s37, s38, s39, s40, t0⟩ := hHeld
    go_simp
    ((with_reducible refine (HC4.out _).mono ?_); rintro e wx4 ⟨rfl, hb⟩)
    replace HW := Lib.hid (below_step HW.out hb)
    refine hK.out _ _ ?_ (fun hHeld => ?_)
    · (try dsimp only); exact ⟨cel_below hb s0, cel_below hb s1, cel_below hb s2, cel_below hb s3, cel_below hb s4, cel_below hb s5, cel_below hb s6, cel_below hb s7, cel_below hb s8, cel_below hb s9, cel_below hb s10, cel_below hb s11, cel_below hb s12, cel_below hb s13, cel_below hb s14, cel_below hb s15, cel_below hb s16, cel_below hb s17, cel_below hb s18, cel_below hb s19, cel_below hb s20, cel_below hb s21, cel_below hb s22, cel_below hb s23, cel_below hb s24, cel_below hb s25, cel_below hb s26, cel_below hb s27, cel_below hb s28, cel_below hb s29, cel_below hb s30, cel_below hb s31, cel_below hb s32, cel_below hb s33, cel_below hb s34, cel_below hb s35, cel_below hb s36, cel_below hb s37, cel_below hb s38, cel_below hb s39, cel_below hb s40, hasInts_keep t0 hb⟩
    clear hK K s0 s1 s2 s3 s4 s5 s6 s7 s8 s9 s10 s11 s12 s13 s14 s15 s16 s17 s18 s19 s20 s21 s22 s23 s24 s25 s26 s27 s28 s29 s30 s31 s32 s33 s34 s35 s36 s37 s38 s39 s40 t0 hb
    (try simp only [Act.put, List.setIfInBounds_toArray, List.set_cons_zero, List.set_cons_succ])
    first | (refine wpAnyH_take (i := 20) (oi := ?oi63) (v := ?v63) ?hi63 (by kernel_rfl) (by kernel_rfl) (by kernel_rfl) ?hQ63 (Or.inl ⟨?hw63, ?hy63⟩) (by assumption) ?rest63; (case hi63 => (simp only [List.getElem?_toArray, List.getElem?_cons_succ, List.getElem?_cons_zero]; rfl)); (case hQ63 => exact fun _ _ _ h => h); (case hw63 => rfl); (case hy63 => ((intro w hSw); (try dsimp only at hSw); go_simp; (try with_reducible rfl)))) | (refine wpAnyH_take (i := 20) (oi := ?oi64) (v := undef) ?hi64 (by kernel_rfl) (by kernel_rfl) (by kernel_rfl) ?hQ64 (Or.inr ⟨?hw64, rfl⟩) (by assumption) ?rest64; (case hi64 => (simp only [List.getElem?_toArray, List.getElem?_cons_succ, List.getElem?_cons_zero]; rfl)); (case hQ64 => exact fun _ _ _ h => h); (case hw64 => rfl))
    (try simp only [Act.put, List.setIfInBounds_toArray, List.set_cons_zero, List.set_cons_succ])
    refine wpAnyH_take (i := 21) (oi := ?oi65) (v := ?v65) ?hi65 (by kernel_rfl) (by kernel_rfl) (by kernel_rfl) ?hQ65 (Or.inl ⟨?hw65, ?hy65⟩) (by assumption) ?rest65; (case hi65 => (simp only [List.getElem?_toArray, List.getElem?_cons_succ, List.getElem?_cons_zero]; rfl)); (case hQ65 => exact fun _ _ _ h => h); (case hw65 => rfl); (case hy65 => ((intro w hSw); (try dsimp only at hSw); go_simp; (try with_reducible rfl)))
    (try simp only [Act.put, List.setIfInBounds_toArray, List.set_cons_zero, List.set_cons_succ])
    refine wpAnyH_take (i := 22) (oi := ?oi67) (v := ?v67) ?hi67 (by kernel_rfl) (by kernel_rfl) (by kernel_rfl) ?hQ67 (Or.inl ⟨?hw67, ?hy67⟩) (by assumption) ?rest67; (case hi67 => (simp only [List.getElem?_toArray, List.getElem?_cons_succ, List.getElem?_cons_zero]; rfl)); (case hQ67 => exact fun _ _ _ h => h); (case hw67 => rfl); (case hy67 => ((intro w hSw); (try dsimp only at hSw); go_simp; (try with_reducible rfl)))
    (try simp only [Act.put, List.setIfInBounds_toArray, List.set_cons_zero, List.set_cons_succ])
    first | (refine wpAnyH_take (i := 23) (oi := ?oi69) (v := ?v69) ?hi69 (by kernel_rfl) (by kernel_rfl) (by kernel_rfl) ?hQ69 (Or.inl ⟨?hw69, ?hy69⟩) (by assumption) ?rest69; (case hi69 => (simp only [List.getElem?_toArray, List.getElem?_cons_succ, List.getElem?_cons_zero]; rfl)); (case hQ69 => exact fun _ _ _ h => h); (case hw69 => rfl); (case hy69 => ((intro w hSw); (try dsimp only at hSw); go_simp; (try with_reducible rfl)))) | (refine wpAnyH_take (i := 23) (oi := ?oi70) (v := undef) ?hi70 (by kernel_rfl) (by kernel_rfl) (by kernel_rfl) ?hQ70 (Or.inr ⟨?hw70, rfl⟩) (by assumption) ?rest70; (case hi70 => (simp only [List.getElem?_toArray, List.getElem?_cons_succ, List.getElem?_cons_zero]; rfl)); (case hQ70 => exact fun _ _ _ h => h); (case hw70 => rfl))
    (try simp only [Act.put, List.setIfInBounds_toArray, List.set_cons_zero, List.set_cons_succ])
    first | (refine wpAnyH_take (i := 24) (oi := ?oi71) (v := ?v71) ?hi71 (by kernel_rfl) (by kernel_rfl) (by kernel_rfl) ?hQ71 (Or.inl ⟨?hw71, ?hy71⟩) (by assumption) ?rest71; (case hi71 => (simp only [List.getElem?_toArray, List.getElem?_cons_succ, List.getElem?_cons_zero]; rfl)); (case hQ71 => exact fun _ _ _ h => h); (case hw71 => rfl); (case hy71 => ((intro w hSw); (try dsimp only at hSw); go_simp; (try with_reducible rfl)))) | (refine wpAnyH_take (i := 24) (oi := ?oi72) (v := undef) ?hi72 (by kernel_rfl) (by kernel_rfl) (by kernel_rfl) ?hQ72 (Or.inr ⟨?hw72, rfl⟩) (by assumption) ?rest72; (case hi72 => (simp only [List.getElem?_toArray, List.getElem?_cons_succ, List.getElem?_cons_zero]; rfl)); (case hQ72 => exact fun _ _ _ h => h); (case hw72 => rfl))
    (try simp only [Act.put, List.setIfInBounds_toArray, List.set_cons_zero, List.set_cons_succ])
    first | (refine wpAnyH_take (i := 25) (oi := ?oi73) (v := ?v73) ?hi73 (by kernel_rfl) (by kernel_rfl) (by kernel_rfl) ?hQ73 (Or.inl ⟨?hw73, ?hy73⟩) (by assumption) ?rest73; (case hi73 => (simp only [List.getElem?_toArray, List.getElem?_cons_succ, List.getElem?_cons_zero]; rfl)); (case hQ73 => exact fun _ _ _ h => h); (case hw73 => rfl); (case hy73 => ((intro w hSw); (try dsimp only at hSw); go_simp; (try with_reducible rfl)))) | (refine wpAnyH_take (i := 25) (oi := ?oi74) (v := undef) ?hi74 (by kernel_rfl) (by kernel_rfl) (by kernel_rfl) ?hQ74 (Or.inr ⟨?hw74, rfl⟩) (by assumption) ?rest74; (case hi74 => (simp only [List.getElem?_toArray, List.getElem?_cons_succ, List.getElem?_cons_zero]; rfl)); (case hQ74 => exact fun _ _ _ h => h); (case hw74 => rfl))
    (try simp only [Act.put, List.setIfInBounds_toArray, List.set_cons_zero, List.set_cons_succ])
    refine wpAnyH_take (i := 26) (oi := ?oi75) (v := ?v75) ?hi75 (by kernel_rfl) (by kernel_rfl) (by kernel_rfl) ?hQ75 (Or.inl ⟨?hw75, ?hy75⟩) (by assumption) ?rest75; (case hi75 => (simp only [List.getElem?_toArray, List.getElem?_cons_succ, List.getElem?_cons_zero]; rfl)); (case hQ75 => exact fun _ _ _ h => h); (case hw75 => rfl); (case hy75 => ((intro w hSw); (try dsimp only at hSw); go_simp; (try with_reducible rfl)))
    (try simp only [Act.put, List.setIfInBounds_toArray, List.set_cons_zero, List.set_cons_succ])
    refine wpAnyH_take (i := 27) (oi := ?oi77) (v := ?v77) ?hi77 (by kernel_rfl) (by kernel_rfl) (by kernel_rfl) ?hQ77 (Or.inl ⟨?hw77, ?hy77⟩) (by assumption) ?rest77; (case hi77 => (simp only [List.getElem?_toArray, List.getElem?_cons_succ, List.getElem?_cons_zero]; rfl)); (case hQ77 => exact fun _ _ _ h => h); (case hw77 => rfl); (case hy77 => ((intro w hSw); (try dsimp only at hSw); go_simp; (try with_reducible rfl)))
    (try simp only [Act.put, List.setIfInBounds_toArray, List.set_cons_zero, List.set_cons_succ])
    first | (refine wpAnyH_take (i := 28) (oi := ?oi79) (v := ?v79) ?hi79 (by kernel_rfl) (by kernel_rfl) (by kernel_rfl) ?hQ79 (Or.inl ⟨?hw79, ?hy79⟩) (by assumption) ?rest79; (case hi79 => (simp only [List.getElem?_toArray, List.getElem?_cons_succ, List.getElem?_cons_zero]; rfl)); (case hQ79 => exact fun _ _ _ h => h); (case hw79 => rfl); (case hy79 => ((intro w hSw); (try dsimp only at hSw); go_simp; (try with_reducible rfl)))) | (refine wpAnyH_take (i := 28) (oi := ?oi80) (v := undef) ?hi80 (by kernel_rfl) (by kernel_rfl) (by kernel_rfl) ?hQ80 (Or.inr ⟨?hw80, rfl⟩) (by assumption) ?rest80; (case hi80 => (simp only [List.getElem?_toArray, List.getElem?_cons_succ, List.getElem?_cons_zero]; rfl)); (case hQ80 => exact fun _ _ _ h => h); (case hw80 => rfl))
    (try simp only [Act.put, List.setIfInBounds_toArray, List.set_cons_zero, List.set_cons_succ])
    first | (refine wpAnyH_take (i := 29) (oi := ?oi81) (v := ?v81) ?hi81 (by kernel_rfl) (by kernel_rfl) (by kernel_rfl) ?hQ81 (Or.inl ⟨?hw81, ?hy81⟩) (by assumption) ?rest81; (case hi81 => (simp only [List.getElem?_toArray, List.getElem?_cons_succ, List.getElem?_cons_zero]; rfl)); (case hQ81 => exact fun _ _ _ h => h); (case hw81 => rfl); (case hy81 => ((intro w hSw); (try dsimp only at hSw); go_simp; (try with_reducible rfl)))) | (refine wpAnyH_take (i := 29) (oi := ?oi82) (v := undef) ?hi82 (by kernel_rfl) (by kernel_rfl) (by kernel_rfl) ?hQ82 (Or.inr ⟨?hw82, rfl⟩) (by assumption) ?rest82; (case hi82 => (simp only [List.getElem?_toArray, List.getElem?_cons_succ, List.getElem?_cons_zero]; rfl)); (case hQ82 => exact fun _ _ _ h => h); (case hw82 => rfl))
    (try simp only [Act.put, List.setIfInBounds_toArray, List.set_cons_zero, List.set_cons_succ])
    refine wpAnyH_take (i := 30) (oi := ?oi83) (v := ?v83) ?hi83 (by kernel_rfl) (by kernel_rfl) (by kernel_rfl) ?hQ83 (Or.inl ⟨?hw83, ?hy83⟩) (by assumption) ?rest83; (case hi83 => (simp only [List.getElem?_toArray, List.getElem?_cons_succ, List.getElem?_cons_zero]; rfl)); (case hQ83 => exact fun _ _ _ h => h); (case hw83 => rfl); (case hy83 => ((intro w hSw); (try dsimp only at hSw); go_simp; (try with_reducible rfl)))
    (try simp only [Act.put, List.setIfInBounds_toArray, List.set_cons_zero, List.set_cons_succ])
    refine wpAnyH_take (i := 31) (oi := ?oi85) (v := ?v85) ?hi85 (by kernel_rfl) (by kernel_rfl) (by kernel_rfl) ?hQ85 (Or.inl ⟨?hw85, ?hy85⟩) (by assumption) ?rest85; (case hi85 => (simp only [List.getElem?_toArray, List.getElem?_cons_succ, List.getElem?_cons_zero]; rfl)); (case hQ85 => exact fun _ _ _ h => h); (case hw85 => rfl); (case hy85 => ((intro w hSw); (try dsimp only at hSw); go_simp; (try with_reducible rfl)))
    (try simp only [Act.put, List.setIfInBounds_toArray, List.set_cons_zero, List.set_cons_succ])
    first | (refine wpAnyH_take (i := 32) (oi := ?oi87) (v := ?v87) ?hi87 (by kernel_rfl) (by kernel_rfl) (by kernel_rfl) ?hQ87 (Or.inl ⟨?hw87, ?hy87⟩) (by assumption) ?rest87; (case hi87 => (simp only [List.getElem?_toArray, List.getElem?_cons_succ, List.getElem?_cons_zero]; rfl)); (case hQ87 => exact fun _ _ _ h => h); (case hw87 => rfl); (case hy87 => ((intro w hSw); (try dsimp only at hSw); go_simp; (try with_reducible rfl)))) | (refine wpAnyH_take (i := 32) (oi := ?oi88) (v := undef) ?hi88 (by kernel_rfl) (by kernel_rfl) (by kernel_rfl) ?hQ88 (Or.inr ⟨?hw88, rfl⟩) (by assumption) ?rest88; (case hi88 => (simp only [List.getElem?_toArray, List.getElem?_cons_succ, List.getElem?_cons_zero]; rfl)); (case hQ88 => exact fun _ _ _ h => h); (case hw88 => rfl))
    (try simp only [Act.put, List.setIfInBounds_toArray, List.set_cons_zero, List.set_cons_succ])
    first | (refine wpAnyH_take (i := 33) (oi := ?oi89) (v := ?v89) ?hi89 (by kernel_rfl) (by kernel_rfl) (by kernel_rfl) ?hQ89 (Or.inl ⟨?hw89, ?hy89⟩) (by assumption) ?rest89; (case hi89 => (simp only [List.getElem?_toArray, List.getElem?_cons_succ, List.getElem?_cons_zero]; rfl)); (case hQ89 => exact fun _ _ _ h => h); (case hw89 => rfl); (case hy89 => ((intro w hSw); (try dsimp only at hSw); go_simp; (try with_reducible rfl)))) | (refine wpAnyH_take (i := 33) (oi := ?oi90) (v := undef) ?hi90 (by kernel_rfl) (by kernel_rfl) (by kernel_rfl) ?hQ90 (Or.inr ⟨?hw90, rfl⟩) (by assumption) ?rest90; (case hi90 => (simp only [List.getElem?_toArray, List.getElem?_cons_succ, List.getElem?_cons_zero]; rfl)); (case hQ90 => exact fun _ _ _ h => h); (case hw90 => rfl))
    (try simp only [Act.put, List.setIfInBounds_toArray, List.set_cons_zero, List.set_cons_succ])
    refine wpAnyH_ready (rs := [34]) (by kernel_rfl) (by simp) ?_
    refine AllReadyH.cons (o := ?oi91) ?hi91 (fun K hK => ?rest91) AllReadyH.nil
    (case hi91 => (simp only [List.getElem?_toArray, List.getElem?_cons_succ, List.getElem?_cons_zero]; rfl))
    obtain ⟨s0, s1, s2, s3, s4, s5, s6, s7, s8, s9, s10, s11, s12, s13, s14, s15, s16, s17, s18, s19, s20, s21, s22, s23, s24, s25, s26, s27, s28, s29, s30, s31, s32, s33, s34, s35, s36, s37, s38, s39, s40, t0⟩ := hHeld
    go_simp
    ((with_reducible refine (HL8.out _).mono ?_); rintro e wx5 ⟨rfl, hb⟩)
    replace HW := Lib.hid (below_step HW.out hb)
    refine hK.out _ _ ?_ (fun hHeld => ?_)
    · (try dsimp only); exact ⟨cel_below hb s0, cel_below hb s1, cel_below hb s2, cel_below hb s3, cel_below hb s4, cel_below hb s5, cel_below hb s6, cel_below hb s7, cel_below hb s8, cel_below hb s9, cel_below hb s10, cel_below hb s11, cel_below hb s12, cel_below hb s13, cel_below hb s14, cel_below hb s15, cel_below hb s16, cel_below hb s17, cel_below hb s18, cel_below hb s19, cel_below hb s20, cel_below hb s21, cel_below hb s22, cel_below hb s23, cel_below hb s24, cel_below hb s25, cel_below hb s26, cel_below hb s27, cel_below hb s28, cel_below hb s29, cel_below hb s30, cel_below hb s31, cel_below hb s32, cel_below hb s33, cel_below hb s34, cel_below hb s35, cel_below hb s36, cel_below hb s37, cel_below hb s38, cel_below hb s39, cel_below hb s40, hasInts_keep t0 hb⟩
    clear hK K s0 s1 s2 s3 s4 s5 s6 s7 s8 s9 s10 s11 s12 s13 s14 s15 s16 s17 s18 s19 s20 s21 s22 s23 s24 s25 s26 s27 s28 s29 s30 s31 s32 s33 s34 s35 s36 s37 s38 s39 s40 t0 hb
    (try simp only [Act.put, List.setIfInBounds_toArray, List.set_cons_zero, List.set_cons_succ])
    refine wpAnyH_ready (rs := [35]) (by kernel_rfl) (by simp) ?_
    refine AllReadyH.cons (o := ?oi92) ?hi92 (fun K hK => ?rest92) AllReadyH.nil
    (case hi92 => (simp only [List.getElem?_toArray, List.getElem?_cons_succ, List.getElem?_cons_zero]; rfl))
    obtain ⟨s0, s1, s2, s3, s4, s5, s6, s7, s8, s9, s10, s11, s12, s13, s14, s15, s16, s17, s18, s19, s20, s21, s22, s23, s24, s25, s26, s27, s28, s29, s30, s31, s32, s33, s34, s35, s36, s37, s38, s39, s40, t0⟩ := hHeld
    go_simp
    ((with_reducible refine (HCe.out _ _ _ t0).mono ?_); rintro e wx6 ⟨rfl, hb⟩)
    replace HW := Lib.hid (below_step HW.out hb)
    refine hK.out _ _ ?_ (fun hHeld => ?_)
    · (try dsimp only); exact ⟨cel_below hb s0, cel_below hb s1, cel_below hb s2, cel_below hb s3, cel_below hb s4, cel_below hb s5, cel_below hb s6, cel_below hb s7, cel_below hb s8, cel_below hb s9, cel_below hb s10, cel_below hb s11, cel_below hb s12, cel_below hb s13, cel_below hb s14, cel_below hb s15, cel_below hb s16, cel_below hb s17, cel_below hb s18, cel_below hb s19, cel_below hb s20, cel_below hb s21, cel_below hb s22, cel_below hb s23, cel_below hb s24, cel_below hb s25, cel_below hb s26, cel_below hb s27, cel_below hb s28, cel_below hb s29, cel_below hb s30, cel_below hb s31, cel_below hb s32, cel_below hb s33, cel_below hb s34, cel_below hb s35, cel_below hb s36, cel_below hb s37, cel_below hb s38, cel_below hb s39, cel_below hb s40, hasInts_keep t0 hb⟩
    clear hK K s0 s1 s2 s3 s4 s5 s6 s7 s8 s9 s10 s11 s12 s13 s14 s15 s16 s17 s18 s19 s20 s21 s22 s23 s24 s25 s26 s27 s28 s29 s30 s31 s32 s33 s34 s35 s36 s37 s38 s39 s40 t0 hb
    (try simp only [Act.put, List.setIfInBounds_toArray, List.set_cons_zero, List.set_cons_succ])
    refine wpAnyH_ready (rs := [36]) (by kernel_rfl) (by simp) ?_
    refine AllReadyH.cons (o := ?oi93) ?hi93 (fun K hK => ?rest93) AllReadyH.nil
    (case hi93 => (simp only [List.getElem?_toArray, List.getElem?_cons_succ, List.getElem?_cons_zero]; rfl))
    obtain ⟨s0, s1, s2, s3, s4, s5, s6, s7, s8, s9, s10, s11, s12, s13, s14, s15, s16, s17, s18, s19, s20, s21, s22, s23, s24, s25, s26, s27, s28, s29, s30, s31, s32, s33, s34, s35, s36, s37, s38, s39, s40, t0⟩ := hHeld
    go_simp
    ((with_reducible refine (HSu.out _).mono ?_); rintro e wx7 ⟨rfl, hb⟩)
    replace HW := Lib.hid (below_step HW.out hb)
    refine hK.out _ _ ?_ (fun hHeld => ?_)
    · (try dsimp only); exact ⟨cel_below hb s0, cel_below hb s1, cel_below hb s2, cel_below hb s3, cel_below hb s4, cel_below hb s5, cel_below hb s6, cel_below hb s7, cel_below hb s8, cel_below hb s9, cel_below hb s10, cel_below hb s11, cel_below hb s12, cel_below hb s13, cel_below hb s14, cel_below hb s15, cel_below hb s16, cel_below hb s17, cel_below hb s18, cel_below hb s19, cel_below hb s20, cel_below hb s21, cel_below hb s22, cel_below hb s23, cel_below hb s24, cel_below hb s25, cel_below hb s26, cel_below hb s27, cel_below hb s28, cel_below hb s29, cel_below hb s30, cel_below hb s31, cel_below hb s32, cel_below hb s33, cel_below hb s34, cel_below hb s35, cel_below hb s36, cel_below hb s37, cel_below hb s38, cel_below hb s39, cel_below hb s40, hasInts_keep t0 hb⟩
    clear hK K s0 s1 s2 s3 s4 s5 s6 s7 s8 s9 s10 s11 s12 s13 s14 s15 s16 s17 s18 s19 s20 s21 s22 s23 s24 s25 s26 s27 s28 s29 s30 s31 s32 s33 s34 s35 s36 s37 s38 s39 s40 t0 hb
    (try simp only [Act.put, List.setIfInBounds_toArray, List.set_cons_zero, List.set_cons_succ])
    first | (refine wpAnyH_take (i := 37) (oi := ?oi94) (v := ?v94) ?hi94 (by kernel_rfl) (by kernel_rfl) (by kernel_rfl) ?hQ94 (Or.inl ⟨?hw94, ?hy94⟩) (by assumption) ?rest94; (case hi94 => (simp only [List.getElem?_toArray, List.getElem?_cons_succ, List.getElem?_cons_zero]; rfl)); (case hQ94 => exact fun _ _ _ h => h); (case hw94 => rfl); (case hy94 => ((intro w hSw); (try dsimp only at hSw); go_simp; (try with_reducible rfl)))) | (refine wpAnyH_take (i := 37) (oi := ?oi95) (v := undef) ?hi95 (by kernel_rfl) (by kernel_rfl) (by kernel_rfl) ?hQ95 (Or.inr ⟨?hw95, rfl⟩) (by assumption) ?rest95; (case hi95 => (simp only [List.getElem?_toArray, List.getElem?_cons_succ, List.getElem?_cons_zero]; rfl)); (case hQ95 => exact fun _ _ _ h => h); (case hw95 => rfl))
    (try simp only [Act.put, List.setIfInBounds_toArray, List.set_cons_zero, List.set_cons_succ])
    refine wpAnyH_take (i := 38) (oi := ?oi96) (v := ?v96) ?hi96 (by kernel_rfl) (by kernel_rfl) (by kernel_rfl) ?hQ96 (Or.inl ⟨?hw96, ?hy96⟩) (by assumption) ?rest96; (case hi96 => (simp only [List.getElem?_toArray, List.getElem?_cons_succ, List.getElem?_cons_zero]; rfl)); (case hQ96 => exact fun _ _ _ h => h); (case hw96 => rfl); (case hy96 => ((intro w hSw); (try dsimp only at hSw); go_simp; (try with_reducible rfl)))
    (try simp only [Act.put, List.setIfInBounds_toArray, List.set_cons_zero, List.set_cons_succ])
    refine wpAnyH_take (i := 39) (oi := ?oi98) (v := ?v98) ?hi98 (by kernel_rfl) (by kernel_rfl) (by kernel_rfl) ?hQ98 (Or.inl ⟨?hw98, ?hy98⟩) (by assumption) ?rest98; (case hi98 => (simp only [List.getElem?_toArray, List.getElem?_cons_succ, List.getElem?_cons_zero]; rfl)); (case hQ98 => exact fun _ _ _ h => h); (case hw98 => rfl); (case hy98 => ((intro w hSw); (try dsimp only at hSw); go_simp; (try with_reducible rfl)))
    (try simp only [Act.put, List.setIfInBounds_toArray, List.set_cons_zero, List.set_cons_succ])
    first | (refine wpAnyH_take (i := 40) (oi := ?oi100) (v := ?v100) ?hi100 (by kernel_rfl) (by kernel_rfl) (by kernel_rfl) ?hQ100 (Or.inl ⟨?hw100, ?hy100⟩) (by assumption) ?rest100; (case hi100 => (simp only [List.getElem?_toArray, List.getElem?_cons_succ, List.getElem?_cons_zero]; rfl)); (case hQ100 => exact fun _ _ _ h => h); (case hw100 => rfl); (case hy100 => ((intro w hSw); (try dsimp only at hSw); go_simp; (try with_reducible rfl)))) | (refine wpAnyH_take (i := 40) (oi := ?oi101) (v := undef) ?hi101 (by kernel_rfl) (by kernel_rfl) (by kernel_rfl) ?hQ101 (Or.inr ⟨?hw101, rfl⟩) (by assumption) ?rest101; (case hi101 => (simp only [List.getElem?_toArray, List.getElem?_cons_succ, List.getElem?_cons_zero]; rfl)); (case hQ101 => exact fun _ _ _ h => h); (case hw101 => rfl))
    (try simp only [Act.put, List.setIfInBounds_toArray, List.set_cons_zero, List.set_cons_succ])
    first | (refine wpAnyH_take (i := 41) (oi := ?oi102) (v := ?v102) ?hi102 (by kernel_rfl) (by kernel_rfl) (by kernel_rfl) ?hQ102 (Or.inl ⟨?hw102, ?hy102⟩) (by assumption) ?rest102; (case hi102 => (simp only [List.getElem?_toArray, List.getElem?_cons_succ, List.getElem?_cons_zero]; rfl)); (case hQ102 => exact fun _ _ _ h => h); (case hw102 => rfl); (case hy102 => ((intro w hSw); (try dsimp only at hSw); go_simp; (try with_reducible rfl)))) | (refine wpAnyH_take (i := 41) (oi := ?oi103) (v := undef) ?hi103 (by kernel_rfl) (by kernel_rfl) (by kernel_rfl) ?hQ103 (Or.inr ⟨?hw103, rfl⟩) (by assumption) ?rest103; (case hi103 => (simp only [List.getElem?_toArray, List.getElem?_cons_succ, List.getElem?_cons_zero]; rfl)); (case hQ103 => exact fun _ _ _ h => h); (case hw103 => rfl))
    (try simp only [Act.put, List.setIfInBounds_toArray, List.set_cons_zero, List.set_cons_succ])
    first | (refine wpAnyH_take (i := 42) (oi := ?oi104) (v := ?v104) ?hi104 (by kernel_rfl) (by kernel_rfl) (by kernel_rfl) ?hQ104 (Or.inl ⟨?hw104, ?hy104⟩) (by assumption) ?rest104; (case hi104 => (simp only [List.getElem?_toArray, List.getElem?_cons_succ, List.getElem?_cons_zero]; rfl)); (case hQ104 => exact fun _ _ _ h => h); (case hw104 => rfl); (case hy104 => ((intro w hSw); (try dsimp only at hSw); go_simp; (try with_reducible rfl)))) | (refine wpAnyH_take (i := 42) (oi := ?oi105) (v := undef) ?hi105 (by kernel_rfl) (by kernel_rfl) (by kernel_rfl) ?hQ105 (Or.inr ⟨?hw105, rfl⟩) (by assumption) ?rest105; (case hi105 => (simp only [List.getElem?_toArray, List.getElem?_cons_succ, List.getElem?_cons_zero]; rfl)); (case hQ105 => exact fun _ _ _ h => h); (case hw105 => rfl))
    (try simp only [Act.put, List.setIfInBounds_toArray, List.set_cons_zero, List.set_cons_succ])
    refine wpAnyH_take (i := 43) (oi := ?oi106) (v := ?v106) ?hi106 (by kernel_rfl) (by kernel_rfl) (by kernel_rfl) ?hQ106 (Or.inl ⟨?hw106, ?hy106⟩) (by assumption) ?rest106; (case hi106 => (simp only [List.getElem?_toArray, List.getElem?_cons_succ, List.getElem?_cons_zero]; rfl)); (case hQ106 => exact fun _ _ _ h => h); (case hw106 => rfl); (case hy106 => ((intro w hSw); (try dsimp only at hSw); go_simp; (try with_reducible rfl)))
    (try simp only [Act.put, List.setIfInBounds_toArray, List.set_cons_zero, List.set_cons_succ])
    refine wpAnyH_take (i := 44) (oi := ?oi108) (v := ?v108) ?hi108 (by kernel_rfl) (by kernel_rfl) (by kernel_rfl) ?hQ108 (Or.inl ⟨?hw108, ?hy108⟩) (by assumption) ?rest108; (case hi108 => (simp only [List.getElem?_toArray, List.getElem?_cons_succ, List.getElem?_cons_zero]; rfl)); (case hQ108 => exact fun _ _ _ h => h); (case hw108 => rfl); (case hy108 => ((intro w hSw); (try dsimp only at hSw); go_simp; (try with_reducible rfl)))
    (try simp only [Act.put, List.setIfInBounds_toArray, List.set_cons_zero, List.set_cons_succ])
    first | (refine wpAnyH_take (i := 45) (oi := ?oi110) (v := ?v110) ?hi110 (by kernel_rfl) (by kernel_rfl) (by kernel_rfl) ?hQ110 (Or.inl ⟨?hw110, ?hy110⟩) (by assumption) ?rest110; (case hi110 => (simp only [List.getElem?_toArray, List.getElem?_cons_succ, List.getElem?_cons_zero]; rfl)); (case hQ110 => exact fun _ _ _ h => h); (case hw110 => rfl); (case hy110 => ((intro w hSw); (try dsimp only at hSw); go_simp; (try with_reducible rfl)))) | (refine wpAnyH_take (i := 45) (oi := ?oi111) (v := undef) ?hi111 (by kernel_rfl) (by kernel_rfl) (by kernel_rfl) ?hQ111 (Or.inr ⟨?hw111, rfl⟩) (by assumption) ?rest111; (case hi111 => (simp only [List.getElem?_toArray, List.getElem?_cons_succ, List.getElem?_cons_zero]; rfl)); (case hQ111 => exact fun _ _ _ h => h); (case hw111 => rfl))
    (try simp only [Act.put, List.setIfInBounds_toArray, List.set_cons_zero, List.set_cons_succ])
    first | (refine wpAnyH_take (i := 46) (oi := ?oi112) (v := ?v112) ?hi112 (by kernel_rfl) (by kernel_rfl) (by kernel_rfl) ?hQ112 (Or.inl ⟨?hw112, ?hy112⟩) (by assumption) ?rest112; (case hi112 => (simp only [List.getElem?_toArray, List.getElem?_cons_succ, List.getElem?_cons_zero]; rfl)); (case hQ112 => exact fun _ _ _ h => h); (case hw112 => rfl); (case hy112 => ((intro w hSw); (try dsimp only at hSw); go_simp; (try with_reducible rfl)))) | (refine wpAnyH_take (i := 46) (oi := ?oi113) (v := undef) ?hi113 (by kernel_rfl) (by kernel_rfl) (by kernel_rfl) ?hQ113 (Or.inr ⟨?hw113, rfl⟩) (by assumption) ?rest113; (case hi113 => (simp only [List.getElem?_toArray, List.getElem?_cons_succ, List.getElem?_cons_zero]; rfl)); (case hQ113 => exact fun _ _ _ h => h); (case hw113 => rfl))
    (try simp only [Act.put, List.setIfInBounds_toArray, List.set_cons_zero, List.set_cons_succ])
    first | (refine wpAnyH_take (i := 47) (oi := ?oi114) (v := ?v114) ?hi114 (by kernel_rfl) (by kernel_rfl) (by kernel_rfl) ?hQ114 (Or.inl ⟨?hw114, ?hy114⟩) (by assumption) ?rest114; (case hi114 => (simp only [List.getElem?_toArray, List.getElem?_cons_succ, List.getElem?_cons_zero]; rfl)); (case hQ114 => exact fun _ _ _ h => h); (case hw114 => rfl); (case hy114 => ((intro w hSw); (try dsimp only at hSw); go_simp; (try with_reducible rfl)))) | (refine wpAnyH_take (i := 47) (oi := ?oi115) (v := undef) ?hi115 (by kernel_rfl) (by kernel_rfl) (by kernel_rfl) ?hQ115 (Or.inr ⟨?hw115, rfl⟩) (by assumption) ?rest115; (case hi115 => (simp only [List.getElem?_toArray, List.getElem?_cons_succ, List.getElem?_cons_zero]; rfl)); (case hQ115 => exact fun _ _ _ h => h); (case hw115 => rfl))
    (try simp only [Act.put, List.setIfInBounds_toArray, List.set_cons_zero, List.set_cons_succ])
    refine wpAnyH_take (i := 48) (oi := ?oi116) (v := ?v116) ?hi116 (by kernel_rfl) (by kernel_rfl) (by kernel_rfl) ?hQ116 (Or.inl ⟨?hw116, ?hy116⟩) (by assumption) ?rest116; (case hi116 => (simp only [List.getElem?_toArray, List.getElem?_cons_succ, List.getElem?_cons_zero]; rfl)); (case hQ116 => exact fun _ _ _ h => h); (case hw116 => rfl); (case hy116 => ((intro w hSw); (try dsimp only at hSw); go_simp; (try with_reducible rfl)))
    (try simp only [Act.put, List.setIfInBounds_toArray, List.set_cons_zero, List.set_cons_succ])
    refine wpAnyH_take (i := 49) (oi := ?oi118) (v := ?v118) ?hi118 (by kernel_rfl) (by kernel_rfl) (by kernel_rfl) ?hQ118 (Or.inl ⟨?hw118, ?hy118⟩) (by assumption) ?rest118; (case hi118 => (simp only [List.getElem?_toArray, List.getElem?_cons_succ, List.getElem?_cons_zero]; rfl)); (case hQ118 => exact fun _ _ _ h => h); (case hw118 => rfl); (case hy118 => ((intro w hSw); (try dsimp only at hSw); go_simp; (try with_reducible rfl)))
    (try simp only [Act.put, List.setIfInBounds_toArray, List.set_cons_zero, List.set_cons_succ])
    first | (refine wpAnyH_take (i := 50) (oi := ?oi120) (v := ?v120) ?hi120 (by kernel_rfl) (by kernel_rfl) (by kernel_rfl) ?hQ120 (Or.inl ⟨?hw120, ?hy120⟩) (by assumption) ?rest120; (case hi120 => (simp only [List.getElem?_toArray, List.getElem?_cons_succ, List.getElem?_cons_zero]; rfl)); (case hQ120 => exact fun _ _ _ h => h); (case hw120 => rfl); (case hy120 => ((intro w hSw); (try dsimp only at hSw); go_simp; (try with_reducible rfl)))) | (refine wpAnyH_take (i := 50) (oi := ?oi121) (v := undef) ?hi121 (by kernel_rfl) (by kernel_rfl) (by kernel_rfl) ?hQ121 (Or.inr ⟨?hw121, rfl⟩) (by assumption) ?rest121; (case hi121 => (simp only [List.getElem?_toArray, List.getElem?_cons_succ, List.getElem?_cons_zero]; rfl)); (case hQ121 => exact fun _ _ _ h => h); (case hw121 => rfl))
    (try simp only [Act.put, List.setIfInBounds_toArray, List.set_cons_zero, List.set_cons_succ])
    first | (refine wpAnyH_take (i := 51) (oi := ?oi122) (v := ?v122) ?hi122 (by kernel_rfl) (by kernel_rfl) (by kernel_rfl) ?hQ122 (Or.inl ⟨?hw122, ?hy122⟩) (by assumption) ?rest122; (case hi122 => (simp only [List.getElem?_toArray, List.getElem?_cons_succ, List.getElem?_cons_zero]; rfl)); (case hQ122 => exact fun _ _ _ h => h); (case hw122 => rfl); (case hy122 => ((intro w hSw); (try dsimp only at hSw); go_simp; (try with_reducible rfl)))) | (refine wpAnyH_take (i := 51) (oi := ?oi123) (v := undef) ?hi123 (by kernel_rfl) (by kernel_rfl) (by kernel_rfl) ?hQ123 (Or.inr ⟨?hw123, rfl⟩) (by assumption) ?rest123; (case hi123 => (simp only [List.getElem?_toArray, List.getElem?_cons_succ, List.getElem?_cons_zero]; rfl)); (case hQ123 => exact fun _ _ _ h => h); (case hw123 => rfl))
    (try simp only [Act.put, List.setIfInBounds_toArray, List.set_cons_zero, List.set_cons_succ])
    refine wpAnyH_take (i := 52) (oi := ?oi124) (v := ?v124) ?hi124 (by kernel_rfl) (by kernel_rfl) (by kernel_rfl) ?hQ124 (Or.inl ⟨?hw124, ?hy124⟩) (by assumption) ?rest124; (case hi124 => (simp only [List.getElem?_toArray, List.getElem?_cons_succ, List.getElem?_cons_zero]; rfl)); (case hQ124 => exact fun _ _ _ h => h); (case hw124 => rfl); (case hy124 => ((intro w hSw); (try dsimp only at hSw); go_simp; (try with_reducible rfl)))
    (try simp only [Act.put, List.setIfInBounds_toArray, List.set_cons_zero, List.set_cons_succ])
    refine wpAnyH_take (i := 53) (oi := ?oi126) (v := ?v126) ?hi126 (by kernel_rfl) (by kernel_rfl) (by kernel_rfl) ?hQ126 (Or.inl ⟨?hw126, ?hy126⟩) (by assumption) ?rest126; (case hi126 => (simp only [List.getElem?_toArray, List.getElem?_cons_succ, List.getElem?_cons_zero]; rfl)); (case hQ126 => exact fun _ _ _ h => h); (case hw126 => rfl); (case hy126 => ((intro w hSw); (try dsimp only at hSw); go_simp; (try with_reducible rfl)))
    (try simp only [Act.put, List.setIfInBounds_toArray, List.set_cons_zero, List.set_cons_succ])
    refine wpAnyH_done (by kernel_rfl) ?_ _
    obtain ⟨s0, s1, s2, s3, s4, s5, s6, s7, s8, s9, s10, s11, s12, s13, s14, s15, s16, s17, s18, s19, s20, s21, s22, s23, s24, s25, s26, s27, s28, s29, s30, s31, s32, s33, s34, s35, s36, s37, s38, s39, s40, t0⟩ := hHeld
    go_wp2
    go_ret
    exact ⟨rfl, HW.out⟩
end Go.Proofs.Ytaclnaedinfhmaa
