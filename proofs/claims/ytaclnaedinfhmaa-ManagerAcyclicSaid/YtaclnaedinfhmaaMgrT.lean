
/-
  Layer 17: the chapter's examples, which every statement asks first.
-/
import Derived.Test.YtaclnaedinfhmaaRows
import Derived.Test.YtaclnaedinfhmaaBase
import Derived.Test.YtaclnaedinfhmaaAux
import Derived.Test.YtaclnaedinfhmaaWord2
import Derived.Test.YtaclnaedinfhmaaLayA
import Derived.Test.YtaclnaedinfhmaaMemA
import Derived.Test.YtaclnaedinfhmaaMemB
import Derived.Test.YtaclnaedinfhmaaMemE
import Derived.Test.YtaclnaedinfhmaaMemF
import Derived.Test.YtaclnaedinfhmaaTag
import Derived.Test.YtaclnaedinfhmaaStepD
import Derived.Test.YtaclnaedinfhmaaTake
import Derived.Test.YtaclnaedinfhmaaStepH
import Derived.Test.YtaclnaedinfhmaaMgrA
import Derived.Test.YtaclnaedinfhmaaMgrE
import Derived.Test.YtaclnaedinfhmaaMgrS
import Derived.Test.YtaclnaedinfhmaaAloneA
import Derived.Test.YtaclnaedinfhmaaAloneM
import Derived.WalkKit
import Derived.Lib.Hide
import Derived.Deep.MidRow
import Derived.Deep.Cut
import Derived.Deep.DeepCutAuto
import Derived.Deep.RegionHeld3
import Derived.IntWalk
namespace Go.Proofs.Ytaclnaedinfhmaa
set_option linter.unusedVariables false
set_option linter.unusedSimpArgs false
set_option maxRecDepth 100000
set_option maxHeartbeats 4000000
open Go.ChangeShapes Go.WideShapes Go.ChangeAt Go.RowKit

theorem cell16_any (v : Value) (zs : List Int) (k : Nat) (hk : k < zs.length) (w : World) (hv : HasInts w v zs) : Calls Try.prog 20 #[.agg #[v], .int .i64 (k : Nat)] w fun e w' => e = .returned (.int .i64 (zs.getD k 0)) ∧ Below w.heap.size w w' := by
  obtain ⟨a, cap, rfl, hl, hc⟩ := hv
  rcases hc with hc | ⟨b, o, rfl, hc⟩
  · omega
  obtain ⟨x, hx⟩ : ∃ x, x = zs.getD k 0 := ⟨_, rfl⟩
  have hcell := hc k hk
  rw [← hx] at hcell ⊢
  have hb : b < w.heap.size := World.block_lt_of_cell? w _ hcell
  have h1 : ∀ q : Obj, (w.alloc q).cell? ⟨b, o + k, none⟩ = some (.int .i64 x) := fun q => cell_alloc _ hcell
  obtain ⟨L, hL⟩ : ∃ L, L = zs.length := ⟨_, rfl⟩
  rw [← hL] at hk hl ⊢
  clear hc hx hL
  have d1 : decide ((k : Int) < 0) = false := by simp
  have d2 : decide ((L : Int) ≤ k) = false := by simp; omega
  have d3 : IntKind.i64.wrap (k : Int) = k := IntWalk.i64_in _ (by omega)
  have d4 : (k : Int) < L := by omega
  go_enter Try.func20, Try.ntmps20
  go_wp2
  go_ret
  exact ⟨rfl, below_new1 _ _⟩

def zA : List Int := laidZ 1 17 ⟨2, 3, 1⟩
def zB : List Int := zA.set 8 19
theorem laidZ_i64 : ∀ z ∈ zA, I64 z := by unfold zA laidZ; intro z hz; simp at hz; unfold I64; omega
theorem zB_i64 : ∀ z ∈ zB, I64 z := by unfold zB zA laidZ; intro z hz; simp at hz; unfold I64; omega
theorem exec1 : exec 19 (mgrT (lay3 1) 0 1 1 ⟨1, 3, 0⟩) zA = some ({ val := 2 }, zB, 5) := by kernel_rfl
theorem exec2 : exec 19 (mgrT (lay3 1) 0 1 0 ⟨1, 3, 0⟩) zB = some ({ val := 2 }, zB, 3) := by kernel_rfl
theorem exec3 : exec 19 (mgrT (lay3 1) 1 0 1 ⟨2, 3, 1⟩) zB = some ({ val := 1, lost := true }, zB, 1) := by kernel_rfl
theorem sane17_any (w : World) : Calls Try.prog 29 #[] w fun e w' => e = .returned (.bool true) ∧ Below w.heap.size w w' := by
  have HWh : Hid (∀ w, Calls Try.prog 32 #[.int .i64 1] w fun e w' => e = .returned (.agg #[.int .i64 3, .int .i64 0, .int .i64 0, .int .i64 0, .int .i64 1, .int .i64 0, .int .i64 1, .int .i64 2, .int .i64 3, .int .i64 4, .int .i64 16, .int .i64 16, .int .i64 16]) ∧ Below w.heap.size w w') := Lib.hid (fun w => where17_any 1 (by decide) w)
  have HSt : Hid (∀ w, Calls Try.prog 35 #[.int .i64 4, .int .i64 1] w fun e w' => e = .returned (.int .i64 17) ∧ Below w.heap.size w w') := Lib.hid (fun w => (wstatus_any 4 1 w).mono (by rintro e w' ⟨rfl, rfl⟩; exact ⟨ret_int (by decide +kernel), Below.refl _ _⟩))
  have HSu : Hid (∀ w, Calls Try.prog 35 #[.int .i64 4, .int .i64 3] w fun e w' => e = .returned (.int .i64 19) ∧ Below w.heap.size w w') := Lib.hid (fun w => (wstatus_any 4 3 w).mono (by rintro e w' ⟨rfl, rfl⟩; exact ⟨ret_int (by decide +kernel), Below.refl _ _⟩))
  have HLd : Hid (∀ w, Calls Try.prog 36 #[.agg #[.int .i64 3, .int .i64 0, .int .i64 0, .int .i64 0, .int .i64 1, .int .i64 0, .int .i64 1, .int .i64 2, .int .i64 3, .int .i64 4, .int .i64 16, .int .i64 16, .int .i64 16], .int .i64 1, .int .i64 17, .agg #[.int .i64 2, .int .i64 3, .int .i64 1]] w fun e w' => ∃ a c, e = .returned (.agg #[.slice a 16 c]) ∧ HasInts w' (.slice a 16 c) zA ∧ Below w.heap.size w w') := Lib.hid (fun w => laid17_any 1 17 1 (by decide) ⟨2, 3, 1⟩ w)
  have HA1 : Hid (∀ w am cm, HasInts w (.slice am 16 cm) zA → Calls Try.prog 37 #[.agg #[.int .i64 3, .int .i64 0, .int .i64 0, .int .i64 0, .int .i64 1, .int .i64 0, .int .i64 1, .int .i64 2, .int .i64 3, .int .i64 4, .int .i64 16, .int .i64 16, .int .i64 16], .agg #[.slice am 16 cm], .int .i64 0, .agg #[.int .i64 0, .int .i64 1, .int .i64 1, .int .i64 0, .int .i64 1, .int .i64 3, .int .i64 0, .slice none 0 0, .slice none 0 0, .slice none 0 0]] w fun e w' => ∃ a2 c2, e = .returned (.tuple #[.agg #[.int .i64 2, .int .i64 0, .int .i64 0, .int .i64 0, .bool false, .bool false, .int .i64 0], .agg #[.slice a2 16 c2], .int .i64 5]) ∧ HasInts w' (.slice a2 16 c2) zB ∧ Below w.heap.size w w') := Lib.hid (fun w am cm hv => by
    refine (alone17_any w (lay3 1) (lay3_ok 1) 0 0 1 1 0 ⟨1, 3, 0⟩ none none none 0 0 0 0 0 0 am 16 cm zA hv (by simp [zA, zA, laidZ]) laidZ_i64 _ _ _ exec1).mono ?_
    rintro e w' ⟨a2, l2, c2, rfl, hu, hb⟩
    have hl : (zB : List Int).length = 16 := by simp [zB, zA, laidZ]
    obtain ⟨a3, c3, he, _⟩ := id hu
    simp only [Value.slice.injEq] at he
    obtain ⟨rfl, rfl, rfl⟩ := he
    rw [hl] at hu ⊢
    exact ⟨_, _, rfl, hu, hb⟩)
  have HA2 : Hid (∀ w am cm, HasInts w (.slice am 16 cm) zB → Calls Try.prog 37 #[.agg #[.int .i64 3, .int .i64 0, .int .i64 0, .int .i64 0, .int .i64 1, .int .i64 0, .int .i64 1, .int .i64 2, .int .i64 3, .int .i64 4, .int .i64 16, .int .i64 16, .int .i64 16], .agg #[.slice am 16 cm], .int .i64 0, .agg #[.int .i64 0, .int .i64 1, .int .i64 0, .int .i64 0, .int .i64 1, .int .i64 3, .int .i64 0, .slice none 0 0, .slice none 0 0, .slice none 0 0]] w fun e w' => ∃ a2 c2, e = .returned (.tuple #[.agg #[.int .i64 2, .int .i64 0, .int .i64 0, .int .i64 0, .bool false, .bool false, .int .i64 0], .agg #[.slice a2 16 c2], .int .i64 3]) ∧ HasInts w' (.slice a2 16 c2) zB ∧ Below w.heap.size w w') := Lib.hid (fun w am cm hv => by
    refine (alone17_any w (lay3 1) (lay3_ok 1) 0 0 1 0 0 ⟨1, 3, 0⟩ none none none 0 0 0 0 0 0 am 16 cm zB hv (by simp [zB, zA, laidZ]) zB_i64 _ _ _ exec2).mono ?_
    rintro e w' ⟨a2, l2, c2, rfl, hu, hb⟩
    have hl : (zB : List Int).length = 16 := by simp [zB, zA, laidZ]
    obtain ⟨a3, c3, he, _⟩ := id hu
    simp only [Value.slice.injEq] at he
    obtain ⟨rfl, rfl, rfl⟩ := he
    rw [hl] at hu ⊢
    exact ⟨_, _, rfl, hu, hb⟩)
  have HA3 : Hid (∀ w am cm, HasInts w (.slice am 16 cm) zB → Calls Try.prog 37 #[.agg #[.int .i64 3, .int .i64 0, .int .i64 0, .int .i64 0, .int .i64 1, .int .i64 0, .int .i64 1, .int .i64 2, .int .i64 3, .int .i64 4, .int .i64 16, .int .i64 16, .int .i64 16], .agg #[.slice am 16 cm], .int .i64 1, .agg #[.int .i64 0, .int .i64 0, .int .i64 1, .int .i64 0, .int .i64 2, .int .i64 3, .int .i64 1, .slice none 0 0, .slice none 0 0, .slice none 0 0]] w fun e w' => ∃ a2 c2, e = .returned (.tuple #[.agg #[.int .i64 1, .int .i64 0, .int .i64 0, .int .i64 0, .bool false, .bool true, .int .i64 0], .agg #[.slice a2 16 c2], .int .i64 1]) ∧ HasInts w' (.slice a2 16 c2) zB ∧ Below w.heap.size w w') := Lib.hid (fun w am cm hv => by
    refine (alone17_any w (lay3 1) (lay3_ok 1) 1 0 0 1 0 ⟨2, 3, 1⟩ none none none 0 0 0 0 0 0 am 16 cm zB hv (by simp [zB, zA, laidZ]) zB_i64 _ _ _ exec3).mono ?_
    rintro e w' ⟨a2, l2, c2, rfl, hu, hb⟩
    have hl : (zB : List Int).length = 16 := by simp [zB, zA, laidZ]
    obtain ⟨a3, c3, he, _⟩ := id hu
    simp only [Value.slice.injEq] at he
    obtain ⟨rfl, rfl, rfl⟩ := he
    rw [hl] at hu ⊢
    exact ⟨_, _, rfl, hu, hb⟩)
  have HC1 : Hid (∀ w, Calls Try.prog 30 #[.int .i64 2, .agg #[.int .i64 1, .int .i64 3, .int .i64 0], .agg #[.int .i64 2, .int .i64 3, .int .i64 1]] w fun e w' => e = .returned (.int .i64 2) ∧ Below w.heap.size w w') := Lib.hid (fun w => choose_any 2 ⟨1, 3, 0⟩ ⟨2, 3, 1⟩ w)
  have HC2 : Hid (∀ w, Calls Try.prog 30 #[.int .i64 2, .agg #[.int .i64 2, .int .i64 3, .int .i64 1], .agg #[.int .i64 1, .int .i64 3, .int .i64 0]] w fun e w' => e = .returned (.int .i64 1) ∧ Below w.heap.size w w') := Lib.hid (fun w => choose_any 2 ⟨2, 3, 1⟩ ⟨1, 3, 0⟩ w)
  have HC3 : Hid (∀ w, Calls Try.prog 30 #[.int .i64 3, .agg #[.int .i64 2, .int .i64 3, .int .i64 1], .agg #[.int .i64 1, .int .i64 3, .int .i64 0]] w fun e w' => e = .returned (.int .i64 1) ∧ Below w.heap.size w w') := Lib.hid (fun w => choose_any 3 ⟨2, 3, 1⟩ ⟨1, 3, 0⟩ w)
  have HC4 : Hid (∀ w, Calls Try.prog 30 #[.int .i64 0, .agg #[.int .i64 1, .int .i64 3, .int .i64 0], .agg #[.int .i64 2, .int .i64 3, .int .i64 1]] w fun e w' => e = .returned (.int .i64 1) ∧ Below w.heap.size w w') := Lib.hid (fun w => choose_any 0 ⟨1, 3, 0⟩ ⟨2, 3, 1⟩ w)
  have HL8 : Hid (∀ w, Calls Try.prog 38 #[.agg #[.int .i64 3, .int .i64 0, .int .i64 0, .int .i64 0, .int .i64 1, .int .i64 0, .int .i64 1, .int .i64 2, .int .i64 3, .int .i64 4, .int .i64 16, .int .i64 16, .int .i64 16], .int .i64 1] w fun e w' => e = .returned (.int .i64 8) ∧ Below w.heap.size w w') := Lib.hid (fun w => status_any (lay3 1) 1 w (lay3_ok 1))
  have HCe : Hid (∀ w a c, HasInts w (.slice a 16 c) zB → Calls Try.prog 20 #[.agg #[.slice a 16 c], .int .i64 8] w fun e w' => e = .returned (.int .i64 19) ∧ Below w.heap.size w w') := Lib.hid (fun w a c h => cell16_any _ zB 8 (by simp [zB, zA, laidZ]) w h)
  have hq1 : ∀ w, (binOp .eql 35 (.agg #[.int .i64 2, .int .i64 0, .int .i64 0, .int .i64 0, .bool false, .bool false, .int .i64 0]) (.agg #[.int .i64 2, .int .i64 0, .int .i64 0, .int .i64 0, .bool false, .bool false, .int .i64 0])).run Try.prog w = .ok (.bool true) w := fun _ => by kernel_rfl
  have hq2 : ∀ w, (binOp .eql 35 (.agg #[.int .i64 1, .int .i64 0, .int .i64 0, .int .i64 0, .bool false, .bool true, .int .i64 0]) (.agg #[.int .i64 1, .int .i64 0, .int .i64 0, .int .i64 0, .bool false, .bool true, .int .i64 0])).run Try.prog w = .ok (.bool true) w := fun _ => by kernel_rfl
  go_enter Try.func29, Try.ntmps29
  go_wp2_with fail
  ((with_reducible refine (HWh.out _).mono ?_); rintro e w1 ⟨rfl, hb⟩)
  have HW := Lib.hid (below_alloc2 hb)
  have zz : w.heap.size + 2 ≤ w1.heap.size := by have := hb.size; (try simp at this); omega
  have caq0 : w1.cell? ⟨w.heap.size, 0, none⟩ = some (.int .i64 1) := cel_below hb (cell_alloc _ (by rw [World.cell?_alloc_at _ _ _ _ (by simp)]; rfl))
  have caq1 : w1.cell? ⟨w.heap.size, 1, none⟩ = some (.int .i64 3) := cel_below hb (cell_alloc _ (by rw [World.cell?_alloc_at _ _ _ _ (by simp)]; rfl))
  have caq2 : w1.cell? ⟨w.heap.size, 2, none⟩ = some (.int .i64 0) := cel_below hb (cell_alloc _ (by rw [World.cell?_alloc_at _ _ _ _ (by simp)]; rfl))
  have z0 : w.heap.size < w1.heap.size := by omega
  have cbq0 : w1.cell? ⟨w.heap.size + 1, 0, none⟩ = some (.int .i64 2) := cel_below hb (by rw [World.cell?_alloc_at _ _ _ _ (by simp)]; rfl)
  have cbq1 : w1.cell? ⟨w.heap.size + 1, 1, none⟩ = some (.int .i64 3) := cel_below hb (by rw [World.cell?_alloc_at _ _ _ _ (by simp)]; rfl)
  have cbq2 : w1.cell? ⟨w.heap.size + 1, 2, none⟩ = some (.int .i64 1) := cel_below hb (by rw [World.cell?_alloc_at _ _ _ _ (by simp)]; rfl)
  have z1 : w.heap.size + 1 < w1.heap.size := by omega
  clear hb zz
  go_upto_region 4 with fail
  obtain ⟨wr2, hwr⟩ : ∃ W, W = w1.alloc (.cells #[.int .i64 3, .int .i64 0, .int .i64 0, .int .i64 0, .int .i64 1, .int .i64 0, .int .i64 1, .int .i64 2, .int .i64 3, .int .i64 4, .int .i64 16, .int .i64 16, .int .i64 16] 41) := ⟨_, rfl⟩
  rw [← hwr]
  have hb : Below w1.heap.size w1 wr2 := by rw [hwr]; exact (Below.alloc (Below.refl _ w1) (by first | exact Nat.le_refl _ | (simp; omega) | simp) _)
  have zz : w1.heap.size + 1 ≤ wr2.heap.size := by rw [hwr]; simp
  replace HW := Lib.hid (below_step HW.out hb)
  replace caq0 : wr2.cell? ⟨w.heap.size, 0, none⟩ = some (.int .i64 1) := cel_below hb caq0
  replace caq1 : wr2.cell? ⟨w.heap.size, 1, none⟩ = some (.int .i64 3) := cel_below hb caq1
  replace caq2 : wr2.cell? ⟨w.heap.size, 2, none⟩ = some (.int .i64 0) := cel_below hb caq2
  replace cbq0 : wr2.cell? ⟨w.heap.size + 1, 0, none⟩ = some (.int .i64 2) := cel_below hb cbq0
  replace cbq1 : wr2.cell? ⟨w.heap.size + 1, 1, none⟩ = some (.int .i64 3) := cel_below hb cbq1
  replace cbq2 : wr2.cell? ⟨w.heap.size + 1, 2, none⟩ = some (.int .i64 1) := cel_below hb cbq2
  replace z0 : w.heap.size < wr2.heap.size := by omega
  replace z1 : w.heap.size + 1 < wr2.heap.size := by omega
  have lq0 : wr2.cell? ⟨w1.heap.size, 0, none⟩ = some (.int .i64 3) := by rw [hwr]; exact by rw [World.cell?_alloc_at _ _ _ _ (by simp)]; rfl
  have lq1 : wr2.cell? ⟨w1.heap.size, 1, none⟩ = some (.int .i64 0) := by rw [hwr]; exact by rw [World.cell?_alloc_at _ _ _ _ (by simp)]; rfl
  have lq2 : wr2.cell? ⟨w1.heap.size, 2, none⟩ = some (.int .i64 0) := by rw [hwr]; exact by rw [World.cell?_alloc_at _ _ _ _ (by simp)]; rfl
  have lq3 : wr2.cell? ⟨w1.heap.size, 3, none⟩ = some (.int .i64 0) := by rw [hwr]; exact by rw [World.cell?_alloc_at _ _ _ _ (by simp)]; rfl
  have lq4 : wr2.cell? ⟨w1.heap.size, 4, none⟩ = some (.int .i64 1) := by rw [hwr]; exact by rw [World.cell?_alloc_at _ _ _ _ (by simp)]; rfl
  have lq5 : wr2.cell? ⟨w1.heap.size, 5, none⟩ = some (.int .i64 0) := by rw [hwr]; exact by rw [World.cell?_alloc_at _ _ _ _ (by simp)]; rfl
  have lq6 : wr2.cell? ⟨w1.heap.size, 6, none⟩ = some (.int .i64 1) := by rw [hwr]; exact by rw [World.cell?_alloc_at _ _ _ _ (by simp)]; rfl
  have lq7 : wr2.cell? ⟨w1.heap.size, 7, none⟩ = some (.int .i64 2) := by rw [hwr]; exact by rw [World.cell?_alloc_at _ _ _ _ (by simp)]; rfl
  have lq8 : wr2.cell? ⟨w1.heap.size, 8, none⟩ = some (.int .i64 3) := by rw [hwr]; exact by rw [World.cell?_alloc_at _ _ _ _ (by simp)]; rfl
  have lq9 : wr2.cell? ⟨w1.heap.size, 9, none⟩ = some (.int .i64 4) := by rw [hwr]; exact by rw [World.cell?_alloc_at _ _ _ _ (by simp)]; rfl
  have lq10 : wr2.cell? ⟨w1.heap.size, 10, none⟩ = some (.int .i64 16) := by rw [hwr]; exact by rw [World.cell?_alloc_at _ _ _ _ (by simp)]; rfl
  have lq11 : wr2.cell? ⟨w1.heap.size, 11, none⟩ = some (.int .i64 16) := by rw [hwr]; exact by rw [World.cell?_alloc_at _ _ _ _ (by simp)]; rfl
  have lq12 : wr2.cell? ⟨w1.heap.size, 12, none⟩ = some (.int .i64 16) := by rw [hwr]; exact by rw [World.cell?_alloc_at _ _ _ _ (by simp)]; rfl
  have z2 : w1.heap.size < wr2.heap.size := by omega
  clear hb zz hwr
  have HWr := Lib.hid HW.out
  go_cut [4] (fun s4 wx => ∃ (g : Nat) (am : Option Addr) (cm : Nat), s4 = .pointer (some ⟨g, 0, none⟩) ∧ g < wx.heap.size ∧ wr2.heap.size ≤ g ∧ wx.cell? ⟨g, 0, none⟩ = some (.slice am 16 cm) ∧ HasInts wx (.slice am 16 cm) zA ∧ Below wr2.heap.size wr2 wx)
  case first =>
    have HW := Lib.hid (Below.refl wr2.heap.size wr2)
    have HWS := Lib.hid (Nat.le_refl wr2.heap.size)
    refine wp_region_held_drew (S := fun W => W.cell? ⟨w.heap.size + 1, 0, none⟩ = some (.int .i64 2) ∧ W.cell? ⟨w.heap.size + 1, 1, none⟩ = some (.int .i64 3) ∧ W.cell? ⟨w.heap.size + 1, 2, none⟩ = some (.int .i64 1) ∧ W.cell? ⟨w1.heap.size, 0, none⟩ = some (.int .i64 3) ∧ W.cell? ⟨w1.heap.size, 1, none⟩ = some (.int .i64 0) ∧ W.cell? ⟨w1.heap.size, 2, none⟩ = some (.int .i64 0) ∧ W.cell? ⟨w1.heap.size, 3, none⟩ = some (.int .i64 0) ∧ W.cell? ⟨w1.heap.size, 4, none⟩ = some (.int .i64 1) ∧ W.cell? ⟨w1.heap.size, 5, none⟩ = some (.int .i64 0) ∧ W.cell? ⟨w1.heap.size, 6, none⟩ = some (.int .i64 1) ∧ W.cell? ⟨w1.heap.size, 7, none⟩ = some (.int .i64 2) ∧ W.cell? ⟨w1.heap.size, 8, none⟩ = some (.int .i64 3) ∧ W.cell? ⟨w1.heap.size, 9, none⟩ = some (.int .i64 4) ∧ W.cell? ⟨w1.heap.size, 10, none⟩ = some (.int .i64 16) ∧ W.cell? ⟨w1.heap.size, 11, none⟩ = some (.int .i64 16) ∧ W.cell? ⟨w1.heap.size, 12, none⟩ = some (.int .i64 16)) (by kernel_rfl) ?_ (fun hHeld => ?_)
    · (try dsimp only); exact ⟨by first | assumption | go_simp, by first | assumption | go_simp, by first | assumption | go_simp, by first | assumption | go_simp, by first | assumption | go_simp, by first | assumption | go_simp, by first | assumption | go_simp, by first | assumption | go_simp, by first | assumption | go_simp, by first | assumption | go_simp, by first | assumption | go_simp, by first | assumption | go_simp, by first | assumption | go_simp, by first | assumption | go_simp, by first | assumption | go_simp, by first | assumption | go_simp⟩
    replace HW := Lib.hid (show Below _ _ (World.drew wr2) from below_drews HW.out 1)
    obtain ⟨wy0, hwy⟩ : ∃ W, W = World.drew wr2 := ⟨_, rfl⟩
    rw [← hwy] at HW ⊢
    have hHeld2 := hHeld
    rw [← hwy] at hHeld2
    clear hHeld
    have LO : wr2.heap.size ≤ wy0.heap.size := by rw [hwy]; exact Nat.le_refl _
    have hb : Below wr2.heap.size wr2 wy0 := by rw [hwy]; exact below_drews (Below.refl _ _) 1
    clear hb hwy
    obtain ⟨s0, s1, s2, s3, s4, s5, s6, s7, s8, s9, s10, s11, s12, s13, s14, s15⟩ := hHeld2
    have hHeld := And.intro s0 (And.intro s1 (And.intro s2 (And.intro s3 (And.intro s4 (And.intro s5 (And.intro s6 (And.intro s7 (And.intro s8 (And.intro s9 (And.intro s10 (And.intro s11 (And.intro s12 (And.intro s13 (And.intro s14 (s15)))))))))))))))
    refine tkA 0 (by kernel_rfl) (by assumption) ⟨_, _, ?_, rfl, rfl, ?_, fun _ _ _ h => h, ?_⟩; rotate_left; · intro w hSw; (try dsimp only at hSw); go_simp; (try with_reducible rfl)
    (try simp only [Act.put, List.setIfInBounds_toArray, List.set_cons_zero, List.set_cons_succ])
    refine tkA 2 (by kernel_rfl) (by assumption) ⟨_, _, ?_, rfl, rfl, ?_, fun _ _ _ h => h, ?_⟩; rotate_left; · intro w hSw; (try dsimp only at hSw); go_simp; (try with_reducible rfl)
    (try simp only [Act.put, List.setIfInBounds_toArray, List.set_cons_zero, List.set_cons_succ])
    clear hHeld
    refine wpAnyH_ready (rs := [1, 4]) (by kernel_rfl) (by simp) ?_
    refine AllReadyH.cons (o := ?oi1) ?hi1 (fun K hK => ?rest1) (AllReadyH.cons (o := ?oi2) ?hi2 (fun K hK => ?rest2) AllReadyH.nil)
    (case hi1 => (simp only [List.getElem?_toArray, List.getElem?_cons_succ, List.getElem?_cons_zero]; rfl))
    (case hi2 => (simp only [List.getElem?_toArray, List.getElem?_cons_succ, List.getElem?_cons_zero]; rfl))
    case rest1 =>
     go_simp
     ((with_reducible refine (HSt.out _).mono ?_); rintro e wz3 ⟨rfl, hb⟩)
     replace HW := Lib.hid (below_step HW.out hb)
     replace s0 := cel_below hb s0
     replace s1 := cel_below hb s1
     replace s2 := cel_below hb s2
     replace s3 := cel_below hb s3
     replace s4 := cel_below hb s4
     replace s5 := cel_below hb s5
     replace s6 := cel_below hb s6
     replace s7 := cel_below hb s7
     replace s8 := cel_below hb s8
     replace s9 := cel_below hb s9
     replace s10 := cel_below hb s10
     replace s11 := cel_below hb s11
     replace s12 := cel_below hb s12
     replace s13 := cel_below hb s13
     replace s14 := cel_below hb s14
     replace s15 := cel_below hb s15
     replace LO := Nat.le_trans LO hb.size
     clear hb
     refine hK.out _ _ ?_ (fun _ => ?_)
     · (try dsimp only); exact ⟨s0, s1, s2, s3, s4, s5, s6, s7, s8, s9, s10, s11, s12, s13, s14, s15⟩
     clear hK K
     (try simp only [Act.put, List.setIfInBounds_toArray, List.set_cons_zero, List.set_cons_succ])
     refine wpAnyH_ready (rs := [3, 4]) (by kernel_rfl) (by simp) ?_
     refine AllReadyH.cons (o := ?oi4) ?hi4 (fun K hK => ?rest4) (AllReadyH.cons (o := ?oi5) ?hi5 (fun K hK => ?rest5) AllReadyH.nil)
     (case hi4 => (simp only [List.getElem?_toArray, List.getElem?_cons_succ, List.getElem?_cons_zero]; rfl))
     (case hi5 => (simp only [List.getElem?_toArray, List.getElem?_cons_succ, List.getElem?_cons_zero]; rfl))
     case rest4 =>
      go_simp
      ((with_reducible refine (HLd.out _).mono ?_); rintro e wz6 ⟨am, cm, rfl, hq, hb⟩)
      replace HW := Lib.hid (below_step HW.out hb)
      replace s0 := cel_below hb s0
      replace s1 := cel_below hb s1
      replace s2 := cel_below hb s2
      replace s3 := cel_below hb s3
      replace s4 := cel_below hb s4
      replace s5 := cel_below hb s5
      replace s6 := cel_below hb s6
      replace s7 := cel_below hb s7
      replace s8 := cel_below hb s8
      replace s9 := cel_below hb s9
      replace s10 := cel_below hb s10
      replace s11 := cel_below hb s11
      replace s12 := cel_below hb s12
      replace s13 := cel_below hb s13
      replace s14 := cel_below hb s14
      replace s15 := cel_below hb s15
      have HM1 := Lib.hid hq
      clear hq
      replace LO := Nat.le_trans LO hb.size
      clear hb
      refine hK.out _ _ ?_ (fun _ => ?_)
      · (try dsimp only); exact ⟨s0, s1, s2, s3, s4, s5, s6, s7, s8, s9, s10, s11, s12, s13, s14, s15⟩
      clear hK K
      (try simp only [Act.put, List.setIfInBounds_toArray, List.set_cons_zero, List.set_cons_succ])
      refine wpAnyH_ready (rs := [4]) (by kernel_rfl) (by simp) ?_
      refine AllReadyH.cons (o := ?oi7) ?hi7 (fun K hK => ?rest7) AllReadyH.nil
      (case hi7 => (simp only [List.getElem?_toArray, List.getElem?_cons_succ, List.getElem?_cons_zero]; rfl))
      go_simp
      obtain ⟨wz8, hwy⟩ : ∃ W, W = wz6.alloc (.cells #[.slice none 0 0] 55) := ⟨_, rfl⟩
      rw [← hwy]
      have hb : Below wz6.heap.size wz6 wz8 := by rw [hwy]; exact below_new1 _ _
      have mc0 : wz8.cell? ⟨wz6.heap.size, 0, none⟩ = some (.slice none 0 0) := by rw [hwy, World.cell?_alloc_at _ _ _ _ rfl]; rfl
      have mf0 : wz8.frozen? ⟨wz6.heap.size, 0, none⟩ = false := by rw [hwy]; exact World.frozen?_alloc_at _ _ _ _ rfl
      have mt : Tag wz8 wz6.heap.size 55 := by rw [hwy]; exact tag_new _ _ _
      have mz : wz6.heap.size < wz8.heap.size := by rw [hwy]; simp
      have ml := LO
      replace HW := Lib.hid (below_step HW.out hb)
      replace s0 := cel_below hb s0
      replace s1 := cel_below hb s1
      replace s2 := cel_below hb s2
      replace s3 := cel_below hb s3
      replace s4 := cel_below hb s4
      replace s5 := cel_below hb s5
      replace s6 := cel_below hb s6
      replace s7 := cel_below hb s7
      replace s8 := cel_below hb s8
      replace s9 := cel_below hb s9
      replace s10 := cel_below hb s10
      replace s11 := cel_below hb s11
      replace s12 := cel_below hb s12
      replace s13 := cel_below hb s13
      replace s14 := cel_below hb s14
      replace s15 := cel_below hb s15
      replace HM1 := Lib.hid (hasInts_keep HM1.out hb)
      replace LO := Nat.le_trans LO hb.size
      clear hb hwy
      refine hK.out _ _ ?_ (fun _ => ?_)
      · (try dsimp only); exact ⟨s0, s1, s2, s3, s4, s5, s6, s7, s8, s9, s10, s11, s12, s13, s14, s15⟩
      clear hK K
      (try simp only [Act.put, List.setIfInBounds_toArray, List.set_cons_zero, List.set_cons_succ])
      refine wpAnyH_ready (rs := [5]) (by kernel_rfl) (by simp) ?_
      refine AllReadyH.cons (o := ?oi9) ?hi9 (fun K hK => ?rest9) AllReadyH.nil
      (case hi9 => (simp only [List.getElem?_toArray, List.getElem?_cons_succ, List.getElem?_cons_zero]; rfl))
      go_simp
      obtain ⟨wz10, hwy⟩ : ∃ W, W = (wz8.setCell ⟨wz6.heap.size, 0, none⟩ (.slice am 16 cm)) := ⟨_, rfl⟩
      rw [← hwy]
      have kp : ∀ {b' o' : Nat} {u : Value}, wz8.cell? ⟨b', o', none⟩ = some u → wz6.heap.size ≠ b' → wz10.cell? ⟨b', o', none⟩ = some u := fun h hn => by rw [hwy]; exact keepA_ (h) (Or.inl hn)
      replace s0 := kp s0 (by omega)
      replace s1 := kp s1 (by omega)
      replace s2 := kp s2 (by omega)
      replace s3 := kp s3 (by omega)
      replace s4 := kp s4 (by omega)
      replace s5 := kp s5 (by omega)
      replace s6 := kp s6 (by omega)
      replace s7 := kp s7 (by omega)
      replace s8 := kp s8 (by omega)
      replace s9 := kp s9 (by omega)
      replace s10 := kp s10 (by omega)
      replace s11 := kp s11 (by omega)
      replace s12 := kp s12 (by omega)
      replace s13 := kp s13 (by omega)
      replace s14 := kp s14 (by omega)
      replace s15 := kp s15 (by omega)
      clear kp
      replace HM1 := Lib.hid (hasInts_setS HM1.out mc0 (u := .slice am 16 cm))
      rw [← hwy] at HM1
      have md0 : wz10.cell? ⟨wz6.heap.size, 0, none⟩ = some (.slice am 16 cm) := by rw [hwy]; exact World.cell?_setCell_same _ _ _ mc0
      replace mt : Tag wz10 wz6.heap.size 55 := by rw [hwy]; exact (tag_set mt _ _)
      replace mf0 : wz10.frozen? ⟨wz6.heap.size, 0, none⟩ = false := by rw [hwy]; simpa using mf0
      replace HW := Lib.hid (Below.setCell (p := ⟨wz6.heap.size, 0, none⟩) HW.out (by have := HWS.out; dsimp only; omega) (.slice am 16 cm))
      rw [← hwy] at HW
      have hsz : wz10.heap.size = wz8.heap.size := by rw [hwy]; simp
      replace mz : wz6.heap.size < wz10.heap.size := by omega
      replace LO : _ ≤ wz10.heap.size := Nat.le_trans LO (Nat.le_of_eq hsz.symm)
      clear hsz hwy mc0
      have mc0 := md0
      clear md0
      refine hK.out _ _ ?_ (fun _ => ?_)
      · (try dsimp only); exact ⟨s0, s1, s2, s3, s4, s5, s6, s7, s8, s9, s10, s11, s12, s13, s14, s15⟩
      clear hK K
      (try simp only [Act.put, List.setIfInBounds_toArray, List.set_cons_zero, List.set_cons_succ])
      refine wpAnyH_done (by kernel_rfl) ?_ _
      go_wp2_with fail
      go_meet
      exact ⟨wz6.heap.size, am, cm, rfl, mz, ml, mc0, HM1.out, HW.out⟩
     case rest5 =>
      go_simp
      obtain ⟨wz11, hwy⟩ : ∃ W, W = wz3.alloc (.cells #[.slice none 0 0] 55) := ⟨_, rfl⟩
      rw [← hwy]
      have hb : Below wz3.heap.size wz3 wz11 := by rw [hwy]; exact below_new1 _ _
      have mc0 : wz11.cell? ⟨wz3.heap.size, 0, none⟩ = some (.slice none 0 0) := by rw [hwy, World.cell?_alloc_at _ _ _ _ rfl]; rfl
      have mf0 : wz11.frozen? ⟨wz3.heap.size, 0, none⟩ = false := by rw [hwy]; exact World.frozen?_alloc_at _ _ _ _ rfl
      have mt : Tag wz11 wz3.heap.size 55 := by rw [hwy]; exact tag_new _ _ _
      have mz : wz3.heap.size < wz11.heap.size := by rw [hwy]; simp
      have ml := LO
      replace HW := Lib.hid (below_step HW.out hb)
      replace s0 := cel_below hb s0
      replace s1 := cel_below hb s1
      replace s2 := cel_below hb s2
      replace s3 := cel_below hb s3
      replace s4 := cel_below hb s4
      replace s5 := cel_below hb s5
      replace s6 := cel_below hb s6
      replace s7 := cel_below hb s7
      replace s8 := cel_below hb s8
      replace s9 := cel_below hb s9
      replace s10 := cel_below hb s10
      replace s11 := cel_below hb s11
      replace s12 := cel_below hb s12
      replace s13 := cel_below hb s13
      replace s14 := cel_below hb s14
      replace s15 := cel_below hb s15
      replace LO := Nat.le_trans LO hb.size
      clear hb hwy
      refine hK.out _ _ ?_ (fun _ => ?_)
      · (try dsimp only); exact ⟨s0, s1, s2, s3, s4, s5, s6, s7, s8, s9, s10, s11, s12, s13, s14, s15⟩
      clear hK K
      (try simp only [Act.put, List.setIfInBounds_toArray, List.set_cons_zero, List.set_cons_succ])
      refine wpAnyH_ready (rs := [3]) (by kernel_rfl) (by simp) ?_
      refine AllReadyH.cons (o := ?oi12) ?hi12 (fun K hK => ?rest12) AllReadyH.nil
      (case hi12 => (simp only [List.getElem?_toArray, List.getElem?_cons_succ, List.getElem?_cons_zero]; rfl))
      go_simp
      ((with_reducible refine (HLd.out _).mono ?_); rintro e wz13 ⟨am, cm, rfl, hq, hb⟩)
      replace HW := Lib.hid (below_step HW.out hb)
      replace s0 := cel_below hb s0
      replace s1 := cel_below hb s1
      replace s2 := cel_below hb s2
      replace s3 := cel_below hb s3
      replace s4 := cel_below hb s4
      replace s5 := cel_below hb s5
      replace s6 := cel_below hb s6
      replace s7 := cel_below hb s7
      replace s8 := cel_below hb s8
      replace s9 := cel_below hb s9
      replace s10 := cel_below hb s10
      replace s11 := cel_below hb s11
      replace s12 := cel_below hb s12
      replace s13 := cel_below hb s13
      replace s14 := cel_below hb s14
      replace s15 := cel_below hb s15
      replace mc0 := cel_below hb mc0
      replace mf0 := fro_below hb mz mf0
      replace mz := lt_below hb mz
      replace mt := tag_below mt hb
      have HM1 := Lib.hid hq
      clear hq
      replace LO := Nat.le_trans LO hb.size
      clear hb
      refine hK.out _ _ ?_ (fun _ => ?_)
      · (try dsimp only); exact ⟨s0, s1, s2, s3, s4, s5, s6, s7, s8, s9, s10, s11, s12, s13, s14, s15⟩
      clear hK K
      (try simp only [Act.put, List.setIfInBounds_toArray, List.set_cons_zero, List.set_cons_succ])
      refine wpAnyH_ready (rs := [5]) (by kernel_rfl) (by simp) ?_
      refine AllReadyH.cons (o := ?oi14) ?hi14 (fun K hK => ?rest14) AllReadyH.nil
      (case hi14 => (simp only [List.getElem?_toArray, List.getElem?_cons_succ, List.getElem?_cons_zero]; rfl))
      go_simp
      obtain ⟨wz15, hwy⟩ : ∃ W, W = (wz13.setCell ⟨wz3.heap.size, 0, none⟩ (.slice am 16 cm)) := ⟨_, rfl⟩
      rw [← hwy]
      have kp : ∀ {b' o' : Nat} {u : Value}, wz13.cell? ⟨b', o', none⟩ = some u → wz3.heap.size ≠ b' → wz15.cell? ⟨b', o', none⟩ = some u := fun h hn => by rw [hwy]; exact keepA_ (h) (Or.inl hn)
      replace s0 := kp s0 (by omega)
      replace s1 := kp s1 (by omega)
      replace s2 := kp s2 (by omega)
      replace s3 := kp s3 (by omega)
      replace s4 := kp s4 (by omega)
      replace s5 := kp s5 (by omega)
      replace s6 := kp s6 (by omega)
      replace s7 := kp s7 (by omega)
      replace s8 := kp s8 (by omega)
      replace s9 := kp s9 (by omega)
      replace s10 := kp s10 (by omega)
      replace s11 := kp s11 (by omega)
      replace s12 := kp s12 (by omega)
      replace s13 := kp s13 (by omega)
      replace s14 := kp s14 (by omega)
      replace s15 := kp s15 (by omega)
      clear kp
      replace HM1 := Lib.hid (hasInts_setS HM1.out mc0 (u := .slice am 16 cm))
      rw [← hwy] at HM1
      have md0 : wz15.cell? ⟨wz3.heap.size, 0, none⟩ = some (.slice am 16 cm) := by rw [hwy]; exact World.cell?_setCell_same _ _ _ mc0
      replace mt : Tag wz15 wz3.heap.size 55 := by rw [hwy]; exact (tag_set mt _ _)
      replace mf0 : wz15.frozen? ⟨wz3.heap.size, 0, none⟩ = false := by rw [hwy]; simpa using mf0
      replace HW := Lib.hid (Below.setCell (p := ⟨wz3.heap.size, 0, none⟩) HW.out (by have := HWS.out; dsimp only; omega) (.slice am 16 cm))
      rw [← hwy] at HW
      have hsz : wz15.heap.size = wz13.heap.size := by rw [hwy]; simp
      replace mz : wz3.heap.size < wz15.heap.size := by omega
      replace LO : _ ≤ wz15.heap.size := Nat.le_trans LO (Nat.le_of_eq hsz.symm)
      clear hsz hwy mc0
      have mc0 := md0
      clear md0
      refine hK.out _ _ ?_ (fun _ => ?_)
      · (try dsimp only); exact ⟨s0, s1, s2, s3, s4, s5, s6, s7, s8, s9, s10, s11, s12, s13, s14, s15⟩
      clear hK K
      (try simp only [Act.put, List.setIfInBounds_toArray, List.set_cons_zero, List.set_cons_succ])
      refine wpAnyH_done (by kernel_rfl) ?_ _
      go_wp2_with fail
      go_meet
      exact ⟨wz3.heap.size, am, cm, rfl, mz, ml, mc0, HM1.out, HW.out⟩
    case rest2 =>
     go_simp
     obtain ⟨wz16, hwy⟩ : ∃ W, W = wy0.alloc (.cells #[.slice none 0 0] 55) := ⟨_, rfl⟩
     rw [← hwy]
     have hb : Below wy0.heap.size wy0 wz16 := by rw [hwy]; exact below_new1 _ _
     have mc0 : wz16.cell? ⟨wy0.heap.size, 0, none⟩ = some (.slice none 0 0) := by rw [hwy, World.cell?_alloc_at _ _ _ _ rfl]; rfl
     have mf0 : wz16.frozen? ⟨wy0.heap.size, 0, none⟩ = false := by rw [hwy]; exact World.frozen?_alloc_at _ _ _ _ rfl
     have mt : Tag wz16 wy0.heap.size 55 := by rw [hwy]; exact tag_new _ _ _
     have mz : wy0.heap.size < wz16.heap.size := by rw [hwy]; simp
     have ml := LO
     replace HW := Lib.hid (below_step HW.out hb)
     replace s0 := cel_below hb s0
     replace s1 := cel_below hb s1
     replace s2 := cel_below hb s2
     replace s3 := cel_below hb s3
     replace s4 := cel_below hb s4
     replace s5 := cel_below hb s5
     replace s6 := cel_below hb s6
     replace s7 := cel_below hb s7
     replace s8 := cel_below hb s8
     replace s9 := cel_below hb s9
     replace s10 := cel_below hb s10
     replace s11 := cel_below hb s11
     replace s12 := cel_below hb s12
     replace s13 := cel_below hb s13
     replace s14 := cel_below hb s14
     replace s15 := cel_below hb s15
     replace LO := Nat.le_trans LO hb.size
     clear hb hwy
     refine hK.out _ _ ?_ (fun _ => ?_)
     · (try dsimp only); exact ⟨s0, s1, s2, s3, s4, s5, s6, s7, s8, s9, s10, s11, s12, s13, s14, s15⟩
     clear hK K
     (try simp only [Act.put, List.setIfInBounds_toArray, List.set_cons_zero, List.set_cons_succ])
     refine wpAnyH_ready (rs := [1]) (by kernel_rfl) (by simp) ?_
     refine AllReadyH.cons (o := ?oi17) ?hi17 (fun K hK => ?rest17) AllReadyH.nil
     (case hi17 => (simp only [List.getElem?_toArray, List.getElem?_cons_succ, List.getElem?_cons_zero]; rfl))
     go_simp
     ((with_reducible refine (HSt.out _).mono ?_); rintro e wz18 ⟨rfl, hb⟩)
     replace HW := Lib.hid (below_step HW.out hb)
     replace s0 := cel_below hb s0
     replace s1 := cel_below hb s1
     replace s2 := cel_below hb s2
     replace s3 := cel_below hb s3
     replace s4 := cel_below hb s4
     replace s5 := cel_below hb s5
     replace s6 := cel_below hb s6
     replace s7 := cel_below hb s7
     replace s8 := cel_below hb s8
     replace s9 := cel_below hb s9
     replace s10 := cel_below hb s10
     replace s11 := cel_below hb s11
     replace s12 := cel_below hb s12
     replace s13 := cel_below hb s13
     replace s14 := cel_below hb s14
     replace s15 := cel_below hb s15
     replace mc0 := cel_below hb mc0
     replace mf0 := fro_below hb mz mf0
     replace mz := lt_below hb mz
     replace mt := tag_below mt hb
     replace LO := Nat.le_trans LO hb.size
     clear hb
     refine hK.out _ _ ?_ (fun _ => ?_)
     · (try dsimp only); exact ⟨s0, s1, s2, s3, s4, s5, s6, s7, s8, s9, s10, s11, s12, s13, s14, s15⟩
     clear hK K
     (try simp only [Act.put, List.setIfInBounds_toArray, List.set_cons_zero, List.set_cons_succ])
     refine wpAnyH_ready (rs := [3]) (by kernel_rfl) (by simp) ?_
     refine AllReadyH.cons (o := ?oi19) ?hi19 (fun K hK => ?rest19) AllReadyH.nil
     (case hi19 => (simp only [List.getElem?_toArray, List.getElem?_cons_succ, List.getElem?_cons_zero]; rfl))
     go_simp
     ((with_reducible refine (HLd.out _).mono ?_); rintro e wz20 ⟨am, cm, rfl, hq, hb⟩)
     replace HW := Lib.hid (below_step HW.out hb)
     replace s0 := cel_below hb s0
     replace s1 := cel_below hb s1
     replace s2 := cel_below hb s2
     replace s3 := cel_below hb s3
     replace s4 := cel_below hb s4
     replace s5 := cel_below hb s5
     replace s6 := cel_below hb s6
     replace s7 := cel_below hb s7
     replace s8 := cel_below hb s8
     replace s9 := cel_below hb s9
     replace s10 := cel_below hb s10
     replace s11 := cel_below hb s11
     replace s12 := cel_below hb s12
     replace s13 := cel_below hb s13
     replace s14 := cel_below hb s14
     replace s15 := cel_below hb s15
     replace mc0 := cel_below hb mc0
     replace mf0 := fro_below hb mz mf0
     replace mz := lt_below hb mz
     replace mt := tag_below mt hb
     have HM1 := Lib.hid hq
     clear hq
     replace LO := Nat.le_trans LO hb.size
     clear hb
     refine hK.out _ _ ?_ (fun _ => ?_)
     · (try dsimp only); exact ⟨s0, s1, s2, s3, s4, s5, s6, s7, s8, s9, s10, s11, s12, s13, s14, s15⟩
     clear hK K
     (try simp only [Act.put, List.setIfInBounds_toArray, List.set_cons_zero, List.set_cons_succ])
     refine wpAnyH_ready (rs := [5]) (by kernel_rfl) (by simp) ?_
     refine AllReadyH.cons (o := ?oi21) ?hi21 (fun K hK => ?rest21) AllReadyH.nil
     (case hi21 => (simp only [List.getElem?_toArray, List.getElem?_cons_succ, List.getElem?_cons_zero]; rfl))
     go_simp
     obtain ⟨wz22, hwy⟩ : ∃ W, W = (wz20.setCell ⟨wy0.heap.size, 0, none⟩ (.slice am 16 cm)) := ⟨_, rfl⟩
     rw [← hwy]
     have kp : ∀ {b' o' : Nat} {u : Value}, wz20.cell? ⟨b', o', none⟩ = some u → wy0.heap.size ≠ b' → wz22.cell? ⟨b', o', none⟩ = some u := fun h hn => by rw [hwy]; exact keepA_ (h) (Or.inl hn)
     replace s0 := kp s0 (by omega)
     replace s1 := kp s1 (by omega)
     replace s2 := kp s2 (by omega)
     replace s3 := kp s3 (by omega)
     replace s4 := kp s4 (by omega)
     replace s5 := kp s5 (by omega)
     replace s6 := kp s6 (by omega)
     replace s7 := kp s7 (by omega)
     replace s8 := kp s8 (by omega)
     replace s9 := kp s9 (by omega)
     replace s10 := kp s10 (by omega)
     replace s11 := kp s11 (by omega)
     replace s12 := kp s12 (by omega)
     replace s13 := kp s13 (by omega)
     replace s14 := kp s14 (by omega)
     replace s15 := kp s15 (by omega)
     clear kp
     replace HM1 := Lib.hid (hasInts_setS HM1.out mc0 (u := .slice am 16 cm))
     rw [← hwy] at HM1
     have md0 : wz22.cell? ⟨wy0.heap.size, 0, none⟩ = some (.slice am 16 cm) := by rw [hwy]; exact World.cell?_setCell_same _ _ _ mc0
     replace mt : Tag wz22 wy0.heap.size 55 := by rw [hwy]; exact (tag_set mt _ _)
     replace mf0 : wz22.frozen? ⟨wy0.heap.size, 0, none⟩ = false := by rw [hwy]; simpa using mf0
     replace HW := Lib.hid (Below.setCell (p := ⟨wy0.heap.size, 0, none⟩) HW.out (by have := HWS.out; dsimp only; omega) (.slice am 16 cm))
     rw [← hwy] at HW
     have hsz : wz22.heap.size = wz20.heap.size := by rw [hwy]; simp
     replace mz : wy0.heap.size < wz22.heap.size := by omega
     replace LO : _ ≤ wz22.heap.size := Nat.le_trans LO (Nat.le_of_eq hsz.symm)
     clear hsz hwy mc0
     have mc0 := md0
     clear md0
     refine hK.out _ _ ?_ (fun _ => ?_)
     · (try dsimp only); exact ⟨s0, s1, s2, s3, s4, s5, s6, s7, s8, s9, s10, s11, s12, s13, s14, s15⟩
     clear hK K
     (try simp only [Act.put, List.setIfInBounds_toArray, List.set_cons_zero, List.set_cons_succ])
     refine wpAnyH_done (by kernel_rfl) ?_ _
     go_wp2_with fail
     go_meet
     exact ⟨wy0.heap.size, am, cm, rfl, mz, ml, mc0, HM1.out, HW.out⟩
  case rest =>
    obtain ⟨g, am, cm, rfl, hgB, hg, hm, hM, hb⟩ := hcut
    have HM := Lib.hid hM
    replace HW := Lib.hid (below_step HWr.out hb)
    replace caq0 := cel_below hb caq0
    replace caq1 := cel_below hb caq1
    replace caq2 := cel_below hb caq2
    replace cbq0 := cel_below hb cbq0
    replace cbq1 := cel_below hb cbq1
    replace cbq2 := cel_below hb cbq2
    replace lq0 := cel_below hb lq0
    replace lq1 := cel_below hb lq1
    replace lq2 := cel_below hb lq2
    replace lq3 := cel_below hb lq3
    replace lq4 := cel_below hb lq4
    replace lq5 := cel_below hb lq5
    replace lq6 := cel_below hb lq6
    replace lq7 := cel_below hb lq7
    replace lq8 := cel_below hb lq8
    replace lq9 := cel_below hb lq9
    replace lq10 := cel_below hb lq10
    replace lq11 := cel_below hb lq11
    replace lq12 := cel_below hb lq12
    replace z0 := lt_below hb z0
    replace z1 := lt_below hb z1
    replace z2 := lt_below hb z2
    clear hb hM hg
    have mmq0 := hm
    clear hm
    have z3 := hgB
    clear hgB
    go_wp2_with fail
    ((with_reducible refine (HA1.out _ _ _ (hasInts_keep HM.out (Below.refl _ _))).mono ?_); rintro e w3 ⟨a1, c1, rfl, hq, hb⟩)
    replace HW := Lib.hid (below_step HW.out (hb))
    have zz : wc.heap.size + 0 ≤ w3.heap.size := by have := hb.size; (try simp at this); omega
    replace caq0 : w3.cell? ⟨w.heap.size, 0, none⟩ = some (.int .i64 1) := cel_below hb (caq0)
    replace caq1 : w3.cell? ⟨w.heap.size, 1, none⟩ = some (.int .i64 3) := cel_below hb (caq1)
    replace caq2 : w3.cell? ⟨w.heap.size, 2, none⟩ = some (.int .i64 0) := cel_below hb (caq2)
    replace cbq0 : w3.cell? ⟨w.heap.size + 1, 0, none⟩ = some (.int .i64 2) := cel_below hb (cbq0)
    replace cbq1 : w3.cell? ⟨w.heap.size + 1, 1, none⟩ = some (.int .i64 3) := cel_below hb (cbq1)
    replace cbq2 : w3.cell? ⟨w.heap.size + 1, 2, none⟩ = some (.int .i64 1) := cel_below hb (cbq2)
    replace lq0 : w3.cell? ⟨w1.heap.size, 0, none⟩ = some (.int .i64 3) := cel_below hb (lq0)
    replace lq1 : w3.cell? ⟨w1.heap.size, 1, none⟩ = some (.int .i64 0) := cel_below hb (lq1)
    replace lq2 : w3.cell? ⟨w1.heap.size, 2, none⟩ = some (.int .i64 0) := cel_below hb (lq2)
    replace lq3 : w3.cell? ⟨w1.heap.size, 3, none⟩ = some (.int .i64 0) := cel_below hb (lq3)
    replace lq4 : w3.cell? ⟨w1.heap.size, 4, none⟩ = some (.int .i64 1) := cel_below hb (lq4)
    replace lq5 : w3.cell? ⟨w1.heap.size, 5, none⟩ = some (.int .i64 0) := cel_below hb (lq5)
    replace lq6 : w3.cell? ⟨w1.heap.size, 6, none⟩ = some (.int .i64 1) := cel_below hb (lq6)
    replace lq7 : w3.cell? ⟨w1.heap.size, 7, none⟩ = some (.int .i64 2) := cel_below hb (lq7)
    replace lq8 : w3.cell? ⟨w1.heap.size, 8, none⟩ = some (.int .i64 3) := cel_below hb (lq8)
    replace lq9 : w3.cell? ⟨w1.heap.size, 9, none⟩ = some (.int .i64 4) := cel_below hb (lq9)
    replace lq10 : w3.cell? ⟨w1.heap.size, 10, none⟩ = some (.int .i64 16) := cel_below hb (lq10)
    replace lq11 : w3.cell? ⟨w1.heap.size, 11, none⟩ = some (.int .i64 16) := cel_below hb (lq11)
    replace lq12 : w3.cell? ⟨w1.heap.size, 12, none⟩ = some (.int .i64 16) := cel_below hb (lq12)
    replace mmq0 : w3.cell? ⟨g, 0, none⟩ = some (.slice am 16 cm) := cel_below hb (mmq0)
    replace z0 : w.heap.size < w3.heap.size := by omega
    replace z1 : w.heap.size + 1 < w3.heap.size := by omega
    replace z2 : w1.heap.size < w3.heap.size := by omega
    replace z3 : g < w3.heap.size := by omega
    clear hb zz
    have HN := Lib.hid hq
    clear hq HM
    go_wp2_with fail
    ((with_reducible refine (HA2.out _ _ _ (hasInts_keep HN.out (below_alloc2 (Below.refl _ _)))).mono ?_); rintro e w4 ⟨a2, c2, rfl, hq, hb⟩)
    replace HW := Lib.hid (below_step HW.out (below_alloc2 hb))
    have zz : w3.heap.size + 2 ≤ w4.heap.size := by have := hb.size; (try simp at this); omega
    replace caq0 : w4.cell? ⟨w.heap.size, 0, none⟩ = some (.int .i64 1) := cel_below hb (cell_alloc _ (cell_alloc _ (caq0)))
    replace caq1 : w4.cell? ⟨w.heap.size, 1, none⟩ = some (.int .i64 3) := cel_below hb (cell_alloc _ (cell_alloc _ (caq1)))
    replace caq2 : w4.cell? ⟨w.heap.size, 2, none⟩ = some (.int .i64 0) := cel_below hb (cell_alloc _ (cell_alloc _ (caq2)))
    replace cbq0 : w4.cell? ⟨w.heap.size + 1, 0, none⟩ = some (.int .i64 2) := cel_below hb (cell_alloc _ (cell_alloc _ (cbq0)))
    replace cbq1 : w4.cell? ⟨w.heap.size + 1, 1, none⟩ = some (.int .i64 3) := cel_below hb (cell_alloc _ (cell_alloc _ (cbq1)))
    replace cbq2 : w4.cell? ⟨w.heap.size + 1, 2, none⟩ = some (.int .i64 1) := cel_below hb (cell_alloc _ (cell_alloc _ (cbq2)))
    replace lq0 : w4.cell? ⟨w1.heap.size, 0, none⟩ = some (.int .i64 3) := cel_below hb (cell_alloc _ (cell_alloc _ (lq0)))
    replace lq1 : w4.cell? ⟨w1.heap.size, 1, none⟩ = some (.int .i64 0) := cel_below hb (cell_alloc _ (cell_alloc _ (lq1)))
    replace lq2 : w4.cell? ⟨w1.heap.size, 2, none⟩ = some (.int .i64 0) := cel_below hb (cell_alloc _ (cell_alloc _ (lq2)))
    replace lq3 : w4.cell? ⟨w1.heap.size, 3, none⟩ = some (.int .i64 0) := cel_below hb (cell_alloc _ (cell_alloc _ (lq3)))
    replace lq4 : w4.cell? ⟨w1.heap.size, 4, none⟩ = some (.int .i64 1) := cel_below hb (cell_alloc _ (cell_alloc _ (lq4)))
    replace lq5 : w4.cell? ⟨w1.heap.size, 5, none⟩ = some (.int .i64 0) := cel_below hb (cell_alloc _ (cell_alloc _ (lq5)))
    replace lq6 : w4.cell? ⟨w1.heap.size, 6, none⟩ = some (.int .i64 1) := cel_below hb (cell_alloc _ (cell_alloc _ (lq6)))
    replace lq7 : w4.cell? ⟨w1.heap.size, 7, none⟩ = some (.int .i64 2) := cel_below hb (cell_alloc _ (cell_alloc _ (lq7)))
    replace lq8 : w4.cell? ⟨w1.heap.size, 8, none⟩ = some (.int .i64 3) := cel_below hb (cell_alloc _ (cell_alloc _ (lq8)))
    replace lq9 : w4.cell? ⟨w1.heap.size, 9, none⟩ = some (.int .i64 4) := cel_below hb (cell_alloc _ (cell_alloc _ (lq9)))
    replace lq10 : w4.cell? ⟨w1.heap.size, 10, none⟩ = some (.int .i64 16) := cel_below hb (cell_alloc _ (cell_alloc _ (lq10)))
    replace lq11 : w4.cell? ⟨w1.heap.size, 11, none⟩ = some (.int .i64 16) := cel_below hb (cell_alloc _ (cell_alloc _ (lq11)))
    replace lq12 : w4.cell? ⟨w1.heap.size, 12, none⟩ = some (.int .i64 16) := cel_below hb (cell_alloc _ (cell_alloc _ (lq12)))
    replace mmq0 : w4.cell? ⟨g, 0, none⟩ = some (.slice am 16 cm) := cel_below hb (cell_alloc _ (cell_alloc _ (mmq0)))
    replace z0 : w.heap.size < w4.heap.size := by omega
    replace z1 : w.heap.size + 1 < w4.heap.size := by omega
    replace z2 : w1.heap.size < w4.heap.size := by omega
    replace z3 : g < w4.heap.size := by omega
    have uq0 : w4.cell? ⟨w3.heap.size, 0, none⟩ = some (.int .i64 2) := cel_below hb (cell_alloc _ (by rw [World.cell?_alloc_at _ _ _ _ (by simp)]; rfl))
    have uq1 : w4.cell? ⟨w3.heap.size, 1, none⟩ = some (.int .i64 0) := cel_below hb (cell_alloc _ (by rw [World.cell?_alloc_at _ _ _ _ (by simp)]; rfl))
    have uq2 : w4.cell? ⟨w3.heap.size, 2, none⟩ = some (.int .i64 0) := cel_below hb (cell_alloc _ (by rw [World.cell?_alloc_at _ _ _ _ (by simp)]; rfl))
    have uq3 : w4.cell? ⟨w3.heap.size, 3, none⟩ = some (.int .i64 0) := cel_below hb (cell_alloc _ (by rw [World.cell?_alloc_at _ _ _ _ (by simp)]; rfl))
    have uq4 : w4.cell? ⟨w3.heap.size, 4, none⟩ = some (.bool false) := cel_below hb (cell_alloc _ (by rw [World.cell?_alloc_at _ _ _ _ (by simp)]; rfl))
    have uq5 : w4.cell? ⟨w3.heap.size, 5, none⟩ = some (.bool false) := cel_below hb (cell_alloc _ (by rw [World.cell?_alloc_at _ _ _ _ (by simp)]; rfl))
    have uq6 : w4.cell? ⟨w3.heap.size, 6, none⟩ = some (.int .i64 0) := cel_below hb (cell_alloc _ (by rw [World.cell?_alloc_at _ _ _ _ (by simp)]; rfl))
    have z4 : w3.heap.size < w4.heap.size := by omega
    have nq0 : w4.cell? ⟨w3.heap.size + 1, 0, none⟩ = some (.slice a1 16 c1) := cel_below hb (by rw [World.cell?_alloc_at _ _ _ _ (by simp)]; rfl)
    have z5 : w3.heap.size + 1 < w4.heap.size := by omega
    have HN2 := Lib.hid (hasInts_keep HN.out (below_alloc2 hb))
    clear hb zz
    clear hq HN
    go_wp2_with fail
    ((with_reducible refine (HA3.out _ _ _ (hasInts_keep HN2.out (below_alloc2 (Below.refl _ _)))).mono ?_); rintro e w5 ⟨a3, c3, rfl, hq, hb⟩)
    replace HW := Lib.hid (below_step HW.out (below_alloc2 hb))
    have zz : w4.heap.size + 2 ≤ w5.heap.size := by have := hb.size; (try simp at this); omega
    replace caq0 : w5.cell? ⟨w.heap.size, 0, none⟩ = some (.int .i64 1) := cel_below hb (cell_alloc _ (cell_alloc _ (caq0)))
    replace caq1 : w5.cell? ⟨w.heap.size, 1, none⟩ = some (.int .i64 3) := cel_below hb (cell_alloc _ (cell_alloc _ (caq1)))
    replace caq2 : w5.cell? ⟨w.heap.size, 2, none⟩ = some (.int .i64 0) := cel_below hb (cell_alloc _ (cell_alloc _ (caq2)))
    replace cbq0 : w5.cell? ⟨w.heap.size + 1, 0, none⟩ = some (.int .i64 2) := cel_below hb (cell_alloc _ (cell_alloc _ (cbq0)))
    replace cbq1 : w5.cell? ⟨w.heap.size + 1, 1, none⟩ = some (.int .i64 3) := cel_below hb (cell_alloc _ (cell_alloc _ (cbq1)))
    replace cbq2 : w5.cell? ⟨w.heap.size + 1, 2, none⟩ = some (.int .i64 1) := cel_below hb (cell_alloc _ (cell_alloc _ (cbq2)))
    replace lq0 : w5.cell? ⟨w1.heap.size, 0, none⟩ = some (.int .i64 3) := cel_below hb (cell_alloc _ (cell_alloc _ (lq0)))
    replace lq1 : w5.cell? ⟨w1.heap.size, 1, none⟩ = some (.int .i64 0) := cel_below hb (cell_alloc _ (cell_alloc _ (lq1)))
    replace lq2 : w5.cell? ⟨w1.heap.size, 2, none⟩ = some (.int .i64 0) := cel_below hb (cell_alloc _ (cell_alloc _ (lq2)))
    replace lq3 : w5.cell? ⟨w1.heap.size, 3, none⟩ = some (.int .i64 0) := cel_below hb (cell_alloc _ (cell_alloc _ (lq3)))
    replace lq4 : w5.cell? ⟨w1.heap.size, 4, none⟩ = some (.int .i64 1) := cel_below hb (cell_alloc _ (cell_alloc _ (lq4)))
    replace lq5 : w5.cell? ⟨w1.heap.size, 5, none⟩ = some (.int .i64 0) := cel_below hb (cell_alloc _ (cell_alloc _ (lq5)))
    replace lq6 : w5.cell? ⟨w1.heap.size, 6, none⟩ = some (.int .i64 1) := cel_below hb (cell_alloc _ (cell_alloc _ (lq6)))
    replace lq7 : w5.cell? ⟨w1.heap.size, 7, none⟩ = some (.int .i64 2) := cel_below hb (cell_alloc _ (cell_alloc _ (lq7)))
    replace lq8 : w5.cell? ⟨w1.heap.size, 8, none⟩ = some (.int .i64 3) := cel_below hb (cell_alloc _ (cell_alloc _ (lq8)))
    replace lq9 : w5.cell? ⟨w1.heap.size, 9, none⟩ = some (.int .i64 4) := cel_below hb (cell_alloc _ (cell_alloc _ (lq9)))
    replace lq10 : w5.cell? ⟨w1.heap.size, 10, none⟩ = some (.int .i64 16) := cel_below hb (cell_alloc _ (cell_alloc _ (lq10)))
    replace lq11 : w5.cell? ⟨w1.heap.size, 11, none⟩ = some (.int .i64 16) := cel_below hb (cell_alloc _ (cell_alloc _ (lq11)))
    replace lq12 : w5.cell? ⟨w1.heap.size, 12, none⟩ = some (.int .i64 16) := cel_below hb (cell_alloc _ (cell_alloc _ (lq12)))
    replace mmq0 : w5.cell? ⟨g, 0, none⟩ = some (.slice am 16 cm) := cel_below hb (cell_alloc _ (cell_alloc _ (mmq0)))
    replace uq0 : w5.cell? ⟨w3.heap.size, 0, none⟩ = some (.int .i64 2) := cel_below hb (cell_alloc _ (cell_alloc _ (uq0)))
    replace uq1 : w5.cell? ⟨w3.heap.size, 1, none⟩ = some (.int .i64 0) := cel_below hb (cell_alloc _ (cell_alloc _ (uq1)))
    replace uq2 : w5.cell? ⟨w3.heap.size, 2, none⟩ = some (.int .i64 0) := cel_below hb (cell_alloc _ (cell_alloc _ (uq2)))
    replace uq3 : w5.cell? ⟨w3.heap.size, 3, none⟩ = some (.int .i64 0) := cel_below hb (cell_alloc _ (cell_alloc _ (uq3)))
    replace uq4 : w5.cell? ⟨w3.heap.size, 4, none⟩ = some (.bool false) := cel_below hb (cell_alloc _ (cell_alloc _ (uq4)))
    replace uq5 : w5.cell? ⟨w3.heap.size, 5, none⟩ = some (.bool false) := cel_below hb (cell_alloc _ (cell_alloc _ (uq5)))
    replace uq6 : w5.cell? ⟨w3.heap.size, 6, none⟩ = some (.int .i64 0) := cel_below hb (cell_alloc _ (cell_alloc _ (uq6)))
    replace nq0 : w5.cell? ⟨w3.heap.size + 1, 0, none⟩ = some (.slice a1 16 c1) := cel_below hb (cell_alloc _ (cell_alloc _ (nq0)))
    replace z0 : w.heap.size < w5.heap.size := by omega
    replace z1 : w.heap.size + 1 < w5.heap.size := by omega
    replace z2 : w1.heap.size < w5.heap.size := by omega
    replace z3 : g < w5.heap.size := by omega
    replace z4 : w3.heap.size < w5.heap.size := by omega
    replace z5 : w3.heap.size + 1 < w5.heap.size := by omega
    replace HN2 := Lib.hid (hasInts_keep HN2.out (below_step (Below.alloc (Below.alloc (Below.refl _ w4) (by first | exact Nat.le_refl _ | (simp; omega) | simp) _) (by first | exact Nat.le_refl _ | (simp; omega) | simp) _) hb))
    have vq0 : w5.cell? ⟨w4.heap.size, 0, none⟩ = some (.int .i64 2) := cel_below hb (cell_alloc _ (by rw [World.cell?_alloc_at _ _ _ _ (by simp)]; rfl))
    have vq1 : w5.cell? ⟨w4.heap.size, 1, none⟩ = some (.int .i64 0) := cel_below hb (cell_alloc _ (by rw [World.cell?_alloc_at _ _ _ _ (by simp)]; rfl))
    have vq2 : w5.cell? ⟨w4.heap.size, 2, none⟩ = some (.int .i64 0) := cel_below hb (cell_alloc _ (by rw [World.cell?_alloc_at _ _ _ _ (by simp)]; rfl))
    have vq3 : w5.cell? ⟨w4.heap.size, 3, none⟩ = some (.int .i64 0) := cel_below hb (cell_alloc _ (by rw [World.cell?_alloc_at _ _ _ _ (by simp)]; rfl))
    have vq4 : w5.cell? ⟨w4.heap.size, 4, none⟩ = some (.bool false) := cel_below hb (cell_alloc _ (by rw [World.cell?_alloc_at _ _ _ _ (by simp)]; rfl))
    have vq5 : w5.cell? ⟨w4.heap.size, 5, none⟩ = some (.bool false) := cel_below hb (cell_alloc _ (by rw [World.cell?_alloc_at _ _ _ _ (by simp)]; rfl))
    have vq6 : w5.cell? ⟨w4.heap.size, 6, none⟩ = some (.int .i64 0) := cel_below hb (cell_alloc _ (by rw [World.cell?_alloc_at _ _ _ _ (by simp)]; rfl))
    have z6 : w4.heap.size < w5.heap.size := by omega
    clear hb zz
    clear hq
    go_upto_region 8 with fail
    obtain ⟨wr6, hwr⟩ : ∃ W, W = (w5.alloc (.cells #[.int .i64 1, .int .i64 0, .int .i64 0, .int .i64 0, .bool false, .bool true, .int .i64 0] 35)).alloc (.cells #[.slice a3 16 c3] 55) := ⟨_, rfl⟩
    rw [← hwr]
    have hb : Below w5.heap.size w5 wr6 := by rw [hwr]; exact (Below.alloc (Below.alloc (Below.refl _ w5) (by first | exact Nat.le_refl _ | (simp; omega) | simp) _) (by first | exact Nat.le_refl _ | (simp; omega) | simp) _)
    have zz : w5.heap.size + 2 ≤ wr6.heap.size := by rw [hwr]; simp
    replace HW := Lib.hid (below_step HW.out hb)
    replace caq0 : wr6.cell? ⟨w.heap.size, 0, none⟩ = some (.int .i64 1) := cel_below hb caq0
    replace caq1 : wr6.cell? ⟨w.heap.size, 1, none⟩ = some (.int .i64 3) := cel_below hb caq1
    replace caq2 : wr6.cell? ⟨w.heap.size, 2, none⟩ = some (.int .i64 0) := cel_below hb caq2
    replace cbq0 : wr6.cell? ⟨w.heap.size + 1, 0, none⟩ = some (.int .i64 2) := cel_below hb cbq0
    replace cbq1 : wr6.cell? ⟨w.heap.size + 1, 1, none⟩ = some (.int .i64 3) := cel_below hb cbq1
    replace cbq2 : wr6.cell? ⟨w.heap.size + 1, 2, none⟩ = some (.int .i64 1) := cel_below hb cbq2
    replace lq0 : wr6.cell? ⟨w1.heap.size, 0, none⟩ = some (.int .i64 3) := cel_below hb lq0
    replace lq1 : wr6.cell? ⟨w1.heap.size, 1, none⟩ = some (.int .i64 0) := cel_below hb lq1
    replace lq2 : wr6.cell? ⟨w1.heap.size, 2, none⟩ = some (.int .i64 0) := cel_below hb lq2
    replace lq3 : wr6.cell? ⟨w1.heap.size, 3, none⟩ = some (.int .i64 0) := cel_below hb lq3
    replace lq4 : wr6.cell? ⟨w1.heap.size, 4, none⟩ = some (.int .i64 1) := cel_below hb lq4
    replace lq5 : wr6.cell? ⟨w1.heap.size, 5, none⟩ = some (.int .i64 0) := cel_below hb lq5
    replace lq6 : wr6.cell? ⟨w1.heap.size, 6, none⟩ = some (.int .i64 1) := cel_below hb lq6
    replace lq7 : wr6.cell? ⟨w1.heap.size, 7, none⟩ = some (.int .i64 2) := cel_below hb lq7
    replace lq8 : wr6.cell? ⟨w1.heap.size, 8, none⟩ = some (.int .i64 3) := cel_below hb lq8
    replace lq9 : wr6.cell? ⟨w1.heap.size, 9, none⟩ = some (.int .i64 4) := cel_below hb lq9
    replace lq10 : wr6.cell? ⟨w1.heap.size, 10, none⟩ = some (.int .i64 16) := cel_below hb lq10
    replace lq11 : wr6.cell? ⟨w1.heap.size, 11, none⟩ = some (.int .i64 16) := cel_below hb lq11
    replace lq12 : wr6.cell? ⟨w1.heap.size, 12, none⟩ = some (.int .i64 16) := cel_below hb lq12
    replace mmq0 : wr6.cell? ⟨g, 0, none⟩ = some (.slice am 16 cm) := cel_below hb mmq0
    replace uq0 : wr6.cell? ⟨w3.heap.size, 0, none⟩ = some (.int .i64 2) := cel_below hb uq0
    replace uq1 : wr6.cell? ⟨w3.heap.size, 1, none⟩ = some (.int .i64 0) := cel_below hb uq1
    replace uq2 : wr6.cell? ⟨w3.heap.size, 2, none⟩ = some (.int .i64 0) := cel_below hb uq2
    replace uq3 : wr6.cell? ⟨w3.heap.size, 3, none⟩ = some (.int .i64 0) := cel_below hb uq3
    replace uq4 : wr6.cell? ⟨w3.heap.size, 4, none⟩ = some (.bool false) := cel_below hb uq4
    replace uq5 : wr6.cell? ⟨w3.heap.size, 5, none⟩ = some (.bool false) := cel_below hb uq5
    replace uq6 : wr6.cell? ⟨w3.heap.size, 6, none⟩ = some (.int .i64 0) := cel_below hb uq6
    replace nq0 : wr6.cell? ⟨w3.heap.size + 1, 0, none⟩ = some (.slice a1 16 c1) := cel_below hb nq0
    replace vq0 : wr6.cell? ⟨w4.heap.size, 0, none⟩ = some (.int .i64 2) := cel_below hb vq0
    replace vq1 : wr6.cell? ⟨w4.heap.size, 1, none⟩ = some (.int .i64 0) := cel_below hb vq1
    replace vq2 : wr6.cell? ⟨w4.heap.size, 2, none⟩ = some (.int .i64 0) := cel_below hb vq2
    replace vq3 : wr6.cell? ⟨w4.heap.size, 3, none⟩ = some (.int .i64 0) := cel_below hb vq3
    replace vq4 : wr6.cell? ⟨w4.heap.size, 4, none⟩ = some (.bool false) := cel_below hb vq4
    replace vq5 : wr6.cell? ⟨w4.heap.size, 5, none⟩ = some (.bool false) := cel_below hb vq5
    replace vq6 : wr6.cell? ⟨w4.heap.size, 6, none⟩ = some (.int .i64 0) := cel_below hb vq6
    replace z0 : w.heap.size < wr6.heap.size := by omega
    replace z1 : w.heap.size + 1 < wr6.heap.size := by omega
    replace z2 : w1.heap.size < wr6.heap.size := by omega
    replace z3 : g < wr6.heap.size := by omega
    replace z4 : w3.heap.size < wr6.heap.size := by omega
    replace z5 : w3.heap.size + 1 < wr6.heap.size := by omega
    replace z6 : w4.heap.size < wr6.heap.size := by omega
    replace HN2 := Lib.hid (hasInts_keep HN2.out hb)
    have xq0 : wr6.cell? ⟨w5.heap.size, 0, none⟩ = some (.int .i64 1) := by rw [hwr]; exact cell_alloc _ (by rw [World.cell?_alloc_at _ _ _ _ (by simp)]; rfl)
    have xq1 : wr6.cell? ⟨w5.heap.size, 1, none⟩ = some (.int .i64 0) := by rw [hwr]; exact cell_alloc _ (by rw [World.cell?_alloc_at _ _ _ _ (by simp)]; rfl)
    have xq2 : wr6.cell? ⟨w5.heap.size, 2, none⟩ = some (.int .i64 0) := by rw [hwr]; exact cell_alloc _ (by rw [World.cell?_alloc_at _ _ _ _ (by simp)]; rfl)
    have xq3 : wr6.cell? ⟨w5.heap.size, 3, none⟩ = some (.int .i64 0) := by rw [hwr]; exact cell_alloc _ (by rw [World.cell?_alloc_at _ _ _ _ (by simp)]; rfl)
    have xq4 : wr6.cell? ⟨w5.heap.size, 4, none⟩ = some (.bool false) := by rw [hwr]; exact cell_alloc _ (by rw [World.cell?_alloc_at _ _ _ _ (by simp)]; rfl)
    have xq5 : wr6.cell? ⟨w5.heap.size, 5, none⟩ = some (.bool true) := by rw [hwr]; exact cell_alloc _ (by rw [World.cell?_alloc_at _ _ _ _ (by simp)]; rfl)
    have xq6 : wr6.cell? ⟨w5.heap.size, 6, none⟩ = some (.int .i64 0) := by rw [hwr]; exact cell_alloc _ (by rw [World.cell?_alloc_at _ _ _ _ (by simp)]; rfl)
    have z7 : w5.heap.size < wr6.heap.size := by omega
    clear hb zz hwr
    refine wp_region_held_drew (S := fun W => W.cell? ⟨w.heap.size, 0, none⟩ = some (.int .i64 1) ∧ W.cell? ⟨w.heap.size, 1, none⟩ = some (.int .i64 3) ∧ W.cell? ⟨w.heap.size, 2, none⟩ = some (.int .i64 0) ∧ W.cell? ⟨w.heap.size + 1, 0, none⟩ = some (.int .i64 2) ∧ W.cell? ⟨w.heap.size + 1, 1, none⟩ = some (.int .i64 3) ∧ W.cell? ⟨w.heap.size + 1, 2, none⟩ = some (.int .i64 1) ∧ W.cell? ⟨w1.heap.size, 0, none⟩ = some (.int .i64 3) ∧ W.cell? ⟨w1.heap.size, 1, none⟩ = some (.int .i64 0) ∧ W.cell? ⟨w1.heap.size, 2, none⟩ = some (.int .i64 0) ∧ W.cell? ⟨w1.heap.size, 3, none⟩ = some (.int .i64 0) ∧ W.cell? ⟨w1.heap.size, 4, none⟩ = some (.int .i64 1) ∧ W.cell? ⟨w1.heap.size, 5, none⟩ = some (.int .i64 0) ∧ W.cell? ⟨w1.heap.size, 6, none⟩ = some (.int .i64 1) ∧ W.cell? ⟨w1.heap.size, 7, none⟩ = some (.int .i64 2) ∧ W.cell? ⟨w1.heap.size, 8, none⟩ = some (.int .i64 3) ∧ W.cell? ⟨w1.heap.size, 9, none⟩ = some (.int .i64 4) ∧ W.cell? ⟨w1.heap.size, 10, none⟩ = some (.int .i64 16) ∧ W.cell? ⟨w1.heap.size, 11, none⟩ = some (.int .i64 16) ∧ W.cell? ⟨w1.heap.size, 12, none⟩ = some (.int .i64 16) ∧ W.cell? ⟨w3.heap.size, 0, none⟩ = some (.int .i64 2) ∧ W.cell? ⟨w3.heap.size, 1, none⟩ = some (.int .i64 0) ∧ W.cell? ⟨w3.heap.size, 2, none⟩ = some (.int .i64 0) ∧ W.cell? ⟨w3.heap.size, 3, none⟩ = some (.int .i64 0) ∧ W.cell? ⟨w3.heap.size, 4, none⟩ = some (.bool false) ∧ W.cell? ⟨w3.heap.size, 5, none⟩ = some (.bool false) ∧ W.cell? ⟨w3.heap.size, 6, none⟩ = some (.int .i64 0) ∧ W.cell? ⟨w3.heap.size + 1, 0, none⟩ = some (.slice a1 16 c1) ∧ W.cell? ⟨w4.heap.size, 0, none⟩ = some (.int .i64 2) ∧ W.cell? ⟨w4.heap.size, 1, none⟩ = some (.int .i64 0) ∧ W.cell? ⟨w4.heap.size, 2, none⟩ = some (.int .i64 0) ∧ W.cell? ⟨w4.heap.size, 3, none⟩ = some (.int .i64 0) ∧ W.cell? ⟨w4.heap.size, 4, none⟩ = some (.bool false) ∧ W.cell? ⟨w4.heap.size, 5, none⟩ = some (.bool false) ∧ W.cell? ⟨w4.heap.size, 6, none⟩ = some (.int .i64 0) ∧ W.cell? ⟨w5.heap.size, 0, none⟩ = some (.int .i64 1) ∧ W.cell? ⟨w5.heap.size, 1, none⟩ = some (.int .i64 0) ∧ W.cell? ⟨w5.heap.size, 2, none⟩ = some (.int .i64 0) ∧ W.cell? ⟨w5.heap.size, 3, none⟩ = some (.int .i64 0) ∧ W.cell? ⟨w5.heap.size, 4, none⟩ = some (.bool false) ∧ W.cell? ⟨w5.heap.size, 5, none⟩ = some (.bool true) ∧ W.cell? ⟨w5.heap.size, 6, none⟩ = some (.int .i64 0) ∧ HasInts W (.slice a1 16 c1) zB) (by kernel_rfl) ?_ (fun hHeld => ?_)
    · (try dsimp only); exact ⟨by first | assumption | go_simp, by first | assumption | go_simp, by first | assumption | go_simp, by first | assumption | go_simp, by first | assumption | go_simp, by first | assumption | go_simp, by first | assumption | go_simp, by first | assumption | go_simp, by first | assumption | go_simp, by first | assumption | go_simp, by first | assumption | go_simp, by first | assumption | go_simp, by first | assumption | go_simp, by first | assumption | go_simp, by first | assumption | go_simp, by first | assumption | go_simp, by first | assumption | go_simp, by first | assumption | go_simp, by first | assumption | go_simp, by first | assumption | go_simp, by first | assumption | go_simp, by first | assumption | go_simp, by first | assumption | go_simp, by first | assumption | go_simp, by first | assumption | go_simp, by first | assumption | go_simp, by first | assumption | go_simp, by first | assumption | go_simp, by first | assumption | go_simp, by first | assumption | go_simp, by first | assumption | go_simp, by first | assumption | go_simp, by first | assumption | go_simp, by first | assumption | go_simp, by first | assumption | go_simp, by first | assumption | go_simp, by first | assumption | go_simp, by first | assumption | go_simp, by first | assumption | go_simp, by first | assumption | go_simp, by first | assumption | go_simp, HN2.out⟩
    replace HW := Lib.hid (below_drews HW.out 1)
    refine tkA 0 (by kernel_rfl) (by assumption) ⟨_, _, ?_, rfl, rfl, ?_, fun _ _ _ h => h, ?_⟩; rotate_left; · intro w hSw; (try dsimp only at hSw); go_simp; (try with_reducible rfl)
    (try simp only [Act.put, List.setIfInBounds_toArray, List.set_cons_zero, List.set_cons_succ])
    refine tkA 1 (by kernel_rfl) (by assumption) ⟨_, _, ?_, rfl, rfl, ?_, fun _ _ _ h => h, ?_⟩; rotate_left; · intro w hSw; (try dsimp only at hSw); go_simp; (try with_reducible rfl)
    (try simp only [Act.put, List.setIfInBounds_toArray, List.set_cons_zero, List.set_cons_succ])
    refine wpAnyH_ready (rs := [2]) (by kernel_rfl) (by simp) ?_
    refine AllReadyH.cons (o := ?oi23) ?hi23 (fun K hK => ?rest23) AllReadyH.nil
    (case hi23 => (simp only [List.getElem?_toArray, List.getElem?_cons_succ, List.getElem?_cons_zero]; rfl))
    obtain ⟨s0, s1, s2, s3, s4, s5, s6, s7, s8, s9, s10, s11, s12, s13, s14, s15, s16, s17, s18, s19, s20, s21, s22, s23, s24, s25, s26, s27, s28, s29, s30, s31, s32, s33, s34, s35, s36, s37, s38, s39, s40, t0⟩ := hHeld
    go_simp
    ((with_reducible refine (HC1.out _).mono ?_); rintro e wx1 ⟨rfl, hb⟩)
    replace HW := Lib.hid (below_step HW.out hb)
    refine hK.out _ _ ?_ (fun hHeld => ?_)
    · (try dsimp only); exact ⟨cel_below hb s0, cel_below hb s1, cel_below hb s2, cel_below hb s3, cel_below hb s4, cel_below hb s5, cel_below hb s6, cel_below hb s7, cel_below hb s8, cel_below hb s9, cel_below hb s10, cel_below hb s11, cel_below hb s12, cel_below hb s13, cel_below hb s14, cel_below hb s15, cel_below hb s16, cel_below hb s17, cel_below hb s18, cel_below hb s19, cel_below hb s20, cel_below hb s21, cel_below hb s22, cel_below hb s23, cel_below hb s24, cel_below hb s25, cel_below hb s26, cel_below hb s27, cel_below hb s28, cel_below hb s29, cel_below hb s30, cel_below hb s31, cel_below hb s32, cel_below hb s33, cel_below hb s34, cel_below hb s35, cel_below hb s36, cel_below hb s37, cel_below hb s38, cel_below hb s39, cel_below hb s40, hasInts_keep t0 hb⟩
    clear hK K s0 s1 s2 s3 s4 s5 s6 s7 s8 s9 s10 s11 s12 s13 s14 s15 s16 s17 s18 s19 s20 s21 s22 s23 s24 s25 s26 s27 s28 s29 s30 s31 s32 s33 s34 s35 s36 s37 s38 s39 s40 t0 hb
    (try simp only [Act.put, List.setIfInBounds_toArray, List.set_cons_zero, List.set_cons_succ])
    refine tkA 3 (by kernel_rfl) (by assumption) ⟨_, _, ?_, rfl, rfl, ?_, fun _ _ _ h => h, ?_⟩; rotate_left; · intro w hSw; (try dsimp only at hSw); go_simp; (try with_reducible rfl)
    (try simp only [Act.put, List.setIfInBounds_toArray, List.set_cons_zero, List.set_cons_succ])
    refine tkA 4 (by kernel_rfl) (by assumption) ⟨_, _, ?_, rfl, rfl, ?_, fun _ _ _ h => h, ?_⟩; rotate_left; · intro w hSw; (try dsimp only at hSw); go_simp; (try with_reducible rfl)
    (try simp only [Act.put, List.setIfInBounds_toArray, List.set_cons_zero, List.set_cons_succ])
    first | (refine tkA 5 (by kernel_rfl) (by assumption) ⟨_, _, ?_, rfl, rfl, ?_, fun _ _ _ h => h, ?_⟩; rotate_left; · intro w hSw; (try dsimp only at hSw); go_simp; (try with_reducible rfl)) | refine tkB 5 (by kernel_rfl) (by assumption) ⟨_, _, rfl, rfl, fun _ _ _ h => h, ?_⟩
    (try simp only [Act.put, List.setIfInBounds_toArray, List.set_cons_zero, List.set_cons_succ])
    first | (refine tkA 6 (by kernel_rfl) (by assumption) ⟨_, _, ?_, rfl, rfl, ?_, fun _ _ _ h => h, ?_⟩; rotate_left; · intro w hSw; (try dsimp only at hSw); go_simp; (try with_reducible rfl)) | refine tkB 6 (by kernel_rfl) (by assumption) ⟨_, _, rfl, rfl, fun _ _ _ h => h, ?_⟩
    (try simp only [Act.put, List.setIfInBounds_toArray, List.set_cons_zero, List.set_cons_succ])
    refine wpAnyH_ready (rs := [7]) (by kernel_rfl) (by simp) ?_
    refine AllReadyH.cons (o := ?oi24) ?hi24 (fun K hK => ?rest24) AllReadyH.nil
    (case hi24 => (simp only [List.getElem?_toArray, List.getElem?_cons_succ, List.getElem?_cons_zero]; rfl))
    obtain ⟨s0, s1, s2, s3, s4, s5, s6, s7, s8, s9, s10, s11, s12, s13, s14, s15, s16, s17, s18, s19, s20, s21, s22, s23, s24, s25, s26, s27, s28, s29, s30, s31, s32, s33, s34, s35, s36, s37, s38, s39, s40, t0⟩ := hHeld
    go_simp
    ((with_reducible refine (HC2.out _).mono ?_); rintro e wx2 ⟨rfl, hb⟩)
    replace HW := Lib.hid (below_step HW.out hb)
    refine hK.out _ _ ?_ (fun hHeld => ?_)
    · (try dsimp only); exact ⟨cel_below hb s0, cel_below hb s1, cel_below hb s2, cel_below hb s3, cel_below hb s4, cel_below hb s5, cel_below hb s6, cel_below hb s7, cel_below hb s8, cel_below hb s9, cel_below hb s10, cel_below hb s11, cel_below hb s12, cel_below hb s13, cel_below hb s14, cel_below hb s15, cel_below hb s16, cel_below hb s17, cel_below hb s18, cel_below hb s19, cel_below hb s20, cel_below hb s21, cel_below hb s22, cel_below hb s23, cel_below hb s24, cel_below hb s25, cel_below hb s26, cel_below hb s27, cel_below hb s28, cel_below hb s29, cel_below hb s30, cel_below hb s31, cel_below hb s32, cel_below hb s33, cel_below hb s34, cel_below hb s35, cel_below hb s36, cel_below hb s37, cel_below hb s38, cel_below hb s39, cel_below hb s40, hasInts_keep t0 hb⟩
    clear hK K s0 s1 s2 s3 s4 s5 s6 s7 s8 s9 s10 s11 s12 s13 s14 s15 s16 s17 s18 s19 s20 s21 s22 s23 s24 s25 s26 s27 s28 s29 s30 s31 s32 s33 s34 s35 s36 s37 s38 s39 s40 t0 hb
    (try simp only [Act.put, List.setIfInBounds_toArray, List.set_cons_zero, List.set_cons_succ])
    first | (refine tkA 8 (by kernel_rfl) (by assumption) ⟨_, _, ?_, rfl, rfl, ?_, fun _ _ _ h => h, ?_⟩; rotate_left; · intro w hSw; (try dsimp only at hSw); go_simp; (try with_reducible rfl)) | refine tkB 8 (by kernel_rfl) (by assumption) ⟨_, _, rfl, rfl, fun _ _ _ h => h, ?_⟩
    (try simp only [Act.put, List.setIfInBounds_toArray, List.set_cons_zero, List.set_cons_succ])
    refine tkA 9 (by kernel_rfl) (by assumption) ⟨_, _, ?_, rfl, rfl, ?_, fun _ _ _ h => h, ?_⟩; rotate_left; · intro w hSw; (try dsimp only at hSw); go_simp; (try with_reducible rfl)
    (try simp only [Act.put, List.setIfInBounds_toArray, List.set_cons_zero, List.set_cons_succ])
    refine tkA 10 (by kernel_rfl) (by assumption) ⟨_, _, ?_, rfl, rfl, ?_, fun _ _ _ h => h, ?_⟩; rotate_left; · intro w hSw; (try dsimp only at hSw); go_simp; (try with_reducible rfl)
    (try simp only [Act.put, List.setIfInBounds_toArray, List.set_cons_zero, List.set_cons_succ])
    first | (refine tkA 11 (by kernel_rfl) (by assumption) ⟨_, _, ?_, rfl, rfl, ?_, fun _ _ _ h => h, ?_⟩; rotate_left; · intro w hSw; (try dsimp only at hSw); go_simp; (try with_reducible rfl)) | refine tkB 11 (by kernel_rfl) (by assumption) ⟨_, _, rfl, rfl, fun _ _ _ h => h, ?_⟩
    (try simp only [Act.put, List.setIfInBounds_toArray, List.set_cons_zero, List.set_cons_succ])
    first | (refine tkA 12 (by kernel_rfl) (by assumption) ⟨_, _, ?_, rfl, rfl, ?_, fun _ _ _ h => h, ?_⟩; rotate_left; · intro w hSw; (try dsimp only at hSw); go_simp; (try with_reducible rfl)) | refine tkB 12 (by kernel_rfl) (by assumption) ⟨_, _, rfl, rfl, fun _ _ _ h => h, ?_⟩
    (try simp only [Act.put, List.setIfInBounds_toArray, List.set_cons_zero, List.set_cons_succ])
    refine wpAnyH_ready (rs := [13]) (by kernel_rfl) (by simp) ?_
    refine AllReadyH.cons (o := ?oi25) ?hi25 (fun K hK => ?rest25) AllReadyH.nil
    (case hi25 => (simp only [List.getElem?_toArray, List.getElem?_cons_succ, List.getElem?_cons_zero]; rfl))
    obtain ⟨s0, s1, s2, s3, s4, s5, s6, s7, s8, s9, s10, s11, s12, s13, s14, s15, s16, s17, s18, s19, s20, s21, s22, s23, s24, s25, s26, s27, s28, s29, s30, s31, s32, s33, s34, s35, s36, s37, s38, s39, s40, t0⟩ := hHeld
    go_simp
    ((with_reducible refine (HC3.out _).mono ?_); rintro e wx3 ⟨rfl, hb⟩)
    replace HW := Lib.hid (below_step HW.out hb)
    refine hK.out _ _ ?_ (fun hHeld => ?_)
    · (try dsimp only); exact ⟨cel_below hb s0, cel_below hb s1, cel_below hb s2, cel_below hb s3, cel_below hb s4, cel_below hb s5, cel_below hb s6, cel_below hb s7, cel_below hb s8, cel_below hb s9, cel_below hb s10, cel_below hb s11, cel_below hb s12, cel_below hb s13, cel_below hb s14, cel_below hb s15, cel_below hb s16, cel_below hb s17, cel_below hb s18, cel_below hb s19, cel_below hb s20, cel_below hb s21, cel_below hb s22, cel_below hb s23, cel_below hb s24, cel_below hb s25, cel_below hb s26, cel_below hb s27, cel_below hb s28, cel_below hb s29, cel_below hb s30, cel_below hb s31, cel_below hb s32, cel_below hb s33, cel_below hb s34, cel_below hb s35, cel_below hb s36, cel_below hb s37, cel_below hb s38, cel_below hb s39, cel_below hb s40, hasInts_keep t0 hb⟩
    clear hK K s0 s1 s2 s3 s4 s5 s6 s7 s8 s9 s10 s11 s12 s13 s14 s15 s16 s17 s18 s19 s20 s21 s22 s23 s24 s25 s26 s27 s28 s29 s30 s31 s32 s33 s34 s35 s36 s37 s38 s39 s40 t0 hb
    (try simp only [Act.put, List.setIfInBounds_toArray, List.set_cons_zero, List.set_cons_succ])
    first | (refine tkA 14 (by kernel_rfl) (by assumption) ⟨_, _, ?_, rfl, rfl, ?_, fun _ _ _ h => h, ?_⟩; rotate_left; · intro w hSw; (try dsimp only at hSw); go_simp; (try with_reducible rfl)) | refine tkB 14 (by kernel_rfl) (by assumption) ⟨_, _, rfl, rfl, fun _ _ _ h => h, ?_⟩
    (try simp only [Act.put, List.setIfInBounds_toArray, List.set_cons_zero, List.set_cons_succ])
    refine tkA 15 (by kernel_rfl) (by assumption) ⟨_, _, ?_, rfl, rfl, ?_, fun _ _ _ h => h, ?_⟩; rotate_left; · intro w hSw; (try dsimp only at hSw); go_simp; (try with_reducible rfl)
    (try simp only [Act.put, List.setIfInBounds_toArray, List.set_cons_zero, List.set_cons_succ])
    refine tkA 16 (by kernel_rfl) (by assumption) ⟨_, _, ?_, rfl, rfl, ?_, fun _ _ _ h => h, ?_⟩; rotate_left; · intro w hSw; (try dsimp only at hSw); go_simp; (try with_reducible rfl)
    (try simp only [Act.put, List.setIfInBounds_toArray, List.set_cons_zero, List.set_cons_succ])
    first | (refine tkA 17 (by kernel_rfl) (by assumption) ⟨_, _, ?_, rfl, rfl, ?_, fun _ _ _ h => h, ?_⟩; rotate_left; · intro w hSw; (try dsimp only at hSw); go_simp; (try with_reducible rfl)) | refine tkB 17 (by kernel_rfl) (by assumption) ⟨_, _, rfl, rfl, fun _ _ _ h => h, ?_⟩
    (try simp only [Act.put, List.setIfInBounds_toArray, List.set_cons_zero, List.set_cons_succ])
    first | (refine tkA 18 (by kernel_rfl) (by assumption) ⟨_, _, ?_, rfl, rfl, ?_, fun _ _ _ h => h, ?_⟩; rotate_left; · intro w hSw; (try dsimp only at hSw); go_simp; (try with_reducible rfl)) | refine tkB 18 (by kernel_rfl) (by assumption) ⟨_, _, rfl, rfl, fun _ _ _ h => h, ?_⟩
    (try simp only [Act.put, List.setIfInBounds_toArray, List.set_cons_zero, List.set_cons_succ])
    refine wpAnyH_ready (rs := [19]) (by kernel_rfl) (by simp) ?_
    refine AllReadyH.cons (o := ?oi26) ?hi26 (fun K hK => ?rest26) AllReadyH.nil
    (case hi26 => (simp only [List.getElem?_toArray, List.getElem?_cons_succ, List.getElem?_cons_zero]; rfl))
    obtain ⟨s0, s1, s2, s3, s4, s5, s6, s7, s8, s9, s10, s11, s12, s13, s14, s15, s16, s17, s18, s19, s20, s21, s22, s23, s24, s25, s26, s27, s28, s29, s30, s31, s32, s33, s34, s35, s36, s37, s38, s39, s40, t0⟩ := hHeld
    go_simp
    ((with_reducible refine (HC4.out _).mono ?_); rintro e wx4 ⟨rfl, hb⟩)
    replace HW := Lib.hid (below_step HW.out hb)
    refine hK.out _ _ ?_ (fun hHeld => ?_)
    · (try dsimp only); exact ⟨cel_below hb s0, cel_below hb s1, cel_below hb s2, cel_below hb s3, cel_below hb s4, cel_below hb s5, cel_below hb s6, cel_below hb s7, cel_below hb s8, cel_below hb s9, cel_below hb s10, cel_below hb s11, cel_below hb s12, cel_below hb s13, cel_below hb s14, cel_below hb s15, cel_below hb s16, cel_below hb s17, cel_below hb s18, cel_below hb s19, cel_below hb s20, cel_below hb s21, cel_below hb s22, cel_below hb s23, cel_below hb s24, cel_below hb s25, cel_below hb s26, cel_below hb s27, cel_below hb s28, cel_below hb s29, cel_below hb s30, cel_below hb s31, cel_below hb s32, cel_below hb s33, cel_below hb s34, cel_below hb s35, cel_below hb s36, cel_below hb s37, cel_below hb s38, cel_below hb s39, cel_below hb s40, hasInts_keep t0 hb⟩
    clear hK K s0 s1 s2 s3 s4 s5 s6 s7 s8 s9 s10 s11 s12 s13 s14 s15 s16 s17 s18 s19 s20 s21 s22 s23 s24 s25 s26 s27 s28 s29 s30 s31 s32 s33 s34 s35 s36 s37 s38 s39 s40 t0 hb
    (try simp only [Act.put, List.setIfInBounds_toArray, List.set_cons_zero, List.set_cons_succ])
    first | (refine tkA 20 (by kernel_rfl) (by assumption) ⟨_, _, ?_, rfl, rfl, ?_, fun _ _ _ h => h, ?_⟩; rotate_left; · intro w hSw; (try dsimp only at hSw); go_simp; (try with_reducible rfl)) | refine tkB 20 (by kernel_rfl) (by assumption) ⟨_, _, rfl, rfl, fun _ _ _ h => h, ?_⟩
    (try simp only [Act.put, List.setIfInBounds_toArray, List.set_cons_zero, List.set_cons_succ])
    refine tkA 21 (by kernel_rfl) (by assumption) ⟨_, _, ?_, rfl, rfl, ?_, fun _ _ _ h => h, ?_⟩; rotate_left; · intro w hSw; (try dsimp only at hSw); go_simp; (try with_reducible rfl)
    (try simp only [Act.put, List.setIfInBounds_toArray, List.set_cons_zero, List.set_cons_succ])
    refine tkA 22 (by kernel_rfl) (by assumption) ⟨_, _, ?_, rfl, rfl, ?_, fun _ _ _ h => h, ?_⟩; rotate_left; · intro w hSw; (try dsimp only at hSw); go_simp; (try with_reducible rfl)
    (try simp only [Act.put, List.setIfInBounds_toArray, List.set_cons_zero, List.set_cons_succ])
    first | (refine tkA 23 (by kernel_rfl) (by assumption) ⟨_, _, ?_, rfl, rfl, ?_, fun _ _ _ h => h, ?_⟩; rotate_left; · intro w hSw; (try dsimp only at hSw); go_simp; (try with_reducible rfl)) | refine tkB 23 (by kernel_rfl) (by assumption) ⟨_, _, rfl, rfl, fun _ _ _ h => h, ?_⟩
    (try simp only [Act.put, List.setIfInBounds_toArray, List.set_cons_zero, List.set_cons_succ])
    first | (refine tkA 24 (by kernel_rfl) (by assumption) ⟨_, _, ?_, rfl, rfl, ?_, fun _ _ _ h => h, ?_⟩; rotate_left; · intro w hSw; (try dsimp only at hSw); go_simp; (try with_reducible rfl)) | refine tkB 24 (by kernel_rfl) (by assumption) ⟨_, _, rfl, rfl, fun _ _ _ h => h, ?_⟩
    (try simp only [Act.put, List.setIfInBounds_toArray, List.set_cons_zero, List.set_cons_succ])
    first | (refine tkA 25 (by kernel_rfl) (by assumption) ⟨_, _, ?_, rfl, rfl, ?_, fun _ _ _ h => h, ?_⟩; rotate_left; · intro w hSw; (try dsimp only at hSw); go_simp; (try with_reducible rfl)) | refine tkB 25 (by kernel_rfl) (by assumption) ⟨_, _, rfl, rfl, fun _ _ _ h => h, ?_⟩
    (try simp only [Act.put, List.setIfInBounds_toArray, List.set_cons_zero, List.set_cons_succ])
    refine tkA 26 (by kernel_rfl) (by assumption) ⟨_, _, ?_, rfl, rfl, ?_, fun _ _ _ h => h, ?_⟩; rotate_left; · intro w hSw; (try dsimp only at hSw); go_simp; (try with_reducible rfl)
    (try simp only [Act.put, List.setIfInBounds_toArray, List.set_cons_zero, List.set_cons_succ])
    refine tkA 27 (by kernel_rfl) (by assumption) ⟨_, _, ?_, rfl, rfl, ?_, fun _ _ _ h => h, ?_⟩; rotate_left; · intro w hSw; (try dsimp only at hSw); go_simp; (try with_reducible rfl)
    (try simp only [Act.put, List.setIfInBounds_toArray, List.set_cons_zero, List.set_cons_succ])
    first | (refine tkA 28 (by kernel_rfl) (by assumption) ⟨_, _, ?_, rfl, rfl, ?_, fun _ _ _ h => h, ?_⟩; rotate_left; · intro w hSw; (try dsimp only at hSw); go_simp; (try with_reducible rfl)) | refine tkB 28 (by kernel_rfl) (by assumption) ⟨_, _, rfl, rfl, fun _ _ _ h => h, ?_⟩
    (try simp only [Act.put, List.setIfInBounds_toArray, List.set_cons_zero, List.set_cons_succ])
    first | (refine tkA 29 (by kernel_rfl) (by assumption) ⟨_, _, ?_, rfl, rfl, ?_, fun _ _ _ h => h, ?_⟩; rotate_left; · intro w hSw; (try dsimp only at hSw); go_simp; (try with_reducible rfl)) | refine tkB 29 (by kernel_rfl) (by assumption) ⟨_, _, rfl, rfl, fun _ _ _ h => h, ?_⟩
    (try simp only [Act.put, List.setIfInBounds_toArray, List.set_cons_zero, List.set_cons_succ])
    refine tkA 30 (by kernel_rfl) (by assumption) ⟨_, _, ?_, rfl, rfl, ?_, fun _ _ _ h => h, ?_⟩; rotate_left; · intro w hSw; (try dsimp only at hSw); go_simp; (try with_reducible rfl)
    (try simp only [Act.put, List.setIfInBounds_toArray, List.set_cons_zero, List.set_cons_succ])
    refine tkA 31 (by kernel_rfl) (by assumption) ⟨_, _, ?_, rfl, rfl, ?_, fun _ _ _ h => h, ?_⟩; rotate_left; · intro w hSw; (try dsimp only at hSw); go_simp; (try with_reducible rfl)
    (try simp only [Act.put, List.setIfInBounds_toArray, List.set_cons_zero, List.set_cons_succ])
    first | (refine tkA 32 (by kernel_rfl) (by assumption) ⟨_, _, ?_, rfl, rfl, ?_, fun _ _ _ h => h, ?_⟩; rotate_left; · intro w hSw; (try dsimp only at hSw); go_simp; (try with_reducible rfl)) | refine tkB 32 (by kernel_rfl) (by assumption) ⟨_, _, rfl, rfl, fun _ _ _ h => h, ?_⟩
    (try simp only [Act.put, List.setIfInBounds_toArray, List.set_cons_zero, List.set_cons_succ])
    first | (refine tkA 33 (by kernel_rfl) (by assumption) ⟨_, _, ?_, rfl, rfl, ?_, fun _ _ _ h => h, ?_⟩; rotate_left; · intro w hSw; (try dsimp only at hSw); go_simp; (try with_reducible rfl)) | refine tkB 33 (by kernel_rfl) (by assumption) ⟨_, _, rfl, rfl, fun _ _ _ h => h, ?_⟩
    (try simp only [Act.put, List.setIfInBounds_toArray, List.set_cons_zero, List.set_cons_succ])
    refine wpAnyH_ready (rs := [34]) (by kernel_rfl) (by simp) ?_
    refine AllReadyH.cons (o := ?oi27) ?hi27 (fun K hK => ?rest27) AllReadyH.nil
    (case hi27 => (simp only [List.getElem?_toArray, List.getElem?_cons_succ, List.getElem?_cons_zero]; rfl))
    obtain ⟨s0, s1, s2, s3, s4, s5, s6, s7, s8, s9, s10, s11, s12, s13, s14, s15, s16, s17, s18, s19, s20, s21, s22, s23, s24, s25, s26, s27, s28, s29, s30, s31, s32, s33, s34, s35, s36, s37, s38, s39, s40, t0⟩ := hHeld
    go_simp
    ((with_reducible refine (HL8.out _).mono ?_); rintro e wx5 ⟨rfl, hb⟩)
    replace HW := Lib.hid (below_step HW.out hb)
    refine hK.out _ _ ?_ (fun hHeld => ?_)
    · (try dsimp only); exact ⟨cel_below hb s0, cel_below hb s1, cel_below hb s2, cel_below hb s3, cel_below hb s4, cel_below hb s5, cel_below hb s6, cel_below hb s7, cel_below hb s8, cel_below hb s9, cel_below hb s10, cel_below hb s11, cel_below hb s12, cel_below hb s13, cel_below hb s14, cel_below hb s15, cel_below hb s16, cel_below hb s17, cel_below hb s18, cel_below hb s19, cel_below hb s20, cel_below hb s21, cel_below hb s22, cel_below hb s23, cel_below hb s24, cel_below hb s25, cel_below hb s26, cel_below hb s27, cel_below hb s28, cel_below hb s29, cel_below hb s30, cel_below hb s31, cel_below hb s32, cel_below hb s33, cel_below hb s34, cel_below hb s35, cel_below hb s36, cel_below hb s37, cel_below hb s38, cel_below hb s39, cel_below hb s40, hasInts_keep t0 hb⟩
    clear hK K s0 s1 s2 s3 s4 s5 s6 s7 s8 s9 s10 s11 s12 s13 s14 s15 s16 s17 s18 s19 s20 s21 s22 s23 s24 s25 s26 s27 s28 s29 s30 s31 s32 s33 s34 s35 s36 s37 s38 s39 s40 t0 hb
    (try simp only [Act.put, List.setIfInBounds_toArray, List.set_cons_zero, List.set_cons_succ])
    refine wpAnyH_ready (rs := [35]) (by kernel_rfl) (by simp) ?_
    refine AllReadyH.cons (o := ?oi28) ?hi28 (fun K hK => ?rest28) AllReadyH.nil
    (case hi28 => (simp only [List.getElem?_toArray, List.getElem?_cons_succ, List.getElem?_cons_zero]; rfl))
    obtain ⟨s0, s1, s2, s3, s4, s5, s6, s7, s8, s9, s10, s11, s12, s13, s14, s15, s16, s17, s18, s19, s20, s21, s22, s23, s24, s25, s26, s27, s28, s29, s30, s31, s32, s33, s34, s35, s36, s37, s38, s39, s40, t0⟩ := hHeld
    go_simp
    ((with_reducible refine (HCe.out _ _ _ t0).mono ?_); rintro e wx6 ⟨rfl, hb⟩)
    replace HW := Lib.hid (below_step HW.out hb)
    refine hK.out _ _ ?_ (fun hHeld => ?_)
    · (try dsimp only); exact ⟨cel_below hb s0, cel_below hb s1, cel_below hb s2, cel_below hb s3, cel_below hb s4, cel_below hb s5, cel_below hb s6, cel_below hb s7, cel_below hb s8, cel_below hb s9, cel_below hb s10, cel_below hb s11, cel_below hb s12, cel_below hb s13, cel_below hb s14, cel_below hb s15, cel_below hb s16, cel_below hb s17, cel_below hb s18, cel_below hb s19, cel_below hb s20, cel_below hb s21, cel_below hb s22, cel_below hb s23, cel_below hb s24, cel_below hb s25, cel_below hb s26, cel_below hb s27, cel_below hb s28, cel_below hb s29, cel_below hb s30, cel_below hb s31, cel_below hb s32, cel_below hb s33, cel_below hb s34, cel_below hb s35, cel_below hb s36, cel_below hb s37, cel_below hb s38, cel_below hb s39, cel_below hb s40, hasInts_keep t0 hb⟩
    clear hK K s0 s1 s2 s3 s4 s5 s6 s7 s8 s9 s10 s11 s12 s13 s14 s15 s16 s17 s18 s19 s20 s21 s22 s23 s24 s25 s26 s27 s28 s29 s30 s31 s32 s33 s34 s35 s36 s37 s38 s39 s40 t0 hb
    (try simp only [Act.put, List.setIfInBounds_toArray, List.set_cons_zero, List.set_cons_succ])
    refine wpAnyH_ready (rs := [36]) (by kernel_rfl) (by simp) ?_
    refine AllReadyH.cons (o := ?oi29) ?hi29 (fun K hK => ?rest29) AllReadyH.nil
    (case hi29 => (simp only [List.getElem?_toArray, List.getElem?_cons_succ, List.getElem?_cons_zero]; rfl))
    obtain ⟨s0, s1, s2, s3, s4, s5, s6, s7, s8, s9, s10, s11, s12, s13, s14, s15, s16, s17, s18, s19, s20, s21, s22, s23, s24, s25, s26, s27, s28, s29, s30, s31, s32, s33, s34, s35, s36, s37, s38, s39, s40, t0⟩ := hHeld
    go_simp
    ((with_reducible refine (HSu.out _).mono ?_); rintro e wx7 ⟨rfl, hb⟩)
    replace HW := Lib.hid (below_step HW.out hb)
    refine hK.out _ _ ?_ (fun hHeld => ?_)
    · (try dsimp only); exact ⟨cel_below hb s0, cel_below hb s1, cel_below hb s2, cel_below hb s3, cel_below hb s4, cel_below hb s5, cel_below hb s6, cel_below hb s7, cel_below hb s8, cel_below hb s9, cel_below hb s10, cel_below hb s11, cel_below hb s12, cel_below hb s13, cel_below hb s14, cel_below hb s15, cel_below hb s16, cel_below hb s17, cel_below hb s18, cel_below hb s19, cel_below hb s20, cel_below hb s21, cel_below hb s22, cel_below hb s23, cel_below hb s24, cel_below hb s25, cel_below hb s26, cel_below hb s27, cel_below hb s28, cel_below hb s29, cel_below hb s30, cel_below hb s31, cel_below hb s32, cel_below hb s33, cel_below hb s34, cel_below hb s35, cel_below hb s36, cel_below hb s37, cel_below hb s38, cel_below hb s39, cel_below hb s40, hasInts_keep t0 hb⟩
    clear hK K s0 s1 s2 s3 s4 s5 s6 s7 s8 s9 s10 s11 s12 s13 s14 s15 s16 s17 s18 s19 s20 s21 s22 s23 s24 s25 s26 s27 s28 s29 s30 s31 s32 s33 s34 s35 s36 s37 s38 s39 s40 t0 hb
    (try simp only [Act.put, List.setIfInBounds_toArray, List.set_cons_zero, List.set_cons_succ])
    first | (refine tkA 37 (by kernel_rfl) (by assumption) ⟨_, _, ?_, rfl, rfl, ?_, fun _ _ _ h => h, ?_⟩; rotate_left; · intro w hSw; (try dsimp only at hSw); go_simp; (try with_reducible rfl)) | refine tkB 37 (by kernel_rfl) (by assumption) ⟨_, _, rfl, rfl, fun _ _ _ h => h, ?_⟩
    (try simp only [Act.put, List.setIfInBounds_toArray, List.set_cons_zero, List.set_cons_succ])
    refine tkA 38 (by kernel_rfl) (by assumption) ⟨_, _, ?_, rfl, rfl, ?_, fun _ _ _ h => h, ?_⟩; rotate_left; · intro w hSw; (try dsimp only at hSw); go_simp; (try with_reducible rfl)
    (try simp only [Act.put, List.setIfInBounds_toArray, List.set_cons_zero, List.set_cons_succ])
    refine tkA 39 (by kernel_rfl) (by assumption) ⟨_, _, ?_, rfl, rfl, ?_, fun _ _ _ h => h, ?_⟩; rotate_left; · intro w hSw; (try dsimp only at hSw); go_simp; (try with_reducible rfl)
    (try simp only [Act.put, List.setIfInBounds_toArray, List.set_cons_zero, List.set_cons_succ])
    first | (refine tkA 40 (by kernel_rfl) (by assumption) ⟨_, _, ?_, rfl, rfl, ?_, fun _ _ _ h => h, ?_⟩; rotate_left; · intro w hSw; (try dsimp only at hSw); go_simp; (try with_reducible rfl)) | refine tkB 40 (by kernel_rfl) (by assumption) ⟨_, _, rfl, rfl, fun _ _ _ h => h, ?_⟩
    (try simp only [Act.put, List.setIfInBounds_toArray, List.set_cons_zero, List.set_cons_succ])
    first | (refine tkA 41 (by kernel_rfl) (by assumption) ⟨_, _, ?_, rfl, rfl, ?_, fun _ _ _ h => h, ?_⟩; rotate_left; · intro w hSw; (try dsimp only at hSw); go_simp; (try with_reducible rfl)) | refine tkB 41 (by kernel_rfl) (by assumption) ⟨_, _, rfl, rfl, fun _ _ _ h => h, ?_⟩
    (try simp only [Act.put, List.setIfInBounds_toArray, List.set_cons_zero, List.set_cons_succ])
    first | (refine tkA 42 (by kernel_rfl) (by assumption) ⟨_, _, ?_, rfl, rfl, ?_, fun _ _ _ h => h, ?_⟩; rotate_left; · intro w hSw; (try dsimp only at hSw); go_simp; (try with_reducible rfl)) | refine tkB 42 (by kernel_rfl) (by assumption) ⟨_, _, rfl, rfl, fun _ _ _ h => h, ?_⟩
    (try simp only [Act.put, List.setIfInBounds_toArray, List.set_cons_zero, List.set_cons_succ])
    refine tkA 43 (by kernel_rfl) (by assumption) ⟨_, _, ?_, rfl, rfl, ?_, fun _ _ _ h => h, ?_⟩; rotate_left; · intro w hSw; (try dsimp only at hSw); go_simp; (try with_reducible rfl)
    (try simp only [Act.put, List.setIfInBounds_toArray, List.set_cons_zero, List.set_cons_succ])
    refine tkA 44 (by kernel_rfl) (by assumption) ⟨_, _, ?_, rfl, rfl, ?_, fun _ _ _ h => h, ?_⟩; rotate_left; · intro w hSw; (try dsimp only at hSw); go_simp; (try with_reducible rfl)
    (try simp only [Act.put, List.setIfInBounds_toArray, List.set_cons_zero, List.set_cons_succ])
    first | (refine tkA 45 (by kernel_rfl) (by assumption) ⟨_, _, ?_, rfl, rfl, ?_, fun _ _ _ h => h, ?_⟩; rotate_left; · intro w hSw; (try dsimp only at hSw); go_simp; (try with_reducible rfl)) | refine tkB 45 (by kernel_rfl) (by assumption) ⟨_, _, rfl, rfl, fun _ _ _ h => h, ?_⟩
    (try simp only [Act.put, List.setIfInBounds_toArray, List.set_cons_zero, List.set_cons_succ])
    first | (refine tkA 46 (by kernel_rfl) (by assumption) ⟨_, _, ?_, rfl, rfl, ?_, fun _ _ _ h => h, ?_⟩; rotate_left; · intro w hSw; (try dsimp only at hSw); go_simp; (try with_reducible rfl)) | refine tkB 46 (by kernel_rfl) (by assumption) ⟨_, _, rfl, rfl, fun _ _ _ h => h, ?_⟩
    (try simp only [Act.put, List.setIfInBounds_toArray, List.set_cons_zero, List.set_cons_succ])
    first | (refine tkA 47 (by kernel_rfl) (by assumption) ⟨_, _, ?_, rfl, rfl, ?_, fun _ _ _ h => h, ?_⟩; rotate_left; · intro w hSw; (try dsimp only at hSw); go_simp; (try with_reducible rfl)) | refine tkB 47 (by kernel_rfl) (by assumption) ⟨_, _, rfl, rfl, fun _ _ _ h => h, ?_⟩
    (try simp only [Act.put, List.setIfInBounds_toArray, List.set_cons_zero, List.set_cons_succ])
    refine tkA 48 (by kernel_rfl) (by assumption) ⟨_, _, ?_, rfl, rfl, ?_, fun _ _ _ h => h, ?_⟩; rotate_left; · intro w hSw; (try dsimp only at hSw); go_simp; (try with_reducible rfl)
    (try simp only [Act.put, List.setIfInBounds_toArray, List.set_cons_zero, List.set_cons_succ])
    refine tkA 49 (by kernel_rfl) (by assumption) ⟨_, _, ?_, rfl, rfl, ?_, fun _ _ _ h => h, ?_⟩; rotate_left; · intro w hSw; (try dsimp only at hSw); go_simp; (try with_reducible rfl)
    (try simp only [Act.put, List.setIfInBounds_toArray, List.set_cons_zero, List.set_cons_succ])
    first | (refine tkA 50 (by kernel_rfl) (by assumption) ⟨_, _, ?_, rfl, rfl, ?_, fun _ _ _ h => h, ?_⟩; rotate_left; · intro w hSw; (try dsimp only at hSw); go_simp; (try with_reducible rfl)) | refine tkB 50 (by kernel_rfl) (by assumption) ⟨_, _, rfl, rfl, fun _ _ _ h => h, ?_⟩
    (try simp only [Act.put, List.setIfInBounds_toArray, List.set_cons_zero, List.set_cons_succ])
    first | (refine tkA 51 (by kernel_rfl) (by assumption) ⟨_, _, ?_, rfl, rfl, ?_, fun _ _ _ h => h, ?_⟩; rotate_left; · intro w hSw; (try dsimp only at hSw); go_simp; (try with_reducible rfl)) | refine tkB 51 (by kernel_rfl) (by assumption) ⟨_, _, rfl, rfl, fun _ _ _ h => h, ?_⟩
    (try simp only [Act.put, List.setIfInBounds_toArray, List.set_cons_zero, List.set_cons_succ])
    refine tkA 52 (by kernel_rfl) (by assumption) ⟨_, _, ?_, rfl, rfl, ?_, fun _ _ _ h => h, ?_⟩; rotate_left; · intro w hSw; (try dsimp only at hSw); go_simp; (try with_reducible rfl)
    (try simp only [Act.put, List.setIfInBounds_toArray, List.set_cons_zero, List.set_cons_succ])
    refine tkA 53 (by kernel_rfl) (by assumption) ⟨_, _, ?_, rfl, rfl, ?_, fun _ _ _ h => h, ?_⟩; rotate_left; · intro w hSw; (try dsimp only at hSw); go_simp; (try with_reducible rfl)
    (try simp only [Act.put, List.setIfInBounds_toArray, List.set_cons_zero, List.set_cons_succ])
    refine wpAnyH_done (by kernel_rfl) ?_ _
    obtain ⟨s0, s1, s2, s3, s4, s5, s6, s7, s8, s9, s10, s11, s12, s13, s14, s15, s16, s17, s18, s19, s20, s21, s22, s23, s24, s25, s26, s27, s28, s29, s30, s31, s32, s33, s34, s35, s36, s37, s38, s39, s40, t0⟩ := hHeld
    go_wp2
    go_ret
    exact ⟨rfl, HW.out⟩
end Go.Proofs.Ytaclnaedinfhmaa
