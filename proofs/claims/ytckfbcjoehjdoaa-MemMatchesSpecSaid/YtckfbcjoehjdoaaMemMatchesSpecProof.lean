/- MemMatchesSpec: for all memories of at most 200 cells and every access, Right, Do and Same return what the specification says. No condition. -/
import Derived.Test.YtckfbcjoehjdoaaRows
import Derived.Test.YtckfbcjoehjdoaaMemB
import Derived.Test.YtckfbcjoehjdoaaMemD
import Derived.Test.YtckfbcjoehjdoaaMemE
import Derived.Test.YtckfbcjoehjdoaaMemS
import Derived.Test.YtckfbcjoehjdoaaMemO
import Derived.Test.YtckfbcjoehjdoaaMemT
import Derived.Deep.RegionHeld3
import Derived.WalkKit
import Derived.ProofKit
import Derived.OpenShut
import Derived.Lib.Hide
import Derived.Carry
namespace Go.Proofs.Ytckfbcjoehjdoaa.memMatchesSpec
open Go.ChangeShapes Go.WideShapes Go.ChangeAt Go.RowKit
set_option linter.unusedVariables false

set_option maxHeartbeats 4000000 in
set_option maxRecDepth 100000 in
theorem walk (w : World) (s0 : Value) (z0 : List Int) (h0 : HasInts w s0 z0) (s1 : Value) (z1 : List Int) (h1 : HasInts w s1 z1) (k c o n : Int) (b : ByteArray) (i1 : I64 k) (i2 : I64 c) (i3 : I64 o) (i4 : I64 n) :
    Calls Try.prog 3 #[.agg #[s0], .agg #[s1], acc k c o n b] w fun e w' => e = .returned (.bool true) ∧ Below w.heap.size w w' := by
  have HH0 := Lib.hid h0
  have HH1 := Lib.hid h1
  obtain ⟨a0, cap0, rfl, hl0, _⟩ := h0
  obtain ⟨a1, cap1, rfl, hl1, _⟩ := h1
  have HD : Hid (∀ (v : Value) (w : World), HasInts w v z0 → z0.length ≤ 200 → Calls Try.prog 10 #[.agg #[v], .agg #[.int .i64 k, .int .i64 c, .int .i64 o, .int .i64 n, .string b]] w fun e w' =>
      ∃ a cp, e = .returned (.tuple #[.agg #[.slice a z0.length cp], .agg #[.int .i64 (doR k c o n b z0), .bool (doOk k c o n b z0)], .int .i64 (chk z0.length k c o n b)]) ∧ HasInts w' (.slice a z0.length cp) (doZ k c o n b z0) ∧ Below w.heap.size w w') := Lib.hid (fun v w hv hl => by
    refine (do_any v z0 k c o n b w hv (by omega)).mono ?_
    rintro e w' ⟨u, rfl, hu, hb⟩
    have hu' := hu
    obtain ⟨a, cp, rfl, _, _⟩ := hu'
    have hl : (doZ k c o n b z0).length = z0.length := by unfold doZ; split; exact appZ_length _ _ _ _ _; rfl
    rw [hl] at hu ⊢
    exact ⟨a, cp, rfl, hu, hb⟩)
  have HR : Hid (∀ (v : Value) (w : World), HasInts w v z0 → z0.length ≤ 200 → Calls Try.prog 11 #[.agg #[v], .agg #[.int .i64 k, .int .i64 c, .int .i64 o, .int .i64 n, .string b]] w fun e w' =>
      ∃ a cp, e = .returned (.tuple #[.agg #[.slice a z0.length cp], .agg #[.int .i64 (doR k c o n b z0), .bool (doOk k c o n b z0)], .int .i64 (chk z0.length k c o n b)]) ∧ HasInts w' (.slice a z0.length cp) (doZ k c o n b z0) ∧ Below w.heap.size w w') := Lib.hid (fun v w hv hl => by
    refine (rdo_any v z0 k c o n b w hv (by omega)).mono ?_
    rintro e w' ⟨u, rfl, hu, hb⟩
    have hu' := hu
    obtain ⟨a, cp, rfl, _, _⟩ := hu'
    have hl : (doZ k c o n b z0).length = z0.length := by unfold doZ; split; exact appZ_length _ _ _ _ _; rfl
    rw [hl] at hu ⊢
    exact ⟨a, cp, rfl, hu, hb⟩)
  obtain ⟨R, hR⟩ : ∃ R, R = doR k c o n b z0 := ⟨_, rfl⟩
  obtain ⟨Q, hQ⟩ : ∃ Q, Q = doOk k c o n b z0 := ⟨_, rfl⟩
  obtain ⟨E, hE⟩ : ∃ E, E = chk z0.length k c o n b := ⟨_, rfl⟩
  obtain ⟨Z, hZ⟩ : ∃ Z, Z = doZ k c o n b z0 := ⟨_, rfl⟩
  rw [← hR, ← hQ, ← hE, ← hZ] at HD HR
  clear hR hQ hE hZ
  have HT : Hid (∀ w, Calls Try.prog 12 #[.agg #[.int .i64 k, .int .i64 c, .int .i64 o, .int .i64 n, .string b]] w fun e w' => e = .returned (.bool (rightB k c o n b)) ∧ Below w.heap.size w w') := Lib.hid (fun w => (right_any k c o n b w).mono (by rintro e w' ⟨rfl, cs, rfl⟩; exact ⟨rfl, (Below.refl _ _).alloc (Nat.le_refl _) _⟩))
  have HU : Hid (∀ w, Calls Try.prog 13 #[.agg #[.int .i64 k, .int .i64 c, .int .i64 o, .int .i64 n, .string b]] w fun e w' => e = .returned (.bool (rightB k c o n b)) ∧ Below w.heap.size w w') := Lib.hid (fun w => (rright_any k c o n b w).mono (by rintro e w' ⟨rfl, cs, rfl⟩; exact ⟨rfl, (Below.refl _ _).alloc (Nat.le_refl _) _⟩))
  obtain ⟨T, hT⟩ : ∃ T, T = rightB k c o n b := ⟨_, rfl⟩
  rw [← hT] at HT HU
  clear hT i1 i2 i3 i4
  unfold acc
  obtain ⟨L0, hL0⟩ : ∃ L0, L0 = z0.length := ⟨_, rfl⟩
  obtain ⟨L1, hL1⟩ : ∃ L1, L1 = z1.length := ⟨_, rfl⟩
  rw [← hL0] at HD HR HH0 ⊢
  rw [← hL1] at HH1 ⊢
  clear hl0 hl1 hL0 hL1
  by_cases hlen : L0 ≤ 200 ∧ L1 ≤ 200
  · obtain ⟨g0, g1⟩ := hlen
    go_enter Try.func3, Try.ntmps3
    go_wp2_with fail
    refine (sane_any _).mono ?_
    rintro e w1 ⟨rfl, hb1⟩
    have B1 : Hid (Below w.heap.size w w1) := Lib.hid (by
      refine (?_ : Below w.heap.size w _).trans (hb1.mono (by simp; omega))
      repeat (first | with_reducible exact Below.refl _ _ | with_reducible refine Below.alloc ?_ (by first | omega | (simp; omega) | simp) _))
    have p0 : w1.cell? ⟨w.heap.size, 0, none⟩ = some (.slice a0 L0 cap0) := cell_below hb1 (cell_alloc _ (cell_alloc _ (by rw [World.cell?_alloc_at _ _ _ _ rfl]; rfl)))
    have p1 : w1.cell? ⟨w.heap.size + 1, 0, none⟩ = some (.slice a1 L1 cap1) := cell_below hb1 (cell_alloc _ (by rw [World.cell?_alloc_at _ _ _ _ (by simp)]; rfl))
    have p2 : w1.cell? ⟨w.heap.size + 1 + 1, 0, none⟩ = some (.int .i64 k) := cell_below hb1 (by rw [World.cell?_alloc_at _ _ _ _ (by simp)]; rfl)
    have p3 : w1.cell? ⟨w.heap.size + 1 + 1, 1, none⟩ = some (.int .i64 c) := cell_below hb1 (by rw [World.cell?_alloc_at _ _ _ _ (by simp)]; rfl)
    have p4 : w1.cell? ⟨w.heap.size + 1 + 1, 2, none⟩ = some (.int .i64 o) := cell_below hb1 (by rw [World.cell?_alloc_at _ _ _ _ (by simp)]; rfl)
    have p5 : w1.cell? ⟨w.heap.size + 1 + 1, 3, none⟩ = some (.int .i64 n) := cell_below hb1 (by rw [World.cell?_alloc_at _ _ _ _ (by simp)]; rfl)
    have p6 : w1.cell? ⟨w.heap.size + 1 + 1, 4, none⟩ = some (.string b) := cell_below hb1 (by rw [World.cell?_alloc_at _ _ _ _ (by simp)]; rfl)
    clear hb1
    go_wp2_with fail
    refine (HD.out _ _ (hasInts_keep HH0.out B1.out) g0).mono ?_
    rintro e w2 ⟨a2, cp2, rfl, hx, hb2⟩
    have q0 := cell_below hb2 p0
    have q1 := cell_below hb2 p1
    have q2 := cell_below hb2 p2
    have q3 := cell_below hb2 p3
    have q4 := cell_below hb2 p4
    have q5 := cell_below hb2 p5
    have q6 := cell_below hb2 p6
    have B2 : Hid (Below w.heap.size w w2) := Lib.hid (B1.out.trans (hb2.mono B1.out.size))
    have HX := Lib.hid hx
    clear hb2 hx B1 p0 p1 p2 p3 p4 p5 p6
    have r0 : ∀ o1 o2, ((w2.alloc o1).alloc o2).cell? ⟨w.heap.size, 0, none⟩ = _ := fun o1 o2 => cell_alloc o2 (cell_alloc o1 q0)
    have r1 : ∀ o1 o2, ((w2.alloc o1).alloc o2).cell? ⟨w.heap.size + 1, 0, none⟩ = _ := fun o1 o2 => cell_alloc o2 (cell_alloc o1 q1)
    have r2 : ∀ o1 o2, ((w2.alloc o1).alloc o2).cell? ⟨w.heap.size + 1 + 1, 0, none⟩ = _ := fun o1 o2 => cell_alloc o2 (cell_alloc o1 q2)
    have r3 : ∀ o1 o2, ((w2.alloc o1).alloc o2).cell? ⟨w.heap.size + 1 + 1, 1, none⟩ = _ := fun o1 o2 => cell_alloc o2 (cell_alloc o1 q3)
    have r4 : ∀ o1 o2, ((w2.alloc o1).alloc o2).cell? ⟨w.heap.size + 1 + 1, 2, none⟩ = _ := fun o1 o2 => cell_alloc o2 (cell_alloc o1 q4)
    have r5 : ∀ o1 o2, ((w2.alloc o1).alloc o2).cell? ⟨w.heap.size + 1 + 1, 3, none⟩ = _ := fun o1 o2 => cell_alloc o2 (cell_alloc o1 q5)
    have r6 : ∀ o1 o2, ((w2.alloc o1).alloc o2).cell? ⟨w.heap.size + 1 + 1, 4, none⟩ = _ := fun o1 o2 => cell_alloc o2 (cell_alloc o1 q6)
    go_wp2_with fail
    have B2' : Below w.heap.size w ((w2.alloc (.cells #[.slice a2 L0 cp2] 24)).alloc (.cells #[.int .i64 R, .bool Q] 29)) := (B2.out.alloc B2.out.size _).alloc (by have := B2.out.size; simp; omega) _
    refine (HR.out _ _ (hasInts_keep HH0.out B2') g0).mono ?_
    rintro e w3 ⟨a3, cp3, rfl, hy, hb3⟩
    have p0 := cell_below hb3 (r0 _ _)
    have p1 := cell_below hb3 (r1 _ _)
    have p2 := cell_below hb3 (r2 _ _)
    have p3 := cell_below hb3 (r3 _ _)
    have p4 := cell_below hb3 (r4 _ _)
    have p5 := cell_below hb3 (r5 _ _)
    have p6 := cell_below hb3 (r6 _ _)
    have p7 : w3.cell? ⟨w2.heap.size, 0, none⟩ = some (.slice a2 L0 cp2) := cell_below hb3 (cell_alloc _ (by rw [World.cell?_alloc_at _ _ _ _ rfl]; rfl))
    have p8 : w3.cell? ⟨w2.heap.size + 1, 0, none⟩ = some (.int .i64 R) := cell_below hb3 (by rw [World.cell?_alloc_at _ _ _ _ (by simp)]; rfl)
    have p9 : w3.cell? ⟨w2.heap.size + 1, 1, none⟩ = some (.bool Q) := cell_below hb3 (by rw [World.cell?_alloc_at _ _ _ _ (by simp)]; rfl)
    have B3 : Hid (Below w.heap.size w w3) := Lib.hid (B2'.trans (hb3.mono B2'.size))
    have hx3 := hasInts_keep (hasInts_keep HX.out (((Below.refl _ _).alloc (Nat.le_refl _) _).alloc (by simp) _)) hb3
    clear HX
    have HX := Lib.hid hx3
    have HY := Lib.hid hy
    clear hb3 hx3 hy B2 B2' q0 q1 q2 q3 q4 q5 q6 r0 r1 r2 r3 r4 r5 r6
    go_wp2
    obtain ⟨wr, HWR⟩ : ∃ wr, wr = ((w3.alloc (.cells #[.slice a3 L0 cp3] 24)).alloc (.cells #[.int .i64 R, .bool Q] 29)) := ⟨_, rfl⟩
    rw [← HWR]
    have c0 : wr.cell? _ = _ := HWR ▸ cell_alloc _ (cell_alloc _ p0)
    have c1 : wr.cell? _ = _ := HWR ▸ cell_alloc _ (cell_alloc _ p1)
    have c2 : wr.cell? _ = _ := HWR ▸ cell_alloc _ (cell_alloc _ p2)
    have c3 : wr.cell? _ = _ := HWR ▸ cell_alloc _ (cell_alloc _ p3)
    have c4 : wr.cell? _ = _ := HWR ▸ cell_alloc _ (cell_alloc _ p4)
    have c5 : wr.cell? _ = _ := HWR ▸ cell_alloc _ (cell_alloc _ p5)
    have c6 : wr.cell? _ = _ := HWR ▸ cell_alloc _ (cell_alloc _ p6)
    have c7 : wr.cell? _ = _ := HWR ▸ cell_alloc _ (cell_alloc _ p7)
    have c8 : wr.cell? _ = _ := HWR ▸ cell_alloc _ (cell_alloc _ p8)
    have c9 : wr.cell? _ = _ := HWR ▸ cell_alloc _ (cell_alloc _ p9)
    have c10 : wr.cell? ⟨w3.heap.size, 0, none⟩ = some (.slice a3 L0 cp3) := HWR ▸ cell_alloc _ (by rw [World.cell?_alloc_at _ _ _ _ rfl]; rfl)
    have c11 : wr.cell? ⟨w3.heap.size + 1, 0, none⟩ = some (.int .i64 R) := by rw [HWR]; rw [World.cell?_alloc_at _ _ _ _ (by simp)]; rfl
    have c12 : wr.cell? ⟨w3.heap.size + 1, 1, none⟩ = some (.bool Q) := by rw [HWR]; rw [World.cell?_alloc_at _ _ _ _ (by simp)]; rfl
    have b3r : Below w3.heap.size w3 wr := HWR ▸ (((Below.refl _ _).alloc (Nat.le_refl _) _).alloc (by simp) _)
    have BR : Hid (Below w.heap.size w wr) := Lib.hid (B3.out.trans (b3r.mono B3.out.size))
    have X0 := Lib.hid (hasInts_keep HH0.out BR.out)
    have X1 := Lib.hid (hasInts_keep HH1.out BR.out)
    have X2 := Lib.hid (hasInts_keep HX.out b3r)
    have X3 := Lib.hid (hasInts_keep HY.out b3r)
    have HK : Hid (∀ w' : World, Below wr.heap.size wr w' → w'.cell? ⟨w.heap.size, 0, none⟩ = some (.slice a0 L0 cap0) ∧ w'.cell? ⟨w.heap.size + 1, 0, none⟩ = some (.slice a1 L1 cap1) ∧
        w'.cell? ⟨w.heap.size + 1 + 1, 0, none⟩ = some (.int .i64 k) ∧ w'.cell? ⟨w.heap.size + 1 + 1, 1, none⟩ = some (.int .i64 c) ∧ w'.cell? ⟨w.heap.size + 1 + 1, 2, none⟩ = some (.int .i64 o) ∧
        w'.cell? ⟨w.heap.size + 1 + 1, 3, none⟩ = some (.int .i64 n) ∧ w'.cell? ⟨w.heap.size + 1 + 1, 4, none⟩ = some (.string b) ∧
        w'.cell? ⟨w2.heap.size, 0, none⟩ = some (.slice a2 L0 cp2) ∧ w'.cell? ⟨w2.heap.size + 1, 0, none⟩ = some (.int .i64 R) ∧ w'.cell? ⟨w2.heap.size + 1, 1, none⟩ = some (.bool Q) ∧
        w'.cell? ⟨w3.heap.size, 0, none⟩ = some (.slice a3 L0 cp3) ∧ w'.cell? ⟨w3.heap.size + 1, 0, none⟩ = some (.int .i64 R) ∧ w'.cell? ⟨w3.heap.size + 1, 1, none⟩ = some (.bool Q)) :=
      Lib.hid (fun w' hb => ⟨cell_below hb c0, cell_below hb c1, cell_below hb c2, cell_below hb c3, cell_below hb c4, cell_below hb c5, cell_below hb c6, cell_below hb c7, cell_below hb c8, cell_below hb c9, cell_below hb c10, cell_below hb c11, cell_below hb c12⟩)
    have hre : ∀ w, (binOp .eql 29 (.agg #[.int .i64 R, .bool Q]) (.agg #[.int .i64 R, .bool Q])).run Try.prog w = .ok (.bool true) w := fun w => by rw [res_eql]; simp
    have HSA : Hid (∀ (v u : Value) (zs ys : List Int) (w : World), HasInts w v zs → HasInts w u ys → Calls Try.prog 14 #[.agg #[v], .agg #[u]] w fun e w' => e = .returned (.bool (decide (zs = ys))) ∧ Below w.heap.size w w') := Lib.hid same_any
    clear b3r HX HY HH0 HH1 c0 c1 c2 c3 c4 c5 c6 c7 c8 c9 c10 c11 c12 p0 p1 p2 p3 p4 p5 p6 p7 p8 p9 HD HR B3
    have HWR' := Lib.hid HWR
    clear HWR
    go_region_held3 (fun w' => w'.cell? ⟨w.heap.size, 0, none⟩ = some (.slice a0 L0 cap0) ∧ w'.cell? ⟨w.heap.size + 1, 0, none⟩ = some (.slice a1 L1 cap1) ∧
        w'.cell? ⟨w.heap.size + 1 + 1, 0, none⟩ = some (.int .i64 k) ∧ w'.cell? ⟨w.heap.size + 1 + 1, 1, none⟩ = some (.int .i64 c) ∧ w'.cell? ⟨w.heap.size + 1 + 1, 2, none⟩ = some (.int .i64 o) ∧
        w'.cell? ⟨w.heap.size + 1 + 1, 3, none⟩ = some (.int .i64 n) ∧ w'.cell? ⟨w.heap.size + 1 + 1, 4, none⟩ = some (.string b) ∧
        w'.cell? ⟨w2.heap.size, 0, none⟩ = some (.slice a2 L0 cp2) ∧ w'.cell? ⟨w2.heap.size + 1, 0, none⟩ = some (.int .i64 R) ∧ w'.cell? ⟨w2.heap.size + 1, 1, none⟩ = some (.bool Q) ∧
        w'.cell? ⟨w3.heap.size, 0, none⟩ = some (.slice a3 L0 cp3) ∧ w'.cell? ⟨w3.heap.size + 1, 0, none⟩ = some (.int .i64 R) ∧ w'.cell? ⟨w3.heap.size + 1, 1, none⟩ = some (.bool Q))
      (first
        | exact HK.out _ hB
        | exact HK.out _ ((Below.refl _ _).drew))
      (((first
        | (go_at_call 12; refine (HT.out _).mono ?_; rintro e w4 ⟨rfl, hb⟩)
        | (go_at_call 13; refine (HU.out _).mono ?_; rintro e w4 ⟨rfl, hb⟩)
        | (go_at_call 14; refine (same_any _ _ _ _ _ (by first | exact hasInts_keep X0.out hB | exact hasInts_keep X0.out ((Below.refl _ _).drew)) (by first | exact hasInts_keep X1.out hB | exact hasInts_keep X1.out ((Below.refl _ _).drew))).mono ?_; rintro e w4 ⟨rfl, hb⟩)
        | (go_at_call 15; refine (rsame_any _ _ z0 z1 _ (by first | exact hasInts_keep X0.out hB | exact hasInts_keep X0.out ((Below.refl _ _).drew)) (by first | exact hasInts_keep X1.out hB | exact hasInts_keep X1.out ((Below.refl _ _).drew))).mono ?_; rintro e w4 ⟨rfl, hb⟩)
        | (go_at_call 15; refine (rsame_any _ _ Z Z _ (by first | exact hasInts_keep X2.out hB | exact hasInts_keep X2.out ((Below.refl _ _).drew)) (by first | exact hasInts_keep X3.out hB | exact hasInts_keep X3.out ((Below.refl _ _).drew))).mono ?_; rintro e w4 ⟨rfl, hb⟩));
            (first | (refine cont (below_then hB hb) ?_; clear hB hb; intro hB) | (refine cont (below_then ((Below.refl wr.heap.size wr).drew) hb) ?_; clear hb; intro hB))))
    all_goals go_wp2
    all_goals go_ret
    all_goals exact ⟨rfl, BR.out.trans (hB.mono BR.out.size)⟩
  · go_enter Try.func3, Try.ntmps3
    go_wp2_with fail
    refine (sane_any _).mono ?_
    rintro e w1 ⟨rfl, hb1⟩
    have B1 : Hid (Below w.heap.size w w1) := Lib.hid (by
      refine (?_ : Below w.heap.size w _).trans (hb1.mono (by simp; omega))
      repeat (first | with_reducible exact Below.refl _ _ | with_reducible refine Below.alloc ?_ (by first | omega | (simp; omega) | simp) _))
    have p0 : w1.cell? ⟨w.heap.size, 0, none⟩ = some (.slice a0 L0 cap0) := cell_below hb1 (cell_alloc _ (cell_alloc _ (by rw [World.cell?_alloc_at _ _ _ _ rfl]; rfl)))
    have p1 : w1.cell? ⟨w.heap.size + 1, 0, none⟩ = some (.slice a1 L1 cap1) := cell_below hb1 (cell_alloc _ (by rw [World.cell?_alloc_at _ _ _ _ (by simp)]; rfl))
    clear hb1
    rcases (by omega : 200 < L0 ∨ (L0 ≤ 200 ∧ 200 < L1)) with g0 | ⟨g0, g1⟩
    all_goals clear hlen
    all_goals go_wp2_with fail
    all_goals go_ret
    all_goals exact ⟨rfl, B1.out⟩

theorem own : ownKnob Try.prog.godebug = none := by kernel_rfl
theorem laidOut : laidOutB Try.prog = true := by kernel_rfl

set_option maxRecDepth 100000 in
theorem lifted (os : Os) (started : os.Started) (H : Type) (enc : TypeId × Value → H) :
    ReturnsInHanded {} Try.checked os 3 .any (Rows.memMatchesSpecSpec.pre6 enc Try.prog Try.f3 Rows.memMatchesSpecRow.domain false) (Rows.memMatchesSpecSpec.post enc Try.prog Try.f3 false true false false) := by
  refine returnsInHanded_of_change (C := Try.checked) own started (by kernel_rfl) Try.func3
    (ChangeSpec.witness6 (enc := enc) (C := Try.checked) false ⟨#[], #[.agg #[.slice none 0 0], .agg #[.slice none 0 0], .agg #[.int .i64 0, .int .i64 0, .int .i64 0, .int .i64 0, .string ByteArray.empty]], []⟩ 8 (by kernel_rfl) (by kernel_rfl) (by kernel_rfl) (by kernel_rfl)) ?_
  intro W base args ds gs before hval0 hW hcnd _
  have hval : ∀ (j : Nat) t v, Try.f3.params[j]? = some t → args[j]? = some v → Value.okWide Try.prog W .any base t v := hval0
  have hW' := hW
  obtain ⟨p, q, hA0, hV, rfl, hfz, hnd⟩ := hW
  have hA : DataW.TrodAll enc Try.prog W 0 (fun _ => true) true Try.f3.params.toList args.toList ds p := hA0
  rw [Try.params3] at hA hval
  obtain ⟨v0, vs0, d0, ds0, p0, q0, hargs, rfl, rfl, h0, r0⟩ := trodAll_cons hA
  obtain ⟨v1, vs1, d1, ds1, p1, q1, rfl, rfl, rfl, h1, r1⟩ := trodAll_cons r0
  obtain ⟨v2, vs2, d2, ds2, p2, q2, rfl, rfl, rfl, h2, r2⟩ := trodAll_cons r1
  obtain ⟨rfl, rfl, rfl⟩ := trodAll_nil r2
  obtain rfl : args = #[v0, v1, v2] := by cases args; simp_all
  obtain ⟨rfl, rfl⟩ := trodVars_none hV
  clear hA0 hval0
  simp only [List.append_nil] at hW'
  have lt0 : ∀ x ∈ p0, x.block < W.heap.size := fun x hx => hW'.lt x (by simp [hx])
  have lt1 : ∀ x ∈ p1, x.block < W.heap.size := fun x hx => hW'.lt x (by simp [hx])
  have lt2 : ∀ x ∈ p2, x.block < W.heap.size := fun x hx => hW'.lt x (by simp [hx])
  have back0 : ∀ W', Below W.heap.size W W' → DataW.Trod enc Try.prog W' 0 (fun b => decide (b < W.heap.size)) true 24 v0 d0 p0 := fun W' hb => Below.trod laidOut (by kernel_rfl) (of_decide_eq_true (by kernel_rfl)) h0 hb lt0
  have back1 : ∀ W', Below W.heap.size W W' → DataW.Trod enc Try.prog W' 0 (fun b => decide (b < W.heap.size)) true 24 v1 d1 p1 := fun W' hb => Below.trod laidOut (by kernel_rfl) (of_decide_eq_true (by kernel_rfl)) h1 hb lt1
  have back2 : ∀ W', Below W.heap.size W W' → DataW.Trod enc Try.prog W' 0 (fun b => decide (b < W.heap.size)) true 26 v2 d2 p2 := fun W' hb => Below.trod laidOut (by kernel_rfl) (of_decide_eq_true (by kernel_rfl)) h2 hb lt2
  obtain ⟨s0, z0, rfl, k0⟩ := open_mem (hval 0 24 v0 rfl rfl) h0
  obtain ⟨s1, z1, rfl, k1⟩ := open_mem (hval 1 24 v1 rfl rfl) h1
  obtain ⟨ka2, kc2, ko2, kn2, kb2, rfl, ia2, ic2, io2, in2⟩ := open_acc (hval 2 26 v2 rfl rfl) h2
  refine (walk W s0 z0 k0 s1 z1 k1 ka2 kc2 ko2 kn2 kb2 ia2 ic2 io2 in2).mono fun e W' ⟨he, hg⟩ => ?_
  subst he
  exact ⟨_, rfl, _, _, _, [], _, [], hW', (trodAll_cons_mk (shut_bool Try.underlying4 _) trodAll_mk0), (trodAll_cons_mk (back0 _ hg) (trodAll_cons_mk (back1 _ hg) (trodAll_cons_mk (back2 _ hg) trodAll_mk0))), rfl, hg.frame _, fun h => by cases h⟩

theorem over : Rows.memMatchesSpecRow.holds Try.pinned (OpenSpec.ofChange Rows.memMatchesSpecSpec) :=
  OpenClaim.holds_of_wide 3 Try.f3 rfl rfl rfl rfl rfl rfl rfl ⟨rfl, rfl, rfl, rfl, rfl⟩ rfl rfl rfl rfl rfl (by kernel_rfl) Try.func3 (by kernel_rfl)
    (of_decide_eq_true (by kernel_rfl)) (by unfold Func.isWrapper; first | (rw [if_pos (by decide +kernel)]; kernel_rfl) | (rw [if_neg (by decide +kernel)]; exact ⟨rfl, rfl⟩))
    (fun os started H enc _ => lifted os started H enc)

/-- The given statement. -/
theorem proved : Rows.MemMatchesSpecSaid :=
  over
#print axioms proved
end Go.Proofs.Ytckfbcjoehjdoaa.memMatchesSpec
