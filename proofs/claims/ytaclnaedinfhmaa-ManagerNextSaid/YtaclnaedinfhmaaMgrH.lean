
/-
  Layer 17: what the reference's Next returns.
-/
import Derived.Test.YtaclnaedinfhmaaRows
import Derived.Test.YtaclnaedinfhmaaBase
import Derived.Test.YtaclnaedinfhmaaAux
import Derived.Test.YtaclnaedinfhmaaWord2
import Derived.Test.YtaclnaedinfhmaaLayA
import Derived.Test.YtaclnaedinfhmaaStepC
import Derived.Test.YtaclnaedinfhmaaStepD
import Derived.Test.YtaclnaedinfhmaaTake
import Derived.Test.YtaclnaedinfhmaaStepF
import Derived.Test.YtaclnaedinfhmaaMgrA
import Derived.Test.YtaclnaedinfhmaaMgrB
import Derived.Test.YtaclnaedinfhmaaCurA
import Derived.Test.YtaclnaedinfhmaaCurB
import Derived.Test.YtaclnaedinfhmaaCurC
import Derived.Test.YtaclnaedinfhmaaCurD
import Derived.Test.YtaclnaedinfhmaaStepG
import Derived.Test.YtaclnaedinfhmaaMgrE
import Derived.Test.YtaclnaedinfhmaaMgrF
import Derived.Test.YtaclnaedinfhmaaMgrG
import Derived.WalkKit
import Derived.WalkLawsBesides
import Derived.Lib.Hide
namespace Go.Proofs.Ytaclnaedinfhmaa
set_option linter.unusedVariables false
set_option linter.unusedSimpArgs false
set_option maxRecDepth 100000
set_option maxHeartbeats 4000000
open Go.ChangeShapes Go.WideShapes Go.ChangeAt Go.RowKit


theorem res2_keepB {w w' : World} {B B0 : Nat} (h : Res2 w B) (hb : Below B0 w w') (hB : B + 1 < B0) : Res2 w' B := by
  have c : ∀ (b o : Nat) (v : Value), b < B0 → w.cell? ⟨b, o, none⟩ = some v → w'.cell? ⟨b, o, none⟩ = some v := fun b o v hb2 hv => (hb.cell (p := ⟨b, o, none⟩) hb2).trans hv
  have f : ∀ (b o : Nat), b < B0 → w.frozen? ⟨b, o, none⟩ = false → w'.frozen? ⟨b, o, none⟩ = false := fun b o hb2 hv => (hb.frozen (p := ⟨b, o, none⟩) hb2).trans hv
  exact ⟨c _ _ _ (by omega) h.a0, c _ _ _ (by omega) h.a1, c _ _ _ (by omega) h.a2, c _ _ _ (by omega) h.a3, c _ _ _ (by omega) h.a4, ⟨c _ _ _ hB h.oz.c0, c _ _ _ hB h.oz.c1, c _ _ _ hB h.oz.c2, c _ _ _ hB h.oz.c3, c _ _ _ hB h.oz.c4, c _ _ _ hB h.oz.c5, c _ _ _ hB h.oz.c6, fun o => f _ _ hB (h.oz.fr o)⟩, fun o => f _ _ (by omega) (h.fa o)⟩

theorem rmnext_me (w : World) (L : Ly) (me : Int) (kind a b ty : Int) (m : Ct) (sa wa da : Option Addr) (sl sc wl wc dl dc : Nat) (a0 : Option Addr) (l0 c0 : Nat) (hme : a = me) : Calls Try.prog 34 #[L.v, .int .i64 me, .agg #[.int .i64 kind, .int .i64 a, .int .i64 b, .int .i64 ty, .int .i64 m.s, .int .i64 m.k, .int .i64 m.a, .slice sa sl sc, .slice wa wl wc, .slice da dl dc], .slice a0 l0 c0] w fun e w' => e = .returned (nextV (.inr { err := 1 })) ∧ Below w.heap.size w w' := by
  have hq2 : (a == me) = true := by simp [hme]
  clear hme
  unfold Ly.v
  go_enter Try.func34, Try.ntmps34
  go_wp2
  simp [bodyPost, results, Try.results34, go_sem, nextV, OutD.v, Ask.v, ask0, ByteArray.empty, ByteArray.emptyWithCapacity, World.cell?_alloc_at, World.cell?_alloc_past]
  exact ⟨rfl, below_alloc3 (below_alloc2 (Below.refl _ _))⟩

theorem rmnext_lo (w : World) (L : Ly) (hok : L.ok) (me p : Int) (kind a b ty : Int) (m : Ct) (sa wa da : Option Addr) (sl sc wl wc dl dc : Nat) (a0 : Option Addr) (l0 c0 : Nat) (hp : atStatus L a = p) (hlt : p < 0) (hme : ¬a = me) : Calls Try.prog 34 #[L.v, .int .i64 me, .agg #[.int .i64 kind, .int .i64 a, .int .i64 b, .int .i64 ty, .int .i64 m.s, .int .i64 m.k, .int .i64 m.a, .slice sa sl sc, .slice wa wl wc, .slice da dl dc], .slice a0 l0 c0] w fun e w' => e = .returned (nextV (.inr { err := 1 })) ∧ Below w.heap.size w w' := by
  have HS : Hid (∀ w, Calls Try.prog 62 #[L.v, .int .i64 a] w fun e w' => e = .returned (.int .i64 p) ∧ Below w.heap.size w w') := Lib.hid (fun w => by rw [← hp]; exact rstatus_any L a w hok)
  unfold Ly.v at HS ⊢
  have hq : decide (p < 0) = true := by simp; omega
  have hq2 : (a == me) = false := by simp [hme]
  clear hp hlt hme
  have HB : Below w.heap.size w w := Below.refl _ _
  have hS0 : w.heap.size ≤ w.heap.size := Nat.le_refl _
  go_enter Try.func34, Try.ntmps34
  go_wp2_with fail
  obtain ⟨w1, hwr⟩ : ∃ W, W = (((((w.alloc (.cells #[.int .i64 L.c.t, .int .i64 L.c.l, .int .i64 L.c.k, .int .i64 L.c.s, .int .i64 L.c.m, .int .i64 L.clock, .int .i64 L.stamps, .int .i64 L.log, .int .i64 L.fin, .int .i64 L.thread, .int .i64 L.lock, .int .i64 L.loc, .int .i64 L.size] 41)).alloc (.cells #[.int .i64 kind, .int .i64 a, .int .i64 b, .int .i64 ty, .int .i64 m.s, .int .i64 m.k, .int .i64 m.a, .slice sa sl sc, .slice wa wl wc, .slice da dl dc] 28)).alloc (.cells #[.int .i64 0, .int .i64 0, .int .i64 0, .int .i64 0, .string ⟨#[]⟩] 32)).alloc (.cells #[.int .i64 0, .int .i64 0, .int .i64 0, .int .i64 0, .bool false, .bool false, .int .i64 0] 35)).alloc (.cells #[.slice a0 l0 c0, .int .i64 0, .int .i64 0, .int .i64 0, .int .i64 0, .int .i64 0, .string ⟨#[]⟩, .bool false] 100)) := ⟨_, rfl⟩
  rw [← hwr]
  have hb : Below w.heap.size w w1 := by rw [hwr]; exact (Below.alloc (Below.alloc (Below.alloc (Below.alloc (Below.alloc (Below.refl _ _) (by first | exact Nat.le_refl _ | (simp; omega) | simp) _) (by first | exact Nat.le_refl _ | (simp; omega) | simp) _) (by first | exact Nat.le_refl _ | (simp; omega) | simp) _) (by first | exact Nat.le_refl _ | (simp; omega) | simp) _) (by first | exact Nat.le_refl _ | (simp; omega) | simp) _)
  have ll : CellsAt w1 (w.heap.size) [.int .i64 L.c.t, .int .i64 L.c.l, .int .i64 L.c.k, .int .i64 L.c.s, .int .i64 L.c.m, .int .i64 L.clock, .int .i64 L.stamps, .int .i64 L.log, .int .i64 L.fin, .int .i64 L.thread, .int .i64 L.lock, .int .i64 L.loc, .int .i64 L.size] := by rw [hwr]; exact (cellsAt_alloc (cellsAt_alloc (cellsAt_alloc (cellsAt_alloc (cellsAt_new' w _ _ (w.heap.size) (by simp)) _) _) _) _)
  have llz : w.heap.size < w1.heap.size := World.block_lt_of_cell? _ _ (ll 0 _ rfl)
  have op : CellsAt w1 (w.heap.size + 1) [.int .i64 kind, .int .i64 a, .int .i64 b, .int .i64 ty, .int .i64 m.s, .int .i64 m.k, .int .i64 m.a, .slice sa sl sc, .slice wa wl wc, .slice da dl dc] := by rw [hwr]; exact (cellsAt_alloc (cellsAt_alloc (cellsAt_alloc (cellsAt_new' (w.alloc (.cells #[.int .i64 L.c.t, .int .i64 L.c.l, .int .i64 L.c.k, .int .i64 L.c.s, .int .i64 L.c.m, .int .i64 L.clock, .int .i64 L.stamps, .int .i64 L.log, .int .i64 L.fin, .int .i64 L.thread, .int .i64 L.lock, .int .i64 L.loc, .int .i64 L.size] 41)) _ _ (w.heap.size + 1) (by simp)) _) _) _)
  have opz : w.heap.size + 1 < w1.heap.size := World.block_lt_of_cell? _ _ (op 0 _ rfl)
  have rs : Res2 w1 (w.heap.size + 1 + 1) := by rw [hwr]; exact (Res2.alloc (Res2.new ((w.alloc (.cells #[.int .i64 L.c.t, .int .i64 L.c.l, .int .i64 L.c.k, .int .i64 L.c.s, .int .i64 L.c.m, .int .i64 L.clock, .int .i64 L.stamps, .int .i64 L.log, .int .i64 L.fin, .int .i64 L.thread, .int .i64 L.lock, .int .i64 L.loc, .int .i64 L.size] 41)).alloc (.cells #[.int .i64 kind, .int .i64 a, .int .i64 b, .int .i64 ty, .int .i64 m.s, .int .i64 m.k, .int .i64 m.a, .slice sa sl sc, .slice wa wl wc, .slice da dl dc] 28)) _ _ (w.heap.size + 1 + 1) (by simp)) _)
  have rsz : w.heap.size + 1 + 1 < w1.heap.size := Res2.lt0 rs
  have rsy : w.heap.size + 1 + 1 + 1 < w1.heap.size := Res2.lt1 rs
  have cu : CellsAt w1 (w.heap.size + 1 + 1 + 1 + 1) [.slice a0 l0 c0, .int .i64 0, .int .i64 0, .int .i64 0, .int .i64 0, .int .i64 0, .string ⟨#[]⟩, .bool false] := by rw [hwr]; exact (cellsAt_new' ((((w.alloc (.cells #[.int .i64 L.c.t, .int .i64 L.c.l, .int .i64 L.c.k, .int .i64 L.c.s, .int .i64 L.c.m, .int .i64 L.clock, .int .i64 L.stamps, .int .i64 L.log, .int .i64 L.fin, .int .i64 L.thread, .int .i64 L.lock, .int .i64 L.loc, .int .i64 L.size] 41)).alloc (.cells #[.int .i64 kind, .int .i64 a, .int .i64 b, .int .i64 ty, .int .i64 m.s, .int .i64 m.k, .int .i64 m.a, .slice sa sl sc, .slice wa wl wc, .slice da dl dc] 28)).alloc (.cells #[.int .i64 0, .int .i64 0, .int .i64 0, .int .i64 0, .string ⟨#[]⟩] 32)).alloc (.cells #[.int .i64 0, .int .i64 0, .int .i64 0, .int .i64 0, .bool false, .bool false, .int .i64 0] 35)) _ _ (w.heap.size + 1 + 1 + 1 + 1) (by simp))
  have cuz : w.heap.size + 1 + 1 + 1 + 1 < w1.heap.size := World.block_lt_of_cell? _ _ (cu 0 _ rfl)
  replace HB := hb
  clear hb hwr
  replace hS0 := HB.size
  have op_1 := op 1 _ rfl
  have op_2 := op 2 _ rfl
  have op_4 := op 4 _ rfl
  have op_5 := op 5 _ rfl
  have op_6 := op 6 _ rfl
  have cu_0 := cu 0 _ rfl
  have cu_1 := cu 1 _ rfl
  have cu_2 := cu 2 _ rfl
  have cu_3 := cu 3 _ rfl
  have cu_4 := cu 4 _ rfl
  have cu_5 := cu 5 _ rfl
  have cu_6 := cu 6 _ rfl
  have cu_7 := cu 7 _ rfl
  go_wp2_with (first | ((with_reducible refine ld_lay ll rfl ?a1 ?h1); (case a1 => exact ⟨_, rfl, rfl, rfl⟩)))
  ((with_reducible refine (HS.out _).mono ?_); rintro e w2 ⟨rfl, hb⟩)
  clear op_1 op_2 op_4 op_5 op_6
  clear cu_0 cu_1 cu_2 cu_3 cu_4 cu_5 cu_6 cu_7
  have hsz := hb.size
  (try simp at hsz)
  replace ll := cellsAt_keep ll hb
  replace op := cellsAt_keep op hb
  replace rs := Res2.below rs hb
  replace cu := cellsAt_keep cu hb
  replace llz : w.heap.size < w2.heap.size := by omega
  replace opz : w.heap.size + 1 < w2.heap.size := by omega
  replace rsz : w.heap.size + 1 + 1 < w2.heap.size := by omega
  replace rsy : w.heap.size + 1 + 1 + 1 < w2.heap.size := by omega
  replace cuz : w.heap.size + 1 + 1 + 1 + 1 < w2.heap.size := by omega
  replace HB := Below.trans HB (hb.mono (by first | omega | (simp; done) | (simp; omega)))
  clear hb hsz
  replace hS0 := HB.size
  have op_1 := op 1 _ rfl
  have op_2 := op 2 _ rfl
  have op_4 := op 4 _ rfl
  have op_5 := op 5 _ rfl
  have op_6 := op 6 _ rfl
  have cu_0 := cu 0 _ rfl
  have cu_1 := cu 1 _ rfl
  have cu_2 := cu 2 _ rfl
  have cu_3 := cu 3 _ rfl
  have cu_4 := cu 4 _ rfl
  have cu_5 := cu 5 _ rfl
  have cu_6 := cu 6 _ rfl
  have cu_7 := cu 7 _ rfl
  have pa0 := rs.a0
  have pa1 := rs.a1
  have pa2 := rs.a2
  have pa3 := rs.a3
  have pa4 := rs.a4
  have oq0 := rs.oz.c0
  have oq1 := rs.oz.c1
  have oq2 := rs.oz.c2
  have oq3 := rs.oz.c3
  have oq4 := rs.oz.c4
  have oq5 := rs.oz.c5
  have oq6 := rs.oz.c6
  have of := rs.oz.fr
  have fa := rs.fa
  go_wp2_with (first | ((with_reducible refine ld_lay ll rfl ?a2 ?h2); (case a2 => exact ⟨_, rfl, rfl, rfl⟩)))
  obtain ⟨W, hW, k0, k1, k2, k3, k4, k5, k6, k7, k8, k9, k10, k11⟩ := res2_at rs (.int .i64 0) (.int .i64 0) (.int .i64 0) (.int .i64 0) (.string ⟨#[]⟩) (.int .i64 0) (.int .i64 0) (.int .i64 0) (.int .i64 0) (.bool false) (.bool false) (.int .i64 1)
  rw [← hW]
  simp [bodyPost, results, Try.results34, go_sem, k0, k1, k2, k3, k4, k5, k6, k7, k8, k9, k10, k11, nextV, OutD.v, Ask.v, ask0, out0, ByteArray.empty, ByteArray.emptyWithCapacity]
  rw [hW]
  exact ⟨rfl, res2_below HB (by omega) _ _ _ _ _ _ _ _ _ _ _ _⟩

theorem rmnext_run (w : World) (L : Ly) (hok : L.ok) (me p : Int) (kind a b ty : Int) (m : Ct) (sa wa da : Option Addr) (sl sc wl wc dl dc : Nat) (a0 : Option Addr) (l0 c0 : Nat) (l : List (Int × Bool)) (hv : LogOf w (.slice a0 l0 c0) l) (hlen : l.length ≤ 1000000) (hI : ∀ x ∈ l, I64 x.1) (hp : atStatus L a = p) (hlt : ¬p < 0) (hme : ¬a = me) : Calls Try.prog 34 #[L.v, .int .i64 me, .agg #[.int .i64 kind, .int .i64 a, .int .i64 b, .int .i64 ty, .int .i64 m.s, .int .i64 m.k, .int .i64 m.a, .slice sa sl sc, .slice wa wl wc, .slice da dl dc], .slice a0 l0 c0] w fun e w' => e = .returned (nextV ((resolveT L me a (b == 1) m).run l)) ∧ Below w.heap.size w w' := by
  have HS : Hid (∀ w, Calls Try.prog 62 #[L.v, .int .i64 a] w fun e w' => e = .returned (.int .i64 p) ∧ Below w.heap.size w w') := Lib.hid (fun w => by rw [← hp]; exact rstatus_any L a w hok)
  obtain ⟨T, hT⟩ : ∃ T, T = resolveT L me a (b == 1) m := ⟨_, rfl⟩
  have HA : Hid (∀ w g, CurAt w g (l, none) → Calls Try.prog 63 #[.pointer (some ⟨g, 0, none⟩), L.v, .int .i64 me, .int .i64 a, .bool (b == 1), m.v] w (AskPost T g (l, none) w)) := Lib.hid (fun w g h => by rw [hT]; exact ask_any w g L hok me a (b == 1) m (l, none) h hI)
  rw [← hT]
  have hl0 : l0 = l.length := by
    obtain ⟨_, _, he, _⟩ := hv
    simp only [Value.slice.injEq] at he
    exact he.2.1
  have HLN := Lib.hid hlen
  have HL0 := Lib.hid hl0
  unfold AskPost at HA
  unfold Ly.v at HS HA ⊢
  unfold Ct.v at HA
  have hq : decide (p < 0) = false := by simp; omega
  have hq2 : (a == me) = false := by simp [hme]
  have hv0 : ∀ b' o', a0 = some ⟨b', o', none⟩ → l.length ≠ 0 → w.cell? ⟨b', o', none⟩ = some (.int .i64 (l.getD 0 (0, false)).1) := by
    intro b' o' ha hz
    obtain ⟨a1, c1, he, g1, g2, g3⟩ := hv
    simp only [Value.slice.injEq] at he
    obtain ⟨rfl, _, rfl⟩ := he
    rcases g3 with g3 | ⟨b2, o2, ha2, g3⟩
    · exact absurd g3 hz
    · rw [ha] at ha2
      simp at ha2
      obtain ⟨rfl, rfl⟩ := ha2
      have := (g3 0 (by omega)).1
      simpa using this
  obtain ⟨k, p1, o, n, v0, v1, v2, v3, b4, b5, v6, d, hxx⟩ := nextV_form (T.run l)
  have HXX := Lib.hid hxx
  rw [hxx]
  clear hp hlt hme hT hI hlen hl0 hxx
  have HB : Below w.heap.size w w := Below.refl _ _
  have hS0 : w.heap.size ≤ w.heap.size := Nat.le_refl _
  go_enter Try.func34, Try.ntmps34
  go_wp2_with fail
  obtain ⟨w1, hwr⟩ : ∃ W, W = (((((w.alloc (.cells #[.int .i64 L.c.t, .int .i64 L.c.l, .int .i64 L.c.k, .int .i64 L.c.s, .int .i64 L.c.m, .int .i64 L.clock, .int .i64 L.stamps, .int .i64 L.log, .int .i64 L.fin, .int .i64 L.thread, .int .i64 L.lock, .int .i64 L.loc, .int .i64 L.size] 41)).alloc (.cells #[.int .i64 kind, .int .i64 a, .int .i64 b, .int .i64 ty, .int .i64 m.s, .int .i64 m.k, .int .i64 m.a, .slice sa sl sc, .slice wa wl wc, .slice da dl dc] 28)).alloc (.cells #[.int .i64 0, .int .i64 0, .int .i64 0, .int .i64 0, .string ⟨#[]⟩] 32)).alloc (.cells #[.int .i64 0, .int .i64 0, .int .i64 0, .int .i64 0, .bool false, .bool false, .int .i64 0] 35)).alloc (.cells #[.slice a0 l0 c0, .int .i64 0, .int .i64 0, .int .i64 0, .int .i64 0, .int .i64 0, .string ⟨#[]⟩, .bool false] 100)) := ⟨_, rfl⟩
  rw [← hwr]
  have hb : Below w.heap.size w w1 := by rw [hwr]; exact (Below.alloc (Below.alloc (Below.alloc (Below.alloc (Below.alloc (Below.refl _ _) (by first | exact Nat.le_refl _ | (simp; omega) | simp) _) (by first | exact Nat.le_refl _ | (simp; omega) | simp) _) (by first | exact Nat.le_refl _ | (simp; omega) | simp) _) (by first | exact Nat.le_refl _ | (simp; omega) | simp) _) (by first | exact Nat.le_refl _ | (simp; omega) | simp) _)
  replace hv := logOf_keep hv hb
  have ll : CellsAt w1 (w.heap.size) [.int .i64 L.c.t, .int .i64 L.c.l, .int .i64 L.c.k, .int .i64 L.c.s, .int .i64 L.c.m, .int .i64 L.clock, .int .i64 L.stamps, .int .i64 L.log, .int .i64 L.fin, .int .i64 L.thread, .int .i64 L.lock, .int .i64 L.loc, .int .i64 L.size] := by rw [hwr]; exact (cellsAt_alloc (cellsAt_alloc (cellsAt_alloc (cellsAt_alloc (cellsAt_new' w _ _ (w.heap.size) (by simp)) _) _) _) _)
  have llz : w.heap.size < w1.heap.size := World.block_lt_of_cell? _ _ (ll 0 _ rfl)
  have op : CellsAt w1 (w.heap.size + 1) [.int .i64 kind, .int .i64 a, .int .i64 b, .int .i64 ty, .int .i64 m.s, .int .i64 m.k, .int .i64 m.a, .slice sa sl sc, .slice wa wl wc, .slice da dl dc] := by rw [hwr]; exact (cellsAt_alloc (cellsAt_alloc (cellsAt_alloc (cellsAt_new' (w.alloc (.cells #[.int .i64 L.c.t, .int .i64 L.c.l, .int .i64 L.c.k, .int .i64 L.c.s, .int .i64 L.c.m, .int .i64 L.clock, .int .i64 L.stamps, .int .i64 L.log, .int .i64 L.fin, .int .i64 L.thread, .int .i64 L.lock, .int .i64 L.loc, .int .i64 L.size] 41)) _ _ (w.heap.size + 1) (by simp)) _) _) _)
  have opz : w.heap.size + 1 < w1.heap.size := World.block_lt_of_cell? _ _ (op 0 _ rfl)
  have rs : Res2 w1 (w.heap.size + 1 + 1) := by rw [hwr]; exact (Res2.alloc (Res2.new ((w.alloc (.cells #[.int .i64 L.c.t, .int .i64 L.c.l, .int .i64 L.c.k, .int .i64 L.c.s, .int .i64 L.c.m, .int .i64 L.clock, .int .i64 L.stamps, .int .i64 L.log, .int .i64 L.fin, .int .i64 L.thread, .int .i64 L.lock, .int .i64 L.loc, .int .i64 L.size] 41)).alloc (.cells #[.int .i64 kind, .int .i64 a, .int .i64 b, .int .i64 ty, .int .i64 m.s, .int .i64 m.k, .int .i64 m.a, .slice sa sl sc, .slice wa wl wc, .slice da dl dc] 28)) _ _ (w.heap.size + 1 + 1) (by simp)) _)
  have rsz : w.heap.size + 1 + 1 < w1.heap.size := Res2.lt0 rs
  have rsy : w.heap.size + 1 + 1 + 1 < w1.heap.size := Res2.lt1 rs
  have cu : CellsAt w1 (w.heap.size + 1 + 1 + 1 + 1) [.slice a0 l0 c0, .int .i64 0, .int .i64 0, .int .i64 0, .int .i64 0, .int .i64 0, .string ⟨#[]⟩, .bool false] := by rw [hwr]; exact (cellsAt_new' ((((w.alloc (.cells #[.int .i64 L.c.t, .int .i64 L.c.l, .int .i64 L.c.k, .int .i64 L.c.s, .int .i64 L.c.m, .int .i64 L.clock, .int .i64 L.stamps, .int .i64 L.log, .int .i64 L.fin, .int .i64 L.thread, .int .i64 L.lock, .int .i64 L.loc, .int .i64 L.size] 41)).alloc (.cells #[.int .i64 kind, .int .i64 a, .int .i64 b, .int .i64 ty, .int .i64 m.s, .int .i64 m.k, .int .i64 m.a, .slice sa sl sc, .slice wa wl wc, .slice da dl dc] 28)).alloc (.cells #[.int .i64 0, .int .i64 0, .int .i64 0, .int .i64 0, .string ⟨#[]⟩] 32)).alloc (.cells #[.int .i64 0, .int .i64 0, .int .i64 0, .int .i64 0, .bool false, .bool false, .int .i64 0] 35)) _ _ (w.heap.size + 1 + 1 + 1 + 1) (by simp))
  have cuz : w.heap.size + 1 + 1 + 1 + 1 < w1.heap.size := World.block_lt_of_cell? _ _ (cu 0 _ rfl)
  have hfz : ∀ o, w1.frozen? ⟨w.heap.size + 1 + 1 + 1 + 1, o, none⟩ = false := fun o => by rw [hwr]; exact World.frozen?_alloc_at _ _ _ _ (by simp)
  replace HB := hb
  clear hb hwr
  replace hS0 := HB.size
  have op_1 := op 1 _ rfl
  have op_2 := op 2 _ rfl
  have op_4 := op 4 _ rfl
  have op_5 := op 5 _ rfl
  have op_6 := op 6 _ rfl
  have cu_0 := cu 0 _ rfl
  have cu_1 := cu 1 _ rfl
  have cu_2 := cu 2 _ rfl
  have cu_3 := cu 3 _ rfl
  have cu_4 := cu 4 _ rfl
  have cu_5 := cu 5 _ rfl
  have cu_6 := cu 6 _ rfl
  have cu_7 := cu 7 _ rfl
  have hcur : CurAt w1 (w.heap.size + 1 + 1 + 1 + 1) (l, none) := by
    have hlz := cuz
    obtain ⟨a1, c1, he, g1, g2, g3⟩ := hv
    simp only [Value.slice.injEq] at he
    obtain ⟨rfl, hln, rfl⟩ := he
    have hll := HL0.out
    refine ⟨a0, c0, 0, l, by rw [← hll]; exact cu_0, cu_1, cu_2, cu_3, cu_4, cu_5, cu_6, cu_7, hfz, Nat.zero_le _, rfl, HLN.out, ?_⟩
    rcases g3 with g3 | ⟨b', o', rfl, g3⟩
    · exact Or.inl g3
    · by_cases hz : l.length = 0
      · exact Or.inl hz
      · exact Or.inr ⟨b', o', rfl, by have := World.block_lt_of_cell? w ⟨b', o', none⟩ (hv0 b' o' rfl hz); dsimp only at this; omega, g3⟩
  clear hfz
  go_wp2_with (first | ((with_reducible refine ld_lay ll rfl ?a3 ?h3); (case a3 => exact ⟨_, rfl, rfl, rfl⟩)))
  ((with_reducible refine (HS.out _).mono ?_); rintro e w2 ⟨rfl, hb⟩)
  clear op_1 op_2 op_4 op_5 op_6
  clear cu_0 cu_1 cu_2 cu_3 cu_4 cu_5 cu_6 cu_7
  have hsz := hb.size
  (try simp at hsz)
  replace hv := logOf_keep hv hb
  replace ll := cellsAt_keep ll hb
  replace op := cellsAt_keep op hb
  replace rs := Res2.below rs hb
  replace cu := cellsAt_keep cu hb
  replace hcur := curAt_keep hcur hb
  replace llz : w.heap.size < w2.heap.size := by omega
  replace opz : w.heap.size + 1 < w2.heap.size := by omega
  replace rsz : w.heap.size + 1 + 1 < w2.heap.size := by omega
  replace rsy : w.heap.size + 1 + 1 + 1 < w2.heap.size := by omega
  replace cuz : w.heap.size + 1 + 1 + 1 + 1 < w2.heap.size := by omega
  replace HB := Below.trans HB (hb.mono (by first | omega | (simp; done) | (simp; omega)))
  clear hb hsz
  replace hS0 := HB.size
  have op_1 := op 1 _ rfl
  have op_2 := op 2 _ rfl
  have op_4 := op 4 _ rfl
  have op_5 := op 5 _ rfl
  have op_6 := op 6 _ rfl
  have cu_0 := cu 0 _ rfl
  have cu_1 := cu 1 _ rfl
  have cu_2 := cu 2 _ rfl
  have cu_3 := cu 3 _ rfl
  have cu_4 := cu 4 _ rfl
  have cu_5 := cu 5 _ rfl
  have cu_6 := cu 6 _ rfl
  have cu_7 := cu 7 _ rfl
  go_wp2_with (first | ((with_reducible refine ld_lay ll rfl ?a4 ?h4); (case a4 => exact ⟨_, rfl, rfl, rfl⟩)))
  ((with_reducible refine (HA.out _ _ hcur).mono ?_); rintro e w3 ⟨v', b', c', rfl, hr, hc3, hg3⟩)
  clear op_1 op_2 op_4 op_5 op_6
  clear cu_0 cu_1 cu_2 cu_3 cu_4 cu_5 cu_6 cu_7
  have hb3 := gb_to_below hg3 (Nat.le_refl _) (by omega)
  have hs3 := hg3.size
  replace rs := res2_keepB rs hb3 (by omega)
  replace rsz : w.heap.size + 1 + 1 < w3.heap.size := by omega
  replace rsy : w.heap.size + 1 + 1 + 1 < w3.heap.size := by omega
  replace HB := HB.trans (hb3.mono (by omega))
  replace hS0 := HB.size
  have hx0 : toldX ({ val := v', lost := b' }, c') = T.run l := by rw [← told_run T l, hr]
  have HT : Hid (∀ wq, CurAt wq (w.heap.size + 1 + 1 + 1 + 1) c' → Calls Try.prog 49 #[.pointer (some ⟨w.heap.size + 1 + 1 + 1 + 1, 0, none⟩), .agg #[.int .i64 v', .int .i64 0, .int .i64 0, .int .i64 0, .bool false, .bool b', .int .i64 0]] wq fun e w' => e = .returned (nextV (T.run l)) ∧ Below wq.heap.size wq w') := Lib.hid (fun wq h => by rw [← hx0]; exact rtold_any wq _ c' { val := v', lost := b' } h)
  rw [HXX.out] at HT
  clear hb3 hg3 hs3 hx0 hr ll op cu llz opz cuz hcur hv
  go_wp2_with fail
  ((with_reducible refine (HT.out _ hc3).mono ?_); rintro e w4 ⟨rfl, hb⟩)
  have hsz := hb.size
  (try simp at hsz)
  replace rs := Res2.below rs hb
  replace rsz : w.heap.size + 1 + 1 < w4.heap.size := by omega
  replace rsy : w.heap.size + 1 + 1 + 1 < w4.heap.size := by omega
  replace HB := Below.trans HB (hb.mono (by first | omega | (simp; done) | (simp; omega)))
  clear hb hsz
  replace hS0 := HB.size
  have pa0 := rs.a0
  have pa1 := rs.a1
  have pa2 := rs.a2
  have pa3 := rs.a3
  have pa4 := rs.a4
  have oq0 := rs.oz.c0
  have oq1 := rs.oz.c1
  have oq2 := rs.oz.c2
  have oq3 := rs.oz.c3
  have oq4 := rs.oz.c4
  have oq5 := rs.oz.c5
  have oq6 := rs.oz.c6
  have of := rs.oz.fr
  have fa := rs.fa
  go_wp2_with fail
  obtain ⟨W, hW, k0, k1, k2, k3, k4, k5, k6, k7, k8, k9, k10, k11⟩ := res2_at rs (.int .i64 k) (.int .i64 p1) (.int .i64 o) (.int .i64 n) (.string ⟨#[]⟩) (.int .i64 v0) (.int .i64 v1) (.int .i64 v2) (.int .i64 v3) (.bool b4) (.bool b5) (.int .i64 v6)
  rw [← hW]
  simp [bodyPost, results, Try.results34, go_sem, k0, k1, k2, k3, k4, k5, k6, k7, k8, k9, k10, k11, nextV, OutD.v, Ask.v, ask0, out0, ByteArray.empty, ByteArray.emptyWithCapacity]
  rw [hW]
  exact res2_below HB (by omega) _ _ _ _ _ _ _ _ _ _ _ _

theorem rmnext_any (w : World) (L : Ly) (hok : L.ok) (me : Int) (kind a b ty : Int) (m : Ct) (sa wa da : Option Addr) (sl sc wl wc dl dc : Nat) (v : Value) (l : List (Int × Bool)) (hv : LogOf w v l) (hlen : l.length ≤ 1000000) (hI : ∀ x ∈ l, I64 x.1) :
    Calls Try.prog 34 #[L.v, .int .i64 me, .agg #[.int .i64 kind, .int .i64 a, .int .i64 b, .int .i64 ty, .int .i64 m.s, .int .i64 m.k, .int .i64 m.a, .slice sa sl sc, .slice wa wl wc, .slice da dl dc], v] w fun e w' => e = .returned (nextV ((mgrT L me a b m).run l)) ∧ Below w.heap.size w w' := by
  obtain ⟨a0, c0, rfl, hr⟩ := id hv
  unfold mgrT
  by_cases h2 : a = me
  · rw [if_pos (Or.inr h2), run_ret]; exact rmnext_me w L me kind a b ty m sa wa da sl sc wl wc dl dc a0 _ c0 h2
  · by_cases h1 : atStatus L a < 0
    · rw [if_pos (Or.inl h1), run_ret]; exact rmnext_lo w L hok me _ kind a b ty m sa wa da sl sc wl wc dl dc a0 _ c0 rfl h1 h2
    · rw [if_neg (fun h => h.elim h1 h2)]; exact rmnext_run w L hok me _ kind a b ty m sa wa da sl sc wl wc dl dc a0 _ c0 l hv hlen hI rfl h1 h2
end Go.Proofs.Ytaclnaedinfhmaa
