
/-
  Layer 17: Resolve as its tree; what Next returns.
-/
import Derived.Test.YtaclnaedinfhmaaRows
import Derived.Test.YtaclnaedinfhmaaBase
import Derived.Test.YtaclnaedinfhmaaAux
import Derived.Test.YtaclnaedinfhmaaWord2
import Derived.Test.YtaclnaedinfhmaaLayA
import Derived.Test.YtaclnaedinfhmaaStepC
import Derived.Test.YtaclnaedinfhmaaStepD
import Derived.Test.YtaclnaedinfhmaaTake
import Derived.Test.YtaclnaedinfhmaaStepF
import Derived.Test.YtaclnaedinfhmaaStepG
import Derived.Test.YtaclnaedinfhmaaStepH
import Derived.Test.YtaclnaedinfhmaaMgrA
import Derived.Test.YtaclnaedinfhmaaMgrB
import Derived.Test.YtaclnaedinfhmaaMgrC
import Derived.Test.YtaclnaedinfhmaaMgrD
import Derived.WalkKit
import Derived.Shelf.Abstract
import Derived.WalkLawsBesides
import Derived.Lib.Hide
namespace Go.Proofs.Ytaclnaedinfhmaa
set_option linter.unusedVariables false
set_option linter.unusedSimpArgs false
set_option maxRecDepth 100000
set_option maxHeartbeats 4000000
open Go.ChangeShapes Go.WideShapes Go.ChangeAt Go.RowKit

theorem run_ask (a : Ask) (f : Int × Bool → Tree) (r : Int × Bool) (l : List (Int × Bool)) : (Tree.ask a f).run (r :: l) = (f r).run l := rfl
theorem run_ret (o : OutD) (l : List (Int × Bool)) : (Tree.ret o).run l = .inr o := by cases l <;> rfl
theorem chooseD_12 (k : Int) (m o : Ct) : chooseD k m o = 1 ∨ chooseD k m o = 2 := by
  cases h : ahead k m o
  · exact Or.inl (chooseD_f h)
  · exact Or.inr (chooseD_t h)

theorem res_fany (w : World) (g : Nat) (L : Ly) (hok : L.ok) (me other : Int) (m : Ct) (l : List (Int × Bool)) (h0 : RunAt w g l) (hI : ∀ x ∈ l, I64 x.1) :
    Calls Try.prog 61 #[caseV L me other false m, .pointer (some ⟨g, 0, none⟩)] w (OpPost ((asksT L other m).run l) g w) := by
  match l, h0, hI with
  | [], h0, hI => exact res_f0 w g L hok me other m h0 
  | s :: l, h0, hI =>
    have hi : I64 s.1 := hI s (by simp)
    unfold asksT
    rw [run_ask]
    by_cases hs : s.1 % 4 = 0
    · rw [if_pos hs, run_ret]
      exact res_fidle w g L hok me other m s l h0 hs
    · rw [if_neg hs]
      match l, h0, hI with
      | [], h0, hI => exact res_f1 w g L hok me other m s h0 hi hs
      | [t], h0, hI => exact res_f2 w g L hok me other m s t h0 hi hs
      | t :: k :: l, h0, hI =>
        rw [run_ask, run_ask]
        rcases chooseD_12 L.c.m m ⟨t.1, k.1, s.1 / 4⟩ with hc | hc
        · rw [if_pos hc, run_ret]
          exact res_fabort w g L hok me other m s t k l h0 hi hs hc
        · rw [if_neg (by rw [hc]; decide)]
          cases hd : (doomT L other s.1).run l with
          | inl a => exact res_fpend w g L hok me other m s t k l a h0 hi hs hc hd
          | inr o => exact res_fret w g L hok me other m s t k l o h0 hi hs hc hd

theorem res_tany (w : World) (g : Nat) (L : Ly) (hok : L.ok) (me other : Int) (m : Ct) (r : Int × Bool) (hr : ¬r.1 % 4 = 3) (l : List (Int × Bool)) (h0 : RunAt w g (r :: l)) (hI : ∀ x ∈ l, I64 x.1) :
    Calls Try.prog 61 #[caseV L me other true m, .pointer (some ⟨g, 0, none⟩)] w (OpPost ((asksT L other m).run l) g w) := by
  match l, h0, hI with
  | [], h0, hI => exact res_t0 w g L hok me other m r h0 hr 
  | s :: l, h0, hI =>
    have hi : I64 s.1 := hI s (by simp)
    unfold asksT
    rw [run_ask]
    by_cases hs : s.1 % 4 = 0
    · rw [if_pos hs, run_ret]
      exact res_tidle w g L hok me other m r s l h0 hr hs
    · rw [if_neg hs]
      match l, h0, hI with
      | [], h0, hI => exact res_t1 w g L hok me other m r s h0 hr hi hs
      | [t], h0, hI => exact res_t2 w g L hok me other m r s t h0 hr hi hs
      | t :: k :: l, h0, hI =>
        rw [run_ask, run_ask]
        rcases chooseD_12 L.c.m m ⟨t.1, k.1, s.1 / 4⟩ with hc | hc
        · rw [if_pos hc, run_ret]
          exact res_tabort w g L hok me other m r s t k l h0 hr hi hs hc
        · rw [if_neg (by rw [hc]; decide)]
          cases hd : (doomT L other s.1).run l with
          | inl a => exact res_tpend w g L hok me other m r s t k l a h0 hr hi hs hc hd
          | inr o => exact res_tret w g L hok me other m r s t k l o h0 hr hi hs hc hd

theorem resolve_any (w : World) (g : Nat) (L : Ly) (hok : L.ok) (me other : Int) (own : Bool) (m : Ct) (l : List (Int × Bool)) (h0 : RunAt w g l) (hI : ∀ x ∈ l, I64 x.1) :
    Calls Try.prog 61 #[caseV L me other own m, .pointer (some ⟨g, 0, none⟩)] w (OpPost ((resolveT L me other own m).run l) g w) := by
  cases own with
  | false => exact res_fany w g L hok me other m l h0 hI
  | true =>
    match l, h0, hI with
    | [], h0, hI => exact res_own0 w g L hok me other m h0
    | r :: l, h0, hI =>
      show Calls _ _ _ _ (OpPost ((if r.1 % 4 = 3 then Tree.ret { val := 1, lost := true } else asksT L other m).run l) g w)
      by_cases hr : r.1 % 4 = 3
      · rw [if_pos hr, run_ret]; exact res_own3 w g L hok me other m r l h0 hr
      · rw [if_neg hr]; exact res_tany w g L hok me other m r hr l h0 (fun x hx => hI x (by simp [hx]))

/-- What Next of layer 17 makes of a log. -/
def mgrT (L : Ly) (me a b : Int) (m : Ct) : Tree :=
  if atStatus L a < 0 ∨ a = me then .ret { err := 1 } else resolveT L me a (b == 1) m

theorem mnext_lo (w : World) (L : Ly) (hok : L.ok) (me p : Int) (kind a b ty : Int) (m : Ct) (sa wa da : Option Addr) (sl sc wl wc dl dc : Nat) (v : Value) (hp : atStatus L a = p) (hlt : p < 0) :
    Calls Try.prog 33 #[L.v, .int .i64 me, .agg #[.int .i64 kind, .int .i64 a, .int .i64 b, .int .i64 ty, .int .i64 m.s, .int .i64 m.k, .int .i64 m.a, .slice sa sl sc, .slice wa wl wc, .slice da dl dc], v] w fun e w' => e = .returned (nextV (.inr { err := 1 })) ∧ Below w.heap.size w w' := by
  have HS : Hid (∀ w, Calls Try.prog 38 #[L.v, .int .i64 a] w fun e w' => e = .returned (.int .i64 p) ∧ Below w.heap.size w w') := Lib.hid (fun w => by rw [← hp]; exact status_any L a w hok)
  have HR : Hid (∀ w, Calls Try.prog 41 #[.int .i64 1] w fun e w' => e = .returned (.tuple #[.agg #[.int .i64 0, .int .i64 0, .int .i64 0, .int .i64 0, .string ⟨#[]⟩], .agg #[.int .i64 0, .int .i64 0, .int .i64 0, .int .i64 0, .bool false, .bool false, .int .i64 1], .bool true]) ∧ Below w.heap.size w w') := Lib.hid (refuse_any 1)
  unfold Ly.v at HS ⊢
  have hq : decide (p < 0) = true := by simp; omega
  clear hp hlt
  have HB : Below w.heap.size w w := Below.refl _ _
  have hS0 : w.heap.size ≤ w.heap.size := Nat.le_refl _
  go_enter Try.func33, Try.ntmps33
  go_wp2_with fail
  obtain ⟨w1, hwr⟩ : ∃ W, W = ((((w.alloc (.cells #[.int .i64 L.c.t, .int .i64 L.c.l, .int .i64 L.c.k, .int .i64 L.c.s, .int .i64 L.c.m, .int .i64 L.clock, .int .i64 L.stamps, .int .i64 L.log, .int .i64 L.fin, .int .i64 L.thread, .int .i64 L.lock, .int .i64 L.loc, .int .i64 L.size] 41)).alloc (.cells #[.int .i64 kind, .int .i64 a, .int .i64 b, .int .i64 ty, .int .i64 m.s, .int .i64 m.k, .int .i64 m.a, .slice sa sl sc, .slice wa wl wc, .slice da dl dc] 28)).alloc (.cells #[.int .i64 0, .int .i64 0, .int .i64 0, .int .i64 0, .string ⟨#[]⟩] 32)).alloc (.cells #[.int .i64 0, .int .i64 0, .int .i64 0, .int .i64 0, .bool false, .bool false, .int .i64 0] 35)) := ⟨_, rfl⟩
  rw [← hwr]
  have hb : Below w.heap.size w w1 := by rw [hwr]; exact (Below.alloc (Below.alloc (Below.alloc (Below.alloc (Below.refl _ _) (by first | exact Nat.le_refl _ | (simp; omega) | simp) _) (by first | exact Nat.le_refl _ | (simp; omega) | simp) _) (by first | exact Nat.le_refl _ | (simp; omega) | simp) _) (by first | exact Nat.le_refl _ | (simp; omega) | simp) _)
  have ll : CellsAt w1 (w.heap.size) [.int .i64 L.c.t, .int .i64 L.c.l, .int .i64 L.c.k, .int .i64 L.c.s, .int .i64 L.c.m, .int .i64 L.clock, .int .i64 L.stamps, .int .i64 L.log, .int .i64 L.fin, .int .i64 L.thread, .int .i64 L.lock, .int .i64 L.loc, .int .i64 L.size] := by rw [hwr]; exact (cellsAt_alloc (cellsAt_alloc (cellsAt_alloc (cellsAt_new' w _ _ (w.heap.size) (by simp)) _) _) _)
  have llz : w.heap.size < w1.heap.size := World.block_lt_of_cell? _ _ (ll 0 _ rfl)
  have op : CellsAt w1 (w.heap.size + 1) [.int .i64 kind, .int .i64 a, .int .i64 b, .int .i64 ty, .int .i64 m.s, .int .i64 m.k, .int .i64 m.a, .slice sa sl sc, .slice wa wl wc, .slice da dl dc] := by rw [hwr]; exact (cellsAt_alloc (cellsAt_alloc (cellsAt_new' (w.alloc (.cells #[.int .i64 L.c.t, .int .i64 L.c.l, .int .i64 L.c.k, .int .i64 L.c.s, .int .i64 L.c.m, .int .i64 L.clock, .int .i64 L.stamps, .int .i64 L.log, .int .i64 L.fin, .int .i64 L.thread, .int .i64 L.lock, .int .i64 L.loc, .int .i64 L.size] 41)) _ _ (w.heap.size + 1) (by simp)) _) _)
  have opz : w.heap.size + 1 < w1.heap.size := World.block_lt_of_cell? _ _ (op 0 _ rfl)
  have rs : Res2 w1 (w.heap.size + 1 + 1) := by rw [hwr]; exact (Res2.new ((w.alloc (.cells #[.int .i64 L.c.t, .int .i64 L.c.l, .int .i64 L.c.k, .int .i64 L.c.s, .int .i64 L.c.m, .int .i64 L.clock, .int .i64 L.stamps, .int .i64 L.log, .int .i64 L.fin, .int .i64 L.thread, .int .i64 L.lock, .int .i64 L.loc, .int .i64 L.size] 41)).alloc (.cells #[.int .i64 kind, .int .i64 a, .int .i64 b, .int .i64 ty, .int .i64 m.s, .int .i64 m.k, .int .i64 m.a, .slice sa sl sc, .slice wa wl wc, .slice da dl dc] 28)) _ _ (w.heap.size + 1 + 1) (by simp))
  have rsz : w.heap.size + 1 + 1 < w1.heap.size := Res2.lt0 rs
  have rsy : w.heap.size + 1 + 1 + 1 < w1.heap.size := Res2.lt1 rs
  replace HB := hb
  clear hb hwr
  replace hS0 := HB.size
  have op_1 := op 1 _ rfl
  have op_2 := op 2 _ rfl
  have op_4 := op 4 _ rfl
  have op_5 := op 5 _ rfl
  have op_6 := op 6 _ rfl
  go_wp2_with (first | ((with_reducible refine ld_lay ll rfl ?a1 ?h1); (case a1 => exact ⟨_, rfl, rfl, rfl⟩)))
  ((with_reducible refine (HS.out _).mono ?_); rintro e w2 ⟨rfl, hb⟩)
  clear op_1 op_2 op_4 op_5 op_6
  have hsz := hb.size
  (try simp at hsz)
  replace ll := cellsAt_keep ll hb
  replace op := cellsAt_keep op hb
  replace rs := Res2.below rs hb
  replace llz : w.heap.size < w2.heap.size := by omega
  replace opz : w.heap.size + 1 < w2.heap.size := by omega
  replace rsz : w.heap.size + 1 + 1 < w2.heap.size := by omega
  replace rsy : w.heap.size + 1 + 1 + 1 < w2.heap.size := by omega
  replace HB := Below.trans HB (hb.mono (by first | omega | (simp; done) | (simp; omega)))
  clear hb hsz
  replace hS0 := HB.size
  have op_1 := op 1 _ rfl
  have op_2 := op 2 _ rfl
  have op_4 := op 4 _ rfl
  have op_5 := op 5 _ rfl
  have op_6 := op 6 _ rfl
  go_wp2_with (first | ((with_reducible refine ld_lay ll rfl ?a2 ?h2); (case a2 => exact ⟨_, rfl, rfl, rfl⟩)))
  ((with_reducible refine (HR.out _).mono ?_); rintro e w3 ⟨rfl, hb⟩)
  clear op_1 op_2 op_4 op_5 op_6
  have hsz := hb.size
  (try simp at hsz)
  replace ll := cellsAt_keep ll hb
  replace op := cellsAt_keep op hb
  replace rs := Res2.below rs hb
  replace llz : w.heap.size < w3.heap.size := by omega
  replace opz : w.heap.size + 1 < w3.heap.size := by omega
  replace rsz : w.heap.size + 1 + 1 < w3.heap.size := by omega
  replace rsy : w.heap.size + 1 + 1 + 1 < w3.heap.size := by omega
  replace HB := Below.trans HB (hb.mono (by first | omega | (simp; done) | (simp; omega)))
  clear hb hsz
  replace hS0 := HB.size
  have op_1 := op 1 _ rfl
  have op_2 := op 2 _ rfl
  have op_4 := op 4 _ rfl
  have op_5 := op 5 _ rfl
  have op_6 := op 6 _ rfl
  have pa0 := rs.a0
  have pa1 := rs.a1
  have pa2 := rs.a2
  have pa3 := rs.a3
  have pa4 := rs.a4
  have oq0 := rs.oz.c0
  have oq1 := rs.oz.c1
  have oq2 := rs.oz.c2
  have oq3 := rs.oz.c3
  have oq4 := rs.oz.c4
  have oq5 := rs.oz.c5
  have oq6 := rs.oz.c6
  have of := rs.oz.fr
  have fa := rs.fa
  go_wp2_with (first | ((with_reducible refine ld_lay ll rfl ?a3 ?h3); (case a3 => exact ⟨_, rfl, rfl, rfl⟩)))
  obtain ⟨W, hW, k0, k1, k2, k3, k4, k5, k6, k7, k8, k9, k10, k11⟩ := res2_at rs (.int .i64 0) (.int .i64 0) (.int .i64 0) (.int .i64 0) (.string ⟨#[]⟩) (.int .i64 0) (.int .i64 0) (.int .i64 0) (.int .i64 0) (.bool false) (.bool false) (.int .i64 1)
  rw [← hW]
  simp [bodyPost, results, Try.results33, go_sem, k0, k1, k2, k3, k4, k5, k6, k7, k8, k9, k10, k11, nextV, OutD.v, Ask.v, ask0, out0, ByteArray.empty, ByteArray.emptyWithCapacity]
  rw [hW]
  exact ⟨rfl, res2_below HB (by omega) _ _ _ _ _ _ _ _ _ _ _ _⟩

theorem mnext_me (w : World) (L : Ly) (hok : L.ok) (me p : Int) (kind a b ty : Int) (m : Ct) (sa wa da : Option Addr) (sl sc wl wc dl dc : Nat) (v : Value) (hp : atStatus L a = p) (hlt : ¬p < 0) (hme : a = me) :
    Calls Try.prog 33 #[L.v, .int .i64 me, .agg #[.int .i64 kind, .int .i64 a, .int .i64 b, .int .i64 ty, .int .i64 m.s, .int .i64 m.k, .int .i64 m.a, .slice sa sl sc, .slice wa wl wc, .slice da dl dc], v] w fun e w' => e = .returned (nextV (.inr { err := 1 })) ∧ Below w.heap.size w w' := by
  have HS : Hid (∀ w, Calls Try.prog 38 #[L.v, .int .i64 a] w fun e w' => e = .returned (.int .i64 p) ∧ Below w.heap.size w w') := Lib.hid (fun w => by rw [← hp]; exact status_any L a w hok)
  have HR : Hid (∀ w, Calls Try.prog 41 #[.int .i64 1] w fun e w' => e = .returned (.tuple #[.agg #[.int .i64 0, .int .i64 0, .int .i64 0, .int .i64 0, .string ⟨#[]⟩], .agg #[.int .i64 0, .int .i64 0, .int .i64 0, .int .i64 0, .bool false, .bool false, .int .i64 1], .bool true]) ∧ Below w.heap.size w w') := Lib.hid (refuse_any 1)
  unfold Ly.v at HS ⊢
  have hq : decide (p < 0) = false := by simp; omega
  have hq2 : (a == me) = true := by simp [hme]
  clear hp hlt hme
  have HB : Below w.heap.size w w := Below.refl _ _
  have hS0 : w.heap.size ≤ w.heap.size := Nat.le_refl _
  go_enter Try.func33, Try.ntmps33
  go_wp2_with fail
  obtain ⟨w1, hwr⟩ : ∃ W, W = ((((w.alloc (.cells #[.int .i64 L.c.t, .int .i64 L.c.l, .int .i64 L.c.k, .int .i64 L.c.s, .int .i64 L.c.m, .int .i64 L.clock, .int .i64 L.stamps, .int .i64 L.log, .int .i64 L.fin, .int .i64 L.thread, .int .i64 L.lock, .int .i64 L.loc, .int .i64 L.size] 41)).alloc (.cells #[.int .i64 kind, .int .i64 a, .int .i64 b, .int .i64 ty, .int .i64 m.s, .int .i64 m.k, .int .i64 m.a, .slice sa sl sc, .slice wa wl wc, .slice da dl dc] 28)).alloc (.cells #[.int .i64 0, .int .i64 0, .int .i64 0, .int .i64 0, .string ⟨#[]⟩] 32)).alloc (.cells #[.int .i64 0, .int .i64 0, .int .i64 0, .int .i64 0, .bool false, .bool false, .int .i64 0] 35)) := ⟨_, rfl⟩
  rw [← hwr]
  have hb : Below w.heap.size w w1 := by rw [hwr]; exact (Below.alloc (Below.alloc (Below.alloc (Below.alloc (Below.refl _ _) (by first | exact Nat.le_refl _ | (simp; omega) | simp) _) (by first | exact Nat.le_refl _ | (simp; omega) | simp) _) (by first | exact Nat.le_refl _ | (simp; omega) | simp) _) (by first | exact Nat.le_refl _ | (simp; omega) | simp) _)
  have ll : CellsAt w1 (w.heap.size) [.int .i64 L.c.t, .int .i64 L.c.l, .int .i64 L.c.k, .int .i64 L.c.s, .int .i64 L.c.m, .int .i64 L.clock, .int .i64 L.stamps, .int .i64 L.log, .int .i64 L.fin, .int .i64 L.thread, .int .i64 L.lock, .int .i64 L.loc, .int .i64 L.size] := by rw [hwr]; exact (cellsAt_alloc (cellsAt_alloc (cellsAt_alloc (cellsAt_new' w _ _ (w.heap.size) (by simp)) _) _) _)
  have llz : w.heap.size < w1.heap.size := World.block_lt_of_cell? _ _ (ll 0 _ rfl)
  have op : CellsAt w1 (w.heap.size + 1) [.int .i64 kind, .int .i64 a, .int .i64 b, .int .i64 ty, .int .i64 m.s, .int .i64 m.k, .int .i64 m.a, .slice sa sl sc, .slice wa wl wc, .slice da dl dc] := by rw [hwr]; exact (cellsAt_alloc (cellsAt_alloc (cellsAt_new' (w.alloc (.cells #[.int .i64 L.c.t, .int .i64 L.c.l, .int .i64 L.c.k, .int .i64 L.c.s, .int .i64 L.c.m, .int .i64 L.clock, .int .i64 L.stamps, .int .i64 L.log, .int .i64 L.fin, .int .i64 L.thread, .int .i64 L.lock, .int .i64 L.loc, .int .i64 L.size] 41)) _ _ (w.heap.size + 1) (by simp)) _) _)
  have opz : w.heap.size + 1 < w1.heap.size := World.block_lt_of_cell? _ _ (op 0 _ rfl)
  have rs : Res2 w1 (w.heap.size + 1 + 1) := by rw [hwr]; exact (Res2.new ((w.alloc (.cells #[.int .i64 L.c.t, .int .i64 L.c.l, .int .i64 L.c.k, .int .i64 L.c.s, .int .i64 L.c.m, .int .i64 L.clock, .int .i64 L.stamps, .int .i64 L.log, .int .i64 L.fin, .int .i64 L.thread, .int .i64 L.lock, .int .i64 L.loc, .int .i64 L.size] 41)).alloc (.cells #[.int .i64 kind, .int .i64 a, .int .i64 b, .int .i64 ty, .int .i64 m.s, .int .i64 m.k, .int .i64 m.a, .slice sa sl sc, .slice wa wl wc, .slice da dl dc] 28)) _ _ (w.heap.size + 1 + 1) (by simp))
  have rsz : w.heap.size + 1 + 1 < w1.heap.size := Res2.lt0 rs
  have rsy : w.heap.size + 1 + 1 + 1 < w1.heap.size := Res2.lt1 rs
  replace HB := hb
  clear hb hwr
  replace hS0 := HB.size
  have op_1 := op 1 _ rfl
  have op_2 := op 2 _ rfl
  have op_4 := op 4 _ rfl
  have op_5 := op 5 _ rfl
  have op_6 := op 6 _ rfl
  go_wp2_with (first | ((with_reducible refine ld_lay ll rfl ?a4 ?h4); (case a4 => exact ⟨_, rfl, rfl, rfl⟩)))
  ((with_reducible refine (HS.out _).mono ?_); rintro e w2 ⟨rfl, hb⟩)
  clear op_1 op_2 op_4 op_5 op_6
  have hsz := hb.size
  (try simp at hsz)
  replace ll := cellsAt_keep ll hb
  replace op := cellsAt_keep op hb
  replace rs := Res2.below rs hb
  replace llz : w.heap.size < w2.heap.size := by omega
  replace opz : w.heap.size + 1 < w2.heap.size := by omega
  replace rsz : w.heap.size + 1 + 1 < w2.heap.size := by omega
  replace rsy : w.heap.size + 1 + 1 + 1 < w2.heap.size := by omega
  replace HB := Below.trans HB (hb.mono (by first | omega | (simp; done) | (simp; omega)))
  clear hb hsz
  replace hS0 := HB.size
  have op_1 := op 1 _ rfl
  have op_2 := op 2 _ rfl
  have op_4 := op 4 _ rfl
  have op_5 := op 5 _ rfl
  have op_6 := op 6 _ rfl
  go_wp2_with (first | ((with_reducible refine ld_lay ll rfl ?a5 ?h5); (case a5 => exact ⟨_, rfl, rfl, rfl⟩)))
  ((with_reducible refine (HR.out _).mono ?_); rintro e w3 ⟨rfl, hb⟩)
  clear op_1 op_2 op_4 op_5 op_6
  have hsz := hb.size
  (try simp at hsz)
  replace ll := cellsAt_keep ll hb
  replace op := cellsAt_keep op hb
  replace rs := Res2.below rs hb
  replace llz : w.heap.size < w3.heap.size := by omega
  replace opz : w.heap.size + 1 < w3.heap.size := by omega
  replace rsz : w.heap.size + 1 + 1 < w3.heap.size := by omega
  replace rsy : w.heap.size + 1 + 1 + 1 < w3.heap.size := by omega
  replace HB := Below.trans HB (hb.mono (by first | omega | (simp; done) | (simp; omega)))
  clear hb hsz
  replace hS0 := HB.size
  have op_1 := op 1 _ rfl
  have op_2 := op 2 _ rfl
  have op_4 := op 4 _ rfl
  have op_5 := op 5 _ rfl
  have op_6 := op 6 _ rfl
  have pa0 := rs.a0
  have pa1 := rs.a1
  have pa2 := rs.a2
  have pa3 := rs.a3
  have pa4 := rs.a4
  have oq0 := rs.oz.c0
  have oq1 := rs.oz.c1
  have oq2 := rs.oz.c2
  have oq3 := rs.oz.c3
  have oq4 := rs.oz.c4
  have oq5 := rs.oz.c5
  have oq6 := rs.oz.c6
  have of := rs.oz.fr
  have fa := rs.fa
  go_wp2_with (first | ((with_reducible refine ld_lay ll rfl ?a6 ?h6); (case a6 => exact ⟨_, rfl, rfl, rfl⟩)))
  obtain ⟨W, hW, k0, k1, k2, k3, k4, k5, k6, k7, k8, k9, k10, k11⟩ := res2_at rs (.int .i64 0) (.int .i64 0) (.int .i64 0) (.int .i64 0) (.string ⟨#[]⟩) (.int .i64 0) (.int .i64 0) (.int .i64 0) (.int .i64 0) (.bool false) (.bool false) (.int .i64 1)
  rw [← hW]
  simp [bodyPost, results, Try.results33, go_sem, k0, k1, k2, k3, k4, k5, k6, k7, k8, k9, k10, k11, nextV, OutD.v, Ask.v, ask0, out0, ByteArray.empty, ByteArray.emptyWithCapacity]
  rw [hW]
  exact ⟨rfl, res2_below HB (by omega) _ _ _ _ _ _ _ _ _ _ _ _⟩

theorem mnext_run (w : World) (L : Ly) (hok : L.ok) (me p : Int) (kind a b ty : Int) (m : Ct) (sa wa da : Option Addr) (sl sc wl wc dl dc : Nat) (v : Value) (l : List (Int × Bool)) (hp : atStatus L a = p) (hlt : ¬p < 0) (hme : ¬a = me) (hv : LogOf w v l) (hI : ∀ x ∈ l, I64 x.1) :
    Calls Try.prog 33 #[L.v, .int .i64 me, .agg #[.int .i64 kind, .int .i64 a, .int .i64 b, .int .i64 ty, .int .i64 m.s, .int .i64 m.k, .int .i64 m.a, .slice sa sl sc, .slice wa wl wc, .slice da dl dc], v] w fun e w' => e = .returned (nextV ((resolveT L me a (b == 1) m).run l)) ∧ Below w.heap.size w w' := by
  have HS : Hid (∀ w, Calls Try.prog 38 #[L.v, .int .i64 a] w fun e w' => e = .returned (.int .i64 p) ∧ Below w.heap.size w w') := Lib.hid (fun w => by rw [← hp]; exact status_any L a w hok)
  have HO : Hid (∀ w, LogOf w v l → Calls Try.prog 42 #[v, .func (.func 61) #[caseV L me a (b == 1) m] #[]] w fun e w' => e = .returned (nextV ((resolveT L me a (b == 1) m).run l)) ∧ Below w.heap.size w w') := Lib.hid (fun w h => of_m1 w v l _ (enters_of Try.func61 (by kernel_rfl) rfl) _ _ h (fun w1 g _ _ hr => resolve_any w1 g L hok me a (b == 1) m l hr hI))
  obtain ⟨k, p1, o, n, v0, v1, v2, v3, b4, b5, v6, d, hx⟩ := nextV_form ((resolveT L me a (b == 1) m).run l)
  rw [hx] at HO ⊢
  unfold caseV at HO
  unfold Ly.v at HS ⊢
  have hq : decide (p < 0) = false := by simp; omega
  have hq2 : (a == me) = false := by simp [hme]
  have hmf : ∀ (fn : Fn) (first cap : Array Value) (w : World), (Instr.makeFunc fn first cap).run Try.prog w = .ok (.func fn first cap) w := fun _ _ _ _ => rfl
  have hst : ∀ (fn : Fn) (f c : Array Value) (a : Addr) (w : World), (store a (.func fn f c)).run Try.prog w = stored Try.prog w a (.func fn f c) .plain := fun _ _ _ _ _ => run_store _ _ _ _ _ rfl
  clear hp hlt hme hx
  have HB : Below w.heap.size w w := Below.refl _ _
  have hS0 : w.heap.size ≤ w.heap.size := Nat.le_refl _
  go_enter Try.func33, Try.ntmps33
  go_wp2_with fail
  obtain ⟨w1, hwr⟩ : ∃ W, W = ((((w.alloc (.cells #[.int .i64 L.c.t, .int .i64 L.c.l, .int .i64 L.c.k, .int .i64 L.c.s, .int .i64 L.c.m, .int .i64 L.clock, .int .i64 L.stamps, .int .i64 L.log, .int .i64 L.fin, .int .i64 L.thread, .int .i64 L.lock, .int .i64 L.loc, .int .i64 L.size] 41)).alloc (.cells #[.int .i64 kind, .int .i64 a, .int .i64 b, .int .i64 ty, .int .i64 m.s, .int .i64 m.k, .int .i64 m.a, .slice sa sl sc, .slice wa wl wc, .slice da dl dc] 28)).alloc (.cells #[.int .i64 0, .int .i64 0, .int .i64 0, .int .i64 0, .string ⟨#[]⟩] 32)).alloc (.cells #[.int .i64 0, .int .i64 0, .int .i64 0, .int .i64 0, .bool false, .bool false, .int .i64 0] 35)) := ⟨_, rfl⟩
  rw [← hwr]
  have hb : Below w.heap.size w w1 := by rw [hwr]; exact (Below.alloc (Below.alloc (Below.alloc (Below.alloc (Below.refl _ _) (by first | exact Nat.le_refl _ | (simp; omega) | simp) _) (by first | exact Nat.le_refl _ | (simp; omega) | simp) _) (by first | exact Nat.le_refl _ | (simp; omega) | simp) _) (by first | exact Nat.le_refl _ | (simp; omega) | simp) _)
  replace hv := logOf_keep hv hb
  have ll : CellsAt w1 (w.heap.size) [.int .i64 L.c.t, .int .i64 L.c.l, .int .i64 L.c.k, .int .i64 L.c.s, .int .i64 L.c.m, .int .i64 L.clock, .int .i64 L.stamps, .int .i64 L.log, .int .i64 L.fin, .int .i64 L.thread, .int .i64 L.lock, .int .i64 L.loc, .int .i64 L.size] := by rw [hwr]; exact (cellsAt_alloc (cellsAt_alloc (cellsAt_alloc (cellsAt_new' w _ _ (w.heap.size) (by simp)) _) _) _)
  have llz : w.heap.size < w1.heap.size := World.block_lt_of_cell? _ _ (ll 0 _ rfl)
  have op : CellsAt w1 (w.heap.size + 1) [.int .i64 kind, .int .i64 a, .int .i64 b, .int .i64 ty, .int .i64 m.s, .int .i64 m.k, .int .i64 m.a, .slice sa sl sc, .slice wa wl wc, .slice da dl dc] := by rw [hwr]; exact (cellsAt_alloc (cellsAt_alloc (cellsAt_new' (w.alloc (.cells #[.int .i64 L.c.t, .int .i64 L.c.l, .int .i64 L.c.k, .int .i64 L.c.s, .int .i64 L.c.m, .int .i64 L.clock, .int .i64 L.stamps, .int .i64 L.log, .int .i64 L.fin, .int .i64 L.thread, .int .i64 L.lock, .int .i64 L.loc, .int .i64 L.size] 41)) _ _ (w.heap.size + 1) (by simp)) _) _)
  have opz : w.heap.size + 1 < w1.heap.size := World.block_lt_of_cell? _ _ (op 0 _ rfl)
  have rs : Res2 w1 (w.heap.size + 1 + 1) := by rw [hwr]; exact (Res2.new ((w.alloc (.cells #[.int .i64 L.c.t, .int .i64 L.c.l, .int .i64 L.c.k, .int .i64 L.c.s, .int .i64 L.c.m, .int .i64 L.clock, .int .i64 L.stamps, .int .i64 L.log, .int .i64 L.fin, .int .i64 L.thread, .int .i64 L.lock, .int .i64 L.loc, .int .i64 L.size] 41)).alloc (.cells #[.int .i64 kind, .int .i64 a, .int .i64 b, .int .i64 ty, .int .i64 m.s, .int .i64 m.k, .int .i64 m.a, .slice sa sl sc, .slice wa wl wc, .slice da dl dc] 28)) _ _ (w.heap.size + 1 + 1) (by simp))
  have rsz : w.heap.size + 1 + 1 < w1.heap.size := Res2.lt0 rs
  have rsy : w.heap.size + 1 + 1 + 1 < w1.heap.size := Res2.lt1 rs
  replace HB := hb
  clear hb hwr
  replace hS0 := HB.size
  have op_1 := op 1 _ rfl
  have op_2 := op 2 _ rfl
  have op_4 := op 4 _ rfl
  have op_5 := op 5 _ rfl
  have op_6 := op 6 _ rfl
  go_wp2_with (first | ((with_reducible refine ld_lay ll rfl ?a7 ?h7); (case a7 => exact ⟨_, rfl, rfl, rfl⟩)))
  ((with_reducible refine (HS.out _).mono ?_); rintro e w2 ⟨rfl, hb⟩)
  clear op_1 op_2 op_4 op_5 op_6
  have hsz := hb.size
  (try simp at hsz)
  replace hv := logOf_keep hv hb
  replace ll := cellsAt_keep ll hb
  replace op := cellsAt_keep op hb
  replace rs := Res2.below rs hb
  replace llz : w.heap.size < w2.heap.size := by omega
  replace opz : w.heap.size + 1 < w2.heap.size := by omega
  replace rsz : w.heap.size + 1 + 1 < w2.heap.size := by omega
  replace rsy : w.heap.size + 1 + 1 + 1 < w2.heap.size := by omega
  replace HB := Below.trans HB (hb.mono (by first | omega | (simp; done) | (simp; omega)))
  clear hb hsz
  replace hS0 := HB.size
  have op_1 := op 1 _ rfl
  have op_2 := op 2 _ rfl
  have op_4 := op 4 _ rfl
  have op_5 := op 5 _ rfl
  have op_6 := op 6 _ rfl
  have hcn : ∀ W : World, CellsAt (W.alloc (.cells #[.int .i64 L.c.t, .int .i64 L.c.l, .int .i64 L.c.k, .int .i64 L.c.s, .int .i64 L.c.m, .int .i64 L.clock, .int .i64 L.stamps, .int .i64 L.log, .int .i64 L.fin, .int .i64 L.thread, .int .i64 L.lock, .int .i64 L.loc, .int .i64 L.size, .int .i64 me, .int .i64 a, .bool (b == 1), .int .i64 m.s, .int .i64 m.k, .int .i64 m.a, .func (.func 30) #[] #[]] 119)) W.heap.size [.int .i64 L.c.t, .int .i64 L.c.l, .int .i64 L.c.k, .int .i64 L.c.s, .int .i64 L.c.m, .int .i64 L.clock, .int .i64 L.stamps, .int .i64 L.log, .int .i64 L.fin, .int .i64 L.thread, .int .i64 L.lock, .int .i64 L.loc, .int .i64 L.size, .int .i64 me, .int .i64 a, .bool (b == 1), .int .i64 m.s, .int .i64 m.k, .int .i64 m.a, .func (.func 30) #[] #[]] := fun W => cellsAt_new W _ _
  go_wp2_with (first | ((with_reducible refine wp_st_case ?hwf8s ?xf8s ?yf8s ?hof8s _ #[.int .i64 L.c.t, .int .i64 L.c.l, .int .i64 L.c.k, .int .i64 L.c.s, .int .i64 L.c.m, .int .i64 L.clock, .int .i64 L.stamps, .int .i64 L.log, .int .i64 L.fin, .int .i64 L.thread, .int .i64 L.lock, .int .i64 L.loc, .int .i64 L.size, .int .i64 me, .int .i64 a, .bool (b == 1), .int .i64 m.s, .int .i64 m.k, .int .i64 m.a, .func (.func 30) #[] #[]] ?hxf8s ?hyf8s ?hlf8s ?hcf8s ?h1f8s ?hhf8s); (case hof8s => exact rfl); (case hxf8s => exact rfl); (case hyf8s => exact rfl); (case hwf8s => exact rfl); (case hlf8s => exact rfl); (case hcf8s => exact rfl); (case h1f8s => exact all_oneCell_toArray (by simp [Value.oneCell']))) | ((with_reducible refine ld_case (hcn _) rfl ?af8 ?hf8); (case af8 => exact ⟨_, rfl, rfl, rfl⟩)) | ((with_reducible refine ld_lay (cellsAt_alloc ll _) rfl ?a9 ?h9); (case a9 => exact ⟨_, rfl, rfl, rfl⟩)) | ((with_reducible refine ld_lay ll rfl ?a10 ?h10); (case a10 => exact ⟨_, rfl, rfl, rfl⟩)))
  ((with_reducible refine (HO.out _ (logOf_keep hv (below_new1 _ _))).mono ?_); rintro e w3 ⟨rfl, hb⟩)
  clear op_1 op_2 op_4 op_5 op_6
  have hsz := hb.size
  (try simp at hsz)
  replace hv := logOf_keep (logOf_keep hv (below_new1 _ _)) hb
  replace ll := cellsAt_keep (cellsAt_alloc ll _) hb
  replace op := cellsAt_keep (cellsAt_alloc op _) hb
  replace rs := Res2.below (Res2.alloc rs _) hb
  replace llz : w.heap.size < w3.heap.size := by omega
  replace opz : w.heap.size + 1 < w3.heap.size := by omega
  replace rsz : w.heap.size + 1 + 1 < w3.heap.size := by omega
  replace rsy : w.heap.size + 1 + 1 + 1 < w3.heap.size := by omega
  replace HB := Below.trans (Below.alloc HB (by first | omega | (simp; done) | (simp; omega)) _) (hb.mono (by first | omega | (simp; done) | (simp; omega)))
  clear hb hsz
  replace hS0 := HB.size
  have op_1 := op 1 _ rfl
  have op_2 := op 2 _ rfl
  have op_4 := op 4 _ rfl
  have op_5 := op 5 _ rfl
  have op_6 := op 6 _ rfl
  have pa0 := rs.a0
  have pa1 := rs.a1
  have pa2 := rs.a2
  have pa3 := rs.a3
  have pa4 := rs.a4
  have oq0 := rs.oz.c0
  have oq1 := rs.oz.c1
  have oq2 := rs.oz.c2
  have oq3 := rs.oz.c3
  have oq4 := rs.oz.c4
  have oq5 := rs.oz.c5
  have oq6 := rs.oz.c6
  have of := rs.oz.fr
  have fa := rs.fa
  go_wp2_with (first | ((with_reducible refine ld_lay ll rfl ?a11 ?h11); (case a11 => exact ⟨_, rfl, rfl, rfl⟩)))
  obtain ⟨W, hW, k0, k1, k2, k3, k4, k5, k6, k7, k8, k9, k10, k11⟩ := res2_at rs (.int .i64 k) (.int .i64 p1) (.int .i64 o) (.int .i64 n) (.string ⟨#[]⟩) (.int .i64 v0) (.int .i64 v1) (.int .i64 v2) (.int .i64 v3) (.bool b4) (.bool b5) (.int .i64 v6)
  rw [← hW]
  simp [bodyPost, results, Try.results33, go_sem, k0, k1, k2, k3, k4, k5, k6, k7, k8, k9, k10, k11, nextV, OutD.v, Ask.v, ask0, out0, ByteArray.empty, ByteArray.emptyWithCapacity]
  rw [hW]
  exact res2_below HB (by omega) _ _ _ _ _ _ _ _ _ _ _ _

theorem mnext_any (w : World) (L : Ly) (hok : L.ok) (me : Int) (kind a b ty : Int) (m : Ct) (sa wa da : Option Addr) (sl sc wl wc dl dc : Nat) (v : Value) (l : List (Int × Bool)) (hv : LogOf w v l) (hI : ∀ x ∈ l, I64 x.1) :
    Calls Try.prog 33 #[L.v, .int .i64 me, .agg #[.int .i64 kind, .int .i64 a, .int .i64 b, .int .i64 ty, .int .i64 m.s, .int .i64 m.k, .int .i64 m.a, .slice sa sl sc, .slice wa wl wc, .slice da dl dc], v] w fun e w' => e = .returned (nextV ((mgrT L me a b m).run l)) ∧ Below w.heap.size w w' := by
  unfold mgrT
  by_cases h1 : atStatus L a < 0
  · rw [if_pos (Or.inl h1), run_ret]; exact mnext_lo w L hok me _ kind a b ty m sa wa da sl sc wl wc dl dc v rfl h1
  · by_cases h2 : a = me
    · rw [if_pos (Or.inr h2), run_ret]; exact mnext_me w L hok me _ kind a b ty m sa wa da sl sc wl wc dl dc v rfl h1 h2
    · rw [if_neg (fun h => h.elim h1 h2)]; exact mnext_run w L hok me _ kind a b ty m sa wa da sl sc wl wc dl dc v l rfl h1 h2 hv hI

end Go.Proofs.Ytaclnaedinfhmaa
