
/-
  Layer 17: a conflict resolution run without interference.
-/
import Derived.Test.YtaclnaedinfhmaaRows
import Derived.Test.YtaclnaedinfhmaaBase
import Derived.Test.YtaclnaedinfhmaaAux
import Derived.Test.YtaclnaedinfhmaaMemA
import Derived.Test.YtaclnaedinfhmaaMemB
import Derived.Test.YtaclnaedinfhmaaMemE
import Derived.Test.YtaclnaedinfhmaaMemF
import Derived.Test.YtaclnaedinfhmaaMemG
import Derived.Test.YtaclnaedinfhmaaMemP
import Derived.Test.YtaclnaedinfhmaaLayA
import Derived.Test.YtaclnaedinfhmaaStepD
import Derived.Test.YtaclnaedinfhmaaStepF
import Derived.Test.YtaclnaedinfhmaaStepG
import Derived.Test.YtaclnaedinfhmaaStepH
import Derived.Test.YtaclnaedinfhmaaMgrE
import Derived.Test.YtaclnaedinfhmaaAloneA
import Derived.WalkKit
import Derived.WalkLawsBesides
import Derived.Deep.Cut
import Derived.OwnWalk
import Derived.Lib.Hide
namespace Go.Proofs.Ytaclnaedinfhmaa
set_option linter.unusedVariables false
set_option linter.unusedSimpArgs false
set_option maxRecDepth 100000
set_option maxHeartbeats 4000000
open Go.ChangeShapes Go.WideShapes Go.ChangeAt Go.RowKit

theorem wp_ld_op {ops : Array Oper} {rest : List Oper} {op : Oper} {a : Act} {w : World} {Q : Exit → Act → World → Prop} (hw : Region.wanted op (yielded ops a.tmps) = true) (x : Operand) (ho : op.op = .load 28 x)
    (b o : Nat) (hx : a.eval x = .pointer (some ⟨b, o, none⟩)) (cs : List Value) (hl : cs.length = 10) (hc : w.rangeAt b o cs)
    (h : wpList Try.prog ops Q rest (a.put op.dst (.agg cs.toArray)) w) : wpList Try.prog ops Q (op :: rest) a w :=
  wp_ld_any hw _ x ho b o hx cs _ hc Try.underlying28 rfl (by rw [hl]; kernel_rfl) h

theorem alone17_any (w : World) (L : Ly) (hok : L.ok) (me : Int) (kind a b ty : Int) (m : Ct) (sa wa da : Option Addr) (sl sc wl wc dl dc : Nat) (am : Option Addr) (lm cm : Nat) (zs : List Int) (hm : HasInts w (.slice am lm cm) zs) (hlen : zs.length ≤ 1000000) (hI : ∀ z ∈ zs, I64 z)
    (o : OutD) (zf : List Int) (n : Nat) (hx : exec 19 (mgrT L me a b m) zs = some (o, zf, n)) :
    Calls Try.prog 37 #[L.v, .agg #[.slice am lm cm], .int .i64 me, .agg #[.int .i64 kind, .int .i64 a, .int .i64 b, .int .i64 ty, .int .i64 m.s, .int .i64 m.k, .int .i64 m.a, .slice sa sl sc, .slice wa wl wc, .slice da dl dc]] w fun e w' => ∃ am' lm' cm', e = .returned (.tuple #[o.v, .agg #[.slice am' lm' cm'], .int .i64 (n : Nat)]) ∧ HasInts w' (.slice am' lm' cm') zf ∧ Below w.heap.size w w' := by
  obtain ⟨i0, hi, hz0, hz1, hz2⟩ := info_parts info_res
  have HN : Hid (∀ (w : World) (v : Value) (l : List (Int × Bool)), LogOf w v l → (∀ x ∈ l, I64 x.1) → Calls Try.prog 33 #[L.v, .int .i64 me, .agg #[.int .i64 kind, .int .i64 a, .int .i64 b, .int .i64 ty, .int .i64 m.s, .int .i64 m.k, .int .i64 m.a, .slice sa sl sc, .slice wa wl wc, .slice da dl dc], v] w fun e w' => e = .returned (nextV ((mgrT L me a b m).run l)) ∧ Below w.heap.size w w') := Lib.hid (fun w v l h k => mnext_any w L hok me kind a b ty m sa wa da sl sc wl wc dl dc v l h k)
  obtain ⟨T, hT⟩ : ∃ T, T = mgrT L me a b m := ⟨_, rfl⟩
  rw [← hT] at HN hx
  clear hT hok
  unfold Ly.v at HN ⊢
  have HX := Lib.hid hx
  have HI := Lib.hid hI
  have HM := Lib.hid hm
  clear hx hI hm
  go_enter Try.func37, Try.ntmps37
  go_wp2_with fail
  obtain ⟨w0, hw0⟩ : ∃ W, W = (((((w.alloc (.cells #[.int .i64 L.c.t, .int .i64 L.c.l, .int .i64 L.c.k, .int .i64 L.c.s, .int .i64 L.c.m, .int .i64 L.clock, .int .i64 L.stamps, .int .i64 L.log, .int .i64 L.fin, .int .i64 L.thread, .int .i64 L.lock, .int .i64 L.loc, .int .i64 L.size] 41)).alloc (.cells #[.slice am lm cm] 55)).alloc (.cells #[.int .i64 kind, .int .i64 a, .int .i64 b, .int .i64 ty, .int .i64 m.s, .int .i64 m.k, .int .i64 m.a, .slice sa sl sc, .slice wa wl wc, .slice da dl dc] 28)).alloc (.cells #[.int .i64 0, .int .i64 0, .int .i64 0, .int .i64 0, .bool false, .bool false, .int .i64 0] 35)).alloc (.cells #[.slice none 0 0] 55)) := ⟨_, rfl⟩
  rw [← hw0]
  have hb : Below w.heap.size w w0 := by rw [hw0]; exact (Below.alloc (Below.alloc (Below.alloc (Below.alloc (Below.alloc (Below.refl _ _) (Nat.le_refl _) _) (by simp) _) (by simp; omega) _) (by simp; omega) _) (by simp; omega) _)
  have HS : Hid (w0.heap.size = w.heap.size + 1 + 1 + 1 + 1 + 1) := Lib.hid (by rw [hw0]; simp)
  have C1 : Hid (CellsAt w0 w.heap.size [.int .i64 L.c.t, .int .i64 L.c.l, .int .i64 L.c.k, .int .i64 L.c.s, .int .i64 L.c.m, .int .i64 L.clock, .int .i64 L.stamps, .int .i64 L.log, .int .i64 L.fin, .int .i64 L.thread, .int .i64 L.lock, .int .i64 L.loc, .int .i64 L.size]) := Lib.hid (by rw [hw0]; exact cellsAt_alloc (cellsAt_alloc (cellsAt_alloc (cellsAt_alloc (cellsAt_new' w _ _ _ rfl) _) _) _) _)
  have C2 : Hid (CellsAt w0 (w.heap.size + 1 + 1) [.int .i64 kind, .int .i64 a, .int .i64 b, .int .i64 ty, .int .i64 m.s, .int .i64 m.k, .int .i64 m.a, .slice sa sl sc, .slice wa wl wc, .slice da dl dc]) := Lib.hid (by rw [hw0]; exact cellsAt_alloc (cellsAt_alloc (cellsAt_new' _ _ _ _ (by simp)) _) _)
  have C3 : Hid (OutZ w0 (w.heap.size + 1 + 1 + 1)) := Lib.hid (by rw [hw0]; exact OutZ.alloc (OutZ.new' _ _ _ (by simp)) _)
  have C4 : Hid (w0.cell? ⟨w.heap.size + 1, 0, none⟩ = some (.slice am lm cm)) := Lib.hid (by rw [hw0]; exact cell_alloc _ (cell_alloc _ (cell_alloc _ (by rw [World.cell?_alloc_at _ _ _ _ (by simp)]; rfl))))
  have F4 : Hid (w0.frozen? ⟨w.heap.size + 1, 0, none⟩ = false) := Lib.hid (by rw [hw0]; exact frozen_alloc _ (by first | omega | (simp; done) | (simp; omega)) (frozen_alloc _ (by first | omega | (simp; done) | (simp; omega)) (frozen_alloc _ (by first | omega | (simp; done) | (simp; omega)) (World.frozen?_alloc_at _ _ _ _ (by simp)))))
  have C5 : Hid (w0.cell? ⟨w.heap.size + 1 + 1 + 1 + 1, 0, none⟩ = some (.slice none 0 0)) := Lib.hid (by rw [hw0]; rw [World.cell?_alloc_at _ _ _ _ (by simp)]; rfl)
  have F5 : Hid (w0.frozen? ⟨w.heap.size + 1 + 1 + 1 + 1, 0, none⟩ = false) := Lib.hid (by rw [hw0]; exact World.frozen?_alloc_at _ _ _ _ (by simp))
  have HB0 := Lib.hid hb
  have HM0 : Hid (MemAt w0 w.heap.size (w.heap.size + 1 + 1 + 1 + 1 + 1) (.slice am lm cm) zs) := Lib.hid (memAt_below (memAt_start HM.out (Nat.le_refl _)) hb)
  clear hw0 hb
  go_loopw [11, 12] (fun v i wr => ∃ (k : Nat) (ls : List (Int × Bool)) (Tk : Tree) (zk : List Int) (a1 : Option Addr) (l1 c1 : Nat), i = .int .i64 (k : Nat) ∧ k ≤ n ∧ n ≤ 19 ∧ ls.length = k ∧ wr.ownsRow (w.heap.size + 1 + 1 + 1 + 1 + 1) 85 2 v k (resCells ls) ∧ Hid (∀ x ∈ ls, I64 x.1) ∧ Hid (∀ x, T.run (ls ++ x) = Tk.run x)
    ∧ Hid (exec (19 - k) Tk zk = some (o, zf, n - k)) ∧ Hid (∀ z ∈ zk, I64 z) ∧ zk.length = zs.length ∧ MemAt wr w.heap.size (w.heap.size + 1 + 1 + 1 + 1 + 1) (.slice a1 l1 c1) zk ∧ Below w.heap.size w wr ∧ w.heap.size + 1 + 1 + 1 + 1 + 1 ≤ wr.heap.size
    ∧ CellsAt wr w.heap.size [.int .i64 L.c.t, .int .i64 L.c.l, .int .i64 L.c.k, .int .i64 L.c.s, .int .i64 L.c.m, .int .i64 L.clock, .int .i64 L.stamps, .int .i64 L.log, .int .i64 L.fin, .int .i64 L.thread, .int .i64 L.lock, .int .i64 L.loc, .int .i64 L.size] ∧ CellsAt wr (w.heap.size + 1 + 1) [.int .i64 kind, .int .i64 a, .int .i64 b, .int .i64 ty, .int .i64 m.s, .int .i64 m.k, .int .i64 m.a, .slice sa sl sc, .slice wa wl wc, .slice da dl dc] ∧ OutZ wr (w.heap.size + 1 + 1 + 1) ∧ wr.cell? ⟨w.heap.size + 1, 0, none⟩ = some (.slice a1 l1 c1) ∧ wr.frozen? ⟨w.heap.size + 1, 0, none⟩ = false ∧ wr.cell? ⟨w.heap.size + 1 + 1 + 1 + 1, 0, none⟩ = some (.slice none 0 0) ∧ wr.frozen? ⟨w.heap.size + 1 + 1 + 1 + 1, 0, none⟩ = false) (fun _ i _ => 20 - (intOf i).toNat)
  case atStart =>
    have hn : n ≤ 19 := exec_le HX.out
    exact ⟨0, [], T, zs, am, lm, cm, rfl, Nat.zero_le _, hn, rfl, World.ownsRow_nil _ _ _ _, Lib.hid (by simp), Lib.hid (fun x => rfl), Lib.hid HX.out, Lib.hid HI.out, rfl, HM0.out, HB0.out, by have := HS.out; omega, C1.out, C2.out, C3.out, C4.out, F4.out, C5.out, F5.out⟩
  case round =>
    obtain ⟨k, ls, Tk, zk, a1, l1, c1, rfl, hkn, hn, hlk, hown, hIl, hrun, hex, hIz, hzl, hmem, hbw, hsz, d1, d2, d3, d4, g4, d5, g5⟩ := hrel
    have hlt : decide ((k : Int) < 20) = true := by simp; omega
    cases Tk with
    | ret o' =>
      have he := exec_ret hex.out
      simp only [Prod.mk.injEq] at he
      obtain ⟨rfl, rfl, h0⟩ := he
      have hkn2 : n = k := by omega
      subst hkn2
      have hT : T.run ls = .inr o := by have := hrun.out []; rwa [List.append_nil, run_ret] at this
      have HC := Lib.hid (HN.out wr u11 ls (logOf_owns (by rw [hlk]; exact hown)) hIl.out)
      rw [hT] at HC
      replace HC : Hid (Calls Try.prog 33 #[.agg #[.int .i64 L.c.t, .int .i64 L.c.l, .int .i64 L.c.k, .int .i64 L.c.s, .int .i64 L.c.m, .int .i64 L.clock, .int .i64 L.stamps, .int .i64 L.log, .int .i64 L.fin, .int .i64 L.thread, .int .i64 L.lock, .int .i64 L.loc, .int .i64 L.size], .int .i64 me, .agg #[.int .i64 kind, .int .i64 a, .int .i64 b, .int .i64 ty, .int .i64 m.s, .int .i64 m.k, .int .i64 m.a, .slice sa sl sc, .slice wa wl wc, .slice da dl dc], u11] wr fun e w' => e = .returned (.tuple #[.agg #[.int .i64 0, .int .i64 0, .int .i64 0, .int .i64 0, .string ⟨#[]⟩], .agg #[.int .i64 o.val, .int .i64 o.ver, .int .i64 o.rv, .int .i64 o.st, .bool o.ok, .bool o.lost, .int .i64 o.err], .bool true]) ∧ Below wr.heap.size wr w') := HC
      clear hT hrun hex h0 hkn hIz hIl
      go_wp2_with (first | ((with_reducible refine wp_ld_lay ?hwr1 ?xr1 ?hor1 (w.heap.size) 0 ?hxr1 [.int .i64 L.c.t, .int .i64 L.c.l, .int .i64 L.c.k, .int .i64 L.c.s, .int .i64 L.c.m, .int .i64 L.clock, .int .i64 L.stamps, .int .i64 L.log, .int .i64 L.fin, .int .i64 L.thread, .int .i64 L.lock, .int .i64 L.loc, .int .i64 L.size] rfl (rangeAt_of d1) ?hhr1); (case hor1 => exact rfl); (case hxr1 => exact rfl); (case hwr1 => exact rfl)) | ((with_reducible refine wp_ld_op ?hwr1b ?xr1b ?hor1b (w.heap.size + 1 + 1) 0 ?hxr1b [.int .i64 kind, .int .i64 a, .int .i64 b, .int .i64 ty, .int .i64 m.s, .int .i64 m.k, .int .i64 m.a, .slice sa sl sc, .slice wa wl wc, .slice da dl dc] rfl (rangeAt_of d2) ?hhr1b); (case hor1b => exact rfl); (case hxr1b => exact rfl); (case hwr1b => exact rfl)))
      ((with_reducible refine HC.out.mono ?_); rintro e w1 ⟨rfl, hb⟩)
      have hs1 := hb.size
      go_wp2_with fail
      obtain ⟨w2, hw2⟩ : ∃ W, W = (w1.alloc (.cells #[.int .i64 0, .int .i64 0, .int .i64 0, .int .i64 0, .string ⟨#[]⟩] 32)).alloc (.cells #[.int .i64 o.val, .int .i64 o.ver, .int .i64 o.rv, .int .i64 o.st, .bool o.ok, .bool o.lost, .int .i64 o.err] 35) := ⟨_, rfl⟩
      rw [← hw2]
      have hb2 : Below wr.heap.size wr w2 := by rw [hw2]; exact below_step hb (below_alloc2 (Below.refl _ _))
      have hs2 := hb2.size
      have l7 : CellsAt w2 (w1.heap.size + 1) [.int .i64 o.val, .int .i64 o.ver, .int .i64 o.rv, .int .i64 o.st, .bool o.ok, .bool o.lost, .int .i64 o.err] := by rw [hw2]; exact cellsAt_new' _ _ _ _ (by simp)
      have e3 := OutZ.below d3 hb2
      have e4 := cel_below hb2 d4
      have e5 := cel_below hb2 d5
      have e6 := fro_below hb2 (by omega) g5
      have HME := Lib.hid (memAt_below hmem hb2)
      have HBE := Lib.hid (hbw.trans (hb2.mono (by omega)))
      have hn1 : w.heap.size + 1 + 1 + 1 ≠ w1.heap.size + 1 := by omega
      have y0 := l7 0 _ rfl
      have y1 := l7 1 _ rfl
      have y2 := l7 2 _ rfl
      have y3 := l7 3 _ rfl
      have y4 := l7 4 _ rfl
      have y5 := l7 5 _ rfl
      have y6 := l7 6 _ rfl
      have q0 := e3.c0
      have q1 := e3.c1
      have q2 := e3.c2
      have q3 := e3.c3
      have q4 := e3.c4
      have q5 := e3.c5
      have q6 := e3.c6
      have qf := e3.fr
      clear hw2 hb hb2 hs1 hown hmem hbw d1 d2 d3 d4 d5 g4 g5 HC l7
      go_region
      all_goals (
        go_wp2
        obtain ⟨W, hW, k0, k1, k2, k3, k4, k5, k6⟩ := outs_at e3 (.int .i64 o.val) (.int .i64 o.ver) (.int .i64 o.rv) (.int .i64 o.st) (.bool o.ok) (.bool o.lost) (.int .i64 o.err)
        have k7 : W.cell? ⟨w.heap.size + 1 + 1 + 1 + 1, 0, none⟩ = some (.slice none 0 0) := by rw [hW]; exact (keepA_ (keepA_ (keepA_ (keepA_ (keepA_ (keepA_ (keepA_ e5 (Or.inl (by omega))) (Or.inl (by omega))) (Or.inl (by omega))) (Or.inl (by omega))) (Or.inl (by omega))) (Or.inl (by omega))) (Or.inl (by omega)))
        have HX1 : Hid (Below w.heap.size w (World.drew (W.setCell ⟨w.heap.size + 1 + 1 + 1 + 1, 0, none⟩ (.slice a1 l1 c1)))) := Lib.hid (by rw [hW]; exact Below.drew (Below.setCell (p := ⟨w.heap.size + 1 + 1 + 1 + 1, 0, none⟩) (Below.setCell (p := ⟨w.heap.size + 1 + 1 + 1, 6, none⟩) (Below.setCell (p := ⟨w.heap.size + 1 + 1 + 1, 5, none⟩) (Below.setCell (p := ⟨w.heap.size + 1 + 1 + 1, 4, none⟩) (Below.setCell (p := ⟨w.heap.size + 1 + 1 + 1, 3, none⟩) (Below.setCell (p := ⟨w.heap.size + 1 + 1 + 1, 2, none⟩) (Below.setCell (p := ⟨w.heap.size + 1 + 1 + 1, 1, none⟩) (Below.setCell (p := ⟨w.heap.size + 1 + 1 + 1, 0, none⟩) HBE.out (by dsimp only; omega) _) (by dsimp only; omega) _) (by dsimp only; omega) _) (by dsimp only; omega) _) (by dsimp only; omega) _) (by dsimp only; omega) _) (by dsimp only; omega) _) (by dsimp only; omega) _))
        have HX2 : Hid (MemAt (W.setCell ⟨w.heap.size + 1 + 1 + 1 + 1, 0, none⟩ (.slice a1 l1 c1)) w.heap.size (w.heap.size + 1 + 1 + 1 + 1 + 1) (.slice a1 l1 c1) zf) := Lib.hid (by rw [hW]; exact (memAt_set (memAt_set (memAt_set (memAt_set (memAt_set (memAt_set (memAt_set (memAt_set HME.out (by omega) (by omega) _) (by omega) (by omega) _) (by omega) (by omega) _) (by omega) (by omega) _) (by omega) (by omega) _) (by omega) (by omega) _) (by omega) (by omega) _) (by omega) (by omega) _))
        rw [← hW]
        have m7 : (W.setCell ⟨w.heap.size + 1 + 1 + 1 + 1, 0, none⟩ (.slice a1 l1 c1)).cell? ⟨w.heap.size + 1 + 1 + 1 + 1, 0, none⟩ = some (.slice a1 l1 c1) := World.cell?_setCell_same _ _ _ k7
        have m0 := keepA_ (b := w.heap.size + 1 + 1 + 1 + 1) (o := 0) (v := .slice a1 l1 c1) k0 (Or.inl (by omega))
        have m1 := keepA_ (b := w.heap.size + 1 + 1 + 1 + 1) (o := 0) (v := .slice a1 l1 c1) k1 (Or.inl (by omega))
        have m2 := keepA_ (b := w.heap.size + 1 + 1 + 1 + 1) (o := 0) (v := .slice a1 l1 c1) k2 (Or.inl (by omega))
        have m3 := keepA_ (b := w.heap.size + 1 + 1 + 1 + 1) (o := 0) (v := .slice a1 l1 c1) k3 (Or.inl (by omega))
        have m4 := keepA_ (b := w.heap.size + 1 + 1 + 1 + 1) (o := 0) (v := .slice a1 l1 c1) k4 (Or.inl (by omega))
        have m5 := keepA_ (b := w.heap.size + 1 + 1 + 1 + 1) (o := 0) (v := .slice a1 l1 c1) k5 (Or.inl (by omega))
        have m6 := keepA_ (b := w.heap.size + 1 + 1 + 1 + 1) (o := 0) (v := .slice a1 l1 c1) k6 (Or.inl (by omega))
        obtain ⟨X, hX⟩ : ∃ X, X = W.setCell ⟨w.heap.size + 1 + 1 + 1 + 1, 0, none⟩ (.slice a1 l1 c1) := ⟨_, rfl⟩
        rw [← hX] at HX1 HX2 m0 m1 m2 m3 m4 m5 m6 m7 ⊢
        refine bodyPost_ret (v := .tuple #[.agg #[.int .i64 o.val, .int .i64 o.ver, .int .i64 o.rv, .int .i64 o.st, .bool o.ok, .bool o.lost, .int .i64 o.err], .agg #[.slice a1 l1 c1], .int .i64 (n : Nat)]) (by simp [results, Try.results37, go_sem, m0, m1, m2, m3, m4, m5, m6, m7]) rfl ?_
        exact ⟨a1, l1, c1, rfl, memAt_ints HX2.out, HX1.out⟩)
    | ask q f =>
      obtain ⟨n', m', hn1, hm1, hchk, hqn, hex2⟩ := exec_ask hex.out
      have hT : T.run ls = .inl q := by have := hrun.out []; rwa [List.append_nil] at this
      have HC := Lib.hid (HN.out wr u11 ls (logOf_owns (by rw [hlk]; exact hown)) hIl.out)
      rw [hT] at HC
      obtain ⟨qk, qp, qo, qn⟩ := q
      replace HC : Hid (Calls Try.prog 33 #[.agg #[.int .i64 L.c.t, .int .i64 L.c.l, .int .i64 L.c.k, .int .i64 L.c.s, .int .i64 L.c.m, .int .i64 L.clock, .int .i64 L.stamps, .int .i64 L.log, .int .i64 L.fin, .int .i64 L.thread, .int .i64 L.lock, .int .i64 L.loc, .int .i64 L.size], .int .i64 me, .agg #[.int .i64 kind, .int .i64 a, .int .i64 b, .int .i64 ty, .int .i64 m.s, .int .i64 m.k, .int .i64 m.a, .slice sa sl sc, .slice wa wl wc, .slice da dl dc], u11] wr fun e w' => e = .returned (.tuple #[.agg #[.int .i64 qk, .int .i64 qp, .int .i64 qo, .int .i64 qn, .string ⟨#[]⟩], .agg #[.int .i64 0, .int .i64 0, .int .i64 0, .int .i64 0, .bool false, .bool false, .int .i64 0], .bool false]) ∧ Below wr.heap.size wr w') := HC
      simp only at hchk hqn hex2
      obtain ⟨R, hR⟩ : ∃ R, R = doR qk qp qo qn ByteArray.empty zk := ⟨_, rfl⟩
      obtain ⟨Q, hQ⟩ : ∃ Q, Q = doOk qk qp qo qn ByteArray.empty zk := ⟨_, rfl⟩
      obtain ⟨Z, hZ⟩ : ∃ Z, Z = doZ qk qp qo qn ByteArray.empty zk := ⟨_, rfl⟩
      have hRi : I64 R := by rw [hR]; exact i64_doR hIz.out _ _ _ _ _
      have hZl : Z.length = zs.length := by rw [hZ, doZ_length]; exact hzl
      have HD : Hid (∀ w, HasInts w (.slice a1 l1 c1) zk → Calls Try.prog 39 #[.agg #[.slice a1 l1 c1], .agg #[.int .i64 qk, .int .i64 qp, .int .i64 qo, .int .i64 qn, .string ⟨#[]⟩]] w fun e w' => ∃ a2 l2 c2, e = .returned (.tuple #[.agg #[.slice a2 l2 c2], .agg #[.int .i64 R, .bool Q], .int .i64 0]) ∧ HasInts w' (.slice a2 l2 c2) Z ∧ Below w.heap.size w w' ∧ FromO w' w.heap.size (.slice a1 l1 c1) (.slice a2 l2 c2) Z) := Lib.hid (fun w hv => by
        refine (do_anyF _ zk qk qp qo qn ByteArray.empty w hv (by omega)).mono ?_
        rintro e w' ⟨u, rfl, hu, hb, hf⟩
        rw [← hZ] at hu hf
        have hu2 := hu
        obtain ⟨a2, c2, rfl, _⟩ := hu2
        exact ⟨a2, _, c2, by rw [← hR, ← hQ, hchk]; rfl, hu, hb, hf⟩)
      have hrun2 : Hid (∀ x, T.run ((ls ++ [(R, Q)]) ++ x) = (f (R, Q)).run x) := Lib.hid (fun x => by
        have := hrun.out ((R, Q) :: x); rw [List.append_assoc]; exact this)
      rw [← hR, ← hQ, ← hZ] at hex2
      have HE2 := Lib.hid hex2
      have hIz2 : Hid (∀ z ∈ Z, I64 z) := Lib.hid (by rw [hZ]; exact i64_doZ hIz.out _ _ _ _ hqn _)
      have hIl2 : Hid (∀ x ∈ ls ++ [(R, Q)], I64 x.1) := Lib.hid (by
        intro x hx
        rcases List.mem_append.1 hx with h | h
        · exact hIl.out x h
        · simp at h; subst h; exact hRi)
      have hk1 : k + 1 ≤ n := by omega
      have HK := Lib.hid hk1
      have HN1 : Hid (19 - (k + 1) = n' ∧ n - (k + 1) = m') := Lib.hid ⟨by omega, by omega⟩
      clear hT hrun hex hex2 hIz hIl hR hQ hZ hchk hqn hn1 hm1 hk1 hRi
      go_wp2_with (first | ((with_reducible refine wp_ld_lay ?hwq1 ?xq1 ?hoq1 (w.heap.size) 0 ?hxq1 [.int .i64 L.c.t, .int .i64 L.c.l, .int .i64 L.c.k, .int .i64 L.c.s, .int .i64 L.c.m, .int .i64 L.clock, .int .i64 L.stamps, .int .i64 L.log, .int .i64 L.fin, .int .i64 L.thread, .int .i64 L.lock, .int .i64 L.loc, .int .i64 L.size] rfl (rangeAt_of d1) ?hhq1); (case hoq1 => exact rfl); (case hxq1 => exact rfl); (case hwq1 => exact rfl)) | ((with_reducible refine wp_ld_op ?hwq1b ?xq1b ?hoq1b (w.heap.size + 1 + 1) 0 ?hxq1b [.int .i64 kind, .int .i64 a, .int .i64 b, .int .i64 ty, .int .i64 m.s, .int .i64 m.k, .int .i64 m.a, .slice sa sl sc, .slice wa wl wc, .slice da dl dc] rfl (rangeAt_of d2) ?hhq1b); (case hoq1b => exact rfl); (case hxq1b => exact rfl); (case hwq1b => exact rfl)))
      ((with_reducible refine HC.out.mono ?_); rintro e w1 ⟨rfl, hb⟩)
      have hs1 := hb.size
      go_upto_region 8 with fail
      obtain ⟨w2, hw2⟩ : ∃ W, W = (w1.alloc (.cells #[.int .i64 qk, .int .i64 qp, .int .i64 qo, .int .i64 qn, .string ⟨#[]⟩] 32)).alloc (.cells #[.int .i64 0, .int .i64 0, .int .i64 0, .int .i64 0, .bool false, .bool false, .int .i64 0] 35) := ⟨_, rfl⟩
      rw [← hw2]
      have hb2 : Below wr.heap.size wr w2 := by rw [hw2]; exact below_step hb (below_alloc2 (Below.refl _ _))
      have hs2 := hb2.size
      have l5 : CellsAt w2 w1.heap.size [.int .i64 qk, .int .i64 qp, .int .i64 qo, .int .i64 qn, .string ⟨#[]⟩] := by rw [hw2]; exact cellsAt_alloc (cellsAt_new' _ _ _ _ rfl) _
      have e4 := cel_below hb2 d4
      have p0 := l5 0 _ rfl
      have p1 := l5 1 _ rfl
      have p2 := l5 2 _ rfl
      have p3 := l5 3 _ rfl
      have p4 := l5 4 _ rfl
      have HME := Lib.hid (memAt_below hmem hb2)
      have HB2 := Lib.hid hb2
      clear hw2 hb hs1 hb2 HC l5
      go_wp2_with fail
      ((with_reducible refine (HD.out _ (memAt_ints HME.out)).mono ?_); rintro e w3 ⟨a2, l2, c2, rfl, hu, hb3, hf⟩)
      have hs3 := hb3.size
      have hbx : Below wr.heap.size wr w3 := below_step HB2.out hb3
      have HM3 := Lib.hid (memAt_do HME.out hb3 (by omega) hu hf)
      clear hu hf HME HB2 hb3 e4 p0 p1 p2 p3 p4
      have x4 := cel_below hbx d4
      have xf := fro_below hbx (by omega) g4
      have xz : w.heap.size + 1 < w3.heap.size := by omega
      have x42 : ∀ o1 o2 : Obj, ((w3.alloc o1).alloc o2).cell? ⟨w.heap.size + 1, 0, none⟩ = some (.slice a1 l1 c1) := fun o1 o2 => cell_alloc _ (cell_alloc _ x4)
      have xf2 : ∀ o1 o2 : Obj, ((w3.alloc o1).alloc o2).frozen? ⟨w.heap.size + 1, 0, none⟩ = false := fun o1 o2 => frozen_alloc _ (by simp; omega) (frozen_alloc _ xz xf)
      have xz2 : w.heap.size + 1 + 1 + 1 + 1 + 1 ≤ w3.heap.size := by omega
      go_upto_region 12 with fail
      obtain ⟨w4, hw4⟩ : ∃ W, W = ((w3.alloc (.cells #[.slice a2 l2 c2] 55)).alloc (.cells #[.int .i64 R, .bool Q] 85)).setCell ⟨w.heap.size + 1, 0, none⟩ (.slice a2 l2 c2) := ⟨_, rfl⟩
      have hb4 : Below w.heap.size w3 w4 := by rw [hw4]; exact ((((Below.refl w.heap.size w3).alloc (by omega) _).alloc (by simp; omega) _).setCell (by dsimp only; omega) _)
      have hs4 : w4.heap.size = w3.heap.size + 1 + 1 := by rw [hw4]; simp
      have HO4 : Hid (w4.ownsRow (w.heap.size + 1 + 1 + 1 + 1 + 1) 85 2 u11 k (resCells ls)) := Lib.hid (by rw [hw4]; exact owns_setCell_other (((owns_below hown hbx).alloc _).alloc _) (fun hc => by have := ((owns_below hown hbx).lt _ hc).1; dsimp only at this; omega) _)
      have HM4 : Hid (MemAt w4 w.heap.size (w.heap.size + 1 + 1 + 1 + 1 + 1) (.slice a2 l2 c2) Z) := Lib.hid (by rw [hw4]; exact memAt_set (memAt_alloc (memAt_alloc HM3.out _) _) (by omega) (by omega) _)
      have D1 : Hid (CellsAt w4 w.heap.size [.int .i64 L.c.t, .int .i64 L.c.l, .int .i64 L.c.k, .int .i64 L.c.s, .int .i64 L.c.m, .int .i64 L.clock, .int .i64 L.stamps, .int .i64 L.log, .int .i64 L.fin, .int .i64 L.thread, .int .i64 L.lock, .int .i64 L.loc, .int .i64 L.size]) := Lib.hid (by rw [hw4]; exact cellsAt_set (cellsAt_alloc (cellsAt_alloc (cellsAt_keep d1 hbx) _) _) (by omega) _)
      have D2 : Hid (CellsAt w4 (w.heap.size + 1 + 1) [.int .i64 kind, .int .i64 a, .int .i64 b, .int .i64 ty, .int .i64 m.s, .int .i64 m.k, .int .i64 m.a, .slice sa sl sc, .slice wa wl wc, .slice da dl dc]) := Lib.hid (by rw [hw4]; exact cellsAt_set (cellsAt_alloc (cellsAt_alloc (cellsAt_keep d2 hbx) _) _) (by omega) _)
      have D3 : Hid (OutZ w4 (w.heap.size + 1 + 1 + 1)) := Lib.hid (by rw [hw4]; exact OutZ.set (OutZ.alloc (OutZ.alloc (OutZ.below d3 hbx) _) _) (by omega) _)
      have D4 : Hid (w4.cell? ⟨w.heap.size + 1, 0, none⟩ = some (.slice a2 l2 c2)) := Lib.hid (by rw [hw4]; exact World.cell?_setCell_same _ _ _ (cell_alloc _ (cell_alloc _ x4)))
      have G4 : Hid (w4.frozen? ⟨w.heap.size + 1, 0, none⟩ = false) := Lib.hid (by rw [hw4]; exact (World.frozen?_setCell _ _ _ _).trans (frozen_alloc _ (by simp; omega) (frozen_alloc _ (by omega) xf)))
      have D5 : Hid (w4.cell? ⟨w.heap.size + 1 + 1 + 1 + 1, 0, none⟩ = some (.slice none 0 0)) := Lib.hid (by rw [hw4]; exact keepA_ (cell_alloc _ (cell_alloc _ (cel_below hbx d5))) (Or.inl (by omega)))
      have G5 : Hid (w4.frozen? ⟨w.heap.size + 1 + 1 + 1 + 1, 0, none⟩ = false) := Lib.hid (by rw [hw4]; exact (World.frozen?_setCell _ _ _ _).trans (frozen_alloc _ (by simp; omega) (frozen_alloc _ (by omega) (fro_below hbx (by omega) g5))))
      have t0 : w4.cell? ⟨w3.heap.size + 1, 0, none⟩ = some (.int .i64 R) := by rw [hw4]; exact keepA_ (by rw [World.cell?_alloc_at _ _ _ _ (by simp)]; rfl) (Or.inl (by omega))
      have t1 : w4.cell? ⟨w3.heap.size + 1, 1, none⟩ = some (.bool Q) := by rw [hw4]; exact keepA_ (by rw [World.cell?_alloc_at _ _ _ _ (by simp)]; rfl) (Or.inl (by omega))
      rw [← hw4]
      have HBW : Hid (Below w.heap.size w w4) := Lib.hid ((hbw.trans (hbx.mono (by omega))).trans hb4)
      have HMh := HM3
      clear hw4 hb4 hbx d1 d2 d3 d4 d5 g4 g5 x4 x42 xf xf2 hown hmem hbw HM3 HMh
      have t2 : w3.heap.size + 1 < w4.heap.size := by omega
      clear hs4
      go_wp2_with (first
        | (at_builtin; refine wpList_append_own _ rfl _ _ 29 rfl (w.heap.size + 1 + 1 + 1 + 1 + 1) 85 i0 (.agg #[.int .i64 0, .bool false]) 2 16 Try.underlying29 hi hz0 hz1 hz2 rfl (by decide) _ _ _ rfl (HO4.out.alloc _) ⟨w4.heap.size, 0, none⟩ 1 1 [.int .i64 R, .bool Q] rfl rfl (fun j u hj => res_cell j u hj) (by intro u hu; simp at hu; rcases hu with rfl | rfl <;> rfl) (by unfold maxLen; omega) (by omega) (by simp; omega) ?_; intro v' w5 hown5 hg5 _))
      have hk : ∀ W' : World, True := fun _ => trivial
      have ho0 := HO4.out.alloc (.cells #[.int .i64 R, .bool Q] 85)
      have hne : ∀ c, c < w.heap.size + 1 + 1 + 1 + 1 + 1 → u11.ownBlock ≠ some c := fun c hc he => by have := (HO4.out.lt c he).1; omega
      have hsz5 := hg5.size
      simp only [World.size_alloc] at hsz5
      have kc : ∀ (b o : Nat) (x : Value), b < w.heap.size + 1 + 1 + 1 + 1 + 1 → w4.cell? ⟨b, o, none⟩ = some x → w5.cell? ⟨b, o, none⟩ = some x := fun b o x hb hx => (World.cell?_of_block (a := ⟨b, o, none⟩) (hg5.block b (by simp; omega) (fun he => hne b hb he.symm))).trans (cell_alloc _ hx)
      have kf : ∀ (b o : Nat) (x : Bool), b < w.heap.size + 1 + 1 + 1 + 1 + 1 → w4.frozen? ⟨b, o, none⟩ = x → w5.frozen? ⟨b, o, none⟩ = x := fun b o x hb hx => (World.frozen?_of_block (a := ⟨b, o, none⟩) (hg5.block b (by simp; omega) (fun he => hne b hb he.symm))).trans (frozen_alloc _ (by omega) hx)
      have E1 : CellsAt w5 w.heap.size [.int .i64 L.c.t, .int .i64 L.c.l, .int .i64 L.c.k, .int .i64 L.c.s, .int .i64 L.c.m, .int .i64 L.clock, .int .i64 L.stamps, .int .i64 L.log, .int .i64 L.fin, .int .i64 L.thread, .int .i64 L.lock, .int .i64 L.loc, .int .i64 L.size] := fun j x hj => kc _ _ _ (by omega) (D1.out j x hj)
      have E2 : CellsAt w5 (w.heap.size + 1 + 1) [.int .i64 kind, .int .i64 a, .int .i64 b, .int .i64 ty, .int .i64 m.s, .int .i64 m.k, .int .i64 m.a, .slice sa sl sc, .slice wa wl wc, .slice da dl dc] := fun j x hj => kc _ _ _ (by omega) (D2.out j x hj)
      have z3 := D3.out
      have E3 : OutZ w5 (w.heap.size + 1 + 1 + 1) := ⟨kc _ _ _ (by omega) z3.c0, kc _ _ _ (by omega) z3.c1, kc _ _ _ (by omega) z3.c2, kc _ _ _ (by omega) z3.c3, kc _ _ _ (by omega) z3.c4, kc _ _ _ (by omega) z3.c5, kc _ _ _ (by omega) z3.c6, fun o => kf _ _ _ (by omega) (z3.fr o)⟩
      have E4 := kc _ _ _ (by omega) D4.out
      have E5 := kc _ _ _ (by omega) D5.out
      have EG4 := kf _ _ _ (by omega) G4.out
      have EG5 := kf _ _ _ (by omega) G5.out
      have EM := memAt_gb (memAt_alloc HM4.out _) (by omega) ho0 hg5
      have EB : Below w.heap.size w w5 := HBW.out.trans ((((Below.refl w.heap.size w4).alloc (by omega) _)).grown hg5 (by simp; omega) (fun j hj => by have := (HO4.out.lt j hj).1; omega))
      have EO : w5.ownsRow (w.heap.size + 1 + 1 + 1 + 1 + 1) 85 2 v' (k + 1) (resCells (ls ++ [(R, Q)])) := by rw [resCells_append]; exact hown5
      clear hown5 hg5 ho0 hne kc kf hk z3
      go_roundw
      case rel =>
        obtain ⟨q1, q2⟩ := HN1.out
        exact ⟨k + 1, ls ++ [(R, Q)], f (R, Q), Z, a2, l2, c2, by go_num, HK.out, hn, by simp [hlk], EO, hIl2, hrun2, by rw [q1, q2]; exact HE2, hIz2, hZl, EM, EB, by omega, E1, E2, E3, E4, EG4, E5, EG5⟩
      case measure => simp [intOf]; omega
end Go.Proofs.Ytaclnaedinfhmaa
