
/-
  Layer 27: the runs of a script: the iterator's contract.
-/
import Derived.RangeFuncBox
import Derived.RangeFuncNested
import Derived.RangeFuncLeaves
import Derived.Shelf.Abstract
import Derived.WalkKit
import Derived.OwnWalkIn
import Derived.TacticsInMore
import Derived.LoopNIn
import Derived.LoopIn
import Derived.Maps.AppendAt
import Derived.Sort.QuietIn
import Derived.Lib.Hide
import Derived.Test.YtfkmcibglaiakaaDoorScH
namespace Go.Proofs.YtfkmcibglaiakaaDoor
set_option linter.unusedVariables false
open Go.ChangeShapes Go.WideShapes Go.ChangeAt Go.RowKit Go.Shelf
attribute [local go_sem] Oper.semAt_some
def pk0 : Pk := ⟨0, 0, 0, none, 0, 0, 0, []⟩
/-- Whether a pick goes on with a run. -/
def eqS (p q : Pk) : Bool := decide (p.k = 1) && decide (q.k = 1) && decide (q.a = p.a)
def runE (ps : List Pk) (i : Nat) : Nat → Nat → Nat
  | 0, e => e
  | f + 1, e => if e < ps.length ∧ eqS (ps.getD i pk0) (ps.getD e pk0) = true then runE ps i f (e + 1) else e
theorem runE_is (ps : List Pk) (i : Nat) : ∀ (f e : Nat), e ≤ ps.length → e ≤ runE ps i f e ∧ runE ps i f e ≤ ps.length
  | 0, e, h => ⟨Nat.le_refl _, h⟩
  | f + 1, e, h => by
    unfold runE
    split
    · next hc => have := runE_is ps i f (e + 1) (by omega); omega
    · exact ⟨Nat.le_refl _, h⟩
def runX (ps : List Pk) (i : Nat) : Nat := runE ps i ps.length (i + 1)
theorem runX_is {ps : List Pk} {i : Nat} (h : i < ps.length) : i < runX ps i ∧ runX ps i ≤ ps.length := by
  have := runE_is ps i ps.length (i + 1) (by omega)
  unfold runX
  omega
/-- A run: where it begins, how many picks. -/
abbrev Rn (ps : List Pk) := { x : Nat × Nat // x.1 < ps.length ∧ x.2 ≤ ps.length }
def rnL (ps : List Pk) : Nat → Nat → List (Rn ps)
  | 0, _ => []
  | f + 1, i => if h : i < ps.length then ⟨(i, runX ps i - i), h, by have := (runX_is h).2; show runX ps i - i ≤ ps.length; omega⟩ :: rnL ps f (runX ps i) else []
theorem rnL_fuel (ps : List Pk) : ∀ (f g i : Nat), ps.length - i ≤ f → ps.length - i ≤ g → rnL ps f i = rnL ps g i
  | 0, 0, i, _, _ => rfl
  | 0, g + 1, i, h, _ => by unfold rnL; rw [dif_neg (by omega)]
  | f + 1, 0, i, _, h => by unfold rnL; rw [dif_neg (by omega)]
  | f + 1, g + 1, i, h1, h2 => by
    unfold rnL
    by_cases h : i < ps.length
    · rw [dif_pos h, dif_pos h, rnL_fuel ps f g _ (by have := runX_is h; omega) (by have := runX_is h; omega)]
    · rw [dif_neg h, dif_neg h]
def rnS (ps : List Pk) (i : Nat) : List (Rn ps) := rnL ps ps.length i
def rnx (ps : List Pk) (i : Nat) (h : i < ps.length) : Rn ps := ⟨(i, runX ps i - i), h, by have := (runX_is h).2; show runX ps i - i ≤ ps.length; omega⟩
theorem rnS_step {ps : List Pk} {i : Nat} (h : i < ps.length) : rnS ps i = rnx ps i h :: rnS ps (runX ps i) := by
  unfold rnS
  rw [rnL_fuel ps ps.length (ps.length + 1) i (by omega) (by omega)]
  conv => lhs; unfold rnL
  rw [dif_pos h]
  rfl
theorem rnS_end {ps : List Pk} {i : Nat} (h : ¬i < ps.length) : rnS ps i = [] := by
  unfold rnS
  cases hn : ps.length with
  | zero => rfl
  | succ n => unfold rnL; rw [dif_neg h]
/-- A row of picks. -/
def PsAt (W : World) (b off : Nat) (ps : List Pk) : Prop := ∀ j, j < ps.length → W.cell? ⟨b, off + j * 4, none⟩ = some (.int .i64 (ps.getD j pk0).k) ∧ W.cell? ⟨b, off + j * 4 + 1, none⟩ = some (.int .i64 (ps.getD j pk0).a) ∧ W.cell? ⟨b, off + j * 4 + 2, none⟩ = some (.int .i64 (ps.getD j pk0).b) ∧ W.cell? ⟨b, off + j * 4 + 3, none⟩ = some (.slice (ps.getD j pk0).s (ps.getD j pk0).c.length (ps.getD j pk0).cp)
theorem PsAt.below {n0 : Nat} {A B : World} {b off : Nat} {ps : List Pk} (hb : Below n0 A B) (hbn : ps.length = 0 ∨ b < n0) (h : PsAt A b off ps) : PsAt B b off ps := fun j hj => by
  obtain ⟨h0, h1, h2, h3⟩ := h j hj
  have hbn := hbn.resolve_left (by omega)
  exact ⟨(hb.cell (p := ⟨b, off + j * 4, none⟩) hbn).trans h0, (hb.cell (p := ⟨b, off + j * 4 + 1, none⟩) hbn).trans h1, (hb.cell (p := ⟨b, off + j * 4 + 2, none⟩) hbn).trans h2, (hb.cell (p := ⟨b, off + j * 4 + 3, none⟩) hbn).trans h3⟩
/-- What a round keeps: what lay below, and a variable. -/
def KpB (n0 Bs : Nat) (W W' : World) : Prop := Below n0 W W' ∧ W'.heap[Bs]? = W.heap[Bs]?
theorem KpB.trans {n0 Bs : Nat} {A B C : World} (h : KpB n0 Bs A B) (k : KpB n0 Bs B C) : KpB n0 Bs A C := ⟨h.1.trans k.1, k.2.trans h.2⟩
theorem KpB.cell {n0 Bs : Nat} {A B : World} (h : KpB n0 Bs A B) {v : Value} (hc : A.cell? ⟨Bs, 0, none⟩ = some v) : B.cell? ⟨Bs, 0, none⟩ = some v := by
  unfold World.cell? at hc ⊢
  rw [h.2]
  exact hc
theorem KpB.putObj {n0 Bs : Nat} {w : World} (hn : n0 ≤ w.heap.size) (hB : Bs < w.heap.size) (W : World) (l : Nat) (o o' : Obj) (hl : w.heap.size ≤ l) (h : W.heap[l]? = some o) (h1 : o.isCells = false) (h2 : o.isWalk = false) : KpB n0 Bs W (W.putObj l o') :=
  ⟨belowK_b hn W l o o' hl h h1 h2, (grownBy_putObj' W l o').block Bs (by have := (Array.getElem?_eq_some_iff.1 h).1; omega) (fun e => by cases e; omega)⟩
theorem KpB.drewN {n0 Bs : Nat} (W : World) (n : Nat) : KpB n0 Bs W (W.drewN n) := by
  induction n with
  | zero => exact ⟨Below.refl _ _, rfl⟩
  | succ n ih => exact ih.trans ⟨(Below.refl _ _).drew, rfl⟩
theorem grown_drewN (W : World) (n : Nat) : W.grownBy (W.drewN n) none := by
  induction n with
  | zero => exact ⟨rfl, rfl, rfl, Nat.le_refl _, fun _ _ _ => rfl⟩
  | succ n ih => exact ⟨ih.os, ih.tape, ih.output, ih.size, ih.block⟩
abbrev rnV (ps : List Pk) (x : Rn ps) : Array Value := #[.agg #[.int .i64 (ps.getD x.1.1 pk0).k, .int .i64 (ps.getD x.1.1 pk0).a, .int .i64 (ps.getD x.1.1 pk0).b, .slice (ps.getD x.1.1 pk0).s (ps.getD x.1.1 pk0).c.length (ps.getD x.1.1 pk0).cp], .int .i64 (x.1.2 : Int)]
theorem runE_go {ps : List Pk} {i m f : Nat} (hm : m < ps.length) (he : eqS (ps.getD i pk0) (ps.getD m pk0) = true) : runE ps i (f + 1) m = runE ps i f (m + 1) := if_pos ⟨hm, he⟩
theorem runE_no {ps : List Pk} {i m f : Nat} (he : ¬(m < ps.length ∧ eqS (ps.getD i pk0) (ps.getD m pk0) = true)) : runE ps i f m = m := by
  cases f with
  | zero => rfl
  | succ f => exact if_neg he
theorem runE_fuel (ps : List Pk) (i : Nat) : ∀ (f g e : Nat), ps.length - e ≤ f → ps.length - e ≤ g → runE ps i f e = runE ps i g e
  | 0, g, e, h, _ => (runE_no (fun q => by have := q.1; omega) : runE ps i g e = e).symm
  | f + 1, 0, e, _, h => runE_no (fun q => by have := q.1; omega)
  | f + 1, g + 1, e, h1, h2 => by
    unfold runE
    split
    · next hq => exact runE_fuel ps i f g (e + 1) (by omega) (by omega)
    · rfl
set_option maxRecDepth 100000 in
set_option maxHeartbeats 8000000 in
theorem runs1_in (n : Nat) (hn : 1 ≤ n) (l Bs n0 b off cap : Nat) (a : Option Addr) (ps : List Pk) (hreach : ps.length ≤ 1000000) (J Jx : List (Rn ps) → World → Prop)
    (hY : ∀ pre x W, J pre W → pre.length < ps.length → YieldAt Fence.wide (n - 1) Tryd.prog l (rnV ps x) W fun e W' =>
      (e = .returned (.bool true) ∧ J (pre ++ [x]) W' ∧ KpB n0 Bs W W') ∨ (e = .returned (.bool false) ∧ Jx (pre ++ [x]) W'))
    (W : World) (hJ : AbidesFrom W.heap.size J) (hBs : W.cell? ⟨Bs, 0, none⟩ = some (.slice a ps.length cap)) (ha : 0 < ps.length → a = some ⟨b, off, none⟩) (hbn : ps.length = 0 ∨ b < n0) (hc : PsAt W b off ps) (h0 : J [] W) :
    CallsIn Fence.wide n Tryd.prog 42 #[.func (.yield l) #[] #[], .pointer (some ⟨Bs, 0, none⟩)] W fun e W' => (∃ v, e = .returned v) ∧
      ((∃ ys, ys = rnS ps 0 ∧ J ys W') ∨ (∃ pre, (∃ q, rnS ps 0 = pre ++ q) ∧ Jx pre W')) := by
  refine callsIn_of_wp Tryd.func42 rfl trivial ?_ rfl
  simp only [Tryd.ntmps42, List.size_toArray, List.length_cons, List.length_nil, Nat.reduceAdd, Nat.reduceSub, Array.replicate_succ, Array.replicate_zero, List.push_toArray, List.append_toArray, List.nil_append, List.cons_append]
  gi_wp2
  gi_loopw [3] (fun k wr => ∃ (i : Nat) (pre : List (Rn ps)), i ≤ ps.length ∧ pre.length ≤ i ∧ k = .int .i64 (i : Int) ∧ rnS ps 0 = pre ++ rnS ps i ∧ J pre wr ∧ KpB n0 Bs W wr)
    (fun k _ => ps.length - (intOf k).toNat)
  case atStart => exact ⟨0, [], Nat.zero_le _, Nat.le_refl _, rfl, rfl, h0, Below.refl _ _, rfl⟩
  case round =>
    obtain ⟨i, pre, hi, hpl, rfl, hS, hJs, hnx⟩ := hrel
    have hBs1 := hnx.cell hBs
    by_cases hlt : i < ps.length
    · obtain rfl := ha (by omega)
      have hwi : wrap64 ((i : Int) + 1) = (i : Int) + 1 := wrap64_id (by unfold I64; omega)
      have hwi2 : IntKind.i64.wrap ((i : Int) + 1) = ((i + 1 : Nat) : Int) := by rw [IntKind.wrap_i64]; omega
      gi_wp2
      gi_loopw [4] (fun e w2 => ∃ m : Nat, i < m ∧ m ≤ ps.length ∧ e = .int .i64 (m : Int) ∧ runE ps i (ps.length - m) m = runX ps i ∧ J pre w2 ∧ KpB n0 Bs W w2 ∧ wr.heap.size ≤ w2.heap.size)
        (fun e _ => ps.length - (intOf e).toNat)
      case atStart =>
        exact ⟨i + 1, by omega, by omega, by simp, by
          have h := runE_is ps i ps.length (i + 1) (by omega)
          show runE ps i (ps.length - (i + 1)) (i + 1) = runE ps i ps.length (i + 1)
          exact runE_fuel ps i _ _ (i + 1) (by omega) (by omega), hJs, hnx, Nat.le_refl _⟩
      case round =>
        obtain ⟨m, him, hm, rfl, hE, hJ2, hn2, hz2⟩ := hrel
        have hBs2 := hn2.cell hBs
        obtain ⟨p0, p1, p2, p3⟩ := hc.below hn2.1 hbn i hlt
        obtain ⟨pi, hpi⟩ : ∃ q, ps.getD i pk0 = q := ⟨_, rfl⟩
        rw [hpi] at p0 p1 p2 p3
        obtain ⟨ki, ai, bi, si, cpi, bli, oi, ci⟩ := pi
        dsimp only at p0 p1 p2 p3
        by_cases hml : m < ps.length
        · obtain ⟨q0, q1, q2, q3⟩ := hc.below hn2.1 hbn m hml
          have hd1 : decide ((m : Int) < (ps.length : Int)) = true := decide_eq_true (by omega)
          obtain ⟨pm, hpm⟩ : ∃ q, ps.getD m pk0 = q := ⟨_, rfl⟩
          rw [hpm] at q0 q1 q2 q3
          obtain ⟨km, am, bm, sm, cpm, blm, om, cm⟩ := pm
          dsimp only at q0 q1 q2 q3
          by_cases hk1 : ki = 1
          · subst hk1
            by_cases hk2 : km = 1
            · subst hk2
              by_cases hk3 : am = ai
              · subst hk3
                have hE2 : runE ps i (ps.length - (m + 1)) (m + 1) = runX ps i := by
                  rw [← hE, show ps.length - m = ps.length - (m + 1) + 1 by omega]
                  exact (runE_go hml (by rw [hpi, hpm]; simp [eqS])).symm
                have hwm : wrap64 ((m : Int) + 1) = (m : Int) + 1 := wrap64_id (by unfold I64; omega)
                gi_wp2
                gi_quiet (fail)
                have hJ3 : J pre (wr.drewN nq) := hJ pre _ _ none hJ2 (grown_drewN _ _) (fun r e => by cases e)
                have hn3 : KpB n0 Bs W (wr.drewN nq) := hn2.trans (KpB.drewN _ _)
                have hz3 := (grown_drewN wr nq).size
                have HE : Hid (runE ps i (ps.length - (m + 1)) (m + 1) = runX ps i) := Lib.hid hE2
                generalize (wr.drewN nq) = ww at *
                show Exit.then _ _ _ _ _
                go_simp
                rename_i Qx q1 q2 q3 q4
                refine q4 _ _ (wpIn_cond_true rfl ?_)
                refine wpIn_skip ?_
                show q1 _ _
                refine q2 _ _ ?_
                refine wpIn_block ?_
                clear p0 p1 p2 p3 q0 hE2 hE hpi hpm hY q2 q4 hd1 hn2 hJ2
                gi_wp2
                exact ⟨⟨m + 1, by omega, by omega, by simp, HE.out, hJ3, hn3, by omega⟩, by simp [intOf]; omega⟩
              · have hd4 : (am == ai) = false := by simpa using hk3
                have hx : runX ps i = m := by rw [← hE]; exact runE_no (fun h => by have h2 := h.2; rw [hpi, hpm] at h2; simp [eqS] at h2; exact hk3 h2)
                gi_wp2
                gi_quiet (fail)
                have hJ3 : J pre (wr.drewN nq) := hJ pre _ _ none hJ2 (grown_drewN _ _) (fun r e => by cases e)
                have hn3 : KpB n0 Bs W (wr.drewN nq) := hn2.trans (KpB.drewN _ _)
                obtain ⟨fn, tmps, assign, body, hy, hR⟩ := hY pre (rnx ps i hlt) (wr.drewN nq) hJ3 (by omega)
                dsimp only [rnV, rnx] at hy
                rw [hpi] at hy
                dsimp only at hy
                have hsub : wrap64 ((m : Int) - (i : Int)) = (m : Int) - (i : Int) := wrap64_id (by unfold I64; omega)
                rw [hx, show ((m - i : Nat) : Int) = (m : Int) - (i : Int) by omega] at hy
                gi_wp2
                refine hR.mono ?_
                rintro e W3 (⟨rfl, hJ4, hk4⟩ | ⟨rfl, hJx4⟩)
                · gi_wp2
                  go_roundw
                  case rel => exact ⟨m, pre ++ [rnx ps i hlt], hm, by rw [List.length_append, List.length_singleton]; omega, rfl, by rw [hS, rnS_step hlt, hx]; simp, hJ4, hn3.trans hk4⟩
                  case measure => first | (simp [intOf]; done) | (simp [intOf]; omega)
                · gi_wp2
                  refine bodyPost_ret (results_none rfl _ _ _) rfl ?_
                  exact ⟨⟨_, rfl⟩, .inr ⟨_, ⟨rnS ps (runX ps i), by rw [hS, rnS_step hlt]; simp⟩, hJx4⟩⟩
            · have hd3 : (km == 1) = false := by simpa using hk2
              have hx : runX ps i = m := by rw [← hE]; exact runE_no (fun h => by have h2 := h.2; rw [hpi, hpm] at h2; simp [eqS] at h2; exact hk2 h2.1)
              gi_wp2
              gi_quiet (fail)
              have hJ3 : J pre (wr.drewN nq) := hJ pre _ _ none hJ2 (grown_drewN _ _) (fun r e => by cases e)
              have hn3 : KpB n0 Bs W (wr.drewN nq) := hn2.trans (KpB.drewN _ _)
              obtain ⟨fn, tmps, assign, body, hy, hR⟩ := hY pre (rnx ps i hlt) (wr.drewN nq) hJ3 (by omega)
              dsimp only [rnV, rnx] at hy
              rw [hpi] at hy
              dsimp only at hy
              have hsub : wrap64 ((m : Int) - (i : Int)) = (m : Int) - (i : Int) := wrap64_id (by unfold I64; omega)
              rw [hx, show ((m - i : Nat) : Int) = (m : Int) - (i : Int) by omega] at hy
              gi_wp2
              refine hR.mono ?_
              rintro e W3 (⟨rfl, hJ4, hk4⟩ | ⟨rfl, hJx4⟩)
              · gi_wp2
                go_roundw
                case rel => exact ⟨m, pre ++ [rnx ps i hlt], hm, by rw [List.length_append, List.length_singleton]; omega, rfl, by rw [hS, rnS_step hlt, hx]; simp, hJ4, hn3.trans hk4⟩
                case measure => first | (simp [intOf]; done) | (simp [intOf]; omega)
              · gi_wp2
                refine bodyPost_ret (results_none rfl _ _ _) rfl ?_
                exact ⟨⟨_, rfl⟩, .inr ⟨_, ⟨rnS ps (runX ps i), by rw [hS, rnS_step hlt]; simp⟩, hJx4⟩⟩
          · have hd2 : (ki == 1) = false := by simpa using hk1
            have hx : runX ps i = m := by rw [← hE]; exact runE_no (fun h => by have h2 := h.2; rw [hpi, hpm] at h2; simp [eqS] at h2; exact hk1 h2.1.1)
            gi_wp2
            gi_quiet (fail)
            have hJ3 : J pre (wr.drewN nq) := hJ pre _ _ none hJ2 (grown_drewN _ _) (fun r e => by cases e)
            have hn3 : KpB n0 Bs W (wr.drewN nq) := hn2.trans (KpB.drewN _ _)
            obtain ⟨fn, tmps, assign, body, hy, hR⟩ := hY pre (rnx ps i hlt) (wr.drewN nq) hJ3 (by omega)
            dsimp only [rnV, rnx] at hy
            rw [hpi] at hy
            dsimp only at hy
            have hsub : wrap64 ((m : Int) - (i : Int)) = (m : Int) - (i : Int) := wrap64_id (by unfold I64; omega)
            rw [hx, show ((m - i : Nat) : Int) = (m : Int) - (i : Int) by omega] at hy
            gi_wp2
            refine hR.mono ?_
            rintro e W3 (⟨rfl, hJ4, hk4⟩ | ⟨rfl, hJx4⟩)
            · gi_wp2
              go_roundw
              case rel => exact ⟨m, pre ++ [rnx ps i hlt], hm, by rw [List.length_append, List.length_singleton]; omega, rfl, by rw [hS, rnS_step hlt, hx]; simp, hJ4, hn3.trans hk4⟩
              case measure => first | (simp [intOf]; done) | (simp [intOf]; omega)
            · gi_wp2
              refine bodyPost_ret (results_none rfl _ _ _) rfl ?_
              exact ⟨⟨_, rfl⟩, .inr ⟨_, ⟨rnS ps (runX ps i), by rw [hS, rnS_step hlt]; simp⟩, hJx4⟩⟩
        · have hd1 : decide ((m : Int) < (ps.length : Int)) = false := decide_eq_false (by omega)
          have hx : runX ps i = m := by rw [← hE]; exact runE_no (fun h => hml h.1)
          gi_wp2
          gi_quiet (fail)
          have hJ3 : J pre (wr.drewN nq) := hJ pre _ _ none hJ2 (grown_drewN _ _) (fun r e => by cases e)
          have hn3 : KpB n0 Bs W (wr.drewN nq) := hn2.trans (KpB.drewN _ _)
          obtain ⟨fn, tmps, assign, body, hy, hR⟩ := hY pre (rnx ps i hlt) (wr.drewN nq) hJ3 (by omega)
          dsimp only [rnV, rnx] at hy
          rw [hpi] at hy
          dsimp only at hy
          have hsub : wrap64 ((m : Int) - (i : Int)) = (m : Int) - (i : Int) := wrap64_id (by unfold I64; omega)
          rw [hx, show ((m - i : Nat) : Int) = (m : Int) - (i : Int) by omega] at hy
          gi_wp2
          refine hR.mono ?_
          rintro e W3 (⟨rfl, hJ4, hk4⟩ | ⟨rfl, hJx4⟩)
          · gi_wp2
            go_roundw
            case rel => exact ⟨m, pre ++ [rnx ps i hlt], hm, by rw [List.length_append, List.length_singleton]; omega, rfl, by rw [hS, rnS_step hlt, hx]; simp, hJ4, hn3.trans hk4⟩
            case measure => first | (simp [intOf]; done) | (simp [intOf]; omega)
          · gi_wp2
            refine bodyPost_ret (results_none rfl _ _ _) rfl ?_
            exact ⟨⟨_, rfl⟩, .inr ⟨_, ⟨rnS ps (runX ps i), by rw [hS, rnS_step hlt]; simp⟩, hJx4⟩⟩
    · rw [rnS_end hlt, List.append_nil] at hS
      have hii : i = ps.length := by omega
      subst hii
      gi_wp2
      go_end0
      exact ⟨⟨_, rfl⟩, .inl ⟨_, hS.symm, hJs⟩⟩
end Go.Proofs.YtfkmcibglaiakaaDoor
