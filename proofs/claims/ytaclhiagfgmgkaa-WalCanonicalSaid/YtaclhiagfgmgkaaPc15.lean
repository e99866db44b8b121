/-
  Merged: WlN
-/
import Derived.Test.YtaclhiagfgmgkaaRows
import Derived.Test.YtaclhiagfgmgkaaPc2
import Derived.Test.YtaclhiagfgmgkaaPc13
import Derived.Test.YtaclhiagfgmgkaaPc14
import Derived.WalkKit

/-
  Layer 23: WalCanonical.
-/
namespace Go.Proofs.Ytaclhiagfgmgkaa
open Go Go.RowKit SZ
set_option linter.unusedVariables false
set_option linter.unusedSimpArgs false
set_option maxRecDepth 100000
attribute [local irreducible] post GD Nxt NxtAll
theorem record_s (w : World) (e : Et) (hg : e.ok) (hf : fitE e.ver e.ws) (hA : WrAt w e.b e.o e.ws) : Calls Try.prog 12 #[e.v] w fun y w' => ∃ s : Sr, y = .returned s.v ∧ (s.l = recE e.ver e.ws ∧ s.ok ∧ s.at w' ∧ s.l.length ≤ s.c ∧ (s.l.length = 0 ∨ w.heap.size ≤ s.b)) ∧ Below w.heap.size w w' := (record_e w e hg hf hA).mono fun y w' ⟨v, h1, h2, h3⟩ => by
  obtain ⟨s, q1, q2, q3, q4, q5, q6⟩ := sr_of_owns h2
  exact ⟨s, by rw [h1, q2], ⟨q1, q3, q4, q5, by rw [q1]; exact q6⟩, h3⟩
theorem rec_len25 {e : Et} (hf : fitE e.ver e.ws) : (recE e.ver e.ws).length ≤ 25 := by
  cases hv : validB e.ver e.ws with
  | false => rw [recE_bad hv]; exact Nat.zero_le _
  | true => rw [recE_valid hv, recL_len]; exact (recE_many hf hv).2
theorem parA_some {l : (List ByteArray)} {at_ : Int} {v : Int} {ws : Ws} {n : Nat} (h : parA l at_ = some (v, ws, n)) : ∃ k : Nat, at_ = (k : Int) ∧ parseS l k = some (v, ws, n) := by
  unfold parA at h
  split at h
  · cases h
  · exact ⟨at_.toNat, (Int.toNat_of_nonneg (by omega)).symm, h⟩
def wcBad : Prop := True
set_option maxHeartbeats 8000000 in
theorem wcan (w0 : World) (x : Sr) (hx : x.ok) (hc : x.l.length ≤ x.c) (hA : x.at w0) (at_ : Int) : Calls Try.prog 6 #[x.v, .int .i64 at_] w0 fun y w' => y = .returned (.bool true) ∧ Below w0.heap.size w0 w' := by
  refine sy_enterF [] [rfSt x.b x.o x.l] (by intro f hf; simp only [List.mem_singleton] at hf; subst hf; exact hA) Try.func6 rfl rfl fun aa S => ?_
  refine sy_run ⟨0, [1]⟩ 60 S fun bs aa w S => ?_
  refine sy_reg S fun S => ?_
  refine sy_call1 S (sane23 w) (by kernel_rfl) fun aa w hb S => ?_
  refine sy_run ⟨0, [2]⟩ 60 S fun bs aa w S => ?_
  refine sy_reg S fun S => ?_
  refine sy_ops 1 S fun bs aa w S => ?_
  refine sy_call1 S (few_w w x hx (S.fact (f := rfSt x.b x.o x.l) (by simp))) (by kernel_rfl) fun aa w hb S => ?_
  cases hfw : fewL x.l with
  | false =>
    refine sy_cast 11 S (congrArg Value.bool hfw) (by kernel_rfl) fun S => ?_
    refine sy_run ⟨0, []⟩ 60 S fun bs aa w S => ?_
    exact sy_ret S (by kernel_rfl) (by kernel_rfl) fun hg => ⟨rfl, bel_gr hg⟩
  | true =>
    have h40 : x.l.length ≤ 40 := by simp [fewL] at hfw; exact hfw.1
    refine sy_cast 11 S (congrArg Value.bool hfw) (by kernel_rfl) fun S => ?_
    refine sy_run ⟨0, [4]⟩ 60 S fun bs aa w S => ?_
    refine sy_reg S fun S => ?_
    refine sy_ops 2 S fun bs aa w S => ?_
    refine sy_nm S fun bs S => ?_
    have hpar := parse_t w x.l x.a x.c x.b x.o hx hc (by omega) at_ (S.fact (f := rfSt x.b x.o x.l) (by simp))
    have hblk : ∀ j, j < bs.length → bs.getD j 0 < w.heap.size := fun j hj => S.lt hj
    cases hp : parA x.l at_ with
    | none =>
      refine sy_call1 S (hpar.mono fun y w' h => ⟨by have h2 := h.2; rw [hp] at h2; exact h2, h.1⟩) (by kernel_rfl) fun aa w hb S => ?_
      refine sy_run ⟨0, []⟩ 60 S fun bs aa w S => ?_
      exact sy_ret S (by kernel_rfl) (by kernel_rfl) fun hg => ⟨rfl, bel_gr hg⟩
    | some q =>
      obtain ⟨v, ws, n⟩ := q
      obtain ⟨k, rfl, hps⟩ := parA_some hp
      obtain ⟨hfit, hvv, hn, hn1, hkl, hnl, htk⟩ := parse_rec hps
      refine sy_call S (X := Et) (val := fun e => .tuple #[e.v, .int .i64 (n : Int), .int .i64 0]) (C := fun e w' => e.ver = v ∧ e.ws = ws ∧ e.ok ∧ WrAt w' e.b e.o e.ws ∧ (e.ws.length = 0 ∨ w.heap.size ≤ e.b)) (hpar.mono fun y w' h => by
        have h2 := h.2
        rw [hp] at h2
        obtain ⟨e, q1, q2, q3, q4, q5, q6⟩ := h2
        exact ⟨e, q4, ⟨q1, q2, q3, q5, q6⟩, h.1⟩) (by kernel_rfl) fun e aa w1 hC hb S => ?_
      obtain ⟨rfl, rfl, hok, hwr, hfr⟩ := hC
      have S := S.add (rfWr e.b e.o e.ws) hwr (fun i hi hb => by
        obtain ⟨q1, q2⟩ := hb
        have := hblk i hi
        have := hfr.resolve_left q2
        omega)
      obtain rfl := hn
      have h25 := rec_len25 hfit
      refine sy_run ⟨0, [7]⟩ 60 S fun bs aa w S => ?_
      refine sy_reg S fun S => ?_
      refine sy_ops 2 S fun bs aa w S => ?_
      refine sy_cast 39 S (congrArg Value.bool (decide_eq_false (by omega) : decide ((k : Int) < 0) = false)) (by kernel_rfl) fun S => ?_
      refine sy_ops 3 S fun bs aa w S => ?_
      refine sy_cast 42 S (congrArg Value.bool (decide_eq_false (by omega) : decide (((recE e.ver e.ws).length : Int) < 1) = false)) (by kernel_rfl) fun S => ?_
      refine sy_ops 7 S fun bs aa w S => ?_
      refine sy_cast 49 S (congrArg (Value.int .i64) (by rw [IntKind.wrap_i64]; omega : IntKind.i64.wrap ((x.l.length : Int) - (k : Int)) = ((x.l.length - k : Nat) : Int))) (by kernel_rfl) fun S => ?_
      refine sy_ops 1 S fun bs aa w S => ?_
      refine sy_cast 50 S (congrArg Value.bool (decide_eq_false (by omega) : decide (((recE e.ver e.ws).length : Int) > ((x.l.length - k : Nat) : Int)) = false)) (by kernel_rfl) fun S => ?_
      refine sy_run ⟨0, []⟩ 60 S fun bs aa w S => ?_
      have hxa := hx.resolve_left (by omega)
      have hsl : ∀ W, (Instr.sliceAt 28 (.slice x.a x.l.length x.c) (some (.int .i64 (k : Int))) (some (.int .i64 (IntKind.i64.wrap ((k : Int) + ((recE e.ver e.ws).length : Int))))) none).run Try.prog W = .ok (.slice (some ⟨x.b, x.o + k, none⟩) (recE e.ver e.ws).length (x.c - k)) W := fun W => by
        have q := sl_mid 28 9 Try.underlying28 (by kernel_rfl) x.b x.o x.l.length x.c k (k + (recE e.ver e.ws).length) (by omega) (by omega) (by omega) W
        rw [show k + (recE e.ver e.ws).length - k = (recE e.ver e.ws).length by omega] at q
        rw [hxa, show IntKind.i64.wrap ((k : Int) + ((recE e.ver e.ws).length : Int)) = ((k + (recE e.ver e.ws).length : Nat) : Int) by rw [IntKind.wrap_i64]; omega]
        exact q
      have hst : StrAt w x.b (x.o + k) (recE e.ver e.ws) := by rw [← htk]; exact sub_str (S.fact (f := rfSt x.b x.o x.l) (by simp))
      have hxw := (rfSt x.b x.o x.l).lt _ (S.fact (f := rfSt x.b x.o x.l) (by simp)) x.b ⟨rfl, by omega⟩
      have S := S.add (rfSt x.b (x.o + k) (recE e.ver e.ws)) hst (fun i hi hb => by
        obtain ⟨q1, _⟩ := hb
        exact (S.fs (rfSt x.b x.o x.l) (by simp)).2 i hi ⟨q1, by omega⟩)
      letI : KP := ⟨[61]⟩
      letI : HF := ⟨[]⟩
      refine dr_enter [0] (by kernel_rfl) (by kernel_rfl) S (by kernel_rfl) (fun aa w D => ?_) (fun f hf => by cases hf)
      refine dr_ex2 (fun d v c a w h => by cases d <;> exact h) 9 (op := .slice 28 (.tmp 56) (some (.tmp 57)) (some (.tmp 60)) none) (ty := 28) (v := .slice (some ⟨x.b, x.o + k, none⟩) (recE e.ver e.ws).length (x.c - k)) D (by kernel_rfl) (by kernel_rfl) (by kernel_rfl) (by kernel_rfl) (ex_sl (p := .slice x.a x.l.length x.c) (l2 := some (.v (.int .i64 (k : Int)))) (h2 := some (.v (.int .i64 (IntKind.i64.wrap ((k : Int) + ((recE e.ver e.ws).length : Int)))))) (m2 := none) (by kernel_rfl) (by kernel_rfl) (by kernel_rfl) (by kernel_rfl) hsl) fun aa D => ?_
      have hlt := fun j hj => D.S.lt (i := j) hj
      refine dr_call 3 D (by kernel_rfl) (by kernel_rfl) (by kernel_rfl) (X := Sr) (val := Sr.v) (C := fun s w' => s.l = recE e.ver e.ws ∧ s.ok ∧ s.at w' ∧ s.l.length ≤ s.c ∧ (s.l.length = 0 ∨ w.heap.size ≤ s.b)) (f := 12) (args := #[e.v]) (record_s w e hok hfit (D.S.fact (f := rfWr e.b e.o e.ws) (by simp))) (by kernel_rfl) fun s aa w1 hC hb D => ?_
      have D := D.addF (rfSt s.b s.o s.l) hC.2.2.1 (fun j hj hb => by
        obtain ⟨q1, q2⟩ := hb
        have := hlt j hj
        have := hC.2.2.2.2.resolve_left q2
        omega)
      refine dr_call1 10 D (by kernel_rfl) (by kernel_rfl) (by kernel_rfl) (v := .bool true) (f := 11) (args := #[s.v, .slice (some ⟨x.b, x.o + k, none⟩) (recE e.ver e.ws).length (x.c - k)]) (by
        have h := texts_t w1 s ⟨some ⟨x.b, x.o + k, none⟩, x.c - k, x.b, x.o + k, recE e.ver e.ws⟩ hC.2.1 (Or.inr rfl) (by rw [hC.1]; omega) hC.2.2.1 (D.S.fact (f := rfSt x.b (x.o + k) (recE e.ver e.ws)) (by simp))
        rw [decide_eq_true hC.1] at h
        exact h) (by kernel_rfl) fun aa w hb D => ?_
      refine dr_end D (by kernel_rfl) fun S => ?_
      refine sy_run ⟨0, []⟩ 60 S fun bs aa w S => ?_
      exact sy_ret S (by kernel_rfl) (by kernel_rfl) fun hg => ⟨rfl, bel_gr hg⟩
end Go.Proofs.Ytaclhiagfgmgkaa
