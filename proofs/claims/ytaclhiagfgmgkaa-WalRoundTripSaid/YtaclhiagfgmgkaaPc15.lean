/-
  Merged: WlN, WlP
-/
import Derived.Test.YtaclhiagfgmgkaaRows
import Derived.Test.YtaclhiagfgmgkaaPc2
import Derived.Test.YtaclhiagfgmgkaaPc13
import Derived.Test.YtaclhiagfgmgkaaPc14
import Derived.WalkKit
import Derived.Test.YtaclhiagfgmgkaaPc11

/-
  Layer 23: WalCanonical.
-/
namespace Go.Proofs.Ytaclhiagfgmgkaa
open Go Go.RowKit SZ
set_option linter.unusedVariables false
set_option linter.unusedSimpArgs false
set_option maxRecDepth 100000
attribute [local irreducible] post GD Nxt NxtAll
theorem record_s (w : World) (e : Et) (hg : e.ok) (hf : fitE e.ver e.ws) (hA : WrAt w e.b e.o e.ws) : Calls Try.prog 12 #[e.v] w fun y w' => ∃ s : Sr, y = .returned s.v ∧ (s.l = recE e.ver e.ws ∧ s.ok ∧ s.at w' ∧ s.l.length ≤ s.c ∧ (s.l.length = 0 ∨ w.heap.size ≤ s.b)) ∧ Below w.heap.size w w' := (record_e w e hg hf hA).mono fun y w' ⟨v, h1, h2, h3⟩ => by
  obtain ⟨s, q1, q2, q3, q4, q5, q6⟩ := sr_of_owns h2
  exact ⟨s, by rw [h1, q2], ⟨q1, q3, q4, q5, by rw [q1]; exact q6⟩, h3⟩
theorem rec_len25 {e : Et} (hf : fitE e.ver e.ws) : (recE e.ver e.ws).length ≤ 25 := by
  cases hv : validB e.ver e.ws with
  | false => rw [recE_bad hv]; exact Nat.zero_le _
  | true => rw [recE_valid hv, recL_len]; exact (recE_many hf hv).2
theorem parA_some {l : (List ByteArray)} {at_ : Int} {v : Int} {ws : Ws} {n : Nat} (h : parA l at_ = some (v, ws, n)) : ∃ k : Nat, at_ = (k : Int) ∧ parseS l k = some (v, ws, n) := by
  unfold parA at h
  split at h
  · cases h
  · exact ⟨at_.toNat, (Int.toNat_of_nonneg (by omega)).symm, h⟩
def wcBad : Prop := True
set_option maxHeartbeats 8000000 in
theorem wcan (w0 : World) (x : Sr) (hx : x.ok) (hc : x.l.length ≤ x.c) (hA : x.at w0) (at_ : Int) : Calls Try.prog 6 #[x.v, .int .i64 at_] w0 fun y w' => y = .returned (.bool true) ∧ Below w0.heap.size w0 w' := by
  refine sy_enterF [] [rfSt x.b x.o x.l] (by intro f hf; simp only [List.mem_singleton] at hf; subst hf; exact hA) Try.func6 rfl rfl fun aa S => ?_
  refine sy_run ⟨0, [1]⟩ 60 S fun bs aa w S => ?_
  refine sy_reg S fun S => ?_
  refine sy_call1 S (sane23 w) (by kernel_rfl) fun aa w hb S => ?_
  refine sy_run ⟨0, [2]⟩ 60 S fun bs aa w S => ?_
  refine sy_reg S fun S => ?_
  refine sy_ops 1 S fun bs aa w S => ?_
  refine sy_call1 S (few_w w x hx (S.fact (f := rfSt x.b x.o x.l) (by simp))) (by kernel_rfl) fun aa w hb S => ?_
  cases hfw : fewL x.l with
  | false =>
    refine sy_cast 11 S (congrArg Value.bool hfw) (by kernel_rfl) fun S => ?_
    refine sy_run ⟨0, []⟩ 60 S fun bs aa w S => ?_
    exact sy_ret S (by kernel_rfl) (by kernel_rfl) fun hg => ⟨rfl, bel_gr hg⟩
  | true =>
    have h40 : x.l.length ≤ 40 := by simp [fewL] at hfw; exact hfw.1
    refine sy_cast 11 S (congrArg Value.bool hfw) (by kernel_rfl) fun S => ?_
    refine sy_run ⟨0, [4]⟩ 60 S fun bs aa w S => ?_
    refine sy_reg S fun S => ?_
    refine sy_ops 2 S fun bs aa w S => ?_
    refine sy_nm S fun bs S => ?_
    have hpar := parse_t w x.l x.a x.c x.b x.o hx hc (by omega) at_ (S.fact (f := rfSt x.b x.o x.l) (by simp))
    have hblk : ∀ j, j < bs.length → bs.getD j 0 < w.heap.size := fun j hj => S.lt hj
    cases hp : parA x.l at_ with
    | none =>
      refine sy_call1 S (hpar.mono fun y w' h => ⟨by have h2 := h.2; rw [hp] at h2; exact h2, h.1⟩) (by kernel_rfl) fun aa w hb S => ?_
      refine sy_run ⟨0, []⟩ 60 S fun bs aa w S => ?_
      exact sy_ret S (by kernel_rfl) (by kernel_rfl) fun hg => ⟨rfl, bel_gr hg⟩
    | some q =>
      obtain ⟨v, ws, n⟩ := q
      obtain ⟨k, rfl, hps⟩ := parA_some hp
      obtain ⟨hfit, hvv, hn, hn1, hkl, hnl, htk⟩ := parse_rec hps
      refine sy_call S (X := Et) (val := fun e => .tuple #[e.v, .int .i64 (n : Int), .int .i64 0]) (C := fun e w' => e.ver = v ∧ e.ws = ws ∧ e.ok ∧ WrAt w' e.b e.o e.ws ∧ (e.ws.length = 0 ∨ w.heap.size ≤ e.b)) (hpar.mono fun y w' h => by
        have h2 := h.2
        rw [hp] at h2
        obtain ⟨e, q1, q2, q3, q4, q5, q6⟩ := h2
        exact ⟨e, q4, ⟨q1, q2, q3, q5, q6⟩, h.1⟩) (by kernel_rfl) fun e aa w1 hC hb S => ?_
      obtain ⟨rfl, rfl, hok, hwr, hfr⟩ := hC
      have S := S.add (rfWr e.b e.o e.ws) hwr (fun i hi hb => by
        obtain ⟨q1, q2⟩ := hb
        have := hblk i hi
        have := hfr.resolve_left q2
        omega)
      obtain rfl := hn
      have h25 := rec_len25 hfit
      refine sy_run ⟨0, [7]⟩ 60 S fun bs aa w S => ?_
      refine sy_reg S fun S => ?_
      refine sy_ops 2 S fun bs aa w S => ?_
      refine sy_cast 39 S (congrArg Value.bool (decide_eq_false (by omega) : decide ((k : Int) < 0) = false)) (by kernel_rfl) fun S => ?_
      refine sy_ops 3 S fun bs aa w S => ?_
      refine sy_cast 42 S (congrArg Value.bool (decide_eq_false (by omega) : decide (((recE e.ver e.ws).length : Int) < 1) = false)) (by kernel_rfl) fun S => ?_
      refine sy_ops 7 S fun bs aa w S => ?_
      refine sy_cast 49 S (congrArg (Value.int .i64) (by rw [IntKind.wrap_i64]; omega : IntKind.i64.wrap ((x.l.length : Int) - (k : Int)) = ((x.l.length - k : Nat) : Int))) (by kernel_rfl) fun S => ?_
      refine sy_ops 1 S fun bs aa w S => ?_
      refine sy_cast 50 S (congrArg Value.bool (decide_eq_false (by omega) : decide (((recE e.ver e.ws).length : Int) > ((x.l.length - k : Nat) : Int)) = false)) (by kernel_rfl) fun S => ?_
      refine sy_run ⟨0, []⟩ 60 S fun bs aa w S => ?_
      have hxa := hx.resolve_left (by omega)
      have hsl : ∀ W, (Instr.sliceAt 28 (.slice x.a x.l.length x.c) (some (.int .i64 (k : Int))) (some (.int .i64 (IntKind.i64.wrap ((k : Int) + ((recE e.ver e.ws).length : Int))))) none).run Try.prog W = .ok (.slice (some ⟨x.b, x.o + k, none⟩) (recE e.ver e.ws).length (x.c - k)) W := fun W => by
        have q := sl_mid 28 9 Try.underlying28 (by kernel_rfl) x.b x.o x.l.length x.c k (k + (recE e.ver e.ws).length) (by omega) (by omega) (by omega) W
        rw [show k + (recE e.ver e.ws).length - k = (recE e.ver e.ws).length by omega] at q
        rw [hxa, show IntKind.i64.wrap ((k : Int) + ((recE e.ver e.ws).length : Int)) = ((k + (recE e.ver e.ws).length : Nat) : Int) by rw [IntKind.wrap_i64]; omega]
        exact q
      have hst : StrAt w x.b (x.o + k) (recE e.ver e.ws) := by rw [← htk]; exact sub_str (S.fact (f := rfSt x.b x.o x.l) (by simp))
      have hxw := (rfSt x.b x.o x.l).lt _ (S.fact (f := rfSt x.b x.o x.l) (by simp)) x.b ⟨rfl, by omega⟩
      have S := S.add (rfSt x.b (x.o + k) (recE e.ver e.ws)) hst (fun i hi hb => by
        obtain ⟨q1, _⟩ := hb
        exact (S.fs (rfSt x.b x.o x.l) (by simp)).2 i hi ⟨q1, by omega⟩)
      letI : KP := ⟨[61]⟩
      letI : HF := ⟨[]⟩
      refine dr_enter [0] (by kernel_rfl) (by kernel_rfl) S (by kernel_rfl) (fun aa w D => ?_) (fun f hf => by cases hf)
      refine dr_ex2 (fun d v c a w h => by cases d <;> exact h) 9 (op := .slice 28 (.tmp 56) (some (.tmp 57)) (some (.tmp 60)) none) (ty := 28) (v := .slice (some ⟨x.b, x.o + k, none⟩) (recE e.ver e.ws).length (x.c - k)) D (by kernel_rfl) (by kernel_rfl) (by kernel_rfl) (by kernel_rfl) (ex_sl (p := .slice x.a x.l.length x.c) (l2 := some (.v (.int .i64 (k : Int)))) (h2 := some (.v (.int .i64 (IntKind.i64.wrap ((k : Int) + ((recE e.ver e.ws).length : Int)))))) (m2 := none) (by kernel_rfl) (by kernel_rfl) (by kernel_rfl) (by kernel_rfl) hsl) fun aa D => ?_
      have hlt := fun j hj => D.S.lt (i := j) hj
      refine dr_call 3 D (by kernel_rfl) (by kernel_rfl) (by kernel_rfl) (X := Sr) (val := Sr.v) (C := fun s w' => s.l = recE e.ver e.ws ∧ s.ok ∧ s.at w' ∧ s.l.length ≤ s.c ∧ (s.l.length = 0 ∨ w.heap.size ≤ s.b)) (f := 12) (args := #[e.v]) (record_s w e hok hfit (D.S.fact (f := rfWr e.b e.o e.ws) (by simp))) (by kernel_rfl) fun s aa w1 hC hb D => ?_
      have D := D.addF (rfSt s.b s.o s.l) hC.2.2.1 (fun j hj hb => by
        obtain ⟨q1, q2⟩ := hb
        have := hlt j hj
        have := hC.2.2.2.2.resolve_left q2
        omega)
      refine dr_call1 10 D (by kernel_rfl) (by kernel_rfl) (by kernel_rfl) (v := .bool true) (f := 11) (args := #[s.v, .slice (some ⟨x.b, x.o + k, none⟩) (recE e.ver e.ws).length (x.c - k)]) (by
        have h := texts_t w1 s ⟨some ⟨x.b, x.o + k, none⟩, x.c - k, x.b, x.o + k, recE e.ver e.ws⟩ hC.2.1 (Or.inr rfl) (by rw [hC.1]; omega) hC.2.2.1 (D.S.fact (f := rfSt x.b (x.o + k) (recE e.ver e.ws)) (by simp))
        rw [decide_eq_true hC.1] at h
        exact h) (by kernel_rfl) fun aa w hb D => ?_
      refine dr_end D (by kernel_rfl) fun S => ?_
      refine sy_run ⟨0, []⟩ 60 S fun bs aa w S => ?_
      exact sy_ret S (by kernel_rfl) (by kernel_rfl) fun hg => ⟨rfl, bel_gr hg⟩
end Go.Proofs.Ytaclhiagfgmgkaa


/-
  Layer 23: WalRoundTrip.
-/
namespace Go.Proofs.Ytaclhiagfgmgkaa
open Go Go.RowKit SZ
set_option linter.unusedVariables false
set_option linter.unusedSimpArgs false
set_option maxRecDepth 100000
attribute [local irreducible] post GD Nxt NxtAll
/-- Append of a row of strings to an own row of strings. -/
theorem ex_apR {s : SS} {bs : List Nat} {w : World} {x y : Operand} {v : Value} {z : Sr} {B0 n : Nat} {L : (List ByteArray)} (hx : s.val x = some (.v v)) (hy : s.val y = some (.v z.v)) (hown : w.ownsRow B0 9 1 v n (L.map Value.string)) (hz : z.ok) (hat : z.at w) (hc : z.l.length ≤ z.c) (hnil : z.a = none → z.c = 0) (hlen : n + z.l.length ≤ 100000) (hB : B0 ≤ w.heap.size) :
    ∀ (o : Oper) (ρ : Operand → Value), o.op = .call { callee := .builtin .append, args := #[x, y], argTypes := #[28, 28] } → o.type = 28 → (∀ x y, s.val x = some y → ρ x = den bs y) → ∃ v' w', (execOp ρ o).run Try.prog w = .ok (.value v') w' ∧ (w'.ownsRow B0 9 1 v' (n + z.l.length) ((L ++ z.l).map Value.string) ∧ (∀ g, v'.ownBlock = some g → v.ownBlock = some g ∨ w.heap.size ≤ g) ∧ B0 ≤ w'.heap.size) ∧ w.grownBy w' v.ownBlock := by
  intro o ρ h1 h2 h3
  have e1 : ρ x = v := h3 x _ hx
  have e2 : ρ y = .slice z.a z.l.length z.c := h3 y _ hy
  obtain ⟨i, hi, hzr, hs, hb⟩ := parts3 infS3
  by_cases h0 : z.l.length = 0
  · obtain ⟨va, vc, rfl⟩ := owns_slice hown
    have hvc : n ≤ vc := by
      rcases hown.2 with ⟨q, hz⟩ | ⟨g, cap, cur, q, _, _, hn, _⟩
      · simp only [Value.slice.injEq] at q; omega
      · simp only [Value.slice.injEq] at q; omega
    have hr : (Builtin.append_ #[28, 28] o.type #[.slice va n vc, .slice z.a 0 z.c]).run Try.prog w = .ok (.slice va n vc) w := by
      refine run_append_nothing w 28 28 o.type 9 i Try.underlying28 hi va n vc hvc (.slice z.a 0 z.c) ⟨Or.inl ⟨9, Try.underlying28⟩, fun w' => ?_, ?_, ?_, by simp, by simp⟩
      · simp [Builtin.lenOf]
      · cases z.a <;> simp [Builtin.firstCells, loadCells, loadCellsFrom]
      · cases z.a <;> simp [Builtin.firstCells, loadCells, loadCellsFrom]
    refine ⟨.slice va n vc, w, ?_, ⟨?_, fun g hg => Or.inl hg, hB⟩, ⟨rfl, rfl, rfl, Nat.le_refl _, fun _ _ _ => rfl⟩⟩
    · unfold execOp
      simp only [h1, e1, e2, h0, resolve, invoke, builtin, List.map_toArray, List.map_cons, List.map_nil, Sem.run_bind, Sem.run_pure, Result.andThen_ok, hr]
    · rw [h0, List.length_eq_zero_iff.1 h0, List.append_nil]
      exact hown
  · have ha := hz.resolve_left h0
    obtain ⟨v', w', hr, q1, q2, q3⟩ := SZ.app_at (P := Try.prog) (ty := o.type) (e := 9) (t := 28) (n := n) (xs := L.map Value.string) (ad := ⟨z.b, z.o, none⟩) (m := z.l.length) (cp := z.c) (news := z.l.map Value.string) Try.underlying28 hi hzr (by rw [hs]; rfl) (by omega) (by rw [hs]; exact hown) (by rw [hs]; simp) (fun j x hx => by
      have hj : j < z.l.length := by have := (List.getElem?_eq_some_iff.1 hx).1; simpa using this
      have ea : (⟨z.b, z.o, none⟩ : Addr).add j = ⟨z.b, z.o + j, none⟩ := by unfold Addr.add; split <;> simp_all
      rw [ea, hat j hj]
      simp [List.getD, List.getElem?_eq_getElem hj] at hx ⊢
      exact hx) (by intro u hu; simp only [List.mem_map] at hu; obtain ⟨_, _, rfl⟩ := hu; rfl) (by simp only [maxLen]; omega) (by rw [hb]; omega) hB
    rw [hs] at q1
    refine ⟨v', w', ?_, ⟨by rw [List.map_append]; exact q1, q3, by have := q2.size; omega⟩, q2⟩
    unfold execOp
    simp only [h1, e1, e2, ha, resolve, invoke, builtin, List.map_toArray, List.map_cons, List.map_nil, Sem.run_bind, Sem.run_pure, Result.andThen_ok, hr]
theorem ap_next {F : List RF} {w : World} {v v' : Value} (hF : ∀ f ∈ F, f.P w) (hap : ∀ f ∈ F, ∀ g, v.ownBlock = some g → ¬f.bl g) (hnn : ∀ g, v'.ownBlock = some g → v.ownBlock = some g ∨ w.heap.size ≤ g) : ∀ f ∈ F, ∀ g, v'.ownBlock = some g → ¬f.bl g := fun f hf g hg hb => (hnn g hg).elim (fun q => hap f hf g q hb) (fun q => by have := f.lt w (hF f hf) g hb; omega)
theorem at_of_owns {w : World} {B : Nat} {z : Sr} {R : List ByteArray} (h : w.ownsRow B 9 1 z.v R.length (R.map Value.string)) (hz : z.l = R) (hok : z.ok) : z.at w := fun j hj => by
  obtain ⟨s, q1, q2, q3, q4, _, _⟩ := sr_of_owns h
  have hl : z.l.length ≠ 0 := by omega
  have e1 := hok.resolve_left hl
  have e2 := q3.resolve_left (by rw [q1, ← hz]; exact hl)
  have e3 : some (⟨z.b, z.o, none⟩ : Addr) = some ⟨s.b, s.o, none⟩ := by
    rw [← e1, ← e2]
    have := congrArg (fun v => match v with | Value.slice a _ _ => a | _ => none) q2
    exact this
  simp only [Option.some.injEq, Addr.mk.injEq] at e3
  rw [e3.1, e3.2.1, hz]
  have := q4 j (by rw [q1, ← hz]; exact hj)
  rw [q1] at this
  exact this
noncomputable def rjC : Cfg := ⟨goZ 200 [0, 0] [.code (bodyOf Try.f5)], ⟨0, [], []⟩⟩
noncomputable def rjS (e : Et) (A B r : Sr) (j : Nat) : SS := ⟨105, [(1, .v A.v), (2, .v B.v), (3, .p 0 0), (7, .v (.bool true)), (8, .v r.v), (10, .v (.int .i64 (j : Int)))], [⟨24, e.cs⟩]⟩
theorem mid_take (A R B : (List ByteArray)) : ((A ++ R ++ B).drop A.length).take R.length = R := by
  rw [List.append_assoc, List.drop_left, List.take_left]
set_option maxHeartbeats 8000000 in
theorem rj_s (w0 : World) (e : Et) (A B r : Sr) (hok : e.ok) (hf : fitE e.ver e.ws) (hv : validB e.ver e.ws = true) (hA : A.ok) (hB : B.ok) (hr : r.ok) (hcA : A.l.length ≤ A.c) (hcB : B.l.length ≤ B.c) (hcr : r.l.length ≤ r.c) (hnA : A.a = none → A.c = 0) (hnB : B.a = none → B.c = 0) (hnr : r.a = none → r.c = 0) (h20 : A.l.length ≤ 20 ∧ B.l.length ≤ 20) (hrl : r.l = recE e.ver e.ws) (m j : Nat) (hj : j < r.l.length) (ih : ∀ (x0 : Nat) (aa : Act) (w : World) (S : Sy w0 [] [x0] (rjS e A B r (j + 1)) [rfWr e.b e.o e.ws, rfSt A.b A.o A.l, rfSt B.b B.o B.l, rfSt r.b r.o r.l] aa w), post Try.prog (.rnd (m) (bodyL rjC) :: rjC.k.tail) (bodyPost Try.prog Try.f5 fun y w' => y = .returned (.bool true) ∧ Below w0.heap.size w0 w') .normal aa w) (x0 : Nat) (aa : Act) (w : World) (S : Sy w0 [] [x0] (rjS e A B r (j)) [rfWr e.b e.o e.ws, rfSt A.b A.o A.l, rfSt B.b B.o B.l, rfSt r.b r.o r.l] aa w) : post Try.prog (.rnd (m + 1) (bodyL rjC) :: rjC.k.tail) (bodyPost Try.prog Try.f5 fun y w' => y = .returned (.bool true) ∧ Below w0.heap.size w0 w') .normal aa w := by
  have h25 := rec_len25 hf
  rw [← hrl] at h25
  have hsz : (r.l.getD j ByteArray.empty).size = 32 := by have q := recE_sizes hf; rw [← hrl] at q; exact q _ (getD_mem r.l j ByteArray.empty hj)
  refine sy_run (c := ⟨(.rnd (m + 1) (bodyL rjC) :: rjC.k.tail), rjS e A B r j⟩) ⟨0, [9]⟩ 50 S fun bs aa w S => ?_
  refine sy_reg S fun S => ?_
  refine sy_ops 4 S fun bs aa w S => ?_
  refine sy_cast 55 S (congrArg Value.bool (decide_eq_true (by omega) : decide ((j : Int) < (r.l.length : Int)) = true)) (by kernel_rfl) fun S => ?_
  refine sy_run ⟨0, [11]⟩ 60 S fun bs aa w S => ?_
  refine sy_reg S fun S => ?_
  refine sy_ops 2 S fun bs aa w S => ?_
  refine sy_ix (b := r.b) (off := r.o) (len := r.l.length) (n := j) (size := 1) (i := (j : Int)) S (by rw [← hr.resolve_left (by omega)]; kernel_rfl) rfl hj fun aa S => ?_
  refine sy_ldo S (ld_at (ty := 9) (b := r.b) (off := r.o + j * 1) (by kernel_rfl) (by rw [Nat.mul_one]; exact S.fact (f := rfSt r.b r.o r.l) (by simp) j hj)) (by kernel_rfl) fun aa S => ?_
  refine sy_ops 2 S fun bs aa w S => ?_
  refine sy_cast 63 S (congrArg Value.bool (by rw [decide_eq_true (by omega)]; rfl : (!decide (((r.l.getD j ByteArray.empty).size : Int) = 32)) = false)) (by kernel_rfl) fun S => ?_
  refine sy_run ⟨0, [10]⟩ 60 S fun bs aa w S => ?_
  refine sy_reg S fun S => ?_
  refine sy_ops 2 S fun bs aa w S => ?_
  refine sy_cast 57 S (congrArg (Value.int .i64) (by rw [IntKind.wrap_i64]; omega : IntKind.i64.wrap ((j : Int) + 1) = ((j + 1 : Nat) : Int))) (by kernel_rfl) fun S => ?_
  refine sy_run ⟨0, [999]⟩ 50 S fun bs aa w S => ?_
  have S2 := S.to [0] (rjS e A B r (j + 1)) (by kernel_rfl) (by kernel_rfl) (by kernel_rfl) (by kernel_rfl) (by kernel_rfl)
  refine sy_at2 (k' := (.rnd (m) (bodyL rjC) :: rjC.k.tail)) (by kernel_rfl) ?_
  exact ih _ aa w S2
set_option maxHeartbeats 8000000 in
theorem rj_e (w0 : World) (e : Et) (A B r : Sr) (hok : e.ok) (hf : fitE e.ver e.ws) (hv : validB e.ver e.ws = true) (hA : A.ok) (hB : B.ok) (hr : r.ok) (hcA : A.l.length ≤ A.c) (hcB : B.l.length ≤ B.c) (hcr : r.l.length ≤ r.c) (hnA : A.a = none → A.c = 0) (hnB : B.a = none → B.c = 0) (hnr : r.a = none → r.c = 0) (h20 : A.l.length ≤ 20 ∧ B.l.length ≤ 20) (hrl : r.l = recE e.ver e.ws) (m : Nat) (x0 : Nat) (aa : Act) (w : World) (S : Sy w0 [] [x0] (rjS e A B r (r.l.length)) [rfWr e.b e.o e.ws, rfSt A.b A.o A.l, rfSt B.b B.o B.l, rfSt r.b r.o r.l] aa w) : post Try.prog (.rnd (m + 1) (bodyL rjC) :: rjC.k.tail) (bodyPost Try.prog Try.f5 fun y w' => y = .returned (.bool true) ∧ Below w0.heap.size w0 w') .normal aa w := by
  have h25 := rec_len25 hf
  have hm := recE_many hf hv
  have hml : (recE e.ver e.ws).length = manyL (payE e.ver e.ws) := by rw [recE_valid hv, recL_len]
  rw [← hrl] at h25 hml
  have hpar : parA (A.l ++ r.l ++ B.l) (A.l.length : Int) = some (e.ver, e.ws, r.l.length) := by
    unfold parA
    rw [if_neg (by omega), Int.toNat_natCast, hrl]
    exact rec_parse hf hv (by rw [List.length_append, List.length_append, ← hrl]; omega) (by rw [← hrl]; exact mid_take _ _ _)
  refine sy_run (c := ⟨(.rnd (m + 1) (bodyL rjC) :: rjC.k.tail), rjS e A B r r.l.length⟩) ⟨0, [9]⟩ 50 S fun bs aa w S => ?_
  refine sy_reg S fun S => ?_
  refine sy_ops 4 S fun bs aa w S => ?_
  refine sy_cast 55 S (congrArg Value.bool (decide_eq_false (by omega) : decide ((r.l.length : Int) < (r.l.length : Int)) = false)) (by kernel_rfl) fun S => ?_
  refine sy_run ⟨0, [13]⟩ 60 S fun bs aa w S => ?_
  refine sy_reg S fun S => ?_
  refine sy_nm S fun bs S => ?_
  have hrb := (rfSt r.b r.o r.l).lt _ (S.fact (f := rfSt r.b r.o r.l) (by simp)) r.b ⟨rfl, by omega⟩
  have hbl : ∀ j, j < bs.length → bs.getD j 0 < w.heap.size := fun j hj => S.lt hj
  have hgs := S.gr.size
  have hFP : ∀ f ∈ [rfWr e.b e.o e.ws, rfSt A.b A.o A.l, rfSt B.b B.o B.l, rfSt r.b r.o r.l], f.P w := fun f hf => (S.fs f hf).1
  refine sy_exB S (op := .buildSlice 28 0 #[]) (ty := 28) (C := fun v w' => ∃ g, v = .slice (some ⟨g, 0, none⟩) 0 0 ∧ g = w.heap.size ∧ w'.heap[g]? = some (.cells #[] 9 (0, 0)) ∧ w'.heap.size = w.heap.size + 1) (by kernel_rfl) (ex_bs0 Try.underlying28 (by kernel_rfl)) fun v0 aa w1 hC0 hb0 S => ?_
  obtain ⟨g0, rfl, hg0, hg1, hg2⟩ := hC0
  have aq0 : ∀ f ∈ [rfWr e.b e.o e.ws, rfSt A.b A.o A.l, rfSt B.b B.o B.l, rfSt r.b r.o r.l], ∀ g, Value.ownBlock (.slice (some ⟨g0, 0, none⟩) 0 0) = some g → ¬f.bl g := fun f hf g hg hb => by
    have h1 := f.lt w (hFP f hf) g hb
    have h2 : some g0 = some g := hg
    simp only [Option.some.injEq] at h2
    omega
  have S := S.add (rfOwn w0.heap.size 9 1 (.slice (some ⟨g0, 0, none⟩) 0 0) 0 (([] : (List ByteArray)).map Value.string)) ⟨rfl, Or.inr ⟨g0, 0, #[], rfl, by omega, hg1, Nat.le_refl _, Nat.zero_le _, rfl, rfl⟩⟩ (fun j hj hb => by
    have h2 : some g0 = some (bs.getD j 0) := hb
    simp only [Option.some.injEq] at h2
    have := hbl j hj
    omega)
  refine sy_ops 1 S fun bs aa w S => ?_
  refine sy_nm S fun bs S => ?_
  have how0 := S.fact (f := rfOwn w0.heap.size 9 1 (.slice (some ⟨g0, 0, none⟩) 0 0) 0 (([] : (List ByteArray)).map Value.string)) (by simp)
  have hap0 := (S.fs (rfOwn w0.heap.size 9 1 (.slice (some ⟨g0, 0, none⟩) 0 0) 0 (([] : (List ByteArray)).map Value.string)) (by simp)).2
  have hbl0 : ∀ j, j < bs.length → bs.getD j 0 < _ := fun j hj => S.lt hj
  have hFP0 : ∀ f ∈ [rfWr e.b e.o e.ws, rfSt A.b A.o A.l, rfSt B.b B.o B.l, rfSt r.b r.o r.l], f.P _ := fun f hf => (S.fs f (List.mem_cons_of_mem _ hf)).1
  refine sy_exG (.slice (some ⟨g0, 0, none⟩) 0 0) [rfWr e.b e.o e.ws, rfSt A.b A.o A.l, rfSt B.b B.o B.l, rfSt r.b r.o r.l] S (op := .call { callee := .builtin .append, args := #[.tmp 64, .tmp 65], argTypes := #[28, 28] }) (ty := 28) (by kernel_rfl) (ex_apR (v := (.slice (some ⟨g0, 0, none⟩) 0 0)) (z := A) (L := []) (n := 0) (by kernel_rfl) (by kernel_rfl) how0 hA (S.fact (f := rfSt A.b A.o A.l) (by simp)) hcA hnA (by omega) S.gr.size) (fun g hg => Or.inr (how0.lt g hg).1) (fun f hf => ⟨List.mem_cons_of_mem _ hf, aq0 f hf⟩) (fun j hj h => hap0 j hj h) fun v1 aa w hC S => ?_
  have aq1 := ap_next hFP0 aq0 hC.2.1
  have S := S.add (rfOwn w0.heap.size 9 1 v1 (0 + A.l.length) ((([] ++ A.l) : (List ByteArray)).map Value.string)) hC.1 (fun j hj hb => (hC.2.1 _ hb).elim (fun q => hap0 j hj q) (fun q => by have := hbl0 j hj; omega))
  refine sy_ops 1 S fun bs aa w S => ?_
  refine sy_nm S fun bs S => ?_
  have how1 := S.fact (f := rfOwn w0.heap.size 9 1 v1 (0 + A.l.length) ((([] ++ A.l) : (List ByteArray)).map Value.string)) (by simp)
  have hap1 := (S.fs (rfOwn w0.heap.size 9 1 v1 (0 + A.l.length) ((([] ++ A.l) : (List ByteArray)).map Value.string)) (by simp)).2
  have hbl1 : ∀ j, j < bs.length → bs.getD j 0 < _ := fun j hj => S.lt hj
  have hFP1 : ∀ f ∈ [rfWr e.b e.o e.ws, rfSt A.b A.o A.l, rfSt B.b B.o B.l, rfSt r.b r.o r.l], f.P _ := fun f hf => (S.fs f (List.mem_cons_of_mem _ hf)).1
  refine sy_exG v1 [rfWr e.b e.o e.ws, rfSt A.b A.o A.l, rfSt B.b B.o B.l, rfSt r.b r.o r.l] S (op := .call { callee := .builtin .append, args := #[.tmp 66, .tmp 67], argTypes := #[28, 28] }) (ty := 28) (by kernel_rfl) (ex_apR (v := v1) (z := r) (L := ([] ++ A.l)) (n := (0 + A.l.length)) (by kernel_rfl) (by kernel_rfl) how1 hr (S.fact (f := rfSt r.b r.o r.l) (by simp)) hcr hnr (by omega) S.gr.size) (fun g hg => Or.inr (how1.lt g hg).1) (fun f hf => ⟨List.mem_cons_of_mem _ hf, aq1 f hf⟩) (fun j hj h => hap1 j hj h) fun v2 aa w hC S => ?_
  have aq2 := ap_next hFP1 aq1 hC.2.1
  have S := S.add (rfOwn w0.heap.size 9 1 v2 (0 + A.l.length + r.l.length) ((([] ++ A.l ++ r.l) : (List ByteArray)).map Value.string)) hC.1 (fun j hj hb => (hC.2.1 _ hb).elim (fun q => hap1 j hj q) (fun q => by have := hbl1 j hj; omega))
  refine sy_ops 1 S fun bs aa w S => ?_
  refine sy_nm S fun bs S => ?_
  have how2 := S.fact (f := rfOwn w0.heap.size 9 1 v2 (0 + A.l.length + r.l.length) ((([] ++ A.l ++ r.l) : (List ByteArray)).map Value.string)) (by simp)
  have hap2 := (S.fs (rfOwn w0.heap.size 9 1 v2 (0 + A.l.length + r.l.length) ((([] ++ A.l ++ r.l) : (List ByteArray)).map Value.string)) (by simp)).2
  have hbl2 : ∀ j, j < bs.length → bs.getD j 0 < _ := fun j hj => S.lt hj
  have hFP2 : ∀ f ∈ [rfWr e.b e.o e.ws, rfSt A.b A.o A.l, rfSt B.b B.o B.l, rfSt r.b r.o r.l], f.P _ := fun f hf => (S.fs f (List.mem_cons_of_mem _ hf)).1
  refine sy_exG v2 [rfWr e.b e.o e.ws, rfSt A.b A.o A.l, rfSt B.b B.o B.l, rfSt r.b r.o r.l] S (op := .call { callee := .builtin .append, args := #[.tmp 68, .tmp 69], argTypes := #[28, 28] }) (ty := 28) (by kernel_rfl) (ex_apR (v := v2) (z := B) (L := ([] ++ A.l ++ r.l)) (n := (0 + A.l.length + r.l.length)) (by kernel_rfl) (by kernel_rfl) how2 hB (S.fact (f := rfSt B.b B.o B.l) (by simp)) hcB hnB (by omega) S.gr.size) (fun g hg => Or.inr (how2.lt g hg).1) (fun f hf => ⟨List.mem_cons_of_mem _ hf, aq2 f hf⟩) (fun j hj h => hap2 j hj h) fun v3 aa w hC S => ?_
  have aq3 := ap_next hFP2 aq2 hC.2.1
  have S := S.add (rfOwn w0.heap.size 9 1 v3 (0 + A.l.length + r.l.length + B.l.length) ((([] ++ A.l ++ r.l ++ B.l) : (List ByteArray)).map Value.string)) hC.1 (fun j hj hb => (hC.2.1 _ hb).elim (fun q => hap2 j hj q) (fun q => by have := hbl2 j hj; omega))
  have how3 := S.fact (f := rfOwn w0.heap.size 9 1 v3 (0 + A.l.length + r.l.length + B.l.length) ((([] ++ A.l ++ r.l ++ B.l) : (List ByteArray)).map Value.string)) (by simp)
  have eL : ([] ++ A.l ++ r.l ++ B.l : (List ByteArray)) = A.l ++ r.l ++ B.l := by simp
  have eN : 0 + A.l.length + r.l.length + B.l.length = (A.l ++ r.l ++ B.l).length := by simp only [List.length_append]; omega
  rw [eL, eN] at how3
  obtain ⟨z, hz1, rfl, hz2, hz3, hz4, hz5⟩ := sr_of_owns how3
  refine sy_run ⟨0, [14]⟩ 60 S fun bs aa w S => ?_
  refine sy_reg S fun S => ?_
  refine sy_ops 3 S fun bs aa w S => ?_
  refine sy_nm S fun bs S => ?_
  have how4 := S.fact (f := rfOwn w0.heap.size 9 1 z.v (0 + A.l.length + r.l.length + B.l.length) ((([] ++ A.l ++ r.l ++ B.l) : (List ByteArray)).map Value.string)) (by simp)
  rw [eL, eN] at how4
  have hzat : z.at _ := at_of_owns how4 hz1 hz2
  have hzl : z.l.length = A.l.length + r.l.length + B.l.length := by rw [hz1]; simp only [List.length_append]
  have hblp : ∀ j, j < bs.length → bs.getD j 0 < _ := fun j hj => S.lt hj
  have hpt := parse_t _ z.l z.a z.c z.b z.o hz2 hz4 (by omega) (A.l.length : Int) hzat
  rw [hz1] at hpt
  refine sy_call S (X := Et) (val := fun e => .tuple #[e.v, .int .i64 (r.l.length : Int), .int .i64 0]) (C := fun q w' => q.ver = e.ver ∧ q.ws = e.ws ∧ q.ok ∧ WrAt w' q.b q.o q.ws ∧ (q.ws.length = 0 ∨ _ ≤ q.b)) (args := #[z.v, .int .i64 (A.l.length : Int)]) ((show Calls _ _ #[z.v, _] _ _ by unfold Sr.v; rw [hz1]; exact hpt).mono fun y w' h => by
    have h2 := h.2
    rw [hpar] at h2
    obtain ⟨q, q1, q2, q3, q4, q5, q6⟩ := h2
    exact ⟨q, q4, ⟨q1, q2, q3, q5, q6⟩, h.1⟩) (by kernel_rfl) fun q aa w1 hC hb S => ?_
  obtain ⟨hq1, hq2, hqo, hqw, hqf⟩ := hC
  have S := S.add (rfWr q.b q.o q.ws) hqw (fun i hi hb => by
    obtain ⟨q1, q2⟩ := hb
    have := hblp i hi
    have := hqf.resolve_left q2
    omega)
  refine sy_run ⟨0, [15]⟩ 60 S fun bs aa w S => ?_
  refine sy_reg S fun S => ?_
  refine sy_ops 5 S fun bs aa w S => ?_
  refine sy_cast 83 S (congrArg Value.bool (decide_eq_true (by omega) : decide ((r.l.length : Int) ≥ 1) = true)) (by kernel_rfl) fun S => ?_
  refine sy_ops 5 S fun bs aa w S => ?_
  refine sy_cast 88 S (congrArg Value.bool (decide_eq_true (by omega) : decide ((r.l.length : Int) ≤ 26) = true)) (by kernel_rfl) fun S => ?_
  refine sy_ops 10 S fun bs aa w S => ?_
  refine sy_cast 98 S (congrArg Value.bool (decide_eq_true rfl : decide ((r.l.length : Int) = (r.l.length : Int)) = true)) (by kernel_rfl) fun S => ?_
  refine sy_ops 4 S fun bs aa w S => ?_
  have h32 := valid_len hv
  refine sy_call1 S (v := .bool true) (by
    have h := one_t _ q e hqo hok (by rw [hq2]; omega) (S.fact (f := rfWr q.b q.o q.ws) (by simp)) (S.fact (f := rfWr e.b e.o e.ws) (by simp))
    rw [decide_eq_true ⟨hq1, hq2⟩] at h
    exact h) (by kernel_rfl) fun aa w hb S => ?_
  refine sy_run ⟨0, []⟩ 60 S fun bs aa w S => ?_
  exact sy_ret S (by kernel_rfl) (by kernel_rfl) fun hg => ⟨rfl, bel_gr hg⟩
theorem rj_a (w0 : World) (e : Et) (A B r : Sr) (hok : e.ok) (hf : fitE e.ver e.ws) (hv : validB e.ver e.ws = true) (hA : A.ok) (hB : B.ok) (hr : r.ok) (hcA : A.l.length ≤ A.c) (hcB : B.l.length ≤ B.c) (hcr : r.l.length ≤ r.c) (hnA : A.a = none → A.c = 0) (hnB : B.a = none → B.c = 0) (hnr : r.a = none → r.c = 0) (h20 : A.l.length ≤ 20 ∧ B.l.length ≤ 20) (hrl : r.l = recE e.ver e.ws) : ∀ (m j : Nat), j + m = r.l.length → ∀ (x0 : Nat) (aa : Act) (w : World) (S : Sy w0 [] [x0] (rjS e A B r (j)) [rfWr e.b e.o e.ws, rfSt A.b A.o A.l, rfSt B.b B.o B.l, rfSt r.b r.o r.l] aa w), post Try.prog (.rnd (m + 1) (bodyL rjC) :: rjC.k.tail) (bodyPost Try.prog Try.f5 fun y w' => y = .returned (.bool true) ∧ Below w0.heap.size w0 w') .normal aa w := by
  intro m
  induction m with
  | zero => intro j hj x0 aa w S; obtain rfl : j = r.l.length := by omega
            exact rj_e w0 e A B r hok hf hv hA hB hr hcA hcB hcr hnA hnB hnr h20 hrl 0 x0 aa w S
  | succ m ih => intro j hj x0 aa w S; exact rj_s w0 e A B r hok hf hv hA hB hr hcA hcB hcr hnA hnB hnr h20 hrl (m + 1) j (by omega) (ih (j + 1) (by omega)) x0 aa w S
set_option maxHeartbeats 8000000 in
theorem wrt (w0 : World) (e : Et) (A B : Sr) (hok : e.ok) (hf : fitE e.ver e.ws) (hwr : WrAt w0 e.b e.o e.ws) (hA : A.ok) (hB : B.ok) (atA : A.at w0) (atB : B.at w0) (hcA : A.l.length ≤ A.c) (hcB : B.l.length ≤ B.c) (hnA : A.a = none → A.c = 0) (hnB : B.a = none → B.c = 0) : Calls Try.prog 5 #[e.v, A.v, B.v] w0 fun y w' => y = .returned (.bool true) ∧ Below w0.heap.size w0 w' := by
  refine sy_enterF [] [rfWr e.b e.o e.ws, rfSt A.b A.o A.l, rfSt B.b B.o B.l] (by intro f hf; simp only [List.mem_cons, List.not_mem_nil, or_false] at hf; rcases hf with rfl | rfl | rfl; exact hwr; exact atA; exact atB) Try.func5 rfl rfl fun aa S => ?_
  refine sy_run ⟨0, [1]⟩ 60 S fun bs aa w S => ?_
  refine sy_reg S fun S => ?_
  refine sy_call1 S (sane23 w) (by kernel_rfl) fun aa w hb S => ?_
  refine sy_run ⟨0, [2]⟩ 60 S fun bs aa w S => ?_
  refine sy_reg S fun S => ?_
  refine sy_ops 1 S fun bs aa w S => ?_
  refine sy_call1 S (short_w w e) (by kernel_rfl) fun aa w hb S => ?_
  by_cases h40 : e.ws.length ≤ 40
  case neg =>
    refine sy_cast 17 S (congrArg Value.bool (decide_eq_false h40)) (by kernel_rfl) fun S => ?_
    refine sy_run ⟨0, []⟩ 60 S fun bs aa w S => ?_
    exact sy_ret S (by kernel_rfl) (by kernel_rfl) fun hg => ⟨rfl, bel_gr hg⟩
  refine sy_cast 17 S (congrArg Value.bool (decide_eq_true h40)) (by kernel_rfl) fun S => ?_
  refine sy_ops 3 S fun bs aa w S => ?_
  refine sy_call1 S (few_w w A hA (S.fact (f := rfSt A.b A.o A.l) (by simp))) (by kernel_rfl) fun aa w hb S => ?_
  rcases Bool.eq_false_or_eq_true (fewL A.l) with hfA | hfA
  rotate_left
  · skip
    refine sy_cast 21 S (congrArg Value.bool hfA) (by kernel_rfl) fun S => ?_
    refine sy_run ⟨0, []⟩ 60 S fun bs aa w S => ?_
    exact sy_ret S (by kernel_rfl) (by kernel_rfl) fun hg => ⟨rfl, bel_gr hg⟩
  · skip
    refine sy_cast 21 S (congrArg Value.bool hfA) (by kernel_rfl) fun S => ?_
    refine sy_ops 4 S fun bs aa w S => ?_
    refine sy_call1 S (few_w w B hB (S.fact (f := rfSt B.b B.o B.l) (by simp))) (by kernel_rfl) fun aa w hb S => ?_
    rcases Bool.eq_false_or_eq_true (fewL B.l) with hfB | hfB
    rotate_left
    · skip
      refine sy_cast 26 S (congrArg Value.bool hfB) (by kernel_rfl) fun S => ?_
      refine sy_run ⟨0, []⟩ 60 S fun bs aa w S => ?_
      exact sy_ret S (by kernel_rfl) (by kernel_rfl) fun hg => ⟨rfl, bel_gr hg⟩
    · skip
      refine sy_cast 26 S (congrArg Value.bool hfB) (by kernel_rfl) fun S => ?_
      refine sy_ops 6 S fun bs aa w S => ?_
      by_cases hA20 : A.l.length ≤ 20
      case neg =>
        refine sy_cast 32 S (congrArg Value.bool (decide_eq_true (by omega) : decide ((A.l.length : Int) > 20) = true)) (by kernel_rfl) fun S => ?_
        refine sy_run ⟨0, []⟩ 60 S fun bs aa w S => ?_
        exact sy_ret S (by kernel_rfl) (by kernel_rfl) fun hg => ⟨rfl, bel_gr hg⟩
      refine sy_cast 32 S (congrArg Value.bool (decide_eq_false (by omega) : decide ((A.l.length : Int) > 20) = false)) (by kernel_rfl) fun S => ?_
      refine sy_ops 5 S fun bs aa w S => ?_
      by_cases hB20 : B.l.length ≤ 20
      case neg =>
        refine sy_cast 37 S (congrArg Value.bool (decide_eq_true (by omega) : decide ((B.l.length : Int) > 20) = true)) (by kernel_rfl) fun S => ?_
        refine sy_run ⟨0, []⟩ 60 S fun bs aa w S => ?_
        exact sy_ret S (by kernel_rfl) (by kernel_rfl) fun hg => ⟨rfl, bel_gr hg⟩
      refine sy_cast 37 S (congrArg Value.bool (decide_eq_false (by omega) : decide ((B.l.length : Int) > 20) = false)) (by kernel_rfl) fun S => ?_
      refine sy_run ⟨0, [4]⟩ 60 S fun bs aa w S => ?_
      refine sy_reg S fun S => ?_
      refine sy_ops 1 S fun bs aa w S => ?_
      refine sy_nm S fun bs S => ?_
      have hbl : ∀ j, j < bs.length → bs.getD j 0 < w.heap.size := fun j hj => S.lt hj
      refine sy_call S (X := Sr) (val := Sr.v) (C := fun s w' => s.l = recE e.ver e.ws ∧ s.ok ∧ s.at w' ∧ s.l.length ≤ s.c ∧ (s.l.length = 0 ∨ w.heap.size ≤ s.b)) (record_s w e hok hf (S.fact (f := rfWr e.b e.o e.ws) (by simp))) (by kernel_rfl) fun r aa w1 hC hb S => ?_
      obtain ⟨hrl, hr, har, hcr, hrf⟩ := hC
      have S := S.add (rfSt r.b r.o r.l) har (fun j hj hb => by
        obtain ⟨q1, q2⟩ := hb
        have := hbl j hj
        have := hrf.resolve_left q2
        omega)
      refine sy_run ⟨0, [5]⟩ 60 S fun bs aa w S => ?_
      refine sy_reg S fun S => ?_
      refine sy_ops 1 S fun bs aa w S => ?_
      refine sy_call1 S (rValid_e w e hok (S.fact (f := rfWr e.b e.o e.ws) (by simp))) (by kernel_rfl) fun aa w hb S => ?_
      rcases Bool.eq_false_or_eq_true (validB e.ver e.ws) with hv | hv
      rotate_left
      · skip
        have hl0 : r.l.length = 0 := by rw [hrl, recE_bad hv]; rfl
        refine sy_cast 43 S (congrArg Value.bool hv) (by kernel_rfl) fun S => ?_
        refine sy_run ⟨0, [7]⟩ 60 S fun bs aa w S => ?_
        refine sy_reg S fun S => ?_
        refine sy_ops 5 S fun bs aa w S => ?_
        refine sy_cast 50 S (congrArg Value.bool (decide_eq_true (by omega) : decide ((r.l.length : Int) = 0) = true)) (by kernel_rfl) fun S => ?_
        refine sy_run ⟨0, []⟩ 60 S fun bs aa w S => ?_
        exact sy_ret S (by kernel_rfl) (by kernel_rfl) fun hg => ⟨rfl, bel_gr hg⟩
      · skip
        have hm := recE_many hf hv
        have hl1 : r.l.length ≠ 0 := by rw [hrl, recE_valid hv, recL_len]; omega
        refine sy_cast 43 S (congrArg Value.bool hv) (by kernel_rfl) fun S => ?_
        refine sy_run ⟨0, []⟩ 60 S fun bs aa w S => ?_
        have S := S.sub (F' := [rfWr e.b e.o e.ws, rfSt A.b A.o A.l, rfSt B.b B.o B.l, rfSt r.b r.o r.l]) (by intro f hf; simp only [List.mem_cons, List.not_mem_nil, or_false] at hf; rcases hf with rfl | rfl | rfl | rfl <;> simp)
        have S2 := S.to [0] (rjS e A B r 0) (by kernel_rfl) (by kernel_rfl) (by kernel_rfl) (by kernel_rfl) (by kernel_rfl)
        refine sy_loop (r.l.length + 1) (by kernel_rfl) ?_
        refine sy_at2 (k' := (.rnd (r.l.length + 1) (bodyL rjC) :: rjC.k.tail)) (by kernel_rfl) ?_
        exact rj_a w0 e A B r hok hf hv hA hB hr hcA hcB hcr hnA hnB (fun h => by rw [hr.resolve_left hl1] at h; cases h) ⟨hA20, hB20⟩ hrl r.l.length 0 (by omega) _ aa w S2
end Go.Proofs.Ytaclhiagfgmgkaa
