/-
  Merged: WlN, WlV, WlR, WlT
-/
import Derived.Test.YtaclhiagfgmgkaaRows
import Derived.Test.YtaclhiagfgmgkaaPc2
import Derived.Test.YtaclhiagfgmgkaaPc13
import Derived.Test.YtaclhiagfgmgkaaPc14
import Derived.WalkKit
import Derived.Test.YtaclhiagfgmgkaaPc11

/-
  Layer 23: WalCanonical.
-/
namespace Go.Proofs.Ytaclhiagfgmgkaa
open Go Go.RowKit SZ
set_option linter.unusedVariables false
set_option linter.unusedSimpArgs false
set_option maxRecDepth 100000
attribute [local irreducible] post GD Nxt NxtAll
theorem record_s (w : World) (e : Et) (hg : e.ok) (hf : fitE e.ver e.ws) (hA : WrAt w e.b e.o e.ws) : Calls Try.prog 12 #[e.v] w fun y w' => ∃ s : Sr, y = .returned s.v ∧ (s.l = recE e.ver e.ws ∧ s.ok ∧ s.at w' ∧ s.l.length ≤ s.c ∧ (s.l.length = 0 ∨ w.heap.size ≤ s.b)) ∧ Below w.heap.size w w' := (record_e w e hg hf hA).mono fun y w' ⟨v, h1, h2, h3⟩ => by
  obtain ⟨s, q1, q2, q3, q4, q5, q6⟩ := sr_of_owns h2
  exact ⟨s, by rw [h1, q2], ⟨q1, q3, q4, q5, by rw [q1]; exact q6⟩, h3⟩
theorem rec_len25 {e : Et} (hf : fitE e.ver e.ws) : (recE e.ver e.ws).length ≤ 25 := by
  cases hv : validB e.ver e.ws with
  | false => rw [recE_bad hv]; exact Nat.zero_le _
  | true => rw [recE_valid hv, recL_len]; exact (recE_many hf hv).2
theorem parA_some {l : (List ByteArray)} {at_ : Int} {v : Int} {ws : Ws} {n : Nat} (h : parA l at_ = some (v, ws, n)) : ∃ k : Nat, at_ = (k : Int) ∧ parseS l k = some (v, ws, n) := by
  unfold parA at h
  split at h
  · cases h
  · exact ⟨at_.toNat, (Int.toNat_of_nonneg (by omega)).symm, h⟩
def wcBad : Prop := True
set_option maxHeartbeats 8000000 in
theorem wcan (w0 : World) (x : Sr) (hx : x.ok) (hc : x.l.length ≤ x.c) (hA : x.at w0) (at_ : Int) : Calls Try.prog 6 #[x.v, .int .i64 at_] w0 fun y w' => y = .returned (.bool true) ∧ Below w0.heap.size w0 w' := by
  refine sy_enterF [] [rfSt x.b x.o x.l] (by intro f hf; simp only [List.mem_singleton] at hf; subst hf; exact hA) Try.func6 rfl rfl fun aa S => ?_
  refine sy_run ⟨0, [1]⟩ 60 S fun bs aa w S => ?_
  refine sy_reg S fun S => ?_
  refine sy_call1 S (sane23 w) (by kernel_rfl) fun aa w hb S => ?_
  refine sy_run ⟨0, [2]⟩ 60 S fun bs aa w S => ?_
  refine sy_reg S fun S => ?_
  refine sy_ops 1 S fun bs aa w S => ?_
  refine sy_call1 S (few_w w x hx (S.fact (f := rfSt x.b x.o x.l) (by simp))) (by kernel_rfl) fun aa w hb S => ?_
  cases hfw : fewL x.l with
  | false =>
    refine sy_cast 11 S (congrArg Value.bool hfw) (by kernel_rfl) fun S => ?_
    refine sy_run ⟨0, []⟩ 60 S fun bs aa w S => ?_
    exact sy_ret S (by kernel_rfl) (by kernel_rfl) fun hg => ⟨rfl, bel_gr hg⟩
  | true =>
    have h40 : x.l.length ≤ 40 := by simp [fewL] at hfw; exact hfw.1
    refine sy_cast 11 S (congrArg Value.bool hfw) (by kernel_rfl) fun S => ?_
    refine sy_run ⟨0, [4]⟩ 60 S fun bs aa w S => ?_
    refine sy_reg S fun S => ?_
    refine sy_ops 2 S fun bs aa w S => ?_
    refine sy_nm S fun bs S => ?_
    have hpar := parse_t w x.l x.a x.c x.b x.o hx hc (by omega) at_ (S.fact (f := rfSt x.b x.o x.l) (by simp))
    have hblk : ∀ j, j < bs.length → bs.getD j 0 < w.heap.size := fun j hj => S.lt hj
    cases hp : parA x.l at_ with
    | none =>
      refine sy_call1 S (hpar.mono fun y w' h => ⟨by have h2 := h.2; rw [hp] at h2; exact h2, h.1⟩) (by kernel_rfl) fun aa w hb S => ?_
      refine sy_run ⟨0, []⟩ 60 S fun bs aa w S => ?_
      exact sy_ret S (by kernel_rfl) (by kernel_rfl) fun hg => ⟨rfl, bel_gr hg⟩
    | some q =>
      obtain ⟨v, ws, n⟩ := q
      obtain ⟨k, rfl, hps⟩ := parA_some hp
      obtain ⟨hfit, hvv, hn, hn1, hkl, hnl, htk⟩ := parse_rec hps
      refine sy_call S (X := Et) (val := fun e => .tuple #[e.v, .int .i64 (n : Int), .int .i64 0]) (C := fun e w' => e.ver = v ∧ e.ws = ws ∧ e.ok ∧ WrAt w' e.b e.o e.ws ∧ (e.ws.length = 0 ∨ w.heap.size ≤ e.b)) (hpar.mono fun y w' h => by
        have h2 := h.2
        rw [hp] at h2
        obtain ⟨e, q1, q2, q3, q4, q5, q6⟩ := h2
        exact ⟨e, q4, ⟨q1, q2, q3, q5, q6⟩, h.1⟩) (by kernel_rfl) fun e aa w1 hC hb S => ?_
      obtain ⟨rfl, rfl, hok, hwr, hfr⟩ := hC
      have S := S.add (rfWr e.b e.o e.ws) hwr (fun i hi hb => by
        obtain ⟨q1, q2⟩ := hb
        have := hblk i hi
        have := hfr.resolve_left q2
        omega)
      obtain rfl := hn
      have h25 := rec_len25 hfit
      refine sy_run ⟨0, [7]⟩ 60 S fun bs aa w S => ?_
      refine sy_reg S fun S => ?_
      refine sy_ops 2 S fun bs aa w S => ?_
      refine sy_cast 39 S (congrArg Value.bool (decide_eq_false (by omega) : decide ((k : Int) < 0) = false)) (by kernel_rfl) fun S => ?_
      refine sy_ops 3 S fun bs aa w S => ?_
      refine sy_cast 42 S (congrArg Value.bool (decide_eq_false (by omega) : decide (((recE e.ver e.ws).length : Int) < 1) = false)) (by kernel_rfl) fun S => ?_
      refine sy_ops 7 S fun bs aa w S => ?_
      refine sy_cast 49 S (congrArg (Value.int .i64) (by rw [IntKind.wrap_i64]; omega : IntKind.i64.wrap ((x.l.length : Int) - (k : Int)) = ((x.l.length - k : Nat) : Int))) (by kernel_rfl) fun S => ?_
      refine sy_ops 1 S fun bs aa w S => ?_
      refine sy_cast 50 S (congrArg Value.bool (decide_eq_false (by omega) : decide (((recE e.ver e.ws).length : Int) > ((x.l.length - k : Nat) : Int)) = false)) (by kernel_rfl) fun S => ?_
      refine sy_run ⟨0, []⟩ 60 S fun bs aa w S => ?_
      have hxa := hx.resolve_left (by omega)
      have hsl : ∀ W, (Instr.sliceAt 28 (.slice x.a x.l.length x.c) (some (.int .i64 (k : Int))) (some (.int .i64 (IntKind.i64.wrap ((k : Int) + ((recE e.ver e.ws).length : Int))))) none).run Try.prog W = .ok (.slice (some ⟨x.b, x.o + k, none⟩) (recE e.ver e.ws).length (x.c - k)) W := fun W => by
        have q := sl_mid 28 9 Try.underlying28 (by kernel_rfl) x.b x.o x.l.length x.c k (k + (recE e.ver e.ws).length) (by omega) (by omega) (by omega) W
        rw [show k + (recE e.ver e.ws).length - k = (recE e.ver e.ws).length by omega] at q
        rw [hxa, show IntKind.i64.wrap ((k : Int) + ((recE e.ver e.ws).length : Int)) = ((k + (recE e.ver e.ws).length : Nat) : Int) by rw [IntKind.wrap_i64]; omega]
        exact q
      have hst : StrAt w x.b (x.o + k) (recE e.ver e.ws) := by rw [← htk]; exact sub_str (S.fact (f := rfSt x.b x.o x.l) (by simp))
      have hxw := (rfSt x.b x.o x.l).lt _ (S.fact (f := rfSt x.b x.o x.l) (by simp)) x.b ⟨rfl, by omega⟩
      have S := S.add (rfSt x.b (x.o + k) (recE e.ver e.ws)) hst (fun i hi hb => by
        obtain ⟨q1, _⟩ := hb
        exact (S.fs (rfSt x.b x.o x.l) (by simp)).2 i hi ⟨q1, by omega⟩)
      letI : KP := ⟨[61]⟩
      letI : HF := ⟨[]⟩
      refine dr_enter [0] (by kernel_rfl) (by kernel_rfl) S (by kernel_rfl) (fun aa w D => ?_) (fun f hf => by cases hf)
      refine dr_ex2 (fun d v c a w h => by cases d <;> exact h) 9 (op := .slice 28 (.tmp 56) (some (.tmp 57)) (some (.tmp 60)) none) (ty := 28) (v := .slice (some ⟨x.b, x.o + k, none⟩) (recE e.ver e.ws).length (x.c - k)) D (by kernel_rfl) (by kernel_rfl) (by kernel_rfl) (by kernel_rfl) (ex_sl (p := .slice x.a x.l.length x.c) (l2 := some (.v (.int .i64 (k : Int)))) (h2 := some (.v (.int .i64 (IntKind.i64.wrap ((k : Int) + ((recE e.ver e.ws).length : Int)))))) (m2 := none) (by kernel_rfl) (by kernel_rfl) (by kernel_rfl) (by kernel_rfl) hsl) fun aa D => ?_
      have hlt := fun j hj => D.S.lt (i := j) hj
      refine dr_call 3 D (by kernel_rfl) (by kernel_rfl) (by kernel_rfl) (X := Sr) (val := Sr.v) (C := fun s w' => s.l = recE e.ver e.ws ∧ s.ok ∧ s.at w' ∧ s.l.length ≤ s.c ∧ (s.l.length = 0 ∨ w.heap.size ≤ s.b)) (f := 12) (args := #[e.v]) (record_s w e hok hfit (D.S.fact (f := rfWr e.b e.o e.ws) (by simp))) (by kernel_rfl) fun s aa w1 hC hb D => ?_
      have D := D.addF (rfSt s.b s.o s.l) hC.2.2.1 (fun j hj hb => by
        obtain ⟨q1, q2⟩ := hb
        have := hlt j hj
        have := hC.2.2.2.2.resolve_left q2
        omega)
      refine dr_call1 10 D (by kernel_rfl) (by kernel_rfl) (by kernel_rfl) (v := .bool true) (f := 11) (args := #[s.v, .slice (some ⟨x.b, x.o + k, none⟩) (recE e.ver e.ws).length (x.c - k)]) (by
        have h := texts_t w1 s ⟨some ⟨x.b, x.o + k, none⟩, x.c - k, x.b, x.o + k, recE e.ver e.ws⟩ hC.2.1 (Or.inr rfl) (by rw [hC.1]; omega) hC.2.2.1 (D.S.fact (f := rfSt x.b (x.o + k) (recE e.ver e.ws)) (by simp))
        rw [decide_eq_true hC.1] at h
        exact h) (by kernel_rfl) fun aa w hb D => ?_
      refine dr_end D (by kernel_rfl) fun S => ?_
      refine sy_run ⟨0, []⟩ 60 S fun bs aa w S => ?_
      exact sy_ret S (by kernel_rfl) (by kernel_rfl) fun hg => ⟨rfl, bel_gr hg⟩
end Go.Proofs.Ytaclhiagfgmgkaa


/-
  Layer 23: Recover.
-/
namespace Go.Proofs.Ytaclhiagfgmgkaa
open Go Go.RowKit SZ
set_option linter.unusedVariables false
set_option linter.unusedSimpArgs false
set_option maxRecDepth 100000
attribute [local irreducible] post GD Nxt NxtAll
def esV (es : List Et) : List Value := es.flatMap fun e => [.int .i64 e.ver, .slice e.a e.ws.length e.c]
theorem esV_len (es : List Et) : (esV es).length = es.length * 2 := by
  induction es with
  | nil => rfl
  | cons a r ih => simp only [esV, List.flatMap_cons, List.length_append, List.length_cons, List.length_nil] at ih ⊢; omega
theorem esV_snoc (es : List Et) (e : Et) : esV (es ++ [e]) = esV es ++ [.int .i64 e.ver, .slice e.a e.ws.length e.c] := by simp [esV]
def prE (e : Et) : Int × Ws := (e.ver, e.ws)
/-- Entries whose writes lie somewhere. -/
def rfEl (es : List Et) : RF := ⟨fun b => ∃ e ∈ es, b = e.b ∧ e.ws.length ≠ 0, fun w => ∀ e ∈ es, WrAt w e.b e.o e.ws, fun w h b hb => by
  obtain ⟨e, he, rfl, hl⟩ := hb
  exact (rfWr e.b e.o e.ws).lt w (h e he) e.b ⟨rfl, hl⟩, fun w w' h hb e he => (rfWr e.b e.o e.ws).st w w' (h e he) fun b hq => hb b ⟨e, he, hq.1, hq.2⟩⟩
def recS : Nat → (List ByteArray) → Nat → Int → List (Int × Ws) × Nat
  | 0, _, k, _ => ([], k)
  | f + 1, l, k, last => match parseS l k with
    | none => ([], k)
    | some (v, ws, n) => if v ≤ last then ([], k) else ((v, ws) :: (recS f l (k + n) v).1, (recS f l (k + n) v).2)
theorem recS_none {f : Nat} {l : (List ByteArray)} {k : Nat} {last : Int} (h : parseS l k = none) : recS (f + 1) l k last = ([], k) := by unfold recS; rw [h]
theorem recS_old {f : Nat} {l : (List ByteArray)} {k n : Nat} {v last : Int} {ws : Ws} (h : parseS l k = some (v, ws, n)) (hv : v ≤ last) : recS (f + 1) l k last = ([], k) := by unfold recS; rw [h]; exact if_pos hv
theorem recS_some {f : Nat} {l : (List ByteArray)} {k n : Nat} {v last : Int} {ws : Ws} (h : parseS l k = some (v, ws, n)) (hv : ¬v ≤ last) : recS (f + 1) l k last = ((v, ws) :: (recS f l (k + n) v).1, (recS f l (k + n) v).2) := by
  conv => lhs; unfold recS
  rw [h]
  exact if_neg hv
def recP (w0 : World) (R : List (Int × Ws) × Nat) (y : Ending) (w' : World) : Prop := Below w0.heap.size w0 w' ∧ ∃ (es : List Et) (v : Value), y = .returned (.tuple #[v, .int .i64 (R.2 : Int)]) ∧ es.map prE = R.1 ∧ w'.ownsRow w0.heap.size 24 2 v es.length (esV es) ∧ (∀ e ∈ es, e.ok ∧ fitE e.ver e.ws ∧ (e.ws.length = 0 ∨ w0.heap.size ≤ e.b)) ∧ ∀ e ∈ es, WrAt w' e.b e.o e.ws
noncomputable def rcC : Cfg := ⟨goZ 60 [] [.code (bodyOf Try.f19)], ⟨0, [], []⟩⟩
noncomputable def rcS (x : Sr) (ev : Value) (k : Nat) (last : Int) : SS := ⟨36, [(0, .v x.v), (4, .v ev), (5, .v (.int .i64 (k : Int))), (6, .v (.int .i64 last))], []⟩
theorem enI : (Try.prog.info? 24).map (fun i => (i.zero, i.size, i.bytes)) = some (some (.agg #[.int .i64 0, .slice none 0 0]), 2, 32) := by kernel_rfl
theorem parA_nat (l : (List ByteArray)) (k : Nat) : parA l (k : Int) = parseS l k := by unfold parA; rw [if_neg (by omega), Int.toNat_natCast]
theorem ap_ny {F : List RF} {w : World} {v v' : Value} (hF : ∀ f ∈ F, f.P w) (hap : ∀ f ∈ F, ∀ g, v.ownBlock = some g → ¬f.bl g) (hnn : ∀ g, v'.ownBlock = some g → v.ownBlock = some g ∨ w.heap.size ≤ g) : ∀ f ∈ F, ∀ g, v'.ownBlock = some g → ¬f.bl g := fun f hf g hg hb => (hnn g hg).elim (fun q => hap f hf g q hb) (fun q => by have := f.lt w (hF f hf) g hb; omega)
set_option maxHeartbeats 8000000 in
theorem rc_s (w0 : World) (x : Sr) (hx : x.ok) (hc : x.l.length ≤ x.c) (hl : x.l.length ≤ 1000) (R : List (Int × Ws) × Nat) (f k : Nat) (hk : k ≤ x.l.length) (ih : ∀ (es : List Et) (ev : Value) (k : Nat) (last : Int) (hk : k ≤ x.l.length ∧ x.l.length - k < f) (hes : ∀ e ∈ es, e.ok ∧ fitE e.ver e.ws ∧ (e.ws.length = 0 ∨ w0.heap.size ≤ e.b)) (hel : (es).length ≤ k) (hap : (∀ f ∈ [rfSt x.b x.o x.l, rfEl (es)], ∀ g, Value.ownBlock ev = some g → ¬f.bl g)) (hR : (es).map prE ++ (recS (f) x.l (k) last).1 = R.1 ∧ (recS (f) x.l (k) last).2 = R.2) (aa : Act) (w : World) (S : Sy w0 [] [] (rcS x ev (k) last) [rfSt x.b x.o x.l, rfEl (es), rfOwn w0.heap.size 24 2 ev (es).length (esV (es))] aa w), post Try.prog (.rnd (f) (bodyL rcC) :: rcC.k.tail) (bodyPost Try.prog Try.f19 (recP w0 R)) .normal aa w) (hfu : x.l.length - k < f + 1) (es : List Et) (ev : Value) (last : Int) (hes : ∀ e ∈ es, e.ok ∧ fitE e.ver e.ws ∧ (e.ws.length = 0 ∨ w0.heap.size ≤ e.b)) (hel : (es).length ≤ k) (hap : (∀ f ∈ [rfSt x.b x.o x.l, rfEl (es)], ∀ g, Value.ownBlock ev = some g → ¬f.bl g)) (hR : (es).map prE ++ (recS (f + 1) x.l (k) last).1 = R.1 ∧ (recS (f + 1) x.l (k) last).2 = R.2) (aa : Act) (w : World) (S : Sy w0 [] [] (rcS x ev (k) last) [rfSt x.b x.o x.l, rfEl (es), rfOwn w0.heap.size 24 2 ev (es).length (esV (es))] aa w) : post Try.prog (.rnd (f + 1) (bodyL rcC) :: rcC.k.tail) (bodyPost Try.prog Try.f19 (recP w0 R)) .normal aa w := by
  obtain ⟨ii, hi1, hi2, hi3, hi4⟩ := parts3 enI
  refine sy_run (c := ⟨(.rnd (f + 1) (bodyL rcC) :: rcC.k.tail), rcS x ev k last⟩) ⟨0, [3]⟩ 50 S fun bs aa w S => ?_
  refine sy_reg S fun S => ?_
  refine sy_ops 2 S fun bs aa w S => ?_
  refine sy_nm S fun bs S => ?_
  have hpar := parse_t w x.l x.a x.c x.b x.o hx hc hl (k : Int) (S.fact (f := rfSt x.b x.o x.l) (by simp))
  rw [parA_nat] at hpar
  have hblk : ∀ j, j < bs.length → bs.getD j 0 < w.heap.size := fun j hj => S.lt hj
  have hgs0 := S.gr.size
  have how0 := S.fact (f := rfOwn w0.heap.size 24 2 ev (es).length (esV (es))) (by simp)
  rcases hp : parseS x.l k with _ | ⟨v, ws, n⟩
  · rw [recS_none hp] at hR
    refine sy_call1 S (args := #[x.v, .int .i64 (k : Int)]) (hpar.mono fun y w' h => ⟨by have h2 := h.2; rw [hp] at h2; exact h2, h.1⟩) (by kernel_rfl) fun aa w hb S => ?_
    refine sy_run ⟨0, []⟩ 60 S fun bs aa w S => ?_
    have how := S.fact (f := rfOwn w0.heap.size 24 2 ev (es).length (esV (es))) (by simp)
    have hew := S.fact (f := rfEl es) (by simp)
    exact sy_ret S (by kernel_rfl) (by kernel_rfl) fun hg => ⟨bel_gr hg, es, ev, by rw [← hR.2], by rw [← hR.1, List.append_nil], how, hes, hew⟩
  · obtain ⟨hfit, hvv, hn, hn1, hkl, hnl, htk⟩ := parse_rec hp
    refine sy_call S (X := Et) (val := fun e => .tuple #[e.v, .int .i64 (n : Int), .int .i64 0]) (C := fun e w' => e.ver = v ∧ e.ws = ws ∧ e.ok ∧ WrAt w' e.b e.o e.ws ∧ (e.ws.length = 0 ∨ w.heap.size ≤ e.b)) (args := #[x.v, .int .i64 (k : Int)]) (hpar.mono fun y w' h => by
      have h2 := h.2
      rw [hp] at h2
      obtain ⟨e, q1, q2, q3, q4, q5, q6⟩ := h2
      exact ⟨e, q4, ⟨q1, q2, q3, q5, q6⟩, h.1⟩) (by kernel_rfl) fun e aa w1 hC hb S => ?_
    obtain ⟨rfl, rfl, hok, hwr, hfr⟩ := hC
    have S := S.add (rfWr e.b e.o e.ws) hwr (fun i hi hb => by
      obtain ⟨q1, q2⟩ := hb
      have := hblk i hi
      have := hfr.resolve_left q2
      omega)
    refine sy_run ⟨0, [4]⟩ 60 S fun bs aa w S => ?_
    refine sy_reg S fun S => ?_
    refine sy_ops 7 S fun bs aa w S => ?_
    by_cases hle : e.ver ≤ last
    · rw [recS_old hp hle] at hR
      refine sy_cast 23 S (congrArg Value.bool (decide_eq_true hle)) (by kernel_rfl) fun S => ?_
      refine sy_run ⟨0, []⟩ 60 S fun bs aa w S => ?_
      have how := S.fact (f := rfOwn w0.heap.size 24 2 ev (es).length (esV (es))) (by simp)
      have hew := S.fact (f := rfEl es) (by simp)
      exact sy_ret S (by kernel_rfl) (by kernel_rfl) fun hg => ⟨bel_gr hg, es, ev, by rw [← hR.2], by rw [← hR.1, List.append_nil], how, hes, hew⟩
    · rw [recS_some hp hle] at hR
      refine sy_cast 23 S (congrArg Value.bool (decide_eq_false hle)) (by kernel_rfl) fun S => ?_
      refine sy_run ⟨0, [6]⟩ 60 S fun bs aa w S => ?_
      refine sy_reg S fun S => ?_
      refine sy_ops 3 S fun bs aa w S => ?_
      refine sy_nm S fun bs S => ?_
      have how := S.fact (f := rfOwn w0.heap.size 24 2 ev (es).length (esV (es))) (by simp)
      have hapb := (S.fs (rfOwn w0.heap.size 24 2 ev (es).length (esV (es))) (by simp)).2
      have hblk2 : ∀ j, j < bs.length → bs.getD j 0 < w.heap.size := fun j hj => S.lt hj
      have hFP : ∀ f ∈ [rfWr e.b e.o e.ws, rfSt x.b x.o x.l, rfEl es], f.P w := fun f hf => (S.fs f (by simp only [List.mem_cons, List.not_mem_nil, or_false] at hf ⊢; rcases hf with rfl | rfl | rfl <;> simp)).1
      have hap3 : ∀ f ∈ [rfWr e.b e.o e.ws, rfSt x.b x.o x.l, rfEl es], ∀ g, ev.ownBlock = some g → ¬f.bl g := by
        intro f hf g hg hb
        rcases List.mem_cons.1 hf with rfl | hf
        · have q1 := (how0.lt g hg).2
          have q2 := hfr.resolve_left hb.2
          have q3 := hb.1
          omega
        · exact hap f hf g hg hb
      have hel2 : es.length ≤ 1000 := by omega
      refine sy_appO w0.heap.size (u := .v ev) (y := .s 1 0 1 1) (v := ev) (ad := adr bs 1 0) (m := 1) (cp := 1) (n := es.length) (size := 2) (bytes := 32) (e := 24) (t := 36) (xs := esV es) (news := [.int .i64 e.ver, .slice e.a e.ws.length e.c]) [rfWr e.b e.o e.ws, rfSt x.b x.o x.l, rfEl es] S (by kernel_rfl) Try.underlying36 hi1 hi2 hi3 hi4 rfl (by omega) rfl rfl how S.gr.size (own3 (P := Try.prog) (ty := 24) (cs := [.int .i64 e.ver, .slice e.a e.ws.length e.c]) S 1 (by kernel_rfl)) rfl (by intro u hu; simp only [List.mem_cons, List.not_mem_nil, or_false] at hu; rcases hu with rfl | rfl <;> rfl) (by simp only [maxLen]; omega) (by omega)
        (fun g hg => Or.inr (how.lt g hg).1) (fun f hf => ⟨by simp only [List.mem_cons, List.not_mem_nil, or_false] at hf ⊢; rcases hf with rfl | rfl | rfl <;> simp, hap3 f hf⟩) (fun j hj hb => hapb j hj hb)
        fun v' aa w2 hO hg' hnn S => ?_
      have hap4 := ap_ny hFP hap3 hnn
      have S := S.add (rfOwn w0.heap.size 24 2 v' (es ++ [e]).length (esV (es ++ [e]))) (by rw [esV_snoc, List.length_append]; exact hO) (fun j hj hb => (hnn _ hb).elim (fun q => hapb j hj q) (fun q => by have := hblk2 j hj; omega))
      have hw1 := S.fact (f := rfWr e.b e.o e.ws) (by simp)
      have hw2 := S.fact (f := rfEl es) (by simp)
      have ha1 := (S.fs (rfWr e.b e.o e.ws) (by simp)).2
      have ha2 := (S.fs (rfEl es) (by simp)).2
      have S := S.add (rfEl (es ++ [e])) (by
        intro q hq
        rcases List.mem_append.1 hq with hq | hq
        · exact hw2 q hq
        · obtain rfl := List.mem_singleton.1 hq
          exact hw1) (fun j hj hb => by
        obtain ⟨q, hq, q1, q2⟩ := hb
        rcases List.mem_append.1 hq with hq | hq
        · exact ha2 j hj ⟨q, hq, q1, q2⟩
        · obtain rfl := List.mem_singleton.1 hq
          exact ha1 j hj ⟨q1, q2⟩)
      have hap5 : (∀ f ∈ [rfSt x.b x.o x.l, rfEl (es ++ [e])], ∀ g, Value.ownBlock v' = some g → ¬f.bl g) := by
        intro f hf g hg hb
        simp only [List.mem_cons, List.not_mem_nil, or_false] at hf
        rcases hf with rfl | rfl
        · exact hap4 _ (by simp) g hg hb
        · obtain ⟨q, hq, q1, q2⟩ := hb
          rcases List.mem_append.1 hq with hq | hq
          · exact hap4 (rfEl es) (by simp) g hg ⟨q, hq, q1, q2⟩
          · obtain rfl := List.mem_singleton.1 hq
            exact hap4 (rfWr q.b q.o q.ws) (by simp) g hg ⟨q1, q2⟩
      refine sy_run ⟨0, [7]⟩ 60 S fun bs aa w S => ?_
      refine sy_reg S fun S => ?_
      refine sy_ops 3 S fun bs aa w S => ?_
      refine sy_cast 33 S (congrArg (Value.int .i64) (by rw [IntKind.wrap_i64]; omega : IntKind.i64.wrap ((k : Int) + (n : Int)) = ((k + n : Nat) : Int))) (by kernel_rfl) fun S => ?_
      refine sy_run ⟨0, [999]⟩ 60 S fun bs aa w S => ?_
      have S := S.sub (F' := [rfSt x.b x.o x.l, rfEl (es ++ [e]), rfOwn w0.heap.size 24 2 v' (es ++ [e]).length (esV (es ++ [e]))]) (by intro f hf; simp only [List.mem_cons, List.not_mem_nil, or_false] at hf; rcases hf with rfl | rfl | rfl <;> simp)
      have S2 := S.to [] (rcS x v' (k + n) e.ver) (by kernel_rfl) (by kernel_rfl) (by kernel_rfl) (by kernel_rfl) (by kernel_rfl)
      refine sy_at2 (k' := (.rnd (f) (bodyL rcC) :: rcC.k.tail)) (by kernel_rfl) ?_
      exact ih (es ++ [e]) v' (k + n) e.ver ⟨by omega, by omega⟩ (by
        intro q hq
        rcases List.mem_append.1 hq with hq | hq
        · exact hes q hq
        · obtain rfl := List.mem_singleton.1 hq
          exact ⟨hok, hfit, hfr.imp id fun z => by omega⟩) (by rw [List.length_append]; show es.length + 1 ≤ _; omega) hap5 ⟨by rw [← hR.1]; simp [prE], hR.2⟩ aa w S2
theorem rc_a (w0 : World) (x : Sr) (hx : x.ok) (hc : x.l.length ≤ x.c) (hl : x.l.length ≤ 1000) (R : List (Int × Ws) × Nat) : ∀ (f : Nat) (es : List Et) (ev : Value) (k : Nat) (last : Int) (hk : k ≤ x.l.length ∧ x.l.length - k < f) (hes : ∀ e ∈ es, e.ok ∧ fitE e.ver e.ws ∧ (e.ws.length = 0 ∨ w0.heap.size ≤ e.b)) (hel : (es).length ≤ k) (hap : (∀ f ∈ [rfSt x.b x.o x.l, rfEl (es)], ∀ g, Value.ownBlock ev = some g → ¬f.bl g)) (hR : (es).map prE ++ (recS (f) x.l (k) last).1 = R.1 ∧ (recS (f) x.l (k) last).2 = R.2) (aa : Act) (w : World) (S : Sy w0 [] [] (rcS x ev (k) last) [rfSt x.b x.o x.l, rfEl (es), rfOwn w0.heap.size 24 2 ev (es).length (esV (es))] aa w), post Try.prog (.rnd (f) (bodyL rcC) :: rcC.k.tail) (bodyPost Try.prog Try.f19 (recP w0 R)) .normal aa w
  | 0, es, ev, k, last, hk, hes, hel, hap, hR, aa, w, S => by omega
  | f + 1, es, ev, k, last, hk, hes, hel, hap, hR, aa, w, S => rc_s w0 x hx hc hl R f k hk.1 (rc_a w0 x hx hc hl R f) hk.2 es ev last hes hel hap hR aa w S
set_option maxHeartbeats 8000000 in
theorem recover_t (w0 : World) (x : Sr) (hx : x.ok) (hc : x.l.length ≤ x.c) (hl : x.l.length ≤ 1000) (hA : x.at w0) : Calls Try.prog 19 #[x.v] w0 (recP w0 (recS (x.l.length + 1) x.l 0 0)) := by
  refine sy_enterF [] [rfSt x.b x.o x.l] (by intro f hf; simp only [List.mem_singleton] at hf; subst hf; exact hA) Try.func19 rfl rfl fun aa S => ?_
  refine sy_run ⟨0, []⟩ 60 S fun bs aa w S => ?_
  have S := S.add (rfOwn w0.heap.size 24 2 (.slice none 0 0) (([] : List Et)).length (esV (([] : List Et)))) (World.ownsRow_nil _ _ _ _) (fun i hi h => by cases h)
  have S := S.add (rfEl []) (fun e he => by cases he) (fun i hi h => by obtain ⟨e, he, _⟩ := h; cases he)
  have S := S.sub (F' := [rfSt x.b x.o x.l, rfEl (([] : List Et)), rfOwn w0.heap.size 24 2 (.slice none 0 0) (([] : List Et)).length (esV (([] : List Et)))]) (by intro f hf; simp only [List.mem_cons, List.not_mem_nil, or_false] at hf; rcases hf with rfl | rfl | rfl <;> simp)
  have S2 := S.to [] (rcS x (.slice none 0 0) 0 0) (by kernel_rfl) (by kernel_rfl) (by kernel_rfl) (by kernel_rfl) (by kernel_rfl)
  refine sy_loop (x.l.length + 1) (by kernel_rfl) ?_
  refine sy_at2 (k' := (.rnd (x.l.length + 1) (bodyL rcC) :: rcC.k.tail)) (by kernel_rfl) ?_
  exact rc_a w0 x hx hc hl _ (x.l.length + 1) [] (.slice none 0 0) 0 0 ⟨by omega, by omega⟩ (fun e he => by cases he) (by simp) (fun f hf g hg => by cases hg) ⟨by simp, rfl⟩ aa w S2
end Go.Proofs.Ytaclhiagfgmgkaa


/-
  Layer 23: the reference's Record.
-/
namespace Go.Proofs.Ytaclhiagfgmgkaa
open Go Go.RowKit SZ
set_option linter.unusedVariables false
set_option linter.unusedSimpArgs false
set_option maxRecDepth 100000
attribute [local irreducible] post GD Nxt NxtAll
theorem strOf_app (a b : List Nat) : strOf a ++ strOf b = strOf (a ++ b) := by
  apply ByteArray.ext
  rw [ByteArray.data_append]
  simp [strOf]
theorem strOf_len (a : List Nat) : (strOf a).size = a.length := by
  show (List.toArray (a.map UInt8.ofNat)).size = _
  simp
theorem strOf_slice (a : List Nat) (i j : Nat) : (strOf a).extract i j = strOf ((a.drop i).take (j - i)) := by
  apply ByteArray.ext
  rw [ByteArray.data_extract]
  unfold strOf
  apply Array.ext'
  rw [Array.toList_extract, List.extract_eq_take_drop]
  simp [List.map_take, List.map_drop]
noncomputable def p1C : Cfg := ⟨goZ 60 [0] [.code (bodyOf Try.f13)], ⟨0, [], []⟩⟩
noncomputable def p2C : Cfg := ⟨goZ 60 [0, 9] [.code (bodyOf Try.f13)], ⟨0, [], []⟩⟩
noncomputable def p3C : Cfg := ⟨goZ 60 [0, 9, 9] [.code (bodyOf Try.f13)], ⟨0, [], []⟩⟩
noncomputable def p1S (e : Et) (v : Value) (j : Nat) : SS := ⟨99, [(1, .p 0 0), (4, .v v), (5, .v (.int .i64 (j : Int)))], [⟨24, e.cs⟩]⟩
noncomputable def p2S (l : List Nat) (j : Nat) : SS := ⟨99, [(6, .v (.string (strOf (l ++ List.replicate j 0))))], []⟩
noncomputable def p3S (l : List Nat) (n : Nat) (v : Value) (i : Nat) : SS := ⟨99, [(6, .v (.string (strOf l))), (7, .v (.int .i64 (n : Int))), (8, .v v), (9, .v (.int .i64 (i : Int)))], []⟩
theorem tmod27 (n : Nat) : Int.tmod (n : Int) 27 = ((n % 27 : Nat) : Int) := (Int.ofNat_tmod _ 27).symm
theorem tdiv27 (n : Nat) (h : n ≤ 25) : IntKind.i64.wrap (Int.tdiv ((27 * n : Nat) : Int) 27) = (n : Int) := by
  rw [show Int.tdiv ((27 * n : Nat) : Int) 27 = ((27 * n / 27 : Nat) : Int) from (Int.ofNat_tdiv _ 27).symm, IntKind.wrap_i64]
  omega
theorem le_a (A : Nat) (h : A < 4294967296) : IntKind.u8.wrap (Int.tmod (A : Int) 256) = ((A % 256 : Nat) : Int) := by
  rw [show Int.tmod (A : Int) 256 = ((A % 256 : Nat) : Int) from (Int.ofNat_tmod _ 256).symm, IntKind.wrap_u8]
  omega
theorem le_b (A d : Nat) (h : A < 4294967296) (hd : 0 < d) : IntKind.u8.wrap (Int.tmod (IntKind.i64.wrap (Int.tdiv (A : Int) (d : Int))) 256) = ((A / d % 256 : Nat) : Int) := by
  have e1 : Int.tdiv (A : Int) (d : Int) = ((A / d : Nat) : Int) := (Int.ofNat_tdiv _ _).symm
  have hq : A / d ≤ A := Nat.div_le_self _ _
  rw [e1]
  generalize A / d = q at *
  have e2 : IntKind.i64.wrap ((q : Nat) : Int) = ((q : Nat) : Int) := by rw [IntKind.wrap_i64]; omega
  rw [e2, show Int.tmod ((q : Nat) : Int) 256 = ((q % 256 : Nat) : Int) from (Int.ofNat_tmod _ 256).symm, IntKind.wrap_u8]
  omega
theorem le_c (A : Nat) (h : A < 4294967296) : IntKind.u8.wrap (IntKind.i64.wrap (Int.tdiv (A : Int) 16777216)) = ((A / 16777216 % 256 : Nat) : Int) := by
  have e1 : Int.tdiv (A : Int) 16777216 = ((A / 16777216 : Nat) : Int) := (Int.ofNat_tdiv _ 16777216).symm
  rw [e1]
  have hq := Nat.div_le_self A 16777216
  generalize A / 16777216 = q at *
  have e2 : IntKind.i64.wrap ((q : Nat) : Int) = ((q : Nat) : Int) := by rw [IntKind.wrap_i64]; omega
  rw [e2, IntKind.wrap_u8]
  omega
theorem pad_part (l : List Nat) (n i : Nat) (hn : n = manyL l) (hi : i < n) : (((l ++ List.replicate (27 * n - l.length) 0)).drop (27 * i)).take 27 = padB (partL l i) := by
  subst hn
  have hge := many_ge l
  have hlt : 27 * manyL l < l.length + 27 := by unfold manyL; omega
  have hi2 : 27 * i < l.length := by unfold manyL at hi; omega
  unfold padB
  rw [part_len, List.drop_append_of_le_length (by omega), List.take_append]
  unfold partL
  rw [List.take_replicate, List.length_drop]
  congr 2
  omega
theorem bodyB_cons (f : Nat) (p : List Nat) : [f] ++ padB p = bodyB f p := rfl
theorem sec_app (f : Nat) (p : List Nat) : bodyB f p ++ le4 (adler (bodyB f p)) = sec f p := rfl
set_option maxHeartbeats 8000000 in
theorem p3_e (w0 : World) (e : Et) (hg : e.ok) (hf : fitE e.ver e.ws) (hv : validB e.ver e.ws = true) (l : List Nat) (hL : l = payE e.ver e.ws) (n : Nat) (hn : n = manyL l) (m : Nat) (v : Value) (aa : Act) (w : World) (S : Sy w0 [] [] (p3S (l ++ List.replicate (27 * n - l.length) 0) n v (n)) [rfOwn w0.heap.size 9 1 v (n) (reS l (n))] aa w) : post Try.prog (.rnd (m + 1) (bodyL p3C) :: p3C.k.tail) (bodyPost Try.prog Try.f13 fun y w' => ∃ v, y = .returned v ∧ w'.ownsRow w0.heap.size 9 1 v (recE e.ver e.ws).length ((recE e.ver e.ws).map Value.string) ∧ Below w0.heap.size w0 w') .normal aa w := by
  refine sy_run (c := ⟨(.rnd (m + 1) (bodyL p3C) :: p3C.k.tail), p3S (l ++ List.replicate (27 * n - l.length) 0) n v n⟩) ⟨0, [15]⟩ 50 S fun bs aa w S => ?_
  refine sy_reg S fun S => ?_
  refine sy_ops 3 S fun bs aa w S => ?_
  refine sy_cast 57 S (congrArg Value.bool (decide_eq_false (by omega) : decide ((n : Int) < (n : Int)) = false)) (by kernel_rfl) fun S => ?_
  refine sy_run ⟨0, []⟩ 60 S fun bs aa w S => ?_
  have ho := S.fact (f := rfOwn w0.heap.size 9 1 v (n) (reS l (n))) (by simp)
  have e1 : recE e.ver e.ws = recL l := by rw [recE_valid hv, hL]
  have e2 : reS l n = (recL l).map Value.string := by unfold reS; rw [List.take_of_length_le (by rw [recL_len, hn]; exact Nat.le_refl _)]
  rw [e2] at ho
  exact sy_ret S (by kernel_rfl) (by kernel_rfl) fun hg => ⟨v, rfl, by rw [e1, recL_len, ← hn]; exact ho, bel_gr hg⟩
set_option maxHeartbeats 8000000 in
theorem p3_s (w0 : World) (e : Et) (hg : e.ok) (hf : fitE e.ver e.ws) (hv : validB e.ver e.ws = true) (l : List Nat) (hL : l = payE e.ver e.ws) (n : Nat) (hn : n = manyL l) (m i : Nat) (hi : i < n) (ih : ∀ (v : Value) (aa : Act) (w : World) (S : Sy w0 [] [] (p3S (l ++ List.replicate (27 * n - l.length) 0) n v (i + 1)) [rfOwn w0.heap.size 9 1 v (i + 1) (reS l (i + 1))] aa w), post Try.prog (.rnd (m) (bodyL p3C) :: p3C.k.tail) (bodyPost Try.prog Try.f13 fun y w' => ∃ v, y = .returned v ∧ w'.ownsRow w0.heap.size 9 1 v (recE e.ver e.ws).length ((recE e.ver e.ws).map Value.string) ∧ Below w0.heap.size w0 w') .normal aa w) (v : Value) (aa : Act) (w : World) (S : Sy w0 [] [] (p3S (l ++ List.replicate (27 * n - l.length) 0) n v (i)) [rfOwn w0.heap.size 9 1 v (i) (reS l (i))] aa w) : post Try.prog (.rnd (m + 1) (bodyL p3C) :: p3C.k.tail) (bodyPost Try.prog Try.f13 fun y w' => ∃ v, y = .returned v ∧ w'.ownsRow w0.heap.size 9 1 v (recE e.ver e.ws).length ((recE e.ver e.ws).map Value.string) ∧ Below w0.heap.size w0 w') .normal aa w := by
  have hm25 : n ≤ 25 := by rw [hn, hL]; exact (recE_many hf hv).2
  have hlb : ∀ b ∈ l, b < 256 := by rw [hL]; exact pay_byte _ _
  have hge : l.length ≤ 27 * n := by rw [hn]; exact many_ge l
  have hpb := part_byte hlb i
  have hpl := part_le l i
  have hll : ((l ++ List.replicate (27 * n - l.length) 0)).length = 27 * n := by rw [List.length_append, List.length_replicate]; omega
  obtain ⟨ii, hi1, hi2, hi3, hi4⟩ := parts3 infS3
  refine sy_run (c := ⟨(.rnd (m + 1) (bodyL p3C) :: p3C.k.tail), p3S (l ++ List.replicate (27 * n - l.length) 0) n v i⟩) ⟨0, [15]⟩ 50 S fun bs aa w S => ?_
  refine sy_reg S fun S => ?_
  refine sy_ops 3 S fun bs aa w S => ?_
  refine sy_cast 57 S (congrArg Value.bool (decide_eq_true (by omega) : decide ((i : Int) < (n : Int)) = true)) (by kernel_rfl) fun S => ?_
  refine sy_run ⟨0, []⟩ 60 S fun bs aa w S => ?_
  obtain ⟨E, hE⟩ : ∃ E, E = IntKind.u8.wrap (IntKind.i64.wrap (IntKind.i64.wrap ((n : Int) - 1) - (i : Int))) := ⟨_, rfl⟩
  have eE : E = ((n - 1 - i : Nat) : Int) := by rw [hE, IntKind.wrap_u8, IntKind.wrap_i64, IntKind.wrap_i64]; omega
  have hsl : ∀ W, (Instr.sliceAt 9 (.string (strOf (l ++ List.replicate (27 * n - l.length) 0))) (some (.int .i64 (IntKind.i64.wrap (27 * (i : Int))))) (some (.int .i64 (IntKind.i64.wrap (IntKind.i64.wrap (27 * (i : Int)) + 27)))) none).run Try.prog W = .ok (.string (strOf (padB (partL l i)))) W := fun W => by
    have e1 : IntKind.i64.wrap (27 * (i : Int)) = ((27 * i : Nat) : Int) := by rw [IntKind.wrap_i64]; omega
    have e2 : IntKind.i64.wrap (((27 * i : Nat) : Int) + 27) = ((27 * i + 27 : Nat) : Int) := by rw [IntKind.wrap_i64]; omega
    have hu : Try.prog.underlying 9 = some .string := Try.underlying9
    rw [e1, e2, run_sliceAt_string W _ _ _ _ _ hu, run_slice_string W 9 _ .i64 .i64 _ _ hu (by omega) (by omega) (by rw [strOf_len, hll]; omega), Int.toNat_natCast, Int.toNat_natCast, strOf_slice, show 27 * i + 27 - 27 * i = 27 by omega, pad_part l n i hn hi]
  letI : KP := ⟨[73, 74]⟩
  letI : HF := ⟨[]⟩
  refine dr_enter [] (by kernel_rfl) (by kernel_rfl) S (by kernel_rfl) (fun aa w D => ?_) (fun f hf => by cases hf)
  refine dr_ex2 (fun d v c a w h => by cases d <;> exact h) 13 (op := .slice 9 (.tmp 67) (some (.tmp 69)) (some (.tmp 72)) none) (ty := 9) (v := .string (strOf (padB (partL l i)))) D (by kernel_rfl) (by kernel_rfl) (by kernel_rfl) (by kernel_rfl) (ex_slS (p := strOf (l ++ List.replicate (27 * n - l.length) 0)) (l2 := some (.v (.int .i64 (IntKind.i64.wrap (27 * (i : Int)))))) (h2 := some (.v (.int .i64 (IntKind.i64.wrap (IntKind.i64.wrap (27 * (i : Int)) + 27))))) Try.underlying9 (by kernel_rfl) (by kernel_rfl) (by kernel_rfl) hsl) fun aa D => ?_
  refine dr_any [5] (by kernel_rfl) (by kernel_rfl) rfl (na1 ?_)
  refine nx_op 5 D (by kernel_rfl) (Nat.le_refl _) (by kernel_rfl) (by kernel_rfl) fun bs aa w D hl => ?_
  refine dr_any [6] (by kernel_rfl) (by kernel_rfl) rfl (na1 ?_)
  have hbx := D.S.bx 0 ⟨5, [.int .u8 (IntKind.u8.wrap (IntKind.i64.wrap (IntKind.i64.wrap ((n : Int) - 1) - (i : Int))))]⟩ (by kernel_rfl)
  rw [← hE, eE] at hbx
  have hHB := hasB_box (o := 0) (c := 1) (l := [n - 1 - i]) hbx (fun j hj => by
    have hj1 : j < 1 := hj
    obtain rfl : j = 0 := by omega
    rfl) (show 1 ≤ 1 by decide) (by decide)
  refine nx_exB 6 D (by kernel_rfl) (op := .convert 43 9 (.tmp 65)) (ty := 9) (C := fun v _ => v = .string (strOf [n - 1 - i])) (by kernel_rfl) (fun o ρ h1 h2 h3 => ⟨_, _, ex_bs (y := .s 0 0 1 1) (l := [n - 1 - i]) (by kernel_rfl) rfl (by intro b hb; simp only [List.mem_singleton] at hb; omega) hHB o ρ h1 h2 h3, rfl, Below.refl _ _⟩) fun v0 aa w2 hC hb hlt D => ?_
  obtain rfl := hC
  refine dr_ex2 (fun d v c a w h => by cases d <;> exact h) 14 (op := .binOp .add 9 (.tmp 66) (.tmp 73) 9) (ty := 9) (v := .string (strOf (bodyB (n - 1 - i) (partL l i)))) D (by kernel_rfl) (by kernel_rfl) (by kernel_rfl) (by kernel_rfl) (fun o ρ W g1 g2 g3 => by
    have h := ex_cat (P := Try.prog) (x := .tmp 66) (y := .tmp 73) (t := 9) (t' := 9) (ty := 9) (p := strOf [n - 1 - i]) (q := strOf (padB (partL l i))) Try.underlying9 (by kernel_rfl) (by kernel_rfl) (by rw [strOf_len, strOf_len, pad_len hpl]; show 1 + 27 ≤ 9223372036854775807; decide) o ρ W g1 g2 g3
    rw [strOf_app, bodyB_cons] at h
    exact h) fun aa D => ?_
  refine dr_end D (by kernel_rfl) fun S => ?_
  refine sy_run ⟨0, [18]⟩ 60 S fun bs aa w S => ?_
  refine sy_reg S fun S => ?_
  refine sy_ops 1 S fun bs aa w S => ?_
  have hbb := body_byte (f := n - 1 - i) (by omega) hpb
  have hbl28 := body_len (f := n - 1 - i) hpl
  have hA : adler (bytesOf (strOf (bodyB (n - 1 - i) (partL l i)))) = adler (bodyB (n - 1 - i) (partL l i)) := by rw [bytesOf_strOf _ hbb]
  obtain ⟨A, eA⟩ : ∃ A, A = adler (bodyB (n - 1 - i) (partL l i)) := ⟨_, rfl⟩
  have hA2 := adS_lt (bodyB (n - 1 - i) (partL l i))
  have hA3 : A < 4294967296 := by rw [eA]; unfold adler; omega
  refine sy_call1 S (by have h := rsum_t w (strOf (bodyB (n - 1 - i) (partL l i))) (by rw [strOf_len, hbl28]; decide); rw [hA, ← eA] at h; exact h) (by kernel_rfl) fun aa w hb S => ?_
  refine sy_run ⟨0, [19]⟩ 60 S fun bs aa w S => ?_
  refine sy_reg S fun S => ?_
  refine sy_ops 5 S fun bs aa w S => ?_
  refine sy_cast 81 S (congrArg (Value.int .u8) (le_a A hA3)) (by kernel_rfl) fun S => ?_
  refine sy_ops 4 S fun bs aa w S => ?_
  refine sy_cast 85 S (congrArg (Value.int .u8) (le_b A 256 hA3 (by decide))) (by kernel_rfl) fun S => ?_
  refine sy_ops 4 S fun bs aa w S => ?_
  refine sy_cast 89 S (congrArg (Value.int .u8) (le_b A 65536 hA3 (by decide))) (by kernel_rfl) fun S => ?_
  refine sy_ops 3 S fun bs aa w S => ?_
  refine sy_cast 92 S (congrArg (Value.int .u8) (le_c A hA3)) (by kernel_rfl) fun S => ?_
  refine sy_ops 1 S fun bs aa w S => ?_
  refine sy_nm S fun bs S => ?_
  have hbx4 := S.bx 1 ⟨5, [.int .u8 ((A % 256 : Nat) : Int), .int .u8 ((A / 256 % 256 : Nat) : Int), .int .u8 ((A / 65536 % 256 : Nat) : Int), .int .u8 ((A / 16777216 % 256 : Nat) : Int)]⟩ (by kernel_rfl)
  have hHB4 := hasB_box (o := 0) (c := 4) (l := le4 A) hbx4 (fun j hj => by
    have hj4 : j < 4 := hj
    have : j = 0 ∨ j = 1 ∨ j = 2 ∨ j = 3 := by omega
    rcases this with rfl | rfl | rfl | rfl <;> rfl) (show 4 ≤ 4 by decide) (by decide)
  refine sy_exW S (op := .convert 43 9 (.tmp 93)) (ty := 9) (v := .string (strOf (le4 A))) (by kernel_rfl) (ex_bs (y := .s 1 0 4 4) (by kernel_rfl) rfl (le4_byte A) hHB4) fun aa S => ?_
  refine sy_ex (op := .binOp .add 9 (.tmp 78) (.tmp 94) 9) (ty := 9) (v := .string (secB (n - 1 - i) (partL l i))) S (by kernel_rfl) (fun o ρ W g1 g2 g3 => by
    have h := ex_cat (P := Try.prog) (x := .tmp 78) (y := .tmp 94) (t := 9) (t' := 9) (ty := 9) (p := strOf (bodyB (n - 1 - i) (partL l i))) (q := strOf (le4 A)) Try.underlying9 (by kernel_rfl) (by kernel_rfl) (by rw [strOf_len, strOf_len, hbl28]; show 28 + 4 ≤ _; decide) o ρ W g1 g2 g3
    rw [strOf_app, eA, sec_app] at h
    exact h) fun aa S => ?_
  refine sy_ops 1 S fun bs aa w S => ?_
  refine sy_nm S fun bs S => ?_
  have how := S.fact (f := rfOwn w0.heap.size 9 1 v (i) (reS l (i))) (by simp)
  have hap := (S.fs (rfOwn w0.heap.size 9 1 v (i) (reS l (i))) (by simp)).2
  have hblk : ∀ j, j < bs.length → bs.getD j 0 < w.heap.size := fun j hj => S.lt hj
  refine sy_appO w0.heap.size (u := .v v) (y := .s 2 0 1 1) (v := v) (ad := adr bs 2 0) (m := 1) (cp := 1) (n := i) (size := 1) (bytes := 16) (e := 9) (t := 28) (xs := reS l i) (news := [.string (secB (n - 1 - i) (partL l i))]) [] S (by kernel_rfl) Try.underlying28 hi1 hi2 hi3 hi4 rfl (by omega) rfl rfl how S.gr.size (own3 (P := Try.prog) (ty := 9) (cs := [.string (secB (n - 1 - i) (partL l i))]) S 2 (by kernel_rfl)) rfl (by intro u hu; simp only [List.mem_singleton] at hu; subst hu; rfl) (by simp only [maxLen]; omega) (by omega)
    (fun g hg => Or.inr (how.lt g hg).1) (fun f hf => by cases hf) (fun j hj hb => hap j hj hb)
    fun v' aa w2 hO hg hnn S => ?_
  have S := S.add (rfOwn w0.heap.size 9 1 v' (i + 1) (reS l (i + 1))) (by rw [reS_succ l i (by omega), ← hn]; exact hO) (fun j hj hb => (hnn _ hb).elim (fun q => hap j hj q) (fun q => by have := hblk j hj; omega))
  refine sy_run ⟨0, [16]⟩ 60 S fun bs aa w S => ?_
  refine sy_reg S fun S => ?_
  refine sy_ops 2 S fun bs aa w S => ?_
  refine sy_cast 59 S (congrArg (Value.int .i64) (by rw [IntKind.wrap_i64]; omega : IntKind.i64.wrap ((i : Int) + 1) = ((i + 1 : Nat) : Int))) (by kernel_rfl) fun S => ?_
  refine sy_run ⟨0, [999]⟩ 50 S fun bs aa w S => ?_
  have S2 := S.to [] (p3S (l ++ List.replicate (27 * n - l.length) 0) n v' (i + 1)) (by kernel_rfl) (by kernel_rfl) (by kernel_rfl) (by kernel_rfl) (by kernel_rfl)
  refine sy_at2 (k' := (.rnd (m) (bodyL p3C) :: p3C.k.tail)) (by kernel_rfl) ?_
  exact ih v' aa w S2
theorem p3_a (w0 : World) (e : Et) (hg : e.ok) (hf : fitE e.ver e.ws) (hv : validB e.ver e.ws = true) (l : List Nat) (hL : l = payE e.ver e.ws) (n : Nat) (hn : n = manyL l) : ∀ (r i : Nat), i + r = n → ∀ (v : Value) (aa : Act) (w : World) (S : Sy w0 [] [] (p3S (l ++ List.replicate (27 * n - l.length) 0) n v (i)) [rfOwn w0.heap.size 9 1 v (i) (reS l (i))] aa w), post Try.prog (.rnd (r + 1) (bodyL p3C) :: p3C.k.tail) (bodyPost Try.prog Try.f13 fun y w' => ∃ v, y = .returned v ∧ w'.ownsRow w0.heap.size 9 1 v (recE e.ver e.ws).length ((recE e.ver e.ws).map Value.string) ∧ Below w0.heap.size w0 w') .normal aa w := by
  intro r
  induction r with
  | zero => intro i hi v aa w S; obtain rfl : n = i := by omega
            exact p3_e w0 e hg hf hv l hL n hn 0 v aa w S
  | succ r ih => intro i hi v aa w S; exact p3_s w0 e hg hf hv l hL n hn (r + 1) i (by omega) (fun v => ih (i + 1) (by omega) v) v aa w S
set_option maxHeartbeats 8000000 in
theorem p2_e (w0 : World) (e : Et) (hg : e.ok) (hf : fitE e.ver e.ws) (hv : validB e.ver e.ws = true) (l : List Nat) (hL : l = payE e.ver e.ws) (m : Nat) (aa : Act) (w : World) (S : Sy w0 [] [] (p2S l ((27 * manyL l - l.length))) [] aa w) : post Try.prog (.rnd (m + 1) (bodyL p2C) :: p2C.k.tail) (bodyPost Try.prog Try.f13 fun y w' => ∃ v, y = .returned v ∧ w'.ownsRow w0.heap.size 9 1 v (recE e.ver e.ws).length ((recE e.ver e.ws).map Value.string) ∧ Below w0.heap.size w0 w') .normal aa w := by
  have hge := many_ge l
  have hm25 : manyL l ≤ 25 := by rw [hL]; exact (recE_many hf hv).2
  refine sy_run (c := ⟨(.rnd (m + 1) (bodyL p2C) :: p2C.k.tail), p2S l (27 * manyL l - l.length)⟩) ⟨0, [10]⟩ 50 S fun bs aa w S => ?_
  refine sy_reg S fun S => ?_
  refine sy_ops 2 S fun bs aa w S => ?_
  refine sy_cast 45 S (congrArg (Value.int .i64) (by rw [strOf_len, List.length_append, List.length_replicate] : (((strOf (l ++ List.replicate (27 * manyL l - l.length) 0)).size : Nat) : Int) = ((l.length + (27 * manyL l - l.length) : Nat) : Int))) (by kernel_rfl) fun S => ?_
  refine sy_ops 2 S fun bs aa w S => ?_
  refine sy_cast 47 S (congrArg Value.bool (by rw [tmod27, decide_eq_true (by omega)]; rfl : (!decide (Int.tmod ((l.length + (27 * manyL l - l.length) : Nat) : Int) 27 = 0)) = false)) (by kernel_rfl) fun S => ?_
  refine sy_run ⟨0, [12]⟩ 60 S fun bs aa w S => ?_
  refine sy_reg S fun S => ?_
  refine sy_ops 2 S fun bs aa w S => ?_
  refine sy_cast 53 S (congrArg (Value.int .i64) (by rw [strOf_len, List.length_append, List.length_replicate]; omega : (((strOf (l ++ List.replicate (27 * manyL l - l.length) 0)).size : Nat) : Int) = ((27 * manyL l : Nat) : Int))) (by kernel_rfl) fun S => ?_
  refine sy_ops 1 S fun bs aa w S => ?_
  refine sy_cast 54 S (congrArg (Value.int .i64) (tdiv27 (manyL l) hm25 : IntKind.i64.wrap (Int.tdiv ((27 * manyL l : Nat) : Int) 27) = ((manyL l : Nat) : Int))) (by kernel_rfl) fun S => ?_
  refine sy_run ⟨0, []⟩ 60 S fun bs aa w S => ?_
  have S := S.add (rfOwn w0.heap.size 9 1 (.slice none 0 0) (0) (reS l (0))) (World.ownsRow_nil _ _ _ _) (fun i hi h => by cases h)
  have S2 := S.to [] (p3S (l ++ List.replicate (27 * manyL l - l.length) 0) (manyL l) (.slice none 0 0) 0) (by kernel_rfl) (by kernel_rfl) (by kernel_rfl) (by kernel_rfl) (by kernel_rfl)
  refine sy_loop (manyL l + 1) (by kernel_rfl) ?_
  refine sy_at2 (k' := (.rnd (manyL l + 1) (bodyL p3C) :: p3C.k.tail)) (by kernel_rfl) ?_
  exact p3_a w0 e hg hf hv l hL (manyL l) rfl (manyL l) 0 (by omega) (.slice none 0 0) aa w S2
set_option maxHeartbeats 8000000 in
theorem p2_s (w0 : World) (e : Et) (hg : e.ok) (hf : fitE e.ver e.ws) (hv : validB e.ver e.ws = true) (l : List Nat) (hL : l = payE e.ver e.ws) (m j : Nat) (hj : j < (27 * manyL l - l.length)) (ih : ∀ (aa : Act) (w : World) (S : Sy w0 [] [] (p2S l (j + 1)) [] aa w), post Try.prog (.rnd (m) (bodyL p2C) :: p2C.k.tail) (bodyPost Try.prog Try.f13 fun y w' => ∃ v, y = .returned v ∧ w'.ownsRow w0.heap.size 9 1 v (recE e.ver e.ws).length ((recE e.ver e.ws).map Value.string) ∧ Below w0.heap.size w0 w') .normal aa w) (aa : Act) (w : World) (S : Sy w0 [] [] (p2S l (j)) [] aa w) : post Try.prog (.rnd (m + 1) (bodyL p2C) :: p2C.k.tail) (bodyPost Try.prog Try.f13 fun y w' => ∃ v, y = .returned v ∧ w'.ownsRow w0.heap.size 9 1 v (recE e.ver e.ws).length ((recE e.ver e.ws).map Value.string) ∧ Below w0.heap.size w0 w') .normal aa w := by
  have hm25 : manyL l ≤ 25 := by rw [hL]; exact (recE_many hf hv).2
  have hlt : 27 * manyL l < l.length + 27 := by unfold manyL; omega
  refine sy_run (c := ⟨(.rnd (m + 1) (bodyL p2C) :: p2C.k.tail), p2S l j⟩) ⟨0, [10]⟩ 50 S fun bs aa w S => ?_
  refine sy_reg S fun S => ?_
  refine sy_ops 2 S fun bs aa w S => ?_
  refine sy_cast 45 S (congrArg (Value.int .i64) (by rw [strOf_len, List.length_append, List.length_replicate] : (((strOf (l ++ List.replicate j 0)).size : Nat) : Int) = ((l.length + j : Nat) : Int))) (by kernel_rfl) fun S => ?_
  refine sy_ops 2 S fun bs aa w S => ?_
  refine sy_cast 47 S (congrArg Value.bool (by rw [tmod27, decide_eq_false (by omega)]; rfl : (!decide (Int.tmod ((l.length + j : Nat) : Int) 27 = 0)) = true)) (by kernel_rfl) fun S => ?_
  refine sy_run ⟨0, [11]⟩ 60 S fun bs aa w S => ?_
  refine sy_reg S fun S => ?_
  refine sy_ops 2 S fun bs aa w S => ?_
  refine sy_nm S fun bs S => ?_
  have hbx := S.bx 0 ⟨5, [.int .u8 0]⟩ (by kernel_rfl)
  have hHB := hasB_box (o := 0) (c := 1) (l := [0]) hbx (fun j hj => by
    have hj1 : j < 1 := hj
    obtain rfl : j = 0 := by omega
    rfl) (show 1 ≤ 1 by decide) (by decide)
  refine sy_exW S (op := .convert 43 9 (.tmp 49)) (ty := 9) (v := .string (strOf [0])) (by kernel_rfl) (ex_bs (y := .s 0 0 1 1) (l := [0]) (by kernel_rfl) rfl (by intro b hb; simp only [List.mem_singleton] at hb; omega) hHB) fun aa S => ?_
  refine sy_ex (op := .binOp .add 9 (.tmp 48) (.tmp 50) 9) (ty := 9) (v := .string (strOf (l ++ List.replicate (j + 1) 0))) S (by kernel_rfl) (fun o ρ W g1 g2 g3 => by
    have h := ex_cat (P := Try.prog) (x := .tmp 48) (y := .tmp 50) (t := 9) (t' := 9) (ty := 9) (p := strOf (l ++ List.replicate j 0)) (q := strOf [0]) Try.underlying9 (by kernel_rfl) (by kernel_rfl) (by rw [strOf_len, strOf_len, List.length_append, List.length_replicate]; show _ + 1 ≤ _; omega) o ρ W g1 g2 g3
    rw [strOf_app, List.append_assoc, ← List.replicate_succ'] at h
    exact h) fun aa S => ?_
  refine sy_run ⟨0, [999]⟩ 60 S fun bs aa w S => ?_
  have S2 := S.to [] (p2S l (j + 1)) (by kernel_rfl) (by kernel_rfl) (by kernel_rfl) (by kernel_rfl) (by kernel_rfl)
  refine sy_at2 (k' := (.rnd (m) (bodyL p2C) :: p2C.k.tail)) (by kernel_rfl) ?_
  exact ih aa w S2
theorem p2_a (w0 : World) (e : Et) (hg : e.ok) (hf : fitE e.ver e.ws) (hv : validB e.ver e.ws = true) (l : List Nat) (hL : l = payE e.ver e.ws) : ∀ (r j : Nat), j + r = (27 * manyL l - l.length) → ∀ (aa : Act) (w : World) (S : Sy w0 [] [] (p2S l (j)) [] aa w), post Try.prog (.rnd (r + 1) (bodyL p2C) :: p2C.k.tail) (bodyPost Try.prog Try.f13 fun y w' => ∃ v, y = .returned v ∧ w'.ownsRow w0.heap.size 9 1 v (recE e.ver e.ws).length ((recE e.ver e.ws).map Value.string) ∧ Below w0.heap.size w0 w') .normal aa w := by
  intro r
  induction r with
  | zero => intro j hj aa w S; obtain rfl : j = (27 * manyL l - l.length) := by omega
            exact p2_e w0 e hg hf hv l hL 0 aa w S
  | succ r ih => intro j hj aa w S; exact p2_s w0 e hg hf hv l hL (r + 1) j (by omega) (ih (j + 1) (by omega)) aa w S
set_option maxHeartbeats 8000000 in
theorem p1_e (w0 : World) (e : Et) (hg : e.ok) (hf : fitE e.ver e.ws) (hv : validB e.ver e.ws = true) (m : Nat) (v : Value) (x0 : Nat) (aa : Act) (w : World) (S : Sy w0 [] [x0] (p1S e v (e.ws.length)) [rfWr e.b e.o e.ws, rfOwn w0.heap.size 3 1 v (1 + 2 * (e.ws.length)) ((numsE e.ver (e.ws.take (e.ws.length))).map (Value.int .i64))] aa w) : post Try.prog (.rnd (m + 1) (bodyL p1C) :: p1C.k.tail) (bodyPost Try.prog Try.f13 fun y w' => ∃ v, y = .returned v ∧ w'.ownsRow w0.heap.size 9 1 v (recE e.ver e.ws).length ((recE e.ver e.ws).map Value.string) ∧ Below w0.heap.size w0 w') .normal aa w := by
  have h32 := valid_len hv
  refine sy_run (c := ⟨(.rnd (m + 1) (bodyL p1C) :: p1C.k.tail), p1S e v e.ws.length⟩) ⟨0, [6]⟩ 50 S fun bs aa w S => ?_
  refine sy_reg S fun S => ?_
  refine sy_ops 5 S fun bs aa w S => ?_
  refine sy_cast 23 S (congrArg Value.bool (decide_eq_false (by omega) : decide ((e.ws.length : Int) < (e.ws.length : Int)) = false)) (by kernel_rfl) fun S => ?_
  refine sy_run ⟨0, [9]⟩ 60 S fun bs aa w S => ?_
  refine sy_reg S fun S => ?_
  refine sy_ops 1 S fun bs aa w S => ?_
  refine sy_nm S fun bs S => ?_
  have ho := S.fact (f := rfOwn w0.heap.size 3 1 v (1 + 2 * (e.ws.length)) ((numsE e.ver (e.ws.take (e.ws.length))).map (Value.int .i64))) (by simp)
  rw [List.take_length] at ho
  have eL : 1 + 2 * e.ws.length = (numsE e.ver e.ws).length := (numsE_len _ _).symm
  rw [eL] at ho
  have hI := hasInts_of_owns ho
  refine sy_call (X := Value) (val := id) (C := fun x w' => OwnB w' w.heap.size x (payE e.ver e.ws)) S (rnums_any v (numsE e.ver e.ws) (numsE_fit hf) (by rw [numsE_len]; omega) w hI) (by kernel_rfl) fun x aa w1 hC hb S => ?_
  obtain ⟨a, c, rfl, _⟩ := id (hasB_of_owns hC)
  refine sy_exW S (op := .convert 43 9 (.tmp 42)) (ty := 9) (v := .string (strOf (payE e.ver e.ws))) (by kernel_rfl) (ex_bs (y := .v (.slice a (payE e.ver e.ws).length c)) (by kernel_rfl) rfl (pay_byte _ _) (hasB_of_owns hC)) fun aa S => ?_
  refine sy_run ⟨0, []⟩ 60 S fun bs aa w S => ?_
  have S := S.sub (F' := []) (by intro f hf; cases hf)
  have e0 : payE e.ver e.ws = payE e.ver e.ws ++ List.replicate 0 0 := by simp
  have S := S.to [] (⟨99, [(6, .v (.string (strOf (payE e.ver e.ws))))], []⟩ : SS) (by kernel_rfl) (by kernel_rfl) (by kernel_rfl) (by kernel_rfl) (by kernel_rfl)
  have eS : (⟨99, [(6, .v (.string (strOf (payE e.ver e.ws))))], []⟩ : SS) = p2S (payE e.ver e.ws) 0 := by unfold p2S; rw [← e0]
  rw [eS] at S
  refine sy_loop (27 * manyL (payE e.ver e.ws) - (payE e.ver e.ws).length + 1) (by kernel_rfl) ?_
  refine sy_at2 (k' := (.rnd (27 * manyL (payE e.ver e.ws) - (payE e.ver e.ws).length + 1) (bodyL p2C) :: p2C.k.tail)) (by kernel_rfl) ?_
  exact p2_a w0 e hg hf hv (payE e.ver e.ws) rfl (27 * manyL (payE e.ver e.ws) - (payE e.ver e.ws).length) 0 (by omega) aa w S
set_option maxHeartbeats 8000000 in
theorem p1_s (w0 : World) (e : Et) (hg : e.ok) (hf : fitE e.ver e.ws) (hv : validB e.ver e.ws = true) (m j : Nat) (hj : j < e.ws.length) (hwb : e.b < w0.heap.size) (ih : ∀ (v : Value) (x0 : Nat) (aa : Act) (w : World) (S : Sy w0 [] [x0] (p1S e v (j + 1)) [rfWr e.b e.o e.ws, rfOwn w0.heap.size 3 1 v (1 + 2 * (j + 1)) ((numsE e.ver (e.ws.take (j + 1))).map (Value.int .i64))] aa w), post Try.prog (.rnd (m) (bodyL p1C) :: p1C.k.tail) (bodyPost Try.prog Try.f13 fun y w' => ∃ v, y = .returned v ∧ w'.ownsRow w0.heap.size 9 1 v (recE e.ver e.ws).length ((recE e.ver e.ws).map Value.string) ∧ Below w0.heap.size w0 w') .normal aa w) (v : Value) (x0 : Nat) (aa : Act) (w : World) (S : Sy w0 [] [x0] (p1S e v (j)) [rfWr e.b e.o e.ws, rfOwn w0.heap.size 3 1 v (1 + 2 * (j)) ((numsE e.ver (e.ws.take (j))).map (Value.int .i64))] aa w) : post Try.prog (.rnd (m + 1) (bodyL p1C) :: p1C.k.tail) (bodyPost Try.prog Try.f13 fun y w' => ∃ v, y = .returned v ∧ w'.ownsRow w0.heap.size 9 1 v (recE e.ver e.ws).length ((recE e.ver e.ws).map Value.string) ∧ Below w0.heap.size w0 w') .normal aa w := by
  have h32 := valid_len hv
  obtain ⟨ii, hi1, hi2, hi3, hi4⟩ := parts3 infI3
  refine sy_run (c := ⟨(.rnd (m + 1) (bodyL p1C) :: p1C.k.tail), p1S e v j⟩) ⟨0, [6]⟩ 50 S fun bs aa w S => ?_
  refine sy_reg S fun S => ?_
  refine sy_ops 5 S fun bs aa w S => ?_
  refine sy_cast 23 S (congrArg Value.bool (decide_eq_true (by omega) : decide ((j : Int) < (e.ws.length : Int)) = true)) (by kernel_rfl) fun S => ?_
  refine sy_run ⟨0, []⟩ 60 S fun bs aa w S => ?_
  letI : HF := ⟨[rfWr e.b e.o e.ws]⟩
  refine dr_enter [0] (by kernel_rfl) (by kernel_rfl) S (by kernel_rfl) (fun aa w D => ?_) (fun f hf => by have e1 : f = rfWr e.b e.o e.ws := List.mem_singleton.1 hf; subst e1; simp)
  refine dr_tix 4 D (by kernel_rfl) (by kernel_rfl) (by kernel_rfl) (b := e.b) (off := e.o) (len := e.ws.length) (n := j) (size := 2) (ix := (j : Int)) (by rw [← hg.resolve_left (by omega)]; kernel_rfl) rfl hj fun aa D => ?_
  refine dr_tld 6 D (by kernel_rfl) (by kernel_rfl) (by kernel_rfl) (ty := 3) (ad := ⟨e.b, e.o + j * 2, none⟩) (v := .int .i64 (e.ws.getD j (0, 0)).1) (fun W hW => ld_at (by kernel_rfl) ((show WrAt W e.b e.o e.ws from hW (rfWr e.b e.o e.ws) (by show _ ∈ [rfWr e.b e.o e.ws]; simp)) j hj).1) (by kernel_rfl) fun aa D => ?_
  refine dr_tix 10 D (by kernel_rfl) (by kernel_rfl) (by kernel_rfl) (b := e.b) (off := e.o) (len := e.ws.length) (n := j) (size := 2) (ix := (j : Int)) (by rw [← hg.resolve_left (by omega)]; kernel_rfl) rfl hj fun aa D => ?_
  refine dr_tld 12 D (by kernel_rfl) (by kernel_rfl) (by kernel_rfl) (ty := 3) (ad := ⟨e.b, e.o + j * 2 + 1, none⟩) (v := .int .i64 (e.ws.getD j (0, 0)).2) (fun W hW => ld_at (by kernel_rfl) ((show WrAt W e.b e.o e.ws from hW (rfWr e.b e.o e.ws) (by show _ ∈ [rfWr e.b e.o e.ws]; simp)) j hj).2) (by kernel_rfl) fun aa D => ?_
  refine dr_any [13] (by kernel_rfl) (by kernel_rfl) rfl (na1 ?_)
  · refine nx_op 13 D (by kernel_rfl) (Nat.le_refl _) (by kernel_rfl) (by kernel_rfl) fun bs aa w D hl => ?_
    refine dr_any [14] (by kernel_rfl) (by kernel_rfl) rfl (na1 ?_)
    · refine have hap := (D.S.fs (rfOwn w0.heap.size 3 1 v (1 + 2 * (j)) ((numsE e.ver (e.ws.take (j))).map (Value.int .i64))) (by simp)).2; have how := D.S.fact (f := rfOwn w0.heap.size 3 1 v (1 + 2 * (j)) ((numsE e.ver (e.ws.take (j))).map (Value.int .i64))) (by simp); nx_appQ 14 w0.heap.size [rfWr e.b e.o e.ws] D (by kernel_rfl) (u := .v v) (y := .s 1 0 2 2) (t := 49) (e := 3) (v := v) (n := 1 + 2 * j) (ad := adr _ 1 0) (m := 2) (cp := 2) (size := 1) (bytes := 8) (xs := (numsE e.ver (e.ws.take (j))).map (Value.int .i64)) (news := [.int .i64 (e.ws.getD j (0, 0)).1, .int .i64 (e.ws.getD j (0, 0)).2]) (by kernel_rfl) Try.underlying49 hi1 hi2 hi3 hi4 rfl (by omega) rfl rfl how D.S.gr.size (own3 (P := Try.prog) (ty := 3) (cs := [.int .i64 (e.ws.getD j (0, 0)).1, .int .i64 (e.ws.getD j (0, 0)).2]) D.S 1 (by kernel_rfl)) rfl (by intro u hu; simp only [List.mem_cons, List.not_mem_nil, or_false] at hu; rcases hu with rfl | rfl <;> rfl) (by simp only [maxLen]; omega) (by omega) (fun g hg => Or.inr (how.lt g hg).1) (fun f hf => ⟨by simp only [List.mem_singleton] at hf; subst hf; simp, by simp only [List.mem_singleton] at hf; subst hf; exact fun g hg hb => by have := (how.lt g hg).1; have := hb.1; omega⟩) (fun f hf => by have e1 : f = rfWr e.b e.o e.ws := List.mem_singleton.1 hf; subst e1; simp) (fun jj hjj hb => hap jj hjj hb) fun va vc aa w2 hO hg hnn hlt D => have D := D.addF (rfOwn w0.heap.size 3 1 (.slice va (1 + 2 * j + 2) vc) (1 + 2 * (j + 1)) ((numsE e.ver (e.ws.take (j + 1))).map (Value.int .i64))) (by rw [nums_succ e.ver e.ws j hj]; exact hO) (fun jj hjj hb => (hnn _ hb).elim (fun q => hap jj hjj q) (fun q => by have := hlt jj hjj; omega)); ?_
      refine dr_end D (by kernel_rfl) fun S => ?_
      refine sy_run ⟨0, [7]⟩ 60 S fun bs aa w S => ?_
      refine sy_reg S fun S => ?_
      refine sy_ops 2 S fun bs aa w S => ?_
      refine sy_cast 25 S (congrArg (Value.int .i64) (by rw [IntKind.wrap_i64]; omega : IntKind.i64.wrap ((j : Int) + 1) = ((j + 1 : Nat) : Int))) (by kernel_rfl) fun S => ?_
      refine sy_run ⟨0, [999]⟩ 50 S fun bs aa w S => ?_
      have S := S.sub (F' := [rfWr e.b e.o e.ws, rfOwn w0.heap.size 3 1 (.slice va (1 + 2 * j + 2) vc) (1 + 2 * (j + 1)) ((numsE e.ver (e.ws.take (j + 1))).map (Value.int .i64))]) (by intro f hf; simp only [List.mem_cons, List.not_mem_nil, or_false] at hf; rcases hf with rfl | rfl <;> simp)
      have S2 := S.to [0] (p1S e (.slice va (1 + 2 * j + 2) vc) (j + 1)) (by kernel_rfl) (by kernel_rfl) (by kernel_rfl) (by kernel_rfl) (by kernel_rfl)
      refine sy_at2 (k' := (.rnd (m) (bodyL p1C) :: p1C.k.tail)) (by kernel_rfl) ?_
      exact ih (.slice va (1 + 2 * j + 2) vc) _ aa w S2
theorem p1_a (w0 : World) (e : Et) (hg : e.ok) (hf : fitE e.ver e.ws) (hv : validB e.ver e.ws = true) (hwb : e.ws.length = 0 ∨ e.b < w0.heap.size) : ∀ (r j : Nat), j + r = e.ws.length → ∀ (v : Value) (x0 : Nat) (aa : Act) (w : World) (S : Sy w0 [] [x0] (p1S e v (j)) [rfWr e.b e.o e.ws, rfOwn w0.heap.size 3 1 v (1 + 2 * (j)) ((numsE e.ver (e.ws.take (j))).map (Value.int .i64))] aa w), post Try.prog (.rnd (r + 1) (bodyL p1C) :: p1C.k.tail) (bodyPost Try.prog Try.f13 fun y w' => ∃ v, y = .returned v ∧ w'.ownsRow w0.heap.size 9 1 v (recE e.ver e.ws).length ((recE e.ver e.ws).map Value.string) ∧ Below w0.heap.size w0 w') .normal aa w := by
  intro r
  induction r with
  | zero => intro j hj v x0 aa w S; obtain rfl : j = e.ws.length := by omega
            exact p1_e w0 e hg hf hv 0 v x0 aa w S
  | succ r ih => intro j hj v x0 aa w S; exact p1_s w0 e hg hf hv (r + 1) j (by omega) (hwb.resolve_left (by omega)) (fun v => ih (j + 1) (by omega) v) v x0 aa w S
set_option maxHeartbeats 8000000 in
theorem rrecord_e (w0 : World) (e : Et) (hg : e.ok) (hf : fitE e.ver e.ws) (hA : WrAt w0 e.b e.o e.ws) : Calls Try.prog 13 #[e.v] w0 fun y w' => ∃ v, y = .returned v ∧ w'.ownsRow w0.heap.size 9 1 v (recE e.ver e.ws).length ((recE e.ver e.ws).map Value.string) ∧ Below w0.heap.size w0 w' := by
  have hwb : e.ws.length = 0 ∨ e.b < w0.heap.size := by
    by_cases h : e.ws.length = 0
    · exact Or.inl h
    · exact Or.inr ((rfWr e.b e.o e.ws).lt w0 hA e.b ⟨rfl, h⟩)
  refine sy_enterF [] [rfWr e.b e.o e.ws] (by intro f hf; simp only [List.mem_singleton] at hf; subst hf; exact hA) Try.func13 rfl rfl fun aa S => ?_
  refine sy_run ⟨0, [1]⟩ 60 S fun bs aa w S => ?_
  refine sy_reg S fun S => ?_
  refine sy_ops 1 S fun bs aa w S => ?_
  refine sy_call1 S (rvalid_e w e hg (S.fact (f := rfWr e.b e.o e.ws) (by simp))) (by kernel_rfl) fun aa w hb S => ?_
  rcases Bool.eq_false_or_eq_true (validB e.ver e.ws) with hv | hv
  rotate_left
  · refine sy_cast 13 S (congrArg Value.bool hv) (by kernel_rfl) fun S => ?_
    refine sy_run ⟨0, []⟩ 60 S fun bs aa w S => ?_
    exact sy_ret S (by kernel_rfl) (by kernel_rfl) fun hg => ⟨_, rfl, by rw [recE_bad hv]; exact World.ownsRow_nil _ _ _ _, bel_gr hg⟩
  · refine sy_cast 13 S (congrArg Value.bool hv) (by kernel_rfl) fun S => ?_
    refine sy_run ⟨0, []⟩ 60 S fun bs aa w S => ?_
    refine sy_nm S fun bs S => ?_
    have hbx := S.bx 1 ⟨3, [.int .i64 e.ver]⟩ (by kernel_rfl)
    have hgs : w0.heap.size ≤ bs.getD 1 0 := S.lo0 1 (by rw [S.bl]; exact Nat.le_of_ble_eq_true (by kernel_rfl))
    have hl0 : 0 < bs.length := by rw [S.bl]; exact Nat.le_of_ble_eq_true (by kernel_rfl)
    have hl1 : 1 < bs.length := by rw [S.bl]; exact Nat.le_of_ble_eq_true (by kernel_rfl)
    have hnd := S.nd 0 1 hl0 hl1
    have S := S.plain 4 (x := .s 1 0 1 1) (by kernel_rfl)
    have S2 := S.to [0] (p1S e (.slice (some ⟨bs.getD 1 0, 0, none⟩) 1 1) 0) (by kernel_rfl) (by kernel_rfl) (by kernel_rfl) (by kernel_rfl) (by kernel_rfl)
    have S2 := S2.add (rfOwn w0.heap.size 3 1 (.slice (some ⟨bs.getD 1 0, 0, none⟩) 1 1) (1 + 2 * (0)) ((numsE e.ver (e.ws.take (0))).map (Value.int .i64))) (owns_row hbx rfl hgs (by decide)) (fun j hj hb => by
      simp only [List.map_cons, List.map_nil, List.length_cons, List.length_nil] at hj
      obtain rfl : j = 0 := by omega
      have hb2 : some (bs.getD 1 0) = some (bs.getD 0 0) := hb
      simp only [Option.some.injEq] at hb2
      exact absurd (hnd hb2.symm) (by decide))
    have S2 := S2.sub (F' := [rfWr e.b e.o e.ws, rfOwn w0.heap.size 3 1 (.slice (some ⟨bs.getD 1 0, 0, none⟩) 1 1) (1 + 2 * (0)) ((numsE e.ver (e.ws.take (0))).map (Value.int .i64))]) (by intro f hf; simp only [List.mem_cons, List.not_mem_nil, or_false] at hf; rcases hf with rfl | rfl <;> simp)
    refine sy_loop (e.ws.length + 1) (by kernel_rfl) ?_
    refine sy_at2 (k' := (.rnd (e.ws.length + 1) (bodyL p1C) :: p1C.k.tail)) (by kernel_rfl) ?_
    exact p1_a w0 e hg hf hv hwb e.ws.length 0 (by omega) _ _ aa w S2
end Go.Proofs.Ytaclhiagfgmgkaa


/-
  Layer 23: WalRecord.
-/
namespace Go.Proofs.Ytaclhiagfgmgkaa
open Go Go.RowKit SZ
set_option linter.unusedVariables false
set_option linter.unusedSimpArgs false
set_option maxRecDepth 100000
attribute [local irreducible] post GD Nxt NxtAll
theorem rrecord_s (w : World) (e : Et) (hg : e.ok) (hf : fitE e.ver e.ws) (hA : WrAt w e.b e.o e.ws) : Calls Try.prog 13 #[e.v] w fun y w' => ∃ s : Sr, y = .returned s.v ∧ (s.l = recE e.ver e.ws ∧ s.ok ∧ s.at w' ∧ s.l.length ≤ s.c ∧ (s.l.length = 0 ∨ w.heap.size ≤ s.b)) ∧ Below w.heap.size w w' := (rrecord_e w e hg hf hA).mono fun y w' ⟨v, h1, h2, h3⟩ => by
  obtain ⟨s, q1, q2, q3, q4, q5, q6⟩ := sr_of_owns h2
  exact ⟨s, by rw [h1, q2], ⟨q1, q3, q4, q5, by rw [q1]; exact q6⟩, h3⟩
set_option maxHeartbeats 8000000 in
theorem wrec (w0 : World) (e : Et) (hok : e.ok) (hf : fitE e.ver e.ws) (hwr : WrAt w0 e.b e.o e.ws) (b : ByteArray) : Calls Try.prog 3 #[e.v, .string b] w0 fun y w' => y = .returned (.bool true) ∧ Below w0.heap.size w0 w' := by
  have h25 := rec_len25 hf
  refine sy_enterF [] [rfWr e.b e.o e.ws] (by intro f hf; simp only [List.mem_singleton] at hf; subst hf; exact hwr) Try.func3 rfl rfl fun aa S => ?_
  refine sy_run ⟨0, [1]⟩ 60 S fun bs aa w S => ?_
  refine sy_reg S fun S => ?_
  refine sy_call1 S (sane23 w) (by kernel_rfl) fun aa w hb S => ?_
  refine sy_run ⟨0, [2]⟩ 60 S fun bs aa w S => ?_
  refine sy_reg S fun S => ?_
  refine sy_ops 1 S fun bs aa w S => ?_
  refine sy_call1 S (short_w w e) (by kernel_rfl) fun aa w hb S => ?_
  by_cases h40 : e.ws.length ≤ 40
  case neg =>
    refine sy_cast 8 S (congrArg Value.bool (decide_eq_false h40)) (by kernel_rfl) fun S => ?_
    refine sy_run ⟨0, []⟩ 60 S fun bs aa w S => ?_
    exact sy_ret S (by kernel_rfl) (by kernel_rfl) fun hg => ⟨rfl, bel_gr hg⟩
  refine sy_cast 8 S (congrArg Value.bool (decide_eq_true h40)) (by kernel_rfl) fun S => ?_
  refine sy_ops 5 S fun bs aa w S => ?_
  by_cases h500 : b.size ≤ 500
  case neg =>
    refine sy_cast 13 S (congrArg Value.bool (decide_eq_true (by omega) : decide ((b.size : Int) > 500) = true)) (by kernel_rfl) fun S => ?_
    refine sy_run ⟨0, []⟩ 60 S fun bs aa w S => ?_
    exact sy_ret S (by kernel_rfl) (by kernel_rfl) fun hg => ⟨rfl, bel_gr hg⟩
  refine sy_cast 13 S (congrArg Value.bool (decide_eq_false (by omega) : decide ((b.size : Int) > 500) = false)) (by kernel_rfl) fun S => ?_
  have hbs : b.size ≤ maxLen := by simp only [maxLen]; omega
  refine sy_run ⟨0, []⟩ 60 S fun bs aa w S => ?_
  letI : KP := ⟨[29]⟩
  letI : HF := ⟨[]⟩
  refine dr_enter [0] (by kernel_rfl) (by kernel_rfl) S (by kernel_rfl) (fun aa w D => ?_) (fun f hf => by cases hf)
  refine dr_any [3] (by kernel_rfl) (by kernel_rfl) rfl (na1 ?_)
  · refine have hlt1 := fun j hj => D.S.lt (i := j) hj; nx_call 3 D (by kernel_rfl) (X := Sr) (val := Sr.v) (C := fun s w' => s.l = recE e.ver e.ws ∧ s.ok ∧ s.at w' ∧ s.l.length ≤ s.c ∧ (s.l.length = 0 ∨ _ ≤ s.b)) (f := 12) (args := #[e.v]) (record_s _ e hok hf (D.S.fact (f := rfWr e.b e.o e.ws) (by simp))) (by kernel_rfl) fun s1 aa w hC1 hb1 D => have D := D.addF (rfSt s1.b s1.o s1.l) hC1.2.2.1 (fun j hj hb => by obtain ⟨q1, q2⟩ := hb; have := hlt1 j hj; have := hC1.2.2.2.2.resolve_left q2; omega); ?_
    refine dr_any [5] (by kernel_rfl) (by kernel_rfl) rfl (na1 ?_)
    · refine have hlt2 := fun j hj => D.S.lt (i := j) hj; nx_call 5 D (by kernel_rfl) (X := Sr) (val := Sr.v) (C := fun s w' => s.l = recE e.ver e.ws ∧ s.ok ∧ s.at w' ∧ s.l.length ≤ s.c ∧ (s.l.length = 0 ∨ _ ≤ s.b)) (f := 13) (args := #[e.v]) (rrecord_s _ e hok hf (D.S.fact (f := rfWr e.b e.o e.ws) (by simp))) (by kernel_rfl) fun s2 aa w hC2 hb2 D => have D := D.addF (rfSt s2.b s2.o s2.l) hC2.2.2.1 (fun j hj hb => by obtain ⟨q1, q2⟩ := hb; have := hlt2 j hj; have := hC2.2.2.2.2.resolve_left q2; omega); ?_
      refine dr_any [6] (by kernel_rfl) (by kernel_rfl) rfl (na1 ?_)
      · refine nx_call1 6 D (by kernel_rfl) (v := .bool true) (f := 11) (args := #[s1.v, s2.v]) (by have h := texts_t _ s1 s2 hC1.2.1 hC2.2.1 (by rw [hC1.1]; omega) (D.S.fact (f := rfSt s1.b s1.o s1.l) (by simp)) (D.S.fact (f := rfSt s2.b s2.o s2.l) (by simp)); rw [decide_eq_true (hC1.1.trans hC2.1.symm)] at h; exact h) (by kernel_rfl) fun aa w D => ?_
        refine dr_any [10] (by kernel_rfl) (by kernel_rfl) rfl (na1 ?_)
        · refine nx_call1 10 D (by kernel_rfl) (wsum_t _ b hbs) (by kernel_rfl) fun aa w D => ?_
          refine dr_any [12] (by kernel_rfl) (by kernel_rfl) rfl (na1 ?_)
          · refine nx_call1 12 D (by kernel_rfl) (rsum_t _ b hbs) (by kernel_rfl) fun aa w D => ?_
            refine dr_any [13] (by kernel_rfl) (by kernel_rfl) rfl (na1 ?_)
            · refine nx_ex 13 (op := .binOp .eql 3 (.tmp 26) (.tmp 28) 3) (ty := 4) (v := .bool true) D (by kernel_rfl) (by kernel_rfl) (ex_eqI (ki := .i64) (p := (adler (bytesOf b) : Int)) (q := (adler (bytesOf b) : Int)) (by kernel_rfl) (by kernel_rfl) (decide_eq_true rfl)) fun aa D => ?_
              refine dr_end D (by kernel_rfl) fun S => ?_
              refine sy_run ⟨0, []⟩ 60 S fun bs aa w S => ?_
              exact sy_ret S (by kernel_rfl) (by kernel_rfl) fun hg => ⟨rfl, bel_gr hg⟩
end Go.Proofs.Ytaclhiagfgmgkaa
