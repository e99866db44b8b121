/-
  Merged: WlN, WlV, WlR, WlT, WlQ, WlP, WlU
-/
import Derived.Test.YtaclhiagfgmgkaaRows
import Derived.Test.YtaclhiagfgmgkaaPr2
import Derived.Test.YtaclhiagfgmgkaaPr13
import Derived.Test.YtaclhiagfgmgkaaPr14
import Derived.WalkKit
import Derived.Test.YtaclhiagfgmgkaaPr11
namespace Go.Proofs.Ytaclhiagfgmgkaa
open Go Go.RowKit SZ
set_option linter.unusedVariables false
set_option linter.unusedSectionVars false
set_option linter.unusedSimpArgs false
set_option maxRecDepth 100000
attribute [local irreducible] post GD Nxt NxtAll
theorem record_s (w : World) (e : Et) (hg : e.ok) (hf : fitE e.ver e.ws) (hA : WrAt w e.b e.o e.ws) : Calls Try.prog 12 #[e.v] w fun y w' => ∃ s : Sr, y = .returned s.v ∧ (s.l = recE e.ver e.ws ∧ s.ok ∧ s.at w' ∧ s.l.length ≤ s.c ∧ (s.l.length = 0 ∨ w.heap.size ≤ s.b)) ∧ Below w.heap.size w w' := (record_e w e hg hf hA).mono fun y w' ⟨v, h1, h2, h3⟩ => by
  obtain ⟨s, q1, q2, q3, q4, q5, q6⟩ := sr_of_owns h2
  exact ⟨s, by rw [h1, q2], ⟨q1, q3, q4, q5, by rw [q1]; exact q6⟩, h3⟩
theorem rec_len25 {e : Et} (hf : fitE e.ver e.ws) : (recE e.ver e.ws).length ≤ 25 := by
  cases hv : validB e.ver e.ws with
  | false => rw [recE_bad hv]; exact Nat.zero_le _
  | true => rw [recE_valid hv, recL_len]; exact (recE_many hf hv).2
end Go.Proofs.Ytaclhiagfgmgkaa

namespace Go.Proofs.Ytaclhiagfgmgkaa
open Go Go.RowKit SZ
set_option linter.unusedVariables false
set_option linter.unusedSectionVars false
set_option linter.unusedSimpArgs false
set_option maxRecDepth 100000
attribute [local irreducible] post GD Nxt NxtAll
def esV (es : List Et) : List Value := es.flatMap fun e => [.int .i64 e.ver, .slice e.a e.ws.length e.c]
theorem esV_snoc (es : List Et) (e : Et) : esV (es ++ [e]) = esV es ++ [.int .i64 e.ver, .slice e.a e.ws.length e.c] := by simp [esV]
def prE (e : Et) : Int × Ws := (e.ver, e.ws)
def rfEl (es : List Et) : RF := ⟨fun b => ∃ e ∈ es, b = e.b ∧ e.ws.length ≠ 0, fun w => ∀ e ∈ es, WrAt w e.b e.o e.ws, fun w h b hb => by
  obtain ⟨e, he, rfl, hl⟩ := hb
  exact (rfWr e.b e.o e.ws).lt w (h e he) e.b ⟨rfl, hl⟩, fun w w' h hb e he => (rfWr e.b e.o e.ws).st w w' (h e he) fun b hq => hb b ⟨e, he, hq.1, hq.2⟩⟩
def recS : Nat → (List ByteArray) → Nat → Int → List (Int × Ws) × Nat
  | 0, _, k, _ => ([], k)
  | f + 1, l, k, last => match parseS l k with
    | none => ([], k)
    | some (v, ws, n) => if v ≤ last then ([], k) else ((v, ws) :: (recS f l (k + n) v).1, (recS f l (k + n) v).2)
theorem recS_none {f : Nat} {l : (List ByteArray)} {k : Nat} {last : Int} (h : parseS l k = none) : recS (f + 1) l k last = ([], k) := by unfold recS; rw [h]
section
variable {f : Nat} {l : (List ByteArray)} {k n : Nat} {v last : Int} {ws : Ws} (h : parseS l k = some (v, ws, n))
include f l k n v last ws h
theorem recS_old (hv : v ≤ last) : recS (f + 1) l k last = ([], k) := by unfold recS; rw [h]; exact if_pos hv
theorem recS_some (hv : ¬v ≤ last) : recS (f + 1) l k last = ((v, ws) :: (recS f l (k + n) v).1, (recS f l (k + n) v).2) := by
  conv => lhs; unfold recS
  rw [h]
  exact if_neg hv
end
def recP (w0 : World) (R : List (Int × Ws) × Nat) (y : Ending) (w' : World) : Prop := Below w0.heap.size w0 w' ∧ ∃ (es : List Et) (v : Value), y = .returned (.tuple #[v, .int .i64 (R.2 : Int)]) ∧ es.map prE = R.1 ∧ w'.ownsRow w0.heap.size 24 2 v es.length (esV es) ∧ (∀ e ∈ es, e.ok ∧ fitE e.ver e.ws ∧ (e.ws.length = 0 ∨ w0.heap.size ≤ e.b)) ∧ ∀ e ∈ es, WrAt w' e.b e.o e.ws
noncomputable def rcC : Cfg := ⟨goZ 60 [] [.code (bodyOf Try.f19)], ⟨0, [], []⟩⟩
noncomputable def rcS (x : Sr) (ev : Value) (k : Nat) (last : Int) : SS := ⟨36, [(0, .v x.v), (4, .v ev), (5, .v (.int .i64 (k : Int))), (6, .v (.int .i64 last))], []⟩
theorem enI : (Try.prog.info? 24).map (fun i => (i.zero, i.size, i.bytes)) = some (some (.agg #[.int .i64 0, .slice none 0 0]), 2, 32) := by kernel_rfl
theorem parA_nat (l : (List ByteArray)) (k : Nat) : parA l (k : Int) = parseS l k := by unfold parA; rw [if_neg (by omega), Int.toNat_natCast]
theorem ap_ny {F : List RF} {w : World} {v v' : Value} (hF : ∀ f ∈ F, f.P w) (hap : ∀ f ∈ F, ∀ g, v.ownBlock = some g → ¬f.bl g) (hnn : ∀ g, v'.ownBlock = some g → v.ownBlock = some g ∨ w.heap.size ≤ g) : ∀ f ∈ F, ∀ g, v'.ownBlock = some g → ¬f.bl g := fun f hf g hg hb => (hnn g hg).elim (fun q => hap f hf g q hb) (fun q => by have := f.lt w (hF f hf) g hb; omega)
set_option maxHeartbeats 8000000 in
theorem rc_s (w0 : World) (x : Sr) (hx : x.ok) (hc : x.l.length ≤ x.c) (hl : x.l.length ≤ 1000) (R : List (Int × Ws) × Nat) (f k : Nat) (hk : k ≤ x.l.length) (ih : ∀ (es : List Et) (ev : Value) (k : Nat) (last : Int) (hk : k ≤ x.l.length ∧ x.l.length - k < f) (hes : ∀ e ∈ es, e.ok ∧ fitE e.ver e.ws ∧ (e.ws.length = 0 ∨ w0.heap.size ≤ e.b)) (hel : (es).length ≤ k) (hap : (∀ f ∈ [rfSt x.b x.o x.l, rfEl (es)], ∀ g, Value.ownBlock ev = some g → ¬f.bl g)) (hR : (es).map prE ++ (recS (f) x.l (k) last).1 = R.1 ∧ (recS (f) x.l (k) last).2 = R.2) (aa : Act) (w : World) (S : Sy w0 [] [] (rcS x ev (k) last) [rfSt x.b x.o x.l, rfEl (es), rfOwn w0.heap.size 24 2 ev (es).length (esV (es))] aa w), post Try.prog (.rnd (f) (bodyL rcC) :: rcC.k.tail) (bodyPost Try.prog Try.f19 (recP w0 R)) .normal aa w) (hfu : x.l.length - k < f + 1) (es : List Et) (ev : Value) (last : Int) (hes : ∀ e ∈ es, e.ok ∧ fitE e.ver e.ws ∧ (e.ws.length = 0 ∨ w0.heap.size ≤ e.b)) (hel : (es).length ≤ k) (hap : (∀ f ∈ [rfSt x.b x.o x.l, rfEl (es)], ∀ g, Value.ownBlock ev = some g → ¬f.bl g)) (hR : (es).map prE ++ (recS (f + 1) x.l (k) last).1 = R.1 ∧ (recS (f + 1) x.l (k) last).2 = R.2) (aa : Act) (w : World) (S : Sy w0 [] [] (rcS x ev (k) last) [rfSt x.b x.o x.l, rfEl (es), rfOwn w0.heap.size 24 2 ev (es).length (esV (es))] aa w) : post Try.prog (.rnd (f + 1) (bodyL rcC) :: rcC.k.tail) (bodyPost Try.prog Try.f19 (recP w0 R)) .normal aa w := by
  obtain ⟨ii, hi1, hi2, hi3, hi4⟩ := parts3 enI
  refine sy_run (c := ⟨(.rnd (f + 1) (bodyL rcC) :: rcC.k.tail), rcS x ev k last⟩) ⟨0, [3]⟩ 50 S fun bs aa w S => ?_
  refine sy_reg S fun S => ?_
  refine sy_ops 2 S fun bs aa w S => ?_
  refine sy_nm S fun bs S => ?_
  have hpar := parse_t w x.l x.a x.c x.b x.o hx hc hl (k : Int) (S.fact (f := rfSt x.b x.o x.l) (by simp))
  rw [parA_nat] at hpar
  have hblk : ∀ j, j < bs.length → bs.getD j 0 < w.heap.size := fun j hj => S.lt hj
  have hgs0 := S.gr.size
  have how0 := S.fact (f := rfOwn w0.heap.size 24 2 ev (es).length (esV (es))) (by simp)
  rcases hp : parseS x.l k with _ | ⟨v, ws, n⟩
  · rw [recS_none hp] at hR
    refine sy_call1 S (args := #[x.v, .int .i64 (k : Int)]) (hpar.mono fun y w' h => ⟨by have h2 := h.2; rw [hp] at h2; exact h2, h.1⟩) (by kernel_rfl) fun aa w hb S => ?_
    refine sy_run ⟨0, []⟩ 60 S fun bs aa w S => ?_
    have how := S.fact (f := rfOwn w0.heap.size 24 2 ev (es).length (esV (es))) (by simp)
    have hew := S.fact (f := rfEl es) (by simp)
    exact sy_ret S (by kernel_rfl) (by kernel_rfl) fun hg => ⟨bel_gr hg, es, ev, by rw [← hR.2], by rw [← hR.1, List.append_nil], how, hes, hew⟩
  · obtain ⟨hfit, hvv, hn, hn1, hkl, hnl, htk⟩ := parse_rec hp
    refine sy_call S (X := Et) (val := fun e => .tuple #[e.v, .int .i64 (n : Int), .int .i64 0]) (C := fun e w' => e.ver = v ∧ e.ws = ws ∧ e.ok ∧ WrAt w' e.b e.o e.ws ∧ (e.ws.length = 0 ∨ w.heap.size ≤ e.b)) (args := #[x.v, .int .i64 (k : Int)]) (hpar.mono fun y w' h => by
      have h2 := h.2
      rw [hp] at h2
      obtain ⟨e, q1, q2, q3, q4, q5, q6⟩ := h2
      exact ⟨e, q4, ⟨q1, q2, q3, q5, q6⟩, h.1⟩) (by kernel_rfl) fun e aa w1 hC hb S => ?_
    obtain ⟨rfl, rfl, hok, hwr, hfr⟩ := hC
    have S := S.add (rfWr e.b e.o e.ws) hwr (fun i hi hb => by
      obtain ⟨q1, q2⟩ := hb
      have := hblk i hi
      have := hfr.resolve_left q2
      omega)
    refine sy_run ⟨0, [4]⟩ 60 S fun bs aa w S => ?_
    refine sy_reg S fun S => ?_
    refine sy_ops 7 S fun bs aa w S => ?_
    by_cases hle : e.ver ≤ last
    · rw [recS_old hp hle] at hR
      refine sy_cast 23 S (congrArg Value.bool (decide_eq_true hle)) (by kernel_rfl) fun S => ?_
      refine sy_run ⟨0, []⟩ 60 S fun bs aa w S => ?_
      have how := S.fact (f := rfOwn w0.heap.size 24 2 ev (es).length (esV (es))) (by simp)
      have hew := S.fact (f := rfEl es) (by simp)
      exact sy_ret S (by kernel_rfl) (by kernel_rfl) fun hg => ⟨bel_gr hg, es, ev, by rw [← hR.2], by rw [← hR.1, List.append_nil], how, hes, hew⟩
    · rw [recS_some hp hle] at hR
      refine sy_cast 23 S (congrArg Value.bool (decide_eq_false hle)) (by kernel_rfl) fun S => ?_
      refine sy_run ⟨0, [6]⟩ 60 S fun bs aa w S => ?_
      refine sy_reg S fun S => ?_
      refine sy_ops 3 S fun bs aa w S => ?_
      refine sy_nm S fun bs S => ?_
      have how := S.fact (f := rfOwn w0.heap.size 24 2 ev (es).length (esV (es))) (by simp)
      have hapb := (S.fs (rfOwn w0.heap.size 24 2 ev (es).length (esV (es))) (by simp)).2
      have hblk2 : ∀ j, j < bs.length → bs.getD j 0 < w.heap.size := fun j hj => S.lt hj
      have hFP : ∀ f ∈ [rfWr e.b e.o e.ws, rfSt x.b x.o x.l, rfEl es], f.P w := fun f hf => (S.fs f (by simp only [List.mem_cons, List.not_mem_nil, or_false] at hf ⊢; rcases hf with rfl | rfl | rfl <;> simp)).1
      have hap3 : ∀ f ∈ [rfWr e.b e.o e.ws, rfSt x.b x.o x.l, rfEl es], ∀ g, ev.ownBlock = some g → ¬f.bl g := by
        intro f hf g hg hb
        rcases List.mem_cons.1 hf with rfl | hf
        · have q1 := (how0.lt g hg).2
          have q2 := hfr.resolve_left hb.2
          have q3 := hb.1
          omega
        · exact hap f hf g hg hb
      have hel2 : es.length ≤ 1000 := by omega
      refine sy_appO w0.heap.size (u := .v ev) (y := .s 1 0 1 1) (v := ev) (ad := adr bs 1 0) (m := 1) (cp := 1) (n := es.length) (size := 2) (bytes := 32) (e := 24) (t := 36) (xs := esV es) (news := [.int .i64 e.ver, .slice e.a e.ws.length e.c]) [rfWr e.b e.o e.ws, rfSt x.b x.o x.l, rfEl es] S (by kernel_rfl) Try.underlying36 hi1 hi2 hi3 hi4 rfl (by omega) rfl rfl how S.gr.size (own3 (P := Try.prog) (ty := 24) (cs := [.int .i64 e.ver, .slice e.a e.ws.length e.c]) S 1 (by kernel_rfl)) rfl (by intro u hu; simp only [List.mem_cons, List.not_mem_nil, or_false] at hu; rcases hu with rfl | rfl <;> rfl) (by simp only [maxLen]; omega) (by omega)
        (fun g hg => Or.inr (how.lt g hg).1) (fun f hf => ⟨by simp only [List.mem_cons, List.not_mem_nil, or_false] at hf ⊢; rcases hf with rfl | rfl | rfl <;> simp, hap3 f hf⟩) (fun j hj hb => hapb j hj hb)
        fun v' aa w2 hO hg' hnn S => ?_
      have hap4 := ap_ny hFP hap3 hnn
      have S := S.add (rfOwn w0.heap.size 24 2 v' (es ++ [e]).length (esV (es ++ [e]))) (by rw [esV_snoc, List.length_append]; exact hO) (fun j hj hb => (hnn _ hb).elim (fun q => hapb j hj q) (fun q => by have := hblk2 j hj; omega))
      have hw1 := S.fact (f := rfWr e.b e.o e.ws) (by simp)
      have hw2 := S.fact (f := rfEl es) (by simp)
      have ha1 := (S.fs (rfWr e.b e.o e.ws) (by simp)).2
      have ha2 := (S.fs (rfEl es) (by simp)).2
      have S := S.add (rfEl (es ++ [e])) (by
        intro q hq
        rcases List.mem_append.1 hq with hq | hq
        · exact hw2 q hq
        · obtain rfl := List.mem_singleton.1 hq
          exact hw1) (fun j hj hb => by
        obtain ⟨q, hq, q1, q2⟩ := hb
        rcases List.mem_append.1 hq with hq | hq
        · exact ha2 j hj ⟨q, hq, q1, q2⟩
        · obtain rfl := List.mem_singleton.1 hq
          exact ha1 j hj ⟨q1, q2⟩)
      have hap5 : (∀ f ∈ [rfSt x.b x.o x.l, rfEl (es ++ [e])], ∀ g, Value.ownBlock v' = some g → ¬f.bl g) := by
        intro f hf g hg hb
        simp only [List.mem_cons, List.not_mem_nil, or_false] at hf
        rcases hf with rfl | rfl
        · exact hap4 _ (by simp) g hg hb
        · obtain ⟨q, hq, q1, q2⟩ := hb
          rcases List.mem_append.1 hq with hq | hq
          · exact hap4 (rfEl es) (by simp) g hg ⟨q, hq, q1, q2⟩
          · obtain rfl := List.mem_singleton.1 hq
            exact hap4 (rfWr q.b q.o q.ws) (by simp) g hg ⟨q1, q2⟩
      refine sy_run ⟨0, [7]⟩ 60 S fun bs aa w S => ?_
      refine sy_reg S fun S => ?_
      refine sy_ops 3 S fun bs aa w S => ?_
      refine sy_cast 33 S (congrArg (Value.int .i64) (by rw [IntKind.wrap_i64]; omega : IntKind.i64.wrap ((k : Int) + (n : Int)) = ((k + n : Nat) : Int))) (by kernel_rfl) fun S => ?_
      refine sy_run ⟨0, [999]⟩ 60 S fun bs aa w S => ?_
      have S := S.sub (F' := [rfSt x.b x.o x.l, rfEl (es ++ [e]), rfOwn w0.heap.size 24 2 v' (es ++ [e]).length (esV (es ++ [e]))]) (by intro f hf; simp only [List.mem_cons, List.not_mem_nil, or_false] at hf; rcases hf with rfl | rfl | rfl <;> simp)
      have S2 := S.to [] (rcS x v' (k + n) e.ver) (by kernel_rfl) (by kernel_rfl) (by kernel_rfl) (by kernel_rfl) (by kernel_rfl)
      refine sy_at2 (k' := (.rnd (f) (bodyL rcC) :: rcC.k.tail)) (by kernel_rfl) ?_
      exact ih (es ++ [e]) v' (k + n) e.ver ⟨by omega, by omega⟩ (by
        intro q hq
        rcases List.mem_append.1 hq with hq | hq
        · exact hes q hq
        · obtain rfl := List.mem_singleton.1 hq
          exact ⟨hok, hfit, hfr.imp id fun z => by omega⟩) (by rw [List.length_append]; show es.length + 1 ≤ _; omega) hap5 ⟨by rw [← hR.1]; simp [prE], hR.2⟩ aa w S2
theorem rc_a (w0 : World) (x : Sr) (hx : x.ok) (hc : x.l.length ≤ x.c) (hl : x.l.length ≤ 1000) (R : List (Int × Ws) × Nat) : ∀ (f : Nat) (es : List Et) (ev : Value) (k : Nat) (last : Int) (hk : k ≤ x.l.length ∧ x.l.length - k < f) (hes : ∀ e ∈ es, e.ok ∧ fitE e.ver e.ws ∧ (e.ws.length = 0 ∨ w0.heap.size ≤ e.b)) (hel : (es).length ≤ k) (hap : (∀ f ∈ [rfSt x.b x.o x.l, rfEl (es)], ∀ g, Value.ownBlock ev = some g → ¬f.bl g)) (hR : (es).map prE ++ (recS (f) x.l (k) last).1 = R.1 ∧ (recS (f) x.l (k) last).2 = R.2) (aa : Act) (w : World) (S : Sy w0 [] [] (rcS x ev (k) last) [rfSt x.b x.o x.l, rfEl (es), rfOwn w0.heap.size 24 2 ev (es).length (esV (es))] aa w), post Try.prog (.rnd (f) (bodyL rcC) :: rcC.k.tail) (bodyPost Try.prog Try.f19 (recP w0 R)) .normal aa w
  | 0, es, ev, k, last, hk, hes, hel, hap, hR, aa, w, S => by omega
  | f + 1, es, ev, k, last, hk, hes, hel, hap, hR, aa, w, S => rc_s w0 x hx hc hl R f k hk.1 (rc_a w0 x hx hc hl R f) hk.2 es ev last hes hel hap hR aa w S
set_option maxHeartbeats 8000000 in
theorem recover_t (w0 : World) (x : Sr) (hx : x.ok) (hc : x.l.length ≤ x.c) (hl : x.l.length ≤ 1000) (hA : x.at w0) : Calls Try.prog 19 #[x.v] w0 (recP w0 (recS (x.l.length + 1) x.l 0 0)) := by
  refine sy_enterF [] [rfSt x.b x.o x.l] (by intro f hf; simp only [List.mem_singleton] at hf; subst hf; exact hA) Try.func19 rfl rfl fun aa S => ?_
  refine sy_run ⟨0, []⟩ 60 S fun bs aa w S => ?_
  have S := S.add (rfOwn w0.heap.size 24 2 (.slice none 0 0) (([] : List Et)).length (esV (([] : List Et)))) (World.ownsRow_nil _ _ _ _) (fun i hi h => by cases h)
  have S := S.add (rfEl []) (fun e he => by cases he) (fun i hi h => by obtain ⟨e, he, _⟩ := h; cases he)
  have S := S.sub (F' := [rfSt x.b x.o x.l, rfEl (([] : List Et)), rfOwn w0.heap.size 24 2 (.slice none 0 0) (([] : List Et)).length (esV (([] : List Et)))]) (by intro f hf; simp only [List.mem_cons, List.not_mem_nil, or_false] at hf; rcases hf with rfl | rfl | rfl <;> simp)
  have S2 := S.to [] (rcS x (.slice none 0 0) 0 0) (by kernel_rfl) (by kernel_rfl) (by kernel_rfl) (by kernel_rfl) (by kernel_rfl)
  refine sy_loop (x.l.length + 1) (by kernel_rfl) ?_
  refine sy_at2 (k' := (.rnd (x.l.length + 1) (bodyL rcC) :: rcC.k.tail)) (by kernel_rfl) ?_
  exact rc_a w0 x hx hc hl _ (x.l.length + 1) [] (.slice none 0 0) 0 0 ⟨by omega, by omega⟩ (fun e he => by cases he) (by simp) (fun f hf g hg => by cases hg) ⟨by simp, rfl⟩ aa w S2
end Go.Proofs.Ytaclhiagfgmgkaa

namespace Go.Proofs.Ytaclhiagfgmgkaa
open Go Go.RowKit SZ
set_option linter.unusedVariables false
set_option linter.unusedSectionVars false
set_option linter.unusedSimpArgs false
set_option maxRecDepth 100000
attribute [local irreducible] post GD Nxt NxtAll
end Go.Proofs.Ytaclhiagfgmgkaa

namespace Go.Proofs.Ytaclhiagfgmgkaa
open Go Go.RowKit SZ
set_option linter.unusedVariables false
set_option linter.unusedSectionVars false
set_option linter.unusedSimpArgs false
set_option maxRecDepth 100000
attribute [local irreducible] post GD Nxt NxtAll
end Go.Proofs.Ytaclhiagfgmgkaa

namespace Go.Proofs.Ytaclhiagfgmgkaa
open Go Go.RowKit SZ
set_option linter.unusedVariables false
set_option linter.unusedSectionVars false
set_option linter.unusedSimpArgs false
set_option maxRecDepth 100000
attribute [local irreducible] post GD Nxt NxtAll
def adQ (p q : Nat) (l : List Nat) : Nat × Nat := l.foldl (fun p c => ((p.1 + c) % 65521, (p.2 + (p.1 + c) % 65521) % 65521)) (p, q)
theorem adQ_one (l : List Nat) : ∀ p q, p < 65521 → (adQ p q l).1 = (p + l.sum) % 65521 := by
  induction l with
  | nil => intro p q hp; simp [adQ]; omega
  | cons c l ih =>
    intro p q hp
    have e : adQ p q (c :: l) = adQ ((p + c) % 65521) ((q + (p + c) % 65521) % 65521) l := rfl
    rw [e, ih _ _ (Nat.mod_lt _ (by omega)), List.sum_cons]
    omega
theorem sum_le (l : List Nat) (h : ∀ b ∈ l, b < 256) : l.sum ≤ 255 * l.length := by
  induction l with
  | nil => simp
  | cons c l ih =>
    have h1 := h c (by simp)
    have h2 := ih fun b hb => h b (by simp [hb])
    rw [List.sum_cons, List.length_cons]
    omega
theorem adler_low (l : List Nat) (h : ∀ b ∈ l, b < 256) (hl : l.length = 28) : ¬(adler l % 256 = 0 ∧ adler l / 256 % 256 = 0) := by
  have h1 : (adS l).1 = (1 + l.sum) % 65521 := adQ_one l 1 0 (by omega)
  have h2 := sum_le l h
  have h3 := adS_lt l
  unfold adler
  generalize (adS l).2 = y at *
  generalize (adS l).1 = x at *
  omega
def tornB (s : List Nat) (c : Nat) : List Nat := s.take c ++ List.replicate (32 - c) 0
theorem torn_byte {s : List Nat} (h : ∀ b ∈ s, b < 256) (c : Nat) : ∀ b ∈ tornB s c, b < 256 := by
  intro b hb
  simp only [tornB, List.mem_append, List.mem_replicate] at hb
  rcases hb with hb | ⟨_, rfl⟩
  · exact h b (List.mem_of_mem_take hb)
  · omega
theorem torn_len {s : List Nat} {c : Nat} (h : s.length = 32) (hc : c ≤ 32) : (tornB s c).length = 32 := by simp [tornB]; omega
theorem sec_torn {f f' c : Nat} {p p' : List Nat} (hl : p.length ≤ 27) (hl' : p'.length ≤ 27) (hb' : ∀ b ∈ bodyB f' p', b < 256) (hc : c ≤ 32) (h : tornB (sec f p) c = sec f' p') : sec f' p' = sec f p := by
  have b1 := body_len (f := f) hl
  have b2 := body_len (f := f') hl'
  have s1 := sec_len (f := f) hl
  rcases Nat.lt_or_ge 28 c with hlt | hge
  · have e := congrArg (List.take 28) h
    have e1 : (tornB (sec f p) c).take 28 = bodyB f p := by
      unfold tornB
      rw [List.take_append_of_le_length (by rw [List.length_take]; omega), List.take_take, Nat.min_eq_left (by omega)]
      unfold sec
      rw [List.take_append_of_le_length (by omega), List.take_of_length_le (by omega)]
    have e2 : (sec f' p').take 28 = bodyB f' p' := by
      unfold sec
      rw [List.take_append_of_le_length (by omega), List.take_of_length_le (by omega)]
    rw [e1, e2] at e
    unfold sec
    rw [e]
  · exfalso
    have e := congrArg (List.drop 28) h
    have e1 : (tornB (sec f p) c).drop 28 = [0, 0, 0, 0] := by
      unfold tornB
      rw [List.drop_append, List.drop_of_length_le (by rw [List.length_take]; omega), List.nil_append, List.drop_replicate, List.length_take, Nat.min_eq_left (by omega), show 32 - c - (28 - c) = 4 by omega]
      rfl
    have e2 : (sec f' p').drop 28 = le4 (adler (bodyB f' p')) := by
      unfold sec
      rw [List.drop_append_of_le_length (by omega), List.drop_of_length_le (by omega), List.nil_append]
    rw [e1, e2] at e
    unfold le4 at e
    simp only [List.cons.injEq] at e
    exact adler_low _ hb' b2 ⟨e.1.symm, e.2.1.symm⟩
def cutA (cs : List Nat) (i : Nat) : Nat := if i < cs.length then min (cs.getD i 0) 32 else 32
theorem cutA_le (cs : List Nat) (i : Nat) : cutA cs i ≤ 32 := by unfold cutA; split <;> omega
def tornS (r : (List ByteArray)) (cs : List Nat) (i : Nat) : ByteArray := strOf (tornB (bytesOf (r.getD i ByteArray.empty)) (cutA cs i))
def tornL (r : (List ByteArray)) (cs : List Nat) (n : Nat) : (List ByteArray) := (List.range n).map (tornS r cs)
theorem tornL_len (r : (List ByteArray)) (cs : List Nat) (n : Nat) : (tornL r cs n).length = n := by simp [tornL]
theorem tornL_at (r : (List ByteArray)) (cs : List Nat) (n i : Nat) (hi : i < n) : (tornL r cs n).getD i ByteArray.empty = tornS r cs i := by simp [tornL, List.getD, hi]
def sameI (r : (List ByteArray)) (cs : List Nat) : Nat → Bool
  | 0 => true
  | i + 1 => sameI r cs i && decide (tornS r cs i = r.getD i ByteArray.empty)
theorem sameI_iff (r : (List ByteArray)) (cs : List Nat) : ∀ n, sameI r cs n = true ↔ ∀ i, i < n → tornS r cs i = r.getD i ByteArray.empty
  | 0 => by simp [sameI]
  | n + 1 => by
    simp only [sameI, Bool.and_eq_true, decide_eq_true_eq, sameI_iff r cs n]
    constructor
    · rintro ⟨h1, h2⟩ i hi
      rcases Nat.lt_or_ge i n with q | q
      · exact h1 i q
      · rw [show i = n by omega]; exact h2
    · intro h
      exact ⟨fun i hi => h i (by omega), h n (by omega)⟩
def rfFz (g N : Nat) (cs : List Value) : RF := ⟨fun b => b = g, fun w => w.heap[g]? = some (.cells cs.toArray 5 (N, N + 1)), fun w h b hb => by subst hb; exact (Array.getElem?_eq_some_iff.1 h).1, fun w w' h hb => (hb g rfl).trans h⟩
theorem fz_st {w : World} {g N k : Nat} {cs : List Value} (h : w.heap[g]? = some (.cells cs.toArray 5 (N, N + 1))) (hN : cs.length = N) (hk : k < N) : (storeVar 5 ⟨g, k, none⟩ (.int .u8 0)).run Try.prog w = .ok () (w.setCells g k [.int .u8 0]) ∧ (w.setCells g k [.int .u8 0]).heap[g]? = some (.cells (cs.set k (.int .u8 0)).toArray 5 (N, N + 1)) := by
  have hi : (Try.prog.info? 5).map (·.size) = some 1 := by kernel_rfl
  constructor
  · have hs := run_storeCells_cells (P := Try.prog) g k [Value.int .u8 0] 0 w (fun j hj => by
      have hj0 : j = 0 := by simpa using hj
      subst hj0
      unfold World.cell?
      simp only [h]
      simp [hN, hk]) (fun j hj => by
      have hj0 : j = 0 := by simpa using hj
      subst hj0
      unfold World.frozen?
      simp only [h]
      simp
      omega) (fun x hx => by simp only [List.mem_singleton] at hx; subst hx; rfl)
    simp only [Nat.add_zero] at hs
    have h1 : (Value.int .u8 0).cells.size = 1 := rfl
    have hc : (Value.int .u8 0).cells.toList = [Value.int .u8 0] := rfl
    simp only [storeVar, Sem.run_bind, run_info hi, Result.andThen_ok, h1, hc, ne_eq, not_true_eq_false, if_false, if_true, Sem.run_pure]
    simpa using hs
  · show (w.setCell ⟨g, k, none⟩ (.int .u8 0)).heap[g]? = _
    simp only [World.setCell, Array.getElem?_modify]
    simp [h]
theorem ex_sb2 {s : SS} {bs : List Nat} {w : World} {x : Operand} {p : ByteArray} (hx : s.val x = some (.v (.string p))) (hp : p.size ≤ maxLen) :
    ∀ (o : Oper) (ρ : Operand → Value), o.op = .convert 9 43 x → o.type = 43 → (∀ x y, s.val x = some y → ρ x = den bs y) → ∃ v w', (execOp ρ o).run Try.prog w = .ok (.value v) w' ∧ (∃ (cap : Nat) (Z : List Value), v = .slice (some ⟨w.heap.size, 0, none⟩) p.size cap ∧ p.size ≤ cap ∧ cap ≤ 9223372036854775807 ∧ Z.length = cap - p.size ∧ w'.heap[w.heap.size]? = some (.cells ((bytesOf p).map bV ++ Z).toArray 5 (cap, cap + 1))) ∧ Below w.heap.size w w' := by
  intro o ρ h1 h2 h3
  have e1 : ρ x = .string p := h3 x _ hx
  have hr := run_bytes_of_string (P := Try.prog) w 9 43 5 p Try.underlying9 Try.underlying43 Try.underlying5
  have g1 := grownCap_ge w p.size 0 5
  have g2 := grownCap_le_maxLen w p.size 0 5 hp
  have esz : (bytesRow p (grownCap w p.size 0 5)).size = grownCap w p.size 0 5 := by
    simp [bytesRow]
    show p.size + _ = _
    omega
  have ec : bytesRow p (grownCap w p.size 0 5) = ((bytesOf p).map bV ++ List.replicate (grownCap w p.size 0 5 - p.size) (Value.int .u8 0)).toArray := by
    apply Array.ext'
    simp [bytesRow, bytesOf, bV]
  refine ⟨_, w.drew.alloc (.cells (bytesRow p (grownCap w p.size 0 5)) 5 ((bytesRow p (grownCap w p.size 0 5)).size, (bytesRow p (grownCap w p.size 0 5)).size + 1)), ?_, ⟨grownCap w p.size 0 5, List.replicate (grownCap w p.size 0 5 - p.size) (Value.int .u8 0), rfl, g1, by simpa [maxLen] using g2, by simp, ?_⟩, ?_⟩
  · unfold execOp
    simp only [h1, e1, Sem.run_bind, Sem.run_pure, Result.andThen_ok, hr]
  · have hh := heap_alloc_new w.drew (.cells (bytesRow p (grownCap w p.size 0 5)) 5 ((bytesRow p (grownCap w p.size 0 5)).size, (bytesRow p (grownCap w p.size 0 5)).size + 1))
    rw [esz, ec] at hh
    rw [esz, ec]
    exact hh
  · exact ⟨rfl, rfl, rfl, by simp, fun k hk => heap_alloc_old w.drew _ hk⟩
def fzC (s : List Nat) (c k : Nat) (Z : List Value) : List Value := (s.take c ++ List.replicate (k - c) 0 ++ s.drop k).map bV ++ Z
theorem fzC_0 (s : List Nat) (c : Nat) (Z : List Value) : fzC s c c Z = s.map bV ++ Z := by simp [fzC]
theorem fzC_set (s : List Nat) (c k : Nat) (Z : List Value) (hs : s.length = 32) (hc : c ≤ k) (hk : k < 32) : (fzC s c k Z).set k (.int .u8 0) = fzC s c (k + 1) Z := by
  have hl : (s.take c ++ List.replicate (k - c) 0).length = k := by simp; omega
  unfold fzC
  rw [List.drop_eq_getElem_cons (show k < s.length by omega), List.set_append_left _ _ (by simp; omega)]
  congr 1
  have e : Value.int .u8 0 = bV 0 := rfl
  rw [e, ← List.map_set]
  congr 1
  rw [List.set_append_right _ _ (by omega), hl, Nat.sub_self, List.set_cons_zero, show k + 1 - c = (k - c) + 1 by omega, List.replicate_succ', List.append_assoc, List.append_assoc, List.append_assoc]
  rfl
theorem fzC_end (s : List Nat) (c : Nat) (Z : List Value) (hs : s.length = 32) : fzC s c 32 Z = (tornB s c).map bV ++ Z := by
  unfold fzC tornB
  rw [List.drop_of_length_le (by omega), List.append_nil]
end Go.Proofs.Ytaclhiagfgmgkaa

namespace Go.Proofs.Ytaclhiagfgmgkaa
open Go Go.RowKit SZ
set_option linter.unusedVariables false
set_option linter.unusedSectionVars false
set_option linter.unusedSimpArgs false
set_option maxRecDepth 100000
attribute [local irreducible] post GD Nxt NxtAll
theorem ex_apR {s : SS} {bs : List Nat} {w : World} {x y : Operand} {v : Value} {z : Sr} {B0 n : Nat} {L : (List ByteArray)} (hx : s.val x = some (.v v)) (hy : s.val y = some (.v z.v)) (hown : w.ownsRow B0 9 1 v n (L.map Value.string)) (hz : z.ok) (hat : z.at w) (hc : z.l.length ≤ z.c) (hnil : z.a = none → z.c = 0) (hlen : n + z.l.length ≤ 100000) (hB : B0 ≤ w.heap.size) :
    ∀ (o : Oper) (ρ : Operand → Value), o.op = .call { callee := .builtin .append, args := #[x, y], argTypes := #[28, 28] } → o.type = 28 → (∀ x y, s.val x = some y → ρ x = den bs y) → ∃ v' w', (execOp ρ o).run Try.prog w = .ok (.value v') w' ∧ (w'.ownsRow B0 9 1 v' (n + z.l.length) ((L ++ z.l).map Value.string) ∧ (∀ g, v'.ownBlock = some g → v.ownBlock = some g ∨ w.heap.size ≤ g) ∧ B0 ≤ w'.heap.size) ∧ w.grownBy w' v.ownBlock := by
  intro o ρ h1 h2 h3
  have e1 : ρ x = v := h3 x _ hx
  have e2 : ρ y = .slice z.a z.l.length z.c := h3 y _ hy
  obtain ⟨i, hi, hzr, hs, hb⟩ := parts3 infS3
  by_cases h0 : z.l.length = 0
  · obtain ⟨va, vc, rfl⟩ := owns_slice hown
    have hvc : n ≤ vc := by
      rcases hown.2 with ⟨q, hz⟩ | ⟨g, cap, cur, q, _, _, hn, _⟩
      · simp only [Value.slice.injEq] at q; omega
      · simp only [Value.slice.injEq] at q; omega
    have hr : (Builtin.append_ #[28, 28] o.type #[.slice va n vc, .slice z.a 0 z.c]).run Try.prog w = .ok (.slice va n vc) w := by
      refine run_append_nothing w 28 28 o.type 9 i Try.underlying28 hi va n vc hvc (.slice z.a 0 z.c) ⟨Or.inl ⟨9, Try.underlying28⟩, fun w' => ?_, ?_, ?_, by simp, by simp⟩
      · simp [Builtin.lenOf]
      · cases z.a <;> simp [Builtin.firstCells, loadCells, loadCellsFrom]
      · cases z.a <;> simp [Builtin.firstCells, loadCells, loadCellsFrom]
    refine ⟨.slice va n vc, w, ?_, ⟨?_, fun g hg => Or.inl hg, hB⟩, ⟨rfl, rfl, rfl, Nat.le_refl _, fun _ _ _ => rfl⟩⟩
    · unfold execOp
      simp only [h1, e1, e2, h0, resolve, invoke, builtin, List.map_toArray, List.map_cons, List.map_nil, Sem.run_bind, Sem.run_pure, Result.andThen_ok, hr]
    · rw [h0, List.length_eq_zero_iff.1 h0, List.append_nil]
      exact hown
  · have ha := hz.resolve_left h0
    obtain ⟨v', w', hr, q1, q2, q3⟩ := SZ.app_at (P := Try.prog) (ty := o.type) (e := 9) (t := 28) (n := n) (xs := L.map Value.string) (ad := ⟨z.b, z.o, none⟩) (m := z.l.length) (cp := z.c) (news := z.l.map Value.string) Try.underlying28 hi hzr (by rw [hs]; rfl) (by omega) (by rw [hs]; exact hown) (by rw [hs]; simp) (fun j x hx => by
      have hj : j < z.l.length := by have := (List.getElem?_eq_some_iff.1 hx).1; simpa using this
      have ea : (⟨z.b, z.o, none⟩ : Addr).add j = ⟨z.b, z.o + j, none⟩ := by unfold Addr.add; split <;> simp_all
      rw [ea, hat j hj]
      simp [List.getD, List.getElem?_eq_getElem hj] at hx ⊢
      exact hx) (by intro u hu; simp only [List.mem_map] at hu; obtain ⟨_, _, rfl⟩ := hu; rfl) (by simp only [maxLen]; omega) (by rw [hb]; omega) hB
    rw [hs] at q1
    refine ⟨v', w', ?_, ⟨by rw [List.map_append]; exact q1, q3, by have := q2.size; omega⟩, q2⟩
    unfold execOp
    simp only [h1, e1, e2, ha, resolve, invoke, builtin, List.map_toArray, List.map_cons, List.map_nil, Sem.run_bind, Sem.run_pure, Result.andThen_ok, hr]
theorem ap_next {F : List RF} {w : World} {v v' : Value} (hF : ∀ f ∈ F, f.P w) (hap : ∀ f ∈ F, ∀ g, v.ownBlock = some g → ¬f.bl g) (hnn : ∀ g, v'.ownBlock = some g → v.ownBlock = some g ∨ w.heap.size ≤ g) : ∀ f ∈ F, ∀ g, v'.ownBlock = some g → ¬f.bl g := fun f hf g hg hb => (hnn g hg).elim (fun q => hap f hf g q hb) (fun q => by have := f.lt w (hF f hf) g hb; omega)
theorem at_of_owns {w : World} {B : Nat} {z : Sr} {R : List ByteArray} (h : w.ownsRow B 9 1 z.v R.length (R.map Value.string)) (hz : z.l = R) (hok : z.ok) : z.at w := fun j hj => by
  obtain ⟨s, q1, q2, q3, q4, _, _⟩ := sr_of_owns h
  have hl : z.l.length ≠ 0 := by omega
  have e1 := hok.resolve_left hl
  have e2 := q3.resolve_left (by rw [q1, ← hz]; exact hl)
  have e3 : some (⟨z.b, z.o, none⟩ : Addr) = some ⟨s.b, s.o, none⟩ := by
    rw [← e1, ← e2]
    have := congrArg (fun v => match v with | Value.slice a _ _ => a | _ => none) q2
    exact this
  simp only [Option.some.injEq, Addr.mk.injEq] at e3
  rw [e3.1, e3.2.1, hz]
  have := q4 j (by rw [q1, ← hz]; exact hj)
  rw [q1] at this
  exact this
end Go.Proofs.Ytaclhiagfgmgkaa

namespace Go.Proofs.Ytaclhiagfgmgkaa
open Go Go.RowKit SZ
set_option linter.unusedVariables false
set_option linter.unusedSectionVars false
set_option linter.unusedSimpArgs false
set_option maxRecDepth 100000
attribute [local irreducible] post GD Nxt NxtAll
theorem hasB_fz {w : World} {g cap c : Nat} {s : List Nat} {Z : List Value} (h : w.heap[g]? = some (.cells (fzC s c 32 Z).toArray 5 (cap, cap + 1))) (hs : s.length = 32) (hc : c ≤ 32) (hcap : 32 ≤ cap ∧ cap ≤ 9223372036854775807) : HasB w (.slice (some ⟨g, 0, none⟩) 32 cap) (tornB s c) := by
  have hl := torn_len hs hc
  refine ⟨_, _, by rw [hl], ⟨by omega, by omega, hcap.2, fun h => by cases h⟩, Or.inr ⟨g, 0, rfl, fun j hj => ?_⟩⟩
  rw [fzC_end s c Z hs] at h
  unfold World.cell?
  simp only [h]
  have hj2 : j < ((tornB s c).map bV).length := by simpa using hj
  simp [List.getElem?_append_left hj2, bV, List.getD, List.getElem?_eq_getElem hj, Nat.zero_add]
theorem ex_eqW {s : SS} {bs : List Nat} {x y : Operand} {t t' ty : TypeId} {p q : ByteArray} {b : Bool} (hx : s.val x = some (.v (.string p))) (hy : s.val y = some (.v (.string q))) (hb : decide (p = q) = b) :
    ∀ (o : Oper) (ρ : Operand → Value) (W : World), o.op = .binOp .eql t x y t' → o.type = ty → (∀ x y, s.val x = some y → ρ x = den bs y) → (execOp ρ o).run Try.prog W = .ok (.value (.bool b)) W := by
  intro o ρ W h1 h2 h3
  have e1 : ρ x = .string p := h3 x _ hx
  have e2 : ρ y = .string q := h3 y _ hy
  subst hb
  unfold execOp
  simp only [h1, e1, e2, eqGuard, binOp_string_eql, tl_eq, Sem.run_bind, Sem.run_pure, Result.andThen_ok]
  rfl
end Go.Proofs.Ytaclhiagfgmgkaa
