/-
  Merged: WlW, WlX, WlY, WlZ, Wn1
-/
import Derived.Test.YtaclhiagfgmgkaaRows
import Derived.Test.YtaclhiagfgmgkaaPc2
import Derived.Test.YtaclhiagfgmgkaaPc15
import Derived.Test.YtaclhiagfgmgkaaPc17
import Derived.WalkKit

/-
  Layer 23: the reference's guess.
-/
namespace Go.Proofs.Ytaclhiagfgmgkaa
open Go Go.RowKit SZ
set_option linter.unusedVariables false
set_option linter.unusedSimpArgs false
set_option maxRecDepth 100000
attribute [local irreducible] post GD Nxt NxtAll
def gueP (w0 : World) (g : Int × Ws × Nat) (y : Ending) (w' : World) : Prop := Below w0.heap.size w0 w' ∧ ∃ e : Et, e.ver = g.1 ∧ e.ws = g.2.1 ∧ e.ok ∧ y = .returned (.tuple #[e.v, .int .i64 (g.2.2 : Int)]) ∧ WrAt w' e.b e.o e.ws ∧ (e.ws.length = 0 ∨ w0.heap.size ≤ e.b)
def gueA (l : (List ByteArray)) (k : Int) : Int × Ws × Nat := if k < 0 then (0, [], 0) else gueS l k.toNat
def e00 : Et := ⟨0, none, 0, 0, 0, []⟩
theorem gue_0 {w0 w' : World} (hb : Below w0.heap.size w0 w') : gueP w0 (0, [], 0) (.returned (.tuple #[.agg #[.int .i64 0, .slice none 0 0], .int .i64 0])) w' := ⟨hb, e00, rfl, rfl, Or.inl rfl, rfl, fun j hj => absurd hj (Nat.not_lt_zero _), Or.inl rfl⟩
noncomputable def gwC : Cfg := ⟨goZ 200 [0, 0, 9, 0] [.code (bodyOf Try.f34)], ⟨0, [], []⟩⟩
noncomputable def gwS (na : Option Addr) (N nc m0 : Nat) (ver : Int) (wv : Value) (j : Nat) : SS := ⟨107, [(4, .p 0 0), (6, .v (.int .i64 (m0 : Int))), (9, .v (.slice na N nc)), (12, .p 1 0), (13, .v (.int .i64 ((1 + 2 * j : Nat) : Int)))], [⟨24, [.int .i64 0, .slice none 0 0]⟩, ⟨24, [.int .i64 ver, wv]⟩]⟩
noncomputable def gcC : Cfg := ⟨goZ 200 [0, 0] [.code (bodyOf Try.f34)], ⟨0, [], []⟩⟩
noncomputable def gcS (x : Sr) (k m0 : Nat) (q : List Nat) (j : Nat) : SS := ⟨107, [(0, .v x.v), (1, .v (.int .i64 (k : Int))), (4, .p 0 0), (6, .v (.int .i64 (m0 : Int))), (7, .v (.string (strOf q))), (8, .v (.int .i64 ((k + j : Nat) : Int)))], [⟨24, [.int .i64 0, .slice none 0 0]⟩]⟩
set_option maxHeartbeats 8000000 in
theorem gw_e (w0 : World) (m0 : Nat) (na : Option Addr) (nc nb no : Nat) (ver : Int) (r : List Int) (hna : na = some ⟨nb, no, none⟩) (hnl : r.length ≤ 20000) (hR : True) (m : Nat) (wv : Value) (x0 x1 : Nat) (aa : Act) (w : World) (S : Sy w0 [] [x0, x1] (gwS na (r.length + 1) nc m0 ver wv ((pairsL r).length)) [rfNi nb no (ver :: r), rfOwn w0.heap.size 48 2 wv ((pairsL r).length) (wsV ((pairsL r).take ((pairsL r).length)))] aa w) : post Try.prog (.rnd (m + 1) (bodyL gwC) :: gwC.k.tail) (bodyPost Try.prog Try.f34 (gueP w0 (ver, pairsL r, m0))) .normal aa w := by
  have hpl := (pairs_at' r)
  refine sy_run (c := ⟨(.rnd (m + 1) (bodyL gwC) :: gwC.k.tail), gwS na (r.length + 1) nc m0 ver wv ((pairsL r).length)⟩) ⟨0, [17]⟩ 50 S fun bs aa w S => ?_
  refine sy_reg S fun S => ?_
  refine sy_ops 2 S fun bs aa w S => ?_
  refine sy_cast 84 S (congrArg (Value.int .i64) (by rw [IntKind.wrap_i64]; have := pairs_at' r; omega : IntKind.i64.wrap (((1 + 2 * (pairsL r).length : Nat) : Int) + 1) = ((1 + 2 * (pairsL r).length + 1 : Nat) : Int))) (by kernel_rfl) fun S => ?_
  refine sy_ops 3 S fun bs aa w S => ?_
  refine sy_cast 87 S (congrArg Value.bool (decide_eq_false (by have := hR; omega) : decide (((1 + 2 * (pairsL r).length + 1 : Nat) : Int) < ((r.length + 1 : Nat) : Int)) = false)) (by kernel_rfl) fun S => ?_
  have how := S.fact (f := rfOwn w0.heap.size 48 2 wv (pairsL r).length (wsV ((pairsL r).take (pairsL r).length))) (by simp)
  obtain ⟨a, c, rfl⟩ := owns_slice how
  refine sy_run ⟨0, []⟩ 60 S fun bs aa w S => ?_
  have how := S.fact (f := rfOwn w0.heap.size 48 2 (.slice a (pairsL r).length c) (pairsL r).length (wsV ((pairsL r).take (pairsL r).length))) (by simp)
  rw [List.take_length] at how
  obtain ⟨a', c', b, o, he, h1, h2, h3⟩ := wr_of_owns how
  simp only [Value.slice.injEq] at he
  obtain ⟨rfl, _, rfl⟩ := he
  exact sy_ret S (by kernel_rfl) (by kernel_rfl) fun hg => ⟨bel_gr hg, ⟨ver, a, c, b, o, pairsL r⟩, rfl, rfl, h1, rfl, h2, h3⟩
set_option maxHeartbeats 8000000 in
theorem gw_s (w0 : World) (m0 : Nat) (na : Option Addr) (nc nb no : Nat) (ver : Int) (r : List Int) (hna : na = some ⟨nb, no, none⟩) (hnl : r.length ≤ 20000) (hR : True) (m j : Nat) (hj : j < (pairsL r).length) (ih : ∀ (wv : Value) (hne : ∀ g, Value.ownBlock wv = some g → g ≠ nb) (x0 x1 : Nat) (aa : Act) (w : World) (S : Sy w0 [] [x0, x1] (gwS na (r.length + 1) nc m0 ver wv (j + 1)) [rfNi nb no (ver :: r), rfOwn w0.heap.size 48 2 wv (j + 1) (wsV ((pairsL r).take (j + 1)))] aa w), post Try.prog (.rnd (m) (bodyL gwC) :: gwC.k.tail) (bodyPost Try.prog Try.f34 (gueP w0 (ver, pairsL r, m0))) .normal aa w) (wv : Value) (hne : ∀ g, Value.ownBlock wv = some g → g ≠ nb) (x0 x1 : Nat) (aa : Act) (w : World) (S : Sy w0 [] [x0, x1] (gwS na (r.length + 1) nc m0 ver wv (j)) [rfNi nb no (ver :: r), rfOwn w0.heap.size 48 2 wv (j) (wsV ((pairsL r).take (j)))] aa w) : post Try.prog (.rnd (m + 1) (bodyL gwC) :: gwC.k.tail) (bodyPost Try.prog Try.f34 (gueP w0 (ver, pairsL r, m0))) .normal aa w := by
  obtain ⟨hpl, hpv⟩ := pairs_at' r
  obtain ⟨q1, q2⟩ := hpv j hj
  rw [cons_at 0 ver] at q1
  rw [Nat.add_assoc, cons_at 0 ver, ← Nat.add_assoc] at q2
  obtain ⟨ii, hi1, hi2, hi3, hi4⟩ := parts3 wrI
  obtain rfl := hna
  refine sy_run (c := ⟨(.rnd (m + 1) (bodyL gwC) :: gwC.k.tail), gwS (some ⟨nb, no, none⟩) (r.length + 1) nc m0 ver wv (j)⟩) ⟨0, [17]⟩ 50 S fun bs aa w S => ?_
  refine sy_reg S fun S => ?_
  refine sy_ops 2 S fun bs aa w S => ?_
  refine sy_cast 84 S (congrArg (Value.int .i64) (by rw [IntKind.wrap_i64]; have := pairs_at' r; omega : IntKind.i64.wrap (((1 + 2 * j : Nat) : Int) + 1) = ((1 + 2 * j + 1 : Nat) : Int))) (by kernel_rfl) fun S => ?_
  refine sy_ops 3 S fun bs aa w S => ?_
  refine sy_cast 87 S (congrArg Value.bool (decide_eq_true (by omega) : decide (((1 + 2 * j + 1 : Nat) : Int) < ((r.length + 1 : Nat) : Int)) = true)) (by kernel_rfl) fun S => ?_
  refine sy_run ⟨0, []⟩ 60 S fun bs aa w S => ?_
  letI : HF := ⟨[rfNi nb no (ver :: r)]⟩
  refine dr_enter [] (by kernel_rfl) (by kernel_rfl) S (by kernel_rfl) (fun aa w D => ?_) (fun f hf => by have e : f = rfNi nb no (ver :: r) := List.mem_singleton.1 hf; subst e; simp)
  refine dr_tix 4 D (by kernel_rfl) (by kernel_rfl) (by kernel_rfl) (b := nb) (off := no) (len := r.length + 1) (n := 1 + 2 * j) (size := 1) (ix := ((1 + 2 * j : Nat) : Int)) (by kernel_rfl) (rfl) (by omega) fun aa D => ?_
  refine dr_tld 5 D (by kernel_rfl) (by kernel_rfl) (by kernel_rfl) (ty := 3) (ad := ⟨nb, no + (1 + 2 * j) * 1, none⟩) (v := .int .i64 ((pairsL r).getD j (0, 0)).1) (fun W hW => ld_at (by kernel_rfl) (by rw [Nat.mul_one, ← q1]; exact (show (rfNi nb no (ver :: r)).P W from hW (rfNi nb no (ver :: r)) (by show _ ∈ [rfNi nb no (ver :: r)]; simp)) (1 + 2 * j) (by simp; omega))) (by kernel_rfl) fun aa D => ?_
  refine dr_tix 9 D (by kernel_rfl) (by kernel_rfl) (by kernel_rfl) (b := nb) (off := no) (len := r.length + 1) (n := 1 + 2 * j + 1) (size := 1) (ix := (IntKind.i64.wrap (((1 + 2 * j : Nat) : Int) + 1))) (by kernel_rfl) (by rw [IntKind.wrap_i64]; omega) (by omega) fun aa D => ?_
  refine dr_tld 10 D (by kernel_rfl) (by kernel_rfl) (by kernel_rfl) (ty := 3) (ad := ⟨nb, no + (1 + 2 * j + 1) * 1, none⟩) (v := .int .i64 ((pairsL r).getD j (0, 0)).2) (fun W hW => ld_at (by kernel_rfl) (by rw [Nat.mul_one, ← q2]; exact (show (rfNi nb no (ver :: r)).P W from hW (rfNi nb no (ver :: r)) (by show _ ∈ [rfNi nb no (ver :: r)]; simp)) (1 + 2 * j + 1) (by simp; omega))) (by kernel_rfl) fun aa D => ?_
  refine dr_any [1, 12] (by kernel_rfl) (by kernel_rfl) rfl (na2 ?_ ?_)
  · refine nx_op 1 D (by kernel_rfl) (Nat.le_refl _) (by kernel_rfl) (by kernel_rfl) fun bs aa w D hl => ?_
    refine dr_any [12] (by kernel_rfl) (by kernel_rfl) rfl (na1 ?_)
    · refine nx_op 12 D (by kernel_rfl) hl (by kernel_rfl) (by kernel_rfl) fun bs aa w D hl => ?_
      refine dr_any [13] (by kernel_rfl) (by kernel_rfl) rfl (na1 ?_)
      · refine have hap := (D.S.fs (rfOwn w0.heap.size 48 2 wv (j) (wsV ((pairsL r).take (j)))) (by simp)).2; have how := D.S.fact (f := rfOwn w0.heap.size 48 2 wv (j) (wsV ((pairsL r).take (j)))) (by simp); have hrl := (rfNi nb no (ver :: r)).lt _ (D.S.fact (f := rfNi nb no (ver :: r)) (by simp)) nb ⟨rfl, by simp⟩; nx_appQ 13 w0.heap.size [rfNi nb no (ver :: r)] D (by kernel_rfl) (u := .v wv) (y := .s 2 0 1 1) (t := 22) (e := 48) (v := wv) (n := j) (ad := adr _ 2 0) (m := 1) (cp := 1) (size := 2) (bytes := 16) (xs := wsV ((pairsL r).take j)) (news := [.int .i64 ((pairsL r).getD j (0, 0)).1, .int .i64 ((pairsL r).getD j (0, 0)).2]) (by kernel_rfl) Try.underlying22 hi1 hi2 hi3 hi4 rfl (by omega) rfl rfl how D.S.gr.size (own3 (P := Try.prog) (ty := 48) (cs := [.int .i64 ((pairsL r).getD j (0, 0)).1, .int .i64 ((pairsL r).getD j (0, 0)).2]) D.S 2 (by kernel_rfl)) rfl (by intro u hu; simp only [List.mem_cons, List.not_mem_nil, or_false] at hu; rcases hu with rfl | rfl <;> rfl) (by simp only [maxLen]; omega) (by omega) (fun g hg => Or.inr (how.lt g hg).1) (fun f hf => ⟨by simp only [List.mem_singleton] at hf; subst hf; simp, by simp only [List.mem_singleton] at hf; subst hf; exact fun g hg hb => hne g hg hb.1⟩) (fun f hf => by have e : f = rfNi nb no (ver :: r) := List.mem_singleton.1 hf; subst e; simp) (fun jj hjj hb => hap jj hjj hb) fun va vc aa w2 hO hg hnn hlt D => have D := D.addF (rfOwn w0.heap.size 48 2 (.slice va (j + 1) vc) (j + 1) (wsV ((pairsL r).take (j + 1)))) (by rw [wsV_snoc _ j hj]; exact hO) (fun jj hjj hb => (hnn _ hb).elim (fun q => hap jj hjj q) (fun q => by have := hlt jj hjj; omega)); ?_
        refine dr_any [15] (by kernel_rfl) (by kernel_rfl) rfl (na1 ?_)
        · refine nx_op 15 D (by kernel_rfl) hl (by kernel_rfl) (by kernel_rfl) fun bs aa w D hl => ?_
          refine dr_end D (by kernel_rfl) fun S => ?_
          refine sy_run ⟨0, [18]⟩ 60 S fun bs aa w S => ?_
          refine sy_reg S fun S => ?_
          refine sy_ops 2 S fun bs aa w S => ?_
          refine sy_cast 89 S (congrArg (Value.int .i64) (by rw [IntKind.wrap_i64]; omega : IntKind.i64.wrap (((1 + 2 * j : Nat) : Int) + 2) = ((1 + 2 * (j + 1) : Nat) : Int))) (by kernel_rfl) fun S => ?_
          refine sy_run ⟨0, [999]⟩ 50 S fun bs aa w S => ?_
          have hne' : ∀ g, Value.ownBlock (.slice va (j + 1) vc) = some g → g ≠ nb := fun g hg' => (hnn g hg').elim (fun q => hne g q) (fun q e => by omega)
          have S := S.sub (F' := [rfNi nb no (ver :: r), rfOwn w0.heap.size 48 2 (.slice va (j + 1) vc) (j + 1) (wsV ((pairsL r).take (j + 1)))]) (by intro f hf; simp only [List.mem_cons, List.not_mem_nil, or_false] at hf; rcases hf with rfl | rfl <;> simp)
          have S2 := S.to [0, 1] (gwS (some ⟨nb, no, none⟩) (r.length + 1) nc m0 ver (.slice va (j + 1) vc) (j + 1)) (by kernel_rfl) (by kernel_rfl) (by kernel_rfl) (by kernel_rfl) (by kernel_rfl)
          refine sy_at2 (k' := (.rnd (m) (bodyL gwC) :: gwC.k.tail)) (by kernel_rfl) ?_
          exact ih (.slice va (j + 1) vc) hne' _ _ aa w S2
  · refine nx_op 12 D (by kernel_rfl) (Nat.le_refl _) (by kernel_rfl) (by kernel_rfl) fun bs aa w D hl => ?_
    refine dr_any [1] (by kernel_rfl) (by kernel_rfl) rfl (na1 ?_)
    · refine nx_op 1 D (by kernel_rfl) hl (by kernel_rfl) (by kernel_rfl) fun bs aa w D hl => ?_
      refine dr_any [13] (by kernel_rfl) (by kernel_rfl) rfl (na1 ?_)
      · refine have hap := (D.S.fs (rfOwn w0.heap.size 48 2 wv (j) (wsV ((pairsL r).take (j)))) (by simp)).2; have how := D.S.fact (f := rfOwn w0.heap.size 48 2 wv (j) (wsV ((pairsL r).take (j)))) (by simp); have hrl := (rfNi nb no (ver :: r)).lt _ (D.S.fact (f := rfNi nb no (ver :: r)) (by simp)) nb ⟨rfl, by simp⟩; nx_appQ 13 w0.heap.size [rfNi nb no (ver :: r)] D (by kernel_rfl) (u := .v wv) (y := .s 2 0 1 1) (t := 22) (e := 48) (v := wv) (n := j) (ad := adr _ 2 0) (m := 1) (cp := 1) (size := 2) (bytes := 16) (xs := wsV ((pairsL r).take j)) (news := [.int .i64 ((pairsL r).getD j (0, 0)).1, .int .i64 ((pairsL r).getD j (0, 0)).2]) (by kernel_rfl) Try.underlying22 hi1 hi2 hi3 hi4 rfl (by omega) rfl rfl how D.S.gr.size (own3 (P := Try.prog) (ty := 48) (cs := [.int .i64 ((pairsL r).getD j (0, 0)).1, .int .i64 ((pairsL r).getD j (0, 0)).2]) D.S 2 (by kernel_rfl)) rfl (by intro u hu; simp only [List.mem_cons, List.not_mem_nil, or_false] at hu; rcases hu with rfl | rfl <;> rfl) (by simp only [maxLen]; omega) (by omega) (fun g hg => Or.inr (how.lt g hg).1) (fun f hf => ⟨by simp only [List.mem_singleton] at hf; subst hf; simp, by simp only [List.mem_singleton] at hf; subst hf; exact fun g hg hb => hne g hg hb.1⟩) (fun f hf => by have e : f = rfNi nb no (ver :: r) := List.mem_singleton.1 hf; subst e; simp) (fun jj hjj hb => hap jj hjj hb) fun va vc aa w2 hO hg hnn hlt D => have D := D.addF (rfOwn w0.heap.size 48 2 (.slice va (j + 1) vc) (j + 1) (wsV ((pairsL r).take (j + 1)))) (by rw [wsV_snoc _ j hj]; exact hO) (fun jj hjj hb => (hnn _ hb).elim (fun q => hap jj hjj q) (fun q => by have := hlt jj hjj; omega)); ?_
        refine dr_any [15] (by kernel_rfl) (by kernel_rfl) rfl (na1 ?_)
        · refine nx_op 15 D (by kernel_rfl) hl (by kernel_rfl) (by kernel_rfl) fun bs aa w D hl => ?_
          refine dr_end D (by kernel_rfl) fun S => ?_
          refine sy_run ⟨0, [18]⟩ 60 S fun bs aa w S => ?_
          refine sy_reg S fun S => ?_
          refine sy_ops 2 S fun bs aa w S => ?_
          refine sy_cast 89 S (congrArg (Value.int .i64) (by rw [IntKind.wrap_i64]; omega : IntKind.i64.wrap (((1 + 2 * j : Nat) : Int) + 2) = ((1 + 2 * (j + 1) : Nat) : Int))) (by kernel_rfl) fun S => ?_
          refine sy_run ⟨0, [999]⟩ 50 S fun bs aa w S => ?_
          have hne' : ∀ g, Value.ownBlock (.slice va (j + 1) vc) = some g → g ≠ nb := fun g hg' => (hnn g hg').elim (fun q => hne g q) (fun q e => by omega)
          have S := S.sub (F' := [rfNi nb no (ver :: r), rfOwn w0.heap.size 48 2 (.slice va (j + 1) vc) (j + 1) (wsV ((pairsL r).take (j + 1)))]) (by intro f hf; simp only [List.mem_cons, List.not_mem_nil, or_false] at hf; rcases hf with rfl | rfl <;> simp)
          have S2 := S.to [0, 1] (gwS (some ⟨nb, no, none⟩) (r.length + 1) nc m0 ver (.slice va (j + 1) vc) (j + 1)) (by kernel_rfl) (by kernel_rfl) (by kernel_rfl) (by kernel_rfl) (by kernel_rfl)
          refine sy_at2 (k' := (.rnd (m) (bodyL gwC) :: gwC.k.tail)) (by kernel_rfl) ?_
          exact ih (.slice va (j + 1) vc) hne' _ _ aa w S2
theorem gw_a (w0 : World) (m0 : Nat) (na : Option Addr) (nc nb no : Nat) (ver : Int) (r : List Int) (hna : na = some ⟨nb, no, none⟩) (hnl : r.length ≤ 20000) (hR : True) : ∀ (m j : Nat), j + m = (pairsL r).length → ∀ (wv : Value) (hne : ∀ g, Value.ownBlock wv = some g → g ≠ nb) (x0 x1 : Nat) (aa : Act) (w : World) (S : Sy w0 [] [x0, x1] (gwS na (r.length + 1) nc m0 ver wv (j)) [rfNi nb no (ver :: r), rfOwn w0.heap.size 48 2 wv (j) (wsV ((pairsL r).take (j)))] aa w), post Try.prog (.rnd (m + 1) (bodyL gwC) :: gwC.k.tail) (bodyPost Try.prog Try.f34 (gueP w0 (ver, pairsL r, m0))) .normal aa w := by
  intro m
  induction m with
  | zero => intro j hj wv hne x0 x1 aa w S; obtain rfl : j = (pairsL r).length := by omega
            exact gw_e w0 m0 na nc nb no ver r hna hnl hR 0 wv x0 x1 aa w S
  | succ m ih => intro j hj wv hne x0 x1 aa w S; exact gw_s w0 m0 na nc nb no ver r hna hnl hR (m + 1) j (by omega) (fun wv hne => ih (j + 1) (by omega) wv hne) wv hne x0 x1 aa w S
theorem sec_or_snoc (l : (List ByteArray)) (k j : Nat) (hj : k + j < l.length) : ((l.drop k).take (j + 1)).flatMap secOr = ((l.drop k).take j).flatMap secOr ++ secOr (l.getD (k + j) ByteArray.empty) := by
  have hj2 : j < (l.drop k).length := by rw [List.length_drop]; omega
  rw [List.take_succ_eq_append_getElem hj2, List.flatMap_append]
  simp [List.getD, List.getElem?_eq_getElem hj]
theorem sec_or_len (l : (List ByteArray)) : (l.flatMap secOr).length ≤ 27 * l.length := by
  induction l with
  | nil => simp
  | cons a r ih =>
    have : (secOr a).length ≤ 27 := by unfold secOr sct; split <;> simp; omega
    rw [List.flatMap_cons, List.length_append, List.length_cons]
    omega
set_option maxHeartbeats 8000000 in
theorem gc_e (w0 : World) (x : Sr) (hx : x.ok) (hl : x.l.length ≤ 1000) (k m0 : Nat) (hk : k < x.l.length) (hm : m0 ≤ 256 ∧ 1 ≤ m0) (g : Int × Ws × Nat) (hg : (match decNums (((x.l.drop k).take m0).flatMap secOr) with | some (n :: r, _) => (n, pairsL r, m0) | _ => (0, [], 0)) = g) (m j : Nat) (hj : j = m0 ∨ (j < m0 ∧ k + j = x.l.length)) (x0 : Nat) (aa : Act) (w : World) (S : Sy w0 [] [x0] (gcS x k m0 (((x.l.drop k).take (j)).flatMap secOr) (j)) [rfSt x.b x.o x.l] aa w) : post Try.prog (.rnd (m + 1) (bodyL gcC) :: gcC.k.tail) (bodyPost Try.prog Try.f34 (gueP w0 g)) .normal aa w := by
  have hjl : j ≤ 256 := by omega
  have hpl : (((x.l.drop k).take (j)).flatMap secOr).length ≤ 27 * 256 := by
    have q1 := sec_or_len ((x.l.drop k).take j)
    rw [List.length_take] at q1
    have : min j (x.l.drop k).length ≤ 256 := by omega
    omega
  have hgg := hg
  have ePL : (((x.l.drop k).take (m0)).flatMap secOr) = (((x.l.drop k).take (j)).flatMap secOr) := by
    rcases hj with rfl | ⟨h1, h2⟩
    · rfl
    · rw [List.take_of_length_le (by rw [List.length_drop]; omega), List.take_of_length_le (by rw [List.length_drop]; omega)]
  rw [ePL] at hgg
  clear hg
  refine sy_run (c := ⟨(.rnd (m + 1) (bodyL gcC) :: gcC.k.tail), gcS x k m0 (((x.l.drop k).take (j)).flatMap secOr) (j)⟩) ⟨0, [8]⟩ 50 S fun bs aa w S => ?_
  refine sy_reg S fun S => ?_
  refine sy_ops 4 S fun bs aa w S => ?_
  refine sy_cast 41 S (congrArg (Value.int .i64) (by rw [IntKind.wrap_i64]; omega : IntKind.i64.wrap ((k : Int) + (m0 : Int)) = ((k + m0 : Nat) : Int))) (by kernel_rfl) fun S => ?_
  refine sy_ops 1 S fun bs aa w S => ?_
  have S : Sy w0 [] _ _ [rfSt x.b x.o x.l] aa w := S
  rcases hj with rfl | ⟨h1, h2⟩
  · refine sy_cast 42 S (congrArg Value.bool (decide_eq_false (by omega) : decide (((k + j : Nat) : Int) < ((k + j : Nat) : Int)) = false)) (by kernel_rfl) fun S => ?_
    refine sy_run ⟨0, [12]⟩ 60 S fun bs aa w S => ?_
    refine sy_reg S fun S => ?_
    refine sy_ops 1 S fun bs aa w S => ?_
    refine sy_exB S (by kernel_rfl) (fun o ρ h1 h2 h3 => ex_sb (x := .tmp 65) (p := strOf (((x.l.drop k).take (j)).flatMap secOr)) (by kernel_rfl) (by rw [strOf_len]; simp only [maxLen]; omega) o ρ h1 h2 h3) fun v aa w' hC hb S => ?_
    have hHB := hC.1
    rw [bytesOf_strOf _ (flatO_byte _)] at hHB
    have hg := rgnums_own v (((x.l.drop k).take (j)).flatMap secOr) (flatO_byte _) (by omega) w' hHB
    refine sy_nm S fun bs S => ?_
    have hblk : ∀ j, j < bs.length → bs.getD j 0 < w'.heap.size := fun j hj => S.lt hj
    cases hd : decNums (((x.l.drop k).take (j)).flatMap secOr) with
    | none =>
      rw [hd] at hgg
      subst hgg
      refine sy_call1 S (hg.mono fun y w' h => ⟨by have h2 := h.2; rw [hd] at h2; exact h2, h.1⟩) (by kernel_rfl) fun aa w hb S => ?_
      refine sy_run ⟨0, []⟩ 60 S fun bs aa w S => ?_
      exact sy_ret S (by kernel_rfl) (by kernel_rfl) fun hg => gue_0 (bel_gr hg)
    | some q =>
      obtain ⟨ns, u⟩ := q
      rw [hd] at hgg
      have hnl := decNums_len (flatO_byte _) hd
      refine sy_call S (X := Value) (val := fun v => .tuple #[v, .int .i64 (u : Int), .int .i64 0]) (C := fun v w2 => HasInts w2 v ns ∧ ∀ g, v.ownBlock = some g → w'.heap.size ≤ g) (hg.mono fun y w2 h => by
        have h2 := h.2
        rw [hd] at h2
        obtain ⟨v, q1, q2, q3⟩ := h2
        exact ⟨v, q1, ⟨q2, q3⟩, h.1⟩) (by kernel_rfl) fun v aa w1 hC hb S => ?_
      obtain ⟨⟨na, nc, rfl, hn63, hcell⟩, hfr⟩ := hC
      obtain ⟨nb, no, hna, hcell, hnb⟩ : ∃ nb no, (ns.length = 0 ∨ na = some ⟨nb, no, none⟩) ∧ (∀ j, j < ns.length → w1.cell? ⟨nb, no + j, none⟩ = some (.int .i64 (ns.getD j 0))) ∧ (ns.length = 0 ∨ w'.heap.size ≤ nb) := by
        rcases hcell with h | ⟨nb, no, rfl, h⟩
        · exact ⟨0, 0, Or.inl h, fun j hj => by omega, Or.inl h⟩
        · exact ⟨nb, no, Or.inr rfl, h, Or.inr (hfr nb rfl)⟩
      have S := S.add (rfNi nb no ns) hcell (fun i hi hb => by
        obtain ⟨h1, h2⟩ := hb
        have q1 := hblk i hi
        have q2 := hnb.resolve_left h2
        omega)
      refine sy_run ⟨0, [13]⟩ 60 S fun bs aa w S => ?_
      refine sy_reg S fun S => ?_
      refine sy_ops 6 S fun bs aa w S => ?_
      cases ns with
      | nil =>
        subst hgg
        refine sy_cast 76 S (congrArg Value.bool (by rfl : decide (((([] : List Int).length : Nat) : Int) = 0) = true)) (by kernel_rfl) fun S => ?_
        refine sy_run ⟨0, []⟩ 60 S fun bs aa w S => ?_
        exact sy_ret S (by kernel_rfl) (by kernel_rfl) fun hg => gue_0 (bel_gr hg)
      | cons ver r =>
        subst hgg
        refine sy_cast 76 S (congrArg Value.bool (decide_eq_false (by simp only [List.length_cons]; omega) : decide ((((ver :: r).length : Nat) : Int) = 0) = false)) (by kernel_rfl) fun S => ?_
        obtain rfl := hna.resolve_left (by simp)
        refine sy_run ⟨0, [15]⟩ 60 S fun bs aa w S => ?_
        refine sy_reg S fun S => ?_
        refine sy_ops 1 S fun bs aa w S => ?_
        refine sy_ix (b := nb) (off := no) (len := (ver :: r).length) (n := 0) (size := 1) (i := 0) S (by kernel_rfl) rfl (by simp) fun aa S => ?_
        refine sy_ldo S (ld_at (ty := 3) (b := nb) (off := no + 0 * 1) (by kernel_rfl) ((S.fact (f := rfNi nb no (ver :: r)) (by simp)) 0 (by simp))) (by kernel_rfl) fun aa S => ?_
        refine sy_run ⟨0, []⟩ 60 S fun bs aa w S => ?_
        have S := S.add (rfOwn w0.heap.size 48 2 (.slice none 0 0) 0 (wsV ((pairsL r).take 0))) (World.ownsRow_nil _ _ _ _) (fun i hi h => by cases h)
        have S := S.sub (F' := [rfNi nb no (ver :: r), rfOwn w0.heap.size 48 2 (.slice none 0 0) 0 (wsV ((pairsL r).take 0))]) (by intro f hf; simp only [List.mem_cons, List.not_mem_nil, or_false] at hf; rcases hf with rfl | rfl <;> simp)
        have S2 := S.to [0, 1] (gwS (some ⟨nb, no, none⟩) (r.length + 1) nc j ver (.slice none 0 0) 0) (by kernel_rfl) (by kernel_rfl) (by kernel_rfl) (by kernel_rfl) (by kernel_rfl)
        refine sy_loop ((pairsL r).length + 1) (by kernel_rfl) ?_
        refine sy_at2 (k' := (.rnd ((pairsL r).length + 1) (bodyL gwC) :: gwC.k.tail)) (by kernel_rfl) ?_
        exact gw_a w0 j (some ⟨nb, no, none⟩) nc nb no ver r rfl (by have q : (ver :: r).length ≤ _ := hnl; simp only [List.length_cons] at q; omega) trivial (pairsL r).length 0 (by omega) (.slice none 0 0) (fun g hg => by cases hg) _ _ aa w S2
  · refine sy_cast 42 S (congrArg Value.bool (decide_eq_true (by omega) : decide (((k + j : Nat) : Int) < ((k + m0 : Nat) : Int)) = true)) (by kernel_rfl) fun S => ?_
    refine sy_ops 5 S fun bs aa w S => ?_
    refine sy_cast 47 S (congrArg Value.bool (decide_eq_false (by omega) : decide (((k + j : Nat) : Int) < (x.l.length : Int)) = false)) (by kernel_rfl) fun S => ?_
    refine sy_run ⟨0, [12]⟩ 60 S fun bs aa w S => ?_
    refine sy_reg S fun S => ?_
    refine sy_ops 1 S fun bs aa w S => ?_
    refine sy_exB S (by kernel_rfl) (fun o ρ h1 h2 h3 => ex_sb (x := .tmp 65) (p := strOf (((x.l.drop k).take (j)).flatMap secOr)) (by kernel_rfl) (by rw [strOf_len]; simp only [maxLen]; omega) o ρ h1 h2 h3) fun v aa w' hC hb S => ?_
    have hHB := hC.1
    rw [bytesOf_strOf _ (flatO_byte _)] at hHB
    have hg := rgnums_own v (((x.l.drop k).take (j)).flatMap secOr) (flatO_byte _) (by omega) w' hHB
    refine sy_nm S fun bs S => ?_
    have hblk : ∀ j, j < bs.length → bs.getD j 0 < w'.heap.size := fun j hj => S.lt hj
    cases hd : decNums (((x.l.drop k).take (j)).flatMap secOr) with
    | none =>
      rw [hd] at hgg
      subst hgg
      refine sy_call1 S (hg.mono fun y w' h => ⟨by have h2 := h.2; rw [hd] at h2; exact h2, h.1⟩) (by kernel_rfl) fun aa w hb S => ?_
      refine sy_run ⟨0, []⟩ 60 S fun bs aa w S => ?_
      exact sy_ret S (by kernel_rfl) (by kernel_rfl) fun hg => gue_0 (bel_gr hg)
    | some q =>
      obtain ⟨ns, u⟩ := q
      rw [hd] at hgg
      have hnl := decNums_len (flatO_byte _) hd
      refine sy_call S (X := Value) (val := fun v => .tuple #[v, .int .i64 (u : Int), .int .i64 0]) (C := fun v w2 => HasInts w2 v ns ∧ ∀ g, v.ownBlock = some g → w'.heap.size ≤ g) (hg.mono fun y w2 h => by
        have h2 := h.2
        rw [hd] at h2
        obtain ⟨v, q1, q2, q3⟩ := h2
        exact ⟨v, q1, ⟨q2, q3⟩, h.1⟩) (by kernel_rfl) fun v aa w1 hC hb S => ?_
      obtain ⟨⟨na, nc, rfl, hn63, hcell⟩, hfr⟩ := hC
      obtain ⟨nb, no, hna, hcell, hnb⟩ : ∃ nb no, (ns.length = 0 ∨ na = some ⟨nb, no, none⟩) ∧ (∀ j, j < ns.length → w1.cell? ⟨nb, no + j, none⟩ = some (.int .i64 (ns.getD j 0))) ∧ (ns.length = 0 ∨ w'.heap.size ≤ nb) := by
        rcases hcell with h | ⟨nb, no, rfl, h⟩
        · exact ⟨0, 0, Or.inl h, fun j hj => by omega, Or.inl h⟩
        · exact ⟨nb, no, Or.inr rfl, h, Or.inr (hfr nb rfl)⟩
      have S := S.add (rfNi nb no ns) hcell (fun i hi hb => by
        obtain ⟨h1, h2⟩ := hb
        have q1 := hblk i hi
        have q2 := hnb.resolve_left h2
        omega)
      refine sy_run ⟨0, [13]⟩ 60 S fun bs aa w S => ?_
      refine sy_reg S fun S => ?_
      refine sy_ops 6 S fun bs aa w S => ?_
      cases ns with
      | nil =>
        subst hgg
        refine sy_cast 76 S (congrArg Value.bool (by rfl : decide (((([] : List Int).length : Nat) : Int) = 0) = true)) (by kernel_rfl) fun S => ?_
        refine sy_run ⟨0, []⟩ 60 S fun bs aa w S => ?_
        exact sy_ret S (by kernel_rfl) (by kernel_rfl) fun hg => gue_0 (bel_gr hg)
      | cons ver r =>
        subst hgg
        refine sy_cast 76 S (congrArg Value.bool (decide_eq_false (by simp only [List.length_cons]; omega) : decide ((((ver :: r).length : Nat) : Int) = 0) = false)) (by kernel_rfl) fun S => ?_
        obtain rfl := hna.resolve_left (by simp)
        refine sy_run ⟨0, [15]⟩ 60 S fun bs aa w S => ?_
        refine sy_reg S fun S => ?_
        refine sy_ops 1 S fun bs aa w S => ?_
        refine sy_ix (b := nb) (off := no) (len := (ver :: r).length) (n := 0) (size := 1) (i := 0) S (by kernel_rfl) rfl (by simp) fun aa S => ?_
        refine sy_ldo S (ld_at (ty := 3) (b := nb) (off := no + 0 * 1) (by kernel_rfl) ((S.fact (f := rfNi nb no (ver :: r)) (by simp)) 0 (by simp))) (by kernel_rfl) fun aa S => ?_
        refine sy_run ⟨0, []⟩ 60 S fun bs aa w S => ?_
        have S := S.add (rfOwn w0.heap.size 48 2 (.slice none 0 0) 0 (wsV ((pairsL r).take 0))) (World.ownsRow_nil _ _ _ _) (fun i hi h => by cases h)
        have S := S.sub (F' := [rfNi nb no (ver :: r), rfOwn w0.heap.size 48 2 (.slice none 0 0) 0 (wsV ((pairsL r).take 0))]) (by intro f hf; simp only [List.mem_cons, List.not_mem_nil, or_false] at hf; rcases hf with rfl | rfl <;> simp)
        have S2 := S.to [0, 1] (gwS (some ⟨nb, no, none⟩) (r.length + 1) nc m0 ver (.slice none 0 0) 0) (by kernel_rfl) (by kernel_rfl) (by kernel_rfl) (by kernel_rfl) (by kernel_rfl)
        refine sy_loop ((pairsL r).length + 1) (by kernel_rfl) ?_
        refine sy_at2 (k' := (.rnd ((pairsL r).length + 1) (bodyL gwC) :: gwC.k.tail)) (by kernel_rfl) ?_
        exact gw_a w0 m0 (some ⟨nb, no, none⟩) nc nb no ver r rfl (by have q : (ver :: r).length ≤ _ := hnl; simp only [List.length_cons] at q; omega) trivial (pairsL r).length 0 (by omega) (.slice none 0 0) (fun g hg => by cases hg) _ _ aa w S2
set_option maxHeartbeats 8000000 in
theorem gc_s (w0 : World) (x : Sr) (hx : x.ok) (hl : x.l.length ≤ 1000) (k m0 : Nat) (hk : k < x.l.length) (hm : m0 ≤ 256 ∧ 1 ≤ m0) (g : Int × Ws × Nat) (hg : (match decNums (((x.l.drop k).take m0).flatMap secOr) with | some (n :: r, _) => (n, pairsL r, m0) | _ => (0, [], 0)) = g) (m j : Nat) (hj : j < m0) (hkj : k + j < x.l.length) (ih : ∀ (x0 : Nat) (aa : Act) (w : World) (S : Sy w0 [] [x0] (gcS x k m0 (((x.l.drop k).take (j + 1)).flatMap secOr) (j + 1)) [rfSt x.b x.o x.l] aa w), post Try.prog (.rnd (m) (bodyL gcC) :: gcC.k.tail) (bodyPost Try.prog Try.f34 (gueP w0 g)) .normal aa w) (x0 : Nat) (aa : Act) (w : World) (S : Sy w0 [] [x0] (gcS x k m0 (((x.l.drop k).take (j)).flatMap secOr) (j)) [rfSt x.b x.o x.l] aa w) : post Try.prog (.rnd (m + 1) (bodyL gcC) :: gcC.k.tail) (bodyPost Try.prog Try.f34 (gueP w0 g)) .normal aa w := by
  have hpl : (((x.l.drop k).take (j)).flatMap secOr).length ≤ 27 * 256 := by
    have q1 := sec_or_len ((x.l.drop k).take j)
    rw [List.length_take] at q1
    have : min j (x.l.drop k).length ≤ 256 := by omega
    omega
  refine sy_run (c := ⟨(.rnd (m + 1) (bodyL gcC) :: gcC.k.tail), gcS x k m0 (((x.l.drop k).take (j)).flatMap secOr) (j)⟩) ⟨0, [8]⟩ 50 S fun bs aa w S => ?_
  refine sy_reg S fun S => ?_
  refine sy_ops 4 S fun bs aa w S => ?_
  refine sy_cast 41 S (congrArg (Value.int .i64) (by rw [IntKind.wrap_i64]; omega : IntKind.i64.wrap ((k : Int) + (m0 : Int)) = ((k + m0 : Nat) : Int))) (by kernel_rfl) fun S => ?_
  refine sy_ops 1 S fun bs aa w S => ?_
  refine sy_cast 42 S (congrArg Value.bool (decide_eq_true (by omega) : decide (((k + j : Nat) : Int) < ((k + m0 : Nat) : Int)) = true)) (by kernel_rfl) fun S => ?_
  refine sy_ops 5 S fun bs aa w S => ?_
  refine sy_cast 47 S (congrArg Value.bool (decide_eq_true (by omega) : decide (((k + j : Nat) : Int) < (x.l.length : Int)) = true)) (by kernel_rfl) fun S => ?_
  refine sy_run ⟨0, [10]⟩ 60 S fun bs aa w S => ?_
  refine sy_reg S fun S => ?_
  refine sy_ops 2 S fun bs aa w S => ?_
  refine sy_ix (b := x.b) (off := x.o) (len := x.l.length) (n := k + j) (size := 1) (i := ((k + j : Nat) : Int)) S (by rw [← hx.resolve_left (by omega)]; kernel_rfl) rfl (by omega) fun aa S => ?_
  refine sy_ldo S (ld_at (ty := 9) (b := x.b) (off := x.o + (k + j) * 1) (by kernel_rfl) (by rw [Nat.mul_one]; exact S.fact (f := rfSt x.b x.o x.l) (by simp) (k + j) (by omega))) (by kernel_rfl) fun aa S => ?_
  refine sy_ops 2 S fun bs aa w S => ?_
  by_cases h32 : (x.l.getD (k + j) ByteArray.empty).size = 32
  case neg =>
    refine sy_cast 56 S (congrArg Value.bool (decide_eq_false (by omega) : decide (((x.l.getD (k + j) ByteArray.empty).size : Int) = 32) = false)) (by kernel_rfl) fun S => ?_
    refine sy_run ⟨0, [9]⟩ 60 S fun bs aa w S => ?_
    refine sy_reg S fun S => ?_
    refine sy_ops 2 S fun bs aa w S => ?_
    refine sy_cast 50 S (congrArg (Value.int .i64) (by rw [IntKind.wrap_i64]; omega : IntKind.i64.wrap (((k + j : Nat) : Int) + 1) = ((k + (j + 1) : Nat) : Int))) (by kernel_rfl) fun S => ?_
    refine sy_run ⟨0, [999]⟩ 50 S fun bs aa w S => ?_
    have e1 : (((x.l.drop k).take (j + 1)).flatMap secOr) = (((x.l.drop k).take (j)).flatMap secOr) := by rw [sec_or_snoc _ _ _ hkj]; unfold secOr; rw [if_neg h32, List.append_nil]
    have S2 := S.to [0] (gcS x k m0 (((x.l.drop k).take (j)).flatMap secOr) (j + 1)) (by kernel_rfl) (by kernel_rfl) (by kernel_rfl) (by kernel_rfl) (by kernel_rfl)
    rw [← e1] at S2
    refine sy_at2 (k' := (.rnd (m) (bodyL gcC) :: gcC.k.tail)) (by kernel_rfl) ?_
    exact ih _ aa w S2
  refine sy_cast 56 S (congrArg Value.bool (decide_eq_true (by omega) : decide (((x.l.getD (k + j) ByteArray.empty).size : Int) = 32) = true)) (by kernel_rfl) fun S => ?_
  refine sy_run ⟨0, [11]⟩ 60 S fun bs aa w S => ?_
  refine sy_reg S fun S => ?_
  refine sy_ops 3 S fun bs aa w S => ?_
  refine sy_ix (b := x.b) (off := x.o) (len := x.l.length) (n := k + j) (size := 1) (i := ((k + j : Nat) : Int)) S (by rw [← hx.resolve_left (by omega)]; kernel_rfl) rfl (by omega) fun aa S => ?_
  refine sy_ldo S (ld_at (ty := 9) (b := x.b) (off := x.o + (k + j) * 1) (by kernel_rfl) (by rw [Nat.mul_one]; exact S.fact (f := rfSt x.b x.o x.l) (by simp) (k + j) (by omega))) (by kernel_rfl) fun aa S => ?_
  refine sy_ex (op := .slice 9 (.tmp 61) (some (.const (.int .i64 1))) (some (.const (.int .i64 28))) none) (ty := 9) (v := .string ((x.l.getD (k + j) ByteArray.empty).extract 1 28)) S (by kernel_rfl) (ex_slS (p := (x.l.getD (k + j) ByteArray.empty)) (l2 := some (.v (.int .i64 1))) (h2 := some (.v (.int .i64 28))) Try.underlying9 (by kernel_rfl) (by kernel_rfl) (by kernel_rfl) (fun W => slS_m _ h32 W)) fun aa S => ?_
  have e1 : (((x.l.drop k).take (j + 1)).flatMap secOr) = (((x.l.drop k).take (j)).flatMap secOr) ++ sct (x.l.getD (k + j) ByteArray.empty) := by rw [sec_or_snoc _ _ _ hkj]; unfold secOr; rw [if_pos h32]
  have e2 : (x.l.getD (k + j) ByteArray.empty).extract 1 28 = strOf (sct (x.l.getD (k + j) ByteArray.empty)) := by rw [← sct_ext _ h32, strOf_bytesOf]
  refine sy_ex (op := .binOp .add 9 (.tmp 57) (.tmp 62) 9) (ty := 9) (v := .string (strOf (((x.l.drop k).take (j + 1)).flatMap secOr))) S (by kernel_rfl) (fun o ρ W g1 g2 g3 => by
    have h := ex_cat (P := Try.prog) (x := .tmp 57) (y := .tmp 62) (t := 9) (t' := 9) (ty := 9) (p := strOf (((x.l.drop k).take (j)).flatMap secOr)) (q := (x.l.getD (k + j) ByteArray.empty).extract 1 28) Try.underlying9 (by kernel_rfl) (by kernel_rfl) (by rw [strOf_len, ext_size _ h32]; omega) o ρ W g1 g2 g3
    rw [e2, strOf_app, ← e1] at h
    exact h) fun aa S => ?_
  refine sy_run ⟨0, [9]⟩ 60 S fun bs aa w S => ?_
  refine sy_reg S fun S => ?_
  refine sy_ops 2 S fun bs aa w S => ?_
  refine sy_cast 50 S (congrArg (Value.int .i64) (by rw [IntKind.wrap_i64]; omega : IntKind.i64.wrap (((k + j : Nat) : Int) + 1) = ((k + (j + 1) : Nat) : Int))) (by kernel_rfl) fun S => ?_
  refine sy_run ⟨0, [999]⟩ 50 S fun bs aa w S => ?_
  have S2 := S.to [0] (gcS x k m0 (((x.l.drop k).take (j + 1)).flatMap secOr) (j + 1)) (by kernel_rfl) (by kernel_rfl) (by kernel_rfl) (by kernel_rfl) (by kernel_rfl)
  refine sy_at2 (k' := (.rnd (m) (bodyL gcC) :: gcC.k.tail)) (by kernel_rfl) ?_
  exact ih _ aa w S2
theorem gc_a (w0 : World) (x : Sr) (hx : x.ok) (hl : x.l.length ≤ 1000) (k m0 : Nat) (hk : k < x.l.length) (hm : m0 ≤ 256 ∧ 1 ≤ m0) (g : Int × Ws × Nat) (hg : (match decNums (((x.l.drop k).take m0).flatMap secOr) with | some (n :: r, _) => (n, pairsL r, m0) | _ => (0, [], 0)) = g) : ∀ (m j : Nat), j + m = m0 → k + j ≤ x.l.length → ∀ (x0 : Nat) (aa : Act) (w : World) (S : Sy w0 [] [x0] (gcS x k m0 (((x.l.drop k).take (j)).flatMap secOr) (j)) [rfSt x.b x.o x.l] aa w), post Try.prog (.rnd (m + 1) (bodyL gcC) :: gcC.k.tail) (bodyPost Try.prog Try.f34 (gueP w0 g)) .normal aa w := by
  intro m
  induction m with
  | zero => intro j hj hkj x0 aa w S; exact gc_e w0 x hx hl k m0 hk hm g hg 0 j (Or.inl (by omega)) x0 aa w S
  | succ m ih =>
    intro j hj hkj x0 aa w S
    rcases Nat.lt_or_ge (k + j) x.l.length with h | h
    · exact gc_s w0 x hx hl k m0 hk hm g hg (m + 1) j (by omega) h (ih (j + 1) (by omega) (by omega)) x0 aa w S
    · exact gc_e w0 x hx hl k m0 hk hm g hg (m + 1) j (Or.inr ⟨by omega, by omega⟩) x0 aa w S
set_option maxHeartbeats 8000000 in
theorem guess_t (w0 : World) (x : Sr) (hx : x.ok) (hl : x.l.length ≤ 1000) (at_ : Int) (hA : x.at w0) : Calls Try.prog 34 #[x.v, .int .i64 at_] w0 (gueP w0 (gueA x.l at_)) := by
  refine sy_enterF [] [rfSt x.b x.o x.l] (by intro f hf; simp only [List.mem_singleton] at hf; subst hf; exact hA) Try.func34 rfl rfl fun aa S => ?_
  refine sy_run ⟨0, [1]⟩ 60 S fun bs aa w S => ?_
  refine sy_reg S fun S => ?_
  refine sy_ops 2 S fun bs aa w S => ?_
  by_cases h0 : at_ < 0
  case pos =>
    refine sy_cast 15 S (congrArg Value.bool (decide_eq_true h0 : decide (at_ < 0) = true)) (by kernel_rfl) fun S => ?_
    have eR : gueA x.l at_ = (0, [], 0) := by unfold gueA; rw [if_pos h0]
    refine sy_run ⟨0, []⟩ 60 S fun bs aa w S => ?_
    rw [eR]
    exact sy_ret S (by kernel_rfl) (by kernel_rfl) fun hg => gue_0 (bel_gr hg)
  refine sy_cast 15 S (congrArg Value.bool (decide_eq_false h0 : decide (at_ < 0) = false)) (by kernel_rfl) fun S => ?_
  refine sy_ops 5 S fun bs aa w S => ?_
  obtain ⟨k, rfl⟩ : ∃ k : Nat, at_ = (k : Int) := ⟨at_.toNat, (Int.toNat_of_nonneg (by omega)).symm⟩
  have eA : gueA x.l (k : Int) = gueS x.l k := by unfold gueA; rw [if_neg h0, Int.toNat_natCast]
  by_cases h1 : k < x.l.length
  case neg =>
    refine sy_cast 20 S (congrArg Value.bool (decide_eq_true (by omega) : decide ((k : Int) ≥ (x.l.length : Int)) = true)) (by kernel_rfl) fun S => ?_
    have eR : gueA x.l (k : Int) = (0, [], 0) := by rw [eA]; unfold gueS; rw [if_pos (by omega)]
    refine sy_run ⟨0, []⟩ 60 S fun bs aa w S => ?_
    rw [eR]
    exact sy_ret S (by kernel_rfl) (by kernel_rfl) fun hg => gue_0 (bel_gr hg)
  refine sy_cast 20 S (congrArg Value.bool (decide_eq_false (by omega) : decide ((k : Int) ≥ (x.l.length : Int)) = false)) (by kernel_rfl) fun S => ?_
  refine sy_run ⟨0, [3]⟩ 60 S fun bs aa w S => ?_
  refine sy_reg S fun S => ?_
  refine sy_ops 2 S fun bs aa w S => ?_
  refine sy_ix (b := x.b) (off := x.o) (len := x.l.length) (n := k) (size := 1) (i := (k : Int)) S (by rw [← hx.resolve_left (by omega)]; kernel_rfl) rfl h1 fun aa S => ?_
  refine sy_ldo S (ld_at (ty := 9) (b := x.b) (off := x.o + k * 1) (by kernel_rfl) (by rw [Nat.mul_one]; exact S.fact (f := rfSt x.b x.o x.l) (by simp) k h1)) (by kernel_rfl) fun aa S => ?_
  refine sy_ops 2 S fun bs aa w S => ?_
  by_cases h2 : (x.l.getD k ByteArray.empty).size = 32
  case neg =>
    refine sy_cast 28 S (congrArg Value.bool (by rw [decide_eq_false (by omega)]; rfl : (!decide (((x.l.getD k ByteArray.empty).size : Int) = 32)) = true)) (by kernel_rfl) fun S => ?_
    have eR : gueA x.l (k : Int) = (0, [], 0) := by rw [eA]; unfold gueS; rw [if_neg (by omega), if_neg h2]
    refine sy_run ⟨0, []⟩ 60 S fun bs aa w S => ?_
    rw [eR]
    exact sy_ret S (by kernel_rfl) (by kernel_rfl) fun hg => gue_0 (bel_gr hg)
  refine sy_cast 28 S (congrArg Value.bool (by rw [decide_eq_true (by omega)]; rfl : (!decide (((x.l.getD k ByteArray.empty).size : Int) = 32)) = false)) (by kernel_rfl) fun S => ?_
  refine sy_run ⟨0, [5]⟩ 60 S fun bs aa w S => ?_
  refine sy_reg S fun S => ?_
  refine sy_ops 2 S fun bs aa w S => ?_
  refine sy_ix (b := x.b) (off := x.o) (len := x.l.length) (n := k) (size := 1) (i := (k : Int)) S (by rw [← hx.resolve_left (by omega)]; kernel_rfl) rfl h1 fun aa S => ?_
  refine sy_ldo S (ld_at (ty := 9) (b := x.b) (off := x.o + k * 1) (by kernel_rfl) (by rw [Nat.mul_one]; exact S.fact (f := rfSt x.b x.o x.l) (by simp) k h1)) (by kernel_rfl) fun aa S => ?_
  refine sy_ex (op := .index 9 (.tmp 33) (.const (.int .i64 0))) (ty := 5) (v := .int .u8 ((byt (x.l.getD k ByteArray.empty) 0 : Nat) : Int)) S (by kernel_rfl) (ex_ix (p := (x.l.getD k ByteArray.empty)) (k := 0) Try.underlying9 (by kernel_rfl) (by kernel_rfl) (by omega)) fun aa S => ?_
  have hby := byt_lt (x.l.getD k ByteArray.empty) 0
  have eF : firstB (x.l.getD k ByteArray.empty) = byt (x.l.getD k ByteArray.empty) 0 := bytes_at _ 0
  refine sy_ops 2 S fun bs aa w S => ?_
  refine sy_cast 36 S (congrArg (Value.int .i64) (by rw [IntKind.wrap_i64, IntKind.wrap_i64]; omega : IntKind.i64.wrap (IntKind.i64.wrap ((byt (x.l.getD k ByteArray.empty) 0 : Nat) : Int) + 1) = ((byt (x.l.getD k ByteArray.empty) 0 + 1 : Nat) : Int))) (by kernel_rfl) fun S => ?_
  refine sy_run ⟨0, []⟩ 60 S fun bs aa w S => ?_
  have S2 := S.to [0] (gcS x k (byt (x.l.getD k ByteArray.empty) 0 + 1) [] 0) (by kernel_rfl) (by kernel_rfl) (by kernel_rfl) (by kernel_rfl) (by kernel_rfl)
  refine sy_loop (byt (x.l.getD k ByteArray.empty) 0 + 1 + 1) (by kernel_rfl) ?_
  refine sy_at2 (k' := (.rnd (byt (x.l.getD k ByteArray.empty) 0 + 1 + 1) (bodyL gcC) :: gcC.k.tail)) (by kernel_rfl) ?_
  have eG : (match decNums (((x.l.drop k).take (byt (x.l.getD k ByteArray.empty) 0 + 1)).flatMap secOr) with | some (n :: r, _) => (n, pairsL r, byt (x.l.getD k ByteArray.empty) 0 + 1) | _ => (0, [], 0)) = gueA x.l (k : Int) := by
    rw [eA]
    unfold gueS
    rw [if_neg (by omega), if_pos h2, eF]
    rcases decNums (((x.l.drop k).take (byt (x.l.getD k ByteArray.empty) 0 + 1)).flatMap secOr) with _ | ⟨ns, u⟩
    · rfl
    · cases ns <;> rfl
  exact gc_a w0 x hx hl k (byt (x.l.getD k ByteArray.empty) 0 + 1) h1 ⟨by omega, by omega⟩ _ eG (byt (x.l.getD k ByteArray.empty) 0 + 1) 0 (by omega) (by omega) _ aa w S2
end Go.Proofs.Ytaclhiagfgmgkaa


/-
  Layer 23: the reference's Parse.
-/
namespace Go.Proofs.Ytaclhiagfgmgkaa
open Go Go.RowKit SZ
set_option linter.unusedVariables false
set_option linter.unusedSimpArgs false
set_option maxRecDepth 100000
attribute [local irreducible] post GD Nxt NxtAll
theorem rparA (l : (List ByteArray)) (k : Int) : parA l k = (if (gueA l k).2.2 = 0 ∨ (recE (gueA l k).1 (gueA l k).2.1).length = 0 ∨ (recE (gueA l k).1 (gueA l k).2.1).length ≠ (gueA l k).2.2 ∨ (l.length : Int) - k < (gueA l k).2.2 ∨ recE (gueA l k).1 (gueA l k).2.1 ≠ (l.drop k.toNat).take (gueA l k).2.2 then none else some (gueA l k)) := by
  unfold parA gueA
  by_cases h : k < 0
  · rw [if_pos h, if_pos h]
    exact (if_pos (Or.inl rfl)).symm
  · rw [if_neg h, if_neg h, ← parse_ref]
    unfold rparS
    simp only
    by_cases hk : l.length ≤ k.toNat
    · have : gueS l k.toNat = (0, [], 0) := by unfold gueS; rw [if_pos hk]
      rw [this]
      rw [if_pos (Or.inl rfl), if_pos (Or.inl rfl)]
    · exact ite_congr (propext (or_congr Iff.rfl (or_congr Iff.rfl (or_congr Iff.rfl (or_congr ⟨fun q => by omega, fun q => by omega⟩ Iff.rfl))))) (fun _ => rfl) (fun _ => rfl)
theorem gueA_fit (l : (List ByteArray)) (k : Int) : fitE (gueA l k).1 (gueA l k).2.1 := by
  unfold gueA
  split
  · exact ⟨by unfold I64; omega, by simp⟩
  · exact gueS_fit l _
theorem gueA_neg {l : (List ByteArray)} {k : Int} (h : (gueA l k).2.2 ≠ 0) : ∃ n : Nat, k = (n : Int) ∧ n < l.length ∧ (gueA l k).2.2 ≤ 257 := by
  unfold gueA at h ⊢
  split at h
  · exact absurd rfl h
  · rename_i hk
    rw [if_neg hk]
    refine ⟨k.toNat, (Int.toNat_of_nonneg (by omega)).symm, ?_, ?_⟩
    · unfold gueS at h
      split at h
      · exact absurd rfl h
      · omega
    · unfold gueS
      split
      · exact Nat.zero_le _
      · split
        · split
          · have := byt_lt (l.getD k.toNat ByteArray.empty) 0
            rw [← bytes_at] at this
            show firstB _ + 1 ≤ 257
            unfold firstB
            omega
          · exact Nat.zero_le _
        · exact Nat.zero_le _
set_option maxHeartbeats 8000000 in
theorem rparse_t (w0 : World) (x : Sr) (hx : x.ok) (hc : x.l.length ≤ x.c) (hl : x.l.length ≤ 1000) (at_ : Int) (hat : I64 at_) (hA : x.at w0) : Calls Try.prog 18 #[x.v, .int .i64 at_] w0 (parP w0 (parA x.l at_)) := by
  unfold I64 at hat
  refine sy_enterF [] [rfSt x.b x.o x.l] (by intro f hf; simp only [List.mem_singleton] at hf; subst hf; exact hA) Try.func18 rfl rfl fun aa S => ?_
  refine sy_run ⟨0, [1]⟩ 60 S fun bs aa w S => ?_
  refine sy_reg S fun S => ?_
  refine sy_ops 2 S fun bs aa w S => ?_
  refine sy_nm S fun bs S => ?_
  have hgu := guess_t w x hx hl at_ (S.fact (f := rfSt x.b x.o x.l) (by simp))
  have hfg := gueA_fit x.l at_
  have hng := @gueA_neg x.l at_
  obtain ⟨G, hG⟩ : ∃ G, G = gueA x.l at_ := ⟨_, rfl⟩
  rw [← hG] at hgu hfg hng
  have hblk : ∀ j, j < bs.length → bs.getD j 0 < w.heap.size := fun j hj => S.lt hj
  have hgs := S.gr.size
  refine sy_call S (X := Et) (val := fun e => .tuple #[e.v, .int .i64 (G.2.2 : Int)]) (C := fun e w' => e.ver = G.1 ∧ e.ws = G.2.1 ∧ e.ok ∧ WrAt w' e.b e.o e.ws ∧ (e.ws.length = 0 ∨ w.heap.size ≤ e.b)) (hgu.mono fun y w' h => by
    obtain ⟨e, q1, q2, q3, q4, q5, q6⟩ := h.2
    exact ⟨e, q4, ⟨q1, q2, q3, q5, q6⟩, h.1⟩) (by kernel_rfl) fun e aa w1 hC hb S => ?_
  obtain ⟨hq1, hq2, hok, hwr, hfr⟩ := hC
  rw [← hq1, ← hq2] at hfg
  have S := S.add (rfWr e.b e.o e.ws) hwr (fun i hi hb => by
    obtain ⟨q1, q2⟩ := hb
    have := hblk i hi
    have := hfr.resolve_left q2
    omega)
  refine sy_run ⟨0, [2]⟩ 60 S fun bs aa w S => ?_
  refine sy_reg S fun S => ?_
  refine sy_ops 1 S fun bs aa w S => ?_
  refine sy_nm S fun bs S => ?_
  have hblk2 : ∀ j, j < bs.length → bs.getD j 0 < w.heap.size := fun j hj => S.lt hj
  have h25 := rec_len25 hfg
  refine sy_call S (X := Sr) (val := Sr.v) (C := fun s w' => s.l = recE e.ver e.ws ∧ s.ok ∧ s.at w' ∧ s.l.length ≤ s.c ∧ (s.l.length = 0 ∨ w.heap.size ≤ s.b)) (rrecord_s w e hok hfg (S.fact (f := rfWr e.b e.o e.ws) (by simp))) (by kernel_rfl) fun r aa w1 hC hb S => ?_
  obtain ⟨hrl, hr, har, hcr, hrf⟩ := hC
  have S := S.add (rfSt r.b r.o r.l) har (fun j hj hb => by
    obtain ⟨q1, q2⟩ := hb
    have := hblk2 j hj
    have := hrf.resolve_left q2
    omega)
  rw [← hrl] at h25
  have eRec : recE G.1 G.2.1 = r.l := by rw [hrl, hq1, hq2]
  refine sy_run ⟨0, [3]⟩ 60 S fun bs aa w S => ?_
  refine sy_reg S fun S => ?_
  refine sy_ops 2 S fun bs aa w S => ?_
  by_cases h0 : G.2.2 = 0
  case pos =>
    refine sy_cast 20 S (congrArg Value.bool (decide_eq_true (by omega) : decide ((G.2.2 : Int) = 0) = true)) (by kernel_rfl) fun S => ?_
    have eR : parA x.l at_ = none := by rw [rparA, ← hG]; exact if_pos (Or.inl h0)
    refine sy_run ⟨0, []⟩ 60 S fun bs aa w S => ?_
    rw [eR]
    exact sy_ret S (by kernel_rfl) (by kernel_rfl) fun hg => ⟨bel_gr hg, rfl⟩
  obtain ⟨k, rfl, hkl, h257⟩ := hng h0
  refine sy_cast 20 S (congrArg Value.bool (decide_eq_false (by omega) : decide ((G.2.2 : Int) = 0) = false)) (by kernel_rfl) fun S => ?_
  refine sy_ops 4 S fun bs aa w S => ?_
  by_cases h1 : r.l.length = 0
  case pos =>
    refine sy_cast 24 S (congrArg Value.bool (decide_eq_true (by omega) : decide ((r.l.length : Int) = 0) = true)) (by kernel_rfl) fun S => ?_
    have eR : parA x.l (k : Int) = none := by rw [rparA, ← hG]; exact if_pos (Or.inr (Or.inl (by rw [eRec]; exact h1)))
    refine sy_run ⟨0, []⟩ 60 S fun bs aa w S => ?_
    rw [eR]
    exact sy_ret S (by kernel_rfl) (by kernel_rfl) fun hg => ⟨bel_gr hg, rfl⟩
  refine sy_cast 24 S (congrArg Value.bool (decide_eq_false (by omega) : decide ((r.l.length : Int) = 0) = false)) (by kernel_rfl) fun S => ?_
  refine sy_ops 6 S fun bs aa w S => ?_
  by_cases h2 : r.l.length = G.2.2
  case neg =>
    refine sy_cast 30 S (congrArg Value.bool (by rw [decide_eq_false (by omega)]; rfl : (!decide ((r.l.length : Int) = (G.2.2 : Int))) = true)) (by kernel_rfl) fun S => ?_
    have eR : parA x.l (k : Int) = none := by rw [rparA, ← hG]; exact if_pos (Or.inr (Or.inr (Or.inl (by rw [eRec]; exact h2))))
    refine sy_run ⟨0, []⟩ 60 S fun bs aa w S => ?_
    rw [eR]
    exact sy_ret S (by kernel_rfl) (by kernel_rfl) fun hg => ⟨bel_gr hg, rfl⟩
  refine sy_cast 30 S (congrArg Value.bool (by rw [decide_eq_true (by omega)]; rfl : (!decide ((r.l.length : Int) = (G.2.2 : Int))) = false)) (by kernel_rfl) fun S => ?_
  refine sy_ops 7 S fun bs aa w S => ?_
  refine sy_cast 37 S (congrArg (Value.int .i64) (by rw [IntKind.wrap_i64]; omega : IntKind.i64.wrap ((x.l.length : Int) - (k : Int)) = ((x.l.length - k : Nat) : Int))) (by kernel_rfl) fun S => ?_
  refine sy_ops 1 S fun bs aa w S => ?_
  by_cases h3 : x.l.length - k < G.2.2
  case pos =>
    refine sy_cast 38 S (congrArg Value.bool (decide_eq_true (by omega) : decide ((G.2.2 : Int) > ((x.l.length - k : Nat) : Int)) = true)) (by kernel_rfl) fun S => ?_
    have eR : parA x.l (k : Int) = none := by rw [rparA, ← hG]; exact if_pos (Or.inr (Or.inr (Or.inr (Or.inl (by omega)))))
    refine sy_run ⟨0, []⟩ 60 S fun bs aa w S => ?_
    rw [eR]
    exact sy_ret S (by kernel_rfl) (by kernel_rfl) fun hg => ⟨bel_gr hg, rfl⟩
  refine sy_cast 38 S (congrArg Value.bool (decide_eq_false (by omega) : decide ((G.2.2 : Int) > ((x.l.length - k : Nat) : Int)) = false)) (by kernel_rfl) fun S => ?_
  refine sy_run ⟨0, [5]⟩ 60 S fun bs aa w S => ?_
  refine sy_reg S fun S => ?_
  refine sy_ops 6 S fun bs aa w S => ?_
  refine sy_cast 46 S (congrArg (Value.int .i64) (by rw [IntKind.wrap_i64]; omega : IntKind.i64.wrap ((k : Int) + (G.2.2 : Int)) = ((k + G.2.2 : Nat) : Int))) (by kernel_rfl) fun S => ?_
  have hxa := hx.resolve_left (by omega)
  have hyl : ((x.l.drop k).take G.2.2).length = G.2.2 := by rw [List.length_take, List.length_drop]; omega
  refine sy_ex (op := .slice 28 (.tmp 42) (some (.tmp 43)) (some (.tmp 46)) none) (ty := 28) (v := .slice (some ⟨x.b, x.o + k, none⟩) ((x.l.drop k).take G.2.2).length (x.c - k)) S (by kernel_rfl) (ex_sl (p := .slice x.a x.l.length x.c) (l2 := some (.v (.int .i64 (k : Int)))) (h2 := some (.v (.int .i64 ((k + G.2.2 : Nat) : Int)))) (m2 := none) (by kernel_rfl) (by kernel_rfl) (by kernel_rfl) (by kernel_rfl) (fun W => by have q := sl_mid 28 9 Try.underlying28 (by kernel_rfl) x.b x.o x.l.length x.c k (k + G.2.2) (by omega) (by omega) (by omega) W; rw [show k + G.2.2 - k = G.2.2 by omega] at q; rw [hyl, hxa]; exact q)) fun aa S => ?_
  refine sy_call1 S (args := #[r.v, .slice (some ⟨x.b, x.o + k, none⟩) ((x.l.drop k).take G.2.2).length (x.c - k)]) (texts_t _ r ⟨some ⟨x.b, x.o + k, none⟩, x.c - k, x.b, x.o + k, (x.l.drop k).take G.2.2⟩ hr (Or.inr rfl) (by omega) (S.fact (f := rfSt r.b r.o r.l) (by simp)) (sub_str (S.fact (f := rfSt x.b x.o x.l) (by simp)))) (by kernel_rfl) fun aa w hb S => ?_
  by_cases h4 : r.l = (x.l.drop k).take G.2.2
  case neg =>
    refine sy_cast 48 S (congrArg Value.bool (decide_eq_false h4)) (by kernel_rfl) fun S => ?_
    have eR : parA x.l (k : Int) = none := by rw [rparA, ← hG]; exact if_pos (Or.inr (Or.inr (Or.inr (Or.inr (by rw [eRec, Int.toNat_natCast]; exact h4)))))
    refine sy_run ⟨0, []⟩ 60 S fun bs aa w S => ?_
    rw [eR]
    exact sy_ret S (by kernel_rfl) (by kernel_rfl) fun hg => ⟨bel_gr hg, rfl⟩
  refine sy_cast 48 S (congrArg Value.bool (decide_eq_true h4)) (by kernel_rfl) fun S => ?_
  have eR : parA x.l (k : Int) = some G := by
    rw [rparA, ← hG]
    refine if_neg ?_
    rw [eRec, Int.toNat_natCast]
    rintro (q | q | q | q | q)
    · exact h0 q
    · exact h1 q
    · exact q h2
    · omega
    · exact q h4
  refine sy_run ⟨0, []⟩ 60 S fun bs aa w S => ?_
  have hw := S.fact (f := rfWr e.b e.o e.ws) (by simp)
  rw [eR]
  exact sy_ret S (by kernel_rfl) (by kernel_rfl) fun hg => ⟨bel_gr hg, e, hq1, hq2, hok, rfl, hw, hfr.imp id fun q => by omega⟩
end Go.Proofs.Ytaclhiagfgmgkaa


/-
  Layer 23: the reference's Recover.
-/
namespace Go.Proofs.Ytaclhiagfgmgkaa
open Go Go.RowKit SZ
set_option linter.unusedVariables false
set_option linter.unusedSimpArgs false
set_option maxRecDepth 100000
attribute [local irreducible] post GD Nxt NxtAll
noncomputable def ucC : Cfg := ⟨goZ 60 [] [.code (bodyOf Try.f20)], ⟨0, [], []⟩⟩
noncomputable def ucS (x : Sr) (ev : Value) (k : Nat) (last : Int) : SS := ⟨40, [(0, .v x.v), (4, .v ev), (5, .v (.int .i64 (k : Int))), (6, .v (.int .i64 last))], []⟩
set_option maxHeartbeats 8000000 in
theorem uc_s (w0 : World) (x : Sr) (hx : x.ok) (hc : x.l.length ≤ x.c) (hl : x.l.length ≤ 1000) (R : List (Int × Ws) × Nat) (f k : Nat) (hk : k ≤ x.l.length) (ih : ∀ (es : List Et) (ev : Value) (k : Nat) (last : Int) (hk : k ≤ x.l.length ∧ x.l.length - k < f) (hes : ∀ e ∈ es, e.ok ∧ fitE e.ver e.ws ∧ (e.ws.length = 0 ∨ w0.heap.size ≤ e.b)) (hel : (es).length ≤ k) (hap : (∀ f ∈ [rfSt x.b x.o x.l, rfEl (es)], ∀ g, Value.ownBlock ev = some g → ¬f.bl g)) (hR : (es).map prE ++ (recS (f) x.l (k) last).1 = R.1 ∧ (recS (f) x.l (k) last).2 = R.2) (aa : Act) (w : World) (S : Sy w0 [] [] (ucS x ev (k) last) [rfSt x.b x.o x.l, rfEl (es), rfOwn w0.heap.size 24 2 ev (es).length (esV (es))] aa w), post Try.prog (.rnd (f) (bodyL ucC) :: ucC.k.tail) (bodyPost Try.prog Try.f20 (recP w0 R)) .normal aa w) (hfu : x.l.length - k < f + 1) (es : List Et) (ev : Value) (last : Int) (hes : ∀ e ∈ es, e.ok ∧ fitE e.ver e.ws ∧ (e.ws.length = 0 ∨ w0.heap.size ≤ e.b)) (hel : (es).length ≤ k) (hap : (∀ f ∈ [rfSt x.b x.o x.l, rfEl (es)], ∀ g, Value.ownBlock ev = some g → ¬f.bl g)) (hR : (es).map prE ++ (recS (f + 1) x.l (k) last).1 = R.1 ∧ (recS (f + 1) x.l (k) last).2 = R.2) (aa : Act) (w : World) (S : Sy w0 [] [] (ucS x ev (k) last) [rfSt x.b x.o x.l, rfEl (es), rfOwn w0.heap.size 24 2 ev (es).length (esV (es))] aa w) : post Try.prog (.rnd (f + 1) (bodyL ucC) :: ucC.k.tail) (bodyPost Try.prog Try.f20 (recP w0 R)) .normal aa w := by
  obtain ⟨ii, hi1, hi2, hi3, hi4⟩ := parts3 enI
  refine sy_run (c := ⟨(.rnd (f + 1) (bodyL ucC) :: ucC.k.tail), ucS x ev k last⟩) ⟨0, [4]⟩ 50 S fun bs aa w S => ?_
  refine sy_reg S fun S => ?_
  refine sy_ops 4 S fun bs aa w S => ?_
  refine sy_cast 13 S (congrArg Value.bool (decide_eq_true (by omega) : decide ((k : Int) ≤ (x.l.length : Int)) = true)) (by kernel_rfl) fun S => ?_
  refine sy_run ⟨0, [5]⟩ 60 S fun bs aa w S => ?_
  refine sy_reg S fun S => ?_
  refine sy_ops 2 S fun bs aa w S => ?_
  refine sy_nm S fun bs S => ?_
  have hpar := rparse_t w x hx hc hl (k : Int) (by unfold I64; omega) (S.fact (f := rfSt x.b x.o x.l) (by simp))
  rw [parA_nat] at hpar
  have hblk : ∀ j, j < bs.length → bs.getD j 0 < w.heap.size := fun j hj => S.lt hj
  have hgs0 := S.gr.size
  have how0 := S.fact (f := rfOwn w0.heap.size 24 2 ev (es).length (esV (es))) (by simp)
  rcases hp : parseS x.l k with _ | ⟨v, ws, n⟩
  · rw [recS_none hp] at hR
    refine sy_call1 S (args := #[x.v, .int .i64 (k : Int)]) (hpar.mono fun y w' h => ⟨by have h2 := h.2; rw [hp] at h2; exact h2, h.1⟩) (by kernel_rfl) fun aa w hb S => ?_
    refine sy_run ⟨0, []⟩ 60 S fun bs aa w S => ?_
    have how := S.fact (f := rfOwn w0.heap.size 24 2 ev (es).length (esV (es))) (by simp)
    have hew := S.fact (f := rfEl es) (by simp)
    exact sy_ret S (by kernel_rfl) (by kernel_rfl) fun hg => ⟨bel_gr hg, es, ev, by rw [← hR.2], by rw [← hR.1, List.append_nil], how, hes, hew⟩
  · obtain ⟨hfit, hvv, hn, hn1, hkl, hnl, htk⟩ := parse_rec hp
    refine sy_call S (X := Et) (val := fun e => .tuple #[e.v, .int .i64 (n : Int), .int .i64 0]) (C := fun e w' => e.ver = v ∧ e.ws = ws ∧ e.ok ∧ WrAt w' e.b e.o e.ws ∧ (e.ws.length = 0 ∨ w.heap.size ≤ e.b)) (args := #[x.v, .int .i64 (k : Int)]) (hpar.mono fun y w' h => by
      have h2 := h.2
      rw [hp] at h2
      obtain ⟨e, q1, q2, q3, q4, q5, q6⟩ := h2
      exact ⟨e, q4, ⟨q1, q2, q3, q5, q6⟩, h.1⟩) (by kernel_rfl) fun e aa w1 hC hb S => ?_
    obtain ⟨rfl, rfl, hok, hwr, hfr⟩ := hC
    have S := S.add (rfWr e.b e.o e.ws) hwr (fun i hi hb => by
      obtain ⟨q1, q2⟩ := hb
      have := hblk i hi
      have := hfr.resolve_left q2
      omega)
    refine sy_run ⟨0, [6]⟩ 60 S fun bs aa w S => ?_
    refine sy_reg S fun S => ?_
    refine sy_ops 7 S fun bs aa w S => ?_
    by_cases hle : e.ver ≤ last
    · rw [recS_old hp hle] at hR
      refine sy_cast 27 S (congrArg Value.bool (decide_eq_true hle)) (by kernel_rfl) fun S => ?_
      refine sy_run ⟨0, []⟩ 60 S fun bs aa w S => ?_
      have how := S.fact (f := rfOwn w0.heap.size 24 2 ev (es).length (esV (es))) (by simp)
      have hew := S.fact (f := rfEl es) (by simp)
      exact sy_ret S (by kernel_rfl) (by kernel_rfl) fun hg => ⟨bel_gr hg, es, ev, by rw [← hR.2], by rw [← hR.1, List.append_nil], how, hes, hew⟩
    · rw [recS_some hp hle] at hR
      refine sy_cast 27 S (congrArg Value.bool (decide_eq_false hle)) (by kernel_rfl) fun S => ?_
      refine sy_run ⟨0, [7]⟩ 60 S fun bs aa w S => ?_
      refine sy_reg S fun S => ?_
      refine sy_ops 3 S fun bs aa w S => ?_
      refine sy_nm S fun bs S => ?_
      have how := S.fact (f := rfOwn w0.heap.size 24 2 ev (es).length (esV (es))) (by simp)
      have hapb := (S.fs (rfOwn w0.heap.size 24 2 ev (es).length (esV (es))) (by simp)).2
      have hblk2 : ∀ j, j < bs.length → bs.getD j 0 < w.heap.size := fun j hj => S.lt hj
      have hFP : ∀ f ∈ [rfWr e.b e.o e.ws, rfSt x.b x.o x.l, rfEl es], f.P w := fun f hf => (S.fs f (by simp only [List.mem_cons, List.not_mem_nil, or_false] at hf ⊢; rcases hf with rfl | rfl | rfl <;> simp)).1
      have hap3 : ∀ f ∈ [rfWr e.b e.o e.ws, rfSt x.b x.o x.l, rfEl es], ∀ g, ev.ownBlock = some g → ¬f.bl g := by
        intro f hf g hg hb
        rcases List.mem_cons.1 hf with rfl | hf
        · have q1 := (how0.lt g hg).2
          have q2 := hfr.resolve_left hb.2
          have q3 := hb.1
          omega
        · exact hap f hf g hg hb
      have hel2 : es.length ≤ 1000 := by omega
      refine sy_appO w0.heap.size (u := .v ev) (y := .s 1 0 1 1) (v := ev) (ad := adr bs 1 0) (m := 1) (cp := 1) (n := es.length) (size := 2) (bytes := 32) (e := 24) (t := 36) (xs := esV es) (news := [.int .i64 e.ver, .slice e.a e.ws.length e.c]) [rfWr e.b e.o e.ws, rfSt x.b x.o x.l, rfEl es] S (by kernel_rfl) Try.underlying36 hi1 hi2 hi3 hi4 rfl (by omega) rfl rfl how S.gr.size (own3 (P := Try.prog) (ty := 24) (cs := [.int .i64 e.ver, .slice e.a e.ws.length e.c]) S 1 (by kernel_rfl)) rfl (by intro u hu; simp only [List.mem_cons, List.not_mem_nil, or_false] at hu; rcases hu with rfl | rfl <;> rfl) (by simp only [maxLen]; omega) (by omega)
        (fun g hg => Or.inr (how.lt g hg).1) (fun f hf => ⟨by simp only [List.mem_cons, List.not_mem_nil, or_false] at hf ⊢; rcases hf with rfl | rfl | rfl <;> simp, hap3 f hf⟩) (fun j hj hb => hapb j hj hb)
        fun v' aa w2 hO hg' hnn S => ?_
      have hap4 := ap_ny hFP hap3 hnn
      have S := S.add (rfOwn w0.heap.size 24 2 v' (es ++ [e]).length (esV (es ++ [e]))) (by rw [esV_snoc, List.length_append]; exact hO) (fun j hj hb => (hnn _ hb).elim (fun q => hapb j hj q) (fun q => by have := hblk2 j hj; omega))
      have hw1 := S.fact (f := rfWr e.b e.o e.ws) (by simp)
      have hw2 := S.fact (f := rfEl es) (by simp)
      have ha1 := (S.fs (rfWr e.b e.o e.ws) (by simp)).2
      have ha2 := (S.fs (rfEl es) (by simp)).2
      have S := S.add (rfEl (es ++ [e])) (by
        intro q hq
        rcases List.mem_append.1 hq with hq | hq
        · exact hw2 q hq
        · obtain rfl := List.mem_singleton.1 hq
          exact hw1) (fun j hj hb => by
        obtain ⟨q, hq, q1, q2⟩ := hb
        rcases List.mem_append.1 hq with hq | hq
        · exact ha2 j hj ⟨q, hq, q1, q2⟩
        · obtain rfl := List.mem_singleton.1 hq
          exact ha1 j hj ⟨q1, q2⟩)
      have hap5 : (∀ f ∈ [rfSt x.b x.o x.l, rfEl (es ++ [e])], ∀ g, Value.ownBlock v' = some g → ¬f.bl g) := by
        intro f hf g hg hb
        simp only [List.mem_cons, List.not_mem_nil, or_false] at hf
        rcases hf with rfl | rfl
        · exact hap4 _ (by simp) g hg hb
        · obtain ⟨q, hq, q1, q2⟩ := hb
          rcases List.mem_append.1 hq with hq | hq
          · exact hap4 (rfEl es) (by simp) g hg ⟨q, hq, q1, q2⟩
          · obtain rfl := List.mem_singleton.1 hq
            exact hap4 (rfWr q.b q.o q.ws) (by simp) g hg ⟨q1, q2⟩
      refine sy_run ⟨0, [8]⟩ 60 S fun bs aa w S => ?_
      refine sy_reg S fun S => ?_
      refine sy_ops 3 S fun bs aa w S => ?_
      refine sy_cast 35 S (congrArg (Value.int .i64) (by rw [IntKind.wrap_i64]; omega : IntKind.i64.wrap ((k : Int) + (n : Int)) = ((k + n : Nat) : Int))) (by kernel_rfl) fun S => ?_
      refine sy_run ⟨0, [999]⟩ 60 S fun bs aa w S => ?_
      have S := S.sub (F' := [rfSt x.b x.o x.l, rfEl (es ++ [e]), rfOwn w0.heap.size 24 2 v' (es ++ [e]).length (esV (es ++ [e]))]) (by intro f hf; simp only [List.mem_cons, List.not_mem_nil, or_false] at hf; rcases hf with rfl | rfl | rfl <;> simp)
      have S2 := S.to [] (ucS x v' (k + n) e.ver) (by kernel_rfl) (by kernel_rfl) (by kernel_rfl) (by kernel_rfl) (by kernel_rfl)
      refine sy_at2 (k' := (.rnd (f) (bodyL ucC) :: ucC.k.tail)) (by kernel_rfl) ?_
      exact ih (es ++ [e]) v' (k + n) e.ver ⟨by omega, by omega⟩ (by
        intro q hq
        rcases List.mem_append.1 hq with hq | hq
        · exact hes q hq
        · obtain rfl := List.mem_singleton.1 hq
          exact ⟨hok, hfit, hfr.imp id fun z => by omega⟩) (by rw [List.length_append]; show es.length + 1 ≤ _; omega) hap5 ⟨by rw [← hR.1]; simp [prE], hR.2⟩ aa w S2
theorem uc_a (w0 : World) (x : Sr) (hx : x.ok) (hc : x.l.length ≤ x.c) (hl : x.l.length ≤ 1000) (R : List (Int × Ws) × Nat) : ∀ (f : Nat) (es : List Et) (ev : Value) (k : Nat) (last : Int) (hk : k ≤ x.l.length ∧ x.l.length - k < f) (hes : ∀ e ∈ es, e.ok ∧ fitE e.ver e.ws ∧ (e.ws.length = 0 ∨ w0.heap.size ≤ e.b)) (hel : (es).length ≤ k) (hap : (∀ f ∈ [rfSt x.b x.o x.l, rfEl (es)], ∀ g, Value.ownBlock ev = some g → ¬f.bl g)) (hR : (es).map prE ++ (recS (f) x.l (k) last).1 = R.1 ∧ (recS (f) x.l (k) last).2 = R.2) (aa : Act) (w : World) (S : Sy w0 [] [] (ucS x ev (k) last) [rfSt x.b x.o x.l, rfEl (es), rfOwn w0.heap.size 24 2 ev (es).length (esV (es))] aa w), post Try.prog (.rnd (f) (bodyL ucC) :: ucC.k.tail) (bodyPost Try.prog Try.f20 (recP w0 R)) .normal aa w
  | 0, es, ev, k, last, hk, hes, hel, hap, hR, aa, w, S => by omega
  | f + 1, es, ev, k, last, hk, hes, hel, hap, hR, aa, w, S => uc_s w0 x hx hc hl R f k hk.1 (uc_a w0 x hx hc hl R f) hk.2 es ev last hes hel hap hR aa w S
set_option maxHeartbeats 8000000 in
theorem rrecover_t (w0 : World) (x : Sr) (hx : x.ok) (hc : x.l.length ≤ x.c) (hl : x.l.length ≤ 1000) (hA : x.at w0) : Calls Try.prog 20 #[x.v] w0 (recP w0 (recS (x.l.length + 1) x.l 0 0)) := by
  refine sy_enterF [] [rfSt x.b x.o x.l] (by intro f hf; simp only [List.mem_singleton] at hf; subst hf; exact hA) Try.func20 rfl rfl fun aa S => ?_
  refine sy_run ⟨0, []⟩ 60 S fun bs aa w S => ?_
  have S := S.add (rfOwn w0.heap.size 24 2 (.slice none 0 0) (([] : List Et)).length (esV (([] : List Et)))) (World.ownsRow_nil _ _ _ _) (fun i hi h => by cases h)
  have S := S.add (rfEl []) (fun e he => by cases he) (fun i hi h => by obtain ⟨e, he, _⟩ := h; cases he)
  have S := S.sub (F' := [rfSt x.b x.o x.l, rfEl (([] : List Et)), rfOwn w0.heap.size 24 2 (.slice none 0 0) (([] : List Et)).length (esV (([] : List Et)))]) (by intro f hf; simp only [List.mem_cons, List.not_mem_nil, or_false] at hf; rcases hf with rfl | rfl | rfl <;> simp)
  have S2 := S.to [] (ucS x (.slice none 0 0) 0 0) (by kernel_rfl) (by kernel_rfl) (by kernel_rfl) (by kernel_rfl) (by kernel_rfl)
  refine sy_loop (x.l.length + 1) (by kernel_rfl) ?_
  refine sy_at2 (k' := (.rnd (x.l.length + 1) (bodyL ucC) :: ucC.k.tail)) (by kernel_rfl) ?_
  exact uc_a w0 x hx hc hl _ (x.l.length + 1) [] (.slice none 0 0) 0 0 ⟨by omega, by omega⟩ (fun e he => by cases he) (by simp) (fun f hf g hg => by cases hg) ⟨by simp, rfl⟩ aa w S2
end Go.Proofs.Ytaclhiagfgmgkaa


/-
  Layer 23: lists of entries compared; WalParse.
-/
namespace Go.Proofs.Ytaclhiagfgmgkaa
open Go Go.RowKit SZ
set_option linter.unusedVariables false
set_option linter.unusedSimpArgs false
set_option maxRecDepth 100000
attribute [local irreducible] post GD Nxt NxtAll
def ErAt (w : World) (b o : Nat) (es : List Et) : Prop := ∀ j, j < es.length → w.cell? ⟨b, o + j * 2, none⟩ = some (.int .i64 (es.getD j e00).ver) ∧ w.cell? ⟨b, o + j * 2 + 1, none⟩ = some (.slice (es.getD j e00).a (es.getD j e00).ws.length (es.getD j e00).c)
def rfEr (b o : Nat) (es : List Et) : RF := ⟨fun b' => b' = b ∧ es.length ≠ 0, fun w => ErAt w b o es, fun w h b' hb => by
  obtain ⟨rfl, hl⟩ := hb
  exact World.block_lt_of_cell? w _ (h 0 (by omega)).1, fun w w' h hb j hj => ⟨(World.cell?_of_block (a := ⟨b, o + j * 2, none⟩) (hb b ⟨rfl, by omega⟩)).trans (h j hj).1, (World.cell?_of_block (a := ⟨b, o + j * 2 + 1, none⟩) (hb b ⟨rfl, by omega⟩)).trans (h j hj).2⟩⟩
theorem ld_en {w : World} {b o j : Nat} {es : List Et} (h : ErAt w b o es) (hj : j < es.length) : (loadVar 24 ⟨b, o + j * 2, none⟩).run Try.prog w = .ok (es.getD j e00).v w := by
  obtain ⟨h0, h1⟩ := h j hj
  refine run_loadVar_mid w b (o + j * 2) 24 [.int .i64 (es.getD j e00).ver, .slice (es.getD j e00).a (es.getD j e00).ws.length (es.getD j e00).c] _ ?_ Try.underlying24 rfl (by kernel_rfl)
  intro i x hi
  match i, hi with
  | 0, hi => simp at hi; subst hi; exact h0
  | 1, hi => simp at hi; subst hi; exact h1
  | i + 2, hi => simp at hi
theorem esV_at : ∀ (es : List Et) (j : Nat), j < es.length → (esV es)[j * 2]? = some (.int .i64 (es.getD j e00).ver) ∧ (esV es)[j * 2 + 1]? = some (.slice (es.getD j e00).a (es.getD j e00).ws.length (es.getD j e00).c)
  | [], j, h => by simp at h
  | p :: r, 0, _ => ⟨rfl, rfl⟩
  | p :: r, j + 1, h => by
    have hr := esV_at r j (by simpa using h)
    have e : esV (p :: r) = .int .i64 p.ver :: .slice p.a p.ws.length p.c :: esV r := rfl
    rw [e, show (j + 1) * 2 = j * 2 + 1 + 1 by omega]
    exact hr
theorem er_of_owns {w : World} {B : Nat} {v : Value} {es : List Et} (h : w.ownsRow B 24 2 v es.length (esV es)) : ∃ a c b o, v = .slice a es.length c ∧ (es.length = 0 ∨ a = some ⟨b, o, none⟩) ∧ ErAt w b o es ∧ (es.length = 0 ∨ B ≤ b) := by
  rcases h.2 with ⟨rfl, hz⟩ | ⟨g, cap, cur, rfl, hb, hg, h1, h2, h3, h4⟩
  · exact ⟨none, 0, 0, 0, by rw [hz], Or.inl hz, fun j hj => by omega, Or.inl hz⟩
  · have hc := h.cells (g := g) rfl
    refine ⟨_, cap, g, 0, rfl, Or.inr rfl, fun j hj => ?_, Or.inr hb⟩
    obtain ⟨q1, q2⟩ := esV_at es j hj
    have c1 := hc _ _ q1
    have c2 := hc _ _ q2
    have ea : ∀ k, (⟨g, 0, none⟩ : Addr).add k = ⟨g, 0 + k, none⟩ := fun k => by unfold Addr.add; split <;> simp_all
    rw [ea] at c1 c2
    exact ⟨c1, c2⟩
theorem map_eq {α β : Type} {f : α → β} (z : α) (l m : List α) (hl : l.length = m.length) (h : ∀ i, i < l.length → f (l.getD i z) = f (m.getD i z)) : l.map f = m.map f := by
  apply List.ext_getElem (by simpa using hl)
  intro i h1 h2
  have h3 : i < l.length := by simpa using h1
  have h4 : i < m.length := by omega
  have := h i h3
  simpa [List.getD, List.getElem?_eq_getElem h3, List.getElem?_eq_getElem h4] using this
theorem map_ne {α β : Type} {f : α → β} (z : α) (l m : List α) (h : l.map f = m.map f) (i : Nat) (hi : i < l.length) : f (l.getD i z) = f (m.getD i z) := by
  have hl : l.length = m.length := by simpa using congrArg List.length h
  have h4 : i < m.length := by omega
  have h5 : (l.map f)[i]? = (m.map f)[i]? := by rw [h]
  simpa [List.getD, List.getElem?_eq_getElem hi, List.getElem?_eq_getElem h4] using h5
noncomputable def alC : Cfg := ⟨goZ 60 [0] [.code (bodyOf Try.f22)], ⟨0, [], []⟩⟩
noncomputable def alS (a1 : Option Addr) (n1 c1 : Nat) (a2 : Option Addr) (n2 c2 : Nat) (j : Nat) : SS := ⟨29, [(0, .v (.slice a1 n1 c1)), (1, .v (.slice a2 n2 c2)), (5, .v (.int .i64 (j : Int)))], []⟩
set_option maxHeartbeats 8000000 in
theorem al_e (w0 : World) (xs ys : List Et) (a1 a2 : Option Addr) (c1 c2 b1 o1 b2 o2 : Nat) (h1 : xs.length = 0 ∨ a1 = some ⟨b1, o1, none⟩) (h2 : ys.length = 0 ∨ a2 = some ⟨b2, o2, none⟩) (hn : xs.length = ys.length) (hl : xs.length ≤ 100000) (ho1 : ∀ e ∈ xs, e.ok ∧ e.ws.length ≤ 100000) (ho2 : ∀ e ∈ ys, e.ok ∧ e.ws.length ≤ 100000) (m : Nat) (hv : ∀ i, i < xs.length → prE (xs.getD i e00) = prE (ys.getD i e00)) (aa : Act) (w : World) (S : Sy w0 [] [] (alS a1 xs.length c1 a2 ys.length c2 (xs.length)) [rfEr b1 o1 xs, rfEr b2 o2 ys, rfEl xs, rfEl ys] aa w) : post Try.prog (.rnd (m + 1) (bodyL alC) :: alC.k.tail) (bodyPost Try.prog Try.f22 fun z w' => z = .returned (.bool (decide (xs.map prE = ys.map prE))) ∧ Below w0.heap.size w0 w') .normal aa w := by
  refine sy_run (c := ⟨(.rnd (m + 1) (bodyL alC) :: alC.k.tail), alS a1 xs.length c1 a2 ys.length c2 (xs.length)⟩) ⟨0, [4]⟩ 50 S fun bs aa w S => ?_
  refine sy_reg S fun S => ?_
  refine sy_ops 4 S fun bs aa w S => ?_
  refine sy_cast 15 S (congrArg Value.bool (decide_eq_false (by omega) : decide ((xs.length : Int) < (xs.length : Int)) = false)) (by kernel_rfl) fun S => ?_
  refine sy_run ⟨0, []⟩ 60 S fun bs aa w S => ?_
  rw [decide_eq_true (map_eq e00 xs ys hn hv)]
  exact sy_ret S (by kernel_rfl) (by kernel_rfl) fun hg => ⟨rfl, bel_gr hg⟩
set_option maxHeartbeats 8000000 in
theorem al_b (w0 : World) (xs ys : List Et) (a1 a2 : Option Addr) (c1 c2 b1 o1 b2 o2 : Nat) (h1 : xs.length = 0 ∨ a1 = some ⟨b1, o1, none⟩) (h2 : ys.length = 0 ∨ a2 = some ⟨b2, o2, none⟩) (hn : xs.length = ys.length) (hl : xs.length ≤ 100000) (ho1 : ∀ e ∈ xs, e.ok ∧ e.ws.length ≤ 100000) (ho2 : ∀ e ∈ ys, e.ok ∧ e.ws.length ≤ 100000) (m j : Nat) (hj : j < xs.length) (hp : ¬prE (xs.getD j e00) = prE (ys.getD j e00)) (aa : Act) (w : World) (S : Sy w0 [] [] (alS a1 xs.length c1 a2 ys.length c2 (j)) [rfEr b1 o1 xs, rfEr b2 o2 ys, rfEl xs, rfEl ys] aa w) : post Try.prog (.rnd (m + 1) (bodyL alC) :: alC.k.tail) (bodyPost Try.prog Try.f22 fun z w' => z = .returned (.bool (decide (xs.map prE = ys.map prE))) ∧ Below w0.heap.size w0 w') .normal aa w := by
  refine sy_run (c := ⟨(.rnd (m + 1) (bodyL alC) :: alC.k.tail), alS a1 xs.length c1 a2 ys.length c2 (j)⟩) ⟨0, [4]⟩ 50 S fun bs aa w S => ?_
  refine sy_reg S fun S => ?_
  refine sy_ops 4 S fun bs aa w S => ?_
  refine sy_cast 15 S (congrArg Value.bool (decide_eq_true (by omega) : decide ((j : Int) < (xs.length : Int)) = true)) (by kernel_rfl) fun S => ?_
  refine sy_run ⟨0, []⟩ 60 S fun bs aa w S => ?_
  letI : HF := ⟨[rfEr b1 o1 xs, rfEr b2 o2 ys]⟩
  refine dr_enter [] (by kernel_rfl) (by kernel_rfl) S (by kernel_rfl) (fun aa w D => ?_) (fun f hf => by have hf2 : f ∈ [rfEr b1 o1 xs, rfEr b2 o2 ys] := hf; simp only [List.mem_cons, List.not_mem_nil, or_false] at hf2; rcases hf2 with rfl | rfl <;> simp)
  refine dr_tix 2 D (by kernel_rfl) (by kernel_rfl) (by kernel_rfl) (b := b1) (off := o1) (len := xs.length) (n := j) (size := 2) (ix := (j : Int)) (by rw [← h1.resolve_left (by omega)]; kernel_rfl) rfl (by omega) fun aa D => ?_
  refine dr_tld 3 D (by kernel_rfl) (by kernel_rfl) (by kernel_rfl) (ty := 24) (ad := ⟨b1, o1 + j * 2, none⟩) (v := (xs.getD j e00).v) (fun W hW => ld_en (j := j) (show ErAt W b1 o1 xs from hW (rfEr b1 o1 xs) (by show _ ∈ [rfEr b1 o1 xs, rfEr b2 o2 ys]; simp)) (by omega)) (by kernel_rfl) fun aa D => ?_
  refine dr_tix 6 D (by kernel_rfl) (by kernel_rfl) (by kernel_rfl) (b := b2) (off := o2) (len := ys.length) (n := j) (size := 2) (ix := (j : Int)) (by rw [← h2.resolve_left (by omega)]; kernel_rfl) rfl (by omega) fun aa D => ?_
  refine dr_tld 7 D (by kernel_rfl) (by kernel_rfl) (by kernel_rfl) (ty := 24) (ad := ⟨b2, o2 + j * 2, none⟩) (v := (ys.getD j e00).v) (fun W hW => ld_en (j := j) (show ErAt W b2 o2 ys from hW (rfEr b2 o2 ys) (by show _ ∈ [rfEr b1 o1 xs, rfEr b2 o2 ys]; simp)) (by omega)) (by kernel_rfl) fun aa D => ?_
  have m1 := getD_mem xs j e00 (by omega)
  have m2 := getD_mem ys j e00 (by omega)
  refine dr_call1 8 D (by kernel_rfl) (by kernel_rfl) (by kernel_rfl) (one_t w (xs.getD j e00) (ys.getD j e00) (ho1 _ m1).1 (ho2 _ m2).1 (ho1 _ m1).2 ((D.S.fact (f := rfEl xs) (by simp)) _ m1) ((D.S.fact (f := rfEl ys) (by simp)) _ m2)) (by kernel_rfl) fun aa w hb D => ?_
  refine dr_end D (by kernel_rfl) fun S => ?_
  refine sy_run ⟨0, [7]⟩ 60 S fun bs aa w S => ?_
  refine sy_reg S fun S => ?_
  refine sy_ops 1 S fun bs aa w S => ?_
  refine sy_cast 27 S (congrArg Value.bool (decide_eq_false (fun q => hp (by unfold prE; rw [q.1, q.2])) : decide ((xs.getD j e00).ver = (ys.getD j e00).ver ∧ (xs.getD j e00).ws = (ys.getD j e00).ws) = false)) (by kernel_rfl) fun S => ?_
  refine sy_run ⟨0, []⟩ 60 S fun bs aa w S => ?_
  rw [decide_eq_false (fun q : xs.map prE = ys.map prE => hp (map_ne e00 xs ys q j hj))]
  exact sy_ret S (by kernel_rfl) (by kernel_rfl) fun hg => ⟨rfl, bel_gr hg⟩
set_option maxHeartbeats 8000000 in
theorem al_s (w0 : World) (xs ys : List Et) (a1 a2 : Option Addr) (c1 c2 b1 o1 b2 o2 : Nat) (h1 : xs.length = 0 ∨ a1 = some ⟨b1, o1, none⟩) (h2 : ys.length = 0 ∨ a2 = some ⟨b2, o2, none⟩) (hn : xs.length = ys.length) (hl : xs.length ≤ 100000) (ho1 : ∀ e ∈ xs, e.ok ∧ e.ws.length ≤ 100000) (ho2 : ∀ e ∈ ys, e.ok ∧ e.ws.length ≤ 100000) (m j : Nat) (hj : j < xs.length) (hp : prE (xs.getD j e00) = prE (ys.getD j e00)) (ih : (∀ i, i < j + 1 → prE (xs.getD i e00) = prE (ys.getD i e00)) → ∀ (aa : Act) (w : World) (S : Sy w0 [] [] (alS a1 xs.length c1 a2 ys.length c2 (j + 1)) [rfEr b1 o1 xs, rfEr b2 o2 ys, rfEl xs, rfEl ys] aa w), post Try.prog (.rnd (m) (bodyL alC) :: alC.k.tail) (bodyPost Try.prog Try.f22 fun z w' => z = .returned (.bool (decide (xs.map prE = ys.map prE))) ∧ Below w0.heap.size w0 w') .normal aa w) (hv : ∀ i, i < j → prE (xs.getD i e00) = prE (ys.getD i e00)) (aa : Act) (w : World) (S : Sy w0 [] [] (alS a1 xs.length c1 a2 ys.length c2 (j)) [rfEr b1 o1 xs, rfEr b2 o2 ys, rfEl xs, rfEl ys] aa w) : post Try.prog (.rnd (m + 1) (bodyL alC) :: alC.k.tail) (bodyPost Try.prog Try.f22 fun z w' => z = .returned (.bool (decide (xs.map prE = ys.map prE))) ∧ Below w0.heap.size w0 w') .normal aa w := by
  refine sy_run (c := ⟨(.rnd (m + 1) (bodyL alC) :: alC.k.tail), alS a1 xs.length c1 a2 ys.length c2 (j)⟩) ⟨0, [4]⟩ 50 S fun bs aa w S => ?_
  refine sy_reg S fun S => ?_
  refine sy_ops 4 S fun bs aa w S => ?_
  refine sy_cast 15 S (congrArg Value.bool (decide_eq_true (by omega) : decide ((j : Int) < (xs.length : Int)) = true)) (by kernel_rfl) fun S => ?_
  refine sy_run ⟨0, []⟩ 60 S fun bs aa w S => ?_
  letI : HF := ⟨[rfEr b1 o1 xs, rfEr b2 o2 ys]⟩
  refine dr_enter [] (by kernel_rfl) (by kernel_rfl) S (by kernel_rfl) (fun aa w D => ?_) (fun f hf => by have hf2 : f ∈ [rfEr b1 o1 xs, rfEr b2 o2 ys] := hf; simp only [List.mem_cons, List.not_mem_nil, or_false] at hf2; rcases hf2 with rfl | rfl <;> simp)
  refine dr_tix 2 D (by kernel_rfl) (by kernel_rfl) (by kernel_rfl) (b := b1) (off := o1) (len := xs.length) (n := j) (size := 2) (ix := (j : Int)) (by rw [← h1.resolve_left (by omega)]; kernel_rfl) rfl (by omega) fun aa D => ?_
  refine dr_tld 3 D (by kernel_rfl) (by kernel_rfl) (by kernel_rfl) (ty := 24) (ad := ⟨b1, o1 + j * 2, none⟩) (v := (xs.getD j e00).v) (fun W hW => ld_en (j := j) (show ErAt W b1 o1 xs from hW (rfEr b1 o1 xs) (by show _ ∈ [rfEr b1 o1 xs, rfEr b2 o2 ys]; simp)) (by omega)) (by kernel_rfl) fun aa D => ?_
  refine dr_tix 6 D (by kernel_rfl) (by kernel_rfl) (by kernel_rfl) (b := b2) (off := o2) (len := ys.length) (n := j) (size := 2) (ix := (j : Int)) (by rw [← h2.resolve_left (by omega)]; kernel_rfl) rfl (by omega) fun aa D => ?_
  refine dr_tld 7 D (by kernel_rfl) (by kernel_rfl) (by kernel_rfl) (ty := 24) (ad := ⟨b2, o2 + j * 2, none⟩) (v := (ys.getD j e00).v) (fun W hW => ld_en (j := j) (show ErAt W b2 o2 ys from hW (rfEr b2 o2 ys) (by show _ ∈ [rfEr b1 o1 xs, rfEr b2 o2 ys]; simp)) (by omega)) (by kernel_rfl) fun aa D => ?_
  have m1 := getD_mem xs j e00 (by omega)
  have m2 := getD_mem ys j e00 (by omega)
  refine dr_call1 8 D (by kernel_rfl) (by kernel_rfl) (by kernel_rfl) (one_t w (xs.getD j e00) (ys.getD j e00) (ho1 _ m1).1 (ho2 _ m2).1 (ho1 _ m1).2 ((D.S.fact (f := rfEl xs) (by simp)) _ m1) ((D.S.fact (f := rfEl ys) (by simp)) _ m2)) (by kernel_rfl) fun aa w hb D => ?_
  refine dr_end D (by kernel_rfl) fun S => ?_
  refine sy_run ⟨0, [7]⟩ 60 S fun bs aa w S => ?_
  refine sy_reg S fun S => ?_
  refine sy_ops 1 S fun bs aa w S => ?_
  refine sy_cast 27 S (congrArg Value.bool (decide_eq_true ⟨congrArg Prod.fst hp, congrArg Prod.snd hp⟩ : decide ((xs.getD j e00).ver = (ys.getD j e00).ver ∧ (xs.getD j e00).ws = (ys.getD j e00).ws) = true)) (by kernel_rfl) fun S => ?_
  refine sy_run ⟨0, [5]⟩ 60 S fun bs aa w S => ?_
  refine sy_reg S fun S => ?_
  refine sy_ops 2 S fun bs aa w S => ?_
  refine sy_cast 17 S (congrArg (Value.int .i64) (by rw [IntKind.wrap_i64]; omega : IntKind.i64.wrap ((j : Int) + 1) = ((j + 1 : Nat) : Int))) (by kernel_rfl) fun S => ?_
  refine sy_run ⟨0, [999]⟩ 50 S fun bs aa w S => ?_
  have S2 := S.to [] (alS a1 xs.length c1 a2 ys.length c2 (j + 1)) (by kernel_rfl) (by kernel_rfl) (by kernel_rfl) (by kernel_rfl) (by kernel_rfl)
  refine sy_at2 (k' := (.rnd (m) (bodyL alC) :: alC.k.tail)) (by kernel_rfl) ?_
  exact ih (upto_succ hv hp) aa w S2
theorem al_a (w0 : World) (xs ys : List Et) (a1 a2 : Option Addr) (c1 c2 b1 o1 b2 o2 : Nat) (h1 : xs.length = 0 ∨ a1 = some ⟨b1, o1, none⟩) (h2 : ys.length = 0 ∨ a2 = some ⟨b2, o2, none⟩) (hn : xs.length = ys.length) (hl : xs.length ≤ 100000) (ho1 : ∀ e ∈ xs, e.ok ∧ e.ws.length ≤ 100000) (ho2 : ∀ e ∈ ys, e.ok ∧ e.ws.length ≤ 100000) : ∀ (r j : Nat), j + r = xs.length → (∀ i, i < j → prE (xs.getD i e00) = prE (ys.getD i e00)) → ∀ (aa : Act) (w : World) (S : Sy w0 [] [] (alS a1 xs.length c1 a2 ys.length c2 (j)) [rfEr b1 o1 xs, rfEr b2 o2 ys, rfEl xs, rfEl ys] aa w), post Try.prog (.rnd (r + 1) (bodyL alC) :: alC.k.tail) (bodyPost Try.prog Try.f22 fun z w' => z = .returned (.bool (decide (xs.map prE = ys.map prE))) ∧ Below w0.heap.size w0 w') .normal aa w := by
  intro r
  induction r with
  | zero => intro j hj hv aa w S; obtain rfl : j = xs.length := by omega
            exact al_e w0 xs ys a1 a2 c1 c2 b1 o1 b2 o2 h1 h2 hn hl ho1 ho2 0 hv aa w S
  | succ r ih =>
    intro j hj hv aa w S
    by_cases hp : prE (xs.getD j e00) = prE (ys.getD j e00)
    · exact al_s w0 xs ys a1 a2 c1 c2 b1 o1 b2 o2 h1 h2 hn hl ho1 ho2 (r + 1) j (by omega) hp (fun h => ih (j + 1) (by omega) h) hv aa w S
    · exact al_b w0 xs ys a1 a2 c1 c2 b1 o1 b2 o2 h1 h2 hn hl ho1 ho2 (r + 1) j (by omega) hp aa w S
set_option maxHeartbeats 8000000 in
theorem all_t (w0 : World) (xs ys : List Et) (a1 a2 : Option Addr) (c1 c2 b1 o1 b2 o2 : Nat) (h1 : xs.length = 0 ∨ a1 = some ⟨b1, o1, none⟩) (h2 : ys.length = 0 ∨ a2 = some ⟨b2, o2, none⟩) (hl : xs.length ≤ 100000) (ho1 : ∀ e ∈ xs, e.ok ∧ e.ws.length ≤ 100000) (ho2 : ∀ e ∈ ys, e.ok ∧ e.ws.length ≤ 100000) (hA : ErAt w0 b1 o1 xs) (hB : ErAt w0 b2 o2 ys) (hC : ∀ e ∈ xs, WrAt w0 e.b e.o e.ws) (hD : ∀ e ∈ ys, WrAt w0 e.b e.o e.ws) : Calls Try.prog 22 #[.slice a1 xs.length c1, .slice a2 ys.length c2] w0 fun z w' => z = .returned (.bool (decide (xs.map prE = ys.map prE))) ∧ Below w0.heap.size w0 w' := by
  refine sy_enterF [] [rfEr b1 o1 xs, rfEr b2 o2 ys, rfEl xs, rfEl ys] (by intro f hf; simp only [List.mem_cons, List.not_mem_nil, or_false] at hf; rcases hf with rfl | rfl | rfl | rfl; exact hA; exact hB; exact hC; exact hD) Try.func22 rfl rfl fun aa S => ?_
  refine sy_run ⟨0, [1]⟩ 60 S fun bs aa w S => ?_
  refine sy_reg S fun S => ?_
  refine sy_ops 5 S fun bs aa w S => ?_
  by_cases hn : xs.length = ys.length
  case neg =>
    refine sy_cast 11 S (congrArg Value.bool (by rw [decide_eq_false (by omega)]; rfl : (!decide ((xs.length : Int) = (ys.length : Int))) = true)) (by kernel_rfl) fun S => ?_
    refine sy_run ⟨0, []⟩ 60 S fun bs aa w S => ?_
    rw [decide_eq_false (fun q : xs.map prE = ys.map prE => hn (by simpa using congrArg List.length q))]
    exact sy_ret S (by kernel_rfl) (by kernel_rfl) fun hg => ⟨rfl, bel_gr hg⟩
  refine sy_cast 11 S (congrArg Value.bool (by rw [decide_eq_true (by omega)]; rfl : (!decide ((xs.length : Int) = (ys.length : Int))) = false)) (by kernel_rfl) fun S => ?_
  refine sy_run ⟨0, []⟩ 60 S fun bs aa w S => ?_
  have S2 := S.to [] (alS a1 xs.length c1 a2 ys.length c2 (0)) (by kernel_rfl) (by kernel_rfl) (by kernel_rfl) (by kernel_rfl) (by kernel_rfl)
  refine sy_loop (xs.length + 1) (by kernel_rfl) ?_
  refine sy_at2 (k' := (.rnd (xs.length + 1) (bodyL alC) :: alC.k.tail)) (by kernel_rfl) ?_
  exact al_a w0 xs ys a1 a2 c1 c2 b1 o1 b2 o2 h1 h2 hn hl ho1 ho2 xs.length 0 (by omega) (fun i hi => absurd hi (Nat.not_lt_zero _)) aa w S2
end Go.Proofs.Ytaclhiagfgmgkaa


/-
  Layer 23: WalParse.
-/
namespace Go.Proofs.Ytaclhiagfgmgkaa
open Go Go.RowKit SZ
set_option linter.unusedVariables false
set_option linter.unusedSimpArgs false
set_option maxRecDepth 100000
attribute [local irreducible] post GD Nxt NxtAll
structure Er where
  a : Option Addr
  c : Nat
  b : Nat
  o : Nat
  l : List Et
def Er.v (z : Er) : Value := .slice z.a z.l.length z.c
def recQ (R : List (Int × Ws) × Nat) (B : Nat) (z : Er) (w : World) : Prop := z.l.map prE = R.1 ∧ (z.l.length = 0 ∨ z.a = some ⟨z.b, z.o, none⟩) ∧ ErAt w z.b z.o z.l ∧ (z.l.length = 0 ∨ B ≤ z.b) ∧ (∀ e ∈ z.l, e.ok ∧ (e.ws.length = 0 ∨ B ≤ e.b)) ∧ ∀ e ∈ z.l, WrAt w e.b e.o e.ws
theorem rec_er {w0 : World} {R : List (Int × Ws) × Nat} {y : Ending} {w : World} (h : recP w0 R y w) : ∃ z : Er, y = .returned (.tuple #[z.v, .int .i64 (R.2 : Int)]) ∧ recQ R w0.heap.size z w ∧ Below w0.heap.size w0 w := by
  obtain ⟨hb, es, v, q1, q2, q3, q4, q5⟩ := h
  obtain ⟨a, c, b, o, rfl, h1, h2, h3⟩ := er_of_owns q3
  exact ⟨⟨a, c, b, o, es⟩, q1, ⟨q2, h1, h2, h3, fun e he => ⟨(q4 e he).1, (q4 e he).2.2⟩, q5⟩, hb⟩
theorem recS_in : ∀ (f : Nat) (l : (List ByteArray)) (k : Nat) (last : Int), (recS f l k last).1.length ≤ f ∧ ∀ p ∈ (recS f l k last).1, p.2.length ≤ 32
  | 0, l, k, last => ⟨Nat.le_refl _, fun p hp => by cases hp⟩
  | f + 1, l, k, last => by
    cases h : parseS l k with
    | none => rw [recS_none h]; exact ⟨Nat.zero_le _, fun p hp => by cases hp⟩
    | some q =>
      obtain ⟨v, ws, n⟩ := q
      by_cases hv : v ≤ last
      · rw [recS_old h hv]; exact ⟨Nat.zero_le _, fun p hp => by cases hp⟩
      · rw [recS_some h hv]
        obtain ⟨i1, i2⟩ := recS_in f l (k + n) v
        refine ⟨Nat.succ_le_succ i1, fun p hp => ?_⟩
        rcases List.mem_cons.1 hp with rfl | hp
        · have hw : ws.length ≤ 32 := by
            have := valid_len (parse_rec h).2.1
            omega
          exact hw
        · exact i2 p hp
theorem rec_bnd {R : List (Int × Ws) × Nat} {B n : Nat} {z : Er} {w : World} (h : recQ R B z w) (hR : R.1.length ≤ n ∧ ∀ p ∈ R.1, p.2.length ≤ 32) : z.l.length ≤ n ∧ ∀ e ∈ z.l, e.ok ∧ e.ws.length ≤ 100000 := by
  rw [← h.1, List.length_map] at hR
  refine ⟨hR.1, fun e he => ⟨(h.2.2.2.2.1 e he).1, ?_⟩⟩
  have : e.ws.length ≤ 32 := hR.2 (prE e) (List.mem_map_of_mem he)
  omega
set_option maxHeartbeats 8000000 in
theorem wpar (w0 : World) (x : Sr) (hx : x.ok) (hc : x.l.length ≤ x.c) (hA : x.at w0) (at_ : Int) (hat : I64 at_) : Calls Try.prog 4 #[x.v, .int .i64 at_] w0 fun y w' => y = .returned (.bool true) ∧ Below w0.heap.size w0 w' := by
  refine sy_enterF [] [rfSt x.b x.o x.l] (by intro f hf; simp only [List.mem_singleton] at hf; subst hf; exact hA) Try.func4 rfl rfl fun aa S => ?_
  refine sy_run ⟨0, [1]⟩ 60 S fun bs aa w S => ?_
  refine sy_reg S fun S => ?_
  refine sy_call1 S (sane23 w) (by kernel_rfl) fun aa w hb S => ?_
  refine sy_run ⟨0, [2]⟩ 60 S fun bs aa w S => ?_
  refine sy_reg S fun S => ?_
  refine sy_ops 1 S fun bs aa w S => ?_
  refine sy_call1 S (few_w w x hx (S.fact (f := rfSt x.b x.o x.l) (by simp))) (by kernel_rfl) fun aa w hb S => ?_
  cases hfw : fewL x.l with
  | false =>
    refine sy_cast 18 S (congrArg Value.bool hfw) (by kernel_rfl) fun S => ?_
    refine sy_run ⟨0, []⟩ 60 S fun bs aa w S => ?_
    exact sy_ret S (by kernel_rfl) (by kernel_rfl) fun hg => ⟨rfl, bel_gr hg⟩
  | true =>
    have h40 : x.l.length ≤ 40 := by simp [fewL] at hfw; exact hfw.1
    refine sy_cast 18 S (congrArg Value.bool hfw) (by kernel_rfl) fun S => ?_
    have hRb := recS_in (x.l.length + 1) x.l 0 0
    obtain ⟨R, hR⟩ : ∃ R, recS (x.l.length + 1) x.l 0 0 = R := ⟨_, rfl⟩
    rw [hR] at hRb
    refine sy_run ⟨0, [4]⟩ 60 S fun bs aa w S => ?_
    refine sy_reg S fun S => ?_
    refine sy_ops 2 S fun bs aa w S => ?_
    cases hp : parA x.l at_ with
    | none =>
      have hpp := parse_t w x.l x.a x.c x.b x.o hx hc (by omega) at_ (S.fact (f := rfSt x.b x.o x.l) (by simp))
      rw [hp] at hpp
      refine sy_call1 S (hpp.mono fun y w' h => ⟨h.2, h.1⟩) (by kernel_rfl) fun aa w hb S => ?_
      refine sy_run ⟨0, [5]⟩ 60 S fun bs aa w S => ?_
      refine sy_reg S fun S => ?_
      refine sy_ops 2 S fun bs aa w S => ?_
      have hpq := rparse_t w x hx hc (by omega) at_ hat (S.fact (f := rfSt x.b x.o x.l) (by simp))
      rw [hp] at hpq
      refine sy_call1 S (hpq.mono fun y w' h => ⟨h.2, h.1⟩) (by kernel_rfl) fun aa w hb S => ?_
      refine sy_run ⟨0, [6]⟩ 60 S fun bs aa w S => ?_
      refine sy_reg S fun S => ?_
      refine sy_ops 1 S fun bs aa w S => ?_
      refine sy_nm S fun bs S => ?_
      have hbly : ∀ j, j < bs.length → bs.getD j 0 < w.heap.size := fun j hj => S.lt hj
      have hcy := recover_t w x hx hc (by omega) (S.fact (f := rfSt x.b x.o x.l) (by simp))
      rw [hR] at hcy
      refine sy_call S (X := Er) (val := fun z => .tuple #[z.v, .int .i64 (R.2 : Int)]) (C := recQ R w.heap.size) (hcy.mono fun y w' h => rec_er h) (by kernel_rfl) fun y aa w1 hy hb S => ?_
      have S := S.add (rfEr y.b y.o y.l) hy.2.2.1 (fun j hj hb => by
        obtain ⟨q1, q2⟩ := hb
        have := hbly j hj
        have := hy.2.2.2.1.resolve_left q2
        omega)
      have S := S.add (rfEl y.l) hy.2.2.2.2.2 (fun j hj hb => by
        obtain ⟨e, he, q1, q2⟩ := hb
        have := hbly j hj
        have := (hy.2.2.2.2.1 e he).2.resolve_left q2
        omega)
      refine sy_run ⟨0, [7]⟩ 60 S fun bs aa w S => ?_
      refine sy_reg S fun S => ?_
      refine sy_ops 1 S fun bs aa w S => ?_
      refine sy_nm S fun bs S => ?_
      have hblz : ∀ j, j < bs.length → bs.getD j 0 < w.heap.size := fun j hj => S.lt hj
      have hcz := rrecover_t w x hx hc (by omega) (S.fact (f := rfSt x.b x.o x.l) (by simp))
      rw [hR] at hcz
      refine sy_call S (X := Er) (val := fun z => .tuple #[z.v, .int .i64 (R.2 : Int)]) (C := recQ R w.heap.size) (hcz.mono fun y w' h => rec_er h) (by kernel_rfl) fun z aa w1 hz hb S => ?_
      have S := S.add (rfEr z.b z.o z.l) hz.2.2.1 (fun j hj hb => by
        obtain ⟨q1, q2⟩ := hb
        have := hblz j hj
        have := hz.2.2.2.1.resolve_left q2
        omega)
      have S := S.add (rfEl z.l) hz.2.2.2.2.2 (fun j hj hb => by
        obtain ⟨e, he, q1, q2⟩ := hb
        have := hblz j hj
        have := (hz.2.2.2.2.1 e he).2.resolve_left q2
        omega)
      refine sy_run ⟨0, []⟩ 60 S fun bs aa w S => ?_
      obtain ⟨hyl, hyb⟩ := rec_bnd hy hRb
      obtain ⟨_, hzb⟩ := rec_bnd hz hRb
      have hyn : y.l.length ≤ 100000 := by omega
      refine sy_call1 S (v := .bool true) (by
        have h := one_t w e00 e00 (Or.inl rfl) (Or.inl rfl) (Nat.zero_le _) (fun j hj => absurd hj (Nat.not_lt_zero _)) (fun j hj => absurd hj (Nat.not_lt_zero _))
        rw [decide_eq_true ⟨rfl, rfl⟩] at h
        exact h) (by kernel_rfl) fun aa w hb S => ?_
      refine sy_ops 14 S fun bs aa w S => ?_
      refine sy_call1 S (v := .bool true) (by
        have h := all_t w y.l z.l y.a z.a y.c z.c y.b y.o z.b z.o hy.2.1 hz.2.1 hyn hyb hzb (S.fact (f := rfEr y.b y.o y.l) (by simp)) (S.fact (f := rfEr z.b z.o z.l) (by simp)) (S.fact (f := rfEl y.l) (by simp)) (S.fact (f := rfEl z.l) (by simp))
        rw [decide_eq_true (hy.1.trans hz.1.symm)] at h
        exact h) (by kernel_rfl) fun aa w hb S => ?_
      refine sy_ops 5 S fun bs aa w S => ?_
      refine sy_cast 69 S (congrArg Value.bool (decide_eq_true rfl : decide ((R.2 : Int) = (R.2 : Int)) = true)) (by kernel_rfl) fun S => ?_
      refine sy_run ⟨0, []⟩ 60 S fun bs aa w S => ?_
      exact sy_ret S (by kernel_rfl) (by kernel_rfl) fun hg => ⟨rfl, bel_gr hg⟩
    | some q =>
      obtain ⟨v, ws, n⟩ := q
      have h32 : ws.length ≤ 32 := by
        obtain ⟨k, rfl, hps⟩ := parA_some hp
        have := valid_len (parse_rec hps).2.1
        omega
      refine sy_nm S fun bs S => ?_
      have hpp := parse_t w x.l x.a x.c x.b x.o hx hc (by omega) at_ (S.fact (f := rfSt x.b x.o x.l) (by simp))
      have hblp : ∀ j, j < bs.length → bs.getD j 0 < w.heap.size := fun j hj => S.lt hj
      rw [hp] at hpp
      refine sy_call S (X := Et) (val := fun e => .tuple #[e.v, .int .i64 (n : Int), .int .i64 0]) (C := fun e w' => e.ver = v ∧ e.ws = ws ∧ e.ok ∧ WrAt w' e.b e.o e.ws ∧ (e.ws.length = 0 ∨ w.heap.size ≤ e.b)) (hpp.mono fun y w' h => by
        obtain ⟨e, q1, q2, q3, q4, q5, q6⟩ := h.2
        exact ⟨e, q4, ⟨q1, q2, q3, q5, q6⟩, h.1⟩) (by kernel_rfl) fun p aa w1 hC hb S => ?_
      obtain ⟨p1, p2, p3, p4, p5⟩ := hC
      have S := S.add (rfWr p.b p.o p.ws) p4 (fun i hi hb => by
        obtain ⟨q1, q2⟩ := hb
        have := hblp i hi
        have := p5.resolve_left q2
        omega)
      refine sy_run ⟨0, [5]⟩ 60 S fun bs aa w S => ?_
      refine sy_reg S fun S => ?_
      refine sy_ops 2 S fun bs aa w S => ?_
      refine sy_nm S fun bs S => ?_
      have hpq := rparse_t w x hx hc (by omega) at_ hat (S.fact (f := rfSt x.b x.o x.l) (by simp))
      have hblq : ∀ j, j < bs.length → bs.getD j 0 < w.heap.size := fun j hj => S.lt hj
      rw [hp] at hpq
      refine sy_call S (X := Et) (val := fun e => .tuple #[e.v, .int .i64 (n : Int), .int .i64 0]) (C := fun e w' => e.ver = v ∧ e.ws = ws ∧ e.ok ∧ WrAt w' e.b e.o e.ws ∧ (e.ws.length = 0 ∨ w.heap.size ≤ e.b)) (hpq.mono fun y w' h => by
        obtain ⟨e, q1, q2, q3, q4, q5, q6⟩ := h.2
        exact ⟨e, q4, ⟨q1, q2, q3, q5, q6⟩, h.1⟩) (by kernel_rfl) fun q aa w1 hC hb S => ?_
      obtain ⟨q1, q2, q3, q4, q5⟩ := hC
      have S := S.add (rfWr q.b q.o q.ws) q4 (fun i hi hb => by
        obtain ⟨q1, q2⟩ := hb
        have := hblq i hi
        have := q5.resolve_left q2
        omega)
      refine sy_run ⟨0, [6]⟩ 60 S fun bs aa w S => ?_
      refine sy_reg S fun S => ?_
      refine sy_ops 1 S fun bs aa w S => ?_
      refine sy_nm S fun bs S => ?_
      have hbly : ∀ j, j < bs.length → bs.getD j 0 < w.heap.size := fun j hj => S.lt hj
      have hcy := recover_t w x hx hc (by omega) (S.fact (f := rfSt x.b x.o x.l) (by simp))
      rw [hR] at hcy
      refine sy_call S (X := Er) (val := fun z => .tuple #[z.v, .int .i64 (R.2 : Int)]) (C := recQ R w.heap.size) (hcy.mono fun y w' h => rec_er h) (by kernel_rfl) fun y aa w1 hy hb S => ?_
      have S := S.add (rfEr y.b y.o y.l) hy.2.2.1 (fun j hj hb => by
        obtain ⟨q1, q2⟩ := hb
        have := hbly j hj
        have := hy.2.2.2.1.resolve_left q2
        omega)
      have S := S.add (rfEl y.l) hy.2.2.2.2.2 (fun j hj hb => by
        obtain ⟨e, he, q1, q2⟩ := hb
        have := hbly j hj
        have := (hy.2.2.2.2.1 e he).2.resolve_left q2
        omega)
      refine sy_run ⟨0, [7]⟩ 60 S fun bs aa w S => ?_
      refine sy_reg S fun S => ?_
      refine sy_ops 1 S fun bs aa w S => ?_
      refine sy_nm S fun bs S => ?_
      have hblz : ∀ j, j < bs.length → bs.getD j 0 < w.heap.size := fun j hj => S.lt hj
      have hcz := rrecover_t w x hx hc (by omega) (S.fact (f := rfSt x.b x.o x.l) (by simp))
      rw [hR] at hcz
      refine sy_call S (X := Er) (val := fun z => .tuple #[z.v, .int .i64 (R.2 : Int)]) (C := recQ R w.heap.size) (hcz.mono fun y w' h => rec_er h) (by kernel_rfl) fun z aa w1 hz hb S => ?_
      have S := S.add (rfEr z.b z.o z.l) hz.2.2.1 (fun j hj hb => by
        obtain ⟨q1, q2⟩ := hb
        have := hblz j hj
        have := hz.2.2.2.1.resolve_left q2
        omega)
      have S := S.add (rfEl z.l) hz.2.2.2.2.2 (fun j hj hb => by
        obtain ⟨e, he, q1, q2⟩ := hb
        have := hblz j hj
        have := (hz.2.2.2.2.1 e he).2.resolve_left q2
        omega)
      refine sy_run ⟨0, []⟩ 60 S fun bs aa w S => ?_
      obtain ⟨hyl, hyb⟩ := rec_bnd hy hRb
      obtain ⟨_, hzb⟩ := rec_bnd hz hRb
      have hyn : y.l.length ≤ 100000 := by omega
      refine sy_call1 S (v := .bool true) (by
        have h := one_t w p q p3 q3 (by rw [p2]; omega) (S.fact (f := rfWr p.b p.o p.ws) (by simp)) (S.fact (f := rfWr q.b q.o q.ws) (by simp))
        rw [decide_eq_true ⟨p1.trans q1.symm, p2.trans q2.symm⟩] at h
        exact h) (by kernel_rfl) fun aa w hb S => ?_
      refine sy_ops 5 S fun bs aa w S => ?_
      refine sy_cast 54 S (congrArg Value.bool (decide_eq_true rfl : decide ((n : Int) = (n : Int)) = true)) (by kernel_rfl) fun S => ?_
      refine sy_ops 9 S fun bs aa w S => ?_
      refine sy_call1 S (v := .bool true) (by
        have h := all_t w y.l z.l y.a z.a y.c z.c y.b y.o z.b z.o hy.2.1 hz.2.1 hyn hyb hzb (S.fact (f := rfEr y.b y.o y.l) (by simp)) (S.fact (f := rfEr z.b z.o z.l) (by simp)) (S.fact (f := rfEl y.l) (by simp)) (S.fact (f := rfEl z.l) (by simp))
        rw [decide_eq_true (hy.1.trans hz.1.symm)] at h
        exact h) (by kernel_rfl) fun aa w hb S => ?_
      refine sy_ops 5 S fun bs aa w S => ?_
      refine sy_cast 69 S (congrArg Value.bool (decide_eq_true rfl : decide ((R.2 : Int) = (R.2 : Int)) = true)) (by kernel_rfl) fun S => ?_
      refine sy_run ⟨0, []⟩ 60 S fun bs aa w S => ?_
      exact sy_ret S (by kernel_rfl) (by kernel_rfl) fun hg => ⟨rfl, bel_gr hg⟩
end Go.Proofs.Ytaclhiagfgmgkaa
