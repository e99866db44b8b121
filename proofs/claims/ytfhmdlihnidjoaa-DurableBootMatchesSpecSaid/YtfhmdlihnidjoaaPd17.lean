/-
  Merged: WlW, WlX, WlY, WlZ, Wn1, Wn2, Wn3
-/
import Derived.Test.YtfhmdlihnidjoaaRows
import Derived.Test.YtfhmdlihnidjoaaPd2
import Derived.Test.YtfhmdlihnidjoaaPd14
import Derived.Test.YtfhmdlihnidjoaaPd16
import Derived.WalkKit
namespace Go.Proofs.Ytfhmdlihnidjoaa
set_option linter.unusedVariables false
set_option linter.unusedSectionVars false
set_option linter.unusedSimpArgs false
set_option maxRecDepth 100000
set_option maxHeartbeats 8000000
open Go Go.RowKit SZ
attribute [local irreducible] post GD Nxt Qaq
def gueP (w0 : World) (g : Int × Ws × Nat) (y : Ending) (w' : World) : Prop := Below w0.heap.size w0 w' ∧ ∃ e : Et, e.ver = g.1 ∧ e.ws = g.2.1 ∧ e.ok ∧ y = .returned (.tuple #[e.v, .int .i64 (g.2.2 : Int)]) ∧ QcW w' e.b e.o e.ws ∧ (e.ws.length = 0 ∨ w0.heap.size ≤ e.b)
def Qeu (l : (List ByteArray)) (k : Int) : Int × Ws × Nat := if k < 0 then (0, [], 0) else QeM l k.toNat
def e00 : Et := ⟨0, none, 0, 0, 0, []⟩
theorem QhC {w0 w' : World} (hb : Below w0.heap.size w0 w') : gueP w0 (0, [], 0) (.returned (.tuple #[.agg #[.int .i64 0, .slice none 0 0], .int .i64 0])) w' := ⟨hb, e00, rfl, rfl, Or.inl rfl, rfl, fun j hj => absurd hj (Nat.not_lt_zero _), Or.inl rfl⟩
noncomputable def gwC : Cfg := ⟨goZ 200 [0, 0, 9, 0] [.code (QaI Try.f71)], ⟨0, [], []⟩⟩
noncomputable def gwS (na : Option Addr) (N nc m0 : Nat) (ver : Int) (wv : Value) (j : Nat) : SS := ⟨107, [(4, .p 0 0), (6, .v (.int .i64 (m0 : Int))), (9, .v (.slice na N nc)), (12, .p 1 0), (13, .v (.int .i64 ((1 + 2 * j : Nat) : Int)))], [⟨60, [.int .i64 0, .slice none 0 0]⟩, ⟨60, [.int .i64 ver, wv]⟩]⟩
noncomputable def gcC : Cfg := ⟨goZ 200 [0, 0] [.code (QaI Try.f71)], ⟨0, [], []⟩⟩
noncomputable def gcS (x : Sr) (k m0 : Nat) (q : List Nat) (j : Nat) : SS := ⟨107, [(0, .v x.v), (1, .v (.int .i64 (k : Int))), (4, .p 0 0), (6, .v (.int .i64 (m0 : Int))), (7, .v (.string (QaV q))), (8, .v (.int .i64 ((k + j : Nat) : Int)))], [⟨60, [.int .i64 0, .slice none 0 0]⟩]⟩
section
variable (w0 : World) (m0 : Nat) (na : Option Addr) (nc nb no : Nat) (ver : Int) (r : List Int) (hna : na = some ⟨nb, no, none⟩) (hnl : r.length ≤ 20000) (hR : True)
include w0 m0 na nc nb no ver r hna hnl hR
theorem gw_e (m : Nat) (wv : Value) (x0 x1 : Nat) (aa : Act) (w : World) (S : Sy w0 [] [x0, x1] (gwS na (r.length + 1) nc m0 ver wv ((Qaa r).length)) [Qb2 nb no (ver :: r), Qah w0.heap.size 42 2 wv ((Qaa r).length) (wsV ((Qaa r).take ((Qaa r).length)))] aa w) : post Try.prog (.rnd (m + 1) (Qa_ gwC) :: gwC.k.tail) (bodyPost Try.prog Try.f71 (gueP w0 (ver, Qaa r, m0))) .normal aa w := by
  have hpl := (Qcr r)
  refine Qam (c := ⟨(.rnd (m + 1) (Qa_ gwC) :: gwC.k.tail), gwS na (r.length + 1) nc m0 ver wv ((Qaa r).length)⟩) 17 50 2 S fun bs aa w S => ?_
  refine QaM 84 S (by rw [IntKind.wrap_i64]; have := Qcr r; omega : IntKind.i64.wrap (((1 + 2 * (Qaa r).length : Nat) : Int) + 1) = ((1 + 2 * (Qaa r).length + 1 : Nat) : Int)) fun S => ?_
  refine Qad 3 S fun bs aa w S => ?_
  refine Qab 87 S (decide_eq_false (by have := hR; omega) : decide (((1 + 2 * (Qaa r).length + 1 : Nat) : Int) < ((r.length + 1 : Nat) : Int)) = false) fun S => ?_
  have how := S.fact (f := Qah w0.heap.size 42 2 wv (Qaa r).length (wsV ((Qaa r).take (Qaa r).length))) (by simp)
  obtain ⟨a, c, rfl⟩ := Qci how
  refine Qac S fun bs aa w S => ?_
  have how := S.fact (f := Qah w0.heap.size 42 2 (.slice a (Qaa r).length c) (Qaa r).length (wsV ((Qaa r).take (Qaa r).length))) (by simp)
  rw [List.take_length] at how
  obtain ⟨a', c', b, o, he, h1, h2, h3⟩ := QfG how
  simp only [Value.slice.injEq] at he
  obtain ⟨rfl, _, rfl⟩ := he
  exact Qaf S (by kernel_rfl) (by kernel_rfl) fun hg => ⟨Qag hg, ⟨ver, a, c, b, o, Qaa r⟩, rfl, rfl, h1, rfl, h2, h3⟩
theorem gw_s (m j : Nat) (hj : j < (Qaa r).length) (ih : ∀ (wv : Value) (hne : ∀ g, Value.ownBlock wv = some g → g ≠ nb) (x0 x1 : Nat) (aa : Act) (w : World) (S : Sy w0 [] [x0, x1] (gwS na (r.length + 1) nc m0 ver wv (j + 1)) [Qb2 nb no (ver :: r), Qah w0.heap.size 42 2 wv (j + 1) (wsV ((Qaa r).take (j + 1)))] aa w), post Try.prog (.rnd (m) (Qa_ gwC) :: gwC.k.tail) (bodyPost Try.prog Try.f71 (gueP w0 (ver, Qaa r, m0))) .normal aa w) (wv : Value) (hne : ∀ g, Value.ownBlock wv = some g → g ≠ nb) (x0 x1 : Nat) (aa : Act) (w : World) (S : Sy w0 [] [x0, x1] (gwS na (r.length + 1) nc m0 ver wv (j)) [Qb2 nb no (ver :: r), Qah w0.heap.size 42 2 wv (j) (wsV ((Qaa r).take (j)))] aa w) : post Try.prog (.rnd (m + 1) (Qa_ gwC) :: gwC.k.tail) (bodyPost Try.prog Try.f71 (gueP w0 (ver, Qaa r, m0))) .normal aa w := by
  obtain ⟨hpl, hpv⟩ := Qcr r
  obtain ⟨q1, q2⟩ := hpv j hj
  rw [Qgx 0 ver] at q1
  rw [Nat.add_assoc, Qgx 0 ver, ← Nat.add_assoc] at q2
  obtain ⟨ii, hi1, hi2, hi3, hi4⟩ := Qd1 wrI
  obtain rfl := hna
  refine Qam (c := ⟨(.rnd (m + 1) (Qa_ gwC) :: gwC.k.tail), gwS (some ⟨nb, no, none⟩) (r.length + 1) nc m0 ver wv (j)⟩) 17 50 2 S fun bs aa w S => ?_
  refine QaM 84 S (by rw [IntKind.wrap_i64]; have := Qcr r; omega : IntKind.i64.wrap (((1 + 2 * j : Nat) : Int) + 1) = ((1 + 2 * j + 1 : Nat) : Int)) fun S => ?_
  refine Qad 3 S fun bs aa w S => ?_
  refine Qab 87 S (decide_eq_true (by omega) : decide (((1 + 2 * j + 1 : Nat) : Int) < ((r.length + 1 : Nat) : Int)) = true) fun S => ?_
  refine Qac S fun bs aa w S => ?_
  letI : HF := ⟨[Qb2 nb no (ver :: r)]⟩
  refine QaE [] (by kernel_rfl) (by kernel_rfl) S (by kernel_rfl) (fun aa w D => ?_) (fun f hf => by have e : f = Qb2 nb no (ver :: r) := List.mem_singleton.1 hf; subst e; simp)
  refine Qaz 4 D (by kernel_rfl) (by kernel_rfl) (by kernel_rfl) (b := nb) (off := no) (len := r.length + 1) (n := 1 + 2 * j) (size := 1) (ix := ((1 + 2 * j : Nat) : Int)) (by kernel_rfl) (rfl) (by omega) fun aa D => ?_
  refine QaH 5 D (by kernel_rfl) (by kernel_rfl) (by kernel_rfl) (ty := 3) (ad := ⟨nb, no + (1 + 2 * j) * 1, none⟩) (v := .int .i64 ((Qaa r).getD j (0, 0)).1) (fun W hW => QaP (by kernel_rfl) (by rw [Nat.mul_one, ← q1]; exact (show (Qb2 nb no (ver :: r)).P W from hW (Qb2 nb no (ver :: r)) (by show _ ∈ [Qb2 nb no (ver :: r)]; simp)) (1 + 2 * j) (by simp; omega))) (by kernel_rfl) fun aa D => ?_
  refine Qaz 9 D (by kernel_rfl) (by kernel_rfl) (by kernel_rfl) (b := nb) (off := no) (len := r.length + 1) (n := 1 + 2 * j + 1) (size := 1) (ix := (IntKind.i64.wrap (((1 + 2 * j : Nat) : Int) + 1))) (by kernel_rfl) (by rw [IntKind.wrap_i64]; omega) (by omega) fun aa D => ?_
  refine QaH 10 D (by kernel_rfl) (by kernel_rfl) (by kernel_rfl) (ty := 3) (ad := ⟨nb, no + (1 + 2 * j + 1) * 1, none⟩) (v := .int .i64 ((Qaa r).getD j (0, 0)).2) (fun W hW => QaP (by kernel_rfl) (by rw [Nat.mul_one, ← q2]; exact (show (Qb2 nb no (ver :: r)).P W from hW (Qb2 nb no (ver :: r)) (by show _ ∈ [Qb2 nb no (ver :: r)]; simp)) (1 + 2 * j + 1) (by simp; omega))) (by kernel_rfl) fun aa D => ?_
  refine Qaw [1, 12] (by kernel_rfl) (by kernel_rfl) rfl (na2 ?_ ?_)
  · refine QbM 1 D (by kernel_rfl) (Nat.le_refl _) (by kernel_rfl) (by kernel_rfl) fun bs aa w D hl => ?_
    refine Qaw [12] (by kernel_rfl) (by kernel_rfl) rfl (na1 ?_)
    · refine QbM 12 D (by kernel_rfl) hl (by kernel_rfl) (by kernel_rfl) fun bs aa w D hl => ?_
      refine Qaw [13] (by kernel_rfl) (by kernel_rfl) rfl (na1 ?_)
      · refine have hap := (D.S.fs (Qah w0.heap.size 42 2 wv (j) (wsV ((Qaa r).take (j)))) (by simp)).2; have how := D.S.fact (f := Qah w0.heap.size 42 2 wv (j) (wsV ((Qaa r).take (j)))) (by simp); have hrl := (Qb2 nb no (ver :: r)).lt _ (D.S.fact (f := Qb2 nb no (ver :: r)) (by simp)) nb ⟨rfl, by simp⟩; Qfd 13 w0.heap.size [Qb2 nb no (ver :: r)] D (by kernel_rfl) (u := .v wv) (y := .s 2 0 1 1) (t := 58) (e := 42) (v := wv) (n := j) (ad := adr _ 2 0) (m := 1) (cp := 1) (size := 2) (bytes := 16) (xs := wsV ((Qaa r).take j)) (news := [.int .i64 ((Qaa r).getD j (0, 0)).1, .int .i64 ((Qaa r).getD j (0, 0)).2]) (by kernel_rfl) Try.underlying58 hi1 hi2 hi3 hi4 rfl (by omega) rfl rfl how D.S.gr.size (own3 (P := Try.prog) (ty := 42) (cs := [.int .i64 ((Qaa r).getD j (0, 0)).1, .int .i64 ((Qaa r).getD j (0, 0)).2]) D.S 2 (by kernel_rfl)) rfl (by intro u hu; simp only [List.mem_cons, List.not_mem_nil, or_false] at hu; rcases hu with rfl | rfl <;> rfl) (by simp only [maxLen]; omega) (by omega) (fun g hg => Or.inr (how.lt g hg).1) (fun f hf => ⟨by simp only [List.mem_singleton] at hf; subst hf; simp, by simp only [List.mem_singleton] at hf; subst hf; exact fun g hg hb => hne g hg hb.1⟩) (fun f hf => by have e : f = Qb2 nb no (ver :: r) := List.mem_singleton.1 hf; subst e; simp) (fun jj hjj hb => hap jj hjj hb) fun va vc aa w2 hO hg hnn hlt D => have D := D.addF (Qah w0.heap.size 42 2 (.slice va (j + 1) vc) (j + 1) (wsV ((Qaa r).take (j + 1)))) (by rw [QeO _ j hj]; exact hO) (fun jj hjj hb => (hnn _ hb).elim (fun q => hap jj hjj q) (fun q => by have := hlt jj hjj; omega)); ?_
        refine Qaw [15] (by kernel_rfl) (by kernel_rfl) rfl (na1 ?_)
        · refine QbM 15 D (by kernel_rfl) hl (by kernel_rfl) (by kernel_rfl) fun bs aa w D hl => ?_
          refine QaT D (by kernel_rfl) fun S => ?_
          refine Qam 18 60 2 S fun bs aa w S => ?_
          refine QaM 89 S (by rw [IntKind.wrap_i64]; omega : IntKind.i64.wrap (((1 + 2 * j : Nat) : Int) + 2) = ((1 + 2 * (j + 1) : Nat) : Int)) fun S => ?_
          refine Qan ⟨0, [999]⟩ 50 S fun bs aa w S => ?_
          have hne' : ∀ g, Value.ownBlock (.slice va (j + 1) vc) = some g → g ≠ nb := fun g hg' => (hnn g hg').elim (fun q => hne g q) (fun q e => by omega)
          have S := S.sub (F' := [Qb2 nb no (ver :: r), Qah w0.heap.size 42 2 (.slice va (j + 1) vc) (j + 1) (wsV ((Qaa r).take (j + 1)))]) (by intro f hf; simp only [List.mem_cons, List.not_mem_nil, or_false] at hf; rcases hf with rfl | rfl <;> simp)
          have S2 := S.to [0, 1] (gwS (some ⟨nb, no, none⟩) (r.length + 1) nc m0 ver (.slice va (j + 1) vc) (j + 1)) (by kernel_rfl) (by kernel_rfl) (by kernel_rfl) (by kernel_rfl) (by kernel_rfl)
          refine Qai (k' := (.rnd (m) (Qa_ gwC) :: gwC.k.tail)) (by kernel_rfl) ?_
          exact ih (.slice va (j + 1) vc) hne' _ _ aa w S2
  · refine QbM 12 D (by kernel_rfl) (Nat.le_refl _) (by kernel_rfl) (by kernel_rfl) fun bs aa w D hl => ?_
    refine Qaw [1] (by kernel_rfl) (by kernel_rfl) rfl (na1 ?_)
    · refine QbM 1 D (by kernel_rfl) hl (by kernel_rfl) (by kernel_rfl) fun bs aa w D hl => ?_
      refine Qaw [13] (by kernel_rfl) (by kernel_rfl) rfl (na1 ?_)
      · refine have hap := (D.S.fs (Qah w0.heap.size 42 2 wv (j) (wsV ((Qaa r).take (j)))) (by simp)).2; have how := D.S.fact (f := Qah w0.heap.size 42 2 wv (j) (wsV ((Qaa r).take (j)))) (by simp); have hrl := (Qb2 nb no (ver :: r)).lt _ (D.S.fact (f := Qb2 nb no (ver :: r)) (by simp)) nb ⟨rfl, by simp⟩; Qfd 13 w0.heap.size [Qb2 nb no (ver :: r)] D (by kernel_rfl) (u := .v wv) (y := .s 2 0 1 1) (t := 58) (e := 42) (v := wv) (n := j) (ad := adr _ 2 0) (m := 1) (cp := 1) (size := 2) (bytes := 16) (xs := wsV ((Qaa r).take j)) (news := [.int .i64 ((Qaa r).getD j (0, 0)).1, .int .i64 ((Qaa r).getD j (0, 0)).2]) (by kernel_rfl) Try.underlying58 hi1 hi2 hi3 hi4 rfl (by omega) rfl rfl how D.S.gr.size (own3 (P := Try.prog) (ty := 42) (cs := [.int .i64 ((Qaa r).getD j (0, 0)).1, .int .i64 ((Qaa r).getD j (0, 0)).2]) D.S 2 (by kernel_rfl)) rfl (by intro u hu; simp only [List.mem_cons, List.not_mem_nil, or_false] at hu; rcases hu with rfl | rfl <;> rfl) (by simp only [maxLen]; omega) (by omega) (fun g hg => Or.inr (how.lt g hg).1) (fun f hf => ⟨by simp only [List.mem_singleton] at hf; subst hf; simp, by simp only [List.mem_singleton] at hf; subst hf; exact fun g hg hb => hne g hg hb.1⟩) (fun f hf => by have e : f = Qb2 nb no (ver :: r) := List.mem_singleton.1 hf; subst e; simp) (fun jj hjj hb => hap jj hjj hb) fun va vc aa w2 hO hg hnn hlt D => have D := D.addF (Qah w0.heap.size 42 2 (.slice va (j + 1) vc) (j + 1) (wsV ((Qaa r).take (j + 1)))) (by rw [QeO _ j hj]; exact hO) (fun jj hjj hb => (hnn _ hb).elim (fun q => hap jj hjj q) (fun q => by have := hlt jj hjj; omega)); ?_
        refine Qaw [15] (by kernel_rfl) (by kernel_rfl) rfl (na1 ?_)
        · refine QbM 15 D (by kernel_rfl) hl (by kernel_rfl) (by kernel_rfl) fun bs aa w D hl => ?_
          refine QaT D (by kernel_rfl) fun S => ?_
          refine Qam 18 60 2 S fun bs aa w S => ?_
          refine QaM 89 S (by rw [IntKind.wrap_i64]; omega : IntKind.i64.wrap (((1 + 2 * j : Nat) : Int) + 2) = ((1 + 2 * (j + 1) : Nat) : Int)) fun S => ?_
          refine Qan ⟨0, [999]⟩ 50 S fun bs aa w S => ?_
          have hne' : ∀ g, Value.ownBlock (.slice va (j + 1) vc) = some g → g ≠ nb := fun g hg' => (hnn g hg').elim (fun q => hne g q) (fun q e => by omega)
          have S := S.sub (F' := [Qb2 nb no (ver :: r), Qah w0.heap.size 42 2 (.slice va (j + 1) vc) (j + 1) (wsV ((Qaa r).take (j + 1)))]) (by intro f hf; simp only [List.mem_cons, List.not_mem_nil, or_false] at hf; rcases hf with rfl | rfl <;> simp)
          have S2 := S.to [0, 1] (gwS (some ⟨nb, no, none⟩) (r.length + 1) nc m0 ver (.slice va (j + 1) vc) (j + 1)) (by kernel_rfl) (by kernel_rfl) (by kernel_rfl) (by kernel_rfl) (by kernel_rfl)
          refine Qai (k' := (.rnd (m) (Qa_ gwC) :: gwC.k.tail)) (by kernel_rfl) ?_
          exact ih (.slice va (j + 1) vc) hne' _ _ aa w S2
theorem gw_a : ∀ (m j : Nat), j + m = (Qaa r).length → ∀ (wv : Value) (hne : ∀ g, Value.ownBlock wv = some g → g ≠ nb) (x0 x1 : Nat) (aa : Act) (w : World) (S : Sy w0 [] [x0, x1] (gwS na (r.length + 1) nc m0 ver wv (j)) [Qb2 nb no (ver :: r), Qah w0.heap.size 42 2 wv (j) (wsV ((Qaa r).take (j)))] aa w), post Try.prog (.rnd (m + 1) (Qa_ gwC) :: gwC.k.tail) (bodyPost Try.prog Try.f71 (gueP w0 (ver, Qaa r, m0))) .normal aa w := by
  intro m
  induction m with
  | zero => intro j hj wv hne x0 x1 aa w S; obtain rfl : j = (Qaa r).length := by omega
            exact gw_e w0 m0 na nc nb no ver r hna hnl hR 0 wv x0 x1 aa w S
  | succ m ih => intro j hj wv hne x0 x1 aa w S; exact gw_s w0 m0 na nc nb no ver r hna hnl hR (m + 1) j (by omega) (fun wv hne => ih (j + 1) (by omega) wv hne) wv hne x0 x1 aa w S
end
theorem QeZ (l : (List ByteArray)) (k j : Nat) (hj : k + j < l.length) : ((l.drop k).take (j + 1)).flatMap Qbh = ((l.drop k).take j).flatMap Qbh ++ Qbh (l.getD (k + j) ByteArray.empty) := by
  have hj2 : j < (l.drop k).length := by rw [List.length_drop]; omega
  rw [List.take_succ_eq_append_getElem hj2, List.flatMap_append]
  simp [List.getD, List.getElem?_eq_getElem hj]
theorem QfJ (l : (List ByteArray)) : (l.flatMap Qbh).length ≤ 27 * l.length := by
  induction l with
  | nil => simp
  | cons a r ih =>
    have : (Qbh a).length ≤ 27 := by unfold Qbh sct; split <;> simp; omega
    rw [List.flatMap_cons, List.length_append, List.length_cons]
    omega
section
variable (w0 : World) (x : Sr) (hx : x.ok) (hl : x.l.length ≤ 1000) (k m0 : Nat) (hk : k < x.l.length) (hm : m0 ≤ 256 ∧ 1 ≤ m0) (g : Int × Ws × Nat) (hg : (match QaA (((x.l.drop k).take m0).flatMap Qbh) with | some (n :: r, _) => (n, Qaa r, m0) | _ => (0, [], 0)) = g)
include w0 x hx hl k m0 hk hm g hg
theorem gc_e (m j : Nat) (hj : j = m0 ∨ (j < m0 ∧ k + j = x.l.length)) (x0 : Nat) (aa : Act) (w : World) (S : Sy w0 [] [x0] (gcS x k m0 (((x.l.drop k).take (j)).flatMap Qbh) (j)) [QaC x.b x.o x.l] aa w) : post Try.prog (.rnd (m + 1) (Qa_ gcC) :: gcC.k.tail) (bodyPost Try.prog Try.f71 (gueP w0 g)) .normal aa w := by
  have hjl : j ≤ 256 := by omega
  have hpl : (((x.l.drop k).take (j)).flatMap Qbh).length ≤ 27 * 256 := by
    have q1 := QfJ ((x.l.drop k).take j)
    rw [List.length_take] at q1
    have : min j (x.l.drop k).length ≤ 256 := by omega
    omega
  have hgg := hg
  have ePL : (((x.l.drop k).take (m0)).flatMap Qbh) = (((x.l.drop k).take (j)).flatMap Qbh) := by
    rcases hj with rfl | ⟨h1, h2⟩
    · rfl
    · rw [List.take_of_length_le (by rw [List.length_drop]; omega), List.take_of_length_le (by rw [List.length_drop]; omega)]
  rw [ePL] at hgg
  clear hg
  refine Qam (c := ⟨(.rnd (m + 1) (Qa_ gcC) :: gcC.k.tail), gcS x k m0 (((x.l.drop k).take (j)).flatMap Qbh) (j)⟩) 8 50 4 S fun bs aa w S => ?_
  refine QaM 41 S (by rw [IntKind.wrap_i64]; omega : IntKind.i64.wrap ((k : Int) + (m0 : Int)) = ((k + m0 : Nat) : Int)) fun S => ?_
  refine Qad 1 S fun bs aa w S => ?_
  have S : Sy w0 [] _ _ [QaC x.b x.o x.l] aa w := S
  rcases hj with rfl | ⟨h1, h2⟩
  · refine Qab 42 S (decide_eq_false (by omega) : decide (((k + j : Nat) : Int) < ((k + j : Nat) : Int)) = false) fun S => ?_
    refine Qam 12 60 1 S fun bs aa w S => ?_
    refine QjT S (by kernel_rfl) (fun o ρ h1 h2 h3 => ex_sb (x := .tmp 65) (p := QaV (((x.l.drop k).take (j)).flatMap Qbh)) (by kernel_rfl) (by rw [Qa7]; simp only [maxLen]; omega) o ρ h1 h2 h3) fun v aa w' hC hb S => ?_
    have hHB := hC.1
    rw [Qby _ (QbW _)] at hHB
    have hg := QfM v (((x.l.drop k).take (j)).flatMap Qbh) (QbW _) (by omega) w' hHB
    refine Qbk S fun bs S => ?_
    have hblk : ∀ j, j < bs.length → bs.getD j 0 < w'.heap.size := fun j hj => S.lt hj
    cases hd : QaA (((x.l.drop k).take (j)).flatMap Qbh) with
    | none =>
      rw [hd] at hgg
      subst hgg
      refine Qap S (hg.mono fun y w' h => ⟨by have h2 := h.2; rw [hd] at h2; exact h2, h.1⟩) (by kernel_rfl) fun aa w hb S => ?_
      refine Qac S fun bs aa w S => ?_
      exact Qaf S (by kernel_rfl) (by kernel_rfl) fun hg => QhC (Qag hg)
    | some q =>
      obtain ⟨ns, u⟩ := q
      rw [hd] at hgg
      have hnl := QdO (QbW _) hd
      refine Qbc S (X := Value) (val := fun v => .tuple #[v, .int .i64 (u : Int), .int .i64 0]) (C := fun v w2 => Qbu w2 v ns ∧ ∀ g, v.ownBlock = some g → w'.heap.size ≤ g) (hg.mono fun y w2 h => by
        have h2 := h.2
        rw [hd] at h2
        obtain ⟨v, q1, q2, q3⟩ := h2
        exact ⟨v, q1, ⟨q2, q3⟩, h.1⟩) (by kernel_rfl) fun v aa w1 hC hb S => ?_
      obtain ⟨⟨na, nc, rfl, hn63, hcell⟩, hfr⟩ := hC
      obtain ⟨nb, no, hna, hcell, hnb⟩ : ∃ nb no, (ns.length = 0 ∨ na = some ⟨nb, no, none⟩) ∧ (∀ j, j < ns.length → w1.cell? ⟨nb, no + j, none⟩ = some (.int .i64 (ns.getD j 0))) ∧ (ns.length = 0 ∨ w'.heap.size ≤ nb) := by
        rcases hcell with h | ⟨nb, no, rfl, h⟩
        · exact ⟨0, 0, Or.inl h, fun j hj => by omega, Or.inl h⟩
        · exact ⟨nb, no, Or.inr rfl, h, Or.inr (hfr nb rfl)⟩
      have S := S.add (Qb2 nb no ns) hcell (fun i hi hb => by
        obtain ⟨h1, h2⟩ := hb
        have q1 := hblk i hi
        have q2 := hnb.resolve_left h2
        omega)
      refine Qam 13 60 6 S fun bs aa w S => ?_
      cases ns with
      | nil =>
        subst hgg
        refine Qab 76 S (by rfl : decide (((([] : List Int).length : Nat) : Int) = 0) = true) fun S => ?_
        refine Qac S fun bs aa w S => ?_
        exact Qaf S (by kernel_rfl) (by kernel_rfl) fun hg => QhC (Qag hg)
      | cons ver r =>
        subst hgg
        refine Qab 76 S (decide_eq_false (by simp only [List.length_cons]; omega) : decide ((((ver :: r).length : Nat) : Int) = 0) = false) fun S => ?_
        obtain rfl := hna.resolve_left (by simp)
        refine Qam 15 60 1 S fun bs aa w S => ?_
        refine QbI (b := nb) (off := no) (len := (ver :: r).length) (n := 0) (size := 1) (i := 0) S (by kernel_rfl) rfl (by simp) fun aa S => ?_
        refine Qbb S (QaP (ty := 3) (b := nb) (off := no + 0 * 1) (by kernel_rfl) ((S.fact (f := Qb2 nb no (ver :: r)) (by simp)) 0 (by simp))) (by kernel_rfl) fun aa S => ?_
        refine Qac S fun bs aa w S => ?_
        have S := S.add (Qah w0.heap.size 42 2 (.slice none 0 0) 0 (wsV ((Qaa r).take 0))) (World.ownsRow_nil _ _ _ _) (fun i hi h => by cases h)
        have S := S.sub (F' := [Qb2 nb no (ver :: r), Qah w0.heap.size 42 2 (.slice none 0 0) 0 (wsV ((Qaa r).take 0))]) (by intro f hf; simp only [List.mem_cons, List.not_mem_nil, or_false] at hf; rcases hf with rfl | rfl <;> simp)
        have S2 := S.to [0, 1] (gwS (some ⟨nb, no, none⟩) (r.length + 1) nc j ver (.slice none 0 0) 0) (by kernel_rfl) (by kernel_rfl) (by kernel_rfl) (by kernel_rfl) (by kernel_rfl)
        refine QaJ ((Qaa r).length + 1) (by kernel_rfl) ?_
        refine Qai (k' := (.rnd ((Qaa r).length + 1) (Qa_ gwC) :: gwC.k.tail)) (by kernel_rfl) ?_
        exact gw_a w0 j (some ⟨nb, no, none⟩) nc nb no ver r rfl (by have q : (ver :: r).length ≤ _ := hnl; simp only [List.length_cons] at q; omega) trivial (Qaa r).length 0 (by omega) (.slice none 0 0) (fun g hg => by cases hg) _ _ aa w S2
  · refine Qab 42 S (decide_eq_true (by omega) : decide (((k + j : Nat) : Int) < ((k + m0 : Nat) : Int)) = true) fun S => ?_
    refine Qad 5 S fun bs aa w S => ?_
    refine Qab 47 S (decide_eq_false (by omega) : decide (((k + j : Nat) : Int) < (x.l.length : Int)) = false) fun S => ?_
    refine Qam 12 60 1 S fun bs aa w S => ?_
    refine QjT S (by kernel_rfl) (fun o ρ h1 h2 h3 => ex_sb (x := .tmp 65) (p := QaV (((x.l.drop k).take (j)).flatMap Qbh)) (by kernel_rfl) (by rw [Qa7]; simp only [maxLen]; omega) o ρ h1 h2 h3) fun v aa w' hC hb S => ?_
    have hHB := hC.1
    rw [Qby _ (QbW _)] at hHB
    have hg := QfM v (((x.l.drop k).take (j)).flatMap Qbh) (QbW _) (by omega) w' hHB
    refine Qbk S fun bs S => ?_
    have hblk : ∀ j, j < bs.length → bs.getD j 0 < w'.heap.size := fun j hj => S.lt hj
    cases hd : QaA (((x.l.drop k).take (j)).flatMap Qbh) with
    | none =>
      rw [hd] at hgg
      subst hgg
      refine Qap S (hg.mono fun y w' h => ⟨by have h2 := h.2; rw [hd] at h2; exact h2, h.1⟩) (by kernel_rfl) fun aa w hb S => ?_
      refine Qac S fun bs aa w S => ?_
      exact Qaf S (by kernel_rfl) (by kernel_rfl) fun hg => QhC (Qag hg)
    | some q =>
      obtain ⟨ns, u⟩ := q
      rw [hd] at hgg
      have hnl := QdO (QbW _) hd
      refine Qbc S (X := Value) (val := fun v => .tuple #[v, .int .i64 (u : Int), .int .i64 0]) (C := fun v w2 => Qbu w2 v ns ∧ ∀ g, v.ownBlock = some g → w'.heap.size ≤ g) (hg.mono fun y w2 h => by
        have h2 := h.2
        rw [hd] at h2
        obtain ⟨v, q1, q2, q3⟩ := h2
        exact ⟨v, q1, ⟨q2, q3⟩, h.1⟩) (by kernel_rfl) fun v aa w1 hC hb S => ?_
      obtain ⟨⟨na, nc, rfl, hn63, hcell⟩, hfr⟩ := hC
      obtain ⟨nb, no, hna, hcell, hnb⟩ : ∃ nb no, (ns.length = 0 ∨ na = some ⟨nb, no, none⟩) ∧ (∀ j, j < ns.length → w1.cell? ⟨nb, no + j, none⟩ = some (.int .i64 (ns.getD j 0))) ∧ (ns.length = 0 ∨ w'.heap.size ≤ nb) := by
        rcases hcell with h | ⟨nb, no, rfl, h⟩
        · exact ⟨0, 0, Or.inl h, fun j hj => by omega, Or.inl h⟩
        · exact ⟨nb, no, Or.inr rfl, h, Or.inr (hfr nb rfl)⟩
      have S := S.add (Qb2 nb no ns) hcell (fun i hi hb => by
        obtain ⟨h1, h2⟩ := hb
        have q1 := hblk i hi
        have q2 := hnb.resolve_left h2
        omega)
      refine Qam 13 60 6 S fun bs aa w S => ?_
      cases ns with
      | nil =>
        subst hgg
        refine Qab 76 S (by rfl : decide (((([] : List Int).length : Nat) : Int) = 0) = true) fun S => ?_
        refine Qac S fun bs aa w S => ?_
        exact Qaf S (by kernel_rfl) (by kernel_rfl) fun hg => QhC (Qag hg)
      | cons ver r =>
        subst hgg
        refine Qab 76 S (decide_eq_false (by simp only [List.length_cons]; omega) : decide ((((ver :: r).length : Nat) : Int) = 0) = false) fun S => ?_
        obtain rfl := hna.resolve_left (by simp)
        refine Qam 15 60 1 S fun bs aa w S => ?_
        refine QbI (b := nb) (off := no) (len := (ver :: r).length) (n := 0) (size := 1) (i := 0) S (by kernel_rfl) rfl (by simp) fun aa S => ?_
        refine Qbb S (QaP (ty := 3) (b := nb) (off := no + 0 * 1) (by kernel_rfl) ((S.fact (f := Qb2 nb no (ver :: r)) (by simp)) 0 (by simp))) (by kernel_rfl) fun aa S => ?_
        refine Qac S fun bs aa w S => ?_
        have S := S.add (Qah w0.heap.size 42 2 (.slice none 0 0) 0 (wsV ((Qaa r).take 0))) (World.ownsRow_nil _ _ _ _) (fun i hi h => by cases h)
        have S := S.sub (F' := [Qb2 nb no (ver :: r), Qah w0.heap.size 42 2 (.slice none 0 0) 0 (wsV ((Qaa r).take 0))]) (by intro f hf; simp only [List.mem_cons, List.not_mem_nil, or_false] at hf; rcases hf with rfl | rfl <;> simp)
        have S2 := S.to [0, 1] (gwS (some ⟨nb, no, none⟩) (r.length + 1) nc m0 ver (.slice none 0 0) 0) (by kernel_rfl) (by kernel_rfl) (by kernel_rfl) (by kernel_rfl) (by kernel_rfl)
        refine QaJ ((Qaa r).length + 1) (by kernel_rfl) ?_
        refine Qai (k' := (.rnd ((Qaa r).length + 1) (Qa_ gwC) :: gwC.k.tail)) (by kernel_rfl) ?_
        exact gw_a w0 m0 (some ⟨nb, no, none⟩) nc nb no ver r rfl (by have q : (ver :: r).length ≤ _ := hnl; simp only [List.length_cons] at q; omega) trivial (Qaa r).length 0 (by omega) (.slice none 0 0) (fun g hg => by cases hg) _ _ aa w S2
theorem gc_s (m j : Nat) (hj : j < m0) (hkj : k + j < x.l.length) (ih : ∀ (x0 : Nat) (aa : Act) (w : World) (S : Sy w0 [] [x0] (gcS x k m0 (((x.l.drop k).take (j + 1)).flatMap Qbh) (j + 1)) [QaC x.b x.o x.l] aa w), post Try.prog (.rnd (m) (Qa_ gcC) :: gcC.k.tail) (bodyPost Try.prog Try.f71 (gueP w0 g)) .normal aa w) (x0 : Nat) (aa : Act) (w : World) (S : Sy w0 [] [x0] (gcS x k m0 (((x.l.drop k).take (j)).flatMap Qbh) (j)) [QaC x.b x.o x.l] aa w) : post Try.prog (.rnd (m + 1) (Qa_ gcC) :: gcC.k.tail) (bodyPost Try.prog Try.f71 (gueP w0 g)) .normal aa w := by
  have hpl : (((x.l.drop k).take (j)).flatMap Qbh).length ≤ 27 * 256 := by
    have q1 := QfJ ((x.l.drop k).take j)
    rw [List.length_take] at q1
    have : min j (x.l.drop k).length ≤ 256 := by omega
    omega
  refine Qam (c := ⟨(.rnd (m + 1) (Qa_ gcC) :: gcC.k.tail), gcS x k m0 (((x.l.drop k).take (j)).flatMap Qbh) (j)⟩) 8 50 4 S fun bs aa w S => ?_
  refine QaM 41 S (by rw [IntKind.wrap_i64]; omega : IntKind.i64.wrap ((k : Int) + (m0 : Int)) = ((k + m0 : Nat) : Int)) fun S => ?_
  refine Qad 1 S fun bs aa w S => ?_
  refine Qab 42 S (decide_eq_true (by omega) : decide (((k + j : Nat) : Int) < ((k + m0 : Nat) : Int)) = true) fun S => ?_
  refine Qad 5 S fun bs aa w S => ?_
  refine Qab 47 S (decide_eq_true (by omega) : decide (((k + j : Nat) : Int) < (x.l.length : Int)) = true) fun S => ?_
  refine Qam 10 60 2 S fun bs aa w S => ?_
  refine QbI (b := x.b) (off := x.o) (len := x.l.length) (n := k + j) (size := 1) (i := ((k + j : Nat) : Int)) S (by rw [← hx.resolve_left (by omega)]; kernel_rfl) rfl (by omega) fun aa S => ?_
  refine Qbb S (QaP (ty := 9) (b := x.b) (off := x.o + (k + j) * 1) (by kernel_rfl) (by rw [Nat.mul_one]; exact S.fact (f := QaC x.b x.o x.l) (by simp) (k + j) (by omega))) (by kernel_rfl) fun aa S => ?_
  refine Qad 2 S fun bs aa w S => ?_
  by_cases h32 : (x.l.getD (k + j) ByteArray.empty).size = 32
  case neg =>
    refine Qab 56 S (decide_eq_false (by omega) : decide (((x.l.getD (k + j) ByteArray.empty).size : Int) = 32) = false) fun S => ?_
    refine Qam 9 60 2 S fun bs aa w S => ?_
    refine QaM 50 S (by rw [IntKind.wrap_i64]; omega : IntKind.i64.wrap (((k + j : Nat) : Int) + 1) = ((k + (j + 1) : Nat) : Int)) fun S => ?_
    refine Qan ⟨0, [999]⟩ 50 S fun bs aa w S => ?_
    have e1 : (((x.l.drop k).take (j + 1)).flatMap Qbh) = (((x.l.drop k).take (j)).flatMap Qbh) := by rw [QeZ _ _ _ hkj]; unfold Qbh; rw [if_neg h32, List.append_nil]
    have S2 := S.to [0] (gcS x k m0 (((x.l.drop k).take (j)).flatMap Qbh) (j + 1)) (by kernel_rfl) (by kernel_rfl) (by kernel_rfl) (by kernel_rfl) (by kernel_rfl)
    rw [← e1] at S2
    refine Qai (k' := (.rnd (m) (Qa_ gcC) :: gcC.k.tail)) (by kernel_rfl) ?_
    exact ih _ aa w S2
  refine Qab 56 S (decide_eq_true (by omega) : decide (((x.l.getD (k + j) ByteArray.empty).size : Int) = 32) = true) fun S => ?_
  refine Qam 11 60 3 S fun bs aa w S => ?_
  refine QbI (b := x.b) (off := x.o) (len := x.l.length) (n := k + j) (size := 1) (i := ((k + j : Nat) : Int)) S (by rw [← hx.resolve_left (by omega)]; kernel_rfl) rfl (by omega) fun aa S => ?_
  refine Qbb S (QaP (ty := 9) (b := x.b) (off := x.o + (k + j) * 1) (by kernel_rfl) (by rw [Nat.mul_one]; exact S.fact (f := QaC x.b x.o x.l) (by simp) (k + j) (by omega))) (by kernel_rfl) fun aa S => ?_
  refine Qco (op := .slice 9 (.tmp 61) (some (.const (.int .i64 1))) (some (.const (.int .i64 28))) none) (ty := 9) (v := .string ((x.l.getD (k + j) ByteArray.empty).extract 1 28)) S (by kernel_rfl) (Ql_ (p := (x.l.getD (k + j) ByteArray.empty)) (l2 := some (.v (.int .i64 1))) (h2 := some (.v (.int .i64 28))) Try.underlying9 (by kernel_rfl) (by kernel_rfl) (by kernel_rfl) (fun W => slS_m _ h32 W)) fun aa S => ?_
  have e1 : (((x.l.drop k).take (j + 1)).flatMap Qbh) = (((x.l.drop k).take (j)).flatMap Qbh) ++ sct (x.l.getD (k + j) ByteArray.empty) := by rw [QeZ _ _ _ hkj]; unfold Qbh; rw [if_pos h32]
  have e2 : (x.l.getD (k + j) ByteArray.empty).extract 1 28 = QaV (sct (x.l.getD (k + j) ByteArray.empty)) := by rw [← Qj3 _ h32, Qga]
  refine Qco (op := .binOp .add 9 (.tmp 57) (.tmp 62) 9) (ty := 9) (v := .string (QaV (((x.l.drop k).take (j + 1)).flatMap Qbh))) S (by kernel_rfl) (fun o ρ W g1 g2 g3 => by
    have h := QiH (P := Try.prog) (x := .tmp 57) (y := .tmp 62) (t := 9) (t' := 9) (ty := 9) (p := QaV (((x.l.drop k).take (j)).flatMap Qbh)) (q := (x.l.getD (k + j) ByteArray.empty).extract 1 28) Try.underlying9 (by kernel_rfl) (by kernel_rfl) (by rw [Qa7, QiE _ h32]; omega) o ρ W g1 g2 g3
    rw [e2, QdX, ← e1] at h
    exact h) fun aa S => ?_
  refine Qam 9 60 2 S fun bs aa w S => ?_
  refine QaM 50 S (by rw [IntKind.wrap_i64]; omega : IntKind.i64.wrap (((k + j : Nat) : Int) + 1) = ((k + (j + 1) : Nat) : Int)) fun S => ?_
  refine Qan ⟨0, [999]⟩ 50 S fun bs aa w S => ?_
  have S2 := S.to [0] (gcS x k m0 (((x.l.drop k).take (j + 1)).flatMap Qbh) (j + 1)) (by kernel_rfl) (by kernel_rfl) (by kernel_rfl) (by kernel_rfl) (by kernel_rfl)
  refine Qai (k' := (.rnd (m) (Qa_ gcC) :: gcC.k.tail)) (by kernel_rfl) ?_
  exact ih _ aa w S2
theorem gc_a : ∀ (m j : Nat), j + m = m0 → k + j ≤ x.l.length → ∀ (x0 : Nat) (aa : Act) (w : World) (S : Sy w0 [] [x0] (gcS x k m0 (((x.l.drop k).take (j)).flatMap Qbh) (j)) [QaC x.b x.o x.l] aa w), post Try.prog (.rnd (m + 1) (Qa_ gcC) :: gcC.k.tail) (bodyPost Try.prog Try.f71 (gueP w0 g)) .normal aa w := by
  intro m
  induction m with
  | zero => intro j hj hkj x0 aa w S; exact gc_e w0 x hx hl k m0 hk hm g hg 0 j (Or.inl (by omega)) x0 aa w S
  | succ m ih =>
    intro j hj hkj x0 aa w S
    rcases Nat.lt_or_ge (k + j) x.l.length with h | h
    · exact gc_s w0 x hx hl k m0 hk hm g hg (m + 1) j (by omega) h (ih (j + 1) (by omega) (by omega)) x0 aa w S
    · exact gc_e w0 x hx hl k m0 hk hm g hg (m + 1) j (Or.inr ⟨by omega, by omega⟩) x0 aa w S
end
theorem guess_t (w0 : World) (x : Sr) (hx : x.ok) (hl : x.l.length ≤ 1000) (at_ : Int) (hA : x.at w0) : Calls Try.prog 71 #[x.v, .int .i64 at_] w0 (gueP w0 (Qeu x.l at_)) := by
  refine Qav [] [QaC x.b x.o x.l] (by intro f hf; simp only [List.mem_singleton] at hf; subst hf; exact hA) Try.func71 rfl rfl fun aa S => ?_
  refine Qam 1 60 2 S fun bs aa w S => ?_
  by_cases h0 : at_ < 0
  case pos =>
    refine Qab 15 S (decide_eq_true h0 : decide (at_ < 0) = true) fun S => ?_
    have eR : Qeu x.l at_ = (0, [], 0) := by unfold Qeu; rw [if_pos h0]
    refine Qac S fun bs aa w S => ?_
    rw [eR]
    exact Qaf S (by kernel_rfl) (by kernel_rfl) fun hg => QhC (Qag hg)
  refine Qab 15 S (decide_eq_false h0 : decide (at_ < 0) = false) fun S => ?_
  refine Qad 5 S fun bs aa w S => ?_
  obtain ⟨k, rfl⟩ : ∃ k : Nat, at_ = (k : Int) := ⟨at_.toNat, (Int.toNat_of_nonneg (by omega)).symm⟩
  have eA : Qeu x.l (k : Int) = QeM x.l k := by unfold Qeu; rw [if_neg h0, Int.toNat_natCast]
  by_cases h1 : k < x.l.length
  case neg =>
    refine Qab 20 S (decide_eq_true (by omega) : decide ((k : Int) ≥ (x.l.length : Int)) = true) fun S => ?_
    have eR : Qeu x.l (k : Int) = (0, [], 0) := by rw [eA]; unfold QeM; rw [if_pos (by omega)]
    refine Qac S fun bs aa w S => ?_
    rw [eR]
    exact Qaf S (by kernel_rfl) (by kernel_rfl) fun hg => QhC (Qag hg)
  refine Qab 20 S (decide_eq_false (by omega) : decide ((k : Int) ≥ (x.l.length : Int)) = false) fun S => ?_
  refine Qam 3 60 2 S fun bs aa w S => ?_
  refine QbI (b := x.b) (off := x.o) (len := x.l.length) (n := k) (size := 1) (i := (k : Int)) S (by rw [← hx.resolve_left (by omega)]; kernel_rfl) rfl h1 fun aa S => ?_
  refine Qbb S (QaP (ty := 9) (b := x.b) (off := x.o + k * 1) (by kernel_rfl) (by rw [Nat.mul_one]; exact S.fact (f := QaC x.b x.o x.l) (by simp) k h1)) (by kernel_rfl) fun aa S => ?_
  refine Qad 2 S fun bs aa w S => ?_
  by_cases h2 : (x.l.getD k ByteArray.empty).size = 32
  case neg =>
    refine Qab 28 S (by rw [decide_eq_false (by omega)]; rfl : (!decide (((x.l.getD k ByteArray.empty).size : Int) = 32)) = true) fun S => ?_
    have eR : Qeu x.l (k : Int) = (0, [], 0) := by rw [eA]; unfold QeM; rw [if_neg (by omega), if_neg h2]
    refine Qac S fun bs aa w S => ?_
    rw [eR]
    exact Qaf S (by kernel_rfl) (by kernel_rfl) fun hg => QhC (Qag hg)
  refine Qab 28 S (by rw [decide_eq_true (by omega)]; rfl : (!decide (((x.l.getD k ByteArray.empty).size : Int) = 32)) = false) fun S => ?_
  refine Qam 5 60 2 S fun bs aa w S => ?_
  refine QbI (b := x.b) (off := x.o) (len := x.l.length) (n := k) (size := 1) (i := (k : Int)) S (by rw [← hx.resolve_left (by omega)]; kernel_rfl) rfl h1 fun aa S => ?_
  refine Qbb S (QaP (ty := 9) (b := x.b) (off := x.o + k * 1) (by kernel_rfl) (by rw [Nat.mul_one]; exact S.fact (f := QaC x.b x.o x.l) (by simp) k h1)) (by kernel_rfl) fun aa S => ?_
  refine Qco (op := .index 9 (.tmp 33) (.const (.int .i64 0))) (ty := 5) (v := .int .u8 ((byt (x.l.getD k ByteArray.empty) 0 : Nat) : Int)) S (by kernel_rfl) (ex_ix (p := (x.l.getD k ByteArray.empty)) (k := 0) Try.underlying9 (by kernel_rfl) (by kernel_rfl) (by omega)) fun aa S => ?_
  have hby := QiV (x.l.getD k ByteArray.empty) 0
  have eF : QcE (x.l.getD k ByteArray.empty) = byt (x.l.getD k ByteArray.empty) 0 := Qef _ 0
  refine Qad 2 S fun bs aa w S => ?_
  refine QaM 36 S (by rw [IntKind.wrap_i64, IntKind.wrap_i64]; omega : IntKind.i64.wrap (IntKind.i64.wrap ((byt (x.l.getD k ByteArray.empty) 0 : Nat) : Int) + 1) = ((byt (x.l.getD k ByteArray.empty) 0 + 1 : Nat) : Int)) fun S => ?_
  refine Qac S fun bs aa w S => ?_
  have S2 := S.to [0] (gcS x k (byt (x.l.getD k ByteArray.empty) 0 + 1) [] 0) (by kernel_rfl) (by kernel_rfl) (by kernel_rfl) (by kernel_rfl) (by kernel_rfl)
  refine QaJ (byt (x.l.getD k ByteArray.empty) 0 + 1 + 1) (by kernel_rfl) ?_
  refine Qai (k' := (.rnd (byt (x.l.getD k ByteArray.empty) 0 + 1 + 1) (Qa_ gcC) :: gcC.k.tail)) (by kernel_rfl) ?_
  have eG : (match QaA (((x.l.drop k).take (byt (x.l.getD k ByteArray.empty) 0 + 1)).flatMap Qbh) with | some (n :: r, _) => (n, Qaa r, byt (x.l.getD k ByteArray.empty) 0 + 1) | _ => (0, [], 0)) = Qeu x.l (k : Int) := by
    rw [eA]
    unfold QeM
    rw [if_neg (by omega), if_pos h2, eF]
    rcases QaA (((x.l.drop k).take (byt (x.l.getD k ByteArray.empty) 0 + 1)).flatMap Qbh) with _ | ⟨ns, u⟩
    · rfl
    · cases ns <;> rfl
  exact gc_a w0 x hx hl k (byt (x.l.getD k ByteArray.empty) 0 + 1) h1 ⟨by omega, by omega⟩ _ eG (byt (x.l.getD k ByteArray.empty) 0 + 1) 0 (by omega) (by omega) _ aa w S2
theorem Qjd (l : (List ByteArray)) (k : Int) : QfO l k = (if (Qeu l k).2.2 = 0 ∨ (Qa4 (Qeu l k).1 (Qeu l k).2.1).length = 0 ∨ (Qa4 (Qeu l k).1 (Qeu l k).2.1).length ≠ (Qeu l k).2.2 ∨ (l.length : Int) - k < (Qeu l k).2.2 ∨ Qa4 (Qeu l k).1 (Qeu l k).2.1 ≠ (l.drop k.toNat).take (Qeu l k).2.2 then none else some (Qeu l k)) := by
  unfold QfO Qeu
  by_cases h : k < 0
  · rw [if_pos h, if_pos h]
    exact (if_pos (Or.inl rfl)).symm
  · rw [if_neg h, if_neg h, ← Qkw]
    unfold rparS
    simp only
    by_cases hk : l.length ≤ k.toNat
    · have : QeM l k.toNat = (0, [], 0) := by unfold QeM; rw [if_pos hk]
      rw [this]
      rw [if_pos (Or.inl rfl), if_pos (Or.inl rfl)]
    · exact ite_congr (propext (or_congr Iff.rfl (or_congr Iff.rfl (or_congr Iff.rfl (or_congr ⟨fun q => by omega, fun q => by omega⟩ Iff.rfl))))) (fun _ => rfl) (fun _ => rfl)
theorem gueA_fit (l : (List ByteArray)) (k : Int) : QeF (Qeu l k).1 (Qeu l k).2.1 := by
  unfold Qeu
  split
  · exact ⟨by unfold I64; omega, by simp⟩
  · exact QiB l _
theorem gueA_neg {l : (List ByteArray)} {k : Int} (h : (Qeu l k).2.2 ≠ 0) : ∃ n : Nat, k = (n : Int) ∧ n < l.length ∧ (Qeu l k).2.2 ≤ 257 := by
  unfold Qeu at h ⊢
  split at h
  · exact absurd rfl h
  · rename_i hk
    rw [if_neg hk]
    refine ⟨k.toNat, (Int.toNat_of_nonneg (by omega)).symm, ?_, ?_⟩
    · unfold QeM at h
      split at h
      · exact absurd rfl h
      · omega
    · unfold QeM
      split
      · exact Nat.zero_le _
      · split
        · split
          · have := QiV (l.getD k.toNat ByteArray.empty) 0
            rw [← Qef] at this
            show QcE _ + 1 ≤ 257
            unfold QcE
            omega
          · exact Nat.zero_le _
        · exact Nat.zero_le _
theorem rparse_t (w0 : World) (x : Sr) (hx : x.ok) (hc : x.l.length ≤ x.c) (hl : x.l.length ≤ 1000) (at_ : Int) (hat : I64 at_) (hA : x.at w0) : Calls Try.prog 58 #[x.v, .int .i64 at_] w0 (parP w0 (QfO x.l at_)) := by
  unfold I64 at hat
  refine Qav [] [QaC x.b x.o x.l] (by intro f hf; simp only [List.mem_singleton] at hf; subst hf; exact hA) Try.func58 rfl rfl fun aa S => ?_
  refine Qam 1 60 2 S fun bs aa w S => ?_
  refine Qbk S fun bs S => ?_
  have hgu := guess_t w x hx hl at_ (S.fact (f := QaC x.b x.o x.l) (by simp))
  have hfg := gueA_fit x.l at_
  have hng := @gueA_neg x.l at_
  obtain ⟨G, hG⟩ : ∃ G, G = Qeu x.l at_ := ⟨_, rfl⟩
  rw [← hG] at hgu hfg hng
  have hblk : ∀ j, j < bs.length → bs.getD j 0 < w.heap.size := fun j hj => S.lt hj
  have hgs := S.gr.size
  refine Qbc S (X := Et) (val := fun e => .tuple #[e.v, .int .i64 (G.2.2 : Int)]) (C := fun e w' => e.ver = G.1 ∧ e.ws = G.2.1 ∧ e.ok ∧ QcW w' e.b e.o e.ws ∧ (e.ws.length = 0 ∨ w.heap.size ≤ e.b)) (hgu.mono fun y w' h => by
    obtain ⟨e, q1, q2, q3, q4, q5, q6⟩ := h.2
    exact ⟨e, q4, ⟨q1, q2, q3, q5, q6⟩, h.1⟩) (by kernel_rfl) fun e aa w1 hC hb S => ?_
  obtain ⟨hq1, hq2, hok, hwr, hfr⟩ := hC
  rw [← hq1, ← hq2] at hfg
  have S := S.add (QaN e.b e.o e.ws) hwr (fun i hi hb => by
    obtain ⟨q1, q2⟩ := hb
    have := hblk i hi
    have := hfr.resolve_left q2
    omega)
  refine Qam 2 60 1 S fun bs aa w S => ?_
  refine Qbk S fun bs S => ?_
  have hblk2 : ∀ j, j < bs.length → bs.getD j 0 < w.heap.size := fun j hj => S.lt hj
  have h25 := Qkj hfg
  refine Qbc S (X := Sr) (val := Sr.v) (C := fun s w' => s.l = Qa4 e.ver e.ws ∧ s.ok ∧ s.at w' ∧ s.l.length ≤ s.c ∧ (s.l.length = 0 ∨ w.heap.size ≤ s.b)) (Qka w e hok hfg (S.fact (f := QaN e.b e.o e.ws) (by simp))) (by kernel_rfl) fun r aa w1 hC hb S => ?_
  obtain ⟨hrl, hr, har, hcr, hrf⟩ := hC
  have S := S.add (QaC r.b r.o r.l) har (fun j hj hb => by
    obtain ⟨q1, q2⟩ := hb
    have := hblk2 j hj
    have := hrf.resolve_left q2
    omega)
  rw [← hrl] at h25
  have eRec : Qa4 G.1 G.2.1 = r.l := by rw [hrl, hq1, hq2]
  refine Qam 3 60 2 S fun bs aa w S => ?_
  by_cases h0 : G.2.2 = 0
  case pos =>
    refine Qab 20 S (decide_eq_true (by omega) : decide ((G.2.2 : Int) = 0) = true) fun S => ?_
    have eR : QfO x.l at_ = none := by rw [Qjd, ← hG]; exact if_pos (Or.inl h0)
    refine Qac S fun bs aa w S => ?_
    rw [eR]
    exact Qaf S (by kernel_rfl) (by kernel_rfl) fun hg => ⟨Qag hg, rfl⟩
  obtain ⟨k, rfl, hkl, h257⟩ := hng h0
  refine Qab 20 S (decide_eq_false (by omega) : decide ((G.2.2 : Int) = 0) = false) fun S => ?_
  refine Qad 4 S fun bs aa w S => ?_
  by_cases h1 : r.l.length = 0
  case pos =>
    refine Qab 24 S (decide_eq_true (by omega) : decide ((r.l.length : Int) = 0) = true) fun S => ?_
    have eR : QfO x.l (k : Int) = none := by rw [Qjd, ← hG]; exact if_pos (Or.inr (Or.inl (by rw [eRec]; exact h1)))
    refine Qac S fun bs aa w S => ?_
    rw [eR]
    exact Qaf S (by kernel_rfl) (by kernel_rfl) fun hg => ⟨Qag hg, rfl⟩
  refine Qab 24 S (decide_eq_false (by omega) : decide ((r.l.length : Int) = 0) = false) fun S => ?_
  refine Qad 6 S fun bs aa w S => ?_
  by_cases h2 : r.l.length = G.2.2
  case neg =>
    refine Qab 30 S (by rw [decide_eq_false (by omega)]; rfl : (!decide ((r.l.length : Int) = (G.2.2 : Int))) = true) fun S => ?_
    have eR : QfO x.l (k : Int) = none := by rw [Qjd, ← hG]; exact if_pos (Or.inr (Or.inr (Or.inl (by rw [eRec]; exact h2))))
    refine Qac S fun bs aa w S => ?_
    rw [eR]
    exact Qaf S (by kernel_rfl) (by kernel_rfl) fun hg => ⟨Qag hg, rfl⟩
  refine Qab 30 S (by rw [decide_eq_true (by omega)]; rfl : (!decide ((r.l.length : Int) = (G.2.2 : Int))) = false) fun S => ?_
  refine Qad 7 S fun bs aa w S => ?_
  refine QaM 37 S (by rw [IntKind.wrap_i64]; omega : IntKind.i64.wrap ((x.l.length : Int) - (k : Int)) = ((x.l.length - k : Nat) : Int)) fun S => ?_
  refine Qad 1 S fun bs aa w S => ?_
  by_cases h3 : x.l.length - k < G.2.2
  case pos =>
    refine Qab 38 S (decide_eq_true (by omega) : decide ((G.2.2 : Int) > ((x.l.length - k : Nat) : Int)) = true) fun S => ?_
    have eR : QfO x.l (k : Int) = none := by rw [Qjd, ← hG]; exact if_pos (Or.inr (Or.inr (Or.inr (Or.inl (by omega)))))
    refine Qac S fun bs aa w S => ?_
    rw [eR]
    exact Qaf S (by kernel_rfl) (by kernel_rfl) fun hg => ⟨Qag hg, rfl⟩
  refine Qab 38 S (decide_eq_false (by omega) : decide ((G.2.2 : Int) > ((x.l.length - k : Nat) : Int)) = false) fun S => ?_
  refine Qam 5 60 6 S fun bs aa w S => ?_
  refine QaM 46 S (by rw [IntKind.wrap_i64]; omega : IntKind.i64.wrap ((k : Int) + (G.2.2 : Int)) = ((k + G.2.2 : Nat) : Int)) fun S => ?_
  have hxa := hx.resolve_left (by omega)
  have hyl : ((x.l.drop k).take G.2.2).length = G.2.2 := by rw [List.length_take, List.length_drop]; omega
  refine Qco (op := .slice 27 (.tmp 42) (some (.tmp 43)) (some (.tmp 46)) none) (ty := 27) (v := .slice (some ⟨x.b, x.o + k, none⟩) ((x.l.drop k).take G.2.2).length (x.c - k)) S (by kernel_rfl) (Qla (p := .slice x.a x.l.length x.c) (l2 := some (.v (.int .i64 (k : Int)))) (h2 := some (.v (.int .i64 ((k + G.2.2 : Nat) : Int)))) (m2 := none) (by kernel_rfl) (by kernel_rfl) (by kernel_rfl) (by kernel_rfl) (fun W => by have q := Qj0 27 9 Try.underlying27 (by kernel_rfl) x.b x.o x.l.length x.c k (k + G.2.2) (by omega) (by omega) (by omega) W; rw [show k + G.2.2 - k = G.2.2 by omega] at q; rw [hyl, hxa]; exact q)) fun aa S => ?_
  refine Qap S (args := #[r.v, .slice (some ⟨x.b, x.o + k, none⟩) ((x.l.drop k).take G.2.2).length (x.c - k)]) (texts_t _ r ⟨some ⟨x.b, x.o + k, none⟩, x.c - k, x.b, x.o + k, (x.l.drop k).take G.2.2⟩ hr (Or.inr rfl) (by omega) (S.fact (f := QaC r.b r.o r.l) (by simp)) (Qhf (S.fact (f := QaC x.b x.o x.l) (by simp)))) (by kernel_rfl) fun aa w hb S => ?_
  by_cases h4 : r.l = (x.l.drop k).take G.2.2
  case neg =>
    refine Qab 48 S (decide_eq_false h4) fun S => ?_
    have eR : QfO x.l (k : Int) = none := by rw [Qjd, ← hG]; exact if_pos (Or.inr (Or.inr (Or.inr (Or.inr (by rw [eRec, Int.toNat_natCast]; exact h4)))))
    refine Qac S fun bs aa w S => ?_
    rw [eR]
    exact Qaf S (by kernel_rfl) (by kernel_rfl) fun hg => ⟨Qag hg, rfl⟩
  refine Qab 48 S (decide_eq_true h4) fun S => ?_
  have eR : QfO x.l (k : Int) = some G := by
    rw [Qjd, ← hG]
    refine if_neg ?_
    rw [eRec, Int.toNat_natCast]
    rintro (q | q | q | q | q)
    · exact h0 q
    · exact h1 q
    · exact q h2
    · omega
    · exact q h4
  refine Qac S fun bs aa w S => ?_
  have hw := S.fact (f := QaN e.b e.o e.ws) (by simp)
  rw [eR]
  exact Qaf S (by kernel_rfl) (by kernel_rfl) fun hg => ⟨Qag hg, e, hq1, hq2, hok, rfl, hw, hfr.imp id fun q => by omega⟩
noncomputable def ucC : Cfg := ⟨goZ 60 [] [.code (QaI Try.f36)], ⟨0, [], []⟩⟩
noncomputable def ucS (x : Sr) (ev : Value) (k : Nat) (last : Int) : SS := ⟨40, [(0, .v x.v), (4, .v ev), (5, .v (.int .i64 (k : Int))), (6, .v (.int .i64 last))], []⟩
theorem uc_s (w0 : World) (x : Sr) (hx : x.ok) (hc : x.l.length ≤ x.c) (hl : x.l.length ≤ 1000) (R : List (Int × Ws) × Nat) (f k : Nat) (hk : k ≤ x.l.length) (ih : ∀ (es : List Et) (ev : Value) (k : Nat) (last : Int) (hk : k ≤ x.l.length ∧ x.l.length - k < f) (hes : ∀ e ∈ es, e.ok ∧ QeF e.ver e.ws ∧ (e.ws.length = 0 ∨ w0.heap.size ≤ e.b)) (hel : (es).length ≤ k) (hap : (∀ f ∈ [QaC x.b x.o x.l, Qax (es)], ∀ g, Value.ownBlock ev = some g → ¬f.bl g)) (hR : (es).map prE ++ (Qda (f) x.l (k) last).1 = R.1 ∧ (Qda (f) x.l (k) last).2 = R.2) (aa : Act) (w : World) (S : Sy w0 [] [] (ucS x ev (k) last) [QaC x.b x.o x.l, Qax (es), Qah w0.heap.size 60 2 ev (es).length (esV (es))] aa w), post Try.prog (.rnd (f) (Qa_ ucC) :: ucC.k.tail) (bodyPost Try.prog Try.f36 (recP w0 R)) .normal aa w) (hfu : x.l.length - k < f + 1) (es : List Et) (ev : Value) (last : Int) (hes : ∀ e ∈ es, e.ok ∧ QeF e.ver e.ws ∧ (e.ws.length = 0 ∨ w0.heap.size ≤ e.b)) (hel : (es).length ≤ k) (hap : (∀ f ∈ [QaC x.b x.o x.l, Qax (es)], ∀ g, Value.ownBlock ev = some g → ¬f.bl g)) (hR : (es).map prE ++ (Qda (f + 1) x.l (k) last).1 = R.1 ∧ (Qda (f + 1) x.l (k) last).2 = R.2) (aa : Act) (w : World) (S : Sy w0 [] [] (ucS x ev (k) last) [QaC x.b x.o x.l, Qax (es), Qah w0.heap.size 60 2 ev (es).length (esV (es))] aa w) : post Try.prog (.rnd (f + 1) (Qa_ ucC) :: ucC.k.tail) (bodyPost Try.prog Try.f36 (recP w0 R)) .normal aa w := by
  obtain ⟨ii, hi1, hi2, hi3, hi4⟩ := Qd1 enI
  refine Qam (c := ⟨(.rnd (f + 1) (Qa_ ucC) :: ucC.k.tail), ucS x ev k last⟩) 4 50 4 S fun bs aa w S => ?_
  refine Qab 13 S (decide_eq_true (by omega) : decide ((k : Int) ≤ (x.l.length : Int)) = true) fun S => ?_
  refine Qam 5 60 2 S fun bs aa w S => ?_
  refine Qbk S fun bs S => ?_
  have hpar := rparse_t w x hx hc hl (k : Int) (by unfold I64; omega) (S.fact (f := QaC x.b x.o x.l) (by simp))
  rw [Qii] at hpar
  have hblk : ∀ j, j < bs.length → bs.getD j 0 < w.heap.size := fun j hj => S.lt hj
  have hgs0 := S.gr.size
  have how0 := S.fact (f := Qah w0.heap.size 60 2 ev (es).length (esV (es))) (by simp)
  rcases hp : Qca x.l k with _ | ⟨v, ws, n⟩
  · rw [Qe9 hp] at hR
    refine Qap S (args := #[x.v, .int .i64 (k : Int)]) (hpar.mono fun y w' h => ⟨by have h2 := h.2; rw [hp] at h2; exact h2, h.1⟩) (by kernel_rfl) fun aa w hb S => ?_
    refine Qac S fun bs aa w S => ?_
    have how := S.fact (f := Qah w0.heap.size 60 2 ev (es).length (esV (es))) (by simp)
    have hew := S.fact (f := Qax es) (by simp)
    exact Qaf S (by kernel_rfl) (by kernel_rfl) fun hg => ⟨Qag hg, es, ev, by rw [← hR.2], by rw [← hR.1, List.append_nil], how, hes, hew⟩
  · obtain ⟨hfit, hvv, hn, hn1, hkl, hnl, htk⟩ := Qd2 hp
    refine Qbc S (X := Et) (val := fun e => .tuple #[e.v, .int .i64 (n : Int), .int .i64 0]) (C := fun e w' => e.ver = v ∧ e.ws = ws ∧ e.ok ∧ QcW w' e.b e.o e.ws ∧ (e.ws.length = 0 ∨ w.heap.size ≤ e.b)) (args := #[x.v, .int .i64 (k : Int)]) (hpar.mono fun y w' h => by
      have h2 := h.2
      rw [hp] at h2
      obtain ⟨e, q1, q2, q3, q4, q5, q6⟩ := h2
      exact ⟨e, q4, ⟨q1, q2, q3, q5, q6⟩, h.1⟩) (by kernel_rfl) fun e aa w1 hC hb S => ?_
    obtain ⟨rfl, rfl, hok, hwr, hfr⟩ := hC
    have S := S.add (QaN e.b e.o e.ws) hwr (fun i hi hb => by
      obtain ⟨q1, q2⟩ := hb
      have := hblk i hi
      have := hfr.resolve_left q2
      omega)
    refine Qam 6 60 7 S fun bs aa w S => ?_
    by_cases hle : e.ver ≤ last
    · rw [Qgh hp hle] at hR
      refine Qab 27 S (decide_eq_true hle) fun S => ?_
      refine Qac S fun bs aa w S => ?_
      have how := S.fact (f := Qah w0.heap.size 60 2 ev (es).length (esV (es))) (by simp)
      have hew := S.fact (f := Qax es) (by simp)
      exact Qaf S (by kernel_rfl) (by kernel_rfl) fun hg => ⟨Qag hg, es, ev, by rw [← hR.2], by rw [← hR.1, List.append_nil], how, hes, hew⟩
    · rw [Qe8 hp hle] at hR
      refine Qab 27 S (decide_eq_false hle) fun S => ?_
      refine Qam 7 60 3 S fun bs aa w S => ?_
      refine Qbk S fun bs S => ?_
      have how := S.fact (f := Qah w0.heap.size 60 2 ev (es).length (esV (es))) (by simp)
      have hapb := (S.fs (Qah w0.heap.size 60 2 ev (es).length (esV (es))) (by simp)).2
      have hblk2 : ∀ j, j < bs.length → bs.getD j 0 < w.heap.size := fun j hj => S.lt hj
      have hFP : ∀ f ∈ [QaN e.b e.o e.ws, QaC x.b x.o x.l, Qax es], f.P w := fun f hf => (S.fs f (by simp only [List.mem_cons, List.not_mem_nil, or_false] at hf ⊢; rcases hf with rfl | rfl | rfl <;> simp)).1
      have hap3 : ∀ f ∈ [QaN e.b e.o e.ws, QaC x.b x.o x.l, Qax es], ∀ g, ev.ownBlock = some g → ¬f.bl g := by
        intro f hf g hg hb
        rcases List.mem_cons.1 hf with rfl | hf
        · have q1 := (how0.lt g hg).2
          have q2 := hfr.resolve_left hb.2
          have q3 := hb.1
          omega
        · exact hap f hf g hg hb
      have hel2 : es.length ≤ 1000 := by omega
      refine QeT w0.heap.size (u := .v ev) (y := .s 1 0 1 1) (v := ev) (ad := adr bs 1 0) (m := 1) (cp := 1) (n := es.length) (size := 2) (bytes := 32) (e := 60) (t := 38) (xs := esV es) (news := [.int .i64 e.ver, .slice e.a e.ws.length e.c]) [QaN e.b e.o e.ws, QaC x.b x.o x.l, Qax es] S (by kernel_rfl) Try.underlying38 hi1 hi2 hi3 hi4 rfl (by omega) rfl rfl how S.gr.size (own3 (P := Try.prog) (ty := 60) (cs := [.int .i64 e.ver, .slice e.a e.ws.length e.c]) S 1 (by kernel_rfl)) rfl (by intro u hu; simp only [List.mem_cons, List.not_mem_nil, or_false] at hu; rcases hu with rfl | rfl <;> rfl) (by simp only [maxLen]; omega) (by omega)
        (fun g hg => Or.inr (how.lt g hg).1) (fun f hf => ⟨by simp only [List.mem_cons, List.not_mem_nil, or_false] at hf ⊢; rcases hf with rfl | rfl | rfl <;> simp, hap3 f hf⟩) (fun j hj hb => hapb j hj hb)
        fun v' aa w2 hO hg' hnn S => ?_
      have hap4 := ap_ny hFP hap3 hnn
      have S := S.add (Qah w0.heap.size 60 2 v' (es ++ [e]).length (esV (es ++ [e]))) (by rw [QiI, List.length_append]; exact hO) (fun j hj hb => (hnn _ hb).elim (fun q => hapb j hj q) (fun q => by have := hblk2 j hj; omega))
      have hw1 := S.fact (f := QaN e.b e.o e.ws) (by simp)
      have hw2 := S.fact (f := Qax es) (by simp)
      have ha1 := (S.fs (QaN e.b e.o e.ws) (by simp)).2
      have ha2 := (S.fs (Qax es) (by simp)).2
      have S := S.add (Qax (es ++ [e])) (by
        intro q hq
        rcases List.mem_append.1 hq with hq | hq
        · exact hw2 q hq
        · obtain rfl := List.mem_singleton.1 hq
          exact hw1) (fun j hj hb => by
        obtain ⟨q, hq, q1, q2⟩ := hb
        rcases List.mem_append.1 hq with hq | hq
        · exact ha2 j hj ⟨q, hq, q1, q2⟩
        · obtain rfl := List.mem_singleton.1 hq
          exact ha1 j hj ⟨q1, q2⟩)
      have hap5 : (∀ f ∈ [QaC x.b x.o x.l, Qax (es ++ [e])], ∀ g, Value.ownBlock v' = some g → ¬f.bl g) := by
        intro f hf g hg hb
        simp only [List.mem_cons, List.not_mem_nil, or_false] at hf
        rcases hf with rfl | rfl
        · exact hap4 _ (by simp) g hg hb
        · obtain ⟨q, hq, q1, q2⟩ := hb
          rcases List.mem_append.1 hq with hq | hq
          · exact hap4 (Qax es) (by simp) g hg ⟨q, hq, q1, q2⟩
          · obtain rfl := List.mem_singleton.1 hq
            exact hap4 (QaN q.b q.o q.ws) (by simp) g hg ⟨q1, q2⟩
      refine Qam 8 60 3 S fun bs aa w S => ?_
      refine QaM 35 S (by rw [IntKind.wrap_i64]; omega : IntKind.i64.wrap ((k : Int) + (n : Int)) = ((k + n : Nat) : Int)) fun S => ?_
      refine Qan ⟨0, [999]⟩ 60 S fun bs aa w S => ?_
      have S := S.sub (F' := [QaC x.b x.o x.l, Qax (es ++ [e]), Qah w0.heap.size 60 2 v' (es ++ [e]).length (esV (es ++ [e]))]) (by intro f hf; simp only [List.mem_cons, List.not_mem_nil, or_false] at hf; rcases hf with rfl | rfl | rfl <;> simp)
      have S2 := S.to [] (ucS x v' (k + n) e.ver) (by kernel_rfl) (by kernel_rfl) (by kernel_rfl) (by kernel_rfl) (by kernel_rfl)
      refine Qai (k' := (.rnd (f) (Qa_ ucC) :: ucC.k.tail)) (by kernel_rfl) ?_
      exact ih (es ++ [e]) v' (k + n) e.ver ⟨by omega, by omega⟩ (by
        intro q hq
        rcases List.mem_append.1 hq with hq | hq
        · exact hes q hq
        · obtain rfl := List.mem_singleton.1 hq
          exact ⟨hok, hfit, hfr.imp id fun z => by omega⟩) (by rw [List.length_append]; show es.length + 1 ≤ _; omega) hap5 ⟨by rw [← hR.1]; simp [prE], hR.2⟩ aa w S2
theorem uc_a (w0 : World) (x : Sr) (hx : x.ok) (hc : x.l.length ≤ x.c) (hl : x.l.length ≤ 1000) (R : List (Int × Ws) × Nat) : ∀ (f : Nat) (es : List Et) (ev : Value) (k : Nat) (last : Int) (hk : k ≤ x.l.length ∧ x.l.length - k < f) (hes : ∀ e ∈ es, e.ok ∧ QeF e.ver e.ws ∧ (e.ws.length = 0 ∨ w0.heap.size ≤ e.b)) (hel : (es).length ≤ k) (hap : (∀ f ∈ [QaC x.b x.o x.l, Qax (es)], ∀ g, Value.ownBlock ev = some g → ¬f.bl g)) (hR : (es).map prE ++ (Qda (f) x.l (k) last).1 = R.1 ∧ (Qda (f) x.l (k) last).2 = R.2) (aa : Act) (w : World) (S : Sy w0 [] [] (ucS x ev (k) last) [QaC x.b x.o x.l, Qax (es), Qah w0.heap.size 60 2 ev (es).length (esV (es))] aa w), post Try.prog (.rnd (f) (Qa_ ucC) :: ucC.k.tail) (bodyPost Try.prog Try.f36 (recP w0 R)) .normal aa w
  | 0, es, ev, k, last, hk, hes, hel, hap, hR, aa, w, S => by omega
  | f + 1, es, ev, k, last, hk, hes, hel, hap, hR, aa, w, S => uc_s w0 x hx hc hl R f k hk.1 (uc_a w0 x hx hc hl R f) hk.2 es ev last hes hel hap hR aa w S
theorem Qjc (w0 : World) (x : Sr) (hx : x.ok) (hc : x.l.length ≤ x.c) (hl : x.l.length ≤ 1000) (hA : x.at w0) : Calls Try.prog 36 #[x.v] w0 (recP w0 (Qda (x.l.length + 1) x.l 0 0)) := by
  refine Qav [] [QaC x.b x.o x.l] (by intro f hf; simp only [List.mem_singleton] at hf; subst hf; exact hA) Try.func36 rfl rfl fun aa S => ?_
  refine Qac S fun bs aa w S => ?_
  have S := S.add (Qah w0.heap.size 60 2 (.slice none 0 0) (([] : List Et)).length (esV (([] : List Et)))) (World.ownsRow_nil _ _ _ _) (fun i hi h => by cases h)
  have S := S.add (Qax []) (fun e he => by cases he) (fun i hi h => by obtain ⟨e, he, _⟩ := h; cases he)
  have S := S.sub (F' := [QaC x.b x.o x.l, Qax (([] : List Et)), Qah w0.heap.size 60 2 (.slice none 0 0) (([] : List Et)).length (esV (([] : List Et)))]) (by intro f hf; simp only [List.mem_cons, List.not_mem_nil, or_false] at hf; rcases hf with rfl | rfl | rfl <;> simp)
  have S2 := S.to [] (ucS x (.slice none 0 0) 0 0) (by kernel_rfl) (by kernel_rfl) (by kernel_rfl) (by kernel_rfl) (by kernel_rfl)
  refine QaJ (x.l.length + 1) (by kernel_rfl) ?_
  refine Qai (k' := (.rnd (x.l.length + 1) (Qa_ ucC) :: ucC.k.tail)) (by kernel_rfl) ?_
  exact uc_a w0 x hx hc hl _ (x.l.length + 1) [] (.slice none 0 0) 0 0 ⟨by omega, by omega⟩ (fun e he => by cases he) (by simp) (fun f hf g hg => by cases hg) ⟨by simp, rfl⟩ aa w S2
def Qhd (w : World) (b o : Nat) (es : List Et) : Prop := ∀ j, j < es.length → w.cell? ⟨b, o + j * 2, none⟩ = some (.int .i64 (es.getD j e00).ver) ∧ w.cell? ⟨b, o + j * 2 + 1, none⟩ = some (.slice (es.getD j e00).a (es.getD j e00).ws.length (es.getD j e00).c)
def QaD (b o : Nat) (es : List Et) : RF := ⟨fun b' => b' = b ∧ es.length ≠ 0, fun w => Qhd w b o es, fun w h b' hb => by
  obtain ⟨rfl, hl⟩ := hb
  exact World.block_lt_of_cell? w _ (h 0 (by omega)).1, fun w w' h hb j hj => ⟨(World.cell?_of_block (a := ⟨b, o + j * 2, none⟩) (hb b ⟨rfl, by omega⟩)).trans (h j hj).1, (World.cell?_of_block (a := ⟨b, o + j * 2 + 1, none⟩) (hb b ⟨rfl, by omega⟩)).trans (h j hj).2⟩⟩
theorem ld_en {w : World} {b o j : Nat} {es : List Et} (h : Qhd w b o es) (hj : j < es.length) : (loadVar 60 ⟨b, o + j * 2, none⟩).run Try.prog w = .ok (es.getD j e00).v w := by
  obtain ⟨h0, h1⟩ := h j hj
  refine run_loadVar_mid w b (o + j * 2) 60 [.int .i64 (es.getD j e00).ver, .slice (es.getD j e00).a (es.getD j e00).ws.length (es.getD j e00).c] _ ?_ Try.underlying60 rfl (by kernel_rfl)
  intro i x hi
  match i, hi with
  | 0, hi => simp at hi; subst hi; exact h0
  | 1, hi => simp at hi; subst hi; exact h1
  | i + 2, hi => simp at hi
theorem esV_at : ∀ (es : List Et) (j : Nat), j < es.length → (esV es)[j * 2]? = some (.int .i64 (es.getD j e00).ver) ∧ (esV es)[j * 2 + 1]? = some (.slice (es.getD j e00).a (es.getD j e00).ws.length (es.getD j e00).c)
  | [], j, h => by simp at h
  | p :: r, 0, _ => ⟨rfl, rfl⟩
  | p :: r, j + 1, h => by
    have hr := esV_at r j (by simpa using h)
    have e : esV (p :: r) = .int .i64 p.ver :: .slice p.a p.ws.length p.c :: esV r := rfl
    rw [e, show (j + 1) * 2 = j * 2 + 1 + 1 by omega]
    exact hr
theorem Qjw {w : World} {B : Nat} {v : Value} {es : List Et} (h : w.ownsRow B 60 2 v es.length (esV es)) : ∃ a c b o, v = .slice a es.length c ∧ (es.length = 0 ∨ a = some ⟨b, o, none⟩) ∧ Qhd w b o es ∧ (es.length = 0 ∨ B ≤ b) := by
  rcases h.2 with ⟨rfl, hz⟩ | ⟨g, cap, cur, rfl, hb, hg, h1, h2, h3, h4⟩
  · exact ⟨none, 0, 0, 0, by rw [hz], Or.inl hz, fun j hj => by omega, Or.inl hz⟩
  · have hc := h.cells (g := g) rfl
    refine ⟨_, cap, g, 0, rfl, Or.inr rfl, fun j hj => ?_, Or.inr hb⟩
    obtain ⟨q1, q2⟩ := esV_at es j hj
    have c1 := hc _ _ q1
    have c2 := hc _ _ q2
    have ea : ∀ k, (⟨g, 0, none⟩ : Addr).add k = ⟨g, 0 + k, none⟩ := fun k => by unfold Addr.add; split <;> simp_all
    rw [ea] at c1 c2
    exact ⟨c1, c2⟩
theorem map_eq {α β : Type} {f : α → β} (z : α) (l m : List α) (hl : l.length = m.length) (h : ∀ i, i < l.length → f (l.getD i z) = f (m.getD i z)) : l.map f = m.map f := by
  apply List.ext_getElem (by simpa using hl)
  intro i h1 h2
  have h3 : i < l.length := by simpa using h1
  have h4 : i < m.length := by omega
  have := h i h3
  simpa [List.getD, List.getElem?_eq_getElem h3, List.getElem?_eq_getElem h4] using this
theorem map_ne {α β : Type} {f : α → β} (z : α) (l m : List α) (h : l.map f = m.map f) (i : Nat) (hi : i < l.length) : f (l.getD i z) = f (m.getD i z) := by
  have hl : l.length = m.length := by simpa using congrArg List.length h
  have h4 : i < m.length := by omega
  have h5 : (l.map f)[i]? = (m.map f)[i]? := by rw [h]
  simpa [List.getD, List.getElem?_eq_getElem hi, List.getElem?_eq_getElem h4] using h5
noncomputable def alC : Cfg := ⟨goZ 60 [0] [.code (QaI Try.f15)], ⟨0, [], []⟩⟩
noncomputable def alS (a1 : Option Addr) (n1 c1 : Nat) (a2 : Option Addr) (n2 c2 : Nat) (j : Nat) : SS := ⟨29, [(0, .v (.slice a1 n1 c1)), (1, .v (.slice a2 n2 c2)), (5, .v (.int .i64 (j : Int)))], []⟩
section
variable (w0 : World) (xs ys : List Et) (a1 a2 : Option Addr) (c1 c2 b1 o1 b2 o2 : Nat) (h1 : xs.length = 0 ∨ a1 = some ⟨b1, o1, none⟩) (h2 : ys.length = 0 ∨ a2 = some ⟨b2, o2, none⟩) (hn : xs.length = ys.length) (hl : xs.length ≤ 100000) (ho1 : ∀ e ∈ xs, e.ok ∧ e.ws.length ≤ 100000) (ho2 : ∀ e ∈ ys, e.ok ∧ e.ws.length ≤ 100000)
include w0 xs ys a1 a2 c1 c2 b1 o1 b2 o2 h1 h2 hn hl ho1 ho2
theorem al_e (m : Nat) (hv : ∀ i, i < xs.length → prE (xs.getD i e00) = prE (ys.getD i e00)) (aa : Act) (w : World) (S : Sy w0 [] [] (alS a1 xs.length c1 a2 ys.length c2 (xs.length)) [QaD b1 o1 xs, QaD b2 o2 ys, Qax xs, Qax ys] aa w) : post Try.prog (.rnd (m + 1) (Qa_ alC) :: alC.k.tail) (bodyPost Try.prog Try.f15 fun z w' => z = .returned (.bool (decide (xs.map prE = ys.map prE))) ∧ Below w0.heap.size w0 w') .normal aa w := by
  refine Qam (c := ⟨(.rnd (m + 1) (Qa_ alC) :: alC.k.tail), alS a1 xs.length c1 a2 ys.length c2 (xs.length)⟩) 4 50 4 S fun bs aa w S => ?_
  refine Qab 15 S (decide_eq_false (by omega) : decide ((xs.length : Int) < (xs.length : Int)) = false) fun S => ?_
  refine Qac S fun bs aa w S => ?_
  rw [decide_eq_true (map_eq e00 xs ys hn hv)]
  exact Qaf S (by kernel_rfl) (by kernel_rfl) fun hg => ⟨rfl, Qag hg⟩
theorem al_b (m j : Nat) (hj : j < xs.length) (hp : ¬prE (xs.getD j e00) = prE (ys.getD j e00)) (aa : Act) (w : World) (S : Sy w0 [] [] (alS a1 xs.length c1 a2 ys.length c2 (j)) [QaD b1 o1 xs, QaD b2 o2 ys, Qax xs, Qax ys] aa w) : post Try.prog (.rnd (m + 1) (Qa_ alC) :: alC.k.tail) (bodyPost Try.prog Try.f15 fun z w' => z = .returned (.bool (decide (xs.map prE = ys.map prE))) ∧ Below w0.heap.size w0 w') .normal aa w := by
  refine Qam (c := ⟨(.rnd (m + 1) (Qa_ alC) :: alC.k.tail), alS a1 xs.length c1 a2 ys.length c2 (j)⟩) 4 50 4 S fun bs aa w S => ?_
  refine Qab 15 S (decide_eq_true (by omega) : decide ((j : Int) < (xs.length : Int)) = true) fun S => ?_
  refine Qac S fun bs aa w S => ?_
  letI : HF := ⟨[QaD b1 o1 xs, QaD b2 o2 ys]⟩
  refine QaE [] (by kernel_rfl) (by kernel_rfl) S (by kernel_rfl) (fun aa w D => ?_) (fun f hf => by have hf2 : f ∈ [QaD b1 o1 xs, QaD b2 o2 ys] := hf; simp only [List.mem_cons, List.not_mem_nil, or_false] at hf2; rcases hf2 with rfl | rfl <;> simp)
  refine Qaz 2 D (by kernel_rfl) (by kernel_rfl) (by kernel_rfl) (b := b1) (off := o1) (len := xs.length) (n := j) (size := 2) (ix := (j : Int)) (by rw [← h1.resolve_left (by omega)]; kernel_rfl) rfl (by omega) fun aa D => ?_
  refine QaH 3 D (by kernel_rfl) (by kernel_rfl) (by kernel_rfl) (ty := 60) (ad := ⟨b1, o1 + j * 2, none⟩) (v := (xs.getD j e00).v) (fun W hW => ld_en (j := j) (show Qhd W b1 o1 xs from hW (QaD b1 o1 xs) (by show _ ∈ [QaD b1 o1 xs, QaD b2 o2 ys]; simp)) (by omega)) (by kernel_rfl) fun aa D => ?_
  refine Qaz 6 D (by kernel_rfl) (by kernel_rfl) (by kernel_rfl) (b := b2) (off := o2) (len := ys.length) (n := j) (size := 2) (ix := (j : Int)) (by rw [← h2.resolve_left (by omega)]; kernel_rfl) rfl (by omega) fun aa D => ?_
  refine QaH 7 D (by kernel_rfl) (by kernel_rfl) (by kernel_rfl) (ty := 60) (ad := ⟨b2, o2 + j * 2, none⟩) (v := (ys.getD j e00).v) (fun W hW => ld_en (j := j) (show Qhd W b2 o2 ys from hW (QaD b2 o2 ys) (by show _ ∈ [QaD b1 o1 xs, QaD b2 o2 ys]; simp)) (by omega)) (by kernel_rfl) fun aa D => ?_
  have m1 := Qbx xs j e00 (by omega)
  have m2 := Qbx ys j e00 (by omega)
  refine Qc4 8 D (by kernel_rfl) (by kernel_rfl) (by kernel_rfl) (one_t w (xs.getD j e00) (ys.getD j e00) (ho1 _ m1).1 (ho2 _ m2).1 (ho1 _ m1).2 ((D.S.fact (f := Qax xs) (by simp)) _ m1) ((D.S.fact (f := Qax ys) (by simp)) _ m2)) (by kernel_rfl) fun aa w hb D => ?_
  refine QaT D (by kernel_rfl) fun S => ?_
  refine Qam 7 60 1 S fun bs aa w S => ?_
  refine Qab 27 S (decide_eq_false (fun q => hp (by unfold prE; rw [q.1, q.2])) : decide ((xs.getD j e00).ver = (ys.getD j e00).ver ∧ (xs.getD j e00).ws = (ys.getD j e00).ws) = false) fun S => ?_
  refine Qac S fun bs aa w S => ?_
  rw [decide_eq_false (fun q : xs.map prE = ys.map prE => hp (map_ne e00 xs ys q j hj))]
  exact Qaf S (by kernel_rfl) (by kernel_rfl) fun hg => ⟨rfl, Qag hg⟩
theorem al_s (m j : Nat) (hj : j < xs.length) (hp : prE (xs.getD j e00) = prE (ys.getD j e00)) (ih : (∀ i, i < j + 1 → prE (xs.getD i e00) = prE (ys.getD i e00)) → ∀ (aa : Act) (w : World) (S : Sy w0 [] [] (alS a1 xs.length c1 a2 ys.length c2 (j + 1)) [QaD b1 o1 xs, QaD b2 o2 ys, Qax xs, Qax ys] aa w), post Try.prog (.rnd (m) (Qa_ alC) :: alC.k.tail) (bodyPost Try.prog Try.f15 fun z w' => z = .returned (.bool (decide (xs.map prE = ys.map prE))) ∧ Below w0.heap.size w0 w') .normal aa w) (hv : ∀ i, i < j → prE (xs.getD i e00) = prE (ys.getD i e00)) (aa : Act) (w : World) (S : Sy w0 [] [] (alS a1 xs.length c1 a2 ys.length c2 (j)) [QaD b1 o1 xs, QaD b2 o2 ys, Qax xs, Qax ys] aa w) : post Try.prog (.rnd (m + 1) (Qa_ alC) :: alC.k.tail) (bodyPost Try.prog Try.f15 fun z w' => z = .returned (.bool (decide (xs.map prE = ys.map prE))) ∧ Below w0.heap.size w0 w') .normal aa w := by
  refine Qam (c := ⟨(.rnd (m + 1) (Qa_ alC) :: alC.k.tail), alS a1 xs.length c1 a2 ys.length c2 (j)⟩) 4 50 4 S fun bs aa w S => ?_
  refine Qab 15 S (decide_eq_true (by omega) : decide ((j : Int) < (xs.length : Int)) = true) fun S => ?_
  refine Qac S fun bs aa w S => ?_
  letI : HF := ⟨[QaD b1 o1 xs, QaD b2 o2 ys]⟩
  refine QaE [] (by kernel_rfl) (by kernel_rfl) S (by kernel_rfl) (fun aa w D => ?_) (fun f hf => by have hf2 : f ∈ [QaD b1 o1 xs, QaD b2 o2 ys] := hf; simp only [List.mem_cons, List.not_mem_nil, or_false] at hf2; rcases hf2 with rfl | rfl <;> simp)
  refine Qaz 2 D (by kernel_rfl) (by kernel_rfl) (by kernel_rfl) (b := b1) (off := o1) (len := xs.length) (n := j) (size := 2) (ix := (j : Int)) (by rw [← h1.resolve_left (by omega)]; kernel_rfl) rfl (by omega) fun aa D => ?_
  refine QaH 3 D (by kernel_rfl) (by kernel_rfl) (by kernel_rfl) (ty := 60) (ad := ⟨b1, o1 + j * 2, none⟩) (v := (xs.getD j e00).v) (fun W hW => ld_en (j := j) (show Qhd W b1 o1 xs from hW (QaD b1 o1 xs) (by show _ ∈ [QaD b1 o1 xs, QaD b2 o2 ys]; simp)) (by omega)) (by kernel_rfl) fun aa D => ?_
  refine Qaz 6 D (by kernel_rfl) (by kernel_rfl) (by kernel_rfl) (b := b2) (off := o2) (len := ys.length) (n := j) (size := 2) (ix := (j : Int)) (by rw [← h2.resolve_left (by omega)]; kernel_rfl) rfl (by omega) fun aa D => ?_
  refine QaH 7 D (by kernel_rfl) (by kernel_rfl) (by kernel_rfl) (ty := 60) (ad := ⟨b2, o2 + j * 2, none⟩) (v := (ys.getD j e00).v) (fun W hW => ld_en (j := j) (show Qhd W b2 o2 ys from hW (QaD b2 o2 ys) (by show _ ∈ [QaD b1 o1 xs, QaD b2 o2 ys]; simp)) (by omega)) (by kernel_rfl) fun aa D => ?_
  have m1 := Qbx xs j e00 (by omega)
  have m2 := Qbx ys j e00 (by omega)
  refine Qc4 8 D (by kernel_rfl) (by kernel_rfl) (by kernel_rfl) (one_t w (xs.getD j e00) (ys.getD j e00) (ho1 _ m1).1 (ho2 _ m2).1 (ho1 _ m1).2 ((D.S.fact (f := Qax xs) (by simp)) _ m1) ((D.S.fact (f := Qax ys) (by simp)) _ m2)) (by kernel_rfl) fun aa w hb D => ?_
  refine QaT D (by kernel_rfl) fun S => ?_
  refine Qam 7 60 1 S fun bs aa w S => ?_
  refine Qab 27 S (decide_eq_true ⟨congrArg Prod.fst hp, congrArg Prod.snd hp⟩ : decide ((xs.getD j e00).ver = (ys.getD j e00).ver ∧ (xs.getD j e00).ws = (ys.getD j e00).ws) = true) fun S => ?_
  refine Qam 5 60 2 S fun bs aa w S => ?_
  refine QaM 17 S (by rw [IntKind.wrap_i64]; omega : IntKind.i64.wrap ((j : Int) + 1) = ((j + 1 : Nat) : Int)) fun S => ?_
  refine Qan ⟨0, [999]⟩ 50 S fun bs aa w S => ?_
  have S2 := S.to [] (alS a1 xs.length c1 a2 ys.length c2 (j + 1)) (by kernel_rfl) (by kernel_rfl) (by kernel_rfl) (by kernel_rfl) (by kernel_rfl)
  refine Qai (k' := (.rnd (m) (Qa_ alC) :: alC.k.tail)) (by kernel_rfl) ?_
  exact ih (Qb1 hv hp) aa w S2
theorem al_a : ∀ (r j : Nat), j + r = xs.length → (∀ i, i < j → prE (xs.getD i e00) = prE (ys.getD i e00)) → ∀ (aa : Act) (w : World) (S : Sy w0 [] [] (alS a1 xs.length c1 a2 ys.length c2 (j)) [QaD b1 o1 xs, QaD b2 o2 ys, Qax xs, Qax ys] aa w), post Try.prog (.rnd (r + 1) (Qa_ alC) :: alC.k.tail) (bodyPost Try.prog Try.f15 fun z w' => z = .returned (.bool (decide (xs.map prE = ys.map prE))) ∧ Below w0.heap.size w0 w') .normal aa w := by
  intro r
  induction r with
  | zero => intro j hj hv aa w S; obtain rfl : j = xs.length := by omega
            exact al_e w0 xs ys a1 a2 c1 c2 b1 o1 b2 o2 h1 h2 hn hl ho1 ho2 0 hv aa w S
  | succ r ih =>
    intro j hj hv aa w S
    by_cases hp : prE (xs.getD j e00) = prE (ys.getD j e00)
    · exact al_s w0 xs ys a1 a2 c1 c2 b1 o1 b2 o2 h1 h2 hn hl ho1 ho2 (r + 1) j (by omega) hp (fun h => ih (j + 1) (by omega) h) hv aa w S
    · exact al_b w0 xs ys a1 a2 c1 c2 b1 o1 b2 o2 h1 h2 hn hl ho1 ho2 (r + 1) j (by omega) hp aa w S
end
theorem all_t (w0 : World) (xs ys : List Et) (a1 a2 : Option Addr) (c1 c2 b1 o1 b2 o2 : Nat) (h1 : xs.length = 0 ∨ a1 = some ⟨b1, o1, none⟩) (h2 : ys.length = 0 ∨ a2 = some ⟨b2, o2, none⟩) (hl : xs.length ≤ 100000) (ho1 : ∀ e ∈ xs, e.ok ∧ e.ws.length ≤ 100000) (ho2 : ∀ e ∈ ys, e.ok ∧ e.ws.length ≤ 100000) (hA : Qhd w0 b1 o1 xs) (hB : Qhd w0 b2 o2 ys) (hC : ∀ e ∈ xs, QcW w0 e.b e.o e.ws) (hD : ∀ e ∈ ys, QcW w0 e.b e.o e.ws) : Calls Try.prog 15 #[.slice a1 xs.length c1, .slice a2 ys.length c2] w0 fun z w' => z = .returned (.bool (decide (xs.map prE = ys.map prE))) ∧ Below w0.heap.size w0 w' := by
  refine Qav [] [QaD b1 o1 xs, QaD b2 o2 ys, Qax xs, Qax ys] (by intro f hf; simp only [List.mem_cons, List.not_mem_nil, or_false] at hf; rcases hf with rfl | rfl | rfl | rfl; exact hA; exact hB; exact hC; exact hD) Try.func15 rfl rfl fun aa S => ?_
  refine Qam 1 60 5 S fun bs aa w S => ?_
  by_cases hn : xs.length = ys.length
  case neg =>
    refine Qab 11 S (by rw [decide_eq_false (by omega)]; rfl : (!decide ((xs.length : Int) = (ys.length : Int))) = true) fun S => ?_
    refine Qac S fun bs aa w S => ?_
    rw [decide_eq_false (fun q : xs.map prE = ys.map prE => hn (by simpa using congrArg List.length q))]
    exact Qaf S (by kernel_rfl) (by kernel_rfl) fun hg => ⟨rfl, Qag hg⟩
  refine Qab 11 S (by rw [decide_eq_true (by omega)]; rfl : (!decide ((xs.length : Int) = (ys.length : Int))) = false) fun S => ?_
  refine Qac S fun bs aa w S => ?_
  have S2 := S.to [] (alS a1 xs.length c1 a2 ys.length c2 (0)) (by kernel_rfl) (by kernel_rfl) (by kernel_rfl) (by kernel_rfl) (by kernel_rfl)
  refine QaJ (xs.length + 1) (by kernel_rfl) ?_
  refine Qai (k' := (.rnd (xs.length + 1) (Qa_ alC) :: alC.k.tail)) (by kernel_rfl) ?_
  exact al_a w0 xs ys a1 a2 c1 c2 b1 o1 b2 o2 h1 h2 hn hl ho1 ho2 xs.length 0 (by omega) (fun i hi => absurd hi (Nat.not_lt_zero _)) aa w S2
structure Er where
  a : Option Addr
  c : Nat
  b : Nat
  o : Nat
  l : List Et
def Er.v (z : Er) : Value := .slice z.a z.l.length z.c
def recQ (R : List (Int × Ws) × Nat) (B : Nat) (z : Er) (w : World) : Prop := z.l.map prE = R.1 ∧ (z.l.length = 0 ∨ z.a = some ⟨z.b, z.o, none⟩) ∧ Qhd w z.b z.o z.l ∧ (z.l.length = 0 ∨ B ≤ z.b) ∧ (∀ e ∈ z.l, e.ok ∧ (e.ws.length = 0 ∨ B ≤ e.b)) ∧ ∀ e ∈ z.l, QcW w e.b e.o e.ws
theorem rec_er {w0 : World} {R : List (Int × Ws) × Nat} {y : Ending} {w : World} (h : recP w0 R y w) : ∃ z : Er, y = .returned (.tuple #[z.v, .int .i64 (R.2 : Int)]) ∧ recQ R w0.heap.size z w ∧ Below w0.heap.size w0 w := by
  obtain ⟨hb, es, v, q1, q2, q3, q4, q5⟩ := h
  obtain ⟨a, c, b, o, rfl, h1, h2, h3⟩ := Qjw q3
  exact ⟨⟨a, c, b, o, es⟩, q1, ⟨q2, h1, h2, h3, fun e he => ⟨(q4 e he).1, (q4 e he).2.2⟩, q5⟩, hb⟩
theorem Qgi : ∀ (f : Nat) (l : (List ByteArray)) (k : Nat) (last : Int), (Qda f l k last).1.length ≤ f ∧ ∀ p ∈ (Qda f l k last).1, p.2.length ≤ 32
  | 0, l, k, last => ⟨Nat.le_refl _, fun p hp => by cases hp⟩
  | f + 1, l, k, last => by
    cases h : Qca l k with
    | none => rw [Qe9 h]; exact ⟨Nat.zero_le _, fun p hp => by cases hp⟩
    | some q =>
      obtain ⟨v, ws, n⟩ := q
      by_cases hv : v ≤ last
      · rw [Qgh h hv]; exact ⟨Nat.zero_le _, fun p hp => by cases hp⟩
      · rw [Qe8 h hv]
        obtain ⟨i1, i2⟩ := Qgi f l (k + n) v
        refine ⟨Nat.succ_le_succ i1, fun p hp => ?_⟩
        rcases List.mem_cons.1 hp with rfl | hp
        · have hw : ws.length ≤ 32 := by
            have := Qcm (Qd2 h).2.1
            omega
          exact hw
        · exact i2 p hp
theorem Qgg {R : List (Int × Ws) × Nat} {B n : Nat} {z : Er} {w : World} (h : recQ R B z w) (hR : R.1.length ≤ n ∧ ∀ p ∈ R.1, p.2.length ≤ 32) : z.l.length ≤ n ∧ ∀ e ∈ z.l, e.ok ∧ e.ws.length ≤ 100000 := by
  rw [← h.1, List.length_map] at hR
  refine ⟨hR.1, fun e he => ⟨(h.2.2.2.2.1 e he).1, ?_⟩⟩
  have : e.ws.length ≤ 32 := hR.2 (prE e) (List.mem_map_of_mem he)
  omega
def zeroS : ByteArray := QaV (List.replicate 32 0)
section
variable {P : List (Int × Ws)} {p : Int × Ws} {z k c : Nat}
end
end Go.Proofs.Ytfhmdlihnidjoaa
