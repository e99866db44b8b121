/-
  Merged: WlW, WlX, WlY, WlZ, Wn1, Wn5, Wn2, Wn3, Wn4
-/
import Derived.Test.YtaclhiagfgmgkaaRows
import Derived.Test.YtaclhiagfgmgkaaPr2
import Derived.Test.YtaclhiagfgmgkaaPr15
import Derived.Test.YtaclhiagfgmgkaaPr17
import Derived.WalkKit
import Derived.Test.YtaclhiagfgmgkaaPr13
import Derived.Deep.Fields
import Derived.Deep.Slices
namespace Go.Proofs.Ytaclhiagfgmgkaa
open Go Go.RowKit SZ
set_option linter.unusedVariables false
set_option linter.unusedSectionVars false
set_option linter.unusedSimpArgs false
set_option maxRecDepth 100000
attribute [local irreducible] post GD Nxt NxtAll
def e00 : Et := ⟨0, none, 0, 0, 0, []⟩
end Go.Proofs.Ytaclhiagfgmgkaa

namespace Go.Proofs.Ytaclhiagfgmgkaa
open Go Go.RowKit SZ
set_option linter.unusedVariables false
set_option linter.unusedSectionVars false
set_option linter.unusedSimpArgs false
set_option maxRecDepth 100000
attribute [local irreducible] post GD Nxt NxtAll
end Go.Proofs.Ytaclhiagfgmgkaa

namespace Go.Proofs.Ytaclhiagfgmgkaa
open Go Go.RowKit SZ
set_option linter.unusedVariables false
set_option linter.unusedSectionVars false
set_option linter.unusedSimpArgs false
set_option maxRecDepth 100000
attribute [local irreducible] post GD Nxt NxtAll
end Go.Proofs.Ytaclhiagfgmgkaa

namespace Go.Proofs.Ytaclhiagfgmgkaa
open Go Go.RowKit SZ
set_option linter.unusedVariables false
set_option linter.unusedSectionVars false
set_option linter.unusedSimpArgs false
set_option maxRecDepth 100000
attribute [local irreducible] post GD Nxt NxtAll
def ErAt (w : World) (b o : Nat) (es : List Et) : Prop := ∀ j, j < es.length → w.cell? ⟨b, o + j * 2, none⟩ = some (.int .i64 (es.getD j e00).ver) ∧ w.cell? ⟨b, o + j * 2 + 1, none⟩ = some (.slice (es.getD j e00).a (es.getD j e00).ws.length (es.getD j e00).c)
def rfEr (b o : Nat) (es : List Et) : RF := ⟨fun b' => b' = b ∧ es.length ≠ 0, fun w => ErAt w b o es, fun w h b' hb => by
  obtain ⟨rfl, hl⟩ := hb
  exact World.block_lt_of_cell? w _ (h 0 (by omega)).1, fun w w' h hb j hj => ⟨(World.cell?_of_block (a := ⟨b, o + j * 2, none⟩) (hb b ⟨rfl, by omega⟩)).trans (h j hj).1, (World.cell?_of_block (a := ⟨b, o + j * 2 + 1, none⟩) (hb b ⟨rfl, by omega⟩)).trans (h j hj).2⟩⟩
theorem ld_en {w : World} {b o j : Nat} {es : List Et} (h : ErAt w b o es) (hj : j < es.length) : (loadVar 24 ⟨b, o + j * 2, none⟩).run Try.prog w = .ok (es.getD j e00).v w := by
  obtain ⟨h0, h1⟩ := h j hj
  refine run_loadVar_mid w b (o + j * 2) 24 [.int .i64 (es.getD j e00).ver, .slice (es.getD j e00).a (es.getD j e00).ws.length (es.getD j e00).c] _ ?_ Try.underlying24 rfl (by kernel_rfl)
  intro i x hi
  match i, hi with
  | 0, hi => simp at hi; subst hi; exact h0
  | 1, hi => simp at hi; subst hi; exact h1
  | i + 2, hi => simp at hi
theorem esV_at : ∀ (es : List Et) (j : Nat), j < es.length → (esV es)[j * 2]? = some (.int .i64 (es.getD j e00).ver) ∧ (esV es)[j * 2 + 1]? = some (.slice (es.getD j e00).a (es.getD j e00).ws.length (es.getD j e00).c)
  | [], j, h => by simp at h
  | p :: r, 0, _ => ⟨rfl, rfl⟩
  | p :: r, j + 1, h => by
    have hr := esV_at r j (by simpa using h)
    have e : esV (p :: r) = .int .i64 p.ver :: .slice p.a p.ws.length p.c :: esV r := rfl
    rw [e, show (j + 1) * 2 = j * 2 + 1 + 1 by omega]
    exact hr
theorem er_of_owns {w : World} {B : Nat} {v : Value} {es : List Et} (h : w.ownsRow B 24 2 v es.length (esV es)) : ∃ a c b o, v = .slice a es.length c ∧ (es.length = 0 ∨ a = some ⟨b, o, none⟩) ∧ ErAt w b o es ∧ (es.length = 0 ∨ B ≤ b) := by
  rcases h.2 with ⟨rfl, hz⟩ | ⟨g, cap, cur, rfl, hb, hg, h1, h2, h3, h4⟩
  · exact ⟨none, 0, 0, 0, by rw [hz], Or.inl hz, fun j hj => by omega, Or.inl hz⟩
  · have hc := h.cells (g := g) rfl
    refine ⟨_, cap, g, 0, rfl, Or.inr rfl, fun j hj => ?_, Or.inr hb⟩
    obtain ⟨q1, q2⟩ := esV_at es j hj
    have c1 := hc _ _ q1
    have c2 := hc _ _ q2
    have ea : ∀ k, (⟨g, 0, none⟩ : Addr).add k = ⟨g, 0 + k, none⟩ := fun k => by unfold Addr.add; split <;> simp_all
    rw [ea] at c1 c2
    exact ⟨c1, c2⟩
theorem map_eq {α β : Type} {f : α → β} (z : α) (l m : List α) (hl : l.length = m.length) (h : ∀ i, i < l.length → f (l.getD i z) = f (m.getD i z)) : l.map f = m.map f := by
  apply List.ext_getElem (by simpa using hl)
  intro i h1 h2
  have h3 : i < l.length := by simpa using h1
  have h4 : i < m.length := by omega
  have := h i h3
  simpa [List.getD, List.getElem?_eq_getElem h3, List.getElem?_eq_getElem h4] using this
theorem map_ne {α β : Type} {f : α → β} (z : α) (l m : List α) (h : l.map f = m.map f) (i : Nat) (hi : i < l.length) : f (l.getD i z) = f (m.getD i z) := by
  have hl : l.length = m.length := by simpa using congrArg List.length h
  have h4 : i < m.length := by omega
  have h5 : (l.map f)[i]? = (m.map f)[i]? := by rw [h]
  simpa [List.getD, List.getElem?_eq_getElem hi, List.getElem?_eq_getElem h4] using h5
noncomputable def alC : Cfg := ⟨goZ 60 [0] [.code (bodyOf Try.f22)], ⟨0, [], []⟩⟩
noncomputable def alS (a1 : Option Addr) (n1 c1 : Nat) (a2 : Option Addr) (n2 c2 : Nat) (j : Nat) : SS := ⟨29, [(0, .v (.slice a1 n1 c1)), (1, .v (.slice a2 n2 c2)), (5, .v (.int .i64 (j : Int)))], []⟩
section
variable (w0 : World) (xs ys : List Et) (a1 a2 : Option Addr) (c1 c2 b1 o1 b2 o2 : Nat) (h1 : xs.length = 0 ∨ a1 = some ⟨b1, o1, none⟩) (h2 : ys.length = 0 ∨ a2 = some ⟨b2, o2, none⟩) (hn : xs.length = ys.length) (hl : xs.length ≤ 100000) (ho1 : ∀ e ∈ xs, e.ok ∧ e.ws.length ≤ 100000) (ho2 : ∀ e ∈ ys, e.ok ∧ e.ws.length ≤ 100000)
include w0 xs ys a1 a2 c1 c2 b1 o1 b2 o2 h1 h2 hn hl ho1 ho2
set_option maxHeartbeats 8000000 in
theorem al_e (m : Nat) (hv : ∀ i, i < xs.length → prE (xs.getD i e00) = prE (ys.getD i e00)) (aa : Act) (w : World) (S : Sy w0 [] [] (alS a1 xs.length c1 a2 ys.length c2 (xs.length)) [rfEr b1 o1 xs, rfEr b2 o2 ys, rfEl xs, rfEl ys] aa w) : post Try.prog (.rnd (m + 1) (bodyL alC) :: alC.k.tail) (bodyPost Try.prog Try.f22 fun z w' => z = .returned (.bool (decide (xs.map prE = ys.map prE))) ∧ Below w0.heap.size w0 w') .normal aa w := by
  refine sy_run (c := ⟨(.rnd (m + 1) (bodyL alC) :: alC.k.tail), alS a1 xs.length c1 a2 ys.length c2 (xs.length)⟩) ⟨0, [4]⟩ 50 S fun bs aa w S => ?_
  refine sy_reg S fun S => ?_
  refine sy_ops 4 S fun bs aa w S => ?_
  refine sy_cast 15 S (congrArg Value.bool (decide_eq_false (by omega) : decide ((xs.length : Int) < (xs.length : Int)) = false)) (by kernel_rfl) fun S => ?_
  refine sy_run ⟨0, []⟩ 60 S fun bs aa w S => ?_
  rw [decide_eq_true (map_eq e00 xs ys hn hv)]
  exact sy_ret S (by kernel_rfl) (by kernel_rfl) fun hg => ⟨rfl, bel_gr hg⟩
set_option maxHeartbeats 8000000 in
theorem al_b (m j : Nat) (hj : j < xs.length) (hp : ¬prE (xs.getD j e00) = prE (ys.getD j e00)) (aa : Act) (w : World) (S : Sy w0 [] [] (alS a1 xs.length c1 a2 ys.length c2 (j)) [rfEr b1 o1 xs, rfEr b2 o2 ys, rfEl xs, rfEl ys] aa w) : post Try.prog (.rnd (m + 1) (bodyL alC) :: alC.k.tail) (bodyPost Try.prog Try.f22 fun z w' => z = .returned (.bool (decide (xs.map prE = ys.map prE))) ∧ Below w0.heap.size w0 w') .normal aa w := by
  refine sy_run (c := ⟨(.rnd (m + 1) (bodyL alC) :: alC.k.tail), alS a1 xs.length c1 a2 ys.length c2 (j)⟩) ⟨0, [4]⟩ 50 S fun bs aa w S => ?_
  refine sy_reg S fun S => ?_
  refine sy_ops 4 S fun bs aa w S => ?_
  refine sy_cast 15 S (congrArg Value.bool (decide_eq_true (by omega) : decide ((j : Int) < (xs.length : Int)) = true)) (by kernel_rfl) fun S => ?_
  refine sy_run ⟨0, []⟩ 60 S fun bs aa w S => ?_
  letI : HF := ⟨[rfEr b1 o1 xs, rfEr b2 o2 ys]⟩
  refine dr_enter [] (by kernel_rfl) (by kernel_rfl) S (by kernel_rfl) (fun aa w D => ?_) (fun f hf => by have hf2 : f ∈ [rfEr b1 o1 xs, rfEr b2 o2 ys] := hf; simp only [List.mem_cons, List.not_mem_nil, or_false] at hf2; rcases hf2 with rfl | rfl <;> simp)
  refine dr_tix 2 D (by kernel_rfl) (by kernel_rfl) (by kernel_rfl) (b := b1) (off := o1) (len := xs.length) (n := j) (size := 2) (ix := (j : Int)) (by rw [← h1.resolve_left (by omega)]; kernel_rfl) rfl (by omega) fun aa D => ?_
  refine dr_tld 3 D (by kernel_rfl) (by kernel_rfl) (by kernel_rfl) (ty := 24) (ad := ⟨b1, o1 + j * 2, none⟩) (v := (xs.getD j e00).v) (fun W hW => ld_en (j := j) (show ErAt W b1 o1 xs from hW (rfEr b1 o1 xs) (by show _ ∈ [rfEr b1 o1 xs, rfEr b2 o2 ys]; simp)) (by omega)) (by kernel_rfl) fun aa D => ?_
  refine dr_tix 6 D (by kernel_rfl) (by kernel_rfl) (by kernel_rfl) (b := b2) (off := o2) (len := ys.length) (n := j) (size := 2) (ix := (j : Int)) (by rw [← h2.resolve_left (by omega)]; kernel_rfl) rfl (by omega) fun aa D => ?_
  refine dr_tld 7 D (by kernel_rfl) (by kernel_rfl) (by kernel_rfl) (ty := 24) (ad := ⟨b2, o2 + j * 2, none⟩) (v := (ys.getD j e00).v) (fun W hW => ld_en (j := j) (show ErAt W b2 o2 ys from hW (rfEr b2 o2 ys) (by show _ ∈ [rfEr b1 o1 xs, rfEr b2 o2 ys]; simp)) (by omega)) (by kernel_rfl) fun aa D => ?_
  have m1 := getD_mem xs j e00 (by omega)
  have m2 := getD_mem ys j e00 (by omega)
  refine dr_call1 8 D (by kernel_rfl) (by kernel_rfl) (by kernel_rfl) (one_t w (xs.getD j e00) (ys.getD j e00) (ho1 _ m1).1 (ho2 _ m2).1 (ho1 _ m1).2 ((D.S.fact (f := rfEl xs) (by simp)) _ m1) ((D.S.fact (f := rfEl ys) (by simp)) _ m2)) (by kernel_rfl) fun aa w hb D => ?_
  refine dr_end D (by kernel_rfl) fun S => ?_
  refine sy_run ⟨0, [7]⟩ 60 S fun bs aa w S => ?_
  refine sy_reg S fun S => ?_
  refine sy_ops 1 S fun bs aa w S => ?_
  refine sy_cast 27 S (congrArg Value.bool (decide_eq_false (fun q => hp (by unfold prE; rw [q.1, q.2])) : decide ((xs.getD j e00).ver = (ys.getD j e00).ver ∧ (xs.getD j e00).ws = (ys.getD j e00).ws) = false)) (by kernel_rfl) fun S => ?_
  refine sy_run ⟨0, []⟩ 60 S fun bs aa w S => ?_
  rw [decide_eq_false (fun q : xs.map prE = ys.map prE => hp (map_ne e00 xs ys q j hj))]
  exact sy_ret S (by kernel_rfl) (by kernel_rfl) fun hg => ⟨rfl, bel_gr hg⟩
set_option maxHeartbeats 8000000 in
theorem al_s (m j : Nat) (hj : j < xs.length) (hp : prE (xs.getD j e00) = prE (ys.getD j e00)) (ih : (∀ i, i < j + 1 → prE (xs.getD i e00) = prE (ys.getD i e00)) → ∀ (aa : Act) (w : World) (S : Sy w0 [] [] (alS a1 xs.length c1 a2 ys.length c2 (j + 1)) [rfEr b1 o1 xs, rfEr b2 o2 ys, rfEl xs, rfEl ys] aa w), post Try.prog (.rnd (m) (bodyL alC) :: alC.k.tail) (bodyPost Try.prog Try.f22 fun z w' => z = .returned (.bool (decide (xs.map prE = ys.map prE))) ∧ Below w0.heap.size w0 w') .normal aa w) (hv : ∀ i, i < j → prE (xs.getD i e00) = prE (ys.getD i e00)) (aa : Act) (w : World) (S : Sy w0 [] [] (alS a1 xs.length c1 a2 ys.length c2 (j)) [rfEr b1 o1 xs, rfEr b2 o2 ys, rfEl xs, rfEl ys] aa w) : post Try.prog (.rnd (m + 1) (bodyL alC) :: alC.k.tail) (bodyPost Try.prog Try.f22 fun z w' => z = .returned (.bool (decide (xs.map prE = ys.map prE))) ∧ Below w0.heap.size w0 w') .normal aa w := by
  refine sy_run (c := ⟨(.rnd (m + 1) (bodyL alC) :: alC.k.tail), alS a1 xs.length c1 a2 ys.length c2 (j)⟩) ⟨0, [4]⟩ 50 S fun bs aa w S => ?_
  refine sy_reg S fun S => ?_
  refine sy_ops 4 S fun bs aa w S => ?_
  refine sy_cast 15 S (congrArg Value.bool (decide_eq_true (by omega) : decide ((j : Int) < (xs.length : Int)) = true)) (by kernel_rfl) fun S => ?_
  refine sy_run ⟨0, []⟩ 60 S fun bs aa w S => ?_
  letI : HF := ⟨[rfEr b1 o1 xs, rfEr b2 o2 ys]⟩
  refine dr_enter [] (by kernel_rfl) (by kernel_rfl) S (by kernel_rfl) (fun aa w D => ?_) (fun f hf => by have hf2 : f ∈ [rfEr b1 o1 xs, rfEr b2 o2 ys] := hf; simp only [List.mem_cons, List.not_mem_nil, or_false] at hf2; rcases hf2 with rfl | rfl <;> simp)
  refine dr_tix 2 D (by kernel_rfl) (by kernel_rfl) (by kernel_rfl) (b := b1) (off := o1) (len := xs.length) (n := j) (size := 2) (ix := (j : Int)) (by rw [← h1.resolve_left (by omega)]; kernel_rfl) rfl (by omega) fun aa D => ?_
  refine dr_tld 3 D (by kernel_rfl) (by kernel_rfl) (by kernel_rfl) (ty := 24) (ad := ⟨b1, o1 + j * 2, none⟩) (v := (xs.getD j e00).v) (fun W hW => ld_en (j := j) (show ErAt W b1 o1 xs from hW (rfEr b1 o1 xs) (by show _ ∈ [rfEr b1 o1 xs, rfEr b2 o2 ys]; simp)) (by omega)) (by kernel_rfl) fun aa D => ?_
  refine dr_tix 6 D (by kernel_rfl) (by kernel_rfl) (by kernel_rfl) (b := b2) (off := o2) (len := ys.length) (n := j) (size := 2) (ix := (j : Int)) (by rw [← h2.resolve_left (by omega)]; kernel_rfl) rfl (by omega) fun aa D => ?_
  refine dr_tld 7 D (by kernel_rfl) (by kernel_rfl) (by kernel_rfl) (ty := 24) (ad := ⟨b2, o2 + j * 2, none⟩) (v := (ys.getD j e00).v) (fun W hW => ld_en (j := j) (show ErAt W b2 o2 ys from hW (rfEr b2 o2 ys) (by show _ ∈ [rfEr b1 o1 xs, rfEr b2 o2 ys]; simp)) (by omega)) (by kernel_rfl) fun aa D => ?_
  have m1 := getD_mem xs j e00 (by omega)
  have m2 := getD_mem ys j e00 (by omega)
  refine dr_call1 8 D (by kernel_rfl) (by kernel_rfl) (by kernel_rfl) (one_t w (xs.getD j e00) (ys.getD j e00) (ho1 _ m1).1 (ho2 _ m2).1 (ho1 _ m1).2 ((D.S.fact (f := rfEl xs) (by simp)) _ m1) ((D.S.fact (f := rfEl ys) (by simp)) _ m2)) (by kernel_rfl) fun aa w hb D => ?_
  refine dr_end D (by kernel_rfl) fun S => ?_
  refine sy_run ⟨0, [7]⟩ 60 S fun bs aa w S => ?_
  refine sy_reg S fun S => ?_
  refine sy_ops 1 S fun bs aa w S => ?_
  refine sy_cast 27 S (congrArg Value.bool (decide_eq_true ⟨congrArg Prod.fst hp, congrArg Prod.snd hp⟩ : decide ((xs.getD j e00).ver = (ys.getD j e00).ver ∧ (xs.getD j e00).ws = (ys.getD j e00).ws) = true)) (by kernel_rfl) fun S => ?_
  refine sy_run ⟨0, [5]⟩ 60 S fun bs aa w S => ?_
  refine sy_reg S fun S => ?_
  refine sy_ops 2 S fun bs aa w S => ?_
  refine sy_cast 17 S (congrArg (Value.int .i64) (by rw [IntKind.wrap_i64]; omega : IntKind.i64.wrap ((j : Int) + 1) = ((j + 1 : Nat) : Int))) (by kernel_rfl) fun S => ?_
  refine sy_run ⟨0, [999]⟩ 50 S fun bs aa w S => ?_
  have S2 := S.to [] (alS a1 xs.length c1 a2 ys.length c2 (j + 1)) (by kernel_rfl) (by kernel_rfl) (by kernel_rfl) (by kernel_rfl) (by kernel_rfl)
  refine sy_at2 (k' := (.rnd (m) (bodyL alC) :: alC.k.tail)) (by kernel_rfl) ?_
  exact ih (upto_succ hv hp) aa w S2
theorem al_a : ∀ (r j : Nat), j + r = xs.length → (∀ i, i < j → prE (xs.getD i e00) = prE (ys.getD i e00)) → ∀ (aa : Act) (w : World) (S : Sy w0 [] [] (alS a1 xs.length c1 a2 ys.length c2 (j)) [rfEr b1 o1 xs, rfEr b2 o2 ys, rfEl xs, rfEl ys] aa w), post Try.prog (.rnd (r + 1) (bodyL alC) :: alC.k.tail) (bodyPost Try.prog Try.f22 fun z w' => z = .returned (.bool (decide (xs.map prE = ys.map prE))) ∧ Below w0.heap.size w0 w') .normal aa w := by
  intro r
  induction r with
  | zero => intro j hj hv aa w S; obtain rfl : j = xs.length := by omega
            exact al_e w0 xs ys a1 a2 c1 c2 b1 o1 b2 o2 h1 h2 hn hl ho1 ho2 0 hv aa w S
  | succ r ih =>
    intro j hj hv aa w S
    by_cases hp : prE (xs.getD j e00) = prE (ys.getD j e00)
    · exact al_s w0 xs ys a1 a2 c1 c2 b1 o1 b2 o2 h1 h2 hn hl ho1 ho2 (r + 1) j (by omega) hp (fun h => ih (j + 1) (by omega) h) hv aa w S
    · exact al_b w0 xs ys a1 a2 c1 c2 b1 o1 b2 o2 h1 h2 hn hl ho1 ho2 (r + 1) j (by omega) hp aa w S
end
set_option maxHeartbeats 8000000 in
theorem all_t (w0 : World) (xs ys : List Et) (a1 a2 : Option Addr) (c1 c2 b1 o1 b2 o2 : Nat) (h1 : xs.length = 0 ∨ a1 = some ⟨b1, o1, none⟩) (h2 : ys.length = 0 ∨ a2 = some ⟨b2, o2, none⟩) (hl : xs.length ≤ 100000) (ho1 : ∀ e ∈ xs, e.ok ∧ e.ws.length ≤ 100000) (ho2 : ∀ e ∈ ys, e.ok ∧ e.ws.length ≤ 100000) (hA : ErAt w0 b1 o1 xs) (hB : ErAt w0 b2 o2 ys) (hC : ∀ e ∈ xs, WrAt w0 e.b e.o e.ws) (hD : ∀ e ∈ ys, WrAt w0 e.b e.o e.ws) : Calls Try.prog 22 #[.slice a1 xs.length c1, .slice a2 ys.length c2] w0 fun z w' => z = .returned (.bool (decide (xs.map prE = ys.map prE))) ∧ Below w0.heap.size w0 w' := by
  refine sy_enterF [] [rfEr b1 o1 xs, rfEr b2 o2 ys, rfEl xs, rfEl ys] (by intro f hf; simp only [List.mem_cons, List.not_mem_nil, or_false] at hf; rcases hf with rfl | rfl | rfl | rfl; exact hA; exact hB; exact hC; exact hD) Try.func22 rfl rfl fun aa S => ?_
  refine sy_run ⟨0, [1]⟩ 60 S fun bs aa w S => ?_
  refine sy_reg S fun S => ?_
  refine sy_ops 5 S fun bs aa w S => ?_
  by_cases hn : xs.length = ys.length
  case neg =>
    refine sy_cast 11 S (congrArg Value.bool (by rw [decide_eq_false (by omega)]; rfl : (!decide ((xs.length : Int) = (ys.length : Int))) = true)) (by kernel_rfl) fun S => ?_
    refine sy_run ⟨0, []⟩ 60 S fun bs aa w S => ?_
    rw [decide_eq_false (fun q : xs.map prE = ys.map prE => hn (by simpa using congrArg List.length q))]
    exact sy_ret S (by kernel_rfl) (by kernel_rfl) fun hg => ⟨rfl, bel_gr hg⟩
  refine sy_cast 11 S (congrArg Value.bool (by rw [decide_eq_true (by omega)]; rfl : (!decide ((xs.length : Int) = (ys.length : Int))) = false)) (by kernel_rfl) fun S => ?_
  refine sy_run ⟨0, []⟩ 60 S fun bs aa w S => ?_
  have S2 := S.to [] (alS a1 xs.length c1 a2 ys.length c2 (0)) (by kernel_rfl) (by kernel_rfl) (by kernel_rfl) (by kernel_rfl) (by kernel_rfl)
  refine sy_loop (xs.length + 1) (by kernel_rfl) ?_
  refine sy_at2 (k' := (.rnd (xs.length + 1) (bodyL alC) :: alC.k.tail)) (by kernel_rfl) ?_
  exact al_a w0 xs ys a1 a2 c1 c2 b1 o1 b2 o2 h1 h2 hn hl ho1 ho2 xs.length 0 (by omega) (fun i hi => absurd hi (Nat.not_lt_zero _)) aa w S2
end Go.Proofs.Ytaclhiagfgmgkaa

namespace Go.Proofs.Ytaclhiagfgmgkaa
open Go Go.RowKit SZ
set_option linter.unusedVariables false
set_option linter.unusedSectionVars false
set_option linter.unusedSimpArgs false
set_option maxRecDepth 100000
attribute [local irreducible] post GD Nxt NxtAll
structure Er where
  a : Option Addr
  c : Nat
  b : Nat
  o : Nat
  l : List Et
def Er.v (z : Er) : Value := .slice z.a z.l.length z.c
def recQ (R : List (Int × Ws) × Nat) (B : Nat) (z : Er) (w : World) : Prop := z.l.map prE = R.1 ∧ (z.l.length = 0 ∨ z.a = some ⟨z.b, z.o, none⟩) ∧ ErAt w z.b z.o z.l ∧ (z.l.length = 0 ∨ B ≤ z.b) ∧ (∀ e ∈ z.l, e.ok ∧ (e.ws.length = 0 ∨ B ≤ e.b)) ∧ ∀ e ∈ z.l, WrAt w e.b e.o e.ws
theorem rec_er {w0 : World} {R : List (Int × Ws) × Nat} {y : Ending} {w : World} (h : recP w0 R y w) : ∃ z : Er, y = .returned (.tuple #[z.v, .int .i64 (R.2 : Int)]) ∧ recQ R w0.heap.size z w ∧ Below w0.heap.size w0 w := by
  obtain ⟨hb, es, v, q1, q2, q3, q4, q5⟩ := h
  obtain ⟨a, c, b, o, rfl, h1, h2, h3⟩ := er_of_owns q3
  exact ⟨⟨a, c, b, o, es⟩, q1, ⟨q2, h1, h2, h3, fun e he => ⟨(q4 e he).1, (q4 e he).2.2⟩, q5⟩, hb⟩
end Go.Proofs.Ytaclhiagfgmgkaa

namespace Go.Proofs.Ytaclhiagfgmgkaa
open Go.ChangeShapes Go.WideShapes Go.ChangeAt Go.RowKit Go.Deep
set_option maxRecDepth 100000
set_option linter.unusedVariables false
set_option linter.unusedSectionVars false
set_option linter.unusedSimpArgs false
section
variable {H : Type} {enc : TypeId × Value → H} {W : World}
theorem ens_trod {c : Value} {x : DataW H × List MemPlace} {n' : Nat} (hf : DataW.trod enc Try.prog W 0 (fun _ => true) true n' 36 [c] = some x) : ∃ z : Er, c = z.v ∧ (z.l.length = 0 ∨ z.a = some ⟨z.b, z.o, none⟩) ∧ z.l.length ≤ z.c ∧ ErAt W z.b z.o z.l ∧ ∀ e ∈ z.l, e.ok ∧ fitE e.ver e.ws ∧ WrAt W e.b e.o e.ws := by
  rcases open_slice Try.underlying36 hf with ⟨hcs, _⟩ | ⟨a, len0, cap0, m, n, D, Pl, hcs, _, hl, hm, hmm, _, hi⟩
  · simp at hcs
    subst hcs
    exact ⟨⟨none, 0, 0, 0, []⟩, rfl, Or.inl rfl, Nat.le_refl _, fun j hj => absurd hj (Nat.not_lt_zero _), by simp⟩
  · simp at hcs
    subst hcs
    simp only [if_true] at hmm
    have cw : Try.prog.cellsOf 24 = 2 := by kernel_rfl
    have key : ∀ i, i < len0 → ∃ A : Et, (W.cell? (a.add (i * 2)) = some (.int .i64 A.ver) ∧ W.cell? (a.add (i * 2 + 1)) = some (.slice A.a A.ws.length A.c)) ∧ A.ok ∧ fitE A.ver A.ws ∧ WrAt W A.b A.o A.ws := by
      intro i hil
      obtain ⟨cs', hc, ht⟩ := hi i (by omega)
      rw [cw] at hc
      obtain ⟨_, hcl, hat⟩ := World.cells?_some hc
      match cs', hcl with
      | [c0, c1], _ =>
        obtain ⟨e, rfl, rfl, h1, h2, h3⟩ := en_trod (c0 := c0) (c1 := c1) ht
        have q0 := hat 0 (by omega)
        have q1 := hat 1 (by omega)
        rw [add_add] at q0 q1
        exact ⟨e, ⟨q0, q1⟩, h1, h2, h3⟩
    have hcap : cap0 ≤ 9223372036854775807 := by unfold maxLen at hm; omega
    by_cases h0 : len0 = 0
    · subst h0
      exact ⟨⟨_, _, 0, 0, []⟩, rfl, Or.inl rfl, Nat.zero_le _, fun j hj => absurd hj (Nat.not_lt_zero _), by simp⟩
    · obtain ⟨b, off, spot⟩ := a
      obtain ⟨A0, hA0, _⟩ := key 0 (by omega)
      have hspot : spot = none := by simpa [Addr.add] using World.cell?_spot hA0.1
      subst hspot
      obtain ⟨f, hf'⟩ := Classical.axiomOfChoice (fun i : { i : Nat // i < len0 } => key i.1 i.2)
      have hlen : ((List.range len0).attach.map (fun i => f ⟨i.1, List.mem_range.1 i.2⟩)).length = len0 := by simp
      refine ⟨⟨some ⟨b, off, none⟩, cap0, b, off, ((List.range len0).attach.map (fun i => f ⟨i.1, List.mem_range.1 i.2⟩))⟩, by unfold Er.v; rw [hlen], Or.inr rfl, by show ((List.range len0).attach.map (fun i => f ⟨i.1, List.mem_range.1 i.2⟩)).length ≤ cap0; rw [hlen]; exact hl, fun j hj => ?_, fun p hp => ?_⟩
      · have hjl : j < len0 := by simpa using hj
        have hd := (hf' ⟨j, hjl⟩).1
        simp only [add_plain] at hd
        have e : ((List.range len0).attach.map (fun i => f ⟨i.1, List.mem_range.1 i.2⟩)).getD j e00 = f ⟨j, hjl⟩ := by
          simp [List.getD, hjl]
        show W.cell? ⟨b, off + j * 2, none⟩ = some (.int .i64 (((List.range len0).attach.map (fun i => f ⟨i.1, List.mem_range.1 i.2⟩)).getD j e00).ver) ∧ W.cell? ⟨b, off + j * 2 + 1, none⟩ = some (.slice (((List.range len0).attach.map (fun i => f ⟨i.1, List.mem_range.1 i.2⟩)).getD j e00).a (((List.range len0).attach.map (fun i => f ⟨i.1, List.mem_range.1 i.2⟩)).getD j e00).ws.length (((List.range len0).attach.map (fun i => f ⟨i.1, List.mem_range.1 i.2⟩)).getD j e00).c)
        rw [e]
        exact ⟨hd.1, by simpa [Nat.add_assoc] using hd.2⟩
      · simp only [List.mem_map, List.mem_attach, true_and] at hp
        obtain ⟨i, rfl⟩ := hp
        exact (hf' ⟨i.1, List.mem_range.1 i.2⟩).2
theorem open_ens {r : Reach} {b0 : Nat} {v : Value} {d : DataW H} {p : List MemPlace} (hv : Value.okWide Try.prog W r b0 36 v) (h : DataW.Trod enc Try.prog W 0 (fun _ => true) true 36 v d p) :
    ∃ z : Er, v = z.v ∧ (z.l.length = 0 ∨ z.a = some ⟨z.b, z.o, none⟩) ∧ z.l.length ≤ z.c ∧ ErAt W z.b z.o z.l ∧ ∀ e ∈ z.l, e.ok ∧ fitE e.ver e.ws ∧ WrAt W e.b e.o e.ws := by
  obtain ⟨a0, len0, cap0, rfl⟩ := okWide_slice Try.underlying36 hv
  obtain ⟨fuel, hf⟩ := h
  exact ens_trod hf
end
end Go.Proofs.Ytaclhiagfgmgkaa

namespace Go.Proofs.Ytaclhiagfgmgkaa
open Go Go.RowKit SZ
set_option linter.unusedVariables false
set_option linter.unusedSectionVars false
set_option linter.unusedSimpArgs false
set_option maxRecDepth 100000
attribute [local irreducible] post GD Nxt NxtAll
def ascR : Int → List (Int × Ws) → Prop
  | _, [] => True
  | last, p :: r => last < p.1 ∧ fitE p.1 p.2 ∧ validB p.1 p.2 = true ∧ ascR p.1 r
def lastV (last : Int) : List (Int × Ws) → Int
  | [] => last
  | p :: r => lastV p.1 r
def recsE (P : List (Int × Ws)) : (List ByteArray) := P.flatMap fun p => recE p.1 p.2
theorem recS_cat : ∀ (P : List (Int × Ws)) (f : Nat) (l : (List ByteArray)) (k : Nat) (last : Int) (rest : (List ByteArray)), ascR last P → l.drop k = recsE P ++ rest → recS (P.length + f) l k last = (P ++ (recS f l (k + (recsE P).length) (lastV last P)).1, (recS f l (k + (recsE P).length) (lastV last P)).2)
  | [], f, l, k, last, rest, _, _ => by simp [recsE, lastV]
  | (v, ws) :: r, f, l, k, last, rest, ha, hd => by
    obtain ⟨h1, h2, h3, h4⟩ := ha
    have h2 : fitE v ws := h2
    have h3 : validB v ws = true := h3
    have h1 : last < v := h1
    have hm := recE_many h2 h3
    have hne : 1 ≤ (recE v ws).length := by
      rw [recE_valid h3, recL_len]
      omega
    have e1 : recsE ((v, ws) :: r) = recE v ws ++ recsE r := by simp [recsE]
    have hd2 : l.drop k = recE v ws ++ (recsE r ++ rest) := by rw [hd, e1, List.append_assoc]
    have hk : k < l.length := by
      have := congrArg List.length hd2
      rw [List.length_drop, List.length_append] at this
      omega
    have hp : parseS l k = some (v, ws, (recE v ws).length) := rec_parse h2 h3 hk (by rw [hd2, List.take_left])
    have hd3 : l.drop (k + (recE v ws).length) = recsE r ++ rest := by rw [← List.drop_drop, hd2, List.drop_left]
    have e2 : ((v, ws) :: r).length + f = (r.length + f) + 1 := by simp only [List.length_cons]; omega
    have ih := recS_cat r f l (k + (recE v ws).length) v rest h4 hd3
    have e3 : k + (recsE ((v, ws) :: r)).length = k + (recE v ws).length + (recsE r).length := by rw [e1, List.length_append]; omega
    rw [e2, recS_some hp (by omega), ih, e3]
    rfl
theorem dec_drop (l : (List ByteArray)) (k : Nat) : decS l k = decS (l.drop k) 0 := by
  have e : (l.drop k).getD 0 ByteArray.empty = l.getD k ByteArray.empty := by simp [List.getD]
  unfold decS
  simp only [List.length_drop, List.drop_zero, Nat.sub_zero, e]
  by_cases h : l.length ≤ k
  · rw [if_pos h, if_pos (show l.length - k ≤ 0 by omega)]
  · rw [if_neg h, if_neg (show ¬l.length - k ≤ 0 by omega)]
theorem parse_drop (l : (List ByteArray)) (k : Nat) : parseS l k = parseS (l.drop k) 0 := by
  unfold parseS
  rw [← dec_drop]
  simp only [List.length_drop, List.drop_zero, Nat.sub_zero]
theorem torn_rest {ver : Int} {ws : Ws} (hf : fitE ver ws) (hv : validB ver ws = true) (cs : List Nat) (B : List ByteArray) (h : sameI (recE ver ws) cs (recE ver ws).length = false) : parseS (tornL (recE ver ws) cs (recE ver ws).length ++ B) 0 = none := by
  cases hp : parseS (tornL (recE ver ws) cs (recE ver ws).length ++ B) 0 with
  | none => rfl
  | some x =>
    exfalso
    obtain ⟨v, ws', n⟩ := x
    obtain ⟨h1, h2, hn, h4, h5, h6, h7⟩ := parse_rec hp
    have hm := recE_many hf hv
    have hm' := recE_many h1 h2
    have el := recE_valid hv
    have el' := recE_valid h2
    have hlen : (recE ver ws).length = manyL (payE ver ws) := by rw [el, recL_len]
    have hlen' : n = manyL (payE v ws') := by rw [hn, el', recL_len]
    rw [List.drop_zero] at h7
    have key : ∀ i, i < n → i < (recE ver ws).length → tornS (recE ver ws) cs i = secB (manyL (payE v ws') - 1 - i) (partL (payE v ws') i) ∧ tornS (recE ver ws) cs i = (recE ver ws).getD i ByteArray.empty := by
      intro i hi hi2
      have e1 : tornS (recE ver ws) cs i = (recE v ws').getD i ByteArray.empty := by
        rw [← h7, ← tornL_at _ cs (recE ver ws).length i (by omega)]
        simp [List.getD, List.getElem?_take, hi, List.getElem?_append_left (show i < (tornL (recE ver ws) cs (recE ver ws).length).length by rw [tornL_len]; omega)]
      have e2 : (recE v ws').getD i ByteArray.empty = secB (manyL (payE v ws') - 1 - i) (partL (payE v ws') i) := by rw [el', recL_at _ i (by omega)]
      have e3 : (recE ver ws).getD i ByteArray.empty = secB (manyL (payE ver ws) - 1 - i) (partL (payE ver ws) i) := by rw [el, recL_at _ i (by omega)]
      have p1 := part_byte (pay_byte ver ws) i
      have p2 := part_byte (pay_byte v ws') i
      have q1 := part_le (payE ver ws) i
      have q2 := part_le (payE v ws') i
      refine ⟨e1.trans e2, ?_⟩
      have e4 := congrArg bytesOf (e1.trans e2)
      unfold tornS at e4
      rw [e3, sec_bytes (by omega) p1, sec_bytes (by omega) p2, bytesOf_strOf _ (torn_byte (sec_byte (by omega) p1) _)] at e4
      have e5 := sec_torn q1 q2 (body_byte (by omega) p2) (cutA_le _ _) e4
      rw [e1, e2, e3]
      unfold secB
      rw [e5]
    have k0 := key 0 (by omega) (by omega)
    have f0 : manyL (payE v ws') - 1 = manyL (payE ver ws) - 1 := by
      have e := k0.1.symm.trans k0.2
      rw [el, recL_at _ 0 (by omega)] at e
      have e2 := congrArg bytesOf e
      rw [sec_bytes (by omega) (part_byte (pay_byte _ _) _), sec_bytes (by omega) (part_byte (pay_byte _ _) _)] at e2
      have e3 := congrArg (fun l => l.getD 0 0) e2
      exact e3
    have : sameI (recE ver ws) cs (recE ver ws).length = true := (sameI_iff _ _ _).2 fun i hi => (key i (by omega) hi).2
    rw [h] at this
    cases this
theorem zero_none {l : List ByteArray} {k : Nat} (h : l.getD k ByteArray.empty = strOf (List.replicate 32 0)) : parseS l k = none := by
  cases hp : parseS l k with
  | none => rfl
  | some x =>
    exfalso
    obtain ⟨v, ws', n⟩ := x
    obtain ⟨h1, h2, hn, h4, h5, h6, h7⟩ := parse_rec hp
    have hm' := recE_many h1 h2
    have el' := recE_valid h2
    have e1 : (recE v ws').getD 0 ByteArray.empty = l.getD k ByteArray.empty := by
      rw [← h7]
      simp [List.getD, List.getElem?_take, show 0 < n by omega]
    rw [h, el', recL_at _ 0 (by omega)] at e1
    have p2 := part_byte (pay_byte v ws') 0
    have q2 := part_le (payE v ws') 0
    have e4 := congrArg bytesOf e1
    rw [sec_bytes (by omega) p2, bytesOf_strOf _ (by intro b hb; rw [List.mem_replicate] at hb; omega)] at e4
    have b2 := body_len (f := manyL (payE v ws') - 1 - 0) q2
    have e := congrArg (List.drop 28) e4
    have e2 : (sec (manyL (payE v ws') - 1 - 0) (partL (payE v ws') 0)).drop 28 = le4 (adler (bodyB (manyL (payE v ws') - 1 - 0) (partL (payE v ws') 0))) := by
      unfold sec
      rw [List.drop_append_of_le_length (by omega), List.drop_of_length_le (by omega), List.nil_append]
    rw [e2] at e
    have e3 : (List.replicate 32 0 : List Nat).drop 28 = [0, 0, 0, 0] := rfl
    rw [e3] at e
    unfold le4 at e
    simp only [List.cons.injEq] at e
    exact adler_low _ (body_byte (by omega) p2) b2 ⟨e.1, e.2.1⟩
end Go.Proofs.Ytaclhiagfgmgkaa

namespace Go.Proofs.Ytaclhiagfgmgkaa
open Go Go.RowKit SZ
set_option linter.unusedVariables false
set_option linter.unusedSectionVars false
set_option linter.unusedSimpArgs false
set_option maxRecDepth 100000
attribute [local irreducible] post GD Nxt NxtAll
theorem parse_end {l : (List ByteArray)} {k : Nat} (h : l.length ≤ k) : parseS l k = none := by
  unfold parseS decS
  rw [if_pos h]
def zeroS : ByteArray := strOf (List.replicate 32 0)
def risB : Int → List (Int × Ws) → Bool
  | _, [] => true
  | last, p :: r => validB p.1 p.2 && decide (last < p.1) && risB p.1 r
theorem ris_asc : ∀ (P : List (Int × Ws)) (last : Int), risB last P = true → (∀ p ∈ P, fitE p.1 p.2) → ascR last P
  | [], _, _, _ => trivial
  | p :: r, last, h, hf => by
    simp only [risB, Bool.and_eq_true, decide_eq_true_eq] at h
    exact ⟨h.1.2, hf p (by simp), h.1.1, ris_asc r p.1 h.2 fun q hq => hf q (by simp [hq])⟩
def prevV (es : List Et) : Nat → Int
  | 0 => 0
  | i + 1 => (es.getD i e00).ver
def risI (es : List Et) (i : Nat) : Bool := risB (prevV es i) ((es.drop i).map prE)
theorem risI_end (es : List Et) : risI es es.length = true := by
  unfold risI
  rw [List.drop_length]
  rfl
theorem risI_step (es : List Et) (i : Nat) (hi : i < es.length) : risI es i = (validB (es.getD i e00).ver (es.getD i e00).ws && decide (prevV es i < (es.getD i e00).ver) && risI es (i + 1)) := by
  have e : es.getD i e00 = es[i] := by simp [List.getD, List.getElem?_eq_getElem hi]
  unfold risI
  rw [List.drop_eq_getElem_cons hi]
  rw [show prevV es (i + 1) = (es.getD i e00).ver from rfl, e]
  rfl
theorem gapp_l {a b : (List ByteArray)} {i : Nat} (h : i < a.length) : (a ++ b).getD i ByteArray.empty = a.getD i ByteArray.empty := by simp [List.getD, List.getElem?_append_left h]
theorem gapp_r {a b : (List ByteArray)} {i : Nat} (h : a.length ≤ i) : (a ++ b).getD i ByteArray.empty = b.getD (i - a.length) ByteArray.empty := by simp [List.getD, List.getElem?_append_right h]
theorem grep {n i : Nat} {x : ByteArray} (h : i < n) : (List.replicate n x).getD i ByteArray.empty = x := by simp [List.getD, List.getElem?_replicate, h]
theorem recsE_snoc (P : List (Int × Ws)) (p : Int × Ws) : recsE (P ++ [p]) = recsE P ++ recE p.1 p.2 := by simp [recsE]
theorem rec_whole {P : List (Int × Ws)} (h : ascR 0 P) (z f : Nat) (hf : P.length < f) : recS f (recsE P ++ List.replicate z zeroS) 0 0 = (P, (recsE P).length) := by
  obtain ⟨f', rfl⟩ : ∃ f', f = P.length + (f' + 1) := ⟨f - P.length - 1, by omega⟩
  rw [recS_cat P (f' + 1) _ 0 0 (List.replicate z zeroS) h (by rw [List.drop_zero])]
  have hn : parseS (recsE P ++ List.replicate z zeroS) (0 + (recsE P).length) = none := by
    rw [Nat.zero_add]
    cases z with
    | zero => exact parse_end (by simp)
    | succ z => exact zero_none (by rw [gapp_r (Nat.le_refl _), Nat.sub_self, grep (Nat.succ_pos _)]; rfl)
  rw [recS_none hn, List.append_nil, Nat.zero_add]
def tornT (L : (List ByteArray)) (k : Nat) (s : ByteArray) (j : Nat) : (List ByteArray) := (List.range L.length).map fun i => if i < k then L.getD i ByteArray.empty else if i = k then s else if i < j then zeroS else L.getD i ByteArray.empty
theorem tornT_len (L : (List ByteArray)) (k : Nat) (s : ByteArray) (j : Nat) : (tornT L k s j).length = L.length := by simp [tornT]
theorem tornT_at (L : (List ByteArray)) (k : Nat) (s : ByteArray) (j i : Nat) (hi : i < L.length) : (tornT L k s j).getD i ByteArray.empty = if i < k then L.getD i ByteArray.empty else if i = k then s else if i < j then zeroS else L.getD i ByteArray.empty := by
  simp [tornT, List.getD, hi]
theorem gset {L : (List ByteArray)} {k i : Nat} {s : ByteArray} (hk : k < L.length) : (L.set k s).getD i ByteArray.empty = if i = k then s else L.getD i ByteArray.empty := by
  by_cases h : i = k
  · subst h; simp [List.getD, List.getElem?_set, hk]
  · rw [if_neg h]; simp [List.getD, List.getElem?_set, Ne.symm h]
theorem tornT_0 (L : (List ByteArray)) (k : Nat) (s : ByteArray) (hk : k < L.length) : L.set k s = tornT L k s (k + 1) := eq_upto ByteArray.empty _ _ (by rw [tornT_len, List.length_set]) fun i hi => by
  rw [List.length_set] at hi
  rw [gset hk, tornT_at _ _ _ _ _ hi]
  by_cases h1 : i < k
  · rw [if_pos h1, if_neg (by omega)]
  · rw [if_neg h1]
    by_cases h2 : i = k
    · rw [if_pos h2, if_pos h2]
    · rw [if_neg h2, if_neg h2, if_neg (by omega)]
theorem tornT_set (L : (List ByteArray)) (k : Nat) (s : ByteArray) (j : Nat) (hk : k < j) (hj : j < L.length) : (tornT L k s j).set j zeroS = tornT L k s (j + 1) := eq_upto ByteArray.empty _ _ (by rw [List.length_set, tornT_len, tornT_len]) fun i hi => by
  rw [List.length_set, tornT_len] at hi
  rw [gset (by rw [tornT_len]; exact hj), tornT_at _ _ _ _ _ hi, tornT_at _ _ _ _ _ hi]
  by_cases h1 : i < k
  · rw [if_neg (show ¬i = j by omega), if_pos h1, if_pos h1]
  · rw [if_neg h1, if_neg h1]
    by_cases h2 : i = k
    · rw [if_neg (show ¬i = j by omega), if_pos h2, if_pos h2]
    · rw [if_neg h2, if_neg h2]
      by_cases h3 : i = j
      · rw [if_pos h3, if_pos (by omega)]
      · rw [if_neg h3]
        by_cases h4 : i < j
        · rw [if_pos h4, if_pos (by omega)]
        · rw [if_neg h4, if_neg (by omega)]
theorem zero_sec {f : Nat} {p : List Nat} (hf : f < 256) (hp : ∀ b ∈ p, b < 256) (hl : p.length ≤ 27) : zeroS ≠ secB f p := by
  intro e1
  have e4 := congrArg bytesOf e1
  unfold zeroS at e4
  rw [sec_bytes hf hp, bytesOf_strOf _ (by intro b hb; rw [List.mem_replicate] at hb; omega)] at e4
  have b2 := body_len (f := f) hl
  have e := congrArg (List.drop 28) e4
  have e2 : (sec f p).drop 28 = le4 (adler (bodyB f p)) := by
    unfold sec
    rw [List.drop_append_of_le_length (by omega), List.drop_of_length_le (by omega), List.nil_append]
  rw [e2] at e
  have e3 : (List.replicate 32 0 : List Nat).drop 28 = [0, 0, 0, 0] := rfl
  rw [e3] at e
  unfold le4 at e
  simp only [List.cons.injEq] at e
  exact adler_low _ (body_byte hf hp) b2 ⟨e.1.symm, e.2.1.symm⟩
def cutsOf (j c : Nat) : List Nat := List.replicate j 32 ++ [c] ++ List.replicate 40 0
theorem cuts_lo {j c i : Nat} (h : i < j) : cutA (cutsOf j c) i = 32 := by
  unfold cutA cutsOf
  rw [if_pos (by simp; omega)]
  have e : (List.replicate j 32 ++ [c] ++ List.replicate 40 0).getD i 0 = 32 := by
    rw [List.append_assoc]
    simp [List.getD, List.getElem?_append_left (show i < (List.replicate j 32).length by simpa using h), List.getElem?_replicate, h]
  rw [e]
  rfl
theorem cuts_at {j c : Nat} (h : c ≤ 32) : cutA (cutsOf j c) j = c := by
  unfold cutA cutsOf
  rw [if_pos (by simp)]
  have e : (List.replicate j 32 ++ [c] ++ List.replicate 40 0).getD j 0 = c := by
    rw [List.append_assoc]
    simp [List.getD, List.getElem?_append_right]
  rw [e]
  omega
theorem cuts_hi {j c i : Nat} (h : j < i) (h2 : i < j + 41) : cutA (cutsOf j c) i = 0 := by
  unfold cutA cutsOf
  rw [if_pos (by simp; omega)]
  have e : (List.replicate j 32 ++ [c] ++ List.replicate 40 0).getD i 0 = 0 := by
    have hl : (List.replicate j 32 ++ [c]).length ≤ i := by simp; omega
    rw [List.getD_eq_getElem?_getD, List.getElem?_append_right hl, List.getElem?_replicate]
    split <;> rfl
  rw [e]
  rfl
theorem torn_32 {s : ByteArray} (h : s.size = 32) : strOf (tornB (bytesOf s) 32) = s := by
  unfold tornB
  rw [List.take_of_length_le (by rw [bytesOf_length]; omega), Nat.sub_self, List.replicate_zero, List.append_nil, strOf_bytesOf]
theorem torn_0 (s : ByteArray) : strOf (tornB (bytesOf s) 0) = zeroS := rfl
section
variable {P : List (Int × Ws)} {p : Int × Ws} {z k c : Nat}
def wholeL (P : List (Int × Ws)) (z : Nat) : (List ByteArray) := recsE P ++ List.replicate z zeroS
def secK (L : (List ByteArray)) (k c : Nat) : ByteArray := strOf (tornB (bytesOf (L.getD k ByteArray.empty)) c)
theorem ascR_mem : ∀ (P : List (Int × Ws)) (last : Int), ascR last P → ∀ p ∈ P, fitE p.1 p.2 ∧ validB p.1 p.2 = true
  | [], _, _, p, hp => by cases hp
  | q :: r, last, h, p, hp => by
    rcases List.mem_cons.1 hp with rfl | hp
    · exact ⟨h.2.1, h.2.2.1⟩
    · exact ascR_mem r q.1 h.2.2.2 p hp
theorem ascR_pre : ∀ (P Q : List (Int × Ws)) (last : Int), ascR last (P ++ Q) → ascR last P
  | [], _, _, _ => trivial
  | q :: r, Q, last, h => ⟨h.1, h.2.1, h.2.2.1, ascR_pre r Q q.1 h.2.2.2⟩
theorem whole_same (hk : k + 1 = (recsE P).length) (hs : secK (wholeL P z) k c = (wholeL P z).getD k ByteArray.empty) : tornT (wholeL P z) k (secK (wholeL P z) k c) (wholeL P z).length = wholeL P z := eq_upto ByteArray.empty _ _ (tornT_len _ _ _ _) fun i hi => by
  rw [tornT_len] at hi
  rw [tornT_at _ _ _ _ _ hi]
  by_cases h1 : i < k
  · rw [if_pos h1]
  · rw [if_neg h1]
    by_cases h2 : i = k
    · rw [if_pos h2, hs, h2]
    · rw [if_neg h2, if_pos hi]
      unfold wholeL at hi ⊢
      rw [List.length_append, List.length_replicate] at hi
      rw [gapp_r (by omega), grep (by omega)]
section
variable (h : ascR 0 (P ++ [p])) (hk1 : (recsE P).length ≤ k) (hk2 : k < (recsE (P ++ [p])).length) (hc : c ≤ 32)
include h hk1 hk2 hc
theorem whole_torn : tornT (wholeL (P ++ [p]) z) k (secK (wholeL (P ++ [p]) z) k c) (wholeL (P ++ [p]) z).length = recsE P ++ (tornL (recE p.1 p.2) (cutsOf (k - (recsE P).length) c) (recE p.1 p.2).length ++ List.replicate z zeroS) := by
  obtain ⟨hf, hv⟩ := ascR_mem _ 0 h p (by simp)
  have h25 : (recE p.1 p.2).length ≤ 25 := by rw [recE_valid hv, recL_len]; exact (recE_many hf hv).2
  have hsz := recE_sizes hf
  refine eq_upto ByteArray.empty _ _ (by rw [tornT_len]; unfold wholeL; rw [recsE_snoc]; simp [tornL_len]) fun i hi => ?_
  rw [tornT_len] at hi
  rw [tornT_at _ _ _ _ _ hi]
  have eL : wholeL (P ++ [p]) z = recsE P ++ (recE p.1 p.2 ++ List.replicate z zeroS) := by unfold wholeL; rw [recsE_snoc, List.append_assoc]
  rw [recsE_snoc, List.length_append] at hk2
  rw [eL, List.length_append, List.length_append, List.length_replicate] at hi
  by_cases h1 : i < (recsE P).length
  · rw [if_pos (by omega), eL, gapp_l h1, gapp_l h1]
  · rw [gapp_r (by omega)]
    have eR : ∀ q, (recsE P).length ≤ q → q < (recsE P).length + (recE p.1 p.2).length → (wholeL (P ++ [p]) z).getD q ByteArray.empty = (recE p.1 p.2).getD (q - (recsE P).length) ByteArray.empty := fun q hq1 hq2 => by
      rw [eL, gapp_r hq1, gapp_l (by omega)]
    by_cases h2 : i < (recsE P).length + (recE p.1 p.2).length
    · rw [gapp_l (by rw [tornL_len]; omega), tornL_at _ _ _ _ (by omega)]
      unfold tornS
      by_cases h3 : i < k
      · rw [if_pos h3, cuts_lo (by omega), torn_32 (hsz _ (getD_mem _ _ _ (by omega))), eR _ (by omega) h2]
      · rw [if_neg h3]
        by_cases h4 : i = k
        · rw [if_pos h4, h4, cuts_at hc]
          unfold secK
          rw [eR _ hk1 (by omega)]
        · rw [if_neg h4, if_pos (by rw [eL, List.length_append, List.length_append, List.length_replicate]; omega), cuts_hi (by omega) (by omega), torn_0]
    · rw [if_neg (by omega), if_neg (by omega), if_pos (by rw [eL, List.length_append, List.length_append, List.length_replicate]; omega), gapp_r (by rw [tornL_len]; omega), tornL_len, grep (by omega)]
theorem rec_torn (hno : ¬(secK (wholeL (P ++ [p]) z) k c = (wholeL (P ++ [p]) z).getD k ByteArray.empty ∧ k + 1 = (recsE (P ++ [p])).length)) (f : Nat) (hff : P.length < f) :
    recS f (tornT (wholeL (P ++ [p]) z) k (secK (wholeL (P ++ [p]) z) k c) (wholeL (P ++ [p]) z).length) 0 0 = (P, (recsE P).length) := by
  obtain ⟨hf, hv⟩ := ascR_mem _ 0 h p (by simp)
  have hm := recE_many hf hv
  have el := recE_valid hv
  have hml : (recE p.1 p.2).length = manyL (payE p.1 p.2) := by rw [el, recL_len]
  rw [whole_torn h hk1 hk2 hc]
  obtain ⟨f', rfl⟩ : ∃ f', f = P.length + (f' + 1) := ⟨f - P.length - 1, by omega⟩
  rw [recS_cat P (f' + 1) _ 0 0 _ (ascR_pre P [p] 0 h) (by rw [List.drop_zero])]
  rw [recsE_snoc, List.length_append] at hk2
  have eK : (wholeL (P ++ [p]) z).getD k ByteArray.empty = (recE p.1 p.2).getD (k - (recsE P).length) ByteArray.empty := by
    unfold wholeL
    rw [recsE_snoc, List.append_assoc, gapp_r hk1, gapp_l (by omega)]
  have hsame : sameI (recE p.1 p.2) (cutsOf (k - (recsE P).length) c) (recE p.1 p.2).length = false := by
    rw [Bool.eq_false_iff]
    intro hs
    rw [sameI_iff] at hs
    refine hno ⟨?_, ?_⟩
    · have q := hs (k - (recsE P).length) (by omega)
      unfold tornS at q
      rw [cuts_at hc] at q
      unfold secK
      rw [eK]
      exact q
    · rw [recsE_snoc, List.length_append]
      rcases Nat.lt_or_ge (k + 1) ((recsE P).length + (recE p.1 p.2).length) with hlt | hge
      · exfalso
        have q := hs (k - (recsE P).length + 1) (by omega)
        unfold tornS at q
        rw [cuts_hi (by omega) (by omega), torn_0, el, recL_at _ _ (by omega)] at q
        exact zero_sec (by omega) (part_byte (pay_byte _ _) _) (part_le _ _) q
      · omega
  have hn : parseS (recsE P ++ (tornL (recE p.1 p.2) (cutsOf (k - (recsE P).length) c) (recE p.1 p.2).length ++ List.replicate z zeroS)) (0 + (recsE P).length) = none := by
    rw [Nat.zero_add, parse_drop, List.drop_left]
    exact torn_rest hf hv _ _ hsame
  rw [recS_none hn, List.append_nil, Nat.zero_add]
end
end
theorem ex_rem {s : SS} {bs : List Nat} {x y : Operand} {t t' ty : TypeId} {ki : IntKind} {p q r : Int} (hx : s.val x = some (.v (.int ki p))) (hy : s.val y = some (.v (.int ki q))) (hq : q ≠ 0) (hr : Int.tmod p q = r) :
    ∀ (o : Oper) (ρ : Operand → Value) (W : World), o.op = .binOp .rem t x y t' → o.type = ty → (∀ x y, s.val x = some y → ρ x = den bs y) → (execOp ρ o).run Try.prog W = .ok (.value (.int ki r)) W := by
  intro o ρ W h1 h2 h3
  have e1 : ρ x = .int ki p := h3 x _ hx
  have e2 : ρ y = .int ki q := h3 y _ hy
  subst hr
  unfold execOp
  simp only [h1, e1, e2, eqGuard, binOp_rem, Op.intDiv, if_neg hq, Sem.run_bind, Sem.run_pure, Result.andThen_ok]
  rfl
theorem sl_preE (a : Option Addr) (n c m : Nat) (h : m ≤ c) (W : World) : (Instr.sliceAt 36 (.slice a n c) none (some (.int .i64 (m : Int))) none).run Try.prog W = .ok (.slice a m c) W := by
  have hu : Try.prog.underlying 36 = some (.slice (Try.prog.elem 36)) := by rw [Try.underlying36]; kernel_rfl
  rw [run_sliceAt_slice W _ _ _ _ _ hu, run_slice_any W _ _ _ _ hu]
  have hs : (Instr.sliceBounds true n c none (some (.int .i64 (m : Int))) none).run Try.prog W = .ok (0, m, c) W := by
    simp [Instr.sliceBounds, run_sliceBound, h]
  rw [hs]
  have hI : (Try.prog.info? (Try.prog.elem 36)).isSome = true := by kernel_rfl
  obtain ⟨ii, hi⟩ := Option.isSome_iff_exists.1 hI
  have ha : (if c = 0 then a else a.map (·.add (0 * ii.size))) = a := by
    rw [Nat.zero_mul]
    have e : (fun x : Addr => x.add 0) = id := by funext x; simp [Addr.add]
    rw [e, Option.map_id]
    simp
  simp [sizeOf, typeInfo, sliced, hi]
  simpa using ha
theorem made_u (n : Nat) : madeCells (Value.int .u8 0).cells n = (List.replicate n (Value.int .u8 0)).toArray := by
  have h1 : (Value.int .u8 0).cells = #[Value.int .u8 0] := rfl
  apply Array.ext'
  apply List.ext_getElem
  · simp [madeCells, h1]
  · intro i h1' h2
    simp [madeCells, h1, Nat.mod_one]
theorem mk_ru (n : Nat) (hn : n ≤ 512) (w : World) : (Instr.makeSlice 43 (.int .i64 (n : Int)) (.int .i64 (n : Int))).run Try.prog w = .ok (.slice (some ⟨w.heap.size, 0, none⟩) n n) (w.alloc (.cells (List.replicate n (Value.int .u8 0)).toArray 5 (0, 0))) := by
  have hI : (Try.prog.info? 5).map (fun i => (i.zero, i.size, i.bytes)) = some (some (.int .u8 0), 1, 1) := by kernel_rfl
  cases hi : Try.prog.info? 5 with
  | none => rw [hi] at hI; cases hI
  | some i =>
    rw [hi] at hI
    simp only [Option.map_some, Option.some.injEq, Prod.mk.injEq] at hI
    obtain ⟨h1, h2, h3⟩ := hI
    have h := run_makeSlice (P := Try.prog) w 43 5 i (.int .u8 0) Try.underlying43 hi h1 .i64 .i64 (n : Int) (n : Int) (by omega) (by omega) (by rw [h2, Int.toNat_natCast]; omega) (by rw [h3]; omega) (by omega)
    rw [h2, Int.toNat_natCast, Nat.mul_one, made_u] at h
    exact h
theorem hasB_0 {w : World} {g n : Nat} (hn : n ≤ 1000) (h : w.heap[g]? = some (.cells (List.replicate n (Value.int .u8 0)).toArray 5 (0, 0))) : HasB w (.slice (some ⟨g, 0, none⟩) n n) (List.replicate n 0) := by
  refine ⟨_, _, by rw [List.length_replicate], ⟨by rw [List.length_replicate]; omega, by rw [List.length_replicate]; exact Nat.le_refl _, by omega, fun h => by cases h⟩, Or.inr ⟨g, 0, rfl, fun j hj => ?_⟩⟩
  rw [List.length_replicate] at hj
  unfold World.cell?
  simp only [h]
  simp [hj, List.getD, List.getElem?_replicate]
theorem st_row {w : World} {B g n cap : Nat} {L : (List ByteArray)} (h : w.ownsRow B 9 1 (.slice (some ⟨g, 0, none⟩) n cap) n (L.map Value.string)) (hn : n = L.length) (k : Nat) (hk : k < n) (s : ByteArray) : (storeVar 9 ⟨g, 0 + k * 1, none⟩ (.string s)).run Try.prog w = .ok () (w.setCells g k [.string s]) ∧ (w.setCells g k [.string s]).ownsRow B 9 1 (.slice (some ⟨g, 0, none⟩) n cap) n ((L.set k s).map Value.string) := by
  rcases h.2 with ⟨q, hz⟩ | ⟨g', cap', cur, q, hb, hg, h1, h2, h3, h4⟩
  · omega
  · simp only [Value.slice.injEq, Option.some.injEq, Addr.mk.injEq] at q
    obtain ⟨⟨rfl, _, _⟩, _, rfl⟩ := q
    obtain ⟨l⟩ := cur
    simp only [List.size_toArray, Nat.mul_one] at h3 h4
    obtain ⟨hr, he⟩ := st_at (P := Try.prog) (ty := 9) (v := .string s) (off := k) (by kernel_rfl) (by kernel_rfl) (by kernel_rfl) hg (by omega)
    refine ⟨by rw [Nat.mul_one, Nat.zero_add]; exact hr, by simp [hn], Or.inr ⟨g, cap, _, rfl, hb, he, h1, h2, ?_, ?_⟩⟩
    · simp [h3]
    · simp only [Nat.mul_one]
      rw [List.map_set, ← h4, List.take_set]
noncomputable def rgC : Cfg := ⟨goZ 60 [] [.code (bodyOf Try.f24)], ⟨0, [], []⟩⟩
noncomputable def rgS (z : Er) (j : Nat) : SS := ⟨37, [(0, .v z.v), (3, .v (.int .i64 (j : Int)))], []⟩
section
variable (w0 : World) (z : Er) (hz : z.l.length = 0 ∨ z.a = some ⟨z.b, z.o, none⟩) (hl : z.l.length ≤ 100000) (hok : ∀ e ∈ z.l, e.ok)
include w0 z hz hl hok
set_option maxHeartbeats 8000000 in
theorem rg_e (m : Nat) (hv : risI z.l 0 = risI z.l (z.l.length)) (aa : Act) (w : World) (S : Sy w0 [] [] (rgS z (z.l.length)) [rfEr z.b z.o z.l, rfEl z.l] aa w) : post Try.prog (.rnd (m + 1) (bodyL rgC) :: rgC.k.tail) (bodyPost Try.prog Try.f24 fun y w' => y = .returned (.bool (risI z.l 0)) ∧ Below w0.heap.size w0 w') .normal aa w := by
  refine sy_run (c := ⟨(.rnd (m + 1) (bodyL rgC) :: rgC.k.tail), rgS z z.l.length⟩) ⟨0, [2]⟩ 50 S fun bs aa w S => ?_
  refine sy_reg S fun S => ?_
  refine sy_ops 4 S fun bs aa w S => ?_
  refine sy_cast 8 S (congrArg Value.bool (decide_eq_false (by omega) : decide ((z.l.length : Int) < (z.l.length : Int)) = false)) (by kernel_rfl) fun S => ?_
  refine sy_run ⟨0, []⟩ 60 S fun bs aa w S => ?_
  rw [hv, risI_end]
  exact sy_ret S (by kernel_rfl) (by kernel_rfl) fun hg => ⟨rfl, bel_gr hg⟩
set_option maxHeartbeats 8000000 in
theorem rg_n (m j : Nat) (hj : j < z.l.length) (hvv : validB (z.l.getD j e00).ver (z.l.getD j e00).ws = false) (hv : risI z.l 0 = risI z.l (j)) (aa : Act) (w : World) (S : Sy w0 [] [] (rgS z (j)) [rfEr z.b z.o z.l, rfEl z.l] aa w) : post Try.prog (.rnd (m + 1) (bodyL rgC) :: rgC.k.tail) (bodyPost Try.prog Try.f24 fun y w' => y = .returned (.bool (risI z.l 0)) ∧ Below w0.heap.size w0 w') .normal aa w := by
  have hst : risI z.l j = false := by rw [risI_step _ _ hj, hvv]; rfl
  refine sy_run (c := ⟨(.rnd (m + 1) (bodyL rgC) :: rgC.k.tail), rgS z j⟩) ⟨0, [2]⟩ 50 S fun bs aa w S => ?_
  refine sy_reg S fun S => ?_
  refine sy_ops 4 S fun bs aa w S => ?_
  refine sy_cast 8 S (congrArg Value.bool (decide_eq_true (by omega) : decide ((j : Int) < (z.l.length : Int)) = true)) (by kernel_rfl) fun S => ?_
  refine sy_run ⟨0, [4]⟩ 60 S fun bs aa w S => ?_
  refine sy_reg S fun S => ?_
  refine sy_ops 2 S fun bs aa w S => ?_
  refine sy_ix (b := z.b) (off := z.o) (len := z.l.length) (n := j) (size := 2) (i := (j : Int)) S (by rw [← hz.resolve_left (by omega)]; kernel_rfl) rfl hj fun aa S => ?_
  refine sy_ldo S (ld_en (S.fact (f := rfEr z.b z.o z.l) (by simp)) hj) (by kernel_rfl) fun aa S => ?_
  refine sy_call1 S (rValid_e w (z.l.getD j e00) (hok _ (getD_mem _ _ _ hj)) ((S.fact (f := rfEl z.l) (by simp)) _ (getD_mem _ _ _ hj))) (by kernel_rfl) fun aa w hb S => ?_
  refine sy_cast 15 S (congrArg Value.bool hvv) (by kernel_rfl) fun S => ?_
  refine sy_run ⟨0, []⟩ 60 S fun bs aa w S => ?_
  letI : HF := ⟨[rfEr z.b z.o z.l]⟩
  refine dr_enter [] (by kernel_rfl) (by kernel_rfl) S (by kernel_rfl) (fun aa w D => ?_) (fun f hf => by have e1 : f = rfEr z.b z.o z.l := List.mem_singleton.1 hf; subst e1; simp)
  refine dr_end D (by kernel_rfl) fun S => ?_
  refine sy_run ⟨0, []⟩ 60 S fun bs aa w S => ?_
  rw [hv, hst]
  exact sy_ret S (by kernel_rfl) (by kernel_rfl) fun hg => ⟨rfl, bel_gr hg⟩
set_option maxHeartbeats 8000000 in
theorem rg_0 (m : Nat) (hj : 0 < z.l.length) (hvv : validB (z.l.getD 0 e00).ver (z.l.getD 0 e00).ws = true) (ih : (risI z.l 0 = risI z.l (1)) → ∀ (aa : Act) (w : World) (S : Sy w0 [] [] (rgS z (1)) [rfEr z.b z.o z.l, rfEl z.l] aa w), post Try.prog (.rnd (m) (bodyL rgC) :: rgC.k.tail) (bodyPost Try.prog Try.f24 fun y w' => y = .returned (.bool (risI z.l 0)) ∧ Below w0.heap.size w0 w') .normal aa w) (hv : risI z.l 0 = risI z.l (0)) (aa : Act) (w : World) (S : Sy w0 [] [] (rgS z (0)) [rfEr z.b z.o z.l, rfEl z.l] aa w) : post Try.prog (.rnd (m + 1) (bodyL rgC) :: rgC.k.tail) (bodyPost Try.prog Try.f24 fun y w' => y = .returned (.bool (risI z.l 0)) ∧ Below w0.heap.size w0 w') .normal aa w := by
  have hst : risI z.l 0 = risI z.l 1 := by rw [risI_step _ _ hj, hvv, decide_eq_true (show prevV z.l 0 < (z.l.getD 0 e00).ver by have := valid_ver hvv; show (0 : Int) < _; omega)]; rfl
  refine sy_run (c := ⟨(.rnd (m + 1) (bodyL rgC) :: rgC.k.tail), rgS z ((0 : Nat))⟩) ⟨0, [2]⟩ 50 S fun bs aa w S => ?_
  refine sy_reg S fun S => ?_
  refine sy_ops 4 S fun bs aa w S => ?_
  refine sy_cast 8 S (congrArg Value.bool (decide_eq_true (by omega) : decide ((((0 : Nat)) : Int) < (z.l.length : Int)) = true)) (by kernel_rfl) fun S => ?_
  refine sy_run ⟨0, [4]⟩ 60 S fun bs aa w S => ?_
  refine sy_reg S fun S => ?_
  refine sy_ops 2 S fun bs aa w S => ?_
  refine sy_ix (b := z.b) (off := z.o) (len := z.l.length) (n := 0) (size := 2) (i := ((0 : Nat) : Int)) S (by rw [← hz.resolve_left (by omega)]; kernel_rfl) rfl hj fun aa S => ?_
  refine sy_ldo S (ld_en (S.fact (f := rfEr z.b z.o z.l) (by simp)) hj) (by kernel_rfl) fun aa S => ?_
  refine sy_call1 S (rValid_e w (z.l.getD 0 e00) (hok _ (getD_mem _ _ _ hj)) ((S.fact (f := rfEl z.l) (by simp)) _ (getD_mem _ _ _ hj))) (by kernel_rfl) fun aa w hb S => ?_
  refine sy_cast 15 S (congrArg Value.bool hvv) (by kernel_rfl) fun S => ?_
  refine sy_run ⟨0, []⟩ 60 S fun bs aa w S => ?_
  letI : HF := ⟨[rfEr z.b z.o z.l]⟩
  refine dr_enter [] (by kernel_rfl) (by kernel_rfl) S (by kernel_rfl) (fun aa w D => ?_) (fun f hf => by have e1 : f = rfEr z.b z.o z.l := List.mem_singleton.1 hf; subst e1; simp)
  refine dr_end D (by kernel_rfl) fun S => ?_
  refine sy_run ⟨0, [3]⟩ 60 S fun bs aa w S => ?_
  refine sy_reg S fun S => ?_
  refine sy_ops 2 S fun bs aa w S => ?_
  refine sy_cast 10 S (congrArg (Value.int .i64) (by rw [IntKind.wrap_i64]; omega : IntKind.i64.wrap (((0 : Nat) : Int) + 1) = ((1 : Nat) : Int))) (by kernel_rfl) fun S => ?_
  refine sy_run ⟨0, [999]⟩ 50 S fun bs aa w S => ?_
  have S2 := S.to [] (rgS z 1) (by kernel_rfl) (by kernel_rfl) (by kernel_rfl) (by kernel_rfl) (by kernel_rfl)
  refine sy_at2 (k' := (.rnd (m) (bodyL rgC) :: rgC.k.tail)) (by kernel_rfl) ?_
  exact ih (hv.trans hst) aa w S2
section
variable (m j : Nat) (hj : j < z.l.length) (hj0 : 0 < j) (hvv : validB (z.l.getD j e00).ver (z.l.getD j e00).ws = true)
include m j hj hj0 hvv
set_option maxHeartbeats 8000000 in
theorem rg_b (hle : (z.l.getD j e00).ver ≤ (z.l.getD (j - 1) e00).ver) (hv : risI z.l 0 = risI z.l (j)) (aa : Act) (w : World) (S : Sy w0 [] [] (rgS z (j)) [rfEr z.b z.o z.l, rfEl z.l] aa w) : post Try.prog (.rnd (m + 1) (bodyL rgC) :: rgC.k.tail) (bodyPost Try.prog Try.f24 fun y w' => y = .returned (.bool (risI z.l 0)) ∧ Below w0.heap.size w0 w') .normal aa w := by
  have ep : prevV z.l j = (z.l.getD (j - 1) e00).ver := by obtain ⟨i, rfl⟩ : ∃ i, j = i + 1 := ⟨j - 1, by omega⟩; rfl
  refine sy_run (c := ⟨(.rnd (m + 1) (bodyL rgC) :: rgC.k.tail), rgS z j⟩) ⟨0, [2]⟩ 50 S fun bs aa w S => ?_
  refine sy_reg S fun S => ?_
  refine sy_ops 4 S fun bs aa w S => ?_
  refine sy_cast 8 S (congrArg Value.bool (decide_eq_true (by omega) : decide ((j : Int) < (z.l.length : Int)) = true)) (by kernel_rfl) fun S => ?_
  refine sy_run ⟨0, [4]⟩ 60 S fun bs aa w S => ?_
  refine sy_reg S fun S => ?_
  refine sy_ops 2 S fun bs aa w S => ?_
  refine sy_ix (b := z.b) (off := z.o) (len := z.l.length) (n := j) (size := 2) (i := (j : Int)) S (by rw [← hz.resolve_left (by omega)]; kernel_rfl) rfl hj fun aa S => ?_
  refine sy_ldo S (ld_en (S.fact (f := rfEr z.b z.o z.l) (by simp)) hj) (by kernel_rfl) fun aa S => ?_
  refine sy_call1 S (rValid_e w (z.l.getD j e00) (hok _ (getD_mem _ _ _ hj)) ((S.fact (f := rfEl z.l) (by simp)) _ (getD_mem _ _ _ hj))) (by kernel_rfl) fun aa w hb S => ?_
  refine sy_cast 15 S (congrArg Value.bool hvv) (by kernel_rfl) fun S => ?_
  refine sy_run ⟨0, []⟩ 60 S fun bs aa w S => ?_
  letI : KP := ⟨[20, 30, 34]⟩
  letI : HF := ⟨[rfEr z.b z.o z.l]⟩
  refine dr_enter [] (by kernel_rfl) (by kernel_rfl) S (by kernel_rfl) (fun aa w D => ?_) (fun f hf => by have e1 : f = rfEr z.b z.o z.l := List.mem_singleton.1 hf; subst e1; simp)
  refine dr_ex2 (fun d v c a w h => by cases d <;> exact h) 4 (op := .binOp .gtr 3 (.tmp 19) (.const (.int .i64 0)) 3) (ty := 4) (v := .bool true) D (by kernel_rfl) (by kernel_rfl) (by kernel_rfl) (by kernel_rfl) (ex_gtI (ki := .i64) (p := (j : Int)) (q := 0) (by kernel_rfl) (by kernel_rfl) (decide_eq_true (by omega))) fun aa D => ?_
  refine dr_tix 8 D (by kernel_rfl) (by kernel_rfl) (by kernel_rfl) (b := z.b) (off := z.o) (len := z.l.length) (n := j) (size := 2) (ix := (j : Int)) (by rw [← hz.resolve_left (by omega)]; kernel_rfl) rfl hj fun aa D => ?_
  refine dr_tld 10 D (by kernel_rfl) (by kernel_rfl) (by kernel_rfl) (ty := 3) (ad := ⟨z.b, z.o + j * 2, none⟩) (v := .int .i64 (z.l.getD j e00).ver) (fun W hW => ld_at (by kernel_rfl) ((show ErAt W z.b z.o z.l from hW (rfEr z.b z.o z.l) (by show _ ∈ [rfEr z.b z.o z.l]; simp)) j hj).1) (by kernel_rfl) fun aa D => ?_
  refine dr_ex2 (fun d v c a w h => by cases d <;> exact h) 14 (op := .call { callee := .builtin .max, args := #[.tmp 29, .const (.int .i64 0)], argTypes := #[3, 3] }) (ty := 3) (v := .int .i64 ((j - 1 : Nat) : Int)) D (by kernel_rfl) (by kernel_rfl) (by kernel_rfl) (by kernel_rfl) (ex_max (p := IntKind.i64.wrap ((j : Int) - 1)) (q := 0) (by kernel_rfl) (by kernel_rfl) (by rw [IntKind.wrap_i64]; split <;> omega)) fun aa D => ?_
  refine dr_tix 15 D (by kernel_rfl) (by kernel_rfl) (by kernel_rfl) (b := z.b) (off := z.o) (len := z.l.length) (n := (j - 1)) (size := 2) (ix := ((j - 1 : Nat) : Int)) (by rw [← hz.resolve_left (by omega)]; kernel_rfl) rfl (by omega) fun aa D => ?_
  refine dr_tld 17 D (by kernel_rfl) (by kernel_rfl) (by kernel_rfl) (ty := 3) (ad := ⟨z.b, z.o + (j - 1) * 2, none⟩) (v := .int .i64 (z.l.getD (j - 1) e00).ver) (fun W hW => ld_at (by kernel_rfl) ((show ErAt W z.b z.o z.l from hW (rfEr z.b z.o z.l) (by show _ ∈ [rfEr z.b z.o z.l]; simp)) (j - 1) (by omega)).1) (by kernel_rfl) fun aa D => ?_
  refine dr_ex2 (fun d v c a w h => by cases d <;> exact h) 18 (op := .binOp .leq 3 (.tmp 26) (.tmp 33) 3) (ty := 4) (v := .bool true) D (by kernel_rfl) (by kernel_rfl) (by kernel_rfl) (by kernel_rfl) (ex_leI (ki := .i64) (p := (z.l.getD j e00).ver) (q := (z.l.getD (j - 1) e00).ver) (by kernel_rfl) (by kernel_rfl) (decide_eq_true hle)) fun aa D => ?_
  refine dr_end D (by kernel_rfl) fun S => ?_
  have hst : risI z.l j = false := by rw [risI_step _ _ hj, hvv, ep, decide_eq_false (show ¬_ < (z.l.getD j e00).ver by omega)]; rfl
  refine sy_run ⟨0, []⟩ 60 S fun bs aa w S => ?_
  rw [hv, hst]
  exact sy_ret S (by kernel_rfl) (by kernel_rfl) fun hg => ⟨rfl, bel_gr hg⟩
set_option maxHeartbeats 8000000 in
theorem rg_s (hle : ¬(z.l.getD j e00).ver ≤ (z.l.getD (j - 1) e00).ver) (ih : (risI z.l 0 = risI z.l (j + 1)) → ∀ (aa : Act) (w : World) (S : Sy w0 [] [] (rgS z (j + 1)) [rfEr z.b z.o z.l, rfEl z.l] aa w), post Try.prog (.rnd (m) (bodyL rgC) :: rgC.k.tail) (bodyPost Try.prog Try.f24 fun y w' => y = .returned (.bool (risI z.l 0)) ∧ Below w0.heap.size w0 w') .normal aa w) (hv : risI z.l 0 = risI z.l (j)) (aa : Act) (w : World) (S : Sy w0 [] [] (rgS z (j)) [rfEr z.b z.o z.l, rfEl z.l] aa w) : post Try.prog (.rnd (m + 1) (bodyL rgC) :: rgC.k.tail) (bodyPost Try.prog Try.f24 fun y w' => y = .returned (.bool (risI z.l 0)) ∧ Below w0.heap.size w0 w') .normal aa w := by
  have ep : prevV z.l j = (z.l.getD (j - 1) e00).ver := by obtain ⟨i, rfl⟩ : ∃ i, j = i + 1 := ⟨j - 1, by omega⟩; rfl
  refine sy_run (c := ⟨(.rnd (m + 1) (bodyL rgC) :: rgC.k.tail), rgS z j⟩) ⟨0, [2]⟩ 50 S fun bs aa w S => ?_
  refine sy_reg S fun S => ?_
  refine sy_ops 4 S fun bs aa w S => ?_
  refine sy_cast 8 S (congrArg Value.bool (decide_eq_true (by omega) : decide ((j : Int) < (z.l.length : Int)) = true)) (by kernel_rfl) fun S => ?_
  refine sy_run ⟨0, [4]⟩ 60 S fun bs aa w S => ?_
  refine sy_reg S fun S => ?_
  refine sy_ops 2 S fun bs aa w S => ?_
  refine sy_ix (b := z.b) (off := z.o) (len := z.l.length) (n := j) (size := 2) (i := (j : Int)) S (by rw [← hz.resolve_left (by omega)]; kernel_rfl) rfl hj fun aa S => ?_
  refine sy_ldo S (ld_en (S.fact (f := rfEr z.b z.o z.l) (by simp)) hj) (by kernel_rfl) fun aa S => ?_
  refine sy_call1 S (rValid_e w (z.l.getD j e00) (hok _ (getD_mem _ _ _ hj)) ((S.fact (f := rfEl z.l) (by simp)) _ (getD_mem _ _ _ hj))) (by kernel_rfl) fun aa w hb S => ?_
  refine sy_cast 15 S (congrArg Value.bool hvv) (by kernel_rfl) fun S => ?_
  refine sy_run ⟨0, []⟩ 60 S fun bs aa w S => ?_
  letI : KP := ⟨[20, 30, 34]⟩
  letI : HF := ⟨[rfEr z.b z.o z.l]⟩
  refine dr_enter [] (by kernel_rfl) (by kernel_rfl) S (by kernel_rfl) (fun aa w D => ?_) (fun f hf => by have e1 : f = rfEr z.b z.o z.l := List.mem_singleton.1 hf; subst e1; simp)
  refine dr_ex2 (fun d v c a w h => by cases d <;> exact h) 4 (op := .binOp .gtr 3 (.tmp 19) (.const (.int .i64 0)) 3) (ty := 4) (v := .bool true) D (by kernel_rfl) (by kernel_rfl) (by kernel_rfl) (by kernel_rfl) (ex_gtI (ki := .i64) (p := (j : Int)) (q := 0) (by kernel_rfl) (by kernel_rfl) (decide_eq_true (by omega))) fun aa D => ?_
  refine dr_tix 8 D (by kernel_rfl) (by kernel_rfl) (by kernel_rfl) (b := z.b) (off := z.o) (len := z.l.length) (n := j) (size := 2) (ix := (j : Int)) (by rw [← hz.resolve_left (by omega)]; kernel_rfl) rfl hj fun aa D => ?_
  refine dr_tld 10 D (by kernel_rfl) (by kernel_rfl) (by kernel_rfl) (ty := 3) (ad := ⟨z.b, z.o + j * 2, none⟩) (v := .int .i64 (z.l.getD j e00).ver) (fun W hW => ld_at (by kernel_rfl) ((show ErAt W z.b z.o z.l from hW (rfEr z.b z.o z.l) (by show _ ∈ [rfEr z.b z.o z.l]; simp)) j hj).1) (by kernel_rfl) fun aa D => ?_
  refine dr_ex2 (fun d v c a w h => by cases d <;> exact h) 14 (op := .call { callee := .builtin .max, args := #[.tmp 29, .const (.int .i64 0)], argTypes := #[3, 3] }) (ty := 3) (v := .int .i64 ((j - 1 : Nat) : Int)) D (by kernel_rfl) (by kernel_rfl) (by kernel_rfl) (by kernel_rfl) (ex_max (p := IntKind.i64.wrap ((j : Int) - 1)) (q := 0) (by kernel_rfl) (by kernel_rfl) (by rw [IntKind.wrap_i64]; split <;> omega)) fun aa D => ?_
  refine dr_tix 15 D (by kernel_rfl) (by kernel_rfl) (by kernel_rfl) (b := z.b) (off := z.o) (len := z.l.length) (n := (j - 1)) (size := 2) (ix := ((j - 1 : Nat) : Int)) (by rw [← hz.resolve_left (by omega)]; kernel_rfl) rfl (by omega) fun aa D => ?_
  refine dr_tld 17 D (by kernel_rfl) (by kernel_rfl) (by kernel_rfl) (ty := 3) (ad := ⟨z.b, z.o + (j - 1) * 2, none⟩) (v := .int .i64 (z.l.getD (j - 1) e00).ver) (fun W hW => ld_at (by kernel_rfl) ((show ErAt W z.b z.o z.l from hW (rfEr z.b z.o z.l) (by show _ ∈ [rfEr z.b z.o z.l]; simp)) (j - 1) (by omega)).1) (by kernel_rfl) fun aa D => ?_
  refine dr_ex2 (fun d v c a w h => by cases d <;> exact h) 18 (op := .binOp .leq 3 (.tmp 26) (.tmp 33) 3) (ty := 4) (v := .bool false) D (by kernel_rfl) (by kernel_rfl) (by kernel_rfl) (by kernel_rfl) (ex_leI (ki := .i64) (p := (z.l.getD j e00).ver) (q := (z.l.getD (j - 1) e00).ver) (by kernel_rfl) (by kernel_rfl) (decide_eq_false hle)) fun aa D => ?_
  refine dr_end D (by kernel_rfl) fun S => ?_
  have hst : risI z.l j = risI z.l (j + 1) := by rw [risI_step _ _ hj, hvv, ep, decide_eq_true (show _ < (z.l.getD j e00).ver by omega)]; rfl
  refine sy_run ⟨0, [3]⟩ 60 S fun bs aa w S => ?_
  refine sy_reg S fun S => ?_
  refine sy_ops 2 S fun bs aa w S => ?_
  refine sy_cast 10 S (congrArg (Value.int .i64) (by rw [IntKind.wrap_i64]; omega : IntKind.i64.wrap ((j : Int) + 1) = ((j + 1 : Nat) : Int))) (by kernel_rfl) fun S => ?_
  refine sy_run ⟨0, [999]⟩ 50 S fun bs aa w S => ?_
  have S2 := S.to [] (rgS z (j + 1)) (by kernel_rfl) (by kernel_rfl) (by kernel_rfl) (by kernel_rfl) (by kernel_rfl)
  refine sy_at2 (k' := (.rnd (m) (bodyL rgC) :: rgC.k.tail)) (by kernel_rfl) ?_
  exact ih (hv.trans hst) aa w S2
end
theorem rg_a : ∀ (r j : Nat), j + r = z.l.length → (risI z.l 0 = risI z.l (j)) → ∀ (aa : Act) (w : World) (S : Sy w0 [] [] (rgS z (j)) [rfEr z.b z.o z.l, rfEl z.l] aa w), post Try.prog (.rnd (r + 1) (bodyL rgC) :: rgC.k.tail) (bodyPost Try.prog Try.f24 fun y w' => y = .returned (.bool (risI z.l 0)) ∧ Below w0.heap.size w0 w') .normal aa w := by
  intro r
  induction r with
  | zero => intro j hj hv aa w S; obtain rfl : j = z.l.length := by omega
            exact rg_e w0 z hz hl hok 0 hv aa w S
  | succ r ih =>
    intro j hj hv aa w S
    rcases Bool.eq_false_or_eq_true (validB (z.l.getD j e00).ver (z.l.getD j e00).ws) with hvv | hvv
    · rcases Nat.eq_zero_or_pos j with rfl | hj0
      · exact rg_0 w0 z hz hl hok (r + 1) (by omega) hvv (fun h => ih 1 (by omega) h) hv aa w S
      · by_cases hle : (z.l.getD j e00).ver ≤ (z.l.getD (j - 1) e00).ver
        · exact rg_b w0 z hz hl hok (r + 1) j (by omega) hj0 hvv hle hv aa w S
        · exact rg_s w0 z hz hl hok (r + 1) j (by omega) hj0 hvv hle (fun h => ih (j + 1) (by omega) h) hv aa w S
    · exact rg_n w0 z hz hl hok (r + 1) j (by omega) hvv hv aa w S
set_option maxHeartbeats 8000000 in
theorem rising_t (hA : ErAt w0 z.b z.o z.l) (hC : ∀ e ∈ z.l, WrAt w0 e.b e.o e.ws) : Calls Try.prog 24 #[z.v] w0 fun y w' => y = .returned (.bool (risI z.l 0)) ∧ Below w0.heap.size w0 w' := by
  refine sy_enterF [] [rfEr z.b z.o z.l, rfEl z.l] (by intro f hf; simp only [List.mem_cons, List.not_mem_nil, or_false] at hf; rcases hf with rfl | rfl; exact hA; exact hC) Try.func24 rfl rfl fun aa S => ?_
  refine sy_run ⟨0, []⟩ 60 S fun bs aa w S => ?_
  have S2 := S.to [] (rgS z 0) (by kernel_rfl) (by kernel_rfl) (by kernel_rfl) (by kernel_rfl) (by kernel_rfl)
  refine sy_loop (z.l.length + 1) (by kernel_rfl) ?_
  refine sy_at2 (k' := (.rnd (z.l.length + 1) (bodyL rgC) :: rgC.k.tail)) (by kernel_rfl) ?_
  exact rg_a w0 z hz hl hok z.l.length 0 (by omega) rfl aa w S2
end
end Go.Proofs.Ytaclhiagfgmgkaa

namespace Go.Proofs.Ytaclhiagfgmgkaa
open Go Go.RowKit SZ
set_option linter.unusedVariables false
set_option linter.unusedSectionVars false
set_option linter.unusedSimpArgs false
set_option maxRecDepth 100000
attribute [local irreducible] post GD Nxt NxtAll
noncomputable def ww1C : Cfg := ⟨goZ 400 [0] [.code (bodyOf Try.f8)], ⟨0, [], []⟩⟩
noncomputable def ww2C : Cfg := ⟨goZ 400 [0, 9] [.code (bodyOf Try.f8)], ⟨0, [], []⟩⟩
noncomputable def ww3C : Cfg := ⟨goZ 400 [0, 9, 9, 0, 0] [.code (bodyOf Try.f8)], ⟨0, [], []⟩⟩
noncomputable def ww4C : Cfg := ⟨goZ 400 [0, 9, 9, 0, 0, 9] [.code (bodyOf Try.f8)], ⟨0, [], []⟩⟩
noncomputable def ww1S (z : Er) (s c n : Nat) (A : Sr) (ends i : Nat) : SS := ⟨194, [(0, .v z.v), (1, .v (.int .u8 (s : Int))), (2, .v (.int .u8 (c : Int))), (3, .v (.int .u8 (n : Int))), (9, .v (.bool true)), (10, .v A.v), (11, .v (.int .i64 (ends : Int))), (12, .v (.int .i64 (i : Int)))], []⟩
noncomputable def ww2S (z : Er) (s c n : Nat) (A : Sr) (ends : Nat) (E0 : ByteArray) (W : Sr) (i : Nat) : SS := ⟨194, [(0, .v z.v), (1, .v (.int .u8 (s : Int))), (2, .v (.int .u8 (c : Int))), (3, .v (.int .u8 (n : Int))), (9, .v (.bool true)), (10, .v A.v), (11, .v (.int .i64 (ends : Int))), (13, .v (.string E0)), (14, .v W.v), (15, .v (.int .i64 (i : Int)))], []⟩
noncomputable def ww3S (z : Er) (A : Sr) (ends : Nat) (E0 : ByteArray) (W : Sr) (k g cap i : Nat) : SS := ⟨194, [(0, .v z.v), (9, .v (.bool true)), (10, .v A.v), (11, .v (.int .i64 (ends : Int))), (13, .v (.string E0)), (14, .v W.v), (18, .v (.int .i64 (k : Int))), (19, .v (.slice (some ⟨g, 0, none⟩) 32 cap)), (20, .v (.int .i64 (i : Int)))], []⟩
noncomputable def ww4S (z : Er) (A : Sr) (ends : Nat) (E0 : ByteArray) (k gt ct : Nat) (TL : (List ByteArray)) (i : Nat) : SS := ⟨194, [(0, .v z.v), (9, .v (.bool true)), (10, .v A.v), (11, .v (.int .i64 (ends : Int))), (13, .v (.string E0)), (18, .v (.int .i64 (k : Int))), (21, .v (.slice (some ⟨gt, 0, none⟩) TL.length ct)), (22, .v (.int .i64 (i : Int)))], []⟩
def rE (z : Er) (i : Nat) : (List ByteArray) := recsE ((z.l.take i).map prE)
theorem rE_succ (z : Er) (i : Nat) (h : i < z.l.length) : rE z (i + 1) = rE z i ++ recE (z.l.getD i e00).ver (z.l.getD i e00).ws := by
  have e : z.l.getD i e00 = z.l[i] := by simp [List.getD, List.getElem?_eq_getElem h]
  unfold rE
  rw [List.take_succ_eq_append_getElem h, List.map_append, e]
  show recsE (_ ++ [prE z.l[i]]) = _
  rw [recsE_snoc]
  rfl
theorem rE_all (z : Er) : rE z z.l.length = recsE (z.l.map prE) := by unfold rE; rw [List.take_length]
theorem recE_25 {v : Int} {ws : Ws} (hf : fitE v ws) : (recE v ws).length ≤ 25 := rec_len25 (e := ⟨v, none, 0, 0, 0, ws⟩) hf
theorem rE_len (z : Er) (hf : ∀ e ∈ z.l, fitE e.ver e.ws) : ∀ i, i ≤ z.l.length → (rE z i).length ≤ 25 * i
  | 0, _ => by simp [rE, recsE]
  | i + 1, h => by
    have := rE_len z hf i (by omega)
    rw [rE_succ z i (by omega), List.length_append]
    have := recE_25 (hf _ (getD_mem z.l i e00 (by omega)))
    omega
theorem recsE_ge : ∀ (P : List (Int × Ws)) (last : Int), ascR last P → P.length ≤ (recsE P).length
  | [], _, _ => Nat.zero_le _
  | (v, ws) :: r, last, h => by
    have ih := recsE_ge r v h.2.2.2
    have hm := recE_many (ver := v) (ws := ws) h.2.1 h.2.2.1
    have el := recE_valid (ver := v) (ws := ws) h.2.2.1
    have e1 : recsE ((v, ws) :: r) = recE v ws ++ recsE r := by simp [recsE]
    rw [e1, List.length_append, el, recL_len, List.length_cons]
    omega
theorem own_row {w : World} {B0 n : Nat} {v : Value} {xs : List Value} (h : w.ownsRow B0 9 1 v n xs) (hn : n ≠ 0) : ∃ g c, v = .slice (some ⟨g, 0, none⟩) n c ∧ B0 ≤ g ∧ n ≤ c := by
  rcases h.2 with ⟨q, hz⟩ | ⟨g, cap, cur, q, hb, hg, h1, _⟩
  · omega
  · exact ⟨g, cap, q, hb, h1⟩
theorem tm_n (a b : Nat) : Int.tmod (a : Int) (b : Int) = ((a % b : Nat) : Int) := rfl
theorem er_take {w : World} {b o : Nat} {es : List Et} (m : Nat) (h : ErAt w b o es) : ErAt w b o (es.take m) := fun j hj => by
  rw [List.length_take] at hj
  have e : (es.take m).getD j e00 = es.getD j e00 := by simp [List.getD, List.getElem?_take, show j < m by omega]
  rw [e]
  exact h j (by omega)
section
variable (w0 : World) (z : Er) (hz : z.l.length = 0 ∨ z.a = some ⟨z.b, z.o, none⟩) (hz5 : z.l.length ≤ 5) (hz1 : 1 ≤ z.l.length) (hzc : z.l.length ≤ z.c) (hok : ∀ e ∈ z.l, e.ok ∧ fitE e.ver e.ws) (hasc : ascR 0 (z.l.map prE)) (s c n : Nat) (hs : s < 256) (hcc : c < 256) (hn : n < 256)
include w0 z hz hz5 hz1 hzc hok hasc s c n hs hcc hn
set_option maxHeartbeats 8000000 in
theorem ww1_s (m i : Nat) (hi : i < z.l.length) (A : Sr) (ends : Nat) (hA : A.l = rE z (i)) (hAo : A.ok) (hAc : A.l.length ≤ A.c) (hAb : A.l.length = 0 ∨ w0.heap.size ≤ A.b) (hap : (∀ f ∈ [rfEr z.b z.o z.l, rfEl z.l], ∀ g, Value.ownBlock A.v = some g → ¬f.bl g)) (hen : (i) ≠ 0 → ends = (rE z ((i) - 1)).length) (ih : ∀ (A' : Sr) (ends' : Nat) (hA : A'.l = rE z (i + 1)) (hAo : A'.ok) (hAc : A'.l.length ≤ A'.c) (hAb : A'.l.length = 0 ∨ w0.heap.size ≤ A'.b) (hap : (∀ f ∈ [rfEr z.b z.o z.l, rfEl z.l], ∀ g, Value.ownBlock A'.v = some g → ¬f.bl g)) (hen : (i + 1) ≠ 0 → ends' = (rE z ((i + 1) - 1)).length) (aa : Act) (w : World) (S : Sy w0 [] [] (ww1S z s c n A' ends' (i + 1)) [rfEr z.b z.o z.l, rfEl z.l, rfOwn w0.heap.size 9 1 A'.v A'.l.length (A'.l.map Value.string)] aa w), post Try.prog (.rnd (m) (bodyL ww1C) :: ww1C.k.tail) (bodyPost Try.prog Try.f8 fun y w' => y = .returned (.bool true) ∧ Below w0.heap.size w0 w') .normal aa w) (aa : Act) (w : World) (S : Sy w0 [] [] (ww1S z s c n A ends (i)) [rfEr z.b z.o z.l, rfEl z.l, rfOwn w0.heap.size 9 1 A.v A.l.length (A.l.map Value.string)] aa w) : post Try.prog (.rnd (m + 1) (bodyL ww1C) :: ww1C.k.tail) (bodyPost Try.prog Try.f8 fun y w' => y = .returned (.bool true) ∧ Below w0.heap.size w0 w') .normal aa w := by
  have hme := getD_mem z.l i e00 hi
  obtain ⟨heok, hef⟩ := hok _ hme
  have hev : validB (z.l.getD i e00).ver (z.l.getD i e00).ws = true := (ascR_mem _ 0 hasc (prE (z.l.getD i e00)) (List.mem_map_of_mem hme)).2
  have hm := recE_many hef hev
  have h32 := valid_len hev
  have hlen := rE_len z (fun e he => (hok e he).2) i (by omega)
  rw [← hA] at hlen
  refine sy_run (c := ⟨(.rnd (m + 1) (bodyL ww1C) :: ww1C.k.tail), ww1S z s c n A ends i⟩) ⟨0, [7]⟩ 50 S fun bs aa w S => ?_
  refine sy_reg S fun S => ?_
  refine sy_ops 4 S fun bs aa w S => ?_
  refine sy_cast 43 S (congrArg Value.bool (decide_eq_true (by omega) : decide ((i : Int) < (z.l.length : Int)) = true)) (by kernel_rfl) fun S => ?_
  refine sy_run ⟨0, [9]⟩ 60 S fun bs aa w S => ?_
  refine sy_reg S fun S => ?_
  refine sy_ops 2 S fun bs aa w S => ?_
  refine sy_ix (b := z.b) (off := z.o) (len := z.l.length) (n := i) (size := 2) (i := (i : Int)) S (by rw [← hz.resolve_left (by omega)]; kernel_rfl) rfl hi fun aa S => ?_
  refine sy_ldo S (ld_en (S.fact (f := rfEr z.b z.o z.l) (by simp)) hi) (by kernel_rfl) fun aa S => ?_
  refine sy_call1 S (short_w w (z.l.getD i e00)) (by kernel_rfl) fun aa w hb S => ?_
  refine sy_cast 50 S (congrArg Value.bool (decide_eq_true (by omega) : decide ((z.l.getD i e00).ws.length ≤ 40) = true)) (by kernel_rfl) fun S => ?_
  refine sy_run ⟨0, [12]⟩ 60 S fun bs aa w S => ?_
  refine sy_reg S fun S => ?_
  refine sy_ops 3 S fun bs aa w S => ?_
  refine sy_ix (b := z.b) (off := z.o) (len := z.l.length) (n := i) (size := 2) (i := (i : Int)) S (by rw [← hz.resolve_left (by omega)]; kernel_rfl) rfl hi fun aa S => ?_
  refine sy_ldo S (ld_en (S.fact (f := rfEr z.b z.o z.l) (by simp)) hi) (by kernel_rfl) fun aa S => ?_
  refine sy_nm S fun bs S => ?_
  have hbl : ∀ j, j < bs.length → bs.getD j 0 < w.heap.size := fun j hj => S.lt hj
  have how0 := S.fact (f := rfOwn w0.heap.size 9 1 A.v A.l.length (A.l.map Value.string)) (by simp)
  refine sy_call S (X := Sr) (val := Sr.v) (C := fun q w' => q.l = recE (z.l.getD i e00).ver (z.l.getD i e00).ws ∧ q.ok ∧ q.at w' ∧ q.l.length ≤ q.c ∧ (q.l.length = 0 ∨ w.heap.size ≤ q.b)) (record_s w (z.l.getD i e00) heok hef ((S.fact (f := rfEl z.l) (by simp)) _ hme)) (by kernel_rfl) fun r aa w1 hC hb S => ?_
  obtain ⟨hrl, hr, har, hcr, hrf⟩ := hC
  have hr1 : r.l.length ≠ 0 := by rw [hrl, recE_valid hev, recL_len]; omega
  have hr25 : r.l.length ≤ 25 := by rw [hrl]; exact recE_25 hef
  have S := S.add (rfSt r.b r.o r.l) har (fun j hj hb => by
    obtain ⟨q1, q2⟩ := hb
    have := hbl j hj
    have := hrf.resolve_left q2
    omega)
  have hapr : (∀ f ∈ [rfSt r.b r.o r.l, rfEr z.b z.o z.l, rfEl z.l], ∀ g, Value.ownBlock A.v = some g → ¬f.bl g) := by
    intro f hf g hg hb
    rcases List.mem_cons.1 hf with rfl | hf
    · have q1 := (how0.lt g hg).2
      have q2 := hrf.resolve_left hb.2
      have q3 := hb.1
      omega
    · exact hap f hf g hg hb
  refine sy_nm S fun bs S => ?_
  have how := S.fact (f := rfOwn w0.heap.size 9 1 A.v A.l.length (A.l.map Value.string)) (by simp)
  have hapb := (S.fs (rfOwn w0.heap.size 9 1 A.v A.l.length (A.l.map Value.string)) (by simp)).2
  have hblk : ∀ j, j < bs.length → bs.getD j 0 < w1.heap.size := fun j hj => S.lt hj
  have hFP : ∀ f ∈ [rfSt r.b r.o r.l, rfEr z.b z.o z.l, rfEl z.l], f.P w1 := fun f hf => (S.fs f (by simp only [List.mem_cons, List.not_mem_nil, or_false] at hf ⊢; rcases hf with rfl | rfl | rfl <;> simp)).1
  refine sy_exG A.v [rfSt r.b r.o r.l, rfEr z.b z.o z.l, rfEl z.l] S (op := .call { callee := .builtin .append, args := #[.tmp 55, .tmp 60], argTypes := #[28, 28] }) (ty := 28) (by kernel_rfl) (ex_apR (v := A.v) (z := r) (L := A.l) (n := A.l.length) (by kernel_rfl) (by kernel_rfl) how hr (S.fact (f := rfSt r.b r.o r.l) (by simp)) hcr (fun h => by rw [hr.resolve_left hr1] at h; cases h) (by omega) S.gr.size) (fun g hg => Or.inr (how.lt g hg).1) (fun f hf => ⟨by simp only [List.mem_cons, List.not_mem_nil, or_false] at hf ⊢; rcases hf with rfl | rfl | rfl <;> simp, hapr f hf⟩) (fun j hj h => hapb j hj h) fun v' aa w2 hC S => ?_
  have hap2 := ap_next hFP hapr hC.2.1
  have how2 : w2.ownsRow w0.heap.size 9 1 v' (A.l ++ r.l).length ((A.l ++ r.l).map Value.string) := by rw [List.length_append]; exact hC.1
  obtain ⟨A', hA1, rfl, hA2, hA3, hA4, hA5⟩ := sr_of_owns how2
  rw [← hA1] at how2
  have S := S.add (rfOwn w0.heap.size 9 1 A'.v A'.l.length (A'.l.map Value.string)) how2 (fun j hj hb => (hC.2.1 _ hb).elim (fun q => hapb j hj q) (fun q => by have := hblk j hj; omega))
  refine sy_run ⟨0, [8]⟩ 60 S fun bs aa w S => ?_
  refine sy_reg S fun S => ?_
  refine sy_ops 2 S fun bs aa w S => ?_
  refine sy_cast 45 S (congrArg (Value.int .i64) (by rw [IntKind.wrap_i64]; omega : IntKind.i64.wrap ((i : Int) + 1) = ((i + 1 : Nat) : Int))) (by kernel_rfl) fun S => ?_
  refine sy_run ⟨0, [999]⟩ 50 S fun bs aa w S => ?_
  have S := S.sub (F' := [rfEr z.b z.o z.l, rfEl z.l, rfOwn w0.heap.size 9 1 A'.v A'.l.length (A'.l.map Value.string)]) (by intro f hf; simp only [List.mem_cons, List.not_mem_nil, or_false] at hf; rcases hf with rfl | rfl | rfl <;> simp)
  have S2 := S.to [] (ww1S z s c n A' A.l.length (i + 1)) (by kernel_rfl) (by kernel_rfl) (by kernel_rfl) (by kernel_rfl) (by kernel_rfl)
  refine sy_at2 (k' := (.rnd (m) (bodyL ww1C) :: ww1C.k.tail)) (by kernel_rfl) ?_
  exact ih A' A.l.length (by rw [hA1, hA, rE_succ z i hi, hrl]) hA2 hA4 (by rw [hA1]; exact hA5) (fun f hf => hap2 f (List.mem_cons_of_mem _ hf)) (fun _ => by rw [hA]; rfl) aa w S2
section
variable (A : Sr) (ends : Nat) (hA : A.l = recsE (z.l.map prE)) (hAo : A.ok) (hAc : A.l.length ≤ A.c) (hAb : A.l.length = 0 ∨ w0.heap.size ≤ A.b) (hen : ends = (rE z (z.l.length - 1)).length) (hen2 : ends < A.l.length) (hA125 : A.l.length ≤ 125) (E0 : ByteArray) (hE : E0 = zeroS)
include A ends hA hAo hAc hAb hen hen2 hA125 E0 hE
set_option maxHeartbeats 8000000 in
theorem ww2_s (m i : Nat) (hi : i < n % 9) (W : Sr) (hW : W.l = A.l ++ List.replicate (i) E0) (hWo : W.ok) (hWc : W.l.length ≤ W.c) (hWb : W.l.length = 0 ∨ w0.heap.size ≤ W.b) (hap : (∀ f ∈ [rfEr z.b z.o z.l, rfEl z.l, rfOwn w0.heap.size 9 1 A.v A.l.length (A.l.map Value.string)], ∀ g, Value.ownBlock W.v = some g → ¬f.bl g)) (ih : ∀ (W' : Sr) (hW : W'.l = A.l ++ List.replicate (i + 1) E0) (hWo : W'.ok) (hWc : W'.l.length ≤ W'.c) (hWb : W'.l.length = 0 ∨ w0.heap.size ≤ W'.b) (hap : (∀ f ∈ [rfEr z.b z.o z.l, rfEl z.l, rfOwn w0.heap.size 9 1 A.v A.l.length (A.l.map Value.string)], ∀ g, Value.ownBlock W'.v = some g → ¬f.bl g)) (aa : Act) (w : World) (S : Sy w0 [] [] (ww2S z s c n A ends E0 W' (i + 1)) [rfEr z.b z.o z.l, rfEl z.l, rfOwn w0.heap.size 9 1 A.v A.l.length (A.l.map Value.string), rfOwn w0.heap.size 9 1 W'.v W'.l.length (W'.l.map Value.string)] aa w), post Try.prog (.rnd (m) (bodyL ww2C) :: ww2C.k.tail) (bodyPost Try.prog Try.f8 fun y w' => y = .returned (.bool true) ∧ Below w0.heap.size w0 w') .normal aa w) (aa : Act) (w : World) (S : Sy w0 [] [] (ww2S z s c n A ends E0 W (i)) [rfEr z.b z.o z.l, rfEl z.l, rfOwn w0.heap.size 9 1 A.v A.l.length (A.l.map Value.string), rfOwn w0.heap.size 9 1 W.v W.l.length (W.l.map Value.string)] aa w) : post Try.prog (.rnd (m + 1) (bodyL ww2C) :: ww2C.k.tail) (bodyPost Try.prog Try.f8 fun y w' => y = .returned (.bool true) ∧ Below w0.heap.size w0 w') .normal aa w := by
  obtain ⟨ii, hi1, hi2, hi3, hi4⟩ := parts3 infS3
  have hWl : W.l.length = A.l.length + i := by rw [hW, List.length_append, List.length_replicate]
  refine sy_run (c := ⟨(.rnd (m + 1) (bodyL ww2C) :: ww2C.k.tail), ww2S z s c n A ends E0 W i⟩) ⟨0, [16]⟩ 50 S fun bs aa w S => ?_
  refine sy_reg S fun S => ?_
  refine sy_ops 4 S fun bs aa w S => ?_
  refine sy_cast 70 S (congrArg (Value.int .i64) (by rw [show Int.tmod (n : Int) 9 = ((n % 9 : Nat) : Int) from rfl, IntKind.wrap_i64]; omega : IntKind.i64.wrap (Int.tmod (n : Int) 9) = ((n % 9 : Nat) : Int))) (by kernel_rfl) fun S => ?_
  refine sy_ops 1 S fun bs aa w S => ?_
  refine sy_cast 71 S (congrArg Value.bool (decide_eq_true (by omega) : decide ((i : Int) < ((n % 9 : Nat) : Int)) = true)) (by kernel_rfl) fun S => ?_
  refine sy_run ⟨0, [18]⟩ 60 S fun bs aa w S => ?_
  refine sy_reg S fun S => ?_
  refine sy_ops 3 S fun bs aa w S => ?_
  refine sy_nm S fun bs S => ?_
  have how := S.fact (f := rfOwn w0.heap.size 9 1 W.v W.l.length (W.l.map Value.string)) (by simp)
  have hapb := (S.fs (rfOwn w0.heap.size 9 1 W.v W.l.length (W.l.map Value.string)) (by simp)).2
  have hblk : ∀ j, j < bs.length → bs.getD j 0 < w.heap.size := fun j hj => S.lt hj
  have hFP : ∀ f ∈ [rfEr z.b z.o z.l, rfEl z.l, rfOwn w0.heap.size 9 1 A.v A.l.length (A.l.map Value.string)], f.P w := fun f hf => (S.fs f (by simp only [List.mem_cons, List.not_mem_nil, or_false] at hf ⊢; rcases hf with rfl | rfl | rfl <;> simp)).1
  refine sy_appO w0.heap.size (u := .v W.v) (y := .s 0 0 1 1) (v := W.v) (ad := adr bs 0 0) (m := 1) (cp := 1) (n := W.l.length) (size := 1) (bytes := 16) (e := 9) (t := 28) (xs := W.l.map Value.string) (news := [.string E0]) [rfEr z.b z.o z.l, rfEl z.l, rfOwn w0.heap.size 9 1 A.v A.l.length (A.l.map Value.string)] S (by kernel_rfl) Try.underlying28 hi1 hi2 hi3 hi4 rfl (by omega) rfl rfl how S.gr.size (own3 (P := Try.prog) (ty := 9) (cs := [.string E0]) S 0 (by kernel_rfl)) rfl (by intro u hu; simp only [List.mem_singleton] at hu; subst hu; rfl) (by simp only [maxLen]; omega) (by omega)
    (fun g hg => Or.inr (how.lt g hg).1) (fun f hf => ⟨by simp only [List.mem_cons, List.not_mem_nil, or_false] at hf ⊢; rcases hf with rfl | rfl | rfl <;> simp, hap f hf⟩) (fun j hj hb => hapb j hj hb)
    fun v' aa w2 hO hg' hnn S => ?_
  have hap2 := ap_next hFP hap hnn
  have how2 : w2.ownsRow w0.heap.size 9 1 v' (W.l ++ [E0]).length ((W.l ++ [E0]).map Value.string) := by rw [List.length_append, List.map_append]; exact hO
  obtain ⟨W', hW1, rfl, hW2, hW3, hW4, hW5⟩ := sr_of_owns how2
  rw [← hW1] at how2
  have S := S.add (rfOwn w0.heap.size 9 1 W'.v W'.l.length (W'.l.map Value.string)) how2 (fun j hj hb => (hnn _ hb).elim (fun q => hapb j hj q) (fun q => by have := hblk j hj; omega))
  refine sy_run ⟨0, [17]⟩ 60 S fun bs aa w S => ?_
  refine sy_reg S fun S => ?_
  refine sy_ops 2 S fun bs aa w S => ?_
  refine sy_cast 73 S (congrArg (Value.int .i64) (by rw [IntKind.wrap_i64]; omega : IntKind.i64.wrap ((i : Int) + 1) = ((i + 1 : Nat) : Int))) (by kernel_rfl) fun S => ?_
  refine sy_run ⟨0, [999]⟩ 50 S fun bs aa w S => ?_
  have S := S.sub (F' := [rfEr z.b z.o z.l, rfEl z.l, rfOwn w0.heap.size 9 1 A.v A.l.length (A.l.map Value.string), rfOwn w0.heap.size 9 1 W'.v W'.l.length (W'.l.map Value.string)]) (by intro f hf; simp only [List.mem_cons, List.not_mem_nil, or_false] at hf; rcases hf with rfl | rfl | rfl | rfl <;> simp)
  have S2 := S.to [] (ww2S z s c n A ends E0 W' (i + 1)) (by kernel_rfl) (by kernel_rfl) (by kernel_rfl) (by kernel_rfl) (by kernel_rfl)
  refine sy_at2 (k' := (.rnd (m) (bodyL ww2C) :: ww2C.k.tail)) (by kernel_rfl) ?_
  exact ih W' (by rw [hW1, hW, List.append_assoc, List.replicate_succ']) hW2 hW4 (by rw [hW1]; exact hW5) hap2 aa w S2
section
variable (W : Sr) (hW : W.l = wholeL (z.l.map prE) (n % 9)) (hWo : W.ok) (hWc : W.l.length ≤ W.c) (hWb : W.l.length = 0 ∨ w0.heap.size ≤ W.b) (hW133 : W.l.length ≤ 133) (hWA : A.l.length ≤ W.l.length) (k : Nat) (hk1 : ends ≤ k) (hk2 : k < A.l.length)
include W hW hWo hWc hWb hW133 hWA k hk1 hk2
set_option maxHeartbeats 8000000 in
theorem ww3_s (g cap : Nat) (Z : List Value) (hcap : 32 ≤ cap ∧ cap ≤ 9223372036854775807) (hZ : Z.length = cap - 32) (hgb : w0.heap.size ≤ g) (hgap : ∀ f ∈ [rfEr z.b z.o z.l, rfEl z.l, rfOwn w0.heap.size 9 1 A.v A.l.length (A.l.map Value.string), rfOwn w0.heap.size 9 1 W.v W.l.length (W.l.map Value.string)], ¬f.bl g) (hs32 : (bytesOf (A.l.getD k ByteArray.empty)).length = 32) (m j : Nat) (hj : j < 32) (hcj : c % 32 ≤ j) (ih : ∀ (aa : Act) (w : World) (S : Sy w0 [] [] (ww3S z A ends E0 W k g cap (j + 1)) [rfFz g cap (fzC (bytesOf (A.l.getD k ByteArray.empty)) (c % 32) (j + 1) Z), rfEr z.b z.o z.l, rfEl z.l, rfOwn w0.heap.size 9 1 A.v A.l.length (A.l.map Value.string), rfOwn w0.heap.size 9 1 W.v W.l.length (W.l.map Value.string)] aa w), post Try.prog (.rnd (m) (bodyL ww3C) :: ww3C.k.tail) (bodyPost Try.prog Try.f8 fun y w' => y = .returned (.bool true) ∧ Below w0.heap.size w0 w') .normal aa w) (aa : Act) (w : World) (S : Sy w0 [] [] (ww3S z A ends E0 W k g cap (j)) [rfFz g cap (fzC (bytesOf (A.l.getD k ByteArray.empty)) (c % 32) (j) Z), rfEr z.b z.o z.l, rfEl z.l, rfOwn w0.heap.size 9 1 A.v A.l.length (A.l.map Value.string), rfOwn w0.heap.size 9 1 W.v W.l.length (W.l.map Value.string)] aa w) : post Try.prog (.rnd (m + 1) (bodyL ww3C) :: ww3C.k.tail) (bodyPost Try.prog Try.f8 fun y w' => y = .returned (.bool true) ∧ Below w0.heap.size w0 w') .normal aa w := by
  refine sy_run (c := ⟨(.rnd (m + 1) (bodyL ww3C) :: ww3C.k.tail), ww3S z A ends E0 W k g cap j⟩) ⟨0, [27]⟩ 50 S fun bs aa w S => ?_
  refine sy_reg S fun S => ?_
  refine sy_ops 2 S fun bs aa w S => ?_
  refine sy_cast 120 S (congrArg Value.bool (decide_eq_true (by omega) : decide (((j : Nat) : Int) < (32 : Int)) = true)) (by kernel_rfl) fun S => ?_
  refine sy_run ⟨0, [29]⟩ 60 S fun bs aa w S => ?_
  refine sy_reg S fun S => ?_
  refine sy_ops 2 S fun bs aa w S => ?_
  refine sy_ix (b := g) (off := 0) (len := 32) (n := j) (size := 1) (i := (j : Int)) S (by kernel_rfl) rfl hj fun aa S => ?_
  refine sy_nm S fun bs S => ?_
  have hfz := S.fact (f := rfFz g cap (fzC (bytesOf (A.l.getD k ByteArray.empty)) (c % 32) (j) Z)) (by simp)
  have hfa := (S.fs (rfFz g cap (fzC (bytesOf (A.l.getD k ByteArray.empty)) (c % 32) (j) Z)) (by simp)).2
  have hlen : (fzC (bytesOf (A.l.getD k ByteArray.empty)) (c % 32) j Z).length = cap := by unfold fzC; simp only [List.length_append, List.length_map, List.length_take, List.length_replicate, List.length_drop, hs32, hZ]; omega
  obtain ⟨hst, hh⟩ := fz_st hfz hlen (show j < cap by omega)
  rw [fzC_set _ _ _ _ hs32 hcj hj] at hh
  refine sy_sto (ty := 5) (ad := ⟨g, 0 + j * 1, none⟩) (x := .v (.int .u8 0)) (v := .int .u8 0) S (by kernel_rfl) rfl (by rw [Nat.mul_one, Nat.zero_add]; exact hst) (gb_setC w g _ _) (Or.inr hgb) [rfEr z.b z.o z.l, rfEl z.l, rfOwn w0.heap.size 9 1 A.v A.l.length (A.l.map Value.string), rfOwn w0.heap.size 9 1 W.v W.l.length (W.l.map Value.string)] (fun f hf => ⟨List.mem_cons_of_mem _ hf, hgap f hf⟩) (fun i hi e => hfa i hi e) fun aa S => ?_
  have S := S.add (rfFz g cap (fzC (bytesOf (A.l.getD k ByteArray.empty)) (c % 32) (j + 1) Z)) hh (fun i hi hb => hfa i hi hb)
  refine sy_run ⟨0, [28]⟩ 60 S fun bs aa w S => ?_
  refine sy_reg S fun S => ?_
  refine sy_ops 2 S fun bs aa w S => ?_
  refine sy_cast 122 S (congrArg (Value.int .i64) (by rw [IntKind.wrap_i64]; omega : IntKind.i64.wrap ((j : Int) + 1) = ((j + 1 : Nat) : Int))) (by kernel_rfl) fun S => ?_
  refine sy_run ⟨0, [999]⟩ 50 S fun bs aa w S => ?_
  have S2 := S.to [] (ww3S z A ends E0 W k g cap (j + 1)) (by kernel_rfl) (by kernel_rfl) (by kernel_rfl) (by kernel_rfl) (by kernel_rfl)
  refine sy_at2 (k' := (.rnd (m) (bodyL ww3C) :: ww3C.k.tail)) (by kernel_rfl) ?_
  exact ih aa w S2
set_option maxHeartbeats 8000000 in
theorem ww4_s (sk : ByteArray) (hsk : sk = secK W.l k (c % 32)) (gt ct : Nat) (TL : (List ByteArray)) (hTL : TL = W.l) (hgt : w0.heap.size ≤ gt) (hct : TL.length ≤ ct) (hap4 : ∀ f ∈ [rfEr z.b z.o z.l, rfEl z.l, rfOwn w0.heap.size 9 1 A.v A.l.length (A.l.map Value.string)], ¬f.bl gt) (m j : Nat) (hj : j < TL.length) (hkj : k < j) (ih : ∀ (aa : Act) (w : World) (S : Sy w0 [] [] (ww4S z A ends E0 k gt ct TL (j + 1)) [rfEr z.b z.o z.l, rfEl z.l, rfOwn w0.heap.size 9 1 A.v A.l.length (A.l.map Value.string), rfOwn w0.heap.size 9 1 (.slice (some ⟨gt, 0, none⟩) TL.length ct) TL.length ((tornT W.l k sk (j + 1)).map Value.string)] aa w), post Try.prog (.rnd (m) (bodyL ww4C) :: ww4C.k.tail) (bodyPost Try.prog Try.f8 fun y w' => y = .returned (.bool true) ∧ Below w0.heap.size w0 w') .normal aa w) (aa : Act) (w : World) (S : Sy w0 [] [] (ww4S z A ends E0 k gt ct TL (j)) [rfEr z.b z.o z.l, rfEl z.l, rfOwn w0.heap.size 9 1 A.v A.l.length (A.l.map Value.string), rfOwn w0.heap.size 9 1 (.slice (some ⟨gt, 0, none⟩) TL.length ct) TL.length ((tornT W.l k sk (j)).map Value.string)] aa w) : post Try.prog (.rnd (m + 1) (bodyL ww4C) :: ww4C.k.tail) (bodyPost Try.prog Try.f8 fun y w' => y = .returned (.bool true) ∧ Below w0.heap.size w0 w') .normal aa w := by
  have hjW : j < W.l.length := by rw [← hTL]; exact hj
  refine sy_run (c := ⟨(.rnd (m + 1) (bodyL ww4C) :: ww4C.k.tail), ww4S z A ends E0 k gt ct TL j⟩) ⟨0, [33]⟩ 50 S fun bs aa w S => ?_
  refine sy_reg S fun S => ?_
  refine sy_ops 4 S fun bs aa w S => ?_
  refine sy_cast 139 S (congrArg Value.bool (decide_eq_true (by omega) : decide ((j : Int) < (TL.length : Int)) = true)) (by kernel_rfl) fun S => ?_
  refine sy_run ⟨0, [35]⟩ 60 S fun bs aa w S => ?_
  refine sy_reg S fun S => ?_
  refine sy_ops 3 S fun bs aa w S => ?_
  refine sy_ix (b := gt) (off := 0) (len := TL.length) (n := j) (size := 1) (i := (j : Int)) S (by kernel_rfl) rfl (by omega) fun aa S => ?_
  refine sy_nm S fun bs S => ?_
  have hrow := S.fact (f := rfOwn w0.heap.size 9 1 (.slice (some ⟨gt, 0, none⟩) TL.length ct) TL.length ((tornT W.l k sk (j)).map Value.string)) (by simp)
  have hfa := (S.fs (rfOwn w0.heap.size 9 1 (.slice (some ⟨gt, 0, none⟩) TL.length ct) TL.length ((tornT W.l k sk (j)).map Value.string)) (by simp)).2
  obtain ⟨hst, hh⟩ := st_row hrow (by first | exact (tornT_len _ _ _ _).symm ▸ congrArg List.length hTL | exact congrArg List.length hTL | rfl) j (by omega) E0
  rw [show (tornT W.l k sk j).set j E0 = tornT W.l k sk (j + 1) by rw [hE]; exact tornT_set _ _ _ _ hkj hjW] at hh
  refine sy_sto (ty := 9) (ad := ⟨gt, 0 + j * 1, none⟩) (x := .v (.string E0)) (v := .string E0) S (by kernel_rfl) rfl hst (gb_setC w gt _ _) (Or.inr hgt) [rfEr z.b z.o z.l, rfEl z.l, rfOwn w0.heap.size 9 1 A.v A.l.length (A.l.map Value.string)] (fun f hf => ⟨by simp only [List.mem_cons, List.not_mem_nil, or_false] at hf ⊢; rcases hf with rfl | rfl | rfl <;> simp, hap4 f hf⟩) (fun i hi e => hfa i hi (by show some gt = some _; rw [e])) fun aa S => ?_
  have S := S.add (rfOwn w0.heap.size 9 1 (.slice (some ⟨gt, 0, none⟩) TL.length ct) TL.length ((tornT W.l k sk (j + 1)).map Value.string)) hh (fun i hi hb => hfa i hi hb)
  refine sy_run ⟨0, [34]⟩ 60 S fun bs aa w S => ?_
  refine sy_reg S fun S => ?_
  refine sy_ops 2 S fun bs aa w S => ?_
  refine sy_cast 141 S (congrArg (Value.int .i64) (by rw [IntKind.wrap_i64]; omega : IntKind.i64.wrap ((j : Int) + 1) = ((j + 1 : Nat) : Int))) (by kernel_rfl) fun S => ?_
  refine sy_run ⟨0, [999]⟩ 50 S fun bs aa w S => ?_
  have S := S.sub (F' := [rfEr z.b z.o z.l, rfEl z.l, rfOwn w0.heap.size 9 1 A.v A.l.length (A.l.map Value.string), rfOwn w0.heap.size 9 1 (.slice (some ⟨gt, 0, none⟩) TL.length ct) TL.length ((tornT W.l k sk (j + 1)).map Value.string)]) (by intro f hf; simp only [List.mem_cons, List.not_mem_nil, or_false] at hf; rcases hf with rfl | rfl | rfl | rfl <;> simp)
  have S2 := S.to [] (ww4S z A ends E0 k gt ct TL (j + 1)) (by kernel_rfl) (by kernel_rfl) (by kernel_rfl) (by kernel_rfl) (by kernel_rfl)
  refine sy_at2 (k' := (.rnd (m) (bodyL ww4C) :: ww4C.k.tail)) (by kernel_rfl) ?_
  exact ih aa w S2
section
variable (gt ct : Nat) (TL TLf : (List ByteArray)) (hTL : TL.length = W.l.length) (hTf : TLf.length = TL.length) (hgt : w0.heap.size ≤ gt) (hct : TL.length ≤ ct)
include gt ct TL TLf hTL hTf hgt hct
set_option maxHeartbeats 8000000 in
theorem ww4_y (m : Nat) (hsm : (TLf.getD k ByteArray.empty = (A.l.getD k ByteArray.empty) ∧ k + 1 = A.l.length)) (hrec : recS (TLf.length + 1) TLf 0 0 = (z.l.map prE, (recsE (z.l.map prE)).length)) (aa : Act) (w : World) (S : Sy w0 [] [] (ww4S z A ends E0 k gt ct TL TL.length) [rfEr z.b z.o z.l, rfEl z.l, rfOwn w0.heap.size 9 1 A.v A.l.length (A.l.map Value.string), rfOwn w0.heap.size 9 1 (.slice (some ⟨gt, 0, none⟩) TL.length ct) TL.length ((TLf : (List ByteArray)).map Value.string)] aa w) : post Try.prog (.rnd (m + 1) (bodyL ww4C) :: ww4C.k.tail) (bodyPost Try.prog Try.f8 fun y w' => y = .returned (.bool true) ∧ Below w0.heap.size w0 w') .normal aa w := by
  have hzb : ∀ e ∈ z.l, e.ok ∧ e.ws.length ≤ 100000 := fun e he => by
    refine ⟨(hok e he).1, ?_⟩
    have := valid_len (ascR_mem _ 0 hasc (prE e) (List.mem_map_of_mem he)).2
    show e.ws.length ≤ 100000
    have e2 : (prE e).2 = e.ws := rfl
    rw [e2] at this
    omega
  obtain ⟨Ry, hRy⟩ : ∃ R, recS (TLf.length + 1) TLf 0 0 = R := ⟨_, rfl⟩
  have hRye := hRy.symm.trans hrec
  refine sy_run (c := ⟨(.rnd (m + 1) (bodyL ww4C) :: ww4C.k.tail), ww4S z A ends E0 k gt ct TL TL.length⟩) ⟨0, [33]⟩ 50 S fun bs aa w S => ?_
  refine sy_reg S fun S => ?_
  refine sy_ops 4 S fun bs aa w S => ?_
  refine sy_cast 139 S (congrArg Value.bool (decide_eq_false (by omega) : decide ((TL.length : Int) < (TL.length : Int)) = false)) (by kernel_rfl) fun S => ?_
  refine sy_run ⟨0, [36]⟩ 60 S fun bs aa w S => ?_
  refine sy_reg S fun S => ?_
  refine sy_ops 1 S fun bs aa w S => ?_
  have hroT0 := S.fact (f := rfOwn w0.heap.size 9 1 (.slice (some ⟨gt, 0, none⟩) TL.length ct) TL.length ((TLf : (List ByteArray)).map Value.string)) (by simp)
  rw [← hTf] at hroT0
  refine sy_cast 147 S (congrArg (fun n => Value.slice (some ⟨gt, 0, none⟩) n ct) hTf.symm) (by kernel_rfl) fun S => ?_
  refine sy_nm S fun bs S => ?_
  have hbly : ∀ j, j < bs.length → bs.getD j 0 < w.heap.size := fun j hj => S.lt hj
  have hcy := recover_t w ⟨some ⟨gt, 0, none⟩, ct, gt, 0, TLf⟩ (Or.inr rfl) (show TLf.length ≤ ct by omega) (by first | omega | (show TLf.length ≤ 1000; omega)) (at_of_owns (z := ⟨some ⟨gt, 0, none⟩, ct, gt, 0, TLf⟩) hroT0 rfl (Or.inr rfl))
  rw [hRy] at hcy
  refine sy_call S (X := Er) (val := fun q => .tuple #[q.v, .int .i64 (Ry.2 : Int)]) (C := recQ Ry w.heap.size) (hcy.mono fun y w' h => rec_er h) (by kernel_rfl) fun y aa w1 hy hb S => ?_
  have S := S.add (rfEr y.b y.o y.l) hy.2.2.1 (fun j hj hb => by
    obtain ⟨q1, q2⟩ := hb
    have := hbly j hj
    have := hy.2.2.2.1.resolve_left q2
    omega)
  have S := S.add (rfEl y.l) hy.2.2.2.2.2 (fun j hj hb => by
    obtain ⟨e, he, q1, q2⟩ := hb
    have := hbly j hj
    have := (hy.2.2.2.2.1 e he).2.resolve_left q2
    omega)
  have hyp : y.l.map prE = z.l.map prE := hy.1.trans (congrArg Prod.fst hRye)
  have hyb : ∀ e ∈ y.l, e.ok ∧ e.ws.length ≤ 100000 := fun e he => by
    refine ⟨(hy.2.2.2.2.1 e he).1, ?_⟩
    have hm : prE e ∈ z.l.map prE := by rw [← hyp]; exact List.mem_map_of_mem he
    have := valid_len (ascR_mem _ 0 hasc (prE e) hm).2
    have e2 : (prE e).2 = e.ws := rfl
    rw [e2] at this
    omega
  have hyn : y.l.length ≤ 100000 := by
    have q := congrArg List.length hyp
    simp only [List.length_map, List.length_take] at q
    omega
  refine sy_run ⟨0, []⟩ 60 S fun bs aa w S => ?_
  have hroA := S.fact (f := rfOwn w0.heap.size 9 1 A.v A.l.length (A.l.map Value.string)) (by simp)
  have hroT := S.fact (f := rfOwn w0.heap.size 9 1 (.slice (some ⟨gt, 0, none⟩) TL.length ct) TL.length ((TLf : (List ByteArray)).map Value.string)) (by simp)
  rw [← hTf] at hroT
  have hatA : A.at _ := at_of_owns hroA rfl hAo
  have hatT : Sr.at ⟨some ⟨gt, 0, none⟩, ct, gt, 0, TLf⟩ _ := at_of_owns (z := ⟨some ⟨gt, 0, none⟩, ct, gt, 0, TLf⟩) hroT rfl (Or.inr rfl)
  have hnA := (S.fs (rfOwn w0.heap.size 9 1 A.v A.l.length (A.l.map Value.string)) (by simp)).2
  have hnT := (S.fs (rfOwn w0.heap.size 9 1 (.slice (some ⟨gt, 0, none⟩) TL.length ct) TL.length ((TLf : (List ByteArray)).map Value.string)) (by simp)).2
  have eAv : A.a = some ⟨A.b, A.o, none⟩ := hAo.resolve_left (by omega)
  have S := S.add (rfSt A.b A.o A.l) hatA (fun j hj hb => hnA j hj (by show Value.ownBlock (.slice A.a _ _) = _; rw [eAv, hb.1]; rfl))
  have S := S.add (rfSt gt 0 TLf) hatT (fun j hj hb => hnT j hj (by show some gt = _; rw [hb.1]))
  letI : KP := ⟨[159]⟩
  letI : HF := ⟨[rfSt A.b A.o A.l, rfSt gt 0 TLf]⟩
  refine dr_enter [] (by kernel_rfl) (by kernel_rfl) S (by kernel_rfl) (fun aa w D => ?_) (fun f hf => by have hf2 : f ∈ [rfSt A.b A.o A.l, rfSt gt 0 TLf] := hf; simp only [List.mem_cons, List.not_mem_nil, or_false] at hf2; rcases hf2 with rfl | rfl <;> simp)
  refine dr_tix 2 D (by kernel_rfl) (by kernel_rfl) (by kernel_rfl) (b := gt) (off := 0) (len := TL.length) (n := k) (size := 1) (ix := (k : Int)) (by kernel_rfl) rfl (by omega) fun aa D => ?_
  refine dr_tld 3 D (by kernel_rfl) (by kernel_rfl) (by kernel_rfl) (ty := 9) (ad := ⟨gt, 0 + k * 1, none⟩) (v := .string (TLf.getD k ByteArray.empty)) (fun W' hW' => ld_at (by kernel_rfl) (by rw [Nat.mul_one]; exact (show StrAt W' gt 0 TLf from hW' (rfSt gt 0 TLf) (by show _ ∈ [rfSt A.b A.o A.l, rfSt gt 0 TLf]; simp)) k (by omega))) (by kernel_rfl) fun aa D => ?_
  refine dr_tix 6 D (by kernel_rfl) (by kernel_rfl) (by kernel_rfl) (b := A.b) (off := A.o) (len := A.l.length) (n := k) (size := 1) (ix := (k : Int)) (by rw [← eAv]; kernel_rfl) rfl (by omega) fun aa D => ?_
  refine dr_tld 7 D (by kernel_rfl) (by kernel_rfl) (by kernel_rfl) (ty := 9) (ad := ⟨A.b, A.o + k * 1, none⟩) (v := .string (A.l.getD k ByteArray.empty)) (fun W' hW' => ld_at (by kernel_rfl) (by rw [Nat.mul_one]; exact (show StrAt W' A.b A.o A.l from hW' (rfSt A.b A.o A.l) (by show _ ∈ [rfSt A.b A.o A.l, rfSt gt 0 TLf]; simp)) k (by omega))) (by kernel_rfl) fun aa D => ?_
  refine dr_ex2 (fun d v c a w h => by cases d <;> exact h) 8 (op := .binOp .eql 9 (.tmp 154) (.tmp 158) 9) (ty := 4) (v := .bool true) D (by kernel_rfl) (by kernel_rfl) (by kernel_rfl) (by kernel_rfl) (ex_eqW (p := (TLf.getD k ByteArray.empty)) (q := (A.l.getD k ByteArray.empty)) (by kernel_rfl) (by kernel_rfl) (decide_eq_true hsm.1)) fun aa D => ?_
  refine dr_end D (by kernel_rfl) fun S => ?_
  refine sy_cast 166 S (congrArg Value.bool (decide_eq_true (by rw [IntKind.wrap_i64]; omega) : decide ((k : Int) = IntKind.i64.wrap ((A.l.length : Int) - 1)) = true)) (by kernel_rfl) fun S => ?_
  refine sy_run ⟨0, [38]⟩ 60 S fun bs aa w S => ?_
  refine sy_reg S fun S => ?_
  refine sy_ops 4 S fun bs aa w S => ?_
  refine sy_call1 S (v := .bool true) (by
    have h := all_t w y.l z.l y.a z.a y.c z.c y.b y.o z.b z.o hy.2.1 hz hyn hyb hzb (S.fact (f := rfEr y.b y.o y.l) (by simp)) (S.fact (f := rfEr z.b z.o z.l) (by simp)) (S.fact (f := rfEl y.l) (by simp)) (S.fact (f := rfEl z.l) (by simp))
    rw [decide_eq_true (hyp)] at h
    exact h) (by kernel_rfl) fun aa w hb S => ?_
  refine sy_ops 6 S fun bs aa w S => ?_
  refine sy_cast 177 S (congrArg Value.bool (decide_eq_true (by rw [hRye, hA]) : decide ((Ry.2 : Int) = (A.l.length : Int)) = true)) (by kernel_rfl) fun S => ?_
  refine sy_run ⟨0, []⟩ 60 S fun bs aa w S => ?_
  exact sy_ret S (by kernel_rfl) (by kernel_rfl) fun hg => ⟨rfl, bel_gr hg⟩
set_option maxHeartbeats 8000000 in
theorem ww4_n (m : Nat) (hsm : ¬(TLf.getD k ByteArray.empty = (A.l.getD k ByteArray.empty) ∧ k + 1 = A.l.length)) (hrec : recS (TLf.length + 1) TLf 0 0 = ((z.l.take (z.l.length - 1)).map prE, (recsE ((z.l.take (z.l.length - 1)).map prE)).length)) (aa : Act) (w : World) (S : Sy w0 [] [] (ww4S z A ends E0 k gt ct TL TL.length) [rfEr z.b z.o z.l, rfEl z.l, rfOwn w0.heap.size 9 1 A.v A.l.length (A.l.map Value.string), rfOwn w0.heap.size 9 1 (.slice (some ⟨gt, 0, none⟩) TL.length ct) TL.length ((TLf : (List ByteArray)).map Value.string)] aa w) : post Try.prog (.rnd (m + 1) (bodyL ww4C) :: ww4C.k.tail) (bodyPost Try.prog Try.f8 fun y w' => y = .returned (.bool true) ∧ Below w0.heap.size w0 w') .normal aa w := by
  have hzb : ∀ e ∈ z.l, e.ok ∧ e.ws.length ≤ 100000 := fun e he => by
    refine ⟨(hok e he).1, ?_⟩
    have := valid_len (ascR_mem _ 0 hasc (prE e) (List.mem_map_of_mem he)).2
    show e.ws.length ≤ 100000
    have e2 : (prE e).2 = e.ws := rfl
    rw [e2] at this
    omega
  have hasc2 : ascR 0 ((z.l.take (z.l.length - 1)).map prE) := ascR_pre _ ((z.l.drop (z.l.length - 1)).map prE) 0 (by rw [← List.map_append, List.take_append_drop]; exact hasc)
  obtain ⟨Ry, hRy⟩ : ∃ R, recS (TLf.length + 1) TLf 0 0 = R := ⟨_, rfl⟩
  have hRye := hRy.symm.trans hrec
  refine sy_run (c := ⟨(.rnd (m + 1) (bodyL ww4C) :: ww4C.k.tail), ww4S z A ends E0 k gt ct TL TL.length⟩) ⟨0, [33]⟩ 50 S fun bs aa w S => ?_
  refine sy_reg S fun S => ?_
  refine sy_ops 4 S fun bs aa w S => ?_
  refine sy_cast 139 S (congrArg Value.bool (decide_eq_false (by omega) : decide ((TL.length : Int) < (TL.length : Int)) = false)) (by kernel_rfl) fun S => ?_
  refine sy_run ⟨0, [36]⟩ 60 S fun bs aa w S => ?_
  refine sy_reg S fun S => ?_
  refine sy_ops 1 S fun bs aa w S => ?_
  have hroT0 := S.fact (f := rfOwn w0.heap.size 9 1 (.slice (some ⟨gt, 0, none⟩) TL.length ct) TL.length ((TLf : (List ByteArray)).map Value.string)) (by simp)
  rw [← hTf] at hroT0
  refine sy_cast 147 S (congrArg (fun n => Value.slice (some ⟨gt, 0, none⟩) n ct) hTf.symm) (by kernel_rfl) fun S => ?_
  refine sy_nm S fun bs S => ?_
  have hbly : ∀ j, j < bs.length → bs.getD j 0 < w.heap.size := fun j hj => S.lt hj
  have hcy := recover_t w ⟨some ⟨gt, 0, none⟩, ct, gt, 0, TLf⟩ (Or.inr rfl) (show TLf.length ≤ ct by omega) (by first | omega | (show TLf.length ≤ 1000; omega)) (at_of_owns (z := ⟨some ⟨gt, 0, none⟩, ct, gt, 0, TLf⟩) hroT0 rfl (Or.inr rfl))
  rw [hRy] at hcy
  refine sy_call S (X := Er) (val := fun q => .tuple #[q.v, .int .i64 (Ry.2 : Int)]) (C := recQ Ry w.heap.size) (hcy.mono fun y w' h => rec_er h) (by kernel_rfl) fun y aa w1 hy hb S => ?_
  have S := S.add (rfEr y.b y.o y.l) hy.2.2.1 (fun j hj hb => by
    obtain ⟨q1, q2⟩ := hb
    have := hbly j hj
    have := hy.2.2.2.1.resolve_left q2
    omega)
  have S := S.add (rfEl y.l) hy.2.2.2.2.2 (fun j hj hb => by
    obtain ⟨e, he, q1, q2⟩ := hb
    have := hbly j hj
    have := (hy.2.2.2.2.1 e he).2.resolve_left q2
    omega)
  have hyp : y.l.map prE = (z.l.take (z.l.length - 1)).map prE := hy.1.trans (congrArg Prod.fst hRye)
  have hyb : ∀ e ∈ y.l, e.ok ∧ e.ws.length ≤ 100000 := fun e he => by
    refine ⟨(hy.2.2.2.2.1 e he).1, ?_⟩
    have hm : prE e ∈ (z.l.take (z.l.length - 1)).map prE := by rw [← hyp]; exact List.mem_map_of_mem he
    have := valid_len (ascR_mem _ 0 hasc2 (prE e) hm).2
    have e2 : (prE e).2 = e.ws := rfl
    rw [e2] at this
    omega
  have hyn : y.l.length ≤ 100000 := by
    have q := congrArg List.length hyp
    simp only [List.length_map, List.length_take] at q
    omega
  by_cases hq : (TLf.getD k ByteArray.empty) = (A.l.getD k ByteArray.empty)
  case neg =>
    refine sy_run ⟨0, []⟩ 60 S fun bs aa w S => ?_
    have hroA := S.fact (f := rfOwn w0.heap.size 9 1 A.v A.l.length (A.l.map Value.string)) (by simp)
    have hroT := S.fact (f := rfOwn w0.heap.size 9 1 (.slice (some ⟨gt, 0, none⟩) TL.length ct) TL.length ((TLf : (List ByteArray)).map Value.string)) (by simp)
    rw [← hTf] at hroT
    have hatA : A.at _ := at_of_owns hroA rfl hAo
    have hatT : Sr.at ⟨some ⟨gt, 0, none⟩, ct, gt, 0, TLf⟩ _ := at_of_owns (z := ⟨some ⟨gt, 0, none⟩, ct, gt, 0, TLf⟩) hroT rfl (Or.inr rfl)
    have hnA := (S.fs (rfOwn w0.heap.size 9 1 A.v A.l.length (A.l.map Value.string)) (by simp)).2
    have hnT := (S.fs (rfOwn w0.heap.size 9 1 (.slice (some ⟨gt, 0, none⟩) TL.length ct) TL.length ((TLf : (List ByteArray)).map Value.string)) (by simp)).2
    have eAv : A.a = some ⟨A.b, A.o, none⟩ := hAo.resolve_left (by omega)
    have S := S.add (rfSt A.b A.o A.l) hatA (fun j hj hb => hnA j hj (by show Value.ownBlock (.slice A.a _ _) = _; rw [eAv, hb.1]; rfl))
    have S := S.add (rfSt gt 0 TLf) hatT (fun j hj hb => hnT j hj (by show some gt = _; rw [hb.1]))
    letI : KP := ⟨[159]⟩
    letI : HF := ⟨[rfSt A.b A.o A.l, rfSt gt 0 TLf]⟩
    refine dr_enter [] (by kernel_rfl) (by kernel_rfl) S (by kernel_rfl) (fun aa w D => ?_) (fun f hf => by have hf2 : f ∈ [rfSt A.b A.o A.l, rfSt gt 0 TLf] := hf; simp only [List.mem_cons, List.not_mem_nil, or_false] at hf2; rcases hf2 with rfl | rfl <;> simp)
    refine dr_tix 2 D (by kernel_rfl) (by kernel_rfl) (by kernel_rfl) (b := gt) (off := 0) (len := TL.length) (n := k) (size := 1) (ix := (k : Int)) (by kernel_rfl) rfl (by omega) fun aa D => ?_
    refine dr_tld 3 D (by kernel_rfl) (by kernel_rfl) (by kernel_rfl) (ty := 9) (ad := ⟨gt, 0 + k * 1, none⟩) (v := .string (TLf.getD k ByteArray.empty)) (fun W' hW' => ld_at (by kernel_rfl) (by rw [Nat.mul_one]; exact (show StrAt W' gt 0 TLf from hW' (rfSt gt 0 TLf) (by show _ ∈ [rfSt A.b A.o A.l, rfSt gt 0 TLf]; simp)) k (by omega))) (by kernel_rfl) fun aa D => ?_
    refine dr_tix 6 D (by kernel_rfl) (by kernel_rfl) (by kernel_rfl) (b := A.b) (off := A.o) (len := A.l.length) (n := k) (size := 1) (ix := (k : Int)) (by rw [← eAv]; kernel_rfl) rfl (by omega) fun aa D => ?_
    refine dr_tld 7 D (by kernel_rfl) (by kernel_rfl) (by kernel_rfl) (ty := 9) (ad := ⟨A.b, A.o + k * 1, none⟩) (v := .string (A.l.getD k ByteArray.empty)) (fun W' hW' => ld_at (by kernel_rfl) (by rw [Nat.mul_one]; exact (show StrAt W' A.b A.o A.l from hW' (rfSt A.b A.o A.l) (by show _ ∈ [rfSt A.b A.o A.l, rfSt gt 0 TLf]; simp)) k (by omega))) (by kernel_rfl) fun aa D => ?_
    refine dr_ex2 (fun d v c a w h => by cases d <;> exact h) 8 (op := .binOp .eql 9 (.tmp 154) (.tmp 158) 9) (ty := 4) (v := .bool false) D (by kernel_rfl) (by kernel_rfl) (by kernel_rfl) (by kernel_rfl) (ex_eqW (p := (TLf.getD k ByteArray.empty)) (q := (A.l.getD k ByteArray.empty)) (by kernel_rfl) (by kernel_rfl) (decide_eq_false hq)) fun aa D => ?_
    refine dr_end D (by kernel_rfl) fun S => ?_
    refine sy_run ⟨0, [39]⟩ 60 S fun bs aa w S => ?_
    refine sy_reg S fun S => ?_
    refine sy_ops 7 S fun bs aa w S => ?_
    refine sy_cast 185 S (congrArg (Value.int .i64) (by rw [IntKind.wrap_i64]; omega : IntKind.i64.wrap ((z.l.length : Int) - 1) = ((z.l.length - 1 : Nat) : Int))) (by kernel_rfl) fun S => ?_
    refine sy_ex (op := .slice 36 (.tmp 182) none (some (.tmp 185)) none) (ty := 36) (v := .slice z.a (z.l.length - 1) z.c) S (by kernel_rfl) (ex_sl (p := .slice z.a z.l.length z.c) (l2 := none) (h2 := some (.v (.int .i64 ((z.l.length - 1 : Nat) : Int)))) (m2 := none) (by kernel_rfl) (by kernel_rfl) (by kernel_rfl) (by kernel_rfl) (sl_preE z.a z.l.length z.c (z.l.length - 1) (by omega))) fun aa S => ?_
    have etk : (z.l.take (z.l.length - 1)).length = z.l.length - 1 := by rw [List.length_take]; omega
    refine sy_call1 S (v := .bool true) (by
      have h := all_t w y.l (z.l.take (z.l.length - 1)) y.a z.a y.c z.c y.b y.o z.b z.o hy.2.1 (hz.imp (fun q => by rw [etk]; omega) id) hyn hyb (fun e he => hzb e (List.mem_of_mem_take he)) (S.fact (f := rfEr y.b y.o y.l) (by simp)) (er_take _ (S.fact (f := rfEr z.b z.o z.l) (by simp))) (S.fact (f := rfEl y.l) (by simp)) (fun e he => (S.fact (f := rfEl z.l) (by simp)) e (List.mem_of_mem_take he))
      rw [decide_eq_true hyp, etk] at h
      exact h) (by kernel_rfl) fun aa w hb S => ?_
    refine sy_ops 5 S fun bs aa w S => ?_
    refine sy_cast 192 S (congrArg Value.bool (decide_eq_true (by rw [hRye, hen]; rfl) : decide ((Ry.2 : Int) = (ends : Int)) = true)) (by kernel_rfl) fun S => ?_
    refine sy_run ⟨0, []⟩ 60 S fun bs aa w S => ?_
    exact sy_ret S (by kernel_rfl) (by kernel_rfl) fun hg => ⟨rfl, bel_gr hg⟩
  refine sy_run ⟨0, []⟩ 60 S fun bs aa w S => ?_
  have hroA := S.fact (f := rfOwn w0.heap.size 9 1 A.v A.l.length (A.l.map Value.string)) (by simp)
  have hroT := S.fact (f := rfOwn w0.heap.size 9 1 (.slice (some ⟨gt, 0, none⟩) TL.length ct) TL.length ((TLf : (List ByteArray)).map Value.string)) (by simp)
  rw [← hTf] at hroT
  have hatA : A.at _ := at_of_owns hroA rfl hAo
  have hatT : Sr.at ⟨some ⟨gt, 0, none⟩, ct, gt, 0, TLf⟩ _ := at_of_owns (z := ⟨some ⟨gt, 0, none⟩, ct, gt, 0, TLf⟩) hroT rfl (Or.inr rfl)
  have hnA := (S.fs (rfOwn w0.heap.size 9 1 A.v A.l.length (A.l.map Value.string)) (by simp)).2
  have hnT := (S.fs (rfOwn w0.heap.size 9 1 (.slice (some ⟨gt, 0, none⟩) TL.length ct) TL.length ((TLf : (List ByteArray)).map Value.string)) (by simp)).2
  have eAv : A.a = some ⟨A.b, A.o, none⟩ := hAo.resolve_left (by omega)
  have S := S.add (rfSt A.b A.o A.l) hatA (fun j hj hb => hnA j hj (by show Value.ownBlock (.slice A.a _ _) = _; rw [eAv, hb.1]; rfl))
  have S := S.add (rfSt gt 0 TLf) hatT (fun j hj hb => hnT j hj (by show some gt = _; rw [hb.1]))
  letI : KP := ⟨[159]⟩
  letI : HF := ⟨[rfSt A.b A.o A.l, rfSt gt 0 TLf]⟩
  refine dr_enter [] (by kernel_rfl) (by kernel_rfl) S (by kernel_rfl) (fun aa w D => ?_) (fun f hf => by have hf2 : f ∈ [rfSt A.b A.o A.l, rfSt gt 0 TLf] := hf; simp only [List.mem_cons, List.not_mem_nil, or_false] at hf2; rcases hf2 with rfl | rfl <;> simp)
  refine dr_tix 2 D (by kernel_rfl) (by kernel_rfl) (by kernel_rfl) (b := gt) (off := 0) (len := TL.length) (n := k) (size := 1) (ix := (k : Int)) (by kernel_rfl) rfl (by omega) fun aa D => ?_
  refine dr_tld 3 D (by kernel_rfl) (by kernel_rfl) (by kernel_rfl) (ty := 9) (ad := ⟨gt, 0 + k * 1, none⟩) (v := .string (TLf.getD k ByteArray.empty)) (fun W' hW' => ld_at (by kernel_rfl) (by rw [Nat.mul_one]; exact (show StrAt W' gt 0 TLf from hW' (rfSt gt 0 TLf) (by show _ ∈ [rfSt A.b A.o A.l, rfSt gt 0 TLf]; simp)) k (by omega))) (by kernel_rfl) fun aa D => ?_
  refine dr_tix 6 D (by kernel_rfl) (by kernel_rfl) (by kernel_rfl) (b := A.b) (off := A.o) (len := A.l.length) (n := k) (size := 1) (ix := (k : Int)) (by rw [← eAv]; kernel_rfl) rfl (by omega) fun aa D => ?_
  refine dr_tld 7 D (by kernel_rfl) (by kernel_rfl) (by kernel_rfl) (ty := 9) (ad := ⟨A.b, A.o + k * 1, none⟩) (v := .string (A.l.getD k ByteArray.empty)) (fun W' hW' => ld_at (by kernel_rfl) (by rw [Nat.mul_one]; exact (show StrAt W' A.b A.o A.l from hW' (rfSt A.b A.o A.l) (by show _ ∈ [rfSt A.b A.o A.l, rfSt gt 0 TLf]; simp)) k (by omega))) (by kernel_rfl) fun aa D => ?_
  refine dr_ex2 (fun d v c a w h => by cases d <;> exact h) 8 (op := .binOp .eql 9 (.tmp 154) (.tmp 158) 9) (ty := 4) (v := .bool true) D (by kernel_rfl) (by kernel_rfl) (by kernel_rfl) (by kernel_rfl) (ex_eqW (p := (TLf.getD k ByteArray.empty)) (q := (A.l.getD k ByteArray.empty)) (by kernel_rfl) (by kernel_rfl) (decide_eq_true hq)) fun aa D => ?_
  refine dr_end D (by kernel_rfl) fun S => ?_
  refine sy_cast 166 S (congrArg Value.bool (decide_eq_false (fun q => hsm ⟨hq, by rw [IntKind.wrap_i64] at q; omega⟩) : decide ((k : Int) = IntKind.i64.wrap ((A.l.length : Int) - 1)) = false)) (by kernel_rfl) fun S => ?_
  refine sy_run ⟨0, [39]⟩ 60 S fun bs aa w S => ?_
  refine sy_reg S fun S => ?_
  refine sy_ops 7 S fun bs aa w S => ?_
  refine sy_cast 185 S (congrArg (Value.int .i64) (by rw [IntKind.wrap_i64]; omega : IntKind.i64.wrap ((z.l.length : Int) - 1) = ((z.l.length - 1 : Nat) : Int))) (by kernel_rfl) fun S => ?_
  refine sy_ex (op := .slice 36 (.tmp 182) none (some (.tmp 185)) none) (ty := 36) (v := .slice z.a (z.l.length - 1) z.c) S (by kernel_rfl) (ex_sl (p := .slice z.a z.l.length z.c) (l2 := none) (h2 := some (.v (.int .i64 ((z.l.length - 1 : Nat) : Int)))) (m2 := none) (by kernel_rfl) (by kernel_rfl) (by kernel_rfl) (by kernel_rfl) (sl_preE z.a z.l.length z.c (z.l.length - 1) (by omega))) fun aa S => ?_
  have etk : (z.l.take (z.l.length - 1)).length = z.l.length - 1 := by rw [List.length_take]; omega
  refine sy_call1 S (v := .bool true) (by
    have h := all_t w y.l (z.l.take (z.l.length - 1)) y.a z.a y.c z.c y.b y.o z.b z.o hy.2.1 (hz.imp (fun q => by rw [etk]; omega) id) hyn hyb (fun e he => hzb e (List.mem_of_mem_take he)) (S.fact (f := rfEr y.b y.o y.l) (by simp)) (er_take _ (S.fact (f := rfEr z.b z.o z.l) (by simp))) (S.fact (f := rfEl y.l) (by simp)) (fun e he => (S.fact (f := rfEl z.l) (by simp)) e (List.mem_of_mem_take he))
    rw [decide_eq_true hyp, etk] at h
    exact h) (by kernel_rfl) fun aa w hb S => ?_
  refine sy_ops 5 S fun bs aa w S => ?_
  refine sy_cast 192 S (congrArg Value.bool (decide_eq_true (by rw [hRye, hen]; rfl) : decide ((Ry.2 : Int) = (ends : Int)) = true)) (by kernel_rfl) fun S => ?_
  refine sy_run ⟨0, []⟩ 60 S fun bs aa w S => ?_
  exact sy_ret S (by kernel_rfl) (by kernel_rfl) fun hg => ⟨rfl, bel_gr hg⟩
theorem ww4_a (E : TLf = tornT W.l k (secK W.l k (c % 32)) W.l.length) (m : Nat) (aa : Act) (w : World) (S : Sy w0 [] [] (ww4S z A ends E0 k gt ct TL TL.length) [rfEr z.b z.o z.l, rfEl z.l, rfOwn w0.heap.size 9 1 A.v A.l.length (A.l.map Value.string), rfOwn w0.heap.size 9 1 (.slice (some ⟨gt, 0, none⟩) TL.length ct) TL.length ((TLf : (List ByteArray)).map Value.string)] aa w) : post Try.prog (.rnd (m + 1) (bodyL ww4C) :: ww4C.k.tail) (bodyPost Try.prog Try.f8 fun y w' => y = .returned (.bool true) ∧ Below w0.heap.size w0 w') .normal aa w := by
  have hne : z.l ≠ [] := fun q => by rw [q] at hz1; exact absurd hz1 (by decide)
  have ePz : z.l.map prE = (z.l.take (z.l.length - 1)).map prE ++ [prE (z.l.getD (z.l.length - 1) e00)] := by
    have e1 : z.l.getD (z.l.length - 1) e00 = z.l[z.l.length - 1]'(by omega) := by simp [List.getD, List.getElem?_eq_getElem (show z.l.length - 1 < z.l.length by omega)]
    have e2 : z.l.take (z.l.length - 1) ++ [z.l[z.l.length - 1]'(by omega)] = z.l := by
      rw [← List.take_succ_eq_append_getElem (by omega), show z.l.length - 1 + 1 = z.l.length by omega, List.take_length]
    rw [e1, ← List.map_singleton, ← List.map_append, e2]
  have hAW : A.l.getD k ByteArray.empty = W.l.getD k ByteArray.empty := by rw [hW, hA]; unfold wholeL; rw [gapp_l (by rw [← hA]; exact hk2)]
  have hTk : TLf.getD k ByteArray.empty = secK W.l k (c % 32) := by
    rw [E, tornT_at _ _ _ _ _ (by omega), if_neg (by omega), if_pos rfl]
  have hc32 : c % 32 ≤ 32 := by omega
  have hge := recsE_ge _ 0 hasc
  rw [List.length_map, ← hA] at hge
  by_cases hsm : (TLf.getD k ByteArray.empty = (A.l.getD k ByteArray.empty) ∧ k + 1 = A.l.length)
  · refine ww4_y w0 z hz hz5 hz1 hzc hok hasc s c n hs hcc hn A ends hA hAo hAc hAb hen hen2 hA125 E0 hE W hW hWo hWc hWb hW133 hWA k hk1 hk2 gt ct TL TLf hTL hTf hgt hct m hsm ?_ aa w S
    have e := whole_same (P := z.l.map prE) (z := n % 9) (k := k) (c := c % 32) (by rw [← hA]; exact hsm.2) (by rw [← hW, ← hTk, ← hAW]; exact hsm.1)
    rw [← hW] at e
    rw [E, e, hW]
    refine rec_whole hasc _ _ ?_
    rw [List.length_map]
    rw [← hW]
    omega
  · refine ww4_n w0 z hz hz5 hz1 hzc hok hasc s c n hs hcc hn A ends hA hAo hAc hAb hen hen2 hA125 E0 hE W hW hWo hWc hWb hW133 hWA k hk1 hk2 gt ct TL TLf hTL hTf hgt hct m hsm ?_ aa w S
    have h2 := hasc
    have hk0 : (recsE ((z.l.take (z.l.length - 1)).map prE)).length ≤ k := by rw [show (recsE ((z.l.take (z.l.length - 1)).map prE)).length = ends from hen.symm]; exact hk1
    rw [ePz] at h2
    have e := rec_torn (P := (z.l.take (z.l.length - 1)).map prE) (p := prE (z.l.getD (z.l.length - 1) e00)) (z := n % 9) (k := k) (c := c % 32) h2 hk0 (by rw [← ePz, ← hA]; exact hk2) hc32 (by
      rw [← ePz, ← hW, ← hTk, ← hAW, ← hA]
      exact hsm) (TLf.length + 1) (by rw [List.length_map, List.length_take]; omega)
    rw [← ePz, ← hW, ← E] at e
    exact e
end
theorem ww4_l (sk : ByteArray) (hsk : sk = secK W.l k (c % 32)) (gt ct : Nat) (TL : (List ByteArray)) (hTL : TL = W.l) (hgt : w0.heap.size ≤ gt) (hct : TL.length ≤ ct) (hap4 : ∀ f ∈ [rfEr z.b z.o z.l, rfEl z.l, rfOwn w0.heap.size 9 1 A.v A.l.length (A.l.map Value.string)], ¬f.bl gt) : ∀ (r j : Nat), j + r = TL.length → k < j → ∀ (aa : Act) (w : World) (S : Sy w0 [] [] (ww4S z A ends E0 k gt ct TL (j)) [rfEr z.b z.o z.l, rfEl z.l, rfOwn w0.heap.size 9 1 A.v A.l.length (A.l.map Value.string), rfOwn w0.heap.size 9 1 (.slice (some ⟨gt, 0, none⟩) TL.length ct) TL.length ((tornT W.l k sk (j)).map Value.string)] aa w), post Try.prog (.rnd (r + 1) (bodyL ww4C) :: ww4C.k.tail) (bodyPost Try.prog Try.f8 fun y w' => y = .returned (.bool true) ∧ Below w0.heap.size w0 w') .normal aa w := by
  intro r
  induction r with
  | zero =>
    intro j hj hkj aa w S
    obtain rfl : j = TL.length := by omega
    refine ww4_a w0 z hz hz5 hz1 hzc hok hasc s c n hs hcc hn A ends hA hAo hAc hAb hen hen2 hA125 E0 hE W hW hWo hWc hWb hW133 hWA k hk1 hk2 gt ct TL (tornT W.l k sk (TL.length)) (by rw [hTL]) (by rw [tornT_len, hTL]) hgt hct (by rw [hsk, hTL]) 0 aa w S
  | succ r ih => intro j hj hkj aa w S; exact ww4_s w0 z hz hz5 hz1 hzc hok hasc s c n hs hcc hn A ends hA hAo hAc hAb hen hen2 hA125 E0 hE W hW hWo hWc hWb hW133 hWA k hk1 hk2 sk hsk gt ct TL hTL hgt hct hap4 (r + 1) j (by omega) hkj (ih (j + 1) (by omega) (by omega)) aa w S
section
variable (g cap : Nat) (Z : List Value) (hcap : 32 ≤ cap ∧ cap ≤ 9223372036854775807) (hZ : Z.length = cap - 32) (hgb : w0.heap.size ≤ g) (hgap : ∀ f ∈ [rfEr z.b z.o z.l, rfEl z.l, rfOwn w0.heap.size 9 1 A.v A.l.length (A.l.map Value.string), rfOwn w0.heap.size 9 1 W.v W.l.length (W.l.map Value.string)], ¬f.bl g) (hs32 : (bytesOf (A.l.getD k ByteArray.empty)).length = 32)
include g cap Z hcap hZ hgb hgap hs32
set_option maxHeartbeats 8000000 in
theorem ww3_e (m : Nat) (aa : Act) (w : World) (S : Sy w0 [] [] (ww3S z A ends E0 W k g cap (32)) [rfFz g cap (fzC (bytesOf (A.l.getD k ByteArray.empty)) (c % 32) (32) Z), rfEr z.b z.o z.l, rfEl z.l, rfOwn w0.heap.size 9 1 A.v A.l.length (A.l.map Value.string), rfOwn w0.heap.size 9 1 W.v W.l.length (W.l.map Value.string)] aa w) : post Try.prog (.rnd (m + 1) (bodyL ww3C) :: ww3C.k.tail) (bodyPost Try.prog Try.f8 fun y w' => y = .returned (.bool true) ∧ Below w0.heap.size w0 w') .normal aa w := by
  have hWk : W.l.getD k ByteArray.empty = (A.l.getD k ByteArray.empty) := by rw [hW, hA]; unfold wholeL; rw [gapp_l (by rw [← hA]; exact hk2)]
  have hWn : W.a = none → W.c = 0 := fun h => by rw [hWo.resolve_left (by omega)] at h; cases h
  refine sy_run (c := ⟨(.rnd (m + 1) (bodyL ww3C) :: ww3C.k.tail), ww3S z A ends E0 W k g cap 32⟩) ⟨0, [27]⟩ 50 S fun bs aa w S => ?_
  refine sy_reg S fun S => ?_
  refine sy_ops 2 S fun bs aa w S => ?_
  refine sy_cast 120 S (congrArg Value.bool (by decide : decide (((32 : Nat) : Int) < (32 : Int)) = false)) (by kernel_rfl) fun S => ?_
  refine sy_run ⟨0, [30]⟩ 60 S fun bs aa w S => ?_
  refine sy_reg S fun S => ?_
  refine sy_nm S fun bs S => ?_
  have hbl0 : ∀ j, j < bs.length → bs.getD j 0 < w.heap.size := fun j hj => S.lt hj
  have hgs := S.gr.size
  have hFP0 : ∀ f ∈ [rfFz g cap (fzC (bytesOf (A.l.getD k ByteArray.empty)) (c % 32) (32) Z), rfEr z.b z.o z.l, rfEl z.l, rfOwn w0.heap.size 9 1 A.v A.l.length (A.l.map Value.string), rfOwn w0.heap.size 9 1 W.v W.l.length (W.l.map Value.string)], f.P w := fun f hf => (S.fs f hf).1
  refine sy_exB S (op := .buildSlice 28 0 #[]) (ty := 28) (C := fun v w' => ∃ g, v = .slice (some ⟨g, 0, none⟩) 0 0 ∧ g = w.heap.size ∧ w'.heap[g]? = some (.cells #[] 9 (0, 0)) ∧ w'.heap.size = w.heap.size + 1) (by kernel_rfl) (ex_bs0 Try.underlying28 (by kernel_rfl)) fun v0 aa w1 hC0 hb0 S => ?_
  obtain ⟨g0, rfl, hg0, hg1, hg2⟩ := hC0
  have aq0 : ∀ f ∈ [rfFz g cap (fzC (bytesOf (A.l.getD k ByteArray.empty)) (c % 32) (32) Z), rfEr z.b z.o z.l, rfEl z.l, rfOwn w0.heap.size 9 1 A.v A.l.length (A.l.map Value.string), rfOwn w0.heap.size 9 1 W.v W.l.length (W.l.map Value.string)], ∀ g, Value.ownBlock (.slice (some ⟨g0, 0, none⟩) 0 0) = some g → ¬f.bl g := fun f hf g hg hb => by
    have h1 := f.lt w (hFP0 f hf) g hb
    have h2 : some g0 = some g := hg
    simp only [Option.some.injEq] at h2
    omega
  have S := S.add (rfOwn w0.heap.size 9 1 (.slice (some ⟨g0, 0, none⟩) 0 0) 0 (([] : (List ByteArray)).map Value.string)) ⟨rfl, Or.inr ⟨g0, 0, #[], rfl, by omega, hg1, Nat.le_refl _, Nat.zero_le _, rfl, rfl⟩⟩ (fun j hj hb => by
    have h2 : some g0 = some (bs.getD j 0) := hb
    simp only [Option.some.injEq] at h2
    have := hbl0 j hj
    omega)
  refine sy_ops 1 S fun bs aa w S => ?_
  refine sy_nm S fun bs S => ?_
  have how := S.fact (f := rfOwn w0.heap.size 9 1 (.slice (some ⟨g0, 0, none⟩) 0 0) 0 (([] : (List ByteArray)).map Value.string)) (by simp)
  have hapb := (S.fs (rfOwn w0.heap.size 9 1 (.slice (some ⟨g0, 0, none⟩) 0 0) 0 (([] : (List ByteArray)).map Value.string)) (by simp)).2
  have hblk : ∀ j, j < bs.length → bs.getD j 0 < _ := fun j hj => S.lt hj
  have hFP : ∀ f ∈ [rfFz g cap (fzC (bytesOf (A.l.getD k ByteArray.empty)) (c % 32) (32) Z), rfEr z.b z.o z.l, rfEl z.l, rfOwn w0.heap.size 9 1 A.v A.l.length (A.l.map Value.string), rfOwn w0.heap.size 9 1 W.v W.l.length (W.l.map Value.string)], f.P _ := fun f hf => (S.fs f (List.mem_cons_of_mem _ hf)).1
  have hatW : W.at _ := at_of_owns (S.fact (f := rfOwn w0.heap.size 9 1 W.v W.l.length (W.l.map Value.string)) (by simp)) rfl hWo
  refine sy_exG (.slice (some ⟨g0, 0, none⟩) 0 0) [rfFz g cap (fzC (bytesOf (A.l.getD k ByteArray.empty)) (c % 32) (32) Z), rfEr z.b z.o z.l, rfEl z.l, rfOwn w0.heap.size 9 1 A.v A.l.length (A.l.map Value.string), rfOwn w0.heap.size 9 1 W.v W.l.length (W.l.map Value.string)] S (op := .call { callee := .builtin .append, args := #[.tmp 126, .tmp 127], argTypes := #[28, 28] }) (ty := 28) (by kernel_rfl) (ex_apR (v := .slice (some ⟨g0, 0, none⟩) 0 0) (z := W) (L := []) (n := 0) (by kernel_rfl) (by kernel_rfl) how hWo hatW hWc hWn (by omega) S.gr.size) (fun g hg => Or.inr (how.lt g hg).1) (fun f hf => ⟨List.mem_cons_of_mem _ hf, aq0 f hf⟩) (fun j hj h => hapb j hj h) fun v' aa w2 hC S => ?_
  have aq1 := ap_next hFP aq0 hC.2.1
  have how2 := hC.1
  rw [List.nil_append, Nat.zero_add] at how2
  obtain ⟨gt, ct, rfl, hgt, hct⟩ := own_row how2 (by omega)
  obtain ⟨TL, hTL⟩ : ∃ TL, TL = W.l := ⟨_, rfl⟩
  rw [← hTL] at how2 hct
  have aq2 : ∀ f ∈ [rfFz g cap (fzC (bytesOf (A.l.getD k ByteArray.empty)) (c % 32) (32) Z), rfEr z.b z.o z.l, rfEl z.l, rfOwn w0.heap.size 9 1 A.v A.l.length (A.l.map Value.string), rfOwn w0.heap.size 9 1 W.v W.l.length (W.l.map Value.string)], ¬f.bl gt := fun f hf => aq1 f hf gt rfl
  have S := S.add (rfOwn w0.heap.size 9 1 (.slice (some ⟨gt, 0, none⟩) TL.length ct) TL.length (TL.map Value.string)) how2 (fun j hj hb => (hC.2.1 _ hb).elim (fun q => hapb j hj q) (fun q => by have := hblk j hj; omega))
  refine sy_cast 128 S (congrArg (fun l : (List ByteArray) => Value.slice (some ⟨gt, 0, none⟩) l.length ct) hTL.symm) (by kernel_rfl) fun S => ?_
  refine sy_run ⟨0, [31]⟩ 60 S fun bs aa w S => ?_
  refine sy_reg S fun S => ?_
  refine sy_ops 3 S fun bs aa w S => ?_
  have hHB := hasB_fz (S.fact (f := rfFz g cap (fzC (bytesOf (A.l.getD k ByteArray.empty)) (c % 32) (32) Z)) (by simp)) hs32 (by omega) hcap
  refine sy_exW S (op := .convert 43 9 (.tmp 131)) (ty := 9) (v := .string (strOf (tornB (bytesOf (A.l.getD k ByteArray.empty)) (c % 32)))) (by kernel_rfl) (ex_bs (y := .v (.slice (some ⟨g, 0, none⟩) 32 cap)) (by kernel_rfl) rfl (torn_byte (byte_lt _) _) hHB) fun aa S => ?_
  obtain ⟨sk, hsk⟩ : ∃ sk, sk = strOf (tornB (bytesOf (A.l.getD k ByteArray.empty)) (c % 32)) := ⟨_, rfl⟩
  have hsk2 : sk = secK W.l k (c % 32) := by rw [hsk]; unfold secK; rw [hWk]
  refine sy_cast 132 S (congrArg Value.string hsk.symm) (by kernel_rfl) fun S => ?_
  have hap4 : ∀ f ∈ [rfEr z.b z.o z.l, rfEl z.l, rfOwn w0.heap.size 9 1 A.v A.l.length (A.l.map Value.string)], ¬f.bl gt := fun f hf => aq2 f (by simp only [List.mem_cons, List.not_mem_nil, or_false] at hf ⊢; rcases hf with rfl | rfl | rfl <;> simp)
  have hkT : k < TL.length := by rw [hTL]; omega
  refine sy_ix (b := gt) (off := 0) (len := TL.length) (n := k) (size := 1) (i := (k : Int)) S (by kernel_rfl) rfl (by omega) fun aa S => ?_
  refine sy_nm S fun bs S => ?_
  have hrow := S.fact (f := rfOwn w0.heap.size 9 1 (.slice (some ⟨gt, 0, none⟩) TL.length ct) TL.length (TL.map Value.string)) (by simp)
  have hfa := (S.fs (rfOwn w0.heap.size 9 1 (.slice (some ⟨gt, 0, none⟩) TL.length ct) TL.length (TL.map Value.string)) (by simp)).2
  obtain ⟨hst, hh⟩ := st_row hrow (by first | exact (tornT_len _ _ _ _).symm ▸ congrArg List.length hTL | exact congrArg List.length hTL | rfl) k (by omega) sk
  rw [show TL.set k sk = tornT W.l k sk (k + 1) by rw [hTL]; exact tornT_0 _ _ _ (by omega)] at hh
  refine sy_sto (ty := 9) (ad := ⟨gt, 0 + k * 1, none⟩) (x := .v (.string sk)) (v := .string sk) S (by kernel_rfl) rfl hst (gb_setC w gt _ _) (Or.inr hgt) [rfEr z.b z.o z.l, rfEl z.l, rfOwn w0.heap.size 9 1 A.v A.l.length (A.l.map Value.string)] (fun f hf => ⟨by simp only [List.mem_cons, List.not_mem_nil, or_false] at hf ⊢; rcases hf with rfl | rfl | rfl <;> simp, hap4 f hf⟩) (fun i hi e => hfa i hi (by show some gt = some _; rw [e])) fun aa S => ?_
  have S := S.add (rfOwn w0.heap.size 9 1 (.slice (some ⟨gt, 0, none⟩) TL.length ct) TL.length ((tornT W.l k sk (k + 1)).map Value.string)) hh (fun i hi hb => hfa i hi hb)
  refine sy_run ⟨0, [32]⟩ 60 S fun bs aa w S => ?_
  refine sy_reg S fun S => ?_
  refine sy_ops 2 S fun bs aa w S => ?_
  refine sy_cast 135 S (congrArg (Value.int .i64) (by rw [IntKind.wrap_i64]; omega : IntKind.i64.wrap ((k : Int) + 1) = ((k + 1 : Nat) : Int))) (by kernel_rfl) fun S => ?_
  refine sy_run ⟨0, []⟩ 60 S fun bs aa w S => ?_
  have S := S.sub (F' := [rfEr z.b z.o z.l, rfEl z.l, rfOwn w0.heap.size 9 1 A.v A.l.length (A.l.map Value.string), rfOwn w0.heap.size 9 1 (.slice (some ⟨gt, 0, none⟩) TL.length ct) TL.length ((tornT W.l k sk (k + 1)).map Value.string)]) (by intro f hf; simp only [List.mem_cons, List.not_mem_nil, or_false] at hf; rcases hf with rfl | rfl | rfl | rfl <;> simp)
  have S2 := S.to [] (ww4S z A ends E0 k gt ct TL (k + 1)) (by kernel_rfl) (by kernel_rfl) (by kernel_rfl) (by kernel_rfl) (by kernel_rfl)
  refine sy_loop (TL.length - (k + 1) + 1) (by kernel_rfl) ?_
  refine sy_at2 (k' := (.rnd (TL.length - (k + 1) + 1) (bodyL ww4C) :: ww4C.k.tail)) (by kernel_rfl) ?_
  exact ww4_l w0 z hz hz5 hz1 hzc hok hasc s c n hs hcc hn A ends hA hAo hAc hAb hen hen2 hA125 E0 hE W hW hWo hWc hWb hW133 hWA k hk1 hk2 sk hsk2 gt ct TL hTL hgt hct hap4 (TL.length - (k + 1)) (k + 1) (by omega) (by omega) aa _ S2
theorem ww3_l : ∀ (r j : Nat), j + r = 32 → c % 32 ≤ j → ∀ (aa : Act) (w : World) (S : Sy w0 [] [] (ww3S z A ends E0 W k g cap (j)) [rfFz g cap (fzC (bytesOf (A.l.getD k ByteArray.empty)) (c % 32) (j) Z), rfEr z.b z.o z.l, rfEl z.l, rfOwn w0.heap.size 9 1 A.v A.l.length (A.l.map Value.string), rfOwn w0.heap.size 9 1 W.v W.l.length (W.l.map Value.string)] aa w), post Try.prog (.rnd (r + 1) (bodyL ww3C) :: ww3C.k.tail) (bodyPost Try.prog Try.f8 fun y w' => y = .returned (.bool true) ∧ Below w0.heap.size w0 w') .normal aa w := by
  intro r
  induction r with
  | zero => intro j hj hcj aa w S; obtain rfl : j = 32 := by omega
            exact ww3_e w0 z hz hz5 hz1 hzc hok hasc s c n hs hcc hn A ends hA hAo hAc hAb hen hen2 hA125 E0 hE W hW hWo hWc hWb hW133 hWA k hk1 hk2 g cap Z hcap hZ hgb hgap hs32 0 aa w S
  | succ r ih => intro j hj hcj aa w S; exact ww3_s w0 z hz hz5 hz1 hzc hok hasc s c n hs hcc hn A ends hA hAo hAc hAb hen hen2 hA125 E0 hE W hW hWo hWc hWb hW133 hWA k hk1 hk2 g cap Z hcap hZ hgb hgap hs32 (r + 1) j (by omega) hcj (ih (j + 1) (by omega) (by omega)) aa w S
end
end
set_option maxHeartbeats 8000000 in
theorem ww2_e (m : Nat) (W : Sr) (hW : W.l = A.l ++ List.replicate (n % 9) E0) (hWo : W.ok) (hWc : W.l.length ≤ W.c) (hWb : W.l.length = 0 ∨ w0.heap.size ≤ W.b) (hap : (∀ f ∈ [rfEr z.b z.o z.l, rfEl z.l, rfOwn w0.heap.size 9 1 A.v A.l.length (A.l.map Value.string)], ∀ g, Value.ownBlock W.v = some g → ¬f.bl g)) (aa : Act) (w : World) (S : Sy w0 [] [] (ww2S z s c n A ends E0 W (n % 9)) [rfEr z.b z.o z.l, rfEl z.l, rfOwn w0.heap.size 9 1 A.v A.l.length (A.l.map Value.string), rfOwn w0.heap.size 9 1 W.v W.l.length (W.l.map Value.string)] aa w) : post Try.prog (.rnd (m + 1) (bodyL ww2C) :: ww2C.k.tail) (bodyPost Try.prog Try.f8 fun y w' => y = .returned (.bool true) ∧ Below w0.heap.size w0 w') .normal aa w := by
  have hzb : ∀ e ∈ z.l, e.ok ∧ e.ws.length ≤ 100000 := fun e he => by
    refine ⟨(hok e he).1, ?_⟩
    have := valid_len (ascR_mem _ 0 hasc (prE e) (List.mem_map_of_mem he)).2
    show e.ws.length ≤ 100000
    have e2 : (prE e).2 = e.ws := rfl
    rw [e2] at this
    omega
  have hW2 : W.l = wholeL (z.l.map prE) (n % 9) := by rw [hW, hA, hE]; rfl
  have hWl : W.l.length = A.l.length + n % 9 := by rw [hW, List.length_append, List.length_replicate]
  have hrec : recS (W.l.length + 1) W.l 0 0 = (z.l.map prE, (recsE (z.l.map prE)).length) := by
    conv => lhs; arg 2; rw [hW2]
    refine rec_whole hasc _ _ ?_
    have hge := recsE_ge _ 0 hasc
    rw [List.length_map, ← hA] at hge
    rw [List.length_map]
    omega
  obtain ⟨Rx, hRx⟩ : ∃ R, recS (W.l.length + 1) W.l 0 0 = R := ⟨_, rfl⟩
  have hRxe := hRx.symm.trans hrec
  refine sy_run (c := ⟨(.rnd (m + 1) (bodyL ww2C) :: ww2C.k.tail), ww2S z s c n A ends E0 W (n % 9)⟩) ⟨0, [16]⟩ 50 S fun bs aa w S => ?_
  refine sy_reg S fun S => ?_
  refine sy_ops 4 S fun bs aa w S => ?_
  refine sy_cast 70 S (congrArg (Value.int .i64) (by rw [show Int.tmod (n : Int) 9 = ((n % 9 : Nat) : Int) from rfl, IntKind.wrap_i64]; omega : IntKind.i64.wrap (Int.tmod (n : Int) 9) = ((n % 9 : Nat) : Int))) (by kernel_rfl) fun S => ?_
  refine sy_ops 1 S fun bs aa w S => ?_
  refine sy_cast 71 S (congrArg Value.bool (decide_eq_false (by omega) : decide (((n % 9 : Nat) : Int) < ((n % 9 : Nat) : Int)) = false)) (by kernel_rfl) fun S => ?_
  refine sy_run ⟨0, [19]⟩ 60 S fun bs aa w S => ?_
  refine sy_reg S fun S => ?_
  refine sy_ops 1 S fun bs aa w S => ?_
  refine sy_nm S fun bs S => ?_
  have hblx : ∀ j, j < bs.length → bs.getD j 0 < w.heap.size := fun j hj => S.lt hj
  have hcx := recover_t w W hWo hWc (by first | omega | (show TLf.length ≤ 1000; omega)) (at_of_owns (S.fact (f := rfOwn w0.heap.size 9 1 W.v W.l.length (W.l.map Value.string)) (by simp)) rfl hWo)
  rw [hRx] at hcx
  refine sy_call S (X := Er) (val := fun q => .tuple #[q.v, .int .i64 (Rx.2 : Int)]) (C := recQ Rx w.heap.size) (hcx.mono fun y w' h => rec_er h) (by kernel_rfl) fun x aa w1 hx hb S => ?_
  have S := S.add (rfEr x.b x.o x.l) hx.2.2.1 (fun j hj hb => by
    obtain ⟨q1, q2⟩ := hb
    have := hblx j hj
    have := hx.2.2.2.1.resolve_left q2
    omega)
  have S := S.add (rfEl x.l) hx.2.2.2.2.2 (fun j hj hb => by
    obtain ⟨e, he, q1, q2⟩ := hb
    have := hblx j hj
    have := (hx.2.2.2.2.1 e he).2.resolve_left q2
    omega)
  have hxp : x.l.map prE = z.l.map prE := hx.1.trans (congrArg Prod.fst hRxe)
  have hxb : ∀ e ∈ x.l, e.ok ∧ e.ws.length ≤ 100000 := fun e he => by
    refine ⟨(hx.2.2.2.2.1 e he).1, ?_⟩
    have hm : prE e ∈ z.l.map prE := by rw [← hxp]; exact List.mem_map_of_mem he
    have := valid_len (ascR_mem _ 0 hasc (prE e) hm).2
    have e2 : (prE e).2 = e.ws := rfl
    rw [e2] at this
    omega
  have hxn : x.l.length ≤ 100000 := by
    have q := congrArg List.length hxp
    simp only [List.length_map, List.length_take] at q
    omega
  refine sy_run ⟨0, [20]⟩ 60 S fun bs aa w S => ?_
  refine sy_reg S fun S => ?_
  refine sy_ops 2 S fun bs aa w S => ?_
  refine sy_call1 S (v := .bool true) (by
    have h := all_t w x.l z.l x.a z.a x.c z.c x.b x.o z.b z.o hx.2.1 hz hxn hxb hzb (S.fact (f := rfEr x.b x.o x.l) (by simp)) (S.fact (f := rfEr z.b z.o z.l) (by simp)) (S.fact (f := rfEl x.l) (by simp)) (S.fact (f := rfEl z.l) (by simp))
    rw [decide_eq_true (hxp)] at h
    exact h) (by kernel_rfl) fun aa w hb S => ?_
  refine sy_ops 6 S fun bs aa w S => ?_
  refine sy_cast 91 S (congrArg Value.bool (by rw [decide_eq_true (by rw [hRxe, hA])]; rfl : (!decide ((Rx.2 : Int) = (A.l.length : Int))) = false)) (by kernel_rfl) fun S => ?_
  refine sy_ops 6 S fun bs aa w S => ?_
  refine sy_cast 97 S (congrArg Value.bool (decide_eq_false (by omega) : decide ((ends : Int) ≥ (A.l.length : Int)) = false)) (by kernel_rfl) fun S => ?_
  refine sy_run ⟨0, [22]⟩ 60 S fun bs aa w S => ?_
  refine sy_reg S fun S => ?_
  refine sy_ops 7 S fun bs aa w S => ?_
  refine sy_cast 101 S (congrArg (Value.int .i64) (by rw [IntKind.wrap_i64]; omega : IntKind.i64.wrap (s : Int) = (s : Int))) (by kernel_rfl) fun S => ?_
  refine sy_cast 105 S (congrArg (Value.int .i64) (by rw [IntKind.wrap_i64]; omega : IntKind.i64.wrap ((A.l.length : Int) - (ends : Int)) = ((A.l.length - ends : Nat) : Int))) (by kernel_rfl) fun S => ?_
  have hmod := Nat.mod_lt s (show 0 < A.l.length - ends by omega)
  refine sy_ex (op := .binOp .rem 3 (.tmp 101) (.tmp 105) 3) (ty := 3) (v := .int .i64 ((s % (A.l.length - ends) : Nat) : Int)) S (by kernel_rfl) (ex_rem (ki := .i64) (p := (s : Int)) (q := ((A.l.length - ends : Nat) : Int)) (by kernel_rfl) (by kernel_rfl) (by omega) (tm_n _ _)) fun aa S => ?_
  obtain ⟨k, hkd⟩ : ∃ k, k = ends + s % (A.l.length - ends) := ⟨_, rfl⟩
  refine sy_ops 1 S fun bs aa w S => ?_
  refine sy_cast 107 S (congrArg (Value.int .i64) (by rw [IntKind.wrap_i64]; omega : IntKind.i64.wrap ((ends : Int) + ((s % (A.l.length - ends) : Nat) : Int)) = (k : Int))) (by kernel_rfl) fun S => ?_
  have hk1 : ends ≤ k := by omega
  have hk2 : k < A.l.length := by omega
  have hsz : (A.l.getD k ByteArray.empty).size = 32 := by
    have hm := getD_mem A.l k ByteArray.empty hk2
    rw [hA] at hm
    simp only [recsE, List.mem_flatMap] at hm
    obtain ⟨p, hp, hm⟩ := hm
    rw [hA]
    exact recE_sizes (ascR_mem _ 0 hasc p hp).1 _ hm
  have hs32 : (bytesOf (A.l.getD k ByteArray.empty)).length = 32 := by rw [bytesOf_length]; exact hsz
  refine sy_run ⟨0, [23]⟩ 60 S fun bs aa w S => ?_
  refine sy_reg S fun S => ?_
  refine sy_ops 2 S fun bs aa w S => ?_
  refine sy_ix (b := A.b) (off := A.o) (len := A.l.length) (n := k) (size := 1) (i := (k : Int)) S (by rw [← hAo.resolve_left (by omega)]; kernel_rfl) rfl hk2 fun aa S => ?_
  refine sy_ldo S (ld_at (ty := 9) (b := A.b) (off := A.o + k * 1) (by kernel_rfl) (by rw [Nat.mul_one]; exact at_of_owns (S.fact (f := rfOwn w0.heap.size 9 1 A.v A.l.length (A.l.map Value.string)) (by simp)) rfl hAo k hk2)) (by kernel_rfl) fun aa S => ?_
  have S := S.sub (F' := [rfEr z.b z.o z.l, rfEl z.l, rfOwn w0.heap.size 9 1 A.v A.l.length (A.l.map Value.string), rfOwn w0.heap.size 9 1 W.v W.l.length (W.l.map Value.string)]) (by intro f hf; simp only [List.mem_cons, List.not_mem_nil, or_false] at hf; rcases hf with rfl | rfl | rfl | rfl <;> simp)
  refine sy_nm S fun bs S => ?_
  have hblk : ∀ j, j < bs.length → bs.getD j 0 < w.heap.size := fun j hj => S.lt hj
  obtain ⟨g, hgd⟩ : ∃ g, g = w.heap.size := ⟨_, rfl⟩
  have hgs : w0.heap.size ≤ g := by rw [hgd]; exact S.gr.size
  have hgap : ∀ f ∈ [rfEr z.b z.o z.l, rfEl z.l, rfOwn w0.heap.size 9 1 A.v A.l.length (A.l.map Value.string), rfOwn w0.heap.size 9 1 W.v W.l.length (W.l.map Value.string)], ¬f.bl g := fun f hf hb => by
    have := f.lt w (S.fs f hf).1 _ hb
    omega
  refine sy_exB S (by kernel_rfl) (fun o ρ h1 h2 h3 => ex_sb2 (x := .tmp 111) (p := (A.l.getD k ByteArray.empty)) (by kernel_rfl) (by rw [hsz]; decide) o ρ h1 h2 h3) fun v aa w' hC hb S => ?_
  obtain ⟨cap, Z, hv0, hc1, hc2, hZ, hh⟩ := hC
  rw [← hgd] at hv0 hh
  subst hv0
  rw [hsz] at hc1 hZ
  rw [← fzC_0 _ (c % 32) Z] at hh
  have S := S.add (rfFz g cap (fzC (bytesOf (A.l.getD k ByteArray.empty)) (c % 32) (c % 32) Z)) hh (fun j hj hb => by
    have e1 : bs.getD j 0 = g := hb
    have := hblk j hj
    omega)
  refine sy_cast 112 S (congrArg (fun n => Value.slice (some ⟨g, 0, none⟩) n cap) hsz) (by kernel_rfl) fun S => ?_
  refine sy_run ⟨0, [26]⟩ 60 S fun bs aa w S => ?_
  refine sy_reg S fun S => ?_
  refine sy_ops 3 S fun bs aa w S => ?_
  refine sy_cast 118 S (congrArg (Value.int .i64) (by rw [show Int.tmod (c : Int) 32 = ((c % 32 : Nat) : Int) from rfl, IntKind.wrap_i64]; omega : IntKind.i64.wrap (Int.tmod (c : Int) 32) = ((c % 32 : Nat) : Int))) (by kernel_rfl) fun S => ?_
  refine sy_run ⟨0, []⟩ 60 S fun bs aa w S => ?_
  have S2 := S.to [] (ww3S z A ends E0 W k g cap (c % 32)) (by kernel_rfl) (by kernel_rfl) (by kernel_rfl) (by kernel_rfl) (by kernel_rfl)
  refine sy_loop (32 - c % 32 + 1) (by kernel_rfl) ?_
  refine sy_at2 (k' := (.rnd (32 - c % 32 + 1) (bodyL ww3C) :: ww3C.k.tail)) (by kernel_rfl) ?_
  exact ww3_l w0 z hz hz5 hz1 hzc hok hasc s c n hs hcc hn A ends hA hAo hAc hAb hen hen2 hA125 E0 hE W hW2 hWo hWc hWb (by omega) (by omega) k hk1 hk2 g cap Z ⟨hc1, hc2⟩ hZ hgs hgap hs32 (32 - c % 32) (c % 32) (by omega) (Nat.le_refl _) aa _ S2
theorem ww2_l : ∀ (r i : Nat), i + r = n % 9 → ∀ (W : Sr) (hW : W.l = A.l ++ List.replicate (i) E0) (hWo : W.ok) (hWc : W.l.length ≤ W.c) (hWb : W.l.length = 0 ∨ w0.heap.size ≤ W.b) (hap : (∀ f ∈ [rfEr z.b z.o z.l, rfEl z.l, rfOwn w0.heap.size 9 1 A.v A.l.length (A.l.map Value.string)], ∀ g, Value.ownBlock W.v = some g → ¬f.bl g)) (aa : Act) (w : World) (S : Sy w0 [] [] (ww2S z s c n A ends E0 W (i)) [rfEr z.b z.o z.l, rfEl z.l, rfOwn w0.heap.size 9 1 A.v A.l.length (A.l.map Value.string), rfOwn w0.heap.size 9 1 W.v W.l.length (W.l.map Value.string)] aa w), post Try.prog (.rnd (r + 1) (bodyL ww2C) :: ww2C.k.tail) (bodyPost Try.prog Try.f8 fun y w' => y = .returned (.bool true) ∧ Below w0.heap.size w0 w') .normal aa w := by
  intro r
  induction r with
  | zero => intro i hi W hW hWo hWc hWb hap aa w S; obtain rfl : i = n % 9 := by omega
            exact ww2_e w0 z hz hz5 hz1 hzc hok hasc s c n hs hcc hn A ends hA hAo hAc hAb hen hen2 hA125 E0 hE 0 W hW hWo hWc hWb hap aa w S
  | succ r ih => intro i hi W hW hWo hWc hWb hap aa w S; exact ww2_s w0 z hz hz5 hz1 hzc hok hasc s c n hs hcc hn A ends hA hAo hAc hAb hen hen2 hA125 E0 hE (r + 1) i (by omega) W hW hWo hWc hWb hap (fun W' hW' hWo' hWc' hWb' hap' => ih (i + 1) (by omega) W' hW' hWo' hWc' hWb' hap') aa w S
end
set_option maxHeartbeats 8000000 in
theorem ww1_e (m : Nat) (A : Sr) (ends : Nat) (hA : A.l = rE z (z.l.length)) (hAo : A.ok) (hAc : A.l.length ≤ A.c) (hAb : A.l.length = 0 ∨ w0.heap.size ≤ A.b) (hap : (∀ f ∈ [rfEr z.b z.o z.l, rfEl z.l], ∀ g, Value.ownBlock A.v = some g → ¬f.bl g)) (hen : (z.l.length) ≠ 0 → ends = (rE z ((z.l.length) - 1)).length) (aa : Act) (w : World) (S : Sy w0 [] [] (ww1S z s c n A ends (z.l.length)) [rfEr z.b z.o z.l, rfEl z.l, rfOwn w0.heap.size 9 1 A.v A.l.length (A.l.map Value.string)] aa w) : post Try.prog (.rnd (m + 1) (bodyL ww1C) :: ww1C.k.tail) (bodyPost Try.prog Try.f8 fun y w' => y = .returned (.bool true) ∧ Below w0.heap.size w0 w') .normal aa w := by
  have hA2 : A.l = recsE (z.l.map prE) := hA.trans (rE_all z)
  have hen' := hen (by omega)
  have hA125 := rE_len z (fun e he => (hok e he).2) z.l.length (Nat.le_refl _)
  rw [← hA] at hA125
  have hme := getD_mem z.l (z.l.length - 1) e00 (by omega)
  have hev := (ascR_mem _ 0 hasc (prE (z.l.getD (z.l.length - 1) e00)) (List.mem_map_of_mem hme)).2
  have hm := recE_many (hok _ hme).2 hev
  have hen2 : ends < A.l.length := by
    have e := rE_succ z (z.l.length - 1) (by omega)
    rw [show z.l.length - 1 + 1 = z.l.length by omega, ← hA] at e
    have e2 := recE_valid hev
    have e3 := congrArg List.length e
    rw [List.length_append, ← hen'] at e3
    have e4 := congrArg List.length e2
    rw [recL_len] at e4
    have e5 : (recE (z.l.getD (z.l.length - 1) e00).ver (z.l.getD (z.l.length - 1) e00).ws).length = manyL (payE (z.l.getD (z.l.length - 1) e00).ver (z.l.getD (z.l.length - 1) e00).ws) := e4
    omega
  have hAn : A.a = none → A.c = 0 := fun h => by rw [hAo.resolve_left (by omega)] at h; cases h
  refine sy_run (c := ⟨(.rnd (m + 1) (bodyL ww1C) :: ww1C.k.tail), ww1S z s c n A ends z.l.length⟩) ⟨0, [7]⟩ 50 S fun bs aa w S => ?_
  refine sy_reg S fun S => ?_
  refine sy_ops 4 S fun bs aa w S => ?_
  refine sy_cast 43 S (congrArg Value.bool (decide_eq_false (by omega) : decide ((z.l.length : Int) < (z.l.length : Int)) = false)) (by kernel_rfl) fun S => ?_
  refine sy_run ⟨0, [13]⟩ 60 S fun bs aa w S => ?_
  refine sy_reg S fun S => ?_
  refine sy_mk (t := 43) (u := .int .i64 ((32 : Nat) : Int)) (v := .int .i64 ((32 : Nat) : Int)) (n := 32) (cs := List.replicate 32 (Value.int .u8 0)) (e := 5) S (by kernel_rfl) (mk_ru 32 (by decide)) fun eg aa w hb0 hnb hnf hh hb S => ?_
  refine sy_exW S (op := .convert 43 9 (.tmp 62)) (ty := 9) (v := .string (strOf (List.replicate 32 0))) (by kernel_rfl) (ex_bs (y := .v (.slice (some ⟨eg, 0, none⟩) 32 32)) (by kernel_rfl) rfl (by intro b hb; rw [List.mem_replicate] at hb; omega) (hasB_0 (by decide) hh)) fun aa S => ?_
  obtain ⟨E0, hE⟩ : ∃ E0, E0 = zeroS := ⟨_, rfl⟩
  refine sy_cast 63 S (congrArg Value.string (show strOf (List.replicate 32 0) = E0 from hE.symm)) (by kernel_rfl) fun S => ?_
  refine sy_run ⟨0, [14]⟩ 60 S fun bs aa w S => ?_
  refine sy_reg S fun S => ?_
  refine sy_nm S fun bs S => ?_
  have hbl0 : ∀ j, j < bs.length → bs.getD j 0 < w.heap.size := fun j hj => S.lt hj
  have hgs := S.gr.size
  have hFP0 : ∀ f ∈ [rfEr z.b z.o z.l, rfEl z.l, rfOwn w0.heap.size 9 1 A.v A.l.length (A.l.map Value.string)], f.P w := fun f hf => (S.fs f hf).1
  refine sy_exB S (op := .buildSlice 28 0 #[]) (ty := 28) (C := fun v w' => ∃ g, v = .slice (some ⟨g, 0, none⟩) 0 0 ∧ g = w.heap.size ∧ w'.heap[g]? = some (.cells #[] 9 (0, 0)) ∧ w'.heap.size = w.heap.size + 1) (by kernel_rfl) (ex_bs0 Try.underlying28 (by kernel_rfl)) fun v0 aa w1 hC0 hb0 S => ?_
  obtain ⟨g0, rfl, hg0, hg1, hg2⟩ := hC0
  have aq0 : ∀ f ∈ [rfEr z.b z.o z.l, rfEl z.l, rfOwn w0.heap.size 9 1 A.v A.l.length (A.l.map Value.string)], ∀ g, Value.ownBlock (.slice (some ⟨g0, 0, none⟩) 0 0) = some g → ¬f.bl g := fun f hf g hg hb => by
    have h1 := f.lt w (hFP0 f hf) g hb
    have h2 : some g0 = some g := hg
    simp only [Option.some.injEq] at h2
    omega
  have S := S.add (rfOwn w0.heap.size 9 1 (.slice (some ⟨g0, 0, none⟩) 0 0) 0 (([] : (List ByteArray)).map Value.string)) ⟨rfl, Or.inr ⟨g0, 0, #[], rfl, by omega, hg1, Nat.le_refl _, Nat.zero_le _, rfl, rfl⟩⟩ (fun j hj hb => by
    have h2 : some g0 = some (bs.getD j 0) := hb
    simp only [Option.some.injEq] at h2
    have := hbl0 j hj
    omega)
  refine sy_ops 1 S fun bs aa w S => ?_
  refine sy_nm S fun bs S => ?_
  have how := S.fact (f := rfOwn w0.heap.size 9 1 (.slice (some ⟨g0, 0, none⟩) 0 0) 0 (([] : (List ByteArray)).map Value.string)) (by simp)
  have hapb := (S.fs (rfOwn w0.heap.size 9 1 (.slice (some ⟨g0, 0, none⟩) 0 0) 0 (([] : (List ByteArray)).map Value.string)) (by simp)).2
  have hblk : ∀ j, j < bs.length → bs.getD j 0 < _ := fun j hj => S.lt hj
  have hFP : ∀ f ∈ [rfEr z.b z.o z.l, rfEl z.l, rfOwn w0.heap.size 9 1 A.v A.l.length (A.l.map Value.string)], f.P _ := fun f hf => (S.fs f (List.mem_cons_of_mem _ hf)).1
  have hatA : A.at _ := at_of_owns (S.fact (f := rfOwn w0.heap.size 9 1 A.v A.l.length (A.l.map Value.string)) (by simp)) rfl hAo
  refine sy_exG (.slice (some ⟨g0, 0, none⟩) 0 0) [rfEr z.b z.o z.l, rfEl z.l, rfOwn w0.heap.size 9 1 A.v A.l.length (A.l.map Value.string)] S (op := .call { callee := .builtin .append, args := #[.tmp 64, .tmp 65], argTypes := #[28, 28] }) (ty := 28) (by kernel_rfl) (ex_apR (v := .slice (some ⟨g0, 0, none⟩) 0 0) (z := A) (L := []) (n := 0) (by kernel_rfl) (by kernel_rfl) how hAo hatA hAc hAn (by omega) S.gr.size) (fun g hg => Or.inr (how.lt g hg).1) (fun f hf => ⟨List.mem_cons_of_mem _ hf, aq0 f hf⟩) (fun j hj h => hapb j hj h) fun v' aa w2 hC S => ?_
  have hap2 := ap_next hFP aq0 hC.2.1
  have how2 := hC.1
  rw [List.nil_append, Nat.zero_add] at how2
  obtain ⟨W, hW1, rfl, hW2, hW3, hW4, hW5⟩ := sr_of_owns how2
  rw [← hW1] at how2
  have S := S.add (rfOwn w0.heap.size 9 1 W.v W.l.length (W.l.map Value.string)) how2 (fun j hj hb => (hC.2.1 _ hb).elim (fun q => hapb j hj q) (fun q => by have := hblk j hj; omega))
  refine sy_run ⟨0, []⟩ 60 S fun bs aa w S => ?_
  have S := S.sub (F' := [rfEr z.b z.o z.l, rfEl z.l, rfOwn w0.heap.size 9 1 A.v A.l.length (A.l.map Value.string), rfOwn w0.heap.size 9 1 W.v W.l.length (W.l.map Value.string)]) (by intro f hf; simp only [List.mem_cons, List.not_mem_nil, or_false] at hf; rcases hf with rfl | rfl | rfl | rfl <;> simp)
  have S2 := S.to [] (ww2S z s c n A ends E0 W 0) (by kernel_rfl) (by kernel_rfl) (by kernel_rfl) (by kernel_rfl) (by kernel_rfl)
  refine sy_loop (n % 9 + 1) (by kernel_rfl) ?_
  refine sy_at2 (k' := (.rnd (n % 9 + 1) (bodyL ww2C) :: ww2C.k.tail)) (by kernel_rfl) ?_
  exact ww2_l w0 z hz hz5 hz1 hzc hok hasc s c n hs hcc hn A ends hA2 hAo hAc hAb hen' hen2 (by omega) E0 hE (n % 9) 0 (by omega) W (by rw [hW1]; simp) hW2 hW4 (by rw [hW1]; exact hW5) hap2 aa _ S2
theorem ww1_l : ∀ (r i : Nat), i + r = z.l.length → ∀ (A : Sr) (ends : Nat) (hA : A.l = rE z (i)) (hAo : A.ok) (hAc : A.l.length ≤ A.c) (hAb : A.l.length = 0 ∨ w0.heap.size ≤ A.b) (hap : (∀ f ∈ [rfEr z.b z.o z.l, rfEl z.l], ∀ g, Value.ownBlock A.v = some g → ¬f.bl g)) (hen : (i) ≠ 0 → ends = (rE z ((i) - 1)).length) (aa : Act) (w : World) (S : Sy w0 [] [] (ww1S z s c n A ends (i)) [rfEr z.b z.o z.l, rfEl z.l, rfOwn w0.heap.size 9 1 A.v A.l.length (A.l.map Value.string)] aa w), post Try.prog (.rnd (r + 1) (bodyL ww1C) :: ww1C.k.tail) (bodyPost Try.prog Try.f8 fun y w' => y = .returned (.bool true) ∧ Below w0.heap.size w0 w') .normal aa w := by
  intro r
  induction r with
  | zero => intro i hi A ends hA hAo hAc hAb hap hen aa w S; obtain rfl : i = z.l.length := by omega
            exact ww1_e w0 z hz hz5 hz1 hzc hok hasc s c n hs hcc hn 0 A ends hA hAo hAc hAb hap hen aa w S
  | succ r ih => intro i hi A ends hA hAo hAc hAb hap hen aa w S; exact ww1_s w0 z hz hz5 hz1 hzc hok hasc s c n hs hcc hn (r + 1) i (by omega) A ends hA hAo hAc hAb hap hen (fun A' ends' h1 h2 h3 h4 h5 h6 => ih (i + 1) (by omega) A' ends' h1 h2 h3 h4 h5 h6) aa w S
end
set_option maxHeartbeats 8000000 in
theorem wrecover (w0 : World) (z : Er) (hz : z.l.length = 0 ∨ z.a = some ⟨z.b, z.o, none⟩) (hzc : z.l.length ≤ z.c) (hok : ∀ e ∈ z.l, e.ok ∧ fitE e.ver e.ws) (hAt : ErAt w0 z.b z.o z.l) (hWr : ∀ e ∈ z.l, WrAt w0 e.b e.o e.ws) (s c n : Nat) (hs : s < 256) (hcc : c < 256) (hn : n < 256) : Calls Try.prog 8 #[z.v, .int .u8 (s : Int), .int .u8 (c : Int), .int .u8 (n : Int)] w0 fun y w' => y = .returned (.bool true) ∧ Below w0.heap.size w0 w' := by
  refine sy_enterF [] [rfEr z.b z.o z.l, rfEl z.l] (by intro f hf; simp only [List.mem_cons, List.not_mem_nil, or_false] at hf; rcases hf with rfl | rfl; exact hAt; exact hWr) Try.func8 rfl rfl fun aa S => ?_
  refine sy_run ⟨0, [1]⟩ 60 S fun bs aa w S => ?_
  refine sy_reg S fun S => ?_
  refine sy_call1 S (sane23 w) (by kernel_rfl) fun aa w hb S => ?_
  refine sy_run ⟨0, [2]⟩ 60 S fun bs aa w S => ?_
  refine sy_reg S fun S => ?_
  refine sy_ops 3 S fun bs aa w S => ?_
  by_cases h5 : z.l.length ≤ 5
  case neg =>
    refine sy_cast 28 S (congrArg Value.bool (decide_eq_true (by omega) : decide ((z.l.length : Int) > 5) = true)) (by kernel_rfl) fun S => ?_
    refine sy_run ⟨0, []⟩ 60 S fun bs aa w S => ?_
    exact sy_ret S (by kernel_rfl) (by kernel_rfl) fun hg => ⟨rfl, bel_gr hg⟩
  refine sy_cast 28 S (congrArg Value.bool (decide_eq_false (by omega) : decide ((z.l.length : Int) > 5) = false)) (by kernel_rfl) fun S => ?_
  refine sy_ops 4 S fun bs aa w S => ?_
  by_cases h1 : 1 ≤ z.l.length
  case neg =>
    refine sy_cast 32 S (congrArg Value.bool (decide_eq_true (by omega) : decide ((z.l.length : Int) = 0) = true)) (by kernel_rfl) fun S => ?_
    refine sy_run ⟨0, []⟩ 60 S fun bs aa w S => ?_
    exact sy_ret S (by kernel_rfl) (by kernel_rfl) fun hg => ⟨rfl, bel_gr hg⟩
  refine sy_cast 32 S (congrArg Value.bool (decide_eq_false (by omega) : decide ((z.l.length : Int) = 0) = false)) (by kernel_rfl) fun S => ?_
  refine sy_ops 3 S fun bs aa w S => ?_
  refine sy_call1 S (rising_t w z hz (by omega) (fun e he => (hok e he).1) (S.fact (f := rfEr z.b z.o z.l) (by simp)) (S.fact (f := rfEl z.l) (by simp))) (by kernel_rfl) fun aa w hb S => ?_
  rcases Bool.eq_false_or_eq_true (risI z.l 0) with hr | hr
  rotate_left
  · refine sy_cast 36 S (congrArg Value.bool hr) (by kernel_rfl) fun S => ?_
    refine sy_run ⟨0, []⟩ 60 S fun bs aa w S => ?_
    exact sy_ret S (by kernel_rfl) (by kernel_rfl) fun hg => ⟨rfl, bel_gr hg⟩
  · refine sy_cast 36 S (congrArg Value.bool hr) (by kernel_rfl) fun S => ?_
    have hasc : ascR 0 (z.l.map prE) := ris_asc _ 0 hr (fun p hp => by
      obtain ⟨e, he, rfl⟩ := List.mem_map.1 hp
      exact (hok e he).2)
    obtain ⟨A, hAd⟩ : ∃ A : Sr, A = ⟨none, 0, 0, 0, []⟩ := ⟨_, rfl⟩
    refine sy_run ⟨0, []⟩ 60 S fun bs aa w S => ?_
    have S := S.add (rfOwn w0.heap.size 9 1 A.v A.l.length (A.l.map Value.string)) (by rw [hAd]; exact World.ownsRow_nil _ _ _ _) (fun i hi h => by rw [hAd] at h; cases h)
    have S := S.sub (F' := [rfEr z.b z.o z.l, rfEl z.l, rfOwn w0.heap.size 9 1 A.v A.l.length (A.l.map Value.string)]) (by intro f hf; simp only [List.mem_cons, List.not_mem_nil, or_false] at hf; rcases hf with rfl | rfl | rfl <;> simp)
    refine sy_cast 10 S (show Value.slice none 0 0 = A.v by rw [hAd]; rfl) (by kernel_rfl) fun S => ?_
    have S2 := S.to [] (ww1S z s c n A 0 0) (by kernel_rfl) (by kernel_rfl) (by kernel_rfl) (by kernel_rfl) (by kernel_rfl)
    refine sy_loop (z.l.length + 1) (by kernel_rfl) ?_
    refine sy_at2 (k' := (.rnd (z.l.length + 1) (bodyL ww1C) :: ww1C.k.tail)) (by kernel_rfl) ?_
    exact ww1_l w0 z hz h5 h1 hzc hok hasc s c n hs hcc hn z.l.length 0 (by omega) A 0 (by rw [hAd]; rfl) (by rw [hAd]; exact Or.inl rfl) (by rw [hAd]; exact Nat.le_refl _) (by rw [hAd]; exact Or.inl rfl) (by rw [hAd]; intro f hf g hg; cases hg) (fun h => absurd rfl h) aa w S2
end Go.Proofs.Ytaclhiagfgmgkaa
