/-
  Merged: WlW, WlX, WlY, WlZ, Wn1, Wn2, Wn3
-/
import Derived.Test.YtfhmdlihnidjoaaRows
import Derived.Test.YtfhmdlihnidjoaaPe2
import Derived.Test.YtfhmdlihnidjoaaPe14
import Derived.Test.YtfhmdlihnidjoaaPe16
import Derived.WalkKit
namespace Go.Proofs.Ytfhmdlihnidjoaa
set_option linter.unusedVariables false
set_option linter.unusedSectionVars false
set_option linter.unusedSimpArgs false
set_option maxRecDepth 100000
open Go Go.RowKit SZ
attribute [local irreducible] post GD Nxt Qaf
def e00 : Et := ⟨0, none, 0, 0, 0, []⟩
def ErAt (w : World) (b o : Nat) (es : List Et) : Prop := ∀ j, j < es.length → w.cell? ⟨b, o + j * 2, none⟩ = some (.int .i64 (es.getD j e00).ver) ∧ w.cell? ⟨b, o + j * 2 + 1, none⟩ = some (.slice (es.getD j e00).a (es.getD j e00).ws.length (es.getD j e00).c)
def QbP (b o : Nat) (es : List Et) : RF := ⟨fun b' => b' = b ∧ es.length ≠ 0, fun w => ErAt w b o es, fun w h b' hb => by
  obtain ⟨rfl, hl⟩ := hb
  exact World.block_lt_of_cell? w _ (h 0 (by omega)).1, fun w w' h hb j hj => ⟨(World.cell?_of_block (a := ⟨b, o + j * 2, none⟩) (hb b ⟨rfl, by omega⟩)).trans (h j hj).1, (World.cell?_of_block (a := ⟨b, o + j * 2 + 1, none⟩) (hb b ⟨rfl, by omega⟩)).trans (h j hj).2⟩⟩
theorem ld_en {w : World} {b o j : Nat} {es : List Et} (h : ErAt w b o es) (hj : j < es.length) : (loadVar 60 ⟨b, o + j * 2, none⟩).run Try.prog w = .ok (es.getD j e00).v w := by
  obtain ⟨h0, h1⟩ := h j hj
  refine run_loadVar_mid w b (o + j * 2) 60 [.int .i64 (es.getD j e00).ver, .slice (es.getD j e00).a (es.getD j e00).ws.length (es.getD j e00).c] _ ?_ Try.underlying60 rfl (by kernel_rfl)
  intro i x hi
  match i, hi with
  | 0, hi => simp at hi; subst hi; exact h0
  | 1, hi => simp at hi; subst hi; exact h1
  | i + 2, hi => simp at hi
theorem esV_at : ∀ (es : List Et) (j : Nat), j < es.length → (esV es)[j * 2]? = some (.int .i64 (es.getD j e00).ver) ∧ (esV es)[j * 2 + 1]? = some (.slice (es.getD j e00).a (es.getD j e00).ws.length (es.getD j e00).c)
  | [], j, h => by simp at h
  | p :: r, 0, _ => ⟨rfl, rfl⟩
  | p :: r, j + 1, h => by
    have hr := esV_at r j (by simpa using h)
    have e : esV (p :: r) = .int .i64 p.ver :: .slice p.a p.ws.length p.c :: esV r := rfl
    rw [e, show (j + 1) * 2 = j * 2 + 1 + 1 by omega]
    exact hr
theorem QfW {w : World} {B : Nat} {v : Value} {es : List Et} (h : w.ownsRow B 60 2 v es.length (esV es)) : ∃ a c b o, v = .slice a es.length c ∧ (es.length = 0 ∨ a = some ⟨b, o, none⟩) ∧ ErAt w b o es ∧ (es.length = 0 ∨ B ≤ b) := by
  rcases h.2 with ⟨rfl, hz⟩ | ⟨g, cap, cur, rfl, hb, hg, h1, h2, h3, h4⟩
  · exact ⟨none, 0, 0, 0, by rw [hz], Or.inl hz, fun j hj => by omega, Or.inl hz⟩
  · have hc := h.cells (g := g) rfl
    refine ⟨_, cap, g, 0, rfl, Or.inr rfl, fun j hj => ?_, Or.inr hb⟩
    obtain ⟨q1, q2⟩ := esV_at es j hj
    have c1 := hc _ _ q1
    have c2 := hc _ _ q2
    have ea : ∀ k, (⟨g, 0, none⟩ : Addr).add k = ⟨g, 0 + k, none⟩ := fun k => by unfold Addr.add; split <;> simp_all
    rw [ea] at c1 c2
    exact ⟨c1, c2⟩
structure Er where
  a : Option Addr
  c : Nat
  b : Nat
  o : Nat
  l : List Et
def Er.v (z : Er) : Value := .slice z.a z.l.length z.c
def recQ (R : List (Int × Ws) × Nat) (B : Nat) (z : Er) (w : World) : Prop := z.l.map prE = R.1 ∧ (z.l.length = 0 ∨ z.a = some ⟨z.b, z.o, none⟩) ∧ ErAt w z.b z.o z.l ∧ (z.l.length = 0 ∨ B ≤ z.b) ∧ (∀ e ∈ z.l, e.ok ∧ (e.ws.length = 0 ∨ B ≤ e.b)) ∧ ∀ e ∈ z.l, QdC w e.b e.o e.ws
theorem rec_er {w0 : World} {R : List (Int × Ws) × Nat} {y : Ending} {w : World} (h : recP w0 R y w) : ∃ z : Er, y = .returned (.tuple #[z.v, .int .i64 (R.2 : Int)]) ∧ recQ R w0.heap.size z w ∧ Below w0.heap.size w0 w := by
  obtain ⟨hb, es, v, q1, q2, q3, q4, q5⟩ := h
  obtain ⟨a, c, b, o, rfl, h1, h2, h3⟩ := QfW q3
  exact ⟨⟨a, c, b, o, es⟩, q1, ⟨q2, h1, h2, h3, fun e he => ⟨(q4 e he).1, (q4 e he).2.2⟩, q5⟩, hb⟩
theorem Qkp : ∀ (f : Nat) (l : (List ByteArray)) (k : Nat) (last : Int), (QeA f l k last).1.length ≤ f ∧ ∀ p ∈ (QeA f l k last).1, p.2.length ≤ 32
  | 0, l, k, last => ⟨Nat.le_refl _, fun p hp => by cases hp⟩
  | f + 1, l, k, last => by
    cases h : QbR l k with
    | none => rw [Qfa h]; exact ⟨Nat.zero_le _, fun p hp => by cases hp⟩
    | some q =>
      obtain ⟨v, ws, n⟩ := q
      by_cases hv : v ≤ last
      · rw [Qig h hv]; exact ⟨Nat.zero_le _, fun p hp => by cases hp⟩
      · rw [Qf_ h hv]
        obtain ⟨i1, i2⟩ := Qkp f l (k + n) v
        refine ⟨Nat.succ_le_succ i1, fun p hp => ?_⟩
        rcases List.mem_cons.1 hp with rfl | hp
        · have hw : ws.length ≤ 32 := by
            have := Qci (Qd2 h).2.1
            omega
          exact hw
        · exact i2 p hp
theorem rec_bnd {R : List (Int × Ws) × Nat} {B n : Nat} {z : Er} {w : World} (h : recQ R B z w) (hR : R.1.length ≤ n ∧ ∀ p ∈ R.1, p.2.length ≤ 32) : z.l.length ≤ n ∧ ∀ e ∈ z.l, e.ok ∧ e.ws.length ≤ 100000 := by
  rw [← h.1, List.length_map] at hR
  refine ⟨hR.1, fun e he => ⟨(h.2.2.2.2.1 e he).1, ?_⟩⟩
  have : e.ws.length ≤ 32 := hR.2 (prE e) (List.mem_map_of_mem he)
  omega
def ascR : Int → List (Int × Ws) → Prop
  | _, [] => True
  | last, p :: r => last < p.1 ∧ Qdd p.1 p.2 ∧ QaB p.1 p.2 = true ∧ ascR p.1 r
def QhC (last : Int) : List (Int × Ws) → Int
  | [] => last
  | p :: r => QhC p.1 r
def QaV (P : List (Int × Ws)) : (List ByteArray) := P.flatMap fun p => QaD p.1 p.2
theorem Qih : ∀ (P : List (Int × Ws)) (f : Nat) (l : (List ByteArray)) (k : Nat) (last : Int) (rest : (List ByteArray)), ascR last P → l.drop k = QaV P ++ rest → QeA (P.length + f) l k last = (P ++ (QeA f l (k + (QaV P).length) (QhC last P)).1, (QeA f l (k + (QaV P).length) (QhC last P)).2)
  | [], f, l, k, last, rest, _, _ => by simp [QaV, QhC]
  | (v, ws) :: r, f, l, k, last, rest, ha, hd => by
    obtain ⟨h1, h2, h3, h4⟩ := ha
    have h2 : Qdd v ws := h2
    have h3 : QaB v ws = true := h3
    have h1 : last < v := h1
    have hm := Qbk h2 h3
    have hne : 1 ≤ (QaD v ws).length := by
      rw [Qa1 h3, QbI]
      omega
    have e1 : QaV ((v, ws) :: r) = QaD v ws ++ QaV r := by simp [QaV]
    have hd2 : l.drop k = QaD v ws ++ (QaV r ++ rest) := by rw [hd, e1, List.append_assoc]
    have hk : k < l.length := by
      have := congrArg List.length hd2
      rw [List.length_drop, List.length_append] at this
      omega
    have hp : QbR l k = some (v, ws, (QaD v ws).length) := Qkn h2 h3 hk (by rw [hd2, List.take_left])
    have hd3 : l.drop (k + (QaD v ws).length) = QaV r ++ rest := by rw [← List.drop_drop, hd2, List.drop_left]
    have e2 : ((v, ws) :: r).length + f = (r.length + f) + 1 := by simp only [List.length_cons]; omega
    have ih := Qih r f l (k + (QaD v ws).length) v rest h4 hd3
    have e3 : k + (QaV ((v, ws) :: r)).length = k + (QaD v ws).length + (QaV r).length := by rw [e1, List.length_append]; omega
    rw [e2, Qf_ hp (by omega), ih, e3]
    rfl
theorem QjL {l : List ByteArray} {k : Nat} (h : l.getD k ByteArray.empty = QaY (List.replicate 32 0)) : QbR l k = none := by
  cases hp : QbR l k with
  | none => rfl
  | some x =>
    exfalso
    obtain ⟨v, ws', n⟩ := x
    obtain ⟨h1, h2, hn, h4, h5, h6, h7⟩ := Qd2 hp
    have hm' := Qbk h1 h2
    have el' := Qa1 h2
    have e1 : (QaD v ws').getD 0 ByteArray.empty = l.getD k ByteArray.empty := by
      rw [← h7]
      simp [List.getD, List.getElem?_take, show 0 < n by omega]
    rw [h, el', Qkr _ 0 (by omega)] at e1
    have p2 := Qcm (QcA v ws') 0
    have q2 := Qem (QbQ v ws') 0
    have e4 := congrArg Qal e1
    rw [QdZ (by omega) p2, QbM _ (by intro b hb; rw [List.mem_replicate] at hb; omega)] at e4
    have b2 := QbN (f := Qau (QbQ v ws') - 1 - 0) q2
    have e := congrArg (List.drop 28) e4
    have e2 : (sec (Qau (QbQ v ws') - 1 - 0) (Qbd (QbQ v ws') 0)).drop 28 = le4 (Qb4 (Qa6 (Qau (QbQ v ws') - 1 - 0) (Qbd (QbQ v ws') 0))) := by
      unfold sec
      rw [List.drop_append_of_le_length (by omega), List.drop_of_length_le (by omega), List.nil_append]
    rw [e2] at e
    have e3 : (List.replicate 32 0 : List Nat).drop 28 = [0, 0, 0, 0] := rfl
    rw [e3] at e
    unfold le4 at e
    simp only [List.cons.injEq] at e
    exact QlV _ (QcV (by omega) p2) b2 ⟨e.1, e.2.1⟩
def zeroS : ByteArray := QaY (List.replicate 32 0)
theorem Qel (P : List (Int × Ws)) (p : Int × Ws) : QaV (P ++ [p]) = QaV P ++ QaD p.1 p.2 := by simp [QaV]
section
variable {P : List (Int × Ws)} {p : Int × Ws} {z k c : Nat}
end
end Go.Proofs.Ytfhmdlihnidjoaa
