/-
  Merged: WlW, WlX, WlY, WlZ, Wn1, Wn2, Wn3
-/
import Derived.Test.YtfhmdlihnidjoaaRows
import Derived.Test.YtfhmdlihnidjoaaPf1
import Derived.Test.YtfhmdlihnidjoaaPf14
import Derived.Test.YtfhmdlihnidjoaaPf16
import Derived.WalkKit
namespace Go.Proofs.Ytfhmdlihnidjoaa
set_option linter.unusedVariables false
set_option linter.unusedSectionVars false
set_option linter.unusedSimpArgs false
set_option maxRecDepth 100000
open Go Go.RowKit SZ
attribute [local irreducible] post GD Nxt Qai
def e00 : Et := ⟨0, none, 0, 0, 0, []⟩
def ErAt (w : World) (b o : Nat) (es : List Et) : Prop := ∀ j, j < es.length → w.cell? ⟨b, o + j * 2, none⟩ = some (.int .i64 (es.getD j e00).ver) ∧ w.cell? ⟨b, o + j * 2 + 1, none⟩ = some (.slice (es.getD j e00).a (es.getD j e00).ws.length (es.getD j e00).c)
def QaL (b o : Nat) (es : List Et) : RF := ⟨fun b' => b' = b ∧ es.length ≠ 0, fun w => ErAt w b o es, fun w h b' hb => by
  obtain ⟨rfl, hl⟩ := hb
  exact World.block_lt_of_cell? w _ (h 0 (by omega)).1, fun w w' h hb j hj => ⟨(World.cell?_of_block (a := ⟨b, o + j * 2, none⟩) (hb b ⟨rfl, by omega⟩)).trans (h j hj).1, (World.cell?_of_block (a := ⟨b, o + j * 2 + 1, none⟩) (hb b ⟨rfl, by omega⟩)).trans (h j hj).2⟩⟩
theorem ld_en {w : World} {b o j : Nat} {es : List Et} (h : ErAt w b o es) (hj : j < es.length) : (loadVar 60 ⟨b, o + j * 2, none⟩).run Try.prog w = .ok (es.getD j e00).v w := by
  obtain ⟨h0, h1⟩ := h j hj
  refine run_loadVar_mid w b (o + j * 2) 60 [.int .i64 (es.getD j e00).ver, .slice (es.getD j e00).a (es.getD j e00).ws.length (es.getD j e00).c] _ ?_ Try.underlying60 rfl (by kernel_rfl)
  intro i x hi
  match i, hi with
  | 0, hi => simp at hi; subst hi; exact h0
  | 1, hi => simp at hi; subst hi; exact h1
  | i + 2, hi => simp at hi
theorem esV_at : ∀ (es : List Et) (j : Nat), j < es.length → (esV es)[j * 2]? = some (.int .i64 (es.getD j e00).ver) ∧ (esV es)[j * 2 + 1]? = some (.slice (es.getD j e00).a (es.getD j e00).ws.length (es.getD j e00).c)
  | [], j, h => by simp at h
  | p :: r, 0, _ => ⟨rfl, rfl⟩
  | p :: r, j + 1, h => by
    have hr := esV_at r j (by simpa using h)
    have e : esV (p :: r) = .int .i64 p.ver :: .slice p.a p.ws.length p.c :: esV r := rfl
    rw [e, show (j + 1) * 2 = j * 2 + 1 + 1 by omega]
    exact hr
theorem QfY {w : World} {B : Nat} {v : Value} {es : List Et} (h : w.ownsRow B 60 2 v es.length (esV es)) : ∃ a c b o, v = .slice a es.length c ∧ (es.length = 0 ∨ a = some ⟨b, o, none⟩) ∧ ErAt w b o es ∧ (es.length = 0 ∨ B ≤ b) := by
  rcases h.2 with ⟨rfl, hz⟩ | ⟨g, cap, cur, rfl, hb, hg, h1, h2, h3, h4⟩
  · exact ⟨none, 0, 0, 0, by rw [hz], Or.inl hz, fun j hj => by omega, Or.inl hz⟩
  · have hc := h.cells (g := g) rfl
    refine ⟨_, cap, g, 0, rfl, Or.inr rfl, fun j hj => ?_, Or.inr hb⟩
    obtain ⟨q1, q2⟩ := esV_at es j hj
    have c1 := hc _ _ q1
    have c2 := hc _ _ q2
    have ea : ∀ k, (⟨g, 0, none⟩ : Addr).add k = ⟨g, 0 + k, none⟩ := fun k => by unfold Addr.add; split <;> simp_all
    rw [ea] at c1 c2
    exact ⟨c1, c2⟩
structure Er where
  a : Option Addr
  c : Nat
  b : Nat
  o : Nat
  l : List Et
def Er.v (z : Er) : Value := .slice z.a z.l.length z.c
def recQ (R : List (Int × Ws) × Nat) (B : Nat) (z : Er) (w : World) : Prop := z.l.map prE = R.1 ∧ (z.l.length = 0 ∨ z.a = some ⟨z.b, z.o, none⟩) ∧ ErAt w z.b z.o z.l ∧ (z.l.length = 0 ∨ B ≤ z.b) ∧ (∀ e ∈ z.l, e.ok ∧ (e.ws.length = 0 ∨ B ≤ e.b)) ∧ ∀ e ∈ z.l, Qc8 w e.b e.o e.ws
theorem rec_er {w0 : World} {R : List (Int × Ws) × Nat} {y : Ending} {w : World} (h : recP w0 R y w) : ∃ z : Er, y = .returned (.tuple #[z.v, .int .i64 (R.2 : Int)]) ∧ recQ R w0.heap.size z w ∧ Below w0.heap.size w0 w := by
  obtain ⟨hb, es, v, q1, q2, q3, q4, q5⟩ := h
  obtain ⟨a, c, b, o, rfl, h1, h2, h3⟩ := QfY q3
  exact ⟨⟨a, c, b, o, es⟩, q1, ⟨q2, h1, h2, h3, fun e he => ⟨(q4 e he).1, (q4 e he).2.2⟩, q5⟩, hb⟩
theorem Qk4 : ∀ (f : Nat) (l : (List ByteArray)) (k : Nat) (last : Int), (Qdz f l k last).1.length ≤ f ∧ ∀ p ∈ (Qdz f l k last).1, p.2.length ≤ 32
  | 0, l, k, last => ⟨Nat.le_refl _, fun p hp => by cases hp⟩
  | f + 1, l, k, last => by
    cases h : Qbo l k with
    | none => rw [QdV h]; exact ⟨Nat.zero_le _, fun p hp => by cases hp⟩
    | some q =>
      obtain ⟨v, ws, n⟩ := q
      by_cases hv : v ≤ last
      · rw [QiN h hv]; exact ⟨Nat.zero_le _, fun p hp => by cases hp⟩
      · rw [Qf_ h hv]
        obtain ⟨i1, i2⟩ := Qk4 f l (k + n) v
        refine ⟨Nat.succ_le_succ i1, fun p hp => ?_⟩
        rcases List.mem_cons.1 hp with rfl | hp
        · have hw : ws.length ≤ 32 := by
            have := Qcl (Qdd h).2.1
            omega
          exact hw
        · exact i2 p hp
theorem rec_bnd {R : List (Int × Ws) × Nat} {B n : Nat} {z : Er} {w : World} (h : recQ R B z w) (hR : R.1.length ≤ n ∧ ∀ p ∈ R.1, p.2.length ≤ 32) : z.l.length ≤ n ∧ ∀ e ∈ z.l, e.ok ∧ e.ws.length ≤ 100000 := by
  rw [← h.1, List.length_map] at hR
  refine ⟨hR.1, fun e he => ⟨(h.2.2.2.2.1 e he).1, ?_⟩⟩
  have : e.ws.length ≤ 32 := hR.2 (prE e) (List.mem_map_of_mem he)
  omega
def ascR : Int → List (Int × Ws) → Prop
  | _, [] => True
  | last, p :: r => last < p.1 ∧ QcD p.1 p.2 ∧ QaG p.1 p.2 = true ∧ ascR p.1 r
def Qh5 (last : Int) : List (Int × Ws) → Int
  | [] => last
  | p :: r => Qh5 p.1 r
def Qav (P : List (Int × Ws)) : (List ByteArray) := P.flatMap fun p => QaC p.1 p.2
theorem Qgj : ∀ (P : List (Int × Ws)) (f : Nat) (l : (List ByteArray)) (k : Nat) (last : Int) (rest : (List ByteArray)), ascR last P → l.drop k = Qav P ++ rest → Qdz (P.length + f) l k last = (P ++ (Qdz f l (k + (Qav P).length) (Qh5 last P)).1, (Qdz f l (k + (Qav P).length) (Qh5 last P)).2)
  | [], f, l, k, last, rest, _, _ => by simp [Qav, Qh5]
  | (v, ws) :: r, f, l, k, last, rest, ha, hd => by
    obtain ⟨h1, h2, h3, h4⟩ := ha
    have h2 : QcD v ws := h2
    have h3 : QaG v ws = true := h3
    have h1 : last < v := h1
    have hm := Qbh h2 h3
    have hne : 1 ≤ (QaC v ws).length := by
      rw [QaU h3, QbA]
      omega
    have e1 : Qav ((v, ws) :: r) = QaC v ws ++ Qav r := by simp [Qav]
    have hd2 : l.drop k = QaC v ws ++ (Qav r ++ rest) := by rw [hd, e1, List.append_assoc]
    have hk : k < l.length := by
      have := congrArg List.length hd2
      rw [List.length_drop, List.length_append] at this
      omega
    have hp : Qbo l k = some (v, ws, (QaC v ws).length) := Qk2 h2 h3 hk (by rw [hd2, List.take_left])
    have hd3 : l.drop (k + (QaC v ws).length) = Qav r ++ rest := by rw [← List.drop_drop, hd2, List.drop_left]
    have e2 : ((v, ws) :: r).length + f = (r.length + f) + 1 := by simp only [List.length_cons]; omega
    have ih := Qgj r f l (k + (QaC v ws).length) v rest h4 hd3
    have e3 : k + (Qav ((v, ws) :: r)).length = k + (QaC v ws).length + (Qav r).length := by rw [e1, List.length_append]; omega
    rw [e2, Qf_ hp (by omega), ih, e3]
    rfl
theorem dec_drop (l : (List ByteArray)) (k : Nat) : Qhn l k = Qhn (l.drop k) 0 := by
  have e : (l.drop k).getD 0 ByteArray.empty = l.getD k ByteArray.empty := by simp [List.getD]
  unfold Qhn
  simp only [List.length_drop, List.drop_zero, Nat.sub_zero, e]
  by_cases h : l.length ≤ k
  · rw [if_pos h, if_pos (show l.length - k ≤ 0 by omega)]
  · rw [if_neg h, if_neg (show ¬l.length - k ≤ 0 by omega)]
theorem QjM (l : (List ByteArray)) (k : Nat) : Qbo l k = Qbo (l.drop k) 0 := by
  unfold Qbo
  rw [← dec_drop]
  simp only [List.length_drop, List.drop_zero, Nat.sub_zero]
theorem QkA {ver : Int} {ws : Ws} (hf : QcD ver ws) (hv : QaG ver ws = true) (cs : List Nat) (B : List ByteArray) (h : QhQ (QaC ver ws) cs (QaC ver ws).length = false) : Qbo (Qc9 (QaC ver ws) cs (QaC ver ws).length ++ B) 0 = none := by
  cases hp : Qbo (Qc9 (QaC ver ws) cs (QaC ver ws).length ++ B) 0 with
  | none => rfl
  | some x =>
    exfalso
    obtain ⟨v, ws', n⟩ := x
    obtain ⟨h1, h2, hn, h4, h5, h6, h7⟩ := Qdd hp
    have hm := Qbh hf hv
    have hm' := Qbh h1 h2
    have el := QaU hv
    have el' := QaU h2
    have hlen : (QaC ver ws).length = Qau (QbB ver ws) := by rw [el, QbA]
    have hlen' : n = Qau (QbB v ws') := by rw [hn, el', QbA]
    rw [List.drop_zero] at h7
    have key : ∀ i, i < n → i < (QaC ver ws).length → Qf8 (QaC ver ws) cs i = QeI (Qau (QbB v ws') - 1 - i) (Qbd (QbB v ws') i) ∧ Qf8 (QaC ver ws) cs i = (QaC ver ws).getD i ByteArray.empty := by
      intro i hi hi2
      have e1 : Qf8 (QaC ver ws) cs i = (QaC v ws').getD i ByteArray.empty := by
        rw [← h7, ← Qf9 _ cs (QaC ver ws).length i (by omega)]
        simp [List.getD, List.getElem?_take, hi, List.getElem?_append_left (show i < (Qc9 (QaC ver ws) cs (QaC ver ws).length).length by rw [QdR]; omega)]
      have e2 : (QaC v ws').getD i ByteArray.empty = QeI (Qau (QbB v ws') - 1 - i) (Qbd (QbB v ws') i) := by rw [el', Qfa _ i (by omega)]
      have e3 : (QaC ver ws).getD i ByteArray.empty = QeI (Qau (QbB ver ws) - 1 - i) (Qbd (QbB ver ws) i) := by rw [el, Qfa _ i (by omega)]
      have p1 := Qbu (QbO ver ws) i
      have p2 := Qbu (QbO v ws') i
      have q1 := Qdc (QbB ver ws) i
      have q2 := Qdc (QbB v ws') i
      refine ⟨e1.trans e2, ?_⟩
      have e4 := congrArg Qaf (e1.trans e2)
      unfold Qf8 at e4
      rw [e3, Qb4 (by omega) p1, Qb4 (by omega) p2, QbC _ (QkB (Qgg (by omega) p1) _)] at e4
      have e5 := sec_torn q1 q2 (Qcs (by omega) p2) (cutA_le _ _) e4
      rw [e1, e2, e3]
      unfold QeI
      rw [e5]
    have k0 := key 0 (by omega) (by omega)
    have f0 : Qau (QbB v ws') - 1 = Qau (QbB ver ws) - 1 := by
      have e := k0.1.symm.trans k0.2
      rw [el, Qfa _ 0 (by omega)] at e
      have e2 := congrArg Qaf e
      rw [Qb4 (by omega) (Qbu (QbO _ _) _), Qb4 (by omega) (Qbu (QbO _ _) _)] at e2
      have e3 := congrArg (fun l => l.getD 0 0) e2
      exact e3
    have : QhQ (QaC ver ws) cs (QaC ver ws).length = true := (Qe2 _ _ _).2 fun i hi => (key i (by omega) hi).2
    rw [h] at this
    cases this
theorem Qkm {l : List ByteArray} {k : Nat} (h : l.getD k ByteArray.empty = QaO (List.replicate 32 0)) : Qbo l k = none := by
  cases hp : Qbo l k with
  | none => rfl
  | some x =>
    exfalso
    obtain ⟨v, ws', n⟩ := x
    obtain ⟨h1, h2, hn, h4, h5, h6, h7⟩ := Qdd hp
    have hm' := Qbh h1 h2
    have el' := QaU h2
    have e1 : (QaC v ws').getD 0 ByteArray.empty = l.getD k ByteArray.empty := by
      rw [← h7]
      simp [List.getD, List.getElem?_take, show 0 < n by omega]
    rw [h, el', Qfa _ 0 (by omega)] at e1
    have p2 := Qbu (QbO v ws') 0
    have q2 := Qdc (QbB v ws') 0
    have e4 := congrArg Qaf e1
    rw [Qb4 (by omega) p2, QbC _ (by intro b hb; rw [List.mem_replicate] at hb; omega)] at e4
    have b2 := QbD (f := Qau (QbB v ws') - 1 - 0) q2
    have e := congrArg (List.drop 28) e4
    have e2 : (sec (Qau (QbB v ws') - 1 - 0) (Qbd (QbB v ws') 0)).drop 28 = le4 (Qb0 (Qa1 (Qau (QbB v ws') - 1 - 0) (Qbd (QbB v ws') 0))) := by
      unfold sec
      rw [List.drop_append_of_le_length (by omega), List.drop_of_length_le (by omega), List.nil_append]
    rw [e2] at e
    have e3 : (List.replicate 32 0 : List Nat).drop 28 = [0, 0, 0, 0] := rfl
    rw [e3] at e
    unfold le4 at e
    simp only [List.cons.injEq] at e
    exact QhA _ (Qcs (by omega) p2) b2 ⟨e.1, e.2.1⟩
def zeroS : ByteArray := QaO (List.replicate 32 0)
theorem Qch (P : List (Int × Ws)) (p : Int × Ws) : Qav (P ++ [p]) = Qav P ++ QaC p.1 p.2 := by simp [Qav]
section
variable {P : List (Int × Ws)} {p : Int × Ws} {z k c : Nat}
theorem Qjx : ∀ (P : List (Int × Ws)) (last : Int), ascR last P → ∀ p ∈ P, QcD p.1 p.2 ∧ QaG p.1 p.2 = true
  | [], _, _, p, hp => by cases hp
  | q :: r, last, h, p, hp => by
    rcases List.mem_cons.1 hp with rfl | hp
    · exact ⟨h.2.1, h.2.2.1⟩
    · exact Qjx r q.1 h.2.2.2 p hp
theorem Qjw : ∀ (P Q : List (Int × Ws)) (last : Int), ascR last (P ++ Q) → ascR last P
  | [], _, _, _ => trivial
  | q :: r, Q, last, h => ⟨h.1, h.2.1, h.2.2.1, Qjw r Q q.1 h.2.2.2⟩
end
theorem ex_rem {s : SS} {bs : List Nat} {x y : Operand} {t t' ty : TypeId} {ki : IntKind} {p q r : Int} (hx : s.val x = some (.v (.int ki p))) (hy : s.val y = some (.v (.int ki q))) (hq : q ≠ 0) (hr : Int.tmod p q = r) :
    ∀ (o : Oper) (ρ : Operand → Value) (W : World), o.op = .binOp .rem t x y t' → o.type = ty → (∀ x y, s.val x = some y → ρ x = den bs y) → (execOp ρ o).run Try.prog W = .ok (.value (.int ki r)) W := by
  intro o ρ W h1 h2 h3
  have e1 : ρ x = .int ki p := h3 x _ hx
  have e2 : ρ y = .int ki q := h3 y _ hy
  subst hr
  unfold execOp
  simp only [h1, e1, e2, eqGuard, binOp_rem, Op.intDiv, if_neg hq, Sem.run_bind, Sem.run_pure, Result.andThen_ok]
  rfl
end Go.Proofs.Ytfhmdlihnidjoaa
