/-
  Merged: Bo2, Bo1, Bo3
-/
import Derived.Test.YtfhmdlihnidjoaaRows
import Derived.Test.YtfhmdlihnidjoaaPf1
import Derived.Test.YtfhmdlihnidjoaaPf20
import Derived.Test.YtfhmdlihnidjoaaPf21
import Derived.Test.YtfhmdlihnidjoaaPf17
import Derived.WalkKit
import Derived.Test.YtfhmdlihnidjoaaPf13
import Derived.Test.YtfhmdlihnidjoaaPf10
namespace Go.Proofs.Ytfhmdlihnidjoaa
set_option linter.unusedVariables false
set_option linter.unusedSectionVars false
set_option linter.unusedSimpArgs false
set_option maxRecDepth 100000
set_option maxHeartbeats 8000000
open Go Go.RowKit SZ
attribute [local irreducible] post GD Nxt Qai
theorem getD_some {l : Ws} {j : Nat} : l[j]?.getD (0, 0) = l.getD j (0, 0) := by simp [List.getD]
theorem QlF (w : World) (z : Er) (hz : z.l.length = 0 ∨ z.a = some ⟨z.b, z.o, none⟩) (hA : ErAt w z.b z.o z.l) (hok : ∀ e ∈ z.l, e.ok) (hW : ∀ e ∈ z.l, Qc8 w e.b e.o e.ws) (hl : z.l.length ≤ 1000000) (hws : ∀ e ∈ z.l, e.ws.length ≤ 1000000) (loc : Int) : Calls Try.prog 12 #[z.v, .int .i64 loc] w fun y w' => y = .returned (QjZ (Qc6 (z.l.map prE) loc)) ∧ Below w.heap.size w w' := by
  have h := Qej (b := z.b) (off := z.o) (cap := z.c) (a := z.a) (es := z.l.map Qjm) (loc := loc) (w := w) (by rw [List.length_map]; omega) (fun h => hz.resolve_left (by rw [List.length_map] at h; omega)) (fun h => by
    rw [List.length_map] at h
    refine ⟨World.block_lt_of_cell? w _ (hA 0 h).1, fun j hj => ?_⟩
    rw [List.length_map] at hj
    rw [Ql2 z.l j hj]
    exact hA j hj) (fun j => by
    rcases Nat.lt_or_ge j z.l.length with hj | hj
    · rw [Ql2 z.l j hj]
      have hm := Qbe z.l j e00 hj
      refine ⟨?_, by have := hws _ hm; show (z.l.getD j e00).ws.length ≤ _; omega⟩
      by_cases h0 : (z.l.getD j e00).ws.length = 0
      · exact Or.inl (List.length_eq_zero_iff.1 h0)
      · refine Or.inr ⟨(z.l.getD j e00).b, (z.l.getD j e00).o, (hok _ hm).resolve_left h0, World.block_lt_of_cell? w _ (hW _ hm 0 (by omega)).1, fun i hi => ?_⟩
        have e2 : (Qjm (z.l.getD j e00)).ws = (z.l.getD j e00).ws := rfl
        rw [e2] at hi ⊢
        rw [getD_some]
        exact hW _ hm i hi
    · have e : ((z.l.map Qjm)[j]?.getD default) = default := by
        rw [List.getElem?_eq_none (by rw [List.length_map]; exact hj)]
        rfl
      rw [e]
      exact ⟨Or.inl rfl, by show (0 : Nat) ≤ _; omega⟩)
  rw [List.length_map, Qha loc z.l.length z.l rfl] at h
  exact h
def rfI (B g n cp : Nat) (Z : List Int) : RF := Qaa B 3 1 (.slice (some ⟨g, 0, none⟩) n cp) n (Z.map (Value.int .i64))
def lyC (c : Cf) : List Value := [.int .i64 c.t, .int .i64 c.l, .int .i64 c.k, .int .i64 c.s, .int .i64 c.m, .int .i64 0, .int .i64 1, .int .i64 2, .int .i64 3, .int .i64 4, .int .i64 (4 + 4 * c.t), .int .i64 (4 + 4 * c.t + c.k), .int .i64 (4 + 4 * c.t + c.k + 4 * c.l)]
theorem QiT {w : World} {B0 n : Nat} {v : Value} {xs : List Value} (h : w.ownsRow B0 3 1 v n xs) (hn : n ≠ 0) : ∃ g c, v = .slice (some ⟨g, 0, none⟩) n c ∧ B0 ≤ g ∧ n ≤ c := by
  rcases h.2 with ⟨q, hz⟩ | ⟨g, cap, cur, q, hb, hg, h1, _⟩
  · omega
  · exact ⟨g, cap, q, hb, h1⟩
theorem Qhd {w : World} {B g n cp : Nat} {Z : List Int} (h : w.ownsRow B 3 1 (.slice (some ⟨g, 0, none⟩) n cp) n (Z.map (Value.int .i64))) (hn : n = Z.length) : Qbm w g 0 Z := fun j hj => by
  have hc := h.cells (g := g) rfl j (.int .i64 (Z.getD j 0)) (by simp [List.getD, List.getElem?_eq_getElem hj])
  have ea : (⟨g, 0, none⟩ : Addr).add j = ⟨g, 0 + j, none⟩ := by unfold Addr.add; split <;> simp_all
  rw [ea] at hc
  exact hc
theorem Qge {w : World} {B g n cap : Nat} {L : List Int} (h : w.ownsRow B 3 1 (.slice (some ⟨g, 0, none⟩) n cap) n (L.map (Value.int .i64))) (hn : n = L.length) (k : Nat) (hk : k < n) (s : Int) : (storeVar 3 ⟨g, 0 + k * 1, none⟩ (.int .i64 s)).run Try.prog w = .ok () (w.setCells g k [.int .i64 s]) ∧ (w.setCells g k [.int .i64 s]).ownsRow B 3 1 (.slice (some ⟨g, 0, none⟩) n cap) n ((L.set k s).map (Value.int .i64)) := by
  rcases h.2 with ⟨q, hz⟩ | ⟨g', cap', cur, q, hb, hg, h1, h2, h3, h4⟩
  · omega
  · simp only [Value.slice.injEq, Option.some.injEq, Addr.mk.injEq] at q
    obtain ⟨⟨rfl, _, _⟩, _, rfl⟩ := q
    obtain ⟨l⟩ := cur
    simp only [List.size_toArray, Nat.mul_one] at h3 h4
    obtain ⟨hr, he⟩ := st_at (P := Try.prog) (ty := 3) (v := .int .i64 s) (off := k) (by kernel_rfl) (by kernel_rfl) (by kernel_rfl) hg (by omega)
    refine ⟨by rw [Nat.mul_one, Nat.zero_add]; exact hr, by simp [hn], Or.inr ⟨g, cap, _, rfl, hb, he, h1, h2, ?_, ?_⟩⟩
    · simp [h3]
    · simp only [Nat.mul_one]
      rw [List.map_set, ← h4, List.take_set]
theorem made_i (n : Nat) : madeCells (Value.int .i64 0).cells n = (List.replicate n (Value.int .i64 0)).toArray := by
  have h1 : (Value.int .i64 0).cells = #[Value.int .i64 0] := rfl
  apply Array.ext'
  apply List.ext_getElem
  · simp [madeCells, h1]
  · intro i h1' h2
    simp [madeCells, h1, Nat.mod_one]
theorem mk_rI (n : Nat) (hn : n ≤ 512) (w : World) : (Instr.makeSlice 26 (.int .i64 (n : Int)) (.int .i64 (n : Int))).run Try.prog w = .ok (.slice (some ⟨w.heap.size, 0, none⟩) n n) (w.alloc (.cells (List.replicate n (Value.int .i64 0)).toArray 3 (0, 0))) := by
  have hI : (Try.prog.info? 3).map (fun i => (i.zero, i.size, i.bytes)) = some (some (.int .i64 0), 1, 8) := by kernel_rfl
  cases hi : Try.prog.info? 3 with
  | none => rw [hi] at hI; cases hI
  | some i =>
    rw [hi] at hI
    simp only [Option.map_some, Option.some.injEq, Prod.mk.injEq] at hI
    obtain ⟨h1, h2, h3⟩ := hI
    have h := run_makeSlice (P := Try.prog) w 26 3 i (.int .i64 0) Try.underlying26 hi h1 .i64 .i64 (n : Int) (n : Int) (by omega) (by omega) (by rw [h2, Int.toNat_natCast]; omega) (by rw [h3]; omega) (by omega)
    rw [h2, Int.toNat_natCast, Nat.mul_one, made_i] at h
    exact h
def zP (c : Cf) (zs : List Int) (R : List (Int × Ws) × Nat) (j : Nat) : List Int := bL (kOf c) (nOf c) (QdP R.1) (R.2 : Int) (QdO j (vvB R.1 zs) (fun q => zs.getD q 0)) (QdO j (wwB R.1) (fun _ => 0))
noncomputable def b5C : Cfg := ⟨goM 200 4 [0] [.code (QaW Try.f10)], ⟨0, [], []⟩⟩
noncomputable def b8C : Cfg := ⟨goM 200 6 [0, 0] [.code (QaW Try.f10)], ⟨0, [], []⟩⟩
noncomputable def btC : Cfg := ⟨goZ 200 [0, 0] [.code (QaW Try.f10)], ⟨0, [], []⟩⟩
noncomputable def b5S (c : Cf) (dv : List Value) (es : Er) (e : Nat) (g cp : Nat) : SS := ⟨94, [(3, .p 0 0), (6, .p 2 0), (8, .v es.v), (9, .v (.int .i64 (e : Int))), (10, .p 3 0)], [⟨25, lyC c⟩, ⟨30, dv⟩, ⟨37, [.slice none 0 0]⟩, ⟨37, [.slice (some ⟨g, 0, none⟩) (nOf c) cp]⟩]⟩
noncomputable def b8S (c : Cf) (es : Er) (e : Nat) (g cp : Nat) : SS := ⟨94, [(3, .p 0 0), (6, .p 1 0), (8, .v es.v), (9, .v (.int .i64 (e : Int))), (13, .v (.slice (some ⟨g, 0, none⟩) (nOf c) cp))], [⟨25, lyC c⟩, ⟨37, [.slice none 0 0]⟩]⟩
noncomputable def btS (c : Cf) (es : Er) (g cp j : Nat) : SS := ⟨94, [(3, .p 0 0), (6, .p 1 0), (8, .v es.v), (13, .v (.slice (some ⟨g, 0, none⟩) (nOf c) cp)), (64, .v (.int .i64 (c.l.toNat : Int))), (65, .v (.int .i64 (j : Int)))], [⟨25, lyC c⟩, ⟨37, [.slice none 0 0]⟩]⟩
def QgH (w0 : World) (c : Cf) (zs : List Int) (R : List (Int × Ws) × Nat) (y : Ending) (w' : World) : Prop := ∃ (es : Er) (g cp : Nat), y = .returned (.tuple #[.agg #[.slice (some ⟨g, 0, none⟩) (nOf c) cp], es.v]) ∧ Qbm w' g 0 (Qj9 c zs R) ∧ w0.heap.size ≤ g ∧ recQ R w0.heap.size es w' ∧ Below w0.heap.size w0 w'
section
variable (w0 : World) (c : Cf) (hc : c.ok) (zs : List Int) (R : List (Int × Ws) × Nat) (es : Er) (hes : es.l.map prE = R.1) (hez : es.l.length = 0 ∨ es.a = some ⟨es.b, es.o, none⟩) (heb : es.l.length = 0 ∨ w0.heap.size ≤ es.b) (hek : ∀ e ∈ es.l, e.ok ∧ (e.ws.length = 0 ∨ w0.heap.size ≤ e.b)) (he1 : es.l.length ≤ 100000 ∧ ∀ e ∈ es.l, e.ok ∧ e.ws.length ≤ 100000) (g cp : Nat) (hg : w0.heap.size ≤ g) (hgf : ∀ f ∈ [QaL es.b es.o es.l, Qay es.l], ¬f.bl g)
include w0 c hc zs R es hes hez heb hek he1 g cp hg hgf
theorem bt_n (m j : Nat) (hj : j < c.l.toNat) (hp : Qc6 R.1 (j : Int) = none) (ih : ∀ (x0 x1 : Nat) (aa : Act) (w : World) (S : Sy w0 [] [x0, x1] (btS c es g cp (j + 1)) [QaL es.b es.o es.l, Qay es.l, rfI w0.heap.size g (nOf c) cp (zP c zs R (j + 1))] aa w), post Try.prog (.rnd (m) (Qa_ btC) :: btC.k.tail) (bodyPost Try.prog Try.f10 (QgH w0 c zs R)) .normal aa w) (x0 x1 : Nat) (aa : Act) (w : World) (S : Sy w0 [] [x0, x1] (btS c es g cp (j)) [QaL es.b es.o es.l, Qay es.l, rfI w0.heap.size g (nOf c) cp (zP c zs R (j))] aa w) : post Try.prog (.rnd (m + 1) (Qa_ btC) :: btC.k.tail) (bodyPost Try.prog Try.f10 (QgH w0 c zs R)) .normal aa w := by
  obtain ⟨n1, n2, n3, n4, n5, n6, n7, n8, n9⟩ := QbR hc
  have n0 : kOf c ≤ nOf c := by unfold nOf; omega
  have e1 : QdO j (vvB R.1 zs) (fun q => zs.getD q 0) = QdO (j + 1) (vvB R.1 zs) (fun q => zs.getD q 0) := Qi1 (by unfold vvB; rw [hp])
  have e2 : QdO j (wwB R.1) (fun _ => 0) = QdO (j + 1) (wwB R.1) (fun _ => 0) := Qi1 (by unfold wwB; rw [hp])
  have e : zP c zs R j = zP c zs R (j + 1) := by unfold zP; rw [e1, e2]
  rw [e] at S
  refine Qap (c := ⟨(.rnd (m + 1) (Qa_ btC) :: btC.k.tail), btS c es g cp j⟩) 10 50 1 S fun bs aa w S => ?_
  refine Qab 66 S (decide_eq_true (by omega) : decide ((j : Int) < (c.l.toNat : Int)) = true) fun S => ?_
  refine Qap 12 60 2 S fun bs aa w S => ?_
  have hla := QlF w es hez (S.fact (f := QaL es.b es.o es.l) (by simp)) (fun e he => (hek e he).1) (S.fact (f := Qay es.l) (by simp)) (by omega) (fun e he => by have := (he1.2 e he).2; omega) (j : Int)
  rw [hes, hp] at hla
  refine QaJ S hla (by kernel_rfl) fun aa w hb S => ?_
  refine Qap 16 60 1 S fun bs aa w S => ?_
  refine QaB 90 S (by rw [IntKind.wrap_i64]; omega : IntKind.i64.wrap ((j : Int) + 1) = ((j + 1 : Nat) : Int)) fun S => ?_
  refine Qaj ⟨0, [999]⟩ 50 S fun bs aa w S => ?_
  have S2 := S.to [0, 1] (btS c es g cp (j + 1)) (by kernel_rfl) (by kernel_rfl) (by kernel_rfl) (by kernel_rfl) (by kernel_rfl)
  refine Qag (k' := (.rnd (m) (Qa_ btC) :: btC.k.tail)) (by kernel_rfl) ?_
  exact ih _ _ aa w S2
theorem bt_s (m j : Nat) (hj : j < c.l.toNat) (la lb lc : Int) (hp : Qc6 R.1 (j : Int) = some (la, lb, lc)) (ih : ∀ (x0 x1 : Nat) (aa : Act) (w : World) (S : Sy w0 [] [x0, x1] (btS c es g cp (j + 1)) [QaL es.b es.o es.l, Qay es.l, rfI w0.heap.size g (nOf c) cp (zP c zs R (j + 1))] aa w), post Try.prog (.rnd (m) (Qa_ btC) :: btC.k.tail) (bodyPost Try.prog Try.f10 (QgH w0 c zs R)) .normal aa w) (x0 x1 : Nat) (aa : Act) (w : World) (S : Sy w0 [] [x0, x1] (btS c es g cp (j)) [QaL es.b es.o es.l, Qay es.l, rfI w0.heap.size g (nOf c) cp (zP c zs R (j))] aa w) : post Try.prog (.rnd (m + 1) (Qa_ btC) :: btC.k.tail) (bodyPost Try.prog Try.f10 (QgH w0 c zs R)) .normal aa w := by
  obtain ⟨n1, n2, n3, n4, n5, n6, n7, n8, n9⟩ := QbR hc
  have n0 : kOf c ≤ nOf c := by unfold nOf; omega
  obtain ⟨v1, v2, v3⟩ := Qf7 hc (q := j) (by omega)
  have e1 : ((zP c zs R (j))).set (kOf c + 4 * j + 1) lb = (bL (kOf c) (nOf c) (QdP R.1) (R.2 : Int) (QdO (j + 1) (vvB R.1 zs) (fun q => zs.getD q 0)) (QdO j (wwB R.1) (fun _ => 0))) := by unfold zP; rw [bL_val (by omega) j (by omega), Qi0 (by unfold vvB; rw [hp])]
  have e2 : ((bL (kOf c) (nOf c) (QdP R.1) (R.2 : Int) (QdO (j + 1) (vvB R.1 zs) (fun q => zs.getD q 0)) (QdO j (wwB R.1) (fun _ => 0)))).set (kOf c + 4 * j) (wrap64 (2 * lc)) = (zP c zs R (j + 1)) := by unfold zP; rw [bL_word (by omega) j (by omega), Qi0 (by unfold wwB; rw [hp])]
  have l1 : ((zP c zs R (j))).length = (nOf c) := QbV _ _ _ _ _ _
  have l2 : ((bL (kOf c) (nOf c) (QdP R.1) (R.2 : Int) (QdO (j + 1) (vvB R.1 zs) (fun q => zs.getD q 0)) (QdO j (wwB R.1) (fun _ => 0)))).length = (nOf c) := QbV _ _ _ _ _ _
  refine Qap (c := ⟨(.rnd (m + 1) (Qa_ btC) :: btC.k.tail), btS c es g cp j⟩) 10 50 1 S fun bs aa w S => ?_
  refine Qab 66 S (decide_eq_true (by omega) : decide ((j : Int) < (c.l.toNat : Int)) = true) fun S => ?_
  refine Qap 12 60 2 S fun bs aa w S => ?_
  have hla := QlF w es hez (S.fact (f := QaL es.b es.o es.l) (by simp)) (fun e he => (hek e he).1) (S.fact (f := Qay es.l) (by simp)) (by omega) (fun e he => by have := (he1.2 e he).2; omega) (j : Int)
  rw [hes, hp] at hla
  refine QaJ S hla (by kernel_rfl) fun aa w hb S => ?_
  refine Qah S fun bs aa w S => ?_
  letI : HF := ⟨[]⟩
  refine QaF [0, 2] (by kernel_rfl) (by kernel_rfl) S (by kernel_rfl) (fun aa w D => ?_) (fun f hf => by cases hf)
  refine Qdw 3 D (by kernel_rfl) (by kernel_rfl) (by kernel_rfl) (Qky (Qbc c) (j : Int) w (QlE hc)) (by kernel_rfl) fun aa w hb D => ?_
  refine QaZ 6 D (by kernel_rfl) (by kernel_rfl) (by kernel_rfl) (b := g) (off := 0) (len := (nOf c)) (n := kOf c + 4 * j + 1) (size := 1) (ix := Qes (Qbc c) (j : Int)) (by kernel_rfl) v1 v3 fun aa D => ?_
  have hrow := D.S.fact (f := rfI w0.heap.size g (nOf c) cp (zP c zs R (j))) (by simp)
  have hfa := (D.S.fs (rfI w0.heap.size g (nOf c) cp (zP c zs R (j))) (by simp)).2
  obtain ⟨hst, hh⟩ := Qge hrow l1.symm (kOf c + 4 * j + 1) v3 lb
  rw [e1] at hh
  refine Qac [7] (by kernel_rfl) (by kernel_rfl) rfl (na1 ?_)
  refine QiZ 7 [QaL es.b es.o es.l, Qay es.l] D (by kernel_rfl) (ty := 3) (ad := ⟨g, 0 + (kOf c + 4 * j + 1) * 1, none⟩) (x := .v (.int .i64 lb)) (v := .int .i64 lb) (by kernel_rfl) rfl hst (QcX w g _ _) (Or.inr hg) (fun f hf => ⟨by simp only [List.mem_cons, List.not_mem_nil, or_false] at hf ⊢; rcases hf with rfl | rfl <;> simp, hgf f hf⟩) (fun f hf => by cases hf) (fun i hi e => hfa i hi (by show some g = some _; rw [e])) fun aa D => ?_
  have D := D.addF (rfI w0.heap.size g (nOf c) cp (bL (kOf c) (nOf c) (QdP R.1) (R.2 : Int) (QdO (j + 1) (vvB R.1 zs) (fun q => zs.getD q 0)) (QdO j (wwB R.1) (fun _ => 0)))) hh (fun i hi hb => hfa i hi hb)
  refine QaM D (by kernel_rfl) fun S => ?_
  refine Qap 15 60 3 S fun bs aa w S => ?_
  refine QaJ S (word_any (Qbc c) (j : Int) w (QlE hc)) (by kernel_rfl) fun aa w hb S => ?_
  refine Qad 1 S fun bs aa w S => ?_
  refine QaJ S ((free_any lc w).mono fun e w' h => ⟨h.1, h.2 ▸ Below.refl _ _⟩) (by kernel_rfl) fun aa w hb S => ?_
  refine QbI (b := g) (off := 0) (len := (nOf c)) (n := kOf c + 4 * j) (size := 1) (i := Qhw (Qbc c) (j : Int)) S (by kernel_rfl) v2 (by omega) fun aa S => ?_
  refine Qbq S fun bs S => ?_
  have hrow := S.fact (f := rfI w0.heap.size g (nOf c) cp (bL (kOf c) (nOf c) (QdP R.1) (R.2 : Int) (QdO (j + 1) (vvB R.1 zs) (fun q => zs.getD q 0)) (QdO j (wwB R.1) (fun _ => 0)))) (by simp)
  have hfa := (S.fs (rfI w0.heap.size g (nOf c) cp (bL (kOf c) (nOf c) (QdP R.1) (R.2 : Int) (QdO (j + 1) (vvB R.1 zs) (fun q => zs.getD q 0)) (QdO j (wwB R.1) (fun _ => 0)))) (by simp)).2
  obtain ⟨hst, hh⟩ := Qge hrow l2.symm (kOf c + 4 * j) (by omega) (wrap64 (2 * lc))
  rw [e2] at hh
  refine QgR (ty := 3) (ad := ⟨g, 0 + (kOf c + 4 * j) * 1, none⟩) (x := .v (.int .i64 (wrap64 (2 * lc)))) (v := .int .i64 (wrap64 (2 * lc))) S (by kernel_rfl) rfl hst (QcX w g _ _) (Or.inr hg) [QaL es.b es.o es.l, Qay es.l] (fun f hf => ⟨by simp only [List.mem_cons, List.not_mem_nil, or_false] at hf ⊢; rcases hf with rfl | rfl <;> simp, hgf f hf⟩) (fun i hi e => hfa i hi (by show some g = some _; rw [e])) fun aa S => ?_
  have S := S.add (rfI w0.heap.size g (nOf c) cp (zP c zs R (j + 1))) hh (fun i hi hb => hfa i hi hb)
  refine Qap 16 60 1 S fun bs aa w S => ?_
  refine QaB 90 S (by rw [IntKind.wrap_i64]; omega : IntKind.i64.wrap ((j : Int) + 1) = ((j + 1 : Nat) : Int)) fun S => ?_
  refine Qaj ⟨0, [999]⟩ 50 S fun bs aa w S => ?_
  have S := S.sub (F' := [QaL es.b es.o es.l, Qay es.l, rfI w0.heap.size g (nOf c) cp (zP c zs R (j + 1))]) (by intro f hf; simp only [List.mem_cons, List.not_mem_nil, or_false] at hf; rcases hf with rfl | rfl | rfl <;> simp)
  have S2 := S.to [0, 1] (btS c es g cp (j + 1)) (by kernel_rfl) (by kernel_rfl) (by kernel_rfl) (by kernel_rfl) (by kernel_rfl)
  refine Qag (k' := (.rnd (m) (Qa_ btC) :: btC.k.tail)) (by kernel_rfl) ?_
  exact ih _ _ aa w S2
theorem bt_e (m : Nat) (x0 x1 : Nat) (aa : Act) (w : World) (S : Sy w0 [] [x0, x1] (btS c es g cp (c.l.toNat)) [QaL es.b es.o es.l, Qay es.l, rfI w0.heap.size g (nOf c) cp (zP c zs R (c.l.toNat))] aa w) : post Try.prog (.rnd (m + 1) (Qa_ btC) :: btC.k.tail) (bodyPost Try.prog Try.f10 (QgH w0 c zs R)) .normal aa w := by
  refine Qap (c := ⟨(.rnd (m + 1) (Qa_ btC) :: btC.k.tail), btS c es g cp c.l.toNat⟩) 10 50 1 S fun bs aa w S => ?_
  refine Qab 66 S (decide_eq_false (by omega) : decide ((c.l.toNat : Int) < (c.l.toNat : Int)) = false) fun S => ?_
  refine Qah S fun bs aa w S => ?_
  have hrow := S.fact (f := rfI w0.heap.size g (nOf c) cp (zP c zs R (c.l.toNat))) (by simp)
  have hE1 := (S.fact (f := QaL es.b es.o es.l) (by simp))
  have hE2 := (S.fact (f := Qay es.l) (by simp))
  refine Qan S (by kernel_rfl) (by kernel_rfl) fun hgr => ⟨es, g, cp, rfl, ?_, hg, ⟨hes, hez, hE1, heb, hek, hE2⟩, Qaq hgr⟩
  have hz : zP c zs R c.l.toNat = Qj9 c zs R := bL_done
  rw [hz] at hrow
  exact Qhd hrow (QbV _ _ _ _ _ _).symm
theorem bt_a : ∀ (m j : Nat), j + m = c.l.toNat → ∀ (x0 x1 : Nat) (aa : Act) (w : World) (S : Sy w0 [] [x0, x1] (btS c es g cp (j)) [QaL es.b es.o es.l, Qay es.l, rfI w0.heap.size g (nOf c) cp (zP c zs R (j))] aa w), post Try.prog (.rnd (m + 1) (Qa_ btC) :: btC.k.tail) (bodyPost Try.prog Try.f10 (QgH w0 c zs R)) .normal aa w := by
  intro m
  induction m with
  | zero => intro j hj x0 x1 aa w S; obtain rfl : j = c.l.toNat := by omega
            exact bt_e w0 c hc zs R es hes hez heb hek he1 g cp hg hgf 0 x0 x1 aa w S
  | succ m ih =>
    intro j hj x0 x1 aa w S
    cases hp : Qc6 R.1 (j : Int) with
    | none => exact bt_n w0 c hc zs R es hes hez heb hek he1 g cp hg hgf (m + 1) j (by omega) hp (ih (j + 1) (by omega)) x0 x1 aa w S
    | some q =>
      obtain ⟨la, lb, lc⟩ := q
      exact bt_s w0 c hc zs R es hes hez heb hek he1 g cp hg hgf (m + 1) j (by omega) la lb lc hp (ih (j + 1) (by omega)) x0 x1 aa w S
theorem bt_8 (x0 x1 : Nat) (aa : Act) (w : World) (S : Sy w0 [] [x0, x1] (b8S c es R.2 g cp) [QaL es.b es.o es.l, Qay es.l, rfI w0.heap.size g (nOf c) cp (bL (kOf c) (nOf c) (QdP R.1) 0 (fun q => zs.getD q 0) (fun _ => 0))] aa w) : post Try.prog b8C.k (bodyPost Try.prog Try.f10 (QgH w0 c zs R)) .normal aa w := by
  obtain ⟨n1, n2, n3, n4, n5, n6, n7, n8, n9⟩ := QbR hc
  have n0 : kOf c ≤ nOf c := by unfold nOf; omega
  have e1 : ((bL (kOf c) (nOf c) (QdP R.1) 0 (fun q => zs.getD q 0) (fun _ => 0))).set 3 (R.2 : Int) = (zP c zs R (0)) := by unfold zP; rw [bL_fin (by omega), mix_0, mix_0]
  refine Qap (c := ⟨b8C.k, b8S c es R.2 g cp⟩) 8 60 4 S fun bs aa w S => ?_
  refine QbI (b := g) (off := 0) (len := (nOf c)) (n := 3) (size := 1) (i := ((3 : Nat) : Int)) S (by kernel_rfl) rfl (by omega) fun aa S => ?_
  refine Qbq S fun bs S => ?_
  have hrow := S.fact (f := rfI w0.heap.size g (nOf c) cp (bL (kOf c) (nOf c) (QdP R.1) 0 (fun q => zs.getD q 0) (fun _ => 0))) (by simp)
  have hfa := (S.fs (rfI w0.heap.size g (nOf c) cp (bL (kOf c) (nOf c) (QdP R.1) 0 (fun q => zs.getD q 0) (fun _ => 0))) (by simp)).2
  obtain ⟨hst, hh⟩ := Qge hrow (QbV _ _ _ _ _ _).symm 3 (by omega) (R.2 : Int)
  rw [e1] at hh
  refine QgR (ty := 3) (ad := ⟨g, 0 + 3 * 1, none⟩) (x := .v (.int .i64 (R.2 : Int))) (v := .int .i64 (R.2 : Int)) S (by kernel_rfl) rfl hst (QcX w g _ _) (Or.inr hg) [QaL es.b es.o es.l, Qay es.l] (fun f hf => ⟨by simp only [List.mem_cons, List.not_mem_nil, or_false] at hf ⊢; rcases hf with rfl | rfl <;> simp, hgf f hf⟩) (fun i hi e => hfa i hi (by show some g = some _; rw [e])) fun aa S => ?_
  have S := S.add (rfI w0.heap.size g (nOf c) cp (zP c zs R (0))) hh (fun i hi hb => hfa i hi hb)
  refine Qap 9 60 3 S fun bs aa w S => ?_
  refine QaB 64 S n3 fun S => ?_
  refine Qah S fun bs aa w S => ?_
  have S := S.sub (F' := [QaL es.b es.o es.l, Qay es.l, rfI w0.heap.size g (nOf c) cp (zP c zs R (0))]) (by intro f hf; simp only [List.mem_cons, List.not_mem_nil, or_false] at hf; rcases hf with rfl | rfl | rfl <;> simp)
  have S2 := S.to [0, 1] (btS c es g cp 0) (by kernel_rfl) (by kernel_rfl) (by kernel_rfl) (by kernel_rfl) (by kernel_rfl)
  refine QaR (c.l.toNat + 1) (by kernel_rfl) ?_
  refine Qag (k' := (.rnd (c.l.toNat + 1) (Qa_ btC) :: btC.k.tail)) (by kernel_rfl) ?_
  exact bt_a w0 c hc zs R es hes hez heb hek he1 g cp hg hgf c.l.toNat 0 (by omega) _ _ aa _ S2
end
theorem clk_last {l : List Et} {R : List (Int × Ws)} (h : l.map prE = R) : QdP R = if l.length = 0 then 0 else (l.getD (l.length - 1) e00).ver := by
  subst h
  unfold QdP
  by_cases h0 : l.length = 0
  · rw [if_pos h0, List.length_eq_zero_iff.1 h0]; rfl
  · rw [if_neg h0]
    have e : (l.map prE).getLast? = some (prE (l.getD (l.length - 1) e00)) := by
      rw [List.getLast?_eq_getElem?, List.length_map, List.getElem?_map]
      simp [List.getD, List.getElem?_eq_getElem (show l.length - 1 < l.length by omega)]
    rw [e]
    rfl
theorem bt_5 (w0 : World) (c : Cf) (hc : c.ok) (zs : List Int) (R : List (Int × Ws) × Nat) (es : Er) (hes : es.l.map prE = R.1) (hez : es.l.length = 0 ∨ es.a = some ⟨es.b, es.o, none⟩) (heb : es.l.length = 0 ∨ w0.heap.size ≤ es.b) (hek : ∀ e ∈ es.l, e.ok ∧ (e.ws.length = 0 ∨ w0.heap.size ≤ e.b)) (he1 : es.l.length ≤ 100000 ∧ ∀ e ∈ es.l, e.ok ∧ e.ws.length ≤ 100000) (g5 c5 : Nat) (dv : List Value) (x0 x1 x2 x3 : Nat) (aa : Act) (w : World) (S : Sy w0 [] [x0, x1, x2, x3] (b5S c dv es R.2 g5 c5) [QaL es.b es.o es.l, Qay es.l, rfI w0.heap.size g5 (nOf c) c5 (bL (kOf c) (nOf c) 0 0 (fun q => zs.getD q 0) (fun _ => 0))] aa w) : post Try.prog b5C.k (bodyPost Try.prog Try.f10 (QgH w0 c zs R)) .normal aa w := by
  obtain ⟨n1, n2, n3, n4, n5, n6, n7, n8, n9⟩ := QbR hc
  have n0 : kOf c ≤ nOf c := by unfold nOf; omega
  have hclk := clk_last hes
  refine Qap (c := ⟨b5C.k, b5S c dv es R.2 g5 c5⟩) 5 60 2 S fun bs aa w S => ?_
  refine Qbq S fun bs S => ?_
  have hbl : ∀ j, j < bs.length → bs.getD j 0 < w.heap.size := fun j hj => S.lt hj
  have hgs := S.gr.size
  have hFP : ∀ f ∈ [QaL es.b es.o es.l, Qay es.l], f.P w := fun f hf => (S.fs f (by simp only [List.mem_cons, List.not_mem_nil, or_false] at hf ⊢; rcases hf with rfl | rfl <;> simp)).1
  refine Qbg S (X := Nat × Nat) (val := fun q => .slice (some ⟨q.1, 0, none⟩) (nOf c) q.2) (C := fun q w' => w'.ownsRow w.heap.size 3 1 (.slice (some ⟨q.1, 0, none⟩) (nOf c) q.2) (nOf c) (((bL (kOf c) (nOf c) 0 0 (fun q => zs.getD q 0) (fun _ => 0))).map (Value.int .i64)) ∧ w.heap.size ≤ q.1) (f := 32) (args := #[.slice (some ⟨g5, 0, none⟩) (nOf c) c5]) (by
    have h := Try.slices_Clone_int g5 0 (nOf c) c5 (bL (kOf c) (nOf c) 0 0 (fun q => zs.getD q 0) (fun _ => 0)) w (by rw [QbV]; exact Nat.le_refl _) (by omega) (Qhd (S.fact (f := rfI w0.heap.size g5 (nOf c) c5 (bL (kOf c) (nOf c) 0 0 (fun q => zs.getD q 0) (fun _ => 0))) (by simp)) (QbV _ _ _ _ _ _).symm)
    refine h.mono fun e w' ⟨v', h1, h2, h3, h4⟩ => ?_
    rw [List.take_of_length_le (by rw [QbV]; exact Nat.le_refl _)] at h2
    obtain ⟨g, cp, rfl, hg, _⟩ := QiT h2 (by omega)
    exact ⟨(g, cp), h1, ⟨h2, hg⟩, h4⟩) (by kernel_rfl) fun q aa w1 hC hb S => ?_
  obtain ⟨g, cp⟩ := q
  obtain ⟨hrow, hgn⟩ := hC
  have hg : w0.heap.size ≤ g := by have : w.heap.size ≤ g := hgn; omega
  have hgf : ∀ f ∈ [QaL es.b es.o es.l, Qay es.l], ¬f.bl g := fun f hf hb => by
    have := f.lt w (hFP f hf) g hb
    have : w.heap.size ≤ g := hgn
    omega
  have S := S.add (rfI w0.heap.size g (nOf c) cp (bL (kOf c) (nOf c) 0 0 (fun q => zs.getD q 0) (fun _ => 0))) (QaS hrow hgs) (fun j hj hb => by
    have h2 : some g = some (bs.getD j 0) := hb
    simp only [Option.some.injEq] at h2
    have := hbl j hj
    have : w.heap.size ≤ g := hgn
    omega)
  refine Qap 6 60 3 S fun bs aa w S => ?_
  by_cases h0 : es.l.length = 0
  · have hz8 : (bL (kOf c) (nOf c) 0 0 (fun q => zs.getD q 0) (fun _ => 0)) = (bL (kOf c) (nOf c) (QdP R.1) 0 (fun q => zs.getD q 0) (fun _ => 0)) := by rw [hclk, if_pos h0]
    refine Qab 45 S (decide_eq_false (by omega) : decide ((es.l.length : Int) > 0) = false) fun S => ?_
    refine Qaj ⟨0, [8]⟩ 60 S fun bs aa w S => ?_
    have S := S.sub (F' := [QaL es.b es.o es.l, Qay es.l, rfI w0.heap.size g (nOf c) cp (bL (kOf c) (nOf c) 0 0 (fun q => zs.getD q 0) (fun _ => 0))]) (by intro f hf; simp only [List.mem_cons, List.not_mem_nil, or_false] at hf; rcases hf with rfl | rfl | rfl <;> simp)
    rw [hz8] at S
    have S2 := S.to [0, 2] (b8S c es R.2 g cp) (by kernel_rfl) (by kernel_rfl) (by kernel_rfl) (by kernel_rfl) (by kernel_rfl)
    refine Qag (k' := b8C.k) (by kernel_rfl) ?_
    exact bt_8 w0 c hc zs R es hes hez heb hek he1 g cp hg hgf _ _ aa _ S2
  · have hc8 : ((bL (kOf c) (nOf c) 0 0 (fun q => zs.getD q 0) (fun _ => 0))).set 0 (es.l.getD (es.l.length - 1) e00).ver = (bL (kOf c) (nOf c) (QdP R.1) 0 (fun q => zs.getD q 0) (fun _ => 0)) := by rw [bL_clk (by omega), hclk, if_neg h0]
    refine Qab 45 S (decide_eq_true (by omega) : decide ((es.l.length : Int) > 0) = true) fun S => ?_
    refine Qah S fun bs aa w S => ?_
    letI : HF := ⟨[QaL es.b es.o es.l]⟩
    refine QaF [0] (by kernel_rfl) (by kernel_rfl) S (by kernel_rfl) (fun aa w D => ?_) (fun f hf => by have e1 : f = QaL es.b es.o es.l := List.mem_singleton.1 hf; subst e1; simp)
    refine QaZ 7 D (by kernel_rfl) (by kernel_rfl) (by kernel_rfl) (b := es.b) (off := es.o) (len := es.l.length) (n := es.l.length - 1) (size := 2) (ix := IntKind.i64.wrap ((es.l.length : Int) - 1)) (by rw [← hez.resolve_left h0]; kernel_rfl) (by rw [IntKind.wrap_i64]; omega) (by omega) fun aa D => ?_
    refine Qbl 9 D (by kernel_rfl) (by kernel_rfl) (by kernel_rfl) (ty := 3) (ad := ⟨es.b, es.o + (es.l.length - 1) * 2, none⟩) (v := .int .i64 (es.l.getD (es.l.length - 1) e00).ver) (fun W hW => Qa6 (by kernel_rfl) ((show ErAt W es.b es.o es.l from hW (QaL es.b es.o es.l) (by show _ ∈ [QaL es.b es.o es.l]; simp)) (es.l.length - 1) (by omega)).1) (by kernel_rfl) fun aa D => ?_
    refine QaZ 10 D (by kernel_rfl) (by kernel_rfl) (by kernel_rfl) (b := g) (off := 0) (len := (nOf c)) (n := 0) (size := 1) (ix := ((0 : Nat) : Int)) (by kernel_rfl) rfl (by omega) fun aa D => ?_
    have hrow := D.S.fact (f := rfI w0.heap.size g (nOf c) cp (bL (kOf c) (nOf c) 0 0 (fun q => zs.getD q 0) (fun _ => 0))) (by simp)
    have hfa := (D.S.fs (rfI w0.heap.size g (nOf c) cp (bL (kOf c) (nOf c) 0 0 (fun q => zs.getD q 0) (fun _ => 0))) (by simp)).2
    obtain ⟨hst, hh⟩ := Qge hrow (QbV _ _ _ _ _ _).symm 0 (by omega) (es.l.getD (es.l.length - 1) e00).ver
    rw [hc8] at hh
    refine Qac [11] (by kernel_rfl) (by kernel_rfl) rfl (na1 ?_)
    refine QiZ 11 [QaL es.b es.o es.l, Qay es.l] D (by kernel_rfl) (ty := 3) (ad := ⟨g, 0 + 0 * 1, none⟩) (x := .v (.int .i64 (es.l.getD (es.l.length - 1) e00).ver)) (v := .int .i64 (es.l.getD (es.l.length - 1) e00).ver) (by kernel_rfl) rfl hst (QcX w g _ _) (Or.inr hg) (fun f hf => ⟨by simp only [List.mem_cons, List.not_mem_nil, or_false] at hf ⊢; rcases hf with rfl | rfl <;> simp, hgf f hf⟩) (fun f hf => by have e1 : f = QaL es.b es.o es.l := List.mem_singleton.1 hf; subst e1; simp) (fun i hi e => hfa i hi (by show some g = some _; rw [e])) fun aa D => ?_
    have D := D.addF (rfI w0.heap.size g (nOf c) cp (bL (kOf c) (nOf c) (QdP R.1) 0 (fun q => zs.getD q 0) (fun _ => 0))) hh (fun i hi hb => hfa i hi hb)
    refine QaM D (by kernel_rfl) fun S => ?_
    refine Qaj ⟨0, [8]⟩ 60 S fun bs aa w S => ?_
    have S := S.sub (F' := [QaL es.b es.o es.l, Qay es.l, rfI w0.heap.size g (nOf c) cp (bL (kOf c) (nOf c) (QdP R.1) 0 (fun q => zs.getD q 0) (fun _ => 0))]) (by intro f hf; simp only [List.mem_cons, List.not_mem_nil, or_false] at hf; rcases hf with rfl | rfl | rfl <;> simp)
    have S2 := S.to [0, 2] (b8S c es R.2 g cp) (by kernel_rfl) (by kernel_rfl) (by kernel_rfl) (by kernel_rfl) (by kernel_rfl)
    refine Qag (k' := b8C.k) (by kernel_rfl) ?_
    exact bt_8 w0 c hc zs R es hes hez heb hek he1 g cp hg hgf _ _ aa _ S2
theorem mem3 {F : List RF} {a b c : RF} (h1 : a ∈ F) (h2 : b ∈ F) (h3 : c ∈ F) : ∀ f ∈ [a, b, c], f ∈ F := by
  intro f hf
  simp only [List.mem_cons, List.not_mem_nil, or_false] at hf
  rcases hf with rfl | rfl | rfl
  · exact h1
  · exact h2
  · exact h3
theorem QkZ {c : Cf} (h : c.ok) : Qe6 (Qbc c) = true := by
  unfold Qe6
  rw [Bool.and_eq_true, decide_eq_true_eq]
  exact ⟨h, by rw [lyEq_iff]; rfl⟩
def mkC (c : Cf) (w : World) (v : Value) (w' : World) : Prop := ∃ g, v = .slice (some ⟨g, 0, none⟩) (nOf c) (nOf c) ∧ w.heap.size ≤ g ∧ Qbm w' g 0 (List.replicate (nOf c) (0 : Int))
theorem Qlx {c : Cf} (hc : c.ok) {s : SS} {bs : List Nat} {w : World} (hx : s.val (.tmp 30) = some (.v (.int .i64 (Qbc c).size))) : ∀ (o : Oper) (ρ : Operand → Value), o.op = .makeSlice 26 (.tmp 30) (.tmp 30) → o.type = 26 → (∀ x y, s.val x = some y → ρ x = den bs y) → ∃ v w', (execOp ρ o).run Try.prog w = .ok (.value v) w' ∧ mkC c w v w' ∧ Below w.heap.size w w' := by
  intro oo ρ h1 h2 h3
  obtain ⟨n1, n2, n3, n4, n5, n6, n7, n8, n9⟩ := QbR hc
  have e1 : ρ (.tmp 30) = .int .i64 ((nOf c) : Int) := (h3 _ _ hx).trans (congrArg (Value.int .i64) n5)
  refine ⟨.slice (some ⟨w.heap.size, 0, none⟩) (nOf c) (nOf c), w.alloc (.cells (List.replicate (nOf c) (Value.int .i64 0)).toArray 3 (0, 0)), ?_, ⟨_, rfl, Nat.le_refl _, fun j hj => ?_⟩, (Below.refl _ _).alloc (Nat.le_refl _) _⟩
  · unfold execOp
    simp only [h1, e1, Sem.run_bind, mk_rI (nOf c) (by omega) w, Result.andThen_ok, Sem.run_pure]
  · rw [Nat.zero_add]
    refine Qd9 (heap_alloc_new w _) ?_
    have hj2 : j < (nOf c) := by simpa using hj
    simp [List.getD, List.getElem?_replicate, hj2]
def rfA (B : Nat) (c : Cf) (zs : List Int) (u : Value) : RF := Qaa B 66 5 u (QbY (Qbc c) zs zs.length).length (QaA (QbY (Qbc c) zs zs.length))
theorem QlK {c : Cf} (hc : c.ok) {zs : List Int} (hzs : zs.length ≤ 40) {fa : Option Addr} {fc fb fo : Nat} (hf : zs.length = 0 ∨ fa = some ⟨fb, fo, none⟩) {w : World} (hI : Qbm w fb fo zs) : Calls Try.prog 31 #[(Qbc c).v, .slice fa zs.length fc] w fun e w' => ∃ u, e = .returned u ∧ (rfA w.heap.size c zs u).P w' ∧ Below w.heap.size w w' :=
  (init_own (Qbc c) _ zs w (QlE hc) (ints_has (by omega) hf hI) (by omega)).mono fun e w' ⟨u, h1, h2, h3⟩ => ⟨u, h1, h2, h3⟩
def alV (c : Cf) (q : Nat × Nat × Value) : Value := .tuple #[.agg #[.slice (some ⟨q.1, 0, none⟩) (nOf c) q.2.1], q.2.2, .int .i64 0]
def zI (c : Cf) (zs : List Int) : List Int := bL (kOf c) (nOf c) 0 0 (fun q => zs.getD q 0) (fun _ => 0)
theorem Qhz {c : Cf} (hc : c.ok) {zs : List Int} (hzs : zs.length ≤ 40) {w : World} {B g0 : Nat} {u : Value} (hI : Qbm w g0 0 (List.replicate (nOf c) (0 : Int))) (hA : (rfA B c zs u).P w) : Calls Try.prog 30 #[.agg #[.slice (some ⟨g0, 0, none⟩) (nOf c) (nOf c)], u] w fun e w' => ∃ q, e = .returned (alV c q) ∧ ((rfI w.heap.size q.1 (nOf c) q.2.1 (zI c zs)).P w' ∧ w.heap.size ≤ q.1) ∧ Below w.heap.size w w' := by
  obtain ⟨n1, n2, n3, n4, n5, n6, n7, n8, n9⟩ := QbR hc
  have n0 : kOf c ≤ nOf c := by unfold nOf; omega
  have h := all_own (.slice (some ⟨g0, 0, none⟩) (nOf c) (nOf c)) u (List.replicate (nOf c) (0 : Int)) _ w ⟨_, _, by rw [List.length_replicate], by rw [List.length_replicate]; omega, Or.inr ⟨g0, 0, rfl, hI⟩⟩ (Qfl hA) (by rw [List.length_replicate]; omega) (by have := Qey (Qbc c) zs zs.length; omega) (by rw [List.length_replicate]; exact init_err hc zs _)
  refine h.mono fun e w' ⟨v', r, h1, h2, h3⟩ => ?_
  rw [init_all hc, List.length_replicate] at h2
  obtain ⟨g5, c5, rfl, hg5, _⟩ := QiT h2 (by omega)
  exact ⟨(g5, c5, r), h1, ⟨h2, hg5⟩, h3⟩
theorem boot_t (w0 : World) (c : Cf) (hc : c.ok) (zs : List Int) (hzs : zs.length ≤ 40) (fa : Option Addr) (fc fb fo : Nat) (hf : zs.length = 0 ∨ fa = some ⟨fb, fo, none⟩) (x : Sr) (hx : x.ok) (hxc : x.l.length ≤ x.c) (hxl : x.l.length ≤ 600) (wv : Value) (hA : x.at w0) (hI : Qbm w0 fb fo zs) : Calls Try.prog 10 #[(Qbc c).v, .slice fa zs.length fc, .agg #[x.v, wv]] w0 (QgH w0 c zs (Qdz (x.l.length + 1) x.l 0 0)) := by
  obtain ⟨n1, n2, n3, n4, n5, n6, n7, n8, n9⟩ := QbR hc
  have n0 : kOf c ≤ nOf c := by unfold nOf; omega
  obtain ⟨R, hR⟩ : ∃ R, (Qdz (x.l.length + 1) x.l 0 0) = R := ⟨_, rfl⟩
  have hRb := Qk4 (x.l.length + 1) x.l 0 0
  rw [hR] at hRb ⊢
  refine Qas [] [Qaz x.b x.o x.l, Qax fb fo zs] (by intro f hf; simp only [List.mem_cons, List.not_mem_nil, or_false] at hf; rcases hf with rfl | rfl; exact hA; exact hI) Try.func10 rfl rfl fun aa S => ?_
  refine Qap 1 60 1 S fun bs aa w S => ?_
  have hri := QhT (Qbc c) w
  rw [QkZ hc] at hri
  refine QaJ S hri (by kernel_rfl) fun aa w hb S => ?_
  refine Qap 3 60 2 S fun bs aa w S => ?_
  refine Qbq S fun bs S => ?_
  have hblx : ∀ j, j < bs.length → bs.getD j 0 < w.heap.size := fun j hj => S.lt hj
  have hgs := S.gr.size
  have hcx := Qk1 w x hx hxc (by omega) (S.fact (f := Qaz x.b x.o x.l) (by simp))
  rw [hR] at hcx
  refine Qbg S (X := Er) (val := fun z => .tuple #[z.v, .int .i64 (R.2 : Int)]) (C := recQ R w.heap.size) (hcx.mono fun y w' h => rec_er h) (by kernel_rfl) fun es aa w1 hes0 hb S => ?_
  have S := S.add (QaL es.b es.o es.l) hes0.2.2.1 (fun j hj hb => by
    obtain ⟨q1, q2⟩ := hb
    have := hblx j hj
    have := hes0.2.2.2.1.resolve_left q2
    omega)
  have S := S.add (Qay es.l) hes0.2.2.2.2.2 (fun j hj hb => by
    obtain ⟨e, he, q1, q2⟩ := hb
    have := hblx j hj
    have := (hes0.2.2.2.2.1 e he).2.resolve_left q2
    omega)
  have he1 := rec_bnd hes0 hRb
  have he1 : es.l.length ≤ 100000 ∧ ∀ e ∈ es.l, e.ok ∧ e.ws.length ≤ 100000 := ⟨by omega, he1.2⟩
  have hes := hes0.1
  have hez := hes0.2.1
  have heb : es.l.length = 0 ∨ w0.heap.size ≤ es.b := hes0.2.2.2.1.imp id fun h => by omega
  have hek : ∀ e ∈ es.l, e.ok ∧ (e.ws.length = 0 ∨ w0.heap.size ≤ e.b) := fun e he => ⟨(hes0.2.2.2.2.1 e he).1, (hes0.2.2.2.2.1 e he).2.imp id fun h => by omega⟩
  refine Qah S fun bs aa w S => ?_
  refine Qbq S fun bs S => ?_
  letI : KP := ⟨[31]⟩
  letI : HF := ⟨[]⟩
  refine QaF [0] (by kernel_rfl) (by kernel_rfl) S (by kernel_rfl) (fun aa w D => ?_) (fun f hf => by cases hf)
  refine Qac [2, 6, 12] (by kernel_rfl) (by kernel_rfl) rfl (na3 ?_ ?_ ?_)
  · skip
    refine QdB 2 D (by kernel_rfl) (by kernel_rfl) (Qlx hc (by kernel_rfl)) fun v0 aa w hC0 hb0 hlt0 D => ?_
    obtain ⟨g0, rfl, hg0, hI0⟩ := hC0
    have D := D.addF (Qax g0 0 (List.replicate (nOf c) (0 : Int))) hI0 (fun j hj hb => by
      have h1 := hlt0 j hj
      have h2 := hb.1
      omega)
    refine Qac [6, 12] (by kernel_rfl) (by kernel_rfl) rfl (na2 ?_ ?_)
    · skip
      have hlt1 := fun j hj => D.S.lt (i := j) hj
      have hgr1 := D.S.gr.size
      refine QaD 6 D (by kernel_rfl) (X := Value) (val := id) (C := fun u w' => (rfA w.heap.size c zs u).P w') (args := #[(Qbc c).v, .slice fa zs.length fc]) (QlK hc hzs hf (D.S.fact (f := Qax fb fo zs) (by simp))) (by kernel_rfl) fun u aa w hC1 hb1 D => ?_
      have D := D.addF (rfA w0.heap.size c zs u) (QaS hC1 hgr1) (fun j hj hb => by
        have h1 := hlt1 j hj
        have h2 := (World.ownsRow.lt hC1 _ hb).1
        omega)
      refine Qac [7, 12] (by kernel_rfl) (by kernel_rfl) rfl (na2 ?_ ?_)
      · skip
        have hlt2 := fun j hj => D.S.lt (i := j) hj
        have hgr2 := D.S.gr.size
        refine QaD 7 D (by kernel_rfl) (X := Nat × Nat × Value) (val := alV c) (C := fun q w' => (rfI w.heap.size q.1 (nOf c) q.2.1 (zI c zs)).P w' ∧ w.heap.size ≤ q.1) (args := #[.agg #[.slice (some ⟨g0, 0, none⟩) (nOf c) (nOf c)], u]) (Qhz hc hzs (D.S.fact (f := Qax g0 0 (List.replicate (nOf c) (0 : Int))) (by simp)) (D.S.fact (f := rfA w0.heap.size c zs u) (by simp))) (by kernel_rfl) fun q aa w hC2 hb2 D => ?_
        obtain ⟨g5, c5, r5⟩ := q
        have D := D.addF (rfI w0.heap.size g5 (nOf c) c5 (zI c zs)) (QaS hC2.1 hgr2) (fun j hj hb => by
          have h1 := hlt2 j hj
          have h2 : some g5 = some (_ : Nat) := hb
          simp only [Option.some.injEq] at h2
          have h3 : _ ≤ g5 := hC2.2
          omega)
        refine Qac [12] (by kernel_rfl) (by kernel_rfl) rfl (na1 ?_)
        · skip
          refine Qbr 12 D (by kernel_rfl) (Nat.le_refl _) (by kernel_rfl) (by kernel_rfl) fun bs aa w D hl => ?_
          refine Qac [13] (by kernel_rfl) (by kernel_rfl) rfl (na1 ?_)
          · skip
            refine Qbr 13 D (by kernel_rfl) hl (by kernel_rfl) (by kernel_rfl) fun bs aa w D hl => ?_
            refine QaM D (by kernel_rfl) fun S => ?_
            refine Qaj ⟨0, [5]⟩ 60 S fun bs aa w S => ?_
            have S := S.sub (F' := [QaL es.b es.o es.l, Qay es.l, rfI w0.heap.size g5 (nOf c) c5 (zI c zs)]) (mem3 (by simp) (by simp) (by simp))
            have S2 := S.to [0, 1, 2, 3] (b5S c [x.v, wv] es R.2 g5 c5) (by kernel_rfl) (by kernel_rfl) (by kernel_rfl) (by kernel_rfl) (by kernel_rfl)
            refine Qag (k' := b5C.k) (by kernel_rfl) ?_
            exact bt_5 w0 c hc zs R es hes hez heb hek he1 g5 c5 [x.v, wv] _ _ _ _ aa _ S2
      · skip
        refine Qbr 12 D (by kernel_rfl) (Nat.le_refl _) (by kernel_rfl) (by kernel_rfl) fun bs aa w D hl => ?_
        refine Qac [7] (by kernel_rfl) (by kernel_rfl) rfl (na1 ?_)
        · skip
          have hlt2 := fun j hj => D.S.lt (i := j) hj
          have hgr2 := D.S.gr.size
          refine QaD 7 D (by kernel_rfl) (X := Nat × Nat × Value) (val := alV c) (C := fun q w' => (rfI w.heap.size q.1 (nOf c) q.2.1 (zI c zs)).P w' ∧ w.heap.size ≤ q.1) (args := #[.agg #[.slice (some ⟨g0, 0, none⟩) (nOf c) (nOf c)], u]) (Qhz hc hzs (D.S.fact (f := Qax g0 0 (List.replicate (nOf c) (0 : Int))) (by simp)) (D.S.fact (f := rfA w0.heap.size c zs u) (by simp))) (by kernel_rfl) fun q aa w hC2 hb2 D => ?_
          obtain ⟨g5, c5, r5⟩ := q
          have D := D.addF (rfI w0.heap.size g5 (nOf c) c5 (zI c zs)) (QaS hC2.1 hgr2) (fun j hj hb => by
            have h1 := hlt2 j hj
            have h2 : some g5 = some (_ : Nat) := hb
            simp only [Option.some.injEq] at h2
            have h3 : _ ≤ g5 := hC2.2
            omega)
          refine Qac [13] (by kernel_rfl) (by kernel_rfl) rfl (na1 ?_)
          · skip
            refine Qbr 13 D (by kernel_rfl) hl (by kernel_rfl) (by kernel_rfl) fun bs aa w D hl => ?_
            refine QaM D (by kernel_rfl) fun S => ?_
            refine Qaj ⟨0, [5]⟩ 60 S fun bs aa w S => ?_
            have S := S.sub (F' := [QaL es.b es.o es.l, Qay es.l, rfI w0.heap.size g5 (nOf c) c5 (zI c zs)]) (mem3 (by simp) (by simp) (by simp))
            have S2 := S.to [0, 1, 2, 3] (b5S c [x.v, wv] es R.2 g5 c5) (by kernel_rfl) (by kernel_rfl) (by kernel_rfl) (by kernel_rfl) (by kernel_rfl)
            refine Qag (k' := b5C.k) (by kernel_rfl) ?_
            exact bt_5 w0 c hc zs R es hes hez heb hek he1 g5 c5 [x.v, wv] _ _ _ _ aa _ S2
    · skip
      refine Qbr 12 D (by kernel_rfl) (Nat.le_refl _) (by kernel_rfl) (by kernel_rfl) fun bs aa w D hl => ?_
      refine Qac [6] (by kernel_rfl) (by kernel_rfl) rfl (na1 ?_)
      · skip
        have hlt1 := fun j hj => D.S.lt (i := j) hj
        have hgr1 := D.S.gr.size
        refine QaD 6 D (by kernel_rfl) (X := Value) (val := id) (C := fun u w' => (rfA w.heap.size c zs u).P w') (args := #[(Qbc c).v, .slice fa zs.length fc]) (QlK hc hzs hf (D.S.fact (f := Qax fb fo zs) (by simp))) (by kernel_rfl) fun u aa w hC1 hb1 D => ?_
        have D := D.addF (rfA w0.heap.size c zs u) (QaS hC1 hgr1) (fun j hj hb => by
          have h1 := hlt1 j hj
          have h2 := (World.ownsRow.lt hC1 _ hb).1
          omega)
        refine Qac [7] (by kernel_rfl) (by kernel_rfl) rfl (na1 ?_)
        · skip
          have hlt2 := fun j hj => D.S.lt (i := j) hj
          have hgr2 := D.S.gr.size
          refine QaD 7 D (by kernel_rfl) (X := Nat × Nat × Value) (val := alV c) (C := fun q w' => (rfI w.heap.size q.1 (nOf c) q.2.1 (zI c zs)).P w' ∧ w.heap.size ≤ q.1) (args := #[.agg #[.slice (some ⟨g0, 0, none⟩) (nOf c) (nOf c)], u]) (Qhz hc hzs (D.S.fact (f := Qax g0 0 (List.replicate (nOf c) (0 : Int))) (by simp)) (D.S.fact (f := rfA w0.heap.size c zs u) (by simp))) (by kernel_rfl) fun q aa w hC2 hb2 D => ?_
          obtain ⟨g5, c5, r5⟩ := q
          have D := D.addF (rfI w0.heap.size g5 (nOf c) c5 (zI c zs)) (QaS hC2.1 hgr2) (fun j hj hb => by
            have h1 := hlt2 j hj
            have h2 : some g5 = some (_ : Nat) := hb
            simp only [Option.some.injEq] at h2
            have h3 : _ ≤ g5 := hC2.2
            omega)
          refine Qac [13] (by kernel_rfl) (by kernel_rfl) rfl (na1 ?_)
          · skip
            refine Qbr 13 D (by kernel_rfl) hl (by kernel_rfl) (by kernel_rfl) fun bs aa w D hl => ?_
            refine QaM D (by kernel_rfl) fun S => ?_
            refine Qaj ⟨0, [5]⟩ 60 S fun bs aa w S => ?_
            have S := S.sub (F' := [QaL es.b es.o es.l, Qay es.l, rfI w0.heap.size g5 (nOf c) c5 (zI c zs)]) (mem3 (by simp) (by simp) (by simp))
            have S2 := S.to [0, 1, 2, 3] (b5S c [x.v, wv] es R.2 g5 c5) (by kernel_rfl) (by kernel_rfl) (by kernel_rfl) (by kernel_rfl) (by kernel_rfl)
            refine Qag (k' := b5C.k) (by kernel_rfl) ?_
            exact bt_5 w0 c hc zs R es hes hez heb hek he1 g5 c5 [x.v, wv] _ _ _ _ aa _ S2
  · skip
    have hlt1 := fun j hj => D.S.lt (i := j) hj
    have hgr1 := D.S.gr.size
    refine QaD 6 D (by kernel_rfl) (X := Value) (val := id) (C := fun u w' => (rfA w.heap.size c zs u).P w') (args := #[(Qbc c).v, .slice fa zs.length fc]) (QlK hc hzs hf (D.S.fact (f := Qax fb fo zs) (by simp))) (by kernel_rfl) fun u aa w hC1 hb1 D => ?_
    have D := D.addF (rfA w0.heap.size c zs u) (QaS hC1 hgr1) (fun j hj hb => by
      have h1 := hlt1 j hj
      have h2 := (World.ownsRow.lt hC1 _ hb).1
      omega)
    refine Qac [2, 12] (by kernel_rfl) (by kernel_rfl) rfl (na2 ?_ ?_)
    · skip
      refine QdB 2 D (by kernel_rfl) (by kernel_rfl) (Qlx hc (by kernel_rfl)) fun v0 aa w hC0 hb0 hlt0 D => ?_
      obtain ⟨g0, rfl, hg0, hI0⟩ := hC0
      have D := D.addF (Qax g0 0 (List.replicate (nOf c) (0 : Int))) hI0 (fun j hj hb => by
        have h1 := hlt0 j hj
        have h2 := hb.1
        omega)
      refine Qac [7, 12] (by kernel_rfl) (by kernel_rfl) rfl (na2 ?_ ?_)
      · skip
        have hlt2 := fun j hj => D.S.lt (i := j) hj
        have hgr2 := D.S.gr.size
        refine QaD 7 D (by kernel_rfl) (X := Nat × Nat × Value) (val := alV c) (C := fun q w' => (rfI w.heap.size q.1 (nOf c) q.2.1 (zI c zs)).P w' ∧ w.heap.size ≤ q.1) (args := #[.agg #[.slice (some ⟨g0, 0, none⟩) (nOf c) (nOf c)], u]) (Qhz hc hzs (D.S.fact (f := Qax g0 0 (List.replicate (nOf c) (0 : Int))) (by simp)) (D.S.fact (f := rfA w0.heap.size c zs u) (by simp))) (by kernel_rfl) fun q aa w hC2 hb2 D => ?_
        obtain ⟨g5, c5, r5⟩ := q
        have D := D.addF (rfI w0.heap.size g5 (nOf c) c5 (zI c zs)) (QaS hC2.1 hgr2) (fun j hj hb => by
          have h1 := hlt2 j hj
          have h2 : some g5 = some (_ : Nat) := hb
          simp only [Option.some.injEq] at h2
          have h3 : _ ≤ g5 := hC2.2
          omega)
        refine Qac [12] (by kernel_rfl) (by kernel_rfl) rfl (na1 ?_)
        · skip
          refine Qbr 12 D (by kernel_rfl) (Nat.le_refl _) (by kernel_rfl) (by kernel_rfl) fun bs aa w D hl => ?_
          refine Qac [13] (by kernel_rfl) (by kernel_rfl) rfl (na1 ?_)
          · skip
            refine Qbr 13 D (by kernel_rfl) hl (by kernel_rfl) (by kernel_rfl) fun bs aa w D hl => ?_
            refine QaM D (by kernel_rfl) fun S => ?_
            refine Qaj ⟨0, [5]⟩ 60 S fun bs aa w S => ?_
            have S := S.sub (F' := [QaL es.b es.o es.l, Qay es.l, rfI w0.heap.size g5 (nOf c) c5 (zI c zs)]) (mem3 (by simp) (by simp) (by simp))
            have S2 := S.to [0, 1, 2, 3] (b5S c [x.v, wv] es R.2 g5 c5) (by kernel_rfl) (by kernel_rfl) (by kernel_rfl) (by kernel_rfl) (by kernel_rfl)
            refine Qag (k' := b5C.k) (by kernel_rfl) ?_
            exact bt_5 w0 c hc zs R es hes hez heb hek he1 g5 c5 [x.v, wv] _ _ _ _ aa _ S2
      · skip
        refine Qbr 12 D (by kernel_rfl) (Nat.le_refl _) (by kernel_rfl) (by kernel_rfl) fun bs aa w D hl => ?_
        refine Qac [7] (by kernel_rfl) (by kernel_rfl) rfl (na1 ?_)
        · skip
          have hlt2 := fun j hj => D.S.lt (i := j) hj
          have hgr2 := D.S.gr.size
          refine QaD 7 D (by kernel_rfl) (X := Nat × Nat × Value) (val := alV c) (C := fun q w' => (rfI w.heap.size q.1 (nOf c) q.2.1 (zI c zs)).P w' ∧ w.heap.size ≤ q.1) (args := #[.agg #[.slice (some ⟨g0, 0, none⟩) (nOf c) (nOf c)], u]) (Qhz hc hzs (D.S.fact (f := Qax g0 0 (List.replicate (nOf c) (0 : Int))) (by simp)) (D.S.fact (f := rfA w0.heap.size c zs u) (by simp))) (by kernel_rfl) fun q aa w hC2 hb2 D => ?_
          obtain ⟨g5, c5, r5⟩ := q
          have D := D.addF (rfI w0.heap.size g5 (nOf c) c5 (zI c zs)) (QaS hC2.1 hgr2) (fun j hj hb => by
            have h1 := hlt2 j hj
            have h2 : some g5 = some (_ : Nat) := hb
            simp only [Option.some.injEq] at h2
            have h3 : _ ≤ g5 := hC2.2
            omega)
          refine Qac [13] (by kernel_rfl) (by kernel_rfl) rfl (na1 ?_)
          · skip
            refine Qbr 13 D (by kernel_rfl) hl (by kernel_rfl) (by kernel_rfl) fun bs aa w D hl => ?_
            refine QaM D (by kernel_rfl) fun S => ?_
            refine Qaj ⟨0, [5]⟩ 60 S fun bs aa w S => ?_
            have S := S.sub (F' := [QaL es.b es.o es.l, Qay es.l, rfI w0.heap.size g5 (nOf c) c5 (zI c zs)]) (mem3 (by simp) (by simp) (by simp))
            have S2 := S.to [0, 1, 2, 3] (b5S c [x.v, wv] es R.2 g5 c5) (by kernel_rfl) (by kernel_rfl) (by kernel_rfl) (by kernel_rfl) (by kernel_rfl)
            refine Qag (k' := b5C.k) (by kernel_rfl) ?_
            exact bt_5 w0 c hc zs R es hes hez heb hek he1 g5 c5 [x.v, wv] _ _ _ _ aa _ S2
    · skip
      refine Qbr 12 D (by kernel_rfl) (Nat.le_refl _) (by kernel_rfl) (by kernel_rfl) fun bs aa w D hl => ?_
      refine Qac [2] (by kernel_rfl) (by kernel_rfl) rfl (na1 ?_)
      · skip
        refine QdB 2 D (by kernel_rfl) (by kernel_rfl) (Qlx hc (by kernel_rfl)) fun v0 aa w hC0 hb0 hlt0 D => ?_
        obtain ⟨g0, rfl, hg0, hI0⟩ := hC0
        have D := D.addF (Qax g0 0 (List.replicate (nOf c) (0 : Int))) hI0 (fun j hj hb => by
          have h1 := hlt0 j hj
          have h2 := hb.1
          omega)
        refine Qac [7] (by kernel_rfl) (by kernel_rfl) rfl (na1 ?_)
        · skip
          have hlt2 := fun j hj => D.S.lt (i := j) hj
          have hgr2 := D.S.gr.size
          refine QaD 7 D (by kernel_rfl) (X := Nat × Nat × Value) (val := alV c) (C := fun q w' => (rfI w.heap.size q.1 (nOf c) q.2.1 (zI c zs)).P w' ∧ w.heap.size ≤ q.1) (args := #[.agg #[.slice (some ⟨g0, 0, none⟩) (nOf c) (nOf c)], u]) (Qhz hc hzs (D.S.fact (f := Qax g0 0 (List.replicate (nOf c) (0 : Int))) (by simp)) (D.S.fact (f := rfA w0.heap.size c zs u) (by simp))) (by kernel_rfl) fun q aa w hC2 hb2 D => ?_
          obtain ⟨g5, c5, r5⟩ := q
          have D := D.addF (rfI w0.heap.size g5 (nOf c) c5 (zI c zs)) (QaS hC2.1 hgr2) (fun j hj hb => by
            have h1 := hlt2 j hj
            have h2 : some g5 = some (_ : Nat) := hb
            simp only [Option.some.injEq] at h2
            have h3 : _ ≤ g5 := hC2.2
            omega)
          refine Qac [13] (by kernel_rfl) (by kernel_rfl) rfl (na1 ?_)
          · skip
            refine Qbr 13 D (by kernel_rfl) hl (by kernel_rfl) (by kernel_rfl) fun bs aa w D hl => ?_
            refine QaM D (by kernel_rfl) fun S => ?_
            refine Qaj ⟨0, [5]⟩ 60 S fun bs aa w S => ?_
            have S := S.sub (F' := [QaL es.b es.o es.l, Qay es.l, rfI w0.heap.size g5 (nOf c) c5 (zI c zs)]) (mem3 (by simp) (by simp) (by simp))
            have S2 := S.to [0, 1, 2, 3] (b5S c [x.v, wv] es R.2 g5 c5) (by kernel_rfl) (by kernel_rfl) (by kernel_rfl) (by kernel_rfl) (by kernel_rfl)
            refine Qag (k' := b5C.k) (by kernel_rfl) ?_
            exact bt_5 w0 c hc zs R es hes hez heb hek he1 g5 c5 [x.v, wv] _ _ _ _ aa _ S2
  · skip
    refine Qbr 12 D (by kernel_rfl) (Nat.le_refl _) (by kernel_rfl) (by kernel_rfl) fun bs aa w D hl => ?_
    refine Qac [2, 6] (by kernel_rfl) (by kernel_rfl) rfl (na2 ?_ ?_)
    · skip
      refine QdB 2 D (by kernel_rfl) (by kernel_rfl) (Qlx hc (by kernel_rfl)) fun v0 aa w hC0 hb0 hlt0 D => ?_
      obtain ⟨g0, rfl, hg0, hI0⟩ := hC0
      have D := D.addF (Qax g0 0 (List.replicate (nOf c) (0 : Int))) hI0 (fun j hj hb => by
        have h1 := hlt0 j hj
        have h2 := hb.1
        omega)
      refine Qac [6] (by kernel_rfl) (by kernel_rfl) rfl (na1 ?_)
      · skip
        have hlt1 := fun j hj => D.S.lt (i := j) hj
        have hgr1 := D.S.gr.size
        refine QaD 6 D (by kernel_rfl) (X := Value) (val := id) (C := fun u w' => (rfA w.heap.size c zs u).P w') (args := #[(Qbc c).v, .slice fa zs.length fc]) (QlK hc hzs hf (D.S.fact (f := Qax fb fo zs) (by simp))) (by kernel_rfl) fun u aa w hC1 hb1 D => ?_
        have D := D.addF (rfA w0.heap.size c zs u) (QaS hC1 hgr1) (fun j hj hb => by
          have h1 := hlt1 j hj
          have h2 := (World.ownsRow.lt hC1 _ hb).1
          omega)
        refine Qac [7] (by kernel_rfl) (by kernel_rfl) rfl (na1 ?_)
        · skip
          have hlt2 := fun j hj => D.S.lt (i := j) hj
          have hgr2 := D.S.gr.size
          refine QaD 7 D (by kernel_rfl) (X := Nat × Nat × Value) (val := alV c) (C := fun q w' => (rfI w.heap.size q.1 (nOf c) q.2.1 (zI c zs)).P w' ∧ w.heap.size ≤ q.1) (args := #[.agg #[.slice (some ⟨g0, 0, none⟩) (nOf c) (nOf c)], u]) (Qhz hc hzs (D.S.fact (f := Qax g0 0 (List.replicate (nOf c) (0 : Int))) (by simp)) (D.S.fact (f := rfA w0.heap.size c zs u) (by simp))) (by kernel_rfl) fun q aa w hC2 hb2 D => ?_
          obtain ⟨g5, c5, r5⟩ := q
          have D := D.addF (rfI w0.heap.size g5 (nOf c) c5 (zI c zs)) (QaS hC2.1 hgr2) (fun j hj hb => by
            have h1 := hlt2 j hj
            have h2 : some g5 = some (_ : Nat) := hb
            simp only [Option.some.injEq] at h2
            have h3 : _ ≤ g5 := hC2.2
            omega)
          refine Qac [13] (by kernel_rfl) (by kernel_rfl) rfl (na1 ?_)
          · skip
            refine Qbr 13 D (by kernel_rfl) hl (by kernel_rfl) (by kernel_rfl) fun bs aa w D hl => ?_
            refine QaM D (by kernel_rfl) fun S => ?_
            refine Qaj ⟨0, [5]⟩ 60 S fun bs aa w S => ?_
            have S := S.sub (F' := [QaL es.b es.o es.l, Qay es.l, rfI w0.heap.size g5 (nOf c) c5 (zI c zs)]) (mem3 (by simp) (by simp) (by simp))
            have S2 := S.to [0, 1, 2, 3] (b5S c [x.v, wv] es R.2 g5 c5) (by kernel_rfl) (by kernel_rfl) (by kernel_rfl) (by kernel_rfl) (by kernel_rfl)
            refine Qag (k' := b5C.k) (by kernel_rfl) ?_
            exact bt_5 w0 c hc zs R es hes hez heb hek he1 g5 c5 [x.v, wv] _ _ _ _ aa _ S2
    · skip
      have hlt1 := fun j hj => D.S.lt (i := j) hj
      have hgr1 := D.S.gr.size
      refine QaD 6 D (by kernel_rfl) (X := Value) (val := id) (C := fun u w' => (rfA w.heap.size c zs u).P w') (args := #[(Qbc c).v, .slice fa zs.length fc]) (QlK hc hzs hf (D.S.fact (f := Qax fb fo zs) (by simp))) (by kernel_rfl) fun u aa w hC1 hb1 D => ?_
      have D := D.addF (rfA w0.heap.size c zs u) (QaS hC1 hgr1) (fun j hj hb => by
        have h1 := hlt1 j hj
        have h2 := (World.ownsRow.lt hC1 _ hb).1
        omega)
      refine Qac [2] (by kernel_rfl) (by kernel_rfl) rfl (na1 ?_)
      · skip
        refine QdB 2 D (by kernel_rfl) (by kernel_rfl) (Qlx hc (by kernel_rfl)) fun v0 aa w hC0 hb0 hlt0 D => ?_
        obtain ⟨g0, rfl, hg0, hI0⟩ := hC0
        have D := D.addF (Qax g0 0 (List.replicate (nOf c) (0 : Int))) hI0 (fun j hj hb => by
          have h1 := hlt0 j hj
          have h2 := hb.1
          omega)
        refine Qac [7] (by kernel_rfl) (by kernel_rfl) rfl (na1 ?_)
        · skip
          have hlt2 := fun j hj => D.S.lt (i := j) hj
          have hgr2 := D.S.gr.size
          refine QaD 7 D (by kernel_rfl) (X := Nat × Nat × Value) (val := alV c) (C := fun q w' => (rfI w.heap.size q.1 (nOf c) q.2.1 (zI c zs)).P w' ∧ w.heap.size ≤ q.1) (args := #[.agg #[.slice (some ⟨g0, 0, none⟩) (nOf c) (nOf c)], u]) (Qhz hc hzs (D.S.fact (f := Qax g0 0 (List.replicate (nOf c) (0 : Int))) (by simp)) (D.S.fact (f := rfA w0.heap.size c zs u) (by simp))) (by kernel_rfl) fun q aa w hC2 hb2 D => ?_
          obtain ⟨g5, c5, r5⟩ := q
          have D := D.addF (rfI w0.heap.size g5 (nOf c) c5 (zI c zs)) (QaS hC2.1 hgr2) (fun j hj hb => by
            have h1 := hlt2 j hj
            have h2 : some g5 = some (_ : Nat) := hb
            simp only [Option.some.injEq] at h2
            have h3 : _ ≤ g5 := hC2.2
            omega)
          refine Qac [13] (by kernel_rfl) (by kernel_rfl) rfl (na1 ?_)
          · skip
            refine Qbr 13 D (by kernel_rfl) hl (by kernel_rfl) (by kernel_rfl) fun bs aa w D hl => ?_
            refine QaM D (by kernel_rfl) fun S => ?_
            refine Qaj ⟨0, [5]⟩ 60 S fun bs aa w S => ?_
            have S := S.sub (F' := [QaL es.b es.o es.l, Qay es.l, rfI w0.heap.size g5 (nOf c) c5 (zI c zs)]) (mem3 (by simp) (by simp) (by simp))
            have S2 := S.to [0, 1, 2, 3] (b5S c [x.v, wv] es R.2 g5 c5) (by kernel_rfl) (by kernel_rfl) (by kernel_rfl) (by kernel_rfl) (by kernel_rfl)
            refine Qag (k' := b5C.k) (by kernel_rfl) ?_
            exact bt_5 w0 c hc zs R es hes hez heb hek he1 g5 c5 [x.v, wv] _ _ _ _ aa _ S2
end Go.Proofs.Ytfhmdlihnidjoaa
