/-
  Merged: Bo2, Bo1, Bo3, Bo4, Bo5
-/
import Derived.Test.YtfhmdlihnidjoaaRows
import Derived.Test.YtfhmdlihnidjoaaPd2
import Derived.Test.YtfhmdlihnidjoaaPd20
import Derived.Test.YtfhmdlihnidjoaaPd21
import Derived.Test.YtfhmdlihnidjoaaPd17
import Derived.WalkKit
import Derived.Test.YtfhmdlihnidjoaaPd11
import Derived.Test.YtfhmdlihnidjoaaPd8
import Derived.Test.YtfhmdlihnidjoaaPd14
namespace Go.Proofs.Ytfhmdlihnidjoaa
set_option linter.unusedVariables false
set_option linter.unusedSectionVars false
set_option linter.unusedSimpArgs false
set_option maxRecDepth 100000
set_option maxHeartbeats 8000000
open Go Go.RowKit SZ
attribute [local irreducible] post GD Nxt Qaq
theorem ld_wrt {w : World} {b o j : Nat} {W : Ws} (h : QcW w b o W) (hj : j < W.length) : (loadVar 42 ⟨b, o + j * 2, none⟩).run Try.prog w = .ok (.agg #[.int .i64 (W.getD j (0, 0)).1, .int .i64 (W.getD j (0, 0)).2]) w := by
  obtain ⟨h0, h1⟩ := h j hj
  refine run_loadVar_mid w b (o + j * 2) 42 [.int .i64 (W.getD j (0, 0)).1, .int .i64 (W.getD j (0, 0)).2] _ ?_ Try.underlying42 rfl (by kernel_rfl)
  intro i x hi
  match i, hi with
  | 0, hi => simp at hi; subst hi; exact h0
  | 1, hi => simp at hi; subst hi; exact h1
  | i + 2, hi => simp at hi
theorem gD_el {α : Type} (l : List α) (j : Nat) (z : α) (h : j < l.length) : l.getD j z = l[j] := by simp [List.getD, List.getElem?_eq_getElem h]
theorem getD_some {l : Ws} {j : Nat} : l[j]?.getD (0, 0) = l.getD j (0, 0) := by simp [List.getD]
theorem Qgs (w : World) (z : Er) (hz : z.l.length = 0 ∨ z.a = some ⟨z.b, z.o, none⟩) (hA : Qhd w z.b z.o z.l) (hok : ∀ e ∈ z.l, e.ok) (hW : ∀ e ∈ z.l, QcW w e.b e.o e.ws) (hl : z.l.length ≤ 1000000) (hws : ∀ e ∈ z.l, e.ws.length ≤ 1000000) (loc : Int) : Calls Try.prog 12 #[z.v, .int .i64 loc] w fun y w' => y = .returned (Qdk (Qbi (z.l.map prE) loc)) ∧ Below w.heap.size w w' := by
  have h := Qeq (b := z.b) (off := z.o) (cap := z.c) (a := z.a) (es := z.l.map QiM) (loc := loc) (w := w) (by rw [List.length_map]; omega) (fun h => hz.resolve_left (by rw [List.length_map] at h; omega)) (fun h => by
    rw [List.length_map] at h
    refine ⟨World.block_lt_of_cell? w _ (hA 0 h).1, fun j hj => ?_⟩
    rw [List.length_map] at hj
    rw [Qlh z.l j hj]
    exact hA j hj) (fun j => by
    rcases Nat.lt_or_ge j z.l.length with hj | hj
    · rw [Qlh z.l j hj]
      have hm := Qbx z.l j e00 hj
      refine ⟨?_, by have := hws _ hm; show (z.l.getD j e00).ws.length ≤ _; omega⟩
      by_cases h0 : (z.l.getD j e00).ws.length = 0
      · exact Or.inl (List.length_eq_zero_iff.1 h0)
      · refine Or.inr ⟨(z.l.getD j e00).b, (z.l.getD j e00).o, (hok _ hm).resolve_left h0, World.block_lt_of_cell? w _ (hW _ hm 0 (by omega)).1, fun i hi => ?_⟩
        have e2 : (QiM (z.l.getD j e00)).ws = (z.l.getD j e00).ws := rfl
        rw [e2] at hi ⊢
        rw [getD_some]
        exact hW _ hm i hi
    · have e : ((z.l.map QiM)[j]?.getD default) = default := by
        rw [List.getElem?_eq_none (by rw [List.length_map]; exact hj)]
        rfl
      rw [e]
      exact ⟨Or.inl rfl, by show (0 : Nat) ≤ _; omega⟩)
  rw [List.length_map, QgX loc z.l.length z.l rfl] at h
  exact h
noncomputable def laC : Cfg := ⟨goZ 60 [] [.code (QaI Try.f13)], ⟨0, [], []⟩⟩
noncomputable def laI (m : Nat) : Cfg := ⟨goZ 60 [1] (.code (Qa_ laC) :: .rnd m (Qa_ laC) :: laC.k.tail), ⟨0, [], []⟩⟩
noncomputable def laS (z : Er) (loc : Int) (m : Nat) : SS := ⟨51, [(0, .v z.v), (1, .v (.int .i64 loc)), (4, .p 0 0), (7, .v (.int .i64 ((m : Int) - 1)))], [⟨42, [.int .i64 0, .int .i64 0]⟩]⟩
noncomputable def laS2 (z : Er) (loc : Int) (m k : Nat) : SS := ⟨51, [(0, .v z.v), (1, .v (.int .i64 loc)), (4, .p 0 0), (7, .v (.int .i64 (m : Int))), (8, .v (.int .i64 (k : Int)))], [⟨42, [.int .i64 0, .int .i64 0]⟩]⟩
theorem Qh2 (l : List Et) (m : Nat) (h : m < l.length) : (l.take (m + 1)).map prE = (l.take m).map prE ++ [prE (l.getD m e00)] := by
  have e : l.getD m e00 = l[m] := by simp [List.getD, List.getElem?_eq_getElem h]
  rw [List.take_succ_eq_append_getElem h, List.map_append, e]
  rfl
section
variable (w0 : World) (z : Er) (hz : z.l.length = 0 ∨ z.a = some ⟨z.b, z.o, none⟩) (hok : ∀ e ∈ z.l, e.ok) (hl : z.l.length ≤ 1000000) (hws : ∀ e ∈ z.l, e.ws.length ≤ 1000000) (loc : Int) (M m : Nat) (hm : m < z.l.length) (hv : Qbi (z.l.map prE) loc = Qbi ((z.l.take (m + 1)).map prE) loc)
include w0 z hz hok hl hws loc M m hm hv
theorem la_k (ihm : (Qbi (z.l.map prE) loc = Qbi ((z.l.take (m)).map prE) loc) → ∀ (x0 : Nat) (aa : Act) (w : World) (S : Sy w0 [] [x0] (laS z loc (m)) [QaD z.b z.o z.l, Qax z.l] aa w), post Try.prog (.rnd (M) (Qa_ laC) :: laC.k.tail) (bodyPost Try.prog Try.f13 fun y w' => y = .returned (Qdk (Qbi (z.l.map prE) loc)) ∧ Below w0.heap.size w0 w') .normal aa w) (q k : Nat) (hk : k < (z.l.getD m e00).ws.length) (hne : ¬((z.l.getD m e00).ws.getD k (0, 0)).1 = loc) (ih : ∀ (x0 : Nat) (aa : Act) (w : World) (S : Sy w0 [] [x0] (laS2 z loc m (k + 1)) [QaD z.b z.o z.l, Qax z.l] aa w), post Try.prog (.rnd (q) (Qa_ (laI M)) :: (laI M).k.tail) (bodyPost Try.prog Try.f13 fun y w' => y = .returned (Qdk (Qbi (z.l.map prE) loc)) ∧ Below w0.heap.size w0 w') .normal aa w) (x0 : Nat) (aa : Act) (w : World) (S : Sy w0 [] [x0] (laS2 z loc m (k)) [QaD z.b z.o z.l, Qax z.l] aa w) : post Try.prog (.rnd (q + 1) (Qa_ (laI M)) :: (laI M).k.tail) (bodyPost Try.prog Try.f13 fun y w' => y = .returned (Qdk (Qbi (z.l.map prE) loc)) ∧ Below w0.heap.size w0 w') .normal aa w := by
  refine Qam (c := ⟨(.rnd (q + 1) (Qa_ (laI M)) :: (laI M).k.tail), laS2 z loc m k⟩) 5 50 3 S fun bs aa w S => ?_
  refine QbI (b := z.b) (off := z.o) (len := z.l.length) (n := m) (size := 2) (i := (m : Int)) S (by rw [← hz.resolve_left (by omega)]; kernel_rfl) rfl hm fun aa S => ?_
  refine Qad 1 S fun bs aa w S => ?_
  refine Qbb S (QaP (ty := 58) (b := z.b) (off := z.o + m * 2 + 1) (by kernel_rfl) ((S.fact (f := QaD z.b z.o z.l) (by simp)) m hm).2) (by kernel_rfl) fun aa S => ?_
  refine Qad 2 S fun bs aa w S => ?_
  refine Qab 23 S (decide_eq_true (by omega) : decide ((k : Int) < ((z.l.getD m e00).ws.length : Int)) = true) fun S => ?_
  refine Qam 7 60 2 S fun bs aa w S => ?_
  refine QbI (b := z.b) (off := z.o) (len := z.l.length) (n := m) (size := 2) (i := (m : Int)) S (by rw [← hz.resolve_left (by omega)]; kernel_rfl) rfl hm fun aa S => ?_
  refine Qad 1 S fun bs aa w S => ?_
  refine Qbb S (QaP (ty := 58) (b := z.b) (off := z.o + m * 2 + 1) (by kernel_rfl) ((S.fact (f := QaD z.b z.o z.l) (by simp)) m hm).2) (by kernel_rfl) fun aa S => ?_
  refine Qad 1 S fun bs aa w S => ?_
  refine QbI (b := (z.l.getD m e00).b) (off := (z.l.getD m e00).o) (len := (z.l.getD m e00).ws.length) (n := k) (size := 2) (i := (k : Int)) S (by rw [← (hok _ (Qbx _ _ _ hm)).resolve_left (by omega)]; kernel_rfl) rfl hk fun aa S => ?_
  refine Qad 1 S fun bs aa w S => ?_
  refine Qbb S (QaP (ty := 3) (b := (z.l.getD m e00).b) (off := (z.l.getD m e00).o + k * 2) (by kernel_rfl) (((S.fact (f := Qax z.l) (by simp)) _ (Qbx _ _ _ hm)) k hk).1) (by kernel_rfl) fun aa S => ?_
  refine Qad 2 S fun bs aa w S => ?_
  refine Qab 36 S (decide_eq_false hne : decide (((z.l.getD m e00).ws.getD k (0, 0)).1 = loc) = false) fun S => ?_
  refine Qam 6 60 2 S fun bs aa w S => ?_
  refine QaM 25 S (by have := hws _ (Qbx z.l m e00 hm); rw [IntKind.wrap_i64]; omega : IntKind.i64.wrap ((k : Int) + 1) = ((k + 1 : Nat) : Int)) fun S => ?_
  refine Qan ⟨0, [999]⟩ 50 S fun bs aa w S => ?_
  have S2 := S.to [0] (laS2 z loc m (k + 1)) (by kernel_rfl) (by kernel_rfl) (by kernel_rfl) (by kernel_rfl) (by kernel_rfl)
  refine Qai (k' := (.rnd (q) (Qa_ (laI M)) :: (laI M).k.tail)) (by kernel_rfl) ?_
  exact ih _ aa w S2
theorem la_f (q k : Nat) (hk : k < (z.l.getD m e00).ws.length) (hpre : QdM loc (z.l.getD m e00).ws = QdM loc ((z.l.getD m e00).ws.drop k)) (heq : ((z.l.getD m e00).ws.getD k (0, 0)).1 = loc) (x0 : Nat) (aa : Act) (w : World) (S : Sy w0 [] [x0] (laS2 z loc m (k)) [QaD z.b z.o z.l, Qax z.l] aa w) : post Try.prog (.rnd (q + 1) (Qa_ (laI M)) :: (laI M).k.tail) (bodyPost Try.prog Try.f13 fun y w' => y = .returned (Qdk (Qbi (z.l.map prE) loc)) ∧ Below w0.heap.size w0 w') .normal aa w := by
  have hres : Qbi (z.l.map prE) loc = some (((z.l.getD m e00).ws.getD k (0, 0)).1, ((z.l.getD m e00).ws.getD k (0, 0)).2, (z.l.getD m e00).ver) := by
    have e : (z.l.getD m e00).ws[k] = ((z.l.getD m e00).ws.getD k (0, 0)) := (gD_el _ _ _ hk).symm
    rw [hv, Qh2 _ _ hm, QdB]
    show (match QdM loc (z.l.getD m e00).ws with | some x => some (x.1, x.2, (z.l.getD m e00).ver) | none => _) = _
    rw [hpre, List.drop_eq_getElem_cons hk, QdM, e, if_pos heq]
  refine Qam (c := ⟨(.rnd (q + 1) (Qa_ (laI M)) :: (laI M).k.tail), laS2 z loc m k⟩) 5 50 3 S fun bs aa w S => ?_
  refine QbI (b := z.b) (off := z.o) (len := z.l.length) (n := m) (size := 2) (i := (m : Int)) S (by rw [← hz.resolve_left (by omega)]; kernel_rfl) rfl hm fun aa S => ?_
  refine Qad 1 S fun bs aa w S => ?_
  refine Qbb S (QaP (ty := 58) (b := z.b) (off := z.o + m * 2 + 1) (by kernel_rfl) ((S.fact (f := QaD z.b z.o z.l) (by simp)) m hm).2) (by kernel_rfl) fun aa S => ?_
  refine Qad 2 S fun bs aa w S => ?_
  refine Qab 23 S (decide_eq_true (by omega) : decide ((k : Int) < ((z.l.getD m e00).ws.length : Int)) = true) fun S => ?_
  refine Qam 7 60 2 S fun bs aa w S => ?_
  refine QbI (b := z.b) (off := z.o) (len := z.l.length) (n := m) (size := 2) (i := (m : Int)) S (by rw [← hz.resolve_left (by omega)]; kernel_rfl) rfl hm fun aa S => ?_
  refine Qad 1 S fun bs aa w S => ?_
  refine Qbb S (QaP (ty := 58) (b := z.b) (off := z.o + m * 2 + 1) (by kernel_rfl) ((S.fact (f := QaD z.b z.o z.l) (by simp)) m hm).2) (by kernel_rfl) fun aa S => ?_
  refine Qad 1 S fun bs aa w S => ?_
  refine QbI (b := (z.l.getD m e00).b) (off := (z.l.getD m e00).o) (len := (z.l.getD m e00).ws.length) (n := k) (size := 2) (i := (k : Int)) S (by rw [← (hok _ (Qbx _ _ _ hm)).resolve_left (by omega)]; kernel_rfl) rfl hk fun aa S => ?_
  refine Qad 1 S fun bs aa w S => ?_
  refine Qbb S (QaP (ty := 3) (b := (z.l.getD m e00).b) (off := (z.l.getD m e00).o + k * 2) (by kernel_rfl) (((S.fact (f := Qax z.l) (by simp)) _ (Qbx _ _ _ hm)) k hk).1) (by kernel_rfl) fun aa S => ?_
  refine Qad 2 S fun bs aa w S => ?_
  refine Qab 36 S (decide_eq_true heq : decide (((z.l.getD m e00).ws.getD k (0, 0)).1 = loc) = true) fun S => ?_
  refine Qac S fun bs aa w S => ?_
  letI : HF := ⟨[QaD z.b z.o z.l, Qax z.l]⟩
  refine QaE [] (by kernel_rfl) (by kernel_rfl) S (by kernel_rfl) (fun aa w D => ?_) (fun f hf => hf)
  refine Qaz 2 D (by kernel_rfl) (by kernel_rfl) (by kernel_rfl) (b := z.b) (off := z.o) (len := z.l.length) (n := m) (size := 2) (ix := (m : Int)) (by rw [← hz.resolve_left (by omega)]; kernel_rfl) rfl hm fun aa D => ?_
  refine QaH 4 D (by kernel_rfl) (by kernel_rfl) (by kernel_rfl) (ty := 58) (ad := ⟨z.b, z.o + m * 2 + 1, none⟩) (v := .slice (z.l.getD m e00).a (z.l.getD m e00).ws.length (z.l.getD m e00).c) (fun W hW => QaP (by kernel_rfl) ((show Qhd W z.b z.o z.l from hW (QaD z.b z.o z.l) (by show _ ∈ [QaD z.b z.o z.l, Qax z.l]; simp)) m hm).2) (by kernel_rfl) fun aa D => ?_
  refine Qaz 6 D (by kernel_rfl) (by kernel_rfl) (by kernel_rfl) (b := (z.l.getD m e00).b) (off := (z.l.getD m e00).o) (len := (z.l.getD m e00).ws.length) (n := k) (size := 2) (ix := (k : Int)) (by rw [← (hok _ (Qbx _ _ _ hm)).resolve_left (by omega)]; kernel_rfl) rfl hk fun aa D => ?_
  refine QaH 7 D (by kernel_rfl) (by kernel_rfl) (by kernel_rfl) (ty := 42) (ad := ⟨(z.l.getD m e00).b, (z.l.getD m e00).o + k * 2, none⟩) (v := .agg #[.int .i64 ((z.l.getD m e00).ws.getD k (0, 0)).1, .int .i64 ((z.l.getD m e00).ws.getD k (0, 0)).2]) (fun W hW => ld_wrt ((show ∀ e ∈ z.l, QcW W e.b e.o e.ws from hW (Qax z.l) (by show _ ∈ [QaD z.b z.o z.l, Qax z.l]; simp)) _ (Qbx _ _ _ hm)) hk) (by kernel_rfl) fun aa D => ?_
  refine Qaz 10 D (by kernel_rfl) (by kernel_rfl) (by kernel_rfl) (b := z.b) (off := z.o) (len := z.l.length) (n := m) (size := 2) (ix := (m : Int)) (by rw [← hz.resolve_left (by omega)]; kernel_rfl) rfl hm fun aa D => ?_
  refine QaH 12 D (by kernel_rfl) (by kernel_rfl) (by kernel_rfl) (ty := 3) (ad := ⟨z.b, z.o + m * 2, none⟩) (v := .int .i64 (z.l.getD m e00).ver) (fun W hW => QaP (by kernel_rfl) ((show Qhd W z.b z.o z.l from hW (QaD z.b z.o z.l) (by show _ ∈ [QaD z.b z.o z.l, Qax z.l]; simp)) m hm).1) (by kernel_rfl) fun aa D => ?_
  refine dr_op 13 D (by kernel_rfl) (by kernel_rfl) (by kernel_rfl) (Nat.le_refl _) (by kernel_rfl) (by kernel_rfl) fun bs aa w D hl => ?_
  refine QaT D (by kernel_rfl) fun S => ?_
  refine Qac S fun bs aa w S => ?_
  rw [hres]
  exact Qaf S (by kernel_rfl) (by kernel_rfl) fun hg => ⟨rfl, Qag hg⟩
section
variable (ihm : (Qbi (z.l.map prE) loc = Qbi ((z.l.take (m)).map prE) loc) → ∀ (x0 : Nat) (aa : Act) (w : World) (S : Sy w0 [] [x0] (laS z loc (m)) [QaD z.b z.o z.l, Qax z.l] aa w), post Try.prog (.rnd (M) (Qa_ laC) :: laC.k.tail) (bodyPost Try.prog Try.f13 fun y w' => y = .returned (Qdk (Qbi (z.l.map prE) loc)) ∧ Below w0.heap.size w0 w') .normal aa w)
include ihm
theorem la_n (q : Nat) (hno : QdM loc (z.l.getD m e00).ws = none) (x0 : Nat) (aa : Act) (w : World) (S : Sy w0 [] [x0] (laS2 z loc m ((z.l.getD m e00).ws.length)) [QaD z.b z.o z.l, Qax z.l] aa w) : post Try.prog (.rnd (q + 1) (Qa_ (laI M)) :: (laI M).k.tail) (bodyPost Try.prog Try.f13 fun y w' => y = .returned (Qdk (Qbi (z.l.map prE) loc)) ∧ Below w0.heap.size w0 w') .normal aa w := by
  refine Qam (c := ⟨(.rnd (q + 1) (Qa_ (laI M)) :: (laI M).k.tail), laS2 z loc m ((z.l.getD m e00).ws.length)⟩) 5 50 3 S fun bs aa w S => ?_
  refine QbI (b := z.b) (off := z.o) (len := z.l.length) (n := m) (size := 2) (i := (m : Int)) S (by rw [← hz.resolve_left (by omega)]; kernel_rfl) rfl hm fun aa S => ?_
  refine Qad 1 S fun bs aa w S => ?_
  refine Qbb S (QaP (ty := 58) (b := z.b) (off := z.o + m * 2 + 1) (by kernel_rfl) ((S.fact (f := QaD z.b z.o z.l) (by simp)) m hm).2) (by kernel_rfl) fun aa S => ?_
  refine Qad 2 S fun bs aa w S => ?_
  refine Qab 23 S (decide_eq_false (by omega) : decide ((((z.l.getD m e00).ws.length) : Int) < ((z.l.getD m e00).ws.length : Int)) = false) fun S => ?_
  refine Qam 3 60 2 S fun bs aa w S => ?_
  refine QaM 15 S (by rw [IntKind.wrap_i64]; omega : IntKind.i64.wrap ((m : Int) - 1) = ((m : Int) - 1)) fun S => ?_
  refine Qan ⟨0, [999]⟩ 50 S fun bs aa w S => ?_
  have S2 := S.to [0] (laS z loc m) (by kernel_rfl) (by kernel_rfl) (by kernel_rfl) (by kernel_rfl) (by kernel_rfl)
  refine Qai (k' := (.rnd (M) (Qa_ laC) :: laC.k.tail)) (by kernel_rfl) ?_
  refine ihm ?_ _ aa w S2
  rw [hv, Qh2 _ _ hm, QdB]
  show (match QdM loc (z.l.getD m e00).ws with | some x => _ | none => _) = _
  rw [hno]
theorem la_i : ∀ (q k : Nat), k + q = (z.l.getD m e00).ws.length → QdM loc (z.l.getD m e00).ws = QdM loc ((z.l.getD m e00).ws.drop k) → ∀ (x0 : Nat) (aa : Act) (w : World) (S : Sy w0 [] [x0] (laS2 z loc m (k)) [QaD z.b z.o z.l, Qax z.l] aa w), post Try.prog (.rnd (q + 1) (Qa_ (laI M)) :: (laI M).k.tail) (bodyPost Try.prog Try.f13 fun y w' => y = .returned (Qdk (Qbi (z.l.map prE) loc)) ∧ Below w0.heap.size w0 w') .normal aa w := by
  intro q
  induction q with
  | zero =>
    intro k hk hpre x0 aa w S
    obtain rfl : k = (z.l.getD m e00).ws.length := by omega
    rw [List.drop_length] at hpre
    exact la_n w0 z hz hok hl hws loc M m hm hv ihm 0 hpre x0 aa w S
  | succ q ihq =>
    intro k hk hpre x0 aa w S
    have hk2 : k < (z.l.getD m e00).ws.length := by omega
    have e : (z.l.getD m e00).ws[k] = ((z.l.getD m e00).ws.getD k (0, 0)) := (gD_el _ _ _ hk2).symm
    by_cases heq : ((z.l.getD m e00).ws.getD k (0, 0)).1 = loc
    · exact la_f w0 z hz hok hl hws loc M m hm hv (q + 1) k hk2 hpre heq x0 aa w S
    · refine la_k w0 z hz hok hl hws loc M m hm hv ihm (q + 1) k hk2 heq (ihq (k + 1) (by omega) ?_) x0 aa w S
      rw [hpre, List.drop_eq_getElem_cons hk2, QdM, e, if_neg heq]
theorem la_s (x0 : Nat) (aa : Act) (w : World) (S : Sy w0 [] [x0] (laS z loc (m + 1)) [QaD z.b z.o z.l, Qax z.l] aa w) : post Try.prog (.rnd (M + 1) (Qa_ laC) :: laC.k.tail) (bodyPost Try.prog Try.f13 fun y w' => y = .returned (Qdk (Qbi (z.l.map prE) loc)) ∧ Below w0.heap.size w0 w') .normal aa w := by
  refine Qan (c := ⟨(.rnd (M + 1) (Qa_ laC) :: laC.k.tail), laS z loc (m + 1)⟩) ⟨0, [2]⟩ 50 S fun bs aa w S => ?_
  refine QaM 7 S (by omega : (((m + 1 : Nat) : Int) - 1) = (m : Int)) fun S => ?_
  refine QcB S fun S => ?_
  refine Qad 2 S fun bs aa w S => ?_
  refine Qab 13 S (decide_eq_true (by omega) : decide ((m : Int) ≥ 0) = true) fun S => ?_
  refine Qac S fun bs aa w S => ?_
  have S2 := S.to [0] (laS2 z loc m 0) (by kernel_rfl) (by kernel_rfl) (by kernel_rfl) (by kernel_rfl) (by kernel_rfl)
  refine QaJ ((z.l.getD m e00).ws.length + 1) (by kernel_rfl) ?_
  refine Qai (k' := (.rnd ((z.l.getD m e00).ws.length + 1) (Qa_ (laI M)) :: (laI M).k.tail)) (by kernel_rfl) ?_
  exact la_i w0 z hz hok hl hws loc M m hm hv ihm (z.l.getD m e00).ws.length 0 (by omega) (by rw [List.drop_zero]) _ aa w S2
end
end
theorem la_e (w0 : World) (z : Er) (hz : z.l.length = 0 ∨ z.a = some ⟨z.b, z.o, none⟩) (hok : ∀ e ∈ z.l, e.ok) (hl : z.l.length ≤ 1000000) (hws : ∀ e ∈ z.l, e.ws.length ≤ 1000000) (loc : Int) (M : Nat) (hv : Qbi (z.l.map prE) loc = Qbi ((z.l.take (0)).map prE) loc) (x0 : Nat) (aa : Act) (w : World) (S : Sy w0 [] [x0] (laS z loc (0)) [QaD z.b z.o z.l, Qax z.l] aa w) : post Try.prog (.rnd (M + 1) (Qa_ laC) :: laC.k.tail) (bodyPost Try.prog Try.f13 fun y w' => y = .returned (Qdk (Qbi (z.l.map prE) loc)) ∧ Below w0.heap.size w0 w') .normal aa w := by
  refine Qam (c := ⟨(.rnd (M + 1) (Qa_ laC) :: laC.k.tail), laS z loc 0⟩) 2 50 2 S fun bs aa w S => ?_
  refine Qab 13 S (by decide : decide (((0 : Nat) : Int) - 1 ≥ 0) = false) fun S => ?_
  refine Qac S fun bs aa w S => ?_
  rw [hv]
  exact Qaf S (by kernel_rfl) (by kernel_rfl) fun hg => ⟨rfl, Qag hg⟩
theorem la_a (w0 : World) (z : Er) (hz : z.l.length = 0 ∨ z.a = some ⟨z.b, z.o, none⟩) (hok : ∀ e ∈ z.l, e.ok) (hl : z.l.length ≤ 1000000) (hws : ∀ e ∈ z.l, e.ws.length ≤ 1000000) (loc : Int) : ∀ (m : Nat), m ≤ z.l.length → (Qbi (z.l.map prE) loc = Qbi ((z.l.take (m)).map prE) loc) → ∀ (x0 : Nat) (aa : Act) (w : World) (S : Sy w0 [] [x0] (laS z loc (m)) [QaD z.b z.o z.l, Qax z.l] aa w), post Try.prog (.rnd (m + 1) (Qa_ laC) :: laC.k.tail) (bodyPost Try.prog Try.f13 fun y w' => y = .returned (Qdk (Qbi (z.l.map prE) loc)) ∧ Below w0.heap.size w0 w') .normal aa w
  | 0, hm, hv, x0, aa, w, S => la_e w0 z hz hok hl hws loc 0 hv x0 aa w S
  | m + 1, hm, hv, x0, aa, w, S => la_s w0 z hz hok hl hws loc (m + 1) m hm hv (fun h => la_a w0 z hz hok hl hws loc m (by omega) h) x0 aa w S
theorem Qgd (w0 : World) (z : Er) (hz : z.l.length = 0 ∨ z.a = some ⟨z.b, z.o, none⟩) (hok : ∀ e ∈ z.l, e.ok) (hl : z.l.length ≤ 1000000) (hws : ∀ e ∈ z.l, e.ws.length ≤ 1000000) (loc : Int) (hA : Qhd w0 z.b z.o z.l) (hW : ∀ e ∈ z.l, QcW w0 e.b e.o e.ws) : Calls Try.prog 13 #[z.v, .int .i64 loc] w0 fun y w' => y = .returned (Qdk (Qbi (z.l.map prE) loc)) ∧ Below w0.heap.size w0 w' := by
  refine Qav [] [QaD z.b z.o z.l, Qax z.l] (by intro f hf; simp only [List.mem_cons, List.not_mem_nil, or_false] at hf; rcases hf with rfl | rfl; exact hA; exact hW) Try.func13 rfl rfl fun aa S => ?_
  refine Qam 1 60 3 S fun bs aa w S => ?_
  refine QaM 11 S (by rw [IntKind.wrap_i64]; omega : IntKind.i64.wrap ((z.l.length : Int) - 1) = ((z.l.length : Int) - 1)) fun S => ?_
  refine Qac S fun bs aa w S => ?_
  have S2 := S.to [0] (laS z loc z.l.length) (by kernel_rfl) (by kernel_rfl) (by kernel_rfl) (by kernel_rfl) (by kernel_rfl)
  refine QaJ (z.l.length + 1) (by kernel_rfl) ?_
  refine Qai (k' := (.rnd (z.l.length + 1) (Qa_ laC) :: laC.k.tail)) (by kernel_rfl) ?_
  exact la_a w0 z hz hok hl hws loc z.l.length (Nat.le_refl _) (by rw [List.take_length]) _ aa w S2
def rfI (B g n cp : Nat) (Z : List Int) : RF := Qah B 3 1 (.slice (some ⟨g, 0, none⟩) n cp) n (Z.map (Value.int .i64))
def lyC (c : Cf) : List Value := [.int .i64 c.t, .int .i64 c.l, .int .i64 c.k, .int .i64 c.s, .int .i64 c.m, .int .i64 0, .int .i64 1, .int .i64 2, .int .i64 3, .int .i64 4, .int .i64 (4 + 4 * c.t), .int .i64 (4 + 4 * c.t + c.k), .int .i64 (4 + 4 * c.t + c.k + 4 * c.l)]
theorem Qik {w : World} {B0 n : Nat} {v : Value} {xs : List Value} (h : w.ownsRow B0 3 1 v n xs) (hn : n ≠ 0) : ∃ g c, v = .slice (some ⟨g, 0, none⟩) n c ∧ B0 ≤ g ∧ n ≤ c := by
  rcases h.2 with ⟨q, hz⟩ | ⟨g, cap, cur, q, hb, hg, h1, _⟩
  · omega
  · exact ⟨g, cap, q, hb, h1⟩
theorem Qfg {w : World} {B g n cp : Nat} {Z : List Int} (h : w.ownsRow B 3 1 (.slice (some ⟨g, 0, none⟩) n cp) n (Z.map (Value.int .i64))) (hn : n = Z.length) : QbR w g 0 Z := fun j hj => by
  have hc := h.cells (g := g) rfl j (.int .i64 (Z.getD j 0)) (by simp [List.getD, List.getElem?_eq_getElem hj])
  have ea : (⟨g, 0, none⟩ : Addr).add j = ⟨g, 0 + j, none⟩ := by unfold Addr.add; split <;> simp_all
  rw [ea] at hc
  exact hc
theorem QcG {w : World} {B g n cap : Nat} {L : List Int} (h : w.ownsRow B 3 1 (.slice (some ⟨g, 0, none⟩) n cap) n (L.map (Value.int .i64))) (hn : n = L.length) (k : Nat) (hk : k < n) (s : Int) : (storeVar 3 ⟨g, 0 + k * 1, none⟩ (.int .i64 s)).run Try.prog w = .ok () (w.setCells g k [.int .i64 s]) ∧ (w.setCells g k [.int .i64 s]).ownsRow B 3 1 (.slice (some ⟨g, 0, none⟩) n cap) n ((L.set k s).map (Value.int .i64)) := by
  rcases h.2 with ⟨q, hz⟩ | ⟨g', cap', cur, q, hb, hg, h1, h2, h3, h4⟩
  · omega
  · simp only [Value.slice.injEq, Option.some.injEq, Addr.mk.injEq] at q
    obtain ⟨⟨rfl, _, _⟩, _, rfl⟩ := q
    obtain ⟨l⟩ := cur
    simp only [List.size_toArray, Nat.mul_one] at h3 h4
    obtain ⟨hr, he⟩ := st_at (P := Try.prog) (ty := 3) (v := .int .i64 s) (off := k) (by kernel_rfl) (by kernel_rfl) (by kernel_rfl) hg (by omega)
    refine ⟨by rw [Nat.mul_one, Nat.zero_add]; exact hr, by simp [hn], Or.inr ⟨g, cap, _, rfl, hb, he, h1, h2, ?_, ?_⟩⟩
    · simp [h3]
    · simp only [Nat.mul_one]
      rw [List.map_set, ← h4, List.take_set]
theorem made_i (n : Nat) : madeCells (Value.int .i64 0).cells n = (List.replicate n (Value.int .i64 0)).toArray := by
  have h1 : (Value.int .i64 0).cells = #[Value.int .i64 0] := rfl
  apply Array.ext'
  apply List.ext_getElem
  · simp [madeCells, h1]
  · intro i h1' h2
    simp [madeCells, h1, Nat.mod_one]
theorem mk_rI (n : Nat) (hn : n ≤ 512) (w : World) : (Instr.makeSlice 26 (.int .i64 (n : Int)) (.int .i64 (n : Int))).run Try.prog w = .ok (.slice (some ⟨w.heap.size, 0, none⟩) n n) (w.alloc (.cells (List.replicate n (Value.int .i64 0)).toArray 3 (0, 0))) := by
  have hI : (Try.prog.info? 3).map (fun i => (i.zero, i.size, i.bytes)) = some (some (.int .i64 0), 1, 8) := by kernel_rfl
  cases hi : Try.prog.info? 3 with
  | none => rw [hi] at hI; cases hI
  | some i =>
    rw [hi] at hI
    simp only [Option.map_some, Option.some.injEq, Prod.mk.injEq] at hI
    obtain ⟨h1, h2, h3⟩ := hI
    have h := run_makeSlice (P := Try.prog) w 26 3 i (.int .i64 0) Try.underlying26 hi h1 .i64 .i64 (n : Int) (n : Int) (by omega) (by omega) (by rw [h2, Int.toNat_natCast]; omega) (by rw [h3]; omega) (by omega)
    rw [h2, Int.toNat_natCast, Nat.mul_one, made_i] at h
    exact h
def zP (c : Cf) (zs : List Int) (R : List (Int × Ws) × Nat) (j : Nat) : List Int := bL (kOf c) (nOf c) (Qf3 R.1) (R.2 : Int) (Qdi j (vvB R.1 zs) (fun q => zs.getD q 0)) (Qdi j (wwB R.1) (fun _ => 0))
noncomputable def b5C : Cfg := ⟨goM 200 4 [0] [.code (QaI Try.f10)], ⟨0, [], []⟩⟩
noncomputable def b8C : Cfg := ⟨goM 200 6 [0, 0] [.code (QaI Try.f10)], ⟨0, [], []⟩⟩
noncomputable def btC : Cfg := ⟨goZ 200 [0, 0] [.code (QaI Try.f10)], ⟨0, [], []⟩⟩
noncomputable def b5S (c : Cf) (dv : List Value) (es : Er) (e : Nat) (g cp : Nat) : SS := ⟨94, [(3, .p 0 0), (6, .p 2 0), (8, .v es.v), (9, .v (.int .i64 (e : Int))), (10, .p 3 0)], [⟨25, lyC c⟩, ⟨30, dv⟩, ⟨37, [.slice none 0 0]⟩, ⟨37, [.slice (some ⟨g, 0, none⟩) (nOf c) cp]⟩]⟩
noncomputable def b8S (c : Cf) (es : Er) (e : Nat) (g cp : Nat) : SS := ⟨94, [(3, .p 0 0), (6, .p 1 0), (8, .v es.v), (9, .v (.int .i64 (e : Int))), (13, .v (.slice (some ⟨g, 0, none⟩) (nOf c) cp))], [⟨25, lyC c⟩, ⟨37, [.slice none 0 0]⟩]⟩
noncomputable def btS (c : Cf) (es : Er) (g cp j : Nat) : SS := ⟨94, [(3, .p 0 0), (6, .p 1 0), (8, .v es.v), (13, .v (.slice (some ⟨g, 0, none⟩) (nOf c) cp)), (64, .v (.int .i64 (c.l.toNat : Int))), (65, .v (.int .i64 (j : Int)))], [⟨25, lyC c⟩, ⟨37, [.slice none 0 0]⟩]⟩
def Qce (w0 : World) (c : Cf) (zs : List Int) (R : List (Int × Ws) × Nat) (y : Ending) (w' : World) : Prop := ∃ (es : Er) (g cp : Nat), y = .returned (.tuple #[.agg #[.slice (some ⟨g, 0, none⟩) (nOf c) cp], es.v]) ∧ QbR w' g 0 (Qdc c zs R) ∧ w0.heap.size ≤ g ∧ recQ R w0.heap.size es w' ∧ Below w0.heap.size w0 w'
section
variable (w0 : World) (c : Cf) (hc : c.ok) (zs : List Int) (R : List (Int × Ws) × Nat) (es : Er) (hes : es.l.map prE = R.1) (hez : es.l.length = 0 ∨ es.a = some ⟨es.b, es.o, none⟩) (heb : es.l.length = 0 ∨ w0.heap.size ≤ es.b) (hek : ∀ e ∈ es.l, e.ok ∧ (e.ws.length = 0 ∨ w0.heap.size ≤ e.b)) (he1 : es.l.length ≤ 100000 ∧ ∀ e ∈ es.l, e.ok ∧ e.ws.length ≤ 100000) (g cp : Nat) (hg : w0.heap.size ≤ g) (hgf : ∀ f ∈ [QaD es.b es.o es.l, Qax es.l], ¬f.bl g)
include w0 c hc zs R es hes hez heb hek he1 g cp hg hgf
theorem bt_n (m j : Nat) (hj : j < c.l.toNat) (hp : Qbi R.1 (j : Int) = none) (ih : ∀ (x0 x1 : Nat) (aa : Act) (w : World) (S : Sy w0 [] [x0, x1] (btS c es g cp (j + 1)) [QaD es.b es.o es.l, Qax es.l, rfI w0.heap.size g (nOf c) cp (zP c zs R (j + 1))] aa w), post Try.prog (.rnd (m) (Qa_ btC) :: btC.k.tail) (bodyPost Try.prog Try.f10 (Qce w0 c zs R)) .normal aa w) (x0 x1 : Nat) (aa : Act) (w : World) (S : Sy w0 [] [x0, x1] (btS c es g cp (j)) [QaD es.b es.o es.l, Qax es.l, rfI w0.heap.size g (nOf c) cp (zP c zs R (j))] aa w) : post Try.prog (.rnd (m + 1) (Qa_ btC) :: btC.k.tail) (bodyPost Try.prog Try.f10 (Qce w0 c zs R)) .normal aa w := by
  obtain ⟨n1, n2, n3, n4, n5, n6, n7, n8, n9⟩ := Qa2 hc
  have n0 : kOf c ≤ nOf c := by unfold nOf; omega
  have e1 : Qdi j (vvB R.1 zs) (fun q => zs.getD q 0) = Qdi (j + 1) (vvB R.1 zs) (fun q => zs.getD q 0) := Qgq (by unfold vvB; rw [hp])
  have e2 : Qdi j (wwB R.1) (fun _ => 0) = Qdi (j + 1) (wwB R.1) (fun _ => 0) := Qgq (by unfold wwB; rw [hp])
  have e : zP c zs R j = zP c zs R (j + 1) := by unfold zP; rw [e1, e2]
  rw [e] at S
  refine Qam (c := ⟨(.rnd (m + 1) (Qa_ btC) :: btC.k.tail), btS c es g cp j⟩) 10 50 1 S fun bs aa w S => ?_
  refine Qab 66 S (decide_eq_true (by omega) : decide ((j : Int) < (c.l.toNat : Int)) = true) fun S => ?_
  refine Qam 12 60 2 S fun bs aa w S => ?_
  have hla := Qgs w es hez (S.fact (f := QaD es.b es.o es.l) (by simp)) (fun e he => (hek e he).1) (S.fact (f := Qax es.l) (by simp)) (by omega) (fun e he => by have := (he1.2 e he).2; omega) (j : Int)
  rw [hes, hp] at hla
  refine Qap S hla (by kernel_rfl) fun aa w hb S => ?_
  refine Qam 16 60 1 S fun bs aa w S => ?_
  refine QaM 90 S (by rw [IntKind.wrap_i64]; omega : IntKind.i64.wrap ((j : Int) + 1) = ((j + 1 : Nat) : Int)) fun S => ?_
  refine Qan ⟨0, [999]⟩ 50 S fun bs aa w S => ?_
  have S2 := S.to [0, 1] (btS c es g cp (j + 1)) (by kernel_rfl) (by kernel_rfl) (by kernel_rfl) (by kernel_rfl) (by kernel_rfl)
  refine Qai (k' := (.rnd (m) (Qa_ btC) :: btC.k.tail)) (by kernel_rfl) ?_
  exact ih _ _ aa w S2
theorem bt_s (m j : Nat) (hj : j < c.l.toNat) (la lb lc : Int) (hp : Qbi R.1 (j : Int) = some (la, lb, lc)) (ih : ∀ (x0 x1 : Nat) (aa : Act) (w : World) (S : Sy w0 [] [x0, x1] (btS c es g cp (j + 1)) [QaD es.b es.o es.l, Qax es.l, rfI w0.heap.size g (nOf c) cp (zP c zs R (j + 1))] aa w), post Try.prog (.rnd (m) (Qa_ btC) :: btC.k.tail) (bodyPost Try.prog Try.f10 (Qce w0 c zs R)) .normal aa w) (x0 x1 : Nat) (aa : Act) (w : World) (S : Sy w0 [] [x0, x1] (btS c es g cp (j)) [QaD es.b es.o es.l, Qax es.l, rfI w0.heap.size g (nOf c) cp (zP c zs R (j))] aa w) : post Try.prog (.rnd (m + 1) (Qa_ btC) :: btC.k.tail) (bodyPost Try.prog Try.f10 (Qce w0 c zs R)) .normal aa w := by
  obtain ⟨n1, n2, n3, n4, n5, n6, n7, n8, n9⟩ := Qa2 hc
  have n0 : kOf c ≤ nOf c := by unfold nOf; omega
  obtain ⟨v1, v2, v3⟩ := QdW hc (q := j) (by omega)
  have e1 : ((zP c zs R (j))).set (kOf c + 4 * j + 1) lb = (bL (kOf c) (nOf c) (Qf3 R.1) (R.2 : Int) (Qdi (j + 1) (vvB R.1 zs) (fun q => zs.getD q 0)) (Qdi j (wwB R.1) (fun _ => 0))) := by unfold zP; rw [QiY (by omega) j (by omega), Qd6 (by unfold vvB; rw [hp])]
  have e2 : ((bL (kOf c) (nOf c) (Qf3 R.1) (R.2 : Int) (Qdi (j + 1) (vvB R.1 zs) (fun q => zs.getD q 0)) (Qdi j (wwB R.1) (fun _ => 0)))).set (kOf c + 4 * j) (wrap64 (2 * lc)) = (zP c zs R (j + 1)) := by unfold zP; rw [Qlw (by omega) j (by omega), Qd6 (by unfold wwB; rw [hp])]
  have l1 : ((zP c zs R (j))).length = (nOf c) := Qbl _ _ _ _ _ _
  have l2 : ((bL (kOf c) (nOf c) (Qf3 R.1) (R.2 : Int) (Qdi (j + 1) (vvB R.1 zs) (fun q => zs.getD q 0)) (Qdi j (wwB R.1) (fun _ => 0)))).length = (nOf c) := Qbl _ _ _ _ _ _
  refine Qam (c := ⟨(.rnd (m + 1) (Qa_ btC) :: btC.k.tail), btS c es g cp j⟩) 10 50 1 S fun bs aa w S => ?_
  refine Qab 66 S (decide_eq_true (by omega) : decide ((j : Int) < (c.l.toNat : Int)) = true) fun S => ?_
  refine Qam 12 60 2 S fun bs aa w S => ?_
  have hla := Qgs w es hez (S.fact (f := QaD es.b es.o es.l) (by simp)) (fun e he => (hek e he).1) (S.fact (f := Qax es.l) (by simp)) (by omega) (fun e he => by have := (he1.2 e he).2; omega) (j : Int)
  rw [hes, hp] at hla
  refine Qap S hla (by kernel_rfl) fun aa w hb S => ?_
  refine Qac S fun bs aa w S => ?_
  letI : HF := ⟨[]⟩
  refine QaE [0, 2] (by kernel_rfl) (by kernel_rfl) S (by kernel_rfl) (fun aa w D => ?_) (fun f hf => by cases hf)
  refine Qc4 3 D (by kernel_rfl) (by kernel_rfl) (by kernel_rfl) (QjQ (Qay c) (j : Int) w (QfW hc)) (by kernel_rfl) fun aa w hb D => ?_
  refine Qaz 6 D (by kernel_rfl) (by kernel_rfl) (by kernel_rfl) (b := g) (off := 0) (len := (nOf c)) (n := kOf c + 4 * j + 1) (size := 1) (ix := QdD (Qay c) (j : Int)) (by kernel_rfl) v1 v3 fun aa D => ?_
  have hrow := D.S.fact (f := rfI w0.heap.size g (nOf c) cp (zP c zs R (j))) (by simp)
  have hfa := (D.S.fs (rfI w0.heap.size g (nOf c) cp (zP c zs R (j))) (by simp)).2
  obtain ⟨hst, hh⟩ := QcG hrow l1.symm (kOf c + 4 * j + 1) v3 lb
  rw [e1] at hh
  refine Qaw [7] (by kernel_rfl) (by kernel_rfl) rfl (na1 ?_)
  refine QfU 7 [QaD es.b es.o es.l, Qax es.l] D (by kernel_rfl) (ty := 3) (ad := ⟨g, 0 + (kOf c + 4 * j + 1) * 1, none⟩) (x := .v (.int .i64 lb)) (v := .int .i64 lb) (by kernel_rfl) rfl hst (QcH w g _ _) (Or.inr hg) (fun f hf => ⟨by simp only [List.mem_cons, List.not_mem_nil, or_false] at hf ⊢; rcases hf with rfl | rfl <;> simp, hgf f hf⟩) (fun f hf => by cases hf) (fun i hi e => hfa i hi (by show some g = some _; rw [e])) fun aa D => ?_
  have D := D.addF (rfI w0.heap.size g (nOf c) cp (bL (kOf c) (nOf c) (Qf3 R.1) (R.2 : Int) (Qdi (j + 1) (vvB R.1 zs) (fun q => zs.getD q 0)) (Qdi j (wwB R.1) (fun _ => 0)))) hh (fun i hi hb => hfa i hi hb)
  refine QaT D (by kernel_rfl) fun S => ?_
  refine Qam 15 60 3 S fun bs aa w S => ?_
  refine Qap S (word_any (Qay c) (j : Int) w (QfW hc)) (by kernel_rfl) fun aa w hb S => ?_
  refine Qad 1 S fun bs aa w S => ?_
  refine Qap S ((free_any lc w).mono fun e w' h => ⟨h.1, h.2 ▸ Below.refl _ _⟩) (by kernel_rfl) fun aa w hb S => ?_
  refine QbI (b := g) (off := 0) (len := (nOf c)) (n := kOf c + 4 * j) (size := 1) (i := Qfy (Qay c) (j : Int)) S (by kernel_rfl) v2 (by omega) fun aa S => ?_
  refine Qbk S fun bs S => ?_
  have hrow := S.fact (f := rfI w0.heap.size g (nOf c) cp (bL (kOf c) (nOf c) (Qf3 R.1) (R.2 : Int) (Qdi (j + 1) (vvB R.1 zs) (fun q => zs.getD q 0)) (Qdi j (wwB R.1) (fun _ => 0)))) (by simp)
  have hfa := (S.fs (rfI w0.heap.size g (nOf c) cp (bL (kOf c) (nOf c) (Qf3 R.1) (R.2 : Int) (Qdi (j + 1) (vvB R.1 zs) (fun q => zs.getD q 0)) (Qdi j (wwB R.1) (fun _ => 0)))) (by simp)).2
  obtain ⟨hst, hh⟩ := QcG hrow l2.symm (kOf c + 4 * j) (by omega) (wrap64 (2 * lc))
  rw [e2] at hh
  refine Qh3 (ty := 3) (ad := ⟨g, 0 + (kOf c + 4 * j) * 1, none⟩) (x := .v (.int .i64 (wrap64 (2 * lc)))) (v := .int .i64 (wrap64 (2 * lc))) S (by kernel_rfl) rfl hst (QcH w g _ _) (Or.inr hg) [QaD es.b es.o es.l, Qax es.l] (fun f hf => ⟨by simp only [List.mem_cons, List.not_mem_nil, or_false] at hf ⊢; rcases hf with rfl | rfl <;> simp, hgf f hf⟩) (fun i hi e => hfa i hi (by show some g = some _; rw [e])) fun aa S => ?_
  have S := S.add (rfI w0.heap.size g (nOf c) cp (zP c zs R (j + 1))) hh (fun i hi hb => hfa i hi hb)
  refine Qam 16 60 1 S fun bs aa w S => ?_
  refine QaM 90 S (by rw [IntKind.wrap_i64]; omega : IntKind.i64.wrap ((j : Int) + 1) = ((j + 1 : Nat) : Int)) fun S => ?_
  refine Qan ⟨0, [999]⟩ 50 S fun bs aa w S => ?_
  have S := S.sub (F' := [QaD es.b es.o es.l, Qax es.l, rfI w0.heap.size g (nOf c) cp (zP c zs R (j + 1))]) (by intro f hf; simp only [List.mem_cons, List.not_mem_nil, or_false] at hf; rcases hf with rfl | rfl | rfl <;> simp)
  have S2 := S.to [0, 1] (btS c es g cp (j + 1)) (by kernel_rfl) (by kernel_rfl) (by kernel_rfl) (by kernel_rfl) (by kernel_rfl)
  refine Qai (k' := (.rnd (m) (Qa_ btC) :: btC.k.tail)) (by kernel_rfl) ?_
  exact ih _ _ aa w S2
theorem bt_e (m : Nat) (x0 x1 : Nat) (aa : Act) (w : World) (S : Sy w0 [] [x0, x1] (btS c es g cp (c.l.toNat)) [QaD es.b es.o es.l, Qax es.l, rfI w0.heap.size g (nOf c) cp (zP c zs R (c.l.toNat))] aa w) : post Try.prog (.rnd (m + 1) (Qa_ btC) :: btC.k.tail) (bodyPost Try.prog Try.f10 (Qce w0 c zs R)) .normal aa w := by
  refine Qam (c := ⟨(.rnd (m + 1) (Qa_ btC) :: btC.k.tail), btS c es g cp c.l.toNat⟩) 10 50 1 S fun bs aa w S => ?_
  refine Qab 66 S (decide_eq_false (by omega) : decide ((c.l.toNat : Int) < (c.l.toNat : Int)) = false) fun S => ?_
  refine Qac S fun bs aa w S => ?_
  have hrow := S.fact (f := rfI w0.heap.size g (nOf c) cp (zP c zs R (c.l.toNat))) (by simp)
  have hE1 := (S.fact (f := QaD es.b es.o es.l) (by simp))
  have hE2 := (S.fact (f := Qax es.l) (by simp))
  refine Qaf S (by kernel_rfl) (by kernel_rfl) fun hgr => ⟨es, g, cp, rfl, ?_, hg, ⟨hes, hez, hE1, heb, hek, hE2⟩, Qag hgr⟩
  have hz : zP c zs R c.l.toNat = Qdc c zs R := Qlx
  rw [hz] at hrow
  exact Qfg hrow (Qbl _ _ _ _ _ _).symm
theorem bt_a : ∀ (m j : Nat), j + m = c.l.toNat → ∀ (x0 x1 : Nat) (aa : Act) (w : World) (S : Sy w0 [] [x0, x1] (btS c es g cp (j)) [QaD es.b es.o es.l, Qax es.l, rfI w0.heap.size g (nOf c) cp (zP c zs R (j))] aa w), post Try.prog (.rnd (m + 1) (Qa_ btC) :: btC.k.tail) (bodyPost Try.prog Try.f10 (Qce w0 c zs R)) .normal aa w := by
  intro m
  induction m with
  | zero => intro j hj x0 x1 aa w S; obtain rfl : j = c.l.toNat := by omega
            exact bt_e w0 c hc zs R es hes hez heb hek he1 g cp hg hgf 0 x0 x1 aa w S
  | succ m ih =>
    intro j hj x0 x1 aa w S
    cases hp : Qbi R.1 (j : Int) with
    | none => exact bt_n w0 c hc zs R es hes hez heb hek he1 g cp hg hgf (m + 1) j (by omega) hp (ih (j + 1) (by omega)) x0 x1 aa w S
    | some q =>
      obtain ⟨la, lb, lc⟩ := q
      exact bt_s w0 c hc zs R es hes hez heb hek he1 g cp hg hgf (m + 1) j (by omega) la lb lc hp (ih (j + 1) (by omega)) x0 x1 aa w S
theorem bt_8 (x0 x1 : Nat) (aa : Act) (w : World) (S : Sy w0 [] [x0, x1] (b8S c es R.2 g cp) [QaD es.b es.o es.l, Qax es.l, rfI w0.heap.size g (nOf c) cp (bL (kOf c) (nOf c) (Qf3 R.1) 0 (fun q => zs.getD q 0) (fun _ => 0))] aa w) : post Try.prog b8C.k (bodyPost Try.prog Try.f10 (Qce w0 c zs R)) .normal aa w := by
  obtain ⟨n1, n2, n3, n4, n5, n6, n7, n8, n9⟩ := Qa2 hc
  have n0 : kOf c ≤ nOf c := by unfold nOf; omega
  have e1 : ((bL (kOf c) (nOf c) (Qf3 R.1) 0 (fun q => zs.getD q 0) (fun _ => 0))).set 3 (R.2 : Int) = (zP c zs R (0)) := by unfold zP; rw [bL_fin (by omega), mix_0, mix_0]
  refine Qam (c := ⟨b8C.k, b8S c es R.2 g cp⟩) 8 60 4 S fun bs aa w S => ?_
  refine QbI (b := g) (off := 0) (len := (nOf c)) (n := 3) (size := 1) (i := ((3 : Nat) : Int)) S (by kernel_rfl) rfl (by omega) fun aa S => ?_
  refine Qbk S fun bs S => ?_
  have hrow := S.fact (f := rfI w0.heap.size g (nOf c) cp (bL (kOf c) (nOf c) (Qf3 R.1) 0 (fun q => zs.getD q 0) (fun _ => 0))) (by simp)
  have hfa := (S.fs (rfI w0.heap.size g (nOf c) cp (bL (kOf c) (nOf c) (Qf3 R.1) 0 (fun q => zs.getD q 0) (fun _ => 0))) (by simp)).2
  obtain ⟨hst, hh⟩ := QcG hrow (Qbl _ _ _ _ _ _).symm 3 (by omega) (R.2 : Int)
  rw [e1] at hh
  refine Qh3 (ty := 3) (ad := ⟨g, 0 + 3 * 1, none⟩) (x := .v (.int .i64 (R.2 : Int))) (v := .int .i64 (R.2 : Int)) S (by kernel_rfl) rfl hst (QcH w g _ _) (Or.inr hg) [QaD es.b es.o es.l, Qax es.l] (fun f hf => ⟨by simp only [List.mem_cons, List.not_mem_nil, or_false] at hf ⊢; rcases hf with rfl | rfl <;> simp, hgf f hf⟩) (fun i hi e => hfa i hi (by show some g = some _; rw [e])) fun aa S => ?_
  have S := S.add (rfI w0.heap.size g (nOf c) cp (zP c zs R (0))) hh (fun i hi hb => hfa i hi hb)
  refine Qam 9 60 3 S fun bs aa w S => ?_
  refine QaM 64 S n3 fun S => ?_
  refine Qac S fun bs aa w S => ?_
  have S := S.sub (F' := [QaD es.b es.o es.l, Qax es.l, rfI w0.heap.size g (nOf c) cp (zP c zs R (0))]) (by intro f hf; simp only [List.mem_cons, List.not_mem_nil, or_false] at hf; rcases hf with rfl | rfl | rfl <;> simp)
  have S2 := S.to [0, 1] (btS c es g cp 0) (by kernel_rfl) (by kernel_rfl) (by kernel_rfl) (by kernel_rfl) (by kernel_rfl)
  refine QaJ (c.l.toNat + 1) (by kernel_rfl) ?_
  refine Qai (k' := (.rnd (c.l.toNat + 1) (Qa_ btC) :: btC.k.tail)) (by kernel_rfl) ?_
  exact bt_a w0 c hc zs R es hes hez heb hek he1 g cp hg hgf c.l.toNat 0 (by omega) _ _ aa _ S2
end
theorem QiS {l : List Et} {R : List (Int × Ws)} (h : l.map prE = R) : Qf3 R = if l.length = 0 then 0 else (l.getD (l.length - 1) e00).ver := by
  subst h
  unfold Qf3
  by_cases h0 : l.length = 0
  · rw [if_pos h0, List.length_eq_zero_iff.1 h0]; rfl
  · rw [if_neg h0]
    have e : (l.map prE).getLast? = some (prE (l.getD (l.length - 1) e00)) := by
      rw [List.getLast?_eq_getElem?, List.length_map, List.getElem?_map]
      simp [List.getD, List.getElem?_eq_getElem (show l.length - 1 < l.length by omega)]
    rw [e]
    rfl
theorem bt_5 (w0 : World) (c : Cf) (hc : c.ok) (zs : List Int) (R : List (Int × Ws) × Nat) (es : Er) (hes : es.l.map prE = R.1) (hez : es.l.length = 0 ∨ es.a = some ⟨es.b, es.o, none⟩) (heb : es.l.length = 0 ∨ w0.heap.size ≤ es.b) (hek : ∀ e ∈ es.l, e.ok ∧ (e.ws.length = 0 ∨ w0.heap.size ≤ e.b)) (he1 : es.l.length ≤ 100000 ∧ ∀ e ∈ es.l, e.ok ∧ e.ws.length ≤ 100000) (g5 c5 : Nat) (dv : List Value) (x0 x1 x2 x3 : Nat) (aa : Act) (w : World) (S : Sy w0 [] [x0, x1, x2, x3] (b5S c dv es R.2 g5 c5) [QaD es.b es.o es.l, Qax es.l, rfI w0.heap.size g5 (nOf c) c5 (bL (kOf c) (nOf c) 0 0 (fun q => zs.getD q 0) (fun _ => 0))] aa w) : post Try.prog b5C.k (bodyPost Try.prog Try.f10 (Qce w0 c zs R)) .normal aa w := by
  obtain ⟨n1, n2, n3, n4, n5, n6, n7, n8, n9⟩ := Qa2 hc
  have n0 : kOf c ≤ nOf c := by unfold nOf; omega
  have hclk := QiS hes
  refine Qam (c := ⟨b5C.k, b5S c dv es R.2 g5 c5⟩) 5 60 2 S fun bs aa w S => ?_
  refine Qbk S fun bs S => ?_
  have hbl : ∀ j, j < bs.length → bs.getD j 0 < w.heap.size := fun j hj => S.lt hj
  have hgs := S.gr.size
  have hFP : ∀ f ∈ [QaD es.b es.o es.l, Qax es.l], f.P w := fun f hf => (S.fs f (by simp only [List.mem_cons, List.not_mem_nil, or_false] at hf ⊢; rcases hf with rfl | rfl <;> simp)).1
  refine Qbc S (X := Nat × Nat) (val := fun q => .slice (some ⟨q.1, 0, none⟩) (nOf c) q.2) (C := fun q w' => w'.ownsRow w.heap.size 3 1 (.slice (some ⟨q.1, 0, none⟩) (nOf c) q.2) (nOf c) (((bL (kOf c) (nOf c) 0 0 (fun q => zs.getD q 0) (fun _ => 0))).map (Value.int .i64)) ∧ w.heap.size ≤ q.1) (f := 32) (args := #[.slice (some ⟨g5, 0, none⟩) (nOf c) c5]) (by
    have h := Try.slices_Clone_int g5 0 (nOf c) c5 (bL (kOf c) (nOf c) 0 0 (fun q => zs.getD q 0) (fun _ => 0)) w (by rw [Qbl]; exact Nat.le_refl _) (by omega) (Qfg (S.fact (f := rfI w0.heap.size g5 (nOf c) c5 (bL (kOf c) (nOf c) 0 0 (fun q => zs.getD q 0) (fun _ => 0))) (by simp)) (Qbl _ _ _ _ _ _).symm)
    refine h.mono fun e w' ⟨v', h1, h2, h3, h4⟩ => ?_
    rw [List.take_of_length_le (by rw [Qbl]; exact Nat.le_refl _)] at h2
    obtain ⟨g, cp, rfl, hg, _⟩ := Qik h2 (by omega)
    exact ⟨(g, cp), h1, ⟨h2, hg⟩, h4⟩) (by kernel_rfl) fun q aa w1 hC hb S => ?_
  obtain ⟨g, cp⟩ := q
  obtain ⟨hrow, hgn⟩ := hC
  have hg : w0.heap.size ≤ g := by have : w.heap.size ≤ g := hgn; omega
  have hgf : ∀ f ∈ [QaD es.b es.o es.l, Qax es.l], ¬f.bl g := fun f hf hb => by
    have := f.lt w (hFP f hf) g hb
    have : w.heap.size ≤ g := hgn
    omega
  have S := S.add (rfI w0.heap.size g (nOf c) cp (bL (kOf c) (nOf c) 0 0 (fun q => zs.getD q 0) (fun _ => 0))) (QaO hrow hgs) (fun j hj hb => by
    have h2 : some g = some (bs.getD j 0) := hb
    simp only [Option.some.injEq] at h2
    have := hbl j hj
    have : w.heap.size ≤ g := hgn
    omega)
  refine Qam 6 60 3 S fun bs aa w S => ?_
  by_cases h0 : es.l.length = 0
  · have hz8 : (bL (kOf c) (nOf c) 0 0 (fun q => zs.getD q 0) (fun _ => 0)) = (bL (kOf c) (nOf c) (Qf3 R.1) 0 (fun q => zs.getD q 0) (fun _ => 0)) := by rw [hclk, if_pos h0]
    refine Qab 45 S (decide_eq_false (by omega) : decide ((es.l.length : Int) > 0) = false) fun S => ?_
    refine Qan ⟨0, [8]⟩ 60 S fun bs aa w S => ?_
    have S := S.sub (F' := [QaD es.b es.o es.l, Qax es.l, rfI w0.heap.size g (nOf c) cp (bL (kOf c) (nOf c) 0 0 (fun q => zs.getD q 0) (fun _ => 0))]) (by intro f hf; simp only [List.mem_cons, List.not_mem_nil, or_false] at hf; rcases hf with rfl | rfl | rfl <;> simp)
    rw [hz8] at S
    have S2 := S.to [0, 2] (b8S c es R.2 g cp) (by kernel_rfl) (by kernel_rfl) (by kernel_rfl) (by kernel_rfl) (by kernel_rfl)
    refine Qai (k' := b8C.k) (by kernel_rfl) ?_
    exact bt_8 w0 c hc zs R es hes hez heb hek he1 g cp hg hgf _ _ aa _ S2
  · have hc8 : ((bL (kOf c) (nOf c) 0 0 (fun q => zs.getD q 0) (fun _ => 0))).set 0 (es.l.getD (es.l.length - 1) e00).ver = (bL (kOf c) (nOf c) (Qf3 R.1) 0 (fun q => zs.getD q 0) (fun _ => 0)) := by rw [bL_clk (by omega), hclk, if_neg h0]
    refine Qab 45 S (decide_eq_true (by omega) : decide ((es.l.length : Int) > 0) = true) fun S => ?_
    refine Qac S fun bs aa w S => ?_
    letI : HF := ⟨[QaD es.b es.o es.l]⟩
    refine QaE [0] (by kernel_rfl) (by kernel_rfl) S (by kernel_rfl) (fun aa w D => ?_) (fun f hf => by have e1 : f = QaD es.b es.o es.l := List.mem_singleton.1 hf; subst e1; simp)
    refine Qaz 7 D (by kernel_rfl) (by kernel_rfl) (by kernel_rfl) (b := es.b) (off := es.o) (len := es.l.length) (n := es.l.length - 1) (size := 2) (ix := IntKind.i64.wrap ((es.l.length : Int) - 1)) (by rw [← hez.resolve_left h0]; kernel_rfl) (by rw [IntKind.wrap_i64]; omega) (by omega) fun aa D => ?_
    refine QaH 9 D (by kernel_rfl) (by kernel_rfl) (by kernel_rfl) (ty := 3) (ad := ⟨es.b, es.o + (es.l.length - 1) * 2, none⟩) (v := .int .i64 (es.l.getD (es.l.length - 1) e00).ver) (fun W hW => QaP (by kernel_rfl) ((show Qhd W es.b es.o es.l from hW (QaD es.b es.o es.l) (by show _ ∈ [QaD es.b es.o es.l]; simp)) (es.l.length - 1) (by omega)).1) (by kernel_rfl) fun aa D => ?_
    refine Qaz 10 D (by kernel_rfl) (by kernel_rfl) (by kernel_rfl) (b := g) (off := 0) (len := (nOf c)) (n := 0) (size := 1) (ix := ((0 : Nat) : Int)) (by kernel_rfl) rfl (by omega) fun aa D => ?_
    have hrow := D.S.fact (f := rfI w0.heap.size g (nOf c) cp (bL (kOf c) (nOf c) 0 0 (fun q => zs.getD q 0) (fun _ => 0))) (by simp)
    have hfa := (D.S.fs (rfI w0.heap.size g (nOf c) cp (bL (kOf c) (nOf c) 0 0 (fun q => zs.getD q 0) (fun _ => 0))) (by simp)).2
    obtain ⟨hst, hh⟩ := QcG hrow (Qbl _ _ _ _ _ _).symm 0 (by omega) (es.l.getD (es.l.length - 1) e00).ver
    rw [hc8] at hh
    refine Qaw [11] (by kernel_rfl) (by kernel_rfl) rfl (na1 ?_)
    refine QfU 11 [QaD es.b es.o es.l, Qax es.l] D (by kernel_rfl) (ty := 3) (ad := ⟨g, 0 + 0 * 1, none⟩) (x := .v (.int .i64 (es.l.getD (es.l.length - 1) e00).ver)) (v := .int .i64 (es.l.getD (es.l.length - 1) e00).ver) (by kernel_rfl) rfl hst (QcH w g _ _) (Or.inr hg) (fun f hf => ⟨by simp only [List.mem_cons, List.not_mem_nil, or_false] at hf ⊢; rcases hf with rfl | rfl <;> simp, hgf f hf⟩) (fun f hf => by have e1 : f = QaD es.b es.o es.l := List.mem_singleton.1 hf; subst e1; simp) (fun i hi e => hfa i hi (by show some g = some _; rw [e])) fun aa D => ?_
    have D := D.addF (rfI w0.heap.size g (nOf c) cp (bL (kOf c) (nOf c) (Qf3 R.1) 0 (fun q => zs.getD q 0) (fun _ => 0))) hh (fun i hi hb => hfa i hi hb)
    refine QaT D (by kernel_rfl) fun S => ?_
    refine Qan ⟨0, [8]⟩ 60 S fun bs aa w S => ?_
    have S := S.sub (F' := [QaD es.b es.o es.l, Qax es.l, rfI w0.heap.size g (nOf c) cp (bL (kOf c) (nOf c) (Qf3 R.1) 0 (fun q => zs.getD q 0) (fun _ => 0))]) (by intro f hf; simp only [List.mem_cons, List.not_mem_nil, or_false] at hf; rcases hf with rfl | rfl | rfl <;> simp)
    have S2 := S.to [0, 2] (b8S c es R.2 g cp) (by kernel_rfl) (by kernel_rfl) (by kernel_rfl) (by kernel_rfl) (by kernel_rfl)
    refine Qai (k' := b8C.k) (by kernel_rfl) ?_
    exact bt_8 w0 c hc zs R es hes hez heb hek he1 g cp hg hgf _ _ aa _ S2
theorem mem3 {F : List RF} {a b c : RF} (h1 : a ∈ F) (h2 : b ∈ F) (h3 : c ∈ F) : ∀ f ∈ [a, b, c], f ∈ F := by
  intro f hf
  simp only [List.mem_cons, List.not_mem_nil, or_false] at hf
  rcases hf with rfl | rfl | rfl
  · exact h1
  · exact h2
  · exact h3
theorem Qkf {c : Cf} (h : c.ok) : Qe5 (Qay c) = true := by
  unfold Qe5
  rw [Bool.and_eq_true, decide_eq_true_eq]
  exact ⟨h, by rw [Qgr]; rfl⟩
def mkC (c : Cf) (w : World) (v : Value) (w' : World) : Prop := ∃ g, v = .slice (some ⟨g, 0, none⟩) (nOf c) (nOf c) ∧ w.heap.size ≤ g ∧ QbR w' g 0 (List.replicate (nOf c) (0 : Int))
theorem QkL {c : Cf} (hc : c.ok) {s : SS} {bs : List Nat} {w : World} (hx : s.val (.tmp 30) = some (.v (.int .i64 (Qay c).size))) : ∀ (o : Oper) (ρ : Operand → Value), o.op = .makeSlice 26 (.tmp 30) (.tmp 30) → o.type = 26 → (∀ x y, s.val x = some y → ρ x = den bs y) → ∃ v w', (execOp ρ o).run Try.prog w = .ok (.value v) w' ∧ mkC c w v w' ∧ Below w.heap.size w w' := by
  intro oo ρ h1 h2 h3
  obtain ⟨n1, n2, n3, n4, n5, n6, n7, n8, n9⟩ := Qa2 hc
  have e1 : ρ (.tmp 30) = .int .i64 ((nOf c) : Int) := (h3 _ _ hx).trans (congrArg (Value.int .i64) n5)
  refine ⟨.slice (some ⟨w.heap.size, 0, none⟩) (nOf c) (nOf c), w.alloc (.cells (List.replicate (nOf c) (Value.int .i64 0)).toArray 3 (0, 0)), ?_, ⟨_, rfl, Nat.le_refl _, fun j hj => ?_⟩, (Below.refl _ _).alloc (Nat.le_refl _) _⟩
  · unfold execOp
    simp only [h1, e1, Sem.run_bind, mk_rI (nOf c) (by omega) w, Result.andThen_ok, Sem.run_pure]
  · rw [Nat.zero_add]
    refine Qlu (heap_alloc_new w _) ?_
    have hj2 : j < (nOf c) := by simpa using hj
    simp [List.getD, List.getElem?_replicate, hj2]
def rfA (B : Nat) (c : Cf) (zs : List Int) (u : Value) : RF := Qah B 66 5 u (QbV (Qay c) zs zs.length).length (Qb_ (QbV (Qay c) zs zs.length))
theorem Qk1 {c : Cf} (hc : c.ok) {zs : List Int} (hzs : zs.length ≤ 40) {fa : Option Addr} {fc fb fo : Nat} (hf : zs.length = 0 ∨ fa = some ⟨fb, fo, none⟩) {w : World} (hI : QbR w fb fo zs) : Calls Try.prog 31 #[(Qay c).v, .slice fa zs.length fc] w fun e w' => ∃ u, e = .returned u ∧ (rfA w.heap.size c zs u).P w' ∧ Below w.heap.size w w' :=
  (init_own (Qay c) _ zs w (QfW hc) (ints_has (by omega) hf hI) (by omega)).mono fun e w' ⟨u, h1, h2, h3⟩ => ⟨u, h1, h2, h3⟩
def alV (c : Cf) (q : Nat × Nat × Value) : Value := .tuple #[.agg #[.slice (some ⟨q.1, 0, none⟩) (nOf c) q.2.1], q.2.2, .int .i64 0]
def zI (c : Cf) (zs : List Int) : List Int := bL (kOf c) (nOf c) 0 0 (fun q => zs.getD q 0) (fun _ => 0)
theorem Qha {c : Cf} (hc : c.ok) {zs : List Int} (hzs : zs.length ≤ 40) {w : World} {B g0 : Nat} {u : Value} (hI : QbR w g0 0 (List.replicate (nOf c) (0 : Int))) (hA : (rfA B c zs u).P w) : Calls Try.prog 30 #[.agg #[.slice (some ⟨g0, 0, none⟩) (nOf c) (nOf c)], u] w fun e w' => ∃ q, e = .returned (alV c q) ∧ ((rfI w.heap.size q.1 (nOf c) q.2.1 (zI c zs)).P w' ∧ w.heap.size ≤ q.1) ∧ Below w.heap.size w w' := by
  obtain ⟨n1, n2, n3, n4, n5, n6, n7, n8, n9⟩ := Qa2 hc
  have n0 : kOf c ≤ nOf c := by unfold nOf; omega
  have h := all_own (.slice (some ⟨g0, 0, none⟩) (nOf c) (nOf c)) u (List.replicate (nOf c) (0 : Int)) _ w ⟨_, _, by rw [List.length_replicate], by rw [List.length_replicate]; omega, Or.inr ⟨g0, 0, rfl, hI⟩⟩ (Qfl hA) (by rw [List.length_replicate]; omega) (by have := QeE (Qay c) zs zs.length; omega) (by rw [List.length_replicate]; exact init_err hc zs _)
  refine h.mono fun e w' ⟨v', r, h1, h2, h3⟩ => ?_
  rw [init_all hc, List.length_replicate] at h2
  obtain ⟨g5, c5, rfl, hg5, _⟩ := Qik h2 (by omega)
  exact ⟨(g5, c5, r), h1, ⟨h2, hg5⟩, h3⟩
theorem boot_t (w0 : World) (c : Cf) (hc : c.ok) (zs : List Int) (hzs : zs.length ≤ 40) (fa : Option Addr) (fc fb fo : Nat) (hf : zs.length = 0 ∨ fa = some ⟨fb, fo, none⟩) (x : Sr) (hx : x.ok) (hxc : x.l.length ≤ x.c) (hxl : x.l.length ≤ 600) (wv : Value) (hA : x.at w0) (hI : QbR w0 fb fo zs) : Calls Try.prog 10 #[(Qay c).v, .slice fa zs.length fc, .agg #[x.v, wv]] w0 (Qce w0 c zs (Qda (x.l.length + 1) x.l 0 0)) := by
  obtain ⟨n1, n2, n3, n4, n5, n6, n7, n8, n9⟩ := Qa2 hc
  have n0 : kOf c ≤ nOf c := by unfold nOf; omega
  obtain ⟨R, hR⟩ : ∃ R, (Qda (x.l.length + 1) x.l 0 0) = R := ⟨_, rfl⟩
  have hRb := Qgi (x.l.length + 1) x.l 0 0
  rw [hR] at hRb ⊢
  refine Qav [] [QaC x.b x.o x.l, QbK fb fo zs] (by intro f hf; simp only [List.mem_cons, List.not_mem_nil, or_false] at hf; rcases hf with rfl | rfl; exact hA; exact hI) Try.func10 rfl rfl fun aa S => ?_
  refine Qam 1 60 1 S fun bs aa w S => ?_
  have hri := Qhm (Qay c) w
  rw [Qkf hc] at hri
  refine Qap S hri (by kernel_rfl) fun aa w hb S => ?_
  refine Qam 3 60 2 S fun bs aa w S => ?_
  refine Qbk S fun bs S => ?_
  have hblx : ∀ j, j < bs.length → bs.getD j 0 < w.heap.size := fun j hj => S.lt hj
  have hgs := S.gr.size
  have hcx := Qkh w x hx hxc (by omega) (S.fact (f := QaC x.b x.o x.l) (by simp))
  rw [hR] at hcx
  refine Qbc S (X := Er) (val := fun z => .tuple #[z.v, .int .i64 (R.2 : Int)]) (C := recQ R w.heap.size) (hcx.mono fun y w' h => rec_er h) (by kernel_rfl) fun es aa w1 hes0 hb S => ?_
  have S := S.add (QaD es.b es.o es.l) hes0.2.2.1 (fun j hj hb => by
    obtain ⟨q1, q2⟩ := hb
    have := hblx j hj
    have := hes0.2.2.2.1.resolve_left q2
    omega)
  have S := S.add (Qax es.l) hes0.2.2.2.2.2 (fun j hj hb => by
    obtain ⟨e, he, q1, q2⟩ := hb
    have := hblx j hj
    have := (hes0.2.2.2.2.1 e he).2.resolve_left q2
    omega)
  have he1 := Qgg hes0 hRb
  have he1 : es.l.length ≤ 100000 ∧ ∀ e ∈ es.l, e.ok ∧ e.ws.length ≤ 100000 := ⟨by omega, he1.2⟩
  have hes := hes0.1
  have hez := hes0.2.1
  have heb : es.l.length = 0 ∨ w0.heap.size ≤ es.b := hes0.2.2.2.1.imp id fun h => by omega
  have hek : ∀ e ∈ es.l, e.ok ∧ (e.ws.length = 0 ∨ w0.heap.size ≤ e.b) := fun e he => ⟨(hes0.2.2.2.2.1 e he).1, (hes0.2.2.2.2.1 e he).2.imp id fun h => by omega⟩
  refine Qac S fun bs aa w S => ?_
  refine Qbk S fun bs S => ?_
  letI : KP := ⟨[31]⟩
  letI : HF := ⟨[]⟩
  refine QaE [0] (by kernel_rfl) (by kernel_rfl) S (by kernel_rfl) (fun aa w D => ?_) (fun f hf => by cases hf)
  refine Qaw [2, 6, 12] (by kernel_rfl) (by kernel_rfl) rfl (na3 ?_ ?_ ?_)
  · skip
    refine QfV 2 D (by kernel_rfl) (by kernel_rfl) (QkL hc (by kernel_rfl)) fun v0 aa w hC0 hb0 hlt0 D => ?_
    obtain ⟨g0, rfl, hg0, hI0⟩ := hC0
    have D := D.addF (QbK g0 0 (List.replicate (nOf c) (0 : Int))) hI0 (fun j hj hb => by
      have h1 := hlt0 j hj
      have h2 := hb.1
      omega)
    refine Qaw [6, 12] (by kernel_rfl) (by kernel_rfl) rfl (na2 ?_ ?_)
    · skip
      have hlt1 := fun j hj => D.S.lt (i := j) hj
      have hgr1 := D.S.gr.size
      refine QbU 6 D (by kernel_rfl) (X := Value) (val := id) (C := fun u w' => (rfA w.heap.size c zs u).P w') (args := #[(Qay c).v, .slice fa zs.length fc]) (Qk1 hc hzs hf (D.S.fact (f := QbK fb fo zs) (by simp))) (by kernel_rfl) fun u aa w hC1 hb1 D => ?_
      have D := D.addF (rfA w0.heap.size c zs u) (QaO hC1 hgr1) (fun j hj hb => by
        have h1 := hlt1 j hj
        have h2 := (World.ownsRow.lt hC1 _ hb).1
        omega)
      refine Qaw [7, 12] (by kernel_rfl) (by kernel_rfl) rfl (na2 ?_ ?_)
      · skip
        have hlt2 := fun j hj => D.S.lt (i := j) hj
        have hgr2 := D.S.gr.size
        refine QbU 7 D (by kernel_rfl) (X := Nat × Nat × Value) (val := alV c) (C := fun q w' => (rfI w.heap.size q.1 (nOf c) q.2.1 (zI c zs)).P w' ∧ w.heap.size ≤ q.1) (args := #[.agg #[.slice (some ⟨g0, 0, none⟩) (nOf c) (nOf c)], u]) (Qha hc hzs (D.S.fact (f := QbK g0 0 (List.replicate (nOf c) (0 : Int))) (by simp)) (D.S.fact (f := rfA w0.heap.size c zs u) (by simp))) (by kernel_rfl) fun q aa w hC2 hb2 D => ?_
        obtain ⟨g5, c5, r5⟩ := q
        have D := D.addF (rfI w0.heap.size g5 (nOf c) c5 (zI c zs)) (QaO hC2.1 hgr2) (fun j hj hb => by
          have h1 := hlt2 j hj
          have h2 : some g5 = some (_ : Nat) := hb
          simp only [Option.some.injEq] at h2
          have h3 : _ ≤ g5 := hC2.2
          omega)
        refine Qaw [12] (by kernel_rfl) (by kernel_rfl) rfl (na1 ?_)
        · skip
          refine QbM 12 D (by kernel_rfl) (Nat.le_refl _) (by kernel_rfl) (by kernel_rfl) fun bs aa w D hl => ?_
          refine Qaw [13] (by kernel_rfl) (by kernel_rfl) rfl (na1 ?_)
          · skip
            refine QbM 13 D (by kernel_rfl) hl (by kernel_rfl) (by kernel_rfl) fun bs aa w D hl => ?_
            refine QaT D (by kernel_rfl) fun S => ?_
            refine Qan ⟨0, [5]⟩ 60 S fun bs aa w S => ?_
            have S := S.sub (F' := [QaD es.b es.o es.l, Qax es.l, rfI w0.heap.size g5 (nOf c) c5 (zI c zs)]) (mem3 (by simp) (by simp) (by simp))
            have S2 := S.to [0, 1, 2, 3] (b5S c [x.v, wv] es R.2 g5 c5) (by kernel_rfl) (by kernel_rfl) (by kernel_rfl) (by kernel_rfl) (by kernel_rfl)
            refine Qai (k' := b5C.k) (by kernel_rfl) ?_
            exact bt_5 w0 c hc zs R es hes hez heb hek he1 g5 c5 [x.v, wv] _ _ _ _ aa _ S2
      · skip
        refine QbM 12 D (by kernel_rfl) (Nat.le_refl _) (by kernel_rfl) (by kernel_rfl) fun bs aa w D hl => ?_
        refine Qaw [7] (by kernel_rfl) (by kernel_rfl) rfl (na1 ?_)
        · skip
          have hlt2 := fun j hj => D.S.lt (i := j) hj
          have hgr2 := D.S.gr.size
          refine QbU 7 D (by kernel_rfl) (X := Nat × Nat × Value) (val := alV c) (C := fun q w' => (rfI w.heap.size q.1 (nOf c) q.2.1 (zI c zs)).P w' ∧ w.heap.size ≤ q.1) (args := #[.agg #[.slice (some ⟨g0, 0, none⟩) (nOf c) (nOf c)], u]) (Qha hc hzs (D.S.fact (f := QbK g0 0 (List.replicate (nOf c) (0 : Int))) (by simp)) (D.S.fact (f := rfA w0.heap.size c zs u) (by simp))) (by kernel_rfl) fun q aa w hC2 hb2 D => ?_
          obtain ⟨g5, c5, r5⟩ := q
          have D := D.addF (rfI w0.heap.size g5 (nOf c) c5 (zI c zs)) (QaO hC2.1 hgr2) (fun j hj hb => by
            have h1 := hlt2 j hj
            have h2 : some g5 = some (_ : Nat) := hb
            simp only [Option.some.injEq] at h2
            have h3 : _ ≤ g5 := hC2.2
            omega)
          refine Qaw [13] (by kernel_rfl) (by kernel_rfl) rfl (na1 ?_)
          · skip
            refine QbM 13 D (by kernel_rfl) hl (by kernel_rfl) (by kernel_rfl) fun bs aa w D hl => ?_
            refine QaT D (by kernel_rfl) fun S => ?_
            refine Qan ⟨0, [5]⟩ 60 S fun bs aa w S => ?_
            have S := S.sub (F' := [QaD es.b es.o es.l, Qax es.l, rfI w0.heap.size g5 (nOf c) c5 (zI c zs)]) (mem3 (by simp) (by simp) (by simp))
            have S2 := S.to [0, 1, 2, 3] (b5S c [x.v, wv] es R.2 g5 c5) (by kernel_rfl) (by kernel_rfl) (by kernel_rfl) (by kernel_rfl) (by kernel_rfl)
            refine Qai (k' := b5C.k) (by kernel_rfl) ?_
            exact bt_5 w0 c hc zs R es hes hez heb hek he1 g5 c5 [x.v, wv] _ _ _ _ aa _ S2
    · skip
      refine QbM 12 D (by kernel_rfl) (Nat.le_refl _) (by kernel_rfl) (by kernel_rfl) fun bs aa w D hl => ?_
      refine Qaw [6] (by kernel_rfl) (by kernel_rfl) rfl (na1 ?_)
      · skip
        have hlt1 := fun j hj => D.S.lt (i := j) hj
        have hgr1 := D.S.gr.size
        refine QbU 6 D (by kernel_rfl) (X := Value) (val := id) (C := fun u w' => (rfA w.heap.size c zs u).P w') (args := #[(Qay c).v, .slice fa zs.length fc]) (Qk1 hc hzs hf (D.S.fact (f := QbK fb fo zs) (by simp))) (by kernel_rfl) fun u aa w hC1 hb1 D => ?_
        have D := D.addF (rfA w0.heap.size c zs u) (QaO hC1 hgr1) (fun j hj hb => by
          have h1 := hlt1 j hj
          have h2 := (World.ownsRow.lt hC1 _ hb).1
          omega)
        refine Qaw [7] (by kernel_rfl) (by kernel_rfl) rfl (na1 ?_)
        · skip
          have hlt2 := fun j hj => D.S.lt (i := j) hj
          have hgr2 := D.S.gr.size
          refine QbU 7 D (by kernel_rfl) (X := Nat × Nat × Value) (val := alV c) (C := fun q w' => (rfI w.heap.size q.1 (nOf c) q.2.1 (zI c zs)).P w' ∧ w.heap.size ≤ q.1) (args := #[.agg #[.slice (some ⟨g0, 0, none⟩) (nOf c) (nOf c)], u]) (Qha hc hzs (D.S.fact (f := QbK g0 0 (List.replicate (nOf c) (0 : Int))) (by simp)) (D.S.fact (f := rfA w0.heap.size c zs u) (by simp))) (by kernel_rfl) fun q aa w hC2 hb2 D => ?_
          obtain ⟨g5, c5, r5⟩ := q
          have D := D.addF (rfI w0.heap.size g5 (nOf c) c5 (zI c zs)) (QaO hC2.1 hgr2) (fun j hj hb => by
            have h1 := hlt2 j hj
            have h2 : some g5 = some (_ : Nat) := hb
            simp only [Option.some.injEq] at h2
            have h3 : _ ≤ g5 := hC2.2
            omega)
          refine Qaw [13] (by kernel_rfl) (by kernel_rfl) rfl (na1 ?_)
          · skip
            refine QbM 13 D (by kernel_rfl) hl (by kernel_rfl) (by kernel_rfl) fun bs aa w D hl => ?_
            refine QaT D (by kernel_rfl) fun S => ?_
            refine Qan ⟨0, [5]⟩ 60 S fun bs aa w S => ?_
            have S := S.sub (F' := [QaD es.b es.o es.l, Qax es.l, rfI w0.heap.size g5 (nOf c) c5 (zI c zs)]) (mem3 (by simp) (by simp) (by simp))
            have S2 := S.to [0, 1, 2, 3] (b5S c [x.v, wv] es R.2 g5 c5) (by kernel_rfl) (by kernel_rfl) (by kernel_rfl) (by kernel_rfl) (by kernel_rfl)
            refine Qai (k' := b5C.k) (by kernel_rfl) ?_
            exact bt_5 w0 c hc zs R es hes hez heb hek he1 g5 c5 [x.v, wv] _ _ _ _ aa _ S2
  · skip
    have hlt1 := fun j hj => D.S.lt (i := j) hj
    have hgr1 := D.S.gr.size
    refine QbU 6 D (by kernel_rfl) (X := Value) (val := id) (C := fun u w' => (rfA w.heap.size c zs u).P w') (args := #[(Qay c).v, .slice fa zs.length fc]) (Qk1 hc hzs hf (D.S.fact (f := QbK fb fo zs) (by simp))) (by kernel_rfl) fun u aa w hC1 hb1 D => ?_
    have D := D.addF (rfA w0.heap.size c zs u) (QaO hC1 hgr1) (fun j hj hb => by
      have h1 := hlt1 j hj
      have h2 := (World.ownsRow.lt hC1 _ hb).1
      omega)
    refine Qaw [2, 12] (by kernel_rfl) (by kernel_rfl) rfl (na2 ?_ ?_)
    · skip
      refine QfV 2 D (by kernel_rfl) (by kernel_rfl) (QkL hc (by kernel_rfl)) fun v0 aa w hC0 hb0 hlt0 D => ?_
      obtain ⟨g0, rfl, hg0, hI0⟩ := hC0
      have D := D.addF (QbK g0 0 (List.replicate (nOf c) (0 : Int))) hI0 (fun j hj hb => by
        have h1 := hlt0 j hj
        have h2 := hb.1
        omega)
      refine Qaw [7, 12] (by kernel_rfl) (by kernel_rfl) rfl (na2 ?_ ?_)
      · skip
        have hlt2 := fun j hj => D.S.lt (i := j) hj
        have hgr2 := D.S.gr.size
        refine QbU 7 D (by kernel_rfl) (X := Nat × Nat × Value) (val := alV c) (C := fun q w' => (rfI w.heap.size q.1 (nOf c) q.2.1 (zI c zs)).P w' ∧ w.heap.size ≤ q.1) (args := #[.agg #[.slice (some ⟨g0, 0, none⟩) (nOf c) (nOf c)], u]) (Qha hc hzs (D.S.fact (f := QbK g0 0 (List.replicate (nOf c) (0 : Int))) (by simp)) (D.S.fact (f := rfA w0.heap.size c zs u) (by simp))) (by kernel_rfl) fun q aa w hC2 hb2 D => ?_
        obtain ⟨g5, c5, r5⟩ := q
        have D := D.addF (rfI w0.heap.size g5 (nOf c) c5 (zI c zs)) (QaO hC2.1 hgr2) (fun j hj hb => by
          have h1 := hlt2 j hj
          have h2 : some g5 = some (_ : Nat) := hb
          simp only [Option.some.injEq] at h2
          have h3 : _ ≤ g5 := hC2.2
          omega)
        refine Qaw [12] (by kernel_rfl) (by kernel_rfl) rfl (na1 ?_)
        · skip
          refine QbM 12 D (by kernel_rfl) (Nat.le_refl _) (by kernel_rfl) (by kernel_rfl) fun bs aa w D hl => ?_
          refine Qaw [13] (by kernel_rfl) (by kernel_rfl) rfl (na1 ?_)
          · skip
            refine QbM 13 D (by kernel_rfl) hl (by kernel_rfl) (by kernel_rfl) fun bs aa w D hl => ?_
            refine QaT D (by kernel_rfl) fun S => ?_
            refine Qan ⟨0, [5]⟩ 60 S fun bs aa w S => ?_
            have S := S.sub (F' := [QaD es.b es.o es.l, Qax es.l, rfI w0.heap.size g5 (nOf c) c5 (zI c zs)]) (mem3 (by simp) (by simp) (by simp))
            have S2 := S.to [0, 1, 2, 3] (b5S c [x.v, wv] es R.2 g5 c5) (by kernel_rfl) (by kernel_rfl) (by kernel_rfl) (by kernel_rfl) (by kernel_rfl)
            refine Qai (k' := b5C.k) (by kernel_rfl) ?_
            exact bt_5 w0 c hc zs R es hes hez heb hek he1 g5 c5 [x.v, wv] _ _ _ _ aa _ S2
      · skip
        refine QbM 12 D (by kernel_rfl) (Nat.le_refl _) (by kernel_rfl) (by kernel_rfl) fun bs aa w D hl => ?_
        refine Qaw [7] (by kernel_rfl) (by kernel_rfl) rfl (na1 ?_)
        · skip
          have hlt2 := fun j hj => D.S.lt (i := j) hj
          have hgr2 := D.S.gr.size
          refine QbU 7 D (by kernel_rfl) (X := Nat × Nat × Value) (val := alV c) (C := fun q w' => (rfI w.heap.size q.1 (nOf c) q.2.1 (zI c zs)).P w' ∧ w.heap.size ≤ q.1) (args := #[.agg #[.slice (some ⟨g0, 0, none⟩) (nOf c) (nOf c)], u]) (Qha hc hzs (D.S.fact (f := QbK g0 0 (List.replicate (nOf c) (0 : Int))) (by simp)) (D.S.fact (f := rfA w0.heap.size c zs u) (by simp))) (by kernel_rfl) fun q aa w hC2 hb2 D => ?_
          obtain ⟨g5, c5, r5⟩ := q
          have D := D.addF (rfI w0.heap.size g5 (nOf c) c5 (zI c zs)) (QaO hC2.1 hgr2) (fun j hj hb => by
            have h1 := hlt2 j hj
            have h2 : some g5 = some (_ : Nat) := hb
            simp only [Option.some.injEq] at h2
            have h3 : _ ≤ g5 := hC2.2
            omega)
          refine Qaw [13] (by kernel_rfl) (by kernel_rfl) rfl (na1 ?_)
          · skip
            refine QbM 13 D (by kernel_rfl) hl (by kernel_rfl) (by kernel_rfl) fun bs aa w D hl => ?_
            refine QaT D (by kernel_rfl) fun S => ?_
            refine Qan ⟨0, [5]⟩ 60 S fun bs aa w S => ?_
            have S := S.sub (F' := [QaD es.b es.o es.l, Qax es.l, rfI w0.heap.size g5 (nOf c) c5 (zI c zs)]) (mem3 (by simp) (by simp) (by simp))
            have S2 := S.to [0, 1, 2, 3] (b5S c [x.v, wv] es R.2 g5 c5) (by kernel_rfl) (by kernel_rfl) (by kernel_rfl) (by kernel_rfl) (by kernel_rfl)
            refine Qai (k' := b5C.k) (by kernel_rfl) ?_
            exact bt_5 w0 c hc zs R es hes hez heb hek he1 g5 c5 [x.v, wv] _ _ _ _ aa _ S2
    · skip
      refine QbM 12 D (by kernel_rfl) (Nat.le_refl _) (by kernel_rfl) (by kernel_rfl) fun bs aa w D hl => ?_
      refine Qaw [2] (by kernel_rfl) (by kernel_rfl) rfl (na1 ?_)
      · skip
        refine QfV 2 D (by kernel_rfl) (by kernel_rfl) (QkL hc (by kernel_rfl)) fun v0 aa w hC0 hb0 hlt0 D => ?_
        obtain ⟨g0, rfl, hg0, hI0⟩ := hC0
        have D := D.addF (QbK g0 0 (List.replicate (nOf c) (0 : Int))) hI0 (fun j hj hb => by
          have h1 := hlt0 j hj
          have h2 := hb.1
          omega)
        refine Qaw [7] (by kernel_rfl) (by kernel_rfl) rfl (na1 ?_)
        · skip
          have hlt2 := fun j hj => D.S.lt (i := j) hj
          have hgr2 := D.S.gr.size
          refine QbU 7 D (by kernel_rfl) (X := Nat × Nat × Value) (val := alV c) (C := fun q w' => (rfI w.heap.size q.1 (nOf c) q.2.1 (zI c zs)).P w' ∧ w.heap.size ≤ q.1) (args := #[.agg #[.slice (some ⟨g0, 0, none⟩) (nOf c) (nOf c)], u]) (Qha hc hzs (D.S.fact (f := QbK g0 0 (List.replicate (nOf c) (0 : Int))) (by simp)) (D.S.fact (f := rfA w0.heap.size c zs u) (by simp))) (by kernel_rfl) fun q aa w hC2 hb2 D => ?_
          obtain ⟨g5, c5, r5⟩ := q
          have D := D.addF (rfI w0.heap.size g5 (nOf c) c5 (zI c zs)) (QaO hC2.1 hgr2) (fun j hj hb => by
            have h1 := hlt2 j hj
            have h2 : some g5 = some (_ : Nat) := hb
            simp only [Option.some.injEq] at h2
            have h3 : _ ≤ g5 := hC2.2
            omega)
          refine Qaw [13] (by kernel_rfl) (by kernel_rfl) rfl (na1 ?_)
          · skip
            refine QbM 13 D (by kernel_rfl) hl (by kernel_rfl) (by kernel_rfl) fun bs aa w D hl => ?_
            refine QaT D (by kernel_rfl) fun S => ?_
            refine Qan ⟨0, [5]⟩ 60 S fun bs aa w S => ?_
            have S := S.sub (F' := [QaD es.b es.o es.l, Qax es.l, rfI w0.heap.size g5 (nOf c) c5 (zI c zs)]) (mem3 (by simp) (by simp) (by simp))
            have S2 := S.to [0, 1, 2, 3] (b5S c [x.v, wv] es R.2 g5 c5) (by kernel_rfl) (by kernel_rfl) (by kernel_rfl) (by kernel_rfl) (by kernel_rfl)
            refine Qai (k' := b5C.k) (by kernel_rfl) ?_
            exact bt_5 w0 c hc zs R es hes hez heb hek he1 g5 c5 [x.v, wv] _ _ _ _ aa _ S2
  · skip
    refine QbM 12 D (by kernel_rfl) (Nat.le_refl _) (by kernel_rfl) (by kernel_rfl) fun bs aa w D hl => ?_
    refine Qaw [2, 6] (by kernel_rfl) (by kernel_rfl) rfl (na2 ?_ ?_)
    · skip
      refine QfV 2 D (by kernel_rfl) (by kernel_rfl) (QkL hc (by kernel_rfl)) fun v0 aa w hC0 hb0 hlt0 D => ?_
      obtain ⟨g0, rfl, hg0, hI0⟩ := hC0
      have D := D.addF (QbK g0 0 (List.replicate (nOf c) (0 : Int))) hI0 (fun j hj hb => by
        have h1 := hlt0 j hj
        have h2 := hb.1
        omega)
      refine Qaw [6] (by kernel_rfl) (by kernel_rfl) rfl (na1 ?_)
      · skip
        have hlt1 := fun j hj => D.S.lt (i := j) hj
        have hgr1 := D.S.gr.size
        refine QbU 6 D (by kernel_rfl) (X := Value) (val := id) (C := fun u w' => (rfA w.heap.size c zs u).P w') (args := #[(Qay c).v, .slice fa zs.length fc]) (Qk1 hc hzs hf (D.S.fact (f := QbK fb fo zs) (by simp))) (by kernel_rfl) fun u aa w hC1 hb1 D => ?_
        have D := D.addF (rfA w0.heap.size c zs u) (QaO hC1 hgr1) (fun j hj hb => by
          have h1 := hlt1 j hj
          have h2 := (World.ownsRow.lt hC1 _ hb).1
          omega)
        refine Qaw [7] (by kernel_rfl) (by kernel_rfl) rfl (na1 ?_)
        · skip
          have hlt2 := fun j hj => D.S.lt (i := j) hj
          have hgr2 := D.S.gr.size
          refine QbU 7 D (by kernel_rfl) (X := Nat × Nat × Value) (val := alV c) (C := fun q w' => (rfI w.heap.size q.1 (nOf c) q.2.1 (zI c zs)).P w' ∧ w.heap.size ≤ q.1) (args := #[.agg #[.slice (some ⟨g0, 0, none⟩) (nOf c) (nOf c)], u]) (Qha hc hzs (D.S.fact (f := QbK g0 0 (List.replicate (nOf c) (0 : Int))) (by simp)) (D.S.fact (f := rfA w0.heap.size c zs u) (by simp))) (by kernel_rfl) fun q aa w hC2 hb2 D => ?_
          obtain ⟨g5, c5, r5⟩ := q
          have D := D.addF (rfI w0.heap.size g5 (nOf c) c5 (zI c zs)) (QaO hC2.1 hgr2) (fun j hj hb => by
            have h1 := hlt2 j hj
            have h2 : some g5 = some (_ : Nat) := hb
            simp only [Option.some.injEq] at h2
            have h3 : _ ≤ g5 := hC2.2
            omega)
          refine Qaw [13] (by kernel_rfl) (by kernel_rfl) rfl (na1 ?_)
          · skip
            refine QbM 13 D (by kernel_rfl) hl (by kernel_rfl) (by kernel_rfl) fun bs aa w D hl => ?_
            refine QaT D (by kernel_rfl) fun S => ?_
            refine Qan ⟨0, [5]⟩ 60 S fun bs aa w S => ?_
            have S := S.sub (F' := [QaD es.b es.o es.l, Qax es.l, rfI w0.heap.size g5 (nOf c) c5 (zI c zs)]) (mem3 (by simp) (by simp) (by simp))
            have S2 := S.to [0, 1, 2, 3] (b5S c [x.v, wv] es R.2 g5 c5) (by kernel_rfl) (by kernel_rfl) (by kernel_rfl) (by kernel_rfl) (by kernel_rfl)
            refine Qai (k' := b5C.k) (by kernel_rfl) ?_
            exact bt_5 w0 c hc zs R es hes hez heb hek he1 g5 c5 [x.v, wv] _ _ _ _ aa _ S2
    · skip
      have hlt1 := fun j hj => D.S.lt (i := j) hj
      have hgr1 := D.S.gr.size
      refine QbU 6 D (by kernel_rfl) (X := Value) (val := id) (C := fun u w' => (rfA w.heap.size c zs u).P w') (args := #[(Qay c).v, .slice fa zs.length fc]) (Qk1 hc hzs hf (D.S.fact (f := QbK fb fo zs) (by simp))) (by kernel_rfl) fun u aa w hC1 hb1 D => ?_
      have D := D.addF (rfA w0.heap.size c zs u) (QaO hC1 hgr1) (fun j hj hb => by
        have h1 := hlt1 j hj
        have h2 := (World.ownsRow.lt hC1 _ hb).1
        omega)
      refine Qaw [2] (by kernel_rfl) (by kernel_rfl) rfl (na1 ?_)
      · skip
        refine QfV 2 D (by kernel_rfl) (by kernel_rfl) (QkL hc (by kernel_rfl)) fun v0 aa w hC0 hb0 hlt0 D => ?_
        obtain ⟨g0, rfl, hg0, hI0⟩ := hC0
        have D := D.addF (QbK g0 0 (List.replicate (nOf c) (0 : Int))) hI0 (fun j hj hb => by
          have h1 := hlt0 j hj
          have h2 := hb.1
          omega)
        refine Qaw [7] (by kernel_rfl) (by kernel_rfl) rfl (na1 ?_)
        · skip
          have hlt2 := fun j hj => D.S.lt (i := j) hj
          have hgr2 := D.S.gr.size
          refine QbU 7 D (by kernel_rfl) (X := Nat × Nat × Value) (val := alV c) (C := fun q w' => (rfI w.heap.size q.1 (nOf c) q.2.1 (zI c zs)).P w' ∧ w.heap.size ≤ q.1) (args := #[.agg #[.slice (some ⟨g0, 0, none⟩) (nOf c) (nOf c)], u]) (Qha hc hzs (D.S.fact (f := QbK g0 0 (List.replicate (nOf c) (0 : Int))) (by simp)) (D.S.fact (f := rfA w0.heap.size c zs u) (by simp))) (by kernel_rfl) fun q aa w hC2 hb2 D => ?_
          obtain ⟨g5, c5, r5⟩ := q
          have D := D.addF (rfI w0.heap.size g5 (nOf c) c5 (zI c zs)) (QaO hC2.1 hgr2) (fun j hj hb => by
            have h1 := hlt2 j hj
            have h2 : some g5 = some (_ : Nat) := hb
            simp only [Option.some.injEq] at h2
            have h3 : _ ≤ g5 := hC2.2
            omega)
          refine Qaw [13] (by kernel_rfl) (by kernel_rfl) rfl (na1 ?_)
          · skip
            refine QbM 13 D (by kernel_rfl) hl (by kernel_rfl) (by kernel_rfl) fun bs aa w D hl => ?_
            refine QaT D (by kernel_rfl) fun S => ?_
            refine Qan ⟨0, [5]⟩ 60 S fun bs aa w S => ?_
            have S := S.sub (F' := [QaD es.b es.o es.l, Qax es.l, rfI w0.heap.size g5 (nOf c) c5 (zI c zs)]) (mem3 (by simp) (by simp) (by simp))
            have S2 := S.to [0, 1, 2, 3] (b5S c [x.v, wv] es R.2 g5 c5) (by kernel_rfl) (by kernel_rfl) (by kernel_rfl) (by kernel_rfl) (by kernel_rfl)
            refine Qai (k' := b5C.k) (by kernel_rfl) ?_
            exact bt_5 w0 c hc zs R es hes hez heb hek he1 g5 c5 [x.v, wv] _ _ _ _ aa _ S2
theorem rnewO_t (n : Nat) (hn : n ≤ 512) (w0 : World) : Calls Try.prog 19 #[.int .i64 (n : Int)] w0 fun y w' => ∃ g, y = .returned (.agg #[.slice (some ⟨g, 0, none⟩) n n]) ∧ (w'.ownsRow w0.heap.size 3 1 (.slice (some ⟨g, 0, none⟩) n n) n ((List.replicate n (0 : Int)).map (Value.int .i64)) ∧ w0.heap.size ≤ g) ∧ Below w0.heap.size w0 w' := by
  refine Qav [] [] (by intro f hf; cases hf) Try.func19 rfl rfl fun aa S => ?_
  refine Qam 1 60 1 S fun bs aa w S => ?_
  refine sy_mk (t := 26) (u := .int .i64 (n : Int)) (v := .int .i64 (n : Int)) (n := n) (cs := List.replicate n (Value.int .i64 0)) (e := 3) S (by kernel_rfl) (mk_rI n hn) fun g aa w hb0 hnb hnf hh hb S => ?_
  have S := S.add (Qah w0.heap.size 3 1 (.slice (some ⟨g, 0, none⟩) n n) n ((List.replicate n (0 : Int)).map (Value.int .i64))) (QeD (by rw [List.map_replicate]; exact hh) (by simp) hb0 (by unfold maxLen; omega)) (fun j hj hb => by
    have h2 : some g = some _ := hb
    simp only [Option.some.injEq] at h2
    exact hnb j hj h2.symm)
  refine Qac S fun bs aa w S => ?_
  have hrow := S.fact (f := Qah w0.heap.size 3 1 (.slice (some ⟨g, 0, none⟩) n n) n ((List.replicate n (0 : Int)).map (Value.int .i64))) (by simp)
  exact Qaf S (by kernel_rfl) (by kernel_rfl) fun hg => ⟨g, rfl, ⟨hrow, hb0⟩, Qag hg⟩
def mV (R : List (Int × Ws) × Nat) (zs : List Int) (j : Nat) : Nat → Int := Qdi j (vvB R.1 zs) (fun _ => 0)
def zV (c : Cf) (R : List (Int × Ws) × Nat) (V : Nat → Int) (j : Nat) : List Int := bL (kOf c) (nOf c) (Qf3 R.1) (R.2 : Int) V (Qdi j (wwB R.1) (fun _ => 0))
def zQ (c : Cf) (zs : List Int) (R : List (Int × Ws) × Nat) (j : Nat) : List Int := zV c R (mV R zs j) j
def QiT (l : List Et) (i : Nat) : Int := if i = 0 then 0 else (l.getD (i - 1) e00).ver
theorem up_up (V : Nat → Int) (q : Nat) (a b : Int) : upV (upV V q a) q b = upV V q b := by
  funext j
  unfold upV
  by_cases h : j = q
  · rw [if_pos h, if_pos h]
  · rw [if_neg h, if_neg h, if_neg h]
noncomputable def q1C : Cfg := ⟨goZ 200 [] [.code (QaI Try.f11)], ⟨0, [], []⟩⟩
noncomputable def q2C : Cfg := ⟨goZ 200 [9] [.code (QaI Try.f11)], ⟨0, [], []⟩⟩
noncomputable def q14 (m : Nat) : List It := goM 200 2 [1, 0] (.code (Qa_ q2C) :: .rnd m (Qa_ q2C) :: q2C.k.tail)
noncomputable def qKB (c : Cf) (g : Nat) : List Bx := [⟨25, lyC c⟩, ⟨37, [.slice none 0 0]⟩, ⟨37, [.slice (some ⟨g, 0, none⟩) (nOf c) (nOf c)]⟩]
noncomputable def q1S (c : Cf) (fv : Value) (es : Er) (g i : Nat) : SS := ⟨99, [(1, .v fv), (3, .p 0 0), (6, .p 1 0), (8, .v es.v), (10, .p 2 0), (11, .v (.int .i64 (i : Int)))], qKB c g⟩
noncomputable def q2S (c : Cf) (fv : Value) (es : Er) (g j : Nat) : SS := ⟨99, [(1, .v fv), (3, .p 0 0), (6, .p 1 0), (8, .v es.v), (10, .p 2 0), (12, .v (.int .i64 (j : Int)))], qKB c g⟩
section
variable (w0 : World) (c : Cf) (hc : c.ok) (zs : List Int) (R : List (Int × Ws) × Nat) (es : Er) (hes : es.l.map prE = R.1) (hez : es.l.length = 0 ∨ es.a = some ⟨es.b, es.o, none⟩) (heb : es.l.length = 0 ∨ w0.heap.size ≤ es.b) (hek : ∀ e ∈ es.l, e.ok ∧ (e.ws.length = 0 ∨ w0.heap.size ≤ e.b)) (he1 : es.l.length ≤ 100000 ∧ ∀ e ∈ es.l, e.ok ∧ e.ws.length ≤ 100000) (hzs : zs.length ≤ 40) (fa : Option Addr) (fc fb fo : Nat) (hf : zs.length = 0 ∨ fa = some ⟨fb, fo, none⟩) (g : Nat) (hg : w0.heap.size ≤ g) (hgf : ∀ f ∈ [QaD es.b es.o es.l, Qax es.l, QbK fb fo zs], ¬f.bl g)
include w0 c hc zs R es hes hez heb hek he1 hzs fa fc fb fo hf g hg hgf
section
variable (m j : Nat) (hj : j < c.l.toNat)
include m j hj
theorem q14_n (hp : Qbi R.1 (j : Int) = none) (V : Nat → Int) (hV : V = mV R zs (j + 1)) (ih : ∀ (x0 x1 x2 : Nat) (aa : Act) (w : World) (S : Sy w0 [] [x0, x1, x2] (q2S c (.slice fa zs.length fc) es g (j + 1)) [QaD es.b es.o es.l, Qax es.l, QbK fb fo zs, rfI w0.heap.size g (nOf c) (nOf c) (zQ c zs R (j + 1))] aa w), post Try.prog (.rnd (m) (Qa_ q2C) :: q2C.k.tail) (bodyPost Try.prog Try.f11 (Qce w0 c zs R)) .normal aa w) (x0 x1 x2 : Nat) (aa : Act) (w : World) (S : Sy w0 [] [x0, x1, x2] (q2S c (.slice fa zs.length fc) es g j) [QaD es.b es.o es.l, Qax es.l, QbK fb fo zs, rfI w0.heap.size g (nOf c) (nOf c) (zV c R V j)] aa w) : post Try.prog (q14 m) (bodyPost Try.prog Try.f11 (Qce w0 c zs R)) .normal aa w := by
  obtain ⟨n1, n2, n3, n4, n5, n6, n7, n8, n9⟩ := Qa2 hc
  have n0 : kOf c ≤ nOf c := by unfold nOf; omega
  have e2 : Qdi j (wwB R.1) (fun _ => 0) = Qdi (j + 1) (wwB R.1) (fun _ => 0) := Qgq (by unfold wwB; rw [hp])
  have e : zV c R V j = zQ c zs R (j + 1) := by unfold zQ zV; rw [hV, e2]
  rw [e] at S
  refine Qam (c := ⟨q14 m, q2S c (.slice fa zs.length fc) es g j⟩) 14 60 2 S fun bs aa w S => ?_
  have hla := Qgd w es hez (fun e he => (hek e he).1) (by omega) (fun e he => by have := (he1.2 e he).2; omega) (j : Int) (S.fact (f := QaD es.b es.o es.l) (by simp)) (S.fact (f := Qax es.l) (by simp))
  rw [hes, hp] at hla
  refine Qap S hla (by kernel_rfl) fun aa w hb S => ?_
  refine Qam 11 60 2 S fun bs aa w S => ?_
  refine QaM 58 S (by rw [IntKind.wrap_i64]; omega : IntKind.i64.wrap ((j : Int) + 1) = ((j + 1 : Nat) : Int)) fun S => ?_
  refine Qan ⟨0, [999]⟩ 50 S fun bs aa w S => ?_
  have S := S.sub (F' := [QaD es.b es.o es.l, Qax es.l, QbK fb fo zs, rfI w0.heap.size g (nOf c) (nOf c) (zQ c zs R (j + 1))]) (by intro f hf; simp only [List.mem_cons, List.not_mem_nil, or_false] at hf; rcases hf with rfl | rfl | rfl | rfl <;> simp)
  have S2 := S.to [0, 1, 2] (q2S c (.slice fa zs.length fc) es g (j + 1)) (by kernel_rfl) (by kernel_rfl) (by kernel_rfl) (by kernel_rfl) (by kernel_rfl)
  refine Qai (k' := (.rnd (m) (Qa_ q2C) :: q2C.k.tail)) (by kernel_rfl) ?_
  exact ih _ _ _ aa w S2
theorem q14_s (la lb lc : Int) (hp : Qbi R.1 (j : Int) = some (la, lb, lc)) (V : Nat → Int) (hV : upV V j lb = mV R zs (j + 1)) (ih : ∀ (x0 x1 x2 : Nat) (aa : Act) (w : World) (S : Sy w0 [] [x0, x1, x2] (q2S c (.slice fa zs.length fc) es g (j + 1)) [QaD es.b es.o es.l, Qax es.l, QbK fb fo zs, rfI w0.heap.size g (nOf c) (nOf c) (zQ c zs R (j + 1))] aa w), post Try.prog (.rnd (m) (Qa_ q2C) :: q2C.k.tail) (bodyPost Try.prog Try.f11 (Qce w0 c zs R)) .normal aa w) (x0 x1 x2 : Nat) (aa : Act) (w : World) (S : Sy w0 [] [x0, x1, x2] (q2S c (.slice fa zs.length fc) es g j) [QaD es.b es.o es.l, Qax es.l, QbK fb fo zs, rfI w0.heap.size g (nOf c) (nOf c) (zV c R V j)] aa w) : post Try.prog (q14 m) (bodyPost Try.prog Try.f11 (Qce w0 c zs R)) .normal aa w := by
  obtain ⟨n1, n2, n3, n4, n5, n6, n7, n8, n9⟩ := Qa2 hc
  have n0 : kOf c ≤ nOf c := by unfold nOf; omega
  obtain ⟨v1, v2, v3⟩ := QdW hc (q := j) (by omega)
  have e1 : ((zV c R V j)).set (kOf c + 4 * j + 1) lb = (zV c R (mV R zs (j + 1)) j) := by unfold zV; rw [QiY (by omega) j (by omega), hV]
  have e2 : ((zV c R (mV R zs (j + 1)) j)).set (kOf c + 4 * j) (wrap64 (2 * lc)) = (zQ c zs R (j + 1)) := by unfold zQ zV; rw [Qlw (by omega) j (by omega), Qd6 (by unfold wwB; rw [hp])]
  refine Qam (c := ⟨q14 m, q2S c (.slice fa zs.length fc) es g j⟩) 14 60 2 S fun bs aa w S => ?_
  have hla := Qgd w es hez (fun e he => (hek e he).1) (by omega) (fun e he => by have := (he1.2 e he).2; omega) (j : Int) (S.fact (f := QaD es.b es.o es.l) (by simp)) (S.fact (f := Qax es.l) (by simp))
  rw [hes, hp] at hla
  refine Qap S hla (by kernel_rfl) fun aa w hb S => ?_
  refine Qac S fun bs aa w S => ?_
  letI : HF := ⟨[]⟩
  refine QaE [0, 2, 3] (by kernel_rfl) (by kernel_rfl) S (by kernel_rfl) (fun aa w D => ?_) (fun f hf => by cases hf)
  refine Qc4 4 D (by kernel_rfl) (by kernel_rfl) (by kernel_rfl) (Qia (Qay c) (j : Int) w (QfW hc)) (by kernel_rfl) fun aa w hb D => ?_
  refine Qaz 7 D (by kernel_rfl) (by kernel_rfl) (by kernel_rfl) (b := g) (off := 0) (len := (nOf c)) (n := kOf c + 4 * j + 1) (size := 1) (ix := QdD (Qay c) (j : Int)) (by kernel_rfl) v1 v3 fun aa D => ?_
  have hrow := D.S.fact (f := rfI w0.heap.size g (nOf c) (nOf c) (zV c R V j)) (by simp)
  have hfa := (D.S.fs (rfI w0.heap.size g (nOf c) (nOf c) (zV c R V j)) (by simp)).2
  obtain ⟨hst, hh⟩ := QcG hrow (Qbl _ _ _ _ _ _).symm (kOf c + 4 * j + 1) v3 lb
  rw [e1] at hh
  refine Qaw [8] (by kernel_rfl) (by kernel_rfl) rfl (na1 ?_)
  refine QfU 8 [QaD es.b es.o es.l, Qax es.l, QbK fb fo zs] D (by kernel_rfl) (ty := 3) (ad := ⟨g, 0 + (kOf c + 4 * j + 1) * 1, none⟩) (x := .v (.int .i64 lb)) (v := .int .i64 lb) (by kernel_rfl) rfl hst (QcH w g _ _) (Or.inr hg) (fun f hf => ⟨by simp only [List.mem_cons, List.not_mem_nil, or_false] at hf ⊢; rcases hf with rfl | rfl | rfl <;> simp, hgf f hf⟩) (fun f hf => by cases hf) (fun i hi e => hfa i hi (by show some g = some _; rw [e])) fun aa D => ?_
  have D := D.addF (rfI w0.heap.size g (nOf c) (nOf c) (zV c R (mV R zs (j + 1)) j)) hh (fun i hi hb => hfa i hi hb)
  refine QaT D (by kernel_rfl) fun S => ?_
  refine Qac S fun bs aa w S => ?_
  letI : HF := ⟨[]⟩
  refine QaE [0, 2] (by kernel_rfl) (by kernel_rfl) S (by kernel_rfl) (fun aa w D => ?_) (fun f hf => by cases hf)
  refine Qc4 4 D (by kernel_rfl) (by kernel_rfl) (by kernel_rfl) (Qj9 (Qay c) (j : Int) w (QfW hc)) (by kernel_rfl) fun aa w hb D => ?_
  refine Qc4 6 D (by kernel_rfl) (by kernel_rfl) (by kernel_rfl) ((Qkg lc w).mono fun e w' h => ⟨h.1, h.2 ▸ Below.refl _ _⟩) (by kernel_rfl) fun aa w hb D => ?_
  refine Qaz 7 D (by kernel_rfl) (by kernel_rfl) (by kernel_rfl) (b := g) (off := 0) (len := (nOf c)) (n := kOf c + 4 * j) (size := 1) (ix := Qfy (Qay c) (j : Int)) (by kernel_rfl) v2 (by omega) fun aa D => ?_
  have hrow := D.S.fact (f := rfI w0.heap.size g (nOf c) (nOf c) (zV c R (mV R zs (j + 1)) j)) (by simp)
  have hfa := (D.S.fs (rfI w0.heap.size g (nOf c) (nOf c) (zV c R (mV R zs (j + 1)) j)) (by simp)).2
  obtain ⟨hst, hh⟩ := QcG hrow (Qbl _ _ _ _ _ _).symm (kOf c + 4 * j) (by omega) (wrap64 (2 * lc))
  rw [e2] at hh
  refine Qaw [8] (by kernel_rfl) (by kernel_rfl) rfl (na1 ?_)
  refine QfU 8 [QaD es.b es.o es.l, Qax es.l, QbK fb fo zs] D (by kernel_rfl) (ty := 3) (ad := ⟨g, 0 + (kOf c + 4 * j) * 1, none⟩) (x := .v (.int .i64 (wrap64 (2 * lc)))) (v := .int .i64 (wrap64 (2 * lc))) (by kernel_rfl) rfl hst (QcH w g _ _) (Or.inr hg) (fun f hf => ⟨by simp only [List.mem_cons, List.not_mem_nil, or_false] at hf ⊢; rcases hf with rfl | rfl | rfl <;> simp, hgf f hf⟩) (fun f hf => by cases hf) (fun i hi e => hfa i hi (by show some g = some _; rw [e])) fun aa D => ?_
  have D := D.addF (rfI w0.heap.size g (nOf c) (nOf c) (zQ c zs R (j + 1))) hh (fun i hi hb => hfa i hi hb)
  refine QaT D (by kernel_rfl) fun S => ?_
  refine Qam 11 60 2 S fun bs aa w S => ?_
  refine QaM 58 S (by rw [IntKind.wrap_i64]; omega : IntKind.i64.wrap ((j : Int) + 1) = ((j + 1 : Nat) : Int)) fun S => ?_
  refine Qan ⟨0, [999]⟩ 50 S fun bs aa w S => ?_
  have S := S.sub (F' := [QaD es.b es.o es.l, Qax es.l, QbK fb fo zs, rfI w0.heap.size g (nOf c) (nOf c) (zQ c zs R (j + 1))]) (by intro f hf; simp only [List.mem_cons, List.not_mem_nil, or_false] at hf; rcases hf with rfl | rfl | rfl | rfl <;> simp)
  have S2 := S.to [0, 1, 2] (q2S c (.slice fa zs.length fc) es g (j + 1)) (by kernel_rfl) (by kernel_rfl) (by kernel_rfl) (by kernel_rfl) (by kernel_rfl)
  refine Qai (k' := (.rnd (m) (Qa_ q2C) :: q2C.k.tail)) (by kernel_rfl) ?_
  exact ih _ _ _ aa w S2
theorem q14_a (V : Nat → Int) (hV : V = upV (mV R zs j) j (zs.getD j 0)) (ih : ∀ (x0 x1 x2 : Nat) (aa : Act) (w : World) (S : Sy w0 [] [x0, x1, x2] (q2S c (.slice fa zs.length fc) es g (j + 1)) [QaD es.b es.o es.l, Qax es.l, QbK fb fo zs, rfI w0.heap.size g (nOf c) (nOf c) (zQ c zs R (j + 1))] aa w), post Try.prog (.rnd (m) (Qa_ q2C) :: q2C.k.tail) (bodyPost Try.prog Try.f11 (Qce w0 c zs R)) .normal aa w) (x0 x1 x2 : Nat) (aa : Act) (w : World) (S : Sy w0 [] [x0, x1, x2] (q2S c (.slice fa zs.length fc) es g j) [QaD es.b es.o es.l, Qax es.l, QbK fb fo zs, rfI w0.heap.size g (nOf c) (nOf c) (zV c R V j)] aa w) : post Try.prog (q14 m) (bodyPost Try.prog Try.f11 (Qce w0 c zs R)) .normal aa w := by
  cases hp : Qbi R.1 (j : Int) with
  | none => exact q14_n w0 c hc zs R es hes hez heb hek he1 hzs fa fc fb fo hf g hg hgf m j hj hp V (by rw [hV]; exact Qd6 (by unfold vvB; rw [hp])) ih x0 x1 x2 aa w S
  | some q =>
    obtain ⟨la, lb, lc⟩ := q
    exact q14_s w0 c hc zs R es hes hez heb hek he1 hzs fa fc fb fo hf g hg hgf m j hj la lb lc hp V (by rw [hV, up_up]; exact Qd6 (by unfold vvB; rw [hp])) ih x0 x1 x2 aa w S
theorem q2_s (ih : ∀ (x0 x1 x2 : Nat) (aa : Act) (w : World) (S : Sy w0 [] [x0, x1, x2] (q2S c (.slice fa zs.length fc) es g (j + 1)) [QaD es.b es.o es.l, Qax es.l, QbK fb fo zs, rfI w0.heap.size g (nOf c) (nOf c) (zQ c zs R (j + 1))] aa w), post Try.prog (.rnd (m) (Qa_ q2C) :: q2C.k.tail) (bodyPost Try.prog Try.f11 (Qce w0 c zs R)) .normal aa w) (x0 x1 x2 : Nat) (aa : Act) (w : World) (S : Sy w0 [] [x0, x1, x2] (q2S c (.slice fa zs.length fc) es g (j)) [QaD es.b es.o es.l, Qax es.l, QbK fb fo zs, rfI w0.heap.size g (nOf c) (nOf c) (zQ c zs R (j))] aa w) : post Try.prog (.rnd (m + 1) (Qa_ q2C) :: q2C.k.tail) (bodyPost Try.prog Try.f11 (Qce w0 c zs R)) .normal aa w := by
  obtain ⟨n1, n2, n3, n4, n5, n6, n7, n8, n9⟩ := Qa2 hc
  have n0 : kOf c ≤ nOf c := by unfold nOf; omega
  obtain ⟨v1, v2, v3⟩ := QdW hc (q := j) (by omega)
  have e1 : ((zQ c zs R (j))).set (kOf c + 4 * j + 1) (zs.getD j 0) = (zV c R (upV (mV R zs j) j (zs.getD j 0)) j) := by unfold zQ zV; rw [QiY (by omega) j (by omega)]
  refine Qam (c := ⟨(.rnd (m + 1) (Qa_ q2C) :: q2C.k.tail), q2S c (.slice fa zs.length fc) es g j⟩) 10 50 4 S fun bs aa w S => ?_
  refine QaM 55 S n3 fun S => ?_
  refine Qad 1 S fun bs aa w S => ?_
  refine Qab 56 S (decide_eq_true (by omega) : decide ((j : Int) < (c.l.toNat : Int)) = true) fun S => ?_
  refine Qam 12 60 4 S fun bs aa w S => ?_
  by_cases hl : j < zs.length
  · refine Qab 62 S (decide_eq_true (by omega) : decide ((j : Int) < (zs.length : Int)) = true) fun S => ?_
    refine Qac S fun bs aa w S => ?_
    letI : HF := ⟨[QbK fb fo zs]⟩
    refine QaE [0, 2] (by kernel_rfl) (by kernel_rfl) S (by kernel_rfl) (fun aa w D => ?_) (fun f hf => by have e1 : f = QbK fb fo zs := List.mem_singleton.1 hf; subst e1; simp)
    refine Qaz 7 D (by kernel_rfl) (by kernel_rfl) (by kernel_rfl) (b := fb) (off := fo) (len := zs.length) (n := j) (size := 1) (ix := (j : Int)) (by rw [← hf.resolve_left (by omega)]; kernel_rfl) rfl hl fun aa D => ?_
    refine QaH 8 D (by kernel_rfl) (by kernel_rfl) (by kernel_rfl) (ty := 3) (ad := ⟨fb, fo + j * 1, none⟩) (v := .int .i64 (zs.getD j 0)) (fun W hW => QaP (by kernel_rfl) (by rw [Nat.mul_one]; exact (show QbR W fb fo zs from hW (QbK fb fo zs) (by show _ ∈ [QbK fb fo zs]; simp)) j hl)) (by kernel_rfl) fun aa D => ?_
    refine Qc4 4 D (by kernel_rfl) (by kernel_rfl) (by kernel_rfl) (Qia (Qay c) (j : Int) w (QfW hc)) (by kernel_rfl) fun aa w hb D => ?_
    refine Qaz 9 D (by kernel_rfl) (by kernel_rfl) (by kernel_rfl) (b := g) (off := 0) (len := (nOf c)) (n := kOf c + 4 * j + 1) (size := 1) (ix := QdD (Qay c) (j : Int)) (by kernel_rfl) v1 v3 fun aa D => ?_
    have hrow := D.S.fact (f := rfI w0.heap.size g (nOf c) (nOf c) (zQ c zs R (j))) (by simp)
    have hfa := (D.S.fs (rfI w0.heap.size g (nOf c) (nOf c) (zQ c zs R (j))) (by simp)).2
    obtain ⟨hst, hh⟩ := QcG hrow (Qbl _ _ _ _ _ _).symm (kOf c + 4 * j + 1) v3 (zs.getD j 0)
    rw [e1] at hh
    refine Qaw [10] (by kernel_rfl) (by kernel_rfl) rfl (na1 ?_)
    refine QfU 10 [QaD es.b es.o es.l, Qax es.l, QbK fb fo zs] D (by kernel_rfl) (ty := 3) (ad := ⟨g, 0 + (kOf c + 4 * j + 1) * 1, none⟩) (x := .v (.int .i64 (zs.getD j 0))) (v := .int .i64 (zs.getD j 0)) (by kernel_rfl) rfl hst (QcH w g _ _) (Or.inr hg) (fun f hf => ⟨by simp only [List.mem_cons, List.not_mem_nil, or_false] at hf ⊢; rcases hf with rfl | rfl | rfl <;> simp, hgf f hf⟩) (fun f hf => by have e1 : f = QbK fb fo zs := List.mem_singleton.1 hf; subst e1; simp) (fun i hi e => hfa i hi (by show some g = some _; rw [e])) fun aa D => ?_
    have D := D.addF (rfI w0.heap.size g (nOf c) (nOf c) (zV c R (upV (mV R zs j) j (zs.getD j 0)) j)) hh (fun i hi hb => hfa i hi hb)
    refine QaT D (by kernel_rfl) fun S => ?_
    refine Qan ⟨0, [14]⟩ 60 S fun bs aa w S => ?_
    have S := S.sub (F' := [QaD es.b es.o es.l, Qax es.l, QbK fb fo zs, rfI w0.heap.size g (nOf c) (nOf c) (zV c R (upV (mV R zs j) j (zs.getD j 0)) j)]) (by intro f hf; simp only [List.mem_cons, List.not_mem_nil, or_false] at hf; rcases hf with rfl | rfl | rfl | rfl <;> simp)
    have S2 := S.to [0, 1, 2] (q2S c (.slice fa zs.length fc) es g j) (by kernel_rfl) (by kernel_rfl) (by kernel_rfl) (by kernel_rfl) (by kernel_rfl)
    refine Qai (k' := q14 m) (by kernel_rfl) ?_
    exact q14_a w0 c hc zs R es hes hez heb hek he1 hzs fa fc fb fo hf g hg hgf m j hj _ rfl ih _ _ _ aa w S2
  · have e0 : (zQ c zs R (j)) = (zV c R (upV (mV R zs j) j (zs.getD j 0)) j) := by
      have e : upV (mV R zs j) j (zs.getD j 0) = mV R zs j := by
        funext q
        unfold upV
        by_cases h : q = j
        · rw [if_pos h, h]
          unfold mV Qdi
          rw [if_neg (by omega)]
          simp [List.getD, List.getElem?_eq_none (Nat.not_lt.1 hl)]
        · rw [if_neg h]
      unfold zQ; rw [e]
    refine Qab 62 S (decide_eq_false (by omega) : decide ((j : Int) < (zs.length : Int)) = false) fun S => ?_
    refine Qan ⟨0, [14]⟩ 60 S fun bs aa w S => ?_
    have S2 := S.to [0, 1, 2] (q2S c (.slice fa zs.length fc) es g j) (by kernel_rfl) (by kernel_rfl) (by kernel_rfl) (by kernel_rfl) (by kernel_rfl)
    rw [e0] at S2
    refine Qai (k' := q14 m) (by kernel_rfl) ?_
    exact q14_a w0 c hc zs R es hes hez heb hek he1 hzs fa fc fb fo hf g hg hgf m j hj _ rfl ih _ _ _ aa w S2
end
theorem q2_e (m : Nat) (x0 x1 x2 : Nat) (aa : Act) (w : World) (S : Sy w0 [] [x0, x1, x2] (q2S c (.slice fa zs.length fc) es g (c.l.toNat)) [QaD es.b es.o es.l, Qax es.l, QbK fb fo zs, rfI w0.heap.size g (nOf c) (nOf c) (zQ c zs R (c.l.toNat))] aa w) : post Try.prog (.rnd (m + 1) (Qa_ q2C) :: q2C.k.tail) (bodyPost Try.prog Try.f11 (Qce w0 c zs R)) .normal aa w := by
  obtain ⟨n1, n2, n3, n4, n5, n6, n7, n8, n9⟩ := Qa2 hc
  have n0 : kOf c ≤ nOf c := by unfold nOf; omega
  refine Qam (c := ⟨(.rnd (m + 1) (Qa_ q2C) :: q2C.k.tail), q2S c (.slice fa zs.length fc) es g c.l.toNat⟩) 10 50 4 S fun bs aa w S => ?_
  refine QaM 55 S n3 fun S => ?_
  refine Qad 1 S fun bs aa w S => ?_
  refine Qab 56 S (decide_eq_false (by omega) : decide ((c.l.toNat : Int) < (c.l.toNat : Int)) = false) fun S => ?_
  refine Qac S fun bs aa w S => ?_
  have hrow := S.fact (f := rfI w0.heap.size g (nOf c) (nOf c) (zQ c zs R (c.l.toNat))) (by simp)
  have hE1 := (S.fact (f := QaD es.b es.o es.l) (by simp))
  have hE2 := (S.fact (f := Qax es.l) (by simp))
  refine Qaf S (by kernel_rfl) (by kernel_rfl) fun hgr => ⟨es, g, (nOf c), rfl, ?_, hg, ⟨hes, hez, hE1, heb, hek, hE2⟩, Qag hgr⟩
  have hz : zQ c zs R c.l.toNat = Qdc c zs R := Qlx
  rw [hz] at hrow
  exact Qfg hrow (Qbl _ _ _ _ _ _).symm
theorem q2_a : ∀ (m j : Nat), j + m = c.l.toNat → ∀ (x0 x1 x2 : Nat) (aa : Act) (w : World) (S : Sy w0 [] [x0, x1, x2] (q2S c (.slice fa zs.length fc) es g (j)) [QaD es.b es.o es.l, Qax es.l, QbK fb fo zs, rfI w0.heap.size g (nOf c) (nOf c) (zQ c zs R (j))] aa w), post Try.prog (.rnd (m + 1) (Qa_ q2C) :: q2C.k.tail) (bodyPost Try.prog Try.f11 (Qce w0 c zs R)) .normal aa w := by
  intro m
  induction m with
  | zero => intro j hj x0 x1 x2 aa w S; obtain rfl : j = c.l.toNat := by omega
            exact q2_e w0 c hc zs R es hes hez heb hek he1 hzs fa fc fb fo hf g hg hgf 0 x0 x1 x2 aa w S
  | succ m ih => intro j hj x0 x1 x2 aa w S; exact q2_s w0 c hc zs R es hes hez heb hek he1 hzs fa fc fb fo hf g hg hgf (m + 1) j (by omega) (ih (j + 1) (by omega)) x0 x1 x2 aa w S
theorem q1_s (m i : Nat) (hi : i < es.l.length) (ih : ∀ (x0 x1 x2 : Nat) (aa : Act) (w : World) (S : Sy w0 [] [x0, x1, x2] (q1S c (.slice fa zs.length fc) es g (i + 1)) [QaD es.b es.o es.l, Qax es.l, QbK fb fo zs, rfI w0.heap.size g (nOf c) (nOf c) (bL (kOf c) (nOf c) (QiT es.l (i + 1)) (R.2 : Int) (fun _ => 0) (fun _ => 0))] aa w), post Try.prog (.rnd (m) (Qa_ q1C) :: q1C.k.tail) (bodyPost Try.prog Try.f11 (Qce w0 c zs R)) .normal aa w) (x0 x1 x2 : Nat) (aa : Act) (w : World) (S : Sy w0 [] [x0, x1, x2] (q1S c (.slice fa zs.length fc) es g (i)) [QaD es.b es.o es.l, Qax es.l, QbK fb fo zs, rfI w0.heap.size g (nOf c) (nOf c) (bL (kOf c) (nOf c) (QiT es.l (i)) (R.2 : Int) (fun _ => 0) (fun _ => 0))] aa w) : post Try.prog (.rnd (m + 1) (Qa_ q1C) :: q1C.k.tail) (bodyPost Try.prog Try.f11 (Qce w0 c zs R)) .normal aa w := by
  obtain ⟨n1, n2, n3, n4, n5, n6, n7, n8, n9⟩ := Qa2 hc
  have n0 : kOf c ≤ nOf c := by unfold nOf; omega
  have e1 : ((bL (kOf c) (nOf c) (QiT es.l (i)) (R.2 : Int) (fun _ => 0) (fun _ => 0))).set 0 (es.l.getD i e00).ver = (bL (kOf c) (nOf c) (QiT es.l (i + 1)) (R.2 : Int) (fun _ => 0) (fun _ => 0)) := by rw [bL_clk (by omega)]; rfl
  refine Qam (c := ⟨(.rnd (m + 1) (Qa_ q1C) :: q1C.k.tail), q1S c (.slice fa zs.length fc) es g i⟩) 6 50 4 S fun bs aa w S => ?_
  refine Qab 39 S (decide_eq_true (by omega) : decide ((i : Int) < (es.l.length : Int)) = true) fun S => ?_
  refine Qac S fun bs aa w S => ?_
  letI : HF := ⟨[QaD es.b es.o es.l]⟩
  refine QaE [0, 2] (by kernel_rfl) (by kernel_rfl) S (by kernel_rfl) (fun aa w D => ?_) (fun f hf => by have e1 : f = QaD es.b es.o es.l := List.mem_singleton.1 hf; subst e1; simp)
  refine Qaz 6 D (by kernel_rfl) (by kernel_rfl) (by kernel_rfl) (b := es.b) (off := es.o) (len := es.l.length) (n := i) (size := 2) (ix := (i : Int)) (by rw [← hez.resolve_left (by omega)]; kernel_rfl) rfl hi fun aa D => ?_
  refine QaH 8 D (by kernel_rfl) (by kernel_rfl) (by kernel_rfl) (ty := 3) (ad := ⟨es.b, es.o + i * 2, none⟩) (v := .int .i64 (es.l.getD i e00).ver) (fun W hW => QaP (by kernel_rfl) ((show Qhd W es.b es.o es.l from hW (QaD es.b es.o es.l) (by show _ ∈ [QaD es.b es.o es.l]; simp)) i hi).1) (by kernel_rfl) fun aa D => ?_
  refine Qaz 9 D (by kernel_rfl) (by kernel_rfl) (by kernel_rfl) (b := g) (off := 0) (len := (nOf c)) (n := 0) (size := 1) (ix := ((0 : Nat) : Int)) (by kernel_rfl) rfl (by omega) fun aa D => ?_
  have hrow := D.S.fact (f := rfI w0.heap.size g (nOf c) (nOf c) (bL (kOf c) (nOf c) (QiT es.l (i)) (R.2 : Int) (fun _ => 0) (fun _ => 0))) (by simp)
  have hfa := (D.S.fs (rfI w0.heap.size g (nOf c) (nOf c) (bL (kOf c) (nOf c) (QiT es.l (i)) (R.2 : Int) (fun _ => 0) (fun _ => 0))) (by simp)).2
  obtain ⟨hst, hh⟩ := QcG hrow (Qbl _ _ _ _ _ _).symm (0) (by omega) (es.l.getD i e00).ver
  rw [e1] at hh
  refine Qaw [10] (by kernel_rfl) (by kernel_rfl) rfl (na1 ?_)
  refine QfU 10 [QaD es.b es.o es.l, Qax es.l, QbK fb fo zs] D (by kernel_rfl) (ty := 3) (ad := ⟨g, 0 + (0) * 1, none⟩) (x := .v (.int .i64 (es.l.getD i e00).ver)) (v := .int .i64 (es.l.getD i e00).ver) (by kernel_rfl) rfl hst (QcH w g _ _) (Or.inr hg) (fun f hf => ⟨by simp only [List.mem_cons, List.not_mem_nil, or_false] at hf ⊢; rcases hf with rfl | rfl | rfl <;> simp, hgf f hf⟩) (fun f hf => by have e1 : f = QaD es.b es.o es.l := List.mem_singleton.1 hf; subst e1; simp) (fun i hi e => hfa i hi (by show some g = some _; rw [e])) fun aa D => ?_
  have D := D.addF (rfI w0.heap.size g (nOf c) (nOf c) (bL (kOf c) (nOf c) (QiT es.l (i + 1)) (R.2 : Int) (fun _ => 0) (fun _ => 0))) hh (fun i hi hb => hfa i hi hb)
  refine QaT D (by kernel_rfl) fun S => ?_
  refine Qam 7 60 2 S fun bs aa w S => ?_
  refine QaM 41 S (by rw [IntKind.wrap_i64]; omega : IntKind.i64.wrap ((i : Int) + 1) = ((i + 1 : Nat) : Int)) fun S => ?_
  refine Qan ⟨0, [999]⟩ 50 S fun bs aa w S => ?_
  have S := S.sub (F' := [QaD es.b es.o es.l, Qax es.l, QbK fb fo zs, rfI w0.heap.size g (nOf c) (nOf c) (bL (kOf c) (nOf c) (QiT es.l (i + 1)) (R.2 : Int) (fun _ => 0) (fun _ => 0))]) (by intro f hf; simp only [List.mem_cons, List.not_mem_nil, or_false] at hf; rcases hf with rfl | rfl | rfl | rfl <;> simp)
  have S2 := S.to [0, 1, 2] (q1S c (.slice fa zs.length fc) es g (i + 1)) (by kernel_rfl) (by kernel_rfl) (by kernel_rfl) (by kernel_rfl) (by kernel_rfl)
  refine Qai (k' := (.rnd (m) (Qa_ q1C) :: q1C.k.tail)) (by kernel_rfl) ?_
  exact ih _ _ _ aa w S2
theorem q1_e (m : Nat) (x0 x1 x2 : Nat) (aa : Act) (w : World) (S : Sy w0 [] [x0, x1, x2] (q1S c (.slice fa zs.length fc) es g (es.l.length)) [QaD es.b es.o es.l, Qax es.l, QbK fb fo zs, rfI w0.heap.size g (nOf c) (nOf c) (bL (kOf c) (nOf c) (QiT es.l (es.l.length)) (R.2 : Int) (fun _ => 0) (fun _ => 0))] aa w) : post Try.prog (.rnd (m + 1) (Qa_ q1C) :: q1C.k.tail) (bodyPost Try.prog Try.f11 (Qce w0 c zs R)) .normal aa w := by
  have e0 : (bL (kOf c) (nOf c) (QiT es.l (es.l.length)) (R.2 : Int) (fun _ => 0) (fun _ => 0)) = (zQ c zs R (0)) := by unfold zQ zV mV; rw [mix_0, mix_0, QiS hes]; rfl
  refine Qam (c := ⟨(.rnd (m + 1) (Qa_ q1C) :: q1C.k.tail), q1S c (.slice fa zs.length fc) es g es.l.length⟩) 6 50 4 S fun bs aa w S => ?_
  refine Qab 39 S (decide_eq_false (by omega) : decide ((es.l.length : Int) < (es.l.length : Int)) = false) fun S => ?_
  refine Qac S fun bs aa w S => ?_
  rw [e0] at S
  have S2 := S.to [0, 1, 2] (q2S c (.slice fa zs.length fc) es g 0) (by kernel_rfl) (by kernel_rfl) (by kernel_rfl) (by kernel_rfl) (by kernel_rfl)
  refine QaJ (c.l.toNat + 1) (by kernel_rfl) ?_
  refine Qai (k' := (.rnd (c.l.toNat + 1) (Qa_ q2C) :: q2C.k.tail)) (by kernel_rfl) ?_
  exact q2_a w0 c hc zs R es hes hez heb hek he1 hzs fa fc fb fo hf g hg hgf c.l.toNat 0 (by omega) _ _ _ aa w S2
theorem q1_a : ∀ (m i : Nat), i + m = es.l.length → ∀ (x0 x1 x2 : Nat) (aa : Act) (w : World) (S : Sy w0 [] [x0, x1, x2] (q1S c (.slice fa zs.length fc) es g (i)) [QaD es.b es.o es.l, Qax es.l, QbK fb fo zs, rfI w0.heap.size g (nOf c) (nOf c) (bL (kOf c) (nOf c) (QiT es.l (i)) (R.2 : Int) (fun _ => 0) (fun _ => 0))] aa w), post Try.prog (.rnd (m + 1) (Qa_ q1C) :: q1C.k.tail) (bodyPost Try.prog Try.f11 (Qce w0 c zs R)) .normal aa w := by
  intro m
  induction m with
  | zero => intro i hi x0 x1 x2 aa w S; obtain rfl : i = es.l.length := by omega
            exact q1_e w0 c hc zs R es hes hez heb hek he1 hzs fa fc fb fo hf g hg hgf 0 x0 x1 x2 aa w S
  | succ m ih => intro i hi x0 x1 x2 aa w S; exact q1_s w0 c hc zs R es hes hez heb hek he1 hzs fa fc fb fo hf g hg hgf (m + 1) i (by omega) (ih (i + 1) (by omega)) x0 x1 x2 aa w S
end
theorem rboot_t (w0 : World) (c : Cf) (hc : c.ok) (zs : List Int) (hzs : zs.length ≤ 40) (fa : Option Addr) (fc fb fo : Nat) (hf : zs.length = 0 ∨ fa = some ⟨fb, fo, none⟩) (x : Sr) (hx : x.ok) (hxc : x.l.length ≤ x.c) (hxl : x.l.length ≤ 600) (wv : Value) (hA : x.at w0) (hI : QbR w0 fb fo zs) : Calls Try.prog 11 #[(Qay c).v, .slice fa zs.length fc, .agg #[x.v, wv]] w0 (Qce w0 c zs (Qda (x.l.length + 1) x.l 0 0)) := by
  obtain ⟨n1, n2, n3, n4, n5, n6, n7, n8, n9⟩ := Qa2 hc
  have n0 : kOf c ≤ nOf c := by unfold nOf; omega
  obtain ⟨R, hR⟩ : ∃ R, (Qda (x.l.length + 1) x.l 0 0) = R := ⟨_, rfl⟩
  have hRb := Qgi (x.l.length + 1) x.l 0 0
  rw [hR] at hRb ⊢
  refine Qav [] [QaC x.b x.o x.l, QbK fb fo zs] (by intro f hf; simp only [List.mem_cons, List.not_mem_nil, or_false] at hf; rcases hf with rfl | rfl; exact hA; exact hI) Try.func11 rfl rfl fun aa S => ?_
  refine Qam 1 60 2 S fun bs aa w S => ?_
  refine Qbk S fun bs S => ?_
  have hblx : ∀ j, j < bs.length → bs.getD j 0 < w.heap.size := fun j hj => S.lt hj
  have hgs := S.gr.size
  have hcx := Qjc w x hx hxc (by omega) (S.fact (f := QaC x.b x.o x.l) (by simp))
  rw [hR] at hcx
  refine Qbc S (X := Er) (val := fun z => .tuple #[z.v, .int .i64 (R.2 : Int)]) (C := recQ R w.heap.size) (hcx.mono fun y w' h => rec_er h) (by kernel_rfl) fun es aa w1 hes0 hb S => ?_
  have S := S.add (QaD es.b es.o es.l) hes0.2.2.1 (fun j hj hb => by
    obtain ⟨q1, q2⟩ := hb
    have := hblx j hj
    have := hes0.2.2.2.1.resolve_left q2
    omega)
  have S := S.add (Qax es.l) hes0.2.2.2.2.2 (fun j hj hb => by
    obtain ⟨e, he, q1, q2⟩ := hb
    have := hblx j hj
    have := (hes0.2.2.2.2.1 e he).2.resolve_left q2
    omega)
  have he1 := Qgg hes0 hRb
  have he1 : es.l.length ≤ 100000 ∧ ∀ e ∈ es.l, e.ok ∧ e.ws.length ≤ 100000 := ⟨by omega, he1.2⟩
  have hes := hes0.1
  have hez := hes0.2.1
  have heb : es.l.length = 0 ∨ w0.heap.size ≤ es.b := hes0.2.2.2.1.imp id fun h => by omega
  have hek : ∀ e ∈ es.l, e.ok ∧ (e.ws.length = 0 ∨ w0.heap.size ≤ e.b) := fun e he => ⟨(hes0.2.2.2.2.1 e he).1, (hes0.2.2.2.2.1 e he).2.imp id fun h => by omega⟩
  refine Qam 2 60 2 S fun bs aa w S => ?_
  refine Qbk S fun bs S => ?_
  have hbl : ∀ j, j < bs.length → bs.getD j 0 < w.heap.size := fun j hj => S.lt hj
  have hgs2 := S.gr.size
  have hFP : ∀ f ∈ [QaD es.b es.o es.l, Qax es.l, QbK fb fo zs], f.P w := fun f hf => (S.fs f (by simp only [List.mem_cons, List.not_mem_nil, or_false] at hf ⊢; rcases hf with rfl | rfl | rfl <;> simp)).1
  refine QaM 23 S n5 fun S => ?_
  refine Qbc S (X := Nat) (val := fun g => .agg #[.slice (some ⟨g, 0, none⟩) (nOf c) (nOf c)]) (C := fun g w' => w'.ownsRow w.heap.size 3 1 (.slice (some ⟨g, 0, none⟩) (nOf c) (nOf c)) (nOf c) ((List.replicate (nOf c) (0 : Int)).map (Value.int .i64)) ∧ w.heap.size ≤ g) (rnewO_t (nOf c) (by omega) w) (by kernel_rfl) fun g aa w1 hC hb S => ?_
  obtain ⟨hrow0, hgn⟩ := hC
  have hg : w0.heap.size ≤ g := by omega
  have hgf : ∀ f ∈ [QaD es.b es.o es.l, Qax es.l, QbK fb fo zs], ¬f.bl g := fun f hf hb => by
    have := f.lt w (hFP f hf) g hb
    omega
  have S := S.add (rfI w0.heap.size g (nOf c) (nOf c) (List.replicate (nOf c) (0 : Int))) (QaO hrow0 hgs2) (fun j hj hb => by
    have h2 : some g = some (bs.getD j 0) := hb
    simp only [Option.some.injEq] at h2
    have := hbl j hj
    omega)
  refine Qam 3 60 4 S fun bs aa w S => ?_
  refine QbI (b := g) (off := 0) (len := (nOf c)) (n := 1) (size := 1) (i := ((1 : Nat) : Int)) S (by kernel_rfl) rfl (by omega) fun aa S => ?_
  refine Qbk S fun bs S => ?_
  have hrow := S.fact (f := rfI w0.heap.size g (nOf c) (nOf c) (List.replicate (nOf c) (0 : Int))) (by simp)
  have hfa := (S.fs (rfI w0.heap.size g (nOf c) (nOf c) (List.replicate (nOf c) (0 : Int))) (by simp)).2
  obtain ⟨hst, hh⟩ := QcG hrow (by simp) 1 (by omega) 1
  rw [bL_new (k0 := kOf c) (by omega)] at hh
  refine Qh3 (ty := 3) (ad := ⟨g, 0 + 1 * 1, none⟩) (x := .v (.int .i64 1)) (v := .int .i64 1) S (by kernel_rfl) rfl hst (QcH w g _ _) (Or.inr hg) [QaD es.b es.o es.l, Qax es.l, QbK fb fo zs] (fun f hf => ⟨by simp only [List.mem_cons, List.not_mem_nil, or_false] at hf ⊢; rcases hf with rfl | rfl | rfl <;> simp, hgf f hf⟩) (fun i hi e => hfa i hi (by show some g = some _; rw [e])) fun aa S => ?_
  have S := S.add (rfI w0.heap.size g (nOf c) (nOf c) (bL (kOf c) (nOf c) 0 0 (fun _ => 0) (fun _ => 0))) hh (fun i hi hb => hfa i hi hb)
  refine Qam 4 60 5 S fun bs aa w S => ?_
  refine QbI (b := g) (off := 0) (len := (nOf c)) (n := 3) (size := 1) (i := ((3 : Nat) : Int)) S (by kernel_rfl) rfl (by omega) fun aa S => ?_
  refine Qbk S fun bs S => ?_
  have hrow := S.fact (f := rfI w0.heap.size g (nOf c) (nOf c) (bL (kOf c) (nOf c) 0 0 (fun _ => 0) (fun _ => 0))) (by simp)
  have hfa := (S.fs (rfI w0.heap.size g (nOf c) (nOf c) (bL (kOf c) (nOf c) 0 0 (fun _ => 0) (fun _ => 0))) (by simp)).2
  obtain ⟨hst, hh⟩ := QcG hrow (Qbl _ _ _ _ _ _).symm 3 (by omega) (R.2 : Int)
  rw [show ((bL (kOf c) (nOf c) 0 0 (fun _ => 0) (fun _ => 0))).set 3 (R.2 : Int) = (bL (kOf c) (nOf c) (QiT es.l (0)) (R.2 : Int) (fun _ => 0) (fun _ => 0)) by rw [bL_fin (by omega)]; rfl] at hh
  refine Qh3 (ty := 3) (ad := ⟨g, 0 + 3 * 1, none⟩) (x := .v (.int .i64 (R.2 : Int))) (v := .int .i64 (R.2 : Int)) S (by kernel_rfl) rfl hst (QcH w g _ _) (Or.inr hg) [QaD es.b es.o es.l, Qax es.l, QbK fb fo zs] (fun f hf => ⟨by simp only [List.mem_cons, List.not_mem_nil, or_false] at hf ⊢; rcases hf with rfl | rfl | rfl <;> simp, hgf f hf⟩) (fun i hi e => hfa i hi (by show some g = some _; rw [e])) fun aa S => ?_
  have S := S.add (rfI w0.heap.size g (nOf c) (nOf c) (bL (kOf c) (nOf c) (QiT es.l (0)) (R.2 : Int) (fun _ => 0) (fun _ => 0))) hh (fun i hi hb => hfa i hi hb)
  refine Qac S fun bs aa w S => ?_
  have S := S.sub (F' := [QaD es.b es.o es.l, Qax es.l, QbK fb fo zs, rfI w0.heap.size g (nOf c) (nOf c) (bL (kOf c) (nOf c) (QiT es.l (0)) (R.2 : Int) (fun _ => 0) (fun _ => 0))]) (by intro f hf; simp only [List.mem_cons, List.not_mem_nil, or_false] at hf; rcases hf with rfl | rfl | rfl | rfl <;> simp)
  have S2 := S.to [0, 2, 3] (q1S c (.slice fa zs.length fc) es g 0) (by kernel_rfl) (by kernel_rfl) (by kernel_rfl) (by kernel_rfl) (by kernel_rfl)
  refine QaJ (es.l.length + 1) (by kernel_rfl) ?_
  refine Qai (k' := (.rnd (es.l.length + 1) (Qa_ q1C) :: q1C.k.tail)) (by kernel_rfl) ?_
  exact q1_a w0 c hc zs R es hes hez heb hek he1 hzs fa fc fb fo hf g hg hgf es.l.length 0 (by omega) _ _ _ aa _ S2
theorem wr_eql (a b : Int × Int) (w : World) : (binOp .eql 42 (.agg #[.int .i64 a.1, .int .i64 a.2]) (.agg #[.int .i64 b.1, .int .i64 b.2])).run Try.prog w = .ok (.bool (decide (a = b))) w := by
  have h := wr_neq a b w
  rw [run_neq_struct] at h
  rw [run_eql_struct]
  revert h
  generalize hX : (Op.equalIn 10000 42 (.agg #[.int .i64 a.1, .int .i64 a.2]) (.agg #[.int .i64 b.1, .int .i64 b.2])).run Try.prog w = X
  intro h
  cases X <;> simp_all
theorem Qld {s : SS} {bs : List Nat} {x y : Operand} {t' ty : TypeId} {p q : Int × Int} {b : Bool} (hx : s.val x = some (.v (.agg #[.int .i64 p.1, .int .i64 p.2]))) (hy : s.val y = some (.v (.agg #[.int .i64 q.1, .int .i64 q.2]))) (hb : decide (p = q) = b) :
    ∀ (o : Oper) (ρ : Operand → Value) (W : World), o.op = .binOp .eql 42 x y t' → o.type = ty → (∀ x y, s.val x = some y → ρ x = den bs y) → (execOp ρ o).run Try.prog W = .ok (.value (.bool b)) W := by
  intro o ρ W h1 h2 h3
  have e1 : ρ x = (.agg #[.int .i64 p.1, .int .i64 p.2]) := h3 x _ hx
  have e2 : ρ y = (.agg #[.int .i64 q.1, .int .i64 q.2]) := h3 y _ hy
  have hg : ∀ W, (eqGuard .eql 42 x y (.agg #[.int .i64 p.1, .int .i64 p.2]) (.agg #[.int .i64 q.1, .int .i64 q.2])).run Try.prog W = .ok () W := fun W => run_eqGuard_agg W .eql 42 x y _ _ Qh0
  have hr : ∀ W, (binOp .eql 42 (.agg #[.int .i64 p.1, .int .i64 p.2]) (.agg #[.int .i64 q.1, .int .i64 q.2])).run Try.prog W = .ok (.bool (decide (p = q))) W := fun W => wr_eql p q W
  subst hb
  unfold execOp
  simp only [h1, e1, e2, Sem.run_bind, Sem.run_pure, Result.andThen_ok, hg, hr]
theorem bi_bad (w0 : World) (L : Ly) (zs : List Int) (fa : Option Addr) (fc fb fo : Nat) (hf : zs.length = 0 ∨ fa = some ⟨fb, fo, none⟩) (sa : Option Addr) (sc : Nat) (ta : Option Addr) (tc b o cc p : Nat) (S0 : List ByteArray) (W0 : List (Int × ByteArray)) (hg : (⟨sa, S0.length, sc, ta, W0.length, tc, b, o, cc, p, S0, W0⟩ : Dk).gen) (hsc : S0.length ≤ sc) (loc : Int) (hI : QbR w0 fb fo zs) (hA : Qcx w0 b o S0) (hB : Qc5 w0 cc p W0) (hr : Qde L = false) : Calls Try.prog 3 #[.agg #[.int .i64 L.c.t, .int .i64 L.c.l, .int .i64 L.c.k, .int .i64 L.c.s, .int .i64 L.c.m, .int .i64 L.clock, .int .i64 L.stamps, .int .i64 L.log, .int .i64 L.fin, .int .i64 L.thread, .int .i64 L.lock, .int .i64 L.loc, .int .i64 L.size, .slice fa zs.length fc, .slice sa S0.length sc, .slice ta W0.length tc, .int .i64 loc]] w0 fun y w' => y = .returned (.bool true) ∧ Below w0.heap.size w0 w' := by
  refine Qav [] [QbK fb fo zs, QaC b o S0, QcJ cc p W0] (by intro f hf; simp only [List.mem_cons, List.not_mem_nil, or_false] at hf; rcases hf with rfl | rfl | rfl; exact hI; exact hA; exact hB) Try.func3 rfl rfl fun aa S => ?_
  refine Qan ⟨0, [5]⟩ 60 S fun bs aa w S => ?_
  refine QcB S fun S => ?_
  refine Qap S (sane25 w) (by kernel_rfl) fun aa w hb S => ?_
  refine Qam 6 60 1 S fun bs aa w S => ?_
  have hri := QeB L w
  rw [hr] at hri
  refine Qap S hri (by kernel_rfl) fun aa w hb S => ?_
  refine Qac S fun bs aa w S => ?_
  exact Qaf S (by kernel_rfl) (by kernel_rfl) fun hg => ⟨rfl, Qag hg⟩
theorem bi_ok (w0 : World) (c : Cf) (hc : c.ok) (zs : List Int) (fa : Option Addr) (fc fb fo : Nat) (hf : zs.length = 0 ∨ fa = some ⟨fb, fo, none⟩) (sa : Option Addr) (sc : Nat) (ta : Option Addr) (tc b o cc p : Nat) (S0 : List ByteArray) (W0 : List (Int × ByteArray)) (hg : (⟨sa, S0.length, sc, ta, W0.length, tc, b, o, cc, p, S0, W0⟩ : Dk).gen) (hsc : S0.length ≤ sc) (loc : Int) (hI : QbR w0 fb fo zs) (hA : Qcx w0 b o S0) (hB : Qc5 w0 cc p W0) : Calls Try.prog 3 #[.agg #[.int .i64 (Qay c).c.t, .int .i64 (Qay c).c.l, .int .i64 (Qay c).c.k, .int .i64 (Qay c).c.s, .int .i64 (Qay c).c.m, .int .i64 (Qay c).clock, .int .i64 (Qay c).stamps, .int .i64 (Qay c).log, .int .i64 (Qay c).fin, .int .i64 (Qay c).thread, .int .i64 (Qay c).lock, .int .i64 (Qay c).loc, .int .i64 (Qay c).size, .slice fa zs.length fc, .slice sa S0.length sc, .slice ta W0.length tc, .int .i64 loc]] w0 fun y w' => y = .returned (.bool true) ∧ Below w0.heap.size w0 w' := by
  obtain ⟨n1, n2, n3, n4, n5, n6, n7, n8, n9⟩ := Qa2 hc
  have hrr : Qde (Qay c) = true := by
    unfold Qde
    rw [Bool.and_eq_true, decide_eq_true_eq]
    exact ⟨hc, by rw [Qgr]; rfl⟩
  have hzl : (bL (kOf c) (nOf c) (Qf3 (Qda (S0.length + 1) S0 0 0).1) ((Qda (S0.length + 1) S0 0 0).2 : Int) (vvB (Qda (S0.length + 1) S0 0 0).1 zs) (wwB (Qda (S0.length + 1) S0 0 0).1)).length = (nOf c) := Qbl _ _ _ _ _ _
  have hsx : (⟨sa, sc, b, o, S0⟩ : Sr).ok := hg.hs
  refine Qav [] [QbK fb fo zs, QaC b o S0, QcJ cc p W0] (by intro f hf; simp only [List.mem_cons, List.not_mem_nil, or_false] at hf; rcases hf with rfl | rfl | rfl; exact hI; exact hA; exact hB) Try.func3 rfl rfl fun aa S => ?_
  refine Qan ⟨0, [5]⟩ 60 S fun bs aa w S => ?_
  refine QcB S fun S => ?_
  refine Qap S (sane25 w) (by kernel_rfl) fun aa w hb S => ?_
  refine Qam 6 60 1 S fun bs aa w S => ?_
  have hri := QeB (Qay c) w
  rw [hrr] at hri
  refine Qap S hri (by kernel_rfl) fun aa w hb S => ?_
  refine Qad 5 S fun bs aa w S => ?_
  by_cases h40 : zs.length ≤ 40
  case neg =>
    refine Qab 33 S (decide_eq_true (by omega) : decide ((zs.length : Int) > 40) = true) fun S => ?_
    refine Qac S fun bs aa w S => ?_
    exact Qaf S (by kernel_rfl) (by kernel_rfl) fun hg => ⟨rfl, Qag hg⟩
  refine Qab 33 S (decide_eq_false (by omega) : decide ((zs.length : Int) > 40) = false) fun S => ?_
  refine Qad 3 S fun bs aa w S => ?_
  refine Qap S (few_t w (⟨sa, S0.length, sc, ta, W0.length, tc, b, o, cc, p, S0, W0⟩ : Dk) hg (S.fact (f := QaC b o S0) (by simp)) (S.fact (f := QcJ cc p W0) (by simp))) (by kernel_rfl) fun aa w hb S => ?_
  rcases Bool.eq_false_or_eq_true (QeN (⟨sa, S0.length, sc, ta, W0.length, tc, b, o, cc, p, S0, W0⟩ : Dk)) with hfw | hfw
  rotate_left
  · refine Qab 37 S hfw fun S => ?_
    refine Qac S fun bs aa w S => ?_
    exact Qaf S (by kernel_rfl) (by kernel_rfl) fun hg => ⟨rfl, Qag hg⟩
  · have hfw2 := hfw
    simp only [QeN, Bool.and_eq_true, decide_eq_true_eq] at hfw2
    have hs600 : S0.length ≤ 600 := hfw2.1.1.1
    have ht60 : W0.length ≤ 60 := hfw2.1.1.2
    refine Qab 37 S hfw fun S => ?_
    refine Qad 4 S fun bs aa w S => ?_
    refine Qap S (rright_t w (⟨sa, S0.length, sc, ta, W0.length, tc, b, o, cc, p, S0, W0⟩ : Dk) hg ht60 (S.fact (f := QaC b o S0) (by simp)) (S.fact (f := QcJ cc p W0) (by simp))) (by kernel_rfl) fun aa w hb S => ?_
    rcases Bool.eq_false_or_eq_true (Qek (⟨sa, S0.length, sc, ta, W0.length, tc, b, o, cc, p, S0, W0⟩ : Dk)) with hrt | hrt
    rotate_left
    · refine Qab 42 S hrt fun S => ?_
      refine Qac S fun bs aa w S => ?_
      exact Qaf S (by kernel_rfl) (by kernel_rfl) fun hg => ⟨rfl, Qag hg⟩
    · refine Qab 42 S hrt fun S => ?_
      have hRb := Qgi (S0.length + 1) S0 0 0
      obtain ⟨R, hR⟩ : ∃ R, Qda (S0.length + 1) S0 0 0 = R := ⟨_, rfl⟩
      rw [hR] at hRb hzl
      have hzl : ((Qdc c zs R)).length = (nOf c) := hzl
      refine Qam 8 60 3 S fun bs aa w S => ?_
      refine Qbk S fun bs S => ?_
      have hblx : ∀ j, j < bs.length → bs.getD j 0 < w.heap.size := fun j hj => S.lt hj
      have hgsx := S.gr.size
      have hbtx := boot_t w c hc zs (by omega) fa fc fb fo hf (⟨sa, sc, b, o, S0⟩ : Sr) hsx hsc (by show S0.length ≤ 600; omega) (.slice ta W0.length tc) (S.fact (f := QaC b o S0) (by simp)) (S.fact (f := QbK fb fo zs) (by simp))
      rw [show Qda ((⟨sa, sc, b, o, S0⟩ : Sr).l.length + 1) (⟨sa, sc, b, o, S0⟩ : Sr).l 0 0 = R from hR] at hbtx
      refine Qbc S (X := Er × Nat × Nat) (val := fun q => .tuple #[.agg #[.slice (some ⟨q.2.1, 0, none⟩) (nOf c) q.2.2], q.1.v]) (C := fun q w' => QbR w' q.2.1 0 (Qdc c zs R) ∧ w.heap.size ≤ q.2.1 ∧ recQ R w.heap.size q.1 w') (f := 10) (args := #[(Qay c).v, .slice fa zs.length fc, .agg #[.slice sa S0.length sc, .slice ta W0.length tc]]) (hbtx.mono fun e w' ⟨es, g, cp, h1, h2, h3, h4, h5⟩ => ⟨(es, g, cp), h1, ⟨h2, h3, h4⟩, h5⟩) (by kernel_rfl) fun q aa w1 hC hb S => ?_
      obtain ⟨x, gx, cpx⟩ := q
      obtain ⟨hzx, hgx, hqx⟩ := hC
      have hzx : QbR w1 gx 0 (Qdc c zs R) := hzx
      have hgx : w.heap.size ≤ gx := hgx
      have hqx : recQ R w.heap.size x w1 := hqx
      have S := S.add (QbK gx 0 (Qdc c zs R)) hzx (fun j hj hb => by
        have h1 : bs.getD j 0 = gx := hb.1
        have h2 := hblx j hj
        have h3 : w.heap.size ≤ gx := hgx
        omega)
      have S := S.add (QaD x.b x.o x.l) hqx.2.2.1 (fun j hj hb => by
        obtain ⟨q1, q2⟩ := hb
        have := hblx j hj
        have := hqx.2.2.2.1.resolve_left q2
        omega)
      have S := S.add (Qax x.l) hqx.2.2.2.2.2 (fun j hj hb => by
        obtain ⟨e, he, q1, q2⟩ := hb
        have := hblx j hj
        have := (hqx.2.2.2.2.1 e he).2.resolve_left q2
        omega)
      obtain ⟨hnx, hwx⟩ := Qgg hqx hRb
      refine Qam 9 60 3 S fun bs aa w S => ?_
      refine Qbk S fun bs S => ?_
      have hbly : ∀ j, j < bs.length → bs.getD j 0 < w.heap.size := fun j hj => S.lt hj
      have hgsy := S.gr.size
      have hbty := rboot_t w c hc zs (by omega) fa fc fb fo hf (⟨sa, sc, b, o, S0⟩ : Sr) hsx hsc (by show S0.length ≤ 600; omega) (.slice ta W0.length tc) (S.fact (f := QaC b o S0) (by simp)) (S.fact (f := QbK fb fo zs) (by simp))
      rw [show Qda ((⟨sa, sc, b, o, S0⟩ : Sr).l.length + 1) (⟨sa, sc, b, o, S0⟩ : Sr).l 0 0 = R from hR] at hbty
      refine Qbc S (X := Er × Nat × Nat) (val := fun q => .tuple #[.agg #[.slice (some ⟨q.2.1, 0, none⟩) (nOf c) q.2.2], q.1.v]) (C := fun q w' => QbR w' q.2.1 0 (Qdc c zs R) ∧ w.heap.size ≤ q.2.1 ∧ recQ R w.heap.size q.1 w') (f := 11) (args := #[(Qay c).v, .slice fa zs.length fc, .agg #[.slice sa S0.length sc, .slice ta W0.length tc]]) (hbty.mono fun e w' ⟨es, g, cp, h1, h2, h3, h4, h5⟩ => ⟨(es, g, cp), h1, ⟨h2, h3, h4⟩, h5⟩) (by kernel_rfl) fun q aa w1 hC hb S => ?_
      obtain ⟨y, gy, cpy⟩ := q
      obtain ⟨hzy, hgy, hqy⟩ := hC
      have hzy : QbR w1 gy 0 (Qdc c zs R) := hzy
      have hgy : w.heap.size ≤ gy := hgy
      have hqy : recQ R w.heap.size y w1 := hqy
      have S := S.add (QbK gy 0 (Qdc c zs R)) hzy (fun j hj hb => by
        have h1 : bs.getD j 0 = gy := hb.1
        have h2 := hbly j hj
        have h3 : w.heap.size ≤ gy := hgy
        omega)
      have S := S.add (QaD y.b y.o y.l) hqy.2.2.1 (fun j hj hb => by
        obtain ⟨q1, q2⟩ := hb
        have := hbly j hj
        have := hqy.2.2.2.1.resolve_left q2
        omega)
      have S := S.add (Qax y.l) hqy.2.2.2.2.2 (fun j hj hb => by
        obtain ⟨e, he, q1, q2⟩ := hb
        have := hbly j hj
        have := (hqy.2.2.2.2.1 e he).2.resolve_left q2
        omega)
      obtain ⟨hny, hwy⟩ := Qgg hqy hRb
      cases hp : Qbi R.1 loc with
      | none =>
        refine Qam 10 60 2 S fun bs aa w S => ?_
        have hla := Qgs w y hqy.2.1 (S.fact (f := QaD y.b y.o y.l) (by simp)) (fun e he => (hqy.2.2.2.2.1 e he).1) (S.fact (f := Qax y.l) (by simp)) (by omega) (fun e he => by have := (hwy e he).2; omega) loc
        rw [hqy.1, hp] at hla
        refine Qap S hla (by kernel_rfl) fun aa w hb S => ?_
        refine Qam 11 60 2 S fun bs aa w S => ?_
        have hlb := Qgd w y hqy.2.1 (fun e he => (hqy.2.2.2.2.1 e he).1) (by omega) (fun e he => by have := (hwy e he).2; omega) loc (S.fact (f := QaD y.b y.o y.l) (by simp)) (S.fact (f := Qax y.l) (by simp))
        rw [hqy.1, hp] at hlb
        refine Qap S hlb (by kernel_rfl) fun aa w hb S => ?_
        refine Qam 12 60 4 S fun bs aa w S => ?_
        refine Qap S (v := .bool true) (by
          have h := QgN (.slice (some ⟨gx, 0, none⟩) (nOf c) cpx) (.slice (some ⟨gy, 0, none⟩) (nOf c) cpy) (Qdc c zs R) (Qdc c zs R) w ⟨_, _, by rw [hzl], by rw [hzl]; omega, Or.inr ⟨gx, 0, rfl, S.fact (f := QbK gx 0 (Qdc c zs R)) (by simp)⟩⟩ ⟨_, _, by rw [hzl], by rw [hzl]; omega, Or.inr ⟨gy, 0, rfl, S.fact (f := QbK gy 0 (Qdc c zs R)) (by simp)⟩⟩
          rw [decide_eq_true rfl] at h
          exact h) (by kernel_rfl) fun aa w hb S => ?_
        refine Qad 4 S fun bs aa w S => ?_
        refine Qap S (v := .bool true) (by
          have h := all_t w x.l y.l x.a y.a x.c y.c x.b x.o y.b y.o hqx.2.1 hqy.2.1 (by omega) hwx hwy (S.fact (f := QaD x.b x.o x.l) (by simp)) (S.fact (f := QaD y.b y.o y.l) (by simp)) (S.fact (f := Qax x.l) (by simp)) (S.fact (f := Qax y.l) (by simp))
          rw [decide_eq_true (hqx.1.trans hqy.1.symm)] at h
          exact h) (by kernel_rfl) fun aa w hb S => ?_
        refine Qad 4 S fun bs aa w S => ?_
        refine Qco (op := .binOp .eql 42 (.tmp 86) (.tmp 87) 42) (ty := 4) (v := .bool true) S (by kernel_rfl) (Qld (p := ((0 : Int), (0 : Int))) (q := ((0 : Int), (0 : Int))) (by kernel_rfl) (by kernel_rfl) (decide_eq_true rfl)) fun aa S => ?_
        refine Qad 5 S fun bs aa w S => ?_
        refine Qab 93 S (decide_eq_true rfl : decide ((0 : Int) = 0) = true) fun S => ?_
        refine Qac S fun bs aa w S => ?_
        exact Qaf S (by kernel_rfl) (by kernel_rfl) fun hg => ⟨rfl, Qag hg⟩
      | some q =>
        obtain ⟨la, lb, lc⟩ := q
        refine Qam 10 60 2 S fun bs aa w S => ?_
        have hla := Qgs w y hqy.2.1 (S.fact (f := QaD y.b y.o y.l) (by simp)) (fun e he => (hqy.2.2.2.2.1 e he).1) (S.fact (f := Qax y.l) (by simp)) (by omega) (fun e he => by have := (hwy e he).2; omega) loc
        rw [hqy.1, hp] at hla
        refine Qap S hla (by kernel_rfl) fun aa w hb S => ?_
        refine Qam 11 60 2 S fun bs aa w S => ?_
        have hlb := Qgd w y hqy.2.1 (fun e he => (hqy.2.2.2.2.1 e he).1) (by omega) (fun e he => by have := (hwy e he).2; omega) loc (S.fact (f := QaD y.b y.o y.l) (by simp)) (S.fact (f := Qax y.l) (by simp))
        rw [hqy.1, hp] at hlb
        refine Qap S hlb (by kernel_rfl) fun aa w hb S => ?_
        refine Qam 12 60 4 S fun bs aa w S => ?_
        refine Qap S (v := .bool true) (by
          have h := QgN (.slice (some ⟨gx, 0, none⟩) (nOf c) cpx) (.slice (some ⟨gy, 0, none⟩) (nOf c) cpy) (Qdc c zs R) (Qdc c zs R) w ⟨_, _, by rw [hzl], by rw [hzl]; omega, Or.inr ⟨gx, 0, rfl, S.fact (f := QbK gx 0 (Qdc c zs R)) (by simp)⟩⟩ ⟨_, _, by rw [hzl], by rw [hzl]; omega, Or.inr ⟨gy, 0, rfl, S.fact (f := QbK gy 0 (Qdc c zs R)) (by simp)⟩⟩
          rw [decide_eq_true rfl] at h
          exact h) (by kernel_rfl) fun aa w hb S => ?_
        refine Qad 4 S fun bs aa w S => ?_
        refine Qap S (v := .bool true) (by
          have h := all_t w x.l y.l x.a y.a x.c y.c x.b x.o y.b y.o hqx.2.1 hqy.2.1 (by omega) hwx hwy (S.fact (f := QaD x.b x.o x.l) (by simp)) (S.fact (f := QaD y.b y.o y.l) (by simp)) (S.fact (f := Qax x.l) (by simp)) (S.fact (f := Qax y.l) (by simp))
          rw [decide_eq_true (hqx.1.trans hqy.1.symm)] at h
          exact h) (by kernel_rfl) fun aa w hb S => ?_
        refine Qad 4 S fun bs aa w S => ?_
        refine Qco (op := .binOp .eql 42 (.tmp 86) (.tmp 87) 42) (ty := 4) (v := .bool true) S (by kernel_rfl) (Qld (p := (la, lb)) (q := (la, lb)) (by kernel_rfl) (by kernel_rfl) (decide_eq_true rfl)) fun aa S => ?_
        refine Qad 5 S fun bs aa w S => ?_
        refine Qab 93 S (decide_eq_true rfl : decide ((lc : Int) = lc) = true) fun S => ?_
        refine Qac S fun bs aa w S => ?_
        exact Qaf S (by kernel_rfl) (by kernel_rfl) fun hg => ⟨rfl, Qag hg⟩
theorem bi_all (w0 : World) (L : Ly) (zs : List Int) (fa : Option Addr) (fc fb fo : Nat) (hf : zs.length = 0 ∨ fa = some ⟨fb, fo, none⟩) (sa : Option Addr) (sc : Nat) (ta : Option Addr) (tc b o cc p : Nat) (S0 : List ByteArray) (W0 : List (Int × ByteArray)) (hg : (⟨sa, S0.length, sc, ta, W0.length, tc, b, o, cc, p, S0, W0⟩ : Dk).gen) (hsc : S0.length ≤ sc) (loc : Int) (hI : QbR w0 fb fo zs) (hA : Qcx w0 b o S0) (hB : Qc5 w0 cc p W0) : Calls Try.prog 3 #[.agg #[.int .i64 L.c.t, .int .i64 L.c.l, .int .i64 L.c.k, .int .i64 L.c.s, .int .i64 L.c.m, .int .i64 L.clock, .int .i64 L.stamps, .int .i64 L.log, .int .i64 L.fin, .int .i64 L.thread, .int .i64 L.lock, .int .i64 L.loc, .int .i64 L.size, .slice fa zs.length fc, .slice sa S0.length sc, .slice ta W0.length tc, .int .i64 loc]] w0 fun y w' => y = .returned (.bool true) ∧ Below w0.heap.size w0 w' := by
  rcases Bool.eq_false_or_eq_true (Qde L) with hr | hr
  · obtain ⟨hc, hL⟩ := Qke hr
    obtain ⟨c, rfl⟩ : ∃ c, L = Qay c := ⟨L.c, hL⟩
    exact bi_ok w0 c hc zs fa fc fb fo hf sa sc ta tc b o cc p S0 W0 hg hsc loc hI hA hB
  · exact bi_bad w0 L zs fa fc fb fo hf sa sc ta tc b o cc p S0 W0 hg hsc loc hI hA hB hr
end Go.Proofs.Ytfhmdlihnidjoaa
