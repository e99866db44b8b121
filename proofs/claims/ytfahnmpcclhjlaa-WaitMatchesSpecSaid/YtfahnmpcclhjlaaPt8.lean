/-
  Merged: WtA, WtB, WtC, WtD, WtE, WtF
-/
import Derived.Test.YtfahnmpcclhjlaaRows
import Derived.Test.YtfahnmpcclhjlaaPt1
import Derived.Test.YtfahnmpcclhjlaaPt6
import Derived.Test.YtfahnmpcclhjlaaPt7
import Derived.Test.YtfahnmpcclhjlaaPt3
import Derived.WalkKit
import Derived.Test.YtfahnmpcclhjlaaPt5

/-
  Layer 21: a run's call of an operation of another layer.
-/
namespace Go.Proofs.Ytfahnmpcclhjlaa
open Go Go.RowKit SX
set_option linter.unusedVariables false
set_option linter.unusedSimpArgs false
set_option maxRecDepth 100000
theorem getD_drop (l : List (Int × Bool)) (k j : Nat) (d : Int × Bool) : (l.drop k).getD j d = l.getD (k + j) d := by simp [List.getD, List.getElem?_drop]
theorem getD_take (l : List (Int × Bool)) (k j : Nat) (d : Int × Bool) (h : j < k) : (l.take k).getD j d = l.getD j d := by simp [List.getD, List.getElem?_take, h]
/-- The run at the block g has these results before it, in this slice. -/
def RunA (w : World) (g : Nat) (a : Option Addr) (c : Nat) (l : List (Int × Bool)) : Prop :=
  w.cell? ⟨g, 0, none⟩ = some (.slice a l.length c) ∧ w.frozen? ⟨g, 0, none⟩ = false ∧ l.length ≤ c ∧ c ≤ 9223372036854775807 ∧ (l.length = 0 ∨ ∃ b o, a = some ⟨b, o, none⟩ ∧ b < g ∧ ∀ j, j < l.length → w.cell? ⟨b, o + j * 2, none⟩ = some (.int .i64 (l.getD j (0, false)).1) ∧ w.cell? ⟨b, o + j * 2 + 1, none⟩ = some (.bool (l.getD j (0, false)).2))
theorem runA_le {w w' : World} {g c : Nat} {a : Option Addr} {l : List (Int × Bool)} (h : RunA w g a c l) (hb : ∀ b, b ≤ g → w'.heap[b]? = w.heap[b]?) : RunA w' g a c l := by
  obtain ⟨h1, h2, h3, h4, h5⟩ := h
  refine ⟨(World.cell?_of_block (a := ⟨g, 0, none⟩) (hb g (Nat.le_refl _))).trans h1, (World.frozen?_of_block (a := ⟨g, 0, none⟩) (hb g (Nat.le_refl _))).trans h2, h3, h4, ?_⟩
  rcases h5 with h5 | ⟨b, o, rfl, h5, h6⟩
  · exact Or.inl h5
  · exact Or.inr ⟨b, o, rfl, h5, fun j hj => ⟨(World.cell?_of_block (a := ⟨b, o + j * 2, none⟩) (hb b (by omega))).trans (h6 j hj).1, (World.cell?_of_block (a := ⟨b, o + j * 2 + 1, none⟩) (hb b (by omega))).trans (h6 j hj).2⟩⟩
def rfRunA (g : Nat) (a : Option Addr) (c : Nat) (l : List (Int × Bool)) : RF := ⟨fun b => b ≤ g, fun w => RunA w g a c l, fun w h b hb => Nat.lt_of_le_of_lt hb (World.block_lt_of_cell? w _ h.1), fun w w' h hb => runA_le h hb⟩
/-- What is behind k results. -/
theorem runA_cut {w : World} {g k c : Nat} {a : Option Addr} {l : List (Int × Bool)} (h : RunA w g a c l) (hk : k ≤ l.length) : RunAt (w.setCell ⟨g, 0, none⟩ (.slice (slA c k 2 a) (l.length - k) (c - k))) g (l.drop k) := by
  obtain ⟨h1, h2, h3, h4, h5⟩ := h
  refine ⟨slA c k 2 a, c - k, ?_, by simpa using h2, by simp; omega, by omega, ?_⟩
  · rw [List.length_drop]; exact World.cell?_setCell_same _ _ _ h1
  · by_cases he : k = l.length
    · exact Or.inl (by simp; omega)
    · rcases h5 with h5 | ⟨b, o, rfl, h5, h6⟩
      · omega
      · refine Or.inr ⟨b, o + k * 2, ?_, h5, fun j hj => ?_⟩
        · unfold slA
          rw [if_neg (by omega)]
          simp [addr_addS]
        · simp only [List.length_drop] at hj
          obtain ⟨q1, q2⟩ := h6 (k + j) (by omega)
          rw [getD_drop, show o + k * 2 + j * 2 = o + (k + j) * 2 by omega]
          exact ⟨keepA_ q1 (Or.inl (by omega)), keepA_ q2 (Or.inl (by omega))⟩
/-- The first k results. -/
theorem logOf_cut {w : World} {g k c : Nat} {a : Option Addr} {l : List (Int × Bool)} (h : RunA w g a c l) (hk : k ≤ l.length) : LogOf w (.slice (slA c 0 2 a) k c) (l.take k) := by
  obtain ⟨h1, h2, h3, h4, h5⟩ := h
  have hl : (l.take k).length = k := by simp; omega
  refine ⟨slA c 0 2 a, c, by rw [hl], by rw [hl]; omega, h4, ?_⟩
  by_cases hk0 : k = 0
  · exact Or.inl (by omega)
  · rcases h5 with h5 | ⟨b, o, rfl, h5, h6⟩
    · omega
    · refine Or.inr ⟨b, o, ?_, fun j hj => ?_⟩
      · unfold slA
        rw [if_neg (by omega)]
        simp [addr_addS]
      · rw [hl] at hj
        rw [getD_take _ _ _ _ hj]
        exact h6 j (by omega)
attribute [local irreducible] post
noncomputable def caC (g : Nat) (c0 c1 c2 : Value) : Cfg := runC Try.prog ⟨0, []⟩ 50 (cfg0 Try.f92 #[.pointer (some ⟨g, 0, none⟩), (.func (.func 93) #[] #[c0, c1, c2])])
noncomputable def caS (g : Nat) (c0 c1 c2 : Value) (j : Nat) : SS := ⟨(caC g c0 c1 c2).s.n, [(0, .v (.pointer (some ⟨g, 0, none⟩))), (1, .v (.func (.func 93) #[] #[c0, c1, c2])), (4, .p 0 0), (5, .v (.int .i64 (j : Int)))], [⟨56, [.int .i64 0, .int .i64 0, .int .i64 0, .int .i64 0, .bool false, .bool false, .int .i64 0]⟩]⟩
/-- What the operation returns for a log, at every world of the call. -/
def CaF (w : World) (g : Nat) (l : List (Int × Bool)) (c0 c1 c2 : Value) (X : List (Int × Bool) → Ask ⊕ OutD) : Prop :=
  ∀ w2 v k, w.grownBy w2 (some g) → k ≤ l.length → LogOf w2 v (l.take k) → Calls Try.prog 93 #[v, c0, c1, c2] w2 fun e w' => e = .returned (nextV (X (l.take k))) ∧ Below w2.heap.size w2 w'
set_option maxHeartbeats 8000000 in
theorem ca_more (w0 : World) (g : Nat) (c0 c1 c2 : Value) (l : List (Int × Bool)) (hl : l.length ≤ 1000000) (X : List (Int × Bool) → Ask ⊕ OutD) (hF : CaF w0 g l c0 c1 c2 X) (ad : Option Addr) (cp : Nat) (hcp : l.length ≤ cp) (n j : Nat) (hj : j < l.length) (q : Ask) (hx : X (l.take j) = .inl q) {R : Ending → World → Prop} (ih : ∀ (bs : List Nat) (aa : Act) (w : World), Sy w0 (some g) bs (caS g c0 c1 c2 (j + 1)) [rfRunA g ad cp l] aa w → post Try.prog (.rnd n (bodyL (caC g c0 c1 c2)) :: (caC g c0 c1 c2).k.tail) (bodyPost Try.prog Try.f92 R) .normal aa w)
    (bs : List Nat) (aa : Act) (w : World) (S : Sy w0 (some g) bs (caS g c0 c1 c2 j) [rfRunA g ad cp l] aa w) : post Try.prog (.rnd (n + 1) (bodyL (caC g c0 c1 c2)) :: (caC g c0 c1 c2).k.tail) (bodyPost Try.prog Try.f92 R) .normal aa w := by
  refine sy_run (c := ⟨.rnd (n + 1) (bodyL (caC g c0 c1 c2)) :: (caC g c0 c1 c2).k.tail, caS g c0 c1 c2 j⟩) ⟨0, [3]⟩ 50 S fun bs aa w S => ?_
  refine sy_reg S fun S => ?_
  refine sy_ops 4 S fun bs aa w S => ?_
  refine sy_ldf S (S.fact (f := rfRunA g ad cp l) (by simp)).1 (by kernel_rfl) fun aa S => ?_
  refine sy_ops 1 S fun bs aa w S => ?_
  refine sy_slh (ad := ad) (len := l.length) (cap := cp) (n := j) (size := 2) S (by kernel_rfl) rfl (by omega) fun aa S => ?_
  have hC := hF w (.slice (slA cp 0 2 ad) j cp) j S.gr (by omega) (logOf_cut (S.fact (f := rfRunA g ad cp l) (by simp)) (by omega))
  rw [hx] at hC
  refine sy_call1 S hC (by kernel_rfl) fun aa w hb S => ?_
  refine sy_run ⟨0, [5, 7]⟩ 80 S fun bs aa w S => ?_
  refine sy_reg S fun S => ?_
  refine sy_ops 4 S fun bs aa w S => ?_
  refine sy_ldf S (S.fact (f := rfRunA g ad cp l) (by simp)).1 (by kernel_rfl) fun aa S => ?_
  refine sy_ops 3 S fun bs aa w S => ?_
  refine sy_cond false S (by simp; omega : decide ((j : Int) = (l.length : Int)) = false) (by kernel_rfl) fun S => ?_
  refine sy_run ⟨0, [2]⟩ 50 S fun bs aa w S => ?_
  refine sy_reg S fun S => ?_
  refine sy_ops 2 S fun bs aa w S => ?_
  refine sy_cast 10 S (congrArg (Value.int .i64) (by rw [IntKind.wrap_i64]; omega : IntKind.i64.wrap ((j : Int) + 1) = ((j + 1 : Nat) : Int))) (by kernel_rfl) fun S => ?_
  refine sy_run ⟨0, [999]⟩ 50 S fun bs aa w S => ?_
  have S' := S.to [0] (caS g c0 c1 c2 (j + 1)) (by kernel_rfl) (by kernel_rfl) (by kernel_rfl) (by kernel_rfl) (by kernel_rfl)
  refine sy_at (k := .rnd n (bodyL (caC g c0 c1 c2)) :: (caC g c0 c1 c2).k.tail) (by kernel_rfl) ?_
  exact ih _ aa w S'
set_option maxHeartbeats 8000000 in
theorem ca_last (w0 : World) (g : Nat) (c0 c1 c2 : Value) (l : List (Int × Bool)) (hl : l.length ≤ 1000000) (X : List (Int × Bool) → Ask ⊕ OutD) (hF : CaF w0 g l c0 c1 c2 X) (ad : Option Addr) (cp : Nat) (hcp : l.length ≤ cp) (n : Nat) (q : Ask) (hx : X l = .inl q) 
    (bs : List Nat) (aa : Act) (w : World) (S : Sy w0 (some g) bs (caS g c0 c1 c2 l.length) [rfRunA g ad cp l] aa w) : post Try.prog (.rnd (n + 1) (bodyL (caC g c0 c1 c2)) :: (caC g c0 c1 c2).k.tail) (bodyPost Try.prog Try.f92 (fun e w' => e = .panicked [{ v := .iface 130 q.v, recovered := false }] ∧ w0.grownBy w' (some g))) .normal aa w := by
  obtain ⟨j, hj⟩ : ∃ j, j = l.length := ⟨_, rfl⟩
  rw [← hj] at S
  have hx : X (l.take j) = .inl q := by rw [hj, List.take_length]; exact hx
  refine sy_run (c := ⟨.rnd (n + 1) (bodyL (caC g c0 c1 c2)) :: (caC g c0 c1 c2).k.tail, caS g c0 c1 c2 j⟩) ⟨0, [3]⟩ 50 S fun bs aa w S => ?_
  refine sy_reg S fun S => ?_
  refine sy_ops 4 S fun bs aa w S => ?_
  refine sy_ldf S (S.fact (f := rfRunA g ad cp l) (by simp)).1 (by kernel_rfl) fun aa S => ?_
  refine sy_ops 1 S fun bs aa w S => ?_
  refine sy_slh (ad := ad) (len := l.length) (cap := cp) (n := j) (size := 2) S (by kernel_rfl) rfl (by omega) fun aa S => ?_
  have hC := hF w (.slice (slA cp 0 2 ad) j cp) j S.gr (by omega) (logOf_cut (S.fact (f := rfRunA g ad cp l) (by simp)) (by omega))
  rw [hx] at hC
  refine sy_call1 S hC (by kernel_rfl) fun aa w hb S => ?_
  refine sy_run ⟨0, [5, 7]⟩ 80 S fun bs aa w S => ?_
  refine sy_reg S fun S => ?_
  refine sy_ops 4 S fun bs aa w S => ?_
  refine sy_ldf S (S.fact (f := rfRunA g ad cp l) (by simp)).1 (by kernel_rfl) fun aa S => ?_
  refine sy_ops 3 S fun bs aa w S => ?_
  refine sy_cond true S (by simp; omega : decide ((j : Int) = (l.length : Int)) = true) (by kernel_rfl) fun S => ?_
  refine sy_run ⟨0, []⟩ 50 S fun bs aa w S => ?_
  exact sy_thr S (by kernel_rfl) ⟨rfl, S.gr⟩
set_option maxHeartbeats 8000000 in
theorem ca_done (w0 : World) (g : Nat) (c0 c1 c2 : Value) (l : List (Int × Bool)) (hl : l.length ≤ 1000000) (X : List (Int × Bool) → Ask ⊕ OutD) (hF : CaF w0 g l c0 c1 c2 X) (ad : Option Addr) (cp : Nat) (hcp : l.length ≤ cp) (n j : Nat) (hj : j ≤ l.length) (o : OutD) (hx : X (l.take j) = .inr o)
    (bs : List Nat) (aa : Act) (w : World) (S : Sy w0 (some g) bs (caS g c0 c1 c2 j) [rfRunA g ad cp l] aa w) : post Try.prog (.rnd (n + 1) (bodyL (caC g c0 c1 c2)) :: (caC g c0 c1 c2).k.tail) (bodyPost Try.prog Try.f92 (fun e w' => e = .returned o.v ∧ RunAt w' g (l.drop j) ∧ w0.grownBy w' (some g))) .normal aa w := by
  refine sy_run (c := ⟨.rnd (n + 1) (bodyL (caC g c0 c1 c2)) :: (caC g c0 c1 c2).k.tail, caS g c0 c1 c2 j⟩) ⟨0, [3]⟩ 50 S fun bs aa w S => ?_
  refine sy_reg S fun S => ?_
  refine sy_ops 4 S fun bs aa w S => ?_
  refine sy_ldf S (S.fact (f := rfRunA g ad cp l) (by simp)).1 (by kernel_rfl) fun aa S => ?_
  refine sy_ops 1 S fun bs aa w S => ?_
  refine sy_slh (ad := ad) (len := l.length) (cap := cp) (n := j) (size := 2) S (by kernel_rfl) rfl (by omega) fun aa S => ?_
  have hC := hF w (.slice (slA cp 0 2 ad) j cp) j S.gr (by omega) (logOf_cut (S.fact (f := rfRunA g ad cp l) (by simp)) (by omega))
  rw [hx] at hC
  refine sy_call1 S hC (by kernel_rfl) fun aa w hb S => ?_
  refine sy_run ⟨0, [5, 7]⟩ 80 S fun bs aa w S => ?_
  refine sy_reg S fun S => ?_
  refine sy_ops 4 S fun bs aa w S => ?_
  refine sy_ldf S (S.fact (f := rfRunA g ad cp l) (by simp)).1 (by kernel_rfl) fun aa S => ?_
  refine sy_ops 1 S fun bs aa w S => ?_
  refine sy_sll (ad := ad) (len := l.length) (cap := cp) (n := j) (size := 2) S (by kernel_rfl) rfl (by omega) fun aa S => ?_
  refine sy_run ⟨0, []⟩ 50 S fun bs aa w S => ?_
  have hap := (S.fs _ (by simp : rfRunA g ad cp l ∈ [rfRunA g ad cp l])).2
  have hA : RunA w g ad cp l := S.fact (f := rfRunA g ad cp l) (by simp)
  refine sy_stf (g := g) (o := 0) (ty := 36) (v := .slice (slA cp j 2 ad) (l.length - j) (cp - j)) S (by kernel_rfl) (by kernel_rfl) rfl rfl (by rw [hA.1]; rfl) hA.2.1 (fun i hi he => hap i hi (by show _ ≤ g; omega)) [] (by simp) fun aa S => ?_
  have S := S.add (rfRun g (l.drop j)) (runA_cut hA hj) hap
  refine sy_run ⟨0, []⟩ 50 S fun bs aa w S => ?_
  exact sy_ret S (by kernel_rfl) (by kernel_rfl) fun hg => ⟨rfl, S.run, hg⟩
theorem ca_ret (w0 : World) (g : Nat) (c0 c1 c2 : Value) (l : List (Int × Bool)) (hl : l.length ≤ 1000000) (X : List (Int × Bool) → Ask ⊕ OutD) (hF : CaF w0 g l c0 c1 c2 X) (ad : Option Addr) (cp : Nat) (hcp : l.length ≤ cp) (k : Nat) (hk : k ≤ l.length) (o : OutD) (hx : X (l.take k) = .inr o) (hlt : ∀ j, j < k → ∃ q, X (l.take j) = .inl q) :
    ∀ (r j n : Nat), j + r = k → r < n → ∀ (bs : List Nat) (aa : Act) (w : World), Sy w0 (some g) bs (caS g c0 c1 c2 j) [rfRunA g ad cp l] aa w → post Try.prog (.rnd n (bodyL (caC g c0 c1 c2)) :: (caC g c0 c1 c2).k.tail) (bodyPost Try.prog Try.f92 (fun e w' => e = .returned o.v ∧ RunAt w' g (l.drop k) ∧ w0.grownBy w' (some g))) .normal aa w := by
  intro r
  induction r with
  | zero =>
    intro j n hj hn bs aa w S
    obtain ⟨n, rfl⟩ : ∃ m, n = m + 1 := ⟨n - 1, by omega⟩
    obtain rfl : j = k := by omega
    exact ca_done w0 g c0 c1 c2 l hl X hF ad cp hcp n j hk o hx bs aa w S
  | succ r ih =>
    intro j n hj hn bs aa w S
    obtain ⟨n, rfl⟩ : ∃ m, n = m + 1 := ⟨n - 1, by omega⟩
    obtain ⟨q, hq⟩ := hlt j (by omega)
    exact ca_more w0 g c0 c1 c2 l hl X hF ad cp hcp n j (by omega) q hq (fun bs aa w S => ih (j + 1) n (by omega) (by omega) bs aa w S) bs aa w S
theorem ca_pan (w0 : World) (g : Nat) (c0 c1 c2 : Value) (l : List (Int × Bool)) (hl : l.length ≤ 1000000) (X : List (Int × Bool) → Ask ⊕ OutD) (hF : CaF w0 g l c0 c1 c2 X) (ad : Option Addr) (cp : Nat) (hcp : l.length ≤ cp) (q : Ask) (hx : X l = .inl q) (hlt : ∀ j, j < l.length → ∃ q, X (l.take j) = .inl q) :
    ∀ (r j n : Nat), j + r = l.length → r < n → ∀ (bs : List Nat) (aa : Act) (w : World), Sy w0 (some g) bs (caS g c0 c1 c2 j) [rfRunA g ad cp l] aa w → post Try.prog (.rnd n (bodyL (caC g c0 c1 c2)) :: (caC g c0 c1 c2).k.tail) (bodyPost Try.prog Try.f92 (fun e w' => e = .panicked [{ v := .iface 130 q.v, recovered := false }] ∧ w0.grownBy w' (some g))) .normal aa w := by
  intro r
  induction r with
  | zero =>
    intro j n hj hn bs aa w S
    obtain ⟨n, rfl⟩ : ∃ m, n = m + 1 := ⟨n - 1, by omega⟩
    obtain rfl : j = l.length := by omega
    exact ca_last w0 g c0 c1 c2 l hl X hF ad cp hcp n q hx bs aa w S
  | succ r ih =>
    intro j n hj hn bs aa w S
    obtain ⟨n, rfl⟩ : ∃ m, n = m + 1 := ⟨n - 1, by omega⟩
    obtain ⟨q, hq⟩ := hlt j (by omega)
    exact ca_more w0 g c0 c1 c2 l hl X hF ad cp hcp n j (by omega) q hq (fun bs aa w S => ih (j + 1) n (by omega) (by omega) bs aa w S) bs aa w S
set_option maxHeartbeats 4000000 in
theorem call_ret (w0 : World) (g : Nat) (c0 c1 c2 : Value) (l : List (Int × Bool)) (hl : l.length ≤ 1000000) (X : List (Int × Bool) → Ask ⊕ OutD) (hF : CaF w0 g l c0 c1 c2 X) (hR : RunAt w0 g l) (k : Nat) (hk : k ≤ l.length) (o : OutD) (hx : X (l.take k) = .inr o) (hlt : ∀ j, j < k → ∃ q, X (l.take j) = .inl q) : Calls Try.prog 92 #[.pointer (some ⟨g, 0, none⟩), (.func (.func 93) #[] #[c0, c1, c2])] w0 fun e w' => e = .returned o.v ∧ RunAt w' g (l.drop k) ∧ w0.grownBy w' (some g) := by
  obtain ⟨ad, cp, hR⟩ := hR
  refine sy_enterF (some g) [rfRunA g ad cp l] (by intro f hf; simp at hf; subst hf; exact hR) Try.func92 rfl fun aa S => ?_
  refine sy_run ⟨0, []⟩ 50 S fun bs aa w1 S => ?_
  have S' := S.to [0] (caS g c0 c1 c2 0) (by kernel_rfl) (by kernel_rfl) (by kernel_rfl) (by kernel_rfl) (by kernel_rfl)
  refine sy_loop (l.length + 1) (by kernel_rfl) ?_
  exact ca_ret w0 g c0 c1 c2 l hl X hF ad cp hR.2.2.1 k hk o hx hlt k 0 (l.length + 1) (by omega) (by omega) _ aa w1 S'
set_option maxHeartbeats 4000000 in
theorem call_pan (w0 : World) (g : Nat) (c0 c1 c2 : Value) (l : List (Int × Bool)) (hl : l.length ≤ 1000000) (X : List (Int × Bool) → Ask ⊕ OutD) (hF : CaF w0 g l c0 c1 c2 X) (hR : RunAt w0 g l) (q : Ask) (hx : X l = .inl q) (hlt : ∀ j, j < l.length → ∃ q, X (l.take j) = .inl q) : Calls Try.prog 92 #[.pointer (some ⟨g, 0, none⟩), (.func (.func 93) #[] #[c0, c1, c2])] w0 fun e w' => e = .panicked [{ v := .iface 130 q.v, recovered := false }] ∧ w0.grownBy w' (some g) := by
  obtain ⟨ad, cp, hR⟩ := hR
  refine sy_enterF (some g) [rfRunA g ad cp l] (by intro f hf; simp at hf; subst hf; exact hR) Try.func92 rfl fun aa S => ?_
  refine sy_run ⟨0, []⟩ 50 S fun bs aa w1 S => ?_
  have S' := S.to [0] (caS g c0 c1 c2 0) (by kernel_rfl) (by kernel_rfl) (by kernel_rfl) (by kernel_rfl) (by kernel_rfl)
  refine sy_loop (l.length + 1) (by kernel_rfl) ?_
  exact ca_pan w0 g c0 c1 c2 l hl X hF ad cp hR.2.2.1 q hx hlt l.length 0 (l.length + 1) (by omega) (by omega) _ aa w1 S'
end Go.Proofs.Ytfahnmpcclhjlaa


/-
  Layer 21: the marks of a waiter in the masks of what it has read.
-/
namespace Go.Proofs.Ytfahnmpcclhjlaa
open Go Go.RowKit SX
set_option linter.unusedVariables false
set_option linter.unusedSimpArgs false
set_option maxRecDepth 100000
/-- A mask's change where the reference's test and the program's agree. -/
theorem runP_pre {has : Int → Bool} {ap : Int → Int} (cell : Int) (N : Nat) : ∀ l : List (Int × Bool), l.length < N → (∀ x ∈ l, (has x.1 = true) = (ap x.1 = x.1)) →
    (∀ q, (runP has ap cell l).2.2 = some q → runV ap cell l = .inl q ∧ ∀ j, j < l.length → ∃ q', runV ap cell (l.take j) = .inl q') ∧
    ((runP has ap cell l).2.2 = none → ∃ k, k ≤ l.length ∧ (runP has ap cell l).2.1 = l.drop k ∧ runV ap cell (l.take k) = .inr { ok := (runP has ap cell l).1 } ∧ ∀ j, j < k → ∃ q', runV ap cell (l.take j) = .inl q') := by
  induction N with
  | zero => intro l h; omega
  | succ N ih =>
    intro l hl hh
    rcases l with _ | ⟨r, l⟩
    · refine ⟨fun q hq => ?_, fun h => (by cases h)⟩
      cases hq
      exact ⟨rfl, fun j hj => by simp at hj⟩
    · have e := hh r (by simp)
      by_cases hr : ap r.1 = r.1
      · have h2 : has r.1 = true := by rw [e]; exact hr
        have e1 : runP has ap cell (r :: l) = (false, (l, none)) := by unfold runP; rw [if_pos h2]
        rw [e1]
        refine ⟨fun q hq => (by cases hq), fun _ => ⟨1, by simp, by simp, ?_, fun j hj => ?_⟩⟩
        · show runV ap cell (r :: l.take 0) = _
          unfold runV; rw [if_pos hr]
        · obtain rfl : j = 0 := by omega
          exact ⟨_, rfl⟩
      · have h2 : ¬ has r.1 = true := by rw [e]; exact hr
        rcases l with _ | ⟨⟨y, b⟩, l⟩
        · have e1 : runP has ap cell [r] = (false, ([], some ⟨3, cell, r.1, ap r.1⟩)) := by unfold runP; rw [if_neg h2]
          rw [e1]
          refine ⟨fun q hq => ?_, fun h => (by cases h)⟩
          cases hq
          refine ⟨by unfold runV; rw [if_neg hr], fun j hj => ?_⟩
          obtain rfl : j = 0 := by simpa using hj
          exact ⟨_, rfl⟩
        · have two : ∀ j, runV ap cell ((r :: (y, b) :: l).take (j + 2)) = match b with
              | true => .inr { ok := true }
              | false => runV ap cell (l.take j) := by
            intro j
            show runV ap cell (r :: (y, b) :: l.take j) = _
            conv => lhs; unfold runV
            rw [if_neg hr]
            cases b <;> rfl
          have one : ∃ q', runV ap cell ((r :: (y, b) :: l).take 1) = .inl q' := ⟨⟨3, cell, r.1, ap r.1⟩, by show runV ap cell [r] = _; unfold runV; rw [if_neg hr]⟩
          have nul : ∃ q', runV ap cell ((r :: (y, b) :: l).take 0) = .inl q' := ⟨_, rfl⟩
          cases b with
          | true =>
            have e1 : runP has ap cell (r :: (y, true) :: l) = (true, (l, none)) := by unfold runP; rw [if_neg h2]
            rw [e1]
            refine ⟨fun q hq => (by cases hq), fun _ => ⟨2, by simp, by simp, two 0, fun j hj => ?_⟩⟩
            match j, hj with
            | 0, _ => exact nul
            | 1, _ => exact one
          | false =>
            have e1 : runP has ap cell (r :: (y, false) :: l) = runP has ap cell l := by conv => lhs; unfold runP; rw [if_neg h2]
            rw [e1]
            obtain ⟨i1, i2⟩ := ih l (by simp at hl; omega) (fun x hx => hh x (by simp [hx]))
            refine ⟨fun q hq => ?_, fun h => ?_⟩
            · obtain ⟨j1, j2⟩ := i1 q hq
              refine ⟨?_, fun j hj => ?_⟩
              · have := two l.length
                simp only at this
                rw [show (r :: (y, false) :: l).take (l.length + 2) = r :: (y, false) :: l by simp, List.take_length] at this
                rw [this]; exact j1
              · match j, hj with
                | 0, _ => exact nul
                | 1, _ => exact one
                | j + 2, hj =>
                  rw [two j]
                  exact j2 j (by simp at hj; omega)
            · obtain ⟨k, k1, k2, k3, k4⟩ := i2 h
              refine ⟨k + 2, by simp; omega, by rw [k2]; simp, by rw [two k]; exact k3, fun j hj => ?_⟩
              match j, hj with
              | 0, _ => exact nul
              | 1, _ => exact one
              | j + 2, hj =>
                rw [two j]
                exact k4 j (by omega)
def hasK (k me : Int) (m : Int) : Bool := if k = 3 then isIn m me else !isIn m me
def apK (k me : Int) (m : Int) : Int := if k = 3 then withT m me else sansT m me
theorem hasK_ap {k me : Int} (ht : 0 ≤ me ∧ me ≤ 61) (m : Int) : (hasK k me m = true) = (apK k me m = m) := by
  unfold hasK apK
  by_cases h : k = 3
  · rw [if_pos h, if_pos h]; exact has_with ht m
  · rw [if_neg h, if_neg h]; exact has_sans ht m
/-- The marks in the masks of these locations. -/
def markS (L : Ly) (me k : Int) : List (Int × Int × Int) → List (Int × Bool) → CSt
  | [], l => (l, none)
  | s :: S, l => match (runP (hasK k me) (apK k me) (atWaiters L s.1) l).2 with
    | (l', some q) => (l', some q)
    | (l', none) => markS L me k S l'
theorem runP_rest {has : Int → Bool} {ap : Int → Int} (cell : Int) (N : Nat) : ∀ l : List (Int × Bool), l.length < N → (∀ x ∈ (runP has ap cell l).2.1, x ∈ l) ∧ (runP has ap cell l).2.1.length ≤ l.length := by
  induction N with
  | zero => intro l h; omega
  | succ N ih =>
    intro l hl
    rcases l with _ | ⟨r, l⟩
    · exact ⟨fun x hx => hx, Nat.le_refl _⟩
    · by_cases h2 : has r.1 = true
      · have e1 : runP has ap cell (r :: l) = (false, (l, none)) := by unfold runP; rw [if_pos h2]
        rw [e1]
        exact ⟨fun x hx => List.mem_cons_of_mem _ hx, by simp⟩
      · rcases l with _ | ⟨⟨y, b⟩, l⟩
        · have e1 : runP has ap cell [r] = (false, ([], some ⟨3, cell, r.1, ap r.1⟩)) := by unfold runP; rw [if_neg h2]
          rw [e1]
          exact ⟨fun x hx => by simp at hx, by simp⟩
        · cases b with
          | true =>
            have e1 : runP has ap cell (r :: (y, true) :: l) = (true, (l, none)) := by unfold runP; rw [if_neg h2]
            rw [e1]
            exact ⟨fun x hx => by simp [show x ∈ l from hx], by simp; omega⟩
          | false =>
            have e1 : runP has ap cell (r :: (y, false) :: l) = runP has ap cell l := by conv => lhs; unfold runP; rw [if_neg h2]
            rw [e1]
            obtain ⟨i1, i2⟩ := ih l (by simp at hl; omega)
            exact ⟨fun x hx => by simp [i1 x hx], by simp; omega⟩
/-- The locations and versions that were read lie here. -/
def SeenAt (w : World) (b o : Nat) (S : List (Int × Int × Int)) : Prop := ∀ j, j < S.length → w.cell? ⟨b, o + j * 3, none⟩ = some (.int .i64 (S.getD j (0, 0, 0)).1) ∧ w.cell? ⟨b, o + j * 3 + 1, none⟩ = some (.int .i64 (S.getD j (0, 0, 0)).2.1) ∧ w.cell? ⟨b, o + j * 3 + 2, none⟩ = some (.int .i64 (S.getD j (0, 0, 0)).2.2)
theorem seenAt_st {w w' : World} {b o : Nat} {S : List (Int × Int × Int)} (h : SeenAt w b o S) (hb : w'.heap[b]? = w.heap[b]?) : SeenAt w' b o S := fun j hj => ⟨(World.cell?_of_block (a := ⟨b, o + j * 3, none⟩) hb).trans (h j hj).1, (World.cell?_of_block (a := ⟨b, o + j * 3 + 1, none⟩) hb).trans (h j hj).2.1, (World.cell?_of_block (a := ⟨b, o + j * 3 + 2, none⟩) hb).trans (h j hj).2.2⟩
def rfSeen (b o : Nat) (S : List (Int × Int × Int)) : RF := ⟨fun b' => b' = b ∧ S.length ≠ 0, fun w => SeenAt w b o S, fun w h b' hb => by
  obtain ⟨rfl, hl⟩ := hb
  exact World.block_lt_of_cell? w _ (h 0 (by omega)).1, fun w w' h hb => by
  by_cases h0 : S.length = 0
  · intro j hj; omega
  · exact seenAt_st h (hb b ⟨rfl, h0⟩)⟩
theorem ld_seen {w : World} {b o j : Nat} {S : List (Int × Int × Int)} (h : SeenAt w b o S) (hj : j < S.length) : (loadVar 74 ⟨b, o + j * 3, none⟩).run Try.prog w = .ok (.agg #[.int .i64 (S.getD j (0, 0, 0)).1, .int .i64 (S.getD j (0, 0, 0)).2.1, .int .i64 (S.getD j (0, 0, 0)).2.2]) w := by
  obtain ⟨h0, h1, h2⟩ := h j hj
  refine run_loadVar_mid w b (o + j * 3) 74 [.int .i64 (S.getD j (0, 0, 0)).1, .int .i64 (S.getD j (0, 0, 0)).2.1, .int .i64 (S.getD j (0, 0, 0)).2.2] _ ?_ Try.underlying74 rfl (by kernel_rfl)
  intro i x hi
  match i, hi with
  | 0, hi => simp at hi; subst hi; exact h0
  | 1, hi => simp at hi; subst hi; exact h1
  | 2, hi => simp at hi; subst hi; exact h2
  | i + 3, hi => simp at hi
/-- A waiter. -/
def waC (g : Nat) (L : Ly) (me : Int) (sv : Value) : List Value := [.pointer (some ⟨g, 0, none⟩), .int .i64 L.c.t, .int .i64 L.c.l, .int .i64 L.c.k, .int .i64 L.c.s, .int .i64 L.c.m, .int .i64 L.clock, .int .i64 L.stamps, .int .i64 L.log, .int .i64 L.fin, .int .i64 L.thread, .int .i64 L.lock, .int .i64 L.loc, .int .i64 L.size, .int .i64 me, sv]
attribute [local irreducible] post
set_option maxHeartbeats 4000000 in
theorem mk1_3 (w : World) (g b0 b1 b2 : Nat) (L : Ly) (hok : L.ok) (me : Int) (sa : Option Addr) (sl sc : Nat) (loc ver val : Int) (v : Value) (l : List (Int × Bool)) (hv : LogOf w v l) (hI : ∀ x ∈ l, I64 x.1)
    (h0 : w.heap[b0]? = some (.cells (waC g L me (.slice sa sl sc)).toArray 91 (0, 0))) (h1 : w.heap[b1]? = some (.cells ([.int .i64 3] : List Value).toArray 3 (0, 0))) (h2 : w.heap[b2]? = some (.cells ([.int .i64 loc, .int .i64 ver, .int .i64 val] : List Value).toArray 74 (0, 0)))
    (hc : decide (atWaiters L loc < 0) = false) (hs : decide (atStatus L me < 0) = false) (x : Ask ⊕ OutD) (hx : runV (fun m => withT m me) (atWaiters L loc) l = x) :
    Calls Try.prog 93 #[v, .pointer (some ⟨b0, 0, none⟩), .pointer (some ⟨b1, 0, none⟩), .pointer (some ⟨b2, 0, none⟩)] w fun e w' => e = .returned (nextV x) ∧ Below w.heap.size w w' := by
  refine sy_enterF none [rfLog v l, rfBox b0 91 (waC g L me (.slice sa sl sc)), rfBox b1 3 [.int .i64 3], rfBox b2 74 [.int .i64 loc, .int .i64 ver, .int .i64 val]] (by
    intro f hf
    simp only [List.mem_cons, List.not_mem_nil, or_false] at hf
    rcases hf with rfl | rfl | rfl | rfl
    · exact hv
    · exact h0
    · exact h1
    · exact h2) Try.func93 rfl fun aa S => ?_
  refine sy_run ⟨0, []⟩ 60 S fun bs aa w1 S => ?_
  refine sy_ldo S (S.ldBox (b := b0) (ty' := 91) (cs := (waC g L me (.slice sa sl sc))) (o := 1) (ty := 42) (v := L.v) (by simp) (by kernel_rfl)) (by kernel_rfl) fun aa S => ?_
  refine sy_run ⟨0, []⟩ 60 S fun bs aa w1 S => ?_
  refine sy_ldo S (S.ldBox (b := b0) (ty' := 91) (cs := (waC g L me (.slice sa sl sc))) (o := 14) (ty := 3) (v := .int .i64 me) (by simp) (by kernel_rfl)) (by kernel_rfl) fun aa S => ?_
  refine sy_run ⟨0, []⟩ 60 S fun bs aa w1 S => ?_
  refine sy_ldo S (S.ldBox (b := b1) (ty' := 3) (cs := [.int .i64 3]) (o := 0) (ty := 3) (v := .int .i64 3) (by simp) (by kernel_rfl)) (by kernel_rfl) fun aa S => ?_
  refine sy_run ⟨0, []⟩ 60 S fun bs aa w1 S => ?_
  refine sy_ldo S (S.ldBox (b := b2) (ty' := 74) (cs := [.int .i64 loc, .int .i64 ver, .int .i64 val]) (o := 0) (ty := 3) (v := .int .i64 loc) (by simp) (by kernel_rfl)) (by kernel_rfl) fun aa S => ?_
  refine sy_run ⟨0, []⟩ 60 S fun bs aa w1 S => ?_
  refine sy_call1 S (nxtc_3 w1 L hok me loc 0 0 0 0 0 none none none 0 0 0 0 0 0 v l (S.fact (f := rfLog v l) (by simp)) hI hc hs x hx) (by kernel_rfl) fun aa w2 hb S => ?_
  cases x with
  | inl q =>
    refine sy_run ⟨0, []⟩ 60 S fun bs aa w1 S => ?_
    exact sy_ret S (by kernel_rfl) (by kernel_rfl) fun hg => ⟨rfl, below_of_gr hg⟩
  | inr o =>
    refine sy_run ⟨0, []⟩ 60 S fun bs aa w1 S => ?_
    exact sy_ret S (by kernel_rfl) (by kernel_rfl) fun hg => ⟨rfl, below_of_gr hg⟩
set_option maxHeartbeats 4000000 in
theorem mk1_4 (w : World) (g b0 b1 b2 : Nat) (L : Ly) (hok : L.ok) (me : Int) (sa : Option Addr) (sl sc : Nat) (loc ver val : Int) (v : Value) (l : List (Int × Bool)) (hv : LogOf w v l) (hI : ∀ x ∈ l, I64 x.1)
    (h0 : w.heap[b0]? = some (.cells (waC g L me (.slice sa sl sc)).toArray 91 (0, 0))) (h1 : w.heap[b1]? = some (.cells ([.int .i64 4] : List Value).toArray 3 (0, 0))) (h2 : w.heap[b2]? = some (.cells ([.int .i64 loc, .int .i64 ver, .int .i64 val] : List Value).toArray 74 (0, 0)))
    (hc : decide (atWaiters L loc < 0) = false) (hs : decide (atStatus L me < 0) = false) (x : Ask ⊕ OutD) (hx : runV (fun m => sansT m me) (atWaiters L loc) l = x) :
    Calls Try.prog 93 #[v, .pointer (some ⟨b0, 0, none⟩), .pointer (some ⟨b1, 0, none⟩), .pointer (some ⟨b2, 0, none⟩)] w fun e w' => e = .returned (nextV x) ∧ Below w.heap.size w w' := by
  refine sy_enterF none [rfLog v l, rfBox b0 91 (waC g L me (.slice sa sl sc)), rfBox b1 3 [.int .i64 4], rfBox b2 74 [.int .i64 loc, .int .i64 ver, .int .i64 val]] (by
    intro f hf
    simp only [List.mem_cons, List.not_mem_nil, or_false] at hf
    rcases hf with rfl | rfl | rfl | rfl
    · exact hv
    · exact h0
    · exact h1
    · exact h2) Try.func93 rfl fun aa S => ?_
  refine sy_run ⟨0, []⟩ 60 S fun bs aa w1 S => ?_
  refine sy_ldo S (S.ldBox (b := b0) (ty' := 91) (cs := (waC g L me (.slice sa sl sc))) (o := 1) (ty := 42) (v := L.v) (by simp) (by kernel_rfl)) (by kernel_rfl) fun aa S => ?_
  refine sy_run ⟨0, []⟩ 60 S fun bs aa w1 S => ?_
  refine sy_ldo S (S.ldBox (b := b0) (ty' := 91) (cs := (waC g L me (.slice sa sl sc))) (o := 14) (ty := 3) (v := .int .i64 me) (by simp) (by kernel_rfl)) (by kernel_rfl) fun aa S => ?_
  refine sy_run ⟨0, []⟩ 60 S fun bs aa w1 S => ?_
  refine sy_ldo S (S.ldBox (b := b1) (ty' := 3) (cs := [.int .i64 4]) (o := 0) (ty := 3) (v := .int .i64 4) (by simp) (by kernel_rfl)) (by kernel_rfl) fun aa S => ?_
  refine sy_run ⟨0, []⟩ 60 S fun bs aa w1 S => ?_
  refine sy_ldo S (S.ldBox (b := b2) (ty' := 74) (cs := [.int .i64 loc, .int .i64 ver, .int .i64 val]) (o := 0) (ty := 3) (v := .int .i64 loc) (by simp) (by kernel_rfl)) (by kernel_rfl) fun aa S => ?_
  refine sy_run ⟨0, []⟩ 60 S fun bs aa w1 S => ?_
  refine sy_call1 S (nxtc_4 w1 L hok me loc 0 0 0 0 0 none none none 0 0 0 0 0 0 v l (S.fact (f := rfLog v l) (by simp)) hI hc hs x hx) (by kernel_rfl) fun aa w2 hb S => ?_
  cases x with
  | inl q =>
    refine sy_run ⟨0, []⟩ 60 S fun bs aa w1 S => ?_
    exact sy_ret S (by kernel_rfl) (by kernel_rfl) fun hg => ⟨rfl, below_of_gr hg⟩
  | inr o =>
    refine sy_run ⟨0, []⟩ 60 S fun bs aa w1 S => ?_
    exact sy_ret S (by kernel_rfl) (by kernel_rfl) fun hg => ⟨rfl, below_of_gr hg⟩
theorem mk1_any (w : World) (g b0 b1 b2 : Nat) (L : Ly) (hok : L.ok) (me kk : Int) (hkk : kk = 3 ∨ kk = 4) (sa : Option Addr) (sl sc : Nat) (loc ver val : Int) (v : Value) (l : List (Int × Bool)) (hv : LogOf w v l) (hI : ∀ x ∈ l, I64 x.1)
    (h0 : w.heap[b0]? = some (.cells (waC g L me (.slice sa sl sc)).toArray 91 (0, 0))) (h1 : w.heap[b1]? = some (.cells ([.int .i64 kk] : List Value).toArray 3 (0, 0))) (h2 : w.heap[b2]? = some (.cells ([.int .i64 loc, .int .i64 ver, .int .i64 val] : List Value).toArray 74 (0, 0)))
    (hc : decide (atWaiters L loc < 0) = false) (hs : decide (atStatus L me < 0) = false) :
    Calls Try.prog 93 #[v, .pointer (some ⟨b0, 0, none⟩), .pointer (some ⟨b1, 0, none⟩), .pointer (some ⟨b2, 0, none⟩)] w fun e w' => e = .returned (nextV (runV (apK kk me) (atWaiters L loc) l)) ∧ Below w.heap.size w w' := by
  rcases hkk with rfl | rfl
  · exact mk1_3 w g b0 b1 b2 L hok me sa sl sc loc ver val v l hv hI h0 h1 h2 hc hs _ rfl
  · exact mk1_4 w g b0 b1 b2 L hok me sa sl sc loc ver val v l hv hI h0 h1 h2 hc hs _ rfl
end Go.Proofs.Ytfahnmpcclhjlaa


/-
  Layer 21: all marks of a waiter; a look at a lock with what it leaves of the log.
-/
namespace Go.Proofs.Ytfahnmpcclhjlaa
open Go Go.RowKit SX
set_option linter.unusedVariables false
set_option linter.unusedSimpArgs false
set_option maxRecDepth 100000
attribute [local irreducible] post
/-- What an operation over a run leaves with: a panic with its access, or this value and the rest of the log. -/
def CsPost (s : CSt) (v : Value) (g : Nat) (w : World) (e : Ending) (w' : World) : Prop := match s with
  | (_, some q) => e = .panicked [{ v := .iface 130 q.v, recovered := false }] ∧ w.grownBy w' (some g)
  | (l', none) => e = .returned v ∧ RunAt w' g l' ∧ w.grownBy w' (some g)
theorem SX.Sy.own {w0 : World} {r : Option Nat} {bs : List Nat} {s : SS} {F : List RF} {a : Act} {w : World} {g : Nat} {l : List (Int × Bool)} (S : Sy w0 r bs s F a w) (hf : rfRun g l ∈ F) (i : Nat) (k : Bx) (hk : s.K[i]? = some k) : w.heap[bs.getD i 0]? = some (.cells k.cs.toArray k.ty (0, 0)) ∧ bs.getD i 0 < w.heap.size ∧ bs.getD i 0 ≠ g := by
  have h := S.bx i k hk
  refine ⟨h, (Array.getElem?_eq_some_iff.1 h).1, fun he => (S.fs _ hf).2 i (by rw [S.bl]; exact (List.getElem?_eq_some_iff.1 hk).1) (by show _ ≤ g; omega)⟩
theorem heap_gb {w w' : World} {g b : Nat} {o : Obj} (hg : w.grownBy w' (some g)) (h : w.heap[b]? = some o) (hne : b ≠ g) : w'.heap[b]? = some o := (hg.block b (Array.getElem?_eq_some_iff.1 h).1 (by simpa using hne)).trans h
set_option maxHeartbeats 4000000 in
theorem lk_0 (w : World) (g : Nat) (p v : Int) (h0 : RunAt w g []) : Calls Try.prog 74 #[.pointer (some ⟨g, 0, none⟩), .int .i64 p, .int .i64 v] w fun e w' => e = .panicked [{ v := .iface 130 (Ask.v ⟨1, p, 0, 0⟩), recovered := false }] ∧ w.grownBy w' (some g) := by
  refine sy_enterF (some g) [rfRun g []] (by intro f hf; simp at hf; subst hf; exact h0) Try.func74 rfl fun aa S => ?_
  refine sy_run ⟨0, []⟩ 50 S fun bs aa w S => ?_
  exact sy_panic S ((load_none w g p S.run).mono fun e w' h => ⟨h.1, gb_of_below _ h.2⟩) (by kernel_rfl) fun w' hg => ⟨rfl, hg⟩
set_option maxHeartbeats 4000000 in
theorem lk_t (w : World) (g : Nat) (p v : Int) (r : Int × Bool) (l : List (Int × Bool)) (hr : r.1 = wrap64 (2 * v)) (h0 : RunAt w g (r :: l)) : Calls Try.prog 74 #[.pointer (some ⟨g, 0, none⟩), .int .i64 p, .int .i64 v] w fun e w' => e = .returned (OutD.v { ok := true }) ∧ RunAt w' g l ∧ w.grownBy w' (some g) := by
  refine sy_enterF (some g) [rfRun g (r :: l)] (by intro f hf; simp at hf; subst hf; exact h0) Try.func74 rfl fun aa S => ?_
  refine sy_run ⟨0, []⟩ 50 S fun bs aa w S => ?_
  refine sy_acc S (Or.inl rfl) (load_some w g r l p S.run) (by kernel_rfl) (by simp) fun aa w S => ?_
  refine sy_run ⟨0, [2]⟩ 60 S fun bs aa w S => ?_
  refine sy_reg S fun S => ?_
  refine sy_ops 2 S fun bs aa w S => ?_
  refine sy_call1 S (toBelow (free_any v w)) (by kernel_rfl) fun aa w hb S => ?_
  refine sy_ops 2 S fun bs aa w S => ?_
  refine sy_cond true S (decide_eq_true hr : decide (r.1 = wrap64 (2 * v)) = true) (by kernel_rfl) fun S => ?_
  refine sy_run ⟨0, []⟩ 50 S fun bs aa w S => ?_
  exact sy_ret S (by kernel_rfl) (by kernel_rfl) fun hg => ⟨rfl, S.run, hg⟩
set_option maxHeartbeats 4000000 in
theorem lk_h (w : World) (g : Nat) (p v : Int) (r : Int × Bool) (l : List (Int × Bool)) (hr : ¬ r.1 = wrap64 (2 * v)) (hq : decide (r.1 % 2 = 1) = true) (h0 : RunAt w g (r :: l)) : Calls Try.prog 74 #[.pointer (some ⟨g, 0, none⟩), .int .i64 p, .int .i64 v] w fun e w' => e = .returned (OutD.v { val := r.1 / 2 }) ∧ RunAt w' g l ∧ w.grownBy w' (some g) := by
  refine sy_enterF (some g) [rfRun g (r :: l)] (by intro f hf; simp at hf; subst hf; exact h0) Try.func74 rfl fun aa S => ?_
  refine sy_run ⟨0, []⟩ 50 S fun bs aa w S => ?_
  refine sy_acc S (Or.inl rfl) (load_some w g r l p S.run) (by kernel_rfl) (by simp) fun aa w S => ?_
  refine sy_run ⟨0, [2]⟩ 60 S fun bs aa w S => ?_
  refine sy_reg S fun S => ?_
  refine sy_ops 2 S fun bs aa w S => ?_
  refine sy_call1 S (toBelow (free_any v w)) (by kernel_rfl) fun aa w hb S => ?_
  refine sy_ops 2 S fun bs aa w S => ?_
  refine sy_cond false S (decide_eq_false hr : decide (r.1 = wrap64 (2 * v)) = false) (by kernel_rfl) fun S => ?_
  refine sy_run ⟨0, []⟩ 50 S fun bs aa w S => ?_
  have hl := locked_any r.1 w
  rw [hq] at hl
  refine sy_call1 S (toBelow hl) (by kernel_rfl) fun aa w hb S => ?_
  refine sy_run ⟨0, []⟩ 50 S fun bs aa w S => ?_
  refine sy_call1 S (toBelow (who_any r.1 w)) (by kernel_rfl) fun aa w hb S => ?_
  refine sy_run ⟨0, []⟩ 50 S fun bs aa w S => ?_
  exact sy_ret S (by kernel_rfl) (by kernel_rfl) fun hg => ⟨rfl, S.run, hg⟩
set_option maxHeartbeats 4000000 in
theorem lk_f (w : World) (g : Nat) (p v : Int) (r : Int × Bool) (l : List (Int × Bool)) (hr : ¬ r.1 = wrap64 (2 * v)) (hq : decide (r.1 % 2 = 1) = false) (h0 : RunAt w g (r :: l)) : Calls Try.prog 74 #[.pointer (some ⟨g, 0, none⟩), .int .i64 p, .int .i64 v] w fun e w' => e = .returned (OutD.v { val := -1 }) ∧ RunAt w' g l ∧ w.grownBy w' (some g) := by
  refine sy_enterF (some g) [rfRun g (r :: l)] (by intro f hf; simp at hf; subst hf; exact h0) Try.func74 rfl fun aa S => ?_
  refine sy_run ⟨0, []⟩ 50 S fun bs aa w S => ?_
  refine sy_acc S (Or.inl rfl) (load_some w g r l p S.run) (by kernel_rfl) (by simp) fun aa w S => ?_
  refine sy_run ⟨0, [2]⟩ 60 S fun bs aa w S => ?_
  refine sy_reg S fun S => ?_
  refine sy_ops 2 S fun bs aa w S => ?_
  refine sy_call1 S (toBelow (free_any v w)) (by kernel_rfl) fun aa w hb S => ?_
  refine sy_ops 2 S fun bs aa w S => ?_
  refine sy_cond false S (decide_eq_false hr : decide (r.1 = wrap64 (2 * v)) = false) (by kernel_rfl) fun S => ?_
  refine sy_run ⟨0, []⟩ 50 S fun bs aa w S => ?_
  have hl := locked_any r.1 w
  rw [hq] at hl
  refine sy_call1 S (toBelow hl) (by kernel_rfl) fun aa w hb S => ?_
  refine sy_run ⟨0, []⟩ 50 S fun bs aa w S => ?_
  exact sy_ret S (by kernel_rfl) (by kernel_rfl) fun hg => ⟨rfl, S.run, hg⟩

noncomputable def maC (g : Nat) (L : Ly) (me kk : Int) (sa : Option Addr) (sl sc : Nat) : Cfg := runC Try.prog ⟨0, []⟩ 50 (cfg0 Try.f73 #[.agg (waC g L me (.slice sa sl sc)).toArray, .int .i64 kk])
noncomputable def maS (g : Nat) (L : Ly) (me kk : Int) (sa : Option Addr) (sl sc : Nat) (j : Nat) : SS := ⟨(maC g L me kk sa sl sc).s.n, [(2, .p 0 0), (3, .p 1 0), (7, .v (.slice sa sl sc)), (8, .v (.int .i64 (sl : Int))), (9, .v (.int .i64 (j : Int)))], [⟨91, waC g L me (.slice sa sl sc)⟩, ⟨3, [.int .i64 kk]⟩]⟩
theorem markS_step {L : Ly} {me kk : Int} {Q : List (Int × Int × Int)} {j : Nat} (hj : j < Q.length) (l : List (Int × Bool)) : markS L me kk (Q.drop j) l = match (runP (hasK kk me) (apK kk me) (atWaiters L (Q.getD j (0, 0, 0)).1) l).2 with
    | (l', some q) => (l', some q)
    | (l', none) => markS L me kk (Q.drop (j + 1)) l' := by
  have e : Q.drop j = Q.getD j (0, 0, 0) :: Q.drop (j + 1) := by
    rw [List.drop_eq_getElem_cons hj]
    simp [List.getD, List.getElem?_eq_getElem hj]
  rw [e]
  rfl
set_option maxHeartbeats 8000000 in
theorem ma_end (w0 : World) (g : Nat) (L : Ly) (me kk : Int) (sa : Option Addr) (sl sc : Nat) (b o : Nat) (Q : List (Int × Int × Int)) (hQ : Q.length = sl) (n : Nat) (l : List (Int × Bool)) (bs : List Nat) (aa : Act) (w : World) (S : Sy w0 (some g) bs (maS g L me kk sa sl sc sl) [rfRun g l, rfSeen b o Q] aa w) :
    post Try.prog (.rnd (n + 1) (bodyL (maC g L me kk sa sl sc)) :: (maC g L me kk sa sl sc).k.tail) (bodyPost Try.prog Try.f73 (CsPost (l, none) (.tuple #[]) g w0)) .normal aa w := by
  refine sy_run (c := ⟨(.rnd (n + 1) (bodyL (maC g L me kk sa sl sc)) :: (maC g L me kk sa sl sc).k.tail), maS g L me kk sa sl sc sl⟩) ⟨0, [2]⟩ 50 S fun bs aa w S => ?_
  refine sy_reg S fun S => ?_
  refine sy_ops 2 S fun bs aa w S => ?_
  refine sy_run ⟨0, []⟩ 1 S fun bs aa w S => ?_
  refine sy_cond false S (by simp : decide ((sl : Int) < (sl : Int)) = false) (by kernel_rfl) fun S => ?_
  refine sy_run ⟨0, []⟩ 50 S fun bs aa w S => ?_
  exact sy_ret S (by kernel_rfl) (by kernel_rfl) fun hg => ⟨rfl, S.run, hg⟩
set_option maxHeartbeats 8000000 in
theorem ma_step (w0 : World) (g : Nat) (L : Ly) (hok : L.ok) (me kk : Int) (hkk : kk = 3 ∨ kk = 4) (ht : 0 ≤ me ∧ me ≤ 61) (hs : decide (atStatus L me < 0) = false) (sa : Option Addr) (sl sc : Nat) (b o : Nat) (Q : List (Int × Int × Int)) (hQ : Q.length = sl) (hbg : b ≠ g) (n j : Nat) (hj : j < sl) (hsa : sa = some ⟨b, o, none⟩)
    (hw : decide (atWaiters L (Q.getD j (0, 0, 0)).1 < 0) = false) (l : List (Int × Bool)) (hl : l.length ≤ 1000000) (hI : ∀ x ∈ l, I64 x.1) {v : Value}
    (ih : ∀ (l : List (Int × Bool)) (bs : List Nat) (aa : Act) (w : World), l.length ≤ 1000000 → (∀ x ∈ l, I64 x.1) → Sy w0 (some g) bs (maS g L me kk sa sl sc (j + 1)) [rfRun g l, rfSeen b o Q] aa w → post Try.prog (.rnd (n) (bodyL (maC g L me kk sa sl sc)) :: (maC g L me kk sa sl sc).k.tail) (bodyPost Try.prog Try.f73 (CsPost (markS L me kk (Q.drop (j + 1)) l) (.tuple #[]) g w0)) .normal aa w)
    (hsl : sl ≤ 1000000) (bs : List Nat) (aa : Act) (w : World) (S : Sy w0 (some g) bs (maS g L me kk sa sl sc j) [rfRun g l, rfSeen b o Q] aa w) :
    post Try.prog (.rnd (n + 1) (bodyL (maC g L me kk sa sl sc)) :: (maC g L me kk sa sl sc).k.tail) (bodyPost Try.prog Try.f73 (CsPost (markS L me kk (Q.drop j) l) (.tuple #[]) g w0)) .normal aa w := by
  rw [markS_step (by omega)]
  refine sy_run (c := ⟨(.rnd (n + 1) (bodyL (maC g L me kk sa sl sc)) :: (maC g L me kk sa sl sc).k.tail), maS g L me kk sa sl sc j⟩) ⟨0, [2]⟩ 50 S fun bs aa w S => ?_
  refine sy_reg S fun S => ?_
  refine sy_ops 2 S fun bs aa w S => ?_
  refine sy_run ⟨0, []⟩ 1 S fun bs aa w S => ?_
  refine sy_cond true S (by simp; omega : decide ((j : Int) < (sl : Int)) = true) (by kernel_rfl) fun S => ?_
  refine sy_run ⟨0, [3]⟩ 50 S fun bs aa w S => ?_
  refine sy_reg S fun S => ?_
  refine sy_ix (b := b) (off := o) (len := sl) (n := j) (size := 3) (i := (j : Int)) S (by rw [← hsa]; kernel_rfl) rfl hj fun aa S => ?_
  refine sy_run ⟨0, []⟩ 50 S fun bs aa w S => ?_
  refine sy_ldo S (ld_seen (j := j) (S.fact (f := rfSeen b o Q) (by simp)) (by omega)) (by kernel_rfl) fun aa S => ?_
  refine sy_run ⟨0, []⟩ 50 S fun bs aa w S => ?_
  generalize hBS : (_ ++ bs : List Nat) = BS at S
  obtain ⟨b0, n0, g0⟩ := S.own (g := g) (l := l) (by simp) 0 ⟨91, waC g L me (.slice sa sl sc)⟩ (by kernel_rfl)
  obtain ⟨b1, n1, g1⟩ := S.own (g := g) (l := l) (by simp) 1 ⟨3, [.int .i64 kk]⟩ (by kernel_rfl)
  obtain ⟨b2, n2, g2⟩ := S.own (g := g) (l := l) (by simp) 2 ⟨74, [.int .i64 (Q.getD j (0, 0, 0)).1, .int .i64 (Q.getD j (0, 0, 0)).2.1, .int .i64 (Q.getD j (0, 0, 0)).2.2]⟩ (by kernel_rfl)
  have hF : CaF w g l (.pointer (some ⟨BS.getD 0 0, 0, none⟩)) (.pointer (some ⟨BS.getD 1 0, 0, none⟩)) (.pointer (some ⟨BS.getD 2 0, 0, none⟩)) (runV (apK kk me) (atWaiters L (Q.getD j (0, 0, 0)).1)) := fun w2 v k hg hk hv =>
    mk1_any w2 g _ _ _ L hok me kk hkk sa sl sc _ _ _ v (l.take k) hv (fun x hx => hI x (List.mem_of_mem_take hx)) (heap_gb hg b0 g0) (heap_gb hg b1 g1) (heap_gb hg b2 g2) hw hs
  obtain ⟨p1, p2⟩ := runP_pre (has := hasK kk me) (ap := apK kk me) (atWaiters L (Q.getD j (0, 0, 0)).1) (l.length + 1) l (by omega) (fun x _ => hasK_ap ht x.1)
  have hrest := runP_rest (has := hasK kk me) (ap := apK kk me) (atWaiters L (Q.getD j (0, 0, 0)).1) (l.length + 1) l (by omega)
  obtain ⟨⟨ob, l', oq⟩, hX⟩ : ∃ X, runP (hasK kk me) (apK kk me) (atWaiters L (Q.getD j (0, 0, 0)).1) l = X := ⟨_, rfl⟩
  rw [hX] at p1 p2 hrest ⊢
  simp only at p1 p2 hrest ⊢
  cases oq with
  | some q =>
    obtain ⟨q1, q2⟩ := p1 q rfl
    exact sy_panic S (call_pan w g _ _ _ l hl _ hF S.run q q1 q2) (by kernel_rfl) fun w' hg => ⟨rfl, hg⟩
  | none =>
    obtain ⟨k, k1, k2, k3, k4⟩ := p2 rfl
    have hC := call_ret w g _ _ _ l hl _ hF S.run k k1 _ k3 k4
    rw [← k2] at hC
    refine sy_acc S (Or.inl rfl) hC (by kernel_rfl) (by intro f hf; simp at hf; subst hf; exact fun h => hbg h.1.symm) fun aa w S => ?_
    refine sy_run ⟨0, [5]⟩ 50 S fun bs aa w S => ?_
    refine sy_reg S fun S => ?_
    refine sy_ops 1 S fun bs aa w S => ?_
    refine sy_cast 17 S (congrArg (Value.int .i64) (by rw [IntKind.wrap_i64]; omega : IntKind.i64.wrap ((j : Int) + 1) = ((j + 1 : Nat) : Int))) (by kernel_rfl) fun S => ?_
    refine sy_run ⟨0, [999]⟩ 50 S fun bs aa w S => ?_
    have S' := S.to [0, 1] (maS g L me kk sa sl sc (j + 1)) (by kernel_rfl) (by kernel_rfl) (by kernel_rfl) (by kernel_rfl) (by kernel_rfl)
    refine sy_at (k := (.rnd (n) (bodyL (maC g L me kk sa sl sc)) :: (maC g L me kk sa sl sc).k.tail)) (by kernel_rfl) ?_
    exact ih l' _ aa w (by omega) (fun x hx => hI x (hrest.1 x hx)) S'
theorem ma_all (w0 : World) (g : Nat) (L : Ly) (hok : L.ok) (me kk : Int) (hkk : kk = 3 ∨ kk = 4) (ht : 0 ≤ me ∧ me ≤ 61) (hs : decide (atStatus L me < 0) = false) (sa : Option Addr) (sl sc : Nat) (b o : Nat) (Q : List (Int × Int × Int)) (hQ : Q.length = sl) (hbg : b ≠ g) (hsa : sl = 0 ∨ sa = some ⟨b, o, none⟩)
    (hw : ∀ s ∈ Q, decide (atWaiters L s.1 < 0) = false) (hsl : sl ≤ 1000000) : ∀ (r j : Nat), j + r = sl → ∀ (l : List (Int × Bool)) (bs : List Nat) (aa : Act) (w : World), l.length ≤ 1000000 → (∀ x ∈ l, I64 x.1) → Sy w0 (some g) bs (maS g L me kk sa sl sc j) [rfRun g l, rfSeen b o Q] aa w → post Try.prog (.rnd (r + 1) (bodyL (maC g L me kk sa sl sc)) :: (maC g L me kk sa sl sc).k.tail) (bodyPost Try.prog Try.f73 (CsPost (markS L me kk (Q.drop j) l) (.tuple #[]) g w0)) .normal aa w := by
  intro r
  induction r with
  | zero =>
    intro j hj l bs aa w hl hI S
    obtain rfl : j = sl := by omega
    rw [List.drop_of_length_le (by omega)]
    exact ma_end w0 g L me kk sa j sc b o Q hQ 0 l bs aa w S
  | succ r ih =>
    intro j hj l bs aa w hl hI S
    have hq : Q.getD j (0, 0, 0) ∈ Q := by
      rw [List.getD, List.getElem?_eq_getElem (by omega : j < Q.length)]
      exact List.getElem_mem _
    exact ma_step w0 g L hok me kk hkk ht hs sa sl sc b o Q hQ hbg (r + 1) j (by omega) (hsa.resolve_left (by omega)) (hw _ hq) l hl hI (v := .tuple #[]) (fun l bs aa w hl hI S => ih (j + 1) (by omega) l bs aa w hl hI S) hsl bs aa w S
set_option maxHeartbeats 8000000 in
theorem mark_any (w0 : World) (g : Nat) (L : Ly) (hok : L.ok) (me kk : Int) (hkk : kk = 3 ∨ kk = 4) (ht : 0 ≤ me ∧ me ≤ 61) (hs : decide (atStatus L me < 0) = false) (sa : Option Addr) (sl sc : Nat) (b o : Nat) (Q : List (Int × Int × Int)) (hQ : Q.length = sl) (hbg : b ≠ g) (hsa : sl = 0 ∨ sa = some ⟨b, o, none⟩)
    (hw : ∀ s ∈ Q, decide (atWaiters L s.1 < 0) = false) (hsl : sl ≤ 1000000) (l : List (Int × Bool)) (hl : l.length ≤ 1000000) (hI : ∀ x ∈ l, I64 x.1) (hR : RunAt w0 g l) (hA : SeenAt w0 b o Q) : Calls Try.prog 73 #[.agg (waC g L me (.slice sa sl sc)).toArray, .int .i64 kk] w0 (CsPost (markS L me kk Q l) (.tuple #[]) g w0) := by
  refine sy_enterF (some g) [rfRun g l, rfSeen b o Q] (by
    intro f hf
    simp only [List.mem_cons, List.not_mem_nil, or_false] at hf
    rcases hf with rfl | rfl
    · exact hR
    · exact hA) Try.func73 rfl fun aa S => ?_
  refine sy_run ⟨0, []⟩ 50 S fun bs aa w1 S => ?_
  have S' := S.to [0, 1] (maS g L me kk sa sl sc 0) (by kernel_rfl) (by kernel_rfl) (by kernel_rfl) (by kernel_rfl) (by kernel_rfl)
  refine sy_loop (sl + 1) (by kernel_rfl) ?_
  exact ma_all w0 g L hok me kk hkk ht hs sa sl sc b o Q hQ hbg hsa hw hsl sl 0 (by omega) l _ aa w1 hl hI S'
end Go.Proofs.Ytfahnmpcclhjlaa


/-
  Layer 21: to watch, and to sleep.
-/
namespace Go.Proofs.Ytfahnmpcclhjlaa
open Go Go.RowKit SX
set_option linter.unusedVariables false
set_option linter.unusedSimpArgs false
set_option maxRecDepth 100000
/-- What is left to be done at a loop of a text: the choices say which way a test goes, and which loops are passed. -/
def goL : Nat → List Nat → List It → List It
  | n + 1, ch, .code (.seq x y) :: k => goL n ch (.code x :: .code y :: k)
  | n + 1, ch, .code (.block id c) :: k => goL n ch (.code c :: .blk id :: k)
  | n + 1, ch, .code (.region _ _ _) :: k => goL n ch k
  | n + 1, ch, .code .skip :: k => goL n ch k
  | n + 1, ch, .blk _ :: k => goL n ch k
  | n + 1, c :: ch, .code (.cond _ x y) :: k => goL n ch (.code (if c = 1 then x else y) :: k)
  | n + 1, _ :: ch, .code (.loop _) :: k => goL n ch k
  | _, _, k => k
theorem post_at {P : Program} {k k' : List It} (he : k = k') {Q : Exit → Act → World → Prop} {e : Exit} {a : Act} {w : World} (h : post P k' Q e a w) : post P k Q e a w := by rw [he]; exact h
attribute [local irreducible] post GD
/-- The looks at what was read. -/
def lookS (L : Ly) : List (Int × Int × Int) → List (Int × Bool) → Bool × CSt
  | [], l => (true, (l, none))
  | s :: _, [] => (false, ([], some ⟨1, atWord L s.1, 0, 0⟩))
  | s :: S, r :: l => if r.1 = wrap64 (2 * s.2.1) then lookS L S l else (false, (l, none))
def tailS (L : Ly) (me : Int) (Q : List (Int × Int × Int)) : Bool × CSt → OutD × CSt
  | (_, (l2, some q)) => ({}, (l2, some q))
  | (true, (l2, none)) => ({ ok := true }, (l2, none))
  | (false, (l2, none)) => ({}, markS L me 4 Q l2)
def watchS (L : Ly) (me : Int) (Q : List (Int × Int × Int)) : List (Int × Bool) → OutD × CSt
  | [] => ({}, ([], some ⟨2, atWake L me, 0, 0⟩))
  | _ :: l => match markS L me 3 Q l with
    | (l1, some q) => ({}, (l1, some q))
    | (l1, none) => tailS L me Q (lookS L Q l1)
def sleepS (L : Ly) (me : Int) (Q : List (Int × Int × Int)) : List (Int × Bool) → OutD × CSt
  | [] => ({}, ([], some ⟨1, atWake L me, 0, 0⟩))
  | r :: l => if r.1 = 0 then ({}, (l, none)) else ({ ok := true }, markS L me 4 Q l)
theorem drop_at {Q : List (Int × Int × Int)} {j : Nat} (hj : j < Q.length) : Q.drop j = Q.getD j (0, 0, 0) :: Q.drop (j + 1) := by
  rw [List.drop_eq_getElem_cons hj]
  simp [List.getD, List.getElem?_eq_getElem hj]
theorem markS_rest {L : Ly} {me kk : Int} : ∀ (Q : List (Int × Int × Int)) (l : List (Int × Bool)), (∀ x ∈ (markS L me kk Q l).1, x ∈ l) ∧ (markS L me kk Q l).1.length ≤ l.length
  | [], l => ⟨fun x hx => hx, Nat.le_refl _⟩
  | s :: Q, l => by
    have h := runP_rest (has := hasK kk me) (ap := apK kk me) (atWaiters L s.1) (l.length + 1) l (by omega)
    unfold markS
    obtain ⟨⟨ob, l', oq⟩, hX⟩ : ∃ X, runP (hasK kk me) (apK kk me) (atWaiters L s.1) l = X := ⟨_, rfl⟩
    rw [hX] at h ⊢
    simp only at h ⊢
    cases oq with
    | some q => exact h
    | none =>
      have i := markS_rest (L := L) (me := me) (kk := kk) Q l'
      exact ⟨fun x hx => h.1 x (i.1 x hx), Nat.le_trans i.2 h.2⟩
theorem watchS_cons (L : Ly) (me : Int) (Q : List (Int × Int × Int)) (r : Int × Bool) (l : List (Int × Bool)) : watchS L me Q (r :: l) = match markS L me 3 Q l with
    | (l1, some q) => ({}, (l1, some q))
    | (l1, none) => tailS L me Q (lookS L Q l1) := rfl
noncomputable def wtC : Cfg := ⟨goL 60 [] [.code (bodyOf Try.f39)], ⟨0, [], []⟩⟩
noncomputable def wtS (g : Nat) (L : Ly) (me : Int) (sa : Option Addr) (sl sc : Nat) (j : Nat) : SS := ⟨(cfg0 Try.f39 #[.agg (waC g L me (.slice sa sl sc)).toArray]).s.n, [(1, .p 0 0), (2, .p 1 0), (16, .v (.slice sa sl sc)), (17, .v (.int .i64 (sl : Int))), (18, .v (.int .i64 (j : Int)))], [⟨91, waC g L me (.slice sa sl sc)⟩, ⟨56, [.int .i64 0, .int .i64 0, .int .i64 0, .int .i64 0, .bool false, .bool false, .int .i64 0]⟩]⟩
abbrev WtPost (x : OutD × CSt) (g : Nat) (w0 : World) (e : Ending) (w' : World) : Prop := CsPost x.2 x.1.v g w0 e w'
set_option maxHeartbeats 8000000 in
theorem wt_end (w0 : World) (g : Nat) (L : Ly) (hok : L.ok) (me : Int) (ht : 0 ≤ me ∧ me ≤ 61) (hs : decide (atStatus L me < 0) = false) (sa : Option Addr) (sl sc : Nat) (b o : Nat) (Q : List (Int × Int × Int)) (hQ : Q.length = sl) (hbg : b ≠ g) (hsa : sl = 0 ∨ sa = some ⟨b, o, none⟩) (hw : ∀ s ∈ Q, decide (atWaiters L s.1 < 0) = false) (hsl : sl ≤ 1000000) (n : Nat) (l : List (Int × Bool)) (bs : List Nat) (aa : Act) (w : World) (S : Sy w0 (some g) bs (wtS g L me sa sl sc sl) [rfRun g (l), rfSeen b o Q] aa w) : post Try.prog (.rnd (n + 1) (bodyL wtC) :: wtC.k.tail) (bodyPost Try.prog Try.f39 (WtPost (({ ok := true }, (l, none))) g w0)) .normal aa w := by
  refine sy_run (c := ⟨(.rnd (n + 1) (bodyL wtC) :: wtC.k.tail), wtS g L me sa sl sc sl⟩) ⟨0, [4]⟩ 50 S fun bs aa w S => ?_
  refine sy_reg S fun S => ?_
  refine sy_ops 2 S fun bs aa w S => ?_
  refine sy_run ⟨0, []⟩ 1 S fun bs aa w S => ?_
  refine sy_cond false S (by simp : decide ((sl : Int) < (sl : Int)) = false) (by kernel_rfl) fun S => ?_
  refine sy_run ⟨0, []⟩ 60 S fun bs aa w S => ?_
  exact sy_ret S (by kernel_rfl) (by kernel_rfl) fun hg => ⟨rfl, S.run, hg⟩
set_option maxHeartbeats 8000000 in
theorem wt_none (w0 : World) (g : Nat) (L : Ly) (hok : L.ok) (me : Int) (ht : 0 ≤ me ∧ me ≤ 61) (hs : decide (atStatus L me < 0) = false) (sa : Option Addr) (sl sc : Nat) (b o : Nat) (Q : List (Int × Int × Int)) (hQ : Q.length = sl) (hbg : b ≠ g) (hsa : sl = 0 ∨ sa = some ⟨b, o, none⟩) (hw : ∀ s ∈ Q, decide (atWaiters L s.1 < 0) = false) (hsl : sl ≤ 1000000) (n j : Nat) (hj : j < sl) (bs : List Nat) (aa : Act) (w : World) (S : Sy w0 (some g) bs (wtS g L me sa sl sc j) [rfRun g ([]), rfSeen b o Q] aa w) : post Try.prog (.rnd (n + 1) (bodyL wtC) :: wtC.k.tail) (bodyPost Try.prog Try.f39 (WtPost (({}, ([], some ⟨1, atWord L (Q.getD j (0, 0, 0)).1, 0, 0⟩))) g w0)) .normal aa w := by
  refine sy_run (c := ⟨(.rnd (n + 1) (bodyL wtC) :: wtC.k.tail), wtS g L me sa sl sc j⟩) ⟨0, [4]⟩ 50 S fun bs aa w S => ?_
  refine sy_reg S fun S => ?_
  refine sy_ops 2 S fun bs aa w S => ?_
  refine sy_run ⟨0, []⟩ 1 S fun bs aa w S => ?_
  refine sy_cond true S (by simp; omega : decide ((j : Int) < (sl : Int)) = true) (by kernel_rfl) fun S => ?_
  refine sy_run ⟨0, [5]⟩ 60 S fun bs aa w S => ?_
  refine sy_reg S fun S => ?_
  refine sy_ix (b := b) (off := o) (len := sl) (n := j) (size := 3) (i := (j : Int)) S (by rw [← hsa.resolve_left (by omega)]; kernel_rfl) rfl hj fun aa S => ?_
  refine sy_run ⟨0, []⟩ 60 S fun bs aa w S => ?_
  refine sy_ldo S (ld_seen (j := j) (S.fact (f := rfSeen b o Q) (by simp)) (by omega)) (by kernel_rfl) fun aa S => ?_
  refine sy_run ⟨0, []⟩ 60 S fun bs aa w S => ?_
  refine dr_enter [0, 1, 2] (by kernel_rfl) (by kernel_rfl) S (by kernel_rfl) fun aa w D => ?_
  refine dr_call1 6 D (by kernel_rfl) (by kernel_rfl) (by kernel_rfl) (word_any L (Q.getD j (0, 0, 0)).1 w hok) (by kernel_rfl) fun aa w hb D => ?_
  exact dr_panic 9 D (by kernel_rfl) (by kernel_rfl) (lk_0 w g (atWord L (Q.getD j (0, 0, 0)).1) (Q.getD j (0, 0, 0)).2.1 (D.S.fact (f := rfRun g []) (by simp))) (by kernel_rfl) fun w' hg => ⟨rfl, hg⟩
set_option maxHeartbeats 8000000 in
theorem wt_ok (w0 : World) (g : Nat) (L : Ly) (hok : L.ok) (me : Int) (ht : 0 ≤ me ∧ me ≤ 61) (hs : decide (atStatus L me < 0) = false) (sa : Option Addr) (sl sc : Nat) (b o : Nat) (Q : List (Int × Int × Int)) (hQ : Q.length = sl) (hbg : b ≠ g) (hsa : sl = 0 ∨ sa = some ⟨b, o, none⟩) (hw : ∀ s ∈ Q, decide (atWaiters L s.1 < 0) = false) (hsl : sl ≤ 1000000) (n j : Nat) (hj : j < sl) (r : Int × Bool) (l : List (Int × Bool)) (hr : r.1 = wrap64 (2 * (Q.getD j (0, 0, 0)).2.1)) (x : OutD × CSt) (ih : ∀ (bs : List Nat) (aa : Act) (w : World), Sy w0 (some g) bs (wtS g L me sa sl sc (j + 1)) [rfRun g l, rfSeen b o Q] aa w → post Try.prog (.rnd (n) (bodyL wtC) :: wtC.k.tail) (bodyPost Try.prog Try.f39 (WtPost (x) g w0)) .normal aa w) (bs : List Nat) (aa : Act) (w : World) (S : Sy w0 (some g) bs (wtS g L me sa sl sc j) [rfRun g (r :: l), rfSeen b o Q] aa w) : post Try.prog (.rnd (n + 1) (bodyL wtC) :: wtC.k.tail) (bodyPost Try.prog Try.f39 (WtPost (x) g w0)) .normal aa w := by
  refine sy_run (c := ⟨(.rnd (n + 1) (bodyL wtC) :: wtC.k.tail), wtS g L me sa sl sc j⟩) ⟨0, [4]⟩ 50 S fun bs aa w S => ?_
  refine sy_reg S fun S => ?_
  refine sy_ops 2 S fun bs aa w S => ?_
  refine sy_run ⟨0, []⟩ 1 S fun bs aa w S => ?_
  refine sy_cond true S (by simp; omega : decide ((j : Int) < (sl : Int)) = true) (by kernel_rfl) fun S => ?_
  refine sy_run ⟨0, [5]⟩ 60 S fun bs aa w S => ?_
  refine sy_reg S fun S => ?_
  refine sy_ix (b := b) (off := o) (len := sl) (n := j) (size := 3) (i := (j : Int)) S (by rw [← hsa.resolve_left (by omega)]; kernel_rfl) rfl hj fun aa S => ?_
  refine sy_run ⟨0, []⟩ 60 S fun bs aa w S => ?_
  refine sy_ldo S (ld_seen (j := j) (S.fact (f := rfSeen b o Q) (by simp)) (by omega)) (by kernel_rfl) fun aa S => ?_
  refine sy_run ⟨0, []⟩ 60 S fun bs aa w S => ?_
  refine dr_enter [0, 1, 2] (by kernel_rfl) (by kernel_rfl) S (by kernel_rfl) fun aa w D => ?_
  refine dr_call1 6 D (by kernel_rfl) (by kernel_rfl) (by kernel_rfl) (word_any L (Q.getD j (0, 0, 0)).1 w hok) (by kernel_rfl) fun aa w hb D => ?_
  have hap := (D.S.fs (rfRun g (r :: l)) (by simp)).2
  refine dr_callG 9 D (Or.inl rfl) (by kernel_rfl) (by kernel_rfl) (by kernel_rfl) (v := OutD.v { ok := true }) (C := fun w' => RunAt w' g l) (lk_t w g (atWord L (Q.getD j (0, 0, 0)).1) (Q.getD j (0, 0, 0)).2.1 r l hr (D.S.fact (f := rfRun g (r :: l)) (by simp))) (by kernel_rfl) (F' := [rfSeen b o Q]) (by intro f hf; simp at hf; subst hf; exact ⟨by simp, fun h => hbg h.1.symm⟩) (fun i hi he => hap i hi (by show _ ≤ g; omega)) fun aa w hR D => ?_
  have D := D.addF (rfRun g l) hR hap
  refine dr_end D (by kernel_rfl) fun S => ?_
  refine sy_run ⟨0, [9]⟩ 60 S fun bs aa w S => ?_
  refine sy_reg S fun S => ?_
  refine sy_ops 1 S fun bs aa w S => ?_
  refine sy_cast 37 S (congrArg (Value.int .i64) (by rw [IntKind.wrap_i64]; omega : IntKind.i64.wrap ((j : Int) + 1) = ((j + 1 : Nat) : Int))) (by kernel_rfl) fun S => ?_
  refine sy_run ⟨0, [999]⟩ 60 S fun bs aa w S => ?_
  have S' := S.to [0, 1] (wtS g L me sa sl sc (j + 1)) (by kernel_rfl) (by kernel_rfl) (by kernel_rfl) (by kernel_rfl) (by kernel_rfl)
  refine sy_at (k := (.rnd (n) (bodyL wtC) :: wtC.k.tail)) (by kernel_rfl) ?_
  exact ih _ aa w S'
set_option maxHeartbeats 8000000 in
theorem wt_bh (w0 : World) (g : Nat) (L : Ly) (hok : L.ok) (me : Int) (ht : 0 ≤ me ∧ me ≤ 61) (hs : decide (atStatus L me < 0) = false) (sa : Option Addr) (sl sc : Nat) (b o : Nat) (Q : List (Int × Int × Int)) (hQ : Q.length = sl) (hbg : b ≠ g) (hsa : sl = 0 ∨ sa = some ⟨b, o, none⟩) (hw : ∀ s ∈ Q, decide (atWaiters L s.1 < 0) = false) (hsl : sl ≤ 1000000) (n j : Nat) (hj : j < sl) (r : Int × Bool) (l : List (Int × Bool)) (hl : (r :: l).length ≤ 1000000) (hI : ∀ x ∈ r :: l, I64 x.1) (hr : ¬ r.1 = wrap64 (2 * (Q.getD j (0, 0, 0)).2.1)) (hq : decide (r.1 % 2 = 1) = true) (bs : List Nat) (aa : Act) (w : World) (S : Sy w0 (some g) bs (wtS g L me sa sl sc j) [rfRun g (r :: l), rfSeen b o Q] aa w) : post Try.prog (.rnd (n + 1) (bodyL wtC) :: wtC.k.tail) (bodyPost Try.prog Try.f39 (WtPost (({}, markS L me 4 Q l)) g w0)) .normal aa w := by
  refine sy_run (c := ⟨(.rnd (n + 1) (bodyL wtC) :: wtC.k.tail), wtS g L me sa sl sc j⟩) ⟨0, [4]⟩ 50 S fun bs aa w S => ?_
  refine sy_reg S fun S => ?_
  refine sy_ops 2 S fun bs aa w S => ?_
  refine sy_run ⟨0, []⟩ 1 S fun bs aa w S => ?_
  refine sy_cond true S (by simp; omega : decide ((j : Int) < (sl : Int)) = true) (by kernel_rfl) fun S => ?_
  refine sy_run ⟨0, [5]⟩ 60 S fun bs aa w S => ?_
  refine sy_reg S fun S => ?_
  refine sy_ix (b := b) (off := o) (len := sl) (n := j) (size := 3) (i := (j : Int)) S (by rw [← hsa.resolve_left (by omega)]; kernel_rfl) rfl hj fun aa S => ?_
  refine sy_run ⟨0, []⟩ 60 S fun bs aa w S => ?_
  refine sy_ldo S (ld_seen (j := j) (S.fact (f := rfSeen b o Q) (by simp)) (by omega)) (by kernel_rfl) fun aa S => ?_
  refine sy_run ⟨0, []⟩ 60 S fun bs aa w S => ?_
  refine dr_enter [0, 1, 2] (by kernel_rfl) (by kernel_rfl) S (by kernel_rfl) fun aa w D => ?_
  refine dr_call1 6 D (by kernel_rfl) (by kernel_rfl) (by kernel_rfl) (word_any L (Q.getD j (0, 0, 0)).1 w hok) (by kernel_rfl) fun aa w hb D => ?_
  have hap := (D.S.fs (rfRun g (r :: l)) (by simp)).2
  refine dr_callG 9 D (Or.inl rfl) (by kernel_rfl) (by kernel_rfl) (by kernel_rfl) (v := OutD.v { val := r.1 / 2 }) (C := fun w' => RunAt w' g l) (lk_h w g (atWord L (Q.getD j (0, 0, 0)).1) (Q.getD j (0, 0, 0)).2.1 r l hr hq (D.S.fact (f := rfRun g (r :: l)) (by simp))) (by kernel_rfl) (F' := [rfSeen b o Q]) (by intro f hf; simp at hf; subst hf; exact ⟨by simp, fun h => hbg h.1.symm⟩) (fun i hi he => hap i hi (by show _ ≤ g; omega)) fun aa w hR D => ?_
  have D := D.addF (rfRun g l) hR hap
  refine dr_end D (by kernel_rfl) fun S => ?_
  refine sy_run ⟨0, []⟩ 60 S fun bs aa w S => ?_
  have hC := mark_any w g L hok me 4 (by omega) ht hs sa sl sc b o Q hQ hbg hsa hw hsl l (by simp at hl; omega) (fun x hx => hI x (by simp [hx])) S.run (S.fact (f := rfSeen b o Q) (by simp))
  obtain ⟨⟨l', oq⟩, hX⟩ : ∃ X, markS L me 4 Q l = X := ⟨_, rfl⟩
  rw [hX] at hC ⊢
  cases oq with
  | some q => exact sy_panic S (hC.mono fun e w' h => h) (by kernel_rfl) fun w' hg => ⟨rfl, hg⟩
  | none =>
    refine sy_acc (l' := l') (v := .tuple #[]) S (Or.inl rfl) (hC.mono fun e w' h => h) (by kernel_rfl) (by intro f hf; simp at hf; subst hf; exact fun h => hbg h.1.symm) fun aa w S => ?_
    refine sy_run ⟨0, []⟩ 60 S fun bs aa w S => ?_
    exact sy_ret S (by kernel_rfl) (by kernel_rfl) fun hg => ⟨rfl, S.run, hg⟩
set_option maxHeartbeats 8000000 in
theorem wt_bf (w0 : World) (g : Nat) (L : Ly) (hok : L.ok) (me : Int) (ht : 0 ≤ me ∧ me ≤ 61) (hs : decide (atStatus L me < 0) = false) (sa : Option Addr) (sl sc : Nat) (b o : Nat) (Q : List (Int × Int × Int)) (hQ : Q.length = sl) (hbg : b ≠ g) (hsa : sl = 0 ∨ sa = some ⟨b, o, none⟩) (hw : ∀ s ∈ Q, decide (atWaiters L s.1 < 0) = false) (hsl : sl ≤ 1000000) (n j : Nat) (hj : j < sl) (r : Int × Bool) (l : List (Int × Bool)) (hl : (r :: l).length ≤ 1000000) (hI : ∀ x ∈ r :: l, I64 x.1) (hr : ¬ r.1 = wrap64 (2 * (Q.getD j (0, 0, 0)).2.1)) (hq : decide (r.1 % 2 = 1) = false) (bs : List Nat) (aa : Act) (w : World) (S : Sy w0 (some g) bs (wtS g L me sa sl sc j) [rfRun g (r :: l), rfSeen b o Q] aa w) : post Try.prog (.rnd (n + 1) (bodyL wtC) :: wtC.k.tail) (bodyPost Try.prog Try.f39 (WtPost (({}, markS L me 4 Q l)) g w0)) .normal aa w := by
  refine sy_run (c := ⟨(.rnd (n + 1) (bodyL wtC) :: wtC.k.tail), wtS g L me sa sl sc j⟩) ⟨0, [4]⟩ 50 S fun bs aa w S => ?_
  refine sy_reg S fun S => ?_
  refine sy_ops 2 S fun bs aa w S => ?_
  refine sy_run ⟨0, []⟩ 1 S fun bs aa w S => ?_
  refine sy_cond true S (by simp; omega : decide ((j : Int) < (sl : Int)) = true) (by kernel_rfl) fun S => ?_
  refine sy_run ⟨0, [5]⟩ 60 S fun bs aa w S => ?_
  refine sy_reg S fun S => ?_
  refine sy_ix (b := b) (off := o) (len := sl) (n := j) (size := 3) (i := (j : Int)) S (by rw [← hsa.resolve_left (by omega)]; kernel_rfl) rfl hj fun aa S => ?_
  refine sy_run ⟨0, []⟩ 60 S fun bs aa w S => ?_
  refine sy_ldo S (ld_seen (j := j) (S.fact (f := rfSeen b o Q) (by simp)) (by omega)) (by kernel_rfl) fun aa S => ?_
  refine sy_run ⟨0, []⟩ 60 S fun bs aa w S => ?_
  refine dr_enter [0, 1, 2] (by kernel_rfl) (by kernel_rfl) S (by kernel_rfl) fun aa w D => ?_
  refine dr_call1 6 D (by kernel_rfl) (by kernel_rfl) (by kernel_rfl) (word_any L (Q.getD j (0, 0, 0)).1 w hok) (by kernel_rfl) fun aa w hb D => ?_
  have hap := (D.S.fs (rfRun g (r :: l)) (by simp)).2
  refine dr_callG 9 D (Or.inl rfl) (by kernel_rfl) (by kernel_rfl) (by kernel_rfl) (v := OutD.v { val := -1 }) (C := fun w' => RunAt w' g l) (lk_f w g (atWord L (Q.getD j (0, 0, 0)).1) (Q.getD j (0, 0, 0)).2.1 r l hr hq (D.S.fact (f := rfRun g (r :: l)) (by simp))) (by kernel_rfl) (F' := [rfSeen b o Q]) (by intro f hf; simp at hf; subst hf; exact ⟨by simp, fun h => hbg h.1.symm⟩) (fun i hi he => hap i hi (by show _ ≤ g; omega)) fun aa w hR D => ?_
  have D := D.addF (rfRun g l) hR hap
  refine dr_end D (by kernel_rfl) fun S => ?_
  refine sy_run ⟨0, []⟩ 60 S fun bs aa w S => ?_
  have hC := mark_any w g L hok me 4 (by omega) ht hs sa sl sc b o Q hQ hbg hsa hw hsl l (by simp at hl; omega) (fun x hx => hI x (by simp [hx])) S.run (S.fact (f := rfSeen b o Q) (by simp))
  obtain ⟨⟨l', oq⟩, hX⟩ : ∃ X, markS L me 4 Q l = X := ⟨_, rfl⟩
  rw [hX] at hC ⊢
  cases oq with
  | some q => exact sy_panic S (hC.mono fun e w' h => h) (by kernel_rfl) fun w' hg => ⟨rfl, hg⟩
  | none =>
    refine sy_acc (l' := l') (v := .tuple #[]) S (Or.inl rfl) (hC.mono fun e w' h => h) (by kernel_rfl) (by intro f hf; simp at hf; subst hf; exact fun h => hbg h.1.symm) fun aa w S => ?_
    refine sy_run ⟨0, []⟩ 60 S fun bs aa w S => ?_
    exact sy_ret S (by kernel_rfl) (by kernel_rfl) fun hg => ⟨rfl, S.run, hg⟩
theorem wt_all (w0 : World) (g : Nat) (L : Ly) (hok : L.ok) (me : Int) (ht : 0 ≤ me ∧ me ≤ 61) (hs : decide (atStatus L me < 0) = false) (sa : Option Addr) (sl sc : Nat) (b o : Nat) (Q : List (Int × Int × Int)) (hQ : Q.length = sl) (hbg : b ≠ g) (hsa : sl = 0 ∨ sa = some ⟨b, o, none⟩) (hw : ∀ s ∈ Q, decide (atWaiters L s.1 < 0) = false) (hsl : sl ≤ 1000000) : ∀ (r j : Nat), j + r = sl → ∀ (l : List (Int × Bool)) (bs : List Nat) (aa : Act) (w : World), l.length ≤ 1000000 → (∀ x ∈ l, I64 x.1) → Sy w0 (some g) bs (wtS g L me sa sl sc j) [rfRun g l, rfSeen b o Q] aa w → post Try.prog (.rnd (r + 1) (bodyL wtC) :: wtC.k.tail) (bodyPost Try.prog Try.f39 (WtPost (tailS L me Q (lookS L (Q.drop j) l)) g w0)) .normal aa w := by
  intro r
  induction r with
  | zero =>
    intro j hj l bs aa w hl hI S
    obtain rfl : j = sl := by omega
    rw [List.drop_of_length_le (by omega)]
    exact wt_end w0 g L hok me ht hs sa j sc b o Q hQ hbg hsa hw hsl 0 l bs aa w S
  | succ r ih =>
    intro j hj l bs aa w hl hI S
    rw [drop_at (by omega)]
    rcases l with _ | ⟨x, l⟩
    · exact wt_none w0 g L hok me ht hs sa sl sc b o Q hQ hbg hsa hw hsl (r + 1) j (by omega) bs aa w S
    · by_cases hx : x.1 = wrap64 (2 * (Q.getD j (0, 0, 0)).2.1)
      · have e : lookS L ((Q.getD j (0, 0, 0)) :: Q.drop (j + 1)) (x :: l) = lookS L (Q.drop (j + 1)) l := by conv => lhs; unfold lookS; rw [if_pos hx]
        rw [e]
        exact wt_ok w0 g L hok me ht hs sa sl sc b o Q hQ hbg hsa hw hsl (r + 1) j (by omega) x l hx _ (fun bs aa w S => ih (j + 1) (by omega) l bs aa w (by simp at hl; omega) (fun y hy => hI y (by simp [hy])) S) bs aa w S
      · have e : lookS L ((Q.getD j (0, 0, 0)) :: Q.drop (j + 1)) (x :: l) = (false, (l, none)) := by conv => lhs; unfold lookS; rw [if_neg hx]
        rw [e]
        by_cases hq : x.1 % 2 = 1
        · exact wt_bh w0 g L hok me ht hs sa sl sc b o Q hQ hbg hsa hw hsl (r + 1) j (by omega) x l hl hI hx (decide_eq_true hq) bs aa w S
        · exact wt_bf w0 g L hok me ht hs sa sl sc b o Q hQ hbg hsa hw hsl (r + 1) j (by omega) x l hl hI hx (decide_eq_false hq) bs aa w S
set_option maxHeartbeats 8000000 in
theorem watch_0 (w0 : World) (g : Nat) (L : Ly) (hok : L.ok) (me : Int) (ht : 0 ≤ me ∧ me ≤ 61) (hs : decide (atStatus L me < 0) = false) (sa : Option Addr) (sl sc : Nat) (b o : Nat) (Q : List (Int × Int × Int)) (hQ : Q.length = sl) (hbg : b ≠ g) (hsa : sl = 0 ∨ sa = some ⟨b, o, none⟩) (hw : ∀ s ∈ Q, decide (atWaiters L s.1 < 0) = false) (hsl : sl ≤ 1000000)  (hR : RunAt w0 g ([])) (hA : SeenAt w0 b o Q) : Calls Try.prog 39 #[.agg (waC g L me (.slice sa sl sc)).toArray] w0 (WtPost (({}, ([], some ⟨2, atWake L me, 0, 0⟩))) g w0) := by
  refine sy_enterF (some g) [rfRun g ([]), rfSeen b o Q] (by
    intro f hf
    simp only [List.mem_cons, List.not_mem_nil, or_false] at hf
    rcases hf with rfl | rfl
    · exact hR
    · exact hA) Try.func39 rfl fun aa S => ?_
  refine sy_run ⟨0, []⟩ 60 S fun bs aa w S => ?_
  refine dr_enter [0, 1] (by kernel_rfl) (by kernel_rfl) S (by kernel_rfl) fun aa w D => ?_
  refine dr_call1 6 D (by kernel_rfl) (by kernel_rfl) (by kernel_rfl) (wake_any L me w hok) (by kernel_rfl) fun aa w hb D => ?_
  exact dr_panic 7 D (by kernel_rfl) (by kernel_rfl) ((store_none w g (atWake L me) 0 (D.S.fact (f := rfRun g []) (by simp))).mono fun e w' h => ⟨h.1, gb_of_below _ h.2⟩) (by kernel_rfl) fun w' hg => ⟨rfl, hg⟩
set_option maxHeartbeats 8000000 in
theorem watch_1 (w0 : World) (g : Nat) (L : Ly) (hok : L.ok) (me : Int) (ht : 0 ≤ me ∧ me ≤ 61) (hs : decide (atStatus L me < 0) = false) (sa : Option Addr) (sl sc : Nat) (b o : Nat) (Q : List (Int × Int × Int)) (hQ : Q.length = sl) (hbg : b ≠ g) (hsa : sl = 0 ∨ sa = some ⟨b, o, none⟩) (hw : ∀ s ∈ Q, decide (atWaiters L s.1 < 0) = false) (hsl : sl ≤ 1000000) (r : Int × Bool) (l : List (Int × Bool)) (hl : (r :: l).length ≤ 1000000) (hI : ∀ x ∈ r :: l, I64 x.1) (hR : RunAt w0 g (r :: l)) (hA : SeenAt w0 b o Q) : Calls Try.prog 39 #[.agg (waC g L me (.slice sa sl sc)).toArray] w0 (WtPost (watchS L me Q (r :: l)) g w0) := by
  refine sy_enterF (some g) [rfRun g (r :: l), rfSeen b o Q] (by
    intro f hf
    simp only [List.mem_cons, List.not_mem_nil, or_false] at hf
    rcases hf with rfl | rfl
    · exact hR
    · exact hA) Try.func39 rfl fun aa S => ?_
  refine sy_run ⟨0, []⟩ 60 S fun bs aa w S => ?_
  refine dr_enter [0, 1] (by kernel_rfl) (by kernel_rfl) S (by kernel_rfl) fun aa w D => ?_
  refine dr_call1 6 D (by kernel_rfl) (by kernel_rfl) (by kernel_rfl) (wake_any L me w hok) (by kernel_rfl) fun aa w hb D => ?_
  have hap := (D.S.fs (rfRun g (r :: l)) (by simp)).2
  refine dr_callG 7 D (Or.inl rfl) (by kernel_rfl) (by kernel_rfl) (by kernel_rfl) (v := .tuple #[]) (C := fun w' => RunAt w' g l) (store_some w g r l (atWake L me) 0 (D.S.fact (f := rfRun g (r :: l)) (by simp))) (by kernel_rfl) (F' := [rfSeen b o Q]) (by intro f hf; simp at hf; subst hf; exact ⟨by simp, fun h => hbg h.1.symm⟩) (fun i hi he => hap i hi (by show _ ≤ g; omega)) fun aa w hR D => ?_
  have D := D.addF (rfRun g l) hR hap
  refine dr_end D (by kernel_rfl) fun S => ?_
  refine sy_run ⟨0, []⟩ 60 S fun bs aa w S => ?_
  rw [watchS_cons]
  have hC := mark_any w g L hok me 3 (by omega) ht hs sa sl sc b o Q hQ hbg hsa hw hsl l (by simp at hl; omega) (fun x hx => hI x (by simp [hx])) S.run (S.fact (f := rfSeen b o Q) (by simp))
  obtain ⟨⟨l', oq⟩, hX⟩ : ∃ X, markS L me 3 Q l = X := ⟨_, rfl⟩
  rw [hX] at hC ⊢
  cases oq with
  | some q => exact sy_panic S (hC.mono fun e w' h => h) (by kernel_rfl) fun w' hg => ⟨rfl, hg⟩
  | none =>
    refine sy_acc (l' := l') (v := .tuple #[]) S (Or.inl rfl) (hC.mono fun e w' h => h) (by kernel_rfl) (by intro f hf; simp at hf; subst hf; exact fun h => hbg h.1.symm) fun aa w S => ?_
    refine sy_run ⟨0, []⟩ 60 S fun bs aa w S => ?_
    have S' := S.to [0, 1] (wtS g L me sa sl sc 0) (by kernel_rfl) (by kernel_rfl) (by kernel_rfl) (by kernel_rfl) (by kernel_rfl)
    refine sy_loop (sl + 1) (by kernel_rfl) ?_
    refine post_at (k' := (.rnd (sl + 1) (bodyL wtC) :: wtC.k.tail)) (by kernel_rfl) ?_
    have hm := markS_rest (L := L) (me := me) (kk := 3) Q l
    rw [hX] at hm
    exact wt_all w0 g L hok me ht hs sa sl sc b o Q hQ hbg hsa hw hsl sl 0 (by omega) l' _ aa w (by have := hm.2; simp at this hl; omega) (fun x hx => hI x (by simp [hm.1 x hx])) S'
theorem watch_any (w0 : World) (g : Nat) (L : Ly) (hok : L.ok) (me : Int) (ht : 0 ≤ me ∧ me ≤ 61) (hs : decide (atStatus L me < 0) = false) (sa : Option Addr) (sl sc : Nat) (b o : Nat) (Q : List (Int × Int × Int)) (hQ : Q.length = sl) (hbg : b ≠ g) (hsa : sl = 0 ∨ sa = some ⟨b, o, none⟩) (hw : ∀ s ∈ Q, decide (atWaiters L s.1 < 0) = false) (hsl : sl ≤ 1000000) (l : List (Int × Bool)) (hl : l.length ≤ 1000000) (hI : ∀ x ∈ l, I64 x.1) (hR : RunAt w0 g l) (hA : SeenAt w0 b o Q) : Calls Try.prog 39 #[.agg (waC g L me (.slice sa sl sc)).toArray] w0 (WtPost (watchS L me Q l) g w0) := by
  rcases l with _ | ⟨r, l⟩
  · exact watch_0 w0 g L hok me ht hs sa sl sc b o Q hQ hbg hsa hw hsl hR hA
  · exact watch_1 w0 g L hok me ht hs sa sl sc b o Q hQ hbg hsa hw hsl r l hl hI hR hA
set_option maxHeartbeats 8000000 in
theorem sleep_0 (w0 : World) (g : Nat) (L : Ly) (hok : L.ok) (me : Int) (ht : 0 ≤ me ∧ me ≤ 61) (hs : decide (atStatus L me < 0) = false) (sa : Option Addr) (sl sc : Nat) (b o : Nat) (Q : List (Int × Int × Int)) (hQ : Q.length = sl) (hbg : b ≠ g) (hsa : sl = 0 ∨ sa = some ⟨b, o, none⟩) (hw : ∀ s ∈ Q, decide (atWaiters L s.1 < 0) = false) (hsl : sl ≤ 1000000)  (hR : RunAt w0 g ([])) (hA : SeenAt w0 b o Q) : Calls Try.prog 40 #[.agg (waC g L me (.slice sa sl sc)).toArray] w0 (WtPost (({}, ([], some ⟨1, atWake L me, 0, 0⟩))) g w0) := by
  refine sy_enterF (some g) [rfRun g ([]), rfSeen b o Q] (by
    intro f hf
    simp only [List.mem_cons, List.not_mem_nil, or_false] at hf
    rcases hf with rfl | rfl
    · exact hR
    · exact hA) Try.func40 rfl fun aa S => ?_
  refine sy_run ⟨0, []⟩ 60 S fun bs aa w S => ?_
  refine dr_enter [0, 1] (by kernel_rfl) (by kernel_rfl) S (by kernel_rfl) fun aa w D => ?_
  refine dr_call1 6 D (by kernel_rfl) (by kernel_rfl) (by kernel_rfl) (wake_any L me w hok) (by kernel_rfl) fun aa w hb D => ?_
  exact dr_panic 7 D (by kernel_rfl) (by kernel_rfl) ((load_none w g (atWake L me) (D.S.fact (f := rfRun g []) (by simp))).mono fun e w' h => ⟨h.1, gb_of_below _ h.2⟩) (by kernel_rfl) fun w' hg => ⟨rfl, hg⟩
set_option maxHeartbeats 8000000 in
theorem sleep_t (w0 : World) (g : Nat) (L : Ly) (hok : L.ok) (me : Int) (ht : 0 ≤ me ∧ me ≤ 61) (hs : decide (atStatus L me < 0) = false) (sa : Option Addr) (sl sc : Nat) (b o : Nat) (Q : List (Int × Int × Int)) (hQ : Q.length = sl) (hbg : b ≠ g) (hsa : sl = 0 ∨ sa = some ⟨b, o, none⟩) (hw : ∀ s ∈ Q, decide (atWaiters L s.1 < 0) = false) (hsl : sl ≤ 1000000) (r : Int × Bool) (l : List (Int × Bool)) (hl : (r :: l).length ≤ 1000000) (hI : ∀ x ∈ r :: l, I64 x.1) (h : r.1 = 0) (hR : RunAt w0 g (r :: l)) (hA : SeenAt w0 b o Q) : Calls Try.prog 40 #[.agg (waC g L me (.slice sa sl sc)).toArray] w0 (WtPost (({}, (l, none))) g w0) := by
  refine sy_enterF (some g) [rfRun g (r :: l), rfSeen b o Q] (by
    intro f hf
    simp only [List.mem_cons, List.not_mem_nil, or_false] at hf
    rcases hf with rfl | rfl
    · exact hR
    · exact hA) Try.func40 rfl fun aa S => ?_
  refine sy_run ⟨0, []⟩ 60 S fun bs aa w S => ?_
  refine dr_enter [0, 1] (by kernel_rfl) (by kernel_rfl) S (by kernel_rfl) fun aa w D => ?_
  refine dr_call1 6 D (by kernel_rfl) (by kernel_rfl) (by kernel_rfl) (wake_any L me w hok) (by kernel_rfl) fun aa w hb D => ?_
  have hap := (D.S.fs (rfRun g (r :: l)) (by simp)).2
  refine dr_callG 7 D (Or.inl rfl) (by kernel_rfl) (by kernel_rfl) (by kernel_rfl) (v := .int .i64 r.1) (C := fun w' => RunAt w' g l) (load_some w g r l (atWake L me) (D.S.fact (f := rfRun g (r :: l)) (by simp))) (by kernel_rfl) (F' := [rfSeen b o Q]) (by intro f hf; simp at hf; subst hf; exact ⟨by simp, fun h => hbg h.1.symm⟩) (fun i hi he => hap i hi (by show _ ≤ g; omega)) fun aa w hR D => ?_
  have D := D.addF (rfRun g l) hR hap
  refine dr_end D (by kernel_rfl) fun S => ?_
  refine sy_cond true S (decide_eq_true h : decide (r.1 = 0) = true) (by kernel_rfl) fun S => ?_
  refine sy_run ⟨0, []⟩ 60 S fun bs aa w S => ?_
  exact sy_ret S (by kernel_rfl) (by kernel_rfl) fun hg => ⟨rfl, S.run, hg⟩
set_option maxHeartbeats 8000000 in
theorem sleep_f (w0 : World) (g : Nat) (L : Ly) (hok : L.ok) (me : Int) (ht : 0 ≤ me ∧ me ≤ 61) (hs : decide (atStatus L me < 0) = false) (sa : Option Addr) (sl sc : Nat) (b o : Nat) (Q : List (Int × Int × Int)) (hQ : Q.length = sl) (hbg : b ≠ g) (hsa : sl = 0 ∨ sa = some ⟨b, o, none⟩) (hw : ∀ s ∈ Q, decide (atWaiters L s.1 < 0) = false) (hsl : sl ≤ 1000000) (r : Int × Bool) (l : List (Int × Bool)) (hl : (r :: l).length ≤ 1000000) (hI : ∀ x ∈ r :: l, I64 x.1) (h : ¬ r.1 = 0) (hR : RunAt w0 g (r :: l)) (hA : SeenAt w0 b o Q) : Calls Try.prog 40 #[.agg (waC g L me (.slice sa sl sc)).toArray] w0 (WtPost (({ ok := true }, markS L me 4 Q l)) g w0) := by
  refine sy_enterF (some g) [rfRun g (r :: l), rfSeen b o Q] (by
    intro f hf
    simp only [List.mem_cons, List.not_mem_nil, or_false] at hf
    rcases hf with rfl | rfl
    · exact hR
    · exact hA) Try.func40 rfl fun aa S => ?_
  refine sy_run ⟨0, []⟩ 60 S fun bs aa w S => ?_
  refine dr_enter [0, 1] (by kernel_rfl) (by kernel_rfl) S (by kernel_rfl) fun aa w D => ?_
  refine dr_call1 6 D (by kernel_rfl) (by kernel_rfl) (by kernel_rfl) (wake_any L me w hok) (by kernel_rfl) fun aa w hb D => ?_
  have hap := (D.S.fs (rfRun g (r :: l)) (by simp)).2
  refine dr_callG 7 D (Or.inl rfl) (by kernel_rfl) (by kernel_rfl) (by kernel_rfl) (v := .int .i64 r.1) (C := fun w' => RunAt w' g l) (load_some w g r l (atWake L me) (D.S.fact (f := rfRun g (r :: l)) (by simp))) (by kernel_rfl) (F' := [rfSeen b o Q]) (by intro f hf; simp at hf; subst hf; exact ⟨by simp, fun h => hbg h.1.symm⟩) (fun i hi he => hap i hi (by show _ ≤ g; omega)) fun aa w hR D => ?_
  have D := D.addF (rfRun g l) hR hap
  refine dr_end D (by kernel_rfl) fun S => ?_
  refine sy_cond false S (decide_eq_false h : decide (r.1 = 0) = false) (by kernel_rfl) fun S => ?_
  refine sy_run ⟨0, []⟩ 60 S fun bs aa w S => ?_
  have hC := mark_any w g L hok me 4 (by omega) ht hs sa sl sc b o Q hQ hbg hsa hw hsl l (by simp at hl; omega) (fun x hx => hI x (by simp [hx])) S.run (S.fact (f := rfSeen b o Q) (by simp))
  obtain ⟨⟨l', oq⟩, hX⟩ : ∃ X, markS L me 4 Q l = X := ⟨_, rfl⟩
  rw [hX] at hC ⊢
  cases oq with
  | some q => exact sy_panic S (hC.mono fun e w' h => h) (by kernel_rfl) fun w' hg => ⟨rfl, hg⟩
  | none =>
    refine sy_acc (l' := l') (v := .tuple #[]) S (Or.inl rfl) (hC.mono fun e w' h => h) (by kernel_rfl) (by intro f hf; simp at hf; subst hf; exact fun h => hbg h.1.symm) fun aa w S => ?_
    refine sy_run ⟨0, []⟩ 60 S fun bs aa w S => ?_
    exact sy_ret S (by kernel_rfl) (by kernel_rfl) fun hg => ⟨rfl, S.run, hg⟩
theorem sleep_any (w0 : World) (g : Nat) (L : Ly) (hok : L.ok) (me : Int) (ht : 0 ≤ me ∧ me ≤ 61) (hs : decide (atStatus L me < 0) = false) (sa : Option Addr) (sl sc : Nat) (b o : Nat) (Q : List (Int × Int × Int)) (hQ : Q.length = sl) (hbg : b ≠ g) (hsa : sl = 0 ∨ sa = some ⟨b, o, none⟩) (hw : ∀ s ∈ Q, decide (atWaiters L s.1 < 0) = false) (hsl : sl ≤ 1000000) (l : List (Int × Bool)) (hl : l.length ≤ 1000000) (hI : ∀ x ∈ l, I64 x.1) (hR : RunAt w0 g l) (hA : SeenAt w0 b o Q) : Calls Try.prog 40 #[.agg (waC g L me (.slice sa sl sc)).toArray] w0 (WtPost (sleepS L me Q l) g w0) := by
  rcases l with _ | ⟨r, l⟩
  · exact sleep_0 w0 g L hok me ht hs sa sl sc b o Q hQ hbg hsa hw hsl hR hA
  · by_cases h : r.1 = 0
    · rw [show sleepS L me Q (r :: l) = ({}, (l, none)) from if_pos h]; exact sleep_t w0 g L hok me ht hs sa sl sc b o Q hQ hbg hsa hw hsl r l hl hI h hR hA
    · rw [show sleepS L me Q (r :: l) = ({ ok := true }, markS L me 4 Q l) from if_neg h]; exact sleep_f w0 g L hok me ht hs sa sl sc b o Q hQ hbg hsa hw hsl r l hl hI h hR hA
end Go.Proofs.Ytfahnmpcclhjlaa


/-
  Layer 21: Next of the program, as a function of the log.
-/
namespace Go.Proofs.Ytfahnmpcclhjlaa
open Go Go.RowKit SX
set_option linter.unusedVariables false
set_option linter.unusedSimpArgs false
set_option maxRecDepth 100000
attribute [local irreducible] post GD
/-- All that was read are locations. -/
def allW (L : Ly) : List (Int × Int × Int) → Bool
  | [] => true
  | s :: S => !decide (atWord L s.1 < 0) && allW L S
def validS (L : Ly) (me : Int) (Q : List (Int × Int × Int)) : Bool := allW L Q && decide (atWake L me ≥ 0)
noncomputable def vaC : Cfg := ⟨goL 60 [] [.code (bodyOf Try.f33)], ⟨0, [], []⟩⟩
noncomputable def vaS (b1 b2 b3 : Nat) (sa : Option Addr) (sl sc : Nat) (j : Nat) : SS := ⟨(cfg0 Try.f33 #[.pointer (some ⟨b1, 0, none⟩), .pointer (some ⟨b2, 0, none⟩), .pointer (some ⟨b3, 0, none⟩)]).s.n, [(0, .v (.pointer (some ⟨b1, 0, none⟩))), (1, .v (.pointer (some ⟨b2, 0, none⟩))), (2, .v (.pointer (some ⟨b3, 0, none⟩))), (7, .v (.slice sa sl sc)), (8, .v (.int .i64 (sl : Int))), (9, .v (.int .i64 (j : Int)))], []⟩
set_option maxHeartbeats 8000000 in
theorem va_end (w0 : World) (b1 b2 b3 : Nat) (L : Ly) (hok : L.ok) (me : Int) (k a bb ty : Int) (ms mk ma : Int) (wa da : Option Addr) (wl wc dl dc : Nat) (sa : Option Addr) (sl sc : Nat) (b o : Nat) (Q : List (Int × Int × Int)) (hQ : Q.length = sl) (hsa : sl = 0 ∨ sa = some ⟨b, o, none⟩) (hsl : sl ≤ 1000000) (n : Nat) (bs : List Nat) (aa : Act) (w : World) (S : Sy w0 none bs (vaS b1 b2 b3 sa sl sc sl) [rfBox b1 48 [.int .i64 k, .int .i64 a, .int .i64 bb, .int .i64 ty, .int .i64 ms, .int .i64 mk, .int .i64 ma, .slice sa sl sc, .slice wa wl wc, .slice da dl dc], rfBox b2 42 [.int .i64 L.c.t, .int .i64 L.c.l, .int .i64 L.c.k, .int .i64 L.c.s, .int .i64 L.c.m, .int .i64 L.clock, .int .i64 L.stamps, .int .i64 L.log, .int .i64 L.fin, .int .i64 L.thread, .int .i64 L.lock, .int .i64 L.loc, .int .i64 L.size], rfBox b3 3 [.int .i64 me], rfSeen b o Q] aa w) : post Try.prog (.rnd (n + 1) (bodyL vaC) :: vaC.k.tail) (bodyPost Try.prog Try.f33 (fun e w' => e = .returned (.bool (decide (atWake L me ≥ 0))) ∧ Below w0.heap.size w0 w')) .normal aa w := by
  refine sy_run (c := ⟨(.rnd (n + 1) (bodyL vaC) :: vaC.k.tail), vaS b1 b2 b3 sa sl sc sl⟩) ⟨0, [2]⟩ 50 S fun bs aa w S => ?_
  refine sy_reg S fun S => ?_
  refine sy_ops 2 S fun bs aa w S => ?_
  refine sy_run ⟨0, []⟩ 1 S fun bs aa w S => ?_
  refine sy_cond false S (by simp : decide ((sl : Int) < (sl : Int)) = false) (by kernel_rfl) fun S => ?_
  refine sy_run ⟨0, []⟩ 60 S fun bs aa w S => ?_
  refine sy_ldo S (S.ldBox (b := b2) (ty' := 42) (cs := [.int .i64 L.c.t, .int .i64 L.c.l, .int .i64 L.c.k, .int .i64 L.c.s, .int .i64 L.c.m, .int .i64 L.clock, .int .i64 L.stamps, .int .i64 L.log, .int .i64 L.fin, .int .i64 L.thread, .int .i64 L.lock, .int .i64 L.loc, .int .i64 L.size]) (o := 0) (ty := 42) (v := L.v) (by simp) (by kernel_rfl)) (by kernel_rfl) fun aa S => ?_
  refine sy_run ⟨0, []⟩ 60 S fun bs aa w S => ?_
  refine sy_ldo S (S.ldBox (b := b3) (ty' := 3) (cs := [.int .i64 me]) (o := 0) (ty := 3) (v := .int .i64 me) (by simp) (by kernel_rfl)) (by kernel_rfl) fun aa S => ?_
  refine sy_run ⟨0, []⟩ 60 S fun bs aa w S => ?_
  refine sy_call1 S (wake_any L me w hok) (by kernel_rfl) fun aa w hb S => ?_
  refine sy_run ⟨0, []⟩ 60 S fun bs aa w S => ?_
  exact sy_ret S (by kernel_rfl) (by kernel_rfl) fun hg => ⟨rfl, below_of_gr hg⟩
set_option maxHeartbeats 8000000 in
theorem va_bad (w0 : World) (b1 b2 b3 : Nat) (L : Ly) (hok : L.ok) (me : Int) (k a bb ty : Int) (ms mk ma : Int) (wa da : Option Addr) (wl wc dl dc : Nat) (sa : Option Addr) (sl sc : Nat) (b o : Nat) (Q : List (Int × Int × Int)) (hQ : Q.length = sl) (hsa : sl = 0 ∨ sa = some ⟨b, o, none⟩) (hsl : sl ≤ 1000000) (n j : Nat) (hj : j < sl) (hx : decide (atWord L (Q.getD j (0, 0, 0)).1 < 0) = true) (bs : List Nat) (aa : Act) (w : World) (S : Sy w0 none bs (vaS b1 b2 b3 sa sl sc j) [rfBox b1 48 [.int .i64 k, .int .i64 a, .int .i64 bb, .int .i64 ty, .int .i64 ms, .int .i64 mk, .int .i64 ma, .slice sa sl sc, .slice wa wl wc, .slice da dl dc], rfBox b2 42 [.int .i64 L.c.t, .int .i64 L.c.l, .int .i64 L.c.k, .int .i64 L.c.s, .int .i64 L.c.m, .int .i64 L.clock, .int .i64 L.stamps, .int .i64 L.log, .int .i64 L.fin, .int .i64 L.thread, .int .i64 L.lock, .int .i64 L.loc, .int .i64 L.size], rfBox b3 3 [.int .i64 me], rfSeen b o Q] aa w) : post Try.prog (.rnd (n + 1) (bodyL vaC) :: vaC.k.tail) (bodyPost Try.prog Try.f33 (fun e w' => e = .returned (.bool (false)) ∧ Below w0.heap.size w0 w')) .normal aa w := by
  refine sy_run (c := ⟨(.rnd (n + 1) (bodyL vaC) :: vaC.k.tail), vaS b1 b2 b3 sa sl sc j⟩) ⟨0, [2]⟩ 50 S fun bs aa w S => ?_
  refine sy_reg S fun S => ?_
  refine sy_ops 2 S fun bs aa w S => ?_
  refine sy_run ⟨0, []⟩ 1 S fun bs aa w S => ?_
  refine sy_cond true S (by simp; omega : decide ((j : Int) < (sl : Int)) = true) (by kernel_rfl) fun S => ?_
  refine sy_run ⟨0, [3]⟩ 60 S fun bs aa w S => ?_
  refine sy_reg S fun S => ?_
  refine sy_ix (b := b) (off := o) (len := sl) (n := j) (size := 3) (i := (j : Int)) S (by rw [← hsa.resolve_left (by omega)]; kernel_rfl) rfl hj fun aa S => ?_
  refine sy_run ⟨0, []⟩ 60 S fun bs aa w S => ?_
  refine sy_ldo S (ld_seen (j := j) (S.fact (f := rfSeen b o Q) (by simp)) (by omega)) (by kernel_rfl) fun aa S => ?_
  refine sy_run ⟨0, [4]⟩ 60 S fun bs aa w S => ?_
  refine sy_reg S fun S => ?_
  refine sy_ldo S (S.ldBox (b := b2) (ty' := 42) (cs := [.int .i64 L.c.t, .int .i64 L.c.l, .int .i64 L.c.k, .int .i64 L.c.s, .int .i64 L.c.m, .int .i64 L.clock, .int .i64 L.stamps, .int .i64 L.log, .int .i64 L.fin, .int .i64 L.thread, .int .i64 L.lock, .int .i64 L.loc, .int .i64 L.size]) (o := 0) (ty := 42) (v := L.v) (by simp) (by kernel_rfl)) (by kernel_rfl) fun aa S => ?_
  refine sy_ops 2 S fun bs aa w S => ?_
  refine sy_call1 S (word_any L (Q.getD j (0, 0, 0)).1 w hok) (by kernel_rfl) fun aa w hb S => ?_
  refine sy_ops 2 S fun bs aa w S => ?_
  refine sy_cond true S hx (by kernel_rfl) fun S => ?_
  refine sy_run ⟨0, []⟩ 60 S fun bs aa w S => ?_
  exact sy_ret S (by kernel_rfl) (by kernel_rfl) fun hg => ⟨rfl, below_of_gr hg⟩
set_option maxHeartbeats 8000000 in
theorem va_ok (w0 : World) (b1 b2 b3 : Nat) (L : Ly) (hok : L.ok) (me : Int) (k a bb ty : Int) (ms mk ma : Int) (wa da : Option Addr) (wl wc dl dc : Nat) (sa : Option Addr) (sl sc : Nat) (b o : Nat) (Q : List (Int × Int × Int)) (hQ : Q.length = sl) (hsa : sl = 0 ∨ sa = some ⟨b, o, none⟩) (hsl : sl ≤ 1000000) (n j : Nat) (hj : j < sl) (hx : decide (atWord L (Q.getD j (0, 0, 0)).1 < 0) = false) (x : Bool) (ih : ∀ (bs : List Nat) (aa : Act) (w : World), Sy w0 none bs (vaS b1 b2 b3 sa sl sc (j + 1)) [rfBox b1 48 [.int .i64 k, .int .i64 a, .int .i64 bb, .int .i64 ty, .int .i64 ms, .int .i64 mk, .int .i64 ma, .slice sa sl sc, .slice wa wl wc, .slice da dl dc], rfBox b2 42 [.int .i64 L.c.t, .int .i64 L.c.l, .int .i64 L.c.k, .int .i64 L.c.s, .int .i64 L.c.m, .int .i64 L.clock, .int .i64 L.stamps, .int .i64 L.log, .int .i64 L.fin, .int .i64 L.thread, .int .i64 L.lock, .int .i64 L.loc, .int .i64 L.size], rfBox b3 3 [.int .i64 me], rfSeen b o Q] aa w → post Try.prog (.rnd (n) (bodyL vaC) :: vaC.k.tail) (bodyPost Try.prog Try.f33 (fun e w' => e = .returned (.bool (x)) ∧ Below w0.heap.size w0 w')) .normal aa w) (bs : List Nat) (aa : Act) (w : World) (S : Sy w0 none bs (vaS b1 b2 b3 sa sl sc j) [rfBox b1 48 [.int .i64 k, .int .i64 a, .int .i64 bb, .int .i64 ty, .int .i64 ms, .int .i64 mk, .int .i64 ma, .slice sa sl sc, .slice wa wl wc, .slice da dl dc], rfBox b2 42 [.int .i64 L.c.t, .int .i64 L.c.l, .int .i64 L.c.k, .int .i64 L.c.s, .int .i64 L.c.m, .int .i64 L.clock, .int .i64 L.stamps, .int .i64 L.log, .int .i64 L.fin, .int .i64 L.thread, .int .i64 L.lock, .int .i64 L.loc, .int .i64 L.size], rfBox b3 3 [.int .i64 me], rfSeen b o Q] aa w) : post Try.prog (.rnd (n + 1) (bodyL vaC) :: vaC.k.tail) (bodyPost Try.prog Try.f33 (fun e w' => e = .returned (.bool (x)) ∧ Below w0.heap.size w0 w')) .normal aa w := by
  refine sy_run (c := ⟨(.rnd (n + 1) (bodyL vaC) :: vaC.k.tail), vaS b1 b2 b3 sa sl sc j⟩) ⟨0, [2]⟩ 50 S fun bs aa w S => ?_
  refine sy_reg S fun S => ?_
  refine sy_ops 2 S fun bs aa w S => ?_
  refine sy_run ⟨0, []⟩ 1 S fun bs aa w S => ?_
  refine sy_cond true S (by simp; omega : decide ((j : Int) < (sl : Int)) = true) (by kernel_rfl) fun S => ?_
  refine sy_run ⟨0, [3]⟩ 60 S fun bs aa w S => ?_
  refine sy_reg S fun S => ?_
  refine sy_ix (b := b) (off := o) (len := sl) (n := j) (size := 3) (i := (j : Int)) S (by rw [← hsa.resolve_left (by omega)]; kernel_rfl) rfl hj fun aa S => ?_
  refine sy_run ⟨0, []⟩ 60 S fun bs aa w S => ?_
  refine sy_ldo S (ld_seen (j := j) (S.fact (f := rfSeen b o Q) (by simp)) (by omega)) (by kernel_rfl) fun aa S => ?_
  refine sy_run ⟨0, [4]⟩ 60 S fun bs aa w S => ?_
  refine sy_reg S fun S => ?_
  refine sy_ldo S (S.ldBox (b := b2) (ty' := 42) (cs := [.int .i64 L.c.t, .int .i64 L.c.l, .int .i64 L.c.k, .int .i64 L.c.s, .int .i64 L.c.m, .int .i64 L.clock, .int .i64 L.stamps, .int .i64 L.log, .int .i64 L.fin, .int .i64 L.thread, .int .i64 L.lock, .int .i64 L.loc, .int .i64 L.size]) (o := 0) (ty := 42) (v := L.v) (by simp) (by kernel_rfl)) (by kernel_rfl) fun aa S => ?_
  refine sy_ops 2 S fun bs aa w S => ?_
  refine sy_call1 S (word_any L (Q.getD j (0, 0, 0)).1 w hok) (by kernel_rfl) fun aa w hb S => ?_
  refine sy_ops 2 S fun bs aa w S => ?_
  refine sy_cond false S hx (by kernel_rfl) fun S => ?_
  refine sy_run ⟨0, [6]⟩ 60 S fun bs aa w S => ?_
  refine sy_reg S fun S => ?_
  refine sy_ops 1 S fun bs aa w S => ?_
  refine sy_cast 18 S (congrArg (Value.int .i64) (by rw [IntKind.wrap_i64]; omega : IntKind.i64.wrap ((j : Int) + 1) = ((j + 1 : Nat) : Int))) (by kernel_rfl) fun S => ?_
  refine sy_run ⟨0, [999]⟩ 60 S fun bs aa w S => ?_
  have S' := S.to [] (vaS b1 b2 b3 sa sl sc (j + 1)) (by kernel_rfl) (by kernel_rfl) (by kernel_rfl) (by kernel_rfl) (by kernel_rfl)
  refine sy_at (k := (.rnd (n) (bodyL vaC) :: vaC.k.tail)) (by kernel_rfl) ?_
  exact ih _ aa w S'
theorem va_all (w0 : World) (b1 b2 b3 : Nat) (L : Ly) (hok : L.ok) (me : Int) (k a bb ty : Int) (ms mk ma : Int) (wa da : Option Addr) (wl wc dl dc : Nat) (sa : Option Addr) (sl sc : Nat) (b o : Nat) (Q : List (Int × Int × Int)) (hQ : Q.length = sl) (hsa : sl = 0 ∨ sa = some ⟨b, o, none⟩) (hsl : sl ≤ 1000000) : ∀ (r j : Nat), j + r = sl → ∀ (bs : List Nat) (aa : Act) (w : World) (S : Sy w0 none bs (vaS b1 b2 b3 sa sl sc j) [rfBox b1 48 [.int .i64 k, .int .i64 a, .int .i64 bb, .int .i64 ty, .int .i64 ms, .int .i64 mk, .int .i64 ma, .slice sa sl sc, .slice wa wl wc, .slice da dl dc], rfBox b2 42 [.int .i64 L.c.t, .int .i64 L.c.l, .int .i64 L.c.k, .int .i64 L.c.s, .int .i64 L.c.m, .int .i64 L.clock, .int .i64 L.stamps, .int .i64 L.log, .int .i64 L.fin, .int .i64 L.thread, .int .i64 L.lock, .int .i64 L.loc, .int .i64 L.size], rfBox b3 3 [.int .i64 me], rfSeen b o Q] aa w), post Try.prog (.rnd (r + 1) (bodyL vaC) :: vaC.k.tail) (bodyPost Try.prog Try.f33 (fun e w' => e = .returned (.bool (validS L me (Q.drop j))) ∧ Below w0.heap.size w0 w')) .normal aa w := by
  intro r
  induction r with
  | zero =>
    intro j hj bs aa w S
    obtain rfl : j = sl := by omega
    rw [List.drop_of_length_le (by omega)]
    exact va_end w0 b1 b2 b3 L hok me k a bb ty ms mk ma wa da wl wc dl dc sa j sc b o Q hQ hsa hsl 0 bs aa w S
  | succ r ih =>
    intro j hj bs aa w S
    rw [drop_at (by omega)]
    cases hx : decide (atWord L (Q.getD j (0, 0, 0)).1 < 0) with
    | true =>
      have e : validS L me ((Q.getD j (0, 0, 0)) :: Q.drop (j + 1)) = false := by simp only [validS, allW, hx, Bool.not_true, Bool.false_and]
      rw [e]
      exact va_bad w0 b1 b2 b3 L hok me k a bb ty ms mk ma wa da wl wc dl dc sa sl sc b o Q hQ hsa hsl (r + 1) j (by omega) hx bs aa w S
    | false =>
      have e : validS L me ((Q.getD j (0, 0, 0)) :: Q.drop (j + 1)) = validS L me (Q.drop (j + 1)) := by simp only [validS, allW, hx, Bool.not_false, Bool.true_and]
      rw [e]
      exact va_ok w0 b1 b2 b3 L hok me k a bb ty ms mk ma wa da wl wc dl dc sa sl sc b o Q hQ hsa hsl (r + 1) j (by omega) hx _ (fun bs aa w S => ih (j + 1) (by omega) bs aa w S) bs aa w S
set_option maxHeartbeats 8000000 in
theorem valid_any (w0 : World) (b1 b2 b3 : Nat) (L : Ly) (hok : L.ok) (me : Int) (k a bb ty : Int) (ms mk ma : Int) (wa da : Option Addr) (wl wc dl dc : Nat) (sa : Option Addr) (sl sc : Nat) (b o : Nat) (Q : List (Int × Int × Int)) (hQ : Q.length = sl) (hsa : sl = 0 ∨ sa = some ⟨b, o, none⟩) (hsl : sl ≤ 1000000) (h1 : w0.heap[b1]? = some (.cells ([.int .i64 k, .int .i64 a, .int .i64 bb, .int .i64 ty, .int .i64 ms, .int .i64 mk, .int .i64 ma, .slice sa sl sc, .slice wa wl wc, .slice da dl dc] : List Value).toArray 48 (0, 0))) (h2 : w0.heap[b2]? = some (.cells ([.int .i64 L.c.t, .int .i64 L.c.l, .int .i64 L.c.k, .int .i64 L.c.s, .int .i64 L.c.m, .int .i64 L.clock, .int .i64 L.stamps, .int .i64 L.log, .int .i64 L.fin, .int .i64 L.thread, .int .i64 L.lock, .int .i64 L.loc, .int .i64 L.size] : List Value).toArray 42 (0, 0))) (h3 : w0.heap[b3]? = some (.cells ([.int .i64 me] : List Value).toArray 3 (0, 0))) (hA : SeenAt w0 b o Q) :
    Calls Try.prog 33 #[.pointer (some ⟨b1, 0, none⟩), .pointer (some ⟨b2, 0, none⟩), .pointer (some ⟨b3, 0, none⟩)] w0 fun e w' => e = .returned (.bool (validS L me Q)) ∧ Below w0.heap.size w0 w' := by
  refine sy_enterF none [rfBox b1 48 [.int .i64 k, .int .i64 a, .int .i64 bb, .int .i64 ty, .int .i64 ms, .int .i64 mk, .int .i64 ma, .slice sa sl sc, .slice wa wl wc, .slice da dl dc], rfBox b2 42 [.int .i64 L.c.t, .int .i64 L.c.l, .int .i64 L.c.k, .int .i64 L.c.s, .int .i64 L.c.m, .int .i64 L.clock, .int .i64 L.stamps, .int .i64 L.log, .int .i64 L.fin, .int .i64 L.thread, .int .i64 L.lock, .int .i64 L.loc, .int .i64 L.size], rfBox b3 3 [.int .i64 me], rfSeen b o Q] (by
    intro f hf
    simp only [List.mem_cons, List.not_mem_nil, or_false] at hf
    rcases hf with rfl | rfl | rfl | rfl
    · exact h1
    · exact h2
    · exact h3
    · exact hA) Try.func33 rfl fun aa S => ?_
  refine sy_run ⟨0, []⟩ 60 S fun bs aa w S => ?_
  refine sy_ldo S (S.ldBox (b := b1) (ty' := 48) (cs := [.int .i64 k, .int .i64 a, .int .i64 bb, .int .i64 ty, .int .i64 ms, .int .i64 mk, .int .i64 ma, .slice sa sl sc, .slice wa wl wc, .slice da dl dc]) (o := 7) (ty := 35) (v := .slice sa sl sc) (by simp) (by kernel_rfl)) (by kernel_rfl) fun aa S => ?_
  refine sy_run ⟨0, []⟩ 60 S fun bs aa w S => ?_
  have S' := S.to [] (vaS b1 b2 b3 sa sl sc 0) (by kernel_rfl) (by kernel_rfl) (by kernel_rfl) (by kernel_rfl) (by kernel_rfl)
  refine sy_loop (sl + 1) (by kernel_rfl) ?_
  refine post_at (k' := (.rnd (sl + 1) (bodyL vaC) :: vaC.k.tail)) (by kernel_rfl) ?_
  exact va_all w0 b1 b2 b3 L hok me k a bb ty ms mk ma wa da wl wc dl dc sa sl sc b o Q hQ hsa hsl sl 0 (by omega) _ aa w S'
/-- What Next makes of a log. -/
def waitS (L : Ly) (me k : Int) (Q : List (Int × Int × Int)) (l : List (Int × Bool)) : OutD × CSt := if k = 5 then watchS L me Q l else sleepS L me Q l
theorem opPost_cs {x : OutD × CSt} {g : Nat} {w w' : World} {e : Ending} (h : CsPost x.2 x.1.v g w e w') : OpPost (toldX x) g w e w' := by
  obtain ⟨o, l, q⟩ := x
  cases q with
  | none => exact ⟨h.1, h.2.2⟩
  | some q => exact ⟨h.1, h.2⟩
set_option maxHeartbeats 8000000 in
theorem wx_5 (g : Nat) (w0 : World) (b1 b2 b3 : Nat) (L : Ly) (hok : L.ok) (me : Int) (a bb ty : Int) (ms mk ma : Int) (wa da : Option Addr) (wl wc dl dc : Nat) (sa : Option Addr) (sl sc : Nat) (b o : Nat) (Q : List (Int × Int × Int)) (hQ : Q.length = sl) (hsa : sl = 0 ∨ sa = some ⟨b, o, none⟩) (hsl : sl ≤ 1000000) (ht : 0 ≤ me ∧ me ≤ 61) (hs : decide (atStatus L me < 0) = false) (hbg : b ≠ g) (hw : ∀ s ∈ Q, decide (atWaiters L s.1 < 0) = false) (l : List (Int × Bool)) (hl : l.length ≤ 1000000) (hI : ∀ x ∈ l, I64 x.1) (hR : RunAt w0 g l) (hA : SeenAt w0 b o Q) (h1 : w0.heap[b1]? = some (.cells ([.int .i64 L.c.t, .int .i64 L.c.l, .int .i64 L.c.k, .int .i64 L.c.s, .int .i64 L.c.m, .int .i64 L.clock, .int .i64 L.stamps, .int .i64 L.log, .int .i64 L.fin, .int .i64 L.thread, .int .i64 L.lock, .int .i64 L.loc, .int .i64 L.size] : List Value).toArray 42 (0, 0))) (h2 : w0.heap[b2]? = some (.cells ([.int .i64 me] : List Value).toArray 3 (0, 0))) (h3 : w0.heap[b3]? = some (.cells ([.int .i64 5, .int .i64 a, .int .i64 bb, .int .i64 ty, .int .i64 ms, .int .i64 mk, .int .i64 ma, .slice sa sl sc, .slice wa wl wc, .slice da dl dc] : List Value).toArray 48 (0, 0))) (n1 : b1 ≠ g) (n2 : b2 ≠ g) (n3 : b3 ≠ g) :
    Calls Try.prog 38 #[.pointer (some ⟨g, 0, none⟩), .pointer (some ⟨b1, 0, none⟩), .pointer (some ⟨b2, 0, none⟩), .pointer (some ⟨b3, 0, none⟩)] w0 (WtPost (watchS L me Q l) g w0) := by
  refine sy_enterF (some g) [rfRun g l, rfBox b1 42 [.int .i64 L.c.t, .int .i64 L.c.l, .int .i64 L.c.k, .int .i64 L.c.s, .int .i64 L.c.m, .int .i64 L.clock, .int .i64 L.stamps, .int .i64 L.log, .int .i64 L.fin, .int .i64 L.thread, .int .i64 L.lock, .int .i64 L.loc, .int .i64 L.size], rfBox b2 3 [.int .i64 me], rfBox b3 48 [.int .i64 5, .int .i64 a, .int .i64 bb, .int .i64 ty, .int .i64 ms, .int .i64 mk, .int .i64 ma, .slice sa sl sc, .slice wa wl wc, .slice da dl dc], rfSeen b o Q] (by
    intro f hf
    simp only [List.mem_cons, List.not_mem_nil, or_false] at hf
    rcases hf with rfl | rfl | rfl | rfl | rfl
    · exact hR
    · exact h1
    · exact h2
    · exact h3
    · exact hA) Try.func38 rfl fun aa S => ?_
  refine sy_run ⟨0, []⟩ 60 S fun bs aa w S => ?_
  refine sy_ldo S (S.ldBox (b := b1) (ty' := 42) (cs := [.int .i64 L.c.t, .int .i64 L.c.l, .int .i64 L.c.k, .int .i64 L.c.s, .int .i64 L.c.m, .int .i64 L.clock, .int .i64 L.stamps, .int .i64 L.log, .int .i64 L.fin, .int .i64 L.thread, .int .i64 L.lock, .int .i64 L.loc, .int .i64 L.size]) (o := 0) (ty := 42) (v := L.v) (by simp) (by kernel_rfl)) (by kernel_rfl) fun aa S => ?_
  refine sy_run ⟨0, []⟩ 60 S fun bs aa w S => ?_
  refine sy_ldo S (S.ldBox (b := b2) (ty' := 3) (cs := [.int .i64 me]) (o := 0) (ty := 3) (v := .int .i64 me) (by simp) (by kernel_rfl)) (by kernel_rfl) fun aa S => ?_
  refine sy_run ⟨0, []⟩ 60 S fun bs aa w S => ?_
  refine sy_ldo S (S.ldBox (b := b3) (ty' := 48) (cs := [.int .i64 5, .int .i64 a, .int .i64 bb, .int .i64 ty, .int .i64 ms, .int .i64 mk, .int .i64 ma, .slice sa sl sc, .slice wa wl wc, .slice da dl dc]) (o := 7) (ty := 35) (v := .slice sa sl sc) (by simp) (by kernel_rfl)) (by kernel_rfl) fun aa S => ?_
  refine sy_run ⟨0, []⟩ 60 S fun bs aa w S => ?_
  refine sy_ldo S (S.ldBox (b := b3) (ty' := 48) (cs := [.int .i64 5, .int .i64 a, .int .i64 bb, .int .i64 ty, .int .i64 ms, .int .i64 mk, .int .i64 ma, .slice sa sl sc, .slice wa wl wc, .slice da dl dc]) (o := 0) (ty := 3) (v := .int .i64 5) (by simp) (by kernel_rfl)) (by kernel_rfl) fun aa S => ?_
  refine sy_run ⟨0, []⟩ 60 S fun bs aa w S => ?_
  have hC := watch_any w g L hok me ht hs sa sl sc b o Q hQ hbg hsa hw hsl l hl hI S.run (S.fact (f := rfSeen b o Q) (by simp))
  obtain ⟨⟨ov, l', oq⟩, hX⟩ : ∃ X, watchS L me Q l = X := ⟨_, rfl⟩
  rw [hX] at hC ⊢
  cases oq with
  | some q => exact sy_panic S (hC.mono fun e w' h => h) (by kernel_rfl) fun w' hg => ⟨rfl, hg⟩
  | none =>
    have S := S.sub (F' := [rfRun g l]) (by simp)
    refine sy_acc (l' := l') (v := ov.v) S (Or.inl rfl) (hC.mono fun e w' h => h) (by kernel_rfl) (by simp) fun aa w S => ?_
    refine sy_run ⟨0, []⟩ 60 S fun bs aa w S => ?_
    exact sy_ret S (by kernel_rfl) (by kernel_rfl) fun hg => ⟨rfl, S.run, hg⟩
set_option maxHeartbeats 8000000 in
theorem wx_6 (g : Nat) (w0 : World) (b1 b2 b3 : Nat) (L : Ly) (hok : L.ok) (me : Int) (a bb ty : Int) (ms mk ma : Int) (wa da : Option Addr) (wl wc dl dc : Nat) (sa : Option Addr) (sl sc : Nat) (b o : Nat) (Q : List (Int × Int × Int)) (hQ : Q.length = sl) (hsa : sl = 0 ∨ sa = some ⟨b, o, none⟩) (hsl : sl ≤ 1000000) (ht : 0 ≤ me ∧ me ≤ 61) (hs : decide (atStatus L me < 0) = false) (hbg : b ≠ g) (hw : ∀ s ∈ Q, decide (atWaiters L s.1 < 0) = false) (l : List (Int × Bool)) (hl : l.length ≤ 1000000) (hI : ∀ x ∈ l, I64 x.1) (hR : RunAt w0 g l) (hA : SeenAt w0 b o Q) (h1 : w0.heap[b1]? = some (.cells ([.int .i64 L.c.t, .int .i64 L.c.l, .int .i64 L.c.k, .int .i64 L.c.s, .int .i64 L.c.m, .int .i64 L.clock, .int .i64 L.stamps, .int .i64 L.log, .int .i64 L.fin, .int .i64 L.thread, .int .i64 L.lock, .int .i64 L.loc, .int .i64 L.size] : List Value).toArray 42 (0, 0))) (h2 : w0.heap[b2]? = some (.cells ([.int .i64 me] : List Value).toArray 3 (0, 0))) (h3 : w0.heap[b3]? = some (.cells ([.int .i64 6, .int .i64 a, .int .i64 bb, .int .i64 ty, .int .i64 ms, .int .i64 mk, .int .i64 ma, .slice sa sl sc, .slice wa wl wc, .slice da dl dc] : List Value).toArray 48 (0, 0))) (n1 : b1 ≠ g) (n2 : b2 ≠ g) (n3 : b3 ≠ g) :
    Calls Try.prog 38 #[.pointer (some ⟨g, 0, none⟩), .pointer (some ⟨b1, 0, none⟩), .pointer (some ⟨b2, 0, none⟩), .pointer (some ⟨b3, 0, none⟩)] w0 (WtPost (sleepS L me Q l) g w0) := by
  refine sy_enterF (some g) [rfRun g l, rfBox b1 42 [.int .i64 L.c.t, .int .i64 L.c.l, .int .i64 L.c.k, .int .i64 L.c.s, .int .i64 L.c.m, .int .i64 L.clock, .int .i64 L.stamps, .int .i64 L.log, .int .i64 L.fin, .int .i64 L.thread, .int .i64 L.lock, .int .i64 L.loc, .int .i64 L.size], rfBox b2 3 [.int .i64 me], rfBox b3 48 [.int .i64 6, .int .i64 a, .int .i64 bb, .int .i64 ty, .int .i64 ms, .int .i64 mk, .int .i64 ma, .slice sa sl sc, .slice wa wl wc, .slice da dl dc], rfSeen b o Q] (by
    intro f hf
    simp only [List.mem_cons, List.not_mem_nil, or_false] at hf
    rcases hf with rfl | rfl | rfl | rfl | rfl
    · exact hR
    · exact h1
    · exact h2
    · exact h3
    · exact hA) Try.func38 rfl fun aa S => ?_
  refine sy_run ⟨0, []⟩ 60 S fun bs aa w S => ?_
  refine sy_ldo S (S.ldBox (b := b1) (ty' := 42) (cs := [.int .i64 L.c.t, .int .i64 L.c.l, .int .i64 L.c.k, .int .i64 L.c.s, .int .i64 L.c.m, .int .i64 L.clock, .int .i64 L.stamps, .int .i64 L.log, .int .i64 L.fin, .int .i64 L.thread, .int .i64 L.lock, .int .i64 L.loc, .int .i64 L.size]) (o := 0) (ty := 42) (v := L.v) (by simp) (by kernel_rfl)) (by kernel_rfl) fun aa S => ?_
  refine sy_run ⟨0, []⟩ 60 S fun bs aa w S => ?_
  refine sy_ldo S (S.ldBox (b := b2) (ty' := 3) (cs := [.int .i64 me]) (o := 0) (ty := 3) (v := .int .i64 me) (by simp) (by kernel_rfl)) (by kernel_rfl) fun aa S => ?_
  refine sy_run ⟨0, []⟩ 60 S fun bs aa w S => ?_
  refine sy_ldo S (S.ldBox (b := b3) (ty' := 48) (cs := [.int .i64 6, .int .i64 a, .int .i64 bb, .int .i64 ty, .int .i64 ms, .int .i64 mk, .int .i64 ma, .slice sa sl sc, .slice wa wl wc, .slice da dl dc]) (o := 7) (ty := 35) (v := .slice sa sl sc) (by simp) (by kernel_rfl)) (by kernel_rfl) fun aa S => ?_
  refine sy_run ⟨0, []⟩ 60 S fun bs aa w S => ?_
  refine sy_ldo S (S.ldBox (b := b3) (ty' := 48) (cs := [.int .i64 6, .int .i64 a, .int .i64 bb, .int .i64 ty, .int .i64 ms, .int .i64 mk, .int .i64 ma, .slice sa sl sc, .slice wa wl wc, .slice da dl dc]) (o := 0) (ty := 3) (v := .int .i64 6) (by simp) (by kernel_rfl)) (by kernel_rfl) fun aa S => ?_
  refine sy_run ⟨0, []⟩ 60 S fun bs aa w S => ?_
  have hC := sleep_any w g L hok me ht hs sa sl sc b o Q hQ hbg hsa hw hsl l hl hI S.run (S.fact (f := rfSeen b o Q) (by simp))
  obtain ⟨⟨ov, l', oq⟩, hX⟩ : ∃ X, sleepS L me Q l = X := ⟨_, rfl⟩
  rw [hX] at hC ⊢
  cases oq with
  | some q => exact sy_panic S (hC.mono fun e w' h => h) (by kernel_rfl) fun w' hg => ⟨rfl, hg⟩
  | none =>
    have S := S.sub (F' := [rfRun g l]) (by simp)
    refine sy_acc (l' := l') (v := ov.v) S (Or.inl rfl) (hC.mono fun e w' h => h) (by kernel_rfl) (by simp) fun aa w S => ?_
    refine sy_run ⟨0, []⟩ 60 S fun bs aa w S => ?_
    exact sy_ret S (by kernel_rfl) (by kernel_rfl) fun hg => ⟨rfl, S.run, hg⟩
set_option maxHeartbeats 8000000 in
theorem wn_no (w : World) (L : Ly) (hok : L.ok) (me : Int) (k a bb ty : Int) (ms mk ma : Int) (wa da : Option Addr) (wl wc dl dc : Nat) (sa : Option Addr) (sl sc : Nat) (b o : Nat) (Q : List (Int × Int × Int)) (hQ : Q.length = sl) (hsa : sl = 0 ∨ sa = some ⟨b, o, none⟩) (hsl : sl ≤ 1000000) (v : Value) (l : List (Int × Bool)) (hv : LogOf w v l) (hA : SeenAt w b o Q) (h5 : (!decide (k = 5)) = true) (h6 : (!decide (k = 6)) = true) : Calls Try.prog 11 #[L.v, .int .i64 me, .agg #[.int .i64 k, .int .i64 a, .int .i64 bb, .int .i64 ty, .int .i64 ms, .int .i64 mk, .int .i64 ma, .slice sa sl sc, .slice wa wl wc, .slice da dl dc], v] w fun e w' => e = .returned (nextV (.inr { err := 1 })) ∧ Below w.heap.size w w' := by
  refine sy_enterF none [rfLog v l, rfSeen b o Q] (by
    intro f hf
    simp only [List.mem_cons, List.not_mem_nil, or_false] at hf
    rcases hf with rfl | rfl
    · exact hv
    · exact hA) Try.func11 rfl fun aa S => ?_
  refine sy_run ⟨0, [2]⟩ 60 S fun bs aa w S => ?_
  refine sy_reg S fun S => ?_
  refine sy_ops 3 S fun bs aa w S => ?_
  refine sy_cast 15 S (congrArg Value.bool h5) (by kernel_rfl) fun S => ?_
  refine sy_ops 4 S fun bs aa w S => ?_
  refine sy_cast 19 S (congrArg Value.bool h6) (by kernel_rfl) fun S => ?_
  refine sy_run ⟨0, []⟩ 60 S fun bs aa w S => ?_
  refine sy_call1 S (refuse_any 1 w) (by kernel_rfl) fun aa w2 hb S => ?_
  refine sy_run ⟨0, []⟩ 60 S fun bs aa w S => ?_
  exact sy_ret S (by kernel_rfl) (by kernel_rfl) fun g => ⟨rfl, below_of_gr g⟩
set_option maxHeartbeats 8000000 in
theorem wn_bad5 (w : World) (L : Ly) (hok : L.ok) (me : Int) (a bb ty : Int) (ms mk ma : Int) (wa da : Option Addr) (wl wc dl dc : Nat) (sa : Option Addr) (sl sc : Nat) (b o : Nat) (Q : List (Int × Int × Int)) (hQ : Q.length = sl) (hsa : sl = 0 ∨ sa = some ⟨b, o, none⟩) (hsl : sl ≤ 1000000) (v : Value) (l : List (Int × Bool)) (hv : LogOf w v l) (hA : SeenAt w b o Q) (hval : validS L me Q = false) : Calls Try.prog 11 #[L.v, .int .i64 me, .agg #[.int .i64 5, .int .i64 a, .int .i64 bb, .int .i64 ty, .int .i64 ms, .int .i64 mk, .int .i64 ma, .slice sa sl sc, .slice wa wl wc, .slice da dl dc], v] w fun e w' => e = .returned (nextV (.inr { err := 1 })) ∧ Below w.heap.size w w' := by
  refine sy_enterF none [rfLog v l, rfSeen b o Q] (by
    intro f hf
    simp only [List.mem_cons, List.not_mem_nil, or_false] at hf
    rcases hf with rfl | rfl
    · exact hv
    · exact hA) Try.func11 rfl fun aa S => ?_
  refine sy_run ⟨0, []⟩ 60 S fun bs aa w S => ?_
  have w1_ := w
  have hV := valid_any w _ _ _ L hok me 5 a bb ty ms mk ma wa da wl wc dl dc sa sl sc b o Q hQ hsa hsl (S.bx 2 ⟨48, [.int .i64 5, .int .i64 a, .int .i64 bb, .int .i64 ty, .int .i64 ms, .int .i64 mk, .int .i64 ma, .slice sa sl sc, .slice wa wl wc, .slice da dl dc]⟩ (by kernel_rfl)) (S.bx 0 ⟨42, [.int .i64 L.c.t, .int .i64 L.c.l, .int .i64 L.c.k, .int .i64 L.c.s, .int .i64 L.c.m, .int .i64 L.clock, .int .i64 L.stamps, .int .i64 L.log, .int .i64 L.fin, .int .i64 L.thread, .int .i64 L.lock, .int .i64 L.loc, .int .i64 L.size]⟩ (by kernel_rfl)) (S.bx 1 ⟨3, [.int .i64 me]⟩ (by kernel_rfl)) (S.fact (f := rfSeen b o Q) (by simp))
  rw [hval] at hV
  refine sy_call1 S hV (by kernel_rfl) fun aa w hb S => ?_
  refine sy_run ⟨0, []⟩ 60 S fun bs aa w S => ?_
  refine sy_call1 S (refuse_any 1 w) (by kernel_rfl) fun aa w2 hb S => ?_
  refine sy_run ⟨0, []⟩ 60 S fun bs aa w S => ?_
  exact sy_ret S (by kernel_rfl) (by kernel_rfl) fun g => ⟨rfl, below_of_gr g⟩
set_option maxHeartbeats 8000000 in
theorem wn_ok5 (w : World) (L : Ly) (hok : L.ok) (me : Int) (a bb ty : Int) (ms mk ma : Int) (wa da : Option Addr) (wl wc dl dc : Nat) (sa : Option Addr) (sl sc : Nat) (b o : Nat) (Q : List (Int × Int × Int)) (hQ : Q.length = sl) (hsa : sl = 0 ∨ sa = some ⟨b, o, none⟩) (hsl : sl ≤ 1000000) (v : Value) (l : List (Int × Bool)) (hv : LogOf w v l) (hA : SeenAt w b o Q) (hval : validS L me Q = true) (ht : 0 ≤ me ∧ me ≤ 61) (hs : decide (atStatus L me < 0) = false) (hw : ∀ s ∈ Q, decide (atWaiters L s.1 < 0) = false) (hl : l.length ≤ 1000000) (hI : ∀ x ∈ l, I64 x.1) (x : Ask ⊕ OutD) (hx : toldX (watchS L me Q l) = x) : Calls Try.prog 11 #[L.v, .int .i64 me, .agg #[.int .i64 5, .int .i64 a, .int .i64 bb, .int .i64 ty, .int .i64 ms, .int .i64 mk, .int .i64 ma, .slice sa sl sc, .slice wa wl wc, .slice da dl dc], v] w fun e w' => e = .returned (nextV (x)) ∧ Below w.heap.size w w' := by
  refine sy_enterF none [rfLog v l, rfSeen b o Q] (by
    intro f hf
    simp only [List.mem_cons, List.not_mem_nil, or_false] at hf
    rcases hf with rfl | rfl
    · exact hv
    · exact hA) Try.func11 rfl fun aa S => ?_
  refine sy_run ⟨0, []⟩ 60 S fun bs aa w S => ?_
  have w1_ := w
  have hV := valid_any w _ _ _ L hok me 5 a bb ty ms mk ma wa da wl wc dl dc sa sl sc b o Q hQ hsa hsl (S.bx 2 ⟨48, [.int .i64 5, .int .i64 a, .int .i64 bb, .int .i64 ty, .int .i64 ms, .int .i64 mk, .int .i64 ma, .slice sa sl sc, .slice wa wl wc, .slice da dl dc]⟩ (by kernel_rfl)) (S.bx 0 ⟨42, [.int .i64 L.c.t, .int .i64 L.c.l, .int .i64 L.c.k, .int .i64 L.c.s, .int .i64 L.c.m, .int .i64 L.clock, .int .i64 L.stamps, .int .i64 L.log, .int .i64 L.fin, .int .i64 L.thread, .int .i64 L.lock, .int .i64 L.loc, .int .i64 L.size]⟩ (by kernel_rfl)) (S.bx 1 ⟨3, [.int .i64 me]⟩ (by kernel_rfl)) (S.fact (f := rfSeen b o Q) (by simp))
  rw [hval] at hV
  refine sy_call1 S hV (by kernel_rfl) fun aa w hb S => ?_
  refine sy_run ⟨0, []⟩ 60 S fun bs aa w1 S => ?_
  generalize hBS : (_ ++ bs : List Nat) = BS at S
  have hb0 := S.bx 0 ⟨42, [.int .i64 L.c.t, .int .i64 L.c.l, .int .i64 L.c.k, .int .i64 L.c.s, .int .i64 L.c.m, .int .i64 L.clock, .int .i64 L.stamps, .int .i64 L.log, .int .i64 L.fin, .int .i64 L.thread, .int .i64 L.lock, .int .i64 L.loc, .int .i64 L.size]⟩ (by kernel_rfl)
  have hn0 : BS.getD 0 0 < w1.heap.size := (Array.getElem?_eq_some_iff.1 hb0).1
  have hb1 := S.bx 1 ⟨3, [.int .i64 me]⟩ (by kernel_rfl)
  have hn1 : BS.getD 1 0 < w1.heap.size := (Array.getElem?_eq_some_iff.1 hb1).1
  have hb2 := S.bx 2 ⟨48, [.int .i64 5, .int .i64 a, .int .i64 bb, .int .i64 ty, .int .i64 ms, .int .i64 mk, .int .i64 ma, .slice sa sl sc, .slice wa wl wc, .slice da dl dc]⟩ (by kernel_rfl)
  have hn2 : BS.getD 2 0 < w1.heap.size := (Array.getElem?_eq_some_iff.1 hb2).1
  have hA1 : SeenAt w1 b o Q := S.fact (f := rfSeen b o Q) (by simp)
  have hF : ∀ w2 g, Below w1.heap.size w1 w2 → w1.heap.size ≤ g → RunAt w2 g l → Calls Try.prog 38 #[.pointer (some ⟨g, 0, none⟩), .pointer (some ⟨BS.getD 0 0, 0, none⟩), .pointer (some ⟨BS.getD 1 0, 0, none⟩), .pointer (some ⟨BS.getD 2 0, 0, none⟩)] w2 (OpPost x g w2) := fun w2 g hb hg hR => by
    rw [← hx]
    have two : ∃ b' o', (sl = 0 ∨ sa = some ⟨b', o', none⟩) ∧ b' ≠ g ∧ SeenAt w2 b' o' Q := by
      by_cases h0 : sl = 0
      · exact ⟨g + 1, 0, Or.inl h0, by omega, fun j hj => by omega⟩
      · have hlt : b < w1.heap.size := World.block_lt_of_cell? w1 _ (hA1 0 (by omega)).1
        exact ⟨b, o, hsa, by omega, seenAt_st hA1 (hb.block b hlt)⟩
    obtain ⟨b', o', q1, q2, q3⟩ := two
    exact (wx_5 g w2 _ _ _ L hok me a bb ty ms mk ma wa da wl wc dl dc sa sl sc b' o' Q hQ q1 hsl ht hs q2 hw l hl hI hR q3 ((hb.block _ hn0).trans hb0) ((hb.block _ hn1).trans hb1) ((hb.block _ hn2).trans hb2) (by omega) (by omega) (by omega)).mono fun e w' h => opPost_cs h
  cases x with
  | inl o =>
    refine sy_call1 S (of_c3 w1 v l 38 (by intro args w; rfl) (.pointer (some ⟨BS.getD 0 0, 0, none⟩)) (.pointer (some ⟨BS.getD 1 0, 0, none⟩)) (.pointer (some ⟨BS.getD 2 0, 0, none⟩)) (.inl o) (S.fact (f := rfLog v l) (by simp)) hF) (by kernel_rfl) fun aa w2 hb S => ?_
    refine sy_run ⟨0, []⟩ 60 S fun bs aa w S => ?_
    exact sy_ret S (by kernel_rfl) (by kernel_rfl) fun g => ⟨rfl, below_of_gr g⟩
  | inr o =>
    refine sy_call1 S (of_c3 w1 v l 38 (by intro args w; rfl) (.pointer (some ⟨BS.getD 0 0, 0, none⟩)) (.pointer (some ⟨BS.getD 1 0, 0, none⟩)) (.pointer (some ⟨BS.getD 2 0, 0, none⟩)) (.inr o) (S.fact (f := rfLog v l) (by simp)) hF) (by kernel_rfl) fun aa w2 hb S => ?_
    refine sy_run ⟨0, []⟩ 60 S fun bs aa w S => ?_
    exact sy_ret S (by kernel_rfl) (by kernel_rfl) fun g => ⟨rfl, below_of_gr g⟩
set_option maxHeartbeats 8000000 in
theorem wn_bad6 (w : World) (L : Ly) (hok : L.ok) (me : Int) (a bb ty : Int) (ms mk ma : Int) (wa da : Option Addr) (wl wc dl dc : Nat) (sa : Option Addr) (sl sc : Nat) (b o : Nat) (Q : List (Int × Int × Int)) (hQ : Q.length = sl) (hsa : sl = 0 ∨ sa = some ⟨b, o, none⟩) (hsl : sl ≤ 1000000) (v : Value) (l : List (Int × Bool)) (hv : LogOf w v l) (hA : SeenAt w b o Q) (hval : validS L me Q = false) : Calls Try.prog 11 #[L.v, .int .i64 me, .agg #[.int .i64 6, .int .i64 a, .int .i64 bb, .int .i64 ty, .int .i64 ms, .int .i64 mk, .int .i64 ma, .slice sa sl sc, .slice wa wl wc, .slice da dl dc], v] w fun e w' => e = .returned (nextV (.inr { err := 1 })) ∧ Below w.heap.size w w' := by
  refine sy_enterF none [rfLog v l, rfSeen b o Q] (by
    intro f hf
    simp only [List.mem_cons, List.not_mem_nil, or_false] at hf
    rcases hf with rfl | rfl
    · exact hv
    · exact hA) Try.func11 rfl fun aa S => ?_
  refine sy_run ⟨0, []⟩ 60 S fun bs aa w S => ?_
  have w1_ := w
  have hV := valid_any w _ _ _ L hok me 6 a bb ty ms mk ma wa da wl wc dl dc sa sl sc b o Q hQ hsa hsl (S.bx 2 ⟨48, [.int .i64 6, .int .i64 a, .int .i64 bb, .int .i64 ty, .int .i64 ms, .int .i64 mk, .int .i64 ma, .slice sa sl sc, .slice wa wl wc, .slice da dl dc]⟩ (by kernel_rfl)) (S.bx 0 ⟨42, [.int .i64 L.c.t, .int .i64 L.c.l, .int .i64 L.c.k, .int .i64 L.c.s, .int .i64 L.c.m, .int .i64 L.clock, .int .i64 L.stamps, .int .i64 L.log, .int .i64 L.fin, .int .i64 L.thread, .int .i64 L.lock, .int .i64 L.loc, .int .i64 L.size]⟩ (by kernel_rfl)) (S.bx 1 ⟨3, [.int .i64 me]⟩ (by kernel_rfl)) (S.fact (f := rfSeen b o Q) (by simp))
  rw [hval] at hV
  refine sy_call1 S hV (by kernel_rfl) fun aa w hb S => ?_
  refine sy_run ⟨0, []⟩ 60 S fun bs aa w S => ?_
  refine sy_call1 S (refuse_any 1 w) (by kernel_rfl) fun aa w2 hb S => ?_
  refine sy_run ⟨0, []⟩ 60 S fun bs aa w S => ?_
  exact sy_ret S (by kernel_rfl) (by kernel_rfl) fun g => ⟨rfl, below_of_gr g⟩
set_option maxHeartbeats 8000000 in
theorem wn_ok6 (w : World) (L : Ly) (hok : L.ok) (me : Int) (a bb ty : Int) (ms mk ma : Int) (wa da : Option Addr) (wl wc dl dc : Nat) (sa : Option Addr) (sl sc : Nat) (b o : Nat) (Q : List (Int × Int × Int)) (hQ : Q.length = sl) (hsa : sl = 0 ∨ sa = some ⟨b, o, none⟩) (hsl : sl ≤ 1000000) (v : Value) (l : List (Int × Bool)) (hv : LogOf w v l) (hA : SeenAt w b o Q) (hval : validS L me Q = true) (ht : 0 ≤ me ∧ me ≤ 61) (hs : decide (atStatus L me < 0) = false) (hw : ∀ s ∈ Q, decide (atWaiters L s.1 < 0) = false) (hl : l.length ≤ 1000000) (hI : ∀ x ∈ l, I64 x.1) (x : Ask ⊕ OutD) (hx : toldX (sleepS L me Q l) = x) : Calls Try.prog 11 #[L.v, .int .i64 me, .agg #[.int .i64 6, .int .i64 a, .int .i64 bb, .int .i64 ty, .int .i64 ms, .int .i64 mk, .int .i64 ma, .slice sa sl sc, .slice wa wl wc, .slice da dl dc], v] w fun e w' => e = .returned (nextV (x)) ∧ Below w.heap.size w w' := by
  refine sy_enterF none [rfLog v l, rfSeen b o Q] (by
    intro f hf
    simp only [List.mem_cons, List.not_mem_nil, or_false] at hf
    rcases hf with rfl | rfl
    · exact hv
    · exact hA) Try.func11 rfl fun aa S => ?_
  refine sy_run ⟨0, []⟩ 60 S fun bs aa w S => ?_
  have w1_ := w
  have hV := valid_any w _ _ _ L hok me 6 a bb ty ms mk ma wa da wl wc dl dc sa sl sc b o Q hQ hsa hsl (S.bx 2 ⟨48, [.int .i64 6, .int .i64 a, .int .i64 bb, .int .i64 ty, .int .i64 ms, .int .i64 mk, .int .i64 ma, .slice sa sl sc, .slice wa wl wc, .slice da dl dc]⟩ (by kernel_rfl)) (S.bx 0 ⟨42, [.int .i64 L.c.t, .int .i64 L.c.l, .int .i64 L.c.k, .int .i64 L.c.s, .int .i64 L.c.m, .int .i64 L.clock, .int .i64 L.stamps, .int .i64 L.log, .int .i64 L.fin, .int .i64 L.thread, .int .i64 L.lock, .int .i64 L.loc, .int .i64 L.size]⟩ (by kernel_rfl)) (S.bx 1 ⟨3, [.int .i64 me]⟩ (by kernel_rfl)) (S.fact (f := rfSeen b o Q) (by simp))
  rw [hval] at hV
  refine sy_call1 S hV (by kernel_rfl) fun aa w hb S => ?_
  refine sy_run ⟨0, []⟩ 60 S fun bs aa w1 S => ?_
  generalize hBS : (_ ++ bs : List Nat) = BS at S
  have hb0 := S.bx 0 ⟨42, [.int .i64 L.c.t, .int .i64 L.c.l, .int .i64 L.c.k, .int .i64 L.c.s, .int .i64 L.c.m, .int .i64 L.clock, .int .i64 L.stamps, .int .i64 L.log, .int .i64 L.fin, .int .i64 L.thread, .int .i64 L.lock, .int .i64 L.loc, .int .i64 L.size]⟩ (by kernel_rfl)
  have hn0 : BS.getD 0 0 < w1.heap.size := (Array.getElem?_eq_some_iff.1 hb0).1
  have hb1 := S.bx 1 ⟨3, [.int .i64 me]⟩ (by kernel_rfl)
  have hn1 : BS.getD 1 0 < w1.heap.size := (Array.getElem?_eq_some_iff.1 hb1).1
  have hb2 := S.bx 2 ⟨48, [.int .i64 6, .int .i64 a, .int .i64 bb, .int .i64 ty, .int .i64 ms, .int .i64 mk, .int .i64 ma, .slice sa sl sc, .slice wa wl wc, .slice da dl dc]⟩ (by kernel_rfl)
  have hn2 : BS.getD 2 0 < w1.heap.size := (Array.getElem?_eq_some_iff.1 hb2).1
  have hA1 : SeenAt w1 b o Q := S.fact (f := rfSeen b o Q) (by simp)
  have hF : ∀ w2 g, Below w1.heap.size w1 w2 → w1.heap.size ≤ g → RunAt w2 g l → Calls Try.prog 38 #[.pointer (some ⟨g, 0, none⟩), .pointer (some ⟨BS.getD 0 0, 0, none⟩), .pointer (some ⟨BS.getD 1 0, 0, none⟩), .pointer (some ⟨BS.getD 2 0, 0, none⟩)] w2 (OpPost x g w2) := fun w2 g hb hg hR => by
    rw [← hx]
    have two : ∃ b' o', (sl = 0 ∨ sa = some ⟨b', o', none⟩) ∧ b' ≠ g ∧ SeenAt w2 b' o' Q := by
      by_cases h0 : sl = 0
      · exact ⟨g + 1, 0, Or.inl h0, by omega, fun j hj => by omega⟩
      · have hlt : b < w1.heap.size := World.block_lt_of_cell? w1 _ (hA1 0 (by omega)).1
        exact ⟨b, o, hsa, by omega, seenAt_st hA1 (hb.block b hlt)⟩
    obtain ⟨b', o', q1, q2, q3⟩ := two
    exact (wx_6 g w2 _ _ _ L hok me a bb ty ms mk ma wa da wl wc dl dc sa sl sc b' o' Q hQ q1 hsl ht hs q2 hw l hl hI hR q3 ((hb.block _ hn0).trans hb0) ((hb.block _ hn1).trans hb1) ((hb.block _ hn2).trans hb2) (by omega) (by omega) (by omega)).mono fun e w' h => opPost_cs h
  cases x with
  | inl o =>
    refine sy_call1 S (of_c3 w1 v l 38 (by intro args w; rfl) (.pointer (some ⟨BS.getD 0 0, 0, none⟩)) (.pointer (some ⟨BS.getD 1 0, 0, none⟩)) (.pointer (some ⟨BS.getD 2 0, 0, none⟩)) (.inl o) (S.fact (f := rfLog v l) (by simp)) hF) (by kernel_rfl) fun aa w2 hb S => ?_
    refine sy_run ⟨0, []⟩ 60 S fun bs aa w S => ?_
    exact sy_ret S (by kernel_rfl) (by kernel_rfl) fun g => ⟨rfl, below_of_gr g⟩
  | inr o =>
    refine sy_call1 S (of_c3 w1 v l 38 (by intro args w; rfl) (.pointer (some ⟨BS.getD 0 0, 0, none⟩)) (.pointer (some ⟨BS.getD 1 0, 0, none⟩)) (.pointer (some ⟨BS.getD 2 0, 0, none⟩)) (.inr o) (S.fact (f := rfLog v l) (by simp)) hF) (by kernel_rfl) fun aa w2 hb S => ?_
    refine sy_run ⟨0, []⟩ 60 S fun bs aa w S => ?_
    exact sy_ret S (by kernel_rfl) (by kernel_rfl) fun g => ⟨rfl, below_of_gr g⟩
theorem allW_mem {L : Ly} : ∀ {Q : List (Int × Int × Int)}, allW L Q = true → ∀ s ∈ Q, 0 ≤ atWord L s.1
  | [], _, s, hs => by cases hs
  | q :: Q, h, s, hs => by
    unfold allW at h
    rw [Bool.and_eq_true] at h
    rcases List.mem_cons.1 hs with rfl | hs
    · have := h.1; simp at this; exact this
    · exact allW_mem h.2 s hs
theorem cellN_ge {e c s f o o2 : Int} (h : 0 ≤ cellN e c s f o) (hf : 0 ≤ f) (ho : 0 ≤ o2) (hs : 0 ≤ s) : 0 ≤ e ∧ e < c ∧ 0 ≤ cellN e c s f o2 := by
  unfold cellN at h ⊢
  by_cases hc : e < 0 ∨ c ≤ e
  · rw [if_pos hc] at h; omega
  · rw [if_neg hc]
    have : 0 ≤ e * s := Int.mul_nonneg (by omega) hs
    omega
/-- What Next of the program returns. -/
def nextS (L : Ly) (me k : Int) (Q : List (Int × Int × Int)) (l : List (Int × Bool)) : Ask ⊕ OutD := if (k = 5 ∨ k = 6) ∧ validS L me Q = true then toldX (waitS L me k Q l) else .inr { err := 1 }
theorem valid_facts {L : Ly} (hok : L.ok) (hct : L.c.t ≤ 62) {me : Int} {Q : List (Int × Int × Int)} (h : validS L me Q = true) : (0 ≤ me ∧ me ≤ 61) ∧ decide (atStatus L me < 0) = false ∧ ∀ s ∈ Q, decide (atWaiters L s.1 < 0) = false := by
  obtain ⟨_, _, _, ht, _, hlo, _, _, _⟩ := hok
  unfold validS at h
  rw [Bool.and_eq_true] at h
  have h1 : 0 ≤ atWake L me := by have := h.2; simp at this; exact this
  obtain ⟨g1, g2, g3⟩ := cellN_ge (o2 := 0) h1 ht (by omega) (by omega)
  refine ⟨by omega, decide_eq_false (by show ¬ cellN me L.c.t 4 L.thread 0 < 0; omega), fun s hs => ?_⟩
  obtain ⟨_, _, k3⟩ := cellN_ge (o2 := 3) (allW_mem h.1 s hs) hlo (by omega) (by omega)
  exact decide_eq_false (by show ¬ cellN s.1 L.c.l 4 L.loc 3 < 0; omega)
theorem wnext_any (w : World) (L : Ly) (hok : L.ok) (me : Int) (k a bb ty : Int) (ms mk ma : Int) (wa da : Option Addr) (wl wc dl dc : Nat) (sa : Option Addr) (sl sc : Nat) (b o : Nat) (Q : List (Int × Int × Int)) (hQ : Q.length = sl) (hsa : sl = 0 ∨ sa = some ⟨b, o, none⟩) (hsl : sl ≤ 1000000) (v : Value) (l : List (Int × Bool)) (hv : LogOf w v l) (hA : SeenAt w b o Q) (hct : L.c.t ≤ 62) (hl : l.length ≤ 1000000) (hI : ∀ x ∈ l, I64 x.1) : Calls Try.prog 11 #[L.v, .int .i64 me, .agg #[.int .i64 k, .int .i64 a, .int .i64 bb, .int .i64 ty, .int .i64 ms, .int .i64 mk, .int .i64 ma, .slice sa sl sc, .slice wa wl wc, .slice da dl dc], v] w fun e w' => e = .returned (nextV (nextS L me k Q l)) ∧ Below w.heap.size w w' := by
  by_cases h5 : k = 5
  · subst h5
    cases hval : validS L me Q with
    | false =>
      have e : nextS L me 5 Q l = .inr { err := 1 } := by unfold nextS; rw [if_neg (by simp [hval])]
      rw [e]
      exact wn_bad5 w L hok me a bb ty ms mk ma wa da wl wc dl dc sa sl sc b o Q hQ hsa hsl v l hv hA hval
    | true =>
      obtain ⟨q1, q2, q3⟩ := valid_facts hok hct hval
      have e : nextS L me 5 Q l = toldX (watchS L me Q l) := by unfold nextS waitS; rw [if_pos ⟨Or.inl rfl, hval⟩, if_pos rfl]
      exact wn_ok5 w L hok me a bb ty ms mk ma wa da wl wc dl dc sa sl sc b o Q hQ hsa hsl v l hv hA hval q1 q2 q3 hl hI _ e.symm
  · by_cases h6 : k = 6
    · subst h6
      cases hval : validS L me Q with
      | false =>
        have e : nextS L me 6 Q l = .inr { err := 1 } := by unfold nextS; rw [if_neg (by simp [hval])]
        rw [e]
        exact wn_bad6 w L hok me a bb ty ms mk ma wa da wl wc dl dc sa sl sc b o Q hQ hsa hsl v l hv hA hval
      | true =>
        obtain ⟨q1, q2, q3⟩ := valid_facts hok hct hval
        have e : nextS L me 6 Q l = toldX (sleepS L me Q l) := by unfold nextS waitS; rw [if_pos ⟨Or.inr rfl, hval⟩, if_neg (by omega)]
        exact wn_ok6 w L hok me a bb ty ms mk ma wa da wl wc dl dc sa sl sc b o Q hQ hsa hsl v l hv hA hval q1 q2 q3 hl hI _ e.symm
    · have e : nextS L me k Q l = .inr { err := 1 } := by unfold nextS; rw [if_neg (by intro h; omega)]
      rw [e]
      exact wn_no w L hok me k a bb ty ms mk ma wa da wl wc dl dc sa sl sc b o Q hQ hsa hsl v l hv hA (by simpa using h5) (by simpa using h6)
end Go.Proofs.Ytfahnmpcclhjlaa


/-
  Layer 21: the reference's run of accesses beside own variables that are older; its look at a lock.
-/
namespace Go.Proofs.Ytfahnmpcclhjlaa
open Go Go.RowKit SX
set_option linter.unusedVariables false
set_option linter.unusedSimpArgs false
set_option maxRecDepth 100000
/-- The run stands so, and its log lies in none of three blocks. -/
def CurAtE (w : World) (g B0 B1 B2 : Nat) (x : CSt) : Prop := CurAt w g x ∧ ∀ a n c b o, w.cell? ⟨g, 0, none⟩ = some (.slice a n c) → n ≠ 0 → a = some ⟨b, o, none⟩ → b ≠ B0 ∧ b ≠ B1 ∧ b ≠ B2
theorem curE_st {w w' : World} {g B0 B1 B2 : Nat} {x : CSt} (h : CurAtE w g B0 B1 B2 x) (hb : ∀ b, (b = g ∨ (b < g ∧ b ≠ B0 ∧ b ≠ B1 ∧ b ≠ B2)) → w'.heap[b]? = w.heap[b]?) : CurAtE w' g B0 B1 B2 x := by
  obtain ⟨⟨a, c, at_, all, h0, h1, h2, h3, h4, h5, h6, h7, h8, h9, h10, h11, h12⟩, hx⟩ := h
  have hg := hb g (Or.inl rfl)
  have k : ∀ o v, w.cell? ⟨g, o, none⟩ = some v → w'.cell? ⟨g, o, none⟩ = some v := fun o v h => (World.cell?_of_block (a := ⟨g, o, none⟩) hg).trans h
  refine ⟨⟨a, c, at_, all, k _ _ h0, k _ _ h1, k _ _ h2, k _ _ h3, k _ _ h4, k _ _ h5, k _ _ h6, k _ _ h7, fun o => (World.frozen?_of_block (a := ⟨g, o, none⟩) hg).trans (h8 o), h9, h10, h11, ?_⟩, fun a' n' c' b' o' hc hn ha => hx a' n' c' b' o' ((World.cell?_of_block (a := ⟨g, 0, none⟩) hg).symm.trans hc) hn ha⟩
  by_cases hz : all.length = 0
  · exact Or.inl hz
  · rcases h12 with h12 | ⟨b, o, rfl, h13, h14⟩
    · exact absurd h12 hz
    · have e := hb b (Or.inr ⟨h13, hx _ _ _ _ _ h0 hz rfl⟩)
      exact Or.inr ⟨b, o, rfl, h13, fun j hj => ⟨(World.cell?_of_block (a := ⟨b, o + j * 2, none⟩) e).trans (h14 j hj).1, (World.cell?_of_block (a := ⟨b, o + j * 2 + 1, none⟩) e).trans (h14 j hj).2⟩⟩
def rfCurE (g B0 B1 B2 : Nat) (x : CSt) : RF := ⟨fun b => b = g ∨ (b < g ∧ b ≠ B0 ∧ b ≠ B1 ∧ b ≠ B2), fun w => CurAtE w g B0 B1 B2 x, fun w h b hb => by
  have := curAt_lt h.1
  rcases hb with rfl | hb
  · exact this
  · omega, fun w w' h hb => curE_st h hb⟩
/-- An own variable without bools holds no log. -/
theorem curE_of {P : Program} {w0 : World} {r : Option Nat} {bs : List Nat} {s : SS} {F : List RF} {a : Act} {w : World} {g B0 B1 B2 : Nat} {x : CSt} (S : Sy w0 r bs s F a w) (hC : CurAt w g x) {k0 k1 k2 : Bx} (e0 : bs.getD 0 0 = B0) (e1 : bs.getD 1 0 = B1) (e2 : bs.getD 2 0 = B2) (h0 : s.K[0]? = some k0) (h1 : s.K[1]? = some k1) (h2 : s.K[2]? = some k2)
    (n0 : ∀ y, Value.bool y ∉ k0.cs) (n1 : ∀ y, Value.bool y ∉ k1.cs) (n2 : ∀ y, Value.bool y ∉ k2.cs) : CurAtE w g B0 B1 B2 x := by
  refine ⟨hC, fun a' n c b o hc hn ha => ?_⟩
  obtain ⟨a, c', at_, all, q0, _, _, _, _, _, _, _, _, _, _, _, q12⟩ := hC
  rw [q0] at hc
  simp only [Option.some.injEq, Value.slice.injEq] at hc
  obtain ⟨rfl, rfl, rfl⟩ := hc
  rcases q12 with q12 | ⟨b', o', e, _, q14⟩
  · exact absurd q12 hn
  rw [e] at ha
  simp only [Option.some.injEq, Addr.mk.injEq, and_true] at ha
  obtain ⟨rfl, rfl⟩ := ha
  have hcell := (q14 0 (by omega)).2
  have no : ∀ (i : Nat) (k : Bx), s.K[i]? = some k → (∀ y, Value.bool y ∉ k.cs) → b' ≠ bs.getD i 0 := fun i k hk hno he => by
    have hb := S.bx i k hk
    rw [← he] at hb
    rw [cell_of_heap hb] at hcell
    exact hno _ (List.mem_of_getElem? hcell)
  exact ⟨e0 ▸ no 0 k0 h0 n0, e1 ▸ no 1 k1 h1 n1, e2 ▸ no 2 k2 h2 n2⟩
section
variable {P : Program} {w0 : World} {r : Option Nat} {bs : List Nat} {F : List RF} {a : Act} {w : World} {g B0 B1 B2 : Nat}
theorem sy_curE {x x' : CSt} {c : Cfg} (S : Sy w0 r bs c.s (rfCurE g B0 B1 B2 x :: F) a w) (h0 : r = some g ∨ w0.heap.size ≤ g) {v : Value} {f : FuncId} {args : Array Value} {Q : Exit → Act → World → Prop}
    (hC : Calls P f args w fun e w' => e = .returned v ∧ CurAt w' g x' ∧ w.grownBy w' (some g))
    (hh : (headC P c).map (fun q => (q.1, q.2.map (den bs))) = some (f, args.toList)) (hF : ∀ f ∈ F, ¬f.bl g) {k0 k1 k2 : Bx} (e0 : bs.getD 0 0 = B0) (e1 : bs.getD 1 0 = B1) (e2 : bs.getD 2 0 = B2)
    (q0 : (aftC c (.v v)).s.K[0]? = some k0) (q1 : (aftC c (.v v)).s.K[1]? = some k1) (q2 : (aftC c (.v v)).s.K[2]? = some k2) (n0 : ∀ y, Value.bool y ∉ k0.cs) (n1 : ∀ y, Value.bool y ∉ k1.cs) (n2 : ∀ y, Value.bool y ∉ k2.cs)
    (h : ∀ a' w', Sy w0 r bs (aftC c (.v v)).s (rfCurE g B0 B1 B2 x' :: F) a' w' → post P (aftC c (.v v)).k Q .normal a' w') : post P c.k Q .normal a w := by
  have hap := (S.fs _ (by simp : rfCurE g B0 B1 B2 x ∈ rfCurE g B0 B1 B2 x :: F)).2
  refine sy_callG S h0 (X := Unit) (val := fun _ => v) (C := fun _ w' => CurAt w' g x') (hC.mono fun e w' h => ⟨(), h.1, h.2⟩) hh F (fun f hf => ⟨List.mem_cons_of_mem _ hf, hF f hf⟩) (fun i hi he => hap i hi (Or.inl he)) ?_
  intro _ a' w' hR _ S'
  exact h a' w' (S'.add (rfCurE g B0 B1 B2 x') (curE_of (P := P) S' hR e0 e1 e2 q0 q1 q2 n0 n1 n2) hap)
/-- A variable that was given away is taken back. -/
theorem sy_reown {c : Cfg} (t b : Nat) {ty : TypeId} {cs : List Value} (S : Sy w0 r bs c.s F a w) (hg : c.s.get t = some (.v (.pointer (some ⟨b, 0, none⟩)))) (hb : w.heap[b]? = some (.cells cs.toArray ty (0, 0))) (hlo : w0.heap.size ≤ b) (hn : ∀ i, i < bs.length → bs.getD i 0 ≠ b) {Q : Exit → Act → World → Prop}
    (h : Sy w0 r (bs ++ [b]) ((c.s.new ⟨ty, cs⟩).put (some t) (.p c.s.K.length 0)) [] a w → post P (⟨c.k, (c.s.new ⟨ty, cs⟩).put (some t) (.p c.s.K.length 0)⟩ : Cfg).k Q .normal a w) : post P c.k Q .normal a w := by
  refine h ?_
  have hl : (bs ++ [b]).length = bs.length + 1 := by simp
  have S1 : Sy w0 r (bs ++ [b]) (c.s.new ⟨ty, cs⟩) [] a w := by
    refine ⟨S.df, S.sz, fun t x h => ?_, by simp [SS.new, S.bl], fun i k' h => ?_, fun i j hi hj he => ?_, fun i hi => ?_, fun f hf => by simp at hf, S.gr⟩
    · obtain ⟨h1, h2⟩ := S.tm t x h
      exact ⟨by rw [den_app h2]; exact h1, SV.ok_mono h2 (by omega)⟩
    · have h' : (c.s.K ++ [⟨ty, cs⟩])[i]? = some k' := h
      rw [getD_snoc]
      by_cases hi : i < bs.length
      · rw [if_pos hi]
        rw [List.getElem?_append_left (by rw [← S.bl]; exact hi)] at h'
        exact S.bx i k' h'
      · rw [if_neg hi]
        have hi2 : i = bs.length := by
          have := (List.getElem?_eq_some_iff.1 h').1
          simp at this
          rw [← S.bl] at this
          omega
        rw [if_pos hi2]
        rw [hi2, S.bl, List.getElem?_append_right (Nat.le_refl _)] at h'
        simp at h'
        subst h'
        exact hb
    · rw [hl] at hi hj
      rw [getD_snoc, getD_snoc] at he
      by_cases h1 : i < bs.length <;> by_cases h2 : j < bs.length
      · rw [if_pos h1, if_pos h2] at he; exact S.nd i j h1 h2 he
      · rw [if_pos h1, if_neg h2, if_pos (by omega)] at he; exact absurd he (hn i h1)
      · rw [if_neg h1, if_pos h2, if_pos (by omega)] at he; exact absurd he.symm (hn j h2)
      · omega
    · rw [hl] at hi
      rw [getD_snoc]
      by_cases h1 : i < bs.length
      · rw [if_pos h1]; exact S.lo i h1
      · rw [if_neg h1, if_pos (by omega)]; exact Or.inl hlo
  have hx : (SV.p c.s.K.length 0).ok (bs ++ [b]).length := by show c.s.K.length < _; rw [hl, S.bl]; omega
  have S2 := S1.put (some t) hx
  have e : a.put (some t) (den (bs ++ [b]) (.p c.s.K.length 0)) = a := by
    have h1 := (S.tm t _ hg).1
    have hd : den (bs ++ [b]) (.p c.s.K.length 0) = .pointer (some ⟨b, 0, none⟩) := by
      simp only [den, adr]
      rw [← S.bl, getD_self]
    rw [hd]
    unfold Act.put
    obtain ⟨tmps, d⟩ := a
    simp only at h1 ⊢
    congr 1
    simp only [den] at h1
    apply Array.ext_getElem?
    intro i
    by_cases hi : t = i
    · subst hi
      rw [Array.getElem?_setIfInBounds_self, h1]
      have := (Array.getElem?_eq_some_iff.1 h1).1
      simp [this]
    · rw [Array.getElem?_setIfInBounds_ne hi]
  rw [e] at S2
  exact S2
variable {c : Cfg} {fn : Func} {R : Ending → World → Prop} {B : List Nat} {ro : List Nat} {d : DC}
theorem nx_ix (i : Nat) (D : Sd w0 r B c.s.K ro bs d.s F a w) (hs : Region.noSelect (opsD c) = true) {b off len n size : Nat} {ix : Int}
    (hh : (((opsD c)[i]?).bind fun o => headIx P ⟨[.ops (opsD c) [o]], d.s⟩) = some (some ⟨b, off, none⟩, len, ix, size)) (hi : ix = (n : Int)) (hlt : n < len)
    (h : ∀ a', Sd w0 r B c.s.K ro bs (dV P c ro d i (.v (.pointer (some ⟨b, off + n * size, none⟩)))).s F a' w → GD P c fn R B ro (dV P c ro d i (.v (.pointer (some ⟨b, off + n * size, none⟩)))) a' w) : Nxt P (opsD c) (PQ P (kD c) fn R) (HoldS B c.s.K ro) (d.m - 1) d.lst a w i := by
  obtain ⟨o, ho, hh⟩ : ∃ o, (opsD c)[i]? = some o ∧ headIx P ⟨[.ops (opsD c) [o]], d.s⟩ = some (some ⟨b, off, none⟩, len, ix, size) := by
    cases ho : (opsD c)[i]? with
    | none => rw [ho] at hh; cases hh
    | some o => rw [ho] at hh; exact ⟨o, rfl, hh⟩
  exact nxt_val D ho (x := .v (.pointer (some ⟨b, off + n * size, none⟩))) trivial (ix_run D.S hh hi hlt) fun a' D' => drq_sound (d := ⟨d.m - 1, d.lst.setIfInBounds i true, d.s.put (((opsD c)[i]?).bind (·.dst)) (.v (.pointer (some ⟨b, off + n * size, none⟩)))⟩) hs D' fun a'' D'' => h a'' D''
theorem nx_ldo (i : Nat) (D : Sd w0 r B c.s.K ro bs d.s F a w) (hs : Region.noSelect (opsD c) = true) {ty : TypeId} {ad : Addr} {v : Value}
    (hl : (loadVar ty ad).run P w = .ok v w) (hh : (((opsD c)[i]?).bind fun o => headO P ⟨[.ops (opsD c) [o]], d.s⟩) = some (ty, ad))
    (h : ∀ a', Sd w0 r B c.s.K ro bs (dV P c ro d i (.v v)).s F a' w → GD P c fn R B ro (dV P c ro d i (.v v)) a' w) : Nxt P (opsD c) (PQ P (kD c) fn R) (HoldS B c.s.K ro) (d.m - 1) d.lst a w i := by
  obtain ⟨o, ho, hh⟩ : ∃ o, (opsD c)[i]? = some o ∧ headO P ⟨[.ops (opsD c) [o]], d.s⟩ = some (ty, ad) := by
    cases ho : (opsD c)[i]? with
    | none => rw [ho] at hh; cases hh
    | some o => rw [ho] at hh; exact ⟨o, rfl, hh⟩
  exact nxt_val D ho (x := .v v) trivial (ldo_run D.S hl hh) fun a' D' => drq_sound (d := ⟨d.m - 1, d.lst.setIfInBounds i true, d.s.put (((opsD c)[i]?).bind (·.dst)) (.v v)⟩) hs D' fun a'' D'' => h a'' D''
end
/-- What is left to be done where a region comes next. -/
def goR (st : Nat) : Nat → List Nat → List It → List It
  | n + 1, ch, .code (.seq x y) :: k => goR st n ch (.code x :: .code y :: k)
  | n + 1, ch, .code (.block id c) :: k => goR st n ch (.code c :: .blk id :: k)
  | n + 1, ch, .code (.region i a b) :: k => if i = st then .code (.region i a b) :: k else goR st n ch k
  | n + 1, ch, .code .skip :: k => goR st n ch k
  | n + 1, ch, .blk _ :: k => goR st n ch k
  | n + 1, c :: ch, .code (.cond _ x y) :: k => goR st n ch (.code (if c = 1 then x else y) :: k)
  | n + 1, _ :: ch, .code (.loop _) :: k => goR st n ch k
  | _, _, k => k
attribute [local irreducible] post GD
def lookX (n ver : Int) : Int := if n = wrap64 (2 * ver) then -1 else if n % 2 = 1 then n / 2 else -1
set_option maxHeartbeats 4000000 in
theorem rlk_t (w : World) (g : Nat) (L : Ly) (hok : L.ok) (loc ver : Int) (x x' : CSt) (n : Int) (y : Bool) (hn : cdo x ⟨1, atWord L loc, 0, 0⟩ = ((n, y), x')) (hI : I64 n) (hr : n = wrap64 (2 * ver)) (hR : CurAt w g x) : Calls Try.prog 45 #[.pointer (some ⟨g, 0, none⟩), L.v, .int .i64 loc, .int .i64 ver] w fun e w' => e = .returned (.tuple #[.int .i64 (lookX n ver), .bool (true)]) ∧ CurAt w' g x' ∧ w.grownBy w' (some g) := by
  have e : lookX n ver = -1 := by unfold lookX; rw [if_pos hr]
  rw [e]
  have hL := fun w h => rload_any02 w g x (atWord L loc) h
  rw [hn] at hL
  refine sy_enterF (some g) [rfCur g x] (by intro f hf; simp at hf; subst hf; exact hR) Try.func45 rfl fun aa S => ?_
  refine sy_run ⟨0, []⟩ 50 S fun bs aa w S => ?_
  refine sy_call1 S (rword_any L loc w hok) (by kernel_rfl) fun aa w hb S => ?_
  refine sy_run ⟨0, []⟩ 50 S fun bs aa w S => ?_
  refine sy_cur (x' := x') (v := .int .i64 n) S (Or.inl rfl) (hL w S.cur) (by kernel_rfl) (by simp) fun aa w S => ?_
  refine sy_run ⟨0, [2]⟩ 60 S fun bs aa w S => ?_
  refine sy_reg S fun S => ?_
  refine sy_ops 2 S fun bs aa w S => ?_
  refine sy_call1 S (toBelow (rfree_any ver w)) (by kernel_rfl) fun aa w hb S => ?_
  refine sy_ops 2 S fun bs aa w S => ?_
  refine sy_cond true S (decide_eq_true hr : decide (n = wrap64 (2 * ver)) = true) (by kernel_rfl) fun S => ?_
  refine sy_run ⟨0, []⟩ 50 S fun bs aa w S => ?_
  exact sy_ret S (by kernel_rfl) (by kernel_rfl) fun hg => ⟨rfl, S.cur, hg⟩
set_option maxHeartbeats 4000000 in
theorem rlk_h (w : World) (g : Nat) (L : Ly) (hok : L.ok) (loc ver : Int) (x x' : CSt) (n : Int) (y : Bool) (hn : cdo x ⟨1, atWord L loc, 0, 0⟩ = ((n, y), x')) (hI : I64 n) (hr : ¬ n = wrap64 (2 * ver)) (hq : n % 2 = 1) (hR : CurAt w g x) : Calls Try.prog 45 #[.pointer (some ⟨g, 0, none⟩), L.v, .int .i64 loc, .int .i64 ver] w fun e w' => e = .returned (.tuple #[.int .i64 (lookX n ver), .bool (false)]) ∧ CurAt w' g x' ∧ w.grownBy w' (some g) := by
  have e : lookX n ver = n / 2 := by unfold lookX; rw [if_neg hr, if_pos hq]
  rw [e]
  have hL := fun w h => rload_any02 w g x (atWord L loc) h
  rw [hn] at hL
  refine sy_enterF (some g) [rfCur g x] (by intro f hf; simp at hf; subst hf; exact hR) Try.func45 rfl fun aa S => ?_
  refine sy_run ⟨0, []⟩ 50 S fun bs aa w S => ?_
  refine sy_call1 S (rword_any L loc w hok) (by kernel_rfl) fun aa w hb S => ?_
  refine sy_run ⟨0, []⟩ 50 S fun bs aa w S => ?_
  refine sy_cur (x' := x') (v := .int .i64 n) S (Or.inl rfl) (hL w S.cur) (by kernel_rfl) (by simp) fun aa w S => ?_
  refine sy_run ⟨0, [2]⟩ 60 S fun bs aa w S => ?_
  refine sy_reg S fun S => ?_
  refine sy_ops 2 S fun bs aa w S => ?_
  refine sy_call1 S (toBelow (rfree_any ver w)) (by kernel_rfl) fun aa w hb S => ?_
  refine sy_ops 2 S fun bs aa w S => ?_
  refine sy_cond false S (decide_eq_false hr : decide (n = wrap64 (2 * ver)) = false) (by kernel_rfl) fun S => ?_
  refine sy_run ⟨0, []⟩ 50 S fun bs aa w S => ?_
  have hl := rlocked_any n w
  rw [decide_eq_true hq] at hl
  refine sy_call1 S (toBelow hl) (by kernel_rfl) fun aa w hb S => ?_
  refine sy_run ⟨0, []⟩ 50 S fun bs aa w S => ?_
  refine sy_call1 S (toBelow (rwho_any n hI w)) (by kernel_rfl) fun aa w hb S => ?_
  refine sy_run ⟨0, []⟩ 50 S fun bs aa w S => ?_
  exact sy_ret S (by kernel_rfl) (by kernel_rfl) fun hg => ⟨rfl, S.cur, hg⟩
set_option maxHeartbeats 4000000 in
theorem rlk_f (w : World) (g : Nat) (L : Ly) (hok : L.ok) (loc ver : Int) (x x' : CSt) (n : Int) (y : Bool) (hn : cdo x ⟨1, atWord L loc, 0, 0⟩ = ((n, y), x')) (hI : I64 n) (hr : ¬ n = wrap64 (2 * ver)) (hq : ¬ n % 2 = 1) (hR : CurAt w g x) : Calls Try.prog 45 #[.pointer (some ⟨g, 0, none⟩), L.v, .int .i64 loc, .int .i64 ver] w fun e w' => e = .returned (.tuple #[.int .i64 (lookX n ver), .bool (false)]) ∧ CurAt w' g x' ∧ w.grownBy w' (some g) := by
  have e : lookX n ver = -1 := by unfold lookX; rw [if_neg hr, if_neg hq]
  rw [e]
  have hL := fun w h => rload_any02 w g x (atWord L loc) h
  rw [hn] at hL
  refine sy_enterF (some g) [rfCur g x] (by intro f hf; simp at hf; subst hf; exact hR) Try.func45 rfl fun aa S => ?_
  refine sy_run ⟨0, []⟩ 50 S fun bs aa w S => ?_
  refine sy_call1 S (rword_any L loc w hok) (by kernel_rfl) fun aa w hb S => ?_
  refine sy_run ⟨0, []⟩ 50 S fun bs aa w S => ?_
  refine sy_cur (x' := x') (v := .int .i64 n) S (Or.inl rfl) (hL w S.cur) (by kernel_rfl) (by simp) fun aa w S => ?_
  refine sy_run ⟨0, [2]⟩ 60 S fun bs aa w S => ?_
  refine sy_reg S fun S => ?_
  refine sy_ops 2 S fun bs aa w S => ?_
  refine sy_call1 S (toBelow (rfree_any ver w)) (by kernel_rfl) fun aa w hb S => ?_
  refine sy_ops 2 S fun bs aa w S => ?_
  refine sy_cond false S (decide_eq_false hr : decide (n = wrap64 (2 * ver)) = false) (by kernel_rfl) fun S => ?_
  refine sy_run ⟨0, []⟩ 50 S fun bs aa w S => ?_
  have hl := rlocked_any n w
  rw [decide_eq_false hq] at hl
  refine sy_call1 S (toBelow hl) (by kernel_rfl) fun aa w hb S => ?_
  refine sy_run ⟨0, []⟩ 50 S fun bs aa w S => ?_
  exact sy_ret S (by kernel_rfl) (by kernel_rfl) fun hg => ⟨rfl, S.cur, hg⟩
theorem rlk_any (w : World) (g : Nat) (L : Ly) (hok : L.ok) (loc ver : Int) (x x' : CSt) (n : Int) (y : Bool) (hn : cdo x ⟨1, atWord L loc, 0, 0⟩ = ((n, y), x')) (hI : I64 n) (hR : CurAt w g x) : Calls Try.prog 45 #[.pointer (some ⟨g, 0, none⟩), L.v, .int .i64 loc, .int .i64 ver] w fun e w' => e = .returned (.tuple #[.int .i64 (lookX n ver), .bool (decide (n = wrap64 (2 * ver)))]) ∧ CurAt w' g x' ∧ w.grownBy w' (some g) := by
  by_cases hr : n = wrap64 (2 * ver)
  · rw [decide_eq_true hr]; exact rlk_t w g L hok loc ver x x' n y hn hI hr hR
  · rw [decide_eq_false hr]
    by_cases hq : n % 2 = 1
    · exact rlk_h w g L hok loc ver x x' n y hn hI hr hq hR
    · exact rlk_f w g L hok loc ver x x' n y hn hI hr hq hR
end Go.Proofs.Ytfahnmpcclhjlaa
