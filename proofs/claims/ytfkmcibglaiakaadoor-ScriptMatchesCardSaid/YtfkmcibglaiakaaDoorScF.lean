
/-
  Layer 27: picks kept.
-/
import Derived.Test.YtfkmcibglaiakaaDoorRows
import Derived.Test.YtfkmcibglaiakaaDoorBase
import Derived.Test.YtfkmcibglaiakaaDoorScE
import Derived.WalkKit
namespace Go.Proofs.YtfkmcibglaiakaaDoor
open Go Go.RowKit SZ
set_option linter.unusedVariables false
set_option linter.unusedSimpArgs false
set_option maxRecDepth 100000
attribute [local irreducible] post GD Nxt NxtAll
def pkV (ps : List Pk) : List Value := ps.flatMap Pk.cs
theorem pkV_snoc (ps : List Pk) (p : Pk) : pkV (ps ++ [p]) = pkV ps ++ p.cs := by simp [pkV]
theorem infPk : (Tryd.prog.info? 25).map (fun i => (i.zero, i.size, i.bytes)) = some (some (.agg #[.int .i64 0, .int .i64 0, .int .i64 0, .slice none 0 0]), 4, 48) := by kernel_rfl
theorem own_nilP (w : World) (B : Nat) : w.ownsRow B 25 4 (.slice none 0 0) 0 (pkV []) := ⟨rfl, Or.inl ⟨rfl, rfl⟩⟩
noncomputable def kpC : Cfg := ⟨goZ 60 [] [.code (bodyOf Tryd.f28)], ⟨0, [], []⟩⟩
noncomputable def kpS (p : Pk) (m n j : Nat) (ga : Option Addr) (gc : Nat) : SS := ⟨21, [(0, .p 0 0), (4, .v (.int .i64 (n : Int))), (5, .v (.int .i64 (j : Int)))], [⟨48, [.int .i64 p.k, .int .i64 p.a, .int .i64 p.b, .slice p.s p.c.length p.cp, .slice ga (m + j) gc]⟩]⟩
set_option maxHeartbeats 8000000 in
theorem kp_e (w0 : World) (q : Nat) (p : Pk) (B : Nat) (hB : B ≤ w0.heap.size) (ps : List Pk) (n : Nat) (hn : ps.length + n ≤ 20000) (rb : List Nat) (m : Nat) (ga : Option Addr) (gc : Nat) (hgr : ∀ g, Value.ownBlock (.slice ga (ps.length + (n)) gc) = some g → g ∈ rb ∨ w0.heap.size ≤ g) (aa : Act) (w : World) (S : Sy w0 (q :: rb) [q] (kpS p ps.length n (n) ga gc) [(rfOwn B 25 4 (.slice ga (ps.length + (n)) gc) (ps.length + (n)) (pkV (ps ++ List.replicate (n) p)))] aa w) : post Tryd.prog (.rnd (m + 1) (bodyL kpC) :: kpC.k.tail) (bodyPost Tryd.prog Tryd.f28 (fun e w' => ∃ (ga : Option Addr) (gc : Nat), e = .returned (.tuple #[]) ∧ w'.heap[q]? = some (.cells #[.int .i64 p.k, .int .i64 p.a, .int .i64 p.b, .slice p.s p.c.length p.cp, (.slice ga (ps.length + (n)) gc)] 48 (0, 0)) ∧ w'.ownsRow B 25 4 (.slice ga (ps.length + (n)) gc) (ps.length + n) (pkV (ps ++ List.replicate n p)) ∧ (∀ g, Value.ownBlock (.slice ga (ps.length + (n)) gc) = some g → g ∈ rb ∨ w0.heap.size ≤ g) ∧ Gr w0 w' (q :: rb))) .normal aa w := by
  refine sy_run (c := ⟨(.rnd (m + 1) (bodyL kpC) :: kpC.k.tail), kpS p ps.length n n ga gc⟩) ⟨0, [1]⟩ 50 S fun bs aa w S => ?_
  refine sy_reg S fun S => ?_
  refine sy_ops 1 S fun bs aa w S => ?_
  refine sy_cast 6 S (congrArg Value.bool (decide_eq_false (by omega) : decide ((n : Int) < (n : Int)) = false)) (by kernel_rfl) fun S => ?_
  refine sy_run ⟨0, []⟩ 60 S fun bs aa w S => ?_
  have hbx := S.bx 0 ⟨48, [.int .i64 p.k, .int .i64 p.a, .int .i64 p.b, .slice p.s p.c.length p.cp, (.slice ga (ps.length + (n)) gc)]⟩ (by kernel_rfl)
  exact sy_ret S (by kernel_rfl) (by kernel_rfl) fun hg => ⟨ga, gc, rfl, hbx, S.fact (f := (rfOwn B 25 4 (.slice ga (ps.length + (n)) gc) (ps.length + (n)) (pkV (ps ++ List.replicate (n) p)))) (by simp), hgr, hg⟩
set_option maxHeartbeats 8000000 in
theorem kp_s (w0 : World) (q : Nat) (p : Pk) (B : Nat) (hB : B ≤ w0.heap.size) (ps : List Pk) (n : Nat) (hn : ps.length + n ≤ 20000) (rb : List Nat) (m j : Nat) (hj : j < n) (ih : ∀ (ga : Option Addr) (gc : Nat) (hgr : ∀ g, Value.ownBlock (.slice ga (ps.length + (j + 1)) gc) = some g → g ∈ rb ∨ w0.heap.size ≤ g) (aa : Act) (w : World) (S : Sy w0 (q :: rb) [q] (kpS p ps.length n (j + 1) ga gc) [(rfOwn B 25 4 (.slice ga (ps.length + (j + 1)) gc) (ps.length + (j + 1)) (pkV (ps ++ List.replicate (j + 1) p)))] aa w), post Tryd.prog (.rnd (m) (bodyL kpC) :: kpC.k.tail) (bodyPost Tryd.prog Tryd.f28 (fun e w' => ∃ (ga : Option Addr) (gc : Nat), e = .returned (.tuple #[]) ∧ w'.heap[q]? = some (.cells #[.int .i64 p.k, .int .i64 p.a, .int .i64 p.b, .slice p.s p.c.length p.cp, (.slice ga (ps.length + (n)) gc)] 48 (0, 0)) ∧ w'.ownsRow B 25 4 (.slice ga (ps.length + (n)) gc) (ps.length + n) (pkV (ps ++ List.replicate n p)) ∧ (∀ g, Value.ownBlock (.slice ga (ps.length + (n)) gc) = some g → g ∈ rb ∨ w0.heap.size ≤ g) ∧ Gr w0 w' (q :: rb))) .normal aa w) (ga : Option Addr) (gc : Nat) (hgr : ∀ g, Value.ownBlock (.slice ga (ps.length + (j)) gc) = some g → g ∈ rb ∨ w0.heap.size ≤ g) (aa : Act) (w : World) (S : Sy w0 (q :: rb) [q] (kpS p ps.length n (j) ga gc) [(rfOwn B 25 4 (.slice ga (ps.length + (j)) gc) (ps.length + (j)) (pkV (ps ++ List.replicate (j) p)))] aa w) : post Tryd.prog (.rnd (m + 1) (bodyL kpC) :: kpC.k.tail) (bodyPost Tryd.prog Tryd.f28 (fun e w' => ∃ (ga : Option Addr) (gc : Nat), e = .returned (.tuple #[]) ∧ w'.heap[q]? = some (.cells #[.int .i64 p.k, .int .i64 p.a, .int .i64 p.b, .slice p.s p.c.length p.cp, (.slice ga (ps.length + (n)) gc)] 48 (0, 0)) ∧ w'.ownsRow B 25 4 (.slice ga (ps.length + (n)) gc) (ps.length + n) (pkV (ps ++ List.replicate n p)) ∧ (∀ g, Value.ownBlock (.slice ga (ps.length + (n)) gc) = some g → g ∈ rb ∨ w0.heap.size ≤ g) ∧ Gr w0 w' (q :: rb))) .normal aa w := by
  obtain ⟨iis, his1, his2, his3, his4⟩ := parts3 infPk
  refine sy_run (c := ⟨(.rnd (m + 1) (bodyL kpC) :: kpC.k.tail), kpS p ps.length n j ga gc⟩) ⟨0, [1]⟩ 50 S fun bs aa w S => ?_
  refine sy_reg S fun S => ?_
  refine sy_ops 1 S fun bs aa w S => ?_
  refine sy_cast 6 S (congrArg Value.bool (decide_eq_true (by omega) : decide ((j : Int) < (n : Int)) = true)) (by kernel_rfl) fun S => ?_
  refine sy_run ⟨0, []⟩ 60 S fun bs aa w S => ?_
  refine dr_enter [] (by kernel_rfl) (by kernel_rfl) S (by kernel_rfl) (fun aa w D => ?_)
  refine dr_any [4, 8] (by kernel_rfl) (by kernel_rfl) rfl (na2 ?_ ?_)
  · refine nx_op 4 D (by kernel_rfl) (Nat.le_refl _) (by kernel_rfl) (by kernel_rfl) fun bs aa w D hl => ?_
    refine dr_any [8] (by kernel_rfl) (by kernel_rfl) rfl (na1 ?_)
    · refine nx_op 8 D (by kernel_rfl) hl (by kernel_rfl) (by kernel_rfl) fun bs aa w D hl => ?_
      refine dr_any [9] (by kernel_rfl) (by kernel_rfl) rfl (na1 ?_)
      · refine nx_op 9 D (by kernel_rfl) hl (by kernel_rfl) (by kernel_rfl) fun bs aa w D hl => ?_
        refine dr_any [10] (by kernel_rfl) (by kernel_rfl) rfl (na1 ?_)
        · refine have hO0 := D.S.fact (f := (rfOwn B 25 4 (.slice ga (ps.length + (j)) gc) (ps.length + (j)) (pkV (ps ++ List.replicate (j) p)))) (by simp); have hap := (D.S.fs (rfOwn B 25 4 (.slice ga (ps.length + (j)) gc) (ps.length + (j)) (pkV (ps ++ List.replicate (j) p))) (by simp)).2; have hsz := D.S.gr.size; nx_appO 10 B [] D (by kernel_rfl) (u := .v (.slice ga (ps.length + (j)) gc)) (y := .s 1 0 1 1) (t := 22) (e := 25) (v := (.slice ga (ps.length + (j)) gc)) (n := ps.length + j) (ad := adr _ 1 0) (m := 1) (cp := 1) (size := 4) (bytes := 48) (xs := pkV (ps ++ List.replicate j p)) (news := p.cs) (by kernel_rfl) Tryd.underlying22 his1 his2 his3 his4 rfl (by omega) rfl rfl hO0 (by omega) (own3 (P := Tryd.prog) (ty := 25) (cs := p.cs) D.S 1 (by kernel_rfl)) rfl (by intro u hu; simp only [Pk.cs, List.mem_cons, List.not_mem_nil, or_false] at hu; rcases hu with rfl | rfl | rfl | rfl <;> rfl) (by simp only [maxLen]; omega) (by omega) (fun g hg => (hgr g hg).imp (fun h => List.mem_cons_of_mem _ h) id) (fun f hf => by cases hf) (fun f hf => absurd hf List.not_mem_nil) (fun i hi hb => hap i hi hb) fun v' aa w2 hO hg12 hnn hlt D => ?_
          obtain ⟨ga2, gc2, rfl⟩ : ∃ ga2 gc2, v' = .slice ga2 (ps.length + (j + 1)) gc2 := by
            rcases hO.2 with ⟨_, q⟩ | ⟨g2, cap2, cur2, rfl, _⟩
            · omega
            · exact ⟨some ⟨g2, 0, none⟩, cap2, rfl⟩
          have D := D.addF (rfOwn B 25 4 (.slice ga2 (ps.length + (j + 1)) gc2) (ps.length + (j + 1)) (pkV (ps ++ List.replicate (j + 1) p))) (by show World.ownsRow _ _ _ _ _ _ _; rw [List.replicate_succ', ← List.append_assoc, pkV_snoc]; exact hO) (fun i hi hb => by rcases hnn _ hb with q | q; exact hap i hi q; have h1 := hlt i hi; omega)
          refine dr_any [13] (by kernel_rfl) (by kernel_rfl) rfl (na1 ?_)
          · refine nx_op 13 D (by kernel_rfl) hl (by kernel_rfl) (by kernel_rfl) fun bs aa w D hl => ?_
            refine dr_end D (by kernel_rfl) fun S => ?_
            refine sy_run ⟨0, [3]⟩ 60 S fun bs aa w S => ?_
            refine sy_reg S fun S => ?_
            refine sy_ops 1 S fun bs aa w S => ?_
            refine sy_cast 20 S (congrArg (Value.int .i64) (by rw [IntKind.wrap_i64]; omega : IntKind.i64.wrap ((j : Int) + 1) = ((j + 1 : Nat) : Int))) (by kernel_rfl) fun S => ?_
            refine sy_run ⟨0, [999]⟩ 50 S fun bs aa w S => ?_
            have S := S.sub (F' := [(rfOwn B 25 4 (.slice ga2 (ps.length + (j + 1)) gc2) (ps.length + (j + 1)) (pkV (ps ++ List.replicate (j + 1) p)))]) (by intro f hf; simp only [List.mem_singleton] at hf; subst hf; simp)
            have S2 := S.to [0] (kpS p ps.length n (j + 1) ga2 gc2) (by kernel_rfl) (by kernel_rfl) (by kernel_rfl) (by kernel_rfl) (by kernel_rfl)
            refine sy_at2 (k' := (.rnd (m) (bodyL kpC) :: kpC.k.tail)) (by kernel_rfl) ?_
            exact ih ga2 gc2 (fun g hg => (hnn g hg).elim (fun h => hgr g h) (fun h => Or.inr (by omega))) aa w S2
  · refine nx_op 8 D (by kernel_rfl) (Nat.le_refl _) (by kernel_rfl) (by kernel_rfl) fun bs aa w D hl => ?_
    refine dr_any [4, 9] (by kernel_rfl) (by kernel_rfl) rfl (na2 ?_ ?_)
    · refine nx_op 4 D (by kernel_rfl) hl (by kernel_rfl) (by kernel_rfl) fun bs aa w D hl => ?_
      refine dr_any [9] (by kernel_rfl) (by kernel_rfl) rfl (na1 ?_)
      · refine nx_op 9 D (by kernel_rfl) hl (by kernel_rfl) (by kernel_rfl) fun bs aa w D hl => ?_
        refine dr_any [10] (by kernel_rfl) (by kernel_rfl) rfl (na1 ?_)
        · refine have hO0 := D.S.fact (f := (rfOwn B 25 4 (.slice ga (ps.length + (j)) gc) (ps.length + (j)) (pkV (ps ++ List.replicate (j) p)))) (by simp); have hap := (D.S.fs (rfOwn B 25 4 (.slice ga (ps.length + (j)) gc) (ps.length + (j)) (pkV (ps ++ List.replicate (j) p))) (by simp)).2; have hsz := D.S.gr.size; nx_appO 10 B [] D (by kernel_rfl) (u := .v (.slice ga (ps.length + (j)) gc)) (y := .s 1 0 1 1) (t := 22) (e := 25) (v := (.slice ga (ps.length + (j)) gc)) (n := ps.length + j) (ad := adr _ 1 0) (m := 1) (cp := 1) (size := 4) (bytes := 48) (xs := pkV (ps ++ List.replicate j p)) (news := p.cs) (by kernel_rfl) Tryd.underlying22 his1 his2 his3 his4 rfl (by omega) rfl rfl hO0 (by omega) (own3 (P := Tryd.prog) (ty := 25) (cs := p.cs) D.S 1 (by kernel_rfl)) rfl (by intro u hu; simp only [Pk.cs, List.mem_cons, List.not_mem_nil, or_false] at hu; rcases hu with rfl | rfl | rfl | rfl <;> rfl) (by simp only [maxLen]; omega) (by omega) (fun g hg => (hgr g hg).imp (fun h => List.mem_cons_of_mem _ h) id) (fun f hf => by cases hf) (fun f hf => absurd hf List.not_mem_nil) (fun i hi hb => hap i hi hb) fun v' aa w2 hO hg12 hnn hlt D => ?_
          obtain ⟨ga2, gc2, rfl⟩ : ∃ ga2 gc2, v' = .slice ga2 (ps.length + (j + 1)) gc2 := by
            rcases hO.2 with ⟨_, q⟩ | ⟨g2, cap2, cur2, rfl, _⟩
            · omega
            · exact ⟨some ⟨g2, 0, none⟩, cap2, rfl⟩
          have D := D.addF (rfOwn B 25 4 (.slice ga2 (ps.length + (j + 1)) gc2) (ps.length + (j + 1)) (pkV (ps ++ List.replicate (j + 1) p))) (by show World.ownsRow _ _ _ _ _ _ _; rw [List.replicate_succ', ← List.append_assoc, pkV_snoc]; exact hO) (fun i hi hb => by rcases hnn _ hb with q | q; exact hap i hi q; have h1 := hlt i hi; omega)
          refine dr_any [13] (by kernel_rfl) (by kernel_rfl) rfl (na1 ?_)
          · refine nx_op 13 D (by kernel_rfl) hl (by kernel_rfl) (by kernel_rfl) fun bs aa w D hl => ?_
            refine dr_end D (by kernel_rfl) fun S => ?_
            refine sy_run ⟨0, [3]⟩ 60 S fun bs aa w S => ?_
            refine sy_reg S fun S => ?_
            refine sy_ops 1 S fun bs aa w S => ?_
            refine sy_cast 20 S (congrArg (Value.int .i64) (by rw [IntKind.wrap_i64]; omega : IntKind.i64.wrap ((j : Int) + 1) = ((j + 1 : Nat) : Int))) (by kernel_rfl) fun S => ?_
            refine sy_run ⟨0, [999]⟩ 50 S fun bs aa w S => ?_
            have S := S.sub (F' := [(rfOwn B 25 4 (.slice ga2 (ps.length + (j + 1)) gc2) (ps.length + (j + 1)) (pkV (ps ++ List.replicate (j + 1) p)))]) (by intro f hf; simp only [List.mem_singleton] at hf; subst hf; simp)
            have S2 := S.to [0] (kpS p ps.length n (j + 1) ga2 gc2) (by kernel_rfl) (by kernel_rfl) (by kernel_rfl) (by kernel_rfl) (by kernel_rfl)
            refine sy_at2 (k' := (.rnd (m) (bodyL kpC) :: kpC.k.tail)) (by kernel_rfl) ?_
            exact ih ga2 gc2 (fun g hg => (hnn g hg).elim (fun h => hgr g h) (fun h => Or.inr (by omega))) aa w S2
    · refine nx_op 9 D (by kernel_rfl) hl (by kernel_rfl) (by kernel_rfl) fun bs aa w D hl => ?_
      refine dr_any [4] (by kernel_rfl) (by kernel_rfl) rfl (na1 ?_)
      · refine nx_op 4 D (by kernel_rfl) hl (by kernel_rfl) (by kernel_rfl) fun bs aa w D hl => ?_
        refine dr_any [10] (by kernel_rfl) (by kernel_rfl) rfl (na1 ?_)
        · refine have hO0 := D.S.fact (f := (rfOwn B 25 4 (.slice ga (ps.length + (j)) gc) (ps.length + (j)) (pkV (ps ++ List.replicate (j) p)))) (by simp); have hap := (D.S.fs (rfOwn B 25 4 (.slice ga (ps.length + (j)) gc) (ps.length + (j)) (pkV (ps ++ List.replicate (j) p))) (by simp)).2; have hsz := D.S.gr.size; nx_appO 10 B [] D (by kernel_rfl) (u := .v (.slice ga (ps.length + (j)) gc)) (y := .s 1 0 1 1) (t := 22) (e := 25) (v := (.slice ga (ps.length + (j)) gc)) (n := ps.length + j) (ad := adr _ 1 0) (m := 1) (cp := 1) (size := 4) (bytes := 48) (xs := pkV (ps ++ List.replicate j p)) (news := p.cs) (by kernel_rfl) Tryd.underlying22 his1 his2 his3 his4 rfl (by omega) rfl rfl hO0 (by omega) (own3 (P := Tryd.prog) (ty := 25) (cs := p.cs) D.S 1 (by kernel_rfl)) rfl (by intro u hu; simp only [Pk.cs, List.mem_cons, List.not_mem_nil, or_false] at hu; rcases hu with rfl | rfl | rfl | rfl <;> rfl) (by simp only [maxLen]; omega) (by omega) (fun g hg => (hgr g hg).imp (fun h => List.mem_cons_of_mem _ h) id) (fun f hf => by cases hf) (fun f hf => absurd hf List.not_mem_nil) (fun i hi hb => hap i hi hb) fun v' aa w2 hO hg12 hnn hlt D => ?_
          obtain ⟨ga2, gc2, rfl⟩ : ∃ ga2 gc2, v' = .slice ga2 (ps.length + (j + 1)) gc2 := by
            rcases hO.2 with ⟨_, q⟩ | ⟨g2, cap2, cur2, rfl, _⟩
            · omega
            · exact ⟨some ⟨g2, 0, none⟩, cap2, rfl⟩
          have D := D.addF (rfOwn B 25 4 (.slice ga2 (ps.length + (j + 1)) gc2) (ps.length + (j + 1)) (pkV (ps ++ List.replicate (j + 1) p))) (by show World.ownsRow _ _ _ _ _ _ _; rw [List.replicate_succ', ← List.append_assoc, pkV_snoc]; exact hO) (fun i hi hb => by rcases hnn _ hb with q | q; exact hap i hi q; have h1 := hlt i hi; omega)
          refine dr_any [13] (by kernel_rfl) (by kernel_rfl) rfl (na1 ?_)
          · refine nx_op 13 D (by kernel_rfl) hl (by kernel_rfl) (by kernel_rfl) fun bs aa w D hl => ?_
            refine dr_end D (by kernel_rfl) fun S => ?_
            refine sy_run ⟨0, [3]⟩ 60 S fun bs aa w S => ?_
            refine sy_reg S fun S => ?_
            refine sy_ops 1 S fun bs aa w S => ?_
            refine sy_cast 20 S (congrArg (Value.int .i64) (by rw [IntKind.wrap_i64]; omega : IntKind.i64.wrap ((j : Int) + 1) = ((j + 1 : Nat) : Int))) (by kernel_rfl) fun S => ?_
            refine sy_run ⟨0, [999]⟩ 50 S fun bs aa w S => ?_
            have S := S.sub (F' := [(rfOwn B 25 4 (.slice ga2 (ps.length + (j + 1)) gc2) (ps.length + (j + 1)) (pkV (ps ++ List.replicate (j + 1) p)))]) (by intro f hf; simp only [List.mem_singleton] at hf; subst hf; simp)
            have S2 := S.to [0] (kpS p ps.length n (j + 1) ga2 gc2) (by kernel_rfl) (by kernel_rfl) (by kernel_rfl) (by kernel_rfl) (by kernel_rfl)
            refine sy_at2 (k' := (.rnd (m) (bodyL kpC) :: kpC.k.tail)) (by kernel_rfl) ?_
            exact ih ga2 gc2 (fun g hg => (hnn g hg).elim (fun h => hgr g h) (fun h => Or.inr (by omega))) aa w S2
theorem kp_a (w0 : World) (q : Nat) (p : Pk) (B : Nat) (hB : B ≤ w0.heap.size) (ps : List Pk) (n : Nat) (hn : ps.length + n ≤ 20000) (rb : List Nat) : ∀ (r j : Nat), j + r = n → ∀ (ga : Option Addr) (gc : Nat) (hgr : ∀ g, Value.ownBlock (.slice ga (ps.length + (j)) gc) = some g → g ∈ rb ∨ w0.heap.size ≤ g) (aa : Act) (w : World) (S : Sy w0 (q :: rb) [q] (kpS p ps.length n (j) ga gc) [(rfOwn B 25 4 (.slice ga (ps.length + (j)) gc) (ps.length + (j)) (pkV (ps ++ List.replicate (j) p)))] aa w), post Tryd.prog (.rnd (r + 1) (bodyL kpC) :: kpC.k.tail) (bodyPost Tryd.prog Tryd.f28 (fun e w' => ∃ (ga : Option Addr) (gc : Nat), e = .returned (.tuple #[]) ∧ w'.heap[q]? = some (.cells #[.int .i64 p.k, .int .i64 p.a, .int .i64 p.b, .slice p.s p.c.length p.cp, (.slice ga (ps.length + (n)) gc)] 48 (0, 0)) ∧ w'.ownsRow B 25 4 (.slice ga (ps.length + (n)) gc) (ps.length + n) (pkV (ps ++ List.replicate n p)) ∧ (∀ g, Value.ownBlock (.slice ga (ps.length + (n)) gc) = some g → g ∈ rb ∨ w0.heap.size ≤ g) ∧ Gr w0 w' (q :: rb))) .normal aa w := by
  intro r
  induction r with
  | zero => intro j hj ga gc hgr aa w S; obtain rfl : j = n := by omega
            exact kp_e w0 q p B hB ps j hn rb 0 ga gc hgr aa w S
  | succ r ih => intro j hj ga gc hgr aa w S; exact kp_s w0 q p B hB ps n hn rb (r + 1) j (by omega) (ih (j + 1) (by omega)) ga gc hgr aa w S
set_option maxHeartbeats 8000000 in
theorem keep_t (w0 : World) (q : Nat) (p : Pk) (B : Nat) (hB : B ≤ w0.heap.size) (ps : List Pk) (n : Nat) (hn : ps.length + n ≤ 20000) (rb : List Nat) (ga : Option Addr) (gc : Nat) (hq : w0.heap[q]? = some (.cells #[.int .i64 p.k, .int .i64 p.a, .int .i64 p.b, .slice p.s p.c.length p.cp, .slice ga ps.length gc] 48 (0, 0))) (hO : w0.ownsRow B 25 4 (.slice ga ps.length gc) ps.length (pkV ps)) (hqr : Value.ownBlock (.slice ga ps.length gc) ≠ some q) (hrb : ∀ g, Value.ownBlock (.slice ga ps.length gc) = some g → g ∈ rb) : Calls Tryd.prog 28 #[.pointer (some ⟨q, 0, none⟩), .int .i64 (n : Int)] w0 (fun e w' => ∃ (ga : Option Addr) (gc : Nat), e = .returned (.tuple #[]) ∧ w'.heap[q]? = some (.cells #[.int .i64 p.k, .int .i64 p.a, .int .i64 p.b, .slice p.s p.c.length p.cp, (.slice ga (ps.length + (n)) gc)] 48 (0, 0)) ∧ w'.ownsRow B 25 4 (.slice ga (ps.length + (n)) gc) (ps.length + n) (pkV (ps ++ List.replicate n p)) ∧ (∀ g, Value.ownBlock (.slice ga (ps.length + (n)) gc) = some g → g ∈ rb ∨ w0.heap.size ≤ g) ∧ Gr w0 w' (q :: rb)) := by
  have hO2 : ((rfOwn B 25 4 (.slice ga (ps.length + (0)) gc) (ps.length + (0)) (pkV (ps ++ List.replicate (0) p)))).P w0 := by
    show World.ownsRow _ _ _ _ _ _ _
    rw [Nat.add_zero, List.replicate_zero, List.append_nil]
    exact hO
  refine sy_enterR (q :: rb) [q] [⟨48, [.int .i64 p.k, .int .i64 p.a, .int .i64 p.b, .slice p.s p.c.length p.cp, .slice ga ps.length gc]⟩] [.p 0 0, .v (.int .i64 (n : Int))] [(rfOwn B 25 4 (.slice ga (ps.length + (0)) gc) (ps.length + (0)) (pkV (ps ++ List.replicate (0) p)))] rfl (fun i k hk => by
    match i, hk with
    | 0, hk => obtain rfl := Option.some.inj hk; exact hq
    | i + 1, hk => cases hk) (fun i j hi hj _ => by simp at hi hj; omega) (fun i hi => by simp at hi; subst hi; simp) (fun x hx => by simp only [List.mem_cons, List.not_mem_nil, or_false] at hx; rcases hx with rfl | rfl; exact (show 0 < 1 by omega); trivial) (fun f hf => by simp only [List.mem_singleton] at hf; subst hf; exact ⟨hO2, fun i hi => by simp at hi; subst hi; exact hqr⟩) Tryd.func28 rfl rfl fun aa S => ?_
  refine sy_run ⟨0, []⟩ 60 S fun bs aa w S => ?_
  have S2 := S.to [0] (kpS p ps.length n 0 ga gc) (by kernel_rfl) (by kernel_rfl) (by kernel_rfl) (by kernel_rfl) (by kernel_rfl)
  refine sy_loop (n + 1) (by kernel_rfl) ?_
  refine sy_at2 (k' := (.rnd (n + 1) (bodyL kpC) :: kpC.k.tail)) (by kernel_rfl) ?_
  exact kp_a w0 q p B hB ps n hn rb n 0 (by omega) ga gc (fun g hg => Or.inl (hrb g hg)) aa w S2
end Go.Proofs.YtfkmcibglaiakaaDoor
