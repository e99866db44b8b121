
/-
  Layer 27: Parse.
-/
import Derived.Test.YtfkmcibglaiakaaDoorRows
import Derived.Test.YtfkmcibglaiakaaDoorBase
import Derived.Test.YtfkmcibglaiakaaDoorScF
import Derived.Shelf.Strings.FuncGrows
import Derived.WalkKit
namespace Go.Proofs.YtfkmcibglaiakaaDoor
open Go Go.RowKit SZ
set_option linter.unusedVariables false
set_option linter.unusedSimpArgs false
set_option maxRecDepth 100000
attribute [local irreducible] post GD Nxt NxtAll
theorem fieldG_is : ∀ (l cur : List Nat), (fieldG cur l).length ≤ l.length + 1 ∧ ∀ w ∈ fieldG cur l, w ≠ [] ∧ w.length ≤ cur.length + l.length ∧ ∀ b ∈ w, b ∈ cur ∨ b ∈ l
  | [], cur => by
    unfold fieldG
    split
    · exact ⟨by simp, fun w hw => by cases hw⟩
    · next h => exact ⟨by simp, fun w hw => by simp only [List.mem_singleton] at hw; subst hw; exact ⟨h, by simp, fun b hb => Or.inl hb⟩⟩
  | c :: l, cur => by
    unfold fieldG
    split
    · split
      · obtain ⟨h1, h2⟩ := fieldG_is l []
        exact ⟨by simp only [List.length_cons]; omega, fun w hw => by
          obtain ⟨h3, h4, h5⟩ := h2 w hw
          simp only [List.length_nil, List.length_cons] at h4 ⊢
          exact ⟨h3, by omega, fun b hb => (h5 b hb).elim (fun q => by cases q) (fun q => Or.inr (List.mem_cons_of_mem _ q))⟩⟩
      · next h =>
        obtain ⟨h1, h2⟩ := fieldG_is l []
        exact ⟨by simp only [List.length_cons]; omega, fun w hw => by
          rcases List.mem_cons.1 hw with rfl | hw
          · exact ⟨h, by omega, fun b hb => Or.inl hb⟩
          · obtain ⟨h3, h4, h5⟩ := h2 w hw
            simp only [List.length_nil, List.length_cons] at h4 ⊢
            exact ⟨h3, by omega, fun b hb => (h5 b hb).elim (fun q => by cases q) (fun q => Or.inr (List.mem_cons_of_mem _ q))⟩⟩
    · obtain ⟨h1, h2⟩ := fieldG_is l (cur ++ [c])
      exact ⟨by simp only [List.length_cons]; omega, fun w hw => by
        obtain ⟨h3, h4, h5⟩ := h2 w hw
        simp only [List.length_append, List.length_nil, List.length_cons] at h4 ⊢
        exact ⟨h3, by omega, fun b hb => (h5 b hb).elim (fun q => (List.mem_append.1 q).elim Or.inl (fun q => Or.inr (by simp only [List.mem_singleton] at q; subst q; simp))) (fun q => Or.inr (List.mem_cons_of_mem _ q))⟩⟩
theorem ff_t (w : World) (l : List Nat) (hl : ∀ b ∈ l, b < 256) (h3 : l.length ≤ 4000000000) : Calls Tryd.prog 25 #[.string (strOf l), .func (.func 26) #[] #[]] w fun e w' => ∃ g : Nat, e = .returned (.slice (some ⟨g, 0, none⟩) (fieldG [] l).length (fieldG [] l).length) ∧ (w.heap.size ≤ g ∧ LsAt w' g 0 (fieldG [] l)) ∧ Below w.heap.size w w' := by
  refine (Tryd.strings_FieldsFunc_grows 26 #[] (enters_of Tryd.func26 (by kernel_rfl) rfl) spcB (strOf l) w (by rw [strOf_size]; omega) (fun W x hx hb => isp_t x W)).mono fun e w' ⟨A, h1, h2, h3, h4⟩ => ?_
  rw [fields_eq hl] at h1 h3
  rw [List.length_map] at h1 h3
  refine ⟨A, h1, ⟨h2, fun j hj => ?_⟩, h4⟩
  have hc := h3.cells (g := A) rfl j (.string (strOf ((fieldG [] l).getD j []))) (by simp [List.getElem?_map, List.getElem?_eq_getElem hj, List.getD])
  have ea : ∀ k, (⟨A, 0, none⟩ : Addr).add k = ⟨A, 0 + k, none⟩ := fun k => by unfold Addr.add; split <;> simp_all
  rw [ea] at hc
  exact hc
theorem wordS_le {l : List Nat} {x : Pw × Nat} (h : wordS l = some x) : x.2 ≤ 9999999 := by
  have hm : ∀ (f : Nat → Pw × Nat) (o : Option Nat), (∀ n, (f n).2 ≤ 9999999) → ∀ y, o.map f = some y → y.2 ≤ 9999999 := fun f o hf y hy => by
    cases o with
    | none => cases hy
    | some n => cases hy; exact hf n
  have h1 : ∀ y, stepS l = some y → y.2 ≤ 9999999 := hm _ _ (fun n => by show (1 : Nat) ≤ 9999999; omega)
  have h2 : ∀ y, repS l = some y → y.2 ≤ 9999999 := fun y hy => by
    unfold repS at hy
    split at hy
    · cases hy
    · split at hy
      · cases hy
      · next c hc =>
        split at hy
        · cases hy
        · exact hm _ _ (fun n => numM_le hc) y hy
  have h3 : ∀ y, stallS l = some y → y.2 ≤ 9999999 := fun y hy => by
    unfold stallS at hy
    split at hy
    · cases hy
    · split at hy
      · cases hy
      · exact hm _ _ (fun n => by show (1 : Nat) ≤ 9999999; omega) y hy
  have h4 : ∀ y, crashS l = some y → y.2 ≤ 9999999 := fun y hy => by
    unfold crashS at hy
    split at hy
    · split at hy
      · cases hy
      · split at hy
        · cases hy; show (1 : Nat) ≤ 9999999; omega
        · cases hy
    · cases hy
  unfold wordS at h
  rw [Option.or_eq_some_iff, Option.or_eq_some_iff, Option.or_eq_some_iff] at h
  rcases h with (h | ⟨_, h⟩) | ⟨_, h | ⟨_, h⟩⟩
  · exact h1 x h
  · exact h2 x h
  · exact h3 x h
  · exact h4 x h
/-- The picks' cuts. -/
def rfPc (ps : List Pk) : RF := ⟨fun b => ∃ p ∈ ps, b = p.bl ∧ p.c.length ≠ 0, fun w => ∀ p ∈ ps, IsAt w p.bl p.o p.c, fun w h b hb => by
  obtain ⟨e, he, rfl, hl⟩ := hb
  exact (rfIs e.bl e.o e.c).lt w (h e he) e.bl ⟨rfl, hl⟩, fun w w' h hb e he => (rfIs e.bl e.o e.c).st w w' (h e he) fun b hq => hb b ⟨e, he, hq.1, hq.2⟩⟩
/-- What Parse answers. -/
def parP (w0 : World) (R : Int × List Pw) (e : Ending) (w' : World) : Prop := (∃ (ps : List Pk) (v : Value), e = .returned (.tuple #[v, .int .i64 R.1]) ∧ ps.map Pk.w = R.2 ∧ w'.ownsRow w0.heap.size 25 4 v ps.length (pkV ps) ∧ (∀ p ∈ ps, p.ok ∧ (p.c.length = 0 ∨ w0.heap.size ≤ p.bl)) ∧ ∀ p ∈ ps, IsAt w' p.bl p.o p.c) ∧ Below w0.heap.size w0 w'
theorem parP_nil (w0 : World) {n : Int} {w : World} (hg : Below w0.heap.size w0 w) : parP w0 (n, []) (.returned (.tuple #[.slice none 0 0, .int .i64 n])) w := ⟨⟨[], .slice none 0 0, rfl, rfl, own_nilP _ _, (fun p hp => by cases hp), (fun p hp => by cases hp)⟩, hg⟩
noncomputable def paC : Cfg := ⟨goZ 60 [] [.code (bodyOf Tryd.f19)], ⟨0, [], []⟩⟩
noncomputable def paS (p : Pk) (m : Nat) (ga : Option Addr) (gc : Nat) (t g n j : Nat) : SS := ⟨36, [(4, .v (.int .i64 (t : Int))), (5, .p 0 0), (11, .v (.slice (some ⟨g, 0, none⟩) n n)), (12, .v (.int .i64 (n : Int))), (13, .v (.int .i64 (j : Int)))], [⟨48, [.int .i64 p.k, .int .i64 p.a, .int .i64 p.b, .slice p.s p.c.length p.cp, .slice ga m gc]⟩]⟩
set_option maxHeartbeats 8000000 in
theorem pa_e (w0 : World) (h00 : 0 < w0.heap.size) (g : Nat) (ws : List (List Nat)) (hws : ∀ p ∈ ws, p.length ≤ 4000000000 ∧ ∀ b ∈ p, b < 256) (h3 : ws.length ≤ 4000000001) (R : Int × List Pw) (hg0 : w0.heap.size ≤ g) (m : Nat) (p : Pk) (ps : List Pk) (ga : Option Addr) (gc : Nat) (t : Nat) (hv : ∀ b, Value.ownBlock (.slice ga ps.length gc) = some b → b ≠ g ∧ ∀ p ∈ ps, p.c.length ≠ 0 → b ≠ p.bl) (hps : ∀ p ∈ ps, p.ok ∧ (p.c.length = 0 ∨ w0.heap.size ≤ p.bl)) (hn1 : ps.length ≤ t) (hn2 : ps.length ≤ 10000) (ht : t ≤ ws.length * 9999999) (hR : parseF (ws.drop (ws.length)) t (ps.map Pk.w) = R) (x0 : Nat) (aa : Act) (w : World) (S : Sy w0 [] [x0] (paS p ps.length ga gc t g ws.length (ws.length)) [rfLs g 0 ws, rfOwn w0.heap.size 25 4 (.slice ga (ps).length gc) (ps).length (pkV (ps)), rfPc (ps), rfMx] aa w) : post Tryd.prog (.rnd (m + 1) (bodyL paC) :: paC.k.tail) (bodyPost Tryd.prog Tryd.f19 (parP w0 R)) .normal aa w := by
  rw [List.drop_length] at hR
  refine sy_run (c := ⟨(.rnd (m + 1) (bodyL paC) :: paC.k.tail), paS p ps.length ga gc t g ws.length ws.length⟩) ⟨0, [4]⟩ 50 S fun bs aa w S => ?_
  refine sy_reg S fun S => ?_
  refine sy_ops 1 S fun bs aa w S => ?_
  refine sy_cast 14 S (congrArg Value.bool (decide_eq_false (by omega) : decide ((ws.length : Int) < (ws.length : Int)) = false)) (by kernel_rfl) fun S => ?_
  refine sy_run ⟨0, [13]⟩ 60 S fun bs aa w S => ?_
  refine sy_reg S fun S => ?_
  refine sy_ops 1 S fun bs aa w S => ?_
  by_cases h4 : 10000 < t
  · have hRn : R = (2, []) := by rw [← hR]; exact if_pos h4
    refine sy_ops 1 S fun bs aa w S => ?_
    refine sy_cast 33 S (congrArg Value.bool (decide_eq_true (by omega) : decide ((t : Int) > 10000) = true)) (by kernel_rfl) fun S => ?_
    refine sy_run ⟨0, []⟩ 60 S fun bs aa w S => ?_
    rw [hRn]
    exact sy_ret S (by kernel_rfl) (by kernel_rfl) fun hg => parP_nil w0 (bel_gr hg)
  · have hRn : R = (0, ps.map Pk.w) := by rw [← hR]; exact if_neg h4
    refine sy_ops 1 S fun bs aa w S => ?_
    refine sy_cast 33 S (congrArg Value.bool (decide_eq_false (by omega) : decide ((t : Int) > 10000) = false)) (by kernel_rfl) fun S => ?_
    refine sy_run ⟨0, []⟩ 60 S fun bs aa w S => ?_
    rw [hRn]
    exact sy_ret S (by kernel_rfl) (by kernel_rfl) fun hg => ⟨⟨ps, (.slice ga ps.length gc), rfl, rfl, S.fact (f := rfOwn w0.heap.size 25 4 (.slice ga (ps).length gc) (ps).length (pkV (ps))) (by simp), hps, S.fact (f := rfPc ps) (by simp)⟩, bel_gr hg⟩
theorem parF_drop {ws : List (List Nat)} {j : Nat} (hj : j < ws.length) (t : Nat) (ps : List Pw) : parseF (ws.drop j) t ps = match wordS (ws.getD j []) with | none => (3, []) | some x => parseF (ws.drop (j + 1)) (t + x.2) (if t + x.2 ≤ 10000 then ps ++ List.replicate x.2 x.1 else ps) := by
  have h := List.drop_eq_getElem_cons hj
  have e : (ws.getD j []) = ws[j] := by simp [List.getD, List.getElem?_eq_getElem hj]
  rw [h, e]
  rfl
set_option maxHeartbeats 8000000 in
theorem pa_s (w0 : World) (h00 : 0 < w0.heap.size) (g : Nat) (ws : List (List Nat)) (hws : ∀ p ∈ ws, p.length ≤ 4000000000 ∧ ∀ b ∈ p, b < 256) (h3 : ws.length ≤ 4000000001) (R : Int × List Pw) (hg0 : w0.heap.size ≤ g) (m j : Nat) (hj : j < ws.length) (p : Pk) (ps : List Pk) (ga : Option Addr) (gc : Nat) (t : Nat) (ih : ∀ (p : Pk) (ps : List Pk) (ga : Option Addr) (gc : Nat) (t : Nat) (hv : ∀ b, Value.ownBlock (.slice ga ps.length gc) = some b → b ≠ g ∧ ∀ p ∈ ps, p.c.length ≠ 0 → b ≠ p.bl) (hps : ∀ p ∈ ps, p.ok ∧ (p.c.length = 0 ∨ w0.heap.size ≤ p.bl)) (hn1 : ps.length ≤ t) (hn2 : ps.length ≤ 10000) (ht : t ≤ (j + 1) * 9999999) (hR : parseF (ws.drop ((j + 1))) t (ps.map Pk.w) = R) (x0 : Nat) (aa : Act) (w : World) (S : Sy w0 [] [x0] (paS p ps.length ga gc t g ws.length (j + 1)) [rfLs g 0 ws, rfOwn w0.heap.size 25 4 (.slice ga (ps).length gc) (ps).length (pkV (ps)), rfPc (ps), rfMx] aa w), post Tryd.prog (.rnd (m) (bodyL paC) :: paC.k.tail) (bodyPost Tryd.prog Tryd.f19 (parP w0 R)) .normal aa w) (hv : ∀ b, Value.ownBlock (.slice ga ps.length gc) = some b → b ≠ g ∧ ∀ p ∈ ps, p.c.length ≠ 0 → b ≠ p.bl) (hps : ∀ p ∈ ps, p.ok ∧ (p.c.length = 0 ∨ w0.heap.size ≤ p.bl)) (hn1 : ps.length ≤ t) (hn2 : ps.length ≤ 10000) (ht : t ≤ j * 9999999) (hR : parseF (ws.drop (j)) t (ps.map Pk.w) = R) (x0 : Nat) (aa : Act) (w : World) (S : Sy w0 [] [x0] (paS p ps.length ga gc t g ws.length (j)) [rfLs g 0 ws, rfOwn w0.heap.size 25 4 (.slice ga (ps).length gc) (ps).length (pkV (ps)), rfPc (ps), rfMx] aa w) : post Tryd.prog (.rnd (m + 1) (bodyL paC) :: paC.k.tail) (bodyPost Tryd.prog Tryd.f19 (parP w0 R)) .normal aa w := by
  obtain ⟨hwl, hwb⟩ : (ws.getD j []).length ≤ 4000000000 ∧ ∀ b ∈ (ws.getD j []), b < 256 := hws _ (getD_mem ws j [] hj)
  rw [parF_drop hj] at hR
  refine sy_run (c := ⟨(.rnd (m + 1) (bodyL paC) :: paC.k.tail), paS p ps.length ga gc t g ws.length j⟩) ⟨0, [4]⟩ 50 S fun bs aa w S => ?_
  refine sy_reg S fun S => ?_
  refine sy_ops 1 S fun bs aa w S => ?_
  refine sy_cast 14 S (congrArg Value.bool (decide_eq_true (by omega) : decide ((j : Int) < (ws.length : Int)) = true)) (by kernel_rfl) fun S => ?_
  refine sy_run ⟨0, [5]⟩ 60 S fun bs aa w S => ?_
  refine sy_reg S fun S => ?_
  refine sy_ix (b := g) (off := 0) (len := ws.length) (n := j) (size := 1) (i := (j : Int)) S ((by kernel_rfl)) rfl hj fun aa S => ?_
  refine sy_ldo S (ld_at (ty := 9) (b := g) (off := 0 + j * 1) (by kernel_rfl) (by rw [Nat.mul_one]; exact S.fact (f := rfLs g 0 ws) (by simp) j hj)) (by kernel_rfl) fun aa S => ?_
  refine sy_run ⟨0, [6]⟩ 60 S fun bs aa w S => ?_
  refine sy_reg S fun S => ?_
  refine sy_ops 1 S fun bs aa w S => ?_
  refine sy_nmq x0 S ⟨by simp, rfl⟩ fun bs hbq S => ?_
  have hsz0 := S.gr.size
  have hbl0 : ∀ j, j < bs.length → bs.getD j 0 < w.heap.size := fun j hj => S.lt hj
  have hb0 : 0 < bs.length := hbq.1
  have hq0 : ¬bs.getD 0 0 = 0 := by
    have h := S.lo 0 hb0
    rcases h with h | h
    · omega
    · cases h
  have hOw0 : w.ownsRow w0.heap.size 25 4 (.slice ga ps.length gc) ps.length (pkV ps) := S.fact (f := rfOwn w0.heap.size 25 4 (.slice ga (ps).length gc) (ps).length (pkV (ps))) (by simp)
  have hq := S.bx 0 ⟨48, [.int .i64 p.k, .int .i64 p.a, .int .i64 p.b, .slice p.s p.c.length p.cp, .slice ga ps.length gc]⟩ (by kernel_rfl)
  have hwd := wrd_t w (bs.getD 0 0) p (.slice ga ps.length gc) hq (ws.getD j []) hwb (S.fact (f := rfMx) (by simp)) hq0 hwl
  cases hw : wordS (ws.getD j []) with
  | none =>
    rw [hw] at hR hwd
    refine sy_callX (X := Int × Pk) S 0 ⟨48, [.int .i64 p.k, .int .i64 p.a, .int .i64 p.b, .slice p.s p.c.length p.cp, .slice ga ps.length gc]⟩ (fun x => ⟨48, [.int .i64 x.2.k, .int .i64 x.2.a, .int .i64 x.2.b, .slice x.2.s x.2.c.length x.2.cp, .slice ga ps.length gc]⟩) [] (by kernel_rfl) (by simp) (v := fun x => .tuple #[.int .i64 x.1, .bool false]) (C := fun x w' => True) (hwd.mono fun e w' ⟨n, p, q1, q2, q3, q4⟩ => ⟨(n, p), q1, trivial, q2, q4⟩) (by kernel_rfl) [rfLs g 0 ws, rfOwn w0.heap.size 25 4 (.slice ga (ps).length gc) (ps).length (pkV (ps)), rfPc (ps), rfMx] (fun f hf => ⟨hf, fun g hg => by cases hg⟩) (by simp) fun x aa w2 hC S => ?_
    refine sy_run ⟨0, []⟩ 60 S fun bs aa w S => ?_
    rw [← hR]
    exact sy_ret S (by kernel_rfl) (by kernel_rfl) fun hg => parP_nil w0 (bel_gr hg)
  | some y =>
    rw [hw] at hR hwd
    simp only at hR
    have hy := wordS_le hw
    refine sy_callX (X := Int × Pk) S 0 ⟨48, [.int .i64 p.k, .int .i64 p.a, .int .i64 p.b, .slice p.s p.c.length p.cp, .slice ga ps.length gc]⟩ (fun x => ⟨48, [.int .i64 x.2.k, .int .i64 x.2.a, .int .i64 x.2.b, .slice x.2.s x.2.c.length x.2.cp, .slice ga ps.length gc]⟩) [] (by kernel_rfl) (by simp) (v := fun x => .tuple #[.int .i64 x.1, .bool true]) (C := fun x w' => x.1 = (y.2 : Int) ∧ x.2.w = y.1 ∧ x.2.ok ∧ IsAt w' x.2.bl x.2.o x.2.c ∧ (x.2.c.length = 0 ∨ w.heap.size ≤ x.2.bl)) (hwd.mono fun e w' ⟨n, p, q1, q2, q3, q4⟩ => ⟨(n, p), q1, q3 y rfl, q2, q4⟩) (by kernel_rfl) [rfLs g 0 ws, rfOwn w0.heap.size 25 4 (.slice ga (ps).length gc) (ps).length (pkV (ps)), rfPc (ps), rfMx] (fun f hf => ⟨hf, fun g hg => by cases hg⟩) (by simp) fun x aa w2 hC S => ?_
    obtain ⟨n1, p1⟩ := x
    obtain ⟨q1, q2, q3, q4, q5⟩ := hC
    simp only at q1 q2 q3 q4 q5
    subst q1
    have how0 : w.ownsRow w0.heap.size 25 4 (.slice ga ps.length gc) ps.length (pkV ps) := hOw0
    have S := S.add (rfIs p1.bl p1.o p1.c) q4 (fun i hi hb => by
      have h6 : bs.getD i 0 = p1.bl := hb.1
      have h7 := q5.resolve_left hb.2
      have h8 := hbl0 i hi
      omega)
    refine sy_run ⟨0, [9]⟩ 60 S fun bs aa w S => ?_
    refine sy_reg S fun S => ?_
    refine sy_ops 3 S fun bs aa w S => ?_
    refine sy_cast 26 S (congrArg (Value.int .i64) (by rw [IntKind.wrap_i64]; omega : IntKind.i64.wrap ((t : Int) + (y.2 : Int)) = ((t + y.2 : Nat) : Int))) (by kernel_rfl) fun S => ?_
    refine sy_run ⟨0, [10]⟩ 60 S fun bs aa w S => ?_
    refine sy_reg S fun S => ?_
    refine sy_ops 1 S fun bs aa w S => ?_
    by_cases h4 : t + y.2 ≤ 10000
    · rw [if_pos h4] at hR
      refine sy_ops 1 S fun bs aa w S => ?_
      refine sy_cast 28 S (congrArg Value.bool (decide_eq_true (by omega) : decide (((t + y.2 : Nat) : Int) ≤ 10000) = true)) (by kernel_rfl) fun S => ?_
      refine sy_run ⟨0, [11]⟩ 60 S fun bs aa w S => ?_
      refine sy_reg S fun S => ?_
      refine sy_ops 1 S fun bs aa w S => ?_
      refine sy_nmq x0 S (by repeat (first | exact hbq | refine gd_app ?_)) fun bs hbq S => ?_
      have hbl1 : ∀ j, j < bs.length → bs.getD j 0 < w.heap.size := fun j hj => S.lt hj
      have hsz1 := S.gr.size
      have hO := S.fact (f := rfOwn w0.heap.size 25 4 (.slice ga (ps).length gc) (ps).length (pkV (ps))) (by simp)
      have hap := (S.fs (rfOwn w0.heap.size 25 4 (.slice ga (ps).length gc) (ps).length (pkV (ps))) (by simp)).2
      have hb1 : 0 < bs.length := hbq.1
      have hq2 := S.bx 0 ⟨48, [.int .i64 p1.k, .int .i64 p1.a, .int .i64 p1.b, .slice p1.s p1.c.length p1.cp, .slice ga ps.length gc]⟩ (by kernel_rfl)
      have hgl : g < w.heap.size := (rfLs g 0 ws).lt w (S.fact (f := rfLs g 0 ws) (by simp)) g ⟨rfl, by omega⟩
      have hplt : ∀ p ∈ ps ++ List.replicate y.2 p1, p.c.length ≠ 0 → p.bl < w.heap.size := fun p hp h7 => by
        rcases List.mem_append.1 hp with hp | hp
        · exact (rfPc ps).lt w (S.fact (f := rfPc ps) (by simp)) p.bl ⟨p, hp, rfl, h7⟩
        · rw [List.eq_of_mem_replicate hp] at h7 ⊢
          exact (rfIs p1.bl p1.o p1.c).lt w (S.fact (f := rfIs p1.bl p1.o p1.c) (by simp)) p1.bl ⟨rfl, h7⟩
      have hkp := keep_t w (bs.getD 0 0) p1 w0.heap.size hsz1 ps y.2 (by omega) (match Value.ownBlock (.slice ga ps.length gc) with | some b => [b] | none => []) ga gc hq2 hO (fun h => hap 0 hb1 h) (fun g hg => by rw [hg]; simp)
      refine sy_callX (X := Option Addr × Nat) S 0 ⟨48, [.int .i64 p1.k, .int .i64 p1.a, .int .i64 p1.b, .slice p1.s p1.c.length p1.cp, .slice ga ps.length gc]⟩ (fun x => ⟨48, [.int .i64 p1.k, .int .i64 p1.a, .int .i64 p1.b, .slice p1.s p1.c.length p1.cp, .slice x.1 (ps.length + y.2) x.2]⟩) (match Value.ownBlock (.slice ga ps.length gc) with | some b => [b] | none => []) (by kernel_rfl) (fun g hg => by
          cases hb : Value.ownBlock (.slice ga ps.length gc) with
          | none => rw [hb] at hg; cases hg
          | some b => rw [hb] at hg; simp only [List.mem_singleton] at hg; subst hg; exact Or.inr (hO.lt _ hb).1) (v := fun x => .tuple #[]) (C := fun x w' => w'.ownsRow w0.heap.size 25 4 (.slice x.1 (ps.length + y.2) x.2) (ps.length + y.2) (pkV (ps ++ List.replicate y.2 p1)) ∧ (∀ g, Value.ownBlock (.slice x.1 (ps.length + y.2) x.2) = some g → Value.ownBlock (.slice ga ps.length gc) = some g ∨ w.heap.size ≤ g)) (hkp.mono fun e w' ⟨ga2, gc2, k1, k2, k3, k4, k5⟩ => ⟨(ga2, gc2), k1, ⟨k3, fun g hg => (k4 g hg).imp (fun h => by
          cases hb : Value.ownBlock (.slice ga ps.length gc) with
          | none => rw [hb] at h; cases h
          | some b => rw [hb] at h; simp only [List.mem_singleton] at h; rw [h]) id⟩, k2, k5⟩) (by kernel_rfl) [rfIs p1.bl p1.o p1.c, rfLs g 0 ws, rfPc ps, rfMx] (fun f hf => ⟨by
          simp only [List.mem_cons, List.not_mem_nil, or_false] at hf ⊢
          rcases hf with rfl | rfl | rfl | rfl <;> simp, fun b hb => by
          cases hbo : Value.ownBlock (.slice ga ps.length gc) with
          | none => rw [hbo] at hb; cases hb
          | some b2 =>
            rw [hbo] at hb
            simp only [List.mem_singleton] at hb
            subst hb
            have h5 := (hO.lt _ hbo)
            simp only [List.mem_cons, List.not_mem_nil, or_false] at hf
            rcases hf with rfl | rfl | rfl | rfl
            · intro hbl
              have h6 : b = p1.bl := hbl.1
              have h7 := q5.resolve_left hbl.2
              have h8 := how0.lt _ hbo
              omega
            · intro hbl
              exact (hv _ hbo).1 hbl.1
            · rintro ⟨p2, hp2, h6, h7⟩
              exact (hv _ hbo).2 p2 hp2 h7 h6
            · intro hbl
              have h6 : b = 0 := hbl
              omega⟩) (fun jj hjj hm => by
          cases hbo : Value.ownBlock (.slice ga ps.length gc) with
          | none => rw [hbo] at hm; cases hm
          | some b2 => rw [hbo] at hm; simp only [List.mem_singleton] at hm; exact hap jj hjj (by rw [hm]; exact hbo)) fun x aa w3 hC3 S => ?_
      obtain ⟨ga2, gc2⟩ := x
      obtain ⟨k3, k4⟩ := hC3
      simp only at k3 k4
      have hlr : (ps ++ List.replicate y.2 p1).length = ps.length + y.2 := by simp
      have hpcs : ∀ p ∈ ps ++ List.replicate y.2 p1, IsAt w3 p.bl p.o p.c := fun p hp => by
        rcases List.mem_append.1 hp with hp | hp
        · exact S.fact (f := rfPc ps) (by simp) p hp
        · rw [List.eq_of_mem_replicate hp]
          exact S.fact (f := rfIs p1.bl p1.o p1.c) (by simp)
      have hfr : ∀ p ∈ ps ++ List.replicate y.2 p1, p.ok ∧ (p.c.length = 0 ∨ w0.heap.size ≤ p.bl) := fun p hp => by
        rcases List.mem_append.1 hp with hp | hp
        · exact hps p hp
        · rw [List.eq_of_mem_replicate hp]
          exact ⟨q3, q5.imp id (fun h => by omega)⟩
      have hfi := (S.fs (rfIs p1.bl p1.o p1.c) (by simp)).2
      have hfp := (S.fs (rfPc ps) (by simp)).2
      have S := S.add (rfPc (ps ++ List.replicate y.2 p1)) hpcs (fun i hi hb => by
        obtain ⟨p, hp, h6, h7⟩ := hb
        rcases List.mem_append.1 hp with hp | hp
        · exact hfp i hi ⟨p, hp, h6, h7⟩
        · rw [List.eq_of_mem_replicate hp] at h6 h7
          exact hfi i hi ⟨h6, h7⟩)
      have S := S.add (rfOwn w0.heap.size 25 4 (.slice ga2 (ps ++ List.replicate y.2 p1).length gc2) (ps ++ List.replicate y.2 p1).length (pkV (ps ++ List.replicate y.2 p1))) (by rw [hlr]; exact k3) (fun i hi hb => by
        have hb : Value.ownBlock (.slice ga2 (ps ++ List.replicate y.2 p1).length gc2) = some _ := hb
        rw [hlr] at hb
        rcases k4 _ hb with h6 | h6
        · exact hap i hi h6
        · have h7 := hbl1 i hi
          omega)
      refine sy_run ⟨0, [12]⟩ 60 S fun bs aa w S => ?_
      refine sy_reg S fun S => ?_
      refine sy_ops 1 S fun bs aa w S => ?_
      refine sy_cast 31 S (congrArg (Value.int .i64) (by rw [IntKind.wrap_i64]; omega : IntKind.i64.wrap ((j : Int) + 1) = ((j + 1 : Nat) : Int))) (by kernel_rfl) fun S => ?_
      refine sy_run ⟨0, [999]⟩ 50 S fun bs aa w S => ?_
      have S := S.sub (F' := [rfLs g 0 ws, rfOwn w0.heap.size 25 4 (.slice ga2 (ps ++ List.replicate y.2 p1).length gc2) (ps ++ List.replicate y.2 p1).length (pkV (ps ++ List.replicate y.2 p1)), rfPc (ps ++ List.replicate y.2 p1), rfMx]) (by intro f hf; simp only [List.mem_cons, List.not_mem_nil, or_false] at hf; rcases hf with rfl | rfl | rfl | rfl <;> simp)
      rw [← hlr] at S
      have S2 := S.to [0] (paS p1 (ps ++ List.replicate y.2 p1).length ga2 gc2 (t + y.2) g ws.length (j + 1)) (by kernel_rfl) (by kernel_rfl) (by kernel_rfl) (by kernel_rfl) (by kernel_rfl)
      refine sy_at2 (k' := (.rnd (m) (bodyL paC) :: paC.k.tail)) (by kernel_rfl) ?_
      refine ih p1 (ps ++ List.replicate y.2 p1) ga2 gc2 (t + y.2) ?_ hfr (by rw [hlr]; omega) (by rw [hlr]; omega) (by omega) ?_ _ aa w S2
      · intro b hb
        rw [hlr] at hb
        rcases k4 _ hb with h6 | h6
        · refine ⟨(hv _ h6).1, fun p hp h7 h8 => ?_⟩
          rcases List.mem_append.1 hp with hp | hp
          · exact (hv _ h6).2 p hp h7 h8
          · rw [List.eq_of_mem_replicate hp] at h7 h8
            have h9 := q5.resolve_left h7
            have h10 := how0.lt _ h6
            omega
        · refine ⟨fun h7 => ?_, fun p hp h7 h8 => ?_⟩
          · have := hgl
            omega
          · have := hplt p hp h7
            omega
      · rw [List.map_append, List.map_replicate, q2]
        exact hR
    · rw [if_neg h4] at hR
      refine sy_ops 1 S fun bs aa w S => ?_
      refine sy_cast 28 S (congrArg Value.bool (decide_eq_false (by omega) : decide (((t + y.2 : Nat) : Int) ≤ 10000) = false)) (by kernel_rfl) fun S => ?_
      refine sy_run ⟨0, [12]⟩ 60 S fun bs aa w S => ?_
      refine sy_reg S fun S => ?_
      refine sy_ops 1 S fun bs aa w S => ?_
      refine sy_cast 31 S (congrArg (Value.int .i64) (by rw [IntKind.wrap_i64]; omega : IntKind.i64.wrap ((j : Int) + 1) = ((j + 1 : Nat) : Int))) (by kernel_rfl) fun S => ?_
      refine sy_run ⟨0, [999]⟩ 50 S fun bs aa w S => ?_
      have S := S.sub (F' := [rfLs g 0 ws, rfOwn w0.heap.size 25 4 (.slice ga (ps).length gc) (ps).length (pkV (ps)), rfPc (ps), rfMx]) (by intro f hf; simp only [List.mem_cons, List.not_mem_nil, or_false] at hf; rcases hf with rfl | rfl | rfl | rfl <;> simp)
      have S2 := S.to [0] (paS p1 ps.length ga gc (t + y.2) g ws.length (j + 1)) (by kernel_rfl) (by kernel_rfl) (by kernel_rfl) (by kernel_rfl) (by kernel_rfl)
      refine sy_at2 (k' := (.rnd (m) (bodyL paC) :: paC.k.tail)) (by kernel_rfl) ?_
      exact ih p1 ps ga gc (t + y.2) hv hps (by omega) hn2 (by omega) hR _ aa w S2
theorem pa_a (w0 : World) (h00 : 0 < w0.heap.size) (g : Nat) (ws : List (List Nat)) (hws : ∀ p ∈ ws, p.length ≤ 4000000000 ∧ ∀ b ∈ p, b < 256) (h3 : ws.length ≤ 4000000001) (R : Int × List Pw) (hg0 : w0.heap.size ≤ g) : ∀ (m j : Nat), j + m = ws.length → ∀ (p : Pk) (ps : List Pk) (ga : Option Addr) (gc : Nat) (t : Nat) (hv : ∀ b, Value.ownBlock (.slice ga ps.length gc) = some b → b ≠ g ∧ ∀ p ∈ ps, p.c.length ≠ 0 → b ≠ p.bl) (hps : ∀ p ∈ ps, p.ok ∧ (p.c.length = 0 ∨ w0.heap.size ≤ p.bl)) (hn1 : ps.length ≤ t) (hn2 : ps.length ≤ 10000) (ht : t ≤ j * 9999999) (hR : parseF (ws.drop (j)) t (ps.map Pk.w) = R) (x0 : Nat) (aa : Act) (w : World) (S : Sy w0 [] [x0] (paS p ps.length ga gc t g ws.length (j)) [rfLs g 0 ws, rfOwn w0.heap.size 25 4 (.slice ga (ps).length gc) (ps).length (pkV (ps)), rfPc (ps), rfMx] aa w), post Tryd.prog (.rnd (m + 1) (bodyL paC) :: paC.k.tail) (bodyPost Tryd.prog Tryd.f19 (parP w0 R)) .normal aa w := by
  intro m
  induction m with
  | zero =>
    intro j hj p ps ga gc t hv hps hn1 hn2 ht hR x0 aa w S
    obtain rfl : j = ws.length := by omega
    exact pa_e w0 h00 g ws hws h3 R hg0 0 p ps ga gc t hv hps hn1 hn2 ht hR x0 aa w S
  | succ m ih =>
    intro j hj p ps ga gc t hv hps hn1 hn2 ht hR x0 aa w S
    exact pa_s w0 h00 g ws hws h3 R hg0 (m + 1) j (by omega) p ps ga gc t (fun p ps ga gc t hv hps hn1 hn2 ht hR x0 aa w S => ih (j + 1) (by omega) p ps ga gc t hv hps hn1 hn2 ht hR x0 aa w S) hv hps hn1 hn2 ht hR x0 aa w S
set_option maxHeartbeats 8000000 in
theorem parse_t (w0 : World) (h00 : 0 < w0.heap.size) (hm : rfMx.P w0) (l : List Nat) (hl : ∀ b ∈ l, b < 256) (h3 : l.length ≤ 4000000000) : Calls Tryd.prog 19 #[.string (strOf l)] w0 (parP w0 (parseS l)) := by
  refine sy_enterF [] [rfMx] (by intro f hf; simp only [List.mem_singleton] at hf; subst hf; exact hm) Tryd.func19 rfl rfl fun aa S => ?_
  refine sy_run ⟨0, [3]⟩ 60 S fun bs aa w S => ?_
  refine sy_reg S fun S => ?_
  refine sy_ops 1 S fun bs aa w S => ?_
  refine sy_nm S fun bs S => ?_
  have hbl0 : ∀ j, j < bs.length → bs.getD j 0 < w.heap.size := fun j hj => S.lt hj
  have hsz0 := S.gr.size
  refine sy_call S (X := Nat) (val := fun g => .slice (some ⟨g, 0, none⟩) (fieldG [] l).length (fieldG [] l).length) (C := fun g w' => w.heap.size ≤ g ∧ LsAt w' g 0 (fieldG [] l)) (ff_t w l hl h3) (by kernel_rfl) fun g aa w2 hC hb S => ?_
  obtain ⟨hg, hLs⟩ := hC
  have S := S.add (rfLs g 0 (fieldG [] l)) hLs (fun i hi hbl => by
    have h1 := hbl.1
    have := hbl0 i hi
    omega)
  have S := S.add (rfPc []) (fun p hp => by cases hp) (fun i hi hb => by obtain ⟨p, hp, _⟩ := hb; cases hp)
  have S := S.add (rfOwn w0.heap.size 25 4 (.slice none (([] : List Pk)).length 0) (([] : List Pk)).length (pkV (([] : List Pk)))) (own_nilP _ _) (fun i hi hbl => by cases hbl)
  refine sy_run ⟨0, []⟩ 60 S fun bs aa w S => ?_
  have S := S.sub (F' := [rfLs g 0 (fieldG [] l), rfOwn w0.heap.size 25 4 (.slice none (([] : List Pk)).length 0) (([] : List Pk)).length (pkV (([] : List Pk))), rfPc [], rfMx]) (by intro f hf; simp only [List.mem_cons, List.not_mem_nil, or_false] at hf; rcases hf with rfl | rfl | rfl | rfl <;> simp)
  have S2 := S.to [0] (paS ⟨0, 0, 0, none, 0, 0, 0, []⟩ ([] : List Pk).length none 0 0 g (fieldG [] l).length 0) (by kernel_rfl) (by kernel_rfl) (by kernel_rfl) (by kernel_rfl) (by kernel_rfl)
  refine sy_loop ((fieldG [] l).length + 1) (by kernel_rfl) ?_
  refine sy_at2 (k' := (.rnd ((fieldG [] l).length + 1) (bodyL paC) :: paC.k.tail)) (by kernel_rfl) ?_
  have hf := fieldG_is l []
  exact pa_a w0 h00 g (fieldG [] l) (fun p hp => by
    obtain ⟨q1, q2, q3⟩ := hf.2 p hp
    exact ⟨by simp at q2; omega, fun b hb => hl b ((q3 b hb).elim (fun h => by cases h) id)⟩) (by omega) (parseS l) (by omega) (fieldG [] l).length 0 (by omega) ⟨0, 0, 0, none, 0, 0, 0, []⟩ [] none 0 0 (fun b hb => by cases hb) (fun p hp => by cases hp) (Nat.le_refl _) (by simp) (by omega) (by rw [List.drop_zero]; rfl) _ aa _ S2
end Go.Proofs.YtfkmcibglaiakaaDoor
