
/-
  Layer 27: the plain form of a script.
-/
import Derived.Test.YtfkmcibglaiakaaDoorRows
import Derived.Test.YtfkmcibglaiakaaDoorBase
import Derived.Test.YtfkmcibglaiakaaDoorScK
import Derived.Test.YtfkmcibglaiakaaDoorScG
import Derived.Test.YtfkmcibglaiakaaDoorScJ
import Derived.Maps.Own
import Derived.Maps.Views
import Derived.WalkKit
namespace Go.Proofs.YtfkmcibglaiakaaDoor
open Go Go.RowKit SZ
set_option linter.unusedVariables false
set_option linter.unusedSimpArgs false
set_option maxRecDepth 100000
theorem ex_max {s : SS} {bs : List Nat} {x y : Operand} {ts : Array TypeId} {ty : TypeId} {p q : Int} (hx : s.val x = some (.v (.int .i64 p))) (hy : s.val y = some (.v (.int .i64 q))) {z : Int} (hz : (if p < q then q else p) = z) :
    ∀ (o : Oper) (ρ : Operand → Value) (W : World), o.op = .call { callee := .builtin .max, args := #[x, y], argTypes := ts } → o.type = ty → (∀ x y, s.val x = some y → ρ x = den bs y) → (execOp ρ o).run Tryd.prog W = .ok (.value (.int .i64 z)) W := by
  intro o ρ W h1 h2 h3
  have hr := run_max_int2 (P := Tryd.prog) W ts o.type .i64 .i64 p q
  have e1 : ρ x = .int .i64 p := h3 x _ hx
  have e2 : ρ y = .int .i64 q := h3 y _ hy
  unfold execOp
  subst hz
  simp only [h1, resolve, invoke, builtin, Sem.run_bind, Sem.run_pure, Result.andThen_ok, List.map_toArray, List.map_cons, List.map_nil, e1, e2, hr]
/-- An operation told by a law that makes memory and may write to the row v. -/
theorem sy_mup [DF] {P : Program} {w0 : World} {r : List Nat} {bs : List Nat} {F : List RF} {a : Act} {w : World} {c : Cfg} {op : Op} {ty : TypeId} (v : Value) (F' : List RF) {C : World → Prop} (S : Sy w0 r bs c.s F a w) (ho : (headV c).map (fun o => (o.op, o.type)) = some (op, ty))
    (hr : ∀ (o : Oper) (ρ : Operand → Value), o.op = op → o.type = ty → (∀ x y, c.s.val x = some y → ρ x = den bs y) → ∃ w', (execOp ρ o).run P w = .ok .skip w' ∧ C w' ∧ w.grownBy w' v.ownBlock)
    (h0 : ∀ g, v.ownBlock = some g → g ∈ r ∨ w0.heap.size ≤ g) (hF : ∀ f ∈ F', f ∈ F ∧ ∀ g, v.ownBlock = some g → ¬f.bl g) (hn : ∀ i, i < bs.length → v.ownBlock ≠ some (bs.getD i 0)) {Q : Exit → Act → World → Prop}
    (h : ∀ a' w', C w' → Sy w0 r bs (aftC c (.v undef)).s F' a' w' → post P (aftC c (.v undef)).k Q .normal a' w') : post P c.k Q .normal a w := by
  obtain ⟨k0, s⟩ := c
  match k0 with
  | .ops all (o :: l) :: k0 =>
    show wpList P all (post P k0 Q) (o :: l) a w
    refine wpList_step fun K hK => ?_
    unfold headV at ho
    simp only at ho
    cases hw : wantS s all o with
    | none => rw [hw] at ho; simp at ho
    | some b' =>
      rw [hw] at ho
      cases b' with
      | false => simp at ho
      | true =>
        simp only [Option.map_some, Option.some.injEq, Prod.mk.injEq] at ho
        rw [wantS_sound S hw, if_pos rfl]
        unfold Oper.wp
        obtain ⟨w', h1, h2, h3⟩ := hr o a.eval ho.1 ho.2 (fun x y hx => (S.val hx).1)
        rw [h1]
        exact hK _ _ (h _ w' h2 ((S.grownO h3 h0 hF hn).put o.dst (x := .v undef) trivial))
  | [] => simp [headV] at ho
  | .code _ :: _ => simp [headV] at ho
  | .blk _ :: _ => simp [headV] at ho
  | .rnd _ _ :: _ => simp [headV] at ho
  | .ops _ [] :: _ => simp [headV] at ho
attribute [local irreducible] post GD Nxt NxtAll
/-- The map of stalls. -/
def MapIs (w : World) (g n : Nat) (u : Int → Int) : Prop := ∃ D : DataW Unit, w.ownsMap Tryd.prog 3 (plainElem Tryd.prog 3) g n D ∧ ∀ k, D.atKey (.int .i64 k) (.lit (.int .i64 0)) = .lit (.int .i64 (u k))
def upd (u : Int → Int) (k v : Int) : Int → Int := fun x => if x = k then v else u x
def rfMp (g n : Nat) (u : Int → Int) : RF := ⟨fun b => b = g, fun w => MapIs w g n u, fun w h b hb => by
  subst hb
  obtain ⟨D, h1, h2⟩ := h
  exact h1.lt, fun w w' h hb => by
  obtain ⟨D, ⟨es, clock, h1, h3⟩, h2⟩ := h
  exact ⟨D, ⟨es, clock, (hb g rfl).trans h1, h3⟩, h2⟩⟩
theorem wf64 {k : Int} (h : I64 k) : (Lit.int .i64 k).wf = true := by
  unfold I64 at h
  have e1 : IntKind.i64.min = -9223372036854775808 := by decide
  have e2 : IntKind.i64.max = 9223372036854775807 := by decide
  show (decide (IntKind.i64.min ≤ k) && decide (k ≤ IntKind.i64.max)) = true
  rw [e1, e2]
  simp
  omega
theorem mp_look {w : World} {g n : Nat} {u : Int → Int} (h : MapIs w g n u) {k : Int} (hk : I64 k) : (Instr.lookup 46 (.map (some g)) (.int .i64 k) false).run Tryd.prog w = .ok (.int .i64 (u k)) w := by
  obtain ⟨D, h1, h2⟩ := h
  obtain ⟨c, q1, q2, q3⟩ := h1.lookup_int (t := 46) (Maps.int_keyed Tryd.underlying3) Tryd.underlying46 Tryd.underlying3 (Tryd.zeroValue3 w) (Maps.keyOf_int_mk Tryd.underlying3 (wf64 hk))
  rw [h2 k] at q2
  simp only [DataW.lit.injEq, Lit.int.injEq, true_and] at q2
  rw [q1, q2]
theorem mp_put {w : World} {g n : Nat} {u : Int → Int} (h : MapIs w g n u) (hn : n < 1000000) {k v : Int} (hk : I64 k) (hv : I64 v) : ∃ w', (Instr.mapUpdate 46 (.map (some g)) (.int .i64 k) (.int .i64 v)).run Tryd.prog w = .ok () w' ∧ MapIs w' g (n + 1) (upd u k v) ∧ w.grownBy w' (some g) := by
  obtain ⟨D, h1, h2⟩ := h
  obtain ⟨w', q1, q2, q3⟩ := h1.update (t := 46) (Maps.int_keyed Tryd.underlying3) Tryd.underlying46 (by unfold maxLen; omega) (Maps.keyOf_int_mk Tryd.underlying3 (wf64 hk)) (plainElem_int Tryd.underlying3 (wf64 hv))
  refine ⟨w', q1, ⟨_, q2, fun x => ?_⟩, q3⟩
  unfold upd
  by_cases hx : x = k
  · subst hx
    rw [if_pos rfl]
    exact Maps.atKey_put_same h1.isMap (by simp [WideAt.IsKeyLit]) _ _
  · rw [if_neg hx, Maps.atKey_put_other (fun e => hx (by simpa using e))]
    exact h2 x
theorem mp_new (w : World) : MapIs (w.alloc (.map #[] 0)) w.heap.size 0 (fun _ => 0) := ⟨.map [], w.ownsMap_made _ _ _, fun k => rfl⟩
/-- A row of picks, as a fact. -/
def rfPs (b o : Nat) (ps : List Pk) : RF := ⟨fun b' => b' = b ∧ ps.length ≠ 0, fun w => PsAt w b o ps, fun w h b' hb => by
  obtain ⟨rfl, hl⟩ := hb
  exact World.block_lt_of_cell? w _ (h 0 (by omega)).1, fun w w' h hb j hj => by
  obtain ⟨h0, h1, h2, h3⟩ := h j hj
  have hk := hb b ⟨rfl, by omega⟩
  exact ⟨(World.cell?_of_block (a := ⟨b, o + j * 4, none⟩) hk).trans h0, (World.cell?_of_block (a := ⟨b, o + j * 4 + 1, none⟩) hk).trans h1, (World.cell?_of_block (a := ⟨b, o + j * 4 + 2, none⟩) hk).trans h2, (World.cell?_of_block (a := ⟨b, o + j * 4 + 3, none⟩) hk).trans h3⟩⟩
theorem ld_pk {w : World} {b o j : Nat} {ps : List Pk} (h : PsAt w b o ps) (hj : j < ps.length) : (loadVar 25 ⟨b, o + j * 4, none⟩).run Tryd.prog w = .ok (ps.getD j pk0).v w := by
  obtain ⟨h0, h1, h2, h3⟩ := h j hj
  refine run_loadVar_mid w b (o + j * 4) 25 [.int .i64 (ps.getD j pk0).k, .int .i64 (ps.getD j pk0).a, .int .i64 (ps.getD j pk0).b, .slice (ps.getD j pk0).s (ps.getD j pk0).c.length (ps.getD j pk0).cp] _ ?_ Tryd.underlying25 rfl (by kernel_rfl)
  intro i x hi
  match i, hi with
  | 0, hi => simp at hi; subst hi; exact h0
  | 1, hi => simp at hi; subst hi; exact h1
  | 2, hi => simp at hi; subst hi; exact h2
  | 3, hi => simp at hi; subst hi; exact h3
  | i + 4, hi => simp at hi
theorem right_2 {t : Int} {p : Pw} (h : rightB t p = true) (h1 : ¬p.k = 1) (h2 : p.k = 2) : 0 ≤ p.b ∧ p.b ≤ 1048576 := by
  unfold rightB at h
  rw [if_neg h1, if_pos h2] at h
  simp only [Bool.and_eq_true, decide_eq_true_eq] at h
  exact ⟨h.1.1.2, h.1.2⟩
theorem right_3 {t : Int} {p : Pw} (h : rightB t p = true) (h1 : ¬p.k = 1) (h2 : ¬p.k = 2) : p.k = 3 := by
  unfold rightB at h
  rw [if_neg h1, if_neg h2] at h
  by_cases h3 : p.k = 3
  · exact h3
  · rw [if_neg h3] at h
    cases h
def maxI (p q : Int) : Int := if p < q then q else p
/-- The plain form. -/
def plainK (t : Int) : (Int → Int) → Int → List Pk → List Pk
  | _, _, [] => []
  | u, n, p :: r => if rightB t p.w = true then
      (if p.k = 1 then (if n + 1 > u p.a then p :: plainK t u (n + 1) r else plainK t u (n + 1) r)
       else if p.k = 2 then plainK t (upd u p.a (maxI (u p.a) (n + 1 + p.b))) (n + 1) r
       else [p])
    else plainK t u n r
theorem plainK_len (t : Int) : ∀ (ps : List Pk) (u : Int → Int) (n : Int), (plainK t u n ps).length ≤ ps.length
  | [], u, n => Nat.le_refl _
  | p :: r, u, n => by
    unfold plainK
    split
    · split
      · split
        · have := plainK_len t r u (n + 1); simp only [List.length_cons]; omega
        · have := plainK_len t r u (n + 1); simp only [List.length_cons]; omega
      · split
        · have := plainK_len t r (upd u p.a (maxI (u p.a) (n + 1 + p.b))) (n + 1); simp only [List.length_cons]; omega
        · simp
    · have := plainK_len t r u n; simp only [List.length_cons]; omega
/-- What of a pick must be known. -/
def Pko (w : World) (p : Pk) : Prop := p.ok ∧ I64 p.a ∧ p.c.length ≤ 1000 ∧ IsAt w p.bl p.o p.c
noncomputable def plC : Cfg := ⟨goZ 60 [] [.code (bodyOf Tryd.f15)], ⟨0, [], []⟩⟩
noncomputable def plS (tt : Int) (v : Value) (mg : Nat) (n : Int) (a : Option Addr) (len cap j : Nat) : SS := ⟨59, [(0, .v (.int .i64 tt)), (5, .v v), (6, .v (.map (some mg))), (7, .v (.int .i64 n)), (11, .v (.slice a len cap)), (12, .v (.int .i64 (len : Int))), (13, .v (.int .i64 (j : Int)))], []⟩
set_option maxHeartbeats 8000000 in
theorem pl_e (w0 : World) (tt : Int) (a : Option Addr) (cap b off mg : Nat) (ps : List Pk) (ha : ps.length = 0 ∨ a = some ⟨b, off, none⟩) (hl : ps.length ≤ 10000) (hps : ∀ p ∈ ps, Pko w0 p) (hbn : ps.length = 0 ∨ b < w0.heap.size) (hmg : w0.heap.size ≤ mg) (m : Nat) (v : Value) (out : List Pk) (n : Int) (u : Int → Int) (mm : Nat) (hv : ∀ b, Value.ownBlock v = some b → b ≠ mg) (ho : out.length ≤ ps.length) (hn : 0 ≤ n ∧ n ≤ (ps.length : Nat)) (hm : mm ≤ ps.length) (hu : ∀ k, 0 ≤ u k ∧ u k ≤ 2000000) (hR : plainK tt (fun _ => 0) 0 ps = out ++ plainK tt u n (ps.drop (ps.length))) (aa : Act) (w : World) (S : Sy w0 [] [] (plS tt v mg n a ps.length cap (ps.length)) [rfPs b off ps, rfPc ps, rfOwn w0.heap.size 25 4 v (out).length (pkV (out)), rfMp mg (mm) (u)] aa w) : post Tryd.prog (.rnd (m + 1) (bodyL plC) :: plC.k.tail) (bodyPost Tryd.prog Tryd.f15 (fun e w' => (∃ v, e = .returned v ∧ w'.ownsRow w0.heap.size 25 4 v (plainK tt (fun _ => 0) 0 ps).length (pkV (plainK tt (fun _ => 0) 0 ps))) ∧ Below w0.heap.size w0 w')) .normal aa w := by
  have hR2 : plainK tt (fun _ => 0) 0 ps = out := by rw [hR, List.drop_length]; simp [plainK]
  refine sy_run (c := ⟨(.rnd (m + 1) (bodyL plC) :: plC.k.tail), plS tt v mg n a ps.length cap ps.length⟩) ⟨0, [5]⟩ 50 S fun bs aa w S => ?_
  refine sy_reg S fun S => ?_
  refine sy_ops 1 S fun bs aa w S => ?_
  refine sy_cast 14 S (congrArg Value.bool (decide_eq_false (by omega) : decide ((ps.length : Int) < (ps.length : Int)) = false)) (by kernel_rfl) fun S => ?_
  refine sy_run ⟨0, []⟩ 60 S fun bs aa w S => ?_
  have how := S.fact (f := rfOwn w0.heap.size 25 4 v (out).length (pkV (out))) (by simp)
  rw [hR2]
  exact sy_ret S (by kernel_rfl) (by kernel_rfl) fun hg => ⟨⟨v, rfl, how⟩, bel_gr hg⟩
theorem pl_drop {ps : List Pk} {j : Nat} (hj : j < ps.length) : ps.drop j = ps.getD j pk0 :: ps.drop (j + 1) := by
  rw [List.drop_eq_getElem_cons hj]
  simp [List.getD, List.getElem?_eq_getElem hj]
set_option maxHeartbeats 8000000 in
theorem pl_s (w0 : World) (tt : Int) (a : Option Addr) (cap b off mg : Nat) (ps : List Pk) (ha : ps.length = 0 ∨ a = some ⟨b, off, none⟩) (hl : ps.length ≤ 10000) (hps : ∀ p ∈ ps, Pko w0 p) (hbn : ps.length = 0 ∨ b < w0.heap.size) (hmg : w0.heap.size ≤ mg) (m j : Nat) (hj : j < ps.length) (v : Value) (out : List Pk) (n : Int) (u : Int → Int) (mm : Nat) (ih : ∀ (v : Value) (out : List Pk) (n : Int) (u : Int → Int) (mm : Nat) (hv : ∀ b, Value.ownBlock v = some b → b ≠ mg) (ho : out.length ≤ (j + 1)) (hn : 0 ≤ n ∧ n ≤ ((j + 1) : Nat)) (hm : mm ≤ (j + 1)) (hu : ∀ k, 0 ≤ u k ∧ u k ≤ 2000000) (hR : plainK tt (fun _ => 0) 0 ps = out ++ plainK tt u n (ps.drop ((j + 1)))) (aa : Act) (w : World) (S : Sy w0 [] [] (plS tt v mg n a ps.length cap (j + 1)) [rfPs b off ps, rfPc ps, rfOwn w0.heap.size 25 4 v (out).length (pkV (out)), rfMp mg (mm) (u)] aa w), post Tryd.prog (.rnd (m) (bodyL plC) :: plC.k.tail) (bodyPost Tryd.prog Tryd.f15 (fun e w' => (∃ v, e = .returned v ∧ w'.ownsRow w0.heap.size 25 4 v (plainK tt (fun _ => 0) 0 ps).length (pkV (plainK tt (fun _ => 0) 0 ps))) ∧ Below w0.heap.size w0 w')) .normal aa w) (hv : ∀ b, Value.ownBlock v = some b → b ≠ mg) (ho : out.length ≤ j) (hn : 0 ≤ n ∧ n ≤ (j : Nat)) (hm : mm ≤ j) (hu : ∀ k, 0 ≤ u k ∧ u k ≤ 2000000) (hR : plainK tt (fun _ => 0) 0 ps = out ++ plainK tt u n (ps.drop (j))) (aa : Act) (w : World) (S : Sy w0 [] [] (plS tt v mg n a ps.length cap (j)) [rfPs b off ps, rfPc ps, rfOwn w0.heap.size 25 4 v (out).length (pkV (out)), rfMp mg (mm) (u)] aa w) : post Tryd.prog (.rnd (m + 1) (bodyL plC) :: plC.k.tail) (bodyPost Tryd.prog Tryd.f15 (fun e w' => (∃ v, e = .returned v ∧ w'.ownsRow w0.heap.size 25 4 v (plainK tt (fun _ => 0) 0 ps).length (pkV (plainK tt (fun _ => 0) 0 ps))) ∧ Below w0.heap.size w0 w')) .normal aa w := by
  obtain ⟨ii, hi1, hi2, hi3, hi4⟩ := parts3 infPk
  rw [pl_drop hj] at hR
  have hmem := getD_mem ps j pk0 hj
  refine sy_run (c := ⟨(.rnd (m + 1) (bodyL plC) :: plC.k.tail), plS tt v mg n a ps.length cap j⟩) ⟨0, [5]⟩ 50 S fun bs aa w S => ?_
  refine sy_reg S fun S => ?_
  refine sy_ops 1 S fun bs aa w S => ?_
  refine sy_cast 14 S (congrArg Value.bool (decide_eq_true (by omega) : decide ((j : Int) < (ps.length : Int)) = true)) (by kernel_rfl) fun S => ?_
  refine sy_run ⟨0, [6]⟩ 60 S fun bs aa w S => ?_
  refine sy_reg S fun S => ?_
  refine sy_ix (b := b) (off := off) (len := ps.length) (n := j) (size := 4) (i := (j : Int)) S (by rw [← ha.resolve_left (by omega)]; kernel_rfl) rfl hj fun aa S => ?_
  have hld := ld_pk (S.fact (f := rfPs b off ps) (by simp)) hj
  generalize ps.getD j pk0 = pj at hR hmem hld
  obtain ⟨hok, hpa, hpc, hIs⟩ := hps pj hmem
  refine sy_ldo S (v := .agg #[.int .i64 pj.k, .int .i64 pj.a, .int .i64 pj.b, .slice pj.s pj.c.length pj.cp]) hld (by kernel_rfl) fun aa S => ?_
  refine sy_run ⟨0, [7]⟩ 60 S fun bs aa w S => ?_
  refine sy_reg S fun S => ?_
  refine sy_ops 2 S fun bs aa w S => ?_
  refine sy_nm S fun bs S => ?_
  have hrt := right_t w tt pj hok (by omega) ((S.fact (f := rfPc ps) (by simp)) pj hmem)
  cases hr : rightB tt pj.w with
  | false =>
    rw [hr] at hrt
    refine sy_call1 S hrt (by kernel_rfl) fun aa w hb S => ?_
    have hR2 : plainK tt (fun _ => 0) 0 ps = out ++ plainK tt u n (ps.drop (j + 1)) := by rw [hR, plainK, hr]; rfl
    refine sy_run ⟨0, [17]⟩ 60 S fun bs aa w S => ?_
    refine sy_reg S fun S => ?_
    refine sy_ops 1 S fun bs aa w S => ?_
    refine sy_cast 57 S (congrArg (Value.int .i64) (by rw [IntKind.wrap_i64]; omega : IntKind.i64.wrap ((j : Int) + 1) = ((j + 1 : Nat) : Int))) (by kernel_rfl) fun S => ?_
    refine sy_run ⟨0, [999]⟩ 50 S fun bs aa w S => ?_
    have S := S.sub (F' := [rfPs b off ps, rfPc ps, rfOwn w0.heap.size 25 4 v (out).length (pkV (out)), rfMp mg (mm) (u)]) (by intro f hf; simp only [List.mem_cons, List.not_mem_nil, or_false] at hf; rcases hf with rfl | rfl | rfl | rfl <;> simp)
    have S2 := S.to [] (plS tt v mg (n) a ps.length cap (j + 1)) (by kernel_rfl) (by kernel_rfl) (by kernel_rfl) (by kernel_rfl) (by kernel_rfl)
    refine sy_at2 (k' := (.rnd (m) (bodyL plC) :: plC.k.tail)) (by kernel_rfl) ?_
    exact ih v (out) (n) (u) (mm) hv (by omega) ⟨hn.1, by omega⟩ (by omega) hu hR2 aa w S2
  | true =>
    rw [hr] at hrt
    refine sy_call1 S hrt (by kernel_rfl) fun aa w hb S => ?_
    rw [plainK, hr, if_pos rfl] at hR
    refine sy_run ⟨0, [8]⟩ 60 S fun bs aa w S => ?_
    refine sy_reg S fun S => ?_
    refine sy_ops 2 S fun bs aa w S => ?_
    refine sy_cast 22 S (congrArg (Value.int .i64) (by rw [IntKind.wrap_i64]; omega : IntKind.i64.wrap (n + 1) = n + 1)) (by kernel_rfl) fun S => ?_
    refine sy_run ⟨0, [10]⟩ 60 S fun bs aa w S => ?_
    refine sy_reg S fun S => ?_
    refine sy_ops 1 S fun bs aa w S => ?_
    by_cases hk1 : pj.k = 1
    · rw [if_pos hk1] at hR
      refine sy_cast 26 S (congrArg Value.bool (decide_eq_true hk1 : decide (pj.k = 1) = true)) (by kernel_rfl) fun S => ?_
      refine sy_run ⟨0, [11]⟩ 60 S fun bs aa w S => ?_
      refine sy_reg S fun S => ?_
      refine sy_ops 4 S fun bs aa w S => ?_
      refine sy_exW (op := .lookup 46 (.tmp 28) (.tmp 30) false) (ty := 3) (v := .int .i64 (u pj.a)) S (by kernel_rfl) (fun o ρ h1 h2 h3 => by
        have e1 : ρ (.tmp 28) = .map (some mg) := h3 (.tmp 28) (.v (.map (some mg))) (by kernel_rfl)
        have e2 : ρ (.tmp 30) = .int .i64 pj.a := h3 (.tmp 30) (.v (.int .i64 pj.a)) (by kernel_rfl)
        have h4 := mp_look (S.fact (f := rfMp mg mm u) (by simp)) hpa
        unfold execOp
        simp only [h1, e1, e2, Sem.run_bind, Sem.run_pure, Result.andThen_ok, h4]) fun aa S => ?_
      by_cases hgt : n + 1 > u pj.a
      · rw [if_pos hgt] at hR
        refine sy_ops 1 S fun bs aa w S => ?_
        refine sy_cast 32 S (congrArg Value.bool (decide_eq_true hgt : decide (n + 1 > u pj.a) = true)) (by kernel_rfl) fun S => ?_
        refine sy_run ⟨0, [12]⟩ 60 S fun bs aa w S => ?_
        refine sy_reg S fun S => ?_
        refine sy_ops 3 S fun bs aa w S => ?_
        refine sy_nm S fun bs S => ?_
        have how : w.ownsRow w0.heap.size 25 4 v out.length (pkV out) := S.fact (f := rfOwn w0.heap.size 25 4 v (out).length (pkV (out))) (by simp)
        have hap := (S.fs (rfOwn w0.heap.size 25 4 v (out).length (pkV (out))) (by simp)).2
        have hblk : ∀ j, j < bs.length → bs.getD j 0 < w.heap.size := fun j hj => S.lt hj
        have hml : mg < w.heap.size := (rfMp mg mm u).lt w (S.fact (f := rfMp mg mm u) (by simp)) mg rfl
        refine sy_appO w0.heap.size (u := .v v) (y := .s 1 0 1 1) (v := v) (ad := adr bs 1 0) (m := 1) (cp := 1) (n := out.length) (size := 4) (bytes := 48) (e := 25) (t := 22) (xs := pkV out) (news := [.int .i64 pj.k, .int .i64 pj.a, .int .i64 pj.b, .slice pj.s pj.c.length pj.cp]) [rfPs b off ps, rfPc ps, rfMp mg mm u] S (by kernel_rfl) Tryd.underlying22 hi1 hi2 hi3 hi4 rfl (by omega) rfl rfl how S.gr.size (own3 (P := Tryd.prog) (ty := 25) (cs := [.int .i64 pj.k, .int .i64 pj.a, .int .i64 pj.b, .slice pj.s pj.c.length pj.cp]) S 1 (by kernel_rfl)) rfl (by intro u hu; simp only [List.mem_cons, List.not_mem_nil, or_false] at hu; rcases hu with rfl | rfl | rfl | rfl <;> rfl) (by simp only [maxLen]; omega) (by omega)
          (fun g hg => Or.inr (how.lt g hg).1) (fun f hf => ⟨by simp only [List.mem_cons, List.not_mem_nil, or_false] at hf ⊢; rcases hf with rfl | rfl | rfl <;> simp, fun b2 hb => by
            have h9 := (how.lt b2 hb).1
            simp only [List.mem_cons, List.not_mem_nil, or_false] at hf
            rcases hf with rfl | rfl | rfl
            · intro hbl
              have h1 : b2 = b := hbl.1
              have h2 := hbn.resolve_left hbl.2
              omega
            · rintro ⟨p2, hp2, h1, h2⟩
              have := isAt_lt (hps p2 hp2).2.2.2 h2
              omega
            · exact hv b2 hb⟩) (fun j hj hb => hap j hj hb)
          fun v' aa w2 hO hg' hnn S => ?_
        have S := S.add (rfOwn w0.heap.size 25 4 v' (out ++ [pj]).length (pkV (out ++ [pj]))) (by show World.ownsRow _ _ _ _ _ _ _; rw [pkV_snoc, List.length_append]; exact hO) (fun j hj hb => (hnn _ hb).elim (fun q => hap j hj q) (fun q => by have := hblk j hj; omega))
        refine sy_run ⟨0, [17]⟩ 60 S fun bs aa w S => ?_
        refine sy_reg S fun S => ?_
        refine sy_ops 1 S fun bs aa w S => ?_
        refine sy_cast 57 S (congrArg (Value.int .i64) (by rw [IntKind.wrap_i64]; omega : IntKind.i64.wrap ((j : Int) + 1) = ((j + 1 : Nat) : Int))) (by kernel_rfl) fun S => ?_
        refine sy_run ⟨0, [999]⟩ 50 S fun bs aa w S => ?_
        have S := S.sub (F' := [rfPs b off ps, rfPc ps, rfOwn w0.heap.size 25 4 v' (out ++ [pj]).length (pkV (out ++ [pj])), rfMp mg (mm) (u)]) (by intro f hf; simp only [List.mem_cons, List.not_mem_nil, or_false] at hf; rcases hf with rfl | rfl | rfl | rfl <;> simp)
        have S2 := S.to [] (plS tt v' mg (n + 1) a ps.length cap (j + 1)) (by kernel_rfl) (by kernel_rfl) (by kernel_rfl) (by kernel_rfl) (by kernel_rfl)
        refine sy_at2 (k' := (.rnd (m) (bodyL plC) :: plC.k.tail)) (by kernel_rfl) ?_
        exact ih v' (out ++ [pj]) (n + 1) (u) (mm) (fun b hb => (hnn b hb).elim (fun q => hv b q) (fun q => by omega)) (by simp; omega) ⟨by omega, by omega⟩ (by omega) hu (by rw [hR]; simp) aa w S2
      · rw [if_neg hgt] at hR
        refine sy_ops 1 S fun bs aa w S => ?_
        refine sy_cast 32 S (congrArg Value.bool (decide_eq_false hgt : decide (n + 1 > u pj.a) = false)) (by kernel_rfl) fun S => ?_
        refine sy_run ⟨0, [17]⟩ 60 S fun bs aa w S => ?_
        refine sy_reg S fun S => ?_
        refine sy_ops 1 S fun bs aa w S => ?_
        refine sy_cast 57 S (congrArg (Value.int .i64) (by rw [IntKind.wrap_i64]; omega : IntKind.i64.wrap ((j : Int) + 1) = ((j + 1 : Nat) : Int))) (by kernel_rfl) fun S => ?_
        refine sy_run ⟨0, [999]⟩ 50 S fun bs aa w S => ?_
        have S := S.sub (F' := [rfPs b off ps, rfPc ps, rfOwn w0.heap.size 25 4 v (out).length (pkV (out)), rfMp mg (mm) (u)]) (by intro f hf; simp only [List.mem_cons, List.not_mem_nil, or_false] at hf; rcases hf with rfl | rfl | rfl | rfl <;> simp)
        have S2 := S.to [] (plS tt v mg (n + 1) a ps.length cap (j + 1)) (by kernel_rfl) (by kernel_rfl) (by kernel_rfl) (by kernel_rfl) (by kernel_rfl)
        refine sy_at2 (k' := (.rnd (m) (bodyL plC) :: plC.k.tail)) (by kernel_rfl) ?_
        exact ih v (out) (n + 1) (u) (mm) hv (by omega) ⟨by omega, by omega⟩ (by omega) hu hR aa w S2
    · rw [if_neg hk1] at hR
      refine sy_cast 26 S (congrArg Value.bool (decide_eq_false hk1 : decide (pj.k = 1) = false)) (by kernel_rfl) fun S => ?_
      refine sy_run ⟨0, [13]⟩ 60 S fun bs aa w S => ?_
      refine sy_reg S fun S => ?_
      refine sy_ops 1 S fun bs aa w S => ?_
      by_cases hk2 : pj.k = 2
      · rw [if_pos hk2] at hR
        have hb2 : 0 ≤ pj.b ∧ pj.b ≤ 1048576 := by
          have h := hr
          exact right_2 h hk1 hk2
        have hua := hu pj.a
        refine sy_cast 38 S (congrArg Value.bool (decide_eq_true hk2 : decide (pj.k = 2) = true)) (by kernel_rfl) fun S => ?_
        refine sy_run ⟨0, [14]⟩ 60 S fun bs aa w S => ?_
        refine sy_reg S fun S => ?_
        refine sy_ops 6 S fun bs aa w S => ?_
        refine sy_exW (op := .lookup 46 (.tmp 42) (.tmp 44) false) (ty := 3) (v := .int .i64 (u pj.a)) S (by kernel_rfl) (fun o ρ h1 h2 h3 => by
          have e1 : ρ (.tmp 42) = .map (some mg) := h3 (.tmp 42) (.v (.map (some mg))) (by kernel_rfl)
          have e2 : ρ (.tmp 44) = .int .i64 pj.a := h3 (.tmp 44) (.v (.int .i64 pj.a)) (by kernel_rfl)
          have h4 := mp_look (S.fact (f := rfMp mg mm u) (by simp)) hpa
          unfold execOp
          simp only [h1, e1, e2, Sem.run_bind, Sem.run_pure, Result.andThen_ok, h4]) fun aa S => ?_
        refine sy_ops 4 S fun bs aa w S => ?_
        refine sy_cast 49 S (congrArg (Value.int .i64) (by rw [IntKind.wrap_i64]; omega : IntKind.i64.wrap (n + 1 + pj.b) = n + 1 + pj.b)) (by kernel_rfl) fun S => ?_
        refine sy_ex (op := .call { callee := .builtin .max, args := #[.tmp 45, .tmp 49], argTypes := #[3, 3] }) (ty := 3) (v := .int .i64 (maxI (u pj.a) (n + 1 + pj.b))) S (by kernel_rfl) (ex_max (p := u pj.a) (q := n + 1 + pj.b) (by kernel_rfl) (by kernel_rfl) rfl) fun aa S => ?_
        have hmx : 0 ≤ maxI (u pj.a) (n + 1 + pj.b) ∧ maxI (u pj.a) (n + 1 + pj.b) ≤ 2000000 := by unfold maxI; split <;> omega
        refine sy_nm S fun bs S => ?_
        have how : w.ownsRow w0.heap.size 25 4 v out.length (pkV out) := S.fact (f := rfOwn w0.heap.size 25 4 v (out).length (pkV (out))) (by simp)
        have hmp := S.fact (f := rfMp mg mm u) (by simp)
        have hmo := (S.fs (rfMp mg mm u) (by simp)).2
        refine sy_mup (op := .mapUpdate 46 (.tmp 39) (.tmp 41) (.tmp 50)) (ty := 0) (.slice (some ⟨mg, 0, none⟩) 0 0) [rfPs b off ps, rfPc ps, rfOwn w0.heap.size 25 4 v (out).length (pkV (out))] (C := fun w' => MapIs w' mg (mm + 1) (upd u pj.a (maxI (u pj.a) (n + 1 + pj.b)))) S (by kernel_rfl) (fun o ρ h1 h2 h3 => by
          have e1 : ρ (.tmp 39) = .map (some mg) := h3 (.tmp 39) (.v (.map (some mg))) (by kernel_rfl)
          have e2 : ρ (.tmp 41) = .int .i64 pj.a := h3 (.tmp 41) (.v (.int .i64 pj.a)) (by kernel_rfl)
          have e3 : ρ (.tmp 50) = .int .i64 (maxI (u pj.a) (n + 1 + pj.b)) := h3 (.tmp 50) (.v (.int .i64 (maxI (u pj.a) (n + 1 + pj.b)))) (by kernel_rfl)
          obtain ⟨w', q1, q2, q3⟩ := mp_put hmp (by omega) hpa (v := maxI (u pj.a) (n + 1 + pj.b)) (by unfold I64; omega)
          refine ⟨w', ?_, q2, q3⟩
          unfold execOp
          simp only [h1, e1, e2, e3, Sem.run_bind, Sem.run_pure, Result.andThen_ok, q1]) (fun g hg => by simp only [Value.ownBlock, Option.some.injEq] at hg; subst hg; exact Or.inr hmg) (fun f hf => ⟨by simp only [List.mem_cons, List.not_mem_nil, or_false] at hf ⊢; rcases hf with rfl | rfl | rfl <;> simp, fun g hg => by
            simp only [Value.ownBlock, Option.some.injEq] at hg
            subst hg
            simp only [List.mem_cons, List.not_mem_nil, or_false] at hf
            rcases hf with rfl | rfl | rfl
            · intro hbl
              have h1 : mg = b := hbl.1
              have h2 := hbn.resolve_left hbl.2
              omega
            · rintro ⟨p2, hp2, h1, h2⟩
              have := isAt_lt (hps p2 hp2).2.2.2 h2
              omega
            · intro hbl
              exact hv mg hbl rfl⟩) (fun i hi hb => by simp only [Value.ownBlock, Option.some.injEq] at hb; exact hmo i hi hb.symm) fun aa w2 hC S => ?_
        have S := S.add (rfMp mg (mm + 1) (upd u pj.a (maxI (u pj.a) (n + 1 + pj.b)))) hC (fun i hi hb => hmo i hi hb)
        refine sy_run ⟨0, [17]⟩ 60 S fun bs aa w S => ?_
        refine sy_reg S fun S => ?_
        refine sy_ops 1 S fun bs aa w S => ?_
        refine sy_cast 57 S (congrArg (Value.int .i64) (by rw [IntKind.wrap_i64]; omega : IntKind.i64.wrap ((j : Int) + 1) = ((j + 1 : Nat) : Int))) (by kernel_rfl) fun S => ?_
        refine sy_run ⟨0, [999]⟩ 50 S fun bs aa w S => ?_
        have S := S.sub (F' := [rfPs b off ps, rfPc ps, rfOwn w0.heap.size 25 4 v (out).length (pkV (out)), rfMp mg (mm + 1) (upd u pj.a (maxI (u pj.a) (n + 1 + pj.b)))]) (by intro f hf; simp only [List.mem_cons, List.not_mem_nil, or_false] at hf; rcases hf with rfl | rfl | rfl | rfl <;> simp)
        have S2 := S.to [] (plS tt v mg (n + 1) a ps.length cap (j + 1)) (by kernel_rfl) (by kernel_rfl) (by kernel_rfl) (by kernel_rfl) (by kernel_rfl)
        refine sy_at2 (k' := (.rnd (m) (bodyL plC) :: plC.k.tail)) (by kernel_rfl) ?_
        exact ih v (out) (n + 1) (upd u pj.a (maxI (u pj.a) (n + 1 + pj.b))) (mm + 1) hv (by omega) ⟨by omega, by omega⟩ (by omega) (fun k => by unfold upd; split; exact hmx; exact hu k) hR aa w S2
      · rw [if_neg hk2] at hR
        have hk3 : pj.k = 3 := by
          have h := hr
          exact right_3 h hk1 hk2
        refine sy_cast 38 S (congrArg Value.bool (decide_eq_false hk2 : decide (pj.k = 2) = false)) (by kernel_rfl) fun S => ?_
        refine sy_run ⟨0, [15]⟩ 60 S fun bs aa w S => ?_
        refine sy_reg S fun S => ?_
        refine sy_ops 1 S fun bs aa w S => ?_
        refine sy_cast 52 S (congrArg Value.bool (decide_eq_true hk3 : decide (pj.k = 3) = true)) (by kernel_rfl) fun S => ?_
        refine sy_run ⟨0, [16]⟩ 60 S fun bs aa w S => ?_
        refine sy_reg S fun S => ?_
        refine sy_ops 3 S fun bs aa w S => ?_
        refine sy_nm S fun bs S => ?_
        have how : w.ownsRow w0.heap.size 25 4 v out.length (pkV out) := S.fact (f := rfOwn w0.heap.size 25 4 v (out).length (pkV (out))) (by simp)
        have hap := (S.fs (rfOwn w0.heap.size 25 4 v (out).length (pkV (out))) (by simp)).2
        have hblk : ∀ j, j < bs.length → bs.getD j 0 < w.heap.size := fun j hj => S.lt hj
        have hml : mg < w.heap.size := (rfMp mg mm u).lt w (S.fact (f := rfMp mg mm u) (by simp)) mg rfl
        refine sy_appO w0.heap.size (u := .v v) (y := .s 1 0 1 1) (v := v) (ad := adr bs 1 0) (m := 1) (cp := 1) (n := out.length) (size := 4) (bytes := 48) (e := 25) (t := 22) (xs := pkV out) (news := [.int .i64 pj.k, .int .i64 pj.a, .int .i64 pj.b, .slice pj.s pj.c.length pj.cp]) [rfPs b off ps, rfPc ps, rfMp mg mm u] S (by kernel_rfl) Tryd.underlying22 hi1 hi2 hi3 hi4 rfl (by omega) rfl rfl how S.gr.size (own3 (P := Tryd.prog) (ty := 25) (cs := [.int .i64 pj.k, .int .i64 pj.a, .int .i64 pj.b, .slice pj.s pj.c.length pj.cp]) S 1 (by kernel_rfl)) rfl (by intro u hu; simp only [List.mem_cons, List.not_mem_nil, or_false] at hu; rcases hu with rfl | rfl | rfl | rfl <;> rfl) (by simp only [maxLen]; omega) (by omega)
          (fun g hg => Or.inr (how.lt g hg).1) (fun f hf => ⟨by simp only [List.mem_cons, List.not_mem_nil, or_false] at hf ⊢; rcases hf with rfl | rfl | rfl <;> simp, fun b2 hb => by
            have h9 := (how.lt b2 hb).1
            simp only [List.mem_cons, List.not_mem_nil, or_false] at hf
            rcases hf with rfl | rfl | rfl
            · intro hbl
              have h1 : b2 = b := hbl.1
              have h2 := hbn.resolve_left hbl.2
              omega
            · rintro ⟨p2, hp2, h1, h2⟩
              have := isAt_lt (hps p2 hp2).2.2.2 h2
              omega
            · exact hv b2 hb⟩) (fun j hj hb => hap j hj hb)
          fun v' aa w2 hO hg' hnn S => ?_
        have S := S.add (rfOwn w0.heap.size 25 4 v' (out ++ [pj]).length (pkV (out ++ [pj]))) (by show World.ownsRow _ _ _ _ _ _ _; rw [pkV_snoc, List.length_append]; exact hO) (fun j hj hb => (hnn _ hb).elim (fun q => hap j hj q) (fun q => by have := hblk j hj; omega))
        refine sy_run ⟨0, []⟩ 60 S fun bs aa w S => ?_
        have how2 := S.fact (f := rfOwn w0.heap.size 25 4 v' (out ++ [pj]).length (pkV (out ++ [pj]))) (by simp)
        rw [hR]
        exact sy_ret S (by kernel_rfl) (by kernel_rfl) fun hg => ⟨⟨v', rfl, how2⟩, bel_gr hg⟩
theorem pl_a (w0 : World) (tt : Int) (a : Option Addr) (cap b off mg : Nat) (ps : List Pk) (ha : ps.length = 0 ∨ a = some ⟨b, off, none⟩) (hl : ps.length ≤ 10000) (hps : ∀ p ∈ ps, Pko w0 p) (hbn : ps.length = 0 ∨ b < w0.heap.size) (hmg : w0.heap.size ≤ mg) : ∀ (m j : Nat), j + m = ps.length → ∀ (v : Value) (out : List Pk) (n : Int) (u : Int → Int) (mm : Nat) (hv : ∀ b, Value.ownBlock v = some b → b ≠ mg) (ho : out.length ≤ j) (hn : 0 ≤ n ∧ n ≤ (j : Nat)) (hm : mm ≤ j) (hu : ∀ k, 0 ≤ u k ∧ u k ≤ 2000000) (hR : plainK tt (fun _ => 0) 0 ps = out ++ plainK tt u n (ps.drop (j))) (aa : Act) (w : World) (S : Sy w0 [] [] (plS tt v mg n a ps.length cap (j)) [rfPs b off ps, rfPc ps, rfOwn w0.heap.size 25 4 v (out).length (pkV (out)), rfMp mg (mm) (u)] aa w), post Tryd.prog (.rnd (m + 1) (bodyL plC) :: plC.k.tail) (bodyPost Tryd.prog Tryd.f15 (fun e w' => (∃ v, e = .returned v ∧ w'.ownsRow w0.heap.size 25 4 v (plainK tt (fun _ => 0) 0 ps).length (pkV (plainK tt (fun _ => 0) 0 ps))) ∧ Below w0.heap.size w0 w')) .normal aa w := by
  intro m
  induction m with
  | zero =>
    intro j hj v out n u mm hv ho hn hm hu hR aa w S
    obtain rfl : j = ps.length := by omega
    exact pl_e w0 tt a cap b off mg ps ha hl hps hbn hmg 0 v out n u mm hv ho hn hm hu hR aa w S
  | succ m ih => intro j hj v out n u mm hv ho hn hm hu hR aa w S; exact pl_s w0 tt a cap b off mg ps ha hl hps hbn hmg (m + 1) j (by omega) v out n u mm (fun v out n u mm hv ho hn hm hu hR aa w S => ih (j + 1) (by omega) v out n u mm hv ho hn hm hu hR aa w S) hv ho hn hm hu hR aa w S
set_option maxHeartbeats 8000000 in
theorem plain_t (w0 : World) (tt : Int) (a : Option Addr) (cap b off : Nat) (ps : List Pk) (ha : ps.length = 0 ∨ a = some ⟨b, off, none⟩) (hl : ps.length ≤ 10000) (hps : ∀ p ∈ ps, Pko w0 p) (hAt : PsAt w0 b off ps) : Calls Tryd.prog 15 #[.int .i64 tt, .slice a ps.length cap] w0 (fun e w' => (∃ v, e = .returned v ∧ w'.ownsRow w0.heap.size 25 4 v (plainK tt (fun _ => 0) 0 ps).length (pkV (plainK tt (fun _ => 0) 0 ps))) ∧ Below w0.heap.size w0 w') := by
  have hbn : ps.length = 0 ∨ b < w0.heap.size := by
    rcases Nat.eq_zero_or_pos ps.length with h | h
    · exact Or.inl h
    · exact Or.inr ((rfPs b off ps).lt w0 hAt b ⟨rfl, by omega⟩)
  refine sy_enterF [] [rfPs b off ps, rfPc ps] (by intro f hf; simp only [List.mem_cons, List.not_mem_nil, or_false] at hf; rcases hf with rfl | rfl; exact hAt; exact fun p hp => (hps p hp).2.2.2) Tryd.func15 rfl rfl fun aa S => ?_
  refine sy_run ⟨0, [2]⟩ 60 S fun bs aa w S => ?_
  refine sy_reg S fun S => ?_
  refine sy_nm S fun bs S => ?_
  have hbl0 : ∀ j, j < bs.length → bs.getD j 0 < w.heap.size := fun j hj => S.lt hj
  have hsz := S.gr.size
  obtain ⟨mg, hmgd⟩ : ∃ mg, mg = w.heap.size := ⟨_, rfl⟩
  refine sy_exB (op := .makeMap 46 none) (ty := 46) (C := fun v w' => v = .map (some mg) ∧ MapIs w' mg 0 (fun _ => 0)) S (by kernel_rfl) (fun o ρ h1 h2 h3 => by
    subst hmgd
    refine ⟨.map (some w.heap.size), w.alloc (.map #[] 0), ?_, ⟨rfl, mp_new w⟩, (Below.refl _ _).alloc (Nat.le_refl _) _⟩
    unfold execOp
    simp only [h1, Option.map_none, Sem.run_bind, Sem.run_pure, Result.andThen_ok, run_makeMap]) fun v aa w2 hC hb S => ?_
  obtain ⟨rfl, hmp⟩ := hC
  have S := S.add (rfOwn w0.heap.size 25 4 (.slice none 0 0) (([] : List Pk)).length (pkV (([] : List Pk)))) (own_nilP _ _) (fun i hi hbl => by cases hbl)
  have S := S.add (rfMp mg 0 (fun _ => 0)) hmp (fun i hi hb => by
    have h1 : _ = mg := hb
    have h2 := hbl0 i hi
    omega)
  refine sy_run ⟨0, []⟩ 60 S fun bs aa w S => ?_
  have S := S.sub (F' := [rfPs b off ps, rfPc ps, rfOwn w0.heap.size 25 4 (.slice none 0 0) (([] : List Pk)).length (pkV (([] : List Pk))), rfMp mg 0 (fun _ => 0)]) (by intro f hf; simp only [List.mem_cons, List.not_mem_nil, or_false] at hf; rcases hf with rfl | rfl | rfl | rfl <;> simp)
  have S2 := S.to [] (plS tt (.slice none 0 0) mg 0 a ps.length cap 0) (by kernel_rfl) (by kernel_rfl) (by kernel_rfl) (by kernel_rfl) (by kernel_rfl)
  refine sy_loop (ps.length + 1) (by kernel_rfl) ?_
  refine sy_at2 (k' := (.rnd (ps.length + 1) (bodyL plC) :: plC.k.tail)) (by kernel_rfl) ?_
  exact pl_a w0 tt a cap b off mg ps ha hl hps hbn (by omega) ps.length 0 (by omega) (.slice none 0 0) [] 0 (fun _ => 0) 0 (fun b hb => by cases hb) (Nat.le_refl _) ⟨Int.le_refl _, by simp⟩ (Nat.le_refl _) (fun k => ⟨Int.le_refl _, by omega⟩) (by rw [List.drop_zero]; rfl) aa _ S2
end Go.Proofs.YtfkmcibglaiakaaDoor
