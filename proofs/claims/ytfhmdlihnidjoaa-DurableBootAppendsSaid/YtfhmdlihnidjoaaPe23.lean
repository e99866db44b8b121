/-
  Merged: Bp0, Bp1, Bp2, Bp3, Bp4, Bp5, Bp6, Bp7, Bp8, Bp9
-/
import Derived.Test.YtfhmdlihnidjoaaRows
import Derived.Test.YtfhmdlihnidjoaaPe2
import Derived.Test.YtfhmdlihnidjoaaPe22
import Derived.Test.YtfhmdlihnidjoaaPe14
import Derived.WalkKit
import Derived.Great.BuildSlice
import Derived.Test.YtfhmdlihnidjoaaPe17
import Derived.Test.YtfhmdlihnidjoaaPe13
import Derived.Test.YtfhmdlihnidjoaaPe21
namespace Go.Proofs.Ytfhmdlihnidjoaa
set_option linter.unusedVariables false
set_option linter.unusedSectionVars false
set_option linter.unusedSimpArgs false
set_option maxRecDepth 100000
set_option maxHeartbeats 8000000
open Go Go.RowKit SZ
attribute [local irreducible] post GD Nxt Qaf
def QlH (b k : Nat) : Bool := decide (b / 2 ^ k % 2 = 1)
def wsE (i b : Nat) : Nat → Ws
  | 0 => []
  | k + 1 => wsE i b k ++ if QlH b k then [((k : Int), ((1000000 * i + 7 * k : Nat) : Int) - 50)] else []
def Qd_ (i b : Nat) : Int × Ws := (((2 * i + 1 + b / 128 : Nat) : Int), wsE i b 5)
def Qbr (l : List Nat) (n : Nat) : List (Int × Ws) := (List.range n).map fun i => Qd_ i (l.getD i 0)
theorem QcT (l : List Nat) (n : Nat) : Qbr l (n + 1) = Qbr l n ++ [Qd_ n (l.getD n 0)] := by simp [Qbr, List.range_succ]
theorem QcE (l : List Nat) (n : Nat) : (Qbr l n).length = n := by simp [Qbr]
theorem QdI (i b : Nat) : ∀ k, (wsE i b k).length ≤ k
  | 0 => Nat.le_refl _
  | k + 1 => by
    have := QdI i b k
    unfold wsE
    rw [List.length_append]
    split <;> simp <;> omega
theorem Qh5 (i b : Nat) (hi : i ≤ 1000) : ∀ k, k ≤ 1000 → ∀ p ∈ wsE i b k, I64 p.1 ∧ I64 p.2
  | 0, _, p, hp => by cases hp
  | k + 1, hk, p, hp => by
    unfold wsE at hp
    rcases List.mem_append.1 hp with hp | hp
    · exact Qh5 i b hi k (by omega) p hp
    · split at hp
      · obtain rfl := List.mem_singleton.1 hp
        unfold I64
        simp only
        omega
      · cases hp
theorem QjN (i b : Nat) (hi : i ≤ 1000) (hb : b ≤ 1000) : Qdd ((2 * i + 1 + b / 128 : Nat) : Int) (wsE i b 5) := ⟨by unfold I64; omega, Qh5 i b hi 5 (by omega)⟩
def pwL : List Nat := [1, 2, 4, 8, 16]
theorem pw_at : ∀ k, k < 5 → pwL.getD k 0 = 2 ^ k
  | 0, _ => rfl
  | 1, _ => rfl
  | 2, _ => rfl
  | 3, _ => rfl
  | 4, _ => rfl
  | k + 5, h => by omega
theorem ex_bs5 {s : SS} {bs : List Nat} {w : World} {ty : TypeId} :
    ∀ (o : Oper) (ρ : Operand → Value), o.op = .buildSlice 48 5 #[(0, .const (.int .u8 1)), (1, .const (.int .u8 2)), (2, .const (.int .u8 4)), (3, .const (.int .u8 8)), (4, .const (.int .u8 16))] → o.type = ty → (∀ x y, s.val x = some y → ρ x = den bs y) → ∃ v w', (execOp ρ o).run Try.prog w = .ok (.value v) w' ∧ (∃ g, v = .slice (some ⟨g, 0, none⟩) 5 5 ∧ g = w.heap.size ∧ ByAt w' g 0 pwL) ∧ Below w.heap.size w w' := by
  intro o ρ h1 h2 h3
  have hI : (Try.prog.info? 5).map (fun i => (i.zero, i.size, i.bytes)) = some (some (.int .u8 0), 1, 1) := by kernel_rfl
  obtain ⟨ii, hii, hz, hsz, hby⟩ := QcB hI
  have hr : (Instr.buildSlice 48 5 #[(0, .int .u8 1), (1, .int .u8 2), (2, .int .u8 4), (3, .int .u8 8), (4, .int .u8 16)]).run Try.prog w = .ok (.slice (some ⟨w.heap.size, 0, none⟩) 5 5) (w.alloc (.cells #[.int .u8 1, .int .u8 2, .int .u8 4, .int .u8 8, .int .u8 16] 5)) := by
    refine run_buildSlice w 48 5 5 _ _ ii (.int .u8 0) Try.underlying48 hii hz (by rw [hsz]; decide) (by rw [hsz]; decide) ?_
    rw [hsz]
    kernel_rfl
  have c : ∀ v, ρ (.const v) = v := fun v => h3 (.const v) (.v v) rfl
  refine ⟨.slice (some ⟨w.heap.size, 0, none⟩) 5 5, w.alloc (.cells #[.int .u8 1, .int .u8 2, .int .u8 4, .int .u8 8, .int .u8 16] 5), ?_, ⟨_, rfl, rfl, fun j hj => ?_⟩, (Below.refl _ _).alloc (Nat.le_refl _) _⟩
  · unfold execOp
    simp only [h1, List.map_toArray, List.map_cons, List.map_nil, c, Sem.run_bind, Sem.run_pure, Result.andThen_ok, hr]
  · rw [Nat.zero_add]
    refine QdG (heap_alloc_new w _) ?_
    have hj5 : j < 5 := hj
    match j, hj5 with
    | 0, _ => rfl
    | 1, _ => rfl
    | 2, _ => rfl
    | 3, _ => rfl
    | 4, _ => rfl
theorem ex_quo {s : SS} {bs : List Nat} {x y : Operand} {t t' ty : TypeId} {ki : IntKind} {p q r : Int} (hx : s.val x = some (.v (.int ki p))) (hy : s.val y = some (.v (.int ki q))) (hq : q ≠ 0) (hr : ki.wrap (Int.tdiv p q) = r) :
    ∀ (o : Oper) (ρ : Operand → Value) (W : World), o.op = .binOp .quo t x y t' → o.type = ty → (∀ x y, s.val x = some y → ρ x = den bs y) → (execOp ρ o).run Try.prog W = .ok (.value (.int ki r)) W := by
  intro o ρ W h1 h2 h3
  have e1 : ρ x = .int ki p := h3 x _ hx
  have e2 : ρ y = .int ki q := h3 y _ hy
  subst hr
  unfold execOp
  simp only [h1, e1, e2, eqGuard, binOp_quo, Op.intDiv, if_neg hq, Sem.run_bind, Sem.run_pure, Result.andThen_ok]
  rfl
noncomputable def enC : Cfg := ⟨goZ 200 [] [.code (QaQ Try.f17)], ⟨0, [], []⟩⟩
noncomputable def enJ (m : Nat) : Cfg := ⟨goZ 200 [1] (.code (Qa_ enC) :: .rnd m (Qa_ enC) :: enC.k.tail), ⟨0, [], []⟩⟩
noncomputable def enS (la : Option Addr) (n lc : Nat) (ov : Value) (i : Nat) : SS := ⟨57, [(0, .v (.slice la n lc)), (3, .v ov), (4, .v (.int .i64 (i : Int)))], []⟩
noncomputable def QjF (la : Option Addr) (n lc : Nat) (ov : Value) (i k : Nat) (ver : Int) (wv : Value) : SS := ⟨57, [(0, .v (.slice la n lc)), (3, .v ov), (4, .v (.int .i64 (i : Int))), (5, .p 0 0), (6, .v (.int .i64 (k : Int)))], [⟨60, [.int .i64 ver, wv]⟩]⟩
theorem wsV_app (a : Ws) (p : Int × Int) : wsV (a ++ [p]) = wsV a ++ [.int .i64 p.1, .int .i64 p.2] := by simp [wsV]
def enP (w0 : World) (L : List (Int × Ws)) (y : Ending) (w' : World) : Prop := ∃ z : Er, y = .returned z.v ∧ recQ (L, 0) w0.heap.size z w' ∧ (∀ e ∈ z.l, Qdd e.ver e.ws) ∧ Below w0.heap.size w0 w'
section
variable (w0 : World) (l : List Nat) (hl8 : l.length ≤ 8) (h256 : ∀ b ∈ l, b < 256) (la : Option Addr) (lc lb lo : Nat) (hla : l.length = 0 ∨ la = some ⟨lb, lo, none⟩) (m i : Nat) (hi : i < l.length) (es : List Et) (ov : Value) (hes : ∀ e ∈ es, e.ok ∧ Qdd e.ver e.ws ∧ (e.ws.length = 0 ∨ w0.heap.size ≤ e.b)) (hep : (es).map prE = Qbr l (i)) (hap : (∀ f ∈ [Qc_ lb lo l, QaL (es)], ∀ g, Value.ownBlock ov = some g → ¬f.bl g)) (ih : ∀ (es : List Et) (ov : Value) (hes : ∀ e ∈ es, e.ok ∧ Qdd e.ver e.ws ∧ (e.ws.length = 0 ∨ w0.heap.size ≤ e.b)) (hep : (es).map prE = Qbr l (i + 1)) (hap : (∀ f ∈ [Qc_ lb lo l, QaL (es)], ∀ g, Value.ownBlock ov = some g → ¬f.bl g)) (aa : Act) (w : World) (S : Sy w0 [] [] (enS la l.length lc ov (i + 1)) [Qc_ lb lo l, QaL (es), Qaa w0.heap.size 60 2 ov (es).length (esV (es))] aa w), post Try.prog (.rnd (m) (Qa_ enC) :: enC.k.tail) (bodyPost Try.prog Try.f17 (enP w0 (Qbr l l.length))) .normal aa w)
include w0 l hl8 h256 la lc lb lo hla m i hi es ov hes hep hap ih
theorem en_5 (q : Nat) (wv : Value) (hap2 : (∀ f ∈ [Qc_ lb lo l, QaL es, Qaa w0.heap.size 60 2 ov (es).length (esV (es))], ∀ g, Value.ownBlock wv = some g → ¬f.bl g)) (x0 : Nat) (aa : Act) (w : World) (S : Sy w0 [] [x0] (QjF la l.length lc ov i 5 ((2 * i + 1 + (l.getD i 0) / 128 : Nat) : Int) wv) [Qc_ lb lo l, QaL es, Qaa w0.heap.size 60 2 ov (es).length (esV (es)), Qaa w0.heap.size 42 2 wv (wsE i (l.getD i 0) (5)).length (wsV (wsE i (l.getD i 0) (5)))] aa w) : post Try.prog (.rnd (q + 1) (Qa_ (enJ m)) :: (enJ m).k.tail) (bodyPost Try.prog Try.f17 (enP w0 (Qbr l l.length))) .normal aa w := by
  obtain ⟨ii, hi1, hi2, hi3, hi4⟩ := QcB enI
  have hlen5 := QdI i (l.getD i 0) 5
  have hel : es.length = i := by have := congrArg List.length hep; rw [List.length_map, QcE] at this; exact this
  have hb := h256 _ (QbZ l i 0 hi)
  obtain ⟨a, c, b, o, rfl, hw1, hw2, hw3⟩ := Qds (S.fact (f := Qaa w0.heap.size 42 2 wv (wsE i (l.getD i 0) (5)).length (wsV (wsE i (l.getD i 0) (5)))) (by simp))
  refine Qaw (c := ⟨(.rnd (q + 1) (Qa_ (enJ m)) :: (enJ m).k.tail), QjF la l.length lc ov i 5 ((2 * i + 1 + (l.getD i 0) / 128 : Nat) : Int) (.slice a (wsE i (l.getD i 0) 5).length c)⟩) 11 50 3 S fun bs aa w S => ?_
  refine Qbc S fun bs S => ?_
  obtain ⟨e, he⟩ : ∃ e : Et, e = ⟨((2 * i + 1 + (l.getD i 0) / 128 : Nat) : Int), a, c, b, o, wsE i (l.getD i 0) 5⟩ := ⟨_, rfl⟩
  have how := S.fact (f := Qaa w0.heap.size 60 2 ov (es).length (esV (es))) (by simp)
  have hapb := (S.fs (Qaa w0.heap.size 60 2 ov (es).length (esV (es))) (by simp)).2
  have hblk2 : ∀ j, j < bs.length → bs.getD j 0 < w.heap.size := fun j hj => S.lt hj
  have hWf := S.fact (f := Qaa w0.heap.size 42 2 (.slice a (wsE i (l.getD i 0) 5).length c) (wsE i (l.getD i 0) (5)).length (wsV (wsE i (l.getD i 0) (5)))) (by simp)
  have hWa := (S.fs (Qaa w0.heap.size 42 2 (.slice a (wsE i (l.getD i 0) 5).length c) (wsE i (l.getD i 0) (5)).length (wsV (wsE i (l.getD i 0) (5)))) (by simp)).2
  obtain ⟨a2, c2, b2, o2, hv2, hx1, hx2, hx3⟩ := Qds hWf
  have hwat : QdC w b o (wsE i (l.getD i 0) 5) := by
    intro j hj
    have ea : a = some ⟨b, o, none⟩ := hw1.resolve_left (by omega)
    have eb : a2 = some ⟨b2, o2, none⟩ := hx1.resolve_left (by omega)
    simp only [Value.slice.injEq] at hv2
    rw [ea, eb] at hv2
    simp only [Option.some.injEq, Addr.mk.injEq] at hv2
    obtain ⟨⟨h1, h2, _⟩, _⟩ := hv2
    rw [h1, h2]
    exact hx2 j hj
  have hFP : ∀ f ∈ [Qc_ lb lo l, QaL es], f.P w := fun f hf => (S.fs f (by simp only [List.mem_cons, List.not_mem_nil, or_false] at hf ⊢; rcases hf with rfl | rfl <;> simp)).1
  have hnw : ∀ g, Value.ownBlock ov = some g → (wsE i (l.getD i 0) 5).length ≠ 0 → b ≠ g := fun g hg hne e1 => by
    refine hap2 (Qaa w0.heap.size 60 2 ov (es).length (esV (es))) (by simp) g ?_ hg
    rw [hw1.resolve_left hne, ← e1]
    rfl
  have S := S.add (QaH b o (wsE i (l.getD i 0) 5)) hwat (fun j hj hb => hWa j hj (by rw [hw1.resolve_left hb.2, hb.1]; rfl))
  have hFP3 : ∀ f ∈ [QaH b o (wsE i (l.getD i 0) 5), Qc_ lb lo l, QaL es], f.P w := fun f hf => by
    rcases List.mem_cons.1 hf with rfl | hf
    · exact hwat
    · exact hFP f hf
  have hap3 : ∀ f ∈ [QaH b o (wsE i (l.getD i 0) 5), Qc_ lb lo l, QaL es], ∀ g, ov.ownBlock = some g → ¬f.bl g := by
    intro f hf g hg hb
    rcases List.mem_cons.1 hf with rfl | hf
    · exact hnw g hg hb.2 hb.1.symm
    · exact hap f hf g hg hb
  refine QcY w0.heap.size (u := .v ov) (y := .s 1 0 1 1) (v := ov) (ad := adr bs 1 0) (m := 1) (cp := 1) (n := es.length) (size := 2) (bytes := 32) (e := 60) (t := 38) (xs := esV es) (news := [.int .i64 ((2 * i + 1 + (l.getD i 0) / 128 : Nat) : Int), .slice a (wsE i (l.getD i 0) 5).length c]) [QaH b o (wsE i (l.getD i 0) 5), Qc_ lb lo l, QaL es] S (by kernel_rfl) Try.underlying38 hi1 hi2 hi3 hi4 rfl (by omega) rfl rfl how S.gr.size (QjD (P := Try.prog) (ty := 60) (cs := [.int .i64 ((2 * i + 1 + (l.getD i 0) / 128 : Nat) : Int), .slice a (wsE i (l.getD i 0) 5).length c]) S 1 (by kernel_rfl)) rfl (by intro u hu; simp only [List.mem_cons, List.not_mem_nil, or_false] at hu; rcases hu with rfl | rfl <;> rfl) (by simp only [maxLen]; omega) (by omega)
    (fun g hg => Or.inr (how.lt g hg).1) (fun f hf => ⟨by simp only [List.mem_cons, List.not_mem_nil, or_false] at hf ⊢; rcases hf with rfl | rfl | rfl <;> simp, hap3 f hf⟩) (fun j hj hb => hapb j hj hb)
    fun v' aa w2 hO hg' hnn S => ?_
  have hap4 := ap_ny hFP3 hap3 hnn
  have S := S.add (Qaa w0.heap.size 60 2 v' (es ++ [e]).length (esV (es ++ [e]))) (by rw [QiJ, List.length_append, he]; exact hO) (fun j hj hb => (hnn _ hb).elim (fun q => hapb j hj q) (fun q => by have := hblk2 j hj; omega))
  have hq1 := S.fact (f := QaH b o (wsE i (l.getD i 0) 5)) (by simp)
  have hq2 := S.fact (f := QaL es) (by simp)
  have ha1 := (S.fs (QaH b o (wsE i (l.getD i 0) 5)) (by simp)).2
  have ha2 := (S.fs (QaL es) (by simp)).2
  have S := S.add (QaL (es ++ [e])) (by
    intro q hq
    rcases List.mem_append.1 hq with hq | hq
    · exact hq2 q hq
    · obtain rfl := List.mem_singleton.1 hq
      rw [he]
      exact hq1) (fun j hj hb => by
    obtain ⟨q, hq, q1, q2⟩ := hb
    rcases List.mem_append.1 hq with hq | hq
    · exact ha2 j hj ⟨q, hq, q1, q2⟩
    · obtain rfl := List.mem_singleton.1 hq
      rw [he] at q1 q2
      exact ha1 j hj ⟨q1, q2⟩)
  have hap5 : (∀ f ∈ [Qc_ lb lo l, QaL (es ++ [e])], ∀ g, Value.ownBlock v' = some g → ¬f.bl g) := by
    intro f hf g hg hb
    simp only [List.mem_cons, List.not_mem_nil, or_false] at hf
    rcases hf with rfl | rfl
    · exact hap4 _ (by simp) g hg hb
    · obtain ⟨q, hq, q1, q2⟩ := hb
      rcases List.mem_append.1 hq with hq | hq
      · exact hap4 (QaL es) (by simp) g hg ⟨q, hq, q1, q2⟩
      · obtain rfl := List.mem_singleton.1 hq
        rw [he] at q1 q2
        exact hap4 (QaH b o (wsE i (l.getD i 0) 5)) (by simp) g hg ⟨q1, q2⟩
  refine Qaw 4 60 2 S fun bs aa w S => ?_
  refine QaK 12 S (by rw [IntKind.wrap_i64]; omega : IntKind.i64.wrap ((i : Int) + 1) = ((i + 1 : Nat) : Int)) fun S => ?_
  refine Qan ⟨0, [999]⟩ 50 S fun bs aa w S => ?_
  have S := S.sub (F' := [Qc_ lb lo l, QaL (es ++ [e]), Qaa w0.heap.size 60 2 v' (es ++ [e]).length (esV (es ++ [e]))]) (by intro f hf; simp only [List.mem_cons, List.not_mem_nil, or_false] at hf; rcases hf with rfl | rfl | rfl <;> simp)
  have S2 := S.to [] (enS la l.length lc v' (i + 1)) (by kernel_rfl) (by kernel_rfl) (by kernel_rfl) (by kernel_rfl) (by kernel_rfl)
  refine Qak (k' := (.rnd (m) (Qa_ enC) :: enC.k.tail)) (by kernel_rfl) ?_
  refine ih (es ++ [e]) v' (by
    intro q hq
    rcases List.mem_append.1 hq with hq | hq
    · exact hes q hq
    · obtain rfl := List.mem_singleton.1 hq
      rw [he]
      exact ⟨hw1, QjN i (l.getD i 0) (by omega) (by omega), hw3⟩) (by rw [List.map_append, hep, QcT, he]; rfl) hap5 aa w S2
theorem en_n (q k : Nat) (hk : k < 5) (hbit : QlH (l.getD i 0) k = false) (ihk : ∀ (wv : Value) (hap2 : (∀ f ∈ [Qc_ lb lo l, QaL es, Qaa w0.heap.size 60 2 ov (es).length (esV (es))], ∀ g, Value.ownBlock wv = some g → ¬f.bl g)) (x0 : Nat) (aa : Act) (w : World) (S : Sy w0 [] [x0] (QjF la l.length lc ov i (k + 1) ((2 * i + 1 + (l.getD i 0) / 128 : Nat) : Int) wv) [Qc_ lb lo l, QaL es, Qaa w0.heap.size 60 2 ov (es).length (esV (es)), Qaa w0.heap.size 42 2 wv (wsE i (l.getD i 0) ((k + 1))).length (wsV (wsE i (l.getD i 0) ((k + 1))))] aa w), post Try.prog (.rnd (q) (Qa_ (enJ m)) :: (enJ m).k.tail) (bodyPost Try.prog Try.f17 (enP w0 (Qbr l l.length))) .normal aa w) (wv : Value) (hap2 : (∀ f ∈ [Qc_ lb lo l, QaL es, Qaa w0.heap.size 60 2 ov (es).length (esV (es))], ∀ g, Value.ownBlock wv = some g → ¬f.bl g)) (x0 : Nat) (aa : Act) (w : World) (S : Sy w0 [] [x0] (QjF la l.length lc ov i k ((2 * i + 1 + (l.getD i 0) / 128 : Nat) : Int) wv) [Qc_ lb lo l, QaL es, Qaa w0.heap.size 60 2 ov (es).length (esV (es)), Qaa w0.heap.size 42 2 wv (wsE i (l.getD i 0) (k)).length (wsV (wsE i (l.getD i 0) (k)))] aa w) : post Try.prog (.rnd (q + 1) (Qa_ (enJ m)) :: (enJ m).k.tail) (bodyPost Try.prog Try.f17 (enP w0 (Qbr l l.length))) .normal aa w := by
  have hw : wsE i (l.getD i 0) (k + 1) = wsE i (l.getD i 0) k := by
    conv => lhs; unfold wsE
    rw [hbit]
    simp
  have hbt : decide (Int.tmod (((l.getD i 0) / 2 ^ k : Nat) : Int) 2 = 1) = false := hbit.symm ▸ decide_eq_decide.2 (by rw [show Int.tmod (((l.getD i 0) / 2 ^ k : Nat) : Int) 2 = (((l.getD i 0) / 2 ^ k % 2 : Nat) : Int) from rfl]; omega)
  have hb := h256 _ (QbZ l i 0 hi)
  have hpw := pw_at k hk
  have hquo : IntKind.u8.wrap (Int.tdiv (((l.getD i 0) : Nat) : Int) (((pwL.getD k 0) : Nat) : Int)) = (((l.getD i 0) / 2 ^ k : Nat) : Int) := by
    rw [hpw, show Int.tdiv (((l.getD i 0) : Nat) : Int) ((2 ^ k : Nat) : Int) = (((l.getD i 0) / 2 ^ k : Nat) : Int) from rfl]
    have hle := Nat.div_le_self (l.getD i 0) (2 ^ k)
    generalize (l.getD i 0) / 2 ^ k = qq at hle ⊢
    rw [IntKind.wrap_u8]; omega
  have hel : es.length = i := by have := congrArg List.length hep; rw [List.length_map, QcE] at this; exact this
  have hlenk := QdI i (l.getD i 0) k
  refine Qaw (c := ⟨(.rnd (q + 1) (Qa_ (enJ m)) :: (enJ m).k.tail), QjF la l.length lc ov i k ((2 * i + 1 + (l.getD i 0) / 128 : Nat) : Int) wv⟩) 7 60 2 S fun bs aa w S => ?_
  refine Qad 25 S (decide_eq_true (by omega) : decide ((k : Int) < 5) = true) fun S => ?_
  refine Qah S fun bs aa w S => ?_
  letI : KP := ⟨[36]⟩
  letI : HF := ⟨[Qc_ lb lo l]⟩
  refine QaF [0] (by kernel_rfl) (by kernel_rfl) S (by kernel_rfl) (fun aa w D => ?_) (fun f hf => by have e1 : f = Qc_ lb lo l := List.mem_singleton.1 hf; subst e1; simp)
  refine Qbf 2 D (by kernel_rfl) (by kernel_rfl) (by kernel_rfl) (b := lb) (off := lo) (len := l.length) (n := i) (size := 1) (ix := (i : Int)) (by rw [← hla.resolve_left (by omega)]; kernel_rfl) rfl hi fun aa D => ?_
  refine QbE 3 D (by kernel_rfl) (by kernel_rfl) (by kernel_rfl) (ty := 5) (ad := ⟨lb, lo + i * 1, none⟩) (v := .int .u8 (((l.getD i 0) : Nat) : Int)) (fun W hW => QbG (by kernel_rfl) (by rw [Nat.mul_one]; exact (show ByAt W lb lo l from hW (Qc_ lb lo l) (by show _ ∈ [Qc_ lb lo l]; simp)) i hi)) (by kernel_rfl) fun aa D => ?_
  refine Qac [4] (by kernel_rfl) (by kernel_rfl) rfl (na1 ?_)
  refine QdD 4 (ty := 48) D (by kernel_rfl) (by kernel_rfl) ex_bs5 fun v0 aa w hC0 hb0 hlt0 D => ?_
  obtain ⟨gp, rfl, hgp, hBp⟩ := hC0
  have D := D.addF (Qc_ gp 0 pwL) hBp (fun j hj hb => by
    have h1 := hlt0 j hj
    have h2 := hb.1
    omega)
  refine Qbf 6 D (by kernel_rfl) (by kernel_rfl) (by kernel_rfl) (b := gp) (off := 0) (len := 5) (n := k) (size := 1) (ix := (k : Int)) (by kernel_rfl) rfl hk fun aa D => ?_
  refine Qac [7] (by kernel_rfl) (by kernel_rfl) rfl (na1 ?_)
  refine nx_ld 7 D (by kernel_rfl) (QbG (ty := 5) (b := gp) (off := 0 + k * 1) (by kernel_rfl) (by rw [Nat.mul_one]; exact D.S.fact (f := Qc_ gp 0 pwL) (by simp) k hk)) (by kernel_rfl) fun aa D => ?_
  refine Qcs (fun d v c a w h => by cases d <;> exact h) 8 (op := .binOp .quo 5 (.tmp 31) (.tmp 35) 5) (ty := 5) (v := .int .u8 (((l.getD i 0) / 2 ^ k : Nat) : Int)) D (by kernel_rfl) (by kernel_rfl) (by kernel_rfl) (by kernel_rfl) (ex_quo (ki := .u8) (p := (((l.getD i 0) : Nat) : Int)) (q := (((pwL.getD k 0) : Nat) : Int)) (by kernel_rfl) (by kernel_rfl) (by rw [hpw]; have := Nat.two_pow_pos k; omega) hquo) fun aa D => ?_
  refine QaO D (by kernel_rfl) fun S => ?_
  refine Qad 38 S hbt fun S => ?_
  refine Qaw 8 60 2 S fun bs aa w S => ?_
  refine QaK 27 S (by rw [IntKind.wrap_i64]; omega : IntKind.i64.wrap ((k : Int) + 1) = ((k + 1 : Nat) : Int)) fun S => ?_
  refine Qan ⟨0, [999]⟩ 50 S fun bs aa w S => ?_
  rw [← hw] at S
  have S := S.sub (F' := [Qc_ lb lo l, QaL es, Qaa w0.heap.size 60 2 ov (es).length (esV (es)), Qaa w0.heap.size 42 2 wv (wsE i (l.getD i 0) (k + 1)).length (wsV (wsE i (l.getD i 0) (k + 1)))]) (by intro f hf; simp only [List.mem_cons, List.not_mem_nil, or_false] at hf; rcases hf with rfl | rfl | rfl | rfl <;> simp)
  have S2 := S.to [0] (QjF la l.length lc ov i (k + 1) ((2 * i + 1 + (l.getD i 0) / 128 : Nat) : Int) wv) (by kernel_rfl) (by kernel_rfl) (by kernel_rfl) (by kernel_rfl) (by kernel_rfl)
  refine Qak (k' := (.rnd (q) (Qa_ (enJ m)) :: (enJ m).k.tail)) (by kernel_rfl) ?_
  exact ihk wv hap2 _ aa w S2
theorem en_y (q k : Nat) (hk : k < 5) (hbit : QlH (l.getD i 0) k = true) (ihk : ∀ (wv : Value) (hap2 : (∀ f ∈ [Qc_ lb lo l, QaL es, Qaa w0.heap.size 60 2 ov (es).length (esV (es))], ∀ g, Value.ownBlock wv = some g → ¬f.bl g)) (x0 : Nat) (aa : Act) (w : World) (S : Sy w0 [] [x0] (QjF la l.length lc ov i (k + 1) ((2 * i + 1 + (l.getD i 0) / 128 : Nat) : Int) wv) [Qc_ lb lo l, QaL es, Qaa w0.heap.size 60 2 ov (es).length (esV (es)), Qaa w0.heap.size 42 2 wv (wsE i (l.getD i 0) ((k + 1))).length (wsV (wsE i (l.getD i 0) ((k + 1))))] aa w), post Try.prog (.rnd (q) (Qa_ (enJ m)) :: (enJ m).k.tail) (bodyPost Try.prog Try.f17 (enP w0 (Qbr l l.length))) .normal aa w) (wv : Value) (hap2 : (∀ f ∈ [Qc_ lb lo l, QaL es, Qaa w0.heap.size 60 2 ov (es).length (esV (es))], ∀ g, Value.ownBlock wv = some g → ¬f.bl g)) (x0 : Nat) (aa : Act) (w : World) (S : Sy w0 [] [x0] (QjF la l.length lc ov i k ((2 * i + 1 + (l.getD i 0) / 128 : Nat) : Int) wv) [Qc_ lb lo l, QaL es, Qaa w0.heap.size 60 2 ov (es).length (esV (es)), Qaa w0.heap.size 42 2 wv (wsE i (l.getD i 0) (k)).length (wsV (wsE i (l.getD i 0) (k)))] aa w) : post Try.prog (.rnd (q + 1) (Qa_ (enJ m)) :: (enJ m).k.tail) (bodyPost Try.prog Try.f17 (enP w0 (Qbr l l.length))) .normal aa w := by
  obtain ⟨ii, hi1, hi2, hi3, hi4⟩ := QcB wrI
  have hw : wsE i (l.getD i 0) (k + 1) = wsE i (l.getD i 0) k ++ [((k : Int), ((1000000 * i + 7 * k : Nat) : Int) - 50)] := by
    conv => lhs; unfold wsE
    rw [hbit]
    rfl
  have hbt : decide (Int.tmod (((l.getD i 0) / 2 ^ k : Nat) : Int) 2 = 1) = true := hbit.symm ▸ decide_eq_decide.2 (by rw [show Int.tmod (((l.getD i 0) / 2 ^ k : Nat) : Int) 2 = (((l.getD i 0) / 2 ^ k % 2 : Nat) : Int) from rfl]; omega)
  have hb := h256 _ (QbZ l i 0 hi)
  have hpw := pw_at k hk
  have hquo : IntKind.u8.wrap (Int.tdiv (((l.getD i 0) : Nat) : Int) (((pwL.getD k 0) : Nat) : Int)) = (((l.getD i 0) / 2 ^ k : Nat) : Int) := by
    rw [hpw, show Int.tdiv (((l.getD i 0) : Nat) : Int) ((2 ^ k : Nat) : Int) = (((l.getD i 0) / 2 ^ k : Nat) : Int) from rfl]
    have hle := Nat.div_le_self (l.getD i 0) (2 ^ k)
    generalize (l.getD i 0) / 2 ^ k = qq at hle ⊢
    rw [IntKind.wrap_u8]; omega
  have hel : es.length = i := by have := congrArg List.length hep; rw [List.length_map, QcE] at this; exact this
  have hlenk := QdI i (l.getD i 0) k
  refine Qaw (c := ⟨(.rnd (q + 1) (Qa_ (enJ m)) :: (enJ m).k.tail), QjF la l.length lc ov i k ((2 * i + 1 + (l.getD i 0) / 128 : Nat) : Int) wv⟩) 7 60 2 S fun bs aa w S => ?_
  refine Qad 25 S (decide_eq_true (by omega) : decide ((k : Int) < 5) = true) fun S => ?_
  refine Qah S fun bs aa w S => ?_
  letI : KP := ⟨[36]⟩
  letI : HF := ⟨[Qc_ lb lo l]⟩
  refine QaF [0] (by kernel_rfl) (by kernel_rfl) S (by kernel_rfl) (fun aa w D => ?_) (fun f hf => by have e1 : f = Qc_ lb lo l := List.mem_singleton.1 hf; subst e1; simp)
  refine Qbf 2 D (by kernel_rfl) (by kernel_rfl) (by kernel_rfl) (b := lb) (off := lo) (len := l.length) (n := i) (size := 1) (ix := (i : Int)) (by rw [← hla.resolve_left (by omega)]; kernel_rfl) rfl hi fun aa D => ?_
  refine QbE 3 D (by kernel_rfl) (by kernel_rfl) (by kernel_rfl) (ty := 5) (ad := ⟨lb, lo + i * 1, none⟩) (v := .int .u8 (((l.getD i 0) : Nat) : Int)) (fun W hW => QbG (by kernel_rfl) (by rw [Nat.mul_one]; exact (show ByAt W lb lo l from hW (Qc_ lb lo l) (by show _ ∈ [Qc_ lb lo l]; simp)) i hi)) (by kernel_rfl) fun aa D => ?_
  refine Qac [4] (by kernel_rfl) (by kernel_rfl) rfl (na1 ?_)
  refine QdD 4 (ty := 48) D (by kernel_rfl) (by kernel_rfl) ex_bs5 fun v0 aa w hC0 hb0 hlt0 D => ?_
  obtain ⟨gp, rfl, hgp, hBp⟩ := hC0
  have D := D.addF (Qc_ gp 0 pwL) hBp (fun j hj hb => by
    have h1 := hlt0 j hj
    have h2 := hb.1
    omega)
  refine Qbf 6 D (by kernel_rfl) (by kernel_rfl) (by kernel_rfl) (b := gp) (off := 0) (len := 5) (n := k) (size := 1) (ix := (k : Int)) (by kernel_rfl) rfl hk fun aa D => ?_
  refine Qac [7] (by kernel_rfl) (by kernel_rfl) rfl (na1 ?_)
  refine nx_ld 7 D (by kernel_rfl) (QbG (ty := 5) (b := gp) (off := 0 + k * 1) (by kernel_rfl) (by rw [Nat.mul_one]; exact D.S.fact (f := Qc_ gp 0 pwL) (by simp) k hk)) (by kernel_rfl) fun aa D => ?_
  refine Qcs (fun d v c a w h => by cases d <;> exact h) 8 (op := .binOp .quo 5 (.tmp 31) (.tmp 35) 5) (ty := 5) (v := .int .u8 (((l.getD i 0) / 2 ^ k : Nat) : Int)) D (by kernel_rfl) (by kernel_rfl) (by kernel_rfl) (by kernel_rfl) (ex_quo (ki := .u8) (p := (((l.getD i 0) : Nat) : Int)) (q := (((pwL.getD k 0) : Nat) : Int)) (by kernel_rfl) (by kernel_rfl) (by rw [hpw]; have := Nat.two_pow_pos k; omega) hquo) fun aa D => ?_
  refine QaO D (by kernel_rfl) fun S => ?_
  refine Qad 38 S hbt fun S => ?_
  refine Qaw 10 60 5 S fun bs aa w S => ?_
  refine QaK 43 S (by rw [IntKind.wrap_i64]; omega : IntKind.i64.wrap (1000000 * (i : Int)) = ((1000000 * i : Nat) : Int)) fun S => ?_
  refine Qao 2 S fun bs aa w S => ?_
  refine QaK 45 S (by rw [IntKind.wrap_i64]; omega : IntKind.i64.wrap (7 * (k : Int)) = ((7 * k : Nat) : Int)) fun S => ?_
  refine Qao 1 S fun bs aa w S => ?_
  refine QaK 46 S (by rw [IntKind.wrap_i64]; omega : IntKind.i64.wrap (((1000000 * i : Nat) : Int) + ((7 * k : Nat) : Int)) = ((1000000 * i + 7 * k : Nat) : Int)) fun S => ?_
  refine Qao 1 S fun bs aa w S => ?_
  refine QaK 47 S (by rw [IntKind.wrap_i64]; omega : IntKind.i64.wrap (((1000000 * i + 7 * k : Nat) : Int) - 50) = (((1000000 * i + 7 * k : Nat) : Int) - 50)) fun S => ?_
  refine Qao 2 S fun bs aa w S => ?_
  refine Qbc S fun bs S => ?_
  have how := S.fact (f := Qaa w0.heap.size 42 2 wv (wsE i (l.getD i 0) (k)).length (wsV (wsE i (l.getD i 0) (k)))) (by simp)
  have hapb := (S.fs (Qaa w0.heap.size 42 2 wv (wsE i (l.getD i 0) (k)).length (wsV (wsE i (l.getD i 0) (k)))) (by simp)).2
  have hblk : ∀ j, j < bs.length → bs.getD j 0 < w.heap.size := fun j hj => S.lt hj
  have hFP : ∀ f ∈ [Qc_ lb lo l, QaL es, Qaa w0.heap.size 60 2 ov (es).length (esV (es))], f.P w := fun f hf => (S.fs f (by simp only [List.mem_cons, List.not_mem_nil, or_false] at hf ⊢; rcases hf with rfl | rfl | rfl <;> simp)).1
  refine QcY w0.heap.size (u := .v wv) (y := .s 1 0 1 1) (v := wv) (ad := adr bs 1 0) (m := 1) (cp := 1) (n := (wsE i (l.getD i 0) k).length) (size := 2) (bytes := 16) (e := 42) (t := 58) (xs := wsV (wsE i (l.getD i 0) k)) (news := [.int .i64 (k : Int), .int .i64 (((1000000 * i + 7 * k : Nat) : Int) - 50)]) [Qc_ lb lo l, QaL es, Qaa w0.heap.size 60 2 ov (es).length (esV (es))] S (by kernel_rfl) Try.underlying58 hi1 hi2 hi3 hi4 rfl (by omega) rfl rfl how S.gr.size (QjD (P := Try.prog) (ty := 42) (cs := [.int .i64 (k : Int), .int .i64 (((1000000 * i + 7 * k : Nat) : Int) - 50)]) S 1 (by kernel_rfl)) rfl (by intro u hu; simp only [List.mem_cons, List.not_mem_nil, or_false] at hu; rcases hu with rfl | rfl <;> rfl) (by simp only [maxLen]; omega) (by omega)
    (fun g hg => Or.inr (how.lt g hg).1) (fun f hf => ⟨by simp only [List.mem_cons, List.not_mem_nil, or_false] at hf ⊢; rcases hf with rfl | rfl | rfl <;> simp, hap2 f hf⟩) (fun j hj hb => hapb j hj hb)
    fun wv' aa w2 hO hg' hnn S => ?_
  have hap3 := ap_ny hFP hap2 hnn
  have S := S.add (Qaa w0.heap.size 42 2 wv' (wsE i (l.getD i 0) (k + 1)).length (wsV (wsE i (l.getD i 0) (k + 1)))) (by rw [hw, wsV_app, List.length_append]; exact hO) (fun j hj hb => (hnn _ hb).elim (fun q => hapb j hj q) (fun q => by have := hblk j hj; omega))
  obtain ⟨na, nc, nb, no, hnv, _⟩ := Qds (S.fact (f := Qaa w0.heap.size 42 2 wv' (wsE i (l.getD i 0) (k + 1)).length (wsV (wsE i (l.getD i 0) (k + 1)))) (by simp))
  subst hnv
  refine Qaw 8 60 2 S fun bs aa w S => ?_
  refine QaK 27 S (by rw [IntKind.wrap_i64]; omega : IntKind.i64.wrap ((k : Int) + 1) = ((k + 1 : Nat) : Int)) fun S => ?_
  refine Qan ⟨0, [999]⟩ 50 S fun bs aa w S => ?_
  have S := S.sub (F' := [Qc_ lb lo l, QaL es, Qaa w0.heap.size 60 2 ov (es).length (esV (es)), Qaa w0.heap.size 42 2 (.slice na (wsE i (l.getD i 0) (k + 1)).length nc) (wsE i (l.getD i 0) (k + 1)).length (wsV (wsE i (l.getD i 0) (k + 1)))]) (by intro f hf; simp only [List.mem_cons, List.not_mem_nil, or_false] at hf; rcases hf with rfl | rfl | rfl | rfl <;> simp)
  have S2 := S.to [0] (QjF la l.length lc ov i (k + 1) ((2 * i + 1 + (l.getD i 0) / 128 : Nat) : Int) (.slice na (wsE i (l.getD i 0) (k + 1)).length nc)) (by kernel_rfl) (by kernel_rfl) (by kernel_rfl) (by kernel_rfl) (by kernel_rfl)
  refine Qak (k' := (.rnd (q) (Qa_ (enJ m)) :: (enJ m).k.tail)) (by kernel_rfl) ?_
  exact ihk (.slice na (wsE i (l.getD i 0) (k + 1)).length nc) hap3 _ aa w S2
theorem en_i : ∀ (q k : Nat), k + q = 5 → ∀ (wv : Value) (hap2 : (∀ f ∈ [Qc_ lb lo l, QaL es, Qaa w0.heap.size 60 2 ov (es).length (esV (es))], ∀ g, Value.ownBlock wv = some g → ¬f.bl g)) (x0 : Nat) (aa : Act) (w : World) (S : Sy w0 [] [x0] (QjF la l.length lc ov i k ((2 * i + 1 + (l.getD i 0) / 128 : Nat) : Int) wv) [Qc_ lb lo l, QaL es, Qaa w0.heap.size 60 2 ov (es).length (esV (es)), Qaa w0.heap.size 42 2 wv (wsE i (l.getD i 0) (k)).length (wsV (wsE i (l.getD i 0) (k)))] aa w), post Try.prog (.rnd (q + 1) (Qa_ (enJ m)) :: (enJ m).k.tail) (bodyPost Try.prog Try.f17 (enP w0 (Qbr l l.length))) .normal aa w := by
  intro q
  induction q with
  | zero => intro k hk wv hap2 x0 aa w S; obtain rfl : k = 5 := by omega
            exact en_5 w0 l hl8 h256 la lc lb lo hla m i hi es ov hes hep hap ih 0 wv hap2 x0 aa w S
  | succ q ihq =>
    intro k hk wv hap2 x0 aa w S
    rcases Bool.eq_false_or_eq_true (QlH (l.getD i 0) k) with h | h
    · exact en_y w0 l hl8 h256 la lc lb lo hla m i hi es ov hes hep hap ih (q + 1) k (by omega) h (fun wv hap2 => ihq (k + 1) (by omega) wv hap2) wv hap2 x0 aa w S
    · exact en_n w0 l hl8 h256 la lc lb lo hla m i hi es ov hes hep hap ih (q + 1) k (by omega) h (fun wv hap2 => ihq (k + 1) (by omega) wv hap2) wv hap2 x0 aa w S
theorem en_s (aa : Act) (w : World) (S : Sy w0 [] [] (enS la l.length lc ov (i)) [Qc_ lb lo l, QaL (es), Qaa w0.heap.size 60 2 ov (es).length (esV (es))] aa w) : post Try.prog (.rnd (m + 1) (Qa_ enC) :: enC.k.tail) (bodyPost Try.prog Try.f17 (enP w0 (Qbr l l.length))) .normal aa w := by
  have hb := h256 _ (QbZ l i 0 hi)
  refine Qaw (c := ⟨(.rnd (m + 1) (Qa_ enC) :: enC.k.tail), enS la l.length lc ov i⟩) 3 50 4 S fun bs aa w S => ?_
  refine Qad 10 S (decide_eq_true (by omega) : decide ((i : Int) < (l.length : Int)) = true) fun S => ?_
  refine Qaw 5 60 2 S fun bs aa w S => ?_
  refine QaK 14 S (by rw [IntKind.wrap_i64]; omega : IntKind.i64.wrap (2 * (i : Int)) = ((2 * i : Nat) : Int)) fun S => ?_
  refine Qao 1 S fun bs aa w S => ?_
  refine QaK 15 S (by rw [IntKind.wrap_i64]; omega : IntKind.i64.wrap (((2 * i : Nat) : Int) + 1) = ((2 * i + 1 : Nat) : Int)) fun S => ?_
  refine Qao 2 S fun bs aa w S => ?_
  refine Qde (b := lb) (off := lo) (len := l.length) (n := i) (size := 1) (i := (i : Int)) S (by rw [← hla.resolve_left (by omega)]; kernel_rfl) rfl hi fun aa S => ?_
  refine Qcz S (QbG (ty := 5) (b := lb) (off := lo + i * 1) (by kernel_rfl) (by rw [Nat.mul_one]; exact S.fact (f := Qc_ lb lo l) (by simp) i hi)) (by kernel_rfl) fun aa S => ?_
  refine Qao 1 S fun bs aa w S => ?_
  refine QaK 20 S (by rw [IntKind.wrap_i64]; omega : IntKind.i64.wrap (((l.getD i 0) : Nat) : Int) = (((l.getD i 0) : Nat) : Int)) fun S => ?_
  refine Qao 1 S fun bs aa w S => ?_
  refine QaK 21 S (by rw [show Int.tdiv (((l.getD i 0) : Nat) : Int) 128 = (((l.getD i 0) / 128 : Nat) : Int) from rfl, IntKind.wrap_i64]; omega : IntKind.i64.wrap (Int.tdiv (((l.getD i 0) : Nat) : Int) 128) = (((l.getD i 0) / 128 : Nat) : Int)) fun S => ?_
  refine Qao 1 S fun bs aa w S => ?_
  refine QaK 22 S (by rw [IntKind.wrap_i64]; omega : IntKind.i64.wrap (((2 * i + 1 : Nat) : Int) + (((l.getD i 0) / 128 : Nat) : Int)) = ((2 * i + 1 + (l.getD i 0) / 128 : Nat) : Int)) fun S => ?_
  refine Qah S fun bs aa w S => ?_
  have S := S.add (Qaa w0.heap.size 42 2 (.slice none 0 0) (wsE i (l.getD i 0) (0)).length (wsV (wsE i (l.getD i 0) (0)))) (World.ownsRow_nil _ _ _ _) (fun i hi h => by cases h)
  have S := S.sub (F' := [Qc_ lb lo l, QaL es, Qaa w0.heap.size 60 2 ov (es).length (esV (es)), Qaa w0.heap.size 42 2 (.slice none 0 0) (wsE i (l.getD i 0) (0)).length (wsV (wsE i (l.getD i 0) (0)))]) (by intro f hf; simp only [List.mem_cons, List.not_mem_nil, or_false] at hf; rcases hf with rfl | rfl | rfl | rfl <;> simp)
  have S2 := S.to [0] (QjF la l.length lc ov i 0 ((2 * i + 1 + (l.getD i 0) / 128 : Nat) : Int) (.slice none 0 0)) (by kernel_rfl) (by kernel_rfl) (by kernel_rfl) (by kernel_rfl) (by kernel_rfl)
  refine QaS 6 (by kernel_rfl) ?_
  refine Qak (k' := (.rnd (6) (Qa_ (enJ m)) :: (enJ m).k.tail)) (by kernel_rfl) ?_
  exact en_i w0 l hl8 h256 la lc lb lo hla m i hi es ov hes hep hap ih 5 0 (by omega) (.slice none 0 0) (fun f hf g hg => by cases hg) _ aa w S2
end
section
variable (w0 : World) (l : List Nat) (hl8 : l.length ≤ 8) (h256 : ∀ b ∈ l, b < 256) (la : Option Addr) (lc lb lo : Nat) (hla : l.length = 0 ∨ la = some ⟨lb, lo, none⟩)
include w0 l hl8 h256 la lc lb lo hla
theorem en_e (m : Nat) (es : List Et) (ov : Value) (hes : ∀ e ∈ es, e.ok ∧ Qdd e.ver e.ws ∧ (e.ws.length = 0 ∨ w0.heap.size ≤ e.b)) (hep : (es).map prE = Qbr l (l.length)) (hap : (∀ f ∈ [Qc_ lb lo l, QaL (es)], ∀ g, Value.ownBlock ov = some g → ¬f.bl g)) (aa : Act) (w : World) (S : Sy w0 [] [] (enS la l.length lc ov (l.length)) [Qc_ lb lo l, QaL (es), Qaa w0.heap.size 60 2 ov (es).length (esV (es))] aa w) : post Try.prog (.rnd (m + 1) (Qa_ enC) :: enC.k.tail) (bodyPost Try.prog Try.f17 (enP w0 (Qbr l l.length))) .normal aa w := by
  refine Qaw (c := ⟨(.rnd (m + 1) (Qa_ enC) :: enC.k.tail), enS la l.length lc ov l.length⟩) 3 50 4 S fun bs aa w S => ?_
  refine Qad 10 S (decide_eq_false (by omega) : decide ((l.length : Int) < (l.length : Int)) = false) fun S => ?_
  refine Qah S fun bs aa w S => ?_
  have how := S.fact (f := Qaa w0.heap.size 60 2 ov (es).length (esV (es))) (by simp)
  have hew := S.fact (f := QaL es) (by simp)
  obtain ⟨a, c, b, o, rfl, h1, h2, h3⟩ := QfW how
  exact Qap S (by kernel_rfl) (by kernel_rfl) fun hg => ⟨⟨a, c, b, o, es⟩, rfl, ⟨hep, h1, h2, h3, fun e he => ⟨(hes e he).1, (hes e he).2.2⟩, hew⟩, fun e he => (hes e he).2.1, Qas hg⟩
theorem en_a : ∀ (m i : Nat), i + m = l.length → ∀ (es : List Et) (ov : Value) (hes : ∀ e ∈ es, e.ok ∧ Qdd e.ver e.ws ∧ (e.ws.length = 0 ∨ w0.heap.size ≤ e.b)) (hep : (es).map prE = Qbr l (i)) (hap : (∀ f ∈ [Qc_ lb lo l, QaL (es)], ∀ g, Value.ownBlock ov = some g → ¬f.bl g)) (aa : Act) (w : World) (S : Sy w0 [] [] (enS la l.length lc ov (i)) [Qc_ lb lo l, QaL (es), Qaa w0.heap.size 60 2 ov (es).length (esV (es))] aa w), post Try.prog (.rnd (m + 1) (Qa_ enC) :: enC.k.tail) (bodyPost Try.prog Try.f17 (enP w0 (Qbr l l.length))) .normal aa w := by
  intro m
  induction m with
  | zero => intro i hi es ov hes hep hap aa w S; obtain rfl : i = l.length := by omega
            exact en_e w0 l hl8 h256 la lc lb lo hla 0 es ov hes hep hap aa w S
  | succ m ih => intro i hi es ov hes hep hap aa w S; exact en_s w0 l hl8 h256 la lc lb lo hla (m + 1) i (by omega) es ov hes hep hap (fun es ov h1 h2 h3 => ih (i + 1) (by omega) es ov h1 h2 h3) aa w S
theorem Qll (hB : ByAt w0 lb lo l) : Calls Try.prog 17 #[.slice la l.length lc] w0 (enP w0 (Qbr l l.length)) := by
  refine Qat [] [Qc_ lb lo l] (by intro f hf; simp only [List.mem_singleton] at hf; subst hf; exact hB) Try.func17 rfl rfl fun aa S => ?_
  refine Qah S fun bs aa w S => ?_
  have S := S.add (Qaa w0.heap.size 60 2 (.slice none 0 0) (([] : List Et)).length (esV (([] : List Et)))) (World.ownsRow_nil _ _ _ _) (fun i hi h => by cases h)
  have S := S.add (QaL []) (fun e he => by cases he) (fun i hi h => by obtain ⟨e, he, _⟩ := h; cases he)
  have S := S.sub (F' := [Qc_ lb lo l, QaL (([] : List Et)), Qaa w0.heap.size 60 2 (.slice none 0 0) (([] : List Et)).length (esV (([] : List Et)))]) (by intro f hf; simp only [List.mem_cons, List.not_mem_nil, or_false] at hf; rcases hf with rfl | rfl | rfl <;> simp)
  have S2 := S.to [] (enS la l.length lc (.slice none 0 0) 0) (by kernel_rfl) (by kernel_rfl) (by kernel_rfl) (by kernel_rfl) (by kernel_rfl)
  refine QaS (l.length + 1) (by kernel_rfl) ?_
  refine Qak (k' := (.rnd (l.length + 1) (Qa_ enC) :: enC.k.tail)) (by kernel_rfl) ?_
  exact en_a w0 l hl8 h256 la lc lb lo hla l.length 0 (by omega) [] (.slice none 0 0) (fun e he => by cases he) rfl (fun f hf g hg => by cases hg) aa w S2
end
def wAcc (at_ : Nat) (s : ByteArray) : AccD := ⟨5, (at_ : Int), 0, 0, s⟩
def synA : AccD := ⟨6, 0, 0, 0, ByteArray.empty⟩
def QdN (at_ : Nat) (l : List ByteArray) (n : Nat) : List AccD := (List.range n).map fun j => wAcc (at_ + j) (l.getD j ByteArray.empty)
theorem Qks (at_ : Nat) (l : List ByteArray) (n : Nat) : QdN at_ l (n + 1) = QdN at_ l n ++ [wAcc (at_ + n) (l.getD n ByteArray.empty)] := by simp [QdN, List.range_succ]
theorem Qdv (at_ : Nat) (l : List ByteArray) (n : Nat) : (QdN at_ l n).length = n := by simp [QdN]
def QdP (at_ : Nat) (l : List ByteArray) : List AccD := QdN at_ l l.length ++ [synA]
theorem QeP (at_ : Nat) (l : List ByteArray) : (QdP at_ l).length = l.length + 1 := by simp [QdP, Qdv]
def Qhg (B : Nat) (u : Value) (L : List AccD) : RF := Qaa B 66 5 u L.length (Qax L)
noncomputable def raC : Cfg := ⟨goZ 200 [] [.code (QaQ Try.f20)], ⟨0, [], []⟩⟩
noncomputable def raS (at_ : Nat) (s : Sr) (ov : Value) (j : Nat) : SS := ⟨31, [(1, .v (.int .i64 (at_ : Int))), (5, .v s.v), (6, .v ov), (7, .v (.int .i64 (j : Int)))], []⟩
def raP (w0 : World) (at_ : Nat) (l : List ByteArray) (y : Ending) (w' : World) : Prop := ∃ u, y = .returned u ∧ (Qhg w0.heap.size u (QdP at_ l)).P w' ∧ Below w0.heap.size w0 w'
section
variable (w0 : World) (at_ : Nat) (hat : at_ ≤ 1000) (s : Sr) (hs : s.ok) (hsl : s.l.length ≤ 1000)
include w0 at_ hat s hs hsl
theorem ra_s (m j : Nat) (hj : j < s.l.length) (ov : Value) (hap : ∀ g, Value.ownBlock ov = some g → ¬(Qav s.b s.o s.l).bl g) (ih : ∀ (ov : Value) (hap : ∀ g, Value.ownBlock ov = some g → ¬(Qav s.b s.o s.l).bl g) (aa : Act) (w : World) (S : Sy w0 [] [] (raS at_ s ov (j + 1)) [Qav s.b s.o s.l, Qhg w0.heap.size ov (QdN at_ s.l (j + 1))] aa w), post Try.prog (.rnd (m) (Qa_ raC) :: raC.k.tail) (bodyPost Try.prog Try.f20 (raP w0 at_ s.l)) .normal aa w) (aa : Act) (w : World) (S : Sy w0 [] [] (raS at_ s ov (j)) [Qav s.b s.o s.l, Qhg w0.heap.size ov (QdN at_ s.l (j))] aa w) : post Try.prog (.rnd (m + 1) (Qa_ raC) :: raC.k.tail) (bodyPost Try.prog Try.f20 (raP w0 at_ s.l)) .normal aa w := by
  refine Qaw (c := ⟨(.rnd (m + 1) (Qa_ raC) :: raC.k.tail), raS at_ s ov j⟩) 4 50 4 S fun bs aa w S => ?_
  refine Qad 13 S (decide_eq_true (by omega) : decide ((j : Int) < (s.l.length : Int)) = true) fun S => ?_
  refine Qaw 6 60 4 S fun bs aa w S => ?_
  refine QaK 19 S (by rw [IntKind.wrap_i64]; omega : IntKind.i64.wrap ((at_ : Int) + (j : Int)) = ((at_ + j : Nat) : Int)) fun S => ?_
  refine Qao 2 S fun bs aa w S => ?_
  refine Qde (b := s.b) (off := s.o) (len := s.l.length) (n := j) (size := 1) (i := (j : Int)) S (by rw [← hs.resolve_left (by omega)]; kernel_rfl) rfl hj fun aa S => ?_
  refine Qcz S (QbG (ty := 9) (b := s.b) (off := s.o + j * 1) (by kernel_rfl) (by rw [Nat.mul_one]; exact S.fact (f := Qav s.b s.o s.l) (by simp) j hj)) (by kernel_rfl) fun aa S => ?_
  refine Qao 2 S fun bs aa w S => ?_
  refine Qbc S fun bs S => ?_
  obtain ⟨ii, hi1, hi2, hi3, hi4⟩ := QcB Qgm
  have how : w.ownsRow w0.heap.size 66 5 ov j (Qax (QdN at_ s.l j)) := by
    have h := S.fact (f := Qhg w0.heap.size ov (QdN at_ s.l (j))) (by simp)
    have h2 : w.ownsRow w0.heap.size 66 5 ov (QdN at_ s.l j).length (Qax (QdN at_ s.l j)) := h
    rwa [Qdv] at h2
  have hapb := (S.fs (Qhg w0.heap.size ov (QdN at_ s.l (j))) (by simp)).2
  have hblk : ∀ j, j < bs.length → bs.getD j 0 < w.heap.size := fun j hj => S.lt hj
  have hfs : (Qav s.b s.o s.l).P w := S.fact (f := Qav s.b s.o s.l) (by simp)
  refine QcY w0.heap.size (u := .v ov) (y := .s 0 0 1 1) (v := ov) (ad := adr bs 0 0) (m := 1) (cp := 1) (n := j) (size := 5) (bytes := 48) (e := 66) (t := 56) (xs := Qax (QdN at_ s.l j)) (news := [.int .i64 5, .int .i64 ((at_ + j : Nat) : Int), .int .i64 0, .int .i64 0, .string (s.l.getD j ByteArray.empty)]) [Qav s.b s.o s.l] S (by kernel_rfl) Try.underlying56 hi1 hi2 hi3 hi4 rfl (by omega) rfl rfl how S.gr.size (QjD (P := Try.prog) (ty := 66) (cs := [.int .i64 5, .int .i64 ((at_ + j : Nat) : Int), .int .i64 0, .int .i64 0, .string (s.l.getD j ByteArray.empty)]) S 0 (by kernel_rfl)) rfl (by intro u hu; simp only [List.mem_cons, List.not_mem_nil, or_false] at hu; rcases hu with rfl | rfl | rfl | rfl | rfl <;> rfl) (by simp only [maxLen]; omega) (by omega)
    (fun g hg => Or.inr (how.lt g hg).1) (fun f hf => by have e1 : f = Qav s.b s.o s.l := List.mem_singleton.1 hf; subst e1; exact ⟨by simp, hap⟩) (fun j hj hb => hapb j hj hb)
    fun v' aa w2 hO hg' hnn S => ?_
  have hO2 : w2.ownsRow w0.heap.size 66 5 v' (j + 1) (Qax (QdN at_ s.l j ++ [wAcc (at_ + j) (s.l.getD j ByteArray.empty)])) := by rw [Qcu]; exact hO
  have hap2 : ∀ g, Value.ownBlock v' = some g → ¬(Qav s.b s.o s.l).bl g := fun g hg hb => (hnn g hg).elim (fun q => hap g q hb) (fun q => by have h1 := (Qav s.b s.o s.l).lt _ hfs g hb; omega)
  have S := S.add (Qhg w0.heap.size v' (QdN at_ s.l (j + 1))) (by
    show w2.ownsRow w0.heap.size 66 5 v' (QdN at_ s.l (j + 1)).length (Qax (QdN at_ s.l (j + 1)))
    rw [Qdv, Qks]
    exact hO2) (fun i hi hb => (hnn _ hb).elim (fun q => hapb i hi q) (fun q => by have := hblk i hi; omega))
  refine Qaw 5 60 2 S fun bs aa w S => ?_
  refine QaK 15 S (by rw [IntKind.wrap_i64]; omega : IntKind.i64.wrap ((j : Int) + 1) = ((j + 1 : Nat) : Int)) fun S => ?_
  refine Qan ⟨0, [999]⟩ 50 S fun bs aa w S => ?_
  have S := S.sub (F' := [Qav s.b s.o s.l, Qhg w0.heap.size v' (QdN at_ s.l (j + 1))]) (by intro f hf; simp only [List.mem_cons, List.not_mem_nil, or_false] at hf; rcases hf with rfl | rfl <;> simp)
  have S2 := S.to [] (raS at_ s v' (j + 1)) (by kernel_rfl) (by kernel_rfl) (by kernel_rfl) (by kernel_rfl) (by kernel_rfl)
  refine Qak (k' := (.rnd (m) (Qa_ raC) :: raC.k.tail)) (by kernel_rfl) ?_
  exact ih v' hap2 aa w S2
theorem ra_e (m : Nat) (ov : Value) (hap : ∀ g, Value.ownBlock ov = some g → ¬(Qav s.b s.o s.l).bl g) (aa : Act) (w : World) (S : Sy w0 [] [] (raS at_ s ov (s.l.length)) [Qav s.b s.o s.l, Qhg w0.heap.size ov (QdN at_ s.l (s.l.length))] aa w) : post Try.prog (.rnd (m + 1) (Qa_ raC) :: raC.k.tail) (bodyPost Try.prog Try.f20 (raP w0 at_ s.l)) .normal aa w := by
  refine Qaw (c := ⟨(.rnd (m + 1) (Qa_ raC) :: raC.k.tail), raS at_ s ov s.l.length⟩) 4 50 4 S fun bs aa w S => ?_
  refine Qad 13 S (decide_eq_false (by omega) : decide ((s.l.length : Int) < (s.l.length : Int)) = false) fun S => ?_
  refine Qaw 7 60 3 S fun bs aa w S => ?_
  refine Qbc S fun bs S => ?_
  obtain ⟨ii, hi1, hi2, hi3, hi4⟩ := QcB Qgm
  have how : w.ownsRow w0.heap.size 66 5 ov s.l.length (Qax (QdN at_ s.l s.l.length)) := by
    have h := S.fact (f := Qhg w0.heap.size ov (QdN at_ s.l (s.l.length))) (by simp)
    have h2 : w.ownsRow w0.heap.size 66 5 ov (QdN at_ s.l s.l.length).length (Qax (QdN at_ s.l s.l.length)) := h
    rwa [Qdv] at h2
  have hapb := (S.fs (Qhg w0.heap.size ov (QdN at_ s.l (s.l.length))) (by simp)).2
  have hblk : ∀ j, j < bs.length → bs.getD j 0 < w.heap.size := fun j hj => S.lt hj
  have hfs : (Qav s.b s.o s.l).P w := S.fact (f := Qav s.b s.o s.l) (by simp)
  refine QcY w0.heap.size (u := .v ov) (y := .s 0 0 1 1) (v := ov) (ad := adr bs 0 0) (m := 1) (cp := 1) (n := s.l.length) (size := 5) (bytes := 48) (e := 66) (t := 56) (xs := Qax (QdN at_ s.l s.l.length)) (news := [.int .i64 6, .int .i64 0, .int .i64 0, .int .i64 0, .string ByteArray.empty]) [Qav s.b s.o s.l] S (by kernel_rfl) Try.underlying56 hi1 hi2 hi3 hi4 rfl (by omega) rfl rfl how S.gr.size (QjD (P := Try.prog) (ty := 66) (cs := [.int .i64 6, .int .i64 0, .int .i64 0, .int .i64 0, .string ByteArray.empty]) S 0 (by kernel_rfl)) rfl (by intro u hu; simp only [List.mem_cons, List.not_mem_nil, or_false] at hu; rcases hu with rfl | rfl | rfl | rfl | rfl <;> rfl) (by simp only [maxLen]; omega) (by omega)
    (fun g hg => Or.inr (how.lt g hg).1) (fun f hf => by have e1 : f = Qav s.b s.o s.l := List.mem_singleton.1 hf; subst e1; exact ⟨by simp, hap⟩) (fun j hj hb => hapb j hj hb)
    fun v' aa w2 hO hg' hnn S => ?_
  have hO2 : w2.ownsRow w0.heap.size 66 5 v' (s.l.length + 1) (Qax (QdN at_ s.l s.l.length ++ [synA])) := by rw [Qcu]; exact hO
  have S := S.add (Qhg w0.heap.size v' (QdP at_ s.l)) (by
    show w2.ownsRow w0.heap.size 66 5 v' (QdP at_ s.l).length (Qax (QdP at_ s.l))
    rw [QeP]
    exact hO2) (fun i hi hb => (hnn _ hb).elim (fun q => hapb i hi q) (fun q => by have := hblk i hi; omega))
  refine Qah S fun bs aa w S => ?_
  have hL := S.fact (f := Qhg w0.heap.size v' (QdP at_ s.l)) (by simp)
  exact Qap S (by kernel_rfl) (by kernel_rfl) fun hg => ⟨v', rfl, hL, Qas hg⟩
theorem ra_a : ∀ (m j : Nat), j + m = s.l.length → ∀ (ov : Value) (hap : ∀ g, Value.ownBlock ov = some g → ¬(Qav s.b s.o s.l).bl g) (aa : Act) (w : World) (S : Sy w0 [] [] (raS at_ s ov (j)) [Qav s.b s.o s.l, Qhg w0.heap.size ov (QdN at_ s.l (j))] aa w), post Try.prog (.rnd (m + 1) (Qa_ raC) :: raC.k.tail) (bodyPost Try.prog Try.f20 (raP w0 at_ s.l)) .normal aa w := by
  intro m
  induction m with
  | zero => intro j hj ov hap aa w S; obtain rfl : j = s.l.length := by omega
            exact ra_e w0 at_ hat s hs hsl 0 ov hap aa w S
  | succ m ih => intro j hj ov hap aa w S; exact ra_s w0 at_ hat s hs hsl (m + 1) j (by omega) ov hap (fun ov h => ih (j + 1) (by omega) ov h) aa w S
end
theorem record_t (w0 : World) (e : Et) (hok : e.ok) (hfg : Qdd e.ver e.ws) (hA : QdC w0 e.b e.o e.ws) (at_ : Nat) (hat : at_ ≤ 1000) : Calls Try.prog 20 #[e.v, .int .i64 (at_ : Int)] w0 (raP w0 at_ (QaD e.ver e.ws)) := by
  refine Qat [] [QaH e.b e.o e.ws] (by intro f hf; simp only [List.mem_singleton] at hf; subst hf; exact hA) Try.func20 rfl rfl fun aa S => ?_
  refine Qaw 1 60 1 S fun bs aa w S => ?_
  refine Qbc S fun bs S => ?_
  have hlt := fun i hi => S.lt (i := i) hi
  have hgr := S.gr.size
  refine Qa7 S (X := Sr) (val := Sr.v) (C := fun s w' => s.l = QaD e.ver e.ws ∧ s.ok ∧ s.at w' ∧ s.l.length ≤ s.c ∧ (s.l.length = 0 ∨ w.heap.size ≤ s.b)) (Qki w e hok hfg (S.fact (f := QaH e.b e.o e.ws) (by simp))) (by kernel_rfl) fun s aa w1 hC hb S => ?_
  obtain ⟨hl, hs, hAt, hcap, hbd⟩ := hC
  have S := S.add (Qav s.b s.o s.l) hAt (fun i hi hb => by have := hlt i hi; have := hb.1; have := hbd.resolve_left hb.2; omega)
  refine Qah S fun bs aa w S => ?_
  have S := S.add (Qhg w0.heap.size (.slice none 0 0) (QdN at_ s.l (0))) (World.ownsRow_nil _ _ _ _) (fun i hi h => by cases h)
  have S := S.sub (F' := [Qav s.b s.o s.l, Qhg w0.heap.size (.slice none 0 0) (QdN at_ s.l (0))]) (by intro f hf; simp only [List.mem_cons, List.not_mem_nil, or_false] at hf; rcases hf with rfl | rfl <;> simp)
  have S2 := S.to [] (raS at_ s (.slice none 0 0) 0) (by kernel_rfl) (by kernel_rfl) (by kernel_rfl) (by kernel_rfl) (by kernel_rfl)
  refine QaS (s.l.length + 1) (by kernel_rfl) ?_
  refine Qak (k' := (.rnd (s.l.length + 1) (Qa_ raC) :: raC.k.tail)) (by kernel_rfl) ?_
  rw [← hl]
  exact ra_a w0 at_ hat s hs (by rw [hl]; exact Nat.le_trans (Qko hfg) (by omega)) s.l.length 0 (by omega) (.slice none 0 0) (fun g hg => by cases hg) aa _ S2
theorem wsE_asc (i b : Nat) : asc (-1) (wsE i b 5) = true := by
  simp only [wsE]
  cases QlH b 0 <;> cases QlH b 1 <;> cases QlH b 2 <;> cases QlH b 3 <;> cases QlH b 4 <;> simp [asc]
section
variable (i b : Nat) (hi : i ≤ 100) (hb : b < 256)
include i b hi hb
theorem Qlm : Qdd (Qd_ i b).1 (Qd_ i b).2 := QjN i b (by omega) (by omega)
theorem Qg1 : QaB (Qd_ i b).1 (Qd_ i b).2 = true := by
  have h := QdI i b 5
  unfold QaB Qd_
  simp only [Bool.and_eq_true, decide_eq_true_eq]
  exact ⟨⟨⟨by omega, by omega⟩, by omega⟩, wsE_asc i b⟩
theorem ent_len : (QaD (Qd_ i b).1 (Qd_ i b).2).length ≤ 5 := by
  have hf := Qlm i b hi hb
  rw [Qa1 (Qg1 i b hi hb), QbI]
  have h1 := Qb1 (Qd_ i b).1 (Qd_ i b).2
  have h2 : (Qd_ i b).2.length ≤ 5 := QdI i b 5
  have h3 := QgR (Qa8 (Qd_ i b).1 (Qd_ i b).2) (QcN hf) (by omega)
  have h4 : (QbQ (Qd_ i b).1 (Qd_ i b).2).length ≤ 10 + 10 * (Qa8 (Qd_ i b).1 (Qd_ i b).2).length := by unfold QbQ; omega
  unfold Qau
  omega
end
theorem QfR : ∀ (P : List (Int × Ws)) (p : Int × Ws) (last : Int), QhC last (P ++ [p]) = p.1
  | [], _, _ => rfl
  | q :: r, p, _ => QfR r p q.1
theorem Qhe : ∀ (P : List (Int × Ws)) (p : Int × Ws) (last : Int), ascR last P → QhC last P < p.1 → Qdd p.1 p.2 → QaB p.1 p.2 = true → ascR last (P ++ [p])
  | [], _, _, _, h, hf, hv => ⟨h, hf, hv, trivial⟩
  | q :: r, p, _, ha, h, hf, hv => ⟨ha.1, ha.2.1, ha.2.2.1, Qhe r p q.1 ha.2.2.2 h hf hv⟩
theorem QhM (l : List Nat) (h256 : ∀ b ∈ l, b < 256) : ∀ n, n ≤ 100 → ascR 0 (Qbr l n) ∧ QhC 0 (Qbr l n) < ((2 * n + 1 : Nat) : Int)
  | 0, _ => ⟨trivial, by show (0 : Int) < _; omega⟩
  | n + 1, hn => by
    obtain ⟨h1, h2⟩ := QhM l h256 n (by omega)
    have hb : l.getD n 0 < 256 := by
      by_cases h : n < l.length
      · exact h256 _ (QbZ l n 0 h)
      · rw [show l.getD n 0 = 0 by simp [List.getD, List.getElem?_eq_none (Nat.not_lt.1 h)]]; omega
    rw [QcT]
    refine ⟨Qhe _ _ _ h1 ?_ (Qlm _ _ (by omega) hb) (Qg1 _ _ (by omega) hb), ?_⟩
    · refine Int.lt_of_lt_of_le h2 ?_
      show _ ≤ ((2 * n + 1 + l.getD n 0 / 128 : Nat) : Int)
      omega
    · rw [QfR]
      show ((2 * n + 1 + l.getD n 0 / 128 : Nat) : Int) < _
      omega
theorem QeM (l : List Nat) (h256 : ∀ b ∈ l, b < 256) : ∀ n, n ≤ l.length → n ≤ 100 → (QaV (Qbr l n)).length ≤ 5 * n
  | 0, _, _ => Nat.le_refl _
  | n + 1, h, hn => by
    have h1 := QeM l h256 n (by omega) (by omega)
    have h2 := ent_len n (l.getD n 0) (by omega) (h256 _ (QbZ l n 0 (by omega)))
    rw [QcT, Qel, List.length_append]
    omega
def stJ (P : List (Int × Ws)) (r : List ByteArray) (j : Nat) : List ByteArray := QaV P ++ (r.take j ++ List.replicate (40 - (QaV P).length - j) z32)
def QdA (P : List (Int × Ws)) : List ByteArray := QaV P ++ List.replicate (40 - (QaV P).length) z32
theorem stJ_0 (P : List (Int × Ws)) (r : List ByteArray) : stJ P r 0 = QdA P := by simp [stJ, QdA]
theorem stJ_all (P : List (Int × Ws)) (p : Int × Ws) : stJ P (QaD p.1 p.2) (QaD p.1 p.2).length = QdA (P ++ [p]) := by
  unfold stJ QdA
  rw [Qel, List.take_length, List.length_append, List.append_assoc, Nat.sub_sub]
theorem stJ_len {P : List (Int × Ws)} {r : List ByteArray} {j : Nat} (hj : j ≤ r.length) (h : (QaV P).length + r.length ≤ 40) : (stJ P r j).length = 40 := by
  simp only [stJ, List.length_append, List.length_take, List.length_replicate]
  omega
theorem set_mid {α : Type} (A B : List α) (x y : α) (n : Nat) (hn : n = A.length) : (A ++ x :: B).set n y = A ++ y :: B := by
  subst hn
  induction A with
  | nil => rfl
  | cons a A ih => exact congrArg (a :: ·) ih
theorem stJ_set {P : List (Int × Ws)} {r : List ByteArray} {j : Nat} (hj : j < r.length) (h : (QaV P).length + r.length ≤ 40) : (stJ P r j).set ((QaV P).length + j) (r.getD j ByteArray.empty) = stJ P r (j + 1) := by
  have e : 40 - (QaV P).length - j = (40 - (QaV P).length - (j + 1)) + 1 := by omega
  have g : r.getD j ByteArray.empty = r[j] := by simp [List.getD, List.getElem?_eq_getElem hj]
  unfold stJ
  rw [e, List.replicate_succ, ← List.append_assoc, set_mid _ _ _ _ _ (by simp only [List.length_append, List.length_take]; omega), List.take_succ_eq_append_getElem hj, g]
  simp only [List.append_assoc, List.cons_append, List.nil_append]
theorem z32_is : z32 = QaY (List.replicate 32 0) := by decide
theorem QiR {P : List (Int × Ws)} (h : (QaV P).length ≤ 40) : (QdA P).length = 40 := by
  simp only [QdA, List.length_append, List.length_replicate]
  omega
theorem devS_rec {P : List (Int × Ws)} (ha : ascR 0 P) (h : (QaV P).length ≤ 40) (hP : P.length ≤ 40) : QeA ((QdA P).length + 1) (QdA P) 0 0 = (P, (QaV P).length) := by
  have hl := QiR h
  have hn : QbR (QdA P) (QaV P).length = none := by
    by_cases hk : (QaV P).length < 40
    · refine QjL ?_
      unfold QdA
      rw [← z32_is]
      have hk2 : 0 < 40 - (QaV P).length := by omega
      simp [List.getD, List.getElem?_append_right, List.getElem?_replicate, hk2]
    · cases hp : QbR (QdA P) (QaV P).length with
      | none => rfl
      | some x =>
        exfalso
        obtain ⟨v, ws', n⟩ := x
        obtain ⟨_, _, _, _, h5, _, _⟩ := Qd2 hp
        omega
  rw [hl, show 40 + 1 = P.length + ((40 - P.length) + 1) by omega, Qih P _ (QdA P) 0 0 (List.replicate (40 - (QaV P).length) z32) ha rfl, Nat.zero_add, Qfa hn, List.append_nil]
theorem QeS (q : Int) : ∀ a b : Ws, Qcv q (a ++ b) = (match Qcv q a with | some x => some x | none => Qcv q b)
  | [], b => rfl
  | x :: r, b => by
    show (if x.1 = q then some x else Qcv q (r ++ b)) = match (if x.1 = q then some x else Qcv q r) with
      | some x => some x
      | none => Qcv q b
    split
    · rfl
    · exact QeS q r b
theorem Qk7 (i b : Nat) (q : Nat) : ∀ k, k ≤ q → Qcv (q : Int) (wsE i b k) = none
  | 0, _ => rfl
  | k + 1, h => by
    unfold wsE
    rw [QeS, Qk7 i b q k (by omega)]
    show Qcv _ _ = none
    split
    · show (if ((k : Nat) : Int) = (q : Int) then _ else _) = _
      rw [if_neg (by omega)]
      rfl
    · rfl
def QcZ (k0 i : Nat) (ver : Int) (x : Int) (p : Int × Int) : Int := if (i : Int) = (k0 : Int) + 4 * p.1 then 2 * ver else if (i : Int) = (k0 : Int) + 4 * p.1 + 1 then p.2 else x
def Qfz (k0 i : Nat) (ver : Int) (ws : Ws) (n : Nat) (x : Int) : Int := (ws.take n).foldl (QcZ k0 i ver) x
theorem QjT (k0 i : Nat) (ver : Int) (ws : Ws) (n : Nat) (hn : n < ws.length) (x : Int) : Qfz k0 i ver ws (n + 1) x = QcZ k0 i ver (Qfz k0 i ver ws n x) (ws.getD n (0, 0)) := by
  have e : ws.getD n (0, 0) = ws[n] := by simp [List.getD, List.getElem?_eq_getElem hn]
  unfold Qfz
  rw [List.take_succ_eq_append_getElem hn, List.foldl_append, e]
  rfl
theorem want_v (k0 i b : Nat) (ver : Int) (q : Nat) (x : Int) : ∀ k, (wsE i b k).foldl (QcZ k0 (k0 + 4 * q + 1) ver) x = (match Qcv (q : Int) (wsE i b k) with | some y => y.2 | none => x)
  | 0 => rfl
  | k + 1 => by
    have ih := want_v k0 i b ver q x k
    unfold wsE
    rw [List.foldl_append, QeS, ih]
    by_cases hb : QlH b k = true
    · rw [if_pos hb]
      show QcZ _ _ _ _ _ = _
      unfold QcZ
      by_cases hq : k = q
      · subst hq
        rw [Qk7 i b k k (Nat.le_refl _), if_neg (by simp only; omega), if_pos (by simp only; omega)]
        show _ = match (if ((k : Nat) : Int) = (k : Int) then some ((k : Int), ((1000000 * i + 7 * k : Nat) : Int) - 50) else _) with
          | some y => y.2
          | none => x
        rw [if_pos rfl]
      · rw [if_neg (by simp only; omega), if_neg (by simp only; omega)]
        have e : Qcv (q : Int) [((k : Int), ((1000000 * i + 7 * k : Nat) : Int) - 50)] = none := by
          show (if ((k : Nat) : Int) = (q : Int) then _ else _) = _
          rw [if_neg (by omega)]
          rfl
        rw [e]
        cases Qcv (q : Int) (wsE i b k) <;> rfl
    · rw [if_neg hb]
      show (match Qcv (q : Int) (wsE i b k) with | some y => y.2 | none => x) = _
      cases Qcv (q : Int) (wsE i b k) <;> rfl
theorem want_w (k0 i b : Nat) (ver : Int) (q : Nat) (x : Int) : ∀ k, (wsE i b k).foldl (QcZ k0 (k0 + 4 * q) ver) x = (match Qcv (q : Int) (wsE i b k) with | some y => 2 * ver | none => x)
  | 0 => rfl
  | k + 1 => by
    have ih := want_w k0 i b ver q x k
    unfold wsE
    rw [List.foldl_append, QeS, ih]
    by_cases hb : QlH b k = true
    · rw [if_pos hb]
      show QcZ _ _ _ _ _ = _
      unfold QcZ
      by_cases hq : k = q
      · subst hq
        rw [Qk7 i b k k (Nat.le_refl _), if_pos (by simp only; omega)]
        show _ = match (if ((k : Nat) : Int) = (k : Int) then some ((k : Int), ((1000000 * i + 7 * k : Nat) : Int) - 50) else _) with
          | some y => 2 * ver
          | none => x
        rw [if_pos rfl]
      · rw [if_neg (by simp only; omega), if_neg (by simp only; omega)]
        have e : Qcv (q : Int) [((k : Int), ((1000000 * i + 7 * k : Nat) : Int) - 50)] = none := by
          show (if ((k : Nat) : Int) = (q : Int) then _ else _) = _
          rw [if_neg (by omega)]
          rfl
        rw [e]
        cases Qcv (q : Int) (wsE i b k) <;> rfl
    · rw [if_neg hb]
      show (match Qcv (q : Int) (wsE i b k) with | some y => 2 * ver | none => x) = _
      cases Qcv (q : Int) (wsE i b k) <;> rfl
theorem QjU (k0 i b : Nat) (ver : Int) (j : Nat) (hj : j < k0 ∨ (j - k0) % 4 ≠ 0 ∧ (j - k0) % 4 ≠ 1) (x : Int) : ∀ k, (wsE i b k).foldl (QcZ k0 j ver) x = x
  | 0 => rfl
  | k + 1 => by
    unfold wsE
    rw [List.foldl_append, QjU k0 i b ver j hj x k]
    split
    · show QcZ _ _ _ _ _ = _
      unfold QcZ
      rw [if_neg (by simp only; omega), if_neg (by simp only; omega)]
    · rfl
def QgE (k0 : Nat) (ver fin2 : Int) (clk fin : Int) (V W : Nat → Int) (i : Nat) : Int := if i = 3 then fin2 else if i = 0 then ver else bC k0 clk fin V W i
theorem want_all (k0 : Nat) (hk0 : 4 ≤ k0) (P : List (Int × Ws)) (zs : List Int) (i b : Nat) (hi : i ≤ 100) (hb : b < 256) (f1 f2 : Int) (j : Nat) : Qfz k0 j (Qd_ i b).1 (Qd_ i b).2 (Qd_ i b).2.length (QgE k0 (Qd_ i b).1 f2 (QeI P) f1 (vvB P zs) (wwB P) j) = bC k0 (QeI (P ++ [Qd_ i b])) f2 (vvB (P ++ [Qd_ i b]) zs) (wwB (P ++ [Qd_ i b])) j := by
  unfold Qfz
  rw [List.take_length]
  show (wsE i b 5).foldl _ _ = _
  have hc : QeI (P ++ [Qd_ i b]) = (Qd_ i b).1 := by unfold QeI; simp
  by_cases h0 : j < k0
  · rw [QjU k0 i b _ j (Or.inl h0), hc]
    unfold QgE bC
    by_cases h1 : j = 3
    · subst h1; simp
    · by_cases h2 : j = 0
      · subst h2; simp
      · by_cases h3 : j = 1
        · subst h3; simp
        · simp only [if_neg h1, if_neg h2, if_neg h3, if_pos h0]
  · have e1 : QgE k0 (Qd_ i b).1 f2 (QeI P) f1 (vvB P zs) (wwB P) j = bC k0 (QeI P) f1 (vvB P zs) (wwB P) j := by
      unfold QgE
      rw [if_neg (by omega), if_neg (by omega)]
    rw [e1]
    have n0 : j ≠ 0 := by omega
    have n1 : j ≠ 1 := by omega
    have n3 : j ≠ 3 := by omega
    unfold bC
    simp only [if_neg n0, if_neg n1, if_neg n3, if_neg h0]
    by_cases h1 : (j - k0) % 4 = 1
    · rw [if_pos h1, if_pos h1]
      have ej : j = k0 + 4 * ((j - k0) / 4) + 1 := by omega
      conv => lhs; rw [show QcZ k0 j = QcZ k0 (k0 + 4 * ((j - k0) / 4) + 1) by rw [← ej]]
      rw [want_v]
      conv => rhs; unfold vvB
      rw [Qdz]
      show _ = _
      cases hh : Qcv (((j - k0) / 4 : Nat) : Int) (Qd_ i b).2 with
      | none => rw [show Qcv (((j - k0) / 4 : Nat) : Int) (wsE i b 5) = none from hh]; rfl
      | some y => rw [show Qcv (((j - k0) / 4 : Nat) : Int) (wsE i b 5) = some y from hh]
    · by_cases h2 : (j - k0) % 4 = 0
      · rw [if_neg h1, if_neg h1, if_pos h2, if_pos h2]
        have ej : j = k0 + 4 * ((j - k0) / 4) := by omega
        conv => lhs; rw [show QcZ k0 j = QcZ k0 (k0 + 4 * ((j - k0) / 4)) by rw [← ej]]
        rw [want_w]
        conv => rhs; unfold wwB
        rw [Qdz]
        cases hh : Qcv (((j - k0) / 4 : Nat) : Int) (Qd_ i b).2 with
        | none => rw [show Qcv (((j - k0) / 4 : Nat) : Int) (wsE i b 5) = none from hh]; rfl
        | some y =>
          rw [show Qcv (((j - k0) / 4 : Nat) : Int) (wsE i b 5) = some y from hh]
          show 2 * (Qd_ i b).1 = wrap64 (2 * (Qd_ i b).1)
          have : (Qd_ i b).1 = ((2 * i + 1 + b / 128 : Nat) : Int) := rfl
          rw [this]
          unfold wrap64
          omega
      · rw [if_neg h1, if_neg h1, if_neg h2, if_neg h2]
        exact QjU k0 i b _ j (Or.inr ⟨h2, h1⟩) 0 5
def accV (a : AccD) : Value := .agg #[.int .i64 a.k, .int .i64 a.c, .int .i64 a.o, .int .i64 a.n, .string a.b]
def AcAt (w : World) (g : Nat) (L : List AccD) : Prop := ∀ j, j < L.length → ∀ i x, [Value.int .i64 (L.getD j Qbl).k, .int .i64 (L.getD j Qbl).c, .int .i64 (L.getD j Qbl).o, .int .i64 (L.getD j Qbl).n, .string (L.getD j Qbl).b][i]? = some x → w.cell? ⟨g, 0 + j * 5 + i, none⟩ = some x
def Qhs (g : Nat) (L : List AccD) : RF := ⟨fun b' => b' = g ∧ L.length ≠ 0, fun w => AcAt w g L, fun w h b' hb => by
  obtain ⟨rfl, hl⟩ := hb
  exact World.block_lt_of_cell? w _ (h 0 (by omega) 0 _ rfl), fun w w' h hb j hj i x hx => (World.cell?_of_block (a := ⟨g, 0 + j * 5 + i, none⟩) (hb g ⟨rfl, by omega⟩)).trans (h j hj i x hx)⟩
theorem ld_ac {w : World} {g j : Nat} {L : List AccD} (h : AcAt w g L) (hj : j < L.length) : (loadVar 66 ⟨g, 0 + j * 5, none⟩).run Try.prog w = .ok (accV (L.getD j Qbl)) w :=
  run_loadVar_mid w g (0 + j * 5) 66 [.int .i64 (L.getD j Qbl).k, .int .i64 (L.getD j Qbl).c, .int .i64 (L.getD j Qbl).o, .int .i64 (L.getD j Qbl).n, .string (L.getD j Qbl).b] _ (h j hj) Try.underlying66 rfl (by kernel_rfl)
theorem ac_of {w : World} {B : Nat} {u : Value} {L : List AccD} (h : (Qhg B u L).P w) (hL : L.length ≠ 0) : ∃ g c, u = .slice (some ⟨g, 0, none⟩) L.length c ∧ B ≤ g ∧ AcAt w g L := by
  have h0 : w.ownsRow B 66 5 u L.length (Qax L) := h
  obtain ⟨_, h1 | ⟨g, cap, cur, rfl, hb, _, hn, hc, _, _⟩⟩ := id h0
  · exact absurd h1.2 hL
  · refine ⟨g, cap, rfl, hb, fun j hj i x hx => ?_⟩
    obtain ⟨h1, h2, h3, h4, h5⟩ := Qfx L j hj
    match i, hx with
    | 0, hx => obtain rfl := Option.some.inj hx; rw [Nat.zero_add, Nat.add_zero, h0.cellAt (j * 5) (by omega)]; exact h1
    | 1, hx => obtain rfl := Option.some.inj hx; rw [Nat.zero_add, h0.cellAt (j * 5 + 1) (by omega)]; exact h2
    | 2, hx => obtain rfl := Option.some.inj hx; rw [Nat.zero_add, h0.cellAt (j * 5 + 2) (by omega)]; exact h3
    | 3, hx => obtain rfl := Option.some.inj hx; rw [Nat.zero_add, h0.cellAt (j * 5 + 3) (by omega)]; exact h4
    | 4, hx => obtain rfl := Option.some.inj hx; rw [Nat.zero_add, h0.cellAt (j * 5 + 4) (by omega)]; exact h5
    | i + 5, hx => cases hx
def dvJ (P : List (Int × Ws)) (r : List ByteArray) (j : Nat) (x : Dk) : Prop := x.gen ∧ x.S = stJ P r (min j r.length) ∧ x.W.length ≤ j ∧ (j = r.length + 1 → x.W = []) ∧ x.sl ≤ x.sc
structure Dvj (P : List (Int × Ws)) (r : List ByteArray) (j : Nat) (h0 : Nat) (d : Dk) (y : Dk) (w : World) : Prop where
  j : dvJ P r j y
  sA : StrAt w y.b y.o y.S
  wA : WasAt w y.c y.p y.W
  b0 : y.S.length = 0 ∨ h0 ≤ y.b ∨ (y.b = d.b ∧ d.S.length ≠ 0)
  c0 : y.W.length = 0 ∨ h0 ≤ y.c ∨ (y.c = d.c ∧ d.W.length ≠ 0)
def doV (y : Dk) : Value := .tuple #[.agg #[.slice none 0 0], y.v, .agg #[.int .i64 0, .bool true], .int .i64 0]
theorem do_j (w : World) (P : List (Int × Ws)) (r : List ByteArray) (at_ : Nat) (hat : at_ = (QaV P).length) (h40 : at_ + r.length ≤ 40) (hsz : ∀ s ∈ r, s.size = 32) (j : Nat) (hj : j ≤ r.length) (x : Dk) (hx : dvJ P r j x) (hA : StrAt w x.b x.o x.S) (hB : WasAt w x.c x.p x.W) : Calls Try.prog 21 #[.agg #[.slice none 0 0], x.v, accV ((QdP at_ r).getD j Qbl)] w fun e w' => ∃ y : Dk, e = .returned (doV y) ∧ Dvj P r (j + 1) w.heap.size x y w' ∧ Below w.heap.size w w' := by
  obtain ⟨hg, hS, hW, _, hcp⟩ := hx
  have hsl : x.sl = 40 := by rw [← hg.hS, hS]; exact stJ_len (by omega) (by omega)
  have htl : x.tl ≤ 60 := by rw [← hg.hW]; omega
  have hok := gen_ok hg (by omega) (by omega)
  by_cases hjr : j < r.length
  · have ea : (QdP at_ r).getD j Qbl = wAcc (at_ + j) (r.getD j ByteArray.empty) := by
      unfold QdP
      simp [List.getD, List.getElem?_append_left, Qdv, hjr, QdN]
    have hs32 : (r.getD j ByteArray.empty).size = 32 := hsz _ (by simp [List.getD, List.getElem?_eq_getElem hjr])
    rw [ea]
    have h := pdo_c5 w x hok hg htl hA hB [] none 0 0 0 (by simp) (Or.inl rfl) (fun j hj => by simp at hj) ((at_ + j : Nat) : Int) 0 0 (r.getD j ByteArray.empty)
    have hin : 0 ≤ ((at_ + j : Nat) : Int) ∧ ((at_ + j : Nat) : Int) < (x.sl : Int) := by omega
    have e1 : QjC x ((at_ + j : Nat) : Int) (r.getD j ByteArray.empty) = true := by unfold QjC; rw [decide_eq_true hin, decide_eq_true hs32]; rfl
    have eE : dE x 5 ((at_ + j : Nat) : Int) 0 0 (r.getD j ByteArray.empty) = 0 := by unfold dE waE; rw [if_pos rfl, if_pos ⟨rfl, rfl⟩, if_pos hin, if_pos hs32]
    have eS : dS x 5 ((at_ + j : Nat) : Int) 0 0 (r.getD j ByteArray.empty) = stJ P r (min (j + 1) r.length) := by
      unfold dS waS
      rw [if_pos rfl, if_pos ⟨rfl, rfl⟩, if_pos e1, hS, Nat.min_eq_left (by omega), Nat.min_eq_left (by omega), Int.toNat_natCast, hat]
      exact stJ_set hjr (by omega)
    have eW : (dW x 5 ((at_ + j : Nat) : Int) 0 0 (r.getD j ByteArray.empty)).length ≤ j + 1 := by
      unfold dW waW
      rw [if_pos rfl, if_pos ⟨rfl, rfl⟩, if_pos e1, List.length_append]
      exact Nat.add_le_add_right hW 1
    rw [eE, eS] at h
    generalize dW x 5 ((at_ + j : Nat) : Int) 0 0 (r.getD j ByteArray.empty) = W1 at h eW
    refine h.mono fun e w' ⟨y, h1, h2, _, h4⟩ => ⟨y, h1, ⟨⟨h2.g, h2.eS, by rw [h2.eW]; exact eW, fun hh => by omega, h2.cp hcp⟩, h2.sA, h2.wA, h2.b0, h2.c0⟩, h4⟩
  · obtain rfl : j = r.length := by omega
    have ea : (QdP at_ r).getD r.length Qbl = synA := by
      unfold QdP
      simp [List.getD, List.getElem?_append_right, Qdv]
    rw [ea]
    have h := pdo_c6 w x hok hg htl hA hB [] none 0 0 0 (by simp) (Or.inl rfl) (fun j hj => by simp at hj) 0 0 0 ByteArray.empty
    have eE : dE x 6 0 0 0 ByteArray.empty = 0 := rfl
    have eS : dS x 6 0 0 0 ByteArray.empty = stJ P r (min (r.length + 1) r.length) := by
      rw [show dS x 6 0 0 0 ByteArray.empty = x.S from rfl, hS, Nat.min_self, Nat.min_eq_right (by omega)]
    have eW : dW x 6 0 0 0 ByteArray.empty = [] := rfl
    rw [eE, eS, eW] at h
    refine h.mono fun e w' ⟨y, h1, h2, _, h4⟩ => ⟨y, h1, ⟨⟨h2.g, h2.eS, by rw [h2.eW]; exact Nat.zero_le _, fun _ => h2.eW, h2.cp hcp⟩, h2.sA, h2.wA, h2.b0, h2.c0⟩, h4⟩
section
variable [DF] [KP] [HF] {P : Program} {w0 : World} {r : List Nat} {bs : List Nat} {F : List RF} {a : Act} {w : World} {c : Cfg} {QQ : Exit → Act → World → Prop} [PInv QQ] {B : List Nat} {ro : List Nat} {d : DC}
theorem Qam (i : Nat) (rs : List Nat) (D : Sd w0 r B c.s.K ro bs d.s F a w)
    (h : ∀ bs' a' w', Sd w0 r B c.s.K ro (bs ++ bs') (dO P c ro d i).s F a' w' → B.length ≤ (bs ++ bs').length → Qaf P (Qaz c) (PQ P (kD c) QQ) (QbA B c.s.K ro) (dO P c ro d i).pred (dO P c ro d i).lst a' w' rs)
    (hr : Region.ready .any (Qaz c) (dO P c ro d i).lst = rs := by kernel_rfl) (hlen : B.length ≤ bs.length := by first | assumption | exact Nat.le_refl _) (hs : Region.noSelect (Qaz c) = true := by kernel_rfl) (hi : (opS P (Qaz c) d.s i).isSome = true := by kernel_rfl) (hro : ro.map (fun j => ((opS P (Qaz c) d.s i).getD d.s).K[j]?) = ro.map (fun j => c.s.K[j]?) := by kernel_rfl)
    (hn : ((dO P c ro d i).m != 0) = true := by kernel_rfl) (hne : rs.isEmpty = false := by rfl) : Nxt P (Qaz c) (PQ P (kD c) QQ) (QbA B c.s.K ro) d.pred d.lst a w i :=
  Qbg i D hs hlen hi hro fun bs' a' w' D' hl' => Qac rs hn hr hne (h bs' a' w' D' hl')
theorem Qcc (i : Nat) (D : Sd w0 r B c.s.K ro bs d.s F a w)
    (h : ∀ bs' a' w', Sy w0 r (bs ++ bs') (endD c (dO P c ro d i)).s F a' w' → post P (endD c (dO P c ro d i)).k QQ .normal a' w')
    (hlen : B.length ≤ bs.length := by first | assumption | exact Nat.le_refl _) (hs : Region.noSelect (Qaz c) = true := by kernel_rfl) (hi : (opS P (Qaz c) d.s i).isSome = true := by kernel_rfl) (hro : ro.map (fun j => ((opS P (Qaz c) d.s i).getD d.s).K[j]?) = ro.map (fun j => c.s.K[j]?) := by kernel_rfl)
    (hr : Region.ready .any (Qaz c) (dO P c ro d i).lst = [] := by kernel_rfl) : Nxt P (Qaz c) (PQ P (kD c) QQ) (QbA B c.s.K ro) d.pred d.lst a w i :=
  Qbg i D hs hlen hi hro fun bs' a' w' D' hl' => QaO D' hr fun S => h bs' a' w' S
end
def cfA : Cf := ⟨1, 5, 0, 40, 0⟩
def lyA : List Value := [.int .i64 1, .int .i64 5, .int .i64 0, .int .i64 40, .int .i64 0, .int .i64 0, .int .i64 1, .int .i64 2, .int .i64 3, .int .i64 4, .int .i64 8, .int .i64 8, .int .i64 28]
noncomputable def ap1C : Cfg := ⟨goZ 400 [0] [.code (QaQ Try.f5)], ⟨0, [], []⟩⟩
noncomputable def ap2K (m : Nat) : List It := .code (Qa_ ap1C) :: .rnd m (Qa_ ap1C) :: ap1C.k.tail
noncomputable def Qfv (m : Nat) : Cfg := ⟨goZ 400 [1] (ap2K m), ⟨0, [], []⟩⟩
noncomputable def ap3K (m q : Nat) : List It := goM 100 2 [1] (.code (Qa_ (Qfv m)) :: .rnd q (Qa_ (Qfv m)) :: (Qfv m).k.tail)
structure Ap where
  la : Option Addr
  n0 : Nat
  lc : Nat
  z : Er
  at_ : Nat
  i : Nat
noncomputable def l2S (A : Ap) (x y : Dk) (g n uc j : Nat) : SS := ⟨185, [(0, .v (.slice A.la A.n0 A.lc)), (5, .v (.bool true)), (6, .p 0 0), (8, .v A.z.v), (9, .p 1 0), (11, .p 2 0), (12, .v (.int .i64 (A.at_ : Int))), (13, .v (.int .i64 (A.i : Int))), (14, .v (.slice (some ⟨g, 0, none⟩) n uc)), (15, .v (.int .i64 (j : Int)))], [⟨25, lyA⟩, ⟨30, x.cs⟩, ⟨30, y.cs⟩]⟩
noncomputable def l3S (A : Ap) (x y x' : Dk) (g n uc j : Nat) : SS := ⟨185, [(0, .v (.slice A.la A.n0 A.lc)), (5, .v (.bool true)), (6, .p 0 0), (8, .v A.z.v), (9, .p 1 0), (11, .p 2 0), (12, .v (.int .i64 (A.at_ : Int))), (13, .v (.int .i64 (A.i : Int))), (14, .v (.slice (some ⟨g, 0, none⟩) n uc)), (15, .v (.int .i64 (j : Int))), (17, .p 3 0), (19, .v (.int .i64 0))], [⟨25, lyA⟩, ⟨30, x.cs⟩, ⟨30, y.cs⟩, ⟨30, x'.cs⟩]⟩
def apP (w0 : World) (y : Ending) (w' : World) : Prop := y = .returned (.bool true) ∧ Below w0.heap.size w0 w'
theorem l2_k (w0 : World) (A : Ap) (P : List (Int × Ws)) (r : List ByteArray) (hat : A.at_ = (QaV P).length) (h40 : A.at_ + r.length ≤ 40) (hsz : ∀ s ∈ r, s.size = 32) (y : Dk) (g uc m : Nat) (q j : Nat) (hj : j ≤ r.length) (x x' : Dk) (hx : dvJ P r (j + 1) x') (ih : ∀ (x : Dk) (hx : dvJ P r (j + 1) x) (bs : List Nat) (hbs : bs.length = 3) (aa : Act) (w : World) (S : Sy w0 [] bs (l2S A x y g (r.length + 1) uc (j + 1)) [Qhs g (QdP A.at_ r), Qav x.b x.o x.S, QaU x.c x.p x.W, Qav y.b y.o y.S, QaU y.c y.p y.W, QbP A.z.b A.z.o A.z.l, QaL A.z.l] aa w), post Try.prog (.rnd (q) (Qa_ (Qfv m)) :: (Qfv m).k.tail) (bodyPost Try.prog Try.f5 (apP w0)) .normal aa w) (bs : List Nat) (hbs : bs.length = 4) (aa : Act) (w : World) (S : Sy w0 [] bs (l3S A x y x' g (r.length + 1) uc j) [Qhs g (QdP A.at_ r), Qav x'.b x'.o x'.S, QaU x'.c x'.p x'.W, Qav y.b y.o y.S, QaU y.c y.p y.W, QbP A.z.b A.z.o A.z.l, QaL A.z.l] aa w) : post Try.prog (ap3K m q) (bodyPost Try.prog Try.f5 (apP w0)) .normal aa w := by
  obtain ⟨b0, b1, b2, b3, rfl⟩ : ∃ b0 b1 b2 b3, bs = [b0, b1, b2, b3] := by
    match bs, hbs with
    | [b0, b1, b2, b3], _ => exact ⟨b0, b1, b2, b3, rfl⟩
  refine Qaw (c := ⟨ap3K m q, l3S A x y x' g (r.length + 1) uc j⟩) 16 60 2 S fun bs aa w S => ?_
  refine QaK 69 S (by rw [IntKind.wrap_i64]; omega : IntKind.i64.wrap ((j : Int) + 1) = ((j + 1 : Nat) : Int)) fun S => ?_
  refine Qan ⟨0, [999]⟩ 50 S fun bs aa w S => ?_
  have S2 := S.to [0, 1, 2] (l2S A x' y g (r.length + 1) uc (j + 1)) (by kernel_rfl) (by kernel_rfl) (by kernel_rfl) (by kernel_rfl) (by kernel_rfl)
  refine Qak (k' := (.rnd (q) (Qa_ (Qfv m)) :: (Qfv m).k.tail)) (by kernel_rfl) ?_
  exact ih x' hx _ rfl aa w S2
section
variable {P : List (Int × Ws)} {r : List ByteArray} {j h0 : Nat} {x y : Dk} {w : World} (h : Dvj P r j h0 x y w) {bs : List Nat} (ht : ∀ i, i < bs.length → bs.getD i 0 < h0)
include P r j h0 x y w h bs ht
theorem Dvj.aS (h1 : ∀ i, i < bs.length → ¬(Qav x.b x.o x.S).bl (bs.getD i 0)) : ∀ i, i < bs.length → ¬(Qav y.b y.o y.S).bl (bs.getD i 0) := fun i hi hb => by
  rcases h.b0 with q | q | ⟨q, q2⟩
  · exact hb.2 q
  · have h3 := ht i hi; have h4 := hb.1; omega
  · exact h1 i hi ⟨hb.1.trans q, q2⟩
theorem Dvj.aW (h1 : ∀ i, i < bs.length → ¬(QaU x.c x.p x.W).bl (bs.getD i 0)) : ∀ i, i < bs.length → ¬(QaU y.c y.p y.W).bl (bs.getD i 0) := fun i hi hb => by
  rcases h.c0 with q | q | ⟨q, q2⟩
  · exact hb.2 q
  · have h3 := ht i hi; have h4 := hb.1; omega
  · exact h1 i hi ⟨hb.1.trans q, q2⟩
end
theorem Qhi (w : World) (A : Ap) (P : List (Int × Ws)) (r : List ByteArray) (hat : A.at_ = (QaV P).length) (h40 : A.at_ + r.length ≤ 40) (hsz : ∀ s ∈ r, s.size = 32) (j : Nat) (hj : j ≤ r.length) (x : Dk) (hx : dvJ P r j x) {w0 : World} {q bs : List Nat} {s : SS} {F : List RF} {a : Act} (S : Sy w0 q bs s F a w) (h1 : Qav x.b x.o x.S ∈ F) (h2 : QaU x.c x.p x.W ∈ F) : Calls Try.prog 21 #[.agg #[.slice none 0 0], x.v, accV ((QdP A.at_ r).getD j Qbl)] w fun e w' => ∃ y : Dk, e = .returned (doV y) ∧ Dvj P r (j + 1) w.heap.size x y w' ∧ Below w.heap.size w w' :=
  do_j w P r A.at_ hat h40 hsz j hj x hx (S.fact h1) (S.fact h2)
section
variable (w0 : World) (A : Ap) (P : List (Int × Ws)) (r : List ByteArray) (hat : A.at_ = (QaV P).length) (h40 : A.at_ + r.length ≤ 40) (hsz : ∀ s ∈ r, s.size = 32) (y : Dk) (g uc m : Nat) (q j : Nat) (hj : j ≤ r.length)
include w0 A P r hat h40 hsz y g uc m q j hj
theorem QeQ (x x' : Dk) (hx : dvJ P r (j + 1) x') (ih : ∀ (x : Dk) (hx : dvJ P r (j + 1) x) (bs : List Nat) (hbs : bs.length = 3) (aa : Act) (w : World) (S : Sy w0 [] bs (l2S A x y g (r.length + 1) uc (j + 1)) [Qhs g (QdP A.at_ r), Qav x.b x.o x.S, QaU x.c x.p x.W, Qav y.b y.o y.S, QaU y.c y.p y.W, QbP A.z.b A.z.o A.z.l, QaL A.z.l] aa w), post Try.prog (.rnd (q) (Qa_ (Qfv m)) :: (Qfv m).k.tail) (bodyPost Try.prog Try.f5 (apP w0)) .normal aa w) {kk : Nat} {c0 : Cfg} {bs : List Nat} {aa : Act} {w : World} (S : Sy w0 [] bs c0.s (QaU x'.c x'.p x'.W :: Qav x'.b x'.o x'.S :: [Qhs g (QdP A.at_ r), Qav x.b x.o x.S, QaU x.c x.p x.W, Qav y.b y.o y.S, QaU y.c y.p y.W, QbP A.z.b A.z.o A.z.l, QaL A.z.l]) aa w) (hk : (Qe4 Try.prog ⟨0, [18]⟩ 60 c0).k = ap3K m q) (hp : Qjf [0, 1, 2, kk] (Qe4 Try.prog ⟨0, [18]⟩ 60 c0).s.K.length = true) (hn : (l3S A x y x' g (r.length + 1) uc j).n = (Qe4 Try.prog ⟨0, [18]⟩ 60 c0).s.n) (hK : (l3S A x y x' g (r.length + 1) uc j).K.map some = [0, 1, 2, kk].map fun i => (Qe4 Try.prog ⟨0, [18]⟩ 60 c0).s.K[i]?) (hI : ((l3S A x y x' g (r.length + 1) uc j).T.all fun q => match (Qe4 Try.prog ⟨0, [18]⟩ 60 c0).s.get q.1 with
      | some x => x.inL [0, 1, 2, kk]
      | none => false) = true) (hT : ((l3S A x y x' g (r.length + 1) uc j).T.map fun q => ((Qe4 Try.prog ⟨0, [18]⟩ 60 c0).s.get q.1).map (SV.ren fun i => [0, 1, 2, kk].idxOf i)) = (l3S A x y x' g (r.length + 1) uc j).T.map fun q => some q.2) : post Try.prog c0.k (bodyPost Try.prog Try.f5 (apP w0)) .normal aa w := by
  refine Qan (c := c0) ⟨0, [18]⟩ 60 S fun bs aa w S => ?_
  have S := S.sub (F' := [Qhs g (QdP A.at_ r), Qav x'.b x'.o x'.S, QaU x'.c x'.p x'.W, Qav y.b y.o y.S, QaU y.c y.p y.W, QbP A.z.b A.z.o A.z.l, QaL A.z.l]) (by intro f hf; simp only [List.mem_cons, List.not_mem_nil, or_false] at hf; rcases hf with rfl | rfl | rfl | rfl | rfl | rfl | rfl <;> simp)
  refine Qak (k' := ap3K m q) hk ?_
  exact l2_k w0 A P r hat h40 hsz y g uc m q j hj x x' hx ih _ rfl _ _ (S.to [0, 1, 2, kk] (l3S A x y x' g (r.length + 1) uc j) hp hn hK hI hT)
theorem l2_s (x : Dk) (hx : dvJ P r j x) (ih : ∀ (x : Dk) (hx : dvJ P r (j + 1) x) (bs : List Nat) (hbs : bs.length = 3) (aa : Act) (w : World) (S : Sy w0 [] bs (l2S A x y g (r.length + 1) uc (j + 1)) [Qhs g (QdP A.at_ r), Qav x.b x.o x.S, QaU x.c x.p x.W, Qav y.b y.o y.S, QaU y.c y.p y.W, QbP A.z.b A.z.o A.z.l, QaL A.z.l] aa w), post Try.prog (.rnd (q) (Qa_ (Qfv m)) :: (Qfv m).k.tail) (bodyPost Try.prog Try.f5 (apP w0)) .normal aa w) (bs : List Nat) (hbs : bs.length = 3) (aa : Act) (w : World) (S : Sy w0 [] bs (l2S A x y g (r.length + 1) uc (j)) [Qhs g (QdP A.at_ r), Qav x.b x.o x.S, QaU x.c x.p x.W, Qav y.b y.o y.S, QaU y.c y.p y.W, QbP A.z.b A.z.o A.z.l, QaL A.z.l] aa w) : post Try.prog (.rnd (q + 1) (Qa_ (Qfv m)) :: (Qfv m).k.tail) (bodyPost Try.prog Try.f5 (apP w0)) .normal aa w := by
  obtain ⟨b0, b1, b2, rfl⟩ : ∃ b0 b1 b2, bs = [b0, b1, b2] := by
    match bs, hbs with
    | [b0, b1, b2], _ => exact ⟨b0, b1, b2, rfl⟩
  have hLl := QeP A.at_ r
  refine Qaw (c := ⟨(.rnd (q + 1) (Qa_ (Qfv m)) :: (Qfv m).k.tail), l2S A x y g (r.length + 1) uc j⟩) 15 50 4 S fun bs aa w S => ?_
  refine Qad 67 S (decide_eq_true (by omega) : decide ((j : Int) < (((r.length + 1) : Nat) : Int)) = true) fun S => ?_
  refine Qah S fun bs aa w S => ?_
  letI : HF := ⟨[Qhs g (QdP A.at_ r)]⟩
  refine QaF [1] (by kernel_rfl) (by kernel_rfl) S (by kernel_rfl) (fun aa w D => ?_) (fun f hf => by have e1 : f = Qhs g (QdP A.at_ r) := List.mem_singleton.1 hf; subst e1; simp)
  refine Qbf 4 D (by kernel_rfl) (by kernel_rfl) (by kernel_rfl) (b := g) (off := 0) (len := (r.length + 1)) (n := j) (size := 5) (ix := (j : Int)) (by kernel_rfl) rfl (by omega) fun aa D => ?_
  refine QbE 5 D (by kernel_rfl) (by kernel_rfl) (by kernel_rfl) (ty := 66) (ad := ⟨g, 0 + j * 5, none⟩) (v := accV ((QdP A.at_ r).getD j Qbl)) (fun W hW => ld_ac (show AcAt W g (QdP A.at_ r) from hW (Qhs g (QdP A.at_ r)) (by show _ ∈ [Qhs g (QdP A.at_ r)]; simp)) (by rw [hLl]; omega)) (by kernel_rfl) fun aa D => ?_
  refine Qac [6, 12, 13, 14] (by kernel_rfl) (by kernel_rfl) rfl (na4 ?_ ?_ ?_ ?_)
  · have ht := fun i hi => D.S.lt (i := i) hi
    have h1 := (D.S.fs (Qav x.b x.o x.S) (by simp)).2
    have h2 := (D.S.fs (QaU x.c x.p x.W) (by simp)).2
    refine QaG 6 D (by kernel_rfl) (Qhi w A P r hat h40 hsz j hj x hx D.S (by simp) (by simp)) (by kernel_rfl) fun x' aa w hC hb D => ?_
    have D := (D.addF (Qav x'.b x'.o x'.S) hC.sA (hC.aS ht h1)).addF (QaU x'.c x'.p x'.W) hC.wA (hC.aW ht h2)
    refine Qac [12, 13, 14] (by kernel_rfl) (by kernel_rfl) rfl (na3 ?_ ?_ ?_)
    · refine Qam 12 [13, 14] D fun bs aa w D hl => na2 ?_ ?_
      · refine Qam 13 [14] D fun bs aa w D hl => na1 ?_
        · refine Qam 14 [15] D fun bs aa w D hl => na1 ?_
          · refine Qam 15 [16] D fun bs aa w D hl => na1 ?_
            · refine Qam 16 [17] D fun bs aa w D hl => na1 ?_
              · exact Qcc 17 D fun bs aa w S => QeQ w0 A P r hat h40 hsz y g uc m q j hj x x' hC.j ih (kk := 4) S (by kernel_rfl) (by kernel_rfl) (by kernel_rfl) (by kernel_rfl) (by kernel_rfl) (by kernel_rfl)
      · refine Qam 14 [13] D fun bs aa w D hl => na1 ?_
        · refine Qam 13 [15] D fun bs aa w D hl => na1 ?_
          · refine Qam 15 [16] D fun bs aa w D hl => na1 ?_
            · refine Qam 16 [17] D fun bs aa w D hl => na1 ?_
              · exact Qcc 17 D fun bs aa w S => QeQ w0 A P r hat h40 hsz y g uc m q j hj x x' hC.j ih (kk := 5) S (by kernel_rfl) (by kernel_rfl) (by kernel_rfl) (by kernel_rfl) (by kernel_rfl) (by kernel_rfl)
    · refine Qam 13 [12, 14] D fun bs aa w D hl => na2 ?_ ?_
      · refine Qam 12 [14] D fun bs aa w D hl => na1 ?_
        · refine Qam 14 [15] D fun bs aa w D hl => na1 ?_
          · refine Qam 15 [16] D fun bs aa w D hl => na1 ?_
            · refine Qam 16 [17] D fun bs aa w D hl => na1 ?_
              · exact Qcc 17 D fun bs aa w S => QeQ w0 A P r hat h40 hsz y g uc m q j hj x x' hC.j ih (kk := 3) S (by kernel_rfl) (by kernel_rfl) (by kernel_rfl) (by kernel_rfl) (by kernel_rfl) (by kernel_rfl)
      · refine Qam 14 [12] D fun bs aa w D hl => na1 ?_
        · refine Qam 12 [15] D fun bs aa w D hl => na1 ?_
          · refine Qam 15 [16] D fun bs aa w D hl => na1 ?_
            · refine Qam 16 [17] D fun bs aa w D hl => na1 ?_
              · exact Qcc 17 D fun bs aa w S => QeQ w0 A P r hat h40 hsz y g uc m q j hj x x' hC.j ih (kk := 3) S (by kernel_rfl) (by kernel_rfl) (by kernel_rfl) (by kernel_rfl) (by kernel_rfl) (by kernel_rfl)
    · refine Qam 14 [12, 13] D fun bs aa w D hl => na2 ?_ ?_
      · refine Qam 12 [13] D fun bs aa w D hl => na1 ?_
        · refine Qam 13 [15] D fun bs aa w D hl => na1 ?_
          · refine Qam 15 [16] D fun bs aa w D hl => na1 ?_
            · refine Qam 16 [17] D fun bs aa w D hl => na1 ?_
              · exact Qcc 17 D fun bs aa w S => QeQ w0 A P r hat h40 hsz y g uc m q j hj x x' hC.j ih (kk := 5) S (by kernel_rfl) (by kernel_rfl) (by kernel_rfl) (by kernel_rfl) (by kernel_rfl) (by kernel_rfl)
      · refine Qam 13 [12] D fun bs aa w D hl => na1 ?_
        · refine Qam 12 [15] D fun bs aa w D hl => na1 ?_
          · refine Qam 15 [16] D fun bs aa w D hl => na1 ?_
            · refine Qam 16 [17] D fun bs aa w D hl => na1 ?_
              · exact Qcc 17 D fun bs aa w S => QeQ w0 A P r hat h40 hsz y g uc m q j hj x x' hC.j ih (kk := 4) S (by kernel_rfl) (by kernel_rfl) (by kernel_rfl) (by kernel_rfl) (by kernel_rfl) (by kernel_rfl)
  · refine Qam 12 [6, 13, 14] D fun bs aa w D hl => na3 ?_ ?_ ?_
    · have ht := fun i hi => D.S.lt (i := i) hi
      have h1 := (D.S.fs (Qav x.b x.o x.S) (by simp)).2
      have h2 := (D.S.fs (QaU x.c x.p x.W) (by simp)).2
      refine QaG 6 D (by kernel_rfl) (Qhi w A P r hat h40 hsz j hj x hx D.S (by simp) (by simp)) (by kernel_rfl) fun x' aa w hC hb D => ?_
      have D := (D.addF (Qav x'.b x'.o x'.S) hC.sA (hC.aS ht h1)).addF (QaU x'.c x'.p x'.W) hC.wA (hC.aW ht h2)
      refine Qac [13, 14] (by kernel_rfl) (by kernel_rfl) rfl (na2 ?_ ?_)
      · refine Qam 13 [14] D fun bs aa w D hl => na1 ?_
        · refine Qam 14 [15] D fun bs aa w D hl => na1 ?_
          · refine Qam 15 [16] D fun bs aa w D hl => na1 ?_
            · refine Qam 16 [17] D fun bs aa w D hl => na1 ?_
              · exact Qcc 17 D fun bs aa w S => QeQ w0 A P r hat h40 hsz y g uc m q j hj x x' hC.j ih (kk := 4) S (by kernel_rfl) (by kernel_rfl) (by kernel_rfl) (by kernel_rfl) (by kernel_rfl) (by kernel_rfl)
      · refine Qam 14 [13] D fun bs aa w D hl => na1 ?_
        · refine Qam 13 [15] D fun bs aa w D hl => na1 ?_
          · refine Qam 15 [16] D fun bs aa w D hl => na1 ?_
            · refine Qam 16 [17] D fun bs aa w D hl => na1 ?_
              · exact Qcc 17 D fun bs aa w S => QeQ w0 A P r hat h40 hsz y g uc m q j hj x x' hC.j ih (kk := 5) S (by kernel_rfl) (by kernel_rfl) (by kernel_rfl) (by kernel_rfl) (by kernel_rfl) (by kernel_rfl)
    · refine Qam 13 [6, 14] D fun bs aa w D hl => na2 ?_ ?_
      · have ht := fun i hi => D.S.lt (i := i) hi
        have h1 := (D.S.fs (Qav x.b x.o x.S) (by simp)).2
        have h2 := (D.S.fs (QaU x.c x.p x.W) (by simp)).2
        refine QaG 6 D (by kernel_rfl) (Qhi w A P r hat h40 hsz j hj x hx D.S (by simp) (by simp)) (by kernel_rfl) fun x' aa w hC hb D => ?_
        have D := (D.addF (Qav x'.b x'.o x'.S) hC.sA (hC.aS ht h1)).addF (QaU x'.c x'.p x'.W) hC.wA (hC.aW ht h2)
        refine Qac [14] (by kernel_rfl) (by kernel_rfl) rfl (na1 ?_)
        · refine Qam 14 [15] D fun bs aa w D hl => na1 ?_
          · refine Qam 15 [16] D fun bs aa w D hl => na1 ?_
            · refine Qam 16 [17] D fun bs aa w D hl => na1 ?_
              · exact Qcc 17 D fun bs aa w S => QeQ w0 A P r hat h40 hsz y g uc m q j hj x x' hC.j ih (kk := 4) S (by kernel_rfl) (by kernel_rfl) (by kernel_rfl) (by kernel_rfl) (by kernel_rfl) (by kernel_rfl)
      · refine Qam 14 [6] D fun bs aa w D hl => na1 ?_
        · have ht := fun i hi => D.S.lt (i := i) hi
          have h1 := (D.S.fs (Qav x.b x.o x.S) (by simp)).2
          have h2 := (D.S.fs (QaU x.c x.p x.W) (by simp)).2
          refine QaG 6 D (by kernel_rfl) (Qhi w A P r hat h40 hsz j hj x hx D.S (by simp) (by simp)) (by kernel_rfl) fun x' aa w hC hb D => ?_
          have D := (D.addF (Qav x'.b x'.o x'.S) hC.sA (hC.aS ht h1)).addF (QaU x'.c x'.p x'.W) hC.wA (hC.aW ht h2)
          refine Qac [15] (by kernel_rfl) (by kernel_rfl) rfl (na1 ?_)
          · refine Qam 15 [16] D fun bs aa w D hl => na1 ?_
            · refine Qam 16 [17] D fun bs aa w D hl => na1 ?_
              · exact Qcc 17 D fun bs aa w S => QeQ w0 A P r hat h40 hsz y g uc m q j hj x x' hC.j ih (kk := 4) S (by kernel_rfl) (by kernel_rfl) (by kernel_rfl) (by kernel_rfl) (by kernel_rfl) (by kernel_rfl)
    · refine Qam 14 [6, 13] D fun bs aa w D hl => na2 ?_ ?_
      · have ht := fun i hi => D.S.lt (i := i) hi
        have h1 := (D.S.fs (Qav x.b x.o x.S) (by simp)).2
        have h2 := (D.S.fs (QaU x.c x.p x.W) (by simp)).2
        refine QaG 6 D (by kernel_rfl) (Qhi w A P r hat h40 hsz j hj x hx D.S (by simp) (by simp)) (by kernel_rfl) fun x' aa w hC hb D => ?_
        have D := (D.addF (Qav x'.b x'.o x'.S) hC.sA (hC.aS ht h1)).addF (QaU x'.c x'.p x'.W) hC.wA (hC.aW ht h2)
        refine Qac [13] (by kernel_rfl) (by kernel_rfl) rfl (na1 ?_)
        · refine Qam 13 [15] D fun bs aa w D hl => na1 ?_
          · refine Qam 15 [16] D fun bs aa w D hl => na1 ?_
            · refine Qam 16 [17] D fun bs aa w D hl => na1 ?_
              · exact Qcc 17 D fun bs aa w S => QeQ w0 A P r hat h40 hsz y g uc m q j hj x x' hC.j ih (kk := 5) S (by kernel_rfl) (by kernel_rfl) (by kernel_rfl) (by kernel_rfl) (by kernel_rfl) (by kernel_rfl)
      · refine Qam 13 [6] D fun bs aa w D hl => na1 ?_
        · have ht := fun i hi => D.S.lt (i := i) hi
          have h1 := (D.S.fs (Qav x.b x.o x.S) (by simp)).2
          have h2 := (D.S.fs (QaU x.c x.p x.W) (by simp)).2
          refine QaG 6 D (by kernel_rfl) (Qhi w A P r hat h40 hsz j hj x hx D.S (by simp) (by simp)) (by kernel_rfl) fun x' aa w hC hb D => ?_
          have D := (D.addF (Qav x'.b x'.o x'.S) hC.sA (hC.aS ht h1)).addF (QaU x'.c x'.p x'.W) hC.wA (hC.aW ht h2)
          refine Qac [15] (by kernel_rfl) (by kernel_rfl) rfl (na1 ?_)
          · refine Qam 15 [16] D fun bs aa w D hl => na1 ?_
            · refine Qam 16 [17] D fun bs aa w D hl => na1 ?_
              · exact Qcc 17 D fun bs aa w S => QeQ w0 A P r hat h40 hsz y g uc m q j hj x x' hC.j ih (kk := 5) S (by kernel_rfl) (by kernel_rfl) (by kernel_rfl) (by kernel_rfl) (by kernel_rfl) (by kernel_rfl)
  · refine Qam 13 [6, 12, 14] D fun bs aa w D hl => na3 ?_ ?_ ?_
    · have ht := fun i hi => D.S.lt (i := i) hi
      have h1 := (D.S.fs (Qav x.b x.o x.S) (by simp)).2
      have h2 := (D.S.fs (QaU x.c x.p x.W) (by simp)).2
      refine QaG 6 D (by kernel_rfl) (Qhi w A P r hat h40 hsz j hj x hx D.S (by simp) (by simp)) (by kernel_rfl) fun x' aa w hC hb D => ?_
      have D := (D.addF (Qav x'.b x'.o x'.S) hC.sA (hC.aS ht h1)).addF (QaU x'.c x'.p x'.W) hC.wA (hC.aW ht h2)
      refine Qac [12, 14] (by kernel_rfl) (by kernel_rfl) rfl (na2 ?_ ?_)
      · refine Qam 12 [14] D fun bs aa w D hl => na1 ?_
        · refine Qam 14 [15] D fun bs aa w D hl => na1 ?_
          · refine Qam 15 [16] D fun bs aa w D hl => na1 ?_
            · refine Qam 16 [17] D fun bs aa w D hl => na1 ?_
              · exact Qcc 17 D fun bs aa w S => QeQ w0 A P r hat h40 hsz y g uc m q j hj x x' hC.j ih (kk := 3) S (by kernel_rfl) (by kernel_rfl) (by kernel_rfl) (by kernel_rfl) (by kernel_rfl) (by kernel_rfl)
      · refine Qam 14 [12] D fun bs aa w D hl => na1 ?_
        · refine Qam 12 [15] D fun bs aa w D hl => na1 ?_
          · refine Qam 15 [16] D fun bs aa w D hl => na1 ?_
            · refine Qam 16 [17] D fun bs aa w D hl => na1 ?_
              · exact Qcc 17 D fun bs aa w S => QeQ w0 A P r hat h40 hsz y g uc m q j hj x x' hC.j ih (kk := 3) S (by kernel_rfl) (by kernel_rfl) (by kernel_rfl) (by kernel_rfl) (by kernel_rfl) (by kernel_rfl)
    · refine Qam 12 [6, 14] D fun bs aa w D hl => na2 ?_ ?_
      · have ht := fun i hi => D.S.lt (i := i) hi
        have h1 := (D.S.fs (Qav x.b x.o x.S) (by simp)).2
        have h2 := (D.S.fs (QaU x.c x.p x.W) (by simp)).2
        refine QaG 6 D (by kernel_rfl) (Qhi w A P r hat h40 hsz j hj x hx D.S (by simp) (by simp)) (by kernel_rfl) fun x' aa w hC hb D => ?_
        have D := (D.addF (Qav x'.b x'.o x'.S) hC.sA (hC.aS ht h1)).addF (QaU x'.c x'.p x'.W) hC.wA (hC.aW ht h2)
        refine Qac [14] (by kernel_rfl) (by kernel_rfl) rfl (na1 ?_)
        · refine Qam 14 [15] D fun bs aa w D hl => na1 ?_
          · refine Qam 15 [16] D fun bs aa w D hl => na1 ?_
            · refine Qam 16 [17] D fun bs aa w D hl => na1 ?_
              · exact Qcc 17 D fun bs aa w S => QeQ w0 A P r hat h40 hsz y g uc m q j hj x x' hC.j ih (kk := 3) S (by kernel_rfl) (by kernel_rfl) (by kernel_rfl) (by kernel_rfl) (by kernel_rfl) (by kernel_rfl)
      · refine Qam 14 [6] D fun bs aa w D hl => na1 ?_
        · have ht := fun i hi => D.S.lt (i := i) hi
          have h1 := (D.S.fs (Qav x.b x.o x.S) (by simp)).2
          have h2 := (D.S.fs (QaU x.c x.p x.W) (by simp)).2
          refine QaG 6 D (by kernel_rfl) (Qhi w A P r hat h40 hsz j hj x hx D.S (by simp) (by simp)) (by kernel_rfl) fun x' aa w hC hb D => ?_
          have D := (D.addF (Qav x'.b x'.o x'.S) hC.sA (hC.aS ht h1)).addF (QaU x'.c x'.p x'.W) hC.wA (hC.aW ht h2)
          refine Qac [15] (by kernel_rfl) (by kernel_rfl) rfl (na1 ?_)
          · refine Qam 15 [16] D fun bs aa w D hl => na1 ?_
            · refine Qam 16 [17] D fun bs aa w D hl => na1 ?_
              · exact Qcc 17 D fun bs aa w S => QeQ w0 A P r hat h40 hsz y g uc m q j hj x x' hC.j ih (kk := 3) S (by kernel_rfl) (by kernel_rfl) (by kernel_rfl) (by kernel_rfl) (by kernel_rfl) (by kernel_rfl)
    · refine Qam 14 [6, 12] D fun bs aa w D hl => na2 ?_ ?_
      · have ht := fun i hi => D.S.lt (i := i) hi
        have h1 := (D.S.fs (Qav x.b x.o x.S) (by simp)).2
        have h2 := (D.S.fs (QaU x.c x.p x.W) (by simp)).2
        refine QaG 6 D (by kernel_rfl) (Qhi w A P r hat h40 hsz j hj x hx D.S (by simp) (by simp)) (by kernel_rfl) fun x' aa w hC hb D => ?_
        have D := (D.addF (Qav x'.b x'.o x'.S) hC.sA (hC.aS ht h1)).addF (QaU x'.c x'.p x'.W) hC.wA (hC.aW ht h2)
        refine Qac [12] (by kernel_rfl) (by kernel_rfl) rfl (na1 ?_)
        · refine Qam 12 [15] D fun bs aa w D hl => na1 ?_
          · refine Qam 15 [16] D fun bs aa w D hl => na1 ?_
            · refine Qam 16 [17] D fun bs aa w D hl => na1 ?_
              · exact Qcc 17 D fun bs aa w S => QeQ w0 A P r hat h40 hsz y g uc m q j hj x x' hC.j ih (kk := 3) S (by kernel_rfl) (by kernel_rfl) (by kernel_rfl) (by kernel_rfl) (by kernel_rfl) (by kernel_rfl)
      · refine Qam 12 [6] D fun bs aa w D hl => na1 ?_
        · have ht := fun i hi => D.S.lt (i := i) hi
          have h1 := (D.S.fs (Qav x.b x.o x.S) (by simp)).2
          have h2 := (D.S.fs (QaU x.c x.p x.W) (by simp)).2
          refine QaG 6 D (by kernel_rfl) (Qhi w A P r hat h40 hsz j hj x hx D.S (by simp) (by simp)) (by kernel_rfl) fun x' aa w hC hb D => ?_
          have D := (D.addF (Qav x'.b x'.o x'.S) hC.sA (hC.aS ht h1)).addF (QaU x'.c x'.p x'.W) hC.wA (hC.aW ht h2)
          refine Qac [15] (by kernel_rfl) (by kernel_rfl) rfl (na1 ?_)
          · refine Qam 15 [16] D fun bs aa w D hl => na1 ?_
            · refine Qam 16 [17] D fun bs aa w D hl => na1 ?_
              · exact Qcc 17 D fun bs aa w S => QeQ w0 A P r hat h40 hsz y g uc m q j hj x x' hC.j ih (kk := 3) S (by kernel_rfl) (by kernel_rfl) (by kernel_rfl) (by kernel_rfl) (by kernel_rfl) (by kernel_rfl)
  · refine Qam 14 [6, 12, 13] D fun bs aa w D hl => na3 ?_ ?_ ?_
    · have ht := fun i hi => D.S.lt (i := i) hi
      have h1 := (D.S.fs (Qav x.b x.o x.S) (by simp)).2
      have h2 := (D.S.fs (QaU x.c x.p x.W) (by simp)).2
      refine QaG 6 D (by kernel_rfl) (Qhi w A P r hat h40 hsz j hj x hx D.S (by simp) (by simp)) (by kernel_rfl) fun x' aa w hC hb D => ?_
      have D := (D.addF (Qav x'.b x'.o x'.S) hC.sA (hC.aS ht h1)).addF (QaU x'.c x'.p x'.W) hC.wA (hC.aW ht h2)
      refine Qac [12, 13] (by kernel_rfl) (by kernel_rfl) rfl (na2 ?_ ?_)
      · refine Qam 12 [13] D fun bs aa w D hl => na1 ?_
        · refine Qam 13 [15] D fun bs aa w D hl => na1 ?_
          · refine Qam 15 [16] D fun bs aa w D hl => na1 ?_
            · refine Qam 16 [17] D fun bs aa w D hl => na1 ?_
              · exact Qcc 17 D fun bs aa w S => QeQ w0 A P r hat h40 hsz y g uc m q j hj x x' hC.j ih (kk := 5) S (by kernel_rfl) (by kernel_rfl) (by kernel_rfl) (by kernel_rfl) (by kernel_rfl) (by kernel_rfl)
      · refine Qam 13 [12] D fun bs aa w D hl => na1 ?_
        · refine Qam 12 [15] D fun bs aa w D hl => na1 ?_
          · refine Qam 15 [16] D fun bs aa w D hl => na1 ?_
            · refine Qam 16 [17] D fun bs aa w D hl => na1 ?_
              · exact Qcc 17 D fun bs aa w S => QeQ w0 A P r hat h40 hsz y g uc m q j hj x x' hC.j ih (kk := 4) S (by kernel_rfl) (by kernel_rfl) (by kernel_rfl) (by kernel_rfl) (by kernel_rfl) (by kernel_rfl)
    · refine Qam 12 [6, 13] D fun bs aa w D hl => na2 ?_ ?_
      · have ht := fun i hi => D.S.lt (i := i) hi
        have h1 := (D.S.fs (Qav x.b x.o x.S) (by simp)).2
        have h2 := (D.S.fs (QaU x.c x.p x.W) (by simp)).2
        refine QaG 6 D (by kernel_rfl) (Qhi w A P r hat h40 hsz j hj x hx D.S (by simp) (by simp)) (by kernel_rfl) fun x' aa w hC hb D => ?_
        have D := (D.addF (Qav x'.b x'.o x'.S) hC.sA (hC.aS ht h1)).addF (QaU x'.c x'.p x'.W) hC.wA (hC.aW ht h2)
        refine Qac [13] (by kernel_rfl) (by kernel_rfl) rfl (na1 ?_)
        · refine Qam 13 [15] D fun bs aa w D hl => na1 ?_
          · refine Qam 15 [16] D fun bs aa w D hl => na1 ?_
            · refine Qam 16 [17] D fun bs aa w D hl => na1 ?_
              · exact Qcc 17 D fun bs aa w S => QeQ w0 A P r hat h40 hsz y g uc m q j hj x x' hC.j ih (kk := 5) S (by kernel_rfl) (by kernel_rfl) (by kernel_rfl) (by kernel_rfl) (by kernel_rfl) (by kernel_rfl)
      · refine Qam 13 [6] D fun bs aa w D hl => na1 ?_
        · have ht := fun i hi => D.S.lt (i := i) hi
          have h1 := (D.S.fs (Qav x.b x.o x.S) (by simp)).2
          have h2 := (D.S.fs (QaU x.c x.p x.W) (by simp)).2
          refine QaG 6 D (by kernel_rfl) (Qhi w A P r hat h40 hsz j hj x hx D.S (by simp) (by simp)) (by kernel_rfl) fun x' aa w hC hb D => ?_
          have D := (D.addF (Qav x'.b x'.o x'.S) hC.sA (hC.aS ht h1)).addF (QaU x'.c x'.p x'.W) hC.wA (hC.aW ht h2)
          refine Qac [15] (by kernel_rfl) (by kernel_rfl) rfl (na1 ?_)
          · refine Qam 15 [16] D fun bs aa w D hl => na1 ?_
            · refine Qam 16 [17] D fun bs aa w D hl => na1 ?_
              · exact Qcc 17 D fun bs aa w S => QeQ w0 A P r hat h40 hsz y g uc m q j hj x x' hC.j ih (kk := 5) S (by kernel_rfl) (by kernel_rfl) (by kernel_rfl) (by kernel_rfl) (by kernel_rfl) (by kernel_rfl)
    · refine Qam 13 [6, 12] D fun bs aa w D hl => na2 ?_ ?_
      · have ht := fun i hi => D.S.lt (i := i) hi
        have h1 := (D.S.fs (Qav x.b x.o x.S) (by simp)).2
        have h2 := (D.S.fs (QaU x.c x.p x.W) (by simp)).2
        refine QaG 6 D (by kernel_rfl) (Qhi w A P r hat h40 hsz j hj x hx D.S (by simp) (by simp)) (by kernel_rfl) fun x' aa w hC hb D => ?_
        have D := (D.addF (Qav x'.b x'.o x'.S) hC.sA (hC.aS ht h1)).addF (QaU x'.c x'.p x'.W) hC.wA (hC.aW ht h2)
        refine Qac [12] (by kernel_rfl) (by kernel_rfl) rfl (na1 ?_)
        · refine Qam 12 [15] D fun bs aa w D hl => na1 ?_
          · refine Qam 15 [16] D fun bs aa w D hl => na1 ?_
            · refine Qam 16 [17] D fun bs aa w D hl => na1 ?_
              · exact Qcc 17 D fun bs aa w S => QeQ w0 A P r hat h40 hsz y g uc m q j hj x x' hC.j ih (kk := 4) S (by kernel_rfl) (by kernel_rfl) (by kernel_rfl) (by kernel_rfl) (by kernel_rfl) (by kernel_rfl)
      · refine Qam 12 [6] D fun bs aa w D hl => na1 ?_
        · have ht := fun i hi => D.S.lt (i := i) hi
          have h1 := (D.S.fs (Qav x.b x.o x.S) (by simp)).2
          have h2 := (D.S.fs (QaU x.c x.p x.W) (by simp)).2
          refine QaG 6 D (by kernel_rfl) (Qhi w A P r hat h40 hsz j hj x hx D.S (by simp) (by simp)) (by kernel_rfl) fun x' aa w hC hb D => ?_
          have D := (D.addF (Qav x'.b x'.o x'.S) hC.sA (hC.aS ht h1)).addF (QaU x'.c x'.p x'.W) hC.wA (hC.aW ht h2)
          refine Qac [15] (by kernel_rfl) (by kernel_rfl) rfl (na1 ?_)
          · refine Qam 15 [16] D fun bs aa w D hl => na1 ?_
            · refine Qam 16 [17] D fun bs aa w D hl => na1 ?_
              · exact Qcc 17 D fun bs aa w S => QeQ w0 A P r hat h40 hsz y g uc m q j hj x x' hC.j ih (kk := 4) S (by kernel_rfl) (by kernel_rfl) (by kernel_rfl) (by kernel_rfl) (by kernel_rfl) (by kernel_rfl)
end
def Ap.up (A : Ap) (at_ i : Nat) : Ap := ⟨A.la, A.n0, A.lc, A.z, at_, i⟩
noncomputable def l1S (A : Ap) (x y : Dk) : SS := ⟨185, [(0, .v (.slice A.la A.n0 A.lc)), (5, .v (.bool true)), (6, .p 0 0), (8, .v A.z.v), (9, .p 1 0), (11, .p 2 0), (12, .v (.int .i64 (A.at_ : Int))), (13, .v (.int .i64 (A.i : Int)))], [⟨25, lyA⟩, ⟨30, x.cs⟩, ⟨30, y.cs⟩]⟩
def atI (l : List Nat) (i : Nat) : Nat := (QaV (Qbr l i)).length
theorem Qln {l : List Nat} {z : Er} (hz : z.l.map prE = Qbr l l.length) {i : Nat} (hi : i < l.length) : prE (z.l.getD i e00) = Qd_ i (l.getD i 0) ∧ z.l.getD i e00 ∈ z.l := by
  have hn : z.l.length = l.length := by have := congrArg List.length hz; rwa [List.length_map, QcE] at this
  have h1 : z.l.getD i e00 = z.l[i] := by simp [List.getD, List.getElem?_eq_getElem (show i < z.l.length by omega)]
  refine ⟨?_, by rw [h1]; exact List.getElem_mem _⟩
  have h2 := congrArg (fun q => q[i]?) hz
  simp only [List.getElem?_map, Qbr, List.getElem?_range hi, List.getElem?_eq_getElem (show i < z.l.length by omega), Option.map_some, Option.some.injEq] at h2
  rw [h1, h2]
theorem rec_i {l : List Nat} (hl8 : l.length ≤ 8) (h256 : ∀ b ∈ l, b < 256) {z : Er} (hz : z.l.map prE = Qbr l l.length) {i : Nat} (hi : i < l.length) : atI l (i + 1) = atI l i + (QaD (z.l.getD i e00).ver (z.l.getD i e00).ws).length ∧ atI l (i + 1) ≤ 40 ∧ stJ (Qbr l i) (QaD (z.l.getD i e00).ver (z.l.getD i e00).ws) (QaD (z.l.getD i e00).ver (z.l.getD i e00).ws).length = QdA (Qbr l (i + 1)) := by
  obtain ⟨h1, _⟩ := Qln hz hi
  have e1 : (z.l.getD i e00).ver = (Qd_ i (l.getD i 0)).1 := congrArg Prod.fst h1
  have e2 : (z.l.getD i e00).ws = (Qd_ i (l.getD i 0)).2 := congrArg Prod.snd h1
  have h3 := QeM l h256 (i + 1) (by omega) (by omega)
  rw [e1, e2, stJ_all, ← QcT]
  unfold atI
  refine ⟨by rw [QcT, Qel, List.length_append], by omega, rfl⟩
def rcV (n : Nat) (q : Nat × Nat) : Value := .slice (some ⟨q.1, 0, none⟩) n q.2
theorem record_c (w : World) (e : Et) (hok : e.ok) (hfg : Qdd e.ver e.ws) (hA : QdC w e.b e.o e.ws) (at_ : Nat) (hat : at_ ≤ 1000) : Calls Try.prog 20 #[e.v, .int .i64 (at_ : Int)] w fun y w' => ∃ q, y = .returned (rcV ((QaD e.ver e.ws).length + 1) q) ∧ (w.heap.size ≤ q.1 ∧ AcAt w' q.1 (QdP at_ (QaD e.ver e.ws))) ∧ Below w.heap.size w w' :=
  (record_t w e hok hfg hA at_ hat).mono fun y w' ⟨u, h1, h2, h3⟩ => by
    obtain ⟨g, c, rfl, h4, h5⟩ := ac_of h2 (by rw [QeP]; omega)
    rw [QeP] at h1
    exact ⟨(g, c), h1, ⟨h4, h5⟩, h3⟩
section
variable (w0 : World) (l : List Nat) (hl8 : l.length ≤ 8) (h256 : ∀ b ∈ l, b < 256) (A : Ap) (hz : A.z.l.map prE = Qbr l l.length) (hza : A.z.l.length = 0 ∨ A.z.a = some ⟨A.z.b, A.z.o, none⟩) (hze : ∀ e ∈ A.z.l, e.ok ∧ Qdd e.ver e.ws) (hi : A.i < l.length) (hat : A.at_ = atI l A.i)
include w0 l hl8 h256 A hz hza hze hi hat
theorem l2_e (m : Nat) (ih : ∀ (x y : Dk) (hx : (x.gen ∧ x.S = QdA (Qbr l (A.i + 1)) ∧ x.W = [] ∧ x.sl ≤ x.sc)) (hy : (y.gen ∧ y.S = QdA (Qbr l (A.i)) ∧ y.W = [] ∧ y.sl ≤ y.sc)) (bs : List Nat) (hbs : bs.length = 3) (aa : Act) (w : World) (S : Sy w0 [] bs (l1S (A.up (atI l (A.i + 1)) (A.i + 1)) x y) [Qav x.b x.o x.S, QaU x.c x.p x.W, Qav y.b y.o y.S, QaU y.c y.p y.W, QbP A.z.b A.z.o A.z.l, QaL A.z.l] aa w), post Try.prog (.rnd (m) (Qa_ ap1C) :: ap1C.k.tail) (bodyPost Try.prog Try.f5 (apP w0)) .normal aa w) (y : Dk) (hy : (y.gen ∧ y.S = QdA (Qbr l (A.i)) ∧ y.W = [] ∧ y.sl ≤ y.sc)) (g uc q : Nat) (x : Dk) (hx : dvJ (Qbr l A.i) (QaD (A.z.l.getD A.i e00).ver (A.z.l.getD A.i e00).ws) ((QaD (A.z.l.getD A.i e00).ver (A.z.l.getD A.i e00).ws).length + 1) x) (bs : List Nat) (hbs : bs.length = 3) (aa : Act) (w : World) (S : Sy w0 [] bs (l2S A x y g ((QaD (A.z.l.getD A.i e00).ver (A.z.l.getD A.i e00).ws).length + 1) uc (((QaD (A.z.l.getD A.i e00).ver (A.z.l.getD A.i e00).ws).length + 1))) [Qhs g (QdP A.at_ (QaD (A.z.l.getD A.i e00).ver (A.z.l.getD A.i e00).ws)), Qav x.b x.o x.S, QaU x.c x.p x.W, Qav y.b y.o y.S, QaU y.c y.p y.W, QbP A.z.b A.z.o A.z.l, QaL A.z.l] aa w) : post Try.prog (.rnd (q + 1) (Qa_ (Qfv m)) :: (Qfv m).k.tail) (bodyPost Try.prog Try.f5 (apP w0)) .normal aa w := by
  obtain ⟨b0, b1, b2, rfl⟩ : ∃ b0 b1 b2, bs = [b0, b1, b2] := by
    match bs, hbs with
    | [b0, b1, b2], _ => exact ⟨b0, b1, b2, rfl⟩
  obtain ⟨e1, e2, e3⟩ := rec_i hl8 h256 hz hi
  obtain ⟨g1, g2, g3, g4, g5⟩ := hx
  rw [Nat.min_eq_right (by omega), e3] at g2
  have h40 : A.at_ + (QaD (A.z.l.getD A.i e00).ver (A.z.l.getD A.i e00).ws).length ≤ 40 := by omega
  generalize hR : (QaD (A.z.l.getD A.i e00).ver (A.z.l.getD A.i e00).ws) = r at *
  refine Qaw (c := ⟨(.rnd (q + 1) (Qa_ (Qfv m)) :: (Qfv m).k.tail), l2S A x y g (r.length + 1) uc (r.length + 1)⟩) 15 50 4 S fun bs aa w S => ?_
  refine Qad 67 S (decide_eq_false (by omega) : decide (((r.length + 1 : Nat) : Int) < ((r.length + 1 : Nat) : Int)) = false) fun S => ?_
  refine Qaw 21 60 4 S fun bs aa w S => ?_
  refine QaK 88 S (by rw [IntKind.wrap_i64]; omega : IntKind.i64.wrap ((A.at_ : Int) + ((r.length + 1 : Nat) : Int)) = ((A.at_ + r.length + 1 : Nat) : Int)) fun S => ?_
  refine Qao 1 S fun bs aa w S => ?_
  refine QaK 89 S (by rw [IntKind.wrap_i64]; omega : IntKind.i64.wrap (((A.at_ + r.length + 1 : Nat) : Int) - 1) = ((A.at_ + r.length : Nat) : Int)) fun S => ?_
  refine Qaw 11 60 2 S fun bs aa w S => ?_
  refine QaK 56 S (by rw [IntKind.wrap_i64]; omega : IntKind.i64.wrap ((A.i : Int) + 1) = ((A.i + 1 : Nat) : Int)) fun S => ?_
  refine Qan ⟨0, [999]⟩ 50 S fun bs aa w S => ?_
  have S := S.sub (F' := [Qav x.b x.o x.S, QaU x.c x.p x.W, Qav y.b y.o y.S, QaU y.c y.p y.W, QbP A.z.b A.z.o A.z.l, QaL A.z.l]) (by intro f hf; simp only [List.mem_cons, List.not_mem_nil, or_false] at hf; rcases hf with rfl | rfl | rfl | rfl | rfl | rfl <;> simp)
  have e4 : atI l (A.i + 1) = A.at_ + r.length := by rw [hat]; exact e1
  have S2 := S.to [0, 1, 2] (l1S (A.up (A.at_ + r.length) (A.i + 1)) x y) (by kernel_rfl) (by kernel_rfl) (by kernel_rfl) (by kernel_rfl) (by kernel_rfl)
  refine Qak (k' := (.rnd (m) (Qa_ ap1C) :: ap1C.k.tail)) (by kernel_rfl) ?_
  rw [← e4] at S2
  exact ih x y ⟨g1, g2, g4 rfl, g5⟩ hy _ rfl aa w S2
theorem l2_a (h40 : A.at_ + (QaD (A.z.l.getD A.i e00).ver (A.z.l.getD A.i e00).ws).length ≤ 40) (hsz : ∀ s ∈ (QaD (A.z.l.getD A.i e00).ver (A.z.l.getD A.i e00).ws), s.size = 32) (m : Nat) (ih : ∀ (x y : Dk) (hx : (x.gen ∧ x.S = QdA (Qbr l (A.i + 1)) ∧ x.W = [] ∧ x.sl ≤ x.sc)) (hy : (y.gen ∧ y.S = QdA (Qbr l (A.i)) ∧ y.W = [] ∧ y.sl ≤ y.sc)) (bs : List Nat) (hbs : bs.length = 3) (aa : Act) (w : World) (S : Sy w0 [] bs (l1S (A.up (atI l (A.i + 1)) (A.i + 1)) x y) [Qav x.b x.o x.S, QaU x.c x.p x.W, Qav y.b y.o y.S, QaU y.c y.p y.W, QbP A.z.b A.z.o A.z.l, QaL A.z.l] aa w), post Try.prog (.rnd (m) (Qa_ ap1C) :: ap1C.k.tail) (bodyPost Try.prog Try.f5 (apP w0)) .normal aa w) (y : Dk) (hy : (y.gen ∧ y.S = QdA (Qbr l (A.i)) ∧ y.W = [] ∧ y.sl ≤ y.sc)) (g uc : Nat) : ∀ (q j : Nat), j + q = ((QaD (A.z.l.getD A.i e00).ver (A.z.l.getD A.i e00).ws).length + 1) → ∀ (x : Dk) (hx : dvJ (Qbr l A.i) (QaD (A.z.l.getD A.i e00).ver (A.z.l.getD A.i e00).ws) j x) (bs : List Nat) (hbs : bs.length = 3) (aa : Act) (w : World) (S : Sy w0 [] bs (l2S A x y g ((QaD (A.z.l.getD A.i e00).ver (A.z.l.getD A.i e00).ws).length + 1) uc (j)) [Qhs g (QdP A.at_ (QaD (A.z.l.getD A.i e00).ver (A.z.l.getD A.i e00).ws)), Qav x.b x.o x.S, QaU x.c x.p x.W, Qav y.b y.o y.S, QaU y.c y.p y.W, QbP A.z.b A.z.o A.z.l, QaL A.z.l] aa w), post Try.prog (.rnd (q + 1) (Qa_ (Qfv m)) :: (Qfv m).k.tail) (bodyPost Try.prog Try.f5 (apP w0)) .normal aa w := by
  intro q
  induction q with
  | zero => intro j hj x hx bs hbs aa w S; obtain rfl : j = ((QaD (A.z.l.getD A.i e00).ver (A.z.l.getD A.i e00).ws).length + 1) := by omega
            exact l2_e w0 l hl8 h256 A hz hza hze hi hat m ih y hy g uc 0 x hx bs hbs aa w S
  | succ q ihq =>
    intro j hj x hx bs hbs aa w S
    exact l2_s w0 A (Qbr l A.i) (QaD (A.z.l.getD A.i e00).ver (A.z.l.getD A.i e00).ws) hat h40 hsz y g uc m (q + 1) j (by omega) x hx (fun x hx bs hbs aa w S => ihq (j + 1) (by omega) x hx bs hbs aa w S) bs hbs aa w S
theorem l1_s (m : Nat) (ih : ∀ (x y : Dk) (hx : (x.gen ∧ x.S = QdA (Qbr l (A.i + 1)) ∧ x.W = [] ∧ x.sl ≤ x.sc)) (hy : (y.gen ∧ y.S = QdA (Qbr l (A.i)) ∧ y.W = [] ∧ y.sl ≤ y.sc)) (bs : List Nat) (hbs : bs.length = 3) (aa : Act) (w : World) (S : Sy w0 [] bs (l1S (A.up (atI l (A.i + 1)) (A.i + 1)) x y) [Qav x.b x.o x.S, QaU x.c x.p x.W, Qav y.b y.o y.S, QaU y.c y.p y.W, QbP A.z.b A.z.o A.z.l, QaL A.z.l] aa w), post Try.prog (.rnd (m) (Qa_ ap1C) :: ap1C.k.tail) (bodyPost Try.prog Try.f5 (apP w0)) .normal aa w) (x y : Dk) (hx : (x.gen ∧ x.S = QdA (Qbr l (A.i)) ∧ x.W = [] ∧ x.sl ≤ x.sc)) (bs : List Nat) (hbs : bs.length = 3) (aa : Act) (w : World) (S : Sy w0 [] bs (l1S A x y) [Qav x.b x.o x.S, QaU x.c x.p x.W, Qav y.b y.o y.S, QaU y.c y.p y.W, QbP A.z.b A.z.o A.z.l, QaL A.z.l] aa w) : post Try.prog (.rnd (m + 1) (Qa_ ap1C) :: ap1C.k.tail) (bodyPost Try.prog Try.f5 (apP w0)) .normal aa w := by
  obtain ⟨b0, b1, b2, rfl⟩ : ∃ b0 b1 b2, bs = [b0, b1, b2] := by
    match bs, hbs with
    | [b0, b1, b2], _ => exact ⟨b0, b1, b2, rfl⟩
  obtain ⟨e1, e2, e3⟩ := rec_i hl8 h256 hz hi
  obtain ⟨p1, p2⟩ := Qln hz hi
  have hn : A.z.l.length = l.length := by have := congrArg List.length hz; rwa [List.length_map, QcE] at this
  obtain ⟨q1, q2⟩ := hze _ p2
  have h40 : A.at_ + (QaD (A.z.l.getD A.i e00).ver (A.z.l.getD A.i e00).ws).length ≤ 40 := by omega
  have hsz : ∀ s ∈ (QaD (A.z.l.getD A.i e00).ver (A.z.l.getD A.i e00).ws), s.size = 32 := QfI q2
  have hat1 : A.at_ ≤ 1000 := by omega
  refine Qaw (c := ⟨(.rnd (m + 1) (Qa_ ap1C) :: ap1C.k.tail), l1S A x y⟩) 10 50 4 S fun bs aa w S => ?_
  refine Qad 54 S (decide_eq_true (by omega) : decide ((A.i : Int) < (A.z.l.length : Int)) = true) fun S => ?_
  refine Qaw 13 60 2 S fun bs aa w S => ?_
  refine Qde (b := A.z.b) (off := A.z.o) (len := A.z.l.length) (n := A.i) (size := 2) (i := (A.i : Int)) S (by rw [← hza.resolve_left (by omega)]; kernel_rfl) rfl (by omega) fun aa S => ?_
  refine Qcz S (ld_en (j := A.i) (es := A.z.l) (S.fact (f := QbP A.z.b A.z.o A.z.l) (by simp)) (show A.i < A.z.l.length by omega)) (by kernel_rfl) fun aa S => ?_
  refine Qao 1 S fun bs aa w S => ?_
  refine Qbc S fun bs2 S => ?_
  have hlt := fun i hi => S.lt (i := i) hi
  have hWr : QdC w (A.z.l.getD A.i e00).b (A.z.l.getD A.i e00).o (A.z.l.getD A.i e00).ws := (S.fact (f := QaL A.z.l) (by simp)) _ p2
  refine Qa7 S (record_c w (A.z.l.getD A.i e00) q1 q2 hWr A.at_ hat1) (by kernel_rfl) fun q aa w1 hC hb S => ?_
  obtain ⟨g, uc⟩ := q
  have S := S.add (Qhs g (QdP A.at_ (QaD (A.z.l.getD A.i e00).ver (A.z.l.getD A.i e00).ws))) hC.2 (fun i hi hb => by have := hlt i hi; have := hb.1; have : _ ≤ g := hC.1; omega)
  obtain ⟨RL, hRL⟩ : ∃ RL, (QaD (A.z.l.getD A.i e00).ver (A.z.l.getD A.i e00).ws).length + 1 = RL := ⟨_, rfl⟩
  refine Qah S fun bs aa w S => ?_
  have S := S.sub (F' := [Qhs g (QdP A.at_ (QaD (A.z.l.getD A.i e00).ver (A.z.l.getD A.i e00).ws)), Qav x.b x.o x.S, QaU x.c x.p x.W, Qav x.b x.o x.S, QaU x.c x.p x.W, QbP A.z.b A.z.o A.z.l, QaL A.z.l]) (by intro f hf; simp only [List.mem_cons, List.not_mem_nil, or_false] at hf; rcases hf with rfl | rfl | rfl | rfl | rfl | rfl | rfl <;> simp)
  have S2 := S.to [0, 1, 2] (l2S A x x g ((QaD (A.z.l.getD A.i e00).ver (A.z.l.getD A.i e00).ws).length + 1) uc 0) (by kernel_rfl) (by kernel_rfl) (by kernel_rfl) (by kernel_rfl) (by kernel_rfl)
  refine QaS (((QaD (A.z.l.getD A.i e00).ver (A.z.l.getD A.i e00).ws).length + 1) + 1) (by kernel_rfl) ?_
  refine Qak (k' := (.rnd (((QaD (A.z.l.getD A.i e00).ver (A.z.l.getD A.i e00).ws).length + 1) + 1) (Qa_ (Qfv m)) :: (Qfv m).k.tail)) (by kernel_rfl) ?_
  exact l2_a w0 l hl8 h256 A hz hza hze hi hat h40 hsz m ih x hx g uc ((QaD (A.z.l.getD A.i e00).ver (A.z.l.getD A.i e00).ws).length + 1) 0 (by omega) x ⟨hx.1, by rw [Nat.zero_min, stJ_0]; exact hx.2.1, by rw [hx.2.2.1]; exact Nat.le_refl _, fun h => by omega, hx.2.2.2⟩ _ rfl aa _ S2
end
section
open EX
theorem rval_0 (w : World) : Calls Try.prog 26 #[.agg lyA.toArray, .int .i64 0] w fun e w' => e = .returned (.int .i64 9) ∧ Below w.heap.size w w' :=
  @Qcr noFC _ QcQ Qbm 100000 _ _ [.g [.v (.int .i64 1), .v (.int .i64 5), .v (.int .i64 0), .v (.int .i64 40), .v (.int .i64 0), .v (.int .i64 0), .v (.int .i64 1), .v (.int .i64 2), .v (.int .i64 3), .v (.int .i64 4), .v (.int .i64 8), .v (.int .i64 8), .v (.int .i64 28)], .v (.int .i64 0)] [] _ [] w (by kernel_rfl) (by simp [Qaj, EX.den, lyA]) (by simp [bdL, bd]) (by intro q hq; cases hq) (QaN _)
theorem rval_1 (w : World) : Calls Try.prog 26 #[.agg lyA.toArray, .int .i64 1] w fun e w' => e = .returned (.int .i64 13) ∧ Below w.heap.size w w' :=
  @Qcr noFC _ QcQ Qbm 100000 _ _ [.g [.v (.int .i64 1), .v (.int .i64 5), .v (.int .i64 0), .v (.int .i64 40), .v (.int .i64 0), .v (.int .i64 0), .v (.int .i64 1), .v (.int .i64 2), .v (.int .i64 3), .v (.int .i64 4), .v (.int .i64 8), .v (.int .i64 8), .v (.int .i64 28)], .v (.int .i64 1)] [] _ [] w (by kernel_rfl) (by simp [Qaj, EX.den, lyA]) (by simp [bdL, bd]) (by intro q hq; cases hq) (QaN _)
theorem rval_2 (w : World) : Calls Try.prog 26 #[.agg lyA.toArray, .int .i64 2] w fun e w' => e = .returned (.int .i64 17) ∧ Below w.heap.size w w' :=
  @Qcr noFC _ QcQ Qbm 100000 _ _ [.g [.v (.int .i64 1), .v (.int .i64 5), .v (.int .i64 0), .v (.int .i64 40), .v (.int .i64 0), .v (.int .i64 0), .v (.int .i64 1), .v (.int .i64 2), .v (.int .i64 3), .v (.int .i64 4), .v (.int .i64 8), .v (.int .i64 8), .v (.int .i64 28)], .v (.int .i64 2)] [] _ [] w (by kernel_rfl) (by simp [Qaj, EX.den, lyA]) (by simp [bdL, bd]) (by intro q hq; cases hq) (QaN _)
theorem rval_3 (w : World) : Calls Try.prog 26 #[.agg lyA.toArray, .int .i64 3] w fun e w' => e = .returned (.int .i64 21) ∧ Below w.heap.size w w' :=
  @Qcr noFC _ QcQ Qbm 100000 _ _ [.g [.v (.int .i64 1), .v (.int .i64 5), .v (.int .i64 0), .v (.int .i64 40), .v (.int .i64 0), .v (.int .i64 0), .v (.int .i64 1), .v (.int .i64 2), .v (.int .i64 3), .v (.int .i64 4), .v (.int .i64 8), .v (.int .i64 8), .v (.int .i64 28)], .v (.int .i64 3)] [] _ [] w (by kernel_rfl) (by simp [Qaj, EX.den, lyA]) (by simp [bdL, bd]) (by intro q hq; cases hq) (QaN _)
theorem rval_4 (w : World) : Calls Try.prog 26 #[.agg lyA.toArray, .int .i64 4] w fun e w' => e = .returned (.int .i64 25) ∧ Below w.heap.size w w' :=
  @Qcr noFC _ QcQ Qbm 100000 _ _ [.g [.v (.int .i64 1), .v (.int .i64 5), .v (.int .i64 0), .v (.int .i64 40), .v (.int .i64 0), .v (.int .i64 0), .v (.int .i64 1), .v (.int .i64 2), .v (.int .i64 3), .v (.int .i64 4), .v (.int .i64 8), .v (.int .i64 8), .v (.int .i64 28)], .v (.int .i64 4)] [] _ [] w (by kernel_rfl) (by simp [Qaj, EX.den, lyA]) (by simp [bdL, bd]) (by intro q hq; cases hq) (QaN _)
theorem rval_t (r : Int) (h0 : 0 ≤ r) (h5 : r < 5) (w : World) : Calls Try.prog 26 #[.agg lyA.toArray, .int .i64 r] w fun e w' => e = .returned (.int .i64 (8 + 4 * r + 1)) ∧ Below w.heap.size w w' := by
  obtain ⟨n, rfl⟩ := Int.eq_ofNat_of_zero_le h0
  match n, (show n < 5 by omega) with
  | 0, _ => exact rval_0 w
  | 1, _ => exact rval_1 w
  | 2, _ => exact rval_2 w
  | 3, _ => exact rval_3 w
  | 4, _ => exact rval_4 w
theorem rword_0 (w : World) : Calls Try.prog 27 #[.agg lyA.toArray, .int .i64 0] w fun e w' => e = .returned (.int .i64 8) ∧ Below w.heap.size w w' :=
  @Qcr noFC _ QcQ Qbm 100000 _ _ [.g [.v (.int .i64 1), .v (.int .i64 5), .v (.int .i64 0), .v (.int .i64 40), .v (.int .i64 0), .v (.int .i64 0), .v (.int .i64 1), .v (.int .i64 2), .v (.int .i64 3), .v (.int .i64 4), .v (.int .i64 8), .v (.int .i64 8), .v (.int .i64 28)], .v (.int .i64 0)] [] _ [] w (by kernel_rfl) (by simp [Qaj, EX.den, lyA]) (by simp [bdL, bd]) (by intro q hq; cases hq) (QaN _)
theorem rword_1 (w : World) : Calls Try.prog 27 #[.agg lyA.toArray, .int .i64 1] w fun e w' => e = .returned (.int .i64 12) ∧ Below w.heap.size w w' :=
  @Qcr noFC _ QcQ Qbm 100000 _ _ [.g [.v (.int .i64 1), .v (.int .i64 5), .v (.int .i64 0), .v (.int .i64 40), .v (.int .i64 0), .v (.int .i64 0), .v (.int .i64 1), .v (.int .i64 2), .v (.int .i64 3), .v (.int .i64 4), .v (.int .i64 8), .v (.int .i64 8), .v (.int .i64 28)], .v (.int .i64 1)] [] _ [] w (by kernel_rfl) (by simp [Qaj, EX.den, lyA]) (by simp [bdL, bd]) (by intro q hq; cases hq) (QaN _)
theorem rword_2 (w : World) : Calls Try.prog 27 #[.agg lyA.toArray, .int .i64 2] w fun e w' => e = .returned (.int .i64 16) ∧ Below w.heap.size w w' :=
  @Qcr noFC _ QcQ Qbm 100000 _ _ [.g [.v (.int .i64 1), .v (.int .i64 5), .v (.int .i64 0), .v (.int .i64 40), .v (.int .i64 0), .v (.int .i64 0), .v (.int .i64 1), .v (.int .i64 2), .v (.int .i64 3), .v (.int .i64 4), .v (.int .i64 8), .v (.int .i64 8), .v (.int .i64 28)], .v (.int .i64 2)] [] _ [] w (by kernel_rfl) (by simp [Qaj, EX.den, lyA]) (by simp [bdL, bd]) (by intro q hq; cases hq) (QaN _)
theorem rword_3 (w : World) : Calls Try.prog 27 #[.agg lyA.toArray, .int .i64 3] w fun e w' => e = .returned (.int .i64 20) ∧ Below w.heap.size w w' :=
  @Qcr noFC _ QcQ Qbm 100000 _ _ [.g [.v (.int .i64 1), .v (.int .i64 5), .v (.int .i64 0), .v (.int .i64 40), .v (.int .i64 0), .v (.int .i64 0), .v (.int .i64 1), .v (.int .i64 2), .v (.int .i64 3), .v (.int .i64 4), .v (.int .i64 8), .v (.int .i64 8), .v (.int .i64 28)], .v (.int .i64 3)] [] _ [] w (by kernel_rfl) (by simp [Qaj, EX.den, lyA]) (by simp [bdL, bd]) (by intro q hq; cases hq) (QaN _)
theorem rword_4 (w : World) : Calls Try.prog 27 #[.agg lyA.toArray, .int .i64 4] w fun e w' => e = .returned (.int .i64 24) ∧ Below w.heap.size w w' :=
  @Qcr noFC _ QcQ Qbm 100000 _ _ [.g [.v (.int .i64 1), .v (.int .i64 5), .v (.int .i64 0), .v (.int .i64 40), .v (.int .i64 0), .v (.int .i64 0), .v (.int .i64 1), .v (.int .i64 2), .v (.int .i64 3), .v (.int .i64 4), .v (.int .i64 8), .v (.int .i64 8), .v (.int .i64 28)], .v (.int .i64 4)] [] _ [] w (by kernel_rfl) (by simp [Qaj, EX.den, lyA]) (by simp [bdL, bd]) (by intro q hq; cases hq) (QaN _)
theorem Qkg (r : Int) (h0 : 0 ≤ r) (h5 : r < 5) (w : World) : Calls Try.prog 27 #[.agg lyA.toArray, .int .i64 r] w fun e w' => e = .returned (.int .i64 (8 + 4 * r + 0)) ∧ Below w.heap.size w w' := by
  obtain ⟨n, rfl⟩ := Int.eq_ofNat_of_zero_le h0
  match n, (show n < 5 by omega) with
  | 0, _ => exact rword_0 w
  | 1, _ => exact rword_1 w
  | 2, _ => exact rword_2 w
  | 3, _ => exact rword_3 w
  | 4, _ => exact rword_4 w
end
theorem cell_t (w0 : World) (g cp : Nat) (zs : List Int) (n i : Nat) (hn : zs.length = n) (hi : i < n) (hI : Qb5 w0 g 0 zs) : Calls Try.prog 25 #[.agg #[.slice (some ⟨g, 0, none⟩) n cp], .int .i64 (i : Int)] w0 fun e w' => e = .returned (.int .i64 (zs.getD i 0)) ∧ Below w0.heap.size w0 w' := by
  refine Qat [] [Qbw g 0 zs] (by intro f hf; simp only [List.mem_singleton] at hf; subst hf; exact hI) Try.func25 rfl rfl fun aa S => ?_
  refine Qaw 1 60 2 S fun bs aa w S => ?_
  refine Qad 6 S (decide_eq_false (by omega) : decide ((i : Int) < 0) = false) fun S => ?_
  refine Qao 6 S fun bs aa w S => ?_
  refine Qad 12 S (decide_eq_false (by omega) : decide ((i : Int) ≥ ((n : Nat) : Int)) = false) fun S => ?_
  refine Qaw 3 60 3 S fun bs aa w S => ?_
  refine Qde (b := g) (off := 0) (len := n) (n := i) (size := 1) (i := (i : Int)) S (by kernel_rfl) rfl hi fun aa S => ?_
  refine Qcz S (QbG (ty := 3) (b := g) (off := 0 + i * 1) (by kernel_rfl) (by rw [Nat.mul_one]; exact S.fact (f := Qbw g 0 zs) (by simp) i (by omega))) (by kernel_rfl) fun aa S => ?_
  refine Qah S fun bs aa w S => ?_
  exact Qap S (by kernel_rfl) (by kernel_rfl) fun hg => ⟨rfl, Qas hg⟩
def zs5 : List Int := [9, 8, 7, 6, 5]
def bdV (q : Er × Nat × Nat) : Value := .tuple #[.agg #[.slice (some ⟨q.2.1, 0, none⟩) 28 q.2.2], q.1.v]
theorem boot_d (w : World) (P : List (Int × Ws)) (ha : ascR 0 P) (h40 : (QaV P).length ≤ 40) (hP : P.length ≤ 40) (x : Dk) (hx : x.gen ∧ x.S = QdA P ∧ x.W = [] ∧ x.sl ≤ x.sc) (hA : StrAt w x.b x.o x.S) (g : Nat) (hI : Qb5 w g 0 zs5) : Calls Try.prog 10 #[.agg lyA.toArray, .slice (some ⟨g, 0, none⟩) 5 5, x.v] w fun e w' => ∃ q, e = .returned (bdV q) ∧ (Qb5 w' q.2.1 0 (Qgv cfA zs5 (P, (QaV P).length)) ∧ w.heap.size ≤ q.2.1 ∧ q.1.l.length = P.length) ∧ Below w.heap.size w w' := by
  obtain ⟨sa, sl, sc, ta, tl, tc, b, o, c, p, Sx, Wx⟩ := x
  obtain ⟨hg, hS, hW, hc⟩ := hx
  obtain rfl : Sx.length = sl := hg.hS
  obtain rfl : Sx = QdA P := hS
  have hl := QiR h40
  have h := boot_t w cfA (by decide) zs5 (by decide) (some ⟨g, 0, none⟩) 5 g 0 (Or.inr rfl) ⟨sa, sc, b, o, QdA P⟩ hg.hs hc (by show (QdA P).length ≤ 600; omega) (.slice ta tl tc) hA hI
  rw [show QeA ((⟨sa, sc, b, o, QdA P⟩ : Sr).l.length + 1) (⟨sa, sc, b, o, QdA P⟩ : Sr).l 0 0 = (P, (QaV P).length) from devS_rec ha h40 hP] at h
  exact h.mono fun e w' ⟨es, g, cp, h1, h2, h3, h4, h5⟩ => ⟨(es, g, cp), h1, ⟨h2, h3, by rw [← congrArg List.length h4.1, List.length_map]⟩, h5⟩
noncomputable def ap3C : Cfg := ⟨goZ 600 [0, 9, 0] [.code (QaQ Try.f5)], ⟨0, [], []⟩⟩
noncomputable def QeU (m : Nat) : Cfg := ⟨goZ 600 [1, 0, 0] (.code (Qa_ ap3C) :: .rnd m (Qa_ ap3C) :: ap3C.k.tail), ⟨0, [], []⟩⟩
structure Bp where
  at_ : Nat
  g0 : Nat
  c0 : Nat
  g1 : Nat
  c1 : Nat
  e : Et
  Z0 : List Int
  Z1 : List Int
noncomputable def c3S (A : Bp) (i : Nat) : SS := ⟨185, [(5, .v (.bool true)), (6, .p 0 0), (12, .v (.int .i64 (A.at_ : Int))), (21, .p 1 0), (23, .p 2 0), (25, .p 3 0), (26, .v (.int .i64 (i : Int)))], [⟨25, lyA⟩, ⟨37, [.slice (some ⟨A.g0, 0, none⟩) 28 A.c0]⟩, ⟨37, [.slice (some ⟨A.g1, 0, none⟩) 28 A.c1]⟩, ⟨60, A.e.cs⟩]⟩
noncomputable def c4S (A : Bp) (i : Nat) (x : Int) (k : Nat) : SS := ⟨185, [(5, .v (.bool true)), (6, .p 0 0), (12, .v (.int .i64 (A.at_ : Int))), (21, .p 1 0), (23, .p 2 0), (25, .p 3 0), (26, .v (.int .i64 (i : Int))), (27, .v (.int .i64 x)), (28, .v (.int .i64 (k : Int)))], [⟨25, lyA⟩, ⟨37, [.slice (some ⟨A.g0, 0, none⟩) 28 A.c0]⟩, ⟨37, [.slice (some ⟨A.g1, 0, none⟩) 28 A.c1]⟩, ⟨60, A.e.cs⟩]⟩
section
variable (w0 : World) (A : Bp) (hok : A.e.ok) (hver : 0 ≤ A.e.ver ∧ A.e.ver ≤ 100) (hws : ∀ p ∈ A.e.ws, 0 ≤ p.1 ∧ p.1 < 5) (hwl : A.e.ws.length ≤ 5) (hat : A.at_ ≤ 1000) (hz0 : A.Z0.length = 28) (hz1 : A.Z1.length = 28)
include w0 A hok hver hws hwl hat hz0 hz1
theorem c4_s (m i : Nat) (ver : Int) (hv : ver = A.e.ver) (q k : Nat) (hk : k < A.e.ws.length) (x : Int) (ih : ∀ (y : Int) (hy : y = QcZ 8 i ver x (A.e.ws.getD k (0, 0))) (bs : List Nat) (hbs : bs.length = 4) (aa : Act) (w : World) (S : Sy w0 [] bs (c4S A i y (k + 1)) [Qbw A.g0 0 A.Z0, Qbw A.g1 0 A.Z1, QaH A.e.b A.e.o A.e.ws] aa w), post Try.prog (.rnd (q) (Qa_ (QeU m)) :: (QeU m).k.tail) (bodyPost Try.prog Try.f5 (apP w0)) .normal aa w) (bs : List Nat) (hbs : bs.length = 4) (aa : Act) (w : World) (S : Sy w0 [] bs (c4S A i x k) [Qbw A.g0 0 A.Z0, Qbw A.g1 0 A.Z1, QaH A.e.b A.e.o A.e.ws] aa w) : post Try.prog (.rnd (q + 1) (Qa_ (QeU m)) :: (QeU m).k.tail) (bodyPost Try.prog Try.f5 (apP w0)) .normal aa w := by
  obtain ⟨b0, b1, b2, b3, rfl⟩ : ∃ b0 b1 b2 b3, bs = [b0, b1, b2, b3] := by
    match bs, hbs with
    | [b0, b1, b2, b3], _ => exact ⟨b0, b1, b2, b3, rfl⟩
  have hr := hws (A.e.ws.getD k (0, 0)) (QbZ A.e.ws k (0, 0) hk)
  refine Qaw (c := ⟨(.rnd (q + 1) (Qa_ (QeU m)) :: (QeU m).k.tail), c4S A i x k⟩) 37 50 5 S fun bs aa w S => ?_
  refine Qad 147 S (decide_eq_true (by omega) : decide ((k : Int) < (A.e.ws.length : Int)) = true) fun S => ?_
  refine Qah S fun bs aa w S => ?_
  letI : HF := ⟨[QaH A.e.b A.e.o A.e.ws]⟩
  refine QaF [0, 3] (by kernel_rfl) (by kernel_rfl) S (by kernel_rfl) (fun aa w D => ?_) (fun f hf => by have e1 : f = QaH A.e.b A.e.o A.e.ws := List.mem_singleton.1 hf; subst e1; simp)
  refine Qbf 5 D (by kernel_rfl) (by kernel_rfl) (by kernel_rfl) (b := A.e.b) (off := A.e.o) (len := A.e.ws.length) (n := k) (size := 2) (ix := (k : Int)) (by rw [← hok.resolve_left (by omega)]; kernel_rfl) rfl hk fun aa D => ?_
  refine QbE 7 D (by kernel_rfl) (by kernel_rfl) (by kernel_rfl) (ty := 3) (ad := ⟨A.e.b, A.e.o + k * 2 + 0, none⟩) (v := .int .i64 (A.e.ws.getD k (0, 0)).1) (fun W hW => QbG (by kernel_rfl) (by rw [Nat.add_zero]; exact ((show QdC W A.e.b A.e.o A.e.ws from hW (QaH A.e.b A.e.o A.e.ws) (by show _ ∈ [QaH A.e.b A.e.o A.e.ws]; simp)) k hk).1)) (by kernel_rfl) fun aa D => ?_
  refine Qac [8] (by kernel_rfl) (by kernel_rfl) rfl (na1 ?_)
  refine Qc4 8 D (by kernel_rfl) (rval_t (A.e.ws.getD k (0, 0)).1 hr.1 hr.2 w) (by kernel_rfl) fun aa w D => ?_
  refine QaO D (by kernel_rfl) fun S => ?_
  by_cases h1 : (i : Int) = 8 + 4 * (A.e.ws.getD k (0, 0)).1 + 1
  · refine Qad 159 S (decide_eq_true h1 : decide ((i : Int) = 8 + 4 * (A.e.ws.getD k (0, 0)).1 + 1) = true) fun S => ?_
    refine Qaw 40 60 3 S fun bs aa w S => ?_
    refine Qde (b := A.e.b) (off := A.e.o) (len := A.e.ws.length) (n := k) (size := 2) (i := (k : Int)) S (by rw [← hok.resolve_left (by omega)]; kernel_rfl) rfl hk fun aa S => ?_
    refine Qao 1 S fun bs aa w S => ?_
    refine Qcz S (QbG (ty := 3) (b := A.e.b) (off := A.e.o + k * 2 + 1) (by kernel_rfl) (((S.fact (f := QaH A.e.b A.e.o A.e.ws) (by simp)) k hk).2)) (by kernel_rfl) fun aa S => ?_
    refine Qah S fun bs aa w S => ?_
    letI : HF := ⟨[QaH A.e.b A.e.o A.e.ws]⟩
    refine QaF [0, 3] (by kernel_rfl) (by kernel_rfl) S (by kernel_rfl) (fun aa w D => ?_) (fun f hf => by have e1 : f = QaH A.e.b A.e.o A.e.ws := List.mem_singleton.1 hf; subst e1; simp)
    refine Qbf 5 D (by kernel_rfl) (by kernel_rfl) (by kernel_rfl) (b := A.e.b) (off := A.e.o) (len := A.e.ws.length) (n := k) (size := 2) (ix := (k : Int)) (by rw [← hok.resolve_left (by omega)]; kernel_rfl) rfl hk fun aa D => ?_
    refine QbE 7 D (by kernel_rfl) (by kernel_rfl) (by kernel_rfl) (ty := 3) (ad := ⟨A.e.b, A.e.o + k * 2 + 0, none⟩) (v := .int .i64 (A.e.ws.getD k (0, 0)).1) (fun W hW => QbG (by kernel_rfl) (by rw [Nat.add_zero]; exact ((show QdC W A.e.b A.e.o A.e.ws from hW (QaH A.e.b A.e.o A.e.ws) (by show _ ∈ [QaH A.e.b A.e.o A.e.ws]; simp)) k hk).1)) (by kernel_rfl) fun aa D => ?_
    refine Qac [8] (by kernel_rfl) (by kernel_rfl) rfl (na1 ?_)
    refine Qc4 8 D (by kernel_rfl) (Qkg (A.e.ws.getD k (0, 0)).1 hr.1 hr.2 w) (by kernel_rfl) fun aa w D => ?_
    refine QaO D (by kernel_rfl) fun S => ?_
    refine Qad 175 S (decide_eq_false (by omega) : decide ((i : Int) = 8 + 4 * (A.e.ws.getD k (0, 0)).1 + 0) = false) fun S => ?_
    refine Qaw 38 60 2 S fun bs aa w S => ?_
    refine QaK 149 S (by rw [IntKind.wrap_i64]; omega : IntKind.i64.wrap ((k : Int) + 1) = ((k + 1 : Nat) : Int)) fun S => ?_
    refine Qan ⟨0, [999]⟩ 50 S fun bs aa w S => ?_
    have S := S.sub (F' := [Qbw A.g0 0 A.Z0, Qbw A.g1 0 A.Z1, QaH A.e.b A.e.o A.e.ws]) (by intro f hf; simp only [List.mem_cons, List.not_mem_nil, or_false] at hf; rcases hf with rfl | rfl | rfl <;> simp)
    have S2 := S.to [0, 1, 2, 3] (c4S A i (A.e.ws.getD k (0, 0)).2 (k + 1)) (by kernel_rfl) (by kernel_rfl) (by kernel_rfl) (by kernel_rfl) (by kernel_rfl)
    refine Qak (k' := (.rnd (q) (Qa_ (QeU m)) :: (QeU m).k.tail)) (by kernel_rfl) ?_
    refine ih (A.e.ws.getD k (0, 0)).2 (by unfold QcZ; rw [if_neg (by omega), if_pos (by omega)]) _ rfl aa w S2
  · refine Qad 159 S (decide_eq_false h1 : decide ((i : Int) = 8 + 4 * (A.e.ws.getD k (0, 0)).1 + 1) = false) fun S => ?_
    refine Qah S fun bs aa w S => ?_
    letI : HF := ⟨[QaH A.e.b A.e.o A.e.ws]⟩
    refine QaF [0, 3] (by kernel_rfl) (by kernel_rfl) S (by kernel_rfl) (fun aa w D => ?_) (fun f hf => by have e1 : f = QaH A.e.b A.e.o A.e.ws := List.mem_singleton.1 hf; subst e1; simp)
    refine Qbf 5 D (by kernel_rfl) (by kernel_rfl) (by kernel_rfl) (b := A.e.b) (off := A.e.o) (len := A.e.ws.length) (n := k) (size := 2) (ix := (k : Int)) (by rw [← hok.resolve_left (by omega)]; kernel_rfl) rfl hk fun aa D => ?_
    refine QbE 7 D (by kernel_rfl) (by kernel_rfl) (by kernel_rfl) (ty := 3) (ad := ⟨A.e.b, A.e.o + k * 2 + 0, none⟩) (v := .int .i64 (A.e.ws.getD k (0, 0)).1) (fun W hW => QbG (by kernel_rfl) (by rw [Nat.add_zero]; exact ((show QdC W A.e.b A.e.o A.e.ws from hW (QaH A.e.b A.e.o A.e.ws) (by show _ ∈ [QaH A.e.b A.e.o A.e.ws]; simp)) k hk).1)) (by kernel_rfl) fun aa D => ?_
    refine Qac [8] (by kernel_rfl) (by kernel_rfl) rfl (na1 ?_)
    refine Qc4 8 D (by kernel_rfl) (Qkg (A.e.ws.getD k (0, 0)).1 hr.1 hr.2 w) (by kernel_rfl) fun aa w D => ?_
    refine QaO D (by kernel_rfl) fun S => ?_
    by_cases h2 : (i : Int) = 8 + 4 * (A.e.ws.getD k (0, 0)).1 + 0
    · refine Qad 175 S (decide_eq_true h2 : decide ((i : Int) = 8 + 4 * (A.e.ws.getD k (0, 0)).1 + 0) = true) fun S => ?_
      refine Qaw 42 60 3 S fun bs aa w S => ?_
      refine QaK 178 S (by rw [IntKind.wrap_i64]; omega : IntKind.i64.wrap (2 * A.e.ver) = 2 * A.e.ver) fun S => ?_
      refine Qaw 38 60 2 S fun bs aa w S => ?_
      refine QaK 149 S (by rw [IntKind.wrap_i64]; omega : IntKind.i64.wrap ((k : Int) + 1) = ((k + 1 : Nat) : Int)) fun S => ?_
      refine Qan ⟨0, [999]⟩ 50 S fun bs aa w S => ?_
      have S := S.sub (F' := [Qbw A.g0 0 A.Z0, Qbw A.g1 0 A.Z1, QaH A.e.b A.e.o A.e.ws]) (by intro f hf; simp only [List.mem_cons, List.not_mem_nil, or_false] at hf; rcases hf with rfl | rfl | rfl <;> simp)
      have S2 := S.to [0, 1, 2, 3] (c4S A i (2 * A.e.ver) (k + 1)) (by kernel_rfl) (by kernel_rfl) (by kernel_rfl) (by kernel_rfl) (by kernel_rfl)
      refine Qak (k' := (.rnd (q) (Qa_ (QeU m)) :: (QeU m).k.tail)) (by kernel_rfl) ?_
      refine ih (2 * A.e.ver) (by unfold QcZ; rw [if_pos (by omega), hv]) _ rfl aa w S2
    · refine Qad 175 S (decide_eq_false h2 : decide ((i : Int) = 8 + 4 * (A.e.ws.getD k (0, 0)).1 + 0) = false) fun S => ?_
      refine Qaw 38 60 2 S fun bs aa w S => ?_
      refine QaK 149 S (by rw [IntKind.wrap_i64]; omega : IntKind.i64.wrap ((k : Int) + 1) = ((k + 1 : Nat) : Int)) fun S => ?_
      refine Qan ⟨0, [999]⟩ 50 S fun bs aa w S => ?_
      have S := S.sub (F' := [Qbw A.g0 0 A.Z0, Qbw A.g1 0 A.Z1, QaH A.e.b A.e.o A.e.ws]) (by intro f hf; simp only [List.mem_cons, List.not_mem_nil, or_false] at hf; rcases hf with rfl | rfl | rfl <;> simp)
      have S2 := S.to [0, 1, 2, 3] (c4S A i x (k + 1)) (by kernel_rfl) (by kernel_rfl) (by kernel_rfl) (by kernel_rfl) (by kernel_rfl)
      refine Qak (k' := (.rnd (q) (Qa_ (QeU m)) :: (QeU m).k.tail)) (by kernel_rfl) ?_
      refine ih x (by unfold QcZ; rw [if_neg (by omega), if_neg (by omega)]) _ rfl aa w S2
section
variable (m i : Nat) (hi : i < 28) (ih : ∀ (bs : List Nat) (hbs : bs.length = 4) (aa : Act) (w : World) (S : Sy w0 [] bs (c3S A (i + 1)) [Qbw A.g0 0 A.Z0, Qbw A.g1 0 A.Z1, QaH A.e.b A.e.o A.e.ws] aa w), post Try.prog (.rnd (m) (Qa_ ap3C) :: ap3C.k.tail) (bodyPost Try.prog Try.f5 (apP w0)) .normal aa w)
include m i hi ih
theorem c4_e (q : Nat) (x : Int) (hx : A.Z1.getD i 0 = x) (bs : List Nat) (hbs : bs.length = 4) (aa : Act) (w : World) (S : Sy w0 [] bs (c4S A i x A.e.ws.length) [Qbw A.g0 0 A.Z0, Qbw A.g1 0 A.Z1, QaH A.e.b A.e.o A.e.ws] aa w) : post Try.prog (.rnd (q + 1) (Qa_ (QeU m)) :: (QeU m).k.tail) (bodyPost Try.prog Try.f5 (apP w0)) .normal aa w := by
  obtain ⟨b0, b1, b2, b3, rfl⟩ : ∃ b0 b1 b2 b3, bs = [b0, b1, b2, b3] := by
    match bs, hbs with
    | [b0, b1, b2, b3], _ => exact ⟨b0, b1, b2, b3, rfl⟩
  refine Qaw (c := ⟨(.rnd (q + 1) (Qa_ (QeU m)) :: (QeU m).k.tail), c4S A i x A.e.ws.length⟩) 37 50 5 S fun bs aa w S => ?_
  refine Qad 147 S (decide_eq_false (by omega) : decide ((A.e.ws.length : Int) < (A.e.ws.length : Int)) = false) fun S => ?_
  refine Qaw 43 60 2 S fun bs aa w S => ?_
  refine QaE S (cell_t w A.g1 A.c1 A.Z1 28 i hz1 hi (S.fact (f := Qbw A.g1 0 A.Z1) (by simp))) (by kernel_rfl) fun aa w hb S => ?_
  refine Qao 2 S fun bs aa w S => ?_
  refine Qad 183 S (by rw [decide_eq_true hx]; rfl : (!decide (A.Z1.getD i 0 = x)) = false) fun S => ?_
  refine Qaw 30 60 2 S fun bs aa w S => ?_
  refine QaK 128 S (by rw [IntKind.wrap_i64]; omega : IntKind.i64.wrap ((i : Int) + 1) = ((i + 1 : Nat) : Int)) fun S => ?_
  refine Qan ⟨0, [999]⟩ 50 S fun bs aa w S => ?_
  have S := S.sub (F' := [Qbw A.g0 0 A.Z0, Qbw A.g1 0 A.Z1, QaH A.e.b A.e.o A.e.ws]) (by intro f hf; simp only [List.mem_cons, List.not_mem_nil, or_false] at hf; rcases hf with rfl | rfl | rfl <;> simp)
  have S2 := S.to [0, 1, 2, 3] (c3S A (i + 1)) (by kernel_rfl) (by kernel_rfl) (by kernel_rfl) (by kernel_rfl) (by kernel_rfl)
  refine Qak (k' := (.rnd (m) (Qa_ ap3C) :: ap3C.k.tail)) (by kernel_rfl) ?_
  exact ih _ rfl aa w S2
theorem c4_a (x0 : Int) (hx : A.Z1.getD i 0 = Qfz 8 i A.e.ver A.e.ws A.e.ws.length x0) : ∀ (q k : Nat), k + q = A.e.ws.length → ∀ (x : Int) (hx : x = Qfz 8 i A.e.ver A.e.ws k x0) (bs : List Nat) (hbs : bs.length = 4) (aa : Act) (w : World) (S : Sy w0 [] bs (c4S A i x k) [Qbw A.g0 0 A.Z0, Qbw A.g1 0 A.Z1, QaH A.e.b A.e.o A.e.ws] aa w), post Try.prog (.rnd (q + 1) (Qa_ (QeU m)) :: (QeU m).k.tail) (bodyPost Try.prog Try.f5 (apP w0)) .normal aa w := by
  intro q
  induction q with
  | zero => intro k hk x hxx bs hbs aa w S; obtain rfl : k = A.e.ws.length := by omega
            exact c4_e w0 A hok hver hws hwl hat hz0 hz1 m i hi ih 0 x (hx.trans hxx.symm) bs hbs aa w S
  | succ q ihq =>
    intro k hk x hxx bs hbs aa w S
    exact c4_s w0 A hok hver hws hwl hat hz0 hz1 m i A.e.ver rfl (q + 1) k (by omega) x (fun y hy bs hbs aa w S => ihq (k + 1) (by omega) y (by rw [QjT _ _ _ _ _ (by omega), ← hxx]; exact hy) bs hbs aa w S) bs hbs aa w S
end
theorem c3_s (clk fin : Int) (V W : Nat → Int) (m i : Nat) (hi : i < 28) (h0 : A.Z0.getD i 0 = bC 8 clk fin V W i) (h1 : A.Z1.getD i 0 = Qfz 8 i A.e.ver A.e.ws A.e.ws.length (QgE 8 A.e.ver (A.at_ : Int) clk fin V W i)) (ih : ∀ (bs : List Nat) (hbs : bs.length = 4) (aa : Act) (w : World) (S : Sy w0 [] bs (c3S A (i + 1)) [Qbw A.g0 0 A.Z0, Qbw A.g1 0 A.Z1, QaH A.e.b A.e.o A.e.ws] aa w), post Try.prog (.rnd (m) (Qa_ ap3C) :: ap3C.k.tail) (bodyPost Try.prog Try.f5 (apP w0)) .normal aa w) (bs : List Nat) (hbs : bs.length = 4) (aa : Act) (w : World) (S : Sy w0 [] bs (c3S A i) [Qbw A.g0 0 A.Z0, Qbw A.g1 0 A.Z1, QaH A.e.b A.e.o A.e.ws] aa w) : post Try.prog (.rnd (m + 1) (Qa_ ap3C) :: ap3C.k.tail) (bodyPost Try.prog Try.f5 (apP w0)) .normal aa w := by
  obtain ⟨b0, b1, b2, b3, rfl⟩ : ∃ b0 b1 b2 b3, bs = [b0, b1, b2, b3] := by
    match bs, hbs with
    | [b0, b1, b2, b3], _ => exact ⟨b0, b1, b2, b3, rfl⟩
  refine Qaw (c := ⟨(.rnd (m + 1) (Qa_ ap3C) :: ap3C.k.tail), c3S A i⟩) 29 50 4 S fun bs aa w S => ?_
  refine Qad 126 S (decide_eq_true (by omega) : decide ((i : Int) < 28) = true) fun S => ?_
  refine Qaw 31 60 2 S fun bs aa w S => ?_
  refine QaE S (cell_t w A.g0 A.c0 A.Z0 28 i hz0 hi (S.fact (f := Qbw A.g0 0 A.Z0) (by simp))) (by kernel_rfl) fun aa w hb S => ?_
  refine Qaw 32 60 4 S fun bs aa w S => ?_
  unfold QgE at h1
  by_cases hi0 : i = 0
  · rw [if_neg (by omega), if_pos hi0] at h1
    refine Qad 135 S (decide_eq_true (by omega) : decide ((i : Int) = 0) = true) fun S => ?_
    refine Qaw 34 60 4 S fun bs aa w S => ?_
    refine Qad 141 S (decide_eq_false (by omega) : decide ((i : Int) = 3) = false) fun S => ?_
    refine Qah S fun bs aa w S => ?_
    have S := S.sub (F' := [Qbw A.g0 0 A.Z0, Qbw A.g1 0 A.Z1, QaH A.e.b A.e.o A.e.ws]) (by intro f hf; simp only [List.mem_cons, List.not_mem_nil, or_false] at hf; rcases hf with rfl | rfl | rfl <;> simp)
    have S2 := S.to [0, 1, 2, 3] (c4S A i A.e.ver 0) (by kernel_rfl) (by kernel_rfl) (by kernel_rfl) (by kernel_rfl) (by kernel_rfl)
    refine QaS (A.e.ws.length + 1) (by kernel_rfl) ?_
    refine Qak (k' := (.rnd (A.e.ws.length + 1) (Qa_ (QeU m)) :: (QeU m).k.tail)) (by kernel_rfl) ?_
    exact c4_a w0 A hok hver hws hwl hat hz0 hz1 m i hi ih A.e.ver h1 A.e.ws.length 0 (by omega) A.e.ver rfl _ rfl aa w S2
  · refine Qad 135 S (decide_eq_false (by omega) : decide ((i : Int) = 0) = false) fun S => ?_
    refine Qaw 34 60 4 S fun bs aa w S => ?_
    by_cases hi3 : i = 3
    · rw [if_pos hi3] at h1
      refine Qad 141 S (decide_eq_true (by omega) : decide ((i : Int) = 3) = true) fun S => ?_
      refine Qah S fun bs aa w S => ?_
      have S := S.sub (F' := [Qbw A.g0 0 A.Z0, Qbw A.g1 0 A.Z1, QaH A.e.b A.e.o A.e.ws]) (by intro f hf; simp only [List.mem_cons, List.not_mem_nil, or_false] at hf; rcases hf with rfl | rfl | rfl <;> simp)
      have S2 := S.to [0, 1, 2, 3] (c4S A i (A.at_ : Int) 0) (by kernel_rfl) (by kernel_rfl) (by kernel_rfl) (by kernel_rfl) (by kernel_rfl)
      refine QaS (A.e.ws.length + 1) (by kernel_rfl) ?_
      refine Qak (k' := (.rnd (A.e.ws.length + 1) (Qa_ (QeU m)) :: (QeU m).k.tail)) (by kernel_rfl) ?_
      exact c4_a w0 A hok hver hws hwl hat hz0 hz1 m i hi ih (A.at_ : Int) h1 A.e.ws.length 0 (by omega) (A.at_ : Int) rfl _ rfl aa w S2
    · rw [if_neg hi3, if_neg hi0, ← h0] at h1
      refine Qad 141 S (decide_eq_false (by omega) : decide ((i : Int) = 3) = false) fun S => ?_
      refine Qah S fun bs aa w S => ?_
      have S := S.sub (F' := [Qbw A.g0 0 A.Z0, Qbw A.g1 0 A.Z1, QaH A.e.b A.e.o A.e.ws]) (by intro f hf; simp only [List.mem_cons, List.not_mem_nil, or_false] at hf; rcases hf with rfl | rfl | rfl <;> simp)
      have S2 := S.to [0, 1, 2, 3] (c4S A i (A.Z0.getD i 0) 0) (by kernel_rfl) (by kernel_rfl) (by kernel_rfl) (by kernel_rfl) (by kernel_rfl)
      refine QaS (A.e.ws.length + 1) (by kernel_rfl) ?_
      refine Qak (k' := (.rnd (A.e.ws.length + 1) (Qa_ (QeU m)) :: (QeU m).k.tail)) (by kernel_rfl) ?_
      exact c4_a w0 A hok hver hws hwl hat hz0 hz1 m i hi ih (A.Z0.getD i 0) h1 A.e.ws.length 0 (by omega) (A.Z0.getD i 0) rfl _ rfl aa w S2
theorem c3_e (m : Nat) (bs : List Nat) (hbs : bs.length = 4) (aa : Act) (w : World) (S : Sy w0 [] bs (c3S A 28) [Qbw A.g0 0 A.Z0, Qbw A.g1 0 A.Z1, QaH A.e.b A.e.o A.e.ws] aa w) : post Try.prog (.rnd (m + 1) (Qa_ ap3C) :: ap3C.k.tail) (bodyPost Try.prog Try.f5 (apP w0)) .normal aa w := by
  obtain ⟨b0, b1, b2, b3, rfl⟩ : ∃ b0 b1 b2 b3, bs = [b0, b1, b2, b3] := by
    match bs, hbs with
    | [b0, b1, b2, b3], _ => exact ⟨b0, b1, b2, b3, rfl⟩
  refine Qaw (c := ⟨(.rnd (m + 1) (Qa_ ap3C) :: ap3C.k.tail), c3S A 28⟩) 29 50 4 S fun bs aa w S => ?_
  refine Qad 126 S (decide_eq_false (by omega) : decide (((28 : Nat) : Int) < 28) = false) fun S => ?_
  refine Qah S fun bs aa w S => ?_
  exact Qap S (by kernel_rfl) (by kernel_rfl) fun hg => ⟨rfl, Qas hg⟩
theorem c3_a (clk fin : Int) (V W : Nat → Int) (h0 : ∀ i, i < 28 → A.Z0.getD i 0 = bC 8 clk fin V W i) (h1 : ∀ i, i < 28 → A.Z1.getD i 0 = Qfz 8 i A.e.ver A.e.ws A.e.ws.length (QgE 8 A.e.ver (A.at_ : Int) clk fin V W i)) : ∀ (m i : Nat), i + m = 28 → ∀ (bs : List Nat) (hbs : bs.length = 4) (aa : Act) (w : World) (S : Sy w0 [] bs (c3S A i) [Qbw A.g0 0 A.Z0, Qbw A.g1 0 A.Z1, QaH A.e.b A.e.o A.e.ws] aa w), post Try.prog (.rnd (m + 1) (Qa_ ap3C) :: ap3C.k.tail) (bodyPost Try.prog Try.f5 (apP w0)) .normal aa w := by
  intro m
  induction m with
  | zero => intro i hi bs hbs aa w S; obtain rfl : i = 28 := by omega
            exact c3_e w0 A hok hver hws hwl hat hz0 hz1 0 bs hbs aa w S
  | succ m ih =>
    intro i hi bs hbs aa w S
    exact c3_s w0 A hok hver hws hwl hat hz0 hz1 clk fin V W (m + 1) i (by omega) (h0 i (by omega)) (h1 i (by omega)) (fun bs hbs aa w S => ih (i + 1) (by omega) bs hbs aa w S) bs hbs aa w S
end
theorem QjM (i b : Nat) : ∀ k, ∀ p ∈ wsE i b k, 0 ≤ p.1 ∧ p.1 < (k : Int)
  | 0, p, hp => by cases hp
  | k + 1, p, hp => by
    unfold wsE at hp
    rcases List.mem_append.1 hp with hp | hp
    · have := QjM i b k p hp; omega
    · split at hp
      · obtain rfl := List.mem_singleton.1 hp
        simp only
        omega
      · cases hp
def byC (l : List Nat) : List Value := l.map fun b => Value.int .u8 ((b : Nat) : Int)
theorem by_of {w : World} {B : Nat} {v : Value} {l : List Nat} (h : w.ownsRow B 5 1 v l.length (byC l)) (hl : l.length ≠ 0) : ∃ g c, v = .slice (some ⟨g, 0, none⟩) l.length c ∧ B ≤ g ∧ ByAt w g 0 l := by
  have h0 := h
  rcases h.2 with ⟨_, hz⟩ | ⟨g, cap, cur, rfl, hb, hg, hn, hc, _, _⟩
  · exact absurd hz hl
  · refine ⟨g, cap, rfl, hb, fun j hj => ?_⟩
    rw [Nat.zero_add, h0.cellAt j (by omega)]
    simp [byC, List.getD, List.getElem?_eq_getElem hj]
theorem infU8 : (Try.prog.info? 5).map (fun i => (i.zero, i.size, i.bytes)) = some (some (.int .u8 0), 1, 1) := by kernel_rfl
theorem ex_appB {s : SS} {bs : List Nat} {w : World} {x y : Operand} {B0 gz lc lb lo : Nat} {la : Option Addr} {l : List Nat} (hx : s.val x = some (.v (.slice (some ⟨gz, 0, none⟩) 0 0))) (hy : s.val y = some (.v (.slice la l.length lc))) (hla : l.length = 0 ∨ la = some ⟨lb, lo, none⟩) (hnil : la = none → lc = 0) (hB : ByAt w lb lo l) (hl : l.length ≤ 7) (hgz : w.heap[gz]? = some (.cells #[] 5 (0, 0))) (hB0 : B0 ≤ gz) (hBw : B0 ≤ w.heap.size) :
    ∀ (o : Oper) (ρ : Operand → Value), o.op = .call { callee := .builtin .append, args := #[x, y], argTypes := #[48, 48] } → o.type = 48 → (∀ x y, s.val x = some y → ρ x = den bs y) → ∃ v w', (execOp ρ o).run Try.prog w = .ok (.value v) w' ∧ (w'.ownsRow B0 5 1 v l.length (byC l) ∧ ∀ g, v.ownBlock = some g → g = gz ∨ w.heap.size ≤ g) ∧ Below w.heap.size w w' := by
  intro o ρ h1 h2 h3
  by_cases h0 : l.length = 0
  · obtain rfl := List.eq_nil_of_length_eq_zero h0
    exact ⟨_, w, ex_app0 (e := 5) (so := la) (cp := lc) Try.underlying48 (by kernel_rfl) hx hy hnil o ρ w h1 h2 h3, ⟨Qge (xs := []) hgz rfl hB0 (by simp only [maxLen]; omega), fun g hg => Or.inl (by simpa [Value.ownBlock] using hg.symm)⟩, Below.refl _ _⟩
  · obtain rfl := hla.resolve_left h0
    obtain ⟨ii, hi1, hi2, hi3, hi4⟩ := QcB infU8
    obtain ⟨v, w', q1, q2, q3⟩ := ex_appN (w := w) (e := 5) (b := some ⟨gz, 0, none⟩) (ad := ⟨lb, lo, none⟩) (m := l.length) (cp := lc) (size := 1) (bytes := 1) (news := byC l) Try.underlying48 hi1 hi2 hi3 hi4 rfl hx rfl hy (by omega) (fun j v hj => by
      have hjl : j < l.length := by
        have := List.getElem?_eq_some_iff.1 hj
        obtain ⟨h, _⟩ := this
        simpa [byC] using h
      have h5 := hB j hjl
      have e : v = .int .u8 ((l.getD j 0 : Nat) : Int) := by
        simp [byC, List.getElem?_eq_getElem hjl] at hj
        rw [← hj]
        simp [List.getD, List.getElem?_eq_getElem hjl]
      rw [e]
      have ea : (⟨lb, lo, none⟩ : Addr).add j = ⟨lb, lo + j, none⟩ := by simp [Addr.add]
      rw [ea]
      exact h5) (by simp [byC]) (by omega) (by omega) o ρ h1 h2 h3
    exact ⟨v, w', q1, ⟨QaI q2 hBw, fun g hg => Or.inr (World.ownsRow.lt q2 g hg).1⟩, q3⟩
theorem l1_e (w0 : World) (l : List Nat) (hl8 : l.length ≤ 8) (h256 : ∀ b ∈ l, b < 256) (A : Ap) (hz : A.z.l.map prE = Qbr l l.length) (hza : A.z.l.length = 0 ∨ A.z.a = some ⟨A.z.b, A.z.o, none⟩) (hze : ∀ e ∈ A.z.l, e.ok ∧ Qdd e.ver e.ws) (hn : l.length = A.n0 + 1) (hi : A.i = l.length) (hat : A.at_ = atI l A.i) (m : Nat) (x y : Dk) (hx : (x.gen ∧ x.S = QdA (Qbr l (A.i)) ∧ x.W = [] ∧ x.sl ≤ x.sc)) (hy : (y.gen ∧ y.S = QdA (Qbr l (A.i - 1)) ∧ y.W = [] ∧ y.sl ≤ y.sc)) (bs : List Nat) (hbs : bs.length = 3) (aa : Act) (w : World) (S : Sy w0 [] bs (l1S A x y) [Qav x.b x.o x.S, QaU x.c x.p x.W, Qav y.b y.o y.S, QaU y.c y.p y.W, QbP A.z.b A.z.o A.z.l, QaL A.z.l] aa w) : post Try.prog (.rnd (m + 1) (Qa_ ap1C) :: ap1C.k.tail) (bodyPost Try.prog Try.f5 (apP w0)) .normal aa w := by
  obtain ⟨b0, b1, b2, rfl⟩ : ∃ b0 b1 b2, bs = [b0, b1, b2] := by
    match bs, hbs with
    | [b0, b1, b2], _ => exact ⟨b0, b1, b2, rfl⟩
  have hzl : A.z.l.length = l.length := by have := congrArg List.length hz; rwa [List.length_map, QcE] at this
  have hi1 : A.i - 1 = A.n0 := by omega
  rw [hi1] at hy
  rw [hi, hn] at hx
  obtain ⟨p1, p2⟩ := Qln hz (show A.n0 < l.length by omega)
  obtain ⟨a1, _⟩ := QhM l h256 A.n0 (by omega)
  obtain ⟨a2, _⟩ := QhM l h256 (A.n0 + 1) (by omega)
  have r1 := QeM l h256 A.n0 (by omega) (by omega)
  have r2 := QeM l h256 (A.n0 + 1) (by omega) (by omega)
  have n1 := QcE l A.n0
  have n2 := QcE l (A.n0 + 1)
  have hb256 := h256 _ (QbZ l A.n0 0 (by omega))
  refine Qaw (c := ⟨(.rnd (m + 1) (Qa_ ap1C) :: ap1C.k.tail), l1S A x y⟩) 10 50 4 S fun bs aa w S => ?_
  refine Qad 54 S (decide_eq_false (by omega) : decide ((A.i : Int) < (A.z.l.length : Int)) = false) fun S => ?_
  refine Qaw 22 60 1 S fun bs aa w S => ?_
  refine Qaw 23 60 3 S fun bs aa w S => ?_
  refine Qbc S fun bs S => ?_
  have hlt := fun i hi => S.lt (i := i) hi
  have hrow := S.bx 3 ⟨3, [.int .i64 9, .int .i64 8, .int .i64 7, .int .i64 6, .int .i64 5]⟩ (by kernel_rfl)
  have hI : Qb5 w (bs.getD 3 0) 0 zs5 := fun j hj => by
    rw [Nat.zero_add]
    refine QdG hrow ?_
    have hj5 : j < 5 := hj
    match j, hj5 with
    | 0, _ => rfl
    | 1, _ => rfl
    | 2, _ => rfl
    | 3, _ => rfl
    | 4, _ => rfl
  refine Qa7 S (boot_d w (Qbr l (A.n0)) a1 (by omega) (by omega) y ‹_› (S.fact (f := Qav y.b y.o y.S) (by simp)) (bs.getD 3 0) hI) (by kernel_rfl) fun q aa w hCq hb S => ?_
  obtain ⟨eq, gq, cq⟩ := q
  have S := S.add (Qbw gq 0 (Qgv cfA zs5 (Qbr l (A.n0), (QaV (Qbr l (A.n0))).length))) hCq.1 (fun i hi hb => by have h1 := hlt i hi; have h2 := hb.1; have h3 : _ ≤ gq := hCq.2.1; omega)
  refine Qaw 24 60 3 S fun bs aa w S => ?_
  refine Qbc S fun bs S => ?_
  have hlt := fun i hi => S.lt (i := i) hi
  have hrow := S.bx 3 ⟨3, [.int .i64 9, .int .i64 8, .int .i64 7, .int .i64 6, .int .i64 5]⟩ (by kernel_rfl)
  have hI : Qb5 w (bs.getD 3 0) 0 zs5 := fun j hj => by
    rw [Nat.zero_add]
    refine QdG hrow ?_
    have hj5 : j < 5 := hj
    match j, hj5 with
    | 0, _ => rfl
    | 1, _ => rfl
    | 2, _ => rfl
    | 3, _ => rfl
    | 4, _ => rfl
  refine Qa7 S (boot_d w (Qbr l (A.n0 + 1)) a2 (by omega) (by omega) x ‹_› (S.fact (f := Qav x.b x.o x.S) (by simp)) (bs.getD 3 0) hI) (by kernel_rfl) fun u aa w hCu hb S => ?_
  obtain ⟨eu, gu, cu⟩ := u
  have S := S.add (Qbw gu 0 (Qgv cfA zs5 (Qbr l (A.n0 + 1), (QaV (Qbr l (A.n0 + 1))).length))) hCu.1 (fun i hi hb => by have h1 := hlt i hi; have h2 := hb.1; have h3 : _ ≤ gu := hCu.2.1; omega)
  refine Qaw 25 60 3 S fun bs aa w S => ?_
  refine Qde (b := A.z.b) (off := A.z.o) (len := A.z.l.length) (n := A.n0) (size := 2) (i := (A.n0 : Int)) S (by rw [← hza.resolve_left (by omega)]; kernel_rfl) rfl (by omega) fun aa S => ?_
  refine Qcz S (ld_en (j := A.n0) (es := A.z.l) (S.fact (f := QbP A.z.b A.z.o A.z.l) (by simp)) (show A.n0 < A.z.l.length by omega)) (by kernel_rfl) fun aa S => ?_
  refine Qaw 26 60 5 S fun bs aa w S => ?_
  refine Qad 114 S (by rw [decide_eq_true (by have := hCq.2.2; simp only at this; omega)]; rfl : (!decide ((eq.l.length : Int) = (A.n0 : Int))) = false) fun S => ?_
  refine Qao 6 S fun bs aa w S => ?_
  refine QaK 120 S (by rw [IntKind.wrap_i64]; omega : IntKind.i64.wrap ((A.n0 : Int) + 1) = ((A.n0 + 1 : Nat) : Int)) fun S => ?_
  refine Qao 1 S fun bs aa w S => ?_
  refine Qad 121 S (by rw [decide_eq_true (by have := hCu.2.2; simp only at this; omega)]; rfl : (!decide ((eu.l.length : Int) = ((A.n0 + 1 : Nat) : Int))) = false) fun S => ?_
  refine Qah S fun bs aa w S => ?_
  have hWr := (S.fact (f := QaL A.z.l) (by simp)) _ p2
  have haw : ∀ i, i < bs.length → True := fun _ _ => trivial
  have hel := (S.fs (QaL A.z.l) (by simp)).2
  have S := S.add (QaH (A.z.l.getD A.n0 e00).b (A.z.l.getD A.n0 e00).o (A.z.l.getD A.n0 e00).ws) hWr (fun i hi hb => hel i hi ⟨_, p2, hb.1, hb.2⟩)
  have S := S.sub (F' := [Qbw gq 0 (Qgv cfA zs5 (Qbr l A.n0, (QaV (Qbr l A.n0)).length)), Qbw gu 0 (Qgv cfA zs5 (Qbr l (A.n0 + 1), (QaV (Qbr l (A.n0 + 1))).length)), QaH (A.z.l.getD A.n0 e00).b (A.z.l.getD A.n0 e00).o (A.z.l.getD A.n0 e00).ws]) (by intro f hf; simp only [List.mem_cons, List.not_mem_nil, or_false] at hf; rcases hf with rfl | rfl | rfl <;> simp)
  obtain ⟨e, he⟩ : ∃ e, A.z.l.getD A.n0 e00 = e := ⟨_, rfl⟩
  obtain ⟨Z0, hZ0⟩ : ∃ Z, Qgv cfA zs5 (Qbr l A.n0, (QaV (Qbr l A.n0)).length) = Z := ⟨_, rfl⟩
  obtain ⟨Z1, hZ1⟩ : ∃ Z, Qgv cfA zs5 (Qbr l (A.n0 + 1), (QaV (Qbr l (A.n0 + 1))).length) = Z := ⟨_, rfl⟩
  have S2 := S.to [0, 4, 5, 6] (c3S ⟨A.at_, gq, cq, gu, cu, A.z.l.getD A.n0 e00, Z0, Z1⟩ 0) (by kernel_rfl) (by kernel_rfl) (by kernel_rfl) (by kernel_rfl) (by kernel_rfl)
  rw [he, hZ0, hZ1] at S2
  rw [he] at p1 p2
  have v1 : e.ver = (Qd_ A.n0 (l.getD A.n0 0)).1 := congrArg Prod.fst p1
  have v2 : e.ws = (Qd_ A.n0 (l.getD A.n0 0)).2 := congrArg Prod.snd p1
  have hver : e.ver = ((2 * A.n0 + 1 + l.getD A.n0 0 / 128 : Nat) : Int) := v1
  refine QaS (28 + 1) (by kernel_rfl) ?_
  refine Qak (k' := (.rnd (28 + 1) (Qa_ ap3C) :: ap3C.k.tail)) (by kernel_rfl) ?_
  refine c3_a w0 ⟨A.at_, gq, cq, gu, cu, e, Z0, Z1⟩ (hze _ p2).1 ⟨by show 0 ≤ e.ver; rw [hver]; omega, by show e.ver ≤ 100; rw [hver]; omega⟩ (by show ∀ p ∈ e.ws, _; rw [v2]; exact QjM _ _ 5) (by show e.ws.length ≤ 5; rw [v2]; exact QdI _ _ 5) (by show A.at_ ≤ 1000; rw [hat, hi, hn]; unfold atI; omega) (by show Z0.length = 28; rw [← hZ0]; exact QbF _ _ _ _ _ _) (by show Z1.length = 28; rw [← hZ1]; exact QbF _ _ _ _ _ _) (QeI (Qbr l A.n0)) (((QaV (Qbr l A.n0)).length : Nat) : Int) (vvB (Qbr l A.n0) zs5) (wwB (Qbr l A.n0)) (fun i hi => by show Z0.getD i 0 = _; rw [← hZ0]; exact Qhc hi) (fun i hi => by
    show Z1.getD i 0 = Qfz 8 i e.ver e.ws e.ws.length (QgE 8 e.ver (A.at_ : Int) _ _ _ _ i)
    rw [← hZ1, v1, v2, want_all 8 (by omega) (Qbr l A.n0) zs5 A.n0 (l.getD A.n0 0) (by omega) hb256, ← QcT, hat, ‹A.i = l.length›, hn]
    exact Qhc hi) 28 0 rfl _ rfl aa w S2
theorem l1_a (w0 : World) (l : List Nat) (hl8 : l.length ≤ 8) (h256 : ∀ b ∈ l, b < 256) (n0 : Nat) (hn : l.length = n0 + 1) : ∀ (m : Nat) (A : Ap) (hn0 : A.n0 = n0) (hz : A.z.l.map prE = Qbr l l.length) (hza : A.z.l.length = 0 ∨ A.z.a = some ⟨A.z.b, A.z.o, none⟩) (hze : ∀ e ∈ A.z.l, e.ok ∧ Qdd e.ver e.ws) (hi : A.i + m = l.length) (hat : A.at_ = atI l A.i) (x y : Dk) (hx : (x.gen ∧ x.S = QdA (Qbr l (A.i)) ∧ x.W = [] ∧ x.sl ≤ x.sc)) (hy : (y.gen ∧ y.S = QdA (Qbr l (A.i - 1)) ∧ y.W = [] ∧ y.sl ≤ y.sc)) (bs : List Nat) (hbs : bs.length = 3) (aa : Act) (w : World) (S : Sy w0 [] bs (l1S A x y) [Qav x.b x.o x.S, QaU x.c x.p x.W, Qav y.b y.o y.S, QaU y.c y.p y.W, QbP A.z.b A.z.o A.z.l, QaL A.z.l] aa w), post Try.prog (.rnd (m + 1) (Qa_ ap1C) :: ap1C.k.tail) (bodyPost Try.prog Try.f5 (apP w0)) .normal aa w := by
  intro m
  induction m with
  | zero =>
    intro A hn0 hz hza hze hi hat x y hx hy bs hbs aa w S
    exact l1_e w0 l hl8 h256 A hz hza hze (by omega) (by omega) hat 0 x y hx hy bs hbs aa w S
  | succ m ih =>
    intro A hn0 hz hza hze hi hat x y hx hy bs hbs aa w S
    exact l1_s w0 l hl8 h256 A hz hza hze (by omega) hat (m + 1) (fun x y hx hy bs hbs aa w S => ih (A.up (atI l (A.i + 1)) (A.i + 1)) hn0 hz hza hze (by show A.i + 1 + m = _; omega) rfl x y hx (by show y.gen ∧ y.S = QdA (Qbr l (A.i + 1 - 1)) ∧ _; rw [Nat.add_sub_cancel]; exact hy) bs hbs aa w S) x y hx bs hbs aa w S
theorem ap_all (w0 : World) (l : List Nat) (la : Option Addr) (lc lb lo : Nat) (hla : l.length = 0 ∨ la = some ⟨lb, lo, none⟩) (hnil : la = none → lc = 0) (h256 : ∀ b ∈ l, b < 256) (b : Nat) (hb : b < 256) (hB : ByAt w0 lb lo l) : Calls Try.prog 5 #[.slice la l.length lc, .int .u8 (b : Int)] w0 (apP w0) := by
  refine Qat [] [Qc_ lb lo l] (by intro f hf; simp only [List.mem_singleton] at hf; subst hf; exact hB) Try.func5 rfl rfl fun aa S => ?_
  refine Qan ⟨0, [1]⟩ 60 S fun bs aa w S => ?_
  refine Qcy S fun S => ?_
  refine QaE S (sane25 _) (by kernel_rfl) fun aa w hb1 S => ?_
  refine Qaw 2 60 2 S fun bs aa w S => ?_
  by_cases h7 : l.length ≤ 7
  case neg =>
    refine Qao 1 S fun bs aa w S => ?_
    refine Qad 32 S (decide_eq_true (by omega) : decide ((l.length : Int) > 7) = true) fun S => ?_
    refine Qah S fun bs aa w S => ?_
    exact Qap S (by kernel_rfl) (by kernel_rfl) fun hg => ⟨rfl, Qas hg⟩
  refine Qao 1 S fun bs aa w S => ?_
  refine Qad 32 S (decide_eq_false (by omega) : decide ((l.length : Int) > 7) = false) fun S => ?_
  refine Qaw 4 60 1 S fun bs aa w S => ?_
  refine QaE S (v := .tuple #[.agg lyA.toArray, .int .i64 0]) (rof_t cfA _ (by decide)) (by kernel_rfl) fun aa w hb1 S => ?_
  refine Qan ⟨0, [5]⟩ 60 S fun bs aa w S => ?_
  refine Qcy S fun S => ?_
  refine Qbc S fun bs S => ?_
  have hs0 := S.gr.size
  have hlt := fun i hi => S.lt (i := i) hi
  refine Qj2 (op := .buildSlice 48 0 #[]) (ty := 48) S (by kernel_rfl) (ex_bs0 (e := 5) Try.underlying48 (by kernel_rfl)) fun v0 aa w1 hv0 hb0 S => ?_
  obtain ⟨gz, rfl, hgz, hv1, hv2⟩ := hv0
  have S := S.add (QdB gz 5 []) hv1 (fun i hi he => by have h1 := hlt i hi; have h2 : _ = gz := he; omega)
  refine Qao 1 S fun bs aa w S => ?_
  refine Qbc S fun bs2 S => ?_
  have hs1 := S.gr.size
  have hlt2 := fun i hi => S.lt (i := i) hi
  refine Qj2 (op := .call { callee := .builtin .append, args := #[.tmp 39, .tmp 40], argTypes := #[48, 48] }) (ty := 48) S (by kernel_rfl) (ex_appB (B0 := w0.heap.size) (by kernel_rfl) (by kernel_rfl) hla hnil (S.fact (f := Qc_ lb lo l) (by simp)) h7 (S.fact (f := QdB gz 5 []) (by simp)) (by omega) hs1) fun v1 aa w2 hO1 hb2 S => ?_
  have S := S.add (Qaa w0.heap.size 5 1 v1 l.length (byC l)) hO1.1 (fun i hi hbl => by
    have h1 := hlt2 i hi
    rcases hO1.2 _ hbl with h3 | h3
    · have h2 : bs2.getD i 0 ≠ gz := fun e => (S.fs (QdB gz 5 []) (by simp)).2 i hi e
      exact h2 h3
    · omega)
  have hln : (byC l).length = l.length := by simp [byC]
  refine Qao 2 S fun bs aa w S => ?_
  refine Qbc S fun bs S => ?_
  obtain ⟨ii, hi1, hi2, hi3, hi4⟩ := QcB infU8
  have how : w.ownsRow w0.heap.size 5 1 v1 l.length (byC l) := S.fact (f := Qaa w0.heap.size 5 1 v1 l.length (byC l)) (by simp)
  have hapb := (S.fs (Qaa w0.heap.size 5 1 v1 l.length (byC l)) (by simp)).2
  have hblk : ∀ j, j < bs.length → bs.getD j 0 < w.heap.size := fun j hj => S.lt hj
  refine QcY w0.heap.size (u := .v v1) (y := .s 1 0 1 1) (v := v1) (ad := adr bs 1 0) (m := 1) (cp := 1) (n := l.length) (size := 1) (bytes := 1) (e := 5) (t := 48) (xs := byC l) (news := [.int .u8 (b : Int)]) [] S (by kernel_rfl) Try.underlying48 hi1 hi2 hi3 hi4 rfl (by omega) rfl rfl how S.gr.size (QjD (P := Try.prog) (ty := 5) (cs := [.int .u8 (b : Int)]) S 1 (by kernel_rfl)) rfl (by intro u hu; simp only [List.mem_singleton] at hu; subst hu; rfl) (by simp only [maxLen]; omega) (by omega)
    (fun g hg => Or.inr (how.lt g hg).1) (by intro f hf; cases hf) (fun j hj hb => hapb j hj hb)
    fun v2 aa w3 hO hg' hnn S => ?_
  have hO2 : w3.ownsRow w0.heap.size 5 1 v2 (l ++ [b]).length (byC (l ++ [b])) := by rw [List.length_append, show byC (l ++ [b]) = byC l ++ [.int .u8 (b : Int)] by simp [byC]]; exact hO
  have h256' : ∀ q ∈ l ++ [b], q < 256 := fun q hq => by rcases List.mem_append.1 hq with hq | hq; exact h256 q hq; obtain rfl := List.mem_singleton.1 hq; exact hb
  have hl8 : (l ++ [b]).length ≤ 8 := by rw [List.length_append]; simp only [List.length_singleton]; omega
  have hln1 : (l ++ [b]).length = l.length + 1 := by simp
  obtain ⟨g2, c2, rfl, hg2, hBy⟩ := by_of hO2 (by omega)
  have S := S.add (Qc_ g2 0 (l ++ [b])) hBy (fun i hi hbl => by
    have h1 := hblk i hi
    rcases hnn g2 rfl with h3 | h3
    · exact hapb i hi (by rw [hbl.1]; exact h3)
    · have h2 := hbl.1; omega)
  generalize hL : l ++ [b] = L at *
  refine Qbc S fun bs4 S => ?_
  have hlt4 := fun i hi => S.lt (i := i) hi
  refine Qa7 S (X := Er) (val := Er.v) (C := fun z w' => recQ (Qbr L L.length, 0) w3.heap.size z w' ∧ ∀ e ∈ z.l, Qdd e.ver e.ws) ((Qll w3 L hl8 h256' (some ⟨g2, 0, none⟩) c2 g2 0 (Or.inr rfl) (S.fact (f := Qc_ g2 0 L) (by simp))).mono fun y w' ⟨z, q1, q2, q3, q4⟩ => ⟨z, q1, ⟨q2, q3⟩, q4⟩) (by kernel_rfl) fun z aa w hC hb3 S => ?_
  obtain ⟨⟨z1, z2, z3, z4, z5, z6⟩, z7⟩ := hC
  have S := S.add (QbP z.b z.o z.l) z3 (fun i hi hbl => by have h1 := hlt4 i hi; have h2 := hbl.1; have h3 := z4.resolve_left hbl.2; omega)
  have S := S.add (QaL z.l) z6 (fun i hi hbl => by obtain ⟨e, he, q1, q2⟩ := hbl; have h1 := hlt4 i hi; have h3 := (z5 e he).2.resolve_left q2; omega)
  refine Qan ⟨0, [6]⟩ 60 S fun bs aa w S => ?_
  refine Qcy S fun S => ?_
  refine Qbc S fun bs5 S => ?_
  have hlt5 := fun i hi => S.lt (i := i) hi
  refine Qa7 S (X := Dk) (val := fun q => .tuple #[q.v, .int .i64 0]) (C := fun d w' => Dev w.heap.size w' d (List.replicate 40 z32) [] ∧ d.sl ≤ d.sc) (rnew_c w 40 (by omega)) (by kernel_rfl) fun d aa w hC hb4 S => ?_
  obtain ⟨hD, hcap⟩ := hC
  have S := S.add (Qav d.b d.o d.S) (by show StrAt _ d.b d.o d.S; rw [hD.eS]; exact hD.sA) (fun i hi hbl => by have h1 := hlt5 i hi; have h2 := hbl.1; have h3 := hD.b0.resolve_left (by simp); omega)
  have S := S.add (QaU d.c d.p d.W) (by show WasAt _ d.c d.p d.W; rw [hD.eW]; exact hD.wA) (fun i hi hbl => hbl.2 (by rw [hD.eW]; rfl))
  refine Qah S fun bs aa w S => ?_
  have S := S.sub (F' := [Qav d.b d.o d.S, QaU d.c d.p d.W, Qav d.b d.o d.S, QaU d.c d.p d.W, QbP z.b z.o z.l, QaL z.l]) (by intro f hf; simp only [List.mem_cons, List.not_mem_nil, or_false] at hf; rcases hf with rfl | rfl | rfl | rfl | rfl | rfl <;> simp)
  have S2 := S.to [0, 2, 3] (l1S ⟨la, l.length, lc, z, 0, 0⟩ d d) (by kernel_rfl) (by kernel_rfl) (by kernel_rfl) (by kernel_rfl) (by kernel_rfl)
  have hd : d.gen ∧ d.S = QdA (Qbr L 0) ∧ d.W = [] ∧ d.sl ≤ d.sc := ⟨hD.g, by rw [hD.eS]; rfl, hD.eW, hcap⟩
  refine QaS (L.length + 1) (by kernel_rfl) ?_
  refine Qak (k' := (.rnd (L.length + 1) (Qa_ ap1C) :: ap1C.k.tail)) (by kernel_rfl) ?_
  exact l1_a w0 L hl8 h256' l.length hln1 L.length ⟨la, l.length, lc, z, 0, 0⟩ rfl z1 z2 (fun e he => ⟨(z5 e he).1, z7 e he⟩) (Nat.zero_add _) rfl d d hd hd _ rfl aa w S2
end Go.Proofs.Ytfhmdlihnidjoaa
