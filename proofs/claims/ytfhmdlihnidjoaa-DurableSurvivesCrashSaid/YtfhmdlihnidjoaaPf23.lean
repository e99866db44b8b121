/-
  Merged: Bp0, Bp1, Bp2, Bq0, Bp3, Bq1, Bp4, Bq2, Bp5, Bq3, Bp6, Bq4, Bp7, Bp8, Bq5, Bq6, Bq7, Bq8, Bq9
-/
import Derived.Test.YtfhmdlihnidjoaaRows
import Derived.Test.YtfhmdlihnidjoaaPf1
import Derived.Test.YtfhmdlihnidjoaaPf22
import Derived.Test.YtfhmdlihnidjoaaPf14
import Derived.WalkKit
import Derived.Great.BuildSlice
import Derived.Test.YtfhmdlihnidjoaaPf17
import Derived.Test.YtfhmdlihnidjoaaPf13
import Derived.Test.YtfhmdlihnidjoaaPf21
namespace Go.Proofs.Ytfhmdlihnidjoaa
set_option linter.unusedVariables false
set_option linter.unusedSectionVars false
set_option linter.unusedSimpArgs false
set_option maxRecDepth 100000
set_option maxHeartbeats 8000000
open Go Go.RowKit SZ
attribute [local irreducible] post GD Nxt Qai
def bitE (b k : Nat) : Bool := decide (b / 2 ^ k % 2 = 1)
def wsE (i b : Nat) : Nat → Ws
  | 0 => []
  | k + 1 => wsE i b k ++ if bitE b k then [((k : Int), ((1000000 * i + 7 * k : Nat) : Int) - 50)] else []
def QcP (i b : Nat) : Int × Ws := (((2 * i + 1 + b / 128 : Nat) : Int), wsE i b 5)
def Qa3 (l : List Nat) (n : Nat) : List (Int × Ws) := (List.range n).map fun i => QcP i (l.getD i 0)
theorem Qbw (l : List Nat) (n : Nat) : Qa3 l (n + 1) = Qa3 l n ++ [QcP n (l.getD n 0)] := by simp [Qa3, List.range_succ]
theorem Qbp (l : List Nat) (n : Nat) : (Qa3 l n).length = n := by simp [Qa3]
theorem QdF (i b : Nat) : ∀ k, (wsE i b k).length ≤ k
  | 0 => Nat.le_refl _
  | k + 1 => by
    have := QdF i b k
    unfold wsE
    rw [List.length_append]
    split <;> simp <;> omega
theorem Qiz (i b : Nat) (hi : i ≤ 1000) : ∀ k, k ≤ 1000 → ∀ p ∈ wsE i b k, I64 p.1 ∧ I64 p.2
  | 0, _, p, hp => by cases hp
  | k + 1, hk, p, hp => by
    unfold wsE at hp
    rcases List.mem_append.1 hp with hp | hp
    · exact Qiz i b hi k (by omega) p hp
    · split at hp
      · obtain rfl := List.mem_singleton.1 hp
        unfold I64
        simp only
        omega
      · cases hp
theorem Qko (i b : Nat) (hi : i ≤ 1000) (hb : b ≤ 1000) : QcD ((2 * i + 1 + b / 128 : Nat) : Int) (wsE i b 5) := ⟨by unfold I64; omega, Qiz i b hi 5 (by omega)⟩
def pwL : List Nat := [1, 2, 4, 8, 16]
theorem pw_at : ∀ k, k < 5 → pwL.getD k 0 = 2 ^ k
  | 0, _ => rfl
  | 1, _ => rfl
  | 2, _ => rfl
  | 3, _ => rfl
  | 4, _ => rfl
  | k + 5, h => by omega
theorem ex_bs5 {s : SS} {bs : List Nat} {w : World} {ty : TypeId} :
    ∀ (o : Oper) (ρ : Operand → Value), o.op = .buildSlice 48 5 #[(0, .const (.int .u8 1)), (1, .const (.int .u8 2)), (2, .const (.int .u8 4)), (3, .const (.int .u8 8)), (4, .const (.int .u8 16))] → o.type = ty → (∀ x y, s.val x = some y → ρ x = den bs y) → ∃ v w', (execOp ρ o).run Try.prog w = .ok (.value v) w' ∧ (∃ g, v = .slice (some ⟨g, 0, none⟩) 5 5 ∧ g = w.heap.size ∧ ByAt w' g 0 pwL) ∧ Below w.heap.size w w' := by
  intro o ρ h1 h2 h3
  have hI : (Try.prog.info? 5).map (fun i => (i.zero, i.size, i.bytes)) = some (some (.int .u8 0), 1, 1) := by kernel_rfl
  obtain ⟨ii, hii, hz, hsz, hby⟩ := Qc0 hI
  have hr : (Instr.buildSlice 48 5 #[(0, .int .u8 1), (1, .int .u8 2), (2, .int .u8 4), (3, .int .u8 8), (4, .int .u8 16)]).run Try.prog w = .ok (.slice (some ⟨w.heap.size, 0, none⟩) 5 5) (w.alloc (.cells #[.int .u8 1, .int .u8 2, .int .u8 4, .int .u8 8, .int .u8 16] 5)) := by
    refine run_buildSlice w 48 5 5 _ _ ii (.int .u8 0) Try.underlying48 hii hz (by rw [hsz]; decide) (by rw [hsz]; decide) ?_
    rw [hsz]
    kernel_rfl
  have c : ∀ v, ρ (.const v) = v := fun v => h3 (.const v) (.v v) rfl
  refine ⟨.slice (some ⟨w.heap.size, 0, none⟩) 5 5, w.alloc (.cells #[.int .u8 1, .int .u8 2, .int .u8 4, .int .u8 8, .int .u8 16] 5), ?_, ⟨_, rfl, rfl, fun j hj => ?_⟩, (Below.refl _ _).alloc (Nat.le_refl _) _⟩
  · unfold execOp
    simp only [h1, List.map_toArray, List.map_cons, List.map_nil, c, Sem.run_bind, Sem.run_pure, Result.andThen_ok, hr]
  · rw [Nat.zero_add]
    refine Qd9 (heap_alloc_new w _) ?_
    have hj5 : j < 5 := hj
    match j, hj5 with
    | 0, _ => rfl
    | 1, _ => rfl
    | 2, _ => rfl
    | 3, _ => rfl
    | 4, _ => rfl
theorem ex_quo {s : SS} {bs : List Nat} {x y : Operand} {t t' ty : TypeId} {ki : IntKind} {p q r : Int} (hx : s.val x = some (.v (.int ki p))) (hy : s.val y = some (.v (.int ki q))) (hq : q ≠ 0) (hr : ki.wrap (Int.tdiv p q) = r) :
    ∀ (o : Oper) (ρ : Operand → Value) (W : World), o.op = .binOp .quo t x y t' → o.type = ty → (∀ x y, s.val x = some y → ρ x = den bs y) → (execOp ρ o).run Try.prog W = .ok (.value (.int ki r)) W := by
  intro o ρ W h1 h2 h3
  have e1 : ρ x = .int ki p := h3 x _ hx
  have e2 : ρ y = .int ki q := h3 y _ hy
  subst hr
  unfold execOp
  simp only [h1, e1, e2, eqGuard, binOp_quo, Op.intDiv, if_neg hq, Sem.run_bind, Sem.run_pure, Result.andThen_ok]
  rfl
noncomputable def enC : Cfg := ⟨goZ 200 [] [.code (QaW Try.f17)], ⟨0, [], []⟩⟩
noncomputable def enJ (m : Nat) : Cfg := ⟨goZ 200 [1] (.code (Qa_ enC) :: .rnd m (Qa_ enC) :: enC.k.tail), ⟨0, [], []⟩⟩
noncomputable def enS (la : Option Addr) (n lc : Nat) (ov : Value) (i : Nat) : SS := ⟨57, [(0, .v (.slice la n lc)), (3, .v ov), (4, .v (.int .i64 (i : Int)))], []⟩
noncomputable def Qkg (la : Option Addr) (n lc : Nat) (ov : Value) (i k : Nat) (ver : Int) (wv : Value) : SS := ⟨57, [(0, .v (.slice la n lc)), (3, .v ov), (4, .v (.int .i64 (i : Int))), (5, .p 0 0), (6, .v (.int .i64 (k : Int)))], [⟨60, [.int .i64 ver, wv]⟩]⟩
theorem wsV_app (a : Ws) (p : Int × Int) : wsV (a ++ [p]) = wsV a ++ [.int .i64 p.1, .int .i64 p.2] := by simp [wsV]
def enP (w0 : World) (L : List (Int × Ws)) (y : Ending) (w' : World) : Prop := ∃ z : Er, y = .returned z.v ∧ recQ (L, 0) w0.heap.size z w' ∧ (∀ e ∈ z.l, QcD e.ver e.ws) ∧ Below w0.heap.size w0 w'
section
variable (w0 : World) (l : List Nat) (hl8 : l.length ≤ 8) (h256 : ∀ b ∈ l, b < 256) (la : Option Addr) (lc lb lo : Nat) (hla : l.length = 0 ∨ la = some ⟨lb, lo, none⟩) (m i : Nat) (hi : i < l.length) (es : List Et) (ov : Value) (hes : ∀ e ∈ es, e.ok ∧ QcD e.ver e.ws ∧ (e.ws.length = 0 ∨ w0.heap.size ≤ e.b)) (hep : (es).map prE = Qa3 l (i)) (hap : (∀ f ∈ [Qcg lb lo l, Qay (es)], ∀ g, Value.ownBlock ov = some g → ¬f.bl g)) (ih : ∀ (es : List Et) (ov : Value) (hes : ∀ e ∈ es, e.ok ∧ QcD e.ver e.ws ∧ (e.ws.length = 0 ∨ w0.heap.size ≤ e.b)) (hep : (es).map prE = Qa3 l (i + 1)) (hap : (∀ f ∈ [Qcg lb lo l, Qay (es)], ∀ g, Value.ownBlock ov = some g → ¬f.bl g)) (aa : Act) (w : World) (S : Sy w0 [] [] (enS la l.length lc ov (i + 1)) [Qcg lb lo l, Qay (es), Qaa w0.heap.size 60 2 ov (es).length (esV (es))] aa w), post Try.prog (.rnd (m) (Qa_ enC) :: enC.k.tail) (bodyPost Try.prog Try.f17 (enP w0 (Qa3 l l.length))) .normal aa w)
include w0 l hl8 h256 la lc lb lo hla m i hi es ov hes hep hap ih
theorem en_5 (q : Nat) (wv : Value) (hap2 : (∀ f ∈ [Qcg lb lo l, Qay es, Qaa w0.heap.size 60 2 ov (es).length (esV (es))], ∀ g, Value.ownBlock wv = some g → ¬f.bl g)) (x0 : Nat) (aa : Act) (w : World) (S : Sy w0 [] [x0] (Qkg la l.length lc ov i 5 ((2 * i + 1 + (l.getD i 0) / 128 : Nat) : Int) wv) [Qcg lb lo l, Qay es, Qaa w0.heap.size 60 2 ov (es).length (esV (es)), Qaa w0.heap.size 42 2 wv (wsE i (l.getD i 0) (5)).length (wsV (wsE i (l.getD i 0) (5)))] aa w) : post Try.prog (.rnd (q + 1) (Qa_ (enJ m)) :: (enJ m).k.tail) (bodyPost Try.prog Try.f17 (enP w0 (Qa3 l l.length))) .normal aa w := by
  obtain ⟨ii, hi1, hi2, hi3, hi4⟩ := Qc0 enI
  have hlen5 := QdF i (l.getD i 0) 5
  have hel : es.length = i := by have := congrArg List.length hep; rw [List.length_map, Qbp] at this; exact this
  have hb := h256 _ (Qbe l i 0 hi)
  obtain ⟨a, c, b, o, rfl, hw1, hw2, hw3⟩ := Qdq (S.fact (f := Qaa w0.heap.size 42 2 wv (wsE i (l.getD i 0) (5)).length (wsV (wsE i (l.getD i 0) (5)))) (by simp))
  refine Qap (c := ⟨(.rnd (q + 1) (Qa_ (enJ m)) :: (enJ m).k.tail), Qkg la l.length lc ov i 5 ((2 * i + 1 + (l.getD i 0) / 128 : Nat) : Int) (.slice a (wsE i (l.getD i 0) 5).length c)⟩) 11 50 3 S fun bs aa w S => ?_
  refine Qbq S fun bs S => ?_
  obtain ⟨e, he⟩ : ∃ e : Et, e = ⟨((2 * i + 1 + (l.getD i 0) / 128 : Nat) : Int), a, c, b, o, wsE i (l.getD i 0) 5⟩ := ⟨_, rfl⟩
  have how := S.fact (f := Qaa w0.heap.size 60 2 ov (es).length (esV (es))) (by simp)
  have hapb := (S.fs (Qaa w0.heap.size 60 2 ov (es).length (esV (es))) (by simp)).2
  have hblk2 : ∀ j, j < bs.length → bs.getD j 0 < w.heap.size := fun j hj => S.lt hj
  have hWf := S.fact (f := Qaa w0.heap.size 42 2 (.slice a (wsE i (l.getD i 0) 5).length c) (wsE i (l.getD i 0) (5)).length (wsV (wsE i (l.getD i 0) (5)))) (by simp)
  have hWa := (S.fs (Qaa w0.heap.size 42 2 (.slice a (wsE i (l.getD i 0) 5).length c) (wsE i (l.getD i 0) (5)).length (wsV (wsE i (l.getD i 0) (5)))) (by simp)).2
  obtain ⟨a2, c2, b2, o2, hv2, hx1, hx2, hx3⟩ := Qdq hWf
  have hwat : Qc8 w b o (wsE i (l.getD i 0) 5) := by
    intro j hj
    have ea : a = some ⟨b, o, none⟩ := hw1.resolve_left (by omega)
    have eb : a2 = some ⟨b2, o2, none⟩ := hx1.resolve_left (by omega)
    simp only [Value.slice.injEq] at hv2
    rw [ea, eb] at hv2
    simp only [Option.some.injEq, Addr.mk.injEq] at hv2
    obtain ⟨⟨h1, h2, _⟩, _⟩ := hv2
    rw [h1, h2]
    exact hx2 j hj
  have hFP : ∀ f ∈ [Qcg lb lo l, Qay es], f.P w := fun f hf => (S.fs f (by simp only [List.mem_cons, List.not_mem_nil, or_false] at hf ⊢; rcases hf with rfl | rfl <;> simp)).1
  have hnw : ∀ g, Value.ownBlock ov = some g → (wsE i (l.getD i 0) 5).length ≠ 0 → b ≠ g := fun g hg hne e1 => by
    refine hap2 (Qaa w0.heap.size 60 2 ov (es).length (esV (es))) (by simp) g ?_ hg
    rw [hw1.resolve_left hne, ← e1]
    rfl
  have S := S.add (QaN b o (wsE i (l.getD i 0) 5)) hwat (fun j hj hb => hWa j hj (by rw [hw1.resolve_left hb.2, hb.1]; rfl))
  have hFP3 : ∀ f ∈ [QaN b o (wsE i (l.getD i 0) 5), Qcg lb lo l, Qay es], f.P w := fun f hf => by
    rcases List.mem_cons.1 hf with rfl | hf
    · exact hwat
    · exact hFP f hf
  have hap3 : ∀ f ∈ [QaN b o (wsE i (l.getD i 0) 5), Qcg lb lo l, Qay es], ∀ g, ov.ownBlock = some g → ¬f.bl g := by
    intro f hf g hg hb
    rcases List.mem_cons.1 hf with rfl | hf
    · exact hnw g hg hb.2 hb.1.symm
    · exact hap f hf g hg hb
  refine Qd_ w0.heap.size (u := .v ov) (y := .s 1 0 1 1) (v := ov) (ad := adr bs 1 0) (m := 1) (cp := 1) (n := es.length) (size := 2) (bytes := 32) (e := 60) (t := 38) (xs := esV es) (news := [.int .i64 ((2 * i + 1 + (l.getD i 0) / 128 : Nat) : Int), .slice a (wsE i (l.getD i 0) 5).length c]) [QaN b o (wsE i (l.getD i 0) 5), Qcg lb lo l, Qay es] S (by kernel_rfl) Try.underlying38 hi1 hi2 hi3 hi4 rfl (by omega) rfl rfl how S.gr.size (Qlk (P := Try.prog) (ty := 60) (cs := [.int .i64 ((2 * i + 1 + (l.getD i 0) / 128 : Nat) : Int), .slice a (wsE i (l.getD i 0) 5).length c]) S 1 (by kernel_rfl)) rfl (by intro u hu; simp only [List.mem_cons, List.not_mem_nil, or_false] at hu; rcases hu with rfl | rfl <;> rfl) (by simp only [maxLen]; omega) (by omega)
    (fun g hg => Or.inr (how.lt g hg).1) (fun f hf => ⟨by simp only [List.mem_cons, List.not_mem_nil, or_false] at hf ⊢; rcases hf with rfl | rfl | rfl <;> simp, hap3 f hf⟩) (fun j hj hb => hapb j hj hb)
    fun v' aa w2 hO hg' hnn S => ?_
  have hap4 := ap_ny hFP3 hap3 hnn
  have S := S.add (Qaa w0.heap.size 60 2 v' (es ++ [e]).length (esV (es ++ [e]))) (by rw [Qji, List.length_append, he]; exact hO) (fun j hj hb => (hnn _ hb).elim (fun q => hapb j hj q) (fun q => by have := hblk2 j hj; omega))
  have hq1 := S.fact (f := QaN b o (wsE i (l.getD i 0) 5)) (by simp)
  have hq2 := S.fact (f := Qay es) (by simp)
  have ha1 := (S.fs (QaN b o (wsE i (l.getD i 0) 5)) (by simp)).2
  have ha2 := (S.fs (Qay es) (by simp)).2
  have S := S.add (Qay (es ++ [e])) (by
    intro q hq
    rcases List.mem_append.1 hq with hq | hq
    · exact hq2 q hq
    · obtain rfl := List.mem_singleton.1 hq
      rw [he]
      exact hq1) (fun j hj hb => by
    obtain ⟨q, hq, q1, q2⟩ := hb
    rcases List.mem_append.1 hq with hq | hq
    · exact ha2 j hj ⟨q, hq, q1, q2⟩
    · obtain rfl := List.mem_singleton.1 hq
      rw [he] at q1 q2
      exact ha1 j hj ⟨q1, q2⟩)
  have hap5 : (∀ f ∈ [Qcg lb lo l, Qay (es ++ [e])], ∀ g, Value.ownBlock v' = some g → ¬f.bl g) := by
    intro f hf g hg hb
    simp only [List.mem_cons, List.not_mem_nil, or_false] at hf
    rcases hf with rfl | rfl
    · exact hap4 _ (by simp) g hg hb
    · obtain ⟨q, hq, q1, q2⟩ := hb
      rcases List.mem_append.1 hq with hq | hq
      · exact hap4 (Qay es) (by simp) g hg ⟨q, hq, q1, q2⟩
      · obtain rfl := List.mem_singleton.1 hq
        rw [he] at q1 q2
        exact hap4 (QaN b o (wsE i (l.getD i 0) 5)) (by simp) g hg ⟨q1, q2⟩
  refine Qap 4 60 2 S fun bs aa w S => ?_
  refine QaB 12 S (by rw [IntKind.wrap_i64]; omega : IntKind.i64.wrap ((i : Int) + 1) = ((i + 1 : Nat) : Int)) fun S => ?_
  refine Qaj ⟨0, [999]⟩ 50 S fun bs aa w S => ?_
  have S := S.sub (F' := [Qcg lb lo l, Qay (es ++ [e]), Qaa w0.heap.size 60 2 v' (es ++ [e]).length (esV (es ++ [e]))]) (by intro f hf; simp only [List.mem_cons, List.not_mem_nil, or_false] at hf; rcases hf with rfl | rfl | rfl <;> simp)
  have S2 := S.to [] (enS la l.length lc v' (i + 1)) (by kernel_rfl) (by kernel_rfl) (by kernel_rfl) (by kernel_rfl) (by kernel_rfl)
  refine Qag (k' := (.rnd (m) (Qa_ enC) :: enC.k.tail)) (by kernel_rfl) ?_
  refine ih (es ++ [e]) v' (by
    intro q hq
    rcases List.mem_append.1 hq with hq | hq
    · exact hes q hq
    · obtain rfl := List.mem_singleton.1 hq
      rw [he]
      exact ⟨hw1, Qko i (l.getD i 0) (by omega) (by omega), hw3⟩) (by rw [List.map_append, hep, Qbw, he]; rfl) hap5 aa w S2
theorem en_n (q k : Nat) (hk : k < 5) (hbit : bitE (l.getD i 0) k = false) (ihk : ∀ (wv : Value) (hap2 : (∀ f ∈ [Qcg lb lo l, Qay es, Qaa w0.heap.size 60 2 ov (es).length (esV (es))], ∀ g, Value.ownBlock wv = some g → ¬f.bl g)) (x0 : Nat) (aa : Act) (w : World) (S : Sy w0 [] [x0] (Qkg la l.length lc ov i (k + 1) ((2 * i + 1 + (l.getD i 0) / 128 : Nat) : Int) wv) [Qcg lb lo l, Qay es, Qaa w0.heap.size 60 2 ov (es).length (esV (es)), Qaa w0.heap.size 42 2 wv (wsE i (l.getD i 0) ((k + 1))).length (wsV (wsE i (l.getD i 0) ((k + 1))))] aa w), post Try.prog (.rnd (q) (Qa_ (enJ m)) :: (enJ m).k.tail) (bodyPost Try.prog Try.f17 (enP w0 (Qa3 l l.length))) .normal aa w) (wv : Value) (hap2 : (∀ f ∈ [Qcg lb lo l, Qay es, Qaa w0.heap.size 60 2 ov (es).length (esV (es))], ∀ g, Value.ownBlock wv = some g → ¬f.bl g)) (x0 : Nat) (aa : Act) (w : World) (S : Sy w0 [] [x0] (Qkg la l.length lc ov i k ((2 * i + 1 + (l.getD i 0) / 128 : Nat) : Int) wv) [Qcg lb lo l, Qay es, Qaa w0.heap.size 60 2 ov (es).length (esV (es)), Qaa w0.heap.size 42 2 wv (wsE i (l.getD i 0) (k)).length (wsV (wsE i (l.getD i 0) (k)))] aa w) : post Try.prog (.rnd (q + 1) (Qa_ (enJ m)) :: (enJ m).k.tail) (bodyPost Try.prog Try.f17 (enP w0 (Qa3 l l.length))) .normal aa w := by
  have hw : wsE i (l.getD i 0) (k + 1) = wsE i (l.getD i 0) k := by
    conv => lhs; unfold wsE
    rw [hbit]
    simp
  have hbt : decide (Int.tmod (((l.getD i 0) / 2 ^ k : Nat) : Int) 2 = 1) = false := hbit.symm ▸ decide_eq_decide.2 (by rw [show Int.tmod (((l.getD i 0) / 2 ^ k : Nat) : Int) 2 = (((l.getD i 0) / 2 ^ k % 2 : Nat) : Int) from rfl]; omega)
  have hb := h256 _ (Qbe l i 0 hi)
  have hpw := pw_at k hk
  have hquo : IntKind.u8.wrap (Int.tdiv (((l.getD i 0) : Nat) : Int) (((pwL.getD k 0) : Nat) : Int)) = (((l.getD i 0) / 2 ^ k : Nat) : Int) := by
    rw [hpw, show Int.tdiv (((l.getD i 0) : Nat) : Int) ((2 ^ k : Nat) : Int) = (((l.getD i 0) / 2 ^ k : Nat) : Int) from rfl]
    have hle := Nat.div_le_self (l.getD i 0) (2 ^ k)
    generalize (l.getD i 0) / 2 ^ k = qq at hle ⊢
    rw [IntKind.wrap_u8]; omega
  have hel : es.length = i := by have := congrArg List.length hep; rw [List.length_map, Qbp] at this; exact this
  have hlenk := QdF i (l.getD i 0) k
  refine Qap (c := ⟨(.rnd (q + 1) (Qa_ (enJ m)) :: (enJ m).k.tail), Qkg la l.length lc ov i k ((2 * i + 1 + (l.getD i 0) / 128 : Nat) : Int) wv⟩) 7 60 2 S fun bs aa w S => ?_
  refine Qab 25 S (decide_eq_true (by omega) : decide ((k : Int) < 5) = true) fun S => ?_
  refine Qah S fun bs aa w S => ?_
  letI : KP := ⟨[36]⟩
  letI : HF := ⟨[Qcg lb lo l]⟩
  refine QaF [0] (by kernel_rfl) (by kernel_rfl) S (by kernel_rfl) (fun aa w D => ?_) (fun f hf => by have e1 : f = Qcg lb lo l := List.mem_singleton.1 hf; subst e1; simp)
  refine QaZ 2 D (by kernel_rfl) (by kernel_rfl) (by kernel_rfl) (b := lb) (off := lo) (len := l.length) (n := i) (size := 1) (ix := (i : Int)) (by rw [← hla.resolve_left (by omega)]; kernel_rfl) rfl hi fun aa D => ?_
  refine Qbl 3 D (by kernel_rfl) (by kernel_rfl) (by kernel_rfl) (ty := 5) (ad := ⟨lb, lo + i * 1, none⟩) (v := .int .u8 (((l.getD i 0) : Nat) : Int)) (fun W hW => Qa6 (by kernel_rfl) (by rw [Nat.mul_one]; exact (show ByAt W lb lo l from hW (Qcg lb lo l) (by show _ ∈ [Qcg lb lo l]; simp)) i hi)) (by kernel_rfl) fun aa D => ?_
  refine Qac [4] (by kernel_rfl) (by kernel_rfl) rfl (na1 ?_)
  refine QdB 4 (ty := 48) D (by kernel_rfl) (by kernel_rfl) ex_bs5 fun v0 aa w hC0 hb0 hlt0 D => ?_
  obtain ⟨gp, rfl, hgp, hBp⟩ := hC0
  have D := D.addF (Qcg gp 0 pwL) hBp (fun j hj hb => by
    have h1 := hlt0 j hj
    have h2 := hb.1
    omega)
  refine QaZ 6 D (by kernel_rfl) (by kernel_rfl) (by kernel_rfl) (b := gp) (off := 0) (len := 5) (n := k) (size := 1) (ix := (k : Int)) (by kernel_rfl) rfl hk fun aa D => ?_
  refine Qac [7] (by kernel_rfl) (by kernel_rfl) rfl (na1 ?_)
  refine QjU 7 D (by kernel_rfl) (Qa6 (ty := 5) (b := gp) (off := 0 + k * 1) (by kernel_rfl) (by rw [Nat.mul_one]; exact D.S.fact (f := Qcg gp 0 pwL) (by simp) k hk)) (by kernel_rfl) fun aa D => ?_
  refine Qbj (fun d v c a w h => by cases d <;> exact h) 8 (op := .binOp .quo 5 (.tmp 31) (.tmp 35) 5) (ty := 5) (v := .int .u8 (((l.getD i 0) / 2 ^ k : Nat) : Int)) D (by kernel_rfl) (by kernel_rfl) (by kernel_rfl) (by kernel_rfl) (ex_quo (ki := .u8) (p := (((l.getD i 0) : Nat) : Int)) (q := (((pwL.getD k 0) : Nat) : Int)) (by kernel_rfl) (by kernel_rfl) (by rw [hpw]; have := Nat.two_pow_pos k; omega) hquo) fun aa D => ?_
  refine QaM D (by kernel_rfl) fun S => ?_
  refine Qab 38 S hbt fun S => ?_
  refine Qap 8 60 2 S fun bs aa w S => ?_
  refine QaB 27 S (by rw [IntKind.wrap_i64]; omega : IntKind.i64.wrap ((k : Int) + 1) = ((k + 1 : Nat) : Int)) fun S => ?_
  refine Qaj ⟨0, [999]⟩ 50 S fun bs aa w S => ?_
  rw [← hw] at S
  have S := S.sub (F' := [Qcg lb lo l, Qay es, Qaa w0.heap.size 60 2 ov (es).length (esV (es)), Qaa w0.heap.size 42 2 wv (wsE i (l.getD i 0) (k + 1)).length (wsV (wsE i (l.getD i 0) (k + 1)))]) (by intro f hf; simp only [List.mem_cons, List.not_mem_nil, or_false] at hf; rcases hf with rfl | rfl | rfl | rfl <;> simp)
  have S2 := S.to [0] (Qkg la l.length lc ov i (k + 1) ((2 * i + 1 + (l.getD i 0) / 128 : Nat) : Int) wv) (by kernel_rfl) (by kernel_rfl) (by kernel_rfl) (by kernel_rfl) (by kernel_rfl)
  refine Qag (k' := (.rnd (q) (Qa_ (enJ m)) :: (enJ m).k.tail)) (by kernel_rfl) ?_
  exact ihk wv hap2 _ aa w S2
theorem en_y (q k : Nat) (hk : k < 5) (hbit : bitE (l.getD i 0) k = true) (ihk : ∀ (wv : Value) (hap2 : (∀ f ∈ [Qcg lb lo l, Qay es, Qaa w0.heap.size 60 2 ov (es).length (esV (es))], ∀ g, Value.ownBlock wv = some g → ¬f.bl g)) (x0 : Nat) (aa : Act) (w : World) (S : Sy w0 [] [x0] (Qkg la l.length lc ov i (k + 1) ((2 * i + 1 + (l.getD i 0) / 128 : Nat) : Int) wv) [Qcg lb lo l, Qay es, Qaa w0.heap.size 60 2 ov (es).length (esV (es)), Qaa w0.heap.size 42 2 wv (wsE i (l.getD i 0) ((k + 1))).length (wsV (wsE i (l.getD i 0) ((k + 1))))] aa w), post Try.prog (.rnd (q) (Qa_ (enJ m)) :: (enJ m).k.tail) (bodyPost Try.prog Try.f17 (enP w0 (Qa3 l l.length))) .normal aa w) (wv : Value) (hap2 : (∀ f ∈ [Qcg lb lo l, Qay es, Qaa w0.heap.size 60 2 ov (es).length (esV (es))], ∀ g, Value.ownBlock wv = some g → ¬f.bl g)) (x0 : Nat) (aa : Act) (w : World) (S : Sy w0 [] [x0] (Qkg la l.length lc ov i k ((2 * i + 1 + (l.getD i 0) / 128 : Nat) : Int) wv) [Qcg lb lo l, Qay es, Qaa w0.heap.size 60 2 ov (es).length (esV (es)), Qaa w0.heap.size 42 2 wv (wsE i (l.getD i 0) (k)).length (wsV (wsE i (l.getD i 0) (k)))] aa w) : post Try.prog (.rnd (q + 1) (Qa_ (enJ m)) :: (enJ m).k.tail) (bodyPost Try.prog Try.f17 (enP w0 (Qa3 l l.length))) .normal aa w := by
  obtain ⟨ii, hi1, hi2, hi3, hi4⟩ := Qc0 wrI
  have hw : wsE i (l.getD i 0) (k + 1) = wsE i (l.getD i 0) k ++ [((k : Int), ((1000000 * i + 7 * k : Nat) : Int) - 50)] := by
    conv => lhs; unfold wsE
    rw [hbit]
    rfl
  have hbt : decide (Int.tmod (((l.getD i 0) / 2 ^ k : Nat) : Int) 2 = 1) = true := hbit.symm ▸ decide_eq_decide.2 (by rw [show Int.tmod (((l.getD i 0) / 2 ^ k : Nat) : Int) 2 = (((l.getD i 0) / 2 ^ k % 2 : Nat) : Int) from rfl]; omega)
  have hb := h256 _ (Qbe l i 0 hi)
  have hpw := pw_at k hk
  have hquo : IntKind.u8.wrap (Int.tdiv (((l.getD i 0) : Nat) : Int) (((pwL.getD k 0) : Nat) : Int)) = (((l.getD i 0) / 2 ^ k : Nat) : Int) := by
    rw [hpw, show Int.tdiv (((l.getD i 0) : Nat) : Int) ((2 ^ k : Nat) : Int) = (((l.getD i 0) / 2 ^ k : Nat) : Int) from rfl]
    have hle := Nat.div_le_self (l.getD i 0) (2 ^ k)
    generalize (l.getD i 0) / 2 ^ k = qq at hle ⊢
    rw [IntKind.wrap_u8]; omega
  have hel : es.length = i := by have := congrArg List.length hep; rw [List.length_map, Qbp] at this; exact this
  have hlenk := QdF i (l.getD i 0) k
  refine Qap (c := ⟨(.rnd (q + 1) (Qa_ (enJ m)) :: (enJ m).k.tail), Qkg la l.length lc ov i k ((2 * i + 1 + (l.getD i 0) / 128 : Nat) : Int) wv⟩) 7 60 2 S fun bs aa w S => ?_
  refine Qab 25 S (decide_eq_true (by omega) : decide ((k : Int) < 5) = true) fun S => ?_
  refine Qah S fun bs aa w S => ?_
  letI : KP := ⟨[36]⟩
  letI : HF := ⟨[Qcg lb lo l]⟩
  refine QaF [0] (by kernel_rfl) (by kernel_rfl) S (by kernel_rfl) (fun aa w D => ?_) (fun f hf => by have e1 : f = Qcg lb lo l := List.mem_singleton.1 hf; subst e1; simp)
  refine QaZ 2 D (by kernel_rfl) (by kernel_rfl) (by kernel_rfl) (b := lb) (off := lo) (len := l.length) (n := i) (size := 1) (ix := (i : Int)) (by rw [← hla.resolve_left (by omega)]; kernel_rfl) rfl hi fun aa D => ?_
  refine Qbl 3 D (by kernel_rfl) (by kernel_rfl) (by kernel_rfl) (ty := 5) (ad := ⟨lb, lo + i * 1, none⟩) (v := .int .u8 (((l.getD i 0) : Nat) : Int)) (fun W hW => Qa6 (by kernel_rfl) (by rw [Nat.mul_one]; exact (show ByAt W lb lo l from hW (Qcg lb lo l) (by show _ ∈ [Qcg lb lo l]; simp)) i hi)) (by kernel_rfl) fun aa D => ?_
  refine Qac [4] (by kernel_rfl) (by kernel_rfl) rfl (na1 ?_)
  refine QdB 4 (ty := 48) D (by kernel_rfl) (by kernel_rfl) ex_bs5 fun v0 aa w hC0 hb0 hlt0 D => ?_
  obtain ⟨gp, rfl, hgp, hBp⟩ := hC0
  have D := D.addF (Qcg gp 0 pwL) hBp (fun j hj hb => by
    have h1 := hlt0 j hj
    have h2 := hb.1
    omega)
  refine QaZ 6 D (by kernel_rfl) (by kernel_rfl) (by kernel_rfl) (b := gp) (off := 0) (len := 5) (n := k) (size := 1) (ix := (k : Int)) (by kernel_rfl) rfl hk fun aa D => ?_
  refine Qac [7] (by kernel_rfl) (by kernel_rfl) rfl (na1 ?_)
  refine QjU 7 D (by kernel_rfl) (Qa6 (ty := 5) (b := gp) (off := 0 + k * 1) (by kernel_rfl) (by rw [Nat.mul_one]; exact D.S.fact (f := Qcg gp 0 pwL) (by simp) k hk)) (by kernel_rfl) fun aa D => ?_
  refine Qbj (fun d v c a w h => by cases d <;> exact h) 8 (op := .binOp .quo 5 (.tmp 31) (.tmp 35) 5) (ty := 5) (v := .int .u8 (((l.getD i 0) / 2 ^ k : Nat) : Int)) D (by kernel_rfl) (by kernel_rfl) (by kernel_rfl) (by kernel_rfl) (ex_quo (ki := .u8) (p := (((l.getD i 0) : Nat) : Int)) (q := (((pwL.getD k 0) : Nat) : Int)) (by kernel_rfl) (by kernel_rfl) (by rw [hpw]; have := Nat.two_pow_pos k; omega) hquo) fun aa D => ?_
  refine QaM D (by kernel_rfl) fun S => ?_
  refine Qab 38 S hbt fun S => ?_
  refine Qap 10 60 5 S fun bs aa w S => ?_
  refine QaB 43 S (by rw [IntKind.wrap_i64]; omega : IntKind.i64.wrap (1000000 * (i : Int)) = ((1000000 * i : Nat) : Int)) fun S => ?_
  refine Qad 2 S fun bs aa w S => ?_
  refine QaB 45 S (by rw [IntKind.wrap_i64]; omega : IntKind.i64.wrap (7 * (k : Int)) = ((7 * k : Nat) : Int)) fun S => ?_
  refine Qad 1 S fun bs aa w S => ?_
  refine QaB 46 S (by rw [IntKind.wrap_i64]; omega : IntKind.i64.wrap (((1000000 * i : Nat) : Int) + ((7 * k : Nat) : Int)) = ((1000000 * i + 7 * k : Nat) : Int)) fun S => ?_
  refine Qad 1 S fun bs aa w S => ?_
  refine QaB 47 S (by rw [IntKind.wrap_i64]; omega : IntKind.i64.wrap (((1000000 * i + 7 * k : Nat) : Int) - 50) = (((1000000 * i + 7 * k : Nat) : Int) - 50)) fun S => ?_
  refine Qad 2 S fun bs aa w S => ?_
  refine Qbq S fun bs S => ?_
  have how := S.fact (f := Qaa w0.heap.size 42 2 wv (wsE i (l.getD i 0) (k)).length (wsV (wsE i (l.getD i 0) (k)))) (by simp)
  have hapb := (S.fs (Qaa w0.heap.size 42 2 wv (wsE i (l.getD i 0) (k)).length (wsV (wsE i (l.getD i 0) (k)))) (by simp)).2
  have hblk : ∀ j, j < bs.length → bs.getD j 0 < w.heap.size := fun j hj => S.lt hj
  have hFP : ∀ f ∈ [Qcg lb lo l, Qay es, Qaa w0.heap.size 60 2 ov (es).length (esV (es))], f.P w := fun f hf => (S.fs f (by simp only [List.mem_cons, List.not_mem_nil, or_false] at hf ⊢; rcases hf with rfl | rfl | rfl <;> simp)).1
  refine Qd_ w0.heap.size (u := .v wv) (y := .s 1 0 1 1) (v := wv) (ad := adr bs 1 0) (m := 1) (cp := 1) (n := (wsE i (l.getD i 0) k).length) (size := 2) (bytes := 16) (e := 42) (t := 58) (xs := wsV (wsE i (l.getD i 0) k)) (news := [.int .i64 (k : Int), .int .i64 (((1000000 * i + 7 * k : Nat) : Int) - 50)]) [Qcg lb lo l, Qay es, Qaa w0.heap.size 60 2 ov (es).length (esV (es))] S (by kernel_rfl) Try.underlying58 hi1 hi2 hi3 hi4 rfl (by omega) rfl rfl how S.gr.size (Qlk (P := Try.prog) (ty := 42) (cs := [.int .i64 (k : Int), .int .i64 (((1000000 * i + 7 * k : Nat) : Int) - 50)]) S 1 (by kernel_rfl)) rfl (by intro u hu; simp only [List.mem_cons, List.not_mem_nil, or_false] at hu; rcases hu with rfl | rfl <;> rfl) (by simp only [maxLen]; omega) (by omega)
    (fun g hg => Or.inr (how.lt g hg).1) (fun f hf => ⟨by simp only [List.mem_cons, List.not_mem_nil, or_false] at hf ⊢; rcases hf with rfl | rfl | rfl <;> simp, hap2 f hf⟩) (fun j hj hb => hapb j hj hb)
    fun wv' aa w2 hO hg' hnn S => ?_
  have hap3 := ap_ny hFP hap2 hnn
  have S := S.add (Qaa w0.heap.size 42 2 wv' (wsE i (l.getD i 0) (k + 1)).length (wsV (wsE i (l.getD i 0) (k + 1)))) (by rw [hw, wsV_app, List.length_append]; exact hO) (fun j hj hb => (hnn _ hb).elim (fun q => hapb j hj q) (fun q => by have := hblk j hj; omega))
  obtain ⟨na, nc, nb, no, hnv, _⟩ := Qdq (S.fact (f := Qaa w0.heap.size 42 2 wv' (wsE i (l.getD i 0) (k + 1)).length (wsV (wsE i (l.getD i 0) (k + 1)))) (by simp))
  subst hnv
  refine Qap 8 60 2 S fun bs aa w S => ?_
  refine QaB 27 S (by rw [IntKind.wrap_i64]; omega : IntKind.i64.wrap ((k : Int) + 1) = ((k + 1 : Nat) : Int)) fun S => ?_
  refine Qaj ⟨0, [999]⟩ 50 S fun bs aa w S => ?_
  have S := S.sub (F' := [Qcg lb lo l, Qay es, Qaa w0.heap.size 60 2 ov (es).length (esV (es)), Qaa w0.heap.size 42 2 (.slice na (wsE i (l.getD i 0) (k + 1)).length nc) (wsE i (l.getD i 0) (k + 1)).length (wsV (wsE i (l.getD i 0) (k + 1)))]) (by intro f hf; simp only [List.mem_cons, List.not_mem_nil, or_false] at hf; rcases hf with rfl | rfl | rfl | rfl <;> simp)
  have S2 := S.to [0] (Qkg la l.length lc ov i (k + 1) ((2 * i + 1 + (l.getD i 0) / 128 : Nat) : Int) (.slice na (wsE i (l.getD i 0) (k + 1)).length nc)) (by kernel_rfl) (by kernel_rfl) (by kernel_rfl) (by kernel_rfl) (by kernel_rfl)
  refine Qag (k' := (.rnd (q) (Qa_ (enJ m)) :: (enJ m).k.tail)) (by kernel_rfl) ?_
  exact ihk (.slice na (wsE i (l.getD i 0) (k + 1)).length nc) hap3 _ aa w S2
theorem en_i : ∀ (q k : Nat), k + q = 5 → ∀ (wv : Value) (hap2 : (∀ f ∈ [Qcg lb lo l, Qay es, Qaa w0.heap.size 60 2 ov (es).length (esV (es))], ∀ g, Value.ownBlock wv = some g → ¬f.bl g)) (x0 : Nat) (aa : Act) (w : World) (S : Sy w0 [] [x0] (Qkg la l.length lc ov i k ((2 * i + 1 + (l.getD i 0) / 128 : Nat) : Int) wv) [Qcg lb lo l, Qay es, Qaa w0.heap.size 60 2 ov (es).length (esV (es)), Qaa w0.heap.size 42 2 wv (wsE i (l.getD i 0) (k)).length (wsV (wsE i (l.getD i 0) (k)))] aa w), post Try.prog (.rnd (q + 1) (Qa_ (enJ m)) :: (enJ m).k.tail) (bodyPost Try.prog Try.f17 (enP w0 (Qa3 l l.length))) .normal aa w := by
  intro q
  induction q with
  | zero => intro k hk wv hap2 x0 aa w S; obtain rfl : k = 5 := by omega
            exact en_5 w0 l hl8 h256 la lc lb lo hla m i hi es ov hes hep hap ih 0 wv hap2 x0 aa w S
  | succ q ihq =>
    intro k hk wv hap2 x0 aa w S
    rcases Bool.eq_false_or_eq_true (bitE (l.getD i 0) k) with h | h
    · exact en_y w0 l hl8 h256 la lc lb lo hla m i hi es ov hes hep hap ih (q + 1) k (by omega) h (fun wv hap2 => ihq (k + 1) (by omega) wv hap2) wv hap2 x0 aa w S
    · exact en_n w0 l hl8 h256 la lc lb lo hla m i hi es ov hes hep hap ih (q + 1) k (by omega) h (fun wv hap2 => ihq (k + 1) (by omega) wv hap2) wv hap2 x0 aa w S
theorem en_s (aa : Act) (w : World) (S : Sy w0 [] [] (enS la l.length lc ov (i)) [Qcg lb lo l, Qay (es), Qaa w0.heap.size 60 2 ov (es).length (esV (es))] aa w) : post Try.prog (.rnd (m + 1) (Qa_ enC) :: enC.k.tail) (bodyPost Try.prog Try.f17 (enP w0 (Qa3 l l.length))) .normal aa w := by
  have hb := h256 _ (Qbe l i 0 hi)
  refine Qap (c := ⟨(.rnd (m + 1) (Qa_ enC) :: enC.k.tail), enS la l.length lc ov i⟩) 3 50 4 S fun bs aa w S => ?_
  refine Qab 10 S (decide_eq_true (by omega) : decide ((i : Int) < (l.length : Int)) = true) fun S => ?_
  refine Qap 5 60 2 S fun bs aa w S => ?_
  refine QaB 14 S (by rw [IntKind.wrap_i64]; omega : IntKind.i64.wrap (2 * (i : Int)) = ((2 * i : Nat) : Int)) fun S => ?_
  refine Qad 1 S fun bs aa w S => ?_
  refine QaB 15 S (by rw [IntKind.wrap_i64]; omega : IntKind.i64.wrap (((2 * i : Nat) : Int) + 1) = ((2 * i + 1 : Nat) : Int)) fun S => ?_
  refine Qad 2 S fun bs aa w S => ?_
  refine QbI (b := lb) (off := lo) (len := l.length) (n := i) (size := 1) (i := (i : Int)) S (by rw [← hla.resolve_left (by omega)]; kernel_rfl) rfl hi fun aa S => ?_
  refine Qbf S (Qa6 (ty := 5) (b := lb) (off := lo + i * 1) (by kernel_rfl) (by rw [Nat.mul_one]; exact S.fact (f := Qcg lb lo l) (by simp) i hi)) (by kernel_rfl) fun aa S => ?_
  refine Qad 1 S fun bs aa w S => ?_
  refine QaB 20 S (by rw [IntKind.wrap_i64]; omega : IntKind.i64.wrap (((l.getD i 0) : Nat) : Int) = (((l.getD i 0) : Nat) : Int)) fun S => ?_
  refine Qad 1 S fun bs aa w S => ?_
  refine QaB 21 S (by rw [show Int.tdiv (((l.getD i 0) : Nat) : Int) 128 = (((l.getD i 0) / 128 : Nat) : Int) from rfl, IntKind.wrap_i64]; omega : IntKind.i64.wrap (Int.tdiv (((l.getD i 0) : Nat) : Int) 128) = (((l.getD i 0) / 128 : Nat) : Int)) fun S => ?_
  refine Qad 1 S fun bs aa w S => ?_
  refine QaB 22 S (by rw [IntKind.wrap_i64]; omega : IntKind.i64.wrap (((2 * i + 1 : Nat) : Int) + (((l.getD i 0) / 128 : Nat) : Int)) = ((2 * i + 1 + (l.getD i 0) / 128 : Nat) : Int)) fun S => ?_
  refine Qah S fun bs aa w S => ?_
  have S := S.add (Qaa w0.heap.size 42 2 (.slice none 0 0) (wsE i (l.getD i 0) (0)).length (wsV (wsE i (l.getD i 0) (0)))) (World.ownsRow_nil _ _ _ _) (fun i hi h => by cases h)
  have S := S.sub (F' := [Qcg lb lo l, Qay es, Qaa w0.heap.size 60 2 ov (es).length (esV (es)), Qaa w0.heap.size 42 2 (.slice none 0 0) (wsE i (l.getD i 0) (0)).length (wsV (wsE i (l.getD i 0) (0)))]) (by intro f hf; simp only [List.mem_cons, List.not_mem_nil, or_false] at hf; rcases hf with rfl | rfl | rfl | rfl <;> simp)
  have S2 := S.to [0] (Qkg la l.length lc ov i 0 ((2 * i + 1 + (l.getD i 0) / 128 : Nat) : Int) (.slice none 0 0)) (by kernel_rfl) (by kernel_rfl) (by kernel_rfl) (by kernel_rfl) (by kernel_rfl)
  refine QaR 6 (by kernel_rfl) ?_
  refine Qag (k' := (.rnd (6) (Qa_ (enJ m)) :: (enJ m).k.tail)) (by kernel_rfl) ?_
  exact en_i w0 l hl8 h256 la lc lb lo hla m i hi es ov hes hep hap ih 5 0 (by omega) (.slice none 0 0) (fun f hf g hg => by cases hg) _ aa w S2
end
section
variable (w0 : World) (l : List Nat) (hl8 : l.length ≤ 8) (h256 : ∀ b ∈ l, b < 256) (la : Option Addr) (lc lb lo : Nat) (hla : l.length = 0 ∨ la = some ⟨lb, lo, none⟩)
include w0 l hl8 h256 la lc lb lo hla
theorem en_e (m : Nat) (es : List Et) (ov : Value) (hes : ∀ e ∈ es, e.ok ∧ QcD e.ver e.ws ∧ (e.ws.length = 0 ∨ w0.heap.size ≤ e.b)) (hep : (es).map prE = Qa3 l (l.length)) (hap : (∀ f ∈ [Qcg lb lo l, Qay (es)], ∀ g, Value.ownBlock ov = some g → ¬f.bl g)) (aa : Act) (w : World) (S : Sy w0 [] [] (enS la l.length lc ov (l.length)) [Qcg lb lo l, Qay (es), Qaa w0.heap.size 60 2 ov (es).length (esV (es))] aa w) : post Try.prog (.rnd (m + 1) (Qa_ enC) :: enC.k.tail) (bodyPost Try.prog Try.f17 (enP w0 (Qa3 l l.length))) .normal aa w := by
  refine Qap (c := ⟨(.rnd (m + 1) (Qa_ enC) :: enC.k.tail), enS la l.length lc ov l.length⟩) 3 50 4 S fun bs aa w S => ?_
  refine Qab 10 S (decide_eq_false (by omega) : decide ((l.length : Int) < (l.length : Int)) = false) fun S => ?_
  refine Qah S fun bs aa w S => ?_
  have how := S.fact (f := Qaa w0.heap.size 60 2 ov (es).length (esV (es))) (by simp)
  have hew := S.fact (f := Qay es) (by simp)
  obtain ⟨a, c, b, o, rfl, h1, h2, h3⟩ := QfY how
  exact Qan S (by kernel_rfl) (by kernel_rfl) fun hg => ⟨⟨a, c, b, o, es⟩, rfl, ⟨hep, h1, h2, h3, fun e he => ⟨(hes e he).1, (hes e he).2.2⟩, hew⟩, fun e he => (hes e he).2.1, Qaq hg⟩
theorem en_a : ∀ (m i : Nat), i + m = l.length → ∀ (es : List Et) (ov : Value) (hes : ∀ e ∈ es, e.ok ∧ QcD e.ver e.ws ∧ (e.ws.length = 0 ∨ w0.heap.size ≤ e.b)) (hep : (es).map prE = Qa3 l (i)) (hap : (∀ f ∈ [Qcg lb lo l, Qay (es)], ∀ g, Value.ownBlock ov = some g → ¬f.bl g)) (aa : Act) (w : World) (S : Sy w0 [] [] (enS la l.length lc ov (i)) [Qcg lb lo l, Qay (es), Qaa w0.heap.size 60 2 ov (es).length (esV (es))] aa w), post Try.prog (.rnd (m + 1) (Qa_ enC) :: enC.k.tail) (bodyPost Try.prog Try.f17 (enP w0 (Qa3 l l.length))) .normal aa w := by
  intro m
  induction m with
  | zero => intro i hi es ov hes hep hap aa w S; obtain rfl : i = l.length := by omega
            exact en_e w0 l hl8 h256 la lc lb lo hla 0 es ov hes hep hap aa w S
  | succ m ih => intro i hi es ov hes hep hap aa w S; exact en_s w0 l hl8 h256 la lc lb lo hla (m + 1) i (by omega) es ov hes hep hap (fun es ov h1 h2 h3 => ih (i + 1) (by omega) es ov h1 h2 h3) aa w S
theorem Ql0 (hB : ByAt w0 lb lo l) : Calls Try.prog 17 #[.slice la l.length lc] w0 (enP w0 (Qa3 l l.length)) := by
  refine Qas [] [Qcg lb lo l] (by intro f hf; simp only [List.mem_singleton] at hf; subst hf; exact hB) Try.func17 rfl rfl fun aa S => ?_
  refine Qah S fun bs aa w S => ?_
  have S := S.add (Qaa w0.heap.size 60 2 (.slice none 0 0) (([] : List Et)).length (esV (([] : List Et)))) (World.ownsRow_nil _ _ _ _) (fun i hi h => by cases h)
  have S := S.add (Qay []) (fun e he => by cases he) (fun i hi h => by obtain ⟨e, he, _⟩ := h; cases he)
  have S := S.sub (F' := [Qcg lb lo l, Qay (([] : List Et)), Qaa w0.heap.size 60 2 (.slice none 0 0) (([] : List Et)).length (esV (([] : List Et)))]) (by intro f hf; simp only [List.mem_cons, List.not_mem_nil, or_false] at hf; rcases hf with rfl | rfl | rfl <;> simp)
  have S2 := S.to [] (enS la l.length lc (.slice none 0 0) 0) (by kernel_rfl) (by kernel_rfl) (by kernel_rfl) (by kernel_rfl) (by kernel_rfl)
  refine QaR (l.length + 1) (by kernel_rfl) ?_
  refine Qag (k' := (.rnd (l.length + 1) (Qa_ enC) :: enC.k.tail)) (by kernel_rfl) ?_
  exact en_a w0 l hl8 h256 la lc lb lo hla l.length 0 (by omega) [] (.slice none 0 0) (fun e he => by cases he) rfl (fun f hf g hg => by cases hg) aa w S2
end
def wAcc (at_ : Nat) (s : ByteArray) : AccD := ⟨5, (at_ : Int), 0, 0, s⟩
def synA : AccD := ⟨6, 0, 0, 0, ByteArray.empty⟩
def QdA (at_ : Nat) (l : List ByteArray) (n : Nat) : List AccD := (List.range n).map fun j => wAcc (at_ + j) (l.getD j ByteArray.empty)
theorem Qk6 (at_ : Nat) (l : List ByteArray) (n : Nat) : QdA at_ l (n + 1) = QdA at_ l n ++ [wAcc (at_ + n) (l.getD n ByteArray.empty)] := by simp [QdA, List.range_succ]
theorem Qcy (at_ : Nat) (l : List ByteArray) (n : Nat) : (QdA at_ l n).length = n := by simp [QdA]
def QcF (at_ : Nat) (l : List ByteArray) : List AccD := QdA at_ l l.length ++ [synA]
theorem Qd1 (at_ : Nat) (l : List ByteArray) : (QcF at_ l).length = l.length + 1 := by simp [QcF, Qcy]
def QhB (B : Nat) (u : Value) (L : List AccD) : RF := Qaa B 66 5 u L.length (QaA L)
noncomputable def raC : Cfg := ⟨goZ 200 [] [.code (QaW Try.f20)], ⟨0, [], []⟩⟩
noncomputable def raS (at_ : Nat) (s : Sr) (ov : Value) (j : Nat) : SS := ⟨31, [(1, .v (.int .i64 (at_ : Int))), (5, .v s.v), (6, .v ov), (7, .v (.int .i64 (j : Int)))], []⟩
def raP (w0 : World) (at_ : Nat) (l : List ByteArray) (y : Ending) (w' : World) : Prop := ∃ u, y = .returned u ∧ (QhB w0.heap.size u (QcF at_ l)).P w' ∧ Below w0.heap.size w0 w'
section
variable (w0 : World) (at_ : Nat) (hat : at_ ≤ 1000) (s : Sr) (hs : s.ok) (hsl : s.l.length ≤ 1000)
include w0 at_ hat s hs hsl
theorem ra_s (m j : Nat) (hj : j < s.l.length) (ov : Value) (hap : ∀ g, Value.ownBlock ov = some g → ¬(Qaz s.b s.o s.l).bl g) (ih : ∀ (ov : Value) (hap : ∀ g, Value.ownBlock ov = some g → ¬(Qaz s.b s.o s.l).bl g) (aa : Act) (w : World) (S : Sy w0 [] [] (raS at_ s ov (j + 1)) [Qaz s.b s.o s.l, QhB w0.heap.size ov (QdA at_ s.l (j + 1))] aa w), post Try.prog (.rnd (m) (Qa_ raC) :: raC.k.tail) (bodyPost Try.prog Try.f20 (raP w0 at_ s.l)) .normal aa w) (aa : Act) (w : World) (S : Sy w0 [] [] (raS at_ s ov (j)) [Qaz s.b s.o s.l, QhB w0.heap.size ov (QdA at_ s.l (j))] aa w) : post Try.prog (.rnd (m + 1) (Qa_ raC) :: raC.k.tail) (bodyPost Try.prog Try.f20 (raP w0 at_ s.l)) .normal aa w := by
  refine Qap (c := ⟨(.rnd (m + 1) (Qa_ raC) :: raC.k.tail), raS at_ s ov j⟩) 4 50 4 S fun bs aa w S => ?_
  refine Qab 13 S (decide_eq_true (by omega) : decide ((j : Int) < (s.l.length : Int)) = true) fun S => ?_
  refine Qap 6 60 4 S fun bs aa w S => ?_
  refine QaB 19 S (by rw [IntKind.wrap_i64]; omega : IntKind.i64.wrap ((at_ : Int) + (j : Int)) = ((at_ + j : Nat) : Int)) fun S => ?_
  refine Qad 2 S fun bs aa w S => ?_
  refine QbI (b := s.b) (off := s.o) (len := s.l.length) (n := j) (size := 1) (i := (j : Int)) S (by rw [← hs.resolve_left (by omega)]; kernel_rfl) rfl hj fun aa S => ?_
  refine Qbf S (Qa6 (ty := 9) (b := s.b) (off := s.o + j * 1) (by kernel_rfl) (by rw [Nat.mul_one]; exact S.fact (f := Qaz s.b s.o s.l) (by simp) j hj)) (by kernel_rfl) fun aa S => ?_
  refine Qad 2 S fun bs aa w S => ?_
  refine Qbq S fun bs S => ?_
  obtain ⟨ii, hi1, hi2, hi3, hi4⟩ := Qc0 Qgw
  have how : w.ownsRow w0.heap.size 66 5 ov j (QaA (QdA at_ s.l j)) := by
    have h := S.fact (f := QhB w0.heap.size ov (QdA at_ s.l (j))) (by simp)
    have h2 : w.ownsRow w0.heap.size 66 5 ov (QdA at_ s.l j).length (QaA (QdA at_ s.l j)) := h
    rwa [Qcy] at h2
  have hapb := (S.fs (QhB w0.heap.size ov (QdA at_ s.l (j))) (by simp)).2
  have hblk : ∀ j, j < bs.length → bs.getD j 0 < w.heap.size := fun j hj => S.lt hj
  have hfs : (Qaz s.b s.o s.l).P w := S.fact (f := Qaz s.b s.o s.l) (by simp)
  refine Qd_ w0.heap.size (u := .v ov) (y := .s 0 0 1 1) (v := ov) (ad := adr bs 0 0) (m := 1) (cp := 1) (n := j) (size := 5) (bytes := 48) (e := 66) (t := 56) (xs := QaA (QdA at_ s.l j)) (news := [.int .i64 5, .int .i64 ((at_ + j : Nat) : Int), .int .i64 0, .int .i64 0, .string (s.l.getD j ByteArray.empty)]) [Qaz s.b s.o s.l] S (by kernel_rfl) Try.underlying56 hi1 hi2 hi3 hi4 rfl (by omega) rfl rfl how S.gr.size (Qlk (P := Try.prog) (ty := 66) (cs := [.int .i64 5, .int .i64 ((at_ + j : Nat) : Int), .int .i64 0, .int .i64 0, .string (s.l.getD j ByteArray.empty)]) S 0 (by kernel_rfl)) rfl (by intro u hu; simp only [List.mem_cons, List.not_mem_nil, or_false] at hu; rcases hu with rfl | rfl | rfl | rfl | rfl <;> rfl) (by simp only [maxLen]; omega) (by omega)
    (fun g hg => Or.inr (how.lt g hg).1) (fun f hf => by have e1 : f = Qaz s.b s.o s.l := List.mem_singleton.1 hf; subst e1; exact ⟨by simp, hap⟩) (fun j hj hb => hapb j hj hb)
    fun v' aa w2 hO hg' hnn S => ?_
  have hO2 : w2.ownsRow w0.heap.size 66 5 v' (j + 1) (QaA (QdA at_ s.l j ++ [wAcc (at_ + j) (s.l.getD j ByteArray.empty)])) := by rw [Qcu]; exact hO
  have hap2 : ∀ g, Value.ownBlock v' = some g → ¬(Qaz s.b s.o s.l).bl g := fun g hg hb => (hnn g hg).elim (fun q => hap g q hb) (fun q => by have h1 := (Qaz s.b s.o s.l).lt _ hfs g hb; omega)
  have S := S.add (QhB w0.heap.size v' (QdA at_ s.l (j + 1))) (by
    show w2.ownsRow w0.heap.size 66 5 v' (QdA at_ s.l (j + 1)).length (QaA (QdA at_ s.l (j + 1)))
    rw [Qcy, Qk6]
    exact hO2) (fun i hi hb => (hnn _ hb).elim (fun q => hapb i hi q) (fun q => by have := hblk i hi; omega))
  refine Qap 5 60 2 S fun bs aa w S => ?_
  refine QaB 15 S (by rw [IntKind.wrap_i64]; omega : IntKind.i64.wrap ((j : Int) + 1) = ((j + 1 : Nat) : Int)) fun S => ?_
  refine Qaj ⟨0, [999]⟩ 50 S fun bs aa w S => ?_
  have S := S.sub (F' := [Qaz s.b s.o s.l, QhB w0.heap.size v' (QdA at_ s.l (j + 1))]) (by intro f hf; simp only [List.mem_cons, List.not_mem_nil, or_false] at hf; rcases hf with rfl | rfl <;> simp)
  have S2 := S.to [] (raS at_ s v' (j + 1)) (by kernel_rfl) (by kernel_rfl) (by kernel_rfl) (by kernel_rfl) (by kernel_rfl)
  refine Qag (k' := (.rnd (m) (Qa_ raC) :: raC.k.tail)) (by kernel_rfl) ?_
  exact ih v' hap2 aa w S2
theorem ra_e (m : Nat) (ov : Value) (hap : ∀ g, Value.ownBlock ov = some g → ¬(Qaz s.b s.o s.l).bl g) (aa : Act) (w : World) (S : Sy w0 [] [] (raS at_ s ov (s.l.length)) [Qaz s.b s.o s.l, QhB w0.heap.size ov (QdA at_ s.l (s.l.length))] aa w) : post Try.prog (.rnd (m + 1) (Qa_ raC) :: raC.k.tail) (bodyPost Try.prog Try.f20 (raP w0 at_ s.l)) .normal aa w := by
  refine Qap (c := ⟨(.rnd (m + 1) (Qa_ raC) :: raC.k.tail), raS at_ s ov s.l.length⟩) 4 50 4 S fun bs aa w S => ?_
  refine Qab 13 S (decide_eq_false (by omega) : decide ((s.l.length : Int) < (s.l.length : Int)) = false) fun S => ?_
  refine Qap 7 60 3 S fun bs aa w S => ?_
  refine Qbq S fun bs S => ?_
  obtain ⟨ii, hi1, hi2, hi3, hi4⟩ := Qc0 Qgw
  have how : w.ownsRow w0.heap.size 66 5 ov s.l.length (QaA (QdA at_ s.l s.l.length)) := by
    have h := S.fact (f := QhB w0.heap.size ov (QdA at_ s.l (s.l.length))) (by simp)
    have h2 : w.ownsRow w0.heap.size 66 5 ov (QdA at_ s.l s.l.length).length (QaA (QdA at_ s.l s.l.length)) := h
    rwa [Qcy] at h2
  have hapb := (S.fs (QhB w0.heap.size ov (QdA at_ s.l (s.l.length))) (by simp)).2
  have hblk : ∀ j, j < bs.length → bs.getD j 0 < w.heap.size := fun j hj => S.lt hj
  have hfs : (Qaz s.b s.o s.l).P w := S.fact (f := Qaz s.b s.o s.l) (by simp)
  refine Qd_ w0.heap.size (u := .v ov) (y := .s 0 0 1 1) (v := ov) (ad := adr bs 0 0) (m := 1) (cp := 1) (n := s.l.length) (size := 5) (bytes := 48) (e := 66) (t := 56) (xs := QaA (QdA at_ s.l s.l.length)) (news := [.int .i64 6, .int .i64 0, .int .i64 0, .int .i64 0, .string ByteArray.empty]) [Qaz s.b s.o s.l] S (by kernel_rfl) Try.underlying56 hi1 hi2 hi3 hi4 rfl (by omega) rfl rfl how S.gr.size (Qlk (P := Try.prog) (ty := 66) (cs := [.int .i64 6, .int .i64 0, .int .i64 0, .int .i64 0, .string ByteArray.empty]) S 0 (by kernel_rfl)) rfl (by intro u hu; simp only [List.mem_cons, List.not_mem_nil, or_false] at hu; rcases hu with rfl | rfl | rfl | rfl | rfl <;> rfl) (by simp only [maxLen]; omega) (by omega)
    (fun g hg => Or.inr (how.lt g hg).1) (fun f hf => by have e1 : f = Qaz s.b s.o s.l := List.mem_singleton.1 hf; subst e1; exact ⟨by simp, hap⟩) (fun j hj hb => hapb j hj hb)
    fun v' aa w2 hO hg' hnn S => ?_
  have hO2 : w2.ownsRow w0.heap.size 66 5 v' (s.l.length + 1) (QaA (QdA at_ s.l s.l.length ++ [synA])) := by rw [Qcu]; exact hO
  have S := S.add (QhB w0.heap.size v' (QcF at_ s.l)) (by
    show w2.ownsRow w0.heap.size 66 5 v' (QcF at_ s.l).length (QaA (QcF at_ s.l))
    rw [Qd1]
    exact hO2) (fun i hi hb => (hnn _ hb).elim (fun q => hapb i hi q) (fun q => by have := hblk i hi; omega))
  refine Qah S fun bs aa w S => ?_
  have hL := S.fact (f := QhB w0.heap.size v' (QcF at_ s.l)) (by simp)
  exact Qan S (by kernel_rfl) (by kernel_rfl) fun hg => ⟨v', rfl, hL, Qaq hg⟩
theorem ra_a : ∀ (m j : Nat), j + m = s.l.length → ∀ (ov : Value) (hap : ∀ g, Value.ownBlock ov = some g → ¬(Qaz s.b s.o s.l).bl g) (aa : Act) (w : World) (S : Sy w0 [] [] (raS at_ s ov (j)) [Qaz s.b s.o s.l, QhB w0.heap.size ov (QdA at_ s.l (j))] aa w), post Try.prog (.rnd (m + 1) (Qa_ raC) :: raC.k.tail) (bodyPost Try.prog Try.f20 (raP w0 at_ s.l)) .normal aa w := by
  intro m
  induction m with
  | zero => intro j hj ov hap aa w S; obtain rfl : j = s.l.length := by omega
            exact ra_e w0 at_ hat s hs hsl 0 ov hap aa w S
  | succ m ih => intro j hj ov hap aa w S; exact ra_s w0 at_ hat s hs hsl (m + 1) j (by omega) ov hap (fun ov h => ih (j + 1) (by omega) ov h) aa w S
end
theorem record_t (w0 : World) (e : Et) (hok : e.ok) (hfg : QcD e.ver e.ws) (hA : Qc8 w0 e.b e.o e.ws) (at_ : Nat) (hat : at_ ≤ 1000) : Calls Try.prog 20 #[e.v, .int .i64 (at_ : Int)] w0 (raP w0 at_ (QaC e.ver e.ws)) := by
  refine Qas [] [QaN e.b e.o e.ws] (by intro f hf; simp only [List.mem_singleton] at hf; subst hf; exact hA) Try.func20 rfl rfl fun aa S => ?_
  refine Qap 1 60 1 S fun bs aa w S => ?_
  refine Qbq S fun bs S => ?_
  have hlt := fun i hi => S.lt (i := i) hi
  have hgr := S.gr.size
  refine Qbg S (X := Sr) (val := Sr.v) (C := fun s w' => s.l = QaC e.ver e.ws ∧ s.ok ∧ s.at w' ∧ s.l.length ≤ s.c ∧ (s.l.length = 0 ∨ w.heap.size ≤ s.b)) (QgW w e hok hfg (S.fact (f := QaN e.b e.o e.ws) (by simp))) (by kernel_rfl) fun s aa w1 hC hb S => ?_
  obtain ⟨hl, hs, hAt, hcap, hbd⟩ := hC
  have S := S.add (Qaz s.b s.o s.l) hAt (fun i hi hb => by have := hlt i hi; have := hb.1; have := hbd.resolve_left hb.2; omega)
  refine Qah S fun bs aa w S => ?_
  have S := S.add (QhB w0.heap.size (.slice none 0 0) (QdA at_ s.l (0))) (World.ownsRow_nil _ _ _ _) (fun i hi h => by cases h)
  have S := S.sub (F' := [Qaz s.b s.o s.l, QhB w0.heap.size (.slice none 0 0) (QdA at_ s.l (0))]) (by intro f hf; simp only [List.mem_cons, List.not_mem_nil, or_false] at hf; rcases hf with rfl | rfl <;> simp)
  have S2 := S.to [] (raS at_ s (.slice none 0 0) 0) (by kernel_rfl) (by kernel_rfl) (by kernel_rfl) (by kernel_rfl) (by kernel_rfl)
  refine QaR (s.l.length + 1) (by kernel_rfl) ?_
  refine Qag (k' := (.rnd (s.l.length + 1) (Qa_ raC) :: raC.k.tail)) (by kernel_rfl) ?_
  rw [← hl]
  exact ra_a w0 at_ hat s hs (by rw [hl]; exact Nat.le_trans (Qk3 hfg) (by omega)) s.l.length 0 (by omega) (.slice none 0 0) (fun g hg => by cases hg) aa _ S2
theorem wsE_asc (i b : Nat) : asc (-1) (wsE i b 5) = true := by
  simp only [wsE]
  cases bitE b 0 <;> cases bitE b 1 <;> cases bitE b 2 <;> cases bitE b 3 <;> cases bitE b 4 <;> simp [asc]
section
variable (i b : Nat) (hi : i ≤ 100) (hb : b < 256)
include i b hi hb
theorem QgB : QcD (QcP i b).1 (QcP i b).2 := Qko i b (by omega) (by omega)
theorem Qhk : QaG (QcP i b).1 (QcP i b).2 = true := by
  have h := QdF i b 5
  unfold QaG QcP
  simp only [Bool.and_eq_true, decide_eq_true_eq]
  exact ⟨⟨⟨by omega, by omega⟩, by omega⟩, wsE_asc i b⟩
theorem ent_len : (QaC (QcP i b).1 (QcP i b).2).length ≤ 5 := by
  have hf := QgB i b hi hb
  rw [QaU (Qhk i b hi hb), QbA]
  have h1 := Qb6 (QcP i b).1 (QcP i b).2
  have h2 : (QcP i b).2.length ≤ 5 := QdF i b 5
  have h3 := Qg7 (Qbb (QcP i b).1 (QcP i b).2) (QcK hf) (by omega)
  have h4 : (QbB (QcP i b).1 (QcP i b).2).length ≤ 10 + 10 * (Qbb (QcP i b).1 (QcP i b).2).length := by unfold QbB; omega
  unfold Qau
  omega
end
theorem QfT : ∀ (P : List (Int × Ws)) (p : Int × Ws) (last : Int), Qh5 last (P ++ [p]) = p.1
  | [], _, _ => rfl
  | q :: r, p, _ => QfT r p q.1
theorem Qhx : ∀ (P : List (Int × Ws)) (p : Int × Ws) (last : Int), ascR last P → Qh5 last P < p.1 → QcD p.1 p.2 → QaG p.1 p.2 = true → ascR last (P ++ [p])
  | [], _, _, _, h, hf, hv => ⟨h, hf, hv, trivial⟩
  | q :: r, p, _, ha, h, hf, hv => ⟨ha.1, ha.2.1, ha.2.2.1, Qhx r p q.1 ha.2.2.2 h hf hv⟩
theorem Qie (l : List Nat) (h256 : ∀ b ∈ l, b < 256) : ∀ n, n ≤ 100 → ascR 0 (Qa3 l n) ∧ Qh5 0 (Qa3 l n) < ((2 * n + 1 : Nat) : Int)
  | 0, _ => ⟨trivial, by show (0 : Int) < _; omega⟩
  | n + 1, hn => by
    obtain ⟨h1, h2⟩ := Qie l h256 n (by omega)
    have hb : l.getD n 0 < 256 := by
      by_cases h : n < l.length
      · exact h256 _ (Qbe l n 0 h)
      · rw [show l.getD n 0 = 0 by simp [List.getD, List.getElem?_eq_none (Nat.not_lt.1 h)]]; omega
    rw [Qbw]
    refine ⟨Qhx _ _ _ h1 ?_ (QgB _ _ (by omega) hb) (Qhk _ _ (by omega) hb), ?_⟩
    · refine Int.lt_of_lt_of_le h2 ?_
      show _ ≤ ((2 * n + 1 + l.getD n 0 / 128 : Nat) : Int)
      omega
    · rw [QfT]
      show ((2 * n + 1 + l.getD n 0 / 128 : Nat) : Int) < _
      omega
theorem QeJ (l : List Nat) (h256 : ∀ b ∈ l, b < 256) : ∀ n, n ≤ l.length → n ≤ 100 → (Qav (Qa3 l n)).length ≤ 5 * n
  | 0, _, _ => Nat.le_refl _
  | n + 1, h, hn => by
    have h1 := QeJ l h256 n (by omega) (by omega)
    have h2 := ent_len n (l.getD n 0) (by omega) (h256 _ (Qbe l n 0 (by omega)))
    rw [Qbw, Qch, List.length_append]
    omega
def stJ (P : List (Int × Ws)) (r : List ByteArray) (j : Nat) : List ByteArray := Qav P ++ (r.take j ++ List.replicate (40 - (Qav P).length - j) z32)
def QfZ (P : List (Int × Ws)) : List ByteArray := Qav P ++ List.replicate (40 - (Qav P).length) z32
theorem stJ_0 (P : List (Int × Ws)) (r : List ByteArray) : stJ P r 0 = QfZ P := by simp [stJ, QfZ]
theorem stJ_all (P : List (Int × Ws)) (p : Int × Ws) : stJ P (QaC p.1 p.2) (QaC p.1 p.2).length = QfZ (P ++ [p]) := by
  unfold stJ QfZ
  rw [Qch, List.take_length, List.length_append, List.append_assoc, Nat.sub_sub]
theorem QeW {P : List (Int × Ws)} {r : List ByteArray} {j : Nat} (hj : j ≤ r.length) (h : (Qav P).length + r.length ≤ 40) : (stJ P r j).length = 40 := by
  simp only [stJ, List.length_append, List.length_take, List.length_replicate]
  omega
theorem QkM {α : Type} (A B : List α) (x y : α) (n : Nat) (hn : n = A.length) : (A ++ x :: B).set n y = A ++ y :: B := by
  subst hn
  induction A with
  | nil => rfl
  | cons a A ih => exact congrArg (a :: ·) ih
theorem QhK {P : List (Int × Ws)} {r : List ByteArray} {j : Nat} (hj : j < r.length) (h : (Qav P).length + r.length ≤ 40) : (stJ P r j).set ((Qav P).length + j) (r.getD j ByteArray.empty) = stJ P r (j + 1) := by
  have e : 40 - (Qav P).length - j = (40 - (Qav P).length - (j + 1)) + 1 := by omega
  have g : r.getD j ByteArray.empty = r[j] := by simp [List.getD, List.getElem?_eq_getElem hj]
  unfold stJ
  rw [e, List.replicate_succ, ← List.append_assoc, QkM _ _ _ _ _ (by simp only [List.length_append, List.length_take]; omega), List.take_succ_eq_append_getElem hj, g]
  simp only [List.append_assoc, List.cons_append, List.nil_append]
theorem z32_is : z32 = QaO (List.replicate 32 0) := by decide
theorem devS_len {P : List (Int × Ws)} (h : (Qav P).length ≤ 40) : (QfZ P).length = 40 := by
  simp only [QfZ, List.length_append, List.length_replicate]
  omega
theorem Qjp {P : List (Int × Ws)} (ha : ascR 0 P) (h : (Qav P).length ≤ 40) (hP : P.length ≤ 40) : Qdz ((QfZ P).length + 1) (QfZ P) 0 0 = (P, (Qav P).length) := by
  have hl := devS_len h
  have hn : Qbo (QfZ P) (Qav P).length = none := by
    by_cases hk : (Qav P).length < 40
    · refine Qkm ?_
      unfold QfZ
      rw [← z32_is]
      have hk2 : 0 < 40 - (Qav P).length := by omega
      simp [List.getD, List.getElem?_append_right, List.getElem?_replicate, hk2]
    · cases hp : Qbo (QfZ P) (Qav P).length with
      | none => rfl
      | some x =>
        exfalso
        obtain ⟨v, ws', n⟩ := x
        obtain ⟨_, _, _, _, h5, _, _⟩ := Qdd hp
        omega
  rw [hl, show 40 + 1 = P.length + ((40 - P.length) + 1) by omega, Qgj P _ (QfZ P) 0 0 (List.replicate (40 - (Qav P).length) z32) ha rfl, Nat.zero_add, QdV hn, List.append_nil]
theorem Qi8 (q : Int) : ∀ a b : Ws, Qc2 q (a ++ b) = (match Qc2 q a with | some x => some x | none => Qc2 q b)
  | [], b => rfl
  | x :: r, b => by
    show (if x.1 = q then some x else Qc2 q (r ++ b)) = match (if x.1 = q then some x else Qc2 q r) with
      | some x => some x
      | none => Qc2 q b
    split
    · rfl
    · exact Qi8 q r b
theorem z32_ext : ∀ m : Fin 33, z32.extract m.val z32.size = QaO (List.replicate (32 - m.val) 0) := of_decide_eq_true (by kernel_rfl)
theorem str_tear (s : ByteArray) (hs : s.size = 32) (m : Nat) (hm : m ≤ 32) : Qg_ s z32 m = QaO (Qdx (Qaf s) m) := by
  have e1 : s.extract 0 m = QaO ((Qaf s).take m) := by
    rw [← Qgc (s.extract 0 m)]
    congr 1
    unfold Qaf
    rw [ByteArray.data_extract, Array.toList_extract]
    simp [List.map_take]
  have e2 : z32.extract m z32.size = QaO (List.replicate (32 - m) 0) := z32_ext ⟨m, by omega⟩
  unfold Qg_ Qdx
  rw [e1, e2, QdS]
def QiC (k j : Nat) : List (Int × ByteArray) := (List.range j).map fun q => (((k + q : Nat) : Int), z32)
theorem QiB (k j : Nat) : (QiC k j).length = j := by simp [QiC]
theorem QhF (k j q : Nat) (h : q < j) : (QiC k j).getD q (0, ByteArray.empty) = (((k + q : Nat) : Int), z32) := by simp [QiC, List.getD, h]
theorem Qkv (k j : Nat) : QiC k (j + 1) = QiC k j ++ [(((k + j : Nat) : Int), z32)] := by simp [QiC, List.range_succ]
section
variable {P : List (Int × Ws)} {r : List ByteArray} {j : Nat} (hj : j < r.length) (h : (Qav P).length + r.length ≤ 40)
include P r j hj h
theorem stJ_at : (stJ P r (j + 1)).getD ((Qav P).length + j) ByteArray.empty = r.getD j ByteArray.empty := by
  rw [← QhK hj h]
  have hl := QeW (P := P) (r := r) (j := j) (by omega) h
  simp [List.getD, List.getElem?_set, show (Qav P).length + j < (stJ P r j).length by omega]
theorem stJ_un : (stJ P r (j + 1)).set ((Qav P).length + j) z32 = stJ P r j := by
  have hz : (stJ P r j).getD ((Qav P).length + j) ByteArray.empty = z32 := by
    unfold stJ
    have e : 40 - (Qav P).length - j = (40 - (Qav P).length - (j + 1)) + 1 := by omega
    rw [e, List.replicate_succ, ← List.append_assoc]
    have hm : (Qav P).length + j = (Qav P ++ r.take j).length := by rw [List.length_append, List.length_take]; omega
    rw [hm]
    simp [List.getD, List.getElem?_append_right]
  have hl := QeW (P := P) (r := r) (j := j) (by omega) h
  rw [← QhK hj h, List.set_set]
  apply List.ext_getElem?
  intro i
  rw [List.getElem?_set]
  split
  · next hi =>
    subst hi
    rw [if_pos (by omega)]
    have h2 : (Qav P).length + j < (stJ P r j).length := by omega
    rw [List.getElem?_eq_getElem h2]
    have h3 : (stJ P r j).getD ((Qav P).length + j) ByteArray.empty = (stJ P r j)[(Qav P).length + j] := by simp [List.getD, List.getElem?_eq_getElem h2]
    rw [← h3, hz]
  · rfl
end
theorem un_st (P : List (Int × Ws)) (r : List ByteArray) (h : (Qav P).length + r.length ≤ 40) (j : Nat) (hj : j ≤ r.length) : ∀ (m : Nat) (Dt : List ByteArray), m ≤ j → Dt.length = j → (∀ q, m ≤ q → q < j → Dt.getD q ByteArray.empty = r.getD q ByteArray.empty) →
    (unA (QiC (Qav P).length j) m (stJ P r m, Dt)).1 = QfZ P ∧ ∀ q, q < j → (unA (QiC (Qav P).length j) m (stJ P r m, Dt)).2.getD q ByteArray.empty = r.getD q ByteArray.empty
  | 0, Dt, _, hl, hD => ⟨stJ_0 P r, fun q hq => hD q (Nat.zero_le _) hq⟩
  | m + 1, Dt, hm, hl, hD => by
    unfold unA
    simp only [QhF _ _ _ (show m < j by omega), Int.toNat_natCast]
    rw [stJ_un (by omega) h, stJ_at (by omega) h]
    refine un_st P r h j hj m _ (by omega) (by simp [hl]) (fun q h1 h2 => ?_)
    by_cases e : q = m
    · subst e
      simp [List.getD, List.getElem?_set, show q < Dt.length by omega]
    · rw [← hD q (by omega) h2]
      simp [List.getD, List.getElem?_set, show ¬m = q by omega]
def cutJ (cs : List Int) (j n : Nat) : List Nat := (List.range n).map fun q => if q < j then QaY cs q else 0
theorem cutJ_at (cs : List Int) (j n q : Nat) (h : q < n) : cutA (cutJ cs j n) q = if q < j then QaY cs q else 0 := by
  unfold cutA
  have hc := QeQ cs q
  have e : (cutJ cs j n).getD q 0 = if q < j then QaY cs q else 0 := by simp [cutJ, List.getD, h]
  rw [if_pos (by simpa [cutJ] using h), e]
  split <;> omega
theorem tk_st (P : List (Int × Ws)) (r : List ByteArray) (h : (Qav P).length + r.length ≤ 40) (hsz : ∀ s ∈ r, s.size = 32) (cs : List Int) (j : Nat) (hj : j ≤ r.length) (Dt : List ByteArray) (hD : ∀ q, q < j → Dt.getD q ByteArray.empty = r.getD q ByteArray.empty) : ∀ m, m ≤ j → crA (QiC (Qav P).length j) cs Dt m (QfZ P) = Qav P ++ ((List.range m).map (fun q => QaO (Qdx (Qaf (r.getD q ByteArray.empty)) (QaY cs q))) ++ List.replicate (40 - (Qav P).length - m) z32)
  | 0, _ => rfl
  | m + 1, hm => by
    have e : 40 - (Qav P).length - m = (40 - (Qav P).length - (m + 1)) + 1 := by omega
    have hs : (r.getD m ByteArray.empty).size = 32 := hsz _ (Qbe r m _ (by omega))
    have hlen : (Qav P).length + m = (Qav P ++ (List.range m).map (fun q => QaO (Qdx (Qaf (r.getD q ByteArray.empty)) (QaY cs q)))).length := by simp
    unfold crA crJ
    rw [tk_st P r h hsz cs j hj Dt hD m (by omega), QhF _ _ _ (show m < j by omega), Int.toNat_natCast, hD m (by omega), e, List.replicate_succ, ← List.append_assoc]
    have hg : (Qav P ++ (List.range m).map (fun q => QaO (Qdx (Qaf (r.getD q ByteArray.empty)) (QaY cs q))) ++ z32 :: List.replicate (40 - (Qav P).length - (m + 1)) z32).getD ((Qav P).length + m) ByteArray.empty = z32 := by
      rw [hlen]
      simp [List.getD, List.getElem?_append_right]
    rw [hg, QkM _ _ _ _ _ hlen, str_tear _ hs _ (QeQ cs m), List.range_succ, List.map_append]
    simp
theorem crash_S (P : List (Int × Ws)) (r : List ByteArray) (h : (Qav P).length + r.length ≤ 40) (hsz : ∀ s ∈ r, s.size = 32) (cs : List Int) (x : Dk) (j : Nat) (hj : j ≤ r.length) (hS : x.S = stJ P r j) (hW : x.W = QiC (Qav P).length j) (htl : x.tl = j) : crS x cs = Qav P ++ (Qc9 r (cutJ cs j r.length) r.length ++ List.replicate (40 - (Qav P).length - r.length) z32) := by
  obtain ⟨h1, h2⟩ := un_st P r h j hj j (List.replicate j ByteArray.empty) (Nat.le_refl _) (by simp) (fun q h1 h2 => by omega)
  have e1 : (crU x).1 = QfZ P := by unfold crU; rw [hW, htl, hS]; exact h1
  unfold crS
  rw [e1, hW, htl, tk_st P r h hsz cs j hj _ (fun q hq => by unfold crU; rw [hW, htl, hS]; exact h2 q hq) j (Nat.le_refl _)]
  congr 1
  have e3 : 40 - (Qav P).length - j = (r.length - j) + (40 - (Qav P).length - r.length) := by omega
  have e4 : Qc9 r (cutJ cs j r.length) r.length = (List.range j).map (fun q => QaO (Qdx (Qaf (r.getD q ByteArray.empty)) (QaY cs q))) ++ List.replicate (r.length - j) z32 := by
    refine QgA ByteArray.empty _ _ (by simp [Qc9]; omega) fun i hi => ?_
    have hin : i < r.length := by simpa [Qc9] using hi
    rw [Qf9 _ _ _ _ hin]
    unfold Qf8
    rw [cutJ_at _ _ _ _ hin]
    by_cases hij : i < j
    · rw [if_pos hij]
      simp [List.getD, List.getElem?_append_left, hij]
    · rw [if_neg hij, z32_is]
      have e5 : Qdx (Qaf (r.getD i ByteArray.empty)) 0 = List.replicate 32 0 := by simp [Qdx]
      rw [e5]
      simp [List.getD, List.getElem?_append_right, show j ≤ i by omega, List.getElem?_replicate, show i - j < r.length - j by omega]
  rw [e4, e3, ← List.replicate_append_replicate, List.append_assoc]
theorem Qmc (P : List (Int × Ws)) (p : Int × Ws) (ha : ascR 0 (P ++ [p])) (h : (Qav P).length + (QaC p.1 p.2).length ≤ 40) (hP : P.length ≤ 38) (cs : List Nat) : ∃ L, Qav P ++ (Qc9 (QaC p.1 p.2) cs (QaC p.1 p.2).length ++ List.replicate (40 - (Qav P).length - (QaC p.1 p.2).length) z32) = L ∧ (Qdz (L.length + 1) L 0 0 = (P, (Qav P).length) ∨ Qdz (L.length + 1) L 0 0 = (P ++ [p], (Qav (P ++ [p])).length)) := by
  refine ⟨_, rfl, ?_⟩
  obtain ⟨hf, hv⟩ := Qjx _ 0 ha p (by simp)
  have hap := Qjw P [p] 0 ha
  cases hsm : QhQ (QaC p.1 p.2) cs (QaC p.1 p.2).length with
  | true =>
    right
    have e : Qc9 (QaC p.1 p.2) cs (QaC p.1 p.2).length = QaC p.1 p.2 := by
      refine QgA ByteArray.empty _ _ (QdR _ _ _) fun i hi => ?_
      rw [QdR] at hi
      rw [Qf9 _ _ _ _ hi]
      exact (Qe2 _ _ _).1 hsm i hi
    have e2 : Qav P ++ (QaC p.1 p.2 ++ List.replicate (40 - (Qav P).length - (QaC p.1 p.2).length) z32) = QfZ (P ++ [p]) := by
      unfold QfZ
      rw [Qch, List.length_append, List.append_assoc, Nat.sub_sub]
    rw [e, e2]
    exact Qjp ha (by rw [Qch, List.length_append]; exact h) (by simp; omega)
  | false =>
    left
    have hL : (Qav P ++ (Qc9 (QaC p.1 p.2) cs (QaC p.1 p.2).length ++ List.replicate (40 - (Qav P).length - (QaC p.1 p.2).length) z32)).length = 40 := by
      simp only [List.length_append, QdR, List.length_replicate]; omega
    have hn : Qbo (Qav P ++ (Qc9 (QaC p.1 p.2) cs (QaC p.1 p.2).length ++ List.replicate (40 - (Qav P).length - (QaC p.1 p.2).length) z32)) (Qav P).length = none := by
      rw [QjM, List.drop_left]
      exact QkA hf hv cs _ hsm
    rw [hL, show 40 + 1 = P.length + ((40 - P.length) + 1) by omega, Qgj P _ _ 0 0 (Qc9 (QaC p.1 p.2) cs (QaC p.1 p.2).length ++ List.replicate (40 - (Qav P).length - (QaC p.1 p.2).length) z32) hap rfl, Nat.zero_add, QdV hn, List.append_nil]
def accV (a : AccD) : Value := .agg #[.int .i64 a.k, .int .i64 a.c, .int .i64 a.o, .int .i64 a.n, .string a.b]
def AcAt (w : World) (g : Nat) (L : List AccD) : Prop := ∀ j, j < L.length → ∀ i x, [Value.int .i64 (L.getD j Qbk).k, .int .i64 (L.getD j Qbk).c, .int .i64 (L.getD j Qbk).o, .int .i64 (L.getD j Qbk).n, .string (L.getD j Qbk).b][i]? = some x → w.cell? ⟨g, 0 + j * 5 + i, none⟩ = some x
def QfJ (g : Nat) (L : List AccD) : RF := ⟨fun b' => b' = g ∧ L.length ≠ 0, fun w => AcAt w g L, fun w h b' hb => by
  obtain ⟨rfl, hl⟩ := hb
  exact World.block_lt_of_cell? w _ (h 0 (by omega) 0 _ rfl), fun w w' h hb j hj i x hx => (World.cell?_of_block (a := ⟨g, 0 + j * 5 + i, none⟩) (hb g ⟨rfl, by omega⟩)).trans (h j hj i x hx)⟩
theorem ld_ac {w : World} {g j : Nat} {L : List AccD} (h : AcAt w g L) (hj : j < L.length) : (loadVar 66 ⟨g, 0 + j * 5, none⟩).run Try.prog w = .ok (accV (L.getD j Qbk)) w :=
  run_loadVar_mid w g (0 + j * 5) 66 [.int .i64 (L.getD j Qbk).k, .int .i64 (L.getD j Qbk).c, .int .i64 (L.getD j Qbk).o, .int .i64 (L.getD j Qbk).n, .string (L.getD j Qbk).b] _ (h j hj) Try.underlying66 rfl (by kernel_rfl)
theorem ac_of {w : World} {B : Nat} {u : Value} {L : List AccD} (h : (QhB B u L).P w) (hL : L.length ≠ 0) : ∃ g c, u = .slice (some ⟨g, 0, none⟩) L.length c ∧ B ≤ g ∧ AcAt w g L := by
  have h0 : w.ownsRow B 66 5 u L.length (QaA L) := h
  obtain ⟨_, h1 | ⟨g, cap, cur, rfl, hb, _, hn, hc, _, _⟩⟩ := id h0
  · exact absurd h1.2 hL
  · refine ⟨g, cap, rfl, hb, fun j hj i x hx => ?_⟩
    obtain ⟨h1, h2, h3, h4, h5⟩ := Qfx L j hj
    match i, hx with
    | 0, hx => obtain rfl := Option.some.inj hx; rw [Nat.zero_add, Nat.add_zero, h0.cellAt (j * 5) (by omega)]; exact h1
    | 1, hx => obtain rfl := Option.some.inj hx; rw [Nat.zero_add, h0.cellAt (j * 5 + 1) (by omega)]; exact h2
    | 2, hx => obtain rfl := Option.some.inj hx; rw [Nat.zero_add, h0.cellAt (j * 5 + 2) (by omega)]; exact h3
    | 3, hx => obtain rfl := Option.some.inj hx; rw [Nat.zero_add, h0.cellAt (j * 5 + 3) (by omega)]; exact h4
    | 4, hx => obtain rfl := Option.some.inj hx; rw [Nat.zero_add, h0.cellAt (j * 5 + 4) (by omega)]; exact h5
    | i + 5, hx => cases hx
def dvJ (P : List (Int × Ws)) (r : List ByteArray) (j : Nat) (x : Dk) : Prop := x.gen ∧ x.S = stJ P r (min j r.length) ∧ x.W.length ≤ j ∧ (j = r.length + 1 → x.W = []) ∧ x.sl ≤ x.sc
structure Dvj (P : List (Int × Ws)) (r : List ByteArray) (j : Nat) (h0 : Nat) (d : Dk) (y : Dk) (w : World) : Prop where
  j : dvJ P r j y
  sA : StrAt w y.b y.o y.S
  wA : WasAt w y.c y.p y.W
  b0 : y.S.length = 0 ∨ h0 ≤ y.b ∨ (y.b = d.b ∧ d.S.length ≠ 0)
  c0 : y.W.length = 0 ∨ h0 ≤ y.c ∨ (y.c = d.c ∧ d.W.length ≠ 0)
def dvQ (P : List (Int × Ws)) (r : List ByteArray) (j : Nat) (x : Dk) : Prop := x.gen ∧ x.S = stJ P r (min j r.length) ∧ x.W = (if j ≤ r.length then QiC (Qav P).length j else []) ∧ x.sl ≤ x.sc
structure Dvq (P : List (Int × Ws)) (r : List ByteArray) (j : Nat) (h0 : Nat) (d : Dk) (y : Dk) (w : World) : Prop where
  j : dvQ P r j y
  sA : StrAt w y.b y.o y.S
  wA : WasAt w y.c y.p y.W
  b0 : y.S.length = 0 ∨ h0 ≤ y.b ∨ (y.b = d.b ∧ d.S.length ≠ 0)
  c0 : y.W.length = 0 ∨ h0 ≤ y.c ∨ (y.c = d.c ∧ d.W.length ≠ 0)
def doQ (ma : Option Addr) (n mc : Nat) (y : Dk) : Value := .tuple #[.agg #[.slice ma n mc], y.v, .agg #[.int .i64 0, .bool true], .int .i64 0]
theorem do_q (w : World) (P : List (Int × Ws)) (r : List ByteArray) (at_ : Nat) (hat : at_ = (Qav P).length) (h40 : at_ + r.length ≤ 40) (hsz : ∀ s ∈ r, s.size = 32) (j : Nat) (hj : j ≤ r.length) (x : Dk) (hx : dvQ P r j x) (hA : StrAt w x.b x.o x.S) (hB : WasAt w x.c x.p x.W) (zs : List Int) (ma : Option Addr) (mc mb mo : Nat) (hz : zs.length ≤ 60) (hm : zs.length = 0 ∨ ma = some ⟨mb, mo, none⟩) (hI : Qbm w mb mo zs) : Calls Try.prog 21 #[.agg #[.slice ma zs.length mc], x.v, accV ((QcF at_ r).getD j Qbk)] w fun e w' => ∃ y : Dk, e = .returned (doQ ma zs.length mc y) ∧ (Dvq P r (j + 1) w.heap.size x y w' ∧ Qbm w' mb mo zs) ∧ Below w.heap.size w w' := by
  obtain ⟨hg, hS, hW, hcp⟩ := hx
  rw [if_pos hj] at hW
  have hsl : x.sl = 40 := by rw [← hg.hS, hS]; exact QeW (by omega) (by omega)
  have htl : x.tl ≤ 60 := by rw [← hg.hW, hW, QiB]; omega
  have hok := gen_ok hg (by omega) (by omega)
  by_cases hjr : j < r.length
  · have ea : (QcF at_ r).getD j Qbk = wAcc (at_ + j) (r.getD j ByteArray.empty) := by
      unfold QcF
      simp [List.getD, List.getElem?_append_left, Qcy, hjr, QdA]
    have hs32 : (r.getD j ByteArray.empty).size = 32 := hsz _ (by simp [List.getD, List.getElem?_eq_getElem hjr])
    rw [ea]
    have h := pdo_c5 w x hok hg htl hA hB zs ma mc mb mo hz hm hI ((at_ + j : Nat) : Int) 0 0 (r.getD j ByteArray.empty)
    have hin : 0 ≤ ((at_ + j : Nat) : Int) ∧ ((at_ + j : Nat) : Int) < (x.sl : Int) := by omega
    have e1 : Qke x ((at_ + j : Nat) : Int) (r.getD j ByteArray.empty) = true := by unfold Qke; rw [decide_eq_true hin, decide_eq_true hs32]; rfl
    have eE : dE x 5 ((at_ + j : Nat) : Int) 0 0 (r.getD j ByteArray.empty) = 0 := by unfold dE waE; rw [if_pos rfl, if_pos ⟨rfl, rfl⟩, if_pos hin, if_pos hs32]
    have eS : dS x 5 ((at_ + j : Nat) : Int) 0 0 (r.getD j ByteArray.empty) = stJ P r (min (j + 1) r.length) := by
      unfold dS waS
      rw [if_pos rfl, if_pos ⟨rfl, rfl⟩, if_pos e1, hS, Nat.min_eq_left (by omega), Nat.min_eq_left (by omega), Int.toNat_natCast, hat]
      exact QhK hjr (by omega)
    have hzz : x.S.getD (at_ + j) ByteArray.empty = z32 := by
      rw [hS, Nat.min_eq_left (by omega), hat]
      have h2 := stJ_un (P := P) (r := r) hjr (by omega)
      rw [← h2]
      have hl := QeW (P := P) (r := r) (j := j + 1) (by omega) (by omega)
      simp [List.getD, List.getElem?_set, show (Qav P).length + j < (stJ P r (j + 1)).length by omega]
    have eW : dW x 5 ((at_ + j : Nat) : Int) 0 0 (r.getD j ByteArray.empty) = QiC (Qav P).length (j + 1) := by
      unfold dW waW
      rw [if_pos rfl, if_pos ⟨rfl, rfl⟩, if_pos e1, hW, Qkv, Int.toNat_natCast, hzz, hat]
    rw [eE, eS, eW] at h
    refine h.mono fun e w' ⟨y, h1, h2, h3, h4⟩ => ⟨y, h1, ⟨⟨⟨h2.g, h2.eS, by rw [h2.eW, if_pos (by omega)], h2.cp hcp⟩, h2.sA, h2.wA, h2.b0, h2.c0⟩, h3⟩, h4⟩
  · obtain rfl : j = r.length := by omega
    have ea : (QcF at_ r).getD r.length Qbk = synA := by
      unfold QcF
      simp [List.getD, List.getElem?_append_right, Qcy]
    rw [ea]
    have h := pdo_c6 w x hok hg htl hA hB zs ma mc mb mo hz hm hI 0 0 0 ByteArray.empty
    have eE : dE x 6 0 0 0 ByteArray.empty = 0 := rfl
    have eS : dS x 6 0 0 0 ByteArray.empty = stJ P r (min (r.length + 1) r.length) := by
      rw [show dS x 6 0 0 0 ByteArray.empty = x.S from rfl, hS, Nat.min_self, Nat.min_eq_right (by omega)]
    have eW : dW x 6 0 0 0 ByteArray.empty = [] := rfl
    rw [eE, eS, eW] at h
    refine h.mono fun e w' ⟨y, h1, h2, h3, h4⟩ => ⟨y, h1, ⟨⟨⟨h2.g, h2.eS, by rw [h2.eW, if_neg (by omega)], h2.cp hcp⟩, h2.sA, h2.wA, h2.b0, h2.c0⟩, h3⟩, h4⟩
section
variable [DF] [KP] [HF] {P : Program} {w0 : World} {r : List Nat} {bs : List Nat} {F : List RF} {a : Act} {w : World} {c : Cfg} {QQ : Exit → Act → World → Prop} [PInv QQ] {B : List Nat} {ro : List Nat} {d : DC}
theorem Qao (i : Nat) (rs : List Nat) (D : Sd w0 r B c.s.K ro bs d.s F a w)
    (h : ∀ bs' a' w', Sd w0 r B c.s.K ro (bs ++ bs') (dO P c ro d i).s F a' w' → B.length ≤ (bs ++ bs').length → Qai P (QaH c) (PQ P (kD c) QQ) (QbM B c.s.K ro) (dO P c ro d i).pred (dO P c ro d i).lst a' w' rs)
    (hr : Region.ready .any (QaH c) (dO P c ro d i).lst = rs := by kernel_rfl) (hlen : B.length ≤ bs.length := by first | assumption | exact Nat.le_refl _) (hs : Region.noSelect (QaH c) = true := by kernel_rfl) (hi : (opS P (QaH c) d.s i).isSome = true := by kernel_rfl) (hro : ro.map (fun j => ((opS P (QaH c) d.s i).getD d.s).K[j]?) = ro.map (fun j => c.s.K[j]?) := by kernel_rfl)
    (hn : ((dO P c ro d i).m != 0) = true := by kernel_rfl) (hne : rs.isEmpty = false := by rfl) : Nxt P (QaH c) (PQ P (kD c) QQ) (QbM B c.s.K ro) d.pred d.lst a w i :=
  Qbr i D hs hlen hi hro fun bs' a' w' D' hl' => Qac rs hn hr hne (h bs' a' w' D' hl')
theorem QbX (i : Nat) (D : Sd w0 r B c.s.K ro bs d.s F a w)
    (h : ∀ bs' a' w', Sy w0 r (bs ++ bs') (endD c (dO P c ro d i)).s F a' w' → post P (endD c (dO P c ro d i)).k QQ .normal a' w')
    (hlen : B.length ≤ bs.length := by first | assumption | exact Nat.le_refl _) (hs : Region.noSelect (QaH c) = true := by kernel_rfl) (hi : (opS P (QaH c) d.s i).isSome = true := by kernel_rfl) (hro : ro.map (fun j => ((opS P (QaH c) d.s i).getD d.s).K[j]?) = ro.map (fun j => c.s.K[j]?) := by kernel_rfl)
    (hr : Region.ready .any (QaH c) (dO P c ro d i).lst = [] := by kernel_rfl) : Nxt P (QaH c) (PQ P (kD c) QQ) (QbM B c.s.K ro) d.pred d.lst a w i :=
  Qbr i D hs hlen hi hro fun bs' a' w' D' hl' => QaM D' hr fun S => h bs' a' w' S
end
def cfA : Cf := ⟨1, 5, 0, 40, 0⟩
def lyA : List Value := [.int .i64 1, .int .i64 5, .int .i64 0, .int .i64 40, .int .i64 0, .int .i64 0, .int .i64 1, .int .i64 2, .int .i64 3, .int .i64 4, .int .i64 8, .int .i64 8, .int .i64 28]
structure Ap where
  la : Option Addr
  n0 : Nat
  lc : Nat
  z : Er
  at_ : Nat
  i : Nat
def apP (w0 : World) (y : Ending) (w' : World) : Prop := y = .returned (.bool true) ∧ Below w0.heap.size w0 w'
noncomputable def sq1C : Cfg := ⟨goZ 600 [0] [.code (QaW Try.f4)], ⟨0, [], []⟩⟩
noncomputable def Qec (m : Nat) : Cfg := ⟨goZ 600 [1] (.code (Qa_ sq1C) :: .rnd m (Qa_ sq1C) :: sq1C.k.tail), ⟨0, [], []⟩⟩
noncomputable def sq3K (m q : Nat) : List It := goM 100 3 [1] (.code (Qa_ (Qec m)) :: .rnd q (Qa_ (Qec m)) :: (Qec m).k.tail)
structure Aq where
  ca : Option Addr
  cl : Nat
  cc : Nat
  z : Er
  ma : Option Addr
  mc : Nat
  mb : Nat
  mo : Nat
  at_ : Nat
  i : Nat
def zs4 : List Int := [0, 0, 0, 0]
noncomputable def q2T (A : Aq) (lf dn en : Nat) (g n uc j : Nat) : List (Nat × SV) := [(2, .v (.slice A.ca A.cl A.cc)), (7, .v (.bool true)), (8, .p 0 0), (10, .v A.z.v), (11, .p 1 0), (13, .p 2 0), (14, .v (.int .i64 (A.at_ : Int))), (15, .v (.int .i64 (lf : Int))), (16, .v (.int .i64 (dn : Int))), (17, .v (.int .i64 (en : Int))), (18, .v (.int .i64 (A.i : Int))), (19, .v (.slice (some ⟨g, 0, none⟩) n uc)), (20, .v (.int .i64 (j : Int)))]
noncomputable def q2B (A : Aq) (x : Dk) : List Bx := [⟨25, lyA⟩, ⟨30, x.cs⟩, ⟨37, [.slice A.ma 4 A.mc]⟩]
noncomputable def q2S (A : Aq) (x : Dk) (lf dn en : Nat) (g n uc j : Nat) : SS := ⟨267, q2T A lf dn en g n uc j, q2B A x⟩
noncomputable def q3S (A : Aq) (x x' : Dk) (lf dn en : Nat) (g n uc j : Nat) : SS := ⟨267, q2T A lf dn en g n uc j ++ [(21, .p 4 0), (22, .p 3 0), (23, .p 5 0), (24, .v (.int .i64 0))], q2B A x ++ [⟨30, x'.cs⟩, ⟨37, [.slice A.ma 4 A.mc]⟩, ⟨62, [.int .i64 0, .bool true]⟩]⟩
theorem log_k (at_ : Nat) (r : List ByteArray) (j : Nat) (hj : j ≤ r.length) : ((QcF at_ r).getD j Qbk).k = if j = r.length then 6 else 5 := by
  by_cases h : j = r.length
  · subst h
    rw [if_pos rfl]
    unfold QcF
    simp [List.getD, List.getElem?_append_right, Qcy, synA]
  · rw [if_neg h]
    unfold QcF
    simp [List.getD, List.getElem?_append_left, Qcy, show j < r.length by omega, QdA, wAcc]
theorem q2_k (w0 : World) (A : Aq) (P : List (Int × Ws)) (r : List ByteArray) (hat : A.at_ = (Qav P).length) (h40 : A.at_ + r.length ≤ 40) (hsz : ∀ s ∈ r, s.size = 32) (hm : A.ma = some ⟨A.mb, A.mo, none⟩) (hi8 : A.i ≤ 8) (cb co : Nat) (cs : List Int) (g uc m : Nat) (lf dn en q j : Nat) (hj : j ≤ r.length) (x x' : Dk) (hx : dvQ P r (j + 1) x') (ih : ∀ (x : Dk) (hx : dvQ P r (j + 1) x) (bs : List Nat) (hbs : bs.length = 3) (aa : Act) (w : World) (S : Sy w0 [] bs (q2S A x lf (if j = r.length then A.i + 1 else dn) (if j = r.length then A.at_ + r.length else en) g (r.length + 1) uc (j + 1)) [QfJ g (QcF A.at_ r), Qax A.mb A.mo zs4, Qaz x.b x.o x.S, QaP x.c x.p x.W, QaL A.z.b A.z.o A.z.l, Qay A.z.l, Qax cb co cs] aa w), post Try.prog (.rnd (q) (Qa_ (Qec m)) :: (Qec m).k.tail) (bodyPost Try.prog Try.f4 (apP w0)) .normal aa w) (bs : List Nat) (hbs : bs.length = 6) (aa : Act) (w : World) (S : Sy w0 [] bs (q3S A x x' lf dn en g (r.length + 1) uc j) [QfJ g (QcF A.at_ r), Qax A.mb A.mo zs4, Qaz x'.b x'.o x'.S, QaP x'.c x'.p x'.W, QaL A.z.b A.z.o A.z.l, Qay A.z.l, Qax cb co cs] aa w) : post Try.prog (sq3K m q) (bodyPost Try.prog Try.f4 (apP w0)) .normal aa w := by
  obtain ⟨b0, b1, b2, b3, b4, b5, rfl⟩ : ∃ b0 b1 b2 b3 b4 b5, bs = [b0, b1, b2, b3, b4, b5] := by
    match bs, hbs with
    | [b0, b1, b2, b3, b4, b5], _ => exact ⟨b0, b1, b2, b3, b4, b5, rfl⟩
  have hk := log_k A.at_ r j hj
  have hLl := Qd1 A.at_ r
  refine Qap (c := ⟨sq3K m q, q3S A x x' lf dn en g (r.length + 1) uc j⟩) 25 60 2 S fun bs aa w S => ?_
  refine QbI (b := g) (off := 0) (len := (r.length + 1)) (n := j) (size := 5) (i := (j : Int)) S (by kernel_rfl) rfl (by omega) fun aa S => ?_
  refine Qad 1 S fun bs aa w S => ?_
  refine Qbf S (Qa6 (ty := 3) (b := g) (off := 0 + j * 5 + 0) (by kernel_rfl) ((show AcAt w g (QcF A.at_ r) from S.fact (f := QfJ g (QcF A.at_ r)) (by simp)) j (by omega) 0 _ rfl)) (by kernel_rfl) fun aa S => ?_
  refine Qad 1 S fun bs aa w S => ?_
  by_cases hjr : j = r.length
  · rw [if_pos hjr] at hk
    refine Qab 110 S (decide_eq_true hk : decide (((QcF A.at_ r).getD j Qbk).k = 6) = true) fun S => ?_
    refine Qap 26 60 2 S fun bs aa w S => ?_
    refine QaB 112 S (by rw [IntKind.wrap_i64]; omega : IntKind.i64.wrap ((A.i : Int) + 1) = ((A.i + 1 : Nat) : Int)) fun S => ?_
    refine Qap 27 60 4 S fun bs aa w S => ?_
    refine QaB 116 S (by rw [IntKind.wrap_i64]; omega : IntKind.i64.wrap ((A.at_ : Int) + ((r.length + 1 : Nat) : Int)) = ((A.at_ + r.length + 1 : Nat) : Int)) fun S => ?_
    refine Qad 1 S fun bs aa w S => ?_
    refine QaB 117 S (by rw [IntKind.wrap_i64]; omega : IntKind.i64.wrap (((A.at_ + r.length + 1 : Nat) : Int) - 1) = ((A.at_ + r.length : Nat) : Int)) fun S => ?_
    refine Qap 18 60 2 S fun bs aa w S => ?_
    refine QaB 81 S (by rw [IntKind.wrap_i64]; omega : IntKind.i64.wrap ((j : Int) + 1) = ((j + 1 : Nat) : Int)) fun S => ?_
    refine Qaj ⟨0, [999]⟩ 50 S fun bs aa w S => ?_
    have S := S.sub (F' := [QfJ g (QcF A.at_ r), Qax A.mb A.mo zs4, Qaz x'.b x'.o x'.S, QaP x'.c x'.p x'.W, QaL A.z.b A.z.o A.z.l, Qay A.z.l, Qax cb co cs]) (by intro f hf; simp only [List.mem_cons, List.not_mem_nil, or_false] at hf; rcases hf with rfl | rfl | rfl | rfl | rfl | rfl | rfl <;> simp)
    have S2 := S.to [0, 1, 2] (q2S A x' lf (A.i + 1) (A.at_ + r.length) g (r.length + 1) uc (j + 1)) (by kernel_rfl) (by kernel_rfl) (by kernel_rfl) (by kernel_rfl) (by kernel_rfl)
    refine Qag (k' := (.rnd (q) (Qa_ (Qec m)) :: (Qec m).k.tail)) (by kernel_rfl) ?_
    exact ih x' hx _ rfl aa w (by rw [if_pos hjr, if_pos hjr]; exact S2)
  · rw [if_neg hjr] at hk
    refine Qab 110 S (decide_eq_false (by rw [hk]; decide) : decide (((QcF A.at_ r).getD j Qbk).k = 6) = false) fun S => ?_
    refine Qap 18 60 2 S fun bs aa w S => ?_
    refine QaB 81 S (by rw [IntKind.wrap_i64]; omega : IntKind.i64.wrap ((j : Int) + 1) = ((j + 1 : Nat) : Int)) fun S => ?_
    refine Qaj ⟨0, [999]⟩ 50 S fun bs aa w S => ?_
    have S := S.sub (F' := [QfJ g (QcF A.at_ r), Qax A.mb A.mo zs4, Qaz x'.b x'.o x'.S, QaP x'.c x'.p x'.W, QaL A.z.b A.z.o A.z.l, Qay A.z.l, Qax cb co cs]) (by intro f hf; simp only [List.mem_cons, List.not_mem_nil, or_false] at hf; rcases hf with rfl | rfl | rfl | rfl | rfl | rfl | rfl <;> simp)
    have S2 := S.to [0, 1, 2] (q2S A x' lf dn en g (r.length + 1) uc (j + 1)) (by kernel_rfl) (by kernel_rfl) (by kernel_rfl) (by kernel_rfl) (by kernel_rfl)
    refine Qag (k' := (.rnd (q) (Qa_ (Qec m)) :: (Qec m).k.tail)) (by kernel_rfl) ?_
    exact ih x' hx _ rfl aa w (by rw [if_neg hjr, if_neg hjr]; exact S2)
theorem Qdy (w : World) (A : Aq) (P : List (Int × Ws)) (r : List ByteArray) (hat : A.at_ = (Qav P).length) (h40 : A.at_ + r.length ≤ 40) (hsz : ∀ s ∈ r, s.size = 32) (hm : A.ma = some ⟨A.mb, A.mo, none⟩) (j : Nat) (hj : j ≤ r.length) (x : Dk) (hx : dvQ P r j x) {w0 : World} {q bs : List Nat} {s : SS} {F : List RF} {a : Act} (S : Sy w0 q bs s F a w) (h1 : Qaz x.b x.o x.S ∈ F) (h2 : QaP x.c x.p x.W ∈ F) (h3 : Qax A.mb A.mo zs4 ∈ F) : Calls Try.prog 21 #[.agg #[.slice A.ma 4 A.mc], x.v, accV ((QcF A.at_ r).getD j Qbk)] w fun e w' => ∃ y : Dk, e = .returned (doQ A.ma 4 A.mc y) ∧ Dvq P r (j + 1) w.heap.size x y w' ∧ Below w.heap.size w w' :=
  (do_q w P r A.at_ hat h40 hsz j hj x hx (S.fact h1) (S.fact h2) zs4 A.ma A.mc A.mb A.mo (by decide) (Or.inr hm) (S.fact h3)).mono fun e w' ⟨y, q1, q2, q3⟩ => ⟨y, q1, q2.1, q3⟩
section
variable {P : List (Int × Ws)} {r : List ByteArray} {j h0 : Nat} {x y : Dk} {w : World} (h : Dvq P r j h0 x y w) {bs : List Nat} (ht : ∀ i, i < bs.length → bs.getD i 0 < h0)
include P r j h0 x y w h bs ht
theorem Dvq.aS (h1 : ∀ i, i < bs.length → ¬(Qaz x.b x.o x.S).bl (bs.getD i 0)) : ∀ i, i < bs.length → ¬(Qaz y.b y.o y.S).bl (bs.getD i 0) := fun i hi hb => by
  rcases h.b0 with q | q | ⟨q, q2⟩
  · exact hb.2 q
  · have h3 := ht i hi; have h4 := hb.1; omega
  · exact h1 i hi ⟨hb.1.trans q, q2⟩
theorem Dvq.aW (h1 : ∀ i, i < bs.length → ¬(QaP x.c x.p x.W).bl (bs.getD i 0)) : ∀ i, i < bs.length → ¬(QaP y.c y.p y.W).bl (bs.getD i 0) := fun i hi hb => by
  rcases h.c0 with q | q | ⟨q, q2⟩
  · exact hb.2 q
  · have h3 := ht i hi; have h4 := hb.1; omega
  · exact h1 i hi ⟨hb.1.trans q, q2⟩
end
section
variable (w0 : World) (A : Aq) (P : List (Int × Ws)) (r : List ByteArray) (hat : A.at_ = (Qav P).length) (h40 : A.at_ + r.length ≤ 40) (hsz : ∀ s ∈ r, s.size = 32) (hm : A.ma = some ⟨A.mb, A.mo, none⟩) (hi8 : A.i ≤ 8) (cb co : Nat) (cs : List Int) (g uc m : Nat) (lf dn en q j : Nat)
include w0 A P r hat h40 hsz hm hi8 cb co cs g uc m lf dn en q j
theorem QeK (hj : j ≤ r.length) (x x' : Dk) (hx : dvQ P r (j + 1) x') (ih : ∀ (x : Dk) (hx : dvQ P r (j + 1) x) (bs : List Nat) (hbs : bs.length = 3) (aa : Act) (w : World) (S : Sy w0 [] bs (q2S A x lf (if j = r.length then A.i + 1 else dn) (if j = r.length then A.at_ + r.length else en) g (r.length + 1) uc (j + 1)) [QfJ g (QcF A.at_ r), Qax A.mb A.mo zs4, Qaz x.b x.o x.S, QaP x.c x.p x.W, QaL A.z.b A.z.o A.z.l, Qay A.z.l, Qax cb co cs] aa w), post Try.prog (.rnd (q) (Qa_ (Qec m)) :: (Qec m).k.tail) (bodyPost Try.prog Try.f4 (apP w0)) .normal aa w) {k22 k21 k23 : Nat} {c0 : Cfg} {bs : List Nat} {aa : Act} {w : World} (S : Sy w0 [] bs c0.s (QaP x'.c x'.p x'.W :: Qaz x'.b x'.o x'.S :: [QfJ g (QcF A.at_ r), Qax A.mb A.mo zs4, Qaz x.b x.o x.S, QaP x.c x.p x.W, QaL A.z.b A.z.o A.z.l, Qay A.z.l, Qax cb co cs]) aa w) (hk : (QfA Try.prog ⟨0, [21]⟩ 60 c0).k = sq3K m q) (hp : okSel [0, 1, 2, k22, k21, k23] (QfA Try.prog ⟨0, [21]⟩ 60 c0).s.K.length = true) (hn : (q3S A x x' lf dn en g (r.length + 1) uc j).n = (QfA Try.prog ⟨0, [21]⟩ 60 c0).s.n) (hK : (q3S A x x' lf dn en g (r.length + 1) uc j).K.map some = [0, 1, 2, k22, k21, k23].map fun i => (QfA Try.prog ⟨0, [21]⟩ 60 c0).s.K[i]?) (hI : ((q3S A x x' lf dn en g (r.length + 1) uc j).T.all fun q => match (QfA Try.prog ⟨0, [21]⟩ 60 c0).s.get q.1 with
      | some x => x.inL [0, 1, 2, k22, k21, k23]
      | none => false) = true) (hT : ((q3S A x x' lf dn en g (r.length + 1) uc j).T.map fun q => ((QfA Try.prog ⟨0, [21]⟩ 60 c0).s.get q.1).map (SV.ren fun i => [0, 1, 2, k22, k21, k23].idxOf i)) = (q3S A x x' lf dn en g (r.length + 1) uc j).T.map fun q => some q.2) : post Try.prog c0.k (bodyPost Try.prog Try.f4 (apP w0)) .normal aa w := by
  refine Qaj (c := c0) ⟨0, [21]⟩ 60 S fun bs aa w S => ?_
  have S := S.sub (F' := [QfJ g (QcF A.at_ r), Qax A.mb A.mo zs4, Qaz x'.b x'.o x'.S, QaP x'.c x'.p x'.W, QaL A.z.b A.z.o A.z.l, Qay A.z.l, Qax cb co cs]) (by intro f hf; simp only [List.mem_cons, List.not_mem_nil, or_false] at hf; rcases hf with rfl | rfl | rfl | rfl | rfl | rfl | rfl <;> simp)
  refine Qag (k' := sq3K m q) hk ?_
  exact q2_k w0 A P r hat h40 hsz hm hi8 cb co cs g uc m lf dn en q j hj x x' hx ih _ rfl _ _ (S.to [0, 1, 2, k22, k21, k23] (q3S A x x' lf dn en g (r.length + 1) uc j) hp hn hK hI hT)
theorem q2_s (hlf : lf ≤ 100) (hj : j ≤ r.length) (x : Dk) (hx : dvQ P r j x) (ih : ∀ (x : Dk) (hx : dvQ P r (j + 1) x) (bs : List Nat) (hbs : bs.length = 3) (aa : Act) (w : World) (S : Sy w0 [] bs (q2S A x lf (if j = r.length then A.i + 1 else dn) (if j = r.length then A.at_ + r.length else en) g (r.length + 1) uc (j + 1)) [QfJ g (QcF A.at_ r), Qax A.mb A.mo zs4, Qaz x.b x.o x.S, QaP x.c x.p x.W, QaL A.z.b A.z.o A.z.l, Qay A.z.l, Qax cb co cs] aa w), post Try.prog (.rnd (q) (Qa_ (Qec m)) :: (Qec m).k.tail) (bodyPost Try.prog Try.f4 (apP w0)) .normal aa w) (bs : List Nat) (hbs : bs.length = 3) (aa : Act) (w : World) (S : Sy w0 [] bs (q2S A x (lf + 1) dn en g (r.length + 1) uc (j)) [QfJ g (QcF A.at_ r), Qax A.mb A.mo zs4, Qaz x.b x.o x.S, QaP x.c x.p x.W, QaL A.z.b A.z.o A.z.l, Qay A.z.l, Qax cb co cs] aa w) : post Try.prog (.rnd (q + 1) (Qa_ (Qec m)) :: (Qec m).k.tail) (bodyPost Try.prog Try.f4 (apP w0)) .normal aa w := by
  obtain ⟨b0, b1, b2, rfl⟩ : ∃ b0 b1 b2, bs = [b0, b1, b2] := by
    match bs, hbs with
    | [b0, b1, b2], _ => exact ⟨b0, b1, b2, rfl⟩
  have hLl := Qd1 A.at_ r
  refine Qap (c := ⟨(.rnd (q + 1) (Qa_ (Qec m)) :: (Qec m).k.tail), q2S A x (lf + 1) dn en g (r.length + 1) uc j⟩) 17 50 4 S fun bs aa w S => ?_
  refine Qab 75 S (decide_eq_true (by omega) : decide ((j : Int) < (((r.length + 1) : Nat) : Int)) = true) fun S => ?_
  refine Qad 3 S fun bs aa w S => ?_
  refine Qab 78 S (decide_eq_true (by omega) : decide (((lf + 1 : Nat) : Int) > 0) = true) fun S => ?_
  refine Qap 19 60 2 S fun bs aa w S => ?_
  refine QaB 83 S (by rw [IntKind.wrap_i64]; omega : IntKind.i64.wrap (((lf + 1 : Nat) : Int) - 1) = (lf : Int)) fun S => ?_
  refine Qah S fun bs aa w S => ?_
  letI : HF := ⟨[QfJ g (QcF A.at_ r)]⟩
  refine QaF [1, 2] (by kernel_rfl) (by kernel_rfl) S (by kernel_rfl) (fun aa w D => ?_) (fun f hf => by have e1 : f = QfJ g (QcF A.at_ r) := List.mem_singleton.1 hf; subst e1; simp)
  refine QaZ 4 D (by kernel_rfl) (by kernel_rfl) (by kernel_rfl) (b := g) (off := 0) (len := (r.length + 1)) (n := j) (size := 5) (ix := (j : Int)) (by kernel_rfl) rfl (by omega) fun aa D => ?_
  refine Qbl 5 D (by kernel_rfl) (by kernel_rfl) (by kernel_rfl) (ty := 66) (ad := ⟨g, 0 + j * 5, none⟩) (v := accV ((QcF A.at_ r).getD j Qbk)) (fun W hW => ld_ac (show AcAt W g (QcF A.at_ r) from hW (QfJ g (QcF A.at_ r)) (by show _ ∈ [QfJ g (QcF A.at_ r)]; simp)) (by rw [hLl]; omega)) (by kernel_rfl) fun aa D => ?_
  refine Qac [6, 12, 13, 14] (by kernel_rfl) (by kernel_rfl) rfl (na4 ?_ ?_ ?_ ?_)
  · have ht := fun i hi => D.S.lt (i := i) hi
    have h1 := (D.S.fs (Qaz x.b x.o x.S) (by simp)).2
    have h2 := (D.S.fs (QaP x.c x.p x.W) (by simp)).2
    refine QaD 6 D (by kernel_rfl) (Qdy w A P r hat h40 hsz hm j hj x hx D.S (by simp) (by simp) (by simp)) (by kernel_rfl) fun x' aa w hC hb D => ?_
    have D := (D.addF (Qaz x'.b x'.o x'.S) hC.sA (hC.aS ht h1)).addF (QaP x'.c x'.p x'.W) hC.wA (hC.aW ht h2)
    refine Qac [12, 13, 14] (by kernel_rfl) (by kernel_rfl) rfl (na3 ?_ ?_ ?_)
    · refine Qao 12 [13, 14] D fun bs aa w D hl => na2 ?_ ?_
      · refine Qao 13 [14] D fun bs aa w D hl => na1 ?_
        · refine Qao 14 [15] D fun bs aa w D hl => na1 ?_
          · refine Qao 15 [16] D fun bs aa w D hl => na1 ?_
            · refine Qao 16 [17] D fun bs aa w D hl => na1 ?_
              · exact QbX 17 D fun bs aa w S => QeK w0 A P r hat h40 hsz hm hi8 cb co cs g uc m lf dn en q j hj x x' hC.j ih (k22 := 4) (k21 := 3) (k23 := 5) S (by kernel_rfl) (by kernel_rfl) (by kernel_rfl) (by kernel_rfl) (by kernel_rfl) (by kernel_rfl)
      · refine Qao 14 [13] D fun bs aa w D hl => na1 ?_
        · refine Qao 13 [15] D fun bs aa w D hl => na1 ?_
          · refine Qao 15 [16] D fun bs aa w D hl => na1 ?_
            · refine Qao 16 [17] D fun bs aa w D hl => na1 ?_
              · exact QbX 17 D fun bs aa w S => QeK w0 A P r hat h40 hsz hm hi8 cb co cs g uc m lf dn en q j hj x x' hC.j ih (k22 := 5) (k21 := 3) (k23 := 4) S (by kernel_rfl) (by kernel_rfl) (by kernel_rfl) (by kernel_rfl) (by kernel_rfl) (by kernel_rfl)
    · refine Qao 13 [12, 14] D fun bs aa w D hl => na2 ?_ ?_
      · refine Qao 12 [14] D fun bs aa w D hl => na1 ?_
        · refine Qao 14 [15] D fun bs aa w D hl => na1 ?_
          · refine Qao 15 [16] D fun bs aa w D hl => na1 ?_
            · refine Qao 16 [17] D fun bs aa w D hl => na1 ?_
              · exact QbX 17 D fun bs aa w S => QeK w0 A P r hat h40 hsz hm hi8 cb co cs g uc m lf dn en q j hj x x' hC.j ih (k22 := 3) (k21 := 4) (k23 := 5) S (by kernel_rfl) (by kernel_rfl) (by kernel_rfl) (by kernel_rfl) (by kernel_rfl) (by kernel_rfl)
      · refine Qao 14 [12] D fun bs aa w D hl => na1 ?_
        · refine Qao 12 [15] D fun bs aa w D hl => na1 ?_
          · refine Qao 15 [16] D fun bs aa w D hl => na1 ?_
            · refine Qao 16 [17] D fun bs aa w D hl => na1 ?_
              · exact QbX 17 D fun bs aa w S => QeK w0 A P r hat h40 hsz hm hi8 cb co cs g uc m lf dn en q j hj x x' hC.j ih (k22 := 3) (k21 := 5) (k23 := 4) S (by kernel_rfl) (by kernel_rfl) (by kernel_rfl) (by kernel_rfl) (by kernel_rfl) (by kernel_rfl)
    · refine Qao 14 [12, 13] D fun bs aa w D hl => na2 ?_ ?_
      · refine Qao 12 [13] D fun bs aa w D hl => na1 ?_
        · refine Qao 13 [15] D fun bs aa w D hl => na1 ?_
          · refine Qao 15 [16] D fun bs aa w D hl => na1 ?_
            · refine Qao 16 [17] D fun bs aa w D hl => na1 ?_
              · exact QbX 17 D fun bs aa w S => QeK w0 A P r hat h40 hsz hm hi8 cb co cs g uc m lf dn en q j hj x x' hC.j ih (k22 := 5) (k21 := 4) (k23 := 3) S (by kernel_rfl) (by kernel_rfl) (by kernel_rfl) (by kernel_rfl) (by kernel_rfl) (by kernel_rfl)
      · refine Qao 13 [12] D fun bs aa w D hl => na1 ?_
        · refine Qao 12 [15] D fun bs aa w D hl => na1 ?_
          · refine Qao 15 [16] D fun bs aa w D hl => na1 ?_
            · refine Qao 16 [17] D fun bs aa w D hl => na1 ?_
              · exact QbX 17 D fun bs aa w S => QeK w0 A P r hat h40 hsz hm hi8 cb co cs g uc m lf dn en q j hj x x' hC.j ih (k22 := 4) (k21 := 5) (k23 := 3) S (by kernel_rfl) (by kernel_rfl) (by kernel_rfl) (by kernel_rfl) (by kernel_rfl) (by kernel_rfl)
  · refine Qao 12 [6, 13, 14] D fun bs aa w D hl => na3 ?_ ?_ ?_
    · have ht := fun i hi => D.S.lt (i := i) hi
      have h1 := (D.S.fs (Qaz x.b x.o x.S) (by simp)).2
      have h2 := (D.S.fs (QaP x.c x.p x.W) (by simp)).2
      refine QaD 6 D (by kernel_rfl) (Qdy w A P r hat h40 hsz hm j hj x hx D.S (by simp) (by simp) (by simp)) (by kernel_rfl) fun x' aa w hC hb D => ?_
      have D := (D.addF (Qaz x'.b x'.o x'.S) hC.sA (hC.aS ht h1)).addF (QaP x'.c x'.p x'.W) hC.wA (hC.aW ht h2)
      refine Qac [13, 14] (by kernel_rfl) (by kernel_rfl) rfl (na2 ?_ ?_)
      · refine Qao 13 [14] D fun bs aa w D hl => na1 ?_
        · refine Qao 14 [15] D fun bs aa w D hl => na1 ?_
          · refine Qao 15 [16] D fun bs aa w D hl => na1 ?_
            · refine Qao 16 [17] D fun bs aa w D hl => na1 ?_
              · exact QbX 17 D fun bs aa w S => QeK w0 A P r hat h40 hsz hm hi8 cb co cs g uc m lf dn en q j hj x x' hC.j ih (k22 := 4) (k21 := 3) (k23 := 5) S (by kernel_rfl) (by kernel_rfl) (by kernel_rfl) (by kernel_rfl) (by kernel_rfl) (by kernel_rfl)
      · refine Qao 14 [13] D fun bs aa w D hl => na1 ?_
        · refine Qao 13 [15] D fun bs aa w D hl => na1 ?_
          · refine Qao 15 [16] D fun bs aa w D hl => na1 ?_
            · refine Qao 16 [17] D fun bs aa w D hl => na1 ?_
              · exact QbX 17 D fun bs aa w S => QeK w0 A P r hat h40 hsz hm hi8 cb co cs g uc m lf dn en q j hj x x' hC.j ih (k22 := 5) (k21 := 3) (k23 := 4) S (by kernel_rfl) (by kernel_rfl) (by kernel_rfl) (by kernel_rfl) (by kernel_rfl) (by kernel_rfl)
    · refine Qao 13 [6, 14] D fun bs aa w D hl => na2 ?_ ?_
      · have ht := fun i hi => D.S.lt (i := i) hi
        have h1 := (D.S.fs (Qaz x.b x.o x.S) (by simp)).2
        have h2 := (D.S.fs (QaP x.c x.p x.W) (by simp)).2
        refine QaD 6 D (by kernel_rfl) (Qdy w A P r hat h40 hsz hm j hj x hx D.S (by simp) (by simp) (by simp)) (by kernel_rfl) fun x' aa w hC hb D => ?_
        have D := (D.addF (Qaz x'.b x'.o x'.S) hC.sA (hC.aS ht h1)).addF (QaP x'.c x'.p x'.W) hC.wA (hC.aW ht h2)
        refine Qac [14] (by kernel_rfl) (by kernel_rfl) rfl (na1 ?_)
        · refine Qao 14 [15] D fun bs aa w D hl => na1 ?_
          · refine Qao 15 [16] D fun bs aa w D hl => na1 ?_
            · refine Qao 16 [17] D fun bs aa w D hl => na1 ?_
              · exact QbX 17 D fun bs aa w S => QeK w0 A P r hat h40 hsz hm hi8 cb co cs g uc m lf dn en q j hj x x' hC.j ih (k22 := 4) (k21 := 3) (k23 := 5) S (by kernel_rfl) (by kernel_rfl) (by kernel_rfl) (by kernel_rfl) (by kernel_rfl) (by kernel_rfl)
      · refine Qao 14 [6] D fun bs aa w D hl => na1 ?_
        · have ht := fun i hi => D.S.lt (i := i) hi
          have h1 := (D.S.fs (Qaz x.b x.o x.S) (by simp)).2
          have h2 := (D.S.fs (QaP x.c x.p x.W) (by simp)).2
          refine QaD 6 D (by kernel_rfl) (Qdy w A P r hat h40 hsz hm j hj x hx D.S (by simp) (by simp) (by simp)) (by kernel_rfl) fun x' aa w hC hb D => ?_
          have D := (D.addF (Qaz x'.b x'.o x'.S) hC.sA (hC.aS ht h1)).addF (QaP x'.c x'.p x'.W) hC.wA (hC.aW ht h2)
          refine Qac [15] (by kernel_rfl) (by kernel_rfl) rfl (na1 ?_)
          · refine Qao 15 [16] D fun bs aa w D hl => na1 ?_
            · refine Qao 16 [17] D fun bs aa w D hl => na1 ?_
              · exact QbX 17 D fun bs aa w S => QeK w0 A P r hat h40 hsz hm hi8 cb co cs g uc m lf dn en q j hj x x' hC.j ih (k22 := 4) (k21 := 3) (k23 := 5) S (by kernel_rfl) (by kernel_rfl) (by kernel_rfl) (by kernel_rfl) (by kernel_rfl) (by kernel_rfl)
    · refine Qao 14 [6, 13] D fun bs aa w D hl => na2 ?_ ?_
      · have ht := fun i hi => D.S.lt (i := i) hi
        have h1 := (D.S.fs (Qaz x.b x.o x.S) (by simp)).2
        have h2 := (D.S.fs (QaP x.c x.p x.W) (by simp)).2
        refine QaD 6 D (by kernel_rfl) (Qdy w A P r hat h40 hsz hm j hj x hx D.S (by simp) (by simp) (by simp)) (by kernel_rfl) fun x' aa w hC hb D => ?_
        have D := (D.addF (Qaz x'.b x'.o x'.S) hC.sA (hC.aS ht h1)).addF (QaP x'.c x'.p x'.W) hC.wA (hC.aW ht h2)
        refine Qac [13] (by kernel_rfl) (by kernel_rfl) rfl (na1 ?_)
        · refine Qao 13 [15] D fun bs aa w D hl => na1 ?_
          · refine Qao 15 [16] D fun bs aa w D hl => na1 ?_
            · refine Qao 16 [17] D fun bs aa w D hl => na1 ?_
              · exact QbX 17 D fun bs aa w S => QeK w0 A P r hat h40 hsz hm hi8 cb co cs g uc m lf dn en q j hj x x' hC.j ih (k22 := 5) (k21 := 3) (k23 := 4) S (by kernel_rfl) (by kernel_rfl) (by kernel_rfl) (by kernel_rfl) (by kernel_rfl) (by kernel_rfl)
      · refine Qao 13 [6] D fun bs aa w D hl => na1 ?_
        · have ht := fun i hi => D.S.lt (i := i) hi
          have h1 := (D.S.fs (Qaz x.b x.o x.S) (by simp)).2
          have h2 := (D.S.fs (QaP x.c x.p x.W) (by simp)).2
          refine QaD 6 D (by kernel_rfl) (Qdy w A P r hat h40 hsz hm j hj x hx D.S (by simp) (by simp) (by simp)) (by kernel_rfl) fun x' aa w hC hb D => ?_
          have D := (D.addF (Qaz x'.b x'.o x'.S) hC.sA (hC.aS ht h1)).addF (QaP x'.c x'.p x'.W) hC.wA (hC.aW ht h2)
          refine Qac [15] (by kernel_rfl) (by kernel_rfl) rfl (na1 ?_)
          · refine Qao 15 [16] D fun bs aa w D hl => na1 ?_
            · refine Qao 16 [17] D fun bs aa w D hl => na1 ?_
              · exact QbX 17 D fun bs aa w S => QeK w0 A P r hat h40 hsz hm hi8 cb co cs g uc m lf dn en q j hj x x' hC.j ih (k22 := 5) (k21 := 3) (k23 := 4) S (by kernel_rfl) (by kernel_rfl) (by kernel_rfl) (by kernel_rfl) (by kernel_rfl) (by kernel_rfl)
  · refine Qao 13 [6, 12, 14] D fun bs aa w D hl => na3 ?_ ?_ ?_
    · have ht := fun i hi => D.S.lt (i := i) hi
      have h1 := (D.S.fs (Qaz x.b x.o x.S) (by simp)).2
      have h2 := (D.S.fs (QaP x.c x.p x.W) (by simp)).2
      refine QaD 6 D (by kernel_rfl) (Qdy w A P r hat h40 hsz hm j hj x hx D.S (by simp) (by simp) (by simp)) (by kernel_rfl) fun x' aa w hC hb D => ?_
      have D := (D.addF (Qaz x'.b x'.o x'.S) hC.sA (hC.aS ht h1)).addF (QaP x'.c x'.p x'.W) hC.wA (hC.aW ht h2)
      refine Qac [12, 14] (by kernel_rfl) (by kernel_rfl) rfl (na2 ?_ ?_)
      · refine Qao 12 [14] D fun bs aa w D hl => na1 ?_
        · refine Qao 14 [15] D fun bs aa w D hl => na1 ?_
          · refine Qao 15 [16] D fun bs aa w D hl => na1 ?_
            · refine Qao 16 [17] D fun bs aa w D hl => na1 ?_
              · exact QbX 17 D fun bs aa w S => QeK w0 A P r hat h40 hsz hm hi8 cb co cs g uc m lf dn en q j hj x x' hC.j ih (k22 := 3) (k21 := 4) (k23 := 5) S (by kernel_rfl) (by kernel_rfl) (by kernel_rfl) (by kernel_rfl) (by kernel_rfl) (by kernel_rfl)
      · refine Qao 14 [12] D fun bs aa w D hl => na1 ?_
        · refine Qao 12 [15] D fun bs aa w D hl => na1 ?_
          · refine Qao 15 [16] D fun bs aa w D hl => na1 ?_
            · refine Qao 16 [17] D fun bs aa w D hl => na1 ?_
              · exact QbX 17 D fun bs aa w S => QeK w0 A P r hat h40 hsz hm hi8 cb co cs g uc m lf dn en q j hj x x' hC.j ih (k22 := 3) (k21 := 5) (k23 := 4) S (by kernel_rfl) (by kernel_rfl) (by kernel_rfl) (by kernel_rfl) (by kernel_rfl) (by kernel_rfl)
    · refine Qao 12 [6, 14] D fun bs aa w D hl => na2 ?_ ?_
      · have ht := fun i hi => D.S.lt (i := i) hi
        have h1 := (D.S.fs (Qaz x.b x.o x.S) (by simp)).2
        have h2 := (D.S.fs (QaP x.c x.p x.W) (by simp)).2
        refine QaD 6 D (by kernel_rfl) (Qdy w A P r hat h40 hsz hm j hj x hx D.S (by simp) (by simp) (by simp)) (by kernel_rfl) fun x' aa w hC hb D => ?_
        have D := (D.addF (Qaz x'.b x'.o x'.S) hC.sA (hC.aS ht h1)).addF (QaP x'.c x'.p x'.W) hC.wA (hC.aW ht h2)
        refine Qac [14] (by kernel_rfl) (by kernel_rfl) rfl (na1 ?_)
        · refine Qao 14 [15] D fun bs aa w D hl => na1 ?_
          · refine Qao 15 [16] D fun bs aa w D hl => na1 ?_
            · refine Qao 16 [17] D fun bs aa w D hl => na1 ?_
              · exact QbX 17 D fun bs aa w S => QeK w0 A P r hat h40 hsz hm hi8 cb co cs g uc m lf dn en q j hj x x' hC.j ih (k22 := 3) (k21 := 4) (k23 := 5) S (by kernel_rfl) (by kernel_rfl) (by kernel_rfl) (by kernel_rfl) (by kernel_rfl) (by kernel_rfl)
      · refine Qao 14 [6] D fun bs aa w D hl => na1 ?_
        · have ht := fun i hi => D.S.lt (i := i) hi
          have h1 := (D.S.fs (Qaz x.b x.o x.S) (by simp)).2
          have h2 := (D.S.fs (QaP x.c x.p x.W) (by simp)).2
          refine QaD 6 D (by kernel_rfl) (Qdy w A P r hat h40 hsz hm j hj x hx D.S (by simp) (by simp) (by simp)) (by kernel_rfl) fun x' aa w hC hb D => ?_
          have D := (D.addF (Qaz x'.b x'.o x'.S) hC.sA (hC.aS ht h1)).addF (QaP x'.c x'.p x'.W) hC.wA (hC.aW ht h2)
          refine Qac [15] (by kernel_rfl) (by kernel_rfl) rfl (na1 ?_)
          · refine Qao 15 [16] D fun bs aa w D hl => na1 ?_
            · refine Qao 16 [17] D fun bs aa w D hl => na1 ?_
              · exact QbX 17 D fun bs aa w S => QeK w0 A P r hat h40 hsz hm hi8 cb co cs g uc m lf dn en q j hj x x' hC.j ih (k22 := 3) (k21 := 4) (k23 := 5) S (by kernel_rfl) (by kernel_rfl) (by kernel_rfl) (by kernel_rfl) (by kernel_rfl) (by kernel_rfl)
    · refine Qao 14 [6, 12] D fun bs aa w D hl => na2 ?_ ?_
      · have ht := fun i hi => D.S.lt (i := i) hi
        have h1 := (D.S.fs (Qaz x.b x.o x.S) (by simp)).2
        have h2 := (D.S.fs (QaP x.c x.p x.W) (by simp)).2
        refine QaD 6 D (by kernel_rfl) (Qdy w A P r hat h40 hsz hm j hj x hx D.S (by simp) (by simp) (by simp)) (by kernel_rfl) fun x' aa w hC hb D => ?_
        have D := (D.addF (Qaz x'.b x'.o x'.S) hC.sA (hC.aS ht h1)).addF (QaP x'.c x'.p x'.W) hC.wA (hC.aW ht h2)
        refine Qac [12] (by kernel_rfl) (by kernel_rfl) rfl (na1 ?_)
        · refine Qao 12 [15] D fun bs aa w D hl => na1 ?_
          · refine Qao 15 [16] D fun bs aa w D hl => na1 ?_
            · refine Qao 16 [17] D fun bs aa w D hl => na1 ?_
              · exact QbX 17 D fun bs aa w S => QeK w0 A P r hat h40 hsz hm hi8 cb co cs g uc m lf dn en q j hj x x' hC.j ih (k22 := 3) (k21 := 5) (k23 := 4) S (by kernel_rfl) (by kernel_rfl) (by kernel_rfl) (by kernel_rfl) (by kernel_rfl) (by kernel_rfl)
      · refine Qao 12 [6] D fun bs aa w D hl => na1 ?_
        · have ht := fun i hi => D.S.lt (i := i) hi
          have h1 := (D.S.fs (Qaz x.b x.o x.S) (by simp)).2
          have h2 := (D.S.fs (QaP x.c x.p x.W) (by simp)).2
          refine QaD 6 D (by kernel_rfl) (Qdy w A P r hat h40 hsz hm j hj x hx D.S (by simp) (by simp) (by simp)) (by kernel_rfl) fun x' aa w hC hb D => ?_
          have D := (D.addF (Qaz x'.b x'.o x'.S) hC.sA (hC.aS ht h1)).addF (QaP x'.c x'.p x'.W) hC.wA (hC.aW ht h2)
          refine Qac [15] (by kernel_rfl) (by kernel_rfl) rfl (na1 ?_)
          · refine Qao 15 [16] D fun bs aa w D hl => na1 ?_
            · refine Qao 16 [17] D fun bs aa w D hl => na1 ?_
              · exact QbX 17 D fun bs aa w S => QeK w0 A P r hat h40 hsz hm hi8 cb co cs g uc m lf dn en q j hj x x' hC.j ih (k22 := 3) (k21 := 5) (k23 := 4) S (by kernel_rfl) (by kernel_rfl) (by kernel_rfl) (by kernel_rfl) (by kernel_rfl) (by kernel_rfl)
  · refine Qao 14 [6, 12, 13] D fun bs aa w D hl => na3 ?_ ?_ ?_
    · have ht := fun i hi => D.S.lt (i := i) hi
      have h1 := (D.S.fs (Qaz x.b x.o x.S) (by simp)).2
      have h2 := (D.S.fs (QaP x.c x.p x.W) (by simp)).2
      refine QaD 6 D (by kernel_rfl) (Qdy w A P r hat h40 hsz hm j hj x hx D.S (by simp) (by simp) (by simp)) (by kernel_rfl) fun x' aa w hC hb D => ?_
      have D := (D.addF (Qaz x'.b x'.o x'.S) hC.sA (hC.aS ht h1)).addF (QaP x'.c x'.p x'.W) hC.wA (hC.aW ht h2)
      refine Qac [12, 13] (by kernel_rfl) (by kernel_rfl) rfl (na2 ?_ ?_)
      · refine Qao 12 [13] D fun bs aa w D hl => na1 ?_
        · refine Qao 13 [15] D fun bs aa w D hl => na1 ?_
          · refine Qao 15 [16] D fun bs aa w D hl => na1 ?_
            · refine Qao 16 [17] D fun bs aa w D hl => na1 ?_
              · exact QbX 17 D fun bs aa w S => QeK w0 A P r hat h40 hsz hm hi8 cb co cs g uc m lf dn en q j hj x x' hC.j ih (k22 := 5) (k21 := 4) (k23 := 3) S (by kernel_rfl) (by kernel_rfl) (by kernel_rfl) (by kernel_rfl) (by kernel_rfl) (by kernel_rfl)
      · refine Qao 13 [12] D fun bs aa w D hl => na1 ?_
        · refine Qao 12 [15] D fun bs aa w D hl => na1 ?_
          · refine Qao 15 [16] D fun bs aa w D hl => na1 ?_
            · refine Qao 16 [17] D fun bs aa w D hl => na1 ?_
              · exact QbX 17 D fun bs aa w S => QeK w0 A P r hat h40 hsz hm hi8 cb co cs g uc m lf dn en q j hj x x' hC.j ih (k22 := 4) (k21 := 5) (k23 := 3) S (by kernel_rfl) (by kernel_rfl) (by kernel_rfl) (by kernel_rfl) (by kernel_rfl) (by kernel_rfl)
    · refine Qao 12 [6, 13] D fun bs aa w D hl => na2 ?_ ?_
      · have ht := fun i hi => D.S.lt (i := i) hi
        have h1 := (D.S.fs (Qaz x.b x.o x.S) (by simp)).2
        have h2 := (D.S.fs (QaP x.c x.p x.W) (by simp)).2
        refine QaD 6 D (by kernel_rfl) (Qdy w A P r hat h40 hsz hm j hj x hx D.S (by simp) (by simp) (by simp)) (by kernel_rfl) fun x' aa w hC hb D => ?_
        have D := (D.addF (Qaz x'.b x'.o x'.S) hC.sA (hC.aS ht h1)).addF (QaP x'.c x'.p x'.W) hC.wA (hC.aW ht h2)
        refine Qac [13] (by kernel_rfl) (by kernel_rfl) rfl (na1 ?_)
        · refine Qao 13 [15] D fun bs aa w D hl => na1 ?_
          · refine Qao 15 [16] D fun bs aa w D hl => na1 ?_
            · refine Qao 16 [17] D fun bs aa w D hl => na1 ?_
              · exact QbX 17 D fun bs aa w S => QeK w0 A P r hat h40 hsz hm hi8 cb co cs g uc m lf dn en q j hj x x' hC.j ih (k22 := 5) (k21 := 4) (k23 := 3) S (by kernel_rfl) (by kernel_rfl) (by kernel_rfl) (by kernel_rfl) (by kernel_rfl) (by kernel_rfl)
      · refine Qao 13 [6] D fun bs aa w D hl => na1 ?_
        · have ht := fun i hi => D.S.lt (i := i) hi
          have h1 := (D.S.fs (Qaz x.b x.o x.S) (by simp)).2
          have h2 := (D.S.fs (QaP x.c x.p x.W) (by simp)).2
          refine QaD 6 D (by kernel_rfl) (Qdy w A P r hat h40 hsz hm j hj x hx D.S (by simp) (by simp) (by simp)) (by kernel_rfl) fun x' aa w hC hb D => ?_
          have D := (D.addF (Qaz x'.b x'.o x'.S) hC.sA (hC.aS ht h1)).addF (QaP x'.c x'.p x'.W) hC.wA (hC.aW ht h2)
          refine Qac [15] (by kernel_rfl) (by kernel_rfl) rfl (na1 ?_)
          · refine Qao 15 [16] D fun bs aa w D hl => na1 ?_
            · refine Qao 16 [17] D fun bs aa w D hl => na1 ?_
              · exact QbX 17 D fun bs aa w S => QeK w0 A P r hat h40 hsz hm hi8 cb co cs g uc m lf dn en q j hj x x' hC.j ih (k22 := 5) (k21 := 4) (k23 := 3) S (by kernel_rfl) (by kernel_rfl) (by kernel_rfl) (by kernel_rfl) (by kernel_rfl) (by kernel_rfl)
    · refine Qao 13 [6, 12] D fun bs aa w D hl => na2 ?_ ?_
      · have ht := fun i hi => D.S.lt (i := i) hi
        have h1 := (D.S.fs (Qaz x.b x.o x.S) (by simp)).2
        have h2 := (D.S.fs (QaP x.c x.p x.W) (by simp)).2
        refine QaD 6 D (by kernel_rfl) (Qdy w A P r hat h40 hsz hm j hj x hx D.S (by simp) (by simp) (by simp)) (by kernel_rfl) fun x' aa w hC hb D => ?_
        have D := (D.addF (Qaz x'.b x'.o x'.S) hC.sA (hC.aS ht h1)).addF (QaP x'.c x'.p x'.W) hC.wA (hC.aW ht h2)
        refine Qac [12] (by kernel_rfl) (by kernel_rfl) rfl (na1 ?_)
        · refine Qao 12 [15] D fun bs aa w D hl => na1 ?_
          · refine Qao 15 [16] D fun bs aa w D hl => na1 ?_
            · refine Qao 16 [17] D fun bs aa w D hl => na1 ?_
              · exact QbX 17 D fun bs aa w S => QeK w0 A P r hat h40 hsz hm hi8 cb co cs g uc m lf dn en q j hj x x' hC.j ih (k22 := 4) (k21 := 5) (k23 := 3) S (by kernel_rfl) (by kernel_rfl) (by kernel_rfl) (by kernel_rfl) (by kernel_rfl) (by kernel_rfl)
      · refine Qao 12 [6] D fun bs aa w D hl => na1 ?_
        · have ht := fun i hi => D.S.lt (i := i) hi
          have h1 := (D.S.fs (Qaz x.b x.o x.S) (by simp)).2
          have h2 := (D.S.fs (QaP x.c x.p x.W) (by simp)).2
          refine QaD 6 D (by kernel_rfl) (Qdy w A P r hat h40 hsz hm j hj x hx D.S (by simp) (by simp) (by simp)) (by kernel_rfl) fun x' aa w hC hb D => ?_
          have D := (D.addF (Qaz x'.b x'.o x'.S) hC.sA (hC.aS ht h1)).addF (QaP x'.c x'.p x'.W) hC.wA (hC.aW ht h2)
          refine Qac [15] (by kernel_rfl) (by kernel_rfl) rfl (na1 ?_)
          · refine Qao 15 [16] D fun bs aa w D hl => na1 ?_
            · refine Qao 16 [17] D fun bs aa w D hl => na1 ?_
              · exact QbX 17 D fun bs aa w S => QeK w0 A P r hat h40 hsz hm hi8 cb co cs g uc m lf dn en q j hj x x' hC.j ih (k22 := 4) (k21 := 5) (k23 := 3) S (by kernel_rfl) (by kernel_rfl) (by kernel_rfl) (by kernel_rfl) (by kernel_rfl) (by kernel_rfl)
end
def atI (l : List Nat) (i : Nat) : Nat := (Qav (Qa3 l i)).length
theorem ent_at {l : List Nat} {z : Er} (hz : z.l.map prE = Qa3 l l.length) {i : Nat} (hi : i < l.length) : prE (z.l.getD i e00) = QcP i (l.getD i 0) ∧ z.l.getD i e00 ∈ z.l := by
  have hn : z.l.length = l.length := by have := congrArg List.length hz; rwa [List.length_map, Qbp] at this
  have h1 : z.l.getD i e00 = z.l[i] := by simp [List.getD, List.getElem?_eq_getElem (show i < z.l.length by omega)]
  refine ⟨?_, by rw [h1]; exact List.getElem_mem _⟩
  have h2 := congrArg (fun q => q[i]?) hz
  simp only [List.getElem?_map, Qa3, List.getElem?_range hi, List.getElem?_eq_getElem (show i < z.l.length by omega), Option.map_some, Option.some.injEq] at h2
  rw [h1, h2]
def rcV (n : Nat) (q : Nat × Nat) : Value := .slice (some ⟨q.1, 0, none⟩) n q.2
theorem record_c (w : World) (e : Et) (hok : e.ok) (hfg : QcD e.ver e.ws) (hA : Qc8 w e.b e.o e.ws) (at_ : Nat) (hat : at_ ≤ 1000) : Calls Try.prog 20 #[e.v, .int .i64 (at_ : Int)] w fun y w' => ∃ q, y = .returned (rcV ((QaC e.ver e.ws).length + 1) q) ∧ (w.heap.size ≤ q.1 ∧ AcAt w' q.1 (QcF at_ (QaC e.ver e.ws))) ∧ Below w.heap.size w w' :=
  (record_t w e hok hfg hA at_ hat).mono fun y w' ⟨u, h1, h2, h3⟩ => by
    obtain ⟨g, c, rfl, h4, h5⟩ := ac_of h2 (by rw [Qd1]; omega)
    rw [Qd1] at h1
    exact ⟨(g, c), h1, ⟨h4, h5⟩, h3⟩
def Aq.up (A : Aq) (at_ i : Nat) : Aq := ⟨A.ca, A.cl, A.cc, A.z, A.ma, A.mc, A.mb, A.mo, at_, i⟩
noncomputable def q1S (A : Aq) (x : Dk) (lf dn en : Nat) : SS := ⟨267, [(2, .v (.slice A.ca A.cl A.cc)), (7, .v (.bool true)), (8, .p 0 0), (10, .v A.z.v), (11, .p 1 0), (13, .p 2 0), (14, .v (.int .i64 (A.at_ : Int))), (15, .v (.int .i64 (lf : Int))), (16, .v (.int .i64 (dn : Int))), (17, .v (.int .i64 (en : Int))), (18, .v (.int .i64 (A.i : Int)))], q2B A x⟩
def rI (l : List Nat) (s : Nat) : List ByteArray := if s < l.length then QaC (QcP s (l.getD s 0)).1 (QcP s (l.getD s 0)).2 else []
def dvG (l : List Nat) (s j : Nat) (x : Dk) : Prop := x.gen ∧ x.S = stJ (Qa3 l s) (rI l s) j ∧ x.W = QiC (atI l s) j ∧ x.sl ≤ x.sc ∧ j ≤ (rI l s).length ∧ s ≤ l.length
theorem q2_x (w0 : World) (A : Aq) (r : List ByteArray) (h40 : A.at_ + r.length ≤ 40) (hi8 : A.i ≤ 8) (cb co : Nat) (cs : List Int) (g uc m : Nat) (lf dn en q j : Nat) (x : Dk) (hx : j = r.length + 1 ∨ j ≤ r.length ∧ lf = 0) (ih : ∀ (bs : List Nat) (hbs : bs.length = 3) (aa : Act) (w : World) (S : Sy w0 [] bs (q1S (A.up (A.at_ + r.length) (A.i + 1)) x lf dn en) [Qax A.mb A.mo zs4, Qaz x.b x.o x.S, QaP x.c x.p x.W, QaL A.z.b A.z.o A.z.l, Qay A.z.l, Qax cb co cs] aa w), post Try.prog (.rnd (m) (Qa_ sq1C) :: sq1C.k.tail) (bodyPost Try.prog Try.f4 (apP w0)) .normal aa w) (bs : List Nat) (hbs : bs.length = 3) (aa : Act) (w : World) (S : Sy w0 [] bs (q2S A x lf dn en g (r.length + 1) uc (j)) [QfJ g (QcF A.at_ r), Qax A.mb A.mo zs4, Qaz x.b x.o x.S, QaP x.c x.p x.W, QaL A.z.b A.z.o A.z.l, Qay A.z.l, Qax cb co cs] aa w) : post Try.prog (.rnd (q + 1) (Qa_ (Qec m)) :: (Qec m).k.tail) (bodyPost Try.prog Try.f4 (apP w0)) .normal aa w := by
  obtain ⟨b0, b1, b2, rfl⟩ : ∃ b0 b1 b2, bs = [b0, b1, b2] := by
    match bs, hbs with
    | [b0, b1, b2], _ => exact ⟨b0, b1, b2, rfl⟩
  refine Qap (c := ⟨(.rnd (q + 1) (Qa_ (Qec m)) :: (Qec m).k.tail), q2S A x lf dn en g (r.length + 1) uc j⟩) 17 50 4 S fun bs aa w S => ?_
  by_cases hj : j = r.length + 1
  · refine Qab 75 S (decide_eq_false (by omega) : decide ((j : Int) < (((r.length + 1) : Nat) : Int)) = false) fun S => ?_
    refine Qap 28 60 4 S fun bs aa w S => ?_
    refine QaB 121 S (by rw [IntKind.wrap_i64]; omega : IntKind.i64.wrap ((A.at_ : Int) + ((r.length + 1 : Nat) : Int)) = ((A.at_ + r.length + 1 : Nat) : Int)) fun S => ?_
    refine Qad 1 S fun bs aa w S => ?_
    refine QaB 122 S (by rw [IntKind.wrap_i64]; omega : IntKind.i64.wrap (((A.at_ + r.length + 1 : Nat) : Int) - 1) = ((A.at_ + r.length : Nat) : Int)) fun S => ?_
    refine Qap 14 60 2 S fun bs aa w S => ?_
    refine QaB 65 S (by rw [IntKind.wrap_i64]; omega : IntKind.i64.wrap ((A.i : Int) + 1) = ((A.i + 1 : Nat) : Int)) fun S => ?_
    refine Qaj ⟨0, [999]⟩ 50 S fun bs aa w S => ?_
    have S := S.sub (F' := [Qax A.mb A.mo zs4, Qaz x.b x.o x.S, QaP x.c x.p x.W, QaL A.z.b A.z.o A.z.l, Qay A.z.l, Qax cb co cs]) (by intro f hf; simp only [List.mem_cons, List.not_mem_nil, or_false] at hf; rcases hf with rfl | rfl | rfl | rfl | rfl | rfl <;> simp)
    have S2 := S.to [0, 1, 2] (q1S (A.up (A.at_ + r.length) (A.i + 1)) x lf dn en) (by kernel_rfl) (by kernel_rfl) (by kernel_rfl) (by kernel_rfl) (by kernel_rfl)
    refine Qag (k' := (.rnd (m) (Qa_ sq1C) :: sq1C.k.tail)) (by kernel_rfl) ?_
    exact ih _ rfl aa w S2
  · refine Qab 75 S (decide_eq_true (by omega) : decide ((j : Int) < (((r.length + 1) : Nat) : Int)) = true) fun S => ?_
    refine Qad 3 S fun bs aa w S => ?_
    refine Qab 78 S (decide_eq_false (by omega) : decide ((lf : Int) > 0) = false) fun S => ?_
    refine Qap 28 60 4 S fun bs aa w S => ?_
    refine QaB 121 S (by rw [IntKind.wrap_i64]; omega : IntKind.i64.wrap ((A.at_ : Int) + ((r.length + 1 : Nat) : Int)) = ((A.at_ + r.length + 1 : Nat) : Int)) fun S => ?_
    refine Qad 1 S fun bs aa w S => ?_
    refine QaB 122 S (by rw [IntKind.wrap_i64]; omega : IntKind.i64.wrap (((A.at_ + r.length + 1 : Nat) : Int) - 1) = ((A.at_ + r.length : Nat) : Int)) fun S => ?_
    refine Qap 14 60 2 S fun bs aa w S => ?_
    refine QaB 65 S (by rw [IntKind.wrap_i64]; omega : IntKind.i64.wrap ((A.i : Int) + 1) = ((A.i + 1 : Nat) : Int)) fun S => ?_
    refine Qaj ⟨0, [999]⟩ 50 S fun bs aa w S => ?_
    have S := S.sub (F' := [Qax A.mb A.mo zs4, Qaz x.b x.o x.S, QaP x.c x.p x.W, QaL A.z.b A.z.o A.z.l, Qay A.z.l, Qax cb co cs]) (by intro f hf; simp only [List.mem_cons, List.not_mem_nil, or_false] at hf; rcases hf with rfl | rfl | rfl | rfl | rfl | rfl <;> simp)
    have S2 := S.to [0, 1, 2] (q1S (A.up (A.at_ + r.length) (A.i + 1)) x lf dn en) (by kernel_rfl) (by kernel_rfl) (by kernel_rfl) (by kernel_rfl) (by kernel_rfl)
    refine Qag (k' := (.rnd (m) (Qa_ sq1C) :: sq1C.k.tail)) (by kernel_rfl) ?_
    exact ih _ rfl aa w S2
theorem rI_lt {l : List Nat} {s : Nat} (h : s < l.length) : rI l s = QaC (QcP s (l.getD s 0)).1 (QcP s (l.getD s 0)).2 := if_pos h
theorem Qk7 {l : List Nat} (hl8 : l.length ≤ 8) (h256 : ∀ b ∈ l, b < 256) {s : Nat} (h : s < l.length) : atI l (s + 1) = atI l s + (rI l s).length ∧ atI l (s + 1) ≤ 40 ∧ stJ (Qa3 l s) (rI l s) (rI l s).length = QfZ (Qa3 l (s + 1)) ∧ (∀ q ∈ rI l s, q.size = 32) := by
  have h3 := QeJ l h256 (s + 1) (by omega) (by omega)
  have hb := h256 _ (Qbe l s 0 h)
  rw [rI_lt h, stJ_all, ← Qbw]
  unfold atI
  exact ⟨by rw [Qbw, Qch, List.length_append], by omega, rfl, Qeg (QgB s _ (by omega) hb)⟩
section
variable (w0 : World) (l : List Nat) (hl8 : l.length ≤ 8) (h256 : ∀ b ∈ l, b < 256) (A : Aq) (hz : A.z.l.map prE = Qa3 l l.length) (hza : A.z.l.length = 0 ∨ A.z.a = some ⟨A.z.b, A.z.o, none⟩) (hze : ∀ e ∈ A.z.l, e.ok ∧ QcD e.ver e.ws) (hm : A.ma = some ⟨A.mb, A.mo, none⟩) (cb co : Nat) (cs : List Int) (hi : A.i < l.length) (hat : A.at_ = atI l A.i) (m g uc : Nat) (ih : ∀ (x : Dk) (lf s j : Nat) (hx : dvG l s j x) (hs : s ≤ A.i + 1 ∧ (0 < lf → s = A.i + 1 ∧ j = 0)) (hlf : lf ≤ 100) (bs : List Nat) (hbs : bs.length = 3) (aa : Act) (w : World) (S : Sy w0 [] bs (q1S (A.up (atI l (A.i + 1)) (A.i + 1)) x lf s (atI l s)) [Qax A.mb A.mo zs4, Qaz x.b x.o x.S, QaP x.c x.p x.W, QaL A.z.b A.z.o A.z.l, Qay A.z.l, Qax cb co cs] aa w), post Try.prog (.rnd (m) (Qa_ sq1C) :: sq1C.k.tail) (bodyPost Try.prog Try.f4 (apP w0)) .normal aa w)
include w0 l hl8 h256 A hz hza hze hm cb co cs hi hat m g uc ih
theorem q2_a : ∀ (q j : Nat), j + q = ((rI l A.i).length + 1) → ∀ (lf : Nat) (hlf : lf ≤ 100) (x : Dk) (hx : dvQ (Qa3 l A.i) (rI l A.i) j x) (bs : List Nat) (hbs : bs.length = 3) (aa : Act) (w : World) (S : Sy w0 [] bs (q2S A x lf (if j = (rI l A.i).length + 1 then A.i + 1 else A.i) (if j = (rI l A.i).length + 1 then A.at_ + (rI l A.i).length else atI l A.i) g ((rI l A.i).length + 1) uc (j)) [QfJ g (QcF A.at_ (rI l A.i)), Qax A.mb A.mo zs4, Qaz x.b x.o x.S, QaP x.c x.p x.W, QaL A.z.b A.z.o A.z.l, Qay A.z.l, Qax cb co cs] aa w), post Try.prog (.rnd (q + 1) (Qa_ (Qec m)) :: (Qec m).k.tail) (bodyPost Try.prog Try.f4 (apP w0)) .normal aa w := by
  obtain ⟨e1, e2, e3, e4⟩ := Qk7 hl8 h256 hi
  have h40 : A.at_ + (rI l A.i).length ≤ 40 := by omega
  have e5 : A.at_ + (rI l A.i).length = atI l (A.i + 1) := by omega
  intro q
  induction q with
  | zero =>
    intro j hj lf hlf x hx bs hbs aa w S
    obtain rfl : j = (rI l A.i).length + 1 := by omega
    rw [if_pos rfl, if_pos rfl] at S
    refine q2_x w0 A (rI l A.i) h40 (by omega) cb co cs g uc m lf (A.i + 1) (A.at_ + (rI l A.i).length) 0 _ x (Or.inl rfl) (fun bs hbs aa w S => ?_) bs hbs aa w S
    rw [e5] at S
    refine ih x lf (A.i + 1) 0 ⟨hx.1, ?_, ?_, hx.2.2.2, Nat.zero_le _, by omega⟩ ⟨Nat.le_refl _, fun _ => ⟨rfl, rfl⟩⟩ hlf bs hbs aa w S
    · rw [hx.2.1, Nat.min_eq_right (by omega), e3, stJ_0]
    · rw [hx.2.2.1, if_neg (by omega)]; rfl
  | succ q ihq =>
    intro j hj lf hlf x hx bs hbs aa w S
    rw [if_neg (by omega), if_neg (by omega)] at S
    match lf, hlf with
    | 0, _ =>
      refine q2_x w0 A (rI l A.i) h40 (by omega) cb co cs g uc m 0 A.i (atI l A.i) (q + 1) j x (Or.inr ⟨by omega, rfl⟩) (fun bs hbs aa w S => ?_) bs hbs aa w S
      rw [e5] at S
      refine ih x 0 A.i j ⟨hx.1, ?_, ?_, hx.2.2.2, by omega, by omega⟩ ⟨by omega, fun h => by omega⟩ (by omega) bs hbs aa w S
      · rw [hx.2.1, Nat.min_eq_left (by omega)]
      · rw [hx.2.2.1, if_pos (by omega)]; rfl
    | lf + 1, hlf =>
      refine q2_s w0 A (Qa3 l A.i) (rI l A.i) hat h40 e4 hm (by omega) cb co cs g uc m lf A.i (atI l A.i) (q + 1) j (by omega) (by omega) x hx (fun x hx bs hbs aa w S => ?_) bs hbs aa w S
      refine ihq (j + 1) (by omega) lf (by omega) x hx bs hbs aa w ?_
      by_cases hjr : j = (rI l A.i).length
      · rw [if_pos (by omega), if_pos (by omega)]
        rw [if_pos hjr, if_pos hjr] at S
        exact S
      · rw [if_neg (by omega), if_neg (by omega)]
        rw [if_neg hjr, if_neg hjr] at S
        exact S
theorem q2_i (x : Dk) (lf s j : Nat) (hx : dvG l s j x) (hs : s ≤ A.i ∧ (0 < lf → s = A.i ∧ j = 0)) (hlf : lf ≤ 100) (bs : List Nat) (hbs : bs.length = 3) (aa : Act) (w : World) (S : Sy w0 [] bs (q2S A x lf s (atI l s) g ((rI l A.i).length + 1) uc (0)) [QfJ g (QcF A.at_ (rI l A.i)), Qax A.mb A.mo zs4, Qaz x.b x.o x.S, QaP x.c x.p x.W, QaL A.z.b A.z.o A.z.l, Qay A.z.l, Qax cb co cs] aa w) : post Try.prog (.rnd (((rI l A.i).length + 1) + 1) (Qa_ (Qec m)) :: (Qec m).k.tail) (bodyPost Try.prog Try.f4 (apP w0)) .normal aa w := by
  obtain ⟨e1, e2, e3, e4⟩ := Qk7 hl8 h256 hi
  have h40 : A.at_ + (rI l A.i).length ≤ 40 := by omega
  have e5 : A.at_ + (rI l A.i).length = atI l (A.i + 1) := by omega
  match lf, hs.2, hlf, S with
  | 0, _, _, S =>
    refine q2_x w0 A (rI l A.i) h40 (by omega) cb co cs g uc m 0 s (atI l s) ((rI l A.i).length + 1) 0 x (Or.inr ⟨by omega, rfl⟩) (fun bs hbs aa w S => ?_) bs hbs aa w S
    rw [e5] at S
    exact ih x 0 s j hx ⟨by omega, fun h => by omega⟩ (by omega) bs hbs aa w S
  | lf + 1, hs2, hlf, S =>
    obtain ⟨rfl, rfl⟩ := hs2 (by omega)
    have S3 : Sy w0 [] bs (q2S A x (lf + 1) (if 0 = (rI l A.i).length + 1 then A.i + 1 else A.i) (if 0 = (rI l A.i).length + 1 then A.at_ + (rI l A.i).length else atI l A.i) g ((rI l A.i).length + 1) uc 0) [QfJ g (QcF A.at_ (rI l A.i)), Qax A.mb A.mo zs4, Qaz x.b x.o x.S, QaP x.c x.p x.W, QaL A.z.b A.z.o A.z.l, Qay A.z.l, Qax cb co cs] aa w := by
      rw [if_neg (by omega), if_neg (by omega)]
      exact S
    exact q2_a w0 l hl8 h256 A hz hza hze hm cb co cs hi hat m g uc ih ((rI l A.i).length + 1) 0 (by omega) (lf + 1) hlf x ⟨hx.1, by rw [Nat.zero_min]; exact hx.2.1, by rw [if_pos (by omega)]; exact hx.2.2.1, hx.2.2.2.1⟩ bs hbs aa w S3
end
theorem q1_s (w0 : World) (l : List Nat) (hl8 : l.length ≤ 8) (h256 : ∀ b ∈ l, b < 256) (A : Aq) (hz : A.z.l.map prE = Qa3 l l.length) (hza : A.z.l.length = 0 ∨ A.z.a = some ⟨A.z.b, A.z.o, none⟩) (hze : ∀ e ∈ A.z.l, e.ok ∧ QcD e.ver e.ws) (hm : A.ma = some ⟨A.mb, A.mo, none⟩) (cb co : Nat) (cs : List Int) (hi : A.i < l.length) (hat : A.at_ = atI l A.i) (m : Nat) (ih : ∀ (x : Dk) (lf s j : Nat) (hx : dvG l s j x) (hs : s ≤ A.i + 1 ∧ (0 < lf → s = A.i + 1 ∧ j = 0)) (hlf : lf ≤ 100) (bs : List Nat) (hbs : bs.length = 3) (aa : Act) (w : World) (S : Sy w0 [] bs (q1S (A.up (atI l (A.i + 1)) (A.i + 1)) x lf s (atI l s)) [Qax A.mb A.mo zs4, Qaz x.b x.o x.S, QaP x.c x.p x.W, QaL A.z.b A.z.o A.z.l, Qay A.z.l, Qax cb co cs] aa w), post Try.prog (.rnd (m) (Qa_ sq1C) :: sq1C.k.tail) (bodyPost Try.prog Try.f4 (apP w0)) .normal aa w) (x : Dk) (lf s j : Nat) (hx : dvG l s j x) (hs : s ≤ A.i ∧ (0 < lf → s = A.i ∧ j = 0)) (hlf : lf ≤ 100) (bs : List Nat) (hbs : bs.length = 3) (aa : Act) (w : World) (S : Sy w0 [] bs (q1S A x lf s (atI l s)) [Qax A.mb A.mo zs4, Qaz x.b x.o x.S, QaP x.c x.p x.W, QaL A.z.b A.z.o A.z.l, Qay A.z.l, Qax cb co cs] aa w) : post Try.prog (.rnd (m + 1) (Qa_ sq1C) :: sq1C.k.tail) (bodyPost Try.prog Try.f4 (apP w0)) .normal aa w := by
  obtain ⟨b0, b1, b2, rfl⟩ : ∃ b0 b1 b2, bs = [b0, b1, b2] := by
    match bs, hbs with
    | [b0, b1, b2], _ => exact ⟨b0, b1, b2, rfl⟩
  obtain ⟨p1, p2⟩ := ent_at hz hi
  obtain ⟨e1, e2, e3, e4⟩ := Qk7 hl8 h256 hi
  have hn : A.z.l.length = l.length := by have := congrArg List.length hz; rwa [List.length_map, Qbp] at this
  obtain ⟨q1, q2⟩ := hze _ p2
  have h40 : A.at_ + (rI l A.i).length ≤ 40 := by omega
  have e5 : A.at_ + (rI l A.i).length = atI l (A.i + 1) := by omega
  have hat1 : A.at_ ≤ 1000 := by omega
  have hR : QaC (A.z.l.getD A.i e00).ver (A.z.l.getD A.i e00).ws = rI l A.i := by
    rw [rI_lt hi, show (A.z.l.getD A.i e00).ver = (QcP A.i (l.getD A.i 0)).1 from congrArg Prod.fst p1, show (A.z.l.getD A.i e00).ws = (QcP A.i (l.getD A.i 0)).2 from congrArg Prod.snd p1]
  refine Qap (c := ⟨(.rnd (m + 1) (Qa_ sq1C) :: sq1C.k.tail), q1S A x lf s (atI l s)⟩) 13 50 4 S fun bs aa w S => ?_
  refine Qab 63 S (decide_eq_true (by omega) : decide ((A.i : Int) < (A.z.l.length : Int)) = true) fun S => ?_
  refine Qap 15 60 2 S fun bs aa w S => ?_
  refine QbI (b := A.z.b) (off := A.z.o) (len := A.z.l.length) (n := A.i) (size := 2) (i := (A.i : Int)) S (by rw [← hza.resolve_left (by omega)]; kernel_rfl) rfl (by omega) fun aa S => ?_
  refine Qbf S (ld_en (j := A.i) (es := A.z.l) (S.fact (f := QaL A.z.b A.z.o A.z.l) (by simp)) (show A.i < A.z.l.length by omega)) (by kernel_rfl) fun aa S => ?_
  refine Qad 1 S fun bs aa w S => ?_
  refine Qbq S fun bs2 S => ?_
  have hlt := fun i hi => S.lt (i := i) hi
  have hWr : Qc8 w (A.z.l.getD A.i e00).b (A.z.l.getD A.i e00).o (A.z.l.getD A.i e00).ws := (S.fact (f := Qay A.z.l) (by simp)) _ p2
  have hrec := record_c w (A.z.l.getD A.i e00) q1 q2 hWr A.at_ hat1
  rw [hR] at hrec
  refine Qbg S hrec (by kernel_rfl) fun q aa w1 hC hb S => ?_
  obtain ⟨g, uc⟩ := q
  have S := S.add (QfJ g (QcF A.at_ (rI l A.i))) hC.2 (fun i hi hb => by have := hlt i hi; have := hb.1; have : _ ≤ g := hC.1; omega)
  refine Qah S fun bs aa w S => ?_
  have S := S.sub (F' := [QfJ g (QcF A.at_ (rI l A.i)), Qax A.mb A.mo zs4, Qaz x.b x.o x.S, QaP x.c x.p x.W, QaL A.z.b A.z.o A.z.l, Qay A.z.l, Qax cb co cs]) (by intro f hf; simp only [List.mem_cons, List.not_mem_nil, or_false] at hf; rcases hf with rfl | rfl | rfl | rfl | rfl | rfl | rfl <;> simp)
  have S2 := S.to [0, 1, 2] (q2S A x lf s (atI l s) g ((rI l A.i).length + 1) uc 0) (by kernel_rfl) (by kernel_rfl) (by kernel_rfl) (by kernel_rfl) (by kernel_rfl)
  refine QaR (((rI l A.i).length + 1) + 1) (by kernel_rfl) ?_
  refine Qag (k' := (.rnd (((rI l A.i).length + 1) + 1) (Qa_ (Qec m)) :: (Qec m).k.tail)) (by kernel_rfl) ?_
  exact q2_i w0 l hl8 h256 A hz hza hze hm cb co cs hi hat m g uc ih x lf s j hx hs hlf _ rfl aa _ S2
section
open EX
theorem rval_0 (w : World) : Calls Try.prog 26 #[.agg lyA.toArray, .int .i64 0] w fun e w' => e = .returned (.int .i64 9) ∧ Below w.heap.size w w' :=
  @Qcr noFC _ QcL Qbv 100000 _ _ [.g [.v (.int .i64 1), .v (.int .i64 5), .v (.int .i64 0), .v (.int .i64 40), .v (.int .i64 0), .v (.int .i64 0), .v (.int .i64 1), .v (.int .i64 2), .v (.int .i64 3), .v (.int .i64 4), .v (.int .i64 8), .v (.int .i64 8), .v (.int .i64 28)], .v (.int .i64 0)] [] _ [] w (by kernel_rfl) (by simp [Qam, EX.den, lyA]) (by simp [bdL, bd]) (by intro q hq; cases hq) (QaT _)
theorem rval_1 (w : World) : Calls Try.prog 26 #[.agg lyA.toArray, .int .i64 1] w fun e w' => e = .returned (.int .i64 13) ∧ Below w.heap.size w w' :=
  @Qcr noFC _ QcL Qbv 100000 _ _ [.g [.v (.int .i64 1), .v (.int .i64 5), .v (.int .i64 0), .v (.int .i64 40), .v (.int .i64 0), .v (.int .i64 0), .v (.int .i64 1), .v (.int .i64 2), .v (.int .i64 3), .v (.int .i64 4), .v (.int .i64 8), .v (.int .i64 8), .v (.int .i64 28)], .v (.int .i64 1)] [] _ [] w (by kernel_rfl) (by simp [Qam, EX.den, lyA]) (by simp [bdL, bd]) (by intro q hq; cases hq) (QaT _)
theorem rval_2 (w : World) : Calls Try.prog 26 #[.agg lyA.toArray, .int .i64 2] w fun e w' => e = .returned (.int .i64 17) ∧ Below w.heap.size w w' :=
  @Qcr noFC _ QcL Qbv 100000 _ _ [.g [.v (.int .i64 1), .v (.int .i64 5), .v (.int .i64 0), .v (.int .i64 40), .v (.int .i64 0), .v (.int .i64 0), .v (.int .i64 1), .v (.int .i64 2), .v (.int .i64 3), .v (.int .i64 4), .v (.int .i64 8), .v (.int .i64 8), .v (.int .i64 28)], .v (.int .i64 2)] [] _ [] w (by kernel_rfl) (by simp [Qam, EX.den, lyA]) (by simp [bdL, bd]) (by intro q hq; cases hq) (QaT _)
theorem rval_3 (w : World) : Calls Try.prog 26 #[.agg lyA.toArray, .int .i64 3] w fun e w' => e = .returned (.int .i64 21) ∧ Below w.heap.size w w' :=
  @Qcr noFC _ QcL Qbv 100000 _ _ [.g [.v (.int .i64 1), .v (.int .i64 5), .v (.int .i64 0), .v (.int .i64 40), .v (.int .i64 0), .v (.int .i64 0), .v (.int .i64 1), .v (.int .i64 2), .v (.int .i64 3), .v (.int .i64 4), .v (.int .i64 8), .v (.int .i64 8), .v (.int .i64 28)], .v (.int .i64 3)] [] _ [] w (by kernel_rfl) (by simp [Qam, EX.den, lyA]) (by simp [bdL, bd]) (by intro q hq; cases hq) (QaT _)
theorem rval_4 (w : World) : Calls Try.prog 26 #[.agg lyA.toArray, .int .i64 4] w fun e w' => e = .returned (.int .i64 25) ∧ Below w.heap.size w w' :=
  @Qcr noFC _ QcL Qbv 100000 _ _ [.g [.v (.int .i64 1), .v (.int .i64 5), .v (.int .i64 0), .v (.int .i64 40), .v (.int .i64 0), .v (.int .i64 0), .v (.int .i64 1), .v (.int .i64 2), .v (.int .i64 3), .v (.int .i64 4), .v (.int .i64 8), .v (.int .i64 8), .v (.int .i64 28)], .v (.int .i64 4)] [] _ [] w (by kernel_rfl) (by simp [Qam, EX.den, lyA]) (by simp [bdL, bd]) (by intro q hq; cases hq) (QaT _)
theorem rval_t (r : Int) (h0 : 0 ≤ r) (h5 : r < 5) (w : World) : Calls Try.prog 26 #[.agg lyA.toArray, .int .i64 r] w fun e w' => e = .returned (.int .i64 (8 + 4 * r + 1)) ∧ Below w.heap.size w w' := by
  obtain ⟨n, rfl⟩ := Int.eq_ofNat_of_zero_le h0
  match n, (show n < 5 by omega) with
  | 0, _ => exact rval_0 w
  | 1, _ => exact rval_1 w
  | 2, _ => exact rval_2 w
  | 3, _ => exact rval_3 w
  | 4, _ => exact rval_4 w
theorem rword_0 (w : World) : Calls Try.prog 27 #[.agg lyA.toArray, .int .i64 0] w fun e w' => e = .returned (.int .i64 8) ∧ Below w.heap.size w w' :=
  @Qcr noFC _ QcL Qbv 100000 _ _ [.g [.v (.int .i64 1), .v (.int .i64 5), .v (.int .i64 0), .v (.int .i64 40), .v (.int .i64 0), .v (.int .i64 0), .v (.int .i64 1), .v (.int .i64 2), .v (.int .i64 3), .v (.int .i64 4), .v (.int .i64 8), .v (.int .i64 8), .v (.int .i64 28)], .v (.int .i64 0)] [] _ [] w (by kernel_rfl) (by simp [Qam, EX.den, lyA]) (by simp [bdL, bd]) (by intro q hq; cases hq) (QaT _)
theorem rword_1 (w : World) : Calls Try.prog 27 #[.agg lyA.toArray, .int .i64 1] w fun e w' => e = .returned (.int .i64 12) ∧ Below w.heap.size w w' :=
  @Qcr noFC _ QcL Qbv 100000 _ _ [.g [.v (.int .i64 1), .v (.int .i64 5), .v (.int .i64 0), .v (.int .i64 40), .v (.int .i64 0), .v (.int .i64 0), .v (.int .i64 1), .v (.int .i64 2), .v (.int .i64 3), .v (.int .i64 4), .v (.int .i64 8), .v (.int .i64 8), .v (.int .i64 28)], .v (.int .i64 1)] [] _ [] w (by kernel_rfl) (by simp [Qam, EX.den, lyA]) (by simp [bdL, bd]) (by intro q hq; cases hq) (QaT _)
theorem rword_2 (w : World) : Calls Try.prog 27 #[.agg lyA.toArray, .int .i64 2] w fun e w' => e = .returned (.int .i64 16) ∧ Below w.heap.size w w' :=
  @Qcr noFC _ QcL Qbv 100000 _ _ [.g [.v (.int .i64 1), .v (.int .i64 5), .v (.int .i64 0), .v (.int .i64 40), .v (.int .i64 0), .v (.int .i64 0), .v (.int .i64 1), .v (.int .i64 2), .v (.int .i64 3), .v (.int .i64 4), .v (.int .i64 8), .v (.int .i64 8), .v (.int .i64 28)], .v (.int .i64 2)] [] _ [] w (by kernel_rfl) (by simp [Qam, EX.den, lyA]) (by simp [bdL, bd]) (by intro q hq; cases hq) (QaT _)
theorem rword_3 (w : World) : Calls Try.prog 27 #[.agg lyA.toArray, .int .i64 3] w fun e w' => e = .returned (.int .i64 20) ∧ Below w.heap.size w w' :=
  @Qcr noFC _ QcL Qbv 100000 _ _ [.g [.v (.int .i64 1), .v (.int .i64 5), .v (.int .i64 0), .v (.int .i64 40), .v (.int .i64 0), .v (.int .i64 0), .v (.int .i64 1), .v (.int .i64 2), .v (.int .i64 3), .v (.int .i64 4), .v (.int .i64 8), .v (.int .i64 8), .v (.int .i64 28)], .v (.int .i64 3)] [] _ [] w (by kernel_rfl) (by simp [Qam, EX.den, lyA]) (by simp [bdL, bd]) (by intro q hq; cases hq) (QaT _)
theorem rword_4 (w : World) : Calls Try.prog 27 #[.agg lyA.toArray, .int .i64 4] w fun e w' => e = .returned (.int .i64 24) ∧ Below w.heap.size w w' :=
  @Qcr noFC _ QcL Qbv 100000 _ _ [.g [.v (.int .i64 1), .v (.int .i64 5), .v (.int .i64 0), .v (.int .i64 40), .v (.int .i64 0), .v (.int .i64 0), .v (.int .i64 1), .v (.int .i64 2), .v (.int .i64 3), .v (.int .i64 4), .v (.int .i64 8), .v (.int .i64 8), .v (.int .i64 28)], .v (.int .i64 4)] [] _ [] w (by kernel_rfl) (by simp [Qam, EX.den, lyA]) (by simp [bdL, bd]) (by intro q hq; cases hq) (QaT _)
theorem rword_t (r : Int) (h0 : 0 ≤ r) (h5 : r < 5) (w : World) : Calls Try.prog 27 #[.agg lyA.toArray, .int .i64 r] w fun e w' => e = .returned (.int .i64 (8 + 4 * r + 0)) ∧ Below w.heap.size w w' := by
  obtain ⟨n, rfl⟩ := Int.eq_ofNat_of_zero_le h0
  match n, (show n < 5 by omega) with
  | 0, _ => exact rword_0 w
  | 1, _ => exact rword_1 w
  | 2, _ => exact rword_2 w
  | 3, _ => exact rword_3 w
  | 4, _ => exact rword_4 w
end
theorem Qjs (w0 : World) (g cp : Nat) (zs : List Int) (n i : Nat) (hn : zs.length = n) (hi : i < n) (hI : Qbm w0 g 0 zs) : Calls Try.prog 25 #[.agg #[.slice (some ⟨g, 0, none⟩) n cp], .int .i64 (i : Int)] w0 fun e w' => e = .returned (.int .i64 (zs.getD i 0)) ∧ Below w0.heap.size w0 w' := by
  refine Qas [] [Qax g 0 zs] (by intro f hf; simp only [List.mem_singleton] at hf; subst hf; exact hI) Try.func25 rfl rfl fun aa S => ?_
  refine Qap 1 60 2 S fun bs aa w S => ?_
  refine Qab 6 S (decide_eq_false (by omega) : decide ((i : Int) < 0) = false) fun S => ?_
  refine Qad 6 S fun bs aa w S => ?_
  refine Qab 12 S (decide_eq_false (by omega) : decide ((i : Int) ≥ ((n : Nat) : Int)) = false) fun S => ?_
  refine Qap 3 60 3 S fun bs aa w S => ?_
  refine QbI (b := g) (off := 0) (len := n) (n := i) (size := 1) (i := (i : Int)) S (by kernel_rfl) rfl hi fun aa S => ?_
  refine Qbf S (Qa6 (ty := 3) (b := g) (off := 0 + i * 1) (by kernel_rfl) (by rw [Nat.mul_one]; exact S.fact (f := Qax g 0 zs) (by simp) i (by omega))) (by kernel_rfl) fun aa S => ?_
  refine Qah S fun bs aa w S => ?_
  exact Qan S (by kernel_rfl) (by kernel_rfl) fun hg => ⟨rfl, Qaq hg⟩
def bdV (q : Er × Nat × Nat) : Value := .tuple #[.agg #[.slice (some ⟨q.2.1, 0, none⟩) 28 q.2.2], q.1.v]
theorem z32_sz : z32.size = 32 := by kernel_rfl
theorem Qk0 {l : List Nat} (hl8 : l.length ≤ 8) (h256 : ∀ b ∈ l, b < 256) : ∀ n, n ≤ l.length → ∀ q ∈ Qav (Qa3 l n), q.size = 32
  | 0, _, q, hq => by cases hq
  | n + 1, hn, q, hq => by
    rw [Qbw, Qch] at hq
    rcases List.mem_append.1 hq with hq | hq
    · exact Qk0 hl8 h256 n (by omega) q hq
    · exact Qeg (QgB n _ (by omega) (h256 _ (Qbe l n 0 (by omega)))) q hq
section
variable {l : List Nat} (hl8 : l.length ≤ 8) (h256 : ∀ b ∈ l, b < 256)
include l hl8 h256
theorem rI_sz {s : Nat} (hs : s ≤ l.length) : (∀ q ∈ rI l s, q.size = 32) ∧ atI l s + (rI l s).length ≤ 40 := by
  by_cases h : s < l.length
  · obtain ⟨e1, e2, e3, e4⟩ := Qk7 hl8 h256 h
    exact ⟨e4, by omega⟩
  · have e : rI l s = [] := if_neg h
    have h3 := QeJ l h256 s hs (by omega)
    rw [e]
    exact ⟨(fun q hq => by cases hq), by unfold atI; simp only [List.length_nil]; omega⟩
theorem Ql3 {s j : Nat} {x : Dk} (hx : dvG l s j x) : x.ok ∧ x.right ∧ x.sl = 40 ∧ x.tl = j ∧ x.tl ≤ x.tc := by
  obtain ⟨hg, hS, hW, hc, hj, hs⟩ := hx
  obtain ⟨r1, r2⟩ := rI_sz hl8 h256 hs
  have r3 : (Qav (Qa3 l s)).length + (rI l s).length ≤ 40 := r2
  have e1 : x.sl = 40 := by rw [← hg.hS, hS]; exact QeW hj r3
  have e2 : x.tl = j := by rw [← hg.hW, hW, QiB]
  refine ⟨gen_ok hg (by omega) (by omega), ⟨fun i hi => ?_, fun i hi => ?_⟩, e1, e2, ?_⟩
  · have hm : x.S.getD i ByteArray.empty ∈ x.S := Qbe _ _ _ (by rw [hg.hS]; exact hi)
    generalize x.S.getD i ByteArray.empty = q at hm
    rw [hS] at hm
    unfold stJ at hm
    rcases List.mem_append.1 hm with hm | hm
    · exact Qk0 hl8 h256 s hs q hm
    · rcases List.mem_append.1 hm with hm | hm
      · exact r1 q (List.mem_of_mem_take hm)
      · rw [List.eq_of_mem_replicate hm]; exact z32_sz
  · rw [hW, QhF _ _ _ (by omega)]
    have : atI l s + i < 40 := by omega
    exact ⟨⟨by simp only; omega, by simp only; omega⟩, z32_sz⟩
  · rcases hg.ht with h | h
    · omega
    · exact h.2
theorem crash_G {s j : Nat} {x : Dk} (hx : dvG l s j x) (cs : List Int) : ∃ k, (k = s ∨ k = s + 1) ∧ k ≤ l.length ∧ Qdz 41 (crS x cs) 0 0 = (Qa3 l k, atI l k) := by
  obtain ⟨d1, d2, d3, d4, d5⟩ := Ql3 hl8 h256 hx
  have hcl := (Qme x d1 d2 cs).1
  rw [d3] at hcl
  obtain ⟨hg, hS, hW, hc, hj, hs⟩ := hx
  obtain ⟨r1, r2⟩ := rI_sz hl8 h256 hs
  have r3 : (Qav (Qa3 l s)).length + (rI l s).length ≤ 40 := r2
  have hC := crash_S (Qa3 l s) (rI l s) r3 r1 cs x j hj hS hW d4
  have hn := Qbp l s
  by_cases h : s < l.length
  · have hb := h256 _ (Qbe l s 0 h)
    obtain ⟨a1, _⟩ := Qie l h256 (s + 1) (by omega)
    rw [Qbw] at a1
    rw [rI_lt h] at hC r3
    obtain ⟨L, hL, hr⟩ := Qmc (Qa3 l s) (QcP s (l.getD s 0)) a1 r3 (by omega) (cutJ cs j (QaC (QcP s (l.getD s 0)).1 (QcP s (l.getD s 0)).2).length)
    rw [hL] at hC
    rw [hC] at hcl
    rw [hcl] at hr
    rw [hC]
    rcases hr with hr | hr
    · exact ⟨s, Or.inl rfl, by omega, hr⟩
    · rw [← Qbw] at hr
      exact ⟨s + 1, Or.inr rfl, by omega, hr⟩
  · have e : rI l s = [] := if_neg h
    obtain ⟨a1, _⟩ := Qie l h256 s (by omega)
    have h3 := QeJ l h256 s hs (by omega)
    have hd := Qjp a1 (by omega) (by omega)
    have e2 : crS x cs = QfZ (Qa3 l s) := by rw [hC, e]; simp [QfZ, Qc9]
    rw [← e2, hcl] at hd
    exact ⟨s, Or.inl rfl, hs, hd⟩
end
def crV (q : Nat × Nat) : Value := .agg #[.slice (some ⟨q.1, 0, none⟩) 40 q.2, .slice none 0 0]
theorem crs_d (w : World) {l : List Nat} (hl8 : l.length ≤ 8) (h256 : ∀ b ∈ l, b < 256) {s j : Nat} {x : Dk} (hx : dvG l s j x) (ca : Option Addr) (cc cb co : Nat) (cs : List Int) (hca : cs.length = 0 ∨ ca = some ⟨cb, co, none⟩) {w0 : World} {q bs : List Nat} {st : SS} {F : List RF} {a : Act} (S : Sy w0 q bs st F a w) (h1 : Qaz x.b x.o x.S ∈ F) (h2 : QaP x.c x.p x.W ∈ F) (h3 : Qax cb co cs ∈ F) : Calls Try.prog 22 #[x.v, .slice ca cs.length cc] w fun e w' => ∃ q : Nat × Nat, e = .returned (crV q) ∧ ((40 ≤ q.2 ∧ StrAt w' q.1 0 (crS x cs)) ∧ w.heap.size ≤ q.1) ∧ Below w.heap.size w w' := by
  obtain ⟨d1, d2, d3, d4, d5⟩ := Ql3 hl8 h256 hx
  refine (crash_c w x d1 d2 (by omega) d5 ca cc cb co cs hca (S.fact h1) (S.fact h2) (S.fact h3)).mono fun e w' ⟨g, sc, q1, q2, q3, q4⟩ => ⟨(g, sc), ?_, ⟨⟨by rw [← d3]; exact q2.2, Qew q3⟩, q2.1⟩, q4⟩
  rw [d3] at q1
  exact q1
def zn5 : List Int := [-1, -2, -3, -4, -5]
theorem boot_q (w : World) (L : List ByteArray) (hL : L.length = 40) (R : List (Int × Ws) × Nat) (hR : Qdz 41 L 0 0 = R) (g0 c0 : Nat) (hc : 40 ≤ c0) (hA : StrAt w g0 0 L) (g : Nat) (hI : Qbm w g 0 zn5) : Calls Try.prog 10 #[.agg lyA.toArray, .slice (some ⟨g, 0, none⟩) 5 5, crV (g0, c0)] w fun e w' => ∃ q, e = .returned (bdV q) ∧ (Qbm w' q.2.1 0 (Qj9 cfA zn5 R) ∧ w.heap.size ≤ q.2.1 ∧ recQ R w.heap.size q.1 w') ∧ Below w.heap.size w w' := by
  have h := boot_t w cfA (by decide) zn5 (by decide) (some ⟨g, 0, none⟩) 5 g 0 (Or.inr rfl) ⟨some ⟨g0, 0, none⟩, c0, g0, 0, L⟩ (Or.inr rfl) (by show L.length ≤ c0; omega) (by show L.length ≤ 600; omega) (.slice none 0 0) hA hI
  rw [show Qdz ((⟨some ⟨g0, 0, none⟩, c0, g0, 0, L⟩ : Sr).l.length + 1) (⟨some ⟨g0, 0, none⟩, c0, g0, 0, L⟩ : Sr).l 0 0 = R by show Qdz (L.length + 1) L 0 0 = R; rw [hL]; exact hR] at h
  have ev : Sr.v ⟨some ⟨g0, 0, none⟩, c0, g0, 0, L⟩ = .slice (some ⟨g0, 0, none⟩) 40 c0 := by unfold Sr.v; rw [hL]
  rw [ev] at h
  exact h.mono fun e w' ⟨es, g, cp, h1, h2, h3, h4, h5⟩ => ⟨(es, g, cp), h1, ⟨h2, h3, h4⟩, h5⟩
structure Bp where
  at_ : Nat
  g0 : Nat
  c0 : Nat
  g1 : Nat
  c1 : Nat
  e : Et
  Z0 : List Int
  Z1 : List Int
theorem Qkn (i b : Nat) : ∀ k, ∀ p ∈ wsE i b k, 0 ≤ p.1 ∧ p.1 < (k : Int)
  | 0, p, hp => by cases hp
  | k + 1, p, hp => by
    unfold wsE at hp
    rcases List.mem_append.1 hp with hp | hp
    · have := Qkn i b k p hp; omega
    · split at hp
      · obtain rfl := List.mem_singleton.1 hp
        simp only
        omega
      · cases hp
def scW (loc ver : Int) (ws : Ws) (p : Int × Int) : Int × Int := ws.foldl (fun p x => if x.1 = loc then (x.2, ver) else p) p
theorem scW_take {loc ver : Int} {ws : Ws} {p : Int × Int} {k : Nat} (h : k < ws.length) : scW loc ver (ws.take (k + 1)) p = if (ws.getD k (0, 0)).1 = loc then ((ws.getD k (0, 0)).2, ver) else scW loc ver (ws.take k) p := by
  have e : ws.getD k (0, 0) = ws[k] := by simp [List.getD, List.getElem?_eq_getElem h]
  unfold scW
  rw [List.take_succ_eq_append_getElem h, List.foldl_append, e]
  rfl
theorem scW_app (loc ver : Int) (a b : Ws) (p : Int × Int) : scW loc ver (a ++ b) p = scW loc ver b (scW loc ver a p) := by simp [scW, List.foldl_append]
def scE (loc : Int) (P : List (Int × Ws)) (p : Int × Int) : Int × Int := P.foldl (fun p e => scW loc e.1 e.2 p) p
theorem Qgh (loc : Int) (l : List Nat) (n : Nat) (p : Int × Int) : scE loc (Qa3 l (n + 1)) p = scW loc (QcP n (l.getD n 0)).1 (QcP n (l.getD n 0)).2 (scE loc (Qa3 l n) p) := by
  rw [Qbw]
  simp [scE, List.foldl_append]
theorem Qi7 {loc : Int} : ∀ {ws : Ws}, (∀ p ∈ ws, p.1 ≠ loc) → Qc2 loc ws = none
  | [], _ => rfl
  | x :: r, h => by
    show (if x.1 = loc then some x else Qc2 loc r) = none
    rw [if_neg (h x (by simp))]
    exact Qi7 fun p hp => h p (by simp [hp])
theorem QkQ (i b : Nat) (loc ver : Int) (p : Int × Int) : ∀ k, scW loc ver (wsE i b k) p = match Qc2 loc (wsE i b k) with
    | some x => (x.2, ver)
    | none => p
  | 0 => rfl
  | k + 1 => by
    unfold wsE
    rw [scW_app, Qi8, QkQ i b loc ver p k]
    split
    · by_cases h : ((k : Nat) : Int) = loc
      · rw [Qi7 (fun q hq => by have := Qkn i b k q hq; omega)]
        simp [scW, Qc2, h]
      · cases Qc2 loc (wsE i b k) <;> simp [scW, Qc2, h]
    · cases Qc2 loc (wsE i b k) <;> simp [scW, Qc2]
theorem QhP (l : List Nat) (loc z : Int) : ∀ n, scE loc (Qa3 l n) (z, 0) = match Qc6 (Qa3 l n) loc with
    | some t => (t.2.1, t.2.2)
    | none => (z, 0)
  | 0 => rfl
  | n + 1 => by
    rw [Qgh, Qbw, Qek, QhP l loc z n]
    show scW loc (QcP n (l.getD n 0)).1 (wsE n (l.getD n 0) 5) _ = _
    rw [QkQ]
    show _ = match (match Qc2 loc (wsE n (l.getD n 0) 5) with | some x => some (x.1, x.2, (QcP n (l.getD n 0)).1) | none => Qc6 (Qa3 l n) loc) with | some t => (t.2.1, t.2.2) | none => (z, 0)
    cases Qc2 loc (wsE n (l.getD n 0) 5) <;> rfl
theorem QkR (loc ver : Int) : ∀ (ws : Ws) (p : Int × Int), (scW loc ver ws p).2 = p.2 ∨ (scW loc ver ws p).2 = ver
  | [], p => Or.inl rfl
  | x :: r, p => by
    show (scW loc ver r (if x.1 = loc then (x.2, ver) else p)).2 = p.2 ∨ (scW loc ver r (if x.1 = loc then (x.2, ver) else p)).2 = ver
    rcases QkR loc ver r (if x.1 = loc then (x.2, ver) else p) with h | h
    · rw [h]
      split
      · exact Or.inr rfl
      · exact Or.inl rfl
    · exact Or.inr h
theorem QhO {l : List Nat} (h256 : ∀ b ∈ l, b < 256) (loc z : Int) : ∀ n, n ≤ l.length → n ≤ 8 → 0 ≤ (scE loc (Qa3 l n) (z, 0)).2 ∧ (scE loc (Qa3 l n) (z, 0)).2 ≤ 100
  | 0, _, _ => ⟨Int.le_refl _, by show (0 : Int) ≤ 100; decide⟩
  | n + 1, hn, h8 => by
    have ih := QhO h256 loc z n (by omega) (by omega)
    have hb := h256 _ (Qbe l n 0 (by omega))
    have hv : (QcP n (l.getD n 0)).1 = ((2 * n + 1 + l.getD n 0 / 128 : Nat) : Int) := rfl
    rw [Qgh]
    rcases QkR loc (QcP n (l.getD n 0)).1 (QcP n (l.getD n 0)).2 (scE loc (Qa3 l n) (z, 0)) with h | h
    · rw [h]; exact ih
    · rw [h, hv]; omega
theorem vv_sc (l : List Nat) (n k : Nat) (zs : List Int) : vvB (Qa3 l n) zs k = (scE (k : Int) (Qa3 l n) (zs.getD k 0, 0)).1 := by
  rw [QhP]
  unfold vvB
  cases Qc6 (Qa3 l n) (k : Int) <;> rfl
theorem ww_sc {l : List Nat} (h256 : ∀ b ∈ l, b < 256) (n k : Nat) (hn : n ≤ l.length) (h8 : n ≤ 8) (z : Int) : wwB (Qa3 l n) k = 2 * (scE (k : Int) (Qa3 l n) (z, 0)).2 := by
  have h := QhO h256 (k : Int) z n hn h8
  rw [QhP] at h ⊢
  unfold wwB
  cases h2 : Qc6 (Qa3 l n) (k : Int) with
  | none => rfl
  | some t =>
    rw [h2] at h
    have h3 : 0 ≤ t.2.2 ∧ t.2.2 ≤ 100 := h
    show wrap64 (2 * t.2.2) = 2 * t.2.2
    unfold wrap64
    omega
noncomputable def sq4C : Cfg := ⟨goZ 900 [0, 9, 0, 9, 0] [.code (QaW Try.f4)], ⟨0, [], []⟩⟩
noncomputable def QeX (m : Nat) : Cfg := ⟨goZ 600 [1] (.code (Qa_ sq4C) :: .rnd m (Qa_ sq4C) :: sq4C.k.tail), ⟨0, [], []⟩⟩
noncomputable def QgO (m n : Nat) : Cfg := ⟨goZ 600 [1] (.code (Qa_ (QeX m)) :: .rnd n (Qa_ (QeX m)) :: (QeX m).k.tail), ⟨0, [], []⟩⟩
structure Rq where
  z : Er
  y : Er
  gf : Nat
  gm : Nat
  cm : Nat
  en : Nat
  clk : Int
noncomputable def r4B (R : Rq) : List Bx := [⟨25, lyA⟩, ⟨37, [.slice (some ⟨R.gm, 0, none⟩) 28 R.cm]⟩]
noncomputable def r4T (R : Rq) (k : Nat) : List (Nat × SV) := [(7, .v (.bool true)), (8, .p 0 0), (10, .v R.z.v), (17, .v (.int .i64 (R.en : Int))), (25, .v (.slice (some ⟨R.gf, 0, none⟩) 5 5)), (26, .p 1 0), (27, .v R.y.v), (28, .v (.int .i64 R.clk)), (30, .v (.int .i64 (k : Int)))]
noncomputable def r4S (R : Rq) (k : Nat) : SS := ⟨267, r4T R k, r4B R⟩
noncomputable def r5S (R : Rq) (k i : Nat) (v u : Int) : SS := ⟨267, r4T R k ++ [(31, .v (.int .i64 v)), (32, .v (.int .i64 u)), (33, .v (.int .i64 (i : Int)))], r4B R⟩
noncomputable def r6S (R : Rq) (k i j : Nat) (v u : Int) : SS := ⟨267, r4T R k ++ [(31, .v (.int .i64 v)), (32, .v (.int .i64 u)), (33, .v (.int .i64 (i : Int))), (34, .v (.int .i64 (j : Int)))], r4B R⟩
section
variable (w0 : World) (R : Rq) (hza : R.z.l.length = 0 ∨ R.z.a = some ⟨R.z.b, R.z.o, none⟩) (hze : ∀ e ∈ R.z.l, e.ok ∧ QcD e.ver e.ws) (hz8 : R.z.l.length ≤ 8) (hw5 : ∀ e ∈ R.z.l, e.ws.length ≤ 5) (Z : List Int)
include w0 R hza hze hz8 hw5 Z
theorem r6_s (m n k i : Nat) (hi : i < R.z.l.length) (q j : Nat) (hj : j < (R.z.l.getD i e00).ws.length) (v u : Int) (ih : ∀ (v2 u2 : Int) (h2 : (v2, u2) = if ((R.z.l.getD i e00).ws.getD j (0, 0)).1 = (k : Int) then (((R.z.l.getD i e00).ws.getD j (0, 0)).2, (R.z.l.getD i e00).ver) else (v, u)) (bs : List Nat) (hbs : bs.length = 2) (aa : Act) (w : World) (S : Sy w0 [] bs (r6S R k i (j + 1) v2 u2) [Qax R.gm 0 Z, Qax R.gf 0 zn5, QaL R.z.b R.z.o R.z.l, Qay R.z.l] aa w), post Try.prog (.rnd (q) (Qa_ (QgO m n)) :: (QgO m n).k.tail) (bodyPost Try.prog Try.f4 (apP w0)) .normal aa w) (bs : List Nat) (hbs : bs.length = 2) (aa : Act) (w : World) (S : Sy w0 [] bs (r6S R k i j v u) [Qax R.gm 0 Z, Qax R.gf 0 zn5, QaL R.z.b R.z.o R.z.l, Qay R.z.l] aa w) : post Try.prog (.rnd (q + 1) (Qa_ (QgO m n)) :: (QgO m n).k.tail) (bodyPost Try.prog Try.f4 (apP w0)) .normal aa w := by
  obtain ⟨b0, b1, rfl⟩ : ∃ b0 b1, bs = [b0, b1] := by
    match bs, hbs with
    | [b0, b1], _ => exact ⟨b0, b1, rfl⟩
  have hm := Qbe R.z.l i e00 (by omega)
  have hok := (hze _ hm).1
  have h5 := hw5 _ hm
  refine Qap (c := ⟨(.rnd (q + 1) (Qa_ (QgO m n)) :: (QgO m n).k.tail), r6S R k i j v u⟩) 51 50 3 S fun bs aa w S => ?_
  refine QbI (b := R.z.b) (off := R.z.o) (len := R.z.l.length) (n := i) (size := 2) (i := (i : Int)) S (by rw [← hza.resolve_left (by omega)]; kernel_rfl) rfl (by omega) fun aa S => ?_
  refine Qad 1 S fun bs aa w S => ?_
  refine Qbf S (Qa6 (ty := 58) (b := R.z.b) (off := R.z.o + i * 2 + 1) (by kernel_rfl) (((S.fact (f := QaL R.z.b R.z.o R.z.l) (by simp)) i (by omega)).2)) (by kernel_rfl) fun aa S => ?_
  refine Qad 2 S fun bs aa w S => ?_
  refine Qab 205 S (decide_eq_true (by omega) : decide ((j : Int) < ((R.z.l.getD i e00).ws.length : Int)) = true) fun S => ?_
  refine Qap 53 60 2 S fun bs aa w S => ?_
  refine QbI (b := R.z.b) (off := R.z.o) (len := R.z.l.length) (n := i) (size := 2) (i := (i : Int)) S (by rw [← hza.resolve_left (by omega)]; kernel_rfl) rfl (by omega) fun aa S => ?_
  refine Qad 1 S fun bs aa w S => ?_
  refine Qbf S (Qa6 (ty := 58) (b := R.z.b) (off := R.z.o + i * 2 + 1) (by kernel_rfl) (((S.fact (f := QaL R.z.b R.z.o R.z.l) (by simp)) i (by omega)).2)) (by kernel_rfl) fun aa S => ?_
  refine Qad 1 S fun bs aa w S => ?_
  refine QbI (b := (R.z.l.getD i e00).b) (off := (R.z.l.getD i e00).o) (len := (R.z.l.getD i e00).ws.length) (n := j) (size := 2) (i := (j : Int)) S (by rw [← hok.resolve_left (by omega)]; kernel_rfl) rfl (by omega) fun aa S => ?_
  refine Qad 1 S fun bs aa w S => ?_
  refine Qbf S (Qa6 (ty := 3) (b := (R.z.l.getD i e00).b) (off := (R.z.l.getD i e00).o + j * 2 + 0) (by kernel_rfl) ((((S.fact (f := Qay R.z.l) (by simp)) _ hm) j (by omega)).1)) (by kernel_rfl) fun aa S => ?_
  refine Qad 2 S fun bs aa w S => ?_
  by_cases hk : ((R.z.l.getD i e00).ws.getD j (0, 0)).1 = (k : Int)
  · refine Qab 218 S (decide_eq_true hk : decide (((R.z.l.getD i e00).ws.getD j (0, 0)).1 = (k : Int)) = true) fun S => ?_
    refine Qap 54 60 2 S fun bs aa w S => ?_
    refine QbI (b := R.z.b) (off := R.z.o) (len := R.z.l.length) (n := i) (size := 2) (i := (i : Int)) S (by rw [← hza.resolve_left (by omega)]; kernel_rfl) rfl (by omega) fun aa S => ?_
    refine Qad 1 S fun bs aa w S => ?_
    refine Qbf S (Qa6 (ty := 58) (b := R.z.b) (off := R.z.o + i * 2 + 1) (by kernel_rfl) (((S.fact (f := QaL R.z.b R.z.o R.z.l) (by simp)) i (by omega)).2)) (by kernel_rfl) fun aa S => ?_
    refine Qad 1 S fun bs aa w S => ?_
    refine QbI (b := (R.z.l.getD i e00).b) (off := (R.z.l.getD i e00).o) (len := (R.z.l.getD i e00).ws.length) (n := j) (size := 2) (i := (j : Int)) S (by rw [← hok.resolve_left (by omega)]; kernel_rfl) rfl (by omega) fun aa S => ?_
    refine Qad 1 S fun bs aa w S => ?_
    refine Qbf S (Qa6 (ty := 3) (b := (R.z.l.getD i e00).b) (off := (R.z.l.getD i e00).o + j * 2 + 1) (by kernel_rfl) ((((S.fact (f := Qay R.z.l) (by simp)) _ hm) j (by omega)).2)) (by kernel_rfl) fun aa S => ?_
    refine Qap 55 60 2 S fun bs aa w S => ?_
    refine QbI (b := R.z.b) (off := R.z.o) (len := R.z.l.length) (n := i) (size := 2) (i := (i : Int)) S (by rw [← hza.resolve_left (by omega)]; kernel_rfl) rfl (by omega) fun aa S => ?_
    refine Qad 1 S fun bs aa w S => ?_
    refine Qbf S (Qa6 (ty := 3) (b := R.z.b) (off := R.z.o + i * 2 + 0) (by kernel_rfl) (((S.fact (f := QaL R.z.b R.z.o R.z.l) (by simp)) i (by omega)).1)) (by kernel_rfl) fun aa S => ?_
    refine Qap 52 60 2 S fun bs aa w S => ?_
    refine QaB 207 S (by rw [IntKind.wrap_i64]; omega : IntKind.i64.wrap ((j : Int) + 1) = ((j + 1 : Nat) : Int)) fun S => ?_
    refine Qaj ⟨0, [999]⟩ 50 S fun bs aa w S => ?_
    have S := S.sub (F' := [Qax R.gm 0 Z, Qax R.gf 0 zn5, QaL R.z.b R.z.o R.z.l, Qay R.z.l]) (by intro f hf; simp only [List.mem_cons, List.not_mem_nil, or_false] at hf; rcases hf with rfl | rfl | rfl | rfl <;> simp)
    have S2 := S.to [0, 1] (r6S R k i (j + 1) ((R.z.l.getD i e00).ws.getD j (0, 0)).2 (R.z.l.getD i e00).ver) (by kernel_rfl) (by kernel_rfl) (by kernel_rfl) (by kernel_rfl) (by kernel_rfl)
    refine Qag (k' := (.rnd (q) (Qa_ (QgO m n)) :: (QgO m n).k.tail)) (by kernel_rfl) ?_
    exact ih _ _ (by rw [if_pos hk]) _ rfl aa w S2
  · refine Qab 218 S (decide_eq_false hk : decide (((R.z.l.getD i e00).ws.getD j (0, 0)).1 = (k : Int)) = false) fun S => ?_
    refine Qap 52 60 2 S fun bs aa w S => ?_
    refine QaB 207 S (by rw [IntKind.wrap_i64]; omega : IntKind.i64.wrap ((j : Int) + 1) = ((j + 1 : Nat) : Int)) fun S => ?_
    refine Qaj ⟨0, [999]⟩ 50 S fun bs aa w S => ?_
    have S := S.sub (F' := [Qax R.gm 0 Z, Qax R.gf 0 zn5, QaL R.z.b R.z.o R.z.l, Qay R.z.l]) (by intro f hf; simp only [List.mem_cons, List.not_mem_nil, or_false] at hf; rcases hf with rfl | rfl | rfl | rfl <;> simp)
    have S2 := S.to [0, 1] (r6S R k i (j + 1) v u) (by kernel_rfl) (by kernel_rfl) (by kernel_rfl) (by kernel_rfl) (by kernel_rfl)
    refine Qag (k' := (.rnd (q) (Qa_ (QgO m n)) :: (QgO m n).k.tail)) (by kernel_rfl) ?_
    exact ih _ _ (by rw [if_neg hk]) _ rfl aa w S2
theorem r6_e (m n k i : Nat) (hi : i < R.z.l.length) (q j : Nat) (hj : j = (R.z.l.getD i e00).ws.length) (v u : Int) (ih : ∀ (bs : List Nat) (hbs : bs.length = 2) (aa : Act) (w : World) (S : Sy w0 [] bs (r5S R k (i + 1) v u) [Qax R.gm 0 Z, Qax R.gf 0 zn5, QaL R.z.b R.z.o R.z.l, Qay R.z.l] aa w), post Try.prog (.rnd (n) (Qa_ (QeX m)) :: (QeX m).k.tail) (bodyPost Try.prog Try.f4 (apP w0)) .normal aa w) (bs : List Nat) (hbs : bs.length = 2) (aa : Act) (w : World) (S : Sy w0 [] bs (r6S R k i j v u) [Qax R.gm 0 Z, Qax R.gf 0 zn5, QaL R.z.b R.z.o R.z.l, Qay R.z.l] aa w) : post Try.prog (.rnd (q + 1) (Qa_ (QgO m n)) :: (QgO m n).k.tail) (bodyPost Try.prog Try.f4 (apP w0)) .normal aa w := by
  obtain ⟨b0, b1, rfl⟩ : ∃ b0 b1, bs = [b0, b1] := by
    match bs, hbs with
    | [b0, b1], _ => exact ⟨b0, b1, rfl⟩
  have hm := Qbe R.z.l i e00 (by omega)
  have hok := (hze _ hm).1
  have h5 := hw5 _ hm
  refine Qap (c := ⟨(.rnd (q + 1) (Qa_ (QgO m n)) :: (QgO m n).k.tail), r6S R k i j v u⟩) 51 50 3 S fun bs aa w S => ?_
  refine QbI (b := R.z.b) (off := R.z.o) (len := R.z.l.length) (n := i) (size := 2) (i := (i : Int)) S (by rw [← hza.resolve_left (by omega)]; kernel_rfl) rfl (by omega) fun aa S => ?_
  refine Qad 1 S fun bs aa w S => ?_
  refine Qbf S (Qa6 (ty := 58) (b := R.z.b) (off := R.z.o + i * 2 + 1) (by kernel_rfl) (((S.fact (f := QaL R.z.b R.z.o R.z.l) (by simp)) i (by omega)).2)) (by kernel_rfl) fun aa S => ?_
  refine Qad 2 S fun bs aa w S => ?_
  refine Qab 205 S (decide_eq_false (by omega) : decide ((j : Int) < ((R.z.l.getD i e00).ws.length : Int)) = false) fun S => ?_
  refine Qap 49 60 2 S fun bs aa w S => ?_
  refine QaB 197 S (by rw [IntKind.wrap_i64]; omega : IntKind.i64.wrap ((i : Int) + 1) = ((i + 1 : Nat) : Int)) fun S => ?_
  refine Qaj ⟨0, [999]⟩ 50 S fun bs aa w S => ?_
  have S := S.sub (F' := [Qax R.gm 0 Z, Qax R.gf 0 zn5, QaL R.z.b R.z.o R.z.l, Qay R.z.l]) (by intro f hf; simp only [List.mem_cons, List.not_mem_nil, or_false] at hf; rcases hf with rfl | rfl | rfl | rfl <;> simp)
  have S2 := S.to [0, 1] (r5S R k (i + 1) v u) (by kernel_rfl) (by kernel_rfl) (by kernel_rfl) (by kernel_rfl) (by kernel_rfl)
  refine Qag (k' := (.rnd (n) (Qa_ (QeX m)) :: (QeX m).k.tail)) (by kernel_rfl) ?_
  exact ih _ rfl aa w S2
theorem r6_a (m n k i : Nat) (hi : i < R.z.l.length) (p0 : Int × Int) (ih : ∀ (v u : Int) (hv : (v, u) = scW (k : Int) (R.z.l.getD i e00).ver (R.z.l.getD i e00).ws p0) (bs : List Nat) (hbs : bs.length = 2) (aa : Act) (w : World) (S : Sy w0 [] bs (r5S R k (i + 1) v u) [Qax R.gm 0 Z, Qax R.gf 0 zn5, QaL R.z.b R.z.o R.z.l, Qay R.z.l] aa w), post Try.prog (.rnd (n) (Qa_ (QeX m)) :: (QeX m).k.tail) (bodyPost Try.prog Try.f4 (apP w0)) .normal aa w) : ∀ (q j : Nat), j + q = (R.z.l.getD i e00).ws.length → ∀ (v u : Int) (hv : (v, u) = scW (k : Int) (R.z.l.getD i e00).ver ((R.z.l.getD i e00).ws.take j) p0) (bs : List Nat) (hbs : bs.length = 2) (aa : Act) (w : World) (S : Sy w0 [] bs (r6S R k i j v u) [Qax R.gm 0 Z, Qax R.gf 0 zn5, QaL R.z.b R.z.o R.z.l, Qay R.z.l] aa w), post Try.prog (.rnd (q + 1) (Qa_ (QgO m n)) :: (QgO m n).k.tail) (bodyPost Try.prog Try.f4 (apP w0)) .normal aa w := by
  intro q
  induction q with
  | zero =>
    intro j hj v u hv bs hbs aa w S
    obtain rfl : j = (R.z.l.getD i e00).ws.length := by omega
    rw [List.take_length] at hv
    exact r6_e w0 R hza hze hz8 hw5 Z m n k i hi 0 _ rfl v u (fun bs hbs aa w S => ih v u hv bs hbs aa w S) bs hbs aa w S
  | succ q ihq =>
    intro j hj v u hv bs hbs aa w S
    exact r6_s w0 R hza hze hz8 hw5 Z m n k i hi (q + 1) j (by omega) v u (fun v2 u2 h2 bs hbs aa w S => ihq (j + 1) (by omega) v2 u2 (by rw [scW_take (by omega), ← hv]; exact h2) bs hbs aa w S) bs hbs aa w S
theorem r5_s (hy : R.y.l.length ≤ R.z.l.length) (m n k i : Nat) (hi : i < R.y.l.length) (v u : Int) (ih : ∀ (v2 u2 : Int) (h2 : (v2, u2) = scW (k : Int) (R.z.l.getD i e00).ver (R.z.l.getD i e00).ws (v, u)) (bs : List Nat) (hbs : bs.length = 2) (aa : Act) (w : World) (S : Sy w0 [] bs (r5S R k (i + 1) v2 u2) [Qax R.gm 0 Z, Qax R.gf 0 zn5, QaL R.z.b R.z.o R.z.l, Qay R.z.l] aa w), post Try.prog (.rnd (n) (Qa_ (QeX m)) :: (QeX m).k.tail) (bodyPost Try.prog Try.f4 (apP w0)) .normal aa w) (bs : List Nat) (hbs : bs.length = 2) (aa : Act) (w : World) (S : Sy w0 [] bs (r5S R k i v u) [Qax R.gm 0 Z, Qax R.gf 0 zn5, QaL R.z.b R.z.o R.z.l, Qay R.z.l] aa w) : post Try.prog (.rnd (n + 1) (Qa_ (QeX m)) :: (QeX m).k.tail) (bodyPost Try.prog Try.f4 (apP w0)) .normal aa w := by
  obtain ⟨b0, b1, rfl⟩ : ∃ b0 b1, bs = [b0, b1] := by
    match bs, hbs with
    | [b0, b1], _ => exact ⟨b0, b1, rfl⟩
  refine Qap (c := ⟨(.rnd (n + 1) (Qa_ (QeX m)) :: (QeX m).k.tail), r5S R k i v u⟩) 48 50 4 S fun bs aa w S => ?_
  refine Qab 195 S (decide_eq_true (by omega) : decide ((i : Int) < (R.y.l.length : Int)) = true) fun S => ?_
  refine Qah S fun bs aa w S => ?_
  have S := S.sub (F' := [Qax R.gm 0 Z, Qax R.gf 0 zn5, QaL R.z.b R.z.o R.z.l, Qay R.z.l]) (by intro f hf; simp only [List.mem_cons, List.not_mem_nil, or_false] at hf; rcases hf with rfl | rfl | rfl | rfl <;> simp)
  have S2 := S.to [0, 1] (r6S R k i 0 v u) (by kernel_rfl) (by kernel_rfl) (by kernel_rfl) (by kernel_rfl) (by kernel_rfl)
  refine QaR ((R.z.l.getD i e00).ws.length + 1) (by kernel_rfl) ?_
  refine Qag (k' := (.rnd ((R.z.l.getD i e00).ws.length + 1) (Qa_ (QgO m n)) :: (QgO m n).k.tail)) (by kernel_rfl) ?_
  exact r6_a w0 R hza hze hz8 hw5 Z m n k i (by omega) (v, u) ih (R.z.l.getD i e00).ws.length 0 (by omega) v u rfl _ rfl aa w S2
end
section
variable (w0 : World) (R : Rq) (l : List Nat) (hl8 : l.length ≤ 8) (h256 : ∀ b ∈ l, b < 256) (hz : R.z.l.map prE = Qa3 l l.length) (hza : R.z.l.length = 0 ∨ R.z.a = some ⟨R.z.b, R.z.o, none⟩) (hze : ∀ e ∈ R.z.l, e.ok ∧ QcD e.ver e.ws) (hz8 : R.z.l.length ≤ 8) (hw5 : ∀ e ∈ R.z.l, e.ws.length ≤ 5) (Z : List Int) (hy : R.y.l.length ≤ l.length) (hZl : Z.length = 28)
include w0 R l hl8 h256 hz hza hze hz8 hw5 Z hy hZl
theorem r5_e (m k : Nat) (hk : k < 5) (v u : Int) (hv : Z.getD (8 + 4 * k + 1) 0 = v) (hu : Z.getD (8 + 4 * k + 0) 0 = 2 * u) (hub : 0 ≤ u ∧ u ≤ 100) (ih : ∀ (bs : List Nat) (hbs : bs.length = 2) (aa : Act) (w : World) (S : Sy w0 [] bs (r4S R (k + 1)) [Qax R.gm 0 Z, Qax R.gf 0 zn5, QaL R.z.b R.z.o R.z.l, Qay R.z.l] aa w), post Try.prog (.rnd (m) (Qa_ sq4C) :: sq4C.k.tail) (bodyPost Try.prog Try.f4 (apP w0)) .normal aa w) (n : Nat) (bs : List Nat) (hbs : bs.length = 2) (aa : Act) (w : World) (S : Sy w0 [] bs (r5S R k R.y.l.length v u) [Qax R.gm 0 Z, Qax R.gf 0 zn5, QaL R.z.b R.z.o R.z.l, Qay R.z.l] aa w) : post Try.prog (.rnd (n + 1) (Qa_ (QeX m)) :: (QeX m).k.tail) (bodyPost Try.prog Try.f4 (apP w0)) .normal aa w := by
  obtain ⟨b0, b1, rfl⟩ : ∃ b0 b1, bs = [b0, b1] := by
    match bs, hbs with
    | [b0, b1], _ => exact ⟨b0, b1, rfl⟩
  refine Qap (c := ⟨(.rnd (n + 1) (Qa_ (QeX m)) :: (QeX m).k.tail), r5S R k R.y.l.length v u⟩) 48 50 4 S fun bs aa w S => ?_
  refine Qab 195 S (decide_eq_false (by omega) : decide ((R.y.l.length : Int) < (R.y.l.length : Int)) = false) fun S => ?_
  refine Qah S fun bs aa w S => ?_
  have v1 : ∀ w, Calls Try.prog 26 #[.agg lyA.toArray, .int .i64 (k : Int)] w fun e w' => e = .returned (.int .i64 ((8 + 4 * k + 1 : Nat) : Int)) ∧ Below w.heap.size w w' := fun w => by
    have h := rval_t (k : Int) (by omega) (by omega) w
    rw [show (8 : Int) + 4 * (k : Int) + 1 = ((8 + 4 * k + 1 : Nat) : Int) by omega] at h
    exact h
  have v2 : ∀ w, Calls Try.prog 27 #[.agg lyA.toArray, .int .i64 (k : Int)] w fun e w' => e = .returned (.int .i64 ((8 + 4 * k + 0 : Nat) : Int)) ∧ Below w.heap.size w w' := fun w => by
    have h := rword_t (k : Int) (by omega) (by omega) w
    rw [show (8 : Int) + 4 * (k : Int) + 0 = ((8 + 4 * k + 0 : Nat) : Int) by omega] at h
    exact h
  letI : KP := ⟨[239]⟩
  refine QaF [0, 1] (by kernel_rfl) (by kernel_rfl) S (by kernel_rfl) (fun aa w D => ?_)
  refine Qdw 3 D (by kernel_rfl) (by kernel_rfl) (by kernel_rfl) (v1 w) (by kernel_rfl) fun aa w hb D => ?_
  refine Qdw 4 D (by kernel_rfl) (by kernel_rfl) (by kernel_rfl) (Qjs w R.gm R.cm Z 28 (8 + 4 * k + 1) hZl (by omega) (D.S.fact (f := Qax R.gm 0 Z) (by simp))) (by kernel_rfl) fun aa w hb D => ?_
  refine Qbj (fun d v c a w h => by cases d <;> exact h) 6 (op := .binOp .neq 3 (.tmp 237) (.tmp 238) 3) (ty := 4) (v := .bool false) D (by kernel_rfl) (by kernel_rfl) (by kernel_rfl) (by kernel_rfl) (ex_neI (ki := .i64) (p := Z.getD (8 + 4 * k + 1) 0) (q := v) (by kernel_rfl) (by kernel_rfl) (by rw [decide_eq_true hv]; rfl)) fun aa D => ?_
  refine Qdw 11 D (by kernel_rfl) (by kernel_rfl) (by kernel_rfl) (v2 w) (by kernel_rfl) fun aa w hb D => ?_
  refine Qdw 12 D (by kernel_rfl) (by kernel_rfl) (by kernel_rfl) (Qjs w R.gm R.cm Z 28 (8 + 4 * k + 0) hZl (by omega) (D.S.fact (f := Qax R.gm 0 Z) (by simp))) (by kernel_rfl) fun aa w hb D => ?_
  refine QaM D (by kernel_rfl) fun S => ?_
  refine Qab 249 S (by rw [decide_eq_true (by rw [IntKind.wrap_i64, hu]; omega)]; rfl : (!decide (Z.getD (8 + 4 * k + 0) 0 = IntKind.i64.wrap (2 * u))) = false) fun S => ?_
  refine Qap 44 60 2 S fun bs aa w S => ?_
  refine QaB 187 S (by rw [IntKind.wrap_i64]; omega : IntKind.i64.wrap ((k : Int) + 1) = ((k + 1 : Nat) : Int)) fun S => ?_
  refine Qaj ⟨0, [999]⟩ 50 S fun bs aa w S => ?_
  have S := S.sub (F' := [Qax R.gm 0 Z, Qax R.gf 0 zn5, QaL R.z.b R.z.o R.z.l, Qay R.z.l]) (by intro f hf; simp only [List.mem_cons, List.not_mem_nil, or_false] at hf; rcases hf with rfl | rfl | rfl | rfl <;> simp)
  have S2 := S.to [0, 1] (r4S R (k + 1)) (by kernel_rfl) (by kernel_rfl) (by kernel_rfl) (by kernel_rfl) (by kernel_rfl)
  refine Qag (k' := (.rnd (m) (Qa_ sq4C) :: sq4C.k.tail)) (by kernel_rfl) ?_
  exact ih _ rfl aa w S2
theorem r5_a (m k : Nat) (hk : k < 5) (h1 : Z.getD (8 + 4 * k + 1) 0 = (scE (k : Int) (Qa3 l R.y.l.length) (zn5.getD k 0, 0)).1) (h2 : Z.getD (8 + 4 * k + 0) 0 = 2 * (scE (k : Int) (Qa3 l R.y.l.length) (zn5.getD k 0, 0)).2) (ih : ∀ (bs : List Nat) (hbs : bs.length = 2) (aa : Act) (w : World) (S : Sy w0 [] bs (r4S R (k + 1)) [Qax R.gm 0 Z, Qax R.gf 0 zn5, QaL R.z.b R.z.o R.z.l, Qay R.z.l] aa w), post Try.prog (.rnd (m) (Qa_ sq4C) :: sq4C.k.tail) (bodyPost Try.prog Try.f4 (apP w0)) .normal aa w) : ∀ (n i : Nat), i + n = R.y.l.length → ∀ (v u : Int) (hv : (v, u) = scE (k : Int) (Qa3 l i) (zn5.getD k 0, 0)) (bs : List Nat) (hbs : bs.length = 2) (aa : Act) (w : World) (S : Sy w0 [] bs (r5S R k i v u) [Qax R.gm 0 Z, Qax R.gf 0 zn5, QaL R.z.b R.z.o R.z.l, Qay R.z.l] aa w), post Try.prog (.rnd (n + 1) (Qa_ (QeX m)) :: (QeX m).k.tail) (bodyPost Try.prog Try.f4 (apP w0)) .normal aa w := by
  have hzl : R.z.l.length = l.length := by have := congrArg List.length hz; rwa [List.length_map, Qbp] at this
  intro n
  induction n with
  | zero =>
    intro i hi v u hv bs hbs aa w S
    obtain rfl : i = R.y.l.length := by omega
    have hb := QhO h256 (k : Int) (zn5.getD k 0) R.y.l.length hy (by omega)
    rw [← hv] at h1 h2 hb
    exact r5_e w0 R l hl8 h256 hz hza hze hz8 hw5 Z hy hZl m k hk v u h1 h2 hb ih 0 bs hbs aa w S
  | succ n ihn =>
    intro i hi v u hv bs hbs aa w S
    refine r5_s w0 R hza hze hz8 hw5 Z (by omega) m (n + 1) k i (by omega) v u (fun v2 u2 q2 bs hbs aa w S => ihn (i + 1) (by omega) v2 u2 ?_ bs hbs aa w S) bs hbs aa w S
    obtain ⟨p1, p2⟩ := ent_at hz (show i < l.length by omega)
    rw [Qgh, ← hv, q2, show (R.z.l.getD i e00).ver = (QcP i (l.getD i 0)).1 from congrArg Prod.fst p1, show (R.z.l.getD i e00).ws = (QcP i (l.getD i 0)).2 from congrArg Prod.snd p1]
section
variable (hZ : ∀ i, i < 28 → Z.getD i 0 = bC 8 R.clk (R.en : Int) (vvB (Qa3 l R.y.l.length) zn5) (wwB (Qa3 l R.y.l.length)) i)
include hZ
theorem r4_s (m k : Nat) (hk : k < 5) (ih : ∀ (bs : List Nat) (hbs : bs.length = 2) (aa : Act) (w : World) (S : Sy w0 [] bs (r4S R (k + 1)) [Qax R.gm 0 Z, Qax R.gf 0 zn5, QaL R.z.b R.z.o R.z.l, Qay R.z.l] aa w), post Try.prog (.rnd (m) (Qa_ sq4C) :: sq4C.k.tail) (bodyPost Try.prog Try.f4 (apP w0)) .normal aa w) (bs : List Nat) (hbs : bs.length = 2) (aa : Act) (w : World) (S : Sy w0 [] bs (r4S R k) [Qax R.gm 0 Z, Qax R.gf 0 zn5, QaL R.z.b R.z.o R.z.l, Qay R.z.l] aa w) : post Try.prog (.rnd (m + 1) (Qa_ sq4C) :: sq4C.k.tail) (bodyPost Try.prog Try.f4 (apP w0)) .normal aa w := by
  obtain ⟨b0, b1, rfl⟩ : ∃ b0 b1, bs = [b0, b1] := by
    match bs, hbs with
    | [b0, b1], _ => exact ⟨b0, b1, rfl⟩
  refine Qap (c := ⟨(.rnd (m + 1) (Qa_ sq4C) :: sq4C.k.tail), r4S R k⟩) 43 50 2 S fun bs aa w S => ?_
  refine Qab 185 S (decide_eq_true (by omega) : decide ((k : Int) < 5) = true) fun S => ?_
  refine Qap 45 60 2 S fun bs aa w S => ?_
  refine QbI (b := R.gf) (off := 0) (len := 5) (n := k) (size := 1) (i := (k : Int)) S (by kernel_rfl) rfl hk fun aa S => ?_
  refine Qbf S (Qa6 (ty := 3) (b := R.gf) (off := 0 + k * 1) (by kernel_rfl) (by rw [Nat.mul_one]; exact S.fact (f := Qax R.gf 0 zn5) (by simp) k hk)) (by kernel_rfl) fun aa S => ?_
  refine Qah S fun bs aa w S => ?_
  have S := S.sub (F' := [Qax R.gm 0 Z, Qax R.gf 0 zn5, QaL R.z.b R.z.o R.z.l, Qay R.z.l]) (by intro f hf; simp only [List.mem_cons, List.not_mem_nil, or_false] at hf; rcases hf with rfl | rfl | rfl | rfl <;> simp)
  have S2 := S.to [0, 1] (r5S R k 0 (zn5.getD k 0) 0) (by kernel_rfl) (by kernel_rfl) (by kernel_rfl) (by kernel_rfl) (by kernel_rfl)
  refine QaR (R.y.l.length + 1) (by kernel_rfl) ?_
  refine Qag (k' := (.rnd (R.y.l.length + 1) (Qa_ (QeX m)) :: (QeX m).k.tail)) (by kernel_rfl) ?_
  refine r5_a w0 R l hl8 h256 hz hza hze hz8 hw5 Z hy hZl m k hk ?_ ?_ ih R.y.l.length 0 (by omega) (zn5.getD k 0) 0 rfl _ rfl aa w S2
  · rw [hZ _ (by omega)]
    unfold bC
    rw [if_neg (by omega), if_neg (by omega), if_neg (by omega), if_neg (by omega), if_pos (by omega), show (8 + 4 * k + 1 - 8) / 4 = k by omega]
    exact vv_sc l R.y.l.length k zn5
  · rw [hZ _ (by omega)]
    unfold bC
    rw [if_neg (by omega), if_neg (by omega), if_neg (by omega), if_neg (by omega), if_neg (by omega), if_pos (by omega), show (8 + 4 * k + 0 - 8) / 4 = k by omega]
    exact ww_sc h256 R.y.l.length k hy (by omega) _
theorem r4_e (m : Nat) (bs : List Nat) (hbs : bs.length = 2) (aa : Act) (w : World) (S : Sy w0 [] bs (r4S R 5) [Qax R.gm 0 Z, Qax R.gf 0 zn5, QaL R.z.b R.z.o R.z.l, Qay R.z.l] aa w) : post Try.prog (.rnd (m + 1) (Qa_ sq4C) :: sq4C.k.tail) (bodyPost Try.prog Try.f4 (apP w0)) .normal aa w := by
  obtain ⟨b0, b1, rfl⟩ : ∃ b0 b1, bs = [b0, b1] := by
    match bs, hbs with
    | [b0, b1], _ => exact ⟨b0, b1, rfl⟩
  have z0 : Z.getD 0 0 = R.clk := by rw [hZ _ (by omega)]; rfl
  have z3 : Z.getD 3 0 = (R.en : Int) := by rw [hZ _ (by omega)]; rfl
  refine Qap (c := ⟨(.rnd (m + 1) (Qa_ sq4C) :: sq4C.k.tail), r4S R 5⟩) 43 50 2 S fun bs aa w S => ?_
  refine Qab 185 S (decide_eq_false (by omega) : decide (((5 : Nat) : Int) < 5) = false) fun S => ?_
  refine Qap 58 60 5 S fun bs aa w S => ?_
  refine QaJ S (Qjs w R.gm R.cm Z 28 0 hZl (by omega) (S.fact (f := Qax R.gm 0 Z) (by simp))) (by kernel_rfl) fun aa w hb S => ?_
  refine Qad 2 S fun bs aa w S => ?_
  refine Qab 257 S (decide_eq_true z0 : decide (Z.getD 0 0 = R.clk) = true) fun S => ?_
  refine Qad 5 S fun bs aa w S => ?_
  refine QaJ S (Qjs w R.gm R.cm Z 28 3 hZl (by omega) (S.fact (f := Qax R.gm 0 Z) (by simp))) (by kernel_rfl) fun aa w hb S => ?_
  refine Qad 2 S fun bs aa w S => ?_
  refine Qab 265 S (decide_eq_true z3 : decide (Z.getD 3 0 = (R.en : Int)) = true) fun S => ?_
  refine Qah S fun bs aa w S => ?_
  exact Qan S (by kernel_rfl) (by kernel_rfl) fun hg => ⟨rfl, Qaq hg⟩
theorem r4_a : ∀ (m k : Nat), k + m = 5 → ∀ (bs : List Nat) (hbs : bs.length = 2) (aa : Act) (w : World) (S : Sy w0 [] bs (r4S R k) [Qax R.gm 0 Z, Qax R.gf 0 zn5, QaL R.z.b R.z.o R.z.l, Qay R.z.l] aa w), post Try.prog (.rnd (m + 1) (Qa_ sq4C) :: sq4C.k.tail) (bodyPost Try.prog Try.f4 (apP w0)) .normal aa w := by
  intro m
  induction m with
  | zero =>
    intro k hk bs hbs aa w S
    obtain rfl : k = 5 := by omega
    exact r4_e w0 R l hl8 h256 hz hza hze hz8 hw5 Z hy hZl hZ 0 bs hbs aa w S
  | succ m ih =>
    intro k hk bs hbs aa w S
    exact r4_s w0 R l hl8 h256 hz hza hze hz8 hw5 Z hy hZl hZ (m + 1) k (by omega) (fun bs hbs aa w S => ih (k + 1) (by omega) bs hbs aa w S) bs hbs aa w S
end
end
theorem ent_n {l : List Nat} {z : Er} {n : Nat} (hz : z.l.map prE = Qa3 l n) {i : Nat} (hi : i < n) : prE (z.l.getD i e00) = QcP i (l.getD i 0) ∧ z.l.getD i e00 ∈ z.l := by
  have hn : z.l.length = n := by have := congrArg List.length hz; rwa [List.length_map, Qbp] at this
  have h1 : z.l.getD i e00 = z.l[i] := by simp [List.getD, List.getElem?_eq_getElem (show i < z.l.length by omega)]
  refine ⟨?_, by rw [h1]; exact List.getElem_mem _⟩
  have h2 := congrArg (fun q => q[i]?) hz
  simp only [List.getElem?_map, Qa3, List.getElem?_range hi, List.getElem?_eq_getElem (show i < z.l.length by omega), Option.map_some, Option.some.injEq] at h2
  rw [h1, h2]
noncomputable def sqcC : Cfg := ⟨goZ 900 [0, 9, 0] [.code (QaW Try.f4)], ⟨0, [], []⟩⟩
noncomputable def r3T (R : Rq) (dn : Nat) : List (Nat × SV) := [(7, .v (.bool true)), (8, .p 0 0), (10, .v R.z.v), (16, .v (.int .i64 (dn : Int))), (17, .v (.int .i64 (R.en : Int))), (25, .v (.slice (some ⟨R.gf, 0, none⟩) 5 5)), (26, .p 1 0), (27, .v R.y.v)]
noncomputable def r31S (R : Rq) (dn : Nat) : SS := ⟨267, r3T R dn, r4B R⟩
noncomputable def r3S (R : Rq) (dn : Nat) (c : Int) (i : Nat) : SS := ⟨267, r3T R dn ++ [(28, .v (.int .i64 c)), (29, .v (.int .i64 (i : Int)))], r4B R⟩
noncomputable def r31K : List It := goM 100 2 [] sq1C.k.tail
def Rq.fin (R : Rq) (en : Nat) (clk : Int) : Rq := ⟨R.z, R.y, R.gf, R.gm, R.cm, en, clk⟩
section
variable (w0 : World) (R : Rq) (l : List Nat) (hl8 : l.length ≤ 8) (h256 : ∀ b ∈ l, b < 256) (hz : R.z.l.map prE = Qa3 l l.length) (hza : R.z.l.length = 0 ∨ R.z.a = some ⟨R.z.b, R.z.o, none⟩) (hze : ∀ e ∈ R.z.l, e.ok ∧ QcD e.ver e.ws) (hz8 : R.z.l.length ≤ 8) (hw5 : ∀ e ∈ R.z.l, e.ws.length ≤ 5) (Z : List Int) (hy : R.y.l.length ≤ l.length) (hZl : Z.length = 28) (hys : R.y.l.map prE = Qa3 l R.y.l.length) (hya : R.y.l.length = 0 ∨ R.y.a = some ⟨R.y.b, R.y.o, none⟩) (hye : ∀ e ∈ R.y.l, e.ok) (dn : Nat) (hd1 : dn ≤ R.y.l.length) (hd2 : R.y.l.length ≤ dn + 1) (hen : R.en = atI l dn)
include w0 R l hl8 h256 hz hza hze hz8 hw5 Z hy hZl hys hya hye dn hd1 hd2 hen
theorem r3_s (m i : Nat) (hi : i < R.y.l.length) (c : Int) (ih : ∀ (bs : List Nat) (hbs : bs.length = 2) (aa : Act) (w : World) (S : Sy w0 [] bs (r3S R dn (R.z.l.getD i e00).ver (i + 1)) [Qax R.gm 0 Z, Qax R.gf 0 zn5, QaL R.z.b R.z.o R.z.l, Qay R.z.l, QaL R.y.b R.y.o R.y.l, Qay R.y.l] aa w), post Try.prog (.rnd (m) (Qa_ sqcC) :: sqcC.k.tail) (bodyPost Try.prog Try.f4 (apP w0)) .normal aa w) (bs : List Nat) (hbs : bs.length = 2) (aa : Act) (w : World) (S : Sy w0 [] bs (r3S R dn c i) [Qax R.gm 0 Z, Qax R.gf 0 zn5, QaL R.z.b R.z.o R.z.l, Qay R.z.l, QaL R.y.b R.y.o R.y.l, Qay R.y.l] aa w) : post Try.prog (.rnd (m + 1) (Qa_ sqcC) :: sqcC.k.tail) (bodyPost Try.prog Try.f4 (apP w0)) .normal aa w := by
  obtain ⟨b0, b1, rfl⟩ : ∃ b0 b1, bs = [b0, b1] := by
    match bs, hbs with
    | [b0, b1], _ => exact ⟨b0, b1, rfl⟩
  have hzl : R.z.l.length = l.length := by have := congrArg List.length hz; rwa [List.length_map, Qbp] at this
  obtain ⟨p1, p2⟩ := ent_n hz (show i < l.length by omega)
  obtain ⟨y1, y2⟩ := ent_n hys hi
  have ey := y1.trans p1.symm
  have e1 : (R.y.l.getD i e00).ver = (R.z.l.getD i e00).ver := congrArg Prod.fst ey
  have e2 : (R.y.l.getD i e00).ws = (R.z.l.getD i e00).ws := congrArg Prod.snd ey
  have h5 := hw5 _ p2
  refine Qap (c := ⟨(.rnd (m + 1) (Qa_ sqcC) :: sqcC.k.tail), r3S R dn c i⟩) 35 50 4 S fun bs aa w S => ?_
  refine Qab 154 S (decide_eq_true (by omega) : decide ((i : Int) < (R.y.l.length : Int)) = true) fun S => ?_
  refine Qah S fun bs aa w S => ?_
  letI : HF := ⟨[QaL R.y.b R.y.o R.y.l, QaL R.z.b R.z.o R.z.l]⟩
  refine QaF [] (by kernel_rfl) (by kernel_rfl) S (by kernel_rfl) (fun aa w D => ?_) (fun f hf => by have hf2 : f ∈ [QaL R.y.b R.y.o R.y.l, QaL R.z.b R.z.o R.z.l] := hf; simp only [List.mem_cons, List.not_mem_nil, or_false] at hf2; rcases hf2 with rfl | rfl <;> simp)
  refine QaZ 2 D (by kernel_rfl) (by kernel_rfl) (by kernel_rfl) (b := R.y.b) (off := R.y.o) (len := R.y.l.length) (n := i) (size := 2) (ix := (i : Int)) (by rw [← hya.resolve_left (by omega)]; kernel_rfl) rfl (by omega) fun aa D => ?_
  refine Qbl 3 D (by kernel_rfl) (by kernel_rfl) (by kernel_rfl) (ty := 60) (ad := ⟨R.y.b, R.y.o + i * 2, none⟩) (v := (R.y.l.getD i e00).v) (fun W hW => ld_en (j := i) (show ErAt W R.y.b R.y.o R.y.l from hW (QaL R.y.b R.y.o R.y.l) (by show _ ∈ [QaL R.y.b R.y.o R.y.l, QaL R.z.b R.z.o R.z.l]; simp)) (by omega)) (by kernel_rfl) fun aa D => ?_
  refine QaZ 6 D (by kernel_rfl) (by kernel_rfl) (by kernel_rfl) (b := R.z.b) (off := R.z.o) (len := R.z.l.length) (n := i) (size := 2) (ix := (i : Int)) (by rw [← hza.resolve_left (by omega)]; kernel_rfl) rfl (by omega) fun aa D => ?_
  refine Qbl 7 D (by kernel_rfl) (by kernel_rfl) (by kernel_rfl) (ty := 60) (ad := ⟨R.z.b, R.z.o + i * 2, none⟩) (v := (R.z.l.getD i e00).v) (fun W hW => ld_en (j := i) (show ErAt W R.z.b R.z.o R.z.l from hW (QaL R.z.b R.z.o R.z.l) (by show _ ∈ [QaL R.y.b R.y.o R.y.l, QaL R.z.b R.z.o R.z.l]; simp)) (by omega)) (by kernel_rfl) fun aa D => ?_
  refine Qdw 8 D (by kernel_rfl) (by kernel_rfl) (by kernel_rfl) (one_t w (R.y.l.getD i e00) (R.z.l.getD i e00) (hye _ y2) (hze _ p2).1 (by rw [e2]; omega) ((D.S.fact (f := Qay R.y.l) (by simp)) _ y2) ((D.S.fact (f := Qay R.z.l) (by simp)) _ p2)) (by kernel_rfl) fun aa w hb D => ?_
  refine QaM D (by kernel_rfl) fun S => ?_
  refine Qab 166 S (by rw [decide_eq_true ⟨e1, e2⟩]; rfl : (!decide ((R.y.l.getD i e00).ver = (R.z.l.getD i e00).ver ∧ (R.y.l.getD i e00).ws = (R.z.l.getD i e00).ws)) = false) fun S => ?_
  refine Qap 39 60 2 S fun bs aa w S => ?_
  refine QbI (b := R.z.b) (off := R.z.o) (len := R.z.l.length) (n := i) (size := 2) (i := (i : Int)) S (by rw [← hza.resolve_left (by omega)]; kernel_rfl) rfl (by omega) fun aa S => ?_
  refine Qad 1 S fun bs aa w S => ?_
  refine Qbf S (Qa6 (ty := 3) (b := R.z.b) (off := R.z.o + i * 2 + 0) (by kernel_rfl) (((S.fact (f := QaL R.z.b R.z.o R.z.l) (by simp)) i (by omega)).1)) (by kernel_rfl) fun aa S => ?_
  refine Qap 36 60 2 S fun bs aa w S => ?_
  refine QaB 156 S (by rw [IntKind.wrap_i64]; omega : IntKind.i64.wrap ((i : Int) + 1) = ((i + 1 : Nat) : Int)) fun S => ?_
  refine Qaj ⟨0, [999]⟩ 50 S fun bs aa w S => ?_
  have S := S.sub (F' := [Qax R.gm 0 Z, Qax R.gf 0 zn5, QaL R.z.b R.z.o R.z.l, Qay R.z.l, QaL R.y.b R.y.o R.y.l, Qay R.y.l]) (by intro f hf; simp only [List.mem_cons, List.not_mem_nil, or_false] at hf; rcases hf with rfl | rfl | rfl | rfl | rfl | rfl <;> simp)
  have S2 := S.to [0, 1] (r3S R dn (R.z.l.getD i e00).ver (i + 1)) (by kernel_rfl) (by kernel_rfl) (by kernel_rfl) (by kernel_rfl) (by kernel_rfl)
  refine Qag (k' := (.rnd (m) (Qa_ sqcC) :: sqcC.k.tail)) (by kernel_rfl) ?_
  exact ih _ rfl aa w S2
theorem r3_e (hZ : ∀ i, i < 28 → Z.getD i 0 = bC 8 (QdP (Qa3 l R.y.l.length)) ((atI l R.y.l.length : Nat) : Int) (vvB (Qa3 l R.y.l.length) zn5) (wwB (Qa3 l R.y.l.length)) i) (m : Nat) (bs : List Nat) (hbs : bs.length = 2) (aa : Act) (w : World) (S : Sy w0 [] bs (r3S R dn (QdP (Qa3 l R.y.l.length)) R.y.l.length) [Qax R.gm 0 Z, Qax R.gf 0 zn5, QaL R.z.b R.z.o R.z.l, Qay R.z.l, QaL R.y.b R.y.o R.y.l, Qay R.y.l] aa w) : post Try.prog (.rnd (m + 1) (Qa_ sqcC) :: sqcC.k.tail) (bodyPost Try.prog Try.f4 (apP w0)) .normal aa w := by
  obtain ⟨b0, b1, rfl⟩ : ∃ b0 b1, bs = [b0, b1] := by
    match bs, hbs with
    | [b0, b1], _ => exact ⟨b0, b1, rfl⟩
  have hzl : R.z.l.length = l.length := by have := congrArg List.length hz; rwa [List.length_map, Qbp] at this
  refine Qap (c := ⟨(.rnd (m + 1) (Qa_ sqcC) :: sqcC.k.tail), r3S R dn (QdP (Qa3 l R.y.l.length)) R.y.l.length⟩) 35 50 4 S fun bs aa w S => ?_
  refine Qab 154 S (decide_eq_false (by omega) : decide ((R.y.l.length : Int) < (R.y.l.length : Int)) = false) fun S => ?_
  refine Qap 40 60 4 S fun bs aa w S => ?_
  by_cases hK : R.y.l.length = dn
  · refine Qab 175 S (decide_eq_false (by omega) : decide ((R.y.l.length : Int) > (dn : Int)) = false) fun S => ?_
    refine Qah S fun bs aa w S => ?_
    refine QaB 17 S (by rw [hen, hK] : (R.en : Int) = ((atI l R.y.l.length : Nat) : Int)) fun S => ?_
    have S := S.sub (F' := [Qax R.gm 0 Z, Qax R.gf 0 zn5, QaL R.z.b R.z.o R.z.l, Qay R.z.l]) (by intro f hf; simp only [List.mem_cons, List.not_mem_nil, or_false] at hf; rcases hf with rfl | rfl | rfl | rfl <;> simp)
    have S2 := S.to [0, 1] (r4S (R.fin (atI l R.y.l.length) (QdP (Qa3 l R.y.l.length))) 0) (by kernel_rfl) (by kernel_rfl) (by kernel_rfl) (by kernel_rfl) (by kernel_rfl)
    refine QaR (5 + 1) (by kernel_rfl) ?_
    refine Qag (k' := (.rnd (5 + 1) (Qa_ sq4C) :: sq4C.k.tail)) (by kernel_rfl) ?_
    exact r4_a w0 (R.fin (atI l R.y.l.length) (QdP (Qa3 l R.y.l.length))) l hl8 h256 hz hza hze hz8 hw5 Z hy hZl hZ 5 0 rfl _ rfl aa w S2
  · have hK1 : R.y.l.length = dn + 1 := by omega
    obtain ⟨p1, p2⟩ := ent_n hz (show dn < l.length by omega)
    obtain ⟨r1, r2, r3, r4⟩ := Qk7 hl8 h256 (show dn < l.length by omega)
    obtain ⟨q1, q2⟩ := hze _ p2
    have hR : QaC (R.z.l.getD dn e00).ver (R.z.l.getD dn e00).ws = rI l dn := by
      rw [rI_lt (show dn < l.length by omega), show (R.z.l.getD dn e00).ver = (QcP dn (l.getD dn 0)).1 from congrArg Prod.fst p1, show (R.z.l.getD dn e00).ws = (QcP dn (l.getD dn 0)).2 from congrArg Prod.snd p1]
    refine Qab 175 S (decide_eq_true (by omega) : decide ((R.y.l.length : Int) > (dn : Int)) = true) fun S => ?_
    refine Qap 41 60 3 S fun bs aa w S => ?_
    refine QbI (b := R.z.b) (off := R.z.o) (len := R.z.l.length) (n := dn) (size := 2) (i := (dn : Int)) S (by rw [← hza.resolve_left (by omega)]; kernel_rfl) rfl (by omega) fun aa S => ?_
    refine Qbf S (ld_en (j := dn) (es := R.z.l) (S.fact (f := QaL R.z.b R.z.o R.z.l) (by simp)) (show dn < R.z.l.length by omega)) (by kernel_rfl) fun aa S => ?_
    have hrec := QgW w (R.z.l.getD dn e00) q1 q2 ((S.fact (f := Qay R.z.l) (by simp)) _ p2)
    rw [hR] at hrec
    refine Qbg S (X := Sr) (val := Sr.v) (C := fun s w' => s.l = rI l dn) (hrec.mono fun e w' ⟨s, h1, h2, h3⟩ => ⟨s, h1, h2.1, h3⟩) (by kernel_rfl) fun s aa w hC hb S => ?_
    refine Qad 2 S fun bs aa w S => ?_
    refine QaB 183 S (by rw [IntKind.wrap_i64, hK1, r1, hC, hen]; omega : IntKind.i64.wrap ((R.en : Int) + (s.l.length : Int)) = ((atI l R.y.l.length : Nat) : Int)) fun S => ?_
    refine Qah S fun bs aa w S => ?_
    have S := S.sub (F' := [Qax R.gm 0 Z, Qax R.gf 0 zn5, QaL R.z.b R.z.o R.z.l, Qay R.z.l]) (by intro f hf; simp only [List.mem_cons, List.not_mem_nil, or_false] at hf; rcases hf with rfl | rfl | rfl | rfl <;> simp)
    have S2 := S.to [0, 1] (r4S (R.fin (atI l R.y.l.length) (QdP (Qa3 l R.y.l.length))) 0) (by kernel_rfl) (by kernel_rfl) (by kernel_rfl) (by kernel_rfl) (by kernel_rfl)
    refine QaR (5 + 1) (by kernel_rfl) ?_
    refine Qag (k' := (.rnd (5 + 1) (Qa_ sq4C) :: sq4C.k.tail)) (by kernel_rfl) ?_
    exact r4_a w0 (R.fin (atI l R.y.l.length) (QdP (Qa3 l R.y.l.length))) l hl8 h256 hz hza hze hz8 hw5 Z hy hZl hZ 5 0 rfl _ rfl aa w S2
end
theorem clk_succ (l : List Nat) (n : Nat) : QdP (Qa3 l (n + 1)) = (QcP n (l.getD n 0)).1 := by
  rw [Qbw]
  unfold QdP
  simp
section
variable (w0 : World) (R : Rq) (l : List Nat) (hl8 : l.length ≤ 8) (h256 : ∀ b ∈ l, b < 256) (hz : R.z.l.map prE = Qa3 l l.length) (hza : R.z.l.length = 0 ∨ R.z.a = some ⟨R.z.b, R.z.o, none⟩) (hze : ∀ e ∈ R.z.l, e.ok ∧ QcD e.ver e.ws) (hz8 : R.z.l.length ≤ 8) (hw5 : ∀ e ∈ R.z.l, e.ws.length ≤ 5) (Z : List Int) (hy : R.y.l.length ≤ l.length) (hZl : Z.length = 28) (hys : R.y.l.map prE = Qa3 l R.y.l.length) (hya : R.y.l.length = 0 ∨ R.y.a = some ⟨R.y.b, R.y.o, none⟩) (hye : ∀ e ∈ R.y.l, e.ok) (dn : Nat) (hd1 : dn ≤ R.y.l.length) (hd2 : R.y.l.length ≤ dn + 1) (hen : R.en = atI l dn) (hZ : ∀ i, i < 28 → Z.getD i 0 = bC 8 (QdP (Qa3 l R.y.l.length)) ((atI l R.y.l.length : Nat) : Int) (vvB (Qa3 l R.y.l.length) zn5) (wwB (Qa3 l R.y.l.length)) i)
include w0 R l hl8 h256 hz hza hze hz8 hw5 Z hy hZl hys hya hye dn hd1 hd2 hen hZ
theorem r3_a : ∀ (m i : Nat), i + m = R.y.l.length → ∀ (c : Int) (hc : c = QdP (Qa3 l i)) (bs : List Nat) (hbs : bs.length = 2) (aa : Act) (w : World) (S : Sy w0 [] bs (r3S R dn c i) [Qax R.gm 0 Z, Qax R.gf 0 zn5, QaL R.z.b R.z.o R.z.l, Qay R.z.l, QaL R.y.b R.y.o R.y.l, Qay R.y.l] aa w), post Try.prog (.rnd (m + 1) (Qa_ sqcC) :: sqcC.k.tail) (bodyPost Try.prog Try.f4 (apP w0)) .normal aa w := by
  intro m
  induction m with
  | zero =>
    intro i hi c hc bs hbs aa w S
    obtain rfl : i = R.y.l.length := by omega
    subst hc
    exact r3_e w0 R l hl8 h256 hz hza hze hz8 hw5 Z hy hZl hys hya hye dn hd1 hd2 hen hZ 0 bs hbs aa w S
  | succ m ih =>
    intro i hi c hc bs hbs aa w S
    obtain ⟨p1, p2⟩ := ent_n hz (show i < l.length by omega)
    exact r3_s w0 R l hl8 h256 hz hza hze hz8 hw5 Z hy hZl hys hya hye dn hd1 hd2 hen (m + 1) i (by omega) c (fun bs hbs aa w S => ih (i + 1) (by omega) _ (by rw [clk_succ]; exact congrArg Prod.fst p1) bs hbs aa w S) bs hbs aa w S
theorem r31_a (bs : List Nat) (hbs : bs.length = 2) (aa : Act) (w : World) (S : Sy w0 [] bs (r31S R dn) [Qax R.gm 0 Z, Qax R.gf 0 zn5, QaL R.z.b R.z.o R.z.l, Qay R.z.l, QaL R.y.b R.y.o R.y.l, Qay R.y.l] aa w) : post Try.prog r31K (bodyPost Try.prog Try.f4 (apP w0)) .normal aa w := by
  obtain ⟨b0, b1, rfl⟩ : ∃ b0 b1, bs = [b0, b1] := by
    match bs, hbs with
    | [b0, b1], _ => exact ⟨b0, b1, rfl⟩
  have hzl : R.z.l.length = l.length := by have := congrArg List.length hz; rwa [List.length_map, Qbp] at this
  refine Qap (c := ⟨r31K, r31S R dn⟩) 31 60 4 S fun bs aa w S => ?_
  refine Qab 136 S (decide_eq_false (by omega) : decide ((R.y.l.length : Int) < (dn : Int)) = false) fun S => ?_
  refine Qad 5 S fun bs aa w S => ?_
  refine QaB 141 S (by rw [IntKind.wrap_i64]; omega : IntKind.i64.wrap ((dn : Int) + 1) = ((dn + 1 : Nat) : Int)) fun S => ?_
  refine Qad 1 S fun bs aa w S => ?_
  refine Qab 142 S (decide_eq_false (by omega) : decide ((R.y.l.length : Int) > ((dn + 1 : Nat) : Int)) = false) fun S => ?_
  refine Qad 7 S fun bs aa w S => ?_
  refine Qab 149 S (decide_eq_false (by omega) : decide ((R.y.l.length : Int) > (R.z.l.length : Int)) = false) fun S => ?_
  refine Qah S fun bs aa w S => ?_
  have S := S.sub (F' := [Qax R.gm 0 Z, Qax R.gf 0 zn5, QaL R.z.b R.z.o R.z.l, Qay R.z.l, QaL R.y.b R.y.o R.y.l, Qay R.y.l]) (by intro f hf; simp only [List.mem_cons, List.not_mem_nil, or_false] at hf; rcases hf with rfl | rfl | rfl | rfl | rfl | rfl <;> simp)
  have S2 := S.to [0, 1] (r3S R dn 0 0) (by kernel_rfl) (by kernel_rfl) (by kernel_rfl) (by kernel_rfl) (by kernel_rfl)
  refine QaR (R.y.l.length + 1) (by kernel_rfl) ?_
  refine Qag (k' := (.rnd (R.y.l.length + 1) (Qa_ sqcC) :: sqcC.k.tail)) (by kernel_rfl) ?_
  exact r3_a w0 R l hl8 h256 hz hza hze hz8 hw5 Z hy hZl hys hya hye dn hd1 hd2 hen hZ R.y.l.length 0 (by omega) 0 rfl _ rfl aa w S2
end
theorem crs_l (w : World) {l : List Nat} (hl8 : l.length ≤ 8) (h256 : ∀ b ∈ l, b < 256) {s j : Nat} {x : Dk} (hx : dvG l s j x) (ca : Option Addr) (cl cc cb co : Nat) (cs : List Int) (hcl : cl = cs.length) (hca : cs.length = 0 ∨ ca = some ⟨cb, co, none⟩) (L : List ByteArray) (hL : crS x cs = L) {w0 : World} {q bs : List Nat} {st : SS} {F : List RF} {a : Act} (S : Sy w0 q bs st F a w) (h1 : Qaz x.b x.o x.S ∈ F) (h2 : QaP x.c x.p x.W ∈ F) (h3 : Qax cb co cs ∈ F) : Calls Try.prog 22 #[x.v, .slice ca cl cc] w fun e w' => ∃ q : Nat × Nat, e = .returned (crV q) ∧ ((40 ≤ q.2 ∧ StrAt w' q.1 0 L) ∧ w.heap.size ≤ q.1) ∧ Below w.heap.size w w' := by
  subst hcl hL
  exact crs_d w hl8 h256 hx ca cc cb co cs hca S h1 h2 h3
theorem Qmo (w : World) (L : List ByteArray) (hL : L.length = 40) (R : List (Int × Ws) × Nat) (hR : Qdz 41 L 0 0 = R) (Z : List Int) (hZ : Qj9 cfA zn5 R = Z) (q : Nat × Nat) (hc : 40 ≤ q.2) (g : Nat) {w0 : World} {qq bs : List Nat} {st : SS} {F : List RF} {a : Act} (S : Sy w0 qq bs st F a w) (h1 : Qaz q.1 0 L ∈ F) (h2 : Qax g 0 zn5 ∈ F) : Calls Try.prog 10 #[.agg lyA.toArray, .slice (some ⟨g, 0, none⟩) 5 5, crV q] w fun e w' => ∃ q, e = .returned (bdV q) ∧ (Qbm w' q.2.1 0 Z ∧ w.heap.size ≤ q.2.1 ∧ recQ R w.heap.size q.1 w') ∧ Below w.heap.size w w' := by
  subst hZ
  exact boot_q w L hL R hR q.1 q.2 hc (S.fact h1) g (S.fact h2)
noncomputable def r30K : List It := goM 100 1 [] sq1C.k.tail
noncomputable def r30S (A : Aq) (x : Dk) (gf dn en : Nat) : SS := ⟨267, [(2, .v (.slice A.ca A.cl A.cc)), (7, .v (.bool true)), (8, .p 0 0), (10, .v A.z.v), (11, .p 1 0), (16, .v (.int .i64 (dn : Int))), (17, .v (.int .i64 (en : Int))), (25, .v (.slice (some ⟨gf, 0, none⟩) 5 5))], [⟨25, lyA⟩, ⟨30, x.cs⟩]⟩
theorem ws5 {l : List Nat} {z : Er} {n : Nat} (hz : z.l.map prE = Qa3 l n) : ∀ e ∈ z.l, e.ws.length ≤ 5 := fun e he => by
  have h : prE e ∈ z.l.map prE := List.mem_map_of_mem he
  rw [hz] at h
  unfold Qa3 at h
  obtain ⟨i, _, h2⟩ := List.mem_map.1 h
  have h3 : e.ws = wsE i (l.getD i 0) 5 := (congrArg Prod.snd h2).symm
  rw [h3]
  exact QdF _ _ 5
section
variable (w0 : World) (l : List Nat) (hl8 : l.length ≤ 8) (h256 : ∀ b ∈ l, b < 256) (A : Aq) (hz : A.z.l.map prE = Qa3 l l.length) (hza : A.z.l.length = 0 ∨ A.z.a = some ⟨A.z.b, A.z.o, none⟩) (hze : ∀ e ∈ A.z.l, e.ok ∧ QcD e.ver e.ws)
include w0 l hl8 h256 A hz hza hze
section
variable (cb co : Nat) (cs : List Int) (hcl : A.cl = cs.length) (hca : cs.length = 0 ∨ A.ca = some ⟨cb, co, none⟩)
include cb co cs hcl hca
theorem q30_z (gf s k : Nat) (hk : k = s ∨ k = s + 1) (hkl : k ≤ l.length) (x : Dk) (L : List ByteArray) (g0 gm cm : Nat) (y : Er) (Z : List Int) (hZ : Qj9 cfA zn5 (Qa3 l k, atI l k) = Z) (B : Nat) (W : World) (hy : recQ (Qa3 l k, atI l k) B y W) {c0 : Cfg} {bs : List Nat} {aa : Act} {w : World} (S : Sy w0 [] bs c0.s [Qay y.l, QaL y.b y.o y.l, Qax gm 0 Z, Qaz g0 0 L, Qax gf 0 zn5, Qaz x.b x.o x.S, QaP x.c x.p x.W, QaL A.z.b A.z.o A.z.l, Qay A.z.l, Qax cb co cs] aa w) (hk0 : (QfA Try.prog ⟨0, [31]⟩ 60 c0).k = r31K) (hp : okSel [0, 2] (QfA Try.prog ⟨0, [31]⟩ 60 c0).s.K.length = true) (hn : (r31S ⟨A.z, y, gf, gm, cm, atI l s, 0⟩ s).n = (QfA Try.prog ⟨0, [31]⟩ 60 c0).s.n) (hK : (r31S ⟨A.z, y, gf, gm, cm, atI l s, 0⟩ s).K.map some = [0, 2].map fun i => (QfA Try.prog ⟨0, [31]⟩ 60 c0).s.K[i]?) (hI : ((r31S ⟨A.z, y, gf, gm, cm, atI l s, 0⟩ s).T.all fun q => match (QfA Try.prog ⟨0, [31]⟩ 60 c0).s.get q.1 with
      | some x => x.inL [0, 2]
      | none => false) = true) (hT : ((r31S ⟨A.z, y, gf, gm, cm, atI l s, 0⟩ s).T.map fun q => ((QfA Try.prog ⟨0, [31]⟩ 60 c0).s.get q.1).map (SV.ren fun i => [0, 2].idxOf i)) = (r31S ⟨A.z, y, gf, gm, cm, atI l s, 0⟩ s).T.map fun q => some q.2) : post Try.prog c0.k (bodyPost Try.prog Try.f4 (apP w0)) .normal aa w := by
  obtain ⟨y1, y2, y3, y4, y5, y6⟩ := hy
  have yl : y.l.length = k := by have := congrArg List.length y1; rwa [List.length_map, Qbp] at this
  have zl : A.z.l.length = l.length := by have := congrArg List.length hz; rwa [List.length_map, Qbp] at this
  refine Qaj (c := c0) ⟨0, [31]⟩ 60 S fun bs aa w S => ?_
  have S := S.sub (F' := [Qax gm 0 Z, Qax gf 0 zn5, QaL A.z.b A.z.o A.z.l, Qay A.z.l, QaL y.b y.o y.l, Qay y.l]) (by intro f hf; simp only [List.mem_cons, List.not_mem_nil, or_false] at hf; rcases hf with rfl | rfl | rfl | rfl | rfl | rfl <;> simp)
  refine Qag (k' := r31K) hk0 ?_
  refine r31_a w0 ⟨A.z, y, gf, gm, cm, atI l s, 0⟩ l hl8 h256 hz hza hze (by show A.z.l.length ≤ 8; omega) (ws5 hz) Z (by show y.l.length ≤ _; omega) (by rw [← hZ]; exact QbV _ _ _ _ _ _) (by show y.l.map prE = Qa3 l y.l.length; rw [yl]; exact y1) y2 (fun e he => (y5 e he).1) s (by show s ≤ y.l.length; omega) (by show y.l.length ≤ s + 1; omega) rfl ?_ _ rfl _ _ (S.to [0, 2] (r31S ⟨A.z, y, gf, gm, cm, atI l s, 0⟩ s) hp hn hK hI hT)
  intro i hi
  show Z.getD i 0 = bC 8 (QdP (Qa3 l y.l.length)) ((atI l y.l.length : Nat) : Int) (vvB (Qa3 l y.l.length) zn5) (wwB (Qa3 l y.l.length)) i
  rw [yl, ← hZ]
  exact Qit hi
theorem q30_a (gf s j : Nat) (x : Dk) (hx : dvG l s j x) (bs : List Nat) (hbs : bs.length = 2) (aa : Act) (w : World) (S : Sy w0 [] bs (r30S A x gf s (atI l s)) [Qax gf 0 zn5, Qaz x.b x.o x.S, QaP x.c x.p x.W, QaL A.z.b A.z.o A.z.l, Qay A.z.l, Qax cb co cs] aa w) : post Try.prog r30K (bodyPost Try.prog Try.f4 (apP w0)) .normal aa w := by
  obtain ⟨b0, b1, rfl⟩ : ∃ b0 b1, bs = [b0, b1] := by
    match bs, hbs with
    | [b0, b1], _ => exact ⟨b0, b1, rfl⟩
  obtain ⟨d1, d2, d3, d4, d5⟩ := Ql3 hl8 h256 hx
  have hcL := (Qme x d1 d2 cs).1.trans d3
  obtain ⟨k, hk, hkl, hR⟩ := crash_G hl8 h256 hx cs
  obtain ⟨Z, hZ⟩ : ∃ Z, Qj9 cfA zn5 (Qa3 l k, atI l k) = Z := ⟨_, rfl⟩
  refine Qaj (c := ⟨r30K, r30S A x gf s (atI l s)⟩) ⟨0, []⟩ 60 S fun bs aa w S => ?_
  refine QaF [0, 1] (by kernel_rfl) (by kernel_rfl) S (by kernel_rfl) (fun aa w D => ?_)
  refine Qac [4, 9] (by kernel_rfl) (by kernel_rfl) rfl (na2 ?_ ?_)
  · have ht := fun i hi => D.S.lt (i := i) hi
    refine QaD 4 D (by kernel_rfl) (crs_l w hl8 h256 hx A.ca A.cl A.cc cb co cs hcl hca (crS x cs) rfl D.S (by simp) (by simp) (by simp)) (by kernel_rfl) fun q aa w hC hb D => ?_
    have D := D.addF (Qaz q.1 0 (crS x cs)) hC.1.2 (fun i hi hbl => by have h1 := ht i hi; have h2 := hbl.1; have h3 : _ ≤ q.1 := hC.2; omega)
    refine Qac [5, 9] (by kernel_rfl) (by kernel_rfl) rfl (na2 ?_ ?_)
    · have ht := fun i hi => D.S.lt (i := i) hi
      refine QaD 5 D (by kernel_rfl) (Qmo w (crS x cs) hcL (Qa3 l k, atI l k) hR Z hZ q hC.1.1 gf D.S (by simp) (by simp)) (by kernel_rfl) fun u aa w hU hb D => ?_
      obtain ⟨y, gm, cm⟩ := u
      obtain ⟨u1, u2, u3⟩ := hU
      have D := D.addF (Qax gm 0 Z) u1 (fun i hi hbl => by have h1 := ht i hi; have h2 := hbl.1; have h3 : _ ≤ gm := u2; omega)
      have D := D.addF (QaL y.b y.o y.l) u3.2.2.1 (fun i hi hbl => by have h1 := ht i hi; have h2 := hbl.1; have h3 := u3.2.2.2.1.resolve_left hbl.2; simp only at h3; omega)
      have D := D.addF (Qay y.l) u3.2.2.2.2.2 (fun i hi hbl => by obtain ⟨e, he, q1, q2⟩ := hbl; have h1 := ht i hi; have h3 := (u3.2.2.2.2.1 e he).2.resolve_left q2; omega)
      refine Qac [9] (by kernel_rfl) (by kernel_rfl) rfl (na1 ?_)
      refine Qao 9 [10] D fun bs aa w D hl => na1 ?_
      exact QbX 10 D fun bs aa w S => q30_z w0 l hl8 h256 A hz hza hze cb co cs hcl hca gf s k hk hkl x (crS x cs) q.1 gm cm y Z hZ _ _ u3 S (by kernel_rfl) (by kernel_rfl) (by kernel_rfl) (by kernel_rfl) (by kernel_rfl) (by kernel_rfl)
    · refine Qao 9 [5] D fun bs aa w D hl => na1 ?_
      have ht := fun i hi => D.S.lt (i := i) hi
      refine QaD 5 D (by kernel_rfl) (Qmo w (crS x cs) hcL (Qa3 l k, atI l k) hR Z hZ q hC.1.1 gf D.S (by simp) (by simp)) (by kernel_rfl) fun u aa w hU hb D => ?_
      obtain ⟨y, gm, cm⟩ := u
      obtain ⟨u1, u2, u3⟩ := hU
      have D := D.addF (Qax gm 0 Z) u1 (fun i hi hbl => by have h1 := ht i hi; have h2 := hbl.1; have h3 : _ ≤ gm := u2; omega)
      have D := D.addF (QaL y.b y.o y.l) u3.2.2.1 (fun i hi hbl => by have h1 := ht i hi; have h2 := hbl.1; have h3 := u3.2.2.2.1.resolve_left hbl.2; simp only at h3; omega)
      have D := D.addF (Qay y.l) u3.2.2.2.2.2 (fun i hi hbl => by obtain ⟨e, he, q1, q2⟩ := hbl; have h1 := ht i hi; have h3 := (u3.2.2.2.2.1 e he).2.resolve_left q2; omega)
      refine Qac [10] (by kernel_rfl) (by kernel_rfl) rfl (na1 ?_)
      exact QbX 10 D fun bs aa w S => q30_z w0 l hl8 h256 A hz hza hze cb co cs hcl hca gf s k hk hkl x (crS x cs) q.1 gm cm y Z hZ _ _ u3 S (by kernel_rfl) (by kernel_rfl) (by kernel_rfl) (by kernel_rfl) (by kernel_rfl) (by kernel_rfl)
  · refine Qao 9 [4] D fun bs aa w D hl => na1 ?_
    have ht := fun i hi => D.S.lt (i := i) hi
    refine QaD 4 D (by kernel_rfl) (crs_l w hl8 h256 hx A.ca A.cl A.cc cb co cs hcl hca (crS x cs) rfl D.S (by simp) (by simp) (by simp)) (by kernel_rfl) fun q aa w hC hb D => ?_
    have D := D.addF (Qaz q.1 0 (crS x cs)) hC.1.2 (fun i hi hbl => by have h1 := ht i hi; have h2 := hbl.1; have h3 : _ ≤ q.1 := hC.2; omega)
    refine Qac [5] (by kernel_rfl) (by kernel_rfl) rfl (na1 ?_)
    have ht := fun i hi => D.S.lt (i := i) hi
    refine QaD 5 D (by kernel_rfl) (Qmo w (crS x cs) hcL (Qa3 l k, atI l k) hR Z hZ q hC.1.1 gf D.S (by simp) (by simp)) (by kernel_rfl) fun u aa w hU hb D => ?_
    obtain ⟨y, gm, cm⟩ := u
    obtain ⟨u1, u2, u3⟩ := hU
    have D := D.addF (Qax gm 0 Z) u1 (fun i hi hbl => by have h1 := ht i hi; have h2 := hbl.1; have h3 : _ ≤ gm := u2; omega)
    have D := D.addF (QaL y.b y.o y.l) u3.2.2.1 (fun i hi hbl => by have h1 := ht i hi; have h2 := hbl.1; have h3 := u3.2.2.2.1.resolve_left hbl.2; simp only at h3; omega)
    have D := D.addF (Qay y.l) u3.2.2.2.2.2 (fun i hi hbl => by obtain ⟨e, he, q1, q2⟩ := hbl; have h1 := ht i hi; have h3 := (u3.2.2.2.2.1 e he).2.resolve_left q2; omega)
    refine Qac [10] (by kernel_rfl) (by kernel_rfl) rfl (na1 ?_)
    exact QbX 10 D fun bs aa w S => q30_z w0 l hl8 h256 A hz hza hze cb co cs hcl hca gf s k hk hkl x (crS x cs) q.1 gm cm y Z hZ _ _ u3 S (by kernel_rfl) (by kernel_rfl) (by kernel_rfl) (by kernel_rfl) (by kernel_rfl) (by kernel_rfl)
end
theorem q1_e (hm : A.ma = some ⟨A.mb, A.mo, none⟩) (cb co : Nat) (cs : List Int) (hcl : A.cl = cs.length) (hca : cs.length = 0 ∨ A.ca = some ⟨cb, co, none⟩) (hi : A.i = l.length) (m : Nat) (x : Dk) (lf s j : Nat) (hx : dvG l s j x) (bs : List Nat) (hbs : bs.length = 3) (aa : Act) (w : World) (S : Sy w0 [] bs (q1S A x lf s (atI l s)) [Qax A.mb A.mo zs4, Qaz x.b x.o x.S, QaP x.c x.p x.W, QaL A.z.b A.z.o A.z.l, Qay A.z.l, Qax cb co cs] aa w) : post Try.prog (.rnd (m + 1) (Qa_ sq1C) :: sq1C.k.tail) (bodyPost Try.prog Try.f4 (apP w0)) .normal aa w := by
  obtain ⟨b0, b1, b2, rfl⟩ : ∃ b0 b1 b2, bs = [b0, b1, b2] := by
    match bs, hbs with
    | [b0, b1, b2], _ => exact ⟨b0, b1, b2, rfl⟩
  have hzl : A.z.l.length = l.length := by have := congrArg List.length hz; rwa [List.length_map, Qbp] at this
  refine Qap (c := ⟨(.rnd (m + 1) (Qa_ sq1C) :: sq1C.k.tail), q1S A x lf s (atI l s)⟩) 13 50 4 S fun bs aa w S => ?_
  refine Qab 63 S (decide_eq_false (by omega) : decide ((A.i : Int) < (A.z.l.length : Int)) = false) fun S => ?_
  refine Qap 29 60 1 S fun bs aa w S => ?_
  refine Qah S fun bs aa w S => ?_
  refine Qbq S fun bs S => ?_
  have S := S.same 25 (x := .s 3 0 5 5) (by kernel_rfl) (y := .v (.slice (some ⟨bs.getD 3 0, 0, none⟩) 5 5)) trivial rfl
  have hrow := S.bx 3 ⟨3, [.int .i64 (-1), .int .i64 (-2), .int .i64 (-3), .int .i64 (-4), .int .i64 (-5)]⟩ (by kernel_rfl)
  have hI : Qbm w (bs.getD 3 0) 0 zn5 := fun j hj => by
    rw [Nat.zero_add]
    refine Qd9 hrow ?_
    have hj5 : j < 5 := hj
    match j, hj5 with
    | 0, _ => rfl
    | 1, _ => rfl
    | 2, _ => rfl
    | 3, _ => rfl
    | 4, _ => rfl
  have hbl : bs.length = 4 := S.bl.trans (by kernel_rfl)
  have hnd := S.nd
  have S2 := S.to [0, 1] (r30S A x (bs.getD 3 0) s (atI l s)) (by kernel_rfl) (by kernel_rfl) (by kernel_rfl) (by kernel_rfl) (by kernel_rfl)
  have S3 := S2.add (Qax (bs.getD 3 0) 0 zn5) hI (fun i hi hb => by
    have h2 : (List.map (fun i => bs.getD i 0) [0, 1]).getD i 0 = bs.getD 3 0 := hb.1
    match i, hi with
    | 0, _ => exact absurd (hnd 0 3 (by omega) (by omega) h2) (by omega)
    | 1, _ => exact absurd (hnd 1 3 (by omega) (by omega) h2) (by omega))
  generalize bs.getD 3 0 = gf at S3
  have S3 := S3.sub (F' := [Qax gf 0 zn5, Qaz x.b x.o x.S, QaP x.c x.p x.W, QaL A.z.b A.z.o A.z.l, Qay A.z.l, Qax cb co cs]) (by intro f hf; simp only [List.mem_cons, List.not_mem_nil, or_false] at hf; rcases hf with rfl | rfl | rfl | rfl | rfl | rfl <;> simp)
  refine Qag (k' := r30K) (by kernel_rfl) ?_
  exact q30_a w0 l hl8 h256 A hz hza hze cb co cs hcl hca gf s j x hx _ rfl aa w S3
end
theorem q1_a (w0 : World) (l : List Nat) (hl8 : l.length ≤ 8) (h256 : ∀ b ∈ l, b < 256) (cb co : Nat) (cs : List Int) : ∀ (m : Nat) (A : Aq) (hz : A.z.l.map prE = Qa3 l l.length) (hza : A.z.l.length = 0 ∨ A.z.a = some ⟨A.z.b, A.z.o, none⟩) (hze : ∀ e ∈ A.z.l, e.ok ∧ QcD e.ver e.ws) (hm : A.ma = some ⟨A.mb, A.mo, none⟩) (hcl : A.cl = cs.length) (hca : cs.length = 0 ∨ A.ca = some ⟨cb, co, none⟩) (hi : A.i + m = l.length) (hat : A.at_ = atI l A.i) (x : Dk) (lf s j : Nat) (hx : dvG l s j x) (hs : s ≤ A.i ∧ (0 < lf → s = A.i ∧ j = 0)) (hlf : lf ≤ 100) (bs : List Nat) (hbs : bs.length = 3) (aa : Act) (w : World) (S : Sy w0 [] bs (q1S A x lf s (atI l s)) [Qax A.mb A.mo zs4, Qaz x.b x.o x.S, QaP x.c x.p x.W, QaL A.z.b A.z.o A.z.l, Qay A.z.l, Qax cb co cs] aa w), post Try.prog (.rnd (m + 1) (Qa_ sq1C) :: sq1C.k.tail) (bodyPost Try.prog Try.f4 (apP w0)) .normal aa w := by
  intro m
  induction m with
  | zero =>
    intro A hz hza hze hm hcl hca hi hat x lf s j hx hs hlf bs hbs aa w S
    exact q1_e w0 l hl8 h256 A hz hza hze hm cb co cs hcl hca (by omega) 0 x lf s j hx bs hbs aa w S
  | succ m ih =>
    intro A hz hza hze hm hcl hca hi hat x lf s j hx hs hlf bs hbs aa w S
    exact q1_s w0 l hl8 h256 A hz hza hze hm cb co cs (by omega) hat (m + 1) (fun x lf s j hx hs hlf bs hbs aa w S => ih (A.up (atI l (A.i + 1)) (A.i + 1)) hz hza hze hm hcl hca (by show A.i + 1 + m = _; omega) rfl x lf s j hx hs hlf bs hbs aa w S) x lf s j hx hs hlf bs hbs aa w S
theorem rnew4 (w : World) : Calls Try.prog 19 #[.int .i64 4] w fun e w' => ∃ g : Nat, e = .returned (.agg #[.slice (some ⟨g, 0, none⟩) 4 4]) ∧ (Qbm w' g 0 zs4 ∧ w.heap.size ≤ g) ∧ Below w.heap.size w w' := by
  refine (rnew_any 4 w (by decide)).mono fun e w' ⟨g, h1, ⟨a, cap, he, hl, h⟩, h3, h4⟩ => ⟨g, h1, ⟨fun j hj => ?_, h3⟩, h4⟩
  have hj4 : j < 4 := hj
  rcases h with h | ⟨b, o, rfl, h⟩
  · exact absurd h (by decide)
  · simp only [Value.slice.injEq, Option.some.injEq, Addr.mk.injEq] at he
    obtain ⟨⟨rfl, rfl, _⟩, _⟩ := he
    have h5 := h j hj4
    have h6 : (List.replicate 4 (0 : Int)).getD j 0 = zs4.getD j 0 := rfl
    rw [h6] at h5
    exact h5
theorem sq_all (w0 : World) (l : List Nat) (la : Option Addr) (lc lb lo : Nat) (hla : l.length = 0 ∨ la = some ⟨lb, lo, none⟩) (h256 : ∀ b ∈ l, b < 256) (b : Nat) (hb : b < 256) (hB : ByAt w0 lb lo l) (cs : List Int) (ca : Option Addr) (cc cb co : Nat) (hca : cs.length = 0 ∨ ca = some ⟨cb, co, none⟩) (hC : Qbm w0 cb co cs) : Calls Try.prog 4 #[.slice la l.length lc, .int .u8 (b : Int), .slice ca cs.length cc] w0 (apP w0) := by
  refine Qas [] [Qcg lb lo l, Qax cb co cs] (by intro f hf; simp only [List.mem_cons, List.not_mem_nil, or_false] at hf; rcases hf with rfl | rfl; exact hB; exact hC) Try.func4 rfl rfl fun aa S => ?_
  refine Qaj ⟨0, [1]⟩ 60 S fun bs aa w S => ?_
  refine Qcn S fun S => ?_
  refine QaJ S (sane25 _) (by kernel_rfl) fun aa w hb1 S => ?_
  refine Qap 2 60 3 S fun bs aa w S => ?_
  by_cases h8 : l.length ≤ 8
  case neg =>
    refine Qab 38 S (decide_eq_true (by omega) : decide ((l.length : Int) > 8) = true) fun S => ?_
    refine Qah S fun bs aa w S => ?_
    exact Qan S (by kernel_rfl) (by kernel_rfl) fun hg => ⟨rfl, Qaq hg⟩
  refine Qab 38 S (decide_eq_false (by omega) : decide ((l.length : Int) > 8) = false) fun S => ?_
  refine Qad 4 S fun bs aa w S => ?_
  by_cases h20 : cs.length ≤ 20
  case neg =>
    refine Qab 42 S (decide_eq_true (by omega) : decide ((cs.length : Int) > 20) = true) fun S => ?_
    refine Qah S fun bs aa w S => ?_
    exact Qan S (by kernel_rfl) (by kernel_rfl) fun hg => ⟨rfl, Qaq hg⟩
  refine Qab 42 S (decide_eq_false (by omega) : decide ((cs.length : Int) > 20) = false) fun S => ?_
  refine Qap 4 60 1 S fun bs aa w S => ?_
  refine QaJ S (v := .tuple #[.agg lyA.toArray, .int .i64 0]) (rof_t cfA _ (by decide)) (by kernel_rfl) fun aa w hb1 S => ?_
  refine Qap 5 60 1 S fun bs aa w S => ?_
  refine Qbq S fun bs4 S => ?_
  have hlt4 := fun i hi => S.lt (i := i) hi
  have hs4 := S.gr.size
  refine Qbg S (X := Er) (val := Er.v) (C := fun z w' => recQ (Qa3 l l.length, 0) w.heap.size z w' ∧ ∀ e ∈ z.l, QcD e.ver e.ws) ((Ql0 w l h8 h256 la lc lb lo hla (S.fact (f := Qcg lb lo l) (by simp))).mono fun y w' ⟨z, q1, q2, q3, q4⟩ => ⟨z, q1, ⟨q2, q3⟩, q4⟩) (by kernel_rfl) fun z aa w hC hb3 S => ?_
  obtain ⟨⟨z1, z2, z3, z4, z5, z6⟩, z7⟩ := hC
  have S := S.add (QaL z.b z.o z.l) z3 (fun i hi hbl => by have h1 := hlt4 i hi; have h2 := hbl.1; have h3 := z4.resolve_left hbl.2; omega)
  have S := S.add (Qay z.l) z6 (fun i hi hbl => by obtain ⟨e, he, q1, q2⟩ := hbl; have h1 := hlt4 i hi; have h3 := (z5 e he).2.resolve_left q2; omega)
  refine Qaj ⟨0, [6]⟩ 60 S fun bs aa w S => ?_
  refine Qcn S fun S => ?_
  refine Qbq S fun bs5 S => ?_
  have hlt5 := fun i hi => S.lt (i := i) hi
  refine Qbg S (X := Dk) (val := fun q => .tuple #[q.v, .int .i64 0]) (C := fun d w' => Dev w.heap.size w' d (List.replicate 40 z32) [] ∧ d.sl ≤ d.sc) (rnew_c w 40 (by omega)) (by kernel_rfl) fun d aa w hC hb4 S => ?_
  obtain ⟨hD, hcap⟩ := hC
  have S := S.add (Qaz d.b d.o d.S) (by show StrAt _ d.b d.o d.S; rw [hD.eS]; exact hD.sA) (fun i hi hbl => by have h1 := hlt5 i hi; have h2 := hbl.1; have h3 := hD.b0.resolve_left (by simp); omega)
  have S := S.add (QaP d.c d.p d.W) (by show WasAt _ d.c d.p d.W; rw [hD.eW]; exact hD.wA) (fun i hi hbl => hbl.2 (by rw [hD.eW]; rfl))
  refine Qaj ⟨0, [7]⟩ 60 S fun bs aa w S => ?_
  refine Qcn S fun S => ?_
  refine Qbq S fun bs6 S => ?_
  have hlt6 := fun i hi => S.lt (i := i) hi
  refine Qbg S (X := Nat) (val := fun g => .agg #[.slice (some ⟨g, 0, none⟩) 4 4]) (C := fun g w' => Qbm w' g 0 zs4 ∧ w.heap.size ≤ g) (rnew4 w) (by kernel_rfl) fun mg aa w hM hb5 S => ?_
  have S := S.add (Qax mg 0 zs4) hM.1 (fun i hi hbl => by have h1 := hlt6 i hi; have h2 := hbl.1; have h3 : _ ≤ mg := hM.2; omega)
  refine Qap 9 60 2 S fun bs aa w S => ?_
  refine QaB 58 S (by rw [IntKind.wrap_i64]; omega : IntKind.i64.wrap ((b : Nat) : Int) = ((b : Nat) : Int)) fun S => ?_
  refine QcC (op := .binOp .rem 3 (.tmp 58) (.const (.int .i64 60)) 3) (ty := 3) (v := .int .i64 ((b % 60 : Nat) : Int)) S (by kernel_rfl) (ex_rem (ki := .i64) (p := (b : Int)) (q := 60) (by kernel_rfl) (by kernel_rfl) (by decide) rfl) fun aa S => ?_
  refine Qah S fun bs aa w S => ?_
  have S := S.sub (F' := [Qax mg 0 zs4, Qaz d.b d.o d.S, QaP d.c d.p d.W, QaL z.b z.o z.l, Qay z.l, Qax cb co cs]) (by intro f hf; simp only [List.mem_cons, List.not_mem_nil, or_false] at hf; rcases hf with rfl | rfl | rfl | rfl | rfl | rfl <;> simp)
  have S2 := S.to [0, 1, 2] (q1S ⟨ca, cs.length, cc, z, some ⟨mg, 0, none⟩, 4, mg, 0, 0, 0⟩ d (b % 60) 0 (atI l 0)) (by kernel_rfl) (by kernel_rfl) (by kernel_rfl) (by kernel_rfl) (by kernel_rfl)
  have hd : dvG l 0 0 d := ⟨hD.g, by rw [stJ_0]; rw [hD.eS]; rfl, hD.eW, hcap, Nat.zero_le _, Nat.zero_le _⟩
  refine QaR (l.length + 1) (by kernel_rfl) ?_
  refine Qag (k' := (.rnd (l.length + 1) (Qa_ sq1C) :: sq1C.k.tail)) (by kernel_rfl) ?_
  exact q1_a w0 l h8 h256 cb co cs l.length ⟨ca, cs.length, cc, z, some ⟨mg, 0, none⟩, 4, mg, 0, 0, 0⟩ z1 z2 (fun e he => ⟨(z5 e he).1, z7 e he⟩) rfl rfl hca (Nat.zero_add _) rfl d (b % 60) 0 0 hd ⟨Nat.zero_le _, fun _ => ⟨rfl, rfl⟩⟩ (by omega) _ rfl aa w S2
end Go.Proofs.Ytfhmdlihnidjoaa
