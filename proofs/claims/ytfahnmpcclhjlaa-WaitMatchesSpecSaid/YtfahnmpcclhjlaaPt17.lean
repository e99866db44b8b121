/-
  Merged: WtM, WtM1, WtM2, WtN
-/
import Derived.Test.YtfahnmpcclhjlaaPt9
import Derived.Test.YtfahnmpcclhjlaaPt1
import Derived.Test.YtfahnmpcclhjlaaPt16
import Derived.Test.YtfahnmpcclhjlaaPt15

/-
  Layer 21: Next and Rouse, program and reference, for every layout, operation and log.
-/
namespace Go.Proofs.Ytfahnmpcclhjlaa
open Go Go.RowKit EX
set_option maxRecDepth 100000
set_option linter.unusedVariables false
set_option linter.unusedSimpArgs false
set_option linter.unusedSectionVars false
theorem seenAt_below {w w' : World} {b o : Nat} {Q : List (Int × Int × Int)} (h : SeenAt w b o Q) (hb : Below w.heap.size w w') : SeenAt w' b o Q := fun j hj => by
  obtain ⟨h1, h2, h3⟩ := h j hj
  exact ⟨cel_below hb h1, cel_below hb h2, cel_below hb h3⟩
/-- A given log, and given reads. -/
abbrev fcLS (v : Value) (l : List (Int × Bool)) (b o : Nat) (Q : List (Int × Int × Int)) : FC := ⟨fun _ => 0, fun _ => 0, fun _ => [], fun w => LogOf w v l ∧ SeenAt w b o Q, fun w w' h g => ⟨logOf_keep h.1 ⟨g.os, g.tape, g.output, g.size, fun k hk => g.block k hk (by simp)⟩, seenAt_below h.2 ⟨g.os, g.tape, g.output, g.size, fun k hk => g.block k hk (by simp)⟩⟩⟩
theorem fcLS_at {w : World} {v : Value} {l : List (Int × Bool)} {b o : Nat} {Q : List (Int × Int × Int)} (h : LogOf w v l) (hA : SeenAt w b o Q) : @FcAt (fcLS v l b o Q) w := ⟨⟨h, hA⟩, fun i j x hx => by cases hx⟩
section
variable [FC]
/-- Rouse of a mask that is not known, of a layout that is not known, where the threads are. -/
def rowG (L : Ly) (m : Int) (ts : List Int) : KnR := fun args => match pvL args with
  | some vs => match Nat.beq vs.length 2 with
    | true => some (EA, 5, ts.length, wakeS L ts, vs.zip [L.v, .int .i64 m])
    | false => none
  | none => none
theorem rowG_ok {L : Ly} {m : Int} {ts : List Int} (hok : L.ok) (h : fsA L m = ts) : RowOk Try.prog 14 (rowG L m ts) := by
  intro args ty sz l cs ps hx
  unfold rowG at hx
  split at hx
  · rename_i vs hv
    cases hl : Nat.beq vs.length 2 with
    | false => rw [hl] at hx; cases hx
    | true =>
      rw [hl] at hx
      simp only [Option.some.injEq, Prod.mk.injEq] at hx
      obtain ⟨rfl, rfl, rfl, rfl, rfl⟩ := hx
      refine ⟨wakeS_bd _ _ _, fun tr B w => ?_⟩
      have e1 : vs = [L.v, .int .i64 m] := zip_eq (Nat.eq_of_beq_eq_true hl) fun q hq => tr q hq
      rw [pvL_den B hv, e1]
      refine (rouse_any L hok m w).mono ?_
      rw [h]
      rintro e w' ⟨v, rfl, h1, h2, h3⟩
      exact ⟨v, rfl, by rw [wakeS_den]; exact h1, fun h0 => h2.2 (List.eq_nil_of_length_eq_zero h0), h3⟩
  · cases hx
end
theorem filter_upto (p q : Nat → Bool) (n : Nat) (hq : ∀ t, q t = decide (t < n)) : ∀ k, ((List.range k).filter p).filter q = (List.range (min k n)).filter p
  | 0 => by simp
  | k + 1 => by
    rw [List.range_succ, List.filter_append, List.filter_append, filter_upto p q n hq k]
    by_cases h : k < n
    · rw [show min (k + 1) n = k + 1 by omega, show min k n = k by omega, List.range_succ, List.filter_append]
      cases hp : p k <;> simp [List.filter, hp, hq, h]
    · rw [show min (k + 1) n = n by omega, show min k n = n by omega]
      cases hp : p k <;> simp [List.filter, hp, hq, h]
theorem fsA_layOf (c : Cf) (n : Nat) (hc : c.t = (n : Int)) (hn : n ≤ 62) (m : Int) : fsA (layOf c) m = ((List.range n).filter fun t : Nat => isIn m (t : Int)).map fun t : Nat => (t : Int) := by
  unfold fsA fsN zsN
  rw [List.take_length]
  unfold bitsL
  rw [List.filter_map, filter_upto _ _ n, show min 62 n = n by omega]
  intro t
  show decide (0 ≤ cellN (t : Int) c.t 4 4 2) = decide (t < n)
  unfold cellN
  rw [hc]
  split
  · rename_i h
    have h2 : ¬t < n := by omega
    simp [h2]
  · rename_i h
    have h2 : t < n := by omega
    simp only [h2, decide_true, decide_eq_true_eq]
    omega
def tt : Value := .bool true
def ff : Value := .bool false
theorem wm_bad (L : Ly) (me k a bb ty ms mk ma : Int) (wa da : Option Addr) (wl wc dl dc : Nat) (sa : Option Addr) (sl sc : Nat) (b o : Nat) (Q : List (Int × Int × Int)) (la : Option Addr) (lc : Nat) (l : List (Int × Bool)) (hR : rightR L = false) (w : World) (hw : LogOf w (.slice la l.length lc) l) (hA : SeenAt w b o Q) : Calls Try.prog 4 #[.agg #[.int .i64 (L.c.t), .int .i64 (L.c.l), .int .i64 (L.c.k), .int .i64 (L.c.s), .int .i64 (L.c.m), .int .i64 (L.clock), .int .i64 (L.stamps), .int .i64 (L.log), .int .i64 (L.fin), .int .i64 (L.thread), .int .i64 (L.lock), .int .i64 (L.loc), .int .i64 (L.size), .int .i64 me, .int .i64 (k), .int .i64 (a), .int .i64 (bb), .int .i64 (ty), .int .i64 (ms), .int .i64 (mk), .int .i64 (ma), .slice sa sl sc, .slice wa wl wc, .slice da dl dc, .slice la l.length lc]] w fun e w' => e = .returned (.bool true) ∧ Below w.heap.size w w' := by
  letI fc : FC := fcLS (.slice la l.length lc) l b o Q
  exact @ex_valG (fcLS (.slice la l.length lc) l b o Q) _ ((kgOr (gk (kn1 9 (.bool true))) (kgAt 10 [L.v] (.v (.bool false))))) ((kgOr_ok (gk_ok (kn1_ok sane21)) (kgAt_ok (by simp [bd]) fun w _ => by have := rright_any L w; rw [hR] at this; simpa [den] using this))) 100000 _ _ [.g [.y (.int .i64 (L.c.t)), .y (.int .i64 (L.c.l)), .y (.int .i64 (L.c.k)), .y (.int .i64 (L.c.s)), .y (.int .i64 (L.c.m)), .y (.int .i64 (L.clock)), .y (.int .i64 (L.stamps)), .y (.int .i64 (L.log)), .y (.int .i64 (L.fin)), .y (.int .i64 (L.thread)), .y (.int .i64 (L.lock)), .y (.int .i64 (L.loc)), .y (.int .i64 (L.size)), .y (.int .i64 (me)), .y (.int .i64 (k)), .y (.int .i64 (a)), .y (.int .i64 (bb)), .y (.int .i64 (ty)), .y (.int .i64 (ms)), .y (.int .i64 (mk)), .y (.int .i64 (ma)), .y (.slice sa sl sc), .y (.slice wa wl wc), .y (.slice da dl dc), .y (.slice la l.length lc)]] [] (_) [(L.v, L.v)] w (by kernel_rfl) (by simp [denL, den]) (by simp [bdL, bd]) (by
    intro q hq
    simp only [List.mem_cons, List.not_mem_nil, or_false] at hq
    rcases hq with rfl <;> first | rfl | (simp only [tt, ff, Value.bool.injEq, decide_eq_false_iff_not, decide_eq_true_eq]; omega) | simp [tt, ff] | simp [tt, ff, *]) (fcLS_at hw hA)
theorem wm_long (L : Ly) (me k a bb ty ms mk ma : Int) (wa da : Option Addr) (wl wc dl dc : Nat) (sa : Option Addr) (sl sc : Nat) (b o : Nat) (Q : List (Int × Int × Int)) (la : Option Addr) (lc : Nat) (l : List (Int × Bool)) (hR : rightR L = true) (hl : 200 < l.length) (w : World) (hw : LogOf w (.slice la l.length lc) l) (hA : SeenAt w b o Q) : Calls Try.prog 4 #[.agg #[.int .i64 (L.c.t), .int .i64 (L.c.l), .int .i64 (L.c.k), .int .i64 (L.c.s), .int .i64 (L.c.m), .int .i64 (L.clock), .int .i64 (L.stamps), .int .i64 (L.log), .int .i64 (L.fin), .int .i64 (L.thread), .int .i64 (L.lock), .int .i64 (L.loc), .int .i64 (L.size), .int .i64 me, .int .i64 (k), .int .i64 (a), .int .i64 (bb), .int .i64 (ty), .int .i64 (ms), .int .i64 (mk), .int .i64 (ma), .slice sa sl sc, .slice wa wl wc, .slice da dl dc, .slice la l.length lc]] w fun e w' => e = .returned (.bool true) ∧ Below w.heap.size w w' := by
  letI fc : FC := fcLS (.slice la l.length lc) l b o Q
  exact @ex_valG (fcLS (.slice la l.length lc) l b o Q) _ ((kgOr (gk (kn1 9 (.bool true))) (kgAt 10 [L.v] (.v (.bool true))))) ((kgOr_ok (gk_ok (kn1_ok sane21)) (kgAt_ok (by simp [bd]) fun w _ => by have := rright_any L w; rw [hR] at this; simpa [den] using this))) 100000 _ _ [.g [.y (.int .i64 (L.c.t)), .y (.int .i64 (L.c.l)), .y (.int .i64 (L.c.k)), .y (.int .i64 (L.c.s)), .y (.int .i64 (L.c.m)), .y (.int .i64 (L.clock)), .y (.int .i64 (L.stamps)), .y (.int .i64 (L.log)), .y (.int .i64 (L.fin)), .y (.int .i64 (L.thread)), .y (.int .i64 (L.lock)), .y (.int .i64 (L.loc)), .y (.int .i64 (L.size)), .y (.int .i64 (me)), .y (.int .i64 (k)), .y (.int .i64 (a)), .y (.int .i64 (bb)), .y (.int .i64 (ty)), .y (.int .i64 (ms)), .y (.int .i64 (mk)), .y (.int .i64 (ma)), .y (.slice sa sl sc), .y (.slice wa wl wc), .y (.slice da dl dc), .y (.slice la l.length lc)]] [tt] (_) [(.bool (decide ((l.length : Int) > 200)), tt), (L.v, L.v)] w (by kernel_rfl) (by simp [denL, den]) (by simp [bdL, bd]) (by
    intro q hq
    simp only [List.mem_cons, List.not_mem_nil, or_false] at hq
    rcases hq with rfl | rfl <;> first | rfl | (simp only [tt, ff, Value.bool.injEq, decide_eq_false_iff_not, decide_eq_true_eq]; omega) | simp [tt, ff] | simp [tt, ff, *]) (fcLS_at hw hA)
theorem wm_many (L : Ly) (me k a bb ty ms mk ma : Int) (wa da : Option Addr) (wl wc dl dc : Nat) (sa : Option Addr) (sl sc : Nat) (b o : Nat) (Q : List (Int × Int × Int)) (la : Option Addr) (lc : Nat) (l : List (Int × Bool)) (hR : rightR L = true) (hl : ¬ 200 < l.length) (hs : 30 < sl) (w : World) (hw : LogOf w (.slice la l.length lc) l) (hA : SeenAt w b o Q) : Calls Try.prog 4 #[.agg #[.int .i64 (L.c.t), .int .i64 (L.c.l), .int .i64 (L.c.k), .int .i64 (L.c.s), .int .i64 (L.c.m), .int .i64 (L.clock), .int .i64 (L.stamps), .int .i64 (L.log), .int .i64 (L.fin), .int .i64 (L.thread), .int .i64 (L.lock), .int .i64 (L.loc), .int .i64 (L.size), .int .i64 me, .int .i64 (k), .int .i64 (a), .int .i64 (bb), .int .i64 (ty), .int .i64 (ms), .int .i64 (mk), .int .i64 (ma), .slice sa sl sc, .slice wa wl wc, .slice da dl dc, .slice la l.length lc]] w fun e w' => e = .returned (.bool true) ∧ Below w.heap.size w w' := by
  letI fc : FC := fcLS (.slice la l.length lc) l b o Q
  exact @ex_valG (fcLS (.slice la l.length lc) l b o Q) _ ((kgOr (gk (kn1 9 (.bool true))) (kgAt 10 [L.v] (.v (.bool true))))) ((kgOr_ok (gk_ok (kn1_ok sane21)) (kgAt_ok (by simp [bd]) fun w _ => by have := rright_any L w; rw [hR] at this; simpa [den] using this))) 100000 _ _ [.g [.y (.int .i64 (L.c.t)), .y (.int .i64 (L.c.l)), .y (.int .i64 (L.c.k)), .y (.int .i64 (L.c.s)), .y (.int .i64 (L.c.m)), .y (.int .i64 (L.clock)), .y (.int .i64 (L.stamps)), .y (.int .i64 (L.log)), .y (.int .i64 (L.fin)), .y (.int .i64 (L.thread)), .y (.int .i64 (L.lock)), .y (.int .i64 (L.loc)), .y (.int .i64 (L.size)), .y (.int .i64 (me)), .y (.int .i64 (k)), .y (.int .i64 (a)), .y (.int .i64 (bb)), .y (.int .i64 (ty)), .y (.int .i64 (ms)), .y (.int .i64 (mk)), .y (.int .i64 (ma)), .y (.slice sa sl sc), .y (.slice wa wl wc), .y (.slice da dl dc), .y (.slice la l.length lc)]] [ff, tt] (_) [(.bool (decide ((sl : Int) > 30)), tt), (.bool (decide ((l.length : Int) > 200)), ff), (L.v, L.v)] w (by kernel_rfl) (by simp [denL, den]) (by simp [bdL, bd]) (by
    intro q hq
    simp only [List.mem_cons, List.not_mem_nil, or_false] at hq
    rcases hq with rfl | rfl | rfl <;> first | rfl | (simp only [tt, ff, Value.bool.injEq, decide_eq_false_iff_not, decide_eq_true_eq]; omega) | simp [tt, ff] | simp [tt, ff, *]) (fcLS_at hw hA)
/-- The arguments. -/
structure WmV where
  cl : Int
  ck : Int
  cs : Int
  cm : Int
  me : Int
  k : Int
  a : Int
  bb : Int
  ty : Int
  ms : Int
  mr : Int
  ma : Int
  wa : Option Addr
  da : Option Addr
  sa : Option Addr
  la : Option Addr
  wl : Nat
  wc : Nat
  dl : Nat
  dc : Nat
  sl : Nat
  sc : Nat
  lc : Nat
  b : Nat
  o : Nat
  Q : List (Int × Int × Int)
  l : List (Int × Bool)
def WmV.L (V : WmV) (n : Int) : Ly := layOf ⟨n, V.cl, V.ck, V.cs, V.cm⟩
def WmV.op (V : WmV) : Value := .agg #[.int .i64 (V.k), .int .i64 (V.a), .int .i64 (V.bb), .int .i64 (V.ty), .int .i64 (V.ms), .int .i64 (V.mr), .int .i64 (V.ma), .slice V.sa V.sl V.sc, .slice V.wa V.wl V.wc, .slice V.da V.dl V.dc]
def WmV.lv (V : WmV) : Value := .slice V.la V.l.length V.lc
def WmV.inv (V : WmV) (n : Int) : Array Value := #[.agg #[.int .i64 (n), .int .i64 (V.cl), .int .i64 (V.ck), .int .i64 (V.cs), .int .i64 (V.cm), .int .i64 (0), .int .i64 (1), .int .i64 (2), .int .i64 (3), .int .i64 (4), .int .i64 (4 + 4 * n), .int .i64 (4 + 4 * n + V.ck), .int .i64 (4 + 4 * n + V.ck + 4 * V.cl), .int .i64 V.me, .int .i64 (V.k), .int .i64 (V.a), .int .i64 (V.bb), .int .i64 (V.ty), .int .i64 (V.ms), .int .i64 (V.mr), .int .i64 (V.ma), .slice V.sa V.sl V.sc, .slice V.wa V.wl V.wc, .slice V.da V.dl V.dc, .slice V.la V.l.length V.lc]]
def WmV.ins (V : WmV) (n : Int) : List SV := [.g [.v (.int .i64 (n)), .y (.int .i64 (V.cl)), .y (.int .i64 (V.ck)), .y (.int .i64 (V.cs)), .y (.int .i64 (V.cm)), .y (.int .i64 (0)), .y (.int .i64 (1)), .y (.int .i64 (2)), .y (.int .i64 (3)), .v (.int .i64 (4)), .y (.int .i64 (4 + 4 * n)), .y (.int .i64 (4 + 4 * n + V.ck)), .y (.int .i64 (4 + 4 * n + V.ck + 4 * V.cl)), .y (.int .i64 V.me), .y (.int .i64 (V.k)), .y (.int .i64 (V.a)), .y (.int .i64 (V.bb)), .y (.int .i64 (V.ty)), .y (.int .i64 (V.ms)), .y (.int .i64 (V.mr)), .y (.int .i64 (V.ma)), .y (.slice V.sa V.sl V.sc), .y (.slice V.wa V.wl V.wc), .y (.slice V.da V.dl V.dc), .y (.slice V.la V.l.length V.lc)]]
abbrev WmV.fc (V : WmV) : FC := fcLS V.lv V.l V.b V.o V.Q
def WmV.al (V : WmV) (n : Int) : List Value := [(V.L n).v, .int .i64 V.me, V.op, V.lv]
def WmV.nx (V : WmV) (n : Int) (f : FuncId) (x : Ask ⊕ OutD) : Prop := ∀ w, LogOf w V.lv V.l → SeenAt w V.b V.o V.Q → Calls Try.prog f (V.al n).toArray w fun e w' => e = .returned (nextV x) ∧ Below w.heap.size w w'
section
variable [FC]
def WmV.T (V : WmV) (n : Int) (sv : SV) (ts : List Int) : KnG := kgOr (gk (knOr (kn1 9 (.bool true)) (kn2 20 fun m t => .bool (isIn m t)))) (kgOr (kgAt 10 [(V.L n).v] (.v (.bool true))) (kgOr (kgAt 11 (V.al n) sv) (kgOr (kgAt 12 (V.al n) sv) (kgRow 14 (rowG (V.L n) V.a ts)))))
end
theorem WmV.T_ok (V : WmV) (n : Int) (sv : SV) (x : Ask ⊕ OutD) (ts : List Int) (hsv : bd (fun _ => False) sv) (hd : @den V.fc (fun _ => (0, 0)) sv = nextV x) (hR : rightR (V.L n) = true) (h1 : V.nx n 11 x) (h2 : V.nx n 12 x) (hts : fsA (V.L n) V.a = ts) : @KnGOk V.fc Try.prog (@WmV.T V.fc V n sv ts) := by
  letI fc : FC := V.fc
  exact kgOr_ok (gk_ok (knOr_ok (kn1_ok sane21) (kn2_ok fun m t w h => (rin_any m t h w).mono fun e w' ⟨h1, h2⟩ => ⟨h1, h2 ▸ Below.refl _ _⟩))) (kgOr_ok (kgAt_ok (by simp [bd]) fun w _ => by have := rright_any (V.L n) w; rw [hR] at this; simpa [den] using this)
    (kgOr_ok (kgAt_ok hsv fun w hf => (h1 w hf.1.1 hf.1.2).mono fun e w' ⟨he, hb⟩ => ⟨by rw [he, hd], hb⟩) (kgOr_ok (kgAt_ok hsv fun w hf => (h2 w hf.1.1 hf.1.2).mono fun e w' ⟨he, hb⟩ => ⟨by rw [he, hd], hb⟩) (kgRow_ok (rowG_ok (rightR_ly hR) hts)))))
def WmV.C (V : WmV) (n : Int) (E : Bool) : List (Value × Value) := [((V.L n).v, (V.L n).v), (.int .i64 V.a, .int .i64 V.a), (.bool E, tt), (.bool E, tt), (.bool E, tt), (.bool E, tt)] ++ (V.al n).map (fun v => (v, v)) ++ (V.al n).map (fun v => (v, v)) ++ [(.bool (decide ((V.sl : Int) > 30)), ff), (.bool (decide ((V.l.length : Int) > 200)), ff), ((V.L n).v, (V.L n).v)]
theorem WmV.C_ok (V : WmV) (n : Int) {E : Bool} (hE : E = true) (hl : ¬ 200 < V.l.length) (hs : ¬ 30 < V.sl) : ∀ q ∈ V.C n E, q.1 = q.2 := by
  subst hE
  intro q hq
  simp only [WmV.C, WmV.al, List.map_cons, List.map_nil, List.mem_append, List.mem_cons, List.not_mem_nil, or_false] at hq
  rcases hq with ((hq | hq) | hq) | hq
  · rcases hq with rfl | rfl | rfl | rfl | rfl | rfl <;> rfl
  · rcases hq with rfl | rfl | rfl | rfl <;> rfl
  · rcases hq with rfl | rfl | rfl | rfl <;> rfl
  · rcases hq with rfl | rfl | rfl
    · exact congrArg Value.bool (decide_eq_false (by omega))
    · exact congrArg Value.bool (decide_eq_false (by omega))
    · rfl
def wmB (a : Int) : List (Int × Bool) → List (Value × Value)
  | [] => []
  | q :: r => (.bool (isIn a q.1), .bool q.2) :: (.bool (decide (-9223372036854775808 ≤ a)), tt) :: (.bool (decide (a ≤ 9223372036854775807)), tt) :: wmB a r
theorem wmB_ok {a : Int} (ha : I64 a) : ∀ (l : List (Int × Bool)), (∀ q ∈ l, isIn a q.1 = q.2) → ∀ q ∈ wmB a l, q.1 = q.2
  | [], _, q, hq => by cases hq
  | x :: l, h, q, hq => by
    simp only [wmB, List.mem_cons] at hq
    rcases hq with rfl | rfl | rfl | hq
    · exact congrArg Value.bool (h x (by simp))
    · exact congrArg Value.bool (decide_eq_true ha.1)
    · exact congrArg Value.bool (decide_eq_true ha.2)
    · exact wmB_ok ha l (fun q hq => h q (by simp [hq])) q hq
def wmO (bl : List Bool) : List Value := [ff, ff, tt, tt, tt, tt] ++ bl.map Value.bool
abbrev svA (u : Ask) : SV := .t [.g [.y (.int .i64 u.k), .y (.int .i64 u.p), .y (.int .i64 u.o), .y (.int .i64 u.n), .v (.string ByteArray.empty)], .v (.agg #[.int .i64 0, .int .i64 0, .int .i64 0, .int .i64 0, .bool false, .bool false, .int .i64 0]), .v (.bool false)]
abbrev svO (u : OutD) : SV := .t [.v (.agg #[.int .i64 0, .int .i64 0, .int .i64 0, .int .i64 0, .string ByteArray.empty]), .g [.y (.int .i64 u.val), .y (.int .i64 u.ver), .y (.int .i64 u.rv), .y (.int .i64 u.st), .y (.bool u.ok), .y (.bool u.lost), .y (.int .i64 u.err)], .v (.bool true)]
abbrev eA (u : Ask) : Bool := (u.k == u.k) && ((u.p == u.p) && ((u.o == u.o) && ((u.n == u.n) && true)))
abbrev eO (u : OutD) : Bool := (u.val == u.val) && ((u.ver == u.ver) && ((u.rv == u.rv) && ((u.st == u.st) && ((u.ok == u.ok) && ((u.lost == u.lost) && ((u.err == u.err) && true))))))
def WmV.goal (V : WmV) (n : Int) : Prop := ∀ w, LogOf w V.lv V.l → SeenAt w V.b V.o V.Q → Calls Try.prog 4 (V.inv n) w fun e w' => e = .returned (.bool true) ∧ Below w.heap.size w w'
theorem wm_run (V : WmV) (n : Int) (sv : SV) (x : Ask ⊕ OutD) (ts : List Int) (E : Bool) (bl : List Bool) (bs : List (Int × Bool)) (hsv : bd (fun _ => False) sv) (hd : @den V.fc (fun _ => (0, 0)) sv = nextV x) (hE : E = true) (hR : rightR (V.L n) = true) (ha : I64 V.a) (hl : ¬ 200 < V.l.length) (hs : ¬ 30 < V.sl) (h1 : V.nx n 11 x) (h2 : V.nx n 12 x) (hts : fsA (V.L n) V.a = ts) (hbs : ∀ q ∈ bs, isIn V.a q.1 = q.2)
    (hk : outE (@goF V.fc Try.prog (@WmV.T V.fc V n sv ts) 100000 (.call 4 (V.ins n)) (st1 (wmO bl))) = some (.v (.bool true), wmB V.a bs ++ V.C n E)) : V.goal n := fun w hw hA =>
  @ex_valG V.fc _ _ (V.T_ok n sv x ts hsv hd hR h1 h2 hts) 100000 _ (V.inv n).toList (V.ins n) (wmO bl) _ _ w hk (by simp [denL, den, WmV.ins, WmV.inv]) (by simp [bdL, bd, WmV.ins]) (fun q hq => (List.mem_append.1 hq).elim (wmB_ok ha bs hbs q) (V.C_ok n hE hl hs q)) (fcLS_at hw hA)
end Go.Proofs.Ytfahnmpcclhjlaa


/-
  Layer 21: the statement's runs.
-/
namespace Go.Proofs.Ytfahnmpcclhjlaa
open Go Go.RowKit EX
set_option maxRecDepth 100000
set_option linter.unusedVariables false
set_option linter.unusedSimpArgs false
theorem wa_1_0 (V : WmV) (hR : rightR (V.L 1) = true) (ha : I64 V.a) (hl : ¬ 200 < V.l.length) (hs : ¬ 30 < V.sl) (u : Ask) (h1 : V.nx 1 11 (.inl u)) (h2 : V.nx 1 12 (.inl u)) (hi : ∀ q ∈ [(0, false)], isIn V.a q.1 = q.2) : V.goal 1 :=
  wm_run V 1 (svA u) (.inl u) [] (eA u) [false] [(0, false)] (by simp [bd, bdL]) (by simp [den, denL, nextV, Ask.v, OutD.v, out0, ask0]) (by simp) hR ha hl hs h1 h2 (by unfold WmV.L; rw [fsA_layOf _ 1 rfl (by omega)]; simp at hi; simp [List.range_succ, List.filter, hi]) hi (by kernel_rfl)
theorem wa_1_1 (V : WmV) (hR : rightR (V.L 1) = true) (ha : I64 V.a) (hl : ¬ 200 < V.l.length) (hs : ¬ 30 < V.sl) (u : Ask) (h1 : V.nx 1 11 (.inl u)) (h2 : V.nx 1 12 (.inl u)) (hi : ∀ q ∈ [(0, true)], isIn V.a q.1 = q.2) : V.goal 1 :=
  wm_run V 1 (svA u) (.inl u) [0] (eA u) [true] [(0, true)] (by simp [bd, bdL]) (by simp [den, denL, nextV, Ask.v, OutD.v, out0, ask0]) (by simp) hR ha hl hs h1 h2 (by unfold WmV.L; rw [fsA_layOf _ 1 rfl (by omega)]; simp at hi; simp [List.range_succ, List.filter, hi]) hi (by kernel_rfl)
theorem wa_2_00 (V : WmV) (hR : rightR (V.L 2) = true) (ha : I64 V.a) (hl : ¬ 200 < V.l.length) (hs : ¬ 30 < V.sl) (u : Ask) (h1 : V.nx 2 11 (.inl u)) (h2 : V.nx 2 12 (.inl u)) (hi : ∀ q ∈ [(1, false), (0, false)], isIn V.a q.1 = q.2) : V.goal 2 :=
  wm_run V 2 (svA u) (.inl u) [] (eA u) [false, false] [(1, false), (0, false)] (by simp [bd, bdL]) (by simp [den, denL, nextV, Ask.v, OutD.v, out0, ask0]) (by simp) hR ha hl hs h1 h2 (by unfold WmV.L; rw [fsA_layOf _ 2 rfl (by omega)]; simp at hi; simp [List.range_succ, List.filter, hi]) hi (by kernel_rfl)
theorem wa_2_01 (V : WmV) (hR : rightR (V.L 2) = true) (ha : I64 V.a) (hl : ¬ 200 < V.l.length) (hs : ¬ 30 < V.sl) (u : Ask) (h1 : V.nx 2 11 (.inl u)) (h2 : V.nx 2 12 (.inl u)) (hi : ∀ q ∈ [(1, true), (0, false)], isIn V.a q.1 = q.2) : V.goal 2 :=
  wm_run V 2 (svA u) (.inl u) [1] (eA u) [false, true] [(1, true), (0, false)] (by simp [bd, bdL]) (by simp [den, denL, nextV, Ask.v, OutD.v, out0, ask0]) (by simp) hR ha hl hs h1 h2 (by unfold WmV.L; rw [fsA_layOf _ 2 rfl (by omega)]; simp at hi; simp [List.range_succ, List.filter, hi]) hi (by kernel_rfl)
theorem wa_2_10 (V : WmV) (hR : rightR (V.L 2) = true) (ha : I64 V.a) (hl : ¬ 200 < V.l.length) (hs : ¬ 30 < V.sl) (u : Ask) (h1 : V.nx 2 11 (.inl u)) (h2 : V.nx 2 12 (.inl u)) (hi : ∀ q ∈ [(1, false), (0, true)], isIn V.a q.1 = q.2) : V.goal 2 :=
  wm_run V 2 (svA u) (.inl u) [0] (eA u) [true, false] [(1, false), (0, true)] (by simp [bd, bdL]) (by simp [den, denL, nextV, Ask.v, OutD.v, out0, ask0]) (by simp) hR ha hl hs h1 h2 (by unfold WmV.L; rw [fsA_layOf _ 2 rfl (by omega)]; simp at hi; simp [List.range_succ, List.filter, hi]) hi (by kernel_rfl)
theorem wa_2_11 (V : WmV) (hR : rightR (V.L 2) = true) (ha : I64 V.a) (hl : ¬ 200 < V.l.length) (hs : ¬ 30 < V.sl) (u : Ask) (h1 : V.nx 2 11 (.inl u)) (h2 : V.nx 2 12 (.inl u)) (hi : ∀ q ∈ [(1, true), (0, true)], isIn V.a q.1 = q.2) : V.goal 2 :=
  wm_run V 2 (svA u) (.inl u) [0, 1] (eA u) [true, true] [(1, true), (0, true)] (by simp [bd, bdL]) (by simp [den, denL, nextV, Ask.v, OutD.v, out0, ask0]) (by simp) hR ha hl hs h1 h2 (by unfold WmV.L; rw [fsA_layOf _ 2 rfl (by omega)]; simp at hi; simp [List.range_succ, List.filter, hi]) hi (by kernel_rfl)
theorem wa_3_000 (V : WmV) (hR : rightR (V.L 3) = true) (ha : I64 V.a) (hl : ¬ 200 < V.l.length) (hs : ¬ 30 < V.sl) (u : Ask) (h1 : V.nx 3 11 (.inl u)) (h2 : V.nx 3 12 (.inl u)) (hi : ∀ q ∈ [(2, false), (1, false), (0, false)], isIn V.a q.1 = q.2) : V.goal 3 :=
  wm_run V 3 (svA u) (.inl u) [] (eA u) [false, false, false] [(2, false), (1, false), (0, false)] (by simp [bd, bdL]) (by simp [den, denL, nextV, Ask.v, OutD.v, out0, ask0]) (by simp) hR ha hl hs h1 h2 (by unfold WmV.L; rw [fsA_layOf _ 3 rfl (by omega)]; simp at hi; simp [List.range_succ, List.filter, hi]) hi (by kernel_rfl)
theorem wa_3_001 (V : WmV) (hR : rightR (V.L 3) = true) (ha : I64 V.a) (hl : ¬ 200 < V.l.length) (hs : ¬ 30 < V.sl) (u : Ask) (h1 : V.nx 3 11 (.inl u)) (h2 : V.nx 3 12 (.inl u)) (hi : ∀ q ∈ [(2, true), (1, false), (0, false)], isIn V.a q.1 = q.2) : V.goal 3 :=
  wm_run V 3 (svA u) (.inl u) [2] (eA u) [false, false, true] [(2, true), (1, false), (0, false)] (by simp [bd, bdL]) (by simp [den, denL, nextV, Ask.v, OutD.v, out0, ask0]) (by simp) hR ha hl hs h1 h2 (by unfold WmV.L; rw [fsA_layOf _ 3 rfl (by omega)]; simp at hi; simp [List.range_succ, List.filter, hi]) hi (by kernel_rfl)
theorem wa_3_010 (V : WmV) (hR : rightR (V.L 3) = true) (ha : I64 V.a) (hl : ¬ 200 < V.l.length) (hs : ¬ 30 < V.sl) (u : Ask) (h1 : V.nx 3 11 (.inl u)) (h2 : V.nx 3 12 (.inl u)) (hi : ∀ q ∈ [(2, false), (1, true), (0, false)], isIn V.a q.1 = q.2) : V.goal 3 :=
  wm_run V 3 (svA u) (.inl u) [1] (eA u) [false, true, false] [(2, false), (1, true), (0, false)] (by simp [bd, bdL]) (by simp [den, denL, nextV, Ask.v, OutD.v, out0, ask0]) (by simp) hR ha hl hs h1 h2 (by unfold WmV.L; rw [fsA_layOf _ 3 rfl (by omega)]; simp at hi; simp [List.range_succ, List.filter, hi]) hi (by kernel_rfl)
theorem wa_3_011 (V : WmV) (hR : rightR (V.L 3) = true) (ha : I64 V.a) (hl : ¬ 200 < V.l.length) (hs : ¬ 30 < V.sl) (u : Ask) (h1 : V.nx 3 11 (.inl u)) (h2 : V.nx 3 12 (.inl u)) (hi : ∀ q ∈ [(2, true), (1, true), (0, false)], isIn V.a q.1 = q.2) : V.goal 3 :=
  wm_run V 3 (svA u) (.inl u) [1, 2] (eA u) [false, true, true] [(2, true), (1, true), (0, false)] (by simp [bd, bdL]) (by simp [den, denL, nextV, Ask.v, OutD.v, out0, ask0]) (by simp) hR ha hl hs h1 h2 (by unfold WmV.L; rw [fsA_layOf _ 3 rfl (by omega)]; simp at hi; simp [List.range_succ, List.filter, hi]) hi (by kernel_rfl)
theorem wa_3_100 (V : WmV) (hR : rightR (V.L 3) = true) (ha : I64 V.a) (hl : ¬ 200 < V.l.length) (hs : ¬ 30 < V.sl) (u : Ask) (h1 : V.nx 3 11 (.inl u)) (h2 : V.nx 3 12 (.inl u)) (hi : ∀ q ∈ [(2, false), (1, false), (0, true)], isIn V.a q.1 = q.2) : V.goal 3 :=
  wm_run V 3 (svA u) (.inl u) [0] (eA u) [true, false, false] [(2, false), (1, false), (0, true)] (by simp [bd, bdL]) (by simp [den, denL, nextV, Ask.v, OutD.v, out0, ask0]) (by simp) hR ha hl hs h1 h2 (by unfold WmV.L; rw [fsA_layOf _ 3 rfl (by omega)]; simp at hi; simp [List.range_succ, List.filter, hi]) hi (by kernel_rfl)
theorem wa_3_101 (V : WmV) (hR : rightR (V.L 3) = true) (ha : I64 V.a) (hl : ¬ 200 < V.l.length) (hs : ¬ 30 < V.sl) (u : Ask) (h1 : V.nx 3 11 (.inl u)) (h2 : V.nx 3 12 (.inl u)) (hi : ∀ q ∈ [(2, true), (1, false), (0, true)], isIn V.a q.1 = q.2) : V.goal 3 :=
  wm_run V 3 (svA u) (.inl u) [0, 2] (eA u) [true, false, true] [(2, true), (1, false), (0, true)] (by simp [bd, bdL]) (by simp [den, denL, nextV, Ask.v, OutD.v, out0, ask0]) (by simp) hR ha hl hs h1 h2 (by unfold WmV.L; rw [fsA_layOf _ 3 rfl (by omega)]; simp at hi; simp [List.range_succ, List.filter, hi]) hi (by kernel_rfl)
theorem wa_3_110 (V : WmV) (hR : rightR (V.L 3) = true) (ha : I64 V.a) (hl : ¬ 200 < V.l.length) (hs : ¬ 30 < V.sl) (u : Ask) (h1 : V.nx 3 11 (.inl u)) (h2 : V.nx 3 12 (.inl u)) (hi : ∀ q ∈ [(2, false), (1, true), (0, true)], isIn V.a q.1 = q.2) : V.goal 3 :=
  wm_run V 3 (svA u) (.inl u) [0, 1] (eA u) [true, true, false] [(2, false), (1, true), (0, true)] (by simp [bd, bdL]) (by simp [den, denL, nextV, Ask.v, OutD.v, out0, ask0]) (by simp) hR ha hl hs h1 h2 (by unfold WmV.L; rw [fsA_layOf _ 3 rfl (by omega)]; simp at hi; simp [List.range_succ, List.filter, hi]) hi (by kernel_rfl)
theorem wa_3_111 (V : WmV) (hR : rightR (V.L 3) = true) (ha : I64 V.a) (hl : ¬ 200 < V.l.length) (hs : ¬ 30 < V.sl) (u : Ask) (h1 : V.nx 3 11 (.inl u)) (h2 : V.nx 3 12 (.inl u)) (hi : ∀ q ∈ [(2, true), (1, true), (0, true)], isIn V.a q.1 = q.2) : V.goal 3 :=
  wm_run V 3 (svA u) (.inl u) [0, 1, 2] (eA u) [true, true, true] [(2, true), (1, true), (0, true)] (by simp [bd, bdL]) (by simp [den, denL, nextV, Ask.v, OutD.v, out0, ask0]) (by simp) hR ha hl hs h1 h2 (by unfold WmV.L; rw [fsA_layOf _ 3 rfl (by omega)]; simp at hi; simp [List.range_succ, List.filter, hi]) hi (by kernel_rfl)
theorem wa_4_0000 (V : WmV) (hR : rightR (V.L 4) = true) (ha : I64 V.a) (hl : ¬ 200 < V.l.length) (hs : ¬ 30 < V.sl) (u : Ask) (h1 : V.nx 4 11 (.inl u)) (h2 : V.nx 4 12 (.inl u)) (hi : ∀ q ∈ [(3, false), (2, false), (1, false), (0, false)], isIn V.a q.1 = q.2) : V.goal 4 :=
  wm_run V 4 (svA u) (.inl u) [] (eA u) [false, false, false, false] [(3, false), (2, false), (1, false), (0, false)] (by simp [bd, bdL]) (by simp [den, denL, nextV, Ask.v, OutD.v, out0, ask0]) (by simp) hR ha hl hs h1 h2 (by unfold WmV.L; rw [fsA_layOf _ 4 rfl (by omega)]; simp at hi; simp [List.range_succ, List.filter, hi]) hi (by kernel_rfl)
theorem wa_4_0001 (V : WmV) (hR : rightR (V.L 4) = true) (ha : I64 V.a) (hl : ¬ 200 < V.l.length) (hs : ¬ 30 < V.sl) (u : Ask) (h1 : V.nx 4 11 (.inl u)) (h2 : V.nx 4 12 (.inl u)) (hi : ∀ q ∈ [(3, true), (2, false), (1, false), (0, false)], isIn V.a q.1 = q.2) : V.goal 4 :=
  wm_run V 4 (svA u) (.inl u) [3] (eA u) [false, false, false, true] [(3, true), (2, false), (1, false), (0, false)] (by simp [bd, bdL]) (by simp [den, denL, nextV, Ask.v, OutD.v, out0, ask0]) (by simp) hR ha hl hs h1 h2 (by unfold WmV.L; rw [fsA_layOf _ 4 rfl (by omega)]; simp at hi; simp [List.range_succ, List.filter, hi]) hi (by kernel_rfl)
theorem wa_4_0010 (V : WmV) (hR : rightR (V.L 4) = true) (ha : I64 V.a) (hl : ¬ 200 < V.l.length) (hs : ¬ 30 < V.sl) (u : Ask) (h1 : V.nx 4 11 (.inl u)) (h2 : V.nx 4 12 (.inl u)) (hi : ∀ q ∈ [(3, false), (2, true), (1, false), (0, false)], isIn V.a q.1 = q.2) : V.goal 4 :=
  wm_run V 4 (svA u) (.inl u) [2] (eA u) [false, false, true, false] [(3, false), (2, true), (1, false), (0, false)] (by simp [bd, bdL]) (by simp [den, denL, nextV, Ask.v, OutD.v, out0, ask0]) (by simp) hR ha hl hs h1 h2 (by unfold WmV.L; rw [fsA_layOf _ 4 rfl (by omega)]; simp at hi; simp [List.range_succ, List.filter, hi]) hi (by kernel_rfl)
theorem wa_4_0011 (V : WmV) (hR : rightR (V.L 4) = true) (ha : I64 V.a) (hl : ¬ 200 < V.l.length) (hs : ¬ 30 < V.sl) (u : Ask) (h1 : V.nx 4 11 (.inl u)) (h2 : V.nx 4 12 (.inl u)) (hi : ∀ q ∈ [(3, true), (2, true), (1, false), (0, false)], isIn V.a q.1 = q.2) : V.goal 4 :=
  wm_run V 4 (svA u) (.inl u) [2, 3] (eA u) [false, false, true, true] [(3, true), (2, true), (1, false), (0, false)] (by simp [bd, bdL]) (by simp [den, denL, nextV, Ask.v, OutD.v, out0, ask0]) (by simp) hR ha hl hs h1 h2 (by unfold WmV.L; rw [fsA_layOf _ 4 rfl (by omega)]; simp at hi; simp [List.range_succ, List.filter, hi]) hi (by kernel_rfl)
theorem wa_4_0100 (V : WmV) (hR : rightR (V.L 4) = true) (ha : I64 V.a) (hl : ¬ 200 < V.l.length) (hs : ¬ 30 < V.sl) (u : Ask) (h1 : V.nx 4 11 (.inl u)) (h2 : V.nx 4 12 (.inl u)) (hi : ∀ q ∈ [(3, false), (2, false), (1, true), (0, false)], isIn V.a q.1 = q.2) : V.goal 4 :=
  wm_run V 4 (svA u) (.inl u) [1] (eA u) [false, true, false, false] [(3, false), (2, false), (1, true), (0, false)] (by simp [bd, bdL]) (by simp [den, denL, nextV, Ask.v, OutD.v, out0, ask0]) (by simp) hR ha hl hs h1 h2 (by unfold WmV.L; rw [fsA_layOf _ 4 rfl (by omega)]; simp at hi; simp [List.range_succ, List.filter, hi]) hi (by kernel_rfl)
theorem wa_4_0101 (V : WmV) (hR : rightR (V.L 4) = true) (ha : I64 V.a) (hl : ¬ 200 < V.l.length) (hs : ¬ 30 < V.sl) (u : Ask) (h1 : V.nx 4 11 (.inl u)) (h2 : V.nx 4 12 (.inl u)) (hi : ∀ q ∈ [(3, true), (2, false), (1, true), (0, false)], isIn V.a q.1 = q.2) : V.goal 4 :=
  wm_run V 4 (svA u) (.inl u) [1, 3] (eA u) [false, true, false, true] [(3, true), (2, false), (1, true), (0, false)] (by simp [bd, bdL]) (by simp [den, denL, nextV, Ask.v, OutD.v, out0, ask0]) (by simp) hR ha hl hs h1 h2 (by unfold WmV.L; rw [fsA_layOf _ 4 rfl (by omega)]; simp at hi; simp [List.range_succ, List.filter, hi]) hi (by kernel_rfl)
theorem wa_4_0110 (V : WmV) (hR : rightR (V.L 4) = true) (ha : I64 V.a) (hl : ¬ 200 < V.l.length) (hs : ¬ 30 < V.sl) (u : Ask) (h1 : V.nx 4 11 (.inl u)) (h2 : V.nx 4 12 (.inl u)) (hi : ∀ q ∈ [(3, false), (2, true), (1, true), (0, false)], isIn V.a q.1 = q.2) : V.goal 4 :=
  wm_run V 4 (svA u) (.inl u) [1, 2] (eA u) [false, true, true, false] [(3, false), (2, true), (1, true), (0, false)] (by simp [bd, bdL]) (by simp [den, denL, nextV, Ask.v, OutD.v, out0, ask0]) (by simp) hR ha hl hs h1 h2 (by unfold WmV.L; rw [fsA_layOf _ 4 rfl (by omega)]; simp at hi; simp [List.range_succ, List.filter, hi]) hi (by kernel_rfl)
theorem wa_4_0111 (V : WmV) (hR : rightR (V.L 4) = true) (ha : I64 V.a) (hl : ¬ 200 < V.l.length) (hs : ¬ 30 < V.sl) (u : Ask) (h1 : V.nx 4 11 (.inl u)) (h2 : V.nx 4 12 (.inl u)) (hi : ∀ q ∈ [(3, true), (2, true), (1, true), (0, false)], isIn V.a q.1 = q.2) : V.goal 4 :=
  wm_run V 4 (svA u) (.inl u) [1, 2, 3] (eA u) [false, true, true, true] [(3, true), (2, true), (1, true), (0, false)] (by simp [bd, bdL]) (by simp [den, denL, nextV, Ask.v, OutD.v, out0, ask0]) (by simp) hR ha hl hs h1 h2 (by unfold WmV.L; rw [fsA_layOf _ 4 rfl (by omega)]; simp at hi; simp [List.range_succ, List.filter, hi]) hi (by kernel_rfl)
theorem wa_4_1000 (V : WmV) (hR : rightR (V.L 4) = true) (ha : I64 V.a) (hl : ¬ 200 < V.l.length) (hs : ¬ 30 < V.sl) (u : Ask) (h1 : V.nx 4 11 (.inl u)) (h2 : V.nx 4 12 (.inl u)) (hi : ∀ q ∈ [(3, false), (2, false), (1, false), (0, true)], isIn V.a q.1 = q.2) : V.goal 4 :=
  wm_run V 4 (svA u) (.inl u) [0] (eA u) [true, false, false, false] [(3, false), (2, false), (1, false), (0, true)] (by simp [bd, bdL]) (by simp [den, denL, nextV, Ask.v, OutD.v, out0, ask0]) (by simp) hR ha hl hs h1 h2 (by unfold WmV.L; rw [fsA_layOf _ 4 rfl (by omega)]; simp at hi; simp [List.range_succ, List.filter, hi]) hi (by kernel_rfl)
theorem wa_4_1001 (V : WmV) (hR : rightR (V.L 4) = true) (ha : I64 V.a) (hl : ¬ 200 < V.l.length) (hs : ¬ 30 < V.sl) (u : Ask) (h1 : V.nx 4 11 (.inl u)) (h2 : V.nx 4 12 (.inl u)) (hi : ∀ q ∈ [(3, true), (2, false), (1, false), (0, true)], isIn V.a q.1 = q.2) : V.goal 4 :=
  wm_run V 4 (svA u) (.inl u) [0, 3] (eA u) [true, false, false, true] [(3, true), (2, false), (1, false), (0, true)] (by simp [bd, bdL]) (by simp [den, denL, nextV, Ask.v, OutD.v, out0, ask0]) (by simp) hR ha hl hs h1 h2 (by unfold WmV.L; rw [fsA_layOf _ 4 rfl (by omega)]; simp at hi; simp [List.range_succ, List.filter, hi]) hi (by kernel_rfl)
theorem wa_4_1010 (V : WmV) (hR : rightR (V.L 4) = true) (ha : I64 V.a) (hl : ¬ 200 < V.l.length) (hs : ¬ 30 < V.sl) (u : Ask) (h1 : V.nx 4 11 (.inl u)) (h2 : V.nx 4 12 (.inl u)) (hi : ∀ q ∈ [(3, false), (2, true), (1, false), (0, true)], isIn V.a q.1 = q.2) : V.goal 4 :=
  wm_run V 4 (svA u) (.inl u) [0, 2] (eA u) [true, false, true, false] [(3, false), (2, true), (1, false), (0, true)] (by simp [bd, bdL]) (by simp [den, denL, nextV, Ask.v, OutD.v, out0, ask0]) (by simp) hR ha hl hs h1 h2 (by unfold WmV.L; rw [fsA_layOf _ 4 rfl (by omega)]; simp at hi; simp [List.range_succ, List.filter, hi]) hi (by kernel_rfl)
theorem wa_4_1011 (V : WmV) (hR : rightR (V.L 4) = true) (ha : I64 V.a) (hl : ¬ 200 < V.l.length) (hs : ¬ 30 < V.sl) (u : Ask) (h1 : V.nx 4 11 (.inl u)) (h2 : V.nx 4 12 (.inl u)) (hi : ∀ q ∈ [(3, true), (2, true), (1, false), (0, true)], isIn V.a q.1 = q.2) : V.goal 4 :=
  wm_run V 4 (svA u) (.inl u) [0, 2, 3] (eA u) [true, false, true, true] [(3, true), (2, true), (1, false), (0, true)] (by simp [bd, bdL]) (by simp [den, denL, nextV, Ask.v, OutD.v, out0, ask0]) (by simp) hR ha hl hs h1 h2 (by unfold WmV.L; rw [fsA_layOf _ 4 rfl (by omega)]; simp at hi; simp [List.range_succ, List.filter, hi]) hi (by kernel_rfl)
theorem wa_4_1100 (V : WmV) (hR : rightR (V.L 4) = true) (ha : I64 V.a) (hl : ¬ 200 < V.l.length) (hs : ¬ 30 < V.sl) (u : Ask) (h1 : V.nx 4 11 (.inl u)) (h2 : V.nx 4 12 (.inl u)) (hi : ∀ q ∈ [(3, false), (2, false), (1, true), (0, true)], isIn V.a q.1 = q.2) : V.goal 4 :=
  wm_run V 4 (svA u) (.inl u) [0, 1] (eA u) [true, true, false, false] [(3, false), (2, false), (1, true), (0, true)] (by simp [bd, bdL]) (by simp [den, denL, nextV, Ask.v, OutD.v, out0, ask0]) (by simp) hR ha hl hs h1 h2 (by unfold WmV.L; rw [fsA_layOf _ 4 rfl (by omega)]; simp at hi; simp [List.range_succ, List.filter, hi]) hi (by kernel_rfl)
theorem wa_4_1101 (V : WmV) (hR : rightR (V.L 4) = true) (ha : I64 V.a) (hl : ¬ 200 < V.l.length) (hs : ¬ 30 < V.sl) (u : Ask) (h1 : V.nx 4 11 (.inl u)) (h2 : V.nx 4 12 (.inl u)) (hi : ∀ q ∈ [(3, true), (2, false), (1, true), (0, true)], isIn V.a q.1 = q.2) : V.goal 4 :=
  wm_run V 4 (svA u) (.inl u) [0, 1, 3] (eA u) [true, true, false, true] [(3, true), (2, false), (1, true), (0, true)] (by simp [bd, bdL]) (by simp [den, denL, nextV, Ask.v, OutD.v, out0, ask0]) (by simp) hR ha hl hs h1 h2 (by unfold WmV.L; rw [fsA_layOf _ 4 rfl (by omega)]; simp at hi; simp [List.range_succ, List.filter, hi]) hi (by kernel_rfl)
theorem wa_4_1110 (V : WmV) (hR : rightR (V.L 4) = true) (ha : I64 V.a) (hl : ¬ 200 < V.l.length) (hs : ¬ 30 < V.sl) (u : Ask) (h1 : V.nx 4 11 (.inl u)) (h2 : V.nx 4 12 (.inl u)) (hi : ∀ q ∈ [(3, false), (2, true), (1, true), (0, true)], isIn V.a q.1 = q.2) : V.goal 4 :=
  wm_run V 4 (svA u) (.inl u) [0, 1, 2] (eA u) [true, true, true, false] [(3, false), (2, true), (1, true), (0, true)] (by simp [bd, bdL]) (by simp [den, denL, nextV, Ask.v, OutD.v, out0, ask0]) (by simp) hR ha hl hs h1 h2 (by unfold WmV.L; rw [fsA_layOf _ 4 rfl (by omega)]; simp at hi; simp [List.range_succ, List.filter, hi]) hi (by kernel_rfl)
theorem wa_4_1111 (V : WmV) (hR : rightR (V.L 4) = true) (ha : I64 V.a) (hl : ¬ 200 < V.l.length) (hs : ¬ 30 < V.sl) (u : Ask) (h1 : V.nx 4 11 (.inl u)) (h2 : V.nx 4 12 (.inl u)) (hi : ∀ q ∈ [(3, true), (2, true), (1, true), (0, true)], isIn V.a q.1 = q.2) : V.goal 4 :=
  wm_run V 4 (svA u) (.inl u) [0, 1, 2, 3] (eA u) [true, true, true, true] [(3, true), (2, true), (1, true), (0, true)] (by simp [bd, bdL]) (by simp [den, denL, nextV, Ask.v, OutD.v, out0, ask0]) (by simp) hR ha hl hs h1 h2 (by unfold WmV.L; rw [fsA_layOf _ 4 rfl (by omega)]; simp at hi; simp [List.range_succ, List.filter, hi]) hi (by kernel_rfl)
end Go.Proofs.Ytfahnmpcclhjlaa


/-
  Layer 21: the statement's runs.
-/
namespace Go.Proofs.Ytfahnmpcclhjlaa
open Go Go.RowKit EX
set_option maxRecDepth 100000
set_option linter.unusedVariables false
set_option linter.unusedSimpArgs false
theorem wo_1_0 (V : WmV) (hR : rightR (V.L 1) = true) (ha : I64 V.a) (hl : ¬ 200 < V.l.length) (hs : ¬ 30 < V.sl) (u : OutD) (h1 : V.nx 1 11 (.inr u)) (h2 : V.nx 1 12 (.inr u)) (hi : ∀ q ∈ [(0, false)], isIn V.a q.1 = q.2) : V.goal 1 :=
  wm_run V 1 (svO u) (.inr u) [] (eO u) [false] [(0, false)] (by simp [bd, bdL]) (by simp [den, denL, nextV, Ask.v, OutD.v, out0, ask0]) (by simp) hR ha hl hs h1 h2 (by unfold WmV.L; rw [fsA_layOf _ 1 rfl (by omega)]; simp at hi; simp [List.range_succ, List.filter, hi]) hi (by kernel_rfl)
theorem wo_1_1 (V : WmV) (hR : rightR (V.L 1) = true) (ha : I64 V.a) (hl : ¬ 200 < V.l.length) (hs : ¬ 30 < V.sl) (u : OutD) (h1 : V.nx 1 11 (.inr u)) (h2 : V.nx 1 12 (.inr u)) (hi : ∀ q ∈ [(0, true)], isIn V.a q.1 = q.2) : V.goal 1 :=
  wm_run V 1 (svO u) (.inr u) [0] (eO u) [true] [(0, true)] (by simp [bd, bdL]) (by simp [den, denL, nextV, Ask.v, OutD.v, out0, ask0]) (by simp) hR ha hl hs h1 h2 (by unfold WmV.L; rw [fsA_layOf _ 1 rfl (by omega)]; simp at hi; simp [List.range_succ, List.filter, hi]) hi (by kernel_rfl)
theorem wo_2_00 (V : WmV) (hR : rightR (V.L 2) = true) (ha : I64 V.a) (hl : ¬ 200 < V.l.length) (hs : ¬ 30 < V.sl) (u : OutD) (h1 : V.nx 2 11 (.inr u)) (h2 : V.nx 2 12 (.inr u)) (hi : ∀ q ∈ [(1, false), (0, false)], isIn V.a q.1 = q.2) : V.goal 2 :=
  wm_run V 2 (svO u) (.inr u) [] (eO u) [false, false] [(1, false), (0, false)] (by simp [bd, bdL]) (by simp [den, denL, nextV, Ask.v, OutD.v, out0, ask0]) (by simp) hR ha hl hs h1 h2 (by unfold WmV.L; rw [fsA_layOf _ 2 rfl (by omega)]; simp at hi; simp [List.range_succ, List.filter, hi]) hi (by kernel_rfl)
theorem wo_2_01 (V : WmV) (hR : rightR (V.L 2) = true) (ha : I64 V.a) (hl : ¬ 200 < V.l.length) (hs : ¬ 30 < V.sl) (u : OutD) (h1 : V.nx 2 11 (.inr u)) (h2 : V.nx 2 12 (.inr u)) (hi : ∀ q ∈ [(1, true), (0, false)], isIn V.a q.1 = q.2) : V.goal 2 :=
  wm_run V 2 (svO u) (.inr u) [1] (eO u) [false, true] [(1, true), (0, false)] (by simp [bd, bdL]) (by simp [den, denL, nextV, Ask.v, OutD.v, out0, ask0]) (by simp) hR ha hl hs h1 h2 (by unfold WmV.L; rw [fsA_layOf _ 2 rfl (by omega)]; simp at hi; simp [List.range_succ, List.filter, hi]) hi (by kernel_rfl)
theorem wo_2_10 (V : WmV) (hR : rightR (V.L 2) = true) (ha : I64 V.a) (hl : ¬ 200 < V.l.length) (hs : ¬ 30 < V.sl) (u : OutD) (h1 : V.nx 2 11 (.inr u)) (h2 : V.nx 2 12 (.inr u)) (hi : ∀ q ∈ [(1, false), (0, true)], isIn V.a q.1 = q.2) : V.goal 2 :=
  wm_run V 2 (svO u) (.inr u) [0] (eO u) [true, false] [(1, false), (0, true)] (by simp [bd, bdL]) (by simp [den, denL, nextV, Ask.v, OutD.v, out0, ask0]) (by simp) hR ha hl hs h1 h2 (by unfold WmV.L; rw [fsA_layOf _ 2 rfl (by omega)]; simp at hi; simp [List.range_succ, List.filter, hi]) hi (by kernel_rfl)
theorem wo_2_11 (V : WmV) (hR : rightR (V.L 2) = true) (ha : I64 V.a) (hl : ¬ 200 < V.l.length) (hs : ¬ 30 < V.sl) (u : OutD) (h1 : V.nx 2 11 (.inr u)) (h2 : V.nx 2 12 (.inr u)) (hi : ∀ q ∈ [(1, true), (0, true)], isIn V.a q.1 = q.2) : V.goal 2 :=
  wm_run V 2 (svO u) (.inr u) [0, 1] (eO u) [true, true] [(1, true), (0, true)] (by simp [bd, bdL]) (by simp [den, denL, nextV, Ask.v, OutD.v, out0, ask0]) (by simp) hR ha hl hs h1 h2 (by unfold WmV.L; rw [fsA_layOf _ 2 rfl (by omega)]; simp at hi; simp [List.range_succ, List.filter, hi]) hi (by kernel_rfl)
theorem wo_3_000 (V : WmV) (hR : rightR (V.L 3) = true) (ha : I64 V.a) (hl : ¬ 200 < V.l.length) (hs : ¬ 30 < V.sl) (u : OutD) (h1 : V.nx 3 11 (.inr u)) (h2 : V.nx 3 12 (.inr u)) (hi : ∀ q ∈ [(2, false), (1, false), (0, false)], isIn V.a q.1 = q.2) : V.goal 3 :=
  wm_run V 3 (svO u) (.inr u) [] (eO u) [false, false, false] [(2, false), (1, false), (0, false)] (by simp [bd, bdL]) (by simp [den, denL, nextV, Ask.v, OutD.v, out0, ask0]) (by simp) hR ha hl hs h1 h2 (by unfold WmV.L; rw [fsA_layOf _ 3 rfl (by omega)]; simp at hi; simp [List.range_succ, List.filter, hi]) hi (by kernel_rfl)
theorem wo_3_001 (V : WmV) (hR : rightR (V.L 3) = true) (ha : I64 V.a) (hl : ¬ 200 < V.l.length) (hs : ¬ 30 < V.sl) (u : OutD) (h1 : V.nx 3 11 (.inr u)) (h2 : V.nx 3 12 (.inr u)) (hi : ∀ q ∈ [(2, true), (1, false), (0, false)], isIn V.a q.1 = q.2) : V.goal 3 :=
  wm_run V 3 (svO u) (.inr u) [2] (eO u) [false, false, true] [(2, true), (1, false), (0, false)] (by simp [bd, bdL]) (by simp [den, denL, nextV, Ask.v, OutD.v, out0, ask0]) (by simp) hR ha hl hs h1 h2 (by unfold WmV.L; rw [fsA_layOf _ 3 rfl (by omega)]; simp at hi; simp [List.range_succ, List.filter, hi]) hi (by kernel_rfl)
theorem wo_3_010 (V : WmV) (hR : rightR (V.L 3) = true) (ha : I64 V.a) (hl : ¬ 200 < V.l.length) (hs : ¬ 30 < V.sl) (u : OutD) (h1 : V.nx 3 11 (.inr u)) (h2 : V.nx 3 12 (.inr u)) (hi : ∀ q ∈ [(2, false), (1, true), (0, false)], isIn V.a q.1 = q.2) : V.goal 3 :=
  wm_run V 3 (svO u) (.inr u) [1] (eO u) [false, true, false] [(2, false), (1, true), (0, false)] (by simp [bd, bdL]) (by simp [den, denL, nextV, Ask.v, OutD.v, out0, ask0]) (by simp) hR ha hl hs h1 h2 (by unfold WmV.L; rw [fsA_layOf _ 3 rfl (by omega)]; simp at hi; simp [List.range_succ, List.filter, hi]) hi (by kernel_rfl)
theorem wo_3_011 (V : WmV) (hR : rightR (V.L 3) = true) (ha : I64 V.a) (hl : ¬ 200 < V.l.length) (hs : ¬ 30 < V.sl) (u : OutD) (h1 : V.nx 3 11 (.inr u)) (h2 : V.nx 3 12 (.inr u)) (hi : ∀ q ∈ [(2, true), (1, true), (0, false)], isIn V.a q.1 = q.2) : V.goal 3 :=
  wm_run V 3 (svO u) (.inr u) [1, 2] (eO u) [false, true, true] [(2, true), (1, true), (0, false)] (by simp [bd, bdL]) (by simp [den, denL, nextV, Ask.v, OutD.v, out0, ask0]) (by simp) hR ha hl hs h1 h2 (by unfold WmV.L; rw [fsA_layOf _ 3 rfl (by omega)]; simp at hi; simp [List.range_succ, List.filter, hi]) hi (by kernel_rfl)
theorem wo_3_100 (V : WmV) (hR : rightR (V.L 3) = true) (ha : I64 V.a) (hl : ¬ 200 < V.l.length) (hs : ¬ 30 < V.sl) (u : OutD) (h1 : V.nx 3 11 (.inr u)) (h2 : V.nx 3 12 (.inr u)) (hi : ∀ q ∈ [(2, false), (1, false), (0, true)], isIn V.a q.1 = q.2) : V.goal 3 :=
  wm_run V 3 (svO u) (.inr u) [0] (eO u) [true, false, false] [(2, false), (1, false), (0, true)] (by simp [bd, bdL]) (by simp [den, denL, nextV, Ask.v, OutD.v, out0, ask0]) (by simp) hR ha hl hs h1 h2 (by unfold WmV.L; rw [fsA_layOf _ 3 rfl (by omega)]; simp at hi; simp [List.range_succ, List.filter, hi]) hi (by kernel_rfl)
theorem wo_3_101 (V : WmV) (hR : rightR (V.L 3) = true) (ha : I64 V.a) (hl : ¬ 200 < V.l.length) (hs : ¬ 30 < V.sl) (u : OutD) (h1 : V.nx 3 11 (.inr u)) (h2 : V.nx 3 12 (.inr u)) (hi : ∀ q ∈ [(2, true), (1, false), (0, true)], isIn V.a q.1 = q.2) : V.goal 3 :=
  wm_run V 3 (svO u) (.inr u) [0, 2] (eO u) [true, false, true] [(2, true), (1, false), (0, true)] (by simp [bd, bdL]) (by simp [den, denL, nextV, Ask.v, OutD.v, out0, ask0]) (by simp) hR ha hl hs h1 h2 (by unfold WmV.L; rw [fsA_layOf _ 3 rfl (by omega)]; simp at hi; simp [List.range_succ, List.filter, hi]) hi (by kernel_rfl)
theorem wo_3_110 (V : WmV) (hR : rightR (V.L 3) = true) (ha : I64 V.a) (hl : ¬ 200 < V.l.length) (hs : ¬ 30 < V.sl) (u : OutD) (h1 : V.nx 3 11 (.inr u)) (h2 : V.nx 3 12 (.inr u)) (hi : ∀ q ∈ [(2, false), (1, true), (0, true)], isIn V.a q.1 = q.2) : V.goal 3 :=
  wm_run V 3 (svO u) (.inr u) [0, 1] (eO u) [true, true, false] [(2, false), (1, true), (0, true)] (by simp [bd, bdL]) (by simp [den, denL, nextV, Ask.v, OutD.v, out0, ask0]) (by simp) hR ha hl hs h1 h2 (by unfold WmV.L; rw [fsA_layOf _ 3 rfl (by omega)]; simp at hi; simp [List.range_succ, List.filter, hi]) hi (by kernel_rfl)
theorem wo_3_111 (V : WmV) (hR : rightR (V.L 3) = true) (ha : I64 V.a) (hl : ¬ 200 < V.l.length) (hs : ¬ 30 < V.sl) (u : OutD) (h1 : V.nx 3 11 (.inr u)) (h2 : V.nx 3 12 (.inr u)) (hi : ∀ q ∈ [(2, true), (1, true), (0, true)], isIn V.a q.1 = q.2) : V.goal 3 :=
  wm_run V 3 (svO u) (.inr u) [0, 1, 2] (eO u) [true, true, true] [(2, true), (1, true), (0, true)] (by simp [bd, bdL]) (by simp [den, denL, nextV, Ask.v, OutD.v, out0, ask0]) (by simp) hR ha hl hs h1 h2 (by unfold WmV.L; rw [fsA_layOf _ 3 rfl (by omega)]; simp at hi; simp [List.range_succ, List.filter, hi]) hi (by kernel_rfl)
theorem wo_4_0000 (V : WmV) (hR : rightR (V.L 4) = true) (ha : I64 V.a) (hl : ¬ 200 < V.l.length) (hs : ¬ 30 < V.sl) (u : OutD) (h1 : V.nx 4 11 (.inr u)) (h2 : V.nx 4 12 (.inr u)) (hi : ∀ q ∈ [(3, false), (2, false), (1, false), (0, false)], isIn V.a q.1 = q.2) : V.goal 4 :=
  wm_run V 4 (svO u) (.inr u) [] (eO u) [false, false, false, false] [(3, false), (2, false), (1, false), (0, false)] (by simp [bd, bdL]) (by simp [den, denL, nextV, Ask.v, OutD.v, out0, ask0]) (by simp) hR ha hl hs h1 h2 (by unfold WmV.L; rw [fsA_layOf _ 4 rfl (by omega)]; simp at hi; simp [List.range_succ, List.filter, hi]) hi (by kernel_rfl)
theorem wo_4_0001 (V : WmV) (hR : rightR (V.L 4) = true) (ha : I64 V.a) (hl : ¬ 200 < V.l.length) (hs : ¬ 30 < V.sl) (u : OutD) (h1 : V.nx 4 11 (.inr u)) (h2 : V.nx 4 12 (.inr u)) (hi : ∀ q ∈ [(3, true), (2, false), (1, false), (0, false)], isIn V.a q.1 = q.2) : V.goal 4 :=
  wm_run V 4 (svO u) (.inr u) [3] (eO u) [false, false, false, true] [(3, true), (2, false), (1, false), (0, false)] (by simp [bd, bdL]) (by simp [den, denL, nextV, Ask.v, OutD.v, out0, ask0]) (by simp) hR ha hl hs h1 h2 (by unfold WmV.L; rw [fsA_layOf _ 4 rfl (by omega)]; simp at hi; simp [List.range_succ, List.filter, hi]) hi (by kernel_rfl)
theorem wo_4_0010 (V : WmV) (hR : rightR (V.L 4) = true) (ha : I64 V.a) (hl : ¬ 200 < V.l.length) (hs : ¬ 30 < V.sl) (u : OutD) (h1 : V.nx 4 11 (.inr u)) (h2 : V.nx 4 12 (.inr u)) (hi : ∀ q ∈ [(3, false), (2, true), (1, false), (0, false)], isIn V.a q.1 = q.2) : V.goal 4 :=
  wm_run V 4 (svO u) (.inr u) [2] (eO u) [false, false, true, false] [(3, false), (2, true), (1, false), (0, false)] (by simp [bd, bdL]) (by simp [den, denL, nextV, Ask.v, OutD.v, out0, ask0]) (by simp) hR ha hl hs h1 h2 (by unfold WmV.L; rw [fsA_layOf _ 4 rfl (by omega)]; simp at hi; simp [List.range_succ, List.filter, hi]) hi (by kernel_rfl)
theorem wo_4_0011 (V : WmV) (hR : rightR (V.L 4) = true) (ha : I64 V.a) (hl : ¬ 200 < V.l.length) (hs : ¬ 30 < V.sl) (u : OutD) (h1 : V.nx 4 11 (.inr u)) (h2 : V.nx 4 12 (.inr u)) (hi : ∀ q ∈ [(3, true), (2, true), (1, false), (0, false)], isIn V.a q.1 = q.2) : V.goal 4 :=
  wm_run V 4 (svO u) (.inr u) [2, 3] (eO u) [false, false, true, true] [(3, true), (2, true), (1, false), (0, false)] (by simp [bd, bdL]) (by simp [den, denL, nextV, Ask.v, OutD.v, out0, ask0]) (by simp) hR ha hl hs h1 h2 (by unfold WmV.L; rw [fsA_layOf _ 4 rfl (by omega)]; simp at hi; simp [List.range_succ, List.filter, hi]) hi (by kernel_rfl)
theorem wo_4_0100 (V : WmV) (hR : rightR (V.L 4) = true) (ha : I64 V.a) (hl : ¬ 200 < V.l.length) (hs : ¬ 30 < V.sl) (u : OutD) (h1 : V.nx 4 11 (.inr u)) (h2 : V.nx 4 12 (.inr u)) (hi : ∀ q ∈ [(3, false), (2, false), (1, true), (0, false)], isIn V.a q.1 = q.2) : V.goal 4 :=
  wm_run V 4 (svO u) (.inr u) [1] (eO u) [false, true, false, false] [(3, false), (2, false), (1, true), (0, false)] (by simp [bd, bdL]) (by simp [den, denL, nextV, Ask.v, OutD.v, out0, ask0]) (by simp) hR ha hl hs h1 h2 (by unfold WmV.L; rw [fsA_layOf _ 4 rfl (by omega)]; simp at hi; simp [List.range_succ, List.filter, hi]) hi (by kernel_rfl)
theorem wo_4_0101 (V : WmV) (hR : rightR (V.L 4) = true) (ha : I64 V.a) (hl : ¬ 200 < V.l.length) (hs : ¬ 30 < V.sl) (u : OutD) (h1 : V.nx 4 11 (.inr u)) (h2 : V.nx 4 12 (.inr u)) (hi : ∀ q ∈ [(3, true), (2, false), (1, true), (0, false)], isIn V.a q.1 = q.2) : V.goal 4 :=
  wm_run V 4 (svO u) (.inr u) [1, 3] (eO u) [false, true, false, true] [(3, true), (2, false), (1, true), (0, false)] (by simp [bd, bdL]) (by simp [den, denL, nextV, Ask.v, OutD.v, out0, ask0]) (by simp) hR ha hl hs h1 h2 (by unfold WmV.L; rw [fsA_layOf _ 4 rfl (by omega)]; simp at hi; simp [List.range_succ, List.filter, hi]) hi (by kernel_rfl)
theorem wo_4_0110 (V : WmV) (hR : rightR (V.L 4) = true) (ha : I64 V.a) (hl : ¬ 200 < V.l.length) (hs : ¬ 30 < V.sl) (u : OutD) (h1 : V.nx 4 11 (.inr u)) (h2 : V.nx 4 12 (.inr u)) (hi : ∀ q ∈ [(3, false), (2, true), (1, true), (0, false)], isIn V.a q.1 = q.2) : V.goal 4 :=
  wm_run V 4 (svO u) (.inr u) [1, 2] (eO u) [false, true, true, false] [(3, false), (2, true), (1, true), (0, false)] (by simp [bd, bdL]) (by simp [den, denL, nextV, Ask.v, OutD.v, out0, ask0]) (by simp) hR ha hl hs h1 h2 (by unfold WmV.L; rw [fsA_layOf _ 4 rfl (by omega)]; simp at hi; simp [List.range_succ, List.filter, hi]) hi (by kernel_rfl)
theorem wo_4_0111 (V : WmV) (hR : rightR (V.L 4) = true) (ha : I64 V.a) (hl : ¬ 200 < V.l.length) (hs : ¬ 30 < V.sl) (u : OutD) (h1 : V.nx 4 11 (.inr u)) (h2 : V.nx 4 12 (.inr u)) (hi : ∀ q ∈ [(3, true), (2, true), (1, true), (0, false)], isIn V.a q.1 = q.2) : V.goal 4 :=
  wm_run V 4 (svO u) (.inr u) [1, 2, 3] (eO u) [false, true, true, true] [(3, true), (2, true), (1, true), (0, false)] (by simp [bd, bdL]) (by simp [den, denL, nextV, Ask.v, OutD.v, out0, ask0]) (by simp) hR ha hl hs h1 h2 (by unfold WmV.L; rw [fsA_layOf _ 4 rfl (by omega)]; simp at hi; simp [List.range_succ, List.filter, hi]) hi (by kernel_rfl)
theorem wo_4_1000 (V : WmV) (hR : rightR (V.L 4) = true) (ha : I64 V.a) (hl : ¬ 200 < V.l.length) (hs : ¬ 30 < V.sl) (u : OutD) (h1 : V.nx 4 11 (.inr u)) (h2 : V.nx 4 12 (.inr u)) (hi : ∀ q ∈ [(3, false), (2, false), (1, false), (0, true)], isIn V.a q.1 = q.2) : V.goal 4 :=
  wm_run V 4 (svO u) (.inr u) [0] (eO u) [true, false, false, false] [(3, false), (2, false), (1, false), (0, true)] (by simp [bd, bdL]) (by simp [den, denL, nextV, Ask.v, OutD.v, out0, ask0]) (by simp) hR ha hl hs h1 h2 (by unfold WmV.L; rw [fsA_layOf _ 4 rfl (by omega)]; simp at hi; simp [List.range_succ, List.filter, hi]) hi (by kernel_rfl)
theorem wo_4_1001 (V : WmV) (hR : rightR (V.L 4) = true) (ha : I64 V.a) (hl : ¬ 200 < V.l.length) (hs : ¬ 30 < V.sl) (u : OutD) (h1 : V.nx 4 11 (.inr u)) (h2 : V.nx 4 12 (.inr u)) (hi : ∀ q ∈ [(3, true), (2, false), (1, false), (0, true)], isIn V.a q.1 = q.2) : V.goal 4 :=
  wm_run V 4 (svO u) (.inr u) [0, 3] (eO u) [true, false, false, true] [(3, true), (2, false), (1, false), (0, true)] (by simp [bd, bdL]) (by simp [den, denL, nextV, Ask.v, OutD.v, out0, ask0]) (by simp) hR ha hl hs h1 h2 (by unfold WmV.L; rw [fsA_layOf _ 4 rfl (by omega)]; simp at hi; simp [List.range_succ, List.filter, hi]) hi (by kernel_rfl)
theorem wo_4_1010 (V : WmV) (hR : rightR (V.L 4) = true) (ha : I64 V.a) (hl : ¬ 200 < V.l.length) (hs : ¬ 30 < V.sl) (u : OutD) (h1 : V.nx 4 11 (.inr u)) (h2 : V.nx 4 12 (.inr u)) (hi : ∀ q ∈ [(3, false), (2, true), (1, false), (0, true)], isIn V.a q.1 = q.2) : V.goal 4 :=
  wm_run V 4 (svO u) (.inr u) [0, 2] (eO u) [true, false, true, false] [(3, false), (2, true), (1, false), (0, true)] (by simp [bd, bdL]) (by simp [den, denL, nextV, Ask.v, OutD.v, out0, ask0]) (by simp) hR ha hl hs h1 h2 (by unfold WmV.L; rw [fsA_layOf _ 4 rfl (by omega)]; simp at hi; simp [List.range_succ, List.filter, hi]) hi (by kernel_rfl)
theorem wo_4_1011 (V : WmV) (hR : rightR (V.L 4) = true) (ha : I64 V.a) (hl : ¬ 200 < V.l.length) (hs : ¬ 30 < V.sl) (u : OutD) (h1 : V.nx 4 11 (.inr u)) (h2 : V.nx 4 12 (.inr u)) (hi : ∀ q ∈ [(3, true), (2, true), (1, false), (0, true)], isIn V.a q.1 = q.2) : V.goal 4 :=
  wm_run V 4 (svO u) (.inr u) [0, 2, 3] (eO u) [true, false, true, true] [(3, true), (2, true), (1, false), (0, true)] (by simp [bd, bdL]) (by simp [den, denL, nextV, Ask.v, OutD.v, out0, ask0]) (by simp) hR ha hl hs h1 h2 (by unfold WmV.L; rw [fsA_layOf _ 4 rfl (by omega)]; simp at hi; simp [List.range_succ, List.filter, hi]) hi (by kernel_rfl)
theorem wo_4_1100 (V : WmV) (hR : rightR (V.L 4) = true) (ha : I64 V.a) (hl : ¬ 200 < V.l.length) (hs : ¬ 30 < V.sl) (u : OutD) (h1 : V.nx 4 11 (.inr u)) (h2 : V.nx 4 12 (.inr u)) (hi : ∀ q ∈ [(3, false), (2, false), (1, true), (0, true)], isIn V.a q.1 = q.2) : V.goal 4 :=
  wm_run V 4 (svO u) (.inr u) [0, 1] (eO u) [true, true, false, false] [(3, false), (2, false), (1, true), (0, true)] (by simp [bd, bdL]) (by simp [den, denL, nextV, Ask.v, OutD.v, out0, ask0]) (by simp) hR ha hl hs h1 h2 (by unfold WmV.L; rw [fsA_layOf _ 4 rfl (by omega)]; simp at hi; simp [List.range_succ, List.filter, hi]) hi (by kernel_rfl)
theorem wo_4_1101 (V : WmV) (hR : rightR (V.L 4) = true) (ha : I64 V.a) (hl : ¬ 200 < V.l.length) (hs : ¬ 30 < V.sl) (u : OutD) (h1 : V.nx 4 11 (.inr u)) (h2 : V.nx 4 12 (.inr u)) (hi : ∀ q ∈ [(3, true), (2, false), (1, true), (0, true)], isIn V.a q.1 = q.2) : V.goal 4 :=
  wm_run V 4 (svO u) (.inr u) [0, 1, 3] (eO u) [true, true, false, true] [(3, true), (2, false), (1, true), (0, true)] (by simp [bd, bdL]) (by simp [den, denL, nextV, Ask.v, OutD.v, out0, ask0]) (by simp) hR ha hl hs h1 h2 (by unfold WmV.L; rw [fsA_layOf _ 4 rfl (by omega)]; simp at hi; simp [List.range_succ, List.filter, hi]) hi (by kernel_rfl)
theorem wo_4_1110 (V : WmV) (hR : rightR (V.L 4) = true) (ha : I64 V.a) (hl : ¬ 200 < V.l.length) (hs : ¬ 30 < V.sl) (u : OutD) (h1 : V.nx 4 11 (.inr u)) (h2 : V.nx 4 12 (.inr u)) (hi : ∀ q ∈ [(3, false), (2, true), (1, true), (0, true)], isIn V.a q.1 = q.2) : V.goal 4 :=
  wm_run V 4 (svO u) (.inr u) [0, 1, 2] (eO u) [true, true, true, false] [(3, false), (2, true), (1, true), (0, true)] (by simp [bd, bdL]) (by simp [den, denL, nextV, Ask.v, OutD.v, out0, ask0]) (by simp) hR ha hl hs h1 h2 (by unfold WmV.L; rw [fsA_layOf _ 4 rfl (by omega)]; simp at hi; simp [List.range_succ, List.filter, hi]) hi (by kernel_rfl)
theorem wo_4_1111 (V : WmV) (hR : rightR (V.L 4) = true) (ha : I64 V.a) (hl : ¬ 200 < V.l.length) (hs : ¬ 30 < V.sl) (u : OutD) (h1 : V.nx 4 11 (.inr u)) (h2 : V.nx 4 12 (.inr u)) (hi : ∀ q ∈ [(3, true), (2, true), (1, true), (0, true)], isIn V.a q.1 = q.2) : V.goal 4 :=
  wm_run V 4 (svO u) (.inr u) [0, 1, 2, 3] (eO u) [true, true, true, true] [(3, true), (2, true), (1, true), (0, true)] (by simp [bd, bdL]) (by simp [den, denL, nextV, Ask.v, OutD.v, out0, ask0]) (by simp) hR ha hl hs h1 h2 (by unfold WmV.L; rw [fsA_layOf _ 4 rfl (by omega)]; simp at hi; simp [List.range_succ, List.filter, hi]) hi (by kernel_rfl)
end Go.Proofs.Ytfahnmpcclhjlaa


/-
  Layer 21: WaitMatchesSpec.
-/
namespace Go.Proofs.Ytfahnmpcclhjlaa
open Go Go.RowKit
set_option maxRecDepth 100000
set_option linter.unusedVariables false
set_option linter.unusedSimpArgs false
theorem wm_all (w : World) (L : Ly) (me k a bb ty ms mk ma : Int) (sa wa da : Option Addr) (sl sc wl wc dl dc : Nat) (la : Option Addr) (lc : Nat) (l : List (Int × Bool)) (hw : LogOf w (.slice la l.length lc) l) (hI : ∀ x ∈ l, I64 x.1) (ha : I64 a) (b o : Nat) (Q : List (Int × Int × Int)) (hQ : Q.length = sl) (hsa : sl = 0 ∨ sa = some ⟨b, o, none⟩) (hA : SeenAt w b o Q) :
    Calls Try.prog 4 #[.agg #[.int .i64 L.c.t, .int .i64 L.c.l, .int .i64 L.c.k, .int .i64 L.c.s, .int .i64 L.c.m, .int .i64 L.clock, .int .i64 L.stamps, .int .i64 L.log, .int .i64 L.fin, .int .i64 L.thread, .int .i64 L.lock, .int .i64 L.loc, .int .i64 L.size, .int .i64 me, .int .i64 k, .int .i64 a, .int .i64 bb, .int .i64 ty, .int .i64 ms, .int .i64 mk, .int .i64 ma, .slice sa sl sc, .slice wa wl wc, .slice da dl dc, .slice la l.length lc]] w fun e w' => e = .returned (.bool true) ∧ Below w.heap.size w w' := by
  cases hR : rightR L with
  | false => exact wm_bad L me k a bb ty ms mk ma wa da wl wc dl dc sa sl sc b o Q la lc l hR w hw hA
  | true =>
    by_cases hl : 200 < l.length
    · exact wm_long L me k a bb ty ms mk ma wa da wl wc dl dc sa sl sc b o Q la lc l hR hl w hw hA
    by_cases hs : 30 < sl
    · exact wm_many L me k a bb ty ms mk ma wa da wl wc dl dc sa sl sc b o Q la lc l hR hl hs w hw hA
    have hok := rightR_ly hR
    obtain ⟨hc, e⟩ := rightR_ok hR
    have hct : L.c.t ≤ 62 := by obtain ⟨h1, _⟩ := hc; omega
    obtain ⟨x, h1, h2⟩ : ∃ x : Ask ⊕ OutD, (∀ w, LogOf w (.slice la l.length lc) l → SeenAt w b o Q → Calls Try.prog 11 #[L.v, .int .i64 me, .agg #[.int .i64 k, .int .i64 a, .int .i64 bb, .int .i64 ty, .int .i64 ms, .int .i64 mk, .int .i64 ma, .slice sa sl sc, .slice wa wl wc, .slice da dl dc], .slice la l.length lc] w fun e w' => e = .returned (nextV x) ∧ Below w.heap.size w w') ∧
        (∀ w, LogOf w (.slice la l.length lc) l → SeenAt w b o Q → Calls Try.prog 12 #[L.v, .int .i64 me, .agg #[.int .i64 k, .int .i64 a, .int .i64 bb, .int .i64 ty, .int .i64 ms, .int .i64 mk, .int .i64 ma, .slice sa sl sc, .slice wa wl wc, .slice da dl dc], .slice la l.length lc] w fun e w' => e = .returned (nextV x) ∧ Below w.heap.size w w') :=
      ⟨nextS L me k Q l, fun w h hA => wnext_any w L hok me k a bb ty ms mk ma wa da wl wc dl dc sa sl sc b o Q hQ hsa (by omega) _ l h hA hct (by omega) hI, fun w h hA => rnext_any w L hok me k a bb ty ms mk ma wa da wl wc dl dc sa sl sc b o Q hQ hsa (by omega) la lc l h hA hct (by omega) hI⟩
    clear hok hct
    obtain ⟨c, hc2⟩ : ∃ c, L = layOf c := ⟨L.c, e⟩
    clear e
    subst hc2
    obtain ⟨t, cl, ck, cs, cm⟩ := c
    obtain ⟨ht, _⟩ := hc
    have h4 : t = 1 ∨ t = 2 ∨ t = 3 ∨ t = 4 := by
      have : 1 ≤ t ∧ t ≤ 4 := ht
      omega
    rcases h4 with rfl | rfl | rfl | rfl
    · cases i0 : isIn a 0
      · cases x with
        | inl u => exact wa_1_0 ⟨cl, ck, cs, cm, me, k, a, bb, ty, ms, mk, ma, wa, da, sa, la, wl, wc, dl, dc, sl, sc, lc, b, o, Q, l⟩ hR ha hl hs u h1 h2 (by simp [*]) w hw hA
        | inr u => exact wo_1_0 ⟨cl, ck, cs, cm, me, k, a, bb, ty, ms, mk, ma, wa, da, sa, la, wl, wc, dl, dc, sl, sc, lc, b, o, Q, l⟩ hR ha hl hs u h1 h2 (by simp [*]) w hw hA
      · cases x with
        | inl u => exact wa_1_1 ⟨cl, ck, cs, cm, me, k, a, bb, ty, ms, mk, ma, wa, da, sa, la, wl, wc, dl, dc, sl, sc, lc, b, o, Q, l⟩ hR ha hl hs u h1 h2 (by simp [*]) w hw hA
        | inr u => exact wo_1_1 ⟨cl, ck, cs, cm, me, k, a, bb, ty, ms, mk, ma, wa, da, sa, la, wl, wc, dl, dc, sl, sc, lc, b, o, Q, l⟩ hR ha hl hs u h1 h2 (by simp [*]) w hw hA
    · cases i0 : isIn a 0
      all_goals cases i1 : isIn a 1
      · cases x with
        | inl u => exact wa_2_00 ⟨cl, ck, cs, cm, me, k, a, bb, ty, ms, mk, ma, wa, da, sa, la, wl, wc, dl, dc, sl, sc, lc, b, o, Q, l⟩ hR ha hl hs u h1 h2 (by simp [*]) w hw hA
        | inr u => exact wo_2_00 ⟨cl, ck, cs, cm, me, k, a, bb, ty, ms, mk, ma, wa, da, sa, la, wl, wc, dl, dc, sl, sc, lc, b, o, Q, l⟩ hR ha hl hs u h1 h2 (by simp [*]) w hw hA
      · cases x with
        | inl u => exact wa_2_01 ⟨cl, ck, cs, cm, me, k, a, bb, ty, ms, mk, ma, wa, da, sa, la, wl, wc, dl, dc, sl, sc, lc, b, o, Q, l⟩ hR ha hl hs u h1 h2 (by simp [*]) w hw hA
        | inr u => exact wo_2_01 ⟨cl, ck, cs, cm, me, k, a, bb, ty, ms, mk, ma, wa, da, sa, la, wl, wc, dl, dc, sl, sc, lc, b, o, Q, l⟩ hR ha hl hs u h1 h2 (by simp [*]) w hw hA
      · cases x with
        | inl u => exact wa_2_10 ⟨cl, ck, cs, cm, me, k, a, bb, ty, ms, mk, ma, wa, da, sa, la, wl, wc, dl, dc, sl, sc, lc, b, o, Q, l⟩ hR ha hl hs u h1 h2 (by simp [*]) w hw hA
        | inr u => exact wo_2_10 ⟨cl, ck, cs, cm, me, k, a, bb, ty, ms, mk, ma, wa, da, sa, la, wl, wc, dl, dc, sl, sc, lc, b, o, Q, l⟩ hR ha hl hs u h1 h2 (by simp [*]) w hw hA
      · cases x with
        | inl u => exact wa_2_11 ⟨cl, ck, cs, cm, me, k, a, bb, ty, ms, mk, ma, wa, da, sa, la, wl, wc, dl, dc, sl, sc, lc, b, o, Q, l⟩ hR ha hl hs u h1 h2 (by simp [*]) w hw hA
        | inr u => exact wo_2_11 ⟨cl, ck, cs, cm, me, k, a, bb, ty, ms, mk, ma, wa, da, sa, la, wl, wc, dl, dc, sl, sc, lc, b, o, Q, l⟩ hR ha hl hs u h1 h2 (by simp [*]) w hw hA
    · cases i0 : isIn a 0
      all_goals cases i1 : isIn a 1
      all_goals cases i2 : isIn a 2
      · cases x with
        | inl u => exact wa_3_000 ⟨cl, ck, cs, cm, me, k, a, bb, ty, ms, mk, ma, wa, da, sa, la, wl, wc, dl, dc, sl, sc, lc, b, o, Q, l⟩ hR ha hl hs u h1 h2 (by simp [*]) w hw hA
        | inr u => exact wo_3_000 ⟨cl, ck, cs, cm, me, k, a, bb, ty, ms, mk, ma, wa, da, sa, la, wl, wc, dl, dc, sl, sc, lc, b, o, Q, l⟩ hR ha hl hs u h1 h2 (by simp [*]) w hw hA
      · cases x with
        | inl u => exact wa_3_001 ⟨cl, ck, cs, cm, me, k, a, bb, ty, ms, mk, ma, wa, da, sa, la, wl, wc, dl, dc, sl, sc, lc, b, o, Q, l⟩ hR ha hl hs u h1 h2 (by simp [*]) w hw hA
        | inr u => exact wo_3_001 ⟨cl, ck, cs, cm, me, k, a, bb, ty, ms, mk, ma, wa, da, sa, la, wl, wc, dl, dc, sl, sc, lc, b, o, Q, l⟩ hR ha hl hs u h1 h2 (by simp [*]) w hw hA
      · cases x with
        | inl u => exact wa_3_010 ⟨cl, ck, cs, cm, me, k, a, bb, ty, ms, mk, ma, wa, da, sa, la, wl, wc, dl, dc, sl, sc, lc, b, o, Q, l⟩ hR ha hl hs u h1 h2 (by simp [*]) w hw hA
        | inr u => exact wo_3_010 ⟨cl, ck, cs, cm, me, k, a, bb, ty, ms, mk, ma, wa, da, sa, la, wl, wc, dl, dc, sl, sc, lc, b, o, Q, l⟩ hR ha hl hs u h1 h2 (by simp [*]) w hw hA
      · cases x with
        | inl u => exact wa_3_011 ⟨cl, ck, cs, cm, me, k, a, bb, ty, ms, mk, ma, wa, da, sa, la, wl, wc, dl, dc, sl, sc, lc, b, o, Q, l⟩ hR ha hl hs u h1 h2 (by simp [*]) w hw hA
        | inr u => exact wo_3_011 ⟨cl, ck, cs, cm, me, k, a, bb, ty, ms, mk, ma, wa, da, sa, la, wl, wc, dl, dc, sl, sc, lc, b, o, Q, l⟩ hR ha hl hs u h1 h2 (by simp [*]) w hw hA
      · cases x with
        | inl u => exact wa_3_100 ⟨cl, ck, cs, cm, me, k, a, bb, ty, ms, mk, ma, wa, da, sa, la, wl, wc, dl, dc, sl, sc, lc, b, o, Q, l⟩ hR ha hl hs u h1 h2 (by simp [*]) w hw hA
        | inr u => exact wo_3_100 ⟨cl, ck, cs, cm, me, k, a, bb, ty, ms, mk, ma, wa, da, sa, la, wl, wc, dl, dc, sl, sc, lc, b, o, Q, l⟩ hR ha hl hs u h1 h2 (by simp [*]) w hw hA
      · cases x with
        | inl u => exact wa_3_101 ⟨cl, ck, cs, cm, me, k, a, bb, ty, ms, mk, ma, wa, da, sa, la, wl, wc, dl, dc, sl, sc, lc, b, o, Q, l⟩ hR ha hl hs u h1 h2 (by simp [*]) w hw hA
        | inr u => exact wo_3_101 ⟨cl, ck, cs, cm, me, k, a, bb, ty, ms, mk, ma, wa, da, sa, la, wl, wc, dl, dc, sl, sc, lc, b, o, Q, l⟩ hR ha hl hs u h1 h2 (by simp [*]) w hw hA
      · cases x with
        | inl u => exact wa_3_110 ⟨cl, ck, cs, cm, me, k, a, bb, ty, ms, mk, ma, wa, da, sa, la, wl, wc, dl, dc, sl, sc, lc, b, o, Q, l⟩ hR ha hl hs u h1 h2 (by simp [*]) w hw hA
        | inr u => exact wo_3_110 ⟨cl, ck, cs, cm, me, k, a, bb, ty, ms, mk, ma, wa, da, sa, la, wl, wc, dl, dc, sl, sc, lc, b, o, Q, l⟩ hR ha hl hs u h1 h2 (by simp [*]) w hw hA
      · cases x with
        | inl u => exact wa_3_111 ⟨cl, ck, cs, cm, me, k, a, bb, ty, ms, mk, ma, wa, da, sa, la, wl, wc, dl, dc, sl, sc, lc, b, o, Q, l⟩ hR ha hl hs u h1 h2 (by simp [*]) w hw hA
        | inr u => exact wo_3_111 ⟨cl, ck, cs, cm, me, k, a, bb, ty, ms, mk, ma, wa, da, sa, la, wl, wc, dl, dc, sl, sc, lc, b, o, Q, l⟩ hR ha hl hs u h1 h2 (by simp [*]) w hw hA
    · cases i0 : isIn a 0
      all_goals cases i1 : isIn a 1
      all_goals cases i2 : isIn a 2
      all_goals cases i3 : isIn a 3
      · cases x with
        | inl u => exact wa_4_0000 ⟨cl, ck, cs, cm, me, k, a, bb, ty, ms, mk, ma, wa, da, sa, la, wl, wc, dl, dc, sl, sc, lc, b, o, Q, l⟩ hR ha hl hs u h1 h2 (by simp [*]) w hw hA
        | inr u => exact wo_4_0000 ⟨cl, ck, cs, cm, me, k, a, bb, ty, ms, mk, ma, wa, da, sa, la, wl, wc, dl, dc, sl, sc, lc, b, o, Q, l⟩ hR ha hl hs u h1 h2 (by simp [*]) w hw hA
      · cases x with
        | inl u => exact wa_4_0001 ⟨cl, ck, cs, cm, me, k, a, bb, ty, ms, mk, ma, wa, da, sa, la, wl, wc, dl, dc, sl, sc, lc, b, o, Q, l⟩ hR ha hl hs u h1 h2 (by simp [*]) w hw hA
        | inr u => exact wo_4_0001 ⟨cl, ck, cs, cm, me, k, a, bb, ty, ms, mk, ma, wa, da, sa, la, wl, wc, dl, dc, sl, sc, lc, b, o, Q, l⟩ hR ha hl hs u h1 h2 (by simp [*]) w hw hA
      · cases x with
        | inl u => exact wa_4_0010 ⟨cl, ck, cs, cm, me, k, a, bb, ty, ms, mk, ma, wa, da, sa, la, wl, wc, dl, dc, sl, sc, lc, b, o, Q, l⟩ hR ha hl hs u h1 h2 (by simp [*]) w hw hA
        | inr u => exact wo_4_0010 ⟨cl, ck, cs, cm, me, k, a, bb, ty, ms, mk, ma, wa, da, sa, la, wl, wc, dl, dc, sl, sc, lc, b, o, Q, l⟩ hR ha hl hs u h1 h2 (by simp [*]) w hw hA
      · cases x with
        | inl u => exact wa_4_0011 ⟨cl, ck, cs, cm, me, k, a, bb, ty, ms, mk, ma, wa, da, sa, la, wl, wc, dl, dc, sl, sc, lc, b, o, Q, l⟩ hR ha hl hs u h1 h2 (by simp [*]) w hw hA
        | inr u => exact wo_4_0011 ⟨cl, ck, cs, cm, me, k, a, bb, ty, ms, mk, ma, wa, da, sa, la, wl, wc, dl, dc, sl, sc, lc, b, o, Q, l⟩ hR ha hl hs u h1 h2 (by simp [*]) w hw hA
      · cases x with
        | inl u => exact wa_4_0100 ⟨cl, ck, cs, cm, me, k, a, bb, ty, ms, mk, ma, wa, da, sa, la, wl, wc, dl, dc, sl, sc, lc, b, o, Q, l⟩ hR ha hl hs u h1 h2 (by simp [*]) w hw hA
        | inr u => exact wo_4_0100 ⟨cl, ck, cs, cm, me, k, a, bb, ty, ms, mk, ma, wa, da, sa, la, wl, wc, dl, dc, sl, sc, lc, b, o, Q, l⟩ hR ha hl hs u h1 h2 (by simp [*]) w hw hA
      · cases x with
        | inl u => exact wa_4_0101 ⟨cl, ck, cs, cm, me, k, a, bb, ty, ms, mk, ma, wa, da, sa, la, wl, wc, dl, dc, sl, sc, lc, b, o, Q, l⟩ hR ha hl hs u h1 h2 (by simp [*]) w hw hA
        | inr u => exact wo_4_0101 ⟨cl, ck, cs, cm, me, k, a, bb, ty, ms, mk, ma, wa, da, sa, la, wl, wc, dl, dc, sl, sc, lc, b, o, Q, l⟩ hR ha hl hs u h1 h2 (by simp [*]) w hw hA
      · cases x with
        | inl u => exact wa_4_0110 ⟨cl, ck, cs, cm, me, k, a, bb, ty, ms, mk, ma, wa, da, sa, la, wl, wc, dl, dc, sl, sc, lc, b, o, Q, l⟩ hR ha hl hs u h1 h2 (by simp [*]) w hw hA
        | inr u => exact wo_4_0110 ⟨cl, ck, cs, cm, me, k, a, bb, ty, ms, mk, ma, wa, da, sa, la, wl, wc, dl, dc, sl, sc, lc, b, o, Q, l⟩ hR ha hl hs u h1 h2 (by simp [*]) w hw hA
      · cases x with
        | inl u => exact wa_4_0111 ⟨cl, ck, cs, cm, me, k, a, bb, ty, ms, mk, ma, wa, da, sa, la, wl, wc, dl, dc, sl, sc, lc, b, o, Q, l⟩ hR ha hl hs u h1 h2 (by simp [*]) w hw hA
        | inr u => exact wo_4_0111 ⟨cl, ck, cs, cm, me, k, a, bb, ty, ms, mk, ma, wa, da, sa, la, wl, wc, dl, dc, sl, sc, lc, b, o, Q, l⟩ hR ha hl hs u h1 h2 (by simp [*]) w hw hA
      · cases x with
        | inl u => exact wa_4_1000 ⟨cl, ck, cs, cm, me, k, a, bb, ty, ms, mk, ma, wa, da, sa, la, wl, wc, dl, dc, sl, sc, lc, b, o, Q, l⟩ hR ha hl hs u h1 h2 (by simp [*]) w hw hA
        | inr u => exact wo_4_1000 ⟨cl, ck, cs, cm, me, k, a, bb, ty, ms, mk, ma, wa, da, sa, la, wl, wc, dl, dc, sl, sc, lc, b, o, Q, l⟩ hR ha hl hs u h1 h2 (by simp [*]) w hw hA
      · cases x with
        | inl u => exact wa_4_1001 ⟨cl, ck, cs, cm, me, k, a, bb, ty, ms, mk, ma, wa, da, sa, la, wl, wc, dl, dc, sl, sc, lc, b, o, Q, l⟩ hR ha hl hs u h1 h2 (by simp [*]) w hw hA
        | inr u => exact wo_4_1001 ⟨cl, ck, cs, cm, me, k, a, bb, ty, ms, mk, ma, wa, da, sa, la, wl, wc, dl, dc, sl, sc, lc, b, o, Q, l⟩ hR ha hl hs u h1 h2 (by simp [*]) w hw hA
      · cases x with
        | inl u => exact wa_4_1010 ⟨cl, ck, cs, cm, me, k, a, bb, ty, ms, mk, ma, wa, da, sa, la, wl, wc, dl, dc, sl, sc, lc, b, o, Q, l⟩ hR ha hl hs u h1 h2 (by simp [*]) w hw hA
        | inr u => exact wo_4_1010 ⟨cl, ck, cs, cm, me, k, a, bb, ty, ms, mk, ma, wa, da, sa, la, wl, wc, dl, dc, sl, sc, lc, b, o, Q, l⟩ hR ha hl hs u h1 h2 (by simp [*]) w hw hA
      · cases x with
        | inl u => exact wa_4_1011 ⟨cl, ck, cs, cm, me, k, a, bb, ty, ms, mk, ma, wa, da, sa, la, wl, wc, dl, dc, sl, sc, lc, b, o, Q, l⟩ hR ha hl hs u h1 h2 (by simp [*]) w hw hA
        | inr u => exact wo_4_1011 ⟨cl, ck, cs, cm, me, k, a, bb, ty, ms, mk, ma, wa, da, sa, la, wl, wc, dl, dc, sl, sc, lc, b, o, Q, l⟩ hR ha hl hs u h1 h2 (by simp [*]) w hw hA
      · cases x with
        | inl u => exact wa_4_1100 ⟨cl, ck, cs, cm, me, k, a, bb, ty, ms, mk, ma, wa, da, sa, la, wl, wc, dl, dc, sl, sc, lc, b, o, Q, l⟩ hR ha hl hs u h1 h2 (by simp [*]) w hw hA
        | inr u => exact wo_4_1100 ⟨cl, ck, cs, cm, me, k, a, bb, ty, ms, mk, ma, wa, da, sa, la, wl, wc, dl, dc, sl, sc, lc, b, o, Q, l⟩ hR ha hl hs u h1 h2 (by simp [*]) w hw hA
      · cases x with
        | inl u => exact wa_4_1101 ⟨cl, ck, cs, cm, me, k, a, bb, ty, ms, mk, ma, wa, da, sa, la, wl, wc, dl, dc, sl, sc, lc, b, o, Q, l⟩ hR ha hl hs u h1 h2 (by simp [*]) w hw hA
        | inr u => exact wo_4_1101 ⟨cl, ck, cs, cm, me, k, a, bb, ty, ms, mk, ma, wa, da, sa, la, wl, wc, dl, dc, sl, sc, lc, b, o, Q, l⟩ hR ha hl hs u h1 h2 (by simp [*]) w hw hA
      · cases x with
        | inl u => exact wa_4_1110 ⟨cl, ck, cs, cm, me, k, a, bb, ty, ms, mk, ma, wa, da, sa, la, wl, wc, dl, dc, sl, sc, lc, b, o, Q, l⟩ hR ha hl hs u h1 h2 (by simp [*]) w hw hA
        | inr u => exact wo_4_1110 ⟨cl, ck, cs, cm, me, k, a, bb, ty, ms, mk, ma, wa, da, sa, la, wl, wc, dl, dc, sl, sc, lc, b, o, Q, l⟩ hR ha hl hs u h1 h2 (by simp [*]) w hw hA
      · cases x with
        | inl u => exact wa_4_1111 ⟨cl, ck, cs, cm, me, k, a, bb, ty, ms, mk, ma, wa, da, sa, la, wl, wc, dl, dc, sl, sc, lc, b, o, Q, l⟩ hR ha hl hs u h1 h2 (by simp [*]) w hw hA
        | inr u => exact wo_4_1111 ⟨cl, ck, cs, cm, me, k, a, bb, ty, ms, mk, ma, wa, da, sa, la, wl, wc, dl, dc, sl, sc, lc, b, o, Q, l⟩ hR ha hl hs u h1 h2 (by simp [*]) w hw hA
end Go.Proofs.Ytfahnmpcclhjlaa
