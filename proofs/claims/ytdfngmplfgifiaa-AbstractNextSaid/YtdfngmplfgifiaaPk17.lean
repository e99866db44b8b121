/-
  Merged: An0, An1, An2
-/
import Derived.Test.YtdfngmplfgifiaaPk10
import Derived.Test.YtdfngmplfgifiaaPk12
import Derived.Test.YtdfngmplfgifiaaPk1
import Derived.Test.YtdfngmplfgifiaaPk16

/-
  Layer 20 as a table of known results: Next of an operation on an abstract lock, where its log is known; the layouts of its statements.
-/
namespace Go.Proofs.Ytdfngmplfgifiaa
open Go Go.RowKit EX
set_option maxRecDepth 100000
set_option linter.unusedVariables false
set_option linter.unusedSimpArgs false
set_option linter.unusedSectionVars false
abbrev kda (k a b ty : Int) (m : Ct) (sa wa da : Option Addr) (sl sc wl wc dl dc : Nat) : Value := .agg #[.int .i64 k, .int .i64 a, .int .i64 b, .int .i64 ty, .int .i64 m.s, .int .i64 m.k, .int .i64 m.a, .slice sa sl sc, .slice wa wl wc, .slice da dl dc]
/-- The kind, the lock and the contender of an operation. -/
def opA : List Value → Option (Int × Int × Ct)
  | [.int .i64 k, .int .i64 a, .int .i64 _, .int .i64 _, .int .i64 s, .int .i64 r, .int .i64 m, .slice _ _ _, .slice _ _ _, .slice _ _ _] => some (k, a, ⟨s, r, m⟩)
  | _ => none
theorem opA_v {l : List Value} {k a : Int} {m : Ct} (h : opA l = some (k, a, m)) : ∃ b ty sa wa da sl sc wl wc dl dc, .agg l.toArray = kda k a b ty m sa wa da sl sc wl wc dl dc := by
  unfold opA at h
  split at h
  · simp only [Option.some.injEq, Prod.mk.injEq] at h
    obtain ⟨rfl, rfl, rfl⟩ := h
    exact ⟨_, _, _, _, _, _, _, _, _, _, _, rfl⟩
  · cases h
section
variable [FC]
/-- Next of an abstract lock, from a log that is known. -/
def kgAbs : KnG := fun f args st => match Nat.beq f 30, args with
  | true, [xl, .v (.int .i64 me), xo, lg] => match (aggL (pvE xl)).bind lyOf2, (aggL (pvE xo)).bind opA, logS st.m lg with
    | some L, some (k, a, m), some l => match decide L.ok with
      | true => some ⟨.ret (.v (nextV ((absT L me k a m (l.length + 1)).run l))), st⟩
      | _ => none
    | _, _, _ => none
  | _, _ => none
theorem kgAbs_ok : KnGOk Try.prog kgAbs := by
  intro f args st o h
  unfold kgAbs at h
  split at h
  · rename_i xl me xo lg hf
    have := Nat.eq_of_beq_eq_true hf
    subst this
    split at h
    · rename_i L k a m l hL ho hl
      split at h
      · rename_i hok
        simp only [Option.some.injEq] at h
        subst h
        refine ⟨Sfx.refl _, trivial, fun tr w0 F B S w hS R hargs => ?_⟩
        cases h1 : aggL (pvE xl) with
        | none => rw [h1] at hL; cases hL
        | some al =>
          rw [h1] at hL
          cases h2 : aggL (pvE xo) with
          | none => rw [h2] at ho; cases ho
          | some ao =>
            rw [h2] at ho
            obtain ⟨b, ty, sa, wa, da, sl, sc, wl, wc, dl, dc, e⟩ := opA_v (show opA ao = some (k, a, m) from ho)
            obtain ⟨hv, hI⟩ := logS_ok R hl
            have ea : (denL B [xl, .v (.int .i64 me), xo, lg]).toArray = #[L.v, .int .i64 me, kda k a b ty m sa wa da sl sc wl wc dl dc, den B lg] := by
              simp only [denL, aggL_den B h1, aggL_den B h2, lyOf2_v (show lyOf2 al = some L from hL), e, den]
            rw [ea]
            refine (anext_any w L (of_decide_eq_true hok) me k a b ty m sa wa da sl sc wl wc dl dc _ l hv hI).mono ?_
            rintro e w' ⟨rfl, hb⟩
            exact ⟨B, Ag.refl _ _ _, Nat.le_refl _, by rw [ext_self]; exact R.below hb, by simp [den], by simp [bd]⟩
      · cases h
    · cases h
  · cases h
end
/-- The layout of the statements of layer 20. -/
def ly20 (k : Int) : Ly := layOf ⟨3, 0, 3, 0, k⟩
end Go.Proofs.Ytdfngmplfgifiaa


/-
  Layer 20: the example of the documentation.
-/
namespace Go.Proofs.Ytdfngmplfgifiaa
open Go Go.RowKit EX
set_option maxRecDepth 100000
set_option linter.unusedVariables false
theorem where20_0 (w : World) : Calls Try.prog 29 #[.int .i64 0] w fun e w' => e = .returned (ly20 0).v ∧ Below w.heap.size w w' :=
  ex_val knNone_ok 100000 [.v (.int .i64 0)] [] [] (by kernel_rfl) (by simp [denL, den]) (by simp [bdL, bd]) (by intro q hq; cases hq)
theorem where20_1 (w : World) : Calls Try.prog 29 #[.int .i64 1] w fun e w' => e = .returned (ly20 1).v ∧ Below w.heap.size w w' :=
  ex_val knNone_ok 100000 [.v (.int .i64 1)] [] [] (by kernel_rfl) (by simp [denL, den]) (by simp [bdL, bd]) (by intro q hq; cases hq)
theorem where20_2 (w : World) : Calls Try.prog 29 #[.int .i64 2] w fun e w' => e = .returned (ly20 2).v ∧ Below w.heap.size w w' :=
  ex_val knNone_ok 100000 [.v (.int .i64 2)] [] [] (by kernel_rfl) (by simp [denL, den]) (by simp [bdL, bd]) (by intro q hq; cases hq)
theorem where20_3 (w : World) : Calls Try.prog 29 #[.int .i64 3] w fun e w' => e = .returned (ly20 3).v ∧ Below w.heap.size w w' :=
  ex_val knNone_ok 100000 [.v (.int .i64 3)] [] [] (by kernel_rfl) (by simp [denL, den]) (by simp [bdL, bd]) (by intro q hq; cases hq)
theorem sane20 (w : World) : Calls Try.prog 28 #[] w fun e w' => e = .returned (.bool true) ∧ Below w.heap.size w w' :=
  ex_valG kgAbs_ok 100000 [] [] [] (by kernel_rfl) (by simp [denL]) trivial (by intro q hq; cases hq)
end Go.Proofs.Ytdfngmplfgifiaa


/-
  Layer 20: Next, program and reference, for every operation and log.
-/
namespace Go.Proofs.Ytdfngmplfgifiaa
open Go Go.RowKit EX
set_option maxRecDepth 100000
set_option linter.unusedVariables false
set_option linter.unusedSimpArgs false
/-- A given log. -/
abbrev fcLog (v : Value) (l : List (Int × Bool)) : FC := ⟨fun _ => 0, fun _ => 0, fun _ => [], fun w => LogOf w v l, fun w w' h g => logOf_keep h ⟨g.os, g.tape, g.output, g.size, fun k hk => g.block k hk (by simp)⟩⟩
theorem fcLog_at {w : World} {v : Value} {l : List (Int × Bool)} (h : LogOf w v l) : @FcAt (fcLog v l) w := ⟨h, fun i j x hx => by cases hx⟩
def tt : Value := .bool true
def ff : Value := .bool false
theorem an_long0 (q p k a b ty : Int) (m : Ct) (sa wa da : Option Addr) (sl sc wl wc dl dc : Nat) (la : Option Addr) (lc : Nat) (l : List (Int × Bool)) (h0 : 30 < l.length) (w : World) (hw : LogOf w (.slice la l.length lc) l) : Calls Try.prog 7 #[.int .u8 q, .int .u8 p, kda k a b ty m sa wa da sl sc wl wc dl dc, .slice la l.length lc] w fun e w' => e = .returned (.bool true) ∧ Below w.heap.size w w' := by
  letI fc : FC := fcLog (.slice la l.length lc) l
  exact @ex_valG (fcLog (.slice la l.length lc) l) _ ((gk (kn1 28 (.bool true)))) ((gk_ok (kn1_ok sane20))) 100000 _ _ [.y (.int .u8 q), .y (.int .u8 p), .g [.y (.int .i64 k), .y (.int .i64 a), .y (.int .i64 b), .y (.int .i64 ty), .y (.int .i64 m.s), .y (.int .i64 m.k), .y (.int .i64 m.a), .y (.slice sa sl sc), .y (.slice wa wl wc), .y (.slice da dl dc)], .y (.slice la l.length lc)] [tt] (_) [(.bool (decide ((l.length : Int) > 30)), tt)] w (by kernel_rfl) (by simp [denL, den]) (by simp [bdL, bd]) (by
    intro q hq
    simp only [List.mem_cons, List.not_mem_nil, or_false] at hq
    rcases hq with rfl <;> first | rfl | (simp only [tt, ff, Value.bool.injEq, Value.int.injEq, true_and, decide_eq_false_iff_not, decide_eq_true_eq]; omega) | (simp only [Value.int.injEq, true_and]; assumption) | simp [tt, ff]) (fcLog_at hw)
theorem an_long1 (q p k a b ty : Int) (m : Ct) (sa wa da : Option Addr) (sl sc wl wc dl dc : Nat) (la : Option Addr) (lc : Nat) (l : List (Int × Bool)) (h0 : ¬ 30 < l.length) (h1 : 20 < sl) (w : World) (hw : LogOf w (.slice la l.length lc) l) : Calls Try.prog 7 #[.int .u8 q, .int .u8 p, kda k a b ty m sa wa da sl sc wl wc dl dc, .slice la l.length lc] w fun e w' => e = .returned (.bool true) ∧ Below w.heap.size w w' := by
  letI fc : FC := fcLog (.slice la l.length lc) l
  exact @ex_valG (fcLog (.slice la l.length lc) l) _ ((gk (kn1 28 (.bool true)))) ((gk_ok (kn1_ok sane20))) 100000 _ _ [.y (.int .u8 q), .y (.int .u8 p), .g [.y (.int .i64 k), .y (.int .i64 a), .y (.int .i64 b), .y (.int .i64 ty), .y (.int .i64 m.s), .y (.int .i64 m.k), .y (.int .i64 m.a), .y (.slice sa sl sc), .y (.slice wa wl wc), .y (.slice da dl dc)], .y (.slice la l.length lc)] [ff, tt] (_) [(.bool (decide ((sl : Int) > 20)), tt), (.bool (decide ((l.length : Int) > 30)), ff)] w (by kernel_rfl) (by simp [denL, den]) (by simp [bdL, bd]) (by
    intro q hq
    simp only [List.mem_cons, List.not_mem_nil, or_false] at hq
    rcases hq with rfl | rfl <;> first | rfl | (simp only [tt, ff, Value.bool.injEq, Value.int.injEq, true_and, decide_eq_false_iff_not, decide_eq_true_eq]; omega) | (simp only [Value.int.injEq, true_and]; assumption) | simp [tt, ff]) (fcLog_at hw)
theorem an_long2 (q p k a b ty : Int) (m : Ct) (sa wa da : Option Addr) (sl sc wl wc dl dc : Nat) (la : Option Addr) (lc : Nat) (l : List (Int × Bool)) (h0 : ¬ 30 < l.length) (h1 : ¬ 20 < sl) (h2 : 20 < wl) (w : World) (hw : LogOf w (.slice la l.length lc) l) : Calls Try.prog 7 #[.int .u8 q, .int .u8 p, kda k a b ty m sa wa da sl sc wl wc dl dc, .slice la l.length lc] w fun e w' => e = .returned (.bool true) ∧ Below w.heap.size w w' := by
  letI fc : FC := fcLog (.slice la l.length lc) l
  exact @ex_valG (fcLog (.slice la l.length lc) l) _ ((gk (kn1 28 (.bool true)))) ((gk_ok (kn1_ok sane20))) 100000 _ _ [.y (.int .u8 q), .y (.int .u8 p), .g [.y (.int .i64 k), .y (.int .i64 a), .y (.int .i64 b), .y (.int .i64 ty), .y (.int .i64 m.s), .y (.int .i64 m.k), .y (.int .i64 m.a), .y (.slice sa sl sc), .y (.slice wa wl wc), .y (.slice da dl dc)], .y (.slice la l.length lc)] [ff, ff, tt] (_) [(.bool (decide ((wl : Int) > 20)), tt), (.bool (decide ((sl : Int) > 20)), ff), (.bool (decide ((l.length : Int) > 30)), ff)] w (by kernel_rfl) (by simp [denL, den]) (by simp [bdL, bd]) (by
    intro q hq
    simp only [List.mem_cons, List.not_mem_nil, or_false] at hq
    rcases hq with rfl | rfl | rfl <;> first | rfl | (simp only [tt, ff, Value.bool.injEq, Value.int.injEq, true_and, decide_eq_false_iff_not, decide_eq_true_eq]; omega) | (simp only [Value.int.injEq, true_and]; assumption) | simp [tt, ff]) (fcLog_at hw)
theorem an_long3 (q p k a b ty : Int) (m : Ct) (sa wa da : Option Addr) (sl sc wl wc dl dc : Nat) (la : Option Addr) (lc : Nat) (l : List (Int × Bool)) (h0 : ¬ 30 < l.length) (h1 : ¬ 20 < sl) (h2 : ¬ 20 < wl) (h3 : 20 < dl) (w : World) (hw : LogOf w (.slice la l.length lc) l) : Calls Try.prog 7 #[.int .u8 q, .int .u8 p, kda k a b ty m sa wa da sl sc wl wc dl dc, .slice la l.length lc] w fun e w' => e = .returned (.bool true) ∧ Below w.heap.size w w' := by
  letI fc : FC := fcLog (.slice la l.length lc) l
  exact @ex_valG (fcLog (.slice la l.length lc) l) _ ((gk (kn1 28 (.bool true)))) ((gk_ok (kn1_ok sane20))) 100000 _ _ [.y (.int .u8 q), .y (.int .u8 p), .g [.y (.int .i64 k), .y (.int .i64 a), .y (.int .i64 b), .y (.int .i64 ty), .y (.int .i64 m.s), .y (.int .i64 m.k), .y (.int .i64 m.a), .y (.slice sa sl sc), .y (.slice wa wl wc), .y (.slice da dl dc)], .y (.slice la l.length lc)] [ff, ff, ff, tt] (_) [(.bool (decide ((dl : Int) > 20)), tt), (.bool (decide ((wl : Int) > 20)), ff), (.bool (decide ((sl : Int) > 20)), ff), (.bool (decide ((l.length : Int) > 30)), ff)] w (by kernel_rfl) (by simp [denL, den]) (by simp [bdL, bd]) (by
    intro q hq
    simp only [List.mem_cons, List.not_mem_nil, or_false] at hq
    rcases hq with rfl | rfl | rfl | rfl <;> first | rfl | (simp only [tt, ff, Value.bool.injEq, Value.int.injEq, true_and, decide_eq_false_iff_not, decide_eq_true_eq]; omega) | (simp only [Value.int.injEq, true_and]; assumption) | simp [tt, ff]) (fcLog_at hw)
theorem an_ask (q p k a b ty : Int) (m : Ct) (sa wa da : Option Addr) (sl sc wl wc dl dc : Nat) (la : Option Addr) (lc : Nat) (l : List (Int × Bool)) (L : Ly) (kk me : Int) (hq : (IntKind.i64.wrap (Int.tmod q 4)) = kk) (hp : (IntKind.i64.wrap (Int.tmod p 3)) = me) (hL : ∀ w, Calls Try.prog 29 #[.int .i64 kk] w fun e w' => e = .returned L.v ∧ Below w.heap.size w w') (h0 : ¬ 30 < l.length) (h1 : ¬ 20 < sl) (h2 : ¬ 20 < wl) (h3 : ¬ 20 < dl) (u : Ask) (g1 : ∀ w, LogOf w (.slice la l.length lc) l → Calls Try.prog 30 #[L.v, .int .i64 me, kda k a b ty m sa wa da sl sc wl wc dl dc, .slice la l.length lc] w fun e w' => e = .returned (nextV (.inl u)) ∧ Below w.heap.size w w') (g2 : ∀ w, LogOf w (.slice la l.length lc) l → Calls Try.prog 31 #[L.v, .int .i64 me, kda k a b ty m sa wa da sl sc wl wc dl dc, .slice la l.length lc] w fun e w' => e = .returned (nextV (.inl u)) ∧ Below w.heap.size w w') (w : World) (hw : LogOf w (.slice la l.length lc) l) : Calls Try.prog 7 #[.int .u8 q, .int .u8 p, kda k a b ty m sa wa da sl sc wl wc dl dc, .slice la l.length lc] w fun e w' => e = .returned (.bool true) ∧ Below w.heap.size w w' := by
  letI fc : FC := fcLog (.slice la l.length lc) l
  exact @ex_valG (fcLog (.slice la l.length lc) l) _ ((kgOr (gk (kn1 28 (.bool true))) (kgOr (kgAt 29 [.int .i64 kk] (.g [.y (.int .i64 L.c.t), .y (.int .i64 L.c.l), .y (.int .i64 L.c.k), .y (.int .i64 L.c.s), .y (.int .i64 L.c.m), .y (.int .i64 L.clock), .y (.int .i64 L.stamps), .y (.int .i64 L.log), .y (.int .i64 L.fin), .y (.int .i64 L.thread), .y (.int .i64 L.lock), .y (.int .i64 L.loc), .y (.int .i64 L.size)])) (kgOr (kgAt 30 [L.v, .int .i64 me, kda k a b ty m sa wa da sl sc wl wc dl dc, .slice la l.length lc] (.t [.g [.y (.int .i64 u.k), .y (.int .i64 u.p), .y (.int .i64 u.o), .y (.int .i64 u.n), .v (.string ByteArray.empty)], .v (.agg #[.int .i64 0, .int .i64 0, .int .i64 0, .int .i64 0, .bool false, .bool false, .int .i64 0]), .v (.bool false)])) (kgAt 31 [L.v, .int .i64 me, kda k a b ty m sa wa da sl sc wl wc dl dc, .slice la l.length lc] (.t [.g [.y (.int .i64 u.k), .y (.int .i64 u.p), .y (.int .i64 u.o), .y (.int .i64 u.n), .v (.string ByteArray.empty)], .v (.agg #[.int .i64 0, .int .i64 0, .int .i64 0, .int .i64 0, .bool false, .bool false, .int .i64 0]), .v (.bool false)])))))) ((kgOr_ok (gk_ok (kn1_ok sane20)) (kgOr_ok (kgAt_ok (by simp [bd, bdL]) fun w _ => (hL w).mono fun e w' ⟨he, hb⟩ => ⟨by rw [he]; simp [den, denL, Ly.v], hb⟩) (kgOr_ok (kgAt_ok (by simp [bd, bdL]) fun w hf => (g1 w hf.1).mono fun e w' ⟨he, hb⟩ => ⟨by rw [he]; simp [den, denL, nextV, Ask.v, OutD.v, out0, ask0], hb⟩) (kgAt_ok (by simp [bd, bdL]) fun w hf => (g2 w hf.1).mono fun e w' ⟨he, hb⟩ => ⟨by rw [he]; simp [den, denL, nextV, Ask.v, OutD.v, out0, ask0], hb⟩))))) 100000 _ _ [.y (.int .u8 q), .y (.int .u8 p), .g [.y (.int .i64 k), .y (.int .i64 a), .y (.int .i64 b), .y (.int .i64 ty), .y (.int .i64 m.s), .y (.int .i64 m.k), .y (.int .i64 m.a), .y (.slice sa sl sc), .y (.slice wa wl wc), .y (.slice da dl dc)], .y (.slice la l.length lc)] [ff, ff, ff, ff, tt] (_) [(.bool ((u.k == u.k) && ((u.p == u.p) && ((u.o == u.o) && ((u.n == u.n) && true)))), tt), (L.v, L.v), (.int .i64 (IntKind.i64.wrap (Int.tmod p 3)), .int .i64 me), (kda k a b ty m sa wa da sl sc wl wc dl dc, kda k a b ty m sa wa da sl sc wl wc dl dc), (.slice la l.length lc, .slice la l.length lc), (L.v, L.v), (.int .i64 (IntKind.i64.wrap (Int.tmod p 3)), .int .i64 me), (kda k a b ty m sa wa da sl sc wl wc dl dc, kda k a b ty m sa wa da sl sc wl wc dl dc), (.slice la l.length lc, .slice la l.length lc), (.int .i64 (IntKind.i64.wrap (Int.tmod q 4)), .int .i64 kk), (.bool (decide ((dl : Int) > 20)), ff), (.bool (decide ((wl : Int) > 20)), ff), (.bool (decide ((sl : Int) > 20)), ff), (.bool (decide ((l.length : Int) > 30)), ff)] w (by kernel_rfl) (by simp [denL, den]) (by simp [bdL, bd]) (by
    intro q hq
    simp only [List.mem_cons, List.not_mem_nil, or_false] at hq
    rcases hq with rfl | rfl | rfl | rfl | rfl | rfl | rfl | rfl | rfl | rfl | rfl | rfl | rfl | rfl <;> first | rfl | (simp only [tt, ff, Value.bool.injEq, Value.int.injEq, true_and, decide_eq_false_iff_not, decide_eq_true_eq]; omega) | (simp only [Value.int.injEq, true_and]; assumption) | simp [tt, ff]) (fcLog_at hw)
theorem an_out (q p k a b ty : Int) (m : Ct) (sa wa da : Option Addr) (sl sc wl wc dl dc : Nat) (la : Option Addr) (lc : Nat) (l : List (Int × Bool)) (L : Ly) (kk me : Int) (hq : (IntKind.i64.wrap (Int.tmod q 4)) = kk) (hp : (IntKind.i64.wrap (Int.tmod p 3)) = me) (hL : ∀ w, Calls Try.prog 29 #[.int .i64 kk] w fun e w' => e = .returned L.v ∧ Below w.heap.size w w') (h0 : ¬ 30 < l.length) (h1 : ¬ 20 < sl) (h2 : ¬ 20 < wl) (h3 : ¬ 20 < dl) (u : OutD) (g1 : ∀ w, LogOf w (.slice la l.length lc) l → Calls Try.prog 30 #[L.v, .int .i64 me, kda k a b ty m sa wa da sl sc wl wc dl dc, .slice la l.length lc] w fun e w' => e = .returned (nextV (.inr u)) ∧ Below w.heap.size w w') (g2 : ∀ w, LogOf w (.slice la l.length lc) l → Calls Try.prog 31 #[L.v, .int .i64 me, kda k a b ty m sa wa da sl sc wl wc dl dc, .slice la l.length lc] w fun e w' => e = .returned (nextV (.inr u)) ∧ Below w.heap.size w w') (w : World) (hw : LogOf w (.slice la l.length lc) l) : Calls Try.prog 7 #[.int .u8 q, .int .u8 p, kda k a b ty m sa wa da sl sc wl wc dl dc, .slice la l.length lc] w fun e w' => e = .returned (.bool true) ∧ Below w.heap.size w w' := by
  letI fc : FC := fcLog (.slice la l.length lc) l
  exact @ex_valG (fcLog (.slice la l.length lc) l) _ ((kgOr (gk (kn1 28 (.bool true))) (kgOr (kgAt 29 [.int .i64 kk] (.g [.y (.int .i64 L.c.t), .y (.int .i64 L.c.l), .y (.int .i64 L.c.k), .y (.int .i64 L.c.s), .y (.int .i64 L.c.m), .y (.int .i64 L.clock), .y (.int .i64 L.stamps), .y (.int .i64 L.log), .y (.int .i64 L.fin), .y (.int .i64 L.thread), .y (.int .i64 L.lock), .y (.int .i64 L.loc), .y (.int .i64 L.size)])) (kgOr (kgAt 30 [L.v, .int .i64 me, kda k a b ty m sa wa da sl sc wl wc dl dc, .slice la l.length lc] (.t [.v (.agg #[.int .i64 0, .int .i64 0, .int .i64 0, .int .i64 0, .string ByteArray.empty]), .g [.y (.int .i64 u.val), .y (.int .i64 u.ver), .y (.int .i64 u.rv), .y (.int .i64 u.st), .y (.bool u.ok), .y (.bool u.lost), .y (.int .i64 u.err)], .v (.bool true)])) (kgAt 31 [L.v, .int .i64 me, kda k a b ty m sa wa da sl sc wl wc dl dc, .slice la l.length lc] (.t [.v (.agg #[.int .i64 0, .int .i64 0, .int .i64 0, .int .i64 0, .string ByteArray.empty]), .g [.y (.int .i64 u.val), .y (.int .i64 u.ver), .y (.int .i64 u.rv), .y (.int .i64 u.st), .y (.bool u.ok), .y (.bool u.lost), .y (.int .i64 u.err)], .v (.bool true)])))))) ((kgOr_ok (gk_ok (kn1_ok sane20)) (kgOr_ok (kgAt_ok (by simp [bd, bdL]) fun w _ => (hL w).mono fun e w' ⟨he, hb⟩ => ⟨by rw [he]; simp [den, denL, Ly.v], hb⟩) (kgOr_ok (kgAt_ok (by simp [bd, bdL]) fun w hf => (g1 w hf.1).mono fun e w' ⟨he, hb⟩ => ⟨by rw [he]; simp [den, denL, nextV, Ask.v, OutD.v, out0, ask0], hb⟩) (kgAt_ok (by simp [bd, bdL]) fun w hf => (g2 w hf.1).mono fun e w' ⟨he, hb⟩ => ⟨by rw [he]; simp [den, denL, nextV, Ask.v, OutD.v, out0, ask0], hb⟩))))) 100000 _ _ [.y (.int .u8 q), .y (.int .u8 p), .g [.y (.int .i64 k), .y (.int .i64 a), .y (.int .i64 b), .y (.int .i64 ty), .y (.int .i64 m.s), .y (.int .i64 m.k), .y (.int .i64 m.a), .y (.slice sa sl sc), .y (.slice wa wl wc), .y (.slice da dl dc)], .y (.slice la l.length lc)] [ff, ff, ff, ff, tt] (_) [(.bool ((u.val == u.val) && ((u.ver == u.ver) && ((u.rv == u.rv) && ((u.st == u.st) && ((u.ok == u.ok) && ((u.lost == u.lost) && ((u.err == u.err) && true))))))), tt), (L.v, L.v), (.int .i64 (IntKind.i64.wrap (Int.tmod p 3)), .int .i64 me), (kda k a b ty m sa wa da sl sc wl wc dl dc, kda k a b ty m sa wa da sl sc wl wc dl dc), (.slice la l.length lc, .slice la l.length lc), (L.v, L.v), (.int .i64 (IntKind.i64.wrap (Int.tmod p 3)), .int .i64 me), (kda k a b ty m sa wa da sl sc wl wc dl dc, kda k a b ty m sa wa da sl sc wl wc dl dc), (.slice la l.length lc, .slice la l.length lc), (.int .i64 (IntKind.i64.wrap (Int.tmod q 4)), .int .i64 kk), (.bool (decide ((dl : Int) > 20)), ff), (.bool (decide ((wl : Int) > 20)), ff), (.bool (decide ((sl : Int) > 20)), ff), (.bool (decide ((l.length : Int) > 30)), ff)] w (by kernel_rfl) (by simp [denL, den]) (by simp [bdL, bd]) (by
    intro q hq
    simp only [List.mem_cons, List.not_mem_nil, or_false] at hq
    rcases hq with rfl | rfl | rfl | rfl | rfl | rfl | rfl | rfl | rfl | rfl | rfl | rfl | rfl | rfl <;> first | rfl | (simp only [tt, ff, Value.bool.injEq, Value.int.injEq, true_and, decide_eq_false_iff_not, decide_eq_true_eq]; omega) | (simp only [Value.int.injEq, true_and]; assumption) | simp [tt, ff]) (fcLog_at hw)
end Go.Proofs.Ytdfngmplfgifiaa
