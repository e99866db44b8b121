/-
  Merged: WtG, WtH
-/
import Derived.Test.YtfahnmpcclhjlaaRows
import Derived.Test.YtfahnmpcclhjlaaPt1
import Derived.Test.YtfahnmpcclhjlaaPt8
import Derived.WalkKit

/-
  Layer 21: Next of the reference, as a function of the log.
-/
namespace Go.Proofs.Ytfahnmpcclhjlaa
open Go Go.RowKit SX
set_option linter.unusedVariables false
set_option linter.unusedSimpArgs false
set_option maxRecDepth 100000
theorem ld_int {w : World} {ad : Addr} {n : Int} (h : w.cell? ad = some (.int .i64 n)) : (loadVar 3 ad).run Try.prog w = .ok (.int .i64 n) w := by
  have hagg : (isAgg 3).run Try.prog w = .ok false w := by
    unfold isAgg
    rw [Sem.run_bind, run_underlying Try.underlying3 w]
    rfl
  unfold loadVar
  rw [Sem.run_bind, hagg]
  simp only [Result.andThen_ok, Bool.false_eq_true, if_false]
  simp only [load, Sem.run, h]
attribute [local irreducible] post GD
noncomputable def rnN : Nat := (cfg0 Try.f12 #[.tuple #[], .tuple #[], .tuple #[], .tuple #[]]).s.n
noncomputable def rb : List It := [.code (bodyOf Try.f12)]
noncomputable def rl1 : Cfg := ⟨goL 200 [] rb, ⟨0, [], []⟩⟩
noncomputable def rl2 : Cfg := ⟨goL 200 [9, 0, 1] rb, ⟨0, [], []⟩⟩
noncomputable def rl3 : Cfg := ⟨goL 200 [9, 0, 1, 9] rb, ⟨0, [], []⟩⟩
noncomputable def rl4 : Cfg := ⟨goL 200 [9, 0, 1, 9, 9] rb, ⟨0, [], []⟩⟩
noncomputable def rk6 : List It := goR 6 200 [9] rb
noncomputable def rk18 : List It := goR 18 200 [9, 0, 1, 9] rb
noncomputable def rk24 : List It := goR 24 200 [9, 0, 1, 9, 9] rb
noncomputable def rk32 : List It := goR 32 200 [9, 0, 1, 9, 9, 9] rb
noncomputable def rnA (L : Ly) (me : Int) (k a bb ty ms mk ma : Int) (wa da : Option Addr) (wl wc dl dc : Nat) (sa : Option Addr) (sl sc : Nat) (v : Value) (j : Nat) (B : Bool) : SS := ⟨rnN, [(1, .v (.int .i64 me)), (3, .v v), (4, .p 0 0), (6, .p 1 0), (8, .p 2 0), (9, .p 3 0), (10, .v (.bool false)), (11, .v (.bool B)), (12, .v (.int .i64 (j : Int)))], [⟨42, [.int .i64 L.c.t, .int .i64 L.c.l, .int .i64 L.c.k, .int .i64 L.c.s, .int .i64 L.c.m, .int .i64 L.clock, .int .i64 L.stamps, .int .i64 L.log, .int .i64 L.fin, .int .i64 L.thread, .int .i64 L.lock, .int .i64 L.loc, .int .i64 L.size]⟩, ⟨48, [.int .i64 k, .int .i64 a, .int .i64 bb, .int .i64 ty, .int .i64 ms, .int .i64 mk, .int .i64 ma, .slice sa sl sc, .slice wa wl wc, .slice da dl dc]⟩, ⟨53, [.int .i64 0, .int .i64 0, .int .i64 0, .int .i64 0, .string ⟨#[]⟩]⟩, ⟨56, [.int .i64 0, .int .i64 0, .int .i64 0, .int .i64 0, .bool false, .bool false, .int .i64 0]⟩]⟩
noncomputable def rnB (L : Ly) (me : Int) (k a bb ty ms mk ma : Int) (wa da : Option Addr) (wl wc dl dc : Nat) (sa : Option Addr) (sl sc : Nat) (v : Value) (B : Bool) : SS := ⟨rnN, [(1, .v (.int .i64 me)), (3, .v v), (4, .p 0 0), (6, .p 1 0), (8, .p 2 0), (9, .p 3 0), (10, .v (.bool false)), (11, .v (.bool B))], [⟨42, [.int .i64 L.c.t, .int .i64 L.c.l, .int .i64 L.c.k, .int .i64 L.c.s, .int .i64 L.c.m, .int .i64 L.clock, .int .i64 L.stamps, .int .i64 L.log, .int .i64 L.fin, .int .i64 L.thread, .int .i64 L.lock, .int .i64 L.loc, .int .i64 L.size]⟩, ⟨48, [.int .i64 k, .int .i64 a, .int .i64 bb, .int .i64 ty, .int .i64 ms, .int .i64 mk, .int .i64 ma, .slice sa sl sc, .slice wa wl wc, .slice da dl dc]⟩, ⟨53, [.int .i64 0, .int .i64 0, .int .i64 0, .int .i64 0, .string ⟨#[]⟩]⟩, ⟨56, [.int .i64 0, .int .i64 0, .int .i64 0, .int .i64 0, .bool false, .bool false, .int .i64 0]⟩]⟩
noncomputable def rnC (L : Ly) (me : Int) (k a bb ty ms mk ma : Int) (wa da : Option Addr) (wl wc dl dc : Nat) (sa : Option Addr) (sl sc : Nat) (g B3 : Nat) : SS := ⟨rnN, [(1, .v (.int .i64 me)), (4, .p 0 0), (6, .p 1 0), (8, .p 2 0), (9, .v (.pointer (some ⟨B3, 0, none⟩))), (10, .v (.bool false)), (13, .v (.pointer (some ⟨g, 0, none⟩)))], [⟨42, [.int .i64 L.c.t, .int .i64 L.c.l, .int .i64 L.c.k, .int .i64 L.c.s, .int .i64 L.c.m, .int .i64 L.clock, .int .i64 L.stamps, .int .i64 L.log, .int .i64 L.fin, .int .i64 L.thread, .int .i64 L.lock, .int .i64 L.loc, .int .i64 L.size]⟩, ⟨48, [.int .i64 k, .int .i64 a, .int .i64 bb, .int .i64 ty, .int .i64 ms, .int .i64 mk, .int .i64 ma, .slice sa sl sc, .slice wa wl wc, .slice da dl dc]⟩, ⟨53, [.int .i64 0, .int .i64 0, .int .i64 0, .int .i64 0, .string ⟨#[]⟩]⟩]⟩
noncomputable def rnD (L : Ly) (me : Int) (k a bb ty ms mk ma : Int) (wa da : Option Addr) (wl wc dl dc : Nat) (sa : Option Addr) (sl sc : Nat) (g B3 : Nat) (j : Nat) : SS := ⟨rnN, [(1, .v (.int .i64 me)), (4, .p 0 0), (6, .p 1 0), (8, .p 2 0), (9, .v (.pointer (some ⟨B3, 0, none⟩))), (10, .v (.bool false)), (13, .v (.pointer (some ⟨g, 0, none⟩))), (14, .v (.int .i64 (atWake L me))), (15, .v (.bool true)), (16, .v (.bool false)), (17, .v (.int .i64 (j : Int)))], [⟨42, [.int .i64 L.c.t, .int .i64 L.c.l, .int .i64 L.c.k, .int .i64 L.c.s, .int .i64 L.c.m, .int .i64 L.clock, .int .i64 L.stamps, .int .i64 L.log, .int .i64 L.fin, .int .i64 L.thread, .int .i64 L.lock, .int .i64 L.loc, .int .i64 L.size]⟩, ⟨48, [.int .i64 k, .int .i64 a, .int .i64 bb, .int .i64 ty, .int .i64 ms, .int .i64 mk, .int .i64 ma, .slice sa sl sc, .slice wa wl wc, .slice da dl dc]⟩, ⟨53, [.int .i64 0, .int .i64 0, .int .i64 0, .int .i64 0, .string ⟨#[]⟩]⟩]⟩
noncomputable def rnE (L : Ly) (me : Int) (k a bb ty ms mk ma : Int) (wa da : Option Addr) (wl wc dl dc : Nat) (sa : Option Addr) (sl sc : Nat) (g B3 : Nat) : SS := ⟨rnN, [(1, .v (.int .i64 me)), (4, .p 0 0), (6, .p 1 0), (8, .p 2 0), (9, .v (.pointer (some ⟨B3, 0, none⟩))), (10, .v (.bool false)), (13, .v (.pointer (some ⟨g, 0, none⟩))), (14, .v (.int .i64 (atWake L me))), (16, .v (.bool false))], [⟨42, [.int .i64 L.c.t, .int .i64 L.c.l, .int .i64 L.c.k, .int .i64 L.c.s, .int .i64 L.c.m, .int .i64 L.clock, .int .i64 L.stamps, .int .i64 L.log, .int .i64 L.fin, .int .i64 L.thread, .int .i64 L.lock, .int .i64 L.loc, .int .i64 L.size]⟩, ⟨48, [.int .i64 k, .int .i64 a, .int .i64 bb, .int .i64 ty, .int .i64 ms, .int .i64 mk, .int .i64 ma, .slice sa sl sc, .slice wa wl wc, .slice da dl dc]⟩, ⟨53, [.int .i64 0, .int .i64 0, .int .i64 0, .int .i64 0, .string ⟨#[]⟩]⟩]⟩
noncomputable def rnF (L : Ly) (me : Int) (k a bb ty ms mk ma : Int) (wa da : Option Addr) (wl wc dl dc : Nat) (sa : Option Addr) (sl sc : Nat) (g B3 : Nat) (j : Nat) (out : Bool) : SS := ⟨rnN, [(1, .v (.int .i64 me)), (4, .p 0 0), (6, .p 1 0), (8, .p 2 0), (9, .v (.pointer (some ⟨B3, 0, none⟩))), (10, .v (.bool false)), (13, .v (.pointer (some ⟨g, 0, none⟩))), (14, .v (.int .i64 (atWake L me))), (15, .v (.bool out)), (16, .v (.bool false)), (18, .v (.int .i64 (j : Int)))], [⟨42, [.int .i64 L.c.t, .int .i64 L.c.l, .int .i64 L.c.k, .int .i64 L.c.s, .int .i64 L.c.m, .int .i64 L.clock, .int .i64 L.stamps, .int .i64 L.log, .int .i64 L.fin, .int .i64 L.thread, .int .i64 L.lock, .int .i64 L.loc, .int .i64 L.size]⟩, ⟨48, [.int .i64 k, .int .i64 a, .int .i64 bb, .int .i64 ty, .int .i64 ms, .int .i64 mk, .int .i64 ma, .slice sa sl sc, .slice wa wl wc, .slice da dl dc]⟩, ⟨53, [.int .i64 0, .int .i64 0, .int .i64 0, .int .i64 0, .string ⟨#[]⟩]⟩]⟩
noncomputable def rnG (L : Ly) (me : Int) (k a bb ty ms mk ma : Int) (wa da : Option Addr) (wl wc dl dc : Nat) (sa : Option Addr) (sl sc : Nat) (g B3 : Nat) (out : Bool) : SS := ⟨rnN, [(1, .v (.int .i64 me)), (4, .p 0 0), (6, .p 1 0), (8, .p 2 0), (9, .v (.pointer (some ⟨B3, 0, none⟩))), (10, .v (.bool false)), (13, .v (.pointer (some ⟨g, 0, none⟩))), (15, .v (.bool out))], [⟨42, [.int .i64 L.c.t, .int .i64 L.c.l, .int .i64 L.c.k, .int .i64 L.c.s, .int .i64 L.c.m, .int .i64 L.clock, .int .i64 L.stamps, .int .i64 L.log, .int .i64 L.fin, .int .i64 L.thread, .int .i64 L.lock, .int .i64 L.loc, .int .i64 L.size]⟩, ⟨48, [.int .i64 k, .int .i64 a, .int .i64 bb, .int .i64 ty, .int .i64 ms, .int .i64 mk, .int .i64 ma, .slice sa sl sc, .slice wa wl wc, .slice da dl dc]⟩, ⟨53, [.int .i64 0, .int .i64 0, .int .i64 0, .int .i64 0, .string ⟨#[]⟩]⟩]⟩
noncomputable def rnH (L : Ly) (me : Int) (k a bb ty ms mk ma : Int) (wa da : Option Addr) (wl wc dl dc : Nat) (sa : Option Addr) (sl sc : Nat) (g B3 : Nat) (j : Nat) (out is : Bool) : SS := ⟨rnN, [(1, .v (.int .i64 me)), (4, .p 0 0), (6, .p 1 0), (8, .p 2 0), (9, .v (.pointer (some ⟨B3, 0, none⟩))), (10, .v (.bool false)), (13, .v (.pointer (some ⟨g, 0, none⟩))), (15, .v (.bool out)), (16, .v (.bool is)), (22, .v (.int .i64 (j : Int)))], [⟨42, [.int .i64 L.c.t, .int .i64 L.c.l, .int .i64 L.c.k, .int .i64 L.c.s, .int .i64 L.c.m, .int .i64 L.clock, .int .i64 L.stamps, .int .i64 L.log, .int .i64 L.fin, .int .i64 L.thread, .int .i64 L.lock, .int .i64 L.loc, .int .i64 L.size]⟩, ⟨48, [.int .i64 k, .int .i64 a, .int .i64 bb, .int .i64 ty, .int .i64 ms, .int .i64 mk, .int .i64 ma, .slice sa sl sc, .slice wa wl wc, .slice da dl dc]⟩, ⟨53, [.int .i64 0, .int .i64 0, .int .i64 0, .int .i64 0, .string ⟨#[]⟩]⟩]⟩
noncomputable def rnI (L : Ly) (me : Int) (k a bb ty ms mk ma : Int) (wa da : Option Addr) (wl wc dl dc : Nat) (sa : Option Addr) (sl sc : Nat) (g B3 : Nat) (is : Bool) : SS := ⟨rnN, [(1, .v (.int .i64 me)), (4, .p 0 0), (6, .p 1 0), (8, .p 2 0), (9, .v (.pointer (some ⟨B3, 0, none⟩))), (10, .v (.bool false)), (13, .v (.pointer (some ⟨g, 0, none⟩))), (16, .v (.bool is))], [⟨42, [.int .i64 L.c.t, .int .i64 L.c.l, .int .i64 L.c.k, .int .i64 L.c.s, .int .i64 L.c.m, .int .i64 L.clock, .int .i64 L.stamps, .int .i64 L.log, .int .i64 L.fin, .int .i64 L.thread, .int .i64 L.lock, .int .i64 L.loc, .int .i64 L.size]⟩, ⟨48, [.int .i64 k, .int .i64 a, .int .i64 bb, .int .i64 ty, .int .i64 ms, .int .i64 mk, .int .i64 ma, .slice sa sl sc, .slice wa wl wc, .slice da dl dc]⟩, ⟨53, [.int .i64 0, .int .i64 0, .int .i64 0, .int .i64 0, .string ⟨#[]⟩]⟩]⟩
set_option maxHeartbeats 8000000 in
theorem r1_end (w0 : World) (L : Ly) (hok : L.ok) (me : Int) (k a bb ty ms mk ma : Int) (wa da : Option Addr) (wl wc dl dc : Nat) (sa : Option Addr) (sl sc : Nat) (b o : Nat) (Q : List (Int × Int × Int)) (hQ : Q.length = sl) (hsa : sl = 0 ∨ sa = some ⟨b, o, none⟩) (hsl : sl ≤ 1000000) (v : Value) (l : List (Int × Bool)) {R : Ending → World → Prop} (n : Nat) (B : Bool) (hk : ∀ (bs : List Nat) (aa : Act) (w : World) (S : Sy w0 none bs (rnB L me k a bb ty ms mk ma wa da wl wc dl dc sa sl sc v (B)) [rfLog v l, rfSeen b o Q] aa w), post Try.prog rk6 (bodyPost Try.prog Try.f12 R) .normal aa w) (bs : List Nat) (aa : Act) (w : World) (S : Sy w0 none bs (rnA L me k a bb ty ms mk ma wa da wl wc dl dc sa sl sc v sl B) [rfLog v l, rfSeen b o Q] aa w) : post Try.prog (.rnd (n + 1) (bodyL rl1) :: rl1.k.tail) (bodyPost Try.prog Try.f12 R) .normal aa w := by
  refine sy_run (c := ⟨(.rnd (n + 1) (bodyL rl1) :: rl1.k.tail), rnA L me k a bb ty ms mk ma wa da wl wc dl dc sa sl sc v sl B⟩) ⟨0, [3]⟩ 50 S fun bs aa w S => ?_
  refine sy_reg S fun S => ?_
  refine sy_ops 6 S fun bs aa w S => ?_
  refine sy_cond false S (by simp : decide ((sl : Int) < (sl : Int)) = false) (by kernel_rfl) fun S => ?_
  refine sy_run ⟨0, [6]⟩ 80 S fun bs aa w S => ?_
  have S' := S.to [0, 1, 2, 3] (rnB L me k a bb ty ms mk ma wa da wl wc dl dc sa sl sc v B) (by kernel_rfl) (by kernel_rfl) (by kernel_rfl) (by kernel_rfl) (by kernel_rfl)
  refine sy_at (k := rk6) (by kernel_rfl) ?_
  exact hk _ aa w S'
set_option maxHeartbeats 8000000 in
theorem r1_t (w0 : World) (L : Ly) (hok : L.ok) (me : Int) (k a bb ty ms mk ma : Int) (wa da : Option Addr) (wl wc dl dc : Nat) (sa : Option Addr) (sl sc : Nat) (b o : Nat) (Q : List (Int × Int × Int)) (hQ : Q.length = sl) (hsa : sl = 0 ∨ sa = some ⟨b, o, none⟩) (hsl : sl ≤ 1000000) (v : Value) (l : List (Int × Bool)) {R : Ending → World → Prop} (n j : Nat) (hj : j < sl) (ih : ∀ (bs : List Nat) (aa : Act) (w : World) (S : Sy w0 none bs (rnA L me k a bb ty ms mk ma wa da wl wc dl dc sa sl sc v (j + 1) true) [rfLog v l, rfSeen b o Q] aa w), post Try.prog (.rnd (n) (bodyL rl1) :: rl1.k.tail) (bodyPost Try.prog Try.f12 R) .normal aa w) (bs : List Nat) (aa : Act) (w : World) (S : Sy w0 none bs (rnA L me k a bb ty ms mk ma wa da wl wc dl dc sa sl sc v j true) [rfLog v l, rfSeen b o Q] aa w) : post Try.prog (.rnd (n + 1) (bodyL rl1) :: rl1.k.tail) (bodyPost Try.prog Try.f12 R) .normal aa w := by
  refine sy_run (c := ⟨(.rnd (n + 1) (bodyL rl1) :: rl1.k.tail), rnA L me k a bb ty ms mk ma wa da wl wc dl dc sa sl sc v j true⟩) ⟨0, [3]⟩ 50 S fun bs aa w S => ?_
  refine sy_reg S fun S => ?_
  refine sy_ops 6 S fun bs aa w S => ?_
  refine sy_cond true S (by simp; omega : decide ((j : Int) < (sl : Int)) = true) (by kernel_rfl) fun S => ?_
  refine sy_run ⟨0, []⟩ 80 S fun bs aa w S => ?_
  refine dr_enter [0, 1] (by kernel_rfl) (by kernel_rfl) S (by kernel_rfl) fun aa w D => ?_
  refine dr_end D (by kernel_rfl) fun S => ?_
  refine sy_run ⟨0, [4]⟩ 80 S fun bs aa w S => ?_
  refine sy_reg S fun S => ?_
  refine sy_ops 2 S fun bs aa w S => ?_
  refine sy_cast 43 S (congrArg (Value.int .i64) (by rw [IntKind.wrap_i64]; omega : IntKind.i64.wrap ((j : Int) + 1) = ((j + 1 : Nat) : Int))) (by kernel_rfl) fun S => ?_
  refine sy_run ⟨0, [999]⟩ 80 S fun bs aa w S => ?_
  have S' := S.to [0, 1, 2, 3] (rnA L me k a bb ty ms mk ma wa da wl wc dl dc sa sl sc v (j + 1) true) (by kernel_rfl) (by kernel_rfl) (by kernel_rfl) (by kernel_rfl) (by kernel_rfl)
  refine sy_at (k := (.rnd (n) (bodyL rl1) :: rl1.k.tail)) (by kernel_rfl) ?_
  exact ih _ aa w S'
set_option maxHeartbeats 8000000 in
theorem r1_f (w0 : World) (L : Ly) (hok : L.ok) (me : Int) (k a bb ty ms mk ma : Int) (wa da : Option Addr) (wl wc dl dc : Nat) (sa : Option Addr) (sl sc : Nat) (b o : Nat) (Q : List (Int × Int × Int)) (hQ : Q.length = sl) (hsa : sl = 0 ∨ sa = some ⟨b, o, none⟩) (hsl : sl ≤ 1000000) (v : Value) (l : List (Int × Bool)) {R : Ending → World → Prop} (n j : Nat) (hj : j < sl) (B : Bool) (hB : decide (atWord L (Q.getD j (0, 0, 0)).1 < 0) = B) (ih : ∀ (bs : List Nat) (aa : Act) (w : World) (S : Sy w0 none bs (rnA L me k a bb ty ms mk ma wa da wl wc dl dc sa sl sc v (j + 1) B) [rfLog v l, rfSeen b o Q] aa w), post Try.prog (.rnd (n) (bodyL rl1) :: rl1.k.tail) (bodyPost Try.prog Try.f12 R) .normal aa w) (bs : List Nat) (aa : Act) (w : World) (S : Sy w0 none bs (rnA L me k a bb ty ms mk ma wa da wl wc dl dc sa sl sc v j false) [rfLog v l, rfSeen b o Q] aa w) : post Try.prog (.rnd (n + 1) (bodyL rl1) :: rl1.k.tail) (bodyPost Try.prog Try.f12 R) .normal aa w := by
  refine sy_run (c := ⟨(.rnd (n + 1) (bodyL rl1) :: rl1.k.tail), rnA L me k a bb ty ms mk ma wa da wl wc dl dc sa sl sc v j false⟩) ⟨0, [3]⟩ 50 S fun bs aa w S => ?_
  refine sy_reg S fun S => ?_
  refine sy_ops 6 S fun bs aa w S => ?_
  refine sy_cond true S (by simp; omega : decide ((j : Int) < (sl : Int)) = true) (by kernel_rfl) fun S => ?_
  refine sy_run ⟨0, []⟩ 80 S fun bs aa w S => ?_
  refine dr_enter [0, 1] (by kernel_rfl) (by kernel_rfl) S (by kernel_rfl) fun aa w D => ?_
  refine dr_ix 6 (b := b) (off := o) (len := sl) (n := j) (size := 3) (ix := (j : Int)) D (by kernel_rfl) (by kernel_rfl) (by kernel_rfl) (by rw [← hsa.resolve_left (by omega)]; kernel_rfl) rfl hj fun aa D => ?_
  refine dr_ldo 8 D (by kernel_rfl) (by kernel_rfl) (by kernel_rfl) (ld_int ((D.S.fact (f := rfSeen b o Q) (by simp)) j (by omega)).1) (by kernel_rfl) fun aa D => ?_
  refine dr_call1 9 D (by kernel_rfl) (by kernel_rfl) (by kernel_rfl) (rword_any L (Q.getD j (0, 0, 0)).1 w hok) (by kernel_rfl) fun aa w hb D => ?_
  refine dr_end D (by kernel_rfl) fun S => ?_
  refine sy_cast 11 S (congrArg Value.bool hB) (by kernel_rfl) fun S => ?_
  refine sy_run ⟨0, [4]⟩ 80 S fun bs aa w S => ?_
  refine sy_reg S fun S => ?_
  refine sy_ops 2 S fun bs aa w S => ?_
  refine sy_cast 43 S (congrArg (Value.int .i64) (by rw [IntKind.wrap_i64]; omega : IntKind.i64.wrap ((j : Int) + 1) = ((j + 1 : Nat) : Int))) (by kernel_rfl) fun S => ?_
  refine sy_run ⟨0, [999]⟩ 80 S fun bs aa w S => ?_
  have S' := S.to [0, 1, 2, 3] (rnA L me k a bb ty ms mk ma wa da wl wc dl dc sa sl sc v (j + 1) B) (by kernel_rfl) (by kernel_rfl) (by kernel_rfl) (by kernel_rfl) (by kernel_rfl)
  refine sy_at (k := (.rnd (n) (bodyL rl1) :: rl1.k.tail)) (by kernel_rfl) ?_
  exact ih _ aa w S'
theorem r1_all (w0 : World) (L : Ly) (hok : L.ok) (me : Int) (k a bb ty ms mk ma : Int) (wa da : Option Addr) (wl wc dl dc : Nat) (sa : Option Addr) (sl sc : Nat) (b o : Nat) (Q : List (Int × Int × Int)) (hQ : Q.length = sl) (hsa : sl = 0 ∨ sa = some ⟨b, o, none⟩) (hsl : sl ≤ 1000000) (v : Value) (l : List (Int × Bool)) {R : Ending → World → Prop} : ∀ (r j : Nat), j + r = sl → ∀ (B : Bool) (hk : ∀ (bs : List Nat) (aa : Act) (w : World) (S : Sy w0 none bs (rnB L me k a bb ty ms mk ma wa da wl wc dl dc sa sl sc v (B || !allW L (Q.drop j))) [rfLog v l, rfSeen b o Q] aa w), post Try.prog rk6 (bodyPost Try.prog Try.f12 R) .normal aa w) (bs : List Nat) (aa : Act) (w : World) (S : Sy w0 none bs (rnA L me k a bb ty ms mk ma wa da wl wc dl dc sa sl sc v j B) [rfLog v l, rfSeen b o Q] aa w), post Try.prog (.rnd (r + 1) (bodyL rl1) :: rl1.k.tail) (bodyPost Try.prog Try.f12 R) .normal aa w := by
  intro r
  induction r with
  | zero =>
    intro j hj B hk bs aa w S
    obtain rfl : j = sl := by omega
    rw [List.drop_of_length_le (by omega), show (B || !allW L []) = B by simp [allW]] at hk
    exact r1_end w0 L hok me k a bb ty ms mk ma wa da wl wc dl dc sa j sc b o Q hQ hsa hsl v l 0 B hk bs aa w S
  | succ r ih =>
    intro j hj B hk bs aa w S
    rw [drop_at (by omega)] at hk
    cases B with
    | true => exact r1_t w0 L hok me k a bb ty ms mk ma wa da wl wc dl dc sa sl sc b o Q hQ hsa hsl v l (r + 1) j (by omega) (fun bs aa w S => ih (j + 1) (by omega) true (by simpa using hk) bs aa w S) bs aa w S
    | false =>
      refine r1_f w0 L hok me k a bb ty ms mk ma wa da wl wc dl dc sa sl sc b o Q hQ hsa hsl v l (r + 1) j (by omega) _ rfl (fun bs aa w S => ih (j + 1) (by omega) _ ?_ bs aa w S) bs aa w S
      have e : (false || !allW L ((Q.getD j (0, 0, 0)) :: Q.drop (j + 1))) = (decide (atWord L (Q.getD j (0, 0, 0)).1 < 0) || !allW L (Q.drop (j + 1))) := by
        simp only [allW, Bool.false_or, Bool.not_and, Bool.not_not]
      rw [e] at hk
      exact hk
def markC (L : Ly) (me kk : Int) (Q : List (Int × Int × Int)) : CSt → CSt
  | (l, some q) => (l, some q)
  | (l, none) => markS L me kk Q l
theorem markC_step {L : Ly} {me kk : Int} {Q : List (Int × Int × Int)} {j : Nat} (hj : j < Q.length) (l : List (Int × Bool)) : markC L me kk (Q.drop j) (l, none) = markC L me kk (Q.drop (j + 1)) (runP (hasK kk me) (apK kk me) (atWaiters L (Q.getD j (0, 0, 0)).1) l).2 := by
  show markS L me kk (Q.drop j) l = _
  rw [markS_step hj]
  obtain ⟨⟨ob, l', oq⟩, hX⟩ : ∃ X, runP (hasK kk me) (apK kk me) (atWaiters L (Q.getD j (0, 0, 0)).1) l = X := ⟨_, rfl⟩
  rw [hX]
  cases oq <;> rfl
set_option maxHeartbeats 8000000 in
theorem r2_end (w0 : World) (g B0 B1 B2 B3 : Nat) (hg : w0.heap.size ≤ g) (h3 : B3 ≠ g) (L : Ly) (hok : L.ok) (me : Int) (ht : 0 ≤ me ∧ me ≤ 61) (k a bb ty ms mk ma : Int) (wa da : Option Addr) (wl wc dl dc : Nat) (sa : Option Addr) (sl sc : Nat) (b o : Nat) (Q : List (Int × Int × Int)) (hQ : Q.length = sl) (hsa : sl = 0 ∨ sa = some ⟨b, o, none⟩) (hsl : sl ≤ 1000000) (hsg : ¬ (rfSeen b o Q).bl g) {R : Ending → World → Prop}  (n : Nat) (x : CSt) (hk : ∀ (aa : Act) (w : World) (S : Sy w0 none [B0, B1, B2] (rnE L me k a bb ty ms mk ma wa da wl wc dl dc sa sl sc g B3) [rfCurE g B0 B1 B2 (x), rfBox B3 56 [.int .i64 0, .int .i64 0, .int .i64 0, .int .i64 0, .bool false, .bool false, .int .i64 0], rfSeen b o Q] aa w), post Try.prog rk18 (bodyPost Try.prog Try.f12 R) .normal aa w) (aa : Act) (w : World) (S : Sy w0 none [B0, B1, B2] (rnD L me k a bb ty ms mk ma wa da wl wc dl dc sa sl sc g B3 sl) [rfCurE g B0 B1 B2 (x), rfBox B3 56 [.int .i64 0, .int .i64 0, .int .i64 0, .int .i64 0, .bool false, .bool false, .int .i64 0], rfSeen b o Q] aa w) : post Try.prog (.rnd (n + 1) (bodyL rl2) :: rl2.k.tail) (bodyPost Try.prog Try.f12 R) .normal aa w := by
  refine sy_run (c := ⟨(.rnd (n + 1) (bodyL rl2) :: rl2.k.tail), rnD L me k a bb ty ms mk ma wa da wl wc dl dc sa sl sc g B3 sl⟩) ⟨0, [15]⟩ 50 S fun bs aa w S => ?_
  refine sy_reg S fun S => ?_
  refine sy_ops 5 S fun bs aa w S => ?_
  refine sy_cast 75 S (congrArg Value.bool (by simp : decide ((sl : Int) < (sl : Int)) = false)) (by kernel_rfl) fun S => ?_
  refine sy_run ⟨0, [18]⟩ 80 S fun bs aa w S => ?_
  have S' : Sy w0 none [B0, B1, B2] (rnE L me k a bb ty ms mk ma wa da wl wc dl dc sa sl sc g B3) _ aa w := S.to [0, 1, 2] (rnE L me k a bb ty ms mk ma wa da wl wc dl dc sa sl sc g B3) (by kernel_rfl) (by kernel_rfl) (by kernel_rfl) (by kernel_rfl) (by kernel_rfl)
  refine sy_at (k := rk18) (by kernel_rfl) ?_
  exact hk aa w S'
set_option maxHeartbeats 8000000 in
theorem r2_stop (w0 : World) (g B0 B1 B2 B3 : Nat) (hg : w0.heap.size ≤ g) (h3 : B3 ≠ g) (L : Ly) (hok : L.ok) (me : Int) (ht : 0 ≤ me ∧ me ≤ 61) (k a bb ty ms mk ma : Int) (wa da : Option Addr) (wl wc dl dc : Nat) (sa : Option Addr) (sl sc : Nat) (b o : Nat) (Q : List (Int × Int × Int)) (hQ : Q.length = sl) (hsa : sl = 0 ∨ sa = some ⟨b, o, none⟩) (hsl : sl ≤ 1000000) (hsg : ¬ (rfSeen b o Q).bl g) {R : Ending → World → Prop}  (n j : Nat) (hj : j < sl) (l : List (Int × Bool)) (q : Ask) (hk : ∀ (aa : Act) (w : World) (S : Sy w0 none [B0, B1, B2] (rnE L me k a bb ty ms mk ma wa da wl wc dl dc sa sl sc g B3) [rfCurE g B0 B1 B2 (l, some q), rfBox B3 56 [.int .i64 0, .int .i64 0, .int .i64 0, .int .i64 0, .bool false, .bool false, .int .i64 0], rfSeen b o Q] aa w), post Try.prog rk18 (bodyPost Try.prog Try.f12 R) .normal aa w) (aa : Act) (w : World) (S : Sy w0 none [B0, B1, B2] (rnD L me k a bb ty ms mk ma wa da wl wc dl dc sa sl sc g B3 j) [rfCurE g B0 B1 B2 (l, some q), rfBox B3 56 [.int .i64 0, .int .i64 0, .int .i64 0, .int .i64 0, .bool false, .bool false, .int .i64 0], rfSeen b o Q] aa w) : post Try.prog (.rnd (n + 1) (bodyL rl2) :: rl2.k.tail) (bodyPost Try.prog Try.f12 R) .normal aa w := by
  refine sy_run (c := ⟨(.rnd (n + 1) (bodyL rl2) :: rl2.k.tail), rnD L me k a bb ty ms mk ma wa da wl wc dl dc sa sl sc g B3 j⟩) ⟨0, [15]⟩ 50 S fun bs aa w S => ?_
  refine sy_reg S fun S => ?_
  refine sy_ops 5 S fun bs aa w S => ?_
  refine sy_cast 75 S (congrArg Value.bool (by simp; omega : decide ((j : Int) < (sl : Int)) = true)) (by kernel_rfl) fun S => ?_
  refine sy_ops 4 S fun bs aa w S => ?_
  refine sy_ldf S (curAt_stop (S.fact (f := rfCurE g B0 B1 B2 (l, some q)) (by simp)).1) (by kernel_rfl) fun aa S => ?_
  refine sy_run ⟨0, [18]⟩ 80 S fun bs aa w S => ?_
  have S' : Sy w0 none [B0, B1, B2] (rnE L me k a bb ty ms mk ma wa da wl wc dl dc sa sl sc g B3) _ aa w := S.to [0, 1, 2] (rnE L me k a bb ty ms mk ma wa da wl wc dl dc sa sl sc g B3) (by kernel_rfl) (by kernel_rfl) (by kernel_rfl) (by kernel_rfl) (by kernel_rfl)
  refine sy_at (k := rk18) (by kernel_rfl) ?_
  exact hk aa w S'
set_option maxHeartbeats 8000000 in
theorem r2_step (w0 : World) (g B0 B1 B2 B3 : Nat) (hg : w0.heap.size ≤ g) (h3 : B3 ≠ g) (L : Ly) (hok : L.ok) (me : Int) (ht : 0 ≤ me ∧ me ≤ 61) (k a bb ty ms mk ma : Int) (wa da : Option Addr) (wl wc dl dc : Nat) (sa : Option Addr) (sl sc : Nat) (b o : Nat) (Q : List (Int × Int × Int)) (hQ : Q.length = sl) (hsa : sl = 0 ∨ sa = some ⟨b, o, none⟩) (hsl : sl ≤ 1000000) (hsg : ¬ (rfSeen b o Q).bl g) {R : Ending → World → Prop}  (n j : Nat) (hj : j < sl) (l : List (Int × Bool)) (hI : ∀ x ∈ l, I64 x.1) (ih : ∀ (aa : Act) (w : World) (S : Sy w0 none [B0, B1, B2] (rnD L me k a bb ty ms mk ma wa da wl wc dl dc sa sl sc g B3 (j + 1)) [rfCurE g B0 B1 B2 ((runP (hasK 3 me) (apK 3 me) (atWaiters L (Q.getD j (0, 0, 0)).1) l).2), rfBox B3 56 [.int .i64 0, .int .i64 0, .int .i64 0, .int .i64 0, .bool false, .bool false, .int .i64 0], rfSeen b o Q] aa w), post Try.prog (.rnd (n) (bodyL rl2) :: rl2.k.tail) (bodyPost Try.prog Try.f12 R) .normal aa w) (aa : Act) (w : World) (S : Sy w0 none [B0, B1, B2] (rnD L me k a bb ty ms mk ma wa da wl wc dl dc sa sl sc g B3 j) [rfCurE g B0 B1 B2 (l, none), rfBox B3 56 [.int .i64 0, .int .i64 0, .int .i64 0, .int .i64 0, .bool false, .bool false, .int .i64 0], rfSeen b o Q] aa w) : post Try.prog (.rnd (n + 1) (bodyL rl2) :: rl2.k.tail) (bodyPost Try.prog Try.f12 R) .normal aa w := by
  refine sy_run (c := ⟨(.rnd (n + 1) (bodyL rl2) :: rl2.k.tail), rnD L me k a bb ty ms mk ma wa da wl wc dl dc sa sl sc g B3 j⟩) ⟨0, [15]⟩ 50 S fun bs aa w S => ?_
  refine sy_reg S fun S => ?_
  refine sy_ops 5 S fun bs aa w S => ?_
  refine sy_cast 75 S (congrArg Value.bool (by simp; omega : decide ((j : Int) < (sl : Int)) = true)) (by kernel_rfl) fun S => ?_
  refine sy_ops 4 S fun bs aa w S => ?_
  refine sy_ldf S (curAt_stop (S.fact (f := rfCurE g B0 B1 B2 (l, none)) (by simp)).1) (by kernel_rfl) fun aa S => ?_
  refine sy_run ⟨0, []⟩ 80 S fun bs aa w S => ?_
  refine dr_enter [0, 1] (by kernel_rfl) (by kernel_rfl) S (by kernel_rfl) fun aa w D => ?_
  refine dr_ix 5 (b := b) (off := o) (len := sl) (n := j) (size := 3) (ix := (j : Int)) D (by kernel_rfl) (by kernel_rfl) (by kernel_rfl) (by rw [← hsa.resolve_left (by omega)]; kernel_rfl) rfl hj fun aa D => ?_
  refine dr_ldo 7 D (by kernel_rfl) (by kernel_rfl) (by kernel_rfl) (ld_int ((D.S.fact (f := rfSeen b o Q) (by simp)) j (by omega)).1) (by kernel_rfl) fun aa D => ?_
  refine dr_call1 8 D (by kernel_rfl) (by kernel_rfl) (by kernel_rfl) (rwaiters_any L (Q.getD j (0, 0, 0)).1 w hok) (by kernel_rfl) fun aa w hb D => ?_
  have hC := pput_any (atWaiters L (Q.getD j (0, 0, 0)).1) me g l hI w (D.S.fact (f := rfCurE g B0 B1 B2 (l, none)) (by simp)).1
  have eh : runP (fun m => isIn m me) (fun m => withT m me) = runP (hasK 3 me) (apK 3 me) := rfl
  rw [eh] at hC
  have hap := (D.S.fs (rfCurE g B0 B1 B2 (l, none)) (by simp)).2
  refine dr_callG 10 D (Or.inr hg) (by kernel_rfl) (by kernel_rfl) (by kernel_rfl) (v := .bool (runP (hasK 3 me) (apK 3 me) (atWaiters L (Q.getD j (0, 0, 0)).1) l).1) (C := fun w' => CurAt w' g ((runP (hasK 3 me) (apK 3 me) (atWaiters L (Q.getD j (0, 0, 0)).1) l).2)) (hC) (by kernel_rfl) (F' := [rfBox B3 56 [.int .i64 0, .int .i64 0, .int .i64 0, .int .i64 0, .bool false, .bool false, .int .i64 0], rfSeen b o Q]) (by
    intro f hf
    simp only [List.mem_cons, List.not_mem_nil, or_false] at hf
    rcases hf with rfl | rfl
    · exact ⟨by simp, fun h => h3 h.symm⟩
    · exact ⟨by simp, hsg⟩) (fun i hi he => hap i hi (Or.inl he)) fun aa w hR D => ?_
  have D := D.addF (rfCurE g B0 B1 B2 ((runP (hasK 3 me) (apK 3 me) (atWaiters L (Q.getD j (0, 0, 0)).1) l).2)) (curE_of (P := Try.prog) (k0 := ⟨42, [.int .i64 L.c.t, .int .i64 L.c.l, .int .i64 L.c.k, .int .i64 L.c.s, .int .i64 L.c.m, .int .i64 L.clock, .int .i64 L.stamps, .int .i64 L.log, .int .i64 L.fin, .int .i64 L.thread, .int .i64 L.lock, .int .i64 L.loc, .int .i64 L.size]⟩) (k1 := ⟨48, [.int .i64 k, .int .i64 a, .int .i64 bb, .int .i64 ty, .int .i64 ms, .int .i64 mk, .int .i64 ma, .slice sa sl sc, .slice wa wl wc, .slice da dl dc]⟩) (k2 := ⟨53, [.int .i64 0, .int .i64 0, .int .i64 0, .int .i64 0, .string ⟨#[]⟩]⟩) D.S hR rfl rfl rfl (by kernel_rfl) (by kernel_rfl) (by kernel_rfl) (by simp) (by simp) (by simp)) hap
  refine dr_end D (by kernel_rfl) fun S => ?_
  refine sy_run ⟨0, [16]⟩ 80 S fun bs aa w S => ?_
  refine sy_reg S fun S => ?_
  refine sy_ops 2 S fun bs aa w S => ?_
  refine sy_cast 84 S (congrArg (Value.int .i64) (by rw [IntKind.wrap_i64]; omega : IntKind.i64.wrap ((j : Int) + 1) = ((j + 1 : Nat) : Int))) (by kernel_rfl) fun S => ?_
  refine sy_run ⟨0, [999]⟩ 80 S fun bs aa w S => ?_
  have S' : Sy w0 none [B0, B1, B2] (rnD L me k a bb ty ms mk ma wa da wl wc dl dc sa sl sc g B3 (j + 1)) _ aa w := S.to [0, 1, 2] (rnD L me k a bb ty ms mk ma wa da wl wc dl dc sa sl sc g B3 (j + 1)) (by kernel_rfl) (by kernel_rfl) (by kernel_rfl) (by kernel_rfl) (by kernel_rfl)
  refine sy_at (k := (.rnd (n) (bodyL rl2) :: rl2.k.tail)) (by kernel_rfl) ?_
  exact ih aa w S'
theorem r2_all (w0 : World) (g B0 B1 B2 B3 : Nat) (hg : w0.heap.size ≤ g) (h3 : B3 ≠ g) (L : Ly) (hok : L.ok) (me : Int) (ht : 0 ≤ me ∧ me ≤ 61) (k a bb ty ms mk ma : Int) (wa da : Option Addr) (wl wc dl dc : Nat) (sa : Option Addr) (sl sc : Nat) (b o : Nat) (Q : List (Int × Int × Int)) (hQ : Q.length = sl) (hsa : sl = 0 ∨ sa = some ⟨b, o, none⟩) (hsl : sl ≤ 1000000) (hsg : ¬ (rfSeen b o Q).bl g) {R : Ending → World → Prop}  : ∀ (r j : Nat), j + r = sl → ∀ (x : CSt) (hI : x.2 = none → ∀ y ∈ x.1, I64 y.1) (hk : ∀ (aa : Act) (w : World) (S : Sy w0 none [B0, B1, B2] (rnE L me k a bb ty ms mk ma wa da wl wc dl dc sa sl sc g B3) [rfCurE g B0 B1 B2 (markC L me 3 (Q.drop j) x), rfBox B3 56 [.int .i64 0, .int .i64 0, .int .i64 0, .int .i64 0, .bool false, .bool false, .int .i64 0], rfSeen b o Q] aa w), post Try.prog rk18 (bodyPost Try.prog Try.f12 R) .normal aa w) (aa : Act) (w : World) (S : Sy w0 none [B0, B1, B2] (rnD L me k a bb ty ms mk ma wa da wl wc dl dc sa sl sc g B3 j) [rfCurE g B0 B1 B2 (x), rfBox B3 56 [.int .i64 0, .int .i64 0, .int .i64 0, .int .i64 0, .bool false, .bool false, .int .i64 0], rfSeen b o Q] aa w), post Try.prog (.rnd (r + 1) (bodyL rl2) :: rl2.k.tail) (bodyPost Try.prog Try.f12 R) .normal aa w := by
  intro r
  induction r with
  | zero =>
    intro j hj x hI hk aa w S
    obtain rfl : j = sl := by omega
    have e : markC L me 3 (Q.drop j) x = x := by
      rw [List.drop_of_length_le (by omega)]
      obtain ⟨l, oq⟩ := x
      cases oq <;> rfl
    rw [e] at hk
    exact r2_end w0 g B0 B1 B2 B3 hg h3 L hok me ht k a bb ty ms mk ma wa da wl wc dl dc sa j sc b o Q hQ hsa hsl hsg  0 x hk aa w S
  | succ r ih =>
    intro j hj x hI hk aa w S
    obtain ⟨l, oq⟩ := x
    cases oq with
    | some q => exact r2_stop w0 g B0 B1 B2 B3 hg h3 L hok me ht k a bb ty ms mk ma wa da wl wc dl dc sa sl sc b o Q hQ hsa hsl hsg  (r + 1) j (by omega) l q hk aa w S
    | none =>
      rw [markC_step (by omega)] at hk
      have hr := runP_rest (has := hasK 3 me) (ap := apK 3 me) (atWaiters L (Q.getD j (0, 0, 0)).1) (l.length + 1) l (by omega)
      exact r2_step w0 g B0 B1 B2 B3 hg h3 L hok me ht k a bb ty ms mk ma wa da wl wc dl dc sa sl sc b o Q hQ hsa hsl hsg  (r + 1) j (by omega) l (hI rfl) (fun aa w S => ih (j + 1) (by omega) _ (fun _ y hy => hI rfl y (hr.1 y hy)) hk aa w S) aa w S
set_option maxHeartbeats 8000000 in
theorem r4_end (w0 : World) (g B0 B1 B2 B3 : Nat) (hg : w0.heap.size ≤ g) (h3 : B3 ≠ g) (L : Ly) (hok : L.ok) (me : Int) (ht : 0 ≤ me ∧ me ≤ 61) (k a bb ty ms mk ma : Int) (wa da : Option Addr) (wl wc dl dc : Nat) (sa : Option Addr) (sl sc : Nat) (b o : Nat) (Q : List (Int × Int × Int)) (hQ : Q.length = sl) (hsa : sl = 0 ∨ sa = some ⟨b, o, none⟩) (hsl : sl ≤ 1000000) (hsg : ¬ (rfSeen b o Q).bl g) {R : Ending → World → Prop} (out is : Bool) (n : Nat) (x : CSt) (hk : ∀ (aa : Act) (w : World) (S : Sy w0 none [B0, B1, B2] (rnI L me k a bb ty ms mk ma wa da wl wc dl dc sa sl sc g B3 is) [rfCurE g B0 B1 B2 (x), rfBox B3 56 [.int .i64 0, .int .i64 0, .int .i64 0, .int .i64 0, .bool false, .bool false, .int .i64 0], rfSeen b o Q] aa w), post Try.prog rk32 (bodyPost Try.prog Try.f12 R) .normal aa w) (aa : Act) (w : World) (S : Sy w0 none [B0, B1, B2] (rnH L me k a bb ty ms mk ma wa da wl wc dl dc sa sl sc g B3 sl out is) [rfCurE g B0 B1 B2 (x), rfBox B3 56 [.int .i64 0, .int .i64 0, .int .i64 0, .int .i64 0, .bool false, .bool false, .int .i64 0], rfSeen b o Q] aa w) : post Try.prog (.rnd (n + 1) (bodyL rl4) :: rl4.k.tail) (bodyPost Try.prog Try.f12 R) .normal aa w := by
  refine sy_run (c := ⟨(.rnd (n + 1) (bodyL rl4) :: rl4.k.tail), rnH L me k a bb ty ms mk ma wa da wl wc dl dc sa sl sc g B3 sl out is⟩) ⟨0, [29]⟩ 50 S fun bs aa w S => ?_
  refine sy_reg S fun S => ?_
  refine sy_ops 5 S fun bs aa w S => ?_
  refine sy_cast 146 S (congrArg Value.bool (by simp : decide ((sl : Int) < (sl : Int)) = false)) (by kernel_rfl) fun S => ?_
  refine sy_run ⟨0, [32]⟩ 80 S fun bs aa w S => ?_
  have S' : Sy w0 none [B0, B1, B2] (rnI L me k a bb ty ms mk ma wa da wl wc dl dc sa sl sc g B3 is) _ aa w := S.to [0, 1, 2] (rnI L me k a bb ty ms mk ma wa da wl wc dl dc sa sl sc g B3 is) (by kernel_rfl) (by kernel_rfl) (by kernel_rfl) (by kernel_rfl) (by kernel_rfl)
  refine sy_at (k := rk32) (by kernel_rfl) ?_
  exact hk aa w S'
set_option maxHeartbeats 8000000 in
theorem r4_stop (w0 : World) (g B0 B1 B2 B3 : Nat) (hg : w0.heap.size ≤ g) (h3 : B3 ≠ g) (L : Ly) (hok : L.ok) (me : Int) (ht : 0 ≤ me ∧ me ≤ 61) (k a bb ty ms mk ma : Int) (wa da : Option Addr) (wl wc dl dc : Nat) (sa : Option Addr) (sl sc : Nat) (b o : Nat) (Q : List (Int × Int × Int)) (hQ : Q.length = sl) (hsa : sl = 0 ∨ sa = some ⟨b, o, none⟩) (hsl : sl ≤ 1000000) (hsg : ¬ (rfSeen b o Q).bl g) {R : Ending → World → Prop} (out is : Bool) (n j : Nat) (hj : j < sl) (l : List (Int × Bool)) (q : Ask) (hk : ∀ (aa : Act) (w : World) (S : Sy w0 none [B0, B1, B2] (rnI L me k a bb ty ms mk ma wa da wl wc dl dc sa sl sc g B3 is) [rfCurE g B0 B1 B2 (l, some q), rfBox B3 56 [.int .i64 0, .int .i64 0, .int .i64 0, .int .i64 0, .bool false, .bool false, .int .i64 0], rfSeen b o Q] aa w), post Try.prog rk32 (bodyPost Try.prog Try.f12 R) .normal aa w) (aa : Act) (w : World) (S : Sy w0 none [B0, B1, B2] (rnH L me k a bb ty ms mk ma wa da wl wc dl dc sa sl sc g B3 j out is) [rfCurE g B0 B1 B2 (l, some q), rfBox B3 56 [.int .i64 0, .int .i64 0, .int .i64 0, .int .i64 0, .bool false, .bool false, .int .i64 0], rfSeen b o Q] aa w) : post Try.prog (.rnd (n + 1) (bodyL rl4) :: rl4.k.tail) (bodyPost Try.prog Try.f12 R) .normal aa w := by
  refine sy_run (c := ⟨(.rnd (n + 1) (bodyL rl4) :: rl4.k.tail), rnH L me k a bb ty ms mk ma wa da wl wc dl dc sa sl sc g B3 j out is⟩) ⟨0, [29]⟩ 50 S fun bs aa w S => ?_
  refine sy_reg S fun S => ?_
  refine sy_ops 5 S fun bs aa w S => ?_
  refine sy_cast 146 S (congrArg Value.bool (by simp; omega : decide ((j : Int) < (sl : Int)) = true)) (by kernel_rfl) fun S => ?_
  refine sy_ops 4 S fun bs aa w S => ?_
  refine sy_ldf S (curAt_stop (S.fact (f := rfCurE g B0 B1 B2 (l, some q)) (by simp)).1) (by kernel_rfl) fun aa S => ?_
  refine sy_run ⟨0, [32]⟩ 80 S fun bs aa w S => ?_
  have S' : Sy w0 none [B0, B1, B2] (rnI L me k a bb ty ms mk ma wa da wl wc dl dc sa sl sc g B3 is) _ aa w := S.to [0, 1, 2] (rnI L me k a bb ty ms mk ma wa da wl wc dl dc sa sl sc g B3 is) (by kernel_rfl) (by kernel_rfl) (by kernel_rfl) (by kernel_rfl) (by kernel_rfl)
  refine sy_at (k := rk32) (by kernel_rfl) ?_
  exact hk aa w S'
set_option maxHeartbeats 8000000 in
theorem r4_step (w0 : World) (g B0 B1 B2 B3 : Nat) (hg : w0.heap.size ≤ g) (h3 : B3 ≠ g) (L : Ly) (hok : L.ok) (me : Int) (ht : 0 ≤ me ∧ me ≤ 61) (k a bb ty ms mk ma : Int) (wa da : Option Addr) (wl wc dl dc : Nat) (sa : Option Addr) (sl sc : Nat) (b o : Nat) (Q : List (Int × Int × Int)) (hQ : Q.length = sl) (hsa : sl = 0 ∨ sa = some ⟨b, o, none⟩) (hsl : sl ≤ 1000000) (hsg : ¬ (rfSeen b o Q).bl g) {R : Ending → World → Prop} (is : Bool) (n j : Nat) (hj : j < sl) (l : List (Int × Bool)) (hI : ∀ x ∈ l, I64 x.1) (ih : ∀ (aa : Act) (w : World) (S : Sy w0 none [B0, B1, B2] (rnH L me k a bb ty ms mk ma wa da wl wc dl dc sa sl sc g B3 (j + 1) true is) [rfCurE g B0 B1 B2 ((runP (hasK 4 me) (apK 4 me) (atWaiters L (Q.getD j (0, 0, 0)).1) l).2), rfBox B3 56 [.int .i64 0, .int .i64 0, .int .i64 0, .int .i64 0, .bool false, .bool false, .int .i64 0], rfSeen b o Q] aa w), post Try.prog (.rnd (n) (bodyL rl4) :: rl4.k.tail) (bodyPost Try.prog Try.f12 R) .normal aa w) (aa : Act) (w : World) (S : Sy w0 none [B0, B1, B2] (rnH L me k a bb ty ms mk ma wa da wl wc dl dc sa sl sc g B3 j true is) [rfCurE g B0 B1 B2 (l, none), rfBox B3 56 [.int .i64 0, .int .i64 0, .int .i64 0, .int .i64 0, .bool false, .bool false, .int .i64 0], rfSeen b o Q] aa w) : post Try.prog (.rnd (n + 1) (bodyL rl4) :: rl4.k.tail) (bodyPost Try.prog Try.f12 R) .normal aa w := by
  refine sy_run (c := ⟨(.rnd (n + 1) (bodyL rl4) :: rl4.k.tail), rnH L me k a bb ty ms mk ma wa da wl wc dl dc sa sl sc g B3 j true is⟩) ⟨0, [29]⟩ 50 S fun bs aa w S => ?_
  refine sy_reg S fun S => ?_
  refine sy_ops 5 S fun bs aa w S => ?_
  refine sy_cast 146 S (congrArg Value.bool (by simp; omega : decide ((j : Int) < (sl : Int)) = true)) (by kernel_rfl) fun S => ?_
  refine sy_ops 4 S fun bs aa w S => ?_
  refine sy_ldf S (curAt_stop (S.fact (f := rfCurE g B0 B1 B2 (l, none)) (by simp)).1) (by kernel_rfl) fun aa S => ?_
  refine sy_run ⟨0, []⟩ 80 S fun bs aa w S => ?_
  refine dr_enter [0, 1] (by kernel_rfl) (by kernel_rfl) S (by kernel_rfl) fun aa w D => ?_
  refine dr_ix 5 (b := b) (off := o) (len := sl) (n := j) (size := 3) (ix := (j : Int)) D (by kernel_rfl) (by kernel_rfl) (by kernel_rfl) (by rw [← hsa.resolve_left (by omega)]; kernel_rfl) rfl hj fun aa D => ?_
  refine dr_ldo 7 D (by kernel_rfl) (by kernel_rfl) (by kernel_rfl) (ld_int ((D.S.fact (f := rfSeen b o Q) (by simp)) j (by omega)).1) (by kernel_rfl) fun aa D => ?_
  refine dr_call1 8 D (by kernel_rfl) (by kernel_rfl) (by kernel_rfl) (rwaiters_any L (Q.getD j (0, 0, 0)).1 w hok) (by kernel_rfl) fun aa w hb D => ?_
  have hC := pout_any (atWaiters L (Q.getD j (0, 0, 0)).1) me g l hI w (D.S.fact (f := rfCurE g B0 B1 B2 (l, none)) (by simp)).1
  have eh : runP (fun m => !isIn m me) (fun m => sansT m me) = runP (hasK 4 me) (apK 4 me) := rfl
  rw [eh] at hC
  have hap := (D.S.fs (rfCurE g B0 B1 B2 (l, none)) (by simp)).2
  refine dr_callG 10 D (Or.inr hg) (by kernel_rfl) (by kernel_rfl) (by kernel_rfl) (v := .bool (runP (hasK 4 me) (apK 4 me) (atWaiters L (Q.getD j (0, 0, 0)).1) l).1) (C := fun w' => CurAt w' g ((runP (hasK 4 me) (apK 4 me) (atWaiters L (Q.getD j (0, 0, 0)).1) l).2)) (hC) (by kernel_rfl) (F' := [rfBox B3 56 [.int .i64 0, .int .i64 0, .int .i64 0, .int .i64 0, .bool false, .bool false, .int .i64 0], rfSeen b o Q]) (by
    intro f hf
    simp only [List.mem_cons, List.not_mem_nil, or_false] at hf
    rcases hf with rfl | rfl
    · exact ⟨by simp, fun h => h3 h.symm⟩
    · exact ⟨by simp, hsg⟩) (fun i hi he => hap i hi (Or.inl he)) fun aa w hR D => ?_
  have D := D.addF (rfCurE g B0 B1 B2 ((runP (hasK 4 me) (apK 4 me) (atWaiters L (Q.getD j (0, 0, 0)).1) l).2)) (curE_of (P := Try.prog) (k0 := ⟨42, [.int .i64 L.c.t, .int .i64 L.c.l, .int .i64 L.c.k, .int .i64 L.c.s, .int .i64 L.c.m, .int .i64 L.clock, .int .i64 L.stamps, .int .i64 L.log, .int .i64 L.fin, .int .i64 L.thread, .int .i64 L.lock, .int .i64 L.loc, .int .i64 L.size]⟩) (k1 := ⟨48, [.int .i64 k, .int .i64 a, .int .i64 bb, .int .i64 ty, .int .i64 ms, .int .i64 mk, .int .i64 ma, .slice sa sl sc, .slice wa wl wc, .slice da dl dc]⟩) (k2 := ⟨53, [.int .i64 0, .int .i64 0, .int .i64 0, .int .i64 0, .string ⟨#[]⟩]⟩) D.S hR rfl rfl rfl (by kernel_rfl) (by kernel_rfl) (by kernel_rfl) (by simp) (by simp) (by simp)) hap
  refine dr_end D (by kernel_rfl) fun S => ?_
  refine sy_run ⟨0, [30]⟩ 80 S fun bs aa w S => ?_
  refine sy_reg S fun S => ?_
  refine sy_ops 2 S fun bs aa w S => ?_
  refine sy_cast 158 S (congrArg (Value.int .i64) (by rw [IntKind.wrap_i64]; omega : IntKind.i64.wrap ((j : Int) + 1) = ((j + 1 : Nat) : Int))) (by kernel_rfl) fun S => ?_
  refine sy_run ⟨0, [999]⟩ 80 S fun bs aa w S => ?_
  have S' : Sy w0 none [B0, B1, B2] (rnH L me k a bb ty ms mk ma wa da wl wc dl dc sa sl sc g B3 (j + 1) true is) _ aa w := S.to [0, 1, 2] (rnH L me k a bb ty ms mk ma wa da wl wc dl dc sa sl sc g B3 (j + 1) true is) (by kernel_rfl) (by kernel_rfl) (by kernel_rfl) (by kernel_rfl) (by kernel_rfl)
  refine sy_at (k := (.rnd (n) (bodyL rl4) :: rl4.k.tail)) (by kernel_rfl) ?_
  exact ih aa w S'
theorem r4_all (w0 : World) (g B0 B1 B2 B3 : Nat) (hg : w0.heap.size ≤ g) (h3 : B3 ≠ g) (L : Ly) (hok : L.ok) (me : Int) (ht : 0 ≤ me ∧ me ≤ 61) (k a bb ty ms mk ma : Int) (wa da : Option Addr) (wl wc dl dc : Nat) (sa : Option Addr) (sl sc : Nat) (b o : Nat) (Q : List (Int × Int × Int)) (hQ : Q.length = sl) (hsa : sl = 0 ∨ sa = some ⟨b, o, none⟩) (hsl : sl ≤ 1000000) (hsg : ¬ (rfSeen b o Q).bl g) {R : Ending → World → Prop} (is : Bool) : ∀ (r j : Nat), j + r = sl → ∀ (x : CSt) (hI : x.2 = none → ∀ y ∈ x.1, I64 y.1) (hk : ∀ (aa : Act) (w : World) (S : Sy w0 none [B0, B1, B2] (rnI L me k a bb ty ms mk ma wa da wl wc dl dc sa sl sc g B3 is) [rfCurE g B0 B1 B2 (markC L me 4 (Q.drop j) x), rfBox B3 56 [.int .i64 0, .int .i64 0, .int .i64 0, .int .i64 0, .bool false, .bool false, .int .i64 0], rfSeen b o Q] aa w), post Try.prog rk32 (bodyPost Try.prog Try.f12 R) .normal aa w) (aa : Act) (w : World) (S : Sy w0 none [B0, B1, B2] (rnH L me k a bb ty ms mk ma wa da wl wc dl dc sa sl sc g B3 j true is) [rfCurE g B0 B1 B2 (x), rfBox B3 56 [.int .i64 0, .int .i64 0, .int .i64 0, .int .i64 0, .bool false, .bool false, .int .i64 0], rfSeen b o Q] aa w), post Try.prog (.rnd (r + 1) (bodyL rl4) :: rl4.k.tail) (bodyPost Try.prog Try.f12 R) .normal aa w := by
  intro r
  induction r with
  | zero =>
    intro j hj x hI hk aa w S
    obtain rfl : j = sl := by omega
    have e : markC L me 4 (Q.drop j) x = x := by
      rw [List.drop_of_length_le (by omega)]
      obtain ⟨l, oq⟩ := x
      cases oq <;> rfl
    rw [e] at hk
    exact r4_end w0 g B0 B1 B2 B3 hg h3 L hok me ht k a bb ty ms mk ma wa da wl wc dl dc sa j sc b o Q hQ hsa hsl hsg true is 0 x hk aa w S
  | succ r ih =>
    intro j hj x hI hk aa w S
    obtain ⟨l, oq⟩ := x
    cases oq with
    | some q => exact r4_stop w0 g B0 B1 B2 B3 hg h3 L hok me ht k a bb ty ms mk ma wa da wl wc dl dc sa sl sc b o Q hQ hsa hsl hsg true is (r + 1) j (by omega) l q hk aa w S
    | none =>
      rw [markC_step (by omega)] at hk
      have hr := runP_rest (has := hasK 4 me) (ap := apK 4 me) (atWaiters L (Q.getD j (0, 0, 0)).1) (l.length + 1) l (by omega)
      exact r4_step w0 g B0 B1 B2 B3 hg h3 L hok me ht k a bb ty ms mk ma wa da wl wc dl dc sa sl sc b o Q hQ hsa hsl hsg is (r + 1) j (by omega) l (hI rfl) (fun aa w S => ih (j + 1) (by omega) _ (fun _ y hy => hI rfl y (hr.1 y hy)) hk aa w S) aa w S
set_option maxHeartbeats 8000000 in
theorem r4_no (w0 : World) (g B0 B1 B2 B3 : Nat) (hg : w0.heap.size ≤ g) (h3 : B3 ≠ g) (L : Ly) (hok : L.ok) (me : Int) (ht : 0 ≤ me ∧ me ≤ 61) (k a bb ty ms mk ma : Int) (wa da : Option Addr) (wl wc dl dc : Nat) (sa : Option Addr) (sl sc : Nat) (b o : Nat) (Q : List (Int × Int × Int)) (hQ : Q.length = sl) (hsa : sl = 0 ∨ sa = some ⟨b, o, none⟩) (hsl : sl ≤ 1000000) (hsg : ¬ (rfSeen b o Q).bl g) {R : Ending → World → Prop} (is : Bool) (n j : Nat) (hj : j < sl) (l : List (Int × Bool)) (hk : ∀ (aa : Act) (w : World) (S : Sy w0 none [B0, B1, B2] (rnI L me k a bb ty ms mk ma wa da wl wc dl dc sa sl sc g B3 is) [rfCurE g B0 B1 B2 (l, none), rfBox B3 56 [.int .i64 0, .int .i64 0, .int .i64 0, .int .i64 0, .bool false, .bool false, .int .i64 0], rfSeen b o Q] aa w), post Try.prog rk32 (bodyPost Try.prog Try.f12 R) .normal aa w) (aa : Act) (w : World) (S : Sy w0 none [B0, B1, B2] (rnH L me k a bb ty ms mk ma wa da wl wc dl dc sa sl sc g B3 j false is) [rfCurE g B0 B1 B2 (l, none), rfBox B3 56 [.int .i64 0, .int .i64 0, .int .i64 0, .int .i64 0, .bool false, .bool false, .int .i64 0], rfSeen b o Q] aa w) : post Try.prog (.rnd (n + 1) (bodyL rl4) :: rl4.k.tail) (bodyPost Try.prog Try.f12 R) .normal aa w := by
  refine sy_run (c := ⟨(.rnd (n + 1) (bodyL rl4) :: rl4.k.tail), rnH L me k a bb ty ms mk ma wa da wl wc dl dc sa sl sc g B3 j false is⟩) ⟨0, [29]⟩ 50 S fun bs aa w S => ?_
  refine sy_reg S fun S => ?_
  refine sy_ops 5 S fun bs aa w S => ?_
  refine sy_cast 146 S (congrArg Value.bool (by simp; omega : decide ((j : Int) < (sl : Int)) = true)) (by kernel_rfl) fun S => ?_
  refine sy_ops 4 S fun bs aa w S => ?_
  refine sy_ldf S (curAt_stop (S.fact (f := rfCurE g B0 B1 B2 (l, none)) (by simp)).1) (by kernel_rfl) fun aa S => ?_
  refine sy_run ⟨0, [32]⟩ 80 S fun bs aa w S => ?_
  have S' : Sy w0 none [B0, B1, B2] (rnI L me k a bb ty ms mk ma wa da wl wc dl dc sa sl sc g B3 is) _ aa w := S.to [0, 1, 2] (rnI L me k a bb ty ms mk ma wa da wl wc dl dc sa sl sc g B3 is) (by kernel_rfl) (by kernel_rfl) (by kernel_rfl) (by kernel_rfl) (by kernel_rfl)
  refine sy_at (k := rk32) (by kernel_rfl) ?_
  exact hk aa w S'
set_option maxHeartbeats 8000000 in
theorem r3_end (w0 : World) (g B0 B1 B2 B3 : Nat) (hg : w0.heap.size ≤ g) (h3 : B3 ≠ g) (L : Ly) (hok : L.ok) (me : Int) (ht : 0 ≤ me ∧ me ≤ 61) (k a bb ty ms mk ma : Int) (wa da : Option Addr) (wl wc dl dc : Nat) (sa : Option Addr) (sl sc : Nat) (b o : Nat) (Q : List (Int × Int × Int)) (hQ : Q.length = sl) (hsa : sl = 0 ∨ sa = some ⟨b, o, none⟩) (hsl : sl ≤ 1000000) (hsg : ¬ (rfSeen b o Q).bl g) {R : Ending → World → Prop} (n : Nat) (out : Bool) (x : CSt) (hk : ∀ (aa : Act) (w : World) (S : Sy w0 none [B0, B1, B2] (rnG L me k a bb ty ms mk ma wa da wl wc dl dc sa sl sc g B3 out) [rfCurE g B0 B1 B2 (x), rfBox B3 56 [.int .i64 0, .int .i64 0, .int .i64 0, .int .i64 0, .bool false, .bool false, .int .i64 0], rfSeen b o Q] aa w), post Try.prog rk24 (bodyPost Try.prog Try.f12 R) .normal aa w) (aa : Act) (w : World) (S : Sy w0 none [B0, B1, B2] (rnF L me k a bb ty ms mk ma wa da wl wc dl dc sa sl sc g B3 sl out) [rfCurE g B0 B1 B2 (x), rfBox B3 56 [.int .i64 0, .int .i64 0, .int .i64 0, .int .i64 0, .bool false, .bool false, .int .i64 0], rfSeen b o Q] aa w) : post Try.prog (.rnd (n + 1) (bodyL rl3) :: rl3.k.tail) (bodyPost Try.prog Try.f12 R) .normal aa w := by
  refine sy_run (c := ⟨(.rnd (n + 1) (bodyL rl3) :: rl3.k.tail), rnF L me k a bb ty ms mk ma wa da wl wc dl dc sa sl sc g B3 sl out⟩) ⟨0, [20]⟩ 50 S fun bs aa w S => ?_
  refine sy_reg S fun S => ?_
  refine sy_ops 5 S fun bs aa w S => ?_
  refine sy_cast 100 S (congrArg Value.bool (by simp : decide ((sl : Int) < (sl : Int)) = false)) (by kernel_rfl) fun S => ?_
  refine sy_run ⟨0, [24]⟩ 80 S fun bs aa w S => ?_
  have S' : Sy w0 none [B0, B1, B2] (rnG L me k a bb ty ms mk ma wa da wl wc dl dc sa sl sc g B3 out) _ aa w := S.to [0, 1, 2] (rnG L me k a bb ty ms mk ma wa da wl wc dl dc sa sl sc g B3 out) (by kernel_rfl) (by kernel_rfl) (by kernel_rfl) (by kernel_rfl) (by kernel_rfl)
  refine sy_at (k := rk24) (by kernel_rfl) ?_
  exact hk aa w S'
set_option maxHeartbeats 8000000 in
theorem r3_stop (w0 : World) (g B0 B1 B2 B3 : Nat) (hg : w0.heap.size ≤ g) (h3 : B3 ≠ g) (L : Ly) (hok : L.ok) (me : Int) (ht : 0 ≤ me ∧ me ≤ 61) (k a bb ty ms mk ma : Int) (wa da : Option Addr) (wl wc dl dc : Nat) (sa : Option Addr) (sl sc : Nat) (b o : Nat) (Q : List (Int × Int × Int)) (hQ : Q.length = sl) (hsa : sl = 0 ∨ sa = some ⟨b, o, none⟩) (hsl : sl ≤ 1000000) (hsg : ¬ (rfSeen b o Q).bl g) {R : Ending → World → Prop} (n j : Nat) (hj : j < sl) (out : Bool) (l : List (Int × Bool)) (q : Ask) (hk : ∀ (aa : Act) (w : World) (S : Sy w0 none [B0, B1, B2] (rnG L me k a bb ty ms mk ma wa da wl wc dl dc sa sl sc g B3 out) [rfCurE g B0 B1 B2 (l, some q), rfBox B3 56 [.int .i64 0, .int .i64 0, .int .i64 0, .int .i64 0, .bool false, .bool false, .int .i64 0], rfSeen b o Q] aa w), post Try.prog rk24 (bodyPost Try.prog Try.f12 R) .normal aa w) (aa : Act) (w : World) (S : Sy w0 none [B0, B1, B2] (rnF L me k a bb ty ms mk ma wa da wl wc dl dc sa sl sc g B3 j out) [rfCurE g B0 B1 B2 (l, some q), rfBox B3 56 [.int .i64 0, .int .i64 0, .int .i64 0, .int .i64 0, .bool false, .bool false, .int .i64 0], rfSeen b o Q] aa w) : post Try.prog (.rnd (n + 1) (bodyL rl3) :: rl3.k.tail) (bodyPost Try.prog Try.f12 R) .normal aa w := by
  refine sy_run (c := ⟨(.rnd (n + 1) (bodyL rl3) :: rl3.k.tail), rnF L me k a bb ty ms mk ma wa da wl wc dl dc sa sl sc g B3 j out⟩) ⟨0, [20]⟩ 50 S fun bs aa w S => ?_
  refine sy_reg S fun S => ?_
  refine sy_ops 5 S fun bs aa w S => ?_
  refine sy_cast 100 S (congrArg Value.bool (by simp; omega : decide ((j : Int) < (sl : Int)) = true)) (by kernel_rfl) fun S => ?_
  refine sy_ops 4 S fun bs aa w S => ?_
  refine sy_ldf S (curAt_stop (S.fact (f := rfCurE g B0 B1 B2 (l, some q)) (by simp)).1) (by kernel_rfl) fun aa S => ?_
  refine sy_run ⟨0, [24]⟩ 80 S fun bs aa w S => ?_
  have S' : Sy w0 none [B0, B1, B2] (rnG L me k a bb ty ms mk ma wa da wl wc dl dc sa sl sc g B3 out) _ aa w := S.to [0, 1, 2] (rnG L me k a bb ty ms mk ma wa da wl wc dl dc sa sl sc g B3 out) (by kernel_rfl) (by kernel_rfl) (by kernel_rfl) (by kernel_rfl) (by kernel_rfl)
  refine sy_at (k := rk24) (by kernel_rfl) ?_
  exact hk aa w S'
set_option maxHeartbeats 8000000 in
theorem r3_out (w0 : World) (g B0 B1 B2 B3 : Nat) (hg : w0.heap.size ≤ g) (h3 : B3 ≠ g) (L : Ly) (hok : L.ok) (me : Int) (ht : 0 ≤ me ∧ me ≤ 61) (k a bb ty ms mk ma : Int) (wa da : Option Addr) (wl wc dl dc : Nat) (sa : Option Addr) (sl sc : Nat) (b o : Nat) (Q : List (Int × Int × Int)) (hQ : Q.length = sl) (hsa : sl = 0 ∨ sa = some ⟨b, o, none⟩) (hsl : sl ≤ 1000000) (hsg : ¬ (rfSeen b o Q).bl g) {R : Ending → World → Prop} (n j : Nat) (hj : j < sl) (l : List (Int × Bool)) (hk : ∀ (aa : Act) (w : World) (S : Sy w0 none [B0, B1, B2] (rnG L me k a bb ty ms mk ma wa da wl wc dl dc sa sl sc g B3 true) [rfCurE g B0 B1 B2 (l, none), rfBox B3 56 [.int .i64 0, .int .i64 0, .int .i64 0, .int .i64 0, .bool false, .bool false, .int .i64 0], rfSeen b o Q] aa w), post Try.prog rk24 (bodyPost Try.prog Try.f12 R) .normal aa w) (aa : Act) (w : World) (S : Sy w0 none [B0, B1, B2] (rnF L me k a bb ty ms mk ma wa da wl wc dl dc sa sl sc g B3 j true) [rfCurE g B0 B1 B2 (l, none), rfBox B3 56 [.int .i64 0, .int .i64 0, .int .i64 0, .int .i64 0, .bool false, .bool false, .int .i64 0], rfSeen b o Q] aa w) : post Try.prog (.rnd (n + 1) (bodyL rl3) :: rl3.k.tail) (bodyPost Try.prog Try.f12 R) .normal aa w := by
  refine sy_run (c := ⟨(.rnd (n + 1) (bodyL rl3) :: rl3.k.tail), rnF L me k a bb ty ms mk ma wa da wl wc dl dc sa sl sc g B3 j true⟩) ⟨0, [20]⟩ 50 S fun bs aa w S => ?_
  refine sy_reg S fun S => ?_
  refine sy_ops 5 S fun bs aa w S => ?_
  refine sy_cast 100 S (congrArg Value.bool (by simp; omega : decide ((j : Int) < (sl : Int)) = true)) (by kernel_rfl) fun S => ?_
  refine sy_ops 4 S fun bs aa w S => ?_
  refine sy_ldf S (curAt_stop (S.fact (f := rfCurE g B0 B1 B2 (l, none)) (by simp)).1) (by kernel_rfl) fun aa S => ?_
  refine sy_run ⟨0, [24]⟩ 80 S fun bs aa w S => ?_
  have S' : Sy w0 none [B0, B1, B2] (rnG L me k a bb ty ms mk ma wa da wl wc dl dc sa sl sc g B3 true) _ aa w := S.to [0, 1, 2] (rnG L me k a bb ty ms mk ma wa da wl wc dl dc sa sl sc g B3 true) (by kernel_rfl) (by kernel_rfl) (by kernel_rfl) (by kernel_rfl) (by kernel_rfl)
  refine sy_at (k := rk24) (by kernel_rfl) ?_
  exact hk aa w S'
set_option maxHeartbeats 8000000 in
theorem r3_nil0 (w0 : World) (g B0 B1 B2 B3 : Nat) (hg : w0.heap.size ≤ g) (h3 : B3 ≠ g) (L : Ly) (hok : L.ok) (me : Int) (ht : 0 ≤ me ∧ me ≤ 61) (k a bb ty ms mk ma : Int) (wa da : Option Addr) (wl wc dl dc : Nat) (sa : Option Addr) (sl sc : Nat) (b o : Nat) (Q : List (Int × Int × Int)) (hQ : Q.length = sl) (hsa : sl = 0 ∨ sa = some ⟨b, o, none⟩) (hsl : sl ≤ 1000000) (hsg : ¬ (rfSeen b o Q).bl g) {R : Ending → World → Prop} (n j : Nat) (hj : j < sl) (hr : decide ((0 : Int) = wrap64 (2 * (Q.getD j (0, 0, 0)).2.1)) = true) (ih : ∀ (aa : Act) (w : World) (S : Sy w0 none [B0, B1, B2] (rnF L me k a bb ty ms mk ma wa da wl wc dl dc sa sl sc g B3 (j + 1) false) [rfCurE g B0 B1 B2 ([], some ⟨1, atWord L (Q.getD j (0, 0, 0)).1, 0, 0⟩), rfBox B3 56 [.int .i64 0, .int .i64 0, .int .i64 0, .int .i64 0, .bool false, .bool false, .int .i64 0], rfSeen b o Q] aa w), post Try.prog (.rnd (n) (bodyL rl3) :: rl3.k.tail) (bodyPost Try.prog Try.f12 R) .normal aa w) (aa : Act) (w : World) (S : Sy w0 none [B0, B1, B2] (rnF L me k a bb ty ms mk ma wa da wl wc dl dc sa sl sc g B3 j false) [rfCurE g B0 B1 B2 ([], none), rfBox B3 56 [.int .i64 0, .int .i64 0, .int .i64 0, .int .i64 0, .bool false, .bool false, .int .i64 0], rfSeen b o Q] aa w) : post Try.prog (.rnd (n + 1) (bodyL rl3) :: rl3.k.tail) (bodyPost Try.prog Try.f12 R) .normal aa w := by
  refine sy_run (c := ⟨(.rnd (n + 1) (bodyL rl3) :: rl3.k.tail), rnF L me k a bb ty ms mk ma wa da wl wc dl dc sa sl sc g B3 j false⟩) ⟨0, [20]⟩ 50 S fun bs aa w S => ?_
  refine sy_reg S fun S => ?_
  refine sy_ops 5 S fun bs aa w S => ?_
  refine sy_cast 100 S (congrArg Value.bool (by simp; omega : decide ((j : Int) < (sl : Int)) = true)) (by kernel_rfl) fun S => ?_
  refine sy_ops 4 S fun bs aa w S => ?_
  refine sy_ldf S (curAt_stop (S.fact (f := rfCurE g B0 B1 B2 ([], none)) (by simp)).1) (by kernel_rfl) fun aa S => ?_
  refine sy_run ⟨0, []⟩ 80 S fun bs aa w S => ?_
  refine dr_enter [0, 1] (by kernel_rfl) (by kernel_rfl) S (by kernel_rfl) fun aa w D => ?_
  refine dr_any [5, 11] (by kernel_rfl) (by kernel_rfl) rfl ⟨?_, ?_, trivial⟩
  · refine nx_ix 5 (b := b) (off := o) (len := sl) (n := j) (size := 3) (ix := (j : Int)) D (by kernel_rfl) (by rw [← hsa.resolve_left (by omega)]; kernel_rfl) rfl hj fun aa D => ?_
    refine dr_any [7, 11] (by kernel_rfl) (by kernel_rfl) rfl ⟨?_, ?_, trivial⟩
    · refine nx_ldo 7 D (by kernel_rfl) (ld_int ((D.S.fact (f := rfSeen b o Q) (by simp)) j (by omega)).1) (by kernel_rfl) fun aa D => ?_
      refine dr_ix 11 (b := b) (off := o) (len := sl) (n := j) (size := 3) (ix := (j : Int)) D (by kernel_rfl) (by kernel_rfl) (by kernel_rfl) (by rw [← hsa.resolve_left (by omega)]; kernel_rfl) rfl hj fun aa D => ?_
      refine dr_ldo 13 D (by kernel_rfl) (by kernel_rfl) (by kernel_rfl) (ld_int ((D.S.fact (f := rfSeen b o Q) (by simp)) j (by omega)).2.1) (by kernel_rfl) fun aa D => ?_
      have hC := rlk_any w g L hok (Q.getD j (0, 0, 0)).1 (Q.getD j (0, 0, 0)).2.1 ([], none) ([], some ⟨1, atWord L (Q.getD j (0, 0, 0)).1, 0, 0⟩) ((0 : Int)) false rfl (by unfold I64; omega) (D.S.fact (f := rfCurE g B0 B1 B2 ([], none)) (by simp)).1
      rw [(hr : decide ((0 : Int) = wrap64 (2 * (Q.getD j (0, 0, 0)).2.1)) = true)] at hC
      have hap := (D.S.fs (rfCurE g B0 B1 B2 ([], none)) (by simp)).2
      refine dr_callG 14 D (Or.inr hg) (by kernel_rfl) (by kernel_rfl) (by kernel_rfl) (v := .tuple #[.int .i64 (lookX ((0 : Int)) (Q.getD j (0, 0, 0)).2.1), .bool true]) (C := fun w' => CurAt w' g ([], some ⟨1, atWord L (Q.getD j (0, 0, 0)).1, 0, 0⟩)) (hC) (by kernel_rfl) (F' := [rfBox B3 56 [.int .i64 0, .int .i64 0, .int .i64 0, .int .i64 0, .bool false, .bool false, .int .i64 0], rfSeen b o Q]) (by
        intro f hf
        simp only [List.mem_cons, List.not_mem_nil, or_false] at hf
        rcases hf with rfl | rfl
        · exact ⟨by simp, fun h => h3 h.symm⟩
        · exact ⟨by simp, hsg⟩) (fun i hi he => hap i hi (Or.inl he)) fun aa w hR D => ?_
      have D := D.addF (rfCurE g B0 B1 B2 ([], some ⟨1, atWord L (Q.getD j (0, 0, 0)).1, 0, 0⟩)) (curE_of (P := Try.prog) (k0 := ⟨42, [.int .i64 L.c.t, .int .i64 L.c.l, .int .i64 L.c.k, .int .i64 L.c.s, .int .i64 L.c.m, .int .i64 L.clock, .int .i64 L.stamps, .int .i64 L.log, .int .i64 L.fin, .int .i64 L.thread, .int .i64 L.lock, .int .i64 L.loc, .int .i64 L.size]⟩) (k1 := ⟨48, [.int .i64 k, .int .i64 a, .int .i64 bb, .int .i64 ty, .int .i64 ms, .int .i64 mk, .int .i64 ma, .slice sa sl sc, .slice wa wl wc, .slice da dl dc]⟩) (k2 := ⟨53, [.int .i64 0, .int .i64 0, .int .i64 0, .int .i64 0, .string ⟨#[]⟩]⟩) D.S hR rfl rfl rfl (by kernel_rfl) (by kernel_rfl) (by kernel_rfl) (by simp) (by simp) (by simp)) hap
      refine dr_end D (by kernel_rfl) fun S => ?_
      refine sy_run ⟨0, [21]⟩ 80 S fun bs aa w S => ?_
      refine sy_reg S fun S => ?_
      refine sy_ops 2 S fun bs aa w S => ?_
      refine sy_cast 113 S (congrArg (Value.int .i64) (by rw [IntKind.wrap_i64]; omega : IntKind.i64.wrap ((j : Int) + 1) = ((j + 1 : Nat) : Int))) (by kernel_rfl) fun S => ?_
      refine sy_run ⟨0, [999]⟩ 80 S fun bs aa w S => ?_
      have S' : Sy w0 none [B0, B1, B2] (rnF L me k a bb ty ms mk ma wa da wl wc dl dc sa sl sc g B3 (j + 1) false) _ aa w := S.to [0, 1, 2] (rnF L me k a bb ty ms mk ma wa da wl wc dl dc sa sl sc g B3 (j + 1) false) (by kernel_rfl) (by kernel_rfl) (by kernel_rfl) (by kernel_rfl) (by kernel_rfl)
      refine sy_at (k := (.rnd (n) (bodyL rl3) :: rl3.k.tail)) (by kernel_rfl) ?_
      exact ih aa w S'
    · refine nx_ix 11 (b := b) (off := o) (len := sl) (n := j) (size := 3) (ix := (j : Int)) D (by kernel_rfl) (by rw [← hsa.resolve_left (by omega)]; kernel_rfl) rfl hj fun aa D => ?_
      refine dr_any [7, 13] (by kernel_rfl) (by kernel_rfl) rfl ⟨?_, ?_, trivial⟩
      · refine nx_ldo 7 D (by kernel_rfl) (ld_int ((D.S.fact (f := rfSeen b o Q) (by simp)) j (by omega)).1) (by kernel_rfl) fun aa D => ?_
        refine dr_ldo 13 D (by kernel_rfl) (by kernel_rfl) (by kernel_rfl) (ld_int ((D.S.fact (f := rfSeen b o Q) (by simp)) j (by omega)).2.1) (by kernel_rfl) fun aa D => ?_
        have hC := rlk_any w g L hok (Q.getD j (0, 0, 0)).1 (Q.getD j (0, 0, 0)).2.1 ([], none) ([], some ⟨1, atWord L (Q.getD j (0, 0, 0)).1, 0, 0⟩) ((0 : Int)) false rfl (by unfold I64; omega) (D.S.fact (f := rfCurE g B0 B1 B2 ([], none)) (by simp)).1
        rw [(hr : decide ((0 : Int) = wrap64 (2 * (Q.getD j (0, 0, 0)).2.1)) = true)] at hC
        have hap := (D.S.fs (rfCurE g B0 B1 B2 ([], none)) (by simp)).2
        refine dr_callG 14 D (Or.inr hg) (by kernel_rfl) (by kernel_rfl) (by kernel_rfl) (v := .tuple #[.int .i64 (lookX ((0 : Int)) (Q.getD j (0, 0, 0)).2.1), .bool true]) (C := fun w' => CurAt w' g ([], some ⟨1, atWord L (Q.getD j (0, 0, 0)).1, 0, 0⟩)) (hC) (by kernel_rfl) (F' := [rfBox B3 56 [.int .i64 0, .int .i64 0, .int .i64 0, .int .i64 0, .bool false, .bool false, .int .i64 0], rfSeen b o Q]) (by
          intro f hf
          simp only [List.mem_cons, List.not_mem_nil, or_false] at hf
          rcases hf with rfl | rfl
          · exact ⟨by simp, fun h => h3 h.symm⟩
          · exact ⟨by simp, hsg⟩) (fun i hi he => hap i hi (Or.inl he)) fun aa w hR D => ?_
        have D := D.addF (rfCurE g B0 B1 B2 ([], some ⟨1, atWord L (Q.getD j (0, 0, 0)).1, 0, 0⟩)) (curE_of (P := Try.prog) (k0 := ⟨42, [.int .i64 L.c.t, .int .i64 L.c.l, .int .i64 L.c.k, .int .i64 L.c.s, .int .i64 L.c.m, .int .i64 L.clock, .int .i64 L.stamps, .int .i64 L.log, .int .i64 L.fin, .int .i64 L.thread, .int .i64 L.lock, .int .i64 L.loc, .int .i64 L.size]⟩) (k1 := ⟨48, [.int .i64 k, .int .i64 a, .int .i64 bb, .int .i64 ty, .int .i64 ms, .int .i64 mk, .int .i64 ma, .slice sa sl sc, .slice wa wl wc, .slice da dl dc]⟩) (k2 := ⟨53, [.int .i64 0, .int .i64 0, .int .i64 0, .int .i64 0, .string ⟨#[]⟩]⟩) D.S hR rfl rfl rfl (by kernel_rfl) (by kernel_rfl) (by kernel_rfl) (by simp) (by simp) (by simp)) hap
        refine dr_end D (by kernel_rfl) fun S => ?_
        refine sy_run ⟨0, [21]⟩ 80 S fun bs aa w S => ?_
        refine sy_reg S fun S => ?_
        refine sy_ops 2 S fun bs aa w S => ?_
        refine sy_cast 113 S (congrArg (Value.int .i64) (by rw [IntKind.wrap_i64]; omega : IntKind.i64.wrap ((j : Int) + 1) = ((j + 1 : Nat) : Int))) (by kernel_rfl) fun S => ?_
        refine sy_run ⟨0, [999]⟩ 80 S fun bs aa w S => ?_
        have S' : Sy w0 none [B0, B1, B2] (rnF L me k a bb ty ms mk ma wa da wl wc dl dc sa sl sc g B3 (j + 1) false) _ aa w := S.to [0, 1, 2] (rnF L me k a bb ty ms mk ma wa da wl wc dl dc sa sl sc g B3 (j + 1) false) (by kernel_rfl) (by kernel_rfl) (by kernel_rfl) (by kernel_rfl) (by kernel_rfl)
        refine sy_at (k := (.rnd (n) (bodyL rl3) :: rl3.k.tail)) (by kernel_rfl) ?_
        exact ih aa w S'
      · refine nx_ldo 13 D (by kernel_rfl) (ld_int ((D.S.fact (f := rfSeen b o Q) (by simp)) j (by omega)).2.1) (by kernel_rfl) fun aa D => ?_
        refine dr_ldo 7 D (by kernel_rfl) (by kernel_rfl) (by kernel_rfl) (ld_int ((D.S.fact (f := rfSeen b o Q) (by simp)) j (by omega)).1) (by kernel_rfl) fun aa D => ?_
        have hC := rlk_any w g L hok (Q.getD j (0, 0, 0)).1 (Q.getD j (0, 0, 0)).2.1 ([], none) ([], some ⟨1, atWord L (Q.getD j (0, 0, 0)).1, 0, 0⟩) ((0 : Int)) false rfl (by unfold I64; omega) (D.S.fact (f := rfCurE g B0 B1 B2 ([], none)) (by simp)).1
        rw [(hr : decide ((0 : Int) = wrap64 (2 * (Q.getD j (0, 0, 0)).2.1)) = true)] at hC
        have hap := (D.S.fs (rfCurE g B0 B1 B2 ([], none)) (by simp)).2
        refine dr_callG 14 D (Or.inr hg) (by kernel_rfl) (by kernel_rfl) (by kernel_rfl) (v := .tuple #[.int .i64 (lookX ((0 : Int)) (Q.getD j (0, 0, 0)).2.1), .bool true]) (C := fun w' => CurAt w' g ([], some ⟨1, atWord L (Q.getD j (0, 0, 0)).1, 0, 0⟩)) (hC) (by kernel_rfl) (F' := [rfBox B3 56 [.int .i64 0, .int .i64 0, .int .i64 0, .int .i64 0, .bool false, .bool false, .int .i64 0], rfSeen b o Q]) (by
          intro f hf
          simp only [List.mem_cons, List.not_mem_nil, or_false] at hf
          rcases hf with rfl | rfl
          · exact ⟨by simp, fun h => h3 h.symm⟩
          · exact ⟨by simp, hsg⟩) (fun i hi he => hap i hi (Or.inl he)) fun aa w hR D => ?_
        have D := D.addF (rfCurE g B0 B1 B2 ([], some ⟨1, atWord L (Q.getD j (0, 0, 0)).1, 0, 0⟩)) (curE_of (P := Try.prog) (k0 := ⟨42, [.int .i64 L.c.t, .int .i64 L.c.l, .int .i64 L.c.k, .int .i64 L.c.s, .int .i64 L.c.m, .int .i64 L.clock, .int .i64 L.stamps, .int .i64 L.log, .int .i64 L.fin, .int .i64 L.thread, .int .i64 L.lock, .int .i64 L.loc, .int .i64 L.size]⟩) (k1 := ⟨48, [.int .i64 k, .int .i64 a, .int .i64 bb, .int .i64 ty, .int .i64 ms, .int .i64 mk, .int .i64 ma, .slice sa sl sc, .slice wa wl wc, .slice da dl dc]⟩) (k2 := ⟨53, [.int .i64 0, .int .i64 0, .int .i64 0, .int .i64 0, .string ⟨#[]⟩]⟩) D.S hR rfl rfl rfl (by kernel_rfl) (by kernel_rfl) (by kernel_rfl) (by simp) (by simp) (by simp)) hap
        refine dr_end D (by kernel_rfl) fun S => ?_
        refine sy_run ⟨0, [21]⟩ 80 S fun bs aa w S => ?_
        refine sy_reg S fun S => ?_
        refine sy_ops 2 S fun bs aa w S => ?_
        refine sy_cast 113 S (congrArg (Value.int .i64) (by rw [IntKind.wrap_i64]; omega : IntKind.i64.wrap ((j : Int) + 1) = ((j + 1 : Nat) : Int))) (by kernel_rfl) fun S => ?_
        refine sy_run ⟨0, [999]⟩ 80 S fun bs aa w S => ?_
        have S' : Sy w0 none [B0, B1, B2] (rnF L me k a bb ty ms mk ma wa da wl wc dl dc sa sl sc g B3 (j + 1) false) _ aa w := S.to [0, 1, 2] (rnF L me k a bb ty ms mk ma wa da wl wc dl dc sa sl sc g B3 (j + 1) false) (by kernel_rfl) (by kernel_rfl) (by kernel_rfl) (by kernel_rfl) (by kernel_rfl)
        refine sy_at (k := (.rnd (n) (bodyL rl3) :: rl3.k.tail)) (by kernel_rfl) ?_
        exact ih aa w S'
  · refine nx_ix 11 (b := b) (off := o) (len := sl) (n := j) (size := 3) (ix := (j : Int)) D (by kernel_rfl) (by rw [← hsa.resolve_left (by omega)]; kernel_rfl) rfl hj fun aa D => ?_
    refine dr_any [5, 13] (by kernel_rfl) (by kernel_rfl) rfl ⟨?_, ?_, trivial⟩
    · refine nx_ix 5 (b := b) (off := o) (len := sl) (n := j) (size := 3) (ix := (j : Int)) D (by kernel_rfl) (by rw [← hsa.resolve_left (by omega)]; kernel_rfl) rfl hj fun aa D => ?_
      refine dr_any [7, 13] (by kernel_rfl) (by kernel_rfl) rfl ⟨?_, ?_, trivial⟩
      · refine nx_ldo 7 D (by kernel_rfl) (ld_int ((D.S.fact (f := rfSeen b o Q) (by simp)) j (by omega)).1) (by kernel_rfl) fun aa D => ?_
        refine dr_ldo 13 D (by kernel_rfl) (by kernel_rfl) (by kernel_rfl) (ld_int ((D.S.fact (f := rfSeen b o Q) (by simp)) j (by omega)).2.1) (by kernel_rfl) fun aa D => ?_
        have hC := rlk_any w g L hok (Q.getD j (0, 0, 0)).1 (Q.getD j (0, 0, 0)).2.1 ([], none) ([], some ⟨1, atWord L (Q.getD j (0, 0, 0)).1, 0, 0⟩) ((0 : Int)) false rfl (by unfold I64; omega) (D.S.fact (f := rfCurE g B0 B1 B2 ([], none)) (by simp)).1
        rw [(hr : decide ((0 : Int) = wrap64 (2 * (Q.getD j (0, 0, 0)).2.1)) = true)] at hC
        have hap := (D.S.fs (rfCurE g B0 B1 B2 ([], none)) (by simp)).2
        refine dr_callG 14 D (Or.inr hg) (by kernel_rfl) (by kernel_rfl) (by kernel_rfl) (v := .tuple #[.int .i64 (lookX ((0 : Int)) (Q.getD j (0, 0, 0)).2.1), .bool true]) (C := fun w' => CurAt w' g ([], some ⟨1, atWord L (Q.getD j (0, 0, 0)).1, 0, 0⟩)) (hC) (by kernel_rfl) (F' := [rfBox B3 56 [.int .i64 0, .int .i64 0, .int .i64 0, .int .i64 0, .bool false, .bool false, .int .i64 0], rfSeen b o Q]) (by
          intro f hf
          simp only [List.mem_cons, List.not_mem_nil, or_false] at hf
          rcases hf with rfl | rfl
          · exact ⟨by simp, fun h => h3 h.symm⟩
          · exact ⟨by simp, hsg⟩) (fun i hi he => hap i hi (Or.inl he)) fun aa w hR D => ?_
        have D := D.addF (rfCurE g B0 B1 B2 ([], some ⟨1, atWord L (Q.getD j (0, 0, 0)).1, 0, 0⟩)) (curE_of (P := Try.prog) (k0 := ⟨42, [.int .i64 L.c.t, .int .i64 L.c.l, .int .i64 L.c.k, .int .i64 L.c.s, .int .i64 L.c.m, .int .i64 L.clock, .int .i64 L.stamps, .int .i64 L.log, .int .i64 L.fin, .int .i64 L.thread, .int .i64 L.lock, .int .i64 L.loc, .int .i64 L.size]⟩) (k1 := ⟨48, [.int .i64 k, .int .i64 a, .int .i64 bb, .int .i64 ty, .int .i64 ms, .int .i64 mk, .int .i64 ma, .slice sa sl sc, .slice wa wl wc, .slice da dl dc]⟩) (k2 := ⟨53, [.int .i64 0, .int .i64 0, .int .i64 0, .int .i64 0, .string ⟨#[]⟩]⟩) D.S hR rfl rfl rfl (by kernel_rfl) (by kernel_rfl) (by kernel_rfl) (by simp) (by simp) (by simp)) hap
        refine dr_end D (by kernel_rfl) fun S => ?_
        refine sy_run ⟨0, [21]⟩ 80 S fun bs aa w S => ?_
        refine sy_reg S fun S => ?_
        refine sy_ops 2 S fun bs aa w S => ?_
        refine sy_cast 113 S (congrArg (Value.int .i64) (by rw [IntKind.wrap_i64]; omega : IntKind.i64.wrap ((j : Int) + 1) = ((j + 1 : Nat) : Int))) (by kernel_rfl) fun S => ?_
        refine sy_run ⟨0, [999]⟩ 80 S fun bs aa w S => ?_
        have S' : Sy w0 none [B0, B1, B2] (rnF L me k a bb ty ms mk ma wa da wl wc dl dc sa sl sc g B3 (j + 1) false) _ aa w := S.to [0, 1, 2] (rnF L me k a bb ty ms mk ma wa da wl wc dl dc sa sl sc g B3 (j + 1) false) (by kernel_rfl) (by kernel_rfl) (by kernel_rfl) (by kernel_rfl) (by kernel_rfl)
        refine sy_at (k := (.rnd (n) (bodyL rl3) :: rl3.k.tail)) (by kernel_rfl) ?_
        exact ih aa w S'
      · refine nx_ldo 13 D (by kernel_rfl) (ld_int ((D.S.fact (f := rfSeen b o Q) (by simp)) j (by omega)).2.1) (by kernel_rfl) fun aa D => ?_
        refine dr_ldo 7 D (by kernel_rfl) (by kernel_rfl) (by kernel_rfl) (ld_int ((D.S.fact (f := rfSeen b o Q) (by simp)) j (by omega)).1) (by kernel_rfl) fun aa D => ?_
        have hC := rlk_any w g L hok (Q.getD j (0, 0, 0)).1 (Q.getD j (0, 0, 0)).2.1 ([], none) ([], some ⟨1, atWord L (Q.getD j (0, 0, 0)).1, 0, 0⟩) ((0 : Int)) false rfl (by unfold I64; omega) (D.S.fact (f := rfCurE g B0 B1 B2 ([], none)) (by simp)).1
        rw [(hr : decide ((0 : Int) = wrap64 (2 * (Q.getD j (0, 0, 0)).2.1)) = true)] at hC
        have hap := (D.S.fs (rfCurE g B0 B1 B2 ([], none)) (by simp)).2
        refine dr_callG 14 D (Or.inr hg) (by kernel_rfl) (by kernel_rfl) (by kernel_rfl) (v := .tuple #[.int .i64 (lookX ((0 : Int)) (Q.getD j (0, 0, 0)).2.1), .bool true]) (C := fun w' => CurAt w' g ([], some ⟨1, atWord L (Q.getD j (0, 0, 0)).1, 0, 0⟩)) (hC) (by kernel_rfl) (F' := [rfBox B3 56 [.int .i64 0, .int .i64 0, .int .i64 0, .int .i64 0, .bool false, .bool false, .int .i64 0], rfSeen b o Q]) (by
          intro f hf
          simp only [List.mem_cons, List.not_mem_nil, or_false] at hf
          rcases hf with rfl | rfl
          · exact ⟨by simp, fun h => h3 h.symm⟩
          · exact ⟨by simp, hsg⟩) (fun i hi he => hap i hi (Or.inl he)) fun aa w hR D => ?_
        have D := D.addF (rfCurE g B0 B1 B2 ([], some ⟨1, atWord L (Q.getD j (0, 0, 0)).1, 0, 0⟩)) (curE_of (P := Try.prog) (k0 := ⟨42, [.int .i64 L.c.t, .int .i64 L.c.l, .int .i64 L.c.k, .int .i64 L.c.s, .int .i64 L.c.m, .int .i64 L.clock, .int .i64 L.stamps, .int .i64 L.log, .int .i64 L.fin, .int .i64 L.thread, .int .i64 L.lock, .int .i64 L.loc, .int .i64 L.size]⟩) (k1 := ⟨48, [.int .i64 k, .int .i64 a, .int .i64 bb, .int .i64 ty, .int .i64 ms, .int .i64 mk, .int .i64 ma, .slice sa sl sc, .slice wa wl wc, .slice da dl dc]⟩) (k2 := ⟨53, [.int .i64 0, .int .i64 0, .int .i64 0, .int .i64 0, .string ⟨#[]⟩]⟩) D.S hR rfl rfl rfl (by kernel_rfl) (by kernel_rfl) (by kernel_rfl) (by simp) (by simp) (by simp)) hap
        refine dr_end D (by kernel_rfl) fun S => ?_
        refine sy_run ⟨0, [21]⟩ 80 S fun bs aa w S => ?_
        refine sy_reg S fun S => ?_
        refine sy_ops 2 S fun bs aa w S => ?_
        refine sy_cast 113 S (congrArg (Value.int .i64) (by rw [IntKind.wrap_i64]; omega : IntKind.i64.wrap ((j : Int) + 1) = ((j + 1 : Nat) : Int))) (by kernel_rfl) fun S => ?_
        refine sy_run ⟨0, [999]⟩ 80 S fun bs aa w S => ?_
        have S' : Sy w0 none [B0, B1, B2] (rnF L me k a bb ty ms mk ma wa da wl wc dl dc sa sl sc g B3 (j + 1) false) _ aa w := S.to [0, 1, 2] (rnF L me k a bb ty ms mk ma wa da wl wc dl dc sa sl sc g B3 (j + 1) false) (by kernel_rfl) (by kernel_rfl) (by kernel_rfl) (by kernel_rfl) (by kernel_rfl)
        refine sy_at (k := (.rnd (n) (bodyL rl3) :: rl3.k.tail)) (by kernel_rfl) ?_
        exact ih aa w S'
    · refine nx_ldo 13 D (by kernel_rfl) (ld_int ((D.S.fact (f := rfSeen b o Q) (by simp)) j (by omega)).2.1) (by kernel_rfl) fun aa D => ?_
      refine dr_ix 5 (b := b) (off := o) (len := sl) (n := j) (size := 3) (ix := (j : Int)) D (by kernel_rfl) (by kernel_rfl) (by kernel_rfl) (by rw [← hsa.resolve_left (by omega)]; kernel_rfl) rfl hj fun aa D => ?_
      refine dr_ldo 7 D (by kernel_rfl) (by kernel_rfl) (by kernel_rfl) (ld_int ((D.S.fact (f := rfSeen b o Q) (by simp)) j (by omega)).1) (by kernel_rfl) fun aa D => ?_
      have hC := rlk_any w g L hok (Q.getD j (0, 0, 0)).1 (Q.getD j (0, 0, 0)).2.1 ([], none) ([], some ⟨1, atWord L (Q.getD j (0, 0, 0)).1, 0, 0⟩) ((0 : Int)) false rfl (by unfold I64; omega) (D.S.fact (f := rfCurE g B0 B1 B2 ([], none)) (by simp)).1
      rw [(hr : decide ((0 : Int) = wrap64 (2 * (Q.getD j (0, 0, 0)).2.1)) = true)] at hC
      have hap := (D.S.fs (rfCurE g B0 B1 B2 ([], none)) (by simp)).2
      refine dr_callG 14 D (Or.inr hg) (by kernel_rfl) (by kernel_rfl) (by kernel_rfl) (v := .tuple #[.int .i64 (lookX ((0 : Int)) (Q.getD j (0, 0, 0)).2.1), .bool true]) (C := fun w' => CurAt w' g ([], some ⟨1, atWord L (Q.getD j (0, 0, 0)).1, 0, 0⟩)) (hC) (by kernel_rfl) (F' := [rfBox B3 56 [.int .i64 0, .int .i64 0, .int .i64 0, .int .i64 0, .bool false, .bool false, .int .i64 0], rfSeen b o Q]) (by
        intro f hf
        simp only [List.mem_cons, List.not_mem_nil, or_false] at hf
        rcases hf with rfl | rfl
        · exact ⟨by simp, fun h => h3 h.symm⟩
        · exact ⟨by simp, hsg⟩) (fun i hi he => hap i hi (Or.inl he)) fun aa w hR D => ?_
      have D := D.addF (rfCurE g B0 B1 B2 ([], some ⟨1, atWord L (Q.getD j (0, 0, 0)).1, 0, 0⟩)) (curE_of (P := Try.prog) (k0 := ⟨42, [.int .i64 L.c.t, .int .i64 L.c.l, .int .i64 L.c.k, .int .i64 L.c.s, .int .i64 L.c.m, .int .i64 L.clock, .int .i64 L.stamps, .int .i64 L.log, .int .i64 L.fin, .int .i64 L.thread, .int .i64 L.lock, .int .i64 L.loc, .int .i64 L.size]⟩) (k1 := ⟨48, [.int .i64 k, .int .i64 a, .int .i64 bb, .int .i64 ty, .int .i64 ms, .int .i64 mk, .int .i64 ma, .slice sa sl sc, .slice wa wl wc, .slice da dl dc]⟩) (k2 := ⟨53, [.int .i64 0, .int .i64 0, .int .i64 0, .int .i64 0, .string ⟨#[]⟩]⟩) D.S hR rfl rfl rfl (by kernel_rfl) (by kernel_rfl) (by kernel_rfl) (by simp) (by simp) (by simp)) hap
      refine dr_end D (by kernel_rfl) fun S => ?_
      refine sy_run ⟨0, [21]⟩ 80 S fun bs aa w S => ?_
      refine sy_reg S fun S => ?_
      refine sy_ops 2 S fun bs aa w S => ?_
      refine sy_cast 113 S (congrArg (Value.int .i64) (by rw [IntKind.wrap_i64]; omega : IntKind.i64.wrap ((j : Int) + 1) = ((j + 1 : Nat) : Int))) (by kernel_rfl) fun S => ?_
      refine sy_run ⟨0, [999]⟩ 80 S fun bs aa w S => ?_
      have S' : Sy w0 none [B0, B1, B2] (rnF L me k a bb ty ms mk ma wa da wl wc dl dc sa sl sc g B3 (j + 1) false) _ aa w := S.to [0, 1, 2] (rnF L me k a bb ty ms mk ma wa da wl wc dl dc sa sl sc g B3 (j + 1) false) (by kernel_rfl) (by kernel_rfl) (by kernel_rfl) (by kernel_rfl) (by kernel_rfl)
      refine sy_at (k := (.rnd (n) (bodyL rl3) :: rl3.k.tail)) (by kernel_rfl) ?_
      exact ih aa w S'
set_option maxHeartbeats 8000000 in
theorem r3_nil1 (w0 : World) (g B0 B1 B2 B3 : Nat) (hg : w0.heap.size ≤ g) (h3 : B3 ≠ g) (L : Ly) (hok : L.ok) (me : Int) (ht : 0 ≤ me ∧ me ≤ 61) (k a bb ty ms mk ma : Int) (wa da : Option Addr) (wl wc dl dc : Nat) (sa : Option Addr) (sl sc : Nat) (b o : Nat) (Q : List (Int × Int × Int)) (hQ : Q.length = sl) (hsa : sl = 0 ∨ sa = some ⟨b, o, none⟩) (hsl : sl ≤ 1000000) (hsg : ¬ (rfSeen b o Q).bl g) {R : Ending → World → Prop} (n j : Nat) (hj : j < sl) (hr : decide ((0 : Int) = wrap64 (2 * (Q.getD j (0, 0, 0)).2.1)) = false) (ih : ∀ (aa : Act) (w : World) (S : Sy w0 none [B0, B1, B2] (rnF L me k a bb ty ms mk ma wa da wl wc dl dc sa sl sc g B3 (j + 1) true) [rfCurE g B0 B1 B2 ([], some ⟨1, atWord L (Q.getD j (0, 0, 0)).1, 0, 0⟩), rfBox B3 56 [.int .i64 0, .int .i64 0, .int .i64 0, .int .i64 0, .bool false, .bool false, .int .i64 0], rfSeen b o Q] aa w), post Try.prog (.rnd (n) (bodyL rl3) :: rl3.k.tail) (bodyPost Try.prog Try.f12 R) .normal aa w) (aa : Act) (w : World) (S : Sy w0 none [B0, B1, B2] (rnF L me k a bb ty ms mk ma wa da wl wc dl dc sa sl sc g B3 j false) [rfCurE g B0 B1 B2 ([], none), rfBox B3 56 [.int .i64 0, .int .i64 0, .int .i64 0, .int .i64 0, .bool false, .bool false, .int .i64 0], rfSeen b o Q] aa w) : post Try.prog (.rnd (n + 1) (bodyL rl3) :: rl3.k.tail) (bodyPost Try.prog Try.f12 R) .normal aa w := by
  refine sy_run (c := ⟨(.rnd (n + 1) (bodyL rl3) :: rl3.k.tail), rnF L me k a bb ty ms mk ma wa da wl wc dl dc sa sl sc g B3 j false⟩) ⟨0, [20]⟩ 50 S fun bs aa w S => ?_
  refine sy_reg S fun S => ?_
  refine sy_ops 5 S fun bs aa w S => ?_
  refine sy_cast 100 S (congrArg Value.bool (by simp; omega : decide ((j : Int) < (sl : Int)) = true)) (by kernel_rfl) fun S => ?_
  refine sy_ops 4 S fun bs aa w S => ?_
  refine sy_ldf S (curAt_stop (S.fact (f := rfCurE g B0 B1 B2 ([], none)) (by simp)).1) (by kernel_rfl) fun aa S => ?_
  refine sy_run ⟨0, []⟩ 80 S fun bs aa w S => ?_
  refine dr_enter [0, 1] (by kernel_rfl) (by kernel_rfl) S (by kernel_rfl) fun aa w D => ?_
  refine dr_any [5, 11] (by kernel_rfl) (by kernel_rfl) rfl ⟨?_, ?_, trivial⟩
  · refine nx_ix 5 (b := b) (off := o) (len := sl) (n := j) (size := 3) (ix := (j : Int)) D (by kernel_rfl) (by rw [← hsa.resolve_left (by omega)]; kernel_rfl) rfl hj fun aa D => ?_
    refine dr_any [7, 11] (by kernel_rfl) (by kernel_rfl) rfl ⟨?_, ?_, trivial⟩
    · refine nx_ldo 7 D (by kernel_rfl) (ld_int ((D.S.fact (f := rfSeen b o Q) (by simp)) j (by omega)).1) (by kernel_rfl) fun aa D => ?_
      refine dr_ix 11 (b := b) (off := o) (len := sl) (n := j) (size := 3) (ix := (j : Int)) D (by kernel_rfl) (by kernel_rfl) (by kernel_rfl) (by rw [← hsa.resolve_left (by omega)]; kernel_rfl) rfl hj fun aa D => ?_
      refine dr_ldo 13 D (by kernel_rfl) (by kernel_rfl) (by kernel_rfl) (ld_int ((D.S.fact (f := rfSeen b o Q) (by simp)) j (by omega)).2.1) (by kernel_rfl) fun aa D => ?_
      have hC := rlk_any w g L hok (Q.getD j (0, 0, 0)).1 (Q.getD j (0, 0, 0)).2.1 ([], none) ([], some ⟨1, atWord L (Q.getD j (0, 0, 0)).1, 0, 0⟩) ((0 : Int)) false rfl (by unfold I64; omega) (D.S.fact (f := rfCurE g B0 B1 B2 ([], none)) (by simp)).1
      rw [(hr : decide ((0 : Int) = wrap64 (2 * (Q.getD j (0, 0, 0)).2.1)) = false)] at hC
      have hap := (D.S.fs (rfCurE g B0 B1 B2 ([], none)) (by simp)).2
      refine dr_callG 14 D (Or.inr hg) (by kernel_rfl) (by kernel_rfl) (by kernel_rfl) (v := .tuple #[.int .i64 (lookX ((0 : Int)) (Q.getD j (0, 0, 0)).2.1), .bool false]) (C := fun w' => CurAt w' g ([], some ⟨1, atWord L (Q.getD j (0, 0, 0)).1, 0, 0⟩)) (hC) (by kernel_rfl) (F' := [rfBox B3 56 [.int .i64 0, .int .i64 0, .int .i64 0, .int .i64 0, .bool false, .bool false, .int .i64 0], rfSeen b o Q]) (by
        intro f hf
        simp only [List.mem_cons, List.not_mem_nil, or_false] at hf
        rcases hf with rfl | rfl
        · exact ⟨by simp, fun h => h3 h.symm⟩
        · exact ⟨by simp, hsg⟩) (fun i hi he => hap i hi (Or.inl he)) fun aa w hR D => ?_
      have D := D.addF (rfCurE g B0 B1 B2 ([], some ⟨1, atWord L (Q.getD j (0, 0, 0)).1, 0, 0⟩)) (curE_of (P := Try.prog) (k0 := ⟨42, [.int .i64 L.c.t, .int .i64 L.c.l, .int .i64 L.c.k, .int .i64 L.c.s, .int .i64 L.c.m, .int .i64 L.clock, .int .i64 L.stamps, .int .i64 L.log, .int .i64 L.fin, .int .i64 L.thread, .int .i64 L.lock, .int .i64 L.loc, .int .i64 L.size]⟩) (k1 := ⟨48, [.int .i64 k, .int .i64 a, .int .i64 bb, .int .i64 ty, .int .i64 ms, .int .i64 mk, .int .i64 ma, .slice sa sl sc, .slice wa wl wc, .slice da dl dc]⟩) (k2 := ⟨53, [.int .i64 0, .int .i64 0, .int .i64 0, .int .i64 0, .string ⟨#[]⟩]⟩) D.S hR rfl rfl rfl (by kernel_rfl) (by kernel_rfl) (by kernel_rfl) (by simp) (by simp) (by simp)) hap
      refine dr_end D (by kernel_rfl) fun S => ?_
      refine sy_run ⟨0, [21]⟩ 80 S fun bs aa w S => ?_
      refine sy_reg S fun S => ?_
      refine sy_ops 2 S fun bs aa w S => ?_
      refine sy_cast 113 S (congrArg (Value.int .i64) (by rw [IntKind.wrap_i64]; omega : IntKind.i64.wrap ((j : Int) + 1) = ((j + 1 : Nat) : Int))) (by kernel_rfl) fun S => ?_
      refine sy_run ⟨0, [999]⟩ 80 S fun bs aa w S => ?_
      have S' : Sy w0 none [B0, B1, B2] (rnF L me k a bb ty ms mk ma wa da wl wc dl dc sa sl sc g B3 (j + 1) true) _ aa w := S.to [0, 1, 2] (rnF L me k a bb ty ms mk ma wa da wl wc dl dc sa sl sc g B3 (j + 1) true) (by kernel_rfl) (by kernel_rfl) (by kernel_rfl) (by kernel_rfl) (by kernel_rfl)
      refine sy_at (k := (.rnd (n) (bodyL rl3) :: rl3.k.tail)) (by kernel_rfl) ?_
      exact ih aa w S'
    · refine nx_ix 11 (b := b) (off := o) (len := sl) (n := j) (size := 3) (ix := (j : Int)) D (by kernel_rfl) (by rw [← hsa.resolve_left (by omega)]; kernel_rfl) rfl hj fun aa D => ?_
      refine dr_any [7, 13] (by kernel_rfl) (by kernel_rfl) rfl ⟨?_, ?_, trivial⟩
      · refine nx_ldo 7 D (by kernel_rfl) (ld_int ((D.S.fact (f := rfSeen b o Q) (by simp)) j (by omega)).1) (by kernel_rfl) fun aa D => ?_
        refine dr_ldo 13 D (by kernel_rfl) (by kernel_rfl) (by kernel_rfl) (ld_int ((D.S.fact (f := rfSeen b o Q) (by simp)) j (by omega)).2.1) (by kernel_rfl) fun aa D => ?_
        have hC := rlk_any w g L hok (Q.getD j (0, 0, 0)).1 (Q.getD j (0, 0, 0)).2.1 ([], none) ([], some ⟨1, atWord L (Q.getD j (0, 0, 0)).1, 0, 0⟩) ((0 : Int)) false rfl (by unfold I64; omega) (D.S.fact (f := rfCurE g B0 B1 B2 ([], none)) (by simp)).1
        rw [(hr : decide ((0 : Int) = wrap64 (2 * (Q.getD j (0, 0, 0)).2.1)) = false)] at hC
        have hap := (D.S.fs (rfCurE g B0 B1 B2 ([], none)) (by simp)).2
        refine dr_callG 14 D (Or.inr hg) (by kernel_rfl) (by kernel_rfl) (by kernel_rfl) (v := .tuple #[.int .i64 (lookX ((0 : Int)) (Q.getD j (0, 0, 0)).2.1), .bool false]) (C := fun w' => CurAt w' g ([], some ⟨1, atWord L (Q.getD j (0, 0, 0)).1, 0, 0⟩)) (hC) (by kernel_rfl) (F' := [rfBox B3 56 [.int .i64 0, .int .i64 0, .int .i64 0, .int .i64 0, .bool false, .bool false, .int .i64 0], rfSeen b o Q]) (by
          intro f hf
          simp only [List.mem_cons, List.not_mem_nil, or_false] at hf
          rcases hf with rfl | rfl
          · exact ⟨by simp, fun h => h3 h.symm⟩
          · exact ⟨by simp, hsg⟩) (fun i hi he => hap i hi (Or.inl he)) fun aa w hR D => ?_
        have D := D.addF (rfCurE g B0 B1 B2 ([], some ⟨1, atWord L (Q.getD j (0, 0, 0)).1, 0, 0⟩)) (curE_of (P := Try.prog) (k0 := ⟨42, [.int .i64 L.c.t, .int .i64 L.c.l, .int .i64 L.c.k, .int .i64 L.c.s, .int .i64 L.c.m, .int .i64 L.clock, .int .i64 L.stamps, .int .i64 L.log, .int .i64 L.fin, .int .i64 L.thread, .int .i64 L.lock, .int .i64 L.loc, .int .i64 L.size]⟩) (k1 := ⟨48, [.int .i64 k, .int .i64 a, .int .i64 bb, .int .i64 ty, .int .i64 ms, .int .i64 mk, .int .i64 ma, .slice sa sl sc, .slice wa wl wc, .slice da dl dc]⟩) (k2 := ⟨53, [.int .i64 0, .int .i64 0, .int .i64 0, .int .i64 0, .string ⟨#[]⟩]⟩) D.S hR rfl rfl rfl (by kernel_rfl) (by kernel_rfl) (by kernel_rfl) (by simp) (by simp) (by simp)) hap
        refine dr_end D (by kernel_rfl) fun S => ?_
        refine sy_run ⟨0, [21]⟩ 80 S fun bs aa w S => ?_
        refine sy_reg S fun S => ?_
        refine sy_ops 2 S fun bs aa w S => ?_
        refine sy_cast 113 S (congrArg (Value.int .i64) (by rw [IntKind.wrap_i64]; omega : IntKind.i64.wrap ((j : Int) + 1) = ((j + 1 : Nat) : Int))) (by kernel_rfl) fun S => ?_
        refine sy_run ⟨0, [999]⟩ 80 S fun bs aa w S => ?_
        have S' : Sy w0 none [B0, B1, B2] (rnF L me k a bb ty ms mk ma wa da wl wc dl dc sa sl sc g B3 (j + 1) true) _ aa w := S.to [0, 1, 2] (rnF L me k a bb ty ms mk ma wa da wl wc dl dc sa sl sc g B3 (j + 1) true) (by kernel_rfl) (by kernel_rfl) (by kernel_rfl) (by kernel_rfl) (by kernel_rfl)
        refine sy_at (k := (.rnd (n) (bodyL rl3) :: rl3.k.tail)) (by kernel_rfl) ?_
        exact ih aa w S'
      · refine nx_ldo 13 D (by kernel_rfl) (ld_int ((D.S.fact (f := rfSeen b o Q) (by simp)) j (by omega)).2.1) (by kernel_rfl) fun aa D => ?_
        refine dr_ldo 7 D (by kernel_rfl) (by kernel_rfl) (by kernel_rfl) (ld_int ((D.S.fact (f := rfSeen b o Q) (by simp)) j (by omega)).1) (by kernel_rfl) fun aa D => ?_
        have hC := rlk_any w g L hok (Q.getD j (0, 0, 0)).1 (Q.getD j (0, 0, 0)).2.1 ([], none) ([], some ⟨1, atWord L (Q.getD j (0, 0, 0)).1, 0, 0⟩) ((0 : Int)) false rfl (by unfold I64; omega) (D.S.fact (f := rfCurE g B0 B1 B2 ([], none)) (by simp)).1
        rw [(hr : decide ((0 : Int) = wrap64 (2 * (Q.getD j (0, 0, 0)).2.1)) = false)] at hC
        have hap := (D.S.fs (rfCurE g B0 B1 B2 ([], none)) (by simp)).2
        refine dr_callG 14 D (Or.inr hg) (by kernel_rfl) (by kernel_rfl) (by kernel_rfl) (v := .tuple #[.int .i64 (lookX ((0 : Int)) (Q.getD j (0, 0, 0)).2.1), .bool false]) (C := fun w' => CurAt w' g ([], some ⟨1, atWord L (Q.getD j (0, 0, 0)).1, 0, 0⟩)) (hC) (by kernel_rfl) (F' := [rfBox B3 56 [.int .i64 0, .int .i64 0, .int .i64 0, .int .i64 0, .bool false, .bool false, .int .i64 0], rfSeen b o Q]) (by
          intro f hf
          simp only [List.mem_cons, List.not_mem_nil, or_false] at hf
          rcases hf with rfl | rfl
          · exact ⟨by simp, fun h => h3 h.symm⟩
          · exact ⟨by simp, hsg⟩) (fun i hi he => hap i hi (Or.inl he)) fun aa w hR D => ?_
        have D := D.addF (rfCurE g B0 B1 B2 ([], some ⟨1, atWord L (Q.getD j (0, 0, 0)).1, 0, 0⟩)) (curE_of (P := Try.prog) (k0 := ⟨42, [.int .i64 L.c.t, .int .i64 L.c.l, .int .i64 L.c.k, .int .i64 L.c.s, .int .i64 L.c.m, .int .i64 L.clock, .int .i64 L.stamps, .int .i64 L.log, .int .i64 L.fin, .int .i64 L.thread, .int .i64 L.lock, .int .i64 L.loc, .int .i64 L.size]⟩) (k1 := ⟨48, [.int .i64 k, .int .i64 a, .int .i64 bb, .int .i64 ty, .int .i64 ms, .int .i64 mk, .int .i64 ma, .slice sa sl sc, .slice wa wl wc, .slice da dl dc]⟩) (k2 := ⟨53, [.int .i64 0, .int .i64 0, .int .i64 0, .int .i64 0, .string ⟨#[]⟩]⟩) D.S hR rfl rfl rfl (by kernel_rfl) (by kernel_rfl) (by kernel_rfl) (by simp) (by simp) (by simp)) hap
        refine dr_end D (by kernel_rfl) fun S => ?_
        refine sy_run ⟨0, [21]⟩ 80 S fun bs aa w S => ?_
        refine sy_reg S fun S => ?_
        refine sy_ops 2 S fun bs aa w S => ?_
        refine sy_cast 113 S (congrArg (Value.int .i64) (by rw [IntKind.wrap_i64]; omega : IntKind.i64.wrap ((j : Int) + 1) = ((j + 1 : Nat) : Int))) (by kernel_rfl) fun S => ?_
        refine sy_run ⟨0, [999]⟩ 80 S fun bs aa w S => ?_
        have S' : Sy w0 none [B0, B1, B2] (rnF L me k a bb ty ms mk ma wa da wl wc dl dc sa sl sc g B3 (j + 1) true) _ aa w := S.to [0, 1, 2] (rnF L me k a bb ty ms mk ma wa da wl wc dl dc sa sl sc g B3 (j + 1) true) (by kernel_rfl) (by kernel_rfl) (by kernel_rfl) (by kernel_rfl) (by kernel_rfl)
        refine sy_at (k := (.rnd (n) (bodyL rl3) :: rl3.k.tail)) (by kernel_rfl) ?_
        exact ih aa w S'
  · refine nx_ix 11 (b := b) (off := o) (len := sl) (n := j) (size := 3) (ix := (j : Int)) D (by kernel_rfl) (by rw [← hsa.resolve_left (by omega)]; kernel_rfl) rfl hj fun aa D => ?_
    refine dr_any [5, 13] (by kernel_rfl) (by kernel_rfl) rfl ⟨?_, ?_, trivial⟩
    · refine nx_ix 5 (b := b) (off := o) (len := sl) (n := j) (size := 3) (ix := (j : Int)) D (by kernel_rfl) (by rw [← hsa.resolve_left (by omega)]; kernel_rfl) rfl hj fun aa D => ?_
      refine dr_any [7, 13] (by kernel_rfl) (by kernel_rfl) rfl ⟨?_, ?_, trivial⟩
      · refine nx_ldo 7 D (by kernel_rfl) (ld_int ((D.S.fact (f := rfSeen b o Q) (by simp)) j (by omega)).1) (by kernel_rfl) fun aa D => ?_
        refine dr_ldo 13 D (by kernel_rfl) (by kernel_rfl) (by kernel_rfl) (ld_int ((D.S.fact (f := rfSeen b o Q) (by simp)) j (by omega)).2.1) (by kernel_rfl) fun aa D => ?_
        have hC := rlk_any w g L hok (Q.getD j (0, 0, 0)).1 (Q.getD j (0, 0, 0)).2.1 ([], none) ([], some ⟨1, atWord L (Q.getD j (0, 0, 0)).1, 0, 0⟩) ((0 : Int)) false rfl (by unfold I64; omega) (D.S.fact (f := rfCurE g B0 B1 B2 ([], none)) (by simp)).1
        rw [(hr : decide ((0 : Int) = wrap64 (2 * (Q.getD j (0, 0, 0)).2.1)) = false)] at hC
        have hap := (D.S.fs (rfCurE g B0 B1 B2 ([], none)) (by simp)).2
        refine dr_callG 14 D (Or.inr hg) (by kernel_rfl) (by kernel_rfl) (by kernel_rfl) (v := .tuple #[.int .i64 (lookX ((0 : Int)) (Q.getD j (0, 0, 0)).2.1), .bool false]) (C := fun w' => CurAt w' g ([], some ⟨1, atWord L (Q.getD j (0, 0, 0)).1, 0, 0⟩)) (hC) (by kernel_rfl) (F' := [rfBox B3 56 [.int .i64 0, .int .i64 0, .int .i64 0, .int .i64 0, .bool false, .bool false, .int .i64 0], rfSeen b o Q]) (by
          intro f hf
          simp only [List.mem_cons, List.not_mem_nil, or_false] at hf
          rcases hf with rfl | rfl
          · exact ⟨by simp, fun h => h3 h.symm⟩
          · exact ⟨by simp, hsg⟩) (fun i hi he => hap i hi (Or.inl he)) fun aa w hR D => ?_
        have D := D.addF (rfCurE g B0 B1 B2 ([], some ⟨1, atWord L (Q.getD j (0, 0, 0)).1, 0, 0⟩)) (curE_of (P := Try.prog) (k0 := ⟨42, [.int .i64 L.c.t, .int .i64 L.c.l, .int .i64 L.c.k, .int .i64 L.c.s, .int .i64 L.c.m, .int .i64 L.clock, .int .i64 L.stamps, .int .i64 L.log, .int .i64 L.fin, .int .i64 L.thread, .int .i64 L.lock, .int .i64 L.loc, .int .i64 L.size]⟩) (k1 := ⟨48, [.int .i64 k, .int .i64 a, .int .i64 bb, .int .i64 ty, .int .i64 ms, .int .i64 mk, .int .i64 ma, .slice sa sl sc, .slice wa wl wc, .slice da dl dc]⟩) (k2 := ⟨53, [.int .i64 0, .int .i64 0, .int .i64 0, .int .i64 0, .string ⟨#[]⟩]⟩) D.S hR rfl rfl rfl (by kernel_rfl) (by kernel_rfl) (by kernel_rfl) (by simp) (by simp) (by simp)) hap
        refine dr_end D (by kernel_rfl) fun S => ?_
        refine sy_run ⟨0, [21]⟩ 80 S fun bs aa w S => ?_
        refine sy_reg S fun S => ?_
        refine sy_ops 2 S fun bs aa w S => ?_
        refine sy_cast 113 S (congrArg (Value.int .i64) (by rw [IntKind.wrap_i64]; omega : IntKind.i64.wrap ((j : Int) + 1) = ((j + 1 : Nat) : Int))) (by kernel_rfl) fun S => ?_
        refine sy_run ⟨0, [999]⟩ 80 S fun bs aa w S => ?_
        have S' : Sy w0 none [B0, B1, B2] (rnF L me k a bb ty ms mk ma wa da wl wc dl dc sa sl sc g B3 (j + 1) true) _ aa w := S.to [0, 1, 2] (rnF L me k a bb ty ms mk ma wa da wl wc dl dc sa sl sc g B3 (j + 1) true) (by kernel_rfl) (by kernel_rfl) (by kernel_rfl) (by kernel_rfl) (by kernel_rfl)
        refine sy_at (k := (.rnd (n) (bodyL rl3) :: rl3.k.tail)) (by kernel_rfl) ?_
        exact ih aa w S'
      · refine nx_ldo 13 D (by kernel_rfl) (ld_int ((D.S.fact (f := rfSeen b o Q) (by simp)) j (by omega)).2.1) (by kernel_rfl) fun aa D => ?_
        refine dr_ldo 7 D (by kernel_rfl) (by kernel_rfl) (by kernel_rfl) (ld_int ((D.S.fact (f := rfSeen b o Q) (by simp)) j (by omega)).1) (by kernel_rfl) fun aa D => ?_
        have hC := rlk_any w g L hok (Q.getD j (0, 0, 0)).1 (Q.getD j (0, 0, 0)).2.1 ([], none) ([], some ⟨1, atWord L (Q.getD j (0, 0, 0)).1, 0, 0⟩) ((0 : Int)) false rfl (by unfold I64; omega) (D.S.fact (f := rfCurE g B0 B1 B2 ([], none)) (by simp)).1
        rw [(hr : decide ((0 : Int) = wrap64 (2 * (Q.getD j (0, 0, 0)).2.1)) = false)] at hC
        have hap := (D.S.fs (rfCurE g B0 B1 B2 ([], none)) (by simp)).2
        refine dr_callG 14 D (Or.inr hg) (by kernel_rfl) (by kernel_rfl) (by kernel_rfl) (v := .tuple #[.int .i64 (lookX ((0 : Int)) (Q.getD j (0, 0, 0)).2.1), .bool false]) (C := fun w' => CurAt w' g ([], some ⟨1, atWord L (Q.getD j (0, 0, 0)).1, 0, 0⟩)) (hC) (by kernel_rfl) (F' := [rfBox B3 56 [.int .i64 0, .int .i64 0, .int .i64 0, .int .i64 0, .bool false, .bool false, .int .i64 0], rfSeen b o Q]) (by
          intro f hf
          simp only [List.mem_cons, List.not_mem_nil, or_false] at hf
          rcases hf with rfl | rfl
          · exact ⟨by simp, fun h => h3 h.symm⟩
          · exact ⟨by simp, hsg⟩) (fun i hi he => hap i hi (Or.inl he)) fun aa w hR D => ?_
        have D := D.addF (rfCurE g B0 B1 B2 ([], some ⟨1, atWord L (Q.getD j (0, 0, 0)).1, 0, 0⟩)) (curE_of (P := Try.prog) (k0 := ⟨42, [.int .i64 L.c.t, .int .i64 L.c.l, .int .i64 L.c.k, .int .i64 L.c.s, .int .i64 L.c.m, .int .i64 L.clock, .int .i64 L.stamps, .int .i64 L.log, .int .i64 L.fin, .int .i64 L.thread, .int .i64 L.lock, .int .i64 L.loc, .int .i64 L.size]⟩) (k1 := ⟨48, [.int .i64 k, .int .i64 a, .int .i64 bb, .int .i64 ty, .int .i64 ms, .int .i64 mk, .int .i64 ma, .slice sa sl sc, .slice wa wl wc, .slice da dl dc]⟩) (k2 := ⟨53, [.int .i64 0, .int .i64 0, .int .i64 0, .int .i64 0, .string ⟨#[]⟩]⟩) D.S hR rfl rfl rfl (by kernel_rfl) (by kernel_rfl) (by kernel_rfl) (by simp) (by simp) (by simp)) hap
        refine dr_end D (by kernel_rfl) fun S => ?_
        refine sy_run ⟨0, [21]⟩ 80 S fun bs aa w S => ?_
        refine sy_reg S fun S => ?_
        refine sy_ops 2 S fun bs aa w S => ?_
        refine sy_cast 113 S (congrArg (Value.int .i64) (by rw [IntKind.wrap_i64]; omega : IntKind.i64.wrap ((j : Int) + 1) = ((j + 1 : Nat) : Int))) (by kernel_rfl) fun S => ?_
        refine sy_run ⟨0, [999]⟩ 80 S fun bs aa w S => ?_
        have S' : Sy w0 none [B0, B1, B2] (rnF L me k a bb ty ms mk ma wa da wl wc dl dc sa sl sc g B3 (j + 1) true) _ aa w := S.to [0, 1, 2] (rnF L me k a bb ty ms mk ma wa da wl wc dl dc sa sl sc g B3 (j + 1) true) (by kernel_rfl) (by kernel_rfl) (by kernel_rfl) (by kernel_rfl) (by kernel_rfl)
        refine sy_at (k := (.rnd (n) (bodyL rl3) :: rl3.k.tail)) (by kernel_rfl) ?_
        exact ih aa w S'
    · refine nx_ldo 13 D (by kernel_rfl) (ld_int ((D.S.fact (f := rfSeen b o Q) (by simp)) j (by omega)).2.1) (by kernel_rfl) fun aa D => ?_
      refine dr_ix 5 (b := b) (off := o) (len := sl) (n := j) (size := 3) (ix := (j : Int)) D (by kernel_rfl) (by kernel_rfl) (by kernel_rfl) (by rw [← hsa.resolve_left (by omega)]; kernel_rfl) rfl hj fun aa D => ?_
      refine dr_ldo 7 D (by kernel_rfl) (by kernel_rfl) (by kernel_rfl) (ld_int ((D.S.fact (f := rfSeen b o Q) (by simp)) j (by omega)).1) (by kernel_rfl) fun aa D => ?_
      have hC := rlk_any w g L hok (Q.getD j (0, 0, 0)).1 (Q.getD j (0, 0, 0)).2.1 ([], none) ([], some ⟨1, atWord L (Q.getD j (0, 0, 0)).1, 0, 0⟩) ((0 : Int)) false rfl (by unfold I64; omega) (D.S.fact (f := rfCurE g B0 B1 B2 ([], none)) (by simp)).1
      rw [(hr : decide ((0 : Int) = wrap64 (2 * (Q.getD j (0, 0, 0)).2.1)) = false)] at hC
      have hap := (D.S.fs (rfCurE g B0 B1 B2 ([], none)) (by simp)).2
      refine dr_callG 14 D (Or.inr hg) (by kernel_rfl) (by kernel_rfl) (by kernel_rfl) (v := .tuple #[.int .i64 (lookX ((0 : Int)) (Q.getD j (0, 0, 0)).2.1), .bool false]) (C := fun w' => CurAt w' g ([], some ⟨1, atWord L (Q.getD j (0, 0, 0)).1, 0, 0⟩)) (hC) (by kernel_rfl) (F' := [rfBox B3 56 [.int .i64 0, .int .i64 0, .int .i64 0, .int .i64 0, .bool false, .bool false, .int .i64 0], rfSeen b o Q]) (by
        intro f hf
        simp only [List.mem_cons, List.not_mem_nil, or_false] at hf
        rcases hf with rfl | rfl
        · exact ⟨by simp, fun h => h3 h.symm⟩
        · exact ⟨by simp, hsg⟩) (fun i hi he => hap i hi (Or.inl he)) fun aa w hR D => ?_
      have D := D.addF (rfCurE g B0 B1 B2 ([], some ⟨1, atWord L (Q.getD j (0, 0, 0)).1, 0, 0⟩)) (curE_of (P := Try.prog) (k0 := ⟨42, [.int .i64 L.c.t, .int .i64 L.c.l, .int .i64 L.c.k, .int .i64 L.c.s, .int .i64 L.c.m, .int .i64 L.clock, .int .i64 L.stamps, .int .i64 L.log, .int .i64 L.fin, .int .i64 L.thread, .int .i64 L.lock, .int .i64 L.loc, .int .i64 L.size]⟩) (k1 := ⟨48, [.int .i64 k, .int .i64 a, .int .i64 bb, .int .i64 ty, .int .i64 ms, .int .i64 mk, .int .i64 ma, .slice sa sl sc, .slice wa wl wc, .slice da dl dc]⟩) (k2 := ⟨53, [.int .i64 0, .int .i64 0, .int .i64 0, .int .i64 0, .string ⟨#[]⟩]⟩) D.S hR rfl rfl rfl (by kernel_rfl) (by kernel_rfl) (by kernel_rfl) (by simp) (by simp) (by simp)) hap
      refine dr_end D (by kernel_rfl) fun S => ?_
      refine sy_run ⟨0, [21]⟩ 80 S fun bs aa w S => ?_
      refine sy_reg S fun S => ?_
      refine sy_ops 2 S fun bs aa w S => ?_
      refine sy_cast 113 S (congrArg (Value.int .i64) (by rw [IntKind.wrap_i64]; omega : IntKind.i64.wrap ((j : Int) + 1) = ((j + 1 : Nat) : Int))) (by kernel_rfl) fun S => ?_
      refine sy_run ⟨0, [999]⟩ 80 S fun bs aa w S => ?_
      have S' : Sy w0 none [B0, B1, B2] (rnF L me k a bb ty ms mk ma wa da wl wc dl dc sa sl sc g B3 (j + 1) true) _ aa w := S.to [0, 1, 2] (rnF L me k a bb ty ms mk ma wa da wl wc dl dc sa sl sc g B3 (j + 1) true) (by kernel_rfl) (by kernel_rfl) (by kernel_rfl) (by kernel_rfl) (by kernel_rfl)
      refine sy_at (k := (.rnd (n) (bodyL rl3) :: rl3.k.tail)) (by kernel_rfl) ?_
      exact ih aa w S'
set_option maxHeartbeats 8000000 in
theorem r3_ok (w0 : World) (g B0 B1 B2 B3 : Nat) (hg : w0.heap.size ≤ g) (h3 : B3 ≠ g) (L : Ly) (hok : L.ok) (me : Int) (ht : 0 ≤ me ∧ me ≤ 61) (k a bb ty ms mk ma : Int) (wa da : Option Addr) (wl wc dl dc : Nat) (sa : Option Addr) (sl sc : Nat) (b o : Nat) (Q : List (Int × Int × Int)) (hQ : Q.length = sl) (hsa : sl = 0 ∨ sa = some ⟨b, o, none⟩) (hsl : sl ≤ 1000000) (hsg : ¬ (rfSeen b o Q).bl g) {R : Ending → World → Prop} (n j : Nat) (hj : j < sl) (r : Int × Bool) (l : List (Int × Bool)) (hI : ∀ x ∈ r :: l, I64 x.1) (hr : decide (r.1 = wrap64 (2 * (Q.getD j (0, 0, 0)).2.1)) = true) (ih : ∀ (aa : Act) (w : World) (S : Sy w0 none [B0, B1, B2] (rnF L me k a bb ty ms mk ma wa da wl wc dl dc sa sl sc g B3 (j + 1) false) [rfCurE g B0 B1 B2 (l, none), rfBox B3 56 [.int .i64 0, .int .i64 0, .int .i64 0, .int .i64 0, .bool false, .bool false, .int .i64 0], rfSeen b o Q] aa w), post Try.prog (.rnd (n) (bodyL rl3) :: rl3.k.tail) (bodyPost Try.prog Try.f12 R) .normal aa w) (aa : Act) (w : World) (S : Sy w0 none [B0, B1, B2] (rnF L me k a bb ty ms mk ma wa da wl wc dl dc sa sl sc g B3 j false) [rfCurE g B0 B1 B2 (r :: l, none), rfBox B3 56 [.int .i64 0, .int .i64 0, .int .i64 0, .int .i64 0, .bool false, .bool false, .int .i64 0], rfSeen b o Q] aa w) : post Try.prog (.rnd (n + 1) (bodyL rl3) :: rl3.k.tail) (bodyPost Try.prog Try.f12 R) .normal aa w := by
  refine sy_run (c := ⟨(.rnd (n + 1) (bodyL rl3) :: rl3.k.tail), rnF L me k a bb ty ms mk ma wa da wl wc dl dc sa sl sc g B3 j false⟩) ⟨0, [20]⟩ 50 S fun bs aa w S => ?_
  refine sy_reg S fun S => ?_
  refine sy_ops 5 S fun bs aa w S => ?_
  refine sy_cast 100 S (congrArg Value.bool (by simp; omega : decide ((j : Int) < (sl : Int)) = true)) (by kernel_rfl) fun S => ?_
  refine sy_ops 4 S fun bs aa w S => ?_
  refine sy_ldf S (curAt_stop (S.fact (f := rfCurE g B0 B1 B2 (r :: l, none)) (by simp)).1) (by kernel_rfl) fun aa S => ?_
  refine sy_run ⟨0, []⟩ 80 S fun bs aa w S => ?_
  refine dr_enter [0, 1] (by kernel_rfl) (by kernel_rfl) S (by kernel_rfl) fun aa w D => ?_
  refine dr_any [5, 11] (by kernel_rfl) (by kernel_rfl) rfl ⟨?_, ?_, trivial⟩
  · refine nx_ix 5 (b := b) (off := o) (len := sl) (n := j) (size := 3) (ix := (j : Int)) D (by kernel_rfl) (by rw [← hsa.resolve_left (by omega)]; kernel_rfl) rfl hj fun aa D => ?_
    refine dr_any [7, 11] (by kernel_rfl) (by kernel_rfl) rfl ⟨?_, ?_, trivial⟩
    · refine nx_ldo 7 D (by kernel_rfl) (ld_int ((D.S.fact (f := rfSeen b o Q) (by simp)) j (by omega)).1) (by kernel_rfl) fun aa D => ?_
      refine dr_ix 11 (b := b) (off := o) (len := sl) (n := j) (size := 3) (ix := (j : Int)) D (by kernel_rfl) (by kernel_rfl) (by kernel_rfl) (by rw [← hsa.resolve_left (by omega)]; kernel_rfl) rfl hj fun aa D => ?_
      refine dr_ldo 13 D (by kernel_rfl) (by kernel_rfl) (by kernel_rfl) (ld_int ((D.S.fact (f := rfSeen b o Q) (by simp)) j (by omega)).2.1) (by kernel_rfl) fun aa D => ?_
      have hC := rlk_any w g L hok (Q.getD j (0, 0, 0)).1 (Q.getD j (0, 0, 0)).2.1 (r :: l, none) (l, none) (r.1) r.2 rfl (hI r (by simp)) (D.S.fact (f := rfCurE g B0 B1 B2 (r :: l, none)) (by simp)).1
      rw [(hr : decide (r.1 = wrap64 (2 * (Q.getD j (0, 0, 0)).2.1)) = true)] at hC
      have hap := (D.S.fs (rfCurE g B0 B1 B2 (r :: l, none)) (by simp)).2
      refine dr_callG 14 D (Or.inr hg) (by kernel_rfl) (by kernel_rfl) (by kernel_rfl) (v := .tuple #[.int .i64 (lookX (r.1) (Q.getD j (0, 0, 0)).2.1), .bool true]) (C := fun w' => CurAt w' g (l, none)) (hC) (by kernel_rfl) (F' := [rfBox B3 56 [.int .i64 0, .int .i64 0, .int .i64 0, .int .i64 0, .bool false, .bool false, .int .i64 0], rfSeen b o Q]) (by
        intro f hf
        simp only [List.mem_cons, List.not_mem_nil, or_false] at hf
        rcases hf with rfl | rfl
        · exact ⟨by simp, fun h => h3 h.symm⟩
        · exact ⟨by simp, hsg⟩) (fun i hi he => hap i hi (Or.inl he)) fun aa w hR D => ?_
      have D := D.addF (rfCurE g B0 B1 B2 (l, none)) (curE_of (P := Try.prog) (k0 := ⟨42, [.int .i64 L.c.t, .int .i64 L.c.l, .int .i64 L.c.k, .int .i64 L.c.s, .int .i64 L.c.m, .int .i64 L.clock, .int .i64 L.stamps, .int .i64 L.log, .int .i64 L.fin, .int .i64 L.thread, .int .i64 L.lock, .int .i64 L.loc, .int .i64 L.size]⟩) (k1 := ⟨48, [.int .i64 k, .int .i64 a, .int .i64 bb, .int .i64 ty, .int .i64 ms, .int .i64 mk, .int .i64 ma, .slice sa sl sc, .slice wa wl wc, .slice da dl dc]⟩) (k2 := ⟨53, [.int .i64 0, .int .i64 0, .int .i64 0, .int .i64 0, .string ⟨#[]⟩]⟩) D.S hR rfl rfl rfl (by kernel_rfl) (by kernel_rfl) (by kernel_rfl) (by simp) (by simp) (by simp)) hap
      refine dr_end D (by kernel_rfl) fun S => ?_
      refine sy_run ⟨0, [21]⟩ 80 S fun bs aa w S => ?_
      refine sy_reg S fun S => ?_
      refine sy_ops 2 S fun bs aa w S => ?_
      refine sy_cast 113 S (congrArg (Value.int .i64) (by rw [IntKind.wrap_i64]; omega : IntKind.i64.wrap ((j : Int) + 1) = ((j + 1 : Nat) : Int))) (by kernel_rfl) fun S => ?_
      refine sy_run ⟨0, [999]⟩ 80 S fun bs aa w S => ?_
      have S' : Sy w0 none [B0, B1, B2] (rnF L me k a bb ty ms mk ma wa da wl wc dl dc sa sl sc g B3 (j + 1) false) _ aa w := S.to [0, 1, 2] (rnF L me k a bb ty ms mk ma wa da wl wc dl dc sa sl sc g B3 (j + 1) false) (by kernel_rfl) (by kernel_rfl) (by kernel_rfl) (by kernel_rfl) (by kernel_rfl)
      refine sy_at (k := (.rnd (n) (bodyL rl3) :: rl3.k.tail)) (by kernel_rfl) ?_
      exact ih aa w S'
    · refine nx_ix 11 (b := b) (off := o) (len := sl) (n := j) (size := 3) (ix := (j : Int)) D (by kernel_rfl) (by rw [← hsa.resolve_left (by omega)]; kernel_rfl) rfl hj fun aa D => ?_
      refine dr_any [7, 13] (by kernel_rfl) (by kernel_rfl) rfl ⟨?_, ?_, trivial⟩
      · refine nx_ldo 7 D (by kernel_rfl) (ld_int ((D.S.fact (f := rfSeen b o Q) (by simp)) j (by omega)).1) (by kernel_rfl) fun aa D => ?_
        refine dr_ldo 13 D (by kernel_rfl) (by kernel_rfl) (by kernel_rfl) (ld_int ((D.S.fact (f := rfSeen b o Q) (by simp)) j (by omega)).2.1) (by kernel_rfl) fun aa D => ?_
        have hC := rlk_any w g L hok (Q.getD j (0, 0, 0)).1 (Q.getD j (0, 0, 0)).2.1 (r :: l, none) (l, none) (r.1) r.2 rfl (hI r (by simp)) (D.S.fact (f := rfCurE g B0 B1 B2 (r :: l, none)) (by simp)).1
        rw [(hr : decide (r.1 = wrap64 (2 * (Q.getD j (0, 0, 0)).2.1)) = true)] at hC
        have hap := (D.S.fs (rfCurE g B0 B1 B2 (r :: l, none)) (by simp)).2
        refine dr_callG 14 D (Or.inr hg) (by kernel_rfl) (by kernel_rfl) (by kernel_rfl) (v := .tuple #[.int .i64 (lookX (r.1) (Q.getD j (0, 0, 0)).2.1), .bool true]) (C := fun w' => CurAt w' g (l, none)) (hC) (by kernel_rfl) (F' := [rfBox B3 56 [.int .i64 0, .int .i64 0, .int .i64 0, .int .i64 0, .bool false, .bool false, .int .i64 0], rfSeen b o Q]) (by
          intro f hf
          simp only [List.mem_cons, List.not_mem_nil, or_false] at hf
          rcases hf with rfl | rfl
          · exact ⟨by simp, fun h => h3 h.symm⟩
          · exact ⟨by simp, hsg⟩) (fun i hi he => hap i hi (Or.inl he)) fun aa w hR D => ?_
        have D := D.addF (rfCurE g B0 B1 B2 (l, none)) (curE_of (P := Try.prog) (k0 := ⟨42, [.int .i64 L.c.t, .int .i64 L.c.l, .int .i64 L.c.k, .int .i64 L.c.s, .int .i64 L.c.m, .int .i64 L.clock, .int .i64 L.stamps, .int .i64 L.log, .int .i64 L.fin, .int .i64 L.thread, .int .i64 L.lock, .int .i64 L.loc, .int .i64 L.size]⟩) (k1 := ⟨48, [.int .i64 k, .int .i64 a, .int .i64 bb, .int .i64 ty, .int .i64 ms, .int .i64 mk, .int .i64 ma, .slice sa sl sc, .slice wa wl wc, .slice da dl dc]⟩) (k2 := ⟨53, [.int .i64 0, .int .i64 0, .int .i64 0, .int .i64 0, .string ⟨#[]⟩]⟩) D.S hR rfl rfl rfl (by kernel_rfl) (by kernel_rfl) (by kernel_rfl) (by simp) (by simp) (by simp)) hap
        refine dr_end D (by kernel_rfl) fun S => ?_
        refine sy_run ⟨0, [21]⟩ 80 S fun bs aa w S => ?_
        refine sy_reg S fun S => ?_
        refine sy_ops 2 S fun bs aa w S => ?_
        refine sy_cast 113 S (congrArg (Value.int .i64) (by rw [IntKind.wrap_i64]; omega : IntKind.i64.wrap ((j : Int) + 1) = ((j + 1 : Nat) : Int))) (by kernel_rfl) fun S => ?_
        refine sy_run ⟨0, [999]⟩ 80 S fun bs aa w S => ?_
        have S' : Sy w0 none [B0, B1, B2] (rnF L me k a bb ty ms mk ma wa da wl wc dl dc sa sl sc g B3 (j + 1) false) _ aa w := S.to [0, 1, 2] (rnF L me k a bb ty ms mk ma wa da wl wc dl dc sa sl sc g B3 (j + 1) false) (by kernel_rfl) (by kernel_rfl) (by kernel_rfl) (by kernel_rfl) (by kernel_rfl)
        refine sy_at (k := (.rnd (n) (bodyL rl3) :: rl3.k.tail)) (by kernel_rfl) ?_
        exact ih aa w S'
      · refine nx_ldo 13 D (by kernel_rfl) (ld_int ((D.S.fact (f := rfSeen b o Q) (by simp)) j (by omega)).2.1) (by kernel_rfl) fun aa D => ?_
        refine dr_ldo 7 D (by kernel_rfl) (by kernel_rfl) (by kernel_rfl) (ld_int ((D.S.fact (f := rfSeen b o Q) (by simp)) j (by omega)).1) (by kernel_rfl) fun aa D => ?_
        have hC := rlk_any w g L hok (Q.getD j (0, 0, 0)).1 (Q.getD j (0, 0, 0)).2.1 (r :: l, none) (l, none) (r.1) r.2 rfl (hI r (by simp)) (D.S.fact (f := rfCurE g B0 B1 B2 (r :: l, none)) (by simp)).1
        rw [(hr : decide (r.1 = wrap64 (2 * (Q.getD j (0, 0, 0)).2.1)) = true)] at hC
        have hap := (D.S.fs (rfCurE g B0 B1 B2 (r :: l, none)) (by simp)).2
        refine dr_callG 14 D (Or.inr hg) (by kernel_rfl) (by kernel_rfl) (by kernel_rfl) (v := .tuple #[.int .i64 (lookX (r.1) (Q.getD j (0, 0, 0)).2.1), .bool true]) (C := fun w' => CurAt w' g (l, none)) (hC) (by kernel_rfl) (F' := [rfBox B3 56 [.int .i64 0, .int .i64 0, .int .i64 0, .int .i64 0, .bool false, .bool false, .int .i64 0], rfSeen b o Q]) (by
          intro f hf
          simp only [List.mem_cons, List.not_mem_nil, or_false] at hf
          rcases hf with rfl | rfl
          · exact ⟨by simp, fun h => h3 h.symm⟩
          · exact ⟨by simp, hsg⟩) (fun i hi he => hap i hi (Or.inl he)) fun aa w hR D => ?_
        have D := D.addF (rfCurE g B0 B1 B2 (l, none)) (curE_of (P := Try.prog) (k0 := ⟨42, [.int .i64 L.c.t, .int .i64 L.c.l, .int .i64 L.c.k, .int .i64 L.c.s, .int .i64 L.c.m, .int .i64 L.clock, .int .i64 L.stamps, .int .i64 L.log, .int .i64 L.fin, .int .i64 L.thread, .int .i64 L.lock, .int .i64 L.loc, .int .i64 L.size]⟩) (k1 := ⟨48, [.int .i64 k, .int .i64 a, .int .i64 bb, .int .i64 ty, .int .i64 ms, .int .i64 mk, .int .i64 ma, .slice sa sl sc, .slice wa wl wc, .slice da dl dc]⟩) (k2 := ⟨53, [.int .i64 0, .int .i64 0, .int .i64 0, .int .i64 0, .string ⟨#[]⟩]⟩) D.S hR rfl rfl rfl (by kernel_rfl) (by kernel_rfl) (by kernel_rfl) (by simp) (by simp) (by simp)) hap
        refine dr_end D (by kernel_rfl) fun S => ?_
        refine sy_run ⟨0, [21]⟩ 80 S fun bs aa w S => ?_
        refine sy_reg S fun S => ?_
        refine sy_ops 2 S fun bs aa w S => ?_
        refine sy_cast 113 S (congrArg (Value.int .i64) (by rw [IntKind.wrap_i64]; omega : IntKind.i64.wrap ((j : Int) + 1) = ((j + 1 : Nat) : Int))) (by kernel_rfl) fun S => ?_
        refine sy_run ⟨0, [999]⟩ 80 S fun bs aa w S => ?_
        have S' : Sy w0 none [B0, B1, B2] (rnF L me k a bb ty ms mk ma wa da wl wc dl dc sa sl sc g B3 (j + 1) false) _ aa w := S.to [0, 1, 2] (rnF L me k a bb ty ms mk ma wa da wl wc dl dc sa sl sc g B3 (j + 1) false) (by kernel_rfl) (by kernel_rfl) (by kernel_rfl) (by kernel_rfl) (by kernel_rfl)
        refine sy_at (k := (.rnd (n) (bodyL rl3) :: rl3.k.tail)) (by kernel_rfl) ?_
        exact ih aa w S'
  · refine nx_ix 11 (b := b) (off := o) (len := sl) (n := j) (size := 3) (ix := (j : Int)) D (by kernel_rfl) (by rw [← hsa.resolve_left (by omega)]; kernel_rfl) rfl hj fun aa D => ?_
    refine dr_any [5, 13] (by kernel_rfl) (by kernel_rfl) rfl ⟨?_, ?_, trivial⟩
    · refine nx_ix 5 (b := b) (off := o) (len := sl) (n := j) (size := 3) (ix := (j : Int)) D (by kernel_rfl) (by rw [← hsa.resolve_left (by omega)]; kernel_rfl) rfl hj fun aa D => ?_
      refine dr_any [7, 13] (by kernel_rfl) (by kernel_rfl) rfl ⟨?_, ?_, trivial⟩
      · refine nx_ldo 7 D (by kernel_rfl) (ld_int ((D.S.fact (f := rfSeen b o Q) (by simp)) j (by omega)).1) (by kernel_rfl) fun aa D => ?_
        refine dr_ldo 13 D (by kernel_rfl) (by kernel_rfl) (by kernel_rfl) (ld_int ((D.S.fact (f := rfSeen b o Q) (by simp)) j (by omega)).2.1) (by kernel_rfl) fun aa D => ?_
        have hC := rlk_any w g L hok (Q.getD j (0, 0, 0)).1 (Q.getD j (0, 0, 0)).2.1 (r :: l, none) (l, none) (r.1) r.2 rfl (hI r (by simp)) (D.S.fact (f := rfCurE g B0 B1 B2 (r :: l, none)) (by simp)).1
        rw [(hr : decide (r.1 = wrap64 (2 * (Q.getD j (0, 0, 0)).2.1)) = true)] at hC
        have hap := (D.S.fs (rfCurE g B0 B1 B2 (r :: l, none)) (by simp)).2
        refine dr_callG 14 D (Or.inr hg) (by kernel_rfl) (by kernel_rfl) (by kernel_rfl) (v := .tuple #[.int .i64 (lookX (r.1) (Q.getD j (0, 0, 0)).2.1), .bool true]) (C := fun w' => CurAt w' g (l, none)) (hC) (by kernel_rfl) (F' := [rfBox B3 56 [.int .i64 0, .int .i64 0, .int .i64 0, .int .i64 0, .bool false, .bool false, .int .i64 0], rfSeen b o Q]) (by
          intro f hf
          simp only [List.mem_cons, List.not_mem_nil, or_false] at hf
          rcases hf with rfl | rfl
          · exact ⟨by simp, fun h => h3 h.symm⟩
          · exact ⟨by simp, hsg⟩) (fun i hi he => hap i hi (Or.inl he)) fun aa w hR D => ?_
        have D := D.addF (rfCurE g B0 B1 B2 (l, none)) (curE_of (P := Try.prog) (k0 := ⟨42, [.int .i64 L.c.t, .int .i64 L.c.l, .int .i64 L.c.k, .int .i64 L.c.s, .int .i64 L.c.m, .int .i64 L.clock, .int .i64 L.stamps, .int .i64 L.log, .int .i64 L.fin, .int .i64 L.thread, .int .i64 L.lock, .int .i64 L.loc, .int .i64 L.size]⟩) (k1 := ⟨48, [.int .i64 k, .int .i64 a, .int .i64 bb, .int .i64 ty, .int .i64 ms, .int .i64 mk, .int .i64 ma, .slice sa sl sc, .slice wa wl wc, .slice da dl dc]⟩) (k2 := ⟨53, [.int .i64 0, .int .i64 0, .int .i64 0, .int .i64 0, .string ⟨#[]⟩]⟩) D.S hR rfl rfl rfl (by kernel_rfl) (by kernel_rfl) (by kernel_rfl) (by simp) (by simp) (by simp)) hap
        refine dr_end D (by kernel_rfl) fun S => ?_
        refine sy_run ⟨0, [21]⟩ 80 S fun bs aa w S => ?_
        refine sy_reg S fun S => ?_
        refine sy_ops 2 S fun bs aa w S => ?_
        refine sy_cast 113 S (congrArg (Value.int .i64) (by rw [IntKind.wrap_i64]; omega : IntKind.i64.wrap ((j : Int) + 1) = ((j + 1 : Nat) : Int))) (by kernel_rfl) fun S => ?_
        refine sy_run ⟨0, [999]⟩ 80 S fun bs aa w S => ?_
        have S' : Sy w0 none [B0, B1, B2] (rnF L me k a bb ty ms mk ma wa da wl wc dl dc sa sl sc g B3 (j + 1) false) _ aa w := S.to [0, 1, 2] (rnF L me k a bb ty ms mk ma wa da wl wc dl dc sa sl sc g B3 (j + 1) false) (by kernel_rfl) (by kernel_rfl) (by kernel_rfl) (by kernel_rfl) (by kernel_rfl)
        refine sy_at (k := (.rnd (n) (bodyL rl3) :: rl3.k.tail)) (by kernel_rfl) ?_
        exact ih aa w S'
      · refine nx_ldo 13 D (by kernel_rfl) (ld_int ((D.S.fact (f := rfSeen b o Q) (by simp)) j (by omega)).2.1) (by kernel_rfl) fun aa D => ?_
        refine dr_ldo 7 D (by kernel_rfl) (by kernel_rfl) (by kernel_rfl) (ld_int ((D.S.fact (f := rfSeen b o Q) (by simp)) j (by omega)).1) (by kernel_rfl) fun aa D => ?_
        have hC := rlk_any w g L hok (Q.getD j (0, 0, 0)).1 (Q.getD j (0, 0, 0)).2.1 (r :: l, none) (l, none) (r.1) r.2 rfl (hI r (by simp)) (D.S.fact (f := rfCurE g B0 B1 B2 (r :: l, none)) (by simp)).1
        rw [(hr : decide (r.1 = wrap64 (2 * (Q.getD j (0, 0, 0)).2.1)) = true)] at hC
        have hap := (D.S.fs (rfCurE g B0 B1 B2 (r :: l, none)) (by simp)).2
        refine dr_callG 14 D (Or.inr hg) (by kernel_rfl) (by kernel_rfl) (by kernel_rfl) (v := .tuple #[.int .i64 (lookX (r.1) (Q.getD j (0, 0, 0)).2.1), .bool true]) (C := fun w' => CurAt w' g (l, none)) (hC) (by kernel_rfl) (F' := [rfBox B3 56 [.int .i64 0, .int .i64 0, .int .i64 0, .int .i64 0, .bool false, .bool false, .int .i64 0], rfSeen b o Q]) (by
          intro f hf
          simp only [List.mem_cons, List.not_mem_nil, or_false] at hf
          rcases hf with rfl | rfl
          · exact ⟨by simp, fun h => h3 h.symm⟩
          · exact ⟨by simp, hsg⟩) (fun i hi he => hap i hi (Or.inl he)) fun aa w hR D => ?_
        have D := D.addF (rfCurE g B0 B1 B2 (l, none)) (curE_of (P := Try.prog) (k0 := ⟨42, [.int .i64 L.c.t, .int .i64 L.c.l, .int .i64 L.c.k, .int .i64 L.c.s, .int .i64 L.c.m, .int .i64 L.clock, .int .i64 L.stamps, .int .i64 L.log, .int .i64 L.fin, .int .i64 L.thread, .int .i64 L.lock, .int .i64 L.loc, .int .i64 L.size]⟩) (k1 := ⟨48, [.int .i64 k, .int .i64 a, .int .i64 bb, .int .i64 ty, .int .i64 ms, .int .i64 mk, .int .i64 ma, .slice sa sl sc, .slice wa wl wc, .slice da dl dc]⟩) (k2 := ⟨53, [.int .i64 0, .int .i64 0, .int .i64 0, .int .i64 0, .string ⟨#[]⟩]⟩) D.S hR rfl rfl rfl (by kernel_rfl) (by kernel_rfl) (by kernel_rfl) (by simp) (by simp) (by simp)) hap
        refine dr_end D (by kernel_rfl) fun S => ?_
        refine sy_run ⟨0, [21]⟩ 80 S fun bs aa w S => ?_
        refine sy_reg S fun S => ?_
        refine sy_ops 2 S fun bs aa w S => ?_
        refine sy_cast 113 S (congrArg (Value.int .i64) (by rw [IntKind.wrap_i64]; omega : IntKind.i64.wrap ((j : Int) + 1) = ((j + 1 : Nat) : Int))) (by kernel_rfl) fun S => ?_
        refine sy_run ⟨0, [999]⟩ 80 S fun bs aa w S => ?_
        have S' : Sy w0 none [B0, B1, B2] (rnF L me k a bb ty ms mk ma wa da wl wc dl dc sa sl sc g B3 (j + 1) false) _ aa w := S.to [0, 1, 2] (rnF L me k a bb ty ms mk ma wa da wl wc dl dc sa sl sc g B3 (j + 1) false) (by kernel_rfl) (by kernel_rfl) (by kernel_rfl) (by kernel_rfl) (by kernel_rfl)
        refine sy_at (k := (.rnd (n) (bodyL rl3) :: rl3.k.tail)) (by kernel_rfl) ?_
        exact ih aa w S'
    · refine nx_ldo 13 D (by kernel_rfl) (ld_int ((D.S.fact (f := rfSeen b o Q) (by simp)) j (by omega)).2.1) (by kernel_rfl) fun aa D => ?_
      refine dr_ix 5 (b := b) (off := o) (len := sl) (n := j) (size := 3) (ix := (j : Int)) D (by kernel_rfl) (by kernel_rfl) (by kernel_rfl) (by rw [← hsa.resolve_left (by omega)]; kernel_rfl) rfl hj fun aa D => ?_
      refine dr_ldo 7 D (by kernel_rfl) (by kernel_rfl) (by kernel_rfl) (ld_int ((D.S.fact (f := rfSeen b o Q) (by simp)) j (by omega)).1) (by kernel_rfl) fun aa D => ?_
      have hC := rlk_any w g L hok (Q.getD j (0, 0, 0)).1 (Q.getD j (0, 0, 0)).2.1 (r :: l, none) (l, none) (r.1) r.2 rfl (hI r (by simp)) (D.S.fact (f := rfCurE g B0 B1 B2 (r :: l, none)) (by simp)).1
      rw [(hr : decide (r.1 = wrap64 (2 * (Q.getD j (0, 0, 0)).2.1)) = true)] at hC
      have hap := (D.S.fs (rfCurE g B0 B1 B2 (r :: l, none)) (by simp)).2
      refine dr_callG 14 D (Or.inr hg) (by kernel_rfl) (by kernel_rfl) (by kernel_rfl) (v := .tuple #[.int .i64 (lookX (r.1) (Q.getD j (0, 0, 0)).2.1), .bool true]) (C := fun w' => CurAt w' g (l, none)) (hC) (by kernel_rfl) (F' := [rfBox B3 56 [.int .i64 0, .int .i64 0, .int .i64 0, .int .i64 0, .bool false, .bool false, .int .i64 0], rfSeen b o Q]) (by
        intro f hf
        simp only [List.mem_cons, List.not_mem_nil, or_false] at hf
        rcases hf with rfl | rfl
        · exact ⟨by simp, fun h => h3 h.symm⟩
        · exact ⟨by simp, hsg⟩) (fun i hi he => hap i hi (Or.inl he)) fun aa w hR D => ?_
      have D := D.addF (rfCurE g B0 B1 B2 (l, none)) (curE_of (P := Try.prog) (k0 := ⟨42, [.int .i64 L.c.t, .int .i64 L.c.l, .int .i64 L.c.k, .int .i64 L.c.s, .int .i64 L.c.m, .int .i64 L.clock, .int .i64 L.stamps, .int .i64 L.log, .int .i64 L.fin, .int .i64 L.thread, .int .i64 L.lock, .int .i64 L.loc, .int .i64 L.size]⟩) (k1 := ⟨48, [.int .i64 k, .int .i64 a, .int .i64 bb, .int .i64 ty, .int .i64 ms, .int .i64 mk, .int .i64 ma, .slice sa sl sc, .slice wa wl wc, .slice da dl dc]⟩) (k2 := ⟨53, [.int .i64 0, .int .i64 0, .int .i64 0, .int .i64 0, .string ⟨#[]⟩]⟩) D.S hR rfl rfl rfl (by kernel_rfl) (by kernel_rfl) (by kernel_rfl) (by simp) (by simp) (by simp)) hap
      refine dr_end D (by kernel_rfl) fun S => ?_
      refine sy_run ⟨0, [21]⟩ 80 S fun bs aa w S => ?_
      refine sy_reg S fun S => ?_
      refine sy_ops 2 S fun bs aa w S => ?_
      refine sy_cast 113 S (congrArg (Value.int .i64) (by rw [IntKind.wrap_i64]; omega : IntKind.i64.wrap ((j : Int) + 1) = ((j + 1 : Nat) : Int))) (by kernel_rfl) fun S => ?_
      refine sy_run ⟨0, [999]⟩ 80 S fun bs aa w S => ?_
      have S' : Sy w0 none [B0, B1, B2] (rnF L me k a bb ty ms mk ma wa da wl wc dl dc sa sl sc g B3 (j + 1) false) _ aa w := S.to [0, 1, 2] (rnF L me k a bb ty ms mk ma wa da wl wc dl dc sa sl sc g B3 (j + 1) false) (by kernel_rfl) (by kernel_rfl) (by kernel_rfl) (by kernel_rfl) (by kernel_rfl)
      refine sy_at (k := (.rnd (n) (bodyL rl3) :: rl3.k.tail)) (by kernel_rfl) ?_
      exact ih aa w S'
set_option maxHeartbeats 8000000 in
theorem r3_bad (w0 : World) (g B0 B1 B2 B3 : Nat) (hg : w0.heap.size ≤ g) (h3 : B3 ≠ g) (L : Ly) (hok : L.ok) (me : Int) (ht : 0 ≤ me ∧ me ≤ 61) (k a bb ty ms mk ma : Int) (wa da : Option Addr) (wl wc dl dc : Nat) (sa : Option Addr) (sl sc : Nat) (b o : Nat) (Q : List (Int × Int × Int)) (hQ : Q.length = sl) (hsa : sl = 0 ∨ sa = some ⟨b, o, none⟩) (hsl : sl ≤ 1000000) (hsg : ¬ (rfSeen b o Q).bl g) {R : Ending → World → Prop} (n j : Nat) (hj : j < sl) (r : Int × Bool) (l : List (Int × Bool)) (hI : ∀ x ∈ r :: l, I64 x.1) (hr : decide (r.1 = wrap64 (2 * (Q.getD j (0, 0, 0)).2.1)) = false) (ih : ∀ (aa : Act) (w : World) (S : Sy w0 none [B0, B1, B2] (rnF L me k a bb ty ms mk ma wa da wl wc dl dc sa sl sc g B3 (j + 1) true) [rfCurE g B0 B1 B2 (l, none), rfBox B3 56 [.int .i64 0, .int .i64 0, .int .i64 0, .int .i64 0, .bool false, .bool false, .int .i64 0], rfSeen b o Q] aa w), post Try.prog (.rnd (n) (bodyL rl3) :: rl3.k.tail) (bodyPost Try.prog Try.f12 R) .normal aa w) (aa : Act) (w : World) (S : Sy w0 none [B0, B1, B2] (rnF L me k a bb ty ms mk ma wa da wl wc dl dc sa sl sc g B3 j false) [rfCurE g B0 B1 B2 (r :: l, none), rfBox B3 56 [.int .i64 0, .int .i64 0, .int .i64 0, .int .i64 0, .bool false, .bool false, .int .i64 0], rfSeen b o Q] aa w) : post Try.prog (.rnd (n + 1) (bodyL rl3) :: rl3.k.tail) (bodyPost Try.prog Try.f12 R) .normal aa w := by
  refine sy_run (c := ⟨(.rnd (n + 1) (bodyL rl3) :: rl3.k.tail), rnF L me k a bb ty ms mk ma wa da wl wc dl dc sa sl sc g B3 j false⟩) ⟨0, [20]⟩ 50 S fun bs aa w S => ?_
  refine sy_reg S fun S => ?_
  refine sy_ops 5 S fun bs aa w S => ?_
  refine sy_cast 100 S (congrArg Value.bool (by simp; omega : decide ((j : Int) < (sl : Int)) = true)) (by kernel_rfl) fun S => ?_
  refine sy_ops 4 S fun bs aa w S => ?_
  refine sy_ldf S (curAt_stop (S.fact (f := rfCurE g B0 B1 B2 (r :: l, none)) (by simp)).1) (by kernel_rfl) fun aa S => ?_
  refine sy_run ⟨0, []⟩ 80 S fun bs aa w S => ?_
  refine dr_enter [0, 1] (by kernel_rfl) (by kernel_rfl) S (by kernel_rfl) fun aa w D => ?_
  refine dr_any [5, 11] (by kernel_rfl) (by kernel_rfl) rfl ⟨?_, ?_, trivial⟩
  · refine nx_ix 5 (b := b) (off := o) (len := sl) (n := j) (size := 3) (ix := (j : Int)) D (by kernel_rfl) (by rw [← hsa.resolve_left (by omega)]; kernel_rfl) rfl hj fun aa D => ?_
    refine dr_any [7, 11] (by kernel_rfl) (by kernel_rfl) rfl ⟨?_, ?_, trivial⟩
    · refine nx_ldo 7 D (by kernel_rfl) (ld_int ((D.S.fact (f := rfSeen b o Q) (by simp)) j (by omega)).1) (by kernel_rfl) fun aa D => ?_
      refine dr_ix 11 (b := b) (off := o) (len := sl) (n := j) (size := 3) (ix := (j : Int)) D (by kernel_rfl) (by kernel_rfl) (by kernel_rfl) (by rw [← hsa.resolve_left (by omega)]; kernel_rfl) rfl hj fun aa D => ?_
      refine dr_ldo 13 D (by kernel_rfl) (by kernel_rfl) (by kernel_rfl) (ld_int ((D.S.fact (f := rfSeen b o Q) (by simp)) j (by omega)).2.1) (by kernel_rfl) fun aa D => ?_
      have hC := rlk_any w g L hok (Q.getD j (0, 0, 0)).1 (Q.getD j (0, 0, 0)).2.1 (r :: l, none) (l, none) (r.1) r.2 rfl (hI r (by simp)) (D.S.fact (f := rfCurE g B0 B1 B2 (r :: l, none)) (by simp)).1
      rw [(hr : decide (r.1 = wrap64 (2 * (Q.getD j (0, 0, 0)).2.1)) = false)] at hC
      have hap := (D.S.fs (rfCurE g B0 B1 B2 (r :: l, none)) (by simp)).2
      refine dr_callG 14 D (Or.inr hg) (by kernel_rfl) (by kernel_rfl) (by kernel_rfl) (v := .tuple #[.int .i64 (lookX (r.1) (Q.getD j (0, 0, 0)).2.1), .bool false]) (C := fun w' => CurAt w' g (l, none)) (hC) (by kernel_rfl) (F' := [rfBox B3 56 [.int .i64 0, .int .i64 0, .int .i64 0, .int .i64 0, .bool false, .bool false, .int .i64 0], rfSeen b o Q]) (by
        intro f hf
        simp only [List.mem_cons, List.not_mem_nil, or_false] at hf
        rcases hf with rfl | rfl
        · exact ⟨by simp, fun h => h3 h.symm⟩
        · exact ⟨by simp, hsg⟩) (fun i hi he => hap i hi (Or.inl he)) fun aa w hR D => ?_
      have D := D.addF (rfCurE g B0 B1 B2 (l, none)) (curE_of (P := Try.prog) (k0 := ⟨42, [.int .i64 L.c.t, .int .i64 L.c.l, .int .i64 L.c.k, .int .i64 L.c.s, .int .i64 L.c.m, .int .i64 L.clock, .int .i64 L.stamps, .int .i64 L.log, .int .i64 L.fin, .int .i64 L.thread, .int .i64 L.lock, .int .i64 L.loc, .int .i64 L.size]⟩) (k1 := ⟨48, [.int .i64 k, .int .i64 a, .int .i64 bb, .int .i64 ty, .int .i64 ms, .int .i64 mk, .int .i64 ma, .slice sa sl sc, .slice wa wl wc, .slice da dl dc]⟩) (k2 := ⟨53, [.int .i64 0, .int .i64 0, .int .i64 0, .int .i64 0, .string ⟨#[]⟩]⟩) D.S hR rfl rfl rfl (by kernel_rfl) (by kernel_rfl) (by kernel_rfl) (by simp) (by simp) (by simp)) hap
      refine dr_end D (by kernel_rfl) fun S => ?_
      refine sy_run ⟨0, [21]⟩ 80 S fun bs aa w S => ?_
      refine sy_reg S fun S => ?_
      refine sy_ops 2 S fun bs aa w S => ?_
      refine sy_cast 113 S (congrArg (Value.int .i64) (by rw [IntKind.wrap_i64]; omega : IntKind.i64.wrap ((j : Int) + 1) = ((j + 1 : Nat) : Int))) (by kernel_rfl) fun S => ?_
      refine sy_run ⟨0, [999]⟩ 80 S fun bs aa w S => ?_
      have S' : Sy w0 none [B0, B1, B2] (rnF L me k a bb ty ms mk ma wa da wl wc dl dc sa sl sc g B3 (j + 1) true) _ aa w := S.to [0, 1, 2] (rnF L me k a bb ty ms mk ma wa da wl wc dl dc sa sl sc g B3 (j + 1) true) (by kernel_rfl) (by kernel_rfl) (by kernel_rfl) (by kernel_rfl) (by kernel_rfl)
      refine sy_at (k := (.rnd (n) (bodyL rl3) :: rl3.k.tail)) (by kernel_rfl) ?_
      exact ih aa w S'
    · refine nx_ix 11 (b := b) (off := o) (len := sl) (n := j) (size := 3) (ix := (j : Int)) D (by kernel_rfl) (by rw [← hsa.resolve_left (by omega)]; kernel_rfl) rfl hj fun aa D => ?_
      refine dr_any [7, 13] (by kernel_rfl) (by kernel_rfl) rfl ⟨?_, ?_, trivial⟩
      · refine nx_ldo 7 D (by kernel_rfl) (ld_int ((D.S.fact (f := rfSeen b o Q) (by simp)) j (by omega)).1) (by kernel_rfl) fun aa D => ?_
        refine dr_ldo 13 D (by kernel_rfl) (by kernel_rfl) (by kernel_rfl) (ld_int ((D.S.fact (f := rfSeen b o Q) (by simp)) j (by omega)).2.1) (by kernel_rfl) fun aa D => ?_
        have hC := rlk_any w g L hok (Q.getD j (0, 0, 0)).1 (Q.getD j (0, 0, 0)).2.1 (r :: l, none) (l, none) (r.1) r.2 rfl (hI r (by simp)) (D.S.fact (f := rfCurE g B0 B1 B2 (r :: l, none)) (by simp)).1
        rw [(hr : decide (r.1 = wrap64 (2 * (Q.getD j (0, 0, 0)).2.1)) = false)] at hC
        have hap := (D.S.fs (rfCurE g B0 B1 B2 (r :: l, none)) (by simp)).2
        refine dr_callG 14 D (Or.inr hg) (by kernel_rfl) (by kernel_rfl) (by kernel_rfl) (v := .tuple #[.int .i64 (lookX (r.1) (Q.getD j (0, 0, 0)).2.1), .bool false]) (C := fun w' => CurAt w' g (l, none)) (hC) (by kernel_rfl) (F' := [rfBox B3 56 [.int .i64 0, .int .i64 0, .int .i64 0, .int .i64 0, .bool false, .bool false, .int .i64 0], rfSeen b o Q]) (by
          intro f hf
          simp only [List.mem_cons, List.not_mem_nil, or_false] at hf
          rcases hf with rfl | rfl
          · exact ⟨by simp, fun h => h3 h.symm⟩
          · exact ⟨by simp, hsg⟩) (fun i hi he => hap i hi (Or.inl he)) fun aa w hR D => ?_
        have D := D.addF (rfCurE g B0 B1 B2 (l, none)) (curE_of (P := Try.prog) (k0 := ⟨42, [.int .i64 L.c.t, .int .i64 L.c.l, .int .i64 L.c.k, .int .i64 L.c.s, .int .i64 L.c.m, .int .i64 L.clock, .int .i64 L.stamps, .int .i64 L.log, .int .i64 L.fin, .int .i64 L.thread, .int .i64 L.lock, .int .i64 L.loc, .int .i64 L.size]⟩) (k1 := ⟨48, [.int .i64 k, .int .i64 a, .int .i64 bb, .int .i64 ty, .int .i64 ms, .int .i64 mk, .int .i64 ma, .slice sa sl sc, .slice wa wl wc, .slice da dl dc]⟩) (k2 := ⟨53, [.int .i64 0, .int .i64 0, .int .i64 0, .int .i64 0, .string ⟨#[]⟩]⟩) D.S hR rfl rfl rfl (by kernel_rfl) (by kernel_rfl) (by kernel_rfl) (by simp) (by simp) (by simp)) hap
        refine dr_end D (by kernel_rfl) fun S => ?_
        refine sy_run ⟨0, [21]⟩ 80 S fun bs aa w S => ?_
        refine sy_reg S fun S => ?_
        refine sy_ops 2 S fun bs aa w S => ?_
        refine sy_cast 113 S (congrArg (Value.int .i64) (by rw [IntKind.wrap_i64]; omega : IntKind.i64.wrap ((j : Int) + 1) = ((j + 1 : Nat) : Int))) (by kernel_rfl) fun S => ?_
        refine sy_run ⟨0, [999]⟩ 80 S fun bs aa w S => ?_
        have S' : Sy w0 none [B0, B1, B2] (rnF L me k a bb ty ms mk ma wa da wl wc dl dc sa sl sc g B3 (j + 1) true) _ aa w := S.to [0, 1, 2] (rnF L me k a bb ty ms mk ma wa da wl wc dl dc sa sl sc g B3 (j + 1) true) (by kernel_rfl) (by kernel_rfl) (by kernel_rfl) (by kernel_rfl) (by kernel_rfl)
        refine sy_at (k := (.rnd (n) (bodyL rl3) :: rl3.k.tail)) (by kernel_rfl) ?_
        exact ih aa w S'
      · refine nx_ldo 13 D (by kernel_rfl) (ld_int ((D.S.fact (f := rfSeen b o Q) (by simp)) j (by omega)).2.1) (by kernel_rfl) fun aa D => ?_
        refine dr_ldo 7 D (by kernel_rfl) (by kernel_rfl) (by kernel_rfl) (ld_int ((D.S.fact (f := rfSeen b o Q) (by simp)) j (by omega)).1) (by kernel_rfl) fun aa D => ?_
        have hC := rlk_any w g L hok (Q.getD j (0, 0, 0)).1 (Q.getD j (0, 0, 0)).2.1 (r :: l, none) (l, none) (r.1) r.2 rfl (hI r (by simp)) (D.S.fact (f := rfCurE g B0 B1 B2 (r :: l, none)) (by simp)).1
        rw [(hr : decide (r.1 = wrap64 (2 * (Q.getD j (0, 0, 0)).2.1)) = false)] at hC
        have hap := (D.S.fs (rfCurE g B0 B1 B2 (r :: l, none)) (by simp)).2
        refine dr_callG 14 D (Or.inr hg) (by kernel_rfl) (by kernel_rfl) (by kernel_rfl) (v := .tuple #[.int .i64 (lookX (r.1) (Q.getD j (0, 0, 0)).2.1), .bool false]) (C := fun w' => CurAt w' g (l, none)) (hC) (by kernel_rfl) (F' := [rfBox B3 56 [.int .i64 0, .int .i64 0, .int .i64 0, .int .i64 0, .bool false, .bool false, .int .i64 0], rfSeen b o Q]) (by
          intro f hf
          simp only [List.mem_cons, List.not_mem_nil, or_false] at hf
          rcases hf with rfl | rfl
          · exact ⟨by simp, fun h => h3 h.symm⟩
          · exact ⟨by simp, hsg⟩) (fun i hi he => hap i hi (Or.inl he)) fun aa w hR D => ?_
        have D := D.addF (rfCurE g B0 B1 B2 (l, none)) (curE_of (P := Try.prog) (k0 := ⟨42, [.int .i64 L.c.t, .int .i64 L.c.l, .int .i64 L.c.k, .int .i64 L.c.s, .int .i64 L.c.m, .int .i64 L.clock, .int .i64 L.stamps, .int .i64 L.log, .int .i64 L.fin, .int .i64 L.thread, .int .i64 L.lock, .int .i64 L.loc, .int .i64 L.size]⟩) (k1 := ⟨48, [.int .i64 k, .int .i64 a, .int .i64 bb, .int .i64 ty, .int .i64 ms, .int .i64 mk, .int .i64 ma, .slice sa sl sc, .slice wa wl wc, .slice da dl dc]⟩) (k2 := ⟨53, [.int .i64 0, .int .i64 0, .int .i64 0, .int .i64 0, .string ⟨#[]⟩]⟩) D.S hR rfl rfl rfl (by kernel_rfl) (by kernel_rfl) (by kernel_rfl) (by simp) (by simp) (by simp)) hap
        refine dr_end D (by kernel_rfl) fun S => ?_
        refine sy_run ⟨0, [21]⟩ 80 S fun bs aa w S => ?_
        refine sy_reg S fun S => ?_
        refine sy_ops 2 S fun bs aa w S => ?_
        refine sy_cast 113 S (congrArg (Value.int .i64) (by rw [IntKind.wrap_i64]; omega : IntKind.i64.wrap ((j : Int) + 1) = ((j + 1 : Nat) : Int))) (by kernel_rfl) fun S => ?_
        refine sy_run ⟨0, [999]⟩ 80 S fun bs aa w S => ?_
        have S' : Sy w0 none [B0, B1, B2] (rnF L me k a bb ty ms mk ma wa da wl wc dl dc sa sl sc g B3 (j + 1) true) _ aa w := S.to [0, 1, 2] (rnF L me k a bb ty ms mk ma wa da wl wc dl dc sa sl sc g B3 (j + 1) true) (by kernel_rfl) (by kernel_rfl) (by kernel_rfl) (by kernel_rfl) (by kernel_rfl)
        refine sy_at (k := (.rnd (n) (bodyL rl3) :: rl3.k.tail)) (by kernel_rfl) ?_
        exact ih aa w S'
  · refine nx_ix 11 (b := b) (off := o) (len := sl) (n := j) (size := 3) (ix := (j : Int)) D (by kernel_rfl) (by rw [← hsa.resolve_left (by omega)]; kernel_rfl) rfl hj fun aa D => ?_
    refine dr_any [5, 13] (by kernel_rfl) (by kernel_rfl) rfl ⟨?_, ?_, trivial⟩
    · refine nx_ix 5 (b := b) (off := o) (len := sl) (n := j) (size := 3) (ix := (j : Int)) D (by kernel_rfl) (by rw [← hsa.resolve_left (by omega)]; kernel_rfl) rfl hj fun aa D => ?_
      refine dr_any [7, 13] (by kernel_rfl) (by kernel_rfl) rfl ⟨?_, ?_, trivial⟩
      · refine nx_ldo 7 D (by kernel_rfl) (ld_int ((D.S.fact (f := rfSeen b o Q) (by simp)) j (by omega)).1) (by kernel_rfl) fun aa D => ?_
        refine dr_ldo 13 D (by kernel_rfl) (by kernel_rfl) (by kernel_rfl) (ld_int ((D.S.fact (f := rfSeen b o Q) (by simp)) j (by omega)).2.1) (by kernel_rfl) fun aa D => ?_
        have hC := rlk_any w g L hok (Q.getD j (0, 0, 0)).1 (Q.getD j (0, 0, 0)).2.1 (r :: l, none) (l, none) (r.1) r.2 rfl (hI r (by simp)) (D.S.fact (f := rfCurE g B0 B1 B2 (r :: l, none)) (by simp)).1
        rw [(hr : decide (r.1 = wrap64 (2 * (Q.getD j (0, 0, 0)).2.1)) = false)] at hC
        have hap := (D.S.fs (rfCurE g B0 B1 B2 (r :: l, none)) (by simp)).2
        refine dr_callG 14 D (Or.inr hg) (by kernel_rfl) (by kernel_rfl) (by kernel_rfl) (v := .tuple #[.int .i64 (lookX (r.1) (Q.getD j (0, 0, 0)).2.1), .bool false]) (C := fun w' => CurAt w' g (l, none)) (hC) (by kernel_rfl) (F' := [rfBox B3 56 [.int .i64 0, .int .i64 0, .int .i64 0, .int .i64 0, .bool false, .bool false, .int .i64 0], rfSeen b o Q]) (by
          intro f hf
          simp only [List.mem_cons, List.not_mem_nil, or_false] at hf
          rcases hf with rfl | rfl
          · exact ⟨by simp, fun h => h3 h.symm⟩
          · exact ⟨by simp, hsg⟩) (fun i hi he => hap i hi (Or.inl he)) fun aa w hR D => ?_
        have D := D.addF (rfCurE g B0 B1 B2 (l, none)) (curE_of (P := Try.prog) (k0 := ⟨42, [.int .i64 L.c.t, .int .i64 L.c.l, .int .i64 L.c.k, .int .i64 L.c.s, .int .i64 L.c.m, .int .i64 L.clock, .int .i64 L.stamps, .int .i64 L.log, .int .i64 L.fin, .int .i64 L.thread, .int .i64 L.lock, .int .i64 L.loc, .int .i64 L.size]⟩) (k1 := ⟨48, [.int .i64 k, .int .i64 a, .int .i64 bb, .int .i64 ty, .int .i64 ms, .int .i64 mk, .int .i64 ma, .slice sa sl sc, .slice wa wl wc, .slice da dl dc]⟩) (k2 := ⟨53, [.int .i64 0, .int .i64 0, .int .i64 0, .int .i64 0, .string ⟨#[]⟩]⟩) D.S hR rfl rfl rfl (by kernel_rfl) (by kernel_rfl) (by kernel_rfl) (by simp) (by simp) (by simp)) hap
        refine dr_end D (by kernel_rfl) fun S => ?_
        refine sy_run ⟨0, [21]⟩ 80 S fun bs aa w S => ?_
        refine sy_reg S fun S => ?_
        refine sy_ops 2 S fun bs aa w S => ?_
        refine sy_cast 113 S (congrArg (Value.int .i64) (by rw [IntKind.wrap_i64]; omega : IntKind.i64.wrap ((j : Int) + 1) = ((j + 1 : Nat) : Int))) (by kernel_rfl) fun S => ?_
        refine sy_run ⟨0, [999]⟩ 80 S fun bs aa w S => ?_
        have S' : Sy w0 none [B0, B1, B2] (rnF L me k a bb ty ms mk ma wa da wl wc dl dc sa sl sc g B3 (j + 1) true) _ aa w := S.to [0, 1, 2] (rnF L me k a bb ty ms mk ma wa da wl wc dl dc sa sl sc g B3 (j + 1) true) (by kernel_rfl) (by kernel_rfl) (by kernel_rfl) (by kernel_rfl) (by kernel_rfl)
        refine sy_at (k := (.rnd (n) (bodyL rl3) :: rl3.k.tail)) (by kernel_rfl) ?_
        exact ih aa w S'
      · refine nx_ldo 13 D (by kernel_rfl) (ld_int ((D.S.fact (f := rfSeen b o Q) (by simp)) j (by omega)).2.1) (by kernel_rfl) fun aa D => ?_
        refine dr_ldo 7 D (by kernel_rfl) (by kernel_rfl) (by kernel_rfl) (ld_int ((D.S.fact (f := rfSeen b o Q) (by simp)) j (by omega)).1) (by kernel_rfl) fun aa D => ?_
        have hC := rlk_any w g L hok (Q.getD j (0, 0, 0)).1 (Q.getD j (0, 0, 0)).2.1 (r :: l, none) (l, none) (r.1) r.2 rfl (hI r (by simp)) (D.S.fact (f := rfCurE g B0 B1 B2 (r :: l, none)) (by simp)).1
        rw [(hr : decide (r.1 = wrap64 (2 * (Q.getD j (0, 0, 0)).2.1)) = false)] at hC
        have hap := (D.S.fs (rfCurE g B0 B1 B2 (r :: l, none)) (by simp)).2
        refine dr_callG 14 D (Or.inr hg) (by kernel_rfl) (by kernel_rfl) (by kernel_rfl) (v := .tuple #[.int .i64 (lookX (r.1) (Q.getD j (0, 0, 0)).2.1), .bool false]) (C := fun w' => CurAt w' g (l, none)) (hC) (by kernel_rfl) (F' := [rfBox B3 56 [.int .i64 0, .int .i64 0, .int .i64 0, .int .i64 0, .bool false, .bool false, .int .i64 0], rfSeen b o Q]) (by
          intro f hf
          simp only [List.mem_cons, List.not_mem_nil, or_false] at hf
          rcases hf with rfl | rfl
          · exact ⟨by simp, fun h => h3 h.symm⟩
          · exact ⟨by simp, hsg⟩) (fun i hi he => hap i hi (Or.inl he)) fun aa w hR D => ?_
        have D := D.addF (rfCurE g B0 B1 B2 (l, none)) (curE_of (P := Try.prog) (k0 := ⟨42, [.int .i64 L.c.t, .int .i64 L.c.l, .int .i64 L.c.k, .int .i64 L.c.s, .int .i64 L.c.m, .int .i64 L.clock, .int .i64 L.stamps, .int .i64 L.log, .int .i64 L.fin, .int .i64 L.thread, .int .i64 L.lock, .int .i64 L.loc, .int .i64 L.size]⟩) (k1 := ⟨48, [.int .i64 k, .int .i64 a, .int .i64 bb, .int .i64 ty, .int .i64 ms, .int .i64 mk, .int .i64 ma, .slice sa sl sc, .slice wa wl wc, .slice da dl dc]⟩) (k2 := ⟨53, [.int .i64 0, .int .i64 0, .int .i64 0, .int .i64 0, .string ⟨#[]⟩]⟩) D.S hR rfl rfl rfl (by kernel_rfl) (by kernel_rfl) (by kernel_rfl) (by simp) (by simp) (by simp)) hap
        refine dr_end D (by kernel_rfl) fun S => ?_
        refine sy_run ⟨0, [21]⟩ 80 S fun bs aa w S => ?_
        refine sy_reg S fun S => ?_
        refine sy_ops 2 S fun bs aa w S => ?_
        refine sy_cast 113 S (congrArg (Value.int .i64) (by rw [IntKind.wrap_i64]; omega : IntKind.i64.wrap ((j : Int) + 1) = ((j + 1 : Nat) : Int))) (by kernel_rfl) fun S => ?_
        refine sy_run ⟨0, [999]⟩ 80 S fun bs aa w S => ?_
        have S' : Sy w0 none [B0, B1, B2] (rnF L me k a bb ty ms mk ma wa da wl wc dl dc sa sl sc g B3 (j + 1) true) _ aa w := S.to [0, 1, 2] (rnF L me k a bb ty ms mk ma wa da wl wc dl dc sa sl sc g B3 (j + 1) true) (by kernel_rfl) (by kernel_rfl) (by kernel_rfl) (by kernel_rfl) (by kernel_rfl)
        refine sy_at (k := (.rnd (n) (bodyL rl3) :: rl3.k.tail)) (by kernel_rfl) ?_
        exact ih aa w S'
    · refine nx_ldo 13 D (by kernel_rfl) (ld_int ((D.S.fact (f := rfSeen b o Q) (by simp)) j (by omega)).2.1) (by kernel_rfl) fun aa D => ?_
      refine dr_ix 5 (b := b) (off := o) (len := sl) (n := j) (size := 3) (ix := (j : Int)) D (by kernel_rfl) (by kernel_rfl) (by kernel_rfl) (by rw [← hsa.resolve_left (by omega)]; kernel_rfl) rfl hj fun aa D => ?_
      refine dr_ldo 7 D (by kernel_rfl) (by kernel_rfl) (by kernel_rfl) (ld_int ((D.S.fact (f := rfSeen b o Q) (by simp)) j (by omega)).1) (by kernel_rfl) fun aa D => ?_
      have hC := rlk_any w g L hok (Q.getD j (0, 0, 0)).1 (Q.getD j (0, 0, 0)).2.1 (r :: l, none) (l, none) (r.1) r.2 rfl (hI r (by simp)) (D.S.fact (f := rfCurE g B0 B1 B2 (r :: l, none)) (by simp)).1
      rw [(hr : decide (r.1 = wrap64 (2 * (Q.getD j (0, 0, 0)).2.1)) = false)] at hC
      have hap := (D.S.fs (rfCurE g B0 B1 B2 (r :: l, none)) (by simp)).2
      refine dr_callG 14 D (Or.inr hg) (by kernel_rfl) (by kernel_rfl) (by kernel_rfl) (v := .tuple #[.int .i64 (lookX (r.1) (Q.getD j (0, 0, 0)).2.1), .bool false]) (C := fun w' => CurAt w' g (l, none)) (hC) (by kernel_rfl) (F' := [rfBox B3 56 [.int .i64 0, .int .i64 0, .int .i64 0, .int .i64 0, .bool false, .bool false, .int .i64 0], rfSeen b o Q]) (by
        intro f hf
        simp only [List.mem_cons, List.not_mem_nil, or_false] at hf
        rcases hf with rfl | rfl
        · exact ⟨by simp, fun h => h3 h.symm⟩
        · exact ⟨by simp, hsg⟩) (fun i hi he => hap i hi (Or.inl he)) fun aa w hR D => ?_
      have D := D.addF (rfCurE g B0 B1 B2 (l, none)) (curE_of (P := Try.prog) (k0 := ⟨42, [.int .i64 L.c.t, .int .i64 L.c.l, .int .i64 L.c.k, .int .i64 L.c.s, .int .i64 L.c.m, .int .i64 L.clock, .int .i64 L.stamps, .int .i64 L.log, .int .i64 L.fin, .int .i64 L.thread, .int .i64 L.lock, .int .i64 L.loc, .int .i64 L.size]⟩) (k1 := ⟨48, [.int .i64 k, .int .i64 a, .int .i64 bb, .int .i64 ty, .int .i64 ms, .int .i64 mk, .int .i64 ma, .slice sa sl sc, .slice wa wl wc, .slice da dl dc]⟩) (k2 := ⟨53, [.int .i64 0, .int .i64 0, .int .i64 0, .int .i64 0, .string ⟨#[]⟩]⟩) D.S hR rfl rfl rfl (by kernel_rfl) (by kernel_rfl) (by kernel_rfl) (by simp) (by simp) (by simp)) hap
      refine dr_end D (by kernel_rfl) fun S => ?_
      refine sy_run ⟨0, [21]⟩ 80 S fun bs aa w S => ?_
      refine sy_reg S fun S => ?_
      refine sy_ops 2 S fun bs aa w S => ?_
      refine sy_cast 113 S (congrArg (Value.int .i64) (by rw [IntKind.wrap_i64]; omega : IntKind.i64.wrap ((j : Int) + 1) = ((j + 1 : Nat) : Int))) (by kernel_rfl) fun S => ?_
      refine sy_run ⟨0, [999]⟩ 80 S fun bs aa w S => ?_
      have S' : Sy w0 none [B0, B1, B2] (rnF L me k a bb ty ms mk ma wa da wl wc dl dc sa sl sc g B3 (j + 1) true) _ aa w := S.to [0, 1, 2] (rnF L me k a bb ty ms mk ma wa da wl wc dl dc sa sl sc g B3 (j + 1) true) (by kernel_rfl) (by kernel_rfl) (by kernel_rfl) (by kernel_rfl) (by kernel_rfl)
      refine sy_at (k := (.rnd (n) (bodyL rl3) :: rl3.k.tail)) (by kernel_rfl) ?_
      exact ih aa w S'
end Go.Proofs.Ytfahnmpcclhjlaa


/-
  Layer 21: Next of the reference, put together.
-/
namespace Go.Proofs.Ytfahnmpcclhjlaa
open Go Go.RowKit SX
set_option linter.unusedVariables false
set_option linter.unusedSimpArgs false
set_option maxRecDepth 100000
attribute [local irreducible] post GD
noncomputable def rk9 : List It := goR 9 200 [9, 0] rb
/-- The looks, as the reference makes them. -/
def look3 (L : Ly) : List (Int × Int × Int) → Bool → CSt → Bool × CSt
  | [], out, x => (out, x)
  | s :: Q, out, x => match x with
    | (l, some q) => (out, (l, some q))
    | (l, none) => match out with
      | true => (true, (l, none))
      | false => match l with
        | [] => (!decide ((0 : Int) = wrap64 (2 * s.2.1)), ([], some ⟨1, atWord L s.1, 0, 0⟩))
        | r :: l => look3 L Q (!decide (r.1 = wrap64 (2 * s.2.1))) (l, none)
theorem look3_stop (L : Ly) (Q : List (Int × Int × Int)) (out : Bool) (l : List (Int × Bool)) (q : Ask) : look3 L Q out (l, some q) = (out, (l, some q)) := by cases Q <;> rfl
theorem look3_out (L : Ly) (Q : List (Int × Int × Int)) (l : List (Int × Bool)) : look3 L Q true (l, none) = (true, (l, none)) := by cases Q <;> rfl
theorem look3_is (L : Ly) : ∀ (Q : List (Int × Int × Int)) (l : List (Int × Bool)), (look3 L Q false (l, none)).2 = (lookS L Q l).2 ∧ ((lookS L Q l).2.2 = none → (look3 L Q false (l, none)).1 = !(lookS L Q l).1)
  | [], l => ⟨rfl, fun _ => rfl⟩
  | s :: Q, [] => ⟨rfl, fun h => by cases h⟩
  | s :: Q, r :: l => by
    show (look3 L Q (!decide (r.1 = wrap64 (2 * s.2.1))) (l, none)).2 = _ ∧ (_ → (look3 L Q (!decide (r.1 = wrap64 (2 * s.2.1))) (l, none)).1 = _)
    by_cases hr : r.1 = wrap64 (2 * s.2.1)
    · have e : lookS L (s :: Q) (r :: l) = lookS L Q l := by conv => lhs; unfold lookS; rw [if_pos hr]
      rw [e, decide_eq_true hr]
      exact look3_is L Q l
    · have e : lookS L (s :: Q) (r :: l) = (false, (l, none)) := by conv => lhs; unfold lookS; rw [if_neg hr]
      rw [e, decide_eq_false hr, Bool.not_false, look3_out]
      exact ⟨rfl, fun _ => rfl⟩
theorem r3_all (w0 : World) (g B0 B1 B2 B3 : Nat) (hg : w0.heap.size ≤ g) (h3 : B3 ≠ g) (L : Ly) (hok : L.ok) (me : Int) (ht : 0 ≤ me ∧ me ≤ 61) (k a bb ty ms mk ma : Int) (wa da : Option Addr) (wl wc dl dc : Nat) (sa : Option Addr) (sl sc : Nat) (b o : Nat) (Q : List (Int × Int × Int)) (hQ : Q.length = sl) (hsa : sl = 0 ∨ sa = some ⟨b, o, none⟩) (hsl : sl ≤ 1000000) (hsg : ¬ (rfSeen b o Q).bl g) {R : Ending → World → Prop} : ∀ (r j : Nat), j + r = sl → ∀ (out : Bool) (x : CSt) (hI : x.2 = none → ∀ y ∈ x.1, I64 y.1) (hk : ∀ (aa : Act) (w : World) (S : Sy w0 none [B0, B1, B2] (rnG L me k a bb ty ms mk ma wa da wl wc dl dc sa sl sc g B3 (look3 L (Q.drop j) out x).1) [rfCurE g B0 B1 B2 ((look3 L (Q.drop j) out x).2), rfBox B3 56 [.int .i64 0, .int .i64 0, .int .i64 0, .int .i64 0, .bool false, .bool false, .int .i64 0], rfSeen b o Q] aa w), post Try.prog rk24 (bodyPost Try.prog Try.f12 R) .normal aa w) (aa : Act) (w : World) (S : Sy w0 none [B0, B1, B2] (rnF L me k a bb ty ms mk ma wa da wl wc dl dc sa sl sc g B3 j out) [rfCurE g B0 B1 B2 (x), rfBox B3 56 [.int .i64 0, .int .i64 0, .int .i64 0, .int .i64 0, .bool false, .bool false, .int .i64 0], rfSeen b o Q] aa w), post Try.prog (.rnd (r + 1) (bodyL rl3) :: rl3.k.tail) (bodyPost Try.prog Try.f12 R) .normal aa w := by
  intro r
  induction r with
  | zero =>
    intro j hj out x hI hk aa w S
    obtain rfl : j = sl := by omega
    rw [List.drop_of_length_le (by omega)] at hk
    exact r3_end w0 g B0 B1 B2 B3 hg h3 L hok me ht k a bb ty ms mk ma wa da wl wc dl dc sa j sc b o Q hQ hsa hsl hsg 0 out x hk aa w S
  | succ r ih =>
    intro j hj out x hI hk aa w S
    obtain ⟨l, oq⟩ := x
    rw [drop_at (by omega)] at hk
    cases oq with
    | some q => exact r3_stop w0 g B0 B1 B2 B3 hg h3 L hok me ht k a bb ty ms mk ma wa da wl wc dl dc sa sl sc b o Q hQ hsa hsl hsg (r + 1) j (by omega) out l q hk aa w S
    | none =>
      cases out with
      | true => exact r3_out w0 g B0 B1 B2 B3 hg h3 L hok me ht k a bb ty ms mk ma wa da wl wc dl dc sa sl sc b o Q hQ hsa hsl hsg (r + 1) j (by omega) l hk aa w S
      | false =>
        rcases l with _ | ⟨y, l⟩
        · cases hb : decide ((0 : Int) = wrap64 (2 * (Q.getD j (0, 0, 0)).2.1)) with
          | true =>
            refine r3_nil0 w0 g B0 B1 B2 B3 hg h3 L hok me ht k a bb ty ms mk ma wa da wl wc dl dc sa sl sc b o Q hQ hsa hsl hsg (r + 1) j (by omega) hb (fun aa w S => ih (j + 1) (by omega) false _ (fun h => by cases h) ?_ aa w S) aa w S
            rw [look3_stop]
            simp only [look3, hb, Bool.not_true] at hk
            exact hk
          | false =>
            refine r3_nil1 w0 g B0 B1 B2 B3 hg h3 L hok me ht k a bb ty ms mk ma wa da wl wc dl dc sa sl sc b o Q hQ hsa hsl hsg (r + 1) j (by omega) hb (fun aa w S => ih (j + 1) (by omega) true _ (fun h => by cases h) ?_ aa w S) aa w S
            rw [look3_stop]
            simp only [look3, hb, Bool.not_false] at hk
            exact hk
        · have hI' := hI rfl
          cases hb : decide (y.1 = wrap64 (2 * (Q.getD j (0, 0, 0)).2.1)) with
          | true =>
            refine r3_ok w0 g B0 B1 B2 B3 hg h3 L hok me ht k a bb ty ms mk ma wa da wl wc dl dc sa sl sc b o Q hQ hsa hsl hsg (r + 1) j (by omega) y l hI' hb (fun aa w S => ih (j + 1) (by omega) false _ (fun _ z hz => hI' z (by simp [show z ∈ l from hz])) ?_ aa w S) aa w S
            simp only [look3, hb, Bool.not_true] at hk
            exact hk
          | false =>
            refine r3_bad w0 g B0 B1 B2 B3 hg h3 L hok me ht k a bb ty ms mk ma wa da wl wc dl dc sa sl sc b o Q hQ hsa hsl hsg (r + 1) j (by omega) y l hI' hb (fun aa w S => ih (j + 1) (by omega) true _ (fun _ z hz => hI' z (by simp [show z ∈ l from hz])) ?_ aa w S) aa w S
            simp only [look3, hb, Bool.not_false] at hk
            exact hk
theorem r4_f (w0 : World) (g B0 B1 B2 B3 : Nat) (hg : w0.heap.size ≤ g) (h3 : B3 ≠ g) (L : Ly) (hok : L.ok) (me : Int) (ht : 0 ≤ me ∧ me ≤ 61) (k a bb ty ms mk ma : Int) (wa da : Option Addr) (wl wc dl dc : Nat) (sa : Option Addr) (sl sc : Nat) (b o : Nat) (Q : List (Int × Int × Int)) (hQ : Q.length = sl) (hsa : sl = 0 ∨ sa = some ⟨b, o, none⟩) (hsl : sl ≤ 1000000) (hsg : ¬ (rfSeen b o Q).bl g) {R : Ending → World → Prop} (is : Bool) (x : CSt) (hk : ∀ (aa : Act) (w : World) (S : Sy w0 none [B0, B1, B2] (rnI L me k a bb ty ms mk ma wa da wl wc dl dc sa sl sc g B3 is) [rfCurE g B0 B1 B2 (x), rfBox B3 56 [.int .i64 0, .int .i64 0, .int .i64 0, .int .i64 0, .bool false, .bool false, .int .i64 0], rfSeen b o Q] aa w), post Try.prog rk32 (bodyPost Try.prog Try.f12 R) .normal aa w) (aa : Act) (w : World) (S : Sy w0 none [B0, B1, B2] (rnH L me k a bb ty ms mk ma wa da wl wc dl dc sa sl sc g B3 0 false is) [rfCurE g B0 B1 B2 (x), rfBox B3 56 [.int .i64 0, .int .i64 0, .int .i64 0, .int .i64 0, .bool false, .bool false, .int .i64 0], rfSeen b o Q] aa w) : post Try.prog (.rnd (sl + 1) (bodyL rl4) :: rl4.k.tail) (bodyPost Try.prog Try.f12 R) .normal aa w := by
  by_cases h0 : sl = 0
  · subst h0
    exact r4_end w0 g B0 B1 B2 B3 hg h3 L hok me ht k a bb ty ms mk ma wa da wl wc dl dc sa 0 sc b o Q hQ hsa hsl hsg false is 0 x hk aa w S
  · obtain ⟨l, oq⟩ := x
    cases oq with
    | some q => exact r4_stop w0 g B0 B1 B2 B3 hg h3 L hok me ht k a bb ty ms mk ma wa da wl wc dl dc sa sl sc b o Q hQ hsa hsl hsg false is sl 0 (by omega) l q hk aa w S
    | none => exact r4_no w0 g B0 B1 B2 B3 hg h3 L hok me ht k a bb ty ms mk ma wa da wl wc dl dc sa sl sc b o Q hQ hsa hsl hsg is sl 0 (by omega) l hk aa w S
/-- The last marks are made where they are wanted. -/
def last4 (L : Ly) (me : Int) (Q : List (Int × Int × Int)) (out : Bool) (x : CSt) : CSt := if out then markC L me 4 Q x else x
theorem r4_any (w0 : World) (g B0 B1 B2 B3 : Nat) (hg : w0.heap.size ≤ g) (h3 : B3 ≠ g) (L : Ly) (hok : L.ok) (me : Int) (ht : 0 ≤ me ∧ me ≤ 61) (k a bb ty ms mk ma : Int) (wa da : Option Addr) (wl wc dl dc : Nat) (sa : Option Addr) (sl sc : Nat) (b o : Nat) (Q : List (Int × Int × Int)) (hQ : Q.length = sl) (hsa : sl = 0 ∨ sa = some ⟨b, o, none⟩) (hsl : sl ≤ 1000000) (hsg : ¬ (rfSeen b o Q).bl g) {R : Ending → World → Prop} (out is : Bool) (x : CSt) (hI : x.2 = none → ∀ y ∈ x.1, I64 y.1) (hk : ∀ (aa : Act) (w : World) (S : Sy w0 none [B0, B1, B2] (rnI L me k a bb ty ms mk ma wa da wl wc dl dc sa sl sc g B3 is) [rfCurE g B0 B1 B2 (last4 L me Q out x), rfBox B3 56 [.int .i64 0, .int .i64 0, .int .i64 0, .int .i64 0, .bool false, .bool false, .int .i64 0], rfSeen b o Q] aa w), post Try.prog rk32 (bodyPost Try.prog Try.f12 R) .normal aa w) (aa : Act) (w : World) (S : Sy w0 none [B0, B1, B2] (rnH L me k a bb ty ms mk ma wa da wl wc dl dc sa sl sc g B3 0 out is) [rfCurE g B0 B1 B2 (x), rfBox B3 56 [.int .i64 0, .int .i64 0, .int .i64 0, .int .i64 0, .bool false, .bool false, .int .i64 0], rfSeen b o Q] aa w) : post Try.prog (.rnd (sl + 1) (bodyL rl4) :: rl4.k.tail) (bodyPost Try.prog Try.f12 R) .normal aa w := by
  cases out with
  | true => exact r4_all w0 g B0 B1 B2 B3 hg h3 L hok me ht k a bb ty ms mk ma wa da wl wc dl dc sa sl sc b o Q hQ hsa hsl hsg is sl 0 (by omega) x hI hk aa w S
  | false => exact r4_f w0 g B0 B1 B2 B3 hg h3 L hok me ht k a bb ty ms mk ma wa da wl wc dl dc sa sl sc b o Q hQ hsa hsl hsg is x hk aa w S
set_option maxHeartbeats 8000000 in
theorem r_fin (w0 : World) (g B0 B1 B2 B3 : Nat) (hg : w0.heap.size ≤ g) (h3 : B3 ≠ g) (L : Ly) (hok : L.ok) (me : Int) (ht : 0 ≤ me ∧ me ≤ 61) (k a bb ty ms mk ma : Int) (wa da : Option Addr) (wl wc dl dc : Nat) (sa : Option Addr) (sl sc : Nat) (b o : Nat) (Q : List (Int × Int × Int)) (hQ : Q.length = sl) (hsa : sl = 0 ∨ sa = some ⟨b, o, none⟩) (hsl : sl ≤ 1000000) (hsg : ¬ (rfSeen b o Q).bl g) (hlo3 : w0.heap.size ≤ B3) (hn3 : B0 ≠ B3 ∧ B1 ≠ B3 ∧ B2 ≠ B3) (is : Bool) (x : CSt) (aa : Act) (w : World) (S : Sy w0 none [B0, B1, B2] (rnI L me k a bb ty ms mk ma wa da wl wc dl dc sa sl sc g B3 is) [rfCurE g B0 B1 B2 (x), rfBox B3 56 [.int .i64 0, .int .i64 0, .int .i64 0, .int .i64 0, .bool false, .bool false, .int .i64 0], rfSeen b o Q] aa w) : post Try.prog rk32 (bodyPost Try.prog Try.f12 (fun e w' => e = .returned (nextV (toldX ({ ok := is }, x))) ∧ Below w0.heap.size w0 w')) .normal aa w := by
  obtain ⟨l, q⟩ := x
  cases q with
  | none =>
    have hC := (S.fact (f := rfCurE g B0 B1 B2 (l, none)) (by simp)).1
    have hb3 := S.fact (f := rfBox B3 56 [.int .i64 0, .int .i64 0, .int .i64 0, .int .i64 0, .bool false, .bool false, .int .i64 0]) (by simp)
    refine sy_reown (c := ⟨rk32, rnI L me k a bb ty ms mk ma wa da wl wc dl dc sa sl sc g B3 is⟩) 9 B3 S (by kernel_rfl) hb3 hlo3 (by
      intro i hi
      match i, hi with
      | 0, _ => exact hn3.1
      | 1, _ => exact hn3.2.1
      | 2, _ => exact hn3.2.2) fun S => ?_
    refine sy_quiet (O := ⟨0, []⟩) 40 S fun aa S => ?_
    refine sy_call1 S (rtold_any w g (l, none) { ok := is } hC : Calls Try.prog 48 #[.pointer (some ⟨g, 0, none⟩), OutD.v { ok := is }] w fun e w' => e = .returned (nextV (toldX ({ ok := is }, (l, none)))) ∧ Below w.heap.size w w') (by kernel_rfl) fun aa w hb S => ?_
    refine sy_run ⟨0, []⟩ 80 S fun bs aa w S => ?_
    exact sy_ret S (by kernel_rfl) (by kernel_rfl) fun hg => ⟨rfl, below_of_gr hg⟩
  | some q =>
    have hC := (S.fact (f := rfCurE g B0 B1 B2 (l, some q)) (by simp)).1
    have hb3 := S.fact (f := rfBox B3 56 [.int .i64 0, .int .i64 0, .int .i64 0, .int .i64 0, .bool false, .bool false, .int .i64 0]) (by simp)
    refine sy_reown (c := ⟨rk32, rnI L me k a bb ty ms mk ma wa da wl wc dl dc sa sl sc g B3 is⟩) 9 B3 S (by kernel_rfl) hb3 hlo3 (by
      intro i hi
      match i, hi with
      | 0, _ => exact hn3.1
      | 1, _ => exact hn3.2.1
      | 2, _ => exact hn3.2.2) fun S => ?_
    refine sy_quiet (O := ⟨0, []⟩) 40 S fun aa S => ?_
    refine sy_call1 S (rtold_any w g (l, some q) { ok := is } hC : Calls Try.prog 48 #[.pointer (some ⟨g, 0, none⟩), OutD.v { ok := is }] w fun e w' => e = .returned (nextV (toldX ({ ok := is }, (l, some q)))) ∧ Below w.heap.size w w') (by kernel_rfl) fun aa w hb S => ?_
    refine sy_run ⟨0, []⟩ 80 S fun bs aa w S => ?_
    exact sy_ret S (by kernel_rfl) (by kernel_rfl) fun hg => ⟨rfl, below_of_gr hg⟩
set_option maxHeartbeats 8000000 in
theorem r_24 (w0 : World) (g B0 B1 B2 B3 : Nat) (hg : w0.heap.size ≤ g) (h3 : B3 ≠ g) (L : Ly) (hok : L.ok) (me : Int) (ht : 0 ≤ me ∧ me ≤ 61) (k a bb ty ms mk ma : Int) (wa da : Option Addr) (wl wc dl dc : Nat) (sa : Option Addr) (sl sc : Nat) (b o : Nat) (Q : List (Int × Int × Int)) (hQ : Q.length = sl) (hsa : sl = 0 ∨ sa = some ⟨b, o, none⟩) (hsl : sl ≤ 1000000) (hsg : ¬ (rfSeen b o Q).bl g) (hlo3 : w0.heap.size ≤ B3) (hn3 : B0 ≠ B3 ∧ B1 ≠ B3 ∧ B2 ≠ B3) (out : Bool) (x : CSt) (hI : x.2 = none → ∀ y ∈ x.1, I64 y.1) (aa : Act) (w : World) (S : Sy w0 none [B0, B1, B2] (rnG L me k a bb ty ms mk ma wa da wl wc dl dc sa sl sc g B3 out) [rfCurE g B0 B1 B2 (x), rfBox B3 56 [.int .i64 0, .int .i64 0, .int .i64 0, .int .i64 0, .bool false, .bool false, .int .i64 0], rfSeen b o Q] aa w) : post Try.prog rk24 (bodyPost Try.prog Try.f12 (fun e w' => e = .returned (nextV (toldX ({ ok := !out }, last4 L me Q out x))) ∧ Below w0.heap.size w0 w')) .normal aa w := by
  refine sy_run (c := ⟨rk24, rnG L me k a bb ty ms mk ma wa da wl wc dl dc sa sl sc g B3 out⟩) ⟨0, []⟩ 60 S fun bs aa w S => ?_
  have S' : Sy w0 none [B0, B1, B2] (rnH L me k a bb ty ms mk ma wa da wl wc dl dc sa sl sc g B3 0 out (!out)) _ aa w := S.to [0, 1, 2] (rnH L me k a bb ty ms mk ma wa da wl wc dl dc sa sl sc g B3 0 out (!out)) (by kernel_rfl) (by kernel_rfl) (by kernel_rfl) (by kernel_rfl) (by kernel_rfl)
  refine sy_loop (sl + 1) (by kernel_rfl) ?_
  refine post_at (k' := (.rnd (sl + 1) (bodyL rl4) :: rl4.k.tail)) (by kernel_rfl) ?_
  exact r4_any w0 g B0 B1 B2 B3 hg h3 L hok me ht k a bb ty ms mk ma wa da wl wc dl dc sa sl sc b o Q hQ hsa hsl hsg out (!out) x hI (fun aa w S => r_fin w0 g B0 B1 B2 B3 hg h3 L hok me ht k a bb ty ms mk ma wa da wl wc dl dc sa sl sc b o Q hQ hsa hsl hsg hlo3 hn3 (!out) _ aa w S) aa w S'
set_option maxHeartbeats 8000000 in
theorem r_18 (w0 : World) (g B0 B1 B2 B3 : Nat) (hg : w0.heap.size ≤ g) (h3 : B3 ≠ g) (L : Ly) (hok : L.ok) (me : Int) (ht : 0 ≤ me ∧ me ≤ 61) (k a bb ty ms mk ma : Int) (wa da : Option Addr) (wl wc dl dc : Nat) (sa : Option Addr) (sl sc : Nat) (b o : Nat) (Q : List (Int × Int × Int)) (hQ : Q.length = sl) (hsa : sl = 0 ∨ sa = some ⟨b, o, none⟩) (hsl : sl ≤ 1000000) (hsg : ¬ (rfSeen b o Q).bl g) (hlo3 : w0.heap.size ≤ B3) (hn3 : B0 ≠ B3 ∧ B1 ≠ B3 ∧ B2 ≠ B3) (x : CSt) (hI : x.2 = none → ∀ y ∈ x.1, I64 y.1) (hI2 : (look3 L Q false x).2.2 = none → ∀ y ∈ (look3 L Q false x).2.1, I64 y.1) (aa : Act) (w : World) (S : Sy w0 none [B0, B1, B2] (rnE L me k a bb ty ms mk ma wa da wl wc dl dc sa sl sc g B3) [rfCurE g B0 B1 B2 (x), rfBox B3 56 [.int .i64 0, .int .i64 0, .int .i64 0, .int .i64 0, .bool false, .bool false, .int .i64 0], rfSeen b o Q] aa w) : post Try.prog rk18 (bodyPost Try.prog Try.f12 (fun e w' => e = .returned (nextV (toldX ({ ok := !(look3 L Q false x).1 }, last4 L me Q (look3 L Q false x).1 (look3 L Q false x).2))) ∧ Below w0.heap.size w0 w')) .normal aa w := by
  refine sy_run (c := ⟨rk18, rnE L me k a bb ty ms mk ma wa da wl wc dl dc sa sl sc g B3⟩) ⟨0, []⟩ 60 S fun bs aa w S => ?_
  have S' : Sy w0 none [B0, B1, B2] (rnF L me k a bb ty ms mk ma wa da wl wc dl dc sa sl sc g B3 0 false) _ aa w := S.to [0, 1, 2] (rnF L me k a bb ty ms mk ma wa da wl wc dl dc sa sl sc g B3 0 false) (by kernel_rfl) (by kernel_rfl) (by kernel_rfl) (by kernel_rfl) (by kernel_rfl)
  refine sy_loop (sl + 1) (by kernel_rfl) ?_
  refine post_at (k' := (.rnd (sl + 1) (bodyL rl3) :: rl3.k.tail)) (by kernel_rfl) ?_
  exact r3_all w0 g B0 B1 B2 B3 hg h3 L hok me ht k a bb ty ms mk ma wa da wl wc dl dc sa sl sc b o Q hQ hsa hsl hsg sl 0 (by omega) false x hI (fun aa w S => r_24 w0 g B0 B1 B2 B3 hg h3 L hok me ht k a bb ty ms mk ma wa da wl wc dl dc sa sl sc b o Q hQ hsa hsl hsg hlo3 hn3 _ _ hI2 aa w S) aa w S'
theorem lookS_rest (L : Ly) : ∀ (Q : List (Int × Int × Int)) (l : List (Int × Bool)), ∀ y ∈ (lookS L Q l).2.1, y ∈ l
  | [], l, y, h => h
  | s :: Q, [], y, h => h
  | s :: Q, r :: l, y, h => by
    unfold lookS at h
    by_cases hr : r.1 = wrap64 (2 * s.2.1)
    · rw [if_pos hr] at h; exact List.mem_cons_of_mem _ (lookS_rest L Q l y h)
    · rw [if_neg hr] at h; exact List.mem_cons_of_mem _ h
def allR (L : Ly) (me : Int) (Q : List (Int × Int × Int)) (x : CSt) : Ask ⊕ OutD := toldX ({ ok := !(look3 L Q false (markC L me 3 Q x)).1 }, last4 L me Q (look3 L Q false (markC L me 3 Q x)).1 (look3 L Q false (markC L me 3 Q x)).2)
theorem allR_stop (L : Ly) (me : Int) (Q : List (Int × Int × Int)) (l : List (Int × Bool)) (q : Ask) : allR L me Q (l, some q) = .inl q := by
  unfold allR
  rw [show markC L me 3 Q (l, some q) = (l, some q) from rfl, look3_stop]
  rfl
theorem allR_go (L : Ly) (me : Int) (Q : List (Int × Int × Int)) (r : Int × Bool) (l : List (Int × Bool)) : allR L me Q (l, none) = toldX (watchS L me Q (r :: l)) := by
  unfold allR
  rw [watchS_cons, show markC L me 3 Q (l, none) = markS L me 3 Q l from rfl]
  obtain ⟨⟨l1, q1⟩, hX⟩ : ∃ X, markS L me 3 Q l = X := ⟨_, rfl⟩
  rw [hX]
  cases q1 with
  | some q => rw [look3_stop]; rfl
  | none =>
    obtain ⟨h1, h2⟩ := look3_is L Q l1
    obtain ⟨⟨o3, x3⟩, hY⟩ : ∃ X, look3 L Q false (l1, none) = X := ⟨_, rfl⟩
    obtain ⟨⟨o4, l4, q4⟩, hZ⟩ : ∃ X, lookS L Q l1 = X := ⟨_, rfl⟩
    rw [hY, hZ] at h1 h2
    simp only at h1 h2
    subst h1
    rw [hY]
    simp only [hZ]
    cases q4 with
    | some q =>
      have : last4 L me Q o3 (l4, some q) = (l4, some q) := by unfold last4; cases o3 <;> rfl
      rw [this]
      cases o4 <;> rfl
    | none =>
      have := h2 rfl
      subst this
      cases o4 with
      | true => rfl
      | false => rfl
set_option maxHeartbeats 8000000 in
theorem r9_5 (w0 : World) (g B0 B1 B2 B3 : Nat) (hg : w0.heap.size ≤ g) (h3 : B3 ≠ g) (L : Ly) (hok : L.ok) (me : Int) (ht : 0 ≤ me ∧ me ≤ 61) (a bb ty ms mk ma : Int) (wa da : Option Addr) (wl wc dl dc : Nat) (sa : Option Addr) (sl sc : Nat) (b o : Nat) (Q : List (Int × Int × Int)) (hQ : Q.length = sl) (hsa : sl = 0 ∨ sa = some ⟨b, o, none⟩) (hsl : sl ≤ 1000000) (hsg : ¬ (rfSeen b o Q).bl g) (hlo3 : w0.heap.size ≤ B3) (hn3 : B0 ≠ B3 ∧ B1 ≠ B3 ∧ B2 ≠ B3) (l : List (Int × Bool)) (hI : ∀ x ∈ l, I64 x.1) (aa : Act) (w : World) (S : Sy w0 none [B0, B1, B2] (rnC L me 5 a bb ty ms mk ma wa da wl wc dl dc sa sl sc g B3) [rfCurE g B0 B1 B2 (l, none), rfBox B3 56 [.int .i64 0, .int .i64 0, .int .i64 0, .int .i64 0, .bool false, .bool false, .int .i64 0], rfSeen b o Q] aa w) : post Try.prog rk9 (bodyPost Try.prog Try.f12 (fun e w' => e = .returned (nextV (toldX (watchS L me Q l))) ∧ Below w0.heap.size w0 w')) .normal aa w := by
  refine sy_run (c := ⟨rk9, rnC L me 5 a bb ty ms mk ma wa da wl wc dl dc sa sl sc g B3⟩) ⟨0, []⟩ 60 S fun bs aa w S => ?_
  refine sy_call1 S (rwake_any L me w hok) (by kernel_rfl) fun aa w hb S => ?_
  refine sy_run ⟨0, []⟩ 80 S fun bs aa w S => ?_
  have hx : ∀ x : CSt, (x.2 = none → ∀ y ∈ x.1, I64 y.1) → ∀ (aa : Act) (w : World), Sy w0 none [B0, B1, B2] (rnD L me 5 a bb ty ms mk ma wa da wl wc dl dc sa sl sc g B3 0) [rfCurE g B0 B1 B2 (x), rfBox B3 56 [.int .i64 0, .int .i64 0, .int .i64 0, .int .i64 0, .bool false, .bool false, .int .i64 0], rfSeen b o Q] aa w → post Try.prog (.rnd (sl + 1) (bodyL rl2) :: rl2.k.tail) (bodyPost Try.prog Try.f12 (fun e w' => e = .returned (nextV (allR L me Q x)) ∧ Below w0.heap.size w0 w')) .normal aa w := fun x hI aa w S => by
    have h18 : ∀ aa w, Sy w0 none [B0, B1, B2] (rnE L me 5 a bb ty ms mk ma wa da wl wc dl dc sa sl sc g B3) [rfCurE g B0 B1 B2 (markC L me 3 Q x), rfBox B3 56 [.int .i64 0, .int .i64 0, .int .i64 0, .int .i64 0, .bool false, .bool false, .int .i64 0], rfSeen b o Q] aa w → post Try.prog rk18 (bodyPost Try.prog Try.f12 (fun e w' => e = .returned (nextV (allR L me Q x)) ∧ Below w0.heap.size w0 w')) .normal aa w := fun aa w S => by
      have hm : (markC L me 3 Q x).2 = none → ∀ y ∈ (markC L me 3 Q x).1, I64 y.1 := fun he y hy => by
        obtain ⟨l, oq⟩ := x
        cases oq with
        | some q => cases he
        | none => exact hI rfl y ((markS_rest (L := L) (me := me) (kk := 3) Q l).1 y hy)
      refine r_18 w0 g B0 B1 B2 B3 hg h3 L hok me ht 5 a bb ty ms mk ma wa da wl wc dl dc sa sl sc b o Q hQ hsa hsl hsg hlo3 hn3 _ hm (fun he y hy => ?_) aa w S
      obtain ⟨⟨l1, q1⟩, hX⟩ : ∃ X, markC L me 3 Q x = X := ⟨_, rfl⟩
      rw [hX] at hm he hy
      cases q1 with
      | some q => rw [look3_stop] at he; cases he
      | none =>
        rw [(look3_is L Q l1).1] at hy
        exact hm rfl y (lookS_rest L Q l1 y hy)
    exact r2_all w0 g B0 B1 B2 B3 hg h3 L hok me ht 5 a bb ty ms mk ma wa da wl wc dl dc sa sl sc b o Q hQ hsa hsl hsg sl 0 (by omega) x hI h18 aa w S
  rcases l with _ | ⟨r, l⟩
  · have e : toldX (watchS L me Q []) = allR L me Q ([], some ⟨2, atWake L me, 0, 0⟩) := by rw [allR_stop]; rfl
    rw [e]
    refine sy_curE (x := ([], none)) (x' := ([], some ⟨2, atWake L me, 0, 0⟩)) (v := .tuple #[]) (k0 := ⟨42, [.int .i64 L.c.t, .int .i64 L.c.l, .int .i64 L.c.k, .int .i64 L.c.s, .int .i64 L.c.m, .int .i64 L.clock, .int .i64 L.stamps, .int .i64 L.log, .int .i64 L.fin, .int .i64 L.thread, .int .i64 L.lock, .int .i64 L.loc, .int .i64 L.size]⟩) (k1 := ⟨48, [.int .i64 5, .int .i64 a, .int .i64 bb, .int .i64 ty, .int .i64 ms, .int .i64 mk, .int .i64 ma, .slice sa sl sc, .slice wa wl wc, .slice da dl dc]⟩) (k2 := ⟨53, [.int .i64 0, .int .i64 0, .int .i64 0, .int .i64 0, .string ⟨#[]⟩]⟩) S (Or.inr hg) (rstore_any02 w g ([], none) (atWake L me) 0 (S.fact (f := rfCurE g B0 B1 B2 ([], none)) (by simp)).1) (by kernel_rfl) (by intro f hf; simp only [List.mem_cons, List.not_mem_nil, or_false] at hf; rcases hf with rfl | rfl; exact fun h => h3 h.symm; exact hsg) rfl rfl rfl (by kernel_rfl) (by kernel_rfl) (by kernel_rfl) (by simp) (by simp) (by simp) fun aa w S => ?_
    refine sy_run ⟨0, []⟩ 80 S fun bs aa w S => ?_
    have S' : Sy w0 none [B0, B1, B2] (rnD L me 5 a bb ty ms mk ma wa da wl wc dl dc sa sl sc g B3 0) _ aa w := S.to [0, 1, 2] (rnD L me 5 a bb ty ms mk ma wa da wl wc dl dc sa sl sc g B3 0) (by kernel_rfl) (by kernel_rfl) (by kernel_rfl) (by kernel_rfl) (by kernel_rfl)
    refine sy_loop (sl + 1) (by kernel_rfl) ?_
    refine post_at (k' := (.rnd (sl + 1) (bodyL rl2) :: rl2.k.tail)) (by kernel_rfl) ?_
    exact hx _ (fun h => by cases h) aa w S'
  · rw [← allR_go L me Q r l]
    refine sy_curE (x := (r :: l, none)) (x' := (l, none)) (v := .tuple #[]) (k0 := ⟨42, [.int .i64 L.c.t, .int .i64 L.c.l, .int .i64 L.c.k, .int .i64 L.c.s, .int .i64 L.c.m, .int .i64 L.clock, .int .i64 L.stamps, .int .i64 L.log, .int .i64 L.fin, .int .i64 L.thread, .int .i64 L.lock, .int .i64 L.loc, .int .i64 L.size]⟩) (k1 := ⟨48, [.int .i64 5, .int .i64 a, .int .i64 bb, .int .i64 ty, .int .i64 ms, .int .i64 mk, .int .i64 ma, .slice sa sl sc, .slice wa wl wc, .slice da dl dc]⟩) (k2 := ⟨53, [.int .i64 0, .int .i64 0, .int .i64 0, .int .i64 0, .string ⟨#[]⟩]⟩) S (Or.inr hg) (rstore_any02 w g (r :: l, none) (atWake L me) 0 (S.fact (f := rfCurE g B0 B1 B2 (r :: l, none)) (by simp)).1) (by kernel_rfl) (by intro f hf; simp only [List.mem_cons, List.not_mem_nil, or_false] at hf; rcases hf with rfl | rfl; exact fun h => h3 h.symm; exact hsg) rfl rfl rfl (by kernel_rfl) (by kernel_rfl) (by kernel_rfl) (by simp) (by simp) (by simp) fun aa w S => ?_
    refine sy_run ⟨0, []⟩ 80 S fun bs aa w S => ?_
    have S' : Sy w0 none [B0, B1, B2] (rnD L me 5 a bb ty ms mk ma wa da wl wc dl dc sa sl sc g B3 0) _ aa w := S.to [0, 1, 2] (rnD L me 5 a bb ty ms mk ma wa da wl wc dl dc sa sl sc g B3 0) (by kernel_rfl) (by kernel_rfl) (by kernel_rfl) (by kernel_rfl) (by kernel_rfl)
    refine sy_loop (sl + 1) (by kernel_rfl) ?_
    refine post_at (k' := (.rnd (sl + 1) (bodyL rl2) :: rl2.k.tail)) (by kernel_rfl) ?_
    exact hx _ (fun _ y hy => hI y (by simp [show y ∈ l from hy])) aa w S'
set_option maxHeartbeats 8000000 in
theorem r9_60 (w0 : World) (g B0 B1 B2 B3 : Nat) (hg : w0.heap.size ≤ g) (h3 : B3 ≠ g) (L : Ly) (hok : L.ok) (me : Int) (ht : 0 ≤ me ∧ me ≤ 61) (a bb ty ms mk ma : Int) (wa da : Option Addr) (wl wc dl dc : Nat) (sa : Option Addr) (sl sc : Nat) (b o : Nat) (Q : List (Int × Int × Int)) (hQ : Q.length = sl) (hsa : sl = 0 ∨ sa = some ⟨b, o, none⟩) (hsl : sl ≤ 1000000) (hsg : ¬ (rfSeen b o Q).bl g) (hlo3 : w0.heap.size ≤ B3) (hn3 : B0 ≠ B3 ∧ B1 ≠ B3 ∧ B2 ≠ B3)  (aa : Act) (w : World) (S : Sy w0 none [B0, B1, B2] (rnC L me 6 a bb ty ms mk ma wa da wl wc dl dc sa sl sc g B3) [rfCurE g B0 B1 B2 ([], none), rfBox B3 56 [.int .i64 0, .int .i64 0, .int .i64 0, .int .i64 0, .bool false, .bool false, .int .i64 0], rfSeen b o Q] aa w) : post Try.prog rk9 (bodyPost Try.prog Try.f12 (fun e w' => e = .returned (nextV (toldX ({ ok := false }, last4 L me Q false ([], some ⟨1, atWake L me, 0, 0⟩)))) ∧ Below w0.heap.size w0 w')) .normal aa w := by
  refine sy_run (c := ⟨rk9, rnC L me 6 a bb ty ms mk ma wa da wl wc dl dc sa sl sc g B3⟩) ⟨0, []⟩ 60 S fun bs aa w S => ?_
  refine sy_call1 S (rwake_any L me w hok) (by kernel_rfl) fun aa w hb S => ?_
  refine sy_run ⟨0, []⟩ 80 S fun bs aa w S => ?_
  refine sy_curE (x := ([], none)) (x' := ([], some ⟨1, atWake L me, 0, 0⟩)) (v := .int .i64 (0 : Int)) (k0 := ⟨42, [.int .i64 L.c.t, .int .i64 L.c.l, .int .i64 L.c.k, .int .i64 L.c.s, .int .i64 L.c.m, .int .i64 L.clock, .int .i64 L.stamps, .int .i64 L.log, .int .i64 L.fin, .int .i64 L.thread, .int .i64 L.lock, .int .i64 L.loc, .int .i64 L.size]⟩) (k1 := ⟨48, [.int .i64 6, .int .i64 a, .int .i64 bb, .int .i64 ty, .int .i64 ms, .int .i64 mk, .int .i64 ma, .slice sa sl sc, .slice wa wl wc, .slice da dl dc]⟩) (k2 := ⟨53, [.int .i64 0, .int .i64 0, .int .i64 0, .int .i64 0, .string ⟨#[]⟩]⟩) S (Or.inr hg) (rload_any02 w g ([], none) (atWake L me) (S.fact (f := rfCurE g B0 B1 B2 ([], none)) (by simp)).1) (by kernel_rfl) (by intro f hf; simp only [List.mem_cons, List.not_mem_nil, or_false] at hf; rcases hf with rfl | rfl; exact fun h => h3 h.symm; exact hsg) rfl rfl rfl (by kernel_rfl) (by kernel_rfl) (by kernel_rfl) (by simp) (by simp) (by simp) fun aa w S => ?_
  refine sy_run ⟨0, [26]⟩ 80 S fun bs aa w S => ?_
  refine sy_reg S fun S => ?_
  refine sy_ops 2 S fun bs aa w S => ?_
  refine sy_cast 140 S (congrArg Value.bool (by decide : (!decide ((0 : Int) = 0)) = false)) (by kernel_rfl) fun S => ?_
  refine sy_run ⟨0, []⟩ 80 S fun bs aa w S => ?_
  have S' : Sy w0 none [B0, B1, B2] (rnH L me 6 a bb ty ms mk ma wa da wl wc dl dc sa sl sc g B3 0 false false) _ aa w := S.to [0, 1, 2] (rnH L me 6 a bb ty ms mk ma wa da wl wc dl dc sa sl sc g B3 0 false false) (by kernel_rfl) (by kernel_rfl) (by kernel_rfl) (by kernel_rfl) (by kernel_rfl)
  refine sy_loop (sl + 1) (by kernel_rfl) ?_
  refine post_at (k' := (.rnd (sl + 1) (bodyL rl4) :: rl4.k.tail)) (by kernel_rfl) ?_
  exact r4_any w0 g B0 B1 B2 B3 hg h3 L hok me ht 6 a bb ty ms mk ma wa da wl wc dl dc sa sl sc b o Q hQ hsa hsl hsg false false ([], some ⟨1, atWake L me, 0, 0⟩) (fun h => by cases h) (fun aa w S => r_fin w0 g B0 B1 B2 B3 hg h3 L hok me ht 6 a bb ty ms mk ma wa da wl wc dl dc sa sl sc b o Q hQ hsa hsl hsg hlo3 hn3 false _ aa w S) aa w S'
set_option maxHeartbeats 8000000 in
theorem r9_6f (w0 : World) (g B0 B1 B2 B3 : Nat) (hg : w0.heap.size ≤ g) (h3 : B3 ≠ g) (L : Ly) (hok : L.ok) (me : Int) (ht : 0 ≤ me ∧ me ≤ 61) (a bb ty ms mk ma : Int) (wa da : Option Addr) (wl wc dl dc : Nat) (sa : Option Addr) (sl sc : Nat) (b o : Nat) (Q : List (Int × Int × Int)) (hQ : Q.length = sl) (hsa : sl = 0 ∨ sa = some ⟨b, o, none⟩) (hsl : sl ≤ 1000000) (hsg : ¬ (rfSeen b o Q).bl g) (hlo3 : w0.heap.size ≤ B3) (hn3 : B0 ≠ B3 ∧ B1 ≠ B3 ∧ B2 ≠ B3) (r : Int × Bool) (l : List (Int × Bool)) (hI : ∀ x ∈ r :: l, I64 x.1) (h : r.1 = 0) (aa : Act) (w : World) (S : Sy w0 none [B0, B1, B2] (rnC L me 6 a bb ty ms mk ma wa da wl wc dl dc sa sl sc g B3) [rfCurE g B0 B1 B2 (r :: l, none), rfBox B3 56 [.int .i64 0, .int .i64 0, .int .i64 0, .int .i64 0, .bool false, .bool false, .int .i64 0], rfSeen b o Q] aa w) : post Try.prog rk9 (bodyPost Try.prog Try.f12 (fun e w' => e = .returned (nextV (toldX ({ ok := false }, last4 L me Q false (l, none)))) ∧ Below w0.heap.size w0 w')) .normal aa w := by
  refine sy_run (c := ⟨rk9, rnC L me 6 a bb ty ms mk ma wa da wl wc dl dc sa sl sc g B3⟩) ⟨0, []⟩ 60 S fun bs aa w S => ?_
  refine sy_call1 S (rwake_any L me w hok) (by kernel_rfl) fun aa w hb S => ?_
  refine sy_run ⟨0, []⟩ 80 S fun bs aa w S => ?_
  refine sy_curE (x := (r :: l, none)) (x' := (l, none)) (v := .int .i64 r.1) (k0 := ⟨42, [.int .i64 L.c.t, .int .i64 L.c.l, .int .i64 L.c.k, .int .i64 L.c.s, .int .i64 L.c.m, .int .i64 L.clock, .int .i64 L.stamps, .int .i64 L.log, .int .i64 L.fin, .int .i64 L.thread, .int .i64 L.lock, .int .i64 L.loc, .int .i64 L.size]⟩) (k1 := ⟨48, [.int .i64 6, .int .i64 a, .int .i64 bb, .int .i64 ty, .int .i64 ms, .int .i64 mk, .int .i64 ma, .slice sa sl sc, .slice wa wl wc, .slice da dl dc]⟩) (k2 := ⟨53, [.int .i64 0, .int .i64 0, .int .i64 0, .int .i64 0, .string ⟨#[]⟩]⟩) S (Or.inr hg) (rload_any02 w g (r :: l, none) (atWake L me) (S.fact (f := rfCurE g B0 B1 B2 (r :: l, none)) (by simp)).1) (by kernel_rfl) (by intro f hf; simp only [List.mem_cons, List.not_mem_nil, or_false] at hf; rcases hf with rfl | rfl; exact fun h => h3 h.symm; exact hsg) rfl rfl rfl (by kernel_rfl) (by kernel_rfl) (by kernel_rfl) (by simp) (by simp) (by simp) fun aa w S => ?_
  refine sy_run ⟨0, [26]⟩ 80 S fun bs aa w S => ?_
  refine sy_reg S fun S => ?_
  refine sy_ops 2 S fun bs aa w S => ?_
  refine sy_cast 140 S (congrArg Value.bool (by simp [h] : (!decide (r.1 = 0)) = false)) (by kernel_rfl) fun S => ?_
  refine sy_run ⟨0, []⟩ 80 S fun bs aa w S => ?_
  have S' : Sy w0 none [B0, B1, B2] (rnH L me 6 a bb ty ms mk ma wa da wl wc dl dc sa sl sc g B3 0 false false) _ aa w := S.to [0, 1, 2] (rnH L me 6 a bb ty ms mk ma wa da wl wc dl dc sa sl sc g B3 0 false false) (by kernel_rfl) (by kernel_rfl) (by kernel_rfl) (by kernel_rfl) (by kernel_rfl)
  refine sy_loop (sl + 1) (by kernel_rfl) ?_
  refine post_at (k' := (.rnd (sl + 1) (bodyL rl4) :: rl4.k.tail)) (by kernel_rfl) ?_
  exact r4_any w0 g B0 B1 B2 B3 hg h3 L hok me ht 6 a bb ty ms mk ma wa da wl wc dl dc sa sl sc b o Q hQ hsa hsl hsg false false (l, none) (fun _ y hy => hI y (by simp [show y ∈ l from hy])) (fun aa w S => r_fin w0 g B0 B1 B2 B3 hg h3 L hok me ht 6 a bb ty ms mk ma wa da wl wc dl dc sa sl sc b o Q hQ hsa hsl hsg hlo3 hn3 false _ aa w S) aa w S'
set_option maxHeartbeats 8000000 in
theorem r9_6t (w0 : World) (g B0 B1 B2 B3 : Nat) (hg : w0.heap.size ≤ g) (h3 : B3 ≠ g) (L : Ly) (hok : L.ok) (me : Int) (ht : 0 ≤ me ∧ me ≤ 61) (a bb ty ms mk ma : Int) (wa da : Option Addr) (wl wc dl dc : Nat) (sa : Option Addr) (sl sc : Nat) (b o : Nat) (Q : List (Int × Int × Int)) (hQ : Q.length = sl) (hsa : sl = 0 ∨ sa = some ⟨b, o, none⟩) (hsl : sl ≤ 1000000) (hsg : ¬ (rfSeen b o Q).bl g) (hlo3 : w0.heap.size ≤ B3) (hn3 : B0 ≠ B3 ∧ B1 ≠ B3 ∧ B2 ≠ B3) (r : Int × Bool) (l : List (Int × Bool)) (hI : ∀ x ∈ r :: l, I64 x.1) (h : ¬ r.1 = 0) (aa : Act) (w : World) (S : Sy w0 none [B0, B1, B2] (rnC L me 6 a bb ty ms mk ma wa da wl wc dl dc sa sl sc g B3) [rfCurE g B0 B1 B2 (r :: l, none), rfBox B3 56 [.int .i64 0, .int .i64 0, .int .i64 0, .int .i64 0, .bool false, .bool false, .int .i64 0], rfSeen b o Q] aa w) : post Try.prog rk9 (bodyPost Try.prog Try.f12 (fun e w' => e = .returned (nextV (toldX ({ ok := true }, last4 L me Q true (l, none)))) ∧ Below w0.heap.size w0 w')) .normal aa w := by
  refine sy_run (c := ⟨rk9, rnC L me 6 a bb ty ms mk ma wa da wl wc dl dc sa sl sc g B3⟩) ⟨0, []⟩ 60 S fun bs aa w S => ?_
  refine sy_call1 S (rwake_any L me w hok) (by kernel_rfl) fun aa w hb S => ?_
  refine sy_run ⟨0, []⟩ 80 S fun bs aa w S => ?_
  refine sy_curE (x := (r :: l, none)) (x' := (l, none)) (v := .int .i64 r.1) (k0 := ⟨42, [.int .i64 L.c.t, .int .i64 L.c.l, .int .i64 L.c.k, .int .i64 L.c.s, .int .i64 L.c.m, .int .i64 L.clock, .int .i64 L.stamps, .int .i64 L.log, .int .i64 L.fin, .int .i64 L.thread, .int .i64 L.lock, .int .i64 L.loc, .int .i64 L.size]⟩) (k1 := ⟨48, [.int .i64 6, .int .i64 a, .int .i64 bb, .int .i64 ty, .int .i64 ms, .int .i64 mk, .int .i64 ma, .slice sa sl sc, .slice wa wl wc, .slice da dl dc]⟩) (k2 := ⟨53, [.int .i64 0, .int .i64 0, .int .i64 0, .int .i64 0, .string ⟨#[]⟩]⟩) S (Or.inr hg) (rload_any02 w g (r :: l, none) (atWake L me) (S.fact (f := rfCurE g B0 B1 B2 (r :: l, none)) (by simp)).1) (by kernel_rfl) (by intro f hf; simp only [List.mem_cons, List.not_mem_nil, or_false] at hf; rcases hf with rfl | rfl; exact fun h => h3 h.symm; exact hsg) rfl rfl rfl (by kernel_rfl) (by kernel_rfl) (by kernel_rfl) (by simp) (by simp) (by simp) fun aa w S => ?_
  refine sy_run ⟨0, [26]⟩ 80 S fun bs aa w S => ?_
  refine sy_reg S fun S => ?_
  refine sy_ops 2 S fun bs aa w S => ?_
  refine sy_cast 140 S (congrArg Value.bool (by simp [h] : (!decide (r.1 = 0)) = true)) (by kernel_rfl) fun S => ?_
  refine sy_run ⟨0, []⟩ 80 S fun bs aa w S => ?_
  have S' : Sy w0 none [B0, B1, B2] (rnH L me 6 a bb ty ms mk ma wa da wl wc dl dc sa sl sc g B3 0 true true) _ aa w := S.to [0, 1, 2] (rnH L me 6 a bb ty ms mk ma wa da wl wc dl dc sa sl sc g B3 0 true true) (by kernel_rfl) (by kernel_rfl) (by kernel_rfl) (by kernel_rfl) (by kernel_rfl)
  refine sy_loop (sl + 1) (by kernel_rfl) ?_
  refine post_at (k' := (.rnd (sl + 1) (bodyL rl4) :: rl4.k.tail)) (by kernel_rfl) ?_
  exact r4_any w0 g B0 B1 B2 B3 hg h3 L hok me ht 6 a bb ty ms mk ma wa da wl wc dl dc sa sl sc b o Q hQ hsa hsl hsg true true (l, none) (fun _ y hy => hI y (by simp [show y ∈ l from hy])) (fun aa w S => r_fin w0 g B0 B1 B2 B3 hg h3 L hok me ht 6 a bb ty ms mk ma wa da wl wc dl dc sa sl sc b o Q hQ hsa hsl hsg hlo3 hn3 true _ aa w S) aa w S'
theorem r9_6 (w0 : World) (g B0 B1 B2 B3 : Nat) (hg : w0.heap.size ≤ g) (h3 : B3 ≠ g) (L : Ly) (hok : L.ok) (me : Int) (ht : 0 ≤ me ∧ me ≤ 61) (a bb ty ms mk ma : Int) (wa da : Option Addr) (wl wc dl dc : Nat) (sa : Option Addr) (sl sc : Nat) (b o : Nat) (Q : List (Int × Int × Int)) (hQ : Q.length = sl) (hsa : sl = 0 ∨ sa = some ⟨b, o, none⟩) (hsl : sl ≤ 1000000) (hsg : ¬ (rfSeen b o Q).bl g) (hlo3 : w0.heap.size ≤ B3) (hn3 : B0 ≠ B3 ∧ B1 ≠ B3 ∧ B2 ≠ B3) (l : List (Int × Bool)) (hI : ∀ x ∈ l, I64 x.1) (aa : Act) (w : World) (S : Sy w0 none [B0, B1, B2] (rnC L me 6 a bb ty ms mk ma wa da wl wc dl dc sa sl sc g B3) [rfCurE g B0 B1 B2 (l, none), rfBox B3 56 [.int .i64 0, .int .i64 0, .int .i64 0, .int .i64 0, .bool false, .bool false, .int .i64 0], rfSeen b o Q] aa w) : post Try.prog rk9 (bodyPost Try.prog Try.f12 (fun e w' => e = .returned (nextV (toldX (sleepS L me Q l))) ∧ Below w0.heap.size w0 w')) .normal aa w := by
  rcases l with _ | ⟨r, l⟩
  · exact r9_60 w0 g B0 B1 B2 B3 hg h3 L hok me ht a bb ty ms mk ma wa da wl wc dl dc sa sl sc b o Q hQ hsa hsl hsg hlo3 hn3 aa w S
  · by_cases h : r.1 = 0
    · rw [show sleepS L me Q (r :: l) = ({}, (l, none)) from if_pos h]
      exact r9_6f w0 g B0 B1 B2 B3 hg h3 L hok me ht a bb ty ms mk ma wa da wl wc dl dc sa sl sc b o Q hQ hsa hsl hsg hlo3 hn3 r l hI h aa w S
    · rw [show sleepS L me Q (r :: l) = ({ ok := true }, markS L me 4 Q l) from if_neg h]
      exact r9_6t w0 g B0 B1 B2 B3 hg h3 L hok me ht a bb ty ms mk ma wa da wl wc dl dc sa sl sc b o Q hQ hsa hsl hsg hlo3 hn3 r l hI h aa w S
set_option maxHeartbeats 8000000 in
theorem rn_no (w0 : World) (L : Ly) (hok : L.ok) (me : Int) (k a bb ty ms mk ma : Int) (wa da : Option Addr) (wl wc dl dc : Nat) (sa : Option Addr) (sl sc : Nat) (b o : Nat) (Q : List (Int × Int × Int)) (hQ : Q.length = sl) (hsa : sl = 0 ∨ sa = some ⟨b, o, none⟩) (hsl : sl ≤ 1000000) (la : Option Addr) (lc : Nat) (l : List (Int × Bool)) (hv : LogOf w0 (.slice la l.length lc) l) (hA : SeenAt w0 b o Q) (h5 : (!decide (k = 5)) = true) (h6 : (!decide (k = 6)) = true) : Calls Try.prog 12 #[L.v, .int .i64 me, .agg #[.int .i64 k, .int .i64 a, .int .i64 bb, .int .i64 ty, .int .i64 ms, .int .i64 mk, .int .i64 ma, .slice sa sl sc, .slice wa wl wc, .slice da dl dc], (.slice la l.length lc)] w0 fun e w' => e = .returned (nextV (.inr { err := 1 })) ∧ Below w0.heap.size w0 w' := by
  refine sy_enterF none [rfLog (.slice la l.length lc) l, rfSeen b o Q] (by
    intro f hf
    simp only [List.mem_cons, List.not_mem_nil, or_false] at hf
    rcases hf with rfl | rfl
    · exact hv
    · exact hA) Try.func12 rfl fun aa S => ?_
  refine sy_run ⟨0, [1]⟩ 80 S fun bs aa w S => ?_
  refine sy_reg S fun S => ?_
  refine sy_ops 3 S fun bs aa w S => ?_
  refine sy_cast 25 S (congrArg Value.bool h5) (by kernel_rfl) fun S => ?_
  refine sy_ops 4 S fun bs aa w S => ?_
  refine sy_cast 29 S (congrArg Value.bool h6) (by kernel_rfl) fun S => ?_
  refine sy_run ⟨0, []⟩ 80 S fun bs aa w S => ?_
  have S' := S.to [0, 1, 2, 3] (rnA L me k a bb ty ms mk ma wa da wl wc dl dc sa sl sc (.slice la l.length lc) 0 true) (by kernel_rfl) (by kernel_rfl) (by kernel_rfl) (by kernel_rfl) (by kernel_rfl)
  refine sy_loop (sl + 1) (by kernel_rfl) ?_
  refine post_at (k' := (.rnd (sl + 1) (bodyL rl1) :: rl1.k.tail)) (by kernel_rfl) ?_
  refine r1_all w0 L hok me k a bb ty ms mk ma wa da wl wc dl dc sa sl sc b o Q hQ hsa hsl (.slice la l.length lc) l sl 0 (by omega) true (fun bs aa w S => ?_) _ aa w S'
  rw [Bool.true_or] at S
  refine sy_run (c := ⟨rk6, rnB L me k a bb ty ms mk ma wa da wl wc dl dc sa sl sc (.slice la l.length lc) true⟩) ⟨0, []⟩ 60 S fun bs aa w S => ?_
  exact sy_ret S (by kernel_rfl) (by kernel_rfl) fun g => ⟨rfl, below_of_gr g⟩
set_option maxHeartbeats 8000000 in
theorem rn_5 (w0 : World) (L : Ly) (hok : L.ok) (me : Int) (a bb ty ms mk ma : Int) (wa da : Option Addr) (wl wc dl dc : Nat) (sa : Option Addr) (sl sc : Nat) (b o : Nat) (Q : List (Int × Int × Int)) (hQ : Q.length = sl) (hsa : sl = 0 ∨ sa = some ⟨b, o, none⟩) (hsl : sl ≤ 1000000) (la : Option Addr) (lc : Nat) (l : List (Int × Bool)) (hv : LogOf w0 (.slice la l.length lc) l) (hA : SeenAt w0 b o Q) (hl : l.length ≤ 1000000) (hI : ∀ x ∈ l, I64 x.1) (ht : (decide (atStatus L me < 0) || !allW L Q) = false → 0 ≤ me ∧ me ≤ 61) : Calls Try.prog 12 #[L.v, .int .i64 me, .agg #[.int .i64 5, .int .i64 a, .int .i64 bb, .int .i64 ty, .int .i64 ms, .int .i64 mk, .int .i64 ma, .slice sa sl sc, .slice wa wl wc, .slice da dl dc], (.slice la l.length lc)] w0 fun e w' => e = .returned (nextV (if (decide (atStatus L me < 0) || !allW L Q) = true then .inr { err := 1 } else toldX (watchS L me Q l))) ∧ Below w0.heap.size w0 w' := by
  refine sy_enterF none [rfLog (.slice la l.length lc) l, rfSeen b o Q] (by
    intro f hf
    simp only [List.mem_cons, List.not_mem_nil, or_false] at hf
    rcases hf with rfl | rfl
    · exact hv
    · exact hA) Try.func12 rfl fun aa S => ?_
  refine sy_run ⟨0, []⟩ 80 S fun bs aa w S => ?_
  refine sy_call1 S (rstatus_any L me w hok) (by kernel_rfl) fun aa w hb S => ?_
  refine sy_run ⟨0, []⟩ 80 S fun bs aa w S => ?_
  have S' := S.to [0, 1, 2, 3] (rnA L me 5 a bb ty ms mk ma wa da wl wc dl dc sa sl sc (.slice la l.length lc) 0 (decide (atStatus L me < 0))) (by kernel_rfl) (by kernel_rfl) (by kernel_rfl) (by kernel_rfl) (by kernel_rfl)
  refine sy_loop (sl + 1) (by kernel_rfl) ?_
  refine post_at (k' := (.rnd (sl + 1) (bodyL rl1) :: rl1.k.tail)) (by kernel_rfl) ?_
  refine r1_all w0 L hok me 5 a bb ty ms mk ma wa da wl wc dl dc sa sl sc b o Q hQ hsa hsl (.slice la l.length lc) l sl 0 (by omega) _ (fun bs aa w S => ?_) _ aa w S'
  rw [List.drop_zero] at S
  cases hB : (decide (atStatus L me < 0) || !allW L Q) with
  | true =>
    rw [hB] at S
    rw [if_pos rfl]
    refine sy_run (c := ⟨rk6, rnB L me 5 a bb ty ms mk ma wa da wl wc dl dc sa sl sc (.slice la l.length lc) true⟩) ⟨0, []⟩ 60 S fun bs aa w S => ?_
    exact sy_ret S (by kernel_rfl) (by kernel_rfl) fun g => ⟨rfl, below_of_gr g⟩
  | false =>
    have ht := ht hB
    rw [hB] at S
    rw [if_neg (by simp)]
    refine sy_run (c := ⟨rk6, rnB L me 5 a bb ty ms mk ma wa da wl wc dl dc sa sl sc (.slice la l.length lc) false⟩) ⟨0, [9]⟩ 60 S fun bs aa w S => ?_
    generalize hBS : (_ ++ bs : List Nat) = BS at S
    have hl5 : BS.length = 5 := S.bl.trans (by kernel_rfl)
    have hC0 := cur_box S 4 (by kernel_rfl) hv (S.fact (f := rfLog (.slice la l.length lc) l) (by simp)) hl
    have hE := curE_of (P := Try.prog) (k0 := ⟨42, [.int .i64 L.c.t, .int .i64 L.c.l, .int .i64 L.c.k, .int .i64 L.c.s, .int .i64 L.c.m, .int .i64 L.clock, .int .i64 L.stamps, .int .i64 L.log, .int .i64 L.fin, .int .i64 L.thread, .int .i64 L.lock, .int .i64 L.loc, .int .i64 L.size]⟩) (k1 := ⟨48, [.int .i64 5, .int .i64 a, .int .i64 bb, .int .i64 ty, .int .i64 ms, .int .i64 mk, .int .i64 ma, .slice sa sl sc, .slice wa wl wc, .slice da dl dc]⟩) (k2 := ⟨53, [.int .i64 0, .int .i64 0, .int .i64 0, .int .i64 0, .string ⟨#[]⟩]⟩) S hC0 rfl rfl rfl (by kernel_rfl) (by kernel_rfl) (by kernel_rfl) (by simp) (by simp) (by simp)
    have hb3 := S.bx 3 ⟨56, [.int .i64 0, .int .i64 0, .int .i64 0, .int .i64 0, .bool false, .bool false, .int .i64 0]⟩ (by kernel_rfl)
    have lo3 := S.lo0 3 (by omega)
    have lo4 := S.lo0 4 (by omega)
    have ne : ∀ i j, i < 5 → j < 5 → i ≠ j → BS.getD i 0 ≠ BS.getD j 0 := fun i j hi hj hne he => hne (S.nd i j (by omega) (by omega) he)
    refine sy_reify 13 4 0 S (by kernel_rfl) fun S => ?_
    refine sy_reify 9 3 0 S (by kernel_rfl) fun S => ?_
    have S1 : Sy w0 none [BS.getD 0 0, BS.getD 1 0, BS.getD 2 0] (rnC L me 5 a bb ty ms mk ma wa da wl wc dl dc sa sl sc (BS.getD 4 0) (BS.getD 3 0)) _ aa w := S.to [0, 1, 2] (rnC L me 5 a bb ty ms mk ma wa da wl wc dl dc sa sl sc (BS.getD 4 0) (BS.getD 3 0)) (by kernel_rfl) (by kernel_rfl) (by kernel_rfl) (by kernel_rfl) (by kernel_rfl)
    have S2 := S1.sub (F' := [rfSeen b o Q]) (by simp)
    have S3 := S2.add (rfBox (BS.getD 3 0) 56 [.int .i64 0, .int .i64 0, .int .i64 0, .int .i64 0, .bool false, .bool false, .int .i64 0]) hb3 (by
      intro i hi hbl
      have hbl : [BS.getD 0 0, BS.getD 1 0, BS.getD 2 0].getD i 0 = BS.getD 3 0 := hbl
      match i, hi with
      | 0, _ => exact ne 0 3 (by omega) (by omega) (by omega) hbl
      | 1, _ => exact ne 1 3 (by omega) (by omega) (by omega) hbl
      | 2, _ => exact ne 2 3 (by omega) (by omega) (by omega) hbl)
    have S4 := S3.add (rfCurE (BS.getD 4 0) (BS.getD 0 0) (BS.getD 1 0) (BS.getD 2 0) (l, none)) hE (by
      intro i hi hbl
      match i, hi with
      | 0, _ => exact hbl.elim (fun h => ne 0 4 (by omega) (by omega) (by omega) h) fun h => h.2.1 rfl
      | 1, _ => exact hbl.elim (fun h => ne 1 4 (by omega) (by omega) (by omega) h) fun h => h.2.2.1 rfl
      | 2, _ => exact hbl.elim (fun h => ne 2 4 (by omega) (by omega) (by omega) h) fun h => h.2.2.2 rfl)
    refine sy_at (k := rk9) (by kernel_rfl) ?_
    exact r9_5 w0 _ _ _ _ _ lo4 (ne 3 4 (by omega) (by omega) (by omega)) L hok me ht a bb ty ms mk ma wa da wl wc dl dc sa sl sc b o Q hQ hsa hsl (fun h => by
      have h1 : BS.getD 4 0 = b := h.1
      have := World.block_lt_of_cell? w0 _ (hA 0 (Nat.pos_of_ne_zero h.2)).1
      simp only at this
      omega) lo3 ⟨ne 0 3 (by omega) (by omega) (by omega), ne 1 3 (by omega) (by omega) (by omega), ne 2 3 (by omega) (by omega) (by omega)⟩ l hI aa w S4
set_option maxHeartbeats 8000000 in
theorem rn_6 (w0 : World) (L : Ly) (hok : L.ok) (me : Int) (a bb ty ms mk ma : Int) (wa da : Option Addr) (wl wc dl dc : Nat) (sa : Option Addr) (sl sc : Nat) (b o : Nat) (Q : List (Int × Int × Int)) (hQ : Q.length = sl) (hsa : sl = 0 ∨ sa = some ⟨b, o, none⟩) (hsl : sl ≤ 1000000) (la : Option Addr) (lc : Nat) (l : List (Int × Bool)) (hv : LogOf w0 (.slice la l.length lc) l) (hA : SeenAt w0 b o Q) (hl : l.length ≤ 1000000) (hI : ∀ x ∈ l, I64 x.1) (ht : (decide (atStatus L me < 0) || !allW L Q) = false → 0 ≤ me ∧ me ≤ 61) : Calls Try.prog 12 #[L.v, .int .i64 me, .agg #[.int .i64 6, .int .i64 a, .int .i64 bb, .int .i64 ty, .int .i64 ms, .int .i64 mk, .int .i64 ma, .slice sa sl sc, .slice wa wl wc, .slice da dl dc], (.slice la l.length lc)] w0 fun e w' => e = .returned (nextV (if (decide (atStatus L me < 0) || !allW L Q) = true then .inr { err := 1 } else toldX (sleepS L me Q l))) ∧ Below w0.heap.size w0 w' := by
  refine sy_enterF none [rfLog (.slice la l.length lc) l, rfSeen b o Q] (by
    intro f hf
    simp only [List.mem_cons, List.not_mem_nil, or_false] at hf
    rcases hf with rfl | rfl
    · exact hv
    · exact hA) Try.func12 rfl fun aa S => ?_
  refine sy_run ⟨0, []⟩ 80 S fun bs aa w S => ?_
  refine sy_call1 S (rstatus_any L me w hok) (by kernel_rfl) fun aa w hb S => ?_
  refine sy_run ⟨0, []⟩ 80 S fun bs aa w S => ?_
  have S' := S.to [0, 1, 2, 3] (rnA L me 6 a bb ty ms mk ma wa da wl wc dl dc sa sl sc (.slice la l.length lc) 0 (decide (atStatus L me < 0))) (by kernel_rfl) (by kernel_rfl) (by kernel_rfl) (by kernel_rfl) (by kernel_rfl)
  refine sy_loop (sl + 1) (by kernel_rfl) ?_
  refine post_at (k' := (.rnd (sl + 1) (bodyL rl1) :: rl1.k.tail)) (by kernel_rfl) ?_
  refine r1_all w0 L hok me 6 a bb ty ms mk ma wa da wl wc dl dc sa sl sc b o Q hQ hsa hsl (.slice la l.length lc) l sl 0 (by omega) _ (fun bs aa w S => ?_) _ aa w S'
  rw [List.drop_zero] at S
  cases hB : (decide (atStatus L me < 0) || !allW L Q) with
  | true =>
    rw [hB] at S
    rw [if_pos rfl]
    refine sy_run (c := ⟨rk6, rnB L me 6 a bb ty ms mk ma wa da wl wc dl dc sa sl sc (.slice la l.length lc) true⟩) ⟨0, []⟩ 60 S fun bs aa w S => ?_
    exact sy_ret S (by kernel_rfl) (by kernel_rfl) fun g => ⟨rfl, below_of_gr g⟩
  | false =>
    have ht := ht hB
    rw [hB] at S
    rw [if_neg (by simp)]
    refine sy_run (c := ⟨rk6, rnB L me 6 a bb ty ms mk ma wa da wl wc dl dc sa sl sc (.slice la l.length lc) false⟩) ⟨0, [9]⟩ 60 S fun bs aa w S => ?_
    generalize hBS : (_ ++ bs : List Nat) = BS at S
    have hl5 : BS.length = 5 := S.bl.trans (by kernel_rfl)
    have hC0 := cur_box S 4 (by kernel_rfl) hv (S.fact (f := rfLog (.slice la l.length lc) l) (by simp)) hl
    have hE := curE_of (P := Try.prog) (k0 := ⟨42, [.int .i64 L.c.t, .int .i64 L.c.l, .int .i64 L.c.k, .int .i64 L.c.s, .int .i64 L.c.m, .int .i64 L.clock, .int .i64 L.stamps, .int .i64 L.log, .int .i64 L.fin, .int .i64 L.thread, .int .i64 L.lock, .int .i64 L.loc, .int .i64 L.size]⟩) (k1 := ⟨48, [.int .i64 6, .int .i64 a, .int .i64 bb, .int .i64 ty, .int .i64 ms, .int .i64 mk, .int .i64 ma, .slice sa sl sc, .slice wa wl wc, .slice da dl dc]⟩) (k2 := ⟨53, [.int .i64 0, .int .i64 0, .int .i64 0, .int .i64 0, .string ⟨#[]⟩]⟩) S hC0 rfl rfl rfl (by kernel_rfl) (by kernel_rfl) (by kernel_rfl) (by simp) (by simp) (by simp)
    have hb3 := S.bx 3 ⟨56, [.int .i64 0, .int .i64 0, .int .i64 0, .int .i64 0, .bool false, .bool false, .int .i64 0]⟩ (by kernel_rfl)
    have lo3 := S.lo0 3 (by omega)
    have lo4 := S.lo0 4 (by omega)
    have ne : ∀ i j, i < 5 → j < 5 → i ≠ j → BS.getD i 0 ≠ BS.getD j 0 := fun i j hi hj hne he => hne (S.nd i j (by omega) (by omega) he)
    refine sy_reify 13 4 0 S (by kernel_rfl) fun S => ?_
    refine sy_reify 9 3 0 S (by kernel_rfl) fun S => ?_
    have S1 : Sy w0 none [BS.getD 0 0, BS.getD 1 0, BS.getD 2 0] (rnC L me 6 a bb ty ms mk ma wa da wl wc dl dc sa sl sc (BS.getD 4 0) (BS.getD 3 0)) _ aa w := S.to [0, 1, 2] (rnC L me 6 a bb ty ms mk ma wa da wl wc dl dc sa sl sc (BS.getD 4 0) (BS.getD 3 0)) (by kernel_rfl) (by kernel_rfl) (by kernel_rfl) (by kernel_rfl) (by kernel_rfl)
    have S2 := S1.sub (F' := [rfSeen b o Q]) (by simp)
    have S3 := S2.add (rfBox (BS.getD 3 0) 56 [.int .i64 0, .int .i64 0, .int .i64 0, .int .i64 0, .bool false, .bool false, .int .i64 0]) hb3 (by
      intro i hi hbl
      have hbl : [BS.getD 0 0, BS.getD 1 0, BS.getD 2 0].getD i 0 = BS.getD 3 0 := hbl
      match i, hi with
      | 0, _ => exact ne 0 3 (by omega) (by omega) (by omega) hbl
      | 1, _ => exact ne 1 3 (by omega) (by omega) (by omega) hbl
      | 2, _ => exact ne 2 3 (by omega) (by omega) (by omega) hbl)
    have S4 := S3.add (rfCurE (BS.getD 4 0) (BS.getD 0 0) (BS.getD 1 0) (BS.getD 2 0) (l, none)) hE (by
      intro i hi hbl
      match i, hi with
      | 0, _ => exact hbl.elim (fun h => ne 0 4 (by omega) (by omega) (by omega) h) fun h => h.2.1 rfl
      | 1, _ => exact hbl.elim (fun h => ne 1 4 (by omega) (by omega) (by omega) h) fun h => h.2.2.1 rfl
      | 2, _ => exact hbl.elim (fun h => ne 2 4 (by omega) (by omega) (by omega) h) fun h => h.2.2.2 rfl)
    refine sy_at (k := rk9) (by kernel_rfl) ?_
    exact r9_6 w0 _ _ _ _ _ lo4 (ne 3 4 (by omega) (by omega) (by omega)) L hok me ht a bb ty ms mk ma wa da wl wc dl dc sa sl sc b o Q hQ hsa hsl (fun h => by
      have h1 : BS.getD 4 0 = b := h.1
      have := World.block_lt_of_cell? w0 _ (hA 0 (Nat.pos_of_ne_zero h.2)).1
      simp only at this
      omega) lo3 ⟨ne 0 3 (by omega) (by omega) (by omega), ne 1 3 (by omega) (by omega) (by omega), ne 2 3 (by omega) (by omega) (by omega)⟩ l hI aa w S4
theorem bad_valid {L : Ly} (hok : L.ok) {me : Int} {Q : List (Int × Int × Int)} : (decide (atStatus L me < 0) || !allW L Q) = !validS L me Q := by
  obtain ⟨_, _, _, ht, _⟩ := hok
  have e : decide (atStatus L me < 0) = !decide (atWake L me ≥ 0) := by
    unfold atStatus atWake cellN
    by_cases hc : me < 0 ∨ L.c.t ≤ me
    · rw [if_pos hc, if_pos hc]; rfl
    · rw [if_neg hc, if_neg hc, decide_eq_false (by omega), decide_eq_true (by omega)]; rfl
  rw [e]
  unfold validS
  cases decide (atWake L me ≥ 0) <;> cases allW L Q <;> rfl
theorem rnext_any (w0 : World) (L : Ly) (hok : L.ok) (me : Int) (k a bb ty ms mk ma : Int) (wa da : Option Addr) (wl wc dl dc : Nat) (sa : Option Addr) (sl sc : Nat) (b o : Nat) (Q : List (Int × Int × Int)) (hQ : Q.length = sl) (hsa : sl = 0 ∨ sa = some ⟨b, o, none⟩) (hsl : sl ≤ 1000000) (la : Option Addr) (lc : Nat) (l : List (Int × Bool)) (hv : LogOf w0 (.slice la l.length lc) l) (hA : SeenAt w0 b o Q) (hct : L.c.t ≤ 62) (hl : l.length ≤ 1000000) (hI : ∀ x ∈ l, I64 x.1) : Calls Try.prog 12 #[L.v, .int .i64 me, .agg #[.int .i64 k, .int .i64 a, .int .i64 bb, .int .i64 ty, .int .i64 ms, .int .i64 mk, .int .i64 ma, .slice sa sl sc, .slice wa wl wc, .slice da dl dc], (.slice la l.length lc)] w0 fun e w' => e = .returned (nextV (nextS L me k Q l)) ∧ Below w0.heap.size w0 w' := by
  have hB := bad_valid hok (me := me) (Q := Q)
  have hT : (decide (atStatus L me < 0) || !allW L Q) = false → 0 ≤ me ∧ me ≤ 61 := fun h => by
    rw [hB] at h
    exact (valid_facts hok hct (by simpa using h)).1
  by_cases h5 : k = 5
  · subst h5
    have e : nextS L me 5 Q l = if (decide (atStatus L me < 0) || !allW L Q) = true then .inr { err := 1 } else toldX (watchS L me Q l) := by
      rw [hB]
      unfold nextS waitS
      cases validS L me Q <;> simp
    rw [e]
    exact rn_5 w0 L hok me a bb ty ms mk ma wa da wl wc dl dc sa sl sc b o Q hQ hsa hsl la lc l hv hA hl hI hT
  · by_cases h6 : k = 6
    · subst h6
      have e : nextS L me 6 Q l = if (decide (atStatus L me < 0) || !allW L Q) = true then .inr { err := 1 } else toldX (sleepS L me Q l) := by
        rw [hB]
        unfold nextS waitS
        cases validS L me Q <;> simp
      rw [e]
      exact rn_6 w0 L hok me a bb ty ms mk ma wa da wl wc dl dc sa sl sc b o Q hQ hsa hsl la lc l hv hA hl hI hT
    · have e : nextS L me k Q l = .inr { err := 1 } := by unfold nextS; rw [if_neg (by intro h; omega)]
      rw [e]
      exact rn_no w0 L hok me k a bb ty ms mk ma wa da wl wc dl dc sa sl sc b o Q hQ hsa hsl la lc l hv hA (by simpa using h5) (by simpa using h6)
end Go.Proofs.Ytfahnmpcclhjlaa
