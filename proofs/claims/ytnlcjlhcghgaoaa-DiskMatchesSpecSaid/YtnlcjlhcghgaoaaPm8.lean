/-
  Merged: DkE, Dk3, DkS
-/
import Derived.Test.YtnlcjlhcghgaoaaRows
import Derived.Test.YtnlcjlhcghgaoaaPm2
import Derived.Test.YtnlcjlhcghgaoaaPm7
import Derived.Test.YtnlcjlhcghgaoaaPm6
import Derived.Test.YtnlcjlhcghgaoaaPm3
import Derived.WalkKit
import Derived.Laws.MakeOwn

/-
  Layer 22: the example of the documentation; a sector full of one byte.
-/
namespace Go.Proofs.Ytnlcjlhcghgaoaa
open Go Go.RowKit EX
set_option maxRecDepth 100000
set_option linter.unusedVariables false
set_option linter.unusedSimpArgs false
def z32 : ByteArray := ⟨Array.replicate 32 0⟩
theorem rep_32 (w : World) : Calls Try.prog 25 #[.string ⟨#[0]⟩, .int .i64 32] w fun e w' => e = .returned (.string z32) ∧ Below w.heap.size w w' :=
  (Try.strings_Repeat_main ⟨#[0]⟩ 32 w (by decide) (by decide) (by decide) (by decide)).mono fun e w' h => ⟨by rw [h.1]; rfl, h.2⟩
theorem sane22 (w : World) : Calls Try.prog 7 #[] w fun e w' => e = .returned (.bool true) ∧ Below w.heap.size w w' :=
  @ex_valG noFC _ (kgAt 25 [.string ⟨#[0]⟩, .int .i64 32] (.v (.string z32))) (kgAt_ok (by simp [bd]) fun w _ => by simpa [den] using rep_32 w) 100000 _ _ [] [] _ [(.string ⟨#[0]⟩, .string ⟨#[0]⟩), (.int .i64 32, .int .i64 32), (.string ⟨#[0]⟩, .string ⟨#[0]⟩), (.int .i64 32, .int .i64 32)] w (by kernel_rfl) (by simp [denL]) trivial (by intro q hq; simp only [List.mem_cons, List.not_mem_nil, or_false] at hq; rcases hq with rfl | rfl | rfl | rfl <;> rfl) (fcAt_none _)
/-- A sector full of one byte. -/
def fullS (c : Int) : ByteArray := byteS (List.replicate 32 c)
set_option maxHeartbeats 4000000 in
theorem full_any (c : Int) (w : World) : Calls Try.prog 24 #[.int .u8 c] w fun e w' => e = .returned (.string (fullS c)) ∧ Below w.heap.size w w' :=
  ex_val knNone_ok 100000 [.y (.int .u8 c)] [] [] (by kernel_rfl) (by simp [denL, den]) (by simp [bdL, bd]) (by intro q hq; cases hq)
theorem full_size (c : Int) : (fullS c).size = 32 := by kernel_rfl
theorem full_0 : fullS 0 = z32 := by decide
end Go.Proofs.Ytnlcjlhcghgaoaa


/-
  Layer 22: a new device.
-/
namespace Go.Proofs.Ytnlcjlhcghgaoaa
open Go Go.RowKit SZ
set_option linter.unusedVariables false
set_option linter.unusedSimpArgs false
set_option maxRecDepth 100000
attribute [local irreducible] post GD Nxt NxtAll
/-- Rows of equal strings, up to a place. -/
def zS (n j : Nat) : List Value := List.replicate j (.string z32) ++ List.replicate (n - j) (.string ByteArray.empty)
theorem zS_len (n j : Nat) (h : j ≤ n) : (zS n j).length = n := by simp [zS]; omega
theorem zS_set (n j : Nat) (h : j < n) : (zS n j).set j (.string z32) = zS n (j + 1) := by
  unfold zS
  rw [List.set_append_right _ _ (by simp)]
  simp only [List.length_replicate, Nat.sub_self]
  obtain ⟨m, hm⟩ : ∃ m, n - j = m + 1 := ⟨n - j - 1, by omega⟩
  rw [hm, show n - (j + 1) = m by omega, List.replicate_succ, List.set_cons_zero, List.replicate_succ', List.append_assoc]
  rfl
theorem made_str (n : Nat) : madeCells (Value.string ByteArray.empty).cells n = (zS n 0).toArray := by
  apply Array.ext'
  apply List.ext_getElem
  · simp [madeCells, zS]
  · intro i h1 h2
    simp [madeCells, zS, Value.cells, Nat.mod_one]
theorem mk_run (n : Nat) (hn : n ≤ 512) (w : World) : (Instr.makeSlice 22 (.int .i64 (n : Int)) (.int .i64 (n : Int))).run Try.prog w = .ok (.slice (some ⟨w.heap.size, 0, none⟩) n n) (w.alloc (.cells (zS n 0).toArray 9 (0, 0))) := by
  have hI : (Try.prog.info? 9).map (fun i => (i.zero, i.size, i.bytes)) = some (some (.string ByteArray.empty), 1, 16) := by kernel_rfl
  cases hi : Try.prog.info? 9 with
  | none => rw [hi] at hI; cases hI
  | some i =>
    rw [hi] at hI
    simp only [Option.map_some, Option.some.injEq, Prod.mk.injEq] at hI
    obtain ⟨h1, h2, h3⟩ := hI
    have h := run_makeSlice (P := Try.prog) w 22 9 i (.string ByteArray.empty) Try.underlying22 hi h1 .i64 .i64 (n : Int) (n : Int) (by omega) (by omega) (by rw [h2, Int.toNat_natCast]; omega) (by rw [h3]; omega) (by omega)
    rw [h2, Int.toNat_natCast, Nat.mul_one, made_str] at h
    exact h
/-- One cell of a row, stored. -/
theorem st_at {P : Program} {ty ty' : TypeId} {b off : Nat} {cs : List Value} {v : Value} {w : World} (hs : (P.info? ty).map (·.size) = some 1) (hv : v.cells.toList = [v]) (h1 : v.oneCell' = true) (hh : w.heap[b]? = some (.cells cs.toArray ty' (0, 0))) (ho : off < cs.length) :
    (storeVar ty ⟨b, off, none⟩ v).run P w = .ok () (w.setCells b off [v]) ∧ (w.setCells b off [v]).heap[b]? = some (.cells (cs.set off v).toArray ty' (0, 0)) := by
  have h : stS P ty cs off v = some (setL cs off v.cells.toList) := by
    unfold stS
    rw [hs]
    have e : v.cells.size = 1 := by rw [← Array.length_toList, hv]; rfl
    simp only [e, hv, List.all_cons, List.all_nil, h1, Bool.and_true]
    rw [if_pos ⟨trivial, by omega, trivial⟩]
  obtain ⟨hr, _⟩ := stS_run h hh
  rw [hv] at hr
  exact ⟨hr, heap_setCells b ty' [v] off w cs hh⟩
noncomputable def nwC : Cfg := ⟨goZ 60 [0] [.code (bodyOf Try.f9)], ⟨0, [], []⟩⟩
noncomputable def nwS (b n j : Nat) : SS := ⟨27, [(0, .v (.int .i64 (n : Int))), (2, .p 0 0), (4, .v (.slice (some ⟨b, 0, none⟩) n n)), (16, .v (.int .i64 (n : Int))), (17, .v (.int .i64 (j : Int)))], [⟨25, [.slice none 0 0, .slice none 0 0]⟩]⟩
/-- The row that is filled. -/
def rfZ (b n j : Nat) : RF := ⟨fun b' => b' = b, fun w => w.heap[b]? = some (.cells (zS n j).toArray 9 (0, 0)), fun w h b' hb => by subst hb; exact (Array.getElem?_eq_some_iff.1 h).1, fun w w' h hb => (hb b rfl).trans h⟩
set_option maxHeartbeats 8000000 in
theorem nw_end (w0 : World) (b n : Nat) (hb0 : w0.heap.size ≤ b) (hn : n ≤ 512) (m : Nat) (bb : Nat) (aa : Act) (w : World) (S : Sy w0 [] [bb] (nwS b n n) [rfZ b n n] aa w) : post Try.prog (.rnd (m + 1) (bodyL nwC) :: nwC.k.tail) (bodyPost Try.prog Try.f9 fun e w' => ∃ b, w0.heap.size ≤ b ∧ (e = .returned (.tuple #[.agg #[.slice (some ⟨b, 0, none⟩) n n, .slice none 0 0], .int .i64 0]) ∧ w'.heap[b]? = some (.cells (zS n n).toArray 9 (0, 0))) ∧ Below w0.heap.size w0 w') .normal aa w := by
  refine sy_run (c := ⟨(.rnd (m + 1) (bodyL nwC) :: nwC.k.tail), nwS b n n⟩) ⟨0, [5]⟩ 50 S fun bs aa w S => ?_
  refine sy_reg S fun S => ?_
  refine sy_ops 1 S fun bs aa w S => ?_
  refine sy_cast 18 S (congrArg Value.bool (by simp : decide ((n : Int) < (n : Int)) = false)) (by kernel_rfl) fun S => ?_
  refine sy_run ⟨0, []⟩ 60 S fun bs aa w S => ?_
  exact sy_ret S (by kernel_rfl) (by kernel_rfl) fun hg => ⟨b, hb0, ⟨rfl, S.fact (f := rfZ b n n) (by simp)⟩, bel_gr hg⟩
set_option maxHeartbeats 8000000 in
theorem nw_step (w0 : World) (b n : Nat) (hb0 : w0.heap.size ≤ b) (hn : n ≤ 512) (m j : Nat) (hj : j < n) (ih : ∀ (bb : Nat) (aa : Act) (w : World) (S : Sy w0 [] [bb] (nwS b n (j + 1)) [rfZ b n (j + 1)] aa w), post Try.prog (.rnd (m) (bodyL nwC) :: nwC.k.tail) (bodyPost Try.prog Try.f9 fun e w' => ∃ b, w0.heap.size ≤ b ∧ (e = .returned (.tuple #[.agg #[.slice (some ⟨b, 0, none⟩) n n, .slice none 0 0], .int .i64 0]) ∧ w'.heap[b]? = some (.cells (zS n n).toArray 9 (0, 0))) ∧ Below w0.heap.size w0 w') .normal aa w) (bb : Nat) (aa : Act) (w : World) (S : Sy w0 [] [bb] (nwS b n j) [rfZ b n j] aa w) : post Try.prog (.rnd (m + 1) (bodyL nwC) :: nwC.k.tail) (bodyPost Try.prog Try.f9 fun e w' => ∃ b, w0.heap.size ≤ b ∧ (e = .returned (.tuple #[.agg #[.slice (some ⟨b, 0, none⟩) n n, .slice none 0 0], .int .i64 0]) ∧ w'.heap[b]? = some (.cells (zS n n).toArray 9 (0, 0))) ∧ Below w0.heap.size w0 w') .normal aa w := by
  refine sy_run (c := ⟨(.rnd (m + 1) (bodyL nwC) :: nwC.k.tail), nwS b n j⟩) ⟨0, [5]⟩ 50 S fun bs aa w S => ?_
  refine sy_reg S fun S => ?_
  refine sy_ops 1 S fun bs aa w S => ?_
  refine sy_cast 18 S (congrArg Value.bool (by simp; omega : decide ((j : Int) < (n : Int)) = true)) (by kernel_rfl) fun S => ?_
  refine sy_run ⟨0, []⟩ 60 S fun bs aa w S => ?_
  refine sy_call1 S (rep_32 w) (by kernel_rfl) fun aa w hb S => ?_
  refine sy_ix (b := b) (off := 0) (len := n) (n := j) (size := 1) (i := (j : Int)) S (by kernel_rfl) rfl hj fun aa S => ?_
  have hZ := S.fact (f := rfZ b n j) (by simp)
  have hap := (S.fs (rfZ b n j) (by simp)).2
  obtain ⟨hr, he⟩ := st_at (P := Try.prog) (ty := 9) (v := .string z32) (off := j) (by kernel_rfl) (by kernel_rfl) (by kernel_rfl) hZ (by rw [zS_len n j (by omega)]; exact hj)
  refine sy_sto (ty := 9) (ad := ⟨b, 0 + j * 1, none⟩) (x := .v (.string z32)) (v := .string z32) S (by kernel_rfl) rfl (by rw [Nat.mul_one, Nat.zero_add]; exact hr) (gb_setC w b j _) (Or.inr hb0) [] (by simp) (fun i hi e => hap i hi e) fun aa S => ?_
  have S := S.add (rfZ b n (j + 1)) (he.trans (by rw [zS_set n j hj])) hap
  refine sy_run ⟨0, [8]⟩ 60 S fun bs aa w S => ?_
  refine sy_reg S fun S => ?_
  refine sy_ops 1 S fun bs aa w S => ?_
  refine sy_cast 24 S (congrArg (Value.int .i64) (by rw [IntKind.wrap_i64]; omega : IntKind.i64.wrap ((j : Int) + 1) = ((j + 1 : Nat) : Int))) (by kernel_rfl) fun S => ?_
  refine sy_run ⟨0, [999]⟩ 50 S fun bs aa w S => ?_
  have S2 := S.to [0] (nwS b n (j + 1)) (by kernel_rfl) (by kernel_rfl) (by kernel_rfl) (by kernel_rfl) (by kernel_rfl)
  refine sy_at2 (k' := (.rnd (m) (bodyL nwC) :: nwC.k.tail)) (by kernel_rfl) ?_
  exact ih _ aa w S2
theorem nw_all (w0 : World) (b n : Nat) (hb0 : w0.heap.size ≤ b) (hn : n ≤ 512) : ∀ (r j : Nat), j + r = n → ∀ (bb : Nat) (aa : Act) (w : World) (S : Sy w0 [] [bb] (nwS b n j) [rfZ b n j] aa w), post Try.prog (.rnd (r + 1) (bodyL nwC) :: nwC.k.tail) (bodyPost Try.prog Try.f9 fun e w' => ∃ b, w0.heap.size ≤ b ∧ (e = .returned (.tuple #[.agg #[.slice (some ⟨b, 0, none⟩) n n, .slice none 0 0], .int .i64 0]) ∧ w'.heap[b]? = some (.cells (zS n n).toArray 9 (0, 0))) ∧ Below w0.heap.size w0 w') .normal aa w := by
  intro r
  induction r with
  | zero => intro j hj bb aa w S; have e : j = n := by omega
            rw [e] at S
            exact nw_end w0 b n hb0 hn 0 bb aa w S
  | succ r ih => intro j hj bb aa w S; exact nw_step w0 b n hb0 hn (r + 1) j (by omega) (fun bb aa w S => ih (j + 1) (by omega) bb aa w S) bb aa w S
set_option maxHeartbeats 8000000 in
theorem new_t (n : Nat) (hn : n ≤ 512) (w0 : World) : Calls Try.prog 9 #[.int .i64 (n : Int)] w0 fun e w' => ∃ b, w0.heap.size ≤ b ∧ (e = .returned (.tuple #[.agg #[.slice (some ⟨b, 0, none⟩) n n, .slice none 0 0], .int .i64 0]) ∧ w'.heap[b]? = some (.cells (zS n n).toArray 9 (0, 0))) ∧ Below w0.heap.size w0 w' := by
  refine sy_enterF [] [] (by intro f hf; cases hf) Try.func9 rfl rfl fun aa S => ?_
  refine sy_run ⟨0, [1]⟩ 60 S fun bs aa w S => ?_
  refine sy_reg S fun S => ?_
  refine sy_ops 2 S fun bs aa w S => ?_
  refine sy_cast 7 S (congrArg Value.bool (decide_eq_false (by omega) : decide ((n : Int) < 0) = false)) (by kernel_rfl) fun S => ?_
  refine sy_ops 3 S fun bs aa w S => ?_
  refine sy_cast 10 S (congrArg Value.bool (decide_eq_false (by omega) : decide ((n : Int) > 512) = false)) (by kernel_rfl) fun S => ?_
  refine sy_run ⟨0, [3]⟩ 60 S fun bs aa w S => ?_
  refine sy_reg S fun S => ?_
  refine sy_ops 1 S fun bs aa w S => ?_
  refine sy_mk (t := 22) (u := .int .i64 (n : Int)) (v := .int .i64 (n : Int)) (n := n) (cs := zS n 0) (e := 9) S (by kernel_rfl) (mk_run n hn) fun b aa w hb0 hnb hnf hh hb S => ?_
  have S := S.add (rfZ b n 0) hh hnb
  refine sy_run ⟨0, []⟩ 60 S fun bs aa w S => ?_
  have S' := S.to [0] (nwS b n 0) (by kernel_rfl) (by kernel_rfl) (by kernel_rfl) (by kernel_rfl) (by kernel_rfl)
  refine sy_loop (n + 1) (by kernel_rfl) ?_
  refine sy_at2 (k' := (.rnd (n + 1) (bodyL nwC) :: nwC.k.tail)) (by kernel_rfl) ?_
  exact nw_all w0 b n hb0 hn n 0 (by omega) _ aa w S'
end Go.Proofs.Ytnlcjlhcghgaoaa


/-
  Layer 22: the reference's empty sector.
-/
namespace Go.Proofs.Ytnlcjlhcghgaoaa
open Go Go.RowKit EX
set_option maxRecDepth 100000
set_option maxHeartbeats 4000000 in
theorem noughts_32 (w : World) : Calls Try.prog 26 #[.int .i64 32] w fun e w' => e = .returned (.string z32) ∧ Below w.heap.size w w' :=
  ex_val knNone_ok 100000 [.v (.int .i64 32)] [] [] (by kernel_rfl) (by simp [denL, den]) (by simp [bdL, bd]) (by intro q hq; cases hq)
end Go.Proofs.Ytnlcjlhcghgaoaa
