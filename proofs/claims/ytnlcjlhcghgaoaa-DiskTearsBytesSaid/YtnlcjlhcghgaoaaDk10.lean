
/-
  Layer 22: one write is done again, torn.
-/
import Derived.Test.YtnlcjlhcghgaoaaRows
import Derived.Test.YtnlcjlhcghgaoaaBase
import Derived.Test.YtnlcjlhcghgaoaaDk9
import Derived.WalkKit
namespace Go.Proofs.Ytnlcjlhcghgaoaa
open Go Go.RowKit SZ
set_option linter.unusedVariables false
set_option linter.unusedSimpArgs false
set_option maxRecDepth 100000
attribute [local irreducible] post GD Nxt NxtAll
def tear (a b : ByteArray) (m : Nat) : ByteArray := a.extract 0 m ++ b.extract m b.size
theorem tear_size (a b : ByteArray) (m : Nat) (ha : a.size = 32) (hb : b.size = 32) (hm : m ≤ 32) : (tear a b m).size = 32 := by
  unfold tear
  rw [ByteArray.size_append, ByteArray.size_extract, ByteArray.size_extract]
  omega
def cutOf (cs : List Int) (j : Nat) : Nat := if j < cs.length then (cs.getD j 0 % 33).toNat else 32
theorem cutOf_le (cs : List Int) (j : Nat) : cutOf cs j ≤ 32 := by unfold cutOf; split <;> omega
def IntsAt (w : World) (b o : Nat) (l : List Int) : Prop := ∀ j, j < l.length → w.cell? ⟨b, o + j, none⟩ = some (.int .i64 (l.getD j 0))
def rfIn (b o : Nat) (l : List Int) : RF := ⟨fun b' => b' = b ∧ l.length ≠ 0, fun w => IntsAt w b o l, fun w h b' hb => by
  obtain ⟨rfl, hl⟩ := hb
  exact World.block_lt_of_cell? w _ (h 0 (by omega)), fun w w' h hb j hj => (World.cell?_of_block (a := ⟨b, o + j, none⟩) (hb b ⟨rfl, by omega⟩)).trans (h j hj)⟩
theorem slS_h (s : ByteArray) (m : Nat) (h : m ≤ s.size) (W : World) : (Instr.sliceAt 9 (.string s) none (some (.int .i64 (m : Int))) none).run Try.prog W = .ok (.string (s.extract 0 m)) W := by
  have hu : Try.prog.underlying 9 = some .string := Try.underlying9
  rw [run_sliceAt_string W _ _ _ _ _ hu, run_slice_string_h W _ _ hu _ _ (by omega) (by omega), Int.toNat_natCast]
theorem slS_l (s : ByteArray) (m : Nat) (h : m ≤ s.size) (W : World) : (Instr.sliceAt 9 (.string s) (some (.int .i64 (m : Int))) none none).run Try.prog W = .ok (.string (s.extract m s.size)) W := by
  have hu : Try.prog.underlying 9 = some .string := Try.underlying9
  rw [run_sliceAt_string W _ _ _ _ _ hu, run_slice_string_l W _ _ hu _ _ (by omega) (by omega), Int.toNat_natCast]
theorem gr_own {w0 w : World} {bs : List Nat} {K : List Bx} {g : Nat} (hl : bs.length = K.length) (h0 : ∀ i k, K[i]? = some k → w0.heap[bs.getD i 0]? = some (.cells k.cs.toArray k.ty (0, 0))) (h1 : ∀ i k, K[i]? = some k → w.heap[bs.getD i 0]? = some (.cells k.cs.toArray k.ty (0, 0))) (hg : Gr w0 w (bs ++ [g])) : w0.grownBy w (some g) := by
  refine ⟨hg.os, hg.tape, hg.output, hg.size, fun k hk hne => ?_⟩
  by_cases hm : k ∈ bs
  · obtain ⟨i, hi, rfl⟩ := List.getElem_of_mem hm
    have e : bs.getD i 0 = bs[i] := by simp [List.getD, List.getElem?_eq_getElem hi]
    have hk2 := List.getElem?_eq_getElem (l := K) (show i < K.length by omega)
    rw [← e, h1 i _ hk2, h0 i _ hk2]
  · exact hg.block k hk (by simp only [List.mem_append, List.mem_singleton, not_or]; exact ⟨hm, fun e => hne (by rw [e])⟩)
def rpK (d : Dk) (ca : Option Addr) (cl cc g sl sc gd tl : Nat) : List Bx := [⟨26, [.slice ca cl cc]⟩, ⟨25, d.cs⟩, ⟨22, [.slice (some ⟨gd, 0, none⟩) tl tl]⟩, ⟨22, [.slice (some ⟨g, 0, none⟩) sl sc]⟩]
def rpA (j : Nat) : List SV := [.v (.int .i64 (j : Int)), .p 0 0, .p 1 0, .p 2 0, .p 3 0]
noncomputable def rpS (j m : Nat) (K : List Bx) : SS := ⟨54, [(0, .v (.int .i64 (j : Int))), (1, .p 0 0), (2, .p 1 0), (3, .p 2 0), (4, .p 3 0), (6, .v (.int .i64 (m : Int)))], K⟩
def goM : Nat → Nat → List Nat → List It → List It
  | n + 1, r, ch, .code (.seq x y) :: k => goM n r ch (.code x :: .code y :: k)
  | n + 1, r, ch, .code (.block id c) :: k => goM n r ch (.code c :: .blk id :: k)
  | n + 1, r + 1, ch, .code (.region _ _ _) :: k => goM n r ch k
  | n + 1, r, ch, .code .skip :: k => goM n r ch k
  | n + 1, r, ch, .blk _ :: k => goM n r ch k
  | n + 1, r, c :: ch, .code (.cond _ x y) :: k => goM n r ch (.code (if c = 1 then x else y) :: k)
  | n + 1, r, _ :: ch, .code (.loop _) :: k => goM n r ch k
  | _, _, _, k => k
noncomputable def rpC : List It := goM 60 2 [0] [.code (bodyOf Try.f33)]
set_option maxHeartbeats 8000000 in
theorem rp_2 (w0 : World) (j : Nat) (d : Dk) (hd : d.ok) (hj : j < d.tl) (g gd sc : Nat) (S1 Dt : List ByteArray) (hS : S1.length = d.sl) (hD : Dt.length = d.tl) (hA : (Dt.getD j ByteArray.empty).size = 32) (hB : (S1.getD (d.W.getD j (0, ByteArray.empty)).1.toNat ByteArray.empty).size = 32) (hx : 0 ≤ (d.W.getD j (0, ByteArray.empty)).1 ∧ (d.W.getD j (0, ByteArray.empty)).1 < d.sl) (ca : Option Addr) (cc cb co : Nat) (cs : List Int) (hca : cs.length = 0 ∨ ca = some ⟨cb, co, none⟩) (b0 b1 b2 b3 : Nat) (hgg : gd ≠ g) (hK : ∀ i k, (rpK d ca cs.length cc g d.sl sc gd d.tl)[i]? = some k → w0.heap[[b0, b1, b2, b3].getD i 0]? = some (.cells k.cs.toArray k.ty (0, 0))) (aa : Act) (w : World) (S : Sy w0 ([b0, b1, b2, b3] ++ [g]) [b0, b1, b2, b3] (rpS j (cutOf cs j) (rpK d ca cs.length cc g d.sl sc gd d.tl)) [rfRow g S1, rfRow gd Dt, rfWs d.c d.p d.W, rfIn cb co cs] aa w) : post Try.prog rpC (bodyPost Try.prog Try.f33 fun e w' => e = .returned (.tuple #[]) ∧ (rfRow g (S1.set (d.W.getD j (0, ByteArray.empty)).1.toNat (tear (Dt.getD j ByteArray.empty) (S1.getD (d.W.getD j (0, ByteArray.empty)).1.toNat ByteArray.empty) (cutOf cs j)))).P w' ∧ w0.grownBy w' (some g)) .normal aa w := by
  have hm := cutOf_le cs j
  have hxn : (d.W.getD j (0, ByteArray.empty)).1 = (((d.W.getD j (0, ByteArray.empty)).1.toNat : Nat) : Int) := (Int.toNat_of_nonneg hx.1).symm
  refine sy_run (c := ⟨rpC, rpS j (cutOf cs j) (rpK d ca cs.length cc g d.sl sc gd d.tl)⟩) ⟨0, [3]⟩ 60 S fun bs aa w S => ?_
  refine sy_reg S fun S => ?_
  refine sy_ops 3 S fun bs aa w S => ?_
  refine sy_ix (b := d.c) (off := d.p) (len := d.tl) (n := j) (size := 2) (i := (j : Int)) S (by rw [← hd.hw.resolve_left (by omega)]; kernel_rfl) rfl hj fun aa S => ?_
  refine sy_ops 1 S fun bs aa w S => ?_
  refine sy_ldo S (ld_at (ty := 3) (b := d.c) (off := d.p + j * 2) (by kernel_rfl) ((S.fact (f := rfWs d.c d.p d.W) (by simp)) j (by rw [hd.hW]; exact hj)).1) (by kernel_rfl) fun aa S => ?_
  refine sy_run ⟨0, [4]⟩ 60 S fun bs aa w S => ?_
  refine sy_reg S fun S => ?_
  refine sy_ops 2 S fun bs aa w S => ?_
  refine sy_call1 S (has_t d (d.W.getD j (0, ByteArray.empty)).1 hx w) (by kernel_rfl) fun aa w hb S => ?_
  refine sy_run ⟨0, []⟩ 60 S fun bs aa w S => ?_
  letI : KP := ⟨[38, 39, 50, 51, 52]⟩
  letI : HF := ⟨[rfRow gd Dt]⟩
  refine dr_enter [2, 3] (by kernel_rfl) (by kernel_rfl) S (by kernel_rfl) (fun aa w D => ?_) (fun f hf => by have e : f = rfRow gd Dt := List.mem_singleton.1 hf; subst e; simp)
  refine dr_tix 4 D (by kernel_rfl) (by kernel_rfl) (by kernel_rfl) (b := gd) (off := 0) (len := d.tl) (n := j) (size := 1) (ix := (j : Int)) (by kernel_rfl) rfl (hj) fun aa D => ?_
  refine dr_tld 5 D (by kernel_rfl) (by kernel_rfl) (by kernel_rfl) (ty := 9) (ad := ⟨gd, 0 + j * 1, none⟩) (v := .string (Dt.getD j ByteArray.empty)) (fun W hW => ld_at (by kernel_rfl) (by rw [Nat.mul_one]; exact row_at (hW _ (List.mem_singleton.2 rfl)) j (by omega))) (by kernel_rfl) fun aa D => ?_
  refine dr_tix 9 D (by kernel_rfl) (by kernel_rfl) (by kernel_rfl) (b := gd) (off := 0) (len := d.tl) (n := j) (size := 1) (ix := (j : Int)) (by kernel_rfl) rfl (hj) fun aa D => ?_
  refine dr_tld 10 D (by kernel_rfl) (by kernel_rfl) (by kernel_rfl) (ty := 9) (ad := ⟨gd, 0 + j * 1, none⟩) (v := .string (Dt.getD j ByteArray.empty)) (fun W hW => ld_at (by kernel_rfl) (by rw [Nat.mul_one]; exact row_at (hW _ (List.mem_singleton.2 rfl)) j (by omega))) (by kernel_rfl) fun aa D => ?_
  refine dr_tix 16 D (by kernel_rfl) (by kernel_rfl) (by kernel_rfl) (b := g) (off := 0) (len := d.sl) (n := (d.W.getD j (0, ByteArray.empty)).1.toNat) (size := 1) (ix := (d.W.getD j (0, ByteArray.empty)).1) (by kernel_rfl) hxn (by omega) fun aa D => ?_
  refine dr_tix 21 D (by kernel_rfl) (by kernel_rfl) (by kernel_rfl) (b := g) (off := 0) (len := d.sl) (n := (d.W.getD j (0, ByteArray.empty)).1.toNat) (size := 1) (ix := (d.W.getD j (0, ByteArray.empty)).1) (by kernel_rfl) hxn (by omega) fun aa D => ?_
  refine dr_ex2 (fun d v c a w h => by cases d <;> exact h) 12 (op := .call { callee := .builtin .min, args := #[.tmp 32, .tmp 37], argTypes := #[3, 3] }) (ty := 3) (v := .int .i64 ((cutOf cs j : Nat) : Int)) D (by kernel_rfl) (by kernel_rfl) (by kernel_rfl) (by kernel_rfl) (ex_min (p := ((cutOf cs j : Nat) : Int)) (q := (((Dt.getD j ByteArray.empty).size : Nat) : Int)) (by kernel_rfl) (by kernel_rfl) (by split <;> omega)) fun aa D => ?_
  refine dr_ex2 (fun d v c a w h => by cases d <;> exact h) 13 (op := .slice 9 (.tmp 31) none (some (.tmp 38)) none) (ty := 9) (v := .string ((Dt.getD j ByteArray.empty).extract 0 (cutOf cs j))) D (by kernel_rfl) (by kernel_rfl) (by kernel_rfl) (by kernel_rfl) (ex_slS (p := (Dt.getD j ByteArray.empty)) (l2 := none) (h2 := some (.v (.int .i64 ((cutOf cs j : Nat) : Int)))) Try.underlying9 (by kernel_rfl) (by kernel_rfl) (by kernel_rfl) (fun W => slS_h (Dt.getD j ByteArray.empty) (cutOf cs j) (by omega) W)) fun aa D => ?_
  refine dr_any [17, 22] (by kernel_rfl) (by kernel_rfl) rfl (na2 ?_ ?_)
  · refine nx_ld 17 D (by kernel_rfl) (ld_at (ty := 9) (b := g) (off := 0 + (d.W.getD j (0, ByteArray.empty)).1.toNat * 1) (by kernel_rfl) (by rw [Nat.mul_one]; exact row_at (D.S.fact (f := rfRow g S1) (by simp)) _ (by omega))) (by kernel_rfl) fun aa D => ?_
    refine dr_any [22] (by kernel_rfl) (by kernel_rfl) rfl (na1 ?_)
    refine nx_ld 22 D (by kernel_rfl) (ld_at (ty := 9) (b := g) (off := 0 + (d.W.getD j (0, ByteArray.empty)).1.toNat * 1) (by kernel_rfl) (by rw [Nat.mul_one]; exact row_at (D.S.fact (f := rfRow g S1) (by simp)) _ (by omega))) (by kernel_rfl) fun aa D => ?_
    refine dr_ex2 (fun d v c a w h => by cases d <;> exact h) 24 (op := .call { callee := .builtin .min, args := #[.tmp 44, .tmp 49], argTypes := #[3, 3] }) (ty := 3) (v := .int .i64 ((cutOf cs j : Nat) : Int)) D (by kernel_rfl) (by kernel_rfl) (by kernel_rfl) (by kernel_rfl) (ex_min (p := ((cutOf cs j : Nat) : Int)) (q := (((S1.getD (d.W.getD j (0, ByteArray.empty)).1.toNat ByteArray.empty).size : Nat) : Int)) (by kernel_rfl) (by kernel_rfl) (by split <;> omega)) fun aa D => ?_
    refine dr_ex2 (fun d v c a w h => by cases d <;> exact h) 25 (op := .slice 9 (.tmp 43) (some (.tmp 50)) none none) (ty := 9) (v := .string ((S1.getD (d.W.getD j (0, ByteArray.empty)).1.toNat ByteArray.empty).extract (cutOf cs j) (S1.getD (d.W.getD j (0, ByteArray.empty)).1.toNat ByteArray.empty).size)) D (by kernel_rfl) (by kernel_rfl) (by kernel_rfl) (by kernel_rfl) (ex_slS (p := (S1.getD (d.W.getD j (0, ByteArray.empty)).1.toNat ByteArray.empty)) (l2 := some (.v (.int .i64 ((cutOf cs j : Nat) : Int)))) (h2 := none) Try.underlying9 (by kernel_rfl) (by kernel_rfl) (by kernel_rfl) (fun W => slS_l (S1.getD (d.W.getD j (0, ByteArray.empty)).1.toNat ByteArray.empty) (cutOf cs j) (by omega) W)) fun aa D => ?_
    refine dr_ex2 (fun d v c a w h => by cases d <;> exact h) 26 (op := .binOp .add 9 (.tmp 39) (.tmp 51) 9) (ty := 9) (v := .string (tear (Dt.getD j ByteArray.empty) (S1.getD (d.W.getD j (0, ByteArray.empty)).1.toNat ByteArray.empty) (cutOf cs j))) D (by kernel_rfl) (by kernel_rfl) (by kernel_rfl) (by kernel_rfl) (ex_cat (p := (Dt.getD j ByteArray.empty).extract 0 (cutOf cs j)) (q := (S1.getD (d.W.getD j (0, ByteArray.empty)).1.toNat ByteArray.empty).extract (cutOf cs j) (S1.getD (d.W.getD j (0, ByteArray.empty)).1.toNat ByteArray.empty).size) Try.underlying9 (by kernel_rfl) (by kernel_rfl) (by rw [ByteArray.size_extract, ByteArray.size_extract]; omega)) fun aa D => ?_
    refine dr_tix 27 D (by kernel_rfl) (by kernel_rfl) (by kernel_rfl) (b := g) (off := 0) (len := d.sl) (n := (d.W.getD j (0, ByteArray.empty)).1.toNat) (size := 1) (ix := (d.W.getD j (0, ByteArray.empty)).1) (by kernel_rfl) hxn (by omega) fun aa D => ?_
    obtain ⟨hr2, he2⟩ := row_st (D.S.fact (f := rfRow g S1) (by simp)) (d.W.getD j (0, ByteArray.empty)).1.toNat (by omega) (tear (Dt.getD j ByteArray.empty) (S1.getD (d.W.getD j (0, ByteArray.empty)).1.toNat ByteArray.empty) (cutOf cs j))
    have hap2 := (D.S.fs (rfRow g S1) (by simp)).2
    refine dr_any [28] (by kernel_rfl) (by kernel_rfl) rfl (na1 ?_)
    refine nx_sto 28 [rfRow gd Dt] D (by kernel_rfl) (ty := 9) (ad := ⟨g, 0 + (d.W.getD j (0, ByteArray.empty)).1.toNat * 1, none⟩) (x := .v (.string (tear (Dt.getD j ByteArray.empty) (S1.getD (d.W.getD j (0, ByteArray.empty)).1.toNat ByteArray.empty) (cutOf cs j)))) (v := .string (tear (Dt.getD j ByteArray.empty) (S1.getD (d.W.getD j (0, ByteArray.empty)).1.toNat ByteArray.empty) (cutOf cs j))) (by kernel_rfl) rfl hr2 (gb_setC w g _ _) (Or.inl (by simp)) (by intro f hf; simp only [List.mem_singleton] at hf; subst hf; exact ⟨by simp, fun hb => by have h1 : g = gd := hb; omega⟩) (fun f hf => hf) (fun i hi e => hap2 i hi e) fun aa D => ?_
    have D := D.addF (rfRow g (S1.set (d.W.getD j (0, ByteArray.empty)).1.toNat (tear (Dt.getD j ByteArray.empty) (S1.getD (d.W.getD j (0, ByteArray.empty)).1.toNat ByteArray.empty) (cutOf cs j)))) he2 hap2
    refine dr_end D (by kernel_rfl) fun S => ?_
    refine sy_run ⟨0, []⟩ 60 S fun bs aa w S => ?_
    have hx0 : w.heap[b0]? = some (.cells #[.slice ca cs.length cc] 26 (0, 0)) := S.bx 0 ⟨26, [.slice ca cs.length cc]⟩ (by kernel_rfl)
    have hx1 : w.heap[b1]? = some (.cells d.cs.toArray 25 (0, 0)) := S.bx 1 ⟨25, d.cs⟩ (by kernel_rfl)
    have hx2 : w.heap[b2]? = some (.cells #[.slice (some ⟨gd, 0, none⟩) d.tl d.tl] 22 (0, 0)) := S.bx 2 ⟨22, [.slice (some ⟨gd, 0, none⟩) d.tl d.tl]⟩ (by kernel_rfl)
    have hx3 : w.heap[b3]? = some (.cells #[.slice (some ⟨g, 0, none⟩) d.sl sc] 22 (0, 0)) := S.bx 3 ⟨22, [.slice (some ⟨g, 0, none⟩) d.sl sc]⟩ (by kernel_rfl)
    have hbx : ∀ i k, (rpK d ca cs.length cc g d.sl sc gd d.tl)[i]? = some k → w.heap[[b0, b1, b2, b3].getD i 0]? = some (.cells k.cs.toArray k.ty (0, 0)) := fun i k hk => match i, hk with | 0, hk => (by obtain rfl := Option.some.inj hk; exact hx0) | 1, hk => (by obtain rfl := Option.some.inj hk; exact hx1) | 2, hk => (by obtain rfl := Option.some.inj hk; exact hx2) | 3, hk => (by obtain rfl := Option.some.inj hk; exact hx3) | i + 4, hk => by cases hk
    exact sy_ret S (by kernel_rfl) (by kernel_rfl) fun hg => ⟨rfl, S.fact (f := rfRow g (S1.set (d.W.getD j (0, ByteArray.empty)).1.toNat (tear (Dt.getD j ByteArray.empty) (S1.getD (d.W.getD j (0, ByteArray.empty)).1.toNat ByteArray.empty) (cutOf cs j)))) (by simp), gr_own (bs := [b0, b1, b2, b3]) (K := (rpK d ca cs.length cc g d.sl sc gd d.tl)) rfl hK hbx hg⟩
  · refine nx_ld 22 D (by kernel_rfl) (ld_at (ty := 9) (b := g) (off := 0 + (d.W.getD j (0, ByteArray.empty)).1.toNat * 1) (by kernel_rfl) (by rw [Nat.mul_one]; exact row_at (D.S.fact (f := rfRow g S1) (by simp)) _ (by omega))) (by kernel_rfl) fun aa D => ?_
    refine dr_ex2 (fun d v c a w h => by cases d <;> exact h) 24 (op := .call { callee := .builtin .min, args := #[.tmp 44, .tmp 49], argTypes := #[3, 3] }) (ty := 3) (v := .int .i64 ((cutOf cs j : Nat) : Int)) D (by kernel_rfl) (by kernel_rfl) (by kernel_rfl) (by kernel_rfl) (ex_min (p := ((cutOf cs j : Nat) : Int)) (q := (((S1.getD (d.W.getD j (0, ByteArray.empty)).1.toNat ByteArray.empty).size : Nat) : Int)) (by kernel_rfl) (by kernel_rfl) (by split <;> omega)) fun aa D => ?_
    refine dr_any [17] (by kernel_rfl) (by kernel_rfl) rfl (na1 ?_)
    refine nx_ld 17 D (by kernel_rfl) (ld_at (ty := 9) (b := g) (off := 0 + (d.W.getD j (0, ByteArray.empty)).1.toNat * 1) (by kernel_rfl) (by rw [Nat.mul_one]; exact row_at (D.S.fact (f := rfRow g S1) (by simp)) _ (by omega))) (by kernel_rfl) fun aa D => ?_
    refine dr_ex2 (fun d v c a w h => by cases d <;> exact h) 25 (op := .slice 9 (.tmp 43) (some (.tmp 50)) none none) (ty := 9) (v := .string ((S1.getD (d.W.getD j (0, ByteArray.empty)).1.toNat ByteArray.empty).extract (cutOf cs j) (S1.getD (d.W.getD j (0, ByteArray.empty)).1.toNat ByteArray.empty).size)) D (by kernel_rfl) (by kernel_rfl) (by kernel_rfl) (by kernel_rfl) (ex_slS (p := (S1.getD (d.W.getD j (0, ByteArray.empty)).1.toNat ByteArray.empty)) (l2 := some (.v (.int .i64 ((cutOf cs j : Nat) : Int)))) (h2 := none) Try.underlying9 (by kernel_rfl) (by kernel_rfl) (by kernel_rfl) (fun W => slS_l (S1.getD (d.W.getD j (0, ByteArray.empty)).1.toNat ByteArray.empty) (cutOf cs j) (by omega) W)) fun aa D => ?_
    refine dr_ex2 (fun d v c a w h => by cases d <;> exact h) 26 (op := .binOp .add 9 (.tmp 39) (.tmp 51) 9) (ty := 9) (v := .string (tear (Dt.getD j ByteArray.empty) (S1.getD (d.W.getD j (0, ByteArray.empty)).1.toNat ByteArray.empty) (cutOf cs j))) D (by kernel_rfl) (by kernel_rfl) (by kernel_rfl) (by kernel_rfl) (ex_cat (p := (Dt.getD j ByteArray.empty).extract 0 (cutOf cs j)) (q := (S1.getD (d.W.getD j (0, ByteArray.empty)).1.toNat ByteArray.empty).extract (cutOf cs j) (S1.getD (d.W.getD j (0, ByteArray.empty)).1.toNat ByteArray.empty).size) Try.underlying9 (by kernel_rfl) (by kernel_rfl) (by rw [ByteArray.size_extract, ByteArray.size_extract]; omega)) fun aa D => ?_
    refine dr_tix 27 D (by kernel_rfl) (by kernel_rfl) (by kernel_rfl) (b := g) (off := 0) (len := d.sl) (n := (d.W.getD j (0, ByteArray.empty)).1.toNat) (size := 1) (ix := (d.W.getD j (0, ByteArray.empty)).1) (by kernel_rfl) hxn (by omega) fun aa D => ?_
    obtain ⟨hr2, he2⟩ := row_st (D.S.fact (f := rfRow g S1) (by simp)) (d.W.getD j (0, ByteArray.empty)).1.toNat (by omega) (tear (Dt.getD j ByteArray.empty) (S1.getD (d.W.getD j (0, ByteArray.empty)).1.toNat ByteArray.empty) (cutOf cs j))
    have hap2 := (D.S.fs (rfRow g S1) (by simp)).2
    refine dr_any [28] (by kernel_rfl) (by kernel_rfl) rfl (na1 ?_)
    refine nx_sto 28 [rfRow gd Dt] D (by kernel_rfl) (ty := 9) (ad := ⟨g, 0 + (d.W.getD j (0, ByteArray.empty)).1.toNat * 1, none⟩) (x := .v (.string (tear (Dt.getD j ByteArray.empty) (S1.getD (d.W.getD j (0, ByteArray.empty)).1.toNat ByteArray.empty) (cutOf cs j)))) (v := .string (tear (Dt.getD j ByteArray.empty) (S1.getD (d.W.getD j (0, ByteArray.empty)).1.toNat ByteArray.empty) (cutOf cs j))) (by kernel_rfl) rfl hr2 (gb_setC w g _ _) (Or.inl (by simp)) (by intro f hf; simp only [List.mem_singleton] at hf; subst hf; exact ⟨by simp, fun hb => by have h1 : g = gd := hb; omega⟩) (fun f hf => hf) (fun i hi e => hap2 i hi e) fun aa D => ?_
    have D := D.addF (rfRow g (S1.set (d.W.getD j (0, ByteArray.empty)).1.toNat (tear (Dt.getD j ByteArray.empty) (S1.getD (d.W.getD j (0, ByteArray.empty)).1.toNat ByteArray.empty) (cutOf cs j)))) he2 hap2
    refine dr_end D (by kernel_rfl) fun S => ?_
    refine sy_run ⟨0, []⟩ 60 S fun bs aa w S => ?_
    have hx0 : w.heap[b0]? = some (.cells #[.slice ca cs.length cc] 26 (0, 0)) := S.bx 0 ⟨26, [.slice ca cs.length cc]⟩ (by kernel_rfl)
    have hx1 : w.heap[b1]? = some (.cells d.cs.toArray 25 (0, 0)) := S.bx 1 ⟨25, d.cs⟩ (by kernel_rfl)
    have hx2 : w.heap[b2]? = some (.cells #[.slice (some ⟨gd, 0, none⟩) d.tl d.tl] 22 (0, 0)) := S.bx 2 ⟨22, [.slice (some ⟨gd, 0, none⟩) d.tl d.tl]⟩ (by kernel_rfl)
    have hx3 : w.heap[b3]? = some (.cells #[.slice (some ⟨g, 0, none⟩) d.sl sc] 22 (0, 0)) := S.bx 3 ⟨22, [.slice (some ⟨g, 0, none⟩) d.sl sc]⟩ (by kernel_rfl)
    have hbx : ∀ i k, (rpK d ca cs.length cc g d.sl sc gd d.tl)[i]? = some k → w.heap[[b0, b1, b2, b3].getD i 0]? = some (.cells k.cs.toArray k.ty (0, 0)) := fun i k hk => match i, hk with | 0, hk => (by obtain rfl := Option.some.inj hk; exact hx0) | 1, hk => (by obtain rfl := Option.some.inj hk; exact hx1) | 2, hk => (by obtain rfl := Option.some.inj hk; exact hx2) | 3, hk => (by obtain rfl := Option.some.inj hk; exact hx3) | i + 4, hk => by cases hk
    exact sy_ret S (by kernel_rfl) (by kernel_rfl) fun hg => ⟨rfl, S.fact (f := rfRow g (S1.set (d.W.getD j (0, ByteArray.empty)).1.toNat (tear (Dt.getD j ByteArray.empty) (S1.getD (d.W.getD j (0, ByteArray.empty)).1.toNat ByteArray.empty) (cutOf cs j)))) (by simp), gr_own (bs := [b0, b1, b2, b3]) (K := (rpK d ca cs.length cc g d.sl sc gd d.tl)) rfl hK hbx hg⟩
set_option maxHeartbeats 8000000 in
theorem rp_t (w0 : World) (j : Nat) (d : Dk) (hd : d.ok) (hj : j < d.tl) (g gd sc : Nat) (S1 Dt : List ByteArray) (hS : S1.length = d.sl) (hD : Dt.length = d.tl) (hA : (Dt.getD j ByteArray.empty).size = 32) (hB : (S1.getD (d.W.getD j (0, ByteArray.empty)).1.toNat ByteArray.empty).size = 32) (hx : 0 ≤ (d.W.getD j (0, ByteArray.empty)).1 ∧ (d.W.getD j (0, ByteArray.empty)).1 < d.sl) (ca : Option Addr) (cc cb co : Nat) (cs : List Int) (hca : cs.length = 0 ∨ ca = some ⟨cb, co, none⟩) (b0 b1 b2 b3 : Nat) (hgg : gd ≠ g) (hK : ∀ i k, (rpK d ca cs.length cc g d.sl sc gd d.tl)[i]? = some k → w0.heap[[b0, b1, b2, b3].getD i 0]? = some (.cells k.cs.toArray k.ty (0, 0))) (hnd : ∀ i i', i < 4 → i' < 4 → [b0, b1, b2, b3].getD i 0 = [b0, b1, b2, b3].getD i' 0 → i = i') (hF : ∀ f ∈ [rfRow g S1, rfRow gd Dt, rfWs d.c d.p d.W, rfIn cb co cs], f.P w0 ∧ ∀ i, i < 4 → ¬f.bl ([b0, b1, b2, b3].getD i 0)) : Calls Try.prog 33 ((rpA j).map (den [b0, b1, b2, b3])).toArray w0 fun e w' => e = .returned (.tuple #[]) ∧ (rfRow g (S1.set (d.W.getD j (0, ByteArray.empty)).1.toNat (tear (Dt.getD j ByteArray.empty) (S1.getD (d.W.getD j (0, ByteArray.empty)).1.toNat ByteArray.empty) (cutOf cs j)))).P w' ∧ w0.grownBy w' (some g) := by
  refine sy_enterR ([b0, b1, b2, b3] ++ [g]) [b0, b1, b2, b3] (rpK d ca cs.length cc g d.sl sc gd d.tl) (rpA j) [rfRow g S1, rfRow gd Dt, rfWs d.c d.p d.W, rfIn cb co cs] rfl hK hnd (fun i hi => match i, hi with | 0, _ => by simp | 1, _ => by simp | 2, _ => by simp | 3, _ => by simp | i + 4, hi => absurd hi (by simp)) (fun x hx => by simp only [rpA, List.mem_cons, List.not_mem_nil, or_false] at hx; rcases hx with rfl | rfl | rfl | rfl | rfl <;> simp [SV.ok]) hF Try.func33 rfl rfl fun aa S => ?_
  refine sy_run ⟨0, [1]⟩ 60 S fun bs aa w S => ?_
  refine sy_reg S fun S => ?_
  refine sy_ops 4 S fun bs aa w S => ?_
  by_cases hc : j < cs.length
  · obtain rfl := hca.resolve_left (by omega)
    have ec : cs.getD j 0 % 33 = ((cutOf cs j : Nat) : Int) := by unfold cutOf; rw [if_pos hc]; omega
    refine sy_cast 11 S (congrArg Value.bool (decide_eq_true (by omega) : decide ((j : Int) < (cs.length : Int)) = true)) (by kernel_rfl) fun S => ?_
    refine sy_run ⟨0, [2]⟩ 60 S fun bs aa w S => ?_
    refine sy_reg S fun S => ?_
    refine sy_ops 2 S fun bs aa w S => ?_
    refine sy_ix (b := cb) (off := co) (len := cs.length) (n := j) (size := 1) (i := (j : Int)) S (by kernel_rfl) rfl hc fun aa S => ?_
    refine sy_ldo S (ld_at (ty := 3) (b := cb) (off := co + j * 1) (by kernel_rfl) (by rw [Nat.mul_one]; exact S.fact (f := rfIn cb co cs) (by simp) j hc)) (by kernel_rfl) fun aa S => ?_
    refine sy_call1 S (fm_t (cs.getD j 0) w) (by kernel_rfl) fun aa w hb S => ?_
    refine sy_cast 16 S (congrArg (Value.int .i64) ec) (by kernel_rfl) fun S => ?_
    refine sy_run ⟨0, [3]⟩ 60 S fun bs aa w S => ?_
    have S2 := S.to [0, 1, 2, 3] (rpS j (cutOf cs j) (rpK d (some ⟨cb, co, none⟩) cs.length cc g d.sl sc gd d.tl)) (by kernel_rfl) (by kernel_rfl) (by kernel_rfl) (by kernel_rfl) (by kernel_rfl)
    refine sy_at2 (k' := rpC) (by kernel_rfl) ?_
    exact rp_2 w0 j d hd hj g gd sc S1 Dt hS hD hA hB hx _ cc cb co cs hca b0 b1 b2 b3 hgg hK aa w S2
  · have ec : cutOf cs j = 32 := by unfold cutOf; rw [if_neg hc]
    refine sy_cast 11 S (congrArg Value.bool (decide_eq_false (by omega) : decide ((j : Int) < (cs.length : Int)) = false)) (by kernel_rfl) fun S => ?_
    refine sy_run ⟨0, [3]⟩ 60 S fun bs aa w S => ?_
    have S2 := S.to [0, 1, 2, 3] (rpS j 32 (rpK d ca cs.length cc g d.sl sc gd d.tl)) (by kernel_rfl) (by kernel_rfl) (by kernel_rfl) (by kernel_rfl) (by kernel_rfl)
    rw [← ec] at S2
    refine sy_at2 (k' := rpC) (by kernel_rfl) ?_
    exact rp_2 w0 j d hd hj g gd sc S1 Dt hS hD hA hB hx ca cc cb co cs hca b0 b1 b2 b3 hgg hK aa w S2
end Go.Proofs.Ytnlcjlhcghgaoaa
