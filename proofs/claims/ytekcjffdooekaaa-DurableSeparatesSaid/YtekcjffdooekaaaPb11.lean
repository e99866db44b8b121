/-
  Merged: DkO, Dk7, Dk8, Dk9, Dk10, DkP, DkQ, Dk11, Dk12, Dk15, Dk17, DkT, BkO, Dk18, Dk19, Dk20, Dk21, Dk22, Dk23, Dk24, Dk13, Dk14, Dk16, Dk25
-/
import Derived.Test.YtekcjffdooekaaaRows
import Derived.Test.YtekcjffdooekaaaPb2
import Derived.Test.YtekcjffdooekaaaPb10
import Derived.Deep.Fields
import Derived.Deep.Slices
import Derived.WalkKit
import Derived.Test.YtekcjffdooekaaaPb4
import Derived.Test.YtekcjffdooekaaaPb9

/-
  Layer 22: a row of bytes, as an argument.
-/
namespace Go.Proofs.Ytekcjffdooekaaa
open Go.ChangeShapes Go.WideShapes Go.ChangeAt Go.RowKit Go.Deep
set_option maxRecDepth 100000
/-- A row of bytes. -/
def HasBy (w : World) (v : Value) (l : List Nat) : Prop := ∃ a cap, v = .slice a l.length cap ∧ l.length ≤ cap ∧ (l.length = 0 ∨ ∃ b o, a = some ⟨b, o, none⟩ ∧ ByAt w b o l)
section
variable {H : Type} {enc : TypeId × Value → H} {W : World}
theorem cells_u8 : Try.prog.cellsOf 5 = 1 := by kernel_rfl
theorem open_bytesArg {r : Reach} {b0 : Nat} {v : Value} {d : DataW H} {p : List MemPlace} (hv : Value.okWide Try.prog W r b0 95 v) (h : DataW.Trod enc Try.prog W 0 (fun _ => true) true 95 v d p) :
    ∃ l, HasBy W v l ∧ ∀ b ∈ l, b < 256 := by
  obtain ⟨a0, len0, cap0, rfl⟩ := okWide_slice Try.underlying95 hv
  obtain ⟨fuel, hf⟩ := h
  rcases open_ints Try.underlying95 Try.underlying5 cells_u8 hf with ⟨hcs, _⟩ | ⟨a, len, cap, zs, hcs, _, hl, hm, hz, _, hcell, hwf⟩
  · simp [Value.cells] at hcs
    obtain ⟨rfl, rfl, rfl⟩ := hcs
    exact ⟨[], ⟨none, 0, rfl, Nat.le_refl _, Or.inl rfl⟩, by simp⟩
  · simp [Value.cells] at hcs
    obtain ⟨rfl, rfl, rfl⟩ := hcs
    simp only [if_true] at hz
    have hb : ∀ n ∈ zs, 0 ≤ n ∧ n < 256 := fun n hn => by have := u8_of_wf (hwf n hn); omega
    have hlen : ((zs.take len0).map Int.toNat).length = len0 := by rw [List.length_map, List.length_take]; omega
    refine ⟨(zs.take len0).map Int.toNat, ⟨some a, cap0, by rw [hlen], by rw [hlen]; exact hl, ?_⟩, ?_⟩
    · by_cases h0 : len0 = 0
      · exact Or.inl (by rw [hlen]; exact h0)
      · obtain ⟨b, off, spot⟩ := a
        have hspot : spot = none := by simpa [Addr.add] using World.cell?_spot (hcell 0 (by omega))
        subst hspot
        refine Or.inr ⟨b, off, rfl, fun j hj => ?_⟩
        rw [hlen] at hj
        have h1 := hcell j (by omega)
        rw [add_plain] at h1
        rw [h1]
        have hjz : j < zs.length := by omega
        have h2 := hb zs[j] (List.getElem_mem hjz)
        simp [List.getD, hj, List.getElem?_eq_getElem hjz]
        omega
    · intro b hb'
      obtain ⟨n, hn, rfl⟩ := List.mem_map.1 hb'
      have := hb n (List.mem_of_mem_take hn)
      omega

end
end Go.Proofs.Ytekcjffdooekaaa


/-
  Layer 22: what a list of commands leaves.
-/
namespace Go.Proofs.Ytekcjffdooekaaa
open Go Go.RowKit SZ
set_option linter.unusedVariables false
set_option linter.unusedSimpArgs false
set_option maxRecDepth 100000
attribute [local irreducible] post GD Nxt NxtAll
/-- The last write to a sector. -/
def lastD (D : List (Int × ByteArray)) (at_ : Nat) (z : ByteArray) : ByteArray := D.foldl (fun w x => if x.1 = (at_ : Int) then x.2 else w) z
theorem lastD_app (D : List (Int × ByteArray)) (x : Int × ByteArray) (at_ : Nat) (z : ByteArray) : lastD (D ++ [x]) at_ z = if x.1 = (at_ : Int) then x.2 else lastD D at_ z := by simp [lastD]
theorem lastD_succ (D : List (Int × ByteArray)) (i : Nat) (h : i < D.length) (at_ : Nat) (z : ByteArray) : lastD (D.take (i + 1)) at_ z = if (D.getD i (0, ByteArray.empty)).1 = (at_ : Int) then (D.getD i (0, ByteArray.empty)).2 else lastD (D.take i) at_ z := by
  have e := List.take_succ_eq_append_getElem h
  rw [e, lastD_app]
  simp [List.getD, List.getElem?_eq_getElem h]
structure WInv (n : Nat) (x : List ByteArray × List (Int × ByteArray) × List (Int × ByteArray)) : Prop where
  len : x.1.length = n
  sz : ∀ s ∈ x.1, s.size = 32
  w : ∀ y ∈ x.2.1, (0 ≤ y.1 ∧ y.1 < (n : Int)) ∧ y.2.size = 32
  d : ∀ y ∈ x.2.2, (0 ≤ y.1 ∧ y.1 < (n : Int)) ∧ y.2.size = 32
  last : ∀ j, j < n → x.1.getD j ByteArray.empty = lastD x.2.2 j z32
theorem winv_0 (n : Nat) : WInv n (List.replicate n z32, [], []) := by
  refine ⟨by simp, fun s hs => ?_, by simp, by simp, fun j hj => by simp [lastD, List.getD, List.getElem?_replicate, hj]⟩
  rw [List.eq_of_mem_replicate hs]
  rfl
theorem winv_step (n : Nat) (hn : 0 < n) (x : List ByteArray × List (Int × ByteArray) × List (Int × ByteArray)) (h : WInv n x) (c : Nat) : WInv n (wstep n x c) := by
  unfold wstep
  split
  · exact ⟨h.len, h.sz, by simp, h.d, h.last⟩
  · have hm := Nat.mod_lt c hn
    refine ⟨by simp [h.len], fun s hs => ?_, fun y hy => ?_, fun y hy => ?_, fun j hj => ?_⟩
    · rcases List.mem_or_eq_of_mem_set hs with h1 | rfl
      · exact h.sz s h1
      · exact full_size _
    · rcases List.mem_append.1 hy with h1 | h1
      · exact h.w y h1
      · simp only [List.mem_singleton] at h1
        subst h1
        refine ⟨⟨by show (0 : Int) ≤ ((c % n : Nat) : Int); omega, by show ((c % n : Nat) : Int) < (n : Int); omega⟩, ?_⟩
        have hl : c % n < x.1.length := by rw [h.len]; exact hm
        show (x.1.getD (c % n) ByteArray.empty).size = 32
        have e : x.1.getD (c % n) ByteArray.empty = x.1[c % n] := by simp [List.getD, List.getElem?_eq_getElem hl]
        rw [e]
        exact h.sz _ (List.getElem_mem hl)
    · rcases List.mem_append.1 hy with h1 | h1
      · exact h.d y h1
      · simp only [List.mem_singleton] at h1
        subst h1
        exact ⟨⟨by show (0 : Int) ≤ ((c % n : Nat) : Int); omega, by show ((c % n : Nat) : Int) < (n : Int); omega⟩, full_size _⟩
    · show (x.1.set (c % n) _).getD j ByteArray.empty = lastD (x.2.2 ++ _) j z32
      rw [lastD_app]
      by_cases e : c % n = j
      · subst e
        simp [List.getD, List.getElem?_set, h.len, hm]
      · have e2 : ¬ (((c % n : Nat) : Int) = (j : Int)) := by omega
        have h3 := h.last j hj
        rw [if_neg e2, ← h3]
        simp [List.getD, List.getElem?_set, e]
theorem winv (n : Nat) (hn : 0 < n) (l : List Nat) : WInv n (wall n l) := by
  have key : ∀ (l : List Nat) x, WInv n x → WInv n (l.foldl (wstep n) x) := by
    intro l
    induction l with
    | nil => intro x h; exact h
    | cons c l ih => intro x h; exact ih _ (winv_step n hn x h c)
  exact key l _ (winv_0 n)
theorem getD_mem {α : Type} (l : List α) (j : Nat) (z : α) (h : j < l.length) : l.getD j z ∈ l := by
  have e : l.getD j z = l[j] := by simp [List.getD, List.getElem?_eq_getElem h]
  rw [e]
  exact List.getElem_mem h
theorem WI.right {w0 : World} {k : Nat} {l : List Nat} {i : Nat} {d : Dk} {D : List (Int × ByteArray)} (h : WI w0 k l i d D) : d.right := by
  have hv := winv (k + 1) (Nat.succ_pos _) (l.take i)
  rw [h.eq] at hv
  refine ⟨fun j hj => hv.sz _ (getD_mem _ _ _ (by rw [h.ok.hS]; exact hj)), fun j hj => ?_⟩
  have := hv.w _ (getD_mem d.W j (0, ByteArray.empty) (by rw [h.ok.hW]; exact hj))
  exact ⟨⟨this.1.1, by have := this.1.2; rw [h.sl]; exact this⟩, this.2⟩
end Go.Proofs.Ytekcjffdooekaaa


/-
  Layer 22: each sector reads as the last write to it.
-/
namespace Go.Proofs.Ytekcjffdooekaaa
open Go Go.RowKit SZ
set_option linter.unusedVariables false
set_option linter.unusedSimpArgs false
set_option maxRecDepth 100000
attribute [local irreducible] post GD Nxt NxtAll
noncomputable def ouS (k at_ n : Nat) (ga : Option Addr) (gc : Nat) (d : Dk) : SS := ⟨79, [(5, .v (.bool true)), (6, .v (.int .i64 ((k + 1 : Nat) : Int))), (7, .p 0 0), (8, .v (.slice ga n gc)), (9, .v (.bool true)), (10, .v (.int .i64 (at_ : Int)))], [⟨28, d.cs⟩]⟩
noncomputable def inS (k at_ n i : Nat) (ga : Option Addr) (gc : Nat) (d : Dk) (X : ByteArray) : SS := ⟨79, [(5, .v (.bool true)), (6, .v (.int .i64 ((k + 1 : Nat) : Int))), (7, .p 0 0), (8, .v (.slice ga n gc)), (9, .v (.bool true)), (10, .v (.int .i64 (at_ : Int))), (11, .v (.string X)), (12, .v (.int .i64 (i : Int)))], [⟨28, d.cs⟩]⟩
end Go.Proofs.Ytekcjffdooekaaa


/-
  Layer 22: what a crash undoes.
-/
namespace Go.Proofs.Ytekcjffdooekaaa
open Go Go.RowKit SZ
set_option linter.unusedVariables false
set_option linter.unusedSimpArgs false
set_option maxRecDepth 100000
attribute [local irreducible] post GD Nxt NxtAll
/-- A row of strings, with room behind it. -/
def rfRow (g : Nat) (S : List ByteArray) : RF := ⟨fun b => b = g, fun w => ∃ cs : List Value, w.heap[g]? = some (.cells cs.toArray 9 (0, 0)) ∧ cs.take S.length = S.map Value.string, fun w h b hb => by
  subst hb
  obtain ⟨cs, h, _⟩ := h
  exact (Array.getElem?_eq_some_iff.1 h).1, fun w w' h hb => by
  obtain ⟨cs, h, q⟩ := h
  exact ⟨cs, (hb g rfl).trans h, q⟩⟩
theorem row_at {w : World} {g : Nat} {S : List ByteArray} (h : (rfRow g S).P w) : StrAt w g 0 S := by
  obtain ⟨cs, h, q⟩ := h
  exact strAt_of h q
/-- A string is stored in a row. -/
theorem row_st {w : World} {g : Nat} {S : List ByteArray} (h : (rfRow g S).P w) (j : Nat) (hj : j < S.length) (s : ByteArray) : (storeVar 9 ⟨g, 0 + j * 1, none⟩ (.string s)).run Try.prog w = .ok () (w.setCells g j [.string s]) ∧ (rfRow g (S.set j s)).P (w.setCells g j [.string s]) := by
  obtain ⟨cs, h, q⟩ := h
  have hl : j < cs.length := by
    have := congrArg List.length q
    simp at this
    omega
  obtain ⟨hr, he⟩ := st_at (P := Try.prog) (ty := 9) (v := .string s) (off := j) (by kernel_rfl) (by kernel_rfl) (by kernel_rfl) h hl
  refine ⟨by rw [Nat.mul_one, Nat.zero_add]; exact hr, _, he, ?_⟩
  rw [List.length_set, List.take_set, List.map_set, q]
def unA (W : List (Int × ByteArray)) : Nat → List ByteArray × List ByteArray → List ByteArray × List ByteArray
  | 0, x => x
  | j + 1, x => unA W j (x.1.set (W.getD j (0, ByteArray.empty)).1.toNat (W.getD j (0, ByteArray.empty)).2, x.2.set j (x.1.getD (W.getD j (0, ByteArray.empty)).1.toNat ByteArray.empty))
theorem mk_run2 (n : Nat) (hn : n ≤ 1000) (w : World) : (Instr.makeSlice 25 (.int .i64 (n : Int)) (.int .i64 (n : Int))).run Try.prog w = .ok (.slice (some ⟨w.heap.size, 0, none⟩) n n) (w.alloc (.cells (zS n 0).toArray 9 (0, 0))) := by
  have hI : (Try.prog.info? 9).map (fun i => (i.zero, i.size, i.bytes)) = some (some (.string ByteArray.empty), 1, 16) := by kernel_rfl
  cases hi : Try.prog.info? 9 with
  | none => rw [hi] at hI; cases hI
  | some i =>
    rw [hi] at hI
    simp only [Option.map_some, Option.some.injEq, Prod.mk.injEq] at hI
    obtain ⟨h1, h2, h3⟩ := hI
    have h := run_makeSlice (P := Try.prog) w 25 9 i (.string ByteArray.empty) Try.underlying25 hi h1 .i64 .i64 (n : Int) (n : Int) (by omega) (by omega) (by rw [h2, Int.toNat_natCast]; omega) (by rw [h3]; omega) (by omega)
    rw [h2, Int.toNat_natCast, Nat.mul_one, made_str] at h
    exact h
theorem sl_hm (c p n cc j : Nat) (h1 : j ≤ cc) (W : World) : (Instr.sliceAt 26 (.slice (some ⟨c, p, none⟩) n cc) none (some (.int .i64 (j : Int))) (some (.int .i64 (j : Int)))).run Try.prog W = .ok (.slice (some ⟨c, p, none⟩) j j) W := by
  have hu : Try.prog.underlying 26 = some (.slice (Try.prog.elem 26)) := by rw [Try.underlying26]; kernel_rfl
  rw [run_sliceAt_slice W _ _ _ _ _ hu, run_slice_any W _ _ _ _ hu]
  have hs : (Instr.sliceBounds true n cc none (some (.int .i64 (j : Int))) (some (.int .i64 (j : Int)))).run Try.prog W = .ok (0, j, j) W := by
    simp [Instr.sliceBounds, run_sliceBound, h1]
  rw [hs]
  have hI : (Try.prog.info? (Try.prog.elem 26)).isSome = true := by kernel_rfl
  have ha : (⟨c, p, none⟩ : Addr).add 0 = ⟨c, p, none⟩ := by unfold Addr.add; split <;> simp_all
  obtain ⟨ii, hi⟩ := Option.isSome_iff_exists.1 hI
  simp [sizeOf, typeInfo, sliced, hi, ha]
noncomputable def udS (g sl sc gd tl : Nat) (ta : Option Addr) (n cc : Nat) : SS := ⟨52, [(0, .v (.slice (some ⟨g, 0, none⟩) sl sc)), (5, .v (.slice (some ⟨gd, 0, none⟩) tl tl)), (6, .v (.slice ta n cc))], []⟩
end Go.Proofs.Ytekcjffdooekaaa


/-
  Layer 22: one write is done again, torn.
-/
namespace Go.Proofs.Ytekcjffdooekaaa
open Go Go.RowKit SZ
set_option linter.unusedVariables false
set_option linter.unusedSimpArgs false
set_option maxRecDepth 100000
attribute [local irreducible] post GD Nxt NxtAll
def tear (a b : ByteArray) (m : Nat) : ByteArray := a.extract 0 m ++ b.extract m b.size
theorem tear_size (a b : ByteArray) (m : Nat) (ha : a.size = 32) (hb : b.size = 32) (hm : m ≤ 32) : (tear a b m).size = 32 := by
  unfold tear
  rw [ByteArray.size_append, ByteArray.size_extract, ByteArray.size_extract]
  omega
def cutOf (cs : List Int) (j : Nat) : Nat := if j < cs.length then (cs.getD j 0 % 33).toNat else 32
theorem cutOf_le (cs : List Int) (j : Nat) : cutOf cs j ≤ 32 := by unfold cutOf; split <;> omega
def IntsAt (w : World) (b o : Nat) (l : List Int) : Prop := ∀ j, j < l.length → w.cell? ⟨b, o + j, none⟩ = some (.int .i64 (l.getD j 0))
def rfIn (b o : Nat) (l : List Int) : RF := ⟨fun b' => b' = b ∧ l.length ≠ 0, fun w => IntsAt w b o l, fun w h b' hb => by
  obtain ⟨rfl, hl⟩ := hb
  exact World.block_lt_of_cell? w _ (h 0 (by omega)), fun w w' h hb j hj => (World.cell?_of_block (a := ⟨b, o + j, none⟩) (hb b ⟨rfl, by omega⟩)).trans (h j hj)⟩
theorem slS_h (s : ByteArray) (m : Nat) (h : m ≤ s.size) (W : World) : (Instr.sliceAt 9 (.string s) none (some (.int .i64 (m : Int))) none).run Try.prog W = .ok (.string (s.extract 0 m)) W := by
  have hu : Try.prog.underlying 9 = some .string := Try.underlying9
  rw [run_sliceAt_string W _ _ _ _ _ hu, run_slice_string_h W _ _ hu _ _ (by omega) (by omega), Int.toNat_natCast]
theorem slS_l (s : ByteArray) (m : Nat) (h : m ≤ s.size) (W : World) : (Instr.sliceAt 9 (.string s) (some (.int .i64 (m : Int))) none none).run Try.prog W = .ok (.string (s.extract m s.size)) W := by
  have hu : Try.prog.underlying 9 = some .string := Try.underlying9
  rw [run_sliceAt_string W _ _ _ _ _ hu, run_slice_string_l W _ _ hu _ _ (by omega) (by omega), Int.toNat_natCast]
theorem gr_own {w0 w : World} {bs : List Nat} {K : List Bx} {g : Nat} (hl : bs.length = K.length) (h0 : ∀ i k, K[i]? = some k → w0.heap[bs.getD i 0]? = some (.cells k.cs.toArray k.ty (0, 0))) (h1 : ∀ i k, K[i]? = some k → w.heap[bs.getD i 0]? = some (.cells k.cs.toArray k.ty (0, 0))) (hg : Gr w0 w (bs ++ [g])) : w0.grownBy w (some g) := by
  refine ⟨hg.os, hg.tape, hg.output, hg.size, fun k hk hne => ?_⟩
  by_cases hm : k ∈ bs
  · obtain ⟨i, hi, rfl⟩ := List.getElem_of_mem hm
    have e : bs.getD i 0 = bs[i] := by simp [List.getD, List.getElem?_eq_getElem hi]
    have hk2 := List.getElem?_eq_getElem (l := K) (show i < K.length by omega)
    rw [← e, h1 i _ hk2, h0 i _ hk2]
  · exact hg.block k hk (by simp only [List.mem_append, List.mem_singleton, not_or]; exact ⟨hm, fun e => hne (by rw [e])⟩)
def rpK (d : Dk) (ca : Option Addr) (cl cc g sl sc gd tl : Nat) : List Bx := [⟨22, [.slice ca cl cc]⟩, ⟨28, d.cs⟩, ⟨25, [.slice (some ⟨gd, 0, none⟩) tl tl]⟩, ⟨25, [.slice (some ⟨g, 0, none⟩) sl sc]⟩]
def rpA (j : Nat) : List SV := [.v (.int .i64 (j : Int)), .p 0 0, .p 1 0, .p 2 0, .p 3 0]
noncomputable def rpS (j m : Nat) (K : List Bx) : SS := ⟨54, [(0, .v (.int .i64 (j : Int))), (1, .p 0 0), (2, .p 1 0), (3, .p 2 0), (4, .p 3 0), (6, .v (.int .i64 (m : Int)))], K⟩
def goM : Nat → Nat → List Nat → List It → List It
  | n + 1, r, ch, .code (.seq x y) :: k => goM n r ch (.code x :: .code y :: k)
  | n + 1, r, ch, .code (.block id c) :: k => goM n r ch (.code c :: .blk id :: k)
  | n + 1, r + 1, ch, .code (.region _ _ _) :: k => goM n r ch k
  | n + 1, r, ch, .code .skip :: k => goM n r ch k
  | n + 1, r, ch, .blk _ :: k => goM n r ch k
  | n + 1, r, c :: ch, .code (.cond _ x y) :: k => goM n r ch (.code (if c = 1 then x else y) :: k)
  | n + 1, r, _ :: ch, .code (.loop _) :: k => goM n r ch k
  | _, _, _, k => k
end Go.Proofs.Ytekcjffdooekaaa


/-
  Layer 22: a row of integers, as an argument.
-/
namespace Go.Proofs.Ytekcjffdooekaaa
open Go.ChangeShapes Go.WideShapes Go.ChangeAt Go.RowKit Go.Deep
set_option maxRecDepth 100000
/-- A row of integers. -/
def HasIn (w : World) (v : Value) (l : List Int) : Prop := ∃ a cap, v = .slice a l.length cap ∧ (l.length = 0 ∨ ∃ b o, a = some ⟨b, o, none⟩ ∧ IntsAt w b o l)
section
variable {H : Type} {enc : TypeId × Value → H} {W : World}
theorem cells_i64 : Try.prog.cellsOf 3 = 1 := by kernel_rfl
theorem open_intsArg {r : Reach} {b0 : Nat} {v : Value} {d : DataW H} {p : List MemPlace} (hv : Value.okWide Try.prog W r b0 22 v) (h : DataW.Trod enc Try.prog W 0 (fun _ => true) true 22 v d p) :
    ∃ l, HasIn W v l := by
  obtain ⟨a0, len0, cap0, rfl⟩ := okWide_slice Try.underlying22 hv
  obtain ⟨fuel, hf⟩ := h
  rcases open_ints Try.underlying22 Try.underlying3 cells_i64 hf with ⟨hcs, _⟩ | ⟨a, len, cap, zs, hcs, _, hl, hm, hz, _, hcell, hwf⟩
  · simp [Value.cells] at hcs
    obtain ⟨rfl, rfl, rfl⟩ := hcs
    exact ⟨[], none, 0, rfl, Or.inl rfl⟩
  · simp [Value.cells] at hcs
    obtain ⟨rfl, rfl, rfl⟩ := hcs
    simp only [if_true] at hz
    have hlen : (zs.take len0).length = len0 := by rw [List.length_take]; omega
    refine ⟨zs.take len0, some a, cap0, by rw [hlen], ?_⟩
    by_cases h0 : len0 = 0
    · exact Or.inl (by rw [hlen]; exact h0)
    · obtain ⟨b, off, spot⟩ := a
      have hspot : spot = none := by simpa [Addr.add] using World.cell?_spot (hcell 0 (by omega))
      subst hspot
      refine Or.inr ⟨b, off, rfl, fun j hj => ?_⟩
      rw [hlen] at hj
      have h1 := hcell j (by omega)
      rw [add_plain] at h1
      rw [h1]
      simp [hj]
end
end Go.Proofs.Ytekcjffdooekaaa


/-
  Layer 22: opening the arguments of DiskKeepsSynced.
-/
namespace Go.Proofs.Ytekcjffdooekaaa
open Go.ChangeShapes Go.WideShapes Go.ChangeAt Go.RowKit Go.Deep
set_option maxRecDepth 100000
set_option linter.unusedVariables false
set_option linter.unusedSimpArgs false
section
variable {H : Type} {enc : TypeId × Value → H} {W : World}
theorem by_trod {c : Value} {x : DataW H × List MemPlace} {n' : Nat} (hf : DataW.trod enc Try.prog W 0 (fun _ => true) true n' 95 [c] = some x) : ∃ l, HasBy W c l ∧ ∀ b ∈ l, b < 256 := by
  rcases open_ints Try.underlying95 Try.underlying5 cells_u8 hf with ⟨hcs, _⟩ | ⟨a, len0, cap0, zs, hcs, _, hl, hm, hz, _, hcell, hwf⟩
  · simp at hcs
    subst hcs
    exact ⟨[], ⟨none, 0, rfl, Nat.le_refl _, Or.inl rfl⟩, by simp⟩
  · simp at hcs
    subst hcs
    simp only [if_true] at hz
    have hb : ∀ n ∈ zs, 0 ≤ n ∧ n < 256 := fun n hn => by have := u8_of_wf (hwf n hn); omega
    have hlen : ((zs.take len0).map Int.toNat).length = len0 := by rw [List.length_map, List.length_take]; omega
    refine ⟨(zs.take len0).map Int.toNat, ⟨some a, cap0, by rw [hlen], by rw [hlen]; exact hl, ?_⟩, ?_⟩
    · by_cases h0 : len0 = 0
      · exact Or.inl (by rw [hlen]; exact h0)
      · obtain ⟨b, off, spot⟩ := a
        have hspot : spot = none := by simpa [Addr.add] using World.cell?_spot (hcell 0 (by omega))
        subst hspot
        refine Or.inr ⟨b, off, rfl, fun j hj => ?_⟩
        rw [hlen] at hj
        have h1 := hcell j (by omega)
        rw [add_plain] at h1
        rw [h1]
        have hjz : j < zs.length := by omega
        have h2 := hb zs[j] (List.getElem_mem hjz)
        simp [List.getD, hj, List.getElem?_eq_getElem hjz]
        omega
    · intro b hb'
      obtain ⟨n, hn, rfl⟩ := List.mem_map.1 hb'
      have := hb n (List.mem_of_mem_take hn)
      omega
theorem in_trod {c : Value} {x : DataW H × List MemPlace} {n' : Nat} (hf : DataW.trod enc Try.prog W 0 (fun _ => true) true n' 22 [c] = some x) : ∃ l, HasIn W c l := by
  rcases open_ints Try.underlying22 Try.underlying3 cells_i64 hf with ⟨hcs, _⟩ | ⟨a, len0, cap0, zs, hcs, _, hl, hm, hz, _, hcell, hwf⟩
  · simp at hcs
    subst hcs
    exact ⟨[], none, 0, rfl, Or.inl rfl⟩
  · simp at hcs
    subst hcs
    simp only [if_true] at hz
    have hlen : (zs.take len0).length = len0 := by rw [List.length_take]; omega
    refine ⟨zs.take len0, some a, cap0, by rw [hlen], ?_⟩
    by_cases h0 : len0 = 0
    · exact Or.inl (by rw [hlen]; exact h0)
    · obtain ⟨b, off, spot⟩ := a
      have hspot : spot = none := by simpa [Addr.add] using World.cell?_spot (hcell 0 (by omega))
      subst hspot
      refine Or.inr ⟨b, off, rfl, fun j hj => ?_⟩
      rw [hlen] at hj
      have h1 := hcell j (by omega)
      rw [add_plain] at h1
      rw [h1]
      simp [hj]
end
end Go.Proofs.Ytekcjffdooekaaa


/-
  Layer 22: a crash.
-/
namespace Go.Proofs.Ytekcjffdooekaaa
open Go Go.RowKit SZ
set_option linter.unusedVariables false
set_option linter.unusedSimpArgs false
set_option maxRecDepth 100000
attribute [local irreducible] post GD Nxt NxtAll
/-- One write is done again. -/
def crJ (W : List (Int × ByteArray)) (cs : List Int) (Dt : List ByteArray) (j : Nat) (S : List ByteArray) : List ByteArray := S.set (W.getD j (0, ByteArray.empty)).1.toNat (tear (Dt.getD j ByteArray.empty) (S.getD (W.getD j (0, ByteArray.empty)).1.toNat ByteArray.empty) (cutOf cs j))
def crA (W : List (Int × ByteArray)) (cs : List Int) (Dt : List ByteArray) : Nat → List ByteArray → List ByteArray
  | 0, S => S
  | j + 1, S => crJ W cs Dt j (crA W cs Dt j S)
def crU (d : Dk) : List ByteArray × List ByteArray := unA d.W d.tl (d.S, List.replicate d.tl ByteArray.empty)
def crS (d : Dk) (cs : List Int) : List ByteArray := crA d.W cs (crU d).2 d.tl (crU d).1
def All32 (S : List ByteArray) : Prop := ∀ j, j < S.length → (S.getD j ByteArray.empty).size = 32
theorem all32_set {S : List ByteArray} (h : All32 S) (i : Nat) (x : ByteArray) (hx : x.size = 32) : All32 (S.set i x) := fun j hj => by
  rw [List.length_set] at hj
  have := h j hj
  simp only [List.getD, List.getElem?_set] at this ⊢
  split
  · split
    · exact hx
    · rename_i h1 h2; subst h1; exact absurd hj h2
  · exact this
theorem unA_inv (W : List (Int × ByteArray)) (n : Nat) : ∀ (m : Nat) (S Dt : List ByteArray), (∀ j, j < m → (0 ≤ (W.getD j (0, ByteArray.empty)).1 ∧ (W.getD j (0, ByteArray.empty)).1 < (n : Int)) ∧ (W.getD j (0, ByteArray.empty)).2.size = 32) → S.length = n → All32 S → m ≤ Dt.length → (∀ j, m ≤ j → j < Dt.length → (Dt.getD j ByteArray.empty).size = 32) → (unA W m (S, Dt)).1.length = n ∧ All32 (unA W m (S, Dt)).1 ∧ (unA W m (S, Dt)).2.length = Dt.length ∧ All32 (unA W m (S, Dt)).2
  | 0, S, Dt, _, hl, hS, _, hD => ⟨hl, hS, rfl, fun j hj => hD j (Nat.zero_le _) hj⟩
  | m + 1, S, Dt, hW, hl, hS, hm, hD => by
    obtain ⟨hx, hy⟩ := hW m (Nat.lt_succ_self _)
    have h := unA_inv W n m (S.set (W.getD m (0, ByteArray.empty)).1.toNat (W.getD m (0, ByteArray.empty)).2) (Dt.set m (S.getD (W.getD m (0, ByteArray.empty)).1.toNat ByteArray.empty)) (fun j hj => hW j (by omega)) (by simp [hl]) (all32_set hS _ _ hy) (by simp; omega) (fun j h1 h2 => by
      rw [List.length_set] at h2
      simp only [List.getD, List.getElem?_set]
      have e1 := hS (W.getD m (0, ByteArray.empty)).1.toNat (by omega)
      split
      · split
        · exact e1
        · omega
      · have := hD j (by omega) h2
        exact this)
    simp only [List.length_set] at h
    exact h
theorem crA_inv (W : List (Int × ByteArray)) (cs : List Int) (n : Nat) (Dt : List ByteArray) (hD : All32 Dt) : ∀ (m : Nat) (S : List ByteArray), (∀ j, j < m → (0 ≤ (W.getD j (0, ByteArray.empty)).1 ∧ (W.getD j (0, ByteArray.empty)).1 < (n : Int))) → m ≤ Dt.length → S.length = n → All32 S → (crA W cs Dt m S).length = n ∧ All32 (crA W cs Dt m S)
  | 0, S, _, _, hl, hS => ⟨hl, hS⟩
  | m + 1, S, hW, hm, hl, hS => by
    obtain ⟨h1, h2⟩ := crA_inv W cs n Dt hD m S (fun j hj => hW j (by omega)) (by omega) hl hS
    have hx := hW m (Nat.lt_succ_self _)
    exact ⟨by simp [crA, crJ, h1], all32_set h2 _ _ (tear_size _ _ _ (hD m (by omega)) (h2 _ (by omega)) (cutOf_le _ _))⟩
theorem crU_inv (d : Dk) (hd : d.ok) (hr : d.right) : (crU d).1.length = d.sl ∧ All32 (crU d).1 ∧ (crU d).2.length = d.tl ∧ All32 (crU d).2 := by
  have h := unA_inv d.W d.sl d.tl d.S (List.replicate d.tl ByteArray.empty) hr.w hd.hS (fun j hj => hr.s j (by rw [← hd.hS]; exact hj)) (by simp) (fun j h1 h2 => by simp at h2; omega)
  simpa [crU] using h
theorem crS_inv (d : Dk) (hd : d.ok) (hr : d.right) (cs : List Int) : (crS d cs).length = d.sl ∧ All32 (crS d cs) := by
  obtain ⟨h1, h2, h3, h4⟩ := crU_inv d hd hr
  exact crA_inv d.W cs d.sl _ h4 d.tl _ (fun j hj => (hr.w j hj).1) (by omega) h1 h2
def crK (d : Dk) (ca : Option Addr) (cl cc g sc gd : Nat) : List Bx := [⟨28, d.cs⟩, ⟨22, [.slice ca cl cc]⟩, ⟨28, [.slice none 0 0, .slice none 0 0]⟩, ⟨25, [.slice (some ⟨g, 0, none⟩) d.sl sc]⟩, ⟨25, [.slice (some ⟨gd, 0, none⟩) d.tl d.tl]⟩]
end Go.Proofs.Ytekcjffdooekaaa


/-
  Layer 22: what the bytes are after a crash.
-/
namespace Go.Proofs.Ytekcjffdooekaaa
open Go Go.RowKit SZ
set_option linter.unusedVariables false
set_option linter.unusedSimpArgs false
set_option maxRecDepth 100000
attribute [local irreducible] post GD Nxt NxtAll
theorem gset_eq {α : Type} (l : List α) (i : Nat) (x z : α) (h : i < l.length) : (l.set i x).getD i z = x := by simp [List.getD, List.getElem?_set, h]
theorem gset_ne {α : Type} (l : List α) (i j : Nat) (x z : α) (h : i ≠ j) : (l.set i x).getD j z = l.getD j z := by simp [List.getD, List.getElem?_set, h]
theorem set_back {α : Type} (l : List α) (i : Nat) (x z : α) : (l.set i x).set i (l.getD i z) = l := by
  rw [List.set_set]
  by_cases h : i < l.length
  · have e : l.getD i z = l[i] := by simp [List.getD, List.getElem?_eq_getElem h]
    rw [e, List.set_getElem_self]
  · exact List.set_eq_of_length_le (by omega)
def byt (s : ByteArray) (k : Nat) : Nat := (s.data.toList.getD k 0).toNat
theorem byt_ix (s : ByteArray) (k : Nat) (h : k < s.size) : (s[k]'h).toNat = byt s k := by
  have h2 : k < s.data.toList.length := by simpa using h
  unfold byt
  rw [List.getD, List.getElem?_eq_getElem h2]
  rfl
theorem byt_tear (a b : ByteArray) (m k : Nat) (ha : a.size = 32) (hb : b.size = 32) (hm : m ≤ 32) (hk : k < 32) : byt (tear a b m) k = if k < m then byt a k else byt b k := by
  have ha2 : a.data.toList.length = 32 := by simpa using ha
  have hb2 : b.data.toList.length = 32 := by simpa using hb
  have e : (tear a b m).data.toList = a.data.toList.take m ++ b.data.toList.drop m := by
    unfold tear
    rw [ByteArray.data_append, ByteArray.data_extract, ByteArray.data_extract, Array.toList_append]
    simp
    rw [List.take_of_length_le (by simp [hb2, hb])]
  unfold byt
  rw [e]
  simp only [List.getD, List.getElem?_append, List.length_take, ha2, List.getElem?_take, List.getElem?_drop]
  by_cases h : k < m
  · rw [if_pos (by omega), if_pos h, if_pos h]
  · rw [if_neg (by omega), if_neg h, show m + (k - min m 32) = k by omega]
/-- Every byte is the old one or one of a write to that sector. -/
theorem crA_byt (W : List (Int × ByteArray)) (cs : List Int) (n : Nat) (Dt : List ByteArray) (hD : All32 Dt) (a k : Nat) (ha : a < n) (hk : k < 32) : ∀ (m : Nat) (S : List ByteArray), (∀ j, j < m → (0 ≤ (W.getD j (0, ByteArray.empty)).1 ∧ (W.getD j (0, ByteArray.empty)).1 < (n : Int))) → m ≤ Dt.length → S.length = n → All32 S →
    byt ((crA W cs Dt m S).getD a ByteArray.empty) k = byt (S.getD a ByteArray.empty) k ∨ ∃ j, j < m ∧ (W.getD j (0, ByteArray.empty)).1 = (a : Int) ∧ byt ((crA W cs Dt m S).getD a ByteArray.empty) k = byt (Dt.getD j ByteArray.empty) k
  | 0, S, _, _, _, _ => Or.inl rfl
  | m + 1, S, hW, hm, hl, hS => by
    have ih := crA_byt W cs n Dt hD a k ha hk m S (fun j hj => hW j (by omega)) (by omega) hl hS
    obtain ⟨h1, h2⟩ := crA_inv W cs n Dt hD m S (fun j hj => hW j (by omega)) (by omega) hl hS
    have hx := hW m (Nat.lt_succ_self _)
    have ih' : byt ((crA W cs Dt m S).getD a ByteArray.empty) k = byt (S.getD a ByteArray.empty) k ∨ ∃ j, j < m + 1 ∧ (W.getD j (0, ByteArray.empty)).1 = (a : Int) ∧ byt ((crA W cs Dt m S).getD a ByteArray.empty) k = byt (Dt.getD j ByteArray.empty) k := ih.imp id fun ⟨j, hj, q⟩ => ⟨j, by omega, q⟩
    by_cases he : (W.getD m (0, ByteArray.empty)).1.toNat = a
    · have e : (crA W cs Dt (m + 1) S).getD a ByteArray.empty = tear (Dt.getD m ByteArray.empty) ((crA W cs Dt m S).getD a ByteArray.empty) (cutOf cs m) := by
        show (List.set _ _ _).getD a ByteArray.empty = _
        rw [he]
        exact gset_eq _ _ _ _ (by rw [h1]; exact ha)
      rw [e, byt_tear _ _ _ _ (hD m (by omega)) (h2 a (by omega)) (cutOf_le _ _) hk]
      by_cases hc : k < cutOf cs m
      · rw [if_pos hc]
        exact Or.inr ⟨m, by omega, by omega, rfl⟩
      · rw [if_neg hc]
        exact ih'
    · have e : (crA W cs Dt (m + 1) S).getD a ByteArray.empty = (crA W cs Dt m S).getD a ByteArray.empty := by
        exact gset_ne _ _ _ _ _ he
      rw [e]
      exact ih'
theorem unA_app (W X : List (Int × ByteArray)) : ∀ (m : Nat) (x : List ByteArray × List ByteArray), m ≤ W.length → unA (W ++ X) m x = unA W m x
  | 0, x, _ => rfl
  | m + 1, x, h => by
    have e : (W ++ X).getD m (0, ByteArray.empty) = W.getD m (0, ByteArray.empty) := by simp [List.getD, List.getElem?_append_left (show m < W.length by omega)]
    simp only [unA]
    rw [e]
    exact unA_app W X m _ (by omega)
/-- What a list of commands without a sync does, and what undoes it. -/
structure UnR (n : Nat) (S0 : List ByteArray) (D0 : List (Int × ByteArray)) (l : List Nat) (x : List ByteArray × List (Int × ByteArray) × List (Int × ByteArray)) : Prop where
  len : x.1.length = n
  wl : x.2.1.length = l.length
  w1 : ∀ j, j < l.length → (x.2.1.getD j (0, ByteArray.empty)).1 = ((l.getD j 0 % n : Nat) : Int)
  d : x.2.2 = D0 ++ l.map fun c => (((c % n : Nat) : Int), fullS (c : Int))
  un : ∀ Dt : List ByteArray, l.length ≤ Dt.length → (unA x.2.1 l.length (x.1, Dt)).1 = S0 ∧ (unA x.2.1 l.length (x.1, Dt)).2.length = Dt.length ∧ ∀ j, (unA x.2.1 l.length (x.1, Dt)).2.getD j ByteArray.empty = if j < l.length then fullS ((l.getD j 0 : Nat) : Int) else Dt.getD j ByteArray.empty
theorem unr_all (n : Nat) (hn : 0 < n) (S0 : List ByteArray) (hS : S0.length = n) (D0 : List (Int × ByteArray)) : ∀ (m : Nat) (l : List Nat), l.length = m → (∀ c ∈ l, c ≠ 255) → UnR n S0 D0 l (l.foldl (wstep n) (S0, [], D0))
  | 0, l, hm, _ => by
    obtain rfl := List.eq_nil_of_length_eq_zero hm
    exact ⟨hS, rfl, fun j hj => absurd hj (Nat.not_lt_zero _), by simp, fun Dt _ => ⟨rfl, rfl, fun j => by simp [unA]⟩⟩
  | m + 1, l, hm, h => by
    obtain ⟨l', c, rfl⟩ : ∃ l' c, l = l' ++ [c] := by
      rcases List.eq_nil_or_concat l with e | ⟨l', c, e⟩
      · rw [e] at hm; cases hm
      · exact ⟨l', c, by rw [e, List.concat_eq_append]⟩
    have hl : l'.length = m := by simpa using hm
    have ih := unr_all n hn S0 hS D0 m l' hl (fun c hc => h c (List.mem_append_left _ hc))
    have hc : c ≠ 255 := h c (by simp)
    have hcn := Nat.mod_lt c hn
    rw [List.foldl_append]
    generalize l'.foldl (wstep n) (S0, [], D0) = x at ih ⊢
    have e : List.foldl (wstep n) x [c] = (x.1.set (c % n) (fullS (c : Int)), x.2.1 ++ [(((c % n : Nat) : Int), x.1.getD (c % n) ByteArray.empty)], x.2.2 ++ [(((c % n : Nat) : Int), fullS (c : Int))]) := by
      simp [wstep, hc]
    rw [e]
    refine ⟨by simp [ih.len], by simp [ih.wl], fun j hj => ?_, by simp [ih.d], fun Dt hDt => ?_⟩
    · by_cases hjl : j < l'.length
      · have := ih.w1 j hjl
        show ((x.2.1 ++ _).getD j (0, ByteArray.empty)).1 = _
        simp only [List.getD, List.getElem?_append_left (show j < x.2.1.length by rw [ih.wl]; exact hjl), List.getElem?_append_left hjl] at this ⊢
        exact this
      · obtain rfl : j = l'.length := by simp at hj; omega
        show ((x.2.1 ++ _).getD l'.length (0, ByteArray.empty)).1 = _
        rw [← ih.wl]
        simp only [List.getD, List.getElem?_concat_length, Option.getD_some]
        rw [ih.wl, List.getElem?_concat_length]
        rfl
    · have hDt' : l'.length < Dt.length := by simp at hDt; omega
      have e1 : (l' ++ [c]).length = l'.length + 1 := by simp
      have e2 : (x.2.1 ++ [(((c % n : Nat) : Int), x.1.getD (c % n) ByteArray.empty)]).getD l'.length (0, ByteArray.empty) = (((c % n : Nat) : Int), x.1.getD (c % n) ByteArray.empty) := by
        rw [← ih.wl]
        simp only [List.getD, List.getElem?_concat_length, Option.getD_some]
      have e3 : unA (x.2.1 ++ [(((c % n : Nat) : Int), x.1.getD (c % n) ByteArray.empty)]) (l' ++ [c]).length (x.1.set (c % n) (fullS (c : Int)), Dt) = unA x.2.1 l'.length (x.1, Dt.set l'.length (fullS (c : Int))) := by
        rw [e1]
        show unA _ l'.length (List.set _ _ _, List.set _ _ _) = _
        rw [e2]
        show unA _ l'.length ((x.1.set (c % n) (fullS (c : Int))).set (((c % n : Nat) : Int)).toNat (x.1.getD (c % n) ByteArray.empty), Dt.set l'.length ((x.1.set (c % n) (fullS (c : Int))).getD (((c % n : Nat) : Int)).toNat ByteArray.empty)) = _
        rw [Int.toNat_natCast, set_back, gset_eq _ _ _ _ (by rw [ih.len]; exact hcn), unA_app _ _ _ _ (by rw [ih.wl]; exact Nat.le_refl _)]
      show (unA (x.2.1 ++ _) _ (_, Dt)).1 = S0 ∧ _
      rw [e3]
      obtain ⟨h1, h2, h3⟩ := ih.un (Dt.set l'.length (fullS (c : Int))) (by simp; omega)
      refine ⟨h1, by rw [h2, List.length_set], fun j => ?_⟩
      rw [h3 j]
      by_cases hj : j < l'.length
      · rw [if_pos hj, if_pos (by omega)]
        simp [List.getD, List.getElem?_append_left hj]
      · rw [if_neg hj]
        by_cases hj2 : j = l'.length
        · subst hj2
          rw [if_pos (by omega), gset_eq _ _ _ _ hDt']
          simp only [List.getD, List.getElem?_concat_length, Option.getD_some]
        · rw [if_neg (by omega), gset_ne _ _ _ _ _ (fun e => hj2 e.symm)]
/-- Behind the last sync. -/
def lastS (l : List Nat) : Nat → Nat
  | 0 => 0
  | i + 1 => if l.getD i 0 = 255 then i + 1 else lastS l i
theorem lastS_le (l : List Nat) : ∀ i, lastS l i ≤ i
  | 0 => Nat.le_refl _
  | i + 1 => by
    unfold lastS
    split
    · exact Nat.le_refl _
    · exact Nat.le_succ_of_le (lastS_le l i)
theorem lastS_ne (l : List Nat) : ∀ i j, lastS l i ≤ j → j < i → l.getD j 0 ≠ 255
  | 0, j, _, h => absurd h (Nat.not_lt_zero _)
  | i + 1, j, h1, h2 => by
    unfold lastS at h1
    split at h1
    · omega
    · rename_i h
      by_cases e : j = i
      · rw [e]; exact h
      · exact lastS_ne l i j h1 (by omega)
theorem lastS_at (l : List Nat) : ∀ i, lastS l i = 0 ∨ (0 < lastS l i ∧ l.getD (lastS l i - 1) 0 = 255)
  | 0 => Or.inl rfl
  | i + 1 => by
    unfold lastS
    split
    · exact Or.inr ⟨Nat.succ_pos _, by assumption⟩
    · exact lastS_at l i
theorem wall_last (n : Nat) (l : List Nat) (p : Nat) (hp : p = lastS l l.length) : (wall n (l.take p)).2.1 = [] := by
  rcases lastS_at l l.length with h | ⟨h1, h2⟩
  · rw [hp, h]; rfl
  · have hle := lastS_le l l.length
    have e := wall_succ n l (p - 1) (by omega)
    rw [show p - 1 + 1 = p by omega, show l.getD (p - 1) 0 = 255 by rw [hp]; exact h2] at e
    rw [e]
    rfl
def isA (s o : ByteArray) (D : List (Int × ByteArray)) (a k b0 : Nat) : Nat → Bool
  | 0 => decide (((byt s k : Nat) : Int) = ((byt o k : Nat) : Int))
  | j + 1 => isA s o D a k b0 j || (decide ((D.getD (b0 + j) (0, ByteArray.empty)).1 = (a : Int)) && decide (((byt s k : Nat) : Int) = ((byt (D.getD (b0 + j) (0, ByteArray.empty)).2 k : Nat) : Int)))
theorem isA_of (s o : ByteArray) (D : List (Int × ByteArray)) (a k b0 : Nat) : ∀ m, (byt s k = byt o k ∨ ∃ j, j < m ∧ (D.getD (b0 + j) (0, ByteArray.empty)).1 = (a : Int) ∧ byt s k = byt (D.getD (b0 + j) (0, ByteArray.empty)).2 k) → isA s o D a k b0 m = true
  | 0, h => by
    rcases h with h | ⟨j, hj, _⟩
    · simp [isA, h]
    · omega
  | m + 1, h => by
    simp only [isA, Bool.or_eq_true, Bool.and_eq_true, decide_eq_true_eq]
    rcases h with h | ⟨j, hj, h1, h2⟩
    · exact Or.inl (isA_of s o D a k b0 m (Or.inl h))
    · by_cases e : j = m
      · subst e; exact Or.inr ⟨h1, by rw [h2]⟩
      · exact Or.inl (isA_of s o D a k b0 m (Or.inr ⟨j, by omega, h1, h2⟩))
/-- Each byte of the device after a crash. -/
theorem tears (n : Nat) (hn : 0 < n) (l : List Nat) (d : Dk) (hd : d.ok) (hr : d.right) (hsl : d.sl = n) (D : List (Int × ByteArray)) (he : wall n l = (d.S, d.W, D)) (S2 : List ByteArray) (W2 D2 : List (Int × ByteArray)) (he2 : wall n (l.take (lastS l l.length)) = (S2, W2, D2)) (cs : List Int) :
    (S2.length = n ∧ All32 S2) ∧ D2.length ≤ D.length ∧ ∀ a k, a < n → k < 32 → isA ((crS d cs).getD a ByteArray.empty) (S2.getD a ByteArray.empty) D a k D2.length (D.length - D2.length) = true := by
  have hle := lastS_le l l.length
  have hv2 := winv n hn (l.take (lastS l l.length))
  have hw2 := wall_last n l _ rfl
  rw [he2] at hv2 hw2
  have hw2' : W2 = [] := hw2
  subst hw2'
  have e0 : (l.drop (lastS l l.length)).foldl (wstep n) (S2, [], D2) = (d.S, d.W, D) := by
    rw [← he, ← he2]
    unfold wall
    rw [← List.foldl_append, List.take_append_drop]
  have hu := unr_all n hn S2 hv2.len D2 _ (l.drop (lastS l l.length)) rfl (fun c hc => by
    obtain ⟨j, hj, rfl⟩ := List.getElem_of_mem hc
    have hj2 : j < l.length - lastS l l.length := by simpa using hj
    have h1 := lastS_ne l l.length (lastS l l.length + j) (by omega) (by omega)
    rw [List.getElem_drop]
    intro e
    apply h1
    rw [List.getD, List.getElem?_eq_getElem (by omega)]
    exact e)
  rw [e0] at hu
  have hS2 : S2.length = n ∧ All32 S2 := ⟨hv2.len, fun j hj => hv2.sz _ (getD_mem _ _ _ hj)⟩
  have htl : d.tl = (l.drop (lastS l l.length)).length := by rw [← hd.hW]; exact hu.wl
  have hD : D = D2 ++ (l.drop (lastS l l.length)).map fun c => (((c % n : Nat) : Int), fullS (c : Int)) := hu.d
  generalize l.drop (lastS l l.length) = l' at hu htl hD
  refine ⟨hS2, by rw [hD, List.length_append]; omega, fun a k ha hk => ?_⟩
  obtain ⟨h1, h2, h3⟩ := hu.un (List.replicate d.tl ByteArray.empty) (by simp; omega)
  obtain ⟨hu1, hu2, hu3, hu4⟩ := crU_inv d hd hr
  have hc : crU d = unA d.W l'.length (d.S, List.replicate d.tl ByteArray.empty) := by unfold crU; rw [htl]
  have hb := crA_byt d.W cs n (crU d).2 hu4 a k ha hk d.tl (crU d).1 (fun j hj => by have := (hr.w j hj).1; rw [hsl] at this; exact this) (by omega) (by rw [hu1, hsl]) hu2
  have e1 : (crU d).1 = S2 := by rw [hc]; exact h1
  rw [show crA d.W cs (crU d).2 d.tl (crU d).1 = crS d cs from rfl, e1] at hb
  refine isA_of _ _ _ _ _ _ _ (hb.imp id fun ⟨j, hj, q1, q2⟩ => ?_)
  have hjl : j < l'.length := by omega
  have eD : D.getD (D2.length + j) (0, ByteArray.empty) = (((l'.getD j 0 % n : Nat) : Int), fullS ((l'.getD j 0 : Nat) : Int)) := by
    rw [hD]
    simp [List.getD, List.getElem?_append_right, List.getElem?_eq_getElem hjl]
  refine ⟨j, by rw [hD, List.length_append, List.length_map]; omega, ?_, ?_⟩
  · rw [eD, ← q1]
    exact (hu.w1 j hjl).symm
  · rw [eD, q2, hc]
    have := h3 j
    rw [if_pos hjl] at this
    show byt ((unA d.W l'.length (d.S, List.replicate d.tl ByteArray.empty)).2.getD j ByteArray.empty) k = _
    rw [this]
theorem sl_pre (a : Option Addr) (n c m : Nat) (h : m ≤ c) (W : World) : (Instr.sliceAt 95 (.slice a n c) none (some (.int .i64 (m : Int))) none).run Try.prog W = .ok (.slice a m c) W := by
  have hu : Try.prog.underlying 95 = some (.slice (Try.prog.elem 95)) := by rw [Try.underlying95]; kernel_rfl
  rw [run_sliceAt_slice W _ _ _ _ _ hu, run_slice_any W _ _ _ _ hu]
  have hs : (Instr.sliceBounds true n c none (some (.int .i64 (m : Int))) none).run Try.prog W = .ok (0, m, c) W := by
    simp [Instr.sliceBounds, run_sliceBound, h]
  rw [hs]
  have hI : (Try.prog.info? (Try.prog.elem 95)).isSome = true := by kernel_rfl
  obtain ⟨ii, hi⟩ := Option.isSome_iff_exists.1 hI
  have ha : (if c = 0 then a else a.map (·.add (0 * ii.size))) = a := by
    rw [Nat.zero_mul]
    have e : (fun x : Addr => x.add 0) = id := by funext x; simp [Addr.add]
    rw [e, Option.map_id]
    simp
  simp [sizeOf, typeInfo, sliced, hi]
  simpa using ha
/-- A byte of a string. -/
theorem ex_ix {s : SS} {bs : List Nat} {x y : Operand} {t ty : TypeId} {p : ByteArray} {k : Nat} (ht : Try.prog.underlying t = some .string) (hx : s.val x = some (.v (.string p))) (hy : s.val y = some (.v (.int .i64 (k : Int)))) (hk : k < p.size) :
    ∀ (o : Oper) (ρ : Operand → Value) (W : World), o.op = .index t x y → o.type = ty → (∀ x y, s.val x = some y → ρ x = den bs y) → (execOp ρ o).run Try.prog W = .ok (.value (.int .u8 ((byt p k : Nat) : Int))) W := by
  intro o ρ W h1 h2 h3
  have e1 : ρ x = .string p := h3 x _ hx
  have e2 : ρ y = .int .i64 (k : Int) := h3 y _ hy
  have hr : ∀ W, (Instr.index t (.string p) (.int .i64 (k : Int))).run Try.prog W = .ok (.int .u8 ((byt p k : Nat) : Int)) W := fun W => by
    rw [run_index_string W t p .i64 _ ht, dif_pos ⟨by omega, by omega⟩]
    have e := byt_ix p k hk
    simp only [Int.toNat_natCast]
    rw [e]
  unfold execOp
  simp only [h1, e1, e2, Sem.run_bind, Sem.run_pure, Result.andThen_ok, hr]
theorem ex_eqI {s : SS} {bs : List Nat} {x y : Operand} {t t' ty : TypeId} {ki : IntKind} {p q : Int} {b : Bool} (hx : s.val x = some (.v (.int ki p))) (hy : s.val y = some (.v (.int ki q))) (hb : decide (p = q) = b) :
    ∀ (o : Oper) (ρ : Operand → Value) (W : World), o.op = .binOp .eql t x y t' → o.type = ty → (∀ x y, s.val x = some y → ρ x = den bs y) → (execOp ρ o).run Try.prog W = .ok (.value (.bool b)) W := by
  intro o ρ W h1 h2 h3
  have e1 : ρ x = .int ki p := h3 x _ hx
  have e2 : ρ y = .int ki q := h3 y _ hy
  subst hb
  have hb2 : (p == q) = decide (p = q) := rfl
  unfold execOp
  simp only [h1, e1, e2, eqGuard, binOp_eql, hb2, Sem.run_bind, Sem.run_pure, Result.andThen_ok]
  rfl
end Go.Proofs.Ytekcjffdooekaaa


/-
  Layer 22: writes behind a sync; equality of devices.
-/
namespace Go.Proofs.Ytekcjffdooekaaa
open Go Go.RowKit SZ
set_option linter.unusedVariables false
set_option linter.unusedSimpArgs false
set_option maxRecDepth 100000
attribute [local irreducible] post GD Nxt NxtAll
def wput (n : Nat) (x : List ByteArray × List (Int × ByteArray) × List (Int × ByteArray)) (c : Nat) : List ByteArray × List (Int × ByteArray) × List (Int × ByteArray) := (x.1.set (c % n) (fullS (c : Int)), x.2.1 ++ [(((c % n : Nat) : Int), x.1.getD (c % n) ByteArray.empty)], x.2.2 ++ [(((c % n : Nat) : Int), fullS (c : Int))])
theorem unr_put (n : Nat) (hn : 0 < n) (S0 : List ByteArray) (hS : S0.length = n) (D0 : List (Int × ByteArray)) : ∀ (m : Nat) (l : List Nat), l.length = m → UnR n S0 D0 l (l.foldl (wput n) (S0, [], D0))
  | 0, l, hm => by
    obtain rfl := List.eq_nil_of_length_eq_zero hm
    exact ⟨hS, rfl, fun j hj => absurd hj (Nat.not_lt_zero _), by simp, fun Dt _ => ⟨rfl, rfl, fun j => by simp [unA]⟩⟩
  | m + 1, l, hm => by
    obtain ⟨l', c, rfl⟩ : ∃ l' c, l = l' ++ [c] := by
      rcases List.eq_nil_or_concat l with e | ⟨l', c, e⟩
      · rw [e] at hm; cases hm
      · exact ⟨l', c, by rw [e, List.concat_eq_append]⟩
    have hl : l'.length = m := by simpa using hm
    have ih := unr_put n hn S0 hS D0 m l' hl
    have hcn := Nat.mod_lt c hn
    rw [List.foldl_append]
    generalize l'.foldl (wput n) (S0, [], D0) = x at ih ⊢
    have e : List.foldl (wput n) x [c] = (x.1.set (c % n) (fullS (c : Int)), x.2.1 ++ [(((c % n : Nat) : Int), x.1.getD (c % n) ByteArray.empty)], x.2.2 ++ [(((c % n : Nat) : Int), fullS (c : Int))]) := by
      simp [wput]
    rw [e]
    refine ⟨by simp [ih.len], by simp [ih.wl], fun j hj => ?_, by simp [ih.d], fun Dt hDt => ?_⟩
    · by_cases hjl : j < l'.length
      · have := ih.w1 j hjl
        show ((x.2.1 ++ _).getD j (0, ByteArray.empty)).1 = _
        simp only [List.getD, List.getElem?_append_left (show j < x.2.1.length by rw [ih.wl]; exact hjl), List.getElem?_append_left hjl] at this ⊢
        exact this
      · obtain rfl : j = l'.length := by simp at hj; omega
        show ((x.2.1 ++ _).getD l'.length (0, ByteArray.empty)).1 = _
        rw [← ih.wl]
        simp only [List.getD, List.getElem?_concat_length, Option.getD_some]
        rw [ih.wl, List.getElem?_concat_length]
        rfl
    · have hDt' : l'.length < Dt.length := by simp at hDt; omega
      have e1 : (l' ++ [c]).length = l'.length + 1 := by simp
      have e2 : (x.2.1 ++ [(((c % n : Nat) : Int), x.1.getD (c % n) ByteArray.empty)]).getD l'.length (0, ByteArray.empty) = (((c % n : Nat) : Int), x.1.getD (c % n) ByteArray.empty) := by
        rw [← ih.wl]
        simp only [List.getD, List.getElem?_concat_length, Option.getD_some]
      have e3 : unA (x.2.1 ++ [(((c % n : Nat) : Int), x.1.getD (c % n) ByteArray.empty)]) (l' ++ [c]).length (x.1.set (c % n) (fullS (c : Int)), Dt) = unA x.2.1 l'.length (x.1, Dt.set l'.length (fullS (c : Int))) := by
        rw [e1]
        show unA _ l'.length (List.set _ _ _, List.set _ _ _) = _
        rw [e2]
        show unA _ l'.length ((x.1.set (c % n) (fullS (c : Int))).set (((c % n : Nat) : Int)).toNat (x.1.getD (c % n) ByteArray.empty), Dt.set l'.length ((x.1.set (c % n) (fullS (c : Int))).getD (((c % n : Nat) : Int)).toNat ByteArray.empty)) = _
        rw [Int.toNat_natCast, set_back, gset_eq _ _ _ _ (by rw [ih.len]; exact hcn), unA_app _ _ _ _ (by rw [ih.wl]; exact Nat.le_refl _)]
      show (unA (x.2.1 ++ _) _ (_, Dt)).1 = S0 ∧ _
      rw [e3]
      obtain ⟨h1, h2, h3⟩ := ih.un (Dt.set l'.length (fullS (c : Int))) (by simp; omega)
      refine ⟨h1, by rw [h2, List.length_set], fun j => ?_⟩
      rw [h3 j]
      by_cases hj : j < l'.length
      · rw [if_pos hj, if_pos (by omega)]
        simp [List.getD, List.getElem?_append_left hj]
      · rw [if_neg hj]
        by_cases hj2 : j = l'.length
        · subst hj2
          rw [if_pos (by omega), gset_eq _ _ _ _ hDt']
          simp only [List.getD, List.getElem?_concat_length, Option.getD_some]
        · rw [if_neg (by omega), gset_ne _ _ _ _ _ (fun e => hj2 e.symm)]
def mput (n : Nat) (S0 : List ByteArray) (l : List Nat) : List ByteArray × List (Int × ByteArray) × List (Int × ByteArray) := l.foldl (wput n) (S0, [], [])
theorem mput_succ (n : Nat) (S0 : List ByteArray) (l : List Nat) (i : Nat) (h : i < l.length) : mput n S0 (l.take (i + 1)) = wput n (mput n S0 (l.take i)) (l.getD i 0) := by
  have e := List.take_succ_eq_append_getElem h
  unfold mput
  rw [e, List.foldl_append]
  simp [List.getD, List.getElem?_eq_getElem h]
theorem tear_0 (a b : ByteArray) : tear a b 0 = b := by
  unfold tear
  rw [show a.extract 0 0 = ByteArray.empty by simp, ByteArray.empty_append, ByteArray.extract_zero_size]
theorem tear_32 (a b : ByteArray) (ha : a.size = 32) (hb : b.size = 32) : tear a b 32 = a := by
  unfold tear
  rw [hb, show b.extract 32 32 = ByteArray.empty by simp, ByteArray.append_empty, ← ha, ByteArray.extract_zero_size]
theorem crA_un (W : List (Int × ByteArray)) (cs : List Int) (Dt : List ByteArray) (a : Nat) : ∀ (m : Nat) (S : List ByteArray), (∀ j, j < m → (W.getD j (0, ByteArray.empty)).1.toNat ≠ a) → (crA W cs Dt m S).getD a ByteArray.empty = S.getD a ByteArray.empty
  | 0, S, _ => rfl
  | m + 1, S, h => by
    show (List.set _ _ _).getD a ByteArray.empty = _
    rw [gset_ne _ _ _ _ _ (h m (Nat.lt_succ_self _))]
    exact crA_un W cs Dt a m S fun j hj => h j (by omega)
theorem crA_none (W : List (Int × ByteArray)) (cs : List Int) (Dt : List ByteArray) (hc : ∀ j, cutOf cs j = 0 ∨ j ≥ W.length) : ∀ (m : Nat) (S : List ByteArray), m ≤ W.length → crA W cs Dt m S = S
  | 0, S, _ => rfl
  | m + 1, S, h => by
    show List.set _ _ _ = _
    rw [crA_none W cs Dt hc m S (by omega), (hc m).resolve_right (by omega), tear_0]
    have e := set_back S (W.getD m (0, ByteArray.empty)).1.toNat ByteArray.empty ByteArray.empty
    rw [List.set_set] at e
    exact e
/-- A crash behind some writes. -/
structure Keeps (n : Nat) (S0 : List ByteArray) (l : List Nat) (d : Dk) : Prop where
  none : ∀ cs : List Int, (∀ j, j < l.length → cutOf cs j = 0) → crS d cs = S0
  all : crS d [] = d.S
  un : ∀ cs a, a < n → (∀ j, j < l.length → l.getD j 0 % n ≠ a) → (crS d cs).getD a ByteArray.empty = S0.getD a ByteArray.empty
theorem keeps (n : Nat) (hn : 0 < n) (S0 : List ByteArray) (hS : S0.length = n) (l : List Nat) (d : Dk) (hd : d.ok) (hr : d.right) (hsl : d.sl = n) (D : List (Int × ByteArray)) (he : mput n S0 l = (d.S, d.W, D)) : Keeps n S0 l d := by
  have hu := unr_put n hn S0 hS [] _ l rfl
  rw [show l.foldl (wput n) (S0, [], []) = mput n S0 l from rfl, he] at hu
  have htl : d.tl = l.length := by rw [← hd.hW]; exact hu.wl
  obtain ⟨h1, h2, h3⟩ := hu.un (List.replicate d.tl ByteArray.empty) (by simp; omega)
  have hc : crU d = unA d.W l.length (d.S, List.replicate d.tl ByteArray.empty) := by unfold crU; rw [htl]
  have e1 : (crU d).1 = S0 := by rw [hc]; exact h1
  have e2 : ∀ j, j < l.length → (crU d).2.getD j ByteArray.empty = fullS ((l.getD j 0 : Nat) : Int) := fun j hj => by
    have := h3 j
    rw [if_pos hj] at this
    rw [hc]; exact this
  have e3 : ∀ cs, crS d cs = crA d.W cs (crU d).2 l.length S0 := fun cs => by unfold crS; rw [e1, htl]
  refine ⟨fun cs h => ?_, ?_, fun cs a ha h => ?_⟩
  · rw [e3]
    exact crA_none d.W cs _ (fun j => by rcases Nat.lt_or_ge j l.length with q | q; exact Or.inl (h j q); exact Or.inr (by rw [show d.W.length = l.length from hu.wl]; exact q)) _ _ (by rw [show d.W.length = l.length from hu.wl]; exact Nat.le_refl _)
  · rw [e3]
    obtain ⟨hu1, hu2, hu3, hu4⟩ := crU_inv d hd hr
    rw [e1] at hu1 hu2
    have key : ∀ m, m ≤ l.length → crA d.W [] (crU d).2 m S0 = (mput n S0 (l.take m)).1 := by
      intro m
      induction m with
      | zero => intro _; rfl
      | succ m ih =>
        intro hm
        rw [mput_succ n S0 l m (by omega)]
        show crJ d.W [] (crU d).2 m (crA d.W [] (crU d).2 m S0) = ((mput n S0 (l.take m)).1.set (l.getD m 0 % n) (fullS ((l.getD m 0 : Nat) : Int)))
        obtain ⟨q1, q2⟩ := crA_inv d.W [] n (crU d).2 hu4 m S0 (fun j hj => by have := (hr.w j (by omega)).1; rw [hsl] at this; exact this) (by omega) hS hu2
        have hx : (d.W.getD m (0, ByteArray.empty)).1 = ((l.getD m 0 % n : Nat) : Int) := hu.w1 m (by omega)
        have hlt := Nat.mod_lt (l.getD m 0) hn
        unfold crJ
        rw [hx, Int.toNat_natCast, ← ih (by omega)]
        rw [show cutOf [] m = 32 by simp [cutOf], tear_32 _ _ (hu4 m (by omega)) (q2 _ (by omega)), e2 m (by omega)]
    rw [key l.length (Nat.le_refl _), List.take_length, he]
  · rw [e3]
    rw [crA_un d.W cs _ a _ _ fun j hj => by
      have hx : (d.W.getD j (0, ByteArray.empty)).1 = ((l.getD j 0 % n : Nat) : Int) := hu.w1 j hj
      rw [hx, Int.toNat_natCast]; exact h j hj]
theorem crS_synced (d : Dk) (htl : d.tl = 0) (cs : List Int) : crS d cs = d.S := by
  unfold crS crU
  rw [htl]
  rfl
theorem ex_neS {s : SS} {bs : List Nat} {x y : Operand} {t t' ty : TypeId} {p q : ByteArray} {b : Bool} (hx : s.val x = some (.v (.string p))) (hy : s.val y = some (.v (.string q))) (hb : (!(p.toList == q.toList)) = b) :
    ∀ (o : Oper) (ρ : Operand → Value) (W : World), o.op = .binOp .neq t x y t' → o.type = ty → (∀ x y, s.val x = some y → ρ x = den bs y) → (execOp ρ o).run Try.prog W = .ok (.value (.bool b)) W := by
  intro o ρ W h1 h2 h3
  have e1 : ρ x = .string p := h3 x _ hx
  have e2 : ρ y = .string q := h3 y _ hy
  subst hb
  unfold execOp
  simp only [h1, e1, e2, eqGuard, binOp_string_neq, Sem.run_bind, Sem.run_pure, Result.andThen_ok]
  rfl
noncomputable def sm1 : Cfg := ⟨goZ 60 [0] [.code (bodyOf Try.f11)], ⟨0, [], []⟩⟩
noncomputable def sm1S (a b : Dk) (i : Nat) : SS := ⟨59, [(2, .p 0 0), (3, .p 1 0), (5, .v (.int .i64 (i : Int)))], [⟨28, a.cs⟩, ⟨28, b.cs⟩]⟩
noncomputable def sm2S (a b : Dk) (i : Nat) : SS := ⟨59, [(2, .p 0 0), (3, .p 1 0), (6, .v (.int .i64 (i : Int)))], [⟨28, a.cs⟩, ⟨28, b.cs⟩]⟩
noncomputable def sm2 : Cfg := ⟨goZ 60 [0, 9] [.code (bodyOf Try.f11)], ⟨0, [], []⟩⟩
set_option maxHeartbeats 8000000 in
theorem sm_step (w0 : World) (a b : Dk) (ha : a.ok) (hb : b.ok) (hab : a.S = b.S) (hta : a.tl = 0) (htb : b.tl = 0) (m i : Nat) (hi : i < a.sl) (ih : ∀ (x0 x1 : Nat) (aa : Act) (w : World) (S : Sy w0 [] [x0, x1] (sm1S a b (i + 1)) [rfSt a.b a.o a.S, rfSt b.b b.o b.S] aa w), post Try.prog (.rnd (m) (bodyL sm1) :: sm1.k.tail) (bodyPost Try.prog Try.f11 fun e w' => e = .returned (.bool true) ∧ Below w0.heap.size w0 w') .normal aa w) (x0 x1 : Nat) (aa : Act) (w : World) (S : Sy w0 [] [x0, x1] (sm1S a b (i)) [rfSt a.b a.o a.S, rfSt b.b b.o b.S] aa w) : post Try.prog (.rnd (m + 1) (bodyL sm1) :: sm1.k.tail) (bodyPost Try.prog Try.f11 fun e w' => e = .returned (.bool true) ∧ Below w0.heap.size w0 w') .normal aa w := by
  have hsl : a.sl = b.sl := by rw [← ha.hS, ← hb.hS, hab]
  refine sy_run (c := ⟨(.rnd (m + 1) (bodyL sm1) :: sm1.k.tail), sm1S a b i⟩) ⟨0, [4]⟩ 50 S fun bs aa w S => ?_
  refine sy_reg S fun S => ?_
  refine sy_ops 5 S fun bs aa w S => ?_
  refine sy_cast 27 S (congrArg Value.bool (decide_eq_true (by omega) : decide ((i : Int) < (a.sl : Int)) = true)) (by kernel_rfl) fun S => ?_
  refine sy_run ⟨0, []⟩ 60 S fun bs aa w S => ?_
  letI : HF := ⟨[rfSt a.b a.o a.S, rfSt b.b b.o b.S]⟩
  letI : KP := ⟨[40]⟩
  refine dr_enter [0, 1] (by kernel_rfl) (by kernel_rfl) S (by kernel_rfl) (fun aa w D => ?_) (fun f hf => hf)
  refine dr_tix 3 D (by kernel_rfl) (by kernel_rfl) (by kernel_rfl) (b := a.b) (off := a.o) (len := a.sl) (n := i) (size := 1) (ix := (i : Int)) (by rw [← ha.hs.resolve_left (by omega)]; kernel_rfl) rfl (by omega) fun aa D => ?_
  refine dr_tld 4 D (by kernel_rfl) (by kernel_rfl) (by kernel_rfl) (ty := 9) (ad := ⟨a.b, a.o + i * 1, none⟩) (v := .string (a.S.getD i ByteArray.empty)) (fun W hW => ld_at (by kernel_rfl) (by rw [Nat.mul_one]; exact (show StrAt W a.b a.o a.S from hW (rfSt a.b a.o a.S) (by show _ ∈ [rfSt a.b a.o a.S, rfSt b.b b.o b.S]; simp)) i (by rw [ha.hS]; omega))) (by kernel_rfl) fun aa D => ?_
  refine dr_tix 8 D (by kernel_rfl) (by kernel_rfl) (by kernel_rfl) (b := b.b) (off := b.o) (len := b.sl) (n := i) (size := 1) (ix := (i : Int)) (by rw [← hb.hs.resolve_left (by omega)]; kernel_rfl) rfl (by omega) fun aa D => ?_
  refine dr_tld 9 D (by kernel_rfl) (by kernel_rfl) (by kernel_rfl) (ty := 9) (ad := ⟨b.b, b.o + i * 1, none⟩) (v := .string (b.S.getD i ByteArray.empty)) (fun W hW => ld_at (by kernel_rfl) (by rw [Nat.mul_one]; exact (show StrAt W b.b b.o b.S from hW (rfSt b.b b.o b.S) (by show _ ∈ [rfSt a.b a.o a.S, rfSt b.b b.o b.S]; simp)) i (by rw [hb.hS]; omega))) (by kernel_rfl) fun aa D => ?_
  refine dr_ex2 (fun d v c a w h => by cases d <;> exact h) 10 (op := .binOp .neq 9 (.tmp 34) (.tmp 39) 9) (ty := 4) (v := .bool false) D (by kernel_rfl) (by kernel_rfl) (by kernel_rfl) (by kernel_rfl) (ex_neS (p := a.S.getD i ByteArray.empty) (q := b.S.getD i ByteArray.empty) (by kernel_rfl) (by kernel_rfl) (by rw [hab]; simp)) fun aa D => ?_
  refine dr_end D (by kernel_rfl) fun S => ?_
  refine sy_run ⟨0, [5]⟩ 60 S fun bs aa w S => ?_
  refine sy_reg S fun S => ?_
  refine sy_ops 2 S fun bs aa w S => ?_
  refine sy_cast 29 S (congrArg (Value.int .i64) (by rw [IntKind.wrap_i64]; have := ha.l1; omega : IntKind.i64.wrap ((i : Int) + 1) = ((i + 1 : Nat) : Int))) (by kernel_rfl) fun S => ?_
  refine sy_run ⟨0, [999]⟩ 50 S fun bs aa w S => ?_
  have S2 := S.to [0, 1] (sm1S a b (i + 1)) (by kernel_rfl) (by kernel_rfl) (by kernel_rfl) (by kernel_rfl) (by kernel_rfl)
  refine sy_at2 (k' := (.rnd (m) (bodyL sm1) :: sm1.k.tail)) (by kernel_rfl) ?_
  exact ih _ _ aa w S2
set_option maxHeartbeats 8000000 in
theorem sm_end (w0 : World) (a b : Dk) (ha : a.ok) (hb : b.ok) (hab : a.S = b.S) (hta : a.tl = 0) (htb : b.tl = 0) (m : Nat) (x0 x1 : Nat) (aa : Act) (w : World) (S : Sy w0 [] [x0, x1] (sm1S a b (a.sl)) [rfSt a.b a.o a.S, rfSt b.b b.o b.S] aa w) : post Try.prog (.rnd (m + 1) (bodyL sm1) :: sm1.k.tail) (bodyPost Try.prog Try.f11 fun e w' => e = .returned (.bool true) ∧ Below w0.heap.size w0 w') .normal aa w := by
  refine sy_run (c := ⟨(.rnd (m + 1) (bodyL sm1) :: sm1.k.tail), sm1S a b a.sl⟩) ⟨0, [4]⟩ 50 S fun bs aa w S => ?_
  refine sy_reg S fun S => ?_
  refine sy_ops 5 S fun bs aa w S => ?_
  refine sy_cast 27 S (congrArg Value.bool (decide_eq_false (by omega) : decide ((a.sl : Int) < (a.sl : Int)) = false)) (by kernel_rfl) fun S => ?_
  refine sy_run ⟨0, []⟩ 60 S fun bs aa w S => ?_
  have S2 := S.to [0, 1] (sm2S a b 0) (by kernel_rfl) (by kernel_rfl) (by kernel_rfl) (by kernel_rfl) (by kernel_rfl)
  refine sy_loop 1 (by kernel_rfl) ?_
  refine sy_at2 (k' := (.rnd 1 (bodyL sm2) :: sm2.k.tail)) (by kernel_rfl) ?_
  have S := S2
  refine sy_run (c := ⟨.rnd 1 (bodyL sm2) :: sm2.k.tail, sm2S a b 0⟩) ⟨0, [9]⟩ 60 S fun bs aa w S => ?_
  refine sy_reg S fun S => ?_
  refine sy_ops 5 S fun bs aa w S => ?_
  refine sy_cast 45 S (congrArg Value.bool (by rw [hta]; rfl : decide (((0 : Nat) : Int) < (a.tl : Int)) = false)) (by kernel_rfl) fun S => ?_
  refine sy_run ⟨0, []⟩ 60 S fun bs aa w S => ?_
  exact sy_ret S (by kernel_rfl) (by kernel_rfl) fun hg => ⟨rfl, bel_gr hg⟩
theorem sm_all (w0 : World) (a b : Dk) (ha : a.ok) (hb : b.ok) (hab : a.S = b.S) (hta : a.tl = 0) (htb : b.tl = 0) : ∀ (r i : Nat), i + r = a.sl → ∀ (x0 x1 : Nat) (aa : Act) (w : World) (S : Sy w0 [] [x0, x1] (sm1S a b (i)) [rfSt a.b a.o a.S, rfSt b.b b.o b.S] aa w), post Try.prog (.rnd (r + 1) (bodyL sm1) :: sm1.k.tail) (bodyPost Try.prog Try.f11 fun e w' => e = .returned (.bool true) ∧ Below w0.heap.size w0 w') .normal aa w := by
  intro r
  induction r with
  | zero => intro i hi x0 x1 aa w S; obtain rfl : i = a.sl := by omega
            exact sm_end w0 a b ha hb hab hta htb 0 x0 x1 aa w S
  | succ r ih => intro i hi x0 x1 aa w S; exact sm_step w0 a b ha hb hab hta htb (r + 1) i (by omega) (ih (i + 1) (by omega)) x0 x1 aa w S
set_option maxHeartbeats 8000000 in
theorem same0_t (w0 : World) (a b : Dk) (ha : a.ok) (hb : b.ok) (hab : a.S = b.S) (hta : a.tl = 0) (htb : b.tl = 0) (hA : StrAt w0 a.b a.o a.S) (hB : StrAt w0 b.b b.o b.S) : Calls Try.prog 11 #[a.v, b.v] w0 fun e w' => e = .returned (.bool true) ∧ Below w0.heap.size w0 w' := by
  have hsl : a.sl = b.sl := by rw [← ha.hS, ← hb.hS, hab]
  refine sy_enterF [] [rfSt a.b a.o a.S, rfSt b.b b.o b.S] (by intro f hf; simp only [List.mem_cons, List.not_mem_nil, or_false] at hf; rcases hf with rfl | rfl; exact hA; exact hB) Try.func11 rfl rfl fun aa S => ?_
  refine sy_run ⟨0, [1]⟩ 60 S fun bs aa w S => ?_
  refine sy_reg S fun S => ?_
  refine sy_ops 7 S fun bs aa w S => ?_
  refine sy_cast 13 S (congrArg Value.bool (by rw [hsl]; simp : (!decide ((a.sl : Int) = (b.sl : Int))) = false)) (by kernel_rfl) fun S => ?_
  refine sy_ops 8 S fun bs aa w S => ?_
  refine sy_cast 21 S (congrArg Value.bool (by rw [hta, htb]; rfl : (!decide ((a.tl : Int) = (b.tl : Int))) = false)) (by kernel_rfl) fun S => ?_
  refine sy_run ⟨0, []⟩ 60 S fun bs aa w S => ?_
  have S2 := S.to [0, 1] (sm1S a b 0) (by kernel_rfl) (by kernel_rfl) (by kernel_rfl) (by kernel_rfl) (by kernel_rfl)
  refine sy_loop (a.sl + 1) (by kernel_rfl) ?_
  refine sy_at2 (k' := (.rnd (a.sl + 1) (bodyL sm1) :: sm1.k.tail)) (by kernel_rfl) ?_
  exact sm_all w0 a b ha hb hab hta htb a.sl 0 (by omega) _ _ aa w S2
end Go.Proofs.Ytekcjffdooekaaa


/-
  Layer 22: any device: whether it is small, whether it is right.
-/
namespace Go.Proofs.Ytekcjffdooekaaa
open Go Go.RowKit SZ
set_option linter.unusedVariables false
set_option linter.unusedSimpArgs false
set_option maxRecDepth 100000
attribute [local irreducible] post GD Nxt NxtAll
/-- Any device. -/
structure Dk.gen (d : Dk) : Prop where
  hS : d.S.length = d.sl
  hs : d.sl = 0 ∨ d.sa = some ⟨d.b, d.o, none⟩
  hW : d.W.length = d.tl
  hw : d.tl = 0 ∨ d.ta = some ⟨d.c, d.p, none⟩
  ht : (d.ta = none ∧ d.tl = 0 ∧ d.tc = 0) ∨ (d.ta.isSome = true ∧ d.tl ≤ d.tc)
  hc : d.tc ≤ 9223372036854775807
  hsn : d.sa = none → d.sc = 0
theorem upto_succ {P : Nat → Prop} {j : Nat} (hv : ∀ i, i < j → P i) (hp : P j) : ∀ i, i < j + 1 → P i := fun i hi => by
  rcases Nat.lt_or_ge i j with h | h
  · exact hv i h
  · rw [show i = j by omega]; exact hp
theorem all_upto {α : Type} (p : α → Bool) (z : α) (l : List α) : (∀ i, i < l.length → p (l.getD i z) = true) → l.all p = true := fun h => by
  rw [List.all_eq_true]
  intro x hx
  obtain ⟨i, hi, rfl⟩ := List.getElem_of_mem hx
  have := h i hi
  rwa [List.getD, List.getElem?_eq_getElem hi] at this
theorem all_not {α : Type} (p : α → Bool) (z : α) (l : List α) (i : Nat) (hi : i < l.length) (h : p (l.getD i z) = false) : l.all p = false := by
  rw [List.all_eq_false]
  exact ⟨l.getD i z, getD_mem l i z hi, by rw [h]; simp⟩
def fewB (d : Dk) : Bool := decide (d.sl ≤ 600) && decide (d.tl ≤ 60) && d.S.all (fun s => decide (s.size ≤ 60)) && d.W.all (fun x => decide (x.2.size ≤ 60))
def dkRB (d : Dk) : Bool := decide (d.sl ≤ 512) && d.S.all (fun s => decide (s.size = 32)) && d.W.all (fun x => decide (0 ≤ x.1) && decide (x.1 < (d.sl : Int)) && decide (x.2.size = 32))
noncomputable def fw1 : Cfg := ⟨goZ 60 [0] [.code (bodyOf Try.f6)], ⟨0, [], []⟩⟩
noncomputable def fw2 : Cfg := ⟨goZ 60 [0, 9] [.code (bodyOf Try.f6)], ⟨0, [], []⟩⟩
noncomputable def fwS1 (d : Dk) (j : Nat) : SS := ⟨44, [(1, .p 0 0), (3, .v (.int .i64 (j : Int)))], [⟨28, d.cs⟩]⟩
noncomputable def fwS2 (d : Dk) (j : Nat) : SS := ⟨44, [(1, .p 0 0), (4, .v (.int .i64 (j : Int)))], [⟨28, d.cs⟩]⟩
set_option maxHeartbeats 8000000 in
theorem fw_e2 (w0 : World) (d : Dk) (hg : d.gen) (h6 : d.sl ≤ 600 ∧ d.tl ≤ 60) (m : Nat) (hu : ∀ i, i < d.sl → (decide ((d.S.getD i ByteArray.empty).size ≤ 60)) = true) (hv : ∀ i, i < d.tl → (decide ((d.W.getD i (0, ByteArray.empty)).2.size ≤ 60)) = true) (x0 : Nat) (aa : Act) (w : World) (S : Sy w0 [] [x0] (fwS2 d (d.tl)) [rfSt d.b d.o d.S, rfWs d.c d.p d.W] aa w) : post Try.prog (.rnd (m + 1) (bodyL fw2) :: fw2.k.tail) (bodyPost Try.prog Try.f6 fun e w' => e = .returned (.bool (fewB d)) ∧ Below w0.heap.size w0 w') .normal aa w := by
  refine sy_run (c := ⟨(.rnd (m + 1) (bodyL fw2) :: fw2.k.tail), fwS2 d d.tl⟩) ⟨0, [9]⟩ 50 S fun bs aa w S => ?_
  refine sy_reg S fun S => ?_
  refine sy_ops 5 S fun bs aa w S => ?_
  refine sy_cast 33 S (congrArg Value.bool (decide_eq_false (by omega) : decide ((d.tl : Int) < (d.tl : Int)) = false)) (by kernel_rfl) fun S => ?_
  refine sy_run ⟨0, []⟩ 60 S fun bs aa w S => ?_
  have e : fewB d = true := by simp only [fewB]; rw [all_upto _ ByteArray.empty d.S (fun i hi => hu i (by rw [← hg.hS]; exact hi)), all_upto _ (0, ByteArray.empty) d.W (fun i hi => hv i (by rw [← hg.hW]; exact hi)), decide_eq_true h6.1, decide_eq_true h6.2]; rfl
  rw [e]
  exact sy_ret S (by kernel_rfl) (by kernel_rfl) fun hg => ⟨rfl, bel_gr hg⟩
set_option maxHeartbeats 8000000 in
theorem fw_s20 (w0 : World) (d : Dk) (hg : d.gen) (h6 : d.sl ≤ 600 ∧ d.tl ≤ 60) (hu : ∀ i, i < d.sl → (decide ((d.S.getD i ByteArray.empty).size ≤ 60)) = true) (m j : Nat) (hj : j < d.tl) (hp : (decide ((d.W.getD j (0, ByteArray.empty)).2.size ≤ 60)) = true) (ih : (∀ i, i < j + 1 → (decide ((d.W.getD i (0, ByteArray.empty)).2.size ≤ 60)) = true) → ∀ (x0 : Nat) (aa : Act) (w : World) (S : Sy w0 [] [x0] (fwS2 d (j + 1)) [rfSt d.b d.o d.S, rfWs d.c d.p d.W] aa w), post Try.prog (.rnd (m) (bodyL fw2) :: fw2.k.tail) (bodyPost Try.prog Try.f6 fun e w' => e = .returned (.bool (fewB d)) ∧ Below w0.heap.size w0 w') .normal aa w) (hv : ∀ i, i < j → (decide ((d.W.getD i (0, ByteArray.empty)).2.size ≤ 60)) = true) (x0 : Nat) (aa : Act) (w : World) (S : Sy w0 [] [x0] (fwS2 d (j)) [rfSt d.b d.o d.S, rfWs d.c d.p d.W] aa w) : post Try.prog (.rnd (m + 1) (bodyL fw2) :: fw2.k.tail) (bodyPost Try.prog Try.f6 fun e w' => e = .returned (.bool (fewB d)) ∧ Below w0.heap.size w0 w') .normal aa w := by
  refine sy_run (c := ⟨(.rnd (m + 1) (bodyL fw2) :: fw2.k.tail), fwS2 d j⟩) ⟨0, [9]⟩ 50 S fun bs aa w S => ?_
  refine sy_reg S fun S => ?_
  refine sy_ops 5 S fun bs aa w S => ?_
  refine sy_cast 33 S (congrArg Value.bool (decide_eq_true (by omega) : decide ((j : Int) < (d.tl : Int)) = true)) (by kernel_rfl) fun S => ?_
  refine sy_run ⟨0, [11]⟩ 60 S fun bs aa w S => ?_
  refine sy_reg S fun S => ?_
  refine sy_ops 3 S fun bs aa w S => ?_
  refine sy_ix (b := d.c) (off := d.p) (len := d.tl) (n := j) (size := 2) (i := (j : Int)) S (by rw [← hg.hw.resolve_left (by omega)]; kernel_rfl) rfl hj fun aa S => ?_
  refine sy_ops 1 S fun bs aa w S => ?_
  refine sy_ldo S (ld_at (ty := 9) (b := d.c) (off := d.p + j * 2 + 1) (by kernel_rfl) ((S.fact (f := rfWs d.c d.p d.W) (by simp)) j (by rw [hg.hW]; omega)).2) (by kernel_rfl) fun aa S => ?_
  refine sy_ops 2 S fun bs aa w S => ?_
  refine sy_cast 43 S (congrArg Value.bool (decide_eq_false (by have := of_decide_eq_true hp; omega) : decide (((d.W.getD j (0, ByteArray.empty)).2.size : Int) > 60) = false)) (by kernel_rfl) fun S => ?_
  refine sy_run ⟨0, [10]⟩ 60 S fun bs aa w S => ?_
  refine sy_reg S fun S => ?_
  refine sy_ops 2 S fun bs aa w S => ?_
  refine sy_cast 35 S (congrArg (Value.int .i64) (by rw [IntKind.wrap_i64]; omega : IntKind.i64.wrap ((j : Int) + 1) = ((j + 1 : Nat) : Int))) (by kernel_rfl) fun S => ?_
  refine sy_run ⟨0, [999]⟩ 50 S fun bs aa w S => ?_
  have S2 := S.to [0] (fwS2 d (j + 1)) (by kernel_rfl) (by kernel_rfl) (by kernel_rfl) (by kernel_rfl) (by kernel_rfl)
  refine sy_at2 (k' := (.rnd (m) (bodyL fw2) :: fw2.k.tail)) (by kernel_rfl) ?_
  exact ih (upto_succ hv hp) _ aa w S2
set_option maxHeartbeats 8000000 in
theorem fw_s21 (w0 : World) (d : Dk) (hg : d.gen) (h6 : d.sl ≤ 600 ∧ d.tl ≤ 60) (hu : ∀ i, i < d.sl → (decide ((d.S.getD i ByteArray.empty).size ≤ 60)) = true) (m j : Nat) (hj : j < d.tl) (hp : (decide ((d.W.getD j (0, ByteArray.empty)).2.size ≤ 60)) = false) (ih : (∀ i, i < j + 1 → (decide ((d.W.getD i (0, ByteArray.empty)).2.size ≤ 60)) = true) → ∀ (x0 : Nat) (aa : Act) (w : World) (S : Sy w0 [] [x0] (fwS2 d (j + 1)) [rfSt d.b d.o d.S, rfWs d.c d.p d.W] aa w), post Try.prog (.rnd (m) (bodyL fw2) :: fw2.k.tail) (bodyPost Try.prog Try.f6 fun e w' => e = .returned (.bool (fewB d)) ∧ Below w0.heap.size w0 w') .normal aa w) (hv : ∀ i, i < j → (decide ((d.W.getD i (0, ByteArray.empty)).2.size ≤ 60)) = true) (x0 : Nat) (aa : Act) (w : World) (S : Sy w0 [] [x0] (fwS2 d (j)) [rfSt d.b d.o d.S, rfWs d.c d.p d.W] aa w) : post Try.prog (.rnd (m + 1) (bodyL fw2) :: fw2.k.tail) (bodyPost Try.prog Try.f6 fun e w' => e = .returned (.bool (fewB d)) ∧ Below w0.heap.size w0 w') .normal aa w := by
  refine sy_run (c := ⟨(.rnd (m + 1) (bodyL fw2) :: fw2.k.tail), fwS2 d j⟩) ⟨0, [9]⟩ 50 S fun bs aa w S => ?_
  refine sy_reg S fun S => ?_
  refine sy_ops 5 S fun bs aa w S => ?_
  refine sy_cast 33 S (congrArg Value.bool (decide_eq_true (by omega) : decide ((j : Int) < (d.tl : Int)) = true)) (by kernel_rfl) fun S => ?_
  refine sy_run ⟨0, [11]⟩ 60 S fun bs aa w S => ?_
  refine sy_reg S fun S => ?_
  refine sy_ops 3 S fun bs aa w S => ?_
  refine sy_ix (b := d.c) (off := d.p) (len := d.tl) (n := j) (size := 2) (i := (j : Int)) S (by rw [← hg.hw.resolve_left (by omega)]; kernel_rfl) rfl hj fun aa S => ?_
  refine sy_ops 1 S fun bs aa w S => ?_
  refine sy_ldo S (ld_at (ty := 9) (b := d.c) (off := d.p + j * 2 + 1) (by kernel_rfl) ((S.fact (f := rfWs d.c d.p d.W) (by simp)) j (by rw [hg.hW]; omega)).2) (by kernel_rfl) fun aa S => ?_
  refine sy_ops 2 S fun bs aa w S => ?_
  refine sy_cast 43 S (congrArg Value.bool (decide_eq_true (by have := of_decide_eq_false hp; omega) : decide (((d.W.getD j (0, ByteArray.empty)).2.size : Int) > 60) = true)) (by kernel_rfl) fun S => ?_
  refine sy_run ⟨0, []⟩ 60 S fun bs aa w S => ?_
  have e : fewB d = false := (by simp only [fewB]; rw [all_not _ (0, ByteArray.empty) d.W j (by rw [hg.hW]; exact hj) hp]; simp)
  rw [e]
  exact sy_ret S (by kernel_rfl) (by kernel_rfl) fun hg => ⟨rfl, bel_gr hg⟩
theorem fw_a2 (w0 : World) (d : Dk) (hg : d.gen) (h6 : d.sl ≤ 600 ∧ d.tl ≤ 60) (hu : ∀ i, i < d.sl → (decide ((d.S.getD i ByteArray.empty).size ≤ 60)) = true) : ∀ (r j : Nat), j + r = d.tl → (∀ i, i < j → (decide ((d.W.getD i (0, ByteArray.empty)).2.size ≤ 60)) = true) → ∀ (x0 : Nat) (aa : Act) (w : World) (S : Sy w0 [] [x0] (fwS2 d (j)) [rfSt d.b d.o d.S, rfWs d.c d.p d.W] aa w), post Try.prog (.rnd (r + 1) (bodyL fw2) :: fw2.k.tail) (bodyPost Try.prog Try.f6 fun e w' => e = .returned (.bool (fewB d)) ∧ Below w0.heap.size w0 w') .normal aa w := by
  intro r
  induction r with
  | zero => intro j hj hv x0 aa w S; obtain rfl : j = d.tl := by omega
            exact fw_e2 w0 d hg h6 0 hu hv x0 aa w S
  | succ r ih =>
    intro j hj hv x0 aa w S
    have hjl : j < d.tl := by omega
    cases hp : (decide ((d.W.getD j (0, ByteArray.empty)).2.size ≤ 60)) with
    | true => exact fw_s20 w0 d hg h6 hu (r + 1) j hjl hp (fun h => ih (j + 1) (by omega) h) hv x0 aa w S
    | false => exact fw_s21 w0 d hg h6 hu (r + 1) j hjl hp (fun h => ih (j + 1) (by omega) h) hv x0 aa w S
set_option maxHeartbeats 8000000 in
theorem fw_e1 (w0 : World) (d : Dk) (hg : d.gen) (h6 : d.sl ≤ 600 ∧ d.tl ≤ 60) (m : Nat) (hv : ∀ i, i < d.sl → (decide ((d.S.getD i ByteArray.empty).size ≤ 60)) = true) (x0 : Nat) (aa : Act) (w : World) (S : Sy w0 [] [x0] (fwS1 d (d.sl)) [rfSt d.b d.o d.S, rfWs d.c d.p d.W] aa w) : post Try.prog (.rnd (m + 1) (bodyL fw1) :: fw1.k.tail) (bodyPost Try.prog Try.f6 fun e w' => e = .returned (.bool (fewB d)) ∧ Below w0.heap.size w0 w') .normal aa w := by
  refine sy_run (c := ⟨(.rnd (m + 1) (bodyL fw1) :: fw1.k.tail), fwS1 d d.sl⟩) ⟨0, [4]⟩ 50 S fun bs aa w S => ?_
  refine sy_reg S fun S => ?_
  refine sy_ops 5 S fun bs aa w S => ?_
  refine sy_cast 19 S (congrArg Value.bool (decide_eq_false (by omega) : decide ((d.sl : Int) < (d.sl : Int)) = false)) (by kernel_rfl) fun S => ?_
  refine sy_run ⟨0, []⟩ 60 S fun bs aa w S => ?_
  have S2 := S.to [0] (fwS2 d 0) (by kernel_rfl) (by kernel_rfl) (by kernel_rfl) (by kernel_rfl) (by kernel_rfl)
  refine sy_loop (d.tl + 1) (by kernel_rfl) ?_
  refine sy_at2 (k' := (.rnd (d.tl + 1) (bodyL fw2) :: fw2.k.tail)) (by kernel_rfl) ?_
  exact fw_a2 w0 d hg h6 hv d.tl 0 (by omega) (fun i hi => absurd hi (Nat.not_lt_zero _)) _ aa w S2
set_option maxHeartbeats 8000000 in
theorem fw_s10 (w0 : World) (d : Dk) (hg : d.gen) (h6 : d.sl ≤ 600 ∧ d.tl ≤ 60) (m j : Nat) (hj : j < d.sl) (hp : (decide ((d.S.getD j ByteArray.empty).size ≤ 60)) = true) (ih : (∀ i, i < j + 1 → (decide ((d.S.getD i ByteArray.empty).size ≤ 60)) = true) → ∀ (x0 : Nat) (aa : Act) (w : World) (S : Sy w0 [] [x0] (fwS1 d (j + 1)) [rfSt d.b d.o d.S, rfWs d.c d.p d.W] aa w), post Try.prog (.rnd (m) (bodyL fw1) :: fw1.k.tail) (bodyPost Try.prog Try.f6 fun e w' => e = .returned (.bool (fewB d)) ∧ Below w0.heap.size w0 w') .normal aa w) (hv : ∀ i, i < j → (decide ((d.S.getD i ByteArray.empty).size ≤ 60)) = true) (x0 : Nat) (aa : Act) (w : World) (S : Sy w0 [] [x0] (fwS1 d (j)) [rfSt d.b d.o d.S, rfWs d.c d.p d.W] aa w) : post Try.prog (.rnd (m + 1) (bodyL fw1) :: fw1.k.tail) (bodyPost Try.prog Try.f6 fun e w' => e = .returned (.bool (fewB d)) ∧ Below w0.heap.size w0 w') .normal aa w := by
  refine sy_run (c := ⟨(.rnd (m + 1) (bodyL fw1) :: fw1.k.tail), fwS1 d j⟩) ⟨0, [4]⟩ 50 S fun bs aa w S => ?_
  refine sy_reg S fun S => ?_
  refine sy_ops 5 S fun bs aa w S => ?_
  refine sy_cast 19 S (congrArg Value.bool (decide_eq_true (by omega) : decide ((j : Int) < (d.sl : Int)) = true)) (by kernel_rfl) fun S => ?_
  refine sy_run ⟨0, [6]⟩ 60 S fun bs aa w S => ?_
  refine sy_reg S fun S => ?_
  refine sy_ops 3 S fun bs aa w S => ?_
  refine sy_ix (b := d.b) (off := d.o) (len := d.sl) (n := j) (size := 1) (i := (j : Int)) S (by rw [← hg.hs.resolve_left (by omega)]; kernel_rfl) rfl hj fun aa S => ?_
  refine sy_ldo S (ld_at (ty := 9) (b := d.b) (off := d.o + j * 1) (by kernel_rfl) (by rw [Nat.mul_one]; exact S.fact (f := rfSt d.b d.o d.S) (by simp) j (by rw [hg.hS]; omega))) (by kernel_rfl) fun aa S => ?_
  refine sy_ops 2 S fun bs aa w S => ?_
  refine sy_cast 28 S (congrArg Value.bool (decide_eq_false (by have := of_decide_eq_true hp; omega) : decide (((d.S.getD j ByteArray.empty).size : Int) > 60) = false)) (by kernel_rfl) fun S => ?_
  refine sy_run ⟨0, [5]⟩ 60 S fun bs aa w S => ?_
  refine sy_reg S fun S => ?_
  refine sy_ops 2 S fun bs aa w S => ?_
  refine sy_cast 21 S (congrArg (Value.int .i64) (by rw [IntKind.wrap_i64]; omega : IntKind.i64.wrap ((j : Int) + 1) = ((j + 1 : Nat) : Int))) (by kernel_rfl) fun S => ?_
  refine sy_run ⟨0, [999]⟩ 50 S fun bs aa w S => ?_
  have S2 := S.to [0] (fwS1 d (j + 1)) (by kernel_rfl) (by kernel_rfl) (by kernel_rfl) (by kernel_rfl) (by kernel_rfl)
  refine sy_at2 (k' := (.rnd (m) (bodyL fw1) :: fw1.k.tail)) (by kernel_rfl) ?_
  exact ih (upto_succ hv hp) _ aa w S2
set_option maxHeartbeats 8000000 in
theorem fw_s11 (w0 : World) (d : Dk) (hg : d.gen) (h6 : d.sl ≤ 600 ∧ d.tl ≤ 60) (m j : Nat) (hj : j < d.sl) (hp : (decide ((d.S.getD j ByteArray.empty).size ≤ 60)) = false) (ih : (∀ i, i < j + 1 → (decide ((d.S.getD i ByteArray.empty).size ≤ 60)) = true) → ∀ (x0 : Nat) (aa : Act) (w : World) (S : Sy w0 [] [x0] (fwS1 d (j + 1)) [rfSt d.b d.o d.S, rfWs d.c d.p d.W] aa w), post Try.prog (.rnd (m) (bodyL fw1) :: fw1.k.tail) (bodyPost Try.prog Try.f6 fun e w' => e = .returned (.bool (fewB d)) ∧ Below w0.heap.size w0 w') .normal aa w) (hv : ∀ i, i < j → (decide ((d.S.getD i ByteArray.empty).size ≤ 60)) = true) (x0 : Nat) (aa : Act) (w : World) (S : Sy w0 [] [x0] (fwS1 d (j)) [rfSt d.b d.o d.S, rfWs d.c d.p d.W] aa w) : post Try.prog (.rnd (m + 1) (bodyL fw1) :: fw1.k.tail) (bodyPost Try.prog Try.f6 fun e w' => e = .returned (.bool (fewB d)) ∧ Below w0.heap.size w0 w') .normal aa w := by
  refine sy_run (c := ⟨(.rnd (m + 1) (bodyL fw1) :: fw1.k.tail), fwS1 d j⟩) ⟨0, [4]⟩ 50 S fun bs aa w S => ?_
  refine sy_reg S fun S => ?_
  refine sy_ops 5 S fun bs aa w S => ?_
  refine sy_cast 19 S (congrArg Value.bool (decide_eq_true (by omega) : decide ((j : Int) < (d.sl : Int)) = true)) (by kernel_rfl) fun S => ?_
  refine sy_run ⟨0, [6]⟩ 60 S fun bs aa w S => ?_
  refine sy_reg S fun S => ?_
  refine sy_ops 3 S fun bs aa w S => ?_
  refine sy_ix (b := d.b) (off := d.o) (len := d.sl) (n := j) (size := 1) (i := (j : Int)) S (by rw [← hg.hs.resolve_left (by omega)]; kernel_rfl) rfl hj fun aa S => ?_
  refine sy_ldo S (ld_at (ty := 9) (b := d.b) (off := d.o + j * 1) (by kernel_rfl) (by rw [Nat.mul_one]; exact S.fact (f := rfSt d.b d.o d.S) (by simp) j (by rw [hg.hS]; omega))) (by kernel_rfl) fun aa S => ?_
  refine sy_ops 2 S fun bs aa w S => ?_
  refine sy_cast 28 S (congrArg Value.bool (decide_eq_true (by have := of_decide_eq_false hp; omega) : decide (((d.S.getD j ByteArray.empty).size : Int) > 60) = true)) (by kernel_rfl) fun S => ?_
  refine sy_run ⟨0, []⟩ 60 S fun bs aa w S => ?_
  have e : fewB d = false := (by simp only [fewB]; rw [all_not _ ByteArray.empty d.S j (by rw [hg.hS]; exact hj) hp]; simp)
  rw [e]
  exact sy_ret S (by kernel_rfl) (by kernel_rfl) fun hg => ⟨rfl, bel_gr hg⟩
theorem fw_a1 (w0 : World) (d : Dk) (hg : d.gen) (h6 : d.sl ≤ 600 ∧ d.tl ≤ 60) : ∀ (r j : Nat), j + r = d.sl → (∀ i, i < j → (decide ((d.S.getD i ByteArray.empty).size ≤ 60)) = true) → ∀ (x0 : Nat) (aa : Act) (w : World) (S : Sy w0 [] [x0] (fwS1 d (j)) [rfSt d.b d.o d.S, rfWs d.c d.p d.W] aa w), post Try.prog (.rnd (r + 1) (bodyL fw1) :: fw1.k.tail) (bodyPost Try.prog Try.f6 fun e w' => e = .returned (.bool (fewB d)) ∧ Below w0.heap.size w0 w') .normal aa w := by
  intro r
  induction r with
  | zero => intro j hj hv x0 aa w S; obtain rfl : j = d.sl := by omega
            exact fw_e1 w0 d hg h6 0 hv x0 aa w S
  | succ r ih =>
    intro j hj hv x0 aa w S
    have hjl : j < d.sl := by omega
    cases hp : (decide ((d.S.getD j ByteArray.empty).size ≤ 60)) with
    | true => exact fw_s10 w0 d hg h6 (r + 1) j hjl hp (fun h => ih (j + 1) (by omega) h) hv x0 aa w S
    | false => exact fw_s11 w0 d hg h6 (r + 1) j hjl hp (fun h => ih (j + 1) (by omega) h) hv x0 aa w S
set_option maxHeartbeats 8000000 in
theorem few_t (w0 : World) (d : Dk) (hg : d.gen) (hA : StrAt w0 d.b d.o d.S) (hB : WasAt w0 d.c d.p d.W) : Calls Try.prog 6 #[d.v] w0 fun e w' => e = .returned (.bool (fewB d)) ∧ Below w0.heap.size w0 w' := by
  refine sy_enterF [] [rfSt d.b d.o d.S, rfWs d.c d.p d.W] (by intro f hf; simp only [List.mem_cons, List.not_mem_nil, or_false] at hf; rcases hf with rfl | rfl; exact hA; exact hB) Try.func6 rfl rfl fun aa S => ?_
  refine sy_run ⟨0, [1]⟩ 60 S fun bs aa w S => ?_
  refine sy_reg S fun S => ?_
  refine sy_ops 4 S fun bs aa w S => ?_
  by_cases h1 : d.sl ≤ 600
  case neg =>
    refine sy_cast 8 S (congrArg Value.bool (decide_eq_true (by omega) : decide ((d.sl : Int) > 600) = true)) (by kernel_rfl) fun S => ?_
    refine sy_run ⟨0, []⟩ 60 S fun bs aa w S => ?_
    have e : fewB d = false := by simp [fewB, h1]
    rw [e]
    exact sy_ret S (by kernel_rfl) (by kernel_rfl) fun hg => ⟨rfl, bel_gr hg⟩
  refine sy_cast 8 S (congrArg Value.bool (decide_eq_false (by omega) : decide ((d.sl : Int) > 600) = false)) (by kernel_rfl) fun S => ?_
  refine sy_ops 5 S fun bs aa w S => ?_
  by_cases h2 : d.tl ≤ 60
  case neg =>
    refine sy_cast 13 S (congrArg Value.bool (decide_eq_true (by omega) : decide ((d.tl : Int) > 60) = true)) (by kernel_rfl) fun S => ?_
    refine sy_run ⟨0, []⟩ 60 S fun bs aa w S => ?_
    have e : fewB d = false := by simp [fewB, h2]
    rw [e]
    exact sy_ret S (by kernel_rfl) (by kernel_rfl) fun hg => ⟨rfl, bel_gr hg⟩
  refine sy_cast 13 S (congrArg Value.bool (decide_eq_false (by omega) : decide ((d.tl : Int) > 60) = false)) (by kernel_rfl) fun S => ?_
  refine sy_run ⟨0, []⟩ 60 S fun bs aa w S => ?_
  have S2 := S.to [0] (fwS1 d 0) (by kernel_rfl) (by kernel_rfl) (by kernel_rfl) (by kernel_rfl) (by kernel_rfl)
  refine sy_loop (d.sl + 1) (by kernel_rfl) ?_
  refine sy_at2 (k' := (.rnd (d.sl + 1) (bodyL fw1) :: fw1.k.tail)) (by kernel_rfl) ?_
  exact fw_a1 w0 d hg ⟨h1, h2⟩ d.sl 0 (by omega) (fun i hi => absurd hi (Nat.not_lt_zero _)) _ aa w S2
end Go.Proofs.Ytekcjffdooekaaa


/-
  Layer 22: opening the arguments of DiskMatchesSpec.
-/
namespace Go.Proofs.Ytekcjffdooekaaa
open Go.ChangeShapes Go.WideShapes Go.ChangeAt Go.RowKit Go.Deep
set_option maxRecDepth 100000
set_option linter.unusedVariables false
set_option linter.unusedSimpArgs false
section
variable {H : Type} {enc : TypeId × Value → H} {W : World}
/-- What is known of a slice that is given. -/
def SlOk (a : Option Addr) (l c : Nat) : Prop := ((a = none ∧ l = 0 ∧ c = 0) ∨ (a.isSome = true ∧ l ≤ c)) ∧ c ≤ 9223372036854775807
theorem ss_trod {c : Value} {x : DataW H × List MemPlace} {n' : Nat} (hf : DataW.trod enc Try.prog W 0 (fun _ => true) true n' 25 [c] = some x) : ∃ (a : Option Addr) (k : Nat) (S : List ByteArray) (b o : Nat), c = .slice a S.length k ∧ SlOk a S.length k ∧ (S.length = 0 ∨ a = some ⟨b, o, none⟩) ∧ StrAt W b o S := by
  rcases open_slice Try.underlying25 hf with ⟨hcs, _⟩ | ⟨a, len0, cap0, m, n, D, Pl, hcs, _, hl, hm, hmm, _, hi⟩
  · simp at hcs
    subst hcs
    exact ⟨none, 0, [], 0, 0, rfl, ⟨Or.inl ⟨rfl, rfl, rfl⟩, Nat.zero_le _⟩, Or.inl rfl, fun j hj => absurd hj (Nat.not_lt_zero _)⟩
  · simp at hcs
    subst hcs
    simp only [if_true] at hmm
    have cu : Try.prog.cellsOf 9 = 1 := by kernel_rfl
    have key : ∀ i, i < len0 → ∃ A : ByteArray, W.cell? (a.add i) = some (.string A) := by
      intro i hil
      obtain ⟨cs', hc, ht⟩ := hi i (by omega)
      rw [cu] at hc
      obtain ⟨_, hcl, hat⟩ := World.cells?_some hc
      match cs', hcl with
      | [c0], _ =>
        obtain ⟨a0, e0, _⟩ := DataW.trod_string Try.underlying9 ht
        simp at e0
        subst e0
        have q0 := hat 0 (by omega)
        rw [add_add] at q0
        exact ⟨a0, by simpa using q0⟩
    have hcap : cap0 ≤ 9223372036854775807 := by unfold maxLen at hm; omega
    by_cases h0 : len0 = 0
    · subst h0
      exact ⟨_, _, [], 0, 0, rfl, ⟨Or.inr ⟨rfl, Nat.zero_le _⟩, hcap⟩, Or.inl rfl, fun j hj => absurd hj (Nat.not_lt_zero _)⟩
    · obtain ⟨b, off, spot⟩ := a
      obtain ⟨A0, hA0⟩ := key 0 (by omega)
      have hspot : spot = none := by simpa [Addr.add] using World.cell?_spot hA0
      subst hspot
      obtain ⟨f, hf'⟩ := Classical.axiomOfChoice (fun i : { i : Nat // i < len0 } => key i.1 i.2)
      have hlen : ((List.range len0).attach.map (fun i => f ⟨i.1, List.mem_range.1 i.2⟩)).length = len0 := by simp
      refine ⟨some ⟨b, off, none⟩, cap0, (List.range len0).attach.map (fun i => f ⟨i.1, List.mem_range.1 i.2⟩), b, off, by rw [hlen], ⟨Or.inr ⟨rfl, by rw [hlen]; exact hl⟩, hcap⟩, Or.inr rfl, fun j hj => ?_⟩
      have hjl : j < len0 := by simpa using hj
      have hd := hf' ⟨j, hjl⟩
      simp only [add_plain] at hd
      have e : ((List.range len0).attach.map (fun i => f ⟨i.1, List.mem_range.1 i.2⟩)).getD j ByteArray.empty = f ⟨j, hjl⟩ := by
        simp [List.getD, hjl]
      rw [e]
      exact hd
theorem ws_trod {c : Value} {x : DataW H × List MemPlace} {n' : Nat} (hf : DataW.trod enc Try.prog W 0 (fun _ => true) true n' 26 [c] = some x) : ∃ (a : Option Addr) (k : Nat) (S : List (Int × ByteArray)) (b o : Nat), c = .slice a S.length k ∧ SlOk a S.length k ∧ (S.length = 0 ∨ a = some ⟨b, o, none⟩) ∧ WasAt W b o S := by
  rcases open_slice Try.underlying26 hf with ⟨hcs, _⟩ | ⟨a, len0, cap0, m, n, D, Pl, hcs, _, hl, hm, hmm, _, hi⟩
  · simp at hcs
    subst hcs
    exact ⟨none, 0, [], 0, 0, rfl, ⟨Or.inl ⟨rfl, rfl, rfl⟩, Nat.zero_le _⟩, Or.inl rfl, fun j hj => absurd hj (Nat.not_lt_zero _)⟩
  · simp at hcs
    subst hcs
    simp only [if_true] at hmm
    have cw : Try.prog.cellsOf 65 = 2 := by kernel_rfl
    have ci : Try.prog.cellsOf 3 = 1 := by kernel_rfl
    have cu : Try.prog.cellsOf 9 = 1 := by kernel_rfl
    have key : ∀ i, i < len0 → ∃ A : Int × ByteArray, W.cell? (a.add (i * 2)) = some (.int .i64 A.1) ∧ W.cell? (a.add (i * 2 + 1)) = some (.string A.2) := by
      intro i hil
      obtain ⟨cs', hc, ht⟩ := hi i (by omega)
      rw [cw] at hc
      obtain ⟨_, hcl, hat⟩ := World.cells?_some hc
      match cs', hcl with
      | [c0, c1], _ =>
        obtain ⟨xs, n', _, _, _, hlen, hg⟩ := DataW.trod_struct Try.underlying65 ht
        match xs, hlen with
        | [y0, y1], _ =>
          have h0 := hg 0 _ rfl
          have h1 := hg 1 _ rfl
          simp [ci, cu] at h0 h1
          obtain ⟨a0, e0, _, _⟩ := DataW.trod_int Try.underlying3 h0
          obtain ⟨a1, e1, _⟩ := DataW.trod_string Try.underlying9 h1
          simp at e0 e1
          subst e0; subst e1
          have q0 := hat 0 (by omega)
          have q1 := hat 1 (by omega)
          rw [add_add] at q0 q1
          exact ⟨⟨a0, a1⟩, q0, q1⟩
    have hcap : cap0 ≤ 9223372036854775807 := by unfold maxLen at hm; omega
    by_cases h0 : len0 = 0
    · subst h0
      exact ⟨_, _, [], 0, 0, rfl, ⟨Or.inr ⟨rfl, Nat.zero_le _⟩, hcap⟩, Or.inl rfl, fun j hj => absurd hj (Nat.not_lt_zero _)⟩
    · obtain ⟨b, off, spot⟩ := a
      obtain ⟨A0, hA0, _⟩ := key 0 (by omega)
      have hspot : spot = none := by simpa [Addr.add] using World.cell?_spot hA0
      subst hspot
      obtain ⟨f, hf'⟩ := Classical.axiomOfChoice (fun i : { i : Nat // i < len0 } => key i.1 i.2)
      have hlen : ((List.range len0).attach.map (fun i => f ⟨i.1, List.mem_range.1 i.2⟩)).length = len0 := by simp
      refine ⟨some ⟨b, off, none⟩, cap0, (List.range len0).attach.map (fun i => f ⟨i.1, List.mem_range.1 i.2⟩), b, off, by rw [hlen], ⟨Or.inr ⟨rfl, by rw [hlen]; exact hl⟩, hcap⟩, Or.inr rfl, fun j hj => ?_⟩
      have hjl : j < len0 := by simpa using hj
      have hd := hf' ⟨j, hjl⟩
      simp only [add_plain] at hd
      have e : ((List.range len0).attach.map (fun i => f ⟨i.1, List.mem_range.1 i.2⟩)).getD j (0, ByteArray.empty) = f ⟨j, hjl⟩ := by
        simp [List.getD, hjl]
      rw [e]
      exact ⟨hd.1, by simpa [Nat.add_assoc] using hd.2⟩
def DkIn (w : World) (d : Dk) : Prop := d.gen ∧ StrAt w d.b d.o d.S ∧ WasAt w d.c d.p d.W
theorem dk_trod {c0 c1 : Value} {x : DataW H × List MemPlace} {n' : Nat} (hf : DataW.trod enc Try.prog W 0 (fun _ => true) true n' 28 [c0, c1] = some x) : ∃ d : Dk, c0 = .slice d.sa d.sl d.sc ∧ c1 = .slice d.ta d.tl d.tc ∧ DkIn W d := by
  obtain ⟨xs, n', _, _, _, hlen, hg⟩ := DataW.trod_struct Try.underlying28 hf
  match xs, hlen with
  | [y0, y1], _ =>
    have c1' : Try.prog.cellsOf 25 = 1 := by kernel_rfl
    have c2' : Try.prog.cellsOf 26 = 1 := by kernel_rfl
    have h0 := hg 0 _ rfl
    have h1 := hg 1 _ rfl
    simp [c1', c2'] at h0 h1
    obtain ⟨a, k, S, b, o, rfl, hs1, hs2, hs3⟩ := ss_trod h0
    obtain ⟨a', k', T, b', o', rfl, ht1, ht2, ht3⟩ := ws_trod h1
    exact ⟨⟨a, S.length, k, a', T.length, k', b, o, b', o', S, T⟩, rfl, rfl, ⟨rfl, hs2, rfl, ht2, ht1.1, ht1.2, fun h => by rcases hs1.1 with q | q; exact q.2.2; subst h; cases q.1⟩, hs3, ht3⟩
end
end Go.Proofs.Ytekcjffdooekaaa


/-
  Layer 25: what an argument of a device's type is in memory.
-/
namespace Go.Proofs.Ytekcjffdooekaaa
open Go.ChangeShapes Go.WideShapes Go.ChangeAt Go.RowKit Go.Deep
set_option maxRecDepth 100000
variable {H : Type} {enc : TypeId × Value → H} {W : World}
theorem open_dk {r : Reach} {b0 : Nat} {v : Value} {d : DataW H} {p : List MemPlace} (hv : Value.okWide Try.prog W r b0 28 v) (h : DataW.Trod enc Try.prog W 0 (fun _ => true) true 28 v d p) :
    ∃ d : Dk, v = d.v ∧ DkIn W d := by
  obtain ⟨cs, rfl, hsz⟩ := okWide_struct Try.underlying28 hv
  obtain ⟨l⟩ := cs
  have hcells : Try.prog.cellsOf 28 = 2 := by kernel_rfl
  match l, hsz.trans hcells with
  | [c0, c1], _ =>
    obtain ⟨fuel, hf⟩ := h
    obtain ⟨d, rfl, rfl, hd⟩ := dk_trod (c0 := c0) (c1 := c1) hf
    exact ⟨d, rfl, hd⟩
end Go.Proofs.Ytekcjffdooekaaa


/-
  Layer 22: whether any device is right.
-/
namespace Go.Proofs.Ytekcjffdooekaaa
open Go Go.RowKit SZ
set_option linter.unusedVariables false
set_option linter.unusedSimpArgs false
set_option maxRecDepth 100000
attribute [local irreducible] post GD Nxt NxtAll
theorem ex_ltI {s : SS} {bs : List Nat} {x y : Operand} {t t' ty : TypeId} {ki : IntKind} {p q : Int} {b : Bool} (hx : s.val x = some (.v (.int ki p))) (hy : s.val y = some (.v (.int ki q))) (hb : decide (p < q) = b) :
    ∀ (o : Oper) (ρ : Operand → Value) (W : World), o.op = .binOp .lss t x y t' → o.type = ty → (∀ x y, s.val x = some y → ρ x = den bs y) → (execOp ρ o).run Try.prog W = .ok (.value (.bool b)) W := by
  intro o ρ W h1 h2 h3
  have e1 : ρ x = .int ki p := h3 x _ hx
  have e2 : ρ y = .int ki q := h3 y _ hy
  subst hb
  unfold execOp
  simp only [h1, e1, e2, eqGuard, binOp_lss, Sem.run_bind, Sem.run_pure, Result.andThen_ok]
  rfl
theorem ex_geI {s : SS} {bs : List Nat} {x y : Operand} {t t' ty : TypeId} {ki : IntKind} {p q : Int} {b : Bool} (hx : s.val x = some (.v (.int ki p))) (hy : s.val y = some (.v (.int ki q))) (hb : decide (p ≥ q) = b) :
    ∀ (o : Oper) (ρ : Operand → Value) (W : World), o.op = .binOp .geq t x y t' → o.type = ty → (∀ x y, s.val x = some y → ρ x = den bs y) → (execOp ρ o).run Try.prog W = .ok (.value (.bool b)) W := by
  intro o ρ W h1 h2 h3
  have e1 : ρ x = .int ki p := h3 x _ hx
  have e2 : ρ y = .int ki q := h3 y _ hy
  subst hb
  unfold execOp
  simp only [h1, e1, e2, eqGuard, binOp_geq, Sem.run_bind, Sem.run_pure, Result.andThen_ok]
  rfl
theorem ex_gtI {s : SS} {bs : List Nat} {x y : Operand} {t t' ty : TypeId} {ki : IntKind} {p q : Int} {b : Bool} (hx : s.val x = some (.v (.int ki p))) (hy : s.val y = some (.v (.int ki q))) (hb : decide (p > q) = b) :
    ∀ (o : Oper) (ρ : Operand → Value) (W : World), o.op = .binOp .gtr t x y t' → o.type = ty → (∀ x y, s.val x = some y → ρ x = den bs y) → (execOp ρ o).run Try.prog W = .ok (.value (.bool b)) W := by
  intro o ρ W h1 h2 h3
  have e1 : ρ x = .int ki p := h3 x _ hx
  have e2 : ρ y = .int ki q := h3 y _ hy
  subst hb
  unfold execOp
  simp only [h1, e1, e2, eqGuard, binOp_gtr, Sem.run_bind, Sem.run_pure, Result.andThen_ok]
  rfl
theorem ex_neI {s : SS} {bs : List Nat} {x y : Operand} {t t' ty : TypeId} {ki : IntKind} {p q : Int} {b : Bool} (hx : s.val x = some (.v (.int ki p))) (hy : s.val y = some (.v (.int ki q))) (hb : (!decide (p = q)) = b) :
    ∀ (o : Oper) (ρ : Operand → Value) (W : World), o.op = .binOp .neq t x y t' → o.type = ty → (∀ x y, s.val x = some y → ρ x = den bs y) → (execOp ρ o).run Try.prog W = .ok (.value (.bool b)) W := by
  intro o ρ W h1 h2 h3
  have e1 : ρ x = .int ki p := h3 x _ hx
  have e2 : ρ y = .int ki q := h3 y _ hy
  subst hb
  have hb2 : (p != q) = !decide (p = q) := rfl
  unfold execOp
  simp only [h1, e1, e2, eqGuard, binOp_neq, hb2, Sem.run_bind, Sem.run_pure, Result.andThen_ok]
  rfl
set_option maxHeartbeats 8000000 in
theorem has_f (d : Dk) (at_ : Int) (h : ¬(0 ≤ at_ ∧ at_ < d.sl)) (w : World) : Calls Try.prog 55 #[d.v, .int .i64 at_] w fun e w' => e = .returned (.bool false) ∧ Below w.heap.size w w' := by
  refine sy_enterF [] [] (by intro f hf; cases hf) Try.func55 rfl rfl fun aa S => ?_
  refine sy_run ⟨0, [1]⟩ 60 S fun bs aa w S => ?_
  refine sy_reg S fun S => ?_
  refine sy_ops 2 S fun bs aa w S => ?_
  by_cases h0 : 0 ≤ at_
  case neg =>
    refine sy_cast 6 S (congrArg Value.bool (decide_eq_false h0 : decide (at_ ≥ 0) = false)) (by kernel_rfl) fun S => ?_
    refine sy_run ⟨0, []⟩ 60 S fun bs aa w S => ?_
    exact sy_ret S (by kernel_rfl) (by kernel_rfl) fun hg => ⟨rfl, bel_gr hg⟩
  refine sy_cast 6 S (congrArg Value.bool (decide_eq_true h0 : decide (at_ ≥ 0) = true)) (by kernel_rfl) fun S => ?_
  refine sy_ops 6 S fun bs aa w S => ?_
  refine sy_cast 12 S (congrArg Value.bool (decide_eq_false (fun q => h ⟨h0, q⟩) : decide (at_ < (d.sl : Int)) = false)) (by kernel_rfl) fun S => ?_
  refine sy_run ⟨0, []⟩ 60 S fun bs aa w S => ?_
  exact sy_ret S (by kernel_rfl) (by kernel_rfl) fun hg => ⟨rfl, bel_gr hg⟩
noncomputable def drS1 (d : Dk) (j : Nat) : SS := ⟨41, [(1, .p 0 0), (12, .v (.slice d.sa d.sl d.sc)), (13, .v (.int .i64 (d.sl : Int))), (14, .v (.int .i64 (j : Int)))], [⟨28, d.cs⟩]⟩
noncomputable def drS2 (d : Dk) (j : Nat) : SS := ⟨41, [(1, .p 0 0), (23, .v (.slice d.ta d.tl d.tc)), (24, .v (.int .i64 (d.tl : Int))), (25, .v (.int .i64 (j : Int)))], [⟨28, d.cs⟩]⟩
noncomputable def rr1 : Cfg := ⟨goZ 60 [0] [.code (bodyOf Try.f7)], ⟨0, [], []⟩⟩
noncomputable def rr2 : Cfg := ⟨goZ 60 [0, 9] [.code (bodyOf Try.f7)], ⟨0, [], []⟩⟩
noncomputable def rrS1 (d : Dk) (j : Nat) : SS := ⟨59, [(1, .p 0 0), (3, .v (.int .i64 (j : Int)))], [⟨28, d.cs⟩]⟩
noncomputable def rrS2 (d : Dk) (j : Nat) : SS := ⟨59, [(1, .p 0 0), (4, .v (.int .i64 (j : Int)))], [⟨28, d.cs⟩]⟩
set_option maxHeartbeats 8000000 in
theorem rr_e2 (w0 : World) (d : Dk) (hg : d.gen) (h5 : d.sl ≤ 512) (h1000 : d.tl ≤ 60) (m : Nat) (hu : ∀ i, i < d.sl → (decide ((d.S.getD i ByteArray.empty).size = 32)) = true) (hv : ∀ i, i < d.tl → (decide (0 ≤ (d.W.getD i (0, ByteArray.empty)).1) && decide ((d.W.getD i (0, ByteArray.empty)).1 < (d.sl : Int)) && decide ((d.W.getD i (0, ByteArray.empty)).2.size = 32)) = true) (x0 : Nat) (aa : Act) (w : World) (S : Sy w0 [] [x0] (rrS2 d (d.tl)) [rfSt d.b d.o d.S, rfWs d.c d.p d.W] aa w) : post Try.prog (.rnd (m + 1) (bodyL rr2) :: rr2.k.tail) (bodyPost Try.prog Try.f7 fun e w' => e = .returned (.bool (dkRB d)) ∧ Below w0.heap.size w0 w') .normal aa w := by
  refine sy_run (c := ⟨(.rnd (m + 1) (bodyL rr2) :: rr2.k.tail), rrS2 d d.tl⟩) ⟨0, [9]⟩ 50 S fun bs aa w S => ?_
  refine sy_reg S fun S => ?_
  refine sy_ops 5 S fun bs aa w S => ?_
  refine sy_cast 27 S (congrArg Value.bool (decide_eq_false (by omega) : decide ((d.tl : Int) < (d.tl : Int)) = false)) (by kernel_rfl) fun S => ?_
  refine sy_run ⟨0, []⟩ 60 S fun bs aa w S => ?_
  have e : dkRB d = true := by simp only [dkRB]; rw [all_upto _ ByteArray.empty d.S (fun i hi => hu i (by rw [← hg.hS]; exact hi)), all_upto (fun x => decide (0 ≤ x.1) && decide (x.1 < (d.sl : Int)) && decide (x.2.size = 32)) (0, ByteArray.empty) d.W (fun i hi => hv i (by rw [← hg.hW]; exact hi)), decide_eq_true h5]; rfl
  rw [e]
  exact sy_ret S (by kernel_rfl) (by kernel_rfl) fun hg => ⟨rfl, bel_gr hg⟩
set_option maxHeartbeats 8000000 in
theorem rr_s20 (w0 : World) (d : Dk) (hg : d.gen) (h5 : d.sl ≤ 512) (h1000 : d.tl ≤ 60) (hu : ∀ i, i < d.sl → (decide ((d.S.getD i ByteArray.empty).size = 32)) = true) (m j : Nat) (hj : j < d.tl) (hr : 0 ≤ (d.W.getD j (0, ByteArray.empty)).1 ∧ (d.W.getD j (0, ByteArray.empty)).1 < (d.sl : Int)) (hz : (d.W.getD j (0, ByteArray.empty)).2.size = 32) (ih : (∀ i, i < j + 1 → (decide (0 ≤ (d.W.getD i (0, ByteArray.empty)).1) && decide ((d.W.getD i (0, ByteArray.empty)).1 < (d.sl : Int)) && decide ((d.W.getD i (0, ByteArray.empty)).2.size = 32)) = true) → ∀ (x0 : Nat) (aa : Act) (w : World) (S : Sy w0 [] [x0] (rrS2 d (j + 1)) [rfSt d.b d.o d.S, rfWs d.c d.p d.W] aa w), post Try.prog (.rnd (m) (bodyL rr2) :: rr2.k.tail) (bodyPost Try.prog Try.f7 fun e w' => e = .returned (.bool (dkRB d)) ∧ Below w0.heap.size w0 w') .normal aa w) (hv : ∀ i, i < j → (decide (0 ≤ (d.W.getD i (0, ByteArray.empty)).1) && decide ((d.W.getD i (0, ByteArray.empty)).1 < (d.sl : Int)) && decide ((d.W.getD i (0, ByteArray.empty)).2.size = 32)) = true) (x0 : Nat) (aa : Act) (w : World) (S : Sy w0 [] [x0] (rrS2 d (j)) [rfSt d.b d.o d.S, rfWs d.c d.p d.W] aa w) : post Try.prog (.rnd (m + 1) (bodyL rr2) :: rr2.k.tail) (bodyPost Try.prog Try.f7 fun e w' => e = .returned (.bool (dkRB d)) ∧ Below w0.heap.size w0 w') .normal aa w := by
  refine sy_run (c := ⟨(.rnd (m + 1) (bodyL rr2) :: rr2.k.tail), rrS2 d j⟩) ⟨0, [9]⟩ 50 S fun bs aa w S => ?_
  refine sy_reg S fun S => ?_
  refine sy_ops 5 S fun bs aa w S => ?_
  refine sy_cast 27 S (congrArg Value.bool (decide_eq_true (by omega) : decide ((j : Int) < (d.tl : Int)) = true)) (by kernel_rfl) fun S => ?_
  refine sy_run ⟨0, []⟩ 60 S fun bs aa w S => ?_
  letI : KP := ⟨[36, 47, 57]⟩
  letI : HF := ⟨[rfWs d.c d.p d.W]⟩
  refine dr_enter [0] (by kernel_rfl) (by kernel_rfl) S (by kernel_rfl) (fun aa w D => ?_) (fun f hf => by have e : f = rfWs d.c d.p d.W := List.mem_singleton.1 hf; subst e; simp)
  refine dr_tix 3 D (by kernel_rfl) (by kernel_rfl) (by kernel_rfl) (b := d.c) (off := d.p) (len := d.tl) (n := j) (size := 2) (ix := (j : Int)) (by rw [← hg.hw.resolve_left (by omega)]; kernel_rfl) rfl hj fun aa D => ?_
  refine dr_tld 5 D (by kernel_rfl) (by kernel_rfl) (by kernel_rfl) (ty := 3) (ad := ⟨d.c, d.p + j * 2, none⟩) (v := .int .i64 (d.W.getD j (0, ByteArray.empty)).1) (fun W hW => ld_at (by kernel_rfl) ((show WasAt W d.c d.p d.W from hW _ (List.mem_singleton.2 rfl)) j (by rw [hg.hW]; exact hj)).1) (by kernel_rfl) fun aa D => ?_
  refine dr_ex2 (fun d v c a w h => by cases d <;> exact h) 6 (op := .binOp .lss 3 (.tmp 35) (.const (.int .i64 0)) 3) (ty := 4) (v := .bool false) D (by kernel_rfl) (by kernel_rfl) (by kernel_rfl) (by kernel_rfl) (ex_ltI (ki := .i64) (p := (d.W.getD j (0, ByteArray.empty)).1) (q := 0) (by kernel_rfl) (by kernel_rfl) (decide_eq_false (by omega))) fun aa D => ?_
  refine dr_tix 11 D (by kernel_rfl) (by kernel_rfl) (by kernel_rfl) (b := d.c) (off := d.p) (len := d.tl) (n := j) (size := 2) (ix := (j : Int)) (by rw [← hg.hw.resolve_left (by omega)]; kernel_rfl) rfl hj fun aa D => ?_
  refine dr_tld 13 D (by kernel_rfl) (by kernel_rfl) (by kernel_rfl) (ty := 3) (ad := ⟨d.c, d.p + j * 2, none⟩) (v := .int .i64 (d.W.getD j (0, ByteArray.empty)).1) (fun W hW => ld_at (by kernel_rfl) ((show WasAt W d.c d.p d.W from hW _ (List.mem_singleton.2 rfl)) j (by rw [hg.hW]; exact hj)).1) (by kernel_rfl) fun aa D => ?_
  refine dr_ex2 (fun d v c a w h => by cases d <;> exact h) 17 (op := .binOp .geq 3 (.tmp 43) (.tmp 46) 3) (ty := 4) (v := .bool false) D (by kernel_rfl) (by kernel_rfl) (by kernel_rfl) (by kernel_rfl) (ex_geI (ki := .i64) (p := (d.W.getD j (0, ByteArray.empty)).1) (q := (d.sl : Int)) (by kernel_rfl) (by kernel_rfl) (decide_eq_false (by omega))) fun aa D => ?_
  refine dr_tix 23 D (by kernel_rfl) (by kernel_rfl) (by kernel_rfl) (b := d.c) (off := d.p) (len := d.tl) (n := j) (size := 2) (ix := (j : Int)) (by rw [← hg.hw.resolve_left (by omega)]; kernel_rfl) rfl hj fun aa D => ?_
  refine dr_tld 25 D (by kernel_rfl) (by kernel_rfl) (by kernel_rfl) (ty := 9) (ad := ⟨d.c, d.p + j * 2 + 1, none⟩) (v := .string (d.W.getD j (0, ByteArray.empty)).2) (fun W hW => ld_at (by kernel_rfl) ((show WasAt W d.c d.p d.W from hW _ (List.mem_singleton.2 rfl)) j (by rw [hg.hW]; exact hj)).2) (by kernel_rfl) fun aa D => ?_
  refine dr_ex2 (fun d v c a w h => by cases d <;> exact h) 27 (op := .binOp .neq 3 (.tmp 56) (.const (.int .i64 32)) 3) (ty := 4) (v := .bool false) D (by kernel_rfl) (by kernel_rfl) (by kernel_rfl) (by kernel_rfl) (ex_neI (ki := .i64) (p := ((d.W.getD j (0, ByteArray.empty)).2.size : Int)) (q := 32) (by kernel_rfl) (by kernel_rfl) (by rw [hz]; rfl)) fun aa D => ?_
  refine dr_end D (by kernel_rfl) fun S => ?_
  have hp : (decide (0 ≤ (d.W.getD j (0, ByteArray.empty)).1) && decide ((d.W.getD j (0, ByteArray.empty)).1 < (d.sl : Int)) && decide ((d.W.getD j (0, ByteArray.empty)).2.size = 32)) = true := by rw [decide_eq_true hr.1, decide_eq_true hr.2, decide_eq_true hz]; rfl
  refine sy_run ⟨0, [10]⟩ 60 S fun bs aa w S => ?_
  refine sy_reg S fun S => ?_
  refine sy_ops 2 S fun bs aa w S => ?_
  refine sy_cast 29 S (congrArg (Value.int .i64) (by rw [IntKind.wrap_i64]; omega : IntKind.i64.wrap ((j : Int) + 1) = ((j + 1 : Nat) : Int))) (by kernel_rfl) fun S => ?_
  refine sy_run ⟨0, [999]⟩ 50 S fun bs aa w S => ?_
  have S2 := S.to [0] (rrS2 d (j + 1)) (by kernel_rfl) (by kernel_rfl) (by kernel_rfl) (by kernel_rfl) (by kernel_rfl)
  refine sy_at2 (k' := (.rnd (m) (bodyL rr2) :: rr2.k.tail)) (by kernel_rfl) ?_
  exact ih (upto_succ hv hp) _ aa w S2
set_option maxHeartbeats 8000000 in
theorem rr_s21 (w0 : World) (d : Dk) (hg : d.gen) (h5 : d.sl ≤ 512) (h1000 : d.tl ≤ 60) (hu : ∀ i, i < d.sl → (decide ((d.S.getD i ByteArray.empty).size = 32)) = true) (m j : Nat) (hj : j < d.tl) (hr : 0 ≤ (d.W.getD j (0, ByteArray.empty)).1 ∧ (d.W.getD j (0, ByteArray.empty)).1 < (d.sl : Int)) (hz : ¬(d.W.getD j (0, ByteArray.empty)).2.size = 32) (ih : (∀ i, i < j + 1 → (decide (0 ≤ (d.W.getD i (0, ByteArray.empty)).1) && decide ((d.W.getD i (0, ByteArray.empty)).1 < (d.sl : Int)) && decide ((d.W.getD i (0, ByteArray.empty)).2.size = 32)) = true) → ∀ (x0 : Nat) (aa : Act) (w : World) (S : Sy w0 [] [x0] (rrS2 d (j + 1)) [rfSt d.b d.o d.S, rfWs d.c d.p d.W] aa w), post Try.prog (.rnd (m) (bodyL rr2) :: rr2.k.tail) (bodyPost Try.prog Try.f7 fun e w' => e = .returned (.bool (dkRB d)) ∧ Below w0.heap.size w0 w') .normal aa w) (hv : ∀ i, i < j → (decide (0 ≤ (d.W.getD i (0, ByteArray.empty)).1) && decide ((d.W.getD i (0, ByteArray.empty)).1 < (d.sl : Int)) && decide ((d.W.getD i (0, ByteArray.empty)).2.size = 32)) = true) (x0 : Nat) (aa : Act) (w : World) (S : Sy w0 [] [x0] (rrS2 d (j)) [rfSt d.b d.o d.S, rfWs d.c d.p d.W] aa w) : post Try.prog (.rnd (m + 1) (bodyL rr2) :: rr2.k.tail) (bodyPost Try.prog Try.f7 fun e w' => e = .returned (.bool (dkRB d)) ∧ Below w0.heap.size w0 w') .normal aa w := by
  refine sy_run (c := ⟨(.rnd (m + 1) (bodyL rr2) :: rr2.k.tail), rrS2 d j⟩) ⟨0, [9]⟩ 50 S fun bs aa w S => ?_
  refine sy_reg S fun S => ?_
  refine sy_ops 5 S fun bs aa w S => ?_
  refine sy_cast 27 S (congrArg Value.bool (decide_eq_true (by omega) : decide ((j : Int) < (d.tl : Int)) = true)) (by kernel_rfl) fun S => ?_
  refine sy_run ⟨0, []⟩ 60 S fun bs aa w S => ?_
  letI : KP := ⟨[36, 47, 57]⟩
  letI : HF := ⟨[rfWs d.c d.p d.W]⟩
  refine dr_enter [0] (by kernel_rfl) (by kernel_rfl) S (by kernel_rfl) (fun aa w D => ?_) (fun f hf => by have e : f = rfWs d.c d.p d.W := List.mem_singleton.1 hf; subst e; simp)
  refine dr_tix 3 D (by kernel_rfl) (by kernel_rfl) (by kernel_rfl) (b := d.c) (off := d.p) (len := d.tl) (n := j) (size := 2) (ix := (j : Int)) (by rw [← hg.hw.resolve_left (by omega)]; kernel_rfl) rfl hj fun aa D => ?_
  refine dr_tld 5 D (by kernel_rfl) (by kernel_rfl) (by kernel_rfl) (ty := 3) (ad := ⟨d.c, d.p + j * 2, none⟩) (v := .int .i64 (d.W.getD j (0, ByteArray.empty)).1) (fun W hW => ld_at (by kernel_rfl) ((show WasAt W d.c d.p d.W from hW _ (List.mem_singleton.2 rfl)) j (by rw [hg.hW]; exact hj)).1) (by kernel_rfl) fun aa D => ?_
  refine dr_ex2 (fun d v c a w h => by cases d <;> exact h) 6 (op := .binOp .lss 3 (.tmp 35) (.const (.int .i64 0)) 3) (ty := 4) (v := .bool false) D (by kernel_rfl) (by kernel_rfl) (by kernel_rfl) (by kernel_rfl) (ex_ltI (ki := .i64) (p := (d.W.getD j (0, ByteArray.empty)).1) (q := 0) (by kernel_rfl) (by kernel_rfl) (decide_eq_false (by omega))) fun aa D => ?_
  refine dr_tix 11 D (by kernel_rfl) (by kernel_rfl) (by kernel_rfl) (b := d.c) (off := d.p) (len := d.tl) (n := j) (size := 2) (ix := (j : Int)) (by rw [← hg.hw.resolve_left (by omega)]; kernel_rfl) rfl hj fun aa D => ?_
  refine dr_tld 13 D (by kernel_rfl) (by kernel_rfl) (by kernel_rfl) (ty := 3) (ad := ⟨d.c, d.p + j * 2, none⟩) (v := .int .i64 (d.W.getD j (0, ByteArray.empty)).1) (fun W hW => ld_at (by kernel_rfl) ((show WasAt W d.c d.p d.W from hW _ (List.mem_singleton.2 rfl)) j (by rw [hg.hW]; exact hj)).1) (by kernel_rfl) fun aa D => ?_
  refine dr_ex2 (fun d v c a w h => by cases d <;> exact h) 17 (op := .binOp .geq 3 (.tmp 43) (.tmp 46) 3) (ty := 4) (v := .bool false) D (by kernel_rfl) (by kernel_rfl) (by kernel_rfl) (by kernel_rfl) (ex_geI (ki := .i64) (p := (d.W.getD j (0, ByteArray.empty)).1) (q := (d.sl : Int)) (by kernel_rfl) (by kernel_rfl) (decide_eq_false (by omega))) fun aa D => ?_
  refine dr_tix 23 D (by kernel_rfl) (by kernel_rfl) (by kernel_rfl) (b := d.c) (off := d.p) (len := d.tl) (n := j) (size := 2) (ix := (j : Int)) (by rw [← hg.hw.resolve_left (by omega)]; kernel_rfl) rfl hj fun aa D => ?_
  refine dr_tld 25 D (by kernel_rfl) (by kernel_rfl) (by kernel_rfl) (ty := 9) (ad := ⟨d.c, d.p + j * 2 + 1, none⟩) (v := .string (d.W.getD j (0, ByteArray.empty)).2) (fun W hW => ld_at (by kernel_rfl) ((show WasAt W d.c d.p d.W from hW _ (List.mem_singleton.2 rfl)) j (by rw [hg.hW]; exact hj)).2) (by kernel_rfl) fun aa D => ?_
  refine dr_ex2 (fun d v c a w h => by cases d <;> exact h) 27 (op := .binOp .neq 3 (.tmp 56) (.const (.int .i64 32)) 3) (ty := 4) (v := .bool true) D (by kernel_rfl) (by kernel_rfl) (by kernel_rfl) (by kernel_rfl) (ex_neI (ki := .i64) (p := ((d.W.getD j (0, ByteArray.empty)).2.size : Int)) (q := 32) (by kernel_rfl) (by kernel_rfl) (by rw [decide_eq_false (by omega)]; rfl)) fun aa D => ?_
  refine dr_end D (by kernel_rfl) fun S => ?_
  refine sy_run ⟨0, []⟩ 60 S fun bs aa w S => ?_
  have hpw : (decide (0 ≤ (d.W.getD j (0, ByteArray.empty)).1) && decide ((d.W.getD j (0, ByteArray.empty)).1 < (d.sl : Int)) && decide ((d.W.getD j (0, ByteArray.empty)).2.size = 32)) = false := by rw [decide_eq_false hz, Bool.and_false]
  have e : dkRB d = false := (by simp only [dkRB]; rw [all_not (fun x => decide (0 ≤ x.1) && decide (x.1 < (d.sl : Int)) && decide (x.2.size = 32)) (0, ByteArray.empty) d.W j (by rw [hg.hW]; exact hj) hpw]; simp)
  rw [e]
  exact sy_ret S (by kernel_rfl) (by kernel_rfl) fun hg => ⟨rfl, bel_gr hg⟩
set_option maxHeartbeats 8000000 in
theorem rr_s22 (w0 : World) (d : Dk) (hg : d.gen) (h5 : d.sl ≤ 512) (h1000 : d.tl ≤ 60) (hu : ∀ i, i < d.sl → (decide ((d.S.getD i ByteArray.empty).size = 32)) = true) (m j : Nat) (hj : j < d.tl) (hr : ¬(0 ≤ (d.W.getD j (0, ByteArray.empty)).1 ∧ (d.W.getD j (0, ByteArray.empty)).1 < (d.sl : Int))) (ih : (∀ i, i < j + 1 → (decide (0 ≤ (d.W.getD i (0, ByteArray.empty)).1) && decide ((d.W.getD i (0, ByteArray.empty)).1 < (d.sl : Int)) && decide ((d.W.getD i (0, ByteArray.empty)).2.size = 32)) = true) → ∀ (x0 : Nat) (aa : Act) (w : World) (S : Sy w0 [] [x0] (rrS2 d (j + 1)) [rfSt d.b d.o d.S, rfWs d.c d.p d.W] aa w), post Try.prog (.rnd (m) (bodyL rr2) :: rr2.k.tail) (bodyPost Try.prog Try.f7 fun e w' => e = .returned (.bool (dkRB d)) ∧ Below w0.heap.size w0 w') .normal aa w) (hv : ∀ i, i < j → (decide (0 ≤ (d.W.getD i (0, ByteArray.empty)).1) && decide ((d.W.getD i (0, ByteArray.empty)).1 < (d.sl : Int)) && decide ((d.W.getD i (0, ByteArray.empty)).2.size = 32)) = true) (x0 : Nat) (aa : Act) (w : World) (S : Sy w0 [] [x0] (rrS2 d (j)) [rfSt d.b d.o d.S, rfWs d.c d.p d.W] aa w) : post Try.prog (.rnd (m + 1) (bodyL rr2) :: rr2.k.tail) (bodyPost Try.prog Try.f7 fun e w' => e = .returned (.bool (dkRB d)) ∧ Below w0.heap.size w0 w') .normal aa w := by
  refine sy_run (c := ⟨(.rnd (m + 1) (bodyL rr2) :: rr2.k.tail), rrS2 d j⟩) ⟨0, [9]⟩ 50 S fun bs aa w S => ?_
  refine sy_reg S fun S => ?_
  refine sy_ops 5 S fun bs aa w S => ?_
  refine sy_cast 27 S (congrArg Value.bool (decide_eq_true (by omega) : decide ((j : Int) < (d.tl : Int)) = true)) (by kernel_rfl) fun S => ?_
  have hpw : (decide (0 ≤ (d.W.getD j (0, ByteArray.empty)).1) && decide ((d.W.getD j (0, ByteArray.empty)).1 < (d.sl : Int)) && decide ((d.W.getD j (0, ByteArray.empty)).2.size = 32)) = false := by rw [Bool.eq_false_iff]; intro q; simp only [Bool.and_eq_true, decide_eq_true_eq] at q; exact hr q.1
  by_cases h0 : 0 ≤ (d.W.getD j (0, ByteArray.empty)).1
  case neg =>
    refine sy_run ⟨0, []⟩ 60 S fun bs aa w S => ?_
    letI : KP := ⟨[36]⟩
    letI : HF := ⟨[rfWs d.c d.p d.W]⟩
    refine dr_enter [0] (by kernel_rfl) (by kernel_rfl) S (by kernel_rfl) (fun aa w D => ?_) (fun f hf => by have e : f = rfWs d.c d.p d.W := List.mem_singleton.1 hf; subst e; simp)
    refine dr_tix 3 D (by kernel_rfl) (by kernel_rfl) (by kernel_rfl) (b := d.c) (off := d.p) (len := d.tl) (n := j) (size := 2) (ix := (j : Int)) (by rw [← hg.hw.resolve_left (by omega)]; kernel_rfl) rfl hj fun aa D => ?_
    refine dr_tld 5 D (by kernel_rfl) (by kernel_rfl) (by kernel_rfl) (ty := 3) (ad := ⟨d.c, d.p + j * 2, none⟩) (v := .int .i64 (d.W.getD j (0, ByteArray.empty)).1) (fun W hW => ld_at (by kernel_rfl) ((show WasAt W d.c d.p d.W from hW _ (List.mem_singleton.2 rfl)) j (by rw [hg.hW]; exact hj)).1) (by kernel_rfl) fun aa D => ?_
    refine dr_ex2 (fun d v c a w h => by cases d <;> exact h) 6 (op := .binOp .lss 3 (.tmp 35) (.const (.int .i64 0)) 3) (ty := 4) (v := .bool true) D (by kernel_rfl) (by kernel_rfl) (by kernel_rfl) (by kernel_rfl) (ex_ltI (ki := .i64) (p := (d.W.getD j (0, ByteArray.empty)).1) (q := 0) (by kernel_rfl) (by kernel_rfl) (decide_eq_true (by omega))) fun aa D => ?_
    refine dr_end D (by kernel_rfl) fun S => ?_
    refine sy_run ⟨0, []⟩ 60 S fun bs aa w S => ?_
    have e : dkRB d = false := (by simp only [dkRB]; rw [all_not (fun x => decide (0 ≤ x.1) && decide (x.1 < (d.sl : Int)) && decide (x.2.size = 32)) (0, ByteArray.empty) d.W j (by rw [hg.hW]; exact hj) hpw]; simp)
    rw [e]
    exact sy_ret S (by kernel_rfl) (by kernel_rfl) fun hg => ⟨rfl, bel_gr hg⟩
  refine sy_run ⟨0, []⟩ 60 S fun bs aa w S => ?_
  letI : KP := ⟨[36, 47]⟩
  letI : HF := ⟨[rfWs d.c d.p d.W]⟩
  refine dr_enter [0] (by kernel_rfl) (by kernel_rfl) S (by kernel_rfl) (fun aa w D => ?_) (fun f hf => by have e : f = rfWs d.c d.p d.W := List.mem_singleton.1 hf; subst e; simp)
  refine dr_tix 3 D (by kernel_rfl) (by kernel_rfl) (by kernel_rfl) (b := d.c) (off := d.p) (len := d.tl) (n := j) (size := 2) (ix := (j : Int)) (by rw [← hg.hw.resolve_left (by omega)]; kernel_rfl) rfl hj fun aa D => ?_
  refine dr_tld 5 D (by kernel_rfl) (by kernel_rfl) (by kernel_rfl) (ty := 3) (ad := ⟨d.c, d.p + j * 2, none⟩) (v := .int .i64 (d.W.getD j (0, ByteArray.empty)).1) (fun W hW => ld_at (by kernel_rfl) ((show WasAt W d.c d.p d.W from hW _ (List.mem_singleton.2 rfl)) j (by rw [hg.hW]; exact hj)).1) (by kernel_rfl) fun aa D => ?_
  refine dr_ex2 (fun d v c a w h => by cases d <;> exact h) 6 (op := .binOp .lss 3 (.tmp 35) (.const (.int .i64 0)) 3) (ty := 4) (v := .bool false) D (by kernel_rfl) (by kernel_rfl) (by kernel_rfl) (by kernel_rfl) (ex_ltI (ki := .i64) (p := (d.W.getD j (0, ByteArray.empty)).1) (q := 0) (by kernel_rfl) (by kernel_rfl) (decide_eq_false (by omega))) fun aa D => ?_
  refine dr_tix 11 D (by kernel_rfl) (by kernel_rfl) (by kernel_rfl) (b := d.c) (off := d.p) (len := d.tl) (n := j) (size := 2) (ix := (j : Int)) (by rw [← hg.hw.resolve_left (by omega)]; kernel_rfl) rfl hj fun aa D => ?_
  refine dr_tld 13 D (by kernel_rfl) (by kernel_rfl) (by kernel_rfl) (ty := 3) (ad := ⟨d.c, d.p + j * 2, none⟩) (v := .int .i64 (d.W.getD j (0, ByteArray.empty)).1) (fun W hW => ld_at (by kernel_rfl) ((show WasAt W d.c d.p d.W from hW _ (List.mem_singleton.2 rfl)) j (by rw [hg.hW]; exact hj)).1) (by kernel_rfl) fun aa D => ?_
  refine dr_ex2 (fun d v c a w h => by cases d <;> exact h) 17 (op := .binOp .geq 3 (.tmp 43) (.tmp 46) 3) (ty := 4) (v := .bool true) D (by kernel_rfl) (by kernel_rfl) (by kernel_rfl) (by kernel_rfl) (ex_geI (ki := .i64) (p := (d.W.getD j (0, ByteArray.empty)).1) (q := (d.sl : Int)) (by kernel_rfl) (by kernel_rfl) (decide_eq_true (by omega))) fun aa D => ?_
  refine dr_end D (by kernel_rfl) fun S => ?_
  refine sy_run ⟨0, []⟩ 60 S fun bs aa w S => ?_
  have e : dkRB d = false := (by simp only [dkRB]; rw [all_not (fun x => decide (0 ≤ x.1) && decide (x.1 < (d.sl : Int)) && decide (x.2.size = 32)) (0, ByteArray.empty) d.W j (by rw [hg.hW]; exact hj) hpw]; simp)
  rw [e]
  exact sy_ret S (by kernel_rfl) (by kernel_rfl) fun hg => ⟨rfl, bel_gr hg⟩
theorem rr_a2 (w0 : World) (d : Dk) (hg : d.gen) (h5 : d.sl ≤ 512) (h1000 : d.tl ≤ 60) (hu : ∀ i, i < d.sl → (decide ((d.S.getD i ByteArray.empty).size = 32)) = true) : ∀ (r j : Nat), j + r = d.tl → (∀ i, i < j → (decide (0 ≤ (d.W.getD i (0, ByteArray.empty)).1) && decide ((d.W.getD i (0, ByteArray.empty)).1 < (d.sl : Int)) && decide ((d.W.getD i (0, ByteArray.empty)).2.size = 32)) = true) → ∀ (x0 : Nat) (aa : Act) (w : World) (S : Sy w0 [] [x0] (rrS2 d (j)) [rfSt d.b d.o d.S, rfWs d.c d.p d.W] aa w), post Try.prog (.rnd (r + 1) (bodyL rr2) :: rr2.k.tail) (bodyPost Try.prog Try.f7 fun e w' => e = .returned (.bool (dkRB d)) ∧ Below w0.heap.size w0 w') .normal aa w := by
  intro r
  induction r with
  | zero => intro j hj hv x0 aa w S; obtain rfl : j = d.tl := by omega
            exact rr_e2 w0 d hg h5 h1000 0 hu hv x0 aa w S
  | succ r ih =>
    intro j hj hv x0 aa w S
    have hjl : j < d.tl := by omega
    by_cases hr : 0 ≤ (d.W.getD j (0, ByteArray.empty)).1 ∧ (d.W.getD j (0, ByteArray.empty)).1 < (d.sl : Int)
    · by_cases hz : (d.W.getD j (0, ByteArray.empty)).2.size = 32
      · exact rr_s20 w0 d hg h5 h1000 hu (r + 1) j hjl hr hz (fun h => ih (j + 1) (by omega) h) hv x0 aa w S
      · exact rr_s21 w0 d hg h5 h1000 hu (r + 1) j hjl hr hz (fun h => ih (j + 1) (by omega) h) hv x0 aa w S
    · exact rr_s22 w0 d hg h5 h1000 hu (r + 1) j hjl hr (fun h => ih (j + 1) (by omega) h) hv x0 aa w S
set_option maxHeartbeats 8000000 in
theorem rr_e1 (w0 : World) (d : Dk) (hg : d.gen) (h5 : d.sl ≤ 512) (h1000 : d.tl ≤ 60) (m : Nat) (hv : ∀ i, i < d.sl → (decide ((d.S.getD i ByteArray.empty).size = 32)) = true) (x0 : Nat) (aa : Act) (w : World) (S : Sy w0 [] [x0] (rrS1 d (d.sl)) [rfSt d.b d.o d.S, rfWs d.c d.p d.W] aa w) : post Try.prog (.rnd (m + 1) (bodyL rr1) :: rr1.k.tail) (bodyPost Try.prog Try.f7 fun e w' => e = .returned (.bool (dkRB d)) ∧ Below w0.heap.size w0 w') .normal aa w := by
  refine sy_run (c := ⟨(.rnd (m + 1) (bodyL rr1) :: rr1.k.tail), rrS1 d d.sl⟩) ⟨0, [4]⟩ 50 S fun bs aa w S => ?_
  refine sy_reg S fun S => ?_
  refine sy_ops 5 S fun bs aa w S => ?_
  refine sy_cast 13 S (congrArg Value.bool (decide_eq_false (by omega) : decide ((d.sl : Int) < (d.sl : Int)) = false)) (by kernel_rfl) fun S => ?_
  refine sy_run ⟨0, []⟩ 60 S fun bs aa w S => ?_
  have S2 := S.to [0] (rrS2 d 0) (by kernel_rfl) (by kernel_rfl) (by kernel_rfl) (by kernel_rfl) (by kernel_rfl)
  refine sy_loop (d.tl + 1) (by kernel_rfl) ?_
  refine sy_at2 (k' := (.rnd (d.tl + 1) (bodyL rr2) :: rr2.k.tail)) (by kernel_rfl) ?_
  exact rr_a2 w0 d hg h5 h1000 hv d.tl 0 (by omega) (fun i hi => absurd hi (Nat.not_lt_zero _)) _ aa w S2
set_option maxHeartbeats 8000000 in
theorem rr_s10 (w0 : World) (d : Dk) (hg : d.gen) (h5 : d.sl ≤ 512) (h1000 : d.tl ≤ 60) (m j : Nat) (hj : j < d.sl) (hp : (decide ((d.S.getD j ByteArray.empty).size = 32)) = true) (ih : (∀ i, i < j + 1 → (decide ((d.S.getD i ByteArray.empty).size = 32)) = true) → ∀ (x0 : Nat) (aa : Act) (w : World) (S : Sy w0 [] [x0] (rrS1 d (j + 1)) [rfSt d.b d.o d.S, rfWs d.c d.p d.W] aa w), post Try.prog (.rnd (m) (bodyL rr1) :: rr1.k.tail) (bodyPost Try.prog Try.f7 fun e w' => e = .returned (.bool (dkRB d)) ∧ Below w0.heap.size w0 w') .normal aa w) (hv : ∀ i, i < j → (decide ((d.S.getD i ByteArray.empty).size = 32)) = true) (x0 : Nat) (aa : Act) (w : World) (S : Sy w0 [] [x0] (rrS1 d (j)) [rfSt d.b d.o d.S, rfWs d.c d.p d.W] aa w) : post Try.prog (.rnd (m + 1) (bodyL rr1) :: rr1.k.tail) (bodyPost Try.prog Try.f7 fun e w' => e = .returned (.bool (dkRB d)) ∧ Below w0.heap.size w0 w') .normal aa w := by
  refine sy_run (c := ⟨(.rnd (m + 1) (bodyL rr1) :: rr1.k.tail), rrS1 d j⟩) ⟨0, [4]⟩ 50 S fun bs aa w S => ?_
  refine sy_reg S fun S => ?_
  refine sy_ops 5 S fun bs aa w S => ?_
  refine sy_cast 13 S (congrArg Value.bool (decide_eq_true (by omega) : decide ((j : Int) < (d.sl : Int)) = true)) (by kernel_rfl) fun S => ?_
  refine sy_run ⟨0, [6]⟩ 60 S fun bs aa w S => ?_
  refine sy_reg S fun S => ?_
  refine sy_ops 3 S fun bs aa w S => ?_
  refine sy_ix (b := d.b) (off := d.o) (len := d.sl) (n := j) (size := 1) (i := (j : Int)) S (by rw [← hg.hs.resolve_left (by omega)]; kernel_rfl) rfl hj fun aa S => ?_
  refine sy_ldo S (ld_at (ty := 9) (b := d.b) (off := d.o + j * 1) (by kernel_rfl) (by rw [Nat.mul_one]; exact S.fact (f := rfSt d.b d.o d.S) (by simp) j (by rw [hg.hS]; omega))) (by kernel_rfl) fun aa S => ?_
  refine sy_ops 2 S fun bs aa w S => ?_
  refine sy_cast 22 S (congrArg Value.bool (by rw [of_decide_eq_true hp]; rfl : (!decide (((d.S.getD j ByteArray.empty).size : Int) = 32)) = false)) (by kernel_rfl) fun S => ?_
  refine sy_run ⟨0, [5]⟩ 60 S fun bs aa w S => ?_
  refine sy_reg S fun S => ?_
  refine sy_ops 2 S fun bs aa w S => ?_
  refine sy_cast 15 S (congrArg (Value.int .i64) (by rw [IntKind.wrap_i64]; omega : IntKind.i64.wrap ((j : Int) + 1) = ((j + 1 : Nat) : Int))) (by kernel_rfl) fun S => ?_
  refine sy_run ⟨0, [999]⟩ 50 S fun bs aa w S => ?_
  have S2 := S.to [0] (rrS1 d (j + 1)) (by kernel_rfl) (by kernel_rfl) (by kernel_rfl) (by kernel_rfl) (by kernel_rfl)
  refine sy_at2 (k' := (.rnd (m) (bodyL rr1) :: rr1.k.tail)) (by kernel_rfl) ?_
  exact ih (upto_succ hv hp) _ aa w S2
set_option maxHeartbeats 8000000 in
theorem rr_s11 (w0 : World) (d : Dk) (hg : d.gen) (h5 : d.sl ≤ 512) (h1000 : d.tl ≤ 60) (m j : Nat) (hj : j < d.sl) (hp : (decide ((d.S.getD j ByteArray.empty).size = 32)) = false) (ih : (∀ i, i < j + 1 → (decide ((d.S.getD i ByteArray.empty).size = 32)) = true) → ∀ (x0 : Nat) (aa : Act) (w : World) (S : Sy w0 [] [x0] (rrS1 d (j + 1)) [rfSt d.b d.o d.S, rfWs d.c d.p d.W] aa w), post Try.prog (.rnd (m) (bodyL rr1) :: rr1.k.tail) (bodyPost Try.prog Try.f7 fun e w' => e = .returned (.bool (dkRB d)) ∧ Below w0.heap.size w0 w') .normal aa w) (hv : ∀ i, i < j → (decide ((d.S.getD i ByteArray.empty).size = 32)) = true) (x0 : Nat) (aa : Act) (w : World) (S : Sy w0 [] [x0] (rrS1 d (j)) [rfSt d.b d.o d.S, rfWs d.c d.p d.W] aa w) : post Try.prog (.rnd (m + 1) (bodyL rr1) :: rr1.k.tail) (bodyPost Try.prog Try.f7 fun e w' => e = .returned (.bool (dkRB d)) ∧ Below w0.heap.size w0 w') .normal aa w := by
  refine sy_run (c := ⟨(.rnd (m + 1) (bodyL rr1) :: rr1.k.tail), rrS1 d j⟩) ⟨0, [4]⟩ 50 S fun bs aa w S => ?_
  refine sy_reg S fun S => ?_
  refine sy_ops 5 S fun bs aa w S => ?_
  refine sy_cast 13 S (congrArg Value.bool (decide_eq_true (by omega) : decide ((j : Int) < (d.sl : Int)) = true)) (by kernel_rfl) fun S => ?_
  refine sy_run ⟨0, [6]⟩ 60 S fun bs aa w S => ?_
  refine sy_reg S fun S => ?_
  refine sy_ops 3 S fun bs aa w S => ?_
  refine sy_ix (b := d.b) (off := d.o) (len := d.sl) (n := j) (size := 1) (i := (j : Int)) S (by rw [← hg.hs.resolve_left (by omega)]; kernel_rfl) rfl hj fun aa S => ?_
  refine sy_ldo S (ld_at (ty := 9) (b := d.b) (off := d.o + j * 1) (by kernel_rfl) (by rw [Nat.mul_one]; exact S.fact (f := rfSt d.b d.o d.S) (by simp) j (by rw [hg.hS]; omega))) (by kernel_rfl) fun aa S => ?_
  refine sy_ops 2 S fun bs aa w S => ?_
  refine sy_cast 22 S (congrArg Value.bool (by have := of_decide_eq_false hp; rw [decide_eq_false (by omega)]; rfl : (!decide (((d.S.getD j ByteArray.empty).size : Int) = 32)) = true)) (by kernel_rfl) fun S => ?_
  refine sy_run ⟨0, []⟩ 60 S fun bs aa w S => ?_
  have e : dkRB d = false := (by simp only [dkRB]; rw [all_not _ ByteArray.empty d.S j (by rw [hg.hS]; exact hj) hp]; simp)
  rw [e]
  exact sy_ret S (by kernel_rfl) (by kernel_rfl) fun hg => ⟨rfl, bel_gr hg⟩
theorem rr_a1 (w0 : World) (d : Dk) (hg : d.gen) (h5 : d.sl ≤ 512) (h1000 : d.tl ≤ 60) : ∀ (r j : Nat), j + r = d.sl → (∀ i, i < j → (decide ((d.S.getD i ByteArray.empty).size = 32)) = true) → ∀ (x0 : Nat) (aa : Act) (w : World) (S : Sy w0 [] [x0] (rrS1 d (j)) [rfSt d.b d.o d.S, rfWs d.c d.p d.W] aa w), post Try.prog (.rnd (r + 1) (bodyL rr1) :: rr1.k.tail) (bodyPost Try.prog Try.f7 fun e w' => e = .returned (.bool (dkRB d)) ∧ Below w0.heap.size w0 w') .normal aa w := by
  intro r
  induction r with
  | zero => intro j hj hv x0 aa w S; obtain rfl : j = d.sl := by omega
            exact rr_e1 w0 d hg h5 h1000 0 hv x0 aa w S
  | succ r ih =>
    intro j hj hv x0 aa w S
    have hjl : j < d.sl := by omega
    cases hp : (decide ((d.S.getD j ByteArray.empty).size = 32)) with
    | true => exact rr_s10 w0 d hg h5 h1000 (r + 1) j hjl hp (fun h => ih (j + 1) (by omega) h) hv x0 aa w S
    | false => exact rr_s11 w0 d hg h5 h1000 (r + 1) j hjl hp (fun h => ih (j + 1) (by omega) h) hv x0 aa w S
set_option maxHeartbeats 8000000 in
theorem rright_t (w0 : World) (d : Dk) (hg : d.gen) (h1000 : d.tl ≤ 60) (hA : StrAt w0 d.b d.o d.S) (hB : WasAt w0 d.c d.p d.W) : Calls Try.prog 7 #[d.v] w0 fun e w' => e = .returned (.bool (dkRB d)) ∧ Below w0.heap.size w0 w' := by
  refine sy_enterF [] [rfSt d.b d.o d.S, rfWs d.c d.p d.W] (by intro f hf; simp only [List.mem_cons, List.not_mem_nil, or_false] at hf; rcases hf with rfl | rfl; exact hA; exact hB) Try.func7 rfl rfl fun aa S => ?_
  refine sy_run ⟨0, [1]⟩ 60 S fun bs aa w S => ?_
  refine sy_reg S fun S => ?_
  refine sy_ops 4 S fun bs aa w S => ?_
  by_cases h1 : d.sl ≤ 512
  case neg =>
    refine sy_cast 8 S (congrArg Value.bool (decide_eq_true (by omega) : decide ((d.sl : Int) > 512) = true)) (by kernel_rfl) fun S => ?_
    refine sy_run ⟨0, []⟩ 60 S fun bs aa w S => ?_
    have e : dkRB d = false := by simp [dkRB, h1]
    rw [e]
    exact sy_ret S (by kernel_rfl) (by kernel_rfl) fun hg => ⟨rfl, bel_gr hg⟩
  refine sy_cast 8 S (congrArg Value.bool (decide_eq_false (by omega) : decide ((d.sl : Int) > 512) = false)) (by kernel_rfl) fun S => ?_
  refine sy_run ⟨0, []⟩ 60 S fun bs aa w S => ?_
  have S2 := S.to [0] (rrS1 d 0) (by kernel_rfl) (by kernel_rfl) (by kernel_rfl) (by kernel_rfl) (by kernel_rfl)
  refine sy_loop (d.sl + 1) (by kernel_rfl) ?_
  refine sy_at2 (k' := (.rnd (d.sl + 1) (bodyL rr1) :: rr1.k.tail)) (by kernel_rfl) ?_
  exact rr_a1 w0 d hg h1 h1000 d.sl 0 (by omega) (fun i hi => absurd hi (Nat.not_lt_zero _)) _ aa w S2
theorem right_of {d : Dk} (hg : d.gen) (h : dkRB d = true) : d.right ∧ d.sl ≤ 512 := by
  simp only [dkRB, Bool.and_eq_true, decide_eq_true_eq, List.all_eq_true] at h
  refine ⟨⟨fun j hj => h.1.2 _ (getD_mem _ _ _ (by rw [hg.hS]; exact hj)), fun j hj => ?_⟩, h.1.1⟩
  have := h.2 _ (getD_mem d.W j (0, ByteArray.empty) (by rw [hg.hW]; exact hj))
  exact ⟨⟨this.1.1, this.1.2⟩, this.2⟩
end Go.Proofs.Ytekcjffdooekaaa


/-
  Layer 22: whether two devices are the same.
-/
namespace Go.Proofs.Ytekcjffdooekaaa
open Go Go.RowKit SZ
set_option linter.unusedVariables false
set_option linter.unusedSimpArgs false
set_option maxRecDepth 100000
attribute [local irreducible] post GD Nxt NxtAll
theorem tl_eq (a b : ByteArray) : (a.toList == b.toList) = decide (a = b) := by
  by_cases h : a = b
  · subst h; simp
  · have : ¬ a.toList = b.toList := fun e => h (Go.WideShapes.bytes_inj (by rw [← ByteArray.toList_eq, ← ByteArray.toList_eq]; exact e))
    rw [decide_eq_false h]
    exact beq_eq_false_iff_ne.2 this
theorem was_struct : Try.prog.underlying 65 = some (.struct (Try.prog.fieldsOf 65)) := by kernel_rfl
theorem was_held : Try.prog.stoodInHeld 65 = false := by kernel_rfl
theorem was_neq (a b : Int × ByteArray) (w : World) : (binOp .neq 65 (.agg #[.int .i64 a.1, .string a.2]) (.agg #[.int .i64 b.1, .string b.2])).run Try.prog w = .ok (.bool (!decide (a = b))) w := by
  rw [run_neq_struct, show (10000 : Nat) = 9999 + 1 from rfl, run_equalIn_agg w 9999 65 _ _ was_struct was_held]
  have u3 := Try.underlying3
  have a3 := Try.isAgg3
  have z3 := Try.sizeOf3
  have u4 := Try.underlying9
  have a4 := Try.isAgg9
  have z4 := Try.sizeOf9
  simp only [Program.fieldsOf, Try.underlying65]
  go_simp
  obtain ⟨a1, a2⟩ := a
  obtain ⟨b1, b2⟩ := b
  have e := tl_eq a2 b2
  simp only [Prod.mk.injEq] at *
  by_cases h1 : a1 = b1 <;> by_cases h2 : a2 = b2 <;> simp_all
theorem was_guard : Try.prog.eqGuardType Try.prog.depth 65 = false := by kernel_rfl
theorem ex_neW {s : SS} {bs : List Nat} {x y : Operand} {t' ty : TypeId} {p q : Int × ByteArray} {b : Bool} (hx : s.val x = some (.v (.agg #[.int .i64 p.1, .string p.2]))) (hy : s.val y = some (.v (.agg #[.int .i64 q.1, .string q.2]))) (hb : (!decide (p = q)) = b) :
    ∀ (o : Oper) (ρ : Operand → Value) (W : World), o.op = .binOp .neq 65 x y t' → o.type = ty → (∀ x y, s.val x = some y → ρ x = den bs y) → (execOp ρ o).run Try.prog W = .ok (.value (.bool b)) W := by
  intro o ρ W h1 h2 h3
  have e1 : ρ x = (.agg #[.int .i64 p.1, .string p.2]) := h3 x _ hx
  have e2 : ρ y = (.agg #[.int .i64 q.1, .string q.2]) := h3 y _ hy
  subst hb
  have hg : ∀ W, (eqGuard .neq 65 x y (.agg #[.int .i64 p.1, .string p.2]) (.agg #[.int .i64 q.1, .string q.2])).run Try.prog W = .ok () W := fun W => run_eqGuard_agg W .neq 65 x y _ _ was_guard
  have hr : ∀ W, (binOp .neq 65 (.agg #[.int .i64 p.1, .string p.2]) (.agg #[.int .i64 q.1, .string q.2])).run Try.prog W = .ok (.bool (!decide (p = q))) W := fun W => was_neq p q W
  unfold execOp
  simp only [h1, e1, e2, hg, hr, Sem.run_bind, Sem.run_pure, Result.andThen_ok]
theorem eq_upto {α : Type} (z : α) (l m : List α) (hl : l.length = m.length) (h : ∀ i, i < l.length → l.getD i z = m.getD i z) : l = m := by
  apply List.ext_getElem hl
  intro i h1 h2
  have := h i h1
  simpa [List.getD, List.getElem?_eq_getElem h1, List.getElem?_eq_getElem h2] using this
def sameB (a b : Dk) : Bool := decide (a.S = b.S) && decide (a.W = b.W)
noncomputable def weS (a b : Dk) (j : Nat) : SS := ⟨26, [(0, .v (.slice a.ta a.tl a.tc)), (1, .v (.slice b.ta b.tl b.tc)), (12, .v (.int .i64 (a.tl : Int))), (13, .v (.int .i64 (j : Int)))], []⟩
set_option maxHeartbeats 8000000 in
theorem s2_e (w0 : World) (a b : Dk) (ha : a.gen) (hb : b.gen) (h6 : a.sl ≤ 600 ∧ a.tl ≤ 100) (hS : a.S = b.S) (hl : a.tl = b.tl) (m : Nat) (hv : ∀ i, i < a.tl → (a.W.getD i (0, ByteArray.empty)) = (b.W.getD i (0, ByteArray.empty))) (x0 x1 : Nat) (aa : Act) (w : World) (S : Sy w0 [] [x0, x1] (sm2S a b (a.tl)) [rfSt a.b a.o a.S, rfWs a.c a.p a.W, rfSt b.b b.o b.S, rfWs b.c b.p b.W] aa w) : post Try.prog (.rnd (m + 1) (bodyL sm2) :: sm2.k.tail) (bodyPost Try.prog Try.f11 fun e w' => e = .returned (.bool (sameB a b)) ∧ Below w0.heap.size w0 w') .normal aa w := by
  refine sy_run (c := ⟨(.rnd (m + 1) (bodyL sm2) :: sm2.k.tail), sm2S a b (a.tl)⟩) ⟨0, [9]⟩ 50 S fun bs aa w S => ?_
  refine sy_reg S fun S => ?_
  refine sy_ops 5 S fun bs aa w S => ?_
  refine sy_cast 45 S (congrArg Value.bool (decide_eq_false (by omega) : decide ((a.tl : Int) < (a.tl : Int)) = false)) (by kernel_rfl) fun S => ?_
  refine sy_run ⟨0, []⟩ 60 S fun bs aa w S => ?_
  have e : sameB a b = true := by simp only [sameB]; rw [decide_eq_true hS, decide_eq_true (eq_upto (0, ByteArray.empty) a.W b.W (by rw [ha.hW, hb.hW]; exact hl) (fun i hi => hv i (by rw [← ha.hW]; exact hi)))]; rfl
  rw [e]
  exact sy_ret S (by kernel_rfl) (by kernel_rfl) fun hg => ⟨rfl, bel_gr hg⟩
set_option maxHeartbeats 8000000 in
theorem s2_s (w0 : World) (a b : Dk) (ha : a.gen) (hb : b.gen) (h6 : a.sl ≤ 600 ∧ a.tl ≤ 100) (hS : a.S = b.S) (hl : a.tl = b.tl) (m j : Nat) (hj : j < a.tl) (hp : (a.W.getD j (0, ByteArray.empty)) = (b.W.getD j (0, ByteArray.empty))) (ih : (∀ i, i < j + 1 → (a.W.getD i (0, ByteArray.empty)) = (b.W.getD i (0, ByteArray.empty))) → ∀ (x0 x1 : Nat) (aa : Act) (w : World) (S : Sy w0 [] [x0, x1] (sm2S a b (j + 1)) [rfSt a.b a.o a.S, rfWs a.c a.p a.W, rfSt b.b b.o b.S, rfWs b.c b.p b.W] aa w), post Try.prog (.rnd (m) (bodyL sm2) :: sm2.k.tail) (bodyPost Try.prog Try.f11 fun e w' => e = .returned (.bool (sameB a b)) ∧ Below w0.heap.size w0 w') .normal aa w) (hv : ∀ i, i < j → (a.W.getD i (0, ByteArray.empty)) = (b.W.getD i (0, ByteArray.empty))) (x0 x1 : Nat) (aa : Act) (w : World) (S : Sy w0 [] [x0, x1] (sm2S a b (j)) [rfSt a.b a.o a.S, rfWs a.c a.p a.W, rfSt b.b b.o b.S, rfWs b.c b.p b.W] aa w) : post Try.prog (.rnd (m + 1) (bodyL sm2) :: sm2.k.tail) (bodyPost Try.prog Try.f11 fun e w' => e = .returned (.bool (sameB a b)) ∧ Below w0.heap.size w0 w') .normal aa w := by
  refine sy_run (c := ⟨(.rnd (m + 1) (bodyL sm2) :: sm2.k.tail), sm2S a b (j)⟩) ⟨0, [9]⟩ 50 S fun bs aa w S => ?_
  refine sy_reg S fun S => ?_
  refine sy_ops 5 S fun bs aa w S => ?_
  refine sy_cast 45 S (congrArg Value.bool (decide_eq_true (by omega) : decide ((j : Int) < (a.tl : Int)) = true)) (by kernel_rfl) fun S => ?_
  refine sy_run ⟨0, []⟩ 60 S fun bs aa w S => ?_
  letI : KP := ⟨[58]⟩
  letI : HF := ⟨[rfSt a.b a.o a.S, rfWs a.c a.p a.W, rfSt b.b b.o b.S, rfWs b.c b.p b.W]⟩
  refine dr_enter [0, 1] (by kernel_rfl) (by kernel_rfl) S (by kernel_rfl) (fun aa w D => ?_) (fun f hf => hf)
  refine dr_tix 3 D (by kernel_rfl) (by kernel_rfl) (by kernel_rfl) (b := a.c) (off := a.p) (len := a.tl) (n := j) (size := 2) (ix := (j : Int)) (by rw [← ha.hw.resolve_left (by omega)]; kernel_rfl) rfl (by omega) fun aa D => ?_
  refine dr_tld 4 D (by kernel_rfl) (by kernel_rfl) (by kernel_rfl) (ty := 65) (ad := ⟨a.c, a.p + j * 2, none⟩) (v := (.agg #[.int .i64 (a.W.getD j (0, ByteArray.empty)).1, .string (a.W.getD j (0, ByteArray.empty)).2])) (fun W hW => ld_was (j := j) (show WasAt W a.c a.p a.W from hW (rfWs a.c a.p a.W) (by show _ ∈ [rfSt a.b a.o a.S, rfWs a.c a.p a.W, rfSt b.b b.o b.S, rfWs b.c b.p b.W]; simp)) (by rw [ha.hW]; omega)) (by kernel_rfl) fun aa D => ?_
  refine dr_tix 8 D (by kernel_rfl) (by kernel_rfl) (by kernel_rfl) (b := b.c) (off := b.p) (len := b.tl) (n := j) (size := 2) (ix := (j : Int)) (by rw [← hb.hw.resolve_left (by omega)]; kernel_rfl) rfl (by omega) fun aa D => ?_
  refine dr_tld 9 D (by kernel_rfl) (by kernel_rfl) (by kernel_rfl) (ty := 65) (ad := ⟨b.c, b.p + j * 2, none⟩) (v := (.agg #[.int .i64 (b.W.getD j (0, ByteArray.empty)).1, .string (b.W.getD j (0, ByteArray.empty)).2])) (fun W hW => ld_was (j := j) (show WasAt W b.c b.p b.W from hW (rfWs b.c b.p b.W) (by show _ ∈ [rfSt a.b a.o a.S, rfWs a.c a.p a.W, rfSt b.b b.o b.S, rfWs b.c b.p b.W]; simp)) (by rw [hb.hW]; omega)) (by kernel_rfl) fun aa D => ?_
  refine dr_ex2 (fun d v c a w h => by cases d <;> exact h) 10 (op := .binOp .neq 65 (.tmp 52) (.tmp 57) 65) (ty := 4) (v := .bool false) D (by kernel_rfl) (by kernel_rfl) (by kernel_rfl) (by kernel_rfl) (ex_neW (p := (a.W.getD j (0, ByteArray.empty))) (q := (b.W.getD j (0, ByteArray.empty))) (by kernel_rfl) (by kernel_rfl) (by rw [decide_eq_true hp]; rfl)) fun aa D => ?_
  refine dr_end D (by kernel_rfl) fun S => ?_
  refine sy_run ⟨0, [10]⟩ 60 S fun bs aa w S => ?_
  refine sy_reg S fun S => ?_
  refine sy_ops 2 S fun bs aa w S => ?_
  refine sy_cast 47 S (congrArg (Value.int .i64) (by rw [IntKind.wrap_i64]; omega : IntKind.i64.wrap ((j : Int) + 1) = ((j + 1 : Nat) : Int))) (by kernel_rfl) fun S => ?_
  refine sy_run ⟨0, [999]⟩ 50 S fun bs aa w S => ?_
  have S2 := S.to [0, 1] (sm2S a b (j + 1)) (by kernel_rfl) (by kernel_rfl) (by kernel_rfl) (by kernel_rfl) (by kernel_rfl)
  refine sy_at2 (k' := (.rnd (m) (bodyL sm2) :: sm2.k.tail)) (by kernel_rfl) ?_
  exact ih (upto_succ hv hp) _ _ aa w S2
set_option maxHeartbeats 8000000 in
theorem s2_b (w0 : World) (a b : Dk) (ha : a.gen) (hb : b.gen) (h6 : a.sl ≤ 600 ∧ a.tl ≤ 100) (hS : a.S = b.S) (hl : a.tl = b.tl) (m j : Nat) (hj : j < a.tl) (hp : ¬(a.W.getD j (0, ByteArray.empty)) = (b.W.getD j (0, ByteArray.empty))) (x0 x1 : Nat) (aa : Act) (w : World) (S : Sy w0 [] [x0, x1] (sm2S a b (j)) [rfSt a.b a.o a.S, rfWs a.c a.p a.W, rfSt b.b b.o b.S, rfWs b.c b.p b.W] aa w) : post Try.prog (.rnd (m + 1) (bodyL sm2) :: sm2.k.tail) (bodyPost Try.prog Try.f11 fun e w' => e = .returned (.bool (sameB a b)) ∧ Below w0.heap.size w0 w') .normal aa w := by
  refine sy_run (c := ⟨(.rnd (m + 1) (bodyL sm2) :: sm2.k.tail), sm2S a b (j)⟩) ⟨0, [9]⟩ 50 S fun bs aa w S => ?_
  refine sy_reg S fun S => ?_
  refine sy_ops 5 S fun bs aa w S => ?_
  refine sy_cast 45 S (congrArg Value.bool (decide_eq_true (by omega) : decide ((j : Int) < (a.tl : Int)) = true)) (by kernel_rfl) fun S => ?_
  refine sy_run ⟨0, []⟩ 60 S fun bs aa w S => ?_
  letI : KP := ⟨[58]⟩
  letI : HF := ⟨[rfSt a.b a.o a.S, rfWs a.c a.p a.W, rfSt b.b b.o b.S, rfWs b.c b.p b.W]⟩
  refine dr_enter [0, 1] (by kernel_rfl) (by kernel_rfl) S (by kernel_rfl) (fun aa w D => ?_) (fun f hf => hf)
  refine dr_tix 3 D (by kernel_rfl) (by kernel_rfl) (by kernel_rfl) (b := a.c) (off := a.p) (len := a.tl) (n := j) (size := 2) (ix := (j : Int)) (by rw [← ha.hw.resolve_left (by omega)]; kernel_rfl) rfl (by omega) fun aa D => ?_
  refine dr_tld 4 D (by kernel_rfl) (by kernel_rfl) (by kernel_rfl) (ty := 65) (ad := ⟨a.c, a.p + j * 2, none⟩) (v := (.agg #[.int .i64 (a.W.getD j (0, ByteArray.empty)).1, .string (a.W.getD j (0, ByteArray.empty)).2])) (fun W hW => ld_was (j := j) (show WasAt W a.c a.p a.W from hW (rfWs a.c a.p a.W) (by show _ ∈ [rfSt a.b a.o a.S, rfWs a.c a.p a.W, rfSt b.b b.o b.S, rfWs b.c b.p b.W]; simp)) (by rw [ha.hW]; omega)) (by kernel_rfl) fun aa D => ?_
  refine dr_tix 8 D (by kernel_rfl) (by kernel_rfl) (by kernel_rfl) (b := b.c) (off := b.p) (len := b.tl) (n := j) (size := 2) (ix := (j : Int)) (by rw [← hb.hw.resolve_left (by omega)]; kernel_rfl) rfl (by omega) fun aa D => ?_
  refine dr_tld 9 D (by kernel_rfl) (by kernel_rfl) (by kernel_rfl) (ty := 65) (ad := ⟨b.c, b.p + j * 2, none⟩) (v := (.agg #[.int .i64 (b.W.getD j (0, ByteArray.empty)).1, .string (b.W.getD j (0, ByteArray.empty)).2])) (fun W hW => ld_was (j := j) (show WasAt W b.c b.p b.W from hW (rfWs b.c b.p b.W) (by show _ ∈ [rfSt a.b a.o a.S, rfWs a.c a.p a.W, rfSt b.b b.o b.S, rfWs b.c b.p b.W]; simp)) (by rw [hb.hW]; omega)) (by kernel_rfl) fun aa D => ?_
  refine dr_ex2 (fun d v c a w h => by cases d <;> exact h) 10 (op := .binOp .neq 65 (.tmp 52) (.tmp 57) 65) (ty := 4) (v := .bool true) D (by kernel_rfl) (by kernel_rfl) (by kernel_rfl) (by kernel_rfl) (ex_neW (p := (a.W.getD j (0, ByteArray.empty))) (q := (b.W.getD j (0, ByteArray.empty))) (by kernel_rfl) (by kernel_rfl) (by rw [decide_eq_false hp]; rfl)) fun aa D => ?_
  refine dr_end D (by kernel_rfl) fun S => ?_
  refine sy_run ⟨0, []⟩ 60 S fun bs aa w S => ?_
  have e : sameB a b = false := by simp only [sameB]; rw [decide_eq_false (fun q : a.W = b.W => hp (by rw [q])), Bool.and_false]
  rw [e]
  exact sy_ret S (by kernel_rfl) (by kernel_rfl) fun hg => ⟨rfl, bel_gr hg⟩
theorem s2_a (w0 : World) (a b : Dk) (ha : a.gen) (hb : b.gen) (h6 : a.sl ≤ 600 ∧ a.tl ≤ 100) (hS : a.S = b.S) (hl : a.tl = b.tl) : ∀ (r j : Nat), j + r = a.tl → (∀ i, i < j → (a.W.getD i (0, ByteArray.empty)) = (b.W.getD i (0, ByteArray.empty))) → ∀ (x0 x1 : Nat) (aa : Act) (w : World) (S : Sy w0 [] [x0, x1] (sm2S a b (j)) [rfSt a.b a.o a.S, rfWs a.c a.p a.W, rfSt b.b b.o b.S, rfWs b.c b.p b.W] aa w), post Try.prog (.rnd (r + 1) (bodyL sm2) :: sm2.k.tail) (bodyPost Try.prog Try.f11 fun e w' => e = .returned (.bool (sameB a b)) ∧ Below w0.heap.size w0 w') .normal aa w := by
  intro r
  induction r with
  | zero => intro j hj hv x0 x1 aa w S; obtain rfl : j = a.tl := by omega
            exact s2_e w0 a b ha hb h6 hS hl 0 hv x0 x1 aa w S
  | succ r ih =>
    intro j hj hv x0 x1 aa w S
    by_cases hp : (a.W.getD j (0, ByteArray.empty)) = (b.W.getD j (0, ByteArray.empty))
    · exact s2_s w0 a b ha hb h6 hS hl (r + 1) j (by omega) hp (fun h => ih (j + 1) (by omega) h) hv x0 x1 aa w S
    · exact s2_b w0 a b ha hb h6 hS hl (r + 1) j (by omega) hp x0 x1 aa w S
set_option maxHeartbeats 8000000 in
theorem s1_e (w0 : World) (a b : Dk) (ha : a.gen) (hb : b.gen) (h6 : a.sl ≤ 600 ∧ a.tl ≤ 100) (hlw : a.tl = b.tl) (hl : a.sl = b.sl) (m : Nat) (hv : ∀ i, i < a.sl → (a.S.getD i ByteArray.empty) = (b.S.getD i ByteArray.empty)) (x0 x1 : Nat) (aa : Act) (w : World) (S : Sy w0 [] [x0, x1] (sm1S a b (a.sl)) [rfSt a.b a.o a.S, rfWs a.c a.p a.W, rfSt b.b b.o b.S, rfWs b.c b.p b.W] aa w) : post Try.prog (.rnd (m + 1) (bodyL sm1) :: sm1.k.tail) (bodyPost Try.prog Try.f11 fun e w' => e = .returned (.bool (sameB a b)) ∧ Below w0.heap.size w0 w') .normal aa w := by
  refine sy_run (c := ⟨(.rnd (m + 1) (bodyL sm1) :: sm1.k.tail), sm1S a b (a.sl)⟩) ⟨0, [4]⟩ 50 S fun bs aa w S => ?_
  refine sy_reg S fun S => ?_
  refine sy_ops 5 S fun bs aa w S => ?_
  refine sy_cast 27 S (congrArg Value.bool (decide_eq_false (by omega) : decide ((a.sl : Int) < (a.sl : Int)) = false)) (by kernel_rfl) fun S => ?_
  refine sy_run ⟨0, []⟩ 60 S fun bs aa w S => ?_
  have S2 := S.to [0, 1] (sm2S a b 0) (by kernel_rfl) (by kernel_rfl) (by kernel_rfl) (by kernel_rfl) (by kernel_rfl)
  refine sy_loop (a.tl + 1) (by kernel_rfl) ?_
  refine sy_at2 (k' := (.rnd (a.tl + 1) (bodyL sm2) :: sm2.k.tail)) (by kernel_rfl) ?_
  exact s2_a w0 a b ha hb h6 (eq_upto ByteArray.empty a.S b.S (by rw [ha.hS, hb.hS]; exact hl) (fun i hi => hv i (by rw [← ha.hS]; exact hi))) hlw a.tl 0 (by omega) (fun i hi => absurd hi (Nat.not_lt_zero _)) _ _ aa w S2
set_option maxHeartbeats 8000000 in
theorem s1_s (w0 : World) (a b : Dk) (ha : a.gen) (hb : b.gen) (h6 : a.sl ≤ 600 ∧ a.tl ≤ 100) (hlw : a.tl = b.tl) (hl : a.sl = b.sl) (m j : Nat) (hj : j < a.sl) (hp : (a.S.getD j ByteArray.empty) = (b.S.getD j ByteArray.empty)) (ih : (∀ i, i < j + 1 → (a.S.getD i ByteArray.empty) = (b.S.getD i ByteArray.empty)) → ∀ (x0 x1 : Nat) (aa : Act) (w : World) (S : Sy w0 [] [x0, x1] (sm1S a b (j + 1)) [rfSt a.b a.o a.S, rfWs a.c a.p a.W, rfSt b.b b.o b.S, rfWs b.c b.p b.W] aa w), post Try.prog (.rnd (m) (bodyL sm1) :: sm1.k.tail) (bodyPost Try.prog Try.f11 fun e w' => e = .returned (.bool (sameB a b)) ∧ Below w0.heap.size w0 w') .normal aa w) (hv : ∀ i, i < j → (a.S.getD i ByteArray.empty) = (b.S.getD i ByteArray.empty)) (x0 x1 : Nat) (aa : Act) (w : World) (S : Sy w0 [] [x0, x1] (sm1S a b (j)) [rfSt a.b a.o a.S, rfWs a.c a.p a.W, rfSt b.b b.o b.S, rfWs b.c b.p b.W] aa w) : post Try.prog (.rnd (m + 1) (bodyL sm1) :: sm1.k.tail) (bodyPost Try.prog Try.f11 fun e w' => e = .returned (.bool (sameB a b)) ∧ Below w0.heap.size w0 w') .normal aa w := by
  refine sy_run (c := ⟨(.rnd (m + 1) (bodyL sm1) :: sm1.k.tail), sm1S a b (j)⟩) ⟨0, [4]⟩ 50 S fun bs aa w S => ?_
  refine sy_reg S fun S => ?_
  refine sy_ops 5 S fun bs aa w S => ?_
  refine sy_cast 27 S (congrArg Value.bool (decide_eq_true (by omega) : decide ((j : Int) < (a.sl : Int)) = true)) (by kernel_rfl) fun S => ?_
  refine sy_run ⟨0, []⟩ 60 S fun bs aa w S => ?_
  letI : KP := ⟨[40]⟩
  letI : HF := ⟨[rfSt a.b a.o a.S, rfWs a.c a.p a.W, rfSt b.b b.o b.S, rfWs b.c b.p b.W]⟩
  refine dr_enter [0, 1] (by kernel_rfl) (by kernel_rfl) S (by kernel_rfl) (fun aa w D => ?_) (fun f hf => hf)
  refine dr_tix 3 D (by kernel_rfl) (by kernel_rfl) (by kernel_rfl) (b := a.b) (off := a.o) (len := a.sl) (n := j) (size := 1) (ix := (j : Int)) (by rw [← ha.hs.resolve_left (by omega)]; kernel_rfl) rfl (by omega) fun aa D => ?_
  refine dr_tld 4 D (by kernel_rfl) (by kernel_rfl) (by kernel_rfl) (ty := 9) (ad := ⟨a.b, a.o + j * 1, none⟩) (v := .string (a.S.getD j ByteArray.empty)) (fun W hW => ld_at (by kernel_rfl) (by rw [Nat.mul_one]; exact (show StrAt W a.b a.o a.S from hW (rfSt a.b a.o a.S) (by show _ ∈ [rfSt a.b a.o a.S, rfWs a.c a.p a.W, rfSt b.b b.o b.S, rfWs b.c b.p b.W]; simp)) j (by rw [ha.hS]; omega))) (by kernel_rfl) fun aa D => ?_
  refine dr_tix 8 D (by kernel_rfl) (by kernel_rfl) (by kernel_rfl) (b := b.b) (off := b.o) (len := b.sl) (n := j) (size := 1) (ix := (j : Int)) (by rw [← hb.hs.resolve_left (by omega)]; kernel_rfl) rfl (by omega) fun aa D => ?_
  refine dr_tld 9 D (by kernel_rfl) (by kernel_rfl) (by kernel_rfl) (ty := 9) (ad := ⟨b.b, b.o + j * 1, none⟩) (v := .string (b.S.getD j ByteArray.empty)) (fun W hW => ld_at (by kernel_rfl) (by rw [Nat.mul_one]; exact (show StrAt W b.b b.o b.S from hW (rfSt b.b b.o b.S) (by show _ ∈ [rfSt a.b a.o a.S, rfWs a.c a.p a.W, rfSt b.b b.o b.S, rfWs b.c b.p b.W]; simp)) j (by rw [hb.hS]; omega))) (by kernel_rfl) fun aa D => ?_
  refine dr_ex2 (fun d v c a w h => by cases d <;> exact h) 10 (op := .binOp .neq 9 (.tmp 34) (.tmp 39) 9) (ty := 4) (v := .bool false) D (by kernel_rfl) (by kernel_rfl) (by kernel_rfl) (by kernel_rfl) (ex_neS (p := (a.S.getD j ByteArray.empty)) (q := (b.S.getD j ByteArray.empty)) (by kernel_rfl) (by kernel_rfl) (by rw [tl_eq, decide_eq_true hp]; rfl)) fun aa D => ?_
  refine dr_end D (by kernel_rfl) fun S => ?_
  refine sy_run ⟨0, [5]⟩ 60 S fun bs aa w S => ?_
  refine sy_reg S fun S => ?_
  refine sy_ops 2 S fun bs aa w S => ?_
  refine sy_cast 29 S (congrArg (Value.int .i64) (by rw [IntKind.wrap_i64]; omega : IntKind.i64.wrap ((j : Int) + 1) = ((j + 1 : Nat) : Int))) (by kernel_rfl) fun S => ?_
  refine sy_run ⟨0, [999]⟩ 50 S fun bs aa w S => ?_
  have S2 := S.to [0, 1] (sm1S a b (j + 1)) (by kernel_rfl) (by kernel_rfl) (by kernel_rfl) (by kernel_rfl) (by kernel_rfl)
  refine sy_at2 (k' := (.rnd (m) (bodyL sm1) :: sm1.k.tail)) (by kernel_rfl) ?_
  exact ih (upto_succ hv hp) _ _ aa w S2
set_option maxHeartbeats 8000000 in
theorem s1_b (w0 : World) (a b : Dk) (ha : a.gen) (hb : b.gen) (h6 : a.sl ≤ 600 ∧ a.tl ≤ 100) (hlw : a.tl = b.tl) (hl : a.sl = b.sl) (m j : Nat) (hj : j < a.sl) (hp : ¬(a.S.getD j ByteArray.empty) = (b.S.getD j ByteArray.empty)) (x0 x1 : Nat) (aa : Act) (w : World) (S : Sy w0 [] [x0, x1] (sm1S a b (j)) [rfSt a.b a.o a.S, rfWs a.c a.p a.W, rfSt b.b b.o b.S, rfWs b.c b.p b.W] aa w) : post Try.prog (.rnd (m + 1) (bodyL sm1) :: sm1.k.tail) (bodyPost Try.prog Try.f11 fun e w' => e = .returned (.bool (sameB a b)) ∧ Below w0.heap.size w0 w') .normal aa w := by
  refine sy_run (c := ⟨(.rnd (m + 1) (bodyL sm1) :: sm1.k.tail), sm1S a b (j)⟩) ⟨0, [4]⟩ 50 S fun bs aa w S => ?_
  refine sy_reg S fun S => ?_
  refine sy_ops 5 S fun bs aa w S => ?_
  refine sy_cast 27 S (congrArg Value.bool (decide_eq_true (by omega) : decide ((j : Int) < (a.sl : Int)) = true)) (by kernel_rfl) fun S => ?_
  refine sy_run ⟨0, []⟩ 60 S fun bs aa w S => ?_
  letI : KP := ⟨[40]⟩
  letI : HF := ⟨[rfSt a.b a.o a.S, rfWs a.c a.p a.W, rfSt b.b b.o b.S, rfWs b.c b.p b.W]⟩
  refine dr_enter [0, 1] (by kernel_rfl) (by kernel_rfl) S (by kernel_rfl) (fun aa w D => ?_) (fun f hf => hf)
  refine dr_tix 3 D (by kernel_rfl) (by kernel_rfl) (by kernel_rfl) (b := a.b) (off := a.o) (len := a.sl) (n := j) (size := 1) (ix := (j : Int)) (by rw [← ha.hs.resolve_left (by omega)]; kernel_rfl) rfl (by omega) fun aa D => ?_
  refine dr_tld 4 D (by kernel_rfl) (by kernel_rfl) (by kernel_rfl) (ty := 9) (ad := ⟨a.b, a.o + j * 1, none⟩) (v := .string (a.S.getD j ByteArray.empty)) (fun W hW => ld_at (by kernel_rfl) (by rw [Nat.mul_one]; exact (show StrAt W a.b a.o a.S from hW (rfSt a.b a.o a.S) (by show _ ∈ [rfSt a.b a.o a.S, rfWs a.c a.p a.W, rfSt b.b b.o b.S, rfWs b.c b.p b.W]; simp)) j (by rw [ha.hS]; omega))) (by kernel_rfl) fun aa D => ?_
  refine dr_tix 8 D (by kernel_rfl) (by kernel_rfl) (by kernel_rfl) (b := b.b) (off := b.o) (len := b.sl) (n := j) (size := 1) (ix := (j : Int)) (by rw [← hb.hs.resolve_left (by omega)]; kernel_rfl) rfl (by omega) fun aa D => ?_
  refine dr_tld 9 D (by kernel_rfl) (by kernel_rfl) (by kernel_rfl) (ty := 9) (ad := ⟨b.b, b.o + j * 1, none⟩) (v := .string (b.S.getD j ByteArray.empty)) (fun W hW => ld_at (by kernel_rfl) (by rw [Nat.mul_one]; exact (show StrAt W b.b b.o b.S from hW (rfSt b.b b.o b.S) (by show _ ∈ [rfSt a.b a.o a.S, rfWs a.c a.p a.W, rfSt b.b b.o b.S, rfWs b.c b.p b.W]; simp)) j (by rw [hb.hS]; omega))) (by kernel_rfl) fun aa D => ?_
  refine dr_ex2 (fun d v c a w h => by cases d <;> exact h) 10 (op := .binOp .neq 9 (.tmp 34) (.tmp 39) 9) (ty := 4) (v := .bool true) D (by kernel_rfl) (by kernel_rfl) (by kernel_rfl) (by kernel_rfl) (ex_neS (p := (a.S.getD j ByteArray.empty)) (q := (b.S.getD j ByteArray.empty)) (by kernel_rfl) (by kernel_rfl) (by rw [tl_eq, decide_eq_false hp]; rfl)) fun aa D => ?_
  refine dr_end D (by kernel_rfl) fun S => ?_
  refine sy_run ⟨0, []⟩ 60 S fun bs aa w S => ?_
  have e : sameB a b = false := by simp only [sameB]; rw [decide_eq_false (fun q : a.S = b.S => hp (by rw [q])), Bool.false_and]
  rw [e]
  exact sy_ret S (by kernel_rfl) (by kernel_rfl) fun hg => ⟨rfl, bel_gr hg⟩
theorem s1_a (w0 : World) (a b : Dk) (ha : a.gen) (hb : b.gen) (h6 : a.sl ≤ 600 ∧ a.tl ≤ 100) (hlw : a.tl = b.tl) (hl : a.sl = b.sl) : ∀ (r j : Nat), j + r = a.sl → (∀ i, i < j → (a.S.getD i ByteArray.empty) = (b.S.getD i ByteArray.empty)) → ∀ (x0 x1 : Nat) (aa : Act) (w : World) (S : Sy w0 [] [x0, x1] (sm1S a b (j)) [rfSt a.b a.o a.S, rfWs a.c a.p a.W, rfSt b.b b.o b.S, rfWs b.c b.p b.W] aa w), post Try.prog (.rnd (r + 1) (bodyL sm1) :: sm1.k.tail) (bodyPost Try.prog Try.f11 fun e w' => e = .returned (.bool (sameB a b)) ∧ Below w0.heap.size w0 w') .normal aa w := by
  intro r
  induction r with
  | zero => intro j hj hv x0 x1 aa w S; obtain rfl : j = a.sl := by omega
            exact s1_e w0 a b ha hb h6 hlw hl 0 hv x0 x1 aa w S
  | succ r ih =>
    intro j hj hv x0 x1 aa w S
    by_cases hp : (a.S.getD j ByteArray.empty) = (b.S.getD j ByteArray.empty)
    · exact s1_s w0 a b ha hb h6 hlw hl (r + 1) j (by omega) hp (fun h => ih (j + 1) (by omega) h) hv x0 x1 aa w S
    · exact s1_b w0 a b ha hb h6 hlw hl (r + 1) j (by omega) hp x0 x1 aa w S
set_option maxHeartbeats 8000000 in
theorem rsame_t (w0 : World) (a b : Dk) (ha : a.gen) (hb : b.gen) (h6 : a.sl ≤ 600 ∧ a.tl ≤ 100) (hA : StrAt w0 a.b a.o a.S) (hB : WasAt w0 a.c a.p a.W) (hC : StrAt w0 b.b b.o b.S) (hD : WasAt w0 b.c b.p b.W) : Calls Try.prog 11 #[a.v, b.v] w0 fun e w' => e = .returned (.bool (sameB a b)) ∧ Below w0.heap.size w0 w' := by
  refine sy_enterF [] [rfSt a.b a.o a.S, rfWs a.c a.p a.W, rfSt b.b b.o b.S, rfWs b.c b.p b.W] (by intro f hf; simp only [List.mem_cons, List.not_mem_nil, or_false] at hf; rcases hf with rfl | rfl | rfl | rfl; exact hA; exact hB; exact hC; exact hD) Try.func11 rfl rfl fun aa S => ?_
  refine sy_run ⟨0, [1]⟩ 60 S fun bs aa w S => ?_
  refine sy_reg S fun S => ?_
  refine sy_ops 7 S fun bs aa w S => ?_
  by_cases hl : a.sl = b.sl
  case neg =>
    refine sy_cast 13 S (congrArg Value.bool (by rw [decide_eq_false (by omega)]; rfl : (!decide ((a.sl : Int) = (b.sl : Int))) = true)) (by kernel_rfl) fun S => ?_
    refine sy_run ⟨0, []⟩ 60 S fun bs aa w S => ?_
    have e : sameB a b = false := by simp only [sameB]; rw [decide_eq_false (fun q : a.S = b.S => hl (by rw [← ha.hS, ← hb.hS, q])), Bool.false_and]
    rw [e]
    exact sy_ret S (by kernel_rfl) (by kernel_rfl) fun hg => ⟨rfl, bel_gr hg⟩
  refine sy_cast 13 S (congrArg Value.bool (by rw [decide_eq_true (by omega)]; rfl : (!decide ((a.sl : Int) = (b.sl : Int))) = false)) (by kernel_rfl) fun S => ?_
  refine sy_ops 8 S fun bs aa w S => ?_
  by_cases hlw : a.tl = b.tl
  case neg =>
    refine sy_cast 21 S (congrArg Value.bool (by rw [decide_eq_false (by omega)]; rfl : (!decide ((a.tl : Int) = (b.tl : Int))) = true)) (by kernel_rfl) fun S => ?_
    refine sy_run ⟨0, []⟩ 60 S fun bs aa w S => ?_
    have e : sameB a b = false := by simp only [sameB]; rw [decide_eq_false (fun q : a.W = b.W => hlw (by rw [← ha.hW, ← hb.hW, q])), Bool.and_false]
    rw [e]
    exact sy_ret S (by kernel_rfl) (by kernel_rfl) fun hg => ⟨rfl, bel_gr hg⟩
  refine sy_cast 21 S (congrArg Value.bool (by rw [decide_eq_true (by omega)]; rfl : (!decide ((a.tl : Int) = (b.tl : Int))) = false)) (by kernel_rfl) fun S => ?_
  refine sy_run ⟨0, []⟩ 60 S fun bs aa w S => ?_
  have S2 := S.to [0, 1] (sm1S a b 0) (by kernel_rfl) (by kernel_rfl) (by kernel_rfl) (by kernel_rfl) (by kernel_rfl)
  refine sy_loop (a.sl + 1) (by kernel_rfl) ?_
  refine sy_at2 (k' := (.rnd (a.sl + 1) (bodyL sm1) :: sm1.k.tail)) (by kernel_rfl) ?_
  exact s1_a w0 a b ha hb h6 hlw hl a.sl 0 (by omega) (fun i hi => absurd hi (Nat.not_lt_zero _)) _ _ aa w S2
set_option maxHeartbeats 8000000 in
theorem eqs_t (w0 : World) (a b : Dk) (ha : a.gen) (hb : b.gen) (h6 : a.sl ≤ 600 ∧ a.tl ≤ 100) (h6b : b.sl ≤ 600) (hA : StrAt w0 a.b a.o a.S) (hC : StrAt w0 b.b b.o b.S) : Calls Try.prog 64 #[.slice a.sa a.sl a.sc, .slice b.sa b.sl b.sc] w0 fun e w' => e = .returned (.bool (decide (a.S = b.S))) ∧ Below w0.heap.size w0 w' := by
  by_cases hl : a.sl = b.sl
  · by_cases h0 : a.sl = 0
    · have e : decide (a.S = b.S) = true := decide_eq_true (by rw [List.eq_nil_of_length_eq_zero (ha.hS.trans h0), List.eq_nil_of_length_eq_zero (hb.hS.trans (hl ▸ h0))])
      rw [e, h0, ← hl, h0]
      exact (Try.slices_Equal_string_empty a.sa b.sa a.sc 0 b.sc w0 (by omega)).mono fun e w' h => ⟨h.1, by rw [h.2]; exact Below.refl _ _⟩
    · have h := Try.slices_Equal_string a.b a.o a.sl a.sc b.b b.o b.sl b.sc a.S b.S w0 (by rw [ha.hS]; exact Nat.le_refl _) (by rw [hb.hS]; exact Nat.le_refl _) (by omega) (by omega) hA hC
      rw [← ha.hs.resolve_left h0, ← hb.hs.resolve_left (by omega)] at h
      rw [show a.S.take a.sl = a.S by rw [← ha.hS]; exact List.take_length, show b.S.take b.sl = b.S by rw [← hb.hS]; exact List.take_length] at h
      exact h.mono fun e w' h => ⟨h.1, by obtain ⟨q, hq⟩ := h.2; rw [hq]; exact ⟨rfl, rfl, rfl, Nat.le_refl _, fun k hk => rfl⟩⟩
  · rw [decide_eq_false (fun q : a.S = b.S => hl (by rw [← ha.hS, ← hb.hS, q]))]
    exact (Try.slices_Equal_string_lens a.sa b.sa a.sl a.sc b.sl b.sc w0 hl).mono fun e w' h => ⟨h.1, by rw [h.2]; exact Below.refl _ _⟩
end Go.Proofs.Ytekcjffdooekaaa


/-
  Layer 22: the simple operations, program and reference.
-/
namespace Go.Proofs.Ytekcjffdooekaaa
open Go Go.RowKit SZ
set_option linter.unusedVariables false
set_option linter.unusedSimpArgs false
set_option maxRecDepth 100000
attribute [local irreducible] post GD Nxt NxtAll
/-- A device that was made. -/
structure Dev (h0 : Nat) (w : World) (d : Dk) (S : List ByteArray) (W : List (Int × ByteArray)) : Prop where
  g : d.gen
  eS : d.S = S
  eW : d.W = W
  sA : StrAt w d.b d.o S
  wA : WasAt w d.c d.p W
  b0 : S.length = 0 ∨ h0 ≤ d.b
  c0 : W.length = 0 ∨ h0 ≤ d.c
theorem ok_gen {d : Dk} (h : d.ok) (h2 : d.tc ≤ 9223372036854775807) (h3 : d.sa = none → d.sc = 0) : d.gen := ⟨h.hS, h.hs, h.hW, h.hw, h.hw2.elim Or.inl (fun q => Or.inr q.2), h2, h3⟩
theorem gen_ok {d : Dk} (h : d.gen) (h1 : d.sl ≤ 512) (h2 : d.tl ≤ 1000) : d.ok := ⟨h.hS, h.hs, h.hW, h.ht.elim Or.inl (fun q => Or.inr ⟨h.hw, q⟩), h1, h2⟩
set_option maxHeartbeats 8000000 in
theorem rnewbad (n : Int) (hn : ¬(0 ≤ n ∧ n ≤ 512)) (w0 : World) : Calls Try.prog 13 #[.int .i64 n] w0 fun e w' => e = .returned (.tuple #[.agg #[.slice none 0 0, .slice none 0 0], .int .i64 1]) ∧ Below w0.heap.size w0 w' := by
  refine sy_enterF [] [] (by intro f hf; cases hf) Try.func13 rfl rfl fun aa S => ?_
  refine sy_run ⟨0, [1]⟩ 60 S fun bs aa w S => ?_
  refine sy_reg S fun S => ?_
  refine sy_ops 2 S fun bs aa w S => ?_
  by_cases h0 : n < 0
  · refine sy_cast 7 S (congrArg Value.bool (decide_eq_true h0 : decide (n < 0) = true)) (by kernel_rfl) fun S => ?_
    refine sy_run ⟨0, []⟩ 60 S fun bs aa w S => ?_
    exact sy_ret S (by kernel_rfl) (by kernel_rfl) fun hg => ⟨rfl, bel_gr hg⟩
  refine sy_cast 7 S (congrArg Value.bool (decide_eq_false h0 : decide (n < 0) = false)) (by kernel_rfl) fun S => ?_
  refine sy_ops 3 S fun bs aa w S => ?_
  refine sy_cast 10 S (congrArg Value.bool (decide_eq_true (by omega) : decide (n > 512) = true)) (by kernel_rfl) fun S => ?_
  refine sy_run ⟨0, []⟩ 60 S fun bs aa w S => ?_
  exact sy_ret S (by kernel_rfl) (by kernel_rfl) fun hg => ⟨rfl, bel_gr hg⟩
set_option maxHeartbeats 8000000 in
theorem writebad1 (d : Dk) (n : Int) (hn : ¬(0 ≤ n ∧ n < d.sl)) (s : ByteArray) (w0 : World) : Calls Try.prog 40 #[d.v, .int .i64 n, .string s] w0 fun e w' => e = .returned (.tuple #[d.v, .int .i64 8]) ∧ Below w0.heap.size w0 w' := by
  refine sy_enterF [] [] (by intro f hf; cases hf) Try.func40 rfl rfl fun aa S => ?_
  refine sy_run ⟨0, []⟩ 60 S fun bs aa w S => ?_
  refine sy_call1 S (has_f d n hn w) (by kernel_rfl) fun aa w hb S => ?_
  refine sy_run ⟨0, []⟩ 60 S fun bs aa w S => ?_
  exact sy_ret S (by kernel_rfl) (by kernel_rfl) fun hg => ⟨rfl, bel_gr hg⟩
set_option maxHeartbeats 8000000 in
theorem writebad2 (d : Dk) (n : Int) (hn : 0 ≤ n ∧ n < d.sl) (s : ByteArray) (hs : s.size ≠ 32) (w0 : World) : Calls Try.prog 40 #[d.v, .int .i64 n, .string s] w0 fun e w' => e = .returned (.tuple #[d.v, .int .i64 1]) ∧ Below w0.heap.size w0 w' := by
  refine sy_enterF [] [] (by intro f hf; cases hf) Try.func40 rfl rfl fun aa S => ?_
  refine sy_run ⟨0, []⟩ 60 S fun bs aa w S => ?_
  refine sy_call1 S (has_t d n hn w) (by kernel_rfl) fun aa w hb S => ?_
  refine sy_run ⟨0, [3]⟩ 60 S fun bs aa w S => ?_
  refine sy_reg S fun S => ?_
  refine sy_ops 3 S fun bs aa w S => ?_
  refine sy_cast 17 S (congrArg Value.bool (by rw [decide_eq_false (by omega)]; rfl : (!decide ((s.size : Int) = 32)) = true)) (by kernel_rfl) fun S => ?_
  refine sy_run ⟨0, []⟩ 60 S fun bs aa w S => ?_
  exact sy_ret S (by kernel_rfl) (by kernel_rfl) fun hg => ⟨rfl, bel_gr hg⟩
set_option maxHeartbeats 8000000 in
theorem rwritebad1 (d : Dk) (n : Int) (hn : ¬(0 ≤ n ∧ n < d.sl)) (s : ByteArray) (w0 : World) : Calls Try.prog 23 #[d.v, .int .i64 n, .string s] w0 fun e w' => e = .returned (.tuple #[d.v, .int .i64 8]) ∧ Below w0.heap.size w0 w' := by
  refine sy_enterF [] [] (by intro f hf; cases hf) Try.func23 rfl rfl fun aa S => ?_
  refine sy_run ⟨0, [1]⟩ 60 S fun bs aa w S => ?_
  refine sy_reg S fun S => ?_
  refine sy_ops 2 S fun bs aa w S => ?_
  by_cases h0 : n < 0
  · refine sy_cast 11 S (congrArg Value.bool (decide_eq_true h0 : decide (n < 0) = true)) (by kernel_rfl) fun S => ?_
    refine sy_run ⟨0, []⟩ 60 S fun bs aa w S => ?_
    exact sy_ret S (by kernel_rfl) (by kernel_rfl) fun hg => ⟨rfl, bel_gr hg⟩
  refine sy_cast 11 S (congrArg Value.bool (decide_eq_false h0 : decide (n < 0) = false)) (by kernel_rfl) fun S => ?_
  refine sy_ops 6 S fun bs aa w S => ?_
  refine sy_cast 17 S (congrArg Value.bool (decide_eq_true (by omega) : decide (n ≥ (d.sl : Int)) = true)) (by kernel_rfl) fun S => ?_
  refine sy_run ⟨0, []⟩ 60 S fun bs aa w S => ?_
  exact sy_ret S (by kernel_rfl) (by kernel_rfl) fun hg => ⟨rfl, bel_gr hg⟩
set_option maxHeartbeats 8000000 in
theorem rwritebad2 (d : Dk) (n : Int) (hn : 0 ≤ n ∧ n < d.sl) (s : ByteArray) (hs : s.size ≠ 32) (w0 : World) : Calls Try.prog 23 #[d.v, .int .i64 n, .string s] w0 fun e w' => e = .returned (.tuple #[d.v, .int .i64 1]) ∧ Below w0.heap.size w0 w' := by
  refine sy_enterF [] [] (by intro f hf; cases hf) Try.func23 rfl rfl fun aa S => ?_
  refine sy_run ⟨0, [1]⟩ 60 S fun bs aa w S => ?_
  refine sy_reg S fun S => ?_
  refine sy_ops 2 S fun bs aa w S => ?_
  refine sy_cast 11 S (congrArg Value.bool (decide_eq_false (by omega) : decide (n < 0) = false)) (by kernel_rfl) fun S => ?_
  refine sy_ops 6 S fun bs aa w S => ?_
  refine sy_cast 17 S (congrArg Value.bool (decide_eq_false (by omega) : decide (n ≥ (d.sl : Int)) = false)) (by kernel_rfl) fun S => ?_
  refine sy_run ⟨0, [3]⟩ 60 S fun bs aa w S => ?_
  refine sy_reg S fun S => ?_
  refine sy_ops 3 S fun bs aa w S => ?_
  refine sy_cast 22 S (congrArg Value.bool (by rw [decide_eq_false (by omega)]; rfl : (!decide ((s.size : Int) = 32)) = true)) (by kernel_rfl) fun S => ?_
  refine sy_run ⟨0, []⟩ 60 S fun bs aa w S => ?_
  exact sy_ret S (by kernel_rfl) (by kernel_rfl) fun hg => ⟨rfl, bel_gr hg⟩
theorem cells_of_str {w : World} {b o : Nat} {S : List ByteArray} (h : StrAt w b o S) (j : Nat) (v : Value) (hv : (S.map Value.string)[j]? = some v) : w.cell? ⟨b, o + j, none⟩ = some v := by
  have hj : j < S.length := by have := (List.getElem?_eq_some_iff.1 hv).1; simpa using this
  rw [h j hj]
  rw [List.getElem?_map, List.getElem?_eq_getElem hj] at hv
  simpa [List.getD, List.getElem?_eq_getElem hj] using hv
set_option maxHeartbeats 8000000 in
theorem rsync0 (sa : Option Addr) (sc : Nat) (hsn : sa = none → sc = 0) (T : Value) (w0 : World) (hT : ∃ a l c, T = .slice a l c) : Calls Try.prog 24 #[.agg #[.slice sa 0 sc, T]] w0 fun e w' => ∃ b, e = .returned (.agg #[.slice (some ⟨b, 0, none⟩) 0 0, .slice none 0 0]) ∧ Below w0.heap.size w0 w' := by
  obtain ⟨a, l, c, rfl⟩ := hT
  refine sy_enterF [] [] (by intro f hf; cases hf) Try.func24 rfl rfl fun aa S => ?_
  refine sy_run ⟨0, [1]⟩ 60 S fun bs aa w S => ?_
  refine sy_reg S fun S => ?_
  refine sy_exB (op := .buildSlice 25 0 #[]) (ty := 25) S (by kernel_rfl) (ex_bs0 (e := 9) Try.underlying25 (by kernel_rfl)) fun v0 aa w1 hv0 hb0 S => ?_
  obtain ⟨gz, rfl, hgz, hv1, hv2⟩ := hv0
  refine sy_ops 2 S fun bs aa w S => ?_
  refine sy_ex (op := .call { callee := .builtin .append, args := #[.tmp 3, .tmp 5], argTypes := #[25, 25] }) (ty := 25) (v := .slice (some ⟨gz, 0, none⟩) 0 0) S (by kernel_rfl) (ex_app0 (e := 9) (so := sa) (cp := sc) Try.underlying25 (by kernel_rfl) (by kernel_rfl) (by kernel_rfl) hsn) fun aa S => ?_
  refine sy_run ⟨0, []⟩ 60 S fun bs aa w S => ?_
  exact sy_ret S (by kernel_rfl) (by kernel_rfl) fun hg => ⟨gz, rfl, bel_gr hg⟩
set_option maxHeartbeats 8000000 in
theorem rsync1 (w0 : World) (d : Dk) (hd : d.ok) (h0 : 0 < d.sl) (hA : StrAt w0 d.b d.o d.S) : Calls Try.prog 24 #[d.v] w0 fun e w' => ∃ d' : Dk, e = .returned d'.v ∧ Dev w0.heap.size w' d' d.S [] ∧ Below w0.heap.size w0 w' := by
  have hl1 := hd.l1
  have esa := hd.hs.resolve_left (by omega)
  have hIs : (Try.prog.info? 9).map (fun i => (i.zero, i.size, i.bytes)) = some (some (.string ByteArray.empty), 1, 16) := by kernel_rfl
  obtain ⟨iis, his1, his2, his3, his4⟩ : ∃ ii, Try.prog.info? 9 = some ii ∧ ii.zero = some (.string ByteArray.empty) ∧ ii.size = 1 ∧ ii.bytes = 16 := by
    cases hi : Try.prog.info? 9 with
    | none => rw [hi] at hIs; cases hIs
    | some i =>
      rw [hi] at hIs
      simp only [Option.map_some, Option.some.injEq, Prod.mk.injEq] at hIs
      exact ⟨i, rfl, hIs.1, hIs.2.1, hIs.2.2⟩
  refine sy_enterF [] [rfSt d.b d.o d.S] (by intro f hf; simp only [List.mem_singleton] at hf; subst hf; exact hA) Try.func24 rfl rfl fun aa S => ?_
  refine sy_run ⟨0, [1]⟩ 60 S fun bs aa w S => ?_
  refine sy_reg S fun S => ?_
  refine sy_exB (op := .buildSlice 25 0 #[]) (ty := 25) S (by kernel_rfl) (ex_bs0 (e := 9) Try.underlying25 (by kernel_rfl)) fun v0 aa w1 hv0 hb0 S => ?_
  obtain ⟨gz, rfl, hgz, hv1, hv2⟩ := hv0
  refine sy_ops 2 S fun bs aa w S => ?_
  have hltb := fun i hi => S.lt (i := i) hi
  have hsz := S.gr.size
  refine sy_exB (op := .call { callee := .builtin .append, args := #[.tmp 3, .tmp 5], argTypes := #[25, 25] }) (ty := 25) S (by kernel_rfl) (ex_appN (e := 9) (b := some ⟨gz, 0, none⟩) (ad := ⟨d.b, d.o, none⟩) (m := d.sl) (cp := d.sc) (size := 1) (bytes := 16) (news := d.S.map Value.string) Try.underlying25 his1 his2 his3 his4 rfl (by kernel_rfl) rfl (by rw [← esa]; kernel_rfl) h0 (fun j v hv => by rw [addr_addS]; exact cells_of_str (S.fact (f := rfSt d.b d.o d.S) (by simp)) j v hv) (by rw [List.length_map, hd.hS, Nat.mul_one]) (by omega) (by omega)) fun v aa w2 hO hb2 S => ?_
  rcases hO.2 with ⟨_, q⟩ | ⟨g, cap, cur, rfl, hg0, hgc, hnc, hcm, hcs, htk⟩
  · omega
  have S := S.add (rfRow g d.S) ⟨cur.toList, by simpa using hgc, by rw [hd.hS]; simpa using htk⟩ (fun i hi he => by have h1 := hltb i hi; have h2 : _ = g := he; omega)
  refine sy_run ⟨0, []⟩ 60 S fun bs aa w S => ?_
  exact sy_ret S (by kernel_rfl) (by kernel_rfl) fun hg => ⟨(⟨some ⟨g, 0, none⟩, d.sl, cap, none, 0, 0, g, 0, 0, 0, d.S, []⟩ : Dk), rfl, ⟨⟨hd.hS, Or.inr rfl, rfl, Or.inl rfl, Or.inl ⟨rfl, rfl, rfl⟩, Nat.zero_le _, fun h => by cases h⟩, rfl, rfl, row_at (S.fact (f := rfRow g d.S) (by simp)), fun j hj => absurd hj (Nat.not_lt_zero _), Or.inr (by show w0.heap.size ≤ g; omega), Or.inl rfl⟩, bel_gr hg⟩
end Go.Proofs.Ytekcjffdooekaaa


/-
  Layer 22: the reference's Write.
-/
namespace Go.Proofs.Ytekcjffdooekaaa
open Go Go.RowKit SZ
set_option linter.unusedVariables false
set_option linter.unusedSimpArgs false
set_option maxRecDepth 100000
attribute [local irreducible] post GD Nxt NxtAll
noncomputable def rwS (d : Dk) (j : Nat) (s : ByteArray) (g2 cap2 : Nat) : SS := ⟨48, [(1, .v (.int .i64 (j : Int))), (2, .v (.string s)), (3, .p 0 0), (6, .p 1 0), (8, .v (.slice (some ⟨g2, 0, none⟩) (d.tl + 1) cap2))], [⟨28, d.cs⟩, ⟨28, [.slice none 0 0, .slice none 0 0]⟩]⟩
noncomputable def rwC : List It := goN 60 4 [0, 0] [.code (bodyOf Try.f23)]
set_option maxHeartbeats 8000000 in
theorem rw_2 (w0 : World) (d : Dk) (hd : d.ok) (hl6 : d.tl ≤ 60) (j : Nat) (hj : j < d.sl) (s : ByteArray) (hs : s.size = 32) (g2 cap2 : Nat) (cur2 : Array Value) (hn2 : d.tl + 1 ≤ cap2) (ht2 : cur2.toList.take ((d.tl + 1) * 2) = wasV (d.W ++ [((j : Int), (d.S.getD j ByteArray.empty))])) (hg2 : w0.heap.size ≤ g2) (hm2 : cap2 ≤ 9223372036854775807) (b0 b1 : Nat) (aa : Act) (w : World)
    (S : Sy w0 [] [b0, b1] (rwS d j s g2 cap2) [rfBox g2 65 cur2.toList, rfSt d.b d.o d.S] aa w) : post Try.prog rwC (bodyPost Try.prog Try.f23 fun e w' => ∃ d' : Dk, e = .returned (.tuple #[d'.v, .int .i64 0]) ∧ Dev w0.heap.size w' d' (d.S.set j s) (d.W ++ [((j : Int), (d.S.getD j ByteArray.empty))]) ∧ Below w0.heap.size w0 w') .normal aa w := by
  have hl1 := hd.l1
  have esa := hd.hs.resolve_left (by omega)
  have hIs : (Try.prog.info? 9).map (fun i => (i.zero, i.size, i.bytes)) = some (some (.string ByteArray.empty), 1, 16) := by kernel_rfl
  obtain ⟨iis, his1, his2, his3, his4⟩ : ∃ ii, Try.prog.info? 9 = some ii ∧ ii.zero = some (.string ByteArray.empty) ∧ ii.size = 1 ∧ ii.bytes = 16 := by
    cases hi : Try.prog.info? 9 with
    | none => rw [hi] at hIs; cases hIs
    | some i =>
      rw [hi] at hIs
      simp only [Option.map_some, Option.some.injEq, Prod.mk.injEq] at hIs
      exact ⟨i, rfl, hIs.1, hIs.2.1, hIs.2.2⟩
  refine sy_run (c := ⟨rwC, rwS d j s g2 cap2⟩) ⟨0, [6]⟩ 60 S fun bs aa w S => ?_
  refine sy_reg S fun S => ?_
  refine sy_exB (op := .buildSlice 25 0 #[]) (ty := 25) S (by kernel_rfl) (ex_bs0 (e := 9) Try.underlying25 (by kernel_rfl)) fun v0 aa w1 hv0 hb0 S => ?_
  obtain ⟨gz, rfl, hgz, hv1, hv2⟩ := hv0
  refine sy_ops 2 S fun bs aa w S => ?_
  have hltb := fun i hi => S.lt (i := i) hi
  have hsz := S.gr.size
  have hg2l := (rfBox g2 65 cur2.toList).lt _ (S.fact (f := rfBox g2 65 cur2.toList) (by simp)) g2 rfl
  refine sy_exB (op := .call { callee := .builtin .append, args := #[.tmp 37, .tmp 39], argTypes := #[25, 25] }) (ty := 25) S (by kernel_rfl) (ex_appN (e := 9) (b := some ⟨gz, 0, none⟩) (ad := ⟨d.b, d.o, none⟩) (m := d.sl) (cp := d.sc) (size := 1) (bytes := 16) (news := d.S.map Value.string) Try.underlying25 his1 his2 his3 his4 rfl (by kernel_rfl) rfl (by rw [← esa]; kernel_rfl) (by omega) (fun j v hv => by rw [addr_addS]; exact cells_of_str (S.fact (f := rfSt d.b d.o d.S) (by simp)) j v hv) (by rw [List.length_map, hd.hS, Nat.mul_one]) (by omega) (by omega)) fun v aa w2 hO hb2 S => ?_
  rcases hO.2 with ⟨_, q⟩ | ⟨g, cap, cur, rfl, hg0, hgc, hnc, hcm, hcs, htk⟩
  · omega
  have hcur : w2.heap[g]? = some (.cells cur.toList.toArray 9 (0, 0)) := by simpa using hgc
  have S := S.add (rfBox g 9 cur.toList) hcur (fun i hi he => by have h1 := hltb i hi; have h2 : _ = g := he; omega)
  refine sy_run ⟨0, [7]⟩ 60 S fun bs aa w S => ?_
  refine sy_reg S fun S => ?_
  refine sy_ops 3 S fun bs aa w S => ?_
  refine sy_ix (b := g) (off := 0) (len := d.sl) (n := j) (size := 1) (i := (j : Int)) S (by kernel_rfl) rfl hj fun aa S => ?_
  have hZ := S.fact (f := rfBox g 9 cur.toList) (by simp)
  obtain ⟨hr, he⟩ := st_at (P := Try.prog) (ty := 9) (v := .string s) (off := j) (by kernel_rfl) (by kernel_rfl) (by kernel_rfl) hZ (by rw [Array.length_toList, hcs]; omega)
  refine sy_sto (ty := 9) (ad := ⟨g, 0 + j * 1, none⟩) (x := .v (.string s)) (v := .string s) S (by kernel_rfl) rfl (by rw [Nat.mul_one, Nat.zero_add]; exact hr) (gb_setC _ g j _) (Or.inr (by show w0.heap.size ≤ g; omega)) [rfBox g2 65 cur2.toList] (by intro f hf; simp only [List.mem_singleton] at hf; subst hf; exact ⟨by simp, fun hb => by have h1 : g = g2 := hb; omega⟩) (fun i hi e => (S.fs (rfBox g 9 cur.toList) (by simp)).2 i hi e) fun aa S2 => ?_
  have S := S2.add (rfBox g 9 (cur.toList.set j (.string s))) he (S.fs (rfBox g 9 cur.toList) (by simp)).2
  refine sy_run ⟨0, []⟩ 60 S fun bs aa w S => ?_
  refine sy_ret S (by kernel_rfl) (by kernel_rfl) fun hg => ⟨(⟨some ⟨g, 0, none⟩, d.sl, cap, some ⟨g2, 0, none⟩, d.tl + 1, cap2, g, 0, g2, 0, d.S.set j s, (d.W ++ [((j : Int), (d.S.getD j ByteArray.empty))])⟩ : Dk), rfl, ⟨⟨by simp [hd.hS], Or.inr rfl, by simp [hd.hW], Or.inr rfl, Or.inr ⟨rfl, hn2⟩, hm2, fun h => by cases h⟩, rfl, rfl, ?_, ?_, Or.inr (by show w0.heap.size ≤ g; omega), Or.inr hg2⟩, bel_gr hg⟩
  · refine strAt_of (n := d.sl) (S.fact (f := rfBox g 9 (cur.toList.set j (.string s))) (by simp)) ?_
    rw [List.take_set, List.map_set]
    rw [Nat.mul_one] at htk
    rw [htk]
  · exact wasAt_of (S.fact (f := rfBox g2 65 cur2.toList) (by simp)) ht2
set_option maxHeartbeats 8000000 in
theorem rwrite0 (w0 : World) (d : Dk) (hd : d.ok) (htn : d.ta = none → d.tc = 0) (h0 : d.tl = 0) (j : Nat) (hj : j < d.sl) (s : ByteArray) (hs : s.size = 32) (hA : StrAt w0 d.b d.o d.S) (hB : WasAt w0 d.c d.p d.W) : Calls Try.prog 23 #[d.v, .int .i64 (j : Int), .string s] w0 fun e w' => ∃ d' : Dk, e = .returned (.tuple #[d'.v, .int .i64 0]) ∧ Dev w0.heap.size w' d' (d.S.set j s) (d.W ++ [((j : Int), (d.S.getD j ByteArray.empty))]) ∧ Below w0.heap.size w0 w' := by
  have hl6 : d.tl ≤ 60 := by omega
  have hW0 : d.W = [] := List.eq_nil_of_length_eq_zero (by rw [hd.hW]; exact h0)
  obtain ⟨sa, sl, sc, ta, tl, tc, b, o, c, p, S0, W0⟩ := d
  simp only at h0 hW0 htn hj
  subst h0 hW0
  have esa : sa = some ⟨b, o, none⟩ := hd.hs.resolve_left (show ¬ sl = 0 by omega)
  have hIw : (Try.prog.info? 65).map (fun i => (i.zero, i.size, i.bytes)) = some (some (.agg #[.int .i64 0, .string ByteArray.empty]), 2, 24) := by kernel_rfl
  obtain ⟨iiw, hiw1, hiw2, hiw3, hiw4⟩ : ∃ ii, Try.prog.info? 65 = some ii ∧ ii.zero = some (.agg #[.int .i64 0, .string ByteArray.empty]) ∧ ii.size = 2 ∧ ii.bytes = 24 := by
    cases hi : Try.prog.info? 65 with
    | none => rw [hi] at hIw; cases hIw
    | some i =>
      rw [hi] at hIw
      simp only [Option.map_some, Option.some.injEq, Prod.mk.injEq] at hIw
      exact ⟨i, rfl, hIw.1, hIw.2.1, hIw.2.2⟩
  refine sy_enterF [] [rfSt b o S0, rfWs c p []] (by intro f hf; simp only [List.mem_cons, List.not_mem_nil, or_false] at hf; rcases hf with rfl | rfl; exact hA; exact hB) Try.func23 rfl rfl fun aa S => ?_
  refine sy_run ⟨0, [1]⟩ 60 S fun bs aa w S => ?_
  refine sy_reg S fun S => ?_
  refine sy_ops 2 S fun bs aa w S => ?_
  refine sy_cast 11 S (congrArg Value.bool (decide_eq_false (by omega) : decide ((j : Int) < 0) = false)) (by kernel_rfl) fun S => ?_
  refine sy_ops 6 S fun bs aa w S => ?_
  refine sy_cast 17 S (congrArg Value.bool (decide_eq_false (by omega) : decide ((j : Int) ≥ (sl : Int)) = false)) (by kernel_rfl) fun S => ?_
  refine sy_run ⟨0, [3]⟩ 60 S fun bs aa w S => ?_
  refine sy_reg S fun S => ?_
  refine sy_ops 3 S fun bs aa w S => ?_
  refine sy_cast 22 S (congrArg Value.bool (by rw [hs]; rfl : (!decide ((s.size : Int) = 32)) = false)) (by kernel_rfl) fun S => ?_
  refine sy_run ⟨0, []⟩ 60 S fun bs aa w S => ?_
  letI : KP := ⟨[27]⟩
  letI : HF := ⟨[rfSt b o S0]⟩
  refine dr_enter [0] (by kernel_rfl) (by kernel_rfl) S (by kernel_rfl) (fun aa w D => ?_) (fun f hf => by have e : f = rfSt b o S0 := List.mem_singleton.1 hf; subst e; simp)
  refine dr_tix 8 D (by kernel_rfl) (by kernel_rfl) (by kernel_rfl) (b := b) (off := o) (len := sl) (n := j) (size := 1) (ix := (j : Int)) (by rw [← esa]; kernel_rfl) rfl hj fun aa D => ?_
  refine dr_tld 9 D (by kernel_rfl) (by kernel_rfl) (by kernel_rfl) (ty := 9) (ad := ⟨b, o + j * 1, none⟩) (v := .string (S0.getD j ByteArray.empty)) (fun W hW => ld_at (by kernel_rfl) (by rw [Nat.mul_one]; exact (show StrAt W b o S0 from hW _ (List.mem_singleton.2 rfl)) j (by have hq := hd.hS; (try simp only at hq); omega))) (by kernel_rfl) fun aa D => ?_
  refine dr_any [0, 11] (by kernel_rfl) (by kernel_rfl) rfl (na2 ?_ ?_)
  · refine nx_exB 0 (op := .buildSlice 26 0 #[]) (ty := 26) D (by kernel_rfl) (by kernel_rfl) (ex_bs0 (e := 65) Try.underlying26 (by kernel_rfl)) fun v0 aa w1 hv0 hb0 hlt0 D => ?_
    obtain ⟨gz, rfl, hgz, hv1, hv2⟩ := hv0
    refine dr_any [3, 11] (by kernel_rfl) (by kernel_rfl) rfl (na2 ?_ ?_)
    · refine nx_ex 3 (op := .call { callee := .builtin .append, args := #[.tmp 24, .tmp 26], argTypes := #[26, 26] }) (ty := 26) (v := .slice (some ⟨gz, 0, none⟩) 0 0) D (by kernel_rfl) (by kernel_rfl) (ex_app0 (e := 65) (so := ta) (cp := tc) Try.underlying26 (by kernel_rfl) (by kernel_rfl) (by kernel_rfl) htn) fun aa D => ?_
      refine dr_any [11] (by kernel_rfl) (by kernel_rfl) rfl (na1 ?_)
      · refine nx_op 11 D (by kernel_rfl) (Nat.le_refl _) (by kernel_rfl) (by kernel_rfl) fun bs aa w D hl => ?_
        refine dr_any [12] (by kernel_rfl) (by kernel_rfl) rfl (na1 ?_)
        · refine have hlt12 := fun i hi => D.S.lt (i := i) hi; have hsz12 := D.S.gr.size; nx_appN 12 D (by kernel_rfl) (u := .v (.slice (some ⟨gz, 0, none⟩) 0 0)) (y := .s 2 0 1 1) (t := 26) (e := 65) (b := some ⟨gz, 0, none⟩) (n := 0) (ad := adr _ 2 0) (m := 1) (cp := 1) (size := 2) (bytes := 24) (xs := []) (news := [.int .i64 (j : Int), .string (S0.getD j ByteArray.empty)]) (by kernel_rfl) Try.underlying26 hiw1 hiw2 hiw3 hiw4 rfl rfl rfl (by omega) (Or.inr (Or.inr ⟨rfl, rfl⟩)) rfl (own2 (P := Try.prog) (ty := 65) (cs := [.int .i64 (j : Int), .string (S0.getD j ByteArray.empty)]) D.S (by kernel_rfl)) rfl (by omega) (by omega) fun v' aa w2 hO hb2 hlt D => ?_
          rcases hO.2 with ⟨_, q⟩ | ⟨g2, cap2, cur2, rfl, gb2, hg2, hn2, hm2, hs2, ht2⟩
          · omega
          have D := D.addF (rfBox g2 65 cur2.toList) (by show _ = some (Obj.cells cur2.toList.toArray 65 (0, 0)); simpa using hg2) (fun i hi he => by have h1 := hlt i hi; have h2 : _ = g2 := he; omega)
          refine dr_end D (by kernel_rfl) fun S => ?_
          have S := S.sub (F' := [rfBox g2 65 cur2.toList, rfSt b o S0]) (by intro f hf; simp only [List.mem_cons, List.not_mem_nil, or_false] at hf; rcases hf with rfl | rfl <;> simp)
          have S' := S.to [0, 1] (rwS (⟨sa, sl, sc, ta, 0, tc, b, o, c, p, S0, []⟩ : Dk) j s g2 cap2) (by kernel_rfl) (by kernel_rfl) (by kernel_rfl) (by kernel_rfl) (by kernel_rfl)
          refine sy_at2 (k' := rwC) (by kernel_rfl) ?_
          exact rw_2 w0 (⟨sa, sl, sc, ta, 0, tc, b, o, c, p, S0, []⟩ : Dk) hd hl6 j hj s hs g2 cap2 cur2 hn2 (by simpa [wasV] using ht2) (by omega) (by simp only [maxLen] at hm2; exact hm2) _ _ _ _ S'
    · refine nx_op 11 D (by kernel_rfl) (Nat.le_refl _) (by kernel_rfl) (by kernel_rfl) fun bs aa w D hl => ?_
      refine dr_any [3] (by kernel_rfl) (by kernel_rfl) rfl (na1 ?_)
      · refine nx_ex 3 (op := .call { callee := .builtin .append, args := #[.tmp 24, .tmp 26], argTypes := #[26, 26] }) (ty := 26) (v := .slice (some ⟨gz, 0, none⟩) 0 0) D (by kernel_rfl) (by kernel_rfl) (ex_app0 (e := 65) (so := ta) (cp := tc) Try.underlying26 (by kernel_rfl) (by kernel_rfl) (by kernel_rfl) htn) fun aa D => ?_
        refine dr_any [12] (by kernel_rfl) (by kernel_rfl) rfl (na1 ?_)
        · refine have hlt12 := fun i hi => D.S.lt (i := i) hi; have hsz12 := D.S.gr.size; nx_appN 12 D (by kernel_rfl) (u := .v (.slice (some ⟨gz, 0, none⟩) 0 0)) (y := .s 2 0 1 1) (t := 26) (e := 65) (b := some ⟨gz, 0, none⟩) (n := 0) (ad := adr _ 2 0) (m := 1) (cp := 1) (size := 2) (bytes := 24) (xs := []) (news := [.int .i64 (j : Int), .string (S0.getD j ByteArray.empty)]) (by kernel_rfl) Try.underlying26 hiw1 hiw2 hiw3 hiw4 rfl rfl rfl (by omega) (Or.inr (Or.inr ⟨rfl, rfl⟩)) rfl (own2 (P := Try.prog) (ty := 65) (cs := [.int .i64 (j : Int), .string (S0.getD j ByteArray.empty)]) D.S (by kernel_rfl)) rfl (by omega) (by omega) fun v' aa w2 hO hb2 hlt D => ?_
          rcases hO.2 with ⟨_, q⟩ | ⟨g2, cap2, cur2, rfl, gb2, hg2, hn2, hm2, hs2, ht2⟩
          · omega
          have D := D.addF (rfBox g2 65 cur2.toList) (by show _ = some (Obj.cells cur2.toList.toArray 65 (0, 0)); simpa using hg2) (fun i hi he => by have h1 := hlt i hi; have h2 : _ = g2 := he; omega)
          refine dr_end D (by kernel_rfl) fun S => ?_
          have S := S.sub (F' := [rfBox g2 65 cur2.toList, rfSt b o S0]) (by intro f hf; simp only [List.mem_cons, List.not_mem_nil, or_false] at hf; rcases hf with rfl | rfl <;> simp)
          have S' := S.to [0, 1] (rwS (⟨sa, sl, sc, ta, 0, tc, b, o, c, p, S0, []⟩ : Dk) j s g2 cap2) (by kernel_rfl) (by kernel_rfl) (by kernel_rfl) (by kernel_rfl) (by kernel_rfl)
          refine sy_at2 (k' := rwC) (by kernel_rfl) ?_
          exact rw_2 w0 (⟨sa, sl, sc, ta, 0, tc, b, o, c, p, S0, []⟩ : Dk) hd hl6 j hj s hs g2 cap2 cur2 hn2 (by simpa [wasV] using ht2) (by omega) (by simp only [maxLen] at hm2; exact hm2) _ _ _ _ S'
  · refine nx_op 11 D (by kernel_rfl) (Nat.le_refl _) (by kernel_rfl) (by kernel_rfl) fun bs aa w D hl => ?_
    refine dr_any [0] (by kernel_rfl) (by kernel_rfl) rfl (na1 ?_)
    · refine nx_exB 0 (op := .buildSlice 26 0 #[]) (ty := 26) D (by kernel_rfl) (by kernel_rfl) (ex_bs0 (e := 65) Try.underlying26 (by kernel_rfl)) fun v0 aa w1 hv0 hb0 hlt0 D => ?_
      obtain ⟨gz, rfl, hgz, hv1, hv2⟩ := hv0
      refine dr_any [3] (by kernel_rfl) (by kernel_rfl) rfl (na1 ?_)
      · refine nx_ex 3 (op := .call { callee := .builtin .append, args := #[.tmp 24, .tmp 26], argTypes := #[26, 26] }) (ty := 26) (v := .slice (some ⟨gz, 0, none⟩) 0 0) D (by kernel_rfl) (by kernel_rfl) (ex_app0 (e := 65) (so := ta) (cp := tc) Try.underlying26 (by kernel_rfl) (by kernel_rfl) (by kernel_rfl) htn) fun aa D => ?_
        refine dr_any [12] (by kernel_rfl) (by kernel_rfl) rfl (na1 ?_)
        · refine have hlt12 := fun i hi => D.S.lt (i := i) hi; have hsz12 := D.S.gr.size; nx_appN 12 D (by kernel_rfl) (u := .v (.slice (some ⟨gz, 0, none⟩) 0 0)) (y := .s 2 0 1 1) (t := 26) (e := 65) (b := some ⟨gz, 0, none⟩) (n := 0) (ad := adr _ 2 0) (m := 1) (cp := 1) (size := 2) (bytes := 24) (xs := []) (news := [.int .i64 (j : Int), .string (S0.getD j ByteArray.empty)]) (by kernel_rfl) Try.underlying26 hiw1 hiw2 hiw3 hiw4 rfl rfl rfl (by omega) (Or.inr (Or.inr ⟨rfl, rfl⟩)) rfl (own2 (P := Try.prog) (ty := 65) (cs := [.int .i64 (j : Int), .string (S0.getD j ByteArray.empty)]) D.S (by kernel_rfl)) rfl (by omega) (by omega) fun v' aa w2 hO hb2 hlt D => ?_
          rcases hO.2 with ⟨_, q⟩ | ⟨g2, cap2, cur2, rfl, gb2, hg2, hn2, hm2, hs2, ht2⟩
          · omega
          have D := D.addF (rfBox g2 65 cur2.toList) (by show _ = some (Obj.cells cur2.toList.toArray 65 (0, 0)); simpa using hg2) (fun i hi he => by have h1 := hlt i hi; have h2 : _ = g2 := he; omega)
          refine dr_end D (by kernel_rfl) fun S => ?_
          have S := S.sub (F' := [rfBox g2 65 cur2.toList, rfSt b o S0]) (by intro f hf; simp only [List.mem_cons, List.not_mem_nil, or_false] at hf; rcases hf with rfl | rfl <;> simp)
          have S' := S.to [0, 1] (rwS (⟨sa, sl, sc, ta, 0, tc, b, o, c, p, S0, []⟩ : Dk) j s g2 cap2) (by kernel_rfl) (by kernel_rfl) (by kernel_rfl) (by kernel_rfl) (by kernel_rfl)
          refine sy_at2 (k' := rwC) (by kernel_rfl) ?_
          exact rw_2 w0 (⟨sa, sl, sc, ta, 0, tc, b, o, c, p, S0, []⟩ : Dk) hd hl6 j hj s hs g2 cap2 cur2 hn2 (by simpa [wasV] using ht2) (by omega) (by simp only [maxLen] at hm2; exact hm2) _ _ _ _ S'
theorem own_le {w : World} {B B0 : Nat} {e : TypeId} {size : Nat} {v : Value} {n : Nat} {xs : List Value} (h : w.ownsRow B e size v n xs) (hle : B0 ≤ B) : w.ownsRow B0 e size v n xs := by
  refine ⟨h.1, h.2.imp id ?_⟩
  rintro ⟨g, cap, cur, h1, h2, h3⟩
  exact ⟨g, cap, cur, h1, Nat.le_trans hle h2, h3⟩
set_option maxHeartbeats 8000000 in
theorem rwrite1 (w0 : World) (d : Dk) (hd : d.ok) (hl6 : d.tl ≤ 60) (j : Nat) (hj : j < d.sl) (s : ByteArray) (hs : s.size = 32) (h0 : 0 < d.tl) (hA : StrAt w0 d.b d.o d.S) (hB : WasAt w0 d.c d.p d.W) : Calls Try.prog 23 #[d.v, .int .i64 (j : Int), .string s] w0 fun e w' => ∃ d' : Dk, e = .returned (.tuple #[d'.v, .int .i64 0]) ∧ Dev w0.heap.size w' d' (d.S.set j s) (d.W ++ [((j : Int), (d.S.getD j ByteArray.empty))]) ∧ Below w0.heap.size w0 w' := by
  have esa : d.sa = some ⟨d.b, d.o, none⟩ := hd.hs.resolve_left (by omega)
  have eta : d.ta = some ⟨d.c, d.p, none⟩ := hd.hw.resolve_left (by omega)
  have hbl : d.b < w0.heap.size := (rfSt d.b d.o d.S).lt w0 hA d.b ⟨rfl, by rw [hd.hS]; omega⟩
  have hIw : (Try.prog.info? 65).map (fun i => (i.zero, i.size, i.bytes)) = some (some (.agg #[.int .i64 0, .string ByteArray.empty]), 2, 24) := by kernel_rfl
  obtain ⟨iiw, hiw1, hiw2, hiw3, hiw4⟩ : ∃ ii, Try.prog.info? 65 = some ii ∧ ii.zero = some (.agg #[.int .i64 0, .string ByteArray.empty]) ∧ ii.size = 2 ∧ ii.bytes = 24 := by
    cases hi : Try.prog.info? 65 with
    | none => rw [hi] at hIw; cases hIw
    | some i =>
      rw [hi] at hIw
      simp only [Option.map_some, Option.some.injEq, Prod.mk.injEq] at hIw
      exact ⟨i, rfl, hIw.1, hIw.2.1, hIw.2.2⟩
  refine sy_enterF [] [rfSt d.b d.o d.S, rfWs d.c d.p d.W] (by intro f hf; simp only [List.mem_cons, List.not_mem_nil, or_false] at hf; rcases hf with rfl | rfl; exact hA; exact hB) Try.func23 rfl rfl fun aa S => ?_
  refine sy_run ⟨0, [1]⟩ 60 S fun bs aa w S => ?_
  refine sy_reg S fun S => ?_
  refine sy_ops 2 S fun bs aa w S => ?_
  refine sy_cast 11 S (congrArg Value.bool (decide_eq_false (by omega) : decide ((j : Int) < 0) = false)) (by kernel_rfl) fun S => ?_
  refine sy_ops 6 S fun bs aa w S => ?_
  refine sy_cast 17 S (congrArg Value.bool (decide_eq_false (by omega) : decide ((j : Int) ≥ (d.sl : Int)) = false)) (by kernel_rfl) fun S => ?_
  refine sy_run ⟨0, [3]⟩ 60 S fun bs aa w S => ?_
  refine sy_reg S fun S => ?_
  refine sy_ops 3 S fun bs aa w S => ?_
  refine sy_cast 22 S (congrArg Value.bool (by rw [hs]; rfl : (!decide ((s.size : Int) = 32)) = false)) (by kernel_rfl) fun S => ?_
  refine sy_run ⟨0, []⟩ 60 S fun bs aa w S => ?_
  letI : KP := ⟨[27]⟩
  letI : HF := ⟨[rfSt d.b d.o d.S]⟩
  refine dr_enter [0] (by kernel_rfl) (by kernel_rfl) S (by kernel_rfl) (fun aa w D => ?_) (fun f hf => by have e : f = rfSt d.b d.o d.S := List.mem_singleton.1 hf; subst e; simp)
  refine dr_tix 8 D (by kernel_rfl) (by kernel_rfl) (by kernel_rfl) (b := d.b) (off := d.o) (len := d.sl) (n := j) (size := 1) (ix := (j : Int)) (by rw [← esa]; kernel_rfl) rfl hj fun aa D => ?_
  refine dr_tld 9 D (by kernel_rfl) (by kernel_rfl) (by kernel_rfl) (ty := 9) (ad := ⟨d.b, d.o + j * 1, none⟩) (v := .string (d.S.getD j ByteArray.empty)) (fun W hW => ld_at (by kernel_rfl) (by rw [Nat.mul_one]; exact (show StrAt W d.b d.o d.S from hW _ (List.mem_singleton.2 rfl)) j (by have hq := hd.hS; (try simp only at hq); omega))) (by kernel_rfl) fun aa D => ?_
  refine dr_any [0, 11] (by kernel_rfl) (by kernel_rfl) rfl (na2 ?_ ?_)
  · refine nx_exB 0 (op := .buildSlice 26 0 #[]) (ty := 26) D (by kernel_rfl) (by kernel_rfl) (ex_bs0 (e := 65) Try.underlying26 (by kernel_rfl)) fun v0 aa w1 hv0 hb0 hlt0 D => ?_
    obtain ⟨gz, rfl, hgz, hv1, hv2⟩ := hv0
    refine dr_any [3, 11] (by kernel_rfl) (by kernel_rfl) rfl (na2 ?_ ?_)
    · refine have hsz3 := D.S.gr.size; have hlt3' := fun i hi => D.S.lt (i := i) hi; nx_exB 3 (op := .call { callee := .builtin .append, args := #[.tmp 24, .tmp 26], argTypes := #[26, 26] }) (ty := 26) D (by kernel_rfl) (by kernel_rfl) (ex_appN (e := 65) (b := some ⟨gz, 0, none⟩) (ad := ⟨d.c, d.p, none⟩) (m := d.tl) (cp := d.tc) (size := 2) (bytes := 24) (news := wasV d.W) Try.underlying26 hiw1 hiw2 hiw3 hiw4 rfl (by kernel_rfl) rfl (by rw [← eta]; kernel_rfl) (by omega) (fun k v hv => by rw [addr_addS]; exact wasV_at (D.S.fact (f := rfWs d.c d.p d.W) (by simp)) k v hv) (by rw [wasV_len, hd.hW]) (by omega) (by omega)) fun v3 aa w3 hO3 hb3 hlt3 D => ?_
      have D := D.addF (rfOwn w0.heap.size 65 2 v3 d.tl (wasV d.W)) (own_le hO3 hsz3) (fun i hi hg => by have h1 := hO3.lt _ hg; have h2 := hlt3 i hi; omega)
      refine dr_any [11] (by kernel_rfl) (by kernel_rfl) rfl (na1 ?_)
      · refine nx_op 11 D (by kernel_rfl) (Nat.le_refl _) (by kernel_rfl) (by kernel_rfl) fun bs aa w D hl => ?_
        refine dr_any [12] (by kernel_rfl) (by kernel_rfl) rfl (na1 ?_)
        · refine have hap := (D.S.fs (rfOwn w0.heap.size 65 2 v3 d.tl (wasV d.W)) (by simp)).2; have hsz12 := D.S.gr.size; nx_appO 12 w0.heap.size [rfSt d.b d.o d.S] D (by kernel_rfl) (u := .v v3) (y := .s 2 0 1 1) (t := 26) (e := 65) (v := v3) (n := d.tl) (ad := adr _ 2 0) (m := 1) (cp := 1) (size := 2) (bytes := 24) (xs := wasV d.W) (news := [.int .i64 (j : Int), .string (d.S.getD j ByteArray.empty)]) (by kernel_rfl) Try.underlying26 hiw1 hiw2 hiw3 hiw4 rfl (by omega) rfl rfl (D.S.fact (f := (rfOwn w0.heap.size 65 2 v3 d.tl (wasV d.W))) (by simp)) hsz12 (own2 (P := Try.prog) (ty := 65) (cs := [.int .i64 (j : Int), .string (d.S.getD j ByteArray.empty)]) D.S (by kernel_rfl)) rfl (by intro u hu; simp only [List.mem_cons, List.not_mem_nil, or_false] at hu; rcases hu with rfl | rfl <;> rfl) (by simp only [maxLen]; omega) (by omega) (fun g hg => Or.inr ((D.S.fact (f := (rfOwn w0.heap.size 65 2 v3 d.tl (wasV d.W))) (by simp)).lt g hg).1) (fun f hf => by have e : f = rfSt d.b d.o d.S := List.mem_singleton.1 hf; subst e; exact ⟨by simp, fun g hg hb => by have h1 := ((D.S.fact (f := (rfOwn w0.heap.size 65 2 v3 d.tl (wasV d.W))) (by simp)).lt g hg).1; have h2 : g = d.b := hb.1; omega⟩) (fun f hf => hf) (fun i hi hb => hap i hi hb) fun v' aa w2 hO hg12 hnn hlt D => ?_
          rcases hO.2 with ⟨_, q⟩ | ⟨g2, cap2, cur2, rfl, gb2, hg2, hn2, hm2, hs2, ht2⟩
          · omega
          have D := D.addF (rfBox g2 65 cur2.toList) (by show _ = some (Obj.cells cur2.toList.toArray 65 (0, 0)); simpa using hg2) (fun i hi he => by have h2 : _ = g2 := he; rcases hnn g2 rfl with q | q; exact hap i hi (by rw [h2]; exact q); have h1 := hlt i hi; omega)
          refine dr_end D (by kernel_rfl) fun S => ?_
          have S := S.sub (F' := [rfBox g2 65 cur2.toList, rfSt d.b d.o d.S]) (by intro f hf; simp only [List.mem_cons, List.not_mem_nil, or_false] at hf; rcases hf with rfl | rfl <;> simp)
          have S' := S.to [0, 1] (rwS d j s g2 cap2) (by kernel_rfl) (by kernel_rfl) (by kernel_rfl) (by kernel_rfl) (by kernel_rfl)
          refine sy_at2 (k' := rwC) (by kernel_rfl) ?_
          exact rw_2 w0 d hd hl6 j hj s hs g2 cap2 cur2 hn2 (by rw [wasV_app]; exact ht2) (by omega) (by simp only [maxLen] at hm2; exact hm2) _ _ _ _ S'
    · refine nx_op 11 D (by kernel_rfl) (Nat.le_refl _) (by kernel_rfl) (by kernel_rfl) fun bs aa w D hl => ?_
      refine dr_any [3] (by kernel_rfl) (by kernel_rfl) rfl (na1 ?_)
      · refine have hsz3 := D.S.gr.size; have hlt3' := fun i hi => D.S.lt (i := i) hi; nx_exB 3 (op := .call { callee := .builtin .append, args := #[.tmp 24, .tmp 26], argTypes := #[26, 26] }) (ty := 26) D (by kernel_rfl) (by kernel_rfl) (ex_appN (e := 65) (b := some ⟨gz, 0, none⟩) (ad := ⟨d.c, d.p, none⟩) (m := d.tl) (cp := d.tc) (size := 2) (bytes := 24) (news := wasV d.W) Try.underlying26 hiw1 hiw2 hiw3 hiw4 rfl (by kernel_rfl) rfl (by rw [← eta]; kernel_rfl) (by omega) (fun k v hv => by rw [addr_addS]; exact wasV_at (D.S.fact (f := rfWs d.c d.p d.W) (by simp)) k v hv) (by rw [wasV_len, hd.hW]) (by omega) (by omega)) fun v3 aa w3 hO3 hb3 hlt3 D => ?_
        have D := D.addF (rfOwn w0.heap.size 65 2 v3 d.tl (wasV d.W)) (own_le hO3 hsz3) (fun i hi hg => by have h1 := hO3.lt _ hg; have h2 := hlt3 i hi; omega)
        refine dr_any [12] (by kernel_rfl) (by kernel_rfl) rfl (na1 ?_)
        · refine have hap := (D.S.fs (rfOwn w0.heap.size 65 2 v3 d.tl (wasV d.W)) (by simp)).2; have hsz12 := D.S.gr.size; nx_appO 12 w0.heap.size [rfSt d.b d.o d.S] D (by kernel_rfl) (u := .v v3) (y := .s 2 0 1 1) (t := 26) (e := 65) (v := v3) (n := d.tl) (ad := adr _ 2 0) (m := 1) (cp := 1) (size := 2) (bytes := 24) (xs := wasV d.W) (news := [.int .i64 (j : Int), .string (d.S.getD j ByteArray.empty)]) (by kernel_rfl) Try.underlying26 hiw1 hiw2 hiw3 hiw4 rfl (by omega) rfl rfl (D.S.fact (f := (rfOwn w0.heap.size 65 2 v3 d.tl (wasV d.W))) (by simp)) hsz12 (own2 (P := Try.prog) (ty := 65) (cs := [.int .i64 (j : Int), .string (d.S.getD j ByteArray.empty)]) D.S (by kernel_rfl)) rfl (by intro u hu; simp only [List.mem_cons, List.not_mem_nil, or_false] at hu; rcases hu with rfl | rfl <;> rfl) (by simp only [maxLen]; omega) (by omega) (fun g hg => Or.inr ((D.S.fact (f := (rfOwn w0.heap.size 65 2 v3 d.tl (wasV d.W))) (by simp)).lt g hg).1) (fun f hf => by have e : f = rfSt d.b d.o d.S := List.mem_singleton.1 hf; subst e; exact ⟨by simp, fun g hg hb => by have h1 := ((D.S.fact (f := (rfOwn w0.heap.size 65 2 v3 d.tl (wasV d.W))) (by simp)).lt g hg).1; have h2 : g = d.b := hb.1; omega⟩) (fun f hf => hf) (fun i hi hb => hap i hi hb) fun v' aa w2 hO hg12 hnn hlt D => ?_
          rcases hO.2 with ⟨_, q⟩ | ⟨g2, cap2, cur2, rfl, gb2, hg2, hn2, hm2, hs2, ht2⟩
          · omega
          have D := D.addF (rfBox g2 65 cur2.toList) (by show _ = some (Obj.cells cur2.toList.toArray 65 (0, 0)); simpa using hg2) (fun i hi he => by have h2 : _ = g2 := he; rcases hnn g2 rfl with q | q; exact hap i hi (by rw [h2]; exact q); have h1 := hlt i hi; omega)
          refine dr_end D (by kernel_rfl) fun S => ?_
          have S := S.sub (F' := [rfBox g2 65 cur2.toList, rfSt d.b d.o d.S]) (by intro f hf; simp only [List.mem_cons, List.not_mem_nil, or_false] at hf; rcases hf with rfl | rfl <;> simp)
          have S' := S.to [0, 1] (rwS d j s g2 cap2) (by kernel_rfl) (by kernel_rfl) (by kernel_rfl) (by kernel_rfl) (by kernel_rfl)
          refine sy_at2 (k' := rwC) (by kernel_rfl) ?_
          exact rw_2 w0 d hd hl6 j hj s hs g2 cap2 cur2 hn2 (by rw [wasV_app]; exact ht2) (by omega) (by simp only [maxLen] at hm2; exact hm2) _ _ _ _ S'
  · refine nx_op 11 D (by kernel_rfl) (Nat.le_refl _) (by kernel_rfl) (by kernel_rfl) fun bs aa w D hl => ?_
    refine dr_any [0] (by kernel_rfl) (by kernel_rfl) rfl (na1 ?_)
    · refine nx_exB 0 (op := .buildSlice 26 0 #[]) (ty := 26) D (by kernel_rfl) (by kernel_rfl) (ex_bs0 (e := 65) Try.underlying26 (by kernel_rfl)) fun v0 aa w1 hv0 hb0 hlt0 D => ?_
      obtain ⟨gz, rfl, hgz, hv1, hv2⟩ := hv0
      refine dr_any [3] (by kernel_rfl) (by kernel_rfl) rfl (na1 ?_)
      · refine have hsz3 := D.S.gr.size; have hlt3' := fun i hi => D.S.lt (i := i) hi; nx_exB 3 (op := .call { callee := .builtin .append, args := #[.tmp 24, .tmp 26], argTypes := #[26, 26] }) (ty := 26) D (by kernel_rfl) (by kernel_rfl) (ex_appN (e := 65) (b := some ⟨gz, 0, none⟩) (ad := ⟨d.c, d.p, none⟩) (m := d.tl) (cp := d.tc) (size := 2) (bytes := 24) (news := wasV d.W) Try.underlying26 hiw1 hiw2 hiw3 hiw4 rfl (by kernel_rfl) rfl (by rw [← eta]; kernel_rfl) (by omega) (fun k v hv => by rw [addr_addS]; exact wasV_at (D.S.fact (f := rfWs d.c d.p d.W) (by simp)) k v hv) (by rw [wasV_len, hd.hW]) (by omega) (by omega)) fun v3 aa w3 hO3 hb3 hlt3 D => ?_
        have D := D.addF (rfOwn w0.heap.size 65 2 v3 d.tl (wasV d.W)) (own_le hO3 hsz3) (fun i hi hg => by have h1 := hO3.lt _ hg; have h2 := hlt3 i hi; omega)
        refine dr_any [12] (by kernel_rfl) (by kernel_rfl) rfl (na1 ?_)
        · refine have hap := (D.S.fs (rfOwn w0.heap.size 65 2 v3 d.tl (wasV d.W)) (by simp)).2; have hsz12 := D.S.gr.size; nx_appO 12 w0.heap.size [rfSt d.b d.o d.S] D (by kernel_rfl) (u := .v v3) (y := .s 2 0 1 1) (t := 26) (e := 65) (v := v3) (n := d.tl) (ad := adr _ 2 0) (m := 1) (cp := 1) (size := 2) (bytes := 24) (xs := wasV d.W) (news := [.int .i64 (j : Int), .string (d.S.getD j ByteArray.empty)]) (by kernel_rfl) Try.underlying26 hiw1 hiw2 hiw3 hiw4 rfl (by omega) rfl rfl (D.S.fact (f := (rfOwn w0.heap.size 65 2 v3 d.tl (wasV d.W))) (by simp)) hsz12 (own2 (P := Try.prog) (ty := 65) (cs := [.int .i64 (j : Int), .string (d.S.getD j ByteArray.empty)]) D.S (by kernel_rfl)) rfl (by intro u hu; simp only [List.mem_cons, List.not_mem_nil, or_false] at hu; rcases hu with rfl | rfl <;> rfl) (by simp only [maxLen]; omega) (by omega) (fun g hg => Or.inr ((D.S.fact (f := (rfOwn w0.heap.size 65 2 v3 d.tl (wasV d.W))) (by simp)).lt g hg).1) (fun f hf => by have e : f = rfSt d.b d.o d.S := List.mem_singleton.1 hf; subst e; exact ⟨by simp, fun g hg hb => by have h1 := ((D.S.fact (f := (rfOwn w0.heap.size 65 2 v3 d.tl (wasV d.W))) (by simp)).lt g hg).1; have h2 : g = d.b := hb.1; omega⟩) (fun f hf => hf) (fun i hi hb => hap i hi hb) fun v' aa w2 hO hg12 hnn hlt D => ?_
          rcases hO.2 with ⟨_, q⟩ | ⟨g2, cap2, cur2, rfl, gb2, hg2, hn2, hm2, hs2, ht2⟩
          · omega
          have D := D.addF (rfBox g2 65 cur2.toList) (by show _ = some (Obj.cells cur2.toList.toArray 65 (0, 0)); simpa using hg2) (fun i hi he => by have h2 : _ = g2 := he; rcases hnn g2 rfl with q | q; exact hap i hi (by rw [h2]; exact q); have h1 := hlt i hi; omega)
          refine dr_end D (by kernel_rfl) fun S => ?_
          have S := S.sub (F' := [rfBox g2 65 cur2.toList, rfSt d.b d.o d.S]) (by intro f hf; simp only [List.mem_cons, List.not_mem_nil, or_false] at hf; rcases hf with rfl | rfl <;> simp)
          have S' := S.to [0, 1] (rwS d j s g2 cap2) (by kernel_rfl) (by kernel_rfl) (by kernel_rfl) (by kernel_rfl) (by kernel_rfl)
          refine sy_at2 (k' := rwC) (by kernel_rfl) ?_
          exact rw_2 w0 d hd hl6 j hj s hs g2 cap2 cur2 hn2 (by rw [wasV_app]; exact ht2) (by omega) (by simp only [maxLen] at hm2; exact hm2) _ _ _ _ S'
theorem rwrite_t (w0 : World) (d : Dk) (hd : d.ok) (hl6 : d.tl ≤ 60) (j : Nat) (hj : j < d.sl) (s : ByteArray) (hs : s.size = 32) (htn : d.ta = none → d.tc = 0) (hA : StrAt w0 d.b d.o d.S) (hB : WasAt w0 d.c d.p d.W) : Calls Try.prog 23 #[d.v, .int .i64 (j : Int), .string s] w0 fun e w' => ∃ d' : Dk, e = .returned (.tuple #[d'.v, .int .i64 0]) ∧ Dev w0.heap.size w' d' (d.S.set j s) (d.W ++ [((j : Int), (d.S.getD j ByteArray.empty))]) ∧ Below w0.heap.size w0 w' := by
  by_cases h0 : d.tl = 0
  · exact rwrite0 w0 d hd htn h0 j hj s hs hA hB
  · exact rwrite1 w0 d hd hl6 j hj s hs (by omega) hA hB
end Go.Proofs.Ytekcjffdooekaaa


/-
  Layer 22: new devices.
-/
namespace Go.Proofs.Ytekcjffdooekaaa
open Go Go.RowKit SZ
set_option linter.unusedVariables false
set_option linter.unusedSimpArgs false
set_option maxRecDepth 100000
attribute [local irreducible] post GD Nxt NxtAll
noncomputable def rn1 : Cfg := ⟨goZ 60 [0] [.code (bodyOf Try.f13)], ⟨0, [], []⟩⟩
noncomputable def rnS (n j : Nat) (ga : Option Addr) (gc : Nat) : SS := ⟨26, [(0, .v (.int .i64 (n : Int))), (2, .p 0 0), (4, .p 1 0), (5, .v (.int .i64 (j : Int)))], [⟨28, [.slice none 0 0, .slice none 0 0]⟩, ⟨28, [.slice ga j gc, .slice none 0 0]⟩]⟩
set_option maxHeartbeats 8000000 in
theorem rn_e (w0 : World) (n : Nat) (hn : n ≤ 512) (m : Nat) (ga : Option Addr) (gc : Nat) (hgn : ga = none → gc = 0) (x0 x1 : Nat) (aa : Act) (w : World) (S : Sy w0 [] [x0, x1] (rnS n (n) ga gc) [(rfOwn w0.heap.size 9 1 (.slice ga (n) gc) (n) (List.replicate (n) (Value.string z32)))] aa w) : post Try.prog (.rnd (m + 1) (bodyL rn1) :: rn1.k.tail) (bodyPost Try.prog Try.f13 fun e w' => ∃ d' : Dk, e = .returned (.tuple #[d'.v, .int .i64 0]) ∧ Dev w0.heap.size w' d' (List.replicate n z32) [] ∧ Below w0.heap.size w0 w') .normal aa w := by
  refine sy_run (c := ⟨(.rnd (m + 1) (bodyL rn1) :: rn1.k.tail), rnS n n ga gc⟩) ⟨0, [5]⟩ 50 S fun bs aa w S => ?_
  refine sy_reg S fun S => ?_
  refine sy_ops 3 S fun bs aa w S => ?_
  refine sy_cast 16 S (congrArg Value.bool (decide_eq_false (by omega) : decide ((n : Int) < (n : Int)) = false)) (by kernel_rfl) fun S => ?_
  refine sy_run ⟨0, []⟩ 60 S fun bs aa w S => ?_
  have hO := S.fact (f := (rfOwn w0.heap.size 9 1 (.slice ga (n) gc) (n) (List.replicate (n) (Value.string z32)))) (by simp)
  rcases hO.2 with ⟨hv, q⟩ | ⟨g, cap, cur, hv, hg0, hgc, hnc, hcm, hcs, htk⟩
  · simp only [Value.slice.injEq] at hv
    obtain ⟨rfl, rfl, rfl⟩ := hv
    exact sy_ret S (by kernel_rfl) (by kernel_rfl) fun hg => ⟨⟨none, 0, 0, none, 0, 0, 0, 0, 0, 0, [], []⟩, rfl, ⟨⟨rfl, Or.inl rfl, rfl, Or.inl rfl, Or.inl ⟨rfl, rfl, rfl⟩, Nat.zero_le _, fun _ => rfl⟩, rfl, rfl, fun j hj => absurd hj (Nat.not_lt_zero _), fun j hj => absurd hj (Nat.not_lt_zero _), Or.inl rfl, Or.inl rfl⟩, bel_gr hg⟩
  · simp only [Value.slice.injEq] at hv
    obtain ⟨rfl, _, rfl⟩ := hv
    exact sy_ret S (by kernel_rfl) (by kernel_rfl) fun hg => ⟨⟨some ⟨g, 0, none⟩, n, gc, none, 0, 0, g, 0, 0, 0, List.replicate n z32, []⟩, rfl, ⟨⟨by simp, Or.inr rfl, rfl, Or.inl rfl, Or.inl ⟨rfl, rfl, rfl⟩, Nat.zero_le _, fun h => by cases h⟩, rfl, rfl, strAt_of (n := n) (cs := cur.toList) (by simpa using hgc) (by rw [Nat.mul_one] at htk; rw [htk, List.map_replicate]), fun j hj => absurd hj (Nat.not_lt_zero _), Or.inr hg0, Or.inl rfl⟩, bel_gr hg⟩
set_option maxHeartbeats 8000000 in
theorem rn_s (w0 : World) (n : Nat) (hn : n ≤ 512) (m j : Nat) (hj : j < n) (ih : ∀ (ga : Option Addr) (gc : Nat) (hgn : ga = none → gc = 0) (x0 x1 : Nat) (aa : Act) (w : World) (S : Sy w0 [] [x0, x1] (rnS n (j + 1) ga gc) [(rfOwn w0.heap.size 9 1 (.slice ga (j + 1) gc) (j + 1) (List.replicate (j + 1) (Value.string z32)))] aa w), post Try.prog (.rnd (m) (bodyL rn1) :: rn1.k.tail) (bodyPost Try.prog Try.f13 fun e w' => ∃ d' : Dk, e = .returned (.tuple #[d'.v, .int .i64 0]) ∧ Dev w0.heap.size w' d' (List.replicate n z32) [] ∧ Below w0.heap.size w0 w') .normal aa w) (ga : Option Addr) (gc : Nat) (hgn : ga = none → gc = 0) (x0 x1 : Nat) (aa : Act) (w : World) (S : Sy w0 [] [x0, x1] (rnS n (j) ga gc) [(rfOwn w0.heap.size 9 1 (.slice ga (j) gc) (j) (List.replicate (j) (Value.string z32)))] aa w) : post Try.prog (.rnd (m + 1) (bodyL rn1) :: rn1.k.tail) (bodyPost Try.prog Try.f13 fun e w' => ∃ d' : Dk, e = .returned (.tuple #[d'.v, .int .i64 0]) ∧ Dev w0.heap.size w' d' (List.replicate n z32) [] ∧ Below w0.heap.size w0 w') .normal aa w := by
  have hIs : (Try.prog.info? 9).map (fun i => (i.zero, i.size, i.bytes)) = some (some (.string ByteArray.empty), 1, 16) := by kernel_rfl
  obtain ⟨iis, his1, his2, his3, his4⟩ : ∃ ii, Try.prog.info? 9 = some ii ∧ ii.zero = some (.string ByteArray.empty) ∧ ii.size = 1 ∧ ii.bytes = 16 := by
    cases hi : Try.prog.info? 9 with
    | none => rw [hi] at hIs; cases hIs
    | some i =>
      rw [hi] at hIs
      simp only [Option.map_some, Option.some.injEq, Prod.mk.injEq] at hIs
      exact ⟨i, rfl, hIs.1, hIs.2.1, hIs.2.2⟩
  refine sy_run (c := ⟨(.rnd (m + 1) (bodyL rn1) :: rn1.k.tail), rnS n j ga gc⟩) ⟨0, [5]⟩ 50 S fun bs aa w S => ?_
  refine sy_reg S fun S => ?_
  refine sy_ops 3 S fun bs aa w S => ?_
  refine sy_cast 16 S (congrArg Value.bool (decide_eq_true (by omega) : decide ((j : Int) < (n : Int)) = true)) (by kernel_rfl) fun S => ?_
  refine sy_run ⟨0, []⟩ 60 S fun bs aa w S => ?_
  refine dr_enter [] (by kernel_rfl) (by kernel_rfl) S (by kernel_rfl) (fun aa w D => ?_)
  refine dr_any [1, 2] (by kernel_rfl) (by kernel_rfl) rfl (na2 ?_ ?_)
  · refine nx_op 1 D (by kernel_rfl) (Nat.le_refl _) (by kernel_rfl) (by kernel_rfl) fun bs aa w D hl => ?_
    refine dr_any [2] (by kernel_rfl) (by kernel_rfl) rfl (na1 ?_)
    · refine nx_call1 2 D (by kernel_rfl) (noughts_32 w) (by kernel_rfl) fun aa w D => ?_
      refine dr_any [3] (by kernel_rfl) (by kernel_rfl) rfl (na1 ?_)
      · refine nx_op 3 D (by kernel_rfl) hl (by kernel_rfl) (by kernel_rfl) fun bs aa w D hl => ?_
        refine dr_any [4] (by kernel_rfl) (by kernel_rfl) rfl (na1 ?_)
        · refine have hO0 := D.S.fact (f := (rfOwn w0.heap.size 9 1 (.slice ga (j) gc) (j) (List.replicate (j) (Value.string z32)))) (by simp); have hap := (D.S.fs (rfOwn w0.heap.size 9 1 (.slice ga (j) gc) (j) (List.replicate (j) (Value.string z32))) (by simp)).2; have hsz := D.S.gr.size; nx_appO 4 w0.heap.size [] D (by kernel_rfl) (u := .v (.slice ga j gc)) (y := .s 2 0 1 1) (t := 25) (e := 9) (v := .slice ga j gc) (n := j) (ad := adr _ 2 0) (m := 1) (cp := 1) (size := 1) (bytes := 16) (xs := (List.replicate (j) (Value.string z32))) (news := [.string z32]) (by kernel_rfl) Try.underlying25 his1 his2 his3 his4 rfl (by omega) rfl rfl hO0 hsz (own2 (P := Try.prog) (ty := 9) (cs := [.string z32]) D.S (by kernel_rfl)) rfl (by intro u hu; simp only [List.mem_singleton] at hu; subst hu; rfl) (by simp only [maxLen]; omega) (by omega) (fun g hg => Or.inr (hO0.lt g hg).1) (fun f hf => by cases hf) (fun f hf => absurd hf List.not_mem_nil) (fun i hi hb => hap i hi hb) fun v' aa w2 hO hg12 hnn hlt D => ?_
          obtain ⟨ga2, gc2, hgn2, rfl⟩ : ∃ ga2 gc2, (ga2 = none → gc2 = 0) ∧ v' = .slice ga2 (j + 1) gc2 := by
            rcases hO.2 with ⟨_, q⟩ | ⟨g2, cap2, cur2, rfl, _⟩
            · omega
            · exact ⟨some ⟨g2, 0, none⟩, cap2, (fun h => by cases h), rfl⟩
          have D := D.addF (rfOwn w0.heap.size 9 1 (.slice ga2 (j + 1) gc2) (j + 1) (List.replicate (j + 1) (Value.string z32))) (by show World.ownsRow _ _ _ _ _ _ _; rw [List.replicate_succ']; exact hO) (fun i hi hb => by rcases hnn _ hb with q | q; exact hap i hi q; have h1 := hlt i hi; omega)
          refine dr_any [6] (by kernel_rfl) (by kernel_rfl) rfl (na1 ?_)
          · refine nx_op 6 D (by kernel_rfl) hl (by kernel_rfl) (by kernel_rfl) fun bs aa w D hl => ?_
            refine dr_end D (by kernel_rfl) fun S => ?_
            refine sy_run ⟨0, [6]⟩ 60 S fun bs aa w S => ?_
            refine sy_reg S fun S => ?_
            refine sy_ops 2 S fun bs aa w S => ?_
            refine sy_cast 18 S (congrArg (Value.int .i64) (by rw [IntKind.wrap_i64]; omega : IntKind.i64.wrap ((j : Int) + 1) = ((j + 1 : Nat) : Int))) (by kernel_rfl) fun S => ?_
            refine sy_run ⟨0, [999]⟩ 50 S fun bs aa w S => ?_
            have S := S.sub (F' := [(rfOwn w0.heap.size 9 1 (.slice ga2 (j + 1) gc2) (j + 1) (List.replicate (j + 1) (Value.string z32)))]) (by intro f hf; simp only [List.mem_singleton] at hf; subst hf; simp)
            have S2 := S.to [0, 1] (rnS n (j + 1) ga2 gc2) (by kernel_rfl) (by kernel_rfl) (by kernel_rfl) (by kernel_rfl) (by kernel_rfl)
            refine sy_at2 (k' := (.rnd (m) (bodyL rn1) :: rn1.k.tail)) (by kernel_rfl) ?_
            exact ih ga2 gc2 hgn2 _ _ aa w S2
  · refine nx_call1 2 D (by kernel_rfl) (noughts_32 w) (by kernel_rfl) fun aa w D => ?_
    refine dr_any [1, 3] (by kernel_rfl) (by kernel_rfl) rfl (na2 ?_ ?_)
    · refine nx_op 1 D (by kernel_rfl) (Nat.le_refl _) (by kernel_rfl) (by kernel_rfl) fun bs aa w D hl => ?_
      refine dr_any [3] (by kernel_rfl) (by kernel_rfl) rfl (na1 ?_)
      · refine nx_op 3 D (by kernel_rfl) hl (by kernel_rfl) (by kernel_rfl) fun bs aa w D hl => ?_
        refine dr_any [4] (by kernel_rfl) (by kernel_rfl) rfl (na1 ?_)
        · refine have hO0 := D.S.fact (f := (rfOwn w0.heap.size 9 1 (.slice ga (j) gc) (j) (List.replicate (j) (Value.string z32)))) (by simp); have hap := (D.S.fs (rfOwn w0.heap.size 9 1 (.slice ga (j) gc) (j) (List.replicate (j) (Value.string z32))) (by simp)).2; have hsz := D.S.gr.size; nx_appO 4 w0.heap.size [] D (by kernel_rfl) (u := .v (.slice ga j gc)) (y := .s 2 0 1 1) (t := 25) (e := 9) (v := .slice ga j gc) (n := j) (ad := adr _ 2 0) (m := 1) (cp := 1) (size := 1) (bytes := 16) (xs := (List.replicate (j) (Value.string z32))) (news := [.string z32]) (by kernel_rfl) Try.underlying25 his1 his2 his3 his4 rfl (by omega) rfl rfl hO0 hsz (own2 (P := Try.prog) (ty := 9) (cs := [.string z32]) D.S (by kernel_rfl)) rfl (by intro u hu; simp only [List.mem_singleton] at hu; subst hu; rfl) (by simp only [maxLen]; omega) (by omega) (fun g hg => Or.inr (hO0.lt g hg).1) (fun f hf => by cases hf) (fun f hf => absurd hf List.not_mem_nil) (fun i hi hb => hap i hi hb) fun v' aa w2 hO hg12 hnn hlt D => ?_
          obtain ⟨ga2, gc2, hgn2, rfl⟩ : ∃ ga2 gc2, (ga2 = none → gc2 = 0) ∧ v' = .slice ga2 (j + 1) gc2 := by
            rcases hO.2 with ⟨_, q⟩ | ⟨g2, cap2, cur2, rfl, _⟩
            · omega
            · exact ⟨some ⟨g2, 0, none⟩, cap2, (fun h => by cases h), rfl⟩
          have D := D.addF (rfOwn w0.heap.size 9 1 (.slice ga2 (j + 1) gc2) (j + 1) (List.replicate (j + 1) (Value.string z32))) (by show World.ownsRow _ _ _ _ _ _ _; rw [List.replicate_succ']; exact hO) (fun i hi hb => by rcases hnn _ hb with q | q; exact hap i hi q; have h1 := hlt i hi; omega)
          refine dr_any [6] (by kernel_rfl) (by kernel_rfl) rfl (na1 ?_)
          · refine nx_op 6 D (by kernel_rfl) hl (by kernel_rfl) (by kernel_rfl) fun bs aa w D hl => ?_
            refine dr_end D (by kernel_rfl) fun S => ?_
            refine sy_run ⟨0, [6]⟩ 60 S fun bs aa w S => ?_
            refine sy_reg S fun S => ?_
            refine sy_ops 2 S fun bs aa w S => ?_
            refine sy_cast 18 S (congrArg (Value.int .i64) (by rw [IntKind.wrap_i64]; omega : IntKind.i64.wrap ((j : Int) + 1) = ((j + 1 : Nat) : Int))) (by kernel_rfl) fun S => ?_
            refine sy_run ⟨0, [999]⟩ 50 S fun bs aa w S => ?_
            have S := S.sub (F' := [(rfOwn w0.heap.size 9 1 (.slice ga2 (j + 1) gc2) (j + 1) (List.replicate (j + 1) (Value.string z32)))]) (by intro f hf; simp only [List.mem_singleton] at hf; subst hf; simp)
            have S2 := S.to [0, 1] (rnS n (j + 1) ga2 gc2) (by kernel_rfl) (by kernel_rfl) (by kernel_rfl) (by kernel_rfl) (by kernel_rfl)
            refine sy_at2 (k' := (.rnd (m) (bodyL rn1) :: rn1.k.tail)) (by kernel_rfl) ?_
            exact ih ga2 gc2 hgn2 _ _ aa w S2
    · refine nx_op 3 D (by kernel_rfl) (Nat.le_refl _) (by kernel_rfl) (by kernel_rfl) fun bs aa w D hl => ?_
      refine dr_any [1] (by kernel_rfl) (by kernel_rfl) rfl (na1 ?_)
      · refine nx_op 1 D (by kernel_rfl) hl (by kernel_rfl) (by kernel_rfl) fun bs aa w D hl => ?_
        refine dr_any [4] (by kernel_rfl) (by kernel_rfl) rfl (na1 ?_)
        · refine have hO0 := D.S.fact (f := (rfOwn w0.heap.size 9 1 (.slice ga (j) gc) (j) (List.replicate (j) (Value.string z32)))) (by simp); have hap := (D.S.fs (rfOwn w0.heap.size 9 1 (.slice ga (j) gc) (j) (List.replicate (j) (Value.string z32))) (by simp)).2; have hsz := D.S.gr.size; nx_appO 4 w0.heap.size [] D (by kernel_rfl) (u := .v (.slice ga j gc)) (y := .s 2 0 1 1) (t := 25) (e := 9) (v := .slice ga j gc) (n := j) (ad := adr _ 2 0) (m := 1) (cp := 1) (size := 1) (bytes := 16) (xs := (List.replicate (j) (Value.string z32))) (news := [.string z32]) (by kernel_rfl) Try.underlying25 his1 his2 his3 his4 rfl (by omega) rfl rfl hO0 hsz (own2 (P := Try.prog) (ty := 9) (cs := [.string z32]) D.S (by kernel_rfl)) rfl (by intro u hu; simp only [List.mem_singleton] at hu; subst hu; rfl) (by simp only [maxLen]; omega) (by omega) (fun g hg => Or.inr (hO0.lt g hg).1) (fun f hf => by cases hf) (fun f hf => absurd hf List.not_mem_nil) (fun i hi hb => hap i hi hb) fun v' aa w2 hO hg12 hnn hlt D => ?_
          obtain ⟨ga2, gc2, hgn2, rfl⟩ : ∃ ga2 gc2, (ga2 = none → gc2 = 0) ∧ v' = .slice ga2 (j + 1) gc2 := by
            rcases hO.2 with ⟨_, q⟩ | ⟨g2, cap2, cur2, rfl, _⟩
            · omega
            · exact ⟨some ⟨g2, 0, none⟩, cap2, (fun h => by cases h), rfl⟩
          have D := D.addF (rfOwn w0.heap.size 9 1 (.slice ga2 (j + 1) gc2) (j + 1) (List.replicate (j + 1) (Value.string z32))) (by show World.ownsRow _ _ _ _ _ _ _; rw [List.replicate_succ']; exact hO) (fun i hi hb => by rcases hnn _ hb with q | q; exact hap i hi q; have h1 := hlt i hi; omega)
          refine dr_any [6] (by kernel_rfl) (by kernel_rfl) rfl (na1 ?_)
          · refine nx_op 6 D (by kernel_rfl) hl (by kernel_rfl) (by kernel_rfl) fun bs aa w D hl => ?_
            refine dr_end D (by kernel_rfl) fun S => ?_
            refine sy_run ⟨0, [6]⟩ 60 S fun bs aa w S => ?_
            refine sy_reg S fun S => ?_
            refine sy_ops 2 S fun bs aa w S => ?_
            refine sy_cast 18 S (congrArg (Value.int .i64) (by rw [IntKind.wrap_i64]; omega : IntKind.i64.wrap ((j : Int) + 1) = ((j + 1 : Nat) : Int))) (by kernel_rfl) fun S => ?_
            refine sy_run ⟨0, [999]⟩ 50 S fun bs aa w S => ?_
            have S := S.sub (F' := [(rfOwn w0.heap.size 9 1 (.slice ga2 (j + 1) gc2) (j + 1) (List.replicate (j + 1) (Value.string z32)))]) (by intro f hf; simp only [List.mem_singleton] at hf; subst hf; simp)
            have S2 := S.to [0, 1] (rnS n (j + 1) ga2 gc2) (by kernel_rfl) (by kernel_rfl) (by kernel_rfl) (by kernel_rfl) (by kernel_rfl)
            refine sy_at2 (k' := (.rnd (m) (bodyL rn1) :: rn1.k.tail)) (by kernel_rfl) ?_
            exact ih ga2 gc2 hgn2 _ _ aa w S2
theorem rn_a (w0 : World) (n : Nat) (hn : n ≤ 512) : ∀ (r j : Nat), j + r = n → ∀ (ga : Option Addr) (gc : Nat) (hgn : ga = none → gc = 0) (x0 x1 : Nat) (aa : Act) (w : World) (S : Sy w0 [] [x0, x1] (rnS n (j) ga gc) [(rfOwn w0.heap.size 9 1 (.slice ga (j) gc) (j) (List.replicate (j) (Value.string z32)))] aa w), post Try.prog (.rnd (r + 1) (bodyL rn1) :: rn1.k.tail) (bodyPost Try.prog Try.f13 fun e w' => ∃ d' : Dk, e = .returned (.tuple #[d'.v, .int .i64 0]) ∧ Dev w0.heap.size w' d' (List.replicate n z32) [] ∧ Below w0.heap.size w0 w') .normal aa w := by
  intro r
  induction r with
  | zero => intro j hj ga gc hgn x0 x1 aa w S; obtain rfl : j = n := by omega
            exact rn_e w0 j hn 0 ga gc hgn x0 x1 aa w S
  | succ r ih => intro j hj ga gc hgn x0 x1 aa w S; exact rn_s w0 n hn (r + 1) j (by omega) (ih (j + 1) (by omega)) ga gc hgn x0 x1 aa w S
set_option maxHeartbeats 8000000 in
theorem rnew_t (w0 : World) (n : Nat) (hn : n ≤ 512) : Calls Try.prog 13 #[.int .i64 (n : Int)] w0 fun e w' => ∃ d' : Dk, e = .returned (.tuple #[d'.v, .int .i64 0]) ∧ Dev w0.heap.size w' d' (List.replicate n z32) [] ∧ Below w0.heap.size w0 w' := by
  refine sy_enterF [] [] (by intro f hf; cases hf) Try.func13 rfl rfl fun aa S => ?_
  refine sy_run ⟨0, [1]⟩ 60 S fun bs aa w S => ?_
  refine sy_reg S fun S => ?_
  refine sy_ops 2 S fun bs aa w S => ?_
  refine sy_cast 7 S (congrArg Value.bool (decide_eq_false (by omega) : decide ((n : Int) < 0) = false)) (by kernel_rfl) fun S => ?_
  refine sy_ops 3 S fun bs aa w S => ?_
  refine sy_cast 10 S (congrArg Value.bool (decide_eq_false (by omega) : decide ((n : Int) > 512) = false)) (by kernel_rfl) fun S => ?_
  refine sy_run ⟨0, []⟩ 60 S fun bs aa w S => ?_
  have S := S.add (rfOwn w0.heap.size 9 1 (.slice none (0) 0) (0) (List.replicate (0) (Value.string z32))) (World.ownsRow_nil _ _ _ _) (fun i hi h => by cases h)
  have S2 := S.to [0, 1] (rnS n 0 none 0) (by kernel_rfl) (by kernel_rfl) (by kernel_rfl) (by kernel_rfl) (by kernel_rfl)
  refine sy_loop (n + 1) (by kernel_rfl) ?_
  refine sy_at2 (k' := (.rnd (n + 1) (bodyL rn1) :: rn1.k.tail)) (by kernel_rfl) ?_
  exact rn_a w0 n hn n 0 (by omega) none 0 (fun _ => rfl) _ _ aa w S2
end Go.Proofs.Ytekcjffdooekaaa


/-
  Layer 22: the reference's crash: its parts, and that it is the program's.
-/
namespace Go.Proofs.Ytekcjffdooekaaa
open Go Go.RowKit SZ
set_option linter.unusedVariables false
set_option linter.unusedSimpArgs false
set_option maxRecDepth 100000
attribute [local irreducible] post GD Nxt NxtAll
/-- The first write to a sector, from a place on. -/
def fd (W : List (Int × ByteArray)) (z : ByteArray) (a : Int) : Nat → Nat → ByteArray
  | 0, _ => z
  | r + 1, k => if (W.getD k (0, ByteArray.empty)).1 = a then (W.getD k (0, ByteArray.empty)).2 else fd W z a r (k + 1)
def synB (d : Dk) (a : Nat) : ByteArray := fd d.W (d.S.getD a ByteArray.empty) (a : Int) d.tl 0
def putB (d : Dk) (i : Nat) : ByteArray := fd d.W (d.S.getD (d.W.getD i (0, ByteArray.empty)).1.toNat ByteArray.empty) (d.W.getD i (0, ByteArray.empty)).1 (d.tl - (i + 1)) (i + 1)
def SYN (d : Dk) : List ByteArray := (List.range d.sl).map (synB d)
def PUT (d : Dk) : List ByteArray := (List.range d.tl).map (putB d)
theorem SYN_len (d : Dk) : (SYN d).length = d.sl := by simp [SYN]
theorem PUT_len (d : Dk) : (PUT d).length = d.tl := by simp [PUT]
theorem SYN_at (d : Dk) (a : Nat) (ha : a < d.sl) : (SYN d).getD a ByteArray.empty = synB d a := by simp [SYN, List.getD, ha]
theorem PUT_at (d : Dk) (i : Nat) (hi : i < d.tl) : (PUT d).getD i ByteArray.empty = putB d i := by simp [PUT, List.getD, hi]
theorem un_is (d : Dk) (hr : d.right) : ∀ (m : Nat) (T Dt : List ByteArray), m ≤ d.tl → T.length = d.sl → (∀ a, a < d.sl → T.getD a ByteArray.empty = fd d.W (d.S.getD a ByteArray.empty) (a : Int) (d.tl - m) m) → Dt.length = d.tl → (∀ j, m ≤ j → j < d.tl → Dt.getD j ByteArray.empty = putB d j) →
    (unA d.W m (T, Dt)).1.length = d.sl ∧ (∀ a, a < d.sl → (unA d.W m (T, Dt)).1.getD a ByteArray.empty = synB d a) ∧ (unA d.W m (T, Dt)).2.length = d.tl ∧ ∀ j, j < d.tl → (unA d.W m (T, Dt)).2.getD j ByteArray.empty = putB d j
  | 0, T, Dt, _, hT, h1, hD, h2 => ⟨hT, fun a ha => by have := h1 a ha; simpa [synB, unA] using this, hD, fun j hj => h2 j (Nat.zero_le _) hj⟩
  | m + 1, T, Dt, hm, hT, h1, hD, h2 => by
    have hx := (hr.w m (by omega)).1
    obtain ⟨x, hxe⟩ : ∃ x : Nat, (d.W.getD m (0, ByteArray.empty)).1 = (x : Int) := ⟨(d.W.getD m (0, ByteArray.empty)).1.toNat, (Int.toNat_of_nonneg hx.1).symm⟩
    have hxl : x < d.sl := by omega
    have hxn : (d.W.getD m (0, ByteArray.empty)).1.toNat = x := by omega
    have e0 : unA d.W (m + 1) (T, Dt) = unA d.W m (T.set x (d.W.getD m (0, ByteArray.empty)).2, Dt.set m (T.getD x ByteArray.empty)) := by
      show unA d.W m (T.set (d.W.getD m (0, ByteArray.empty)).1.toNat _, Dt.set m (T.getD (d.W.getD m (0, ByteArray.empty)).1.toNat ByteArray.empty)) = _
      rw [hxn]
    rw [e0]
    refine un_is d hr m (T.set x (d.W.getD m (0, ByteArray.empty)).2) (Dt.set m (T.getD x ByteArray.empty)) (by omega) (by rw [List.length_set]; exact hT) (fun a ha => ?_) (by rw [List.length_set]; exact hD) (fun j hj hjl => ?_)
    · rw [show d.tl - m = (d.tl - (m + 1)) + 1 by omega]
      show _ = if (d.W.getD m (0, ByteArray.empty)).1 = (a : Int) then (d.W.getD m (0, ByteArray.empty)).2 else fd d.W (d.S.getD a ByteArray.empty) (a : Int) (d.tl - (m + 1)) (m + 1)
      by_cases e : x = a
      · subst e
        rw [if_pos hxe, gset_eq _ _ _ _ (by omega)]
      · rw [if_neg (by omega), gset_ne _ _ _ _ _ e]
        exact h1 a ha
    · by_cases e : m = j
      · subst e
        rw [gset_eq _ _ _ _ (by omega), h1 x hxl]
        unfold putB
        rw [hxe, Int.toNat_natCast]
      · rw [gset_ne _ _ _ _ _ e]
        exact h2 j (by omega) hjl
theorem crA_congr (W : List (Int × ByteArray)) (cs : List Int) (Dt Dt' : List ByteArray) : ∀ (m : Nat) (S : List ByteArray), (∀ j, j < m → Dt.getD j ByteArray.empty = Dt'.getD j ByteArray.empty) → crA W cs Dt m S = crA W cs Dt' m S
  | 0, S, _ => rfl
  | m + 1, S, h => by
    show crJ W cs Dt m (crA W cs Dt m S) = crJ W cs Dt' m (crA W cs Dt' m S)
    rw [crA_congr W cs Dt Dt' m S fun j hj => h j (by omega)]
    unfold crJ
    rw [h m (Nat.lt_succ_self _)]
theorem crS_ref (d : Dk) (hd : d.ok) (hr : d.right) (cs : List Int) : crS d cs = crA d.W cs (PUT d) d.tl (SYN d) := by
  obtain ⟨h1, h2, h3, h4⟩ := un_is d hr d.tl d.S (List.replicate d.tl ByteArray.empty) (Nat.le_refl _) hd.hS (fun a ha => by rw [Nat.sub_self]; rfl) (by simp) (fun j h1 h2 => by omega)
  have e1 : (crU d).1 = SYN d := eq_upto ByteArray.empty _ _ (by rw [SYN_len]; exact h1) (fun i hi => by rw [SYN_at d i (by rw [← h1]; exact hi)]; exact h2 i (by rw [← h1]; exact hi))
  unfold crS
  rw [e1]
  exact crA_congr d.W cs _ _ d.tl _ fun j hj => by rw [PUT_at d j hj]; exact h4 j hj
noncomputable def syS (d : Dk) (n k : Nat) : SS := ⟨32, [(1, .v (.int .i64 (n : Int))), (2, .p 0 0), (5, .v (.int .i64 (k : Int)))], [⟨28, d.cs⟩]⟩
noncomputable def puS (d : Dk) (i k : Nat) : SS := ⟨44, [(1, .v (.int .i64 (i : Int))), (2, .p 0 0), (5, .v (.int .i64 (k : Int)))], [⟨28, d.cs⟩]⟩
end Go.Proofs.Ytekcjffdooekaaa


/-
  Layer 22: crashes, program and reference.
-/
namespace Go.Proofs.Ytekcjffdooekaaa
open Go Go.RowKit SZ
set_option linter.unusedVariables false
set_option linter.unusedSimpArgs false
set_option maxRecDepth 100000
attribute [local irreducible] post GD Nxt NxtAll
noncomputable def udS0 (a : Option Addr) (c gd : Nat) (ta : Option Addr) (tc : Nat) : SS := ⟨52, [(0, .v (.slice a 0 c)), (5, .v (.slice (some ⟨gd, 0, none⟩) 0 0)), (6, .v (.slice ta 0 tc))], []⟩
noncomputable def crS0 (a : Option Addr) (c : Nat) : SS := ⟨29, [(4, .p 0 0), (5, .p 1 0), (19, .v (.int .i64 0)), (20, .v (.int .i64 0))], [⟨28, [.slice none 0 0, .slice none 0 0]⟩, ⟨25, [.slice a 0 c]⟩]⟩
theorem right_0 {d : Dk} (hr : d.right) (h0 : d.sl = 0) : d.tl = 0 := by
  by_cases h : d.tl = 0
  · exact h
  · have := (hr.w 0 (by omega)).1
    omega
noncomputable def rcK (d : Dk) : List Bx := [⟨28, d.cs⟩, ⟨28, [.slice none 0 0, .slice none 0 0]⟩]
noncomputable def rc1S (d : Dk) (ca : Option Addr) (cl cc a : Nat) (ga : Option Addr) (gc : Nat) : SS := ⟨58, [(1, .v (.slice ca cl cc)), (2, .p 0 0), (4, .p 1 0), (5, .v (.slice ga a gc)), (6, .v (.int .i64 (a : Int)))], rcK d⟩
noncomputable def rc2S (d : Dk) (ca : Option Addr) (cl cc i : Nat) (ga : Option Addr) (gc : Nat) : SS := ⟨58, [(1, .v (.slice ca cl cc)), (2, .p 0 0), (4, .p 1 0), (5, .v (.slice ga d.sl gc)), (7, .v (.int .i64 (i : Int)))], rcK d⟩
end Go.Proofs.Ytekcjffdooekaaa


/-
  Layer 22: a crash tears bytes.
-/
namespace Go.Proofs.Ytekcjffdooekaaa
open Go Go.RowKit SZ
set_option linter.unusedVariables false
set_option linter.unusedSimpArgs false
set_option maxRecDepth 100000
attribute [local irreducible] post GD Nxt NxtAll
noncomputable def tboS (k a b0 : Nat) (DD : List (Int × ByteArray)) (ga ga2 : Option Addr) (gc gc2 : Nat) (d2 dC : Dk) : SS := ⟨168, [(7, .v (.bool true)), (8, .v (.int .i64 ((k + 1 : Nat) : Int))), (10, .v (.slice ga DD.length gc)), (11, .v (.bool true)), (14, .p 0 0), (15, .v (.slice ga2 b0 gc2)), (17, .p 1 0), (18, .v (.int .i64 (a : Int)))], [⟨28, d2.cs⟩, ⟨28, dC.cs⟩]⟩
noncomputable def tbkS (k a b0 q : Nat) (DD : List (Int × ByteArray)) (ga ga2 : Option Addr) (gc gc2 : Nat) (d2 dC : Dk) (s o : ByteArray) : SS := ⟨168, [(7, .v (.bool true)), (8, .v (.int .i64 ((k + 1 : Nat) : Int))), (10, .v (.slice ga DD.length gc)), (11, .v (.bool true)), (14, .p 0 0), (15, .v (.slice ga2 b0 gc2)), (17, .p 1 0), (18, .v (.int .i64 (a : Int))), (19, .v (.string s)), (21, .v (.string o)), (23, .v (.int .i64 (q : Int)))], [⟨28, d2.cs⟩, ⟨28, dC.cs⟩]⟩
noncomputable def tbiS (k a b0 q i : Nat) (DD : List (Int × ByteArray)) (ga ga2 : Option Addr) (gc gc2 : Nat) (d2 dC : Dk) (s o : ByteArray) (b : Bool) : SS := ⟨168, [(7, .v (.bool true)), (8, .v (.int .i64 ((k + 1 : Nat) : Int))), (10, .v (.slice ga DD.length gc)), (11, .v (.bool true)), (14, .p 0 0), (15, .v (.slice ga2 b0 gc2)), (17, .p 1 0), (18, .v (.int .i64 (a : Int))), (19, .v (.string s)), (21, .v (.string o)), (23, .v (.int .i64 (q : Int))), (24, .v (.bool b)), (25, .v (.int .i64 (i : Int)))], [⟨28, d2.cs⟩, ⟨28, dC.cs⟩]⟩
end Go.Proofs.Ytekcjffdooekaaa


/-
  Layer 22: a crash tears bytes: the statement.
-/
namespace Go.Proofs.Ytekcjffdooekaaa
open Go Go.RowKit SZ
set_option linter.unusedVariables false
set_option linter.unusedSimpArgs false
set_option maxRecDepth 100000
attribute [local irreducible] post GD Nxt NxtAll
noncomputable def tb1S (k j n lc m : Nat) (pa ga : Option Addr) (dn gc : Nat) (ca : Option Addr) (cn cc : Nat) (d : Dk) : SS := ⟨168, [(1, .v (.slice pa n lc)), (2, .v (.slice ca cn cc)), (7, .v (.bool true)), (8, .v (.int .i64 ((k + 1 : Nat) : Int))), (9, .p 0 0), (10, .v (.slice ga dn gc)), (11, .v (.bool true)), (12, .v (.int .i64 (m : Int))), (13, .v (.int .i64 (j : Int)))], [⟨28, d.cs⟩]⟩
end Go.Proofs.Ytekcjffdooekaaa


/-
  Layer 22: what a crash keeps: the statement.
-/
namespace Go.Proofs.Ytekcjffdooekaaa
open Go Go.RowKit SZ
set_option linter.unusedVariables false
set_option linter.unusedSimpArgs false
set_option maxRecDepth 100000
attribute [local irreducible] post GD Nxt NxtAll
theorem made_v (v : Value) (h1 : v.cells = #[v]) (n : Nat) : madeCells v.cells n = (List.replicate n v).toArray := by
  apply Array.ext'
  apply List.ext_getElem
  · simp [madeCells, h1]
  · intro i h1' h2
    simp [madeCells, h1, Nat.mod_one]
theorem mk_runi (n : Nat) (hn : n ≤ 512) (w : World) : (Instr.makeSlice 22 (.int .i64 (n : Int)) (.int .i64 (n : Int))).run Try.prog w = .ok (.slice (some ⟨w.heap.size, 0, none⟩) n n) (w.alloc (.cells (List.replicate n (Value.int .i64 0)).toArray 3 (0, 0))) := by
  have hI : (Try.prog.info? 3).map (fun i => (i.zero, i.size, i.bytes)) = some (some (.int .i64 0), 1, 8) := by kernel_rfl
  cases hi : Try.prog.info? 3 with
  | none => rw [hi] at hI; cases hI
  | some i =>
    rw [hi] at hI
    simp only [Option.map_some, Option.some.injEq, Prod.mk.injEq] at hI
    obtain ⟨h1, h2, h3⟩ := hI
    have h := run_makeSlice (P := Try.prog) w 22 3 i (.int .i64 0) Try.underlying22 hi h1 .i64 .i64 (n : Int) (n : Int) (by omega) (by omega) (by rw [h2, Int.toNat_natCast]; omega) (by rw [h3]; omega) (by omega)
    rw [h2, Int.toNat_natCast, Nat.mul_one, made_v (.int .i64 0) rfl] at h
    exact h
/-- A row of bools. -/
def rfBl (g : Nat) (T : List Bool) : RF := ⟨fun b => b = g, fun w => w.heap[g]? = some (.cells (T.map Value.bool).toArray 4 (0, 0)), fun w h b hb => by subst hb; exact (Array.getElem?_eq_some_iff.1 h).1, fun w w' h hb => (hb g rfl).trans h⟩
theorem bl_at {w : World} {g : Nat} {T : List Bool} (h : (rfBl g T).P w) (j : Nat) (hj : j < T.length) : w.cell? ⟨g, 0 + j * 1, none⟩ = some (.bool (T.getD j false)) := by
  rw [Nat.mul_one, Nat.zero_add]
  refine cel_of h ?_
  simp [List.getD, List.getElem?_eq_getElem hj]
theorem bl_st {w : World} {g : Nat} {T : List Bool} (h : (rfBl g T).P w) (j : Nat) (hj : j < T.length) (b : Bool) : (storeVar 4 ⟨g, 0 + j * 1, none⟩ (.bool b)).run Try.prog w = .ok () (w.setCells g j [.bool b]) ∧ (rfBl g (T.set j b)).P (w.setCells g j [.bool b]) := by
  obtain ⟨hr, he⟩ := st_at (P := Try.prog) (ty := 4) (v := .bool b) (off := j) (by kernel_rfl) (by kernel_rfl) (by kernel_rfl) h (by simpa using hj)
  refine ⟨by rw [Nat.mul_one, Nat.zero_add]; exact hr, ?_⟩
  show (w.setCells g j [.bool b]).heap[g]? = some (Obj.cells ((T.set j b).map Value.bool).toArray 4 (0, 0))
  rw [List.map_set]
  exact he
def tch (n : Nat) (l : List Nat) : List Bool := l.foldl (fun T c => T.set (c % n) true) (List.replicate n false)
theorem tch_succ (n : Nat) (l : List Nat) (i : Nat) (h : i < l.length) : tch n (l.take (i + 1)) = (tch n (l.take i)).set (l.getD i 0 % n) true := by
  have e := List.take_succ_eq_append_getElem h
  unfold tch
  rw [e, List.foldl_append]
  simp [List.getD, List.getElem?_eq_getElem h]
theorem tch_len (n : Nat) : ∀ (l : List Nat) (T : List Bool), (l.foldl (fun T c => T.set (c % n) true) T).length = T.length
  | [], T => rfl
  | c :: l, T => by
    show (l.foldl _ (T.set (c % n) true)).length = _
    rw [tch_len n l, List.length_set]
theorem tch_f (n : Nat) (a : Nat) : ∀ (l : List Nat) (T : List Bool), a < T.length → (l.foldl (fun T c => T.set (c % n) true) T).getD a false = false → T.getD a false = false ∧ ∀ c ∈ l, c % n ≠ a
  | [], T, _, h => ⟨h, by simp⟩
  | c :: l, T, hl, h => by
    obtain ⟨h1, h2⟩ := tch_f n a l (T.set (c % n) true) (by simpa using hl) h
    by_cases e : c % n = a
    · rw [e] at h1
      rw [gset_eq _ _ _ _ hl] at h1
      cases h1
    · rw [gset_ne _ _ _ _ _ e] at h1
      exact ⟨h1, fun c' hc => by
        rcases List.mem_cons.1 hc with rfl | hc
        · exact e
        · exact h2 c' hc⟩
structure PInv2 (n : Nat) (x : List ByteArray × List (Int × ByteArray) × List (Int × ByteArray)) : Prop where
  len : x.1.length = n
  sz : ∀ s ∈ x.1, s.size = 32
  w : ∀ y ∈ x.2.1, (0 ≤ y.1 ∧ y.1 < (n : Int)) ∧ y.2.size = 32
theorem pinv_all (n : Nat) (hn : 0 < n) : ∀ (l : List Nat) (x : List ByteArray × List (Int × ByteArray) × List (Int × ByteArray)), PInv2 n x → PInv2 n (l.foldl (wput n) x)
  | [], x, h => h
  | c :: l, x, h => by
    refine pinv_all n hn l _ ?_
    have hm := Nat.mod_lt c hn
    refine ⟨by simp [wput, h.len], fun s hs => ?_, fun y hy => ?_⟩
    · rcases List.mem_or_eq_of_mem_set hs with h1 | rfl
      · exact h.sz s h1
      · exact full_size _
    · rcases List.mem_append.1 hy with h1 | h1
      · exact h.w y h1
      · simp only [List.mem_singleton] at h1
        subst h1
        exact ⟨⟨by show (0 : Int) ≤ ((c % n : Nat) : Int); omega, by show ((c % n : Nat) : Int) < (n : Int); omega⟩, h.sz _ (getD_mem _ _ _ (by rw [h.len]; exact hm))⟩
/-- Where the further writes are. -/
structure KI (w0 : World) (k : Nat) (S0 : List ByteArray) (l : List Nat) (i : Nat) (x : Dk) (tg : Nat) : Prop where
  ok : x.ok
  sl : x.sl = k + 1
  tc : x.tc ≤ 9223372036854775807
  eq : ∃ D, mput (k + 1) S0 (l.take i) = (x.S, x.W, D)
  tl : x.tl ≤ i
  ap : x.b ≠ tg ∧ (x.W.length = 0 ∨ x.c ≠ tg)
theorem KI.right {w0 : World} {k : Nat} {S0 : List ByteArray} {l : List Nat} {i : Nat} {x : Dk} {tg : Nat} (h : KI w0 k S0 l i x tg) (h0 : S0.length = k + 1) (h1 : All32 S0) : x.right := by
  obtain ⟨D, he⟩ := h.eq
  have hv := pinv_all (k + 1) (Nat.succ_pos _) (l.take i) (S0, [], []) ⟨h0, fun s hs => by obtain ⟨j, hj, rfl⟩ := List.getElem_of_mem hs; have := h1 j hj; rwa [List.getD, List.getElem?_eq_getElem hj] at this, by simp⟩
  rw [show (l.take i).foldl (wput (k + 1)) (S0, [], []) = mput (k + 1) S0 (l.take i) from rfl, he] at hv
  refine ⟨fun j hj => hv.sz _ (getD_mem _ _ _ (by rw [h.ok.hS]; exact hj)), fun j hj => ?_⟩
  have := hv.w _ (getD_mem x.W j (0, ByteArray.empty) (by rw [h.ok.hW]; exact hj))
  exact ⟨⟨this.1.1, by have := this.1.2; rw [h.sl]; exact this⟩, this.2⟩
def syn (d : Dk) : Dk := ⟨d.sa, d.sl, d.sc, none, 0, 0, d.b, d.o, d.c, d.p, d.S, []⟩
theorem syn_ok {d : Dk} (h : d.ok) : (syn d).ok := ⟨h.hS, h.hs, rfl, Or.inl ⟨rfl, rfl, rfl⟩, h.l1, Nat.zero_le _⟩
noncomputable def ks1S (k : Nat) (l : List Nat) (qa : Option Addr) (qc : Nat) (cs : List Int) (ca : Option Addr) (cc tg zg : Nat) (d : Dk) (x : Dk) (i : Nat) : SS := ⟨161, [(5, .v (.slice qa l.length qc)), (6, .v (.slice ca cs.length cc)), (7, .v (.bool true)), (8, .v (.int .i64 ((k + 1 : Nat) : Int))), (9, .p 0 0), (11, .v (.bool true)), (12, .p 1 0), (13, .p 2 0), (14, .v (.slice (some ⟨tg, 0, none⟩) (k + 1) (k + 1))), (15, .v (.slice (some ⟨zg, 0, none⟩) l.length l.length)), (16, .v (.int .i64 (i : Int)))], [⟨28, d.cs⟩, ⟨28, (syn d).cs⟩, ⟨28, x.cs⟩]⟩
noncomputable def ksmS (k : Nat) (l : List Nat) (qa : Option Addr) (qc : Nat) (cs : List Int) (ca : Option Addr) (cc tg zg : Nat) (d : Dk) (x y : Dk) (i a : Nat) : SS := ⟨161, [(5, .v (.slice qa l.length qc)), (6, .v (.slice ca cs.length cc)), (7, .v (.bool true)), (8, .v (.int .i64 ((k + 1 : Nat) : Int))), (9, .p 0 0), (11, .v (.bool true)), (12, .p 1 0), (13, .p 2 0), (14, .v (.slice (some ⟨tg, 0, none⟩) (k + 1) (k + 1))), (15, .v (.slice (some ⟨zg, 0, none⟩) l.length l.length)), (16, .v (.int .i64 (i : Int))), (17, .v (.int .i64 (a : Int))), (18, .p 3 0), (19, .v (.int .i64 0))], [⟨28, d.cs⟩, ⟨28, (syn d).cs⟩, ⟨28, x.cs⟩, ⟨28, y.cs⟩]⟩
noncomputable def ks2S (k : Nat) (l : List Nat) (qa : Option Addr) (qc : Nat) (cs : List Int) (ca : Option Addr) (cc tg zg : Nat) (d : Dk) (x c : Dk) (a : Nat) : SS := ⟨161, [(6, .v (.slice ca cs.length cc)), (7, .v (.bool true)), (8, .v (.int .i64 ((k + 1 : Nat) : Int))), (9, .p 0 0), (11, .v (.bool true)), (12, .p 1 0), (13, .p 2 0), (14, .v (.slice (some ⟨tg, 0, none⟩) (k + 1) (k + 1))), (15, .v (.slice (some ⟨zg, 0, none⟩) l.length l.length)), (20, .p 3 0), (21, .v (.int .i64 (a : Int)))], [⟨28, d.cs⟩, ⟨28, (syn d).cs⟩, ⟨28, x.cs⟩, ⟨28, c.cs⟩]⟩
theorem ap_tg {w0 : World} {qb qo cb co tg zg : Nat} {l : List Nat} {cs : List Int} {d y : Dk} (hqb : l.length = 0 ∨ qb < w0.heap.size) (hcb : cs.length = 0 ∨ cb < w0.heap.size) (htg : w0.heap.size ≤ tg) (hap : d.b ≠ tg ∧ zg ≠ tg) (hy : y.b ≠ tg ∧ (y.W.length = 0 ∨ y.c ≠ tg)) : ∀ f ∈ [rfBy qb qo l, rfIn cb co cs, rfSt d.b d.o d.S, rfSt y.b y.o y.S, rfWs y.c y.p y.W, rfIn zg 0 (List.replicate l.length (0 : Int))], ¬f.bl tg := by
  intro f hf hb
  simp only [List.mem_cons, List.not_mem_nil, or_false] at hf
  rcases hf with rfl | rfl | rfl | rfl | rfl | rfl
  · obtain ⟨rfl, h⟩ := hb; have := hqb.resolve_left h; omega
  · obtain ⟨rfl, h⟩ := hb; have := hcb.resolve_left h; omega
  · obtain ⟨h, _⟩ := hb; exact hap.1 h.symm
  · obtain ⟨h, _⟩ := hb; exact hy.1 h.symm
  · obtain ⟨h, h2⟩ := hb; exact (hy.2.resolve_left h2) h.symm
  · obtain ⟨h, _⟩ := hb; exact hap.2 h.symm
theorem ks_keeps (w0 : World) (k : Nat) (hk : k < 6) (l : List Nat) (hlL : l.length ≤ 30) (h256 : ∀ i, i < l.length → l.getD i 0 < 256) (qa : Option Addr) (qc qb qo : Nat) (hq : l.length = 0 ∨ qa = some ⟨qb, qo, none⟩) (hqb : l.length = 0 ∨ qb < w0.heap.size) (cs : List Int) (hcl : cs.length ≤ 40) (ca : Option Addr) (cc cb co : Nat) (hca : cs.length = 0 ∨ ca = some ⟨cb, co, none⟩) (hcb : cs.length = 0 ∨ cb < w0.heap.size) (d : Dk) (hd : d.ok) (hsl : d.sl = k + 1) (hS0 : All32 d.S) (tg zg : Nat) (htg : w0.heap.size ≤ tg) (hap : d.b ≠ tg ∧ zg ≠ tg) (x : Dk) (hx : KI w0 k d.S l l.length x tg) : Keeps (k + 1) d.S l x := by
  obtain ⟨D, he⟩ := hx.eq
  rw [List.take_length] at he
  exact keeps (k + 1) (Nat.succ_pos _) d.S (by rw [hd.hS, hsl]) l x hx.ok (hx.right (by rw [hd.hS, hsl]) hS0) hx.sl D he
end Go.Proofs.Ytekcjffdooekaaa


/-
  Layer 22: the statement DiskMatchesSpec.
-/
namespace Go.Proofs.Ytekcjffdooekaaa
open Go Go.RowKit SZ
set_option linter.unusedVariables false
set_option linter.unusedSimpArgs false
set_option maxRecDepth 100000
attribute [local irreducible] post GD Nxt NxtAll
def newS (n : Int) : List ByteArray := if 0 ≤ n ∧ n ≤ 512 then List.replicate n.toNat z32 else []
def newE (n : Int) : Int := if 0 ≤ n ∧ n ≤ 512 then 0 else 1
theorem dev_nil (h0 : Nat) (w : World) : Dev h0 w ⟨none, 0, 0, none, 0, 0, 0, 0, 0, 0, [], []⟩ [] [] := ⟨⟨rfl, Or.inl rfl, rfl, Or.inl rfl, Or.inl ⟨rfl, rfl, rfl⟩, Nat.zero_le _, fun _ => rfl⟩, rfl, rfl, fun j hj => absurd hj (Nat.not_lt_zero _), fun j hj => absurd hj (Nat.not_lt_zero _), Or.inl rfl, Or.inl rfl⟩
theorem rnew_any (n : Int) (w0 : World) : Calls Try.prog 13 #[.int .i64 n] w0 fun e w' => ∃ d' : Dk, e = .returned (.tuple #[d'.v, .int .i64 (newE n)]) ∧ Dev w0.heap.size w' d' (newS n) [] ∧ Below w0.heap.size w0 w' := by
  unfold newS newE
  by_cases h : 0 ≤ n ∧ n ≤ 512
  · rw [if_pos h, if_pos h]
    have := rnew_t w0 n.toNat (by omega)
    rwa [Int.toNat_of_nonneg h.1] at this
  · rw [if_neg h, if_neg h]
    exact (rnewbad n h w0).mono fun e w' h => ⟨⟨none, 0, 0, none, 0, 0, 0, 0, 0, 0, [], []⟩, h.1, dev_nil _ _, h.2⟩
def rdS (d : Dk) (n : Int) : ByteArray := if 0 ≤ n ∧ n < (d.sl : Int) then d.S.getD n.toNat ByteArray.empty else ByteArray.empty
def rdE (d : Dk) (n : Int) : Int := if 0 ≤ n ∧ n < (d.sl : Int) then 0 else 8
/-- A device that is there: made since, or this one. -/
structure Dvv (h0 : Nat) (w : World) (d d' : Dk) (S : List ByteArray) (W : List (Int × ByteArray)) : Prop where
  g : d'.gen
  eS : d'.S = S
  eW : d'.W = W
  sA : StrAt w d'.b d'.o d'.S
  wA : WasAt w d'.c d'.p d'.W
  b0 : d'.S.length = 0 ∨ h0 ≤ d'.b ∨ (d'.b = d.b ∧ d.S.length ≠ 0)
  c0 : d'.W.length = 0 ∨ h0 ≤ d'.c ∨ (d'.c = d.c ∧ d.W.length ≠ 0)
theorem Dev.dvv {h0 : Nat} {w : World} {d d' : Dk} {S : List ByteArray} {W : List (Int × ByteArray)} (h : Dev h0 w d' S W) : Dvv h0 w d d' S W := ⟨h.g, h.eS, h.eW, by rw [h.eS]; exact h.sA, by rw [h.eW]; exact h.wA, by rw [h.eS]; exact h.b0.imp id Or.inl, by rw [h.eW]; exact h.c0.imp id Or.inl⟩
theorem dvv_self (h0 : Nat) {w : World} {d : Dk} (hg : d.gen) (hA : StrAt w d.b d.o d.S) (hB : WasAt w d.c d.p d.W) : Dvv h0 w d d d.S d.W := ⟨hg, rfl, rfl, hA, hB, by by_cases h : d.S.length = 0; exact Or.inl h; exact Or.inr (Or.inr ⟨rfl, h⟩), by by_cases h : d.W.length = 0; exact Or.inl h; exact Or.inr (Or.inr ⟨rfl, h⟩)⟩
def waOk (d : Dk) (n : Int) (s : ByteArray) : Bool := decide (0 ≤ n ∧ n < (d.sl : Int)) && decide (s.size = 32)
def waS (d : Dk) (n : Int) (s : ByteArray) : List ByteArray := if waOk d n s then d.S.set n.toNat s else d.S
def waW (d : Dk) (n : Int) (s : ByteArray) : List (Int × ByteArray) := if waOk d n s then d.W ++ [(n, d.S.getD n.toNat ByteArray.empty)] else d.W
def waE (d : Dk) (n : Int) (s : ByteArray) : Int := if 0 ≤ n ∧ n < (d.sl : Int) then (if s.size = 32 then 0 else 1) else 8
set_option maxHeartbeats 8000000 in
theorem pwrite_any (d : Dk) (hd : d.ok) (hg : d.gen) (htl : d.tl ≤ 60) (n : Int) (s : ByteArray) (w0 : World) (hA : StrAt w0 d.b d.o d.S) (hB : WasAt w0 d.c d.p d.W) : Calls Try.prog 40 #[d.v, .int .i64 n, .string s] w0 fun e w' => ∃ d' : Dk, e = .returned (.tuple #[d'.v, .int .i64 (waE d n s)]) ∧ Dvv w0.heap.size w' d d' (waS d n s) (waW d n s) ∧ Below w0.heap.size w0 w' := by
  by_cases hn : 0 ≤ n ∧ n < (d.sl : Int)
  · by_cases hs : s.size = 32
    · have e1 : waOk d n s = true := by unfold waOk; rw [decide_eq_true hn, decide_eq_true hs]; rfl
      unfold waS waW waE
      rw [if_pos e1, if_pos e1, if_pos hn, if_pos hs]
      have h := write_t w0 d hd n.toNat (by omega) s hs hg.hc (by omega) hA hB
      rw [Int.toNat_of_nonneg hn.1] at h
      exact h.mono fun e w' ⟨d', q1, q2, q3, q4, q5, q6, q7, q8, q9, q10⟩ => ⟨d', q1, ⟨⟨q2.hS, q2.hs, q2.hW, q2.hw, q2.hw2.elim Or.inl (fun q => Or.inr q.2), q6, fun h0 => absurd h0 (by rw [q2.hs.resolve_left (by omega)]; simp)⟩, q4, q5, q8, q9, Or.inr (Or.inl q7.1), Or.inr (Or.inl q7.2)⟩, q10⟩
    · have e1 : ¬ waOk d n s = true := by unfold waOk; rw [decide_eq_false hs]; simp
      unfold waS waW waE
      rw [if_neg e1, if_neg e1, if_pos hn, if_neg hs]
      exact (writebad2 d n hn s hs w0).mono fun e w' h => ⟨d, h.1, dvv_self _ hg (hA.keep h.2) (hB.keep h.2), h.2⟩
  · have e1 : ¬ waOk d n s = true := by unfold waOk; rw [decide_eq_false hn]; simp
    unfold waS waW waE
    rw [if_neg e1, if_neg e1, if_neg hn]
    exact (writebad1 d n hn s w0).mono fun e w' h => ⟨d, h.1, dvv_self _ hg (hA.keep h.2) (hB.keep h.2), h.2⟩
set_option maxHeartbeats 8000000 in
theorem rwrite_any (d : Dk) (hd : d.ok) (hg : d.gen) (htl : d.tl ≤ 60) (n : Int) (s : ByteArray) (w0 : World) (hA : StrAt w0 d.b d.o d.S) (hB : WasAt w0 d.c d.p d.W) : Calls Try.prog 23 #[d.v, .int .i64 n, .string s] w0 fun e w' => ∃ d' : Dk, e = .returned (.tuple #[d'.v, .int .i64 (waE d n s)]) ∧ Dvv w0.heap.size w' d d' (waS d n s) (waW d n s) ∧ Below w0.heap.size w0 w' := by
  by_cases hn : 0 ≤ n ∧ n < (d.sl : Int)
  · by_cases hs : s.size = 32
    · have e1 : waOk d n s = true := by unfold waOk; rw [decide_eq_true hn, decide_eq_true hs]; rfl
      unfold waS waW waE
      rw [if_pos e1, if_pos e1, if_pos hn, if_pos hs]
      have h := rwrite_t w0 d hd htl n.toNat (by omega) s hs (fun h => hg.ht.elim (fun q => q.2.2) (fun q => by rw [h] at q; cases q.1)) hA hB
      rw [Int.toNat_of_nonneg hn.1] at h
      exact h.mono fun e w' ⟨d', q1, q2, q3⟩ => ⟨d', q1, q2.dvv, q3⟩
    · have e1 : ¬ waOk d n s = true := by unfold waOk; rw [decide_eq_false hs]; simp
      unfold waS waW waE
      rw [if_neg e1, if_neg e1, if_pos hn, if_neg hs]
      exact (rwritebad2 d n hn s hs w0).mono fun e w' h => ⟨d, h.1, dvv_self _ hg (hA.keep h.2) (hB.keep h.2), h.2⟩
  · have e1 : ¬ waOk d n s = true := by unfold waOk; rw [decide_eq_false hn]; simp
    unfold waS waW waE
    rw [if_neg e1, if_neg e1, if_neg hn]
    exact (rwritebad1 d n hn s w0).mono fun e w' h => ⟨d, h.1, dvv_self _ hg (hA.keep h.2) (hB.keep h.2), h.2⟩
set_option maxHeartbeats 8000000 in
theorem rsync_any (w0 : World) (d : Dk) (hd : d.ok) (hg : d.gen) (hA : StrAt w0 d.b d.o d.S) : Calls Try.prog 24 #[d.v] w0 fun e w' => ∃ d' : Dk, e = .returned d'.v ∧ Dev w0.heap.size w' d' d.S [] ∧ Below w0.heap.size w0 w' := by
  by_cases h0 : d.sl = 0
  · have eS : d.S = [] := List.eq_nil_of_length_eq_zero (by rw [hd.hS, h0])
    have ev : d.v = .agg #[.slice d.sa 0 d.sc, .slice d.ta d.tl d.tc] := by unfold Dk.v; rw [h0]
    rw [ev, eS]
    exact (rsync0 d.sa d.sc hg.hsn (.slice d.ta d.tl d.tc) w0 ⟨_, _, _, rfl⟩).mono fun e w' ⟨b, h1, h2⟩ => ⟨⟨some ⟨b, 0, none⟩, 0, 0, none, 0, 0, 0, 0, 0, 0, [], []⟩, h1, ⟨⟨rfl, Or.inl rfl, rfl, Or.inl rfl, Or.inl ⟨rfl, rfl, rfl⟩, Nat.zero_le _, fun h => by cases h⟩, rfl, rfl, fun j hj => absurd hj (Nat.not_lt_zero _), fun j hj => absurd hj (Nat.not_lt_zero _), Or.inl rfl, Or.inl rfl⟩, h2⟩
  · exact rsync1 w0 d hd (by omega) hA
theorem ex_eqS {s : SS} {bs : List Nat} {x y : Operand} {t t' ty : TypeId} {p q : ByteArray} {b : Bool} (hx : s.val x = some (.v (.string p))) (hy : s.val y = some (.v (.string q))) (hb : decide (p = q) = b) :
    ∀ (o : Oper) (ρ : Operand → Value) (W : World), o.op = .binOp .eql t x y t' → o.type = ty → (∀ x y, s.val x = some y → ρ x = den bs y) → (execOp ρ o).run Try.prog W = .ok (.value (.bool b)) W := by
  intro o ρ W h1 h2 h3
  have e1 : ρ x = .string p := h3 x _ hx
  have e2 : ρ y = .string q := h3 y _ hy
  subst hb
  unfold execOp
  simp only [h1, e1, e2, eqGuard, binOp_string_eql, tl_eq, Sem.run_bind, Sem.run_pure, Result.andThen_ok]
  rfl
theorem sameB_t {a b : Dk} (h1 : a.S = b.S) (h2 : a.W = b.W) : sameB a b = true := by unfold sameB; rw [decide_eq_true h1, decide_eq_true h2]; rfl
noncomputable def msS (d x y : Dk) (ca : Option Addr) (cl cc : Nat) (s : ByteArray) (e1 e2 : Int) : SS := ⟨154, [(3, .p 0 0), (7, .v (.slice ca cl cc)), (8, .v (.bool true)), (14, .v (.string s)), (15, .v (.int .i64 e1)), (16, .v (.string s)), (17, .v (.int .i64 e1)), (18, .p 1 0), (19, .v (.int .i64 e2)), (20, .p 2 0), (21, .v (.int .i64 e2))], [⟨28, d.cs⟩, ⟨28, x.cs⟩, ⟨28, y.cs⟩]⟩
theorem ex_neB {s : SS} {bs : List Nat} {x y : Operand} {t' ty : TypeId} {p : Bool} (hx : s.val x = some (.v (.bool p))) (hy : s.val y = some (.v (.bool p))) :
    ∀ (o : Oper) (ρ : Operand → Value) (W : World), o.op = .binOp .neq 4 x y t' → o.type = ty → (∀ x y, s.val x = some y → ρ x = den bs y) → (execOp ρ o).run Try.prog W = .ok (.value (.bool false)) W := by
  intro o ρ W h1 h2 h3
  have e1 : ρ x = .bool p := h3 x _ hx
  have e2 : ρ y = .bool p := h3 y _ hy
  have hr : ∀ W, (binOp .neq 4 (.bool p) (.bool p)).run Try.prog W = .ok (.bool false) W := fun W => by cases p <;> kernel_rfl
  unfold execOp
  simp only [h1, e1, e2, eqGuard, Sem.run_bind, Sem.run_pure, Result.andThen_ok, hr]
  simp [Sem.run_pure, hr]
theorem few_of {d : Dk} (h : fewB d = true) : d.sl ≤ 600 ∧ d.tl ≤ 60 := by
  simp only [fewB, Bool.and_eq_true, decide_eq_true_eq] at h
  exact ⟨h.1.1.1, h.1.1.2⟩
end Go.Proofs.Ytekcjffdooekaaa
