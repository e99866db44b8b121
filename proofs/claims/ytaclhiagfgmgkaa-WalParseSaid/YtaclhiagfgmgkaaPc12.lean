/-
  Merged: DkO, Dk7, Dk8, Dk9, Dk10, Dk11, Dk12, Dk15, Dk17, Dk18, Dk19
-/
import Derived.Test.YtaclhiagfgmgkaaRows
import Derived.Test.YtaclhiagfgmgkaaPc2
import Derived.Test.YtaclhiagfgmgkaaPc11
import Derived.Deep.Fields
import Derived.Deep.Slices
import Derived.WalkKit
import Derived.Test.YtaclhiagfgmgkaaPc5

/-
  Layer 22: a row of bytes, as an argument.
-/
namespace Go.Proofs.Ytaclhiagfgmgkaa
open Go.ChangeShapes Go.WideShapes Go.ChangeAt Go.RowKit Go.Deep
set_option maxRecDepth 100000
/-- A row of bytes. -/
def HasBy (w : World) (v : Value) (l : List Nat) : Prop := ∃ a cap, v = .slice a l.length cap ∧ l.length ≤ cap ∧ (l.length = 0 ∨ ∃ b o, a = some ⟨b, o, none⟩ ∧ ByAt w b o l)
section
variable {H : Type} {enc : TypeId × Value → H} {W : World}
theorem cells_u8 : Try.prog.cellsOf 5 = 1 := by kernel_rfl
theorem open_bytesArg {r : Reach} {b0 : Nat} {v : Value} {d : DataW H} {p : List MemPlace} (hv : Value.okWide Try.prog W r b0 43 v) (h : DataW.Trod enc Try.prog W 0 (fun _ => true) true 43 v d p) :
    ∃ l, HasBy W v l ∧ ∀ b ∈ l, b < 256 := by
  obtain ⟨a0, len0, cap0, rfl⟩ := okWide_slice Try.underlying43 hv
  obtain ⟨fuel, hf⟩ := h
  rcases open_ints Try.underlying43 Try.underlying5 cells_u8 hf with ⟨hcs, _⟩ | ⟨a, len, cap, zs, hcs, _, hl, hm, hz, _, hcell, hwf⟩
  · simp [Value.cells] at hcs
    obtain ⟨rfl, rfl, rfl⟩ := hcs
    exact ⟨[], ⟨none, 0, rfl, Nat.le_refl _, Or.inl rfl⟩, by simp⟩
  · simp [Value.cells] at hcs
    obtain ⟨rfl, rfl, rfl⟩ := hcs
    simp only [if_true] at hz
    have hb : ∀ n ∈ zs, 0 ≤ n ∧ n < 256 := fun n hn => by have := u8_of_wf (hwf n hn); omega
    have hlen : ((zs.take len0).map Int.toNat).length = len0 := by rw [List.length_map, List.length_take]; omega
    refine ⟨(zs.take len0).map Int.toNat, ⟨some a, cap0, by rw [hlen], by rw [hlen]; exact hl, ?_⟩, ?_⟩
    · by_cases h0 : len0 = 0
      · exact Or.inl (by rw [hlen]; exact h0)
      · obtain ⟨b, off, spot⟩ := a
        have hspot : spot = none := by simpa [Addr.add] using World.cell?_spot (hcell 0 (by omega))
        subst hspot
        refine Or.inr ⟨b, off, rfl, fun j hj => ?_⟩
        rw [hlen] at hj
        have h1 := hcell j (by omega)
        rw [add_plain] at h1
        rw [h1]
        have hjz : j < zs.length := by omega
        have h2 := hb zs[j] (List.getElem_mem hjz)
        simp [List.getD, hj, List.getElem?_eq_getElem hjz]
        omega
    · intro b hb'
      obtain ⟨n, hn, rfl⟩ := List.mem_map.1 hb'
      have := hb n (List.mem_of_mem_take hn)
      omega

end
end Go.Proofs.Ytaclhiagfgmgkaa


/-
  Layer 22: what a list of commands leaves.
-/
namespace Go.Proofs.Ytaclhiagfgmgkaa
open Go Go.RowKit SZ
set_option linter.unusedVariables false
set_option linter.unusedSimpArgs false
set_option maxRecDepth 100000
attribute [local irreducible] post GD Nxt NxtAll
/-- The last write to a sector. -/
def lastD (D : List (Int × ByteArray)) (at_ : Nat) (z : ByteArray) : ByteArray := D.foldl (fun w x => if x.1 = (at_ : Int) then x.2 else w) z
theorem lastD_app (D : List (Int × ByteArray)) (x : Int × ByteArray) (at_ : Nat) (z : ByteArray) : lastD (D ++ [x]) at_ z = if x.1 = (at_ : Int) then x.2 else lastD D at_ z := by simp [lastD]
theorem lastD_succ (D : List (Int × ByteArray)) (i : Nat) (h : i < D.length) (at_ : Nat) (z : ByteArray) : lastD (D.take (i + 1)) at_ z = if (D.getD i (0, ByteArray.empty)).1 = (at_ : Int) then (D.getD i (0, ByteArray.empty)).2 else lastD (D.take i) at_ z := by
  have e := List.take_succ_eq_append_getElem h
  rw [e, lastD_app]
  simp [List.getD, List.getElem?_eq_getElem h]
structure WInv (n : Nat) (x : List ByteArray × List (Int × ByteArray) × List (Int × ByteArray)) : Prop where
  len : x.1.length = n
  sz : ∀ s ∈ x.1, s.size = 32
  w : ∀ y ∈ x.2.1, (0 ≤ y.1 ∧ y.1 < (n : Int)) ∧ y.2.size = 32
  d : ∀ y ∈ x.2.2, (0 ≤ y.1 ∧ y.1 < (n : Int)) ∧ y.2.size = 32
  last : ∀ j, j < n → x.1.getD j ByteArray.empty = lastD x.2.2 j z32
theorem winv_0 (n : Nat) : WInv n (List.replicate n z32, [], []) := by
  refine ⟨by simp, fun s hs => ?_, by simp, by simp, fun j hj => by simp [lastD, List.getD, List.getElem?_replicate, hj]⟩
  rw [List.eq_of_mem_replicate hs]
  rfl
theorem winv_step (n : Nat) (hn : 0 < n) (x : List ByteArray × List (Int × ByteArray) × List (Int × ByteArray)) (h : WInv n x) (c : Nat) : WInv n (wstep n x c) := by
  unfold wstep
  split
  · exact ⟨h.len, h.sz, by simp, h.d, h.last⟩
  · have hm := Nat.mod_lt c hn
    refine ⟨by simp [h.len], fun s hs => ?_, fun y hy => ?_, fun y hy => ?_, fun j hj => ?_⟩
    · rcases List.mem_or_eq_of_mem_set hs with h1 | rfl
      · exact h.sz s h1
      · exact full_size _
    · rcases List.mem_append.1 hy with h1 | h1
      · exact h.w y h1
      · simp only [List.mem_singleton] at h1
        subst h1
        refine ⟨⟨by show (0 : Int) ≤ ((c % n : Nat) : Int); omega, by show ((c % n : Nat) : Int) < (n : Int); omega⟩, ?_⟩
        have hl : c % n < x.1.length := by rw [h.len]; exact hm
        show (x.1.getD (c % n) ByteArray.empty).size = 32
        have e : x.1.getD (c % n) ByteArray.empty = x.1[c % n] := by simp [List.getD, List.getElem?_eq_getElem hl]
        rw [e]
        exact h.sz _ (List.getElem_mem hl)
    · rcases List.mem_append.1 hy with h1 | h1
      · exact h.d y h1
      · simp only [List.mem_singleton] at h1
        subst h1
        exact ⟨⟨by show (0 : Int) ≤ ((c % n : Nat) : Int); omega, by show ((c % n : Nat) : Int) < (n : Int); omega⟩, full_size _⟩
    · show (x.1.set (c % n) _).getD j ByteArray.empty = lastD (x.2.2 ++ _) j z32
      rw [lastD_app]
      by_cases e : c % n = j
      · subst e
        simp [List.getD, List.getElem?_set, h.len, hm]
      · have e2 : ¬ (((c % n : Nat) : Int) = (j : Int)) := by omega
        have h3 := h.last j hj
        rw [if_neg e2, ← h3]
        simp [List.getD, List.getElem?_set, e]
theorem winv (n : Nat) (hn : 0 < n) (l : List Nat) : WInv n (wall n l) := by
  have key : ∀ (l : List Nat) x, WInv n x → WInv n (l.foldl (wstep n) x) := by
    intro l
    induction l with
    | nil => intro x h; exact h
    | cons c l ih => intro x h; exact ih _ (winv_step n hn x h c)
  exact key l _ (winv_0 n)
theorem getD_mem {α : Type} (l : List α) (j : Nat) (z : α) (h : j < l.length) : l.getD j z ∈ l := by
  have e : l.getD j z = l[j] := by simp [List.getD, List.getElem?_eq_getElem h]
  rw [e]
  exact List.getElem_mem h
theorem WI.right {w0 : World} {k : Nat} {l : List Nat} {i : Nat} {d : Dk} {D : List (Int × ByteArray)} (h : WI w0 k l i d D) : d.right := by
  have hv := winv (k + 1) (Nat.succ_pos _) (l.take i)
  rw [h.eq] at hv
  refine ⟨fun j hj => hv.sz _ (getD_mem _ _ _ (by rw [h.ok.hS]; exact hj)), fun j hj => ?_⟩
  have := hv.w _ (getD_mem d.W j (0, ByteArray.empty) (by rw [h.ok.hW]; exact hj))
  exact ⟨⟨this.1.1, by have := this.1.2; rw [h.sl]; exact this⟩, this.2⟩
end Go.Proofs.Ytaclhiagfgmgkaa


/-
  Layer 22: each sector reads as the last write to it.
-/
namespace Go.Proofs.Ytaclhiagfgmgkaa
open Go Go.RowKit SZ
set_option linter.unusedVariables false
set_option linter.unusedSimpArgs false
set_option maxRecDepth 100000
attribute [local irreducible] post GD Nxt NxtAll
end Go.Proofs.Ytaclhiagfgmgkaa


/-
  Layer 22: what a crash undoes.
-/
namespace Go.Proofs.Ytaclhiagfgmgkaa
open Go Go.RowKit SZ
set_option linter.unusedVariables false
set_option linter.unusedSimpArgs false
set_option maxRecDepth 100000
attribute [local irreducible] post GD Nxt NxtAll
/-- A row of strings, with room behind it. -/
def rfRow (g : Nat) (S : List ByteArray) : RF := ⟨fun b => b = g, fun w => ∃ cs : List Value, w.heap[g]? = some (.cells cs.toArray 9 (0, 0)) ∧ cs.take S.length = S.map Value.string, fun w h b hb => by
  subst hb
  obtain ⟨cs, h, _⟩ := h
  exact (Array.getElem?_eq_some_iff.1 h).1, fun w w' h hb => by
  obtain ⟨cs, h, q⟩ := h
  exact ⟨cs, (hb g rfl).trans h, q⟩⟩
theorem row_at {w : World} {g : Nat} {S : List ByteArray} (h : (rfRow g S).P w) : StrAt w g 0 S := by
  obtain ⟨cs, h, q⟩ := h
  exact strAt_of h q
/-- A string is stored in a row. -/
theorem row_st {w : World} {g : Nat} {S : List ByteArray} (h : (rfRow g S).P w) (j : Nat) (hj : j < S.length) (s : ByteArray) : (storeVar 9 ⟨g, 0 + j * 1, none⟩ (.string s)).run Try.prog w = .ok () (w.setCells g j [.string s]) ∧ (rfRow g (S.set j s)).P (w.setCells g j [.string s]) := by
  obtain ⟨cs, h, q⟩ := h
  have hl : j < cs.length := by
    have := congrArg List.length q
    simp at this
    omega
  obtain ⟨hr, he⟩ := st_at (P := Try.prog) (ty := 9) (v := .string s) (off := j) (by kernel_rfl) (by kernel_rfl) (by kernel_rfl) h hl
  refine ⟨by rw [Nat.mul_one, Nat.zero_add]; exact hr, _, he, ?_⟩
  rw [List.length_set, List.take_set, List.map_set, q]
def unA (W : List (Int × ByteArray)) : Nat → List ByteArray × List ByteArray → List ByteArray × List ByteArray
  | 0, x => x
  | j + 1, x => unA W j (x.1.set (W.getD j (0, ByteArray.empty)).1.toNat (W.getD j (0, ByteArray.empty)).2, x.2.set j (x.1.getD (W.getD j (0, ByteArray.empty)).1.toNat ByteArray.empty))
theorem mk_run2 (n : Nat) (hn : n ≤ 1000) (w : World) : (Instr.makeSlice 28 (.int .i64 (n : Int)) (.int .i64 (n : Int))).run Try.prog w = .ok (.slice (some ⟨w.heap.size, 0, none⟩) n n) (w.alloc (.cells (zS n 0).toArray 9 (0, 0))) := by
  have hI : (Try.prog.info? 9).map (fun i => (i.zero, i.size, i.bytes)) = some (some (.string ByteArray.empty), 1, 16) := by kernel_rfl
  cases hi : Try.prog.info? 9 with
  | none => rw [hi] at hI; cases hI
  | some i =>
    rw [hi] at hI
    simp only [Option.map_some, Option.some.injEq, Prod.mk.injEq] at hI
    obtain ⟨h1, h2, h3⟩ := hI
    have h := run_makeSlice (P := Try.prog) w 28 9 i (.string ByteArray.empty) Try.underlying28 hi h1 .i64 .i64 (n : Int) (n : Int) (by omega) (by omega) (by rw [h2, Int.toNat_natCast]; omega) (by rw [h3]; omega) (by omega)
    rw [h2, Int.toNat_natCast, Nat.mul_one, made_str] at h
    exact h
noncomputable def udS (g sl sc gd tl : Nat) (ta : Option Addr) (n cc : Nat) : SS := ⟨52, [(0, .v (.slice (some ⟨g, 0, none⟩) sl sc)), (5, .v (.slice (some ⟨gd, 0, none⟩) tl tl)), (6, .v (.slice ta n cc))], []⟩
end Go.Proofs.Ytaclhiagfgmgkaa


/-
  Layer 22: one write is done again, torn.
-/
namespace Go.Proofs.Ytaclhiagfgmgkaa
open Go Go.RowKit SZ
set_option linter.unusedVariables false
set_option linter.unusedSimpArgs false
set_option maxRecDepth 100000
attribute [local irreducible] post GD Nxt NxtAll
def tear (a b : ByteArray) (m : Nat) : ByteArray := a.extract 0 m ++ b.extract m b.size
theorem tear_size (a b : ByteArray) (m : Nat) (ha : a.size = 32) (hb : b.size = 32) (hm : m ≤ 32) : (tear a b m).size = 32 := by
  unfold tear
  rw [ByteArray.size_append, ByteArray.size_extract, ByteArray.size_extract]
  omega
def cutOf (cs : List Int) (j : Nat) : Nat := if j < cs.length then (cs.getD j 0 % 33).toNat else 32
theorem cutOf_le (cs : List Int) (j : Nat) : cutOf cs j ≤ 32 := by unfold cutOf; split <;> omega
def IntsAt (w : World) (b o : Nat) (l : List Int) : Prop := ∀ j, j < l.length → w.cell? ⟨b, o + j, none⟩ = some (.int .i64 (l.getD j 0))
def rfIn (b o : Nat) (l : List Int) : RF := ⟨fun b' => b' = b ∧ l.length ≠ 0, fun w => IntsAt w b o l, fun w h b' hb => by
  obtain ⟨rfl, hl⟩ := hb
  exact World.block_lt_of_cell? w _ (h 0 (by omega)), fun w w' h hb j hj => (World.cell?_of_block (a := ⟨b, o + j, none⟩) (hb b ⟨rfl, by omega⟩)).trans (h j hj)⟩
theorem slS_h (s : ByteArray) (m : Nat) (h : m ≤ s.size) (W : World) : (Instr.sliceAt 9 (.string s) none (some (.int .i64 (m : Int))) none).run Try.prog W = .ok (.string (s.extract 0 m)) W := by
  have hu : Try.prog.underlying 9 = some .string := Try.underlying9
  rw [run_sliceAt_string W _ _ _ _ _ hu, run_slice_string_h W _ _ hu _ _ (by omega) (by omega), Int.toNat_natCast]
theorem slS_l (s : ByteArray) (m : Nat) (h : m ≤ s.size) (W : World) : (Instr.sliceAt 9 (.string s) (some (.int .i64 (m : Int))) none none).run Try.prog W = .ok (.string (s.extract m s.size)) W := by
  have hu : Try.prog.underlying 9 = some .string := Try.underlying9
  rw [run_sliceAt_string W _ _ _ _ _ hu, run_slice_string_l W _ _ hu _ _ (by omega) (by omega), Int.toNat_natCast]
theorem gr_own {w0 w : World} {bs : List Nat} {K : List Bx} {g : Nat} (hl : bs.length = K.length) (h0 : ∀ i k, K[i]? = some k → w0.heap[bs.getD i 0]? = some (.cells k.cs.toArray k.ty (0, 0))) (h1 : ∀ i k, K[i]? = some k → w.heap[bs.getD i 0]? = some (.cells k.cs.toArray k.ty (0, 0))) (hg : Gr w0 w (bs ++ [g])) : w0.grownBy w (some g) := by
  refine ⟨hg.os, hg.tape, hg.output, hg.size, fun k hk hne => ?_⟩
  by_cases hm : k ∈ bs
  · obtain ⟨i, hi, rfl⟩ := List.getElem_of_mem hm
    have e : bs.getD i 0 = bs[i] := by simp [List.getD, List.getElem?_eq_getElem hi]
    have hk2 := List.getElem?_eq_getElem (l := K) (show i < K.length by omega)
    rw [← e, h1 i _ hk2, h0 i _ hk2]
  · exact hg.block k hk (by simp only [List.mem_append, List.mem_singleton, not_or]; exact ⟨hm, fun e => hne (by rw [e])⟩)
def rpA (j : Nat) : List SV := [.v (.int .i64 (j : Int)), .p 0 0, .p 1 0, .p 2 0, .p 3 0]
noncomputable def rpS (j m : Nat) (K : List Bx) : SS := ⟨54, [(0, .v (.int .i64 (j : Int))), (1, .p 0 0), (2, .p 1 0), (3, .p 2 0), (4, .p 3 0), (6, .v (.int .i64 (m : Int)))], K⟩
def goM : Nat → Nat → List Nat → List It → List It
  | n + 1, r, ch, .code (.seq x y) :: k => goM n r ch (.code x :: .code y :: k)
  | n + 1, r, ch, .code (.block id c) :: k => goM n r ch (.code c :: .blk id :: k)
  | n + 1, r + 1, ch, .code (.region _ _ _) :: k => goM n r ch k
  | n + 1, r, ch, .code .skip :: k => goM n r ch k
  | n + 1, r, ch, .blk _ :: k => goM n r ch k
  | n + 1, r, c :: ch, .code (.cond _ x y) :: k => goM n r ch (.code (if c = 1 then x else y) :: k)
  | n + 1, r, _ :: ch, .code (.loop _) :: k => goM n r ch k
  | _, _, _, k => k
end Go.Proofs.Ytaclhiagfgmgkaa


/-
  Layer 22: a crash.
-/
namespace Go.Proofs.Ytaclhiagfgmgkaa
open Go Go.RowKit SZ
set_option linter.unusedVariables false
set_option linter.unusedSimpArgs false
set_option maxRecDepth 100000
attribute [local irreducible] post GD Nxt NxtAll
/-- One write is done again. -/
def crJ (W : List (Int × ByteArray)) (cs : List Int) (Dt : List ByteArray) (j : Nat) (S : List ByteArray) : List ByteArray := S.set (W.getD j (0, ByteArray.empty)).1.toNat (tear (Dt.getD j ByteArray.empty) (S.getD (W.getD j (0, ByteArray.empty)).1.toNat ByteArray.empty) (cutOf cs j))
def crA (W : List (Int × ByteArray)) (cs : List Int) (Dt : List ByteArray) : Nat → List ByteArray → List ByteArray
  | 0, S => S
  | j + 1, S => crJ W cs Dt j (crA W cs Dt j S)
def crU (d : Dk) : List ByteArray × List ByteArray := unA d.W d.tl (d.S, List.replicate d.tl ByteArray.empty)
def crS (d : Dk) (cs : List Int) : List ByteArray := crA d.W cs (crU d).2 d.tl (crU d).1
def All32 (S : List ByteArray) : Prop := ∀ j, j < S.length → (S.getD j ByteArray.empty).size = 32
theorem all32_set {S : List ByteArray} (h : All32 S) (i : Nat) (x : ByteArray) (hx : x.size = 32) : All32 (S.set i x) := fun j hj => by
  rw [List.length_set] at hj
  have := h j hj
  simp only [List.getD, List.getElem?_set] at this ⊢
  split
  · split
    · exact hx
    · rename_i h1 h2; subst h1; exact absurd hj h2
  · exact this
theorem unA_inv (W : List (Int × ByteArray)) (n : Nat) : ∀ (m : Nat) (S Dt : List ByteArray), (∀ j, j < m → (0 ≤ (W.getD j (0, ByteArray.empty)).1 ∧ (W.getD j (0, ByteArray.empty)).1 < (n : Int)) ∧ (W.getD j (0, ByteArray.empty)).2.size = 32) → S.length = n → All32 S → m ≤ Dt.length → (∀ j, m ≤ j → j < Dt.length → (Dt.getD j ByteArray.empty).size = 32) → (unA W m (S, Dt)).1.length = n ∧ All32 (unA W m (S, Dt)).1 ∧ (unA W m (S, Dt)).2.length = Dt.length ∧ All32 (unA W m (S, Dt)).2
  | 0, S, Dt, _, hl, hS, _, hD => ⟨hl, hS, rfl, fun j hj => hD j (Nat.zero_le _) hj⟩
  | m + 1, S, Dt, hW, hl, hS, hm, hD => by
    obtain ⟨hx, hy⟩ := hW m (Nat.lt_succ_self _)
    have h := unA_inv W n m (S.set (W.getD m (0, ByteArray.empty)).1.toNat (W.getD m (0, ByteArray.empty)).2) (Dt.set m (S.getD (W.getD m (0, ByteArray.empty)).1.toNat ByteArray.empty)) (fun j hj => hW j (by omega)) (by simp [hl]) (all32_set hS _ _ hy) (by simp; omega) (fun j h1 h2 => by
      rw [List.length_set] at h2
      simp only [List.getD, List.getElem?_set]
      have e1 := hS (W.getD m (0, ByteArray.empty)).1.toNat (by omega)
      split
      · split
        · exact e1
        · omega
      · have := hD j (by omega) h2
        exact this)
    simp only [List.length_set] at h
    exact h
theorem crA_inv (W : List (Int × ByteArray)) (cs : List Int) (n : Nat) (Dt : List ByteArray) (hD : All32 Dt) : ∀ (m : Nat) (S : List ByteArray), (∀ j, j < m → (0 ≤ (W.getD j (0, ByteArray.empty)).1 ∧ (W.getD j (0, ByteArray.empty)).1 < (n : Int))) → m ≤ Dt.length → S.length = n → All32 S → (crA W cs Dt m S).length = n ∧ All32 (crA W cs Dt m S)
  | 0, S, _, _, hl, hS => ⟨hl, hS⟩
  | m + 1, S, hW, hm, hl, hS => by
    obtain ⟨h1, h2⟩ := crA_inv W cs n Dt hD m S (fun j hj => hW j (by omega)) (by omega) hl hS
    have hx := hW m (Nat.lt_succ_self _)
    exact ⟨by simp [crA, crJ, h1], all32_set h2 _ _ (tear_size _ _ _ (hD m (by omega)) (h2 _ (by omega)) (cutOf_le _ _))⟩
theorem crU_inv (d : Dk) (hd : d.ok) (hr : d.right) : (crU d).1.length = d.sl ∧ All32 (crU d).1 ∧ (crU d).2.length = d.tl ∧ All32 (crU d).2 := by
  have h := unA_inv d.W d.sl d.tl d.S (List.replicate d.tl ByteArray.empty) hr.w hd.hS (fun j hj => hr.s j (by rw [← hd.hS]; exact hj)) (by simp) (fun j h1 h2 => by simp at h2; omega)
  simpa [crU] using h
theorem crS_inv (d : Dk) (hd : d.ok) (hr : d.right) (cs : List Int) : (crS d cs).length = d.sl ∧ All32 (crS d cs) := by
  obtain ⟨h1, h2, h3, h4⟩ := crU_inv d hd hr
  exact crA_inv d.W cs d.sl _ h4 d.tl _ (fun j hj => (hr.w j hj).1) (by omega) h1 h2
end Go.Proofs.Ytaclhiagfgmgkaa


/-
  Layer 22: what the bytes are after a crash.
-/
namespace Go.Proofs.Ytaclhiagfgmgkaa
open Go Go.RowKit SZ
set_option linter.unusedVariables false
set_option linter.unusedSimpArgs false
set_option maxRecDepth 100000
attribute [local irreducible] post GD Nxt NxtAll
theorem gset_eq {α : Type} (l : List α) (i : Nat) (x z : α) (h : i < l.length) : (l.set i x).getD i z = x := by simp [List.getD, List.getElem?_set, h]
theorem gset_ne {α : Type} (l : List α) (i j : Nat) (x z : α) (h : i ≠ j) : (l.set i x).getD j z = l.getD j z := by simp [List.getD, List.getElem?_set, h]
theorem set_back {α : Type} (l : List α) (i : Nat) (x z : α) : (l.set i x).set i (l.getD i z) = l := by
  rw [List.set_set]
  by_cases h : i < l.length
  · have e : l.getD i z = l[i] := by simp [List.getD, List.getElem?_eq_getElem h]
    rw [e, List.set_getElem_self]
  · exact List.set_eq_of_length_le (by omega)
def byt (s : ByteArray) (k : Nat) : Nat := (s.data.toList.getD k 0).toNat
theorem byt_ix (s : ByteArray) (k : Nat) (h : k < s.size) : (s[k]'h).toNat = byt s k := by
  have h2 : k < s.data.toList.length := by simpa using h
  unfold byt
  rw [List.getD, List.getElem?_eq_getElem h2]
  rfl
theorem byt_tear (a b : ByteArray) (m k : Nat) (ha : a.size = 32) (hb : b.size = 32) (hm : m ≤ 32) (hk : k < 32) : byt (tear a b m) k = if k < m then byt a k else byt b k := by
  have ha2 : a.data.toList.length = 32 := by simpa using ha
  have hb2 : b.data.toList.length = 32 := by simpa using hb
  have e : (tear a b m).data.toList = a.data.toList.take m ++ b.data.toList.drop m := by
    unfold tear
    rw [ByteArray.data_append, ByteArray.data_extract, ByteArray.data_extract, Array.toList_append]
    simp
    rw [List.take_of_length_le (by simp [hb2, hb])]
  unfold byt
  rw [e]
  simp only [List.getD, List.getElem?_append, List.length_take, ha2, List.getElem?_take, List.getElem?_drop]
  by_cases h : k < m
  · rw [if_pos (by omega), if_pos h, if_pos h]
  · rw [if_neg (by omega), if_neg h, show m + (k - min m 32) = k by omega]
/-- Every byte is the old one or one of a write to that sector. -/
theorem crA_byt (W : List (Int × ByteArray)) (cs : List Int) (n : Nat) (Dt : List ByteArray) (hD : All32 Dt) (a k : Nat) (ha : a < n) (hk : k < 32) : ∀ (m : Nat) (S : List ByteArray), (∀ j, j < m → (0 ≤ (W.getD j (0, ByteArray.empty)).1 ∧ (W.getD j (0, ByteArray.empty)).1 < (n : Int))) → m ≤ Dt.length → S.length = n → All32 S →
    byt ((crA W cs Dt m S).getD a ByteArray.empty) k = byt (S.getD a ByteArray.empty) k ∨ ∃ j, j < m ∧ (W.getD j (0, ByteArray.empty)).1 = (a : Int) ∧ byt ((crA W cs Dt m S).getD a ByteArray.empty) k = byt (Dt.getD j ByteArray.empty) k
  | 0, S, _, _, _, _ => Or.inl rfl
  | m + 1, S, hW, hm, hl, hS => by
    have ih := crA_byt W cs n Dt hD a k ha hk m S (fun j hj => hW j (by omega)) (by omega) hl hS
    obtain ⟨h1, h2⟩ := crA_inv W cs n Dt hD m S (fun j hj => hW j (by omega)) (by omega) hl hS
    have hx := hW m (Nat.lt_succ_self _)
    have ih' : byt ((crA W cs Dt m S).getD a ByteArray.empty) k = byt (S.getD a ByteArray.empty) k ∨ ∃ j, j < m + 1 ∧ (W.getD j (0, ByteArray.empty)).1 = (a : Int) ∧ byt ((crA W cs Dt m S).getD a ByteArray.empty) k = byt (Dt.getD j ByteArray.empty) k := ih.imp id fun ⟨j, hj, q⟩ => ⟨j, by omega, q⟩
    by_cases he : (W.getD m (0, ByteArray.empty)).1.toNat = a
    · have e : (crA W cs Dt (m + 1) S).getD a ByteArray.empty = tear (Dt.getD m ByteArray.empty) ((crA W cs Dt m S).getD a ByteArray.empty) (cutOf cs m) := by
        show (List.set _ _ _).getD a ByteArray.empty = _
        rw [he]
        exact gset_eq _ _ _ _ (by rw [h1]; exact ha)
      rw [e, byt_tear _ _ _ _ (hD m (by omega)) (h2 a (by omega)) (cutOf_le _ _) hk]
      by_cases hc : k < cutOf cs m
      · rw [if_pos hc]
        exact Or.inr ⟨m, by omega, by omega, rfl⟩
      · rw [if_neg hc]
        exact ih'
    · have e : (crA W cs Dt (m + 1) S).getD a ByteArray.empty = (crA W cs Dt m S).getD a ByteArray.empty := by
        exact gset_ne _ _ _ _ _ he
      rw [e]
      exact ih'
theorem unA_app (W X : List (Int × ByteArray)) : ∀ (m : Nat) (x : List ByteArray × List ByteArray), m ≤ W.length → unA (W ++ X) m x = unA W m x
  | 0, x, _ => rfl
  | m + 1, x, h => by
    have e : (W ++ X).getD m (0, ByteArray.empty) = W.getD m (0, ByteArray.empty) := by simp [List.getD, List.getElem?_append_left (show m < W.length by omega)]
    simp only [unA]
    rw [e]
    exact unA_app W X m _ (by omega)
/-- What a list of commands without a sync does, and what undoes it. -/
structure UnR (n : Nat) (S0 : List ByteArray) (D0 : List (Int × ByteArray)) (l : List Nat) (x : List ByteArray × List (Int × ByteArray) × List (Int × ByteArray)) : Prop where
  len : x.1.length = n
  wl : x.2.1.length = l.length
  w1 : ∀ j, j < l.length → (x.2.1.getD j (0, ByteArray.empty)).1 = ((l.getD j 0 % n : Nat) : Int)
  d : x.2.2 = D0 ++ l.map fun c => (((c % n : Nat) : Int), fullS (c : Int))
  un : ∀ Dt : List ByteArray, l.length ≤ Dt.length → (unA x.2.1 l.length (x.1, Dt)).1 = S0 ∧ (unA x.2.1 l.length (x.1, Dt)).2.length = Dt.length ∧ ∀ j, (unA x.2.1 l.length (x.1, Dt)).2.getD j ByteArray.empty = if j < l.length then fullS ((l.getD j 0 : Nat) : Int) else Dt.getD j ByteArray.empty
theorem unr_all (n : Nat) (hn : 0 < n) (S0 : List ByteArray) (hS : S0.length = n) (D0 : List (Int × ByteArray)) : ∀ (m : Nat) (l : List Nat), l.length = m → (∀ c ∈ l, c ≠ 255) → UnR n S0 D0 l (l.foldl (wstep n) (S0, [], D0))
  | 0, l, hm, _ => by
    obtain rfl := List.eq_nil_of_length_eq_zero hm
    exact ⟨hS, rfl, fun j hj => absurd hj (Nat.not_lt_zero _), by simp, fun Dt _ => ⟨rfl, rfl, fun j => by simp [unA]⟩⟩
  | m + 1, l, hm, h => by
    obtain ⟨l', c, rfl⟩ : ∃ l' c, l = l' ++ [c] := by
      rcases List.eq_nil_or_concat l with e | ⟨l', c, e⟩
      · rw [e] at hm; cases hm
      · exact ⟨l', c, by rw [e, List.concat_eq_append]⟩
    have hl : l'.length = m := by simpa using hm
    have ih := unr_all n hn S0 hS D0 m l' hl (fun c hc => h c (List.mem_append_left _ hc))
    have hc : c ≠ 255 := h c (by simp)
    have hcn := Nat.mod_lt c hn
    rw [List.foldl_append]
    generalize l'.foldl (wstep n) (S0, [], D0) = x at ih ⊢
    have e : List.foldl (wstep n) x [c] = (x.1.set (c % n) (fullS (c : Int)), x.2.1 ++ [(((c % n : Nat) : Int), x.1.getD (c % n) ByteArray.empty)], x.2.2 ++ [(((c % n : Nat) : Int), fullS (c : Int))]) := by
      simp [wstep, hc]
    rw [e]
    refine ⟨by simp [ih.len], by simp [ih.wl], fun j hj => ?_, by simp [ih.d], fun Dt hDt => ?_⟩
    · by_cases hjl : j < l'.length
      · have := ih.w1 j hjl
        show ((x.2.1 ++ _).getD j (0, ByteArray.empty)).1 = _
        simp only [List.getD, List.getElem?_append_left (show j < x.2.1.length by rw [ih.wl]; exact hjl), List.getElem?_append_left hjl] at this ⊢
        exact this
      · obtain rfl : j = l'.length := by simp at hj; omega
        show ((x.2.1 ++ _).getD l'.length (0, ByteArray.empty)).1 = _
        rw [← ih.wl]
        simp only [List.getD, List.getElem?_concat_length, Option.getD_some]
        rw [ih.wl, List.getElem?_concat_length]
        rfl
    · have hDt' : l'.length < Dt.length := by simp at hDt; omega
      have e1 : (l' ++ [c]).length = l'.length + 1 := by simp
      have e2 : (x.2.1 ++ [(((c % n : Nat) : Int), x.1.getD (c % n) ByteArray.empty)]).getD l'.length (0, ByteArray.empty) = (((c % n : Nat) : Int), x.1.getD (c % n) ByteArray.empty) := by
        rw [← ih.wl]
        simp only [List.getD, List.getElem?_concat_length, Option.getD_some]
      have e3 : unA (x.2.1 ++ [(((c % n : Nat) : Int), x.1.getD (c % n) ByteArray.empty)]) (l' ++ [c]).length (x.1.set (c % n) (fullS (c : Int)), Dt) = unA x.2.1 l'.length (x.1, Dt.set l'.length (fullS (c : Int))) := by
        rw [e1]
        show unA _ l'.length (List.set _ _ _, List.set _ _ _) = _
        rw [e2]
        show unA _ l'.length ((x.1.set (c % n) (fullS (c : Int))).set (((c % n : Nat) : Int)).toNat (x.1.getD (c % n) ByteArray.empty), Dt.set l'.length ((x.1.set (c % n) (fullS (c : Int))).getD (((c % n : Nat) : Int)).toNat ByteArray.empty)) = _
        rw [Int.toNat_natCast, set_back, gset_eq _ _ _ _ (by rw [ih.len]; exact hcn), unA_app _ _ _ _ (by rw [ih.wl]; exact Nat.le_refl _)]
      show (unA (x.2.1 ++ _) _ (_, Dt)).1 = S0 ∧ _
      rw [e3]
      obtain ⟨h1, h2, h3⟩ := ih.un (Dt.set l'.length (fullS (c : Int))) (by simp; omega)
      refine ⟨h1, by rw [h2, List.length_set], fun j => ?_⟩
      rw [h3 j]
      by_cases hj : j < l'.length
      · rw [if_pos hj, if_pos (by omega)]
        simp [List.getD, List.getElem?_append_left hj]
      · rw [if_neg hj]
        by_cases hj2 : j = l'.length
        · subst hj2
          rw [if_pos (by omega), gset_eq _ _ _ _ hDt']
          simp only [List.getD, List.getElem?_concat_length, Option.getD_some]
        · rw [if_neg (by omega), gset_ne _ _ _ _ _ (fun e => hj2 e.symm)]
/-- Behind the last sync. -/
def lastS (l : List Nat) : Nat → Nat
  | 0 => 0
  | i + 1 => if l.getD i 0 = 255 then i + 1 else lastS l i
theorem lastS_le (l : List Nat) : ∀ i, lastS l i ≤ i
  | 0 => Nat.le_refl _
  | i + 1 => by
    unfold lastS
    split
    · exact Nat.le_refl _
    · exact Nat.le_succ_of_le (lastS_le l i)
theorem lastS_ne (l : List Nat) : ∀ i j, lastS l i ≤ j → j < i → l.getD j 0 ≠ 255
  | 0, j, _, h => absurd h (Nat.not_lt_zero _)
  | i + 1, j, h1, h2 => by
    unfold lastS at h1
    split at h1
    · omega
    · rename_i h
      by_cases e : j = i
      · rw [e]; exact h
      · exact lastS_ne l i j h1 (by omega)
theorem lastS_at (l : List Nat) : ∀ i, lastS l i = 0 ∨ (0 < lastS l i ∧ l.getD (lastS l i - 1) 0 = 255)
  | 0 => Or.inl rfl
  | i + 1 => by
    unfold lastS
    split
    · exact Or.inr ⟨Nat.succ_pos _, by assumption⟩
    · exact lastS_at l i
theorem wall_last (n : Nat) (l : List Nat) (p : Nat) (hp : p = lastS l l.length) : (wall n (l.take p)).2.1 = [] := by
  rcases lastS_at l l.length with h | ⟨h1, h2⟩
  · rw [hp, h]; rfl
  · have hle := lastS_le l l.length
    have e := wall_succ n l (p - 1) (by omega)
    rw [show p - 1 + 1 = p by omega, show l.getD (p - 1) 0 = 255 by rw [hp]; exact h2] at e
    rw [e]
    rfl
def isA (s o : ByteArray) (D : List (Int × ByteArray)) (a k b0 : Nat) : Nat → Bool
  | 0 => decide (((byt s k : Nat) : Int) = ((byt o k : Nat) : Int))
  | j + 1 => isA s o D a k b0 j || (decide ((D.getD (b0 + j) (0, ByteArray.empty)).1 = (a : Int)) && decide (((byt s k : Nat) : Int) = ((byt (D.getD (b0 + j) (0, ByteArray.empty)).2 k : Nat) : Int)))
theorem isA_of (s o : ByteArray) (D : List (Int × ByteArray)) (a k b0 : Nat) : ∀ m, (byt s k = byt o k ∨ ∃ j, j < m ∧ (D.getD (b0 + j) (0, ByteArray.empty)).1 = (a : Int) ∧ byt s k = byt (D.getD (b0 + j) (0, ByteArray.empty)).2 k) → isA s o D a k b0 m = true
  | 0, h => by
    rcases h with h | ⟨j, hj, _⟩
    · simp [isA, h]
    · omega
  | m + 1, h => by
    simp only [isA, Bool.or_eq_true, Bool.and_eq_true, decide_eq_true_eq]
    rcases h with h | ⟨j, hj, h1, h2⟩
    · exact Or.inl (isA_of s o D a k b0 m (Or.inl h))
    · by_cases e : j = m
      · subst e; exact Or.inr ⟨h1, by rw [h2]⟩
      · exact Or.inl (isA_of s o D a k b0 m (Or.inr ⟨j, by omega, h1, h2⟩))
/-- Each byte of the device after a crash. -/
theorem tears (n : Nat) (hn : 0 < n) (l : List Nat) (d : Dk) (hd : d.ok) (hr : d.right) (hsl : d.sl = n) (D : List (Int × ByteArray)) (he : wall n l = (d.S, d.W, D)) (S2 : List ByteArray) (W2 D2 : List (Int × ByteArray)) (he2 : wall n (l.take (lastS l l.length)) = (S2, W2, D2)) (cs : List Int) :
    (S2.length = n ∧ All32 S2) ∧ D2.length ≤ D.length ∧ ∀ a k, a < n → k < 32 → isA ((crS d cs).getD a ByteArray.empty) (S2.getD a ByteArray.empty) D a k D2.length (D.length - D2.length) = true := by
  have hle := lastS_le l l.length
  have hv2 := winv n hn (l.take (lastS l l.length))
  have hw2 := wall_last n l _ rfl
  rw [he2] at hv2 hw2
  have hw2' : W2 = [] := hw2
  subst hw2'
  have e0 : (l.drop (lastS l l.length)).foldl (wstep n) (S2, [], D2) = (d.S, d.W, D) := by
    rw [← he, ← he2]
    unfold wall
    rw [← List.foldl_append, List.take_append_drop]
  have hu := unr_all n hn S2 hv2.len D2 _ (l.drop (lastS l l.length)) rfl (fun c hc => by
    obtain ⟨j, hj, rfl⟩ := List.getElem_of_mem hc
    have hj2 : j < l.length - lastS l l.length := by simpa using hj
    have h1 := lastS_ne l l.length (lastS l l.length + j) (by omega) (by omega)
    rw [List.getElem_drop]
    intro e
    apply h1
    rw [List.getD, List.getElem?_eq_getElem (by omega)]
    exact e)
  rw [e0] at hu
  have hS2 : S2.length = n ∧ All32 S2 := ⟨hv2.len, fun j hj => hv2.sz _ (getD_mem _ _ _ hj)⟩
  have htl : d.tl = (l.drop (lastS l l.length)).length := by rw [← hd.hW]; exact hu.wl
  have hD : D = D2 ++ (l.drop (lastS l l.length)).map fun c => (((c % n : Nat) : Int), fullS (c : Int)) := hu.d
  generalize l.drop (lastS l l.length) = l' at hu htl hD
  refine ⟨hS2, by rw [hD, List.length_append]; omega, fun a k ha hk => ?_⟩
  obtain ⟨h1, h2, h3⟩ := hu.un (List.replicate d.tl ByteArray.empty) (by simp; omega)
  obtain ⟨hu1, hu2, hu3, hu4⟩ := crU_inv d hd hr
  have hc : crU d = unA d.W l'.length (d.S, List.replicate d.tl ByteArray.empty) := by unfold crU; rw [htl]
  have hb := crA_byt d.W cs n (crU d).2 hu4 a k ha hk d.tl (crU d).1 (fun j hj => by have := (hr.w j hj).1; rw [hsl] at this; exact this) (by omega) (by rw [hu1, hsl]) hu2
  have e1 : (crU d).1 = S2 := by rw [hc]; exact h1
  rw [show crA d.W cs (crU d).2 d.tl (crU d).1 = crS d cs from rfl, e1] at hb
  refine isA_of _ _ _ _ _ _ _ (hb.imp id fun ⟨j, hj, q1, q2⟩ => ?_)
  have hjl : j < l'.length := by omega
  have eD : D.getD (D2.length + j) (0, ByteArray.empty) = (((l'.getD j 0 % n : Nat) : Int), fullS ((l'.getD j 0 : Nat) : Int)) := by
    rw [hD]
    simp [List.getD, List.getElem?_append_right, List.getElem?_eq_getElem hjl]
  refine ⟨j, by rw [hD, List.length_append, List.length_map]; omega, ?_, ?_⟩
  · rw [eD, ← q1]
    exact (hu.w1 j hjl).symm
  · rw [eD, q2, hc]
    have := h3 j
    rw [if_pos hjl] at this
    show byt ((unA d.W l'.length (d.S, List.replicate d.tl ByteArray.empty)).2.getD j ByteArray.empty) k = _
    rw [this]
theorem sl_pre (a : Option Addr) (n c m : Nat) (h : m ≤ c) (W : World) : (Instr.sliceAt 43 (.slice a n c) none (some (.int .i64 (m : Int))) none).run Try.prog W = .ok (.slice a m c) W := by
  have hu : Try.prog.underlying 43 = some (.slice (Try.prog.elem 43)) := by rw [Try.underlying43]; kernel_rfl
  rw [run_sliceAt_slice W _ _ _ _ _ hu, run_slice_any W _ _ _ _ hu]
  have hs : (Instr.sliceBounds true n c none (some (.int .i64 (m : Int))) none).run Try.prog W = .ok (0, m, c) W := by
    simp [Instr.sliceBounds, run_sliceBound, h]
  rw [hs]
  have hI : (Try.prog.info? (Try.prog.elem 43)).isSome = true := by kernel_rfl
  obtain ⟨ii, hi⟩ := Option.isSome_iff_exists.1 hI
  have ha : (if c = 0 then a else a.map (·.add (0 * ii.size))) = a := by
    rw [Nat.zero_mul]
    have e : (fun x : Addr => x.add 0) = id := by funext x; simp [Addr.add]
    rw [e, Option.map_id]
    simp
  simp [sizeOf, typeInfo, sliced, hi]
  simpa using ha
/-- A byte of a string. -/
theorem ex_ix {s : SS} {bs : List Nat} {x y : Operand} {t ty : TypeId} {p : ByteArray} {k : Nat} (ht : Try.prog.underlying t = some .string) (hx : s.val x = some (.v (.string p))) (hy : s.val y = some (.v (.int .i64 (k : Int)))) (hk : k < p.size) :
    ∀ (o : Oper) (ρ : Operand → Value) (W : World), o.op = .index t x y → o.type = ty → (∀ x y, s.val x = some y → ρ x = den bs y) → (execOp ρ o).run Try.prog W = .ok (.value (.int .u8 ((byt p k : Nat) : Int))) W := by
  intro o ρ W h1 h2 h3
  have e1 : ρ x = .string p := h3 x _ hx
  have e2 : ρ y = .int .i64 (k : Int) := h3 y _ hy
  have hr : ∀ W, (Instr.index t (.string p) (.int .i64 (k : Int))).run Try.prog W = .ok (.int .u8 ((byt p k : Nat) : Int)) W := fun W => by
    rw [run_index_string W t p .i64 _ ht, dif_pos ⟨by omega, by omega⟩]
    have e := byt_ix p k hk
    simp only [Int.toNat_natCast]
    rw [e]
  unfold execOp
  simp only [h1, e1, e2, Sem.run_bind, Sem.run_pure, Result.andThen_ok, hr]
theorem ex_eqI {s : SS} {bs : List Nat} {x y : Operand} {t t' ty : TypeId} {ki : IntKind} {p q : Int} {b : Bool} (hx : s.val x = some (.v (.int ki p))) (hy : s.val y = some (.v (.int ki q))) (hb : decide (p = q) = b) :
    ∀ (o : Oper) (ρ : Operand → Value) (W : World), o.op = .binOp .eql t x y t' → o.type = ty → (∀ x y, s.val x = some y → ρ x = den bs y) → (execOp ρ o).run Try.prog W = .ok (.value (.bool b)) W := by
  intro o ρ W h1 h2 h3
  have e1 : ρ x = .int ki p := h3 x _ hx
  have e2 : ρ y = .int ki q := h3 y _ hy
  subst hb
  have hb2 : (p == q) = decide (p = q) := rfl
  unfold execOp
  simp only [h1, e1, e2, eqGuard, binOp_eql, hb2, Sem.run_bind, Sem.run_pure, Result.andThen_ok]
  rfl
end Go.Proofs.Ytaclhiagfgmgkaa


/-
  Layer 22: writes behind a sync; equality of devices.
-/
namespace Go.Proofs.Ytaclhiagfgmgkaa
open Go Go.RowKit SZ
set_option linter.unusedVariables false
set_option linter.unusedSimpArgs false
set_option maxRecDepth 100000
attribute [local irreducible] post GD Nxt NxtAll
def wput (n : Nat) (x : List ByteArray × List (Int × ByteArray) × List (Int × ByteArray)) (c : Nat) : List ByteArray × List (Int × ByteArray) × List (Int × ByteArray) := (x.1.set (c % n) (fullS (c : Int)), x.2.1 ++ [(((c % n : Nat) : Int), x.1.getD (c % n) ByteArray.empty)], x.2.2 ++ [(((c % n : Nat) : Int), fullS (c : Int))])
theorem unr_put (n : Nat) (hn : 0 < n) (S0 : List ByteArray) (hS : S0.length = n) (D0 : List (Int × ByteArray)) : ∀ (m : Nat) (l : List Nat), l.length = m → UnR n S0 D0 l (l.foldl (wput n) (S0, [], D0))
  | 0, l, hm => by
    obtain rfl := List.eq_nil_of_length_eq_zero hm
    exact ⟨hS, rfl, fun j hj => absurd hj (Nat.not_lt_zero _), by simp, fun Dt _ => ⟨rfl, rfl, fun j => by simp [unA]⟩⟩
  | m + 1, l, hm => by
    obtain ⟨l', c, rfl⟩ : ∃ l' c, l = l' ++ [c] := by
      rcases List.eq_nil_or_concat l with e | ⟨l', c, e⟩
      · rw [e] at hm; cases hm
      · exact ⟨l', c, by rw [e, List.concat_eq_append]⟩
    have hl : l'.length = m := by simpa using hm
    have ih := unr_put n hn S0 hS D0 m l' hl
    have hcn := Nat.mod_lt c hn
    rw [List.foldl_append]
    generalize l'.foldl (wput n) (S0, [], D0) = x at ih ⊢
    have e : List.foldl (wput n) x [c] = (x.1.set (c % n) (fullS (c : Int)), x.2.1 ++ [(((c % n : Nat) : Int), x.1.getD (c % n) ByteArray.empty)], x.2.2 ++ [(((c % n : Nat) : Int), fullS (c : Int))]) := by
      simp [wput]
    rw [e]
    refine ⟨by simp [ih.len], by simp [ih.wl], fun j hj => ?_, by simp [ih.d], fun Dt hDt => ?_⟩
    · by_cases hjl : j < l'.length
      · have := ih.w1 j hjl
        show ((x.2.1 ++ _).getD j (0, ByteArray.empty)).1 = _
        simp only [List.getD, List.getElem?_append_left (show j < x.2.1.length by rw [ih.wl]; exact hjl), List.getElem?_append_left hjl] at this ⊢
        exact this
      · obtain rfl : j = l'.length := by simp at hj; omega
        show ((x.2.1 ++ _).getD l'.length (0, ByteArray.empty)).1 = _
        rw [← ih.wl]
        simp only [List.getD, List.getElem?_concat_length, Option.getD_some]
        rw [ih.wl, List.getElem?_concat_length]
        rfl
    · have hDt' : l'.length < Dt.length := by simp at hDt; omega
      have e1 : (l' ++ [c]).length = l'.length + 1 := by simp
      have e2 : (x.2.1 ++ [(((c % n : Nat) : Int), x.1.getD (c % n) ByteArray.empty)]).getD l'.length (0, ByteArray.empty) = (((c % n : Nat) : Int), x.1.getD (c % n) ByteArray.empty) := by
        rw [← ih.wl]
        simp only [List.getD, List.getElem?_concat_length, Option.getD_some]
      have e3 : unA (x.2.1 ++ [(((c % n : Nat) : Int), x.1.getD (c % n) ByteArray.empty)]) (l' ++ [c]).length (x.1.set (c % n) (fullS (c : Int)), Dt) = unA x.2.1 l'.length (x.1, Dt.set l'.length (fullS (c : Int))) := by
        rw [e1]
        show unA _ l'.length (List.set _ _ _, List.set _ _ _) = _
        rw [e2]
        show unA _ l'.length ((x.1.set (c % n) (fullS (c : Int))).set (((c % n : Nat) : Int)).toNat (x.1.getD (c % n) ByteArray.empty), Dt.set l'.length ((x.1.set (c % n) (fullS (c : Int))).getD (((c % n : Nat) : Int)).toNat ByteArray.empty)) = _
        rw [Int.toNat_natCast, set_back, gset_eq _ _ _ _ (by rw [ih.len]; exact hcn), unA_app _ _ _ _ (by rw [ih.wl]; exact Nat.le_refl _)]
      show (unA (x.2.1 ++ _) _ (_, Dt)).1 = S0 ∧ _
      rw [e3]
      obtain ⟨h1, h2, h3⟩ := ih.un (Dt.set l'.length (fullS (c : Int))) (by simp; omega)
      refine ⟨h1, by rw [h2, List.length_set], fun j => ?_⟩
      rw [h3 j]
      by_cases hj : j < l'.length
      · rw [if_pos hj, if_pos (by omega)]
        simp [List.getD, List.getElem?_append_left hj]
      · rw [if_neg hj]
        by_cases hj2 : j = l'.length
        · subst hj2
          rw [if_pos (by omega), gset_eq _ _ _ _ hDt']
          simp only [List.getD, List.getElem?_concat_length, Option.getD_some]
        · rw [if_neg (by omega), gset_ne _ _ _ _ _ (fun e => hj2 e.symm)]
def mput (n : Nat) (S0 : List ByteArray) (l : List Nat) : List ByteArray × List (Int × ByteArray) × List (Int × ByteArray) := l.foldl (wput n) (S0, [], [])
theorem mput_succ (n : Nat) (S0 : List ByteArray) (l : List Nat) (i : Nat) (h : i < l.length) : mput n S0 (l.take (i + 1)) = wput n (mput n S0 (l.take i)) (l.getD i 0) := by
  have e := List.take_succ_eq_append_getElem h
  unfold mput
  rw [e, List.foldl_append]
  simp [List.getD, List.getElem?_eq_getElem h]
theorem tear_0 (a b : ByteArray) : tear a b 0 = b := by
  unfold tear
  rw [show a.extract 0 0 = ByteArray.empty by simp, ByteArray.empty_append, ByteArray.extract_zero_size]
theorem tear_32 (a b : ByteArray) (ha : a.size = 32) (hb : b.size = 32) : tear a b 32 = a := by
  unfold tear
  rw [hb, show b.extract 32 32 = ByteArray.empty by simp, ByteArray.append_empty, ← ha, ByteArray.extract_zero_size]
theorem crA_un (W : List (Int × ByteArray)) (cs : List Int) (Dt : List ByteArray) (a : Nat) : ∀ (m : Nat) (S : List ByteArray), (∀ j, j < m → (W.getD j (0, ByteArray.empty)).1.toNat ≠ a) → (crA W cs Dt m S).getD a ByteArray.empty = S.getD a ByteArray.empty
  | 0, S, _ => rfl
  | m + 1, S, h => by
    show (List.set _ _ _).getD a ByteArray.empty = _
    rw [gset_ne _ _ _ _ _ (h m (Nat.lt_succ_self _))]
    exact crA_un W cs Dt a m S fun j hj => h j (by omega)
theorem crA_none (W : List (Int × ByteArray)) (cs : List Int) (Dt : List ByteArray) (hc : ∀ j, cutOf cs j = 0 ∨ j ≥ W.length) : ∀ (m : Nat) (S : List ByteArray), m ≤ W.length → crA W cs Dt m S = S
  | 0, S, _ => rfl
  | m + 1, S, h => by
    show List.set _ _ _ = _
    rw [crA_none W cs Dt hc m S (by omega), (hc m).resolve_right (by omega), tear_0]
    have e := set_back S (W.getD m (0, ByteArray.empty)).1.toNat ByteArray.empty ByteArray.empty
    rw [List.set_set] at e
    exact e
/-- A crash behind some writes. -/
structure Keeps (n : Nat) (S0 : List ByteArray) (l : List Nat) (d : Dk) : Prop where
  none : ∀ cs : List Int, (∀ j, j < l.length → cutOf cs j = 0) → crS d cs = S0
  all : crS d [] = d.S
  un : ∀ cs a, a < n → (∀ j, j < l.length → l.getD j 0 % n ≠ a) → (crS d cs).getD a ByteArray.empty = S0.getD a ByteArray.empty
theorem keeps (n : Nat) (hn : 0 < n) (S0 : List ByteArray) (hS : S0.length = n) (l : List Nat) (d : Dk) (hd : d.ok) (hr : d.right) (hsl : d.sl = n) (D : List (Int × ByteArray)) (he : mput n S0 l = (d.S, d.W, D)) : Keeps n S0 l d := by
  have hu := unr_put n hn S0 hS [] _ l rfl
  rw [show l.foldl (wput n) (S0, [], []) = mput n S0 l from rfl, he] at hu
  have htl : d.tl = l.length := by rw [← hd.hW]; exact hu.wl
  obtain ⟨h1, h2, h3⟩ := hu.un (List.replicate d.tl ByteArray.empty) (by simp; omega)
  have hc : crU d = unA d.W l.length (d.S, List.replicate d.tl ByteArray.empty) := by unfold crU; rw [htl]
  have e1 : (crU d).1 = S0 := by rw [hc]; exact h1
  have e2 : ∀ j, j < l.length → (crU d).2.getD j ByteArray.empty = fullS ((l.getD j 0 : Nat) : Int) := fun j hj => by
    have := h3 j
    rw [if_pos hj] at this
    rw [hc]; exact this
  have e3 : ∀ cs, crS d cs = crA d.W cs (crU d).2 l.length S0 := fun cs => by unfold crS; rw [e1, htl]
  refine ⟨fun cs h => ?_, ?_, fun cs a ha h => ?_⟩
  · rw [e3]
    exact crA_none d.W cs _ (fun j => by rcases Nat.lt_or_ge j l.length with q | q; exact Or.inl (h j q); exact Or.inr (by rw [show d.W.length = l.length from hu.wl]; exact q)) _ _ (by rw [show d.W.length = l.length from hu.wl]; exact Nat.le_refl _)
  · rw [e3]
    obtain ⟨hu1, hu2, hu3, hu4⟩ := crU_inv d hd hr
    rw [e1] at hu1 hu2
    have key : ∀ m, m ≤ l.length → crA d.W [] (crU d).2 m S0 = (mput n S0 (l.take m)).1 := by
      intro m
      induction m with
      | zero => intro _; rfl
      | succ m ih =>
        intro hm
        rw [mput_succ n S0 l m (by omega)]
        show crJ d.W [] (crU d).2 m (crA d.W [] (crU d).2 m S0) = ((mput n S0 (l.take m)).1.set (l.getD m 0 % n) (fullS ((l.getD m 0 : Nat) : Int)))
        obtain ⟨q1, q2⟩ := crA_inv d.W [] n (crU d).2 hu4 m S0 (fun j hj => by have := (hr.w j (by omega)).1; rw [hsl] at this; exact this) (by omega) hS hu2
        have hx : (d.W.getD m (0, ByteArray.empty)).1 = ((l.getD m 0 % n : Nat) : Int) := hu.w1 m (by omega)
        have hlt := Nat.mod_lt (l.getD m 0) hn
        unfold crJ
        rw [hx, Int.toNat_natCast, ← ih (by omega)]
        rw [show cutOf [] m = 32 by simp [cutOf], tear_32 _ _ (hu4 m (by omega)) (q2 _ (by omega)), e2 m (by omega)]
    rw [key l.length (Nat.le_refl _), List.take_length, he]
  · rw [e3]
    rw [crA_un d.W cs _ a _ _ fun j hj => by
      have hx : (d.W.getD j (0, ByteArray.empty)).1 = ((l.getD j 0 % n : Nat) : Int) := hu.w1 j hj
      rw [hx, Int.toNat_natCast]; exact h j hj]
theorem crS_synced (d : Dk) (htl : d.tl = 0) (cs : List Int) : crS d cs = d.S := by
  unfold crS crU
  rw [htl]
  rfl
theorem ex_neS {s : SS} {bs : List Nat} {x y : Operand} {t t' ty : TypeId} {p q : ByteArray} {b : Bool} (hx : s.val x = some (.v (.string p))) (hy : s.val y = some (.v (.string q))) (hb : (!(p.toList == q.toList)) = b) :
    ∀ (o : Oper) (ρ : Operand → Value) (W : World), o.op = .binOp .neq t x y t' → o.type = ty → (∀ x y, s.val x = some y → ρ x = den bs y) → (execOp ρ o).run Try.prog W = .ok (.value (.bool b)) W := by
  intro o ρ W h1 h2 h3
  have e1 : ρ x = .string p := h3 x _ hx
  have e2 : ρ y = .string q := h3 y _ hy
  subst hb
  unfold execOp
  simp only [h1, e1, e2, eqGuard, binOp_string_neq, Sem.run_bind, Sem.run_pure, Result.andThen_ok]
  rfl
end Go.Proofs.Ytaclhiagfgmgkaa


/-
  Layer 22: any device: whether it is small, whether it is right.
-/
namespace Go.Proofs.Ytaclhiagfgmgkaa
open Go Go.RowKit SZ
set_option linter.unusedVariables false
set_option linter.unusedSimpArgs false
set_option maxRecDepth 100000
attribute [local irreducible] post GD Nxt NxtAll
/-- Any device. -/
structure Dk.gen (d : Dk) : Prop where
  hS : d.S.length = d.sl
  hs : d.sl = 0 ∨ d.sa = some ⟨d.b, d.o, none⟩
  hW : d.W.length = d.tl
  hw : d.tl = 0 ∨ d.ta = some ⟨d.c, d.p, none⟩
  ht : (d.ta = none ∧ d.tl = 0 ∧ d.tc = 0) ∨ (d.ta.isSome = true ∧ d.tl ≤ d.tc)
  hc : d.tc ≤ 9223372036854775807
  hsn : d.sa = none → d.sc = 0
theorem upto_succ {P : Nat → Prop} {j : Nat} (hv : ∀ i, i < j → P i) (hp : P j) : ∀ i, i < j + 1 → P i := fun i hi => by
  rcases Nat.lt_or_ge i j with h | h
  · exact hv i h
  · rw [show i = j by omega]; exact hp
theorem all_upto {α : Type} (p : α → Bool) (z : α) (l : List α) : (∀ i, i < l.length → p (l.getD i z) = true) → l.all p = true := fun h => by
  rw [List.all_eq_true]
  intro x hx
  obtain ⟨i, hi, rfl⟩ := List.getElem_of_mem hx
  have := h i hi
  rwa [List.getD, List.getElem?_eq_getElem hi] at this
theorem all_not {α : Type} (p : α → Bool) (z : α) (l : List α) (i : Nat) (hi : i < l.length) (h : p (l.getD i z) = false) : l.all p = false := by
  rw [List.all_eq_false]
  exact ⟨l.getD i z, getD_mem l i z hi, by rw [h]; simp⟩
def fewB (d : Dk) : Bool := decide (d.sl ≤ 600) && decide (d.tl ≤ 60) && d.S.all (fun s => decide (s.size ≤ 60)) && d.W.all (fun x => decide (x.2.size ≤ 60))
def dkRB (d : Dk) : Bool := decide (d.sl ≤ 512) && d.S.all (fun s => decide (s.size = 32)) && d.W.all (fun x => decide (0 ≤ x.1) && decide (x.1 < (d.sl : Int)) && decide (x.2.size = 32))
end Go.Proofs.Ytaclhiagfgmgkaa


/-
  Layer 22: whether any device is right.
-/
namespace Go.Proofs.Ytaclhiagfgmgkaa
open Go Go.RowKit SZ
set_option linter.unusedVariables false
set_option linter.unusedSimpArgs false
set_option maxRecDepth 100000
attribute [local irreducible] post GD Nxt NxtAll
theorem ex_ltI {s : SS} {bs : List Nat} {x y : Operand} {t t' ty : TypeId} {ki : IntKind} {p q : Int} {b : Bool} (hx : s.val x = some (.v (.int ki p))) (hy : s.val y = some (.v (.int ki q))) (hb : decide (p < q) = b) :
    ∀ (o : Oper) (ρ : Operand → Value) (W : World), o.op = .binOp .lss t x y t' → o.type = ty → (∀ x y, s.val x = some y → ρ x = den bs y) → (execOp ρ o).run Try.prog W = .ok (.value (.bool b)) W := by
  intro o ρ W h1 h2 h3
  have e1 : ρ x = .int ki p := h3 x _ hx
  have e2 : ρ y = .int ki q := h3 y _ hy
  subst hb
  unfold execOp
  simp only [h1, e1, e2, eqGuard, binOp_lss, Sem.run_bind, Sem.run_pure, Result.andThen_ok]
  rfl
theorem ex_geI {s : SS} {bs : List Nat} {x y : Operand} {t t' ty : TypeId} {ki : IntKind} {p q : Int} {b : Bool} (hx : s.val x = some (.v (.int ki p))) (hy : s.val y = some (.v (.int ki q))) (hb : decide (p ≥ q) = b) :
    ∀ (o : Oper) (ρ : Operand → Value) (W : World), o.op = .binOp .geq t x y t' → o.type = ty → (∀ x y, s.val x = some y → ρ x = den bs y) → (execOp ρ o).run Try.prog W = .ok (.value (.bool b)) W := by
  intro o ρ W h1 h2 h3
  have e1 : ρ x = .int ki p := h3 x _ hx
  have e2 : ρ y = .int ki q := h3 y _ hy
  subst hb
  unfold execOp
  simp only [h1, e1, e2, eqGuard, binOp_geq, Sem.run_bind, Sem.run_pure, Result.andThen_ok]
  rfl
theorem ex_gtI {s : SS} {bs : List Nat} {x y : Operand} {t t' ty : TypeId} {ki : IntKind} {p q : Int} {b : Bool} (hx : s.val x = some (.v (.int ki p))) (hy : s.val y = some (.v (.int ki q))) (hb : decide (p > q) = b) :
    ∀ (o : Oper) (ρ : Operand → Value) (W : World), o.op = .binOp .gtr t x y t' → o.type = ty → (∀ x y, s.val x = some y → ρ x = den bs y) → (execOp ρ o).run Try.prog W = .ok (.value (.bool b)) W := by
  intro o ρ W h1 h2 h3
  have e1 : ρ x = .int ki p := h3 x _ hx
  have e2 : ρ y = .int ki q := h3 y _ hy
  subst hb
  unfold execOp
  simp only [h1, e1, e2, eqGuard, binOp_gtr, Sem.run_bind, Sem.run_pure, Result.andThen_ok]
  rfl
theorem ex_neI {s : SS} {bs : List Nat} {x y : Operand} {t t' ty : TypeId} {ki : IntKind} {p q : Int} {b : Bool} (hx : s.val x = some (.v (.int ki p))) (hy : s.val y = some (.v (.int ki q))) (hb : (!decide (p = q)) = b) :
    ∀ (o : Oper) (ρ : Operand → Value) (W : World), o.op = .binOp .neq t x y t' → o.type = ty → (∀ x y, s.val x = some y → ρ x = den bs y) → (execOp ρ o).run Try.prog W = .ok (.value (.bool b)) W := by
  intro o ρ W h1 h2 h3
  have e1 : ρ x = .int ki p := h3 x _ hx
  have e2 : ρ y = .int ki q := h3 y _ hy
  subst hb
  have hb2 : (p != q) = !decide (p = q) := rfl
  unfold execOp
  simp only [h1, e1, e2, eqGuard, binOp_neq, hb2, Sem.run_bind, Sem.run_pure, Result.andThen_ok]
  rfl
theorem right_of {d : Dk} (hg : d.gen) (h : dkRB d = true) : d.right ∧ d.sl ≤ 512 := by
  simp only [dkRB, Bool.and_eq_true, decide_eq_true_eq, List.all_eq_true] at h
  refine ⟨⟨fun j hj => h.1.2 _ (getD_mem _ _ _ (by rw [hg.hS]; exact hj)), fun j hj => ?_⟩, h.1.1⟩
  have := h.2 _ (getD_mem d.W j (0, ByteArray.empty) (by rw [hg.hW]; exact hj))
  exact ⟨⟨this.1.1, this.1.2⟩, this.2⟩
end Go.Proofs.Ytaclhiagfgmgkaa


/-
  Layer 22: whether two devices are the same.
-/
namespace Go.Proofs.Ytaclhiagfgmgkaa
open Go Go.RowKit SZ
set_option linter.unusedVariables false
set_option linter.unusedSimpArgs false
set_option maxRecDepth 100000
attribute [local irreducible] post GD Nxt NxtAll
theorem tl_eq (a b : ByteArray) : (a.toList == b.toList) = decide (a = b) := by
  by_cases h : a = b
  · subst h; simp
  · have : ¬ a.toList = b.toList := fun e => h (Go.WideShapes.bytes_inj (by rw [← ByteArray.toList_eq, ← ByteArray.toList_eq]; exact e))
    rw [decide_eq_false h]
    exact beq_eq_false_iff_ne.2 this
theorem eq_upto {α : Type} (z : α) (l m : List α) (hl : l.length = m.length) (h : ∀ i, i < l.length → l.getD i z = m.getD i z) : l = m := by
  apply List.ext_getElem hl
  intro i h1 h2
  have := h i h1
  simpa [List.getD, List.getElem?_eq_getElem h1, List.getElem?_eq_getElem h2] using this
def sameB (a b : Dk) : Bool := decide (a.S = b.S) && decide (a.W = b.W)
noncomputable def weS (a b : Dk) (j : Nat) : SS := ⟨26, [(0, .v (.slice a.ta a.tl a.tc)), (1, .v (.slice b.ta b.tl b.tc)), (12, .v (.int .i64 (a.tl : Int))), (13, .v (.int .i64 (j : Int)))], []⟩
set_option maxHeartbeats 8000000 in
theorem eqs_t (w0 : World) (a b : Dk) (ha : a.gen) (hb : b.gen) (h6 : a.sl ≤ 600 ∧ a.tl ≤ 100) (h6b : b.sl ≤ 600) (hA : StrAt w0 a.b a.o a.S) (hC : StrAt w0 b.b b.o b.S) : Calls Try.prog 33 #[.slice a.sa a.sl a.sc, .slice b.sa b.sl b.sc] w0 fun e w' => e = .returned (.bool (decide (a.S = b.S))) ∧ Below w0.heap.size w0 w' := by
  by_cases hl : a.sl = b.sl
  · by_cases h0 : a.sl = 0
    · have e : decide (a.S = b.S) = true := decide_eq_true (by rw [List.eq_nil_of_length_eq_zero (ha.hS.trans h0), List.eq_nil_of_length_eq_zero (hb.hS.trans (hl ▸ h0))])
      rw [e, h0, ← hl, h0]
      exact (Try.slices_Equal_string_empty a.sa b.sa a.sc 0 b.sc w0 (by omega)).mono fun e w' h => ⟨h.1, by rw [h.2]; exact Below.refl _ _⟩
    · have h := Try.slices_Equal_string a.b a.o a.sl a.sc b.b b.o b.sl b.sc a.S b.S w0 (by rw [ha.hS]; exact Nat.le_refl _) (by rw [hb.hS]; exact Nat.le_refl _) (by omega) (by omega) hA hC
      rw [← ha.hs.resolve_left h0, ← hb.hs.resolve_left (by omega)] at h
      rw [show a.S.take a.sl = a.S by rw [← ha.hS]; exact List.take_length, show b.S.take b.sl = b.S by rw [← hb.hS]; exact List.take_length] at h
      exact h.mono fun e w' h => ⟨h.1, by obtain ⟨q, hq⟩ := h.2; rw [hq]; exact ⟨rfl, rfl, rfl, Nat.le_refl _, fun k hk => rfl⟩⟩
  · rw [decide_eq_false (fun q : a.S = b.S => hl (by rw [← ha.hS, ← hb.hS, q]))]
    exact (Try.slices_Equal_string_lens a.sa b.sa a.sl a.sc b.sl b.sc w0 hl).mono fun e w' h => ⟨h.1, by rw [h.2]; exact Below.refl _ _⟩
end Go.Proofs.Ytaclhiagfgmgkaa
