
/-
  Layer 15: a memory of zeros; what the initial accesses leave.
-/
import Derived.Test.YtaclnaedinfhmaaRows
import Derived.Test.YtaclnaedinfhmaaBase
import Derived.Test.YtaclnaedinfhmaaAux
import Derived.Test.YtaclnaedinfhmaaMemA
import Derived.Test.YtaclnaedinfhmaaMemB
import Derived.Test.YtaclnaedinfhmaaMemE
import Derived.Test.YtaclnaedinfhmaaMemF
import Derived.Test.YtaclnaedinfhmaaLayA
import Derived.Test.YtaclnaedinfhmaaLayB
import Derived.Test.YtaclnaedinfhmaaLayE
import Derived.Outline
namespace Go.Proofs.Ytaclnaedinfhmaa
set_option maxRecDepth 20000
open Go.ChangeShapes Go.WideShapes Go.ChangeAt Go.RowKit

set_option maxHeartbeats 800000 in
theorem rnew_any (n : Nat) (w : World) (hn : n ≤ 1000000) : Calls Try.prog 51 #[.int .i64 (n : Nat)] w fun e w' =>
    ∃ g, e = .returned (.agg #[.slice (some ⟨g, 0, none⟩) n n]) ∧ HasInts w' (.slice (some ⟨g, 0, none⟩) n n) (List.replicate n 0) ∧ w.heap.size ≤ g ∧ Below w.heap.size w w' := by
  obtain ⟨i0, hi, hz0, hz1, hz2⟩ := info_parts info_int
  obtain ⟨B, hB⟩ : ∃ B, B = w.heap.size := ⟨_, rfl⟩
  rw [← hB]
  have HB := Lib.hid hB
  clear hB
  go_enter Try.func51, Try.ntmps51
  go_wp2_with (first | (at_make; refine wpList_make_full _ rfl _ _ 53 rfl B 3 i0 (.int .i64 0) 1 Try.underlying53 hi hz0 hz1 _ _ _ _ n rfl rfl rfl rfl ?_ ?_ ?_ ?_))
  · rw [hz2]; omega
  · unfold maxLen; omega
  · have := HB.out; simp; omega
  intro w1 hown hg
  have hb1 : Below B w w1 := (((Below.refl _ _).alloc (by have := HB.out; omega) _).grown hg (by have := HB.out; simp; omega) (by simp))
  have hbox : w1.cell? ⟨w.heap.size, 0, none⟩ = some (.slice none 0 0) := by
    rw [World.cell?_of_block (hg.block w.heap.size (by simp) (by simp)), World.cell?_alloc_at _ _ _ _ rfl]; rfl
  have hfz : w1.frozen? ⟨w.heap.size, 0, none⟩ = false := by
    rw [World.frozen?_of_block (hg.block w.heap.size (by simp) (by simp))]; exact World.frozen?_alloc_at _ _ _ _ rfl
  have hH := hasInts_of_owns (w := w1) (B := B) (v := .slice (some ⟨w.heap.size + 1, 0, none⟩) n n) (zs := List.replicate n 0) (by
    rw [List.length_replicate]
    have h := hown
    rw [madeZeros] at h
    simpa using h)
  have HH := Lib.hid hH
  have HG := Lib.hid hb1
  clear hown hg hb1 hH
  go_wp2
  refine bodyPost_ret (v := .agg #[.slice (some ⟨w.heap.size + 1, 0, none⟩) n n]) (by simp [results, Try.results51, go_sem, hbox]) rfl ?_
  exact ⟨_, rfl, hasInts_setS HH.out hbox, by have := HB.out; omega, HG.out.setCell (by have := HB.out; show B ≤ w.heap.size; omega) _⟩

theorem chk_set (size : Nat) (c n : Int) (h : 0 ≤ c ∧ c < size) : (setAcc c n).chk size = 0 := by
  show chk size 2 c 0 n ByteArray.empty = 0
  unfold chk
  have hr : rightB 2 c 0 n ByteArray.empty = true := by unfold rightB; simp; omega
  rw [hr, if_pos rfl, if_neg (by omega)]
theorem errOf_initN (l : Ly) (zs : List Int) (size k : Nat) (h0 : 0 ≤ l.stamps ∧ l.stamps < size) (hv : ∀ i : Nat, (i : Int) < l.c.l → 0 ≤ atVal l i ∧ atVal l i < size) : errOf size (initN l zs k) = 0 := by
  induction k with
  | zero => show (if (setAcc l.stamps 1).chk size = 0 then (0 : Int) else _) = 0; rw [if_pos (chk_set _ _ _ h0)]
  | succ k ih =>
    unfold initN
    split
    · rename_i h
      rw [errOf_snoc, if_pos ih]; exact chk_set _ _ _ (hv k h)
    · simpa using ih
theorem stZ_initN (l : Ly) (zs z0 : List Int) (k : Nat) (h : (k : Int) < l.c.l) : stZ z0 (initN l zs (k + 1)) = (stZ z0 (initN l zs k)).set (atVal l k).toNat (zs.getD k 0) := by
  show stZ z0 (initN l zs k ++ if (k : Int) < l.c.l then [setAcc (atVal l k) (zs.getD k 0)] else []) = _
  rw [if_pos h, stZ_snoc]
  show appZ 2 (atVal l k) 0 (zs.getD k 0) _ = _
  unfold appZ
  rw [if_pos (Or.inl rfl)]
theorem stZ_init0 (l : Ly) (zs z0 : List Int) : stZ z0 (initN l zs 0) = z0.set l.stamps.toNat 1 := by
  show appZ 2 l.stamps 0 1 z0 = _
  unfold appZ
  rw [if_pos (Or.inl rfl)]
theorem initN_stop' (l : Ly) (zs : List Int) (k d : Nat) (h : l.c.l ≤ (k : Int)) : initN l zs (k + d) = initN l zs k := by
  induction d with
  | zero => rfl
  | succ d ih => show initN l zs (k + d) ++ (if ((k + d : Nat) : Int) < l.c.l then _ else []) = _; rw [ih, if_neg (by omega)]; simp

end Go.Proofs.Ytaclnaedinfhmaa
