
/-
  Layer 22: what a list of commands leaves.
-/
import Derived.Test.YtnlcjlhcghgaoaaRows
import Derived.Test.YtnlcjlhcghgaoaaBase
import Derived.Test.YtnlcjlhcghgaoaaDkO
import Derived.WalkKit
namespace Go.Proofs.Ytnlcjlhcghgaoaa
open Go Go.RowKit SZ
set_option linter.unusedVariables false
set_option linter.unusedSimpArgs false
set_option maxRecDepth 100000
attribute [local irreducible] post GD Nxt NxtAll
/-- The last write to a sector. -/
def lastD (D : List (Int × ByteArray)) (at_ : Nat) (z : ByteArray) : ByteArray := D.foldl (fun w x => if x.1 = (at_ : Int) then x.2 else w) z
theorem lastD_app (D : List (Int × ByteArray)) (x : Int × ByteArray) (at_ : Nat) (z : ByteArray) : lastD (D ++ [x]) at_ z = if x.1 = (at_ : Int) then x.2 else lastD D at_ z := by simp [lastD]
theorem lastD_succ (D : List (Int × ByteArray)) (i : Nat) (h : i < D.length) (at_ : Nat) (z : ByteArray) : lastD (D.take (i + 1)) at_ z = if (D.getD i (0, ByteArray.empty)).1 = (at_ : Int) then (D.getD i (0, ByteArray.empty)).2 else lastD (D.take i) at_ z := by
  have e := List.take_succ_eq_append_getElem h
  rw [e, lastD_app]
  simp [List.getD, List.getElem?_eq_getElem h]
structure WInv (n : Nat) (x : List ByteArray × List (Int × ByteArray) × List (Int × ByteArray)) : Prop where
  len : x.1.length = n
  sz : ∀ s ∈ x.1, s.size = 32
  w : ∀ y ∈ x.2.1, (0 ≤ y.1 ∧ y.1 < (n : Int)) ∧ y.2.size = 32
  d : ∀ y ∈ x.2.2, (0 ≤ y.1 ∧ y.1 < (n : Int)) ∧ y.2.size = 32
  last : ∀ j, j < n → x.1.getD j ByteArray.empty = lastD x.2.2 j z32
theorem winv_0 (n : Nat) : WInv n (List.replicate n z32, [], []) := by
  refine ⟨by simp, fun s hs => ?_, by simp, by simp, fun j hj => by simp [lastD, List.getD, List.getElem?_replicate, hj]⟩
  rw [List.eq_of_mem_replicate hs]
  rfl
theorem winv_step (n : Nat) (hn : 0 < n) (x : List ByteArray × List (Int × ByteArray) × List (Int × ByteArray)) (h : WInv n x) (c : Nat) : WInv n (wstep n x c) := by
  unfold wstep
  split
  · exact ⟨h.len, h.sz, by simp, h.d, h.last⟩
  · have hm := Nat.mod_lt c hn
    refine ⟨by simp [h.len], fun s hs => ?_, fun y hy => ?_, fun y hy => ?_, fun j hj => ?_⟩
    · rcases List.mem_or_eq_of_mem_set hs with h1 | rfl
      · exact h.sz s h1
      · exact full_size _
    · rcases List.mem_append.1 hy with h1 | h1
      · exact h.w y h1
      · simp only [List.mem_singleton] at h1
        subst h1
        refine ⟨⟨by show (0 : Int) ≤ ((c % n : Nat) : Int); omega, by show ((c % n : Nat) : Int) < (n : Int); omega⟩, ?_⟩
        have hl : c % n < x.1.length := by rw [h.len]; exact hm
        show (x.1.getD (c % n) ByteArray.empty).size = 32
        have e : x.1.getD (c % n) ByteArray.empty = x.1[c % n] := by simp [List.getD, List.getElem?_eq_getElem hl]
        rw [e]
        exact h.sz _ (List.getElem_mem hl)
    · rcases List.mem_append.1 hy with h1 | h1
      · exact h.d y h1
      · simp only [List.mem_singleton] at h1
        subst h1
        exact ⟨⟨by show (0 : Int) ≤ ((c % n : Nat) : Int); omega, by show ((c % n : Nat) : Int) < (n : Int); omega⟩, full_size _⟩
    · show (x.1.set (c % n) _).getD j ByteArray.empty = lastD (x.2.2 ++ _) j z32
      rw [lastD_app]
      by_cases e : c % n = j
      · subst e
        simp [List.getD, List.getElem?_set, h.len, hm]
      · have e2 : ¬ (((c % n : Nat) : Int) = (j : Int)) := by omega
        have h3 := h.last j hj
        rw [if_neg e2, ← h3]
        simp [List.getD, List.getElem?_set, e]
theorem winv (n : Nat) (hn : 0 < n) (l : List Nat) : WInv n (wall n l) := by
  have key : ∀ (l : List Nat) x, WInv n x → WInv n (l.foldl (wstep n) x) := by
    intro l
    induction l with
    | nil => intro x h; exact h
    | cons c l ih => intro x h; exact ih _ (winv_step n hn x h c)
  exact key l _ (winv_0 n)
theorem getD_mem {α : Type} (l : List α) (j : Nat) (z : α) (h : j < l.length) : l.getD j z ∈ l := by
  have e : l.getD j z = l[j] := by simp [List.getD, List.getElem?_eq_getElem h]
  rw [e]
  exact List.getElem_mem h
theorem WI.right {w0 : World} {k : Nat} {l : List Nat} {i : Nat} {d : Dk} {D : List (Int × ByteArray)} (h : WI w0 k l i d D) : d.right := by
  have hv := winv (k + 1) (Nat.succ_pos _) (l.take i)
  rw [h.eq] at hv
  refine ⟨fun j hj => hv.sz _ (getD_mem _ _ _ (by rw [h.ok.hS]; exact hj)), fun j hj => ?_⟩
  have := hv.w _ (getD_mem d.W j (0, ByteArray.empty) (by rw [h.ok.hW]; exact hj))
  exact ⟨⟨this.1.1, by have := this.1.2; rw [h.sl]; exact this⟩, this.2⟩
/-- A list of commands, its writes as a row. -/
theorem written_u (w0 : World) (k : Nat) (hk : k < 6) (l : List Nat) (hl : l.length ≤ 40) (h256 : ∀ i, i < l.length → l.getD i 0 < 256) (pa : Option Addr) (lc lb lo : Nat) (hp : l.length = 0 ∨ pa = some ⟨lb, lo, none⟩) (hL : ByAt w0 lb lo l) : Calls Try.prog 23 #[.int .i64 ((k + 1 : Nat) : Int), .slice pa l.length lc] w0 fun e w' =>
    ∃ x : Dk × Option Addr × Nat × Nat × List (Int × ByteArray), e = .returned (.tuple #[x.1.v, .slice x.2.1 x.2.2.2.2.length x.2.2.1, .bool true]) ∧ (WI w0 k l l.length x.1 x.2.2.2.2 ∧ StrAt w' x.1.b x.1.o x.1.S ∧ WasAt w' x.1.c x.1.p x.1.W ∧ (x.2.2.2.2.length = 0 ∨ x.2.1 = some ⟨x.2.2.2.1, 0, none⟩) ∧ (x.2.2.2.2.length = 0 ∨ w0.heap.size ≤ x.2.2.2.1) ∧ WasAt w' x.2.2.2.1 0 x.2.2.2.2) ∧ Below w0.heap.size w0 w' := by
  refine (written_t w0 k hk l hl h256 pa lc lb lo hp hL).mono fun e w' ⟨d, v, D, h1, h2, h3, h4, h5, h6⟩ => ?_
  rcases h5.2 with ⟨rfl, h⟩ | ⟨g, cap, cur, rfl, hg0, hgc, _, _, _, htk⟩
  · have h0 : D = [] := List.eq_nil_of_length_eq_zero h
    subst h0
    exact ⟨(d, none, 0, 0, []), h1, ⟨h2, h3, h4, Or.inl rfl, Or.inl rfl, fun j hj => absurd hj (Nat.not_lt_zero _)⟩, h6⟩
  · exact ⟨(d, some ⟨g, 0, none⟩, cap, g, D), h1, ⟨h2, h3, h4, Or.inr rfl, Or.inr hg0, wasAt_of (cs := cur.toList) (by simpa using hgc) htk⟩, h6⟩
end Go.Proofs.Ytnlcjlhcghgaoaa
