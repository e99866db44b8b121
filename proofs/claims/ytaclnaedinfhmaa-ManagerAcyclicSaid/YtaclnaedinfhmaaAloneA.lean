
/-
  Layers 16 and 17: an operation run on a memory without interference: its tree run on the cells; where a memory's row lies.
-/
import Derived.Test.YtaclnaedinfhmaaRows
import Derived.Test.YtaclnaedinfhmaaBase
import Derived.Test.YtaclnaedinfhmaaAux
import Derived.Test.YtaclnaedinfhmaaMemA
import Derived.Test.YtaclnaedinfhmaaMemB
import Derived.Test.YtaclnaedinfhmaaMemE
import Derived.Test.YtaclnaedinfhmaaMemF
import Derived.Test.YtaclnaedinfhmaaMemP
import Derived.Test.YtaclnaedinfhmaaStepD
import Derived.Test.YtaclnaedinfhmaaStepF
namespace Go.Proofs.Ytaclnaedinfhmaa
set_option linter.unusedVariables false
open Go.ChangeShapes Go.WideShapes Go.ChangeAt Go.RowKit

/-- The tree run on the cells of a memory: outcome, cells, number of accesses. -/
def exec : Nat → Tree → List Int → Option (OutD × List Int × Nat)
  | _, .ret o, zs => some (o, zs, 0)
  | 0, .ask _ _, _ => none
  | n + 1, .ask a f, zs => if chk zs.length a.k a.p a.o a.n ByteArray.empty = 0 ∧ -9223372036854775808 ≤ a.n ∧ a.n ≤ 9223372036854775807 then
      (exec n (f (doR a.k a.p a.o a.n ByteArray.empty zs, doOk a.k a.p a.o a.n ByteArray.empty zs)) (doZ a.k a.p a.o a.n ByteArray.empty zs)).map (fun x => (x.1, x.2.1, x.2.2 + 1)) else none
theorem exec_ret {n : Nat} {o : OutD} {zs : List Int} {x : OutD × List Int × Nat} (h : exec n (.ret o) zs = some x) : x = (o, zs, 0) := by
  cases n <;> (simp [exec] at h; exact h.symm)
theorem exec_ask {n : Nat} {a : Ask} {f : Int × Bool → Tree} {zs : List Int} {o : OutD} {zf : List Int} {m : Nat} (h : exec n (.ask a f) zs = some (o, zf, m)) :
    ∃ n' m', n = n' + 1 ∧ m = m' + 1 ∧ chk zs.length a.k a.p a.o a.n ByteArray.empty = 0 ∧ I64 a.n ∧ exec n' (f (doR a.k a.p a.o a.n ByteArray.empty zs, doOk a.k a.p a.o a.n ByteArray.empty zs)) (doZ a.k a.p a.o a.n ByteArray.empty zs) = some (o, zf, m') := by
  cases n with
  | zero => simp [exec] at h
  | succ n =>
    unfold exec at h
    split at h
    · rename_i hc
      cases he : exec n (f (doR a.k a.p a.o a.n ByteArray.empty zs, doOk a.k a.p a.o a.n ByteArray.empty zs)) (doZ a.k a.p a.o a.n ByteArray.empty zs) with
      | none => rw [he] at h; simp at h
      | some x =>
        rw [he] at h
        simp at h
        obtain ⟨h1, h2, h3⟩ := h
        exact ⟨n, x.2.2, rfl, h3.symm, hc.1, hc.2, by rw [← h1, ← h2]; exact he⟩
    · cases h

theorem exec_le {n : Nat} {T : Tree} {zs : List Int} {o : OutD} {zf : List Int} {m : Nat} (h : exec n T zs = some (o, zf, m)) : m ≤ n := by
  induction n generalizing T zs m with
  | zero =>
    cases T with
    | ret o' => have := exec_ret h; simp at this; omega
    | ask a f => obtain ⟨n', _, h1, _⟩ := exec_ask h; omega
  | succ n ih =>
    cases T with
    | ret o' => have := exec_ret h; simp at this; omega
    | ask a f =>
      obtain ⟨n', m', h1, rfl, _, _, h2⟩ := exec_ask h
      obtain rfl : n' = n := by omega
      have := ih h2
      omega
theorem doZ_length (k c o n : Int) (b : ByteArray) (zs : List Int) : (doZ k c o n b zs).length = zs.length := by
  unfold doZ; split
  · exact appZ_length _ _ _ _ _
  · rfl
theorem hasInts_injA {w : World} {v : Value} {zs ys : List Int} (h : HasInts w v zs) (k : HasInts w v ys) : zs = ys := by
  obtain ⟨a, c, rfl, _, h⟩ := h
  obtain ⟨a', c', he, _, k⟩ := k
  simp only [Value.slice.injEq] at he
  obtain ⟨rfl, hl, _⟩ := he
  refine List.ext_getElem hl fun i h1 h2 => ?_
  rcases h with h | ⟨b, o, rfl, h⟩
  · omega
  rcases k with k | ⟨b', o', he, k⟩
  · omega
  simp at he
  obtain ⟨rfl, rfl⟩ := he
  have e1 := h i h1
  have e2 := k i h2
  rw [e1] at e2
  simp [List.getD, List.getElem?_eq_getElem h1, List.getElem?_eq_getElem h2] at e2
  exact e2

/-- The row u of a memory's cells lies below lo, or is a row of its own from hi on. -/
def MemAt (w : World) (lo hi : Nat) (u : Value) (Z : List Int) : Prop :=
  (∃ a cap, u = .slice a Z.length cap ∧ Z.length ≤ 9223372036854775807 ∧ (Z.length = 0 ∨ ∃ b o, a = some ⟨b, o, none⟩ ∧ b < lo ∧ ∀ j, j < Z.length → w.cell? ⟨b, o + j, none⟩ = some (.int .i64 (Z.getD j 0)))) ∨ w.ownsRow hi 3 1 u Z.length (Z.map (Value.int .i64))
theorem memAt_ints {w : World} {lo hi : Nat} {u : Value} {Z : List Int} (h : MemAt w lo hi u Z) : HasInts w u Z := by
  rcases h with ⟨a, cap, rfl, h1, h2⟩ | h
  · refine ⟨a, cap, rfl, h1, ?_⟩
    rcases h2 with h2 | ⟨b, o, rfl, _, h2⟩
    · exact Or.inl h2
    · exact Or.inr ⟨b, o, rfl, h2⟩
  · exact hasInts_of_owns h
theorem memAt_start {w : World} {lo hi : Nat} {u : Value} {Z : List Int} (h : HasInts w u Z) (hlo : w.heap.size ≤ lo) : MemAt w lo hi u Z := by
  obtain ⟨a, cap, rfl, h1, h2⟩ := h
  refine Or.inl ⟨a, cap, rfl, h1, ?_⟩
  rcases h2 with h2 | ⟨b, o, rfl, h2⟩
  · exact Or.inl h2
  · by_cases h0 : Z.length = 0
    · exact Or.inl h0
    · have := World.block_lt_of_cell? w _ (h2 0 (by omega))
      exact Or.inr ⟨b, o, rfl, by dsimp only at this; omega, h2⟩
theorem memAt_below {w w' : World} {lo hi : Nat} {u : Value} {Z : List Int} (h : MemAt w lo hi u Z) (hb : Below w.heap.size w w') : MemAt w' lo hi u Z := by
  rcases h with ⟨a, cap, rfl, h1, h2⟩ | h
  · refine Or.inl ⟨a, cap, rfl, h1, ?_⟩
    rcases h2 with h2 | ⟨b, o, rfl, h3, h2⟩
    · exact Or.inl h2
    · exact Or.inr ⟨b, o, rfl, h3, fun j hj => cel_below hb (h2 j hj)⟩
  · exact Or.inr (owns_below h hb)
theorem memAt_alloc {w : World} {lo hi : Nat} {u : Value} {Z : List Int} (h : MemAt w lo hi u Z) (o : Obj) : MemAt (w.alloc o) lo hi u Z := memAt_below h (below_new1 w o)
theorem memAt_set {w : World} {lo hi : Nat} {u : Value} {Z : List Int} (h : MemAt w lo hi u Z) {c o : Nat} (h1 : lo ≤ c) (h2 : c < hi) (x : Value) : MemAt (w.setCell ⟨c, o, none⟩ x) lo hi u Z := by
  rcases h with ⟨a, cap, rfl, h3, h4⟩ | h
  · refine Or.inl ⟨a, cap, rfl, h3, ?_⟩
    rcases h4 with h4 | ⟨b, q, rfl, h5, h4⟩
    · exact Or.inl h4
    · exact Or.inr ⟨b, q, rfl, h5, fun j hj => keepA_ (h4 j hj) (Or.inl (by omega))⟩
  · exact Or.inr (owns_setCell_other h (fun hc => by have := (h.lt _ hc).1; dsimp only at this; omega) x)
theorem memAt_gb {w w' : World} {lo hi : Nat} {u : Value} {Z : List Int} (h : MemAt w lo hi u Z) (hlo : lo ≤ hi) {v : Value} {n : Nat} {xs : List Value} (ho : w.ownsRow hi 85 2 v n xs) (hg : w.grownBy w' v.ownBlock) : MemAt w' lo hi u Z := by
  rcases h with ⟨a, cap, rfl, h3, h4⟩ | h
  · refine Or.inl ⟨a, cap, rfl, h3, ?_⟩
    rcases h4 with h4 | ⟨b, q, rfl, h5, h4⟩
    · exact Or.inl h4
    · refine Or.inr ⟨b, q, rfl, h5, fun j hj => ?_⟩
      have hc := h4 j hj
      refine (World.cell?_of_block (a := ⟨b, q + j, none⟩) (hg.block b (World.block_lt_of_cell? w _ hc) ?_)).trans hc
      intro he
      have := (ho.lt _ he.symm).1
      omega
  · exact Or.inr (h.kept hg (owns_apart h ho (by decide)))
theorem memAt_do {w w' : World} {lo hi : Nat} {v u : Value} {Z Z' : List Int} (h : MemAt w lo hi v Z) (hb : Below w.heap.size w w') (hh : hi ≤ w.heap.size) (hu : HasInts w' u Z') (hf : FromO w' w.heap.size v u Z') : MemAt w' lo hi u Z' := by
  rcases hf with rfl | hf
  · have e := hasInts_injA hu (hasInts_keep (memAt_ints h) hb)
    rw [e]; exact memAt_below h hb
  · exact Or.inr (owns_mono hf hh)
theorem logOf_owns {w : World} {B : Nat} {v : Value} {l : List (Int × Bool)} (h : w.ownsRow B 85 2 v l.length (resCells l)) : LogOf w v l := by
  have h0 := hasRes_of_owns h
  obtain ⟨_, ⟨rfl, hz⟩ | ⟨g, cap, cur, rfl, _, _, hn, hc, _, _⟩⟩ := h
  · exact ⟨none, 0, by rw [hz], by omega, by omega, Or.inl hz⟩
  · obtain ⟨a, c, he, h1, h2⟩ := h0
    simp only [Value.slice.injEq] at he
    obtain ⟨rfl, _, rfl⟩ := he
    exact ⟨_, cap, rfl, hn, by unfold maxLen at hc; omega, h2⟩
theorem i64_doR {zs : List Int} (h : ∀ z ∈ zs, I64 z) (k c o n : Int) (b : ByteArray) : I64 (doR k c o n b zs) := by
  unfold doR
  split
  · rcases Nat.lt_or_ge c.toNat zs.length with hl | hl
    · rw [List.getD, List.getElem?_eq_getElem hl]; exact h _ (List.getElem_mem hl)
    · rw [List.getD, List.getElem?_eq_none hl]; exact i64_zero
  · exact i64_zero
theorem i64_doZ {zs : List Int} (h : ∀ z ∈ zs, I64 z) (k c o n : Int) (hn : I64 n) (b : ByteArray) : ∀ z ∈ doZ k c o n b zs, I64 z := by
  unfold doZ
  split
  · unfold appZ
    intro z hz
    split at hz
    · rcases List.mem_or_eq_of_mem_set hz with h1 | rfl
      · exact h z h1
      · first | exact hn | exact i64_wrap64 _
    · split at hz
      · rcases List.mem_or_eq_of_mem_set hz with h1 | rfl
        · exact h z h1
        · first | exact hn | exact i64_wrap64 _
      · first | exact h z hz | (split at hz <;> first | exact h z hz | (rcases List.mem_or_eq_of_mem_set hz with h1 | rfl; exact h z h1; first | exact hn | exact i64_wrap64 _))
  · exact h
end Go.Proofs.Ytaclnaedinfhmaa
