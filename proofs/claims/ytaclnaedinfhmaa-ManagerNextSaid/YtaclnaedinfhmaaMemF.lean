
/-
  Layer 2: lists of accesses as plain lists: the cells and the results behind them, and the first error.
-/
import Derived.Test.YtaclnaedinfhmaaRows
import Derived.Test.YtaclnaedinfhmaaBase
import Derived.Test.YtaclnaedinfhmaaMemA
import Derived.Test.YtaclnaedinfhmaaMemB
import Derived.Test.YtaclnaedinfhmaaMemE
namespace Go.Proofs.Ytaclnaedinfhmaa
open Go.ChangeShapes Go.WideShapes Go.ChangeAt Go.RowKit

/-- An access as data. -/
structure AccD where
  k : Int
  c : Int
  o : Int
  n : Int
  b : ByteArray
def noAcc : AccD := ⟨0, 0, 0, 0, ByteArray.empty⟩
def AccD.chk (a : AccD) (size : Nat) : Int := Go.Proofs.Ytaclnaedinfhmaa.chk size a.k a.c a.o a.n a.b
def AccD.app (a : AccD) (zs : List Int) : List Int := appZ a.k a.c a.o a.n zs
def AccD.res (a : AccD) (zs : List Int) : Int × Bool := (zs.getD a.c.toNat 0, appOk a.k a.c a.o zs)
theorem app_length (a : AccD) (zs : List Int) : (a.app zs).length = zs.length := appZ_length _ _ _ _ _

/-- The cells behind a list of accesses, each of which is valid. -/
def stZ (zs : List Int) (l : List AccD) : List Int := l.foldl (fun z a => a.app z) zs
/-- Their results. -/
def stR (zs : List Int) : List AccD → List (Int × Bool)
  | [] => []
  | a :: l => a.res zs :: stR (a.app zs) l
/-- The first error of a list of accesses. -/
def errOf (size : Nat) : List AccD → Int
  | [] => 0
  | a :: l => if a.chk size = 0 then errOf size l else a.chk size

theorem stZ_length (zs : List Int) (l : List AccD) : (stZ zs l).length = zs.length := by
  induction l generalizing zs with
  | nil => rfl
  | cons a l ih => show (stZ (a.app zs) l).length = _; rw [ih, app_length]
theorem stZ_snoc (zs : List Int) (l : List AccD) (a : AccD) : stZ zs (l ++ [a]) = a.app (stZ zs l) := by simp [stZ]
theorem stR_snoc (zs : List Int) (l : List AccD) (a : AccD) : stR zs (l ++ [a]) = stR zs l ++ [a.res (stZ zs l)] := by
  induction l generalizing zs with
  | nil => rfl
  | cons x l ih => show x.res zs :: stR (x.app zs) (l ++ [a]) = _; rw [ih]; rfl
theorem stR_length (zs : List Int) (l : List AccD) : (stR zs l).length = l.length := by
  induction l generalizing zs with
  | nil => rfl
  | cons a l ih => show (stR (a.app zs) l).length + 1 = _; rw [ih]; rfl
theorem errOf_snoc (size : Nat) (l : List AccD) (a : AccD) : errOf size (l ++ [a]) = if errOf size l = 0 then a.chk size else errOf size l := by
  induction l with
  | nil =>
    show (if a.chk size = 0 then (0 : Int) else a.chk size) = if (0 : Int) = 0 then a.chk size else 0
    rw [if_pos (rfl : (0 : Int) = 0)]
    split
    · rename_i h; exact h.symm
    · rfl
  | cons x l ih =>
    show (if x.chk size = 0 then errOf size (l ++ [a]) else x.chk size) = if (if x.chk size = 0 then errOf size l else x.chk size) = 0 then a.chk size else (if x.chk size = 0 then errOf size l else x.chk size)
    by_cases hx : x.chk size = 0
    · rw [if_pos hx, if_pos hx, ih]
    · rw [if_neg hx, if_neg hx, if_neg hx]
/-- An error at one place, none before: the list's error. -/
theorem errOf_at {size : Nat} {l : List AccD} {k : Nat} (hk : k < l.length) (h0 : errOf size (l.take k) = 0) (h : (l.getD k noAcc).chk size ≠ 0) : errOf size l = (l.getD k noAcc).chk size := by
  induction l generalizing k with
  | nil => simp at hk
  | cons a l ih =>
    show (if a.chk size = 0 then errOf size l else a.chk size) = _
    cases k with
    | zero =>
      have e : (a :: l).getD 0 noAcc = a := rfl
      rw [e] at h ⊢
      rw [if_neg h]
    | succ k =>
      have e : (a :: l).getD (k + 1) noAcc = l.getD k noAcc := by simp [List.getD]
      rw [e] at h ⊢
      have h1 : (if a.chk size = 0 then errOf size (l.take k) else a.chk size) = 0 := h0
      by_cases ha : a.chk size = 0
      · rw [if_pos ha] at h1 ⊢
        exact ih (by simpa using hk) h1 h
      · rw [if_neg ha] at h1; exact absurd h1 ha
theorem take_acc {l : List AccD} {k : Nat} (hk : k < l.length) : l.take (k + 1) = l.take k ++ [l.getD k noAcc] := by
  rw [List.take_succ_eq_append_getElem hk]; simp [List.getD, List.getElem?_eq_getElem hk]

/-- The slice value v holds these accesses, five cells each. -/
def HasAccs (w : World) (v : Value) (l : List AccD) : Prop :=
  ∃ a cap, v = .slice a l.length cap ∧ l.length ≤ 9223372036854775807 ∧ (l.length = 0 ∨ ∃ b o, a = some ⟨b, o, none⟩ ∧ ∀ j, j < l.length →
    w.cell? ⟨b, o + j * 5, none⟩ = some (.int .i64 (l.getD j noAcc).k) ∧ w.cell? ⟨b, o + j * 5 + 1, none⟩ = some (.int .i64 (l.getD j noAcc).c) ∧ w.cell? ⟨b, o + j * 5 + 2, none⟩ = some (.int .i64 (l.getD j noAcc).o) ∧
    w.cell? ⟨b, o + j * 5 + 3, none⟩ = some (.int .i64 (l.getD j noAcc).n) ∧ w.cell? ⟨b, o + j * 5 + 4, none⟩ = some (.string (l.getD j noAcc).b))

theorem cell_below {w w' : World} {b o : Nat} {x : Value} (hb : Below w.heap.size w w') (h : w.cell? ⟨b, o, none⟩ = some x) : w'.cell? ⟨b, o, none⟩ = some x :=
  (hb.cell (p := ⟨b, o, none⟩) (World.block_lt_of_cell? w ⟨b, o, none⟩ h)).trans h
theorem hasAccs_keep {w w' : World} {v : Value} {l : List AccD} (h : HasAccs w v l) (hb : Below w.heap.size w w') : HasAccs w' v l := by
  obtain ⟨a, cap, rfl, hl, h⟩ := h
  refine ⟨a, cap, rfl, hl, ?_⟩
  rcases h with h | ⟨b, o, rfl, h⟩
  · exact Or.inl h
  · refine Or.inr ⟨b, o, rfl, fun j hj => ?_⟩
    obtain ⟨h1, h2, h3, h4, h5⟩ := h j hj
    exact ⟨cell_below hb h1, cell_below hb h2, cell_below hb h3, cell_below hb h4, cell_below hb h5⟩
theorem hasRes_keep {w w' : World} {v : Value} {l : List (Int × Bool)} (h : HasRes w v l) (hb : Below w.heap.size w w') : HasRes w' v l := by
  obtain ⟨a, cap, rfl, hl, h⟩ := h
  refine ⟨a, cap, rfl, hl, ?_⟩
  rcases h with h | ⟨b, o, rfl, h⟩
  · exact Or.inl h
  · refine Or.inr ⟨b, o, rfl, fun j hj => ?_⟩
    obtain ⟨h1, h2⟩ := h j hj
    exact ⟨cell_below hb h1, cell_below hb h2⟩

theorem info_res : (Try.prog.info? 85).map (fun i => (i.zero, i.size, i.bytes)) = some (some (.agg #[.int .i64 0, .bool false]), 2, 16) := by kernel_rfl
/-- The cells of results. -/
def resCells : List (Int × Bool) → List Value
  | [] => []
  | r :: l => .int .i64 r.1 :: .bool r.2 :: resCells l
theorem resCells_append (l m : List (Int × Bool)) : resCells (l ++ m) = resCells l ++ resCells m := by
  induction l with
  | nil => rfl
  | cons r l ih => show _ :: _ :: resCells (l ++ m) = _; rw [ih]; rfl
theorem resCells_length (l : List (Int × Bool)) : (resCells l).length = l.length * 2 := by
  induction l with
  | nil => rfl
  | cons r l ih => show (resCells l).length + 1 + 1 = (l.length + 1) * 2; omega
theorem resCells_at (l : List (Int × Bool)) (j : Nat) (hj : j < l.length) : (resCells l)[j * 2]? = some (.int .i64 (l.getD j (0, false)).1) ∧ (resCells l)[j * 2 + 1]? = some (.bool (l.getD j (0, false)).2) := by
  induction l generalizing j with
  | nil => simp at hj
  | cons r l ih =>
    cases j with
    | zero => exact ⟨rfl, rfl⟩
    | succ j =>
      have h := ih j (by simpa using hj)
      have e : (r :: l).getD (j + 1) (0, false) = l.getD j (0, false) := by simp [List.getD]
      rw [e]
      have e2 : (j + 1) * 2 = j * 2 + 1 + 1 := by omega
      rw [e2]
      exact h
theorem hasRes_of_owns {w : World} {B : Nat} {v : Value} {rs : List (Int × Bool)} (h : w.ownsRow B 85 2 v rs.length (resCells rs)) : HasRes w v rs := by
  have h0 := h
  obtain ⟨_, h | ⟨g, cap, cur, rfl, _, _, hn, hc, _, _⟩⟩ := h
  · obtain ⟨rfl, hz⟩ := h
    exact ⟨none, 0, by rw [hz], by omega, Or.inl hz⟩
  · refine ⟨some ⟨g, 0, none⟩, cap, rfl, by unfold maxLen at hc; omega, Or.inr ⟨g, 0, rfl, fun j hj => ?_⟩⟩
    obtain ⟨h1, h2⟩ := resCells_at rs j hj
    rw [Nat.zero_add, h0.cellAt (j * 2) (by omega), h0.cellAt (j * 2 + 1) (by omega)]
    exact ⟨h1, h2⟩

end Go.Proofs.Ytaclnaedinfhmaa
