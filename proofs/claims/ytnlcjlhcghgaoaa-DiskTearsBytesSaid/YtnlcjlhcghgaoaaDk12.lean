
/-
  Layer 22: what the bytes are after a crash.
-/
import Derived.Test.YtnlcjlhcghgaoaaRows
import Derived.Test.YtnlcjlhcghgaoaaBase
import Derived.Test.YtnlcjlhcghgaoaaDk11
import Derived.WalkKit
namespace Go.Proofs.Ytnlcjlhcghgaoaa
open Go Go.RowKit SZ
set_option linter.unusedVariables false
set_option linter.unusedSimpArgs false
set_option maxRecDepth 100000
attribute [local irreducible] post GD Nxt NxtAll
theorem gset_eq {α : Type} (l : List α) (i : Nat) (x z : α) (h : i < l.length) : (l.set i x).getD i z = x := by simp [List.getD, List.getElem?_set, h]
theorem gset_ne {α : Type} (l : List α) (i j : Nat) (x z : α) (h : i ≠ j) : (l.set i x).getD j z = l.getD j z := by simp [List.getD, List.getElem?_set, h]
theorem set_back {α : Type} (l : List α) (i : Nat) (x z : α) : (l.set i x).set i (l.getD i z) = l := by
  rw [List.set_set]
  by_cases h : i < l.length
  · have e : l.getD i z = l[i] := by simp [List.getD, List.getElem?_eq_getElem h]
    rw [e, List.set_getElem_self]
  · exact List.set_eq_of_length_le (by omega)
def byt (s : ByteArray) (k : Nat) : Nat := (s.data.toList.getD k 0).toNat
theorem byt_ix (s : ByteArray) (k : Nat) (h : k < s.size) : (s[k]'h).toNat = byt s k := by
  have h2 : k < s.data.toList.length := by simpa using h
  unfold byt
  rw [List.getD, List.getElem?_eq_getElem h2]
  rfl
theorem byt_tear (a b : ByteArray) (m k : Nat) (ha : a.size = 32) (hb : b.size = 32) (hm : m ≤ 32) (hk : k < 32) : byt (tear a b m) k = if k < m then byt a k else byt b k := by
  have ha2 : a.data.toList.length = 32 := by simpa using ha
  have hb2 : b.data.toList.length = 32 := by simpa using hb
  have e : (tear a b m).data.toList = a.data.toList.take m ++ b.data.toList.drop m := by
    unfold tear
    rw [ByteArray.data_append, ByteArray.data_extract, ByteArray.data_extract, Array.toList_append]
    simp
    rw [List.take_of_length_le (by simp [hb2, hb])]
  unfold byt
  rw [e]
  simp only [List.getD, List.getElem?_append, List.length_take, ha2, List.getElem?_take, List.getElem?_drop]
  by_cases h : k < m
  · rw [if_pos (by omega), if_pos h, if_pos h]
  · rw [if_neg (by omega), if_neg h, show m + (k - min m 32) = k by omega]
/-- Every byte is the old one or one of a write to that sector. -/
theorem crA_byt (W : List (Int × ByteArray)) (cs : List Int) (n : Nat) (Dt : List ByteArray) (hD : All32 Dt) (a k : Nat) (ha : a < n) (hk : k < 32) : ∀ (m : Nat) (S : List ByteArray), (∀ j, j < m → (0 ≤ (W.getD j (0, ByteArray.empty)).1 ∧ (W.getD j (0, ByteArray.empty)).1 < (n : Int))) → m ≤ Dt.length → S.length = n → All32 S →
    byt ((crA W cs Dt m S).getD a ByteArray.empty) k = byt (S.getD a ByteArray.empty) k ∨ ∃ j, j < m ∧ (W.getD j (0, ByteArray.empty)).1 = (a : Int) ∧ byt ((crA W cs Dt m S).getD a ByteArray.empty) k = byt (Dt.getD j ByteArray.empty) k
  | 0, S, _, _, _, _ => Or.inl rfl
  | m + 1, S, hW, hm, hl, hS => by
    have ih := crA_byt W cs n Dt hD a k ha hk m S (fun j hj => hW j (by omega)) (by omega) hl hS
    obtain ⟨h1, h2⟩ := crA_inv W cs n Dt hD m S (fun j hj => hW j (by omega)) (by omega) hl hS
    have hx := hW m (Nat.lt_succ_self _)
    have ih' : byt ((crA W cs Dt m S).getD a ByteArray.empty) k = byt (S.getD a ByteArray.empty) k ∨ ∃ j, j < m + 1 ∧ (W.getD j (0, ByteArray.empty)).1 = (a : Int) ∧ byt ((crA W cs Dt m S).getD a ByteArray.empty) k = byt (Dt.getD j ByteArray.empty) k := ih.imp id fun ⟨j, hj, q⟩ => ⟨j, by omega, q⟩
    by_cases he : (W.getD m (0, ByteArray.empty)).1.toNat = a
    · have e : (crA W cs Dt (m + 1) S).getD a ByteArray.empty = tear (Dt.getD m ByteArray.empty) ((crA W cs Dt m S).getD a ByteArray.empty) (cutOf cs m) := by
        show (List.set _ _ _).getD a ByteArray.empty = _
        rw [he]
        exact gset_eq _ _ _ _ (by rw [h1]; exact ha)
      rw [e, byt_tear _ _ _ _ (hD m (by omega)) (h2 a (by omega)) (cutOf_le _ _) hk]
      by_cases hc : k < cutOf cs m
      · rw [if_pos hc]
        exact Or.inr ⟨m, by omega, by omega, rfl⟩
      · rw [if_neg hc]
        exact ih'
    · have e : (crA W cs Dt (m + 1) S).getD a ByteArray.empty = (crA W cs Dt m S).getD a ByteArray.empty := by
        exact gset_ne _ _ _ _ _ he
      rw [e]
      exact ih'
theorem unA_app (W X : List (Int × ByteArray)) : ∀ (m : Nat) (x : List ByteArray × List ByteArray), m ≤ W.length → unA (W ++ X) m x = unA W m x
  | 0, x, _ => rfl
  | m + 1, x, h => by
    have e : (W ++ X).getD m (0, ByteArray.empty) = W.getD m (0, ByteArray.empty) := by simp [List.getD, List.getElem?_append_left (show m < W.length by omega)]
    simp only [unA]
    rw [e]
    exact unA_app W X m _ (by omega)
/-- What a list of commands without a sync does, and what undoes it. -/
structure UnR (n : Nat) (S0 : List ByteArray) (D0 : List (Int × ByteArray)) (l : List Nat) (x : List ByteArray × List (Int × ByteArray) × List (Int × ByteArray)) : Prop where
  len : x.1.length = n
  wl : x.2.1.length = l.length
  w1 : ∀ j, j < l.length → (x.2.1.getD j (0, ByteArray.empty)).1 = ((l.getD j 0 % n : Nat) : Int)
  d : x.2.2 = D0 ++ l.map fun c => (((c % n : Nat) : Int), fullS (c : Int))
  un : ∀ Dt : List ByteArray, l.length ≤ Dt.length → (unA x.2.1 l.length (x.1, Dt)).1 = S0 ∧ (unA x.2.1 l.length (x.1, Dt)).2.length = Dt.length ∧ ∀ j, (unA x.2.1 l.length (x.1, Dt)).2.getD j ByteArray.empty = if j < l.length then fullS ((l.getD j 0 : Nat) : Int) else Dt.getD j ByteArray.empty
theorem unr_all (n : Nat) (hn : 0 < n) (S0 : List ByteArray) (hS : S0.length = n) (D0 : List (Int × ByteArray)) : ∀ (m : Nat) (l : List Nat), l.length = m → (∀ c ∈ l, c ≠ 255) → UnR n S0 D0 l (l.foldl (wstep n) (S0, [], D0))
  | 0, l, hm, _ => by
    obtain rfl := List.eq_nil_of_length_eq_zero hm
    exact ⟨hS, rfl, fun j hj => absurd hj (Nat.not_lt_zero _), by simp, fun Dt _ => ⟨rfl, rfl, fun j => by simp [unA]⟩⟩
  | m + 1, l, hm, h => by
    obtain ⟨l', c, rfl⟩ : ∃ l' c, l = l' ++ [c] := by
      rcases List.eq_nil_or_concat l with e | ⟨l', c, e⟩
      · rw [e] at hm; cases hm
      · exact ⟨l', c, by rw [e, List.concat_eq_append]⟩
    have hl : l'.length = m := by simpa using hm
    have ih := unr_all n hn S0 hS D0 m l' hl (fun c hc => h c (List.mem_append_left _ hc))
    have hc : c ≠ 255 := h c (by simp)
    have hcn := Nat.mod_lt c hn
    rw [List.foldl_append]
    generalize l'.foldl (wstep n) (S0, [], D0) = x at ih ⊢
    have e : List.foldl (wstep n) x [c] = (x.1.set (c % n) (fullS (c : Int)), x.2.1 ++ [(((c % n : Nat) : Int), x.1.getD (c % n) ByteArray.empty)], x.2.2 ++ [(((c % n : Nat) : Int), fullS (c : Int))]) := by
      simp [wstep, hc]
    rw [e]
    refine ⟨by simp [ih.len], by simp [ih.wl], fun j hj => ?_, by simp [ih.d], fun Dt hDt => ?_⟩
    · by_cases hjl : j < l'.length
      · have := ih.w1 j hjl
        show ((x.2.1 ++ _).getD j (0, ByteArray.empty)).1 = _
        simp only [List.getD, List.getElem?_append_left (show j < x.2.1.length by rw [ih.wl]; exact hjl), List.getElem?_append_left hjl] at this ⊢
        exact this
      · obtain rfl : j = l'.length := by simp at hj; omega
        show ((x.2.1 ++ _).getD l'.length (0, ByteArray.empty)).1 = _
        rw [← ih.wl]
        simp only [List.getD, List.getElem?_concat_length, Option.getD_some]
        rw [ih.wl, List.getElem?_concat_length]
        rfl
    · have hDt' : l'.length < Dt.length := by simp at hDt; omega
      have e1 : (l' ++ [c]).length = l'.length + 1 := by simp
      have e2 : (x.2.1 ++ [(((c % n : Nat) : Int), x.1.getD (c % n) ByteArray.empty)]).getD l'.length (0, ByteArray.empty) = (((c % n : Nat) : Int), x.1.getD (c % n) ByteArray.empty) := by
        rw [← ih.wl]
        simp only [List.getD, List.getElem?_concat_length, Option.getD_some]
      have e3 : unA (x.2.1 ++ [(((c % n : Nat) : Int), x.1.getD (c % n) ByteArray.empty)]) (l' ++ [c]).length (x.1.set (c % n) (fullS (c : Int)), Dt) = unA x.2.1 l'.length (x.1, Dt.set l'.length (fullS (c : Int))) := by
        rw [e1]
        show unA _ l'.length (List.set _ _ _, List.set _ _ _) = _
        rw [e2]
        show unA _ l'.length ((x.1.set (c % n) (fullS (c : Int))).set (((c % n : Nat) : Int)).toNat (x.1.getD (c % n) ByteArray.empty), Dt.set l'.length ((x.1.set (c % n) (fullS (c : Int))).getD (((c % n : Nat) : Int)).toNat ByteArray.empty)) = _
        rw [Int.toNat_natCast, set_back, gset_eq _ _ _ _ (by rw [ih.len]; exact hcn), unA_app _ _ _ _ (by rw [ih.wl]; exact Nat.le_refl _)]
      show (unA (x.2.1 ++ _) _ (_, Dt)).1 = S0 ∧ _
      rw [e3]
      obtain ⟨h1, h2, h3⟩ := ih.un (Dt.set l'.length (fullS (c : Int))) (by simp; omega)
      refine ⟨h1, by rw [h2, List.length_set], fun j => ?_⟩
      rw [h3 j]
      by_cases hj : j < l'.length
      · rw [if_pos hj, if_pos (by omega)]
        simp [List.getD, List.getElem?_append_left hj]
      · rw [if_neg hj]
        by_cases hj2 : j = l'.length
        · subst hj2
          rw [if_pos (by omega), gset_eq _ _ _ _ hDt']
          simp only [List.getD, List.getElem?_concat_length, Option.getD_some]
        · rw [if_neg (by omega), gset_ne _ _ _ _ _ (fun e => hj2 e.symm)]
/-- Behind the last sync. -/
def lastS (l : List Nat) : Nat → Nat
  | 0 => 0
  | i + 1 => if l.getD i 0 = 255 then i + 1 else lastS l i
theorem lastS_le (l : List Nat) : ∀ i, lastS l i ≤ i
  | 0 => Nat.le_refl _
  | i + 1 => by
    unfold lastS
    split
    · exact Nat.le_refl _
    · exact Nat.le_succ_of_le (lastS_le l i)
theorem lastS_ne (l : List Nat) : ∀ i j, lastS l i ≤ j → j < i → l.getD j 0 ≠ 255
  | 0, j, _, h => absurd h (Nat.not_lt_zero _)
  | i + 1, j, h1, h2 => by
    unfold lastS at h1
    split at h1
    · omega
    · rename_i h
      by_cases e : j = i
      · rw [e]; exact h
      · exact lastS_ne l i j h1 (by omega)
theorem lastS_at (l : List Nat) : ∀ i, lastS l i = 0 ∨ (0 < lastS l i ∧ l.getD (lastS l i - 1) 0 = 255)
  | 0 => Or.inl rfl
  | i + 1 => by
    unfold lastS
    split
    · exact Or.inr ⟨Nat.succ_pos _, by assumption⟩
    · exact lastS_at l i
theorem wall_last (n : Nat) (l : List Nat) (p : Nat) (hp : p = lastS l l.length) : (wall n (l.take p)).2.1 = [] := by
  rcases lastS_at l l.length with h | ⟨h1, h2⟩
  · rw [hp, h]; rfl
  · have hle := lastS_le l l.length
    have e := wall_succ n l (p - 1) (by omega)
    rw [show p - 1 + 1 = p by omega, show l.getD (p - 1) 0 = 255 by rw [hp]; exact h2] at e
    rw [e]
    rfl
def isA (s o : ByteArray) (D : List (Int × ByteArray)) (a k b0 : Nat) : Nat → Bool
  | 0 => decide (((byt s k : Nat) : Int) = ((byt o k : Nat) : Int))
  | j + 1 => isA s o D a k b0 j || (decide ((D.getD (b0 + j) (0, ByteArray.empty)).1 = (a : Int)) && decide (((byt s k : Nat) : Int) = ((byt (D.getD (b0 + j) (0, ByteArray.empty)).2 k : Nat) : Int)))
theorem isA_of (s o : ByteArray) (D : List (Int × ByteArray)) (a k b0 : Nat) : ∀ m, (byt s k = byt o k ∨ ∃ j, j < m ∧ (D.getD (b0 + j) (0, ByteArray.empty)).1 = (a : Int) ∧ byt s k = byt (D.getD (b0 + j) (0, ByteArray.empty)).2 k) → isA s o D a k b0 m = true
  | 0, h => by
    rcases h with h | ⟨j, hj, _⟩
    · simp [isA, h]
    · omega
  | m + 1, h => by
    simp only [isA, Bool.or_eq_true, Bool.and_eq_true, decide_eq_true_eq]
    rcases h with h | ⟨j, hj, h1, h2⟩
    · exact Or.inl (isA_of s o D a k b0 m (Or.inl h))
    · by_cases e : j = m
      · subst e; exact Or.inr ⟨h1, by rw [h2]⟩
      · exact Or.inl (isA_of s o D a k b0 m (Or.inr ⟨j, by omega, h1, h2⟩))
/-- Each byte of the device after a crash. -/
theorem tears (n : Nat) (hn : 0 < n) (l : List Nat) (d : Dk) (hd : d.ok) (hr : d.right) (hsl : d.sl = n) (D : List (Int × ByteArray)) (he : wall n l = (d.S, d.W, D)) (S2 : List ByteArray) (W2 D2 : List (Int × ByteArray)) (he2 : wall n (l.take (lastS l l.length)) = (S2, W2, D2)) (cs : List Int) :
    (S2.length = n ∧ All32 S2) ∧ D2.length ≤ D.length ∧ ∀ a k, a < n → k < 32 → isA ((crS d cs).getD a ByteArray.empty) (S2.getD a ByteArray.empty) D a k D2.length (D.length - D2.length) = true := by
  have hle := lastS_le l l.length
  have hv2 := winv n hn (l.take (lastS l l.length))
  have hw2 := wall_last n l _ rfl
  rw [he2] at hv2 hw2
  have hw2' : W2 = [] := hw2
  subst hw2'
  have e0 : (l.drop (lastS l l.length)).foldl (wstep n) (S2, [], D2) = (d.S, d.W, D) := by
    rw [← he, ← he2]
    unfold wall
    rw [← List.foldl_append, List.take_append_drop]
  have hu := unr_all n hn S2 hv2.len D2 _ (l.drop (lastS l l.length)) rfl (fun c hc => by
    obtain ⟨j, hj, rfl⟩ := List.getElem_of_mem hc
    have hj2 : j < l.length - lastS l l.length := by simpa using hj
    have h1 := lastS_ne l l.length (lastS l l.length + j) (by omega) (by omega)
    rw [List.getElem_drop]
    intro e
    apply h1
    rw [List.getD, List.getElem?_eq_getElem (by omega)]
    exact e)
  rw [e0] at hu
  have hS2 : S2.length = n ∧ All32 S2 := ⟨hv2.len, fun j hj => hv2.sz _ (getD_mem _ _ _ hj)⟩
  have htl : d.tl = (l.drop (lastS l l.length)).length := by rw [← hd.hW]; exact hu.wl
  have hD : D = D2 ++ (l.drop (lastS l l.length)).map fun c => (((c % n : Nat) : Int), fullS (c : Int)) := hu.d
  generalize l.drop (lastS l l.length) = l' at hu htl hD
  refine ⟨hS2, by rw [hD, List.length_append]; omega, fun a k ha hk => ?_⟩
  obtain ⟨h1, h2, h3⟩ := hu.un (List.replicate d.tl ByteArray.empty) (by simp; omega)
  obtain ⟨hu1, hu2, hu3, hu4⟩ := crU_inv d hd hr
  have hc : crU d = unA d.W l'.length (d.S, List.replicate d.tl ByteArray.empty) := by unfold crU; rw [htl]
  have hb := crA_byt d.W cs n (crU d).2 hu4 a k ha hk d.tl (crU d).1 (fun j hj => by have := (hr.w j hj).1; rw [hsl] at this; exact this) (by omega) (by rw [hu1, hsl]) hu2
  have e1 : (crU d).1 = S2 := by rw [hc]; exact h1
  rw [show crA d.W cs (crU d).2 d.tl (crU d).1 = crS d cs from rfl, e1] at hb
  refine isA_of _ _ _ _ _ _ _ (hb.imp id fun ⟨j, hj, q1, q2⟩ => ?_)
  have hjl : j < l'.length := by omega
  have eD : D.getD (D2.length + j) (0, ByteArray.empty) = (((l'.getD j 0 % n : Nat) : Int), fullS ((l'.getD j 0 : Nat) : Int)) := by
    rw [hD]
    simp [List.getD, List.getElem?_append_right, List.getElem?_eq_getElem hjl]
  refine ⟨j, by rw [hD, List.length_append, List.length_map]; omega, ?_, ?_⟩
  · rw [eD, ← q1]
    exact (hu.w1 j hjl).symm
  · rw [eD, q2, hc]
    have := h3 j
    rw [if_pos hjl] at this
    show byt ((unA d.W l'.length (d.S, List.replicate d.tl ByteArray.empty)).2.getD j ByteArray.empty) k = _
    rw [this]
theorem sl_pre (a : Option Addr) (n c m : Nat) (h : m ≤ c) (W : World) : (Instr.sliceAt 41 (.slice a n c) none (some (.int .i64 (m : Int))) none).run Try.prog W = .ok (.slice a m c) W := by
  have hu : Try.prog.underlying 41 = some (.slice (Try.prog.elem 41)) := by rw [Try.underlying41]; kernel_rfl
  rw [run_sliceAt_slice W _ _ _ _ _ hu, run_slice_any W _ _ _ _ hu]
  have hs : (Instr.sliceBounds true n c none (some (.int .i64 (m : Int))) none).run Try.prog W = .ok (0, m, c) W := by
    simp [Instr.sliceBounds, run_sliceBound, h]
  rw [hs]
  have hI : (Try.prog.info? (Try.prog.elem 41)).isSome = true := by kernel_rfl
  obtain ⟨ii, hi⟩ := Option.isSome_iff_exists.1 hI
  have ha : (if c = 0 then a else a.map (·.add (0 * ii.size))) = a := by
    rw [Nat.zero_mul]
    have e : (fun x : Addr => x.add 0) = id := by funext x; simp [Addr.add]
    rw [e, Option.map_id]
    simp
  simp [sizeOf, typeInfo, sliced, hi]
  simpa using ha
/-- A byte of a string. -/
theorem ex_ix {s : SS} {bs : List Nat} {x y : Operand} {t ty : TypeId} {p : ByteArray} {k : Nat} (ht : Try.prog.underlying t = some .string) (hx : s.val x = some (.v (.string p))) (hy : s.val y = some (.v (.int .i64 (k : Int)))) (hk : k < p.size) :
    ∀ (o : Oper) (ρ : Operand → Value) (W : World), o.op = .index t x y → o.type = ty → (∀ x y, s.val x = some y → ρ x = den bs y) → (execOp ρ o).run Try.prog W = .ok (.value (.int .u8 ((byt p k : Nat) : Int))) W := by
  intro o ρ W h1 h2 h3
  have e1 : ρ x = .string p := h3 x _ hx
  have e2 : ρ y = .int .i64 (k : Int) := h3 y _ hy
  have hr : ∀ W, (Instr.index t (.string p) (.int .i64 (k : Int))).run Try.prog W = .ok (.int .u8 ((byt p k : Nat) : Int)) W := fun W => by
    rw [run_index_string W t p .i64 _ ht, dif_pos ⟨by omega, by omega⟩]
    have e := byt_ix p k hk
    simp only [Int.toNat_natCast]
    rw [e]
  unfold execOp
  simp only [h1, e1, e2, Sem.run_bind, Sem.run_pure, Result.andThen_ok, hr]
theorem ex_eqI {s : SS} {bs : List Nat} {x y : Operand} {t t' ty : TypeId} {ki : IntKind} {p q : Int} {b : Bool} (hx : s.val x = some (.v (.int ki p))) (hy : s.val y = some (.v (.int ki q))) (hb : decide (p = q) = b) :
    ∀ (o : Oper) (ρ : Operand → Value) (W : World), o.op = .binOp .eql t x y t' → o.type = ty → (∀ x y, s.val x = some y → ρ x = den bs y) → (execOp ρ o).run Try.prog W = .ok (.value (.bool b)) W := by
  intro o ρ W h1 h2 h3
  have e1 : ρ x = .int ki p := h3 x _ hx
  have e2 : ρ y = .int ki q := h3 y _ hy
  subst hb
  have hb2 : (p == q) = decide (p = q) := rfl
  unfold execOp
  simp only [h1, e1, e2, eqGuard, binOp_eql, hb2, Sem.run_bind, Sem.run_pure, Result.andThen_ok]
  rfl
end Go.Proofs.Ytnlcjlhcghgaoaa
