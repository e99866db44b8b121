/-
  Merged: WireF, WireG, WireH, WireI, WlA
-/
import Derived.Test.YtfhmdlihnidjoaaRows
import Derived.Test.YtfhmdlihnidjoaaPe2
import Derived.Test.YtfhmdlihnidjoaaPe3
import Derived.Lib.AppendStr
import Derived.Laws.AppendOwnNone
import Derived.Outline
import Derived.Laws.IdiomStrings
import Derived.Deep.QuietTactic
import Derived.BigQuiet
namespace Go.Proofs.Ytfhmdlihnidjoaa
set_option linter.unusedSectionVars false
set_option maxRecDepth 100000
set_option linter.unusedVariables false
set_option linter.unusedSimpArgs false
set_option maxHeartbeats 4000000
open Go.ChangeShapes Go.WideShapes Go.ChangeAt Go.RowKit
def adS (l : List Nat) : Nat × Nat := l.foldl (fun p c => ((p.1 + c) % 65521, (p.2 + (p.1 + c) % 65521) % 65521)) (1, 0)
def Qb4 (l : List Nat) : Nat := 65536 * (adS l).2 + (adS l).1
theorem QgC (l : List Nat) (c : Nat) : adS (l ++ [c]) = (((adS l).1 + c) % 65521, ((adS l).2 + ((adS l).1 + c) % 65521) % 65521) := by simp [adS]
theorem Qf2 (l : List Nat) : (adS l).1 < 65521 ∧ (adS l).2 < 65521 := by
  rcases List.eq_nil_or_concat l with rfl | ⟨p, c, rfl⟩
  · simp [adS]
  · rw [List.concat_eq_append, QgC]
    exact ⟨Nat.mod_lt _ (by decide), Nat.mod_lt _ (by decide)⟩
theorem sum_any (v : Value) (l : List Nat) (hl : ∀ b ∈ l, b < 256) (w : World) (hv : Qex w v l) : Calls Try.prog 87 #[v] w fun e w' => e = .returned (.int .i64 (Qb4 l : Int)) ∧ w = w' := by
  obtain ⟨a, cap, rfl, hll, hc⟩ := hv
  have HC := Lib.hid hc
  have HL := Lib.hid hl
  clear hc hl
  obtain ⟨L, hL⟩ : ∃ L, L = l.length := ⟨_, rfl⟩
  rw [← hL] at HC hll ⊢
  have NL := Lib.hid hL
  clear hL
  go_enter Try.func87, Try.ntmps87
  go_wp2
  go_loop [3, 4, 9] (fun x y i => ∃ k : Nat, k ≤ L ∧ i = .int .i64 k ∧ x = .int .i64 (((adS (l.take k)).1 : Nat) : Int) ∧ y = .int .i64 (((adS (l.take k)).2 : Nat) : Int)) (fun _ _ i => L - (intOf i).toNat)
  case atStart => exact ⟨0, Nat.zero_le _, rfl, by simp [adS], by simp [adS]⟩
  case round =>
    obtain ⟨k, hk, rfl, rfl, rfl⟩ := hrel
    have hlt2 := Qf2 (l.take k)
    by_cases hlt : k < L
    · rcases HC.out with hc | ⟨b, o, rfl, hc⟩
      · omega
      have h1 := hc k hlt
      obtain ⟨c, hc'⟩ : ∃ c, c = l.getD k 0 := ⟨_, rfl⟩
      rw [← hc'] at h1
      have c256 : c < 256 := by
        rw [hc']; have hk' : k < l.length := by rw [← NL.out]; exact hlt
        rw [List.getD_eq_getElem?_getD, List.getElem?_eq_getElem hk']; exact HL.out _ (List.getElem_mem hk')
      have HS : Hid (adS (l.take (k + 1)) = (((adS (l.take k)).1 + c) % 65521, ((adS (l.take k)).2 + ((adS (l.take k)).1 + c) % 65521) % 65521)) := Lib.hid (by
        rw [Qei l k (by rw [← NL.out]; exact hlt), QgC, ← hc'])
      obtain ⟨X, hX⟩ : ∃ X, X = (adS (l.take k)).1 := ⟨_, rfl⟩
      obtain ⟨Y, hY⟩ : ∃ Y, Y = (adS (l.take k)).2 := ⟨_, rfl⟩
      rw [← hX, ← hY] at HS hlt2
      rw [← hX, ← hY]
      obtain ⟨x1, y1⟩ := hlt2
      clear hX hY hc hc'
      go_wp2
      go_round
      case rel => exact ⟨k + 1, by omega, by go_num, by rw [HS.out]; first | rfl | (congr 1; simp only; omega), by rw [HS.out]; first | rfl | (congr 1; simp only; omega)⟩
      case measure => simp [intOf]; omega
    · obtain rfl : k = L := by omega
      have ht : l.take k = l := by rw [NL.out]; exact List.take_length
      rw [ht] at hlt2 ⊢
      obtain ⟨X, hX⟩ : ∃ X, X = (adS l).1 := ⟨_, rfl⟩
      obtain ⟨Y, hY⟩ : ∃ Y, Y = (adS l).2 := ⟨_, rfl⟩
      have HA : Hid ((Qb4 l : Int) = 65536 * Y + X) := Lib.hid (by unfold Qb4; rw [hX, hY]; simp)
      rw [← hX, ← hY] at hlt2
      rw [← hX, ← hY]
      obtain ⟨x1, y1⟩ := hlt2
      clear hX hY
      go_wp2
      go_ret
      exact ⟨Qc1 (by rw [HA.out]; omega), rfl⟩
theorem QiD {w : World} {a : Option Addr} {n cap : Nat} {l : List Nat} (h : Qex w (.slice a n cap) l) : l.length = n ∧ ((a = none ∧ n = 0 ∧ cap = 0) ∨ ∃ ad, a = some ad ∧ ∀ j u, (l.map bV)[j]? = some u → w.cell? (ad.add j) = some u) := by
  obtain ⟨a', cap', he, hl, h⟩ := h
  simp only [Value.slice.injEq] at he
  obtain ⟨rfl, rfl, rfl⟩ := he
  refine ⟨rfl, ?_⟩
  rcases h with h | ⟨b, o, rfl, h⟩
  · cases a with
    | none => exact Or.inl ⟨rfl, h, hl.2.2.2 rfl⟩
    | some ad => exact Or.inr ⟨ad, rfl, fun j u hu => by rw [List.length_eq_zero_iff.1 h] at hu; simp at hu⟩
  · refine Or.inr ⟨_, rfl, fun j u hu => ?_⟩
    have hj : j < l.length := by
      by_cases hj : j < l.length
      · exact hj
      · rw [List.getElem?_eq_none (by simpa using hj)] at hu; cases hu
    rw [List.getElem?_map, List.getElem?_eq_getElem hj] at hu
    simp at hu
    subst hu
    have := h j hj
    rw [List.getD_eq_getElem?_getD, List.getElem?_eq_getElem hj] at this
    simp only [Option.getD_some] at this
    rw [← this]
    congr 1
    unfold Addr.add
    split
    · rename_i h0; subst h0; rfl
    · rfl
theorem QlI (l : List Nat) : ∀ u ∈ l.map bV, u.oneCell' = true := by
  intro u hu
  obtain ⟨b, _, rfl⟩ := List.mem_map.1 hu
  rfl
theorem Qg6 {w w' : World} {b o : Nat} {x : Value} (hb : Below w.heap.size w w') (h : w.cell? ⟨b, o, none⟩ = some x) : w'.cell? ⟨b, o, none⟩ = some x :=
  (hb.cell (p := ⟨b, o, none⟩) (World.block_lt_of_cell? w ⟨b, o, none⟩ h)).trans h
def Qal (s : ByteArray) : List Nat := s.data.toList.map fun b => b.toNat
theorem Qbz (s : ByteArray) : (Qal s).length = s.size := by simp [Qal]
theorem Qhm (s : ByteArray) : Lib.strCells s = (Qal s).map bV := by simp [Lib.strCells, Qal, bV]
theorem Qin {w : World} {B : Nat} {v : Value} {l m : List Nat} {n : Nat} (hn : n = l.length + m.length) (h : w.ownsRow B 5 1 v n (l.map bV ++ m.map bV)) : QeJ w B v (l ++ m) := by
  unfold QeJ
  rw [List.length_append, List.map_append, ← hn]
  exact h
theorem Qio {w : World} {B : Nat} {v : Value} {l : List Nat} (h : QeJ w B v l) (hl : 0 < l.length) : ∃ g c, v = .slice (some ⟨g, 0, none⟩) l.length c ∧ ∀ j u, (l.map bV)[j]? = some u → w.cell? ((⟨g, 0, none⟩ : Addr).add j) = some u := by
  have h0 : w.ownsRow B 5 1 v l.length (l.map bV) := h
  have h1 := h
  obtain ⟨_, h | ⟨g, cap, cur, rfl, _⟩⟩ := h
  · obtain ⟨_, h⟩ := h
    omega
  · exact ⟨g, cap, rfl, h0.cells (g := g) rfl⟩
theorem QgO {w w' : World} {B : Nat} {v : Value} {l : List Nat} (h : QeJ w B v l) (hb : Below w.heap.size w w') : QeJ w' B v l := by
  have hlt := World.ownsRow.lt h
  obtain ⟨h1, h2⟩ := h
  refine ⟨h1, ?_⟩
  rcases h2 with h2 | ⟨g, cap, cur, rfl, hB, hh, r⟩
  · exact Or.inl h2
  · exact Or.inr ⟨g, cap, cur, rfl, hB, (hb.block g (hlt g rfl).2).trans hh, r⟩
def Qd4 (l : List Int) : List Nat := enc (l.length : Int) ++ encs l
theorem Qgp (l : List Int) (h : ∀ n ∈ l, I64 n) : (encs l).length ≤ 10 * l.length := by
  induction l with
  | nil => simp [encs]
  | cons n l ih =>
    have h1 := ih (fun m hm => h m (List.mem_cons_of_mem _ hm))
    have h2 := Qdl (h n (by simp))
    have h3 : encs (n :: l) = enc n ++ encs l := by simp [encs]
    rw [h3, List.length_append, List.length_cons]; omega
theorem nums_any (v : Value) (l : List Int) (hl : ∀ n ∈ l, I64 n) (hlen : l.length ≤ 100000) (w : World) (hv : QbV w v l) : Calls Try.prog 78 #[v] w fun e w' =>
    ∃ r, e = .returned r ∧ QeJ w' w.heap.size r (Qd4 l) ∧ Below w.heap.size w w' := by
  obtain ⟨i0, hi, hz0, hz1, hz2⟩ := info_parts Qfh
  have HL := Lib.hid hl
  obtain ⟨a, cap, rfl, hll, hc⟩ := hv
  have HC := Lib.hid hc
  obtain ⟨L, hL⟩ : ∃ L, L = l.length := ⟨_, rfl⟩
  rw [← hL] at hll HC hlen ⊢
  have NL := Lib.hid hL
  clear hL hl hc
  have HI : Hid (I64 (L : Int)) := Lib.hid (by unfold I64; omega)
  have HE := Lib.hid (Qdl HI.out)
  go_enter Try.func78, Try.ntmps78
  go_wp2_with fail
  ((with_reducible refine (QkA _ HI.out _).mono ?_); rintro e w1 ⟨v1, rfl, hv1, hb1⟩)
  have HO := Lib.hid hv1
  have HB := Lib.hid hb1
  clear hv1 hb1
  go_wp2
  go_loopw [3, 11] (fun v i wr => ∃ k : Nat, k ≤ L ∧ i = .int .i64 k ∧ QeJ wr w.heap.size v (enc (L : Int) ++ encs (l.take k)) ∧ Hid (Below w.heap.size w wr)) (fun _ i _ => L - (intOf i).toNat)
  case atStart => exact ⟨0, Nat.zero_le _, rfl, by simpa [encs] using HO.out, HB⟩
  case round =>
    obtain ⟨k, hk, rfl, hown, hbw⟩ := hrel
    have HOW := Lib.hid hown
    clear hown
    by_cases hlt : k < L
    · rcases HC.out with hc | ⟨b, o, rfl, hc⟩
      · omega
      have h0 := hc k hlt
      have h1 := Qg6 hbw.out h0
      obtain ⟨x, hx⟩ : ∃ x, x = l.getD k 0 := ⟨_, rfl⟩
      rw [← hx] at h1
      have hkl : k < l.length := by rw [← NL.out]; exact hlt
      have HX : Hid (I64 x) := Lib.hid (by rw [hx, List.getD_eq_getElem?_getD, List.getElem?_eq_getElem hkl]; exact HL.out _ (List.getElem_mem hkl))
      have HT : Hid (encs (l.take (k + 1)) = encs (l.take k) ++ enc x) := Lib.hid (by rw [QfE l k hkl, Qed, ← hx])
      have HEL : Hid ((enc (L : Int) ++ encs (l.take k)).length ≤ 10 + 10 * L) := Lib.hid (by
        have h2 := Qgp (l.take k) (fun n hn => HL.out n (List.mem_of_mem_take hn))
        rw [List.length_take] at h2
        have := HE.out
        rw [List.length_append]; omega)
      have HXL := Lib.hid (Qdl HX.out)
      have HXP := Lib.hid (QhO x)
      clear hc h0 hx hkl
      go_wp2_with fail
      ((with_reducible refine (QkA _ HX.out _).mono ?_); rintro e w3 ⟨v3, rfl, hv3, hb3⟩)
      obtain ⟨g3, c3, rfl, hc3⟩ := Qio hv3 HXP.out
      have HB3 := Lib.hid (hbw.out.trans (hb3.mono hbw.out.size))
      have HO3 := Lib.hid (QgO HOW.out hb3)
      have HC3 := Lib.hid hc3
      clear hb3 hv3 hc3
      go_wp2_with (first
        | (at_builtin; refine wpList_append_own _ rfl _ _ 48 rfl w.heap.size 5 i0 (.int .u8 0) 1 1 Try.underlying48 hi hz0 hz1 hz2 rfl (by decide) _ _ _ rfl HO3.out ⟨g3, 0, none⟩ _ c3 _ rfl (by rw [List.length_map, Nat.mul_one]) HC3.out (QlI _) (by have h1 := HEL.out; have h2 := HXL.out; unfold maxLen; omega) (by have h1 := HEL.out; have h2 := HXL.out; omega) HB3.out.size ?_; intro v' w4 hown' hgrow' _))
      have hb4 := Lib.hid (HB3.out.grown hgrow' HB3.out.size (fun j hj => (World.ownsRow.lt HO3.out j hj).1))
      have ho4 : QeJ w4 w.heap.size v' (enc (L : Int) ++ encs (l.take (k + 1))) := by
        rw [HT.out, ← List.append_assoc]; exact Qin rfl hown'
      clear hown' hgrow'
      go_roundw
      case rel => exact ⟨k + 1, by omega, by go_num, ho4, hb4⟩
      case measure => simp [intOf]; omega
    · obtain rfl : k = L := by omega
      have ht : l.take k = l := by rw [NL.out]; exact List.take_length
      go_wp2
      go_ret
      refine ⟨_, rfl, ?_, hbw.out⟩
      have h := HOW.out
      rw [ht] at h
      unfold Qd4
      rw [← NL.out]
      exact h
def QaY (l : List Nat) : ByteArray := ⟨(l.map UInt8.ofNat).toArray⟩
theorem QbM (l : List Nat) (hl : ∀ b ∈ l, b < 256) : Qal (QaY l) = l := by
  unfold Qal QaY
  simp only [List.map_map]
  have : ∀ b ∈ l, ((fun b : UInt8 => b.toNat) ∘ UInt8.ofNat) b = b := fun b hb => by
    simp only [Function.comp]
    exact UInt8.toNat_ofNat_of_lt' (by have := hl b hb; simpa using this)
  rw [List.map_congr_left this]; simp
theorem run_str {w : World} {a : Option Addr} {m cap : Nat} {l : List Nat} (hl : ∀ b ∈ l, b < 256) (h : Qex w (.slice a m cap) l) (n : Nat) :
    (convert 48 9 (.slice a m cap)).run Try.prog (w.drewN n) = .ok (.string (QaY l)) (w.drewN n) := by
  obtain ⟨hlen, hs⟩ := QiD h
  rcases hs with ⟨rfl, rfl, rfl⟩ | ⟨ad, rfl, hc⟩
  · rw [List.length_eq_zero_iff.1 hlen]
    rw [run_convert_bytes_string _ _ _ _ _ _ _ Try.underlying48 Try.underlying5 Try.underlying9]
    rfl
  · have h1 := run_convert_bytes_back (P := Try.prog) (w.drewN n) 48 9 5 ad cap (l.map UInt8.ofNat) Try.underlying48 Try.underlying5 Try.underlying9 (fun j hj => by
      have hj' : j < l.length := by simpa using hj
      have h2 := hc j (bV l[j]) (by simp [List.getElem?_eq_getElem hj'])
      show w.cell? (ad.add j) = _
      rw [h2, List.getElem_map]
      have := hl l[j] (List.getElem_mem hj')
      rw [UInt8.toNat_ofNat_of_lt' (by simpa using this)])
    rw [List.length_map, hlen] at h1
    exact h1
def Qbe : Nat → List Nat → Option (List Int × Nat)
  | 0, _ => some ([], 0)
  | c + 1, l => match Qbe c l with
    | none => none
    | some (ns, u) => match dec (l.drop u) with
      | none => none
      | some (n, k) => some (ns ++ [n], u + k)
def Qa0 (l : List Nat) : Option (List Int × Nat) := match dec l with
  | none => none
  | some (c, k) => if c < 0 then none else match Qbe c.toNat (l.drop k) with
    | none => none
    | some (ns, u) => some (ns, k + u)
theorem Qg4 {j : Nat} {l : List Nat} (h : Qbe j l = none) (i : Nat) : Qbe (j + i) l = none := by
  induction i with
  | zero => exact h
  | succ i ih => rw [← Nat.add_assoc]; unfold Qbe; rw [ih]
theorem QcF {j : Nat} {l : List Nat} {ns : List Int} {u : Nat} (hl : ∀ b ∈ l, b < 256) (h : Qbe j l = some (ns, u)) : ns.length = j ∧ j ≤ u ∧ u ≤ l.length ∧ l.take u = encs ns ∧ ∀ n ∈ ns, I64 n := by
  induction j generalizing ns u with
  | zero => simp [Qbe] at h; obtain ⟨rfl, rfl⟩ := h; simp [encs]
  | succ j ih =>
    unfold Qbe at h
    split at h
    · cases h
    · rename_i ns' u' he
      split at h
      · cases h
      · rename_i n k hd
        simp at h
        obtain ⟨rfl, rfl⟩ := h
        obtain ⟨h1, h2, h3, h4, h5⟩ := ih he
        have hd2 := Qgq (fun b hb => hl b (List.mem_of_mem_drop hb)) hd
        rw [List.length_drop] at hd2
        refine ⟨by simp [h1], by omega, by omega, ?_, ?_⟩
        · rw [List.take_add, h4, hd2.2.1, Qed]
        · intro m hm
          rcases List.mem_append.1 hm with hm | hm
          · exact h5 m hm
          · simp at hm; subst hm; exact hd2.1
theorem QeC (ns : List Int) (hns : ∀ n ∈ ns, I64 n) (r : List Nat) : Qbe ns.length (encs ns ++ r) = some (ns, (encs ns).length) := by
  rcases List.eq_nil_or_concat ns with rfl | ⟨p, n, rfl⟩
  · rfl
  · rw [List.concat_eq_append] at *
    have ih := QeC p (fun m hm => hns m (by simp [hm])) (enc n ++ r)
    rw [List.length_append, Qed, List.append_assoc]
    show Qbe (p.length + 1) _ = _
    unfold Qbe
    rw [ih]
    simp only
    rw [List.drop_left, Qlu (hns n (by simp))]
    simp
termination_by ns.length
decreasing_by
  rename_i h
  have : ns = p ++ [n] := by simpa using h
  rw [this]; simp
theorem Qdy (B0 B1 : Nat) (a : Option Addr) (L cap t : Nat) (l : List Nat) (hl : ∀ b ∈ l, b < 256) (w : World) (hv : Qex w (.slice a L cap) l) (h0 : w.cell? ⟨B0, 0, none⟩ = some (.slice a L cap))
    (h1 : w.cell? ⟨B1, 0, none⟩ = some (.int .i64 t)) (f1 : w.frozen? ⟨B1, 0, none⟩ = false) (ht : t ≤ L) (n : Int) (k : Nat) (E : Int) (ok : Bool)
    (hD : Qb6 (l.drop t) = .tuple #[.int .i64 n, .int .i64 (k : Int), .int .i64 E]) (hok : (E == 0) = ok) (hk : t + k ≤ L) :
    Calls Try.prog 82 #[.pointer (some ⟨B0, 0, none⟩), .pointer (some ⟨B1, 0, none⟩)] w fun e w' =>
      e = .returned (.tuple #[.int .i64 n, .bool ok]) ∧ w'.cell? ⟨B1, 0, none⟩ = some (.int .i64 ((t + k : Nat) : Int)) ∧ w'.frozen? ⟨B1, 0, none⟩ = false ∧ w.grownBy w' (some B1) := by
  have HV := Lib.hid hv
  have HD := Lib.hid hD
  have hcap : L ≤ cap ∧ cap ≤ 9223372036854775807 := by
    obtain ⟨a', cap', he, hll, _⟩ := hv
    simp only [Value.slice.injEq] at he
    obtain ⟨rfl, rfl, rfl⟩ := he
    exact ⟨hll.2.1, hll.2.2.1⟩
  obtain ⟨c1, c2⟩ := hcap
  have HP : Hid (Qex w (.slice (if cap = t then a else a.map (·.add t)) (L - t) (cap - t)) (l.drop t)) := Lib.hid (QgZ hv ht)
  have HLP : Hid (∀ b ∈ l.drop t, b < 256) := Lib.hid (fun b hb => hl b (List.mem_of_mem_drop hb))
  clear hv hD hl
  have q1 : (t : Int) ≤ cap := by omega
  by_cases hc : cap = t
  · subst hc
    obtain rfl : L = cap := by omega
    simp only [if_true, Nat.sub_self] at HP
    go_enter Try.func82, Try.ntmps82
    go_wp2_with fail
    ((with_reducible refine (Qlb _ (l.drop L) HLP.out _ HP.out).mono ?_); rintro e w' ⟨rfl, m, rfl⟩)
    rw [HD.out]
    go_wp2
    go_ret2
    refine ⟨rfl, ?_, ?_, ?_⟩
    · rw [Int.natCast_add]
      exact World.cell?_setCell_same _ _ _ h1
    · exact (World.frozen?_setCell _ _ _ _).trans f1
    · exact Qfl (show w.grownBy (w.drewN m) (some B1) from ⟨rfl, rfl, rfl, Nat.le_refl _, fun _ _ _ => rfl⟩) (Or.inl rfl) _
  · rw [if_neg hc] at HP
    go_enter Try.func82, Try.ntmps82
    go_wp2_with fail
    ((with_reducible refine (Qlb _ (l.drop t) HLP.out _ HP.out).mono ?_); rintro e w' ⟨rfl, m, rfl⟩)
    rw [HD.out]
    go_wp2
    go_ret2
    refine ⟨rfl, ?_, ?_, ?_⟩
    · rw [Int.natCast_add]
      exact World.cell?_setCell_same _ _ _ h1
    · exact (World.frozen?_setCell _ _ _ _).trans f1
    · exact Qfl (show w.grownBy (w.drewN m) (some B1) from ⟨rfl, rfl, rfl, Nat.le_refl _, fun _ _ _ => rfl⟩) (Or.inl rfl) _
def NumsW (W : World) (l : List Nat) (e : Ending) (w' : World) : Prop :=
  Below W.heap.size W w' ∧ match Qa0 l with
  | none => e = .returned (.tuple #[.slice none 0 0, .int .i64 0, .int .i64 3])
  | some (ns, u) => ∃ v, e = .returned (.tuple #[v, .int .i64 (u : Int), .int .i64 0]) ∧ QbV w' v ns ∧ ∀ g, v.ownBlock = some g → W.heap.size ≤ g
theorem Qcg {W w2 w3 : World} {B1 : Nat} {b o : Nat} {x : Value} (hB : Below W.heap.size W w2) (hB1 : W.heap.size ≤ B1) (hg : w2.grownBy w3 (some B1)) (h0 : w2.cell? ⟨b, o, none⟩ = some x) (hne : b ≠ B1) :
    Below W.heap.size W w3 ∧ w3.cell? ⟨b, o, none⟩ = some x :=
  ⟨hB.grown hg hB.size (fun j hj => by have : B1 = j := by simpa using hj
                                       omega),
   (World.cell?_of_block (a := ⟨b, o, none⟩) (hg.block b (World.block_lt_of_cell? w2 ⟨b, o, none⟩ h0) (by simpa using hne))).trans h0⟩
theorem Qla (v : Value) (l : List Nat) (hl : ∀ b ∈ l, b < 256) (hlen : l.length ≤ 1000000) (w : World) (hv : Qex w v l) : Calls Try.prog 76 #[v] w (NumsW w l) := by
  obtain ⟨i0, hi, hz0, hz1, hz2⟩ := info_parts Qiz
  have HV := Lib.hid hv
  have HL := Lib.hid hl
  obtain ⟨a, cap, rfl, hll, _⟩ := hv
  obtain ⟨L, hL⟩ : ∃ L, L = l.length := ⟨_, rfl⟩
  rw [← hL] at hll HV hlen ⊢
  have NL := Lib.hid hL
  clear hL hl hll
  cases hd : dec l with
  | none =>
    have HD : Hid (Qb6 (l.drop 0) = .tuple #[.int .i64 0, .int .i64 ((0 : Nat) : Int), .int .i64 3]) := Lib.hid (by rw [List.drop_zero]; unfold Qb6; rw [hd]; rfl)
    have HN : Hid (Qa0 l = none) := Lib.hid (by unfold Qa0; rw [hd])
    clear hd
    go_enter Try.func76, Try.ntmps76
    go_wp2_with fail
    have hw0 : Below w.heap.size w ((w.alloc (.cells #[.slice a L cap] 48)).alloc (.cells #[.int .i64 0] 3)) := ((Below.refl _ _).alloc (Nat.le_refl _) _).alloc (by simp) _
    have hc0 : ((w.alloc (.cells #[.slice a L cap] 48)).alloc (.cells #[.int .i64 0] 3)).cell? ⟨w.heap.size, 0, none⟩ = some (.slice a L cap) := Qa3 _ (by rw [World.cell?_alloc_at _ _ _ _ rfl]; rfl)
    ((with_reducible refine (Qdy w.heap.size (w.heap.size + 1) a L cap 0 l HL.out _ (QcR HV.out hw0) hc0 (by rw [World.cell?_alloc_at _ _ _ _ (by simp)]; simp) (World.frozen?_alloc_at _ _ _ _ (by simp)) (Nat.zero_le _) _ _ _ false HD.out rfl (Nat.zero_le _)).mono ?_); rintro e w1 ⟨rfl, g1, f1, hg1⟩)
    have hA := Qcg hw0 (by omega) hg1 hc0 (by omega)
    have HB1 := Lib.hid hA.1
    have g0 := hA.2
    have HS1 := hA.1.size
    clear hw0 hc0 hg1 hA
    go_wp2
    go_ret3
    refine ⟨HB1.out, ?_⟩
    rw [HN.out]
    rfl
  | some x =>
    obtain ⟨c, k⟩ := x
    have HD : Hid (Qb6 (l.drop 0) = .tuple #[.int .i64 c, .int .i64 (k : Int), .int .i64 0]) := Lib.hid (by rw [List.drop_zero]; unfold Qb6; rw [hd])
    have hs := Qgq HL.out hd
    rw [← NL.out] at hs
    have hkL : 0 + k ≤ L := by omega
    have hci := hs.1
    unfold I64 at hci
    obtain ⟨hci1, hci2⟩ := hci
    have HKL : Hid (k ≤ L) := Lib.hid hs.2.2.2
    clear hs
    by_cases hneg : c < 0
    · have HN : Hid (Qa0 l = none) := Lib.hid (by unfold Qa0; rw [hd]; simp only; rw [if_pos hneg])
      clear hd
      go_enter Try.func76, Try.ntmps76
      go_wp2_with fail
      have hw0 : Below w.heap.size w ((w.alloc (.cells #[.slice a L cap] 48)).alloc (.cells #[.int .i64 0] 3)) := ((Below.refl _ _).alloc (Nat.le_refl _) _).alloc (by simp) _
      have hc0 : ((w.alloc (.cells #[.slice a L cap] 48)).alloc (.cells #[.int .i64 0] 3)).cell? ⟨w.heap.size, 0, none⟩ = some (.slice a L cap) := Qa3 _ (by rw [World.cell?_alloc_at _ _ _ _ rfl]; rfl)
      ((with_reducible refine (Qdy w.heap.size (w.heap.size + 1) a L cap 0 l HL.out _ (QcR HV.out hw0) hc0 (by rw [World.cell?_alloc_at _ _ _ _ (by simp)]; simp) (World.frozen?_alloc_at _ _ _ _ (by simp)) (Nat.zero_le _) _ _ _ true HD.out rfl hkL).mono ?_); rintro e w1 ⟨rfl, g1, f1, hg1⟩)
      have hA := Qcg hw0 (by omega) hg1 hc0 (by omega)
      have HB1 := Lib.hid hA.1
      have g0 := hA.2
      have HS1 := hA.1.size
      clear hw0 hc0 hg1 hA
      go_wp2
      go_ret3
      refine ⟨HB1.out, ?_⟩
      rw [HN.out]
      rfl
    · obtain ⟨C, rfl⟩ := Int.eq_ofNat_of_zero_le (show 0 ≤ c by omega)
      have HN1 : Hid (Qa0 l = match Qbe C (l.drop k) with | none => none | some (ns, u) => some (ns, k + u)) := Lib.hid (by
        unfold Qa0; rw [hd]; simp only; rw [if_neg hneg]; rfl)
      clear hd hneg hci1 hci2
      by_cases hbig : (L : Int) - k < C
      · have HN : Hid (Qa0 l = none) := Lib.hid (by
          rw [HN1.out]
          cases hm : Qbe C (l.drop k) with
          | none => rfl
          | some y =>
            obtain ⟨ns, u⟩ := y
            have h := QcF (fun b hb => HL.out b (List.mem_of_mem_drop hb)) hm
            rw [List.length_drop, ← NL.out] at h
            have := HKL.out
            omega)
        clear HN1
        go_enter Try.func76, Try.ntmps76
        go_wp2_with fail
        have hw0 : Below w.heap.size w ((w.alloc (.cells #[.slice a L cap] 48)).alloc (.cells #[.int .i64 0] 3)) := ((Below.refl _ _).alloc (Nat.le_refl _) _).alloc (by simp) _
        have hc0 : ((w.alloc (.cells #[.slice a L cap] 48)).alloc (.cells #[.int .i64 0] 3)).cell? ⟨w.heap.size, 0, none⟩ = some (.slice a L cap) := Qa3 _ (by rw [World.cell?_alloc_at _ _ _ _ rfl]; rfl)
        ((with_reducible refine (Qdy w.heap.size (w.heap.size + 1) a L cap 0 l HL.out _ (QcR HV.out hw0) hc0 (by rw [World.cell?_alloc_at _ _ _ _ (by simp)]; simp) (World.frozen?_alloc_at _ _ _ _ (by simp)) (Nat.zero_le _) _ _ _ true HD.out rfl hkL).mono ?_); rintro e w1 ⟨rfl, g1, f1, hg1⟩)
        have hA := Qcg hw0 (by omega) hg1 hc0 (by omega)
        have HB1 := Lib.hid hA.1
        have g0 := hA.2
        have HS1 := hA.1.size
        clear hw0 hc0 hg1 hA
        go_wp2
        go_ret3
        refine ⟨HB1.out, ?_⟩
        rw [HN.out]
        rfl
      · have hCL : C ≤ L := by have := HKL.out; omega
        have hbig' : (C : Int) ≤ (L : Int) - k := by omega
        clear hbig
        go_enter Try.func76, Try.ntmps76
        go_wp2_with fail
        have hw0 : Below w.heap.size w ((w.alloc (.cells #[.slice a L cap] 48)).alloc (.cells #[.int .i64 0] 3)) := ((Below.refl _ _).alloc (Nat.le_refl _) _).alloc (by simp) _
        have hc0 : ((w.alloc (.cells #[.slice a L cap] 48)).alloc (.cells #[.int .i64 0] 3)).cell? ⟨w.heap.size, 0, none⟩ = some (.slice a L cap) := Qa3 _ (by rw [World.cell?_alloc_at _ _ _ _ rfl]; rfl)
        ((with_reducible refine (Qdy w.heap.size (w.heap.size + 1) a L cap 0 l HL.out _ (QcR HV.out hw0) hc0 (by rw [World.cell?_alloc_at _ _ _ _ (by simp)]; simp) (World.frozen?_alloc_at _ _ _ _ (by simp)) (Nat.zero_le _) _ _ _ true HD.out rfl hkL).mono ?_); rintro e w1 ⟨rfl, g1, f1, hg1⟩)
        have hA := Qcg hw0 (by omega) hg1 hc0 (by omega)
        have HB1 := Lib.hid hA.1
        have g0 := hA.2
        have HS1 := hA.1.size
        clear hw0 hc0 hg1 hA
        go_wp2_with (first
          | (at_make; refine wpList_make_own _ rfl _ _ 26 rfl w1.heap.size 3 i0 (.int .i64 0) 1 Try.underlying26 hi hz0 hz1 _ _ _ C rfl rfl rfl (by rw [hz2]; omega) (by unfold maxLen; omega) (Nat.le_refl _) ?_; intro w2 hown2 hgrow2))
        have hlB1 : w.heap.size + 1 < w1.heap.size := World.block_lt_of_cell? w1 ⟨w.heap.size + 1, 0, none⟩ g1
        have hs2 : w1.heap.size ≤ w2.heap.size := hgrow2.size
        have hb2 : Hid (Below w.heap.size w w2) := Lib.hid (HB1.out.grown hgrow2 HB1.out.size (fun j hj => by cases hj))
        have e0 : w2.cell? ⟨w.heap.size, 0, none⟩ = some (.slice a L cap) := (World.cell?_of_block (a := ⟨w.heap.size, 0, none⟩) (hgrow2.block w.heap.size (by omega) (by simp))).trans g0
        have e1 : w2.cell? ⟨w.heap.size + 1, 0, none⟩ = some (.int .i64 ((k + 0 : Nat) : Int)) := (World.cell?_of_block (a := ⟨w.heap.size + 1, 0, none⟩) (hgrow2.block (w.heap.size + 1) hlB1 (by simp))).trans (by rw [g1, Nat.zero_add]; rfl)
        have e2 : w2.frozen? ⟨w.heap.size + 1, 0, none⟩ = false := (World.frozen?_of_block (a := ⟨w.heap.size + 1, 0, none⟩) (hgrow2.block (w.heap.size + 1) hlB1 (by simp))).trans f1
        have HO2 := Lib.hid hown2
        clear hown2 hgrow2 g0 g1 f1 hkL hbig'
        go_loopw [9, 35] (fun v i wr => ∃ (j : Nat) (ns : List Int) (u : Nat), j ≤ C ∧ i = .int .i64 j ∧ Hid (Qbe j (l.drop k) = some (ns, u)) ∧ Hid (wr.ownsRow w1.heap.size 3 1 v j (ns.map (Value.int .i64))) ∧ Hid (Below w.heap.size w wr) ∧ wr.cell? ⟨w.heap.size, 0, none⟩ = some (.slice a L cap) ∧ wr.cell? ⟨w.heap.size + 1, 0, none⟩ = some (.int .i64 ((k + u : Nat) : Int)) ∧ wr.frozen? ⟨w.heap.size + 1, 0, none⟩ = false ∧ w1.heap.size ≤ wr.heap.size) (fun _ i _ => C - (intOf i).toNat)
        case atStart => exact ⟨0, [], 0, Nat.zero_le _, rfl, Lib.hid rfl, HO2, hb2, e0, e1, e2, hs2⟩
        case round =>
          obtain ⟨j, ns, u, hj, rfl, hdm, hown, hbw, m0, m1, m2, hsz⟩ := hrel
          have hU := QcF (fun b hb => HL.out b (List.mem_of_mem_drop hb)) hdm.out
          rw [List.length_drop, ← NL.out] at hU
          have hku : k + u ≤ L := by have := HKL.out; omega
          have HNL : Hid (ns.length = j) := Lib.hid hU.1
          clear hU
          by_cases hlt : j < C
          · cases hd2 : dec (l.drop (k + u)) with
            | none =>
              have HD2 : Hid (Qb6 (l.drop (k + u)) = .tuple #[.int .i64 0, .int .i64 ((0 : Nat) : Int), .int .i64 3]) := Lib.hid (by unfold Qb6; rw [hd2]; rfl)
              have HN : Hid (Qa0 l = none) := Lib.hid (by
                rw [HN1.out]
                have h1 : Qbe (j + 1) (l.drop k) = none := by unfold Qbe; rw [hdm.out]; simp only; rw [List.drop_drop, hd2]
                have h2 := Qg4 h1 (C - (j + 1))
                rw [show j + 1 + (C - (j + 1)) = C by omega] at h2
                rw [h2])
              clear hd2
              go_wp2_with fail
              ((with_reducible refine (Qdy w.heap.size (w.heap.size + 1) a L cap (k + u) l HL.out _ (QcR HV.out hbw.out) m0 m1 m2 hku _ _ _ false HD2.out rfl (by omega)).mono ?_); rintro e w3 ⟨rfl, n1, n2, hg3⟩)
              have HB3 := Lib.hid (Qcg hbw.out (by omega) hg3 m0 (by omega)).1
              clear hg3
              go_wp2
              go_ret3
              refine ⟨HB3.out, ?_⟩
              rw [HN.out]
              rfl
            | some y =>
              obtain ⟨n, k'⟩ := y
              have hs3 := Qgq (fun b hb => HL.out b (List.mem_of_mem_drop hb)) hd2
              rw [List.length_drop, ← NL.out] at hs3
              have hk' : k + u + k' ≤ L := by omega
              have HD2 : Hid (Qb6 (l.drop (k + u)) = .tuple #[.int .i64 n, .int .i64 (k' : Int), .int .i64 0]) := Lib.hid (by unfold Qb6; rw [hd2])
              have HM : Hid (Qbe (j + 1) (l.drop k) = some (ns ++ [n], u + k')) := Lib.hid (by unfold Qbe; rw [hdm.out]; simp only; rw [List.drop_drop, hd2])
              clear hd2 hs3
              go_wp2_with fail
              ((with_reducible refine (Qdy w.heap.size (w.heap.size + 1) a L cap (k + u) l HL.out _ (QcR HV.out hbw.out) m0 m1 m2 hku _ _ _ true HD2.out rfl hk').mono ?_); rintro e w3 ⟨rfl, n1, n2, hg3⟩)
              have hA := Qcg hbw.out (by omega) hg3 m0 (by omega)
              have HB3 := Lib.hid hA.1
              have n0 := hA.2
              have hs3 : wr.heap.size ≤ w3.heap.size := hg3.size
              have hblk : ∀ g, _ := fun g hg => (hown.out.lt g hg).1
              have HO3 := Lib.hid (hown.out.kept hg3 (Or.inr (fun hc => by have := hblk _ hc; omega)))
              clear hg3 hA hblk
              go_wp2_with (first
                | (at_builtin; refine wpList_append_own _ rfl _ _ 26 rfl w1.heap.size 3 i0 (.int .i64 0) 1 8 Try.underlying26 hi hz0 hz1 hz2 rfl (by decide) _ _ _ rfl (World.ownsRow.alloc HO3.out _) ⟨w3.heap.size, 0, none⟩ 1 1 [.int .i64 n] rfl rfl (fun j u hj => Qct j u hj) (by intro u hu; simp at hu; subst hu; rfl) (by unfold maxLen; omega) (by omega) (by simp; omega) ?_; intro v' w4 hown' hgrow' _))
              have hne : ∀ b, b < w1.heap.size → some b ≠ Value.ownBlock _ := fun b hb hc => by
                have := (HO3.out.lt b hc.symm).1; omega
              have k0 : w4.cell? ⟨w.heap.size, 0, none⟩ = some (.slice a L cap) := (World.cell?_of_block (a := ⟨w.heap.size, 0, none⟩) (hgrow'.block w.heap.size (by simp; omega) (hne _ (by omega)))).trans (Qa3 _ n0)
              have k1 : w4.cell? ⟨w.heap.size + 1, 0, none⟩ = some (.int .i64 ((k + (u + k') : Nat) : Int)) := (World.cell?_of_block (a := ⟨w.heap.size + 1, 0, none⟩) (hgrow'.block (w.heap.size + 1) (by simp; omega) (hne _ hlB1))).trans (Qa3 _ (by rw [n1, Nat.add_assoc]))
              have k2 : w4.frozen? ⟨w.heap.size + 1, 0, none⟩ = false := (World.frozen?_of_block (a := ⟨w.heap.size + 1, 0, none⟩) (hgrow'.block (w.heap.size + 1) (by simp; omega) (hne _ hlB1))).trans (QcD _ (by omega) n2)
              have hs4 : w3.heap.size ≤ w4.heap.size := by have := hgrow'.size; simp at this; omega
              have HB4 := Lib.hid ((HB3.out.alloc HB3.out.size _).grown hgrow' (by have := HB3.out.size; simp; omega) (fun j hj => by have := (HO3.out.lt j hj).1; omega))
              have HO4 : Hid (w4.ownsRow w1.heap.size 3 1 v' (j + 1) ((ns ++ [n]).map (Value.int .i64))) := Lib.hid (by rw [List.map_append]; exact hown')
              clear hown' hgrow' hne
              go_roundw
              case rel => exact ⟨j + 1, ns ++ [n], u + k', by omega, by go_num, HM, HO4, HB4, k0, k1, k2, by omega⟩
              case measure => simp [intOf]; omega
          · obtain rfl : j = C := by omega
            have HN : Hid (Qa0 l = some (ns, k + u)) := Lib.hid (by rw [HN1.out, hdm.out])
            go_wp2
            go_quiet (fail)
            go_wp2
            go_ret3
            refine ⟨Qh0 hbw.out _, ?_⟩
            rw [HN.out]
            refine ⟨_, rfl, Qgn (Qco (B := w1.heap.size) ?_) _, fun g hg => ?_⟩
            · rw [HNL.out]
              exact hown.out
            · have q1 := (hown.out.lt g hg).1
              have q2 := HB1.out.size
              omega
theorem Qkk (v : Value) (l : List Int) (hl : ∀ n ∈ l, I64 n) (hlen : l.length ≤ 100000) (w : World) (hv : QbV w v l) : Calls Try.prog 49 #[v] w fun e w' =>
    ∃ r, e = .returned r ∧ QeJ w' w.heap.size r (Qd4 l) ∧ Below w.heap.size w w' := by
  obtain ⟨i0, hi, hz0, hz1, hz2⟩ := info_parts Qfh
  have HL := Lib.hid hl
  obtain ⟨a, cap, rfl, hll, hc⟩ := hv
  have HC := Lib.hid hc
  obtain ⟨L, hL⟩ : ∃ L, L = l.length := ⟨_, rfl⟩
  rw [← hL] at hll HC hlen ⊢
  have NL := Lib.hid hL
  clear hL hl hc
  have HI : Hid (I64 (L : Int)) := Lib.hid (by unfold I64; omega)
  have HE := Lib.hid (Qdl HI.out)
  go_enter Try.func49, Try.ntmps49
  go_wp2_with fail
  ((with_reducible refine (Qif _ HI.out _).mono ?_); rintro e w1 ⟨v1, rfl, hv1, hb1⟩)
  have HO := Lib.hid hv1
  have HB := Lib.hid hb1
  clear hv1 hb1
  go_wp2
  go_loopw [3, 4] (fun v i wr => ∃ k : Nat, k ≤ L ∧ i = .int .i64 k ∧ QeJ wr w.heap.size v (enc (L : Int) ++ encs (l.take k)) ∧ Hid (Below w.heap.size w wr)) (fun _ i _ => L - (intOf i).toNat)
  case atStart => exact ⟨0, Nat.zero_le _, rfl, by simpa [encs] using HO.out, HB⟩
  case round =>
    obtain ⟨k, hk, rfl, hown, hbw⟩ := hrel
    have HOW := Lib.hid hown
    clear hown
    by_cases hlt : k < L
    · rcases HC.out with hc | ⟨b, o, rfl, hc⟩
      · omega
      have h0 := hc k hlt
      have h1 := Qg6 hbw.out h0
      obtain ⟨x, hx⟩ : ∃ x, x = l.getD k 0 := ⟨_, rfl⟩
      rw [← hx] at h1
      have hkl : k < l.length := by rw [← NL.out]; exact hlt
      have HX : Hid (I64 x) := Lib.hid (by rw [hx, List.getD_eq_getElem?_getD, List.getElem?_eq_getElem hkl]; exact HL.out _ (List.getElem_mem hkl))
      have HT : Hid (encs (l.take (k + 1)) = encs (l.take k) ++ enc x) := Lib.hid (by rw [QfE l k hkl, Qed, ← hx])
      have HEL : Hid ((enc (L : Int) ++ encs (l.take k)).length ≤ 10 + 10 * L) := Lib.hid (by
        have h2 := Qgp (l.take k) (fun n hn => HL.out n (List.mem_of_mem_take hn))
        rw [List.length_take] at h2
        have := HE.out
        rw [List.length_append]; omega)
      have HXL := Lib.hid (Qdl HX.out)
      have HXP := Lib.hid (QhO x)
      clear hc h0 hx hkl
      go_wp2_with fail
      ((with_reducible refine (Qif _ HX.out _).mono ?_); rintro e w3 ⟨v3, rfl, hv3, hb3⟩)
      obtain ⟨g3, c3, rfl, hc3⟩ := Qio hv3 HXP.out
      have HB3 := Lib.hid (hbw.out.trans (hb3.mono hbw.out.size))
      have HO3 := Lib.hid (QgO HOW.out hb3)
      have HC3 := Lib.hid hc3
      clear hb3 hv3 hc3
      go_wp2_with (first
        | (at_builtin; refine wpList_append_own _ rfl _ _ 48 rfl w.heap.size 5 i0 (.int .u8 0) 1 1 Try.underlying48 hi hz0 hz1 hz2 rfl (by decide) _ _ _ rfl HO3.out ⟨g3, 0, none⟩ _ c3 _ rfl (by rw [List.length_map, Nat.mul_one]) HC3.out (QlI _) (by have h1 := HEL.out; have h2 := HXL.out; unfold maxLen; omega) (by have h1 := HEL.out; have h2 := HXL.out; omega) HB3.out.size ?_; intro v' w4 hown' hgrow' _))
      have hb4 := Lib.hid (HB3.out.grown hgrow' HB3.out.size (fun j hj => (World.ownsRow.lt HO3.out j hj).1))
      have ho4 : QeJ w4 w.heap.size v' (enc (L : Int) ++ encs (l.take (k + 1))) := by
        rw [HT.out, ← List.append_assoc]; exact Qin rfl hown'
      clear hown' hgrow'
      go_roundw
      case rel => exact ⟨k + 1, by omega, by go_num, ho4, hb4⟩
      case measure => simp [intOf]; omega
    · obtain rfl : k = L := by omega
      have ht : l.take k = l := by rw [NL.out]; exact List.take_length
      go_wp2
      go_ret
      refine ⟨_, rfl, ?_, hbw.out⟩
      have h := HOW.out
      rw [ht] at h
      unfold Qd4
      rw [← NL.out]
      exact h
theorem Qjj (l : List Int) (hl : ∀ n ∈ l, I64 n) (hlen : l.length ≤ 1000) (r : List Nat) : dec (Qd4 l ++ r) = some ((l.length : Int), (enc (l.length : Int)).length) := by
  unfold Qd4
  rw [List.append_assoc]
  exact Qlu (by unfold I64; omega) _
theorem Qjk (l : List Int) : ∀ b ∈ Qd4 l, b < 256 := by
  intro b hb
  unfold Qd4 encs at hb
  rcases List.mem_append.1 hb with h | h
  · exact QiM _ b h
  · obtain ⟨n, _, hn⟩ := List.mem_flatMap.1 h
    exact QiM n b hn
theorem QgR (l : List Int) (hl : ∀ n ∈ l, I64 n) (hlen : l.length ≤ 1000) : (Qd4 l).length ≤ 10 + 10 * l.length := by
  unfold Qd4
  rw [List.length_append]
  have h1 := Qdl (n := (l.length : Int)) (by unfold I64; omega)
  have h2 := Qgp l hl
  omega
theorem QkO (l : List Int) : 0 < (Qd4 l).length := by
  unfold Qd4; rw [List.length_append]; have := QhO (l.length : Int); omega
end Go.Proofs.Ytfhmdlihnidjoaa
namespace Go.Proofs.Ytfhmdlihnidjoaa
set_option maxRecDepth 100000
set_option linter.unusedVariables false
set_option linter.unusedSectionVars false
set_option linter.unusedSimpArgs false
abbrev Ws := List (Int × Int)
def asc (last : Int) : Ws → Bool
  | [] => true
  | p :: r => decide (last < p.1) && asc p.1 r
def QaB (ver : Int) (ws : Ws) : Bool := decide (1 ≤ ver) && decide (ver ≤ 1099511627776) && decide (ws.length ≤ 32) && asc (-1) ws
def Qa8 (ver : Int) (ws : Ws) : List Int := ver :: ws.flatMap fun p => [p.1, p.2]
def QbQ (ver : Int) (ws : Ws) : List Nat := Qd4 (Qa8 ver ws)
def le4 (n : Nat) : List Nat := [n % 256, n / 256 % 256, n / 65536 % 256, n / 16777216 % 256]
def QgM (p : List Nat) : List Nat := p ++ List.replicate (27 - p.length) 0
def Qa6 (f : Nat) (p : List Nat) : List Nat := f :: QgM p
def sec (f : Nat) (p : List Nat) : List Nat := Qa6 f p ++ le4 (Qb4 (Qa6 f p))
def QfG (f : Nat) (p : List Nat) : ByteArray := QaY (sec f p)
def Qau (l : List Nat) : Nat := (l.length + 26) / 27
def Qbd (l : List Nat) (i : Nat) : List Nat := (l.drop (27 * i)).take 27
def Qhu (l : List Nat) : List ByteArray := (List.range (Qau l)).map fun i => QfG (Qau l - 1 - i) (Qbd l i)
def QaD (ver : Int) (ws : Ws) : List ByteArray := if QaB ver ws then Qhu (QbQ ver ws) else []
def Qdd (ver : Int) (ws : Ws) : Prop := I64 ver ∧ ∀ p ∈ ws, I64 p.1 ∧ I64 p.2
theorem Qb1 (ver : Int) (ws : Ws) : (Qa8 ver ws).length = 1 + 2 * ws.length := by
  have : (ws.flatMap fun p => [p.1, p.2]).length = 2 * ws.length := by
    induction ws with
    | nil => rfl
    | cons a r ih => simp only [List.flatMap_cons, List.length_append, ih, List.length_cons, List.length_nil]; omega
  simp [Qa8, this]; omega
theorem QcN {ver : Int} {ws : Ws} (h : Qdd ver ws) : ∀ n ∈ Qa8 ver ws, I64 n := by
  intro n hn
  simp only [Qa8, List.mem_cons, List.mem_flatMap, List.not_mem_nil, or_false] at hn
  rcases hn with rfl | ⟨p, hp, rfl | rfl⟩
  · exact h.1
  · exact (h.2 p hp).1
  · exact (h.2 p hp).2
theorem Qci {ver : Int} {ws : Ws} (h : QaB ver ws = true) : ws.length ≤ 32 := by
  simp [QaB] at h; exact h.1.2
theorem QcA (ver : Int) (ws : Ws) : ∀ b ∈ QbQ ver ws, b < 256 := Qjk _
theorem pay_pos (ver : Int) (ws : Ws) : 0 < (QbQ ver ws).length := QkO _
theorem QkC {ver : Int} {ws : Ws} (hf : Qdd ver ws) (hv : QaB ver ws = true) : (QbQ ver ws).length ≤ 660 := by
  have h1 := Qci hv
  have h2 := Qb1 ver ws
  have := QgR (Qa8 ver ws) (QcN hf) (by omega)
  unfold QbQ
  omega
theorem Qcm {l : List Nat} (hl : ∀ b ∈ l, b < 256) (i : Nat) : ∀ b ∈ Qbd l i, b < 256 := fun b hb => hl b (List.mem_of_mem_drop (List.mem_of_mem_take hb))
theorem Qdw (l : List Nat) (i : Nat) : (Qbd l i).length = min 27 (l.length - 27 * i) := by simp [Qbd]
theorem Qem (l : List Nat) (i : Nat) : (Qbd l i).length ≤ 27 := by rw [Qdw]; omega
theorem Qgd {p : List Nat} (h : p.length ≤ 27) : (QgM p).length = 27 := by simp [QgM]; omega
theorem QbN {f : Nat} {p : List Nat} (h : p.length ≤ 27) : (Qa6 f p).length = 28 := by simp [Qa6, Qgd h]
theorem Qka {f : Nat} {p : List Nat} (h : p.length ≤ 27) : (sec f p).length = 32 := by simp [sec, QbN h, le4]
theorem pad_byte {p : List Nat} (hp : ∀ b ∈ p, b < 256) : ∀ b ∈ QgM p, b < 256 := by
  intro b hb
  simp only [QgM, List.mem_append, List.mem_replicate] at hb
  rcases hb with hb | ⟨_, rfl⟩
  · exact hp b hb
  · omega
theorem QcV {f : Nat} {p : List Nat} (hf : f < 256) (hp : ∀ b ∈ p, b < 256) : ∀ b ∈ Qa6 f p, b < 256 := by
  intro b hb
  simp only [Qa6, List.mem_cons] at hb
  rcases hb with rfl | hb
  · exact hf
  · exact pad_byte hp b hb
theorem Qiv (n : Nat) : ∀ b ∈ le4 n, b < 256 := by
  intro b hb
  simp only [le4, List.mem_cons, List.not_mem_nil, or_false] at hb
  rcases hb with rfl | rfl | rfl | rfl <;> omega
theorem Qie {f : Nat} {p : List Nat} (hf : f < 256) (hp : ∀ b ∈ p, b < 256) : ∀ b ∈ sec f p, b < 256 := by
  intro b hb
  simp only [sec, List.mem_append] at hb
  rcases hb with hb | hb
  · exact QcV hf hp b hb
  · exact Qiv _ b hb
theorem QdZ {f : Nat} {p : List Nat} (hf : f < 256) (hp : ∀ b ∈ p, b < 256) : Qal (QfG f p) = sec f p := QbM _ (Qie hf hp)
theorem QfF (s : ByteArray) : s.size = (Qal s).length := (Qbz s).symm
theorem Qid {f : Nat} {p : List Nat} (hf : f < 256) (hp : ∀ b ∈ p, b < 256) (hl : p.length ≤ 27) : (QfG f p).size = 32 := by
  rw [QfF, QdZ hf hp, Qka hl]
def sct (s : ByteArray) : List Nat := ((Qal s).drop 1).take 27
theorem sct_sec {f : Nat} {p : List Nat} (hf : f < 256) (hp : ∀ b ∈ p, b < 256) (hl : p.length ≤ 27) : sct (QfG f p) = QgM p := by
  unfold sct
  rw [QdZ hf hp]
  show ((Qa6 f p ++ le4 _).drop 1).take 27 = _
  show (QgM p ++ le4 _).take 27 = _
  rw [List.take_append_of_le_length (by rw [Qgd hl]; exact Nat.le_refl _), List.take_of_length_le (by rw [Qgd hl]; exact Nat.le_refl _)]
theorem rep_add (a b : Nat) : List.replicate a 0 ++ List.replicate b 0 = (List.replicate (a + b) 0 : List Nat) := by simp
theorem QfJ (l : List Nat) : ∀ n, ((List.range n).flatMap fun i => QgM (Qbd l i)) = l.take (27 * n) ++ List.replicate (27 * n - l.length) 0
  | 0 => by simp
  | n + 1 => by
    rw [List.range_succ, List.flatMap_append, QfJ l n]
    simp only [List.flatMap_cons, List.flatMap_nil, List.append_nil]
    unfold QgM
    rw [Qdw]
    rw [show 27 * (n + 1) = 27 * n + 27 by omega, List.take_add]
    show _ ++ (Qbd l n ++ _) = (_ ++ Qbd l n) ++ _
    by_cases h : l.length ≤ 27 * n
    · have e : Qbd l n = [] := List.length_eq_zero_iff.1 (by rw [Qdw]; omega)
      rw [e, List.nil_append, List.append_nil, List.append_assoc, rep_add]
      congr 2
      omega
    · rw [show 27 * n - l.length = 0 by omega, List.replicate_zero, List.append_nil, List.append_assoc]
      congr 3
      omega
theorem Qen (l : List Nat) : l.length ≤ 27 * Qau l := by unfold Qau; omega
theorem QbI (l : List Nat) : (Qhu l).length = Qau l := by simp [Qhu]
theorem Qkr (l : List Nat) (i : Nat) (hi : i < Qau l) : (Qhu l).getD i ByteArray.empty = QfG (Qau l - 1 - i) (Qbd l i) := by
  simp [Qhu, List.getD, hi]
theorem Qkq (l : List Nat) (hl : ∀ b ∈ l, b < 256) (h : Qau l ≤ 256) : (Qhu l).flatMap sct = l ++ List.replicate (27 * Qau l - l.length) 0 := by
  unfold Qhu
  rw [List.flatMap_map]
  have e : (List.range (Qau l)).flatMap (fun i => sct (QfG (Qau l - 1 - i) (Qbd l i))) = (List.range (Qau l)).flatMap fun i => QgM (Qbd l i) := by
    rw [List.flatMap_def, List.flatMap_def]
    congr 1
    exact List.map_congr_left fun i hi => sct_sec (by rw [List.mem_range] at hi; omega) (Qcm hl i) (Qem l i)
  rw [e, QfJ, List.take_of_length_le (Qen l)]
theorem Qbk {ver : Int} {ws : Ws} (hf : Qdd ver ws) (hv : QaB ver ws = true) : 1 ≤ Qau (QbQ ver ws) ∧ Qau (QbQ ver ws) ≤ 25 := by
  have h1 := QkC hf hv
  have h2 := pay_pos ver ws
  unfold Qau
  omega
theorem Qa1 {ver : Int} {ws : Ws} (hv : QaB ver ws = true) : QaD ver ws = Qhu (QbQ ver ws) := by unfold QaD; rw [if_pos hv]
theorem Qdu {ver : Int} {ws : Ws} (hv : QaB ver ws = false) : QaD ver ws = [] := by unfold QaD; rw [hv]; rfl
theorem QfI {ver : Int} {ws : Ws} (hf : Qdd ver ws) : ∀ s ∈ QaD ver ws, s.size = 32 := by
  intro s hs
  cases hv : QaB ver ws with
  | false => rw [Qdu hv] at hs; cases hs
  | true =>
    rw [Qa1 hv] at hs
    simp only [Qhu, List.mem_map, List.mem_range] at hs
    obtain ⟨i, hi, rfl⟩ := hs
    have := Qbk hf hv
    exact Qid (by omega) (Qcm (QcA ver ws) i) (Qem _ i)
def Qag : List Int → Ws
  | a :: b :: r => (a, b) :: Qag r
  | _ => []
theorem QfK (ws : Ws) : Qag (ws.flatMap fun p => [p.1, p.2]) = ws := by
  induction ws with
  | nil => rfl
  | cons a r ih => simp [Qag, ih]
def Qfd : List Int → Option (Int × Ws)
  | v :: r => if r.length % 2 = 0 then some (v, Qag r) else none
  | [] => none
theorem ofNums_E (ver : Int) (ws : Ws) : Qfd (Qa8 ver ws) = some (ver, ws) := by
  have h := Qb1 ver ws
  unfold Qa8 at h ⊢
  simp only [List.length_cons] at h
  show (if (ws.flatMap fun p => [p.1, p.2]).length % 2 = 0 then some (ver, Qag (ws.flatMap fun p => [p.1, p.2])) else none) = _
  rw [if_pos (by omega), QfK]
def Qdk (s : ByteArray) : Nat := (Qal s).getD 0 0
def QiT (l : List ByteArray) (k : Nat) : Option (Int × Ws) :=
  if l.length ≤ k then none else if (l.getD k ByteArray.empty).size = 0 then none else
  if l.length - k ≤ Qdk (l.getD k ByteArray.empty) then none else
  if ((l.drop k).take (Qdk (l.getD k ByteArray.empty) + 1)).all (fun s => decide (s.size = 32)) then
    match Qa0 (((l.drop k).take (Qdk (l.getD k ByteArray.empty) + 1)).flatMap sct) with
    | some (ns, _) => Qfd ns
    | none => none
  else none
def QbR (l : List ByteArray) (k : Nat) : Option (Int × Ws × Nat) := match QiT l k with
  | none => none
  | some (v, ws) => if (QaD v ws).length = 0 ∨ l.length - k < (QaD v ws).length ∨ QaD v ws ≠ (l.drop k).take (QaD v ws).length then none else some (v, ws, (QaD v ws).length)
def secOr (s : ByteArray) : List Nat := if s.size = 32 then sct s else []
def gueS (l : List ByteArray) (k : Nat) : Int × Ws × Nat :=
  if l.length ≤ k then (0, [], 0) else if (l.getD k ByteArray.empty).size = 32 then
    match Qa0 (((l.drop k).take (Qdk (l.getD k ByteArray.empty) + 1)).flatMap secOr) with
    | some (n :: r, _) => (n, Qag r, Qdk (l.getD k ByteArray.empty) + 1)
    | _ => (0, [], 0)
  else (0, [], 0)
theorem drop_get {l : List ByteArray} {k : Nat} (hk : k < l.length) (r : List ByteArray) (n : Nat) (h : (l.drop k).take n = r) (hr : 0 < r.length) : l.getD k ByteArray.empty = r.getD 0 ByteArray.empty := by
  subst h
  have hn : 0 < n := by rcases Nat.eq_zero_or_pos n with h | h; · subst h; simp at hr
                        · exact h
  simp [List.getD, List.getElem?_take, List.getElem?_drop, hn]
theorem QkN {ver : Int} {ws : Ws} (hf : Qdd ver ws) (hv : QaB ver ws = true) (r : List Nat) : ∃ u, Qa0 (QbQ ver ws ++ r) = some (Qa8 ver ws, u) := by
  have hl := Qci hv
  have hn := Qb1 ver ws
  have h1 := Qjj (Qa8 ver ws) (QcN hf) (by omega) r
  unfold Qa0 QbQ
  rw [h1]
  simp only
  rw [if_neg (by omega)]
  unfold Qd4
  rw [List.append_assoc, List.drop_left, Int.toNat_natCast, QeC _ (QcN hf)]
  exact ⟨_, rfl⟩
theorem rec_read {ver : Int} {ws : Ws} (hf : Qdd ver ws) (hv : QaB ver ws = true) {l : List ByteArray} {k : Nat} (hk : k < l.length) (h : (l.drop k).take (QaD ver ws).length = QaD ver ws) :
    QiT l k = some (ver, ws) ∧ gueS l k = (ver, ws, (QaD ver ws).length) := by
  have hm := Qbk hf hv
  have hlen : (QaD ver ws).length = Qau (QbQ ver ws) := by rw [Qa1 hv, QbI]
  have hsz := QfI hf
  have e0 : l.getD k ByteArray.empty = QfG (Qau (QbQ ver ws) - 1) (Qbd (QbQ ver ws) 0) := by
    rw [drop_get hk _ _ h (by omega), Qa1 hv, Qkr _ _ (by omega)]
    rfl
  have s0 : (l.getD k ByteArray.empty).size = 32 := by rw [e0]; exact Qid (by omega) (Qcm (QcA _ _) _) (Qem _ _)
  have f0 : Qdk (l.getD k ByteArray.empty) + 1 = (QaD ver ws).length := by
    rw [e0]
    unfold Qdk
    rw [QdZ (by omega) (Qcm (QcA _ _) _), hlen]
    show Qau (QbQ ver ws) - 1 + 1 = _
    omega
  have hle : (QaD ver ws).length ≤ l.length - k := by
    have := congrArg List.length h
    simp only [List.length_take, List.length_drop] at this
    omega
  have hfl : (QaD ver ws).flatMap sct = QbQ ver ws ++ List.replicate (27 * Qau (QbQ ver ws) - (QbQ ver ws).length) 0 := by
    rw [Qa1 hv]; exact Qkq _ (QcA _ _) (by omega)
  obtain ⟨u, hu⟩ := QkN hf hv (List.replicate (27 * Qau (QbQ ver ws) - (QbQ ver ws).length) 0)
  constructor
  · unfold QiT
    rw [if_neg (by omega), if_neg (by omega), if_neg (by omega), f0, h, if_pos (by simp only [List.all_eq_true, decide_eq_true_eq]; exact hsz), hfl, hu]
    exact ofNums_E ver ws
  · unfold gueS
    have e2 : (QaD ver ws).flatMap secOr = (QaD ver ws).flatMap sct := by
      rw [List.flatMap_def, List.flatMap_def]
      congr 1
      exact List.map_congr_left fun s hs => by unfold secOr; rw [if_pos (hsz s hs)]
    rw [if_neg (by omega), if_pos s0, f0, h, e2, hfl, hu]
    show (ver, Qag _, _) = _
    rw [QfK]
theorem sct_byte (s : ByteArray) : ∀ b ∈ sct s, b < 256 := by
  intro b hb
  have := List.mem_of_mem_drop (List.mem_of_mem_take hb)
  simp only [Qal, List.mem_map] at this
  obtain ⟨c, _, rfl⟩ := this
  exact c.toNat_lt
theorem Qfo (l : List ByteArray) : ∀ b ∈ l.flatMap sct, b < 256 := by
  intro b hb
  obtain ⟨s, _, h⟩ := List.mem_flatMap.1 hb
  exact sct_byte s b h
theorem QhW {l : List Nat} {ns : List Int} {u : Nat} (hl : ∀ b ∈ l, b < 256) (h : Qa0 l = some (ns, u)) : ∀ n ∈ ns, I64 n := by
  unfold Qa0 at h
  split at h
  · cases h
  · rename_i c k hd
    split at h
    · cases h
    · split at h
      · cases h
      · rename_i ns' u' hm
        obtain ⟨rfl, rfl⟩ : ns' = ns ∧ k + u' = u := by simpa using h
        exact (QcF (fun b hb => hl b (List.mem_of_mem_drop hb)) hm).2.2.2.2
theorem QgL : ∀ (r : List Int), (∀ n ∈ r, I64 n) → ∀ p ∈ Qag r, I64 p.1 ∧ I64 p.2
  | [], _, p, hp => by simp [Qag] at hp
  | [a], _, p, hp => by simp [Qag] at hp
  | a :: b :: r, h, p, hp => by
    simp only [Qag, List.mem_cons] at hp
    rcases hp with rfl | hp
    · exact ⟨h a (by simp), h b (by simp)⟩
    · exact QgL r (fun n hn => h n (by simp [hn])) p hp
theorem QiS {l : List ByteArray} {k : Nat} {v : Int} {ws : Ws} (h : QiT l k = some (v, ws)) : Qdd v ws := by
  unfold QiT at h
  split at h; · cases h
  split at h; · cases h
  split at h; · cases h
  split at h
  · split at h
    · rename_i ns u hd
      have hn := QhW (Qfo _) hd
      unfold Qfd at h
      split at h
      · rename_i v' r
        split at h
        · obtain ⟨rfl, rfl⟩ : v' = v ∧ Qag r = ws := by simpa using h
          exact ⟨hn _ (by simp), QgL r fun n hn' => hn n (by simp [hn'])⟩
        · cases h
      · cases h
    · cases h
  · cases h
theorem recE_ne {v : Int} {ws : Ws} (h : (QaD v ws).length ≠ 0) : QaB v ws = true := by
  cases hv : QaB v ws with
  | true => rfl
  | false => rw [Qdu hv] at h; exact absurd rfl h
theorem Qkn {ver : Int} {ws : Ws} (hf : Qdd ver ws) (hv : QaB ver ws = true) {l : List ByteArray} {k : Nat} (hk : k < l.length) (h : (l.drop k).take (QaD ver ws).length = QaD ver ws) : QbR l k = some (ver, ws, (QaD ver ws).length) := by
  have h1 := (rec_read hf hv hk h).1
  have hm := Qbk hf hv
  have hlen : (QaD ver ws).length = Qau (QbQ ver ws) := by rw [Qa1 hv, QbI]
  have hle := congrArg List.length h
  simp only [List.length_take, List.length_drop] at hle
  unfold QbR
  rw [h1]
  simp only
  rw [if_neg]
  rintro (q | q | q)
  · omega
  · omega
  · exact q h.symm
theorem Qd2 {l : List ByteArray} {k : Nat} {v : Int} {ws : Ws} {n : Nat} (h : QbR l k = some (v, ws, n)) : Qdd v ws ∧ QaB v ws = true ∧ n = (QaD v ws).length ∧ 1 ≤ n ∧ k < l.length ∧ n ≤ l.length - k ∧ (l.drop k).take n = QaD v ws := by
  unfold QbR at h
  split at h
  · cases h
  · rename_i v' ws' hd
    split at h
    · cases h
    · rename_i hn
      obtain ⟨rfl, rfl, rfl⟩ : v' = v ∧ ws' = ws ∧ (QaD v' ws').length = n := by simpa using h
      simp only [not_or, ne_eq, Classical.not_not, Nat.not_lt] at hn
      exact ⟨QiS hd, recE_ne hn.1, rfl, by omega, by omega, hn.2.1, hn.2.2.symm⟩
end Go.Proofs.Ytfhmdlihnidjoaa
