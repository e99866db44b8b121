/-
  Merged: WireF, WireG, WireH, WireI, WlA
-/
import Derived.Test.YtfhmdlihnidjoaaRows
import Derived.Test.YtfhmdlihnidjoaaPf1
import Derived.Test.YtfhmdlihnidjoaaPf2
import Derived.Lib.AppendStr
import Derived.Laws.AppendOwnNone
import Derived.Outline
import Derived.Laws.IdiomStrings
import Derived.Deep.QuietTactic
import Derived.BigQuiet
namespace Go.Proofs.Ytfhmdlihnidjoaa
set_option linter.unusedSectionVars false
set_option maxRecDepth 100000
set_option linter.unusedVariables false
set_option linter.unusedSimpArgs false
set_option maxHeartbeats 4000000
open Go.ChangeShapes Go.WideShapes Go.ChangeAt Go.RowKit
def adS (l : List Nat) : Nat × Nat := l.foldl (fun p c => ((p.1 + c) % 65521, (p.2 + (p.1 + c) % 65521) % 65521)) (1, 0)
def Qb0 (l : List Nat) : Nat := 65536 * (adS l).2 + (adS l).1
theorem QgN (l : List Nat) (c : Nat) : adS (l ++ [c]) = (((adS l).1 + c) % 65521, ((adS l).2 + ((adS l).1 + c) % 65521) % 65521) := by simp [adS]
theorem Qf5 (l : List Nat) : (adS l).1 < 65521 ∧ (adS l).2 < 65521 := by
  rcases List.eq_nil_or_concat l with rfl | ⟨p, c, rfl⟩
  · simp [adS]
  · rw [List.concat_eq_append, QgN]
    exact ⟨Nat.mod_lt _ (by decide), Nat.mod_lt _ (by decide)⟩
theorem sum_any (v : Value) (l : List Nat) (hl : ∀ b ∈ l, b < 256) (w : World) (hv : Qeu w v l) : Calls Try.prog 87 #[v] w fun e w' => e = .returned (.int .i64 (Qb0 l : Int)) ∧ w = w' := by
  obtain ⟨a, cap, rfl, hll, hc⟩ := hv
  have HC := Lib.hid hc
  have HL := Lib.hid hl
  clear hc hl
  obtain ⟨L, hL⟩ : ∃ L, L = l.length := ⟨_, rfl⟩
  rw [← hL] at HC hll ⊢
  have NL := Lib.hid hL
  clear hL
  go_enter Try.func87, Try.ntmps87
  go_wp2
  go_loop [3, 4, 9] (fun x y i => ∃ k : Nat, k ≤ L ∧ i = .int .i64 k ∧ x = .int .i64 (((adS (l.take k)).1 : Nat) : Int) ∧ y = .int .i64 (((adS (l.take k)).2 : Nat) : Int)) (fun _ _ i => L - (intOf i).toNat)
  case atStart => exact ⟨0, Nat.zero_le _, rfl, by simp [adS], by simp [adS]⟩
  case round =>
    obtain ⟨k, hk, rfl, rfl, rfl⟩ := hrel
    have hlt2 := Qf5 (l.take k)
    by_cases hlt : k < L
    · rcases HC.out with hc | ⟨b, o, rfl, hc⟩
      · omega
      have h1 := hc k hlt
      obtain ⟨c, hc'⟩ : ∃ c, c = l.getD k 0 := ⟨_, rfl⟩
      rw [← hc'] at h1
      have c256 : c < 256 := by
        rw [hc']; have hk' : k < l.length := by rw [← NL.out]; exact hlt
        rw [List.getD_eq_getElem?_getD, List.getElem?_eq_getElem hk']; exact HL.out _ (List.getElem_mem hk')
      have HS : Hid (adS (l.take (k + 1)) = (((adS (l.take k)).1 + c) % 65521, ((adS (l.take k)).2 + ((adS (l.take k)).1 + c) % 65521) % 65521)) := Lib.hid (by
        rw [Qeb l k (by rw [← NL.out]; exact hlt), QgN, ← hc'])
      obtain ⟨X, hX⟩ : ∃ X, X = (adS (l.take k)).1 := ⟨_, rfl⟩
      obtain ⟨Y, hY⟩ : ∃ Y, Y = (adS (l.take k)).2 := ⟨_, rfl⟩
      rw [← hX, ← hY] at HS hlt2
      rw [← hX, ← hY]
      obtain ⟨x1, y1⟩ := hlt2
      clear hX hY hc hc'
      go_wp2
      go_round
      case rel => exact ⟨k + 1, by omega, by go_num, by rw [HS.out]; first | rfl | (congr 1; simp only; omega), by rw [HS.out]; first | rfl | (congr 1; simp only; omega)⟩
      case measure => simp [intOf]; omega
    · obtain rfl : k = L := by omega
      have ht : l.take k = l := by rw [NL.out]; exact List.take_length
      rw [ht] at hlt2 ⊢
      obtain ⟨X, hX⟩ : ∃ X, X = (adS l).1 := ⟨_, rfl⟩
      obtain ⟨Y, hY⟩ : ∃ Y, Y = (adS l).2 := ⟨_, rfl⟩
      have HA : Hid ((Qb0 l : Int) = 65536 * Y + X) := Lib.hid (by unfold Qb0; rw [hX, hY]; simp)
      rw [← hX, ← hY] at hlt2
      rw [← hX, ← hY]
      obtain ⟨x1, y1⟩ := hlt2
      clear hX hY
      go_wp2
      go_ret
      exact ⟨QcT (by rw [HA.out]; omega), rfl⟩
theorem Qjb {w : World} {a : Option Addr} {n cap : Nat} {l : List Nat} (h : Qeu w (.slice a n cap) l) : l.length = n ∧ ((a = none ∧ n = 0 ∧ cap = 0) ∨ ∃ ad, a = some ad ∧ ∀ j u, (l.map bV)[j]? = some u → w.cell? (ad.add j) = some u) := by
  obtain ⟨a', cap', he, hl, h⟩ := h
  simp only [Value.slice.injEq] at he
  obtain ⟨rfl, rfl, rfl⟩ := he
  refine ⟨rfl, ?_⟩
  rcases h with h | ⟨b, o, rfl, h⟩
  · cases a with
    | none => exact Or.inl ⟨rfl, h, hl.2.2.2 rfl⟩
    | some ad => exact Or.inr ⟨ad, rfl, fun j u hu => by rw [List.length_eq_zero_iff.1 h] at hu; simp at hu⟩
  · refine Or.inr ⟨_, rfl, fun j u hu => ?_⟩
    have hj : j < l.length := by
      by_cases hj : j < l.length
      · exact hj
      · rw [List.getElem?_eq_none (by simpa using hj)] at hu; cases hu
    rw [List.getElem?_map, List.getElem?_eq_getElem hj] at hu
    simp at hu
    subst hu
    have := h j hj
    rw [List.getD_eq_getElem?_getD, List.getElem?_eq_getElem hj] at this
    simp only [Option.getD_some] at this
    rw [← this]
    congr 1
    unfold Addr.add
    split
    · rename_i h0; subst h0; rfl
    · rfl
theorem Qmp (l : List Nat) : ∀ u ∈ l.map bV, u.oneCell' = true := by
  intro u hu
  obtain ⟨b, _, rfl⟩ := List.mem_map.1 hu
  rfl
theorem Qhq {w w' : World} {b o : Nat} {x : Value} (hb : Below w.heap.size w w') (h : w.cell? ⟨b, o, none⟩ = some x) : w'.cell? ⟨b, o, none⟩ = some x :=
  (hb.cell (p := ⟨b, o, none⟩) (World.block_lt_of_cell? w ⟨b, o, none⟩ h)).trans h
def Qaf (s : ByteArray) : List Nat := s.data.toList.map fun b => b.toNat
theorem QbL (s : ByteArray) : (Qaf s).length = s.size := by simp [Qaf]
theorem QhI (s : ByteArray) : Lib.strCells s = (Qaf s).map bV := by simp [Lib.strCells, Qaf, bV]
theorem QiU {w : World} {B : Nat} {v : Value} {l m : List Nat} {n : Nat} (hn : n = l.length + m.length) (h : w.ownsRow B 5 1 v n (l.map bV ++ m.map bV)) : QeF w B v (l ++ m) := by
  unfold QeF
  rw [List.length_append, List.map_append, ← hn]
  exact h
theorem QiV {w : World} {B : Nat} {v : Value} {l : List Nat} (h : QeF w B v l) (hl : 0 < l.length) : ∃ g c, v = .slice (some ⟨g, 0, none⟩) l.length c ∧ ∀ j u, (l.map bV)[j]? = some u → w.cell? ((⟨g, 0, none⟩ : Addr).add j) = some u := by
  have h0 : w.ownsRow B 5 1 v l.length (l.map bV) := h
  have h1 := h
  obtain ⟨_, h | ⟨g, cap, cur, rfl, _⟩⟩ := h
  · obtain ⟨_, h⟩ := h
    omega
  · exact ⟨g, cap, rfl, h0.cells (g := g) rfl⟩
theorem Qg4 {w w' : World} {B : Nat} {v : Value} {l : List Nat} (h : QeF w B v l) (hb : Below w.heap.size w w') : QeF w' B v l := by
  have hlt := World.ownsRow.lt h
  obtain ⟨h1, h2⟩ := h
  refine ⟨h1, ?_⟩
  rcases h2 with h2 | ⟨g, cap, cur, rfl, hB, hh, r⟩
  · exact Or.inl h2
  · exact Or.inr ⟨g, cap, cur, rfl, hB, (hb.block g (hlt g rfl).2).trans hh, r⟩
def QdY (l : List Int) : List Nat := enc (l.length : Int) ++ encs l
theorem QgC (l : List Int) (h : ∀ n ∈ l, I64 n) : (encs l).length ≤ 10 * l.length := by
  induction l with
  | nil => simp [encs]
  | cons n l ih =>
    have h1 := ih (fun m hm => h m (List.mem_cons_of_mem _ hm))
    have h2 := Qdi (h n (by simp))
    have h3 : encs (n :: l) = enc n ++ encs l := by simp [encs]
    rw [h3, List.length_append, List.length_cons]; omega
theorem nums_any (v : Value) (l : List Int) (hl : ∀ n ∈ l, I64 n) (hlen : l.length ≤ 100000) (w : World) (hv : QbH w v l) : Calls Try.prog 78 #[v] w fun e w' =>
    ∃ r, e = .returned r ∧ QeF w' w.heap.size r (QdY l) ∧ Below w.heap.size w w' := by
  obtain ⟨i0, hi, hz0, hz1, hz2⟩ := info_parts Qfi
  have HL := Lib.hid hl
  obtain ⟨a, cap, rfl, hll, hc⟩ := hv
  have HC := Lib.hid hc
  obtain ⟨L, hL⟩ : ∃ L, L = l.length := ⟨_, rfl⟩
  rw [← hL] at hll HC hlen ⊢
  have NL := Lib.hid hL
  clear hL hl hc
  have HI : Hid (I64 (L : Int)) := Lib.hid (by unfold I64; omega)
  have HE := Lib.hid (Qdi HI.out)
  go_enter Try.func78, Try.ntmps78
  go_wp2_with fail
  ((with_reducible refine (Qle _ HI.out _).mono ?_); rintro e w1 ⟨v1, rfl, hv1, hb1⟩)
  have HO := Lib.hid hv1
  have HB := Lib.hid hb1
  clear hv1 hb1
  go_wp2
  go_loopw [3, 11] (fun v i wr => ∃ k : Nat, k ≤ L ∧ i = .int .i64 k ∧ QeF wr w.heap.size v (enc (L : Int) ++ encs (l.take k)) ∧ Hid (Below w.heap.size w wr)) (fun _ i _ => L - (intOf i).toNat)
  case atStart => exact ⟨0, Nat.zero_le _, rfl, by simpa [encs] using HO.out, HB⟩
  case round =>
    obtain ⟨k, hk, rfl, hown, hbw⟩ := hrel
    have HOW := Lib.hid hown
    clear hown
    by_cases hlt : k < L
    · rcases HC.out with hc | ⟨b, o, rfl, hc⟩
      · omega
      have h0 := hc k hlt
      have h1 := Qhq hbw.out h0
      obtain ⟨x, hx⟩ : ∃ x, x = l.getD k 0 := ⟨_, rfl⟩
      rw [← hx] at h1
      have hkl : k < l.length := by rw [← NL.out]; exact hlt
      have HX : Hid (I64 x) := Lib.hid (by rw [hx, List.getD_eq_getElem?_getD, List.getElem?_eq_getElem hkl]; exact HL.out _ (List.getElem_mem hkl))
      have HT : Hid (encs (l.take (k + 1)) = encs (l.take k) ++ enc x) := Lib.hid (by rw [QfF l k hkl, Qd7, ← hx])
      have HEL : Hid ((enc (L : Int) ++ encs (l.take k)).length ≤ 10 + 10 * L) := Lib.hid (by
        have h2 := QgC (l.take k) (fun n hn => HL.out n (List.mem_of_mem_take hn))
        rw [List.length_take] at h2
        have := HE.out
        rw [List.length_append]; omega)
      have HXL := Lib.hid (Qdi HX.out)
      have HXP := Lib.hid (Qig x)
      clear hc h0 hx hkl
      go_wp2_with fail
      ((with_reducible refine (Qle _ HX.out _).mono ?_); rintro e w3 ⟨v3, rfl, hv3, hb3⟩)
      obtain ⟨g3, c3, rfl, hc3⟩ := QiV hv3 HXP.out
      have HB3 := Lib.hid (hbw.out.trans (hb3.mono hbw.out.size))
      have HO3 := Lib.hid (Qg4 HOW.out hb3)
      have HC3 := Lib.hid hc3
      clear hb3 hv3 hc3
      go_wp2_with (first
        | (at_builtin; refine wpList_append_own _ rfl _ _ 48 rfl w.heap.size 5 i0 (.int .u8 0) 1 1 Try.underlying48 hi hz0 hz1 hz2 rfl (by decide) _ _ _ rfl HO3.out ⟨g3, 0, none⟩ _ c3 _ rfl (by rw [List.length_map, Nat.mul_one]) HC3.out (Qmp _) (by have h1 := HEL.out; have h2 := HXL.out; unfold maxLen; omega) (by have h1 := HEL.out; have h2 := HXL.out; omega) HB3.out.size ?_; intro v' w4 hown' hgrow' _))
      have hb4 := Lib.hid (HB3.out.grown hgrow' HB3.out.size (fun j hj => (World.ownsRow.lt HO3.out j hj).1))
      have ho4 : QeF w4 w.heap.size v' (enc (L : Int) ++ encs (l.take (k + 1))) := by
        rw [HT.out, ← List.append_assoc]; exact QiU rfl hown'
      clear hown' hgrow'
      go_roundw
      case rel => exact ⟨k + 1, by omega, by go_num, ho4, hb4⟩
      case measure => simp [intOf]; omega
    · obtain rfl : k = L := by omega
      have ht : l.take k = l := by rw [NL.out]; exact List.take_length
      go_wp2
      go_ret
      refine ⟨_, rfl, ?_, hbw.out⟩
      have h := HOW.out
      rw [ht] at h
      unfold QdY
      rw [← NL.out]
      exact h
def QaO (l : List Nat) : ByteArray := ⟨(l.map UInt8.ofNat).toArray⟩
theorem QbC (l : List Nat) (hl : ∀ b ∈ l, b < 256) : Qaf (QaO l) = l := by
  unfold Qaf QaO
  simp only [List.map_map]
  have : ∀ b ∈ l, ((fun b : UInt8 => b.toNat) ∘ UInt8.ofNat) b = b := fun b hb => by
    simp only [Function.comp]
    exact UInt8.toNat_ofNat_of_lt' (by have := hl b hb; simpa using this)
  rw [List.map_congr_left this]; simp
theorem Qgc (s : ByteArray) : QaO (Qaf s) = s := by
  unfold QaO Qaf
  simp only [List.map_map]
  have : ∀ b ∈ s.data.toList, (UInt8.ofNat ∘ fun b : UInt8 => b.toNat) b = b := fun b _ => by simp [Function.comp]
  rw [List.map_congr_left this]; simp
theorem run_str {w : World} {a : Option Addr} {m cap : Nat} {l : List Nat} (hl : ∀ b ∈ l, b < 256) (h : Qeu w (.slice a m cap) l) (n : Nat) :
    (convert 48 9 (.slice a m cap)).run Try.prog (w.drewN n) = .ok (.string (QaO l)) (w.drewN n) := by
  obtain ⟨hlen, hs⟩ := Qjb h
  rcases hs with ⟨rfl, rfl, rfl⟩ | ⟨ad, rfl, hc⟩
  · rw [List.length_eq_zero_iff.1 hlen]
    rw [run_convert_bytes_string _ _ _ _ _ _ _ Try.underlying48 Try.underlying5 Try.underlying9]
    rfl
  · have h1 := run_convert_bytes_back (P := Try.prog) (w.drewN n) 48 9 5 ad cap (l.map UInt8.ofNat) Try.underlying48 Try.underlying5 Try.underlying9 (fun j hj => by
      have hj' : j < l.length := by simpa using hj
      have h2 := hc j (bV l[j]) (by simp [List.getElem?_eq_getElem hj'])
      show w.cell? (ad.add j) = _
      rw [h2, List.getElem_map]
      have := hl l[j] (List.getElem_mem hj')
      rw [UInt8.toNat_ofNat_of_lt' (by simpa using this)])
    rw [List.length_map, hlen] at h1
    exact h1
def Qbn : Nat → List Nat → Option (List Int × Nat)
  | 0, _ => some ([], 0)
  | c + 1, l => match Qbn c l with
    | none => none
    | some (ns, u) => match dec (l.drop u) with
      | none => none
      | some (n, k) => some (ns ++ [n], u + k)
def Qa7 (l : List Nat) : Option (List Int × Nat) := match dec l with
  | none => none
  | some (c, k) => if c < 0 then none else match Qbn c.toNat (l.drop k) with
    | none => none
    | some (ns, u) => some (ns, k + u)
theorem Qho {j : Nat} {l : List Nat} (h : Qbn j l = none) (i : Nat) : Qbn (j + i) l = none := by
  induction i with
  | zero => exact h
  | succ i ih => rw [← Nat.add_assoc]; unfold Qbn; rw [ih]
theorem QcB {j : Nat} {l : List Nat} {ns : List Int} {u : Nat} (hl : ∀ b ∈ l, b < 256) (h : Qbn j l = some (ns, u)) : ns.length = j ∧ j ≤ u ∧ u ≤ l.length ∧ l.take u = encs ns ∧ ∀ n ∈ ns, I64 n := by
  induction j generalizing ns u with
  | zero => simp [Qbn] at h; obtain ⟨rfl, rfl⟩ := h; simp [encs]
  | succ j ih =>
    unfold Qbn at h
    split at h
    · cases h
    · rename_i ns' u' he
      split at h
      · cases h
      · rename_i n k hd
        simp at h
        obtain ⟨rfl, rfl⟩ := h
        obtain ⟨h1, h2, h3, h4, h5⟩ := ih he
        have hd2 := QgD (fun b hb => hl b (List.mem_of_mem_drop hb)) hd
        rw [List.length_drop] at hd2
        refine ⟨by simp [h1], by omega, by omega, ?_, ?_⟩
        · rw [List.take_add, h4, hd2.2.1, Qd7]
        · intro m hm
          rcases List.mem_append.1 hm with hm | hm
          · exact h5 m hm
          · simp at hm; subst hm; exact hd2.1
theorem Qez (ns : List Int) (hns : ∀ n ∈ ns, I64 n) (r : List Nat) : Qbn ns.length (encs ns ++ r) = some (ns, (encs ns).length) := by
  rcases List.eq_nil_or_concat ns with rfl | ⟨p, n, rfl⟩
  · rfl
  · rw [List.concat_eq_append] at *
    have ih := Qez p (fun m hm => hns m (by simp [hm])) (enc n ++ r)
    rw [List.length_append, Qd7, List.append_assoc]
    show Qbn (p.length + 1) _ = _
    unfold Qbn
    rw [ih]
    simp only
    rw [List.drop_left, Ql8 (hns n (by simp))]
    simp
termination_by ns.length
decreasing_by
  rename_i h
  have : ns = p ++ [n] := by simpa using h
  rw [this]; simp
theorem Qdv (B0 B1 : Nat) (a : Option Addr) (L cap t : Nat) (l : List Nat) (hl : ∀ b ∈ l, b < 256) (w : World) (hv : Qeu w (.slice a L cap) l) (h0 : w.cell? ⟨B0, 0, none⟩ = some (.slice a L cap))
    (h1 : w.cell? ⟨B1, 0, none⟩ = some (.int .i64 t)) (f1 : w.frozen? ⟨B1, 0, none⟩ = false) (ht : t ≤ L) (n : Int) (k : Nat) (E : Int) (ok : Bool)
    (hD : Qc_ (l.drop t) = .tuple #[.int .i64 n, .int .i64 (k : Int), .int .i64 E]) (hok : (E == 0) = ok) (hk : t + k ≤ L) :
    Calls Try.prog 82 #[.pointer (some ⟨B0, 0, none⟩), .pointer (some ⟨B1, 0, none⟩)] w fun e w' =>
      e = .returned (.tuple #[.int .i64 n, .bool ok]) ∧ w'.cell? ⟨B1, 0, none⟩ = some (.int .i64 ((t + k : Nat) : Int)) ∧ w'.frozen? ⟨B1, 0, none⟩ = false ∧ w.grownBy w' (some B1) := by
  have HV := Lib.hid hv
  have HD := Lib.hid hD
  have hcap : L ≤ cap ∧ cap ≤ 9223372036854775807 := by
    obtain ⟨a', cap', he, hll, _⟩ := hv
    simp only [Value.slice.injEq] at he
    obtain ⟨rfl, rfl, rfl⟩ := he
    exact ⟨hll.2.1, hll.2.2.1⟩
  obtain ⟨c1, c2⟩ := hcap
  have HP : Hid (Qeu w (.slice (if cap = t then a else a.map (·.add t)) (L - t) (cap - t)) (l.drop t)) := Lib.hid (Qhg hv ht)
  have HLP : Hid (∀ b ∈ l.drop t, b < 256) := Lib.hid (fun b hb => hl b (List.mem_of_mem_drop hb))
  clear hv hD hl
  have q1 : (t : Int) ≤ cap := by omega
  by_cases hc : cap = t
  · subst hc
    obtain rfl : L = cap := by omega
    simp only [if_true, Nat.sub_self] at HP
    go_enter Try.func82, Try.ntmps82
    go_wp2_with fail
    ((with_reducible refine (QlP _ (l.drop L) HLP.out _ HP.out).mono ?_); rintro e w' ⟨rfl, m, rfl⟩)
    rw [HD.out]
    go_wp2
    go_ret2
    refine ⟨rfl, ?_, ?_, ?_⟩
    · rw [Int.natCast_add]
      exact World.cell?_setCell_same _ _ _ h1
    · exact (World.frozen?_setCell _ _ _ _).trans f1
    · exact Qfn (show w.grownBy (w.drewN m) (some B1) from ⟨rfl, rfl, rfl, Nat.le_refl _, fun _ _ _ => rfl⟩) (Or.inl rfl) _
  · rw [if_neg hc] at HP
    go_enter Try.func82, Try.ntmps82
    go_wp2_with fail
    ((with_reducible refine (QlP _ (l.drop t) HLP.out _ HP.out).mono ?_); rintro e w' ⟨rfl, m, rfl⟩)
    rw [HD.out]
    go_wp2
    go_ret2
    refine ⟨rfl, ?_, ?_, ?_⟩
    · rw [Int.natCast_add]
      exact World.cell?_setCell_same _ _ _ h1
    · exact (World.frozen?_setCell _ _ _ _).trans f1
    · exact Qfn (show w.grownBy (w.drewN m) (some B1) from ⟨rfl, rfl, rfl, Nat.le_refl _, fun _ _ _ => rfl⟩) (Or.inl rfl) _
def NumsW (W : World) (l : List Nat) (e : Ending) (w' : World) : Prop :=
  Below W.heap.size W w' ∧ match Qa7 l with
  | none => e = .returned (.tuple #[.slice none 0 0, .int .i64 0, .int .i64 3])
  | some (ns, u) => ∃ v, e = .returned (.tuple #[v, .int .i64 (u : Int), .int .i64 0]) ∧ QbH w' v ns ∧ ∀ g, v.ownBlock = some g → W.heap.size ≤ g
theorem Qck {W w2 w3 : World} {B1 : Nat} {b o : Nat} {x : Value} (hB : Below W.heap.size W w2) (hB1 : W.heap.size ≤ B1) (hg : w2.grownBy w3 (some B1)) (h0 : w2.cell? ⟨b, o, none⟩ = some x) (hne : b ≠ B1) :
    Below W.heap.size W w3 ∧ w3.cell? ⟨b, o, none⟩ = some x :=
  ⟨hB.grown hg hB.size (fun j hj => by have : B1 = j := by simpa using hj
                                       omega),
   (World.cell?_of_block (a := ⟨b, o, none⟩) (hg.block b (World.block_lt_of_cell? w2 ⟨b, o, none⟩ h0) (by simpa using hne))).trans h0⟩
theorem QlO (v : Value) (l : List Nat) (hl : ∀ b ∈ l, b < 256) (hlen : l.length ≤ 1000000) (w : World) (hv : Qeu w v l) : Calls Try.prog 76 #[v] w (NumsW w l) := by
  obtain ⟨i0, hi, hz0, hz1, hz2⟩ := info_parts Qgv
  have HV := Lib.hid hv
  have HL := Lib.hid hl
  obtain ⟨a, cap, rfl, hll, _⟩ := hv
  obtain ⟨L, hL⟩ : ∃ L, L = l.length := ⟨_, rfl⟩
  rw [← hL] at hll HV hlen ⊢
  have NL := Lib.hid hL
  clear hL hl hll
  cases hd : dec l with
  | none =>
    have HD : Hid (Qc_ (l.drop 0) = .tuple #[.int .i64 0, .int .i64 ((0 : Nat) : Int), .int .i64 3]) := Lib.hid (by rw [List.drop_zero]; unfold Qc_; rw [hd]; rfl)
    have HN : Hid (Qa7 l = none) := Lib.hid (by unfold Qa7; rw [hd])
    clear hd
    go_enter Try.func76, Try.ntmps76
    go_wp2_with fail
    have hw0 : Below w.heap.size w ((w.alloc (.cells #[.slice a L cap] 48)).alloc (.cells #[.int .i64 0] 3)) := ((Below.refl _ _).alloc (Nat.le_refl _) _).alloc (by simp) _
    have hc0 : ((w.alloc (.cells #[.slice a L cap] 48)).alloc (.cells #[.int .i64 0] 3)).cell? ⟨w.heap.size, 0, none⟩ = some (.slice a L cap) := Qa8 _ (by rw [World.cell?_alloc_at _ _ _ _ rfl]; rfl)
    ((with_reducible refine (Qdv w.heap.size (w.heap.size + 1) a L cap 0 l HL.out _ (QcM HV.out hw0) hc0 (by rw [World.cell?_alloc_at _ _ _ _ (by simp)]; simp) (World.frozen?_alloc_at _ _ _ _ (by simp)) (Nat.zero_le _) _ _ _ false HD.out rfl (Nat.zero_le _)).mono ?_); rintro e w1 ⟨rfl, g1, f1, hg1⟩)
    have hA := Qck hw0 (by omega) hg1 hc0 (by omega)
    have HB1 := Lib.hid hA.1
    have g0 := hA.2
    have HS1 := hA.1.size
    clear hw0 hc0 hg1 hA
    go_wp2
    go_ret3
    refine ⟨HB1.out, ?_⟩
    rw [HN.out]
    rfl
  | some x =>
    obtain ⟨c, k⟩ := x
    have HD : Hid (Qc_ (l.drop 0) = .tuple #[.int .i64 c, .int .i64 (k : Int), .int .i64 0]) := Lib.hid (by rw [List.drop_zero]; unfold Qc_; rw [hd])
    have hs := QgD HL.out hd
    rw [← NL.out] at hs
    have hkL : 0 + k ≤ L := by omega
    have hci := hs.1
    unfold I64 at hci
    obtain ⟨hci1, hci2⟩ := hci
    have HKL : Hid (k ≤ L) := Lib.hid hs.2.2.2
    clear hs
    by_cases hneg : c < 0
    · have HN : Hid (Qa7 l = none) := Lib.hid (by unfold Qa7; rw [hd]; simp only; rw [if_pos hneg])
      clear hd
      go_enter Try.func76, Try.ntmps76
      go_wp2_with fail
      have hw0 : Below w.heap.size w ((w.alloc (.cells #[.slice a L cap] 48)).alloc (.cells #[.int .i64 0] 3)) := ((Below.refl _ _).alloc (Nat.le_refl _) _).alloc (by simp) _
      have hc0 : ((w.alloc (.cells #[.slice a L cap] 48)).alloc (.cells #[.int .i64 0] 3)).cell? ⟨w.heap.size, 0, none⟩ = some (.slice a L cap) := Qa8 _ (by rw [World.cell?_alloc_at _ _ _ _ rfl]; rfl)
      ((with_reducible refine (Qdv w.heap.size (w.heap.size + 1) a L cap 0 l HL.out _ (QcM HV.out hw0) hc0 (by rw [World.cell?_alloc_at _ _ _ _ (by simp)]; simp) (World.frozen?_alloc_at _ _ _ _ (by simp)) (Nat.zero_le _) _ _ _ true HD.out rfl hkL).mono ?_); rintro e w1 ⟨rfl, g1, f1, hg1⟩)
      have hA := Qck hw0 (by omega) hg1 hc0 (by omega)
      have HB1 := Lib.hid hA.1
      have g0 := hA.2
      have HS1 := hA.1.size
      clear hw0 hc0 hg1 hA
      go_wp2
      go_ret3
      refine ⟨HB1.out, ?_⟩
      rw [HN.out]
      rfl
    · obtain ⟨C, rfl⟩ := Int.eq_ofNat_of_zero_le (show 0 ≤ c by omega)
      have HN1 : Hid (Qa7 l = match Qbn C (l.drop k) with | none => none | some (ns, u) => some (ns, k + u)) := Lib.hid (by
        unfold Qa7; rw [hd]; simp only; rw [if_neg hneg]; rfl)
      clear hd hneg hci1 hci2
      by_cases hbig : (L : Int) - k < C
      · have HN : Hid (Qa7 l = none) := Lib.hid (by
          rw [HN1.out]
          cases hm : Qbn C (l.drop k) with
          | none => rfl
          | some y =>
            obtain ⟨ns, u⟩ := y
            have h := QcB (fun b hb => HL.out b (List.mem_of_mem_drop hb)) hm
            rw [List.length_drop, ← NL.out] at h
            have := HKL.out
            omega)
        clear HN1
        go_enter Try.func76, Try.ntmps76
        go_wp2_with fail
        have hw0 : Below w.heap.size w ((w.alloc (.cells #[.slice a L cap] 48)).alloc (.cells #[.int .i64 0] 3)) := ((Below.refl _ _).alloc (Nat.le_refl _) _).alloc (by simp) _
        have hc0 : ((w.alloc (.cells #[.slice a L cap] 48)).alloc (.cells #[.int .i64 0] 3)).cell? ⟨w.heap.size, 0, none⟩ = some (.slice a L cap) := Qa8 _ (by rw [World.cell?_alloc_at _ _ _ _ rfl]; rfl)
        ((with_reducible refine (Qdv w.heap.size (w.heap.size + 1) a L cap 0 l HL.out _ (QcM HV.out hw0) hc0 (by rw [World.cell?_alloc_at _ _ _ _ (by simp)]; simp) (World.frozen?_alloc_at _ _ _ _ (by simp)) (Nat.zero_le _) _ _ _ true HD.out rfl hkL).mono ?_); rintro e w1 ⟨rfl, g1, f1, hg1⟩)
        have hA := Qck hw0 (by omega) hg1 hc0 (by omega)
        have HB1 := Lib.hid hA.1
        have g0 := hA.2
        have HS1 := hA.1.size
        clear hw0 hc0 hg1 hA
        go_wp2
        go_ret3
        refine ⟨HB1.out, ?_⟩
        rw [HN.out]
        rfl
      · have hCL : C ≤ L := by have := HKL.out; omega
        have hbig' : (C : Int) ≤ (L : Int) - k := by omega
        clear hbig
        go_enter Try.func76, Try.ntmps76
        go_wp2_with fail
        have hw0 : Below w.heap.size w ((w.alloc (.cells #[.slice a L cap] 48)).alloc (.cells #[.int .i64 0] 3)) := ((Below.refl _ _).alloc (Nat.le_refl _) _).alloc (by simp) _
        have hc0 : ((w.alloc (.cells #[.slice a L cap] 48)).alloc (.cells #[.int .i64 0] 3)).cell? ⟨w.heap.size, 0, none⟩ = some (.slice a L cap) := Qa8 _ (by rw [World.cell?_alloc_at _ _ _ _ rfl]; rfl)
        ((with_reducible refine (Qdv w.heap.size (w.heap.size + 1) a L cap 0 l HL.out _ (QcM HV.out hw0) hc0 (by rw [World.cell?_alloc_at _ _ _ _ (by simp)]; simp) (World.frozen?_alloc_at _ _ _ _ (by simp)) (Nat.zero_le _) _ _ _ true HD.out rfl hkL).mono ?_); rintro e w1 ⟨rfl, g1, f1, hg1⟩)
        have hA := Qck hw0 (by omega) hg1 hc0 (by omega)
        have HB1 := Lib.hid hA.1
        have g0 := hA.2
        have HS1 := hA.1.size
        clear hw0 hc0 hg1 hA
        go_wp2_with (first
          | (at_make; refine wpList_make_own _ rfl _ _ 26 rfl w1.heap.size 3 i0 (.int .i64 0) 1 Try.underlying26 hi hz0 hz1 _ _ _ C rfl rfl rfl (by rw [hz2]; omega) (by unfold maxLen; omega) (Nat.le_refl _) ?_; intro w2 hown2 hgrow2))
        have hlB1 : w.heap.size + 1 < w1.heap.size := World.block_lt_of_cell? w1 ⟨w.heap.size + 1, 0, none⟩ g1
        have hs2 : w1.heap.size ≤ w2.heap.size := hgrow2.size
        have hb2 : Hid (Below w.heap.size w w2) := Lib.hid (HB1.out.grown hgrow2 HB1.out.size (fun j hj => by cases hj))
        have e0 : w2.cell? ⟨w.heap.size, 0, none⟩ = some (.slice a L cap) := (World.cell?_of_block (a := ⟨w.heap.size, 0, none⟩) (hgrow2.block w.heap.size (by omega) (by simp))).trans g0
        have e1 : w2.cell? ⟨w.heap.size + 1, 0, none⟩ = some (.int .i64 ((k + 0 : Nat) : Int)) := (World.cell?_of_block (a := ⟨w.heap.size + 1, 0, none⟩) (hgrow2.block (w.heap.size + 1) hlB1 (by simp))).trans (by rw [g1, Nat.zero_add]; rfl)
        have e2 : w2.frozen? ⟨w.heap.size + 1, 0, none⟩ = false := (World.frozen?_of_block (a := ⟨w.heap.size + 1, 0, none⟩) (hgrow2.block (w.heap.size + 1) hlB1 (by simp))).trans f1
        have HO2 := Lib.hid hown2
        clear hown2 hgrow2 g0 g1 f1 hkL hbig'
        go_loopw [9, 35] (fun v i wr => ∃ (j : Nat) (ns : List Int) (u : Nat), j ≤ C ∧ i = .int .i64 j ∧ Hid (Qbn j (l.drop k) = some (ns, u)) ∧ Hid (wr.ownsRow w1.heap.size 3 1 v j (ns.map (Value.int .i64))) ∧ Hid (Below w.heap.size w wr) ∧ wr.cell? ⟨w.heap.size, 0, none⟩ = some (.slice a L cap) ∧ wr.cell? ⟨w.heap.size + 1, 0, none⟩ = some (.int .i64 ((k + u : Nat) : Int)) ∧ wr.frozen? ⟨w.heap.size + 1, 0, none⟩ = false ∧ w1.heap.size ≤ wr.heap.size) (fun _ i _ => C - (intOf i).toNat)
        case atStart => exact ⟨0, [], 0, Nat.zero_le _, rfl, Lib.hid rfl, HO2, hb2, e0, e1, e2, hs2⟩
        case round =>
          obtain ⟨j, ns, u, hj, rfl, hdm, hown, hbw, m0, m1, m2, hsz⟩ := hrel
          have hU := QcB (fun b hb => HL.out b (List.mem_of_mem_drop hb)) hdm.out
          rw [List.length_drop, ← NL.out] at hU
          have hku : k + u ≤ L := by have := HKL.out; omega
          have HNL : Hid (ns.length = j) := Lib.hid hU.1
          clear hU
          by_cases hlt : j < C
          · cases hd2 : dec (l.drop (k + u)) with
            | none =>
              have HD2 : Hid (Qc_ (l.drop (k + u)) = .tuple #[.int .i64 0, .int .i64 ((0 : Nat) : Int), .int .i64 3]) := Lib.hid (by unfold Qc_; rw [hd2]; rfl)
              have HN : Hid (Qa7 l = none) := Lib.hid (by
                rw [HN1.out]
                have h1 : Qbn (j + 1) (l.drop k) = none := by unfold Qbn; rw [hdm.out]; simp only; rw [List.drop_drop, hd2]
                have h2 := Qho h1 (C - (j + 1))
                rw [show j + 1 + (C - (j + 1)) = C by omega] at h2
                rw [h2])
              clear hd2
              go_wp2_with fail
              ((with_reducible refine (Qdv w.heap.size (w.heap.size + 1) a L cap (k + u) l HL.out _ (QcM HV.out hbw.out) m0 m1 m2 hku _ _ _ false HD2.out rfl (by omega)).mono ?_); rintro e w3 ⟨rfl, n1, n2, hg3⟩)
              have HB3 := Lib.hid (Qck hbw.out (by omega) hg3 m0 (by omega)).1
              clear hg3
              go_wp2
              go_ret3
              refine ⟨HB3.out, ?_⟩
              rw [HN.out]
              rfl
            | some y =>
              obtain ⟨n, k'⟩ := y
              have hs3 := QgD (fun b hb => HL.out b (List.mem_of_mem_drop hb)) hd2
              rw [List.length_drop, ← NL.out] at hs3
              have hk' : k + u + k' ≤ L := by omega
              have HD2 : Hid (Qc_ (l.drop (k + u)) = .tuple #[.int .i64 n, .int .i64 (k' : Int), .int .i64 0]) := Lib.hid (by unfold Qc_; rw [hd2])
              have HM : Hid (Qbn (j + 1) (l.drop k) = some (ns ++ [n], u + k')) := Lib.hid (by unfold Qbn; rw [hdm.out]; simp only; rw [List.drop_drop, hd2])
              clear hd2 hs3
              go_wp2_with fail
              ((with_reducible refine (Qdv w.heap.size (w.heap.size + 1) a L cap (k + u) l HL.out _ (QcM HV.out hbw.out) m0 m1 m2 hku _ _ _ true HD2.out rfl hk').mono ?_); rintro e w3 ⟨rfl, n1, n2, hg3⟩)
              have hA := Qck hbw.out (by omega) hg3 m0 (by omega)
              have HB3 := Lib.hid hA.1
              have n0 := hA.2
              have hs3 : wr.heap.size ≤ w3.heap.size := hg3.size
              have hblk : ∀ g, _ := fun g hg => (hown.out.lt g hg).1
              have HO3 := Lib.hid (hown.out.kept hg3 (Or.inr (fun hc => by have := hblk _ hc; omega)))
              clear hg3 hA hblk
              go_wp2_with (first
                | (at_builtin; refine wpList_append_own _ rfl _ _ 26 rfl w1.heap.size 3 i0 (.int .i64 0) 1 8 Try.underlying26 hi hz0 hz1 hz2 rfl (by decide) _ _ _ rfl (World.ownsRow.alloc HO3.out _) ⟨w3.heap.size, 0, none⟩ 1 1 [.int .i64 n] rfl rfl (fun j u hj => Qct j u hj) (by intro u hu; simp at hu; subst hu; rfl) (by unfold maxLen; omega) (by omega) (by simp; omega) ?_; intro v' w4 hown' hgrow' _))
              have hne : ∀ b, b < w1.heap.size → some b ≠ Value.ownBlock _ := fun b hb hc => by
                have := (HO3.out.lt b hc.symm).1; omega
              have k0 : w4.cell? ⟨w.heap.size, 0, none⟩ = some (.slice a L cap) := (World.cell?_of_block (a := ⟨w.heap.size, 0, none⟩) (hgrow'.block w.heap.size (by simp; omega) (hne _ (by omega)))).trans (Qa8 _ n0)
              have k1 : w4.cell? ⟨w.heap.size + 1, 0, none⟩ = some (.int .i64 ((k + (u + k') : Nat) : Int)) := (World.cell?_of_block (a := ⟨w.heap.size + 1, 0, none⟩) (hgrow'.block (w.heap.size + 1) (by simp; omega) (hne _ hlB1))).trans (Qa8 _ (by rw [n1, Nat.add_assoc]))
              have k2 : w4.frozen? ⟨w.heap.size + 1, 0, none⟩ = false := (World.frozen?_of_block (a := ⟨w.heap.size + 1, 0, none⟩) (hgrow'.block (w.heap.size + 1) (by simp; omega) (hne _ hlB1))).trans (QcA _ (by omega) n2)
              have hs4 : w3.heap.size ≤ w4.heap.size := by have := hgrow'.size; simp at this; omega
              have HB4 := Lib.hid ((HB3.out.alloc HB3.out.size _).grown hgrow' (by have := HB3.out.size; simp; omega) (fun j hj => by have := (HO3.out.lt j hj).1; omega))
              have HO4 : Hid (w4.ownsRow w1.heap.size 3 1 v' (j + 1) ((ns ++ [n]).map (Value.int .i64))) := Lib.hid (by rw [List.map_append]; exact hown')
              clear hown' hgrow' hne
              go_roundw
              case rel => exact ⟨j + 1, ns ++ [n], u + k', by omega, by go_num, HM, HO4, HB4, k0, k1, k2, by omega⟩
              case measure => simp [intOf]; omega
          · obtain rfl : j = C := by omega
            have HN : Hid (Qa7 l = some (ns, k + u)) := Lib.hid (by rw [HN1.out, hdm.out])
            go_wp2
            go_quiet (fail)
            go_wp2
            go_ret3
            refine ⟨Qis hbw.out _, ?_⟩
            rw [HN.out]
            refine ⟨_, rfl, Qgx (QbS (B := w1.heap.size) ?_) _, fun g hg => ?_⟩
            · rw [HNL.out]
              exact hown.out
            · have q1 := (hown.out.lt g hg).1
              have q2 := HB1.out.size
              omega
theorem QkY (v : Value) (l : List Int) (hl : ∀ n ∈ l, I64 n) (hlen : l.length ≤ 100000) (w : World) (hv : QbH w v l) : Calls Try.prog 49 #[v] w fun e w' =>
    ∃ r, e = .returned r ∧ QeF w' w.heap.size r (QdY l) ∧ Below w.heap.size w w' := by
  obtain ⟨i0, hi, hz0, hz1, hz2⟩ := info_parts Qfi
  have HL := Lib.hid hl
  obtain ⟨a, cap, rfl, hll, hc⟩ := hv
  have HC := Lib.hid hc
  obtain ⟨L, hL⟩ : ∃ L, L = l.length := ⟨_, rfl⟩
  rw [← hL] at hll HC hlen ⊢
  have NL := Lib.hid hL
  clear hL hl hc
  have HI : Hid (I64 (L : Int)) := Lib.hid (by unfold I64; omega)
  have HE := Lib.hid (Qdi HI.out)
  go_enter Try.func49, Try.ntmps49
  go_wp2_with fail
  ((with_reducible refine (QiL _ HI.out _).mono ?_); rintro e w1 ⟨v1, rfl, hv1, hb1⟩)
  have HO := Lib.hid hv1
  have HB := Lib.hid hb1
  clear hv1 hb1
  go_wp2
  go_loopw [3, 4] (fun v i wr => ∃ k : Nat, k ≤ L ∧ i = .int .i64 k ∧ QeF wr w.heap.size v (enc (L : Int) ++ encs (l.take k)) ∧ Hid (Below w.heap.size w wr)) (fun _ i _ => L - (intOf i).toNat)
  case atStart => exact ⟨0, Nat.zero_le _, rfl, by simpa [encs] using HO.out, HB⟩
  case round =>
    obtain ⟨k, hk, rfl, hown, hbw⟩ := hrel
    have HOW := Lib.hid hown
    clear hown
    by_cases hlt : k < L
    · rcases HC.out with hc | ⟨b, o, rfl, hc⟩
      · omega
      have h0 := hc k hlt
      have h1 := Qhq hbw.out h0
      obtain ⟨x, hx⟩ : ∃ x, x = l.getD k 0 := ⟨_, rfl⟩
      rw [← hx] at h1
      have hkl : k < l.length := by rw [← NL.out]; exact hlt
      have HX : Hid (I64 x) := Lib.hid (by rw [hx, List.getD_eq_getElem?_getD, List.getElem?_eq_getElem hkl]; exact HL.out _ (List.getElem_mem hkl))
      have HT : Hid (encs (l.take (k + 1)) = encs (l.take k) ++ enc x) := Lib.hid (by rw [QfF l k hkl, Qd7, ← hx])
      have HEL : Hid ((enc (L : Int) ++ encs (l.take k)).length ≤ 10 + 10 * L) := Lib.hid (by
        have h2 := QgC (l.take k) (fun n hn => HL.out n (List.mem_of_mem_take hn))
        rw [List.length_take] at h2
        have := HE.out
        rw [List.length_append]; omega)
      have HXL := Lib.hid (Qdi HX.out)
      have HXP := Lib.hid (Qig x)
      clear hc h0 hx hkl
      go_wp2_with fail
      ((with_reducible refine (QiL _ HX.out _).mono ?_); rintro e w3 ⟨v3, rfl, hv3, hb3⟩)
      obtain ⟨g3, c3, rfl, hc3⟩ := QiV hv3 HXP.out
      have HB3 := Lib.hid (hbw.out.trans (hb3.mono hbw.out.size))
      have HO3 := Lib.hid (Qg4 HOW.out hb3)
      have HC3 := Lib.hid hc3
      clear hb3 hv3 hc3
      go_wp2_with (first
        | (at_builtin; refine wpList_append_own _ rfl _ _ 48 rfl w.heap.size 5 i0 (.int .u8 0) 1 1 Try.underlying48 hi hz0 hz1 hz2 rfl (by decide) _ _ _ rfl HO3.out ⟨g3, 0, none⟩ _ c3 _ rfl (by rw [List.length_map, Nat.mul_one]) HC3.out (Qmp _) (by have h1 := HEL.out; have h2 := HXL.out; unfold maxLen; omega) (by have h1 := HEL.out; have h2 := HXL.out; omega) HB3.out.size ?_; intro v' w4 hown' hgrow' _))
      have hb4 := Lib.hid (HB3.out.grown hgrow' HB3.out.size (fun j hj => (World.ownsRow.lt HO3.out j hj).1))
      have ho4 : QeF w4 w.heap.size v' (enc (L : Int) ++ encs (l.take (k + 1))) := by
        rw [HT.out, ← List.append_assoc]; exact QiU rfl hown'
      clear hown' hgrow'
      go_roundw
      case rel => exact ⟨k + 1, by omega, by go_num, ho4, hb4⟩
      case measure => simp [intOf]; omega
    · obtain rfl : k = L := by omega
      have ht : l.take k = l := by rw [NL.out]; exact List.take_length
      go_wp2
      go_ret
      refine ⟨_, rfl, ?_, hbw.out⟩
      have h := HOW.out
      rw [ht] at h
      unfold QdY
      rw [← NL.out]
      exact h
theorem QjV (l : List Int) (hl : ∀ n ∈ l, I64 n) (hlen : l.length ≤ 1000) (r : List Nat) : dec (QdY l ++ r) = some ((l.length : Int), (enc (l.length : Int)).length) := by
  unfold QdY
  rw [List.append_assoc]
  exact Ql8 (by unfold I64; omega) _
theorem QjW (l : List Int) : ∀ b ∈ QdY l, b < 256 := by
  intro b hb
  unfold QdY encs at hb
  rcases List.mem_append.1 hb with h | h
  · exact Qjl _ b h
  · obtain ⟨n, _, hn⟩ := List.mem_flatMap.1 h
    exact Qjl n b hn
theorem Qg7 (l : List Int) (hl : ∀ n ∈ l, I64 n) (hlen : l.length ≤ 1000) : (QdY l).length ≤ 10 + 10 * l.length := by
  unfold QdY
  rw [List.length_append]
  have h1 := Qdi (n := (l.length : Int)) (by unfold I64; omega)
  have h2 := QgC l hl
  omega
theorem Qlt (l : List Int) : 0 < (QdY l).length := by
  unfold QdY; rw [List.length_append]; have := Qig (l.length : Int); omega
end Go.Proofs.Ytfhmdlihnidjoaa
namespace Go.Proofs.Ytfhmdlihnidjoaa
set_option maxRecDepth 100000
set_option linter.unusedVariables false
set_option linter.unusedSectionVars false
set_option linter.unusedSimpArgs false
abbrev Ws := List (Int × Int)
def asc (last : Int) : Ws → Bool
  | [] => true
  | p :: r => decide (last < p.1) && asc p.1 r
def QaG (ver : Int) (ws : Ws) : Bool := decide (1 ≤ ver) && decide (ver ≤ 1099511627776) && decide (ws.length ≤ 32) && asc (-1) ws
def Qbb (ver : Int) (ws : Ws) : List Int := ver :: ws.flatMap fun p => [p.1, p.2]
def QbB (ver : Int) (ws : Ws) : List Nat := QdY (Qbb ver ws)
def le4 (n : Nat) : List Nat := [n % 256, n / 256 % 256, n / 65536 % 256, n / 16777216 % 256]
def Qg2 (p : List Nat) : List Nat := p ++ List.replicate (27 - p.length) 0
def Qa1 (f : Nat) (p : List Nat) : List Nat := f :: Qg2 p
def sec (f : Nat) (p : List Nat) : List Nat := Qa1 f p ++ le4 (Qb0 (Qa1 f p))
def QeI (f : Nat) (p : List Nat) : ByteArray := QaO (sec f p)
def Qau (l : List Nat) : Nat := (l.length + 26) / 27
def Qbd (l : List Nat) (i : Nat) : List Nat := (l.drop (27 * i)).take 27
def QhV (l : List Nat) : List ByteArray := (List.range (Qau l)).map fun i => QeI (Qau l - 1 - i) (Qbd l i)
def QaC (ver : Int) (ws : Ws) : List ByteArray := if QaG ver ws then QhV (QbB ver ws) else []
def QcD (ver : Int) (ws : Ws) : Prop := I64 ver ∧ ∀ p ∈ ws, I64 p.1 ∧ I64 p.2
theorem Qb6 (ver : Int) (ws : Ws) : (Qbb ver ws).length = 1 + 2 * ws.length := by
  have : (ws.flatMap fun p => [p.1, p.2]).length = 2 * ws.length := by
    induction ws with
    | nil => rfl
    | cons a r ih => simp only [List.flatMap_cons, List.length_append, ih, List.length_cons, List.length_nil]; omega
  simp [Qbb, this]; omega
theorem QcK {ver : Int} {ws : Ws} (h : QcD ver ws) : ∀ n ∈ Qbb ver ws, I64 n := by
  intro n hn
  simp only [Qbb, List.mem_cons, List.mem_flatMap, List.not_mem_nil, or_false] at hn
  rcases hn with rfl | ⟨p, hp, rfl | rfl⟩
  · exact h.1
  · exact (h.2 p hp).1
  · exact (h.2 p hp).2
theorem Qcl {ver : Int} {ws : Ws} (h : QaG ver ws = true) : ws.length ≤ 32 := by
  simp [QaG] at h; exact h.1.2
theorem QbO (ver : Int) (ws : Ws) : ∀ b ∈ QbB ver ws, b < 256 := QjW _
theorem pay_pos (ver : Int) (ws : Ws) : 0 < (QbB ver ws).length := Qlt _
theorem Qlg {ver : Int} {ws : Ws} (hf : QcD ver ws) (hv : QaG ver ws = true) : (QbB ver ws).length ≤ 660 := by
  have h1 := Qcl hv
  have h2 := Qb6 ver ws
  have := Qg7 (Qbb ver ws) (QcK hf) (by omega)
  unfold QbB
  omega
theorem Qbu {l : List Nat} (hl : ∀ b ∈ l, b < 256) (i : Nat) : ∀ b ∈ Qbd l i, b < 256 := fun b hb => hl b (List.mem_of_mem_drop (List.mem_of_mem_take hb))
theorem Qdt (l : List Nat) (i : Nat) : (Qbd l i).length = min 27 (l.length - 27 * i) := by simp [Qbd]
theorem Qdc (l : List Nat) (i : Nat) : (Qbd l i).length ≤ 27 := by rw [Qdt]; omega
theorem Qgm {p : List Nat} (h : p.length ≤ 27) : (Qg2 p).length = 27 := by simp [Qg2]; omega
theorem QbD {f : Nat} {p : List Nat} (h : p.length ≤ 27) : (Qa1 f p).length = 28 := by simp [Qa1, Qgm h]
theorem QhN {f : Nat} {p : List Nat} (h : p.length ≤ 27) : (sec f p).length = 32 := by simp [sec, QbD h, le4]
theorem pad_byte {p : List Nat} (hp : ∀ b ∈ p, b < 256) : ∀ b ∈ Qg2 p, b < 256 := by
  intro b hb
  simp only [Qg2, List.mem_append, List.mem_replicate] at hb
  rcases hb with hb | ⟨_, rfl⟩
  · exact hp b hb
  · omega
theorem Qcs {f : Nat} {p : List Nat} (hf : f < 256) (hp : ∀ b ∈ p, b < 256) : ∀ b ∈ Qa1 f p, b < 256 := by
  intro b hb
  simp only [Qa1, List.mem_cons] at hb
  rcases hb with rfl | hb
  · exact hf
  · exact pad_byte hp b hb
theorem Qi3 (n : Nat) : ∀ b ∈ le4 n, b < 256 := by
  intro b hb
  simp only [le4, List.mem_cons, List.not_mem_nil, or_false] at hb
  rcases hb with rfl | rfl | rfl | rfl <;> omega
theorem Qgg {f : Nat} {p : List Nat} (hf : f < 256) (hp : ∀ b ∈ p, b < 256) : ∀ b ∈ sec f p, b < 256 := by
  intro b hb
  simp only [sec, List.mem_append] at hb
  rcases hb with hb | hb
  · exact Qcs hf hp b hb
  · exact Qi3 _ b hb
theorem Qb4 {f : Nat} {p : List Nat} (hf : f < 256) (hp : ∀ b ∈ p, b < 256) : Qaf (QeI f p) = sec f p := QbC _ (Qgg hf hp)
theorem QfG (s : ByteArray) : s.size = (Qaf s).length := (QbL s).symm
theorem QiK {f : Nat} {p : List Nat} (hf : f < 256) (hp : ∀ b ∈ p, b < 256) (hl : p.length ≤ 27) : (QeI f p).size = 32 := by
  rw [QfG, Qb4 hf hp, QhN hl]
def sct (s : ByteArray) : List Nat := ((Qaf s).drop 1).take 27
theorem sct_sec {f : Nat} {p : List Nat} (hf : f < 256) (hp : ∀ b ∈ p, b < 256) (hl : p.length ≤ 27) : sct (QeI f p) = Qg2 p := by
  unfold sct
  rw [Qb4 hf hp]
  show ((Qa1 f p ++ le4 _).drop 1).take 27 = _
  show (Qg2 p ++ le4 _).take 27 = _
  rw [List.take_append_of_le_length (by rw [Qgm hl]; exact Nat.le_refl _), List.take_of_length_le (by rw [Qgm hl]; exact Nat.le_refl _)]
theorem rep_add (a b : Nat) : List.replicate a 0 ++ List.replicate b 0 = (List.replicate (a + b) 0 : List Nat) := by simp
theorem QfK (l : List Nat) : ∀ n, ((List.range n).flatMap fun i => Qg2 (Qbd l i)) = l.take (27 * n) ++ List.replicate (27 * n - l.length) 0
  | 0 => by simp
  | n + 1 => by
    rw [List.range_succ, List.flatMap_append, QfK l n]
    simp only [List.flatMap_cons, List.flatMap_nil, List.append_nil]
    unfold Qg2
    rw [Qdt]
    rw [show 27 * (n + 1) = 27 * n + 27 by omega, List.take_add]
    show _ ++ (Qbd l n ++ _) = (_ ++ Qbd l n) ++ _
    by_cases h : l.length ≤ 27 * n
    · have e : Qbd l n = [] := List.length_eq_zero_iff.1 (by rw [Qdt]; omega)
      rw [e, List.nil_append, List.append_nil, List.append_assoc, rep_add]
      congr 2
      omega
    · rw [show 27 * n - l.length = 0 by omega, List.replicate_zero, List.append_nil, List.append_assoc]
      congr 3
      omega
theorem Qei (l : List Nat) : l.length ≤ 27 * Qau l := by unfold Qau; omega
theorem QbA (l : List Nat) : (QhV l).length = Qau l := by simp [QhV]
theorem Qfa (l : List Nat) (i : Nat) (hi : i < Qau l) : (QhV l).getD i ByteArray.empty = QeI (Qau l - 1 - i) (Qbd l i) := by
  simp [QhV, List.getD, hi]
theorem Qk5 (l : List Nat) (hl : ∀ b ∈ l, b < 256) (h : Qau l ≤ 256) : (QhV l).flatMap sct = l ++ List.replicate (27 * Qau l - l.length) 0 := by
  unfold QhV
  rw [List.flatMap_map]
  have e : (List.range (Qau l)).flatMap (fun i => sct (QeI (Qau l - 1 - i) (Qbd l i))) = (List.range (Qau l)).flatMap fun i => Qg2 (Qbd l i) := by
    rw [List.flatMap_def, List.flatMap_def]
    congr 1
    exact List.map_congr_left fun i hi => sct_sec (by rw [List.mem_range] at hi; omega) (Qbu hl i) (Qdc l i)
  rw [e, QfK, List.take_of_length_le (Qei l)]
theorem Qbh {ver : Int} {ws : Ws} (hf : QcD ver ws) (hv : QaG ver ws = true) : 1 ≤ Qau (QbB ver ws) ∧ Qau (QbB ver ws) ≤ 25 := by
  have h1 := Qlg hf hv
  have h2 := pay_pos ver ws
  unfold Qau
  omega
theorem QaU {ver : Int} {ws : Ws} (hv : QaG ver ws = true) : QaC ver ws = QhV (QbB ver ws) := by unfold QaC; rw [if_pos hv]
theorem Qds {ver : Int} {ws : Ws} (hv : QaG ver ws = false) : QaC ver ws = [] := by unfold QaC; rw [hv]; rfl
theorem Qeg {ver : Int} {ws : Ws} (hf : QcD ver ws) : ∀ s ∈ QaC ver ws, s.size = 32 := by
  intro s hs
  cases hv : QaG ver ws with
  | false => rw [Qds hv] at hs; cases hs
  | true =>
    rw [QaU hv] at hs
    simp only [QhV, List.mem_map, List.mem_range] at hs
    obtain ⟨i, hi, rfl⟩ := hs
    have := Qbh hf hv
    exact QiK (by omega) (Qbu (QbO ver ws) i) (Qdc _ i)
def Qak : List Int → Ws
  | a :: b :: r => (a, b) :: Qak r
  | _ => []
theorem QfL (ws : Ws) : Qak (ws.flatMap fun p => [p.1, p.2]) = ws := by
  induction ws with
  | nil => rfl
  | cons a r ih => simp [Qak, ih]
def Qfd : List Int → Option (Int × Ws)
  | v :: r => if r.length % 2 = 0 then some (v, Qak r) else none
  | [] => none
theorem ofNums_E (ver : Int) (ws : Ws) : Qfd (Qbb ver ws) = some (ver, ws) := by
  have h := Qb6 ver ws
  unfold Qbb at h ⊢
  simp only [List.length_cons] at h
  show (if (ws.flatMap fun p => [p.1, p.2]).length % 2 = 0 then some (ver, Qak (ws.flatMap fun p => [p.1, p.2])) else none) = _
  rw [if_pos (by omega), QfL]
def Qdh (s : ByteArray) : Nat := (Qaf s).getD 0 0
def Qhn (l : List ByteArray) (k : Nat) : Option (Int × Ws) :=
  if l.length ≤ k then none else if (l.getD k ByteArray.empty).size = 0 then none else
  if l.length - k ≤ Qdh (l.getD k ByteArray.empty) then none else
  if ((l.drop k).take (Qdh (l.getD k ByteArray.empty) + 1)).all (fun s => decide (s.size = 32)) then
    match Qa7 (((l.drop k).take (Qdh (l.getD k ByteArray.empty) + 1)).flatMap sct) with
    | some (ns, _) => Qfd ns
    | none => none
  else none
def Qbo (l : List ByteArray) (k : Nat) : Option (Int × Ws × Nat) := match Qhn l k with
  | none => none
  | some (v, ws) => if (QaC v ws).length = 0 ∨ l.length - k < (QaC v ws).length ∨ QaC v ws ≠ (l.drop k).take (QaC v ws).length then none else some (v, ws, (QaC v ws).length)
def secOr (s : ByteArray) : List Nat := if s.size = 32 then sct s else []
def gueS (l : List ByteArray) (k : Nat) : Int × Ws × Nat :=
  if l.length ≤ k then (0, [], 0) else if (l.getD k ByteArray.empty).size = 32 then
    match Qa7 (((l.drop k).take (Qdh (l.getD k ByteArray.empty) + 1)).flatMap secOr) with
    | some (n :: r, _) => (n, Qak r, Qdh (l.getD k ByteArray.empty) + 1)
    | _ => (0, [], 0)
  else (0, [], 0)
theorem drop_get {l : List ByteArray} {k : Nat} (hk : k < l.length) (r : List ByteArray) (n : Nat) (h : (l.drop k).take n = r) (hr : 0 < r.length) : l.getD k ByteArray.empty = r.getD 0 ByteArray.empty := by
  subst h
  have hn : 0 < n := by rcases Nat.eq_zero_or_pos n with h | h; · subst h; simp at hr
                        · exact h
  simp [List.getD, List.getElem?_take, List.getElem?_drop, hn]
theorem Qls {ver : Int} {ws : Ws} (hf : QcD ver ws) (hv : QaG ver ws = true) (r : List Nat) : ∃ u, Qa7 (QbB ver ws ++ r) = some (Qbb ver ws, u) := by
  have hl := Qcl hv
  have hn := Qb6 ver ws
  have h1 := QjV (Qbb ver ws) (QcK hf) (by omega) r
  unfold Qa7 QbB
  rw [h1]
  simp only
  rw [if_neg (by omega)]
  unfold QdY
  rw [List.append_assoc, List.drop_left, Int.toNat_natCast, Qez _ (QcK hf)]
  exact ⟨_, rfl⟩
theorem rec_read {ver : Int} {ws : Ws} (hf : QcD ver ws) (hv : QaG ver ws = true) {l : List ByteArray} {k : Nat} (hk : k < l.length) (h : (l.drop k).take (QaC ver ws).length = QaC ver ws) :
    Qhn l k = some (ver, ws) ∧ gueS l k = (ver, ws, (QaC ver ws).length) := by
  have hm := Qbh hf hv
  have hlen : (QaC ver ws).length = Qau (QbB ver ws) := by rw [QaU hv, QbA]
  have hsz := Qeg hf
  have e0 : l.getD k ByteArray.empty = QeI (Qau (QbB ver ws) - 1) (Qbd (QbB ver ws) 0) := by
    rw [drop_get hk _ _ h (by omega), QaU hv, Qfa _ _ (by omega)]
    rfl
  have s0 : (l.getD k ByteArray.empty).size = 32 := by rw [e0]; exact QiK (by omega) (Qbu (QbO _ _) _) (Qdc _ _)
  have f0 : Qdh (l.getD k ByteArray.empty) + 1 = (QaC ver ws).length := by
    rw [e0]
    unfold Qdh
    rw [Qb4 (by omega) (Qbu (QbO _ _) _), hlen]
    show Qau (QbB ver ws) - 1 + 1 = _
    omega
  have hle : (QaC ver ws).length ≤ l.length - k := by
    have := congrArg List.length h
    simp only [List.length_take, List.length_drop] at this
    omega
  have hfl : (QaC ver ws).flatMap sct = QbB ver ws ++ List.replicate (27 * Qau (QbB ver ws) - (QbB ver ws).length) 0 := by
    rw [QaU hv]; exact Qk5 _ (QbO _ _) (by omega)
  obtain ⟨u, hu⟩ := Qls hf hv (List.replicate (27 * Qau (QbB ver ws) - (QbB ver ws).length) 0)
  constructor
  · unfold Qhn
    rw [if_neg (by omega), if_neg (by omega), if_neg (by omega), f0, h, if_pos (by simp only [List.all_eq_true, decide_eq_true_eq]; exact hsz), hfl, hu]
    exact ofNums_E ver ws
  · unfold gueS
    have e2 : (QaC ver ws).flatMap secOr = (QaC ver ws).flatMap sct := by
      rw [List.flatMap_def, List.flatMap_def]
      congr 1
      exact List.map_congr_left fun s hs => by unfold secOr; rw [if_pos (hsz s hs)]
    rw [if_neg (by omega), if_pos s0, f0, h, e2, hfl, hu]
    show (ver, Qak _, _) = _
    rw [QfL]
theorem sct_byte (s : ByteArray) : ∀ b ∈ sct s, b < 256 := by
  intro b hb
  have := List.mem_of_mem_drop (List.mem_of_mem_take hb)
  simp only [Qaf, List.mem_map] at this
  obtain ⟨c, _, rfl⟩ := this
  exact c.toNat_lt
theorem Qfq (l : List ByteArray) : ∀ b ∈ l.flatMap sct, b < 256 := by
  intro b hb
  obtain ⟨s, _, h⟩ := List.mem_flatMap.1 hb
  exact sct_byte s b h
theorem Qin {l : List Nat} {ns : List Int} {u : Nat} (hl : ∀ b ∈ l, b < 256) (h : Qa7 l = some (ns, u)) : ∀ n ∈ ns, I64 n := by
  unfold Qa7 at h
  split at h
  · cases h
  · rename_i c k hd
    split at h
    · cases h
    · split at h
      · cases h
      · rename_i ns' u' hm
        obtain ⟨rfl, rfl⟩ : ns' = ns ∧ k + u' = u := by simpa using h
        exact (QcB (fun b hb => hl b (List.mem_of_mem_drop hb)) hm).2.2.2.2
theorem Qg1 : ∀ (r : List Int), (∀ n ∈ r, I64 n) → ∀ p ∈ Qak r, I64 p.1 ∧ I64 p.2
  | [], _, p, hp => by simp [Qak] at hp
  | [a], _, p, hp => by simp [Qak] at hp
  | a :: b :: r, h, p, hp => by
    simp only [Qak, List.mem_cons] at hp
    rcases hp with rfl | hp
    · exact ⟨h a (by simp), h b (by simp)⟩
    · exact Qg1 r (fun n hn => h n (by simp [hn])) p hp
theorem Qjq {l : List ByteArray} {k : Nat} {v : Int} {ws : Ws} (h : Qhn l k = some (v, ws)) : QcD v ws := by
  unfold Qhn at h
  split at h; · cases h
  split at h; · cases h
  split at h; · cases h
  split at h
  · split at h
    · rename_i ns u hd
      have hn := Qin (Qfq _) hd
      unfold Qfd at h
      split at h
      · rename_i v' r
        split at h
        · obtain ⟨rfl, rfl⟩ : v' = v ∧ Qak r = ws := by simpa using h
          exact ⟨hn _ (by simp), Qg1 r fun n hn' => hn n (by simp [hn'])⟩
        · cases h
      · cases h
    · cases h
  · cases h
theorem recE_ne {v : Int} {ws : Ws} (h : (QaC v ws).length ≠ 0) : QaG v ws = true := by
  cases hv : QaG v ws with
  | true => rfl
  | false => rw [Qds hv] at h; exact absurd rfl h
theorem Qk2 {ver : Int} {ws : Ws} (hf : QcD ver ws) (hv : QaG ver ws = true) {l : List ByteArray} {k : Nat} (hk : k < l.length) (h : (l.drop k).take (QaC ver ws).length = QaC ver ws) : Qbo l k = some (ver, ws, (QaC ver ws).length) := by
  have h1 := (rec_read hf hv hk h).1
  have hm := Qbh hf hv
  have hlen : (QaC ver ws).length = Qau (QbB ver ws) := by rw [QaU hv, QbA]
  have hle := congrArg List.length h
  simp only [List.length_take, List.length_drop] at hle
  unfold Qbo
  rw [h1]
  simp only
  rw [if_neg]
  rintro (q | q | q)
  · omega
  · omega
  · exact q h.symm
theorem Qdd {l : List ByteArray} {k : Nat} {v : Int} {ws : Ws} {n : Nat} (h : Qbo l k = some (v, ws, n)) : QcD v ws ∧ QaG v ws = true ∧ n = (QaC v ws).length ∧ 1 ≤ n ∧ k < l.length ∧ n ≤ l.length - k ∧ (l.drop k).take n = QaC v ws := by
  unfold Qbo at h
  split at h
  · cases h
  · rename_i v' ws' hd
    split at h
    · cases h
    · rename_i hn
      obtain ⟨rfl, rfl, rfl⟩ : v' = v ∧ ws' = ws ∧ (QaC v' ws').length = n := by simpa using h
      simp only [not_or, ne_eq, Classical.not_not, Nat.not_lt] at hn
      exact ⟨Qjq hd, recE_ne hn.1, rfl, by omega, by omega, hn.2.1, hn.2.2.symm⟩
end Go.Proofs.Ytfhmdlihnidjoaa
