/-
  Merged: WireF, WireG, WireH, WireI, WlA
-/
import Derived.Test.YtaclhiagfgmgkaaRows
import Derived.Test.YtaclhiagfgmgkaaPr2
import Derived.Test.YtaclhiagfgmgkaaPr3
import Derived.Lib.AppendStr
import Derived.Laws.AppendOwnNone
import Derived.Outline
import Derived.Laws.IdiomStrings
import Derived.Deep.QuietTactic
import Derived.BigQuiet
namespace Go.Proofs.Ytaclhiagfgmgkaa
set_option linter.unusedSectionVars false
set_option maxRecDepth 20000
open Go.ChangeShapes Go.WideShapes Go.ChangeAt Go.RowKit
def adS (l : List Nat) : Nat × Nat := l.foldl (fun p c => ((p.1 + c) % 65521, (p.2 + (p.1 + c) % 65521) % 65521)) (1, 0)
def adler (l : List Nat) : Nat := 65536 * (adS l).2 + (adS l).1
theorem adS_snoc (l : List Nat) (c : Nat) : adS (l ++ [c]) = (((adS l).1 + c) % 65521, ((adS l).2 + ((adS l).1 + c) % 65521) % 65521) := by simp [adS]
theorem adS_lt (l : List Nat) : (adS l).1 < 65521 ∧ (adS l).2 < 65521 := by
  rcases List.eq_nil_or_concat l with rfl | ⟨p, c, rfl⟩
  · simp [adS]
  · rw [List.concat_eq_append, adS_snoc]
    exact ⟨Nat.mod_lt _ (by decide), Nat.mod_lt _ (by decide)⟩
set_option maxHeartbeats 1600000 in
theorem sum_any (v : Value) (l : List Nat) (hl : ∀ b ∈ l, b < 256) (w : World) (hv : HasB w v l) : Calls Try.prog 31 #[v] w fun e w' => e = .returned (.int .i64 (adler l : Int)) ∧ w = w' := by
  obtain ⟨a, cap, rfl, hll, hc⟩ := hv
  have HC := Lib.hid hc
  have HL := Lib.hid hl
  clear hc hl
  obtain ⟨L, hL⟩ : ∃ L, L = l.length := ⟨_, rfl⟩
  rw [← hL] at HC hll ⊢
  have NL := Lib.hid hL
  clear hL
  go_enter Try.func31, Try.ntmps31
  go_wp2
  go_loop [3, 4, 9] (fun x y i => ∃ k : Nat, k ≤ L ∧ i = .int .i64 k ∧ x = .int .i64 (((adS (l.take k)).1 : Nat) : Int) ∧ y = .int .i64 (((adS (l.take k)).2 : Nat) : Int)) (fun _ _ i => L - (intOf i).toNat)
  case atStart => exact ⟨0, Nat.zero_le _, rfl, by simp [adS], by simp [adS]⟩
  case round =>
    obtain ⟨k, hk, rfl, rfl, rfl⟩ := hrel
    have hlt2 := adS_lt (l.take k)
    by_cases hlt : k < L
    · rcases HC.out with hc | ⟨b, o, rfl, hc⟩
      · omega
      have h1 := hc k hlt
      obtain ⟨c, hc'⟩ : ∃ c, c = l.getD k 0 := ⟨_, rfl⟩
      rw [← hc'] at h1
      have c256 : c < 256 := by
        rw [hc']; have hk' : k < l.length := by rw [← NL.out]; exact hlt
        rw [List.getD_eq_getElem?_getD, List.getElem?_eq_getElem hk']; exact HL.out _ (List.getElem_mem hk')
      have HS : Hid (adS (l.take (k + 1)) = (((adS (l.take k)).1 + c) % 65521, ((adS (l.take k)).2 + ((adS (l.take k)).1 + c) % 65521) % 65521)) := Lib.hid (by
        rw [take_snocB l k (by rw [← NL.out]; exact hlt), adS_snoc, ← hc'])
      obtain ⟨X, hX⟩ : ∃ X, X = (adS (l.take k)).1 := ⟨_, rfl⟩
      obtain ⟨Y, hY⟩ : ∃ Y, Y = (adS (l.take k)).2 := ⟨_, rfl⟩
      rw [← hX, ← hY] at HS hlt2
      rw [← hX, ← hY]
      obtain ⟨x1, y1⟩ := hlt2
      clear hX hY hc hc'
      go_wp2
      go_round
      case rel => exact ⟨k + 1, by omega, by go_num, by rw [HS.out]; first | rfl | (congr 1; simp only; omega), by rw [HS.out]; first | rfl | (congr 1; simp only; omega)⟩
      case measure => simp [intOf]; omega
    · obtain rfl : k = L := by omega
      have ht : l.take k = l := by rw [NL.out]; exact List.take_length
      rw [ht] at hlt2 ⊢
      obtain ⟨X, hX⟩ : ∃ X, X = (adS l).1 := ⟨_, rfl⟩
      obtain ⟨Y, hY⟩ : ∃ Y, Y = (adS l).2 := ⟨_, rfl⟩
      have HA : Hid ((adler l : Int) = 65536 * Y + X) := Lib.hid (by unfold adler; rw [hX, hY]; simp)
      rw [← hX, ← hY] at hlt2
      rw [← hX, ← hY]
      obtain ⟨x1, y1⟩ := hlt2
      clear hX hY
      go_wp2
      go_ret
      exact ⟨ret_int (by rw [HA.out]; omega), rfl⟩
theorem hasB_src {w : World} {a : Option Addr} {n cap : Nat} {l : List Nat} (h : HasB w (.slice a n cap) l) : l.length = n ∧ ((a = none ∧ n = 0 ∧ cap = 0) ∨ ∃ ad, a = some ad ∧ ∀ j u, (l.map bV)[j]? = some u → w.cell? (ad.add j) = some u) := by
  obtain ⟨a', cap', he, hl, h⟩ := h
  simp only [Value.slice.injEq] at he
  obtain ⟨rfl, rfl, rfl⟩ := he
  refine ⟨rfl, ?_⟩
  rcases h with h | ⟨b, o, rfl, h⟩
  · cases a with
    | none => exact Or.inl ⟨rfl, h, hl.2.2.2 rfl⟩
    | some ad => exact Or.inr ⟨ad, rfl, fun j u hu => by rw [List.length_eq_zero_iff.1 h] at hu; simp at hu⟩
  · refine Or.inr ⟨_, rfl, fun j u hu => ?_⟩
    have hj : j < l.length := by
      by_cases hj : j < l.length
      · exact hj
      · rw [List.getElem?_eq_none (by simpa using hj)] at hu; cases hu
    rw [List.getElem?_map, List.getElem?_eq_getElem hj] at hu
    simp at hu
    subst hu
    have := h j hj
    rw [List.getD_eq_getElem?_getD, List.getElem?_eq_getElem hj] at this
    simp only [Option.getD_some] at this
    rw [← this]
    congr 1
    unfold Addr.add
    split
    · rename_i h0; subst h0; rfl
    · rfl
theorem bV_one (l : List Nat) : ∀ u ∈ l.map bV, u.oneCell' = true := by
  intro u hu
  obtain ⟨b, _, rfl⟩ := List.mem_map.1 hu
  rfl
theorem cell_keep {w w' : World} {b o : Nat} {x : Value} (hb : Below w.heap.size w w') (h : w.cell? ⟨b, o, none⟩ = some x) : w'.cell? ⟨b, o, none⟩ = some x :=
  (hb.cell (p := ⟨b, o, none⟩) (World.block_lt_of_cell? w ⟨b, o, none⟩ h)).trans h
def bytesOf (s : ByteArray) : List Nat := s.data.toList.map fun b => b.toNat
theorem bytesOf_length (s : ByteArray) : (bytesOf s).length = s.size := by simp [bytesOf]
theorem strCells_eq (s : ByteArray) : Lib.strCells s = (bytesOf s).map bV := by simp [Lib.strCells, bytesOf, bV]
theorem own_join {w : World} {B : Nat} {v : Value} {l m : List Nat} {n : Nat} (hn : n = l.length + m.length) (h : w.ownsRow B 5 1 v n (l.map bV ++ m.map bV)) : OwnB w B v (l ++ m) := by
  unfold OwnB
  rw [List.length_append, List.map_append, ← hn]
  exact h
theorem own_addr {w : World} {B : Nat} {v : Value} {l : List Nat} (h : OwnB w B v l) (hl : 0 < l.length) : ∃ g c, v = .slice (some ⟨g, 0, none⟩) l.length c ∧ ∀ j u, (l.map bV)[j]? = some u → w.cell? ((⟨g, 0, none⟩ : Addr).add j) = some u := by
  have h0 : w.ownsRow B 5 1 v l.length (l.map bV) := h
  have h1 := h
  obtain ⟨_, h | ⟨g, cap, cur, rfl, _⟩⟩ := h
  · obtain ⟨_, h⟩ := h
    omega
  · exact ⟨g, cap, rfl, h0.cells (g := g) rfl⟩
theorem own_below {w w' : World} {B : Nat} {v : Value} {l : List Nat} (h : OwnB w B v l) (hb : Below w.heap.size w w') : OwnB w' B v l := by
  have hlt := World.ownsRow.lt h
  obtain ⟨h1, h2⟩ := h
  refine ⟨h1, ?_⟩
  rcases h2 with h2 | ⟨g, cap, cur, rfl, hB, hh, r⟩
  · exact Or.inl h2
  · exact Or.inr ⟨g, cap, cur, rfl, hB, (hb.block g (hlt g rfl).2).trans hh, r⟩
def numsB (l : List Int) : List Nat := enc (l.length : Int) ++ encs l
theorem encs_len (l : List Int) (h : ∀ n ∈ l, I64 n) : (encs l).length ≤ 10 * l.length := by
  induction l with
  | nil => simp [encs]
  | cons n l ih =>
    have h1 := ih (fun m hm => h m (List.mem_cons_of_mem _ hm))
    have h2 := enc_len (h n (by simp))
    have h3 : encs (n :: l) = enc n ++ encs l := by simp [encs]
    rw [h3, List.length_append, List.length_cons]; omega
set_option maxHeartbeats 1600000 in
theorem nums_any (v : Value) (l : List Int) (hl : ∀ n ∈ l, I64 n) (hlen : l.length ≤ 100000) (w : World) (hv : HasInts w v l) : Calls Try.prog 26 #[v] w fun e w' =>
    ∃ r, e = .returned r ∧ OwnB w' w.heap.size r (numsB l) ∧ Below w.heap.size w w' := by
  obtain ⟨i0, hi, hz0, hz1, hz2⟩ := info_parts info_u8
  have HL := Lib.hid hl
  obtain ⟨a, cap, rfl, hll, hc⟩ := hv
  have HC := Lib.hid hc
  obtain ⟨L, hL⟩ : ∃ L, L = l.length := ⟨_, rfl⟩
  rw [← hL] at hll HC hlen ⊢
  have NL := Lib.hid hL
  clear hL hl hc
  have HI : Hid (I64 (L : Int)) := Lib.hid (by unfold I64; omega)
  have HE := Lib.hid (enc_len HI.out)
  go_enter Try.func26, Try.ntmps26
  go_wp2_with fail
  ((with_reducible refine (put_any _ HI.out _).mono ?_); rintro e w1 ⟨v1, rfl, hv1, hb1⟩)
  have HO := Lib.hid hv1
  have HB := Lib.hid hb1
  clear hv1 hb1
  go_wp2
  go_loopw [3, 11] (fun v i wr => ∃ k : Nat, k ≤ L ∧ i = .int .i64 k ∧ OwnB wr w.heap.size v (enc (L : Int) ++ encs (l.take k)) ∧ Hid (Below w.heap.size w wr)) (fun _ i _ => L - (intOf i).toNat)
  case atStart => exact ⟨0, Nat.zero_le _, rfl, by simpa [encs] using HO.out, HB⟩
  case round =>
    obtain ⟨k, hk, rfl, hown, hbw⟩ := hrel
    have HOW := Lib.hid hown
    clear hown
    by_cases hlt : k < L
    · rcases HC.out with hc | ⟨b, o, rfl, hc⟩
      · omega
      have h0 := hc k hlt
      have h1 := cell_keep hbw.out h0
      obtain ⟨x, hx⟩ : ∃ x, x = l.getD k 0 := ⟨_, rfl⟩
      rw [← hx] at h1
      have hkl : k < l.length := by rw [← NL.out]; exact hlt
      have HX : Hid (I64 x) := Lib.hid (by rw [hx, List.getD_eq_getElem?_getD, List.getElem?_eq_getElem hkl]; exact HL.out _ (List.getElem_mem hkl))
      have HT : Hid (encs (l.take (k + 1)) = encs (l.take k) ++ enc x) := Lib.hid (by rw [take_snoc' l k hkl, encs_snoc, ← hx])
      have HEL : Hid ((enc (L : Int) ++ encs (l.take k)).length ≤ 10 + 10 * L) := Lib.hid (by
        have h2 := encs_len (l.take k) (fun n hn => HL.out n (List.mem_of_mem_take hn))
        rw [List.length_take] at h2
        have := HE.out
        rw [List.length_append]; omega)
      have HXL := Lib.hid (enc_len HX.out)
      have HXP := Lib.hid (enc_pos x)
      clear hc h0 hx hkl
      go_wp2_with fail
      ((with_reducible refine (put_any _ HX.out _).mono ?_); rintro e w3 ⟨v3, rfl, hv3, hb3⟩)
      obtain ⟨g3, c3, rfl, hc3⟩ := own_addr hv3 HXP.out
      have HB3 := Lib.hid (hbw.out.trans (hb3.mono hbw.out.size))
      have HO3 := Lib.hid (own_below HOW.out hb3)
      have HC3 := Lib.hid hc3
      clear hb3 hv3 hc3
      go_wp2_with (first
        | (at_builtin; refine wpList_append_own _ rfl _ _ 43 rfl w.heap.size 5 i0 (.int .u8 0) 1 1 Try.underlying43 hi hz0 hz1 hz2 rfl (by decide) _ _ _ rfl HO3.out ⟨g3, 0, none⟩ _ c3 _ rfl (by rw [List.length_map, Nat.mul_one]) HC3.out (bV_one _) (by have h1 := HEL.out; have h2 := HXL.out; unfold maxLen; omega) (by have h1 := HEL.out; have h2 := HXL.out; omega) HB3.out.size ?_; intro v' w4 hown' hgrow' _))
      have hb4 := Lib.hid (HB3.out.grown hgrow' HB3.out.size (fun j hj => (World.ownsRow.lt HO3.out j hj).1))
      have ho4 : OwnB w4 w.heap.size v' (enc (L : Int) ++ encs (l.take (k + 1))) := by
        rw [HT.out, ← List.append_assoc]; exact own_join rfl hown'
      clear hown' hgrow'
      go_roundw
      case rel => exact ⟨k + 1, by omega, by go_num, ho4, hb4⟩
      case measure => simp [intOf]; omega
    · obtain rfl : k = L := by omega
      have ht : l.take k = l := by rw [NL.out]; exact List.take_length
      go_wp2
      go_ret
      refine ⟨_, rfl, ?_, hbw.out⟩
      have h := HOW.out
      rw [ht] at h
      unfold numsB
      rw [← NL.out]
      exact h
end Go.Proofs.Ytaclhiagfgmgkaa

namespace Go.Proofs.Ytaclhiagfgmgkaa
set_option linter.unusedSectionVars false
set_option maxRecDepth 20000
open Go.ChangeShapes Go.WideShapes Go.ChangeAt Go.RowKit
def strOf (l : List Nat) : ByteArray := ⟨(l.map UInt8.ofNat).toArray⟩
theorem bytesOf_strOf (l : List Nat) (hl : ∀ b ∈ l, b < 256) : bytesOf (strOf l) = l := by
  unfold bytesOf strOf
  simp only [List.map_map]
  have : ∀ b ∈ l, ((fun b : UInt8 => b.toNat) ∘ UInt8.ofNat) b = b := fun b hb => by
    simp only [Function.comp]
    exact UInt8.toNat_ofNat_of_lt' (by have := hl b hb; simpa using this)
  rw [List.map_congr_left this]; simp
theorem strOf_bytesOf (s : ByteArray) : strOf (bytesOf s) = s := by
  unfold strOf bytesOf
  simp only [List.map_map]
  have : ∀ b ∈ s.data.toList, (UInt8.ofNat ∘ fun b : UInt8 => b.toNat) b = b := fun b _ => by simp [Function.comp]
  rw [List.map_congr_left this]; simp
theorem run_str {w : World} {a : Option Addr} {m cap : Nat} {l : List Nat} (hl : ∀ b ∈ l, b < 256) (h : HasB w (.slice a m cap) l) (n : Nat) :
    (convert 43 9 (.slice a m cap)).run Try.prog (w.drewN n) = .ok (.string (strOf l)) (w.drewN n) := by
  obtain ⟨hlen, hs⟩ := hasB_src h
  rcases hs with ⟨rfl, rfl, rfl⟩ | ⟨ad, rfl, hc⟩
  · rw [List.length_eq_zero_iff.1 hlen]
    rw [run_convert_bytes_string _ _ _ _ _ _ _ Try.underlying43 Try.underlying5 Try.underlying9]
    rfl
  · have h1 := run_convert_bytes_back (P := Try.prog) (w.drewN n) 43 9 5 ad cap (l.map UInt8.ofNat) Try.underlying43 Try.underlying5 Try.underlying9 (fun j hj => by
      have hj' : j < l.length := by simpa using hj
      have h2 := hc j (bV l[j]) (by simp [List.getElem?_eq_getElem hj'])
      show w.cell? (ad.add j) = _
      rw [h2, List.getElem_map]
      have := hl l[j] (List.getElem_mem hj')
      rw [UInt8.toNat_ofNat_of_lt' (by simpa using this)])
    rw [List.length_map, hlen] at h1
    exact h1
end Go.Proofs.Ytaclhiagfgmgkaa

namespace Go.Proofs.Ytaclhiagfgmgkaa
set_option linter.unusedSectionVars false
set_option maxRecDepth 20000
open Go.ChangeShapes Go.WideShapes Go.ChangeAt Go.RowKit
def decMany : Nat → List Nat → Option (List Int × Nat)
  | 0, _ => some ([], 0)
  | c + 1, l => match decMany c l with
    | none => none
    | some (ns, u) => match dec (l.drop u) with
      | none => none
      | some (n, k) => some (ns ++ [n], u + k)
def decNums (l : List Nat) : Option (List Int × Nat) := match dec l with
  | none => none
  | some (c, k) => if c < 0 then none else match decMany c.toNat (l.drop k) with
    | none => none
    | some (ns, u) => some (ns, k + u)
theorem decMany_none {j : Nat} {l : List Nat} (h : decMany j l = none) (i : Nat) : decMany (j + i) l = none := by
  induction i with
  | zero => exact h
  | succ i ih => rw [← Nat.add_assoc]; unfold decMany; rw [ih]
theorem decMany_used {j : Nat} {l : List Nat} {ns : List Int} {u : Nat} (hl : ∀ b ∈ l, b < 256) (h : decMany j l = some (ns, u)) : ns.length = j ∧ j ≤ u ∧ u ≤ l.length ∧ l.take u = encs ns ∧ ∀ n ∈ ns, I64 n := by
  induction j generalizing ns u with
  | zero => simp [decMany] at h; obtain ⟨rfl, rfl⟩ := h; simp [encs]
  | succ j ih =>
    unfold decMany at h
    split at h
    · cases h
    · rename_i ns' u' he
      split at h
      · cases h
      · rename_i n k hd
        simp at h
        obtain ⟨rfl, rfl⟩ := h
        obtain ⟨h1, h2, h3, h4, h5⟩ := ih he
        have hd2 := dec_some (fun b hb => hl b (List.mem_of_mem_drop hb)) hd
        rw [List.length_drop] at hd2
        refine ⟨by simp [h1], by omega, by omega, ?_, ?_⟩
        · rw [List.take_add, h4, hd2.2.1, encs_snoc]
        · intro m hm
          rcases List.mem_append.1 hm with hm | hm
          · exact h5 m hm
          · simp at hm; subst hm; exact hd2.1
theorem decMany_encs (ns : List Int) (hns : ∀ n ∈ ns, I64 n) (r : List Nat) : decMany ns.length (encs ns ++ r) = some (ns, (encs ns).length) := by
  rcases List.eq_nil_or_concat ns with rfl | ⟨p, n, rfl⟩
  · rfl
  · rw [List.concat_eq_append] at *
    have ih := decMany_encs p (fun m hm => hns m (by simp [hm])) (enc n ++ r)
    rw [List.length_append, encs_snoc, List.append_assoc]
    show decMany (p.length + 1) _ = _
    unfold decMany
    rw [ih]
    simp only
    rw [List.drop_left, dec_enc (hns n (by simp))]
    simp
termination_by ns.length
decreasing_by
  rename_i h
  have : ns = p ++ [n] := by simpa using h
  rw [this]; simp
set_option maxHeartbeats 1600000 in
theorem next_any (B0 B1 : Nat) (a : Option Addr) (L cap t : Nat) (l : List Nat) (hl : ∀ b ∈ l, b < 256) (w : World) (hv : HasB w (.slice a L cap) l) (h0 : w.cell? ⟨B0, 0, none⟩ = some (.slice a L cap))
    (h1 : w.cell? ⟨B1, 0, none⟩ = some (.int .i64 t)) (f1 : w.frozen? ⟨B1, 0, none⟩ = false) (ht : t ≤ L) (n : Int) (k : Nat) (E : Int) (ok : Bool)
    (hD : decV (l.drop t) = .tuple #[.int .i64 n, .int .i64 (k : Int), .int .i64 E]) (hok : (E == 0) = ok) (hk : t + k ≤ L) :
    Calls Try.prog 40 #[.pointer (some ⟨B0, 0, none⟩), .pointer (some ⟨B1, 0, none⟩)] w fun e w' =>
      e = .returned (.tuple #[.int .i64 n, .bool ok]) ∧ w'.cell? ⟨B1, 0, none⟩ = some (.int .i64 ((t + k : Nat) : Int)) ∧ w'.frozen? ⟨B1, 0, none⟩ = false ∧ w.grownBy w' (some B1) := by
  have HV := Lib.hid hv
  have HD := Lib.hid hD
  have hcap : L ≤ cap ∧ cap ≤ 9223372036854775807 := by
    obtain ⟨a', cap', he, hll, _⟩ := hv
    simp only [Value.slice.injEq] at he
    obtain ⟨rfl, rfl, rfl⟩ := he
    exact ⟨hll.2.1, hll.2.2.1⟩
  obtain ⟨c1, c2⟩ := hcap
  have HP : Hid (HasB w (.slice (if cap = t then a else a.map (·.add t)) (L - t) (cap - t)) (l.drop t)) := Lib.hid (hasB_drop hv ht)
  have HLP : Hid (∀ b ∈ l.drop t, b < 256) := Lib.hid (fun b hb => hl b (List.mem_of_mem_drop hb))
  clear hv hD hl
  have q1 : (t : Int) ≤ cap := by omega
  by_cases hc : cap = t
  · subst hc
    obtain rfl : L = cap := by omega
    simp only [if_true, Nat.sub_self] at HP
    go_enter Try.func40, Try.ntmps40
    go_wp2_with fail
    ((with_reducible refine (get_any _ (l.drop L) HLP.out _ HP.out).mono ?_); rintro e w' ⟨rfl, m, rfl⟩)
    rw [HD.out]
    go_wp2
    go_ret2
    refine ⟨rfl, ?_, ?_, ?_⟩
    · rw [Int.natCast_add]
      exact World.cell?_setCell_same _ _ _ h1
    · exact (World.frozen?_setCell _ _ _ _).trans f1
    · exact gb_set (show w.grownBy (w.drewN m) (some B1) from ⟨rfl, rfl, rfl, Nat.le_refl _, fun _ _ _ => rfl⟩) (Or.inl rfl) _
  · rw [if_neg hc] at HP
    go_enter Try.func40, Try.ntmps40
    go_wp2_with fail
    ((with_reducible refine (get_any _ (l.drop t) HLP.out _ HP.out).mono ?_); rintro e w' ⟨rfl, m, rfl⟩)
    rw [HD.out]
    go_wp2
    go_ret2
    refine ⟨rfl, ?_, ?_, ?_⟩
    · rw [Int.natCast_add]
      exact World.cell?_setCell_same _ _ _ h1
    · exact (World.frozen?_setCell _ _ _ _).trans f1
    · exact gb_set (show w.grownBy (w.drewN m) (some B1) from ⟨rfl, rfl, rfl, Nat.le_refl _, fun _ _ _ => rfl⟩) (Or.inl rfl) _
def NumsW (W : World) (l : List Nat) (e : Ending) (w' : World) : Prop :=
  Below W.heap.size W w' ∧ match decNums l with
  | none => e = .returned (.tuple #[.slice none 0 0, .int .i64 0, .int .i64 3])
  | some (ns, u) => ∃ v, e = .returned (.tuple #[v, .int .i64 (u : Int), .int .i64 0]) ∧ HasInts w' v ns ∧ ∀ g, v.ownBlock = some g → W.heap.size ≤ g
theorem after_next {W w2 w3 : World} {B1 : Nat} {b o : Nat} {x : Value} (hB : Below W.heap.size W w2) (hB1 : W.heap.size ≤ B1) (hg : w2.grownBy w3 (some B1)) (h0 : w2.cell? ⟨b, o, none⟩ = some x) (hne : b ≠ B1) :
    Below W.heap.size W w3 ∧ w3.cell? ⟨b, o, none⟩ = some x :=
  ⟨hB.grown hg hB.size (fun j hj => by have : B1 = j := by simpa using hj
                                       omega),
   (World.cell?_of_block (a := ⟨b, o, none⟩) (hg.block b (World.block_lt_of_cell? w2 ⟨b, o, none⟩ h0) (by simpa using hne))).trans h0⟩
set_option maxHeartbeats 4000000 in
theorem gnums_own (v : Value) (l : List Nat) (hl : ∀ b ∈ l, b < 256) (hlen : l.length ≤ 1000000) (w : World) (hv : HasB w v l) : Calls Try.prog 37 #[v] w (NumsW w l) := by
  obtain ⟨i0, hi, hz0, hz1, hz2⟩ := info_parts info_int
  have HV := Lib.hid hv
  have HL := Lib.hid hl
  obtain ⟨a, cap, rfl, hll, _⟩ := hv
  obtain ⟨L, hL⟩ : ∃ L, L = l.length := ⟨_, rfl⟩
  rw [← hL] at hll HV hlen ⊢
  have NL := Lib.hid hL
  clear hL hl hll
  cases hd : dec l with
  | none =>
    have HD : Hid (decV (l.drop 0) = .tuple #[.int .i64 0, .int .i64 ((0 : Nat) : Int), .int .i64 3]) := Lib.hid (by rw [List.drop_zero]; unfold decV; rw [hd]; rfl)
    have HN : Hid (decNums l = none) := Lib.hid (by unfold decNums; rw [hd])
    clear hd
    go_enter Try.func37, Try.ntmps37
    go_wp2_with fail
    have hw0 : Below w.heap.size w ((w.alloc (.cells #[.slice a L cap] 43)).alloc (.cells #[.int .i64 0] 3)) := ((Below.refl _ _).alloc (Nat.le_refl _) _).alloc (by simp) _
    have hc0 : ((w.alloc (.cells #[.slice a L cap] 43)).alloc (.cells #[.int .i64 0] 3)).cell? ⟨w.heap.size, 0, none⟩ = some (.slice a L cap) := cell_alloc _ (by rw [World.cell?_alloc_at _ _ _ _ rfl]; rfl)
    ((with_reducible refine (next_any w.heap.size (w.heap.size + 1) a L cap 0 l HL.out _ (hasB_keep HV.out hw0) hc0 (by rw [World.cell?_alloc_at _ _ _ _ (by simp)]; simp) (World.frozen?_alloc_at _ _ _ _ (by simp)) (Nat.zero_le _) _ _ _ false HD.out rfl (Nat.zero_le _)).mono ?_); rintro e w1 ⟨rfl, g1, f1, hg1⟩)
    have hA := after_next hw0 (by omega) hg1 hc0 (by omega)
    have HB1 := Lib.hid hA.1
    have g0 := hA.2
    have HS1 := hA.1.size
    clear hw0 hc0 hg1 hA
    go_wp2
    go_ret3
    refine ⟨HB1.out, ?_⟩
    rw [HN.out]
    rfl
  | some x =>
    obtain ⟨c, k⟩ := x
    have HD : Hid (decV (l.drop 0) = .tuple #[.int .i64 c, .int .i64 (k : Int), .int .i64 0]) := Lib.hid (by rw [List.drop_zero]; unfold decV; rw [hd])
    have hs := dec_some HL.out hd
    rw [← NL.out] at hs
    have hkL : 0 + k ≤ L := by omega
    have hci := hs.1
    unfold I64 at hci
    obtain ⟨hci1, hci2⟩ := hci
    have HKL : Hid (k ≤ L) := Lib.hid hs.2.2.2
    clear hs
    by_cases hneg : c < 0
    · have HN : Hid (decNums l = none) := Lib.hid (by unfold decNums; rw [hd]; simp only; rw [if_pos hneg])
      clear hd
      go_enter Try.func37, Try.ntmps37
      go_wp2_with fail
      have hw0 : Below w.heap.size w ((w.alloc (.cells #[.slice a L cap] 43)).alloc (.cells #[.int .i64 0] 3)) := ((Below.refl _ _).alloc (Nat.le_refl _) _).alloc (by simp) _
      have hc0 : ((w.alloc (.cells #[.slice a L cap] 43)).alloc (.cells #[.int .i64 0] 3)).cell? ⟨w.heap.size, 0, none⟩ = some (.slice a L cap) := cell_alloc _ (by rw [World.cell?_alloc_at _ _ _ _ rfl]; rfl)
      ((with_reducible refine (next_any w.heap.size (w.heap.size + 1) a L cap 0 l HL.out _ (hasB_keep HV.out hw0) hc0 (by rw [World.cell?_alloc_at _ _ _ _ (by simp)]; simp) (World.frozen?_alloc_at _ _ _ _ (by simp)) (Nat.zero_le _) _ _ _ true HD.out rfl hkL).mono ?_); rintro e w1 ⟨rfl, g1, f1, hg1⟩)
      have hA := after_next hw0 (by omega) hg1 hc0 (by omega)
      have HB1 := Lib.hid hA.1
      have g0 := hA.2
      have HS1 := hA.1.size
      clear hw0 hc0 hg1 hA
      go_wp2
      go_ret3
      refine ⟨HB1.out, ?_⟩
      rw [HN.out]
      rfl
    · obtain ⟨C, rfl⟩ := Int.eq_ofNat_of_zero_le (show 0 ≤ c by omega)
      have HN1 : Hid (decNums l = match decMany C (l.drop k) with | none => none | some (ns, u) => some (ns, k + u)) := Lib.hid (by
        unfold decNums; rw [hd]; simp only; rw [if_neg hneg]; rfl)
      clear hd hneg hci1 hci2
      by_cases hbig : (L : Int) - k < C
      · have HN : Hid (decNums l = none) := Lib.hid (by
          rw [HN1.out]
          cases hm : decMany C (l.drop k) with
          | none => rfl
          | some y =>
            obtain ⟨ns, u⟩ := y
            have h := decMany_used (fun b hb => HL.out b (List.mem_of_mem_drop hb)) hm
            rw [List.length_drop, ← NL.out] at h
            have := HKL.out
            omega)
        clear HN1
        go_enter Try.func37, Try.ntmps37
        go_wp2_with fail
        have hw0 : Below w.heap.size w ((w.alloc (.cells #[.slice a L cap] 43)).alloc (.cells #[.int .i64 0] 3)) := ((Below.refl _ _).alloc (Nat.le_refl _) _).alloc (by simp) _
        have hc0 : ((w.alloc (.cells #[.slice a L cap] 43)).alloc (.cells #[.int .i64 0] 3)).cell? ⟨w.heap.size, 0, none⟩ = some (.slice a L cap) := cell_alloc _ (by rw [World.cell?_alloc_at _ _ _ _ rfl]; rfl)
        ((with_reducible refine (next_any w.heap.size (w.heap.size + 1) a L cap 0 l HL.out _ (hasB_keep HV.out hw0) hc0 (by rw [World.cell?_alloc_at _ _ _ _ (by simp)]; simp) (World.frozen?_alloc_at _ _ _ _ (by simp)) (Nat.zero_le _) _ _ _ true HD.out rfl hkL).mono ?_); rintro e w1 ⟨rfl, g1, f1, hg1⟩)
        have hA := after_next hw0 (by omega) hg1 hc0 (by omega)
        have HB1 := Lib.hid hA.1
        have g0 := hA.2
        have HS1 := hA.1.size
        clear hw0 hc0 hg1 hA
        go_wp2
        go_ret3
        refine ⟨HB1.out, ?_⟩
        rw [HN.out]
        rfl
      · have hCL : C ≤ L := by have := HKL.out; omega
        have hbig' : (C : Int) ≤ (L : Int) - k := by omega
        clear hbig
        go_enter Try.func37, Try.ntmps37
        go_wp2_with fail
        have hw0 : Below w.heap.size w ((w.alloc (.cells #[.slice a L cap] 43)).alloc (.cells #[.int .i64 0] 3)) := ((Below.refl _ _).alloc (Nat.le_refl _) _).alloc (by simp) _
        have hc0 : ((w.alloc (.cells #[.slice a L cap] 43)).alloc (.cells #[.int .i64 0] 3)).cell? ⟨w.heap.size, 0, none⟩ = some (.slice a L cap) := cell_alloc _ (by rw [World.cell?_alloc_at _ _ _ _ rfl]; rfl)
        ((with_reducible refine (next_any w.heap.size (w.heap.size + 1) a L cap 0 l HL.out _ (hasB_keep HV.out hw0) hc0 (by rw [World.cell?_alloc_at _ _ _ _ (by simp)]; simp) (World.frozen?_alloc_at _ _ _ _ (by simp)) (Nat.zero_le _) _ _ _ true HD.out rfl hkL).mono ?_); rintro e w1 ⟨rfl, g1, f1, hg1⟩)
        have hA := after_next hw0 (by omega) hg1 hc0 (by omega)
        have HB1 := Lib.hid hA.1
        have g0 := hA.2
        have HS1 := hA.1.size
        clear hw0 hc0 hg1 hA
        go_wp2_with (first
          | (at_make; refine wpList_make_own _ rfl _ _ 49 rfl w1.heap.size 3 i0 (.int .i64 0) 1 Try.underlying49 hi hz0 hz1 _ _ _ C rfl rfl rfl (by rw [hz2]; omega) (by unfold maxLen; omega) (Nat.le_refl _) ?_; intro w2 hown2 hgrow2))
        have hlB1 : w.heap.size + 1 < w1.heap.size := World.block_lt_of_cell? w1 ⟨w.heap.size + 1, 0, none⟩ g1
        have hs2 : w1.heap.size ≤ w2.heap.size := hgrow2.size
        have hb2 : Hid (Below w.heap.size w w2) := Lib.hid (HB1.out.grown hgrow2 HB1.out.size (fun j hj => by cases hj))
        have e0 : w2.cell? ⟨w.heap.size, 0, none⟩ = some (.slice a L cap) := (World.cell?_of_block (a := ⟨w.heap.size, 0, none⟩) (hgrow2.block w.heap.size (by omega) (by simp))).trans g0
        have e1 : w2.cell? ⟨w.heap.size + 1, 0, none⟩ = some (.int .i64 ((k + 0 : Nat) : Int)) := (World.cell?_of_block (a := ⟨w.heap.size + 1, 0, none⟩) (hgrow2.block (w.heap.size + 1) hlB1 (by simp))).trans (by rw [g1, Nat.zero_add]; rfl)
        have e2 : w2.frozen? ⟨w.heap.size + 1, 0, none⟩ = false := (World.frozen?_of_block (a := ⟨w.heap.size + 1, 0, none⟩) (hgrow2.block (w.heap.size + 1) hlB1 (by simp))).trans f1
        have HO2 := Lib.hid hown2
        clear hown2 hgrow2 g0 g1 f1 hkL hbig'
        go_loopw [9, 35] (fun v i wr => ∃ (j : Nat) (ns : List Int) (u : Nat), j ≤ C ∧ i = .int .i64 j ∧ Hid (decMany j (l.drop k) = some (ns, u)) ∧ Hid (wr.ownsRow w1.heap.size 3 1 v j (ns.map (Value.int .i64))) ∧ Hid (Below w.heap.size w wr) ∧ wr.cell? ⟨w.heap.size, 0, none⟩ = some (.slice a L cap) ∧ wr.cell? ⟨w.heap.size + 1, 0, none⟩ = some (.int .i64 ((k + u : Nat) : Int)) ∧ wr.frozen? ⟨w.heap.size + 1, 0, none⟩ = false ∧ w1.heap.size ≤ wr.heap.size) (fun _ i _ => C - (intOf i).toNat)
        case atStart => exact ⟨0, [], 0, Nat.zero_le _, rfl, Lib.hid rfl, HO2, hb2, e0, e1, e2, hs2⟩
        case round =>
          obtain ⟨j, ns, u, hj, rfl, hdm, hown, hbw, m0, m1, m2, hsz⟩ := hrel
          have hU := decMany_used (fun b hb => HL.out b (List.mem_of_mem_drop hb)) hdm.out
          rw [List.length_drop, ← NL.out] at hU
          have hku : k + u ≤ L := by have := HKL.out; omega
          have HNL : Hid (ns.length = j) := Lib.hid hU.1
          clear hU
          by_cases hlt : j < C
          · cases hd2 : dec (l.drop (k + u)) with
            | none =>
              have HD2 : Hid (decV (l.drop (k + u)) = .tuple #[.int .i64 0, .int .i64 ((0 : Nat) : Int), .int .i64 3]) := Lib.hid (by unfold decV; rw [hd2]; rfl)
              have HN : Hid (decNums l = none) := Lib.hid (by
                rw [HN1.out]
                have h1 : decMany (j + 1) (l.drop k) = none := by unfold decMany; rw [hdm.out]; simp only; rw [List.drop_drop, hd2]
                have h2 := decMany_none h1 (C - (j + 1))
                rw [show j + 1 + (C - (j + 1)) = C by omega] at h2
                rw [h2])
              clear hd2
              go_wp2_with fail
              ((with_reducible refine (next_any w.heap.size (w.heap.size + 1) a L cap (k + u) l HL.out _ (hasB_keep HV.out hbw.out) m0 m1 m2 hku _ _ _ false HD2.out rfl (by omega)).mono ?_); rintro e w3 ⟨rfl, n1, n2, hg3⟩)
              have HB3 := Lib.hid (after_next hbw.out (by omega) hg3 m0 (by omega)).1
              clear hg3
              go_wp2
              go_ret3
              refine ⟨HB3.out, ?_⟩
              rw [HN.out]
              rfl
            | some y =>
              obtain ⟨n, k'⟩ := y
              have hs3 := dec_some (fun b hb => HL.out b (List.mem_of_mem_drop hb)) hd2
              rw [List.length_drop, ← NL.out] at hs3
              have hk' : k + u + k' ≤ L := by omega
              have HD2 : Hid (decV (l.drop (k + u)) = .tuple #[.int .i64 n, .int .i64 (k' : Int), .int .i64 0]) := Lib.hid (by unfold decV; rw [hd2])
              have HM : Hid (decMany (j + 1) (l.drop k) = some (ns ++ [n], u + k')) := Lib.hid (by unfold decMany; rw [hdm.out]; simp only; rw [List.drop_drop, hd2])
              clear hd2 hs3
              go_wp2_with fail
              ((with_reducible refine (next_any w.heap.size (w.heap.size + 1) a L cap (k + u) l HL.out _ (hasB_keep HV.out hbw.out) m0 m1 m2 hku _ _ _ true HD2.out rfl hk').mono ?_); rintro e w3 ⟨rfl, n1, n2, hg3⟩)
              have hA := after_next hbw.out (by omega) hg3 m0 (by omega)
              have HB3 := Lib.hid hA.1
              have n0 := hA.2
              have hs3 : wr.heap.size ≤ w3.heap.size := hg3.size
              have hblk : ∀ g, _ := fun g hg => (hown.out.lt g hg).1
              have HO3 := Lib.hid (hown.out.kept hg3 (Or.inr (fun hc => by have := hblk _ hc; omega)))
              clear hg3 hA hblk
              go_wp2_with (first
                | (at_builtin; refine wpList_append_own _ rfl _ _ 49 rfl w1.heap.size 3 i0 (.int .i64 0) 1 8 Try.underlying49 hi hz0 hz1 hz2 rfl (by decide) _ _ _ rfl (World.ownsRow.alloc HO3.out _) ⟨w3.heap.size, 0, none⟩ 1 1 [.int .i64 n] rfl rfl (fun j u hj => append_cell j u hj) (by intro u hu; simp at hu; subst hu; rfl) (by unfold maxLen; omega) (by omega) (by simp; omega) ?_; intro v' w4 hown' hgrow' _))
              have hne : ∀ b, b < w1.heap.size → some b ≠ Value.ownBlock _ := fun b hb hc => by
                have := (HO3.out.lt b hc.symm).1; omega
              have k0 : w4.cell? ⟨w.heap.size, 0, none⟩ = some (.slice a L cap) := (World.cell?_of_block (a := ⟨w.heap.size, 0, none⟩) (hgrow'.block w.heap.size (by simp; omega) (hne _ (by omega)))).trans (cell_alloc _ n0)
              have k1 : w4.cell? ⟨w.heap.size + 1, 0, none⟩ = some (.int .i64 ((k + (u + k') : Nat) : Int)) := (World.cell?_of_block (a := ⟨w.heap.size + 1, 0, none⟩) (hgrow'.block (w.heap.size + 1) (by simp; omega) (hne _ hlB1))).trans (cell_alloc _ (by rw [n1, Nat.add_assoc]))
              have k2 : w4.frozen? ⟨w.heap.size + 1, 0, none⟩ = false := (World.frozen?_of_block (a := ⟨w.heap.size + 1, 0, none⟩) (hgrow'.block (w.heap.size + 1) (by simp; omega) (hne _ hlB1))).trans (frozen_alloc _ (by omega) n2)
              have hs4 : w3.heap.size ≤ w4.heap.size := by have := hgrow'.size; simp at this; omega
              have HB4 := Lib.hid ((HB3.out.alloc HB3.out.size _).grown hgrow' (by have := HB3.out.size; simp; omega) (fun j hj => by have := (HO3.out.lt j hj).1; omega))
              have HO4 : Hid (w4.ownsRow w1.heap.size 3 1 v' (j + 1) ((ns ++ [n]).map (Value.int .i64))) := Lib.hid (by rw [List.map_append]; exact hown')
              clear hown' hgrow' hne
              go_roundw
              case rel => exact ⟨j + 1, ns ++ [n], u + k', by omega, by go_num, HM, HO4, HB4, k0, k1, k2, by omega⟩
              case measure => simp [intOf]; omega
          · obtain rfl : j = C := by omega
            have HN : Hid (decNums l = some (ns, k + u)) := Lib.hid (by rw [HN1.out, hdm.out])
            go_wp2
            go_quiet (fail)
            go_wp2
            go_ret3
            refine ⟨below_drewN hbw.out _, ?_⟩
            rw [HN.out]
            refine ⟨_, rfl, hasInts_drewN (hasInts_of_owns (B := w1.heap.size) ?_) _, fun g hg => ?_⟩
            · rw [HNL.out]
              exact hown.out
            · have q1 := (hown.out.lt g hg).1
              have q2 := HB1.out.size
              omega
end Go.Proofs.Ytaclhiagfgmgkaa

namespace Go.Proofs.Ytaclhiagfgmgkaa
set_option maxRecDepth 20000
set_option linter.unusedVariables false
set_option linter.unusedSectionVars false
open Go.ChangeShapes Go.WideShapes Go.ChangeAt Go.RowKit
theorem numsB_dec0 (l : List Int) (hl : ∀ n ∈ l, I64 n) (hlen : l.length ≤ 1000) (r : List Nat) : dec (numsB l ++ r) = some ((l.length : Int), (enc (l.length : Int)).length) := by
  unfold numsB
  rw [List.append_assoc]
  exact dec_enc (by unfold I64; omega) _
theorem numsB_byte (l : List Int) : ∀ b ∈ numsB l, b < 256 := by
  intro b hb
  unfold numsB encs at hb
  rcases List.mem_append.1 hb with h | h
  · exact enc_byte _ b h
  · obtain ⟨n, _, hn⟩ := List.mem_flatMap.1 h
    exact enc_byte n b hn
theorem numsB_len (l : List Int) (hl : ∀ n ∈ l, I64 n) (hlen : l.length ≤ 1000) : (numsB l).length ≤ 10 + 10 * l.length := by
  unfold numsB
  rw [List.length_append]
  have h1 := enc_len (n := (l.length : Int)) (by unfold I64; omega)
  have h2 := encs_len l hl
  omega
theorem numsB_pos (l : List Int) : 0 < (numsB l).length := by
  unfold numsB; rw [List.length_append]; have := enc_pos (l.length : Int); omega
end Go.Proofs.Ytaclhiagfgmgkaa

namespace Go.Proofs.Ytaclhiagfgmgkaa
set_option maxRecDepth 20000
set_option linter.unusedVariables false
set_option linter.unusedSectionVars false
set_option linter.unusedSimpArgs false
abbrev Ws := List (Int × Int)
def asc (last : Int) : Ws → Bool
  | [] => true
  | p :: r => decide (last < p.1) && asc p.1 r
def validB (ver : Int) (ws : Ws) : Bool := decide (1 ≤ ver) && decide (ver ≤ 1099511627776) && decide (ws.length ≤ 32) && asc (-1) ws
def numsE (ver : Int) (ws : Ws) : List Int := ver :: ws.flatMap fun p => [p.1, p.2]
def payE (ver : Int) (ws : Ws) : List Nat := numsB (numsE ver ws)
def le4 (n : Nat) : List Nat := [n % 256, n / 256 % 256, n / 65536 % 256, n / 16777216 % 256]
def padB (p : List Nat) : List Nat := p ++ List.replicate (27 - p.length) 0
def bodyB (f : Nat) (p : List Nat) : List Nat := f :: padB p
def sec (f : Nat) (p : List Nat) : List Nat := bodyB f p ++ le4 (adler (bodyB f p))
def secB (f : Nat) (p : List Nat) : ByteArray := strOf (sec f p)
def manyL (l : List Nat) : Nat := (l.length + 26) / 27
def partL (l : List Nat) (i : Nat) : List Nat := (l.drop (27 * i)).take 27
def recL (l : List Nat) : List ByteArray := (List.range (manyL l)).map fun i => secB (manyL l - 1 - i) (partL l i)
def recE (ver : Int) (ws : Ws) : List ByteArray := if validB ver ws then recL (payE ver ws) else []
def fitE (ver : Int) (ws : Ws) : Prop := I64 ver ∧ ∀ p ∈ ws, I64 p.1 ∧ I64 p.2
theorem numsE_len (ver : Int) (ws : Ws) : (numsE ver ws).length = 1 + 2 * ws.length := by
  have : (ws.flatMap fun p => [p.1, p.2]).length = 2 * ws.length := by
    induction ws with
    | nil => rfl
    | cons a r ih => simp only [List.flatMap_cons, List.length_append, ih, List.length_cons, List.length_nil]; omega
  simp [numsE, this]; omega
theorem numsE_fit {ver : Int} {ws : Ws} (h : fitE ver ws) : ∀ n ∈ numsE ver ws, I64 n := by
  intro n hn
  simp only [numsE, List.mem_cons, List.mem_flatMap, List.not_mem_nil, or_false] at hn
  rcases hn with rfl | ⟨p, hp, rfl | rfl⟩
  · exact h.1
  · exact (h.2 p hp).1
  · exact (h.2 p hp).2
theorem valid_len {ver : Int} {ws : Ws} (h : validB ver ws = true) : ws.length ≤ 32 := by
  simp [validB] at h; exact h.1.2
theorem valid_ver {ver : Int} {ws : Ws} (h : validB ver ws = true) : 1 ≤ ver ∧ ver ≤ 1099511627776 := by
  simp [validB] at h; exact h.1.1
theorem pay_byte (ver : Int) (ws : Ws) : ∀ b ∈ payE ver ws, b < 256 := numsB_byte _
theorem pay_pos (ver : Int) (ws : Ws) : 0 < (payE ver ws).length := numsB_pos _
theorem pay_len {ver : Int} {ws : Ws} (hf : fitE ver ws) (hv : validB ver ws = true) : (payE ver ws).length ≤ 660 := by
  have h1 := valid_len hv
  have h2 := numsE_len ver ws
  have := numsB_len (numsE ver ws) (numsE_fit hf) (by omega)
  unfold payE
  omega
theorem part_byte {l : List Nat} (hl : ∀ b ∈ l, b < 256) (i : Nat) : ∀ b ∈ partL l i, b < 256 := fun b hb => hl b (List.mem_of_mem_drop (List.mem_of_mem_take hb))
theorem part_len (l : List Nat) (i : Nat) : (partL l i).length = min 27 (l.length - 27 * i) := by simp [partL]
theorem part_le (l : List Nat) (i : Nat) : (partL l i).length ≤ 27 := by rw [part_len]; omega
theorem pad_len {p : List Nat} (h : p.length ≤ 27) : (padB p).length = 27 := by simp [padB]; omega
theorem body_len {f : Nat} {p : List Nat} (h : p.length ≤ 27) : (bodyB f p).length = 28 := by simp [bodyB, pad_len h]
theorem sec_len {f : Nat} {p : List Nat} (h : p.length ≤ 27) : (sec f p).length = 32 := by simp [sec, body_len h, le4]
theorem pad_byte {p : List Nat} (hp : ∀ b ∈ p, b < 256) : ∀ b ∈ padB p, b < 256 := by
  intro b hb
  simp only [padB, List.mem_append, List.mem_replicate] at hb
  rcases hb with hb | ⟨_, rfl⟩
  · exact hp b hb
  · omega
theorem body_byte {f : Nat} {p : List Nat} (hf : f < 256) (hp : ∀ b ∈ p, b < 256) : ∀ b ∈ bodyB f p, b < 256 := by
  intro b hb
  simp only [bodyB, List.mem_cons] at hb
  rcases hb with rfl | hb
  · exact hf
  · exact pad_byte hp b hb
theorem le4_byte (n : Nat) : ∀ b ∈ le4 n, b < 256 := by
  intro b hb
  simp only [le4, List.mem_cons, List.not_mem_nil, or_false] at hb
  rcases hb with rfl | rfl | rfl | rfl <;> omega
theorem sec_byte {f : Nat} {p : List Nat} (hf : f < 256) (hp : ∀ b ∈ p, b < 256) : ∀ b ∈ sec f p, b < 256 := by
  intro b hb
  simp only [sec, List.mem_append] at hb
  rcases hb with hb | hb
  · exact body_byte hf hp b hb
  · exact le4_byte _ b hb
theorem sec_bytes {f : Nat} {p : List Nat} (hf : f < 256) (hp : ∀ b ∈ p, b < 256) : bytesOf (secB f p) = sec f p := bytesOf_strOf _ (sec_byte hf hp)
theorem size_bytes (s : ByteArray) : s.size = (bytesOf s).length := (bytesOf_length s).symm
theorem sec_size {f : Nat} {p : List Nat} (hf : f < 256) (hp : ∀ b ∈ p, b < 256) (hl : p.length ≤ 27) : (secB f p).size = 32 := by
  rw [size_bytes, sec_bytes hf hp, sec_len hl]
def sct (s : ByteArray) : List Nat := ((bytesOf s).drop 1).take 27
theorem sct_sec {f : Nat} {p : List Nat} (hf : f < 256) (hp : ∀ b ∈ p, b < 256) (hl : p.length ≤ 27) : sct (secB f p) = padB p := by
  unfold sct
  rw [sec_bytes hf hp]
  show ((bodyB f p ++ le4 _).drop 1).take 27 = _
  show (padB p ++ le4 _).take 27 = _
  rw [List.take_append_of_le_length (by rw [pad_len hl]; exact Nat.le_refl _), List.take_of_length_le (by rw [pad_len hl]; exact Nat.le_refl _)]
theorem rep_add (a b : Nat) : List.replicate a 0 ++ List.replicate b 0 = (List.replicate (a + b) 0 : List Nat) := by simp
theorem parts_flat (l : List Nat) : ∀ n, ((List.range n).flatMap fun i => padB (partL l i)) = l.take (27 * n) ++ List.replicate (27 * n - l.length) 0
  | 0 => by simp
  | n + 1 => by
    rw [List.range_succ, List.flatMap_append, parts_flat l n]
    simp only [List.flatMap_cons, List.flatMap_nil, List.append_nil]
    unfold padB
    rw [part_len]
    rw [show 27 * (n + 1) = 27 * n + 27 by omega, List.take_add]
    show _ ++ (partL l n ++ _) = (_ ++ partL l n) ++ _
    by_cases h : l.length ≤ 27 * n
    · have e : partL l n = [] := List.length_eq_zero_iff.1 (by rw [part_len]; omega)
      rw [e, List.nil_append, List.append_nil, List.append_assoc, rep_add]
      congr 2
      omega
    · rw [show 27 * n - l.length = 0 by omega, List.replicate_zero, List.append_nil, List.append_assoc]
      congr 3
      omega
theorem many_ge (l : List Nat) : l.length ≤ 27 * manyL l := by unfold manyL; omega
theorem recL_len (l : List Nat) : (recL l).length = manyL l := by simp [recL]
theorem recL_at (l : List Nat) (i : Nat) (hi : i < manyL l) : (recL l).getD i ByteArray.empty = secB (manyL l - 1 - i) (partL l i) := by
  simp [recL, List.getD, hi]
theorem recL_flat (l : List Nat) (hl : ∀ b ∈ l, b < 256) (h : manyL l ≤ 256) : (recL l).flatMap sct = l ++ List.replicate (27 * manyL l - l.length) 0 := by
  unfold recL
  rw [List.flatMap_map]
  have e : (List.range (manyL l)).flatMap (fun i => sct (secB (manyL l - 1 - i) (partL l i))) = (List.range (manyL l)).flatMap fun i => padB (partL l i) := by
    rw [List.flatMap_def, List.flatMap_def]
    congr 1
    exact List.map_congr_left fun i hi => sct_sec (by rw [List.mem_range] at hi; omega) (part_byte hl i) (part_le l i)
  rw [e, parts_flat, List.take_of_length_le (many_ge l)]
theorem recE_many {ver : Int} {ws : Ws} (hf : fitE ver ws) (hv : validB ver ws = true) : 1 ≤ manyL (payE ver ws) ∧ manyL (payE ver ws) ≤ 25 := by
  have h1 := pay_len hf hv
  have h2 := pay_pos ver ws
  unfold manyL
  omega
theorem recE_valid {ver : Int} {ws : Ws} (hv : validB ver ws = true) : recE ver ws = recL (payE ver ws) := by unfold recE; rw [if_pos hv]
theorem recE_bad {ver : Int} {ws : Ws} (hv : validB ver ws = false) : recE ver ws = [] := by unfold recE; rw [hv]; rfl
theorem recE_sizes {ver : Int} {ws : Ws} (hf : fitE ver ws) : ∀ s ∈ recE ver ws, s.size = 32 := by
  intro s hs
  cases hv : validB ver ws with
  | false => rw [recE_bad hv] at hs; cases hs
  | true =>
    rw [recE_valid hv] at hs
    simp only [recL, List.mem_map, List.mem_range] at hs
    obtain ⟨i, hi, rfl⟩ := hs
    have := recE_many hf hv
    exact sec_size (by omega) (part_byte (pay_byte ver ws) i) (part_le _ i)
def pairsL : List Int → Ws
  | a :: b :: r => (a, b) :: pairsL r
  | _ => []
theorem pairs_nums (ws : Ws) : pairsL (ws.flatMap fun p => [p.1, p.2]) = ws := by
  induction ws with
  | nil => rfl
  | cons a r ih => simp [pairsL, ih]
def ofNums : List Int → Option (Int × Ws)
  | v :: r => if r.length % 2 = 0 then some (v, pairsL r) else none
  | [] => none
theorem ofNums_E (ver : Int) (ws : Ws) : ofNums (numsE ver ws) = some (ver, ws) := by
  have h := numsE_len ver ws
  unfold numsE at h ⊢
  simp only [List.length_cons] at h
  show (if (ws.flatMap fun p => [p.1, p.2]).length % 2 = 0 then some (ver, pairsL (ws.flatMap fun p => [p.1, p.2])) else none) = _
  rw [if_pos (by omega), pairs_nums]
def firstB (s : ByteArray) : Nat := (bytesOf s).getD 0 0
def decS (l : List ByteArray) (k : Nat) : Option (Int × Ws) :=
  if l.length ≤ k then none else if (l.getD k ByteArray.empty).size = 0 then none else
  if l.length - k ≤ firstB (l.getD k ByteArray.empty) then none else
  if ((l.drop k).take (firstB (l.getD k ByteArray.empty) + 1)).all (fun s => decide (s.size = 32)) then
    match decNums (((l.drop k).take (firstB (l.getD k ByteArray.empty) + 1)).flatMap sct) with
    | some (ns, _) => ofNums ns
    | none => none
  else none
def parseS (l : List ByteArray) (k : Nat) : Option (Int × Ws × Nat) := match decS l k with
  | none => none
  | some (v, ws) => if (recE v ws).length = 0 ∨ l.length - k < (recE v ws).length ∨ recE v ws ≠ (l.drop k).take (recE v ws).length then none else some (v, ws, (recE v ws).length)
def secOr (s : ByteArray) : List Nat := if s.size = 32 then sct s else []
def gueS (l : List ByteArray) (k : Nat) : Int × Ws × Nat :=
  if l.length ≤ k then (0, [], 0) else if (l.getD k ByteArray.empty).size = 32 then
    match decNums (((l.drop k).take (firstB (l.getD k ByteArray.empty) + 1)).flatMap secOr) with
    | some (n :: r, _) => (n, pairsL r, firstB (l.getD k ByteArray.empty) + 1)
    | _ => (0, [], 0)
  else (0, [], 0)
theorem drop_get {l : List ByteArray} {k : Nat} (hk : k < l.length) (r : List ByteArray) (n : Nat) (h : (l.drop k).take n = r) (hr : 0 < r.length) : l.getD k ByteArray.empty = r.getD 0 ByteArray.empty := by
  subst h
  have hn : 0 < n := by rcases Nat.eq_zero_or_pos n with h | h; · subst h; simp at hr
                        · exact h
  simp [List.getD, List.getElem?_take, List.getElem?_drop, hn]
theorem nums_back {ver : Int} {ws : Ws} (hf : fitE ver ws) (hv : validB ver ws = true) (r : List Nat) : ∃ u, decNums (payE ver ws ++ r) = some (numsE ver ws, u) := by
  have hl := valid_len hv
  have hn := numsE_len ver ws
  have h1 := numsB_dec0 (numsE ver ws) (numsE_fit hf) (by omega) r
  unfold decNums payE
  rw [h1]
  simp only
  rw [if_neg (by omega)]
  unfold numsB
  rw [List.append_assoc, List.drop_left, Int.toNat_natCast, decMany_encs _ (numsE_fit hf)]
  exact ⟨_, rfl⟩
theorem rec_read {ver : Int} {ws : Ws} (hf : fitE ver ws) (hv : validB ver ws = true) {l : List ByteArray} {k : Nat} (hk : k < l.length) (h : (l.drop k).take (recE ver ws).length = recE ver ws) :
    decS l k = some (ver, ws) ∧ gueS l k = (ver, ws, (recE ver ws).length) := by
  have hm := recE_many hf hv
  have hlen : (recE ver ws).length = manyL (payE ver ws) := by rw [recE_valid hv, recL_len]
  have hsz := recE_sizes hf
  have e0 : l.getD k ByteArray.empty = secB (manyL (payE ver ws) - 1) (partL (payE ver ws) 0) := by
    rw [drop_get hk _ _ h (by omega), recE_valid hv, recL_at _ _ (by omega)]
    rfl
  have s0 : (l.getD k ByteArray.empty).size = 32 := by rw [e0]; exact sec_size (by omega) (part_byte (pay_byte _ _) _) (part_le _ _)
  have f0 : firstB (l.getD k ByteArray.empty) + 1 = (recE ver ws).length := by
    rw [e0]
    unfold firstB
    rw [sec_bytes (by omega) (part_byte (pay_byte _ _) _), hlen]
    show manyL (payE ver ws) - 1 + 1 = _
    omega
  have hle : (recE ver ws).length ≤ l.length - k := by
    have := congrArg List.length h
    simp only [List.length_take, List.length_drop] at this
    omega
  have hfl : (recE ver ws).flatMap sct = payE ver ws ++ List.replicate (27 * manyL (payE ver ws) - (payE ver ws).length) 0 := by
    rw [recE_valid hv]; exact recL_flat _ (pay_byte _ _) (by omega)
  obtain ⟨u, hu⟩ := nums_back hf hv (List.replicate (27 * manyL (payE ver ws) - (payE ver ws).length) 0)
  constructor
  · unfold decS
    rw [if_neg (by omega), if_neg (by omega), if_neg (by omega), f0, h, if_pos (by simp only [List.all_eq_true, decide_eq_true_eq]; exact hsz), hfl, hu]
    exact ofNums_E ver ws
  · unfold gueS
    have e2 : (recE ver ws).flatMap secOr = (recE ver ws).flatMap sct := by
      rw [List.flatMap_def, List.flatMap_def]
      congr 1
      exact List.map_congr_left fun s hs => by unfold secOr; rw [if_pos (hsz s hs)]
    rw [if_neg (by omega), if_pos s0, f0, h, e2, hfl, hu]
    show (ver, pairsL _, _) = _
    rw [pairs_nums]
theorem sct_byte (s : ByteArray) : ∀ b ∈ sct s, b < 256 := by
  intro b hb
  have := List.mem_of_mem_drop (List.mem_of_mem_take hb)
  simp only [bytesOf, List.mem_map] at this
  obtain ⟨c, _, rfl⟩ := this
  exact c.toNat_lt
theorem flat_byte (l : List ByteArray) : ∀ b ∈ l.flatMap sct, b < 256 := by
  intro b hb
  obtain ⟨s, _, h⟩ := List.mem_flatMap.1 hb
  exact sct_byte s b h
theorem decNums_fit {l : List Nat} {ns : List Int} {u : Nat} (hl : ∀ b ∈ l, b < 256) (h : decNums l = some (ns, u)) : ∀ n ∈ ns, I64 n := by
  unfold decNums at h
  split at h
  · cases h
  · rename_i c k hd
    split at h
    · cases h
    · split at h
      · cases h
      · rename_i ns' u' hm
        obtain ⟨rfl, rfl⟩ : ns' = ns ∧ k + u' = u := by simpa using h
        exact (decMany_used (fun b hb => hl b (List.mem_of_mem_drop hb)) hm).2.2.2.2
theorem pairs_fit : ∀ (r : List Int), (∀ n ∈ r, I64 n) → ∀ p ∈ pairsL r, I64 p.1 ∧ I64 p.2
  | [], _, p, hp => by simp [pairsL] at hp
  | [a], _, p, hp => by simp [pairsL] at hp
  | a :: b :: r, h, p, hp => by
    simp only [pairsL, List.mem_cons] at hp
    rcases hp with rfl | hp
    · exact ⟨h a (by simp), h b (by simp)⟩
    · exact pairs_fit r (fun n hn => h n (by simp [hn])) p hp
theorem decS_fit {l : List ByteArray} {k : Nat} {v : Int} {ws : Ws} (h : decS l k = some (v, ws)) : fitE v ws := by
  unfold decS at h
  split at h; · cases h
  split at h; · cases h
  split at h; · cases h
  split at h
  · split at h
    · rename_i ns u hd
      have hn := decNums_fit (flat_byte _) hd
      unfold ofNums at h
      split at h
      · rename_i v' r
        split at h
        · obtain ⟨rfl, rfl⟩ : v' = v ∧ pairsL r = ws := by simpa using h
          exact ⟨hn _ (by simp), pairs_fit r fun n hn' => hn n (by simp [hn'])⟩
        · cases h
      · cases h
    · cases h
  · cases h
theorem recE_ne {v : Int} {ws : Ws} (h : (recE v ws).length ≠ 0) : validB v ws = true := by
  cases hv : validB v ws with
  | true => rfl
  | false => rw [recE_bad hv] at h; exact absurd rfl h
theorem rec_parse {ver : Int} {ws : Ws} (hf : fitE ver ws) (hv : validB ver ws = true) {l : List ByteArray} {k : Nat} (hk : k < l.length) (h : (l.drop k).take (recE ver ws).length = recE ver ws) : parseS l k = some (ver, ws, (recE ver ws).length) := by
  have h1 := (rec_read hf hv hk h).1
  have hm := recE_many hf hv
  have hlen : (recE ver ws).length = manyL (payE ver ws) := by rw [recE_valid hv, recL_len]
  have hle := congrArg List.length h
  simp only [List.length_take, List.length_drop] at hle
  unfold parseS
  rw [h1]
  simp only
  rw [if_neg]
  rintro (q | q | q)
  · omega
  · omega
  · exact q h.symm
theorem parse_rec {l : List ByteArray} {k : Nat} {v : Int} {ws : Ws} {n : Nat} (h : parseS l k = some (v, ws, n)) : fitE v ws ∧ validB v ws = true ∧ n = (recE v ws).length ∧ 1 ≤ n ∧ k < l.length ∧ n ≤ l.length - k ∧ (l.drop k).take n = recE v ws := by
  unfold parseS at h
  split at h
  · cases h
  · rename_i v' ws' hd
    split at h
    · cases h
    · rename_i hn
      obtain ⟨rfl, rfl, rfl⟩ : v' = v ∧ ws' = ws ∧ (recE v' ws').length = n := by simpa using h
      simp only [not_or, ne_eq, Classical.not_not, Nat.not_lt] at hn
      exact ⟨decS_fit hd, recE_ne hn.1, rfl, by omega, by omega, hn.2.1, hn.2.2.symm⟩
end Go.Proofs.Ytaclhiagfgmgkaa
