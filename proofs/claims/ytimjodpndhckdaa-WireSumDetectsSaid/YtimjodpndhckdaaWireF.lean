
/-
  Layer 3: checksums, and what is put together by append.
-/
import Derived.Test.YtimjodpndhckdaaRows
import Derived.Test.YtimjodpndhckdaaBase
import Derived.Test.YtimjodpndhckdaaWirePlain
import Derived.Test.YtimjodpndhckdaaWireA
import Derived.Test.YtimjodpndhckdaaWireB
import Derived.Test.YtimjodpndhckdaaWireC
import Derived.Lib.AppendStr
import Derived.Laws.AppendOwnNone
import Derived.Outline
namespace Go.Proofs.Ytimjodpndhckdaa
set_option maxRecDepth 20000
open Go.ChangeShapes Go.WideShapes Go.ChangeAt Go.RowKit

/-- The two sums after a list of bytes. -/
def adS (l : List Nat) : Nat × Nat := l.foldl (fun p c => ((p.1 + c) % 65521, (p.2 + (p.1 + c) % 65521) % 65521)) (1, 0)
def adler (l : List Nat) : Nat := 65536 * (adS l).2 + (adS l).1
theorem adS_snoc (l : List Nat) (c : Nat) : adS (l ++ [c]) = (((adS l).1 + c) % 65521, ((adS l).2 + ((adS l).1 + c) % 65521) % 65521) := by simp [adS]
theorem adS_lt (l : List Nat) : (adS l).1 < 65521 ∧ (adS l).2 < 65521 := by
  rcases List.eq_nil_or_concat l with rfl | ⟨p, c, rfl⟩
  · simp [adS]
  · rw [List.concat_eq_append, adS_snoc]
    exact ⟨Nat.mod_lt _ (by decide), Nat.mod_lt _ (by decide)⟩
theorem adler_i64 (l : List Nat) : I64 (adler l : Int) := by
  have := adS_lt l
  unfold I64 adler; omega

set_option maxHeartbeats 1600000 in
theorem sum_any (v : Value) (l : List Nat) (hl : ∀ b ∈ l, b < 256) (w : World) (hv : HasB w v l) : Calls Try.prog 20 #[v] w fun e w' => e = .returned (.int .i64 (adler l : Int)) ∧ w = w' := by
  obtain ⟨a, cap, rfl, hll, hc⟩ := hv
  have HC := Lib.hid hc
  have HL := Lib.hid hl
  clear hc hl
  obtain ⟨L, hL⟩ : ∃ L, L = l.length := ⟨_, rfl⟩
  rw [← hL] at HC hll ⊢
  have NL := Lib.hid hL
  clear hL
  go_enter Try.func20, Try.ntmps20
  go_wp2
  go_loop [3, 4, 9] (fun x y i => ∃ k : Nat, k ≤ L ∧ i = .int .i64 k ∧ x = .int .i64 (((adS (l.take k)).1 : Nat) : Int) ∧ y = .int .i64 (((adS (l.take k)).2 : Nat) : Int)) (fun _ _ i => L - (intOf i).toNat)
  case atStart => exact ⟨0, Nat.zero_le _, rfl, by simp [adS], by simp [adS]⟩
  case round =>
    obtain ⟨k, hk, rfl, rfl, rfl⟩ := hrel
    have hlt2 := adS_lt (l.take k)
    by_cases hlt : k < L
    · rcases HC.out with hc | ⟨b, o, rfl, hc⟩
      · omega
      have h1 := hc k hlt
      obtain ⟨c, hc'⟩ : ∃ c, c = l.getD k 0 := ⟨_, rfl⟩
      rw [← hc'] at h1
      have c256 : c < 256 := by
        rw [hc']; have hk' : k < l.length := by rw [← NL.out]; exact hlt
        rw [List.getD_eq_getElem?_getD, List.getElem?_eq_getElem hk']; exact HL.out _ (List.getElem_mem hk')
      have HS : Hid (adS (l.take (k + 1)) = (((adS (l.take k)).1 + c) % 65521, ((adS (l.take k)).2 + ((adS (l.take k)).1 + c) % 65521) % 65521)) := Lib.hid (by
        rw [take_snocB l k (by rw [← NL.out]; exact hlt), adS_snoc, ← hc'])
      obtain ⟨X, hX⟩ : ∃ X, X = (adS (l.take k)).1 := ⟨_, rfl⟩
      obtain ⟨Y, hY⟩ : ∃ Y, Y = (adS (l.take k)).2 := ⟨_, rfl⟩
      rw [← hX, ← hY] at HS hlt2
      rw [← hX, ← hY]
      obtain ⟨x1, y1⟩ := hlt2
      clear hX hY hc hc'
      go_wp2
      go_round
      case rel => exact ⟨k + 1, by omega, by go_num, by rw [HS.out]; first | rfl | (congr 1; simp only; omega), by rw [HS.out]; first | rfl | (congr 1; simp only; omega)⟩
      case measure => simp [intOf]; omega
    · obtain rfl : k = L := by omega
      have ht : l.take k = l := by rw [NL.out]; exact List.take_length
      rw [ht] at hlt2 ⊢
      obtain ⟨X, hX⟩ : ∃ X, X = (adS l).1 := ⟨_, rfl⟩
      obtain ⟨Y, hY⟩ : ∃ Y, Y = (adS l).2 := ⟨_, rfl⟩
      have HA : Hid ((adler l : Int) = 65536 * Y + X) := Lib.hid (by unfold adler; rw [hX, hY]; simp)
      rw [← hX, ← hY] at hlt2
      rw [← hX, ← hY]
      obtain ⟨x1, y1⟩ := hlt2
      clear hX hY
      go_wp2
      go_ret
      exact ⟨ret_int (by rw [HA.out]; omega), rfl⟩

/-- The source of an append: nil and empty, or some address at which the cells lie. -/
theorem hasB_src {w : World} {a : Option Addr} {n cap : Nat} {l : List Nat} (h : HasB w (.slice a n cap) l) : l.length = n ∧ ((a = none ∧ n = 0 ∧ cap = 0) ∨ ∃ ad, a = some ad ∧ ∀ j u, (l.map bV)[j]? = some u → w.cell? (ad.add j) = some u) := by
  obtain ⟨a', cap', he, hl, h⟩ := h
  simp only [Value.slice.injEq] at he
  obtain ⟨rfl, rfl, rfl⟩ := he
  refine ⟨rfl, ?_⟩
  rcases h with h | ⟨b, o, rfl, h⟩
  · cases a with
    | none => exact Or.inl ⟨rfl, h, hl.2.2.2 rfl⟩
    | some ad => exact Or.inr ⟨ad, rfl, fun j u hu => by rw [List.length_eq_zero_iff.1 h] at hu; simp at hu⟩
  · refine Or.inr ⟨_, rfl, fun j u hu => ?_⟩
    have hj : j < l.length := by
      by_cases hj : j < l.length
      · exact hj
      · rw [List.getElem?_eq_none (by simpa using hj)] at hu; cases hu
    rw [List.getElem?_map, List.getElem?_eq_getElem hj] at hu
    simp at hu
    subst hu
    have := h j hj
    rw [List.getD_eq_getElem?_getD, List.getElem?_eq_getElem hj] at this
    simp only [Option.getD_some] at this
    rw [← this]
    congr 1
    unfold Addr.add
    split
    · rename_i h0; subst h0; rfl
    · rfl
theorem bV_one (l : List Nat) : ∀ u ∈ l.map bV, u.oneCell' = true := by
  intro u hu
  obtain ⟨b, _, rfl⟩ := List.mem_map.1 hu
  rfl
theorem cell_keep {w w' : World} {b o : Nat} {x : Value} (hb : Below w.heap.size w w') (h : w.cell? ⟨b, o, none⟩ = some x) : w'.cell? ⟨b, o, none⟩ = some x :=
  (hb.cell (p := ⟨b, o, none⟩) (World.block_lt_of_cell? w ⟨b, o, none⟩ h)).trans h
theorem own_bound {w : World} {B : Nat} {v : Value} {l : List Nat} (h : OwnB w B v l) : ∃ a c, v = .slice a l.length c := owns_slice h

/-- The bytes of a string. -/
def bytesOf (s : ByteArray) : List Nat := s.data.toList.map fun b => b.toNat
theorem bytesOf_length (s : ByteArray) : (bytesOf s).length = s.size := by simp [bytesOf]
theorem strCells_eq (s : ByteArray) : Lib.strCells s = (bytesOf s).map bV := by simp [Lib.strCells, bytesOf, bV]
def txt (s : ByteArray) : List Nat := enc s.size ++ bytesOf s

set_option maxHeartbeats 800000 in
theorem text_any (s : ByteArray) (hs : s.size ≤ 1000000) (w : World) : Calls Try.prog 53 #[.string s] w fun e w' =>
    ∃ v, e = .returned v ∧ OwnB w' w.heap.size v (txt s) ∧ Below w.heap.size w w' := by
  obtain ⟨i0, hi, hz0, hz1, hz2⟩ := info_parts info_u8
  have HE := Lib.hid (enc_len (n := (s.size : Int)) (by unfold I64; omega))
  have HI : Hid (I64 (s.size : Int)) := Lib.hid (by unfold I64; omega)
  go_enter Try.func53, Try.ntmps53
  go_wp2_with fail
  ((with_reducible refine (put_any _ HI.out _).mono ?_); rintro e w1 ⟨v, rfl, hv, hb⟩)
  have HO := Lib.hid hv
  have HB := Lib.hid hb
  clear hv hb
  go_wp2_with (first
    | (at_builtin; refine Lib.wpList_append_own_string _ rfl _ _ 42 9 rfl w.heap.size 5 i0 Try.underlying42 Try.underlying9 hi hz0 hz1 hz2 _ _ _ rfl HO.out s rfl (by have := HE.out; unfold maxLen; omega) (by have := HE.out; omega) HB.out.size ?_; intro v' w4 hown' hgrow' _))
  go_ret
  refine ⟨v', rfl, ?_, ?_⟩
  · unfold OwnB txt
    rw [List.length_append, List.map_append, bytesOf_length, ← strCells_eq]
    exact hown'
  · exact HB.out.grown hgrow' HB.out.size (fun j hj => (HO.out.lt j hj).1)


def sealB (l : List Nat) : List Nat := enc (l.length : Int) ++ l ++ enc (adler l : Int)

/-- Behind an append of a row of the call's own to another one. -/
theorem own_join {w : World} {B : Nat} {v : Value} {l m : List Nat} {n : Nat} (hn : n = l.length + m.length) (h : w.ownsRow B 5 1 v n (l.map bV ++ m.map bV)) : OwnB w B v (l ++ m) := by
  unfold OwnB
  rw [List.length_append, List.map_append, ← hn]
  exact h
/-- An own row that is not empty has an address. -/
theorem own_addr {w : World} {B : Nat} {v : Value} {l : List Nat} (h : OwnB w B v l) (hl : 0 < l.length) : ∃ g c, v = .slice (some ⟨g, 0, none⟩) l.length c ∧ ∀ j u, (l.map bV)[j]? = some u → w.cell? ((⟨g, 0, none⟩ : Addr).add j) = some u := by
  have h0 : w.ownsRow B 5 1 v l.length (l.map bV) := h
  have h1 := h
  obtain ⟨_, h | ⟨g, cap, cur, rfl, _⟩⟩ := h
  · obtain ⟨_, h⟩ := h
    omega
  · exact ⟨g, cap, rfl, h0.cells (g := g) rfl⟩

theorem own_below {w w' : World} {B : Nat} {v : Value} {l : List Nat} (h : OwnB w B v l) (hb : Below w.heap.size w w') : OwnB w' B v l := by
  have hlt := World.ownsRow.lt h
  obtain ⟨h1, h2⟩ := h
  refine ⟨h1, ?_⟩
  rcases h2 with h2 | ⟨g, cap, cur, rfl, hB, hh, r⟩
  · exact Or.inl h2
  · exact Or.inr ⟨g, cap, cur, rfl, hB, (hb.block g (hlt g rfl).2).trans hh, r⟩

set_option maxHeartbeats 1600000 in
theorem seal_any (v : Value) (l : List Nat) (hl : ∀ b ∈ l, b < 256) (hlen : l.length ≤ 1000000) (w : World) (hv : HasB w v l) : Calls Try.prog 21 #[v] w fun e w' =>
    ∃ r, e = .returned r ∧ OwnB w' w.heap.size r (sealB l) ∧ Below w.heap.size w w' := by
  obtain ⟨i0, hi, hz0, hz1, hz2⟩ := info_parts info_u8
  have HV := Lib.hid hv
  have HL := Lib.hid hl
  obtain ⟨a, cap, rfl, hll, _⟩ := hv
  obtain ⟨L, hL⟩ : ∃ L, L = l.length := ⟨_, rfl⟩
  rw [← hL] at hll HV hlen ⊢
  have NL := Lib.hid hL
  clear hL hl
  have HI : Hid (I64 (L : Int)) := Lib.hid (by unfold I64; omega)
  have HE := Lib.hid (enc_len HI.out)
  have HS := Lib.hid (enc_len (adler_i64 l))
  have HSP := Lib.hid (enc_pos (adler l : Int))
  have HM : Hid (sealB l = enc (L : Int) ++ l ++ enc (adler l : Int)) := Lib.hid (by unfold sealB; rw [NL.out])
  rcases (hasB_src HV.out).2 with ⟨rfl, hz, rfl⟩ | ⟨ad, rfl, hcells⟩
  · obtain rfl : L = 0 := hz
    have HM2 : Hid (sealB l = enc ((0 : Nat) : Int) ++ enc (adler l : Int)) := Lib.hid (by rw [HM.out, List.length_eq_zero_iff.1 NL.out.symm]; simp)
    go_enter Try.func21, Try.ntmps21
    rw [show ((0 : Nat) : Int) = (0 : Int) from rfl] at HI HE HM2
    go_wp2_with fail
    ((with_reducible refine (put_any _ HI.out _).mono ?_); rintro e w1 ⟨v1, rfl, hv1, hb1⟩)
    have HO := Lib.hid hv1
    have HB := Lib.hid hb1
    clear hv1 hb1
    go_wp2_with (first
      | (at_builtin; refine wpList_append_own_none rfl _ _ 42 rfl w.heap.size 5 i0 1 Try.underlying42 hi v1 _ _ rfl HO.out rfl ?_)
      | fail)
    ((with_reducible refine (sum_any _ l HL.out _ (hasB_keep HV.out HB.out)).mono ?_); rintro e w2 ⟨rfl, rfl⟩)
    go_wp2_with fail
    ((with_reducible refine (put_any _ (adler_i64 l) _).mono ?_); rintro e w3 ⟨v3, rfl, hv3, hb3⟩)
    obtain ⟨g3, c3, rfl, hc3⟩ := own_addr hv3 HSP.out
    have HB3 := Lib.hid (HB.out.trans (hb3.mono HB.out.size))
    have HO3 := Lib.hid (own_below HO.out hb3)
    have HC3 := Lib.hid hc3
    clear hb3 hv3 hc3
    go_wp2_with (first
      | (at_builtin; refine wpList_append_own _ rfl _ _ 42 rfl w.heap.size 5 i0 (.int .u8 0) 1 1 Try.underlying42 hi hz0 hz1 hz2 rfl (by decide) _ _ _ rfl HO3.out ⟨g3, 0, none⟩ _ c3 _ rfl (by rw [List.length_map, Nat.mul_one]) HC3.out (bV_one _) (by have h1 := HE.out; have h2 := HS.out; unfold maxLen; omega) (by have h1 := HE.out; have h2 := HS.out; omega) HB3.out.size ?_; intro v' w4 hown' hgrow' _))
    go_ret
    refine ⟨v', rfl, ?_, HB3.out.grown hgrow' HB3.out.size (fun j hj => (World.ownsRow.lt HO3.out j hj).1)⟩
    rw [HM2.out]
    exact own_join rfl hown'
  · have HCS := Lib.hid hcells
    clear hcells
    go_enter Try.func21, Try.ntmps21
    go_wp2_with fail
    ((with_reducible refine (put_any _ HI.out _).mono ?_); rintro e w1 ⟨v1, rfl, hv1, hb1⟩)
    have HO := Lib.hid hv1
    have HB := Lib.hid hb1
    have HCS1 : Hid (∀ j u, (l.map bV)[j]? = some u → w1.cell? (ad.add j) = some u) := Lib.hid (fun j u hu => by
      have h := HCS.out j u hu
      exact (hb1.cell (World.block_lt_of_cell? w _ h)).trans h)
    clear hv1 hb1
    go_wp2_with (first
      | (at_builtin; refine wpList_append_own _ rfl _ _ 42 rfl w.heap.size 5 i0 (.int .u8 0) 1 1 Try.underlying42 hi hz0 hz1 hz2 rfl (by decide) _ _ _ rfl HO.out ad L cap (l.map bV) rfl (by rw [List.length_map, NL.out]; omega) HCS1.out (bV_one _) (by have h1 := HE.out; unfold maxLen; omega) (by have h1 := HE.out; omega) HB.out.size ?_; intro v2 w2 hown2 hgrow2 _)
      | fail)
    have HB2 := Lib.hid (HB.out.grown hgrow2 HB.out.size (fun j hj => (World.ownsRow.lt HO.out j hj).1))
    have HO2 : Hid (OwnB w2 w.heap.size v2 (enc (L : Int) ++ l)) := Lib.hid (own_join (by rw [NL.out]) hown2)
    clear hown2 hgrow2
    ((with_reducible refine (sum_any _ l HL.out _ (hasB_keep HV.out HB2.out)).mono ?_); rintro e w3 ⟨rfl, rfl⟩)
    go_wp2_with fail
    ((with_reducible refine (put_any _ (adler_i64 l) _).mono ?_); rintro e w3 ⟨v3, rfl, hv3, hb3⟩)
    obtain ⟨g3, c3, rfl, hc3⟩ := own_addr hv3 HSP.out
    have HB3 := Lib.hid (HB2.out.trans (hb3.mono HB2.out.size))
    have HO3 := Lib.hid (own_below HO2.out hb3)
    have HC3 := Lib.hid hc3
    have HEL : Hid ((enc (L : Int) ++ l).length ≤ 10 + L) := Lib.hid (by rw [List.length_append, ← NL.out]; have := HE.out; omega)
    clear hb3 hv3 hc3
    go_wp2_with (first
      | (at_builtin; refine wpList_append_own _ rfl _ _ 42 rfl w.heap.size 5 i0 (.int .u8 0) 1 1 Try.underlying42 hi hz0 hz1 hz2 rfl (by decide) _ _ _ rfl HO3.out ⟨g3, 0, none⟩ _ c3 _ rfl (by rw [List.length_map, Nat.mul_one]) HC3.out (bV_one _) (by have h1 := HEL.out; have h2 := HS.out; unfold maxLen; omega) (by have h1 := HEL.out; have h2 := HS.out; omega) HB3.out.size ?_; intro v' w4 hown' hgrow' _))
    go_ret
    refine ⟨v', rfl, ?_, HB3.out.grown hgrow' HB3.out.size (fun j hj => (World.ownsRow.lt HO3.out j hj).1)⟩
    rw [HM.out]
    exact own_join rfl hown'

def numsB (l : List Int) : List Nat := enc (l.length : Int) ++ encs l
theorem encs_len (l : List Int) (h : ∀ n ∈ l, I64 n) : (encs l).length ≤ 10 * l.length := by
  induction l with
  | nil => simp [encs]
  | cons n l ih =>
    have h1 := ih (fun m hm => h m (List.mem_cons_of_mem _ hm))
    have h2 := enc_len (h n (by simp))
    have h3 : encs (n :: l) = enc n ++ encs l := by simp [encs]
    rw [h3, List.length_append, List.length_cons]; omega

set_option maxHeartbeats 1600000 in
theorem nums_any (v : Value) (l : List Int) (hl : ∀ n ∈ l, I64 n) (hlen : l.length ≤ 100000) (w : World) (hv : HasInts w v l) : Calls Try.prog 54 #[v] w fun e w' =>
    ∃ r, e = .returned r ∧ OwnB w' w.heap.size r (numsB l) ∧ Below w.heap.size w w' := by
  obtain ⟨i0, hi, hz0, hz1, hz2⟩ := info_parts info_u8
  have HL := Lib.hid hl
  obtain ⟨a, cap, rfl, hll, hc⟩ := hv
  have HC := Lib.hid hc
  obtain ⟨L, hL⟩ : ∃ L, L = l.length := ⟨_, rfl⟩
  rw [← hL] at hll HC hlen ⊢
  have NL := Lib.hid hL
  clear hL hl hc
  have HI : Hid (I64 (L : Int)) := Lib.hid (by unfold I64; omega)
  have HE := Lib.hid (enc_len HI.out)
  go_enter Try.func54, Try.ntmps54
  go_wp2_with fail
  ((with_reducible refine (put_any _ HI.out _).mono ?_); rintro e w1 ⟨v1, rfl, hv1, hb1⟩)
  have HO := Lib.hid hv1
  have HB := Lib.hid hb1
  clear hv1 hb1
  go_wp2
  go_loopw [3, 11] (fun v i wr => ∃ k : Nat, k ≤ L ∧ i = .int .i64 k ∧ OwnB wr w.heap.size v (enc (L : Int) ++ encs (l.take k)) ∧ Hid (Below w.heap.size w wr)) (fun _ i _ => L - (intOf i).toNat)
  case atStart => exact ⟨0, Nat.zero_le _, rfl, by simpa [encs] using HO.out, HB⟩
  case round =>
    obtain ⟨k, hk, rfl, hown, hbw⟩ := hrel
    have HOW := Lib.hid hown
    clear hown
    by_cases hlt : k < L
    · rcases HC.out with hc | ⟨b, o, rfl, hc⟩
      · omega
      have h0 := hc k hlt
      have h1 := cell_keep hbw.out h0
      obtain ⟨x, hx⟩ : ∃ x, x = l.getD k 0 := ⟨_, rfl⟩
      rw [← hx] at h1
      have hkl : k < l.length := by rw [← NL.out]; exact hlt
      have HX : Hid (I64 x) := Lib.hid (by rw [hx, List.getD_eq_getElem?_getD, List.getElem?_eq_getElem hkl]; exact HL.out _ (List.getElem_mem hkl))
      have HT : Hid (encs (l.take (k + 1)) = encs (l.take k) ++ enc x) := Lib.hid (by rw [take_snoc' l k hkl, encs_snoc, ← hx])
      have HEL : Hid ((enc (L : Int) ++ encs (l.take k)).length ≤ 10 + 10 * L) := Lib.hid (by
        have h2 := encs_len (l.take k) (fun n hn => HL.out n (List.mem_of_mem_take hn))
        rw [List.length_take] at h2
        have := HE.out
        rw [List.length_append]; omega)
      have HXL := Lib.hid (enc_len HX.out)
      have HXP := Lib.hid (enc_pos x)
      clear hc h0 hx hkl
      go_wp2_with fail
      ((with_reducible refine (put_any _ HX.out _).mono ?_); rintro e w3 ⟨v3, rfl, hv3, hb3⟩)
      obtain ⟨g3, c3, rfl, hc3⟩ := own_addr hv3 HXP.out
      have HB3 := Lib.hid (hbw.out.trans (hb3.mono hbw.out.size))
      have HO3 := Lib.hid (own_below HOW.out hb3)
      have HC3 := Lib.hid hc3
      clear hb3 hv3 hc3
      go_wp2_with (first
        | (at_builtin; refine wpList_append_own _ rfl _ _ 42 rfl w.heap.size 5 i0 (.int .u8 0) 1 1 Try.underlying42 hi hz0 hz1 hz2 rfl (by decide) _ _ _ rfl HO3.out ⟨g3, 0, none⟩ _ c3 _ rfl (by rw [List.length_map, Nat.mul_one]) HC3.out (bV_one _) (by have h1 := HEL.out; have h2 := HXL.out; unfold maxLen; omega) (by have h1 := HEL.out; have h2 := HXL.out; omega) HB3.out.size ?_; intro v' w4 hown' hgrow' _))
      have hb4 := Lib.hid (HB3.out.grown hgrow' HB3.out.size (fun j hj => (World.ownsRow.lt HO3.out j hj).1))
      have ho4 : OwnB w4 w.heap.size v' (enc (L : Int) ++ encs (l.take (k + 1))) := by
        rw [HT.out, ← List.append_assoc]; exact own_join rfl hown'
      clear hown' hgrow'
      go_roundw
      case rel => exact ⟨k + 1, by omega, by go_num, ho4, hb4⟩
      case measure => simp [intOf]; omega
    · obtain rfl : k = L := by omega
      have ht : l.take k = l := by rw [NL.out]; exact List.take_length
      go_wp2
      go_ret
      refine ⟨_, rfl, ?_, hbw.out⟩
      have h := HOW.out
      rw [ht] at h
      unfold numsB
      rw [← NL.out]
      exact h

end Go.Proofs.Ytimjodpndhckdaa
