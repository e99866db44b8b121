
/-
  The check sum of chapter 3 tells apart byte sequences that differ in one byte, or in the order of two neighbours; and a seal whose content was changed in one byte is not opened.
-/
import Derived.Test.YtimjodpndhckdaaRows
import Derived.Test.YtimjodpndhckdaaWireA
import Derived.Test.YtimjodpndhckdaaWireB
import Derived.Test.YtimjodpndhckdaaWireC
import Derived.Test.YtimjodpndhckdaaWireD
import Derived.Test.YtimjodpndhckdaaWireE
import Derived.Test.YtimjodpndhckdaaWireF
import Derived.Test.YtimjodpndhckdaaWireK
namespace Go.Proofs.Ytimjodpndhckdaa
set_option linter.unusedVariables false

def adF (p q : Nat) (l : List Nat) : Nat × Nat := l.foldl (fun p c => ((p.1 + c) % 65521, (p.2 + (p.1 + c) % 65521) % 65521)) (p, q)
def adG (p : Nat) : List Nat → Nat
  | [] => 0
  | c :: l => (p + c) % 65521 + adG ((p + c) % 65521) l
theorem adF_nil (p q : Nat) : adF p q [] = (p, q) := rfl
theorem adF_cons (p q c : Nat) (l : List Nat) : adF p q (c :: l) = adF ((p + c) % 65521) ((q + (p + c) % 65521) % 65521) l := rfl
theorem adF_append (p q : Nat) (l r : List Nat) : adF p q (l ++ r) = adF (adF p q l).1 (adF p q l).2 r := by
  simp [adF, List.foldl_append]
theorem adS_F (l : List Nat) : adS l = adF 1 0 l := rfl
theorem adF_one (l : List Nat) : ∀ p q, p < 65521 → (adF p q l).1 = (p + l.sum) % 65521 := by
  induction l with
  | nil => intro p q hp; simp [adF_nil]; omega
  | cons c l ih =>
    intro p q hp
    rw [adF_cons, ih _ _ (Nat.mod_lt _ (by omega)), List.sum_cons]
    omega
theorem adF_two (l : List Nat) : ∀ p q, q < 65521 → (adF p q l).2 = (q + adG p l) % 65521 := by
  induction l with
  | nil => intro p q hp; simp [adF_nil, adG]; omega
  | cons c l ih =>
    intro p q hp
    rw [adF_cons, ih _ _ (Nat.mod_lt _ (by omega)), adG]
    omega
theorem adF_lt (p q : Nat) (l : List Nat) (hp : p < 65521) (hq : q < 65521) : (adF p q l).1 < 65521 ∧ (adF p q l).2 < 65521 := by
  rw [adF_one l p q hp, adF_two l p q hq]
  omega
theorem adler_iff (l r : List Nat) : adler l = adler r ↔ adS l = adS r := by
  have h1 := adS_lt l
  have h2 := adS_lt r
  constructor
  · intro h
    unfold adler at h
    exact Prod.ext (by omega) (by omega)
  · intro h
    unfold adler; rw [h]

/-- One byte changed: another sum. -/
theorem adler_one (A B : List Nat) (x y : Nat) (hx : x < 256) (hy : y < 256) : adler (A ++ [x] ++ B) = adler (A ++ [y] ++ B) ↔ x = y := by
  constructor
  · intro h
    rw [adler_iff, adS_F, adS_F] at h
    have h1 := congrArg Prod.fst h
    rw [adF_one _ _ _ (by omega), adF_one _ _ _ (by omega)] at h1
    simp only [List.sum_append, List.sum_cons, List.sum_nil] at h1
    omega
  · rintro rfl; rfl
/-- Two neighbours changed about: another sum. -/
theorem adler_two (A B : List Nat) (x y : Nat) (hx : x < 256) (hy : y < 256) : adler (A ++ [x, y] ++ B) = adler (A ++ [y, x] ++ B) ↔ x = y := by
  constructor
  · intro h
    rw [adler_iff, adS_F, adS_F, adF_append, adF_append, adF_append, adF_append] at h
    have hp := adF_lt 1 0 A (by omega) (by omega)
    revert h hp
    generalize adF 1 0 A = z
    obtain ⟨p, q⟩ := z
    intro h hp
    simp only at h hp
    rw [adF_cons, adF_cons, adF_nil, adF_cons, adF_cons, adF_nil] at h
    simp only at h
    have h2 := congrArg Prod.snd h
    have e : ((p + x) % 65521 + y) % 65521 = ((p + y) % 65521 + x) % 65521 := by omega
    rw [e] at h2
    rw [adF_two _ _ _ (Nat.mod_lt _ (by omega)), adF_two _ _ _ (Nat.mod_lt _ (by omega))] at h2
    omega
  · rintro rfl; rfl

/-- A content of the same length under another's seal: it opens exactly where the sums agree. -/
theorem open_mix (b c : List Nat) (hlen : c.length = b.length) (hb : b.length ≤ 1000) :
    openB (enc (b.length : Int) ++ c ++ enc (adler b : Int)) = if adler b = adler c then some (c, (enc (b.length : Int)).length + b.length + (enc (adler b : Int)).length) else none := by
  have h1 : dec (enc (b.length : Int) ++ c ++ enc (adler b : Int)) = some ((b.length : Int), (enc (b.length : Int)).length) := by
    rw [List.append_assoc]; exact dec_enc (by unfold I64; omega) _
  have h2 : (enc (b.length : Int) ++ c ++ enc (adler b : Int)).drop ((enc (b.length : Int)).length + b.length) = enc (adler b : Int) := by
    rw [List.append_assoc, ← List.drop_drop, List.drop_left, ← hlen, List.drop_left]
  have h3 : ((enc (b.length : Int) ++ c ++ enc (adler b : Int)).drop (enc (b.length : Int)).length).take b.length = c := by
    rw [List.append_assoc, List.drop_left, ← hlen, List.take_append_of_le_length (Nat.le_refl _), List.take_of_length_le (Nat.le_refl _)]
  have hk : blk (enc (b.length : Int) ++ c ++ enc (adler b : Int)) = some (b.length, (enc (b.length : Int)).length) := by
    unfold blk; rw [h1]; simp only
    rw [if_pos ⟨by omega, by rw [List.length_append, List.length_append]; omega⟩, Int.toNat_natCast]
  have h4 := dec_enc (adler_i64 b) []
  rw [List.append_nil] at h4
  unfold openB
  rw [hk]
  simp only
  rw [h2, h4]
  simp only
  rw [h3]
  by_cases h : adler b = adler c
  · rw [if_pos h, if_pos (by rw [h])]
  · rw [if_neg h, if_neg (by omega)]
/-- A seal, its byte of the content changed. -/
theorem seal_set (A B : List Nat) (x y : Nat) (n : Nat) (hn : n = (A ++ [x] ++ B).length) : (sealB (A ++ [x] ++ B)).set ((enc (n : Int)).length + A.length) y = enc (n : Int) ++ (A ++ [y] ++ B) ++ enc (adler (A ++ [x] ++ B) : Int) := by
  subst hn
  unfold sealB
  simp [List.append_assoc]
theorem open_changed (A B : List Nat) (x y : Nat) (hx : x < 256) (hy : y < 256) (n : Nat) (hn : n = (A ++ [x] ++ B).length) (hs : n ≤ 1000) :
    openB ((sealB (A ++ [x] ++ B)).set ((enc (n : Int)).length + A.length) y) = if x = y then some (A ++ [y] ++ B, (enc (n : Int)).length + n + (enc (adler (A ++ [x] ++ B) : Int)).length) else none := by
  rw [seal_set A B x y n hn, hn, open_mix (A ++ [x] ++ B) (A ++ [y] ++ B) (by simp) (by omega)]
  by_cases h : x = y
  · rw [if_pos h, if_pos (by rw [h])]
  · rw [if_neg h, if_neg (fun e => h ((adler_one A B x y hx hy).1 e))]
end Go.Proofs.Ytimjodpndhckdaa
