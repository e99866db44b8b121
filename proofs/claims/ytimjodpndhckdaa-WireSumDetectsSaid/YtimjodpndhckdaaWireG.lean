
/-
  Layer 3: decoding a text.
-/
import Derived.Test.YtimjodpndhckdaaRows
import Derived.Test.YtimjodpndhckdaaBase
import Derived.Test.YtimjodpndhckdaaWirePlain
import Derived.Test.YtimjodpndhckdaaWireA
import Derived.Test.YtimjodpndhckdaaWireB
import Derived.Test.YtimjodpndhckdaaWireC
import Derived.Test.YtimjodpndhckdaaWireE
import Derived.Test.YtimjodpndhckdaaWireF
import Derived.Laws.IdiomStrings
import Derived.Outline
namespace Go.Proofs.Ytimjodpndhckdaa
set_option maxRecDepth 20000
open Go.ChangeShapes Go.WideShapes Go.ChangeAt Go.RowKit

/-- The string of these bytes. -/
def strOf (l : List Nat) : ByteArray := ⟨(l.map UInt8.ofNat).toArray⟩
theorem bytesOf_strOf (l : List Nat) (hl : ∀ b ∈ l, b < 256) : bytesOf (strOf l) = l := by
  unfold bytesOf strOf
  simp only [List.map_map]
  have : ∀ b ∈ l, ((fun b : UInt8 => b.toNat) ∘ UInt8.ofNat) b = b := fun b hb => by
    simp only [Function.comp]
    exact UInt8.toNat_ofNat_of_lt' (by have := hl b hb; simpa using this)
  rw [List.map_congr_left this]; simp
theorem strOf_inj {l m : List Nat} (hl : ∀ b ∈ l, b < 256) (hm : ∀ b ∈ m, b < 256) (h : strOf l = strOf m) : l = m := by
  rw [← bytesOf_strOf l hl, ← bytesOf_strOf m hm, h]
theorem strOf_bytesOf (s : ByteArray) : strOf (bytesOf s) = s := by
  unfold strOf bytesOf
  simp only [List.map_map]
  have : ∀ b ∈ s.data.toList, (UInt8.ofNat ∘ fun b : UInt8 => b.toNat) b = b := fun b _ => by simp [Function.comp]
  rw [List.map_congr_left this]; simp

theorem run_str {w : World} {a : Option Addr} {m cap : Nat} {l : List Nat} (hl : ∀ b ∈ l, b < 256) (h : HasB w (.slice a m cap) l) (n : Nat) :
    (convert 42 9 (.slice a m cap)).run Try.prog (w.drewN n) = .ok (.string (strOf l)) (w.drewN n) := by
  obtain ⟨hlen, hs⟩ := hasB_src h
  rcases hs with ⟨rfl, rfl, rfl⟩ | ⟨ad, rfl, hc⟩
  · rw [List.length_eq_zero_iff.1 hlen]
    rw [run_convert_bytes_string _ _ _ _ _ _ _ Try.underlying42 Try.underlying5 Try.underlying9]
    rfl
  · have h1 := run_convert_bytes_back (P := Try.prog) (w.drewN n) 42 9 5 ad cap (l.map UInt8.ofNat) Try.underlying42 Try.underlying5 Try.underlying9 (fun j hj => by
      have hj' : j < l.length := by simpa using hj
      have h2 := hc j (bV l[j]) (by simp [List.getElem?_eq_getElem hj'])
      show w.cell? (ad.add j) = _
      rw [h2, List.getElem_map]
      have := hl l[j] (List.getElem_mem hj')
      rw [UInt8.toNat_ofNat_of_lt' (by simpa using this)])
    rw [List.length_map, hlen] at h1
    exact h1

def gtextV (l : List Nat) : Value := match blk l with
  | none => .tuple #[.string ByteArray.empty, .int .i64 0, .int .i64 3]
  | some (m, k) => .tuple #[.string (strOf ((l.drop k).take m)), .int .i64 ((k + m : Nat) : Int), .int .i64 0]

theorem byte_part {l : List Nat} (hl : ∀ b ∈ l, b < 256) (k m : Nat) : ∀ b ∈ (l.drop k).take m, b < 256 := fun b hb => hl b (List.mem_of_mem_drop (List.mem_of_mem_take hb))

set_option maxHeartbeats 800000 in
theorem gtext_any (v : Value) (l : List Nat) (hl : ∀ b ∈ l, b < 256) (w : World) (hv : HasB w v l) : Calls Try.prog 49 #[v] w fun e w' => e = .returned (gtextV l) ∧ ∃ n, w' = w.drewN n := by
  have HV := Lib.hid hv
  have HL := Lib.hid hl
  obtain ⟨a, cap, rfl, hll, _⟩ := hv
  clear hl
  cases hb : blk l with
  | none =>
    have HG : Hid (gtextV l = .tuple #[.string ByteArray.empty, .int .i64 0, .int .i64 3]) := Lib.hid (by unfold gtextV; rw [hb])
    have HB := Lib.hid hb
    clear hb
    go_enter Try.func49, Try.ntmps49
    go_wp2_with fail
    ((with_reducible refine (block_any _ l HL.out _ HV.out).mono ?_); rintro e w' ⟨⟨n, rfl⟩, hb⟩)
    rw [HB.out] at hb
    simp only at hb
    subst hb
    have hr : ∀ w : World, (convert 42 9 (.slice none 0 0)).run Try.prog w = .ok (.string ByteArray.empty) w := fun w => by
      rw [run_convert_bytes_string _ _ _ _ _ _ _ Try.underlying42 Try.underlying5 Try.underlying9]
      rfl
    go_wp2
    go_ret3
    exact ⟨by rw [HG.out]; first | done | rfl, n, rfl⟩
  | some x =>
    obtain ⟨m, k⟩ := x
    have HG : Hid (gtextV l = .tuple #[.string (strOf ((l.drop k).take m)), .int .i64 ((k + m : Nat) : Int), .int .i64 0]) := Lib.hid (by unfold gtextV; rw [hb])
    have HB := Lib.hid hb
    clear hb
    go_enter Try.func49, Try.ntmps49
    go_wp2_with fail
    ((with_reducible refine (block_any _ l HL.out _ HV.out).mono ?_); rintro e w' ⟨⟨n, rfl⟩, hb⟩)
    rw [HB.out] at hb
    obtain ⟨a', cap', rfl, hB⟩ := hb
    have hr := run_str (byte_part HL.out k m) hB n
    obtain ⟨S, hS⟩ : ∃ S, S = strOf ((l.drop k).take m) := ⟨_, rfl⟩
    rw [← hS] at hr HG
    clear hB hS
    go_wp2
    go_ret3
    exact ⟨by rw [HG.out]; first | done | rfl, n, rfl⟩

end Go.Proofs.Ytimjodpndhckdaa
