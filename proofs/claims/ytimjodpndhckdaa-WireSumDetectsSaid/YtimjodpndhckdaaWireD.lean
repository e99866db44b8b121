
/-
  Layer 3: the reference's decoding of a number.
-/
import Derived.Test.YtimjodpndhckdaaRows
import Derived.Test.YtimjodpndhckdaaBase
import Derived.Test.YtimjodpndhckdaaWirePlain
import Derived.Test.YtimjodpndhckdaaWireA
import Derived.Test.YtimjodpndhckdaaWireB
import Derived.Test.YtimjodpndhckdaaWireC
import Derived.Deep.RegionHeld3
namespace Go.Proofs.Ytimjodpndhckdaa
set_option maxRecDepth 20000
open Go.ChangeShapes Go.WideShapes Go.ChangeAt Go.RowKit

/-- The number of all groups. -/
def num : List Nat → Nat
  | [] => 0
  | b :: r => b % 128 + 128 * num r
theorem num_snoc (p : List Nat) (x : Nat) (hp : ∀ b ∈ p, 128 ≤ b) (hp2 : ∀ b ∈ p, b < 256) (hx : x < 128) : num (p ++ [x]) = low p + 128 ^ p.length * x := by
  induction p with
  | nil => simp [num, low]; omega
  | cons b p ih =>
    have h1 := ih (fun y hy => hp y (List.mem_cons_of_mem _ hy)) (fun y hy => hp2 y (List.mem_cons_of_mem _ hy))
    have h2 := hp b (by simp)
    have h3 := hp2 b (by simp)
    simp only [List.cons_append, num, low, h1, List.length_cons, Nat.pow_succ]
    rw [Nat.mul_add, Nat.mul_comm (128 ^ p.length) 128, Nat.mul_assoc 128]; omega
/-- What the reference tests. -/
theorem dec_test (l : List Nat) (k : Nat) (hl : ∀ b ∈ l, b < 256) (hk : k < l.length) (hp : ∀ b ∈ l.take k, 128 ≤ b) (hx : l.getD k 0 < 128) :
    dec l = if enc (unzz (num (l.take (k + 1)) % 18446744073709551616)) = l.take (k + 1) then some (unzz (num (l.take (k + 1)) % 18446744073709551616), k + 1) else none := by
  have hL := list_at l k hk
  have hS := take_snocB l k hk
  have hlen : (l.take k).length = k := by rw [List.length_take]; omega
  have hN := num_snoc (l.take k) (l.getD k 0) hp (fun b hb => hl b (List.mem_of_mem_take hb)) hx
  rw [← hS, hlen] at hN
  have hD := dec_end (l.take k) (l.getD k 0) (l.drop (k + 1)) hp hx
  rw [← hL, hlen] at hD
  have hI : I64 (unzz (num (l.take (k + 1)) % 18446744073709551616)) := unzz_i64 (Nat.mod_lt _ (by decide))
  by_cases hc : (l.getD k 0 = 0 ∧ l.take k ≠ []) ∨ 18446744073709551616 ≤ low (l.take k) + 128 ^ k * l.getD k 0
  · rw [if_pos hc] at hD
    rw [hD, if_neg]
    intro he
    have h := dec_enc hI (l.drop (k + 1))
    rw [he, List.take_append_drop, hD] at h
    cases h
  · rw [if_neg hc] at hD
    have hlt : low (l.take k) + 128 ^ k * l.getD k 0 < 18446744073709551616 := by
      apply Nat.lt_of_not_le; intro h; exact hc (Or.inr h)
    rw [hN, Nat.mod_eq_of_lt hlt, hD, if_pos]
    exact (dec_some hl hD).2.1.symm

/-- The reference's walk. -/
def GotW (w : World) (l : List Nat) (e : Ending) (w' : World) : Prop := e = .returned (decV l) ∧ Below w.heap.size w w'

theorem int_eq {k : IntKind} {a b : Int} (h : a = b) : Value.int k a = .int k b := by rw [h]
theorem cont {P G : Prop} (h : P) (k : P → G) : G := k h

theorem unzz_cases (u : Nat) : (u % 2 = 0 ∧ unzz u = ((u / 2 : Nat) : Int)) ∨ (u % 2 = 1 ∧ unzz u = -((u / 2 : Nat) : Int) - 1) := by
  unfold unzz
  by_cases h : u % 2 = 0
  · left; rw [if_pos h]; exact ⟨h, rfl⟩
  · right; rw [if_neg h]; exact ⟨by omega, rfl⟩

end Go.Proofs.Ytimjodpndhckdaa
