
/-
  Layer 3, plain mathematics: zigzag numbers in groups of seven bits, decoding, the Adler checksum. Nothing of the program.
-/
import Derived.Test.YtimjodpndhckdaaBase
namespace Go.Proofs.Ytimjodpndhckdaa

/-- The zigzag number of an integer. -/
def zz (n : Int) : Nat := if 0 ≤ n then (2 * n).toNat else (-2 * n - 1).toNat
/-- The integer of a zigzag number. -/
def unzz (u : Nat) : Int := if u % 2 = 0 then ((u / 2 : Nat) : Int) else -((u / 2 : Nat) : Int) - 1
theorem unzz_zz (n : Int) : unzz (zz n) = n := by
  unfold zz unzz
  by_cases h : 0 ≤ n
  · rw [if_pos h, if_pos (by omega)]; omega
  · rw [if_neg h, if_neg (by omega)]; omega
theorem zz_unzz (u : Nat) : zz (unzz u) = u := by
  unfold zz unzz
  by_cases h : u % 2 = 0
  · rw [if_pos h, if_pos (by omega)]; omega
  · rw [if_neg h, if_neg (by omega)]; omega
theorem zz_lt {n : Int} (h : I64 n) : zz n < 18446744073709551616 := by
  unfold I64 at h; unfold zz; split <;> omega
theorem unzz_i64 {u : Nat} (h : u < 18446744073709551616) : I64 (unzz u) := by
  unfold I64 unzz; split <;> omega

/-- The groups of a number, the lowest first; every group but the last has 128 added. -/
def grp (u : Nat) : List Nat := if h : u < 128 then [u] else (u % 128 + 128) :: grp (u / 128)
termination_by u
decreasing_by omega
theorem grp_small {u : Nat} (h : u < 128) : grp u = [u] := by unfold grp; rw [dif_pos h]
theorem grp_big {u : Nat} (h : ¬ u < 128) : grp u = (u % 128 + 128) :: grp (u / 128) := by rw [grp.eq_1 u, dif_neg h]
def enc (n : Int) : List Nat := grp (zz n)

/-- A number at the head of a list of bytes, and how many bytes it takes; no leading zero group. -/
def scan : List Nat → Option (Nat × Nat)
  | [] => none
  | b :: r => if b < 128 then some (b, 1) else
    match scan r with
    | none => none
    | some (u, k) => if u = 0 then none else some (b - 128 + 128 * u, k + 1)
/-- Decoding: the integer and the bytes used. -/
def dec (l : List Nat) : Option (Int × Nat) :=
  match scan l with
  | none => none
  | some (u, k) => if u < 18446744073709551616 then some (unzz u, k) else none

theorem grp_pos (u : Nat) : 0 < (grp u).length := by
  unfold grp; split <;> simp
theorem grp_byte (u : Nat) : ∀ b ∈ grp u, b < 256 := by
  induction u using Nat.strongRecOn with
  | ind u ih =>
    by_cases h : u < 128
    · rw [grp_small h]; intro b hb; simp at hb; omega
    · rw [grp_big h]; intro b hb
      rcases List.mem_cons.1 hb with rfl | hb
      · omega
      · exact ih (u / 128) (by omega) b hb
theorem grp_len (u : Nat) : ∀ k : Nat, u < 128 ^ (k + 1) → (grp u).length ≤ k + 1 := by
  intro k
  induction k generalizing u with
  | zero => intro h; rw [grp_small (by simpa using h)]; simp
  | succ k ih =>
    intro h
    by_cases hs : u < 128
    · rw [grp_small hs]; simp
    · rw [grp_big hs]
      have := ih (u / 128) (by rw [Nat.pow_succ] at h; exact Nat.div_lt_of_lt_mul (by rw [Nat.mul_comm]; exact h))
      simp; omega
theorem scan_grp (u : Nat) (r : List Nat) : scan (grp u ++ r) = some (u, (grp u).length) := by
  induction u using Nat.strongRecOn with
  | ind u ih =>
    by_cases h : u < 128
    · rw [grp_small h]; simp [scan, h]
    · rw [grp_big h]
      have h1 := ih (u / 128) (by omega)
      simp only [List.cons_append, scan]
      rw [if_neg (by omega), h1]
      simp only
      rw [if_neg (by omega)]
      simp
      omega
theorem scan_used {l : List Nat} {u k : Nat} (h : scan l = some (u, k)) : 1 ≤ k ∧ k ≤ l.length := by
  induction l generalizing u k with
  | nil => simp [scan] at h
  | cons b r ih =>
    unfold scan at h
    split at h
    · simp at h; simp; omega
    · split at h
      · cases h
      · rename_i u' k' he
        split at h
        · cases h
        · simp at h
          have := ih he
          simp; omega
theorem scan_take {l : List Nat} {u k : Nat} (hb : ∀ b ∈ l, b < 256) (h : scan l = some (u, k)) : l.take k = grp u := by
  induction l generalizing u k with
  | nil => simp [scan] at h
  | cons b r ih =>
    unfold scan at h
    split at h
    · rename_i hs
      simp at h
      obtain ⟨rfl, rfl⟩ := h
      rw [grp_small hs]; rfl
    · rename_i hs
      split at h
      · cases h
      · rename_i u' k' he
        split at h
        · cases h
        · rename_i h0
          simp at h
          obtain ⟨rfl, rfl⟩ := h
          have h1 := ih (fun x hx => hb x (List.mem_cons_of_mem _ hx)) he
          have hb0 := hb b (by simp)
          rw [grp_big (by omega), List.take_succ_cons, h1]
          congr 1
          · omega
          · congr 1; omega
theorem scan_short {l : List Nat} {u k : Nat} (h : scan l = some (u, k)) {j : Nat} (hj : j < k) : scan (l.take j) = none := by
  induction l generalizing u k j with
  | nil => simp [scan] at h
  | cons b r ih =>
    unfold scan at h
    split at h
    · simp at h
      obtain rfl : j = 0 := by omega
      simp [scan]
    · rename_i hs
      split at h
      · cases h
      · rename_i u' k' he
        split at h
        · cases h
        · simp at h
          match j with
          | 0 => simp [scan]
          | j + 1 =>
            rw [List.take_succ_cons]
            unfold scan
            rw [if_neg hs, ih he (by omega)]
theorem dec_enc {n : Int} (h : I64 n) (r : List Nat) : dec (enc n ++ r) = some (n, (enc n).length) := by
  unfold dec enc
  rw [scan_grp]
  simp only
  rw [if_pos (zz_lt h), unzz_zz]
theorem dec_some {l : List Nat} {n : Int} {k : Nat} (hb : ∀ b ∈ l, b < 256) (h : dec l = some (n, k)) : I64 n ∧ l.take k = enc n ∧ 1 ≤ k ∧ k ≤ l.length := by
  unfold dec at h
  split at h
  · cases h
  · rename_i u k' he
    split at h
    · rename_i hu
      simp at h
      obtain ⟨rfl, rfl⟩ := h
      refine ⟨unzz_i64 hu, ?_, scan_used he⟩
      unfold enc
      rw [zz_unzz]
      exact scan_take hb he
    · cases h
theorem dec_short {l : List Nat} {n : Int} {k : Nat} (h : dec l = some (n, k)) {j : Nat} (hj : j < k) : dec (l.take j) = none := by
  unfold dec at h
  split at h
  · cases h
  · rename_i u k' he
    split at h
    · simp at h
      obtain ⟨_, rfl⟩ := h
      unfold dec
      rw [scan_short he hj]
    · cases h
theorem enc_pos (n : Int) : 0 < (enc n).length := grp_pos _
theorem enc_len {n : Int} (h : I64 n) : (enc n).length ≤ 10 := grp_len _ 9 (Nat.lt_of_lt_of_le (zz_lt h) (by decide))
theorem enc_byte (n : Int) : ∀ b ∈ enc n, b < 256 := grp_byte _
theorem enc_inj {m n : Int} (hm : I64 m) (hn : I64 n) (h : enc m = enc n) : m = n := by
  have h1 := dec_enc hm []
  rw [h, dec_enc hn []] at h1
  simp at h1; exact h1.symm
theorem grp_mono {u v : Nat} (h : u ≤ v) : (grp u).length ≤ (grp v).length := by
  induction v using Nat.strongRecOn generalizing u with
  | ind v ih =>
    by_cases hv : v < 128
    · rw [grp_small hv, grp_small (by omega)]; simp
    · rw [grp_big hv]
      by_cases hu : u < 128
      · rw [grp_small hu]; simp
      · rw [grp_big hu]
        have := ih (v / 128) (by omega) (u := u / 128) (Nat.div_le_div_right h)
        simp; omega
theorem enc_mono {m n : Int} (h : (0 ≤ m ∧ m ≤ n) ∨ (m < 0 ∧ n ≤ m)) : (enc m).length ≤ (enc n).length := by
  unfold enc; refine grp_mono ?_; unfold zz; split <;> split <;> omega

/-- The list of numbers one after the other. -/
def encs (l : List Int) : List Nat := l.flatMap enc
theorem encs_snoc (l : List Int) (n : Int) : encs (l ++ [n]) = encs l ++ enc n := by simp [encs]

end Go.Proofs.Ytimjodpndhckdaa
