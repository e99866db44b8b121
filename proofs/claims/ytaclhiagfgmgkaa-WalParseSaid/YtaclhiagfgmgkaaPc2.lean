/-
  Merged: Base, WirePlain, Aux
-/
import Derived.Test.YtaclhiagfgmgkaaRows
import Derived.WalkKit
import Derived.ProofKit
import Derived.OpenShut
import Derived.Lib.Hide
import Derived.SizedLaws
import Derived.Laws.CopyOwn
import Derived.Deep.QuietTactic
import Derived.BigQuiet

/-
  Small facts used by all texts of this seat: integers in range, slices of integers in memory, what stays below a block number.
-/
namespace Go.Proofs.Ytaclhiagfgmgkaa
open Go.ChangeShapes Go.WideShapes Go.ChangeAt Go.RowKit

/-- The bounds of an int. -/
def I64 (n : Int) : Prop := -9223372036854775808 ≤ n ∧ n ≤ 9223372036854775807
theorem i64_of_wf {n : Int} (h : (Lit.int .i64 n).wf = true) : I64 n := by
  have h1 : IntKind.i64.min = -9223372036854775808 := rfl
  have h2 : IntKind.i64.max = 9223372036854775807 := rfl
  simp only [Lit.wf, Bool.and_eq_true, decide_eq_true_eq] at h
  unfold I64; omega
theorem i64_wrap64 (n : Int) : I64 (wrap64 n) := by unfold I64 wrap64; omega
theorem wrap64_id {n : Int} (h : I64 n) : wrap64 n = n := by unfold I64 at h; unfold wrap64; omega
theorem i64_zero : I64 0 := ⟨by decide, by decide⟩
theorem u8_of_wf {n : Int} (h : (Lit.int .u8 n).wf = true) : 0 ≤ n ∧ n ≤ 255 := by
  have h1 : IntKind.u8.min = 0 := rfl
  have h2 : IntKind.u8.max = 255 := rfl
  simp only [Lit.wf, Bool.and_eq_true, decide_eq_true_eq] at h
  omega
theorem ret_bool {a b : Bool} (h : a = b) : Ending.returned (.bool a) = .returned (.bool b) := by rw [h]
theorem ret_int {k : IntKind} {a b : Int} (h : a = b) : Ending.returned (.int k a) = .returned (.int k b) := by rw [h]

theorem below_drewN {B : Nat} {a w : World} (h : Below B a w) (n : Nat) : Below B a (w.drewN n) := h.trans ⟨rfl, rfl, rfl, Nat.le_refl _, fun _ _ => rfl⟩
theorem below_then {a b c : World} (h : Below a.heap.size a b) (k : Below b.heap.size b c) : Below a.heap.size a c := h.trans (k.mono h.size)

theorem info_int : (Try.prog.info? 3).map (fun i => (i.zero, i.size, i.bytes)) = some (some (.int .i64 0), 1, 8) := by kernel_rfl
theorem size_int : (Try.prog.info? 3).map (·.size) = some 1 := by kernel_rfl

/-- The slice value v holds these integers. -/
def HasInts (w : World) (v : Value) (zs : List Int) : Prop :=
  ∃ a cap, v = .slice a zs.length cap ∧ zs.length ≤ 9223372036854775807 ∧ (zs.length = 0 ∨ ∃ b o, a = some ⟨b, o, none⟩ ∧ ∀ j, j < zs.length → w.cell? ⟨b, o + j, none⟩ = some (.int .i64 (zs.getD j 0)))

theorem hasInts_of_owns {w : World} {B : Nat} {v : Value} {zs : List Int} (h : w.ownsRow B 3 1 v zs.length (zs.map (Value.int .i64))) : HasInts w v zs := by
  have h0 := h
  obtain ⟨_, h | ⟨g, cap, cur, rfl, _, _, hn, hc, _, _⟩⟩ := h
  · obtain ⟨rfl, hz⟩ := h
    exact ⟨none, 0, by rw [hz], by omega, Or.inl hz⟩
  · refine ⟨some ⟨g, 0, none⟩, cap, rfl, by unfold maxLen at hc; omega, Or.inr ⟨g, 0, rfl, fun j hj => ?_⟩⟩
    rw [Nat.zero_add, h0.cellAt j (by omega)]
    simp [List.getD, List.getElem?_eq_getElem hj]

theorem hasInts_keep {w w' : World} {v : Value} {zs : List Int} (h : HasInts w v zs) (hb : Below w.heap.size w w') : HasInts w' v zs := by
  obtain ⟨a, cap, rfl, hl, h⟩ := h
  refine ⟨a, cap, rfl, hl, ?_⟩
  rcases h with h | ⟨b, o, rfl, h⟩
  · exact Or.inl h
  · refine Or.inr ⟨b, o, rfl, fun j hj => ?_⟩
    have hc := h j hj
    have hlt : b < w.heap.size := World.block_lt_of_cell? w ⟨b, o + j, none⟩ hc
    exact (hb.cell (p := ⟨b, o + j, none⟩) hlt).trans hc
theorem hasInts_drewN {w : World} {v : Value} {zs : List Int} (h : HasInts w v zs) (n : Nat) : HasInts (w.drewN n) v zs := h

theorem owns_setCell_other {w : World} {B e size n : Nat} {v : Value} {xs : List Value} (h : w.ownsRow B e size v n xs) {a : Addr} (hne : v.ownBlock ≠ some a.block) (u : Value) : (w.setCell a u).ownsRow B e size v n xs := by
  obtain ⟨h1, h2⟩ := h
  refine ⟨h1, ?_⟩
  rcases h2 with h2 | ⟨g, cap, cur, rfl, hb, hh, r⟩
  · exact Or.inl h2
  · exact Or.inr ⟨g, cap, cur, rfl, hb, by rw [Below.heap_setCell _ _ _ _ (by simpa [Value.ownBlock] using hne)]; exact hh, r⟩

theorem cell_alloc {w : World} {a : Addr} {v : Value} (o : Obj) (h : w.cell? a = some v) : (w.alloc o).cell? a = some v :=
  (World.cell?_alloc_lt w o a (World.block_lt_of_cell? w a h)).trans h

theorem bcell {W w1 : World} (hb : Below W.heap.size W w1) : (∀ b o, b < W.heap.size → w1.cell? ⟨b, o, none⟩ = W.cell? ⟨b, o, none⟩) ∧ (∀ b o, b < W.heap.size → w1.frozen? ⟨b, o, none⟩ = W.frozen? ⟨b, o, none⟩) :=
  ⟨fun b o h => hb.cell (p := ⟨b, o, none⟩) h, fun b o h => hb.frozen (p := ⟨b, o, none⟩) h⟩

theorem bcellB {B : Nat} {W w1 : World} (hb : Below B W w1) : (∀ b o, b < B → w1.cell? ⟨b, o, none⟩ = W.cell? ⟨b, o, none⟩) ∧ (∀ b o, b < B → w1.frozen? ⟨b, o, none⟩ = W.frozen? ⟨b, o, none⟩) :=
  ⟨fun b o h => hb.cell (p := ⟨b, o, none⟩) h, fun b o h => hb.frozen (p := ⟨b, o, none⟩) h⟩

theorem frozen_alloc {w : World} {b o : Nat} {r : Bool} (ob : Obj) (hb : b < w.heap.size) (h : w.frozen? ⟨b, o, none⟩ = r) : (w.alloc ob).frozen? ⟨b, o, none⟩ = r :=
  (World.frozen?_alloc_past _ _ _ hb).trans h

theorem gb_refl (w : World) (r : Option Nat) : w.grownBy w r := ⟨rfl, rfl, rfl, Nat.le_refl _, fun _ _ _ => rfl⟩
theorem gb_alloc {w w' : World} {r : Option Nat} (h : w.grownBy w' r) (o : Obj) : w.grownBy (w'.alloc o) r :=
  ⟨h.os, h.tape, h.output, Nat.le_trans h.size (by simp), fun k hk hne => (Below.heap_alloc _ _ _ (Nat.lt_of_lt_of_le hk h.size)).trans (h.block k hk hne)⟩
theorem gb_set {w w' : World} {g : Nat} (h : w.grownBy w' (some g)) {a : Addr} (ha : a.block = g ∨ w.heap.size ≤ a.block) (u : Value) : w.grownBy (w'.setCell a u) (some g) :=
  ⟨h.os, h.tape, h.output, Nat.le_trans h.size (by simp [World.setCell]), fun k hk hne => (Below.heap_setCell _ _ _ _ (by
    rcases ha with ha | ha
    · intro hc; apply hne; rw [hc, ha]
    · omega)).trans (h.block k hk hne)⟩
theorem gb_drew {w w' : World} {r : Option Nat} (h : w.grownBy w' r) : w.grownBy w'.drew r := ⟨h.os, h.tape, h.output, h.size, h.block⟩
theorem owns_mono {w : World} {B B' e size n : Nat} {v : Value} {xs : List Value} (h : w.ownsRow B e size v n xs) (hb : B' ≤ B) : w.ownsRow B' e size v n xs :=
  ⟨h.1, h.2.imp id fun ⟨g, cap, cur, h1, h2, h3⟩ => ⟨g, cap, cur, h1, Nat.le_trans hb h2, h3⟩⟩
theorem owns_slice {w : World} {B e size n : Nat} {v : Value} {xs : List Value} (h : w.ownsRow B e size v n xs) : ∃ a c, v = .slice a n c := by
  obtain ⟨_, ⟨rfl, rfl⟩ | ⟨g, cap, cur, rfl, _⟩⟩ := h
  · exact ⟨_, _, rfl⟩
  · exact ⟨_, _, rfl⟩
/-- Two rows of different element types lie in different blocks. -/
theorem owns_apart {w : World} {B e e' size size' n n' : Nat} {v v' : Value} {xs xs' : List Value} (h : w.ownsRow B e size v n xs) (h' : w.ownsRow B e' size' v' n' xs') (hne : e ≠ e') : v.ownBlock = none ∨ v.ownBlock ≠ v'.ownBlock := by
  obtain ⟨_, ⟨rfl, _⟩ | ⟨g, cap, cur, rfl, _, hh, _⟩⟩ := h
  · exact Or.inl rfl
  · obtain ⟨_, ⟨rfl, _⟩ | ⟨g', cap', cur', rfl, _, hh', _⟩⟩ := h'
    · exact Or.inr (by simp [Value.ownBlock])
    · refine Or.inr ?_
      intro hc
      simp [Value.ownBlock] at hc
      subst hc
      rw [hh] at hh'
      simp at hh'
      exact hne hh'.2

theorem append_cell {w : World} {v : Value} {T : TypeId} (j : Nat) (u : Value) (hj : [v][j]? = some u) : (w.alloc (.cells #[v] T)).cell? ((⟨w.heap.size, 0, none⟩ : Addr).add j) = some u := by
  match j, hj with
  | 0, hj =>
    simp at hj; subst hj
    simp [Addr.add, World.cell?_alloc_at]

theorem take_succ_eq {zs ys : List Int} {k : Nat} (h : zs.take k = ys.take k) (hz : k < zs.length) (hy : k < ys.length) (he : zs.getD k 0 = ys.getD k 0) : zs.take (k + 1) = ys.take (k + 1) := by
  rw [List.take_succ_eq_append_getElem hz, List.take_succ_eq_append_getElem hy, h]
  simp [List.getD, List.getElem?_eq_getElem hz, List.getElem?_eq_getElem hy] at he
  rw [he]
theorem take_snoc' (l : List Int) (k : Nat) (h : k < l.length) : l.take (k + 1) = l.take k ++ [l.getD k 0] := by
  rw [List.take_succ_eq_append_getElem h]; simp [List.getD, List.getElem?_eq_getElem h]

end Go.Proofs.Ytaclhiagfgmgkaa


/-
  Layer 3, plain mathematics: zigzag numbers in groups of seven bits, decoding, the Adler checksum. Nothing of the program.
-/
namespace Go.Proofs.Ytaclhiagfgmgkaa

/-- The zigzag number of an integer. -/
def zz (n : Int) : Nat := if 0 ≤ n then (2 * n).toNat else (-2 * n - 1).toNat
/-- The integer of a zigzag number. -/
def unzz (u : Nat) : Int := if u % 2 = 0 then ((u / 2 : Nat) : Int) else -((u / 2 : Nat) : Int) - 1
theorem unzz_zz (n : Int) : unzz (zz n) = n := by
  unfold zz unzz
  by_cases h : 0 ≤ n
  · rw [if_pos h, if_pos (by omega)]; omega
  · rw [if_neg h, if_neg (by omega)]; omega
theorem zz_unzz (u : Nat) : zz (unzz u) = u := by
  unfold zz unzz
  by_cases h : u % 2 = 0
  · rw [if_pos h, if_pos (by omega)]; omega
  · rw [if_neg h, if_neg (by omega)]; omega
theorem zz_lt {n : Int} (h : I64 n) : zz n < 18446744073709551616 := by
  unfold I64 at h; unfold zz; split <;> omega
theorem unzz_i64 {u : Nat} (h : u < 18446744073709551616) : I64 (unzz u) := by
  unfold I64 unzz; split <;> omega

/-- The groups of a number, the lowest first; every group but the last has 128 added. -/
def grp (u : Nat) : List Nat := if h : u < 128 then [u] else (u % 128 + 128) :: grp (u / 128)
termination_by u
decreasing_by omega
theorem grp_small {u : Nat} (h : u < 128) : grp u = [u] := by unfold grp; rw [dif_pos h]
theorem grp_big {u : Nat} (h : ¬ u < 128) : grp u = (u % 128 + 128) :: grp (u / 128) := by rw [grp.eq_1 u, dif_neg h]
def enc (n : Int) : List Nat := grp (zz n)

/-- A number at the head of a list of bytes, and how many bytes it takes; no leading zero group. -/
def scan : List Nat → Option (Nat × Nat)
  | [] => none
  | b :: r => if b < 128 then some (b, 1) else
    match scan r with
    | none => none
    | some (u, k) => if u = 0 then none else some (b - 128 + 128 * u, k + 1)
/-- Decoding: the integer and the bytes used. -/
def dec (l : List Nat) : Option (Int × Nat) :=
  match scan l with
  | none => none
  | some (u, k) => if u < 18446744073709551616 then some (unzz u, k) else none

theorem grp_pos (u : Nat) : 0 < (grp u).length := by
  unfold grp; split <;> simp
theorem grp_byte (u : Nat) : ∀ b ∈ grp u, b < 256 := by
  induction u using Nat.strongRecOn with
  | ind u ih =>
    by_cases h : u < 128
    · rw [grp_small h]; intro b hb; simp at hb; omega
    · rw [grp_big h]; intro b hb
      rcases List.mem_cons.1 hb with rfl | hb
      · omega
      · exact ih (u / 128) (by omega) b hb
theorem grp_len (u : Nat) : ∀ k : Nat, u < 128 ^ (k + 1) → (grp u).length ≤ k + 1 := by
  intro k
  induction k generalizing u with
  | zero => intro h; rw [grp_small (by simpa using h)]; simp
  | succ k ih =>
    intro h
    by_cases hs : u < 128
    · rw [grp_small hs]; simp
    · rw [grp_big hs]
      have := ih (u / 128) (by rw [Nat.pow_succ] at h; exact Nat.div_lt_of_lt_mul (by rw [Nat.mul_comm]; exact h))
      simp; omega
theorem scan_grp (u : Nat) (r : List Nat) : scan (grp u ++ r) = some (u, (grp u).length) := by
  induction u using Nat.strongRecOn with
  | ind u ih =>
    by_cases h : u < 128
    · rw [grp_small h]; simp [scan, h]
    · rw [grp_big h]
      have h1 := ih (u / 128) (by omega)
      simp only [List.cons_append, scan]
      rw [if_neg (by omega), h1]
      simp only
      rw [if_neg (by omega)]
      simp
      omega
theorem scan_used {l : List Nat} {u k : Nat} (h : scan l = some (u, k)) : 1 ≤ k ∧ k ≤ l.length := by
  induction l generalizing u k with
  | nil => simp [scan] at h
  | cons b r ih =>
    unfold scan at h
    split at h
    · simp at h; simp; omega
    · split at h
      · cases h
      · rename_i u' k' he
        split at h
        · cases h
        · simp at h
          have := ih he
          simp; omega
theorem scan_take {l : List Nat} {u k : Nat} (hb : ∀ b ∈ l, b < 256) (h : scan l = some (u, k)) : l.take k = grp u := by
  induction l generalizing u k with
  | nil => simp [scan] at h
  | cons b r ih =>
    unfold scan at h
    split at h
    · rename_i hs
      simp at h
      obtain ⟨rfl, rfl⟩ := h
      rw [grp_small hs]; rfl
    · rename_i hs
      split at h
      · cases h
      · rename_i u' k' he
        split at h
        · cases h
        · rename_i h0
          simp at h
          obtain ⟨rfl, rfl⟩ := h
          have h1 := ih (fun x hx => hb x (List.mem_cons_of_mem _ hx)) he
          have hb0 := hb b (by simp)
          rw [grp_big (by omega), List.take_succ_cons, h1]
          congr 1
          · omega
          · congr 1; omega
theorem scan_short {l : List Nat} {u k : Nat} (h : scan l = some (u, k)) {j : Nat} (hj : j < k) : scan (l.take j) = none := by
  induction l generalizing u k j with
  | nil => simp [scan] at h
  | cons b r ih =>
    unfold scan at h
    split at h
    · simp at h
      obtain rfl : j = 0 := by omega
      simp [scan]
    · rename_i hs
      split at h
      · cases h
      · rename_i u' k' he
        split at h
        · cases h
        · simp at h
          match j with
          | 0 => simp [scan]
          | j + 1 =>
            rw [List.take_succ_cons]
            unfold scan
            rw [if_neg hs, ih he (by omega)]
theorem dec_enc {n : Int} (h : I64 n) (r : List Nat) : dec (enc n ++ r) = some (n, (enc n).length) := by
  unfold dec enc
  rw [scan_grp]
  simp only
  rw [if_pos (zz_lt h), unzz_zz]
theorem dec_some {l : List Nat} {n : Int} {k : Nat} (hb : ∀ b ∈ l, b < 256) (h : dec l = some (n, k)) : I64 n ∧ l.take k = enc n ∧ 1 ≤ k ∧ k ≤ l.length := by
  unfold dec at h
  split at h
  · cases h
  · rename_i u k' he
    split at h
    · rename_i hu
      simp at h
      obtain ⟨rfl, rfl⟩ := h
      refine ⟨unzz_i64 hu, ?_, scan_used he⟩
      unfold enc
      rw [zz_unzz]
      exact scan_take hb he
    · cases h
theorem dec_short {l : List Nat} {n : Int} {k : Nat} (h : dec l = some (n, k)) {j : Nat} (hj : j < k) : dec (l.take j) = none := by
  unfold dec at h
  split at h
  · cases h
  · rename_i u k' he
    split at h
    · simp at h
      obtain ⟨_, rfl⟩ := h
      unfold dec
      rw [scan_short he hj]
    · cases h
theorem enc_pos (n : Int) : 0 < (enc n).length := grp_pos _
theorem enc_len {n : Int} (h : I64 n) : (enc n).length ≤ 10 := grp_len _ 9 (Nat.lt_of_lt_of_le (zz_lt h) (by decide))
theorem enc_byte (n : Int) : ∀ b ∈ enc n, b < 256 := grp_byte _
theorem enc_inj {m n : Int} (hm : I64 m) (hn : I64 n) (h : enc m = enc n) : m = n := by
  have h1 := dec_enc hm []
  rw [h, dec_enc hn []] at h1
  simp at h1; exact h1.symm
theorem grp_mono {u v : Nat} (h : u ≤ v) : (grp u).length ≤ (grp v).length := by
  induction v using Nat.strongRecOn generalizing u with
  | ind v ih =>
    by_cases hv : v < 128
    · rw [grp_small hv, grp_small (by omega)]; simp
    · rw [grp_big hv]
      by_cases hu : u < 128
      · rw [grp_small hu]; simp
      · rw [grp_big hu]
        have := ih (v / 128) (by omega) (u := u / 128) (Nat.div_le_div_right h)
        simp; omega
theorem enc_mono {m n : Int} (h : (0 ≤ m ∧ m ≤ n) ∨ (m < 0 ∧ n ≤ m)) : (enc m).length ≤ (enc n).length := by
  unfold enc; refine grp_mono ?_; unfold zz; split <;> split <;> omega

/-- The list of numbers one after the other. -/
def encs (l : List Int) : List Nat := l.flatMap enc
theorem encs_snoc (l : List Int) (n : Int) : encs (l ++ [n]) = encs l ++ enc n := by simp [encs]

end Go.Proofs.Ytaclhiagfgmgkaa


/-
  Small facts on worlds: what a call that only makes new memory leaves.
-/
namespace Go.Proofs.Ytaclhiagfgmgkaa
open Go.ChangeShapes Go.WideShapes Go.ChangeAt Go.RowKit

theorem cel_below {W w1 : World} {b o : Nat} {v : Value} (hb : Below W.heap.size W w1) (h : W.cell? ⟨b, o, none⟩ = some v) : w1.cell? ⟨b, o, none⟩ = some v :=
  (hb.cell (p := ⟨b, o, none⟩) (World.block_lt_of_cell? W ⟨b, o, none⟩ h)).trans h
theorem fro_below {W w1 : World} {b o : Nat} {r : Bool} (hb : Below W.heap.size W w1) (hl : b < W.heap.size) (h : W.frozen? ⟨b, o, none⟩ = r) : w1.frozen? ⟨b, o, none⟩ = r :=
  (hb.frozen (p := ⟨b, o, none⟩) hl).trans h
theorem below_new1 (w : World) (o : Obj) : Below w.heap.size w (w.alloc o) := (Below.refl _ _).alloc (Nat.le_refl _) _
theorem below_alloc1 {w w' : World} {o : Obj} (h : Below (w.alloc o).heap.size (w.alloc o) w') : Below w.heap.size w w' :=
  (below_new1 w o).trans (h.mono (by simp))
theorem below_alloc2 {w w' : World} {o o2 : Obj} (h : Below ((w.alloc o).alloc o2).heap.size ((w.alloc o).alloc o2) w') : Below w.heap.size w w' := below_alloc1 (below_alloc1 h)
theorem below_alloc3 {w w' : World} {o o2 o3 : Obj} (h : Below (((w.alloc o).alloc o2).alloc o3).heap.size (((w.alloc o).alloc o2).alloc o3) w') : Below w.heap.size w w' := below_alloc1 (below_alloc2 h)
theorem below_step {a b c : World} (h : Below a.heap.size a b) (k : Below b.heap.size b c) : Below a.heap.size a c := h.trans (k.mono h.size)
theorem below_drews {a b : World} (h : Below a.heap.size a b) (n : Nat) : Below a.heap.size a (b.drewN n) := below_drewN h n
theorem lt_below {W w1 : World} {b : Nat} (hb : Below W.heap.size W w1) (h : b < W.heap.size) : b < w1.heap.size := Nat.lt_of_lt_of_le h hb.size
theorem owns_below {w w' : World} {B e size n : Nat} {v : Value} {xs : List Value} (h : w.ownsRow B e size v n xs) (hb : Below w.heap.size w w') : w'.ownsRow B e size v n xs := by
  refine ⟨h.1, ?_⟩
  rcases h.2 with hn | ⟨g, cap, cur, rfl, hg, hgg, rest⟩
  · exact .inl hn
  · refine .inr ⟨g, cap, cur, rfl, hg, ?_, rest⟩
    rw [hb.block g (by rcases Nat.lt_or_ge g w.heap.size with h | h; exact h; rw [Array.getElem?_eq_none h] at hgg; cases hgg)]
    exact hgg
theorem owns_len {w : World} {B e size n : Nat} {v : Value} {xs : List Value} (h : w.ownsRow B e size v n xs) : ∃ a c, v = .slice a n c := owns_slice h

theorem gb_cell {w w1 : World} {r : Option Nat} (hg : w.grownBy w1 r) {b o : Nat} {x : Value} (h : w.cell? ⟨b, o, none⟩ = some x) (hne : ∀ j, r = some j → j = b → False) : w1.cell? ⟨b, o, none⟩ = some x :=
  (World.cell?_of_block (a := ⟨b, o, none⟩) (hg.block b (World.block_lt_of_cell? w ⟨b, o, none⟩ h) (fun hc => hne b (by simpa using hc.symm) rfl))).trans h

theorem keepA_ {w : World} {b o b' o' : Nat} {v u : Value} (h : w.cell? ⟨b', o', none⟩ = some u) (hne : b ≠ b' ∨ o ≠ o') : (w.setCell ⟨b, o, none⟩ v).cell? ⟨b', o', none⟩ = some u := by
  rw [World.cell?_setCell_other _ _ _ _ (fun he => by simp at he; omega)]; exact h

theorem gb_below {w w1 : World} (h : w.grownBy w1 none) : Below w.heap.size w w1 := ⟨h.os, h.tape, h.output, h.size, fun k hk => h.block k hk (by simp)⟩

/-- A store into a cell that holds a slice keeps a row of integers. -/
theorem hasInts_setS {w : World} {v u : Value} {zs : List Int} {a : Option Addr} {l c : Nat} {b o : Nat} (h : HasInts w v zs) (hbox : w.cell? ⟨b, o, none⟩ = some (.slice a l c)) : HasInts (w.setCell ⟨b, o, none⟩ u) v zs := by
  obtain ⟨a', cap, rfl, hl, h⟩ := h
  refine ⟨a', cap, rfl, hl, ?_⟩
  rcases h with h | ⟨b', o', rfl, h⟩
  · exact Or.inl h
  · refine Or.inr ⟨b', o', rfl, fun j hj => ?_⟩
    have hc := h j hj
    have hne : (⟨b', o' + j, none⟩ : Addr) ≠ ⟨b, o, none⟩ := by
      intro he
      rw [he, hbox] at hc
      simp at hc
    rw [World.cell?_setCell_other _ _ _ _ (Ne.symm hne)]
    exact hc
theorem hasInts_newA {w : World} {cs : Array Value} {T : TypeId} {n g : Nat} (l : List Int) (hcs : cs = (l.map (Value.int .i64)).toArray) (hn : n = l.length) (hl : l.length ≤ 1000) (hg : g = w.heap.size) : HasInts (w.alloc (.cells cs T)) (.slice (some ⟨g, 0, none⟩) n n) l := by
  subst hcs; subst hn; subst hg
  refine ⟨_, _, rfl, by omega, Or.inr ⟨_, _, rfl, fun j hj => ?_⟩⟩
  rw [World.cell?_alloc_at _ _ _ _ rfl]
  simp [List.getD, List.getElem?_eq_getElem hj]

/-- The cells of a block, from its first on. -/
def CellsAt (w : World) (b : Nat) (l : List Value) : Prop := ∀ j v, l[j]? = some v → w.cell? ⟨b, j, none⟩ = some v
theorem cellsAt_keep {w w' : World} {b : Nat} {l : List Value} (h : CellsAt w b l) (hb : Below w.heap.size w w') : CellsAt w' b l := fun j v hj => cel_below hb (h j v hj)
theorem cellsAt_alloc {w : World} {b : Nat} {l : List Value} (h : CellsAt w b l) (o : Obj) : CellsAt (w.alloc o) b l := cellsAt_keep h (below_new1 w o)
theorem cellsAt_new (w : World) (cs : Array Value) (T : TypeId) : CellsAt (w.alloc (.cells cs T)) w.heap.size cs.toList := fun j v hj => by
  rw [World.cell?_alloc_at _ _ _ _ rfl]; simpa using hj

end Go.Proofs.Ytaclhiagfgmgkaa
