
/-
  Layer 15: the accesses that initialize the memory, by the program.
-/
import Derived.Test.YtimjodpndhckdaaRows
import Derived.Test.YtimjodpndhckdaaBase
import Derived.Test.YtimjodpndhckdaaAux
import Derived.Test.YtimjodpndhckdaaMemA
import Derived.Test.YtimjodpndhckdaaMemB
import Derived.Test.YtimjodpndhckdaaMemE
import Derived.Test.YtimjodpndhckdaaMemF
import Derived.Test.YtimjodpndhckdaaLayA
import Derived.Outline
namespace Go.Proofs.Ytimjodpndhckdaa
set_option maxRecDepth 20000
open Go.ChangeShapes Go.WideShapes Go.ChangeAt Go.RowKit

theorem info_acc : (Try.prog.info? 40).map (fun i => (i.zero, i.size, i.bytes)) = some (some (.agg #[.int .i64 0, .int .i64 0, .int .i64 0, .int .i64 0, .string ByteArray.empty]), 5, 48) := by kernel_rfl
/-- The cells of accesses. -/
def accCells : List AccD → List Value
  | [] => []
  | a :: l => .int .i64 a.k :: .int .i64 a.c :: .int .i64 a.o :: .int .i64 a.n :: .string a.b :: accCells l
theorem accCells_append (l m : List AccD) : accCells (l ++ m) = accCells l ++ accCells m := by
  induction l with
  | nil => rfl
  | cons r l ih => show _ :: _ :: _ :: _ :: _ :: accCells (l ++ m) = _; rw [ih]; rfl
theorem accCells_length (l : List AccD) : (accCells l).length = l.length * 5 := by
  induction l with
  | nil => rfl
  | cons r l ih => show (accCells l).length + 1 + 1 + 1 + 1 + 1 = (l.length + 1) * 5; omega
theorem accCells_at (l : List AccD) (j : Nat) (hj : j < l.length) : (accCells l)[j * 5]? = some (.int .i64 (l.getD j noAcc).k) ∧ (accCells l)[j * 5 + 1]? = some (.int .i64 (l.getD j noAcc).c) ∧ (accCells l)[j * 5 + 2]? = some (.int .i64 (l.getD j noAcc).o) ∧ (accCells l)[j * 5 + 3]? = some (.int .i64 (l.getD j noAcc).n) ∧ (accCells l)[j * 5 + 4]? = some (.string (l.getD j noAcc).b) := by
  induction l generalizing j with
  | nil => simp at hj
  | cons r l ih =>
    cases j with
    | zero => exact ⟨rfl, rfl, rfl, rfl, rfl⟩
    | succ j =>
      have h := ih j (by simpa using hj)
      have e : (r :: l).getD (j + 1) noAcc = l.getD j noAcc := by simp [List.getD]
      rw [e]
      have e2 : (j + 1) * 5 = j * 5 + 1 + 1 + 1 + 1 + 1 := by omega
      rw [e2]
      exact h
theorem hasAccs_of_owns {w : World} {B : Nat} {v : Value} {rs : List AccD} (h : w.ownsRow B 40 5 v rs.length (accCells rs)) : HasAccs w v rs := by
  have h0 := h
  obtain ⟨_, h | ⟨g, cap, cur, rfl, _, _, hn, hc, _, _⟩⟩ := h
  · obtain ⟨rfl, hz⟩ := h
    exact ⟨none, 0, by rw [hz], by omega, Or.inl hz⟩
  · refine ⟨some ⟨g, 0, none⟩, cap, rfl, by unfold maxLen at hc; omega, Or.inr ⟨g, 0, rfl, fun j hj => ?_⟩⟩
    obtain ⟨h1, h2, h3, h4, h5⟩ := accCells_at rs j hj
    rw [Nat.zero_add, h0.cellAt (j * 5) (by omega), h0.cellAt (j * 5 + 1) (by omega), h0.cellAt (j * 5 + 2) (by omega), h0.cellAt (j * 5 + 3) (by omega), h0.cellAt (j * 5 + 4) (by omega)]
    exact ⟨h1, h2, h3, h4, h5⟩

def setAcc (c n : Int) : AccD := ⟨2, c, 0, n, ByteArray.empty⟩
/-- The accesses for the first k values. -/
def initN (l : Ly) (zs : List Int) : Nat → List AccD
  | 0 => [setAcc l.stamps 1]
  | k + 1 => initN l zs k ++ if (k : Int) < l.c.l then [setAcc (atVal l k) (zs.getD k 0)] else []
theorem initN_length (l : Ly) (zs : List Int) (k : Nat) : (initN l zs k).length ≤ k + 1 := by
  induction k with
  | zero => exact Nat.le_refl _
  | succ k ih => unfold initN; rw [List.length_append]; split <;> simp <;> omega

theorem acc_cell {w : World} {k c o n : Int} {s : ByteArray} {T : TypeId} (j : Nat) (u : Value) (hj : [Value.int .i64 k, Value.int .i64 c, Value.int .i64 o, Value.int .i64 n, Value.string s][j]? = some u) : (w.alloc (.cells #[.int .i64 k, .int .i64 c, .int .i64 o, .int .i64 n, .string s] T)).cell? ((⟨w.heap.size, 0, none⟩ : Addr).add j) = some u := by
  match j, hj with
  | 0, hj => simp at hj; subst hj; simp [Addr.add, World.cell?_alloc_at]
  | 1, hj => simp at hj; subst hj; simp [Addr.add, World.cell?_alloc_at]
  | 2, hj => simp at hj; subst hj; simp [Addr.add, World.cell?_alloc_at]
  | 3, hj => simp at hj; subst hj; simp [Addr.add, World.cell?_alloc_at]
  | 4, hj => simp at hj; subst hj; simp [Addr.add, World.cell?_alloc_at]

set_option maxHeartbeats 3200000 in
set_option maxRecDepth 100000 in
theorem init_any (l : Ly) (v : Value) (zs : List Int) (w : World) (hok : l.ok) (hv : HasInts w v zs) (hlen : zs.length ≤ 1000000) :
    Calls Try.prog 32 #[l.v, v] w fun e w' => ∃ u, e = .returned u ∧ HasAccs w' u (initN l zs zs.length) ∧ Below w.heap.size w w' := by
  obtain ⟨i0, hi, hz0, hz1', hz2⟩ := info_parts info_acc
  obtain ⟨a, cap, rfl, _, hc⟩ := hv
  have HC := Lib.hid hc
  have HV := Lib.hid (fun n w => val_any l n w hok)
  have HK := Lib.hid hok
  clear hc hok
  obtain ⟨M, hM⟩ : ∃ M, M = zs.length := ⟨_, rfl⟩
  rw [← hM] at hlen HC ⊢
  have HM := Lib.hid hM
  clear hM
  unfold Ly.v at HV ⊢
  go_enter Try.func32, Try.ntmps32
  go_wp2
  obtain ⟨W0, hW0⟩ : ∃ W0, W0 = (w.alloc (.cells #[.int .i64 l.c.t, .int .i64 l.c.l, .int .i64 l.c.k, .int .i64 l.c.s, .int .i64 l.c.m, .int .i64 l.clock, .int .i64 l.stamps, .int .i64 l.log, .int .i64 l.fin, .int .i64 l.thread, .int .i64 l.lock, .int .i64 l.loc, .int .i64 l.size] 53)).alloc (.cells #[.int .i64 2, .int .i64 l.stamps, .int .i64 0, .int .i64 1, .string ⟨#[]⟩] 40) := ⟨_, rfl⟩
  rw [← hW0]
  have HS0 : Hid (w.heap.size + 2 = W0.heap.size) := Lib.hid (by rw [hW0]; simp)
  have HB0 : Hid (Below w.heap.size w W0) := Lib.hid (by rw [hW0]; exact ((Below.refl _ _).alloc (Nat.le_refl _) _).alloc (by simp) _)
  have HO0 : Hid (W0.ownsRow (w.heap.size + 1) 40 5 (.slice (some ⟨w.heap.size + 1, 0, none⟩) 1 1) 1 (accCells [setAcc l.stamps 1])) := Lib.hid (by
    rw [hW0]
    have := World.ownsRow_lit (base := w.heap.size + 1) (e := 40) (size := 5) (w.alloc (.cells #[.int .i64 l.c.t, .int .i64 l.c.l, .int .i64 l.c.k, .int .i64 l.c.s, .int .i64 l.c.m, .int .i64 l.clock, .int .i64 l.stamps, .int .i64 l.log, .int .i64 l.fin, .int .i64 l.thread, .int .i64 l.lock, .int .i64 l.loc, .int .i64 l.size] 53)) #[.int .i64 2, .int .i64 l.stamps, .int .i64 0, .int .i64 1, .string ⟨#[]⟩] 1 (by simp) (by unfold maxLen; omega) rfl
    rw [show accCells [setAcc l.stamps 1] = [.int .i64 2, .int .i64 l.stamps, .int .i64 0, .int .i64 1, .string ⟨#[]⟩] from rfl]
    simpa using this)
  have q0 : Hid (W0.cell? ⟨w.heap.size, 0, none⟩ = some (.int .i64 l.c.t)) := Lib.hid (by rw [hW0]; go_simp)
  have q1 : Hid (W0.cell? ⟨w.heap.size, 1, none⟩ = some (.int .i64 l.c.l)) := Lib.hid (by rw [hW0]; go_simp)
  have q2 : Hid (W0.cell? ⟨w.heap.size, 2, none⟩ = some (.int .i64 l.c.k)) := Lib.hid (by rw [hW0]; go_simp)
  have q3 : Hid (W0.cell? ⟨w.heap.size, 3, none⟩ = some (.int .i64 l.c.s)) := Lib.hid (by rw [hW0]; go_simp)
  have q4 : Hid (W0.cell? ⟨w.heap.size, 4, none⟩ = some (.int .i64 l.c.m)) := Lib.hid (by rw [hW0]; go_simp)
  have q5 : Hid (W0.cell? ⟨w.heap.size, 5, none⟩ = some (.int .i64 l.clock)) := Lib.hid (by rw [hW0]; go_simp)
  have q6 : Hid (W0.cell? ⟨w.heap.size, 6, none⟩ = some (.int .i64 l.stamps)) := Lib.hid (by rw [hW0]; go_simp)
  have q7 : Hid (W0.cell? ⟨w.heap.size, 7, none⟩ = some (.int .i64 l.log)) := Lib.hid (by rw [hW0]; go_simp)
  have q8 : Hid (W0.cell? ⟨w.heap.size, 8, none⟩ = some (.int .i64 l.fin)) := Lib.hid (by rw [hW0]; go_simp)
  have q9 : Hid (W0.cell? ⟨w.heap.size, 9, none⟩ = some (.int .i64 l.thread)) := Lib.hid (by rw [hW0]; go_simp)
  have q10 : Hid (W0.cell? ⟨w.heap.size, 10, none⟩ = some (.int .i64 l.lock)) := Lib.hid (by rw [hW0]; go_simp)
  have q11 : Hid (W0.cell? ⟨w.heap.size, 11, none⟩ = some (.int .i64 l.loc)) := Lib.hid (by rw [hW0]; go_simp)
  have q12 : Hid (W0.cell? ⟨w.heap.size, 12, none⟩ = some (.int .i64 l.size)) := Lib.hid (by rw [hW0]; go_simp)
  clear hW0
  obtain ⟨B, hB⟩ : ∃ B, B = w.heap.size + 1 := ⟨_, rfl⟩
  have HB := Lib.hid hB
  rw [← hB] at HO0 ⊢
  clear hB
  go_loopw [5, 14] (fun v i wr => ∃ k : Nat, k ≤ M ∧ i = .int .i64 k ∧ wr.ownsRow B 40 5 v (initN l zs k).length (accCells (initN l zs k)) ∧ Below B W0 wr) (fun _ i _ => M - (intOf i).toNat)
  case atStart => exact ⟨0, Nat.zero_le _, rfl, HO0.out, Below.refl _ _⟩
  case round =>
    obtain ⟨k, hk, rfl, hor, hbr⟩ := hrel
    have hwB : w.heap.size < wr.heap.size := by have := HB.out; have := HS0.out; have := hbr.size; omega
    have p0 : wr.cell? ⟨w.heap.size, 0, none⟩ = some (.int .i64 l.c.t) := (hbr.cell (p := ⟨w.heap.size, 0, none⟩) (by have := HB.out; show w.heap.size < B; omega)).trans q0.out
    have p1 : wr.cell? ⟨w.heap.size, 1, none⟩ = some (.int .i64 l.c.l) := (hbr.cell (p := ⟨w.heap.size, 1, none⟩) (by have := HB.out; show w.heap.size < B; omega)).trans q1.out
    have p2 : wr.cell? ⟨w.heap.size, 2, none⟩ = some (.int .i64 l.c.k) := (hbr.cell (p := ⟨w.heap.size, 2, none⟩) (by have := HB.out; show w.heap.size < B; omega)).trans q2.out
    have p3 : wr.cell? ⟨w.heap.size, 3, none⟩ = some (.int .i64 l.c.s) := (hbr.cell (p := ⟨w.heap.size, 3, none⟩) (by have := HB.out; show w.heap.size < B; omega)).trans q3.out
    have p4 : wr.cell? ⟨w.heap.size, 4, none⟩ = some (.int .i64 l.c.m) := (hbr.cell (p := ⟨w.heap.size, 4, none⟩) (by have := HB.out; show w.heap.size < B; omega)).trans q4.out
    have p5 : wr.cell? ⟨w.heap.size, 5, none⟩ = some (.int .i64 l.clock) := (hbr.cell (p := ⟨w.heap.size, 5, none⟩) (by have := HB.out; show w.heap.size < B; omega)).trans q5.out
    have p6 : wr.cell? ⟨w.heap.size, 6, none⟩ = some (.int .i64 l.stamps) := (hbr.cell (p := ⟨w.heap.size, 6, none⟩) (by have := HB.out; show w.heap.size < B; omega)).trans q6.out
    have p7 : wr.cell? ⟨w.heap.size, 7, none⟩ = some (.int .i64 l.log) := (hbr.cell (p := ⟨w.heap.size, 7, none⟩) (by have := HB.out; show w.heap.size < B; omega)).trans q7.out
    have p8 : wr.cell? ⟨w.heap.size, 8, none⟩ = some (.int .i64 l.fin) := (hbr.cell (p := ⟨w.heap.size, 8, none⟩) (by have := HB.out; show w.heap.size < B; omega)).trans q8.out
    have p9 : wr.cell? ⟨w.heap.size, 9, none⟩ = some (.int .i64 l.thread) := (hbr.cell (p := ⟨w.heap.size, 9, none⟩) (by have := HB.out; show w.heap.size < B; omega)).trans q9.out
    have p10 : wr.cell? ⟨w.heap.size, 10, none⟩ = some (.int .i64 l.lock) := (hbr.cell (p := ⟨w.heap.size, 10, none⟩) (by have := HB.out; show w.heap.size < B; omega)).trans q10.out
    have p11 : wr.cell? ⟨w.heap.size, 11, none⟩ = some (.int .i64 l.loc) := (hbr.cell (p := ⟨w.heap.size, 11, none⟩) (by have := HB.out; show w.heap.size < B; omega)).trans q11.out
    have p12 : wr.cell? ⟨w.heap.size, 12, none⟩ = some (.int .i64 l.size) := (hbr.cell (p := ⟨w.heap.size, 12, none⟩) (by have := HB.out; show w.heap.size < B; omega)).trans q12.out
    have HBw : Hid (Below w.heap.size w wr) := Lib.hid (HB0.out.trans (hbr.mono (by have := HB.out; omega)))
    have HOR := Lib.hid hor
    have HBR := Lib.hid hbr
    have HLn := Lib.hid (initN_length l zs k)
    clear hor hbr
    by_cases hlt : k < M
    · rcases HC.out with hx | ⟨bx, ox, rfl, hx⟩
      · omega
      obtain ⟨x, hxx⟩ : ∃ x, x = zs.getD k 0 := ⟨_, rfl⟩
      have hcx := cel_below HBw.out (hx k hlt)
      rw [← hxx] at hcx
      have HX := Lib.hid hxx
      clear hx hxx
      by_cases hloc : (k : Int) < l.c.l
      · have HN : Hid (initN l zs (k + 1) = initN l zs k ++ [setAcc (atVal l k) x]) := Lib.hid (by rw [HX.out]; show _ ++ _ = _; rw [if_pos hloc])
        obtain ⟨c, hc⟩ : ∃ c, c = atVal l k := ⟨_, rfl⟩
        have HVk : Hid (∀ w, Calls Try.prog 62 #[.agg #[.int .i64 l.c.t, .int .i64 l.c.l, .int .i64 l.c.k, .int .i64 l.c.s, .int .i64 l.c.m, .int .i64 l.clock, .int .i64 l.stamps, .int .i64 l.log, .int .i64 l.fin, .int .i64 l.thread, .int .i64 l.lock, .int .i64 l.loc, .int .i64 l.size], .int .i64 k] w fun e' w' => e' = .returned (.int .i64 c) ∧ Below w.heap.size w w') := Lib.hid (fun w => by rw [hc]; exact HV.out k w)
        rw [← hc] at HN
        clear hc
        go_wp2_with fail
        refine (HVk.out _).mono ?_
        rintro e w1 ⟨rfl, hb1⟩
        have HB1 := Lib.hid hb1
        have HO1 := Lib.hid (owns_below HOR.out hb1)
        clear hb1
        have hz1 : B ≤ w1.heap.size := by have := HB1.out.size; have := HBR.out.size; have := HS0.out; have := HB.out; omega
        go_wp2_with (first
          | (at_builtin; refine wpList_append_own _ rfl _ _ 25 rfl B 40 i0 (.agg #[.int .i64 0, .int .i64 0, .int .i64 0, .int .i64 0, .string ByteArray.empty]) 5 48 Try.underlying25 hi hz0 hz1' hz2 rfl (by decide) _ _ _ rfl (World.ownsRow.alloc HO1.out _) ⟨w1.heap.size, 0, none⟩ 1 1 [.int .i64 2, .int .i64 c, .int .i64 0, .int .i64 x, .string ⟨#[]⟩] rfl rfl (fun j u hj => acc_cell j u hj) (by intro u hu; simp at hu; rcases hu with rfl | rfl | rfl | rfl | rfl <;> rfl) (by have := HLn.out; unfold maxLen; omega) (by have := HLn.out; omega) (by simp; omega) ?_; intro v' w4 hown' hgrow' _))
        have hor4 : w4.ownsRow B 40 5 v' (initN l zs (k + 1)).length (accCells (initN l zs (k + 1))) := by
          rw [HN.out, accCells_append, List.length_append]; exact hown'
        have hbl4 : Below B W0 w4 := HBR.out.trans (((HB1.out.mono (by have := HBR.out.size; have := HS0.out; have := HB.out; omega)).alloc hz1 _).grown hgrow' (by simp; omega) (fun j hj => (HO1.out.lt j hj).1))
        clear hown' hgrow'
        go_roundw
        case rel => exact ⟨k + 1, by omega, by go_num, hor4, hbl4⟩
        case measure => simp [intOf]; omega
      · have HN : Hid (initN l zs (k + 1) = initN l zs k) := Lib.hid (by show _ ++ _ = _; rw [if_neg hloc]; simp)
        go_wp2
        go_roundw
        case rel => exact ⟨k + 1, by omega, by go_num, by rw [HN.out]; exact HOR.out, HBR.out⟩
        case measure => simp [intOf]; omega
    · obtain rfl : k = M := by omega
      go_wp2
      go_ret
      exact ⟨_, rfl, hasAccs_of_owns HOR.out, HBw.out⟩

end Go.Proofs.Ytimjodpndhckdaa
