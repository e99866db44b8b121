
/-
  Layer 27: the chapter's example.
-/
import Derived.Test.YtfkmcibglaiakaaDoorRows
import Derived.Test.YtfkmcibglaiakaaDoorBase
import Derived.Test.YtfkmcibglaiakaaDoorScL
import Derived.WalkKit
namespace Go.Proofs.YtfkmcibglaiakaaDoor
open Go Go.RowKit SZ
set_option linter.unusedVariables false
set_option linter.unusedSimpArgs false
set_option maxRecDepth 100000
attribute [local irreducible] post GD Nxt NxtAll
def ex1 : List Nat := [48, 120, 50, 32, 49, 126, 50, 32, 49, 32, 48, 32, 49, 32, 48, 32, 33, 51, 44, 51, 50, 32, 48]
def ex2 : List Nat := [48, 120, 51, 32, 49, 32, 48, 32, 33, 51, 44, 51, 50]
def exP1 : List Pw := [⟨1, 0, 0, []⟩, ⟨1, 0, 0, []⟩, ⟨2, 1, 2, []⟩, ⟨1, 1, 0, []⟩, ⟨1, 0, 0, []⟩, ⟨1, 1, 0, []⟩, ⟨1, 0, 0, []⟩, ⟨3, 0, 0, [3, 32]⟩, ⟨1, 0, 0, []⟩]
def exP2 : List Pw := [⟨1, 0, 0, []⟩, ⟨1, 0, 0, []⟩, ⟨1, 0, 0, []⟩, ⟨1, 1, 0, []⟩, ⟨1, 0, 0, []⟩, ⟨3, 0, 0, [3, 32]⟩]
theorem ex_p1 : parseS ex1 = (0, exP1) := by kernel_rfl
theorem ex_p0 : parseS [48, 120] = (3, []) := by kernel_rfl
/-- The plain form of what picks say. -/
def plainW (t : Int) : (Int → Int) → Int → List Pw → List Pw
  | _, _, [] => []
  | u, n, p :: r => if rightB t p = true then
      (if p.k = 1 then (if n + 1 > u p.a then p :: plainW t u (n + 1) r else plainW t u (n + 1) r)
       else if p.k = 2 then plainW t (upd u p.a (maxI (u p.a) (n + 1 + p.b))) (n + 1) r
       else [p])
    else plainW t u n r
theorem plainK_w (t : Int) : ∀ (ps : List Pk) (u : Int → Int) (n : Int), (plainK t u n ps).map Pk.w = plainW t u n (ps.map Pk.w)
  | [], u, n => rfl
  | p :: r, u, n => by
    have e1 : p.w.k = p.k := rfl
    have e2 : p.w.a = p.a := rfl
    have e3 : p.w.b = p.b := rfl
    rw [List.map_cons]
    unfold plainK plainW
    rw [e1, e2, e3]
    by_cases h : rightB t p.w = true
    · rw [if_pos h, if_pos h]
      by_cases h1 : p.k = 1
      · rw [if_pos h1, if_pos h1]
        by_cases h2 : n + 1 > u p.a
        · rw [if_pos h2, if_pos h2, List.map_cons, plainK_w t r]
        · rw [if_neg h2, if_neg h2, plainK_w t r]
      · rw [if_neg h1, if_neg h1]
        by_cases h2 : p.k = 2
        · rw [if_pos h2, if_pos h2, plainK_w t r]
        · rw [if_neg h2, if_neg h2]
          rfl
    · rw [if_neg h, if_neg h, plainK_w t r]
theorem plainK_mem (t : Int) : ∀ (ps : List Pk) (u : Int → Int) (n : Int), ∀ p ∈ plainK t u n ps, p ∈ ps
  | [], u, n, p, h => by cases h
  | q :: r, u, n, p, h => by
    unfold plainK at h
    split at h
    · split at h
      · split at h
        · rcases List.mem_cons.1 h with h | h
          · subst h; simp
          · exact List.mem_cons_of_mem _ (plainK_mem t r _ _ p h)
        · exact List.mem_cons_of_mem _ (plainK_mem t r _ _ p h)
      · split at h
        · exact List.mem_cons_of_mem _ (plainK_mem t r _ _ p h)
        · simp only [List.mem_singleton] at h; subst h; simp
    · exact List.mem_cons_of_mem _ (plainK_mem t r _ _ p h)
theorem ex_p2 : plainW 2 (fun _ => 0) 0 exP1 = exP2 := by kernel_rfl
theorem pkV_at : ∀ (ps : List Pk) (j : Nat), j < ps.length → (pkV ps)[j * 4]? = some (.int .i64 (ps.getD j pk0).k) ∧ (pkV ps)[j * 4 + 1]? = some (.int .i64 (ps.getD j pk0).a) ∧ (pkV ps)[j * 4 + 2]? = some (.int .i64 (ps.getD j pk0).b) ∧ (pkV ps)[j * 4 + 3]? = some (.slice (ps.getD j pk0).s (ps.getD j pk0).c.length (ps.getD j pk0).cp)
  | [], j, h => by simp at h
  | p :: r, 0, _ => ⟨rfl, rfl, rfl, rfl⟩
  | p :: r, j + 1, h => by
    have hr := pkV_at r j (by simpa using h)
    have e : pkV (p :: r) = .int .i64 p.k :: .int .i64 p.a :: .int .i64 p.b :: .slice p.s p.c.length p.cp :: pkV r := rfl
    rw [e, show (j + 1) * 4 = j * 4 + 1 + 1 + 1 + 1 by omega]
    exact hr
theorem ps_of_owns {w : World} {B : Nat} {v : Value} {ps : List Pk} (h : w.ownsRow B 25 4 v ps.length (pkV ps)) : ∃ a cp b, v = .slice a ps.length cp ∧ (ps.length = 0 ∨ a = some ⟨b, 0, none⟩) ∧ PsAt w b 0 ps ∧ (ps.length = 0 ∨ B ≤ b) := by
  rcases h.2 with ⟨rfl, hz⟩ | ⟨g, cap, cur, rfl, hb, hg, h1, h2, h3, h4⟩
  · exact ⟨none, 0, 0, by rw [hz], Or.inl hz, fun j hj => by omega, Or.inl hz⟩
  · have hc := h.cells (g := g) rfl
    refine ⟨_, cap, g, rfl, Or.inr rfl, fun j hj => ?_, Or.inr hb⟩
    obtain ⟨q1, q2, q3, q4⟩ := pkV_at ps j hj
    have c1 := hc _ _ q1
    have c2 := hc _ _ q2
    have c3 := hc _ _ q3
    have c4 := hc _ _ q4
    have ea : ∀ k, (⟨g, 0, none⟩ : Addr).add k = ⟨g, 0 + k, none⟩ := fun k => by unfold Addr.add; split <;> simp_all
    rw [ea] at c1 c2 c3 c4
    exact ⟨c1, c2, c3, c4⟩
theorem text_t (w : World) (hlow : 1 < w.heap.size) (ht : rfTb.P w) (b off cap : Nat) (a : Option Addr) (ps : List Pk) (hreach : ps.length ≤ 1000) (ha : ps.length = 0 ∨ a = some ⟨b, off, none⟩) (hc : PsAt w b off ps) (hps : ∀ p ∈ ps, Pkr w p) : Calls Tryd.prog 22 #[.slice a ps.length cap] w fun e W' => e = .returned (.string (strOf (textS ps))) ∧ Below w.heap.size w W' :=
  callsIn_wide.1 (text_in w hlow ht b off cap a ps hreach (fun h => ha.resolve_left (by omega)) (by
    rcases Nat.eq_zero_or_pos ps.length with h | h
    · exact Or.inl h
    · exact Or.inr ((rfPs b off ps).lt w hc b ⟨rfl, by omega⟩)) hc (fun j hj => hps _ (getD_mem ps j pk0 hj)))
theorem dig_one (u : Nat) (h : u < 10) : digL (u : Int) = [48 + u] := by
  unfold digL
  rw [Lib.itoa_nonneg, Lib.decDigits_one h]
  simp
  omega
theorem dig_32 : digL 32 = [51, 50] := by
  unfold digL
  rw [show (32 : Int) = ((32 : Nat) : Int) from rfl, Lib.itoa_nonneg, Lib.decDigits_two (by omega) (by omega)]
  rfl
theorem dig_0 : digL 0 = [48] := dig_one 0 (by omega)
theorem dig_1 : digL 1 = [49] := dig_one 1 (by omega)
theorem dig_2 : digL 2 = [50] := dig_one 2 (by omega)
theorem dig_3 : digL 3 = [51] := dig_one 3 (by omega)
theorem ex_t1_c (s0 : Option Addr) (c0 b0 o0 : Nat) (s1 : Option Addr) (c1 b1 o1 : Nat) (s2 : Option Addr) (c2 b2 o2 : Nat) (s3 : Option Addr) (c3 b3 o3 : Nat) (s4 : Option Addr) (c4 b4 o4 : Nat) (s5 : Option Addr) (c5 b5 o5 : Nat) (s6 : Option Addr) (c6 b6 o6 : Nat) (s7 : Option Addr) (c7 b7 o7 : Nat) (s8 : Option Addr) (c8 b8 o8 : Nat) : textS [⟨1, 0, 0, s0, c0, b0, o0, []⟩, ⟨1, 0, 0, s1, c1, b1, o1, []⟩, ⟨2, 1, 2, s2, c2, b2, o2, []⟩, ⟨1, 1, 0, s3, c3, b3, o3, []⟩, ⟨1, 0, 0, s4, c4, b4, o4, []⟩, ⟨1, 1, 0, s5, c5, b5, o5, []⟩, ⟨1, 0, 0, s6, c6, b6, o6, []⟩, ⟨3, 0, 0, s7, c7, b7, o7, [3, 32]⟩, ⟨1, 0, 0, s8, c8, b8, o8, []⟩] = ex1 := by
  have e1 : (rnS [⟨1, 0, 0, s0, c0, b0, o0, []⟩, ⟨1, 0, 0, s1, c1, b1, o1, []⟩, ⟨2, 1, 2, s2, c2, b2, o2, []⟩, ⟨1, 1, 0, s3, c3, b3, o3, []⟩, ⟨1, 0, 0, s4, c4, b4, o4, []⟩, ⟨1, 1, 0, s5, c5, b5, o5, []⟩, ⟨1, 0, 0, s6, c6, b6, o6, []⟩, ⟨3, 0, 0, s7, c7, b7, o7, [3, 32]⟩, ⟨1, 0, 0, s8, c8, b8, o8, []⟩] 0).map (wordX [⟨1, 0, 0, s0, c0, b0, o0, []⟩, ⟨1, 0, 0, s1, c1, b1, o1, []⟩, ⟨2, 1, 2, s2, c2, b2, o2, []⟩, ⟨1, 1, 0, s3, c3, b3, o3, []⟩, ⟨1, 0, 0, s4, c4, b4, o4, []⟩, ⟨1, 1, 0, s5, c5, b5, o5, []⟩, ⟨1, 0, 0, s6, c6, b6, o6, []⟩, ⟨3, 0, 0, s7, c7, b7, o7, [3, 32]⟩, ⟨1, 0, 0, s8, c8, b8, o8, []⟩]) = [wordT ⟨1, 0, 0, []⟩ 2, wordT ⟨2, 1, 2, []⟩ 1, wordT ⟨1, 1, 0, []⟩ 1, wordT ⟨1, 0, 0, []⟩ 1, wordT ⟨1, 1, 0, []⟩ 1, wordT ⟨1, 0, 0, []⟩ 1, wordT ⟨3, 0, 0, [3, 32]⟩ 1, wordT ⟨1, 0, 0, []⟩ 1] := by kernel_rfl
  unfold textS
  rw [e1]
  have w1 : wordT ⟨1, 0, 0, []⟩ 2 = [48, 120, 50] := by simp [wordT, dig_0, dig_1, dig_2, dig_3, dig_32, joinN, List.intercalate]
  have w2 : wordT ⟨2, 1, 2, []⟩ 1 = [49, 126, 50] := by simp [wordT, dig_0, dig_1, dig_2, dig_3, dig_32, joinN, List.intercalate]
  have w3 : wordT ⟨1, 1, 0, []⟩ 1 = [49] := by simp [wordT, dig_0, dig_1, dig_2, dig_3, dig_32, joinN, List.intercalate]
  have w4 : wordT ⟨1, 0, 0, []⟩ 1 = [48] := by simp [wordT, dig_0, dig_1, dig_2, dig_3, dig_32, joinN, List.intercalate]
  have w5 : wordT ⟨3, 0, 0, [3, 32]⟩ 1 = [33, 51, 44, 51, 50] := by simp [wordT, dig_0, dig_1, dig_2, dig_3, dig_32, joinN, List.intercalate]
  rw [w1, w2, w3, w4, w5]
  rfl
theorem ex_t1 {ps : List Pk} (h : ps.map Pk.w = exP1) : textS ps = ex1 := by
  have hl : ps.length = 9 := by have q := congrArg List.length h; rw [List.length_map] at q; exact q
  match ps, hl, h with
  | [⟨k0, a0, d0, s0, c0, b0, o0, l0⟩, ⟨k1, a1, d1, s1, c1, b1, o1, l1⟩, ⟨k2, a2, d2, s2, c2, b2, o2, l2⟩, ⟨k3, a3, d3, s3, c3, b3, o3, l3⟩, ⟨k4, a4, d4, s4, c4, b4, o4, l4⟩, ⟨k5, a5, d5, s5, c5, b5, o5, l5⟩, ⟨k6, a6, d6, s6, c6, b6, o6, l6⟩, ⟨k7, a7, d7, s7, c7, b7, o7, l7⟩, ⟨k8, a8, d8, s8, c8, b8, o8, l8⟩], _, h =>
    have h2 : [(⟨k0, a0, d0, l0⟩ : Pw), (⟨k1, a1, d1, l1⟩ : Pw), (⟨k2, a2, d2, l2⟩ : Pw), (⟨k3, a3, d3, l3⟩ : Pw), (⟨k4, a4, d4, l4⟩ : Pw), (⟨k5, a5, d5, l5⟩ : Pw), (⟨k6, a6, d6, l6⟩ : Pw), (⟨k7, a7, d7, l7⟩ : Pw), (⟨k8, a8, d8, l8⟩ : Pw)] = [⟨1, 0, 0, []⟩, ⟨1, 0, 0, []⟩, ⟨2, 1, 2, []⟩, ⟨1, 1, 0, []⟩, ⟨1, 0, 0, []⟩, ⟨1, 1, 0, []⟩, ⟨1, 0, 0, []⟩, ⟨3, 0, 0, [3, 32]⟩, ⟨1, 0, 0, []⟩] := h
    simp only [List.cons.injEq, Pw.mk.injEq, and_true] at h2
    obtain ⟨⟨rfl, rfl, rfl, rfl⟩, ⟨rfl, rfl, rfl, rfl⟩, ⟨rfl, rfl, rfl, rfl⟩, ⟨rfl, rfl, rfl, rfl⟩, ⟨rfl, rfl, rfl, rfl⟩, ⟨rfl, rfl, rfl, rfl⟩, ⟨rfl, rfl, rfl, rfl⟩, ⟨rfl, rfl, rfl, rfl⟩, ⟨rfl, rfl, rfl, rfl⟩⟩ := h2
    exact ex_t1_c _ _ _ _ _ _ _ _ _ _ _ _ _ _ _ _ _ _ _ _ _ _ _ _ _ _ _ _ _ _ _ _ _ _ _ _
theorem ex_t2_c (s0 : Option Addr) (c0 b0 o0 : Nat) (s1 : Option Addr) (c1 b1 o1 : Nat) (s2 : Option Addr) (c2 b2 o2 : Nat) (s3 : Option Addr) (c3 b3 o3 : Nat) (s4 : Option Addr) (c4 b4 o4 : Nat) (s5 : Option Addr) (c5 b5 o5 : Nat) : textS [⟨1, 0, 0, s0, c0, b0, o0, []⟩, ⟨1, 0, 0, s1, c1, b1, o1, []⟩, ⟨1, 0, 0, s2, c2, b2, o2, []⟩, ⟨1, 1, 0, s3, c3, b3, o3, []⟩, ⟨1, 0, 0, s4, c4, b4, o4, []⟩, ⟨3, 0, 0, s5, c5, b5, o5, [3, 32]⟩] = ex2 := by
  have e1 : (rnS [⟨1, 0, 0, s0, c0, b0, o0, []⟩, ⟨1, 0, 0, s1, c1, b1, o1, []⟩, ⟨1, 0, 0, s2, c2, b2, o2, []⟩, ⟨1, 1, 0, s3, c3, b3, o3, []⟩, ⟨1, 0, 0, s4, c4, b4, o4, []⟩, ⟨3, 0, 0, s5, c5, b5, o5, [3, 32]⟩] 0).map (wordX [⟨1, 0, 0, s0, c0, b0, o0, []⟩, ⟨1, 0, 0, s1, c1, b1, o1, []⟩, ⟨1, 0, 0, s2, c2, b2, o2, []⟩, ⟨1, 1, 0, s3, c3, b3, o3, []⟩, ⟨1, 0, 0, s4, c4, b4, o4, []⟩, ⟨3, 0, 0, s5, c5, b5, o5, [3, 32]⟩]) = [wordT ⟨1, 0, 0, []⟩ 3, wordT ⟨1, 1, 0, []⟩ 1, wordT ⟨1, 0, 0, []⟩ 1, wordT ⟨3, 0, 0, [3, 32]⟩ 1] := by kernel_rfl
  unfold textS
  rw [e1]
  have w1 : wordT ⟨1, 0, 0, []⟩ 3 = [48, 120, 51] := by simp [wordT, dig_0, dig_1, dig_2, dig_3, dig_32, joinN, List.intercalate]
  have w2 : wordT ⟨1, 1, 0, []⟩ 1 = [49] := by simp [wordT, dig_0, dig_1, dig_2, dig_3, dig_32, joinN, List.intercalate]
  have w3 : wordT ⟨1, 0, 0, []⟩ 1 = [48] := by simp [wordT, dig_0, dig_1, dig_2, dig_3, dig_32, joinN, List.intercalate]
  have w4 : wordT ⟨3, 0, 0, [3, 32]⟩ 1 = [33, 51, 44, 51, 50] := by simp [wordT, dig_0, dig_1, dig_2, dig_3, dig_32, joinN, List.intercalate]
  rw [w1, w2, w3, w4]
  rfl
theorem ex_t2 {ps : List Pk} (h : ps.map Pk.w = exP2) : textS ps = ex2 := by
  have hl : ps.length = 6 := by have q := congrArg List.length h; rw [List.length_map] at q; exact q
  match ps, hl, h with
  | [⟨k0, a0, d0, s0, c0, b0, o0, l0⟩, ⟨k1, a1, d1, s1, c1, b1, o1, l1⟩, ⟨k2, a2, d2, s2, c2, b2, o2, l2⟩, ⟨k3, a3, d3, s3, c3, b3, o3, l3⟩, ⟨k4, a4, d4, s4, c4, b4, o4, l4⟩, ⟨k5, a5, d5, s5, c5, b5, o5, l5⟩], _, h =>
    have h2 : [(⟨k0, a0, d0, l0⟩ : Pw), (⟨k1, a1, d1, l1⟩ : Pw), (⟨k2, a2, d2, l2⟩ : Pw), (⟨k3, a3, d3, l3⟩ : Pw), (⟨k4, a4, d4, l4⟩ : Pw), (⟨k5, a5, d5, l5⟩ : Pw)] = [⟨1, 0, 0, []⟩, ⟨1, 0, 0, []⟩, ⟨1, 0, 0, []⟩, ⟨1, 1, 0, []⟩, ⟨1, 0, 0, []⟩, ⟨3, 0, 0, [3, 32]⟩] := h
    simp only [List.cons.injEq, Pw.mk.injEq, and_true] at h2
    obtain ⟨⟨rfl, rfl, rfl, rfl⟩, ⟨rfl, rfl, rfl, rfl⟩, ⟨rfl, rfl, rfl, rfl⟩, ⟨rfl, rfl, rfl, rfl⟩, ⟨rfl, rfl, rfl, rfl⟩, ⟨rfl, rfl, rfl, rfl⟩⟩ := h2
    exact ex_t2_c _ _ _ _ _ _ _ _ _ _ _ _ _ _ _ _ _ _ _ _ _ _ _ _
end Go.Proofs.YtfkmcibglaiakaaDoor
