
/-
  Layer 22: a sector is written.
-/
import Derived.Test.YtnlcjlhcghgaoaaRows
import Derived.Test.YtnlcjlhcghgaoaaBase
import Derived.Test.YtnlcjlhcghgaoaaZv
import Derived.Test.YtnlcjlhcghgaoaaDkC
import Derived.Test.YtnlcjlhcghgaoaaZa
import Derived.WalkKit
namespace Go.Proofs.Ytnlcjlhcghgaoaa
open Go Go.RowKit SZ
set_option linter.unusedVariables false
set_option linter.unusedSimpArgs false
set_option maxRecDepth 100000
attribute [local irreducible] post GD Nxt NxtAll
def wasV (W : List (Int × ByteArray)) : List Value := W.flatMap fun x => [.int .i64 x.1, .string x.2]
theorem wasV_len : ∀ W : List (Int × ByteArray), (wasV W).length = W.length * 2
  | [] => rfl
  | x :: W => by have := wasV_len W; simp only [wasV, List.flatMap_cons, List.length_append, List.length_cons, List.length_nil] at this ⊢; omega
theorem wasV_app (W X : List (Int × ByteArray)) : wasV (W ++ X) = wasV W ++ wasV X := by simp [wasV]
theorem wasV_get : ∀ (W : List (Int × ByteArray)) (j : Nat), j < W.length → (wasV W)[j * 2]? = some (.int .i64 (W.getD j (0, ByteArray.empty)).1) ∧ (wasV W)[j * 2 + 1]? = some (.string (W.getD j (0, ByteArray.empty)).2)
  | [], j, h => by simp at h
  | x :: W, 0, _ => ⟨rfl, rfl⟩
  | x :: W, j + 1, h => by
    have := wasV_get W j (by simpa using h)
    have e : wasV (x :: W) = .int .i64 x.1 :: .string x.2 :: wasV W := rfl
    rw [e, show (j + 1) * 2 = j * 2 + 1 + 1 by omega]
    simpa using this
theorem wasV_at {w : World} {c p : Nat} {W : List (Int × ByteArray)} (h : WasAt w c p W) (k : Nat) (x : Value) (hx : (wasV W)[k]? = some x) : w.cell? ⟨c, p + k, none⟩ = some x := by
  have hk := (List.getElem?_eq_some_iff.1 hx).1
  rw [wasV_len] at hk
  obtain ⟨h1, h2⟩ := h (k / 2) (by omega)
  obtain ⟨g1, g2⟩ := wasV_get W (k / 2) (by omega)
  rcases Nat.mod_two_eq_zero_or_one k with e | e
  · rw [show k / 2 * 2 = k by omega] at g1 h1
    rw [hx] at g1
    rw [h1, g1]
  · rw [show k / 2 * 2 + 1 = k by omega] at g2
    rw [show p + k / 2 * 2 + 1 = p + k by omega] at h2
    rw [hx] at g2
    rw [h2, g2]
theorem cel_of {w : World} {b o : Nat} {cs : List Value} {t : TypeId} {v : Value} (h : w.heap[b]? = some (.cells cs.toArray t (0, 0))) (hv : cs[o]? = some v) : w.cell? ⟨b, o, none⟩ = some v := by simp [World.cell?, h, hv]
theorem take_get {cs xs : List Value} {n j : Nat} {v : Value} (h : cs.take n = xs) (hx : xs[j]? = some v) : cs[j]? = some v := by
  rw [← h, List.getElem?_take] at hx
  split at hx
  · exact hx
  · cases hx
theorem strAt_of {w : World} {b : Nat} {cs : List Value} {t : TypeId} {S : List ByteArray} {n : Nat} (h : w.heap[b]? = some (.cells cs.toArray t (0, 0))) (hc : cs.take n = S.map Value.string) : StrAt w b 0 S := fun j hj => by
  rw [Nat.zero_add]
  refine cel_of h (take_get hc ?_)
  simp [List.getD, List.getElem?_eq_getElem hj]
theorem wasAt_of {w : World} {b : Nat} {cs : List Value} {t : TypeId} {W : List (Int × ByteArray)} {n : Nat} (h : w.heap[b]? = some (.cells cs.toArray t (0, 0))) (hc : cs.take n = wasV W) : WasAt w b 0 W := fun j hj => by
  rw [Nat.zero_add]
  exact ⟨cel_of h (take_get hc (wasV_get W j hj).1), cel_of h (take_get hc (wasV_get W j hj).2)⟩
theorem clip_t (d : Dk) (hd : d.ok) (hc : d.tc ≤ 9223372036854775807) (w : World) : Calls Try.prog 30 #[.slice d.ta d.tl d.tc] w fun e w' => e = .returned (.slice d.ta d.tl d.tl) ∧ Below w.heap.size w w' := by
  rcases hd.hw2 with ⟨h1, h2, h3⟩ | ⟨h1, h2, h3⟩
  · rw [h1, h2, h3]
    exact (clip_nil w).mono fun e w' h => ⟨h.1, h.2 ▸ Below.refl _ _⟩
  · rw [h1]
    exact (clip_some _ _ _ h3 hc w).mono fun e w' h => ⟨h.1, h.2 ▸ Below.refl _ _⟩
theorem own2 {P : Program} {w0 w : World} {r bs : List Nat} {s : SS} {F : List RF} {a : Act} {ty : TypeId} {cs : List Value} (S : Sy w0 r bs s F a w) (hK : s.K[2]? = some ⟨ty, cs⟩) : ∀ k x, cs[k]? = some x → w.cell? ((adr bs 2 0).add k) = some x := fun k x hx => by
  have ea : (adr bs 2 0).add k = ⟨bs.getD 2 0, 0 + k, none⟩ := by unfold Addr.add adr; split <;> simp_all
  rw [ea, Nat.zero_add]
  exact cel_of (S.bx 2 _ hK) hx
noncomputable def wrS (d : Dk) (j : Nat) (s : ByteArray) (g2 cap2 : Nat) : SS := ⟨41, [(1, .v (.int .i64 (j : Int))), (2, .v (.string s)), (3, .p 0 0), (6, .p 1 0), (8, .v (.slice (some ⟨g2, 0, none⟩) (d.tl + 1) cap2))], [⟨25, d.cs⟩, ⟨25, [.slice none 0 0, .slice none 0 0]⟩]⟩
def goN : Nat → Nat → List Nat → List It → List It
  | n + 1, r + 1, ch, .code (.seq x y) :: k => goN n (r + 1) ch (.code x :: .code y :: k)
  | n + 1, r + 1, ch, .code (.block id c) :: k => goN n (r + 1) ch (.code c :: .blk id :: k)
  | n + 1, r + 1, ch, .code (.region _ _ _) :: k => goN n r ch k
  | n + 1, r + 1, ch, .code .skip :: k => goN n (r + 1) ch k
  | n + 1, r + 1, ch, .blk _ :: k => goN n (r + 1) ch k
  | n + 1, r + 1, c :: ch, .code (.cond _ x y) :: k => goN n (r + 1) ch (.code (if c = 1 then x else y) :: k)
  | n + 1, r + 1, _ :: ch, .code (.loop _) :: k => goN n (r + 1) ch k
  | _, _, _, k => k
noncomputable def wrC : List It := goN 60 4 [0, 0] [.code (bodyOf Try.f17)]
set_option maxHeartbeats 8000000 in
theorem write_2 (w0 : World) (d : Dk) (hd : d.ok) (j : Nat) (hj : j < d.sl) (s : ByteArray) (hs : s.size = 32) (b0 b1 g2 cap2 : Nat) (cur2 : Array Value) (hn2 : d.tl + 1 ≤ cap2) (ht2 : cur2.toList.take ((d.tl + 1) * 2) = wasV (d.W ++ [((j : Int), (d.S.getD j ByteArray.empty))])) (aa : Act) (w : World)
    (S : Sy w0 [] [b0, b1] (wrS d j s g2 cap2) [rfBox g2 46 cur2.toList, rfSt d.b d.o d.S, rfWs d.c d.p d.W] aa w) (hgb : w0.heap.size ≤ g2) (hm2 : cap2 ≤ 9223372036854775807) (hl5 : d.tl ≤ 500) : post Try.prog wrC (bodyPost Try.prog Try.f17 fun e w' => ∃ d' : Dk, e = .returned (.tuple #[d'.v, .int .i64 0]) ∧ d'.ok ∧ d'.sl = d.sl ∧ d'.S = d.S.set j s ∧ d'.W = d.W ++ [((j : Int), (d.S.getD j ByteArray.empty))] ∧ d'.tc ≤ 9223372036854775807 ∧ (w0.heap.size ≤ d'.b ∧ w0.heap.size ≤ d'.c) ∧ StrAt w' d'.b d'.o d'.S ∧ WasAt w' d'.c d'.p d'.W ∧ Below w0.heap.size w0 w') .normal aa w := by
  have esa := hd.hs.resolve_left (show ¬ d.sl = 0 by omega)
  have hl1 := hd.l1
  refine sy_run (c := ⟨wrC, wrS d j s g2 cap2⟩) ⟨0, []⟩ 60 S fun bs aa w S => ?_
  have hltb := fun i hi => S.lt (i := i) hi
  have hg2lt := (rfBox g2 46 cur2.toList).lt w (S.fact (f := rfBox g2 46 cur2.toList) (by simp)) g2 rfl
  have hw0 := S.gr.size
  refine sy_call S (X := Value) (val := fun v => v) (C := fun v w' => w'.ownsRow w.heap.size 9 1 v d.sl (d.S.map Value.string)) (by
    have h := Try.slices_Clone_string d.b d.o d.sl d.sc d.S w (by rw [hd.hS]; exact Nat.le_refl _) (by omega) (S.fact (f := rfSt d.b d.o d.S) (by simp))
    rw [show d.S.take d.sl = d.S by rw [← hd.hS]; exact List.take_length, ← esa] at h
    exact h.mono fun e w' ⟨v, h1, h2, _, h3⟩ => ⟨v, h1, h2, h3⟩) (by kernel_rfl) fun v2 aa w3 hO hb3 S => ?_
  rcases hO.2 with ⟨_, q⟩ | ⟨g, cap, cur, rfl, hg0, hgc, hnc, hcm, hcs, htk⟩
  · omega
  have hcur : w3.heap[g]? = some (.cells cur.toList.toArray 9 (0, 0)) := by simpa using hgc
  have S := S.add (rfBox g 9 cur.toList) hcur (fun i hi he => by have h1 := hltb i hi; have h2 : _ = g := he; omega)
  refine sy_run ⟨0, [7]⟩ 60 S fun bs aa w S => ?_
  refine sy_reg S fun S => ?_
  refine sy_ops 3 S fun bs aa w S => ?_
  refine sy_ix (b := g) (off := 0) (len := d.sl) (n := j) (size := 1) (i := (j : Int)) S (by kernel_rfl) rfl hj fun aa S => ?_
  have hZ := S.fact (f := rfBox g 9 cur.toList) (by simp)
  obtain ⟨hr, he⟩ := st_at (P := Try.prog) (ty := 9) (v := .string s) (off := j) (by kernel_rfl) (by kernel_rfl) (by kernel_rfl) hZ (by rw [Array.length_toList, hcs]; omega)
  refine sy_sto (ty := 9) (ad := ⟨g, 0 + j * 1, none⟩) (x := .v (.string s)) (v := .string s) S (by kernel_rfl) rfl (by rw [Nat.mul_one, Nat.zero_add]; exact hr) (gb_setC _ g j _) (Or.inr (by show w0.heap.size ≤ g; omega)) [rfBox g2 46 cur2.toList] (by intro f hf; simp only [List.mem_singleton] at hf; subst hf; exact ⟨by simp, fun hb => by have h1 : g = g2 := hb; omega⟩) (fun i hi e => (S.fs (rfBox g 9 cur.toList) (by simp)).2 i hi e) fun aa S2 => ?_
  have S := S2.add (rfBox g 9 (cur.toList.set j (.string s))) he (S.fs (rfBox g 9 cur.toList) (by simp)).2
  refine sy_run ⟨0, []⟩ 60 S fun bs aa w S => ?_
  refine sy_ret S (by kernel_rfl) (by kernel_rfl) fun hg => ⟨⟨some ⟨g, 0, none⟩, d.sl, cap, some ⟨g2, 0, none⟩, d.tl + 1, cap2, g, 0, g2, 0, d.S.set j s, d.W ++ [((j : Int), (d.S.getD j ByteArray.empty))]⟩, rfl, ⟨by simp [hd.hS], Or.inr rfl, by simp [hd.hW], Or.inr ⟨rfl, by show 0 < d.tl + 1; omega, hn2⟩, hd.l1, ?_⟩, rfl, rfl, rfl, hm2, ⟨by show w0.heap.size ≤ g; omega, hgb⟩, ?_, ?_, bel_gr hg⟩
  · show d.tl + 1 ≤ 1000; omega
  · refine strAt_of (n := d.sl) (S.fact (f := rfBox g 9 (cur.toList.set j (.string s))) (by simp)) ?_
    rw [List.take_set, List.map_set]
    rw [Nat.mul_one] at htk
    rw [htk]
  · exact wasAt_of (S.fact (f := rfBox g2 46 cur2.toList) (by simp)) ht2
set_option maxHeartbeats 8000000 in
theorem write_t (w0 : World) (d : Dk) (hd : d.ok) (j : Nat) (hj : j < d.sl) (s : ByteArray) (hs : s.size = 32) (hcap : d.tc ≤ 9223372036854775807) (hl5 : d.tl ≤ 500) (hA : StrAt w0 d.b d.o d.S) (hB : WasAt w0 d.c d.p d.W) : Calls Try.prog 17 #[d.v, .int .i64 (j : Int), .string s] w0 fun e w' => ∃ d' : Dk, e = .returned (.tuple #[d'.v, .int .i64 0]) ∧ d'.ok ∧ d'.sl = d.sl ∧ d'.S = d.S.set j s ∧ d'.W = d.W ++ [((j : Int), (d.S.getD j ByteArray.empty))] ∧ d'.tc ≤ 9223372036854775807 ∧ (w0.heap.size ≤ d'.b ∧ w0.heap.size ≤ d'.c) ∧ StrAt w' d'.b d'.o d'.S ∧ WasAt w' d'.c d'.p d'.W ∧ Below w0.heap.size w0 w' := by
  have hI : (Try.prog.info? 46).map (fun i => (i.zero, i.size, i.bytes)) = some (some (.agg #[.int .i64 0, .string ByteArray.empty]), 2, 24) := by kernel_rfl
  obtain ⟨ii, hi1, hi2, hi3, hi4⟩ : ∃ ii, Try.prog.info? 46 = some ii ∧ ii.zero = some (.agg #[.int .i64 0, .string ByteArray.empty]) ∧ ii.size = 2 ∧ ii.bytes = 24 := by
    cases hi : Try.prog.info? 46 with
    | none => rw [hi] at hI; cases hI
    | some i =>
      rw [hi] at hI
      simp only [Option.map_some, Option.some.injEq, Prod.mk.injEq] at hI
      exact ⟨i, rfl, hI.1, hI.2.1, hI.2.2⟩
  refine sy_enterF [] [rfSt d.b d.o d.S, rfWs d.c d.p d.W] (by intro f hf; simp only [List.mem_cons, List.not_mem_nil, or_false] at hf; rcases hf with rfl | rfl; exact hA; exact hB) Try.func17 rfl rfl fun aa S => ?_
  refine sy_run ⟨0, []⟩ 60 S fun bs aa w S => ?_
  refine sy_call1 S (has_t d (j : Int) ⟨by omega, by omega⟩ w) (by kernel_rfl) fun aa w hb S => ?_
  refine sy_run ⟨0, [3]⟩ 60 S fun bs aa w S => ?_
  refine sy_reg S fun S => ?_
  refine sy_ops 3 S fun bs aa w S => ?_
  refine sy_cast 17 S (congrArg Value.bool (by rw [hs]; rfl : (!decide ((s.size : Int) = 32)) = false)) (by kernel_rfl) fun S => ?_
  refine sy_run ⟨0, []⟩ 60 S fun bs aa w S => ?_
  letI : HF := ⟨[rfSt d.b d.o d.S]⟩
  refine dr_enter [0] (by kernel_rfl) (by kernel_rfl) S (by kernel_rfl) (fun aa w D => ?_) (fun f hf => by have e : f = rfSt d.b d.o d.S := List.mem_singleton.1 hf; subst e; simp)
  refine dr_tix 7 D (by kernel_rfl) (by kernel_rfl) (by kernel_rfl) (b := d.b) (off := d.o) (len := d.sl) (n := j) (size := 1) (ix := (j : Int)) (by rw [← hd.hs.resolve_left (by omega)]; kernel_rfl) rfl hj fun aa D => ?_
  refine dr_tld 8 D (by kernel_rfl) (by kernel_rfl) (by kernel_rfl) (ty := 9) (ad := ⟨d.b, d.o + j * 1, none⟩) (v := .string (d.S.getD j ByteArray.empty)) (fun W hW => ld_at (by kernel_rfl) (by rw [Nat.mul_one]; exact (show StrAt W d.b d.o d.S from hW _ (List.mem_singleton.2 rfl)) j (by rw [hd.hS]; exact hj))) (by kernel_rfl) fun aa D => ?_
  refine dr_any [2, 10] (by kernel_rfl) (by kernel_rfl) rfl (na2 ?_ ?_)
  · refine nx_call1 2 D (by kernel_rfl) (clip_t d hd hcap w) (by kernel_rfl) fun aa w D => ?_
    refine dr_any [10] (by kernel_rfl) (by kernel_rfl) rfl (na1 ?_)
    · refine nx_op 10 D (by kernel_rfl) (Nat.le_refl _) (by kernel_rfl) (by kernel_rfl) fun bs aa w D hl => ?_
      refine dr_any [11] (by kernel_rfl) (by kernel_rfl) rfl (na1 ?_)
      · refine have hq0 := D.S.gr.size; nx_appN 11 D (by kernel_rfl) (u := .v (.slice d.ta d.tl d.tl)) (y := .s 2 0 1 1) (t := 23) (e := 46) (b := d.ta) (n := d.tl) (ad := adr _ 2 0) (m := 1) (cp := 1) (size := 2) (bytes := 24) (xs := wasV d.W) (news := [.int .i64 (j : Int), .string (d.S.getD j ByteArray.empty)]) (by kernel_rfl) Try.underlying23 hi1 hi2 hi3 hi4 rfl rfl rfl (by omega) (by
      rcases hd.hw2 with ⟨q1, q2, _⟩ | ⟨q1, _, _⟩
      · exact Or.inl ⟨q1, q2⟩
      · exact Or.inr ⟨d.c, d.p, q1, fun k x hx => wasV_at (D.S.fact (f := rfWs d.c d.p d.W) (by simp)) k x hx⟩) (by rw [wasV_len, hd.hW]) (own2 (P := Try.prog) (ty := 46) (cs := [.int .i64 (j : Int), .string (d.S.getD j ByteArray.empty)]) D.S (by kernel_rfl)) rfl (by have := hd.l2; omega) (by have := hd.l2; omega) fun v' aa w2 hO hb2 hlt D => ?_
        rcases hO.2 with ⟨_, q⟩ | ⟨g2, cap2, cur2, rfl, gb2, hg2, hn2, hm2, hs2, ht2⟩
        · omega
        have D := D.addF (rfBox g2 46 cur2.toList) (by show w2.heap[g2]? = some (.cells cur2.toList.toArray 46 (0, 0)); simpa using hg2) (fun i hi he => by have h1 := hlt i hi; have h2 : _ = g2 := he; omega)
        refine dr_end D (by kernel_rfl) fun S => ?_
        have S' := S.to [0, 1] (wrS d j s g2 cap2) (by kernel_rfl) (by kernel_rfl) (by kernel_rfl) (by kernel_rfl) (by kernel_rfl)
        refine sy_at2 (k' := wrC) (by kernel_rfl) ?_
        exact write_2 w0 d hd j hj s hs _ _ g2 cap2 cur2 hn2 (by rw [ht2, wasV_app]; rfl) _ _ S' (by omega) (by simp only [maxLen] at hm2; exact hm2) hl5
  · refine nx_op 10 D (by kernel_rfl) (Nat.le_refl _) (by kernel_rfl) (by kernel_rfl) fun bs aa w D hl => ?_
    refine dr_any [2] (by kernel_rfl) (by kernel_rfl) rfl (na1 ?_)
    · refine nx_call1 2 D (by kernel_rfl) (clip_t d hd hcap w) (by kernel_rfl) fun aa w D => ?_
      refine dr_any [11] (by kernel_rfl) (by kernel_rfl) rfl (na1 ?_)
      · refine have hq0 := D.S.gr.size; nx_appN 11 D (by kernel_rfl) (u := .v (.slice d.ta d.tl d.tl)) (y := .s 2 0 1 1) (t := 23) (e := 46) (b := d.ta) (n := d.tl) (ad := adr _ 2 0) (m := 1) (cp := 1) (size := 2) (bytes := 24) (xs := wasV d.W) (news := [.int .i64 (j : Int), .string (d.S.getD j ByteArray.empty)]) (by kernel_rfl) Try.underlying23 hi1 hi2 hi3 hi4 rfl rfl rfl (by omega) (by
      rcases hd.hw2 with ⟨q1, q2, _⟩ | ⟨q1, _, _⟩
      · exact Or.inl ⟨q1, q2⟩
      · exact Or.inr ⟨d.c, d.p, q1, fun k x hx => wasV_at (D.S.fact (f := rfWs d.c d.p d.W) (by simp)) k x hx⟩) (by rw [wasV_len, hd.hW]) (own2 (P := Try.prog) (ty := 46) (cs := [.int .i64 (j : Int), .string (d.S.getD j ByteArray.empty)]) D.S (by kernel_rfl)) rfl (by have := hd.l2; omega) (by have := hd.l2; omega) fun v' aa w2 hO hb2 hlt D => ?_
        rcases hO.2 with ⟨_, q⟩ | ⟨g2, cap2, cur2, rfl, gb2, hg2, hn2, hm2, hs2, ht2⟩
        · omega
        have D := D.addF (rfBox g2 46 cur2.toList) (by show w2.heap[g2]? = some (.cells cur2.toList.toArray 46 (0, 0)); simpa using hg2) (fun i hi he => by have h1 := hlt i hi; have h2 : _ = g2 := he; omega)
        refine dr_end D (by kernel_rfl) fun S => ?_
        have S' := S.to [0, 1] (wrS d j s g2 cap2) (by kernel_rfl) (by kernel_rfl) (by kernel_rfl) (by kernel_rfl) (by kernel_rfl)
        refine sy_at2 (k' := wrC) (by kernel_rfl) ?_
        exact write_2 w0 d hd j hj s hs _ _ g2 cap2 cur2 hn2 (by rw [ht2, wasV_app]; rfl) _ _ S' (by omega) (by simp only [maxLen] at hm2; exact hm2) hl5
end Go.Proofs.Ytnlcjlhcghgaoaa
