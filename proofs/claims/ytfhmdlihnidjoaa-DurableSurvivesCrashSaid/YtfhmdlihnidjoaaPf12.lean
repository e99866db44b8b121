/-
  Merged: DkC, Dk5, Dk6, DkR, WlD
-/
import Derived.Test.YtfhmdlihnidjoaaRows
import Derived.Test.YtfhmdlihnidjoaaPf1
import Derived.Test.YtfhmdlihnidjoaaPf11
import Derived.WalkKit
import Derived.WalkLawsBesides
import Derived.Test.YtfhmdlihnidjoaaPf5
import Derived.Deep.Upon
import Derived.Laws.CopyOwn
import Derived.Laws.IdiomStrings
import Derived.Lib.AppendStr
namespace Go.Proofs.Ytfhmdlihnidjoaa
set_option linter.unusedVariables false
set_option linter.unusedSectionVars false
set_option linter.unusedSimpArgs false
set_option maxRecDepth 100000
set_option maxHeartbeats 4000000
open Go.ChangeShapes Go.WideShapes Go.ChangeAt Go.RowKit
theorem Qmj (a : Addr) (n c : Nat) (h : n ≤ c) (hc : c ≤ 9223372036854775807) (w : World) : Calls Try.prog 73 #[.slice (some a) n c] w fun e w' => e = .returned (.slice (some a) n n) ∧ w = w' := by
  go_enter Try.func73, Try.ntmps73
  go_wp2
  go_ret
  simp
theorem clip_nil (w : World) : Calls Try.prog 73 #[.slice none 0 0] w fun e w' => e = .returned (.slice none 0 0) ∧ w = w' := by
  go_enter Try.func73, Try.ntmps73
  go_wp2
  go_ret
  simp
end Go.Proofs.Ytfhmdlihnidjoaa
namespace Go.Proofs.Ytfhmdlihnidjoaa
set_option linter.unusedVariables false
set_option linter.unusedSectionVars false
set_option linter.unusedSimpArgs false
set_option maxRecDepth 100000
set_option maxHeartbeats 8000000
open Go Go.RowKit SZ
attribute [local irreducible] post GD Nxt Qai
def QhE (W : List (Int × ByteArray)) : List Value := W.flatMap fun x => [.int .i64 x.1, .string x.2]
theorem QeG : ∀ W : List (Int × ByteArray), (QhE W).length = W.length * 2
  | [] => rfl
  | x :: W => by have := QeG W; simp only [QhE, List.flatMap_cons, List.length_append, List.length_cons, List.length_nil] at this ⊢; omega
theorem QiA (W X : List (Int × ByteArray)) : QhE (W ++ X) = QhE W ++ QhE X := by simp [QhE]
theorem QeH : ∀ (W : List (Int × ByteArray)) (j : Nat), j < W.length → (QhE W)[j * 2]? = some (.int .i64 (W.getD j (0, ByteArray.empty)).1) ∧ (QhE W)[j * 2 + 1]? = some (.string (W.getD j (0, ByteArray.empty)).2)
  | [], j, h => by simp at h
  | x :: W, 0, _ => ⟨rfl, rfl⟩
  | x :: W, j + 1, h => by
    have := QeH W j (by simpa using h)
    have e : QhE (x :: W) = .int .i64 x.1 :: .string x.2 :: QhE W := rfl
    rw [e, show (j + 1) * 2 = j * 2 + 1 + 1 by omega]
    simpa using this
theorem Qku {w : World} {c p : Nat} {W : List (Int × ByteArray)} (h : WasAt w c p W) (k : Nat) (x : Value) (hx : (QhE W)[k]? = some x) : w.cell? ⟨c, p + k, none⟩ = some x := by
  have hk := (List.getElem?_eq_some_iff.1 hx).1
  rw [QeG] at hk
  obtain ⟨h1, h2⟩ := h (k / 2) (by omega)
  obtain ⟨g1, g2⟩ := QeH W (k / 2) (by omega)
  rcases Nat.mod_two_eq_zero_or_one k with e | e
  · rw [show k / 2 * 2 = k by omega] at g1 h1
    rw [hx] at g1
    rw [h1, g1]
  · rw [show k / 2 * 2 + 1 = k by omega] at g2
    rw [show p + k / 2 * 2 + 1 = p + k by omega] at h2
    rw [hx] at g2
    rw [h2, g2]
theorem Qd9 {w : World} {b o : Nat} {cs : List Value} {t : TypeId} {v : Value} (h : w.heap[b]? = some (.cells cs.toArray t (0, 0))) (hv : cs[o]? = some v) : w.cell? ⟨b, o, none⟩ = some v := by simp [World.cell?, h, hv]
theorem Qga {cs xs : List Value} {n j : Nat} {v : Value} (h : cs.take n = xs) (hx : xs[j]? = some v) : cs[j]? = some v := by
  rw [← h, List.getElem?_take] at hx
  split at hx
  · exact hx
  · cases hx
theorem Qgd {w : World} {b : Nat} {cs : List Value} {t : TypeId} {S : List ByteArray} {n : Nat} (h : w.heap[b]? = some (.cells cs.toArray t (0, 0))) (hc : cs.take n = S.map Value.string) : StrAt w b 0 S := fun j hj => by
  rw [Nat.zero_add]
  refine Qd9 h (Qga hc ?_)
  simp [List.getD, List.getElem?_eq_getElem hj]
theorem wasAt_of {w : World} {b : Nat} {cs : List Value} {t : TypeId} {W : List (Int × ByteArray)} {n : Nat} (h : w.heap[b]? = some (.cells cs.toArray t (0, 0))) (hc : cs.take n = QhE W) : WasAt w b 0 W := fun j hj => by
  rw [Nat.zero_add]
  exact ⟨Qd9 h (Qga hc (QeH W j hj).1), Qd9 h (Qga hc (QeH W j hj).2)⟩
theorem clip_t (d : Dk) (hd : d.ok) (hc : d.tc ≤ 9223372036854775807) (w : World) : Calls Try.prog 73 #[.slice d.ta d.tl d.tc] w fun e w' => e = .returned (.slice d.ta d.tl d.tl) ∧ Below w.heap.size w w' := by
  rcases hd.hw2 with ⟨h1, h2, h3⟩ | ⟨h1, h2, h3⟩
  · rw [h1, h2, h3]
    exact (clip_nil w).mono fun e w' h => ⟨h.1, h.2 ▸ Below.refl _ _⟩
  · obtain ⟨ad, had⟩ := Option.isSome_iff_exists.1 h2
    rw [had]
    exact (Qmj _ _ _ h3 hc w).mono fun e w' h => ⟨h.1, h.2 ▸ Below.refl _ _⟩
theorem own2 {P : Program} {w0 w : World} {r bs : List Nat} {s : SS} {F : List RF} {a : Act} {ty : TypeId} {cs : List Value} (S : Sy w0 r bs s F a w) (hK : s.K[2]? = some ⟨ty, cs⟩) : ∀ k x, cs[k]? = some x → w.cell? ((adr bs 2 0).add k) = some x := fun k x hx => by
  have ea : (adr bs 2 0).add k = ⟨bs.getD 2 0, 0 + k, none⟩ := by unfold Addr.add adr; split <;> simp_all
  rw [ea, Nat.zero_add]
  exact Qd9 (S.bx 2 _ hK) hx
noncomputable def wrS (d : Dk) (j : Nat) (s : ByteArray) (g2 cap2 : Nat) : SS := ⟨41, [(1, .v (.int .i64 (j : Int))), (2, .v (.string s)), (3, .p 0 0), (6, .p 1 0), (8, .v (.slice (some ⟨g2, 0, none⟩) (d.tl + 1) cap2))], [⟨30, d.cs⟩, ⟨30, [.slice none 0 0, .slice none 0 0]⟩]⟩
def goN : Nat → Nat → List Nat → List It → List It
  | n + 1, r + 1, ch, .code (.seq x y) :: k => goN n (r + 1) ch (.code x :: .code y :: k)
  | n + 1, r + 1, ch, .code (.block id c) :: k => goN n (r + 1) ch (.code c :: .blk id :: k)
  | n + 1, r + 1, ch, .code (.region _ _ _) :: k => goN n r ch k
  | n + 1, r + 1, ch, .code .skip :: k => goN n (r + 1) ch k
  | n + 1, r + 1, ch, .blk _ :: k => goN n (r + 1) ch k
  | n + 1, r + 1, c :: ch, .code (.cond _ x y) :: k => goN n (r + 1) ch (.code (if c = 1 then x else y) :: k)
  | n + 1, r + 1, _ :: ch, .code (.loop _) :: k => goN n (r + 1) ch k
  | _, _, _, k => k
noncomputable def wrC : List It := goN 60 4 [0, 0] [.code (QaW Try.f61)]
section
variable (w0 : World) (d : Dk) (hd : d.ok) (j : Nat) (hj : j < d.sl) (s : ByteArray) (hs : s.size = 32)
include w0 d hd j hj s hs
theorem Qkr (b0 b1 g2 cap2 : Nat) (cur2 : Array Value) (hn2 : d.tl + 1 ≤ cap2) (ht2 : cur2.toList.take ((d.tl + 1) * 2) = QhE (d.W ++ [((j : Int), (d.S.getD j ByteArray.empty))])) (aa : Act) (w : World) (S : Sy w0 [] [b0, b1] (wrS d j s g2 cap2) [Qee g2 75 cur2.toList, Qaz d.b d.o d.S, QaP d.c d.p d.W] aa w) (hgb : w0.heap.size ≤ g2) (hm2 : cap2 ≤ 9223372036854775807) (hl5 : d.tl ≤ 500) : post Try.prog wrC (bodyPost Try.prog Try.f61 fun e w' => ∃ d' : Dk, e = .returned (.tuple #[d'.v, .int .i64 0]) ∧ d'.ok ∧ (d'.sl = d.sl ∧ d'.sl ≤ d'.sc) ∧ d'.S = d.S.set j s ∧ d'.W = d.W ++ [((j : Int), (d.S.getD j ByteArray.empty))] ∧ d'.tc ≤ 9223372036854775807 ∧ (w0.heap.size ≤ d'.b ∧ w0.heap.size ≤ d'.c) ∧ StrAt w' d'.b d'.o d'.S ∧ WasAt w' d'.c d'.p d'.W ∧ Below w0.heap.size w0 w') .normal aa w := by
  have esa := hd.hs.resolve_left (show ¬ d.sl = 0 by omega)
  have hl1 := hd.l1
  refine Qaj (c := ⟨wrC, wrS d j s g2 cap2⟩) ⟨0, []⟩ 60 S fun bs aa w S => ?_
  have hltb := fun i hi => S.lt (i := i) hi
  have hg2lt := (Qee g2 75 cur2.toList).lt w (S.fact (f := Qee g2 75 cur2.toList) (by simp)) g2 rfl
  have hw0 := S.gr.size
  refine Qbg S (X := Value) (val := fun v => v) (C := fun v w' => w'.ownsRow w.heap.size 9 1 v d.sl (d.S.map Value.string)) (by
    have h := Try.slices_Clone_string d.b d.o d.sl d.sc d.S w (by rw [hd.hS]; exact Nat.le_refl _) (by omega) (S.fact (f := Qaz d.b d.o d.S) (by simp))
    rw [show d.S.take d.sl = d.S by rw [← hd.hS]; exact List.take_length, ← esa] at h
    exact h.mono fun e w' ⟨v, h1, h2, _, h3⟩ => ⟨v, h1, h2, h3⟩) (by kernel_rfl) fun v2 aa w3 hO hb3 S => ?_
  rcases hO.2 with ⟨_, q⟩ | ⟨g, cap, cur, rfl, hg0, hgc, hnc, hcm, hcs, htk⟩
  · omega
  have hcur : w3.heap[g]? = some (.cells cur.toList.toArray 9 (0, 0)) := by simpa using hgc
  have S := S.add (Qee g 9 cur.toList) hcur (fun i hi he => by have h1 := hltb i hi; have h2 : _ = g := he; omega)
  refine Qap 7 60 3 S fun bs aa w S => ?_
  refine QbI (b := g) (off := 0) (len := d.sl) (n := j) (size := 1) (i := (j : Int)) S (by kernel_rfl) rfl hj fun aa S => ?_
  have hZ := S.fact (f := Qee g 9 cur.toList) (by simp)
  obtain ⟨hr, he⟩ := st_at (P := Try.prog) (ty := 9) (v := .string s) (off := j) (by kernel_rfl) (by kernel_rfl) (by kernel_rfl) hZ (by rw [Array.length_toList, hcs]; omega)
  refine QgR (ty := 9) (ad := ⟨g, 0 + j * 1, none⟩) (x := .v (.string s)) (v := .string s) S (by kernel_rfl) rfl (by rw [Nat.mul_one, Nat.zero_add]; exact hr) (QcX _ g j _) (Or.inr (by show w0.heap.size ≤ g; omega)) [Qee g2 75 cur2.toList] (by intro f hf; simp only [List.mem_singleton] at hf; subst hf; exact ⟨by simp, fun hb => by have h1 : g = g2 := hb; omega⟩) (fun i hi e => (S.fs (Qee g 9 cur.toList) (by simp)).2 i hi e) fun aa S2 => ?_
  have S := S2.add (Qee g 9 (cur.toList.set j (.string s))) he (S.fs (Qee g 9 cur.toList) (by simp)).2
  refine Qah S fun bs aa w S => ?_
  refine Qan S (by kernel_rfl) (by kernel_rfl) fun hg => ⟨⟨some ⟨g, 0, none⟩, d.sl, cap, some ⟨g2, 0, none⟩, d.tl + 1, cap2, g, 0, g2, 0, d.S.set j s, d.W ++ [((j : Int), (d.S.getD j ByteArray.empty))]⟩, rfl, ⟨by simp [hd.hS], Or.inr rfl, by simp [hd.hW], Or.inr ⟨Or.inr rfl, rfl, hn2⟩, hd.l1, ?_⟩, ⟨rfl, hnc⟩, rfl, rfl, hm2, ⟨by show w0.heap.size ≤ g; omega, hgb⟩, ?_, ?_, Qaq hg⟩
  · show d.tl + 1 ≤ 1000; omega
  · refine Qgd (n := d.sl) (S.fact (f := Qee g 9 (cur.toList.set j (.string s))) (by simp)) ?_
    rw [List.take_set, List.map_set]
    rw [Nat.mul_one] at htk
    rw [htk]
  · exact wasAt_of (S.fact (f := Qee g2 75 cur2.toList) (by simp)) ht2
theorem write_c (hcap : d.tc ≤ 9223372036854775807) (hl5 : d.tl ≤ 500) (hA : StrAt w0 d.b d.o d.S) (hB : WasAt w0 d.c d.p d.W) : Calls Try.prog 61 #[d.v, .int .i64 (j : Int), .string s] w0 fun e w' => ∃ d' : Dk, e = .returned (.tuple #[d'.v, .int .i64 0]) ∧ d'.ok ∧ (d'.sl = d.sl ∧ d'.sl ≤ d'.sc) ∧ d'.S = d.S.set j s ∧ d'.W = d.W ++ [((j : Int), (d.S.getD j ByteArray.empty))] ∧ d'.tc ≤ 9223372036854775807 ∧ (w0.heap.size ≤ d'.b ∧ w0.heap.size ≤ d'.c) ∧ StrAt w' d'.b d'.o d'.S ∧ WasAt w' d'.c d'.p d'.W ∧ Below w0.heap.size w0 w' := by
  have hI : (Try.prog.info? 75).map (fun i => (i.zero, i.size, i.bytes)) = some (some (.agg #[.int .i64 0, .string ByteArray.empty]), 2, 24) := by kernel_rfl
  obtain ⟨ii, hi1, hi2, hi3, hi4⟩ : ∃ ii, Try.prog.info? 75 = some ii ∧ ii.zero = some (.agg #[.int .i64 0, .string ByteArray.empty]) ∧ ii.size = 2 ∧ ii.bytes = 24 := by
    cases hi : Try.prog.info? 75 with
    | none => rw [hi] at hI; cases hI
    | some i =>
      rw [hi] at hI
      simp only [Option.map_some, Option.some.injEq, Prod.mk.injEq] at hI
      exact ⟨i, rfl, hI.1, hI.2.1, hI.2.2⟩
  refine Qas [] [Qaz d.b d.o d.S, QaP d.c d.p d.W] (by intro f hf; simp only [List.mem_cons, List.not_mem_nil, or_false] at hf; rcases hf with rfl | rfl; exact hA; exact hB) Try.func61 rfl rfl fun aa S => ?_
  refine Qah S fun bs aa w S => ?_
  refine QaJ S (has_t d (j : Int) ⟨by omega, by omega⟩ w) (by kernel_rfl) fun aa w hb S => ?_
  refine Qap 3 60 3 S fun bs aa w S => ?_
  refine Qab 17 S (by rw [hs]; rfl : (!decide ((s.size : Int) = 32)) = false) fun S => ?_
  refine Qah S fun bs aa w S => ?_
  letI : HF := ⟨[Qaz d.b d.o d.S]⟩
  refine QaF [0] (by kernel_rfl) (by kernel_rfl) S (by kernel_rfl) (fun aa w D => ?_) (fun f hf => by have e : f = Qaz d.b d.o d.S := List.mem_singleton.1 hf; subst e; simp)
  refine QaZ 7 D (by kernel_rfl) (by kernel_rfl) (by kernel_rfl) (b := d.b) (off := d.o) (len := d.sl) (n := j) (size := 1) (ix := (j : Int)) (by rw [← hd.hs.resolve_left (by omega)]; kernel_rfl) rfl hj fun aa D => ?_
  refine Qbl 8 D (by kernel_rfl) (by kernel_rfl) (by kernel_rfl) (ty := 9) (ad := ⟨d.b, d.o + j * 1, none⟩) (v := .string (d.S.getD j ByteArray.empty)) (fun W hW => Qa6 (by kernel_rfl) (by rw [Nat.mul_one]; exact (show StrAt W d.b d.o d.S from hW _ (List.mem_singleton.2 rfl)) j (by rw [hd.hS]; exact hj))) (by kernel_rfl) fun aa D => ?_
  refine Qac [2, 10] (by kernel_rfl) (by kernel_rfl) rfl (na2 ?_ ?_)
  · refine QeN 2 D (by kernel_rfl) (clip_t d hd hcap w) (by kernel_rfl) fun aa w D => ?_
    refine Qac [10] (by kernel_rfl) (by kernel_rfl) rfl (na1 ?_)
    · refine Qbr 10 D (by kernel_rfl) (Nat.le_refl _) (by kernel_rfl) (by kernel_rfl) fun bs aa w D hl => ?_
      refine Qac [11] (by kernel_rfl) (by kernel_rfl) rfl (na1 ?_)
      · refine have hq0 := D.S.gr.size; Qlr 11 D (by kernel_rfl) (u := .v (.slice d.ta d.tl d.tl)) (y := .s 2 0 1 1) (t := 28) (e := 75) (b := d.ta) (n := d.tl) (ad := adr _ 2 0) (m := 1) (cp := 1) (size := 2) (bytes := 24) (xs := QhE d.W) (news := [.int .i64 (j : Int), .string (d.S.getD j ByteArray.empty)]) (by kernel_rfl) Try.underlying28 hi1 hi2 hi3 hi4 rfl rfl rfl (by omega) (by
      rcases hd.hw2 with ⟨q1, q2, _⟩ | ⟨q1 | q1, q2, _⟩
      · exact Or.inl ⟨q1, q2⟩
      · exact Or.inr (Or.inr ⟨q1, q2⟩)
      · exact Or.inr (Or.inl ⟨d.c, d.p, q1, fun k x hx => Qku (D.S.fact (f := QaP d.c d.p d.W) (by simp)) k x hx⟩)) (by rw [QeG, hd.hW]) (own2 (P := Try.prog) (ty := 75) (cs := [.int .i64 (j : Int), .string (d.S.getD j ByteArray.empty)]) D.S (by kernel_rfl)) rfl (by have := hd.l2; omega) (by have := hd.l2; omega) fun v' aa w2 hO hb2 hlt D => ?_
        rcases hO.2 with ⟨_, q⟩ | ⟨g2, cap2, cur2, rfl, gb2, hg2, hn2, hm2, hs2, ht2⟩
        · omega
        have D := D.addF (Qee g2 75 cur2.toList) (by show w2.heap[g2]? = some (.cells cur2.toList.toArray 75 (0, 0)); simpa using hg2) (fun i hi he => by have h1 := hlt i hi; have h2 : _ = g2 := he; omega)
        refine QaM D (by kernel_rfl) fun S => ?_
        have S' := S.to [0, 1] (wrS d j s g2 cap2) (by kernel_rfl) (by kernel_rfl) (by kernel_rfl) (by kernel_rfl) (by kernel_rfl)
        refine Qag (k' := wrC) (by kernel_rfl) ?_
        exact Qkr w0 d hd j hj s hs _ _ g2 cap2 cur2 hn2 (by rw [ht2, QiA]; rfl) _ _ S' (by omega) (by simp only [maxLen] at hm2; exact hm2) hl5
  · refine Qbr 10 D (by kernel_rfl) (Nat.le_refl _) (by kernel_rfl) (by kernel_rfl) fun bs aa w D hl => ?_
    refine Qac [2] (by kernel_rfl) (by kernel_rfl) rfl (na1 ?_)
    · refine QeN 2 D (by kernel_rfl) (clip_t d hd hcap w) (by kernel_rfl) fun aa w D => ?_
      refine Qac [11] (by kernel_rfl) (by kernel_rfl) rfl (na1 ?_)
      · refine have hq0 := D.S.gr.size; Qlr 11 D (by kernel_rfl) (u := .v (.slice d.ta d.tl d.tl)) (y := .s 2 0 1 1) (t := 28) (e := 75) (b := d.ta) (n := d.tl) (ad := adr _ 2 0) (m := 1) (cp := 1) (size := 2) (bytes := 24) (xs := QhE d.W) (news := [.int .i64 (j : Int), .string (d.S.getD j ByteArray.empty)]) (by kernel_rfl) Try.underlying28 hi1 hi2 hi3 hi4 rfl rfl rfl (by omega) (by
      rcases hd.hw2 with ⟨q1, q2, _⟩ | ⟨q1 | q1, q2, _⟩
      · exact Or.inl ⟨q1, q2⟩
      · exact Or.inr (Or.inr ⟨q1, q2⟩)
      · exact Or.inr (Or.inl ⟨d.c, d.p, q1, fun k x hx => Qku (D.S.fact (f := QaP d.c d.p d.W) (by simp)) k x hx⟩)) (by rw [QeG, hd.hW]) (own2 (P := Try.prog) (ty := 75) (cs := [.int .i64 (j : Int), .string (d.S.getD j ByteArray.empty)]) D.S (by kernel_rfl)) rfl (by have := hd.l2; omega) (by have := hd.l2; omega) fun v' aa w2 hO hb2 hlt D => ?_
        rcases hO.2 with ⟨_, q⟩ | ⟨g2, cap2, cur2, rfl, gb2, hg2, hn2, hm2, hs2, ht2⟩
        · omega
        have D := D.addF (Qee g2 75 cur2.toList) (by show w2.heap[g2]? = some (.cells cur2.toList.toArray 75 (0, 0)); simpa using hg2) (fun i hi he => by have h1 := hlt i hi; have h2 : _ = g2 := he; omega)
        refine QaM D (by kernel_rfl) fun S => ?_
        have S' := S.to [0, 1] (wrS d j s g2 cap2) (by kernel_rfl) (by kernel_rfl) (by kernel_rfl) (by kernel_rfl) (by kernel_rfl)
        refine Qag (k' := wrC) (by kernel_rfl) ?_
        exact Qkr w0 d hd j hj s hs _ _ g2 cap2 cur2 hn2 (by rw [ht2, QiA]; rfl) _ _ S' (by omega) (by simp only [maxLen] at hm2; exact hm2) hl5
end
def wstep (n : Nat) (x : List ByteArray × List (Int × ByteArray) × List (Int × ByteArray)) (c : Nat) : List ByteArray × List (Int × ByteArray) × List (Int × ByteArray) :=
  if c = 255 then (x.1, [], x.2.2) else (x.1.set (c % n) (Qj3 (c : Int)), x.2.1 ++ [(((c % n : Nat) : Int), x.1.getD (c % n) ByteArray.empty)], x.2.2 ++ [(((c % n : Nat) : Int), Qj3 (c : Int))])
def wall (n : Nat) (l : List Nat) : List ByteArray × List (Int × ByteArray) × List (Int × ByteArray) := l.foldl (wstep n) (List.replicate n z32, [], [])
def ByAt (w : World) (b o : Nat) (l : List Nat) : Prop := ∀ j, j < l.length → w.cell? ⟨b, o + j, none⟩ = some (.int .u8 ((l.getD j 0 : Nat) : Int))
def Qcg (b o : Nat) (l : List Nat) : RF := ⟨fun b' => b' = b ∧ l.length ≠ 0, fun w => ByAt w b o l, fun w h b' hb => by
  obtain ⟨rfl, hl⟩ := hb
  exact World.block_lt_of_cell? w _ (h 0 (by omega)), fun w w' h hb j hj => (World.cell?_of_block (a := ⟨b, o + j, none⟩) (hb b ⟨rfl, by omega⟩)).trans (h j hj)⟩
theorem Qlk {P : Program} {w0 w : World} {r bs : List Nat} {s : SS} {F : List RF} {a : Act} {ty : TypeId} {cs : List Value} (S : Sy w0 r bs s F a w) (i : Nat) (hK : s.K[i]? = some ⟨ty, cs⟩) : ∀ k x, cs[k]? = some x → w.cell? ((adr bs i 0).add k) = some x := fun k x hx => by
  have ea : (adr bs i 0).add k = ⟨bs.getD i 0, 0 + k, none⟩ := by unfold Addr.add adr; split <;> simp_all
  rw [ea, Nat.zero_add]
  exact Qd9 (S.bx i _ hK) hx
structure WI (w0 : World) (k : Nat) (l : List Nat) (i : Nat) (d : Dk) (D : List (Int × ByteArray)) : Prop where
  ok : d.ok
  sl : d.sl = k + 1
  tc : d.tc ≤ 9223372036854775807
  eq : wall (k + 1) (l.take i) = (d.S, d.W, D)
  tl : d.tl ≤ i
  dl : D.length ≤ i
  hb : w0.heap.size ≤ d.b ∧ (d.W.length = 0 ∨ w0.heap.size ≤ d.c)
end Go.Proofs.Ytfhmdlihnidjoaa
namespace Go.Proofs.Ytfhmdlihnidjoaa.SZ
set_option linter.unusedVariables false
set_option linter.unusedSectionVars false
set_option linter.unusedSimpArgs false
set_option maxRecDepth 100000
open Go Go.RowKit
section
variable [DF]
variable {P : Program} {w0 : World} {r : List Nat} {bs : List Nat} {s : SS} {F : List RF} {a : Act} {w : World}
theorem sy_exB {c : Cfg} {op : Op} {ty : TypeId} {C : Value → World → Prop} (S : Sy w0 r bs c.s F a w) (ho : (Qa5 c).map (fun o => (o.op, o.type)) = some (op, ty))
    (hr : ∀ (o : Oper) (ρ : Operand → Value), o.op = op → o.type = ty → (∀ x y, c.s.val x = some y → ρ x = den bs y) → ∃ v w', (execOp ρ o).run P w = .ok (.value v) w' ∧ C v w' ∧ Below w.heap.size w w') {Q : Exit → Act → World → Prop}
    (h : ∀ v a' w', C v w' → Below w.heap.size w w' → Sy w0 r bs (Qet c (.v v)).s F a' w' → post P (Qet c (.v v)).k Q .normal a' w') : post P c.k Q .normal a w := by
  obtain ⟨k, s⟩ := c
  match k with
  | .ops all (o :: l) :: k =>
    show wpList P all (post P k Q) (o :: l) a w
    refine wpList_step fun K hK => ?_
    unfold Qa5 at ho
    simp only at ho
    cases hw : Qa2 s all o with
    | none => rw [hw] at ho; simp at ho
    | some b' =>
      rw [hw] at ho
      cases b' with
      | false => simp at ho
      | true =>
        simp only [Option.map_some, Option.some.injEq, Prod.mk.injEq] at ho
        rw [Qar S hw, if_pos rfl]
        unfold Oper.wp
        obtain ⟨v, w', h1, h2, h3⟩ := hr o a.eval ho.1 ho.2 (fun x y hx => (S.val hx).1)
        rw [h1, Oper.upon_value]
        exact hK _ _ (h v _ w' h2 h3 ((S.below h3).put o.dst (x := .v v) trivial))
  | [] => simp [Qa5] at ho
  | .code _ :: _ => simp [Qa5] at ho
  | .blk _ :: _ => simp [Qa5] at ho
  | .rnd _ _ :: _ => simp [Qa5] at ho
  | .ops _ [] :: _ => simp [Qa5] at ho
end
section
variable [DF] [KP] [HF]
variable {P : Program} {w0 : World} {r : List Nat} {B : List Nat} {ro bs : List Nat} {QQ : Exit → Act → World → Prop} [PInv QQ] {c : Cfg} {d : DC} {F : List RF} {a : Act} {w : World}
theorem QdB (i : Nat) {op : Op} {ty : TypeId} {C : Value → World → Prop} (D : Sd w0 r B c.s.K ro bs d.s F a w) (hs : Region.noSelect (QaH c) = true)
    (ho : (((QaH c)[i]?).bind fun o => Qa5 ⟨[.ops (QaH c) [o]], d.s⟩).map (fun o => (o.op, o.type)) = some (op, ty))
    (hr : ∀ (o : Oper) (ρ : Operand → Value), o.op = op → o.type = ty → (∀ x y, d.s.val x = some y → ρ x = den bs y) → ∃ v w', (execOp ρ o).run P w = .ok (.value v) w' ∧ C v w' ∧ Below w.heap.size w w')
    (h : ∀ v a' w', C v w' → Below w.heap.size w w' → (∀ j, j < bs.length → bs.getD j 0 < w.heap.size) → Sd w0 r B c.s.K ro bs (dV P c ro d i (.v v)).s F a' w' → GD P c QQ B ro (dV P c ro d i (.v v)) a' w') : Nxt P (QaH c) (PQ P (kD c) QQ) (QbM B c.s.K ro) d.pred d.lst a w i := by
  cases ho2 : (QaH c)[i]? with
  | none => rw [ho2] at ho; cases ho
  | some o =>
    rw [ho2] at ho
    simp only [Option.bind_some, Qa5] at ho
    cases hw : Qa2 d.s (QaH c) o with
    | none => rw [hw] at ho; simp at ho
    | some b' =>
      rw [hw] at ho
      cases b' with
      | false => simp at ho
      | true =>
        simp only [Option.map_some, Option.some.injEq, Prod.mk.injEq] at ho
        obtain ⟨v, w', h1, h2, h3⟩ := hr o a.eval ho.1 ho.2 (fun x y hx => (D.S.val hx).1)
        exact Qlq i D hs ho2 (Qar D.S hw) (C := C) ⟨v, w', h1, h2, h3⟩ h
end
section
variable [DF]
variable {P : Program} {w0 : World} {r : List Nat} {bs : List Nat} {s : SS} {F : List RF} {a : Act} {w : World}
theorem Qd_ {c : Cfg} (B0 : Nat) {u y : SV} {v : Value} {ad : Addr} {m cp n size bytes : Nat} {e t : TypeId} {xs news : List Value} {info : TypeInfo} {z : Value} (F' : List RF)
    (S : Sy w0 r bs c.s F a w) (hh : Qdg c = some (u, y, t)) (ht : P.underlying t = some (.slice e)) (hi : P.info? e = some info) (hz : info.zero = some z)
    (hsize : info.size = size) (hby : info.bytes = bytes) (hzs : z.cells.size = size) (hsz : 0 < size)
    (hu : den bs u = v) (hy : den bs y = .slice (some ad) m cp) (hown : w.ownsRow B0 e size v n xs) (hB1 : B0 ≤ w.heap.size)
    (hnews : ∀ j x, news[j]? = some x → w.cell? (ad.add j) = some x) (hl : news.length = m * size) (h1 : ∀ u ∈ news, u.oneCell' = true)
    (h63 : n + m ≤ maxLen) (hbytes : (n + m) * bytes ≤ 140737488355328) (h0 : ∀ g, v.ownBlock = some g → g ∈ r ∨ w0.heap.size ≤ g)
    (hF : ∀ f ∈ F', f ∈ F ∧ ∀ g, v.ownBlock = some g → ¬f.bl g) (hn : ∀ i, i < bs.length → v.ownBlock ≠ some (bs.getD i 0)) {Q : Exit → Act → World → Prop}
    (h : ∀ v' a' w', w'.ownsRow B0 e size v' (n + m) (xs ++ news) → w.grownBy w' v.ownBlock → (∀ g, v'.ownBlock = some g → v.ownBlock = some g ∨ w.heap.size ≤ g) → Sy w0 r bs (Qet c (.v v')).s F' a' w' → post P (Qet c (.v v')).k Q .normal a' w') : post P c.k Q .normal a w := by
  obtain ⟨k, s⟩ := c
  match k, hh with
  | .ops all (o :: l) :: k, hh =>
    obtain ⟨hw, x, yy, hop, hx1, hy1⟩ := Qmw S hh
    show wpList P all (post P k Q) (o :: l) a w
    refine wpList_step fun K hKk => ?_
    rw [if_pos hw]
    subst hsize
    subst hby
    obtain ⟨v', w', hr, hv', hg, hnn⟩ := app_at (P := P) (ty := o.type) ht hi hz hzs hsz hown (cp := cp) hl hnews h1 h63 hbytes hB1
    have hex : (execOp a.eval o).run P w = .ok (.value v') w' := by
      unfold execOp
      simp only [hop, resolve, invoke, builtin, Sem.run_bind, Sem.run_pure, Result.andThen_ok, List.map_toArray, List.map_cons, List.map_nil, hx1, hy1, hu, hy, hr]
    unfold Oper.wp
    rw [hex, Oper.upon_value]
    exact hKk _ _ (h v' _ w' hv' hg hnn ((S.grownO hg h0 hF hn).put o.dst (x := .v v') trivial))
end
section
variable {P : Program}
end
section
variable [DF]
variable {P : Program} {w0 : World} {r : List Nat} {bs : List Nat} {s : SS} {F : List RF} {a : Act} {w : World}
theorem Sy.setBox (S : Sy w0 r bs s F a w) {i : Nat} {k k' : Bx} (hk : s.K[i]? = some k) {w' : World} (hb : w'.heap[bs.getD i 0]? = some (.cells k'.cs.toArray k'.ty (0, 0))) (hg : Gr w w' [bs.getD i 0]) : Sy w0 r bs (s.setK i k') F a w' := by
  have hi : i < bs.length := by rw [S.bl]; exact (List.getElem?_eq_some_iff.1 hk).1
  refine ⟨S.df, S.sz, S.tm, by simp [SS.setK, S.bl], fun j q hq => ?_, S.nd, S.lo, fun f hf => ?_, ?_⟩
  · have hq' : (s.K.set i k')[j]? = some q := hq
    by_cases hj : i = j
    · subst hj
      rw [List.getElem?_set_self (by rw [← S.bl]; exact hi)] at hq'
      simp only [Option.some.injEq] at hq'
      subst hq'
      exact hb
    · rw [List.getElem?_set_ne hj] at hq'
      have hjl : j < bs.length := by rw [S.bl]; exact (List.getElem?_eq_some_iff.1 hq').1
      rw [hg.block _ (S.lt hjl) (by
        intro hm
        exact hj (S.nd j i hjl hi (List.mem_singleton.1 hm)).symm)]
      exact S.bx j q hq'
  · obtain ⟨h5, h6⟩ := S.fs f hf
    exact ⟨f.st w w' h5 fun b hbl => hg.block b (f.lt w h5 b hbl) (by
      intro hm
      exact h6 i hi ((List.mem_singleton.1 hm) ▸ hbl)), h6⟩
  · have G0 := S.gr
    refine ⟨hg.os.trans G0.os, hg.tape.trans G0.tape, hg.output.trans G0.output, Nat.le_trans G0.size hg.size, fun b hb' hne => (hg.block b (Nat.lt_of_lt_of_le hb' G0.size) ?_).trans (G0.block b hb' hne)⟩
    intro hm
    have e := List.mem_singleton.1 hm
    rcases S.lo i hi with hl | hl
    · omega
    · exact hne (e ▸ hl)
theorem sy_exK {c : Cfg} {op : Op} {ty : TypeId} {v : Value} (i : Nat) (k k' : Bx) (hk : c.s.K[i]? = some k) (S : Sy w0 r bs c.s F a w) (ho : (Qa5 c).map (fun o => (o.op, o.type)) = some (op, ty))
    (hr : ∀ (o : Oper) (ρ : Operand → Value), o.op = op → o.type = ty → (∀ x y, c.s.val x = some y → ρ x = den bs y) → ∃ w', (execOp ρ o).run P w = .ok (.value v) w' ∧ w'.heap[bs.getD i 0]? = some (.cells k'.cs.toArray k'.ty (0, 0)) ∧ Gr w w' [bs.getD i 0]) {Q : Exit → Act → World → Prop}
    (h : ∀ a' w', Sy w0 r bs (aftH c i k' (.v v)).s F a' w' → post P (aftH c i k' (.v v)).k Q .normal a' w') : post P c.k Q .normal a w := by
  obtain ⟨k0, s⟩ := c
  match k0 with
  | .ops all (o :: l) :: k0 =>
    show wpList P all (post P k0 Q) (o :: l) a w
    refine wpList_step fun K hK => ?_
    unfold Qa5 at ho
    simp only at ho
    cases hw : Qa2 s all o with
    | none => rw [hw] at ho; simp at ho
    | some b' =>
      rw [hw] at ho
      cases b' with
      | false => simp at ho
      | true =>
        simp only [Option.map_some, Option.some.injEq, Prod.mk.injEq] at ho
        rw [Qar S hw, if_pos rfl]
        unfold Oper.wp
        obtain ⟨w', h1, h2, h3⟩ := hr o a.eval ho.1 ho.2 (fun x y hx => (S.val hx).1)
        rw [h1, Oper.upon_value]
        exact hK _ _ (h _ w' ((S.setBox hk h2 h3).put o.dst (x := .v v) trivial))
  | [] => simp [Qa5] at ho
  | .code _ :: _ => simp [Qa5] at ho
  | .blk _ :: _ => simp [Qa5] at ho
  | .rnd _ _ :: _ => simp [Qa5] at ho
  | .ops _ [] :: _ => simp [Qa5] at ho
theorem Qje {s : SS} {bs : List Nat} {x : Operand} {y : SV} {lo hi mx : Option Operand} {t ty : TypeId} {p : Value} {l2 h2 m2 : Option SV} (hx : s.val x = some y) (hp : den bs y = p) (hl : lo.map s.val = l2.map some) (hh : hi.map s.val = h2.map some) (hm : mx.map s.val = m2.map some)
    {v : Value} (hr : ∀ W, (Instr.sliceAt t p (l2.map (den bs)) (h2.map (den bs)) (m2.map (den bs))).run P W = .ok v W) :
    ∀ (o : Oper) (ρ : Operand → Value) (W : World), o.op = .slice t x lo hi mx → o.type = ty → (∀ x y, s.val x = some y → ρ x = den bs y) → (execOp ρ o).run P W = .ok (.value v) W := by
  intro o ρ W h1 h2' h3
  have e1 : ρ x = p := (h3 x _ hx).trans hp
  have e2 : lo.map ρ = l2.map (den bs) := by
    cases lo <;> cases l2 <;> simp_all
  have e3 : hi.map ρ = h2.map (den bs) := by
    cases hi <;> cases h2 <;> simp_all
  have e4 : mx.map ρ = m2.map (den bs) := by
    cases mx <;> cases m2 <;> simp_all
  unfold execOp
  simp only [h1, e1, e2, e3, e4, Sem.run_bind, Sem.run_pure, Result.andThen_ok, hr]
theorem QgT {c : Cfg} {op : Op} {ty : TypeId} {v : Value} (S : Sy w0 r bs c.s F a w) (ho : (Qa5 c).map (fun o => (o.op, o.type)) = some (op, ty))
    (hr : ∀ (o : Oper) (ρ : Operand → Value), o.op = op → o.type = ty → (∀ x y, c.s.val x = some y → ρ x = den bs y) → (execOp ρ o).run P w = .ok (.value v) w) {Q : Exit → Act → World → Prop}
    (h : ∀ a', Sy w0 r bs (Qet c (.v v)).s F a' w → post P (Qet c (.v v)).k Q .normal a' w) : post P c.k Q .normal a w := by
  obtain ⟨k0, s⟩ := c
  match k0 with
  | .ops all (o :: l) :: k0 =>
    show wpList P all (post P k0 Q) (o :: l) a w
    refine wpList_step fun K hK => ?_
    unfold Qa5 at ho
    simp only at ho
    cases hw : Qa2 s all o with
    | none => rw [hw] at ho; simp at ho
    | some b' =>
      rw [hw] at ho
      cases b' with
      | false => simp at ho
      | true =>
        simp only [Option.map_some, Option.some.injEq, Prod.mk.injEq] at ho
        rw [Qar S hw, if_pos rfl]
        unfold Oper.wp
        rw [hr o a.eval ho.1 ho.2 (fun x y hx => (S.val hx).1), Oper.upon_value]
        exact hK _ _ (h _ (S.put o.dst (x := .v v) trivial))
  | [] => simp [Qa5] at ho
  | .code _ :: _ => simp [Qa5] at ho
  | .blk _ :: _ => simp [Qa5] at ho
  | .rnd _ _ :: _ => simp [Qa5] at ho
  | .ops _ [] :: _ => simp [Qa5] at ho
theorem QiF {c : Cfg} {op : Op} {ty : TypeId} (i o l n : Nat) (S : Sy w0 r bs c.s F a w) (hi : Nat.blt i c.s.K.length = true) (ho : (Qa5 c).map (fun o => (o.op, o.type)) = some (op, ty))
    (hr : ∀ (o' : Oper) (ρ : Operand → Value) (W : World), o'.op = op → o'.type = ty → (∀ x y, c.s.val x = some y → ρ x = den bs y) → (execOp ρ o').run P W = .ok (.value (den bs (.s i o l n))) W) {Q : Exit → Act → World → Prop}
    (h : ∀ a', Sy w0 r bs (Qet c (.s i o l n)).s F a' w → post P (Qet c (.s i o l n)).k Q .normal a' w) : post P c.k Q .normal a w := by
  obtain ⟨k0, s⟩ := c
  match k0 with
  | .ops all (o' :: l') :: k0 =>
    show wpList P all (post P k0 Q) (o' :: l') a w
    refine wpList_step fun K hK => ?_
    unfold Qa5 at ho
    simp only at ho
    cases hw : Qa2 s all o' with
    | none => rw [hw] at ho; simp at ho
    | some b' =>
      rw [hw] at ho
      cases b' with
      | false => simp at ho
      | true =>
        simp only [Option.map_some, Option.some.injEq, Prod.mk.injEq] at ho
        rw [Qar S hw, if_pos rfl]
        unfold Oper.wp
        rw [hr o' a.eval w ho.1 ho.2 (fun x y hx => (S.val hx).1), Oper.upon_value]
        exact hK _ _ (h _ (S.put o'.dst (x := .s i o l n) (by show i < bs.length; rw [S.bl]; exact Nat.le_of_ble_eq_true hi)))
  | [] => simp [Qa5] at ho
  | .code _ :: _ => simp [Qa5] at ho
  | .blk _ :: _ => simp [Qa5] at ho
  | .rnd _ _ :: _ => simp [Qa5] at ho
  | .ops _ [] :: _ => simp [Qa5] at ho
theorem sy_exG {c : Cfg} {op : Op} {ty : TypeId} (v : Value) (F' : List RF) {C : Value → World → Prop} (S : Sy w0 r bs c.s F a w) (ho : (Qa5 c).map (fun o => (o.op, o.type)) = some (op, ty))
    (hr : ∀ (o : Oper) (ρ : Operand → Value), o.op = op → o.type = ty → (∀ x y, c.s.val x = some y → ρ x = den bs y) → ∃ v' w', (execOp ρ o).run P w = .ok (.value v') w' ∧ C v' w' ∧ w.grownBy w' v.ownBlock)
    (h0 : ∀ g, v.ownBlock = some g → g ∈ r ∨ w0.heap.size ≤ g) (hF : ∀ f ∈ F', f ∈ F ∧ ∀ g, v.ownBlock = some g → ¬f.bl g) (hn : ∀ i, i < bs.length → v.ownBlock ≠ some (bs.getD i 0)) {Q : Exit → Act → World → Prop}
    (h : ∀ v' a' w', C v' w' → Sy w0 r bs (Qet c (.v v')).s F' a' w' → post P (Qet c (.v v')).k Q .normal a' w') : post P c.k Q .normal a w := by
  obtain ⟨k0, s⟩ := c
  match k0 with
  | .ops all (o :: l) :: k0 =>
    show wpList P all (post P k0 Q) (o :: l) a w
    refine wpList_step fun K hK => ?_
    unfold Qa5 at ho
    simp only at ho
    cases hw : Qa2 s all o with
    | none => rw [hw] at ho; simp at ho
    | some b' =>
      rw [hw] at ho
      cases b' with
      | false => simp at ho
      | true =>
        simp only [Option.map_some, Option.some.injEq, Prod.mk.injEq] at ho
        rw [Qar S hw, if_pos rfl]
        unfold Oper.wp
        obtain ⟨v', w', h1, h2, h3⟩ := hr o a.eval ho.1 ho.2 (fun x y hx => (S.val hx).1)
        rw [h1, Oper.upon_value]
        exact hK _ _ (h v' _ w' h2 ((S.grownO h3 h0 hF hn).put o.dst (x := .v v') trivial))
  | [] => simp [Qa5] at ho
  | .code _ :: _ => simp [Qa5] at ho
  | .blk _ :: _ => simp [Qa5] at ho
  | .rnd _ _ :: _ => simp [Qa5] at ho
  | .ops _ [] :: _ => simp [Qa5] at ho
end
section
variable {P : Program}
theorem app_st {w : World} {B0 : Nat} {e t u ty : TypeId} {info : TypeInfo} (ht : P.underlying t = some (.slice e)) (hu : P.underlying u = some .string) (hi : P.info? e = some info) (hz : info.zero = some (.int .u8 0)) (hs : info.size = 1) (hb : info.bytes = 1)
    {v : Value} {n : Nat} {xs : List Value} (hown : w.ownsRow B0 e 1 v n xs) (p : ByteArray) (hp : 0 < p.size) (hbytes : n + p.size ≤ 140737488355328) (hB1 : B0 ≤ w.heap.size) :
    ∃ v' w', (Builtin.append_ #[t, u] ty #[v, .string p]).run P w = .ok v' w' ∧ w'.ownsRow B0 e 1 v' (n + p.size) (xs ++ Lib.strCells p) ∧ w.grownBy w' v.ownBlock ∧ ∀ g, v'.ownBlock = some g → v.ownBlock = some g ∨ w.heap.size ≤ g := by
  obtain ⟨v', w', hr, h2, h3, _⟩ := Lib.run_append_own_string (P := P) w B0 t u ty e info ht hu hi hz hs hb v n xs hown p (by simp only [maxLen]; omega) hbytes hB1
  refine ⟨v', w', hr, h2, h3, fun g' hg' => ?_⟩
  rcases hown.2 with ⟨rfl, rfl⟩ | ⟨g, cap, cur, rfl, hbg, hg, hnc, hcm, hcs, htake⟩
  · have hx : xs = [] := List.eq_nil_of_length_eq_zero (by simpa using hown.1)
    subst hx
    obtain ⟨v2, w2, hr2, q2, _, _⟩ := Lib.run_append_own_string (P := P) w w.heap.size t u ty e info ht hu hi hz hs hb _ 0 [] (World.ownsRow_nil w w.heap.size e 1) p (by simp only [maxLen]; omega) (by omega) (Nat.le_refl _)
    rw [hr] at hr2
    simp only [Result.ok.injEq] at hr2
    obtain ⟨rfl, rfl⟩ := hr2
    exact Or.inr (q2.lt g' hg').1
  · by_cases hroom : n + p.size ≤ cap
    · have hr2 := Lib.run_append_room_string (P := P) w t u ty e info ht hu hi hs g n cap cur hg p hroom (by omega)
      rw [hr] at hr2
      simp only [Result.ok.injEq] at hr2
      obtain ⟨rfl, _⟩ := hr2
      exact Or.inl (by simpa [Value.ownBlock] using hg')
    · have hl1 : xs.length = n := by simpa using hown.1
      have hr2 := Lib.run_append_grow_string (P := P) w t u ty e info (.int .u8 0) ht hu hi hz ⟨g, 0, none⟩ n cap xs (by rw [hs]; simpa using hl1) (hown.cells (g := g) rfl) p (by omega) (by omega) (by rw [hb]; exact growslice_fits (by omega) (by omega))
      rw [hr] at hr2
      simp only [Result.ok.injEq] at hr2
      obtain ⟨rfl, _⟩ := hr2
      simp [Value.ownBlock] at hg'
      exact Or.inr (by omega)
end
section
variable [DF] [KP] [HF]
variable {P : Program} {w0 : World} {r : List Nat} {B : List Nat} {ro bs : List Nat} {QQ : Exit → Act → World → Prop} [PInv QQ] {c : Cfg} {d : DC} {F : List RF} {a : Act} {w : World}
theorem Qh1 (i : Nat) (B0 : Nat) (F' : List RF) (D : Sd w0 r B c.s.K ro bs d.s F a w) (hs : Region.noSelect (QaH c) = true) {u y : SV} {t e : TypeId} {v : Value} {n : Nat} {ad : Addr} {m cp size bytes : Nat} {xs news : List Value} {info : TypeInfo} {z : Value}
    (hh : (((QaH c)[i]?).bind fun o => Qdg ⟨[.ops (QaH c) [o]], d.s⟩) = some (u, y, t)) (ht : P.underlying t = some (.slice e)) (hi : P.info? e = some info) (hz : info.zero = some z)
    (hsize : info.size = size) (hby : info.bytes = bytes) (hzs : z.cells.size = size) (hsz : 0 < size) (hu : den bs u = v) (hy : den bs y = .slice (some ad) m cp)
    (hown : w.ownsRow B0 e size v n xs) (hB1 : B0 ≤ w.heap.size)
    (hnews : ∀ j x, news[j]? = some x → w.cell? (ad.add j) = some x) (hl : news.length = m * size) (h1 : ∀ u ∈ news, u.oneCell' = true) (h63 : n + m ≤ maxLen) (hbytes : (n + m) * bytes ≤ 140737488355328)
    (h0 : ∀ g, v.ownBlock = some g → g ∈ r ∨ w0.heap.size ≤ g) (hF : ∀ f ∈ F', f ∈ F ∧ ∀ g, v.ownBlock = some g → ¬f.bl g) (hff : ∀ f ∈ HF.fs, f ∈ F') (hn : ∀ i, i < bs.length → v.ownBlock ≠ some (bs.getD i 0))
    (h : ∀ va vc a' w', w'.ownsRow B0 e size (.slice va (n + m) vc) (n + m) (xs ++ news) → w.grownBy w' v.ownBlock → (∀ g, Value.ownBlock (.slice va (n + m) vc) = some g → v.ownBlock = some g ∨ w.heap.size ≤ g) → (∀ j, j < bs.length → bs.getD j 0 < w.heap.size) → Sd w0 r B c.s.K ro bs (dV P c ro d i (.v (.slice va (n + m) vc))).s F' a' w' → GD P c QQ B ro (dV P c ro d i (.v (.slice va (n + m) vc))) a' w') : Nxt P (QaH c) (PQ P (kD c) QQ) (QbM B c.s.K ro) d.pred d.lst a w i := by
  exact Qgp i B0 F' D hs hh ht hi hz hsize hby hzs hsz hu hy hown hB1 hnews hl h1 h63 hbytes h0 hF hff hn fun v' a' w' hO hg hnn hlt D => by
    obtain ⟨va, vc, rfl⟩ := QcI hO
    exact h va vc a' w' hO hg hnn hlt D
end
end Go.Proofs.Ytfhmdlihnidjoaa.SZ
