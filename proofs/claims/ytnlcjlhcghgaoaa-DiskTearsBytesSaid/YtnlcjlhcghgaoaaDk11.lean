
/-
  Layer 22: a crash.
-/
import Derived.Test.YtnlcjlhcghgaoaaRows
import Derived.Test.YtnlcjlhcghgaoaaBase
import Derived.Test.YtnlcjlhcghgaoaaDk10
import Derived.WalkKit
namespace Go.Proofs.Ytnlcjlhcghgaoaa
open Go Go.RowKit SZ
set_option linter.unusedVariables false
set_option linter.unusedSimpArgs false
set_option maxRecDepth 100000
attribute [local irreducible] post GD Nxt NxtAll
/-- One write is done again. -/
def crJ (W : List (Int × ByteArray)) (cs : List Int) (Dt : List ByteArray) (j : Nat) (S : List ByteArray) : List ByteArray := S.set (W.getD j (0, ByteArray.empty)).1.toNat (tear (Dt.getD j ByteArray.empty) (S.getD (W.getD j (0, ByteArray.empty)).1.toNat ByteArray.empty) (cutOf cs j))
def crA (W : List (Int × ByteArray)) (cs : List Int) (Dt : List ByteArray) : Nat → List ByteArray → List ByteArray
  | 0, S => S
  | j + 1, S => crJ W cs Dt j (crA W cs Dt j S)
def crU (d : Dk) : List ByteArray × List ByteArray := unA d.W d.tl (d.S, List.replicate d.tl ByteArray.empty)
def crS (d : Dk) (cs : List Int) : List ByteArray := crA d.W cs (crU d).2 d.tl (crU d).1
def All32 (S : List ByteArray) : Prop := ∀ j, j < S.length → (S.getD j ByteArray.empty).size = 32
theorem all32_set {S : List ByteArray} (h : All32 S) (i : Nat) (x : ByteArray) (hx : x.size = 32) : All32 (S.set i x) := fun j hj => by
  rw [List.length_set] at hj
  have := h j hj
  simp only [List.getD, List.getElem?_set] at this ⊢
  split
  · split
    · exact hx
    · rename_i h1 h2; subst h1; exact absurd hj h2
  · exact this
theorem unA_inv (W : List (Int × ByteArray)) (n : Nat) : ∀ (m : Nat) (S Dt : List ByteArray), (∀ j, j < m → (0 ≤ (W.getD j (0, ByteArray.empty)).1 ∧ (W.getD j (0, ByteArray.empty)).1 < (n : Int)) ∧ (W.getD j (0, ByteArray.empty)).2.size = 32) → S.length = n → All32 S → m ≤ Dt.length → (∀ j, m ≤ j → j < Dt.length → (Dt.getD j ByteArray.empty).size = 32) → (unA W m (S, Dt)).1.length = n ∧ All32 (unA W m (S, Dt)).1 ∧ (unA W m (S, Dt)).2.length = Dt.length ∧ All32 (unA W m (S, Dt)).2
  | 0, S, Dt, _, hl, hS, _, hD => ⟨hl, hS, rfl, fun j hj => hD j (Nat.zero_le _) hj⟩
  | m + 1, S, Dt, hW, hl, hS, hm, hD => by
    obtain ⟨hx, hy⟩ := hW m (Nat.lt_succ_self _)
    have h := unA_inv W n m (S.set (W.getD m (0, ByteArray.empty)).1.toNat (W.getD m (0, ByteArray.empty)).2) (Dt.set m (S.getD (W.getD m (0, ByteArray.empty)).1.toNat ByteArray.empty)) (fun j hj => hW j (by omega)) (by simp [hl]) (all32_set hS _ _ hy) (by simp; omega) (fun j h1 h2 => by
      rw [List.length_set] at h2
      simp only [List.getD, List.getElem?_set]
      have e1 := hS (W.getD m (0, ByteArray.empty)).1.toNat (by omega)
      split
      · split
        · exact e1
        · omega
      · have := hD j (by omega) h2
        exact this)
    simp only [List.length_set] at h
    exact h
theorem crA_inv (W : List (Int × ByteArray)) (cs : List Int) (n : Nat) (Dt : List ByteArray) (hD : All32 Dt) : ∀ (m : Nat) (S : List ByteArray), (∀ j, j < m → (0 ≤ (W.getD j (0, ByteArray.empty)).1 ∧ (W.getD j (0, ByteArray.empty)).1 < (n : Int))) → m ≤ Dt.length → S.length = n → All32 S → (crA W cs Dt m S).length = n ∧ All32 (crA W cs Dt m S)
  | 0, S, _, _, hl, hS => ⟨hl, hS⟩
  | m + 1, S, hW, hm, hl, hS => by
    obtain ⟨h1, h2⟩ := crA_inv W cs n Dt hD m S (fun j hj => hW j (by omega)) (by omega) hl hS
    have hx := hW m (Nat.lt_succ_self _)
    exact ⟨by simp [crA, crJ, h1], all32_set h2 _ _ (tear_size _ _ _ (hD m (by omega)) (h2 _ (by omega)) (cutOf_le _ _))⟩
theorem crU_inv (d : Dk) (hd : d.ok) (hr : d.right) : (crU d).1.length = d.sl ∧ All32 (crU d).1 ∧ (crU d).2.length = d.tl ∧ All32 (crU d).2 := by
  have h := unA_inv d.W d.sl d.tl d.S (List.replicate d.tl ByteArray.empty) hr.w hd.hS (fun j hj => hr.s j (by rw [← hd.hS]; exact hj)) (by simp) (fun j h1 h2 => by simp at h2; omega)
  simpa [crU] using h
theorem crS_inv (d : Dk) (hd : d.ok) (hr : d.right) (cs : List Int) : (crS d cs).length = d.sl ∧ All32 (crS d cs) := by
  obtain ⟨h1, h2, h3, h4⟩ := crU_inv d hd hr
  exact crA_inv d.W cs d.sl _ h4 d.tl _ (fun j hj => (hr.w j hj).1) (by omega) h1 h2
def crK (d : Dk) (ca : Option Addr) (cl cc g sc gd : Nat) : List Bx := [⟨25, d.cs⟩, ⟨26, [.slice ca cl cc]⟩, ⟨25, [.slice none 0 0, .slice none 0 0]⟩, ⟨22, [.slice (some ⟨g, 0, none⟩) d.sl sc]⟩, ⟨22, [.slice (some ⟨gd, 0, none⟩) d.tl d.tl]⟩]
noncomputable def crC : Cfg := ⟨goZ 60 [] [.code (bodyOf Try.f21)], ⟨0, [], []⟩⟩
noncomputable def crSt (d : Dk) (ca : Option Addr) (cl cc g sc gd j : Nat) : SS := ⟨29, [(4, .p 2 0), (5, .p 3 0), (7, .f 33 [(1, 0), (0, 0), (4, 0), (3, 0)]), (19, .v (.int .i64 (d.tl : Int))), (20, .v (.int .i64 (j : Int)))], crK d ca cl cc g sc gd⟩
set_option maxHeartbeats 8000000 in
theorem cr_end (w0 : World) (d : Dk) (hd : d.ok) (hr : d.right) (ca : Option Addr) (cc cb co : Nat) (cs : List Int) (hca : cs.length = 0 ∨ ca = some ⟨cb, co, none⟩) (hcb : cs.length = 0 ∨ cb < w0.heap.size) (hdc : d.W.length = 0 ∨ d.c < w0.heap.size) (g sc gd : Nat) (hg0 : w0.heap.size ≤ g) (hgg : gd ≠ g) (m : Nat) (x0 x1 x2 x3 x4 : Nat) (aa : Act) (w : World) (S : Sy w0 [] [x0, x1, x2, x3, x4] (crSt d ca cs.length cc g sc gd (d.tl)) [rfRow g (crA d.W cs (crU d).2 (d.tl) (crU d).1), rfRow gd (crU d).2, rfWs d.c d.p d.W, rfIn cb co cs] aa w) : post Try.prog (.rnd (m + 1) (bodyL crC) :: crC.k.tail) (bodyPost Try.prog Try.f21 fun e w' => ∃ g sc, e = .returned (.agg #[.slice (some ⟨g, 0, none⟩) d.sl sc, .slice none 0 0]) ∧ w0.heap.size ≤ g ∧ (rfRow g (crS d cs)).P w' ∧ Below w0.heap.size w0 w') .normal aa w := by
  refine sy_run (c := ⟨(.rnd (m + 1) (bodyL crC) :: crC.k.tail), crSt d ca cs.length cc g sc gd (d.tl)⟩) ⟨0, [5]⟩ 50 S fun bs aa w S => ?_
  refine sy_reg S fun S => ?_
  refine sy_ops 1 S fun bs aa w S => ?_
  refine sy_cast 21 S (congrArg Value.bool (decide_eq_false (by omega) : decide (((d.tl : Nat) : Int) < (d.tl : Int)) = false)) (by kernel_rfl) fun S => ?_
  refine sy_run ⟨0, []⟩ 60 S fun bs aa w S => ?_
  exact sy_ret S (by kernel_rfl) (by kernel_rfl) fun hg => ⟨g, sc, rfl, hg0, S.fact (f := rfRow g (crS d cs)) (by simp [crS]), bel_gr hg⟩
set_option maxHeartbeats 8000000 in
theorem cr_step (w0 : World) (d : Dk) (hd : d.ok) (hr : d.right) (ca : Option Addr) (cc cb co : Nat) (cs : List Int) (hca : cs.length = 0 ∨ ca = some ⟨cb, co, none⟩) (hcb : cs.length = 0 ∨ cb < w0.heap.size) (hdc : d.W.length = 0 ∨ d.c < w0.heap.size) (g sc gd : Nat) (hg0 : w0.heap.size ≤ g) (hgg : gd ≠ g) (m j : Nat) (hj : j < d.tl) (ih : ∀ (x0 x1 x2 x3 x4 : Nat) (aa : Act) (w : World) (S : Sy w0 [] [x0, x1, x2, x3, x4] (crSt d ca cs.length cc g sc gd (j + 1)) [rfRow g (crA d.W cs (crU d).2 (j + 1) (crU d).1), rfRow gd (crU d).2, rfWs d.c d.p d.W, rfIn cb co cs] aa w), post Try.prog (.rnd (m) (bodyL crC) :: crC.k.tail) (bodyPost Try.prog Try.f21 fun e w' => ∃ g sc, e = .returned (.agg #[.slice (some ⟨g, 0, none⟩) d.sl sc, .slice none 0 0]) ∧ w0.heap.size ≤ g ∧ (rfRow g (crS d cs)).P w' ∧ Below w0.heap.size w0 w') .normal aa w) (x0 x1 x2 x3 x4 : Nat) (aa : Act) (w : World) (S : Sy w0 [] [x0, x1, x2, x3, x4] (crSt d ca cs.length cc g sc gd (j)) [rfRow g (crA d.W cs (crU d).2 (j) (crU d).1), rfRow gd (crU d).2, rfWs d.c d.p d.W, rfIn cb co cs] aa w) : post Try.prog (.rnd (m + 1) (bodyL crC) :: crC.k.tail) (bodyPost Try.prog Try.f21 fun e w' => ∃ g sc, e = .returned (.agg #[.slice (some ⟨g, 0, none⟩) d.sl sc, .slice none 0 0]) ∧ w0.heap.size ≤ g ∧ (rfRow g (crS d cs)).P w' ∧ Below w0.heap.size w0 w') .normal aa w := by
  obtain ⟨hu1, hu2, hu3, hu4⟩ := crU_inv d hd hr
  obtain ⟨hA1, hA2⟩ := crA_inv d.W cs d.sl _ hu4 j _ (fun i hi => (hr.w i (by omega)).1) (by omega) hu1 hu2
  have hx := (hr.w j hj).1
  refine sy_run (c := ⟨(.rnd (m + 1) (bodyL crC) :: crC.k.tail), crSt d ca cs.length cc g sc gd (j)⟩) ⟨0, [5]⟩ 50 S fun bs1 aa w S => ?_
  refine sy_reg S fun S => ?_
  refine sy_ops 1 S fun bs2 aa w S => ?_
  refine sy_cast 21 S (congrArg Value.bool (decide_eq_true (by omega) : decide (((j : Nat) : Int) < (d.tl : Int)) = true)) (by kernel_rfl) fun S => ?_
  refine sy_run ⟨0, [7]⟩ 60 S fun bs3 aa w S => ?_
  refine sy_reg S fun S => ?_
  refine sy_ops 2 S fun bs4 aa w S => ?_
  obtain ⟨bs, hB⟩ : ∃ bs, bs = [x0, x1, x2, x3, x4] ++ bs1 ++ bs2 ++ bs3 ++ bs4 := ⟨_, rfl⟩
  rw [← hB] at S
  have S' := S.to [1, 0, 4, 3] ⟨29, [], rpK d ca cs.length cc g d.sl sc gd d.tl⟩ (by kernel_rfl) (by kernel_rfl) (by kernel_rfl) (by kernel_rfl) (by kernel_rfl)
  have hap := (S.fs (rfRow g (crA d.W cs (crU d).2 (j) (crU d).1)) (by simp)).2
  refine sy_callG (g := g) (X := Unit) (val := fun _ => .tuple #[]) (C := fun _ w' => (rfRow g (crJ d.W cs (crU d).2 j (crA d.W cs (crU d).2 (j) (crU d).1))).P w') (f := 33) (args := ((rpA j).map (den [bs.getD 1 0, bs.getD 0 0, bs.getD 4 0, bs.getD 3 0])).toArray) S (Or.inr hg0) ((rp_t w j d hd hj g gd sc (crA d.W cs (crU d).2 (j) (crU d).1) (crU d).2 hA1 hu3 (hu4 j (by omega)) (hA2 _ (by omega)) hx ca cc cb co cs hca (bs.getD 1 0) (bs.getD 0 0) (bs.getD 4 0) (bs.getD 3 0) hgg S'.bx (fun i i' hi hi' e => S'.nd i i' (by simpa using hi) (by simpa using hi') e) (fun f hf => ⟨(S.fs f hf).1, fun i hi => (S'.fs f hf).2 i (by simpa using hi)⟩)).mono fun e w' h => ⟨(), h.1, h.2.1, h.2.2⟩) (by kernel_rfl) [rfRow gd (crU d).2, rfWs d.c d.p d.W, rfIn cb co cs] (by
      intro f hf
      simp only [List.mem_cons, List.not_mem_nil, or_false] at hf
      rcases hf with rfl | rfl | rfl
      · exact ⟨by simp, fun hb => hgg (by have h1 : g = gd := hb; exact h1.symm)⟩
      · exact ⟨by simp, fun hb => by obtain ⟨h1, h2⟩ := hb; have := hdc.resolve_left h2; omega⟩
      · exact ⟨by simp, fun hb => by obtain ⟨h1, h2⟩ := hb; have := hcb.resolve_left h2; omega⟩) (fun i hi e => hap i hi e) fun _ aa w hC hgb S => ?_
  have S := S.add (rfRow g (crJ d.W cs (crU d).2 j (crA d.W cs (crU d).2 (j) (crU d).1))) hC hap
  refine sy_run ⟨0, [8]⟩ 60 S fun bs aa w S => ?_
  refine sy_reg S fun S => ?_
  refine sy_ops 1 S fun bs aa w S => ?_
  refine sy_cast 26 S (congrArg (Value.int .i64) (by rw [IntKind.wrap_i64]; have := hd.l2; omega : IntKind.i64.wrap ((j : Int) + 1) = ((j + 1 : Nat) : Int))) (by kernel_rfl) fun S => ?_
  refine sy_run ⟨0, [999]⟩ 50 S fun bs aa w S => ?_
  have S2 := S.to [0, 1, 2, 3, 4] (crSt d ca cs.length cc g sc gd (j + 1)) (by kernel_rfl) (by kernel_rfl) (by kernel_rfl) (by kernel_rfl) (by kernel_rfl)
  refine sy_at2 (k' := (.rnd (m) (bodyL crC) :: crC.k.tail)) (by kernel_rfl) ?_
  exact ih _ _ _ _ _ aa w S2
theorem cr_all (w0 : World) (d : Dk) (hd : d.ok) (hr : d.right) (ca : Option Addr) (cc cb co : Nat) (cs : List Int) (hca : cs.length = 0 ∨ ca = some ⟨cb, co, none⟩) (hcb : cs.length = 0 ∨ cb < w0.heap.size) (hdc : d.W.length = 0 ∨ d.c < w0.heap.size) (g sc gd : Nat) (hg0 : w0.heap.size ≤ g) (hgg : gd ≠ g) : ∀ (r j : Nat), j + r = d.tl → ∀ (x0 x1 x2 x3 x4 : Nat) (aa : Act) (w : World) (S : Sy w0 [] [x0, x1, x2, x3, x4] (crSt d ca cs.length cc g sc gd (j)) [rfRow g (crA d.W cs (crU d).2 (j) (crU d).1), rfRow gd (crU d).2, rfWs d.c d.p d.W, rfIn cb co cs] aa w), post Try.prog (.rnd (r + 1) (bodyL crC) :: crC.k.tail) (bodyPost Try.prog Try.f21 fun e w' => ∃ g sc, e = .returned (.agg #[.slice (some ⟨g, 0, none⟩) d.sl sc, .slice none 0 0]) ∧ w0.heap.size ≤ g ∧ (rfRow g (crS d cs)).P w' ∧ Below w0.heap.size w0 w') .normal aa w := by
  intro r
  induction r with
  | zero => intro j hj x0 x1 x2 x3 x4 aa w S; obtain rfl : j = d.tl := by omega
            exact cr_end w0 d hd hr ca cc cb co cs hca hcb hdc g sc gd hg0 hgg 0 x0 x1 x2 x3 x4 aa w S
  | succ r ih => intro j hj x0 x1 x2 x3 x4 aa w S; exact cr_step w0 d hd hr ca cc cb co cs hca hcb hdc g sc gd hg0 hgg (r + 1) j (by omega) (ih (j + 1) (by omega)) x0 x1 x2 x3 x4 aa w S
set_option maxHeartbeats 8000000 in
theorem crash_t (w0 : World) (d : Dk) (hd : d.ok) (hr : d.right) (h0 : 0 < d.sl) (htc : d.tl ≤ d.tc) (ca : Option Addr) (cc cb co : Nat) (cs : List Int) (hca : cs.length = 0 ∨ ca = some ⟨cb, co, none⟩) (hA : StrAt w0 d.b d.o d.S) (hB : WasAt w0 d.c d.p d.W) (hC : IntsAt w0 cb co cs) : Calls Try.prog 21 #[d.v, .slice ca cs.length cc] w0 fun e w' => ∃ g sc, e = .returned (.agg #[.slice (some ⟨g, 0, none⟩) d.sl sc, .slice none 0 0]) ∧ w0.heap.size ≤ g ∧ (rfRow g (crS d cs)).P w' ∧ Below w0.heap.size w0 w' := by
  have hcb : cs.length = 0 ∨ cb < w0.heap.size := by
    by_cases h : cs.length = 0
    · exact Or.inl h
    · exact Or.inr ((rfIn cb co cs).lt w0 hC cb ⟨rfl, h⟩)
  have hdc : d.W.length = 0 ∨ d.c < w0.heap.size := by
    by_cases h : d.W.length = 0
    · exact Or.inl h
    · exact Or.inr ((rfWs d.c d.p d.W).lt w0 hB d.c ⟨rfl, h⟩)
  have hl1 := hd.l1
  have hl2 := hd.l2
  refine sy_enterF [] [rfSt d.b d.o d.S, rfWs d.c d.p d.W, rfIn cb co cs] (by intro f hf; simp only [List.mem_cons, List.not_mem_nil, or_false] at hf; rcases hf with rfl | rfl | rfl; exact hA; exact hB; exact hC) Try.func21 rfl rfl fun aa S => ?_
  refine sy_run ⟨0, [1]⟩ 60 S fun bs aa w S => ?_
  refine sy_reg S fun S => ?_
  refine sy_ops 2 S fun bs aa w S => ?_
  have esa := hd.hs.resolve_left (show ¬ d.sl = 0 by omega)
  have hltb := fun i hi => S.lt (i := i) hi
  have hw0 := S.gr.size
  refine sy_call S (X := Value) (val := fun v => v) (C := fun v w' => w'.ownsRow w.heap.size 9 1 v d.sl (d.S.map Value.string)) (by
    have h := Try.slices_Clone_string d.b d.o d.sl d.sc d.S w (by rw [hd.hS]; exact Nat.le_refl _) (by omega) (S.fact (f := rfSt d.b d.o d.S) (by simp))
    rw [show d.S.take d.sl = d.S by rw [← hd.hS]; exact List.take_length, ← esa] at h
    exact h.mono fun e w' ⟨v, h1, h2, _, h3⟩ => ⟨v, h1, h2, h3⟩) (by kernel_rfl) fun v2 aa w3 hO hb3 S => ?_
  rcases hO.2 with ⟨_, q⟩ | ⟨g, cap, cur, rfl, hg0, hgc, hnc, hcm, hcs, htk⟩
  · omega
  have S := S.add (rfRow g d.S) ⟨cur.toList, by simpa using hgc, by rw [hd.hS]; simpa using htk⟩ (fun i hi he => by have h1 := hltb i hi; have h2 : _ = g := he; omega)
  refine sy_run ⟨0, [2]⟩ 60 S fun bs aa w S => ?_
  refine sy_reg S fun S => ?_
  refine sy_ops 3 S fun bs aa w S => ?_
  have hap := (S.fs (rfRow g d.S) (by simp)).2
  have hltb := fun i hi => S.lt (i := i) hi
  have hsz := S.gr.size
  have hglt := (rfRow g d.S).lt w (S.fact (f := rfRow g d.S) (by simp)) g rfl
  refine sy_callG (g := g) (X := Nat) (val := fun gd => .slice (some ⟨gd, 0, none⟩) d.tl d.tl) (C := fun gd w' => w.heap.size ≤ gd ∧ (rfRow g (crU d).1).P w' ∧ (rfRow gd (crU d).2).P w') S (Or.inr (by omega)) ((undo_t w g d.sl cap d.tl d.tc d.W d.c d.p d.ta (by rcases hdc with h | h; exact Or.inl h; exact Or.inr ⟨by omega, by omega⟩) hd.hW hl1 hl2 (fun j hj => (hr.w j hj).1) hd.hw htc d.S hd.hS (S.fact (f := rfRow g d.S) (by simp)) (S.fact (f := rfWs d.c d.p d.W) (by simp))).mono fun e w' ⟨gd, h1, h2, h3, h4, h5⟩ => ⟨gd, h1, ⟨h2, h3, h4⟩, gb_of_gr1 h5⟩) (by kernel_rfl) [rfWs d.c d.p d.W, rfIn cb co cs] (by
      intro f hf
      simp only [List.mem_cons, List.not_mem_nil, or_false] at hf
      rcases hf with rfl | rfl
      · exact ⟨by simp, fun hb => by obtain ⟨h1, h2⟩ := hb; have := hdc.resolve_left h2; omega⟩
      · exact ⟨by simp, fun hb => by obtain ⟨h1, h2⟩ := hb; have := hcb.resolve_left h2; omega⟩) (fun i hi e => hap i hi e) fun gd aa w4 hC4 hgb S => ?_
  have S := S.add (rfRow gd (crU d).2) hC4.2.2 (fun i hi he => by have h1 := hltb i hi; have h2 : _ = gd := he; have h3 := hC4.1; omega)
  have S := S.add (rfRow g (crU d).1) hC4.2.1 hap
  refine sy_run ⟨0, []⟩ 60 S fun bs aa w S => ?_
  have S := S.sub (F' := [rfRow g (crA d.W cs (crU d).2 (0) (crU d).1), rfRow gd (crU d).2, rfWs d.c d.p d.W, rfIn cb co cs]) (by intro f hf; simp only [List.mem_cons, List.not_mem_nil, or_false] at hf; rcases hf with rfl | rfl | rfl | rfl <;> simp [crA])
  have S' := S.to [0, 1, 2, 3, 4] (crSt d ca cs.length cc g cap gd 0) (by kernel_rfl) (by kernel_rfl) (by kernel_rfl) (by kernel_rfl) (by kernel_rfl)
  refine sy_loop (d.tl + 1) (by kernel_rfl) ?_
  refine sy_at2 (k' := (.rnd (d.tl + 1) (bodyL crC) :: crC.k.tail)) (by kernel_rfl) ?_
  exact cr_all w0 d hd hr ca cc cb co cs hca hcb hdc g cap gd (by omega) (by have h3 := hC4.1; omega) d.tl 0 (by omega) _ _ _ _ _ aa w S'
end Go.Proofs.Ytnlcjlhcghgaoaa
