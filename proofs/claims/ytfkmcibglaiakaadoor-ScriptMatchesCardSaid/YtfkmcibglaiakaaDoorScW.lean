
/-
  Layer 27: the plain form, told a second time.
-/
import Derived.Test.YtfkmcibglaiakaaDoorRows
import Derived.Test.YtfkmcibglaiakaaDoorBase
import Derived.Test.YtfkmcibglaiakaaDoorScS
import Derived.WalkKit
namespace Go.Proofs.YtfkmcibglaiakaaDoor
open Go Go.RowKit SZ
set_option linter.unusedVariables false
set_option linter.unusedSimpArgs false
set_option maxRecDepth 100000
attribute [local irreducible] post GD Nxt NxtAll
def isR (t : Int) (p : Pk) : Bool := rightB t p.w
theorem plainK_flt (t : Int) : ∀ (ps : List Pk) (u : Int → Int) (n : Int), plainK t u n ps = plainK t u n (ps.filter (isR t))
  | [], u, n => rfl
  | p :: r, u, n => by
    by_cases h : rightB t p.w = true
    · rw [List.filter_cons_of_pos (show isR t p = true from h)]
      unfold plainK
      rw [if_pos h, if_pos h, plainK_flt t r u (n + 1), plainK_flt t r _ (n + 1)]
    · rw [List.filter_cons_of_neg (show ¬isR t p = true from h), ← plainK_flt t r u n]
      rw [plainK, if_neg h]
/-- Is a thread held still at a pick, by a stall before the k-th? -/
def sB (R : List Pk) (i : Nat) (a : Int) : Nat → Bool
  | 0 => false
  | k + 1 => sB R i a k || (decide ((R.getD k pk0).k = 2) && decide ((R.getD k pk0).a = a) && decide ((R.getD k pk0).b ≥ (i : Int) - (k : Int)))
theorem sB_iff (R : List Pk) (i : Nat) (a : Int) : ∀ k, sB R i a k = false ↔ ∀ q, q < k → (R.getD q pk0).k = 2 → (R.getD q pk0).a = a → (R.getD q pk0).b < (i : Int) - (q : Int)
  | 0 => ⟨fun _ q hq => by omega, fun _ => rfl⟩
  | k + 1 => by
    have ih := sB_iff R i a k
    unfold sB
    rw [Bool.or_eq_false_iff, ih]
    constructor
    · rintro ⟨h1, h2⟩ q hq h3 h4
      by_cases e : q = k
      · subst e
        rw [decide_eq_true h3, decide_eq_true h4, Bool.and_self, Bool.true_and, decide_eq_false_iff_not] at h2
        omega
      · exact h1 q (by omega) h3 h4
    · intro h
      refine ⟨fun q hq => h q (by omega), ?_⟩
      by_cases h3 : (R.getD k pk0).k = 2
      · by_cases h4 : (R.getD k pk0).a = a
        · have := h k (by omega) h3 h4
          rw [decide_eq_true h3, decide_eq_true h4, Bool.and_self, Bool.true_and, decide_eq_false_iff_not]
          omega
        · rw [decide_eq_false h4, Bool.and_false]; rfl
      · rw [decide_eq_false h3]; rfl
/-- What the ends of stalls say. -/
def Uok (R : List Pk) (i : Nat) (u : Int → Int) : Prop := ∀ (a N : Int), (i : Int) ≤ N → (N + 1 > u a ↔ ∀ q, q < i → (R.getD q pk0).k = 2 → (R.getD q pk0).a = a → (R.getD q pk0).b < N - (q : Int))
theorem Uok.zero (R : List Pk) : Uok R 0 (fun _ => 0) := fun a N hN => ⟨fun _ q hq => by omega, fun _ => by show N + 1 > 0; omega⟩
theorem Uok.one {R : List Pk} {i : Nat} {u : Int → Int} (h : Uok R i u) (hk : (R.getD i pk0).k ≠ 2) : Uok R (i + 1) u := fun a N hN => by
  rw [h a N (by omega)]
  constructor
  · intro h1 q hq h3 h4
    by_cases e : q = i
    · subst e; exact absurd h3 hk
    · exact h1 q (by omega) h3 h4
  · intro h1 q hq; exact h1 q (by omega)
theorem Uok.two {R : List Pk} {i : Nat} {u : Int → Int} (h : Uok R i u) (hk : (R.getD i pk0).k = 2) : Uok R (i + 1) (upd u (R.getD i pk0).a (maxI (u (R.getD i pk0).a) ((i : Int) + 1 + (R.getD i pk0).b))) := fun a N hN => by
  have h0 := h a N (by omega)
  unfold upd
  by_cases ea : a = (R.getD i pk0).a
  · rw [if_pos ea, ← ea]
    have hm : N + 1 > maxI (u a) ((i : Int) + 1 + (R.getD i pk0).b) ↔ N + 1 > u a ∧ N + 1 > (i : Int) + 1 + (R.getD i pk0).b := by
      unfold maxI
      split <;> omega
    rw [hm, h0]
    constructor
    · rintro ⟨h1, h2⟩ q hq h3 h4
      by_cases e : q = i
      · subst e; omega
      · exact h1 q (by omega) h3 h4
    · intro h1
      exact ⟨fun q hq => h1 q (by omega), by have := h1 i (by omega) hk ea.symm; omega⟩
  · rw [if_neg ea, h0]
    constructor
    · intro h1 q hq h3 h4
      by_cases e : q = i
      · subst e; exact absurd h4.symm ea
      · exact h1 q (by omega) h3 h4
    · intro h1 q hq; exact h1 q (by omega)
theorem Uok.still {R : List Pk} {i : Nat} {u : Int → Int} (h : Uok R i u) (a : Int) : ((i : Int) + 1 > u a) ↔ sB R i a i = false := by
  rw [h a i (Int.le_refl _), sB_iff]
noncomputable def rq1C : Cfg := ⟨goZ 60 [] [.code (bodyOf Tryd.f16)], ⟨0, [], []⟩⟩
noncomputable def rq2C : Cfg := ⟨goZ 60 [0] [.code (bodyOf Tryd.f16)], ⟨0, [], []⟩⟩
noncomputable def rqI (m : Nat) : Cfg := ⟨goZ 60 [1, 0] (.code (bodyL rq2C) :: .rnd m (bodyL rq2C) :: rq2C.k.tail), ⟨0, [], []⟩⟩
noncomputable def rq1S (tt : Int) (a : Option Addr) (n c : Nat) (v : Value) (j : Nat) : SS := ⟨93, [(0, .v (.int .i64 tt)), (1, .v (.slice a n c)), (5, .v v), (6, .v (.int .i64 (j : Int)))], []⟩
noncomputable def rq2S (v1 v2 : Value) (i : Nat) : SS := ⟨93, [(5, .v v1), (8, .v v2), (9, .v (.int .i64 (i : Int)))], []⟩
noncomputable def rq3S (v1 v2 : Value) (i : Nat) (p : Pk) (sb : Bool) (k : Nat) : SS := ⟨93, [(5, .v v1), (8, .v v2), (9, .v (.int .i64 (i : Int))), (10, .p 0 0), (11, .v (.bool sb)), (12, .v (.int .i64 (k : Int)))], [⟨25, [.int .i64 p.k, .int .i64 p.a, .int .i64 p.b, .slice p.s p.c.length p.cp]⟩]⟩
set_option maxHeartbeats 8000000 in
theorem rq_e (w0 : World) (tt : Int) (ps R : List Pk) (a2 : Option Addr) (c2 b2 : Nat) (hR : plainK tt (fun _ => 0) 0 ps = plainK tt (fun _ => 0) 0 R) (hRr : ∀ p ∈ R, rightB tt p.w = true) (h2 : R.length = 0 ∨ a2 = some ⟨b2, 0, none⟩) (hl : R.length ≤ 10000) (M : Nat) (v2 : Value) (out : List Pk) (hd : (∀ b, Value.ownBlock v2 = some b → R.length = 0 ∨ b ≠ b2)) (u : Int → Int) (hu : Uok R (R.length) u) (hout : plainK tt (fun _ => 0) 0 R = out ++ plainK tt u ((R.length : Nat) : Int) (R.drop (R.length))) (ho : out.length ≤ R.length) (aa : Act) (w : World) (S : Sy w0 [] [] (rq2S (.slice a2 R.length c2) v2 (R.length)) [rfPs b2 0 R, rfOwn w0.heap.size 25 4 v2 (out).length (pkV (out))] aa w) : post Tryd.prog (.rnd (M + 1) (bodyL rq2C) :: rq2C.k.tail) (bodyPost Tryd.prog Tryd.f16 (fun e w' => (∃ v, e = .returned v ∧ w'.ownsRow w0.heap.size 25 4 v (plainK tt (fun _ => 0) 0 ps).length (pkV (plainK tt (fun _ => 0) 0 ps))) ∧ Below w0.heap.size w0 w')) .normal aa w := by
  have hz : plainK tt (fun _ => 0) 0 ps = out := by rw [hR, hout, List.drop_length]; simp [plainK]
  refine sy_run (c := ⟨(.rnd (M + 1) (bodyL rq2C) :: rq2C.k.tail), rq2S (.slice a2 R.length c2) v2 (R.length)⟩) ⟨0, [10]⟩ 50 S fun bs aa w S => ?_
  refine sy_reg S fun S => ?_
  refine sy_ops 4 S fun bs aa w S => ?_
  refine sy_cast 37 S (congrArg Value.bool (decide_eq_false (by omega) : decide ((R.length : Int) < (R.length : Int)) = false)) (by kernel_rfl) fun S => ?_
  refine sy_run ⟨0, []⟩ 60 S fun bs aa w S => ?_
  rw [hz]
  exact sy_ret S (by kernel_rfl) (by kernel_rfl) fun hg => ⟨⟨v2, rfl, S.fact (f := rfOwn w0.heap.size 25 4 v2 (out).length (pkV (out))) (by simp)⟩, bel_gr hg⟩
theorem pl_at {R : List Pk} {i : Nat} {pj : Pk} (hi : i < R.length) (hX : R.getD i pk0 = pj) : R.drop i = pj :: R.drop (i + 1) := by
  rw [List.drop_eq_getElem_cons hi, ← hX]
  simp [List.getD, List.getElem?_eq_getElem hi]
set_option maxHeartbeats 8000000 in
theorem rqi_e (w0 : World) (tt : Int) (ps R : List Pk) (a2 : Option Addr) (c2 b2 : Nat) (hR : plainK tt (fun _ => 0) 0 ps = plainK tt (fun _ => 0) 0 R) (hRr : ∀ p ∈ R, rightB tt p.w = true) (h2 : R.length = 0 ∨ a2 = some ⟨b2, 0, none⟩) (hl : R.length ≤ 10000) (M i : Nat) (hi : i < R.length) (pj : Pk) (hX : R.getD i pk0 = pj) (hmem : pj ∈ R) (hk3 : ¬pj.k = 3) (v2 : Value) (out : List Pk) (hd : (∀ b, Value.ownBlock v2 = some b → R.length = 0 ∨ b ≠ b2)) (u : Int → Int) (hu : Uok R (i) u) (hout : plainK tt (fun _ => 0) 0 R = out ++ plainK tt u ((i : Nat) : Int) (R.drop (i))) (ho : out.length ≤ i) (iho : ∀ (v2 : Value) (out : List Pk) (hd : (∀ b, Value.ownBlock v2 = some b → R.length = 0 ∨ b ≠ b2)) (u : Int → Int) (hu : Uok R (i + 1) u) (hout : plainK tt (fun _ => 0) 0 R = out ++ plainK tt u ((i + 1 : Nat) : Int) (R.drop (i + 1))) (ho : out.length ≤ i + 1) (aa : Act) (w : World) (S : Sy w0 [] [] (rq2S (.slice a2 R.length c2) v2 (i + 1)) [rfPs b2 0 R, rfOwn w0.heap.size 25 4 v2 (out).length (pkV (out))] aa w), post Tryd.prog (.rnd (M) (bodyL rq2C) :: rq2C.k.tail) (bodyPost Tryd.prog Tryd.f16 (fun e w' => (∃ v, e = .returned v ∧ w'.ownsRow w0.heap.size 25 4 v (plainK tt (fun _ => 0) 0 ps).length (pkV (plainK tt (fun _ => 0) 0 ps))) ∧ Below w0.heap.size w0 w')) .normal aa w) (q : Nat) (x0 : Nat) (aa : Act) (w : World) (S : Sy w0 [] [x0] (rq3S (.slice a2 R.length c2) v2 i pj (sB R i pj.a (i)) (i)) [rfPs b2 0 R, rfOwn w0.heap.size 25 4 v2 (out).length (pkV (out))] aa w) : post Tryd.prog (.rnd (q + 1) (bodyL (rqI M)) :: (rqI M).k.tail) (bodyPost Tryd.prog Tryd.f16 (fun e w' => (∃ v, e = .returned v ∧ w'.ownsRow w0.heap.size 25 4 v (plainK tt (fun _ => 0) 0 ps).length (pkV (plainK tt (fun _ => 0) 0 ps))) ∧ Below w0.heap.size w0 w')) .normal aa w := by
  obtain ⟨ii, hi1, hi2, hi3, hi4⟩ := parts3 infPk
  have hr := hRr pj hmem
  have hst := hu.still pj.a
  rw [pl_at hi hX, plainK, if_pos hr] at hout
  have hcast : ((i : Nat) : Int) + 1 = ((i + 1 : Nat) : Int) := by omega
  refine sy_run (c := ⟨(.rnd (q + 1) (bodyL (rqI M)) :: (rqI M).k.tail), rq3S (.slice a2 R.length c2) v2 i pj (sB R i pj.a (i)) (i)⟩) ⟨0, [17]⟩ 50 S fun bs aa w S => ?_
  refine sy_reg S fun S => ?_
  refine sy_ops 3 S fun bs aa w S => ?_
  refine sy_cast 53 S (congrArg Value.bool (decide_eq_false (by omega) : decide ((i : Int) < (i : Int)) = false)) (by kernel_rfl) fun S => ?_
  refine sy_run ⟨0, [21]⟩ 60 S fun bs aa w S => ?_
  refine sy_reg S fun S => ?_
  refine sy_ops 3 S fun bs aa w S => ?_
  by_cases hk1 : pj.k = 1
  case neg =>
    have hk2 : pj.k = 2 := Classical.byContradiction fun h2 => hk3 (right_3 hr hk1 h2)
    rw [if_neg hk1, if_pos hk2, hcast] at hout
    have hu2 := hu.two (by rw [hX]; exact hk2)
    rw [hX, hcast] at hu2
    refine sy_cast 83 S (congrArg Value.bool (decide_eq_false hk1 : decide (pj.k = 1) = false)) (by kernel_rfl) fun S => ?_
    refine sy_run ⟨0, [11]⟩ 60 S fun bs aa w S => ?_
    refine sy_reg S fun S => ?_
    refine sy_ops 2 S fun bs aa w S => ?_
    refine sy_cast 39 S (congrArg (Value.int .i64) (by rw [IntKind.wrap_i64]; omega : IntKind.i64.wrap ((i : Int) + 1) = ((i + 1 : Nat) : Int))) (by kernel_rfl) fun S => ?_
    refine sy_run ⟨0, [999]⟩ 50 S fun bs aa w S => ?_
    have S := S.sub (F' := [rfPs b2 0 R, rfOwn w0.heap.size 25 4 v2 (out).length (pkV (out))]) (by intro f hf; simp only [List.mem_cons, List.not_mem_nil, or_false] at hf; rcases hf with rfl | rfl <;> simp)
    have S2 := S.to [] (rq2S (.slice a2 R.length c2) v2 (i + 1)) (by kernel_rfl) (by kernel_rfl) (by kernel_rfl) (by kernel_rfl) (by kernel_rfl)
    refine sy_at2 (k' := (.rnd (M) (bodyL rq2C) :: rq2C.k.tail)) (by kernel_rfl) ?_
    exact iho v2 (out) hd _ hu2 hout (by omega) aa w S2
  rw [if_pos hk1, hcast] at hout
  have hu1 := hu.one (by rw [hX]; omega)
  refine sy_cast 83 S (congrArg Value.bool (decide_eq_true hk1 : decide (pj.k = 1) = true)) (by kernel_rfl) fun S => ?_
  generalize sB R i pj.a i = sb at hst S
  cases sb with
  | true =>
    have hno : ¬((i + 1 : Nat) : Int) > u pj.a := fun h => by rw [← hcast] at h; cases hst.1 h
    rw [if_neg hno] at hout
    refine sy_run ⟨0, [11]⟩ 60 S fun bs aa w S => ?_
    refine sy_reg S fun S => ?_
    refine sy_ops 2 S fun bs aa w S => ?_
    refine sy_cast 39 S (congrArg (Value.int .i64) (by rw [IntKind.wrap_i64]; omega : IntKind.i64.wrap ((i : Int) + 1) = ((i + 1 : Nat) : Int))) (by kernel_rfl) fun S => ?_
    refine sy_run ⟨0, [999]⟩ 50 S fun bs aa w S => ?_
    have S := S.sub (F' := [rfPs b2 0 R, rfOwn w0.heap.size 25 4 v2 (out).length (pkV (out))]) (by intro f hf; simp only [List.mem_cons, List.not_mem_nil, or_false] at hf; rcases hf with rfl | rfl <;> simp)
    have S2 := S.to [] (rq2S (.slice a2 R.length c2) v2 (i + 1)) (by kernel_rfl) (by kernel_rfl) (by kernel_rfl) (by kernel_rfl) (by kernel_rfl)
    refine sy_at2 (k' := (.rnd (M) (bodyL rq2C) :: rq2C.k.tail)) (by kernel_rfl) ?_
    exact iho v2 (out) hd u hu1 hout (by omega) aa w S2
  | false =>
    have hyes : ((i + 1 : Nat) : Int) > u pj.a := by rw [← hcast]; exact hst.2 rfl
    rw [if_pos hyes] at hout
    refine sy_run ⟨0, [22]⟩ 60 S fun bs aa w S => ?_
    refine sy_reg S fun S => ?_
    refine sy_ops 3 S fun bs aa w S => ?_
    have hb2 : ¬R.length = 0 → b2 < w.heap.size := fun hz => (rfPs b2 0 R).lt w (S.fact (f := rfPs b2 0 R) (by simp)) b2 ⟨rfl, hz⟩
    refine sy_nm S fun bs S => ?_
    have how : w.ownsRow w0.heap.size 25 4 v2 out.length (pkV out) := S.fact (f := rfOwn w0.heap.size 25 4 v2 (out).length (pkV (out))) (by simp)
    have hap := (S.fs (rfOwn w0.heap.size 25 4 v2 (out).length (pkV (out))) (by simp)).2
    have hblk : ∀ j, j < bs.length → bs.getD j 0 < w.heap.size := fun j hj => S.lt hj
    refine sy_appO w0.heap.size (u := .v v2) (y := .s 1 0 1 1) (v := v2) (ad := adr bs 1 0) (m := 1) (cp := 1) (n := out.length) (size := 4) (bytes := 48) (e := 25) (t := 22) (xs := pkV out) (news := [.int .i64 pj.k, .int .i64 pj.a, .int .i64 pj.b, .slice pj.s pj.c.length pj.cp]) [rfPs b2 0 R] S (by kernel_rfl) Tryd.underlying22 hi1 hi2 hi3 hi4 rfl (by omega) rfl rfl how S.gr.size (own3 (P := Tryd.prog) (ty := 25) (cs := [.int .i64 pj.k, .int .i64 pj.a, .int .i64 pj.b, .slice pj.s pj.c.length pj.cp]) S 1 (by kernel_rfl)) rfl (by intro u hu; simp only [List.mem_cons, List.not_mem_nil, or_false] at hu; rcases hu with rfl | rfl | rfl | rfl <;> rfl) (by simp only [maxLen]; omega) (by omega)
      (fun g hg => Or.inr (how.lt g hg).1) (fun f hf => ⟨by simp only [List.mem_cons, List.not_mem_nil, or_false] at hf ⊢; subst hf; simp, fun b2' hb => by
        have h9 := (how.lt b2' hb).1
        simp only [List.mem_cons, List.not_mem_nil, or_false] at hf
        subst hf
        intro hbl
        have h1 : b2' = b2 := hbl.1
        exact (hd b2' hb).elim (fun q => hbl.2 q) (fun q => q h1)⟩) (fun j hj hb => hap j hj hb)
      fun v2' aa w2 hO hg' hnn S => ?_
    have S := S.add (rfOwn w0.heap.size 25 4 v2' (out ++ [pj]).length (pkV (out ++ [pj]))) (by show World.ownsRow _ _ _ _ _ _ _; rw [pkV_snoc, List.length_append]; exact hO) (fun j hj hb => (hnn _ hb).elim (fun q => hap j hj q) (fun q => by have := hblk j hj; omega))
    have hd' : ∀ b, Value.ownBlock v2' = some b → R.length = 0 ∨ b ≠ b2 := fun b9 q => (hnn b9 q).elim (fun q => hd b9 q) (fun q => by
      by_cases hz : R.length = 0
      · exact Or.inl hz
      · exact Or.inr (by have := hb2 hz; omega))
    refine sy_run ⟨0, [11]⟩ 60 S fun bs aa w S => ?_
    refine sy_reg S fun S => ?_
    refine sy_ops 2 S fun bs aa w S => ?_
    refine sy_cast 39 S (congrArg (Value.int .i64) (by rw [IntKind.wrap_i64]; omega : IntKind.i64.wrap ((i : Int) + 1) = ((i + 1 : Nat) : Int))) (by kernel_rfl) fun S => ?_
    refine sy_run ⟨0, [999]⟩ 50 S fun bs aa w S => ?_
    have S := S.sub (F' := [rfPs b2 0 R, rfOwn w0.heap.size 25 4 v2' (out ++ [pj]).length (pkV (out ++ [pj]))]) (by intro f hf; simp only [List.mem_cons, List.not_mem_nil, or_false] at hf; rcases hf with rfl | rfl <;> simp)
    have S2 := S.to [] (rq2S (.slice a2 R.length c2) v2' (i + 1)) (by kernel_rfl) (by kernel_rfl) (by kernel_rfl) (by kernel_rfl) (by kernel_rfl)
    refine sy_at2 (k' := (.rnd (M) (bodyL rq2C) :: rq2C.k.tail)) (by kernel_rfl) ?_
    exact iho v2' (out ++ [pj]) hd' u hu1 (by rw [hout]; simp) (by rw [List.length_append]; simp; omega) aa w S2
set_option maxHeartbeats 8000000 in
theorem rqi_s (w0 : World) (tt : Int) (ps R : List Pk) (a2 : Option Addr) (c2 b2 : Nat) (hR : plainK tt (fun _ => 0) 0 ps = plainK tt (fun _ => 0) 0 R) (hRr : ∀ p ∈ R, rightB tt p.w = true) (h2 : R.length = 0 ∨ a2 = some ⟨b2, 0, none⟩) (hl : R.length ≤ 10000) (M i : Nat) (hi : i < R.length) (pj : Pk) (hX : R.getD i pk0 = pj) (hmem : pj ∈ R) (hk3 : ¬pj.k = 3) (v2 : Value) (out : List Pk) (hd : (∀ b, Value.ownBlock v2 = some b → R.length = 0 ∨ b ≠ b2)) (u : Int → Int) (hu : Uok R (i) u) (hout : plainK tt (fun _ => 0) 0 R = out ++ plainK tt u ((i : Nat) : Int) (R.drop (i))) (ho : out.length ≤ i) (q k : Nat) (hk : k < i) (ih : ∀ (x0 : Nat) (aa : Act) (w : World) (S : Sy w0 [] [x0] (rq3S (.slice a2 R.length c2) v2 i pj (sB R i pj.a (k + 1)) (k + 1)) [rfPs b2 0 R, rfOwn w0.heap.size 25 4 v2 (out).length (pkV (out))] aa w), post Tryd.prog (.rnd (q) (bodyL (rqI M)) :: (rqI M).k.tail) (bodyPost Tryd.prog Tryd.f16 (fun e w' => (∃ v, e = .returned v ∧ w'.ownsRow w0.heap.size 25 4 v (plainK tt (fun _ => 0) 0 ps).length (pkV (plainK tt (fun _ => 0) 0 ps))) ∧ Below w0.heap.size w0 w')) .normal aa w) (x0 : Nat) (aa : Act) (w : World) (S : Sy w0 [] [x0] (rq3S (.slice a2 R.length c2) v2 i pj (sB R i pj.a (k)) (k)) [rfPs b2 0 R, rfOwn w0.heap.size 25 4 v2 (out).length (pkV (out))] aa w) : post Tryd.prog (.rnd (q + 1) (bodyL (rqI M)) :: (rqI M).k.tail) (bodyPost Tryd.prog Tryd.f16 (fun e w' => (∃ v, e = .returned v ∧ w'.ownsRow w0.heap.size 25 4 v (plainK tt (fun _ => 0) 0 ps).length (pkV (plainK tt (fun _ => 0) 0 ps))) ∧ Below w0.heap.size w0 w')) .normal aa w := by
  have hs : sB R i pj.a (k + 1) = (sB R i pj.a k || (decide ((R.getD k pk0).k = 2) && decide ((R.getD k pk0).a = pj.a) && decide ((R.getD k pk0).b ≥ (i : Int) - (k : Int)))) := rfl
  generalize sB R i pj.a (k + 1) = sb2 at ih hs
  generalize sB R i pj.a k = sb at S hs
  generalize hQ : R.getD k pk0 = qj at hs
  refine sy_run (c := ⟨(.rnd (q + 1) (bodyL (rqI M)) :: (rqI M).k.tail), rq3S (.slice a2 R.length c2) v2 i pj sb k⟩) ⟨0, [17]⟩ 50 S fun bs aa w S => ?_
  refine sy_reg S fun S => ?_
  refine sy_ops 3 S fun bs aa w S => ?_
  refine sy_cast 53 S (congrArg Value.bool (decide_eq_true (by omega) : decide ((k : Int) < (i : Int)) = true)) (by kernel_rfl) fun S => ?_
  refine sy_run ⟨0, [19]⟩ 60 S fun bs aa w S => ?_
  refine sy_reg S fun S => ?_
  refine sy_ops 2 S fun bs aa w S => ?_
  refine sy_ix (b := b2) (off := 0) (len := R.length) (n := k) (size := 4) (i := (k : Int)) S (by rw [← h2.resolve_left (by omega)]; kernel_rfl) rfl (by omega) fun aa S => ?_
  have hld := ld_pk (S.fact (f := rfPs b2 0 R) (by simp)) (show k < R.length by omega)
  rw [hQ] at hld
  refine sy_ldo S (v := .agg #[.int .i64 qj.k, .int .i64 qj.a, .int .i64 qj.b, .slice qj.s qj.c.length qj.cp]) hld (by kernel_rfl) fun aa S => ?_
  refine sy_run ⟨0, [20]⟩ 60 S fun bs aa w S => ?_
  refine sy_reg S fun S => ?_
  cases sb with
  | true =>
    rw [Bool.true_or] at hs
    subst hs
    refine sy_ops 2 S fun bs aa w S => ?_
    refine sy_run ⟨0, [18]⟩ 60 S fun bs aa w S => ?_
    refine sy_reg S fun S => ?_
    refine sy_ops 2 S fun bs aa w S => ?_
    refine sy_cast 55 S (congrArg (Value.int .i64) (by rw [IntKind.wrap_i64]; omega : IntKind.i64.wrap ((k : Int) + 1) = ((k + 1 : Nat) : Int))) (by kernel_rfl) fun S => ?_
    refine sy_run ⟨0, [999]⟩ 50 S fun bs aa w S => ?_
    have S2 := S.to [0] (rq3S (.slice a2 R.length c2) v2 i pj true (k + 1)) (by kernel_rfl) (by kernel_rfl) (by kernel_rfl) (by kernel_rfl) (by kernel_rfl)
    refine sy_at2 (k' := (.rnd (q) (bodyL (rqI M)) :: (rqI M).k.tail)) (by kernel_rfl) ?_
    exact ih _ aa w S2
  | false =>
    rw [Bool.false_or] at hs
    refine sy_ops 5 S fun bs aa w S => ?_
    by_cases h1 : qj.k = 2
    case neg =>
      rw [decide_eq_false h1, Bool.false_and, Bool.false_and] at hs
      subst hs
      refine sy_cast 64 S (congrArg Value.bool (decide_eq_false h1 : decide (qj.k = 2) = false)) (by kernel_rfl) fun S => ?_
      refine sy_run ⟨0, [18]⟩ 60 S fun bs aa w S => ?_
      refine sy_reg S fun S => ?_
      refine sy_ops 2 S fun bs aa w S => ?_
      refine sy_cast 55 S (congrArg (Value.int .i64) (by rw [IntKind.wrap_i64]; omega : IntKind.i64.wrap ((k : Int) + 1) = ((k + 1 : Nat) : Int))) (by kernel_rfl) fun S => ?_
      refine sy_run ⟨0, [999]⟩ 50 S fun bs aa w S => ?_
      have S2 := S.to [0] (rq3S (.slice a2 R.length c2) v2 i pj false (k + 1)) (by kernel_rfl) (by kernel_rfl) (by kernel_rfl) (by kernel_rfl) (by kernel_rfl)
      refine sy_at2 (k' := (.rnd (q) (bodyL (rqI M)) :: (rqI M).k.tail)) (by kernel_rfl) ?_
      exact ih _ aa w S2
    rw [decide_eq_true h1, Bool.true_and] at hs
    refine sy_cast 64 S (congrArg Value.bool (decide_eq_true h1 : decide (qj.k = 2) = true)) (by kernel_rfl) fun S => ?_
    refine sy_ops 6 S fun bs aa w S => ?_
    by_cases h3 : qj.a = pj.a
    case neg =>
      rw [decide_eq_false h3, Bool.false_and] at hs
      subst hs
      refine sy_cast 70 S (congrArg Value.bool (decide_eq_false h3 : decide (qj.a = pj.a) = false)) (by kernel_rfl) fun S => ?_
      refine sy_run ⟨0, [18]⟩ 60 S fun bs aa w S => ?_
      refine sy_reg S fun S => ?_
      refine sy_ops 2 S fun bs aa w S => ?_
      refine sy_cast 55 S (congrArg (Value.int .i64) (by rw [IntKind.wrap_i64]; omega : IntKind.i64.wrap ((k : Int) + 1) = ((k + 1 : Nat) : Int))) (by kernel_rfl) fun S => ?_
      refine sy_run ⟨0, [999]⟩ 50 S fun bs aa w S => ?_
      have S2 := S.to [0] (rq3S (.slice a2 R.length c2) v2 i pj false (k + 1)) (by kernel_rfl) (by kernel_rfl) (by kernel_rfl) (by kernel_rfl) (by kernel_rfl)
      refine sy_at2 (k' := (.rnd (q) (bodyL (rqI M)) :: (rqI M).k.tail)) (by kernel_rfl) ?_
      exact ih _ aa w S2
    rw [decide_eq_true h3, Bool.true_and] at hs
    refine sy_cast 70 S (congrArg Value.bool (decide_eq_true h3 : decide (qj.a = pj.a) = true)) (by kernel_rfl) fun S => ?_
    refine sy_ops 7 S fun bs aa w S => ?_
    refine sy_cast 77 S (congrArg (Value.int .i64) (by rw [IntKind.wrap_i64]; omega : IntKind.i64.wrap ((i : Int) - (k : Int)) = ((i : Int) - (k : Int)))) (by kernel_rfl) fun S => ?_
    refine sy_ops 1 S fun bs aa w S => ?_
    refine sy_cast 78 S (congrArg Value.bool (show decide (qj.b ≥ (i : Int) - (k : Int)) = sb2 from hs.symm)) (by kernel_rfl) fun S => ?_
    refine sy_run ⟨0, [18]⟩ 60 S fun bs aa w S => ?_
    refine sy_reg S fun S => ?_
    refine sy_ops 2 S fun bs aa w S => ?_
    refine sy_cast 55 S (congrArg (Value.int .i64) (by rw [IntKind.wrap_i64]; omega : IntKind.i64.wrap ((k : Int) + 1) = ((k + 1 : Nat) : Int))) (by kernel_rfl) fun S => ?_
    refine sy_run ⟨0, [999]⟩ 50 S fun bs aa w S => ?_
    have S2 := S.to [0] (rq3S (.slice a2 R.length c2) v2 i pj sb2 (k + 1)) (by kernel_rfl) (by kernel_rfl) (by kernel_rfl) (by kernel_rfl) (by kernel_rfl)
    refine sy_at2 (k' := (.rnd (q) (bodyL (rqI M)) :: (rqI M).k.tail)) (by kernel_rfl) ?_
    exact ih _ aa w S2
theorem rqi_a (w0 : World) (tt : Int) (ps R : List Pk) (a2 : Option Addr) (c2 b2 : Nat) (hR : plainK tt (fun _ => 0) 0 ps = plainK tt (fun _ => 0) 0 R) (hRr : ∀ p ∈ R, rightB tt p.w = true) (h2 : R.length = 0 ∨ a2 = some ⟨b2, 0, none⟩) (hl : R.length ≤ 10000) (M i : Nat) (hi : i < R.length) (pj : Pk) (hX : R.getD i pk0 = pj) (hmem : pj ∈ R) (hk3 : ¬pj.k = 3) (v2 : Value) (out : List Pk) (hd : (∀ b, Value.ownBlock v2 = some b → R.length = 0 ∨ b ≠ b2)) (u : Int → Int) (hu : Uok R (i) u) (hout : plainK tt (fun _ => 0) 0 R = out ++ plainK tt u ((i : Nat) : Int) (R.drop (i))) (ho : out.length ≤ i) (iho : ∀ (v2 : Value) (out : List Pk) (hd : (∀ b, Value.ownBlock v2 = some b → R.length = 0 ∨ b ≠ b2)) (u : Int → Int) (hu : Uok R (i + 1) u) (hout : plainK tt (fun _ => 0) 0 R = out ++ plainK tt u ((i + 1 : Nat) : Int) (R.drop (i + 1))) (ho : out.length ≤ i + 1) (aa : Act) (w : World) (S : Sy w0 [] [] (rq2S (.slice a2 R.length c2) v2 (i + 1)) [rfPs b2 0 R, rfOwn w0.heap.size 25 4 v2 (out).length (pkV (out))] aa w), post Tryd.prog (.rnd (M) (bodyL rq2C) :: rq2C.k.tail) (bodyPost Tryd.prog Tryd.f16 (fun e w' => (∃ v, e = .returned v ∧ w'.ownsRow w0.heap.size 25 4 v (plainK tt (fun _ => 0) 0 ps).length (pkV (plainK tt (fun _ => 0) 0 ps))) ∧ Below w0.heap.size w0 w')) .normal aa w) : ∀ (q k : Nat), k + q = i → ∀ (x0 : Nat) (aa : Act) (w : World) (S : Sy w0 [] [x0] (rq3S (.slice a2 R.length c2) v2 i pj (sB R i pj.a (k)) (k)) [rfPs b2 0 R, rfOwn w0.heap.size 25 4 v2 (out).length (pkV (out))] aa w), post Tryd.prog (.rnd (q + 1) (bodyL (rqI M)) :: (rqI M).k.tail) (bodyPost Tryd.prog Tryd.f16 (fun e w' => (∃ v, e = .returned v ∧ w'.ownsRow w0.heap.size 25 4 v (plainK tt (fun _ => 0) 0 ps).length (pkV (plainK tt (fun _ => 0) 0 ps))) ∧ Below w0.heap.size w0 w')) .normal aa w := by
  intro q
  induction q with
  | zero => intro k hk x0 aa w S; obtain rfl : k = i := by omega
            exact rqi_e w0 tt ps R a2 c2 b2 hR hRr h2 hl M k hi pj hX hmem hk3 v2 out hd u hu hout ho iho 0 x0 aa w S
  | succ q ihq => intro k hk x0 aa w S; exact rqi_s w0 tt ps R a2 c2 b2 hR hRr h2 hl M i hi pj hX hmem hk3 v2 out hd u hu hout ho (q + 1) k (by omega) (fun x0 aa w S => ihq (k + 1) (by omega) x0 aa w S) x0 aa w S
set_option maxHeartbeats 8000000 in
theorem rq_s (w0 : World) (tt : Int) (ps R : List Pk) (a2 : Option Addr) (c2 b2 : Nat) (hR : plainK tt (fun _ => 0) 0 ps = plainK tt (fun _ => 0) 0 R) (hRr : ∀ p ∈ R, rightB tt p.w = true) (h2 : R.length = 0 ∨ a2 = some ⟨b2, 0, none⟩) (hl : R.length ≤ 10000) (M i : Nat) (hi : i < R.length) (iho : ∀ (v2 : Value) (out : List Pk) (hd : (∀ b, Value.ownBlock v2 = some b → R.length = 0 ∨ b ≠ b2)) (u : Int → Int) (hu : Uok R (i + 1) u) (hout : plainK tt (fun _ => 0) 0 R = out ++ plainK tt u ((i + 1 : Nat) : Int) (R.drop (i + 1))) (ho : out.length ≤ i + 1) (aa : Act) (w : World) (S : Sy w0 [] [] (rq2S (.slice a2 R.length c2) v2 (i + 1)) [rfPs b2 0 R, rfOwn w0.heap.size 25 4 v2 (out).length (pkV (out))] aa w), post Tryd.prog (.rnd (M) (bodyL rq2C) :: rq2C.k.tail) (bodyPost Tryd.prog Tryd.f16 (fun e w' => (∃ v, e = .returned v ∧ w'.ownsRow w0.heap.size 25 4 v (plainK tt (fun _ => 0) 0 ps).length (pkV (plainK tt (fun _ => 0) 0 ps))) ∧ Below w0.heap.size w0 w')) .normal aa w) (v2 : Value) (out : List Pk) (hd : (∀ b, Value.ownBlock v2 = some b → R.length = 0 ∨ b ≠ b2)) (u : Int → Int) (hu : Uok R (i) u) (hout : plainK tt (fun _ => 0) 0 R = out ++ plainK tt u ((i : Nat) : Int) (R.drop (i))) (ho : out.length ≤ i) (aa : Act) (w : World) (S : Sy w0 [] [] (rq2S (.slice a2 R.length c2) v2 (i)) [rfPs b2 0 R, rfOwn w0.heap.size 25 4 v2 (out).length (pkV (out))] aa w) : post Tryd.prog (.rnd (M + 1) (bodyL rq2C) :: rq2C.k.tail) (bodyPost Tryd.prog Tryd.f16 (fun e w' => (∃ v, e = .returned v ∧ w'.ownsRow w0.heap.size 25 4 v (plainK tt (fun _ => 0) 0 ps).length (pkV (plainK tt (fun _ => 0) 0 ps))) ∧ Below w0.heap.size w0 w')) .normal aa w := by
  obtain ⟨ii, hi1, hi2, hi3, hi4⟩ := parts3 infPk
  have hmem := getD_mem R i pk0 hi
  generalize hX : R.getD i pk0 = pj at hmem
  refine sy_run (c := ⟨(.rnd (M + 1) (bodyL rq2C) :: rq2C.k.tail), rq2S (.slice a2 R.length c2) v2 (i)⟩) ⟨0, [10]⟩ 50 S fun bs aa w S => ?_
  refine sy_reg S fun S => ?_
  refine sy_ops 4 S fun bs aa w S => ?_
  refine sy_cast 37 S (congrArg Value.bool (decide_eq_true (by omega) : decide ((i : Int) < (R.length : Int)) = true)) (by kernel_rfl) fun S => ?_
  refine sy_run ⟨0, [12]⟩ 60 S fun bs aa w S => ?_
  refine sy_reg S fun S => ?_
  refine sy_ops 2 S fun bs aa w S => ?_
  refine sy_ix (b := b2) (off := 0) (len := R.length) (n := i) (size := 4) (i := (i : Int)) S (by rw [← h2.resolve_left (by omega)]; kernel_rfl) rfl (by omega) fun aa S => ?_
  have hld := ld_pk (S.fact (f := rfPs b2 0 R) (by simp)) (show i < R.length by omega)
  rw [hX] at hld
  refine sy_ldo S (v := .agg #[.int .i64 pj.k, .int .i64 pj.a, .int .i64 pj.b, .slice pj.s pj.c.length pj.cp]) hld (by kernel_rfl) fun aa S => ?_
  refine sy_run ⟨0, [13]⟩ 60 S fun bs aa w S => ?_
  refine sy_reg S fun S => ?_
  refine sy_ops 3 S fun bs aa w S => ?_
  by_cases hk3 : pj.k = 3
  · have hr := hRr pj hmem
    rw [pl_at hi hX, plainK, if_pos hr, if_neg (by omega), if_neg (by omega)] at hout
    have hz : plainK tt (fun _ => 0) 0 ps = out ++ [pj] := by rw [hR, hout]
    refine sy_cast 46 S (congrArg Value.bool (decide_eq_true hk3 : decide (pj.k = 3) = true)) (by kernel_rfl) fun S => ?_
    refine sy_run ⟨0, [14]⟩ 60 S fun bs aa w S => ?_
    refine sy_reg S fun S => ?_
    refine sy_ops 3 S fun bs aa w S => ?_
    refine sy_nm S fun bs S => ?_
    have how : w.ownsRow w0.heap.size 25 4 v2 out.length (pkV out) := S.fact (f := rfOwn w0.heap.size 25 4 v2 (out).length (pkV (out))) (by simp)
    have hap := (S.fs (rfOwn w0.heap.size 25 4 v2 (out).length (pkV (out))) (by simp)).2
    have hblk : ∀ j, j < bs.length → bs.getD j 0 < w.heap.size := fun j hj => S.lt hj
    refine sy_appO w0.heap.size (u := .v v2) (y := .s 1 0 1 1) (v := v2) (ad := adr bs 1 0) (m := 1) (cp := 1) (n := out.length) (size := 4) (bytes := 48) (e := 25) (t := 22) (xs := pkV out) (news := [.int .i64 pj.k, .int .i64 pj.a, .int .i64 pj.b, .slice pj.s pj.c.length pj.cp]) [rfPs b2 0 R] S (by kernel_rfl) Tryd.underlying22 hi1 hi2 hi3 hi4 rfl (by omega) rfl rfl how S.gr.size (own3 (P := Tryd.prog) (ty := 25) (cs := [.int .i64 pj.k, .int .i64 pj.a, .int .i64 pj.b, .slice pj.s pj.c.length pj.cp]) S 1 (by kernel_rfl)) rfl (by intro u hu; simp only [List.mem_cons, List.not_mem_nil, or_false] at hu; rcases hu with rfl | rfl | rfl | rfl <;> rfl) (by simp only [maxLen]; omega) (by omega)
      (fun g hg => Or.inr (how.lt g hg).1) (fun f hf => ⟨by simp only [List.mem_cons, List.not_mem_nil, or_false] at hf ⊢; subst hf; simp, fun b2' hb => by
        have h9 := (how.lt b2' hb).1
        simp only [List.mem_cons, List.not_mem_nil, or_false] at hf
        subst hf
        intro hbl
        have h1 : b2' = b2 := hbl.1
        exact (hd b2' hb).elim (fun q => hbl.2 q) (fun q => q h1)⟩) (fun j hj hb => hap j hj hb)
      fun v2' aa w2 hO hg' hnn S => ?_
    have S := S.add (rfOwn w0.heap.size 25 4 v2' (out ++ [pj]).length (pkV (out ++ [pj]))) (by show World.ownsRow _ _ _ _ _ _ _; rw [pkV_snoc, List.length_append]; exact hO) (fun j hj hb => (hnn _ hb).elim (fun q => hap j hj q) (fun q => by have := hblk j hj; omega))
    refine sy_run ⟨0, []⟩ 60 S fun bs aa w S => ?_
    rw [hz]
    exact sy_ret S (by kernel_rfl) (by kernel_rfl) fun hg => ⟨⟨v2', rfl, S.fact (f := rfOwn w0.heap.size 25 4 v2' (out ++ [pj]).length (pkV (out ++ [pj]))) (by simp)⟩, bel_gr hg⟩
  refine sy_cast 46 S (congrArg Value.bool (decide_eq_false hk3 : decide (pj.k = 3) = false)) (by kernel_rfl) fun S => ?_
  refine sy_run ⟨0, []⟩ 60 S fun bs aa w S => ?_
  have S2 := S.to [0] (rq3S (.slice a2 R.length c2) v2 i pj (sB R i pj.a 0) 0) (by kernel_rfl) (by kernel_rfl) (by kernel_rfl) (by kernel_rfl) (by kernel_rfl)
  refine sy_loop (i + 1) (by kernel_rfl) ?_
  refine sy_at2 (k' := (.rnd (i + 1) (bodyL (rqI M)) :: (rqI M).k.tail)) (by kernel_rfl) ?_
  exact rqi_a w0 tt ps R a2 c2 b2 hR hRr h2 hl M i hi pj hX hmem hk3 v2 out hd u hu hout ho iho i 0 (by omega) _ aa w S2
theorem rq_a (w0 : World) (tt : Int) (ps R : List Pk) (a2 : Option Addr) (c2 b2 : Nat) (hR : plainK tt (fun _ => 0) 0 ps = plainK tt (fun _ => 0) 0 R) (hRr : ∀ p ∈ R, rightB tt p.w = true) (h2 : R.length = 0 ∨ a2 = some ⟨b2, 0, none⟩) (hl : R.length ≤ 10000) : ∀ (M i : Nat), i + M = R.length → ∀ (v2 : Value) (out : List Pk) (hd : (∀ b, Value.ownBlock v2 = some b → R.length = 0 ∨ b ≠ b2)) (u : Int → Int) (hu : Uok R (i) u) (hout : plainK tt (fun _ => 0) 0 R = out ++ plainK tt u ((i : Nat) : Int) (R.drop (i))) (ho : out.length ≤ i) (aa : Act) (w : World) (S : Sy w0 [] [] (rq2S (.slice a2 R.length c2) v2 (i)) [rfPs b2 0 R, rfOwn w0.heap.size 25 4 v2 (out).length (pkV (out))] aa w), post Tryd.prog (.rnd (M + 1) (bodyL rq2C) :: rq2C.k.tail) (bodyPost Tryd.prog Tryd.f16 (fun e w' => (∃ v, e = .returned v ∧ w'.ownsRow w0.heap.size 25 4 v (plainK tt (fun _ => 0) 0 ps).length (pkV (plainK tt (fun _ => 0) 0 ps))) ∧ Below w0.heap.size w0 w')) .normal aa w := by
  intro M
  induction M with
  | zero => intro i hi v2 out hd u hu hout ho aa w S; obtain rfl : i = R.length := by omega
            exact rq_e w0 tt ps R a2 c2 b2 hR hRr h2 hl 0 v2 out hd u hu hout ho aa w S
  | succ M ih => intro i hi v2 out hd u hu hout ho aa w S; exact rq_s w0 tt ps R a2 c2 b2 hR hRr h2 hl (M + 1) i (by omega) (fun v2 out hd u hu hout ho aa w S => ih (i + 1) (by omega) v2 out hd u hu hout ho aa w S) v2 out hd u hu hout ho aa w S
set_option maxHeartbeats 8000000 in
theorem r1_e (w0 : World) (tt : Int) (ps : List Pk) (a : Option Addr) (cap b off : Nat) (ha : ps.length = 0 ∨ a = some ⟨b, off, none⟩) (hl : ps.length ≤ 10000) (hps : ∀ p ∈ ps, Pko w0 p) (hbn : ps.length = 0 ∨ b < w0.heap.size) (m : Nat) (v : Value) (aa : Act) (w : World) (S : Sy w0 [] [] (rq1S tt a ps.length cap v (ps.length)) [rfPs b off ps, rfPc ps, rfOwn w0.heap.size 25 4 v (ps.filter (isR tt)).length (pkV (ps.filter (isR tt)))] aa w) : post Tryd.prog (.rnd (m + 1) (bodyL rq1C) :: rq1C.k.tail) (bodyPost Tryd.prog Tryd.f16 (fun e w' => (∃ v, e = .returned v ∧ w'.ownsRow w0.heap.size 25 4 v (plainK tt (fun _ => 0) 0 ps).length (pkV (plainK tt (fun _ => 0) 0 ps))) ∧ Below w0.heap.size w0 w')) .normal aa w := by
  have hR := plainK_flt tt ps (fun _ => 0) 0
  have hRr : ∀ p ∈ ps.filter (isR tt), rightB tt p.w = true := fun p hp => (List.mem_filter.1 hp).2
  have hRl : (ps.filter (isR tt)).length ≤ ps.length := List.length_filter_le _ _
  refine sy_run (c := ⟨(.rnd (m + 1) (bodyL rq1C) :: rq1C.k.tail), rq1S tt a ps.length cap v (ps.length)⟩) ⟨0, [3]⟩ 50 S fun bs aa w S => ?_
  refine sy_reg S fun S => ?_
  refine sy_ops 4 S fun bs aa w S => ?_
  refine sy_cast 17 S (congrArg Value.bool (decide_eq_false (by omega) : decide ((ps.length : Int) < (ps.length : Int)) = false)) (by kernel_rfl) fun S => ?_
  refine sy_run ⟨0, []⟩ 60 S fun bs aa w S => ?_
  refine sy_nm S fun bs S => ?_
  generalize ps.filter (isR tt) = R at *
  have how : w.ownsRow w0.heap.size 25 4 v R.length (pkV R) := S.fact (f := rfOwn w0.heap.size 25 4 v (R).length (pkV (R))) (by simp)
  have hapt := (S.fs (rfOwn w0.heap.size 25 4 v (R).length (pkV (R))) (by simp)).2
  obtain ⟨a2, c2, b2, rfl, h2, hAt2, hb2⟩ := ps_of_owns how
  have S := S.add (rfPs b2 0 R) hAt2 (fun i hi h => hapt i hi (by
    have h1 : bs.getD i 0 = b2 := h.1
    rw [h1, h2.resolve_left h.2]
    rfl))
  have S := S.sub (F' := [rfPs b2 0 R]) (by intro f hf; simp only [List.mem_singleton] at hf; subst hf; simp)
  have S := S.add (rfOwn w0.heap.size 25 4 (.slice none 0 0) (([] : List Pk)).length (pkV (([] : List Pk)))) (own_nilP _ _) (fun i hi hbl => by cases hbl)
  have S := S.sub (F' := [rfPs b2 0 R, rfOwn w0.heap.size 25 4 (.slice none 0 0) (([] : List Pk)).length (pkV (([] : List Pk)))]) (by intro f hf; simp only [List.mem_cons, List.not_mem_nil, or_false] at hf; rcases hf with rfl | rfl <;> simp)
  have S2 := S.to [] (rq2S (.slice a2 R.length c2) (.slice none 0 0) 0) (by kernel_rfl) (by kernel_rfl) (by kernel_rfl) (by kernel_rfl) (by kernel_rfl)
  refine sy_loop (R.length + 1) (by kernel_rfl) ?_
  refine sy_at2 (k' := (.rnd (R.length + 1) (bodyL rq2C) :: rq2C.k.tail)) (by kernel_rfl) ?_
  exact rq_a w0 tt ps R a2 c2 b2 hR hRr h2 (by omega) R.length 0 (by omega) (.slice none 0 0) [] (fun b q => by cases q) (fun _ => 0) (Uok.zero R) (by simp) (Nat.le_refl _) aa w S2
theorem flt_next (t : Int) {ps : List Pk} {j : Nat} (hj : j < ps.length) : (ps.take (j + 1)).filter (isR t) = (ps.take j).filter (isR t) ++ (if isR t (ps.getD j pk0) = true then [ps.getD j pk0] else []) := by
  have e : ps.getD j pk0 = ps[j] := by simp [List.getD, List.getElem?_eq_getElem hj]
  rw [List.take_succ_eq_append_getElem hj, List.filter_append, e]
  congr 1
  simp only [List.filter_cons, List.filter_nil]
set_option maxHeartbeats 8000000 in
theorem r1_s (w0 : World) (tt : Int) (ps : List Pk) (a : Option Addr) (cap b off : Nat) (ha : ps.length = 0 ∨ a = some ⟨b, off, none⟩) (hl : ps.length ≤ 10000) (hps : ∀ p ∈ ps, Pko w0 p) (hbn : ps.length = 0 ∨ b < w0.heap.size) (m j : Nat) (hj : j < ps.length) (ih : ∀ (v : Value) (aa : Act) (w : World) (S : Sy w0 [] [] (rq1S tt a ps.length cap v (j + 1)) [rfPs b off ps, rfPc ps, rfOwn w0.heap.size 25 4 v (((ps.take (j + 1)).filter (isR tt))).length (pkV (((ps.take (j + 1)).filter (isR tt))))] aa w), post Tryd.prog (.rnd (m) (bodyL rq1C) :: rq1C.k.tail) (bodyPost Tryd.prog Tryd.f16 (fun e w' => (∃ v, e = .returned v ∧ w'.ownsRow w0.heap.size 25 4 v (plainK tt (fun _ => 0) 0 ps).length (pkV (plainK tt (fun _ => 0) 0 ps))) ∧ Below w0.heap.size w0 w')) .normal aa w) (v : Value) (aa : Act) (w : World) (S : Sy w0 [] [] (rq1S tt a ps.length cap v (j)) [rfPs b off ps, rfPc ps, rfOwn w0.heap.size 25 4 v (((ps.take (j)).filter (isR tt))).length (pkV (((ps.take (j)).filter (isR tt))))] aa w) : post Tryd.prog (.rnd (m + 1) (bodyL rq1C) :: rq1C.k.tail) (bodyPost Tryd.prog Tryd.f16 (fun e w' => (∃ v, e = .returned v ∧ w'.ownsRow w0.heap.size 25 4 v (plainK tt (fun _ => 0) 0 ps).length (pkV (plainK tt (fun _ => 0) 0 ps))) ∧ Below w0.heap.size w0 w')) .normal aa w := by
  obtain ⟨ii, hi1, hi2, hi3, hi4⟩ := parts3 infPk
  have hmem := getD_mem ps j pk0 hj
  have hnx := flt_next tt hj
  have hle : ((ps.take (j)).filter (isR tt)).length ≤ 10000 := by
    have h1 := List.length_filter_le (isR tt) (ps.take j)
    have h2 := List.length_take_le j ps
    omega
  rw [hnx] at ih
  clear hnx
  generalize ((ps.take (j)).filter (isR tt)) = out at ih S hle
  generalize hX : ps.getD j pk0 = pj at ih hmem
  refine sy_run (c := ⟨(.rnd (m + 1) (bodyL rq1C) :: rq1C.k.tail), rq1S tt a ps.length cap v (j)⟩) ⟨0, [3]⟩ 50 S fun bs aa w S => ?_
  refine sy_reg S fun S => ?_
  refine sy_ops 4 S fun bs aa w S => ?_
  refine sy_cast 17 S (congrArg Value.bool (decide_eq_true (by omega) : decide ((j : Int) < (ps.length : Int)) = true)) (by kernel_rfl) fun S => ?_
  refine sy_run ⟨0, [5]⟩ 60 S fun bs aa w S => ?_
  refine sy_reg S fun S => ?_
  refine sy_ops 3 S fun bs aa w S => ?_
  refine sy_ix (b := b) (off := off) (len := ps.length) (n := j) (size := 4) (i := (j : Int)) S (by rw [← ha.resolve_left (by omega)]; kernel_rfl) rfl hj fun aa S => ?_
  have hld := ld_pk (S.fact (f := rfPs b off ps) (by simp)) hj
  rw [hX] at hld
  refine sy_ldo S (v := .agg #[.int .i64 pj.k, .int .i64 pj.a, .int .i64 pj.b, .slice pj.s pj.c.length pj.cp]) hld (by kernel_rfl) fun aa S => ?_
  have hrt := rright_t w tt pj (hps _ hmem).1 (by have := (hps _ hmem).2.2.1; omega) ((S.fact (f := rfPc ps) (by simp)) _ hmem)
  cases hr : rightB tt pj.w with
  | false =>
    rw [hr] at hrt
    rw [if_neg (by simp [isR, hr]), List.append_nil] at ih
    refine sy_call1 S hrt (by kernel_rfl) fun aa w hb S => ?_
    refine sy_run ⟨0, [4]⟩ 60 S fun bs aa w S => ?_
    refine sy_reg S fun S => ?_
    refine sy_ops 2 S fun bs aa w S => ?_
    refine sy_cast 19 S (congrArg (Value.int .i64) (by rw [IntKind.wrap_i64]; omega : IntKind.i64.wrap ((j : Int) + 1) = ((j + 1 : Nat) : Int))) (by kernel_rfl) fun S => ?_
    refine sy_run ⟨0, [999]⟩ 50 S fun bs aa w S => ?_
    have S := S.sub (F' := [rfPs b off ps, rfPc ps, rfOwn w0.heap.size 25 4 v (out).length (pkV (out))]) (by intro f hf; simp only [List.mem_cons, List.not_mem_nil, or_false] at hf; rcases hf with rfl | rfl | rfl <;> simp)
    have S2 := S.to [] (rq1S tt a ps.length cap v (j + 1)) (by kernel_rfl) (by kernel_rfl) (by kernel_rfl) (by kernel_rfl) (by kernel_rfl)
    refine sy_at2 (k' := (.rnd (m) (bodyL rq1C) :: rq1C.k.tail)) (by kernel_rfl) ?_
    exact ih v aa w S2
  | true =>
    rw [hr] at hrt
    rw [if_pos (by simp [isR, hr])] at ih
    refine sy_call1 S hrt (by kernel_rfl) fun aa w hb S => ?_
    refine sy_run ⟨0, [7]⟩ 60 S fun bs aa w S => ?_
    refine sy_reg S fun S => ?_
    refine sy_ops 3 S fun bs aa w S => ?_
    refine sy_ix (b := b) (off := off) (len := ps.length) (n := j) (size := 4) (i := (j : Int)) S (by rw [← ha.resolve_left (by omega)]; kernel_rfl) rfl hj fun aa S => ?_
    have hld := ld_pk (S.fact (f := rfPs b off ps) (by simp)) hj
    rw [hX] at hld
    refine sy_ldo S (v := .agg #[.int .i64 pj.k, .int .i64 pj.a, .int .i64 pj.b, .slice pj.s pj.c.length pj.cp]) hld (by kernel_rfl) fun aa S => ?_
    refine sy_ops 1 S fun bs aa w S => ?_
    refine sy_nm S fun bs S => ?_
    have how : w.ownsRow w0.heap.size 25 4 v out.length (pkV out) := S.fact (f := rfOwn w0.heap.size 25 4 v (out).length (pkV (out))) (by simp)
    have hap := (S.fs (rfOwn w0.heap.size 25 4 v (out).length (pkV (out))) (by simp)).2
    have hblk : ∀ j, j < bs.length → bs.getD j 0 < w.heap.size := fun j hj => S.lt hj
    refine sy_appO w0.heap.size (u := .v v) (y := .s 0 0 1 1) (v := v) (ad := adr bs 0 0) (m := 1) (cp := 1) (n := out.length) (size := 4) (bytes := 48) (e := 25) (t := 22) (xs := pkV out) (news := [.int .i64 pj.k, .int .i64 pj.a, .int .i64 pj.b, .slice pj.s pj.c.length pj.cp]) [rfPs b off ps, rfPc ps] S (by kernel_rfl) Tryd.underlying22 hi1 hi2 hi3 hi4 rfl (by omega) rfl rfl how S.gr.size (own3 (P := Tryd.prog) (ty := 25) (cs := [.int .i64 pj.k, .int .i64 pj.a, .int .i64 pj.b, .slice pj.s pj.c.length pj.cp]) S 0 (by kernel_rfl)) rfl (by intro u hu; simp only [List.mem_cons, List.not_mem_nil, or_false] at hu; rcases hu with rfl | rfl | rfl | rfl <;> rfl) (by simp only [maxLen]; omega) (by omega)
      (fun g hg => Or.inr (how.lt g hg).1) (fun f hf => ⟨by simp only [List.mem_cons, List.not_mem_nil, or_false] at hf ⊢; rcases hf with rfl | rfl <;> simp, fun b2 hb => by
        have h9 := (how.lt b2 hb).1
        simp only [List.mem_cons, List.not_mem_nil, or_false] at hf
        rcases hf with rfl | rfl
        · intro hbl
          have h1 : b2 = b := hbl.1
          have h2 := hbn.resolve_left hbl.2
          omega
        · rintro ⟨p2, hp2, h1, h2⟩
          have := isAt_lt (hps p2 hp2).2.2.2 h2
          omega⟩) (fun j hj hb => hap j hj hb)
      fun v' aa w2 hO hg' hnn S => ?_
    have S := S.add (rfOwn w0.heap.size 25 4 v' (out ++ [pj]).length (pkV (out ++ [pj]))) (by show World.ownsRow _ _ _ _ _ _ _; rw [pkV_snoc, List.length_append]; exact hO) (fun j hj hb => (hnn _ hb).elim (fun q => hap j hj q) (fun q => by have := hblk j hj; omega))
    refine sy_run ⟨0, [4]⟩ 60 S fun bs aa w S => ?_
    refine sy_reg S fun S => ?_
    refine sy_ops 2 S fun bs aa w S => ?_
    refine sy_cast 19 S (congrArg (Value.int .i64) (by rw [IntKind.wrap_i64]; omega : IntKind.i64.wrap ((j : Int) + 1) = ((j + 1 : Nat) : Int))) (by kernel_rfl) fun S => ?_
    refine sy_run ⟨0, [999]⟩ 50 S fun bs aa w S => ?_
    have S := S.sub (F' := [rfPs b off ps, rfPc ps, rfOwn w0.heap.size 25 4 v' (out ++ [pj]).length (pkV (out ++ [pj]))]) (by intro f hf; simp only [List.mem_cons, List.not_mem_nil, or_false] at hf; rcases hf with rfl | rfl | rfl <;> simp)
    have S2 := S.to [] (rq1S tt a ps.length cap v' (j + 1)) (by kernel_rfl) (by kernel_rfl) (by kernel_rfl) (by kernel_rfl) (by kernel_rfl)
    refine sy_at2 (k' := (.rnd (m) (bodyL rq1C) :: rq1C.k.tail)) (by kernel_rfl) ?_
    exact ih v' aa w S2
theorem r1_a (w0 : World) (tt : Int) (ps : List Pk) (a : Option Addr) (cap b off : Nat) (ha : ps.length = 0 ∨ a = some ⟨b, off, none⟩) (hl : ps.length ≤ 10000) (hps : ∀ p ∈ ps, Pko w0 p) (hbn : ps.length = 0 ∨ b < w0.heap.size) : ∀ (m j : Nat), j + m = ps.length → ∀ (v : Value) (aa : Act) (w : World) (S : Sy w0 [] [] (rq1S tt a ps.length cap v (j)) [rfPs b off ps, rfPc ps, rfOwn w0.heap.size 25 4 v (((ps.take (j)).filter (isR tt))).length (pkV (((ps.take (j)).filter (isR tt))))] aa w), post Tryd.prog (.rnd (m + 1) (bodyL rq1C) :: rq1C.k.tail) (bodyPost Tryd.prog Tryd.f16 (fun e w' => (∃ v, e = .returned v ∧ w'.ownsRow w0.heap.size 25 4 v (plainK tt (fun _ => 0) 0 ps).length (pkV (plainK tt (fun _ => 0) 0 ps))) ∧ Below w0.heap.size w0 w')) .normal aa w := by
  intro m
  induction m with
  | zero =>
    intro j hj v aa w S
    obtain rfl : j = ps.length := by omega
    rw [List.take_length] at S
    exact r1_e w0 tt ps a cap b off ha hl hps hbn 0 v aa w S
  | succ m ih => intro j hj v aa w S; exact r1_s w0 tt ps a cap b off ha hl hps hbn (m + 1) j (by omega) (fun v aa w S => ih (j + 1) (by omega) v aa w S) v aa w S
set_option maxHeartbeats 8000000 in
theorem rplain_t (w0 : World) (tt : Int) (a : Option Addr) (cap b off : Nat) (ps : List Pk) (ha : ps.length = 0 ∨ a = some ⟨b, off, none⟩) (hl : ps.length ≤ 10000) (hps : ∀ p ∈ ps, Pko w0 p) (hAt : PsAt w0 b off ps) : Calls Tryd.prog 16 #[.int .i64 tt, .slice a ps.length cap] w0 (fun e w' => (∃ v, e = .returned v ∧ w'.ownsRow w0.heap.size 25 4 v (plainK tt (fun _ => 0) 0 ps).length (pkV (plainK tt (fun _ => 0) 0 ps))) ∧ Below w0.heap.size w0 w') := by
  have hbn : ps.length = 0 ∨ b < w0.heap.size := by
    rcases Nat.eq_zero_or_pos ps.length with h | h
    · exact Or.inl h
    · exact Or.inr ((rfPs b off ps).lt w0 hAt b ⟨rfl, by omega⟩)
  refine sy_enterF [] [rfPs b off ps, rfPc ps] (by intro f hf; simp only [List.mem_cons, List.not_mem_nil, or_false] at hf; rcases hf with rfl | rfl; exact hAt; exact fun p hp => (hps p hp).2.2.2) Tryd.func16 rfl rfl fun aa S => ?_
  refine sy_run ⟨0, []⟩ 60 S fun bs aa w S => ?_
  have S := S.add (rfOwn w0.heap.size 25 4 (.slice none 0 0) (([] : List Pk)).length (pkV (([] : List Pk)))) (own_nilP _ _) (fun i hi hbl => by cases hbl)
  have S := S.sub (F' := [rfPs b off ps, rfPc ps, rfOwn w0.heap.size 25 4 (.slice none 0 0) (([] : List Pk)).length (pkV (([] : List Pk)))]) (by intro f hf; simp only [List.mem_cons, List.not_mem_nil, or_false] at hf; rcases hf with rfl | rfl | rfl <;> simp)
  have S2 := S.to [] (rq1S tt a ps.length cap (.slice none 0 0) 0) (by kernel_rfl) (by kernel_rfl) (by kernel_rfl) (by kernel_rfl) (by kernel_rfl)
  refine sy_loop (ps.length + 1) (by kernel_rfl) ?_
  refine sy_at2 (k' := (.rnd (ps.length + 1) (bodyL rq1C) :: rq1C.k.tail)) (by kernel_rfl) ?_
  exact r1_a w0 tt ps a cap b off ha hl hps hbn ps.length 0 (by omega) (.slice none 0 0) aa w S2
end Go.Proofs.YtfkmcibglaiakaaDoor
