
/-
  Layer 22: a crash tears bytes: the statement.
-/
import Derived.Test.YtnlcjlhcghgaoaaRows
import Derived.Test.YtnlcjlhcghgaoaaBase
import Derived.Test.YtnlcjlhcghgaoaaDk13
import Derived.WalkKit
namespace Go.Proofs.Ytnlcjlhcghgaoaa
open Go Go.RowKit SZ
set_option linter.unusedVariables false
set_option linter.unusedSimpArgs false
set_option maxRecDepth 100000
attribute [local irreducible] post GD Nxt NxtAll
noncomputable def tb1S (k j n lc m : Nat) (pa ga : Option Addr) (dn gc : Nat) (ca : Option Addr) (cn cc : Nat) (d : Dk) : SS := ⟨168, [(1, .v (.slice pa n lc)), (2, .v (.slice ca cn cc)), (7, .v (.bool true)), (8, .v (.int .i64 ((k + 1 : Nat) : Int))), (9, .p 0 0), (10, .v (.slice ga dn gc)), (11, .v (.bool true)), (12, .v (.int .i64 (m : Int))), (13, .v (.int .i64 (j : Int)))], [⟨25, d.cs⟩]⟩
set_option maxHeartbeats 8000000 in
theorem l1_eq (w0 : World) (k : Nat) (hk : k < 6) (l : List Nat) (hl : l.length ≤ 30) (h256 : ∀ i, i < l.length → l.getD i 0 < 256) (pa : Option Addr) (lc lb lo : Nat) (hp : l.length = 0 ∨ pa = some ⟨lb, lo, none⟩) (hlc : l.length ≤ lc) (cs : List Int) (hcl : cs.length ≤ 40) (ca : Option Addr) (cc cb co : Nat) (hca : cs.length = 0 ∨ ca = some ⟨cb, co, none⟩) (w1 : World) (d : Dk) (DD : List (Int × ByteArray)) (hW : WI w1 k l l.length d DD) (ga : Option Addr) (gc g : Nat) (hg : DD.length = 0 ∨ ga = some ⟨g, 0, none⟩) (m j : Nat) (hj : j < l.length) (hc : l.getD j 0 = 255) (ih : ∀ (x0 : Nat) (aa : Act) (w : World) (S : Sy w0 [] [x0] (tb1S k (j + 1) l.length lc (lastS l (j + 1)) pa ga DD.length gc ca cs.length cc d) [rfBy lb lo l, rfIn cb co cs, rfSt d.b d.o d.S, rfWs d.c d.p d.W, rfWs g 0 DD] aa w), post Try.prog (.rnd (m) (bodyL tb1) :: tb1.k.tail) (bodyPost Try.prog Try.f6 fun e w' => e = .returned (.bool true) ∧ Below w0.heap.size w0 w') .normal aa w) (x0 : Nat) (aa : Act) (w : World) (S : Sy w0 [] [x0] (tb1S k (j) l.length lc (lastS l (j)) pa ga DD.length gc ca cs.length cc d) [rfBy lb lo l, rfIn cb co cs, rfSt d.b d.o d.S, rfWs d.c d.p d.W, rfWs g 0 DD] aa w) : post Try.prog (.rnd (m + 1) (bodyL tb1) :: tb1.k.tail) (bodyPost Try.prog Try.f6 fun e w' => e = .returned (.bool true) ∧ Below w0.heap.size w0 w') .normal aa w := by
  obtain rfl := hp.resolve_left (by omega)
  have e : lastS l (j + 1) = j + 1 := by show (if l.getD j 0 = 255 then j + 1 else lastS l j) = _; rw [if_pos hc]
  refine sy_run (c := ⟨(.rnd (m + 1) (bodyL tb1) :: tb1.k.tail), tb1S k (j) l.length lc (lastS l (j)) (some ⟨lb, lo, none⟩) ga DD.length gc ca cs.length cc d⟩) ⟨0, [8]⟩ 50 S fun bs aa w S => ?_
  refine sy_reg S fun S => ?_
  refine sy_ops 4 S fun bs aa w S => ?_
  refine sy_cast 50 S (congrArg Value.bool (decide_eq_true (by omega) : decide ((j : Int) < (l.length : Int)) = true)) (by kernel_rfl) fun S => ?_
  refine sy_run ⟨0, [10]⟩ 60 S fun bs aa w S => ?_
  refine sy_reg S fun S => ?_
  refine sy_ops 2 S fun bs aa w S => ?_
  refine sy_ix (b := lb) (off := lo) (len := l.length) (n := j) (size := 1) (i := (j : Int)) S (by kernel_rfl) rfl hj fun aa S => ?_
  refine sy_ldo S (ld_at (ty := 5) (b := lb) (off := lo + j * 1) (by kernel_rfl) (by rw [Nat.mul_one]; exact S.fact (f := rfBy lb lo l) (by simp) j hj)) (by kernel_rfl) fun aa S => ?_
  refine sy_ops 1 S fun bs aa w S => ?_
  refine sy_cast 57 S (congrArg Value.bool (decide_eq_true (by rw [hc]; rfl) : decide (((l.getD j 0 : Nat) : Int) = 255) = true)) (by kernel_rfl) fun S => ?_
  refine sy_run ⟨0, [11]⟩ 60 S fun bs aa w S => ?_
  refine sy_reg S fun S => ?_
  refine sy_ops 2 S fun bs aa w S => ?_
  refine sy_cast 59 S (congrArg (Value.int .i64) (by rw [IntKind.wrap_i64]; omega : IntKind.i64.wrap ((j : Int) + 1) = ((j + 1 : Nat) : Int))) (by kernel_rfl) fun S => ?_
  refine sy_run ⟨0, [9]⟩ 60 S fun bs aa w S => ?_
  refine sy_reg S fun S => ?_
  refine sy_ops 2 S fun bs aa w S => ?_
  refine sy_cast 52 S (congrArg (Value.int .i64) (by rw [IntKind.wrap_i64]; omega : IntKind.i64.wrap ((j : Int) + 1) = ((j + 1 : Nat) : Int))) (by kernel_rfl) fun S => ?_
  refine sy_run ⟨0, [999]⟩ 50 S fun bs aa w S => ?_
  have S2 := S.to [0] (tb1S k (j + 1) l.length lc (j + 1) (some ⟨lb, lo, none⟩) ga DD.length gc ca cs.length cc d) (by kernel_rfl) (by kernel_rfl) (by kernel_rfl) (by kernel_rfl) (by kernel_rfl)
  refine sy_at2 (k' := (.rnd (m) (bodyL tb1) :: tb1.k.tail)) (by kernel_rfl) ?_
  exact ih _ aa w (by rw [e]; exact S2)
set_option maxHeartbeats 8000000 in
theorem l1_ne (w0 : World) (k : Nat) (hk : k < 6) (l : List Nat) (hl : l.length ≤ 30) (h256 : ∀ i, i < l.length → l.getD i 0 < 256) (pa : Option Addr) (lc lb lo : Nat) (hp : l.length = 0 ∨ pa = some ⟨lb, lo, none⟩) (hlc : l.length ≤ lc) (cs : List Int) (hcl : cs.length ≤ 40) (ca : Option Addr) (cc cb co : Nat) (hca : cs.length = 0 ∨ ca = some ⟨cb, co, none⟩) (w1 : World) (d : Dk) (DD : List (Int × ByteArray)) (hW : WI w1 k l l.length d DD) (ga : Option Addr) (gc g : Nat) (hg : DD.length = 0 ∨ ga = some ⟨g, 0, none⟩) (m j : Nat) (hj : j < l.length) (hc : l.getD j 0 ≠ 255) (ih : ∀ (x0 : Nat) (aa : Act) (w : World) (S : Sy w0 [] [x0] (tb1S k (j + 1) l.length lc (lastS l (j + 1)) pa ga DD.length gc ca cs.length cc d) [rfBy lb lo l, rfIn cb co cs, rfSt d.b d.o d.S, rfWs d.c d.p d.W, rfWs g 0 DD] aa w), post Try.prog (.rnd (m) (bodyL tb1) :: tb1.k.tail) (bodyPost Try.prog Try.f6 fun e w' => e = .returned (.bool true) ∧ Below w0.heap.size w0 w') .normal aa w) (x0 : Nat) (aa : Act) (w : World) (S : Sy w0 [] [x0] (tb1S k (j) l.length lc (lastS l (j)) pa ga DD.length gc ca cs.length cc d) [rfBy lb lo l, rfIn cb co cs, rfSt d.b d.o d.S, rfWs d.c d.p d.W, rfWs g 0 DD] aa w) : post Try.prog (.rnd (m + 1) (bodyL tb1) :: tb1.k.tail) (bodyPost Try.prog Try.f6 fun e w' => e = .returned (.bool true) ∧ Below w0.heap.size w0 w') .normal aa w := by
  obtain rfl := hp.resolve_left (by omega)
  have e : lastS l (j + 1) = lastS l j := by show (if l.getD j 0 = 255 then j + 1 else lastS l j) = _; rw [if_neg hc]
  refine sy_run (c := ⟨(.rnd (m + 1) (bodyL tb1) :: tb1.k.tail), tb1S k (j) l.length lc (lastS l (j)) (some ⟨lb, lo, none⟩) ga DD.length gc ca cs.length cc d⟩) ⟨0, [8]⟩ 50 S fun bs aa w S => ?_
  refine sy_reg S fun S => ?_
  refine sy_ops 4 S fun bs aa w S => ?_
  refine sy_cast 50 S (congrArg Value.bool (decide_eq_true (by omega) : decide ((j : Int) < (l.length : Int)) = true)) (by kernel_rfl) fun S => ?_
  refine sy_run ⟨0, [10]⟩ 60 S fun bs aa w S => ?_
  refine sy_reg S fun S => ?_
  refine sy_ops 2 S fun bs aa w S => ?_
  refine sy_ix (b := lb) (off := lo) (len := l.length) (n := j) (size := 1) (i := (j : Int)) S (by kernel_rfl) rfl hj fun aa S => ?_
  refine sy_ldo S (ld_at (ty := 5) (b := lb) (off := lo + j * 1) (by kernel_rfl) (by rw [Nat.mul_one]; exact S.fact (f := rfBy lb lo l) (by simp) j hj)) (by kernel_rfl) fun aa S => ?_
  refine sy_ops 1 S fun bs aa w S => ?_
  refine sy_cast 57 S (congrArg Value.bool (decide_eq_false (by omega) : decide (((l.getD j 0 : Nat) : Int) = 255) = false)) (by kernel_rfl) fun S => ?_
  refine sy_run ⟨0, [9]⟩ 60 S fun bs aa w S => ?_
  refine sy_reg S fun S => ?_
  refine sy_ops 2 S fun bs aa w S => ?_
  refine sy_cast 52 S (congrArg (Value.int .i64) (by rw [IntKind.wrap_i64]; omega : IntKind.i64.wrap ((j : Int) + 1) = ((j + 1 : Nat) : Int))) (by kernel_rfl) fun S => ?_
  refine sy_run ⟨0, [999]⟩ 50 S fun bs aa w S => ?_
  have S2 := S.to [0] (tb1S k (j + 1) l.length lc (lastS l j) (some ⟨lb, lo, none⟩) ga DD.length gc ca cs.length cc d) (by kernel_rfl) (by kernel_rfl) (by kernel_rfl) (by kernel_rfl) (by kernel_rfl)
  refine sy_at2 (k' := (.rnd (m) (bodyL tb1) :: tb1.k.tail)) (by kernel_rfl) ?_
  exact ih _ aa w (by rw [e]; exact S2)
set_option maxHeartbeats 8000000 in
theorem l1_end (w0 : World) (k : Nat) (hk : k < 6) (l : List Nat) (hl : l.length ≤ 30) (h256 : ∀ i, i < l.length → l.getD i 0 < 256) (pa : Option Addr) (lc lb lo : Nat) (hp : l.length = 0 ∨ pa = some ⟨lb, lo, none⟩) (hlc : l.length ≤ lc) (cs : List Int) (hcl : cs.length ≤ 40) (ca : Option Addr) (cc cb co : Nat) (hca : cs.length = 0 ∨ ca = some ⟨cb, co, none⟩) (w1 : World) (d : Dk) (DD : List (Int × ByteArray)) (hW : WI w1 k l l.length d DD) (ga : Option Addr) (gc g : Nat) (hg : DD.length = 0 ∨ ga = some ⟨g, 0, none⟩) (m : Nat) (x0 : Nat) (aa : Act) (w : World) (S : Sy w0 [] [x0] (tb1S k (l.length) l.length lc (lastS l (l.length)) pa ga DD.length gc ca cs.length cc d) [rfBy lb lo l, rfIn cb co cs, rfSt d.b d.o d.S, rfWs d.c d.p d.W, rfWs g 0 DD] aa w) : post Try.prog (.rnd (m + 1) (bodyL tb1) :: tb1.k.tail) (bodyPost Try.prog Try.f6 fun e w' => e = .returned (.bool true) ∧ Below w0.heap.size w0 w') .normal aa w := by
  have hle := lastS_le l l.length
  have hp2 : (l.take (lastS l l.length)).length = (lastS l l.length) := by rw [List.length_take]; omega
  refine sy_run (c := ⟨(.rnd (m + 1) (bodyL tb1) :: tb1.k.tail), tb1S k (l.length) l.length lc (lastS l (l.length)) pa ga DD.length gc ca cs.length cc d⟩) ⟨0, [8]⟩ 50 S fun bs aa w S => ?_
  refine sy_reg S fun S => ?_
  refine sy_ops 4 S fun bs aa w S => ?_
  refine sy_cast 50 S (congrArg Value.bool (decide_eq_false (by omega) : decide ((l.length : Int) < (l.length : Int)) = false)) (by kernel_rfl) fun S => ?_
  refine sy_run ⟨0, [12]⟩ 60 S fun bs aa w S => ?_
  refine sy_reg S fun S => ?_
  refine sy_ops 3 S fun bs aa w S => ?_
  refine sy_ex (op := .slice 41 (.tmp 62) none (some (.tmp 63)) none) (ty := 41) (v := .slice pa (l.take (lastS l l.length)).length lc) S (by kernel_rfl) (ex_sl (p := .slice pa l.length lc) (l2 := none) (h2 := some (.v (.int .i64 ((lastS l l.length) : Int)))) (m2 := none) (by kernel_rfl) (by kernel_rfl) (by kernel_rfl) (by kernel_rfl) (fun W => by rw [hp2]; exact sl_pre pa l.length lc (lastS l l.length) (by omega) W)) fun aa S => ?_
  have hlt := fun j hj => S.lt (i := j) hj
  refine sy_call S (X := Dk × Option Addr × Nat × Nat × List (Int × ByteArray)) (val := fun x => .tuple #[x.1.v, .slice x.2.1 x.2.2.2.2.length x.2.2.1, .bool true]) (written_u w k hk (l.take (lastS l l.length)) (by omega) (fun i hi => by
      have e : (l.take (lastS l l.length)).getD i 0 = l.getD i 0 := by rw [hp2] at hi; simp [List.getD, List.getElem?_take, hi]
      rw [e]
      exact h256 i (by omega)) pa lc lb lo (hp.imp (fun h => by omega) id) (fun j hj => by
      have e : (l.take (lastS l l.length)).getD j 0 = l.getD j 0 := by rw [hp2] at hj; simp [List.getD, List.getElem?_take, hj]
      rw [e]
      exact S.fact (f := rfBy lb lo l) (by simp) j (by omega))) (by kernel_rfl) fun x aa w1' hC hb S => ?_
  obtain ⟨d2, ga2, gc2, g2, D2⟩ := x
  obtain ⟨hW2, h1, h2, h3, h4, h5⟩ := hC
  have S := S.add (rfSt d2.b d2.o d2.S) h1 (fun j hj hb => by have q1 := hlt j hj; obtain ⟨q2, q3⟩ := hb; have q4 := hW2.hb.1; (try simp only at q4); omega)
  refine sy_run ⟨0, [13]⟩ 60 S fun bs aa w S => ?_
  refine sy_reg S fun S => ?_
  refine sy_ops 2 S fun bs aa w S => ?_
  have hlt := fun j hj => S.lt (i := j) hj
  refine sy_call S (X := Nat × Nat) (val := fun x => .agg #[.slice (some ⟨x.1, 0, none⟩) d.sl x.2, .slice none 0 0]) (C := fun x w' => w.heap.size ≤ x.1 ∧ (rfRow x.1 (crS d cs)).P w') ((crash_t w d hW.ok hW.right (by rw [hW.sl]; omega) (hW.ok.hw2.elim (fun h => by omega) (fun h => h.2.2)) ca cc cb co cs hca (S.fact (f := rfSt d.b d.o d.S) (by simp)) (S.fact (f := rfWs d.c d.p d.W) (by simp)) (S.fact (f := rfIn cb co cs) (by simp))).mono fun e w' ⟨g3, sc3, q1, q2, q3, q4⟩ => ⟨(g3, sc3), q1, ⟨q2, q3⟩, q4⟩) (by kernel_rfl) fun x aa w2 hC hb S => ?_
  obtain ⟨g3, sc3⟩ := x
  obtain ⟨hC1, hC2⟩ := hC
  have S := S.add (rfSt g3 0 (crS d cs)) (row_at hC2) (fun j hj hb => by have q1 := hlt j hj; obtain ⟨q2, q3⟩ := hb; have q4 : w.heap.size ≤ g3 := hC1; omega)
  have S := S.add (rfWs 0 0 []) (fun j hj => absurd hj (Nat.not_lt_zero _)) (fun i hi h => h.2 rfl)
  refine sy_run ⟨0, []⟩ 60 S fun bs aa w S => ?_
  have S := S.sub (F' := [rfSt d2.b d2.o d2.S, rfSt g3 0 (crS d cs), rfWs g 0 DD, rfWs 0 0 []]) (by intro f hf; simp only [List.mem_cons, List.not_mem_nil, or_false] at hf; rcases hf with rfl | rfl | rfl | rfl <;> simp)
  obtain ⟨ci1, ci2⟩ := crS_inv d hW.ok hW.right cs
  have ew : wall (k + 1) l = (d.S, d.W, DD) := by have := hW.eq; rwa [List.take_length] at this
  have ew2 : wall (k + 1) (l.take (lastS l l.length)) = (d2.S, d2.W, D2) := by have := hW2.eq; rwa [List.take_length] at this
  have hsl : d.sl = k + 1 := hW.sl
  have hT := tears (k + 1) (Nat.succ_pos _) l d hW.ok hW.right hW.sl DD ew d2.S d2.W D2 ew2 cs
  have hv := winv (k + 1) (Nat.succ_pos _) l
  rw [ew] at hv
  have S' := S.to [1, 2] (tboS k 0 D2.length DD ga ga2 gc gc2 d2 (⟨some ⟨g3, 0, none⟩, d.sl, sc3, none, 0, 0, g3, 0, 0, 0, crS d cs, []⟩ : Dk)) (by kernel_rfl) (by kernel_rfl) (by kernel_rfl) (by kernel_rfl) (by kernel_rfl)
  refine sy_loop (k + 1 + 1) (by kernel_rfl) ?_
  refine sy_at2 (k' := (.rnd (k + 1 + 1) (bodyL tbo) :: tbo.k.tail)) (by kernel_rfl) ?_
  exact to_all w0 k hk d2 (⟨some ⟨g3, 0, none⟩, d.sl, sc3, none, 0, 0, g3, 0, 0, 0, crS d cs, []⟩ : Dk) hW2.ok ⟨ci1, Or.inr rfl, rfl, Or.inl ⟨rfl, rfl, rfl⟩, hW.ok.l1, Nat.zero_le _⟩ ⟨fun j hj => ci2 j (by rw [ci1]; exact hj), fun j hj => absurd hj (Nat.not_lt_zero _)⟩ hW2.sl hsl rfl DD (by have q := hW.dl; (try simp only at q); omega) D2.length hT.2.1 (fun a ha => ⟨ci2 a (by rw [ci1, hsl]; exact ha), hT.1.2 a (by rw [hT.1.1]; exact ha)⟩) (fun i hi => (hv.d _ (getD_mem DD i _ hi)).2) hT.2.2 ga ga2 gc gc2 g hg (k + 1) 0 (by omega) _ _ aa w S'
theorem l1_all (w0 : World) (k : Nat) (hk : k < 6) (l : List Nat) (hl : l.length ≤ 30) (h256 : ∀ i, i < l.length → l.getD i 0 < 256) (pa : Option Addr) (lc lb lo : Nat) (hp : l.length = 0 ∨ pa = some ⟨lb, lo, none⟩) (hlc : l.length ≤ lc) (cs : List Int) (hcl : cs.length ≤ 40) (ca : Option Addr) (cc cb co : Nat) (hca : cs.length = 0 ∨ ca = some ⟨cb, co, none⟩) (w1 : World) (d : Dk) (DD : List (Int × ByteArray)) (hW : WI w1 k l l.length d DD) (ga : Option Addr) (gc g : Nat) (hg : DD.length = 0 ∨ ga = some ⟨g, 0, none⟩) : ∀ (r j : Nat), j + r = l.length → ∀ (x0 : Nat) (aa : Act) (w : World) (S : Sy w0 [] [x0] (tb1S k (j) l.length lc (lastS l (j)) pa ga DD.length gc ca cs.length cc d) [rfBy lb lo l, rfIn cb co cs, rfSt d.b d.o d.S, rfWs d.c d.p d.W, rfWs g 0 DD] aa w), post Try.prog (.rnd (r + 1) (bodyL tb1) :: tb1.k.tail) (bodyPost Try.prog Try.f6 fun e w' => e = .returned (.bool true) ∧ Below w0.heap.size w0 w') .normal aa w := by
  intro r
  induction r with
  | zero => intro j hj x0 aa w S; obtain rfl : j = l.length := by omega
            exact l1_end w0 k hk l hl h256 pa lc lb lo hp hlc cs hcl ca cc cb co hca w1 d DD hW ga gc g hg 0 x0 aa w S
  | succ r ih =>
    intro j hj x0 aa w S
    by_cases hc : l.getD j 0 = 255
    · exact l1_eq w0 k hk l hl h256 pa lc lb lo hp hlc cs hcl ca cc cb co hca w1 d DD hW ga gc g hg (r + 1) j (by omega) hc (ih (j + 1) (by omega)) x0 aa w S
    · exact l1_ne w0 k hk l hl h256 pa lc lb lo hp hlc cs hcl ca cc cb co hca w1 d DD hW ga gc g hg (r + 1) j (by omega) hc (ih (j + 1) (by omega)) x0 aa w S
set_option maxHeartbeats 8000000 in
theorem tears_all (w0 : World) (m : Int) (hm : 0 ≤ m ∧ m ≤ 255) (l : List Nat) (h256 : ∀ i, i < l.length → l.getD i 0 < 256) (pa : Option Addr) (lc lb lo : Nat) (hp : l.length = 0 ∨ pa = some ⟨lb, lo, none⟩) (hlc : l.length ≤ lc) (hL : ByAt w0 lb lo l) (cs : List Int) (ca : Option Addr) (cc cb co : Nat) (hca : cs.length = 0 ∨ ca = some ⟨cb, co, none⟩) (hI : IntsAt w0 cb co cs) : Calls Try.prog 6 #[.int .u8 m, .slice pa l.length lc, .slice ca cs.length cc] w0 fun e w' => e = .returned (.bool true) ∧ Below w0.heap.size w0 w' := by
  obtain ⟨k, hk, hk2⟩ : ∃ k : Nat, k < 6 ∧ IntKind.i64.wrap (1 + Int.tmod (IntKind.i64.wrap m) 4) = ((k + 1 : Nat) : Int) := by
    refine ⟨(m % 4).toNat, by omega, ?_⟩
    have e : IntKind.i64.wrap m = m := by rw [IntKind.wrap_i64]; omega
    rw [e, Int.tmod_eq_emod_of_nonneg hm.1, IntKind.wrap_i64]
    omega
  refine sy_enterF [] [rfBy lb lo l, rfIn cb co cs] (by intro f hf; simp only [List.mem_cons, List.not_mem_nil, or_false] at hf; rcases hf with rfl | rfl; exact hL; exact hI) Try.func6 rfl rfl fun aa S => ?_
  refine sy_run ⟨0, [1]⟩ 60 S fun bs aa w S => ?_
  refine sy_reg S fun S => ?_
  refine sy_call1 S (sane22 w) (by kernel_rfl) fun aa w hb S => ?_
  refine sy_run ⟨0, [2]⟩ 60 S fun bs aa w S => ?_
  refine sy_reg S fun S => ?_
  refine sy_ops 4 S fun bs aa w S => ?_
  refine sy_cast 30 S (congrArg (Value.int .i64) hk2) (by kernel_rfl) fun S => ?_
  refine sy_run ⟨0, [3]⟩ 60 S fun bs aa w S => ?_
  refine sy_reg S fun S => ?_
  refine sy_ops 3 S fun bs aa w S => ?_
  by_cases hl : l.length ≤ 30
  · refine sy_cast 33 S (congrArg Value.bool (decide_eq_false (by omega) : decide ((l.length : Int) > 30) = false)) (by kernel_rfl) fun S => ?_
    refine sy_ops 4 S fun bs aa w S => ?_
    by_cases hcl : cs.length ≤ 40
    · refine sy_cast 37 S (congrArg Value.bool (decide_eq_false (by omega) : decide ((cs.length : Int) > 40) = false)) (by kernel_rfl) fun S => ?_
      refine sy_run ⟨0, [5]⟩ 60 S fun bs aa w S => ?_
      refine sy_reg S fun S => ?_
      refine sy_ops 2 S fun bs aa w S => ?_
      have hlt := fun j hj => S.lt (i := j) hj
      refine sy_call S (X := Dk × Option Addr × Nat × Nat × List (Int × ByteArray)) (val := fun x => .tuple #[x.1.v, .slice x.2.1 x.2.2.2.2.length x.2.2.1, .bool true]) (written_u w k hk l (by omega) h256 pa lc lb lo hp (S.fact (f := rfBy lb lo l) (by simp))) (by kernel_rfl) fun x aa w1 hC hb S => ?_
      obtain ⟨d, ga, gc, g, DD⟩ := x
      obtain ⟨hW, h1, h2, h3, h4, h5⟩ := hC
      have S := S.add (rfWs g 0 DD) h5 (fun j hj hb => by have q1 := hlt j hj; obtain ⟨q2, q3⟩ := hb; have q4 := h4.resolve_left q3; (try simp only at q4); omega)
      have S := S.add (rfWs d.c d.p d.W) h2 (fun j hj hb => by have q1 := hlt j hj; obtain ⟨q2, q3⟩ := hb; have q4 := hW.hb.2.resolve_left q3; (try simp only at q4); omega)
      have S := S.add (rfSt d.b d.o d.S) h1 (fun j hj hb => by have q1 := hlt j hj; obtain ⟨q2, q3⟩ := hb; have q4 := hW.hb.1; (try simp only at q4); omega)
      refine sy_run ⟨0, []⟩ 60 S fun bs aa w S => ?_
      have S := S.sub (F' := [rfBy lb lo l, rfIn cb co cs, rfSt d.b d.o d.S, rfWs d.c d.p d.W, rfWs g 0 DD]) (by intro f hf; simp only [List.mem_cons, List.not_mem_nil, or_false] at hf; rcases hf with rfl | rfl | rfl | rfl | rfl <;> simp)
      have S2 := S.to [0] (tb1S k (0) l.length lc (lastS l (0)) pa ga DD.length gc ca cs.length cc d) (by kernel_rfl) (by kernel_rfl) (by kernel_rfl) (by kernel_rfl) (by kernel_rfl)
      refine sy_loop (l.length + 1) (by kernel_rfl) ?_
      refine sy_at2 (k' := (.rnd (l.length + 1) (bodyL tb1) :: tb1.k.tail)) (by kernel_rfl) ?_
      exact l1_all w0 k hk l hl h256 pa lc lb lo hp hlc cs hcl ca cc cb co hca _ d DD hW ga gc g h3 l.length 0 (by omega) _ aa w S2
    · refine sy_cast 37 S (congrArg Value.bool (decide_eq_true (by omega) : decide ((cs.length : Int) > 40) = true)) (by kernel_rfl) fun S => ?_
      refine sy_run ⟨0, []⟩ 60 S fun bs aa w S => ?_
      exact sy_ret S (by kernel_rfl) (by kernel_rfl) fun hg => ⟨rfl, bel_gr hg⟩
  · refine sy_cast 33 S (congrArg Value.bool (decide_eq_true (by omega) : decide ((l.length : Int) > 30) = true)) (by kernel_rfl) fun S => ?_
    refine sy_run ⟨0, []⟩ 60 S fun bs aa w S => ?_
    exact sy_ret S (by kernel_rfl) (by kernel_rfl) fun hg => ⟨rfl, bel_gr hg⟩
end Go.Proofs.Ytnlcjlhcghgaoaa
