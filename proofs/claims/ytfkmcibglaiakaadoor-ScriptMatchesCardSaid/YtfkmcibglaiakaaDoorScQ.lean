
/-
  Layer 27: when two scripts are the same; valid picks, told a second time.
-/
import Derived.Test.YtfkmcibglaiakaaDoorRows
import Derived.Test.YtfkmcibglaiakaaDoorBase
import Derived.Test.YtfkmcibglaiakaaDoorScM
import Derived.WalkKit
namespace Go.Proofs.YtfkmcibglaiakaaDoor
open Go Go.RowKit SZ
set_option linter.unusedVariables false
set_option linter.unusedSimpArgs false
set_option maxRecDepth 100000
attribute [local irreducible] post GD Nxt NxtAll
deriving instance DecidableEq for Pw
theorem pw_eq {p q : Pk} (h0 : p.k = q.k) (h1 : p.a = q.a) (h2 : p.b = q.b) (h3 : p.c = q.c) : p.w = q.w := by
  unfold Pk.w; rw [h0, h1, h2, h3]
theorem pw_at {xs ys : List Pk} {j : Nat} (h : xs.map Pk.w = ys.map Pk.w) (hj : j < xs.length) (hk : j < ys.length) : (xs.getD j pk0).w = (ys.getD j pk0).w := by
  have h1 : (xs.map Pk.w)[j]? = (ys.map Pk.w)[j]? := by rw [h]
  rw [List.getElem?_map, List.getElem?_map, List.getElem?_eq_getElem hj, List.getElem?_eq_getElem hk] at h1
  simp only [Option.map_some, Option.some.injEq] at h1
  simpa [List.getD, List.getElem?_eq_getElem hj, List.getElem?_eq_getElem hk] using h1
theorem pw_all {xs ys : List Pk} (hn : xs.length = ys.length) (h : ∀ i, i < xs.length → (xs.getD i pk0).w = (ys.getD i pk0).w) : xs.map Pk.w = ys.map Pk.w := by
  apply List.ext_getElem (by simpa using hn)
  intro i h1 h2
  have h3 : i < xs.length := by simpa using h1
  have h4 : i < ys.length := by omega
  have := h i h3
  simpa [List.getD, List.getElem?_eq_getElem h3, List.getElem?_eq_getElem h4] using this
theorem ints_all {xs ys : List Int} (hn : xs.length = ys.length) (h : ∀ i, i < xs.length → xs.getD i 0 = ys.getD i 0) : xs = ys := by
  apply List.ext_getElem hn
  intro i h1 h2
  have := h i h1
  simpa [List.getD, List.getElem?_eq_getElem h1, List.getElem?_eq_getElem h2] using this
noncomputable def smC : Cfg := ⟨goZ 60 [0] [.code (bodyOf Tryd.f14)], ⟨0, [], []⟩⟩
noncomputable def smI (m : Nat) : Cfg := ⟨goZ 60 [1, 0] (.code (bodyL smC) :: .rnd m (bodyL smC) :: smC.k.tail), ⟨0, [], []⟩⟩
noncomputable def smS (a1 a2 : Option Addr) (n1 n2 c1 c2 j : Nat) : SS := ⟨97, [(0, .v (.slice a1 n1 c1)), (1, .v (.slice a2 n2 c2)), (5, .v (.int .i64 (j : Int)))], []⟩
noncomputable def smS2 (a1 a2 : Option Addr) (n1 n2 c1 c2 j k : Nat) : SS := ⟨97, [(0, .v (.slice a1 n1 c1)), (1, .v (.slice a2 n2 c2)), (5, .v (.int .i64 (j : Int))), (6, .v (.int .i64 (k : Int)))], []⟩
set_option maxHeartbeats 8000000 in
theorem sm_e (w0 : World) (xs ys : List Pk) (a1 a2 : Option Addr) (c1 c2 b1 o1 b2 o2 : Nat) (h1 : xs.length = 0 ∨ a1 = some ⟨b1, o1, none⟩) (h2 : ys.length = 0 ∨ a2 = some ⟨b2, o2, none⟩) (hl : xs.length ≤ 100000) (hx : ∀ p ∈ xs, p.ok ∧ p.c.length ≤ 1000000) (hy : ∀ p ∈ ys, p.ok) (hn : xs.length = ys.length) (m : Nat) (hv : ∀ i, i < xs.length → (xs.getD i pk0).w = (ys.getD i pk0).w) (aa : Act) (w : World) (S : Sy w0 [] [] (smS a1 a2 xs.length ys.length c1 c2 (xs.length)) [rfPs b1 o1 xs, rfPc xs, rfPs b2 o2 ys, rfPc ys] aa w) : post Tryd.prog (.rnd (m + 1) (bodyL smC) :: smC.k.tail) (bodyPost Tryd.prog Tryd.f14 (fun e w' => e = .returned (.bool (decide (xs.map Pk.w = ys.map Pk.w))) ∧ Below w0.heap.size w0 w')) .normal aa w := by
  refine sy_run (c := ⟨(.rnd (m + 1) (bodyL smC) :: smC.k.tail), smS a1 a2 xs.length ys.length c1 c2 (xs.length)⟩) ⟨0, [4]⟩ 50 S fun bs aa w S => ?_
  refine sy_reg S fun S => ?_
  refine sy_ops 4 S fun bs aa w S => ?_
  refine sy_cast 15 S (congrArg Value.bool (decide_eq_false (by omega) : decide ((xs.length : Int) < (xs.length : Int)) = false)) (by kernel_rfl) fun S => ?_
  refine sy_run ⟨0, []⟩ 60 S fun bs aa w S => ?_
  rw [decide_eq_true (pw_all hn hv)]
  exact sy_ret S (by kernel_rfl) (by kernel_rfl) fun hg => ⟨rfl, bel_gr hg⟩
set_option maxHeartbeats 8000000 in
theorem sm_k (w0 : World) (xs ys : List Pk) (a1 a2 : Option Addr) (c1 c2 b1 o1 b2 o2 : Nat) (h1 : xs.length = 0 ∨ a1 = some ⟨b1, o1, none⟩) (h2 : ys.length = 0 ∨ a2 = some ⟨b2, o2, none⟩) (hl : xs.length ≤ 100000) (hx : ∀ p ∈ xs, p.ok ∧ p.c.length ≤ 1000000) (hy : ∀ p ∈ ys, p.ok) (hn : xs.length = ys.length) (m j : Nat) (hj : j < xs.length)  (hp : ¬(xs.getD j pk0).k = (ys.getD j pk0).k) (aa : Act) (w : World) (S : Sy w0 [] [] (smS a1 a2 xs.length ys.length c1 c2 (j)) [rfPs b1 o1 xs, rfPc xs, rfPs b2 o2 ys, rfPc ys] aa w) : post Tryd.prog (.rnd (m + 1) (bodyL smC) :: smC.k.tail) (bodyPost Tryd.prog Tryd.f14 (fun e w' => e = .returned (.bool (decide (xs.map Pk.w = ys.map Pk.w))) ∧ Below w0.heap.size w0 w')) .normal aa w := by
  have hno : ¬xs.map Pk.w = ys.map Pk.w := fun q => by exact hp (by have := pw_at q hj (by omega); simp only [Pk.w, Pw.mk.injEq] at this; exact this.1)
  refine sy_run (c := ⟨(.rnd (m + 1) (bodyL smC) :: smC.k.tail), smS a1 a2 xs.length ys.length c1 c2 (j)⟩) ⟨0, [4]⟩ 50 S fun bs aa w S => ?_
  refine sy_reg S fun S => ?_
  refine sy_ops 4 S fun bs aa w S => ?_
  refine sy_cast 15 S (congrArg Value.bool (decide_eq_true (by omega) : decide ((j : Int) < (xs.length : Int)) = true)) (by kernel_rfl) fun S => ?_
  refine sy_run ⟨0, []⟩ 60 S fun bs aa w S => ?_
  letI : KP := ⟨[28]⟩
  letI : HF := ⟨[rfPs b1 o1 xs, rfPc xs, rfPs b2 o2 ys, rfPc ys]⟩
  refine dr_enter [] (by kernel_rfl) (by kernel_rfl) S (by kernel_rfl) (fun aa w D => ?_) (fun f hf => by have hf2 : f ∈ [rfPs b1 o1 xs, rfPc xs, rfPs b2 o2 ys, rfPc ys] := hf; simp only [List.mem_cons, List.not_mem_nil, or_false] at hf2; rcases hf2 with rfl | rfl | rfl | rfl <;> simp)
  refine dr_tix 2 D (by kernel_rfl) (by kernel_rfl) (by kernel_rfl) (b := b1) (off := o1) (len := xs.length) (n := j) (size := 4) (ix := (j : Int)) (by rw [← h1.resolve_left (by omega)]; kernel_rfl) rfl (by omega) fun aa D => ?_
  refine dr_tld 4 D (by kernel_rfl) (by kernel_rfl) (by kernel_rfl) (ty := 3) (ad := ⟨b1, o1 + j * 4, none⟩) (v := .int .i64 (xs.getD j pk0).k) (fun W hW => ld_at (by kernel_rfl) ((show PsAt W b1 o1 xs from hW (rfPs b1 o1 xs) (by show _ ∈ [rfPs b1 o1 xs, rfPc xs, rfPs b2 o2 ys, rfPc ys]; simp)) j (by omega)).1) (by kernel_rfl) fun aa D => ?_
  refine dr_tix 7 D (by kernel_rfl) (by kernel_rfl) (by kernel_rfl) (b := b2) (off := o2) (len := ys.length) (n := j) (size := 4) (ix := (j : Int)) (by rw [← h2.resolve_left (by omega)]; kernel_rfl) rfl (by omega) fun aa D => ?_
  refine dr_tld 9 D (by kernel_rfl) (by kernel_rfl) (by kernel_rfl) (ty := 3) (ad := ⟨b2, o2 + j * 4, none⟩) (v := .int .i64 (ys.getD j pk0).k) (fun W hW => ld_at (by kernel_rfl) ((show PsAt W b2 o2 ys from hW (rfPs b2 o2 ys) (by show _ ∈ [rfPs b1 o1 xs, rfPc xs, rfPs b2 o2 ys, rfPc ys]; simp)) j (by omega)).1) (by kernel_rfl) fun aa D => ?_
  refine dr_ex2 (fun d v c a w h => by cases d <;> exact h) 10 (op := .binOp .neq 3 (.tmp 22) (.tmp 27) 3) (ty := 4) (v := .bool true) D (by kernel_rfl) (by kernel_rfl) (by kernel_rfl) (by kernel_rfl) (ex_neI (ki := .i64) (p := (xs.getD j pk0).k) (q := (ys.getD j pk0).k) (by kernel_rfl) (by kernel_rfl) (by rw [decide_eq_false hp]; rfl)) fun aa D => ?_
  refine dr_end D (by kernel_rfl) fun S => ?_
  refine sy_run ⟨0, []⟩ 60 S fun bs aa w S => ?_
  rw [decide_eq_false hno]
  exact sy_ret S (by kernel_rfl) (by kernel_rfl) fun hg => ⟨rfl, bel_gr hg⟩
set_option maxHeartbeats 8000000 in
theorem sm_a' (w0 : World) (xs ys : List Pk) (a1 a2 : Option Addr) (c1 c2 b1 o1 b2 o2 : Nat) (h1 : xs.length = 0 ∨ a1 = some ⟨b1, o1, none⟩) (h2 : ys.length = 0 ∨ a2 = some ⟨b2, o2, none⟩) (hl : xs.length ≤ 100000) (hx : ∀ p ∈ xs, p.ok ∧ p.c.length ≤ 1000000) (hy : ∀ p ∈ ys, p.ok) (hn : xs.length = ys.length) (m j : Nat) (hj : j < xs.length) (hk : (xs.getD j pk0).k = (ys.getD j pk0).k) (hp : ¬(xs.getD j pk0).a = (ys.getD j pk0).a) (aa : Act) (w : World) (S : Sy w0 [] [] (smS a1 a2 xs.length ys.length c1 c2 (j)) [rfPs b1 o1 xs, rfPc xs, rfPs b2 o2 ys, rfPc ys] aa w) : post Tryd.prog (.rnd (m + 1) (bodyL smC) :: smC.k.tail) (bodyPost Tryd.prog Tryd.f14 (fun e w' => e = .returned (.bool (decide (xs.map Pk.w = ys.map Pk.w))) ∧ Below w0.heap.size w0 w')) .normal aa w := by
  have hno : ¬xs.map Pk.w = ys.map Pk.w := fun q => by exact hp (by have := pw_at q hj (by omega); simp only [Pk.w, Pw.mk.injEq] at this; exact this.2.1)
  refine sy_run (c := ⟨(.rnd (m + 1) (bodyL smC) :: smC.k.tail), smS a1 a2 xs.length ys.length c1 c2 (j)⟩) ⟨0, [4]⟩ 50 S fun bs aa w S => ?_
  refine sy_reg S fun S => ?_
  refine sy_ops 4 S fun bs aa w S => ?_
  refine sy_cast 15 S (congrArg Value.bool (decide_eq_true (by omega) : decide ((j : Int) < (xs.length : Int)) = true)) (by kernel_rfl) fun S => ?_
  refine sy_run ⟨0, []⟩ 60 S fun bs aa w S => ?_
  letI : KP := ⟨[28, 40]⟩
  letI : HF := ⟨[rfPs b1 o1 xs, rfPc xs, rfPs b2 o2 ys, rfPc ys]⟩
  refine dr_enter [] (by kernel_rfl) (by kernel_rfl) S (by kernel_rfl) (fun aa w D => ?_) (fun f hf => by have hf2 : f ∈ [rfPs b1 o1 xs, rfPc xs, rfPs b2 o2 ys, rfPc ys] := hf; simp only [List.mem_cons, List.not_mem_nil, or_false] at hf2; rcases hf2 with rfl | rfl | rfl | rfl <;> simp)
  refine dr_tix 2 D (by kernel_rfl) (by kernel_rfl) (by kernel_rfl) (b := b1) (off := o1) (len := xs.length) (n := j) (size := 4) (ix := (j : Int)) (by rw [← h1.resolve_left (by omega)]; kernel_rfl) rfl (by omega) fun aa D => ?_
  refine dr_tld 4 D (by kernel_rfl) (by kernel_rfl) (by kernel_rfl) (ty := 3) (ad := ⟨b1, o1 + j * 4, none⟩) (v := .int .i64 (xs.getD j pk0).k) (fun W hW => ld_at (by kernel_rfl) ((show PsAt W b1 o1 xs from hW (rfPs b1 o1 xs) (by show _ ∈ [rfPs b1 o1 xs, rfPc xs, rfPs b2 o2 ys, rfPc ys]; simp)) j (by omega)).1) (by kernel_rfl) fun aa D => ?_
  refine dr_tix 7 D (by kernel_rfl) (by kernel_rfl) (by kernel_rfl) (b := b2) (off := o2) (len := ys.length) (n := j) (size := 4) (ix := (j : Int)) (by rw [← h2.resolve_left (by omega)]; kernel_rfl) rfl (by omega) fun aa D => ?_
  refine dr_tld 9 D (by kernel_rfl) (by kernel_rfl) (by kernel_rfl) (ty := 3) (ad := ⟨b2, o2 + j * 4, none⟩) (v := .int .i64 (ys.getD j pk0).k) (fun W hW => ld_at (by kernel_rfl) ((show PsAt W b2 o2 ys from hW (rfPs b2 o2 ys) (by show _ ∈ [rfPs b1 o1 xs, rfPc xs, rfPs b2 o2 ys, rfPc ys]; simp)) j (by omega)).1) (by kernel_rfl) fun aa D => ?_
  refine dr_ex2 (fun d v c a w h => by cases d <;> exact h) 10 (op := .binOp .neq 3 (.tmp 22) (.tmp 27) 3) (ty := 4) (v := .bool false) D (by kernel_rfl) (by kernel_rfl) (by kernel_rfl) (by kernel_rfl) (ex_neI (ki := .i64) (p := (xs.getD j pk0).k) (q := (ys.getD j pk0).k) (by kernel_rfl) (by kernel_rfl) (by rw [decide_eq_true hk]; rfl)) fun aa D => ?_
  refine dr_tix 14 D (by kernel_rfl) (by kernel_rfl) (by kernel_rfl) (b := b1) (off := o1) (len := xs.length) (n := j) (size := 4) (ix := (j : Int)) (by rw [← h1.resolve_left (by omega)]; kernel_rfl) rfl (by omega) fun aa D => ?_
  refine dr_tld 16 D (by kernel_rfl) (by kernel_rfl) (by kernel_rfl) (ty := 3) (ad := ⟨b1, o1 + j * 4 + 1, none⟩) (v := .int .i64 (xs.getD j pk0).a) (fun W hW => ld_at (by kernel_rfl) ((show PsAt W b1 o1 xs from hW (rfPs b1 o1 xs) (by show _ ∈ [rfPs b1 o1 xs, rfPc xs, rfPs b2 o2 ys, rfPc ys]; simp)) j (by omega)).2.1) (by kernel_rfl) fun aa D => ?_
  refine dr_tix 19 D (by kernel_rfl) (by kernel_rfl) (by kernel_rfl) (b := b2) (off := o2) (len := ys.length) (n := j) (size := 4) (ix := (j : Int)) (by rw [← h2.resolve_left (by omega)]; kernel_rfl) rfl (by omega) fun aa D => ?_
  refine dr_tld 21 D (by kernel_rfl) (by kernel_rfl) (by kernel_rfl) (ty := 3) (ad := ⟨b2, o2 + j * 4 + 1, none⟩) (v := .int .i64 (ys.getD j pk0).a) (fun W hW => ld_at (by kernel_rfl) ((show PsAt W b2 o2 ys from hW (rfPs b2 o2 ys) (by show _ ∈ [rfPs b1 o1 xs, rfPc xs, rfPs b2 o2 ys, rfPc ys]; simp)) j (by omega)).2.1) (by kernel_rfl) fun aa D => ?_
  refine dr_ex2 (fun d v c a w h => by cases d <;> exact h) 22 (op := .binOp .neq 3 (.tmp 34) (.tmp 39) 3) (ty := 4) (v := .bool true) D (by kernel_rfl) (by kernel_rfl) (by kernel_rfl) (by kernel_rfl) (ex_neI (ki := .i64) (p := (xs.getD j pk0).a) (q := (ys.getD j pk0).a) (by kernel_rfl) (by kernel_rfl) (by rw [decide_eq_false hp]; rfl)) fun aa D => ?_
  refine dr_end D (by kernel_rfl) fun S => ?_
  refine sy_run ⟨0, []⟩ 60 S fun bs aa w S => ?_
  rw [decide_eq_false hno]
  exact sy_ret S (by kernel_rfl) (by kernel_rfl) fun hg => ⟨rfl, bel_gr hg⟩
set_option maxHeartbeats 8000000 in
theorem sm_b (w0 : World) (xs ys : List Pk) (a1 a2 : Option Addr) (c1 c2 b1 o1 b2 o2 : Nat) (h1 : xs.length = 0 ∨ a1 = some ⟨b1, o1, none⟩) (h2 : ys.length = 0 ∨ a2 = some ⟨b2, o2, none⟩) (hl : xs.length ≤ 100000) (hx : ∀ p ∈ xs, p.ok ∧ p.c.length ≤ 1000000) (hy : ∀ p ∈ ys, p.ok) (hn : xs.length = ys.length) (m j : Nat) (hj : j < xs.length) (hk : (xs.getD j pk0).k = (ys.getD j pk0).k) (ha : (xs.getD j pk0).a = (ys.getD j pk0).a) (hp : ¬(xs.getD j pk0).b = (ys.getD j pk0).b) (aa : Act) (w : World) (S : Sy w0 [] [] (smS a1 a2 xs.length ys.length c1 c2 (j)) [rfPs b1 o1 xs, rfPc xs, rfPs b2 o2 ys, rfPc ys] aa w) : post Tryd.prog (.rnd (m + 1) (bodyL smC) :: smC.k.tail) (bodyPost Tryd.prog Tryd.f14 (fun e w' => e = .returned (.bool (decide (xs.map Pk.w = ys.map Pk.w))) ∧ Below w0.heap.size w0 w')) .normal aa w := by
  have hno : ¬xs.map Pk.w = ys.map Pk.w := fun q => by exact hp (by have := pw_at q hj (by omega); simp only [Pk.w, Pw.mk.injEq] at this; exact this.2.2.1)
  refine sy_run (c := ⟨(.rnd (m + 1) (bodyL smC) :: smC.k.tail), smS a1 a2 xs.length ys.length c1 c2 (j)⟩) ⟨0, [4]⟩ 50 S fun bs aa w S => ?_
  refine sy_reg S fun S => ?_
  refine sy_ops 4 S fun bs aa w S => ?_
  refine sy_cast 15 S (congrArg Value.bool (decide_eq_true (by omega) : decide ((j : Int) < (xs.length : Int)) = true)) (by kernel_rfl) fun S => ?_
  refine sy_run ⟨0, []⟩ 60 S fun bs aa w S => ?_
  letI : KP := ⟨[28, 40, 53]⟩
  letI : HF := ⟨[rfPs b1 o1 xs, rfPc xs, rfPs b2 o2 ys, rfPc ys]⟩
  refine dr_enter [] (by kernel_rfl) (by kernel_rfl) S (by kernel_rfl) (fun aa w D => ?_) (fun f hf => by have hf2 : f ∈ [rfPs b1 o1 xs, rfPc xs, rfPs b2 o2 ys, rfPc ys] := hf; simp only [List.mem_cons, List.not_mem_nil, or_false] at hf2; rcases hf2 with rfl | rfl | rfl | rfl <;> simp)
  refine dr_tix 2 D (by kernel_rfl) (by kernel_rfl) (by kernel_rfl) (b := b1) (off := o1) (len := xs.length) (n := j) (size := 4) (ix := (j : Int)) (by rw [← h1.resolve_left (by omega)]; kernel_rfl) rfl (by omega) fun aa D => ?_
  refine dr_tld 4 D (by kernel_rfl) (by kernel_rfl) (by kernel_rfl) (ty := 3) (ad := ⟨b1, o1 + j * 4, none⟩) (v := .int .i64 (xs.getD j pk0).k) (fun W hW => ld_at (by kernel_rfl) ((show PsAt W b1 o1 xs from hW (rfPs b1 o1 xs) (by show _ ∈ [rfPs b1 o1 xs, rfPc xs, rfPs b2 o2 ys, rfPc ys]; simp)) j (by omega)).1) (by kernel_rfl) fun aa D => ?_
  refine dr_tix 7 D (by kernel_rfl) (by kernel_rfl) (by kernel_rfl) (b := b2) (off := o2) (len := ys.length) (n := j) (size := 4) (ix := (j : Int)) (by rw [← h2.resolve_left (by omega)]; kernel_rfl) rfl (by omega) fun aa D => ?_
  refine dr_tld 9 D (by kernel_rfl) (by kernel_rfl) (by kernel_rfl) (ty := 3) (ad := ⟨b2, o2 + j * 4, none⟩) (v := .int .i64 (ys.getD j pk0).k) (fun W hW => ld_at (by kernel_rfl) ((show PsAt W b2 o2 ys from hW (rfPs b2 o2 ys) (by show _ ∈ [rfPs b1 o1 xs, rfPc xs, rfPs b2 o2 ys, rfPc ys]; simp)) j (by omega)).1) (by kernel_rfl) fun aa D => ?_
  refine dr_ex2 (fun d v c a w h => by cases d <;> exact h) 10 (op := .binOp .neq 3 (.tmp 22) (.tmp 27) 3) (ty := 4) (v := .bool false) D (by kernel_rfl) (by kernel_rfl) (by kernel_rfl) (by kernel_rfl) (ex_neI (ki := .i64) (p := (xs.getD j pk0).k) (q := (ys.getD j pk0).k) (by kernel_rfl) (by kernel_rfl) (by rw [decide_eq_true hk]; rfl)) fun aa D => ?_
  refine dr_tix 14 D (by kernel_rfl) (by kernel_rfl) (by kernel_rfl) (b := b1) (off := o1) (len := xs.length) (n := j) (size := 4) (ix := (j : Int)) (by rw [← h1.resolve_left (by omega)]; kernel_rfl) rfl (by omega) fun aa D => ?_
  refine dr_tld 16 D (by kernel_rfl) (by kernel_rfl) (by kernel_rfl) (ty := 3) (ad := ⟨b1, o1 + j * 4 + 1, none⟩) (v := .int .i64 (xs.getD j pk0).a) (fun W hW => ld_at (by kernel_rfl) ((show PsAt W b1 o1 xs from hW (rfPs b1 o1 xs) (by show _ ∈ [rfPs b1 o1 xs, rfPc xs, rfPs b2 o2 ys, rfPc ys]; simp)) j (by omega)).2.1) (by kernel_rfl) fun aa D => ?_
  refine dr_tix 19 D (by kernel_rfl) (by kernel_rfl) (by kernel_rfl) (b := b2) (off := o2) (len := ys.length) (n := j) (size := 4) (ix := (j : Int)) (by rw [← h2.resolve_left (by omega)]; kernel_rfl) rfl (by omega) fun aa D => ?_
  refine dr_tld 21 D (by kernel_rfl) (by kernel_rfl) (by kernel_rfl) (ty := 3) (ad := ⟨b2, o2 + j * 4 + 1, none⟩) (v := .int .i64 (ys.getD j pk0).a) (fun W hW => ld_at (by kernel_rfl) ((show PsAt W b2 o2 ys from hW (rfPs b2 o2 ys) (by show _ ∈ [rfPs b1 o1 xs, rfPc xs, rfPs b2 o2 ys, rfPc ys]; simp)) j (by omega)).2.1) (by kernel_rfl) fun aa D => ?_
  refine dr_ex2 (fun d v c a w h => by cases d <;> exact h) 22 (op := .binOp .neq 3 (.tmp 34) (.tmp 39) 3) (ty := 4) (v := .bool false) D (by kernel_rfl) (by kernel_rfl) (by kernel_rfl) (by kernel_rfl) (ex_neI (ki := .i64) (p := (xs.getD j pk0).a) (q := (ys.getD j pk0).a) (by kernel_rfl) (by kernel_rfl) (by rw [decide_eq_true ha]; rfl)) fun aa D => ?_
  refine dr_tix 27 D (by kernel_rfl) (by kernel_rfl) (by kernel_rfl) (b := b1) (off := o1) (len := xs.length) (n := j) (size := 4) (ix := (j : Int)) (by rw [← h1.resolve_left (by omega)]; kernel_rfl) rfl (by omega) fun aa D => ?_
  refine dr_tld 29 D (by kernel_rfl) (by kernel_rfl) (by kernel_rfl) (ty := 3) (ad := ⟨b1, o1 + j * 4 + 2, none⟩) (v := .int .i64 (xs.getD j pk0).b) (fun W hW => ld_at (by kernel_rfl) ((show PsAt W b1 o1 xs from hW (rfPs b1 o1 xs) (by show _ ∈ [rfPs b1 o1 xs, rfPc xs, rfPs b2 o2 ys, rfPc ys]; simp)) j (by omega)).2.2.1) (by kernel_rfl) fun aa D => ?_
  refine dr_tix 32 D (by kernel_rfl) (by kernel_rfl) (by kernel_rfl) (b := b2) (off := o2) (len := ys.length) (n := j) (size := 4) (ix := (j : Int)) (by rw [← h2.resolve_left (by omega)]; kernel_rfl) rfl (by omega) fun aa D => ?_
  refine dr_tld 34 D (by kernel_rfl) (by kernel_rfl) (by kernel_rfl) (ty := 3) (ad := ⟨b2, o2 + j * 4 + 2, none⟩) (v := .int .i64 (ys.getD j pk0).b) (fun W hW => ld_at (by kernel_rfl) ((show PsAt W b2 o2 ys from hW (rfPs b2 o2 ys) (by show _ ∈ [rfPs b1 o1 xs, rfPc xs, rfPs b2 o2 ys, rfPc ys]; simp)) j (by omega)).2.2.1) (by kernel_rfl) fun aa D => ?_
  refine dr_ex2 (fun d v c a w h => by cases d <;> exact h) 35 (op := .binOp .neq 3 (.tmp 47) (.tmp 52) 3) (ty := 4) (v := .bool true) D (by kernel_rfl) (by kernel_rfl) (by kernel_rfl) (by kernel_rfl) (ex_neI (ki := .i64) (p := (xs.getD j pk0).b) (q := (ys.getD j pk0).b) (by kernel_rfl) (by kernel_rfl) (by rw [decide_eq_false hp]; rfl)) fun aa D => ?_
  refine dr_end D (by kernel_rfl) fun S => ?_
  refine sy_run ⟨0, []⟩ 60 S fun bs aa w S => ?_
  rw [decide_eq_false hno]
  exact sy_ret S (by kernel_rfl) (by kernel_rfl) fun hg => ⟨rfl, bel_gr hg⟩
set_option maxHeartbeats 8000000 in
theorem sm_c (w0 : World) (xs ys : List Pk) (a1 a2 : Option Addr) (c1 c2 b1 o1 b2 o2 : Nat) (h1 : xs.length = 0 ∨ a1 = some ⟨b1, o1, none⟩) (h2 : ys.length = 0 ∨ a2 = some ⟨b2, o2, none⟩) (hl : xs.length ≤ 100000) (hx : ∀ p ∈ xs, p.ok ∧ p.c.length ≤ 1000000) (hy : ∀ p ∈ ys, p.ok) (hn : xs.length = ys.length) (m j : Nat) (hj : j < xs.length) (hk : (xs.getD j pk0).k = (ys.getD j pk0).k) (ha : (xs.getD j pk0).a = (ys.getD j pk0).a) (hb : (xs.getD j pk0).b = (ys.getD j pk0).b) (hp : ¬(xs.getD j pk0).c.length = (ys.getD j pk0).c.length) (aa : Act) (w : World) (S : Sy w0 [] [] (smS a1 a2 xs.length ys.length c1 c2 (j)) [rfPs b1 o1 xs, rfPc xs, rfPs b2 o2 ys, rfPc ys] aa w) : post Tryd.prog (.rnd (m + 1) (bodyL smC) :: smC.k.tail) (bodyPost Tryd.prog Tryd.f14 (fun e w' => e = .returned (.bool (decide (xs.map Pk.w = ys.map Pk.w))) ∧ Below w0.heap.size w0 w')) .normal aa w := by
  have hno : ¬xs.map Pk.w = ys.map Pk.w := fun q => by exact hp (by have := pw_at q hj (by omega); simp only [Pk.w, Pw.mk.injEq] at this; rw [this.2.2.2])
  refine sy_run (c := ⟨(.rnd (m + 1) (bodyL smC) :: smC.k.tail), smS a1 a2 xs.length ys.length c1 c2 (j)⟩) ⟨0, [4]⟩ 50 S fun bs aa w S => ?_
  refine sy_reg S fun S => ?_
  refine sy_ops 4 S fun bs aa w S => ?_
  refine sy_cast 15 S (congrArg Value.bool (decide_eq_true (by omega) : decide ((j : Int) < (xs.length : Int)) = true)) (by kernel_rfl) fun S => ?_
  refine sy_run ⟨0, []⟩ 60 S fun bs aa w S => ?_
  letI : KP := ⟨[28, 40, 53, 68]⟩
  letI : HF := ⟨[rfPs b1 o1 xs, rfPc xs, rfPs b2 o2 ys, rfPc ys]⟩
  refine dr_enter [] (by kernel_rfl) (by kernel_rfl) S (by kernel_rfl) (fun aa w D => ?_) (fun f hf => by have hf2 : f ∈ [rfPs b1 o1 xs, rfPc xs, rfPs b2 o2 ys, rfPc ys] := hf; simp only [List.mem_cons, List.not_mem_nil, or_false] at hf2; rcases hf2 with rfl | rfl | rfl | rfl <;> simp)
  refine dr_tix 2 D (by kernel_rfl) (by kernel_rfl) (by kernel_rfl) (b := b1) (off := o1) (len := xs.length) (n := j) (size := 4) (ix := (j : Int)) (by rw [← h1.resolve_left (by omega)]; kernel_rfl) rfl (by omega) fun aa D => ?_
  refine dr_tld 4 D (by kernel_rfl) (by kernel_rfl) (by kernel_rfl) (ty := 3) (ad := ⟨b1, o1 + j * 4, none⟩) (v := .int .i64 (xs.getD j pk0).k) (fun W hW => ld_at (by kernel_rfl) ((show PsAt W b1 o1 xs from hW (rfPs b1 o1 xs) (by show _ ∈ [rfPs b1 o1 xs, rfPc xs, rfPs b2 o2 ys, rfPc ys]; simp)) j (by omega)).1) (by kernel_rfl) fun aa D => ?_
  refine dr_tix 7 D (by kernel_rfl) (by kernel_rfl) (by kernel_rfl) (b := b2) (off := o2) (len := ys.length) (n := j) (size := 4) (ix := (j : Int)) (by rw [← h2.resolve_left (by omega)]; kernel_rfl) rfl (by omega) fun aa D => ?_
  refine dr_tld 9 D (by kernel_rfl) (by kernel_rfl) (by kernel_rfl) (ty := 3) (ad := ⟨b2, o2 + j * 4, none⟩) (v := .int .i64 (ys.getD j pk0).k) (fun W hW => ld_at (by kernel_rfl) ((show PsAt W b2 o2 ys from hW (rfPs b2 o2 ys) (by show _ ∈ [rfPs b1 o1 xs, rfPc xs, rfPs b2 o2 ys, rfPc ys]; simp)) j (by omega)).1) (by kernel_rfl) fun aa D => ?_
  refine dr_ex2 (fun d v c a w h => by cases d <;> exact h) 10 (op := .binOp .neq 3 (.tmp 22) (.tmp 27) 3) (ty := 4) (v := .bool false) D (by kernel_rfl) (by kernel_rfl) (by kernel_rfl) (by kernel_rfl) (ex_neI (ki := .i64) (p := (xs.getD j pk0).k) (q := (ys.getD j pk0).k) (by kernel_rfl) (by kernel_rfl) (by rw [decide_eq_true hk]; rfl)) fun aa D => ?_
  refine dr_tix 14 D (by kernel_rfl) (by kernel_rfl) (by kernel_rfl) (b := b1) (off := o1) (len := xs.length) (n := j) (size := 4) (ix := (j : Int)) (by rw [← h1.resolve_left (by omega)]; kernel_rfl) rfl (by omega) fun aa D => ?_
  refine dr_tld 16 D (by kernel_rfl) (by kernel_rfl) (by kernel_rfl) (ty := 3) (ad := ⟨b1, o1 + j * 4 + 1, none⟩) (v := .int .i64 (xs.getD j pk0).a) (fun W hW => ld_at (by kernel_rfl) ((show PsAt W b1 o1 xs from hW (rfPs b1 o1 xs) (by show _ ∈ [rfPs b1 o1 xs, rfPc xs, rfPs b2 o2 ys, rfPc ys]; simp)) j (by omega)).2.1) (by kernel_rfl) fun aa D => ?_
  refine dr_tix 19 D (by kernel_rfl) (by kernel_rfl) (by kernel_rfl) (b := b2) (off := o2) (len := ys.length) (n := j) (size := 4) (ix := (j : Int)) (by rw [← h2.resolve_left (by omega)]; kernel_rfl) rfl (by omega) fun aa D => ?_
  refine dr_tld 21 D (by kernel_rfl) (by kernel_rfl) (by kernel_rfl) (ty := 3) (ad := ⟨b2, o2 + j * 4 + 1, none⟩) (v := .int .i64 (ys.getD j pk0).a) (fun W hW => ld_at (by kernel_rfl) ((show PsAt W b2 o2 ys from hW (rfPs b2 o2 ys) (by show _ ∈ [rfPs b1 o1 xs, rfPc xs, rfPs b2 o2 ys, rfPc ys]; simp)) j (by omega)).2.1) (by kernel_rfl) fun aa D => ?_
  refine dr_ex2 (fun d v c a w h => by cases d <;> exact h) 22 (op := .binOp .neq 3 (.tmp 34) (.tmp 39) 3) (ty := 4) (v := .bool false) D (by kernel_rfl) (by kernel_rfl) (by kernel_rfl) (by kernel_rfl) (ex_neI (ki := .i64) (p := (xs.getD j pk0).a) (q := (ys.getD j pk0).a) (by kernel_rfl) (by kernel_rfl) (by rw [decide_eq_true ha]; rfl)) fun aa D => ?_
  refine dr_tix 27 D (by kernel_rfl) (by kernel_rfl) (by kernel_rfl) (b := b1) (off := o1) (len := xs.length) (n := j) (size := 4) (ix := (j : Int)) (by rw [← h1.resolve_left (by omega)]; kernel_rfl) rfl (by omega) fun aa D => ?_
  refine dr_tld 29 D (by kernel_rfl) (by kernel_rfl) (by kernel_rfl) (ty := 3) (ad := ⟨b1, o1 + j * 4 + 2, none⟩) (v := .int .i64 (xs.getD j pk0).b) (fun W hW => ld_at (by kernel_rfl) ((show PsAt W b1 o1 xs from hW (rfPs b1 o1 xs) (by show _ ∈ [rfPs b1 o1 xs, rfPc xs, rfPs b2 o2 ys, rfPc ys]; simp)) j (by omega)).2.2.1) (by kernel_rfl) fun aa D => ?_
  refine dr_tix 32 D (by kernel_rfl) (by kernel_rfl) (by kernel_rfl) (b := b2) (off := o2) (len := ys.length) (n := j) (size := 4) (ix := (j : Int)) (by rw [← h2.resolve_left (by omega)]; kernel_rfl) rfl (by omega) fun aa D => ?_
  refine dr_tld 34 D (by kernel_rfl) (by kernel_rfl) (by kernel_rfl) (ty := 3) (ad := ⟨b2, o2 + j * 4 + 2, none⟩) (v := .int .i64 (ys.getD j pk0).b) (fun W hW => ld_at (by kernel_rfl) ((show PsAt W b2 o2 ys from hW (rfPs b2 o2 ys) (by show _ ∈ [rfPs b1 o1 xs, rfPc xs, rfPs b2 o2 ys, rfPc ys]; simp)) j (by omega)).2.2.1) (by kernel_rfl) fun aa D => ?_
  refine dr_ex2 (fun d v c a w h => by cases d <;> exact h) 35 (op := .binOp .neq 3 (.tmp 47) (.tmp 52) 3) (ty := 4) (v := .bool false) D (by kernel_rfl) (by kernel_rfl) (by kernel_rfl) (by kernel_rfl) (ex_neI (ki := .i64) (p := (xs.getD j pk0).b) (q := (ys.getD j pk0).b) (by kernel_rfl) (by kernel_rfl) (by rw [decide_eq_true hb]; rfl)) fun aa D => ?_
  refine dr_tix 40 D (by kernel_rfl) (by kernel_rfl) (by kernel_rfl) (b := b1) (off := o1) (len := xs.length) (n := j) (size := 4) (ix := (j : Int)) (by rw [← h1.resolve_left (by omega)]; kernel_rfl) rfl (by omega) fun aa D => ?_
  refine dr_tld 42 D (by kernel_rfl) (by kernel_rfl) (by kernel_rfl) (ty := 23) (ad := ⟨b1, o1 + j * 4 + 3, none⟩) (v := .slice (xs.getD j pk0).s (xs.getD j pk0).c.length (xs.getD j pk0).cp) (fun W hW => ld_at (by kernel_rfl) ((show PsAt W b1 o1 xs from hW (rfPs b1 o1 xs) (by show _ ∈ [rfPs b1 o1 xs, rfPc xs, rfPs b2 o2 ys, rfPc ys]; simp)) j (by omega)).2.2.2) (by kernel_rfl) fun aa D => ?_
  refine dr_tix 46 D (by kernel_rfl) (by kernel_rfl) (by kernel_rfl) (b := b2) (off := o2) (len := ys.length) (n := j) (size := 4) (ix := (j : Int)) (by rw [← h2.resolve_left (by omega)]; kernel_rfl) rfl (by omega) fun aa D => ?_
  refine dr_tld 48 D (by kernel_rfl) (by kernel_rfl) (by kernel_rfl) (ty := 23) (ad := ⟨b2, o2 + j * 4 + 3, none⟩) (v := .slice (ys.getD j pk0).s (ys.getD j pk0).c.length (ys.getD j pk0).cp) (fun W hW => ld_at (by kernel_rfl) ((show PsAt W b2 o2 ys from hW (rfPs b2 o2 ys) (by show _ ∈ [rfPs b1 o1 xs, rfPc xs, rfPs b2 o2 ys, rfPc ys]; simp)) j (by omega)).2.2.2) (by kernel_rfl) fun aa D => ?_
  refine dr_ex2 (fun d v c a w h => by cases d <;> exact h) 50 (op := .binOp .neq 3 (.tmp 61) (.tmp 67) 3) (ty := 4) (v := .bool true) D (by kernel_rfl) (by kernel_rfl) (by kernel_rfl) (by kernel_rfl) (ex_neI (ki := .i64) (p := ((xs.getD j pk0).c.length : Int)) (q := ((ys.getD j pk0).c.length : Int)) (by kernel_rfl) (by kernel_rfl) (by rw [decide_eq_false (by omega)]; rfl)) fun aa D => ?_
  refine dr_end D (by kernel_rfl) fun S => ?_
  refine sy_run ⟨0, []⟩ 60 S fun bs aa w S => ?_
  rw [decide_eq_false hno]
  exact sy_ret S (by kernel_rfl) (by kernel_rfl) fun hg => ⟨rfl, bel_gr hg⟩
set_option maxHeartbeats 8000000 in
theorem si_e (w0 : World) (xs ys : List Pk) (a1 a2 : Option Addr) (c1 c2 b1 o1 b2 o2 : Nat) (h1 : xs.length = 0 ∨ a1 = some ⟨b1, o1, none⟩) (h2 : ys.length = 0 ∨ a2 = some ⟨b2, o2, none⟩) (hl : xs.length ≤ 100000) (hx : ∀ p ∈ xs, p.ok ∧ p.c.length ≤ 1000000) (hy : ∀ p ∈ ys, p.ok) (hn : xs.length = ys.length) (M j : Nat) (hj : j < xs.length) (hk : (xs.getD j pk0).k = (ys.getD j pk0).k) (ha : (xs.getD j pk0).a = (ys.getD j pk0).a) (hb : (xs.getD j pk0).b = (ys.getD j pk0).b) (hc : (xs.getD j pk0).c.length = (ys.getD j pk0).c.length) (hv : ∀ i, i < j → (xs.getD i pk0).w = (ys.getD i pk0).w) (iho : (∀ i, i < j + 1 → (xs.getD i pk0).w = (ys.getD i pk0).w) → ∀ (aa : Act) (w : World) (S : Sy w0 [] [] (smS a1 a2 xs.length ys.length c1 c2 (j + 1)) [rfPs b1 o1 xs, rfPc xs, rfPs b2 o2 ys, rfPc ys] aa w), post Tryd.prog (.rnd (M) (bodyL smC) :: smC.k.tail) (bodyPost Tryd.prog Tryd.f14 (fun e w' => e = .returned (.bool (decide (xs.map Pk.w = ys.map Pk.w))) ∧ Below w0.heap.size w0 w')) .normal aa w) (q : Nat) (hv2 : ∀ i, i < (xs.getD j pk0).c.length → (xs.getD j pk0).c.getD i 0 = (ys.getD j pk0).c.getD i 0) (aa : Act) (w : World) (S : Sy w0 [] [] (smS2 a1 a2 xs.length ys.length c1 c2 (j) ((xs.getD j pk0).c.length)) [rfPs b1 o1 xs, rfPc xs, rfPs b2 o2 ys, rfPc ys] aa w) : post Tryd.prog (.rnd (q + 1) (bodyL (smI M)) :: (smI M).k.tail) (bodyPost Tryd.prog Tryd.f14 (fun e w' => e = .returned (.bool (decide (xs.map Pk.w = ys.map Pk.w))) ∧ Below w0.heap.size w0 w')) .normal aa w := by
  have hw : (xs.getD j pk0).w = (ys.getD j pk0).w := pw_eq hk ha hb (ints_all hc hv2)
  refine sy_run (c := ⟨(.rnd (q + 1) (bodyL (smI M)) :: (smI M).k.tail), smS2 a1 a2 xs.length ys.length c1 c2 (j) (((xs.getD j pk0).c.length))⟩) ⟨0, [9]⟩ 50 S fun bs aa w S => ?_
  refine sy_reg S fun S => ?_
  refine sy_ops 3 S fun bs aa w S => ?_
  refine sy_ix (b := b1) (off := o1) (len := xs.length) (n := j) (size := 4) (i := (j : Int)) S (by rw [← h1.resolve_left (by omega)]; kernel_rfl) rfl hj fun aa S => ?_
  refine sy_ops 1 S fun bs aa w S => ?_
  refine sy_ldo S (ld_at (ty := 23) (b := b1) (off := o1 + j * 4 + 3) (by kernel_rfl) ((S.fact (f := rfPs b1 o1 xs) (by simp)) j hj).2.2.2) (by kernel_rfl) fun aa S => ?_
  refine sy_ops 2 S fun bs aa w S => ?_
  refine sy_cast 77 S (congrArg Value.bool (decide_eq_false (by omega) : decide ((((xs.getD j pk0).c.length) : Int) < ((xs.getD j pk0).c.length : Int)) = false)) (by kernel_rfl) fun S => ?_
  refine sy_run ⟨0, [5]⟩ 60 S fun bs aa w S => ?_
  refine sy_reg S fun S => ?_
  refine sy_ops 2 S fun bs aa w S => ?_
  refine sy_cast 17 S (congrArg (Value.int .i64) (by rw [IntKind.wrap_i64]; omega : IntKind.i64.wrap ((j : Int) + 1) = ((j + 1 : Nat) : Int))) (by kernel_rfl) fun S => ?_
  refine sy_run ⟨0, [999]⟩ 50 S fun bs aa w S => ?_
  have S2 := S.to [] (smS a1 a2 xs.length ys.length c1 c2 (j + 1)) (by kernel_rfl) (by kernel_rfl) (by kernel_rfl) (by kernel_rfl) (by kernel_rfl)
  refine sy_at2 (k' := (.rnd (M) (bodyL smC) :: smC.k.tail)) (by kernel_rfl) ?_
  exact iho (fun i hi => by rcases Nat.lt_or_ge i j with h | h; exact hv i h; rw [show i = j by omega]; exact hw) aa w S2
set_option maxHeartbeats 8000000 in
theorem si_s (w0 : World) (xs ys : List Pk) (a1 a2 : Option Addr) (c1 c2 b1 o1 b2 o2 : Nat) (h1 : xs.length = 0 ∨ a1 = some ⟨b1, o1, none⟩) (h2 : ys.length = 0 ∨ a2 = some ⟨b2, o2, none⟩) (hl : xs.length ≤ 100000) (hx : ∀ p ∈ xs, p.ok ∧ p.c.length ≤ 1000000) (hy : ∀ p ∈ ys, p.ok) (hn : xs.length = ys.length) (M j : Nat) (hj : j < xs.length) (hk : (xs.getD j pk0).k = (ys.getD j pk0).k) (ha : (xs.getD j pk0).a = (ys.getD j pk0).a) (hb : (xs.getD j pk0).b = (ys.getD j pk0).b) (hc : (xs.getD j pk0).c.length = (ys.getD j pk0).c.length) (q k : Nat) (hkk : k < (xs.getD j pk0).c.length) (hp : ((xs.getD j pk0).c.getD k 0) = ((ys.getD j pk0).c.getD k 0)) (ih : ∀ (aa : Act) (w : World) (S : Sy w0 [] [] (smS2 a1 a2 xs.length ys.length c1 c2 (j) (k + 1)) [rfPs b1 o1 xs, rfPc xs, rfPs b2 o2 ys, rfPc ys] aa w), post Tryd.prog (.rnd (q) (bodyL (smI M)) :: (smI M).k.tail) (bodyPost Tryd.prog Tryd.f14 (fun e w' => e = .returned (.bool (decide (xs.map Pk.w = ys.map Pk.w))) ∧ Below w0.heap.size w0 w')) .normal aa w) (aa : Act) (w : World) (S : Sy w0 [] [] (smS2 a1 a2 xs.length ys.length c1 c2 (j) (k)) [rfPs b1 o1 xs, rfPc xs, rfPs b2 o2 ys, rfPc ys] aa w) : post Tryd.prog (.rnd (q + 1) (bodyL (smI M)) :: (smI M).k.tail) (bodyPost Tryd.prog Tryd.f14 (fun e w' => e = .returned (.bool (decide (xs.map Pk.w = ys.map Pk.w))) ∧ Below w0.heap.size w0 w')) .normal aa w := by
  have hcl := (hx _ (getD_mem xs j pk0 (by omega))).2
  refine sy_run (c := ⟨(.rnd (q + 1) (bodyL (smI M)) :: (smI M).k.tail), smS2 a1 a2 xs.length ys.length c1 c2 (j) (k)⟩) ⟨0, [9]⟩ 50 S fun bs aa w S => ?_
  refine sy_reg S fun S => ?_
  refine sy_ops 3 S fun bs aa w S => ?_
  refine sy_ix (b := b1) (off := o1) (len := xs.length) (n := j) (size := 4) (i := (j : Int)) S (by rw [← h1.resolve_left (by omega)]; kernel_rfl) rfl hj fun aa S => ?_
  refine sy_ops 1 S fun bs aa w S => ?_
  refine sy_ldo S (ld_at (ty := 23) (b := b1) (off := o1 + j * 4 + 3) (by kernel_rfl) ((S.fact (f := rfPs b1 o1 xs) (by simp)) j hj).2.2.2) (by kernel_rfl) fun aa S => ?_
  refine sy_ops 2 S fun bs aa w S => ?_
  refine sy_cast 77 S (congrArg Value.bool (decide_eq_true (by omega) : decide ((k : Int) < ((xs.getD j pk0).c.length : Int)) = true)) (by kernel_rfl) fun S => ?_
  refine sy_run ⟨0, []⟩ 60 S fun bs aa w S => ?_
  have hox := (hx _ (getD_mem xs j pk0 (by omega))).1
  have hoy := hy _ (getD_mem ys j pk0 (by omega))
  letI : HF := ⟨[rfPs b1 o1 xs, rfPc xs, rfPs b2 o2 ys, rfPc ys]⟩
  refine dr_enter [] (by kernel_rfl) (by kernel_rfl) S (by kernel_rfl) (fun aa w D => ?_) (fun f hf => by have hf2 : f ∈ [rfPs b1 o1 xs, rfPc xs, rfPs b2 o2 ys, rfPc ys] := hf; simp only [List.mem_cons, List.not_mem_nil, or_false] at hf2; rcases hf2 with rfl | rfl | rfl | rfl <;> simp)
  refine dr_tix 2 D (by kernel_rfl) (by kernel_rfl) (by kernel_rfl) (b := b1) (off := o1) (len := xs.length) (n := j) (size := 4) (ix := (j : Int)) (by rw [← h1.resolve_left (by omega)]; kernel_rfl) rfl (by omega) fun aa D => ?_
  refine dr_tld 4 D (by kernel_rfl) (by kernel_rfl) (by kernel_rfl) (ty := 23) (ad := ⟨b1, o1 + j * 4 + 3, none⟩) (v := .slice (xs.getD j pk0).s (xs.getD j pk0).c.length (xs.getD j pk0).cp) (fun W hW => ld_at (by kernel_rfl) ((show PsAt W b1 o1 xs from hW (rfPs b1 o1 xs) (by show _ ∈ [rfPs b1 o1 xs, rfPc xs, rfPs b2 o2 ys, rfPc ys]; simp)) j (by omega)).2.2.2) (by kernel_rfl) fun aa D => ?_
  refine dr_tix 6 D (by kernel_rfl) (by kernel_rfl) (by kernel_rfl) (b := (xs.getD j pk0).bl) (off := (xs.getD j pk0).o) (len := (xs.getD j pk0).c.length) (n := k) (size := 1) (ix := (k : Int)) (by rw [← hox.resolve_left (by omega)]; kernel_rfl) rfl (by omega) fun aa D => ?_
  refine dr_tld 7 D (by kernel_rfl) (by kernel_rfl) (by kernel_rfl) (ty := 3) (ad := ⟨(xs.getD j pk0).bl, (xs.getD j pk0).o + k * 1, none⟩) (v := .int .i64 ((xs.getD j pk0).c.getD k 0)) (fun W hW => ld_at (by kernel_rfl) (by rw [Nat.mul_one]; exact ((show ∀ p ∈ xs, IsAt W p.bl p.o p.c from hW (rfPc xs) (by show _ ∈ [rfPs b1 o1 xs, rfPc xs, rfPs b2 o2 ys, rfPc ys]; simp)) _ (getD_mem xs j pk0 (by omega))) k (by omega))) (by kernel_rfl) fun aa D => ?_
  refine dr_tix 10 D (by kernel_rfl) (by kernel_rfl) (by kernel_rfl) (b := b2) (off := o2) (len := ys.length) (n := j) (size := 4) (ix := (j : Int)) (by rw [← h2.resolve_left (by omega)]; kernel_rfl) rfl (by omega) fun aa D => ?_
  refine dr_tld 12 D (by kernel_rfl) (by kernel_rfl) (by kernel_rfl) (ty := 23) (ad := ⟨b2, o2 + j * 4 + 3, none⟩) (v := .slice (ys.getD j pk0).s (ys.getD j pk0).c.length (ys.getD j pk0).cp) (fun W hW => ld_at (by kernel_rfl) ((show PsAt W b2 o2 ys from hW (rfPs b2 o2 ys) (by show _ ∈ [rfPs b1 o1 xs, rfPc xs, rfPs b2 o2 ys, rfPc ys]; simp)) j (by omega)).2.2.2) (by kernel_rfl) fun aa D => ?_
  refine dr_tix 14 D (by kernel_rfl) (by kernel_rfl) (by kernel_rfl) (b := (ys.getD j pk0).bl) (off := (ys.getD j pk0).o) (len := (ys.getD j pk0).c.length) (n := k) (size := 1) (ix := (k : Int)) (by rw [← hoy.resolve_left (by omega)]; kernel_rfl) rfl (by omega) fun aa D => ?_
  refine dr_tld 15 D (by kernel_rfl) (by kernel_rfl) (by kernel_rfl) (ty := 3) (ad := ⟨(ys.getD j pk0).bl, (ys.getD j pk0).o + k * 1, none⟩) (v := .int .i64 ((ys.getD j pk0).c.getD k 0)) (fun W hW => ld_at (by kernel_rfl) (by rw [Nat.mul_one]; exact ((show ∀ p ∈ ys, IsAt W p.bl p.o p.c from hW (rfPc ys) (by show _ ∈ [rfPs b1 o1 xs, rfPc xs, rfPs b2 o2 ys, rfPc ys]; simp)) _ (getD_mem ys j pk0 (by omega))) k (by omega))) (by kernel_rfl) fun aa D => ?_
  refine dr_end D (by kernel_rfl) fun S => ?_
  refine sy_cast 96 S (congrArg Value.bool (by rw [decide_eq_true hp]; rfl : (!decide (((xs.getD j pk0).c.getD k 0) = ((ys.getD j pk0).c.getD k 0))) = false)) (by kernel_rfl) fun S => ?_
  refine sy_run ⟨0, [10]⟩ 60 S fun bs aa w S => ?_
  refine sy_reg S fun S => ?_
  refine sy_ops 2 S fun bs aa w S => ?_
  refine sy_cast 79 S (congrArg (Value.int .i64) (by rw [IntKind.wrap_i64]; omega : IntKind.i64.wrap ((k : Int) + 1) = ((k + 1 : Nat) : Int))) (by kernel_rfl) fun S => ?_
  refine sy_run ⟨0, [999]⟩ 50 S fun bs aa w S => ?_
  have S2 := S.to [] (smS2 a1 a2 xs.length ys.length c1 c2 (j) (k + 1)) (by kernel_rfl) (by kernel_rfl) (by kernel_rfl) (by kernel_rfl) (by kernel_rfl)
  refine sy_at2 (k' := (.rnd (q) (bodyL (smI M)) :: (smI M).k.tail)) (by kernel_rfl) ?_
  exact ih aa w S2
set_option maxHeartbeats 8000000 in
theorem si_b (w0 : World) (xs ys : List Pk) (a1 a2 : Option Addr) (c1 c2 b1 o1 b2 o2 : Nat) (h1 : xs.length = 0 ∨ a1 = some ⟨b1, o1, none⟩) (h2 : ys.length = 0 ∨ a2 = some ⟨b2, o2, none⟩) (hl : xs.length ≤ 100000) (hx : ∀ p ∈ xs, p.ok ∧ p.c.length ≤ 1000000) (hy : ∀ p ∈ ys, p.ok) (hn : xs.length = ys.length) (M j : Nat) (hj : j < xs.length) (hk : (xs.getD j pk0).k = (ys.getD j pk0).k) (ha : (xs.getD j pk0).a = (ys.getD j pk0).a) (hb : (xs.getD j pk0).b = (ys.getD j pk0).b) (hc : (xs.getD j pk0).c.length = (ys.getD j pk0).c.length) (q k : Nat) (hkk : k < (xs.getD j pk0).c.length) (hp : ¬((xs.getD j pk0).c.getD k 0) = ((ys.getD j pk0).c.getD k 0)) (aa : Act) (w : World) (S : Sy w0 [] [] (smS2 a1 a2 xs.length ys.length c1 c2 (j) (k)) [rfPs b1 o1 xs, rfPc xs, rfPs b2 o2 ys, rfPc ys] aa w) : post Tryd.prog (.rnd (q + 1) (bodyL (smI M)) :: (smI M).k.tail) (bodyPost Tryd.prog Tryd.f14 (fun e w' => e = .returned (.bool (decide (xs.map Pk.w = ys.map Pk.w))) ∧ Below w0.heap.size w0 w')) .normal aa w := by
  have hno : ¬xs.map Pk.w = ys.map Pk.w := fun q => hp (by have := pw_at q hj (by omega); simp only [Pk.w, Pw.mk.injEq] at this; rw [this.2.2.2])
  refine sy_run (c := ⟨(.rnd (q + 1) (bodyL (smI M)) :: (smI M).k.tail), smS2 a1 a2 xs.length ys.length c1 c2 (j) (k)⟩) ⟨0, [9]⟩ 50 S fun bs aa w S => ?_
  refine sy_reg S fun S => ?_
  refine sy_ops 3 S fun bs aa w S => ?_
  refine sy_ix (b := b1) (off := o1) (len := xs.length) (n := j) (size := 4) (i := (j : Int)) S (by rw [← h1.resolve_left (by omega)]; kernel_rfl) rfl hj fun aa S => ?_
  refine sy_ops 1 S fun bs aa w S => ?_
  refine sy_ldo S (ld_at (ty := 23) (b := b1) (off := o1 + j * 4 + 3) (by kernel_rfl) ((S.fact (f := rfPs b1 o1 xs) (by simp)) j hj).2.2.2) (by kernel_rfl) fun aa S => ?_
  refine sy_ops 2 S fun bs aa w S => ?_
  refine sy_cast 77 S (congrArg Value.bool (decide_eq_true (by omega) : decide ((k : Int) < ((xs.getD j pk0).c.length : Int)) = true)) (by kernel_rfl) fun S => ?_
  refine sy_run ⟨0, []⟩ 60 S fun bs aa w S => ?_
  have hox := (hx _ (getD_mem xs j pk0 (by omega))).1
  have hoy := hy _ (getD_mem ys j pk0 (by omega))
  letI : HF := ⟨[rfPs b1 o1 xs, rfPc xs, rfPs b2 o2 ys, rfPc ys]⟩
  refine dr_enter [] (by kernel_rfl) (by kernel_rfl) S (by kernel_rfl) (fun aa w D => ?_) (fun f hf => by have hf2 : f ∈ [rfPs b1 o1 xs, rfPc xs, rfPs b2 o2 ys, rfPc ys] := hf; simp only [List.mem_cons, List.not_mem_nil, or_false] at hf2; rcases hf2 with rfl | rfl | rfl | rfl <;> simp)
  refine dr_tix 2 D (by kernel_rfl) (by kernel_rfl) (by kernel_rfl) (b := b1) (off := o1) (len := xs.length) (n := j) (size := 4) (ix := (j : Int)) (by rw [← h1.resolve_left (by omega)]; kernel_rfl) rfl (by omega) fun aa D => ?_
  refine dr_tld 4 D (by kernel_rfl) (by kernel_rfl) (by kernel_rfl) (ty := 23) (ad := ⟨b1, o1 + j * 4 + 3, none⟩) (v := .slice (xs.getD j pk0).s (xs.getD j pk0).c.length (xs.getD j pk0).cp) (fun W hW => ld_at (by kernel_rfl) ((show PsAt W b1 o1 xs from hW (rfPs b1 o1 xs) (by show _ ∈ [rfPs b1 o1 xs, rfPc xs, rfPs b2 o2 ys, rfPc ys]; simp)) j (by omega)).2.2.2) (by kernel_rfl) fun aa D => ?_
  refine dr_tix 6 D (by kernel_rfl) (by kernel_rfl) (by kernel_rfl) (b := (xs.getD j pk0).bl) (off := (xs.getD j pk0).o) (len := (xs.getD j pk0).c.length) (n := k) (size := 1) (ix := (k : Int)) (by rw [← hox.resolve_left (by omega)]; kernel_rfl) rfl (by omega) fun aa D => ?_
  refine dr_tld 7 D (by kernel_rfl) (by kernel_rfl) (by kernel_rfl) (ty := 3) (ad := ⟨(xs.getD j pk0).bl, (xs.getD j pk0).o + k * 1, none⟩) (v := .int .i64 ((xs.getD j pk0).c.getD k 0)) (fun W hW => ld_at (by kernel_rfl) (by rw [Nat.mul_one]; exact ((show ∀ p ∈ xs, IsAt W p.bl p.o p.c from hW (rfPc xs) (by show _ ∈ [rfPs b1 o1 xs, rfPc xs, rfPs b2 o2 ys, rfPc ys]; simp)) _ (getD_mem xs j pk0 (by omega))) k (by omega))) (by kernel_rfl) fun aa D => ?_
  refine dr_tix 10 D (by kernel_rfl) (by kernel_rfl) (by kernel_rfl) (b := b2) (off := o2) (len := ys.length) (n := j) (size := 4) (ix := (j : Int)) (by rw [← h2.resolve_left (by omega)]; kernel_rfl) rfl (by omega) fun aa D => ?_
  refine dr_tld 12 D (by kernel_rfl) (by kernel_rfl) (by kernel_rfl) (ty := 23) (ad := ⟨b2, o2 + j * 4 + 3, none⟩) (v := .slice (ys.getD j pk0).s (ys.getD j pk0).c.length (ys.getD j pk0).cp) (fun W hW => ld_at (by kernel_rfl) ((show PsAt W b2 o2 ys from hW (rfPs b2 o2 ys) (by show _ ∈ [rfPs b1 o1 xs, rfPc xs, rfPs b2 o2 ys, rfPc ys]; simp)) j (by omega)).2.2.2) (by kernel_rfl) fun aa D => ?_
  refine dr_tix 14 D (by kernel_rfl) (by kernel_rfl) (by kernel_rfl) (b := (ys.getD j pk0).bl) (off := (ys.getD j pk0).o) (len := (ys.getD j pk0).c.length) (n := k) (size := 1) (ix := (k : Int)) (by rw [← hoy.resolve_left (by omega)]; kernel_rfl) rfl (by omega) fun aa D => ?_
  refine dr_tld 15 D (by kernel_rfl) (by kernel_rfl) (by kernel_rfl) (ty := 3) (ad := ⟨(ys.getD j pk0).bl, (ys.getD j pk0).o + k * 1, none⟩) (v := .int .i64 ((ys.getD j pk0).c.getD k 0)) (fun W hW => ld_at (by kernel_rfl) (by rw [Nat.mul_one]; exact ((show ∀ p ∈ ys, IsAt W p.bl p.o p.c from hW (rfPc ys) (by show _ ∈ [rfPs b1 o1 xs, rfPc xs, rfPs b2 o2 ys, rfPc ys]; simp)) _ (getD_mem ys j pk0 (by omega))) k (by omega))) (by kernel_rfl) fun aa D => ?_
  refine dr_end D (by kernel_rfl) fun S => ?_
  refine sy_cast 96 S (congrArg Value.bool (by rw [decide_eq_false hp]; rfl : (!decide (((xs.getD j pk0).c.getD k 0) = ((ys.getD j pk0).c.getD k 0))) = true)) (by kernel_rfl) fun S => ?_
  refine sy_run ⟨0, []⟩ 60 S fun bs aa w S => ?_
  rw [decide_eq_false hno]
  exact sy_ret S (by kernel_rfl) (by kernel_rfl) fun hg => ⟨rfl, bel_gr hg⟩
theorem si_a (w0 : World) (xs ys : List Pk) (a1 a2 : Option Addr) (c1 c2 b1 o1 b2 o2 : Nat) (h1 : xs.length = 0 ∨ a1 = some ⟨b1, o1, none⟩) (h2 : ys.length = 0 ∨ a2 = some ⟨b2, o2, none⟩) (hl : xs.length ≤ 100000) (hx : ∀ p ∈ xs, p.ok ∧ p.c.length ≤ 1000000) (hy : ∀ p ∈ ys, p.ok) (hn : xs.length = ys.length) (M j : Nat) (hj : j < xs.length) (hk : (xs.getD j pk0).k = (ys.getD j pk0).k) (ha : (xs.getD j pk0).a = (ys.getD j pk0).a) (hb : (xs.getD j pk0).b = (ys.getD j pk0).b) (hc : (xs.getD j pk0).c.length = (ys.getD j pk0).c.length) (hv : ∀ i, i < j → (xs.getD i pk0).w = (ys.getD i pk0).w) (iho : (∀ i, i < j + 1 → (xs.getD i pk0).w = (ys.getD i pk0).w) → ∀ (aa : Act) (w : World) (S : Sy w0 [] [] (smS a1 a2 xs.length ys.length c1 c2 (j + 1)) [rfPs b1 o1 xs, rfPc xs, rfPs b2 o2 ys, rfPc ys] aa w), post Tryd.prog (.rnd (M) (bodyL smC) :: smC.k.tail) (bodyPost Tryd.prog Tryd.f14 (fun e w' => e = .returned (.bool (decide (xs.map Pk.w = ys.map Pk.w))) ∧ Below w0.heap.size w0 w')) .normal aa w) : ∀ (q k : Nat), k + q = (xs.getD j pk0).c.length → ∀ (hv2 : ∀ i, i < k → (xs.getD j pk0).c.getD i 0 = (ys.getD j pk0).c.getD i 0) (aa : Act) (w : World) (S : Sy w0 [] [] (smS2 a1 a2 xs.length ys.length c1 c2 (j) (k)) [rfPs b1 o1 xs, rfPc xs, rfPs b2 o2 ys, rfPc ys] aa w), post Tryd.prog (.rnd (q + 1) (bodyL (smI M)) :: (smI M).k.tail) (bodyPost Tryd.prog Tryd.f14 (fun e w' => e = .returned (.bool (decide (xs.map Pk.w = ys.map Pk.w))) ∧ Below w0.heap.size w0 w')) .normal aa w := by
  intro q
  induction q with
  | zero => intro k hk0 hv2 aa w S; obtain rfl : k = (xs.getD j pk0).c.length := by omega
            exact si_e w0 xs ys a1 a2 c1 c2 b1 o1 b2 o2 h1 h2 hl hx hy hn M j hj hk ha hb hc hv iho 0 hv2 aa w S
  | succ q ihq =>
    intro k hk0 hv2 aa w S
    by_cases hp : ((xs.getD j pk0).c.getD k 0) = ((ys.getD j pk0).c.getD k 0)
    · exact si_s w0 xs ys a1 a2 c1 c2 b1 o1 b2 o2 h1 h2 hl hx hy hn M j hj hk ha hb hc (q + 1) k (by omega) hp (fun aa w S => ihq (k + 1) (by omega) (fun i hi => by rcases Nat.lt_or_ge i k with h | h; exact hv2 i h; rw [show i = k by omega]; exact hp) aa w S) aa w S
    · exact si_b w0 xs ys a1 a2 c1 c2 b1 o1 b2 o2 h1 h2 hl hx hy hn M j hj hk ha hb hc (q + 1) k (by omega) hp aa w S
set_option maxHeartbeats 8000000 in
theorem sm_s (w0 : World) (xs ys : List Pk) (a1 a2 : Option Addr) (c1 c2 b1 o1 b2 o2 : Nat) (h1 : xs.length = 0 ∨ a1 = some ⟨b1, o1, none⟩) (h2 : ys.length = 0 ∨ a2 = some ⟨b2, o2, none⟩) (hl : xs.length ≤ 100000) (hx : ∀ p ∈ xs, p.ok ∧ p.c.length ≤ 1000000) (hy : ∀ p ∈ ys, p.ok) (hn : xs.length = ys.length) (M j : Nat) (hj : j < xs.length) (hk : (xs.getD j pk0).k = (ys.getD j pk0).k) (ha : (xs.getD j pk0).a = (ys.getD j pk0).a) (hb : (xs.getD j pk0).b = (ys.getD j pk0).b) (hc : (xs.getD j pk0).c.length = (ys.getD j pk0).c.length) (hv : ∀ i, i < j → (xs.getD i pk0).w = (ys.getD i pk0).w) (iho : (∀ i, i < j + 1 → (xs.getD i pk0).w = (ys.getD i pk0).w) → ∀ (aa : Act) (w : World) (S : Sy w0 [] [] (smS a1 a2 xs.length ys.length c1 c2 (j + 1)) [rfPs b1 o1 xs, rfPc xs, rfPs b2 o2 ys, rfPc ys] aa w), post Tryd.prog (.rnd (M) (bodyL smC) :: smC.k.tail) (bodyPost Tryd.prog Tryd.f14 (fun e w' => e = .returned (.bool (decide (xs.map Pk.w = ys.map Pk.w))) ∧ Below w0.heap.size w0 w')) .normal aa w) (aa : Act) (w : World) (S : Sy w0 [] [] (smS a1 a2 xs.length ys.length c1 c2 (j)) [rfPs b1 o1 xs, rfPc xs, rfPs b2 o2 ys, rfPc ys] aa w) : post Tryd.prog (.rnd (M + 1) (bodyL smC) :: smC.k.tail) (bodyPost Tryd.prog Tryd.f14 (fun e w' => e = .returned (.bool (decide (xs.map Pk.w = ys.map Pk.w))) ∧ Below w0.heap.size w0 w')) .normal aa w := by
  refine sy_run (c := ⟨(.rnd (M + 1) (bodyL smC) :: smC.k.tail), smS a1 a2 xs.length ys.length c1 c2 (j)⟩) ⟨0, [4]⟩ 50 S fun bs aa w S => ?_
  refine sy_reg S fun S => ?_
  refine sy_ops 4 S fun bs aa w S => ?_
  refine sy_cast 15 S (congrArg Value.bool (decide_eq_true (by omega) : decide ((j : Int) < (xs.length : Int)) = true)) (by kernel_rfl) fun S => ?_
  refine sy_run ⟨0, []⟩ 60 S fun bs aa w S => ?_
  letI : KP := ⟨[28, 40, 53, 68]⟩
  letI : HF := ⟨[rfPs b1 o1 xs, rfPc xs, rfPs b2 o2 ys, rfPc ys]⟩
  refine dr_enter [] (by kernel_rfl) (by kernel_rfl) S (by kernel_rfl) (fun aa w D => ?_) (fun f hf => by have hf2 : f ∈ [rfPs b1 o1 xs, rfPc xs, rfPs b2 o2 ys, rfPc ys] := hf; simp only [List.mem_cons, List.not_mem_nil, or_false] at hf2; rcases hf2 with rfl | rfl | rfl | rfl <;> simp)
  refine dr_tix 2 D (by kernel_rfl) (by kernel_rfl) (by kernel_rfl) (b := b1) (off := o1) (len := xs.length) (n := j) (size := 4) (ix := (j : Int)) (by rw [← h1.resolve_left (by omega)]; kernel_rfl) rfl (by omega) fun aa D => ?_
  refine dr_tld 4 D (by kernel_rfl) (by kernel_rfl) (by kernel_rfl) (ty := 3) (ad := ⟨b1, o1 + j * 4, none⟩) (v := .int .i64 (xs.getD j pk0).k) (fun W hW => ld_at (by kernel_rfl) ((show PsAt W b1 o1 xs from hW (rfPs b1 o1 xs) (by show _ ∈ [rfPs b1 o1 xs, rfPc xs, rfPs b2 o2 ys, rfPc ys]; simp)) j (by omega)).1) (by kernel_rfl) fun aa D => ?_
  refine dr_tix 7 D (by kernel_rfl) (by kernel_rfl) (by kernel_rfl) (b := b2) (off := o2) (len := ys.length) (n := j) (size := 4) (ix := (j : Int)) (by rw [← h2.resolve_left (by omega)]; kernel_rfl) rfl (by omega) fun aa D => ?_
  refine dr_tld 9 D (by kernel_rfl) (by kernel_rfl) (by kernel_rfl) (ty := 3) (ad := ⟨b2, o2 + j * 4, none⟩) (v := .int .i64 (ys.getD j pk0).k) (fun W hW => ld_at (by kernel_rfl) ((show PsAt W b2 o2 ys from hW (rfPs b2 o2 ys) (by show _ ∈ [rfPs b1 o1 xs, rfPc xs, rfPs b2 o2 ys, rfPc ys]; simp)) j (by omega)).1) (by kernel_rfl) fun aa D => ?_
  refine dr_ex2 (fun d v c a w h => by cases d <;> exact h) 10 (op := .binOp .neq 3 (.tmp 22) (.tmp 27) 3) (ty := 4) (v := .bool false) D (by kernel_rfl) (by kernel_rfl) (by kernel_rfl) (by kernel_rfl) (ex_neI (ki := .i64) (p := (xs.getD j pk0).k) (q := (ys.getD j pk0).k) (by kernel_rfl) (by kernel_rfl) (by rw [decide_eq_true hk]; rfl)) fun aa D => ?_
  refine dr_tix 14 D (by kernel_rfl) (by kernel_rfl) (by kernel_rfl) (b := b1) (off := o1) (len := xs.length) (n := j) (size := 4) (ix := (j : Int)) (by rw [← h1.resolve_left (by omega)]; kernel_rfl) rfl (by omega) fun aa D => ?_
  refine dr_tld 16 D (by kernel_rfl) (by kernel_rfl) (by kernel_rfl) (ty := 3) (ad := ⟨b1, o1 + j * 4 + 1, none⟩) (v := .int .i64 (xs.getD j pk0).a) (fun W hW => ld_at (by kernel_rfl) ((show PsAt W b1 o1 xs from hW (rfPs b1 o1 xs) (by show _ ∈ [rfPs b1 o1 xs, rfPc xs, rfPs b2 o2 ys, rfPc ys]; simp)) j (by omega)).2.1) (by kernel_rfl) fun aa D => ?_
  refine dr_tix 19 D (by kernel_rfl) (by kernel_rfl) (by kernel_rfl) (b := b2) (off := o2) (len := ys.length) (n := j) (size := 4) (ix := (j : Int)) (by rw [← h2.resolve_left (by omega)]; kernel_rfl) rfl (by omega) fun aa D => ?_
  refine dr_tld 21 D (by kernel_rfl) (by kernel_rfl) (by kernel_rfl) (ty := 3) (ad := ⟨b2, o2 + j * 4 + 1, none⟩) (v := .int .i64 (ys.getD j pk0).a) (fun W hW => ld_at (by kernel_rfl) ((show PsAt W b2 o2 ys from hW (rfPs b2 o2 ys) (by show _ ∈ [rfPs b1 o1 xs, rfPc xs, rfPs b2 o2 ys, rfPc ys]; simp)) j (by omega)).2.1) (by kernel_rfl) fun aa D => ?_
  refine dr_ex2 (fun d v c a w h => by cases d <;> exact h) 22 (op := .binOp .neq 3 (.tmp 34) (.tmp 39) 3) (ty := 4) (v := .bool false) D (by kernel_rfl) (by kernel_rfl) (by kernel_rfl) (by kernel_rfl) (ex_neI (ki := .i64) (p := (xs.getD j pk0).a) (q := (ys.getD j pk0).a) (by kernel_rfl) (by kernel_rfl) (by rw [decide_eq_true ha]; rfl)) fun aa D => ?_
  refine dr_tix 27 D (by kernel_rfl) (by kernel_rfl) (by kernel_rfl) (b := b1) (off := o1) (len := xs.length) (n := j) (size := 4) (ix := (j : Int)) (by rw [← h1.resolve_left (by omega)]; kernel_rfl) rfl (by omega) fun aa D => ?_
  refine dr_tld 29 D (by kernel_rfl) (by kernel_rfl) (by kernel_rfl) (ty := 3) (ad := ⟨b1, o1 + j * 4 + 2, none⟩) (v := .int .i64 (xs.getD j pk0).b) (fun W hW => ld_at (by kernel_rfl) ((show PsAt W b1 o1 xs from hW (rfPs b1 o1 xs) (by show _ ∈ [rfPs b1 o1 xs, rfPc xs, rfPs b2 o2 ys, rfPc ys]; simp)) j (by omega)).2.2.1) (by kernel_rfl) fun aa D => ?_
  refine dr_tix 32 D (by kernel_rfl) (by kernel_rfl) (by kernel_rfl) (b := b2) (off := o2) (len := ys.length) (n := j) (size := 4) (ix := (j : Int)) (by rw [← h2.resolve_left (by omega)]; kernel_rfl) rfl (by omega) fun aa D => ?_
  refine dr_tld 34 D (by kernel_rfl) (by kernel_rfl) (by kernel_rfl) (ty := 3) (ad := ⟨b2, o2 + j * 4 + 2, none⟩) (v := .int .i64 (ys.getD j pk0).b) (fun W hW => ld_at (by kernel_rfl) ((show PsAt W b2 o2 ys from hW (rfPs b2 o2 ys) (by show _ ∈ [rfPs b1 o1 xs, rfPc xs, rfPs b2 o2 ys, rfPc ys]; simp)) j (by omega)).2.2.1) (by kernel_rfl) fun aa D => ?_
  refine dr_ex2 (fun d v c a w h => by cases d <;> exact h) 35 (op := .binOp .neq 3 (.tmp 47) (.tmp 52) 3) (ty := 4) (v := .bool false) D (by kernel_rfl) (by kernel_rfl) (by kernel_rfl) (by kernel_rfl) (ex_neI (ki := .i64) (p := (xs.getD j pk0).b) (q := (ys.getD j pk0).b) (by kernel_rfl) (by kernel_rfl) (by rw [decide_eq_true hb]; rfl)) fun aa D => ?_
  refine dr_tix 40 D (by kernel_rfl) (by kernel_rfl) (by kernel_rfl) (b := b1) (off := o1) (len := xs.length) (n := j) (size := 4) (ix := (j : Int)) (by rw [← h1.resolve_left (by omega)]; kernel_rfl) rfl (by omega) fun aa D => ?_
  refine dr_tld 42 D (by kernel_rfl) (by kernel_rfl) (by kernel_rfl) (ty := 23) (ad := ⟨b1, o1 + j * 4 + 3, none⟩) (v := .slice (xs.getD j pk0).s (xs.getD j pk0).c.length (xs.getD j pk0).cp) (fun W hW => ld_at (by kernel_rfl) ((show PsAt W b1 o1 xs from hW (rfPs b1 o1 xs) (by show _ ∈ [rfPs b1 o1 xs, rfPc xs, rfPs b2 o2 ys, rfPc ys]; simp)) j (by omega)).2.2.2) (by kernel_rfl) fun aa D => ?_
  refine dr_tix 46 D (by kernel_rfl) (by kernel_rfl) (by kernel_rfl) (b := b2) (off := o2) (len := ys.length) (n := j) (size := 4) (ix := (j : Int)) (by rw [← h2.resolve_left (by omega)]; kernel_rfl) rfl (by omega) fun aa D => ?_
  refine dr_tld 48 D (by kernel_rfl) (by kernel_rfl) (by kernel_rfl) (ty := 23) (ad := ⟨b2, o2 + j * 4 + 3, none⟩) (v := .slice (ys.getD j pk0).s (ys.getD j pk0).c.length (ys.getD j pk0).cp) (fun W hW => ld_at (by kernel_rfl) ((show PsAt W b2 o2 ys from hW (rfPs b2 o2 ys) (by show _ ∈ [rfPs b1 o1 xs, rfPc xs, rfPs b2 o2 ys, rfPc ys]; simp)) j (by omega)).2.2.2) (by kernel_rfl) fun aa D => ?_
  refine dr_ex2 (fun d v c a w h => by cases d <;> exact h) 50 (op := .binOp .neq 3 (.tmp 61) (.tmp 67) 3) (ty := 4) (v := .bool false) D (by kernel_rfl) (by kernel_rfl) (by kernel_rfl) (by kernel_rfl) (ex_neI (ki := .i64) (p := ((xs.getD j pk0).c.length : Int)) (q := ((ys.getD j pk0).c.length : Int)) (by kernel_rfl) (by kernel_rfl) (by rw [decide_eq_true (by omega)]; rfl)) fun aa D => ?_
  refine dr_end D (by kernel_rfl) fun S => ?_
  refine sy_run ⟨0, []⟩ 60 S fun bs aa w S => ?_
  have S2 := S.to [] (smS2 a1 a2 xs.length ys.length c1 c2 (j) (0)) (by kernel_rfl) (by kernel_rfl) (by kernel_rfl) (by kernel_rfl) (by kernel_rfl)
  refine sy_loop ((xs.getD j pk0).c.length + 1) (by kernel_rfl) ?_
  refine sy_at2 (k' := (.rnd ((xs.getD j pk0).c.length + 1) (bodyL (smI M)) :: (smI M).k.tail)) (by kernel_rfl) ?_
  exact si_a w0 xs ys a1 a2 c1 c2 b1 o1 b2 o2 h1 h2 hl hx hy hn M j hj hk ha hb hc hv iho (xs.getD j pk0).c.length 0 (by omega) (fun i hi => absurd hi (Nat.not_lt_zero _)) aa w S2
theorem sm_a (w0 : World) (xs ys : List Pk) (a1 a2 : Option Addr) (c1 c2 b1 o1 b2 o2 : Nat) (h1 : xs.length = 0 ∨ a1 = some ⟨b1, o1, none⟩) (h2 : ys.length = 0 ∨ a2 = some ⟨b2, o2, none⟩) (hl : xs.length ≤ 100000) (hx : ∀ p ∈ xs, p.ok ∧ p.c.length ≤ 1000000) (hy : ∀ p ∈ ys, p.ok) (hn : xs.length = ys.length) : ∀ (m j : Nat), j + m = xs.length → ∀ (hv : ∀ i, i < j → (xs.getD i pk0).w = (ys.getD i pk0).w) (aa : Act) (w : World) (S : Sy w0 [] [] (smS a1 a2 xs.length ys.length c1 c2 (j)) [rfPs b1 o1 xs, rfPc xs, rfPs b2 o2 ys, rfPc ys] aa w), post Tryd.prog (.rnd (m + 1) (bodyL smC) :: smC.k.tail) (bodyPost Tryd.prog Tryd.f14 (fun e w' => e = .returned (.bool (decide (xs.map Pk.w = ys.map Pk.w))) ∧ Below w0.heap.size w0 w')) .normal aa w := by
  intro m
  induction m with
  | zero => intro j hj hv aa w S; obtain rfl : j = xs.length := by omega
            exact sm_e w0 xs ys a1 a2 c1 c2 b1 o1 b2 o2 h1 h2 hl hx hy hn 0 hv aa w S
  | succ m ih =>
    intro j hj hv aa w S
    by_cases hk : (xs.getD j pk0).k = (ys.getD j pk0).k
    case neg => exact sm_k w0 xs ys a1 a2 c1 c2 b1 o1 b2 o2 h1 h2 hl hx hy hn (m + 1) j (by omega) hk aa w S
    by_cases ha : (xs.getD j pk0).a = (ys.getD j pk0).a
    case neg => exact sm_a' w0 xs ys a1 a2 c1 c2 b1 o1 b2 o2 h1 h2 hl hx hy hn (m + 1) j (by omega) hk ha aa w S
    by_cases hb : (xs.getD j pk0).b = (ys.getD j pk0).b
    case neg => exact sm_b w0 xs ys a1 a2 c1 c2 b1 o1 b2 o2 h1 h2 hl hx hy hn (m + 1) j (by omega) hk ha hb aa w S
    by_cases hc : (xs.getD j pk0).c.length = (ys.getD j pk0).c.length
    case neg => exact sm_c w0 xs ys a1 a2 c1 c2 b1 o1 b2 o2 h1 h2 hl hx hy hn (m + 1) j (by omega) hk ha hb hc aa w S
    exact sm_s w0 xs ys a1 a2 c1 c2 b1 o1 b2 o2 h1 h2 hl hx hy hn (m + 1) j (by omega) hk ha hb hc hv (fun h aa w S => ih (j + 1) (by omega) h aa w S) aa w S
set_option maxHeartbeats 8000000 in
theorem same_t (w0 : World) (xs ys : List Pk) (a1 a2 : Option Addr) (c1 c2 b1 o1 b2 o2 : Nat) (h1 : xs.length = 0 ∨ a1 = some ⟨b1, o1, none⟩) (h2 : ys.length = 0 ∨ a2 = some ⟨b2, o2, none⟩) (hl : xs.length ≤ 100000) (hx : ∀ p ∈ xs, p.ok ∧ p.c.length ≤ 1000000) (hy : ∀ p ∈ ys, p.ok) (hA : PsAt w0 b1 o1 xs) (hA2 : ∀ p ∈ xs, IsAt w0 p.bl p.o p.c) (hB : PsAt w0 b2 o2 ys) (hB2 : ∀ p ∈ ys, IsAt w0 p.bl p.o p.c) : Calls Tryd.prog 14 #[.slice a1 xs.length c1, .slice a2 ys.length c2] w0 (fun e w' => e = .returned (.bool (decide (xs.map Pk.w = ys.map Pk.w))) ∧ Below w0.heap.size w0 w') := by
  refine sy_enterF [] [rfPs b1 o1 xs, rfPc xs, rfPs b2 o2 ys, rfPc ys] (by intro f hf; simp only [List.mem_cons, List.not_mem_nil, or_false] at hf; rcases hf with rfl | rfl | rfl | rfl; exact hA; exact hA2; exact hB; exact hB2) Tryd.func14 rfl rfl fun aa S => ?_
  refine sy_run ⟨0, [1]⟩ 60 S fun bs aa w S => ?_
  refine sy_reg S fun S => ?_
  refine sy_ops 5 S fun bs aa w S => ?_
  by_cases hn : xs.length = ys.length
  case neg =>
    refine sy_cast 11 S (congrArg Value.bool (by rw [decide_eq_false (by omega)]; rfl : (!decide ((xs.length : Int) = (ys.length : Int))) = true)) (by kernel_rfl) fun S => ?_
    refine sy_run ⟨0, []⟩ 60 S fun bs aa w S => ?_
    rw [decide_eq_false (fun q : xs.map Pk.w = ys.map Pk.w => hn (by simpa using congrArg List.length q))]
    exact sy_ret S (by kernel_rfl) (by kernel_rfl) fun hg => ⟨rfl, bel_gr hg⟩
  refine sy_cast 11 S (congrArg Value.bool (by rw [decide_eq_true (by omega)]; rfl : (!decide ((xs.length : Int) = (ys.length : Int))) = false)) (by kernel_rfl) fun S => ?_
  refine sy_run ⟨0, []⟩ 60 S fun bs aa w S => ?_
  have S2 := S.to [] (smS a1 a2 xs.length ys.length c1 c2 (0)) (by kernel_rfl) (by kernel_rfl) (by kernel_rfl) (by kernel_rfl) (by kernel_rfl)
  refine sy_loop (xs.length + 1) (by kernel_rfl) ?_
  refine sy_at2 (k' := (.rnd (xs.length + 1) (bodyL smC) :: smC.k.tail)) (by kernel_rfl) ?_
  exact sm_a w0 xs ys a1 a2 c1 c2 b1 o1 b2 o2 h1 h2 hl hx hy hn xs.length 0 (by omega) (fun i hi => absurd hi (Nat.not_lt_zero _)) aa w S2
end Go.Proofs.YtfkmcibglaiakaaDoor
