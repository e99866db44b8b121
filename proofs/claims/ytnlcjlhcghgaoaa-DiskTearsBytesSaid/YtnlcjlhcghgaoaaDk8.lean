
/-
  Layer 22: each sector reads as the last write to it.
-/
import Derived.Test.YtnlcjlhcghgaoaaRows
import Derived.Test.YtnlcjlhcghgaoaaBase
import Derived.Test.YtnlcjlhcghgaoaaDk7
import Derived.WalkKit
namespace Go.Proofs.Ytnlcjlhcghgaoaa
open Go Go.RowKit SZ
set_option linter.unusedVariables false
set_option linter.unusedSimpArgs false
set_option maxRecDepth 100000
attribute [local irreducible] post GD Nxt NxtAll
noncomputable def ouC : Cfg := ⟨goZ 60 [0] [.code (bodyOf Try.f4)], ⟨0, [], []⟩⟩
noncomputable def inC (M : Nat) : Cfg := ⟨goZ 60 [1] (.code (bodyL ouC) :: .rnd M (bodyL ouC) :: ouC.k.tail), ⟨0, [], []⟩⟩
noncomputable def ouS (k at_ n : Nat) (ga : Option Addr) (gc : Nat) (d : Dk) : SS := ⟨79, [(5, .v (.bool true)), (6, .v (.int .i64 ((k + 1 : Nat) : Int))), (7, .p 0 0), (8, .v (.slice ga n gc)), (9, .v (.bool true)), (10, .v (.int .i64 (at_ : Int)))], [⟨25, d.cs⟩]⟩
noncomputable def inS (k at_ n i : Nat) (ga : Option Addr) (gc : Nat) (d : Dk) (X : ByteArray) : SS := ⟨79, [(5, .v (.bool true)), (6, .v (.int .i64 ((k + 1 : Nat) : Int))), (7, .p 0 0), (8, .v (.slice ga n gc)), (9, .v (.bool true)), (10, .v (.int .i64 (at_ : Int))), (11, .v (.string X)), (12, .v (.int .i64 (i : Int)))], [⟨25, d.cs⟩]⟩
set_option maxHeartbeats 8000000 in
theorem in_eq (w0 : World) (k : Nat) (hk : k < 6) (d : Dk) (hd : d.ok) (hsl : d.sl = k + 1) (hr : d.right) (D : List (Int × ByteArray)) (hdl : D.length ≤ 40) (hla : ∀ j, j < k + 1 → d.S.getD j ByteArray.empty = lastD D j z32) (ga : Option Addr) (gc g : Nat) (hg : D.length = 0 ∨ ga = some ⟨g, 0, none⟩) (M m at_ i : Nat) (ha : at_ < k + 1) (hi : i < D.length) (he : (D.getD i (0, ByteArray.empty)).1 = (at_ : Int)) (ih : ∀ (bb : Nat) (aa : Act) (w : World) (S : Sy w0 [] [bb] (inS k at_ D.length (i + 1) ga gc d (lastD (D.take (i + 1)) at_ z32)) [rfSt d.b d.o d.S, rfWs d.c d.p d.W, rfWs g 0 D] aa w), post Try.prog (.rnd (m) (bodyL (inC M)) :: (inC M).k.tail) (bodyPost Try.prog Try.f4 fun e w' => e = .returned (.bool true) ∧ Below w0.heap.size w0 w') .normal aa w) (bb : Nat) (aa : Act) (w : World) (S : Sy w0 [] [bb] (inS k at_ D.length (i) ga gc d (lastD (D.take (i)) at_ z32)) [rfSt d.b d.o d.S, rfWs d.c d.p d.W, rfWs g 0 D] aa w) : post Try.prog (.rnd (m + 1) (bodyL (inC M)) :: (inC M).k.tail) (bodyPost Try.prog Try.f4 fun e w' => e = .returned (.bool true) ∧ Below w0.heap.size w0 w') .normal aa w := by
  obtain rfl := hg.resolve_left (by omega)
  have e := lastD_succ D i hi at_ z32
  rw [if_pos he] at e
  refine sy_run (c := ⟨(.rnd (m + 1) (bodyL (inC M)) :: (inC M).k.tail), inS k at_ D.length (i) (some ⟨g, 0, none⟩) gc d (lastD (D.take (i)) at_ z32)⟩) ⟨0, [11]⟩ 50 S fun bs aa w S => ?_
  refine sy_reg S fun S => ?_
  refine sy_ops 4 S fun bs aa w S => ?_
  refine sy_cast 43 S (congrArg Value.bool (by simp; omega : decide (((i : Nat) : Int) < (D.length : Int)) = true)) (by kernel_rfl) fun S => ?_
  refine sy_run ⟨0, [13]⟩ 60 S fun bs aa w S => ?_
  refine sy_reg S fun S => ?_
  refine sy_ops 2 S fun bs aa w S => ?_
  refine sy_ix (b := g) (off := 0) (len := D.length) (n := i) (size := 2) (i := (i : Int)) S (by kernel_rfl) rfl hi fun aa S => ?_
  refine sy_ops 1 S fun bs aa w S => ?_
  refine sy_ldo S (ld_at (ty := 3) (b := g) (off := 0 + i * 2) (by kernel_rfl) ((S.fact (f := rfWs g 0 D) (by simp)) i hi).1) (by kernel_rfl) fun aa S => ?_
  refine sy_ops 2 S fun bs aa w S => ?_
  refine sy_cast 52 S (congrArg Value.bool (decide_eq_true he : decide ((D.getD i (0, ByteArray.empty)).1 = (at_ : Int)) = true)) (by kernel_rfl) fun S => ?_
  refine sy_run ⟨0, [14]⟩ 60 S fun bs aa w S => ?_
  refine sy_reg S fun S => ?_
  refine sy_ops 2 S fun bs aa w S => ?_
  refine sy_ix (b := g) (off := 0) (len := D.length) (n := i) (size := 2) (i := (i : Int)) S (by kernel_rfl) rfl hi fun aa S => ?_
  refine sy_ops 1 S fun bs aa w S => ?_
  refine sy_ldo S (ld_at (ty := 9) (b := g) (off := 0 + i * 2 + 1) (by kernel_rfl) ((S.fact (f := rfWs g 0 D) (by simp)) i hi).2) (by kernel_rfl) fun aa S => ?_
  refine sy_run ⟨0, [12]⟩ 60 S fun bs aa w S => ?_
  refine sy_reg S fun S => ?_
  refine sy_ops 2 S fun bs aa w S => ?_
  refine sy_cast 45 S (congrArg (Value.int .i64) (by rw [IntKind.wrap_i64]; omega : IntKind.i64.wrap ((i : Int) + 1) = ((i + 1 : Nat) : Int))) (by kernel_rfl) fun S => ?_
  refine sy_run ⟨0, [999]⟩ 50 S fun bs aa w S => ?_
  have S2 := S.to [0] (inS k at_ D.length (i + 1) (some ⟨g, 0, none⟩) gc d (D.getD i (0, ByteArray.empty)).2) (by kernel_rfl) (by kernel_rfl) (by kernel_rfl) (by kernel_rfl) (by kernel_rfl)
  rw [← e] at S2
  refine sy_at2 (k' := (.rnd (m) (bodyL (inC M)) :: (inC M).k.tail)) (by kernel_rfl) ?_
  exact ih _ aa w S2
set_option maxHeartbeats 8000000 in
theorem in_ne (w0 : World) (k : Nat) (hk : k < 6) (d : Dk) (hd : d.ok) (hsl : d.sl = k + 1) (hr : d.right) (D : List (Int × ByteArray)) (hdl : D.length ≤ 40) (hla : ∀ j, j < k + 1 → d.S.getD j ByteArray.empty = lastD D j z32) (ga : Option Addr) (gc g : Nat) (hg : D.length = 0 ∨ ga = some ⟨g, 0, none⟩) (M m at_ i : Nat) (ha : at_ < k + 1) (hi : i < D.length) (he : ¬ (D.getD i (0, ByteArray.empty)).1 = (at_ : Int)) (ih : ∀ (bb : Nat) (aa : Act) (w : World) (S : Sy w0 [] [bb] (inS k at_ D.length (i + 1) ga gc d (lastD (D.take (i + 1)) at_ z32)) [rfSt d.b d.o d.S, rfWs d.c d.p d.W, rfWs g 0 D] aa w), post Try.prog (.rnd (m) (bodyL (inC M)) :: (inC M).k.tail) (bodyPost Try.prog Try.f4 fun e w' => e = .returned (.bool true) ∧ Below w0.heap.size w0 w') .normal aa w) (bb : Nat) (aa : Act) (w : World) (S : Sy w0 [] [bb] (inS k at_ D.length (i) ga gc d (lastD (D.take (i)) at_ z32)) [rfSt d.b d.o d.S, rfWs d.c d.p d.W, rfWs g 0 D] aa w) : post Try.prog (.rnd (m + 1) (bodyL (inC M)) :: (inC M).k.tail) (bodyPost Try.prog Try.f4 fun e w' => e = .returned (.bool true) ∧ Below w0.heap.size w0 w') .normal aa w := by
  obtain rfl := hg.resolve_left (by omega)
  have e := lastD_succ D i hi at_ z32
  rw [if_neg he] at e
  refine sy_run (c := ⟨(.rnd (m + 1) (bodyL (inC M)) :: (inC M).k.tail), inS k at_ D.length (i) (some ⟨g, 0, none⟩) gc d (lastD (D.take (i)) at_ z32)⟩) ⟨0, [11]⟩ 50 S fun bs aa w S => ?_
  refine sy_reg S fun S => ?_
  refine sy_ops 4 S fun bs aa w S => ?_
  refine sy_cast 43 S (congrArg Value.bool (by simp; omega : decide (((i : Nat) : Int) < (D.length : Int)) = true)) (by kernel_rfl) fun S => ?_
  refine sy_run ⟨0, [13]⟩ 60 S fun bs aa w S => ?_
  refine sy_reg S fun S => ?_
  refine sy_ops 2 S fun bs aa w S => ?_
  refine sy_ix (b := g) (off := 0) (len := D.length) (n := i) (size := 2) (i := (i : Int)) S (by kernel_rfl) rfl hi fun aa S => ?_
  refine sy_ops 1 S fun bs aa w S => ?_
  refine sy_ldo S (ld_at (ty := 3) (b := g) (off := 0 + i * 2) (by kernel_rfl) ((S.fact (f := rfWs g 0 D) (by simp)) i hi).1) (by kernel_rfl) fun aa S => ?_
  refine sy_ops 2 S fun bs aa w S => ?_
  refine sy_cast 52 S (congrArg Value.bool (decide_eq_false he : decide ((D.getD i (0, ByteArray.empty)).1 = (at_ : Int)) = false)) (by kernel_rfl) fun S => ?_
  refine sy_run ⟨0, [12]⟩ 60 S fun bs aa w S => ?_
  refine sy_reg S fun S => ?_
  refine sy_ops 2 S fun bs aa w S => ?_
  refine sy_cast 45 S (congrArg (Value.int .i64) (by rw [IntKind.wrap_i64]; omega : IntKind.i64.wrap ((i : Int) + 1) = ((i + 1 : Nat) : Int))) (by kernel_rfl) fun S => ?_
  refine sy_run ⟨0, [999]⟩ 50 S fun bs aa w S => ?_
  have S2 := S.to [0] (inS k at_ D.length (i + 1) (some ⟨g, 0, none⟩) gc d (lastD (D.take i) at_ z32)) (by kernel_rfl) (by kernel_rfl) (by kernel_rfl) (by kernel_rfl) (by kernel_rfl)
  rw [← e] at S2
  refine sy_at2 (k' := (.rnd (m) (bodyL (inC M)) :: (inC M).k.tail)) (by kernel_rfl) ?_
  exact ih _ aa w S2
set_option maxHeartbeats 8000000 in
theorem in_end (w0 : World) (k : Nat) (hk : k < 6) (d : Dk) (hd : d.ok) (hsl : d.sl = k + 1) (hr : d.right) (D : List (Int × ByteArray)) (hdl : D.length ≤ 40) (hla : ∀ j, j < k + 1 → d.S.getD j ByteArray.empty = lastD D j z32) (ga : Option Addr) (gc g : Nat) (hg : D.length = 0 ∨ ga = some ⟨g, 0, none⟩) (M m at_ : Nat) (ha : at_ < k + 1) (ihO : ∀ (bb : Nat) (aa : Act) (w : World) (S : Sy w0 [] [bb] (ouS k (at_ + 1) D.length ga gc d) [rfSt d.b d.o d.S, rfWs d.c d.p d.W, rfWs g 0 D] aa w), post Try.prog (.rnd (M) (bodyL ouC) :: ouC.k.tail) (bodyPost Try.prog Try.f4 fun e w' => e = .returned (.bool true) ∧ Below w0.heap.size w0 w') .normal aa w) (bb : Nat) (aa : Act) (w : World) (S : Sy w0 [] [bb] (inS k at_ D.length (D.length) ga gc d (lastD (D.take (D.length)) at_ z32)) [rfSt d.b d.o d.S, rfWs d.c d.p d.W, rfWs g 0 D] aa w) : post Try.prog (.rnd (m + 1) (bodyL (inC M)) :: (inC M).k.tail) (bodyPost Try.prog Try.f4 fun e w' => e = .returned (.bool true) ∧ Below w0.heap.size w0 w') .normal aa w := by
  refine sy_run (c := ⟨(.rnd (m + 1) (bodyL (inC M)) :: (inC M).k.tail), inS k at_ D.length (D.length) ga gc d (lastD (D.take (D.length)) at_ z32)⟩) ⟨0, [11]⟩ 50 S fun bs aa w S => ?_
  refine sy_reg S fun S => ?_
  refine sy_ops 4 S fun bs aa w S => ?_
  refine sy_cast 43 S (congrArg Value.bool (by simp : decide (((D.length : Nat) : Int) < (D.length : Int)) = false)) (by kernel_rfl) fun S => ?_
  refine sy_run ⟨0, [15]⟩ 60 S fun bs aa w S => ?_
  refine sy_reg S fun S => ?_
  refine sy_ops 2 S fun bs aa w S => ?_
  refine sy_call1 S (read_t d hd at_ (by omega) w (S.fact (f := rfSt d.b d.o d.S) (by simp))) (by kernel_rfl) fun aa w hb S => ?_
  refine sy_run ⟨0, [16]⟩ 60 S fun bs aa w S => ?_
  refine sy_reg S fun S => ?_
  refine sy_ops 3 S fun bs aa w S => ?_
  refine sy_cast 66 S (congrArg Value.bool (by rw [List.take_length, hla at_ ha]; simp : (!((d.S.getD at_ ByteArray.empty).toList == (lastD (D.take D.length) at_ z32).toList)) = false)) (by kernel_rfl) fun S => ?_
  refine sy_run ⟨0, [8]⟩ 60 S fun bs aa w S => ?_
  refine sy_reg S fun S => ?_
  refine sy_ops 2 S fun bs aa w S => ?_
  refine sy_cast 38 S (congrArg (Value.int .i64) (by rw [IntKind.wrap_i64]; omega : IntKind.i64.wrap ((at_ : Int) + 1) = ((at_ + 1 : Nat) : Int))) (by kernel_rfl) fun S => ?_
  refine sy_run ⟨0, [999]⟩ 50 S fun bs aa w S => ?_
  have S2 := S.to [0] (ouS k (at_ + 1) D.length ga gc d) (by kernel_rfl) (by kernel_rfl) (by kernel_rfl) (by kernel_rfl) (by kernel_rfl)
  refine sy_at2 (k' := (.rnd (M) (bodyL ouC) :: ouC.k.tail)) (by kernel_rfl) ?_
  exact ihO _ aa w S2
theorem in_all (w0 : World) (k : Nat) (hk : k < 6) (d : Dk) (hd : d.ok) (hsl : d.sl = k + 1) (hr : d.right) (D : List (Int × ByteArray)) (hdl : D.length ≤ 40) (hla : ∀ j, j < k + 1 → d.S.getD j ByteArray.empty = lastD D j z32) (ga : Option Addr) (gc g : Nat) (hg : D.length = 0 ∨ ga = some ⟨g, 0, none⟩) (M at_ : Nat) (ha : at_ < k + 1) (ihO : ∀ (bb : Nat) (aa : Act) (w : World) (S : Sy w0 [] [bb] (ouS k (at_ + 1) D.length ga gc d) [rfSt d.b d.o d.S, rfWs d.c d.p d.W, rfWs g 0 D] aa w), post Try.prog (.rnd (M) (bodyL ouC) :: ouC.k.tail) (bodyPost Try.prog Try.f4 fun e w' => e = .returned (.bool true) ∧ Below w0.heap.size w0 w') .normal aa w) : ∀ (r i : Nat), i + r = D.length → ∀ (bb : Nat) (aa : Act) (w : World) (S : Sy w0 [] [bb] (inS k at_ D.length (i) ga gc d (lastD (D.take (i)) at_ z32)) [rfSt d.b d.o d.S, rfWs d.c d.p d.W, rfWs g 0 D] aa w), post Try.prog (.rnd (r + 1) (bodyL (inC M)) :: (inC M).k.tail) (bodyPost Try.prog Try.f4 fun e w' => e = .returned (.bool true) ∧ Below w0.heap.size w0 w') .normal aa w := by
  intro r
  induction r with
  | zero => intro i hi bb aa w S; obtain rfl : i = D.length := by omega
            exact in_end w0 k hk d hd hsl hr D hdl hla ga gc g hg M 0 at_ ha ihO bb aa w S
  | succ r ih =>
    intro i hi bb aa w S
    by_cases he : (D.getD i (0, ByteArray.empty)).1 = (at_ : Int)
    · exact in_eq w0 k hk d hd hsl hr D hdl hla ga gc g hg M (r + 1) at_ i ha (by omega) he (ih (i + 1) (by omega)) bb aa w S
    · exact in_ne w0 k hk d hd hsl hr D hdl hla ga gc g hg M (r + 1) at_ i ha (by omega) he (ih (i + 1) (by omega)) bb aa w S
set_option maxHeartbeats 8000000 in
theorem ou_step (w0 : World) (k : Nat) (hk : k < 6) (d : Dk) (hd : d.ok) (hsl : d.sl = k + 1) (hr : d.right) (D : List (Int × ByteArray)) (hdl : D.length ≤ 40) (hla : ∀ j, j < k + 1 → d.S.getD j ByteArray.empty = lastD D j z32) (ga : Option Addr) (gc g : Nat) (hg : D.length = 0 ∨ ga = some ⟨g, 0, none⟩) (M at_ : Nat) (ha : at_ < k + 1) (ihO : ∀ (bb : Nat) (aa : Act) (w : World) (S : Sy w0 [] [bb] (ouS k (at_ + 1) D.length ga gc d) [rfSt d.b d.o d.S, rfWs d.c d.p d.W, rfWs g 0 D] aa w), post Try.prog (.rnd (M) (bodyL ouC) :: ouC.k.tail) (bodyPost Try.prog Try.f4 fun e w' => e = .returned (.bool true) ∧ Below w0.heap.size w0 w') .normal aa w) (bb : Nat) (aa : Act) (w : World) (S : Sy w0 [] [bb] (ouS k (at_) D.length ga gc d) [rfSt d.b d.o d.S, rfWs d.c d.p d.W, rfWs g 0 D] aa w) : post Try.prog (.rnd (M + 1) (bodyL ouC) :: ouC.k.tail) (bodyPost Try.prog Try.f4 fun e w' => e = .returned (.bool true) ∧ Below w0.heap.size w0 w') .normal aa w := by
  refine sy_run (c := ⟨(.rnd (M + 1) (bodyL ouC) :: ouC.k.tail), ouS k (at_) D.length ga gc d⟩) ⟨0, [7]⟩ 50 S fun bs aa w S => ?_
  refine sy_reg S fun S => ?_
  refine sy_ops 3 S fun bs aa w S => ?_
  refine sy_cast 33 S (congrArg Value.bool (decide_eq_true (by omega) : decide (((at_ : Nat) : Int) < ((k + 1 : Nat) : Int)) = true)) (by kernel_rfl) fun S => ?_
  refine sy_run ⟨0, [9]⟩ 60 S fun bs aa w S => ?_
  refine sy_reg S fun S => ?_
  refine sy_call1 S (full_any 0 w) (by kernel_rfl) fun aa w hb S => ?_
  refine sy_run ⟨0, []⟩ 60 S fun bs aa w S => ?_
  have S2 := S.to [0] (inS k at_ D.length 0 ga gc d (fullS 0)) (by kernel_rfl) (by kernel_rfl) (by kernel_rfl) (by kernel_rfl) (by kernel_rfl)
  rw [show fullS 0 = lastD (D.take 0) at_ z32 from full_0] at S2
  refine sy_loop (D.length + 1) (by kernel_rfl) ?_
  refine sy_at2 (k' := (.rnd (D.length + 1) (bodyL (inC M)) :: (inC M).k.tail)) (by kernel_rfl) ?_
  exact in_all w0 k hk d hd hsl hr D hdl hla ga gc g hg M at_ ha ihO D.length 0 (by omega) _ aa w S2
set_option maxHeartbeats 8000000 in
theorem ou_end (w0 : World) (k : Nat) (hk : k < 6) (d : Dk) (hd : d.ok) (hsl : d.sl = k + 1) (hr : d.right) (D : List (Int × ByteArray)) (hdl : D.length ≤ 40) (hla : ∀ j, j < k + 1 → d.S.getD j ByteArray.empty = lastD D j z32) (ga : Option Addr) (gc g : Nat) (hg : D.length = 0 ∨ ga = some ⟨g, 0, none⟩) (M : Nat) (bb : Nat) (aa : Act) (w : World) (S : Sy w0 [] [bb] (ouS k (k + 1) D.length ga gc d) [rfSt d.b d.o d.S, rfWs d.c d.p d.W, rfWs g 0 D] aa w) : post Try.prog (.rnd (M + 1) (bodyL ouC) :: ouC.k.tail) (bodyPost Try.prog Try.f4 fun e w' => e = .returned (.bool true) ∧ Below w0.heap.size w0 w') .normal aa w := by
  refine sy_run (c := ⟨(.rnd (M + 1) (bodyL ouC) :: ouC.k.tail), ouS k (k + 1) D.length ga gc d⟩) ⟨0, [7]⟩ 50 S fun bs aa w S => ?_
  refine sy_reg S fun S => ?_
  refine sy_ops 3 S fun bs aa w S => ?_
  refine sy_cast 33 S (congrArg Value.bool (decide_eq_false (by omega) : decide (((k + 1 : Nat) : Int) < ((k + 1 : Nat) : Int)) = false)) (by kernel_rfl) fun S => ?_
  refine sy_run ⟨0, [18]⟩ 60 S fun bs aa w S => ?_
  refine sy_reg S fun S => ?_
  refine sy_ops 6 S fun bs aa w S => ?_
  refine sy_call1 S (right_t w d hd hr (S.fact (f := rfSt d.b d.o d.S) (by simp)) (S.fact (f := rfWs d.c d.p d.W) (by simp))) (by kernel_rfl) fun aa w hb S => ?_
  refine sy_run ⟨0, []⟩ 60 S fun bs aa w S => ?_
  exact sy_ret S (by kernel_rfl) (by kernel_rfl) fun hg => ⟨rfl, bel_gr hg⟩
theorem ou_all (w0 : World) (k : Nat) (hk : k < 6) (d : Dk) (hd : d.ok) (hsl : d.sl = k + 1) (hr : d.right) (D : List (Int × ByteArray)) (hdl : D.length ≤ 40) (hla : ∀ j, j < k + 1 → d.S.getD j ByteArray.empty = lastD D j z32) (ga : Option Addr) (gc g : Nat) (hg : D.length = 0 ∨ ga = some ⟨g, 0, none⟩) : ∀ (r at_ : Nat), at_ + r = k + 1 → ∀ (bb : Nat) (aa : Act) (w : World) (S : Sy w0 [] [bb] (ouS k (at_) D.length ga gc d) [rfSt d.b d.o d.S, rfWs d.c d.p d.W, rfWs g 0 D] aa w), post Try.prog (.rnd (r + 1) (bodyL ouC) :: ouC.k.tail) (bodyPost Try.prog Try.f4 fun e w' => e = .returned (.bool true) ∧ Below w0.heap.size w0 w') .normal aa w := by
  intro r
  induction r with
  | zero => intro a hi bb aa w S; obtain rfl : a = k + 1 := by omega
            exact ou_end w0 k hk d hd hsl hr D hdl hla ga gc g hg 0 bb aa w S
  | succ r ih => intro a hi bb aa w S; exact ou_step w0 k hk d hd hsl hr D hdl hla ga gc g hg (r + 1) a (by omega) (ih (a + 1) (by omega)) bb aa w S
set_option maxHeartbeats 8000000 in
theorem rlw_all (w0 : World) (m : Int) (hm : 0 ≤ m ∧ m ≤ 255) (l : List Nat) (h256 : ∀ i, i < l.length → l.getD i 0 < 256) (pa : Option Addr) (lc lb lo : Nat) (hp : l.length = 0 ∨ pa = some ⟨lb, lo, none⟩) (hL : ByAt w0 lb lo l) : Calls Try.prog 4 #[.int .u8 m, .slice pa l.length lc] w0 fun e w' => e = .returned (.bool true) ∧ Below w0.heap.size w0 w' := by
  obtain ⟨k, hk, hk2⟩ : ∃ k : Nat, k < 6 ∧ IntKind.i64.wrap (1 + Int.tmod (IntKind.i64.wrap m) 6) = ((k + 1 : Nat) : Int) := by
    refine ⟨(m % 6).toNat, by omega, ?_⟩
    have e : IntKind.i64.wrap m = m := by rw [IntKind.wrap_i64]; omega
    rw [e, Int.tmod_eq_emod_of_nonneg hm.1, IntKind.wrap_i64]
    omega
  refine sy_enterF [] [rfBy lb lo l] (by intro f hf; simp only [List.mem_singleton] at hf; subst hf; exact hL) Try.func4 rfl rfl fun aa S => ?_
  refine sy_run ⟨0, [1]⟩ 60 S fun bs aa w S => ?_
  refine sy_reg S fun S => ?_
  refine sy_call1 S (sane22 w) (by kernel_rfl) fun aa w hb S => ?_
  refine sy_run ⟨0, [2]⟩ 60 S fun bs aa w S => ?_
  refine sy_reg S fun S => ?_
  refine sy_ops 4 S fun bs aa w S => ?_
  refine sy_cast 19 S (congrArg (Value.int .i64) hk2) (by kernel_rfl) fun S => ?_
  refine sy_run ⟨0, [3]⟩ 60 S fun bs aa w S => ?_
  refine sy_reg S fun S => ?_
  refine sy_ops 3 S fun bs aa w S => ?_
  by_cases hl : l.length ≤ 40
  · refine sy_cast 22 S (congrArg Value.bool (decide_eq_false (by omega) : decide ((l.length : Int) > 40) = false)) (by kernel_rfl) fun S => ?_
    refine sy_run ⟨0, [5]⟩ 60 S fun bs aa w S => ?_
    refine sy_reg S fun S => ?_
    refine sy_ops 2 S fun bs aa w S => ?_
    have hlt := fun j hj => S.lt (i := j) hj
    refine sy_call S (X := Dk × Option Addr × Nat × Nat × List (Int × ByteArray)) (val := fun x => .tuple #[x.1.v, .slice x.2.1 x.2.2.2.2.length x.2.2.1, .bool true]) (written_u w k hk l hl h256 pa lc lb lo hp (S.fact (f := rfBy lb lo l) (by simp))) (by kernel_rfl) fun x aa w1 hC hb S => ?_
    obtain ⟨d, ga, gc, g, D⟩ := x
    obtain ⟨hW, h1, h2, h3, h4, h5⟩ := hC
    have S := S.add (rfWs g 0 D) h5 (fun j hj hb => by have q1 := hlt j hj; obtain ⟨q2, q3⟩ := hb; have q4 := h4.resolve_left q3; simp only at q4; omega)
    have S := S.add (rfWs d.c d.p d.W) h2 (fun j hj hb => by have q1 := hlt j hj; obtain ⟨q2, q3⟩ := hb; have q4 := hW.hb.2.resolve_left q3; simp only at q4; omega)
    have S := S.add (rfSt d.b d.o d.S) h1 (fun j hj hb => by have q1 := hlt j hj; obtain ⟨q2, q3⟩ := hb; have q4 := hW.hb.1; simp only at q4; omega)
    refine sy_run ⟨0, []⟩ 60 S fun bs aa w S => ?_
    have S := S.sub (F' := [rfSt d.b d.o d.S, rfWs d.c d.p d.W, rfWs g 0 D]) (by intro f hf; simp only [List.mem_cons, List.not_mem_nil, or_false] at hf; rcases hf with rfl | rfl | rfl <;> simp)
    have S2 := S.to [0] (ouS k 0 D.length ga gc d) (by kernel_rfl) (by kernel_rfl) (by kernel_rfl) (by kernel_rfl) (by kernel_rfl)
    refine sy_loop (k + 1 + 1) (by kernel_rfl) ?_
    refine sy_at2 (k' := (.rnd (k + 1 + 1) (bodyL ouC) :: ouC.k.tail)) (by kernel_rfl) ?_
    have hv := winv (k + 1) (Nat.succ_pos _) (l.take l.length)
    have he : wall (k + 1) (l.take l.length) = (d.S, d.W, D) := hW.eq
    rw [he] at hv
    exact ou_all w0 k hk d hW.ok hW.sl hW.right D (by have q := hW.dl; simp only at q; omega) hv.last ga gc g h3 (k + 1) 0 (by omega) _ aa w S2
  · refine sy_cast 22 S (congrArg Value.bool (decide_eq_true (by omega) : decide ((l.length : Int) > 40) = true)) (by kernel_rfl) fun S => ?_
    refine sy_run ⟨0, []⟩ 60 S fun bs aa w S => ?_
    exact sy_ret S (by kernel_rfl) (by kernel_rfl) fun hg => ⟨rfl, bel_gr hg⟩
end Go.Proofs.Ytnlcjlhcghgaoaa
