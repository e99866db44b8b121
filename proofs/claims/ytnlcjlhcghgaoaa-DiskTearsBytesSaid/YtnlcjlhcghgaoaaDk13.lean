
/-
  Layer 22: a crash tears bytes.
-/
import Derived.Test.YtnlcjlhcghgaoaaRows
import Derived.Test.YtnlcjlhcghgaoaaBase
import Derived.Test.YtnlcjlhcghgaoaaDk12
import Derived.WalkKit
namespace Go.Proofs.Ytnlcjlhcghgaoaa
open Go Go.RowKit SZ
set_option linter.unusedVariables false
set_option linter.unusedSimpArgs false
set_option maxRecDepth 100000
attribute [local irreducible] post GD Nxt NxtAll
noncomputable def tb1 : Cfg := ⟨goZ 60 [0] [.code (bodyOf Try.f6)], ⟨0, [], []⟩⟩
noncomputable def tbo : Cfg := ⟨goZ 90 [0, 9] [.code (bodyOf Try.f6)], ⟨0, [], []⟩⟩
noncomputable def tbk (M : Nat) : Cfg := ⟨goZ 90 [1, 0] (.code (bodyL tbo) :: .rnd M (bodyL tbo) :: tbo.k.tail), ⟨0, [], []⟩⟩
noncomputable def tbi (M N : Nat) : Cfg := ⟨goZ 90 [1] (.code (bodyL (tbk M)) :: .rnd N (bodyL (tbk M)) :: (tbk M).k.tail), ⟨0, [], []⟩⟩
noncomputable def tboS (k a b0 : Nat) (DD : List (Int × ByteArray)) (ga ga2 : Option Addr) (gc gc2 : Nat) (d2 dC : Dk) : SS := ⟨168, [(7, .v (.bool true)), (8, .v (.int .i64 ((k + 1 : Nat) : Int))), (10, .v (.slice ga DD.length gc)), (11, .v (.bool true)), (14, .p 0 0), (15, .v (.slice ga2 b0 gc2)), (17, .p 1 0), (18, .v (.int .i64 (a : Int)))], [⟨25, d2.cs⟩, ⟨25, dC.cs⟩]⟩
noncomputable def tbkS (k a b0 q : Nat) (DD : List (Int × ByteArray)) (ga ga2 : Option Addr) (gc gc2 : Nat) (d2 dC : Dk) (s o : ByteArray) : SS := ⟨168, [(7, .v (.bool true)), (8, .v (.int .i64 ((k + 1 : Nat) : Int))), (10, .v (.slice ga DD.length gc)), (11, .v (.bool true)), (14, .p 0 0), (15, .v (.slice ga2 b0 gc2)), (17, .p 1 0), (18, .v (.int .i64 (a : Int))), (19, .v (.string s)), (21, .v (.string o)), (23, .v (.int .i64 (q : Int)))], [⟨25, d2.cs⟩, ⟨25, dC.cs⟩]⟩
noncomputable def tbiS (k a b0 q i : Nat) (DD : List (Int × ByteArray)) (ga ga2 : Option Addr) (gc gc2 : Nat) (d2 dC : Dk) (s o : ByteArray) (b : Bool) : SS := ⟨168, [(7, .v (.bool true)), (8, .v (.int .i64 ((k + 1 : Nat) : Int))), (10, .v (.slice ga DD.length gc)), (11, .v (.bool true)), (14, .p 0 0), (15, .v (.slice ga2 b0 gc2)), (17, .p 1 0), (18, .v (.int .i64 (a : Int))), (19, .v (.string s)), (21, .v (.string o)), (23, .v (.int .i64 (q : Int))), (24, .v (.bool b)), (25, .v (.int .i64 (i : Int)))], [⟨25, d2.cs⟩, ⟨25, dC.cs⟩]⟩
set_option maxHeartbeats 8000000 in
theorem ti_tt (w0 : World) (k : Nat) (hk : k < 6) (d2 dC : Dk) (h2 : d2.ok) (hC : dC.ok) (hrC : dC.right) (hs2 : d2.sl = k + 1) (hsC : dC.sl = k + 1) (htC : dC.tl = 0) (DD : List (Int × ByteArray)) (hdl : DD.length ≤ 40) (b0 : Nat) (hb0 : b0 ≤ DD.length) (hsz : ∀ a, a < k + 1 → (dC.S.getD a ByteArray.empty).size = 32 ∧ (d2.S.getD a ByteArray.empty).size = 32) (hr : ∀ i, i < DD.length → (DD.getD i (0, ByteArray.empty)).2.size = 32) (hT : ∀ a q, a < k + 1 → q < 32 → isA (dC.S.getD a ByteArray.empty) (d2.S.getD a ByteArray.empty) DD a q b0 (DD.length - b0) = true) (ga ga2 : Option Addr) (gc gc2 g : Nat) (hg : DD.length = 0 ∨ ga = some ⟨g, 0, none⟩) (M N a q i : Nat) (m : Nat) (ha : a < k + 1) (hq : q < 32) (hi : i < DD.length) (hbi : b0 ≤ i)  (ih : ∀ (b : Bool) (hb : b = isA (dC.S.getD a ByteArray.empty) (d2.S.getD a ByteArray.empty) DD a q b0 ((i + 1) - b0)) (x0 x1 : Nat) (aa : Act) (w : World) (S : Sy w0 [] [x0, x1] (tbiS k a b0 q ((i + 1)) DD ga ga2 gc gc2 d2 dC (dC.S.getD a ByteArray.empty) (d2.S.getD a ByteArray.empty) b) [rfSt d2.b d2.o d2.S, rfSt dC.b dC.o dC.S, rfWs g 0 DD, rfWs dC.c dC.p dC.W] aa w), post Try.prog (.rnd (m) (bodyL (tbi M N)) :: (tbi M N).k.tail) (bodyPost Try.prog Try.f6 fun e w' => e = .returned (.bool true) ∧ Below w0.heap.size w0 w') .normal aa w) (hb : true = isA (dC.S.getD a ByteArray.empty) (d2.S.getD a ByteArray.empty) DD a q b0 (i - b0)) (x0 x1 : Nat) (aa : Act) (w : World) (S : Sy w0 [] [x0, x1] (tbiS k a b0 q (i) DD ga ga2 gc gc2 d2 dC (dC.S.getD a ByteArray.empty) (d2.S.getD a ByteArray.empty) true) [rfSt d2.b d2.o d2.S, rfSt dC.b dC.o dC.S, rfWs g 0 DD, rfWs dC.c dC.p dC.W] aa w) : post Try.prog (.rnd (m + 1) (bodyL (tbi M N)) :: (tbi M N).k.tail) (bodyPost Try.prog Try.f6 fun e w' => e = .returned (.bool true) ∧ Below w0.heap.size w0 w') .normal aa w := by
  obtain rfl := hg.resolve_left (by omega)
  have eI : i + 1 - b0 = (i - b0) + 1 := by omega
  have eB : b0 + (i - b0) = i := by omega
  refine sy_run (c := ⟨(.rnd (m + 1) (bodyL (tbi M N)) :: (tbi M N).k.tail), tbiS k a b0 q (i) DD (some ⟨g, 0, none⟩) ga2 gc gc2 d2 dC (dC.S.getD a ByteArray.empty) (d2.S.getD a ByteArray.empty) true⟩) ⟨0, [26]⟩ 50 S fun bs aa w S => ?_
  refine sy_reg S fun S => ?_
  refine sy_ops 4 S fun bs aa w S => ?_
  refine sy_cast 126 S (congrArg Value.bool (decide_eq_true (by omega) : decide ((i : Int) < (DD.length : Int)) = true)) (by kernel_rfl) fun S => ?_
  refine sy_run ⟨0, []⟩ 60 S fun bs aa w S => ?_
  refine dr_enter [] (by kernel_rfl) (by kernel_rfl) S (by kernel_rfl) (fun aa w D => ?_)
  refine dr_end D (by kernel_rfl) fun S => ?_
  refine sy_run ⟨0, [27]⟩ 60 S fun bs aa w S => ?_
  refine sy_reg S fun S => ?_
  refine sy_ops 2 S fun bs aa w S => ?_
  refine sy_cast 128 S (congrArg (Value.int .i64) (by rw [IntKind.wrap_i64]; omega : IntKind.i64.wrap ((i : Int) + 1) = ((i + 1 : Nat) : Int))) (by kernel_rfl) fun S => ?_
  refine sy_run ⟨0, [999]⟩ 50 S fun bs aa w S => ?_
  have S2 := S.to [0, 1] (tbiS k a b0 q (i + 1) DD (some ⟨g, 0, none⟩) ga2 gc gc2 d2 dC (dC.S.getD a ByteArray.empty) (d2.S.getD a ByteArray.empty) true) (by kernel_rfl) (by kernel_rfl) (by kernel_rfl) (by kernel_rfl) (by kernel_rfl)
  refine sy_at2 (k' := (.rnd (m) (bodyL (tbi M N)) :: (tbi M N).k.tail)) (by kernel_rfl) ?_
  exact ih true (by rw [eI, isA, ← hb]; rfl) _ _ aa w S2
set_option maxHeartbeats 8000000 in
theorem ti_ne (w0 : World) (k : Nat) (hk : k < 6) (d2 dC : Dk) (h2 : d2.ok) (hC : dC.ok) (hrC : dC.right) (hs2 : d2.sl = k + 1) (hsC : dC.sl = k + 1) (htC : dC.tl = 0) (DD : List (Int × ByteArray)) (hdl : DD.length ≤ 40) (b0 : Nat) (hb0 : b0 ≤ DD.length) (hsz : ∀ a, a < k + 1 → (dC.S.getD a ByteArray.empty).size = 32 ∧ (d2.S.getD a ByteArray.empty).size = 32) (hr : ∀ i, i < DD.length → (DD.getD i (0, ByteArray.empty)).2.size = 32) (hT : ∀ a q, a < k + 1 → q < 32 → isA (dC.S.getD a ByteArray.empty) (d2.S.getD a ByteArray.empty) DD a q b0 (DD.length - b0) = true) (ga ga2 : Option Addr) (gc gc2 g : Nat) (hg : DD.length = 0 ∨ ga = some ⟨g, 0, none⟩) (M N a q i : Nat) (m : Nat) (ha : a < k + 1) (hq : q < 32) (hi : i < DD.length) (hbi : b0 ≤ i) (he : (DD.getD i (0, ByteArray.empty)).1 ≠ (a : Int)) (ih : ∀ (b : Bool) (hb : b = isA (dC.S.getD a ByteArray.empty) (d2.S.getD a ByteArray.empty) DD a q b0 ((i + 1) - b0)) (x0 x1 : Nat) (aa : Act) (w : World) (S : Sy w0 [] [x0, x1] (tbiS k a b0 q ((i + 1)) DD ga ga2 gc gc2 d2 dC (dC.S.getD a ByteArray.empty) (d2.S.getD a ByteArray.empty) b) [rfSt d2.b d2.o d2.S, rfSt dC.b dC.o dC.S, rfWs g 0 DD, rfWs dC.c dC.p dC.W] aa w), post Try.prog (.rnd (m) (bodyL (tbi M N)) :: (tbi M N).k.tail) (bodyPost Try.prog Try.f6 fun e w' => e = .returned (.bool true) ∧ Below w0.heap.size w0 w') .normal aa w) (hb : false = isA (dC.S.getD a ByteArray.empty) (d2.S.getD a ByteArray.empty) DD a q b0 (i - b0)) (x0 x1 : Nat) (aa : Act) (w : World) (S : Sy w0 [] [x0, x1] (tbiS k a b0 q (i) DD ga ga2 gc gc2 d2 dC (dC.S.getD a ByteArray.empty) (d2.S.getD a ByteArray.empty) false) [rfSt d2.b d2.o d2.S, rfSt dC.b dC.o dC.S, rfWs g 0 DD, rfWs dC.c dC.p dC.W] aa w) : post Try.prog (.rnd (m + 1) (bodyL (tbi M N)) :: (tbi M N).k.tail) (bodyPost Try.prog Try.f6 fun e w' => e = .returned (.bool true) ∧ Below w0.heap.size w0 w') .normal aa w := by
  obtain rfl := hg.resolve_left (by omega)
  have eI : i + 1 - b0 = (i - b0) + 1 := by omega
  have eB : b0 + (i - b0) = i := by omega
  refine sy_run (c := ⟨(.rnd (m + 1) (bodyL (tbi M N)) :: (tbi M N).k.tail), tbiS k a b0 q (i) DD (some ⟨g, 0, none⟩) ga2 gc gc2 d2 dC (dC.S.getD a ByteArray.empty) (d2.S.getD a ByteArray.empty) false⟩) ⟨0, [26]⟩ 50 S fun bs aa w S => ?_
  refine sy_reg S fun S => ?_
  refine sy_ops 4 S fun bs aa w S => ?_
  refine sy_cast 126 S (congrArg Value.bool (decide_eq_true (by omega) : decide ((i : Int) < (DD.length : Int)) = true)) (by kernel_rfl) fun S => ?_
  refine sy_run ⟨0, []⟩ 60 S fun bs aa w S => ?_
  letI : KP := ⟨[137]⟩
  letI : HF := ⟨[rfWs g 0 DD]⟩
  refine dr_enter [] (by kernel_rfl) (by kernel_rfl) S (by kernel_rfl) (fun aa w D => ?_) (fun f hf => by have e : f = rfWs g 0 DD := List.mem_singleton.1 hf; subst e; simp)
  refine dr_tix 4 D (by kernel_rfl) (by kernel_rfl) (by kernel_rfl) (b := g) (off := 0) (len := DD.length) (n := i) (size := 2) (ix := (i : Int)) (by kernel_rfl) rfl hi fun aa D => ?_
  refine dr_tld 6 D (by kernel_rfl) (by kernel_rfl) (by kernel_rfl) (ty := 3) (ad := ⟨g, 0 + i * 2, none⟩) (v := .int .i64 (DD.getD i (0, ByteArray.empty)).1) (fun W hW => ld_at (by kernel_rfl) ((show WasAt W g 0 DD from hW _ (List.mem_singleton.2 rfl)) i hi).1) (by kernel_rfl) fun aa D => ?_
  refine dr_ex2 (fun d v c a w h => by cases d <;> exact h) 8 (op := .binOp .eql 3 (.tmp 135) (.tmp 136) 3) (ty := 4) (v := .bool false) D (by kernel_rfl) (by kernel_rfl) (by kernel_rfl) (by kernel_rfl) (ex_eqI (ki := .i64) (p := (DD.getD i (0, ByteArray.empty)).1) (q := (a : Int)) (by kernel_rfl) (by kernel_rfl) (decide_eq_false he)) fun aa D => ?_
  refine dr_end D (by kernel_rfl) fun S => ?_
  refine sy_run ⟨0, [27]⟩ 60 S fun bs aa w S => ?_
  refine sy_reg S fun S => ?_
  refine sy_ops 2 S fun bs aa w S => ?_
  refine sy_cast 128 S (congrArg (Value.int .i64) (by rw [IntKind.wrap_i64]; omega : IntKind.i64.wrap ((i : Int) + 1) = ((i + 1 : Nat) : Int))) (by kernel_rfl) fun S => ?_
  refine sy_run ⟨0, [999]⟩ 50 S fun bs aa w S => ?_
  have S2 := S.to [0, 1] (tbiS k a b0 q (i + 1) DD (some ⟨g, 0, none⟩) ga2 gc gc2 d2 dC (dC.S.getD a ByteArray.empty) (d2.S.getD a ByteArray.empty) false) (by kernel_rfl) (by kernel_rfl) (by kernel_rfl) (by kernel_rfl) (by kernel_rfl)
  refine sy_at2 (k' := (.rnd (m) (bodyL (tbi M N)) :: (tbi M N).k.tail)) (by kernel_rfl) ?_
  exact ih false (by rw [eI, isA, ← hb, eB, decide_eq_false he]; rfl) _ _ aa w S2
set_option maxHeartbeats 8000000 in
theorem ti_eq (w0 : World) (k : Nat) (hk : k < 6) (d2 dC : Dk) (h2 : d2.ok) (hC : dC.ok) (hrC : dC.right) (hs2 : d2.sl = k + 1) (hsC : dC.sl = k + 1) (htC : dC.tl = 0) (DD : List (Int × ByteArray)) (hdl : DD.length ≤ 40) (b0 : Nat) (hb0 : b0 ≤ DD.length) (hsz : ∀ a, a < k + 1 → (dC.S.getD a ByteArray.empty).size = 32 ∧ (d2.S.getD a ByteArray.empty).size = 32) (hr : ∀ i, i < DD.length → (DD.getD i (0, ByteArray.empty)).2.size = 32) (hT : ∀ a q, a < k + 1 → q < 32 → isA (dC.S.getD a ByteArray.empty) (d2.S.getD a ByteArray.empty) DD a q b0 (DD.length - b0) = true) (ga ga2 : Option Addr) (gc gc2 g : Nat) (hg : DD.length = 0 ∨ ga = some ⟨g, 0, none⟩) (M N a q i : Nat) (m : Nat) (ha : a < k + 1) (hq : q < 32) (hi : i < DD.length) (hbi : b0 ≤ i) (he : (DD.getD i (0, ByteArray.empty)).1 = (a : Int)) (ih : ∀ (b : Bool) (hb : b = isA (dC.S.getD a ByteArray.empty) (d2.S.getD a ByteArray.empty) DD a q b0 ((i + 1) - b0)) (x0 x1 : Nat) (aa : Act) (w : World) (S : Sy w0 [] [x0, x1] (tbiS k a b0 q ((i + 1)) DD ga ga2 gc gc2 d2 dC (dC.S.getD a ByteArray.empty) (d2.S.getD a ByteArray.empty) b) [rfSt d2.b d2.o d2.S, rfSt dC.b dC.o dC.S, rfWs g 0 DD, rfWs dC.c dC.p dC.W] aa w), post Try.prog (.rnd (m) (bodyL (tbi M N)) :: (tbi M N).k.tail) (bodyPost Try.prog Try.f6 fun e w' => e = .returned (.bool true) ∧ Below w0.heap.size w0 w') .normal aa w) (hb : false = isA (dC.S.getD a ByteArray.empty) (d2.S.getD a ByteArray.empty) DD a q b0 (i - b0)) (x0 x1 : Nat) (aa : Act) (w : World) (S : Sy w0 [] [x0, x1] (tbiS k a b0 q (i) DD ga ga2 gc gc2 d2 dC (dC.S.getD a ByteArray.empty) (d2.S.getD a ByteArray.empty) false) [rfSt d2.b d2.o d2.S, rfSt dC.b dC.o dC.S, rfWs g 0 DD, rfWs dC.c dC.p dC.W] aa w) : post Try.prog (.rnd (m + 1) (bodyL (tbi M N)) :: (tbi M N).k.tail) (bodyPost Try.prog Try.f6 fun e w' => e = .returned (.bool true) ∧ Below w0.heap.size w0 w') .normal aa w := by
  obtain rfl := hg.resolve_left (by omega)
  have eI : i + 1 - b0 = (i - b0) + 1 := by omega
  have eB : b0 + (i - b0) = i := by omega
  refine sy_run (c := ⟨(.rnd (m + 1) (bodyL (tbi M N)) :: (tbi M N).k.tail), tbiS k a b0 q (i) DD (some ⟨g, 0, none⟩) ga2 gc gc2 d2 dC (dC.S.getD a ByteArray.empty) (d2.S.getD a ByteArray.empty) false⟩) ⟨0, [26]⟩ 50 S fun bs aa w S => ?_
  refine sy_reg S fun S => ?_
  refine sy_ops 4 S fun bs aa w S => ?_
  refine sy_cast 126 S (congrArg Value.bool (decide_eq_true (by omega) : decide ((i : Int) < (DD.length : Int)) = true)) (by kernel_rfl) fun S => ?_
  refine sy_run ⟨0, []⟩ 60 S fun bs aa w S => ?_
  letI : KP := ⟨[137, 141, 148]⟩
  letI : HF := ⟨[rfWs g 0 DD]⟩
  refine dr_enter [] (by kernel_rfl) (by kernel_rfl) S (by kernel_rfl) (fun aa w D => ?_) (fun f hf => by have e : f = rfWs g 0 DD := List.mem_singleton.1 hf; subst e; simp)
  refine dr_tix 4 D (by kernel_rfl) (by kernel_rfl) (by kernel_rfl) (b := g) (off := 0) (len := DD.length) (n := i) (size := 2) (ix := (i : Int)) (by kernel_rfl) rfl hi fun aa D => ?_
  refine dr_tld 6 D (by kernel_rfl) (by kernel_rfl) (by kernel_rfl) (ty := 3) (ad := ⟨g, 0 + i * 2, none⟩) (v := .int .i64 (DD.getD i (0, ByteArray.empty)).1) (fun W hW => ld_at (by kernel_rfl) ((show WasAt W g 0 DD from hW _ (List.mem_singleton.2 rfl)) i hi).1) (by kernel_rfl) fun aa D => ?_
  refine dr_ex2 (fun d v c a w h => by cases d <;> exact h) 8 (op := .binOp .eql 3 (.tmp 135) (.tmp 136) 3) (ty := 4) (v := .bool true) D (by kernel_rfl) (by kernel_rfl) (by kernel_rfl) (by kernel_rfl) (ex_eqI (ki := .i64) (p := (DD.getD i (0, ByteArray.empty)).1) (q := (a : Int)) (by kernel_rfl) (by kernel_rfl) (decide_eq_true he)) fun aa D => ?_
  refine dr_ex2 (fun d v c a w h => by cases d <;> exact h) 12 (op := .index 9 (.tmp 139) (.tmp 140)) (ty := 5) (v := .int .u8 ((byt (dC.S.getD a ByteArray.empty) q : Nat) : Int)) D (by kernel_rfl) (by kernel_rfl) (by kernel_rfl) (by kernel_rfl) (ex_ix (p := (dC.S.getD a ByteArray.empty)) (k := q) Try.underlying9 (by kernel_rfl) (by kernel_rfl) (by rw [(hsz a ha).1]; exact hq)) fun aa D => ?_
  refine dr_tix 15 D (by kernel_rfl) (by kernel_rfl) (by kernel_rfl) (b := g) (off := 0) (len := DD.length) (n := i) (size := 2) (ix := (i : Int)) (by kernel_rfl) rfl hi fun aa D => ?_
  refine dr_tld 17 D (by kernel_rfl) (by kernel_rfl) (by kernel_rfl) (ty := 9) (ad := ⟨g, 0 + i * 2 + 1, none⟩) (v := .string (DD.getD i (0, ByteArray.empty)).2) (fun W hW => ld_at (by kernel_rfl) ((show WasAt W g 0 DD from hW _ (List.mem_singleton.2 rfl)) i hi).2) (by kernel_rfl) fun aa D => ?_
  refine dr_ex2 (fun d v c a w h => by cases d <;> exact h) 19 (op := .index 9 (.tmp 146) (.tmp 147)) (ty := 5) (v := .int .u8 ((byt (DD.getD i (0, ByteArray.empty)).2 q : Nat) : Int)) D (by kernel_rfl) (by kernel_rfl) (by kernel_rfl) (by kernel_rfl) (ex_ix (p := (DD.getD i (0, ByteArray.empty)).2) (k := q) Try.underlying9 (by kernel_rfl) (by kernel_rfl) (by rw [hr i hi]; exact hq)) fun aa D => ?_
  refine dr_end D (by kernel_rfl) fun S => ?_
  refine sy_run ⟨0, [27]⟩ 60 S fun bs aa w S => ?_
  refine sy_reg S fun S => ?_
  refine sy_ops 2 S fun bs aa w S => ?_
  refine sy_cast 128 S (congrArg (Value.int .i64) (by rw [IntKind.wrap_i64]; omega : IntKind.i64.wrap ((i : Int) + 1) = ((i + 1 : Nat) : Int))) (by kernel_rfl) fun S => ?_
  refine sy_run ⟨0, [999]⟩ 50 S fun bs aa w S => ?_
  have S2 := S.to [0, 1] (tbiS k a b0 q (i + 1) DD (some ⟨g, 0, none⟩) ga2 gc gc2 d2 dC (dC.S.getD a ByteArray.empty) (d2.S.getD a ByteArray.empty) (decide (((byt (dC.S.getD a ByteArray.empty) q : Nat) : Int) = ((byt (DD.getD i (0, ByteArray.empty)).2 q : Nat) : Int)))) (by kernel_rfl) (by kernel_rfl) (by kernel_rfl) (by kernel_rfl) (by kernel_rfl)
  refine sy_at2 (k' := (.rnd (m) (bodyL (tbi M N)) :: (tbi M N).k.tail)) (by kernel_rfl) ?_
  exact ih (decide (((byt (dC.S.getD a ByteArray.empty) q : Nat) : Int) = ((byt (DD.getD i (0, ByteArray.empty)).2 q : Nat) : Int))) (by rw [eI, isA, ← hb, eB, decide_eq_true he]; simp) _ _ aa w S2
set_option maxHeartbeats 8000000 in
theorem ti_end (w0 : World) (k : Nat) (hk : k < 6) (d2 dC : Dk) (h2 : d2.ok) (hC : dC.ok) (hrC : dC.right) (hs2 : d2.sl = k + 1) (hsC : dC.sl = k + 1) (htC : dC.tl = 0) (DD : List (Int × ByteArray)) (hdl : DD.length ≤ 40) (b0 : Nat) (hb0 : b0 ≤ DD.length) (hsz : ∀ a, a < k + 1 → (dC.S.getD a ByteArray.empty).size = 32 ∧ (d2.S.getD a ByteArray.empty).size = 32) (hr : ∀ i, i < DD.length → (DD.getD i (0, ByteArray.empty)).2.size = 32) (hT : ∀ a q, a < k + 1 → q < 32 → isA (dC.S.getD a ByteArray.empty) (d2.S.getD a ByteArray.empty) DD a q b0 (DD.length - b0) = true) (ga ga2 : Option Addr) (gc gc2 g : Nat) (hg : DD.length = 0 ∨ ga = some ⟨g, 0, none⟩) (M N a q : Nat) (m : Nat) (ha : a < k + 1) (hq : q < 32) (ihK : ∀ (x0 x1 : Nat) (aa : Act) (w : World) (S : Sy w0 [] [x0, x1] (tbkS k (a) b0 (q + 1) DD ga ga2 gc gc2 d2 dC (dC.S.getD (a) ByteArray.empty) (d2.S.getD (a) ByteArray.empty)) [rfSt d2.b d2.o d2.S, rfSt dC.b dC.o dC.S, rfWs g 0 DD, rfWs dC.c dC.p dC.W] aa w), post Try.prog (.rnd (N) (bodyL (tbk M)) :: (tbk M).k.tail) (bodyPost Try.prog Try.f6 fun e w' => e = .returned (.bool true) ∧ Below w0.heap.size w0 w') .normal aa w) (b : Bool) (hb : b = isA (dC.S.getD a ByteArray.empty) (d2.S.getD a ByteArray.empty) DD a q b0 (DD.length - b0)) (x0 x1 : Nat) (aa : Act) (w : World) (S : Sy w0 [] [x0, x1] (tbiS k a b0 q (DD.length) DD ga ga2 gc gc2 d2 dC (dC.S.getD a ByteArray.empty) (d2.S.getD a ByteArray.empty) b) [rfSt d2.b d2.o d2.S, rfSt dC.b dC.o dC.S, rfWs g 0 DD, rfWs dC.c dC.p dC.W] aa w) : post Try.prog (.rnd (m + 1) (bodyL (tbi M N)) :: (tbi M N).k.tail) (bodyPost Try.prog Try.f6 fun e w' => e = .returned (.bool true) ∧ Below w0.heap.size w0 w') .normal aa w := by
  obtain rfl : b = true := hb.trans (hT a q ha hq)
  refine sy_run (c := ⟨(.rnd (m + 1) (bodyL (tbi M N)) :: (tbi M N).k.tail), tbiS k a b0 q (DD.length) DD ga ga2 gc gc2 d2 dC (dC.S.getD a ByteArray.empty) (d2.S.getD a ByteArray.empty) true⟩) ⟨0, [26]⟩ 50 S fun bs aa w S => ?_
  refine sy_reg S fun S => ?_
  refine sy_ops 4 S fun bs aa w S => ?_
  refine sy_cast 126 S (congrArg Value.bool (decide_eq_false (by omega) : decide ((DD.length : Int) < (DD.length : Int)) = false)) (by kernel_rfl) fun S => ?_
  refine sy_run ⟨0, [23]⟩ 60 S fun bs aa w S => ?_
  refine sy_reg S fun S => ?_
  refine sy_ops 2 S fun bs aa w S => ?_
  refine sy_cast 113 S (congrArg (Value.int .i64) (by rw [IntKind.wrap_i64]; omega : IntKind.i64.wrap ((q : Int) + 1) = ((q + 1 : Nat) : Int))) (by kernel_rfl) fun S => ?_
  refine sy_run ⟨0, [999]⟩ 50 S fun bs aa w S => ?_
  have S2 := S.to [0, 1] (tbkS k (a) b0 (q + 1) DD ga ga2 gc gc2 d2 dC (dC.S.getD (a) ByteArray.empty) (d2.S.getD (a) ByteArray.empty)) (by kernel_rfl) (by kernel_rfl) (by kernel_rfl) (by kernel_rfl) (by kernel_rfl)
  refine sy_at2 (k' := (.rnd (N) (bodyL (tbk M)) :: (tbk M).k.tail)) (by kernel_rfl) ?_
  exact ihK _ _ aa w S2
theorem ti_all (w0 : World) (k : Nat) (hk : k < 6) (d2 dC : Dk) (h2 : d2.ok) (hC : dC.ok) (hrC : dC.right) (hs2 : d2.sl = k + 1) (hsC : dC.sl = k + 1) (htC : dC.tl = 0) (DD : List (Int × ByteArray)) (hdl : DD.length ≤ 40) (b0 : Nat) (hb0 : b0 ≤ DD.length) (hsz : ∀ a, a < k + 1 → (dC.S.getD a ByteArray.empty).size = 32 ∧ (d2.S.getD a ByteArray.empty).size = 32) (hr : ∀ i, i < DD.length → (DD.getD i (0, ByteArray.empty)).2.size = 32) (hT : ∀ a q, a < k + 1 → q < 32 → isA (dC.S.getD a ByteArray.empty) (d2.S.getD a ByteArray.empty) DD a q b0 (DD.length - b0) = true) (ga ga2 : Option Addr) (gc gc2 g : Nat) (hg : DD.length = 0 ∨ ga = some ⟨g, 0, none⟩) (M N a q : Nat) (ha : a < k + 1) (hq : q < 32) (ihK : ∀ (x0 x1 : Nat) (aa : Act) (w : World) (S : Sy w0 [] [x0, x1] (tbkS k (a) b0 (q + 1) DD ga ga2 gc gc2 d2 dC (dC.S.getD (a) ByteArray.empty) (d2.S.getD (a) ByteArray.empty)) [rfSt d2.b d2.o d2.S, rfSt dC.b dC.o dC.S, rfWs g 0 DD, rfWs dC.c dC.p dC.W] aa w), post Try.prog (.rnd (N) (bodyL (tbk M)) :: (tbk M).k.tail) (bodyPost Try.prog Try.f6 fun e w' => e = .returned (.bool true) ∧ Below w0.heap.size w0 w') .normal aa w) : ∀ (r i : Nat), i + r = DD.length → b0 ≤ i → ∀ (b : Bool) (hb : b = isA (dC.S.getD a ByteArray.empty) (d2.S.getD a ByteArray.empty) DD a q b0 (i - b0)) (x0 x1 : Nat) (aa : Act) (w : World) (S : Sy w0 [] [x0, x1] (tbiS k a b0 q (i) DD ga ga2 gc gc2 d2 dC (dC.S.getD a ByteArray.empty) (d2.S.getD a ByteArray.empty) b) [rfSt d2.b d2.o d2.S, rfSt dC.b dC.o dC.S, rfWs g 0 DD, rfWs dC.c dC.p dC.W] aa w), post Try.prog (.rnd (r + 1) (bodyL (tbi M N)) :: (tbi M N).k.tail) (bodyPost Try.prog Try.f6 fun e w' => e = .returned (.bool true) ∧ Below w0.heap.size w0 w') .normal aa w := by
  intro r
  induction r with
  | zero => intro i hi hbi b hb x0 x1 aa w S; obtain rfl : i = DD.length := by omega
            exact ti_end w0 k hk d2 dC h2 hC hrC hs2 hsC htC DD hdl b0 hb0 hsz hr hT ga ga2 gc gc2 g hg M N a q 0 ha hq ihK b hb x0 x1 aa w S
  | succ r ih =>
    intro i hi hbi b hb x0 x1 aa w S
    cases b with
    | true => exact ti_tt w0 k hk d2 dC h2 hC hrC hs2 hsC htC DD hdl b0 hb0 hsz hr hT ga ga2 gc gc2 g hg M N a q i (r + 1) ha hq (by omega) hbi (ih (i + 1) (by omega) (by omega)) hb x0 x1 aa w S
    | false =>
      by_cases he : (DD.getD i (0, ByteArray.empty)).1 = (a : Int)
      · exact ti_eq w0 k hk d2 dC h2 hC hrC hs2 hsC htC DD hdl b0 hb0 hsz hr hT ga ga2 gc gc2 g hg M N a q i (r + 1) ha hq (by omega) hbi he (ih (i + 1) (by omega) (by omega)) hb x0 x1 aa w S
      · exact ti_ne w0 k hk d2 dC h2 hC hrC hs2 hsC htC DD hdl b0 hb0 hsz hr hT ga ga2 gc gc2 g hg M N a q i (r + 1) ha hq (by omega) hbi he (ih (i + 1) (by omega) (by omega)) hb x0 x1 aa w S
set_option maxHeartbeats 8000000 in
theorem tk_step (w0 : World) (k : Nat) (hk : k < 6) (d2 dC : Dk) (h2 : d2.ok) (hC : dC.ok) (hrC : dC.right) (hs2 : d2.sl = k + 1) (hsC : dC.sl = k + 1) (htC : dC.tl = 0) (DD : List (Int × ByteArray)) (hdl : DD.length ≤ 40) (b0 : Nat) (hb0 : b0 ≤ DD.length) (hsz : ∀ a, a < k + 1 → (dC.S.getD a ByteArray.empty).size = 32 ∧ (d2.S.getD a ByteArray.empty).size = 32) (hr : ∀ i, i < DD.length → (DD.getD i (0, ByteArray.empty)).2.size = 32) (hT : ∀ a q, a < k + 1 → q < 32 → isA (dC.S.getD a ByteArray.empty) (d2.S.getD a ByteArray.empty) DD a q b0 (DD.length - b0) = true) (ga ga2 : Option Addr) (gc gc2 g : Nat) (hg : DD.length = 0 ∨ ga = some ⟨g, 0, none⟩) (M N a q : Nat) (ha : a < k + 1) (hq : q < 32) (ihK : ∀ (x0 x1 : Nat) (aa : Act) (w : World) (S : Sy w0 [] [x0, x1] (tbkS k (a) b0 (q + 1) DD ga ga2 gc gc2 d2 dC (dC.S.getD (a) ByteArray.empty) (d2.S.getD (a) ByteArray.empty)) [rfSt d2.b d2.o d2.S, rfSt dC.b dC.o dC.S, rfWs g 0 DD, rfWs dC.c dC.p dC.W] aa w), post Try.prog (.rnd (N) (bodyL (tbk M)) :: (tbk M).k.tail) (bodyPost Try.prog Try.f6 fun e w' => e = .returned (.bool true) ∧ Below w0.heap.size w0 w') .normal aa w) (x0 x1 : Nat) (aa : Act) (w : World) (S : Sy w0 [] [x0, x1] (tbkS k (a) b0 (q) DD ga ga2 gc gc2 d2 dC (dC.S.getD (a) ByteArray.empty) (d2.S.getD (a) ByteArray.empty)) [rfSt d2.b d2.o d2.S, rfSt dC.b dC.o dC.S, rfWs g 0 DD, rfWs dC.c dC.p dC.W] aa w) : post Try.prog (.rnd (N + 1) (bodyL (tbk M)) :: (tbk M).k.tail) (bodyPost Try.prog Try.f6 fun e w' => e = .returned (.bool true) ∧ Below w0.heap.size w0 w') .normal aa w := by
  refine sy_run (c := ⟨(.rnd (N + 1) (bodyL (tbk M)) :: (tbk M).k.tail), tbkS k (a) b0 (q) DD ga ga2 gc gc2 d2 dC (dC.S.getD (a) ByteArray.empty) (d2.S.getD (a) ByteArray.empty)⟩) ⟨0, [22]⟩ 50 S fun bs aa w S => ?_
  refine sy_reg S fun S => ?_
  refine sy_ops 4 S fun bs aa w S => ?_
  refine sy_cast 111 S (congrArg Value.bool (decide_eq_true (by rw [(hsz a ha).1]; omega) : decide ((q : Int) < ((dC.S.getD a ByteArray.empty).size : Int)) = true)) (by kernel_rfl) fun S => ?_
  refine sy_run ⟨0, []⟩ 60 S fun bs aa w S => ?_
  letI : KP := ⟨[116, 119]⟩
  refine dr_enter [] (by kernel_rfl) (by kernel_rfl) S (by kernel_rfl) (fun aa w D => ?_)
  refine dr_ex2 (fun d v c a w h => by cases d <;> exact h) 2 (op := .index 9 (.tmp 114) (.tmp 115)) (ty := 5) (v := .int .u8 ((byt (dC.S.getD a ByteArray.empty) q : Nat) : Int)) D (by kernel_rfl) (by kernel_rfl) (by kernel_rfl) (by kernel_rfl) (ex_ix (p := (dC.S.getD a ByteArray.empty)) (k := q) Try.underlying9 (by kernel_rfl) (by kernel_rfl) (by rw [(hsz a ha).1]; exact hq)) fun aa D => ?_
  refine dr_ex2 (fun d v c a w h => by cases d <;> exact h) 5 (op := .index 9 (.tmp 117) (.tmp 118)) (ty := 5) (v := .int .u8 ((byt (d2.S.getD a ByteArray.empty) q : Nat) : Int)) D (by kernel_rfl) (by kernel_rfl) (by kernel_rfl) (by kernel_rfl) (ex_ix (p := (d2.S.getD a ByteArray.empty)) (k := q) Try.underlying9 (by kernel_rfl) (by kernel_rfl) (by rw [(hsz a ha).2]; exact hq)) fun aa D => ?_
  refine dr_end D (by kernel_rfl) fun S => ?_
  refine sy_run ⟨0, []⟩ 60 S fun bs aa w S => ?_
  have S2 := S.to [0, 1] (tbiS k a b0 q (b0) DD ga ga2 gc gc2 d2 dC (dC.S.getD a ByteArray.empty) (d2.S.getD a ByteArray.empty) (decide (((byt (dC.S.getD a ByteArray.empty) q : Nat) : Int) = ((byt (d2.S.getD a ByteArray.empty) q : Nat) : Int)))) (by kernel_rfl) (by kernel_rfl) (by kernel_rfl) (by kernel_rfl) (by kernel_rfl)
  refine sy_loop (DD.length - b0 + 1) (by kernel_rfl) ?_
  refine sy_at2 (k' := (.rnd (DD.length - b0 + 1) (bodyL (tbi M N)) :: (tbi M N).k.tail)) (by kernel_rfl) ?_
  exact ti_all w0 k hk d2 dC h2 hC hrC hs2 hsC htC DD hdl b0 hb0 hsz hr hT ga ga2 gc gc2 g hg M N a q ha hq ihK (DD.length - b0) b0 (by omega) (Nat.le_refl _) _ (by rw [Nat.sub_self]; rfl) _ _ aa w S2
set_option maxHeartbeats 8000000 in
theorem tk_end (w0 : World) (k : Nat) (hk : k < 6) (d2 dC : Dk) (h2 : d2.ok) (hC : dC.ok) (hrC : dC.right) (hs2 : d2.sl = k + 1) (hsC : dC.sl = k + 1) (htC : dC.tl = 0) (DD : List (Int × ByteArray)) (hdl : DD.length ≤ 40) (b0 : Nat) (hb0 : b0 ≤ DD.length) (hsz : ∀ a, a < k + 1 → (dC.S.getD a ByteArray.empty).size = 32 ∧ (d2.S.getD a ByteArray.empty).size = 32) (hr : ∀ i, i < DD.length → (DD.getD i (0, ByteArray.empty)).2.size = 32) (hT : ∀ a q, a < k + 1 → q < 32 → isA (dC.S.getD a ByteArray.empty) (d2.S.getD a ByteArray.empty) DD a q b0 (DD.length - b0) = true) (ga ga2 : Option Addr) (gc gc2 g : Nat) (hg : DD.length = 0 ∨ ga = some ⟨g, 0, none⟩) (M N a : Nat) (ha : a < k + 1) (ihO : ∀ (x0 x1 : Nat) (aa : Act) (w : World) (S : Sy w0 [] [x0, x1] (tboS k (a + 1) b0 DD ga ga2 gc gc2 d2 dC) [rfSt d2.b d2.o d2.S, rfSt dC.b dC.o dC.S, rfWs g 0 DD, rfWs dC.c dC.p dC.W] aa w), post Try.prog (.rnd (M) (bodyL tbo) :: tbo.k.tail) (bodyPost Try.prog Try.f6 fun e w' => e = .returned (.bool true) ∧ Below w0.heap.size w0 w') .normal aa w) (x0 x1 : Nat) (aa : Act) (w : World) (S : Sy w0 [] [x0, x1] (tbkS k (a) b0 (32) DD ga ga2 gc gc2 d2 dC (dC.S.getD (a) ByteArray.empty) (d2.S.getD (a) ByteArray.empty)) [rfSt d2.b d2.o d2.S, rfSt dC.b dC.o dC.S, rfWs g 0 DD, rfWs dC.c dC.p dC.W] aa w) : post Try.prog (.rnd (N + 1) (bodyL (tbk M)) :: (tbk M).k.tail) (bodyPost Try.prog Try.f6 fun e w' => e = .returned (.bool true) ∧ Below w0.heap.size w0 w') .normal aa w := by
  refine sy_run (c := ⟨(.rnd (N + 1) (bodyL (tbk M)) :: (tbk M).k.tail), tbkS k (a) b0 (32) DD ga ga2 gc gc2 d2 dC (dC.S.getD (a) ByteArray.empty) (d2.S.getD (a) ByteArray.empty)⟩) ⟨0, [22]⟩ 50 S fun bs aa w S => ?_
  refine sy_reg S fun S => ?_
  refine sy_ops 4 S fun bs aa w S => ?_
  refine sy_cast 111 S (congrArg Value.bool (decide_eq_false (by rw [(hsz a ha).1]; omega) : decide (((32 : Nat) : Int) < ((dC.S.getD a ByteArray.empty).size : Int)) = false)) (by kernel_rfl) fun S => ?_
  refine sy_run ⟨0, [16]⟩ 60 S fun bs aa w S => ?_
  refine sy_reg S fun S => ?_
  refine sy_ops 2 S fun bs aa w S => ?_
  refine sy_cast 79 S (congrArg (Value.int .i64) (by rw [IntKind.wrap_i64]; omega : IntKind.i64.wrap ((a : Int) + 1) = ((a + 1 : Nat) : Int))) (by kernel_rfl) fun S => ?_
  refine sy_run ⟨0, [999]⟩ 50 S fun bs aa w S => ?_
  have S2 := S.to [0, 1] (tboS k (a + 1) b0 DD ga ga2 gc gc2 d2 dC) (by kernel_rfl) (by kernel_rfl) (by kernel_rfl) (by kernel_rfl) (by kernel_rfl)
  refine sy_at2 (k' := (.rnd (M) (bodyL tbo) :: tbo.k.tail)) (by kernel_rfl) ?_
  exact ihO _ _ aa w S2
theorem tk_all (w0 : World) (k : Nat) (hk : k < 6) (d2 dC : Dk) (h2 : d2.ok) (hC : dC.ok) (hrC : dC.right) (hs2 : d2.sl = k + 1) (hsC : dC.sl = k + 1) (htC : dC.tl = 0) (DD : List (Int × ByteArray)) (hdl : DD.length ≤ 40) (b0 : Nat) (hb0 : b0 ≤ DD.length) (hsz : ∀ a, a < k + 1 → (dC.S.getD a ByteArray.empty).size = 32 ∧ (d2.S.getD a ByteArray.empty).size = 32) (hr : ∀ i, i < DD.length → (DD.getD i (0, ByteArray.empty)).2.size = 32) (hT : ∀ a q, a < k + 1 → q < 32 → isA (dC.S.getD a ByteArray.empty) (d2.S.getD a ByteArray.empty) DD a q b0 (DD.length - b0) = true) (ga ga2 : Option Addr) (gc gc2 g : Nat) (hg : DD.length = 0 ∨ ga = some ⟨g, 0, none⟩) (M a : Nat) (ha : a < k + 1) (ihO : ∀ (x0 x1 : Nat) (aa : Act) (w : World) (S : Sy w0 [] [x0, x1] (tboS k (a + 1) b0 DD ga ga2 gc gc2 d2 dC) [rfSt d2.b d2.o d2.S, rfSt dC.b dC.o dC.S, rfWs g 0 DD, rfWs dC.c dC.p dC.W] aa w), post Try.prog (.rnd (M) (bodyL tbo) :: tbo.k.tail) (bodyPost Try.prog Try.f6 fun e w' => e = .returned (.bool true) ∧ Below w0.heap.size w0 w') .normal aa w) : ∀ (r q : Nat), q + r = 32 → ∀ (x0 x1 : Nat) (aa : Act) (w : World) (S : Sy w0 [] [x0, x1] (tbkS k (a) b0 (q) DD ga ga2 gc gc2 d2 dC (dC.S.getD (a) ByteArray.empty) (d2.S.getD (a) ByteArray.empty)) [rfSt d2.b d2.o d2.S, rfSt dC.b dC.o dC.S, rfWs g 0 DD, rfWs dC.c dC.p dC.W] aa w), post Try.prog (.rnd (r + 1) (bodyL (tbk M)) :: (tbk M).k.tail) (bodyPost Try.prog Try.f6 fun e w' => e = .returned (.bool true) ∧ Below w0.heap.size w0 w') .normal aa w := by
  intro r
  induction r with
  | zero => intro q hq x0 x1 aa w S; obtain rfl : q = 32 := by omega
            exact tk_end w0 k hk d2 dC h2 hC hrC hs2 hsC htC DD hdl b0 hb0 hsz hr hT ga ga2 gc gc2 g hg M 0 a ha ihO x0 x1 aa w S
  | succ r ih => intro q hq x0 x1 aa w S; exact tk_step w0 k hk d2 dC h2 hC hrC hs2 hsC htC DD hdl b0 hb0 hsz hr hT ga ga2 gc gc2 g hg M (r + 1) a q ha (by omega) (ih (q + 1) (by omega)) x0 x1 aa w S
set_option maxHeartbeats 8000000 in
theorem to_step (w0 : World) (k : Nat) (hk : k < 6) (d2 dC : Dk) (h2 : d2.ok) (hC : dC.ok) (hrC : dC.right) (hs2 : d2.sl = k + 1) (hsC : dC.sl = k + 1) (htC : dC.tl = 0) (DD : List (Int × ByteArray)) (hdl : DD.length ≤ 40) (b0 : Nat) (hb0 : b0 ≤ DD.length) (hsz : ∀ a, a < k + 1 → (dC.S.getD a ByteArray.empty).size = 32 ∧ (d2.S.getD a ByteArray.empty).size = 32) (hr : ∀ i, i < DD.length → (DD.getD i (0, ByteArray.empty)).2.size = 32) (hT : ∀ a q, a < k + 1 → q < 32 → isA (dC.S.getD a ByteArray.empty) (d2.S.getD a ByteArray.empty) DD a q b0 (DD.length - b0) = true) (ga ga2 : Option Addr) (gc gc2 g : Nat) (hg : DD.length = 0 ∨ ga = some ⟨g, 0, none⟩) (M a : Nat) (ha : a < k + 1) (ihO : ∀ (x0 x1 : Nat) (aa : Act) (w : World) (S : Sy w0 [] [x0, x1] (tboS k (a + 1) b0 DD ga ga2 gc gc2 d2 dC) [rfSt d2.b d2.o d2.S, rfSt dC.b dC.o dC.S, rfWs g 0 DD, rfWs dC.c dC.p dC.W] aa w), post Try.prog (.rnd (M) (bodyL tbo) :: tbo.k.tail) (bodyPost Try.prog Try.f6 fun e w' => e = .returned (.bool true) ∧ Below w0.heap.size w0 w') .normal aa w) (x0 x1 : Nat) (aa : Act) (w : World) (S : Sy w0 [] [x0, x1] (tboS k (a) b0 DD ga ga2 gc gc2 d2 dC) [rfSt d2.b d2.o d2.S, rfSt dC.b dC.o dC.S, rfWs g 0 DD, rfWs dC.c dC.p dC.W] aa w) : post Try.prog (.rnd (M + 1) (bodyL tbo) :: tbo.k.tail) (bodyPost Try.prog Try.f6 fun e w' => e = .returned (.bool true) ∧ Below w0.heap.size w0 w') .normal aa w := by
  refine sy_run (c := ⟨(.rnd (M + 1) (bodyL tbo) :: tbo.k.tail), tboS k (a) b0 DD ga ga2 gc gc2 d2 dC⟩) ⟨0, [15]⟩ 50 S fun bs aa w S => ?_
  refine sy_reg S fun S => ?_
  refine sy_ops 3 S fun bs aa w S => ?_
  refine sy_cast 74 S (congrArg Value.bool (decide_eq_true (by omega) : decide ((a : Int) < ((k + 1 : Nat) : Int)) = true)) (by kernel_rfl) fun S => ?_
  refine sy_run ⟨0, [17]⟩ 60 S fun bs aa w S => ?_
  refine sy_reg S fun S => ?_
  refine sy_ops 2 S fun bs aa w S => ?_
  refine sy_call1 S (read_t dC hC a (by omega) w (S.fact (f := rfSt dC.b dC.o dC.S) (by simp))) (by kernel_rfl) fun aa w hb S => ?_
  refine sy_run ⟨0, [18]⟩ 60 S fun bs aa w S => ?_
  refine sy_reg S fun S => ?_
  refine sy_ops 2 S fun bs aa w S => ?_
  refine sy_call1 S (read_t d2 h2 a (by omega) w (S.fact (f := rfSt d2.b d2.o d2.S) (by simp))) (by kernel_rfl) fun aa w hb S => ?_
  refine sy_run ⟨0, [19]⟩ 60 S fun bs aa w S => ?_
  refine sy_reg S fun S => ?_
  refine sy_ops 10 S fun bs aa w S => ?_
  refine sy_cast 101 S (congrArg Value.bool (by rw [(hsz a ha).1]; rfl : (!decide (((dC.S.getD a ByteArray.empty).size : Int) = 32)) = false)) (by kernel_rfl) fun S => ?_
  refine sy_ops 5 S fun bs aa w S => ?_
  refine sy_cast 106 S (congrArg Value.bool (by rw [(hsz a ha).2]; rfl : (!decide (((d2.S.getD a ByteArray.empty).size : Int) = 32)) = false)) (by kernel_rfl) fun S => ?_
  refine sy_run ⟨0, []⟩ 60 S fun bs aa w S => ?_
  have S2 := S.to [0, 1] (tbkS k (a) b0 (0) DD ga ga2 gc gc2 d2 dC (dC.S.getD (a) ByteArray.empty) (d2.S.getD (a) ByteArray.empty)) (by kernel_rfl) (by kernel_rfl) (by kernel_rfl) (by kernel_rfl) (by kernel_rfl)
  refine sy_loop 33 (by kernel_rfl) ?_
  refine sy_at2 (k' := (.rnd (33) (bodyL (tbk M)) :: (tbk M).k.tail)) (by kernel_rfl) ?_
  exact tk_all w0 k hk d2 dC h2 hC hrC hs2 hsC htC DD hdl b0 hb0 hsz hr hT ga ga2 gc gc2 g hg M a ha ihO 32 0 (by omega) _ _ aa w S2
set_option maxHeartbeats 8000000 in
theorem to_end (w0 : World) (k : Nat) (hk : k < 6) (d2 dC : Dk) (h2 : d2.ok) (hC : dC.ok) (hrC : dC.right) (hs2 : d2.sl = k + 1) (hsC : dC.sl = k + 1) (htC : dC.tl = 0) (DD : List (Int × ByteArray)) (hdl : DD.length ≤ 40) (b0 : Nat) (hb0 : b0 ≤ DD.length) (hsz : ∀ a, a < k + 1 → (dC.S.getD a ByteArray.empty).size = 32 ∧ (d2.S.getD a ByteArray.empty).size = 32) (hr : ∀ i, i < DD.length → (DD.getD i (0, ByteArray.empty)).2.size = 32) (hT : ∀ a q, a < k + 1 → q < 32 → isA (dC.S.getD a ByteArray.empty) (d2.S.getD a ByteArray.empty) DD a q b0 (DD.length - b0) = true) (ga ga2 : Option Addr) (gc gc2 g : Nat) (hg : DD.length = 0 ∨ ga = some ⟨g, 0, none⟩) (M : Nat) (x0 x1 : Nat) (aa : Act) (w : World) (S : Sy w0 [] [x0, x1] (tboS k (k + 1) b0 DD ga ga2 gc gc2 d2 dC) [rfSt d2.b d2.o d2.S, rfSt dC.b dC.o dC.S, rfWs g 0 DD, rfWs dC.c dC.p dC.W] aa w) : post Try.prog (.rnd (M + 1) (bodyL tbo) :: tbo.k.tail) (bodyPost Try.prog Try.f6 fun e w' => e = .returned (.bool true) ∧ Below w0.heap.size w0 w') .normal aa w := by
  refine sy_run (c := ⟨(.rnd (M + 1) (bodyL tbo) :: tbo.k.tail), tboS k (k + 1) b0 DD ga ga2 gc gc2 d2 dC⟩) ⟨0, [15]⟩ 50 S fun bs aa w S => ?_
  refine sy_reg S fun S => ?_
  refine sy_ops 3 S fun bs aa w S => ?_
  refine sy_cast 74 S (congrArg Value.bool (decide_eq_false (by omega) : decide (((k + 1 : Nat) : Int) < ((k + 1 : Nat) : Int)) = false)) (by kernel_rfl) fun S => ?_
  refine sy_run ⟨0, [31]⟩ 60 S fun bs aa w S => ?_
  refine sy_reg S fun S => ?_
  refine sy_ops 6 S fun bs aa w S => ?_
  refine sy_call1 S (right_t w dC hC hrC (S.fact (f := rfSt dC.b dC.o dC.S) (by simp)) (S.fact (f := rfWs dC.c dC.p dC.W) (by simp))) (by kernel_rfl) fun aa w hb S => ?_
  refine sy_ops 6 S fun bs aa w S => ?_
  refine sy_cast 166 S (congrArg Value.bool (by rw [htC]; rfl : decide ((dC.tl : Int) = 0) = true)) (by kernel_rfl) fun S => ?_
  refine sy_run ⟨0, []⟩ 60 S fun bs aa w S => ?_
  exact sy_ret S (by kernel_rfl) (by kernel_rfl) fun hg => ⟨rfl, bel_gr hg⟩
theorem to_all (w0 : World) (k : Nat) (hk : k < 6) (d2 dC : Dk) (h2 : d2.ok) (hC : dC.ok) (hrC : dC.right) (hs2 : d2.sl = k + 1) (hsC : dC.sl = k + 1) (htC : dC.tl = 0) (DD : List (Int × ByteArray)) (hdl : DD.length ≤ 40) (b0 : Nat) (hb0 : b0 ≤ DD.length) (hsz : ∀ a, a < k + 1 → (dC.S.getD a ByteArray.empty).size = 32 ∧ (d2.S.getD a ByteArray.empty).size = 32) (hr : ∀ i, i < DD.length → (DD.getD i (0, ByteArray.empty)).2.size = 32) (hT : ∀ a q, a < k + 1 → q < 32 → isA (dC.S.getD a ByteArray.empty) (d2.S.getD a ByteArray.empty) DD a q b0 (DD.length - b0) = true) (ga ga2 : Option Addr) (gc gc2 g : Nat) (hg : DD.length = 0 ∨ ga = some ⟨g, 0, none⟩) : ∀ (r a : Nat), a + r = k + 1 → ∀ (x0 x1 : Nat) (aa : Act) (w : World) (S : Sy w0 [] [x0, x1] (tboS k (a) b0 DD ga ga2 gc gc2 d2 dC) [rfSt d2.b d2.o d2.S, rfSt dC.b dC.o dC.S, rfWs g 0 DD, rfWs dC.c dC.p dC.W] aa w), post Try.prog (.rnd (r + 1) (bodyL tbo) :: tbo.k.tail) (bodyPost Try.prog Try.f6 fun e w' => e = .returned (.bool true) ∧ Below w0.heap.size w0 w') .normal aa w := by
  intro r
  induction r with
  | zero => intro a hi x0 x1 aa w S; obtain rfl : a = k + 1 := by omega
            exact to_end w0 k hk d2 dC h2 hC hrC hs2 hsC htC DD hdl b0 hb0 hsz hr hT ga ga2 gc gc2 g hg 0 x0 x1 aa w S
  | succ r ih => intro a hi x0 x1 aa w S; exact to_step w0 k hk d2 dC h2 hC hrC hs2 hsC htC DD hdl b0 hb0 hsz hr hT ga ga2 gc gc2 g hg (r + 1) a (by omega) (ih (a + 1) (by omega)) x0 x1 aa w S
end Go.Proofs.Ytnlcjlhcghgaoaa
