
/-
  Layer 18: one bit set or cleared, thread 0.
-/
import Derived.Test.YtdfngmplfgifiaaRows
import Derived.Test.YtdfngmplfgifiaaBase
import Derived.Test.YtdfngmplfgifiaaAux
import Derived.Test.YtdfngmplfgifiaaWord2
import Derived.Test.YtdfngmplfgifiaaWord3
import Derived.Test.YtdfngmplfgifiaaEv
import Derived.Test.YtdfngmplfgifiaaVu0
import Derived.Test.YtdfngmplfgifiaaVal0
namespace Go.Proofs.Ytdfngmplfgifiaa
open Go Go.RowKit EX
set_option maxRecDepth 100000
set_option linter.unusedVariables false
theorem al_00c (w : World) (m a b : Int) (hm : I64 m) (ha : Int.tmod (IntKind.i64.wrap a) 4 = (0 : Nat)) (hb : IntKind.i64.wrap (1 + Int.tmod (IntKind.i64.wrap b) 4) = (1 : Nat)) (h0 : isIn m (0 : Nat) = false) : Calls Try.prog 5 #[.int .i64 m, .int .u8 a, .int .u8 b] w fun e w' => e = .returned (.bool true) ∧ Below w.heap.size w w' :=
  ex_val kn18_ok 100000 (argA m a b) (orcC 5 0 1) (csC m (withT m (0 : Nat)) 0 1 true a b) (by kernel_rfl) (argA_den _ _ _ _) (argA_bd _ _ _ _) (put_ok hm (by omega) h0 ha hb)
theorem al_00n (w : World) (m a b : Int) (hm : I64 m) (ha : Int.tmod (IntKind.i64.wrap a) 4 = (0 : Nat)) (hb : IntKind.i64.wrap (1 + Int.tmod (IntKind.i64.wrap b) 4) = (1 : Nat)) (h0 : isIn m (0 : Nat) = true) : Calls Try.prog 5 #[.int .i64 m, .int .u8 a, .int .u8 b] w fun e w' => e = .returned (.bool true) ∧ Below w.heap.size w w' := by
  refine (ex_run kn18_ok 100000 (x := .y (.bool (m == m))) (argA m a b) (orcN 5 0 1) (csN m (withT m (0 : Nat)) 0 1 true a b) (by kernel_rfl) (argA_den _ _ _ _) (argA_bd _ _ _ _) (put_no hm h0 ha hb)).mono ?_
  rintro e w' ⟨B, h3, h4⟩
  refine ⟨?_, h4⟩
  rw [h3]
  simp only [den, beq_self_eq_true]
theorem al_01c (w : World) (m a b : Int) (hm : I64 m) (ha : Int.tmod (IntKind.i64.wrap a) 4 = (0 : Nat)) (hb : IntKind.i64.wrap (1 + Int.tmod (IntKind.i64.wrap b) 4) = (2 : Nat)) (h0 : isIn m (0 : Nat) = true) : Calls Try.prog 5 #[.int .i64 m, .int .u8 a, .int .u8 b] w fun e w' => e = .returned (.bool true) ∧ Below w.heap.size w w' :=
  ex_val kn18_ok 100000 (argA m a b) (orcC 5 0 2) (csC m (sansT m (0 : Nat)) 0 2 false a b) (by kernel_rfl) (argA_den _ _ _ _) (argA_bd _ _ _ _) (clr_ok hm (by omega) h0 ha hb)
theorem al_01n (w : World) (m a b : Int) (hm : I64 m) (ha : Int.tmod (IntKind.i64.wrap a) 4 = (0 : Nat)) (hb : IntKind.i64.wrap (1 + Int.tmod (IntKind.i64.wrap b) 4) = (2 : Nat)) (h0 : isIn m (0 : Nat) = false) : Calls Try.prog 5 #[.int .i64 m, .int .u8 a, .int .u8 b] w fun e w' => e = .returned (.bool true) ∧ Below w.heap.size w w' := by
  refine (ex_run kn18_ok 100000 (x := .y (.bool (m == m))) (argA m a b) (orcN 5 0 2) (csN m (sansT m (0 : Nat)) 0 2 false a b) (by kernel_rfl) (argA_den _ _ _ _) (argA_bd _ _ _ _) (clr_no hm h0 ha hb)).mono ?_
  rintro e w' ⟨B, h3, h4⟩
  refine ⟨?_, h4⟩
  rw [h3]
  simp only [den, beq_self_eq_true]
end Go.Proofs.Ytdfngmplfgifiaa
