
/-
  Layer 15: equality of layouts and of configurations.
-/
import Derived.Test.YtmjfnlangebhlaaRows
import Derived.Test.YtmjfnlangebhlaaBase
import Derived.Test.YtmjfnlangebhlaaLayA
namespace Go.Proofs.Ytmjfnlangebhlaa
set_option maxRecDepth 20000
open Go.ChangeShapes Go.WideShapes Go.ChangeAt Go.RowKit

theorem conf_struct : Try.prog.underlying 39 = some (.struct (Try.prog.fieldsOf 39)) := by kernel_rfl
theorem conf_held : Try.prog.stoodInHeld 39 = false := by kernel_rfl
theorem lay_struct : Try.prog.underlying 41 = some (.struct (Try.prog.fieldsOf 41)) := by kernel_rfl
theorem lay_held : Try.prog.stoodInHeld 41 = false := by kernel_rfl

def cfEq (a b : Cf) : Bool := a.t == b.t && (a.l == b.l && (a.k == b.k && (a.s == b.s && a.m == b.m)))
theorem cfEq_iff (a b : Cf) : cfEq a b = true ↔ a = b := by
  obtain ⟨a1, a2, a3, a4, a5⟩ := a
  obtain ⟨b1, b2, b3, b4, b5⟩ := b
  simp [cfEq]
def lyEq (a b : Ly) : Bool := cfEq a.c b.c && (a.clock == b.clock && (a.stamps == b.stamps && (a.log == b.log && (a.fin == b.fin && (a.thread == b.thread && (a.lock == b.lock && (a.loc == b.loc && a.size == b.size)))))))
theorem lyEq_iff (a b : Ly) : lyEq a b = true ↔ a = b := by
  obtain ⟨a0, a1, a2, a3, a4, a5, a6, a7, a8⟩ := a
  obtain ⟨b0, b1, b2, b3, b4, b5, b6, b7, b8⟩ := b
  simp [lyEq, cfEq_iff]

theorem lyEq_iff' (a b : Ly) : lyEq a b = true ↔ (decide (a.c.t = b.c.t ∧ a.c.l = b.c.l ∧ a.c.k = b.c.k ∧ a.c.s = b.c.s ∧ a.c.m = b.c.m ∧ a.clock = b.clock ∧ a.stamps = b.stamps ∧ a.log = b.log ∧ a.fin = b.fin ∧ a.thread = b.thread ∧ a.lock = b.lock ∧ a.loc = b.loc ∧ a.size = b.size)) = true := by
  simp [lyEq, cfEq, and_assoc]

theorem conf_eql (a b : Cf) (w : World) : (binOp .eql 39 a.v b.v).run Try.prog w = .ok (.bool (cfEq a b)) w := by
  unfold Cf.v
  rw [run_eql_struct, show (10000 : Nat) = 9999 + 1 from rfl, run_equalIn_agg w 9999 39 _ _ conf_struct conf_held]
  have u3 := Try.underlying3
  have a3 := Try.isAgg3
  have z3 := Try.sizeOf3
  simp only [Program.fieldsOf, Try.underlying39]
  go_simp
  unfold cfEq
  by_cases h1 : a.t = b.t <;> by_cases h2 : a.l = b.l <;> by_cases h3 : a.k = b.k <;> by_cases h4 : a.s = b.s <;> by_cases h5 : a.m = b.m <;> simp [h1, h2, h3, h4, h5]

theorem lay_eql (a b : Ly) (w : World) : (binOp .eql 41 a.v b.v).run Try.prog w = .ok (.bool (lyEq a b)) w := by
  unfold Ly.v
  rw [run_eql_struct, show (10000 : Nat) = 9999 + 1 from rfl, run_equalIn_agg w 9999 41 _ _ lay_struct lay_held]
  have u3 := Try.underlying3
  have a3 := Try.isAgg3
  have z3 := Try.sizeOf3
  have a4 := Try.isAgg39
  have z4 := Try.sizeOf39
  have q4 := fun w x y => run_equalIn_agg w 9998 39 x y conf_struct conf_held
  simp only [Program.fieldsOf, Try.underlying41, Try.underlying39] at q4 ⊢
  go_simp
  rw [Bool.eq_iff_iff.2 (lyEq_iff' a b)]
  by_cases h0 : a.c.t = b.c.t
  case neg => simp [h0]
  by_cases h1 : a.c.l = b.c.l
  case neg => simp [h0, h1]
  by_cases h2 : a.c.k = b.c.k
  case neg => simp [h0, h1, h2]
  by_cases h3 : a.c.s = b.c.s
  case neg => simp [h0, h1, h2, h3]
  by_cases h4 : a.c.m = b.c.m
  case neg => simp [h0, h1, h2, h3, h4]
  by_cases h5 : a.clock = b.clock
  case neg => simp [h0, h1, h2, h3, h4, h5]
  by_cases h6 : a.stamps = b.stamps
  case neg => simp [h0, h1, h2, h3, h4, h5, h6]
  by_cases h7 : a.log = b.log
  case neg => simp [h0, h1, h2, h3, h4, h5, h6, h7]
  by_cases h8 : a.fin = b.fin
  case neg => simp [h0, h1, h2, h3, h4, h5, h6, h7, h8]
  by_cases h9 : a.thread = b.thread
  case neg => simp [h0, h1, h2, h3, h4, h5, h6, h7, h8, h9]
  by_cases h10 : a.lock = b.lock
  case neg => simp [h0, h1, h2, h3, h4, h5, h6, h7, h8, h9, h10]
  by_cases h11 : a.loc = b.loc
  case neg => simp [h0, h1, h2, h3, h4, h5, h6, h7, h8, h9, h10, h11]
  by_cases h12 : a.size = b.size
  case neg => simp [h0, h1, h2, h3, h4, h5, h6, h7, h8, h9, h10, h11, h12]
  simp [h0, h1, h2, h3, h4, h5, h6, h7, h8, h9, h10, h11, h12]

theorem lay_eql_t (a : Ly) (w : World) : (binOp .eql 41 a.v a.v).run Try.prog w = .ok (.bool true) w := by
  rw [lay_eql, (lyEq_iff a a).2 rfl]
theorem lay_neq (a b : Ly) (w : World) : (binOp .neq 41 a.v b.v).run Try.prog w = .ok (.bool (!lyEq a b)) w := by
  unfold Ly.v
  rw [run_neq_struct, show (10000 : Nat) = 9999 + 1 from rfl, run_equalIn_agg w 9999 41 _ _ lay_struct lay_held]
  have u3 := Try.underlying3
  have a3 := Try.isAgg3
  have z3 := Try.sizeOf3
  have a4 := Try.isAgg39
  have z4 := Try.sizeOf39
  have q4 := fun w x y => run_equalIn_agg w 9998 39 x y conf_struct conf_held
  simp only [Program.fieldsOf, Try.underlying41, Try.underlying39] at q4 ⊢
  go_simp
  rw [Bool.eq_iff_iff.2 (lyEq_iff' a b)]
  by_cases h0 : a.c.t = b.c.t
  case neg => simp [h0]
  by_cases h1 : a.c.l = b.c.l
  case neg => simp [h0, h1]
  by_cases h2 : a.c.k = b.c.k
  case neg => simp [h0, h1, h2]
  by_cases h3 : a.c.s = b.c.s
  case neg => simp [h0, h1, h2, h3]
  by_cases h4 : a.c.m = b.c.m
  case neg => simp [h0, h1, h2, h3, h4]
  by_cases h5 : a.clock = b.clock
  case neg => simp [h0, h1, h2, h3, h4, h5]
  by_cases h6 : a.stamps = b.stamps
  case neg => simp [h0, h1, h2, h3, h4, h5, h6]
  by_cases h7 : a.log = b.log
  case neg => simp [h0, h1, h2, h3, h4, h5, h6, h7]
  by_cases h8 : a.fin = b.fin
  case neg => simp [h0, h1, h2, h3, h4, h5, h6, h7, h8]
  by_cases h9 : a.thread = b.thread
  case neg => simp [h0, h1, h2, h3, h4, h5, h6, h7, h8, h9]
  by_cases h10 : a.lock = b.lock
  case neg => simp [h0, h1, h2, h3, h4, h5, h6, h7, h8, h9, h10]
  by_cases h11 : a.loc = b.loc
  case neg => simp [h0, h1, h2, h3, h4, h5, h6, h7, h8, h9, h10, h11]
  by_cases h12 : a.size = b.size
  case neg => simp [h0, h1, h2, h3, h4, h5, h6, h7, h8, h9, h10, h11, h12]
  simp [h0, h1, h2, h3, h4, h5, h6, h7, h8, h9, h10, h11, h12]
theorem conf_neq (a b : Cf) (w : World) : (binOp .neq 39 a.v b.v).run Try.prog w = .ok (.bool (!cfEq a b)) w := by
  unfold Cf.v
  rw [run_neq_struct, show (10000 : Nat) = 9999 + 1 from rfl, run_equalIn_agg w 9999 39 _ _ conf_struct conf_held]
  have u3 := Try.underlying3
  have a3 := Try.isAgg3
  have z3 := Try.sizeOf3
  simp only [Program.fieldsOf, Try.underlying39]
  go_simp
  unfold cfEq
  by_cases h1 : a.t = b.t <;> by_cases h2 : a.l = b.l <;> by_cases h3 : a.k = b.k <;> by_cases h4 : a.s = b.s <;> by_cases h5 : a.m = b.m <;> simp [h1, h2, h3, h4, h5]

end Go.Proofs.Ytmjfnlangebhlaa
