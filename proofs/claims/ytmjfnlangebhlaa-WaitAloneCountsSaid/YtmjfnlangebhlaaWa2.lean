
/-
  Layer 21: an operation that waits, without interference: by computation, one run for each choice of locations and changes.
-/
import Derived.Test.YtmjfnlangebhlaaRows
import Derived.Test.YtmjfnlangebhlaaWa0
namespace Go.Proofs.Ytmjfnlangebhlaa
open Go Go.RowKit EX
set_option maxRecDepth 100000
set_option linter.unusedVariables false
set_option linter.unusedSimpArgs false
theorem wa_UCC (w : World) (a c : Int) (h0 : mB a 1 = false) (g0 : cB c 1 = false) (h1 : mB a 2 = false) (g1 : cB c 2 = true) (h2 : mB a 4 = false) (g2 : cB c 4 = true) : Calls Try.prog 7 #[.int .u8 a, .int .u8 c] w fun e w' => e = .returned (.bool true) ∧ Below w.heap.size w w' :=
  ex_valG kgW_ok 100000 [.y (.int .u8 a), .y (.int .u8 c)] [.bool false, .bool false, .bool false, .bool true, .bool false, .bool true] [(.bool (cB c 4), .bool true), (.bool (mB a 4), .bool false), (.bool (cB c 2), .bool true), (.bool (mB a 2), .bool false), (.bool (cB c 1), .bool false), (.bool (mB a 1), .bool false)] (by kernel_rfl) (by simp [denL, den]) (by simp [bdL, bd]) (by
    intro q hq
    simp only [List.mem_cons, List.not_mem_nil, or_false] at hq
    rcases hq with rfl | rfl | rfl | rfl | rfl | rfl <;> first | exact congrArg Value.bool h0 | exact congrArg Value.bool g0 | exact congrArg Value.bool h1 | exact congrArg Value.bool g1 | exact congrArg Value.bool h2 | exact congrArg Value.bool g2)
theorem wa_UCU (w : World) (a c : Int) (h0 : mB a 1 = false) (g0 : cB c 1 = false) (h1 : mB a 2 = false) (g1 : cB c 2 = true) (h2 : mB a 4 = false) (g2 : cB c 4 = false) : Calls Try.prog 7 #[.int .u8 a, .int .u8 c] w fun e w' => e = .returned (.bool true) ∧ Below w.heap.size w w' :=
  ex_valG kgW_ok 100000 [.y (.int .u8 a), .y (.int .u8 c)] [.bool false, .bool false, .bool false, .bool true, .bool false, .bool false] [(.bool (cB c 4), .bool false), (.bool (mB a 4), .bool false), (.bool (cB c 2), .bool true), (.bool (mB a 2), .bool false), (.bool (cB c 1), .bool false), (.bool (mB a 1), .bool false)] (by kernel_rfl) (by simp [denL, den]) (by simp [bdL, bd]) (by
    intro q hq
    simp only [List.mem_cons, List.not_mem_nil, or_false] at hq
    rcases hq with rfl | rfl | rfl | rfl | rfl | rfl <;> first | exact congrArg Value.bool h0 | exact congrArg Value.bool g0 | exact congrArg Value.bool h1 | exact congrArg Value.bool g1 | exact congrArg Value.bool h2 | exact congrArg Value.bool g2)
theorem wa_CAC (w : World) (a c : Int) (h0 : mB a 1 = false) (g0 : cB c 1 = true) (h1 : mB a 2 = true) (h2 : mB a 4 = false) (g2 : cB c 4 = true) : Calls Try.prog 7 #[.int .u8 a, .int .u8 c] w fun e w' => e = .returned (.bool true) ∧ Below w.heap.size w w' :=
  ex_valG kgW_ok 100000 [.y (.int .u8 a), .y (.int .u8 c)] [.bool false, .bool true, .bool true, .bool false, .bool true] [(.bool (cB c 4), .bool true), (.bool (mB a 4), .bool false), (.bool (mB a 2), .bool true), (.bool (cB c 1), .bool true), (.bool (mB a 1), .bool false)] (by kernel_rfl) (by simp [denL, den]) (by simp [bdL, bd]) (by
    intro q hq
    simp only [List.mem_cons, List.not_mem_nil, or_false] at hq
    rcases hq with rfl | rfl | rfl | rfl | rfl <;> first | exact congrArg Value.bool h0 | exact congrArg Value.bool g0 | exact congrArg Value.bool h1 | exact congrArg Value.bool h2 | exact congrArg Value.bool g2)
theorem wa_UAC (w : World) (a c : Int) (h0 : mB a 1 = false) (g0 : cB c 1 = false) (h1 : mB a 2 = true) (h2 : mB a 4 = false) (g2 : cB c 4 = true) : Calls Try.prog 7 #[.int .u8 a, .int .u8 c] w fun e w' => e = .returned (.bool true) ∧ Below w.heap.size w w' :=
  ex_valG kgW_ok 100000 [.y (.int .u8 a), .y (.int .u8 c)] [.bool false, .bool false, .bool true, .bool false, .bool true] [(.bool (cB c 4), .bool true), (.bool (mB a 4), .bool false), (.bool (mB a 2), .bool true), (.bool (cB c 1), .bool false), (.bool (mB a 1), .bool false)] (by kernel_rfl) (by simp [denL, den]) (by simp [bdL, bd]) (by
    intro q hq
    simp only [List.mem_cons, List.not_mem_nil, or_false] at hq
    rcases hq with rfl | rfl | rfl | rfl | rfl <;> first | exact congrArg Value.bool h0 | exact congrArg Value.bool g0 | exact congrArg Value.bool h1 | exact congrArg Value.bool h2 | exact congrArg Value.bool g2)
theorem wa_AUU (w : World) (a c : Int) (h0 : mB a 1 = true) (h1 : mB a 2 = false) (g1 : cB c 2 = false) (h2 : mB a 4 = false) (g2 : cB c 4 = false) : Calls Try.prog 7 #[.int .u8 a, .int .u8 c] w fun e w' => e = .returned (.bool true) ∧ Below w.heap.size w w' :=
  ex_valG kgW_ok 100000 [.y (.int .u8 a), .y (.int .u8 c)] [.bool true, .bool false, .bool false, .bool false, .bool false] [(.bool (cB c 4), .bool false), (.bool (mB a 4), .bool false), (.bool (cB c 2), .bool false), (.bool (mB a 2), .bool false), (.bool (mB a 1), .bool true)] (by kernel_rfl) (by simp [denL, den]) (by simp [bdL, bd]) (by
    intro q hq
    simp only [List.mem_cons, List.not_mem_nil, or_false] at hq
    rcases hq with rfl | rfl | rfl | rfl | rfl <;> first | exact congrArg Value.bool h0 | exact congrArg Value.bool h1 | exact congrArg Value.bool g1 | exact congrArg Value.bool h2 | exact congrArg Value.bool g2)
theorem wa_ACA (w : World) (a c : Int) (h0 : mB a 1 = true) (h1 : mB a 2 = false) (g1 : cB c 2 = true) (h2 : mB a 4 = true) : Calls Try.prog 7 #[.int .u8 a, .int .u8 c] w fun e w' => e = .returned (.bool true) ∧ Below w.heap.size w w' :=
  ex_valG kgW_ok 100000 [.y (.int .u8 a), .y (.int .u8 c)] [.bool true, .bool false, .bool true, .bool true] [(.bool (mB a 4), .bool true), (.bool (cB c 2), .bool true), (.bool (mB a 2), .bool false), (.bool (mB a 1), .bool true)] (by kernel_rfl) (by simp [denL, den]) (by simp [bdL, bd]) (by
    intro q hq
    simp only [List.mem_cons, List.not_mem_nil, or_false] at hq
    rcases hq with rfl | rfl | rfl | rfl <;> first | exact congrArg Value.bool h0 | exact congrArg Value.bool h1 | exact congrArg Value.bool g1 | exact congrArg Value.bool h2)
theorem wa_UAA (w : World) (a c : Int) (h0 : mB a 1 = false) (g0 : cB c 1 = false) (h1 : mB a 2 = true) (h2 : mB a 4 = true) : Calls Try.prog 7 #[.int .u8 a, .int .u8 c] w fun e w' => e = .returned (.bool true) ∧ Below w.heap.size w w' :=
  ex_valG kgW_ok 100000 [.y (.int .u8 a), .y (.int .u8 c)] [.bool false, .bool false, .bool true, .bool true] [(.bool (mB a 4), .bool true), (.bool (mB a 2), .bool true), (.bool (cB c 1), .bool false), (.bool (mB a 1), .bool false)] (by kernel_rfl) (by simp [denL, den]) (by simp [bdL, bd]) (by
    intro q hq
    simp only [List.mem_cons, List.not_mem_nil, or_false] at hq
    rcases hq with rfl | rfl | rfl | rfl <;> first | exact congrArg Value.bool h0 | exact congrArg Value.bool g0 | exact congrArg Value.bool h1 | exact congrArg Value.bool h2)
end Go.Proofs.Ytmjfnlangebhlaa
