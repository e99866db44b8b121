
/-
  Layer 18: two bits set and cleared, the first thread 1.
-/
import Derived.Test.YtdfngmplfgifiaaRows
import Derived.Test.YtdfngmplfgifiaaBase
import Derived.Test.YtdfngmplfgifiaaAux
import Derived.Test.YtdfngmplfgifiaaWord2
import Derived.Test.YtdfngmplfgifiaaWord3
import Derived.Test.YtdfngmplfgifiaaEv
import Derived.Test.YtdfngmplfgifiaaVu0
namespace Go.Proofs.Ytdfngmplfgifiaa
open Go Go.RowKit EX
set_option maxRecDepth 100000
set_option linter.unusedVariables false
theorem undo_a10 (w : World) (m o p : Int) (wt : Bool) (hm : I64 m) (ho : Int.tmod (IntKind.i64.wrap o) 4 = 1) (hp : Int.tmod (IntKind.i64.wrap p) 4 = 0) (h1 : isIn m 1 = true) : Calls Try.prog 6 #[valU m o p wt] w fun e w' => e = .returned (.bool true) ∧ Below w.heap.size w w' :=
  ex_val kn18_ok 100000 (argU m o p wt) [tld 6 8 1, tld 6 9 0, tt] [(.bool (isIn m 1), .bool true), lo m, hi m, (.int .i64 (Int.tmod (IntKind.i64.wrap p) 4), .int .i64 0), (.int .i64 (Int.tmod (IntKind.i64.wrap o) 4), .int .i64 1)] (by kernel_rfl) (argU_den _ _ _ _ _) (argU_bd _ _ _ _ _) (by
    intro q hq
    simp only [List.mem_cons, List.not_mem_nil, or_false] at hq
    rcases hq with rfl | rfl | rfl | rfl | rfl
    · simp [h1]
    · exact lo_ok hm
    · exact hi_ok hm
    · simp [hp]
    · simp [ho])
theorem undo_b10 (w : World) (m o p : Int) (wt : Bool) (hm : I64 m) (ho : Int.tmod (IntKind.i64.wrap o) 4 = 1) (hp : Int.tmod (IntKind.i64.wrap p) 4 = 0) (h1 : isIn m 1 = false) (h2 : isIn m 0 = true) : Calls Try.prog 6 #[valU m o p wt] w fun e w' => e = .returned (.bool true) ∧ Below w.heap.size w w' :=
  ex_val kn18_ok 100000 (argU m o p wt) [tld 6 8 1, tld 6 9 0, ff, tt] [(.bool (isIn m 0), .bool true), lo m, hi m, (.bool (isIn m 1), .bool false), lo m, hi m, (.int .i64 (Int.tmod (IntKind.i64.wrap p) 4), .int .i64 0), (.int .i64 (Int.tmod (IntKind.i64.wrap o) 4), .int .i64 1)] (by kernel_rfl) (argU_den _ _ _ _ _) (argU_bd _ _ _ _ _) (by
    intro q hq
    simp only [List.mem_cons, List.not_mem_nil, or_false] at hq
    rcases hq with rfl | rfl | rfl | rfl | rfl | rfl | rfl | rfl
    · simp [h2]
    · exact lo_ok hm
    · exact hi_ok hm
    · simp [h1]
    · exact lo_ok hm
    · exact hi_ok hm
    · simp [hp]
    · simp [ho])
theorem undo_c10f (w : World) (m o p : Int) (hm : I64 m) (ho : Int.tmod (IntKind.i64.wrap o) 4 = 1) (hp : Int.tmod (IntKind.i64.wrap p) 4 = 0) (h1 : isIn m 1 = false) (h2 : isIn m 0 = false) : Calls Try.prog 6 #[valU m o p false] w fun e w' => e = .returned (.bool true) ∧ Below w.heap.size w w' := by
  obtain ⟨c1, c2⟩ := undo_ok hm (a := 1) (b := 0) (by omega) (by omega) (by omega) h1 h2 ho hp
  refine (ex_run kn18_ok 100000 (x := .y (.bool (isIn (withT (withT m 1) 0) 0))) (argU m o p false) (orcU 6 1 0) (csU m 1 0 o p) (by kernel_rfl) (argU_den _ _ _ _ _) (argU_bd _ _ _ _ _) c1).mono ?_
  rintro e w' ⟨B, h3, h4⟩
  refine ⟨?_, h4⟩
  rw [h3]
  simp only [den]
  exact congrArg (fun x => Ending.returned (Value.bool x)) c2
theorem undo_c10t (w : World) (m o p : Int) (hm : I64 m) (ho : Int.tmod (IntKind.i64.wrap o) 4 = 1) (hp : Int.tmod (IntKind.i64.wrap p) 4 = 0) (h1 : isIn m 1 = false) (h2 : isIn m 0 = false) : Calls Try.prog 6 #[valU m o p true] w fun e w' => e = .returned (.bool true) ∧ Below w.heap.size w w' := by
  obtain ⟨c1, c2⟩ := undo_ok hm (a := 1) (b := 0) (by omega) (by omega) (by omega) h1 h2 ho hp
  refine (ex_run kn18_ok 100000 (x := .y (.bool (isIn (withT (withT m 1) 0) 0))) (argU m o p true) (orcU 6 1 0) (csU m 1 0 o p) (by kernel_rfl) (argU_den _ _ _ _ _) (argU_bd _ _ _ _ _) c1).mono ?_
  rintro e w' ⟨B, h3, h4⟩
  refine ⟨?_, h4⟩
  rw [h3]
  simp only [den]
  exact congrArg (fun x => Ending.returned (Value.bool x)) c2
theorem undo_s1 (w : World) (m o p : Int) (wt : Bool) (ho : Int.tmod (IntKind.i64.wrap o) 4 = 1) (hp : Int.tmod (IntKind.i64.wrap p) 4 = 1) : Calls Try.prog 6 #[valU m o p wt] w fun e w' => e = .returned (.bool true) ∧ Below w.heap.size w w' :=
  ex_val kn18_ok 100000 (argU m o p wt) [tld 6 8 1, tld 6 9 1] [(.int .i64 (Int.tmod (IntKind.i64.wrap p) 4), .int .i64 1), (.int .i64 (Int.tmod (IntKind.i64.wrap o) 4), .int .i64 1)] (by kernel_rfl) (argU_den _ _ _ _ _) (argU_bd _ _ _ _ _) (by
    intro q hq
    simp only [List.mem_cons, List.not_mem_nil, or_false] at hq
    rcases hq with rfl | rfl <;> simp [ho, hp])
theorem undo_a12 (w : World) (m o p : Int) (wt : Bool) (hm : I64 m) (ho : Int.tmod (IntKind.i64.wrap o) 4 = 1) (hp : Int.tmod (IntKind.i64.wrap p) 4 = 2) (h1 : isIn m 1 = true) : Calls Try.prog 6 #[valU m o p wt] w fun e w' => e = .returned (.bool true) ∧ Below w.heap.size w w' :=
  ex_val kn18_ok 100000 (argU m o p wt) [tld 6 8 1, tld 6 9 2, tt] [(.bool (isIn m 1), .bool true), lo m, hi m, (.int .i64 (Int.tmod (IntKind.i64.wrap p) 4), .int .i64 2), (.int .i64 (Int.tmod (IntKind.i64.wrap o) 4), .int .i64 1)] (by kernel_rfl) (argU_den _ _ _ _ _) (argU_bd _ _ _ _ _) (by
    intro q hq
    simp only [List.mem_cons, List.not_mem_nil, or_false] at hq
    rcases hq with rfl | rfl | rfl | rfl | rfl
    · simp [h1]
    · exact lo_ok hm
    · exact hi_ok hm
    · simp [hp]
    · simp [ho])
theorem undo_b12 (w : World) (m o p : Int) (wt : Bool) (hm : I64 m) (ho : Int.tmod (IntKind.i64.wrap o) 4 = 1) (hp : Int.tmod (IntKind.i64.wrap p) 4 = 2) (h1 : isIn m 1 = false) (h2 : isIn m 2 = true) : Calls Try.prog 6 #[valU m o p wt] w fun e w' => e = .returned (.bool true) ∧ Below w.heap.size w w' :=
  ex_val kn18_ok 100000 (argU m o p wt) [tld 6 8 1, tld 6 9 2, ff, tt] [(.bool (isIn m 2), .bool true), lo m, hi m, (.bool (isIn m 1), .bool false), lo m, hi m, (.int .i64 (Int.tmod (IntKind.i64.wrap p) 4), .int .i64 2), (.int .i64 (Int.tmod (IntKind.i64.wrap o) 4), .int .i64 1)] (by kernel_rfl) (argU_den _ _ _ _ _) (argU_bd _ _ _ _ _) (by
    intro q hq
    simp only [List.mem_cons, List.not_mem_nil, or_false] at hq
    rcases hq with rfl | rfl | rfl | rfl | rfl | rfl | rfl | rfl
    · simp [h2]
    · exact lo_ok hm
    · exact hi_ok hm
    · simp [h1]
    · exact lo_ok hm
    · exact hi_ok hm
    · simp [hp]
    · simp [ho])
theorem undo_c12f (w : World) (m o p : Int) (hm : I64 m) (ho : Int.tmod (IntKind.i64.wrap o) 4 = 1) (hp : Int.tmod (IntKind.i64.wrap p) 4 = 2) (h1 : isIn m 1 = false) (h2 : isIn m 2 = false) : Calls Try.prog 6 #[valU m o p false] w fun e w' => e = .returned (.bool true) ∧ Below w.heap.size w w' := by
  obtain ⟨c1, c2⟩ := undo_ok hm (a := 1) (b := 2) (by omega) (by omega) (by omega) h1 h2 ho hp
  refine (ex_run kn18_ok 100000 (x := .y (.bool (isIn (withT (withT m 1) 2) 2))) (argU m o p false) (orcU 6 1 2) (csU m 1 2 o p) (by kernel_rfl) (argU_den _ _ _ _ _) (argU_bd _ _ _ _ _) c1).mono ?_
  rintro e w' ⟨B, h3, h4⟩
  refine ⟨?_, h4⟩
  rw [h3]
  simp only [den]
  exact congrArg (fun x => Ending.returned (Value.bool x)) c2
theorem undo_c12t (w : World) (m o p : Int) (hm : I64 m) (ho : Int.tmod (IntKind.i64.wrap o) 4 = 1) (hp : Int.tmod (IntKind.i64.wrap p) 4 = 2) (h1 : isIn m 1 = false) (h2 : isIn m 2 = false) : Calls Try.prog 6 #[valU m o p true] w fun e w' => e = .returned (.bool true) ∧ Below w.heap.size w w' := by
  obtain ⟨c1, c2⟩ := undo_ok hm (a := 1) (b := 2) (by omega) (by omega) (by omega) h1 h2 ho hp
  refine (ex_run kn18_ok 100000 (x := .y (.bool (isIn (withT (withT m 1) 2) 2))) (argU m o p true) (orcU 6 1 2) (csU m 1 2 o p) (by kernel_rfl) (argU_den _ _ _ _ _) (argU_bd _ _ _ _ _) c1).mono ?_
  rintro e w' ⟨B, h3, h4⟩
  refine ⟨?_, h4⟩
  rw [h3]
  simp only [den]
  exact congrArg (fun x => Ending.returned (Value.bool x)) c2
theorem undo_a13 (w : World) (m o p : Int) (wt : Bool) (hm : I64 m) (ho : Int.tmod (IntKind.i64.wrap o) 4 = 1) (hp : Int.tmod (IntKind.i64.wrap p) 4 = 3) (h1 : isIn m 1 = true) : Calls Try.prog 6 #[valU m o p wt] w fun e w' => e = .returned (.bool true) ∧ Below w.heap.size w w' :=
  ex_val kn18_ok 100000 (argU m o p wt) [tld 6 8 1, tld 6 9 3, tt] [(.bool (isIn m 1), .bool true), lo m, hi m, (.int .i64 (Int.tmod (IntKind.i64.wrap p) 4), .int .i64 3), (.int .i64 (Int.tmod (IntKind.i64.wrap o) 4), .int .i64 1)] (by kernel_rfl) (argU_den _ _ _ _ _) (argU_bd _ _ _ _ _) (by
    intro q hq
    simp only [List.mem_cons, List.not_mem_nil, or_false] at hq
    rcases hq with rfl | rfl | rfl | rfl | rfl
    · simp [h1]
    · exact lo_ok hm
    · exact hi_ok hm
    · simp [hp]
    · simp [ho])
theorem undo_b13 (w : World) (m o p : Int) (wt : Bool) (hm : I64 m) (ho : Int.tmod (IntKind.i64.wrap o) 4 = 1) (hp : Int.tmod (IntKind.i64.wrap p) 4 = 3) (h1 : isIn m 1 = false) (h2 : isIn m 3 = true) : Calls Try.prog 6 #[valU m o p wt] w fun e w' => e = .returned (.bool true) ∧ Below w.heap.size w w' :=
  ex_val kn18_ok 100000 (argU m o p wt) [tld 6 8 1, tld 6 9 3, ff, tt] [(.bool (isIn m 3), .bool true), lo m, hi m, (.bool (isIn m 1), .bool false), lo m, hi m, (.int .i64 (Int.tmod (IntKind.i64.wrap p) 4), .int .i64 3), (.int .i64 (Int.tmod (IntKind.i64.wrap o) 4), .int .i64 1)] (by kernel_rfl) (argU_den _ _ _ _ _) (argU_bd _ _ _ _ _) (by
    intro q hq
    simp only [List.mem_cons, List.not_mem_nil, or_false] at hq
    rcases hq with rfl | rfl | rfl | rfl | rfl | rfl | rfl | rfl
    · simp [h2]
    · exact lo_ok hm
    · exact hi_ok hm
    · simp [h1]
    · exact lo_ok hm
    · exact hi_ok hm
    · simp [hp]
    · simp [ho])
theorem undo_c13f (w : World) (m o p : Int) (hm : I64 m) (ho : Int.tmod (IntKind.i64.wrap o) 4 = 1) (hp : Int.tmod (IntKind.i64.wrap p) 4 = 3) (h1 : isIn m 1 = false) (h2 : isIn m 3 = false) : Calls Try.prog 6 #[valU m o p false] w fun e w' => e = .returned (.bool true) ∧ Below w.heap.size w w' := by
  obtain ⟨c1, c2⟩ := undo_ok hm (a := 1) (b := 3) (by omega) (by omega) (by omega) h1 h2 ho hp
  refine (ex_run kn18_ok 100000 (x := .y (.bool (isIn (withT (withT m 1) 3) 3))) (argU m o p false) (orcU 6 1 3) (csU m 1 3 o p) (by kernel_rfl) (argU_den _ _ _ _ _) (argU_bd _ _ _ _ _) c1).mono ?_
  rintro e w' ⟨B, h3, h4⟩
  refine ⟨?_, h4⟩
  rw [h3]
  simp only [den]
  exact congrArg (fun x => Ending.returned (Value.bool x)) c2
theorem undo_c13t (w : World) (m o p : Int) (hm : I64 m) (ho : Int.tmod (IntKind.i64.wrap o) 4 = 1) (hp : Int.tmod (IntKind.i64.wrap p) 4 = 3) (h1 : isIn m 1 = false) (h2 : isIn m 3 = false) : Calls Try.prog 6 #[valU m o p true] w fun e w' => e = .returned (.bool true) ∧ Below w.heap.size w w' := by
  obtain ⟨c1, c2⟩ := undo_ok hm (a := 1) (b := 3) (by omega) (by omega) (by omega) h1 h2 ho hp
  refine (ex_run kn18_ok 100000 (x := .y (.bool (isIn (withT (withT m 1) 3) 3))) (argU m o p true) (orcU 6 1 3) (csU m 1 3 o p) (by kernel_rfl) (argU_den _ _ _ _ _) (argU_bd _ _ _ _ _) c1).mono ?_
  rintro e w' ⟨B, h3, h4⟩
  refine ⟨?_, h4⟩
  rw [h3]
  simp only [den]
  exact congrArg (fun x => Ending.returned (Value.bool x)) c2
end Go.Proofs.Ytdfngmplfgifiaa
