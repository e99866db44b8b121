
/-
  Runs by computation: how it is used.
-/
import Derived.Test.YtnlcjlhcghgaoaaEs
namespace Go.Proofs.Ytnlcjlhcghgaoaa.EX
open Go Go.RowKit
set_option linter.unusedVariables false
set_option linter.unusedSectionVars false
set_option maxRecDepth 10000
variable [FC]

/-- The value that a call returns, and what was asked on the way. -/
def outE : Option Ou → Option (SV × List (Value × Value))
  | some ⟨.ret x, st⟩ => some (x, st.cnd)
  | _ => none
def st1 (orc : List Value) : St := ⟨⟨.leaf, 0, []⟩, orc, []⟩
theorem ex_runG {P : Program} {kn : KnG} (hkn : KnGOk P kn) (n : Nat) {f : FuncId} {as : List Value} (args : List SV) (orc : List Value) {x : SV} (cs : List (Value × Value)) {w : World}
    (h : outE (goF P kn n (.call f args) (st1 orc)) = some (x, cs)) (ha : denL (fun _ => (0, 0)) args = as) (hb : bdL (fun _ => False) args) (hc : ∀ q ∈ cs, q.1 = q.2) (hfc : FcAt w := by first | assumption | exact fcAt_none _) :
    Calls P f as.toArray w fun e w' => ∃ B, e = .returned (den B x) ∧ Below w.heap.size w w' := by
  rw [goF_eq] at h
  unfold outE at h
  split at h
  · rename_i y st h1
    obtain ⟨m, orc', cnd⟩ := st
    simp only [Option.some.injEq, Prod.mk.injEq] at h
    obtain ⟨rfl, rfl⟩ := h
    rw [← ha]
    exact (ex_call hkn (drE_ok P) n h1 hb hc hfc).mono fun e w' ⟨B, h2, _, h3⟩ => ⟨B, h2, h3⟩
  · cases h
theorem ex_run {P : Program} {kn : Kn} (hkn : KnOk P kn) (n : Nat) {f : FuncId} {as : List Value} (args : List SV) (orc : List Value) {x : SV} (cs : List (Value × Value)) {w : World}
    (h : outE (goF P (gk kn) n (.call f args) (st1 orc)) = some (x, cs)) (ha : denL (fun _ => (0, 0)) args = as) (hb : bdL (fun _ => False) args) (hc : ∀ q ∈ cs, q.1 = q.2) (hfc : FcAt w := by first | assumption | exact fcAt_none _) :
    Calls P f as.toArray w fun e w' => ∃ B, e = .returned (den B x) ∧ Below w.heap.size w w' := ex_runG (gk_ok hkn) n args orc cs h ha hb hc hfc
/-- The result is a plain value. -/
theorem ex_valG {P : Program} {kn : KnG} (hkn : KnGOk P kn) (n : Nat) {f : FuncId} {as : List Value} (args : List SV) (orc : List Value) {v : Value} (cs : List (Value × Value)) {w : World}
    (h : outE (goF P kn n (.call f args) (st1 orc)) = some (.v v, cs)) (ha : denL (fun _ => (0, 0)) args = as) (hb : bdL (fun _ => False) args) (hc : ∀ q ∈ cs, q.1 = q.2) (hfc : FcAt w := by first | assumption | exact fcAt_none _) :
    Calls P f as.toArray w fun e w' => e = .returned v ∧ Below w.heap.size w w' :=
  (ex_runG hkn n args orc cs h ha hb hc hfc).mono fun e w' ⟨B, h1, h2⟩ => ⟨by rw [h1]; simp [den], h2⟩
theorem ex_val {P : Program} {kn : Kn} (hkn : KnOk P kn) (n : Nat) {f : FuncId} {as : List Value} (args : List SV) (orc : List Value) {v : Value} (cs : List (Value × Value)) {w : World}
    (h : outE (goF P (gk kn) n (.call f args) (st1 orc)) = some (.v v, cs)) (ha : denL (fun _ => (0, 0)) args = as) (hb : bdL (fun _ => False) args) (hc : ∀ q ∈ cs, q.1 = q.2) (hfc : FcAt w := by first | assumption | exact fcAt_none _) :
    Calls P f as.toArray w fun e w' => e = .returned v ∧ Below w.heap.size w w' :=
  (ex_run hkn n args orc cs h ha hb hc hfc).mono fun e w' ⟨B, h1, h2⟩ => ⟨by rw [h1]; simp [den], h2⟩
/-- A function without parameters whose result is known. -/
def kn1 (f0 : FuncId) (v : Value) : Kn := fun f args => match Nat.beq f f0, args with
  | true, [] => some (.v v, [])
  | _, _ => none
theorem kn1_ok {P : Program} {f0 : FuncId} {v : Value} (h : ∀ w, Calls P f0 #[] w fun e w' => e = .returned v ∧ Below w.heap.size w w') : KnOk P (kn1 f0 v) := by
  intro f args x cs hx
  unfold kn1 at hx
  split at hx
  · rename_i hb
    simp only [Option.some.injEq, Prod.mk.injEq] at hx
    obtain ⟨rfl, rfl⟩ := hx
    have := Nat.eq_of_beq_eq_true hb
    subst this
    exact ⟨by simp [bd], fun _ B w => by simpa [denL, den] using h w⟩
  · cases hx
/-- Known results of any kind, one table after another. -/
def kgOr (k1 k2 : KnG) : KnG := fun f args st => match k1 f args st with
  | some r => some r
  | none => k2 f args st
theorem kgOr_ok {P : Program} {k1 k2 : KnG} (h1 : KnGOk P k1) (h2 : KnGOk P k2) : KnGOk P (kgOr k1 k2) := by
  intro f args st o h
  unfold kgOr at h
  split at h
  · rename_i r hr
    simp only [Option.some.injEq] at h
    subst h
    exact h1 f args st _ hr
  · exact h2 f args st _ h
/-- Known results, one table after another. -/
def knOr (k1 k2 : Kn) : Kn := fun f args => match k1 f args with
  | some r => some r
  | none => k2 f args
theorem knOr_ok {P : Program} {k1 k2 : Kn} (h1 : KnOk P k1) (h2 : KnOk P k2) : KnOk P (knOr k1 k2) := by
  intro f args v cs h
  unfold knOr at h
  split at h
  · rename_i r hr
    simp only [Option.some.injEq] at h
    subst h
    exact h1 f args v cs hr
  · exact h2 f args v cs h
/-- A function of two ints, the first of 64 bits, whose result is known. -/
def kn2 (f0 : FuncId) (g : Int → Int → Value) : Kn := fun f args => match Nat.beq f f0, args with
  | true, [.y (.int .i64 m), .v (.int .i64 t)] => some (.y (g m t), [(.bool (decide (-9223372036854775808 ≤ m)), .bool true), (.bool (decide (m ≤ 9223372036854775807)), .bool true)])
  | _, _ => none
theorem kn2_ok {P : Program} {f0 : FuncId} {g : Int → Int → Value} (h : ∀ m t w, -9223372036854775808 ≤ m ∧ m ≤ 9223372036854775807 → Calls P f0 #[.int .i64 m, .int .i64 t] w fun e w' => e = .returned (g m t) ∧ Below w.heap.size w w') : KnOk P (kn2 f0 g) := by
  intro f args x cs hx
  unfold kn2 at hx
  split at hx
  · rename_i m t hb
    simp only [Option.some.injEq, Prod.mk.injEq] at hx
    obtain ⟨rfl, rfl⟩ := hx
    have := Nat.eq_of_beq_eq_true hb
    subst this
    refine ⟨by simp [bd], fun tr B w => ?_⟩
    have c1 := tr _ (List.mem_cons_self ..)
    have c2 := tr _ (List.mem_cons_of_mem _ (List.mem_cons_self ..))
    simp only [Value.bool.injEq, decide_eq_true_eq] at c1 c2
    simpa [denL, den] using h m t w ⟨c1, c2⟩
  · cases hx
end Go.Proofs.Ytnlcjlhcghgaoaa.EX
