
/-
  Layer 18: what is asked when two bits are set and cleared.
-/
import Derived.Test.YtdfngmplfgifiaaRows
import Derived.Test.YtdfngmplfgifiaaBase
import Derived.Test.YtdfngmplfgifiaaAux
import Derived.Test.YtdfngmplfgifiaaWord2
import Derived.Test.YtdfngmplfgifiaaWord3
import Derived.Test.YtdfngmplfgifiaaEv
namespace Go.Proofs.Ytdfngmplfgifiaa
open Go Go.RowKit EX
set_option maxRecDepth 100000
set_option linter.unusedVariables false

def lo (m : Int) : Value × Value := (.bool (decide (-9223372036854775808 ≤ m)), .bool true)
def hi (m : Int) : Value × Value := (.bool (decide (m ≤ 9223372036854775807)), .bool true)
/-- One operation on a mask m that becomes m'. -/
def opU (m m' : Int) : List (Value × Value) := [(.bool (m == m), .bool true), (.bool (m' == m), .bool false), lo m, hi m, (.bool (m == m), .bool true), (.bool (m' == m), .bool false), lo m, hi m]
def pre (m a b o p : Int) : List (Value × Value) := [(.bool (isIn m b), .bool false), lo m, hi m, (.bool (isIn m a), .bool false), lo m, hi m,
  (.int .i64 (Int.tmod (IntKind.i64.wrap p) 4), .int .i64 b), (.int .i64 (Int.tmod (IntKind.i64.wrap o) 4), .int .i64 a)]
def csU (m a b o p : Int) : List (Value × Value) :=
  [lo (withT (withT m a) b), hi (withT (withT m a) b), (.bool (isIn (withT (withT m a) b) a), .bool true), lo (withT (withT m a) b), hi (withT (withT m a) b), (.bool (sansT (sansT (withT (withT m a) b) a) b != m), .bool false)] ++
  (opU (sansT (withT (withT m a) b) a) (sansT (sansT (withT (withT m a) b) a) b) ++ (opU (withT (withT m a) b) (sansT (withT (withT m a) b) a) ++ (opU (withT m a) (withT (withT m a) b) ++ (opU m (withT m a) ++ pre m a b o p))))
theorem lo_ok {m : Int} (h : I64 m) : (lo m).1 = (lo m).2 := by unfold lo; simp only; rw [decide_eq_true h.1]
theorem hi_ok {m : Int} (h : I64 m) : (hi m).1 = (hi m).2 := by unfold hi; simp only; rw [decide_eq_true h.2]
theorem opU_ok {m m' : Int} (h : I64 m) (hne : m' ≠ m) : ∀ q ∈ opU m m', q.1 = q.2 := by
  have e1 : (m == m) = true := by simp
  have e2 : (m' == m) = false := by simpa using hne
  intro q hq
  simp only [opU, List.mem_cons, List.not_mem_nil, or_false] at hq
  rcases hq with rfl | rfl | rfl | rfl | rfl | rfl | rfl | rfl
  · simp only [e1]
  · simp only [e2]
  · exact lo_ok h
  · exact hi_ok h
  · simp only [e1]
  · simp only [e2]
  · exact lo_ok h
  · exact hi_ok h
theorem sans_same {m x : Int} (h : isIn m x = false) : sansT m x = m := by unfold sansT; rw [h]; rfl
theorem undo_ok {m : Int} (hm : I64 m) {a b : Nat} (ha : a ≤ 61) (hb : b ≤ 61) (hab : a ≠ b) (h1 : isIn m a = false) (h2 : isIn m b = false) {o p : Int} (ho : Int.tmod (IntKind.i64.wrap o) 4 = a) (hp : Int.tmod (IntKind.i64.wrap p) 4 = b) :
    (∀ q ∈ csU m a b o p, q.1 = q.2) ∧ isIn (withT (withT m a) b) b = true := by
  have i1 := i64_with hm (a : Int)
  have i2 := i64_with i1 (b : Int)
  have i3 := i64_sans i2 (a : Int)
  have i4 := i64_sans i3 (b : Int)
  have m1 : isIn (withT m a) a = true := by rw [in_with hm ha ha]; simp
  have m1b : isIn (withT m a) b = false := by rw [in_with hm ha hb, h2]; simp [hab]
  have m2a : isIn (withT (withT m a) b) a = true := by rw [in_with i1 hb ha, m1]; simp
  have m2b : isIn (withT (withT m a) b) b = true := by rw [in_with i1 hb hb]; simp
  have e3 : sansT (withT (withT m a) b) a = withT m b := by
    rw [with_comm hm, sans_with (i64_with hm (b : Int))]
    refine sans_same ?_
    rw [in_with hm hb ha, h1]; simp; omega
  have e4 : sansT (sansT (withT (withT m a) b) a) b = m := by
    rw [e3, sans_with hm]; exact sans_same h2
  have n1 : withT m a ≠ m := fun e => by rw [e, h1] at m1; cases m1
  have n2 : withT (withT m a) b ≠ withT m a := fun e => by rw [e, m1b] at m2b; cases m2b
  have n3 : sansT (withT (withT m a) b) a ≠ withT (withT m a) b := fun e => by
    have : isIn (sansT (withT (withT m a) b) a) a = false := by rw [in_sans i2 ha ha]; simp
    rw [e, m2a] at this; cases this
  have n4 : sansT (sansT (withT (withT m a) b) a) b ≠ sansT (withT (withT m a) b) a := fun e => by
    have h5 : isIn (sansT (withT (withT m a) b) a) b = true := by rw [in_sans i2 ha hb, m2b]; simp [hab]
    rw [← e, e4, h2] at h5; cases h5
  refine ⟨?_, m2b⟩
  intro q hq
  simp only [csU, List.mem_append] at hq
  rcases hq with hq | hq | hq | hq | hq | hq
  · simp only [List.mem_cons, List.not_mem_nil, or_false] at hq
    rcases hq with rfl | rfl | rfl | rfl | rfl | rfl
    · exact lo_ok i2
    · exact hi_ok i2
    · simp only [m2a]
    · exact lo_ok i2
    · exact hi_ok i2
    · simp only [e4]; simp
  · exact opU_ok i3 n4 q hq
  · exact opU_ok i2 n3 q hq
  · exact opU_ok i1 n2 q hq
  · exact opU_ok hm n1 q hq
  · simp only [pre, List.mem_cons, List.not_mem_nil, or_false] at hq
    rcases hq with rfl | rfl | rfl | rfl | rfl | rfl | rfl | rfl
    · simp only [h2]
    · exact lo_ok hm
    · exact hi_ok hm
    · simp only [h1]
    · exact lo_ok hm
    · exact hi_ok hm
    · simp only [hp]
    · simp only [ho]
def tt : Value := .bool true
def ff : Value := .bool false
def tld (f t n : Nat) : Value := .tuple #[.int .i64 (Int.ofNat f), .int .i64 (Int.ofNat t), .int .i64 (Int.ofNat n)]
def orcU (f a b : Nat) : List Value := [tld f 8 a, tld f 9 b, ff, ff, ff, tt, ff, tt, ff, tt, ff, tt, ff, tt, ff, tt, ff, tt, ff, tt, ff, tt]
def argU (m o p : Int) (wt : Bool) : List SV := [.g [.y (.int .i64 m), .y (.int .u8 o), .y (.int .u8 p), .v (.bool wt)]]
def valU (m o p : Int) (wt : Bool) : Value := .agg #[.int .i64 m, .int .u8 o, .int .u8 p, .bool wt]
theorem argU_den (m o p : Int) (wt : Bool) (B : Pl) : denL B (argU m o p wt) = [valU m o p wt] := by simp [argU, valU, denL, den]
theorem argU_bd (m o p : Int) (wt : Bool) (S : Nat → Prop) : bdL S (argU m o p wt) := by simp [argU, bdL, bd]
end Go.Proofs.Ytdfngmplfgifiaa
