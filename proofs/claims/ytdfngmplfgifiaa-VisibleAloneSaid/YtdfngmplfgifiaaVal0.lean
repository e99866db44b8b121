
/-
  Layer 18: what is asked when one bit is set or cleared.
-/
import Derived.Test.YtdfngmplfgifiaaRows
import Derived.Test.YtdfngmplfgifiaaBase
import Derived.Test.YtdfngmplfgifiaaAux
import Derived.Test.YtdfngmplfgifiaaWord2
import Derived.Test.YtdfngmplfgifiaaWord3
import Derived.Test.YtdfngmplfgifiaaEv
import Derived.Test.YtdfngmplfgifiaaVu0
namespace Go.Proofs.Ytdfngmplfgifiaa
open Go Go.RowKit EX
set_option maxRecDepth 100000
set_option linter.unusedVariables false

def perA (m n : Int) (w : Nat) (put : Bool) : Nat → List (Value × Value)
  | 0 => []
  | t + 1 => (match Nat.beq t w with
    | true => [(.bool (isIn n (t : Nat) != put), .bool false), lo n, hi n]
    | false => [(.bool (isIn n (t : Nat) != isIn m (t : Nat)), .bool false), lo m, hi m, lo n, hi n]) ++ perA m n w put t
def toldA (w k : Nat) (a b : Int) : List (Value × Value) := [(.int .i64 (IntKind.i64.wrap (1 + Int.tmod (IntKind.i64.wrap b) 4)), .int .i64 k), (.int .i64 (Int.tmod (IntKind.i64.wrap a) 4), .int .i64 w)]
def csC (m n : Int) (w k : Nat) (put : Bool) (a b : Int) : List (Value × Value) := (.bool (isIn m w == put), .bool false) :: (perA m n w put 62 ++ (lo m :: hi m :: (opU m n ++ toldA w k a b)))
def csN (m n : Int) (w k : Nat) (put : Bool) (a b : Int) : List (Value × Value) := (.bool (isIn m w == put), .bool true) :: (perA m m w put 62 ++ (lo m :: hi m :: (.bool (n == m), .bool true) :: lo m :: hi m :: toldA w k a b))
theorem perA_ok {m n : Int} (hm : I64 m) (hn : I64 n) {w : Nat} {put : Bool} (hw : isIn n w = put) (ho : ∀ t : Nat, t < 62 → t ≠ w → isIn n t = isIn m t) : ∀ N : Nat, N ≤ 62 → ∀ q ∈ perA m n w put N, q.1 = q.2
  | 0, _, q, hq => by cases hq
  | t + 1, h, q, hq => by
    have ih := perA_ok hm hn hw ho t (by omega) q
    rw [perA] at hq
    rw [List.mem_append] at hq
    rcases hq with hq | hq
    · cases hb : Nat.beq t w with
      | true =>
        rw [hb] at hq
        have e : t = w := Nat.eq_of_beq_eq_true hb
        simp only [List.mem_cons, List.not_mem_nil, or_false] at hq
        rcases hq with rfl | rfl | rfl
        · simp only [e, hw, bne_self_eq_false]
        · exact lo_ok hn
        · exact hi_ok hn
      | false =>
        rw [hb] at hq
        have e : t ≠ w := Nat.ne_of_beq_eq_false hb
        simp only [List.mem_cons, List.not_mem_nil, or_false] at hq
        rcases hq with rfl | rfl | rfl | rfl | rfl
        · simp only [ho t (by omega) e, bne_self_eq_false]
        · exact lo_ok hm
        · exact hi_ok hm
        · exact lo_ok hn
        · exact hi_ok hn
    · exact ih hq
theorem told_ok {w k : Nat} {a b : Int} (ha : Int.tmod (IntKind.i64.wrap a) 4 = w) (hb : IntKind.i64.wrap (1 + Int.tmod (IntKind.i64.wrap b) 4) = k) : ∀ q ∈ toldA w k a b, q.1 = q.2 := by
  intro q hq
  simp only [toldA, List.mem_cons, List.not_mem_nil, or_false] at hq
  rcases hq with rfl | rfl
  · simp only [hb]
  · simp only [ha]
theorem csC_ok {m n : Int} (hm : I64 m) (hn : I64 n) {w k : Nat} {put : Bool} {a b : Int} (hw : isIn n w = put) (ho : ∀ t : Nat, t < 62 → t ≠ w → isIn n t = isIn m t) (h0 : isIn m w = !put) (ha : Int.tmod (IntKind.i64.wrap a) 4 = w) (hb : IntKind.i64.wrap (1 + Int.tmod (IntKind.i64.wrap b) 4) = k) : ∀ q ∈ csC m n w k put a b, q.1 = q.2 := by
  have hne : n ≠ m := fun e => by rw [e, h0] at hw; cases put <;> cases hw
  intro q hq
  simp only [csC, List.mem_cons, List.mem_append] at hq
  rcases hq with rfl | hq | rfl | rfl | hq | hq
  · simp only [h0]; cases put <;> rfl
  · exact perA_ok hm hn hw ho 62 (by omega) q hq
  · exact lo_ok hm
  · exact hi_ok hm
  · exact opU_ok hm hne q hq
  · exact told_ok ha hb q hq
theorem csN_ok {m n : Int} (hm : I64 m) {w k : Nat} {put : Bool} {a b : Int} (hw : isIn m w = put) (he : n = m) (ha : Int.tmod (IntKind.i64.wrap a) 4 = w) (hb : IntKind.i64.wrap (1 + Int.tmod (IntKind.i64.wrap b) 4) = k) : ∀ q ∈ csN m n w k put a b, q.1 = q.2 := by
  intro q hq
  simp only [csN, List.mem_cons, List.mem_append] at hq
  rcases hq with rfl | hq | rfl | rfl | rfl | rfl | rfl | hq
  · simp only [hw, beq_self_eq_true]
  · exact perA_ok hm hm hw (fun _ _ _ => rfl) 62 (by omega) q hq
  · exact lo_ok hm
  · exact hi_ok hm
  · simp only [he, beq_self_eq_true]
  · exact lo_ok hm
  · exact hi_ok hm
  · exact told_ok ha hb q hq
theorem put_ok {m : Int} (hm : I64 m) {w k : Nat} (hw : w ≤ 61) {a b : Int} (h0 : isIn m w = false) (ha : Int.tmod (IntKind.i64.wrap a) 4 = w) (hb : IntKind.i64.wrap (1 + Int.tmod (IntKind.i64.wrap b) 4) = k) : ∀ q ∈ csC m (withT m w) w k true a b, q.1 = q.2 :=
  csC_ok hm (i64_with hm (w : Int)) (by rw [in_with hm hw hw]; simp) (fun t ht hne => by rw [in_with hm hw (by omega)]; simp [Ne.symm hne]) h0 ha hb
theorem clr_ok {m : Int} (hm : I64 m) {w k : Nat} (hw : w ≤ 61) {a b : Int} (h0 : isIn m w = true) (ha : Int.tmod (IntKind.i64.wrap a) 4 = w) (hb : IntKind.i64.wrap (1 + Int.tmod (IntKind.i64.wrap b) 4) = k) : ∀ q ∈ csC m (sansT m w) w k false a b, q.1 = q.2 :=
  csC_ok hm (i64_sans hm (w : Int)) (by rw [in_sans hm hw hw]; simp) (fun t ht hne => by rw [in_sans hm hw (by omega)]; simp [Ne.symm hne]) h0 ha hb
theorem put_no {m : Int} (hm : I64 m) {w k : Nat} {a b : Int} (h0 : isIn m w = true) (ha : Int.tmod (IntKind.i64.wrap a) 4 = w) (hb : IntKind.i64.wrap (1 + Int.tmod (IntKind.i64.wrap b) 4) = k) : ∀ q ∈ csN m (withT m w) w k true a b, q.1 = q.2 :=
  csN_ok hm h0 (by unfold withT; rw [h0]; rfl) ha hb
theorem clr_no {m : Int} (hm : I64 m) {w k : Nat} {a b : Int} (h0 : isIn m w = false) (ha : Int.tmod (IntKind.i64.wrap a) 4 = w) (hb : IntKind.i64.wrap (1 + Int.tmod (IntKind.i64.wrap b) 4) = k) : ∀ q ∈ csN m (sansT m w) w k false a b, q.1 = q.2 :=
  csN_ok hm h0 (sans_same h0) ha hb
def orcC (f w k : Nat) : List Value := tld f 10 w :: tld f 11 k :: ff :: tt :: ff :: tt :: (List.replicate 62 ff ++ [ff])
def orcN (f w k : Nat) : List Value := tld f 10 w :: tld f 11 k :: tt :: (List.replicate 62 ff ++ [tt])
def argA (m a b : Int) : List SV := [.y (.int .i64 m), .y (.int .u8 a), .y (.int .u8 b)]
theorem argA_den (m a b : Int) (B : Pl) : denL B (argA m a b) = [.int .i64 m, .int .u8 a, .int .u8 b] := by simp [argA, denL, den]
theorem argA_bd (m a b : Int) (S : Nat → Prop) : bdL S (argA m a b) := by simp [argA, bdL, bd]
end Go.Proofs.Ytdfngmplfgifiaa
