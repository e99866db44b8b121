
/-
  Layer 21: the example of the documentation, in three parts.
-/
import Derived.Test.YtmjfnlangebhlaaRows
import Derived.Test.YtmjfnlangebhlaaWk0
import Derived.Test.YtmjfnlangebhlaaEu
namespace Go.Proofs.Ytmjfnlangebhlaa
open Go Go.RowKit EX
set_option maxRecDepth 100000
set_option linter.unusedVariables false
/-- The text of the example, and what is left of it behind so many statements. -/
noncomputable def sb21 : Code := match (Try.f26).body with
  | some c => c
  | none => .skip
def skipS (n : Nat) : Code → Code := Nat.rec (motive := fun _ => Code → Code) (fun c => c) (fun _ ih c => match c with
  | .seq _ b => ih b
  | c => c) n
def iv (n : Int) : SV := .v (.int .i64 n)
def nilS : SV := .v (.slice none 0 0)
def bxA : Bx := ⟨113, [.r 1 0 28 28, .s 2 0 1 1, iv 6, iv 0, iv 0, iv 0, iv 0, iv 0, iv 0, .r 3 0 1 1, nilS, nilS, nilS, iv 3, .v (.bool false)], 0, false, []⟩
def bxAc : Bx := ⟨3, [iv 1, iv 0, iv 0, iv 0, iv 0, iv 0, iv 1, iv 0, iv 0, iv 0, iv 0, iv 0, iv 0, iv 0, iv 0, iv 0, iv 2, iv 0, iv 0, iv 0, iv 0, iv 0, iv 0, iv 0, iv 0, iv 0, iv 0, iv 0], 1, false, []⟩
def bxB : Bx := ⟨113, [.r 5 0 28 28, .s 6 0 0 0, iv 6, iv 0, iv 0, iv 0, iv 0, iv 0, iv 0, .r 7 0 1 1, nilS, nilS, .r 8 0 1 1, iv 1, .v (.bool false)], 0, false, []⟩
def bxBc : Bx := ⟨3, [iv 0, iv 0, iv 0, iv 0, iv 0, iv 0, iv 0, iv 0, iv 0, iv 0, iv 0, iv 0, iv 0, iv 0, iv 0, iv 0, iv 0, iv 0, iv 0, iv 1, iv 0, iv 0, iv 0, iv 0, iv 0, iv 0, iv 0, iv 0], 1, false, []⟩
def tl1 : List (Nat × SV) := [(0, .v (.bool false)), (1, .p 0 0)]
def kl1 : List (Nat × Bx) := [(0, bxA), (1, bxAc)]
def ns1 : List Nat := [15, 1058, 14, 17]
def tl2 : List (Nat × SV) := [(0, .v (.bool false)), (1, .p 0 0), (2, .p 4 0)]
def kl2 : List (Nat × Bx) := [(0, bxA), (1, bxAc), (4, bxB), (5, bxBc)]
def ns2 : List Nat := [0, 1, 2, 3, 16, 230, 15, 18, 2291]
abbrev post21 (w : World) : Exit → Act → World → Prop := bodyPostD Try.prog Try.f26 fun e w' => e = .returned (.bool true) ∧ Below w.heap.size w w'
set_option maxHeartbeats 4000000 in
theorem part3 (w : World) : EX.Good Try.prog w (post21 w) ⟨26, 66, mkTr tl2, []⟩ [.code (skipS 3 sb21)] ⟨⟨mkTr kl2, 9, []⟩, [], []⟩ :=
  cut_end (kgRow_ok rowRouse_ok) 100000 (v := .bool true) (cs := []) (by kernel_rfl) (by intro q hq; cases hq)
set_option maxHeartbeats 4000000 in
theorem part2 (w : World) : EX.Good Try.prog w (post21 w) ⟨26, 66, mkTr tl1, []⟩ [.code (skipS 2 sb21)] ⟨⟨mkTr kl1, 4, []⟩, [], []⟩ :=
  cut_mid (kgRow_ok rowRouse_ok) 100000 7 tl2 kl2 ns2 (cs := []) (by kernel_rfl) (by intro q hq; cases hq) (by decide) (by kernel_rfl) (part3 w)
end Go.Proofs.Ytmjfnlangebhlaa
