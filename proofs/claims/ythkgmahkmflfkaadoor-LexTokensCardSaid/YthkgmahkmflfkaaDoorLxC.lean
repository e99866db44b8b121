
/-
  Layer 4: the example of the documentation; LexMatches.
-/
import Derived.Test.YthkgmahkmflfkaaDoorRows
import Derived.Test.YthkgmahkmflfkaaDoorBase
import Derived.Test.YthkgmahkmflfkaaDoorLxB
import Derived.WalkKit
namespace Go.Proofs.YthkgmahkmflfkaaDoor
open Go Go.RowKit SZ
set_option linter.unusedVariables false
set_option linter.unusedSimpArgs false
set_option maxRecDepth 100000
attribute [local irreducible] post GD Nxt NxtAll
def ex7 : List Tk := [(1, [97], 0, 0), (3, [58, 61], 0, 1), (3, [33], 0, 3), (1, [98], 0, 4), (3, [45], 0, 5), (2, [49], 1, 6), (3, [59, 59], 0, 7)]
theorem lex_A : lexW [97, 58, 61, 33, 98, 45, 49, 59, 59] 0 = some ex7 := by decide
theorem lex_B : lexW [97, 58, 98] 0 = none := by decide
theorem shL_7 : shL ex7 = [97, 32, 58, 61, 32, 33, 32, 98, 32, 45, 32, 49, 32, 59, 59] := by decide
theorem tkAt_heap {w : World} {g : Nat} {ty : TypeId} {ts : List Tk} (h : w.heap[g]? = some (.cells (tkC ts).toArray ty (0, 0))) : TkAt w g 0 ts := fun j hj => by
  obtain ⟨q1, q2, q3, q4⟩ := tkC_at ts j hj
  rw [Nat.zero_add]
  exact ⟨cel_of h q1, cel_of h q2, cel_of h q3, cel_of h q4⟩
/-- The bytes of the tokens are bytes. -/
theorem lexF_256 : ∀ (f : Nat) (l : List Nat) (a : Nat) (ts : List Tk), lexF f l a = some ts → ∀ t ∈ ts, ∀ b ∈ t.2.1, b < 128
  | 0, l, a, ts, h, t, ht => by
    have h : some [] = some ts := h
    cases h
    cases ht
  | f + 1, [], a, ts, h, t, ht => by
    have h : some [] = some ts := h
    cases h
    cases ht
  | f + 1, c :: r, a, ts, h, t, ht => by
    unfold lexF at h
    split at h
    · exact lexF_256 f r (a + 1) ts h t ht
    · cases hk : tokL (c :: r) with
      | none => rw [hk] at h; cases h
      | some tk =>
        rw [hk] at h
        simp only at h
        obtain ⟨q, hq, hq2⟩ := Option.map_eq_some_iff.1 h
        subst hq2
        rcases List.mem_cons.1 ht with rfl | ht
        · exact (tokL_is hk).2.2
        · exact lexF_256 f _ _ q hq t ht
theorem lex_256 {l : List Nat} : ∀ t ∈ (lexW l 0).getD [], ∀ b ∈ t.2.1, b < 256 := fun t ht b hb => by
  cases h : lexW l 0 with
  | none => rw [h] at ht; cases ht
  | some ts =>
    rw [h] at ht
    have := lexF_256 l.length l 0 ts h t ht b hb
    omega
theorem lexF_len : ∀ (f : Nat) (l : List Nat) (a : Nat) (ts : List Tk), lexF f l a = some ts → ts.length ≤ l.length
  | 0, l, a, ts, h => by
    have h : some [] = some ts := h
    cases h
    exact Nat.zero_le _
  | f + 1, [], a, ts, h => by
    have h : some [] = some ts := h
    cases h
    exact Nat.zero_le _
  | f + 1, c :: r, a, ts, h => by
    unfold lexF at h
    split at h
    · have := lexF_len f r (a + 1) ts h
      rw [List.length_cons]
      omega
    · cases hk : tokL (c :: r) with
      | none => rw [hk] at h; cases h
      | some tk =>
        rw [hk] at h
        simp only at h
        obtain ⟨q, hq, hq2⟩ := Option.map_eq_some_iff.1 h
        subst hq2
        have h1 := lexF_len f _ _ q hq
        have h2 := (tokL_is hk).2.1
        rw [List.length_drop, List.length_cons] at h1
        rw [List.length_cons, List.length_cons]
        omega
theorem lex_len {l : List Nat} : ((lexW l 0).getD []).length ≤ l.length := by
  cases h : lexW l 0 with
  | none => exact Nat.zero_le _
  | some ts => exact lexF_len l.length l 0 ts h
/-- What Words answers, as a row. -/
def wdV (q : Option Addr × Nat × Nat × Nat) (R : Option (List Tk)) : Value := .tuple #[.slice q.1 (R.getD []).length q.2.1, .int .i64 (erO R)]
def wdC2 (w0 : World) (R : Option (List Tk)) (q : Option Addr × Nat × Nat × Nat) (w' : World) : Prop := ((R.getD []).length = 0 ∨ q.1 = some ⟨q.2.2.1, 0, none⟩) ∧ TkAt w' q.2.2.1 0 (R.getD []) ∧ ((R.getD []).length = 0 ∨ w0.heap.size ≤ q.2.2.1) ∧ (q.1 = none → q.2.1 = 0)
theorem wd_row {w0 : World} {R : Option (List Tk)} {e : Ending} {w' : World} (h : wdP w0 R e w') : ∃ q, e = .returned (wdV q R) ∧ wdC2 w0 R q w' ∧ Below w0.heap.size w0 w' := by
  obtain ⟨⟨v, h1, h2⟩, h3⟩ := h
  obtain ⟨a, c, b, rfl, q1, q2, q3, q4⟩ := tk_of h2
  exact ⟨(a, c, b, 0), h1, ⟨q1, q2, q3, q4⟩, h3⟩
set_option maxHeartbeats 8000000 in
theorem sane4 (w0 : World) (hG : rfSg.P w0) : Calls Tryd.prog 9 #[] w0 fun e w' => e = .returned (.bool true) ∧ Below w0.heap.size w0 w' := by
  refine sy_enterF [] [rfSg] (by intro f hf; simp only [List.mem_singleton] at hf; subst hf; exact hG) Tryd.func9 rfl rfl fun aa S => ?_
  refine sy_run ⟨0, [1]⟩ 60 S fun bs aa w S => ?_
  refine sy_reg S fun S => ?_
  refine sy_nm S fun bs S => ?_
  have hlt := fun i hi => S.lt (i := i) hi
  refine sy_call S (X := Option Addr × Nat × Nat × Nat) (val := fun q => wdV q (some ex7)) (C := fun q w' => wdC2 w (some ex7) q w') (by have q := words_t w (S.fact (f := rfSg) (by simp)) [97, 58, 61, 33, 98, 45, 49, 59, 59] (by decide) (by decide); rw [lex_A] at q; exact q.mono fun _ _ h => wd_row h) (by kernel_rfl) fun x aa w hx hb S => ?_
  have S := S.add (rfTk x.2.2.1 0 ((some ex7).getD [])) hx.2.1 (fun i hi hbl => by have h1 := hlt i hi; have h2 := hbl.1; have h3 := hx.2.2.1.resolve_left hbl.2; omega)
  refine sy_run ⟨0, [2]⟩ 60 S fun bs aa w S => ?_
  refine sy_reg S fun S => ?_
  refine sy_nm S fun bs S => ?_
  have hlt := fun i hi => S.lt (i := i) hi
  refine sy_call S (X := Option Addr × Nat × Nat × Nat) (val := fun q => wdV q (none)) (C := fun q w' => wdC2 w (none) q w') (by have q := words_t w (S.fact (f := rfSg) (by simp)) [97, 58, 98] (by decide) (by decide); rw [lex_B] at q; exact q.mono fun _ _ h => wd_row h) (by kernel_rfl) fun y aa w hy hb S => ?_
  have S := S.add (rfTk y.2.2.1 0 ((none).getD [])) hy.2.1 (fun i hi hbl => by have h1 := hlt i hi; have h2 := hbl.1; have h3 := hy.2.2.1.resolve_left hbl.2; omega)
  refine sy_run ⟨0, [4]⟩ 60 S fun bs aa w S => ?_
  refine sy_reg S fun S => ?_
  refine sy_ops 9 S fun bs aa w S => ?_
  refine sy_nm S fun bs2 S => ?_
  have hrow := S.bx 0 ⟨30, tkC ex7⟩ (by kernel_rfl)
  have hT := tkAt_heap hrow
  have hX : TkAt w x.2.2.1 0 ex7 := S.fact (f := rfTk x.2.2.1 0 ((some ex7).getD [])) (by simp)
  refine sy_call1 S (by have q := same_t w ex7 ex7 x.1 (some ⟨bs2.getD 0 0, 0, none⟩) x.2.1 7 x.2.2.1 0 (bs2.getD 0 0) 0 hx.1 (Or.inr rfl) (by decide) (by decide) (by decide) hX hT; rw [decide_eq_true rfl] at q; exact q) (by kernel_rfl) fun aa w hb S => ?_
  refine sy_ops 3 S fun bs aa w S => ?_
  have hX : TkAt w x.2.2.1 0 ex7 := S.fact (f := rfTk x.2.2.1 0 ((some ex7).getD [])) (by simp)
  have hXl : x.2.2.1 < w.heap.size := (rfTk x.2.2.1 0 ex7).lt w hX x.2.2.1 ⟨rfl, by decide⟩
  refine sy_call1 S (by have q := show_t w ex7 x.1 x.2.1 x.2.2.1 0 hx.1 (by decide) (by rw [shL_7]; decide) (Or.inr hXl) hX; rw [shL_7] at q; exact q) (by kernel_rfl) fun aa w hb S => ?_
  refine sy_ex (op := .binOp .eql 9 (.tmp 35) (.const (.string ⟨#[97, 32, 58, 61, 32, 33, 32, 98, 32, 45, 32, 49, 32, 59, 59]⟩)) 9) (ty := 4) (v := .bool true) S (by kernel_rfl) (ex_eqL (l := [97, 32, 58, 61, 32, 33, 32, 98, 32, 45, 32, 49, 32, 59, 59]) (m := [97, 32, 58, 61, 32, 33, 32, 98, 32, 45, 32, 49, 32, 59, 59]) (by kernel_rfl) (by kernel_rfl) (by decide) (by decide) (by decide)) fun aa S => ?_
  refine sy_run ⟨0, []⟩ 60 S fun bs aa w S => ?_
  exact sy_ret S (by kernel_rfl) (by kernel_rfl) fun hg => ⟨rfl, bel_gr hg⟩
set_option maxHeartbeats 8000000 in
theorem lm_all (w0 : World) (hG : rfSg.P w0) (l : List Nat) (hl : ∀ b ∈ l, b < 256) : Calls Tryd.prog 3 #[.string (strOf l)] w0 fun e w' => e = .returned (.bool true) ∧ Below w0.heap.size w0 w' := by
  refine sy_enterF [] [rfSg] (by intro f hf; simp only [List.mem_singleton] at hf; subst hf; exact hG) Tryd.func3 rfl rfl fun aa S => ?_
  refine sy_run ⟨0, [1]⟩ 60 S fun bs aa w S => ?_
  refine sy_reg S fun S => ?_
  refine sy_call1 S (sane4 w (S.fact (f := rfSg) (by simp))) (by kernel_rfl) fun aa w hb S => ?_
  refine sy_run ⟨0, [2]⟩ 60 S fun bs aa w S => ?_
  refine sy_reg S fun S => ?_
  refine sy_ops 2 S fun bs aa w S => ?_
  refine sy_cast 10 S (congrArg (Value.int .i64) (by rw [strOf_size] : ((strOf l).size : Int) = (l.length : Int))) (by kernel_rfl) fun S => ?_
  refine sy_ops 1 S fun bs aa w S => ?_
  by_cases h6 : l.length ≤ 600
  case neg =>
    refine sy_cast 11 S (congrArg Value.bool (decide_eq_true (by omega) : decide ((l.length : Int) > 600) = true)) (by kernel_rfl) fun S => ?_
    refine sy_run ⟨0, []⟩ 60 S fun bs aa w S => ?_
    exact sy_ret S (by kernel_rfl) (by kernel_rfl) fun hg => ⟨rfl, bel_gr hg⟩
  refine sy_cast 11 S (congrArg Value.bool (decide_eq_false (by omega) : decide ((l.length : Int) > 600) = false)) (by kernel_rfl) fun S => ?_
  obtain ⟨R, hR⟩ : ∃ R, lexW l 0 = R := ⟨_, rfl⟩
  have hr256 : ∀ t ∈ R.getD [], ∀ b ∈ t.2.1, b < 256 := hR ▸ lex_256
  have hrl : (R.getD []).length ≤ l.length := hR ▸ lex_len
  refine sy_run ⟨0, [4]⟩ 60 S fun bs aa w S => ?_
  refine sy_reg S fun S => ?_
  refine sy_ops 1 S fun bs aa w S => ?_
  refine sy_nm S fun bs S => ?_
  have hlt := fun i hi => S.lt (i := i) hi
  refine sy_call S (X := Option Addr × Nat × Nat × Nat) (val := fun q => wdV q (R)) (C := fun q w' => wdC2 w (R) q w') (by have q := words_t w (S.fact (f := rfSg) (by simp)) l (hl) (by omega); rw [hR] at q; exact q.mono fun _ _ h => wd_row h) (by kernel_rfl) fun x aa w hx hb S => ?_
  have S := S.add (rfTk x.2.2.1 0 ((R).getD [])) hx.2.1 (fun i hi hbl => by have h1 := hlt i hi; have h2 := hbl.1; have h3 := hx.2.2.1.resolve_left hbl.2; omega)
  refine sy_run ⟨0, [5]⟩ 60 S fun bs aa w S => ?_
  refine sy_reg S fun S => ?_
  refine sy_ops 1 S fun bs aa w S => ?_
  refine sy_nm S fun bs S => ?_
  have hlt := fun i hi => S.lt (i := i) hi
  refine sy_call S (X := Option Addr × Nat × Nat × Nat) (val := fun q => wdV q (R)) (C := fun q w' => wdC2 w (R) q w') (by have q := rwords_t w l (hl) (by omega); rw [hR] at q; exact q.mono fun _ _ h => wd_row h) (by kernel_rfl) fun y aa w hy hb S => ?_
  have S := S.add (rfTk y.2.2.1 0 ((R).getD [])) hy.2.1 (fun i hi hbl => by have h1 := hlt i hi; have h2 := hbl.1; have h3 := hy.2.2.1.resolve_left hbl.2; omega)
  refine sy_run ⟨0, [6]⟩ 60 S fun bs aa w S => ?_
  refine sy_reg S fun S => ?_
  refine sy_ops 5 S fun bs aa w S => ?_
  refine sy_cast 27 S (congrArg Value.bool (decide_eq_true rfl : decide (erO R = erO R) = true)) (by kernel_rfl) fun S => ?_
  refine sy_ops 4 S fun bs aa w S => ?_
  have hX : TkAt w x.2.2.1 0 (R.getD []) := S.fact (f := rfTk x.2.2.1 0 (R.getD [])) (by simp)
  have hY : TkAt w y.2.2.1 0 (R.getD []) := S.fact (f := rfTk y.2.2.1 0 (R.getD [])) (by simp)
  refine sy_call1 S (by have q := same_t w (R.getD []) (R.getD []) x.1 y.1 x.2.1 y.2.1 x.2.2.1 0 y.2.2.1 0 hx.1 hy.1 (by omega) hr256 hr256 hX hY; rw [decide_eq_true rfl] at q; exact q) (by kernel_rfl) fun aa w hb S => ?_
  refine sy_run ⟨0, []⟩ 60 S fun bs aa w S => ?_
  exact sy_ret S (by kernel_rfl) (by kernel_rfl) fun hg => ⟨rfl, bel_gr hg⟩
end Go.Proofs.YthkgmahkmflfkaaDoor
