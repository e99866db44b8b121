/-
  Merged: AnW, An4, Ao0
-/
import Derived.Test.YtdfngmplfgifiaaPa16

/-
  Layer 20: the layouts of its statements.
-/
namespace Go.Proofs.Ytdfngmplfgifiaa
open Go Go.RowKit
set_option maxRecDepth 100000
set_option linter.unusedVariables false
set_option linter.unusedSimpArgs false
theorem ly20_ok {k : Int} (h : 0 ≤ k ∧ k ≤ 3) : (ly20 k).ok := by
  have h4 : k = 0 ∨ k = 1 ∨ k = 2 ∨ k = 3 := by omega
  rcases h4 with rfl | rfl | rfl | rfl <;> decide
theorem where20 {k : Int} (h : 0 ≤ k ∧ k ≤ 3) (w : World) : Calls Try.prog 29 #[.int .i64 k] w fun e w' => e = .returned (ly20 k).v ∧ Below w.heap.size w w' := by
  have h4 : k = 0 ∨ k = 1 ∨ k = 2 ∨ k = 3 := by omega
  rcases h4 with rfl | rfl | rfl | rfl
  · exact where20_0 w
  · exact where20_1 w
  · exact where20_2 w
  · exact where20_3 w
theorem mod_in (q : Int) (n : Int) (hn : 0 < n ∧ n ≤ 1000) (h : 0 ≤ q ∧ q ≤ 255) : IntKind.i64.wrap (Int.tmod q n) = q % n ∧ 0 ≤ q % n ∧ q % n < n := by
  have h1 := Int.emod_nonneg q (show n ≠ 0 by omega)
  have h2 := Int.emod_lt_of_pos q hn.1
  refine ⟨?_, h1, h2⟩
  rw [Int.tmod_eq_emod_of_nonneg h.1, IntKind.wrap_i64]
  omega
end Go.Proofs.Ytdfngmplfgifiaa


/-
  Layer 20 as a table of known results: Next where the log holds values that are not known, and every decision of the manager is the same.
-/
namespace Go.Proofs.Ytdfngmplfgifiaa
open Go Go.RowKit EX
set_option maxRecDepth 100000
set_option linter.unusedVariables false
set_option linter.unusedSimpArgs false
set_option linter.unusedSectionVars false
/-- Resolve where the manager decides c. -/
def asksC (L : Ly) (other c : Int) : Tree :=
  .ask ⟨1, atStatus L other, 0, 0⟩ fun s => if s.1 % 4 = 0 then .ret { val := 0 } else .ask ⟨1, atStamp L other, 0, 0⟩ fun t => .ask ⟨1, atKarma L other, 0, 0⟩ fun k =>
    if c = 1 then .ret { val := 1 } else doomT L other s.1
def resolveC (L : Ly) (me other c : Int) : Tree :=
  .ask ⟨1, atStatus L me, 0, 0⟩ fun r => if r.1 % 4 = 3 then .ret { val := 1, lost := true } else asksC L other c
/-- The contenders that the manager was asked about. -/
def chs : List (Int × Bool) → List Ct
  | r :: s :: t :: k :: _ => if r.1 % 4 = 3 then [] else if s.1 % 4 = 0 then [] else [⟨t.1, k.1, s.1 / 4⟩]
  | _ => []
theorem resolveC_ok (L : Ly) (me other : Int) (m : Ct) (c : Int) : ∀ (l : List (Int × Bool)), (∀ X ∈ chs l, chooseD L.c.m m X = c) →
    (resolveT L me other true m).run l = (resolveC L me other c).run l ∧ (resolveT L me other true m).rest l = (resolveC L me other c).rest l := by
  intro l h
  match l, h with
  | [], h => exact ⟨rfl, rfl⟩
  | r :: l, h =>
    show (if r.1 % 4 = 3 then Tree.ret { val := 1, lost := true } else asksT L other m).run l = (if r.1 % 4 = 3 then Tree.ret { val := 1, lost := true } else asksC L other c).run l ∧ (if r.1 % 4 = 3 then Tree.ret { val := 1, lost := true } else asksT L other m).rest l = (if r.1 % 4 = 3 then Tree.ret { val := 1, lost := true } else asksC L other c).rest l
    by_cases hr : r.1 % 4 = 3
    · rw [if_pos hr, if_pos hr]; exact ⟨rfl, rfl⟩
    · rw [if_neg hr, if_neg hr]
      match l, h with
      | [], h => exact ⟨rfl, rfl⟩
      | s :: l, h =>
        show (if s.1 % 4 = 0 then Tree.ret { val := 0 } else .ask ⟨1, atStamp L other, 0, 0⟩ fun t => .ask ⟨1, atKarma L other, 0, 0⟩ fun k => if chooseD L.c.m m ⟨t.1, k.1, s.1 / 4⟩ = 1 then .ret { val := 1 } else doomT L other s.1).run l = (if s.1 % 4 = 0 then Tree.ret { val := 0 } else .ask ⟨1, atStamp L other, 0, 0⟩ fun t => .ask ⟨1, atKarma L other, 0, 0⟩ fun k => if c = 1 then .ret { val := 1 } else doomT L other s.1).run l
          ∧ (if s.1 % 4 = 0 then Tree.ret { val := 0 } else .ask ⟨1, atStamp L other, 0, 0⟩ fun t => .ask ⟨1, atKarma L other, 0, 0⟩ fun k => if chooseD L.c.m m ⟨t.1, k.1, s.1 / 4⟩ = 1 then .ret { val := 1 } else doomT L other s.1).rest l = (if s.1 % 4 = 0 then Tree.ret { val := 0 } else .ask ⟨1, atStamp L other, 0, 0⟩ fun t => .ask ⟨1, atKarma L other, 0, 0⟩ fun k => if c = 1 then .ret { val := 1 } else doomT L other s.1).rest l
        by_cases hs : s.1 % 4 = 0
        · rw [if_pos hs, if_pos hs]; exact ⟨rfl, rfl⟩
        · rw [if_neg hs, if_neg hs]
          match l, h with
          | [], h => exact ⟨rfl, rfl⟩
          | [t], h => exact ⟨rfl, rfl⟩
          | t :: k :: l, h =>
            have e : chooseD L.c.m m ⟨t.1, k.1, s.1 / 4⟩ = c := h _ (by simp [chs, hr, hs])
            show (if chooseD L.c.m m ⟨t.1, k.1, s.1 / 4⟩ = 1 then Tree.ret { val := 1 } else doomT L other s.1).run l = (if c = 1 then Tree.ret { val := 1 } else doomT L other s.1).run l ∧ (if chooseD L.c.m m ⟨t.1, k.1, s.1 / 4⟩ = 1 then Tree.ret { val := 1 } else doomT L other s.1).rest l = (if c = 1 then Tree.ret { val := 1 } else doomT L other s.1).rest l
            rw [e]
            exact ⟨rfl, rfl⟩
def goOn (x : Ask ⊕ OutD) (X : List Ct) (y : (Ask ⊕ OutD) × List Ct) : (Ask ⊕ OutD) × List Ct :=
  match x with
  | .inl a => (.inl a, X)
  | .inr o => match o.lost || decide (o.val = 1) with
    | true => (.inr { lost := true }, X)
    | false => (y.1, X ++ y.2)
def takeC (L : Ly) (me cell c : Int) : Nat → List (Int × Bool) → (Ask ⊕ OutD) × List Ct
  | 0, l => (.inr { lost := true }, [])
  | _ + 1, [] => (.inl ⟨1, cell, 0, 0⟩, [])
  | n + 1, r :: l =>
    if r.1 = IntKind.i64.wrap (me + 1) then (.inr { ok := true }, [])
    else if r.1 = 0 then match l with
      | [] => (.inl ⟨3, cell, 0, IntKind.i64.wrap (me + 1)⟩, [])
      | s :: l => if s.2 = true then (.inr { ok := true }, []) else takeC L me cell c n l
    else goOn ((resolveC L me (IntKind.i64.wrap (r.1 - 1)) c).run l) (chs l) (takeC L me cell c n ((resolveC L me (IntKind.i64.wrap (r.1 - 1)) c).rest l))
theorem takeC_cons (L : Ly) (me cell c : Int) (n : Nat) (r : Int × Bool) (l : List (Int × Bool)) : takeC L me cell c (n + 1) (r :: l) = (if r.1 = IntKind.i64.wrap (me + 1) then (.inr { ok := true }, [])
    else if r.1 = 0 then match l with
      | [] => (.inl ⟨3, cell, 0, IntKind.i64.wrap (me + 1)⟩, [])
      | s :: l => if s.2 = true then (.inr { ok := true }, []) else takeC L me cell c n l
    else goOn ((resolveC L me (IntKind.i64.wrap (r.1 - 1)) c).run l) (chs l) (takeC L me cell c n ((resolveC L me (IntKind.i64.wrap (r.1 - 1)) c).rest l))) := rfl
theorem takeC_ok (L : Ly) (me cell : Int) (m : Ct) (c : Int) : ∀ (n : Nat) (l : List (Int × Bool)), (∀ X ∈ (takeC L me cell c n l).2, chooseD L.c.m m X = c) → (takeT L me cell m n).run l = (takeC L me cell c n l).1 := by
  intro n
  induction n with
  | zero => intro l h; exact trun_ret _ _
  | succ n ih =>
    intro l h
    match l, h with
    | [], h => rfl
    | r :: l, h =>
      rw [takeC_cons] at h ⊢
      show (if r.1 = IntKind.i64.wrap (me + 1) then Tree.ret { ok := true } else if r.1 = 0 then Tree.ask ⟨3, cell, 0, IntKind.i64.wrap (me + 1)⟩ fun s => if s.2 = true then .ret { ok := true } else takeT L me cell m n else (resolveT L me (IntKind.i64.wrap (r.1 - 1)) true m).bind fun o => if o.lost = true ∨ o.val = 1 then .ret { lost := true } else takeT L me cell m n).run l = _
      by_cases h1 : r.1 = IntKind.i64.wrap (me + 1)
      · rw [if_pos h1, if_pos h1]; exact trun_ret _ _
      · rw [if_neg h1] at h ⊢
        rw [if_neg h1]
        by_cases h2 : r.1 = 0
        · rw [if_pos h2] at h ⊢
          rw [if_pos h2]
          match l, h with
          | [], h => rfl
          | s :: l, h =>
            rw [trun_ask]
            by_cases h3 : s.2 = true
            · simp only [h3, if_true]; exact trun_ret _ _
            · simp only [h3] at h ⊢
              simp only [Bool.false_eq_true, if_false] at h ⊢
              exact ih l h
        · rw [if_neg h2] at h ⊢
          rw [if_neg h2, run_bind]
          have hc : ∀ X ∈ chs l, chooseD L.c.m m X = c := by
            intro X hX
            refine h X ?_
            unfold goOn
            cases (resolveC L me (IntKind.i64.wrap (r.1 - 1)) c).run l with
            | inl a => exact hX
            | inr o =>
              simp only
              split
              · exact hX
              · simp [hX]
          obtain ⟨g1, g2⟩ := resolveC_ok L me (IntKind.i64.wrap (r.1 - 1)) m c l hc
          rw [g1, g2]
          unfold goOn at h ⊢
          cases hr : (resolveC L me (IntKind.i64.wrap (r.1 - 1)) c).run l with
          | inl a => rfl
          | inr o =>
            rw [hr] at h
            simp only at h ⊢
            cases hb : (o.lost || decide (o.val = 1)) with
            | true =>
              have hb' : o.lost = true ∨ o.val = 1 := by simpa using hb
              rw [if_pos hb']
              exact trun_ret _ _
            | false =>
              have hb' : ¬ (o.lost = true ∨ o.val = 1) := by simpa using hb
              rw [if_neg hb']
              rw [hb] at h
              exact ih _ fun X hX => h X (by simp [hX])
/-- Results some of which are not known; and those. -/
def logM : List SV → Option (List (Int × Bool) × List Int)
  | [] => some ([], [])
  | .v (.int .i64 a) :: .v (.bool b) :: l => match decide (-9223372036854775808 ≤ a), decide (a ≤ 9223372036854775807), logM l with
    | true, true, some (r, s) => some ((a, b) :: r, s)
    | _, _, _ => none
  | .y (.int .i64 a) :: .v (.bool b) :: l => match logM l with
    | some (r, s) => some ((a, b) :: r, a :: s)
    | none => none
  | _ => none
theorem logM_ok : ∀ {cs : List SV} {l : List (Int × Bool)} {s : List Int}, logM cs = some (l, s) → cs.length = 2 * l.length ∧ ((∀ x ∈ s, I64 x) → ∀ x ∈ l, I64 x.1) ∧ ∀ j, j < l.length → (cs[j * 2]? = some (.v (.int .i64 (l.getD j (0, false)).1)) ∨ cs[j * 2]? = some (.y (.int .i64 (l.getD j (0, false)).1))) ∧ cs[j * 2 + 1]? = some (.v (.bool (l.getD j (0, false)).2))
  | cs, l, s, h => by
    unfold logM at h
    split at h
    · simp only [Option.some.injEq, Prod.mk.injEq] at h
      obtain ⟨rfl, rfl⟩ := h
      exact ⟨rfl, by simp, by simp⟩
    · rename_i a b cs'
      split at h
      · rename_i r s' h1 h2 hr
        simp only [Option.some.injEq, Prod.mk.injEq] at h
        obtain ⟨rfl, rfl⟩ := h
        obtain ⟨g1, g2, g3⟩ := logM_ok hr
        refine ⟨by simp [g1]; omega, ?_, ?_⟩
        · intro hs x hx
          rcases List.mem_cons.1 hx with rfl | hx
          · exact ⟨of_decide_eq_true h1, of_decide_eq_true h2⟩
          · exact g2 hs x hx
        · intro j hj
          cases j with
          | zero => simp
          | succ j =>
            have := g3 j (by simpa using hj)
            rw [show (j + 1) * 2 = j * 2 + 1 + 1 by omega]
            simpa using this
      · cases h
    · rename_i a b cs'
      split at h
      · rename_i r s' hr
        simp only [Option.some.injEq, Prod.mk.injEq] at h
        obtain ⟨rfl, rfl⟩ := h
        obtain ⟨g1, g2, g3⟩ := logM_ok hr
        refine ⟨by simp [g1]; omega, ?_, ?_⟩
        · intro hs x hx
          rcases List.mem_cons.1 hx with rfl | hx
          · exact hs _ (by simp)
          · exact g2 (fun y hy => hs y (by simp [hy])) x hx
        · intro j hj
          cases j with
          | zero => simp
          | succ j =>
            have := g3 j (by simpa using hj)
            rw [show (j + 1) * 2 = j * 2 + 1 + 1 by omega]
            simpa using this
      · cases h
    · cases h
def logSM (m : Mm) : SV → Option (List (Int × Bool) × List Int)
  | .v (.slice none 0 0) => some ([], [])
  | .r i o n x => match m.K.get i with
    | some b => match logM ((b.cs.drop o).take (n * 2)), Nat.ble n x && Nat.beq b.sz 2 && Nat.ble (x * 2) b.cs.length with
      | some (l, s), true => match Nat.beq l.length n with
        | true => some (l, s)
        | false => none
      | _, _ => none
    | none => none
  | _ => none
section
variable [FC] {P : Program} {w0 : World} {F : List RF} {B : Pl} {S : Nat → Prop} {m : Mm} {w : World}
theorem logSM_ok {x : SV} {l : List (Int × Bool)} {s : List Int} (R : Re w0 F B m.K.get S w) (h : logSM m x = some (l, s)) : LogOf w (den B x) l ∧ ((∀ x ∈ s, I64 x) → ∀ y ∈ l, I64 y.1) := by
  unfold logSM at h
  split at h
  · simp only [Option.some.injEq, Prod.mk.injEq] at h
    obtain ⟨rfl, rfl⟩ := h
    exact ⟨⟨none, 0, by simp [den], by simp, by omega, Or.inl rfl⟩, by simp⟩
  · rename_i i o n x
    cases hb : m.K.get i with
    | none => rw [hb] at h; cases h
    | some b =>
      rw [hb] at h
      simp only at h
      split at h
      · rename_i l' s' hl hc
        split at h
        · rename_i hn
          simp only [Option.some.injEq, Prod.mk.injEq] at h
          obtain ⟨rfl, rfl⟩ := h
          have := Nat.eq_of_beq_eq_true hn
          subst this
          obtain ⟨g1, g2, g3⟩ := logM_ok hl
          have at' : ∀ j x, ((b.cs.drop o).take (l'.length * 2))[j]? = some x → w.cell? ⟨(B i).1, o + j, none⟩ = some (den B x) := by
            intro j x hx
            refine R.cell hb ?_
            rw [List.getElem?_take] at hx
            split at hx
            · rw [List.getElem?_drop] at hx; exact hx
            · cases hx
          simp only [Bool.and_eq_true] at hc
          have c1 := hc.1.1
          have c2 := Nat.eq_of_beq_eq_true hc.1.2
          have c3 := hc.2
          simp only [Nat.ble_eq] at c1 c3
          obtain ⟨_, _, rest, hr, _⟩ := R.bx i b hb
          have hr2 := hr.2
          rw [c2] at hr2
          refine ⟨⟨_, (B i).2 + x, by simp only [den]; rfl, by omega, ?_, Or.inr ⟨_, _, rfl, fun j hj => ?_⟩⟩, g2⟩
          · rcases hr2 with h0 | h0
            · cases h0
            · unfold maxLen at h0; omega
          · obtain ⟨h1, h2⟩ := g3 j hj
            refine ⟨?_, by simpa [den, Nat.add_assoc] using at' _ _ h2⟩
            rcases h1 with h1 | h1 <;> simpa [den] using at' _ _ h1
        · cases h
      · cases h
  · cases h
/-- The same as the manager is asked. -/
def chP (L : Ly) (m : Ct) (c : Int) (X : Ct) : Value × Value := (.int .i64 (chooseD L.c.m m X), .int .i64 c)
def inP : List Int → List (Value × Value)
  | [] => []
  | a :: s => (.bool (decide (-9223372036854775808 ≤ a)), .bool true) :: (.bool (decide (a ≤ 9223372036854775807)), .bool true) :: inP s
theorem inP_ok : ∀ {s : List Int}, (∀ q ∈ inP s, q.1 = q.2) → ∀ x ∈ s, I64 x
  | [], _, x, hx => by cases hx
  | a :: s, h, x, hx => by
    rcases List.mem_cons.1 hx with rfl | hx
    · have h1 := h (.bool (decide (-9223372036854775808 ≤ x)), .bool true) (by simp [inP])
      have h2 := h (.bool (decide (x ≤ 9223372036854775807)), .bool true) (by simp [inP])
      simp only [Value.bool.injEq, decide_eq_true_eq] at h1 h2
      exact ⟨h1, h2⟩
    · exact inP_ok (s := s) (fun q hq => h q (by simp [inP, hq])) x hx
/-- To take a lock, from a log of which not all is known, in the layout L, the manager always deciding c. -/
def kgTake (L : Ly) (c : Int) : KnG := fun f args st => match Nat.beq f 30, args with
  | true, [xl, .v (.int .i64 me), xo, lg] => match pvE xl, (aggL (pvE xo)).bind opA, logSM st.m lg with
    | some lv, some (k, a, m), some (l, s) => match decide (k = 7), decide (atLock L a < 0) with
      | true, false => some ⟨.ret (.v (nextV (takeC L me (atLock L a) c (l.length + 1) l).1)), ⟨st.m, st.orc, (lv, L.v) :: ((takeC L me (atLock L a) c (l.length + 1) l).2.map (chP L m c) ++ (inP s ++ st.cnd))⟩⟩
      | _, _ => none
    | _, _, _ => none
  | _, _ => none
theorem kgTake_ok {L : Ly} (hok : L.ok) (c : Int) : KnGOk Try.prog (kgTake L c) := by
  intro f args st o h
  unfold kgTake at h
  split at h
  · rename_i xl me xo lg hf
    have := Nat.eq_of_beq_eq_true hf
    subst this
    split at h
    · rename_i lv k a m l s hL ho hl
      split at h
      · rename_i hk ha
        simp only [Option.some.injEq] at h
        subst h
        refine ⟨⟨⟨(lv, L.v) :: ((takeC L me (atLock L a) c (l.length + 1) l).2.map (chP L m c) ++ inP s), by simp⟩, Fm.refl _⟩, trivial, fun tr w0 F B S w hS R hargs => ?_⟩
        cases h2 : aggL (pvE xo) with
        | none => rw [h2] at ho; cases ho
        | some ao =>
          rw [h2] at ho
          obtain ⟨b, ty, sa, wa, da, sl, sc, wl, wc, dl, dc, e⟩ := opA_v (show opA ao = some (k, a, m) from ho)
          obtain ⟨hv, hI⟩ := logSM_ok R hl
          have e0 : lv = L.v := tr (lv, L.v) (by simp)
          have hc : ∀ X ∈ (takeC L me (atLock L a) c (l.length + 1) l).2, chooseD L.c.m m X = c := by
            intro X hX
            have := tr (chP L m c X) (by
              simp only [List.mem_cons, List.mem_append, List.mem_map]
              exact Or.inr (Or.inl ⟨X, hX, rfl⟩))
            simpa [chP] using this
          have hs : ∀ x ∈ s, I64 x := inP_ok fun q hq => tr q (by simp [hq])
          have ea : (denL B [xl, .v (.int .i64 me), xo, lg]).toArray = #[L.v, .int .i64 me, kda k a b ty m sa wa da sl sc wl wc dl dc, den B lg] := by
            simp only [denL, pvE_den B hL, aggL_den B h2, e, den, e0]
          rw [ea]
          have hx : (absT L me k a m (l.length + 1)).run l = (takeC L me (atLock L a) c (l.length + 1) l).1 := by
            unfold absT
            rw [if_neg (of_decide_eq_false ha), if_pos (of_decide_eq_true hk)]
            exact takeC_ok L me _ m c _ l hc
          refine (anext_any w L hok me k a b ty m sa wa da sl sc wl wc dl dc _ l hv (hI hs)).mono ?_
          rintro e w' ⟨rfl, hb⟩
          rw [hx]
          exact ⟨B, Ag.refl _ _ _, Nat.le_refl _, by rw [ext_self]; exact R.below hb, by simp [den], by simp [bd]⟩
      · cases h
    · cases h
  · cases h
end
end Go.Proofs.Ytdfngmplfgifiaa


/-
  Layer 20: what is asked when a lock is taken without interference.
-/
namespace Go.Proofs.Ytdfngmplfgifiaa
open Go Go.RowKit EX
set_option maxRecDepth 100000
set_option linter.unusedVariables false
set_option linter.unusedSimpArgs false
def AllT (cs : List (Value × Value)) : Prop := ∀ q ∈ cs, q.1 = q.2
theorem AllT.nil : AllT [] := fun q hq => by cases hq
theorem AllT.cons {a b : Value} {l : List (Value × Value)} (h : a = b) (k : AllT l) : AllT ((a, b) :: l) := fun q hq => by
  rcases List.mem_cons.1 hq with rfl | hq
  · exact h
  · exact k q hq
theorem AllT.app {l r : List (Value × Value)} (h : AllT l) (k : AllT r) : AllT (l ++ r) := fun q hq => by
  rcases List.mem_append.1 hq with hq | hq
  · exact h q hq
  · exact k q hq
mutual
def altA (b : Ct) : Nat → List Int
  | 0 => []
  | n + 1 => b.s :: altB b n
def altB (b : Ct) : Nat → List Int
  | 0 => []
  | n + 1 => b.k :: altA b n
end
theorem alt_ok {b : Ct} (h1 : I64 b.s) (h2 : I64 b.k) : ∀ n, (∀ q ∈ inP (altA b n), q.1 = q.2) ∧ (∀ q ∈ inP (altB b n), q.1 = q.2)
  | 0 => ⟨fun q hq => by simp [altA, inP] at hq, fun q hq => by simp [altB, inP] at hq⟩
  | n + 1 => by
    obtain ⟨g1, g2⟩ := alt_ok h1 h2 n
    constructor
    · intro q hq
      simp only [altA, inP, List.mem_cons] at hq
      rcases hq with rfl | rfl | hq
      · simp [h1.1]
      · simp [h1.2]
      · exact g2 q hq
    · intro q hq
      simp only [altB, inP, List.mem_cons] at hq
      rcases hq with rfl | rfl | hq
      · simp [h2.1]
      · simp [h2.2]
      · exact g1 q hq
/-- What one call asks: the manager j times, n values. -/
def cnd (kq : Int) (m b : Ct) (c : Int) (j n : Nat) : List (Value × Value) := ((ly20 kq).v, (ly20 kq).v) :: ((List.replicate j (chP (ly20 kq) m c ⟨b.s, b.k, 1⟩)) ++ inP (altA b n))
theorem cnd_ok {kq : Int} {m b : Ct} {c : Int} (hc : chooseD kq m ⟨b.s, b.k, 1⟩ = c) (h1 : I64 b.s) (h2 : I64 b.k) (j n : Nat) : AllT (cnd kq m b c j n) := by
  refine AllT.cons rfl (AllT.app (fun q hq => ?_) (alt_ok h1 h2 n).1)
  rw [List.eq_of_mem_replicate hq]
  show Value.int .i64 (chooseD (ly20 kq).c.m m ⟨b.s, b.k, 1⟩) = Value.int .i64 c
  rw [show (ly20 kq).c.m = kq from rfl, hc]
def cnd0 (kq : Int) : List (Value × Value) := [((ly20 kq).v, (ly20 kq).v)]
theorem cnd0_ok (kq : Int) : AllT (cnd0 kq) := AllT.cons rfl AllT.nil
def csW (kq : Int) (m b : Ct) (c : Int) : List (Value × Value) := cnd kq m b c 7 14 ++ (cnd kq m b c 7 14 ++ (cnd kq m b c 7 14 ++ (cnd kq m b c 7 14 ++ (cnd kq m b c 6 13 ++ (cnd kq m b c 6 12 ++ (cnd kq m b c 6 12 ++ (cnd kq m b c 6 12 ++ (cnd kq m b c 6 12 ++ (cnd kq m b c 5 11 ++ (cnd kq m b c 5 10 ++ (cnd kq m b c 5 10 ++ (cnd kq m b c 5 10 ++ (cnd kq m b c 5 10 ++ (cnd kq m b c 4 9 ++ (cnd kq m b c 4 8 ++ (cnd kq m b c 4 8 ++ (cnd kq m b c 4 8 ++ (cnd kq m b c 4 8 ++ (cnd kq m b c 3 7 ++ (cnd kq m b c 3 6 ++ (cnd kq m b c 3 6 ++ (cnd kq m b c 3 6 ++ (cnd kq m b c 3 6 ++ (cnd kq m b c 2 5 ++ (cnd kq m b c 2 4 ++ (cnd kq m b c 2 4 ++ (cnd kq m b c 2 4 ++ (cnd kq m b c 2 4 ++ (cnd kq m b c 1 3 ++ (cnd kq m b c 1 2 ++ (cnd kq m b c 1 2 ++ (cnd kq m b c 1 2 ++ (cnd kq m b c 1 2 ++ (cnd kq m b c 1 2 ++ (cnd kq m b c 0 1 ++ (cnd kq m b c 0 0 ++ (cnd kq m b c 0 0 ++ (cnd kq m b c 0 0 ++ (cnd kq m b c 0 0)))))))))))))))))))))))))))))))))))))))
theorem csW_ok {kq : Int} {m b : Ct} {c : Int} (hc : chooseD kq m ⟨b.s, b.k, 1⟩ = c) (h1 : I64 b.s) (h2 : I64 b.k) : AllT (csW kq m b c) := AllT.app (cnd_ok hc h1 h2 _ _) (AllT.app (cnd_ok hc h1 h2 _ _) (AllT.app (cnd_ok hc h1 h2 _ _) (AllT.app (cnd_ok hc h1 h2 _ _) (AllT.app (cnd_ok hc h1 h2 _ _) (AllT.app (cnd_ok hc h1 h2 _ _) (AllT.app (cnd_ok hc h1 h2 _ _) (AllT.app (cnd_ok hc h1 h2 _ _) (AllT.app (cnd_ok hc h1 h2 _ _) (AllT.app (cnd_ok hc h1 h2 _ _) (AllT.app (cnd_ok hc h1 h2 _ _) (AllT.app (cnd_ok hc h1 h2 _ _) (AllT.app (cnd_ok hc h1 h2 _ _) (AllT.app (cnd_ok hc h1 h2 _ _) (AllT.app (cnd_ok hc h1 h2 _ _) (AllT.app (cnd_ok hc h1 h2 _ _) (AllT.app (cnd_ok hc h1 h2 _ _) (AllT.app (cnd_ok hc h1 h2 _ _) (AllT.app (cnd_ok hc h1 h2 _ _) (AllT.app (cnd_ok hc h1 h2 _ _) (AllT.app (cnd_ok hc h1 h2 _ _) (AllT.app (cnd_ok hc h1 h2 _ _) (AllT.app (cnd_ok hc h1 h2 _ _) (AllT.app (cnd_ok hc h1 h2 _ _) (AllT.app (cnd_ok hc h1 h2 _ _) (AllT.app (cnd_ok hc h1 h2 _ _) (AllT.app (cnd_ok hc h1 h2 _ _) (AllT.app (cnd_ok hc h1 h2 _ _) (AllT.app (cnd_ok hc h1 h2 _ _) (AllT.app (cnd_ok hc h1 h2 _ _) (AllT.app (cnd_ok hc h1 h2 _ _) (AllT.app (cnd_ok hc h1 h2 _ _) (AllT.app (cnd_ok hc h1 h2 _ _) (AllT.app (cnd_ok hc h1 h2 _ _) (AllT.app (cnd_ok hc h1 h2 _ _) (AllT.app (cnd_ok hc h1 h2 _ _) (AllT.app (cnd_ok hc h1 h2 _ _) (AllT.app (cnd_ok hc h1 h2 _ _) (AllT.app (cnd_ok hc h1 h2 _ _) (cnd_ok hc h1 h2 _ _)))))))))))))))))))))))))))))))))))))))
def csL (kq : Int) (m b : Ct) (c : Int) : List (Value × Value) := cnd kq m b c 1 2 ++ (cnd kq m b c 0 1 ++ (cnd kq m b c 0 0 ++ (cnd kq m b c 0 0 ++ (cnd kq m b c 0 0 ++ (cnd kq m b c 0 0)))))
theorem csL_ok {kq : Int} {m b : Ct} {c : Int} (hc : chooseD kq m ⟨b.s, b.k, 1⟩ = c) (h1 : I64 b.s) (h2 : I64 b.k) : AllT (csL kq m b c) := AllT.app (cnd_ok hc h1 h2 _ _) (AllT.app (cnd_ok hc h1 h2 _ _) (AllT.app (cnd_ok hc h1 h2 _ _) (AllT.app (cnd_ok hc h1 h2 _ _) (AllT.app (cnd_ok hc h1 h2 _ _) (cnd_ok hc h1 h2 _ _)))))
def cs2 (kq : Int) : List (Value × Value) := cnd0 kq ++ (cnd0 kq)
theorem cs2_ok (kq : Int) : AllT (cs2 kq) := AllT.app (cnd0_ok kq) (cnd0_ok kq)
def cs3 (kq : Int) : List (Value × Value) := cnd0 kq ++ (cnd0 kq ++ (cnd0 kq))
theorem cs3_ok (kq : Int) : AllT (cs3 kq) := AllT.app (cnd0_ok kq) (AllT.app (cnd0_ok kq) (cnd0_ok kq))
def csT (q lk by_ kq k who : Int) : List (Value × Value) := [(.int .i64 (IntKind.i64.wrap (Int.tmod by_ 4)), .int .i64 who), (.int .i64 (IntKind.i64.wrap (Int.tmod lk 3)), .int .i64 k), (.int .i64 (IntKind.i64.wrap (Int.tmod q 4)), .int .i64 kq)]
theorem csT_ok {q lk by_ kq k who : Int} (e1 : (IntKind.i64.wrap (Int.tmod q 4)) = kq) (e2 : (IntKind.i64.wrap (Int.tmod lk 3)) = k) (e3 : (IntKind.i64.wrap (Int.tmod by_ 4)) = who) : AllT (csT q lk by_ kq k who) := AllT.cons (by rw [e3]) (AllT.cons (by rw [e2]) (AllT.cons (by rw [e1]) AllT.nil))
def tw (F s : Int) (v : Value) : Value := .tuple #[.int .i64 F, .int .i64 s, v]
def kg20 (kq c : Int) : KnG := kgOr (gk (kn1 28 (.bool true))) (kgOr (kgAt 29 [.int .i64 kq] (.g [.v (.int .i64 3), .v (.int .i64 0), .v (.int .i64 3), .v (.int .i64 0), .y (.int .i64 kq), .v (.int .i64 0), .v (.int .i64 1), .v (.int .i64 2), .v (.int .i64 3), .v (.int .i64 4), .v (.int .i64 16), .v (.int .i64 19), .v (.int .i64 19)])) (kgTake (ly20 kq) c))
theorem kg20_ok {kq : Int} (h : 0 ≤ kq ∧ kq ≤ 3) (c : Int) : KnGOk Try.prog (kg20 kq c) :=
  kgOr_ok (gk_ok (kn1_ok sane20)) (kgOr_ok (kgAt_ok (by simp [bd, bdL]) fun w _ => (where20 h w).mono fun e w' ⟨he, hb⟩ => ⟨by rw [he]; simp [den, denL]; rfl, hb⟩) (kgTake_ok (ly20_ok h) c))
end Go.Proofs.Ytdfngmplfgifiaa
