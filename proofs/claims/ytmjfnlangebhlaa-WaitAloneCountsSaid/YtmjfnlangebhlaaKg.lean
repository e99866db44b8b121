
/-
  Runs by computation: functions that are known to return a new row.
-/
import Derived.Test.YtmjfnlangebhlaaEp
import Derived.Laws.AppendOwn
namespace Go.Proofs.Ytmjfnlangebhlaa.EX
open Go Go.RowKit
set_option linter.unusedVariables false
set_option linter.unusedSimpArgs false
set_option linter.unusedSectionVars false
set_option maxRecDepth 10000
variable [FC]
section
variable {P : Program} {w0 : World} {F : List RF} {B : Pl} {K : Nat → Option Bx} {T : Nat → Option SV} {n nx : Nat} {S : Nat → Prop} {a : Act} {w : World}
/-- A row that somebody else has laid. -/
theorem Re.given (R : Re w0 F B K S w) {w' : World} (hb : Below w.heap.size w w') (k : Bx) (rest : List Value) (b c : Nat) (hk : bdK S k) (hr : rowOk c k rest) (hS : ∀ j, S j → j < nx) (hlo : w.heap.size ≤ b) (hh : w'.heap[b]? = some (objOf B k rest)) :
    Re w0 F (setPl B nx (b, c)) (setF K nx (some k)) (ext S nx (nx + 1)) w' ∧ Ag nx (nx + 1) B (setPl B nx (b, c)) := by
  have hag' : Ag nx (nx + 1) B (setPl B nx (b, c)) := fun i hi => by unfold setPl; rw [if_neg (by omega)]
  have hag : ∀ i, S i → setPl B nx (b, c) i = B i := hag'.on hS
  have R' := R.below hb
  have hold : ∀ i k', K i = some k' → S i := fun i k' h => (R.bx i k' h).1
  refine ⟨⟨fun i k' h => ?_, fun i j ki kj hi hj he => ?_, fun i k' h => ?_, fun f hf => ?_, R'.gr⟩, hag'⟩
  · unfold setF at h
    by_cases e : i = nx
    · subst e; simp at h; subst h
      refine ⟨Or.inr ⟨Nat.le_refl _, by omega⟩, bdK_mono ext_sub hk, rest, by simpa [setPl] using hr, ?_⟩
      rw [objOf_ag hag hk]
      simp only [setPl, if_true]
      exact hh
    · rw [if_neg e] at h
      obtain ⟨h1, h2, rest', h4, h3⟩ := R'.bx i k' h
      refine ⟨Or.inl h1, bdK_mono ext_sub h2, rest', by rw [hag i h1]; exact h4, ?_⟩
      rw [objOf_ag hag h2, hag i h1]; exact h3
  · unfold setF at hi hj
    by_cases e1 : i = nx <;> by_cases e2 : j = nx
    · omega
    · rw [if_neg e2] at hj
      subst e1
      rw [hag j (hold _ _ hj)] at he
      simp only [setPl, if_true] at he
      have := R.lt hj
      omega
    · rw [if_neg e1] at hi
      subst e2
      rw [hag i (hold _ _ hi)] at he
      simp only [setPl, if_true] at he
      have := R.lt hi
      omega
    · rw [if_neg e1] at hi; rw [if_neg e2] at hj
      rw [hag i (hold _ _ hi), hag j (hold _ _ hj)] at he
      exact R.nd i j _ _ hi hj he
  · unfold setF at h
    by_cases e : i = nx
    · subst e; simp only [setPl, if_true]; exact Nat.le_trans R.gr.1.size hlo
    · rw [if_neg e] at h
      rw [hag i (hold _ _ h)]; exact R.lo i k' h
  · obtain ⟨h1, h2⟩ := R'.fs f hf
    refine ⟨h1, fun i k' h => ?_⟩
    unfold setF at h
    by_cases e : i = nx
    · subst e; simp only [setPl, if_true]
      intro hb'
      have := f.lt w (R.fs f hf).1 _ hb'
      omega
    · rw [if_neg e] at h
      rw [hag i (hold _ _ h)]; exact h2 i k' h
/-- A function that returns a new row: its element's type and size, its length, its cells, and what is asked. -/
abbrev KnR := List SV → Option (TypeId × Nat × Nat × List SV × List (Value × Value))
def kgRow (f0 : FuncId) (g : KnR) : KnG := fun f args st => match Nat.beq f f0 with
  | true => match g args with
    | some (ty, sz, l, cs, ps) => match tinyB st.m.nx with
      | true => match l with
        | 0 => some ⟨.ret (.v (.slice none 0 0)), ⟨st.m, st.orc, ps ++ st.cnd⟩⟩
        | l + 1 => some ⟨.ret (.r st.m.nx 0 (l + 1) (l + 1)), ⟨st.m.newR ⟨ty, cs, sz, false, []⟩, st.orc, ps ++ st.cnd⟩⟩
      | false => none
    | none => none
  | false => none
def RowOk (P : Program) (f0 : FuncId) (g : KnR) : Prop := ∀ args ty sz l cs ps, g args = some (ty, sz, l, cs, ps) → bdL (fun _ => False) cs ∧ (Tru ps → ∀ B w, Calls P f0 (denL B args).toArray w fun e w' =>
  ∃ v, e = .returned v ∧ w'.ownsRow w.heap.size ty sz v l (denL B cs) ∧ (l = 0 → v = .slice none 0 0) ∧ Below w.heap.size w w')
theorem kgRow_ok {f0 : FuncId} {g : KnR} (h : RowOk P f0 g) : KnGOk P (kgRow f0 g) := by
  intro f args st o hx
  unfold kgRow at hx
  split at hx
  · rename_i hf
    have := Nat.eq_of_beq_eq_true hf
    subst this
    split at hx
    · rename_i ty sz l cs ps hg
      obtain ⟨hc, hcall⟩ := h _ _ _ _ _ _ hg
      split at hx
      · rename_i ht
        split at hx
        · simp only [Option.some.injEq] at hx
          subst hx
          refine ⟨⟨⟨ps, rfl⟩, Fm.refl _⟩, trivial, fun tr w0 F B S w hS R hargs => (hcall (fun q hq => tr q (List.mem_append_left _ hq)) B w).mono ?_⟩
          rintro e w' ⟨v, rfl, h1, h2, h3⟩
          obtain rfl := h2 rfl
          exact ⟨B, Ag.refl _ _ _, Nat.le_refl _, by rw [ext_self]; exact R.below h3, by simp [den], by simp [bd]⟩
        · rename_i l
          simp only [Option.some.injEq] at hx
          subst hx
          refine ⟨⟨⟨ps, rfl⟩, Fm.newR ht _⟩, trivial, fun tr w0 F B S w hS R hargs => (hcall (fun q hq => tr q (List.mem_append_left _ hq)) B w).mono ?_⟩
          rintro e w' ⟨v, rfl, ⟨hl, hv⟩, h2, h3⟩
          rcases hv with ⟨_, h0⟩ | ⟨b, cap, cur, rfl, hlo, hh, hn, hm, hs, hx⟩
          · cases h0
          · have hlen : (denL B cs).length = cs.length := by rw [denL_map]; simp
            rw [hlen] at hl
            have ecur : cur = (denL B cs ++ cur.toList.drop ((l + 1) * sz)).toArray := by
              rw [← hx, List.take_append_drop]
            obtain ⟨R2, A2⟩ := R.given (nx := st.m.nx) h3 ⟨ty, cs, sz, false, []⟩ (cur.toList.drop ((l + 1) * sz)) b (cap - (l + 1)) ⟨bdL_mono (fun _ h => h.elim) hc, fun e => by cases e⟩
              (by
                have e1 : (cap - (l + 1)) * sz = cap * sz - (l + 1) * sz := Nat.sub_mul _ _ _
                have e2 : (l + 1) * sz ≤ cap * sz := Nat.mul_le_mul_right _ hn
                have e3 : cap * sz ≤ maxLen * sz := Nat.mul_le_mul_right _ hm
                refine ⟨by simp [hs, e1], Or.inr ?_⟩
                show (cap - (l + 1)) * sz + cs.length ≤ maxLen * sz
                rw [hl, e1, Nat.sub_add_cancel e2]
                exact e3) hS hlo (by rw [objOf_cells rfl]; rw [← ecur]; exact hh)
            refine ⟨_, by simpa [Mm.newR] using A2, by simp [Mm.newR], ?_, ?_, ?_⟩
            · simp only [Mm.newR, Tr.get_set ht]
              exact R2
            · simp only [den, setPl, if_true, Ending.returned.injEq, Value.slice.injEq, true_and]
              omega
            · simp [bd, Mm.newR, ext]
      · cases hx
    · cases hx
  · cases hx
end
end Go.Proofs.Ytmjfnlangebhlaa.EX
