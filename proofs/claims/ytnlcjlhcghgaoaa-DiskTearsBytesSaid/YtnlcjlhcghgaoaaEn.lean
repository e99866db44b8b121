
/-
  Runs by computation: drawn regions are sound, whatever touches one thing is ordered.
-/
import Derived.Test.YtnlcjlhcghgaoaaEm
namespace Go.Proofs.Ytnlcjlhcghgaoaa.EX
open Go Go.RowKit
set_option linter.unusedVariables false
set_option linter.unusedSimpArgs false
set_option linter.unusedSectionVars false
set_option linter.unusedSectionVars false
set_option maxRecDepth 10000
variable [FC]

namespace Sq
variable {P : Program} {ih : Job → St → Option Ou} {ops : Array Oper} {pm wr : Tr Nat} {nx0 n : Nat} {s0 : Ds} (C : Sq P ih ops pm wr nx0 n s0) (hih : SpecAll P ih)
include hih
theorem dom (h0 : ∀ j b, C.V 0 j = some b → j < C.nx 0) : ∀ i, i ≤ ops.size → ∀ j b, C.V i j = some b → j < C.nx i := by
  intro i
  induction i with
  | zero => exact fun _ => h0
  | succ i ih' =>
    intro hi j b h
    have hi' : i < ops.size := by omega
    have IH := ih' (by omega)
    rcases C.facts hih hi' with ⟨_, q, _⟩ | ⟨a, _, q, _⟩ | ⟨k, _, q⟩ | ⟨ms, K2, _, q⟩
    · rw [q.V] at h; rw [q.nx]; exact IH j b h
    · rw [q.V] at h; rw [q.nx]; exact IH j b h
    · rw [q.V, setF] at h
      rw [q.nx]
      by_cases e : j = C.nx i
      · omega
      · rw [if_neg e] at h; have := IH j b h; omega
    · rw [q.V] at h
      by_cases hj : j ∈ ms.map (·.2)
      · rw [if_pos hj] at h; exact Nat.lt_of_lt_of_le (IH j b h) q.nx
      · rw [if_neg hj] at h
        rcases Nat.lt_or_ge j (C.nx (i + 1)) with hlt | hge
        · exact hlt
        · exfalso
          by_cases hw : j ∈ C.wl i
          · rcases q.wl j hw with ⟨k, hk⟩ | hr
            · rw [if_neg hj] at hk
              have := IH j k hk
              have := q.nx
              omega
            · omega
          · rw [q.K2 j (Or.inr hge) hw, if_neg hj] at h
            have := IH j b h
            have := q.nx
            omega
/-- Who touches what. -/
theorem cls (h0 : ∀ j b, C.V 0 j = some b → j < C.nx 0) {i j : Nat} (hi : i < ops.size) (ht : C.tch i j) : (C.kd i = .new ∧ j = C.nx i ∧ C.nx (i + 1) = C.nx i + 1) ∨ (∃ ms, C.kd i = .chain ms ∧ ((C.nx i ≤ j ∧ j < C.nx (i + 1)) ∨ (j ∈ C.wl i ∧ j < C.nx i ∧ (∃ b, C.V i j = some b) ∧ j ∉ ms.map (·.2)))) := by
  rcases C.facts hih hi with ⟨_, q, _⟩ | ⟨a, _, q, _⟩ | ⟨k, hk, q⟩ | ⟨ms, K2, hk, q⟩
  · rcases ht with h | h
    · rw [q.nx] at h; omega
    · rw [q.wl] at h; cases h
  · rcases ht with h | h
    · rw [q.nx] at h; omega
    · rw [q.wl] at h; cases h
  · rcases ht with h | h
    · rw [q.nx] at h; exact Or.inl ⟨hk, by omega, q.nx⟩
    · rw [q.wl] at h; cases h
  · refine Or.inr ⟨ms, hk, ?_⟩
    rcases ht with h | h
    · exact Or.inl h
    · rcases q.wl j h with ⟨b, hb⟩ | hr
      · by_cases hj : j ∈ ms.map (·.2)
        · rw [if_pos hj] at hb; cases hb
        · rw [if_neg hj] at hb
          exact Or.inr ⟨h, C.dom hih h0 i (by omega) j b hb, ⟨b, hb⟩, hj⟩
      · exact Or.inl hr
theorem tch_lt (h0 : ∀ j b, C.V 0 j = some b → j < C.nx 0) {i j : Nat} (hi : i < ops.size) (ht : C.tch i j) : j < C.nx (i + 1) := by
  rcases C.cls hih h0 hi ht with ⟨_, h, h'⟩ | ⟨ms, _, h | h⟩
  · omega
  · exact h.2
  · have := C.nx_le hih hi; omega
theorem new_seen {i m : Nat} {ms : List (Nat × Nat)} {K2 : Nat → Option Bx} (hm : m < ops.size) (q : C.IsChain m ms K2) (hlt : i < m) (hk : C.kd i = .new) (hj : C.nx i ∉ ms.map (·.2)) : pr (ops := ops) (pm := pm) i m := by
  refine ⟨hm, ?_⟩
  cases hb : bitOf pm m i with
  | true => rfl
  | false =>
    exfalso
    apply hj
    rw [q.mse]
    have := (C.lists hih m (by omega)).2.1 i hlt hk
    exact List.mem_map.2 ⟨(i, C.nx i), List.mem_filter.2 ⟨this, by simp [hb]⟩, rfl⟩
theorem hT (h0 : ∀ j b, C.V 0 j = some b → j < C.nx 0) {i m j : Nat} (hlt : i < m) (hm : m < ops.size) (h1 : C.tch i j) (h2 : C.tch m j) : pr (ops := ops) (pm := pm) i m := by
  have hj := C.tch_lt hih h0 (by omega : i < ops.size) h1
  have hmono := C.nx_mono hih (by omega : i + 1 ≤ m) (by omega)
  rcases C.cls hih h0 hm h2 with ⟨_, h, _⟩ | ⟨ms, hk, h | ⟨hw, _, _, hnm⟩⟩
  · omega
  · omega
  · rcases C.facts hih hm with ⟨g, _⟩ | ⟨a, g, _⟩ | ⟨b, g, _⟩ | ⟨ms2, K2, g, q⟩
    · rw [hk] at g; cases g
    · rw [hk] at g; cases g
    · rw [hk] at g; cases g
    · rw [hk] at g; cases g
      rcases C.cls hih h0 (by omega : i < ops.size) h1 with ⟨hk', e, _⟩ | ⟨ms', hk', _⟩
      · subst e
        exact C.new_seen hih hm q hlt hk' hnm
      · exact C.chains hih m hm ms hk i ms' hlt hk'
theorem owner {j : Nat} (h1 : C.nx 0 ≤ j) : ∀ i, i ≤ ops.size → j < C.nx i → ∃ k, k < i ∧ C.nx k ≤ j ∧ j < C.nx (k + 1)
  | 0, _, h => by omega
  | i + 1, hi, h => by
    rcases Nat.lt_or_ge j (C.nx i) with hlt | hge
    · obtain ⟨k, g1, g2⟩ := owner h1 i (by omega) hlt
      exact ⟨k, by omega, g2⟩
    · exact ⟨i, by omega, hge, h⟩
theorem same_range {j k m : Nat} (hk : k < ops.size) (hm : m < ops.size) (h1 : C.nx k ≤ j ∧ j < C.nx (k + 1)) (h2 : C.nx m ≤ j ∧ j < C.nx (m + 1)) : k = m := by
  rcases Nat.lt_trichotomy k m with h | h | h
  · have := C.nx_mono hih (by omega : k + 1 ≤ m) (by omega); omega
  · exact h
  · have := C.nx_mono hih (by omega : m + 1 ≤ k) (by omega); omega
theorem base (h0 : ∀ j b, C.V 0 j = some b → j < C.nx 0) {j : Nat} (hj : j < C.nx 0) : ∀ i, i ≤ ops.size → ∀ b, C.V i j = some b → ∃ b', C.V 0 j = some b'
  | 0, _, b, h => ⟨b, h⟩
  | i + 1, hi, b, h => by
    have hi' : i < ops.size := by omega
    by_cases ht : C.tch i j
    · have hmono := C.nx_mono hih (Nat.zero_le i) (by omega)
      rcases C.cls hih h0 hi' ht with ⟨_, e, _⟩ | ⟨ms, _, g | ⟨_, _, ⟨b', hb'⟩, _⟩⟩
      · omega
      · omega
      · exact base h0 hj i (by omega) b' hb'
    · rw [C.hV hih hi' ht] at h
      exact base h0 hj i (by omega) b h
theorem ki_ok (h0 : ∀ j b, C.V 0 j = some b → j < C.nx 0) {S0 : Nat → Prop} (hS0 : ∀ j b, C.V 0 j = some b → S0 j) {i j : Nat} {b : Bx} (hi : i < ops.size) (h : C.Ki i j = some b) :
    C.V i j = some b ∧ (S0 j ∨ ∃ k, pr (ops := ops) (pm := pm) k i ∧ C.nx k ≤ j ∧ j < C.nx (k + 1)) ∧ ∀ m, m < ops.size → C.tch m j → m = i ∨ pr (ops := ops) (pm := pm) m i ∨ pr (ops := ops) (pm := pm) i m := by
  have later : ∀ {m}, C.V i j = some b → i < m → m < ops.size → C.tch m j → ∃ ms K2, C.kd m = .chain ms ∧ C.IsChain m ms K2 ∧ j ∈ C.wl m := by
    intro m hv hlt hm ht
    have hj := C.dom hih h0 i (by omega) j b hv
    have hmono := C.nx_mono hih (by omega : i ≤ m) (by omega)
    rcases C.cls hih h0 hm ht with ⟨_, e, _⟩ | ⟨ms, hk, g | ⟨g, _⟩⟩
    · omega
    · omega
    · rcases C.facts hih hm with ⟨g', _⟩ | ⟨a, g', _⟩ | ⟨b, g', _⟩ | ⟨ms2, K2, g', q⟩
      · rw [hk] at g'; cases g'
      · rw [hk] at g'; cases g'
      · rw [hk] at g'; cases g'
      · exact ⟨ms2, K2, g', q, g⟩
  rcases C.facts hih hi with ⟨hk, q, _⟩ | ⟨a, hk, q, _, _, hseen, hall⟩ | ⟨k, hk, q⟩ | ⟨ms, K2, hk, q⟩
  · unfold Ki at h; rw [hk] at h; cases h
  · unfold Ki at h
    rw [hk] at h
    simp only at h
    by_cases e : j = a
    · subst e
      rw [if_pos rfl] at h
      have hj := C.dom hih h0 i (by omega) j b h
      obtain ⟨_, _, l3, _, l5, _⟩ := C.lists hih i (by omega)
      have hs : j < nx0 ∨ ∃ q ∈ (C.sq i).ol, bitOf pm i q.1 = true ∧ q.2.1 ≤ j ∧ j < q.2.2 := by
        unfold seenB at hseen
        simp only [Bool.or_eq_true, List.any_eq_true, Bool.and_eq_true] at hseen
        rcases hseen with h1 | ⟨q, h1, ⟨h2, h3⟩, h4⟩
        · rw [Nat.blt, Nat.ble_eq] at h1; exact Or.inl h1
        · rw [Nat.blt, Nat.ble_eq] at h4; exact Or.inr ⟨q, h1, h2, by simpa using h3, h4⟩
      have hn0 : C.nx 0 = nx0 := by unfold nx; rw [C.zero, C.n0]
      have own : ∀ m, m < ops.size → C.nx m ≤ j → j < C.nx (m + 1) → pr (ops := ops) (pm := pm) m i := by
        intro m hm h1 h2
        rcases hs with h3 | ⟨q', h3, h4, h5, h6⟩
        · have := C.nx_mono hih (Nat.zero_le m) (by omega); omega
        · obtain ⟨g1, g2, g3⟩ := l5 q' h3
          have := C.same_range hih (by omega) hm ⟨g2 ▸ h5, g3 ▸ h6⟩ ⟨h1, h2⟩
          exact ⟨hi, by rw [← this]; exact h4⟩
      refine ⟨h, ?_, fun m hm ht => ?_⟩
      · rcases hs with h3 | ⟨q', h3, h4, h5, h6⟩
        · obtain ⟨b', hb'⟩ := C.base hih h0 (by omega) i (by omega) b h
          exact Or.inl (hS0 j b' hb')
        · obtain ⟨g1, g2, g3⟩ := l5 q' h3
          exact Or.inr ⟨q'.1, ⟨hi, h4⟩, g2 ▸ h5, g3 ▸ h6⟩
      · rcases Nat.lt_trichotomy m i with hlt | rfl | hgt
        · right; left
          rcases C.cls hih h0 hm ht with ⟨_, e, e'⟩ | ⟨ms, hk', g | ⟨g, _⟩⟩
          · exact own m hm (by omega) (by omega)
          · exact own m hm g.1 g.2
          · have hc := l3 m ms hlt hk'
            have := (List.all_eq_true.1 hall) _ hc
            simp only [Bool.or_eq_true, Bool.not_eq_true'] at this
            rcases this with this | this
            · exact ⟨hi, this⟩
            · rw [List.contains_iff_mem.2 g] at this; cases this
        · exact Or.inl rfl
        · right; right
          obtain ⟨ms, K2, hk', q', g⟩ := later h hgt hm ht
          obtain ⟨_, _, _, _, _, l6⟩ := C.lists hih m (by omega)
          have hr := l6 i j hgt hk
          have := (List.all_eq_true.1 q'.ra) _ hr
          simp only [Bool.or_eq_true, Bool.not_eq_true'] at this
          rcases this with this | this
          · exact ⟨hm, this⟩
          · rw [List.contains_iff_mem.2 g] at this; cases this
    · rw [if_neg e] at h; cases h
  · unfold Ki at h; rw [hk] at h; cases h
  · unfold Ki at h
    rw [hk] at h
    simp only at h
    by_cases e : j ∈ ms.map (·.2)
    · rw [if_pos e] at h; cases h
    · rw [if_neg e] at h
      have hj := C.dom hih h0 i (by omega) j b h
      have before : ∀ m, m < i → C.tch m j → pr (ops := ops) (pm := pm) m i := by
        intro m hlt ht
        rcases C.cls hih h0 (by omega) ht with ⟨hk', e', _⟩ | ⟨ms', hk', _⟩
        · subst e'; exact C.new_seen hih hi q hlt hk' e
        · exact C.chains hih i hi ms hk m ms' hlt hk'
      refine ⟨h, ?_, fun m hm ht => ?_⟩
      · rcases Nat.lt_or_ge j (C.nx 0) with hlt | hge
        · obtain ⟨b', hb'⟩ := C.base hih h0 hlt i (by omega) b h
          exact Or.inl (hS0 j b' hb')
        · obtain ⟨k, hk1, hk2⟩ := C.owner hih hge i (by omega) hj
          exact Or.inr ⟨k, before k hk1 (Or.inl hk2), hk2⟩
      · rcases Nat.lt_trichotomy m i with hlt | rfl | hgt
        · exact Or.inr (Or.inl (before m hlt ht))
        · exact Or.inl rfl
        · obtain ⟨ms', K2', hk', q', g⟩ := later h hgt hm ht
          exact Or.inr (Or.inr (C.chains hih m hm ms' hk' i ms hgt hk))
end Sq
end Go.Proofs.Ytnlcjlhcghgaoaa.EX
