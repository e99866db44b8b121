
/-
  Layer 27: every thread has its turn.
-/
import Derived.Test.YtfkmcibglaiakaaDoorRows
import Derived.Test.YtfkmcibglaiakaaDoorBase
import Derived.Test.YtfkmcibglaiakaaDoorScN
import Derived.WalkKit
namespace Go.Proofs.YtfkmcibglaiakaaDoor
open Go Go.RowKit SZ
set_option linter.unusedVariables false
set_option linter.unusedSimpArgs false
set_option maxRecDepth 100000
attribute [local irreducible] post GD Nxt NxtAll
/-- One cell of a row, stored. -/
theorem st_at {P : Program} {ty ty' : TypeId} {b off : Nat} {cs : List Value} {v : Value} {w : World} (hs : (P.info? ty).map (·.size) = some 1) (hv : v.cells.toList = [v]) (h1 : v.oneCell' = true) (hh : w.heap[b]? = some (.cells cs.toArray ty' (0, 0))) (ho : off < cs.length) :
    (storeVar ty ⟨b, off, none⟩ v).run P w = .ok () (w.setCells b off [v]) ∧ (w.setCells b off [v]).heap[b]? = some (.cells (cs.set off v).toArray ty' (0, 0)) := by
  have h : stS P ty cs off v = some (setL cs off v.cells.toList) := by
    unfold stS
    rw [hs]
    have e : v.cells.size = 1 := by rw [← Array.length_toList, hv]; rfl
    simp only [e, hv, List.all_cons, List.all_nil, h1, Bool.and_true]
    rw [if_pos ⟨trivial, by omega, trivial⟩]
  obtain ⟨hr, _⟩ := stS_run h hh
  rw [hv] at hr
  exact ⟨hr, heap_setCells b ty' [v] off w cs hh⟩
theorem made_v (v : Value) (h1 : v.cells = #[v]) (n : Nat) : madeCells v.cells n = (List.replicate n v).toArray := by
  apply Array.ext'
  apply List.ext_getElem
  · simp [madeCells, h1]
  · intro i h1' h2
    simp [madeCells, h1, Nat.mod_one]
theorem mk_runb (n : Nat) (hn : n ≤ 512) (w : World) : (Instr.makeSlice 26 (.int .i64 (n : Int)) (.int .i64 (n : Int))).run Tryd.prog w = .ok (.slice (some ⟨w.heap.size, 0, none⟩) n n) (w.alloc (.cells (List.replicate n (Value.bool false)).toArray 4 (0, 0))) := by
  have hI : (Tryd.prog.info? 4).map (fun i => (i.zero, i.size, i.bytes)) = some (some (.bool false), 1, 1) := by kernel_rfl
  cases hi : Tryd.prog.info? 4 with
  | none => rw [hi] at hI; cases hI
  | some i =>
    rw [hi] at hI
    simp only [Option.map_some, Option.some.injEq, Prod.mk.injEq] at hI
    obtain ⟨h1, h2, h3⟩ := hI
    have h := run_makeSlice (P := Tryd.prog) w 26 4 i (.bool false) Tryd.underlying26 hi h1 .i64 .i64 (n : Int) (n : Int) (by omega) (by omega) (by rw [h2, Int.toNat_natCast]; omega) (by rw [h3]; omega) (by omega)
    rw [h2, Int.toNat_natCast, Nat.mul_one, made_v (.bool false) rfl] at h
    exact h
/-- A row of bools. -/
def rfBl (g : Nat) (T : List Bool) : RF := ⟨fun b => b = g, fun w => w.heap[g]? = some (.cells (T.map Value.bool).toArray 4 (0, 0)), fun w h b hb => by subst hb; exact (Array.getElem?_eq_some_iff.1 h).1, fun w w' h hb => (hb g rfl).trans h⟩
theorem bl_at {w : World} {g : Nat} {T : List Bool} (h : (rfBl g T).P w) (j : Nat) (hj : j < T.length) : w.cell? ⟨g, 0 + j * 1, none⟩ = some (.bool (T.getD j false)) := by
  rw [Nat.mul_one, Nat.zero_add]
  refine cel_of h ?_
  simp [List.getD, List.getElem?_eq_getElem hj]
theorem bl_st {w : World} {g : Nat} {T : List Bool} (h : (rfBl g T).P w) (j : Nat) (hj : j < T.length) (b : Bool) : (storeVar 4 ⟨g, 0 + j * 1, none⟩ (.bool b)).run Tryd.prog w = .ok () (w.setCells g j [.bool b]) ∧ (rfBl g (T.set j b)).P (w.setCells g j [.bool b]) := by
  obtain ⟨hr, he⟩ := st_at (P := Tryd.prog) (ty := 4) (v := .bool b) (off := j) (by kernel_rfl) (by kernel_rfl) (by kernel_rfl) h (by simpa using hj)
  refine ⟨by rw [Nat.mul_one, Nat.zero_add]; exact hr, ?_⟩
  show (w.setCells g j [.bool b]).heap[g]? = some (Obj.cells ((T.set j b).map Value.bool).toArray 4 (0, 0))
  rw [List.map_set]
  exact he
theorem rep_f (n k : Nat) : (List.replicate n false).getD k false = false := by
  simp only [List.getD, List.getElem?_replicate]
  split <;> rfl
def cntF (f : Nat → Bool) : Nat → Nat
  | 0 => 0
  | n + 1 => cntF f n + if f n = true then 1 else 0
theorem cntF_congr {f g : Nat → Bool} : ∀ n, (∀ d, d < n → f d = g d) → cntF f n = cntF g n
  | 0, _ => rfl
  | n + 1, h => by unfold cntF; rw [cntF_congr n (fun d hd => h d (by omega)), h n (by omega)]
theorem cntF_shift (f : Nat → Bool) : ∀ n, cntF (fun e => f (e + 1)) n + (if f 0 = true then 1 else 0) = cntF f n + if f n = true then 1 else 0
  | 0 => by simp [cntF]
  | n + 1 => by
    have ih := cntF_shift f n
    unfold cntF
    omega
theorem cntF_zero {f : Nat → Bool} : ∀ n, cntF f n = 0 → ∀ d, d < n → f d = false
  | 0, _, d, h => by omega
  | n + 1, h, d, hd => by
    unfold cntF at h
    by_cases hn : f n = true
    · rw [if_pos hn] at h; omega
    · rw [if_neg hn] at h
      by_cases e : d = n
      · subst e; simpa using hn
      · exact cntF_zero n (by omega) d (by omega)
theorem cntF_none {f : Nat → Bool} : ∀ n, (∀ d, d < n → f d = false) → cntF f n = 0
  | 0, _ => rfl
  | n + 1, h => by unfold cntF; rw [cntF_none n (fun d hd => h d (by omega)), h n (by omega)]; rfl
theorem cntF_mono {f : Nat → Bool} {d : Nat} : ∀ n, d ≤ n → cntF f d ≤ cntF f n
  | 0, h => by obtain rfl : d = 0 := by omega
               exact Nat.le_refl _
  | n + 1, h => by
    by_cases e : d = n + 1
    · subst e; exact Nat.le_refl _
    · have := cntF_mono (f := f) (d := d) n (by omega)
      show _ ≤ cntF f n + _
      omega
theorem cntF_le (f : Nat → Bool) : ∀ n, cntF f n ≤ n
  | 0 => Nat.le_refl _
  | n + 1 => by have := cntF_le f n; unfold cntF; split <;> omega
theorem cntF_gap {f : Nat → Bool} {d : Nat} (hd : f d = true) : ∀ m, (∀ e, d < e → e < d + 1 + m → f e = false) → cntF f (d + 1 + m) = cntF f d + 1
  | 0, _ => by show cntF f d + _ = _; rw [if_pos hd]
  | m + 1, h => by
    show cntF f (d + 1 + m) + (if f (d + 1 + m) = true then 1 else 0) = _
    rw [cntF_gap hd m (fun e h1 h2 => h e h1 (by omega)), h (d + 1 + m) (by omega) (by omega)]
    simp
/-- The flags from a place on, round about. -/
def rot (on : List Bool) (a : Nat) : Nat → Bool := fun d => on.getD ((a + d) % on.length) false
theorem cnt_rot (on : List Bool) (h : 0 < on.length) : ∀ a, cntF (rot on a) on.length = cntF (fun d => on.getD d false) on.length
  | 0 => cntF_congr _ fun d hd => by show on.getD ((0 + d) % on.length) false = _; rw [Nat.zero_add, Nat.mod_eq_of_lt hd]
  | a + 1 => by
    rw [← cnt_rot on h a]
    have hs := cntF_shift (rot on a) on.length
    have e1 : rot on a on.length = rot on a 0 := by
      show on.getD ((a + on.length) % on.length) false = on.getD ((a + 0) % on.length) false
      rw [Nat.add_mod_right, Nat.add_zero]
    have e2 : (fun e => rot on a (e + 1)) = rot on (a + 1) := by
      funext e
      show on.getD ((a + (e + 1)) % on.length) false = on.getD ((a + 1 + e) % on.length) false
      rw [show a + (e + 1) = a + 1 + e by omega]
    rw [e1, e2] at hs
    omega
theorem nxG_hit {on : List Bool} {s k0 : Nat} (h0 : on.getD ((s + k0) % on.length) false = true) : ∀ f k, k ≤ k0 → k0 < k + f → (∀ j, k ≤ j → j < k0 → on.getD ((s + j) % on.length) false = false) → nxG on s f k = (((s + k0) % on.length : Nat) : Int)
  | 0, k, h1, h2, _ => by omega
  | f + 1, k, h1, h2, h3 => by
    unfold nxG
    by_cases e : k = k0
    · subst e; rw [if_pos h0]
    · rw [if_neg (by rw [h3 k (Nat.le_refl _) (by omega)]; simp)]
      exact nxG_hit h0 f (k + 1) (by omega) (by omega) (fun j h4 h5 => h3 j (by omega) h5)
theorem nxG_or (on : List Bool) (s : Nat) : ∀ f k, (nxG on s f k = -1 ∧ ∀ j, k ≤ j → j < k + f → on.getD ((s + j) % on.length) false = false) ∨ ∃ k0, on.getD ((s + k0) % on.length) false = true ∧ nxG on s f k = (((s + k0) % on.length : Nat) : Int)
  | 0, k => Or.inl ⟨rfl, fun j h1 h2 => by omega⟩
  | f + 1, k => by
    unfold nxG
    by_cases e : on.getD ((s + k) % on.length) false = true
    · rw [if_pos e]; exact Or.inr ⟨k, e, rfl⟩
    · rw [if_neg e]
      rcases nxG_or on s f (k + 1) with ⟨h1, h2⟩ | ⟨k0, h1, h2⟩
      · refine Or.inl ⟨h1, fun j h3 h4 => ?_⟩
        by_cases e2 : j = k
        · subst e2; simpa using e
        · exact h2 j (by omega) (by omega)
      · exact Or.inr ⟨k0, h1, h2⟩
theorem next_none {on : List Bool} (last : Int) (h : cntF (fun d => on.getD d false) on.length = 0) : nextS on last = -1 := by
  unfold nextS
  rcases nxG_or on (nxB on last) on.length 0 with ⟨h1, _⟩ | ⟨k0, h1, _⟩
  · exact h1
  · have hp : 0 < on.length := by
      rcases Nat.eq_zero_or_pos on.length with q | q
      · rw [List.eq_nil_of_length_eq_zero q] at h1; simp at h1
      · exact q
    have this : on.getD ((nxB on last + k0) % on.length) false = false := cntF_zero _ h _ (Nat.mod_lt (nxB on last + k0) hp)
    rw [this] at h1
    cases h1
theorem next_some {on : List Bool} (last : Int) (h : ¬cntF (fun d => on.getD d false) on.length = 0) : ∃ a : Nat, a < on.length ∧ on.getD a false = true ∧ nextS on last = (a : Int) := by
  have hp : 0 < on.length := by
    rcases Nat.eq_zero_or_pos on.length with q | q
    · rw [q] at h; exact absurd rfl h
    · exact q
  unfold nextS
  rcases nxG_or on (nxB on last) on.length 0 with ⟨_, h2⟩ | ⟨k0, h1, h2⟩
  · refine absurd ?_ h
    rw [← cnt_rot on hp (nxB on last)]
    exact cntF_none _ fun d hd => h2 d (Nat.zero_le _) (by omega)
  · exact ⟨_, Nat.mod_lt _ hp, h1, h2⟩
theorem find_next (f : Nat → Bool) (n : Nat) : ∀ m d, d + m = n → 0 < m → ∃ d', d < d' ∧ d' ≤ n ∧ (d' = n ∨ f d' = true) ∧ ∀ e, d < e → e < d' → f e = false
  | 0, d, _, h => by omega
  | m + 1, d, h, _ => by
    by_cases e : m = 0
    · exact ⟨d + 1, by omega, by omega, Or.inl (by omega), fun e h1 h2 => by omega⟩
    · by_cases hf : f (d + 1) = true
      · exact ⟨d + 1, by omega, by omega, Or.inr hf, fun e h1 h2 => by omega⟩
      · obtain ⟨d', h1, h2, h3, h4⟩ := find_next f n m (d + 1) (by omega) (by omega)
        refine ⟨d', by omega, h2, h3, fun e h5 h6 => ?_⟩
        by_cases e2 : e = d + 1
        · subst e2; simpa using hf
        · exact h4 e (by omega) h6
theorem next_rot {on : List Bool} {a d d' : Nat} (ha : on.getD (a % on.length) false = true) (hd : d < on.length) (h1 : d < d') (h2 : d' ≤ on.length) (h3 : d' = on.length ∨ rot on a d' = true) (h4 : ∀ e, d < e → e < d' → rot on a e = false) : nextS on (((a + d) % on.length : Nat) : Int) = (((a + d') % on.length : Nat) : Int) := by
  have hp : 0 < on.length := by omega
  have hx := Nat.mod_lt (a + d) hp
  have hb : nxB on (((a + d) % on.length : Nat) : Int) = (a + d) % on.length + 1 := by
    unfold nxB
    rw [if_neg (by omega), Int.toNat_natCast]
  have hm : ∀ j, ((a + d) % on.length + 1 + j) % on.length = (a + (d + 1 + j)) % on.length := fun j => by
    rw [show (a + d) % on.length + 1 + j = (a + d) % on.length + (1 + j) by omega, Nat.mod_add_mod, show a + d + (1 + j) = a + (d + 1 + j) by omega]
  unfold nextS
  rw [hb]
  have hk := nxG_hit (on := on) (s := (a + d) % on.length + 1) (k0 := d' - d - 1) (by
    rw [hm, show d + 1 + (d' - d - 1) = d' by omega]
    rcases h3 with rfl | h3
    · rw [Nat.add_mod_right]; exact ha
    · exact h3) on.length 0 (Nat.zero_le _) (by omega) (fun j _ hj => by rw [hm]; exact h4 (d + 1 + j) (by omega) (by omega))
  rw [hk, hm, show d + 1 + (d' - d - 1) = d' by omega]
theorem mod_wrap {a d n : Nat} (ha : a < n) (hd : d ≤ n) : (a + d) % n = if a + d < n then a + d else a + d - n := by
  split
  · next h => exact Nat.mod_eq_of_lt h
  · next h => rw [Nat.mod_eq_sub_mod (by omega), Nat.mod_eq_of_lt (by omega)]
/-- What stands between two rounds. -/
structure FI (on : List Bool) (a i d : Nat) (met : List Bool) : Prop where
  dn : d ≤ on.length
  ct : cntF (rot on a) d = i
  od : d = on.length ∨ rot on a d = true
  ml : met.length = on.length
  mt : ∀ e, e < on.length → met.getD ((a + e) % on.length) false = (decide (e < d) && rot on a e)
theorem FI.step {on : List Bool} {a i d d' : Nat} {met : List Bool} (h : FI on a i d met) (ha : a < on.length) (hd : d < on.length) (h1 : d < d') (h2 : d' ≤ on.length) (h3 : d' = on.length ∨ rot on a d' = true) (h4 : ∀ e, d < e → e < d' → rot on a e = false) : FI on a (i + 1) d' (met.set ((a + d) % on.length) true) := by
  have hod := h.od.resolve_left (by omega)
  refine ⟨h2, ?_, h3, by rw [List.length_set]; exact h.ml, fun e he => ?_⟩
  · have := cntF_gap hod (d' - d - 1) (fun e h5 h6 => h4 e h5 (by omega))
    rw [show d + 1 + (d' - d - 1) = d' by omega, h.ct] at this
    exact this
  · have w1 := mod_wrap ha (Nat.le_of_lt hd)
    have w2 := mod_wrap ha (Nat.le_of_lt he)
    have hlt := Nat.mod_lt (a + d) (show 0 < on.length by omega)
    by_cases hed : e = d
    · subst hed
      simp [List.getD, List.getElem?_set, h.ml, hlt, h1, hod]
    · have hne : (a + d) % on.length ≠ (a + e) % on.length := by rw [w1, w2]; split <;> split <;> omega
      have hg : (met.set ((a + d) % on.length) true).getD ((a + e) % on.length) false = met.getD ((a + e) % on.length) false := by simp [List.getD, List.getElem?_set, hne]
      rw [hg, h.mt e he]
      by_cases he1 : e < d
      · rw [decide_eq_true he1, decide_eq_true (by omega)]
      · rw [decide_eq_false he1]
        by_cases he2 : e < d'
        · rw [h4 e (by omega) he2]; simp
        · rw [decide_eq_false he2]
noncomputable def faC : Cfg := ⟨goZ 60 [0] [.code (bodyOf Tryd.f9)], ⟨0, [], []⟩⟩
noncomputable def faS (on : List Bool) (a : Option Addr) (cp : Nat) (last : Int) (l j : Nat) : SS := ⟨79, [(0, .v (.slice a on.length cp)), (1, .v (.int .i64 last)), (5, .v (.bool true)), (6, .v (.int .i64 (l : Int))), (7, .v (.int .i64 (j : Int)))], []⟩
noncomputable def fbC : Cfg := ⟨goZ 60 [0] faC.k.tail, ⟨0, [], []⟩⟩
noncomputable def fbS (on : List Bool) (a : Option Addr) (cp l g at_ a0 i : Nat) : SS := ⟨79, [(0, .v (.slice a on.length cp)), (5, .v (.bool true)), (6, .v (.int .i64 (l : Int))), (8, .v (.slice (some ⟨g, 0, none⟩) on.length on.length)), (9, .v (.int .i64 (at_ : Int))), (10, .v (.int .i64 (a0 : Int))), (11, .v (.int .i64 (i : Int)))], []⟩
set_option maxHeartbeats 8000000 in
theorem fb_e (w0 : World) (on : List Bool) (a : Option Addr) (cp b o : Nat) (ha : on.length = 0 ∨ a = some ⟨b, o, none⟩) (hl : on.length ≤ 40) (hb : on.length = 0 ∨ b < w0.heap.size) (a0 g : Nat) (hg : w0.heap.size ≤ g) (h0 : a0 < on.length) (ho : on.getD a0 false = true) (m d : Nat) (met : List Bool) (h : FI on a0 (cntF (fun d => on.getD d false) (on.length)) d met) (aa : Act) (w : World) (S : Sy w0 [] [] (fbS on a cp (cntF (fun d => on.getD d false) (on.length)) g ((a0 + d) % on.length) a0 ((cntF (fun d => on.getD d false) (on.length)))) [rfOn b o on, rfBl g met] aa w) : post Tryd.prog (.rnd (m + 1) (bodyL fbC) :: fbC.k.tail) (bodyPost Tryd.prog Tryd.f9 (fun e w' => e = .returned (.bool true) ∧ Below w0.heap.size w0 w')) .normal aa w := by
  have hd : d = on.length := by
    by_cases e : d = on.length
    · exact e
    · have h1 := h.od.resolve_left e
      have h2 := cntF_gap h1 0 (fun e h1 h2 => by omega)
      have h3 := cntF_mono (f := rot on a0) (d := d + 1 + 0) on.length (by have := h.dn; omega)
      have h4 := cnt_rot on (by omega) a0
      have h5 := h.ct
      omega
  have hat : ((a0 + d) % on.length) = a0 := by rw [hd, Nat.add_mod_right, Nat.mod_eq_of_lt h0]
  refine sy_run (c := ⟨(.rnd (m + 1) (bodyL fbC) :: fbC.k.tail), fbS on a cp (cntF (fun d => on.getD d false) (on.length)) g ((a0 + d) % on.length) a0 (cntF (fun d => on.getD d false) (on.length))⟩) ⟨0, [16]⟩ 50 S fun bs aa w S => ?_
  refine sy_reg S fun S => ?_
  refine sy_ops 3 S fun bs aa w S => ?_
  refine sy_cast 45 S (congrArg Value.bool (decide_eq_false (by omega) : decide (((cntF (fun d => on.getD d false) (on.length)) : Int) < ((cntF (fun d => on.getD d false) (on.length)) : Int)) = false)) (by kernel_rfl) fun S => ?_
  refine sy_run ⟨0, [24]⟩ 60 S fun bs aa w S => ?_
  refine sy_reg S fun S => ?_
  refine sy_ops 5 S fun bs aa w S => ?_
  refine sy_cast 77 S (congrArg Value.bool (decide_eq_true (by omega) : decide (((((a0 + d) % on.length) : Nat) : Int) = (a0 : Int)) = true)) (by kernel_rfl) fun S => ?_
  refine sy_run ⟨0, []⟩ 60 S fun bs aa w S => ?_
  exact sy_ret S (by kernel_rfl) (by kernel_rfl) fun hg => ⟨rfl, bel_gr hg⟩
set_option maxHeartbeats 8000000 in
theorem fb_s (w0 : World) (on : List Bool) (a : Option Addr) (cp b o : Nat) (ha : on.length = 0 ∨ a = some ⟨b, o, none⟩) (hl : on.length ≤ 40) (hb : on.length = 0 ∨ b < w0.heap.size) (a0 g : Nat) (hg : w0.heap.size ≤ g) (h0 : a0 < on.length) (ho : on.getD a0 false = true) (m i d : Nat) (met : List Bool) (h : FI on a0 i d met) (hi : i < (cntF (fun d => on.getD d false) (on.length))) (ih : ∀ (d : Nat) (met : List Bool) (h : FI on a0 (i + 1) d met) (aa : Act) (w : World) (S : Sy w0 [] [] (fbS on a cp (cntF (fun d => on.getD d false) (on.length)) g ((a0 + d) % on.length) a0 (i + 1)) [rfOn b o on, rfBl g met] aa w), post Tryd.prog (.rnd (m) (bodyL fbC) :: fbC.k.tail) (bodyPost Tryd.prog Tryd.f9 (fun e w' => e = .returned (.bool true) ∧ Below w0.heap.size w0 w')) .normal aa w) (aa : Act) (w : World) (S : Sy w0 [] [] (fbS on a cp (cntF (fun d => on.getD d false) (on.length)) g ((a0 + d) % on.length) a0 (i)) [rfOn b o on, rfBl g met] aa w) : post Tryd.prog (.rnd (m + 1) (bodyL fbC) :: fbC.k.tail) (bodyPost Tryd.prog Tryd.f9 (fun e w' => e = .returned (.bool true) ∧ Below w0.heap.size w0 w')) .normal aa w := by
  have hp : 0 < on.length := by omega
  have hd : d < on.length := by
    rcases h.od with e | e
    · have h4 := cnt_rot on hp a0
      have h5 := h.ct
      rw [e] at h5
      omega
    · have := h.dn
      by_cases e2 : d = on.length
      · have h4 := cnt_rot on hp a0
        have h5 := h.ct
        rw [e2] at h5
        omega
      · omega
  have hod := h.od.resolve_left (by omega)
  have hlt : ((a0 + d) % on.length) < on.length := Nat.mod_lt _ hp
  have hon : on.getD ((a0 + d) % on.length) false = true := hod
  have hmt : met.getD ((a0 + d) % on.length) false = false := by rw [h.mt d hd]; simp
  have hml : met.length = on.length := h.ml
  obtain ⟨d', q1, q2, q3, q4⟩ := find_next (rot on a0) on.length (on.length - d) d (by omega) (by omega)
  have hnx : nextS on ((((a0 + d) % on.length) : Nat) : Int) = ((((a0 + d') % on.length) : Nat) : Int) := next_rot (by rw [Nat.mod_eq_of_lt h0]; exact ho) hd q1 q2 q3 q4
  have hst := h.step h0 hd q1 q2 q3 q4
  have hLn := cntF_le (fun d => on.getD d false) on.length
  refine sy_run (c := ⟨(.rnd (m + 1) (bodyL fbC) :: fbC.k.tail), fbS on a cp (cntF (fun d => on.getD d false) (on.length)) g ((a0 + d) % on.length) a0 i⟩) ⟨0, [16]⟩ 50 S fun bs aa w S => ?_
  refine sy_reg S fun S => ?_
  refine sy_ops 3 S fun bs aa w S => ?_
  refine sy_cast 45 S (congrArg Value.bool (decide_eq_true (by omega) : decide ((i : Int) < ((cntF (fun d => on.getD d false) (on.length)) : Int)) = true)) (by kernel_rfl) fun S => ?_
  refine sy_run ⟨0, [18]⟩ 60 S fun bs aa w S => ?_
  refine sy_reg S fun S => ?_
  refine sy_ops 2 S fun bs aa w S => ?_
  refine sy_cast 49 S (congrArg Value.bool (decide_eq_false (by omega) : decide (((((a0 + d) % on.length) : Nat) : Int) < 0) = false)) (by kernel_rfl) fun S => ?_
  refine sy_ops 5 S fun bs aa w S => ?_
  refine sy_cast 54 S (congrArg Value.bool (decide_eq_false (by omega) : decide (((((a0 + d) % on.length) : Nat) : Int) ≥ (on.length : Int)) = false)) (by kernel_rfl) fun S => ?_
  refine sy_run ⟨0, [20]⟩ 60 S fun bs aa w S => ?_
  refine sy_reg S fun S => ?_
  refine sy_ops 2 S fun bs aa w S => ?_
  refine sy_ix (b := b) (off := o) (len := on.length) (n := ((a0 + d) % on.length)) (size := 1) (i := ((((a0 + d) % on.length) : Nat) : Int)) S (by rw [← ha.resolve_left (by omega)]; kernel_rfl) rfl hlt fun aa S => ?_
  refine sy_ldo S (ld_at (ty := 4) (v := .bool true) (b := b) (off := o + ((a0 + d) % on.length) * 1) (by kernel_rfl) (by rw [Nat.mul_one]; have q := S.fact (f := rfOn b o on) (by simp) ((a0 + d) % on.length) hlt; rw [hon] at q; exact q)) (by kernel_rfl) fun aa S => ?_
  refine sy_ops 4 S fun bs aa w S => ?_
  refine sy_ix (b := g) (off := 0) (len := on.length) (n := ((a0 + d) % on.length)) (size := 1) (i := ((((a0 + d) % on.length) : Nat) : Int)) S (by kernel_rfl) rfl hlt fun aa S => ?_
  refine sy_ldo S (ld_at (ty := 4) (v := .bool false) (b := g) (off := 0 + ((a0 + d) % on.length) * 1) (by kernel_rfl) (by have q := bl_at (S.fact (f := rfBl g met) (by simp)) ((a0 + d) % on.length) (by omega); rw [hmt] at q; exact q)) (by kernel_rfl) fun aa S => ?_
  refine sy_run ⟨0, [22]⟩ 60 S fun bs aa w S => ?_
  refine sy_reg S fun S => ?_
  refine sy_ops 2 S fun bs aa w S => ?_
  refine sy_ix (b := g) (off := 0) (len := on.length) (n := ((a0 + d) % on.length)) (size := 1) (i := ((((a0 + d) % on.length) : Nat) : Int)) S (by kernel_rfl) rfl hlt fun aa S => ?_
  refine sy_nm S fun bs S => ?_
  obtain ⟨hr, he⟩ := bl_st (S.fact (f := rfBl g met) (by simp)) ((a0 + d) % on.length) (by omega) true
  have hapt := (S.fs (rfBl g met) (by simp)).2
  refine sy_sto (ty := 4) (ad := ⟨g, 0 + ((a0 + d) % on.length) * 1, none⟩) (x := .v (.bool true)) (v := .bool true) S (by kernel_rfl) rfl hr (gb_setC w g _ _) (Or.inr hg) [rfOn b o on] (fun f hf => ⟨by simp only [List.mem_singleton] at hf; subst hf; simp, by
    simp only [List.mem_singleton] at hf
    subst hf
    intro hbl
    have h1 : g = b := hbl.1
    have := hb.resolve_left hbl.2
    omega⟩) (fun i hi e => hapt i hi e) fun aa S => ?_
  have S := S.add (rfBl g (met.set ((a0 + d) % on.length) true)) he hapt
  refine sy_run ⟨0, [23]⟩ 60 S fun bs aa w S => ?_
  refine sy_reg S fun S => ?_
  refine sy_ops 2 S fun bs aa w S => ?_
  refine sy_call1 S (by have q := next_t _ on a cp b o ha (by omega) (S.fact (f := rfOn b o on) (by simp)) ((((a0 + d) % on.length) : Nat) : Int); rw [hnx] at q; exact q) (by kernel_rfl) fun aa w hb S => ?_
  refine sy_run ⟨0, [17]⟩ 60 S fun bs aa w S => ?_
  refine sy_reg S fun S => ?_
  refine sy_ops 2 S fun bs aa w S => ?_
  refine sy_cast 47 S (congrArg (Value.int .i64) (by rw [IntKind.wrap_i64]; omega : IntKind.i64.wrap ((i : Int) + 1) = ((i + 1 : Nat) : Int))) (by kernel_rfl) fun S => ?_
  refine sy_run ⟨0, [999]⟩ 50 S fun bs aa w S => ?_
  have S := S.sub (F' := [rfOn b o on, rfBl g (met.set ((a0 + d) % on.length) true)]) (by intro f hf; simp only [List.mem_cons, List.not_mem_nil, or_false] at hf; rcases hf with rfl | rfl <;> simp)
  have S2 := S.to [] (fbS on a cp (cntF (fun d => on.getD d false) (on.length)) g ((a0 + d') % on.length) a0 (i + 1)) (by kernel_rfl) (by kernel_rfl) (by kernel_rfl) (by kernel_rfl) (by kernel_rfl)
  refine sy_at2 (k' := (.rnd (m) (bodyL fbC) :: fbC.k.tail)) (by kernel_rfl) ?_
  exact ih d' _ hst aa w S2
theorem fb_a (w0 : World) (on : List Bool) (a : Option Addr) (cp b o : Nat) (ha : on.length = 0 ∨ a = some ⟨b, o, none⟩) (hl : on.length ≤ 40) (hb : on.length = 0 ∨ b < w0.heap.size) (a0 g : Nat) (hg : w0.heap.size ≤ g) (h0 : a0 < on.length) (ho : on.getD a0 false = true) : ∀ (m i : Nat), i + m = (cntF (fun d => on.getD d false) (on.length)) → ∀ (d : Nat) (met : List Bool) (h : FI on a0 i d met) (aa : Act) (w : World) (S : Sy w0 [] [] (fbS on a cp (cntF (fun d => on.getD d false) (on.length)) g ((a0 + d) % on.length) a0 (i)) [rfOn b o on, rfBl g met] aa w), post Tryd.prog (.rnd (m + 1) (bodyL fbC) :: fbC.k.tail) (bodyPost Tryd.prog Tryd.f9 (fun e w' => e = .returned (.bool true) ∧ Below w0.heap.size w0 w')) .normal aa w := by
  intro m
  induction m with
  | zero =>
    intro i hi d met h aa w S
    obtain rfl : i = (cntF (fun d => on.getD d false) (on.length)) := by omega
    exact fb_e w0 on a cp b o ha hl hb a0 g hg h0 ho 0 d met h aa w S
  | succ m ih => intro i hi d met h aa w S; exact fb_s w0 on a cp b o ha hl hb a0 g hg h0 ho (m + 1) i d met h (by omega) (fun d met h aa w S => ih (i + 1) (by omega) d met h aa w S) aa w S
set_option maxHeartbeats 8000000 in
theorem fa_e (w0 : World) (on : List Bool) (a : Option Addr) (cp b o : Nat) (ha : on.length = 0 ∨ a = some ⟨b, o, none⟩) (hl : on.length ≤ 40) (hb : on.length = 0 ∨ b < w0.heap.size) (last : Int) (m : Nat) (aa : Act) (w : World) (S : Sy w0 [] [] (faS on a cp last (cntF (fun d => on.getD d false) (on.length)) (on.length)) [rfOn b o on] aa w) : post Tryd.prog (.rnd (m + 1) (bodyL faC) :: faC.k.tail) (bodyPost Tryd.prog Tryd.f9 (fun e w' => e = .returned (.bool true) ∧ Below w0.heap.size w0 w')) .normal aa w := by
  refine sy_run (c := ⟨(.rnd (m + 1) (bodyL faC) :: faC.k.tail), faS on a cp last (cntF (fun d => on.getD d false) (on.length)) on.length⟩) ⟨0, [6]⟩ 50 S fun bs aa w S => ?_
  refine sy_reg S fun S => ?_
  refine sy_ops 4 S fun bs aa w S => ?_
  refine sy_cast 20 S (congrArg Value.bool (decide_eq_false (by omega) : decide ((on.length : Int) < (on.length : Int)) = false)) (by kernel_rfl) fun S => ?_
  refine sy_run ⟨0, [10]⟩ 60 S fun bs aa w S => ?_
  refine sy_reg S fun S => ?_
  refine sy_ops 2 S fun bs aa w S => ?_
  refine sy_mk (t := 26) (u := .int .i64 (on.length : Int)) (v := .int .i64 (on.length : Int)) (n := on.length) (cs := List.replicate on.length (Value.bool false)) (e := 4) S (by kernel_rfl) (mk_runb on.length (by omega)) fun g aa w hg hnb hnf hh hbb S => ?_
  have S := S.add (rfBl g (List.replicate on.length false)) (by show w.heap[g]? = some (Obj.cells ((List.replicate on.length false).map Value.bool).toArray 4 (0, 0)); rw [List.map_replicate]; exact hh) (fun i hi e => hnb i hi e)
  refine sy_run ⟨0, [11]⟩ 60 S fun bs aa w S => ?_
  refine sy_reg S fun S => ?_
  refine sy_ops 2 S fun bs aa w S => ?_
  have hnt := next_t _ on a cp b o ha (by omega) (S.fact (f := rfOn b o on) (by simp)) last
  by_cases hz : (cntF (fun d => on.getD d false) (on.length)) = 0
  · rw [next_none last hz] at hnt
    refine sy_call1 S hnt (by kernel_rfl) fun aa w hb S => ?_
    refine sy_run ⟨0, [13]⟩ 60 S fun bs aa w S => ?_
    refine sy_reg S fun S => ?_
    refine sy_ops 1 S fun bs aa w S => ?_
    refine sy_ops 1 S fun bs aa w S => ?_
    refine sy_cast 37 S (congrArg Value.bool (decide_eq_true (by omega) : decide (((cntF (fun d => on.getD d false) (on.length)) : Int) = 0) = true)) (by kernel_rfl) fun S => ?_
    refine sy_run ⟨0, []⟩ 60 S fun bs aa w S => ?_
    exact sy_ret S (by kernel_rfl) (by kernel_rfl) fun hg => ⟨rfl, bel_gr hg⟩
  · obtain ⟨a0, h0, ho, he⟩ := next_some last hz
    rw [he] at hnt
    refine sy_call1 S hnt (by kernel_rfl) fun aa w hb2 S => ?_
    refine sy_run ⟨0, [13]⟩ 60 S fun bs aa w S => ?_
    refine sy_reg S fun S => ?_
    refine sy_ops 1 S fun bs aa w S => ?_
    refine sy_ops 1 S fun bs aa w S => ?_
    refine sy_cast 37 S (congrArg Value.bool (decide_eq_false (by omega) : decide (((cntF (fun d => on.getD d false) (on.length)) : Int) = 0) = false)) (by kernel_rfl) fun S => ?_
    refine sy_run ⟨0, []⟩ 60 S fun bs aa w S => ?_
    have S := S.sub (F' := [rfOn b o on, rfBl g (List.replicate on.length false)]) (by intro f hf; simp only [List.mem_cons, List.not_mem_nil, or_false] at hf; rcases hf with rfl | rfl <;> simp)
    refine sy_cast 9 S (congrArg (Value.int .i64) (by rw [Nat.add_zero, Nat.mod_eq_of_lt h0] : ((a0 : Nat) : Int) = ((((a0 + 0) % on.length : Nat)) : Int))) (by kernel_rfl) fun S => ?_
    have S2 := S.to [] (fbS on a cp (cntF (fun d => on.getD d false) (on.length)) g ((a0 + 0) % on.length) a0 0) (by kernel_rfl) (by kernel_rfl) (by kernel_rfl) (by kernel_rfl) (by kernel_rfl)
    refine sy_loop ((cntF (fun d => on.getD d false) (on.length)) + 1) (by kernel_rfl) ?_
    refine sy_at2 (k' := (.rnd ((cntF (fun d => on.getD d false) (on.length)) + 1) (bodyL fbC) :: fbC.k.tail)) (by kernel_rfl) ?_
    exact fb_a w0 on a cp b o ha hl hb a0 g hg h0 ho (cntF (fun d => on.getD d false) (on.length)) 0 (by omega) 0 (List.replicate on.length false) ⟨Nat.zero_le _, rfl, Or.inr (by show on.getD ((a0 + 0) % on.length) false = true; rw [Nat.add_zero, Nat.mod_eq_of_lt h0]; exact ho), List.length_replicate, fun e he => by rw [rep_f, decide_eq_false (by omega)]; rfl⟩ aa w S2
set_option maxHeartbeats 8000000 in
theorem fa_s (w0 : World) (on : List Bool) (a : Option Addr) (cp b o : Nat) (ha : on.length = 0 ∨ a = some ⟨b, o, none⟩) (hl : on.length ≤ 40) (hb : on.length = 0 ∨ b < w0.heap.size) (last : Int) (m j : Nat) (hj : j < on.length) (ih : ∀ (aa : Act) (w : World) (S : Sy w0 [] [] (faS on a cp last (cntF (fun d => on.getD d false) (j + 1)) (j + 1)) [rfOn b o on] aa w), post Tryd.prog (.rnd (m) (bodyL faC) :: faC.k.tail) (bodyPost Tryd.prog Tryd.f9 (fun e w' => e = .returned (.bool true) ∧ Below w0.heap.size w0 w')) .normal aa w) (aa : Act) (w : World) (S : Sy w0 [] [] (faS on a cp last (cntF (fun d => on.getD d false) (j)) (j)) [rfOn b o on] aa w) : post Tryd.prog (.rnd (m + 1) (bodyL faC) :: faC.k.tail) (bodyPost Tryd.prog Tryd.f9 (fun e w' => e = .returned (.bool true) ∧ Below w0.heap.size w0 w')) .normal aa w := by
  refine sy_run (c := ⟨(.rnd (m + 1) (bodyL faC) :: faC.k.tail), faS on a cp last (cntF (fun d => on.getD d false) (j)) j⟩) ⟨0, [6]⟩ 50 S fun bs aa w S => ?_
  refine sy_reg S fun S => ?_
  refine sy_ops 4 S fun bs aa w S => ?_
  refine sy_cast 20 S (congrArg Value.bool (decide_eq_true (by omega) : decide ((j : Int) < (on.length : Int)) = true)) (by kernel_rfl) fun S => ?_
  refine sy_run ⟨0, [8]⟩ 60 S fun bs aa w S => ?_
  refine sy_reg S fun S => ?_
  refine sy_ops 2 S fun bs aa w S => ?_
  refine sy_ix (b := b) (off := o) (len := on.length) (n := j) (size := 1) (i := (j : Int)) S (by rw [← ha.resolve_left (by omega)]; kernel_rfl) rfl hj fun aa S => ?_
  have hle := cntF_le (fun d => on.getD d false) j
  cases hon : on.getD j false with
  | true =>
    have hlv : (cntF (fun d => on.getD d false) (j + 1)) = (cntF (fun d => on.getD d false) (j)) + 1 := by show (cntF (fun d => on.getD d false) (j)) + _ = _; rw [if_pos (by show on.getD j false = true; exact hon)]
    refine sy_ldo S (ld_at (ty := 4) (v := .bool true) (b := b) (off := o + j * 1) (by kernel_rfl) (by rw [Nat.mul_one]; have q := S.fact (f := rfOn b o on) (by simp) j hj; rw [hon] at q; exact q)) (by kernel_rfl) fun aa S => ?_
    refine sy_run ⟨0, [9]⟩ 60 S fun bs aa w S => ?_
    refine sy_reg S fun S => ?_
    refine sy_ops 2 S fun bs aa w S => ?_
    refine sy_cast 28 S (congrArg (Value.int .i64) (by rw [IntKind.wrap_i64, hlv]; omega : IntKind.i64.wrap (((cntF (fun d => on.getD d false) (j)) : Int) + 1) = ((cntF (fun d => on.getD d false) (j + 1)) : Int))) (by kernel_rfl) fun S => ?_
    refine sy_run ⟨0, [7]⟩ 60 S fun bs aa w S => ?_
    refine sy_reg S fun S => ?_
    refine sy_ops 2 S fun bs aa w S => ?_
    refine sy_cast 22 S (congrArg (Value.int .i64) (by rw [IntKind.wrap_i64]; omega : IntKind.i64.wrap ((j : Int) + 1) = ((j + 1 : Nat) : Int))) (by kernel_rfl) fun S => ?_
    refine sy_run ⟨0, [999]⟩ 50 S fun bs aa w S => ?_
    have S2 := S.to [] (faS on a cp last (cntF (fun d => on.getD d false) (j + 1)) (j + 1)) (by kernel_rfl) (by kernel_rfl) (by kernel_rfl) (by kernel_rfl) (by kernel_rfl)
    refine sy_at2 (k' := (.rnd (m) (bodyL faC) :: faC.k.tail)) (by kernel_rfl) ?_
    exact ih aa w S2
  | false =>
    have hlv : (cntF (fun d => on.getD d false) (j + 1)) = (cntF (fun d => on.getD d false) (j)) := by show (cntF (fun d => on.getD d false) (j)) + _ = _; rw [if_neg (by show ¬on.getD j false = true; rw [hon]; simp)]; rfl
    refine sy_ldo S (ld_at (ty := 4) (v := .bool false) (b := b) (off := o + j * 1) (by kernel_rfl) (by rw [Nat.mul_one]; have q := S.fact (f := rfOn b o on) (by simp) j hj; rw [hon] at q; exact q)) (by kernel_rfl) fun aa S => ?_
    refine sy_run ⟨0, [7]⟩ 60 S fun bs aa w S => ?_
    refine sy_reg S fun S => ?_
    refine sy_ops 2 S fun bs aa w S => ?_
    refine sy_cast 22 S (congrArg (Value.int .i64) (by rw [IntKind.wrap_i64]; omega : IntKind.i64.wrap ((j : Int) + 1) = ((j + 1 : Nat) : Int))) (by kernel_rfl) fun S => ?_
    refine sy_run ⟨0, [999]⟩ 50 S fun bs aa w S => ?_
    rw [hlv] at ih
    have S2 := S.to [] (faS on a cp last (cntF (fun d => on.getD d false) (j)) (j + 1)) (by kernel_rfl) (by kernel_rfl) (by kernel_rfl) (by kernel_rfl) (by kernel_rfl)
    refine sy_at2 (k' := (.rnd (m) (bodyL faC) :: faC.k.tail)) (by kernel_rfl) ?_
    exact ih aa w S2
theorem fa_a (w0 : World) (on : List Bool) (a : Option Addr) (cp b o : Nat) (ha : on.length = 0 ∨ a = some ⟨b, o, none⟩) (hl : on.length ≤ 40) (hb : on.length = 0 ∨ b < w0.heap.size) (last : Int) : ∀ (m j : Nat), j + m = on.length → ∀ (aa : Act) (w : World) (S : Sy w0 [] [] (faS on a cp last (cntF (fun d => on.getD d false) (j)) (j)) [rfOn b o on] aa w), post Tryd.prog (.rnd (m + 1) (bodyL faC) :: faC.k.tail) (bodyPost Tryd.prog Tryd.f9 (fun e w' => e = .returned (.bool true) ∧ Below w0.heap.size w0 w')) .normal aa w := by
  intro m
  induction m with
  | zero =>
    intro j hj aa w S
    obtain rfl : j = on.length := by omega
    exact fa_e w0 on a cp b o ha hl hb last 0 aa w S
  | succ m ih => intro j hj aa w S; exact fa_s w0 on a cp b o ha hl hb last (m + 1) j (by omega) (fun aa w S => ih (j + 1) (by omega) aa w S) aa w S
set_option maxHeartbeats 8000000 in
theorem fair_all (w0 : World) (hm : rfMx.P w0) (ht : rfTb.P w0) (on : List Bool) (a : Option Addr) (cp b o : Nat) (ha : on.length = 0 ∨ a = some ⟨b, o, none⟩) (hAt : OnAt w0 b o on) (last : Int) : Calls Tryd.prog 9 #[(.slice a on.length cp), .int .i64 last] w0 (fun e w' => e = .returned (.bool true) ∧ Below w0.heap.size w0 w') := by
  have h00 : 1 < w0.heap.size := rfTb.lt w0 ht 1 rfl
  have hb : on.length = 0 ∨ b < w0.heap.size := by
    rcases Nat.eq_zero_or_pos on.length with h | h
    · exact Or.inl h
    · exact Or.inr ((rfOn b o on).lt w0 hAt b ⟨rfl, by omega⟩)
  refine sy_enterF [] [rfOn b o on, rfMx, rfTb] (by intro f hf; simp only [List.mem_cons, List.not_mem_nil, or_false] at hf; rcases hf with rfl | rfl | rfl; exact hAt; exact hm; exact ht) Tryd.func9 rfl rfl fun aa S => ?_
  refine sy_run ⟨0, [1]⟩ 60 S fun bs aa w S => ?_
  refine sy_reg S fun S => ?_
  have hsz := S.gr.size
  refine sy_call1 S (sane27 _ (by omega) (S.fact (f := rfMx) (by simp)) (S.fact (f := rfTb) (by simp))) (by kernel_rfl) fun aa w hb2 S => ?_
  refine sy_run ⟨0, [2]⟩ 60 S fun bs aa w S => ?_
  refine sy_reg S fun S => ?_
  refine sy_ops 2 S fun bs aa w S => ?_
  by_cases hl : on.length ≤ 40
  case neg =>
    refine sy_ops 1 S fun bs aa w S => ?_
    refine sy_cast 15 S (congrArg Value.bool (decide_eq_true (by omega) : decide ((on.length : Int) > 40) = true)) (by kernel_rfl) fun S => ?_
    refine sy_run ⟨0, []⟩ 60 S fun bs aa w S => ?_
    exact sy_ret S (by kernel_rfl) (by kernel_rfl) fun hg => ⟨rfl, bel_gr hg⟩
  refine sy_ops 1 S fun bs aa w S => ?_
  refine sy_cast 15 S (congrArg Value.bool (decide_eq_false (by omega) : decide ((on.length : Int) > 40) = false)) (by kernel_rfl) fun S => ?_
  refine sy_run ⟨0, []⟩ 60 S fun bs aa w S => ?_
  have S := S.sub (F' := [rfOn b o on]) (by intro f hf; simp only [List.mem_singleton] at hf; subst hf; simp)
  have S2 := S.to [] (faS on a cp last (cntF (fun d => on.getD d false) (0)) 0) (by kernel_rfl) (by kernel_rfl) (by kernel_rfl) (by kernel_rfl) (by kernel_rfl)
  refine sy_loop (on.length + 1) (by kernel_rfl) ?_
  refine sy_at2 (k' := (.rnd (on.length + 1) (bodyL faC) :: faC.k.tail)) (by kernel_rfl) ?_
  exact fa_a w0 on a cp b o ha hl hb last on.length 0 (by omega) aa w S2
end Go.Proofs.YtfkmcibglaiakaaDoor
