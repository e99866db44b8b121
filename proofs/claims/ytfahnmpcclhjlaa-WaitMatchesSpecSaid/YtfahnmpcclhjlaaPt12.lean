/-
  Merged: RouD
-/
import Derived.Test.YtfahnmpcclhjlaaPt11
import Derived.Shelf.RegionOpen

/-
  Layer 21: Rouse: the accesses that wake the threads of a mask.
-/
namespace Go.Proofs.Ytfahnmpcclhjlaa
set_option linter.unusedVariables false
open Go.ChangeShapes Go.WideShapes Go.ChangeAt Go.RowKit Go.Shelf
attribute [local go_sem] Oper.semAt_some
set_option maxRecDepth 100000
theorem info_accR : (Try.prog.info? 53).map (fun i => (i.zero, i.size, i.bytes)) = some (some (.agg #[.int .i64 0, .int .i64 0, .int .i64 0, .int .i64 0, .string ByteArray.empty]), 5, 48) := by kernel_rfl
set_option maxHeartbeats 2000000 in
theorem threads_any (n : Nat) (L : Ly) (m : Int) (w : World) : CallsIn Fence.wide n Try.prog 49 #[L.v, .int .i64 m] w fun e w' =>
    e = .returned (.func (.func 83) #[] #[.pointer (some ⟨w.heap.size + 1, 0, none⟩), .pointer (some ⟨w.heap.size, 0, none⟩)]) ∧ w' = (w.alloc (.cells (lyCells L) 42)).alloc (.cells #[.int .i64 m] 3) := by
  refine callsIn_of_wp Try.func49 rfl trivial ?_ rfl
  unfold Ly.v
  simp only [Try.ntmps49, List.size_toArray, List.length_cons, List.length_nil, Nat.reduceAdd, Nat.reduceSub, Array.replicate_succ, Array.replicate_zero, List.push_toArray, List.append_toArray, List.nil_append, List.cons_append]
  gi_wp2
  go_ret
  exact ⟨rfl, rfl⟩
/-- The accesses that wake threads. -/
def wakeC (L : Ly) (pre : List Int) : List Value := pre.flatMap fun t => [.int .i64 2, .int .i64 (atWake L t), .int .i64 0, .int .i64 1, .string ByteArray.empty]
theorem wakeC_snoc (L : Ly) (pre : List Int) (t : Int) : wakeC L (pre ++ [t]) = wakeC L pre ++ [.int .i64 2, .int .i64 (atWake L t), .int .i64 0, .int .i64 1, .string ByteArray.empty] := by simp [wakeC]
theorem lyAt_own (B : Nat) (L : Ly) : Own (fun (_ : List Int) W => LyAt W B L) := by
  rintro s W W' row h hg hr
  refine (hg.block B (heap_lt h) (fun e => ?_)).trans h
  obtain ⟨o, ho, hc⟩ := hr B e.symm
  rw [show W.heap[B]? = _ from h] at ho; cases ho; cases hc
theorem ownB_boxed {W : World} {A : Nat} {t : TypeId} {v : Value} (h : Boxed W A t v) : ownB A W = v.ownBlock := by
  unfold ownB
  rw [h.cell]
  cases v <;> try rfl
  rename_i a _ _
  cases a <;> rfl
abbrev TA : TypeId := 60
abbrev EA : TypeId := 53
abbrev accC (L : Ly) (x : Int) : List Value := [.int .i64 2, .int .i64 (atWake L x), .int .i64 0, .int .i64 1, .string ByteArray.empty]
theorem lit_cells (w : World) (xs : List Value) (t : TypeId) : ∀ j u, xs[j]? = some u → (w.alloc (.cells xs.toArray t)).cell? ((⟨w.heap.size, 0, none⟩ : Addr).add j) = some u := by
  intro j u h
  have := World.alloc_heap_new w (.cells xs.toArray t)
  have e : (⟨w.heap.size, 0, none⟩ : Addr).add j = ⟨w.heap.size, j, none⟩ := by cases j <;> simp [Addr.add]
  rw [e]
  unfold World.cell?
  rw [this]
  simpa using h
theorem row_block {W : World} {n0 : Nat} {v : Value} {n : Nat} {xs : List Value} (h : W.ownsRow n0 EA 5 v n xs) {o : Nat} (ho : v.ownBlock = some o) : n0 ≤ o ∧ ∃ cur, W.heap[o]? = some (.cells cur EA (0, 0)) := by
  rcases h.2 with ⟨rfl, _⟩ | ⟨g, cap, cur, rfl, h1, h2, _⟩
  · cases ho
  · simp only [Value.ownBlock, Option.some.injEq] at ho
    subst ho
    exact ⟨h1, cur, h2⟩
theorem step_kp {W w2 w3 : World} {A n0 : Nat} {v v' : Value} {xs : List Value} {n : Nat} {o : Obj} (hv : Boxed W A TA v) (hrow : W.ownsRow n0 EA 5 v n xs) (hb : Below W.heap.size W w2)
    (hgrow : (w2.alloc o).grownBy w3 v.ownBlock) (hat : v'.ownBlock = v.ownBlock ∨ v'.ownBlock = some (w2.alloc o).heap.size) (hv4 : Boxed (w3.setCell ⟨A, 0, none⟩ v') A TA v') : KpR A W (w3.setCell ⟨A, 0, none⟩ v') := by
  have hs2 := hb.size
  have hs3 := hgrow.size
  rw [World.size_alloc] at hs3
  have gS := grownBy_setCell' w3 A v'
  refine ⟨by have := gS.size; omega, fun k c t f hk hA ho => ?_, fun o' ho' => ?_⟩
  · have hkl := heap_lt hk
    have e1 : w2.heap[k]? = W.heap[k]? := hb.block k hkl
    have e2 : (w2.alloc o).heap[k]? = w2.heap[k]? := Below.heap_alloc _ _ _ (by omega)
    have e3 : w3.heap[k]? = (w2.alloc o).heap[k]? := hgrow.block k (by rw [World.size_alloc]; omega) (fun e => by
      have := ho k (by rw [ownB_boxed hv]; exact e.symm)
      omega)
    have e4 : (w3.setCell ⟨A, 0, none⟩ v').heap[k]? = w3.heap[k]? := gS.block k (by omega) (fun e => hA (Option.some.inj e))
    rw [e4, e3, e2, e1]
  · rw [ownB_boxed hv4] at ho'
    rcases hat with e | e
    · exact Or.inl ⟨o', by rw [ownB_boxed hv, ← e]; exact ho', Nat.le_refl _⟩
    · rw [e, World.size_alloc] at ho'
      have := Option.some.inj ho'
      exact Or.inr (by omega)
/-- The variable is as it was behind the append. -/
theorem box_keep {W w2 w3 : World} {A n0 n : Nat} {v : Value} {xs : List Value} {o : Obj} (hv : Boxed W A TA v) (hrow : W.ownsRow n0 EA 5 v n xs) (hb : Below W.heap.size W w2) (hgrow : (w2.alloc o).grownBy w3 v.ownBlock) :
    w3.heap[A]? = some (.cells #[v] TA (0, 0)) ∧ w3.cell? ⟨A, 0, none⟩ = some v ∧ w3.frozen? ⟨A, 0, none⟩ = false := by
  have hA := heap_lt hv
  have hs2 := hb.size
  have hne : v.ownBlock ≠ some A := fun e => by
    obtain ⟨_, cur, hcur⟩ := row_block hrow e
    rw [show W.heap[A]? = _ from hv] at hcur
    simp [TA, EA] at hcur
  have h3 : w3.heap[A]? = some (.cells #[v] TA (0, 0)) := by
    rw [hgrow.block A (by rw [World.size_alloc]; omega) (fun e => hne e.symm), Below.heap_alloc _ _ _ (by omega), hb.block A hA]
    exact hv
  exact ⟨h3, by simp [World.cell?, h3], by simp [World.frozen?, h3]⟩
/-- What a round leaves. -/
theorem round_end {w W w2 w3 : World} {L : Ly} {pre : List Int} {x : Int} {v v' : Value} {o : Obj} {n0 A B : Nat} (hA : n0 < A) (hn : n0 ≤ W.heap.size) (hB : Below n0 w W) (hL : LyAt W n0 L) (hv : Boxed W A TA v) (hrow : W.ownsRow n0 EA 5 v pre.length (wakeC L pre))
    (hb2 : Below W.heap.size W w2) (hrow3 : w3.ownsRow n0 EA 5 v' (pre.length + 1) (wakeC L pre ++ accC L x)) (hgrow : (w2.alloc o).grownBy w3 v.ownBlock) (hat : v'.ownBlock = v.ownBlock ∨ v'.ownBlock = some (w2.alloc o).heap.size) :
    KeepsFrom B W (w3.setCell ⟨A, 0, none⟩ v') ∧ KpR A W (w3.setCell ⟨A, 0, none⟩ v') ∧ ((∃ u, Boxed (w3.setCell ⟨A, 0, none⟩ v') A TA u ∧ (w3.setCell ⟨A, 0, none⟩ v').ownsRow n0 EA 5 u (pre ++ [x]).length (wakeC L (pre ++ [x])) ∧ (u = .slice none 0 0 ↔ pre ++ [x] = [])) ∧ LyAt (w3.setCell ⟨A, 0, none⟩ v') n0 L) ∧ Below n0 w (w3.setCell ⟨A, 0, none⟩ v') := by
  have g2 := grown_of_below hb2
  have hv2 : Boxed w2 A TA v := hv.kept g2 (by simp)
  have hr2 := owns_below hrow hb2
  have hs2 := hb2.size
  obtain ⟨k1, k2, k3, k4, k5⟩ := hv2.appended (by decide) hr2 (by omega) (by omega) hrow3 hgrow
  have hKO : KeepsOthers W w2 := KeepsOthers.of_grownBy g2 fun j ob ej => by cases ej
  refine ⟨(hKO.trans k4).from B, step_kp hv hrow hb2 hgrow hat k2, ⟨⟨v', k2, ?_, ?_⟩, ?_⟩, ?_⟩
  · rw [wakeC_snoc, List.length_append]
    exact k3
  · obtain ⟨g, cap, rfl⟩ := ownsRow_succ hrow3
    simp
  · have hne : v.ownBlock ≠ some n0 := fun e => by
      obtain ⟨_, cur, hcur⟩ := row_block hrow e
      rw [show W.heap[n0]? = _ from hL] at hcur
      simp [EA] at hcur
    have hlt := heap_lt hL
    show (w3.setCell ⟨A, 0, none⟩ v').heap[n0]? = _
    rw [(grownBy_setCell' w3 A v').block n0 (by have := hgrow.size; rw [World.size_alloc] at this; omega) (fun e => by have := Option.some.inj e; omega), hgrow.block n0 (by rw [World.size_alloc]; omega) (fun e => hne e.symm), Below.heap_alloc _ _ _ (by omega), hb2.block n0 hlt]
    exact hL
  · exact (hB.trans (hb2.mono hn)).trans k5
/-- append, closed to the walk. -/
noncomputable def apA (ats : Array TypeId) (ty : TypeId) (args : Array Value) : Sem Value := Builtin.append_ ats ty args
theorem apA_eq (ats : Array TypeId) (ty : TypeId) (args : Array Value) : Builtin.append_ ats ty args = apA ats ty args := rfl
attribute [local go_sem ↓] apA_eq
set_option maxHeartbeats 8000000 in
theorem rouse_in (L : Ly) (hok : L.ok) (m : Int) (w : World) : CallsIn Fence.wide 9 Try.prog 14 #[L.v, .int .i64 m] w fun e W' =>
    ∃ v, e = .returned v ∧ W'.ownsRow w.heap.size EA 5 v (fsN L m (bitsL m 62).length).length (wakeC L (fsN L m (bitsL m 62).length)) ∧ (v = .slice none 0 0 ↔ fsN L m (bitsL m 62).length = []) ∧ Below w.heap.size w W' := by
  obtain ⟨i0, hi, hz0, hz1, hz2⟩ := info_parts info_accR
  refine callsIn_of_wp_marks Try.func14 rfl trivial ?_ rfl
  unfold Ly.v
  simp only [Try.ntmps14, List.size_toArray, List.length_cons, List.length_nil, Nat.reduceAdd, Nat.reduceSub, Array.replicate_succ, Array.replicate_zero, List.push_toArray, List.append_toArray, List.nil_append, List.cons_append]
  gi_wp2_with (refine ⟨trivial, ?_⟩; gi_at_call 49; refine (threads_any _ L m _).mono ?_; rintro e w' ⟨rfl, rfl⟩)
  obtain ⟨W0, hW0⟩ : ∃ W0, ((((w.alloc (.cells (lyCells L) 42)).alloc (.cells #[.slice none 0 0] TA)).alloc (.cells (lyCells L) 42)).alloc (.cells #[.int .i64 m] 3)) = W0 := ⟨_, rfl⟩
  have hsz : W0.heap.size = w.heap.size + 4 := by rw [← hW0]; simp
  have g0 : W0.heap[w.heap.size]? = some (.cells (lyCells L) 42 (0, 0)) := by
    rw [← hW0, Below.heap_alloc _ _ _ (by simp <;> omega), Below.heap_alloc _ _ _ (by simp <;> omega), Below.heap_alloc _ _ _ (by simp)]
    exact World.alloc_heap_new w _
  have g1 : W0.heap[w.heap.size + 1]? = some (.cells #[.slice none 0 0] TA (0, 0)) := by
    rw [← hW0, Below.heap_alloc _ _ _ (by simp <;> omega), Below.heap_alloc _ _ _ (by simp)]
    have := World.alloc_heap_new (w.alloc (.cells (lyCells L) 42)) (.cells #[.slice none 0 0] TA)
    rwa [World.size_alloc] at this
  have g2 : W0.heap[w.heap.size + 1 + 1]? = some (.cells (lyCells L) 42 (0, 0)) := by
    rw [← hW0, Below.heap_alloc _ _ _ (by simp)]
    have := World.alloc_heap_new ((w.alloc (.cells (lyCells L) 42)).alloc (.cells #[.slice none 0 0] TA)) (.cells (lyCells L) 42)
    rwa [World.size_alloc, World.size_alloc] at this
  have g3 : W0.heap[w.heap.size + 1 + 1 + 1]? = some (.cells #[.int .i64 m] 3 (0, 0)) := by
    rw [← hW0]
    have := World.alloc_heap_new (((w.alloc (.cells (lyCells L) 42)).alloc (.cells #[.slice none 0 0] TA)).alloc (.cells (lyCells L) 42)) (.cells #[.int .i64 m] 3)
    rwa [World.size_alloc, World.size_alloc, World.size_alloc] at this
  have hB0 : Below w.heap.size w W0 := by
    rw [← hW0]
    exact ((((Below.refl _ w).alloc (Nat.le_refl _) _).alloc (by simp) _).alloc (by simp <;> omega) _).alloc (by simp <;> omega) _
  have bA : Boxed W0 (w.heap.size + 1) TA (.slice none 0 0) := g1
  have hm0 : W0.cell? ⟨w.heap.size + 1 + 1 + 1, 0, none⟩ = some (.int .i64 m) := by simp [World.cell?, g3]
  have ho0 : ownB (w.heap.size + 1) W0 = none := by rw [ownB_boxed bA]; rfl
  show Code.wpIn _ _ _ _ _ _ (((((w.alloc (.cells (lyCells L) 42)).alloc (.cells #[.slice none 0 0] TA)).alloc (.cells (lyCells L) 42)).alloc (.cells #[.int .i64 m] 3)))
  rw [hW0]
  clear hW0
  refine wpIn_rangeFunc_ownG rfl (by omega) (gf := 83) (lb := #[.pointer (some ⟨w.heap.size + 1 + 1 + 1, 0, none⟩), .pointer (some ⟨w.heap.size + 1 + 1, 0, none⟩)]) rfl trivial (enters_of Try.func83 (by kernel_rfl) rfl)
    (encs := fun x : Int => #[Value.int .i64 x]) (Kp := KpR (w.heap.size + 1)) (S := fun ys => ys = fsN L m (bitsL m 62).length) (Sp := fun _ => True) (N := 62) (w0 := W0)
    (fun l J Jx W hW hJ _ hY h0 => threads1_in _ (by omega) l _ _ (w.heap.size + 1) L hok m J Jx W hY hJ (by have := hW.size; omega) (by have := hW.size; omega) ((hW.cell (p := ⟨w.heap.size + 1 + 1 + 1, 0, none⟩) (by simp <;> omega)).trans hm0)
      ((hW.block _ (by omega)).trans g2) (by omega) (by rw [ownB_block (hW.block _ (by omega))]; exact ho0) h0)
    KpR.trans (fun W l o o' hl h ho _ => KpR.putObj (n0 := W0.heap.size) (by omega) W l o o' hl h ho) (Below.refl _ _) (fun _ => rfl)
    (fun pre W => ((∃ v, Boxed W (w.heap.size + 1) TA v ∧ W.ownsRow w.heap.size EA 5 v pre.length (wakeC L pre) ∧ (v = .slice none 0 0 ↔ pre = [])) ∧ LyAt W w.heap.size L) ∧ Below w.heap.size w W)
    (fun _ _ _ => False)
    (OwnFrom.and (Own.from (fun s W W' row hs hg hr => ⟨holdsRow_own w.heap.size (w.heap.size + 1) TA EA 5 (fun pre : List Int => pre.length) (fun pre => wakeC L pre) (fun pre v => v = .slice none 0 0 ↔ pre = []) s W W' row hs.1 hg hr, lyAt_own _ L s W W' row hs.2 hg hr⟩) _) (ownFrom_below (Nat.le_refl _) (by omega)))
    (fun _ _ _ _ _ hs _ _ => hs)
    ⟨⟨⟨_, bA, World.ownsRow_nil _ _ _ _, by simp⟩, g0⟩, hB0⟩
    (fun x => { tmps := #[L.v, .int .i64 m, .pointer (some ⟨w.heap.size, 0, none⟩), undef, .slice none 0 0, .pointer (some ⟨w.heap.size + 1, 0, none⟩), .int .i64 x, L.v, .int .i64 m, .func (.func 83) #[] #[.pointer (some ⟨w.heap.size + 1 + 1 + 1, 0, none⟩), .pointer (some ⟨w.heap.size + 1 + 1, 0, none⟩)], .int .i64 x, undef, undef, undef, undef, undef, undef, undef, undef], defers := [] }) ?assign ?body ?done ?stop
  case assign =>
    intro l x W K hK
    gi_wp2
    exact hK
  case body =>
    rintro l pre x W ⟨⟨⟨v, hv, hrow, hnil⟩, hL⟩, hB⟩ hlt
    have hc := hv.cell
    have c0 := hL.cells 0 _ rfl
    have c1 := hL.cells 1 _ rfl
    have c2 := hL.cells 2 _ rfl
    have c3 := hL.cells 3 _ rfl
    have c4 := hL.cells 4 _ rfl
    have c5 := hL.cells 5 _ rfl
    have c6 := hL.cells 6 _ rfl
    have c7 := hL.cells 7 _ rfl
    have c8 := hL.cells 8 _ rfl
    have c9 := hL.cells 9 _ rfl
    have c10 := hL.cells 10 _ rfl
    have c11 := hL.cells 11 _ rfl
    have c12 := hL.cells 12 _ rfl
    have hd : 1 ≤ 9 - 1 - 1 := by omega
    have hmx : Try.prog.follows .mixedOrders = true := by kernel_rfl
    have hszW : w.heap.size + 1 < W.heap.size := heap_lt hv
    have hrowd : W.drew.ownsRow w.heap.size EA 5 v pre.length (wakeC L pre) := hrow
    have hszd : w.heap.size + 1 < W.drew.heap.size := hszW
    gi_wp2
    gi_region_with_o? (refine ⟨trivial, ?_⟩; gi_at_call 35; refine (CallsIn.inRound l (callsIn_wide.2 (wake_any L x _ hok))).mono ?_; rintro e w2 ⟨rfl, hb2⟩; have hc2 := (hb2.cell (p := ⟨w.heap.size + 1, 0, none⟩) (by simp <;> omega)).trans (by simpa using hc); have hc2a : (w2.alloc (.cells #[.int .i64 2, .int .i64 (atWake L x), .int .i64 0, .int .i64 1, .string ⟨#[]⟩] 53)).cell? ⟨w.heap.size + 1, 0, none⟩ = some v := (((Below.refl w2.heap.size w2).alloc (Nat.le_refl _) _).cell (p := ⟨w.heap.size + 1, 0, none⟩) (by have := hb2.size; simp; omega)).trans hc2; have hrow2 := (owns_below hrowd hb2).alloc (.cells #[.int .i64 2, .int .i64 (atWake L x), .int .i64 0, .int .i64 1, .string ByteArray.empty] EA); obtain ⟨v', w3, hrun0, hrow3, hgrow, hniliff, hat⟩ := run_append_own_at (P := Try.prog) _ w.heap.size TA TA EA i0 _ 5 48 Try.underlying60 hi hz0 hz1 hz2 rfl (by decide) v pre.length (wakeC L pre) hrow2 ⟨w2.heap.size, 0, none⟩ 1 1 (accC L x) rfl (lit_cells w2 (accC L x) EA) (by intro u hu; simp at hu; rcases hu with rfl | rfl | rfl | rfl | rfl <;> rfl) (by unfold maxLen; omega) (by omega) (by simp; have := hb2.size; omega); have hrun : (apA #[60, 60] 60 #[v, .slice (some ⟨w2.heap.size, 0, none⟩) 1 1]).run Try.prog (w2.alloc (.cells #[.int .i64 2, .int .i64 (atWake L x), .int .i64 0, .int .i64 1, .string ⟨#[]⟩] 53)) = .ok v' w3 := hrun0; clear hrun0; obtain ⟨sa, sn, sc, rfl⟩ : ∃ a n c, v' = .slice a n c := (by rcases hrow3.2 with ⟨h, _⟩ | ⟨g, cap, cur, h, _⟩ <;> exact ⟨_, _, _, h⟩); obtain ⟨h3, hc3, hf3⟩ := box_keep (w2 := w2) hv hrow (show Below W.heap.size W w2 from ⟨hb2.os, hb2.tape, hb2.output, hb2.size, hb2.block⟩) hgrow)
    all_goals gi_wp2
    all_goals exact round_end (by omega) (by omega) hB hL hv hrow ⟨hb2.os, hb2.tape, hb2.output, hb2.size, hb2.block⟩ hrow3 hgrow hat
  case done =>
    rintro D ys W hD rfl ⟨⟨⟨v, hv, hrow, hnil⟩, hL⟩, hB⟩ hK
    have hc := hv.cell
    gi_wp2
    refine ⟨by simp, .inl ⟨_, _, rfl, run_takeDeferred hK, ?_⟩⟩
    exact ⟨_, results_tmp rfl _ _ _, v, rfl, ownsRow_putObj hrow _ hK rfl, hnil, hB.trans (belowK_b (w := w) (Nat.le_refl _) W D _ _ (by omega) hK rfl rfl)⟩
  case stop =>
    rintro D c pre W _ _ h _
    exact h.elim
end Go.Proofs.Ytfahnmpcclhjlaa
