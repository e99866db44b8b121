
/-
  Layer 2: two accesses in a row.
-/
import Derived.Test.YtckfbcjoehjdoaaRows
import Derived.Test.YtckfbcjoehjdoaaBase
import Derived.Test.YtckfbcjoehjdoaaMemA
import Derived.Test.YtckfbcjoehjdoaaMemB
import Derived.Test.YtckfbcjoehjdoaaMemE
import Derived.Test.YtckfbcjoehjdoaaMemF
import Derived.Test.YtckfbcjoehjdoaaMemG
namespace Go.Proofs.Ytckfbcjoehjdoaa
open Go.ChangeShapes Go.WideShapes Go.ChangeAt Go.RowKit

theorem hasAccs_two {w : World} (A B : AccD) : HasAccs (w.alloc (.cells #[.int .i64 A.k, .int .i64 A.c, .int .i64 A.o, .int .i64 A.n, .string A.b, .int .i64 B.k, .int .i64 B.c, .int .i64 B.o, .int .i64 B.n, .string B.b] 26)) (.slice (some ⟨w.heap.size, 0, none⟩) 2 2) [A, B] := by
  refine ⟨_, _, rfl, by simp, Or.inr ⟨_, _, rfl, fun j hj => ?_⟩⟩
  match j, hj with
  | 0, _ => refine ⟨?_, ?_, ?_, ?_, ?_⟩ <;> (rw [World.cell?_alloc_at _ _ _ _ rfl]; rfl)
  | 1, _ => refine ⟨?_, ?_, ?_, ?_, ?_⟩ <;> (rw [World.cell?_alloc_at _ _ _ _ rfl]; rfl)
  | j + 2, hj => simp at hj; omega

theorem set_get (l : List Int) (i j : Nat) (x : Int) (h : i ≠ j) : (l.set j x).getD i 0 = l.getD i 0 := by
  simp [List.getD, Ne.symm h]
theorem appZ_get (k c o n : Int) (zs : List Int) (i : Nat) (h : i ≠ c.toNat) : (appZ k c o n zs).getD i 0 = zs.getD i 0 := by
  unfold appZ; split
  · exact set_get _ _ _ _ h
  · split
    · exact set_get _ _ _ _ h
    · rfl
theorem set_same (l : List Int) (j : Nat) (x : Int) (h : j < l.length) : (l.set j x).getD j 0 = x := by
  simp [List.getD, h]

theorem comm_far (A B : AccD) (zs : List Int) (h : A.c.toNat ≠ B.c.toNat) : B.app (A.app zs) = A.app (B.app zs) ∧ A.res (B.app zs) = A.res zs ∧ B.res (A.app zs) = B.res zs := by
  have gA : (B.app zs).getD A.c.toNat 0 = zs.getD A.c.toNat 0 := appZ_get _ _ _ _ _ _ h
  have gB : (A.app zs).getD B.c.toNat 0 = zs.getD B.c.toNat 0 := appZ_get _ _ _ _ _ _ (Ne.symm h)
  refine ⟨?_, ?_, ?_⟩
  · have e1 : B.app (A.app zs) = appZ B.k B.c B.o B.n (A.app zs) := rfl
    have e2 : A.app (B.app zs) = appZ A.k A.c A.o A.n (B.app zs) := rfl
    rw [e1, e2]
    unfold appZ
    rw [gA, gB]
    unfold AccD.app appZ
    split <;> (try split) <;> (try split) <;> (try split) <;> first | rfl | (rw [List.set_comm _ _ h]) | (rw [List.set_comm _ _ (Ne.symm h)])
  · unfold AccD.res appOk; rw [gA]
  · unfold AccD.res appOk; rw [gB]
theorem comm_load (A B : AccD) (zs : List Int) (hA : A.k = 1) (hB : B.k = 1) : B.app (A.app zs) = A.app (B.app zs) ∧ A.res (B.app zs) = A.res zs ∧ B.res (A.app zs) = B.res zs := by
  have eA : ∀ l, A.app l = l := fun l => by unfold AccD.app; rw [hA]; exact appZ_one _ _ _ _
  have eB : ∀ l, B.app l = l := fun l => by unfold AccD.app; rw [hB]; exact appZ_one _ _ _ _
  simp only [eA, eB, and_self]
theorem comm_add (A B : AccD) (zs : List Int) (hA : A.k = 4) (hB : B.k = 4) (hc : A.c = B.c) (hl : B.c.toNat < zs.length) : B.app (A.app zs) = A.app (B.app zs) := by
  have eA : ∀ l, A.app l = l.set B.c.toNat (wrap64 (l.getD B.c.toNat 0 + A.n)) := fun l => by unfold AccD.app appZ; rw [hA, hc, if_neg (by omega), if_pos rfl]
  have eB : ∀ l, B.app l = l.set B.c.toNat (wrap64 (l.getD B.c.toNat 0 + B.n)) := fun l => by unfold AccD.app appZ; rw [hB, if_neg (by omega), if_pos rfl]
  rw [eA, eB, eA, eB, set_same _ _ _ hl, set_same _ _ _ hl, List.set_set, List.set_set]
  congr 1
  unfold wrap64; omega

theorem all_okC (v x : Value) (zs : List Int) (A B : AccD) (w : World) (hv : HasInts w v zs) (hx : HasAccs w x [A, B]) (hl : zs.length ≤ 1000) (hA : A.chk zs.length = 0) (hB : B.chk zs.length = 0) :
    Calls Try.prog 16 #[.agg #[v], x] w fun e w' =>
    ∃ a cp cr br o, e = .returned (.tuple #[.agg #[.slice a zs.length cp], .slice (some ⟨br, o, none⟩) 2 cr, .int .i64 0]) ∧ HasInts w' (.slice a zs.length cp) (B.app (A.app zs)) ∧
      w'.cell? ⟨br, o, none⟩ = some (.int .i64 (A.res zs).1) ∧ w'.cell? ⟨br, o + 1, none⟩ = some (.bool (A.res zs).2) ∧
      w'.cell? ⟨br, o + 2, none⟩ = some (.int .i64 (B.res (A.app zs)).1) ∧ w'.cell? ⟨br, o + 3, none⟩ = some (.bool (B.res (A.app zs)).2) ∧ Below w.heap.size w w' := by
  have he : errOf zs.length [A, B] = 0 := by unfold errOf; rw [if_pos hA]; unfold errOf; rw [if_pos hB]; rfl
  have hz : allZ zs [A, B] = B.app (A.app zs) := by unfold allZ; rw [if_pos he]; rfl
  have hr : allR zs [A, B] = [A.res zs, B.res (A.app zs)] := by unfold allR; rw [if_pos he]; rfl
  refine (all_any v x zs [A, B] w hv hx (by omega) (by simp)).mono ?_
  rintro e w' ⟨u, r, rfl, hu, hres, hb⟩
  rw [hz] at hu
  rw [hr] at hres
  rw [he]
  have hu' := hu
  obtain ⟨a, cp, rfl, _, _⟩ := hu'
  have hl2 : (B.app (A.app zs)).length = zs.length := by rw [app_length, app_length]
  rw [hl2] at hu ⊢
  obtain ⟨ar, cr, rfl, _, hc⟩ := hres
  rcases hc with hc | ⟨br, o, rfl, hc⟩
  · simp at hc
  have h0 := hc 0 (by simp)
  have h1 := hc 1 (by simp)
  exact ⟨a, cp, cr, br, o, rfl, hu, h0.1, h0.2, h1.1, h1.2, hb⟩

theorem all_errC (v x : Value) (zs : List Int) (A B : AccD) (w : World) (hv : HasInts w v zs) (hx : HasAccs w x [A, B]) (hl : zs.length ≤ 1000) (h : ¬(A.chk zs.length = 0 ∧ B.chk zs.length = 0)) :
    Calls Try.prog 16 #[.agg #[v], x] w fun e w' =>
    ∃ a l cp ar lr cr E, e = .returned (.tuple #[.agg #[.slice a l cp], .slice ar lr cr, .int .i64 E]) ∧ (E != 0) = true ∧ Below w.heap.size w w' := by
  have he : errOf zs.length [A, B] ≠ 0 := by
    show (if A.chk zs.length = 0 then (if B.chk zs.length = 0 then (0 : Int) else B.chk zs.length) else A.chk zs.length) ≠ 0
    split
    · split
      · rename_i h1 h2; exact absurd ⟨h1, h2⟩ h
      · assumption
    · assumption
  refine (all_any v x zs [A, B] w hv hx (by omega) (by simp)).mono ?_
  rintro e w' ⟨u, r, rfl, hu, hres, hb⟩
  obtain ⟨a, cp, rfl, _, _⟩ := hu
  obtain ⟨ar, cr, rfl, _, _⟩ := hres
  exact ⟨_, _, _, _, _, _, _, rfl, by simpa using he, hb⟩

theorem all_okP (v x : Value) (zs : List Int) (A B : AccD) (w : World) (hv : HasInts w v zs) (hx : HasAccs w x [A, B]) (hl : zs.length ≤ 1000) (hA : A.chk zs.length = 0) (hB : B.chk zs.length = 0)
    (p q : Int × Bool) (Z : List Int) (hp : A.res zs = p) (hq : B.res (A.app zs) = q) (hZ : B.app (A.app zs) = Z) :
    Calls Try.prog 16 #[.agg #[v], x] w fun e w' =>
    ∃ a cp cr br o, e = .returned (.tuple #[.agg #[.slice a zs.length cp], .slice (some ⟨br, o, none⟩) 2 cr, .int .i64 0]) ∧ HasInts w' (.slice a zs.length cp) Z ∧
      w'.cell? ⟨br, o, none⟩ = some (.int .i64 p.1) ∧ w'.cell? ⟨br, o + 1, none⟩ = some (.bool p.2) ∧
      w'.cell? ⟨br, o + 2, none⟩ = some (.int .i64 q.1) ∧ w'.cell? ⟨br, o + 3, none⟩ = some (.bool q.2) ∧ Below w.heap.size w w' := by
  subst hp; subst hq; subst hZ
  exact all_okC v x zs A B w hv hx hl hA hB

end Go.Proofs.Ytckfbcjoehjdoaa
