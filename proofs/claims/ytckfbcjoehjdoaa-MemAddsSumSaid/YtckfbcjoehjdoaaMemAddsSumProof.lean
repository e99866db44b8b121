/- MemAddsSum: adding a list of at most 40 numbers to one cell returns each prefix sum and leaves their total. No condition. -/
import Derived.Test.YtckfbcjoehjdoaaRows
import Derived.Test.YtckfbcjoehjdoaaMemB
import Derived.Test.YtckfbcjoehjdoaaMemE
import Derived.Test.YtckfbcjoehjdoaaMemS
import Derived.Test.YtckfbcjoehjdoaaMemO
import Derived.Test.YtckfbcjoehjdoaaMemT
import Derived.Deep.RegionHeld3
import Derived.WalkKit
import Derived.ProofKit
import Derived.OpenShut
import Derived.Lib.Hide
import Derived.Carry
namespace Go.Proofs.Ytckfbcjoehjdoaa.memAddsSum
open Go.ChangeShapes Go.WideShapes Go.ChangeAt Go.RowKit
set_option linter.unusedVariables false

theorem add_do (s x : Int) (v : Value) (w : World) (hv : HasInts w v [0, s]) : Calls Try.prog 10 #[.agg #[v], .agg #[.int .i64 4, .int .i64 1, .int .i64 0, .int .i64 x, .string ByteArray.empty]] w fun e w' =>
    ∃ a c, e = .returned (.tuple #[.agg #[.slice a 2 c], .agg #[.int .i64 s, .bool true], .int .i64 0]) ∧ HasInts w' (.slice a 2 c) [0, wrap64 (s + x)] ∧ Below w.heap.size w w' := by
  have hr : rightB 4 1 0 x ByteArray.empty = true := by
    unfold rightB; simp
  have hc : chk ([0, s] : List Int).length 4 1 0 x ByteArray.empty = 0 := by
    unfold chk; rw [hr]; simp
  have h := do_any v [0, s] 4 1 0 x ByteArray.empty w hv (by simp)
  refine h.mono ?_
  rintro e w' ⟨u, rfl, hu, hb⟩
  rw [show doZ 4 1 0 x ByteArray.empty [0, s] = [0, wrap64 (s + x)] by unfold doZ; rw [if_pos hc]; simp [appZ]] at hu
  have hu' := hu
  obtain ⟨a, c, rfl, _, _⟩ := hu'
  refine ⟨a, c, ?_, hu, hb⟩
  rw [show doR 4 1 0 x ByteArray.empty [0, s] = s by unfold doR; rw [if_pos hc]; rfl, show doOk 4 1 0 x ByteArray.empty [0, s] = true by unfold doOk; rw [if_pos hc]; rfl, hc]
  rfl

theorem keepS {w : World} {p a : Addr} {v u : Value} (h : w.cell? a = some u) (hne : p.block ≠ a.block) : (w.setCell p v).cell? a = some u := by
  rw [World.cell?_setCell_other _ _ _ _ (fun he => hne (congrArg Addr.block he))]; exact h

theorem keepA {w : World} {p a : Addr} {v u : Value} (h : w.cell? a = some u) (hne : p.block ≠ a.block ∨ p.off ≠ a.off) : (w.setCell p v).cell? a = some u := by
  rw [World.cell?_setCell_other _ _ _ _ (fun he => by subst he; simp at hne)]; exact h
theorem sameA {w : World} {a : Addr} {v u : Value} (h : w.cell? a = some u) : (w.setCell a v).cell? a = some v := World.cell?_setCell_same _ _ _ h
theorem giveV {V : World} {p : Addr} {v : Option Value} (h : V.cell? p = v) : ∃ V', V' = V ∧ V'.cell? p = v := ⟨V, rfl, h⟩

/-- A row of two integers lies beside a variable of an integer and a bool. -/
theorem hasInts_pair {w : World} {v : Value} {p q : Int} {B : Nat} {i : Int} {t : Bool} (h : HasInts w v [p, q]) (e0 : w.cell? ⟨B, 0, none⟩ = some (.int .i64 i)) (e1 : w.cell? ⟨B, 1, none⟩ = some (.bool t)) (x : Int) (y : Bool) : HasInts ((w.setCell ⟨B, 0, none⟩ (.int .i64 x)).setCell ⟨B, 1, none⟩ (.bool y)) v [p, q] := by
  obtain ⟨a, cap, rfl, hl, h⟩ := h
  refine ⟨a, cap, rfl, hl, ?_⟩
  rcases h with h | ⟨b, o, rfl, h⟩
  · exact Or.inl h
  · refine Or.inr ⟨b, o, rfl, fun j hj => ?_⟩
    have hc := h j hj
    have h0 := h 0 (by simp)
    have h1 := h 1 (by simp)
    have hne : ∀ z, (⟨B, z, none⟩ : Addr) = ⟨b, o + j, none⟩ → z = 0 ∨ z = 1 → False := by
      intro z hz h01
      simp only [Addr.mk.injEq, and_true] at hz
      obtain ⟨rfl, rfl⟩ := hz
      have hj2 : j = 0 ∨ j = 1 := by simp at hj; omega
      have ho : o = 0 ∨ o = 1 := by omega
      rcases ho with rfl | rfl
      · rw [Nat.zero_add, e1] at h1; simp at h1
      · rw [Nat.add_zero, e1] at h0; simp at h0
    rw [World.cell?_setCell_other _ _ _ _ (fun he => hne 1 he (Or.inr rfl)), World.cell?_setCell_other _ _ _ _ (fun he => hne 0 he (Or.inl rfl))]
    exact hc

theorem ret_int0 {a b : Int} (h : a = b) : Value.int .i64 a = .int .i64 b := by rw [h]

def Ends (wr V : World) (A B : Nat) (v : Value) (p q s : Int) : Prop :=
  V.cell? ⟨A, 0, none⟩ = some v ∧ V.cell? ⟨B, 0, none⟩ = some (.int .i64 s) ∧ V.cell? ⟨B, 1, none⟩ = some (.bool true) ∧ HasInts V v [p, q] ∧ Hid (Below wr.heap.size wr V)

theorem end1 {wr w2 V : World} {v : Value} {p q s : Int} (hV : V = (w2.alloc (.cells #[v] 24)).alloc (.cells #[.int .i64 s, .bool true] 29)) (hu : HasInts w2 v [p, q]) (hb : Below wr.heap.size wr w2) : Ends wr V w2.heap.size (w2.heap.size + 1) v p q s := by
  subst hV
  have hs := hb.size
  refine ⟨cell_alloc _ (by rw [World.cell?_alloc_at _ _ _ _ rfl]; rfl), by rw [World.cell?_alloc_at _ _ _ _ (by simp)]; rfl, by rw [World.cell?_alloc_at _ _ _ _ (by simp)]; rfl, hasInts_keep hu (((Below.refl _ _).alloc (Nat.le_refl _) _).alloc (by simp) _), Lib.hid ((hb.alloc hs _).alloc (by simp; omega) _)⟩
theorem end2 {wr w2 V : World} {v : Value} {p q s : Int} (hV : V = (w2.alloc (.cells #[.int .i64 s, .bool true] 29)).alloc (.cells #[v] 24)) (hu : HasInts w2 v [p, q]) (hb : Below wr.heap.size wr w2) : Ends wr V (w2.heap.size + 1) w2.heap.size v p q s := by
  subst hV
  have hs := hb.size
  refine ⟨by rw [World.cell?_alloc_at _ _ _ _ (by simp)]; rfl, cell_alloc _ (by rw [World.cell?_alloc_at _ _ _ _ rfl]; rfl), cell_alloc _ (by rw [World.cell?_alloc_at _ _ _ _ rfl]; rfl), hasInts_keep hu (((Below.refl _ _).alloc (Nat.le_refl _) _).alloc (by simp) _), Lib.hid ((hb.alloc hs _).alloc (by simp; omega) _)⟩
theorem end3 {wr w2 V : World} {a : Option Addr} {l c A : Nat} {v : Value} {p q s : Int} (hV : V = (w2.setCell ⟨A, 0, none⟩ v).alloc (.cells #[.int .i64 s, .bool true] 29)) (hu : HasInts w2 v [p, q]) (hb : Below wr.heap.size wr w2) (hA : wr.heap.size ≤ A) (e : w2.cell? ⟨A, 0, none⟩ = some (.slice a l c)) : Ends wr V A w2.heap.size v p q s := by
  subst hV
  have hs := hb.size
  have hz : (w2.setCell ⟨A, 0, none⟩ v).heap.size = w2.heap.size := by simp
  refine ⟨cell_alloc _ (World.cell?_setCell_same _ _ _ e), by rw [World.cell?_alloc_at _ _ _ _ hz.symm]; rfl, by rw [World.cell?_alloc_at _ _ _ _ hz.symm]; rfl, hasInts_keep (hasInts_set hu e) ((Below.refl _ _).alloc (Nat.le_refl _) _), Lib.hid ((hb.setCell hA _).alloc (by rw [hz]; exact hs) _)⟩
theorem end4 {wr w2 V : World} {a : Option Addr} {l c A B : Nat} {v : Value} {p q s i : Int} {t : Bool} (hV : V = ((w2.setCell ⟨A, 0, none⟩ v).setCell ⟨B, 0, none⟩ (.int .i64 s)).setCell ⟨B, 1, none⟩ (.bool true)) (hu : HasInts w2 v [p, q]) (hb : Below wr.heap.size wr w2) (hA : wr.heap.size ≤ A) (hB : wr.heap.size ≤ B) (hAB : A ≠ B) (e : w2.cell? ⟨A, 0, none⟩ = some (.slice a l c)) (e0 : w2.cell? ⟨B, 0, none⟩ = some (.int .i64 i)) (e1 : w2.cell? ⟨B, 1, none⟩ = some (.bool t)) : Ends wr V A B v p q s := by
  subst hV
  have f0 : (w2.setCell ⟨A, 0, none⟩ v).cell? ⟨B, 0, none⟩ = some (.int .i64 i) := keepA e0 (Or.inl hAB)
  have f1 : (w2.setCell ⟨A, 0, none⟩ v).cell? ⟨B, 1, none⟩ = some (.bool t) := keepA e1 (Or.inl hAB)
  refine ⟨keepA (keepA (World.cell?_setCell_same _ _ _ e) (Or.inl (Ne.symm hAB))) (Or.inl (Ne.symm hAB)), keepA (World.cell?_setCell_same _ _ _ f0) (Or.inr (by simp)), World.cell?_setCell_same _ _ _ (keepA f1 (Or.inr (by simp))), hasInts_pair (hasInts_set hu e) f0 f1 _ _, Lib.hid (((hb.setCell hA _).setCell hB _).setCell hB _)⟩
theorem end5 {wr w2 V : World} {B : Nat} {v : Value} {p q s i : Int} {t : Bool} (hV : V = ((w2.setCell ⟨B, 0, none⟩ (.int .i64 s)).setCell ⟨B, 1, none⟩ (.bool true)).alloc (.cells #[v] 24)) (hu : HasInts w2 v [p, q]) (hb : Below wr.heap.size wr w2) (hB : wr.heap.size ≤ B) (e0 : w2.cell? ⟨B, 0, none⟩ = some (.int .i64 i)) (e1 : w2.cell? ⟨B, 1, none⟩ = some (.bool t)) : Ends wr V w2.heap.size B v p q s := by
  subst hV
  have hs := hb.size
  have hz : ((w2.setCell ⟨B, 0, none⟩ (.int .i64 s)).setCell ⟨B, 1, none⟩ (.bool true)).heap.size = w2.heap.size := by simp
  refine ⟨by rw [World.cell?_alloc_at _ _ _ _ hz.symm]; rfl, cell_alloc _ (keepA (World.cell?_setCell_same _ _ _ e0) (Or.inr (by simp))), cell_alloc _ (World.cell?_setCell_same _ _ _ (keepA e1 (Or.inr (by simp)))), hasInts_keep (hasInts_pair hu e0 e1 _ _) ((Below.refl _ _).alloc (Nat.le_refl _) _), Lib.hid (((hb.setCell hB _).setCell hB _).alloc (by rw [hz]; exact hs) _)⟩

set_option maxHeartbeats 12000000 in
set_option maxRecDepth 100000 in
theorem walk (w : World) (v0 : Value) (z0 : List Int) (h0 : HasInts w v0 z0) (a1 : Int) (w1 : (Lit.int .i64 a1).wf = true) :
    Calls Try.prog 8 #[v0, .int .i64 a1] w fun e w' => e = .returned (.bool true) ∧ Below w.heap.size w w' := by
  clear w1
  have HH := Lib.hid h0
  obtain ⟨a, cap, rfl, _, hc⟩ := h0
  have HC := Lib.hid hc
  clear hc
  obtain ⟨L, hL⟩ : ∃ L, L = z0.length := ⟨_, rfl⟩
  have HL := Lib.hid hL
  rw [← hL] at HC ⊢
  clear hL
  by_cases hlen : 40 < L
  · go_enter Try.func8, Try.ntmps8
    go_wp2_with (first
      | (go_at_call 9; refine (sane_any _).mono ?_; rintro e w1 ⟨rfl, hb⟩))
    go_ret
    exact ⟨rfl, hb⟩
  · go_enter Try.func8, Try.ntmps8
    go_wp2_with (first
      | (go_at_call 9; refine (sane_any _).mono ?_; rintro e w1 ⟨rfl, hb⟩))
    have HB := Lib.hid hb
    clear hb
    have hst : HasInts ((w1.alloc (.cells #[.int .i64 0, .int .i64 a1] 3)).alloc (.cells #[.slice (some ⟨w1.heap.size, 0, none⟩) 2 2] 24)) (.slice (some ⟨w1.heap.size, 0, none⟩) 2 2) [0, a1] :=
      hasInts_keep (hasInts_lit (zs := [0, a1]) (by simp)) ((Below.refl _ _).alloc (Nat.le_refl _) _)
    go_loopw [7, 8] (fun s i wr => ∃ (k : Nat) (al : Option Addr) (cl : Nat), k ≤ L ∧ i = .int .i64 k ∧ s = .int .i64 (sumK a1 (z0.take k)) ∧ wr.cell? ⟨w1.heap.size + 1, 0, none⟩ = some (.slice al 2 cl) ∧ wr.frozen? ⟨w1.heap.size + 1, 0, none⟩ = false ∧ HasInts wr (.slice al 2 cl) [0, sumK a1 (z0.take k)] ∧ Below w1.heap.size w1 wr ∧ w1.heap.size + 1 + 1 ≤ wr.heap.size) (fun _ i _ => L - (intOf i).toNat)
    case atStart => exact ⟨0, _, _, Nat.zero_le _, rfl, rfl, by rw [World.cell?_alloc_at _ _ _ _ (by simp)]; rfl, World.frozen?_alloc_at _ _ _ _ (by simp), hst, ((Below.refl _ _).alloc (Nat.le_refl _) _).alloc (by simp) _, by simp⟩
    case round =>
      obtain ⟨k, al, cl, hk, rfl, rfl, hbx, hbf, hin, hbw, hsz⟩ := hrel
      obtain ⟨s, hs⟩ : ∃ s, s = sumK a1 (z0.take k) := ⟨_, rfl⟩
      rw [← hs] at hin ⊢
      by_cases hlt : k < L
      · rcases HC.out with hc | ⟨b, o, rfl, hc⟩
        · omega
        have hx := (hbw.mono (Nat.le_refl _)).cell (p := ⟨b, o + k, none⟩) (by have := World.block_lt_of_cell? w ⟨b, o + k, none⟩ (hc k hlt); have := HB.out.size; show b < w1.heap.size; simp at *; omega)
        have hx2 := HB.out.cell (p := ⟨b, o + k, none⟩) (by have := World.block_lt_of_cell? w ⟨b, o + k, none⟩ (hc k hlt); exact this)
        have hcell := hx.trans (hx2.trans (hc k hlt))
        obtain ⟨x, hxx⟩ : ∃ x, x = z0.getD k 0 := ⟨_, rfl⟩
        rw [← hxx] at hcell
        have HS1 : Hid (sumK a1 (z0.take (k + 1)) = wrap64 (s + x)) := Lib.hid (by
          rw [take_snoc' z0 k (by rw [← HL.out]; exact hlt), sumK_snoc, ← hs, ← hxx])
        have HIN := Lib.hid hin
        have HBW := Lib.hid hbw
        have q4 : (k : Int) < L := by omega
        have n1 : w1.heap.size + 1 < wr.heap.size := by have := World.block_lt_of_cell? wr _ hbx; simpa using this
        have NB : Hid (b < w1.heap.size) := Lib.hid (by have := World.block_lt_of_cell? w ⟨b, o + k, none⟩ (hc k hlt); have := HB.out.size; simp at *; omega)
        have HL40 : Hid (L ≤ 40) := Lib.hid (by omega)
        have n3 : b < wr.heap.size := by have := World.block_lt_of_cell? wr _ hcell; simpa using this
        clear hx hx2 hc hxx hin hbw hst hs
        go_wp2
        go_region_held3 (fun w' => w'.cell? ⟨w1.heap.size + 1, 0, none⟩ = some (.slice al 2 cl) ∧ w'.cell? ⟨b, o + k, none⟩ = some (.int .i64 x))
          (first
            | exact ⟨hbx, hcell⟩
            | exact ⟨k1, k2⟩
            | (refine ⟨?_, ?_⟩ <;> (repeat (first | refine keepS ?_ (by first | omega | (dsimp only; omega) | (simp; omega)) | refine cell_alloc _ ?_)) <;> (first | exact k1 | exact k2 | exact hbx | exact hcell))
            | fail)
          ((go_at_call 10; refine (add_do s x _ _ (hasInts_keep HIN.out (by repeat (first | with_reducible exact Below.refl _ _ | with_reducible refine Below.drew ?_ | with_reducible refine Below.alloc ?_ (by first | omega | (simp; omega) | simp) _)))).mono ?_; rintro e w2 ⟨a2, c2, rfl, hu, hb2⟩; (first | (refine cont (ctx2a wr _ _ rfl hb2) ?_; rintro ⟨HBB, gsz, gk, e1, e2, e3, e4, e5, e6⟩) | (refine cont (ctx2b wr _ _ rfl hb2) ?_; rintro ⟨HBB, gsz, gk, e1, e2, e3, e4, e5, e6⟩) | (refine cont (ctx1a wr _ _ rfl hb2) ?_; rintro ⟨HBB, gsz, gk, e1, e2⟩) | (refine cont (ctx1b wr _ _ rfl hb2) ?_; rintro ⟨HBB, gsz, gk, e1, e2, e3, e4⟩) | (refine cont (ctx0 wr _ _ rfl hb2) ?_; rintro ⟨HBB, gsz, gk⟩)); have k1 := gk _ _ _ hbx; have k2 := gk _ _ _ hcell; have HUU := Lib.hid hu; clear hu hb2 gk))
        all_goals (
          have n4 : b < w1.heap.size := NB.out
          rename_i hh
          obtain ⟨hm, hl⟩ := hh
          obtain ⟨V, hV, hmV⟩ := giveV hm
          rw [← hV] at hl ⊢
          (first
            | refine cont (end1 hV HUU.out HBB.out) ?_
            | refine cont (end2 hV HUU.out HBB.out) ?_
            | refine cont (end3 hV HUU.out HBB.out (by omega) (by first | exact e1 | exact e2 | exact e3 | exact e4 | exact e5 | exact e6)) ?_
            | refine cont (end4 hV HUU.out HBB.out (by omega) (by omega) (by omega) (by first | exact e1 | exact e2 | exact e3 | exact e4 | exact e5 | exact e6) (by first | exact e1 | exact e2 | exact e3 | exact e4 | exact e5 | exact e6) (by first | exact e1 | exact e2 | exact e3 | exact e4 | exact e5 | exact e6)) ?_
            | refine cont (end5 hV HUU.out HBB.out (by omega) (by first | exact e1 | exact e2 | exact e3 | exact e4 | exact e5 | exact e6) (by first | exact e1 | exact e2 | exact e3 | exact e4 | exact e5 | exact e6)) ?_)
          rintro ⟨f1, f2, f3, f4, f5⟩
          have hfz : V.frozen? ⟨w1.heap.size + 1, 0, none⟩ = false := ((bcell f5.out).2 _ _ n1).trans hbf
          have hset : ∀ u, (V.setCell ⟨w1.heap.size + 1, 0, none⟩ u).cell? ⟨b, o + k, none⟩ = some (.int .i64 x) := fun u => keepS hl (by dsimp only; omega)
          have F4 : Hid (HasInts (V.setCell ⟨w1.heap.size + 1, 0, none⟩ (.slice a2 2 c2)) (.slice a2 2 c2) [0, wrap64 (s + x)]) := Lib.hid (hasInts_set f4 hmV)
          have HBV : Hid (Below w1.heap.size w1 V) := Lib.hid (HBW.out.trans (f5.out.mono (by omega)))
          have hVs : wr.heap.size ≤ V.heap.size := f5.out.size
          have hself : (V.setCell ⟨w1.heap.size + 1, 0, none⟩ (.slice a2 2 c2)).cell? ⟨w1.heap.size + 1, 0, none⟩ = some (.slice a2 2 c2) := sameA hmV
          clear f4 hV hm HUU HBB gsz
          go_wp2
          exact ⟨⟨k + 1, a2, c2, by omega, by first | rfl | go_num, ret_int0 HS1.out.symm, hself, (World.frozen?_setCell _ _ _ _).trans hfz, by rw [HS1.out]; exact F4.out, HBV.out.setCell (by dsimp only; omega) _, by rw [World.size_setCell]; omega⟩, by simp [intOf]; omega⟩)
      · obtain rfl : k = L := by omega
        have HIN := Lib.hid hin
        have HBW := Lib.hid hbw
        clear hs hin hbw
        have BB : Hid (∀ o w5, Below (wr.alloc o).heap.size (wr.alloc o) w5 → Below w.heap.size w w5) := Lib.hid (fun o w5 h => by
          have h1 := HB.out.size
          have h2 := HBW.out.size
          refine (HB.out.trans (HBW.out.mono h1)).trans ?_
          exact ((Below.refl _ _).alloc (by omega) o).trans (h.mono (by simp; omega)))
        go_wp2_with (first
          | (go_at_call 15; refine (rsame_any _ _ [0, s] [0, s] _ (hasInts_keep HIN.out ((Below.refl _ _).alloc (Nat.le_refl _) _)) (hasInts_lit (zs := [0, s]) (by simp))).mono ?_; rintro e w5 ⟨rfl, hb5⟩))
        all_goals go_ret
        all_goals exact ⟨ret_bool (by simp), BB.out _ _ hb5⟩

theorem own : ownKnob Try.prog.godebug = none := by kernel_rfl
theorem laidOut : laidOutB Try.prog = true := by kernel_rfl

set_option maxRecDepth 100000 in
theorem lifted (os : Os) (started : os.Started) (H : Type) (enc : TypeId × Value → H) :
    ReturnsInHanded {} Try.checked os 8 .any (Rows.memAddsSumSpec.pre6 enc Try.prog Try.f8 Rows.memAddsSumRow.domain false) (Rows.memAddsSumSpec.post enc Try.prog Try.f8 false true false false) := by
  refine returnsInHanded_of_change (C := Try.checked) own started (by kernel_rfl) Try.func8
    (ChangeSpec.witness6 (enc := enc) (C := Try.checked) false ⟨#[], #[.slice none 0 0, .int .i64 0], []⟩ 8 (by kernel_rfl) (by kernel_rfl) (by kernel_rfl) (by kernel_rfl)) ?_
  intro W base args ds gs before hval0 hW hcnd _
  have hval : ∀ (j : Nat) t v, Try.f8.params[j]? = some t → args[j]? = some v → Value.okWide Try.prog W .any base t v := hval0
  have hW' := hW
  obtain ⟨p, q, hA0, hV, rfl, hfz, hnd⟩ := hW
  have hA : DataW.TrodAll enc Try.prog W 0 (fun _ => true) true Try.f8.params.toList args.toList ds p := hA0
  rw [Try.params8] at hA hval
  obtain ⟨v0, vs0, d0, ds0, p0, q0, hargs, rfl, rfl, h0, r0⟩ := trodAll_cons hA
  obtain ⟨v1, vs1, d1, ds1, p1, q1, rfl, rfl, rfl, h1, r1⟩ := trodAll_cons r0
  obtain ⟨rfl, rfl, rfl⟩ := trodAll_nil r1
  obtain rfl : args = #[v0, v1] := by cases args; simp_all
  obtain ⟨rfl, rfl⟩ := trodVars_none hV
  clear hA0 hval0
  simp only [List.append_nil] at hW'
  have lt0 : ∀ x ∈ p0, x.block < W.heap.size := fun x hx => hW'.lt x (by simp [hx])
  have lt1 : ∀ x ∈ p1, x.block < W.heap.size := fun x hx => hW'.lt x (by simp [hx])
  have back0 : ∀ W', Below W.heap.size W W' → DataW.Trod enc Try.prog W' 0 (fun b => decide (b < W.heap.size)) true 22 v0 d0 p0 := fun W' hb => Below.trod laidOut (by kernel_rfl) (of_decide_eq_true (by kernel_rfl)) h0 hb lt0
  have back1 : ∀ W', Below W.heap.size W W' → DataW.Trod enc Try.prog W' 0 (fun b => decide (b < W.heap.size)) true 3 v1 d1 p1 := fun W' hb => Below.trod laidOut (by kernel_rfl) (of_decide_eq_true (by kernel_rfl)) h1 hb lt1
  obtain ⟨z0, k0⟩ := open_intsArg (hval 0 22 v0 rfl rfl) h0
  obtain ⟨a1, rfl, rfl, rfl, w1⟩ := open_int Try.underlying3 (hval 1 3 v1 rfl rfl) h1
  refine (walk W v0 z0 k0 a1 w1).mono fun e W' ⟨he, hg⟩ => ?_
  subst he
  exact ⟨_, rfl, _, _, _, [], _, [], hW', (trodAll_cons_mk (shut_bool Try.underlying4 _) trodAll_mk0), (trodAll_cons_mk (back0 _ hg) (trodAll_cons_mk (back1 _ hg) trodAll_mk0)), rfl, hg.frame _, fun h => by cases h⟩

theorem over : Rows.memAddsSumRow.holds Try.pinned (OpenSpec.ofChange Rows.memAddsSumSpec) :=
  OpenClaim.holds_of_wide 8 Try.f8 rfl rfl rfl rfl rfl rfl rfl ⟨rfl, rfl, rfl, rfl, rfl⟩ rfl rfl rfl rfl rfl (by kernel_rfl) Try.func8 (by kernel_rfl)
    (of_decide_eq_true (by kernel_rfl)) (by unfold Func.isWrapper; first | (rw [if_pos (by decide +kernel)]; kernel_rfl) | (rw [if_neg (by decide +kernel)]; exact ⟨rfl, rfl⟩))
    (fun os started H enc _ => lifted os started H enc)

/-- The given statement. -/
theorem proved : Rows.MemAddsSumSaid :=
  over
#print axioms proved
end Go.Proofs.Ytckfbcjoehjdoaa.memAddsSum
