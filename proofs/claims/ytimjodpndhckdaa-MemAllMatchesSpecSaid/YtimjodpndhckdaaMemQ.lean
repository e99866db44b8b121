
/-
  Layer 2: a list of accesses, by the reference.
-/
import Derived.Test.YtimjodpndhckdaaRows
import Derived.Test.YtimjodpndhckdaaBase
import Derived.Test.YtimjodpndhckdaaAux
import Derived.Test.YtimjodpndhckdaaTag
import Derived.Test.YtimjodpndhckdaaMemA
import Derived.Test.YtimjodpndhckdaaMemB
import Derived.Test.YtimjodpndhckdaaMemE
import Derived.Test.YtimjodpndhckdaaMemF
import Derived.Test.YtimjodpndhckdaaMemP
import Derived.Outline
import Derived.Deep.RegionHeld3
import Derived.Deep.DeepCutAuto
namespace Go.Proofs.Ytimjodpndhckdaa
set_option linter.unusedVariables false
open Go.ChangeShapes Go.WideShapes Go.ChangeAt Go.RowKit

theorem resQ_cell {w : World} {r : Int} {q : Bool} {T : TypeId} (j : Nat) (u : Value) (hj : [Value.int .i64 r, Value.bool q][j]? = some u) : (w.alloc (.cells #[.int .i64 r, .bool q] T)).cell? ((⟨w.heap.size, 0, none⟩ : Addr).add j) = some u := by
  match j, hj with
  | 0, hj => simp at hj; subst hj; simp [Addr.add, World.cell?_alloc_at]
  | 1, hj => simp at hj; subst hj; simp [Addr.add, World.cell?_alloc_at]

def RAllP (zs : List Int) (l : List AccD) (E : Int) (w : World) (e : Ending) (w' : World) : Prop :=
  ∃ u r, e = .returned (.tuple #[.agg #[u], r, .int .i64 E]) ∧ HasInts w' u (if E = 0 then stZ zs l else zs) ∧ HasRes w' r (if E = 0 then stR zs l else []) ∧ Below w.heap.size w w'

set_option maxHeartbeats 8000000 in
set_option maxRecDepth 100000 in
theorem rallQ_any (v x : Value) (zs : List Int) (l : List AccD) (w : World) (hv : HasInts w v zs) (hx : HasAccs w x l) (hlen : zs.length ≤ 17592186044416) (hll : l.length ≤ 1099511627776) :
    Calls Try.prog 14 #[.agg #[v], x] w (RAllP zs l (errOf zs.length l) w) := by
  obtain ⟨i0, hi, hz0, hz1, hz2⟩ := info_parts info_res
  have HV := Lib.hid hv
  obtain ⟨a, cap, rfl, _, _⟩ := hv
  obtain ⟨ax, capx, rfl, _, hxc⟩ := hx
  have HXC := Lib.hid hxc
  clear hxc
  obtain ⟨L, hL⟩ : ∃ L, L = zs.length := ⟨_, rfl⟩
  obtain ⟨M, hM⟩ : ∃ M, M = l.length := ⟨_, rfl⟩
  rw [← hL] at hlen HV ⊢
  rw [← hM] at hll HXC ⊢
  have HL := Lib.hid hL
  have HM := Lib.hid hM
  clear hL hM
  go_enter Try.func14, Try.ntmps14
  go_wp2_with fail
  obtain ⟨W0, hW0⟩ : ∃ W, W = ((w.alloc (.cells #[.slice a L cap] 24)).alloc (.cells #[.slice none 0 0] 24)).alloc (.cells #[.slice a L cap] 24) := ⟨_, rfl⟩
  rw [← hW0]
  have S0 : Hid (w.heap.size + 3 = W0.heap.size) := Lib.hid (by rw [hW0]; simp)
  have B0 : Hid (Below w.heap.size w W0) := Lib.hid (by rw [hW0]; exact (((Below.refl _ _).alloc (Nat.le_refl _) _).alloc (by simp) _).alloc (by simp; omega) _)
  obtain ⟨X, hX⟩ : ∃ X, X = w.heap.size + 2 := ⟨_, rfl⟩
  have c0 : Hid (W0.cell? ⟨w.heap.size, 0, none⟩ = some (.slice a L cap)) := Lib.hid (by rw [hW0]; go_simp)
  have c1 : Hid (W0.cell? ⟨w.heap.size + 1, 0, none⟩ = some (.slice none 0 0)) := Lib.hid (by rw [hW0]; go_simp)
  have f1 : Hid (W0.frozen? ⟨w.heap.size + 1, 0, none⟩ = false) := Lib.hid (by rw [hW0]; go_simp)
  have c2 : Hid (W0.cell? ⟨X, 0, none⟩ = some (.slice a L cap)) := Lib.hid (by rw [hW0, hX]; go_simp)
  have f2 : Hid (W0.frozen? ⟨X, 0, none⟩ = false) := Lib.hid (by rw [hW0, hX]; go_simp)
  have T2 : Hid (Tag W0 X 24) := Lib.hid (by
    rw [hW0, hX]
    have := tag_new ((w.alloc (.cells #[.slice a L cap] 24)).alloc (.cells #[.slice none 0 0] 24)) #[.slice a L cap] 24
    simpa using this)
  have HX := Lib.hid hX
  have R0 : Hid (RowOk w (X + 1) (.slice a L cap) W0 (.slice a L cap) zs) := Lib.hid ⟨hasInts_keep (by rw [HL.out]; rw [HL.out] at HV; exact HV.out) B0.out, Or.inl rfl⟩
  have e2 : w.heap.size + 1 + 1 = X := by omega
  rw [e2]
  clear hW0 hX e2
  go_loopw [8, 9] (fun v i wr => ∃ (k : Nat) (au : Option Addr) (cu : Nat), k ≤ M ∧ i = .int .i64 k ∧ wr.cell? ⟨X, 0, none⟩ = some (.slice au L cu) ∧ wr.frozen? ⟨X, 0, none⟩ = false ∧ RowOk w (X + 1) (.slice a L cap) wr (.slice au L cu) (stZ zs (l.take k)) ∧ Tag wr X 24 ∧ wr.ownsRow (X + 1) 36 2 v k (resCells (stR zs (l.take k))) ∧ Below X W0 wr ∧ X < wr.heap.size ∧ Hid (errOf L (l.take k) = 0)) (fun _ i _ => M - (intOf i).toNat)
  case atStart => exact ⟨0, a, cap, Nat.zero_le _, rfl, c2.out, f2.out, R0.out, T2.out, World.ownsRow_nil _ _ _ _, Below.refl _ _, tag_lt T2.out, Lib.hid (by simp [errOf])⟩
  case round =>
    obtain ⟨k, au, cu, hk, rfl, hxb, hxf, hrow, htag, hor, hbr, hXs, herr⟩ := hrel
    have HROW := Lib.hid hrow
    have HTAG := Lib.hid htag
    have HOR := Lib.hid hor
    have HBR := Lib.hid hbr
    have HWr : Hid (Below w.heap.size w wr) := Lib.hid (B0.out.trans (hbr.mono (by have := HX.out; omega)))
    have p0 : wr.cell? ⟨w.heap.size, 0, none⟩ = some (.slice a L cap) := (hbr.cell (p := ⟨w.heap.size, 0, none⟩) (by have := HX.out; show w.heap.size < X; omega)).trans c0.out
    have p1 : wr.cell? ⟨w.heap.size + 1, 0, none⟩ = some (.slice none 0 0) := (hbr.cell (p := ⟨w.heap.size + 1, 0, none⟩) (by have := HX.out; show w.heap.size + 1 < X; omega)).trans c1.out
    have g1 : wr.frozen? ⟨w.heap.size + 1, 0, none⟩ = false := (hbr.frozen (p := ⟨w.heap.size + 1, 0, none⟩) (by have := HX.out; show w.heap.size + 1 < X; omega)).trans f1.out
    have hx1 : w.heap.size + 1 < X := by have := HX.out; omega
    clear hrow htag hor hbr
    by_cases hlt : k < M
    · obtain ⟨bx, ox, rfl, hx⟩ := HXC.out.resolve_left (by omega)
      obtain ⟨A, hA⟩ : ∃ A, A = l.getD k noAcc := ⟨_, rfl⟩
      obtain ⟨x1, x2, x3, x4, x5⟩ := hx k hlt
      have hbx : bx < w.heap.size := World.block_lt_of_cell? w _ x1
      rw [← hA] at x1 x2 x3 x4 x5
      have y1 := cel_below HWr.out x1
      have y2 := cel_below HWr.out x2
      have y3 := cel_below HWr.out x3
      have y4 := cel_below HWr.out x4
      have y5 := cel_below HWr.out x5
      have HA := Lib.hid hA
      clear hx hA x1 x2 x3 x4 x5
      obtain ⟨ak, ac, ao, an, ab⟩ := A
      simp only at y1 y2 y3 y4 y5
      obtain ⟨Z, hZ⟩ : ∃ Z, Z = stZ zs (l.take k) := ⟨_, rfl⟩
      have hZl : Z.length = L := by rw [hZ, stZ_length, HL.out]
      rw [← hZ] at HROW
      have HQ : Hid (∀ w, HasInts w (.slice au L cu) Z → Calls Try.prog 47 #[.agg #[.slice au L cu], .agg #[.int .i64 ak, .int .i64 ac, .int .i64 ao, .int .i64 an, .string ab]] w fun e w' =>
          ∃ an' cn, e = .returned (.tuple #[.agg #[.slice an' L cn], .agg #[.int .i64 (doR ak ac ao an ab Z), .bool (doOk ak ac ao an ab Z)], .int .i64 (chk L ak ac ao an ab)]) ∧ HasInts w' (.slice an' L cn) (doZ ak ac ao an ab Z) ∧ Below w.heap.size w w' ∧ FromO w' w.heap.size (.slice au L cu) (.slice an' L cn) (doZ ak ac ao an ab Z)) := Lib.hid (fun w hw => by
        refine (rdo_anyF (.slice au L cu) Z ak ac ao an ab w hw (by omega)).mono ?_
        rintro e w' ⟨u, rfl, hu, hb, hF⟩
        have hu' := hu
        obtain ⟨an', cn, rfl, _, _⟩ := hu'
        have hl : (doZ ak ac ao an ab Z).length = L := by unfold doZ; split; rw [appZ_length, hZl]; exact hZl
        rw [hl] at hu hF ⊢
        exact ⟨an', cn, by rw [hZl]; rfl, hu, hb, hF⟩)
      obtain ⟨rv, hrv⟩ : ∃ r, r = doR ak ac ao an ab Z := ⟨_, rfl⟩
      obtain ⟨rq, hrq⟩ : ∃ r, r = doOk ak ac ao an ab Z := ⟨_, rfl⟩
      obtain ⟨re, hre⟩ : ∃ r, r = chk L ak ac ao an ab := ⟨_, rfl⟩
      obtain ⟨Z', hZ'⟩ : ∃ r, r = doZ ak ac ao an ab Z := ⟨_, rfl⟩
      rw [← hrv, ← hrq, ← hre, ← hZ'] at HQ
      have NRV := Lib.hid hrv
      have NRQ := Lib.hid hrq
      have NRE := Lib.hid hre
      have NZ' := Lib.hid hZ'
      have NZ := Lib.hid hZ
      have NL := Lib.hid hZl
      clear hrv hrq hre hZ' hZ hZl
      have hlt2 : (k : Int) < M := by omega
      have HWrr := Lib.hid HWr.out
      go_upto_region 6 with fail
      go_cut [10, 11, 12] (fun s10 s11 s12 wx => ∃ (gn gr : Nat) (an' : Option Addr) (cn : Nat), s10 = .pointer (some ⟨gn, 0, none⟩) ∧ s11 = .pointer (some ⟨gr, 0, none⟩) ∧ s12 = .int .i64 re ∧ wx.cell? ⟨gn, 0, none⟩ = some (.slice an' L cn) ∧ wx.cell? ⟨gr, 0, none⟩ = some (.int .i64 rv) ∧ wx.cell? ⟨gr, 1, none⟩ = some (.bool rq) ∧ RowOk w (X + 1) (.slice a L cap) wx (.slice an' L cn) Z' ∧ Below wr.heap.size wr wx)
      case first =>
        have HW := Lib.hid (Below.refl wr.heap.size wr)
        have HWS := Lib.hid (Nat.le_refl wr.heap.size)
        have HRX := Lib.hid HROW.out
        refine wp_region_held_drew (S := fun W => W.cell? ⟨X, 0, none⟩ = some (.slice au L cu) ∧ W.cell? ⟨bx, ox + k * 5, none⟩ = some (.int .i64 ak) ∧ W.cell? ⟨bx, ox + k * 5 + 1, none⟩ = some (.int .i64 ac) ∧ W.cell? ⟨bx, ox + k * 5 + 2, none⟩ = some (.int .i64 ao) ∧ W.cell? ⟨bx, ox + k * 5 + 3, none⟩ = some (.int .i64 an) ∧ W.cell? ⟨bx, ox + k * 5 + 4, none⟩ = some (.string ab)) (by kernel_rfl) ?_ (fun hHeld => ?_)
        · (try dsimp only); exact ⟨by first | assumption | go_simp, by first | assumption | go_simp, by first | assumption | go_simp, by first | assumption | go_simp, by first | assumption | go_simp, by first | assumption | go_simp⟩
        replace HW := Lib.hid (show Below _ _ (World.drew wr) from below_drews HW.out 1)
        obtain ⟨wy0, hwy⟩ : ∃ W, W = World.drew wr := ⟨_, rfl⟩
        rw [← hwy] at HW ⊢
        have hHeld2 := hHeld
        rw [← hwy] at hHeld2
        clear hHeld
        have LO : wr.heap.size ≤ wy0.heap.size := by rw [hwy]; exact Nat.le_refl _
        have hb : Below wr.heap.size wr wy0 := by rw [hwy]; exact below_drews (Below.refl _ _) 1
        replace HRX := Lib.hid (rowOk_keep HRX.out hb)
        clear hb hwy
        obtain ⟨s0, s1, s2, s3, s4, s5⟩ := hHeld2
        have hHeld : (fun W => W.cell? ⟨X, 0, none⟩ = some (.slice au L cu) ∧ W.cell? ⟨bx, ox + k * 5, none⟩ = some (.int .i64 ak) ∧ W.cell? ⟨bx, ox + k * 5 + 1, none⟩ = some (.int .i64 ac) ∧ W.cell? ⟨bx, ox + k * 5 + 2, none⟩ = some (.int .i64 ao) ∧ W.cell? ⟨bx, ox + k * 5 + 3, none⟩ = some (.int .i64 an) ∧ W.cell? ⟨bx, ox + k * 5 + 4, none⟩ = some (.string ab)) wy0 := ⟨s0, s1, s2, s3, s4, s5⟩
        first | (refine wpAnyH_take (i := 0) (oi := ?oi1) (v := ?v1) ?hi1 (by kernel_rfl) (by kernel_rfl) (by kernel_rfl) ?hQ1 (Or.inl ⟨?hw1, ?hy1⟩) (by assumption) ?rest1; (case hi1 => (simp only [List.getElem?_toArray, List.getElem?_cons_zero]; rfl)); (case hQ1 => exact fun _ _ _ h => h); (case hw1 => rfl); (case hy1 => ((intro w hSw); (try dsimp only at hSw); go_simp; (try with_reducible rfl)))) | (refine wpAnyH_take (i := 0) (oi := ?oi2) (v := undef) ?hi2 (by kernel_rfl) (by kernel_rfl) (by kernel_rfl) ?hQ2 (Or.inr ⟨?hw2, rfl⟩) (by assumption) ?rest2; (case hi2 => (simp only [List.getElem?_toArray, List.getElem?_cons_zero]; rfl)); (case hQ2 => exact fun _ _ _ h => h); (case hw2 => rfl))
        (try simp only [Act.put, List.setIfInBounds_toArray, List.set_cons_zero, List.set_cons_succ])
        first | (refine wpAnyH_take (i := 1) (oi := ?oi3) (v := ?v3) ?hi3 (by kernel_rfl) (by kernel_rfl) (by kernel_rfl) ?hQ3 (Or.inl ⟨?hw3, ?hy3⟩) (by assumption) ?rest3; (case hi3 => (simp only [List.getElem?_toArray, List.getElem?_cons_succ, List.getElem?_cons_zero]; rfl)); (case hQ3 => exact fun _ _ _ h => h); (case hw3 => rfl); (case hy3 => ((intro w hSw); (try dsimp only at hSw); go_simp; (try with_reducible rfl)))) | (refine wpAnyH_take (i := 1) (oi := ?oi4) (v := undef) ?hi4 (by kernel_rfl) (by kernel_rfl) (by kernel_rfl) ?hQ4 (Or.inr ⟨?hw4, rfl⟩) (by assumption) ?rest4; (case hi4 => (simp only [List.getElem?_toArray, List.getElem?_cons_succ, List.getElem?_cons_zero]; rfl)); (case hQ4 => exact fun _ _ _ h => h); (case hw4 => rfl))
        (try simp only [Act.put, List.setIfInBounds_toArray, List.set_cons_zero, List.set_cons_succ])
        first | (refine wpAnyH_take (i := 2) (oi := ?oi5) (v := ?v5) ?hi5 (by kernel_rfl) (by kernel_rfl) (by kernel_rfl) ?hQ5 (Or.inl ⟨?hw5, ?hy5⟩) (by assumption) ?rest5; (case hi5 => (simp only [List.getElem?_toArray, List.getElem?_cons_succ, List.getElem?_cons_zero]; rfl)); (case hQ5 => exact fun _ _ _ h => h); (case hw5 => rfl); (case hy5 => ((intro w hSw); (try dsimp only at hSw); go_simp; (try with_reducible rfl)))) | (refine wpAnyH_take (i := 2) (oi := ?oi6) (v := undef) ?hi6 (by kernel_rfl) (by kernel_rfl) (by kernel_rfl) ?hQ6 (Or.inr ⟨?hw6, rfl⟩) (by assumption) ?rest6; (case hi6 => (simp only [List.getElem?_toArray, List.getElem?_cons_succ, List.getElem?_cons_zero]; rfl)); (case hQ6 => exact fun _ _ _ h => h); (case hw6 => rfl))
        (try simp only [Act.put, List.setIfInBounds_toArray, List.set_cons_zero, List.set_cons_succ])
        first | (refine wpAnyH_take (i := 3) (oi := ?oi7) (v := ?v7) ?hi7 (by kernel_rfl) (by kernel_rfl) (by kernel_rfl) ?hQ7 (Or.inl ⟨?hw7, ?hy7⟩) (by assumption) ?rest7; (case hi7 => (simp only [List.getElem?_toArray, List.getElem?_cons_succ, List.getElem?_cons_zero]; rfl)); (case hQ7 => exact fun _ _ _ h => h); (case hw7 => rfl); (case hy7 => ((intro w hSw); (try dsimp only at hSw); go_simp; (try with_reducible rfl)))) | (refine wpAnyH_take (i := 3) (oi := ?oi8) (v := undef) ?hi8 (by kernel_rfl) (by kernel_rfl) (by kernel_rfl) ?hQ8 (Or.inr ⟨?hw8, rfl⟩) (by assumption) ?rest8; (case hi8 => (simp only [List.getElem?_toArray, List.getElem?_cons_succ, List.getElem?_cons_zero]; rfl)); (case hQ8 => exact fun _ _ _ h => h); (case hw8 => rfl))
        (try simp only [Act.put, List.setIfInBounds_toArray, List.set_cons_zero, List.set_cons_succ])
        first | (refine wpAnyH_take (i := 4) (oi := ?oi9) (v := ?v9) ?hi9 (by kernel_rfl) (by kernel_rfl) (by kernel_rfl) ?hQ9 (Or.inl ⟨?hw9, ?hy9⟩) (by assumption) ?rest9; (case hi9 => (simp only [List.getElem?_toArray, List.getElem?_cons_succ, List.getElem?_cons_zero]; rfl)); (case hQ9 => exact fun _ _ _ h => h); (case hw9 => rfl); (case hy9 => ((intro w hSw); (try dsimp only at hSw); go_simp; (try with_reducible rfl)))) | (refine wpAnyH_take (i := 4) (oi := ?oi10) (v := undef) ?hi10 (by kernel_rfl) (by kernel_rfl) (by kernel_rfl) ?hQ10 (Or.inr ⟨?hw10, rfl⟩) (by assumption) ?rest10; (case hi10 => (simp only [List.getElem?_toArray, List.getElem?_cons_succ, List.getElem?_cons_zero]; rfl)); (case hQ10 => exact fun _ _ _ h => h); (case hw10 => rfl))
        (try simp only [Act.put, List.setIfInBounds_toArray, List.set_cons_zero, List.set_cons_succ])
        clear hHeld
        refine wpAnyH_ready (rs := [5, 10, 11]) (by kernel_rfl) (by simp) ?_
        refine AllReadyH.cons (o := ?oi11) ?hi11 (fun K hK => ?rest11) (AllReadyH.cons (o := ?oi12) ?hi12 (fun K hK => ?rest12) (AllReadyH.cons (o := ?oi13) ?hi13 (fun K hK => ?rest13) AllReadyH.nil))
        (case hi11 => (simp only [List.getElem?_toArray, List.getElem?_cons_succ, List.getElem?_cons_zero]; rfl))
        (case hi12 => (simp only [List.getElem?_toArray, List.getElem?_cons_succ, List.getElem?_cons_zero]; rfl))
        (case hi13 => (simp only [List.getElem?_toArray, List.getElem?_cons_succ, List.getElem?_cons_zero]; rfl))
        case rest11 =>
          go_simp
          ((with_reducible refine (HQ.out _ (rowOk_has HRX.out)).mono ?_); rintro e wz14 ⟨an', cn, rfl, hu, hb, hF⟩)
          replace HW := Lib.hid (below_step HW.out hb)
          replace s0 := cel_below hb s0
          replace s1 := cel_below hb s1
          replace s2 := cel_below hb s2
          replace s3 := cel_below hb s3
          replace s4 := cel_below hb s4
          replace s5 := cel_below hb s5
          replace HRX := Lib.hid (rowOk_keep HRX.out hb)
          have HU := Lib.hid (rowOk_from HRX.out hu hF (by omega))
          clear hu hF HRX
          replace LO := Nat.le_trans LO hb.size
          clear hb
          refine hK.out _ _ ?_ (fun _ => ?_)
          · (try dsimp only); exact ⟨s0, s1, s2, s3, s4, s5⟩
          clear hK K
          (try simp only [Act.put, List.setIfInBounds_toArray, List.set_cons_zero, List.set_cons_succ])
          have hHeld : (fun W => W.cell? ⟨X, 0, none⟩ = some (.slice au L cu) ∧ W.cell? ⟨bx, ox + k * 5, none⟩ = some (.int .i64 ak) ∧ W.cell? ⟨bx, ox + k * 5 + 1, none⟩ = some (.int .i64 ac) ∧ W.cell? ⟨bx, ox + k * 5 + 2, none⟩ = some (.int .i64 ao) ∧ W.cell? ⟨bx, ox + k * 5 + 3, none⟩ = some (.int .i64 an) ∧ W.cell? ⟨bx, ox + k * 5 + 4, none⟩ = some (.string ab)) wz14 := ⟨s0, s1, s2, s3, s4, s5⟩
          first | (refine wpAnyH_take (i := 6) (oi := ?oi15) (v := ?v15) ?hi15 (by kernel_rfl) (by kernel_rfl) (by kernel_rfl) ?hQ15 (Or.inl ⟨?hw15, ?hy15⟩) (by assumption) ?rest15; (case hi15 => (simp only [List.getElem?_toArray, List.getElem?_cons_succ, List.getElem?_cons_zero]; rfl)); (case hQ15 => exact fun _ _ _ h => h); (case hw15 => rfl); (case hy15 => ((intro w hSw); (try dsimp only at hSw); go_simp; (try with_reducible rfl)))) | (refine wpAnyH_take (i := 6) (oi := ?oi16) (v := undef) ?hi16 (by kernel_rfl) (by kernel_rfl) (by kernel_rfl) ?hQ16 (Or.inr ⟨?hw16, rfl⟩) (by assumption) ?rest16; (case hi16 => (simp only [List.getElem?_toArray, List.getElem?_cons_succ, List.getElem?_cons_zero]; rfl)); (case hQ16 => exact fun _ _ _ h => h); (case hw16 => rfl))
          (try simp only [Act.put, List.setIfInBounds_toArray, List.set_cons_zero, List.set_cons_succ])
          first | (refine wpAnyH_take (i := 7) (oi := ?oi17) (v := ?v17) ?hi17 (by kernel_rfl) (by kernel_rfl) (by kernel_rfl) ?hQ17 (Or.inl ⟨?hw17, ?hy17⟩) (by assumption) ?rest17; (case hi17 => (simp only [List.getElem?_toArray, List.getElem?_cons_succ, List.getElem?_cons_zero]; rfl)); (case hQ17 => exact fun _ _ _ h => h); (case hw17 => rfl); (case hy17 => ((intro w hSw); (try dsimp only at hSw); go_simp; (try with_reducible rfl)))) | (refine wpAnyH_take (i := 7) (oi := ?oi18) (v := undef) ?hi18 (by kernel_rfl) (by kernel_rfl) (by kernel_rfl) ?hQ18 (Or.inr ⟨?hw18, rfl⟩) (by assumption) ?rest18; (case hi18 => (simp only [List.getElem?_toArray, List.getElem?_cons_succ, List.getElem?_cons_zero]; rfl)); (case hQ18 => exact fun _ _ _ h => h); (case hw18 => rfl))
          (try simp only [Act.put, List.setIfInBounds_toArray, List.set_cons_zero, List.set_cons_succ])
          first | (refine wpAnyH_take (i := 8) (oi := ?oi19) (v := ?v19) ?hi19 (by kernel_rfl) (by kernel_rfl) (by kernel_rfl) ?hQ19 (Or.inl ⟨?hw19, ?hy19⟩) (by assumption) ?rest19; (case hi19 => (simp only [List.getElem?_toArray, List.getElem?_cons_succ, List.getElem?_cons_zero]; rfl)); (case hQ19 => exact fun _ _ _ h => h); (case hw19 => rfl); (case hy19 => ((intro w hSw); (try dsimp only at hSw); go_simp; (try with_reducible rfl)))) | (refine wpAnyH_take (i := 8) (oi := ?oi20) (v := undef) ?hi20 (by kernel_rfl) (by kernel_rfl) (by kernel_rfl) ?hQ20 (Or.inr ⟨?hw20, rfl⟩) (by assumption) ?rest20; (case hi20 => (simp only [List.getElem?_toArray, List.getElem?_cons_succ, List.getElem?_cons_zero]; rfl)); (case hQ20 => exact fun _ _ _ h => h); (case hw20 => rfl))
          (try simp only [Act.put, List.setIfInBounds_toArray, List.set_cons_zero, List.set_cons_succ])
          first | (refine wpAnyH_take (i := 9) (oi := ?oi21) (v := ?v21) ?hi21 (by kernel_rfl) (by kernel_rfl) (by kernel_rfl) ?hQ21 (Or.inl ⟨?hw21, ?hy21⟩) (by assumption) ?rest21; (case hi21 => (simp only [List.getElem?_toArray, List.getElem?_cons_succ, List.getElem?_cons_zero]; rfl)); (case hQ21 => exact fun _ _ _ h => h); (case hw21 => rfl); (case hy21 => ((intro w hSw); (try dsimp only at hSw); go_simp; (try with_reducible rfl)))) | (refine wpAnyH_take (i := 9) (oi := ?oi22) (v := undef) ?hi22 (by kernel_rfl) (by kernel_rfl) (by kernel_rfl) ?hQ22 (Or.inr ⟨?hw22, rfl⟩) (by assumption) ?rest22; (case hi22 => (simp only [List.getElem?_toArray, List.getElem?_cons_succ, List.getElem?_cons_zero]; rfl)); (case hQ22 => exact fun _ _ _ h => h); (case hw22 => rfl))
          (try simp only [Act.put, List.setIfInBounds_toArray, List.set_cons_zero, List.set_cons_succ])
          clear hHeld
          refine wpAnyH_ready (rs := [10, 11]) (by kernel_rfl) (by simp) ?_
          refine AllReadyH.cons (o := ?oi23) ?hi23 (fun K hK => ?rest23) (AllReadyH.cons (o := ?oi24) ?hi24 (fun K hK => ?rest24) AllReadyH.nil)
          (case hi23 => (simp only [List.getElem?_toArray, List.getElem?_cons_succ, List.getElem?_cons_zero]; rfl))
          (case hi24 => (simp only [List.getElem?_toArray, List.getElem?_cons_succ, List.getElem?_cons_zero]; rfl))
          case rest23 =>
            go_simp
            obtain ⟨wz25, hwy⟩ : ∃ W, W = wz14.alloc (.cells #[.slice none 0 0] 24) := ⟨_, rfl⟩
            rw [← hwy]
            have hb : Below wz14.heap.size wz14 wz25 := by rw [hwy]; exact below_new1 _ _
            have nc0 : wz25.cell? ⟨wz14.heap.size, 0, none⟩ = some (.slice none 0 0) := by rw [hwy, World.cell?_alloc_at _ _ _ _ rfl]; rfl
            have nf0 : wz25.frozen? ⟨wz14.heap.size, 0, none⟩ = false := by rw [hwy]; exact World.frozen?_alloc_at _ _ _ _ rfl
            have nt : Tag wz25 wz14.heap.size 24 := by rw [hwy]; exact tag_new _ _ _
            have nz : wz14.heap.size < wz25.heap.size := by rw [hwy]; simp
            have nl := LO
            replace HW := Lib.hid (below_step HW.out hb)
            replace s0 := cel_below hb s0
            replace s1 := cel_below hb s1
            replace s2 := cel_below hb s2
            replace s3 := cel_below hb s3
            replace s4 := cel_below hb s4
            replace s5 := cel_below hb s5
            replace HU := Lib.hid (rowOk_keep HU.out hb)
            replace LO := Nat.le_trans LO hb.size
            clear hb hwy
            refine hK.out _ _ ?_ (fun _ => ?_)
            · (try dsimp only); exact ⟨s0, s1, s2, s3, s4, s5⟩
            clear hK K
            (try simp only [Act.put, List.setIfInBounds_toArray, List.set_cons_zero, List.set_cons_succ])
            refine wpAnyH_ready (rs := [11]) (by kernel_rfl) (by simp) ?_
            refine AllReadyH.cons (o := ?oi26) ?hi26 (fun K hK => ?rest26) AllReadyH.nil
            (case hi26 => (simp only [List.getElem?_toArray, List.getElem?_cons_succ, List.getElem?_cons_zero]; rfl))
            go_simp
            obtain ⟨wz27, hwy⟩ : ∃ W, W = wz25.alloc (.cells #[.int .i64 0, .bool false] 36) := ⟨_, rfl⟩
            rw [← hwy]
            have hb : Below wz25.heap.size wz25 wz27 := by rw [hwy]; exact below_new1 _ _
            have rc0 : wz27.cell? ⟨wz25.heap.size, 0, none⟩ = some (.int .i64 0) := by rw [hwy, World.cell?_alloc_at _ _ _ _ rfl]; rfl
            have rf0 : wz27.frozen? ⟨wz25.heap.size, 0, none⟩ = false := by rw [hwy]; exact World.frozen?_alloc_at _ _ _ _ rfl
            have rc1 : wz27.cell? ⟨wz25.heap.size, 1, none⟩ = some (.bool false) := by rw [hwy, World.cell?_alloc_at _ _ _ _ rfl]; rfl
            have rf1 : wz27.frozen? ⟨wz25.heap.size, 1, none⟩ = false := by rw [hwy]; exact World.frozen?_alloc_at _ _ _ _ rfl
            have rt : Tag wz27 wz25.heap.size 36 := by rw [hwy]; exact tag_new _ _ _
            have rz : wz25.heap.size < wz27.heap.size := by rw [hwy]; simp
            have rl := LO
            replace HW := Lib.hid (below_step HW.out hb)
            replace s0 := cel_below hb s0
            replace s1 := cel_below hb s1
            replace s2 := cel_below hb s2
            replace s3 := cel_below hb s3
            replace s4 := cel_below hb s4
            replace s5 := cel_below hb s5
            replace nc0 := cel_below hb nc0
            replace nf0 := fro_below hb nz nf0
            replace nt := tag_below nt hb
            have nrn : wz14.heap.size ≠ wz25.heap.size := by omega
            replace nz := lt_below hb nz
            replace HU := Lib.hid (rowOk_keep HU.out hb)
            replace LO := Nat.le_trans LO hb.size
            clear hb hwy
            refine hK.out _ _ ?_ (fun _ => ?_)
            · (try dsimp only); exact ⟨s0, s1, s2, s3, s4, s5⟩
            clear hK K
            (try simp only [Act.put, List.setIfInBounds_toArray, List.set_cons_zero, List.set_cons_succ])
            refine wpAnyH_ready (rs := [12]) (by kernel_rfl) (by simp) ?_
            refine AllReadyH.cons (o := ?oi28) ?hi28 (fun K hK => ?rest28) AllReadyH.nil
            (case hi28 => (simp only [List.getElem?_toArray, List.getElem?_cons_succ, List.getElem?_cons_zero]; rfl))
            go_simp
            obtain ⟨wz29, hwy⟩ : ∃ W, W = (wz27.setCell ⟨wz14.heap.size, 0, none⟩ (.slice an' L cn)) := ⟨_, rfl⟩
            rw [← hwy]
            replace s0 : wz29.cell? ⟨X, 0, none⟩ = some (.slice au L cu) := by rw [hwy]; exact keepA_ (s0) (Or.inl (by omega))
            replace s1 : wz29.cell? ⟨bx, ox + k * 5, none⟩ = some (.int .i64 ak) := by rw [hwy]; exact keepA_ (s1) (Or.inl (by omega))
            replace s2 : wz29.cell? ⟨bx, ox + k * 5 + 1, none⟩ = some (.int .i64 ac) := by rw [hwy]; exact keepA_ (s2) (Or.inl (by omega))
            replace s3 : wz29.cell? ⟨bx, ox + k * 5 + 2, none⟩ = some (.int .i64 ao) := by rw [hwy]; exact keepA_ (s3) (Or.inl (by omega))
            replace s4 : wz29.cell? ⟨bx, ox + k * 5 + 3, none⟩ = some (.int .i64 an) := by rw [hwy]; exact keepA_ (s4) (Or.inl (by omega))
            replace s5 : wz29.cell? ⟨bx, ox + k * 5 + 4, none⟩ = some (.string ab) := by rw [hwy]; exact keepA_ (s5) (Or.inl (by omega))
            replace rc0 : wz29.cell? ⟨wz25.heap.size, 0, none⟩ = some (.int .i64 0) := by rw [hwy]; exact keepA_ (rc0) (Or.inl (by omega))
            replace rf0 : wz29.frozen? ⟨wz25.heap.size, 0, none⟩ = false := by rw [hwy]; simpa using rf0
            replace rc1 : wz29.cell? ⟨wz25.heap.size, 1, none⟩ = some (.bool false) := by rw [hwy]; exact keepA_ (rc1) (Or.inl (by omega))
            replace rf1 : wz29.frozen? ⟨wz25.heap.size, 1, none⟩ = false := by rw [hwy]; simpa using rf1
            replace HU : Hid (RowOk w (X + 1) (.slice a L cap) wz29 (.slice an' L cn) Z') := Lib.hid (by rw [hwy]; exact (rowOk_set (HV.out) HU.out nt (by decide) (by have := HWrr.out.size; omega)))
            have nd0 : wz29.cell? ⟨wz14.heap.size, 0, none⟩ = some (.slice an' L cn) := by rw [hwy]; exact World.cell?_setCell_same _ _ _ nc0
            replace nt : Tag wz29 wz14.heap.size 24 := by rw [hwy]; exact (tag_set nt _ _)
            replace rt : Tag wz29 wz25.heap.size 36 := by rw [hwy]; exact (tag_set rt _ _)
            replace nf0 : wz29.frozen? ⟨wz14.heap.size, 0, none⟩ = false := by rw [hwy]; simpa using nf0
            replace HW := Lib.hid (Below.setCell (p := ⟨wz14.heap.size, 0, none⟩) HW.out (by have := HWS.out; dsimp only; omega) (.slice an' L cn))
            rw [← hwy] at HW
            have hsz : wz29.heap.size = wz27.heap.size := by rw [hwy]; simp
            replace nz : wz14.heap.size < wz29.heap.size := by omega
            replace rz : wz25.heap.size < wz29.heap.size := by omega
            replace LO : _ ≤ wz29.heap.size := Nat.le_trans LO (Nat.le_of_eq hsz.symm)
            clear hsz hwy nc0
            have nc0 := nd0
            clear nd0
            refine hK.out _ _ ?_ (fun _ => ?_)
            · (try dsimp only); exact ⟨s0, s1, s2, s3, s4, s5⟩
            clear hK K
            (try simp only [Act.put, List.setIfInBounds_toArray, List.set_cons_zero, List.set_cons_succ])
            refine wpAnyH_ready (rs := [13]) (by kernel_rfl) (by simp) ?_
            refine AllReadyH.cons (o := ?oi30) ?hi30 (fun K hK => ?rest30) AllReadyH.nil
            (case hi30 => (simp only [List.getElem?_toArray, List.getElem?_cons_succ, List.getElem?_cons_zero]; rfl))
            go_simp
            obtain ⟨wz31, hwy⟩ : ∃ W, W = ((wz29.setCell ⟨wz25.heap.size, 0, none⟩ (.int .i64 rv)).setCell ⟨wz25.heap.size, 1, none⟩ (.bool rq)) := ⟨_, rfl⟩
            rw [← hwy]
            replace s0 : wz31.cell? ⟨X, 0, none⟩ = some (.slice au L cu) := by rw [hwy]; exact keepA_ (keepA_ (s0) (Or.inl (by omega))) (Or.inl (by omega))
            replace s1 : wz31.cell? ⟨bx, ox + k * 5, none⟩ = some (.int .i64 ak) := by rw [hwy]; exact keepA_ (keepA_ (s1) (Or.inl (by omega))) (Or.inl (by omega))
            replace s2 : wz31.cell? ⟨bx, ox + k * 5 + 1, none⟩ = some (.int .i64 ac) := by rw [hwy]; exact keepA_ (keepA_ (s2) (Or.inl (by omega))) (Or.inl (by omega))
            replace s3 : wz31.cell? ⟨bx, ox + k * 5 + 2, none⟩ = some (.int .i64 ao) := by rw [hwy]; exact keepA_ (keepA_ (s3) (Or.inl (by omega))) (Or.inl (by omega))
            replace s4 : wz31.cell? ⟨bx, ox + k * 5 + 3, none⟩ = some (.int .i64 an) := by rw [hwy]; exact keepA_ (keepA_ (s4) (Or.inl (by omega))) (Or.inl (by omega))
            replace s5 : wz31.cell? ⟨bx, ox + k * 5 + 4, none⟩ = some (.string ab) := by rw [hwy]; exact keepA_ (keepA_ (s5) (Or.inl (by omega))) (Or.inl (by omega))
            replace nc0 : wz31.cell? ⟨wz14.heap.size, 0, none⟩ = some (.slice an' L cn) := by rw [hwy]; exact keepA_ (keepA_ (nc0) (Or.inl (by omega))) (Or.inl (by omega))
            replace nf0 : wz31.frozen? ⟨wz14.heap.size, 0, none⟩ = false := by rw [hwy]; simpa using nf0
            replace HU : Hid (RowOk w (X + 1) (.slice a L cap) wz31 (.slice an' L cn) Z') := Lib.hid (by rw [hwy]; exact (rowOk_set (HV.out) (rowOk_set (HV.out) HU.out rt (by decide) (by have := HWrr.out.size; omega)) (tag_set rt _ _) (by decide) (by have := HWrr.out.size; omega)))
            have rd0 : wz31.cell? ⟨wz25.heap.size, 0, none⟩ = some (.int .i64 rv) := by rw [hwy]; exact keepA_ (World.cell?_setCell_same _ _ _ rc0) (Or.inr (by simp))
            have rd1 : wz31.cell? ⟨wz25.heap.size, 1, none⟩ = some (.bool rq) := by rw [hwy]; exact World.cell?_setCell_same _ _ _ (keepA_ rc1 (Or.inr (by simp)))
            replace nt : Tag wz31 wz14.heap.size 24 := by rw [hwy]; exact (tag_set (tag_set nt _ _) _ _)
            replace rt : Tag wz31 wz25.heap.size 36 := by rw [hwy]; exact (tag_set (tag_set rt _ _) _ _)
            replace rf0 : wz31.frozen? ⟨wz25.heap.size, 0, none⟩ = false := by rw [hwy]; simpa using rf0
            replace rf1 : wz31.frozen? ⟨wz25.heap.size, 1, none⟩ = false := by rw [hwy]; simpa using rf1
            replace HW := Lib.hid (Below.setCell (p := ⟨wz25.heap.size, 1, none⟩) (Below.setCell (p := ⟨wz25.heap.size, 0, none⟩) HW.out (by have := HWS.out; dsimp only; omega) (.int .i64 rv)) (by have := HWS.out; dsimp only; omega) (.bool rq))
            rw [← hwy] at HW
            have hsz : wz31.heap.size = wz29.heap.size := by rw [hwy]; simp
            replace nz : wz14.heap.size < wz31.heap.size := by omega
            replace rz : wz25.heap.size < wz31.heap.size := by omega
            replace LO : _ ≤ wz31.heap.size := Nat.le_trans LO (Nat.le_of_eq hsz.symm)
            clear hsz hwy rc0 rc1
            have rc0 := rd0
            clear rd0
            have rc1 := rd1
            clear rd1
            refine hK.out _ _ ?_ (fun _ => ?_)
            · (try dsimp only); exact ⟨s0, s1, s2, s3, s4, s5⟩
            clear hK K
            (try simp only [Act.put, List.setIfInBounds_toArray, List.set_cons_zero, List.set_cons_succ])
            have hHeld : (fun W => W.cell? ⟨X, 0, none⟩ = some (.slice au L cu) ∧ W.cell? ⟨bx, ox + k * 5, none⟩ = some (.int .i64 ak) ∧ W.cell? ⟨bx, ox + k * 5 + 1, none⟩ = some (.int .i64 ac) ∧ W.cell? ⟨bx, ox + k * 5 + 2, none⟩ = some (.int .i64 ao) ∧ W.cell? ⟨bx, ox + k * 5 + 3, none⟩ = some (.int .i64 an) ∧ W.cell? ⟨bx, ox + k * 5 + 4, none⟩ = some (.string ab)) wz31 := ⟨s0, s1, s2, s3, s4, s5⟩
            first | (refine wpAnyH_take (i := 14) (oi := ?oi32) (v := ?v32) ?hi32 (by kernel_rfl) (by kernel_rfl) (by kernel_rfl) ?hQ32 (Or.inl ⟨?hw32, ?hy32⟩) (by assumption) ?rest32; (case hi32 => (simp only [List.getElem?_toArray, List.getElem?_cons_succ, List.getElem?_cons_zero]; rfl)); (case hQ32 => exact fun _ _ _ h => h); (case hw32 => rfl); (case hy32 => ((intro w hSw); (try dsimp only at hSw); go_simp; (try with_reducible rfl)))) | (refine wpAnyH_take (i := 14) (oi := ?oi33) (v := undef) ?hi33 (by kernel_rfl) (by kernel_rfl) (by kernel_rfl) ?hQ33 (Or.inr ⟨?hw33, rfl⟩) (by assumption) ?rest33; (case hi33 => (simp only [List.getElem?_toArray, List.getElem?_cons_succ, List.getElem?_cons_zero]; rfl)); (case hQ33 => exact fun _ _ _ h => h); (case hw33 => rfl))
            (try simp only [Act.put, List.setIfInBounds_toArray, List.set_cons_zero, List.set_cons_succ])
            clear hHeld
            refine wpAnyH_done (by kernel_rfl) ?_ _
            go_wp2_with fail
            go_meet
            exact ⟨wz14.heap.size, wz25.heap.size, an', cn, rfl, rfl, rfl, nc0, rc0, rc1, HU.out, HW.out⟩
          case rest24 =>
            go_simp
            obtain ⟨wz34, hwy⟩ : ∃ W, W = wz14.alloc (.cells #[.int .i64 0, .bool false] 36) := ⟨_, rfl⟩
            rw [← hwy]
            have hb : Below wz14.heap.size wz14 wz34 := by rw [hwy]; exact below_new1 _ _
            have rc0 : wz34.cell? ⟨wz14.heap.size, 0, none⟩ = some (.int .i64 0) := by rw [hwy, World.cell?_alloc_at _ _ _ _ rfl]; rfl
            have rf0 : wz34.frozen? ⟨wz14.heap.size, 0, none⟩ = false := by rw [hwy]; exact World.frozen?_alloc_at _ _ _ _ rfl
            have rc1 : wz34.cell? ⟨wz14.heap.size, 1, none⟩ = some (.bool false) := by rw [hwy, World.cell?_alloc_at _ _ _ _ rfl]; rfl
            have rf1 : wz34.frozen? ⟨wz14.heap.size, 1, none⟩ = false := by rw [hwy]; exact World.frozen?_alloc_at _ _ _ _ rfl
            have rt : Tag wz34 wz14.heap.size 36 := by rw [hwy]; exact tag_new _ _ _
            have rz : wz14.heap.size < wz34.heap.size := by rw [hwy]; simp
            have rl := LO
            replace HW := Lib.hid (below_step HW.out hb)
            replace s0 := cel_below hb s0
            replace s1 := cel_below hb s1
            replace s2 := cel_below hb s2
            replace s3 := cel_below hb s3
            replace s4 := cel_below hb s4
            replace s5 := cel_below hb s5
            replace HU := Lib.hid (rowOk_keep HU.out hb)
            replace LO := Nat.le_trans LO hb.size
            clear hb hwy
            refine hK.out _ _ ?_ (fun _ => ?_)
            · (try dsimp only); exact ⟨s0, s1, s2, s3, s4, s5⟩
            clear hK K
            (try simp only [Act.put, List.setIfInBounds_toArray, List.set_cons_zero, List.set_cons_succ])
            refine wpAnyH_ready (rs := [10]) (by kernel_rfl) (by simp) ?_
            refine AllReadyH.cons (o := ?oi35) ?hi35 (fun K hK => ?rest35) AllReadyH.nil
            (case hi35 => (simp only [List.getElem?_toArray, List.getElem?_cons_succ, List.getElem?_cons_zero]; rfl))
            go_simp
            obtain ⟨wz36, hwy⟩ : ∃ W, W = wz34.alloc (.cells #[.slice none 0 0] 24) := ⟨_, rfl⟩
            rw [← hwy]
            have hb : Below wz34.heap.size wz34 wz36 := by rw [hwy]; exact below_new1 _ _
            have nc0 : wz36.cell? ⟨wz34.heap.size, 0, none⟩ = some (.slice none 0 0) := by rw [hwy, World.cell?_alloc_at _ _ _ _ rfl]; rfl
            have nf0 : wz36.frozen? ⟨wz34.heap.size, 0, none⟩ = false := by rw [hwy]; exact World.frozen?_alloc_at _ _ _ _ rfl
            have nt : Tag wz36 wz34.heap.size 24 := by rw [hwy]; exact tag_new _ _ _
            have nz : wz34.heap.size < wz36.heap.size := by rw [hwy]; simp
            have nl := LO
            replace HW := Lib.hid (below_step HW.out hb)
            replace s0 := cel_below hb s0
            replace s1 := cel_below hb s1
            replace s2 := cel_below hb s2
            replace s3 := cel_below hb s3
            replace s4 := cel_below hb s4
            replace s5 := cel_below hb s5
            replace rc0 := cel_below hb rc0
            replace rf0 := fro_below hb rz rf0
            replace rc1 := cel_below hb rc1
            replace rf1 := fro_below hb rz rf1
            replace rt := tag_below rt hb
            have rnn : wz14.heap.size ≠ wz34.heap.size := by omega
            replace rz := lt_below hb rz
            replace HU := Lib.hid (rowOk_keep HU.out hb)
            replace LO := Nat.le_trans LO hb.size
            clear hb hwy
            refine hK.out _ _ ?_ (fun _ => ?_)
            · (try dsimp only); exact ⟨s0, s1, s2, s3, s4, s5⟩
            clear hK K
            (try simp only [Act.put, List.setIfInBounds_toArray, List.set_cons_zero, List.set_cons_succ])
            refine wpAnyH_ready (rs := [12]) (by kernel_rfl) (by simp) ?_
            refine AllReadyH.cons (o := ?oi37) ?hi37 (fun K hK => ?rest37) AllReadyH.nil
            (case hi37 => (simp only [List.getElem?_toArray, List.getElem?_cons_succ, List.getElem?_cons_zero]; rfl))
            go_simp
            obtain ⟨wz38, hwy⟩ : ∃ W, W = (wz36.setCell ⟨wz34.heap.size, 0, none⟩ (.slice an' L cn)) := ⟨_, rfl⟩
            rw [← hwy]
            replace s0 : wz38.cell? ⟨X, 0, none⟩ = some (.slice au L cu) := by rw [hwy]; exact keepA_ (s0) (Or.inl (by omega))
            replace s1 : wz38.cell? ⟨bx, ox + k * 5, none⟩ = some (.int .i64 ak) := by rw [hwy]; exact keepA_ (s1) (Or.inl (by omega))
            replace s2 : wz38.cell? ⟨bx, ox + k * 5 + 1, none⟩ = some (.int .i64 ac) := by rw [hwy]; exact keepA_ (s2) (Or.inl (by omega))
            replace s3 : wz38.cell? ⟨bx, ox + k * 5 + 2, none⟩ = some (.int .i64 ao) := by rw [hwy]; exact keepA_ (s3) (Or.inl (by omega))
            replace s4 : wz38.cell? ⟨bx, ox + k * 5 + 3, none⟩ = some (.int .i64 an) := by rw [hwy]; exact keepA_ (s4) (Or.inl (by omega))
            replace s5 : wz38.cell? ⟨bx, ox + k * 5 + 4, none⟩ = some (.string ab) := by rw [hwy]; exact keepA_ (s5) (Or.inl (by omega))
            replace rc0 : wz38.cell? ⟨wz14.heap.size, 0, none⟩ = some (.int .i64 0) := by rw [hwy]; exact keepA_ (rc0) (Or.inl (by omega))
            replace rf0 : wz38.frozen? ⟨wz14.heap.size, 0, none⟩ = false := by rw [hwy]; simpa using rf0
            replace rc1 : wz38.cell? ⟨wz14.heap.size, 1, none⟩ = some (.bool false) := by rw [hwy]; exact keepA_ (rc1) (Or.inl (by omega))
            replace rf1 : wz38.frozen? ⟨wz14.heap.size, 1, none⟩ = false := by rw [hwy]; simpa using rf1
            replace HU : Hid (RowOk w (X + 1) (.slice a L cap) wz38 (.slice an' L cn) Z') := Lib.hid (by rw [hwy]; exact (rowOk_set (HV.out) HU.out nt (by decide) (by have := HWrr.out.size; omega)))
            have nd0 : wz38.cell? ⟨wz34.heap.size, 0, none⟩ = some (.slice an' L cn) := by rw [hwy]; exact World.cell?_setCell_same _ _ _ nc0
            replace rt : Tag wz38 wz14.heap.size 36 := by rw [hwy]; exact (tag_set rt _ _)
            replace nt : Tag wz38 wz34.heap.size 24 := by rw [hwy]; exact (tag_set nt _ _)
            replace nf0 : wz38.frozen? ⟨wz34.heap.size, 0, none⟩ = false := by rw [hwy]; simpa using nf0
            replace HW := Lib.hid (Below.setCell (p := ⟨wz34.heap.size, 0, none⟩) HW.out (by have := HWS.out; dsimp only; omega) (.slice an' L cn))
            rw [← hwy] at HW
            have hsz : wz38.heap.size = wz36.heap.size := by rw [hwy]; simp
            replace rz : wz14.heap.size < wz38.heap.size := by omega
            replace nz : wz34.heap.size < wz38.heap.size := by omega
            replace LO : _ ≤ wz38.heap.size := Nat.le_trans LO (Nat.le_of_eq hsz.symm)
            clear hsz hwy nc0
            have nc0 := nd0
            clear nd0
            refine hK.out _ _ ?_ (fun _ => ?_)
            · (try dsimp only); exact ⟨s0, s1, s2, s3, s4, s5⟩
            clear hK K
            (try simp only [Act.put, List.setIfInBounds_toArray, List.set_cons_zero, List.set_cons_succ])
            refine wpAnyH_ready (rs := [13]) (by kernel_rfl) (by simp) ?_
            refine AllReadyH.cons (o := ?oi39) ?hi39 (fun K hK => ?rest39) AllReadyH.nil
            (case hi39 => (simp only [List.getElem?_toArray, List.getElem?_cons_succ, List.getElem?_cons_zero]; rfl))
            go_simp
            obtain ⟨wz40, hwy⟩ : ∃ W, W = ((wz38.setCell ⟨wz14.heap.size, 0, none⟩ (.int .i64 rv)).setCell ⟨wz14.heap.size, 1, none⟩ (.bool rq)) := ⟨_, rfl⟩
            rw [← hwy]
            replace s0 : wz40.cell? ⟨X, 0, none⟩ = some (.slice au L cu) := by rw [hwy]; exact keepA_ (keepA_ (s0) (Or.inl (by omega))) (Or.inl (by omega))
            replace s1 : wz40.cell? ⟨bx, ox + k * 5, none⟩ = some (.int .i64 ak) := by rw [hwy]; exact keepA_ (keepA_ (s1) (Or.inl (by omega))) (Or.inl (by omega))
            replace s2 : wz40.cell? ⟨bx, ox + k * 5 + 1, none⟩ = some (.int .i64 ac) := by rw [hwy]; exact keepA_ (keepA_ (s2) (Or.inl (by omega))) (Or.inl (by omega))
            replace s3 : wz40.cell? ⟨bx, ox + k * 5 + 2, none⟩ = some (.int .i64 ao) := by rw [hwy]; exact keepA_ (keepA_ (s3) (Or.inl (by omega))) (Or.inl (by omega))
            replace s4 : wz40.cell? ⟨bx, ox + k * 5 + 3, none⟩ = some (.int .i64 an) := by rw [hwy]; exact keepA_ (keepA_ (s4) (Or.inl (by omega))) (Or.inl (by omega))
            replace s5 : wz40.cell? ⟨bx, ox + k * 5 + 4, none⟩ = some (.string ab) := by rw [hwy]; exact keepA_ (keepA_ (s5) (Or.inl (by omega))) (Or.inl (by omega))
            replace nc0 : wz40.cell? ⟨wz34.heap.size, 0, none⟩ = some (.slice an' L cn) := by rw [hwy]; exact keepA_ (keepA_ (nc0) (Or.inl (by omega))) (Or.inl (by omega))
            replace nf0 : wz40.frozen? ⟨wz34.heap.size, 0, none⟩ = false := by rw [hwy]; simpa using nf0
            replace HU : Hid (RowOk w (X + 1) (.slice a L cap) wz40 (.slice an' L cn) Z') := Lib.hid (by rw [hwy]; exact (rowOk_set (HV.out) (rowOk_set (HV.out) HU.out rt (by decide) (by have := HWrr.out.size; omega)) (tag_set rt _ _) (by decide) (by have := HWrr.out.size; omega)))
            have rd0 : wz40.cell? ⟨wz14.heap.size, 0, none⟩ = some (.int .i64 rv) := by rw [hwy]; exact keepA_ (World.cell?_setCell_same _ _ _ rc0) (Or.inr (by simp))
            have rd1 : wz40.cell? ⟨wz14.heap.size, 1, none⟩ = some (.bool rq) := by rw [hwy]; exact World.cell?_setCell_same _ _ _ (keepA_ rc1 (Or.inr (by simp)))
            replace rt : Tag wz40 wz14.heap.size 36 := by rw [hwy]; exact (tag_set (tag_set rt _ _) _ _)
            replace nt : Tag wz40 wz34.heap.size 24 := by rw [hwy]; exact (tag_set (tag_set nt _ _) _ _)
            replace rf0 : wz40.frozen? ⟨wz14.heap.size, 0, none⟩ = false := by rw [hwy]; simpa using rf0
            replace rf1 : wz40.frozen? ⟨wz14.heap.size, 1, none⟩ = false := by rw [hwy]; simpa using rf1
            replace HW := Lib.hid (Below.setCell (p := ⟨wz14.heap.size, 1, none⟩) (Below.setCell (p := ⟨wz14.heap.size, 0, none⟩) HW.out (by have := HWS.out; dsimp only; omega) (.int .i64 rv)) (by have := HWS.out; dsimp only; omega) (.bool rq))
            rw [← hwy] at HW
            have hsz : wz40.heap.size = wz38.heap.size := by rw [hwy]; simp
            replace rz : wz14.heap.size < wz40.heap.size := by omega
            replace nz : wz34.heap.size < wz40.heap.size := by omega
            replace LO : _ ≤ wz40.heap.size := Nat.le_trans LO (Nat.le_of_eq hsz.symm)
            clear hsz hwy rc0 rc1
            have rc0 := rd0
            clear rd0
            have rc1 := rd1
            clear rd1
            refine hK.out _ _ ?_ (fun _ => ?_)
            · (try dsimp only); exact ⟨s0, s1, s2, s3, s4, s5⟩
            clear hK K
            (try simp only [Act.put, List.setIfInBounds_toArray, List.set_cons_zero, List.set_cons_succ])
            have hHeld : (fun W => W.cell? ⟨X, 0, none⟩ = some (.slice au L cu) ∧ W.cell? ⟨bx, ox + k * 5, none⟩ = some (.int .i64 ak) ∧ W.cell? ⟨bx, ox + k * 5 + 1, none⟩ = some (.int .i64 ac) ∧ W.cell? ⟨bx, ox + k * 5 + 2, none⟩ = some (.int .i64 ao) ∧ W.cell? ⟨bx, ox + k * 5 + 3, none⟩ = some (.int .i64 an) ∧ W.cell? ⟨bx, ox + k * 5 + 4, none⟩ = some (.string ab)) wz40 := ⟨s0, s1, s2, s3, s4, s5⟩
            first | (refine wpAnyH_take (i := 14) (oi := ?oi41) (v := ?v41) ?hi41 (by kernel_rfl) (by kernel_rfl) (by kernel_rfl) ?hQ41 (Or.inl ⟨?hw41, ?hy41⟩) (by assumption) ?rest41; (case hi41 => (simp only [List.getElem?_toArray, List.getElem?_cons_succ, List.getElem?_cons_zero]; rfl)); (case hQ41 => exact fun _ _ _ h => h); (case hw41 => rfl); (case hy41 => ((intro w hSw); (try dsimp only at hSw); go_simp; (try with_reducible rfl)))) | (refine wpAnyH_take (i := 14) (oi := ?oi42) (v := undef) ?hi42 (by kernel_rfl) (by kernel_rfl) (by kernel_rfl) ?hQ42 (Or.inr ⟨?hw42, rfl⟩) (by assumption) ?rest42; (case hi42 => (simp only [List.getElem?_toArray, List.getElem?_cons_succ, List.getElem?_cons_zero]; rfl)); (case hQ42 => exact fun _ _ _ h => h); (case hw42 => rfl))
            (try simp only [Act.put, List.setIfInBounds_toArray, List.set_cons_zero, List.set_cons_succ])
            clear hHeld
            refine wpAnyH_done (by kernel_rfl) ?_ _
            go_wp2_with fail
            go_meet
            exact ⟨wz34.heap.size, wz14.heap.size, an', cn, rfl, rfl, rfl, nc0, rc0, rc1, HU.out, HW.out⟩
        case rest12 =>
          go_simp
          obtain ⟨wz43, hwy⟩ : ∃ W, W = wy0.alloc (.cells #[.slice none 0 0] 24) := ⟨_, rfl⟩
          rw [← hwy]
          have hb : Below wy0.heap.size wy0 wz43 := by rw [hwy]; exact below_new1 _ _
          have nc0 : wz43.cell? ⟨wy0.heap.size, 0, none⟩ = some (.slice none 0 0) := by rw [hwy, World.cell?_alloc_at _ _ _ _ rfl]; rfl
          have nf0 : wz43.frozen? ⟨wy0.heap.size, 0, none⟩ = false := by rw [hwy]; exact World.frozen?_alloc_at _ _ _ _ rfl
          have nt : Tag wz43 wy0.heap.size 24 := by rw [hwy]; exact tag_new _ _ _
          have nz : wy0.heap.size < wz43.heap.size := by rw [hwy]; simp
          have nl := LO
          replace HW := Lib.hid (below_step HW.out hb)
          replace s0 := cel_below hb s0
          replace s1 := cel_below hb s1
          replace s2 := cel_below hb s2
          replace s3 := cel_below hb s3
          replace s4 := cel_below hb s4
          replace s5 := cel_below hb s5
          replace HRX := Lib.hid (rowOk_keep HRX.out hb)
          replace LO := Nat.le_trans LO hb.size
          clear hb hwy
          refine hK.out _ _ ?_ (fun _ => ?_)
          · (try dsimp only); exact ⟨s0, s1, s2, s3, s4, s5⟩
          clear hK K
          (try simp only [Act.put, List.setIfInBounds_toArray, List.set_cons_zero, List.set_cons_succ])
          refine wpAnyH_ready (rs := [5, 11]) (by kernel_rfl) (by simp) ?_
          refine AllReadyH.cons (o := ?oi44) ?hi44 (fun K hK => ?rest44) (AllReadyH.cons (o := ?oi45) ?hi45 (fun K hK => ?rest45) AllReadyH.nil)
          (case hi44 => (simp only [List.getElem?_toArray, List.getElem?_cons_succ, List.getElem?_cons_zero]; rfl))
          (case hi45 => (simp only [List.getElem?_toArray, List.getElem?_cons_succ, List.getElem?_cons_zero]; rfl))
          case rest44 =>
            go_simp
            ((with_reducible refine (HQ.out _ (rowOk_has HRX.out)).mono ?_); rintro e wz46 ⟨an', cn, rfl, hu, hb, hF⟩)
            replace HW := Lib.hid (below_step HW.out hb)
            replace s0 := cel_below hb s0
            replace s1 := cel_below hb s1
            replace s2 := cel_below hb s2
            replace s3 := cel_below hb s3
            replace s4 := cel_below hb s4
            replace s5 := cel_below hb s5
            replace nc0 := cel_below hb nc0
            replace nf0 := fro_below hb nz nf0
            replace nz := lt_below hb nz
            replace nt := tag_below nt hb
            replace HRX := Lib.hid (rowOk_keep HRX.out hb)
            have HU := Lib.hid (rowOk_from HRX.out hu hF (by omega))
            clear hu hF HRX
            replace LO := Nat.le_trans LO hb.size
            clear hb
            refine hK.out _ _ ?_ (fun _ => ?_)
            · (try dsimp only); exact ⟨s0, s1, s2, s3, s4, s5⟩
            clear hK K
            (try simp only [Act.put, List.setIfInBounds_toArray, List.set_cons_zero, List.set_cons_succ])
            have hHeld : (fun W => W.cell? ⟨X, 0, none⟩ = some (.slice au L cu) ∧ W.cell? ⟨bx, ox + k * 5, none⟩ = some (.int .i64 ak) ∧ W.cell? ⟨bx, ox + k * 5 + 1, none⟩ = some (.int .i64 ac) ∧ W.cell? ⟨bx, ox + k * 5 + 2, none⟩ = some (.int .i64 ao) ∧ W.cell? ⟨bx, ox + k * 5 + 3, none⟩ = some (.int .i64 an) ∧ W.cell? ⟨bx, ox + k * 5 + 4, none⟩ = some (.string ab)) wz46 := ⟨s0, s1, s2, s3, s4, s5⟩
            first | (refine wpAnyH_take (i := 6) (oi := ?oi47) (v := ?v47) ?hi47 (by kernel_rfl) (by kernel_rfl) (by kernel_rfl) ?hQ47 (Or.inl ⟨?hw47, ?hy47⟩) (by assumption) ?rest47; (case hi47 => (simp only [List.getElem?_toArray, List.getElem?_cons_succ, List.getElem?_cons_zero]; rfl)); (case hQ47 => exact fun _ _ _ h => h); (case hw47 => rfl); (case hy47 => ((intro w hSw); (try dsimp only at hSw); go_simp; (try with_reducible rfl)))) | (refine wpAnyH_take (i := 6) (oi := ?oi48) (v := undef) ?hi48 (by kernel_rfl) (by kernel_rfl) (by kernel_rfl) ?hQ48 (Or.inr ⟨?hw48, rfl⟩) (by assumption) ?rest48; (case hi48 => (simp only [List.getElem?_toArray, List.getElem?_cons_succ, List.getElem?_cons_zero]; rfl)); (case hQ48 => exact fun _ _ _ h => h); (case hw48 => rfl))
            (try simp only [Act.put, List.setIfInBounds_toArray, List.set_cons_zero, List.set_cons_succ])
            first | (refine wpAnyH_take (i := 7) (oi := ?oi49) (v := ?v49) ?hi49 (by kernel_rfl) (by kernel_rfl) (by kernel_rfl) ?hQ49 (Or.inl ⟨?hw49, ?hy49⟩) (by assumption) ?rest49; (case hi49 => (simp only [List.getElem?_toArray, List.getElem?_cons_succ, List.getElem?_cons_zero]; rfl)); (case hQ49 => exact fun _ _ _ h => h); (case hw49 => rfl); (case hy49 => ((intro w hSw); (try dsimp only at hSw); go_simp; (try with_reducible rfl)))) | (refine wpAnyH_take (i := 7) (oi := ?oi50) (v := undef) ?hi50 (by kernel_rfl) (by kernel_rfl) (by kernel_rfl) ?hQ50 (Or.inr ⟨?hw50, rfl⟩) (by assumption) ?rest50; (case hi50 => (simp only [List.getElem?_toArray, List.getElem?_cons_succ, List.getElem?_cons_zero]; rfl)); (case hQ50 => exact fun _ _ _ h => h); (case hw50 => rfl))
            (try simp only [Act.put, List.setIfInBounds_toArray, List.set_cons_zero, List.set_cons_succ])
            first | (refine wpAnyH_take (i := 8) (oi := ?oi51) (v := ?v51) ?hi51 (by kernel_rfl) (by kernel_rfl) (by kernel_rfl) ?hQ51 (Or.inl ⟨?hw51, ?hy51⟩) (by assumption) ?rest51; (case hi51 => (simp only [List.getElem?_toArray, List.getElem?_cons_succ, List.getElem?_cons_zero]; rfl)); (case hQ51 => exact fun _ _ _ h => h); (case hw51 => rfl); (case hy51 => ((intro w hSw); (try dsimp only at hSw); go_simp; (try with_reducible rfl)))) | (refine wpAnyH_take (i := 8) (oi := ?oi52) (v := undef) ?hi52 (by kernel_rfl) (by kernel_rfl) (by kernel_rfl) ?hQ52 (Or.inr ⟨?hw52, rfl⟩) (by assumption) ?rest52; (case hi52 => (simp only [List.getElem?_toArray, List.getElem?_cons_succ, List.getElem?_cons_zero]; rfl)); (case hQ52 => exact fun _ _ _ h => h); (case hw52 => rfl))
            (try simp only [Act.put, List.setIfInBounds_toArray, List.set_cons_zero, List.set_cons_succ])
            first | (refine wpAnyH_take (i := 9) (oi := ?oi53) (v := ?v53) ?hi53 (by kernel_rfl) (by kernel_rfl) (by kernel_rfl) ?hQ53 (Or.inl ⟨?hw53, ?hy53⟩) (by assumption) ?rest53; (case hi53 => (simp only [List.getElem?_toArray, List.getElem?_cons_succ, List.getElem?_cons_zero]; rfl)); (case hQ53 => exact fun _ _ _ h => h); (case hw53 => rfl); (case hy53 => ((intro w hSw); (try dsimp only at hSw); go_simp; (try with_reducible rfl)))) | (refine wpAnyH_take (i := 9) (oi := ?oi54) (v := undef) ?hi54 (by kernel_rfl) (by kernel_rfl) (by kernel_rfl) ?hQ54 (Or.inr ⟨?hw54, rfl⟩) (by assumption) ?rest54; (case hi54 => (simp only [List.getElem?_toArray, List.getElem?_cons_succ, List.getElem?_cons_zero]; rfl)); (case hQ54 => exact fun _ _ _ h => h); (case hw54 => rfl))
            (try simp only [Act.put, List.setIfInBounds_toArray, List.set_cons_zero, List.set_cons_succ])
            clear hHeld
            refine wpAnyH_ready (rs := [11]) (by kernel_rfl) (by simp) ?_
            refine AllReadyH.cons (o := ?oi55) ?hi55 (fun K hK => ?rest55) AllReadyH.nil
            (case hi55 => (simp only [List.getElem?_toArray, List.getElem?_cons_succ, List.getElem?_cons_zero]; rfl))
            go_simp
            obtain ⟨wz56, hwy⟩ : ∃ W, W = wz46.alloc (.cells #[.int .i64 0, .bool false] 36) := ⟨_, rfl⟩
            rw [← hwy]
            have hb : Below wz46.heap.size wz46 wz56 := by rw [hwy]; exact below_new1 _ _
            have rc0 : wz56.cell? ⟨wz46.heap.size, 0, none⟩ = some (.int .i64 0) := by rw [hwy, World.cell?_alloc_at _ _ _ _ rfl]; rfl
            have rf0 : wz56.frozen? ⟨wz46.heap.size, 0, none⟩ = false := by rw [hwy]; exact World.frozen?_alloc_at _ _ _ _ rfl
            have rc1 : wz56.cell? ⟨wz46.heap.size, 1, none⟩ = some (.bool false) := by rw [hwy, World.cell?_alloc_at _ _ _ _ rfl]; rfl
            have rf1 : wz56.frozen? ⟨wz46.heap.size, 1, none⟩ = false := by rw [hwy]; exact World.frozen?_alloc_at _ _ _ _ rfl
            have rt : Tag wz56 wz46.heap.size 36 := by rw [hwy]; exact tag_new _ _ _
            have rz : wz46.heap.size < wz56.heap.size := by rw [hwy]; simp
            have rl := LO
            replace HW := Lib.hid (below_step HW.out hb)
            replace s0 := cel_below hb s0
            replace s1 := cel_below hb s1
            replace s2 := cel_below hb s2
            replace s3 := cel_below hb s3
            replace s4 := cel_below hb s4
            replace s5 := cel_below hb s5
            replace nc0 := cel_below hb nc0
            replace nf0 := fro_below hb nz nf0
            replace nt := tag_below nt hb
            have nrn : wy0.heap.size ≠ wz46.heap.size := by omega
            replace nz := lt_below hb nz
            replace HU := Lib.hid (rowOk_keep HU.out hb)
            replace LO := Nat.le_trans LO hb.size
            clear hb hwy
            refine hK.out _ _ ?_ (fun _ => ?_)
            · (try dsimp only); exact ⟨s0, s1, s2, s3, s4, s5⟩
            clear hK K
            (try simp only [Act.put, List.setIfInBounds_toArray, List.set_cons_zero, List.set_cons_succ])
            refine wpAnyH_ready (rs := [12]) (by kernel_rfl) (by simp) ?_
            refine AllReadyH.cons (o := ?oi57) ?hi57 (fun K hK => ?rest57) AllReadyH.nil
            (case hi57 => (simp only [List.getElem?_toArray, List.getElem?_cons_succ, List.getElem?_cons_zero]; rfl))
            go_simp
            obtain ⟨wz58, hwy⟩ : ∃ W, W = (wz56.setCell ⟨wy0.heap.size, 0, none⟩ (.slice an' L cn)) := ⟨_, rfl⟩
            rw [← hwy]
            replace s0 : wz58.cell? ⟨X, 0, none⟩ = some (.slice au L cu) := by rw [hwy]; exact keepA_ (s0) (Or.inl (by omega))
            replace s1 : wz58.cell? ⟨bx, ox + k * 5, none⟩ = some (.int .i64 ak) := by rw [hwy]; exact keepA_ (s1) (Or.inl (by omega))
            replace s2 : wz58.cell? ⟨bx, ox + k * 5 + 1, none⟩ = some (.int .i64 ac) := by rw [hwy]; exact keepA_ (s2) (Or.inl (by omega))
            replace s3 : wz58.cell? ⟨bx, ox + k * 5 + 2, none⟩ = some (.int .i64 ao) := by rw [hwy]; exact keepA_ (s3) (Or.inl (by omega))
            replace s4 : wz58.cell? ⟨bx, ox + k * 5 + 3, none⟩ = some (.int .i64 an) := by rw [hwy]; exact keepA_ (s4) (Or.inl (by omega))
            replace s5 : wz58.cell? ⟨bx, ox + k * 5 + 4, none⟩ = some (.string ab) := by rw [hwy]; exact keepA_ (s5) (Or.inl (by omega))
            replace rc0 : wz58.cell? ⟨wz46.heap.size, 0, none⟩ = some (.int .i64 0) := by rw [hwy]; exact keepA_ (rc0) (Or.inl (by omega))
            replace rf0 : wz58.frozen? ⟨wz46.heap.size, 0, none⟩ = false := by rw [hwy]; simpa using rf0
            replace rc1 : wz58.cell? ⟨wz46.heap.size, 1, none⟩ = some (.bool false) := by rw [hwy]; exact keepA_ (rc1) (Or.inl (by omega))
            replace rf1 : wz58.frozen? ⟨wz46.heap.size, 1, none⟩ = false := by rw [hwy]; simpa using rf1
            replace HU : Hid (RowOk w (X + 1) (.slice a L cap) wz58 (.slice an' L cn) Z') := Lib.hid (by rw [hwy]; exact (rowOk_set (HV.out) HU.out nt (by decide) (by have := HWrr.out.size; omega)))
            have nd0 : wz58.cell? ⟨wy0.heap.size, 0, none⟩ = some (.slice an' L cn) := by rw [hwy]; exact World.cell?_setCell_same _ _ _ nc0
            replace nt : Tag wz58 wy0.heap.size 24 := by rw [hwy]; exact (tag_set nt _ _)
            replace rt : Tag wz58 wz46.heap.size 36 := by rw [hwy]; exact (tag_set rt _ _)
            replace nf0 : wz58.frozen? ⟨wy0.heap.size, 0, none⟩ = false := by rw [hwy]; simpa using nf0
            replace HW := Lib.hid (Below.setCell (p := ⟨wy0.heap.size, 0, none⟩) HW.out (by have := HWS.out; dsimp only; omega) (.slice an' L cn))
            rw [← hwy] at HW
            have hsz : wz58.heap.size = wz56.heap.size := by rw [hwy]; simp
            replace nz : wy0.heap.size < wz58.heap.size := by omega
            replace rz : wz46.heap.size < wz58.heap.size := by omega
            replace LO : _ ≤ wz58.heap.size := Nat.le_trans LO (Nat.le_of_eq hsz.symm)
            clear hsz hwy nc0
            have nc0 := nd0
            clear nd0
            refine hK.out _ _ ?_ (fun _ => ?_)
            · (try dsimp only); exact ⟨s0, s1, s2, s3, s4, s5⟩
            clear hK K
            (try simp only [Act.put, List.setIfInBounds_toArray, List.set_cons_zero, List.set_cons_succ])
            refine wpAnyH_ready (rs := [13]) (by kernel_rfl) (by simp) ?_
            refine AllReadyH.cons (o := ?oi59) ?hi59 (fun K hK => ?rest59) AllReadyH.nil
            (case hi59 => (simp only [List.getElem?_toArray, List.getElem?_cons_succ, List.getElem?_cons_zero]; rfl))
            go_simp
            obtain ⟨wz60, hwy⟩ : ∃ W, W = ((wz58.setCell ⟨wz46.heap.size, 0, none⟩ (.int .i64 rv)).setCell ⟨wz46.heap.size, 1, none⟩ (.bool rq)) := ⟨_, rfl⟩
            rw [← hwy]
            replace s0 : wz60.cell? ⟨X, 0, none⟩ = some (.slice au L cu) := by rw [hwy]; exact keepA_ (keepA_ (s0) (Or.inl (by omega))) (Or.inl (by omega))
            replace s1 : wz60.cell? ⟨bx, ox + k * 5, none⟩ = some (.int .i64 ak) := by rw [hwy]; exact keepA_ (keepA_ (s1) (Or.inl (by omega))) (Or.inl (by omega))
            replace s2 : wz60.cell? ⟨bx, ox + k * 5 + 1, none⟩ = some (.int .i64 ac) := by rw [hwy]; exact keepA_ (keepA_ (s2) (Or.inl (by omega))) (Or.inl (by omega))
            replace s3 : wz60.cell? ⟨bx, ox + k * 5 + 2, none⟩ = some (.int .i64 ao) := by rw [hwy]; exact keepA_ (keepA_ (s3) (Or.inl (by omega))) (Or.inl (by omega))
            replace s4 : wz60.cell? ⟨bx, ox + k * 5 + 3, none⟩ = some (.int .i64 an) := by rw [hwy]; exact keepA_ (keepA_ (s4) (Or.inl (by omega))) (Or.inl (by omega))
            replace s5 : wz60.cell? ⟨bx, ox + k * 5 + 4, none⟩ = some (.string ab) := by rw [hwy]; exact keepA_ (keepA_ (s5) (Or.inl (by omega))) (Or.inl (by omega))
            replace nc0 : wz60.cell? ⟨wy0.heap.size, 0, none⟩ = some (.slice an' L cn) := by rw [hwy]; exact keepA_ (keepA_ (nc0) (Or.inl (by omega))) (Or.inl (by omega))
            replace nf0 : wz60.frozen? ⟨wy0.heap.size, 0, none⟩ = false := by rw [hwy]; simpa using nf0
            replace HU : Hid (RowOk w (X + 1) (.slice a L cap) wz60 (.slice an' L cn) Z') := Lib.hid (by rw [hwy]; exact (rowOk_set (HV.out) (rowOk_set (HV.out) HU.out rt (by decide) (by have := HWrr.out.size; omega)) (tag_set rt _ _) (by decide) (by have := HWrr.out.size; omega)))
            have rd0 : wz60.cell? ⟨wz46.heap.size, 0, none⟩ = some (.int .i64 rv) := by rw [hwy]; exact keepA_ (World.cell?_setCell_same _ _ _ rc0) (Or.inr (by simp))
            have rd1 : wz60.cell? ⟨wz46.heap.size, 1, none⟩ = some (.bool rq) := by rw [hwy]; exact World.cell?_setCell_same _ _ _ (keepA_ rc1 (Or.inr (by simp)))
            replace nt : Tag wz60 wy0.heap.size 24 := by rw [hwy]; exact (tag_set (tag_set nt _ _) _ _)
            replace rt : Tag wz60 wz46.heap.size 36 := by rw [hwy]; exact (tag_set (tag_set rt _ _) _ _)
            replace rf0 : wz60.frozen? ⟨wz46.heap.size, 0, none⟩ = false := by rw [hwy]; simpa using rf0
            replace rf1 : wz60.frozen? ⟨wz46.heap.size, 1, none⟩ = false := by rw [hwy]; simpa using rf1
            replace HW := Lib.hid (Below.setCell (p := ⟨wz46.heap.size, 1, none⟩) (Below.setCell (p := ⟨wz46.heap.size, 0, none⟩) HW.out (by have := HWS.out; dsimp only; omega) (.int .i64 rv)) (by have := HWS.out; dsimp only; omega) (.bool rq))
            rw [← hwy] at HW
            have hsz : wz60.heap.size = wz58.heap.size := by rw [hwy]; simp
            replace nz : wy0.heap.size < wz60.heap.size := by omega
            replace rz : wz46.heap.size < wz60.heap.size := by omega
            replace LO : _ ≤ wz60.heap.size := Nat.le_trans LO (Nat.le_of_eq hsz.symm)
            clear hsz hwy rc0 rc1
            have rc0 := rd0
            clear rd0
            have rc1 := rd1
            clear rd1
            refine hK.out _ _ ?_ (fun _ => ?_)
            · (try dsimp only); exact ⟨s0, s1, s2, s3, s4, s5⟩
            clear hK K
            (try simp only [Act.put, List.setIfInBounds_toArray, List.set_cons_zero, List.set_cons_succ])
            have hHeld : (fun W => W.cell? ⟨X, 0, none⟩ = some (.slice au L cu) ∧ W.cell? ⟨bx, ox + k * 5, none⟩ = some (.int .i64 ak) ∧ W.cell? ⟨bx, ox + k * 5 + 1, none⟩ = some (.int .i64 ac) ∧ W.cell? ⟨bx, ox + k * 5 + 2, none⟩ = some (.int .i64 ao) ∧ W.cell? ⟨bx, ox + k * 5 + 3, none⟩ = some (.int .i64 an) ∧ W.cell? ⟨bx, ox + k * 5 + 4, none⟩ = some (.string ab)) wz60 := ⟨s0, s1, s2, s3, s4, s5⟩
            first | (refine wpAnyH_take (i := 14) (oi := ?oi61) (v := ?v61) ?hi61 (by kernel_rfl) (by kernel_rfl) (by kernel_rfl) ?hQ61 (Or.inl ⟨?hw61, ?hy61⟩) (by assumption) ?rest61; (case hi61 => (simp only [List.getElem?_toArray, List.getElem?_cons_succ, List.getElem?_cons_zero]; rfl)); (case hQ61 => exact fun _ _ _ h => h); (case hw61 => rfl); (case hy61 => ((intro w hSw); (try dsimp only at hSw); go_simp; (try with_reducible rfl)))) | (refine wpAnyH_take (i := 14) (oi := ?oi62) (v := undef) ?hi62 (by kernel_rfl) (by kernel_rfl) (by kernel_rfl) ?hQ62 (Or.inr ⟨?hw62, rfl⟩) (by assumption) ?rest62; (case hi62 => (simp only [List.getElem?_toArray, List.getElem?_cons_succ, List.getElem?_cons_zero]; rfl)); (case hQ62 => exact fun _ _ _ h => h); (case hw62 => rfl))
            (try simp only [Act.put, List.setIfInBounds_toArray, List.set_cons_zero, List.set_cons_succ])
            clear hHeld
            refine wpAnyH_done (by kernel_rfl) ?_ _
            go_wp2_with fail
            go_meet
            exact ⟨wy0.heap.size, wz46.heap.size, an', cn, rfl, rfl, rfl, nc0, rc0, rc1, HU.out, HW.out⟩
          case rest45 =>
            go_simp
            obtain ⟨wz63, hwy⟩ : ∃ W, W = wz43.alloc (.cells #[.int .i64 0, .bool false] 36) := ⟨_, rfl⟩
            rw [← hwy]
            have hb : Below wz43.heap.size wz43 wz63 := by rw [hwy]; exact below_new1 _ _
            have rc0 : wz63.cell? ⟨wz43.heap.size, 0, none⟩ = some (.int .i64 0) := by rw [hwy, World.cell?_alloc_at _ _ _ _ rfl]; rfl
            have rf0 : wz63.frozen? ⟨wz43.heap.size, 0, none⟩ = false := by rw [hwy]; exact World.frozen?_alloc_at _ _ _ _ rfl
            have rc1 : wz63.cell? ⟨wz43.heap.size, 1, none⟩ = some (.bool false) := by rw [hwy, World.cell?_alloc_at _ _ _ _ rfl]; rfl
            have rf1 : wz63.frozen? ⟨wz43.heap.size, 1, none⟩ = false := by rw [hwy]; exact World.frozen?_alloc_at _ _ _ _ rfl
            have rt : Tag wz63 wz43.heap.size 36 := by rw [hwy]; exact tag_new _ _ _
            have rz : wz43.heap.size < wz63.heap.size := by rw [hwy]; simp
            have rl := LO
            replace HW := Lib.hid (below_step HW.out hb)
            replace s0 := cel_below hb s0
            replace s1 := cel_below hb s1
            replace s2 := cel_below hb s2
            replace s3 := cel_below hb s3
            replace s4 := cel_below hb s4
            replace s5 := cel_below hb s5
            replace nc0 := cel_below hb nc0
            replace nf0 := fro_below hb nz nf0
            replace nt := tag_below nt hb
            have nrn : wy0.heap.size ≠ wz43.heap.size := by omega
            replace nz := lt_below hb nz
            replace HRX := Lib.hid (rowOk_keep HRX.out hb)
            replace LO := Nat.le_trans LO hb.size
            clear hb hwy
            refine hK.out _ _ ?_ (fun _ => ?_)
            · (try dsimp only); exact ⟨s0, s1, s2, s3, s4, s5⟩
            clear hK K
            (try simp only [Act.put, List.setIfInBounds_toArray, List.set_cons_zero, List.set_cons_succ])
            refine wpAnyH_ready (rs := [5]) (by kernel_rfl) (by simp) ?_
            refine AllReadyH.cons (o := ?oi64) ?hi64 (fun K hK => ?rest64) AllReadyH.nil
            (case hi64 => (simp only [List.getElem?_toArray, List.getElem?_cons_succ, List.getElem?_cons_zero]; rfl))
            go_simp
            ((with_reducible refine (HQ.out _ (rowOk_has HRX.out)).mono ?_); rintro e wz65 ⟨an', cn, rfl, hu, hb, hF⟩)
            replace HW := Lib.hid (below_step HW.out hb)
            replace s0 := cel_below hb s0
            replace s1 := cel_below hb s1
            replace s2 := cel_below hb s2
            replace s3 := cel_below hb s3
            replace s4 := cel_below hb s4
            replace s5 := cel_below hb s5
            replace nc0 := cel_below hb nc0
            replace nf0 := fro_below hb nz nf0
            replace nz := lt_below hb nz
            replace nt := tag_below nt hb
            replace rc0 := cel_below hb rc0
            replace rf0 := fro_below hb rz rf0
            replace rc1 := cel_below hb rc1
            replace rf1 := fro_below hb rz rf1
            replace rz := lt_below hb rz
            replace rt := tag_below rt hb
            replace HRX := Lib.hid (rowOk_keep HRX.out hb)
            have HU := Lib.hid (rowOk_from HRX.out hu hF (by omega))
            clear hu hF HRX
            replace LO := Nat.le_trans LO hb.size
            clear hb
            refine hK.out _ _ ?_ (fun _ => ?_)
            · (try dsimp only); exact ⟨s0, s1, s2, s3, s4, s5⟩
            clear hK K
            (try simp only [Act.put, List.setIfInBounds_toArray, List.set_cons_zero, List.set_cons_succ])
            have hHeld : (fun W => W.cell? ⟨X, 0, none⟩ = some (.slice au L cu) ∧ W.cell? ⟨bx, ox + k * 5, none⟩ = some (.int .i64 ak) ∧ W.cell? ⟨bx, ox + k * 5 + 1, none⟩ = some (.int .i64 ac) ∧ W.cell? ⟨bx, ox + k * 5 + 2, none⟩ = some (.int .i64 ao) ∧ W.cell? ⟨bx, ox + k * 5 + 3, none⟩ = some (.int .i64 an) ∧ W.cell? ⟨bx, ox + k * 5 + 4, none⟩ = some (.string ab)) wz65 := ⟨s0, s1, s2, s3, s4, s5⟩
            first | (refine wpAnyH_take (i := 6) (oi := ?oi66) (v := ?v66) ?hi66 (by kernel_rfl) (by kernel_rfl) (by kernel_rfl) ?hQ66 (Or.inl ⟨?hw66, ?hy66⟩) (by assumption) ?rest66; (case hi66 => (simp only [List.getElem?_toArray, List.getElem?_cons_succ, List.getElem?_cons_zero]; rfl)); (case hQ66 => exact fun _ _ _ h => h); (case hw66 => rfl); (case hy66 => ((intro w hSw); (try dsimp only at hSw); go_simp; (try with_reducible rfl)))) | (refine wpAnyH_take (i := 6) (oi := ?oi67) (v := undef) ?hi67 (by kernel_rfl) (by kernel_rfl) (by kernel_rfl) ?hQ67 (Or.inr ⟨?hw67, rfl⟩) (by assumption) ?rest67; (case hi67 => (simp only [List.getElem?_toArray, List.getElem?_cons_succ, List.getElem?_cons_zero]; rfl)); (case hQ67 => exact fun _ _ _ h => h); (case hw67 => rfl))
            (try simp only [Act.put, List.setIfInBounds_toArray, List.set_cons_zero, List.set_cons_succ])
            first | (refine wpAnyH_take (i := 7) (oi := ?oi68) (v := ?v68) ?hi68 (by kernel_rfl) (by kernel_rfl) (by kernel_rfl) ?hQ68 (Or.inl ⟨?hw68, ?hy68⟩) (by assumption) ?rest68; (case hi68 => (simp only [List.getElem?_toArray, List.getElem?_cons_succ, List.getElem?_cons_zero]; rfl)); (case hQ68 => exact fun _ _ _ h => h); (case hw68 => rfl); (case hy68 => ((intro w hSw); (try dsimp only at hSw); go_simp; (try with_reducible rfl)))) | (refine wpAnyH_take (i := 7) (oi := ?oi69) (v := undef) ?hi69 (by kernel_rfl) (by kernel_rfl) (by kernel_rfl) ?hQ69 (Or.inr ⟨?hw69, rfl⟩) (by assumption) ?rest69; (case hi69 => (simp only [List.getElem?_toArray, List.getElem?_cons_succ, List.getElem?_cons_zero]; rfl)); (case hQ69 => exact fun _ _ _ h => h); (case hw69 => rfl))
            (try simp only [Act.put, List.setIfInBounds_toArray, List.set_cons_zero, List.set_cons_succ])
            first | (refine wpAnyH_take (i := 8) (oi := ?oi70) (v := ?v70) ?hi70 (by kernel_rfl) (by kernel_rfl) (by kernel_rfl) ?hQ70 (Or.inl ⟨?hw70, ?hy70⟩) (by assumption) ?rest70; (case hi70 => (simp only [List.getElem?_toArray, List.getElem?_cons_succ, List.getElem?_cons_zero]; rfl)); (case hQ70 => exact fun _ _ _ h => h); (case hw70 => rfl); (case hy70 => ((intro w hSw); (try dsimp only at hSw); go_simp; (try with_reducible rfl)))) | (refine wpAnyH_take (i := 8) (oi := ?oi71) (v := undef) ?hi71 (by kernel_rfl) (by kernel_rfl) (by kernel_rfl) ?hQ71 (Or.inr ⟨?hw71, rfl⟩) (by assumption) ?rest71; (case hi71 => (simp only [List.getElem?_toArray, List.getElem?_cons_succ, List.getElem?_cons_zero]; rfl)); (case hQ71 => exact fun _ _ _ h => h); (case hw71 => rfl))
            (try simp only [Act.put, List.setIfInBounds_toArray, List.set_cons_zero, List.set_cons_succ])
            first | (refine wpAnyH_take (i := 9) (oi := ?oi72) (v := ?v72) ?hi72 (by kernel_rfl) (by kernel_rfl) (by kernel_rfl) ?hQ72 (Or.inl ⟨?hw72, ?hy72⟩) (by assumption) ?rest72; (case hi72 => (simp only [List.getElem?_toArray, List.getElem?_cons_succ, List.getElem?_cons_zero]; rfl)); (case hQ72 => exact fun _ _ _ h => h); (case hw72 => rfl); (case hy72 => ((intro w hSw); (try dsimp only at hSw); go_simp; (try with_reducible rfl)))) | (refine wpAnyH_take (i := 9) (oi := ?oi73) (v := undef) ?hi73 (by kernel_rfl) (by kernel_rfl) (by kernel_rfl) ?hQ73 (Or.inr ⟨?hw73, rfl⟩) (by assumption) ?rest73; (case hi73 => (simp only [List.getElem?_toArray, List.getElem?_cons_succ, List.getElem?_cons_zero]; rfl)); (case hQ73 => exact fun _ _ _ h => h); (case hw73 => rfl))
            (try simp only [Act.put, List.setIfInBounds_toArray, List.set_cons_zero, List.set_cons_succ])
            clear hHeld
            refine wpAnyH_ready (rs := [12]) (by kernel_rfl) (by simp) ?_
            refine AllReadyH.cons (o := ?oi74) ?hi74 (fun K hK => ?rest74) AllReadyH.nil
            (case hi74 => (simp only [List.getElem?_toArray, List.getElem?_cons_succ, List.getElem?_cons_zero]; rfl))
            go_simp
            obtain ⟨wz75, hwy⟩ : ∃ W, W = (wz65.setCell ⟨wy0.heap.size, 0, none⟩ (.slice an' L cn)) := ⟨_, rfl⟩
            rw [← hwy]
            replace s0 : wz75.cell? ⟨X, 0, none⟩ = some (.slice au L cu) := by rw [hwy]; exact keepA_ (s0) (Or.inl (by omega))
            replace s1 : wz75.cell? ⟨bx, ox + k * 5, none⟩ = some (.int .i64 ak) := by rw [hwy]; exact keepA_ (s1) (Or.inl (by omega))
            replace s2 : wz75.cell? ⟨bx, ox + k * 5 + 1, none⟩ = some (.int .i64 ac) := by rw [hwy]; exact keepA_ (s2) (Or.inl (by omega))
            replace s3 : wz75.cell? ⟨bx, ox + k * 5 + 2, none⟩ = some (.int .i64 ao) := by rw [hwy]; exact keepA_ (s3) (Or.inl (by omega))
            replace s4 : wz75.cell? ⟨bx, ox + k * 5 + 3, none⟩ = some (.int .i64 an) := by rw [hwy]; exact keepA_ (s4) (Or.inl (by omega))
            replace s5 : wz75.cell? ⟨bx, ox + k * 5 + 4, none⟩ = some (.string ab) := by rw [hwy]; exact keepA_ (s5) (Or.inl (by omega))
            replace rc0 : wz75.cell? ⟨wz43.heap.size, 0, none⟩ = some (.int .i64 0) := by rw [hwy]; exact keepA_ (rc0) (Or.inl (by omega))
            replace rf0 : wz75.frozen? ⟨wz43.heap.size, 0, none⟩ = false := by rw [hwy]; simpa using rf0
            replace rc1 : wz75.cell? ⟨wz43.heap.size, 1, none⟩ = some (.bool false) := by rw [hwy]; exact keepA_ (rc1) (Or.inl (by omega))
            replace rf1 : wz75.frozen? ⟨wz43.heap.size, 1, none⟩ = false := by rw [hwy]; simpa using rf1
            replace HU : Hid (RowOk w (X + 1) (.slice a L cap) wz75 (.slice an' L cn) Z') := Lib.hid (by rw [hwy]; exact (rowOk_set (HV.out) HU.out nt (by decide) (by have := HWrr.out.size; omega)))
            have nd0 : wz75.cell? ⟨wy0.heap.size, 0, none⟩ = some (.slice an' L cn) := by rw [hwy]; exact World.cell?_setCell_same _ _ _ nc0
            replace nt : Tag wz75 wy0.heap.size 24 := by rw [hwy]; exact (tag_set nt _ _)
            replace rt : Tag wz75 wz43.heap.size 36 := by rw [hwy]; exact (tag_set rt _ _)
            replace nf0 : wz75.frozen? ⟨wy0.heap.size, 0, none⟩ = false := by rw [hwy]; simpa using nf0
            replace HW := Lib.hid (Below.setCell (p := ⟨wy0.heap.size, 0, none⟩) HW.out (by have := HWS.out; dsimp only; omega) (.slice an' L cn))
            rw [← hwy] at HW
            have hsz : wz75.heap.size = wz65.heap.size := by rw [hwy]; simp
            replace nz : wy0.heap.size < wz75.heap.size := by omega
            replace rz : wz43.heap.size < wz75.heap.size := by omega
            replace LO : _ ≤ wz75.heap.size := Nat.le_trans LO (Nat.le_of_eq hsz.symm)
            clear hsz hwy nc0
            have nc0 := nd0
            clear nd0
            refine hK.out _ _ ?_ (fun _ => ?_)
            · (try dsimp only); exact ⟨s0, s1, s2, s3, s4, s5⟩
            clear hK K
            (try simp only [Act.put, List.setIfInBounds_toArray, List.set_cons_zero, List.set_cons_succ])
            refine wpAnyH_ready (rs := [13]) (by kernel_rfl) (by simp) ?_
            refine AllReadyH.cons (o := ?oi76) ?hi76 (fun K hK => ?rest76) AllReadyH.nil
            (case hi76 => (simp only [List.getElem?_toArray, List.getElem?_cons_succ, List.getElem?_cons_zero]; rfl))
            go_simp
            obtain ⟨wz77, hwy⟩ : ∃ W, W = ((wz75.setCell ⟨wz43.heap.size, 0, none⟩ (.int .i64 rv)).setCell ⟨wz43.heap.size, 1, none⟩ (.bool rq)) := ⟨_, rfl⟩
            rw [← hwy]
            replace s0 : wz77.cell? ⟨X, 0, none⟩ = some (.slice au L cu) := by rw [hwy]; exact keepA_ (keepA_ (s0) (Or.inl (by omega))) (Or.inl (by omega))
            replace s1 : wz77.cell? ⟨bx, ox + k * 5, none⟩ = some (.int .i64 ak) := by rw [hwy]; exact keepA_ (keepA_ (s1) (Or.inl (by omega))) (Or.inl (by omega))
            replace s2 : wz77.cell? ⟨bx, ox + k * 5 + 1, none⟩ = some (.int .i64 ac) := by rw [hwy]; exact keepA_ (keepA_ (s2) (Or.inl (by omega))) (Or.inl (by omega))
            replace s3 : wz77.cell? ⟨bx, ox + k * 5 + 2, none⟩ = some (.int .i64 ao) := by rw [hwy]; exact keepA_ (keepA_ (s3) (Or.inl (by omega))) (Or.inl (by omega))
            replace s4 : wz77.cell? ⟨bx, ox + k * 5 + 3, none⟩ = some (.int .i64 an) := by rw [hwy]; exact keepA_ (keepA_ (s4) (Or.inl (by omega))) (Or.inl (by omega))
            replace s5 : wz77.cell? ⟨bx, ox + k * 5 + 4, none⟩ = some (.string ab) := by rw [hwy]; exact keepA_ (keepA_ (s5) (Or.inl (by omega))) (Or.inl (by omega))
            replace nc0 : wz77.cell? ⟨wy0.heap.size, 0, none⟩ = some (.slice an' L cn) := by rw [hwy]; exact keepA_ (keepA_ (nc0) (Or.inl (by omega))) (Or.inl (by omega))
            replace nf0 : wz77.frozen? ⟨wy0.heap.size, 0, none⟩ = false := by rw [hwy]; simpa using nf0
            replace HU : Hid (RowOk w (X + 1) (.slice a L cap) wz77 (.slice an' L cn) Z') := Lib.hid (by rw [hwy]; exact (rowOk_set (HV.out) (rowOk_set (HV.out) HU.out rt (by decide) (by have := HWrr.out.size; omega)) (tag_set rt _ _) (by decide) (by have := HWrr.out.size; omega)))
            have rd0 : wz77.cell? ⟨wz43.heap.size, 0, none⟩ = some (.int .i64 rv) := by rw [hwy]; exact keepA_ (World.cell?_setCell_same _ _ _ rc0) (Or.inr (by simp))
            have rd1 : wz77.cell? ⟨wz43.heap.size, 1, none⟩ = some (.bool rq) := by rw [hwy]; exact World.cell?_setCell_same _ _ _ (keepA_ rc1 (Or.inr (by simp)))
            replace nt : Tag wz77 wy0.heap.size 24 := by rw [hwy]; exact (tag_set (tag_set nt _ _) _ _)
            replace rt : Tag wz77 wz43.heap.size 36 := by rw [hwy]; exact (tag_set (tag_set rt _ _) _ _)
            replace rf0 : wz77.frozen? ⟨wz43.heap.size, 0, none⟩ = false := by rw [hwy]; simpa using rf0
            replace rf1 : wz77.frozen? ⟨wz43.heap.size, 1, none⟩ = false := by rw [hwy]; simpa using rf1
            replace HW := Lib.hid (Below.setCell (p := ⟨wz43.heap.size, 1, none⟩) (Below.setCell (p := ⟨wz43.heap.size, 0, none⟩) HW.out (by have := HWS.out; dsimp only; omega) (.int .i64 rv)) (by have := HWS.out; dsimp only; omega) (.bool rq))
            rw [← hwy] at HW
            have hsz : wz77.heap.size = wz75.heap.size := by rw [hwy]; simp
            replace nz : wy0.heap.size < wz77.heap.size := by omega
            replace rz : wz43.heap.size < wz77.heap.size := by omega
            replace LO : _ ≤ wz77.heap.size := Nat.le_trans LO (Nat.le_of_eq hsz.symm)
            clear hsz hwy rc0 rc1
            have rc0 := rd0
            clear rd0
            have rc1 := rd1
            clear rd1
            refine hK.out _ _ ?_ (fun _ => ?_)
            · (try dsimp only); exact ⟨s0, s1, s2, s3, s4, s5⟩
            clear hK K
            (try simp only [Act.put, List.setIfInBounds_toArray, List.set_cons_zero, List.set_cons_succ])
            have hHeld : (fun W => W.cell? ⟨X, 0, none⟩ = some (.slice au L cu) ∧ W.cell? ⟨bx, ox + k * 5, none⟩ = some (.int .i64 ak) ∧ W.cell? ⟨bx, ox + k * 5 + 1, none⟩ = some (.int .i64 ac) ∧ W.cell? ⟨bx, ox + k * 5 + 2, none⟩ = some (.int .i64 ao) ∧ W.cell? ⟨bx, ox + k * 5 + 3, none⟩ = some (.int .i64 an) ∧ W.cell? ⟨bx, ox + k * 5 + 4, none⟩ = some (.string ab)) wz77 := ⟨s0, s1, s2, s3, s4, s5⟩
            first | (refine wpAnyH_take (i := 14) (oi := ?oi78) (v := ?v78) ?hi78 (by kernel_rfl) (by kernel_rfl) (by kernel_rfl) ?hQ78 (Or.inl ⟨?hw78, ?hy78⟩) (by assumption) ?rest78; (case hi78 => (simp only [List.getElem?_toArray, List.getElem?_cons_succ, List.getElem?_cons_zero]; rfl)); (case hQ78 => exact fun _ _ _ h => h); (case hw78 => rfl); (case hy78 => ((intro w hSw); (try dsimp only at hSw); go_simp; (try with_reducible rfl)))) | (refine wpAnyH_take (i := 14) (oi := ?oi79) (v := undef) ?hi79 (by kernel_rfl) (by kernel_rfl) (by kernel_rfl) ?hQ79 (Or.inr ⟨?hw79, rfl⟩) (by assumption) ?rest79; (case hi79 => (simp only [List.getElem?_toArray, List.getElem?_cons_succ, List.getElem?_cons_zero]; rfl)); (case hQ79 => exact fun _ _ _ h => h); (case hw79 => rfl))
            (try simp only [Act.put, List.setIfInBounds_toArray, List.set_cons_zero, List.set_cons_succ])
            clear hHeld
            refine wpAnyH_done (by kernel_rfl) ?_ _
            go_wp2_with fail
            go_meet
            exact ⟨wy0.heap.size, wz43.heap.size, an', cn, rfl, rfl, rfl, nc0, rc0, rc1, HU.out, HW.out⟩
        case rest13 =>
          go_simp
          obtain ⟨wz80, hwy⟩ : ∃ W, W = wy0.alloc (.cells #[.int .i64 0, .bool false] 36) := ⟨_, rfl⟩
          rw [← hwy]
          have hb : Below wy0.heap.size wy0 wz80 := by rw [hwy]; exact below_new1 _ _
          have rc0 : wz80.cell? ⟨wy0.heap.size, 0, none⟩ = some (.int .i64 0) := by rw [hwy, World.cell?_alloc_at _ _ _ _ rfl]; rfl
          have rf0 : wz80.frozen? ⟨wy0.heap.size, 0, none⟩ = false := by rw [hwy]; exact World.frozen?_alloc_at _ _ _ _ rfl
          have rc1 : wz80.cell? ⟨wy0.heap.size, 1, none⟩ = some (.bool false) := by rw [hwy, World.cell?_alloc_at _ _ _ _ rfl]; rfl
          have rf1 : wz80.frozen? ⟨wy0.heap.size, 1, none⟩ = false := by rw [hwy]; exact World.frozen?_alloc_at _ _ _ _ rfl
          have rt : Tag wz80 wy0.heap.size 36 := by rw [hwy]; exact tag_new _ _ _
          have rz : wy0.heap.size < wz80.heap.size := by rw [hwy]; simp
          have rl := LO
          replace HW := Lib.hid (below_step HW.out hb)
          replace s0 := cel_below hb s0
          replace s1 := cel_below hb s1
          replace s2 := cel_below hb s2
          replace s3 := cel_below hb s3
          replace s4 := cel_below hb s4
          replace s5 := cel_below hb s5
          replace HRX := Lib.hid (rowOk_keep HRX.out hb)
          replace LO := Nat.le_trans LO hb.size
          clear hb hwy
          refine hK.out _ _ ?_ (fun _ => ?_)
          · (try dsimp only); exact ⟨s0, s1, s2, s3, s4, s5⟩
          clear hK K
          (try simp only [Act.put, List.setIfInBounds_toArray, List.set_cons_zero, List.set_cons_succ])
          refine wpAnyH_ready (rs := [5, 10]) (by kernel_rfl) (by simp) ?_
          refine AllReadyH.cons (o := ?oi81) ?hi81 (fun K hK => ?rest81) (AllReadyH.cons (o := ?oi82) ?hi82 (fun K hK => ?rest82) AllReadyH.nil)
          (case hi81 => (simp only [List.getElem?_toArray, List.getElem?_cons_succ, List.getElem?_cons_zero]; rfl))
          (case hi82 => (simp only [List.getElem?_toArray, List.getElem?_cons_succ, List.getElem?_cons_zero]; rfl))
          case rest81 =>
            go_simp
            ((with_reducible refine (HQ.out _ (rowOk_has HRX.out)).mono ?_); rintro e wz83 ⟨an', cn, rfl, hu, hb, hF⟩)
            replace HW := Lib.hid (below_step HW.out hb)
            replace s0 := cel_below hb s0
            replace s1 := cel_below hb s1
            replace s2 := cel_below hb s2
            replace s3 := cel_below hb s3
            replace s4 := cel_below hb s4
            replace s5 := cel_below hb s5
            replace rc0 := cel_below hb rc0
            replace rf0 := fro_below hb rz rf0
            replace rc1 := cel_below hb rc1
            replace rf1 := fro_below hb rz rf1
            replace rz := lt_below hb rz
            replace rt := tag_below rt hb
            replace HRX := Lib.hid (rowOk_keep HRX.out hb)
            have HU := Lib.hid (rowOk_from HRX.out hu hF (by omega))
            clear hu hF HRX
            replace LO := Nat.le_trans LO hb.size
            clear hb
            refine hK.out _ _ ?_ (fun _ => ?_)
            · (try dsimp only); exact ⟨s0, s1, s2, s3, s4, s5⟩
            clear hK K
            (try simp only [Act.put, List.setIfInBounds_toArray, List.set_cons_zero, List.set_cons_succ])
            have hHeld : (fun W => W.cell? ⟨X, 0, none⟩ = some (.slice au L cu) ∧ W.cell? ⟨bx, ox + k * 5, none⟩ = some (.int .i64 ak) ∧ W.cell? ⟨bx, ox + k * 5 + 1, none⟩ = some (.int .i64 ac) ∧ W.cell? ⟨bx, ox + k * 5 + 2, none⟩ = some (.int .i64 ao) ∧ W.cell? ⟨bx, ox + k * 5 + 3, none⟩ = some (.int .i64 an) ∧ W.cell? ⟨bx, ox + k * 5 + 4, none⟩ = some (.string ab)) wz83 := ⟨s0, s1, s2, s3, s4, s5⟩
            first | (refine wpAnyH_take (i := 6) (oi := ?oi84) (v := ?v84) ?hi84 (by kernel_rfl) (by kernel_rfl) (by kernel_rfl) ?hQ84 (Or.inl ⟨?hw84, ?hy84⟩) (by assumption) ?rest84; (case hi84 => (simp only [List.getElem?_toArray, List.getElem?_cons_succ, List.getElem?_cons_zero]; rfl)); (case hQ84 => exact fun _ _ _ h => h); (case hw84 => rfl); (case hy84 => ((intro w hSw); (try dsimp only at hSw); go_simp; (try with_reducible rfl)))) | (refine wpAnyH_take (i := 6) (oi := ?oi85) (v := undef) ?hi85 (by kernel_rfl) (by kernel_rfl) (by kernel_rfl) ?hQ85 (Or.inr ⟨?hw85, rfl⟩) (by assumption) ?rest85; (case hi85 => (simp only [List.getElem?_toArray, List.getElem?_cons_succ, List.getElem?_cons_zero]; rfl)); (case hQ85 => exact fun _ _ _ h => h); (case hw85 => rfl))
            (try simp only [Act.put, List.setIfInBounds_toArray, List.set_cons_zero, List.set_cons_succ])
            first | (refine wpAnyH_take (i := 7) (oi := ?oi86) (v := ?v86) ?hi86 (by kernel_rfl) (by kernel_rfl) (by kernel_rfl) ?hQ86 (Or.inl ⟨?hw86, ?hy86⟩) (by assumption) ?rest86; (case hi86 => (simp only [List.getElem?_toArray, List.getElem?_cons_succ, List.getElem?_cons_zero]; rfl)); (case hQ86 => exact fun _ _ _ h => h); (case hw86 => rfl); (case hy86 => ((intro w hSw); (try dsimp only at hSw); go_simp; (try with_reducible rfl)))) | (refine wpAnyH_take (i := 7) (oi := ?oi87) (v := undef) ?hi87 (by kernel_rfl) (by kernel_rfl) (by kernel_rfl) ?hQ87 (Or.inr ⟨?hw87, rfl⟩) (by assumption) ?rest87; (case hi87 => (simp only [List.getElem?_toArray, List.getElem?_cons_succ, List.getElem?_cons_zero]; rfl)); (case hQ87 => exact fun _ _ _ h => h); (case hw87 => rfl))
            (try simp only [Act.put, List.setIfInBounds_toArray, List.set_cons_zero, List.set_cons_succ])
            first | (refine wpAnyH_take (i := 8) (oi := ?oi88) (v := ?v88) ?hi88 (by kernel_rfl) (by kernel_rfl) (by kernel_rfl) ?hQ88 (Or.inl ⟨?hw88, ?hy88⟩) (by assumption) ?rest88; (case hi88 => (simp only [List.getElem?_toArray, List.getElem?_cons_succ, List.getElem?_cons_zero]; rfl)); (case hQ88 => exact fun _ _ _ h => h); (case hw88 => rfl); (case hy88 => ((intro w hSw); (try dsimp only at hSw); go_simp; (try with_reducible rfl)))) | (refine wpAnyH_take (i := 8) (oi := ?oi89) (v := undef) ?hi89 (by kernel_rfl) (by kernel_rfl) (by kernel_rfl) ?hQ89 (Or.inr ⟨?hw89, rfl⟩) (by assumption) ?rest89; (case hi89 => (simp only [List.getElem?_toArray, List.getElem?_cons_succ, List.getElem?_cons_zero]; rfl)); (case hQ89 => exact fun _ _ _ h => h); (case hw89 => rfl))
            (try simp only [Act.put, List.setIfInBounds_toArray, List.set_cons_zero, List.set_cons_succ])
            first | (refine wpAnyH_take (i := 9) (oi := ?oi90) (v := ?v90) ?hi90 (by kernel_rfl) (by kernel_rfl) (by kernel_rfl) ?hQ90 (Or.inl ⟨?hw90, ?hy90⟩) (by assumption) ?rest90; (case hi90 => (simp only [List.getElem?_toArray, List.getElem?_cons_succ, List.getElem?_cons_zero]; rfl)); (case hQ90 => exact fun _ _ _ h => h); (case hw90 => rfl); (case hy90 => ((intro w hSw); (try dsimp only at hSw); go_simp; (try with_reducible rfl)))) | (refine wpAnyH_take (i := 9) (oi := ?oi91) (v := undef) ?hi91 (by kernel_rfl) (by kernel_rfl) (by kernel_rfl) ?hQ91 (Or.inr ⟨?hw91, rfl⟩) (by assumption) ?rest91; (case hi91 => (simp only [List.getElem?_toArray, List.getElem?_cons_succ, List.getElem?_cons_zero]; rfl)); (case hQ91 => exact fun _ _ _ h => h); (case hw91 => rfl))
            (try simp only [Act.put, List.setIfInBounds_toArray, List.set_cons_zero, List.set_cons_succ])
            clear hHeld
            refine wpAnyH_ready (rs := [10]) (by kernel_rfl) (by simp) ?_
            refine AllReadyH.cons (o := ?oi92) ?hi92 (fun K hK => ?rest92) AllReadyH.nil
            (case hi92 => (simp only [List.getElem?_toArray, List.getElem?_cons_succ, List.getElem?_cons_zero]; rfl))
            go_simp
            obtain ⟨wz93, hwy⟩ : ∃ W, W = wz83.alloc (.cells #[.slice none 0 0] 24) := ⟨_, rfl⟩
            rw [← hwy]
            have hb : Below wz83.heap.size wz83 wz93 := by rw [hwy]; exact below_new1 _ _
            have nc0 : wz93.cell? ⟨wz83.heap.size, 0, none⟩ = some (.slice none 0 0) := by rw [hwy, World.cell?_alloc_at _ _ _ _ rfl]; rfl
            have nf0 : wz93.frozen? ⟨wz83.heap.size, 0, none⟩ = false := by rw [hwy]; exact World.frozen?_alloc_at _ _ _ _ rfl
            have nt : Tag wz93 wz83.heap.size 24 := by rw [hwy]; exact tag_new _ _ _
            have nz : wz83.heap.size < wz93.heap.size := by rw [hwy]; simp
            have nl := LO
            replace HW := Lib.hid (below_step HW.out hb)
            replace s0 := cel_below hb s0
            replace s1 := cel_below hb s1
            replace s2 := cel_below hb s2
            replace s3 := cel_below hb s3
            replace s4 := cel_below hb s4
            replace s5 := cel_below hb s5
            replace rc0 := cel_below hb rc0
            replace rf0 := fro_below hb rz rf0
            replace rc1 := cel_below hb rc1
            replace rf1 := fro_below hb rz rf1
            replace rt := tag_below rt hb
            have rnn : wy0.heap.size ≠ wz83.heap.size := by omega
            replace rz := lt_below hb rz
            replace HU := Lib.hid (rowOk_keep HU.out hb)
            replace LO := Nat.le_trans LO hb.size
            clear hb hwy
            refine hK.out _ _ ?_ (fun _ => ?_)
            · (try dsimp only); exact ⟨s0, s1, s2, s3, s4, s5⟩
            clear hK K
            (try simp only [Act.put, List.setIfInBounds_toArray, List.set_cons_zero, List.set_cons_succ])
            refine wpAnyH_ready (rs := [12]) (by kernel_rfl) (by simp) ?_
            refine AllReadyH.cons (o := ?oi94) ?hi94 (fun K hK => ?rest94) AllReadyH.nil
            (case hi94 => (simp only [List.getElem?_toArray, List.getElem?_cons_succ, List.getElem?_cons_zero]; rfl))
            go_simp
            obtain ⟨wz95, hwy⟩ : ∃ W, W = (wz93.setCell ⟨wz83.heap.size, 0, none⟩ (.slice an' L cn)) := ⟨_, rfl⟩
            rw [← hwy]
            replace s0 : wz95.cell? ⟨X, 0, none⟩ = some (.slice au L cu) := by rw [hwy]; exact keepA_ (s0) (Or.inl (by omega))
            replace s1 : wz95.cell? ⟨bx, ox + k * 5, none⟩ = some (.int .i64 ak) := by rw [hwy]; exact keepA_ (s1) (Or.inl (by omega))
            replace s2 : wz95.cell? ⟨bx, ox + k * 5 + 1, none⟩ = some (.int .i64 ac) := by rw [hwy]; exact keepA_ (s2) (Or.inl (by omega))
            replace s3 : wz95.cell? ⟨bx, ox + k * 5 + 2, none⟩ = some (.int .i64 ao) := by rw [hwy]; exact keepA_ (s3) (Or.inl (by omega))
            replace s4 : wz95.cell? ⟨bx, ox + k * 5 + 3, none⟩ = some (.int .i64 an) := by rw [hwy]; exact keepA_ (s4) (Or.inl (by omega))
            replace s5 : wz95.cell? ⟨bx, ox + k * 5 + 4, none⟩ = some (.string ab) := by rw [hwy]; exact keepA_ (s5) (Or.inl (by omega))
            replace rc0 : wz95.cell? ⟨wy0.heap.size, 0, none⟩ = some (.int .i64 0) := by rw [hwy]; exact keepA_ (rc0) (Or.inl (by omega))
            replace rf0 : wz95.frozen? ⟨wy0.heap.size, 0, none⟩ = false := by rw [hwy]; simpa using rf0
            replace rc1 : wz95.cell? ⟨wy0.heap.size, 1, none⟩ = some (.bool false) := by rw [hwy]; exact keepA_ (rc1) (Or.inl (by omega))
            replace rf1 : wz95.frozen? ⟨wy0.heap.size, 1, none⟩ = false := by rw [hwy]; simpa using rf1
            replace HU : Hid (RowOk w (X + 1) (.slice a L cap) wz95 (.slice an' L cn) Z') := Lib.hid (by rw [hwy]; exact (rowOk_set (HV.out) HU.out nt (by decide) (by have := HWrr.out.size; omega)))
            have nd0 : wz95.cell? ⟨wz83.heap.size, 0, none⟩ = some (.slice an' L cn) := by rw [hwy]; exact World.cell?_setCell_same _ _ _ nc0
            replace rt : Tag wz95 wy0.heap.size 36 := by rw [hwy]; exact (tag_set rt _ _)
            replace nt : Tag wz95 wz83.heap.size 24 := by rw [hwy]; exact (tag_set nt _ _)
            replace nf0 : wz95.frozen? ⟨wz83.heap.size, 0, none⟩ = false := by rw [hwy]; simpa using nf0
            replace HW := Lib.hid (Below.setCell (p := ⟨wz83.heap.size, 0, none⟩) HW.out (by have := HWS.out; dsimp only; omega) (.slice an' L cn))
            rw [← hwy] at HW
            have hsz : wz95.heap.size = wz93.heap.size := by rw [hwy]; simp
            replace rz : wy0.heap.size < wz95.heap.size := by omega
            replace nz : wz83.heap.size < wz95.heap.size := by omega
            replace LO : _ ≤ wz95.heap.size := Nat.le_trans LO (Nat.le_of_eq hsz.symm)
            clear hsz hwy nc0
            have nc0 := nd0
            clear nd0
            refine hK.out _ _ ?_ (fun _ => ?_)
            · (try dsimp only); exact ⟨s0, s1, s2, s3, s4, s5⟩
            clear hK K
            (try simp only [Act.put, List.setIfInBounds_toArray, List.set_cons_zero, List.set_cons_succ])
            refine wpAnyH_ready (rs := [13]) (by kernel_rfl) (by simp) ?_
            refine AllReadyH.cons (o := ?oi96) ?hi96 (fun K hK => ?rest96) AllReadyH.nil
            (case hi96 => (simp only [List.getElem?_toArray, List.getElem?_cons_succ, List.getElem?_cons_zero]; rfl))
            go_simp
            obtain ⟨wz97, hwy⟩ : ∃ W, W = ((wz95.setCell ⟨wy0.heap.size, 0, none⟩ (.int .i64 rv)).setCell ⟨wy0.heap.size, 1, none⟩ (.bool rq)) := ⟨_, rfl⟩
            rw [← hwy]
            replace s0 : wz97.cell? ⟨X, 0, none⟩ = some (.slice au L cu) := by rw [hwy]; exact keepA_ (keepA_ (s0) (Or.inl (by omega))) (Or.inl (by omega))
            replace s1 : wz97.cell? ⟨bx, ox + k * 5, none⟩ = some (.int .i64 ak) := by rw [hwy]; exact keepA_ (keepA_ (s1) (Or.inl (by omega))) (Or.inl (by omega))
            replace s2 : wz97.cell? ⟨bx, ox + k * 5 + 1, none⟩ = some (.int .i64 ac) := by rw [hwy]; exact keepA_ (keepA_ (s2) (Or.inl (by omega))) (Or.inl (by omega))
            replace s3 : wz97.cell? ⟨bx, ox + k * 5 + 2, none⟩ = some (.int .i64 ao) := by rw [hwy]; exact keepA_ (keepA_ (s3) (Or.inl (by omega))) (Or.inl (by omega))
            replace s4 : wz97.cell? ⟨bx, ox + k * 5 + 3, none⟩ = some (.int .i64 an) := by rw [hwy]; exact keepA_ (keepA_ (s4) (Or.inl (by omega))) (Or.inl (by omega))
            replace s5 : wz97.cell? ⟨bx, ox + k * 5 + 4, none⟩ = some (.string ab) := by rw [hwy]; exact keepA_ (keepA_ (s5) (Or.inl (by omega))) (Or.inl (by omega))
            replace nc0 : wz97.cell? ⟨wz83.heap.size, 0, none⟩ = some (.slice an' L cn) := by rw [hwy]; exact keepA_ (keepA_ (nc0) (Or.inl (by omega))) (Or.inl (by omega))
            replace nf0 : wz97.frozen? ⟨wz83.heap.size, 0, none⟩ = false := by rw [hwy]; simpa using nf0
            replace HU : Hid (RowOk w (X + 1) (.slice a L cap) wz97 (.slice an' L cn) Z') := Lib.hid (by rw [hwy]; exact (rowOk_set (HV.out) (rowOk_set (HV.out) HU.out rt (by decide) (by have := HWrr.out.size; omega)) (tag_set rt _ _) (by decide) (by have := HWrr.out.size; omega)))
            have rd0 : wz97.cell? ⟨wy0.heap.size, 0, none⟩ = some (.int .i64 rv) := by rw [hwy]; exact keepA_ (World.cell?_setCell_same _ _ _ rc0) (Or.inr (by simp))
            have rd1 : wz97.cell? ⟨wy0.heap.size, 1, none⟩ = some (.bool rq) := by rw [hwy]; exact World.cell?_setCell_same _ _ _ (keepA_ rc1 (Or.inr (by simp)))
            replace rt : Tag wz97 wy0.heap.size 36 := by rw [hwy]; exact (tag_set (tag_set rt _ _) _ _)
            replace nt : Tag wz97 wz83.heap.size 24 := by rw [hwy]; exact (tag_set (tag_set nt _ _) _ _)
            replace rf0 : wz97.frozen? ⟨wy0.heap.size, 0, none⟩ = false := by rw [hwy]; simpa using rf0
            replace rf1 : wz97.frozen? ⟨wy0.heap.size, 1, none⟩ = false := by rw [hwy]; simpa using rf1
            replace HW := Lib.hid (Below.setCell (p := ⟨wy0.heap.size, 1, none⟩) (Below.setCell (p := ⟨wy0.heap.size, 0, none⟩) HW.out (by have := HWS.out; dsimp only; omega) (.int .i64 rv)) (by have := HWS.out; dsimp only; omega) (.bool rq))
            rw [← hwy] at HW
            have hsz : wz97.heap.size = wz95.heap.size := by rw [hwy]; simp
            replace rz : wy0.heap.size < wz97.heap.size := by omega
            replace nz : wz83.heap.size < wz97.heap.size := by omega
            replace LO : _ ≤ wz97.heap.size := Nat.le_trans LO (Nat.le_of_eq hsz.symm)
            clear hsz hwy rc0 rc1
            have rc0 := rd0
            clear rd0
            have rc1 := rd1
            clear rd1
            refine hK.out _ _ ?_ (fun _ => ?_)
            · (try dsimp only); exact ⟨s0, s1, s2, s3, s4, s5⟩
            clear hK K
            (try simp only [Act.put, List.setIfInBounds_toArray, List.set_cons_zero, List.set_cons_succ])
            have hHeld : (fun W => W.cell? ⟨X, 0, none⟩ = some (.slice au L cu) ∧ W.cell? ⟨bx, ox + k * 5, none⟩ = some (.int .i64 ak) ∧ W.cell? ⟨bx, ox + k * 5 + 1, none⟩ = some (.int .i64 ac) ∧ W.cell? ⟨bx, ox + k * 5 + 2, none⟩ = some (.int .i64 ao) ∧ W.cell? ⟨bx, ox + k * 5 + 3, none⟩ = some (.int .i64 an) ∧ W.cell? ⟨bx, ox + k * 5 + 4, none⟩ = some (.string ab)) wz97 := ⟨s0, s1, s2, s3, s4, s5⟩
            first | (refine wpAnyH_take (i := 14) (oi := ?oi98) (v := ?v98) ?hi98 (by kernel_rfl) (by kernel_rfl) (by kernel_rfl) ?hQ98 (Or.inl ⟨?hw98, ?hy98⟩) (by assumption) ?rest98; (case hi98 => (simp only [List.getElem?_toArray, List.getElem?_cons_succ, List.getElem?_cons_zero]; rfl)); (case hQ98 => exact fun _ _ _ h => h); (case hw98 => rfl); (case hy98 => ((intro w hSw); (try dsimp only at hSw); go_simp; (try with_reducible rfl)))) | (refine wpAnyH_take (i := 14) (oi := ?oi99) (v := undef) ?hi99 (by kernel_rfl) (by kernel_rfl) (by kernel_rfl) ?hQ99 (Or.inr ⟨?hw99, rfl⟩) (by assumption) ?rest99; (case hi99 => (simp only [List.getElem?_toArray, List.getElem?_cons_succ, List.getElem?_cons_zero]; rfl)); (case hQ99 => exact fun _ _ _ h => h); (case hw99 => rfl))
            (try simp only [Act.put, List.setIfInBounds_toArray, List.set_cons_zero, List.set_cons_succ])
            clear hHeld
            refine wpAnyH_done (by kernel_rfl) ?_ _
            go_wp2_with fail
            go_meet
            exact ⟨wz83.heap.size, wy0.heap.size, an', cn, rfl, rfl, rfl, nc0, rc0, rc1, HU.out, HW.out⟩
          case rest82 =>
            go_simp
            obtain ⟨wz100, hwy⟩ : ∃ W, W = wz80.alloc (.cells #[.slice none 0 0] 24) := ⟨_, rfl⟩
            rw [← hwy]
            have hb : Below wz80.heap.size wz80 wz100 := by rw [hwy]; exact below_new1 _ _
            have nc0 : wz100.cell? ⟨wz80.heap.size, 0, none⟩ = some (.slice none 0 0) := by rw [hwy, World.cell?_alloc_at _ _ _ _ rfl]; rfl
            have nf0 : wz100.frozen? ⟨wz80.heap.size, 0, none⟩ = false := by rw [hwy]; exact World.frozen?_alloc_at _ _ _ _ rfl
            have nt : Tag wz100 wz80.heap.size 24 := by rw [hwy]; exact tag_new _ _ _
            have nz : wz80.heap.size < wz100.heap.size := by rw [hwy]; simp
            have nl := LO
            replace HW := Lib.hid (below_step HW.out hb)
            replace s0 := cel_below hb s0
            replace s1 := cel_below hb s1
            replace s2 := cel_below hb s2
            replace s3 := cel_below hb s3
            replace s4 := cel_below hb s4
            replace s5 := cel_below hb s5
            replace rc0 := cel_below hb rc0
            replace rf0 := fro_below hb rz rf0
            replace rc1 := cel_below hb rc1
            replace rf1 := fro_below hb rz rf1
            replace rt := tag_below rt hb
            have rnn : wy0.heap.size ≠ wz80.heap.size := by omega
            replace rz := lt_below hb rz
            replace HRX := Lib.hid (rowOk_keep HRX.out hb)
            replace LO := Nat.le_trans LO hb.size
            clear hb hwy
            refine hK.out _ _ ?_ (fun _ => ?_)
            · (try dsimp only); exact ⟨s0, s1, s2, s3, s4, s5⟩
            clear hK K
            (try simp only [Act.put, List.setIfInBounds_toArray, List.set_cons_zero, List.set_cons_succ])
            refine wpAnyH_ready (rs := [5]) (by kernel_rfl) (by simp) ?_
            refine AllReadyH.cons (o := ?oi101) ?hi101 (fun K hK => ?rest101) AllReadyH.nil
            (case hi101 => (simp only [List.getElem?_toArray, List.getElem?_cons_succ, List.getElem?_cons_zero]; rfl))
            go_simp
            ((with_reducible refine (HQ.out _ (rowOk_has HRX.out)).mono ?_); rintro e wz102 ⟨an', cn, rfl, hu, hb, hF⟩)
            replace HW := Lib.hid (below_step HW.out hb)
            replace s0 := cel_below hb s0
            replace s1 := cel_below hb s1
            replace s2 := cel_below hb s2
            replace s3 := cel_below hb s3
            replace s4 := cel_below hb s4
            replace s5 := cel_below hb s5
            replace rc0 := cel_below hb rc0
            replace rf0 := fro_below hb rz rf0
            replace rc1 := cel_below hb rc1
            replace rf1 := fro_below hb rz rf1
            replace rz := lt_below hb rz
            replace rt := tag_below rt hb
            replace nc0 := cel_below hb nc0
            replace nf0 := fro_below hb nz nf0
            replace nz := lt_below hb nz
            replace nt := tag_below nt hb
            replace HRX := Lib.hid (rowOk_keep HRX.out hb)
            have HU := Lib.hid (rowOk_from HRX.out hu hF (by omega))
            clear hu hF HRX
            replace LO := Nat.le_trans LO hb.size
            clear hb
            refine hK.out _ _ ?_ (fun _ => ?_)
            · (try dsimp only); exact ⟨s0, s1, s2, s3, s4, s5⟩
            clear hK K
            (try simp only [Act.put, List.setIfInBounds_toArray, List.set_cons_zero, List.set_cons_succ])
            have hHeld : (fun W => W.cell? ⟨X, 0, none⟩ = some (.slice au L cu) ∧ W.cell? ⟨bx, ox + k * 5, none⟩ = some (.int .i64 ak) ∧ W.cell? ⟨bx, ox + k * 5 + 1, none⟩ = some (.int .i64 ac) ∧ W.cell? ⟨bx, ox + k * 5 + 2, none⟩ = some (.int .i64 ao) ∧ W.cell? ⟨bx, ox + k * 5 + 3, none⟩ = some (.int .i64 an) ∧ W.cell? ⟨bx, ox + k * 5 + 4, none⟩ = some (.string ab)) wz102 := ⟨s0, s1, s2, s3, s4, s5⟩
            first | (refine wpAnyH_take (i := 6) (oi := ?oi103) (v := ?v103) ?hi103 (by kernel_rfl) (by kernel_rfl) (by kernel_rfl) ?hQ103 (Or.inl ⟨?hw103, ?hy103⟩) (by assumption) ?rest103; (case hi103 => (simp only [List.getElem?_toArray, List.getElem?_cons_succ, List.getElem?_cons_zero]; rfl)); (case hQ103 => exact fun _ _ _ h => h); (case hw103 => rfl); (case hy103 => ((intro w hSw); (try dsimp only at hSw); go_simp; (try with_reducible rfl)))) | (refine wpAnyH_take (i := 6) (oi := ?oi104) (v := undef) ?hi104 (by kernel_rfl) (by kernel_rfl) (by kernel_rfl) ?hQ104 (Or.inr ⟨?hw104, rfl⟩) (by assumption) ?rest104; (case hi104 => (simp only [List.getElem?_toArray, List.getElem?_cons_succ, List.getElem?_cons_zero]; rfl)); (case hQ104 => exact fun _ _ _ h => h); (case hw104 => rfl))
            (try simp only [Act.put, List.setIfInBounds_toArray, List.set_cons_zero, List.set_cons_succ])
            first | (refine wpAnyH_take (i := 7) (oi := ?oi105) (v := ?v105) ?hi105 (by kernel_rfl) (by kernel_rfl) (by kernel_rfl) ?hQ105 (Or.inl ⟨?hw105, ?hy105⟩) (by assumption) ?rest105; (case hi105 => (simp only [List.getElem?_toArray, List.getElem?_cons_succ, List.getElem?_cons_zero]; rfl)); (case hQ105 => exact fun _ _ _ h => h); (case hw105 => rfl); (case hy105 => ((intro w hSw); (try dsimp only at hSw); go_simp; (try with_reducible rfl)))) | (refine wpAnyH_take (i := 7) (oi := ?oi106) (v := undef) ?hi106 (by kernel_rfl) (by kernel_rfl) (by kernel_rfl) ?hQ106 (Or.inr ⟨?hw106, rfl⟩) (by assumption) ?rest106; (case hi106 => (simp only [List.getElem?_toArray, List.getElem?_cons_succ, List.getElem?_cons_zero]; rfl)); (case hQ106 => exact fun _ _ _ h => h); (case hw106 => rfl))
            (try simp only [Act.put, List.setIfInBounds_toArray, List.set_cons_zero, List.set_cons_succ])
            first | (refine wpAnyH_take (i := 8) (oi := ?oi107) (v := ?v107) ?hi107 (by kernel_rfl) (by kernel_rfl) (by kernel_rfl) ?hQ107 (Or.inl ⟨?hw107, ?hy107⟩) (by assumption) ?rest107; (case hi107 => (simp only [List.getElem?_toArray, List.getElem?_cons_succ, List.getElem?_cons_zero]; rfl)); (case hQ107 => exact fun _ _ _ h => h); (case hw107 => rfl); (case hy107 => ((intro w hSw); (try dsimp only at hSw); go_simp; (try with_reducible rfl)))) | (refine wpAnyH_take (i := 8) (oi := ?oi108) (v := undef) ?hi108 (by kernel_rfl) (by kernel_rfl) (by kernel_rfl) ?hQ108 (Or.inr ⟨?hw108, rfl⟩) (by assumption) ?rest108; (case hi108 => (simp only [List.getElem?_toArray, List.getElem?_cons_succ, List.getElem?_cons_zero]; rfl)); (case hQ108 => exact fun _ _ _ h => h); (case hw108 => rfl))
            (try simp only [Act.put, List.setIfInBounds_toArray, List.set_cons_zero, List.set_cons_succ])
            first | (refine wpAnyH_take (i := 9) (oi := ?oi109) (v := ?v109) ?hi109 (by kernel_rfl) (by kernel_rfl) (by kernel_rfl) ?hQ109 (Or.inl ⟨?hw109, ?hy109⟩) (by assumption) ?rest109; (case hi109 => (simp only [List.getElem?_toArray, List.getElem?_cons_succ, List.getElem?_cons_zero]; rfl)); (case hQ109 => exact fun _ _ _ h => h); (case hw109 => rfl); (case hy109 => ((intro w hSw); (try dsimp only at hSw); go_simp; (try with_reducible rfl)))) | (refine wpAnyH_take (i := 9) (oi := ?oi110) (v := undef) ?hi110 (by kernel_rfl) (by kernel_rfl) (by kernel_rfl) ?hQ110 (Or.inr ⟨?hw110, rfl⟩) (by assumption) ?rest110; (case hi110 => (simp only [List.getElem?_toArray, List.getElem?_cons_succ, List.getElem?_cons_zero]; rfl)); (case hQ110 => exact fun _ _ _ h => h); (case hw110 => rfl))
            (try simp only [Act.put, List.setIfInBounds_toArray, List.set_cons_zero, List.set_cons_succ])
            clear hHeld
            refine wpAnyH_ready (rs := [12]) (by kernel_rfl) (by simp) ?_
            refine AllReadyH.cons (o := ?oi111) ?hi111 (fun K hK => ?rest111) AllReadyH.nil
            (case hi111 => (simp only [List.getElem?_toArray, List.getElem?_cons_succ, List.getElem?_cons_zero]; rfl))
            go_simp
            obtain ⟨wz112, hwy⟩ : ∃ W, W = (wz102.setCell ⟨wz80.heap.size, 0, none⟩ (.slice an' L cn)) := ⟨_, rfl⟩
            rw [← hwy]
            replace s0 : wz112.cell? ⟨X, 0, none⟩ = some (.slice au L cu) := by rw [hwy]; exact keepA_ (s0) (Or.inl (by omega))
            replace s1 : wz112.cell? ⟨bx, ox + k * 5, none⟩ = some (.int .i64 ak) := by rw [hwy]; exact keepA_ (s1) (Or.inl (by omega))
            replace s2 : wz112.cell? ⟨bx, ox + k * 5 + 1, none⟩ = some (.int .i64 ac) := by rw [hwy]; exact keepA_ (s2) (Or.inl (by omega))
            replace s3 : wz112.cell? ⟨bx, ox + k * 5 + 2, none⟩ = some (.int .i64 ao) := by rw [hwy]; exact keepA_ (s3) (Or.inl (by omega))
            replace s4 : wz112.cell? ⟨bx, ox + k * 5 + 3, none⟩ = some (.int .i64 an) := by rw [hwy]; exact keepA_ (s4) (Or.inl (by omega))
            replace s5 : wz112.cell? ⟨bx, ox + k * 5 + 4, none⟩ = some (.string ab) := by rw [hwy]; exact keepA_ (s5) (Or.inl (by omega))
            replace rc0 : wz112.cell? ⟨wy0.heap.size, 0, none⟩ = some (.int .i64 0) := by rw [hwy]; exact keepA_ (rc0) (Or.inl (by omega))
            replace rf0 : wz112.frozen? ⟨wy0.heap.size, 0, none⟩ = false := by rw [hwy]; simpa using rf0
            replace rc1 : wz112.cell? ⟨wy0.heap.size, 1, none⟩ = some (.bool false) := by rw [hwy]; exact keepA_ (rc1) (Or.inl (by omega))
            replace rf1 : wz112.frozen? ⟨wy0.heap.size, 1, none⟩ = false := by rw [hwy]; simpa using rf1
            replace HU : Hid (RowOk w (X + 1) (.slice a L cap) wz112 (.slice an' L cn) Z') := Lib.hid (by rw [hwy]; exact (rowOk_set (HV.out) HU.out nt (by decide) (by have := HWrr.out.size; omega)))
            have nd0 : wz112.cell? ⟨wz80.heap.size, 0, none⟩ = some (.slice an' L cn) := by rw [hwy]; exact World.cell?_setCell_same _ _ _ nc0
            replace rt : Tag wz112 wy0.heap.size 36 := by rw [hwy]; exact (tag_set rt _ _)
            replace nt : Tag wz112 wz80.heap.size 24 := by rw [hwy]; exact (tag_set nt _ _)
            replace nf0 : wz112.frozen? ⟨wz80.heap.size, 0, none⟩ = false := by rw [hwy]; simpa using nf0
            replace HW := Lib.hid (Below.setCell (p := ⟨wz80.heap.size, 0, none⟩) HW.out (by have := HWS.out; dsimp only; omega) (.slice an' L cn))
            rw [← hwy] at HW
            have hsz : wz112.heap.size = wz102.heap.size := by rw [hwy]; simp
            replace rz : wy0.heap.size < wz112.heap.size := by omega
            replace nz : wz80.heap.size < wz112.heap.size := by omega
            replace LO : _ ≤ wz112.heap.size := Nat.le_trans LO (Nat.le_of_eq hsz.symm)
            clear hsz hwy nc0
            have nc0 := nd0
            clear nd0
            refine hK.out _ _ ?_ (fun _ => ?_)
            · (try dsimp only); exact ⟨s0, s1, s2, s3, s4, s5⟩
            clear hK K
            (try simp only [Act.put, List.setIfInBounds_toArray, List.set_cons_zero, List.set_cons_succ])
            refine wpAnyH_ready (rs := [13]) (by kernel_rfl) (by simp) ?_
            refine AllReadyH.cons (o := ?oi113) ?hi113 (fun K hK => ?rest113) AllReadyH.nil
            (case hi113 => (simp only [List.getElem?_toArray, List.getElem?_cons_succ, List.getElem?_cons_zero]; rfl))
            go_simp
            obtain ⟨wz114, hwy⟩ : ∃ W, W = ((wz112.setCell ⟨wy0.heap.size, 0, none⟩ (.int .i64 rv)).setCell ⟨wy0.heap.size, 1, none⟩ (.bool rq)) := ⟨_, rfl⟩
            rw [← hwy]
            replace s0 : wz114.cell? ⟨X, 0, none⟩ = some (.slice au L cu) := by rw [hwy]; exact keepA_ (keepA_ (s0) (Or.inl (by omega))) (Or.inl (by omega))
            replace s1 : wz114.cell? ⟨bx, ox + k * 5, none⟩ = some (.int .i64 ak) := by rw [hwy]; exact keepA_ (keepA_ (s1) (Or.inl (by omega))) (Or.inl (by omega))
            replace s2 : wz114.cell? ⟨bx, ox + k * 5 + 1, none⟩ = some (.int .i64 ac) := by rw [hwy]; exact keepA_ (keepA_ (s2) (Or.inl (by omega))) (Or.inl (by omega))
            replace s3 : wz114.cell? ⟨bx, ox + k * 5 + 2, none⟩ = some (.int .i64 ao) := by rw [hwy]; exact keepA_ (keepA_ (s3) (Or.inl (by omega))) (Or.inl (by omega))
            replace s4 : wz114.cell? ⟨bx, ox + k * 5 + 3, none⟩ = some (.int .i64 an) := by rw [hwy]; exact keepA_ (keepA_ (s4) (Or.inl (by omega))) (Or.inl (by omega))
            replace s5 : wz114.cell? ⟨bx, ox + k * 5 + 4, none⟩ = some (.string ab) := by rw [hwy]; exact keepA_ (keepA_ (s5) (Or.inl (by omega))) (Or.inl (by omega))
            replace nc0 : wz114.cell? ⟨wz80.heap.size, 0, none⟩ = some (.slice an' L cn) := by rw [hwy]; exact keepA_ (keepA_ (nc0) (Or.inl (by omega))) (Or.inl (by omega))
            replace nf0 : wz114.frozen? ⟨wz80.heap.size, 0, none⟩ = false := by rw [hwy]; simpa using nf0
            replace HU : Hid (RowOk w (X + 1) (.slice a L cap) wz114 (.slice an' L cn) Z') := Lib.hid (by rw [hwy]; exact (rowOk_set (HV.out) (rowOk_set (HV.out) HU.out rt (by decide) (by have := HWrr.out.size; omega)) (tag_set rt _ _) (by decide) (by have := HWrr.out.size; omega)))
            have rd0 : wz114.cell? ⟨wy0.heap.size, 0, none⟩ = some (.int .i64 rv) := by rw [hwy]; exact keepA_ (World.cell?_setCell_same _ _ _ rc0) (Or.inr (by simp))
            have rd1 : wz114.cell? ⟨wy0.heap.size, 1, none⟩ = some (.bool rq) := by rw [hwy]; exact World.cell?_setCell_same _ _ _ (keepA_ rc1 (Or.inr (by simp)))
            replace rt : Tag wz114 wy0.heap.size 36 := by rw [hwy]; exact (tag_set (tag_set rt _ _) _ _)
            replace nt : Tag wz114 wz80.heap.size 24 := by rw [hwy]; exact (tag_set (tag_set nt _ _) _ _)
            replace rf0 : wz114.frozen? ⟨wy0.heap.size, 0, none⟩ = false := by rw [hwy]; simpa using rf0
            replace rf1 : wz114.frozen? ⟨wy0.heap.size, 1, none⟩ = false := by rw [hwy]; simpa using rf1
            replace HW := Lib.hid (Below.setCell (p := ⟨wy0.heap.size, 1, none⟩) (Below.setCell (p := ⟨wy0.heap.size, 0, none⟩) HW.out (by have := HWS.out; dsimp only; omega) (.int .i64 rv)) (by have := HWS.out; dsimp only; omega) (.bool rq))
            rw [← hwy] at HW
            have hsz : wz114.heap.size = wz112.heap.size := by rw [hwy]; simp
            replace rz : wy0.heap.size < wz114.heap.size := by omega
            replace nz : wz80.heap.size < wz114.heap.size := by omega
            replace LO : _ ≤ wz114.heap.size := Nat.le_trans LO (Nat.le_of_eq hsz.symm)
            clear hsz hwy rc0 rc1
            have rc0 := rd0
            clear rd0
            have rc1 := rd1
            clear rd1
            refine hK.out _ _ ?_ (fun _ => ?_)
            · (try dsimp only); exact ⟨s0, s1, s2, s3, s4, s5⟩
            clear hK K
            (try simp only [Act.put, List.setIfInBounds_toArray, List.set_cons_zero, List.set_cons_succ])
            have hHeld : (fun W => W.cell? ⟨X, 0, none⟩ = some (.slice au L cu) ∧ W.cell? ⟨bx, ox + k * 5, none⟩ = some (.int .i64 ak) ∧ W.cell? ⟨bx, ox + k * 5 + 1, none⟩ = some (.int .i64 ac) ∧ W.cell? ⟨bx, ox + k * 5 + 2, none⟩ = some (.int .i64 ao) ∧ W.cell? ⟨bx, ox + k * 5 + 3, none⟩ = some (.int .i64 an) ∧ W.cell? ⟨bx, ox + k * 5 + 4, none⟩ = some (.string ab)) wz114 := ⟨s0, s1, s2, s3, s4, s5⟩
            first | (refine wpAnyH_take (i := 14) (oi := ?oi115) (v := ?v115) ?hi115 (by kernel_rfl) (by kernel_rfl) (by kernel_rfl) ?hQ115 (Or.inl ⟨?hw115, ?hy115⟩) (by assumption) ?rest115; (case hi115 => (simp only [List.getElem?_toArray, List.getElem?_cons_succ, List.getElem?_cons_zero]; rfl)); (case hQ115 => exact fun _ _ _ h => h); (case hw115 => rfl); (case hy115 => ((intro w hSw); (try dsimp only at hSw); go_simp; (try with_reducible rfl)))) | (refine wpAnyH_take (i := 14) (oi := ?oi116) (v := undef) ?hi116 (by kernel_rfl) (by kernel_rfl) (by kernel_rfl) ?hQ116 (Or.inr ⟨?hw116, rfl⟩) (by assumption) ?rest116; (case hi116 => (simp only [List.getElem?_toArray, List.getElem?_cons_succ, List.getElem?_cons_zero]; rfl)); (case hQ116 => exact fun _ _ _ h => h); (case hw116 => rfl))
            (try simp only [Act.put, List.setIfInBounds_toArray, List.set_cons_zero, List.set_cons_succ])
            clear hHeld
            refine wpAnyH_done (by kernel_rfl) ?_ _
            go_wp2_with fail
            go_meet
            exact ⟨wz80.heap.size, wy0.heap.size, an', cn, rfl, rfl, rfl, nc0, rc0, rc1, HU.out, HW.out⟩
      case rest =>
        obtain ⟨gn, gr, an', cn, rfl, rfl, rfl, hn0, hr0, hr1, hrow2, hb2⟩ := hcut
        have HROW2 := Lib.hid hrow2
        have HB2 := Lib.hid hb2
        have q0 := cel_below hb2 p0
        have q1 := cel_below hb2 p1
        have qx := cel_below hb2 hxb
        have qf := fro_below hb2 hXs hxf
        have qg := fro_below hb2 (Nat.lt_trans hx1 hXs) g1
        have HT2 := Lib.hid (tag_below HTAG.out hb2)
        have HO2 := Lib.hid (owns_below HOR.out hb2)
        have hXw : X < wc.heap.size := lt_below hb2 hXs
        have hgn : gn < wc.heap.size := World.block_lt_of_cell? wc _ hn0
        have hgr : gr < wc.heap.size := World.block_lt_of_cell? wc _ hr0
        clear hrow2 hb2 hxb hxf p0 p1 g1
        by_cases he : re = 0
        · subst he
          have hck : chk L ak ac ao an ab = 0 := NRE.out.symm
          have hck2 : chk Z.length ak ac ao an ab = 0 := by rw [NL.out]; exact hck
          have HZ1 : Hid (stZ zs (l.take (k + 1)) = Z') := Lib.hid (by
            rw [take_acc (by rw [← HM.out]; exact hlt), stZ_snoc, ← HA.out, ← NZ.out, NZ'.out]
            unfold doZ; rw [if_pos hck2]; rfl)
          have HR1 : Hid (stR zs (l.take (k + 1)) = stR zs (l.take k) ++ [(rv, rq)]) := Lib.hid (by
            rw [take_acc (by rw [← HM.out]; exact hlt), stR_snoc, ← HA.out, ← NZ.out, NRV.out, NRQ.out]
            unfold doR doOk; rw [if_pos hck2, if_pos hck2]; rfl)
          have HE1 : Hid (errOf L (l.take (k + 1)) = 0) := Lib.hid (by
            rw [take_acc (by rw [← HM.out]; exact hlt), errOf_snoc, if_pos herr.out, ← HA.out]; exact hck)
          clear hck hck2 q0 q1 qg
          have hXg : gr ≠ X ∨ (0 : Nat) ≠ 0 := Or.inl (by
            intro hc; subst hc; rw [hr0] at qx; simp at qx)
          have s0 : (wc.setCell ⟨X, 0, none⟩ (.slice an' L cn)).cell? ⟨gr, 0, none⟩ = some (.int .i64 rv) := keepA_ hr0 (Or.inl (by intro hc; subst hc; rw [hr0] at qx; simp at qx))
          have s1 : (wc.setCell ⟨X, 0, none⟩ (.slice an' L cn)).cell? ⟨gr, 1, none⟩ = some (.bool rq) := keepA_ hr1 (Or.inr (by simp))
          have HS3 := Lib.hid (rowOk_set (b := X) (o := 0) (x := .slice an' L cn) HV.out HROW2.out HT2.out (by decide) (by have := HX.out; omega))
          have HT3 := Lib.hid (tag_set HT2.out ⟨X, 0, none⟩ (.slice an' L cn))
          have HO3 := Lib.hid (owns_setCell_other HO2.out (a := ⟨X, 0, none⟩) (by intro hq; have := (HO2.out.lt _ hq).1; simp at this; omega) (.slice an' L cn))
          have x3 : (wc.setCell ⟨X, 0, none⟩ (.slice an' L cn)).cell? ⟨X, 0, none⟩ = some (.slice an' L cn) := World.cell?_setCell_same _ _ _ qx
          have xf3 : (wc.setCell ⟨X, 0, none⟩ (.slice an' L cn)).frozen? ⟨X, 0, none⟩ = false := by simpa using qf
          have HB3 : Hid (Below X W0 (wc.setCell ⟨X, 0, none⟩ (.slice an' L cn))) := Lib.hid ((HBR.out.trans (HB2.out.mono (by omega))).setCell (Nat.le_refl _) _)
          clear hXg
          go_upto_region 10 with fail
          obtain ⟨w3, hw3⟩ : ∃ W, W = wc.setCell ⟨X, 0, none⟩ (.slice an' L cn) := ⟨_, rfl⟩
          have hs3 : w3.heap.size = wc.heap.size := by rw [hw3]; simp
          rw [← hw3] at s0 s1 HS3 HT3 HO3 x3 xf3 HB3 ⊢
          have hXw3 : X < w3.heap.size := by omega
          clear hw3 hn0 hr0 hr1 qx qf hs3
          go_wp2_with (first
            | (at_builtin; refine wpList_append_own _ rfl _ _ 27 rfl (X + 1) 36 i0 (.agg #[.int .i64 0, .bool false]) 2 16 Try.underlying27 hi hz0 hz1 hz2 rfl (by decide) _ _ _ rfl (World.ownsRow.alloc HO3.out _) ⟨w3.heap.size, 0, none⟩ 1 1 [.int .i64 rv, .bool rq] rfl rfl (fun j u hj => resQ_cell j u hj) (by intro u hu; simp at hu; rcases hu with rfl | rfl <;> rfl) (by unfold maxLen; omega) (by omega) (by simp; omega) ?_; intro v' w4 hown' hgrow' _))
          have hor4 : w4.ownsRow (X + 1) 36 2 v' (k + 1) (resCells (stR zs (l.take (k + 1)))) := by
            rw [HR1.out, resCells_append]; exact hown'
          have hn3 := below_new1 w3 (.cells #[.int .i64 rv, .bool rq] 36)
          have hrow4 : RowOk w (X + 1) (.slice a L cap) w4 (.slice an' L cn) (stZ zs (l.take (k + 1))) := by
            rw [HZ1.out]
            exact rowOk_grown HV.out (rowOk_keep HS3.out hn3) (HO3.out.alloc _) (by decide) (by have := HX.out; omega) hgrow'
          have hnX : ∀ j, Value.ownBlock u8 = some j → X + 1 ≤ j := fun j hj => (HO3.out.lt j hj).1
          have hx4 : w4.cell? ⟨X, 0, none⟩ = some (.slice an' L cn) := gb_cell hgrow' (cel_below hn3 x3) (fun j hj hc => by have := hnX j hj; omega)
          have ht4 : Tag w4 X 24 := tag_grown (tag_below HT3.out hn3) hgrow' (fun hc => by have := hnX X hc; omega)
          have hf4 : w4.frozen? ⟨X, 0, none⟩ = false := by
            rw [World.frozen?_of_block (hgrow'.block X (by simp; omega) (fun hc => by have := hnX X hc.symm; omega))]
            exact fro_below hn3 (by omega) xf3
          have hb4 : Below X W0 w4 := (HB3.out.alloc (by omega) _).grown hgrow' (by simp; omega) (fun j hj => by have := hnX j hj; omega)
          have hX4 : X < w4.heap.size := tag_lt ht4
          clear hown' hgrow' hn3 hnX
          go_roundw
          case rel => exact ⟨k + 1, an', cn, by omega, by go_num, hx4, hf4, hrow4, ht4, hor4, hb4, hX4, HE1⟩
          case measure => simp [intOf]; omega
        · have he' : (re != 0) = true := by simp [he]
          have HE : Hid (errOf L l = re) := Lib.hid (by
            rw [NRE.out]
            have h1 := errOf_at (size := L) (l := l) (k := k) (by rw [← HM.out]; exact hlt) herr.out (by rw [← HA.out]; show chk L ak ac ao an ab ≠ 0; rw [← NRE.out]; exact he)
            rw [h1, ← HA.out]; rfl)
          have HNE : Hid (re ≠ 0) := Lib.hid he
          clear he
          have HWc : Hid (Below w.heap.size w wc) := Lib.hid (HWr.out.trans (HB2.out.mono HWr.out.size))
          go_wp2_with fail
          refine bodyPost_ret (v := .tuple #[.agg #[.slice a L cap], .slice none 0 0, .int .i64 re]) (by simp [results, Try.results14, go_sem, q1]) rfl ?_
          unfold RAllP
          refine ⟨_, _, by rw [HE.out], ?_, ?_, ?_⟩
          · rw [HE.out, if_neg HNE.out, HL.out]
            rw [HL.out] at HV
            exact hasInts_setS (hasInts_keep HV.out HWc.out) q1
          · rw [HE.out, if_neg HNE.out]
            exact ⟨none, 0, rfl, by simp, Or.inl rfl⟩
          · exact HWc.out.setCell (by simp) _
    · obtain rfl : k = M := by omega
      have htk : l.take k = l := by rw [HM.out]; exact List.take_length
      rw [htk] at herr
      have HROWl := Lib.hid (rowOk_has HROW.out)
      have HORl := Lib.hid HOR.out
      rw [htk] at HROWl HORl
      go_wp2
      refine bodyPost_ret (v := .tuple #[.agg #[.slice au L cu], u8, .int .i64 0]) (by simp [results, Try.results14, go_sem, p1]) rfl ?_
      unfold RAllP
      refine ⟨_, _, by rw [herr.out], ?_, ?_, HWr.out.setCell (by simp) _⟩
      · rw [herr.out, if_pos rfl]
        exact hasInts_setS HROWl.out p1
      · rw [herr.out, if_pos rfl]
        refine hasRes_of_owns (B := X + 1) ?_
        rw [stR_length, ← HM.out]
        exact owns_setCell_other HORl.out (by intro hq; have := (HORl.out.lt _ hq).1; simp at this; omega) _

end Go.Proofs.Ytimjodpndhckdaa
