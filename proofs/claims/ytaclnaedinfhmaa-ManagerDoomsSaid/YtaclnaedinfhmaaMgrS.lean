
/-
  Layer 17: the layouts of the statements.
-/
import Derived.Test.YtaclnaedinfhmaaRows
import Derived.Test.YtaclnaedinfhmaaBase
import Derived.Test.YtaclnaedinfhmaaAux
import Derived.Test.YtaclnaedinfhmaaLayA
import Derived.Test.YtaclnaedinfhmaaLayB
import Derived.Test.YtaclnaedinfhmaaLayE
import Derived.Test.YtaclnaedinfhmaaLayH
import Derived.Test.YtaclnaedinfhmaaMemA
import Derived.Test.YtaclnaedinfhmaaMemB
import Derived.Test.YtaclnaedinfhmaaMemE
import Derived.Test.YtaclnaedinfhmaaMemF
import Derived.Test.YtaclnaedinfhmaaMemG
import Derived.Test.YtaclnaedinfhmaaTag
import Derived.Test.YtaclnaedinfhmaaStepD
import Derived.Test.YtaclnaedinfhmaaMgrA
import Derived.Test.YtaclnaedinfhmaaStepH
import Derived.WalkKit
import Derived.Lib.Hide
import Derived.Deep.MidRow
import Derived.Deep.Cut
import Derived.Deep.RegionHeld3
import Derived.IntWalk
namespace Go.Proofs.Ytaclnaedinfhmaa
set_option linter.unusedVariables false
set_option linter.unusedSimpArgs false
set_option maxRecDepth 100000
set_option maxHeartbeats 4000000
open Go.ChangeShapes Go.WideShapes Go.ChangeAt Go.RowKit

def lay3 (kind : Int) : Ly := ⟨⟨3, 0, 0, 0, kind⟩, 0, 1, 2, 3, 4, 16, 16, 16⟩
theorem lay3_ok (kind : Int) : (lay3 kind).ok := by unfold Ly.ok lay3; simp only; omega
theorem wp_st_lay {ops : Array Oper} {rest : List Oper} {op : Oper} {a : Act} {w : World} {Q : Exit → Act → World → Prop} (hw : Region.wanted op (yielded ops a.tmps) = true) (x y : Operand) (ho : op.op = .store 41 x y)
    (c c' : Array Value) (hx : a.eval x = .pointer (some ⟨w.heap.size, 0, none⟩)) (hy : a.eval y = .agg c') (hl : c'.size = 13) (hc : c.size = c'.size) (h1 : c'.all (·.oneCell') = true)
    (h : wpList Try.prog ops Q rest (a.put op.dst undef) (w.alloc (.cells c' 41))) : wpList Try.prog ops Q (op :: rest) a (w.alloc (.cells c 41)) :=
  wp_st_any hw _ x y ho c c' hx hy (by rw [hl]; kernel_rfl) hc h1 h
theorem wp_sm_any {P : Program} {ops : Array Oper} {rest : List Oper} {op : Oper} {a : Act} {w : World} {Q : Exit → Act → World → Prop} (hw : Region.wanted op (yielded ops a.tmps) = true) (ty : TypeId) (x y : Operand) (ho : op.op = .store ty x y)
    (b o : Nat) (cells : Array Value) (hx : a.eval x = .pointer (some ⟨b, o, none⟩)) (hy : a.eval y = .agg cells)
    (ht : w.there b o cells.size) (hi : (P.info? ty).map (·.size) = some cells.size) (h1 : cells.all (·.oneCell') = true)
    (h : wpList P ops Q rest (a.put op.dst undef) (w.setCells b o cells.toList)) : wpList P ops Q (op :: rest) a w :=
  wpList_step fun K hK => by rw [if_pos hw]; exact wp_store_mid ty x y ho b o cells hx hy ht hi h1 (hK _ _ h)
theorem wp_sm_lay {ops : Array Oper} {rest : List Oper} {op : Oper} {a : Act} {w : World} {Q : Exit → Act → World → Prop} (hw : Region.wanted op (yielded ops a.tmps) = true) (x y : Operand) (ho : op.op = .store 41 x y)
    (b : Nat) (cells : Array Value) (hx : a.eval x = .pointer (some ⟨b, 0, none⟩)) (hy : a.eval y = .agg cells) (hl : cells.size = 13)
    (ht : w.there b 0 13) (h1 : cells.all (·.oneCell') = true)
    (h : wpList Try.prog ops Q rest (a.put op.dst undef) (w.setCells b 0 cells.toList)) : wpList Try.prog ops Q (op :: rest) a w :=
  wp_sm_any hw _ x y ho b 0 cells hx hy (by rw [hl]; exact ht) (by rw [hl]; kernel_rfl) h1 h
theorem there_of {w : World} {b n : Nat} {l : List Value} (h : CellsAt w b l) (hl : l.length = n) (hf : ∀ o, w.frozen? ⟨b, o, none⟩ = false) : w.there b 0 n := fun j hj => by
  rw [Nat.zero_add]
  exact ⟨by rw [h j _ (List.getElem?_eq_getElem (by omega))]; rfl, hf j⟩
theorem below_sets {B b : Nat} {w : World} (hB : B ≤ b) : ∀ (vs : List Value) (o : Nat) (w' : World), Below B w w' → Below B w (w'.setCells b o vs)
  | [], _, _, h => h
  | v :: r, o, w', h => below_sets hB r (o + 1) _ (h.setCell (by dsimp only; omega) v)

theorem where17_any (kind : Int) (hk : 0 ≤ kind ∧ kind ≤ 3) (w : World) : Calls Try.prog 32 #[.int .i64 kind] w fun e w' => e = .returned (lay3 kind).v ∧ Below w.heap.size w w' := by
  have HO : Hid (∀ w, Calls Try.prog 43 #[.agg #[.int .i64 3, .int .i64 0, .int .i64 0, .int .i64 0, .int .i64 kind]] w fun e w' => e = .returned (.tuple #[.agg #[.int .i64 3, .int .i64 0, .int .i64 0, .int .i64 0, .int .i64 kind, .int .i64 0, .int .i64 1, .int .i64 2, .int .i64 3, .int .i64 4, .int .i64 16, .int .i64 16, .int .i64 16], .int .i64 0]) ∧ Below w.heap.size w w') := Lib.hid (fun w => of_t ⟨3, 0, 0, 0, kind⟩ w (by unfold Cf.ok; simp only; omega))
  clear hk
  unfold lay3 Ly.v
  have HC := Lib.hid (cellsAt_new' w #[.int .i64 0, .int .i64 0, .int .i64 0, .int .i64 0, .int .i64 0, .int .i64 0, .int .i64 0, .int .i64 0, .int .i64 0, .int .i64 0, .int .i64 0, .int .i64 0, .int .i64 0] 41 w.heap.size rfl)
  have HF : Hid (∀ o, (w.alloc (.cells #[.int .i64 0, .int .i64 0, .int .i64 0, .int .i64 0, .int .i64 0, .int .i64 0, .int .i64 0, .int .i64 0, .int .i64 0, .int .i64 0, .int .i64 0, .int .i64 0, .int .i64 0] 41)).frozen? ⟨w.heap.size, o, none⟩ = false) := Lib.hid (fun o => World.frozen?_alloc_at _ _ _ _ rfl)
  go_enter Try.func32, Try.ntmps32
  go_wp2_with fail
  ((with_reducible refine (HO.out _).mono ?_); rintro e w1 ⟨rfl, hb⟩)
  have hsz := hb.size
  simp at hsz
  have c0 := cellsAt_keep HC.out hb
  have f0 : ∀ o, w1.frozen? ⟨w.heap.size, o, none⟩ = false := fun o => fro_below hb (by simp) (HF.out o)
  have HB := Lib.hid (below_alloc1 hb)
  have hcn : ∀ W : World, CellsAt (W.alloc (.cells #[.int .i64 3, .int .i64 0, .int .i64 0, .int .i64 0, .int .i64 kind, .int .i64 0, .int .i64 1, .int .i64 2, .int .i64 3, .int .i64 4, .int .i64 16, .int .i64 16, .int .i64 16] 41)) W.heap.size [.int .i64 3, .int .i64 0, .int .i64 0, .int .i64 0, .int .i64 kind, .int .i64 0, .int .i64 1, .int .i64 2, .int .i64 3, .int .i64 4, .int .i64 16, .int .i64 16, .int .i64 16] := fun W => cellsAt_new W _ _
  have HT : ∀ o : Obj, (w1.alloc o).there w.heap.size 0 13 := fun o => there_of (cellsAt_alloc c0 o) rfl (fun i => frozen_alloc _ (by omega) (f0 i))
  clear hb
  go_wp2_with (first
    | ((with_reducible refine wp_st_lay ?hwa ?xa ?ya ?hoa _ #[.int .i64 3, .int .i64 0, .int .i64 0, .int .i64 0, .int .i64 kind, .int .i64 0, .int .i64 1, .int .i64 2, .int .i64 3, .int .i64 4, .int .i64 16, .int .i64 16, .int .i64 16] ?hxa ?hya ?hla ?hca ?h1a ?hha); (case hoa => exact rfl); (case hxa => exact rfl); (case hya => exact rfl); (case hwa => exact rfl); (case hla => exact rfl); (case hca => exact rfl); (case h1a => exact all_oneCell_toArray (by simp [Value.oneCell'])))
    | ((with_reducible refine wp_ld_lay ?hwb ?xb ?hob (w1.heap.size) 0 ?hxb [.int .i64 3, .int .i64 0, .int .i64 0, .int .i64 0, .int .i64 kind, .int .i64 0, .int .i64 1, .int .i64 2, .int .i64 3, .int .i64 4, .int .i64 16, .int .i64 16, .int .i64 16] rfl (rangeAt_of (hcn _)) ?hhb); (case hob => exact rfl); (case hxb => exact rfl); (case hwb => exact rfl))
    | ((with_reducible refine wp_sm_lay ?hwc ?xc ?yc ?hoc w.heap.size #[.int .i64 3, .int .i64 0, .int .i64 0, .int .i64 0, .int .i64 kind, .int .i64 0, .int .i64 1, .int .i64 2, .int .i64 3, .int .i64 4, .int .i64 16, .int .i64 16, .int .i64 16] ?hxc ?hyc ?hlc (HT _) ?h1c ?hhc); (case hoc => exact rfl); (case hxc => exact rfl); (case hyc => exact rfl); (case hwc => exact rfl); (case hlc => exact rfl); (case h1c => exact all_oneCell_toArray (by simp [Value.oneCell']))))
  obtain ⟨W, hW⟩ : ∃ W, W = (w1.alloc (.cells #[.int .i64 3, .int .i64 0, .int .i64 0, .int .i64 0, .int .i64 kind, .int .i64 0, .int .i64 1, .int .i64 2, .int .i64 3, .int .i64 4, .int .i64 16, .int .i64 16, .int .i64 16] 41)).setCells w.heap.size 0 [.int .i64 3, .int .i64 0, .int .i64 0, .int .i64 0, .int .i64 kind, .int .i64 0, .int .i64 1, .int .i64 2, .int .i64 3, .int .i64 4, .int .i64 16, .int .i64 16, .int .i64 16] := ⟨_, rfl⟩
  have hr : W.rangeAt w.heap.size 0 [.int .i64 3, .int .i64 0, .int .i64 0, .int .i64 0, .int .i64 kind, .int .i64 0, .int .i64 1, .int .i64 2, .int .i64 3, .int .i64 4, .int .i64 16, .int .i64 16, .int .i64 16] := by rw [hW]; exact World.rangeAt_setCells_same _ _ _ _ (HT _)
  have k0 : W.cell? ⟨w.heap.size, 0, none⟩ = some (.int .i64 3) := hr 0 _ rfl
  have k1 : W.cell? ⟨w.heap.size, 1, none⟩ = some (.int .i64 0) := hr 1 _ rfl
  have k2 : W.cell? ⟨w.heap.size, 2, none⟩ = some (.int .i64 0) := hr 2 _ rfl
  have k3 : W.cell? ⟨w.heap.size, 3, none⟩ = some (.int .i64 0) := hr 3 _ rfl
  have k4 : W.cell? ⟨w.heap.size, 4, none⟩ = some (.int .i64 kind) := hr 4 _ rfl
  have k5 : W.cell? ⟨w.heap.size, 5, none⟩ = some (.int .i64 0) := hr 5 _ rfl
  have k6 : W.cell? ⟨w.heap.size, 6, none⟩ = some (.int .i64 1) := hr 6 _ rfl
  have k7 : W.cell? ⟨w.heap.size, 7, none⟩ = some (.int .i64 2) := hr 7 _ rfl
  have k8 : W.cell? ⟨w.heap.size, 8, none⟩ = some (.int .i64 3) := hr 8 _ rfl
  have k9 : W.cell? ⟨w.heap.size, 9, none⟩ = some (.int .i64 4) := hr 9 _ rfl
  have k10 : W.cell? ⟨w.heap.size, 10, none⟩ = some (.int .i64 16) := hr 10 _ rfl
  have k11 : W.cell? ⟨w.heap.size, 11, none⟩ = some (.int .i64 16) := hr 11 _ rfl
  have k12 : W.cell? ⟨w.heap.size, 12, none⟩ = some (.int .i64 16) := hr 12 _ rfl
  rw [← hW]
  simp [bodyPost, results, Try.results32, go_sem, k0, k1, k2, k3, k4, k5, k6, k7, k8, k9, k10, k11, k12]
  rw [hW]
  exact below_sets (Nat.le_refl _) _ _ _ (HB.out.alloc (by omega) _)

/-- The cells of the block b may be written. -/
def Fz (w : World) (b : Nat) : Prop := b < w.heap.size ∧ ∀ o, w.frozen? ⟨b, o, none⟩ = false
theorem fz_keep {w w' : World} {b : Nat} (h : Fz w b) (hb : Below w.heap.size w w') : Fz w' b := ⟨lt_below hb h.1, fun o => fro_below hb h.1 (h.2 o)⟩
theorem fz_set {w : World} {b : Nat} (h : Fz w b) (p : Addr) (u : Value) : Fz (w.setCell p u) b := ⟨by simpa using h.1, fun o => (World.frozen?_setCell _ _ _ _).trans (h.2 o)⟩
def laidZ (n : Nat) (s : Int) (m : Ct) : List Int := (((List.replicate 16 (0 : Int)).set (4 + 4 * n) s).set (5 + 4 * n) m.s).set (7 + 4 * n) m.k
def laidL (n : Nat) (s : Int) (m : Ct) : List AccD := [⟨2, ((4 + 4 * n : Nat) : Int), 0, s, ByteArray.empty⟩, ⟨2, ((5 + 4 * n : Nat) : Int), 0, m.s, ByteArray.empty⟩, ⟨2, ((7 + 4 * n : Nat) : Int), 0, m.k, ByteArray.empty⟩]
theorem laid_err (n : Nat) (hn : n < 3) (s : Int) (m : Ct) : errOf 16 (laidL n s m) = 0 := by
  have h1 := chk_set 16 ((4 + 4 * n : Nat) : Int) s (by omega)
  have h2 := chk_set 16 ((5 + 4 * n : Nat) : Int) m.s (by omega)
  have h3 := chk_set 16 ((7 + 4 * n : Nat) : Int) m.k (by omega)
  show (if AccD.chk (setAcc _ _) 16 = 0 then (if AccD.chk (setAcc _ _) 16 = 0 then (if AccD.chk (setAcc _ _) 16 = 0 then (0 : Int) else _) else _) else _) = 0
  rw [if_pos h1, if_pos h2, if_pos h3]
theorem laid_st (n : Nat) (s : Int) (m : Ct) : stZ (List.replicate 16 (0 : Int)) (laidL n s m) = laidZ n s m := rfl
theorem hasAccs_15 {w : World} {b : Nat} {a0 a1 a2 : AccD} (h0 : w.cell? ⟨b, 0, none⟩ = some (.int .i64 a0.k)) (h1 : w.cell? ⟨b, 1, none⟩ = some (.int .i64 a0.c)) (h2 : w.cell? ⟨b, 2, none⟩ = some (.int .i64 a0.o)) (h3 : w.cell? ⟨b, 3, none⟩ = some (.int .i64 a0.n)) (h4 : w.cell? ⟨b, 4, none⟩ = some (.string a0.b)) (h5 : w.cell? ⟨b, 5, none⟩ = some (.int .i64 a1.k)) (h6 : w.cell? ⟨b, 6, none⟩ = some (.int .i64 a1.c)) (h7 : w.cell? ⟨b, 7, none⟩ = some (.int .i64 a1.o)) (h8 : w.cell? ⟨b, 8, none⟩ = some (.int .i64 a1.n)) (h9 : w.cell? ⟨b, 9, none⟩ = some (.string a1.b)) (h10 : w.cell? ⟨b, 10, none⟩ = some (.int .i64 a2.k)) (h11 : w.cell? ⟨b, 11, none⟩ = some (.int .i64 a2.c)) (h12 : w.cell? ⟨b, 12, none⟩ = some (.int .i64 a2.o)) (h13 : w.cell? ⟨b, 13, none⟩ = some (.int .i64 a2.n)) (h14 : w.cell? ⟨b, 14, none⟩ = some (.string a2.b)) : HasAccs w (.slice (some ⟨b, 0, none⟩) 3 3) [a0, a1, a2] := by
  refine ⟨_, 3, rfl, by simp, Or.inr ⟨b, 0, rfl, fun j hj => ?_⟩⟩
  match j, hj with
  | 0, _ => exact ⟨h0, h1, h2, h3, h4⟩
  | 1, _ => exact ⟨h5, h6, h7, h8, h9⟩
  | 2, _ => exact ⟨h10, h11, h12, h13, h14⟩

theorem laid17_any (kind s : Int) (n : Nat) (hn : n < 3) (m : Ct) (w : World) : Calls Try.prog 36 #[.agg #[.int .i64 3, .int .i64 0, .int .i64 0, .int .i64 0, .int .i64 kind, .int .i64 0, .int .i64 1, .int .i64 2, .int .i64 3, .int .i64 4, .int .i64 16, .int .i64 16, .int .i64 16], .int .i64 (n : Nat), .int .i64 s, m.v] w fun e w' => ∃ a c, e = .returned (.agg #[.slice a 16 c]) ∧ HasInts w' (.slice a 16 c) (laidZ n s m) ∧ Below w.heap.size w w' := by
  obtain ⟨p0, hp0⟩ : ∃ x : Int, x = ((4 + 4 * n : Nat) : Int) := ⟨_, rfl⟩
  obtain ⟨p1, hp1⟩ : ∃ x : Int, x = ((5 + 4 * n : Nat) : Int) := ⟨_, rfl⟩
  obtain ⟨p2, hp2⟩ : ∃ x : Int, x = ((7 + 4 * n : Nat) : Int) := ⟨_, rfl⟩
  have HS : Hid (∀ w, Calls Try.prog 38 #[.agg #[.int .i64 3, .int .i64 0, .int .i64 0, .int .i64 0, .int .i64 kind, .int .i64 0, .int .i64 1, .int .i64 2, .int .i64 3, .int .i64 4, .int .i64 16, .int .i64 16, .int .i64 16], .int .i64 (n : Nat)] w fun e w' => e = .returned (.int .i64 p0) ∧ Below w.heap.size w w') := Lib.hid (fun w => by
    rw [hp0]
    have := status_any (lay3 kind) (n : Nat) w (lay3_ok kind)
    rwa [show atStatus (lay3 kind) (n : Nat) = ((4 + 4 * n : Nat) : Int) by unfold atStatus cellN lay3; simp only; rw [if_neg (by omega)]; omega] at this)
  have HT : Hid (∀ w, Calls Try.prog 64 #[.agg #[.int .i64 3, .int .i64 0, .int .i64 0, .int .i64 0, .int .i64 kind, .int .i64 0, .int .i64 1, .int .i64 2, .int .i64 3, .int .i64 4, .int .i64 16, .int .i64 16, .int .i64 16], .int .i64 (n : Nat)] w fun e w' => e = .returned (.int .i64 p1) ∧ Below w.heap.size w w') := Lib.hid (fun w => by
    rw [hp1]
    have := stamp_any (lay3 kind) (n : Nat) w (lay3_ok kind)
    rwa [show atStamp (lay3 kind) (n : Nat) = ((5 + 4 * n : Nat) : Int) by unfold atStamp cellN lay3; simp only; rw [if_neg (by omega)]; omega] at this)
  have HK : Hid (∀ w, Calls Try.prog 65 #[.agg #[.int .i64 3, .int .i64 0, .int .i64 0, .int .i64 0, .int .i64 kind, .int .i64 0, .int .i64 1, .int .i64 2, .int .i64 3, .int .i64 4, .int .i64 16, .int .i64 16, .int .i64 16], .int .i64 (n : Nat)] w fun e w' => e = .returned (.int .i64 p2) ∧ Below w.heap.size w w') := Lib.hid (fun w => by
    rw [hp2]
    have := karma_any (lay3 kind) (n : Nat) w (lay3_ok kind)
    rwa [show atKarma (lay3 kind) (n : Nat) = ((7 + 4 * n : Nat) : Int) by unfold atKarma cellN lay3; simp only; rw [if_neg (by omega)]; omega] at this)
  have HN : Hid (∀ w, Calls Try.prog 51 #[.int .i64 16] w fun e w' => ∃ g, e = .returned (.agg #[.slice (some ⟨g, 0, none⟩) 16 16]) ∧ HasInts w' (.slice (some ⟨g, 0, none⟩) 16 16) (List.replicate 16 0) ∧ w.heap.size ≤ g ∧ Below w.heap.size w w') := Lib.hid (fun w => rnew_any 16 w (by decide))
  have HA : Hid (∀ w v x, HasInts w v (List.replicate 16 0) → HasAccs w x [⟨2, p0, 0, s, ⟨#[]⟩⟩, ⟨2, p1, 0, m.s, ⟨#[]⟩⟩, ⟨2, p2, 0, m.k, ⟨#[]⟩⟩] → Calls Try.prog 27 #[.agg #[v], x] w fun e w' => ∃ a c r, e = .returned (.tuple #[.agg #[.slice a 16 c], r, .int .i64 0]) ∧ HasInts w' (.slice a 16 c) (laidZ n s m) ∧ Below w.heap.size w w') := Lib.hid (fun w v x hv hx => by
    rw [show ([⟨2, p0, 0, s, ⟨#[]⟩⟩, ⟨2, p1, 0, m.s, ⟨#[]⟩⟩, ⟨2, p2, 0, m.k, ⟨#[]⟩⟩] : List AccD) = laidL n s m by rw [hp0, hp1, hp2]; rfl] at hx
    refine (all_any v x (List.replicate 16 0) (laidL n s m) w hv hx (by decide) (by simp [laidL])).mono ?_
    rintro e w' ⟨u, r, rfl, hu, hr, hb⟩
    have he : errOf (List.replicate 16 (0 : Int)).length (laidL n s m) = 0 := laid_err n hn s m
    rw [show allZ (List.replicate 16 0) (laidL n s m) = laidZ n s m by unfold allZ; rw [if_pos he, laid_st]] at hu
    rw [he]
    have hu2 := hu
    obtain ⟨a, c, rfl, _⟩ := hu2
    have hl : (laidZ n s m).length = 16 := by simp [laidZ]
    rw [hl] at hu ⊢
    exact ⟨a, c, r, rfl, hu, hb⟩)
  clear hn hp0 hp1 hp2
  unfold Ct.v
  go_enter Try.func36, Try.ntmps36
  go_upto_region 1 with fail
  obtain ⟨w0, hw0⟩ : ∃ W, W = ((w.alloc (.cells #[.int .i64 3, .int .i64 0, .int .i64 0, .int .i64 0, .int .i64 kind, .int .i64 0, .int .i64 1, .int .i64 2, .int .i64 3, .int .i64 4, .int .i64 16, .int .i64 16, .int .i64 16] 41)).alloc (.cells #[.int .i64 m.s, .int .i64 m.k, .int .i64 m.a] 23)).alloc (.cells #[.slice none 0 0] 55) := ⟨_, rfl⟩
  rw [← hw0]
  have hb : Below w.heap.size w w0 := by rw [hw0]; exact below_alloc2 (below_alloc1 (Below.refl _ _))
  have hs0 : w0.heap.size = w.heap.size + 1 + 1 + 1 := by rw [hw0]; simp
  have lq0 : w0.cell? ⟨w.heap.size, 0, none⟩ = some (.int .i64 3) := by rw [hw0]; exact cell_alloc _ (cell_alloc _ (by rw [World.cell?_alloc_at _ _ _ _ rfl]; rfl))
  have lq1 : w0.cell? ⟨w.heap.size, 1, none⟩ = some (.int .i64 0) := by rw [hw0]; exact cell_alloc _ (cell_alloc _ (by rw [World.cell?_alloc_at _ _ _ _ rfl]; rfl))
  have lq2 : w0.cell? ⟨w.heap.size, 2, none⟩ = some (.int .i64 0) := by rw [hw0]; exact cell_alloc _ (cell_alloc _ (by rw [World.cell?_alloc_at _ _ _ _ rfl]; rfl))
  have lq3 : w0.cell? ⟨w.heap.size, 3, none⟩ = some (.int .i64 0) := by rw [hw0]; exact cell_alloc _ (cell_alloc _ (by rw [World.cell?_alloc_at _ _ _ _ rfl]; rfl))
  have lq4 : w0.cell? ⟨w.heap.size, 4, none⟩ = some (.int .i64 kind) := by rw [hw0]; exact cell_alloc _ (cell_alloc _ (by rw [World.cell?_alloc_at _ _ _ _ rfl]; rfl))
  have lq5 : w0.cell? ⟨w.heap.size, 5, none⟩ = some (.int .i64 0) := by rw [hw0]; exact cell_alloc _ (cell_alloc _ (by rw [World.cell?_alloc_at _ _ _ _ rfl]; rfl))
  have lq6 : w0.cell? ⟨w.heap.size, 6, none⟩ = some (.int .i64 1) := by rw [hw0]; exact cell_alloc _ (cell_alloc _ (by rw [World.cell?_alloc_at _ _ _ _ rfl]; rfl))
  have lq7 : w0.cell? ⟨w.heap.size, 7, none⟩ = some (.int .i64 2) := by rw [hw0]; exact cell_alloc _ (cell_alloc _ (by rw [World.cell?_alloc_at _ _ _ _ rfl]; rfl))
  have lq8 : w0.cell? ⟨w.heap.size, 8, none⟩ = some (.int .i64 3) := by rw [hw0]; exact cell_alloc _ (cell_alloc _ (by rw [World.cell?_alloc_at _ _ _ _ rfl]; rfl))
  have lq9 : w0.cell? ⟨w.heap.size, 9, none⟩ = some (.int .i64 4) := by rw [hw0]; exact cell_alloc _ (cell_alloc _ (by rw [World.cell?_alloc_at _ _ _ _ rfl]; rfl))
  have lq10 : w0.cell? ⟨w.heap.size, 10, none⟩ = some (.int .i64 16) := by rw [hw0]; exact cell_alloc _ (cell_alloc _ (by rw [World.cell?_alloc_at _ _ _ _ rfl]; rfl))
  have lq11 : w0.cell? ⟨w.heap.size, 11, none⟩ = some (.int .i64 16) := by rw [hw0]; exact cell_alloc _ (cell_alloc _ (by rw [World.cell?_alloc_at _ _ _ _ rfl]; rfl))
  have lq12 : w0.cell? ⟨w.heap.size, 12, none⟩ = some (.int .i64 16) := by rw [hw0]; exact cell_alloc _ (cell_alloc _ (by rw [World.cell?_alloc_at _ _ _ _ rfl]; rfl))
  have mq0 : w0.cell? ⟨w.heap.size + 1, 0, none⟩ = some (.int .i64 m.s) := by rw [hw0]; exact cell_alloc _ (by rw [World.cell?_alloc_at _ _ _ _ (by simp)]; rfl)
  have mq1 : w0.cell? ⟨w.heap.size + 1, 1, none⟩ = some (.int .i64 m.k) := by rw [hw0]; exact cell_alloc _ (by rw [World.cell?_alloc_at _ _ _ _ (by simp)]; rfl)
  have mq2 : w0.cell? ⟨w.heap.size + 1, 2, none⟩ = some (.int .i64 m.a) := by rw [hw0]; exact cell_alloc _ (by rw [World.cell?_alloc_at _ _ _ _ (by simp)]; rfl)
  have rq0 : w0.cell? ⟨w.heap.size + 1 + 1, 0, none⟩ = some (.slice none 0 0) := by rw [hw0]; rw [World.cell?_alloc_at _ _ _ _ (by simp)]; rfl
  have HF := Lib.hid (show Fz w0 (w.heap.size + 1 + 1) from ⟨by omega, fun o => by rw [hw0]; exact World.frozen?_alloc_at _ _ _ _ (by simp)⟩)
  have HB0 := Lib.hid hb
  have hlo : w.heap.size + 1 + 1 < w0.heap.size := by omega
  have HLO := Lib.hid hlo
  clear hw0 hs0 hb
  have HW := Lib.hid (Below.refl w0.heap.size w0)
  have HWS := Lib.hid (Nat.le_refl w0.heap.size)
  refine wp_region_held_drew (S := fun W => W.cell? ⟨w.heap.size, 0, none⟩ = some (.int .i64 3) ∧ W.cell? ⟨w.heap.size, 1, none⟩ = some (.int .i64 0) ∧ W.cell? ⟨w.heap.size, 2, none⟩ = some (.int .i64 0) ∧ W.cell? ⟨w.heap.size, 3, none⟩ = some (.int .i64 0) ∧ W.cell? ⟨w.heap.size, 4, none⟩ = some (.int .i64 kind) ∧ W.cell? ⟨w.heap.size, 5, none⟩ = some (.int .i64 0) ∧ W.cell? ⟨w.heap.size, 6, none⟩ = some (.int .i64 1) ∧ W.cell? ⟨w.heap.size, 7, none⟩ = some (.int .i64 2) ∧ W.cell? ⟨w.heap.size, 8, none⟩ = some (.int .i64 3) ∧ W.cell? ⟨w.heap.size, 9, none⟩ = some (.int .i64 4) ∧ W.cell? ⟨w.heap.size, 10, none⟩ = some (.int .i64 16) ∧ W.cell? ⟨w.heap.size, 11, none⟩ = some (.int .i64 16) ∧ W.cell? ⟨w.heap.size, 12, none⟩ = some (.int .i64 16) ∧ W.cell? ⟨w.heap.size + 1, 0, none⟩ = some (.int .i64 m.s) ∧ W.cell? ⟨w.heap.size + 1, 1, none⟩ = some (.int .i64 m.k) ∧ W.cell? ⟨w.heap.size + 1, 2, none⟩ = some (.int .i64 m.a) ∧ W.cell? ⟨w.heap.size + 1 + 1, 0, none⟩ = some (.slice none 0 0)) (by kernel_rfl) ?_ (fun hHeld => ?_)
  · (try dsimp only); exact ⟨by first | assumption | go_simp, by first | assumption | go_simp, by first | assumption | go_simp, by first | assumption | go_simp, by first | assumption | go_simp, by first | assumption | go_simp, by first | assumption | go_simp, by first | assumption | go_simp, by first | assumption | go_simp, by first | assumption | go_simp, by first | assumption | go_simp, by first | assumption | go_simp, by first | assumption | go_simp, by first | assumption | go_simp, by first | assumption | go_simp, by first | assumption | go_simp, by first | assumption | go_simp⟩
  replace HW := Lib.hid (show Below _ _ (World.drew w0) from below_drews HW.out 1)
  obtain ⟨wy0, hwy⟩ : ∃ W, W = World.drew w0 := ⟨_, rfl⟩
  rw [← hwy] at HW ⊢
  have hHeld2 := hHeld
  rw [← hwy] at hHeld2
  clear hHeld
  have LO : w0.heap.size ≤ wy0.heap.size := by rw [hwy]; exact Nat.le_refl _
  have hb : Below w0.heap.size w0 wy0 := by rw [hwy]; exact below_drews (Below.refl _ _) 1
  replace HF := Lib.hid (fz_keep HF.out hb)
  clear hb hwy
  obtain ⟨s0, s1, s2, s3, s4, s5, s6, s7, s8, s9, s10, s11, s12, s13, s14, s15, s16⟩ := hHeld2
  have hHeld := And.intro s0 (And.intro s1 (And.intro s2 (And.intro s3 (And.intro s4 (And.intro s5 (And.intro s6 (And.intro s7 (And.intro s8 (And.intro s9 (And.intro s10 (And.intro s11 (And.intro s12 (And.intro s13 (And.intro s14 (And.intro s15 (s16))))))))))))))))
  refine wpAnyH_take (i := 0) (oi := ?oi1) (v := ?v1) ?hi1 (by kernel_rfl) (by kernel_rfl) (by kernel_rfl) ?hQ1 (Or.inl ⟨?hw1, ?hy1⟩) (by assumption) ?rest1; (case hi1 => (simp only [List.getElem?_toArray, List.getElem?_cons_zero]; rfl)); (case hQ1 => exact fun _ _ _ h => h); (case hw1 => rfl); (case hy1 => ((intro w hSw); (try dsimp only at hSw); go_simp; (try with_reducible rfl)))
  (try simp only [Act.put, List.setIfInBounds_toArray, List.set_cons_zero, List.set_cons_succ])
  refine wpAnyH_take (i := 5) (oi := ?oi3) (v := ?v3) ?hi3 (by kernel_rfl) (by kernel_rfl) (by kernel_rfl) ?hQ3 (Or.inl ⟨?hw3, ?hy3⟩) (by assumption) ?rest3; (case hi3 => (simp only [List.getElem?_toArray, List.getElem?_cons_succ, List.getElem?_cons_zero]; rfl)); (case hQ3 => exact fun _ _ _ h => h); (case hw3 => rfl); (case hy3 => ((intro w hSw); (try dsimp only at hSw); go_simp; (try with_reducible rfl)))
  (try simp only [Act.put, List.setIfInBounds_toArray, List.set_cons_zero, List.set_cons_succ])
  refine wpAnyH_take (i := 6) (oi := ?oi5) (v := ?v5) ?hi5 (by kernel_rfl) (by kernel_rfl) (by kernel_rfl) ?hQ5 (Or.inl ⟨?hw5, ?hy5⟩) (by assumption) ?rest5; (case hi5 => (simp only [List.getElem?_toArray, List.getElem?_cons_succ, List.getElem?_cons_zero]; rfl)); (case hQ5 => exact fun _ _ _ h => h); (case hw5 => rfl); (case hy5 => ((intro w hSw); (try dsimp only at hSw); go_simp; (try with_reducible rfl)))
  (try simp only [Act.put, List.setIfInBounds_toArray, List.set_cons_zero, List.set_cons_succ])
  refine wpAnyH_take (i := 8) (oi := ?oi7) (v := ?v7) ?hi7 (by kernel_rfl) (by kernel_rfl) (by kernel_rfl) ?hQ7 (Or.inl ⟨?hw7, ?hy7⟩) (by assumption) ?rest7; (case hi7 => (simp only [List.getElem?_toArray, List.getElem?_cons_succ, List.getElem?_cons_zero]; rfl)); (case hQ7 => exact fun _ _ _ h => h); (case hw7 => rfl); (case hy7 => ((intro w hSw); (try dsimp only at hSw); go_simp; (try with_reducible rfl)))
  (try simp only [Act.put, List.setIfInBounds_toArray, List.set_cons_zero, List.set_cons_succ])
  refine wpAnyH_take (i := 10) (oi := ?oi9) (v := ?v9) ?hi9 (by kernel_rfl) (by kernel_rfl) (by kernel_rfl) ?hQ9 (Or.inl ⟨?hw9, ?hy9⟩) (by assumption) ?rest9; (case hi9 => (simp only [List.getElem?_toArray, List.getElem?_cons_succ, List.getElem?_cons_zero]; rfl)); (case hQ9 => exact fun _ _ _ h => h); (case hw9 => rfl); (case hy9 => ((intro w hSw); (try dsimp only at hSw); go_simp; (try with_reducible rfl)))
  (try simp only [Act.put, List.setIfInBounds_toArray, List.set_cons_zero, List.set_cons_succ])
  refine wpAnyH_take (i := 11) (oi := ?oi11) (v := ?v11) ?hi11 (by kernel_rfl) (by kernel_rfl) (by kernel_rfl) ?hQ11 (Or.inl ⟨?hw11, ?hy11⟩) (by assumption) ?rest11; (case hi11 => (simp only [List.getElem?_toArray, List.getElem?_cons_succ, List.getElem?_cons_zero]; rfl)); (case hQ11 => exact fun _ _ _ h => h); (case hw11 => rfl); (case hy11 => ((intro w hSw); (try dsimp only at hSw); go_simp; (try with_reducible rfl)))
  (try simp only [Act.put, List.setIfInBounds_toArray, List.set_cons_zero, List.set_cons_succ])
  refine wpAnyH_take (i := 13) (oi := ?oi13) (v := ?v13) ?hi13 (by kernel_rfl) (by kernel_rfl) (by kernel_rfl) ?hQ13 (Or.inl ⟨?hw13, ?hy13⟩) (by assumption) ?rest13; (case hi13 => (simp only [List.getElem?_toArray, List.getElem?_cons_succ, List.getElem?_cons_zero]; rfl)); (case hQ13 => exact fun _ _ _ h => h); (case hw13 => rfl); (case hy13 => ((intro w hSw); (try dsimp only at hSw); go_simp; (try with_reducible rfl)))
  (try simp only [Act.put, List.setIfInBounds_toArray, List.set_cons_zero, List.set_cons_succ])
  refine wpAnyH_take (i := 16) (oi := ?oi15) (v := ?v15) ?hi15 (by kernel_rfl) (by kernel_rfl) (by kernel_rfl) ?hQ15 (Or.inl ⟨?hw15, ?hy15⟩) (by assumption) ?rest15; (case hi15 => (simp only [List.getElem?_toArray, List.getElem?_cons_succ, List.getElem?_cons_zero]; rfl)); (case hQ15 => exact fun _ _ _ h => h); (case hw15 => rfl); (case hy15 => ((intro w hSw); (try dsimp only at hSw); go_simp; (try with_reducible rfl)))
  (try simp only [Act.put, List.setIfInBounds_toArray, List.set_cons_zero, List.set_cons_succ])
  refine wpAnyH_take (i := 17) (oi := ?oi17) (v := ?v17) ?hi17 (by kernel_rfl) (by kernel_rfl) (by kernel_rfl) ?hQ17 (Or.inl ⟨?hw17, ?hy17⟩) (by assumption) ?rest17; (case hi17 => (simp only [List.getElem?_toArray, List.getElem?_cons_succ, List.getElem?_cons_zero]; rfl)); (case hQ17 => exact fun _ _ _ h => h); (case hw17 => rfl); (case hy17 => ((intro w hSw); (try dsimp only at hSw); go_simp; (try with_reducible rfl)))
  (try simp only [Act.put, List.setIfInBounds_toArray, List.set_cons_zero, List.set_cons_succ])
  refine wpAnyH_take (i := 19) (oi := ?oi19) (v := ?v19) ?hi19 (by kernel_rfl) (by kernel_rfl) (by kernel_rfl) ?hQ19 (Or.inl ⟨?hw19, ?hy19⟩) (by assumption) ?rest19; (case hi19 => (simp only [List.getElem?_toArray, List.getElem?_cons_succ, List.getElem?_cons_zero]; rfl)); (case hQ19 => exact fun _ _ _ h => h); (case hw19 => rfl); (case hy19 => ((intro w hSw); (try dsimp only at hSw); go_simp; (try with_reducible rfl)))
  (try simp only [Act.put, List.setIfInBounds_toArray, List.set_cons_zero, List.set_cons_succ])
  refine wpAnyH_take (i := 1) (oi := ?oi21) (v := ?v21) ?hi21 (by kernel_rfl) (by kernel_rfl) (by kernel_rfl) ?hQ21 (Or.inl ⟨?hw21, ?hy21⟩) (by assumption) ?rest21; (case hi21 => (simp only [List.getElem?_toArray, List.getElem?_cons_succ, List.getElem?_cons_zero]; rfl)); (case hQ21 => exact fun _ _ _ h => h); (case hw21 => rfl); (case hy21 => ((intro w hSw); (try dsimp only at hSw); go_simp; (try with_reducible rfl)))
  (try simp only [Act.put, List.setIfInBounds_toArray, List.set_cons_zero, List.set_cons_succ])
  refine wpAnyH_take (i := 14) (oi := ?oi23) (v := ?v23) ?hi23 (by kernel_rfl) (by kernel_rfl) (by kernel_rfl) ?hQ23 (Or.inl ⟨?hw23, ?hy23⟩) (by assumption) ?rest23; (case hi23 => (simp only [List.getElem?_toArray, List.getElem?_cons_succ, List.getElem?_cons_zero]; rfl)); (case hQ23 => exact fun _ _ _ h => h); (case hw23 => rfl); (case hy23 => ((intro w hSw); (try dsimp only at hSw); go_simp; (try with_reducible rfl)))
  (try simp only [Act.put, List.setIfInBounds_toArray, List.set_cons_zero, List.set_cons_succ])
  refine wpAnyH_take (i := 20) (oi := ?oi25) (v := ?v25) ?hi25 (by kernel_rfl) (by kernel_rfl) (by kernel_rfl) ?hQ25 (Or.inl ⟨?hw25, ?hy25⟩) (by assumption) ?rest25; (case hi25 => (simp only [List.getElem?_toArray, List.getElem?_cons_succ, List.getElem?_cons_zero]; rfl)); (case hQ25 => exact fun _ _ _ h => h); (case hw25 => rfl); (case hy25 => ((intro w hSw); (try dsimp only at hSw); go_simp; (try with_reducible rfl)))
  (try simp only [Act.put, List.setIfInBounds_toArray, List.set_cons_zero, List.set_cons_succ])
  refine wpAnyH_take (i := 2) (oi := ?oi27) (v := ?v27) ?hi27 (by kernel_rfl) (by kernel_rfl) (by kernel_rfl) ?hQ27 (Or.inl ⟨?hw27, ?hy27⟩) (by assumption) ?rest27; (case hi27 => (simp only [List.getElem?_toArray, List.getElem?_cons_succ, List.getElem?_cons_zero]; rfl)); (case hQ27 => exact fun _ _ _ h => h); (case hw27 => rfl); (case hy27 => ((intro w hSw); (try dsimp only at hSw); go_simp; (try with_reducible rfl)))
  (try simp only [Act.put, List.setIfInBounds_toArray, List.set_cons_zero, List.set_cons_succ])
  refine wpAnyH_take (i := 3) (oi := ?oi29) (v := ?v29) ?hi29 (by kernel_rfl) (by kernel_rfl) (by kernel_rfl) ?hQ29 (Or.inl ⟨?hw29, ?hy29⟩) (by assumption) ?rest29; (case hi29 => (simp only [List.getElem?_toArray, List.getElem?_cons_succ, List.getElem?_cons_zero]; rfl)); (case hQ29 => exact fun _ _ _ h => h); (case hw29 => rfl); (case hy29 => ((intro w hSw); (try dsimp only at hSw); go_simp; (try with_reducible rfl)))
  (try simp only [Act.put, List.setIfInBounds_toArray, List.set_cons_zero, List.set_cons_succ])
  clear hHeld
  refine wpAnyH_ready (rs := [4, 28]) (by kernel_rfl) (by simp) ?_
  refine AllReadyH.cons (o := ?oi31) ?hi31 (fun K hK => ?rest31) (AllReadyH.cons (o := ?oi32) ?hi32 (fun K hK => ?rest32) AllReadyH.nil)
  (case hi31 => (simp only [List.getElem?_toArray, List.getElem?_cons_succ, List.getElem?_cons_zero]; rfl))
  (case hi32 => (simp only [List.getElem?_toArray, List.getElem?_cons_succ, List.getElem?_cons_zero]; rfl))
  case rest31 =>
   go_simp
   ((with_reducible refine (HN.out _).mono ?_); rintro e wz33 ⟨g1, rfl, hq, hg1, hb⟩)
   replace HW := Lib.hid (below_step HW.out hb)
   replace s0 := cel_below hb s0
   replace s1 := cel_below hb s1
   replace s2 := cel_below hb s2
   replace s3 := cel_below hb s3
   replace s4 := cel_below hb s4
   replace s5 := cel_below hb s5
   replace s6 := cel_below hb s6
   replace s7 := cel_below hb s7
   replace s8 := cel_below hb s8
   replace s9 := cel_below hb s9
   replace s10 := cel_below hb s10
   replace s11 := cel_below hb s11
   replace s12 := cel_below hb s12
   replace s13 := cel_below hb s13
   replace s14 := cel_below hb s14
   replace s15 := cel_below hb s15
   replace s16 := cel_below hb s16
   replace HF := Lib.hid (fz_keep HF.out hb)
   have HN1 := Lib.hid hq
   clear hq hg1
   replace LO := Nat.le_trans LO hb.size
   clear hb
   refine hK.out _ _ ?_ (fun _ => ?_)
   · (try dsimp only); exact ⟨s0, s1, s2, s3, s4, s5, s6, s7, s8, s9, s10, s11, s12, s13, s14, s15, s16⟩
   clear hK K
   (try simp only [Act.put, List.setIfInBounds_toArray, List.set_cons_zero, List.set_cons_succ])
   refine wpAnyH_ready (rs := [7, 28]) (by kernel_rfl) (by simp) ?_
   refine AllReadyH.cons (o := ?oi34) ?hi34 (fun K hK => ?rest34) (AllReadyH.cons (o := ?oi35) ?hi35 (fun K hK => ?rest35) AllReadyH.nil)
   (case hi34 => (simp only [List.getElem?_toArray, List.getElem?_cons_succ, List.getElem?_cons_zero]; rfl))
   (case hi35 => (simp only [List.getElem?_toArray, List.getElem?_cons_succ, List.getElem?_cons_zero]; rfl))
   case rest34 =>
    go_simp
    ((with_reducible refine (HS.out _).mono ?_); rintro e wz36 ⟨rfl, hb⟩)
    replace HW := Lib.hid (below_step HW.out hb)
    replace s0 := cel_below hb s0
    replace s1 := cel_below hb s1
    replace s2 := cel_below hb s2
    replace s3 := cel_below hb s3
    replace s4 := cel_below hb s4
    replace s5 := cel_below hb s5
    replace s6 := cel_below hb s6
    replace s7 := cel_below hb s7
    replace s8 := cel_below hb s8
    replace s9 := cel_below hb s9
    replace s10 := cel_below hb s10
    replace s11 := cel_below hb s11
    replace s12 := cel_below hb s12
    replace s13 := cel_below hb s13
    replace s14 := cel_below hb s14
    replace s15 := cel_below hb s15
    replace s16 := cel_below hb s16
    replace HF := Lib.hid (fz_keep HF.out hb)
    replace HN1 := Lib.hid (hasInts_keep HN1.out hb)
    replace LO := Nat.le_trans LO hb.size
    clear hb
    refine hK.out _ _ ?_ (fun _ => ?_)
    · (try dsimp only); exact ⟨s0, s1, s2, s3, s4, s5, s6, s7, s8, s9, s10, s11, s12, s13, s14, s15, s16⟩
    clear hK K
    (try simp only [Act.put, List.setIfInBounds_toArray, List.set_cons_zero, List.set_cons_succ])
    have hHeld := And.intro s0 (And.intro s1 (And.intro s2 (And.intro s3 (And.intro s4 (And.intro s5 (And.intro s6 (And.intro s7 (And.intro s8 (And.intro s9 (And.intro s10 (And.intro s11 (And.intro s12 (And.intro s13 (And.intro s14 (And.intro s15 (s16))))))))))))))))
    refine wpAnyH_take (i := 9) (oi := ?oi37) (v := ?v37) ?hi37 (by kernel_rfl) (by kernel_rfl) (by kernel_rfl) ?hQ37 (Or.inl ⟨?hw37, ?hy37⟩) (by assumption) ?rest37; (case hi37 => (simp only [List.getElem?_toArray, List.getElem?_cons_succ, List.getElem?_cons_zero]; rfl)); (case hQ37 => exact fun _ _ _ h => h); (case hw37 => rfl); (case hy37 => ((intro w hSw); (try dsimp only at hSw); go_simp; (try with_reducible rfl)))
    (try simp only [Act.put, List.setIfInBounds_toArray, List.set_cons_zero, List.set_cons_succ])
    clear hHeld
    refine wpAnyH_ready (rs := [12, 28]) (by kernel_rfl) (by simp) ?_
    refine AllReadyH.cons (o := ?oi39) ?hi39 (fun K hK => ?rest39) (AllReadyH.cons (o := ?oi40) ?hi40 (fun K hK => ?rest40) AllReadyH.nil)
    (case hi39 => (simp only [List.getElem?_toArray, List.getElem?_cons_succ, List.getElem?_cons_zero]; rfl))
    (case hi40 => (simp only [List.getElem?_toArray, List.getElem?_cons_succ, List.getElem?_cons_zero]; rfl))
    case rest39 =>
     go_simp
     ((with_reducible refine (HT.out _).mono ?_); rintro e wz41 ⟨rfl, hb⟩)
     replace HW := Lib.hid (below_step HW.out hb)
     replace s0 := cel_below hb s0
     replace s1 := cel_below hb s1
     replace s2 := cel_below hb s2
     replace s3 := cel_below hb s3
     replace s4 := cel_below hb s4
     replace s5 := cel_below hb s5
     replace s6 := cel_below hb s6
     replace s7 := cel_below hb s7
     replace s8 := cel_below hb s8
     replace s9 := cel_below hb s9
     replace s10 := cel_below hb s10
     replace s11 := cel_below hb s11
     replace s12 := cel_below hb s12
     replace s13 := cel_below hb s13
     replace s14 := cel_below hb s14
     replace s15 := cel_below hb s15
     replace s16 := cel_below hb s16
     replace HF := Lib.hid (fz_keep HF.out hb)
     replace HN1 := Lib.hid (hasInts_keep HN1.out hb)
     replace LO := Nat.le_trans LO hb.size
     clear hb
     refine hK.out _ _ ?_ (fun _ => ?_)
     · (try dsimp only); exact ⟨s0, s1, s2, s3, s4, s5, s6, s7, s8, s9, s10, s11, s12, s13, s14, s15, s16⟩
     clear hK K
     (try simp only [Act.put, List.setIfInBounds_toArray, List.set_cons_zero, List.set_cons_succ])
     have hHeld := And.intro s0 (And.intro s1 (And.intro s2 (And.intro s3 (And.intro s4 (And.intro s5 (And.intro s6 (And.intro s7 (And.intro s8 (And.intro s9 (And.intro s10 (And.intro s11 (And.intro s12 (And.intro s13 (And.intro s14 (And.intro s15 (s16))))))))))))))))
     refine wpAnyH_take (i := 15) (oi := ?oi42) (v := ?v42) ?hi42 (by kernel_rfl) (by kernel_rfl) (by kernel_rfl) ?hQ42 (Or.inl ⟨?hw42, ?hy42⟩) (by assumption) ?rest42; (case hi42 => (simp only [List.getElem?_toArray, List.getElem?_cons_succ, List.getElem?_cons_zero]; rfl)); (case hQ42 => exact fun _ _ _ h => h); (case hw42 => rfl); (case hy42 => ((intro w hSw); (try dsimp only at hSw); go_simp; (try with_reducible rfl)))
     (try simp only [Act.put, List.setIfInBounds_toArray, List.set_cons_zero, List.set_cons_succ])
     clear hHeld
     refine wpAnyH_ready (rs := [18, 28]) (by kernel_rfl) (by simp) ?_
     refine AllReadyH.cons (o := ?oi44) ?hi44 (fun K hK => ?rest44) (AllReadyH.cons (o := ?oi45) ?hi45 (fun K hK => ?rest45) AllReadyH.nil)
     (case hi44 => (simp only [List.getElem?_toArray, List.getElem?_cons_succ, List.getElem?_cons_zero]; rfl))
     (case hi45 => (simp only [List.getElem?_toArray, List.getElem?_cons_succ, List.getElem?_cons_zero]; rfl))
     case rest44 =>
      go_simp
      ((with_reducible refine (HK.out _).mono ?_); rintro e wz46 ⟨rfl, hb⟩)
      replace HW := Lib.hid (below_step HW.out hb)
      replace s0 := cel_below hb s0
      replace s1 := cel_below hb s1
      replace s2 := cel_below hb s2
      replace s3 := cel_below hb s3
      replace s4 := cel_below hb s4
      replace s5 := cel_below hb s5
      replace s6 := cel_below hb s6
      replace s7 := cel_below hb s7
      replace s8 := cel_below hb s8
      replace s9 := cel_below hb s9
      replace s10 := cel_below hb s10
      replace s11 := cel_below hb s11
      replace s12 := cel_below hb s12
      replace s13 := cel_below hb s13
      replace s14 := cel_below hb s14
      replace s15 := cel_below hb s15
      replace s16 := cel_below hb s16
      replace HF := Lib.hid (fz_keep HF.out hb)
      replace HN1 := Lib.hid (hasInts_keep HN1.out hb)
      replace LO := Nat.le_trans LO hb.size
      clear hb
      refine hK.out _ _ ?_ (fun _ => ?_)
      · (try dsimp only); exact ⟨s0, s1, s2, s3, s4, s5, s6, s7, s8, s9, s10, s11, s12, s13, s14, s15, s16⟩
      clear hK K
      (try simp only [Act.put, List.setIfInBounds_toArray, List.set_cons_zero, List.set_cons_succ])
      have hHeld := And.intro s0 (And.intro s1 (And.intro s2 (And.intro s3 (And.intro s4 (And.intro s5 (And.intro s6 (And.intro s7 (And.intro s8 (And.intro s9 (And.intro s10 (And.intro s11 (And.intro s12 (And.intro s13 (And.intro s14 (And.intro s15 (s16))))))))))))))))
      refine wpAnyH_take (i := 21) (oi := ?oi47) (v := ?v47) ?hi47 (by kernel_rfl) (by kernel_rfl) (by kernel_rfl) ?hQ47 (Or.inl ⟨?hw47, ?hy47⟩) (by assumption) ?rest47; (case hi47 => (simp only [List.getElem?_toArray, List.getElem?_cons_succ, List.getElem?_cons_zero]; rfl)); (case hQ47 => exact fun _ _ _ h => h); (case hw47 => rfl); (case hy47 => ((intro w hSw); (try dsimp only at hSw); go_simp; (try with_reducible rfl)))
      (try simp only [Act.put, List.setIfInBounds_toArray, List.set_cons_zero, List.set_cons_succ])
      clear hHeld
      refine wpAnyH_ready (rs := [22, 28]) (by kernel_rfl) (by simp) ?_
      refine AllReadyH.cons (o := ?oi49) ?hi49 (fun K hK => ?rest49) (AllReadyH.cons (o := ?oi50) ?hi50 (fun K hK => ?rest50) AllReadyH.nil)
      (case hi49 => (simp only [List.getElem?_toArray, List.getElem?_cons_succ, List.getElem?_cons_zero]; rfl))
      (case hi50 => (simp only [List.getElem?_toArray, List.getElem?_cons_succ, List.getElem?_cons_zero]; rfl))
      case rest49 =>
       go_simp
       obtain ⟨wz51, hwy⟩ : ∃ W, W = wz46.alloc (.cells #[.int .i64 2, .int .i64 p0, .int .i64 0, .int .i64 s, .string ⟨#[]⟩, .int .i64 2, .int .i64 p1, .int .i64 0, .int .i64 m.s, .string ⟨#[]⟩, .int .i64 2, .int .i64 p2, .int .i64 0, .int .i64 m.k, .string ⟨#[]⟩] 32) := ⟨_, rfl⟩
       rw [← hwy]
       have hb : Below wz46.heap.size wz46 wz51 := by rw [hwy]; exact below_new1 _ _
       have xc0 : wz51.cell? ⟨wz46.heap.size, 0, none⟩ = some (.int .i64 2) := by rw [hwy, World.cell?_alloc_at _ _ _ _ rfl]; rfl
       have xf0 : wz51.frozen? ⟨wz46.heap.size, 0, none⟩ = false := by rw [hwy]; exact World.frozen?_alloc_at _ _ _ _ rfl
       have xc1 : wz51.cell? ⟨wz46.heap.size, 1, none⟩ = some (.int .i64 p0) := by rw [hwy, World.cell?_alloc_at _ _ _ _ rfl]; rfl
       have xf1 : wz51.frozen? ⟨wz46.heap.size, 1, none⟩ = false := by rw [hwy]; exact World.frozen?_alloc_at _ _ _ _ rfl
       have xc2 : wz51.cell? ⟨wz46.heap.size, 2, none⟩ = some (.int .i64 0) := by rw [hwy, World.cell?_alloc_at _ _ _ _ rfl]; rfl
       have xf2 : wz51.frozen? ⟨wz46.heap.size, 2, none⟩ = false := by rw [hwy]; exact World.frozen?_alloc_at _ _ _ _ rfl
       have xc3 : wz51.cell? ⟨wz46.heap.size, 3, none⟩ = some (.int .i64 s) := by rw [hwy, World.cell?_alloc_at _ _ _ _ rfl]; rfl
       have xf3 : wz51.frozen? ⟨wz46.heap.size, 3, none⟩ = false := by rw [hwy]; exact World.frozen?_alloc_at _ _ _ _ rfl
       have xc4 : wz51.cell? ⟨wz46.heap.size, 4, none⟩ = some (.string ⟨#[]⟩) := by rw [hwy, World.cell?_alloc_at _ _ _ _ rfl]; rfl
       have xf4 : wz51.frozen? ⟨wz46.heap.size, 4, none⟩ = false := by rw [hwy]; exact World.frozen?_alloc_at _ _ _ _ rfl
       have xc5 : wz51.cell? ⟨wz46.heap.size, 5, none⟩ = some (.int .i64 2) := by rw [hwy, World.cell?_alloc_at _ _ _ _ rfl]; rfl
       have xf5 : wz51.frozen? ⟨wz46.heap.size, 5, none⟩ = false := by rw [hwy]; exact World.frozen?_alloc_at _ _ _ _ rfl
       have xc6 : wz51.cell? ⟨wz46.heap.size, 6, none⟩ = some (.int .i64 p1) := by rw [hwy, World.cell?_alloc_at _ _ _ _ rfl]; rfl
       have xf6 : wz51.frozen? ⟨wz46.heap.size, 6, none⟩ = false := by rw [hwy]; exact World.frozen?_alloc_at _ _ _ _ rfl
       have xc7 : wz51.cell? ⟨wz46.heap.size, 7, none⟩ = some (.int .i64 0) := by rw [hwy, World.cell?_alloc_at _ _ _ _ rfl]; rfl
       have xf7 : wz51.frozen? ⟨wz46.heap.size, 7, none⟩ = false := by rw [hwy]; exact World.frozen?_alloc_at _ _ _ _ rfl
       have xc8 : wz51.cell? ⟨wz46.heap.size, 8, none⟩ = some (.int .i64 m.s) := by rw [hwy, World.cell?_alloc_at _ _ _ _ rfl]; rfl
       have xf8 : wz51.frozen? ⟨wz46.heap.size, 8, none⟩ = false := by rw [hwy]; exact World.frozen?_alloc_at _ _ _ _ rfl
       have xc9 : wz51.cell? ⟨wz46.heap.size, 9, none⟩ = some (.string ⟨#[]⟩) := by rw [hwy, World.cell?_alloc_at _ _ _ _ rfl]; rfl
       have xf9 : wz51.frozen? ⟨wz46.heap.size, 9, none⟩ = false := by rw [hwy]; exact World.frozen?_alloc_at _ _ _ _ rfl
       have xc10 : wz51.cell? ⟨wz46.heap.size, 10, none⟩ = some (.int .i64 2) := by rw [hwy, World.cell?_alloc_at _ _ _ _ rfl]; rfl
       have xf10 : wz51.frozen? ⟨wz46.heap.size, 10, none⟩ = false := by rw [hwy]; exact World.frozen?_alloc_at _ _ _ _ rfl
       have xc11 : wz51.cell? ⟨wz46.heap.size, 11, none⟩ = some (.int .i64 p2) := by rw [hwy, World.cell?_alloc_at _ _ _ _ rfl]; rfl
       have xf11 : wz51.frozen? ⟨wz46.heap.size, 11, none⟩ = false := by rw [hwy]; exact World.frozen?_alloc_at _ _ _ _ rfl
       have xc12 : wz51.cell? ⟨wz46.heap.size, 12, none⟩ = some (.int .i64 0) := by rw [hwy, World.cell?_alloc_at _ _ _ _ rfl]; rfl
       have xf12 : wz51.frozen? ⟨wz46.heap.size, 12, none⟩ = false := by rw [hwy]; exact World.frozen?_alloc_at _ _ _ _ rfl
       have xc13 : wz51.cell? ⟨wz46.heap.size, 13, none⟩ = some (.int .i64 m.k) := by rw [hwy, World.cell?_alloc_at _ _ _ _ rfl]; rfl
       have xf13 : wz51.frozen? ⟨wz46.heap.size, 13, none⟩ = false := by rw [hwy]; exact World.frozen?_alloc_at _ _ _ _ rfl
       have xc14 : wz51.cell? ⟨wz46.heap.size, 14, none⟩ = some (.string ⟨#[]⟩) := by rw [hwy, World.cell?_alloc_at _ _ _ _ rfl]; rfl
       have xf14 : wz51.frozen? ⟨wz46.heap.size, 14, none⟩ = false := by rw [hwy]; exact World.frozen?_alloc_at _ _ _ _ rfl
       have xt : Tag wz51 wz46.heap.size 32 := by rw [hwy]; exact tag_new _ _ _
       have xz : wz46.heap.size < wz51.heap.size := by rw [hwy]; simp
       have xl := LO
       replace HW := Lib.hid (below_step HW.out hb)
       replace s0 := cel_below hb s0
       replace s1 := cel_below hb s1
       replace s2 := cel_below hb s2
       replace s3 := cel_below hb s3
       replace s4 := cel_below hb s4
       replace s5 := cel_below hb s5
       replace s6 := cel_below hb s6
       replace s7 := cel_below hb s7
       replace s8 := cel_below hb s8
       replace s9 := cel_below hb s9
       replace s10 := cel_below hb s10
       replace s11 := cel_below hb s11
       replace s12 := cel_below hb s12
       replace s13 := cel_below hb s13
       replace s14 := cel_below hb s14
       replace s15 := cel_below hb s15
       replace s16 := cel_below hb s16
       replace HF := Lib.hid (fz_keep HF.out hb)
       replace HN1 := Lib.hid (hasInts_keep HN1.out hb)
       replace LO := Nat.le_trans LO hb.size
       clear hb hwy
       refine hK.out _ _ ?_ (fun _ => ?_)
       · (try dsimp only); exact ⟨s0, s1, s2, s3, s4, s5, s6, s7, s8, s9, s10, s11, s12, s13, s14, s15, s16⟩
       clear hK K
       (try simp only [Act.put, List.setIfInBounds_toArray, List.set_cons_zero, List.set_cons_succ])
       refine wpAnyH_ready (rs := [23, 28]) (by kernel_rfl) (by simp) ?_
       refine AllReadyH.cons (o := ?oi52) ?hi52 (fun K hK => ?rest52) (AllReadyH.cons (o := ?oi53) ?hi53 (fun K hK => ?rest53) AllReadyH.nil)
       (case hi52 => (simp only [List.getElem?_toArray, List.getElem?_cons_succ, List.getElem?_cons_zero]; rfl))
       (case hi53 => (simp only [List.getElem?_toArray, List.getElem?_cons_succ, List.getElem?_cons_zero]; rfl))
       case rest52 =>
        go_simp
        ((with_reducible refine (HA.out _ _ _ HN1.out (hasAccs_15 xc0 xc1 xc2 xc3 xc4 xc5 xc6 xc7 xc8 xc9 xc10 xc11 xc12 xc13 xc14)).mono ?_); rintro e wz54 ⟨am, cm, r3, rfl, hq, hb⟩)
        replace HW := Lib.hid (below_step HW.out hb)
        replace s0 := cel_below hb s0
        replace s1 := cel_below hb s1
        replace s2 := cel_below hb s2
        replace s3 := cel_below hb s3
        replace s4 := cel_below hb s4
        replace s5 := cel_below hb s5
        replace s6 := cel_below hb s6
        replace s7 := cel_below hb s7
        replace s8 := cel_below hb s8
        replace s9 := cel_below hb s9
        replace s10 := cel_below hb s10
        replace s11 := cel_below hb s11
        replace s12 := cel_below hb s12
        replace s13 := cel_below hb s13
        replace s14 := cel_below hb s14
        replace s15 := cel_below hb s15
        replace s16 := cel_below hb s16
        replace xc0 := cel_below hb xc0
        replace xf0 := fro_below hb xz xf0
        replace xc1 := cel_below hb xc1
        replace xf1 := fro_below hb xz xf1
        replace xc2 := cel_below hb xc2
        replace xf2 := fro_below hb xz xf2
        replace xc3 := cel_below hb xc3
        replace xf3 := fro_below hb xz xf3
        replace xc4 := cel_below hb xc4
        replace xf4 := fro_below hb xz xf4
        replace xc5 := cel_below hb xc5
        replace xf5 := fro_below hb xz xf5
        replace xc6 := cel_below hb xc6
        replace xf6 := fro_below hb xz xf6
        replace xc7 := cel_below hb xc7
        replace xf7 := fro_below hb xz xf7
        replace xc8 := cel_below hb xc8
        replace xf8 := fro_below hb xz xf8
        replace xc9 := cel_below hb xc9
        replace xf9 := fro_below hb xz xf9
        replace xc10 := cel_below hb xc10
        replace xf10 := fro_below hb xz xf10
        replace xc11 := cel_below hb xc11
        replace xf11 := fro_below hb xz xf11
        replace xc12 := cel_below hb xc12
        replace xf12 := fro_below hb xz xf12
        replace xc13 := cel_below hb xc13
        replace xf13 := fro_below hb xz xf13
        replace xc14 := cel_below hb xc14
        replace xf14 := fro_below hb xz xf14
        replace xz := lt_below hb xz
        replace xt := tag_below xt hb
        replace HF := Lib.hid (fz_keep HF.out hb)
        replace HN1 := Lib.hid (hasInts_keep HN1.out hb)
        have HM1 := Lib.hid hq
        clear hq HN1
        replace LO := Nat.le_trans LO hb.size
        clear hb
        refine hK.out _ _ ?_ (fun _ => ?_)
        · (try dsimp only); exact ⟨s0, s1, s2, s3, s4, s5, s6, s7, s8, s9, s10, s11, s12, s13, s14, s15, s16⟩
        clear hK K
        (try simp only [Act.put, List.setIfInBounds_toArray, List.set_cons_zero, List.set_cons_succ])
        have hHeld := And.intro s0 (And.intro s1 (And.intro s2 (And.intro s3 (And.intro s4 (And.intro s5 (And.intro s6 (And.intro s7 (And.intro s8 (And.intro s9 (And.intro s10 (And.intro s11 (And.intro s12 (And.intro s13 (And.intro s14 (And.intro s15 (s16))))))))))))))))
        refine wpAnyH_take (i := 24) (oi := ?oi55) (v := ?v55) ?hi55 (by kernel_rfl) (by kernel_rfl) (by kernel_rfl) ?hQ55 (Or.inl ⟨?hw55, ?hy55⟩) (by assumption) ?rest55; (case hi55 => (simp only [List.getElem?_toArray, List.getElem?_cons_succ, List.getElem?_cons_zero]; rfl)); (case hQ55 => exact fun _ _ _ h => h); (case hw55 => rfl); (case hy55 => ((intro w hSw); (try dsimp only at hSw); go_simp; (try with_reducible rfl)))
        (try simp only [Act.put, List.setIfInBounds_toArray, List.set_cons_zero, List.set_cons_succ])
        refine wpAnyH_take (i := 25) (oi := ?oi57) (v := ?v57) ?hi57 (by kernel_rfl) (by kernel_rfl) (by kernel_rfl) ?hQ57 (Or.inl ⟨?hw57, ?hy57⟩) (by assumption) ?rest57; (case hi57 => (simp only [List.getElem?_toArray, List.getElem?_cons_succ, List.getElem?_cons_zero]; rfl)); (case hQ57 => exact fun _ _ _ h => h); (case hw57 => rfl); (case hy57 => ((intro w hSw); (try dsimp only at hSw); go_simp; (try with_reducible rfl)))
        (try simp only [Act.put, List.setIfInBounds_toArray, List.set_cons_zero, List.set_cons_succ])
        refine wpAnyH_take (i := 26) (oi := ?oi59) (v := ?v59) ?hi59 (by kernel_rfl) (by kernel_rfl) (by kernel_rfl) ?hQ59 (Or.inl ⟨?hw59, ?hy59⟩) (by assumption) ?rest59; (case hi59 => (simp only [List.getElem?_toArray, List.getElem?_cons_succ, List.getElem?_cons_zero]; rfl)); (case hQ59 => exact fun _ _ _ h => h); (case hw59 => rfl); (case hy59 => ((intro w hSw); (try dsimp only at hSw); go_simp; (try with_reducible rfl)))
        (try simp only [Act.put, List.setIfInBounds_toArray, List.set_cons_zero, List.set_cons_succ])
        refine wpAnyH_take (i := 27) (oi := ?oi61) (v := ?v61) ?hi61 (by kernel_rfl) (by kernel_rfl) (by kernel_rfl) ?hQ61 (Or.inl ⟨?hw61, ?hy61⟩) (by assumption) ?rest61; (case hi61 => (simp only [List.getElem?_toArray, List.getElem?_cons_succ, List.getElem?_cons_zero]; rfl)); (case hQ61 => exact fun _ _ _ h => h); (case hw61 => rfl); (case hy61 => ((intro w hSw); (try dsimp only at hSw); go_simp; (try with_reducible rfl)))
        (try simp only [Act.put, List.setIfInBounds_toArray, List.set_cons_zero, List.set_cons_succ])
        clear hHeld
        refine wpAnyH_ready (rs := [28]) (by kernel_rfl) (by simp) ?_
        refine AllReadyH.cons (o := ?oi63) ?hi63 (fun K hK => ?rest63) AllReadyH.nil
        (case hi63 => (simp only [List.getElem?_toArray, List.getElem?_cons_succ, List.getElem?_cons_zero]; rfl))
        go_simp
        obtain ⟨wz64, hwy⟩ : ∃ W, W = wz54.alloc (.cells #[.slice none 0 0] 55) := ⟨_, rfl⟩
        rw [← hwy]
        have hb : Below wz54.heap.size wz54 wz64 := by rw [hwy]; exact below_new1 _ _
        have mc0 : wz64.cell? ⟨wz54.heap.size, 0, none⟩ = some (.slice none 0 0) := by rw [hwy, World.cell?_alloc_at _ _ _ _ rfl]; rfl
        have mf0 : wz64.frozen? ⟨wz54.heap.size, 0, none⟩ = false := by rw [hwy]; exact World.frozen?_alloc_at _ _ _ _ rfl
        have mt : Tag wz64 wz54.heap.size 55 := by rw [hwy]; exact tag_new _ _ _
        have mz : wz54.heap.size < wz64.heap.size := by rw [hwy]; simp
        have ml := LO
        replace HW := Lib.hid (below_step HW.out hb)
        replace s0 := cel_below hb s0
        replace s1 := cel_below hb s1
        replace s2 := cel_below hb s2
        replace s3 := cel_below hb s3
        replace s4 := cel_below hb s4
        replace s5 := cel_below hb s5
        replace s6 := cel_below hb s6
        replace s7 := cel_below hb s7
        replace s8 := cel_below hb s8
        replace s9 := cel_below hb s9
        replace s10 := cel_below hb s10
        replace s11 := cel_below hb s11
        replace s12 := cel_below hb s12
        replace s13 := cel_below hb s13
        replace s14 := cel_below hb s14
        replace s15 := cel_below hb s15
        replace s16 := cel_below hb s16
        replace xc0 := cel_below hb xc0
        replace xf0 := fro_below hb xz xf0
        replace xc1 := cel_below hb xc1
        replace xf1 := fro_below hb xz xf1
        replace xc2 := cel_below hb xc2
        replace xf2 := fro_below hb xz xf2
        replace xc3 := cel_below hb xc3
        replace xf3 := fro_below hb xz xf3
        replace xc4 := cel_below hb xc4
        replace xf4 := fro_below hb xz xf4
        replace xc5 := cel_below hb xc5
        replace xf5 := fro_below hb xz xf5
        replace xc6 := cel_below hb xc6
        replace xf6 := fro_below hb xz xf6
        replace xc7 := cel_below hb xc7
        replace xf7 := fro_below hb xz xf7
        replace xc8 := cel_below hb xc8
        replace xf8 := fro_below hb xz xf8
        replace xc9 := cel_below hb xc9
        replace xf9 := fro_below hb xz xf9
        replace xc10 := cel_below hb xc10
        replace xf10 := fro_below hb xz xf10
        replace xc11 := cel_below hb xc11
        replace xf11 := fro_below hb xz xf11
        replace xc12 := cel_below hb xc12
        replace xf12 := fro_below hb xz xf12
        replace xc13 := cel_below hb xc13
        replace xf13 := fro_below hb xz xf13
        replace xc14 := cel_below hb xc14
        replace xf14 := fro_below hb xz xf14
        replace xt := tag_below xt hb
        have xmn : wz46.heap.size ≠ wz54.heap.size := by omega
        replace xz := lt_below hb xz
        replace HF := Lib.hid (fz_keep HF.out hb)
        replace HM1 := Lib.hid (hasInts_keep HM1.out hb)
        replace LO := Nat.le_trans LO hb.size
        clear hb hwy
        refine hK.out _ _ ?_ (fun _ => ?_)
        · (try dsimp only); exact ⟨s0, s1, s2, s3, s4, s5, s6, s7, s8, s9, s10, s11, s12, s13, s14, s15, s16⟩
        clear hK K
        (try simp only [Act.put, List.setIfInBounds_toArray, List.set_cons_zero, List.set_cons_succ])
        refine wpAnyH_ready (rs := [29]) (by kernel_rfl) (by simp) ?_
        refine AllReadyH.cons (o := ?oi65) ?hi65 (fun K hK => ?rest65) AllReadyH.nil
        (case hi65 => (simp only [List.getElem?_toArray, List.getElem?_cons_succ, List.getElem?_cons_zero]; rfl))
        go_simp
        obtain ⟨wz66, hwy⟩ : ∃ W, W = (wz64.setCell ⟨wz54.heap.size, 0, none⟩ (.slice am 16 cm)) := ⟨_, rfl⟩
        rw [← hwy]
        have kp : ∀ {b' o' : Nat} {u : Value}, wz64.cell? ⟨b', o', none⟩ = some u → wz54.heap.size ≠ b' → wz66.cell? ⟨b', o', none⟩ = some u := fun h hn => by rw [hwy]; exact keepA_ (h) (Or.inl hn)
        replace s0 := kp s0 (by omega)
        replace s1 := kp s1 (by omega)
        replace s2 := kp s2 (by omega)
        replace s3 := kp s3 (by omega)
        replace s4 := kp s4 (by omega)
        replace s5 := kp s5 (by omega)
        replace s6 := kp s6 (by omega)
        replace s7 := kp s7 (by omega)
        replace s8 := kp s8 (by omega)
        replace s9 := kp s9 (by omega)
        replace s10 := kp s10 (by omega)
        replace s11 := kp s11 (by omega)
        replace s12 := kp s12 (by omega)
        replace s13 := kp s13 (by omega)
        replace s14 := kp s14 (by omega)
        replace s15 := kp s15 (by omega)
        replace s16 := kp s16 (by omega)
        clear kp
        replace xc0 : wz66.cell? ⟨wz46.heap.size, 0, none⟩ = some (.int .i64 2) := by rw [hwy]; exact keepA_ (xc0) (Or.inl (by omega))
        replace xf0 : wz66.frozen? ⟨wz46.heap.size, 0, none⟩ = false := by rw [hwy]; simpa using xf0
        replace xc1 : wz66.cell? ⟨wz46.heap.size, 1, none⟩ = some (.int .i64 p0) := by rw [hwy]; exact keepA_ (xc1) (Or.inl (by omega))
        replace xf1 : wz66.frozen? ⟨wz46.heap.size, 1, none⟩ = false := by rw [hwy]; simpa using xf1
        replace xc2 : wz66.cell? ⟨wz46.heap.size, 2, none⟩ = some (.int .i64 0) := by rw [hwy]; exact keepA_ (xc2) (Or.inl (by omega))
        replace xf2 : wz66.frozen? ⟨wz46.heap.size, 2, none⟩ = false := by rw [hwy]; simpa using xf2
        replace xc3 : wz66.cell? ⟨wz46.heap.size, 3, none⟩ = some (.int .i64 s) := by rw [hwy]; exact keepA_ (xc3) (Or.inl (by omega))
        replace xf3 : wz66.frozen? ⟨wz46.heap.size, 3, none⟩ = false := by rw [hwy]; simpa using xf3
        replace xc4 : wz66.cell? ⟨wz46.heap.size, 4, none⟩ = some (.string ⟨#[]⟩) := by rw [hwy]; exact keepA_ (xc4) (Or.inl (by omega))
        replace xf4 : wz66.frozen? ⟨wz46.heap.size, 4, none⟩ = false := by rw [hwy]; simpa using xf4
        replace xc5 : wz66.cell? ⟨wz46.heap.size, 5, none⟩ = some (.int .i64 2) := by rw [hwy]; exact keepA_ (xc5) (Or.inl (by omega))
        replace xf5 : wz66.frozen? ⟨wz46.heap.size, 5, none⟩ = false := by rw [hwy]; simpa using xf5
        replace xc6 : wz66.cell? ⟨wz46.heap.size, 6, none⟩ = some (.int .i64 p1) := by rw [hwy]; exact keepA_ (xc6) (Or.inl (by omega))
        replace xf6 : wz66.frozen? ⟨wz46.heap.size, 6, none⟩ = false := by rw [hwy]; simpa using xf6
        replace xc7 : wz66.cell? ⟨wz46.heap.size, 7, none⟩ = some (.int .i64 0) := by rw [hwy]; exact keepA_ (xc7) (Or.inl (by omega))
        replace xf7 : wz66.frozen? ⟨wz46.heap.size, 7, none⟩ = false := by rw [hwy]; simpa using xf7
        replace xc8 : wz66.cell? ⟨wz46.heap.size, 8, none⟩ = some (.int .i64 m.s) := by rw [hwy]; exact keepA_ (xc8) (Or.inl (by omega))
        replace xf8 : wz66.frozen? ⟨wz46.heap.size, 8, none⟩ = false := by rw [hwy]; simpa using xf8
        replace xc9 : wz66.cell? ⟨wz46.heap.size, 9, none⟩ = some (.string ⟨#[]⟩) := by rw [hwy]; exact keepA_ (xc9) (Or.inl (by omega))
        replace xf9 : wz66.frozen? ⟨wz46.heap.size, 9, none⟩ = false := by rw [hwy]; simpa using xf9
        replace xc10 : wz66.cell? ⟨wz46.heap.size, 10, none⟩ = some (.int .i64 2) := by rw [hwy]; exact keepA_ (xc10) (Or.inl (by omega))
        replace xf10 : wz66.frozen? ⟨wz46.heap.size, 10, none⟩ = false := by rw [hwy]; simpa using xf10
        replace xc11 : wz66.cell? ⟨wz46.heap.size, 11, none⟩ = some (.int .i64 p2) := by rw [hwy]; exact keepA_ (xc11) (Or.inl (by omega))
        replace xf11 : wz66.frozen? ⟨wz46.heap.size, 11, none⟩ = false := by rw [hwy]; simpa using xf11
        replace xc12 : wz66.cell? ⟨wz46.heap.size, 12, none⟩ = some (.int .i64 0) := by rw [hwy]; exact keepA_ (xc12) (Or.inl (by omega))
        replace xf12 : wz66.frozen? ⟨wz46.heap.size, 12, none⟩ = false := by rw [hwy]; simpa using xf12
        replace xc13 : wz66.cell? ⟨wz46.heap.size, 13, none⟩ = some (.int .i64 m.k) := by rw [hwy]; exact keepA_ (xc13) (Or.inl (by omega))
        replace xf13 : wz66.frozen? ⟨wz46.heap.size, 13, none⟩ = false := by rw [hwy]; simpa using xf13
        replace xc14 : wz66.cell? ⟨wz46.heap.size, 14, none⟩ = some (.string ⟨#[]⟩) := by rw [hwy]; exact keepA_ (xc14) (Or.inl (by omega))
        replace xf14 : wz66.frozen? ⟨wz46.heap.size, 14, none⟩ = false := by rw [hwy]; simpa using xf14
        replace HF : Hid (Fz wz66 (w.heap.size + 1 + 1)) := Lib.hid (by rw [hwy]; exact (fz_set HF.out _ _))
        replace HM1 := Lib.hid (hasInts_setS HM1.out mc0 (u := .slice am 16 cm))
        rw [← hwy] at HM1
        have md0 : wz66.cell? ⟨wz54.heap.size, 0, none⟩ = some (.slice am 16 cm) := by rw [hwy]; exact World.cell?_setCell_same _ _ _ mc0
        replace xt : Tag wz66 wz46.heap.size 32 := by rw [hwy]; exact (tag_set xt _ _)
        replace mt : Tag wz66 wz54.heap.size 55 := by rw [hwy]; exact (tag_set mt _ _)
        replace mf0 : wz66.frozen? ⟨wz54.heap.size, 0, none⟩ = false := by rw [hwy]; simpa using mf0
        replace HW := Lib.hid (Below.setCell (p := ⟨wz54.heap.size, 0, none⟩) HW.out (by have := HWS.out; dsimp only; omega) (.slice am 16 cm))
        rw [← hwy] at HW
        have hsz : wz66.heap.size = wz64.heap.size := by rw [hwy]; simp
        replace xz : wz46.heap.size < wz66.heap.size := by omega
        replace mz : wz54.heap.size < wz66.heap.size := by omega
        replace LO : _ ≤ wz66.heap.size := Nat.le_trans LO (Nat.le_of_eq hsz.symm)
        clear hsz hwy mc0
        have mc0 := md0
        clear md0
        refine hK.out _ _ ?_ (fun _ => ?_)
        · (try dsimp only); exact ⟨s0, s1, s2, s3, s4, s5, s6, s7, s8, s9, s10, s11, s12, s13, s14, s15, s16⟩
        clear hK K
        (try simp only [Act.put, List.setIfInBounds_toArray, List.set_cons_zero, List.set_cons_succ])
        have hHeld := And.intro s0 (And.intro s1 (And.intro s2 (And.intro s3 (And.intro s4 (And.intro s5 (And.intro s6 (And.intro s7 (And.intro s8 (And.intro s9 (And.intro s10 (And.intro s11 (And.intro s12 (And.intro s13 (And.intro s14 (And.intro s15 (s16))))))))))))))))
        refine wpAnyH_take (i := 30) (oi := ?oi67) (v := ?v67) ?hi67 (by kernel_rfl) (by kernel_rfl) (by kernel_rfl) ?hQ67 (Or.inl ⟨?hw67, ?hy67⟩) (by assumption) ?rest67; (case hi67 => (simp only [List.getElem?_toArray, List.getElem?_cons_succ, List.getElem?_cons_zero]; rfl)); (case hQ67 => exact fun _ _ _ h => h); (case hw67 => rfl); (case hy67 => ((intro w hSw); (try dsimp only at hSw); go_simp; (try with_reducible rfl)))
        (try simp only [Act.put, List.setIfInBounds_toArray, List.set_cons_zero, List.set_cons_succ])
        refine wpAnyH_take (i := 31) (oi := ?oi69) (v := ?v69) ?hi69 (by kernel_rfl) (by kernel_rfl) (by kernel_rfl) ?hQ69 (Or.inl ⟨?hw69, ?hy69⟩) (by assumption) ?rest69; (case hi69 => (simp only [List.getElem?_toArray, List.getElem?_cons_succ, List.getElem?_cons_zero]; rfl)); (case hQ69 => exact fun _ _ _ h => h); (case hw69 => rfl); (case hy69 => ((intro w hSw); (try dsimp only at hSw); go_simp; (try with_reducible rfl)))
        (try simp only [Act.put, List.setIfInBounds_toArray, List.set_cons_zero, List.set_cons_succ])
        clear hHeld
        refine wpAnyH_done (by kernel_rfl) ?_ _
        have ff := HF.out.2
        have kk := World.cell?_setCell_same wz66 ⟨w.heap.size + 1 + 1, 0, none⟩ (.slice am 16 cm) s16
        go_wp2
        refine bodyPost_ret (v := .agg #[.slice am 16 cm]) (by simp [results, Try.results36, go_sem, kk]) rfl ?_
        exact ⟨am, cm, rfl, hasInts_setS HM1.out s16, (HB0.out.trans (HW.out.mono (by have := HLO.out; omega))).setCell (by dsimp only; omega) _⟩
       case rest53 =>
        go_simp
        obtain ⟨wz71, hwy⟩ : ∃ W, W = wz51.alloc (.cells #[.slice none 0 0] 55) := ⟨_, rfl⟩
        rw [← hwy]
        have hb : Below wz51.heap.size wz51 wz71 := by rw [hwy]; exact below_new1 _ _
        have mc0 : wz71.cell? ⟨wz51.heap.size, 0, none⟩ = some (.slice none 0 0) := by rw [hwy, World.cell?_alloc_at _ _ _ _ rfl]; rfl
        have mf0 : wz71.frozen? ⟨wz51.heap.size, 0, none⟩ = false := by rw [hwy]; exact World.frozen?_alloc_at _ _ _ _ rfl
        have mt : Tag wz71 wz51.heap.size 55 := by rw [hwy]; exact tag_new _ _ _
        have mz : wz51.heap.size < wz71.heap.size := by rw [hwy]; simp
        have ml := LO
        replace HW := Lib.hid (below_step HW.out hb)
        replace s0 := cel_below hb s0
        replace s1 := cel_below hb s1
        replace s2 := cel_below hb s2
        replace s3 := cel_below hb s3
        replace s4 := cel_below hb s4
        replace s5 := cel_below hb s5
        replace s6 := cel_below hb s6
        replace s7 := cel_below hb s7
        replace s8 := cel_below hb s8
        replace s9 := cel_below hb s9
        replace s10 := cel_below hb s10
        replace s11 := cel_below hb s11
        replace s12 := cel_below hb s12
        replace s13 := cel_below hb s13
        replace s14 := cel_below hb s14
        replace s15 := cel_below hb s15
        replace s16 := cel_below hb s16
        replace xc0 := cel_below hb xc0
        replace xf0 := fro_below hb xz xf0
        replace xc1 := cel_below hb xc1
        replace xf1 := fro_below hb xz xf1
        replace xc2 := cel_below hb xc2
        replace xf2 := fro_below hb xz xf2
        replace xc3 := cel_below hb xc3
        replace xf3 := fro_below hb xz xf3
        replace xc4 := cel_below hb xc4
        replace xf4 := fro_below hb xz xf4
        replace xc5 := cel_below hb xc5
        replace xf5 := fro_below hb xz xf5
        replace xc6 := cel_below hb xc6
        replace xf6 := fro_below hb xz xf6
        replace xc7 := cel_below hb xc7
        replace xf7 := fro_below hb xz xf7
        replace xc8 := cel_below hb xc8
        replace xf8 := fro_below hb xz xf8
        replace xc9 := cel_below hb xc9
        replace xf9 := fro_below hb xz xf9
        replace xc10 := cel_below hb xc10
        replace xf10 := fro_below hb xz xf10
        replace xc11 := cel_below hb xc11
        replace xf11 := fro_below hb xz xf11
        replace xc12 := cel_below hb xc12
        replace xf12 := fro_below hb xz xf12
        replace xc13 := cel_below hb xc13
        replace xf13 := fro_below hb xz xf13
        replace xc14 := cel_below hb xc14
        replace xf14 := fro_below hb xz xf14
        replace xt := tag_below xt hb
        have xmn : wz46.heap.size ≠ wz51.heap.size := by omega
        replace xz := lt_below hb xz
        replace HF := Lib.hid (fz_keep HF.out hb)
        replace HN1 := Lib.hid (hasInts_keep HN1.out hb)
        replace LO := Nat.le_trans LO hb.size
        clear hb hwy
        refine hK.out _ _ ?_ (fun _ => ?_)
        · (try dsimp only); exact ⟨s0, s1, s2, s3, s4, s5, s6, s7, s8, s9, s10, s11, s12, s13, s14, s15, s16⟩
        clear hK K
        (try simp only [Act.put, List.setIfInBounds_toArray, List.set_cons_zero, List.set_cons_succ])
        refine wpAnyH_ready (rs := [23]) (by kernel_rfl) (by simp) ?_
        refine AllReadyH.cons (o := ?oi72) ?hi72 (fun K hK => ?rest72) AllReadyH.nil
        (case hi72 => (simp only [List.getElem?_toArray, List.getElem?_cons_succ, List.getElem?_cons_zero]; rfl))
        go_simp
        ((with_reducible refine (HA.out _ _ _ HN1.out (hasAccs_15 xc0 xc1 xc2 xc3 xc4 xc5 xc6 xc7 xc8 xc9 xc10 xc11 xc12 xc13 xc14)).mono ?_); rintro e wz73 ⟨am, cm, r3, rfl, hq, hb⟩)
        replace HW := Lib.hid (below_step HW.out hb)
        replace s0 := cel_below hb s0
        replace s1 := cel_below hb s1
        replace s2 := cel_below hb s2
        replace s3 := cel_below hb s3
        replace s4 := cel_below hb s4
        replace s5 := cel_below hb s5
        replace s6 := cel_below hb s6
        replace s7 := cel_below hb s7
        replace s8 := cel_below hb s8
        replace s9 := cel_below hb s9
        replace s10 := cel_below hb s10
        replace s11 := cel_below hb s11
        replace s12 := cel_below hb s12
        replace s13 := cel_below hb s13
        replace s14 := cel_below hb s14
        replace s15 := cel_below hb s15
        replace s16 := cel_below hb s16
        replace xc0 := cel_below hb xc0
        replace xf0 := fro_below hb xz xf0
        replace xc1 := cel_below hb xc1
        replace xf1 := fro_below hb xz xf1
        replace xc2 := cel_below hb xc2
        replace xf2 := fro_below hb xz xf2
        replace xc3 := cel_below hb xc3
        replace xf3 := fro_below hb xz xf3
        replace xc4 := cel_below hb xc4
        replace xf4 := fro_below hb xz xf4
        replace xc5 := cel_below hb xc5
        replace xf5 := fro_below hb xz xf5
        replace xc6 := cel_below hb xc6
        replace xf6 := fro_below hb xz xf6
        replace xc7 := cel_below hb xc7
        replace xf7 := fro_below hb xz xf7
        replace xc8 := cel_below hb xc8
        replace xf8 := fro_below hb xz xf8
        replace xc9 := cel_below hb xc9
        replace xf9 := fro_below hb xz xf9
        replace xc10 := cel_below hb xc10
        replace xf10 := fro_below hb xz xf10
        replace xc11 := cel_below hb xc11
        replace xf11 := fro_below hb xz xf11
        replace xc12 := cel_below hb xc12
        replace xf12 := fro_below hb xz xf12
        replace xc13 := cel_below hb xc13
        replace xf13 := fro_below hb xz xf13
        replace xc14 := cel_below hb xc14
        replace xf14 := fro_below hb xz xf14
        replace xz := lt_below hb xz
        replace xt := tag_below xt hb
        replace mc0 := cel_below hb mc0
        replace mf0 := fro_below hb mz mf0
        replace mz := lt_below hb mz
        replace mt := tag_below mt hb
        replace HF := Lib.hid (fz_keep HF.out hb)
        replace HN1 := Lib.hid (hasInts_keep HN1.out hb)
        have HM1 := Lib.hid hq
        clear hq HN1
        replace LO := Nat.le_trans LO hb.size
        clear hb
        refine hK.out _ _ ?_ (fun _ => ?_)
        · (try dsimp only); exact ⟨s0, s1, s2, s3, s4, s5, s6, s7, s8, s9, s10, s11, s12, s13, s14, s15, s16⟩
        clear hK K
        (try simp only [Act.put, List.setIfInBounds_toArray, List.set_cons_zero, List.set_cons_succ])
        have hHeld := And.intro s0 (And.intro s1 (And.intro s2 (And.intro s3 (And.intro s4 (And.intro s5 (And.intro s6 (And.intro s7 (And.intro s8 (And.intro s9 (And.intro s10 (And.intro s11 (And.intro s12 (And.intro s13 (And.intro s14 (And.intro s15 (s16))))))))))))))))
        refine wpAnyH_take (i := 24) (oi := ?oi74) (v := ?v74) ?hi74 (by kernel_rfl) (by kernel_rfl) (by kernel_rfl) ?hQ74 (Or.inl ⟨?hw74, ?hy74⟩) (by assumption) ?rest74; (case hi74 => (simp only [List.getElem?_toArray, List.getElem?_cons_succ, List.getElem?_cons_zero]; rfl)); (case hQ74 => exact fun _ _ _ h => h); (case hw74 => rfl); (case hy74 => ((intro w hSw); (try dsimp only at hSw); go_simp; (try with_reducible rfl)))
        (try simp only [Act.put, List.setIfInBounds_toArray, List.set_cons_zero, List.set_cons_succ])
        refine wpAnyH_take (i := 25) (oi := ?oi76) (v := ?v76) ?hi76 (by kernel_rfl) (by kernel_rfl) (by kernel_rfl) ?hQ76 (Or.inl ⟨?hw76, ?hy76⟩) (by assumption) ?rest76; (case hi76 => (simp only [List.getElem?_toArray, List.getElem?_cons_succ, List.getElem?_cons_zero]; rfl)); (case hQ76 => exact fun _ _ _ h => h); (case hw76 => rfl); (case hy76 => ((intro w hSw); (try dsimp only at hSw); go_simp; (try with_reducible rfl)))
        (try simp only [Act.put, List.setIfInBounds_toArray, List.set_cons_zero, List.set_cons_succ])
        refine wpAnyH_take (i := 26) (oi := ?oi78) (v := ?v78) ?hi78 (by kernel_rfl) (by kernel_rfl) (by kernel_rfl) ?hQ78 (Or.inl ⟨?hw78, ?hy78⟩) (by assumption) ?rest78; (case hi78 => (simp only [List.getElem?_toArray, List.getElem?_cons_succ, List.getElem?_cons_zero]; rfl)); (case hQ78 => exact fun _ _ _ h => h); (case hw78 => rfl); (case hy78 => ((intro w hSw); (try dsimp only at hSw); go_simp; (try with_reducible rfl)))
        (try simp only [Act.put, List.setIfInBounds_toArray, List.set_cons_zero, List.set_cons_succ])
        refine wpAnyH_take (i := 27) (oi := ?oi80) (v := ?v80) ?hi80 (by kernel_rfl) (by kernel_rfl) (by kernel_rfl) ?hQ80 (Or.inl ⟨?hw80, ?hy80⟩) (by assumption) ?rest80; (case hi80 => (simp only [List.getElem?_toArray, List.getElem?_cons_succ, List.getElem?_cons_zero]; rfl)); (case hQ80 => exact fun _ _ _ h => h); (case hw80 => rfl); (case hy80 => ((intro w hSw); (try dsimp only at hSw); go_simp; (try with_reducible rfl)))
        (try simp only [Act.put, List.setIfInBounds_toArray, List.set_cons_zero, List.set_cons_succ])
        clear hHeld
        refine wpAnyH_ready (rs := [29]) (by kernel_rfl) (by simp) ?_
        refine AllReadyH.cons (o := ?oi82) ?hi82 (fun K hK => ?rest82) AllReadyH.nil
        (case hi82 => (simp only [List.getElem?_toArray, List.getElem?_cons_succ, List.getElem?_cons_zero]; rfl))
        go_simp
        obtain ⟨wz83, hwy⟩ : ∃ W, W = (wz73.setCell ⟨wz51.heap.size, 0, none⟩ (.slice am 16 cm)) := ⟨_, rfl⟩
        rw [← hwy]
        have kp : ∀ {b' o' : Nat} {u : Value}, wz73.cell? ⟨b', o', none⟩ = some u → wz51.heap.size ≠ b' → wz83.cell? ⟨b', o', none⟩ = some u := fun h hn => by rw [hwy]; exact keepA_ (h) (Or.inl hn)
        replace s0 := kp s0 (by omega)
        replace s1 := kp s1 (by omega)
        replace s2 := kp s2 (by omega)
        replace s3 := kp s3 (by omega)
        replace s4 := kp s4 (by omega)
        replace s5 := kp s5 (by omega)
        replace s6 := kp s6 (by omega)
        replace s7 := kp s7 (by omega)
        replace s8 := kp s8 (by omega)
        replace s9 := kp s9 (by omega)
        replace s10 := kp s10 (by omega)
        replace s11 := kp s11 (by omega)
        replace s12 := kp s12 (by omega)
        replace s13 := kp s13 (by omega)
        replace s14 := kp s14 (by omega)
        replace s15 := kp s15 (by omega)
        replace s16 := kp s16 (by omega)
        clear kp
        replace xc0 : wz83.cell? ⟨wz46.heap.size, 0, none⟩ = some (.int .i64 2) := by rw [hwy]; exact keepA_ (xc0) (Or.inl (by omega))
        replace xf0 : wz83.frozen? ⟨wz46.heap.size, 0, none⟩ = false := by rw [hwy]; simpa using xf0
        replace xc1 : wz83.cell? ⟨wz46.heap.size, 1, none⟩ = some (.int .i64 p0) := by rw [hwy]; exact keepA_ (xc1) (Or.inl (by omega))
        replace xf1 : wz83.frozen? ⟨wz46.heap.size, 1, none⟩ = false := by rw [hwy]; simpa using xf1
        replace xc2 : wz83.cell? ⟨wz46.heap.size, 2, none⟩ = some (.int .i64 0) := by rw [hwy]; exact keepA_ (xc2) (Or.inl (by omega))
        replace xf2 : wz83.frozen? ⟨wz46.heap.size, 2, none⟩ = false := by rw [hwy]; simpa using xf2
        replace xc3 : wz83.cell? ⟨wz46.heap.size, 3, none⟩ = some (.int .i64 s) := by rw [hwy]; exact keepA_ (xc3) (Or.inl (by omega))
        replace xf3 : wz83.frozen? ⟨wz46.heap.size, 3, none⟩ = false := by rw [hwy]; simpa using xf3
        replace xc4 : wz83.cell? ⟨wz46.heap.size, 4, none⟩ = some (.string ⟨#[]⟩) := by rw [hwy]; exact keepA_ (xc4) (Or.inl (by omega))
        replace xf4 : wz83.frozen? ⟨wz46.heap.size, 4, none⟩ = false := by rw [hwy]; simpa using xf4
        replace xc5 : wz83.cell? ⟨wz46.heap.size, 5, none⟩ = some (.int .i64 2) := by rw [hwy]; exact keepA_ (xc5) (Or.inl (by omega))
        replace xf5 : wz83.frozen? ⟨wz46.heap.size, 5, none⟩ = false := by rw [hwy]; simpa using xf5
        replace xc6 : wz83.cell? ⟨wz46.heap.size, 6, none⟩ = some (.int .i64 p1) := by rw [hwy]; exact keepA_ (xc6) (Or.inl (by omega))
        replace xf6 : wz83.frozen? ⟨wz46.heap.size, 6, none⟩ = false := by rw [hwy]; simpa using xf6
        replace xc7 : wz83.cell? ⟨wz46.heap.size, 7, none⟩ = some (.int .i64 0) := by rw [hwy]; exact keepA_ (xc7) (Or.inl (by omega))
        replace xf7 : wz83.frozen? ⟨wz46.heap.size, 7, none⟩ = false := by rw [hwy]; simpa using xf7
        replace xc8 : wz83.cell? ⟨wz46.heap.size, 8, none⟩ = some (.int .i64 m.s) := by rw [hwy]; exact keepA_ (xc8) (Or.inl (by omega))
        replace xf8 : wz83.frozen? ⟨wz46.heap.size, 8, none⟩ = false := by rw [hwy]; simpa using xf8
        replace xc9 : wz83.cell? ⟨wz46.heap.size, 9, none⟩ = some (.string ⟨#[]⟩) := by rw [hwy]; exact keepA_ (xc9) (Or.inl (by omega))
        replace xf9 : wz83.frozen? ⟨wz46.heap.size, 9, none⟩ = false := by rw [hwy]; simpa using xf9
        replace xc10 : wz83.cell? ⟨wz46.heap.size, 10, none⟩ = some (.int .i64 2) := by rw [hwy]; exact keepA_ (xc10) (Or.inl (by omega))
        replace xf10 : wz83.frozen? ⟨wz46.heap.size, 10, none⟩ = false := by rw [hwy]; simpa using xf10
        replace xc11 : wz83.cell? ⟨wz46.heap.size, 11, none⟩ = some (.int .i64 p2) := by rw [hwy]; exact keepA_ (xc11) (Or.inl (by omega))
        replace xf11 : wz83.frozen? ⟨wz46.heap.size, 11, none⟩ = false := by rw [hwy]; simpa using xf11
        replace xc12 : wz83.cell? ⟨wz46.heap.size, 12, none⟩ = some (.int .i64 0) := by rw [hwy]; exact keepA_ (xc12) (Or.inl (by omega))
        replace xf12 : wz83.frozen? ⟨wz46.heap.size, 12, none⟩ = false := by rw [hwy]; simpa using xf12
        replace xc13 : wz83.cell? ⟨wz46.heap.size, 13, none⟩ = some (.int .i64 m.k) := by rw [hwy]; exact keepA_ (xc13) (Or.inl (by omega))
        replace xf13 : wz83.frozen? ⟨wz46.heap.size, 13, none⟩ = false := by rw [hwy]; simpa using xf13
        replace xc14 : wz83.cell? ⟨wz46.heap.size, 14, none⟩ = some (.string ⟨#[]⟩) := by rw [hwy]; exact keepA_ (xc14) (Or.inl (by omega))
        replace xf14 : wz83.frozen? ⟨wz46.heap.size, 14, none⟩ = false := by rw [hwy]; simpa using xf14
        replace HF : Hid (Fz wz83 (w.heap.size + 1 + 1)) := Lib.hid (by rw [hwy]; exact (fz_set HF.out _ _))
        replace HM1 := Lib.hid (hasInts_setS HM1.out mc0 (u := .slice am 16 cm))
        rw [← hwy] at HM1
        have md0 : wz83.cell? ⟨wz51.heap.size, 0, none⟩ = some (.slice am 16 cm) := by rw [hwy]; exact World.cell?_setCell_same _ _ _ mc0
        replace xt : Tag wz83 wz46.heap.size 32 := by rw [hwy]; exact (tag_set xt _ _)
        replace mt : Tag wz83 wz51.heap.size 55 := by rw [hwy]; exact (tag_set mt _ _)
        replace mf0 : wz83.frozen? ⟨wz51.heap.size, 0, none⟩ = false := by rw [hwy]; simpa using mf0
        replace HW := Lib.hid (Below.setCell (p := ⟨wz51.heap.size, 0, none⟩) HW.out (by have := HWS.out; dsimp only; omega) (.slice am 16 cm))
        rw [← hwy] at HW
        have hsz : wz83.heap.size = wz73.heap.size := by rw [hwy]; simp
        replace xz : wz46.heap.size < wz83.heap.size := by omega
        replace mz : wz51.heap.size < wz83.heap.size := by omega
        replace LO : _ ≤ wz83.heap.size := Nat.le_trans LO (Nat.le_of_eq hsz.symm)
        clear hsz hwy mc0
        have mc0 := md0
        clear md0
        refine hK.out _ _ ?_ (fun _ => ?_)
        · (try dsimp only); exact ⟨s0, s1, s2, s3, s4, s5, s6, s7, s8, s9, s10, s11, s12, s13, s14, s15, s16⟩
        clear hK K
        (try simp only [Act.put, List.setIfInBounds_toArray, List.set_cons_zero, List.set_cons_succ])
        have hHeld := And.intro s0 (And.intro s1 (And.intro s2 (And.intro s3 (And.intro s4 (And.intro s5 (And.intro s6 (And.intro s7 (And.intro s8 (And.intro s9 (And.intro s10 (And.intro s11 (And.intro s12 (And.intro s13 (And.intro s14 (And.intro s15 (s16))))))))))))))))
        refine wpAnyH_take (i := 30) (oi := ?oi84) (v := ?v84) ?hi84 (by kernel_rfl) (by kernel_rfl) (by kernel_rfl) ?hQ84 (Or.inl ⟨?hw84, ?hy84⟩) (by assumption) ?rest84; (case hi84 => (simp only [List.getElem?_toArray, List.getElem?_cons_succ, List.getElem?_cons_zero]; rfl)); (case hQ84 => exact fun _ _ _ h => h); (case hw84 => rfl); (case hy84 => ((intro w hSw); (try dsimp only at hSw); go_simp; (try with_reducible rfl)))
        (try simp only [Act.put, List.setIfInBounds_toArray, List.set_cons_zero, List.set_cons_succ])
        refine wpAnyH_take (i := 31) (oi := ?oi86) (v := ?v86) ?hi86 (by kernel_rfl) (by kernel_rfl) (by kernel_rfl) ?hQ86 (Or.inl ⟨?hw86, ?hy86⟩) (by assumption) ?rest86; (case hi86 => (simp only [List.getElem?_toArray, List.getElem?_cons_succ, List.getElem?_cons_zero]; rfl)); (case hQ86 => exact fun _ _ _ h => h); (case hw86 => rfl); (case hy86 => ((intro w hSw); (try dsimp only at hSw); go_simp; (try with_reducible rfl)))
        (try simp only [Act.put, List.setIfInBounds_toArray, List.set_cons_zero, List.set_cons_succ])
        clear hHeld
        refine wpAnyH_done (by kernel_rfl) ?_ _
        have ff := HF.out.2
        have kk := World.cell?_setCell_same wz83 ⟨w.heap.size + 1 + 1, 0, none⟩ (.slice am 16 cm) s16
        go_wp2
        refine bodyPost_ret (v := .agg #[.slice am 16 cm]) (by simp [results, Try.results36, go_sem, kk]) rfl ?_
        exact ⟨am, cm, rfl, hasInts_setS HM1.out s16, (HB0.out.trans (HW.out.mono (by have := HLO.out; omega))).setCell (by dsimp only; omega) _⟩
      case rest50 =>
       go_simp
       obtain ⟨wz88, hwy⟩ : ∃ W, W = wz46.alloc (.cells #[.slice none 0 0] 55) := ⟨_, rfl⟩
       rw [← hwy]
       have hb : Below wz46.heap.size wz46 wz88 := by rw [hwy]; exact below_new1 _ _
       have mc0 : wz88.cell? ⟨wz46.heap.size, 0, none⟩ = some (.slice none 0 0) := by rw [hwy, World.cell?_alloc_at _ _ _ _ rfl]; rfl
       have mf0 : wz88.frozen? ⟨wz46.heap.size, 0, none⟩ = false := by rw [hwy]; exact World.frozen?_alloc_at _ _ _ _ rfl
       have mt : Tag wz88 wz46.heap.size 55 := by rw [hwy]; exact tag_new _ _ _
       have mz : wz46.heap.size < wz88.heap.size := by rw [hwy]; simp
       have ml := LO
       replace HW := Lib.hid (below_step HW.out hb)
       replace s0 := cel_below hb s0
       replace s1 := cel_below hb s1
       replace s2 := cel_below hb s2
       replace s3 := cel_below hb s3
       replace s4 := cel_below hb s4
       replace s5 := cel_below hb s5
       replace s6 := cel_below hb s6
       replace s7 := cel_below hb s7
       replace s8 := cel_below hb s8
       replace s9 := cel_below hb s9
       replace s10 := cel_below hb s10
       replace s11 := cel_below hb s11
       replace s12 := cel_below hb s12
       replace s13 := cel_below hb s13
       replace s14 := cel_below hb s14
       replace s15 := cel_below hb s15
       replace s16 := cel_below hb s16
       replace HF := Lib.hid (fz_keep HF.out hb)
       replace HN1 := Lib.hid (hasInts_keep HN1.out hb)
       replace LO := Nat.le_trans LO hb.size
       clear hb hwy
       refine hK.out _ _ ?_ (fun _ => ?_)
       · (try dsimp only); exact ⟨s0, s1, s2, s3, s4, s5, s6, s7, s8, s9, s10, s11, s12, s13, s14, s15, s16⟩
       clear hK K
       (try simp only [Act.put, List.setIfInBounds_toArray, List.set_cons_zero, List.set_cons_succ])
       refine wpAnyH_ready (rs := [22]) (by kernel_rfl) (by simp) ?_
       refine AllReadyH.cons (o := ?oi89) ?hi89 (fun K hK => ?rest89) AllReadyH.nil
       (case hi89 => (simp only [List.getElem?_toArray, List.getElem?_cons_succ, List.getElem?_cons_zero]; rfl))
       go_simp
       obtain ⟨wz90, hwy⟩ : ∃ W, W = wz88.alloc (.cells #[.int .i64 2, .int .i64 p0, .int .i64 0, .int .i64 s, .string ⟨#[]⟩, .int .i64 2, .int .i64 p1, .int .i64 0, .int .i64 m.s, .string ⟨#[]⟩, .int .i64 2, .int .i64 p2, .int .i64 0, .int .i64 m.k, .string ⟨#[]⟩] 32) := ⟨_, rfl⟩
       rw [← hwy]
       have hb : Below wz88.heap.size wz88 wz90 := by rw [hwy]; exact below_new1 _ _
       have xc0 : wz90.cell? ⟨wz88.heap.size, 0, none⟩ = some (.int .i64 2) := by rw [hwy, World.cell?_alloc_at _ _ _ _ rfl]; rfl
       have xf0 : wz90.frozen? ⟨wz88.heap.size, 0, none⟩ = false := by rw [hwy]; exact World.frozen?_alloc_at _ _ _ _ rfl
       have xc1 : wz90.cell? ⟨wz88.heap.size, 1, none⟩ = some (.int .i64 p0) := by rw [hwy, World.cell?_alloc_at _ _ _ _ rfl]; rfl
       have xf1 : wz90.frozen? ⟨wz88.heap.size, 1, none⟩ = false := by rw [hwy]; exact World.frozen?_alloc_at _ _ _ _ rfl
       have xc2 : wz90.cell? ⟨wz88.heap.size, 2, none⟩ = some (.int .i64 0) := by rw [hwy, World.cell?_alloc_at _ _ _ _ rfl]; rfl
       have xf2 : wz90.frozen? ⟨wz88.heap.size, 2, none⟩ = false := by rw [hwy]; exact World.frozen?_alloc_at _ _ _ _ rfl
       have xc3 : wz90.cell? ⟨wz88.heap.size, 3, none⟩ = some (.int .i64 s) := by rw [hwy, World.cell?_alloc_at _ _ _ _ rfl]; rfl
       have xf3 : wz90.frozen? ⟨wz88.heap.size, 3, none⟩ = false := by rw [hwy]; exact World.frozen?_alloc_at _ _ _ _ rfl
       have xc4 : wz90.cell? ⟨wz88.heap.size, 4, none⟩ = some (.string ⟨#[]⟩) := by rw [hwy, World.cell?_alloc_at _ _ _ _ rfl]; rfl
       have xf4 : wz90.frozen? ⟨wz88.heap.size, 4, none⟩ = false := by rw [hwy]; exact World.frozen?_alloc_at _ _ _ _ rfl
       have xc5 : wz90.cell? ⟨wz88.heap.size, 5, none⟩ = some (.int .i64 2) := by rw [hwy, World.cell?_alloc_at _ _ _ _ rfl]; rfl
       have xf5 : wz90.frozen? ⟨wz88.heap.size, 5, none⟩ = false := by rw [hwy]; exact World.frozen?_alloc_at _ _ _ _ rfl
       have xc6 : wz90.cell? ⟨wz88.heap.size, 6, none⟩ = some (.int .i64 p1) := by rw [hwy, World.cell?_alloc_at _ _ _ _ rfl]; rfl
       have xf6 : wz90.frozen? ⟨wz88.heap.size, 6, none⟩ = false := by rw [hwy]; exact World.frozen?_alloc_at _ _ _ _ rfl
       have xc7 : wz90.cell? ⟨wz88.heap.size, 7, none⟩ = some (.int .i64 0) := by rw [hwy, World.cell?_alloc_at _ _ _ _ rfl]; rfl
       have xf7 : wz90.frozen? ⟨wz88.heap.size, 7, none⟩ = false := by rw [hwy]; exact World.frozen?_alloc_at _ _ _ _ rfl
       have xc8 : wz90.cell? ⟨wz88.heap.size, 8, none⟩ = some (.int .i64 m.s) := by rw [hwy, World.cell?_alloc_at _ _ _ _ rfl]; rfl
       have xf8 : wz90.frozen? ⟨wz88.heap.size, 8, none⟩ = false := by rw [hwy]; exact World.frozen?_alloc_at _ _ _ _ rfl
       have xc9 : wz90.cell? ⟨wz88.heap.size, 9, none⟩ = some (.string ⟨#[]⟩) := by rw [hwy, World.cell?_alloc_at _ _ _ _ rfl]; rfl
       have xf9 : wz90.frozen? ⟨wz88.heap.size, 9, none⟩ = false := by rw [hwy]; exact World.frozen?_alloc_at _ _ _ _ rfl
       have xc10 : wz90.cell? ⟨wz88.heap.size, 10, none⟩ = some (.int .i64 2) := by rw [hwy, World.cell?_alloc_at _ _ _ _ rfl]; rfl
       have xf10 : wz90.frozen? ⟨wz88.heap.size, 10, none⟩ = false := by rw [hwy]; exact World.frozen?_alloc_at _ _ _ _ rfl
       have xc11 : wz90.cell? ⟨wz88.heap.size, 11, none⟩ = some (.int .i64 p2) := by rw [hwy, World.cell?_alloc_at _ _ _ _ rfl]; rfl
       have xf11 : wz90.frozen? ⟨wz88.heap.size, 11, none⟩ = false := by rw [hwy]; exact World.frozen?_alloc_at _ _ _ _ rfl
       have xc12 : wz90.cell? ⟨wz88.heap.size, 12, none⟩ = some (.int .i64 0) := by rw [hwy, World.cell?_alloc_at _ _ _ _ rfl]; rfl
       have xf12 : wz90.frozen? ⟨wz88.heap.size, 12, none⟩ = false := by rw [hwy]; exact World.frozen?_alloc_at _ _ _ _ rfl
       have xc13 : wz90.cell? ⟨wz88.heap.size, 13, none⟩ = some (.int .i64 m.k) := by rw [hwy, World.cell?_alloc_at _ _ _ _ rfl]; rfl
       have xf13 : wz90.frozen? ⟨wz88.heap.size, 13, none⟩ = false := by rw [hwy]; exact World.frozen?_alloc_at _ _ _ _ rfl
       have xc14 : wz90.cell? ⟨wz88.heap.size, 14, none⟩ = some (.string ⟨#[]⟩) := by rw [hwy, World.cell?_alloc_at _ _ _ _ rfl]; rfl
       have xf14 : wz90.frozen? ⟨wz88.heap.size, 14, none⟩ = false := by rw [hwy]; exact World.frozen?_alloc_at _ _ _ _ rfl
       have xt : Tag wz90 wz88.heap.size 32 := by rw [hwy]; exact tag_new _ _ _
       have xz : wz88.heap.size < wz90.heap.size := by rw [hwy]; simp
       have xl := LO
       replace HW := Lib.hid (below_step HW.out hb)
       replace s0 := cel_below hb s0
       replace s1 := cel_below hb s1
       replace s2 := cel_below hb s2
       replace s3 := cel_below hb s3
       replace s4 := cel_below hb s4
       replace s5 := cel_below hb s5
       replace s6 := cel_below hb s6
       replace s7 := cel_below hb s7
       replace s8 := cel_below hb s8
       replace s9 := cel_below hb s9
       replace s10 := cel_below hb s10
       replace s11 := cel_below hb s11
       replace s12 := cel_below hb s12
       replace s13 := cel_below hb s13
       replace s14 := cel_below hb s14
       replace s15 := cel_below hb s15
       replace s16 := cel_below hb s16
       replace mc0 := cel_below hb mc0
       replace mf0 := fro_below hb mz mf0
       replace mt := tag_below mt hb
       have mxn : wz46.heap.size ≠ wz88.heap.size := by omega
       replace mz := lt_below hb mz
       replace HF := Lib.hid (fz_keep HF.out hb)
       replace HN1 := Lib.hid (hasInts_keep HN1.out hb)
       replace LO := Nat.le_trans LO hb.size
       clear hb hwy
       refine hK.out _ _ ?_ (fun _ => ?_)
       · (try dsimp only); exact ⟨s0, s1, s2, s3, s4, s5, s6, s7, s8, s9, s10, s11, s12, s13, s14, s15, s16⟩
       clear hK K
       (try simp only [Act.put, List.setIfInBounds_toArray, List.set_cons_zero, List.set_cons_succ])
       refine wpAnyH_ready (rs := [23]) (by kernel_rfl) (by simp) ?_
       refine AllReadyH.cons (o := ?oi91) ?hi91 (fun K hK => ?rest91) AllReadyH.nil
       (case hi91 => (simp only [List.getElem?_toArray, List.getElem?_cons_succ, List.getElem?_cons_zero]; rfl))
       go_simp
       ((with_reducible refine (HA.out _ _ _ HN1.out (hasAccs_15 xc0 xc1 xc2 xc3 xc4 xc5 xc6 xc7 xc8 xc9 xc10 xc11 xc12 xc13 xc14)).mono ?_); rintro e wz92 ⟨am, cm, r3, rfl, hq, hb⟩)
       replace HW := Lib.hid (below_step HW.out hb)
       replace s0 := cel_below hb s0
       replace s1 := cel_below hb s1
       replace s2 := cel_below hb s2
       replace s3 := cel_below hb s3
       replace s4 := cel_below hb s4
       replace s5 := cel_below hb s5
       replace s6 := cel_below hb s6
       replace s7 := cel_below hb s7
       replace s8 := cel_below hb s8
       replace s9 := cel_below hb s9
       replace s10 := cel_below hb s10
       replace s11 := cel_below hb s11
       replace s12 := cel_below hb s12
       replace s13 := cel_below hb s13
       replace s14 := cel_below hb s14
       replace s15 := cel_below hb s15
       replace s16 := cel_below hb s16
       replace mc0 := cel_below hb mc0
       replace mf0 := fro_below hb mz mf0
       replace mz := lt_below hb mz
       replace mt := tag_below mt hb
       replace xc0 := cel_below hb xc0
       replace xf0 := fro_below hb xz xf0
       replace xc1 := cel_below hb xc1
       replace xf1 := fro_below hb xz xf1
       replace xc2 := cel_below hb xc2
       replace xf2 := fro_below hb xz xf2
       replace xc3 := cel_below hb xc3
       replace xf3 := fro_below hb xz xf3
       replace xc4 := cel_below hb xc4
       replace xf4 := fro_below hb xz xf4
       replace xc5 := cel_below hb xc5
       replace xf5 := fro_below hb xz xf5
       replace xc6 := cel_below hb xc6
       replace xf6 := fro_below hb xz xf6
       replace xc7 := cel_below hb xc7
       replace xf7 := fro_below hb xz xf7
       replace xc8 := cel_below hb xc8
       replace xf8 := fro_below hb xz xf8
       replace xc9 := cel_below hb xc9
       replace xf9 := fro_below hb xz xf9
       replace xc10 := cel_below hb xc10
       replace xf10 := fro_below hb xz xf10
       replace xc11 := cel_below hb xc11
       replace xf11 := fro_below hb xz xf11
       replace xc12 := cel_below hb xc12
       replace xf12 := fro_below hb xz xf12
       replace xc13 := cel_below hb xc13
       replace xf13 := fro_below hb xz xf13
       replace xc14 := cel_below hb xc14
       replace xf14 := fro_below hb xz xf14
       replace xz := lt_below hb xz
       replace xt := tag_below xt hb
       replace HF := Lib.hid (fz_keep HF.out hb)
       replace HN1 := Lib.hid (hasInts_keep HN1.out hb)
       have HM1 := Lib.hid hq
       clear hq HN1
       replace LO := Nat.le_trans LO hb.size
       clear hb
       refine hK.out _ _ ?_ (fun _ => ?_)
       · (try dsimp only); exact ⟨s0, s1, s2, s3, s4, s5, s6, s7, s8, s9, s10, s11, s12, s13, s14, s15, s16⟩
       clear hK K
       (try simp only [Act.put, List.setIfInBounds_toArray, List.set_cons_zero, List.set_cons_succ])
       have hHeld := And.intro s0 (And.intro s1 (And.intro s2 (And.intro s3 (And.intro s4 (And.intro s5 (And.intro s6 (And.intro s7 (And.intro s8 (And.intro s9 (And.intro s10 (And.intro s11 (And.intro s12 (And.intro s13 (And.intro s14 (And.intro s15 (s16))))))))))))))))
       refine wpAnyH_take (i := 24) (oi := ?oi93) (v := ?v93) ?hi93 (by kernel_rfl) (by kernel_rfl) (by kernel_rfl) ?hQ93 (Or.inl ⟨?hw93, ?hy93⟩) (by assumption) ?rest93; (case hi93 => (simp only [List.getElem?_toArray, List.getElem?_cons_succ, List.getElem?_cons_zero]; rfl)); (case hQ93 => exact fun _ _ _ h => h); (case hw93 => rfl); (case hy93 => ((intro w hSw); (try dsimp only at hSw); go_simp; (try with_reducible rfl)))
       (try simp only [Act.put, List.setIfInBounds_toArray, List.set_cons_zero, List.set_cons_succ])
       refine wpAnyH_take (i := 25) (oi := ?oi95) (v := ?v95) ?hi95 (by kernel_rfl) (by kernel_rfl) (by kernel_rfl) ?hQ95 (Or.inl ⟨?hw95, ?hy95⟩) (by assumption) ?rest95; (case hi95 => (simp only [List.getElem?_toArray, List.getElem?_cons_succ, List.getElem?_cons_zero]; rfl)); (case hQ95 => exact fun _ _ _ h => h); (case hw95 => rfl); (case hy95 => ((intro w hSw); (try dsimp only at hSw); go_simp; (try with_reducible rfl)))
       (try simp only [Act.put, List.setIfInBounds_toArray, List.set_cons_zero, List.set_cons_succ])
       refine wpAnyH_take (i := 26) (oi := ?oi97) (v := ?v97) ?hi97 (by kernel_rfl) (by kernel_rfl) (by kernel_rfl) ?hQ97 (Or.inl ⟨?hw97, ?hy97⟩) (by assumption) ?rest97; (case hi97 => (simp only [List.getElem?_toArray, List.getElem?_cons_succ, List.getElem?_cons_zero]; rfl)); (case hQ97 => exact fun _ _ _ h => h); (case hw97 => rfl); (case hy97 => ((intro w hSw); (try dsimp only at hSw); go_simp; (try with_reducible rfl)))
       (try simp only [Act.put, List.setIfInBounds_toArray, List.set_cons_zero, List.set_cons_succ])
       refine wpAnyH_take (i := 27) (oi := ?oi99) (v := ?v99) ?hi99 (by kernel_rfl) (by kernel_rfl) (by kernel_rfl) ?hQ99 (Or.inl ⟨?hw99, ?hy99⟩) (by assumption) ?rest99; (case hi99 => (simp only [List.getElem?_toArray, List.getElem?_cons_succ, List.getElem?_cons_zero]; rfl)); (case hQ99 => exact fun _ _ _ h => h); (case hw99 => rfl); (case hy99 => ((intro w hSw); (try dsimp only at hSw); go_simp; (try with_reducible rfl)))
       (try simp only [Act.put, List.setIfInBounds_toArray, List.set_cons_zero, List.set_cons_succ])
       clear hHeld
       refine wpAnyH_ready (rs := [29]) (by kernel_rfl) (by simp) ?_
       refine AllReadyH.cons (o := ?oi101) ?hi101 (fun K hK => ?rest101) AllReadyH.nil
       (case hi101 => (simp only [List.getElem?_toArray, List.getElem?_cons_succ, List.getElem?_cons_zero]; rfl))
       go_simp
       obtain ⟨wz102, hwy⟩ : ∃ W, W = (wz92.setCell ⟨wz46.heap.size, 0, none⟩ (.slice am 16 cm)) := ⟨_, rfl⟩
       rw [← hwy]
       have kp : ∀ {b' o' : Nat} {u : Value}, wz92.cell? ⟨b', o', none⟩ = some u → wz46.heap.size ≠ b' → wz102.cell? ⟨b', o', none⟩ = some u := fun h hn => by rw [hwy]; exact keepA_ (h) (Or.inl hn)
       replace s0 := kp s0 (by omega)
       replace s1 := kp s1 (by omega)
       replace s2 := kp s2 (by omega)
       replace s3 := kp s3 (by omega)
       replace s4 := kp s4 (by omega)
       replace s5 := kp s5 (by omega)
       replace s6 := kp s6 (by omega)
       replace s7 := kp s7 (by omega)
       replace s8 := kp s8 (by omega)
       replace s9 := kp s9 (by omega)
       replace s10 := kp s10 (by omega)
       replace s11 := kp s11 (by omega)
       replace s12 := kp s12 (by omega)
       replace s13 := kp s13 (by omega)
       replace s14 := kp s14 (by omega)
       replace s15 := kp s15 (by omega)
       replace s16 := kp s16 (by omega)
       clear kp
       replace xc0 : wz102.cell? ⟨wz88.heap.size, 0, none⟩ = some (.int .i64 2) := by rw [hwy]; exact keepA_ (xc0) (Or.inl (by omega))
       replace xf0 : wz102.frozen? ⟨wz88.heap.size, 0, none⟩ = false := by rw [hwy]; simpa using xf0
       replace xc1 : wz102.cell? ⟨wz88.heap.size, 1, none⟩ = some (.int .i64 p0) := by rw [hwy]; exact keepA_ (xc1) (Or.inl (by omega))
       replace xf1 : wz102.frozen? ⟨wz88.heap.size, 1, none⟩ = false := by rw [hwy]; simpa using xf1
       replace xc2 : wz102.cell? ⟨wz88.heap.size, 2, none⟩ = some (.int .i64 0) := by rw [hwy]; exact keepA_ (xc2) (Or.inl (by omega))
       replace xf2 : wz102.frozen? ⟨wz88.heap.size, 2, none⟩ = false := by rw [hwy]; simpa using xf2
       replace xc3 : wz102.cell? ⟨wz88.heap.size, 3, none⟩ = some (.int .i64 s) := by rw [hwy]; exact keepA_ (xc3) (Or.inl (by omega))
       replace xf3 : wz102.frozen? ⟨wz88.heap.size, 3, none⟩ = false := by rw [hwy]; simpa using xf3
       replace xc4 : wz102.cell? ⟨wz88.heap.size, 4, none⟩ = some (.string ⟨#[]⟩) := by rw [hwy]; exact keepA_ (xc4) (Or.inl (by omega))
       replace xf4 : wz102.frozen? ⟨wz88.heap.size, 4, none⟩ = false := by rw [hwy]; simpa using xf4
       replace xc5 : wz102.cell? ⟨wz88.heap.size, 5, none⟩ = some (.int .i64 2) := by rw [hwy]; exact keepA_ (xc5) (Or.inl (by omega))
       replace xf5 : wz102.frozen? ⟨wz88.heap.size, 5, none⟩ = false := by rw [hwy]; simpa using xf5
       replace xc6 : wz102.cell? ⟨wz88.heap.size, 6, none⟩ = some (.int .i64 p1) := by rw [hwy]; exact keepA_ (xc6) (Or.inl (by omega))
       replace xf6 : wz102.frozen? ⟨wz88.heap.size, 6, none⟩ = false := by rw [hwy]; simpa using xf6
       replace xc7 : wz102.cell? ⟨wz88.heap.size, 7, none⟩ = some (.int .i64 0) := by rw [hwy]; exact keepA_ (xc7) (Or.inl (by omega))
       replace xf7 : wz102.frozen? ⟨wz88.heap.size, 7, none⟩ = false := by rw [hwy]; simpa using xf7
       replace xc8 : wz102.cell? ⟨wz88.heap.size, 8, none⟩ = some (.int .i64 m.s) := by rw [hwy]; exact keepA_ (xc8) (Or.inl (by omega))
       replace xf8 : wz102.frozen? ⟨wz88.heap.size, 8, none⟩ = false := by rw [hwy]; simpa using xf8
       replace xc9 : wz102.cell? ⟨wz88.heap.size, 9, none⟩ = some (.string ⟨#[]⟩) := by rw [hwy]; exact keepA_ (xc9) (Or.inl (by omega))
       replace xf9 : wz102.frozen? ⟨wz88.heap.size, 9, none⟩ = false := by rw [hwy]; simpa using xf9
       replace xc10 : wz102.cell? ⟨wz88.heap.size, 10, none⟩ = some (.int .i64 2) := by rw [hwy]; exact keepA_ (xc10) (Or.inl (by omega))
       replace xf10 : wz102.frozen? ⟨wz88.heap.size, 10, none⟩ = false := by rw [hwy]; simpa using xf10
       replace xc11 : wz102.cell? ⟨wz88.heap.size, 11, none⟩ = some (.int .i64 p2) := by rw [hwy]; exact keepA_ (xc11) (Or.inl (by omega))
       replace xf11 : wz102.frozen? ⟨wz88.heap.size, 11, none⟩ = false := by rw [hwy]; simpa using xf11
       replace xc12 : wz102.cell? ⟨wz88.heap.size, 12, none⟩ = some (.int .i64 0) := by rw [hwy]; exact keepA_ (xc12) (Or.inl (by omega))
       replace xf12 : wz102.frozen? ⟨wz88.heap.size, 12, none⟩ = false := by rw [hwy]; simpa using xf12
       replace xc13 : wz102.cell? ⟨wz88.heap.size, 13, none⟩ = some (.int .i64 m.k) := by rw [hwy]; exact keepA_ (xc13) (Or.inl (by omega))
       replace xf13 : wz102.frozen? ⟨wz88.heap.size, 13, none⟩ = false := by rw [hwy]; simpa using xf13
       replace xc14 : wz102.cell? ⟨wz88.heap.size, 14, none⟩ = some (.string ⟨#[]⟩) := by rw [hwy]; exact keepA_ (xc14) (Or.inl (by omega))
       replace xf14 : wz102.frozen? ⟨wz88.heap.size, 14, none⟩ = false := by rw [hwy]; simpa using xf14
       replace HF : Hid (Fz wz102 (w.heap.size + 1 + 1)) := Lib.hid (by rw [hwy]; exact (fz_set HF.out _ _))
       replace HM1 := Lib.hid (hasInts_setS HM1.out mc0 (u := .slice am 16 cm))
       rw [← hwy] at HM1
       have md0 : wz102.cell? ⟨wz46.heap.size, 0, none⟩ = some (.slice am 16 cm) := by rw [hwy]; exact World.cell?_setCell_same _ _ _ mc0
       replace mt : Tag wz102 wz46.heap.size 55 := by rw [hwy]; exact (tag_set mt _ _)
       replace xt : Tag wz102 wz88.heap.size 32 := by rw [hwy]; exact (tag_set xt _ _)
       replace mf0 : wz102.frozen? ⟨wz46.heap.size, 0, none⟩ = false := by rw [hwy]; simpa using mf0
       replace HW := Lib.hid (Below.setCell (p := ⟨wz46.heap.size, 0, none⟩) HW.out (by have := HWS.out; dsimp only; omega) (.slice am 16 cm))
       rw [← hwy] at HW
       have hsz : wz102.heap.size = wz92.heap.size := by rw [hwy]; simp
       replace mz : wz46.heap.size < wz102.heap.size := by omega
       replace xz : wz88.heap.size < wz102.heap.size := by omega
       replace LO : _ ≤ wz102.heap.size := Nat.le_trans LO (Nat.le_of_eq hsz.symm)
       clear hsz hwy mc0
       have mc0 := md0
       clear md0
       refine hK.out _ _ ?_ (fun _ => ?_)
       · (try dsimp only); exact ⟨s0, s1, s2, s3, s4, s5, s6, s7, s8, s9, s10, s11, s12, s13, s14, s15, s16⟩
       clear hK K
       (try simp only [Act.put, List.setIfInBounds_toArray, List.set_cons_zero, List.set_cons_succ])
       have hHeld := And.intro s0 (And.intro s1 (And.intro s2 (And.intro s3 (And.intro s4 (And.intro s5 (And.intro s6 (And.intro s7 (And.intro s8 (And.intro s9 (And.intro s10 (And.intro s11 (And.intro s12 (And.intro s13 (And.intro s14 (And.intro s15 (s16))))))))))))))))
       refine wpAnyH_take (i := 30) (oi := ?oi103) (v := ?v103) ?hi103 (by kernel_rfl) (by kernel_rfl) (by kernel_rfl) ?hQ103 (Or.inl ⟨?hw103, ?hy103⟩) (by assumption) ?rest103; (case hi103 => (simp only [List.getElem?_toArray, List.getElem?_cons_succ, List.getElem?_cons_zero]; rfl)); (case hQ103 => exact fun _ _ _ h => h); (case hw103 => rfl); (case hy103 => ((intro w hSw); (try dsimp only at hSw); go_simp; (try with_reducible rfl)))
       (try simp only [Act.put, List.setIfInBounds_toArray, List.set_cons_zero, List.set_cons_succ])
       refine wpAnyH_take (i := 31) (oi := ?oi105) (v := ?v105) ?hi105 (by kernel_rfl) (by kernel_rfl) (by kernel_rfl) ?hQ105 (Or.inl ⟨?hw105, ?hy105⟩) (by assumption) ?rest105; (case hi105 => (simp only [List.getElem?_toArray, List.getElem?_cons_succ, List.getElem?_cons_zero]; rfl)); (case hQ105 => exact fun _ _ _ h => h); (case hw105 => rfl); (case hy105 => ((intro w hSw); (try dsimp only at hSw); go_simp; (try with_reducible rfl)))
       (try simp only [Act.put, List.setIfInBounds_toArray, List.set_cons_zero, List.set_cons_succ])
       clear hHeld
       refine wpAnyH_done (by kernel_rfl) ?_ _
       have ff := HF.out.2
       have kk := World.cell?_setCell_same wz102 ⟨w.heap.size + 1 + 1, 0, none⟩ (.slice am 16 cm) s16
       go_wp2
       refine bodyPost_ret (v := .agg #[.slice am 16 cm]) (by simp [results, Try.results36, go_sem, kk]) rfl ?_
       exact ⟨am, cm, rfl, hasInts_setS HM1.out s16, (HB0.out.trans (HW.out.mono (by have := HLO.out; omega))).setCell (by dsimp only; omega) _⟩
     case rest45 =>
      go_simp
      obtain ⟨wz107, hwy⟩ : ∃ W, W = wz41.alloc (.cells #[.slice none 0 0] 55) := ⟨_, rfl⟩
      rw [← hwy]
      have hb : Below wz41.heap.size wz41 wz107 := by rw [hwy]; exact below_new1 _ _
      have mc0 : wz107.cell? ⟨wz41.heap.size, 0, none⟩ = some (.slice none 0 0) := by rw [hwy, World.cell?_alloc_at _ _ _ _ rfl]; rfl
      have mf0 : wz107.frozen? ⟨wz41.heap.size, 0, none⟩ = false := by rw [hwy]; exact World.frozen?_alloc_at _ _ _ _ rfl
      have mt : Tag wz107 wz41.heap.size 55 := by rw [hwy]; exact tag_new _ _ _
      have mz : wz41.heap.size < wz107.heap.size := by rw [hwy]; simp
      have ml := LO
      replace HW := Lib.hid (below_step HW.out hb)
      replace s0 := cel_below hb s0
      replace s1 := cel_below hb s1
      replace s2 := cel_below hb s2
      replace s3 := cel_below hb s3
      replace s4 := cel_below hb s4
      replace s5 := cel_below hb s5
      replace s6 := cel_below hb s6
      replace s7 := cel_below hb s7
      replace s8 := cel_below hb s8
      replace s9 := cel_below hb s9
      replace s10 := cel_below hb s10
      replace s11 := cel_below hb s11
      replace s12 := cel_below hb s12
      replace s13 := cel_below hb s13
      replace s14 := cel_below hb s14
      replace s15 := cel_below hb s15
      replace s16 := cel_below hb s16
      replace HF := Lib.hid (fz_keep HF.out hb)
      replace HN1 := Lib.hid (hasInts_keep HN1.out hb)
      replace LO := Nat.le_trans LO hb.size
      clear hb hwy
      refine hK.out _ _ ?_ (fun _ => ?_)
      · (try dsimp only); exact ⟨s0, s1, s2, s3, s4, s5, s6, s7, s8, s9, s10, s11, s12, s13, s14, s15, s16⟩
      clear hK K
      (try simp only [Act.put, List.setIfInBounds_toArray, List.set_cons_zero, List.set_cons_succ])
      refine wpAnyH_ready (rs := [18]) (by kernel_rfl) (by simp) ?_
      refine AllReadyH.cons (o := ?oi108) ?hi108 (fun K hK => ?rest108) AllReadyH.nil
      (case hi108 => (simp only [List.getElem?_toArray, List.getElem?_cons_succ, List.getElem?_cons_zero]; rfl))
      go_simp
      ((with_reducible refine (HK.out _).mono ?_); rintro e wz109 ⟨rfl, hb⟩)
      replace HW := Lib.hid (below_step HW.out hb)
      replace s0 := cel_below hb s0
      replace s1 := cel_below hb s1
      replace s2 := cel_below hb s2
      replace s3 := cel_below hb s3
      replace s4 := cel_below hb s4
      replace s5 := cel_below hb s5
      replace s6 := cel_below hb s6
      replace s7 := cel_below hb s7
      replace s8 := cel_below hb s8
      replace s9 := cel_below hb s9
      replace s10 := cel_below hb s10
      replace s11 := cel_below hb s11
      replace s12 := cel_below hb s12
      replace s13 := cel_below hb s13
      replace s14 := cel_below hb s14
      replace s15 := cel_below hb s15
      replace s16 := cel_below hb s16
      replace mc0 := cel_below hb mc0
      replace mf0 := fro_below hb mz mf0
      replace mz := lt_below hb mz
      replace mt := tag_below mt hb
      replace HF := Lib.hid (fz_keep HF.out hb)
      replace HN1 := Lib.hid (hasInts_keep HN1.out hb)
      replace LO := Nat.le_trans LO hb.size
      clear hb
      refine hK.out _ _ ?_ (fun _ => ?_)
      · (try dsimp only); exact ⟨s0, s1, s2, s3, s4, s5, s6, s7, s8, s9, s10, s11, s12, s13, s14, s15, s16⟩
      clear hK K
      (try simp only [Act.put, List.setIfInBounds_toArray, List.set_cons_zero, List.set_cons_succ])
      have hHeld := And.intro s0 (And.intro s1 (And.intro s2 (And.intro s3 (And.intro s4 (And.intro s5 (And.intro s6 (And.intro s7 (And.intro s8 (And.intro s9 (And.intro s10 (And.intro s11 (And.intro s12 (And.intro s13 (And.intro s14 (And.intro s15 (s16))))))))))))))))
      refine wpAnyH_take (i := 21) (oi := ?oi110) (v := ?v110) ?hi110 (by kernel_rfl) (by kernel_rfl) (by kernel_rfl) ?hQ110 (Or.inl ⟨?hw110, ?hy110⟩) (by assumption) ?rest110; (case hi110 => (simp only [List.getElem?_toArray, List.getElem?_cons_succ, List.getElem?_cons_zero]; rfl)); (case hQ110 => exact fun _ _ _ h => h); (case hw110 => rfl); (case hy110 => ((intro w hSw); (try dsimp only at hSw); go_simp; (try with_reducible rfl)))
      (try simp only [Act.put, List.setIfInBounds_toArray, List.set_cons_zero, List.set_cons_succ])
      clear hHeld
      refine wpAnyH_ready (rs := [22]) (by kernel_rfl) (by simp) ?_
      refine AllReadyH.cons (o := ?oi112) ?hi112 (fun K hK => ?rest112) AllReadyH.nil
      (case hi112 => (simp only [List.getElem?_toArray, List.getElem?_cons_succ, List.getElem?_cons_zero]; rfl))
      go_simp
      obtain ⟨wz113, hwy⟩ : ∃ W, W = wz109.alloc (.cells #[.int .i64 2, .int .i64 p0, .int .i64 0, .int .i64 s, .string ⟨#[]⟩, .int .i64 2, .int .i64 p1, .int .i64 0, .int .i64 m.s, .string ⟨#[]⟩, .int .i64 2, .int .i64 p2, .int .i64 0, .int .i64 m.k, .string ⟨#[]⟩] 32) := ⟨_, rfl⟩
      rw [← hwy]
      have hb : Below wz109.heap.size wz109 wz113 := by rw [hwy]; exact below_new1 _ _
      have xc0 : wz113.cell? ⟨wz109.heap.size, 0, none⟩ = some (.int .i64 2) := by rw [hwy, World.cell?_alloc_at _ _ _ _ rfl]; rfl
      have xf0 : wz113.frozen? ⟨wz109.heap.size, 0, none⟩ = false := by rw [hwy]; exact World.frozen?_alloc_at _ _ _ _ rfl
      have xc1 : wz113.cell? ⟨wz109.heap.size, 1, none⟩ = some (.int .i64 p0) := by rw [hwy, World.cell?_alloc_at _ _ _ _ rfl]; rfl
      have xf1 : wz113.frozen? ⟨wz109.heap.size, 1, none⟩ = false := by rw [hwy]; exact World.frozen?_alloc_at _ _ _ _ rfl
      have xc2 : wz113.cell? ⟨wz109.heap.size, 2, none⟩ = some (.int .i64 0) := by rw [hwy, World.cell?_alloc_at _ _ _ _ rfl]; rfl
      have xf2 : wz113.frozen? ⟨wz109.heap.size, 2, none⟩ = false := by rw [hwy]; exact World.frozen?_alloc_at _ _ _ _ rfl
      have xc3 : wz113.cell? ⟨wz109.heap.size, 3, none⟩ = some (.int .i64 s) := by rw [hwy, World.cell?_alloc_at _ _ _ _ rfl]; rfl
      have xf3 : wz113.frozen? ⟨wz109.heap.size, 3, none⟩ = false := by rw [hwy]; exact World.frozen?_alloc_at _ _ _ _ rfl
      have xc4 : wz113.cell? ⟨wz109.heap.size, 4, none⟩ = some (.string ⟨#[]⟩) := by rw [hwy, World.cell?_alloc_at _ _ _ _ rfl]; rfl
      have xf4 : wz113.frozen? ⟨wz109.heap.size, 4, none⟩ = false := by rw [hwy]; exact World.frozen?_alloc_at _ _ _ _ rfl
      have xc5 : wz113.cell? ⟨wz109.heap.size, 5, none⟩ = some (.int .i64 2) := by rw [hwy, World.cell?_alloc_at _ _ _ _ rfl]; rfl
      have xf5 : wz113.frozen? ⟨wz109.heap.size, 5, none⟩ = false := by rw [hwy]; exact World.frozen?_alloc_at _ _ _ _ rfl
      have xc6 : wz113.cell? ⟨wz109.heap.size, 6, none⟩ = some (.int .i64 p1) := by rw [hwy, World.cell?_alloc_at _ _ _ _ rfl]; rfl
      have xf6 : wz113.frozen? ⟨wz109.heap.size, 6, none⟩ = false := by rw [hwy]; exact World.frozen?_alloc_at _ _ _ _ rfl
      have xc7 : wz113.cell? ⟨wz109.heap.size, 7, none⟩ = some (.int .i64 0) := by rw [hwy, World.cell?_alloc_at _ _ _ _ rfl]; rfl
      have xf7 : wz113.frozen? ⟨wz109.heap.size, 7, none⟩ = false := by rw [hwy]; exact World.frozen?_alloc_at _ _ _ _ rfl
      have xc8 : wz113.cell? ⟨wz109.heap.size, 8, none⟩ = some (.int .i64 m.s) := by rw [hwy, World.cell?_alloc_at _ _ _ _ rfl]; rfl
      have xf8 : wz113.frozen? ⟨wz109.heap.size, 8, none⟩ = false := by rw [hwy]; exact World.frozen?_alloc_at _ _ _ _ rfl
      have xc9 : wz113.cell? ⟨wz109.heap.size, 9, none⟩ = some (.string ⟨#[]⟩) := by rw [hwy, World.cell?_alloc_at _ _ _ _ rfl]; rfl
      have xf9 : wz113.frozen? ⟨wz109.heap.size, 9, none⟩ = false := by rw [hwy]; exact World.frozen?_alloc_at _ _ _ _ rfl
      have xc10 : wz113.cell? ⟨wz109.heap.size, 10, none⟩ = some (.int .i64 2) := by rw [hwy, World.cell?_alloc_at _ _ _ _ rfl]; rfl
      have xf10 : wz113.frozen? ⟨wz109.heap.size, 10, none⟩ = false := by rw [hwy]; exact World.frozen?_alloc_at _ _ _ _ rfl
      have xc11 : wz113.cell? ⟨wz109.heap.size, 11, none⟩ = some (.int .i64 p2) := by rw [hwy, World.cell?_alloc_at _ _ _ _ rfl]; rfl
      have xf11 : wz113.frozen? ⟨wz109.heap.size, 11, none⟩ = false := by rw [hwy]; exact World.frozen?_alloc_at _ _ _ _ rfl
      have xc12 : wz113.cell? ⟨wz109.heap.size, 12, none⟩ = some (.int .i64 0) := by rw [hwy, World.cell?_alloc_at _ _ _ _ rfl]; rfl
      have xf12 : wz113.frozen? ⟨wz109.heap.size, 12, none⟩ = false := by rw [hwy]; exact World.frozen?_alloc_at _ _ _ _ rfl
      have xc13 : wz113.cell? ⟨wz109.heap.size, 13, none⟩ = some (.int .i64 m.k) := by rw [hwy, World.cell?_alloc_at _ _ _ _ rfl]; rfl
      have xf13 : wz113.frozen? ⟨wz109.heap.size, 13, none⟩ = false := by rw [hwy]; exact World.frozen?_alloc_at _ _ _ _ rfl
      have xc14 : wz113.cell? ⟨wz109.heap.size, 14, none⟩ = some (.string ⟨#[]⟩) := by rw [hwy, World.cell?_alloc_at _ _ _ _ rfl]; rfl
      have xf14 : wz113.frozen? ⟨wz109.heap.size, 14, none⟩ = false := by rw [hwy]; exact World.frozen?_alloc_at _ _ _ _ rfl
      have xt : Tag wz113 wz109.heap.size 32 := by rw [hwy]; exact tag_new _ _ _
      have xz : wz109.heap.size < wz113.heap.size := by rw [hwy]; simp
      have xl := LO
      replace HW := Lib.hid (below_step HW.out hb)
      replace s0 := cel_below hb s0
      replace s1 := cel_below hb s1
      replace s2 := cel_below hb s2
      replace s3 := cel_below hb s3
      replace s4 := cel_below hb s4
      replace s5 := cel_below hb s5
      replace s6 := cel_below hb s6
      replace s7 := cel_below hb s7
      replace s8 := cel_below hb s8
      replace s9 := cel_below hb s9
      replace s10 := cel_below hb s10
      replace s11 := cel_below hb s11
      replace s12 := cel_below hb s12
      replace s13 := cel_below hb s13
      replace s14 := cel_below hb s14
      replace s15 := cel_below hb s15
      replace s16 := cel_below hb s16
      replace mc0 := cel_below hb mc0
      replace mf0 := fro_below hb mz mf0
      replace mt := tag_below mt hb
      have mxn : wz41.heap.size ≠ wz109.heap.size := by omega
      replace mz := lt_below hb mz
      replace HF := Lib.hid (fz_keep HF.out hb)
      replace HN1 := Lib.hid (hasInts_keep HN1.out hb)
      replace LO := Nat.le_trans LO hb.size
      clear hb hwy
      refine hK.out _ _ ?_ (fun _ => ?_)
      · (try dsimp only); exact ⟨s0, s1, s2, s3, s4, s5, s6, s7, s8, s9, s10, s11, s12, s13, s14, s15, s16⟩
      clear hK K
      (try simp only [Act.put, List.setIfInBounds_toArray, List.set_cons_zero, List.set_cons_succ])
      refine wpAnyH_ready (rs := [23]) (by kernel_rfl) (by simp) ?_
      refine AllReadyH.cons (o := ?oi114) ?hi114 (fun K hK => ?rest114) AllReadyH.nil
      (case hi114 => (simp only [List.getElem?_toArray, List.getElem?_cons_succ, List.getElem?_cons_zero]; rfl))
      go_simp
      ((with_reducible refine (HA.out _ _ _ HN1.out (hasAccs_15 xc0 xc1 xc2 xc3 xc4 xc5 xc6 xc7 xc8 xc9 xc10 xc11 xc12 xc13 xc14)).mono ?_); rintro e wz115 ⟨am, cm, r3, rfl, hq, hb⟩)
      replace HW := Lib.hid (below_step HW.out hb)
      replace s0 := cel_below hb s0
      replace s1 := cel_below hb s1
      replace s2 := cel_below hb s2
      replace s3 := cel_below hb s3
      replace s4 := cel_below hb s4
      replace s5 := cel_below hb s5
      replace s6 := cel_below hb s6
      replace s7 := cel_below hb s7
      replace s8 := cel_below hb s8
      replace s9 := cel_below hb s9
      replace s10 := cel_below hb s10
      replace s11 := cel_below hb s11
      replace s12 := cel_below hb s12
      replace s13 := cel_below hb s13
      replace s14 := cel_below hb s14
      replace s15 := cel_below hb s15
      replace s16 := cel_below hb s16
      replace mc0 := cel_below hb mc0
      replace mf0 := fro_below hb mz mf0
      replace mz := lt_below hb mz
      replace mt := tag_below mt hb
      replace xc0 := cel_below hb xc0
      replace xf0 := fro_below hb xz xf0
      replace xc1 := cel_below hb xc1
      replace xf1 := fro_below hb xz xf1
      replace xc2 := cel_below hb xc2
      replace xf2 := fro_below hb xz xf2
      replace xc3 := cel_below hb xc3
      replace xf3 := fro_below hb xz xf3
      replace xc4 := cel_below hb xc4
      replace xf4 := fro_below hb xz xf4
      replace xc5 := cel_below hb xc5
      replace xf5 := fro_below hb xz xf5
      replace xc6 := cel_below hb xc6
      replace xf6 := fro_below hb xz xf6
      replace xc7 := cel_below hb xc7
      replace xf7 := fro_below hb xz xf7
      replace xc8 := cel_below hb xc8
      replace xf8 := fro_below hb xz xf8
      replace xc9 := cel_below hb xc9
      replace xf9 := fro_below hb xz xf9
      replace xc10 := cel_below hb xc10
      replace xf10 := fro_below hb xz xf10
      replace xc11 := cel_below hb xc11
      replace xf11 := fro_below hb xz xf11
      replace xc12 := cel_below hb xc12
      replace xf12 := fro_below hb xz xf12
      replace xc13 := cel_below hb xc13
      replace xf13 := fro_below hb xz xf13
      replace xc14 := cel_below hb xc14
      replace xf14 := fro_below hb xz xf14
      replace xz := lt_below hb xz
      replace xt := tag_below xt hb
      replace HF := Lib.hid (fz_keep HF.out hb)
      replace HN1 := Lib.hid (hasInts_keep HN1.out hb)
      have HM1 := Lib.hid hq
      clear hq HN1
      replace LO := Nat.le_trans LO hb.size
      clear hb
      refine hK.out _ _ ?_ (fun _ => ?_)
      · (try dsimp only); exact ⟨s0, s1, s2, s3, s4, s5, s6, s7, s8, s9, s10, s11, s12, s13, s14, s15, s16⟩
      clear hK K
      (try simp only [Act.put, List.setIfInBounds_toArray, List.set_cons_zero, List.set_cons_succ])
      have hHeld := And.intro s0 (And.intro s1 (And.intro s2 (And.intro s3 (And.intro s4 (And.intro s5 (And.intro s6 (And.intro s7 (And.intro s8 (And.intro s9 (And.intro s10 (And.intro s11 (And.intro s12 (And.intro s13 (And.intro s14 (And.intro s15 (s16))))))))))))))))
      refine wpAnyH_take (i := 24) (oi := ?oi116) (v := ?v116) ?hi116 (by kernel_rfl) (by kernel_rfl) (by kernel_rfl) ?hQ116 (Or.inl ⟨?hw116, ?hy116⟩) (by assumption) ?rest116; (case hi116 => (simp only [List.getElem?_toArray, List.getElem?_cons_succ, List.getElem?_cons_zero]; rfl)); (case hQ116 => exact fun _ _ _ h => h); (case hw116 => rfl); (case hy116 => ((intro w hSw); (try dsimp only at hSw); go_simp; (try with_reducible rfl)))
      (try simp only [Act.put, List.setIfInBounds_toArray, List.set_cons_zero, List.set_cons_succ])
      refine wpAnyH_take (i := 25) (oi := ?oi118) (v := ?v118) ?hi118 (by kernel_rfl) (by kernel_rfl) (by kernel_rfl) ?hQ118 (Or.inl ⟨?hw118, ?hy118⟩) (by assumption) ?rest118; (case hi118 => (simp only [List.getElem?_toArray, List.getElem?_cons_succ, List.getElem?_cons_zero]; rfl)); (case hQ118 => exact fun _ _ _ h => h); (case hw118 => rfl); (case hy118 => ((intro w hSw); (try dsimp only at hSw); go_simp; (try with_reducible rfl)))
      (try simp only [Act.put, List.setIfInBounds_toArray, List.set_cons_zero, List.set_cons_succ])
      refine wpAnyH_take (i := 26) (oi := ?oi120) (v := ?v120) ?hi120 (by kernel_rfl) (by kernel_rfl) (by kernel_rfl) ?hQ120 (Or.inl ⟨?hw120, ?hy120⟩) (by assumption) ?rest120; (case hi120 => (simp only [List.getElem?_toArray, List.getElem?_cons_succ, List.getElem?_cons_zero]; rfl)); (case hQ120 => exact fun _ _ _ h => h); (case hw120 => rfl); (case hy120 => ((intro w hSw); (try dsimp only at hSw); go_simp; (try with_reducible rfl)))
      (try simp only [Act.put, List.setIfInBounds_toArray, List.set_cons_zero, List.set_cons_succ])
      refine wpAnyH_take (i := 27) (oi := ?oi122) (v := ?v122) ?hi122 (by kernel_rfl) (by kernel_rfl) (by kernel_rfl) ?hQ122 (Or.inl ⟨?hw122, ?hy122⟩) (by assumption) ?rest122; (case hi122 => (simp only [List.getElem?_toArray, List.getElem?_cons_succ, List.getElem?_cons_zero]; rfl)); (case hQ122 => exact fun _ _ _ h => h); (case hw122 => rfl); (case hy122 => ((intro w hSw); (try dsimp only at hSw); go_simp; (try with_reducible rfl)))
      (try simp only [Act.put, List.setIfInBounds_toArray, List.set_cons_zero, List.set_cons_succ])
      clear hHeld
      refine wpAnyH_ready (rs := [29]) (by kernel_rfl) (by simp) ?_
      refine AllReadyH.cons (o := ?oi124) ?hi124 (fun K hK => ?rest124) AllReadyH.nil
      (case hi124 => (simp only [List.getElem?_toArray, List.getElem?_cons_succ, List.getElem?_cons_zero]; rfl))
      go_simp
      obtain ⟨wz125, hwy⟩ : ∃ W, W = (wz115.setCell ⟨wz41.heap.size, 0, none⟩ (.slice am 16 cm)) := ⟨_, rfl⟩
      rw [← hwy]
      have kp : ∀ {b' o' : Nat} {u : Value}, wz115.cell? ⟨b', o', none⟩ = some u → wz41.heap.size ≠ b' → wz125.cell? ⟨b', o', none⟩ = some u := fun h hn => by rw [hwy]; exact keepA_ (h) (Or.inl hn)
      replace s0 := kp s0 (by omega)
      replace s1 := kp s1 (by omega)
      replace s2 := kp s2 (by omega)
      replace s3 := kp s3 (by omega)
      replace s4 := kp s4 (by omega)
      replace s5 := kp s5 (by omega)
      replace s6 := kp s6 (by omega)
      replace s7 := kp s7 (by omega)
      replace s8 := kp s8 (by omega)
      replace s9 := kp s9 (by omega)
      replace s10 := kp s10 (by omega)
      replace s11 := kp s11 (by omega)
      replace s12 := kp s12 (by omega)
      replace s13 := kp s13 (by omega)
      replace s14 := kp s14 (by omega)
      replace s15 := kp s15 (by omega)
      replace s16 := kp s16 (by omega)
      clear kp
      replace xc0 : wz125.cell? ⟨wz109.heap.size, 0, none⟩ = some (.int .i64 2) := by rw [hwy]; exact keepA_ (xc0) (Or.inl (by omega))
      replace xf0 : wz125.frozen? ⟨wz109.heap.size, 0, none⟩ = false := by rw [hwy]; simpa using xf0
      replace xc1 : wz125.cell? ⟨wz109.heap.size, 1, none⟩ = some (.int .i64 p0) := by rw [hwy]; exact keepA_ (xc1) (Or.inl (by omega))
      replace xf1 : wz125.frozen? ⟨wz109.heap.size, 1, none⟩ = false := by rw [hwy]; simpa using xf1
      replace xc2 : wz125.cell? ⟨wz109.heap.size, 2, none⟩ = some (.int .i64 0) := by rw [hwy]; exact keepA_ (xc2) (Or.inl (by omega))
      replace xf2 : wz125.frozen? ⟨wz109.heap.size, 2, none⟩ = false := by rw [hwy]; simpa using xf2
      replace xc3 : wz125.cell? ⟨wz109.heap.size, 3, none⟩ = some (.int .i64 s) := by rw [hwy]; exact keepA_ (xc3) (Or.inl (by omega))
      replace xf3 : wz125.frozen? ⟨wz109.heap.size, 3, none⟩ = false := by rw [hwy]; simpa using xf3
      replace xc4 : wz125.cell? ⟨wz109.heap.size, 4, none⟩ = some (.string ⟨#[]⟩) := by rw [hwy]; exact keepA_ (xc4) (Or.inl (by omega))
      replace xf4 : wz125.frozen? ⟨wz109.heap.size, 4, none⟩ = false := by rw [hwy]; simpa using xf4
      replace xc5 : wz125.cell? ⟨wz109.heap.size, 5, none⟩ = some (.int .i64 2) := by rw [hwy]; exact keepA_ (xc5) (Or.inl (by omega))
      replace xf5 : wz125.frozen? ⟨wz109.heap.size, 5, none⟩ = false := by rw [hwy]; simpa using xf5
      replace xc6 : wz125.cell? ⟨wz109.heap.size, 6, none⟩ = some (.int .i64 p1) := by rw [hwy]; exact keepA_ (xc6) (Or.inl (by omega))
      replace xf6 : wz125.frozen? ⟨wz109.heap.size, 6, none⟩ = false := by rw [hwy]; simpa using xf6
      replace xc7 : wz125.cell? ⟨wz109.heap.size, 7, none⟩ = some (.int .i64 0) := by rw [hwy]; exact keepA_ (xc7) (Or.inl (by omega))
      replace xf7 : wz125.frozen? ⟨wz109.heap.size, 7, none⟩ = false := by rw [hwy]; simpa using xf7
      replace xc8 : wz125.cell? ⟨wz109.heap.size, 8, none⟩ = some (.int .i64 m.s) := by rw [hwy]; exact keepA_ (xc8) (Or.inl (by omega))
      replace xf8 : wz125.frozen? ⟨wz109.heap.size, 8, none⟩ = false := by rw [hwy]; simpa using xf8
      replace xc9 : wz125.cell? ⟨wz109.heap.size, 9, none⟩ = some (.string ⟨#[]⟩) := by rw [hwy]; exact keepA_ (xc9) (Or.inl (by omega))
      replace xf9 : wz125.frozen? ⟨wz109.heap.size, 9, none⟩ = false := by rw [hwy]; simpa using xf9
      replace xc10 : wz125.cell? ⟨wz109.heap.size, 10, none⟩ = some (.int .i64 2) := by rw [hwy]; exact keepA_ (xc10) (Or.inl (by omega))
      replace xf10 : wz125.frozen? ⟨wz109.heap.size, 10, none⟩ = false := by rw [hwy]; simpa using xf10
      replace xc11 : wz125.cell? ⟨wz109.heap.size, 11, none⟩ = some (.int .i64 p2) := by rw [hwy]; exact keepA_ (xc11) (Or.inl (by omega))
      replace xf11 : wz125.frozen? ⟨wz109.heap.size, 11, none⟩ = false := by rw [hwy]; simpa using xf11
      replace xc12 : wz125.cell? ⟨wz109.heap.size, 12, none⟩ = some (.int .i64 0) := by rw [hwy]; exact keepA_ (xc12) (Or.inl (by omega))
      replace xf12 : wz125.frozen? ⟨wz109.heap.size, 12, none⟩ = false := by rw [hwy]; simpa using xf12
      replace xc13 : wz125.cell? ⟨wz109.heap.size, 13, none⟩ = some (.int .i64 m.k) := by rw [hwy]; exact keepA_ (xc13) (Or.inl (by omega))
      replace xf13 : wz125.frozen? ⟨wz109.heap.size, 13, none⟩ = false := by rw [hwy]; simpa using xf13
      replace xc14 : wz125.cell? ⟨wz109.heap.size, 14, none⟩ = some (.string ⟨#[]⟩) := by rw [hwy]; exact keepA_ (xc14) (Or.inl (by omega))
      replace xf14 : wz125.frozen? ⟨wz109.heap.size, 14, none⟩ = false := by rw [hwy]; simpa using xf14
      replace HF : Hid (Fz wz125 (w.heap.size + 1 + 1)) := Lib.hid (by rw [hwy]; exact (fz_set HF.out _ _))
      replace HM1 := Lib.hid (hasInts_setS HM1.out mc0 (u := .slice am 16 cm))
      rw [← hwy] at HM1
      have md0 : wz125.cell? ⟨wz41.heap.size, 0, none⟩ = some (.slice am 16 cm) := by rw [hwy]; exact World.cell?_setCell_same _ _ _ mc0
      replace mt : Tag wz125 wz41.heap.size 55 := by rw [hwy]; exact (tag_set mt _ _)
      replace xt : Tag wz125 wz109.heap.size 32 := by rw [hwy]; exact (tag_set xt _ _)
      replace mf0 : wz125.frozen? ⟨wz41.heap.size, 0, none⟩ = false := by rw [hwy]; simpa using mf0
      replace HW := Lib.hid (Below.setCell (p := ⟨wz41.heap.size, 0, none⟩) HW.out (by have := HWS.out; dsimp only; omega) (.slice am 16 cm))
      rw [← hwy] at HW
      have hsz : wz125.heap.size = wz115.heap.size := by rw [hwy]; simp
      replace mz : wz41.heap.size < wz125.heap.size := by omega
      replace xz : wz109.heap.size < wz125.heap.size := by omega
      replace LO : _ ≤ wz125.heap.size := Nat.le_trans LO (Nat.le_of_eq hsz.symm)
      clear hsz hwy mc0
      have mc0 := md0
      clear md0
      refine hK.out _ _ ?_ (fun _ => ?_)
      · (try dsimp only); exact ⟨s0, s1, s2, s3, s4, s5, s6, s7, s8, s9, s10, s11, s12, s13, s14, s15, s16⟩
      clear hK K
      (try simp only [Act.put, List.setIfInBounds_toArray, List.set_cons_zero, List.set_cons_succ])
      have hHeld := And.intro s0 (And.intro s1 (And.intro s2 (And.intro s3 (And.intro s4 (And.intro s5 (And.intro s6 (And.intro s7 (And.intro s8 (And.intro s9 (And.intro s10 (And.intro s11 (And.intro s12 (And.intro s13 (And.intro s14 (And.intro s15 (s16))))))))))))))))
      refine wpAnyH_take (i := 30) (oi := ?oi126) (v := ?v126) ?hi126 (by kernel_rfl) (by kernel_rfl) (by kernel_rfl) ?hQ126 (Or.inl ⟨?hw126, ?hy126⟩) (by assumption) ?rest126; (case hi126 => (simp only [List.getElem?_toArray, List.getElem?_cons_succ, List.getElem?_cons_zero]; rfl)); (case hQ126 => exact fun _ _ _ h => h); (case hw126 => rfl); (case hy126 => ((intro w hSw); (try dsimp only at hSw); go_simp; (try with_reducible rfl)))
      (try simp only [Act.put, List.setIfInBounds_toArray, List.set_cons_zero, List.set_cons_succ])
      refine wpAnyH_take (i := 31) (oi := ?oi128) (v := ?v128) ?hi128 (by kernel_rfl) (by kernel_rfl) (by kernel_rfl) ?hQ128 (Or.inl ⟨?hw128, ?hy128⟩) (by assumption) ?rest128; (case hi128 => (simp only [List.getElem?_toArray, List.getElem?_cons_succ, List.getElem?_cons_zero]; rfl)); (case hQ128 => exact fun _ _ _ h => h); (case hw128 => rfl); (case hy128 => ((intro w hSw); (try dsimp only at hSw); go_simp; (try with_reducible rfl)))
      (try simp only [Act.put, List.setIfInBounds_toArray, List.set_cons_zero, List.set_cons_succ])
      clear hHeld
      refine wpAnyH_done (by kernel_rfl) ?_ _
      have ff := HF.out.2
      have kk := World.cell?_setCell_same wz125 ⟨w.heap.size + 1 + 1, 0, none⟩ (.slice am 16 cm) s16
      go_wp2
      refine bodyPost_ret (v := .agg #[.slice am 16 cm]) (by simp [results, Try.results36, go_sem, kk]) rfl ?_
      exact ⟨am, cm, rfl, hasInts_setS HM1.out s16, (HB0.out.trans (HW.out.mono (by have := HLO.out; omega))).setCell (by dsimp only; omega) _⟩
    case rest40 =>
     go_simp
     obtain ⟨wz130, hwy⟩ : ∃ W, W = wz36.alloc (.cells #[.slice none 0 0] 55) := ⟨_, rfl⟩
     rw [← hwy]
     have hb : Below wz36.heap.size wz36 wz130 := by rw [hwy]; exact below_new1 _ _
     have mc0 : wz130.cell? ⟨wz36.heap.size, 0, none⟩ = some (.slice none 0 0) := by rw [hwy, World.cell?_alloc_at _ _ _ _ rfl]; rfl
     have mf0 : wz130.frozen? ⟨wz36.heap.size, 0, none⟩ = false := by rw [hwy]; exact World.frozen?_alloc_at _ _ _ _ rfl
     have mt : Tag wz130 wz36.heap.size 55 := by rw [hwy]; exact tag_new _ _ _
     have mz : wz36.heap.size < wz130.heap.size := by rw [hwy]; simp
     have ml := LO
     replace HW := Lib.hid (below_step HW.out hb)
     replace s0 := cel_below hb s0
     replace s1 := cel_below hb s1
     replace s2 := cel_below hb s2
     replace s3 := cel_below hb s3
     replace s4 := cel_below hb s4
     replace s5 := cel_below hb s5
     replace s6 := cel_below hb s6
     replace s7 := cel_below hb s7
     replace s8 := cel_below hb s8
     replace s9 := cel_below hb s9
     replace s10 := cel_below hb s10
     replace s11 := cel_below hb s11
     replace s12 := cel_below hb s12
     replace s13 := cel_below hb s13
     replace s14 := cel_below hb s14
     replace s15 := cel_below hb s15
     replace s16 := cel_below hb s16
     replace HF := Lib.hid (fz_keep HF.out hb)
     replace HN1 := Lib.hid (hasInts_keep HN1.out hb)
     replace LO := Nat.le_trans LO hb.size
     clear hb hwy
     refine hK.out _ _ ?_ (fun _ => ?_)
     · (try dsimp only); exact ⟨s0, s1, s2, s3, s4, s5, s6, s7, s8, s9, s10, s11, s12, s13, s14, s15, s16⟩
     clear hK K
     (try simp only [Act.put, List.setIfInBounds_toArray, List.set_cons_zero, List.set_cons_succ])
     refine wpAnyH_ready (rs := [12]) (by kernel_rfl) (by simp) ?_
     refine AllReadyH.cons (o := ?oi131) ?hi131 (fun K hK => ?rest131) AllReadyH.nil
     (case hi131 => (simp only [List.getElem?_toArray, List.getElem?_cons_succ, List.getElem?_cons_zero]; rfl))
     go_simp
     ((with_reducible refine (HT.out _).mono ?_); rintro e wz132 ⟨rfl, hb⟩)
     replace HW := Lib.hid (below_step HW.out hb)
     replace s0 := cel_below hb s0
     replace s1 := cel_below hb s1
     replace s2 := cel_below hb s2
     replace s3 := cel_below hb s3
     replace s4 := cel_below hb s4
     replace s5 := cel_below hb s5
     replace s6 := cel_below hb s6
     replace s7 := cel_below hb s7
     replace s8 := cel_below hb s8
     replace s9 := cel_below hb s9
     replace s10 := cel_below hb s10
     replace s11 := cel_below hb s11
     replace s12 := cel_below hb s12
     replace s13 := cel_below hb s13
     replace s14 := cel_below hb s14
     replace s15 := cel_below hb s15
     replace s16 := cel_below hb s16
     replace mc0 := cel_below hb mc0
     replace mf0 := fro_below hb mz mf0
     replace mz := lt_below hb mz
     replace mt := tag_below mt hb
     replace HF := Lib.hid (fz_keep HF.out hb)
     replace HN1 := Lib.hid (hasInts_keep HN1.out hb)
     replace LO := Nat.le_trans LO hb.size
     clear hb
     refine hK.out _ _ ?_ (fun _ => ?_)
     · (try dsimp only); exact ⟨s0, s1, s2, s3, s4, s5, s6, s7, s8, s9, s10, s11, s12, s13, s14, s15, s16⟩
     clear hK K
     (try simp only [Act.put, List.setIfInBounds_toArray, List.set_cons_zero, List.set_cons_succ])
     have hHeld := And.intro s0 (And.intro s1 (And.intro s2 (And.intro s3 (And.intro s4 (And.intro s5 (And.intro s6 (And.intro s7 (And.intro s8 (And.intro s9 (And.intro s10 (And.intro s11 (And.intro s12 (And.intro s13 (And.intro s14 (And.intro s15 (s16))))))))))))))))
     refine wpAnyH_take (i := 15) (oi := ?oi133) (v := ?v133) ?hi133 (by kernel_rfl) (by kernel_rfl) (by kernel_rfl) ?hQ133 (Or.inl ⟨?hw133, ?hy133⟩) (by assumption) ?rest133; (case hi133 => (simp only [List.getElem?_toArray, List.getElem?_cons_succ, List.getElem?_cons_zero]; rfl)); (case hQ133 => exact fun _ _ _ h => h); (case hw133 => rfl); (case hy133 => ((intro w hSw); (try dsimp only at hSw); go_simp; (try with_reducible rfl)))
     (try simp only [Act.put, List.setIfInBounds_toArray, List.set_cons_zero, List.set_cons_succ])
     clear hHeld
     refine wpAnyH_ready (rs := [18]) (by kernel_rfl) (by simp) ?_
     refine AllReadyH.cons (o := ?oi135) ?hi135 (fun K hK => ?rest135) AllReadyH.nil
     (case hi135 => (simp only [List.getElem?_toArray, List.getElem?_cons_succ, List.getElem?_cons_zero]; rfl))
     go_simp
     ((with_reducible refine (HK.out _).mono ?_); rintro e wz136 ⟨rfl, hb⟩)
     replace HW := Lib.hid (below_step HW.out hb)
     replace s0 := cel_below hb s0
     replace s1 := cel_below hb s1
     replace s2 := cel_below hb s2
     replace s3 := cel_below hb s3
     replace s4 := cel_below hb s4
     replace s5 := cel_below hb s5
     replace s6 := cel_below hb s6
     replace s7 := cel_below hb s7
     replace s8 := cel_below hb s8
     replace s9 := cel_below hb s9
     replace s10 := cel_below hb s10
     replace s11 := cel_below hb s11
     replace s12 := cel_below hb s12
     replace s13 := cel_below hb s13
     replace s14 := cel_below hb s14
     replace s15 := cel_below hb s15
     replace s16 := cel_below hb s16
     replace mc0 := cel_below hb mc0
     replace mf0 := fro_below hb mz mf0
     replace mz := lt_below hb mz
     replace mt := tag_below mt hb
     replace HF := Lib.hid (fz_keep HF.out hb)
     replace HN1 := Lib.hid (hasInts_keep HN1.out hb)
     replace LO := Nat.le_trans LO hb.size
     clear hb
     refine hK.out _ _ ?_ (fun _ => ?_)
     · (try dsimp only); exact ⟨s0, s1, s2, s3, s4, s5, s6, s7, s8, s9, s10, s11, s12, s13, s14, s15, s16⟩
     clear hK K
     (try simp only [Act.put, List.setIfInBounds_toArray, List.set_cons_zero, List.set_cons_succ])
     have hHeld := And.intro s0 (And.intro s1 (And.intro s2 (And.intro s3 (And.intro s4 (And.intro s5 (And.intro s6 (And.intro s7 (And.intro s8 (And.intro s9 (And.intro s10 (And.intro s11 (And.intro s12 (And.intro s13 (And.intro s14 (And.intro s15 (s16))))))))))))))))
     refine wpAnyH_take (i := 21) (oi := ?oi137) (v := ?v137) ?hi137 (by kernel_rfl) (by kernel_rfl) (by kernel_rfl) ?hQ137 (Or.inl ⟨?hw137, ?hy137⟩) (by assumption) ?rest137; (case hi137 => (simp only [List.getElem?_toArray, List.getElem?_cons_succ, List.getElem?_cons_zero]; rfl)); (case hQ137 => exact fun _ _ _ h => h); (case hw137 => rfl); (case hy137 => ((intro w hSw); (try dsimp only at hSw); go_simp; (try with_reducible rfl)))
     (try simp only [Act.put, List.setIfInBounds_toArray, List.set_cons_zero, List.set_cons_succ])
     clear hHeld
     refine wpAnyH_ready (rs := [22]) (by kernel_rfl) (by simp) ?_
     refine AllReadyH.cons (o := ?oi139) ?hi139 (fun K hK => ?rest139) AllReadyH.nil
     (case hi139 => (simp only [List.getElem?_toArray, List.getElem?_cons_succ, List.getElem?_cons_zero]; rfl))
     go_simp
     obtain ⟨wz140, hwy⟩ : ∃ W, W = wz136.alloc (.cells #[.int .i64 2, .int .i64 p0, .int .i64 0, .int .i64 s, .string ⟨#[]⟩, .int .i64 2, .int .i64 p1, .int .i64 0, .int .i64 m.s, .string ⟨#[]⟩, .int .i64 2, .int .i64 p2, .int .i64 0, .int .i64 m.k, .string ⟨#[]⟩] 32) := ⟨_, rfl⟩
     rw [← hwy]
     have hb : Below wz136.heap.size wz136 wz140 := by rw [hwy]; exact below_new1 _ _
     have xc0 : wz140.cell? ⟨wz136.heap.size, 0, none⟩ = some (.int .i64 2) := by rw [hwy, World.cell?_alloc_at _ _ _ _ rfl]; rfl
     have xf0 : wz140.frozen? ⟨wz136.heap.size, 0, none⟩ = false := by rw [hwy]; exact World.frozen?_alloc_at _ _ _ _ rfl
     have xc1 : wz140.cell? ⟨wz136.heap.size, 1, none⟩ = some (.int .i64 p0) := by rw [hwy, World.cell?_alloc_at _ _ _ _ rfl]; rfl
     have xf1 : wz140.frozen? ⟨wz136.heap.size, 1, none⟩ = false := by rw [hwy]; exact World.frozen?_alloc_at _ _ _ _ rfl
     have xc2 : wz140.cell? ⟨wz136.heap.size, 2, none⟩ = some (.int .i64 0) := by rw [hwy, World.cell?_alloc_at _ _ _ _ rfl]; rfl
     have xf2 : wz140.frozen? ⟨wz136.heap.size, 2, none⟩ = false := by rw [hwy]; exact World.frozen?_alloc_at _ _ _ _ rfl
     have xc3 : wz140.cell? ⟨wz136.heap.size, 3, none⟩ = some (.int .i64 s) := by rw [hwy, World.cell?_alloc_at _ _ _ _ rfl]; rfl
     have xf3 : wz140.frozen? ⟨wz136.heap.size, 3, none⟩ = false := by rw [hwy]; exact World.frozen?_alloc_at _ _ _ _ rfl
     have xc4 : wz140.cell? ⟨wz136.heap.size, 4, none⟩ = some (.string ⟨#[]⟩) := by rw [hwy, World.cell?_alloc_at _ _ _ _ rfl]; rfl
     have xf4 : wz140.frozen? ⟨wz136.heap.size, 4, none⟩ = false := by rw [hwy]; exact World.frozen?_alloc_at _ _ _ _ rfl
     have xc5 : wz140.cell? ⟨wz136.heap.size, 5, none⟩ = some (.int .i64 2) := by rw [hwy, World.cell?_alloc_at _ _ _ _ rfl]; rfl
     have xf5 : wz140.frozen? ⟨wz136.heap.size, 5, none⟩ = false := by rw [hwy]; exact World.frozen?_alloc_at _ _ _ _ rfl
     have xc6 : wz140.cell? ⟨wz136.heap.size, 6, none⟩ = some (.int .i64 p1) := by rw [hwy, World.cell?_alloc_at _ _ _ _ rfl]; rfl
     have xf6 : wz140.frozen? ⟨wz136.heap.size, 6, none⟩ = false := by rw [hwy]; exact World.frozen?_alloc_at _ _ _ _ rfl
     have xc7 : wz140.cell? ⟨wz136.heap.size, 7, none⟩ = some (.int .i64 0) := by rw [hwy, World.cell?_alloc_at _ _ _ _ rfl]; rfl
     have xf7 : wz140.frozen? ⟨wz136.heap.size, 7, none⟩ = false := by rw [hwy]; exact World.frozen?_alloc_at _ _ _ _ rfl
     have xc8 : wz140.cell? ⟨wz136.heap.size, 8, none⟩ = some (.int .i64 m.s) := by rw [hwy, World.cell?_alloc_at _ _ _ _ rfl]; rfl
     have xf8 : wz140.frozen? ⟨wz136.heap.size, 8, none⟩ = false := by rw [hwy]; exact World.frozen?_alloc_at _ _ _ _ rfl
     have xc9 : wz140.cell? ⟨wz136.heap.size, 9, none⟩ = some (.string ⟨#[]⟩) := by rw [hwy, World.cell?_alloc_at _ _ _ _ rfl]; rfl
     have xf9 : wz140.frozen? ⟨wz136.heap.size, 9, none⟩ = false := by rw [hwy]; exact World.frozen?_alloc_at _ _ _ _ rfl
     have xc10 : wz140.cell? ⟨wz136.heap.size, 10, none⟩ = some (.int .i64 2) := by rw [hwy, World.cell?_alloc_at _ _ _ _ rfl]; rfl
     have xf10 : wz140.frozen? ⟨wz136.heap.size, 10, none⟩ = false := by rw [hwy]; exact World.frozen?_alloc_at _ _ _ _ rfl
     have xc11 : wz140.cell? ⟨wz136.heap.size, 11, none⟩ = some (.int .i64 p2) := by rw [hwy, World.cell?_alloc_at _ _ _ _ rfl]; rfl
     have xf11 : wz140.frozen? ⟨wz136.heap.size, 11, none⟩ = false := by rw [hwy]; exact World.frozen?_alloc_at _ _ _ _ rfl
     have xc12 : wz140.cell? ⟨wz136.heap.size, 12, none⟩ = some (.int .i64 0) := by rw [hwy, World.cell?_alloc_at _ _ _ _ rfl]; rfl
     have xf12 : wz140.frozen? ⟨wz136.heap.size, 12, none⟩ = false := by rw [hwy]; exact World.frozen?_alloc_at _ _ _ _ rfl
     have xc13 : wz140.cell? ⟨wz136.heap.size, 13, none⟩ = some (.int .i64 m.k) := by rw [hwy, World.cell?_alloc_at _ _ _ _ rfl]; rfl
     have xf13 : wz140.frozen? ⟨wz136.heap.size, 13, none⟩ = false := by rw [hwy]; exact World.frozen?_alloc_at _ _ _ _ rfl
     have xc14 : wz140.cell? ⟨wz136.heap.size, 14, none⟩ = some (.string ⟨#[]⟩) := by rw [hwy, World.cell?_alloc_at _ _ _ _ rfl]; rfl
     have xf14 : wz140.frozen? ⟨wz136.heap.size, 14, none⟩ = false := by rw [hwy]; exact World.frozen?_alloc_at _ _ _ _ rfl
     have xt : Tag wz140 wz136.heap.size 32 := by rw [hwy]; exact tag_new _ _ _
     have xz : wz136.heap.size < wz140.heap.size := by rw [hwy]; simp
     have xl := LO
     replace HW := Lib.hid (below_step HW.out hb)
     replace s0 := cel_below hb s0
     replace s1 := cel_below hb s1
     replace s2 := cel_below hb s2
     replace s3 := cel_below hb s3
     replace s4 := cel_below hb s4
     replace s5 := cel_below hb s5
     replace s6 := cel_below hb s6
     replace s7 := cel_below hb s7
     replace s8 := cel_below hb s8
     replace s9 := cel_below hb s9
     replace s10 := cel_below hb s10
     replace s11 := cel_below hb s11
     replace s12 := cel_below hb s12
     replace s13 := cel_below hb s13
     replace s14 := cel_below hb s14
     replace s15 := cel_below hb s15
     replace s16 := cel_below hb s16
     replace mc0 := cel_below hb mc0
     replace mf0 := fro_below hb mz mf0
     replace mt := tag_below mt hb
     have mxn : wz36.heap.size ≠ wz136.heap.size := by omega
     replace mz := lt_below hb mz
     replace HF := Lib.hid (fz_keep HF.out hb)
     replace HN1 := Lib.hid (hasInts_keep HN1.out hb)
     replace LO := Nat.le_trans LO hb.size
     clear hb hwy
     refine hK.out _ _ ?_ (fun _ => ?_)
     · (try dsimp only); exact ⟨s0, s1, s2, s3, s4, s5, s6, s7, s8, s9, s10, s11, s12, s13, s14, s15, s16⟩
     clear hK K
     (try simp only [Act.put, List.setIfInBounds_toArray, List.set_cons_zero, List.set_cons_succ])
     refine wpAnyH_ready (rs := [23]) (by kernel_rfl) (by simp) ?_
     refine AllReadyH.cons (o := ?oi141) ?hi141 (fun K hK => ?rest141) AllReadyH.nil
     (case hi141 => (simp only [List.getElem?_toArray, List.getElem?_cons_succ, List.getElem?_cons_zero]; rfl))
     go_simp
     ((with_reducible refine (HA.out _ _ _ HN1.out (hasAccs_15 xc0 xc1 xc2 xc3 xc4 xc5 xc6 xc7 xc8 xc9 xc10 xc11 xc12 xc13 xc14)).mono ?_); rintro e wz142 ⟨am, cm, r3, rfl, hq, hb⟩)
     replace HW := Lib.hid (below_step HW.out hb)
     replace s0 := cel_below hb s0
     replace s1 := cel_below hb s1
     replace s2 := cel_below hb s2
     replace s3 := cel_below hb s3
     replace s4 := cel_below hb s4
     replace s5 := cel_below hb s5
     replace s6 := cel_below hb s6
     replace s7 := cel_below hb s7
     replace s8 := cel_below hb s8
     replace s9 := cel_below hb s9
     replace s10 := cel_below hb s10
     replace s11 := cel_below hb s11
     replace s12 := cel_below hb s12
     replace s13 := cel_below hb s13
     replace s14 := cel_below hb s14
     replace s15 := cel_below hb s15
     replace s16 := cel_below hb s16
     replace mc0 := cel_below hb mc0
     replace mf0 := fro_below hb mz mf0
     replace mz := lt_below hb mz
     replace mt := tag_below mt hb
     replace xc0 := cel_below hb xc0
     replace xf0 := fro_below hb xz xf0
     replace xc1 := cel_below hb xc1
     replace xf1 := fro_below hb xz xf1
     replace xc2 := cel_below hb xc2
     replace xf2 := fro_below hb xz xf2
     replace xc3 := cel_below hb xc3
     replace xf3 := fro_below hb xz xf3
     replace xc4 := cel_below hb xc4
     replace xf4 := fro_below hb xz xf4
     replace xc5 := cel_below hb xc5
     replace xf5 := fro_below hb xz xf5
     replace xc6 := cel_below hb xc6
     replace xf6 := fro_below hb xz xf6
     replace xc7 := cel_below hb xc7
     replace xf7 := fro_below hb xz xf7
     replace xc8 := cel_below hb xc8
     replace xf8 := fro_below hb xz xf8
     replace xc9 := cel_below hb xc9
     replace xf9 := fro_below hb xz xf9
     replace xc10 := cel_below hb xc10
     replace xf10 := fro_below hb xz xf10
     replace xc11 := cel_below hb xc11
     replace xf11 := fro_below hb xz xf11
     replace xc12 := cel_below hb xc12
     replace xf12 := fro_below hb xz xf12
     replace xc13 := cel_below hb xc13
     replace xf13 := fro_below hb xz xf13
     replace xc14 := cel_below hb xc14
     replace xf14 := fro_below hb xz xf14
     replace xz := lt_below hb xz
     replace xt := tag_below xt hb
     replace HF := Lib.hid (fz_keep HF.out hb)
     replace HN1 := Lib.hid (hasInts_keep HN1.out hb)
     have HM1 := Lib.hid hq
     clear hq HN1
     replace LO := Nat.le_trans LO hb.size
     clear hb
     refine hK.out _ _ ?_ (fun _ => ?_)
     · (try dsimp only); exact ⟨s0, s1, s2, s3, s4, s5, s6, s7, s8, s9, s10, s11, s12, s13, s14, s15, s16⟩
     clear hK K
     (try simp only [Act.put, List.setIfInBounds_toArray, List.set_cons_zero, List.set_cons_succ])
     have hHeld := And.intro s0 (And.intro s1 (And.intro s2 (And.intro s3 (And.intro s4 (And.intro s5 (And.intro s6 (And.intro s7 (And.intro s8 (And.intro s9 (And.intro s10 (And.intro s11 (And.intro s12 (And.intro s13 (And.intro s14 (And.intro s15 (s16))))))))))))))))
     refine wpAnyH_take (i := 24) (oi := ?oi143) (v := ?v143) ?hi143 (by kernel_rfl) (by kernel_rfl) (by kernel_rfl) ?hQ143 (Or.inl ⟨?hw143, ?hy143⟩) (by assumption) ?rest143; (case hi143 => (simp only [List.getElem?_toArray, List.getElem?_cons_succ, List.getElem?_cons_zero]; rfl)); (case hQ143 => exact fun _ _ _ h => h); (case hw143 => rfl); (case hy143 => ((intro w hSw); (try dsimp only at hSw); go_simp; (try with_reducible rfl)))
     (try simp only [Act.put, List.setIfInBounds_toArray, List.set_cons_zero, List.set_cons_succ])
     refine wpAnyH_take (i := 25) (oi := ?oi145) (v := ?v145) ?hi145 (by kernel_rfl) (by kernel_rfl) (by kernel_rfl) ?hQ145 (Or.inl ⟨?hw145, ?hy145⟩) (by assumption) ?rest145; (case hi145 => (simp only [List.getElem?_toArray, List.getElem?_cons_succ, List.getElem?_cons_zero]; rfl)); (case hQ145 => exact fun _ _ _ h => h); (case hw145 => rfl); (case hy145 => ((intro w hSw); (try dsimp only at hSw); go_simp; (try with_reducible rfl)))
     (try simp only [Act.put, List.setIfInBounds_toArray, List.set_cons_zero, List.set_cons_succ])
     refine wpAnyH_take (i := 26) (oi := ?oi147) (v := ?v147) ?hi147 (by kernel_rfl) (by kernel_rfl) (by kernel_rfl) ?hQ147 (Or.inl ⟨?hw147, ?hy147⟩) (by assumption) ?rest147; (case hi147 => (simp only [List.getElem?_toArray, List.getElem?_cons_succ, List.getElem?_cons_zero]; rfl)); (case hQ147 => exact fun _ _ _ h => h); (case hw147 => rfl); (case hy147 => ((intro w hSw); (try dsimp only at hSw); go_simp; (try with_reducible rfl)))
     (try simp only [Act.put, List.setIfInBounds_toArray, List.set_cons_zero, List.set_cons_succ])
     refine wpAnyH_take (i := 27) (oi := ?oi149) (v := ?v149) ?hi149 (by kernel_rfl) (by kernel_rfl) (by kernel_rfl) ?hQ149 (Or.inl ⟨?hw149, ?hy149⟩) (by assumption) ?rest149; (case hi149 => (simp only [List.getElem?_toArray, List.getElem?_cons_succ, List.getElem?_cons_zero]; rfl)); (case hQ149 => exact fun _ _ _ h => h); (case hw149 => rfl); (case hy149 => ((intro w hSw); (try dsimp only at hSw); go_simp; (try with_reducible rfl)))
     (try simp only [Act.put, List.setIfInBounds_toArray, List.set_cons_zero, List.set_cons_succ])
     clear hHeld
     refine wpAnyH_ready (rs := [29]) (by kernel_rfl) (by simp) ?_
     refine AllReadyH.cons (o := ?oi151) ?hi151 (fun K hK => ?rest151) AllReadyH.nil
     (case hi151 => (simp only [List.getElem?_toArray, List.getElem?_cons_succ, List.getElem?_cons_zero]; rfl))
     go_simp
     obtain ⟨wz152, hwy⟩ : ∃ W, W = (wz142.setCell ⟨wz36.heap.size, 0, none⟩ (.slice am 16 cm)) := ⟨_, rfl⟩
     rw [← hwy]
     have kp : ∀ {b' o' : Nat} {u : Value}, wz142.cell? ⟨b', o', none⟩ = some u → wz36.heap.size ≠ b' → wz152.cell? ⟨b', o', none⟩ = some u := fun h hn => by rw [hwy]; exact keepA_ (h) (Or.inl hn)
     replace s0 := kp s0 (by omega)
     replace s1 := kp s1 (by omega)
     replace s2 := kp s2 (by omega)
     replace s3 := kp s3 (by omega)
     replace s4 := kp s4 (by omega)
     replace s5 := kp s5 (by omega)
     replace s6 := kp s6 (by omega)
     replace s7 := kp s7 (by omega)
     replace s8 := kp s8 (by omega)
     replace s9 := kp s9 (by omega)
     replace s10 := kp s10 (by omega)
     replace s11 := kp s11 (by omega)
     replace s12 := kp s12 (by omega)
     replace s13 := kp s13 (by omega)
     replace s14 := kp s14 (by omega)
     replace s15 := kp s15 (by omega)
     replace s16 := kp s16 (by omega)
     clear kp
     replace xc0 : wz152.cell? ⟨wz136.heap.size, 0, none⟩ = some (.int .i64 2) := by rw [hwy]; exact keepA_ (xc0) (Or.inl (by omega))
     replace xf0 : wz152.frozen? ⟨wz136.heap.size, 0, none⟩ = false := by rw [hwy]; simpa using xf0
     replace xc1 : wz152.cell? ⟨wz136.heap.size, 1, none⟩ = some (.int .i64 p0) := by rw [hwy]; exact keepA_ (xc1) (Or.inl (by omega))
     replace xf1 : wz152.frozen? ⟨wz136.heap.size, 1, none⟩ = false := by rw [hwy]; simpa using xf1
     replace xc2 : wz152.cell? ⟨wz136.heap.size, 2, none⟩ = some (.int .i64 0) := by rw [hwy]; exact keepA_ (xc2) (Or.inl (by omega))
     replace xf2 : wz152.frozen? ⟨wz136.heap.size, 2, none⟩ = false := by rw [hwy]; simpa using xf2
     replace xc3 : wz152.cell? ⟨wz136.heap.size, 3, none⟩ = some (.int .i64 s) := by rw [hwy]; exact keepA_ (xc3) (Or.inl (by omega))
     replace xf3 : wz152.frozen? ⟨wz136.heap.size, 3, none⟩ = false := by rw [hwy]; simpa using xf3
     replace xc4 : wz152.cell? ⟨wz136.heap.size, 4, none⟩ = some (.string ⟨#[]⟩) := by rw [hwy]; exact keepA_ (xc4) (Or.inl (by omega))
     replace xf4 : wz152.frozen? ⟨wz136.heap.size, 4, none⟩ = false := by rw [hwy]; simpa using xf4
     replace xc5 : wz152.cell? ⟨wz136.heap.size, 5, none⟩ = some (.int .i64 2) := by rw [hwy]; exact keepA_ (xc5) (Or.inl (by omega))
     replace xf5 : wz152.frozen? ⟨wz136.heap.size, 5, none⟩ = false := by rw [hwy]; simpa using xf5
     replace xc6 : wz152.cell? ⟨wz136.heap.size, 6, none⟩ = some (.int .i64 p1) := by rw [hwy]; exact keepA_ (xc6) (Or.inl (by omega))
     replace xf6 : wz152.frozen? ⟨wz136.heap.size, 6, none⟩ = false := by rw [hwy]; simpa using xf6
     replace xc7 : wz152.cell? ⟨wz136.heap.size, 7, none⟩ = some (.int .i64 0) := by rw [hwy]; exact keepA_ (xc7) (Or.inl (by omega))
     replace xf7 : wz152.frozen? ⟨wz136.heap.size, 7, none⟩ = false := by rw [hwy]; simpa using xf7
     replace xc8 : wz152.cell? ⟨wz136.heap.size, 8, none⟩ = some (.int .i64 m.s) := by rw [hwy]; exact keepA_ (xc8) (Or.inl (by omega))
     replace xf8 : wz152.frozen? ⟨wz136.heap.size, 8, none⟩ = false := by rw [hwy]; simpa using xf8
     replace xc9 : wz152.cell? ⟨wz136.heap.size, 9, none⟩ = some (.string ⟨#[]⟩) := by rw [hwy]; exact keepA_ (xc9) (Or.inl (by omega))
     replace xf9 : wz152.frozen? ⟨wz136.heap.size, 9, none⟩ = false := by rw [hwy]; simpa using xf9
     replace xc10 : wz152.cell? ⟨wz136.heap.size, 10, none⟩ = some (.int .i64 2) := by rw [hwy]; exact keepA_ (xc10) (Or.inl (by omega))
     replace xf10 : wz152.frozen? ⟨wz136.heap.size, 10, none⟩ = false := by rw [hwy]; simpa using xf10
     replace xc11 : wz152.cell? ⟨wz136.heap.size, 11, none⟩ = some (.int .i64 p2) := by rw [hwy]; exact keepA_ (xc11) (Or.inl (by omega))
     replace xf11 : wz152.frozen? ⟨wz136.heap.size, 11, none⟩ = false := by rw [hwy]; simpa using xf11
     replace xc12 : wz152.cell? ⟨wz136.heap.size, 12, none⟩ = some (.int .i64 0) := by rw [hwy]; exact keepA_ (xc12) (Or.inl (by omega))
     replace xf12 : wz152.frozen? ⟨wz136.heap.size, 12, none⟩ = false := by rw [hwy]; simpa using xf12
     replace xc13 : wz152.cell? ⟨wz136.heap.size, 13, none⟩ = some (.int .i64 m.k) := by rw [hwy]; exact keepA_ (xc13) (Or.inl (by omega))
     replace xf13 : wz152.frozen? ⟨wz136.heap.size, 13, none⟩ = false := by rw [hwy]; simpa using xf13
     replace xc14 : wz152.cell? ⟨wz136.heap.size, 14, none⟩ = some (.string ⟨#[]⟩) := by rw [hwy]; exact keepA_ (xc14) (Or.inl (by omega))
     replace xf14 : wz152.frozen? ⟨wz136.heap.size, 14, none⟩ = false := by rw [hwy]; simpa using xf14
     replace HF : Hid (Fz wz152 (w.heap.size + 1 + 1)) := Lib.hid (by rw [hwy]; exact (fz_set HF.out _ _))
     replace HM1 := Lib.hid (hasInts_setS HM1.out mc0 (u := .slice am 16 cm))
     rw [← hwy] at HM1
     have md0 : wz152.cell? ⟨wz36.heap.size, 0, none⟩ = some (.slice am 16 cm) := by rw [hwy]; exact World.cell?_setCell_same _ _ _ mc0
     replace mt : Tag wz152 wz36.heap.size 55 := by rw [hwy]; exact (tag_set mt _ _)
     replace xt : Tag wz152 wz136.heap.size 32 := by rw [hwy]; exact (tag_set xt _ _)
     replace mf0 : wz152.frozen? ⟨wz36.heap.size, 0, none⟩ = false := by rw [hwy]; simpa using mf0
     replace HW := Lib.hid (Below.setCell (p := ⟨wz36.heap.size, 0, none⟩) HW.out (by have := HWS.out; dsimp only; omega) (.slice am 16 cm))
     rw [← hwy] at HW
     have hsz : wz152.heap.size = wz142.heap.size := by rw [hwy]; simp
     replace mz : wz36.heap.size < wz152.heap.size := by omega
     replace xz : wz136.heap.size < wz152.heap.size := by omega
     replace LO : _ ≤ wz152.heap.size := Nat.le_trans LO (Nat.le_of_eq hsz.symm)
     clear hsz hwy mc0
     have mc0 := md0
     clear md0
     refine hK.out _ _ ?_ (fun _ => ?_)
     · (try dsimp only); exact ⟨s0, s1, s2, s3, s4, s5, s6, s7, s8, s9, s10, s11, s12, s13, s14, s15, s16⟩
     clear hK K
     (try simp only [Act.put, List.setIfInBounds_toArray, List.set_cons_zero, List.set_cons_succ])
     have hHeld := And.intro s0 (And.intro s1 (And.intro s2 (And.intro s3 (And.intro s4 (And.intro s5 (And.intro s6 (And.intro s7 (And.intro s8 (And.intro s9 (And.intro s10 (And.intro s11 (And.intro s12 (And.intro s13 (And.intro s14 (And.intro s15 (s16))))))))))))))))
     refine wpAnyH_take (i := 30) (oi := ?oi153) (v := ?v153) ?hi153 (by kernel_rfl) (by kernel_rfl) (by kernel_rfl) ?hQ153 (Or.inl ⟨?hw153, ?hy153⟩) (by assumption) ?rest153; (case hi153 => (simp only [List.getElem?_toArray, List.getElem?_cons_succ, List.getElem?_cons_zero]; rfl)); (case hQ153 => exact fun _ _ _ h => h); (case hw153 => rfl); (case hy153 => ((intro w hSw); (try dsimp only at hSw); go_simp; (try with_reducible rfl)))
     (try simp only [Act.put, List.setIfInBounds_toArray, List.set_cons_zero, List.set_cons_succ])
     refine wpAnyH_take (i := 31) (oi := ?oi155) (v := ?v155) ?hi155 (by kernel_rfl) (by kernel_rfl) (by kernel_rfl) ?hQ155 (Or.inl ⟨?hw155, ?hy155⟩) (by assumption) ?rest155; (case hi155 => (simp only [List.getElem?_toArray, List.getElem?_cons_succ, List.getElem?_cons_zero]; rfl)); (case hQ155 => exact fun _ _ _ h => h); (case hw155 => rfl); (case hy155 => ((intro w hSw); (try dsimp only at hSw); go_simp; (try with_reducible rfl)))
     (try simp only [Act.put, List.setIfInBounds_toArray, List.set_cons_zero, List.set_cons_succ])
     clear hHeld
     refine wpAnyH_done (by kernel_rfl) ?_ _
     have ff := HF.out.2
     have kk := World.cell?_setCell_same wz152 ⟨w.heap.size + 1 + 1, 0, none⟩ (.slice am 16 cm) s16
     go_wp2
     refine bodyPost_ret (v := .agg #[.slice am 16 cm]) (by simp [results, Try.results36, go_sem, kk]) rfl ?_
     exact ⟨am, cm, rfl, hasInts_setS HM1.out s16, (HB0.out.trans (HW.out.mono (by have := HLO.out; omega))).setCell (by dsimp only; omega) _⟩
   case rest35 =>
    go_simp
    obtain ⟨wz157, hwy⟩ : ∃ W, W = wz33.alloc (.cells #[.slice none 0 0] 55) := ⟨_, rfl⟩
    rw [← hwy]
    have hb : Below wz33.heap.size wz33 wz157 := by rw [hwy]; exact below_new1 _ _
    have mc0 : wz157.cell? ⟨wz33.heap.size, 0, none⟩ = some (.slice none 0 0) := by rw [hwy, World.cell?_alloc_at _ _ _ _ rfl]; rfl
    have mf0 : wz157.frozen? ⟨wz33.heap.size, 0, none⟩ = false := by rw [hwy]; exact World.frozen?_alloc_at _ _ _ _ rfl
    have mt : Tag wz157 wz33.heap.size 55 := by rw [hwy]; exact tag_new _ _ _
    have mz : wz33.heap.size < wz157.heap.size := by rw [hwy]; simp
    have ml := LO
    replace HW := Lib.hid (below_step HW.out hb)
    replace s0 := cel_below hb s0
    replace s1 := cel_below hb s1
    replace s2 := cel_below hb s2
    replace s3 := cel_below hb s3
    replace s4 := cel_below hb s4
    replace s5 := cel_below hb s5
    replace s6 := cel_below hb s6
    replace s7 := cel_below hb s7
    replace s8 := cel_below hb s8
    replace s9 := cel_below hb s9
    replace s10 := cel_below hb s10
    replace s11 := cel_below hb s11
    replace s12 := cel_below hb s12
    replace s13 := cel_below hb s13
    replace s14 := cel_below hb s14
    replace s15 := cel_below hb s15
    replace s16 := cel_below hb s16
    replace HF := Lib.hid (fz_keep HF.out hb)
    replace HN1 := Lib.hid (hasInts_keep HN1.out hb)
    replace LO := Nat.le_trans LO hb.size
    clear hb hwy
    refine hK.out _ _ ?_ (fun _ => ?_)
    · (try dsimp only); exact ⟨s0, s1, s2, s3, s4, s5, s6, s7, s8, s9, s10, s11, s12, s13, s14, s15, s16⟩
    clear hK K
    (try simp only [Act.put, List.setIfInBounds_toArray, List.set_cons_zero, List.set_cons_succ])
    refine wpAnyH_ready (rs := [7]) (by kernel_rfl) (by simp) ?_
    refine AllReadyH.cons (o := ?oi158) ?hi158 (fun K hK => ?rest158) AllReadyH.nil
    (case hi158 => (simp only [List.getElem?_toArray, List.getElem?_cons_succ, List.getElem?_cons_zero]; rfl))
    go_simp
    ((with_reducible refine (HS.out _).mono ?_); rintro e wz159 ⟨rfl, hb⟩)
    replace HW := Lib.hid (below_step HW.out hb)
    replace s0 := cel_below hb s0
    replace s1 := cel_below hb s1
    replace s2 := cel_below hb s2
    replace s3 := cel_below hb s3
    replace s4 := cel_below hb s4
    replace s5 := cel_below hb s5
    replace s6 := cel_below hb s6
    replace s7 := cel_below hb s7
    replace s8 := cel_below hb s8
    replace s9 := cel_below hb s9
    replace s10 := cel_below hb s10
    replace s11 := cel_below hb s11
    replace s12 := cel_below hb s12
    replace s13 := cel_below hb s13
    replace s14 := cel_below hb s14
    replace s15 := cel_below hb s15
    replace s16 := cel_below hb s16
    replace mc0 := cel_below hb mc0
    replace mf0 := fro_below hb mz mf0
    replace mz := lt_below hb mz
    replace mt := tag_below mt hb
    replace HF := Lib.hid (fz_keep HF.out hb)
    replace HN1 := Lib.hid (hasInts_keep HN1.out hb)
    replace LO := Nat.le_trans LO hb.size
    clear hb
    refine hK.out _ _ ?_ (fun _ => ?_)
    · (try dsimp only); exact ⟨s0, s1, s2, s3, s4, s5, s6, s7, s8, s9, s10, s11, s12, s13, s14, s15, s16⟩
    clear hK K
    (try simp only [Act.put, List.setIfInBounds_toArray, List.set_cons_zero, List.set_cons_succ])
    have hHeld := And.intro s0 (And.intro s1 (And.intro s2 (And.intro s3 (And.intro s4 (And.intro s5 (And.intro s6 (And.intro s7 (And.intro s8 (And.intro s9 (And.intro s10 (And.intro s11 (And.intro s12 (And.intro s13 (And.intro s14 (And.intro s15 (s16))))))))))))))))
    refine wpAnyH_take (i := 9) (oi := ?oi160) (v := ?v160) ?hi160 (by kernel_rfl) (by kernel_rfl) (by kernel_rfl) ?hQ160 (Or.inl ⟨?hw160, ?hy160⟩) (by assumption) ?rest160; (case hi160 => (simp only [List.getElem?_toArray, List.getElem?_cons_succ, List.getElem?_cons_zero]; rfl)); (case hQ160 => exact fun _ _ _ h => h); (case hw160 => rfl); (case hy160 => ((intro w hSw); (try dsimp only at hSw); go_simp; (try with_reducible rfl)))
    (try simp only [Act.put, List.setIfInBounds_toArray, List.set_cons_zero, List.set_cons_succ])
    clear hHeld
    refine wpAnyH_ready (rs := [12]) (by kernel_rfl) (by simp) ?_
    refine AllReadyH.cons (o := ?oi162) ?hi162 (fun K hK => ?rest162) AllReadyH.nil
    (case hi162 => (simp only [List.getElem?_toArray, List.getElem?_cons_succ, List.getElem?_cons_zero]; rfl))
    go_simp
    ((with_reducible refine (HT.out _).mono ?_); rintro e wz163 ⟨rfl, hb⟩)
    replace HW := Lib.hid (below_step HW.out hb)
    replace s0 := cel_below hb s0
    replace s1 := cel_below hb s1
    replace s2 := cel_below hb s2
    replace s3 := cel_below hb s3
    replace s4 := cel_below hb s4
    replace s5 := cel_below hb s5
    replace s6 := cel_below hb s6
    replace s7 := cel_below hb s7
    replace s8 := cel_below hb s8
    replace s9 := cel_below hb s9
    replace s10 := cel_below hb s10
    replace s11 := cel_below hb s11
    replace s12 := cel_below hb s12
    replace s13 := cel_below hb s13
    replace s14 := cel_below hb s14
    replace s15 := cel_below hb s15
    replace s16 := cel_below hb s16
    replace mc0 := cel_below hb mc0
    replace mf0 := fro_below hb mz mf0
    replace mz := lt_below hb mz
    replace mt := tag_below mt hb
    replace HF := Lib.hid (fz_keep HF.out hb)
    replace HN1 := Lib.hid (hasInts_keep HN1.out hb)
    replace LO := Nat.le_trans LO hb.size
    clear hb
    refine hK.out _ _ ?_ (fun _ => ?_)
    · (try dsimp only); exact ⟨s0, s1, s2, s3, s4, s5, s6, s7, s8, s9, s10, s11, s12, s13, s14, s15, s16⟩
    clear hK K
    (try simp only [Act.put, List.setIfInBounds_toArray, List.set_cons_zero, List.set_cons_succ])
    have hHeld := And.intro s0 (And.intro s1 (And.intro s2 (And.intro s3 (And.intro s4 (And.intro s5 (And.intro s6 (And.intro s7 (And.intro s8 (And.intro s9 (And.intro s10 (And.intro s11 (And.intro s12 (And.intro s13 (And.intro s14 (And.intro s15 (s16))))))))))))))))
    refine wpAnyH_take (i := 15) (oi := ?oi164) (v := ?v164) ?hi164 (by kernel_rfl) (by kernel_rfl) (by kernel_rfl) ?hQ164 (Or.inl ⟨?hw164, ?hy164⟩) (by assumption) ?rest164; (case hi164 => (simp only [List.getElem?_toArray, List.getElem?_cons_succ, List.getElem?_cons_zero]; rfl)); (case hQ164 => exact fun _ _ _ h => h); (case hw164 => rfl); (case hy164 => ((intro w hSw); (try dsimp only at hSw); go_simp; (try with_reducible rfl)))
    (try simp only [Act.put, List.setIfInBounds_toArray, List.set_cons_zero, List.set_cons_succ])
    clear hHeld
    refine wpAnyH_ready (rs := [18]) (by kernel_rfl) (by simp) ?_
    refine AllReadyH.cons (o := ?oi166) ?hi166 (fun K hK => ?rest166) AllReadyH.nil
    (case hi166 => (simp only [List.getElem?_toArray, List.getElem?_cons_succ, List.getElem?_cons_zero]; rfl))
    go_simp
    ((with_reducible refine (HK.out _).mono ?_); rintro e wz167 ⟨rfl, hb⟩)
    replace HW := Lib.hid (below_step HW.out hb)
    replace s0 := cel_below hb s0
    replace s1 := cel_below hb s1
    replace s2 := cel_below hb s2
    replace s3 := cel_below hb s3
    replace s4 := cel_below hb s4
    replace s5 := cel_below hb s5
    replace s6 := cel_below hb s6
    replace s7 := cel_below hb s7
    replace s8 := cel_below hb s8
    replace s9 := cel_below hb s9
    replace s10 := cel_below hb s10
    replace s11 := cel_below hb s11
    replace s12 := cel_below hb s12
    replace s13 := cel_below hb s13
    replace s14 := cel_below hb s14
    replace s15 := cel_below hb s15
    replace s16 := cel_below hb s16
    replace mc0 := cel_below hb mc0
    replace mf0 := fro_below hb mz mf0
    replace mz := lt_below hb mz
    replace mt := tag_below mt hb
    replace HF := Lib.hid (fz_keep HF.out hb)
    replace HN1 := Lib.hid (hasInts_keep HN1.out hb)
    replace LO := Nat.le_trans LO hb.size
    clear hb
    refine hK.out _ _ ?_ (fun _ => ?_)
    · (try dsimp only); exact ⟨s0, s1, s2, s3, s4, s5, s6, s7, s8, s9, s10, s11, s12, s13, s14, s15, s16⟩
    clear hK K
    (try simp only [Act.put, List.setIfInBounds_toArray, List.set_cons_zero, List.set_cons_succ])
    have hHeld := And.intro s0 (And.intro s1 (And.intro s2 (And.intro s3 (And.intro s4 (And.intro s5 (And.intro s6 (And.intro s7 (And.intro s8 (And.intro s9 (And.intro s10 (And.intro s11 (And.intro s12 (And.intro s13 (And.intro s14 (And.intro s15 (s16))))))))))))))))
    refine wpAnyH_take (i := 21) (oi := ?oi168) (v := ?v168) ?hi168 (by kernel_rfl) (by kernel_rfl) (by kernel_rfl) ?hQ168 (Or.inl ⟨?hw168, ?hy168⟩) (by assumption) ?rest168; (case hi168 => (simp only [List.getElem?_toArray, List.getElem?_cons_succ, List.getElem?_cons_zero]; rfl)); (case hQ168 => exact fun _ _ _ h => h); (case hw168 => rfl); (case hy168 => ((intro w hSw); (try dsimp only at hSw); go_simp; (try with_reducible rfl)))
    (try simp only [Act.put, List.setIfInBounds_toArray, List.set_cons_zero, List.set_cons_succ])
    clear hHeld
    refine wpAnyH_ready (rs := [22]) (by kernel_rfl) (by simp) ?_
    refine AllReadyH.cons (o := ?oi170) ?hi170 (fun K hK => ?rest170) AllReadyH.nil
    (case hi170 => (simp only [List.getElem?_toArray, List.getElem?_cons_succ, List.getElem?_cons_zero]; rfl))
    go_simp
    obtain ⟨wz171, hwy⟩ : ∃ W, W = wz167.alloc (.cells #[.int .i64 2, .int .i64 p0, .int .i64 0, .int .i64 s, .string ⟨#[]⟩, .int .i64 2, .int .i64 p1, .int .i64 0, .int .i64 m.s, .string ⟨#[]⟩, .int .i64 2, .int .i64 p2, .int .i64 0, .int .i64 m.k, .string ⟨#[]⟩] 32) := ⟨_, rfl⟩
    rw [← hwy]
    have hb : Below wz167.heap.size wz167 wz171 := by rw [hwy]; exact below_new1 _ _
    have xc0 : wz171.cell? ⟨wz167.heap.size, 0, none⟩ = some (.int .i64 2) := by rw [hwy, World.cell?_alloc_at _ _ _ _ rfl]; rfl
    have xf0 : wz171.frozen? ⟨wz167.heap.size, 0, none⟩ = false := by rw [hwy]; exact World.frozen?_alloc_at _ _ _ _ rfl
    have xc1 : wz171.cell? ⟨wz167.heap.size, 1, none⟩ = some (.int .i64 p0) := by rw [hwy, World.cell?_alloc_at _ _ _ _ rfl]; rfl
    have xf1 : wz171.frozen? ⟨wz167.heap.size, 1, none⟩ = false := by rw [hwy]; exact World.frozen?_alloc_at _ _ _ _ rfl
    have xc2 : wz171.cell? ⟨wz167.heap.size, 2, none⟩ = some (.int .i64 0) := by rw [hwy, World.cell?_alloc_at _ _ _ _ rfl]; rfl
    have xf2 : wz171.frozen? ⟨wz167.heap.size, 2, none⟩ = false := by rw [hwy]; exact World.frozen?_alloc_at _ _ _ _ rfl
    have xc3 : wz171.cell? ⟨wz167.heap.size, 3, none⟩ = some (.int .i64 s) := by rw [hwy, World.cell?_alloc_at _ _ _ _ rfl]; rfl
    have xf3 : wz171.frozen? ⟨wz167.heap.size, 3, none⟩ = false := by rw [hwy]; exact World.frozen?_alloc_at _ _ _ _ rfl
    have xc4 : wz171.cell? ⟨wz167.heap.size, 4, none⟩ = some (.string ⟨#[]⟩) := by rw [hwy, World.cell?_alloc_at _ _ _ _ rfl]; rfl
    have xf4 : wz171.frozen? ⟨wz167.heap.size, 4, none⟩ = false := by rw [hwy]; exact World.frozen?_alloc_at _ _ _ _ rfl
    have xc5 : wz171.cell? ⟨wz167.heap.size, 5, none⟩ = some (.int .i64 2) := by rw [hwy, World.cell?_alloc_at _ _ _ _ rfl]; rfl
    have xf5 : wz171.frozen? ⟨wz167.heap.size, 5, none⟩ = false := by rw [hwy]; exact World.frozen?_alloc_at _ _ _ _ rfl
    have xc6 : wz171.cell? ⟨wz167.heap.size, 6, none⟩ = some (.int .i64 p1) := by rw [hwy, World.cell?_alloc_at _ _ _ _ rfl]; rfl
    have xf6 : wz171.frozen? ⟨wz167.heap.size, 6, none⟩ = false := by rw [hwy]; exact World.frozen?_alloc_at _ _ _ _ rfl
    have xc7 : wz171.cell? ⟨wz167.heap.size, 7, none⟩ = some (.int .i64 0) := by rw [hwy, World.cell?_alloc_at _ _ _ _ rfl]; rfl
    have xf7 : wz171.frozen? ⟨wz167.heap.size, 7, none⟩ = false := by rw [hwy]; exact World.frozen?_alloc_at _ _ _ _ rfl
    have xc8 : wz171.cell? ⟨wz167.heap.size, 8, none⟩ = some (.int .i64 m.s) := by rw [hwy, World.cell?_alloc_at _ _ _ _ rfl]; rfl
    have xf8 : wz171.frozen? ⟨wz167.heap.size, 8, none⟩ = false := by rw [hwy]; exact World.frozen?_alloc_at _ _ _ _ rfl
    have xc9 : wz171.cell? ⟨wz167.heap.size, 9, none⟩ = some (.string ⟨#[]⟩) := by rw [hwy, World.cell?_alloc_at _ _ _ _ rfl]; rfl
    have xf9 : wz171.frozen? ⟨wz167.heap.size, 9, none⟩ = false := by rw [hwy]; exact World.frozen?_alloc_at _ _ _ _ rfl
    have xc10 : wz171.cell? ⟨wz167.heap.size, 10, none⟩ = some (.int .i64 2) := by rw [hwy, World.cell?_alloc_at _ _ _ _ rfl]; rfl
    have xf10 : wz171.frozen? ⟨wz167.heap.size, 10, none⟩ = false := by rw [hwy]; exact World.frozen?_alloc_at _ _ _ _ rfl
    have xc11 : wz171.cell? ⟨wz167.heap.size, 11, none⟩ = some (.int .i64 p2) := by rw [hwy, World.cell?_alloc_at _ _ _ _ rfl]; rfl
    have xf11 : wz171.frozen? ⟨wz167.heap.size, 11, none⟩ = false := by rw [hwy]; exact World.frozen?_alloc_at _ _ _ _ rfl
    have xc12 : wz171.cell? ⟨wz167.heap.size, 12, none⟩ = some (.int .i64 0) := by rw [hwy, World.cell?_alloc_at _ _ _ _ rfl]; rfl
    have xf12 : wz171.frozen? ⟨wz167.heap.size, 12, none⟩ = false := by rw [hwy]; exact World.frozen?_alloc_at _ _ _ _ rfl
    have xc13 : wz171.cell? ⟨wz167.heap.size, 13, none⟩ = some (.int .i64 m.k) := by rw [hwy, World.cell?_alloc_at _ _ _ _ rfl]; rfl
    have xf13 : wz171.frozen? ⟨wz167.heap.size, 13, none⟩ = false := by rw [hwy]; exact World.frozen?_alloc_at _ _ _ _ rfl
    have xc14 : wz171.cell? ⟨wz167.heap.size, 14, none⟩ = some (.string ⟨#[]⟩) := by rw [hwy, World.cell?_alloc_at _ _ _ _ rfl]; rfl
    have xf14 : wz171.frozen? ⟨wz167.heap.size, 14, none⟩ = false := by rw [hwy]; exact World.frozen?_alloc_at _ _ _ _ rfl
    have xt : Tag wz171 wz167.heap.size 32 := by rw [hwy]; exact tag_new _ _ _
    have xz : wz167.heap.size < wz171.heap.size := by rw [hwy]; simp
    have xl := LO
    replace HW := Lib.hid (below_step HW.out hb)
    replace s0 := cel_below hb s0
    replace s1 := cel_below hb s1
    replace s2 := cel_below hb s2
    replace s3 := cel_below hb s3
    replace s4 := cel_below hb s4
    replace s5 := cel_below hb s5
    replace s6 := cel_below hb s6
    replace s7 := cel_below hb s7
    replace s8 := cel_below hb s8
    replace s9 := cel_below hb s9
    replace s10 := cel_below hb s10
    replace s11 := cel_below hb s11
    replace s12 := cel_below hb s12
    replace s13 := cel_below hb s13
    replace s14 := cel_below hb s14
    replace s15 := cel_below hb s15
    replace s16 := cel_below hb s16
    replace mc0 := cel_below hb mc0
    replace mf0 := fro_below hb mz mf0
    replace mt := tag_below mt hb
    have mxn : wz33.heap.size ≠ wz167.heap.size := by omega
    replace mz := lt_below hb mz
    replace HF := Lib.hid (fz_keep HF.out hb)
    replace HN1 := Lib.hid (hasInts_keep HN1.out hb)
    replace LO := Nat.le_trans LO hb.size
    clear hb hwy
    refine hK.out _ _ ?_ (fun _ => ?_)
    · (try dsimp only); exact ⟨s0, s1, s2, s3, s4, s5, s6, s7, s8, s9, s10, s11, s12, s13, s14, s15, s16⟩
    clear hK K
    (try simp only [Act.put, List.setIfInBounds_toArray, List.set_cons_zero, List.set_cons_succ])
    refine wpAnyH_ready (rs := [23]) (by kernel_rfl) (by simp) ?_
    refine AllReadyH.cons (o := ?oi172) ?hi172 (fun K hK => ?rest172) AllReadyH.nil
    (case hi172 => (simp only [List.getElem?_toArray, List.getElem?_cons_succ, List.getElem?_cons_zero]; rfl))
    go_simp
    ((with_reducible refine (HA.out _ _ _ HN1.out (hasAccs_15 xc0 xc1 xc2 xc3 xc4 xc5 xc6 xc7 xc8 xc9 xc10 xc11 xc12 xc13 xc14)).mono ?_); rintro e wz173 ⟨am, cm, r3, rfl, hq, hb⟩)
    replace HW := Lib.hid (below_step HW.out hb)
    replace s0 := cel_below hb s0
    replace s1 := cel_below hb s1
    replace s2 := cel_below hb s2
    replace s3 := cel_below hb s3
    replace s4 := cel_below hb s4
    replace s5 := cel_below hb s5
    replace s6 := cel_below hb s6
    replace s7 := cel_below hb s7
    replace s8 := cel_below hb s8
    replace s9 := cel_below hb s9
    replace s10 := cel_below hb s10
    replace s11 := cel_below hb s11
    replace s12 := cel_below hb s12
    replace s13 := cel_below hb s13
    replace s14 := cel_below hb s14
    replace s15 := cel_below hb s15
    replace s16 := cel_below hb s16
    replace mc0 := cel_below hb mc0
    replace mf0 := fro_below hb mz mf0
    replace mz := lt_below hb mz
    replace mt := tag_below mt hb
    replace xc0 := cel_below hb xc0
    replace xf0 := fro_below hb xz xf0
    replace xc1 := cel_below hb xc1
    replace xf1 := fro_below hb xz xf1
    replace xc2 := cel_below hb xc2
    replace xf2 := fro_below hb xz xf2
    replace xc3 := cel_below hb xc3
    replace xf3 := fro_below hb xz xf3
    replace xc4 := cel_below hb xc4
    replace xf4 := fro_below hb xz xf4
    replace xc5 := cel_below hb xc5
    replace xf5 := fro_below hb xz xf5
    replace xc6 := cel_below hb xc6
    replace xf6 := fro_below hb xz xf6
    replace xc7 := cel_below hb xc7
    replace xf7 := fro_below hb xz xf7
    replace xc8 := cel_below hb xc8
    replace xf8 := fro_below hb xz xf8
    replace xc9 := cel_below hb xc9
    replace xf9 := fro_below hb xz xf9
    replace xc10 := cel_below hb xc10
    replace xf10 := fro_below hb xz xf10
    replace xc11 := cel_below hb xc11
    replace xf11 := fro_below hb xz xf11
    replace xc12 := cel_below hb xc12
    replace xf12 := fro_below hb xz xf12
    replace xc13 := cel_below hb xc13
    replace xf13 := fro_below hb xz xf13
    replace xc14 := cel_below hb xc14
    replace xf14 := fro_below hb xz xf14
    replace xz := lt_below hb xz
    replace xt := tag_below xt hb
    replace HF := Lib.hid (fz_keep HF.out hb)
    replace HN1 := Lib.hid (hasInts_keep HN1.out hb)
    have HM1 := Lib.hid hq
    clear hq HN1
    replace LO := Nat.le_trans LO hb.size
    clear hb
    refine hK.out _ _ ?_ (fun _ => ?_)
    · (try dsimp only); exact ⟨s0, s1, s2, s3, s4, s5, s6, s7, s8, s9, s10, s11, s12, s13, s14, s15, s16⟩
    clear hK K
    (try simp only [Act.put, List.setIfInBounds_toArray, List.set_cons_zero, List.set_cons_succ])
    have hHeld := And.intro s0 (And.intro s1 (And.intro s2 (And.intro s3 (And.intro s4 (And.intro s5 (And.intro s6 (And.intro s7 (And.intro s8 (And.intro s9 (And.intro s10 (And.intro s11 (And.intro s12 (And.intro s13 (And.intro s14 (And.intro s15 (s16))))))))))))))))
    refine wpAnyH_take (i := 24) (oi := ?oi174) (v := ?v174) ?hi174 (by kernel_rfl) (by kernel_rfl) (by kernel_rfl) ?hQ174 (Or.inl ⟨?hw174, ?hy174⟩) (by assumption) ?rest174; (case hi174 => (simp only [List.getElem?_toArray, List.getElem?_cons_succ, List.getElem?_cons_zero]; rfl)); (case hQ174 => exact fun _ _ _ h => h); (case hw174 => rfl); (case hy174 => ((intro w hSw); (try dsimp only at hSw); go_simp; (try with_reducible rfl)))
    (try simp only [Act.put, List.setIfInBounds_toArray, List.set_cons_zero, List.set_cons_succ])
    refine wpAnyH_take (i := 25) (oi := ?oi176) (v := ?v176) ?hi176 (by kernel_rfl) (by kernel_rfl) (by kernel_rfl) ?hQ176 (Or.inl ⟨?hw176, ?hy176⟩) (by assumption) ?rest176; (case hi176 => (simp only [List.getElem?_toArray, List.getElem?_cons_succ, List.getElem?_cons_zero]; rfl)); (case hQ176 => exact fun _ _ _ h => h); (case hw176 => rfl); (case hy176 => ((intro w hSw); (try dsimp only at hSw); go_simp; (try with_reducible rfl)))
    (try simp only [Act.put, List.setIfInBounds_toArray, List.set_cons_zero, List.set_cons_succ])
    refine wpAnyH_take (i := 26) (oi := ?oi178) (v := ?v178) ?hi178 (by kernel_rfl) (by kernel_rfl) (by kernel_rfl) ?hQ178 (Or.inl ⟨?hw178, ?hy178⟩) (by assumption) ?rest178; (case hi178 => (simp only [List.getElem?_toArray, List.getElem?_cons_succ, List.getElem?_cons_zero]; rfl)); (case hQ178 => exact fun _ _ _ h => h); (case hw178 => rfl); (case hy178 => ((intro w hSw); (try dsimp only at hSw); go_simp; (try with_reducible rfl)))
    (try simp only [Act.put, List.setIfInBounds_toArray, List.set_cons_zero, List.set_cons_succ])
    refine wpAnyH_take (i := 27) (oi := ?oi180) (v := ?v180) ?hi180 (by kernel_rfl) (by kernel_rfl) (by kernel_rfl) ?hQ180 (Or.inl ⟨?hw180, ?hy180⟩) (by assumption) ?rest180; (case hi180 => (simp only [List.getElem?_toArray, List.getElem?_cons_succ, List.getElem?_cons_zero]; rfl)); (case hQ180 => exact fun _ _ _ h => h); (case hw180 => rfl); (case hy180 => ((intro w hSw); (try dsimp only at hSw); go_simp; (try with_reducible rfl)))
    (try simp only [Act.put, List.setIfInBounds_toArray, List.set_cons_zero, List.set_cons_succ])
    clear hHeld
    refine wpAnyH_ready (rs := [29]) (by kernel_rfl) (by simp) ?_
    refine AllReadyH.cons (o := ?oi182) ?hi182 (fun K hK => ?rest182) AllReadyH.nil
    (case hi182 => (simp only [List.getElem?_toArray, List.getElem?_cons_succ, List.getElem?_cons_zero]; rfl))
    go_simp
    obtain ⟨wz183, hwy⟩ : ∃ W, W = (wz173.setCell ⟨wz33.heap.size, 0, none⟩ (.slice am 16 cm)) := ⟨_, rfl⟩
    rw [← hwy]
    have kp : ∀ {b' o' : Nat} {u : Value}, wz173.cell? ⟨b', o', none⟩ = some u → wz33.heap.size ≠ b' → wz183.cell? ⟨b', o', none⟩ = some u := fun h hn => by rw [hwy]; exact keepA_ (h) (Or.inl hn)
    replace s0 := kp s0 (by omega)
    replace s1 := kp s1 (by omega)
    replace s2 := kp s2 (by omega)
    replace s3 := kp s3 (by omega)
    replace s4 := kp s4 (by omega)
    replace s5 := kp s5 (by omega)
    replace s6 := kp s6 (by omega)
    replace s7 := kp s7 (by omega)
    replace s8 := kp s8 (by omega)
    replace s9 := kp s9 (by omega)
    replace s10 := kp s10 (by omega)
    replace s11 := kp s11 (by omega)
    replace s12 := kp s12 (by omega)
    replace s13 := kp s13 (by omega)
    replace s14 := kp s14 (by omega)
    replace s15 := kp s15 (by omega)
    replace s16 := kp s16 (by omega)
    clear kp
    replace xc0 : wz183.cell? ⟨wz167.heap.size, 0, none⟩ = some (.int .i64 2) := by rw [hwy]; exact keepA_ (xc0) (Or.inl (by omega))
    replace xf0 : wz183.frozen? ⟨wz167.heap.size, 0, none⟩ = false := by rw [hwy]; simpa using xf0
    replace xc1 : wz183.cell? ⟨wz167.heap.size, 1, none⟩ = some (.int .i64 p0) := by rw [hwy]; exact keepA_ (xc1) (Or.inl (by omega))
    replace xf1 : wz183.frozen? ⟨wz167.heap.size, 1, none⟩ = false := by rw [hwy]; simpa using xf1
    replace xc2 : wz183.cell? ⟨wz167.heap.size, 2, none⟩ = some (.int .i64 0) := by rw [hwy]; exact keepA_ (xc2) (Or.inl (by omega))
    replace xf2 : wz183.frozen? ⟨wz167.heap.size, 2, none⟩ = false := by rw [hwy]; simpa using xf2
    replace xc3 : wz183.cell? ⟨wz167.heap.size, 3, none⟩ = some (.int .i64 s) := by rw [hwy]; exact keepA_ (xc3) (Or.inl (by omega))
    replace xf3 : wz183.frozen? ⟨wz167.heap.size, 3, none⟩ = false := by rw [hwy]; simpa using xf3
    replace xc4 : wz183.cell? ⟨wz167.heap.size, 4, none⟩ = some (.string ⟨#[]⟩) := by rw [hwy]; exact keepA_ (xc4) (Or.inl (by omega))
    replace xf4 : wz183.frozen? ⟨wz167.heap.size, 4, none⟩ = false := by rw [hwy]; simpa using xf4
    replace xc5 : wz183.cell? ⟨wz167.heap.size, 5, none⟩ = some (.int .i64 2) := by rw [hwy]; exact keepA_ (xc5) (Or.inl (by omega))
    replace xf5 : wz183.frozen? ⟨wz167.heap.size, 5, none⟩ = false := by rw [hwy]; simpa using xf5
    replace xc6 : wz183.cell? ⟨wz167.heap.size, 6, none⟩ = some (.int .i64 p1) := by rw [hwy]; exact keepA_ (xc6) (Or.inl (by omega))
    replace xf6 : wz183.frozen? ⟨wz167.heap.size, 6, none⟩ = false := by rw [hwy]; simpa using xf6
    replace xc7 : wz183.cell? ⟨wz167.heap.size, 7, none⟩ = some (.int .i64 0) := by rw [hwy]; exact keepA_ (xc7) (Or.inl (by omega))
    replace xf7 : wz183.frozen? ⟨wz167.heap.size, 7, none⟩ = false := by rw [hwy]; simpa using xf7
    replace xc8 : wz183.cell? ⟨wz167.heap.size, 8, none⟩ = some (.int .i64 m.s) := by rw [hwy]; exact keepA_ (xc8) (Or.inl (by omega))
    replace xf8 : wz183.frozen? ⟨wz167.heap.size, 8, none⟩ = false := by rw [hwy]; simpa using xf8
    replace xc9 : wz183.cell? ⟨wz167.heap.size, 9, none⟩ = some (.string ⟨#[]⟩) := by rw [hwy]; exact keepA_ (xc9) (Or.inl (by omega))
    replace xf9 : wz183.frozen? ⟨wz167.heap.size, 9, none⟩ = false := by rw [hwy]; simpa using xf9
    replace xc10 : wz183.cell? ⟨wz167.heap.size, 10, none⟩ = some (.int .i64 2) := by rw [hwy]; exact keepA_ (xc10) (Or.inl (by omega))
    replace xf10 : wz183.frozen? ⟨wz167.heap.size, 10, none⟩ = false := by rw [hwy]; simpa using xf10
    replace xc11 : wz183.cell? ⟨wz167.heap.size, 11, none⟩ = some (.int .i64 p2) := by rw [hwy]; exact keepA_ (xc11) (Or.inl (by omega))
    replace xf11 : wz183.frozen? ⟨wz167.heap.size, 11, none⟩ = false := by rw [hwy]; simpa using xf11
    replace xc12 : wz183.cell? ⟨wz167.heap.size, 12, none⟩ = some (.int .i64 0) := by rw [hwy]; exact keepA_ (xc12) (Or.inl (by omega))
    replace xf12 : wz183.frozen? ⟨wz167.heap.size, 12, none⟩ = false := by rw [hwy]; simpa using xf12
    replace xc13 : wz183.cell? ⟨wz167.heap.size, 13, none⟩ = some (.int .i64 m.k) := by rw [hwy]; exact keepA_ (xc13) (Or.inl (by omega))
    replace xf13 : wz183.frozen? ⟨wz167.heap.size, 13, none⟩ = false := by rw [hwy]; simpa using xf13
    replace xc14 : wz183.cell? ⟨wz167.heap.size, 14, none⟩ = some (.string ⟨#[]⟩) := by rw [hwy]; exact keepA_ (xc14) (Or.inl (by omega))
    replace xf14 : wz183.frozen? ⟨wz167.heap.size, 14, none⟩ = false := by rw [hwy]; simpa using xf14
    replace HF : Hid (Fz wz183 (w.heap.size + 1 + 1)) := Lib.hid (by rw [hwy]; exact (fz_set HF.out _ _))
    replace HM1 := Lib.hid (hasInts_setS HM1.out mc0 (u := .slice am 16 cm))
    rw [← hwy] at HM1
    have md0 : wz183.cell? ⟨wz33.heap.size, 0, none⟩ = some (.slice am 16 cm) := by rw [hwy]; exact World.cell?_setCell_same _ _ _ mc0
    replace mt : Tag wz183 wz33.heap.size 55 := by rw [hwy]; exact (tag_set mt _ _)
    replace xt : Tag wz183 wz167.heap.size 32 := by rw [hwy]; exact (tag_set xt _ _)
    replace mf0 : wz183.frozen? ⟨wz33.heap.size, 0, none⟩ = false := by rw [hwy]; simpa using mf0
    replace HW := Lib.hid (Below.setCell (p := ⟨wz33.heap.size, 0, none⟩) HW.out (by have := HWS.out; dsimp only; omega) (.slice am 16 cm))
    rw [← hwy] at HW
    have hsz : wz183.heap.size = wz173.heap.size := by rw [hwy]; simp
    replace mz : wz33.heap.size < wz183.heap.size := by omega
    replace xz : wz167.heap.size < wz183.heap.size := by omega
    replace LO : _ ≤ wz183.heap.size := Nat.le_trans LO (Nat.le_of_eq hsz.symm)
    clear hsz hwy mc0
    have mc0 := md0
    clear md0
    refine hK.out _ _ ?_ (fun _ => ?_)
    · (try dsimp only); exact ⟨s0, s1, s2, s3, s4, s5, s6, s7, s8, s9, s10, s11, s12, s13, s14, s15, s16⟩
    clear hK K
    (try simp only [Act.put, List.setIfInBounds_toArray, List.set_cons_zero, List.set_cons_succ])
    have hHeld := And.intro s0 (And.intro s1 (And.intro s2 (And.intro s3 (And.intro s4 (And.intro s5 (And.intro s6 (And.intro s7 (And.intro s8 (And.intro s9 (And.intro s10 (And.intro s11 (And.intro s12 (And.intro s13 (And.intro s14 (And.intro s15 (s16))))))))))))))))
    refine wpAnyH_take (i := 30) (oi := ?oi184) (v := ?v184) ?hi184 (by kernel_rfl) (by kernel_rfl) (by kernel_rfl) ?hQ184 (Or.inl ⟨?hw184, ?hy184⟩) (by assumption) ?rest184; (case hi184 => (simp only [List.getElem?_toArray, List.getElem?_cons_succ, List.getElem?_cons_zero]; rfl)); (case hQ184 => exact fun _ _ _ h => h); (case hw184 => rfl); (case hy184 => ((intro w hSw); (try dsimp only at hSw); go_simp; (try with_reducible rfl)))
    (try simp only [Act.put, List.setIfInBounds_toArray, List.set_cons_zero, List.set_cons_succ])
    refine wpAnyH_take (i := 31) (oi := ?oi186) (v := ?v186) ?hi186 (by kernel_rfl) (by kernel_rfl) (by kernel_rfl) ?hQ186 (Or.inl ⟨?hw186, ?hy186⟩) (by assumption) ?rest186; (case hi186 => (simp only [List.getElem?_toArray, List.getElem?_cons_succ, List.getElem?_cons_zero]; rfl)); (case hQ186 => exact fun _ _ _ h => h); (case hw186 => rfl); (case hy186 => ((intro w hSw); (try dsimp only at hSw); go_simp; (try with_reducible rfl)))
    (try simp only [Act.put, List.setIfInBounds_toArray, List.set_cons_zero, List.set_cons_succ])
    clear hHeld
    refine wpAnyH_done (by kernel_rfl) ?_ _
    have ff := HF.out.2
    have kk := World.cell?_setCell_same wz183 ⟨w.heap.size + 1 + 1, 0, none⟩ (.slice am 16 cm) s16
    go_wp2
    refine bodyPost_ret (v := .agg #[.slice am 16 cm]) (by simp [results, Try.results36, go_sem, kk]) rfl ?_
    exact ⟨am, cm, rfl, hasInts_setS HM1.out s16, (HB0.out.trans (HW.out.mono (by have := HLO.out; omega))).setCell (by dsimp only; omega) _⟩
  case rest32 =>
   go_simp
   obtain ⟨wz188, hwy⟩ : ∃ W, W = wy0.alloc (.cells #[.slice none 0 0] 55) := ⟨_, rfl⟩
   rw [← hwy]
   have hb : Below wy0.heap.size wy0 wz188 := by rw [hwy]; exact below_new1 _ _
   have mc0 : wz188.cell? ⟨wy0.heap.size, 0, none⟩ = some (.slice none 0 0) := by rw [hwy, World.cell?_alloc_at _ _ _ _ rfl]; rfl
   have mf0 : wz188.frozen? ⟨wy0.heap.size, 0, none⟩ = false := by rw [hwy]; exact World.frozen?_alloc_at _ _ _ _ rfl
   have mt : Tag wz188 wy0.heap.size 55 := by rw [hwy]; exact tag_new _ _ _
   have mz : wy0.heap.size < wz188.heap.size := by rw [hwy]; simp
   have ml := LO
   replace HW := Lib.hid (below_step HW.out hb)
   replace s0 := cel_below hb s0
   replace s1 := cel_below hb s1
   replace s2 := cel_below hb s2
   replace s3 := cel_below hb s3
   replace s4 := cel_below hb s4
   replace s5 := cel_below hb s5
   replace s6 := cel_below hb s6
   replace s7 := cel_below hb s7
   replace s8 := cel_below hb s8
   replace s9 := cel_below hb s9
   replace s10 := cel_below hb s10
   replace s11 := cel_below hb s11
   replace s12 := cel_below hb s12
   replace s13 := cel_below hb s13
   replace s14 := cel_below hb s14
   replace s15 := cel_below hb s15
   replace s16 := cel_below hb s16
   replace HF := Lib.hid (fz_keep HF.out hb)
   replace LO := Nat.le_trans LO hb.size
   clear hb hwy
   refine hK.out _ _ ?_ (fun _ => ?_)
   · (try dsimp only); exact ⟨s0, s1, s2, s3, s4, s5, s6, s7, s8, s9, s10, s11, s12, s13, s14, s15, s16⟩
   clear hK K
   (try simp only [Act.put, List.setIfInBounds_toArray, List.set_cons_zero, List.set_cons_succ])
   refine wpAnyH_ready (rs := [4]) (by kernel_rfl) (by simp) ?_
   refine AllReadyH.cons (o := ?oi189) ?hi189 (fun K hK => ?rest189) AllReadyH.nil
   (case hi189 => (simp only [List.getElem?_toArray, List.getElem?_cons_succ, List.getElem?_cons_zero]; rfl))
   go_simp
   ((with_reducible refine (HN.out _).mono ?_); rintro e wz190 ⟨g1, rfl, hq, hg1, hb⟩)
   replace HW := Lib.hid (below_step HW.out hb)
   replace s0 := cel_below hb s0
   replace s1 := cel_below hb s1
   replace s2 := cel_below hb s2
   replace s3 := cel_below hb s3
   replace s4 := cel_below hb s4
   replace s5 := cel_below hb s5
   replace s6 := cel_below hb s6
   replace s7 := cel_below hb s7
   replace s8 := cel_below hb s8
   replace s9 := cel_below hb s9
   replace s10 := cel_below hb s10
   replace s11 := cel_below hb s11
   replace s12 := cel_below hb s12
   replace s13 := cel_below hb s13
   replace s14 := cel_below hb s14
   replace s15 := cel_below hb s15
   replace s16 := cel_below hb s16
   replace mc0 := cel_below hb mc0
   replace mf0 := fro_below hb mz mf0
   replace mz := lt_below hb mz
   replace mt := tag_below mt hb
   replace HF := Lib.hid (fz_keep HF.out hb)
   have HN1 := Lib.hid hq
   clear hq hg1
   replace LO := Nat.le_trans LO hb.size
   clear hb
   refine hK.out _ _ ?_ (fun _ => ?_)
   · (try dsimp only); exact ⟨s0, s1, s2, s3, s4, s5, s6, s7, s8, s9, s10, s11, s12, s13, s14, s15, s16⟩
   clear hK K
   (try simp only [Act.put, List.setIfInBounds_toArray, List.set_cons_zero, List.set_cons_succ])
   refine wpAnyH_ready (rs := [7]) (by kernel_rfl) (by simp) ?_
   refine AllReadyH.cons (o := ?oi191) ?hi191 (fun K hK => ?rest191) AllReadyH.nil
   (case hi191 => (simp only [List.getElem?_toArray, List.getElem?_cons_succ, List.getElem?_cons_zero]; rfl))
   go_simp
   ((with_reducible refine (HS.out _).mono ?_); rintro e wz192 ⟨rfl, hb⟩)
   replace HW := Lib.hid (below_step HW.out hb)
   replace s0 := cel_below hb s0
   replace s1 := cel_below hb s1
   replace s2 := cel_below hb s2
   replace s3 := cel_below hb s3
   replace s4 := cel_below hb s4
   replace s5 := cel_below hb s5
   replace s6 := cel_below hb s6
   replace s7 := cel_below hb s7
   replace s8 := cel_below hb s8
   replace s9 := cel_below hb s9
   replace s10 := cel_below hb s10
   replace s11 := cel_below hb s11
   replace s12 := cel_below hb s12
   replace s13 := cel_below hb s13
   replace s14 := cel_below hb s14
   replace s15 := cel_below hb s15
   replace s16 := cel_below hb s16
   replace mc0 := cel_below hb mc0
   replace mf0 := fro_below hb mz mf0
   replace mz := lt_below hb mz
   replace mt := tag_below mt hb
   replace HF := Lib.hid (fz_keep HF.out hb)
   replace HN1 := Lib.hid (hasInts_keep HN1.out hb)
   replace LO := Nat.le_trans LO hb.size
   clear hb
   refine hK.out _ _ ?_ (fun _ => ?_)
   · (try dsimp only); exact ⟨s0, s1, s2, s3, s4, s5, s6, s7, s8, s9, s10, s11, s12, s13, s14, s15, s16⟩
   clear hK K
   (try simp only [Act.put, List.setIfInBounds_toArray, List.set_cons_zero, List.set_cons_succ])
   have hHeld := And.intro s0 (And.intro s1 (And.intro s2 (And.intro s3 (And.intro s4 (And.intro s5 (And.intro s6 (And.intro s7 (And.intro s8 (And.intro s9 (And.intro s10 (And.intro s11 (And.intro s12 (And.intro s13 (And.intro s14 (And.intro s15 (s16))))))))))))))))
   refine wpAnyH_take (i := 9) (oi := ?oi193) (v := ?v193) ?hi193 (by kernel_rfl) (by kernel_rfl) (by kernel_rfl) ?hQ193 (Or.inl ⟨?hw193, ?hy193⟩) (by assumption) ?rest193; (case hi193 => (simp only [List.getElem?_toArray, List.getElem?_cons_succ, List.getElem?_cons_zero]; rfl)); (case hQ193 => exact fun _ _ _ h => h); (case hw193 => rfl); (case hy193 => ((intro w hSw); (try dsimp only at hSw); go_simp; (try with_reducible rfl)))
   (try simp only [Act.put, List.setIfInBounds_toArray, List.set_cons_zero, List.set_cons_succ])
   clear hHeld
   refine wpAnyH_ready (rs := [12]) (by kernel_rfl) (by simp) ?_
   refine AllReadyH.cons (o := ?oi195) ?hi195 (fun K hK => ?rest195) AllReadyH.nil
   (case hi195 => (simp only [List.getElem?_toArray, List.getElem?_cons_succ, List.getElem?_cons_zero]; rfl))
   go_simp
   ((with_reducible refine (HT.out _).mono ?_); rintro e wz196 ⟨rfl, hb⟩)
   replace HW := Lib.hid (below_step HW.out hb)
   replace s0 := cel_below hb s0
   replace s1 := cel_below hb s1
   replace s2 := cel_below hb s2
   replace s3 := cel_below hb s3
   replace s4 := cel_below hb s4
   replace s5 := cel_below hb s5
   replace s6 := cel_below hb s6
   replace s7 := cel_below hb s7
   replace s8 := cel_below hb s8
   replace s9 := cel_below hb s9
   replace s10 := cel_below hb s10
   replace s11 := cel_below hb s11
   replace s12 := cel_below hb s12
   replace s13 := cel_below hb s13
   replace s14 := cel_below hb s14
   replace s15 := cel_below hb s15
   replace s16 := cel_below hb s16
   replace mc0 := cel_below hb mc0
   replace mf0 := fro_below hb mz mf0
   replace mz := lt_below hb mz
   replace mt := tag_below mt hb
   replace HF := Lib.hid (fz_keep HF.out hb)
   replace HN1 := Lib.hid (hasInts_keep HN1.out hb)
   replace LO := Nat.le_trans LO hb.size
   clear hb
   refine hK.out _ _ ?_ (fun _ => ?_)
   · (try dsimp only); exact ⟨s0, s1, s2, s3, s4, s5, s6, s7, s8, s9, s10, s11, s12, s13, s14, s15, s16⟩
   clear hK K
   (try simp only [Act.put, List.setIfInBounds_toArray, List.set_cons_zero, List.set_cons_succ])
   have hHeld := And.intro s0 (And.intro s1 (And.intro s2 (And.intro s3 (And.intro s4 (And.intro s5 (And.intro s6 (And.intro s7 (And.intro s8 (And.intro s9 (And.intro s10 (And.intro s11 (And.intro s12 (And.intro s13 (And.intro s14 (And.intro s15 (s16))))))))))))))))
   refine wpAnyH_take (i := 15) (oi := ?oi197) (v := ?v197) ?hi197 (by kernel_rfl) (by kernel_rfl) (by kernel_rfl) ?hQ197 (Or.inl ⟨?hw197, ?hy197⟩) (by assumption) ?rest197; (case hi197 => (simp only [List.getElem?_toArray, List.getElem?_cons_succ, List.getElem?_cons_zero]; rfl)); (case hQ197 => exact fun _ _ _ h => h); (case hw197 => rfl); (case hy197 => ((intro w hSw); (try dsimp only at hSw); go_simp; (try with_reducible rfl)))
   (try simp only [Act.put, List.setIfInBounds_toArray, List.set_cons_zero, List.set_cons_succ])
   clear hHeld
   refine wpAnyH_ready (rs := [18]) (by kernel_rfl) (by simp) ?_
   refine AllReadyH.cons (o := ?oi199) ?hi199 (fun K hK => ?rest199) AllReadyH.nil
   (case hi199 => (simp only [List.getElem?_toArray, List.getElem?_cons_succ, List.getElem?_cons_zero]; rfl))
   go_simp
   ((with_reducible refine (HK.out _).mono ?_); rintro e wz200 ⟨rfl, hb⟩)
   replace HW := Lib.hid (below_step HW.out hb)
   replace s0 := cel_below hb s0
   replace s1 := cel_below hb s1
   replace s2 := cel_below hb s2
   replace s3 := cel_below hb s3
   replace s4 := cel_below hb s4
   replace s5 := cel_below hb s5
   replace s6 := cel_below hb s6
   replace s7 := cel_below hb s7
   replace s8 := cel_below hb s8
   replace s9 := cel_below hb s9
   replace s10 := cel_below hb s10
   replace s11 := cel_below hb s11
   replace s12 := cel_below hb s12
   replace s13 := cel_below hb s13
   replace s14 := cel_below hb s14
   replace s15 := cel_below hb s15
   replace s16 := cel_below hb s16
   replace mc0 := cel_below hb mc0
   replace mf0 := fro_below hb mz mf0
   replace mz := lt_below hb mz
   replace mt := tag_below mt hb
   replace HF := Lib.hid (fz_keep HF.out hb)
   replace HN1 := Lib.hid (hasInts_keep HN1.out hb)
   replace LO := Nat.le_trans LO hb.size
   clear hb
   refine hK.out _ _ ?_ (fun _ => ?_)
   · (try dsimp only); exact ⟨s0, s1, s2, s3, s4, s5, s6, s7, s8, s9, s10, s11, s12, s13, s14, s15, s16⟩
   clear hK K
   (try simp only [Act.put, List.setIfInBounds_toArray, List.set_cons_zero, List.set_cons_succ])
   have hHeld := And.intro s0 (And.intro s1 (And.intro s2 (And.intro s3 (And.intro s4 (And.intro s5 (And.intro s6 (And.intro s7 (And.intro s8 (And.intro s9 (And.intro s10 (And.intro s11 (And.intro s12 (And.intro s13 (And.intro s14 (And.intro s15 (s16))))))))))))))))
   refine wpAnyH_take (i := 21) (oi := ?oi201) (v := ?v201) ?hi201 (by kernel_rfl) (by kernel_rfl) (by kernel_rfl) ?hQ201 (Or.inl ⟨?hw201, ?hy201⟩) (by assumption) ?rest201; (case hi201 => (simp only [List.getElem?_toArray, List.getElem?_cons_succ, List.getElem?_cons_zero]; rfl)); (case hQ201 => exact fun _ _ _ h => h); (case hw201 => rfl); (case hy201 => ((intro w hSw); (try dsimp only at hSw); go_simp; (try with_reducible rfl)))
   (try simp only [Act.put, List.setIfInBounds_toArray, List.set_cons_zero, List.set_cons_succ])
   clear hHeld
   refine wpAnyH_ready (rs := [22]) (by kernel_rfl) (by simp) ?_
   refine AllReadyH.cons (o := ?oi203) ?hi203 (fun K hK => ?rest203) AllReadyH.nil
   (case hi203 => (simp only [List.getElem?_toArray, List.getElem?_cons_succ, List.getElem?_cons_zero]; rfl))
   go_simp
   obtain ⟨wz204, hwy⟩ : ∃ W, W = wz200.alloc (.cells #[.int .i64 2, .int .i64 p0, .int .i64 0, .int .i64 s, .string ⟨#[]⟩, .int .i64 2, .int .i64 p1, .int .i64 0, .int .i64 m.s, .string ⟨#[]⟩, .int .i64 2, .int .i64 p2, .int .i64 0, .int .i64 m.k, .string ⟨#[]⟩] 32) := ⟨_, rfl⟩
   rw [← hwy]
   have hb : Below wz200.heap.size wz200 wz204 := by rw [hwy]; exact below_new1 _ _
   have xc0 : wz204.cell? ⟨wz200.heap.size, 0, none⟩ = some (.int .i64 2) := by rw [hwy, World.cell?_alloc_at _ _ _ _ rfl]; rfl
   have xf0 : wz204.frozen? ⟨wz200.heap.size, 0, none⟩ = false := by rw [hwy]; exact World.frozen?_alloc_at _ _ _ _ rfl
   have xc1 : wz204.cell? ⟨wz200.heap.size, 1, none⟩ = some (.int .i64 p0) := by rw [hwy, World.cell?_alloc_at _ _ _ _ rfl]; rfl
   have xf1 : wz204.frozen? ⟨wz200.heap.size, 1, none⟩ = false := by rw [hwy]; exact World.frozen?_alloc_at _ _ _ _ rfl
   have xc2 : wz204.cell? ⟨wz200.heap.size, 2, none⟩ = some (.int .i64 0) := by rw [hwy, World.cell?_alloc_at _ _ _ _ rfl]; rfl
   have xf2 : wz204.frozen? ⟨wz200.heap.size, 2, none⟩ = false := by rw [hwy]; exact World.frozen?_alloc_at _ _ _ _ rfl
   have xc3 : wz204.cell? ⟨wz200.heap.size, 3, none⟩ = some (.int .i64 s) := by rw [hwy, World.cell?_alloc_at _ _ _ _ rfl]; rfl
   have xf3 : wz204.frozen? ⟨wz200.heap.size, 3, none⟩ = false := by rw [hwy]; exact World.frozen?_alloc_at _ _ _ _ rfl
   have xc4 : wz204.cell? ⟨wz200.heap.size, 4, none⟩ = some (.string ⟨#[]⟩) := by rw [hwy, World.cell?_alloc_at _ _ _ _ rfl]; rfl
   have xf4 : wz204.frozen? ⟨wz200.heap.size, 4, none⟩ = false := by rw [hwy]; exact World.frozen?_alloc_at _ _ _ _ rfl
   have xc5 : wz204.cell? ⟨wz200.heap.size, 5, none⟩ = some (.int .i64 2) := by rw [hwy, World.cell?_alloc_at _ _ _ _ rfl]; rfl
   have xf5 : wz204.frozen? ⟨wz200.heap.size, 5, none⟩ = false := by rw [hwy]; exact World.frozen?_alloc_at _ _ _ _ rfl
   have xc6 : wz204.cell? ⟨wz200.heap.size, 6, none⟩ = some (.int .i64 p1) := by rw [hwy, World.cell?_alloc_at _ _ _ _ rfl]; rfl
   have xf6 : wz204.frozen? ⟨wz200.heap.size, 6, none⟩ = false := by rw [hwy]; exact World.frozen?_alloc_at _ _ _ _ rfl
   have xc7 : wz204.cell? ⟨wz200.heap.size, 7, none⟩ = some (.int .i64 0) := by rw [hwy, World.cell?_alloc_at _ _ _ _ rfl]; rfl
   have xf7 : wz204.frozen? ⟨wz200.heap.size, 7, none⟩ = false := by rw [hwy]; exact World.frozen?_alloc_at _ _ _ _ rfl
   have xc8 : wz204.cell? ⟨wz200.heap.size, 8, none⟩ = some (.int .i64 m.s) := by rw [hwy, World.cell?_alloc_at _ _ _ _ rfl]; rfl
   have xf8 : wz204.frozen? ⟨wz200.heap.size, 8, none⟩ = false := by rw [hwy]; exact World.frozen?_alloc_at _ _ _ _ rfl
   have xc9 : wz204.cell? ⟨wz200.heap.size, 9, none⟩ = some (.string ⟨#[]⟩) := by rw [hwy, World.cell?_alloc_at _ _ _ _ rfl]; rfl
   have xf9 : wz204.frozen? ⟨wz200.heap.size, 9, none⟩ = false := by rw [hwy]; exact World.frozen?_alloc_at _ _ _ _ rfl
   have xc10 : wz204.cell? ⟨wz200.heap.size, 10, none⟩ = some (.int .i64 2) := by rw [hwy, World.cell?_alloc_at _ _ _ _ rfl]; rfl
   have xf10 : wz204.frozen? ⟨wz200.heap.size, 10, none⟩ = false := by rw [hwy]; exact World.frozen?_alloc_at _ _ _ _ rfl
   have xc11 : wz204.cell? ⟨wz200.heap.size, 11, none⟩ = some (.int .i64 p2) := by rw [hwy, World.cell?_alloc_at _ _ _ _ rfl]; rfl
   have xf11 : wz204.frozen? ⟨wz200.heap.size, 11, none⟩ = false := by rw [hwy]; exact World.frozen?_alloc_at _ _ _ _ rfl
   have xc12 : wz204.cell? ⟨wz200.heap.size, 12, none⟩ = some (.int .i64 0) := by rw [hwy, World.cell?_alloc_at _ _ _ _ rfl]; rfl
   have xf12 : wz204.frozen? ⟨wz200.heap.size, 12, none⟩ = false := by rw [hwy]; exact World.frozen?_alloc_at _ _ _ _ rfl
   have xc13 : wz204.cell? ⟨wz200.heap.size, 13, none⟩ = some (.int .i64 m.k) := by rw [hwy, World.cell?_alloc_at _ _ _ _ rfl]; rfl
   have xf13 : wz204.frozen? ⟨wz200.heap.size, 13, none⟩ = false := by rw [hwy]; exact World.frozen?_alloc_at _ _ _ _ rfl
   have xc14 : wz204.cell? ⟨wz200.heap.size, 14, none⟩ = some (.string ⟨#[]⟩) := by rw [hwy, World.cell?_alloc_at _ _ _ _ rfl]; rfl
   have xf14 : wz204.frozen? ⟨wz200.heap.size, 14, none⟩ = false := by rw [hwy]; exact World.frozen?_alloc_at _ _ _ _ rfl
   have xt : Tag wz204 wz200.heap.size 32 := by rw [hwy]; exact tag_new _ _ _
   have xz : wz200.heap.size < wz204.heap.size := by rw [hwy]; simp
   have xl := LO
   replace HW := Lib.hid (below_step HW.out hb)
   replace s0 := cel_below hb s0
   replace s1 := cel_below hb s1
   replace s2 := cel_below hb s2
   replace s3 := cel_below hb s3
   replace s4 := cel_below hb s4
   replace s5 := cel_below hb s5
   replace s6 := cel_below hb s6
   replace s7 := cel_below hb s7
   replace s8 := cel_below hb s8
   replace s9 := cel_below hb s9
   replace s10 := cel_below hb s10
   replace s11 := cel_below hb s11
   replace s12 := cel_below hb s12
   replace s13 := cel_below hb s13
   replace s14 := cel_below hb s14
   replace s15 := cel_below hb s15
   replace s16 := cel_below hb s16
   replace mc0 := cel_below hb mc0
   replace mf0 := fro_below hb mz mf0
   replace mt := tag_below mt hb
   have mxn : wy0.heap.size ≠ wz200.heap.size := by omega
   replace mz := lt_below hb mz
   replace HF := Lib.hid (fz_keep HF.out hb)
   replace HN1 := Lib.hid (hasInts_keep HN1.out hb)
   replace LO := Nat.le_trans LO hb.size
   clear hb hwy
   refine hK.out _ _ ?_ (fun _ => ?_)
   · (try dsimp only); exact ⟨s0, s1, s2, s3, s4, s5, s6, s7, s8, s9, s10, s11, s12, s13, s14, s15, s16⟩
   clear hK K
   (try simp only [Act.put, List.setIfInBounds_toArray, List.set_cons_zero, List.set_cons_succ])
   refine wpAnyH_ready (rs := [23]) (by kernel_rfl) (by simp) ?_
   refine AllReadyH.cons (o := ?oi205) ?hi205 (fun K hK => ?rest205) AllReadyH.nil
   (case hi205 => (simp only [List.getElem?_toArray, List.getElem?_cons_succ, List.getElem?_cons_zero]; rfl))
   go_simp
   ((with_reducible refine (HA.out _ _ _ HN1.out (hasAccs_15 xc0 xc1 xc2 xc3 xc4 xc5 xc6 xc7 xc8 xc9 xc10 xc11 xc12 xc13 xc14)).mono ?_); rintro e wz206 ⟨am, cm, r3, rfl, hq, hb⟩)
   replace HW := Lib.hid (below_step HW.out hb)
   replace s0 := cel_below hb s0
   replace s1 := cel_below hb s1
   replace s2 := cel_below hb s2
   replace s3 := cel_below hb s3
   replace s4 := cel_below hb s4
   replace s5 := cel_below hb s5
   replace s6 := cel_below hb s6
   replace s7 := cel_below hb s7
   replace s8 := cel_below hb s8
   replace s9 := cel_below hb s9
   replace s10 := cel_below hb s10
   replace s11 := cel_below hb s11
   replace s12 := cel_below hb s12
   replace s13 := cel_below hb s13
   replace s14 := cel_below hb s14
   replace s15 := cel_below hb s15
   replace s16 := cel_below hb s16
   replace mc0 := cel_below hb mc0
   replace mf0 := fro_below hb mz mf0
   replace mz := lt_below hb mz
   replace mt := tag_below mt hb
   replace xc0 := cel_below hb xc0
   replace xf0 := fro_below hb xz xf0
   replace xc1 := cel_below hb xc1
   replace xf1 := fro_below hb xz xf1
   replace xc2 := cel_below hb xc2
   replace xf2 := fro_below hb xz xf2
   replace xc3 := cel_below hb xc3
   replace xf3 := fro_below hb xz xf3
   replace xc4 := cel_below hb xc4
   replace xf4 := fro_below hb xz xf4
   replace xc5 := cel_below hb xc5
   replace xf5 := fro_below hb xz xf5
   replace xc6 := cel_below hb xc6
   replace xf6 := fro_below hb xz xf6
   replace xc7 := cel_below hb xc7
   replace xf7 := fro_below hb xz xf7
   replace xc8 := cel_below hb xc8
   replace xf8 := fro_below hb xz xf8
   replace xc9 := cel_below hb xc9
   replace xf9 := fro_below hb xz xf9
   replace xc10 := cel_below hb xc10
   replace xf10 := fro_below hb xz xf10
   replace xc11 := cel_below hb xc11
   replace xf11 := fro_below hb xz xf11
   replace xc12 := cel_below hb xc12
   replace xf12 := fro_below hb xz xf12
   replace xc13 := cel_below hb xc13
   replace xf13 := fro_below hb xz xf13
   replace xc14 := cel_below hb xc14
   replace xf14 := fro_below hb xz xf14
   replace xz := lt_below hb xz
   replace xt := tag_below xt hb
   replace HF := Lib.hid (fz_keep HF.out hb)
   replace HN1 := Lib.hid (hasInts_keep HN1.out hb)
   have HM1 := Lib.hid hq
   clear hq HN1
   replace LO := Nat.le_trans LO hb.size
   clear hb
   refine hK.out _ _ ?_ (fun _ => ?_)
   · (try dsimp only); exact ⟨s0, s1, s2, s3, s4, s5, s6, s7, s8, s9, s10, s11, s12, s13, s14, s15, s16⟩
   clear hK K
   (try simp only [Act.put, List.setIfInBounds_toArray, List.set_cons_zero, List.set_cons_succ])
   have hHeld := And.intro s0 (And.intro s1 (And.intro s2 (And.intro s3 (And.intro s4 (And.intro s5 (And.intro s6 (And.intro s7 (And.intro s8 (And.intro s9 (And.intro s10 (And.intro s11 (And.intro s12 (And.intro s13 (And.intro s14 (And.intro s15 (s16))))))))))))))))
   refine wpAnyH_take (i := 24) (oi := ?oi207) (v := ?v207) ?hi207 (by kernel_rfl) (by kernel_rfl) (by kernel_rfl) ?hQ207 (Or.inl ⟨?hw207, ?hy207⟩) (by assumption) ?rest207; (case hi207 => (simp only [List.getElem?_toArray, List.getElem?_cons_succ, List.getElem?_cons_zero]; rfl)); (case hQ207 => exact fun _ _ _ h => h); (case hw207 => rfl); (case hy207 => ((intro w hSw); (try dsimp only at hSw); go_simp; (try with_reducible rfl)))
   (try simp only [Act.put, List.setIfInBounds_toArray, List.set_cons_zero, List.set_cons_succ])
   refine wpAnyH_take (i := 25) (oi := ?oi209) (v := ?v209) ?hi209 (by kernel_rfl) (by kernel_rfl) (by kernel_rfl) ?hQ209 (Or.inl ⟨?hw209, ?hy209⟩) (by assumption) ?rest209; (case hi209 => (simp only [List.getElem?_toArray, List.getElem?_cons_succ, List.getElem?_cons_zero]; rfl)); (case hQ209 => exact fun _ _ _ h => h); (case hw209 => rfl); (case hy209 => ((intro w hSw); (try dsimp only at hSw); go_simp; (try with_reducible rfl)))
   (try simp only [Act.put, List.setIfInBounds_toArray, List.set_cons_zero, List.set_cons_succ])
   refine wpAnyH_take (i := 26) (oi := ?oi211) (v := ?v211) ?hi211 (by kernel_rfl) (by kernel_rfl) (by kernel_rfl) ?hQ211 (Or.inl ⟨?hw211, ?hy211⟩) (by assumption) ?rest211; (case hi211 => (simp only [List.getElem?_toArray, List.getElem?_cons_succ, List.getElem?_cons_zero]; rfl)); (case hQ211 => exact fun _ _ _ h => h); (case hw211 => rfl); (case hy211 => ((intro w hSw); (try dsimp only at hSw); go_simp; (try with_reducible rfl)))
   (try simp only [Act.put, List.setIfInBounds_toArray, List.set_cons_zero, List.set_cons_succ])
   refine wpAnyH_take (i := 27) (oi := ?oi213) (v := ?v213) ?hi213 (by kernel_rfl) (by kernel_rfl) (by kernel_rfl) ?hQ213 (Or.inl ⟨?hw213, ?hy213⟩) (by assumption) ?rest213; (case hi213 => (simp only [List.getElem?_toArray, List.getElem?_cons_succ, List.getElem?_cons_zero]; rfl)); (case hQ213 => exact fun _ _ _ h => h); (case hw213 => rfl); (case hy213 => ((intro w hSw); (try dsimp only at hSw); go_simp; (try with_reducible rfl)))
   (try simp only [Act.put, List.setIfInBounds_toArray, List.set_cons_zero, List.set_cons_succ])
   clear hHeld
   refine wpAnyH_ready (rs := [29]) (by kernel_rfl) (by simp) ?_
   refine AllReadyH.cons (o := ?oi215) ?hi215 (fun K hK => ?rest215) AllReadyH.nil
   (case hi215 => (simp only [List.getElem?_toArray, List.getElem?_cons_succ, List.getElem?_cons_zero]; rfl))
   go_simp
   obtain ⟨wz216, hwy⟩ : ∃ W, W = (wz206.setCell ⟨wy0.heap.size, 0, none⟩ (.slice am 16 cm)) := ⟨_, rfl⟩
   rw [← hwy]
   have kp : ∀ {b' o' : Nat} {u : Value}, wz206.cell? ⟨b', o', none⟩ = some u → wy0.heap.size ≠ b' → wz216.cell? ⟨b', o', none⟩ = some u := fun h hn => by rw [hwy]; exact keepA_ (h) (Or.inl hn)
   replace s0 := kp s0 (by omega)
   replace s1 := kp s1 (by omega)
   replace s2 := kp s2 (by omega)
   replace s3 := kp s3 (by omega)
   replace s4 := kp s4 (by omega)
   replace s5 := kp s5 (by omega)
   replace s6 := kp s6 (by omega)
   replace s7 := kp s7 (by omega)
   replace s8 := kp s8 (by omega)
   replace s9 := kp s9 (by omega)
   replace s10 := kp s10 (by omega)
   replace s11 := kp s11 (by omega)
   replace s12 := kp s12 (by omega)
   replace s13 := kp s13 (by omega)
   replace s14 := kp s14 (by omega)
   replace s15 := kp s15 (by omega)
   replace s16 := kp s16 (by omega)
   clear kp
   replace xc0 : wz216.cell? ⟨wz200.heap.size, 0, none⟩ = some (.int .i64 2) := by rw [hwy]; exact keepA_ (xc0) (Or.inl (by omega))
   replace xf0 : wz216.frozen? ⟨wz200.heap.size, 0, none⟩ = false := by rw [hwy]; simpa using xf0
   replace xc1 : wz216.cell? ⟨wz200.heap.size, 1, none⟩ = some (.int .i64 p0) := by rw [hwy]; exact keepA_ (xc1) (Or.inl (by omega))
   replace xf1 : wz216.frozen? ⟨wz200.heap.size, 1, none⟩ = false := by rw [hwy]; simpa using xf1
   replace xc2 : wz216.cell? ⟨wz200.heap.size, 2, none⟩ = some (.int .i64 0) := by rw [hwy]; exact keepA_ (xc2) (Or.inl (by omega))
   replace xf2 : wz216.frozen? ⟨wz200.heap.size, 2, none⟩ = false := by rw [hwy]; simpa using xf2
   replace xc3 : wz216.cell? ⟨wz200.heap.size, 3, none⟩ = some (.int .i64 s) := by rw [hwy]; exact keepA_ (xc3) (Or.inl (by omega))
   replace xf3 : wz216.frozen? ⟨wz200.heap.size, 3, none⟩ = false := by rw [hwy]; simpa using xf3
   replace xc4 : wz216.cell? ⟨wz200.heap.size, 4, none⟩ = some (.string ⟨#[]⟩) := by rw [hwy]; exact keepA_ (xc4) (Or.inl (by omega))
   replace xf4 : wz216.frozen? ⟨wz200.heap.size, 4, none⟩ = false := by rw [hwy]; simpa using xf4
   replace xc5 : wz216.cell? ⟨wz200.heap.size, 5, none⟩ = some (.int .i64 2) := by rw [hwy]; exact keepA_ (xc5) (Or.inl (by omega))
   replace xf5 : wz216.frozen? ⟨wz200.heap.size, 5, none⟩ = false := by rw [hwy]; simpa using xf5
   replace xc6 : wz216.cell? ⟨wz200.heap.size, 6, none⟩ = some (.int .i64 p1) := by rw [hwy]; exact keepA_ (xc6) (Or.inl (by omega))
   replace xf6 : wz216.frozen? ⟨wz200.heap.size, 6, none⟩ = false := by rw [hwy]; simpa using xf6
   replace xc7 : wz216.cell? ⟨wz200.heap.size, 7, none⟩ = some (.int .i64 0) := by rw [hwy]; exact keepA_ (xc7) (Or.inl (by omega))
   replace xf7 : wz216.frozen? ⟨wz200.heap.size, 7, none⟩ = false := by rw [hwy]; simpa using xf7
   replace xc8 : wz216.cell? ⟨wz200.heap.size, 8, none⟩ = some (.int .i64 m.s) := by rw [hwy]; exact keepA_ (xc8) (Or.inl (by omega))
   replace xf8 : wz216.frozen? ⟨wz200.heap.size, 8, none⟩ = false := by rw [hwy]; simpa using xf8
   replace xc9 : wz216.cell? ⟨wz200.heap.size, 9, none⟩ = some (.string ⟨#[]⟩) := by rw [hwy]; exact keepA_ (xc9) (Or.inl (by omega))
   replace xf9 : wz216.frozen? ⟨wz200.heap.size, 9, none⟩ = false := by rw [hwy]; simpa using xf9
   replace xc10 : wz216.cell? ⟨wz200.heap.size, 10, none⟩ = some (.int .i64 2) := by rw [hwy]; exact keepA_ (xc10) (Or.inl (by omega))
   replace xf10 : wz216.frozen? ⟨wz200.heap.size, 10, none⟩ = false := by rw [hwy]; simpa using xf10
   replace xc11 : wz216.cell? ⟨wz200.heap.size, 11, none⟩ = some (.int .i64 p2) := by rw [hwy]; exact keepA_ (xc11) (Or.inl (by omega))
   replace xf11 : wz216.frozen? ⟨wz200.heap.size, 11, none⟩ = false := by rw [hwy]; simpa using xf11
   replace xc12 : wz216.cell? ⟨wz200.heap.size, 12, none⟩ = some (.int .i64 0) := by rw [hwy]; exact keepA_ (xc12) (Or.inl (by omega))
   replace xf12 : wz216.frozen? ⟨wz200.heap.size, 12, none⟩ = false := by rw [hwy]; simpa using xf12
   replace xc13 : wz216.cell? ⟨wz200.heap.size, 13, none⟩ = some (.int .i64 m.k) := by rw [hwy]; exact keepA_ (xc13) (Or.inl (by omega))
   replace xf13 : wz216.frozen? ⟨wz200.heap.size, 13, none⟩ = false := by rw [hwy]; simpa using xf13
   replace xc14 : wz216.cell? ⟨wz200.heap.size, 14, none⟩ = some (.string ⟨#[]⟩) := by rw [hwy]; exact keepA_ (xc14) (Or.inl (by omega))
   replace xf14 : wz216.frozen? ⟨wz200.heap.size, 14, none⟩ = false := by rw [hwy]; simpa using xf14
   replace HF : Hid (Fz wz216 (w.heap.size + 1 + 1)) := Lib.hid (by rw [hwy]; exact (fz_set HF.out _ _))
   replace HM1 := Lib.hid (hasInts_setS HM1.out mc0 (u := .slice am 16 cm))
   rw [← hwy] at HM1
   have md0 : wz216.cell? ⟨wy0.heap.size, 0, none⟩ = some (.slice am 16 cm) := by rw [hwy]; exact World.cell?_setCell_same _ _ _ mc0
   replace mt : Tag wz216 wy0.heap.size 55 := by rw [hwy]; exact (tag_set mt _ _)
   replace xt : Tag wz216 wz200.heap.size 32 := by rw [hwy]; exact (tag_set xt _ _)
   replace mf0 : wz216.frozen? ⟨wy0.heap.size, 0, none⟩ = false := by rw [hwy]; simpa using mf0
   replace HW := Lib.hid (Below.setCell (p := ⟨wy0.heap.size, 0, none⟩) HW.out (by have := HWS.out; dsimp only; omega) (.slice am 16 cm))
   rw [← hwy] at HW
   have hsz : wz216.heap.size = wz206.heap.size := by rw [hwy]; simp
   replace mz : wy0.heap.size < wz216.heap.size := by omega
   replace xz : wz200.heap.size < wz216.heap.size := by omega
   replace LO : _ ≤ wz216.heap.size := Nat.le_trans LO (Nat.le_of_eq hsz.symm)
   clear hsz hwy mc0
   have mc0 := md0
   clear md0
   refine hK.out _ _ ?_ (fun _ => ?_)
   · (try dsimp only); exact ⟨s0, s1, s2, s3, s4, s5, s6, s7, s8, s9, s10, s11, s12, s13, s14, s15, s16⟩
   clear hK K
   (try simp only [Act.put, List.setIfInBounds_toArray, List.set_cons_zero, List.set_cons_succ])
   have hHeld := And.intro s0 (And.intro s1 (And.intro s2 (And.intro s3 (And.intro s4 (And.intro s5 (And.intro s6 (And.intro s7 (And.intro s8 (And.intro s9 (And.intro s10 (And.intro s11 (And.intro s12 (And.intro s13 (And.intro s14 (And.intro s15 (s16))))))))))))))))
   refine wpAnyH_take (i := 30) (oi := ?oi217) (v := ?v217) ?hi217 (by kernel_rfl) (by kernel_rfl) (by kernel_rfl) ?hQ217 (Or.inl ⟨?hw217, ?hy217⟩) (by assumption) ?rest217; (case hi217 => (simp only [List.getElem?_toArray, List.getElem?_cons_succ, List.getElem?_cons_zero]; rfl)); (case hQ217 => exact fun _ _ _ h => h); (case hw217 => rfl); (case hy217 => ((intro w hSw); (try dsimp only at hSw); go_simp; (try with_reducible rfl)))
   (try simp only [Act.put, List.setIfInBounds_toArray, List.set_cons_zero, List.set_cons_succ])
   refine wpAnyH_take (i := 31) (oi := ?oi219) (v := ?v219) ?hi219 (by kernel_rfl) (by kernel_rfl) (by kernel_rfl) ?hQ219 (Or.inl ⟨?hw219, ?hy219⟩) (by assumption) ?rest219; (case hi219 => (simp only [List.getElem?_toArray, List.getElem?_cons_succ, List.getElem?_cons_zero]; rfl)); (case hQ219 => exact fun _ _ _ h => h); (case hw219 => rfl); (case hy219 => ((intro w hSw); (try dsimp only at hSw); go_simp; (try with_reducible rfl)))
   (try simp only [Act.put, List.setIfInBounds_toArray, List.set_cons_zero, List.set_cons_succ])
   clear hHeld
   refine wpAnyH_done (by kernel_rfl) ?_ _
   have ff := HF.out.2
   have kk := World.cell?_setCell_same wz216 ⟨w.heap.size + 1 + 1, 0, none⟩ (.slice am 16 cm) s16
   go_wp2
   refine bodyPost_ret (v := .agg #[.slice am 16 cm]) (by simp [results, Try.results36, go_sem, kk]) rfl ?_
   exact ⟨am, cm, rfl, hasInts_setS HM1.out s16, (HB0.out.trans (HW.out.mono (by have := HLO.out; omega))).setCell (by dsimp only; omega) _⟩

end Go.Proofs.Ytaclnaedinfhmaa
