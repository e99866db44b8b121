
/-
  Layer 17: the layouts of the statements.
-/
import Derived.Test.YtaclnaedinfhmaaRows
import Derived.Test.YtaclnaedinfhmaaBase
import Derived.Test.YtaclnaedinfhmaaAux
import Derived.Test.YtaclnaedinfhmaaLayA
import Derived.Test.YtaclnaedinfhmaaLayB
import Derived.Test.YtaclnaedinfhmaaLayE
import Derived.Test.YtaclnaedinfhmaaLayH
import Derived.Test.YtaclnaedinfhmaaMemA
import Derived.Test.YtaclnaedinfhmaaMemB
import Derived.Test.YtaclnaedinfhmaaMemE
import Derived.Test.YtaclnaedinfhmaaMemF
import Derived.Test.YtaclnaedinfhmaaMemG
import Derived.Test.YtaclnaedinfhmaaTag
import Derived.Test.YtaclnaedinfhmaaStepD
import Derived.Test.YtaclnaedinfhmaaTake
import Derived.Test.YtaclnaedinfhmaaMgrA
import Derived.Test.YtaclnaedinfhmaaStepH
import Derived.WalkKit
import Derived.Lib.Hide
import Derived.Deep.MidRow
import Derived.Deep.Cut
import Derived.Deep.RegionHeld3
import Derived.IntWalk
namespace Go.Proofs.Ytaclnaedinfhmaa
set_option linter.unusedVariables false
set_option linter.unusedSimpArgs false
set_option maxRecDepth 100000
set_option maxHeartbeats 4000000
open Go.ChangeShapes Go.WideShapes Go.ChangeAt Go.RowKit

def lay3 (kind : Int) : Ly := ⟨⟨3, 0, 0, 0, kind⟩, 0, 1, 2, 3, 4, 16, 16, 16⟩
theorem lay3_ok (kind : Int) : (lay3 kind).ok := by unfold Ly.ok lay3; simp only; omega
theorem wp_st_lay {ops : Array Oper} {rest : List Oper} {op : Oper} {a : Act} {w : World} {Q : Exit → Act → World → Prop} (hw : Region.wanted op (yielded ops a.tmps) = true) (x y : Operand) (ho : op.op = .store 41 x y)
    (c c' : Array Value) (hx : a.eval x = .pointer (some ⟨w.heap.size, 0, none⟩)) (hy : a.eval y = .agg c') (hl : c'.size = 13) (hc : c.size = c'.size) (h1 : c'.all (·.oneCell') = true)
    (h : wpList Try.prog ops Q rest (a.put op.dst undef) (w.alloc (.cells c' 41))) : wpList Try.prog ops Q (op :: rest) a (w.alloc (.cells c 41)) :=
  wp_st_any hw _ x y ho c c' hx hy (by rw [hl]; kernel_rfl) hc h1 h
theorem wp_sm_any {P : Program} {ops : Array Oper} {rest : List Oper} {op : Oper} {a : Act} {w : World} {Q : Exit → Act → World → Prop} (hw : Region.wanted op (yielded ops a.tmps) = true) (ty : TypeId) (x y : Operand) (ho : op.op = .store ty x y)
    (b o : Nat) (cells : Array Value) (hx : a.eval x = .pointer (some ⟨b, o, none⟩)) (hy : a.eval y = .agg cells)
    (ht : w.there b o cells.size) (hi : (P.info? ty).map (·.size) = some cells.size) (h1 : cells.all (·.oneCell') = true)
    (h : wpList P ops Q rest (a.put op.dst undef) (w.setCells b o cells.toList)) : wpList P ops Q (op :: rest) a w :=
  wpList_step fun K hK => by rw [if_pos hw]; exact wp_store_mid ty x y ho b o cells hx hy ht hi h1 (hK _ _ h)
theorem wp_sm_lay {ops : Array Oper} {rest : List Oper} {op : Oper} {a : Act} {w : World} {Q : Exit → Act → World → Prop} (hw : Region.wanted op (yielded ops a.tmps) = true) (x y : Operand) (ho : op.op = .store 41 x y)
    (b : Nat) (cells : Array Value) (hx : a.eval x = .pointer (some ⟨b, 0, none⟩)) (hy : a.eval y = .agg cells) (hl : cells.size = 13)
    (ht : w.there b 0 13) (h1 : cells.all (·.oneCell') = true)
    (h : wpList Try.prog ops Q rest (a.put op.dst undef) (w.setCells b 0 cells.toList)) : wpList Try.prog ops Q (op :: rest) a w :=
  wp_sm_any hw _ x y ho b 0 cells hx hy (by rw [hl]; exact ht) (by rw [hl]; kernel_rfl) h1 h
theorem there_of {w : World} {b n : Nat} {l : List Value} (h : CellsAt w b l) (hl : l.length = n) (hf : ∀ o, w.frozen? ⟨b, o, none⟩ = false) : w.there b 0 n := fun j hj => by
  rw [Nat.zero_add]
  exact ⟨by rw [h j _ (List.getElem?_eq_getElem (by omega))]; rfl, hf j⟩
theorem below_sets {B b : Nat} {w : World} (hB : B ≤ b) : ∀ (vs : List Value) (o : Nat) (w' : World), Below B w w' → Below B w (w'.setCells b o vs)
  | [], _, _, h => h
  | v :: r, o, w', h => below_sets hB r (o + 1) _ (h.setCell (by dsimp only; omega) v)

theorem where17_any (kind : Int) (hk : 0 ≤ kind ∧ kind ≤ 3) (w : World) : Calls Try.prog 32 #[.int .i64 kind] w fun e w' => e = .returned (lay3 kind).v ∧ Below w.heap.size w w' := by
  have HO : Hid (∀ w, Calls Try.prog 43 #[.agg #[.int .i64 3, .int .i64 0, .int .i64 0, .int .i64 0, .int .i64 kind]] w fun e w' => e = .returned (.tuple #[.agg #[.int .i64 3, .int .i64 0, .int .i64 0, .int .i64 0, .int .i64 kind, .int .i64 0, .int .i64 1, .int .i64 2, .int .i64 3, .int .i64 4, .int .i64 16, .int .i64 16, .int .i64 16], .int .i64 0]) ∧ Below w.heap.size w w') := Lib.hid (fun w => of_t ⟨3, 0, 0, 0, kind⟩ w (by unfold Cf.ok; simp only; omega))
  clear hk
  unfold lay3 Ly.v
  have HC := Lib.hid (cellsAt_new' w #[.int .i64 0, .int .i64 0, .int .i64 0, .int .i64 0, .int .i64 0, .int .i64 0, .int .i64 0, .int .i64 0, .int .i64 0, .int .i64 0, .int .i64 0, .int .i64 0, .int .i64 0] 41 w.heap.size rfl)
  have HF : Hid (∀ o, (w.alloc (.cells #[.int .i64 0, .int .i64 0, .int .i64 0, .int .i64 0, .int .i64 0, .int .i64 0, .int .i64 0, .int .i64 0, .int .i64 0, .int .i64 0, .int .i64 0, .int .i64 0, .int .i64 0] 41)).frozen? ⟨w.heap.size, o, none⟩ = false) := Lib.hid (fun o => World.frozen?_alloc_at _ _ _ _ rfl)
  go_enter Try.func32, Try.ntmps32
  go_wp2_with fail
  ((with_reducible refine (HO.out _).mono ?_); rintro e w1 ⟨rfl, hb⟩)
  have hsz := hb.size
  simp at hsz
  have c0 := cellsAt_keep HC.out hb
  have f0 : ∀ o, w1.frozen? ⟨w.heap.size, o, none⟩ = false := fun o => fro_below hb (by simp) (HF.out o)
  have HB := Lib.hid (below_alloc1 hb)
  have hcn : ∀ W : World, CellsAt (W.alloc (.cells #[.int .i64 3, .int .i64 0, .int .i64 0, .int .i64 0, .int .i64 kind, .int .i64 0, .int .i64 1, .int .i64 2, .int .i64 3, .int .i64 4, .int .i64 16, .int .i64 16, .int .i64 16] 41)) W.heap.size [.int .i64 3, .int .i64 0, .int .i64 0, .int .i64 0, .int .i64 kind, .int .i64 0, .int .i64 1, .int .i64 2, .int .i64 3, .int .i64 4, .int .i64 16, .int .i64 16, .int .i64 16] := fun W => cellsAt_new W _ _
  have HT : ∀ o : Obj, (w1.alloc o).there w.heap.size 0 13 := fun o => there_of (cellsAt_alloc c0 o) rfl (fun i => frozen_alloc _ (by omega) (f0 i))
  clear hb
  go_wp2_with (first
    | ((with_reducible refine wp_st_lay ?hwa ?xa ?ya ?hoa _ #[.int .i64 3, .int .i64 0, .int .i64 0, .int .i64 0, .int .i64 kind, .int .i64 0, .int .i64 1, .int .i64 2, .int .i64 3, .int .i64 4, .int .i64 16, .int .i64 16, .int .i64 16] ?hxa ?hya ?hla ?hca ?h1a ?hha); (case hoa => exact rfl); (case hxa => exact rfl); (case hya => exact rfl); (case hwa => exact rfl); (case hla => exact rfl); (case hca => exact rfl); (case h1a => exact all_oneCell_toArray (by simp [Value.oneCell'])))
    | ((with_reducible refine wp_ld_lay ?hwb ?xb ?hob (w1.heap.size) 0 ?hxb [.int .i64 3, .int .i64 0, .int .i64 0, .int .i64 0, .int .i64 kind, .int .i64 0, .int .i64 1, .int .i64 2, .int .i64 3, .int .i64 4, .int .i64 16, .int .i64 16, .int .i64 16] rfl (rangeAt_of (hcn _)) ?hhb); (case hob => exact rfl); (case hxb => exact rfl); (case hwb => exact rfl))
    | ((with_reducible refine wp_sm_lay ?hwc ?xc ?yc ?hoc w.heap.size #[.int .i64 3, .int .i64 0, .int .i64 0, .int .i64 0, .int .i64 kind, .int .i64 0, .int .i64 1, .int .i64 2, .int .i64 3, .int .i64 4, .int .i64 16, .int .i64 16, .int .i64 16] ?hxc ?hyc ?hlc (HT _) ?h1c ?hhc); (case hoc => exact rfl); (case hxc => exact rfl); (case hyc => exact rfl); (case hwc => exact rfl); (case hlc => exact rfl); (case h1c => exact all_oneCell_toArray (by simp [Value.oneCell']))))
  obtain ⟨W, hW⟩ : ∃ W, W = (w1.alloc (.cells #[.int .i64 3, .int .i64 0, .int .i64 0, .int .i64 0, .int .i64 kind, .int .i64 0, .int .i64 1, .int .i64 2, .int .i64 3, .int .i64 4, .int .i64 16, .int .i64 16, .int .i64 16] 41)).setCells w.heap.size 0 [.int .i64 3, .int .i64 0, .int .i64 0, .int .i64 0, .int .i64 kind, .int .i64 0, .int .i64 1, .int .i64 2, .int .i64 3, .int .i64 4, .int .i64 16, .int .i64 16, .int .i64 16] := ⟨_, rfl⟩
  have hr : W.rangeAt w.heap.size 0 [.int .i64 3, .int .i64 0, .int .i64 0, .int .i64 0, .int .i64 kind, .int .i64 0, .int .i64 1, .int .i64 2, .int .i64 3, .int .i64 4, .int .i64 16, .int .i64 16, .int .i64 16] := by rw [hW]; exact World.rangeAt_setCells_same _ _ _ _ (HT _)
  have k0 : W.cell? ⟨w.heap.size, 0, none⟩ = some (.int .i64 3) := hr 0 _ rfl
  have k1 : W.cell? ⟨w.heap.size, 1, none⟩ = some (.int .i64 0) := hr 1 _ rfl
  have k2 : W.cell? ⟨w.heap.size, 2, none⟩ = some (.int .i64 0) := hr 2 _ rfl
  have k3 : W.cell? ⟨w.heap.size, 3, none⟩ = some (.int .i64 0) := hr 3 _ rfl
  have k4 : W.cell? ⟨w.heap.size, 4, none⟩ = some (.int .i64 kind) := hr 4 _ rfl
  have k5 : W.cell? ⟨w.heap.size, 5, none⟩ = some (.int .i64 0) := hr 5 _ rfl
  have k6 : W.cell? ⟨w.heap.size, 6, none⟩ = some (.int .i64 1) := hr 6 _ rfl
  have k7 : W.cell? ⟨w.heap.size, 7, none⟩ = some (.int .i64 2) := hr 7 _ rfl
  have k8 : W.cell? ⟨w.heap.size, 8, none⟩ = some (.int .i64 3) := hr 8 _ rfl
  have k9 : W.cell? ⟨w.heap.size, 9, none⟩ = some (.int .i64 4) := hr 9 _ rfl
  have k10 : W.cell? ⟨w.heap.size, 10, none⟩ = some (.int .i64 16) := hr 10 _ rfl
  have k11 : W.cell? ⟨w.heap.size, 11, none⟩ = some (.int .i64 16) := hr 11 _ rfl
  have k12 : W.cell? ⟨w.heap.size, 12, none⟩ = some (.int .i64 16) := hr 12 _ rfl
  rw [← hW]
  simp [bodyPost, results, Try.results32, go_sem, k0, k1, k2, k3, k4, k5, k6, k7, k8, k9, k10, k11, k12]
  rw [hW]
  exact below_sets (Nat.le_refl _) _ _ _ (HB.out.alloc (by omega) _)

/-- The cells of the block b may be written. -/
def Fz (w : World) (b : Nat) : Prop := b < w.heap.size ∧ ∀ o, w.frozen? ⟨b, o, none⟩ = false
theorem fz_keep {w w' : World} {b : Nat} (h : Fz w b) (hb : Below w.heap.size w w') : Fz w' b := ⟨lt_below hb h.1, fun o => fro_below hb h.1 (h.2 o)⟩
theorem fz_set {w : World} {b : Nat} (h : Fz w b) (p : Addr) (u : Value) : Fz (w.setCell p u) b := ⟨by simpa using h.1, fun o => (World.frozen?_setCell _ _ _ _).trans (h.2 o)⟩
def laidZ (n : Nat) (s : Int) (m : Ct) : List Int := (((List.replicate 16 (0 : Int)).set (4 + 4 * n) s).set (5 + 4 * n) m.s).set (7 + 4 * n) m.k
def laidL (n : Nat) (s : Int) (m : Ct) : List AccD := [⟨2, ((4 + 4 * n : Nat) : Int), 0, s, ByteArray.empty⟩, ⟨2, ((5 + 4 * n : Nat) : Int), 0, m.s, ByteArray.empty⟩, ⟨2, ((7 + 4 * n : Nat) : Int), 0, m.k, ByteArray.empty⟩]
theorem laid_err (n : Nat) (hn : n < 3) (s : Int) (m : Ct) : errOf 16 (laidL n s m) = 0 := by
  have h1 := chk_set 16 ((4 + 4 * n : Nat) : Int) s (by omega)
  have h2 := chk_set 16 ((5 + 4 * n : Nat) : Int) m.s (by omega)
  have h3 := chk_set 16 ((7 + 4 * n : Nat) : Int) m.k (by omega)
  show (if AccD.chk (setAcc _ _) 16 = 0 then (if AccD.chk (setAcc _ _) 16 = 0 then (if AccD.chk (setAcc _ _) 16 = 0 then (0 : Int) else _) else _) else _) = 0
  rw [if_pos h1, if_pos h2, if_pos h3]
theorem laid_st (n : Nat) (s : Int) (m : Ct) : stZ (List.replicate 16 (0 : Int)) (laidL n s m) = laidZ n s m := rfl
theorem hasAccs_15 {w : World} {b : Nat} {a0 a1 a2 : AccD} (h0 : w.cell? ⟨b, 0, none⟩ = some (.int .i64 a0.k)) (h1 : w.cell? ⟨b, 1, none⟩ = some (.int .i64 a0.c)) (h2 : w.cell? ⟨b, 2, none⟩ = some (.int .i64 a0.o)) (h3 : w.cell? ⟨b, 3, none⟩ = some (.int .i64 a0.n)) (h4 : w.cell? ⟨b, 4, none⟩ = some (.string a0.b)) (h5 : w.cell? ⟨b, 5, none⟩ = some (.int .i64 a1.k)) (h6 : w.cell? ⟨b, 6, none⟩ = some (.int .i64 a1.c)) (h7 : w.cell? ⟨b, 7, none⟩ = some (.int .i64 a1.o)) (h8 : w.cell? ⟨b, 8, none⟩ = some (.int .i64 a1.n)) (h9 : w.cell? ⟨b, 9, none⟩ = some (.string a1.b)) (h10 : w.cell? ⟨b, 10, none⟩ = some (.int .i64 a2.k)) (h11 : w.cell? ⟨b, 11, none⟩ = some (.int .i64 a2.c)) (h12 : w.cell? ⟨b, 12, none⟩ = some (.int .i64 a2.o)) (h13 : w.cell? ⟨b, 13, none⟩ = some (.int .i64 a2.n)) (h14 : w.cell? ⟨b, 14, none⟩ = some (.string a2.b)) : HasAccs w (.slice (some ⟨b, 0, none⟩) 3 3) [a0, a1, a2] := by
  refine ⟨_, 3, rfl, by simp, Or.inr ⟨b, 0, rfl, fun j hj => ?_⟩⟩
  match j, hj with
  | 0, _ => exact ⟨h0, h1, h2, h3, h4⟩
  | 1, _ => exact ⟨h5, h6, h7, h8, h9⟩
  | 2, _ => exact ⟨h10, h11, h12, h13, h14⟩

theorem laid17_any (kind s : Int) (n : Nat) (hn : n < 3) (m : Ct) (w : World) : Calls Try.prog 36 #[.agg #[.int .i64 3, .int .i64 0, .int .i64 0, .int .i64 0, .int .i64 kind, .int .i64 0, .int .i64 1, .int .i64 2, .int .i64 3, .int .i64 4, .int .i64 16, .int .i64 16, .int .i64 16], .int .i64 (n : Nat), .int .i64 s, m.v] w fun e w' => ∃ a c, e = .returned (.agg #[.slice a 16 c]) ∧ HasInts w' (.slice a 16 c) (laidZ n s m) ∧ Below w.heap.size w w' := by
  obtain ⟨p0, hp0⟩ : ∃ x : Int, x = ((4 + 4 * n : Nat) : Int) := ⟨_, rfl⟩
  obtain ⟨p1, hp1⟩ : ∃ x : Int, x = ((5 + 4 * n : Nat) : Int) := ⟨_, rfl⟩
  obtain ⟨p2, hp2⟩ : ∃ x : Int, x = ((7 + 4 * n : Nat) : Int) := ⟨_, rfl⟩
  have HS : Hid (∀ w, Calls Try.prog 38 #[.agg #[.int .i64 3, .int .i64 0, .int .i64 0, .int .i64 0, .int .i64 kind, .int .i64 0, .int .i64 1, .int .i64 2, .int .i64 3, .int .i64 4, .int .i64 16, .int .i64 16, .int .i64 16], .int .i64 (n : Nat)] w fun e w' => e = .returned (.int .i64 p0) ∧ Below w.heap.size w w') := Lib.hid (fun w => by
    rw [hp0]
    have := status_any (lay3 kind) (n : Nat) w (lay3_ok kind)
    rwa [show atStatus (lay3 kind) (n : Nat) = ((4 + 4 * n : Nat) : Int) by unfold atStatus cellN lay3; simp only; rw [if_neg (by omega)]; omega] at this)
  have HT : Hid (∀ w, Calls Try.prog 64 #[.agg #[.int .i64 3, .int .i64 0, .int .i64 0, .int .i64 0, .int .i64 kind, .int .i64 0, .int .i64 1, .int .i64 2, .int .i64 3, .int .i64 4, .int .i64 16, .int .i64 16, .int .i64 16], .int .i64 (n : Nat)] w fun e w' => e = .returned (.int .i64 p1) ∧ Below w.heap.size w w') := Lib.hid (fun w => by
    rw [hp1]
    have := stamp_any (lay3 kind) (n : Nat) w (lay3_ok kind)
    rwa [show atStamp (lay3 kind) (n : Nat) = ((5 + 4 * n : Nat) : Int) by unfold atStamp cellN lay3; simp only; rw [if_neg (by omega)]; omega] at this)
  have HK : Hid (∀ w, Calls Try.prog 65 #[.agg #[.int .i64 3, .int .i64 0, .int .i64 0, .int .i64 0, .int .i64 kind, .int .i64 0, .int .i64 1, .int .i64 2, .int .i64 3, .int .i64 4, .int .i64 16, .int .i64 16, .int .i64 16], .int .i64 (n : Nat)] w fun e w' => e = .returned (.int .i64 p2) ∧ Below w.heap.size w w') := Lib.hid (fun w => by
    rw [hp2]
    have := karma_any (lay3 kind) (n : Nat) w (lay3_ok kind)
    rwa [show atKarma (lay3 kind) (n : Nat) = ((7 + 4 * n : Nat) : Int) by unfold atKarma cellN lay3; simp only; rw [if_neg (by omega)]; omega] at this)
  have HN : Hid (∀ w, Calls Try.prog 51 #[.int .i64 16] w fun e w' => ∃ g, e = .returned (.agg #[.slice (some ⟨g, 0, none⟩) 16 16]) ∧ HasInts w' (.slice (some ⟨g, 0, none⟩) 16 16) (List.replicate 16 0) ∧ w.heap.size ≤ g ∧ Below w.heap.size w w') := Lib.hid (fun w => rnew_any 16 w (by decide))
  have HA : Hid (∀ w v x, HasInts w v (List.replicate 16 0) → HasAccs w x [⟨2, p0, 0, s, ⟨#[]⟩⟩, ⟨2, p1, 0, m.s, ⟨#[]⟩⟩, ⟨2, p2, 0, m.k, ⟨#[]⟩⟩] → Calls Try.prog 27 #[.agg #[v], x] w fun e w' => ∃ a c r, e = .returned (.tuple #[.agg #[.slice a 16 c], r, .int .i64 0]) ∧ HasInts w' (.slice a 16 c) (laidZ n s m) ∧ Below w.heap.size w w') := Lib.hid (fun w v x hv hx => by
    rw [show ([⟨2, p0, 0, s, ⟨#[]⟩⟩, ⟨2, p1, 0, m.s, ⟨#[]⟩⟩, ⟨2, p2, 0, m.k, ⟨#[]⟩⟩] : List AccD) = laidL n s m by rw [hp0, hp1, hp2]; rfl] at hx
    refine (all_any v x (List.replicate 16 0) (laidL n s m) w hv hx (by decide) (by simp [laidL])).mono ?_
    rintro e w' ⟨u, r, rfl, hu, hr, hb⟩
    have he : errOf (List.replicate 16 (0 : Int)).length (laidL n s m) = 0 := laid_err n hn s m
    rw [show allZ (List.replicate 16 0) (laidL n s m) = laidZ n s m by unfold allZ; rw [if_pos he, laid_st]] at hu
    rw [he]
    have hu2 := hu
    obtain ⟨a, c, rfl, _⟩ := hu2
    have hl : (laidZ n s m).length = 16 := by simp [laidZ]
    rw [hl] at hu ⊢
    exact ⟨a, c, r, rfl, hu, hb⟩)
  clear hn hp0 hp1 hp2
  unfold Ct.v
  go_enter Try.func36, Try.ntmps36
  go_upto_region 1 with fail
  obtain ⟨w0, hw0⟩ : ∃ W, W = ((w.alloc (.cells #[.int .i64 3, .int .i64 0, .int .i64 0, .int .i64 0, .int .i64 kind, .int .i64 0, .int .i64 1, .int .i64 2, .int .i64 3, .int .i64 4, .int .i64 16, .int .i64 16, .int .i64 16] 41)).alloc (.cells #[.int .i64 m.s, .int .i64 m.k, .int .i64 m.a] 23)).alloc (.cells #[.slice none 0 0] 55) := ⟨_, rfl⟩
  rw [← hw0]
  have hb : Below w.heap.size w w0 := by rw [hw0]; exact below_alloc2 (below_alloc1 (Below.refl _ _))
  have hs0 : w0.heap.size = w.heap.size + 1 + 1 + 1 := by rw [hw0]; simp
  have lq0 : w0.cell? ⟨w.heap.size, 0, none⟩ = some (.int .i64 3) := by rw [hw0]; exact cell_alloc _ (cell_alloc _ (by rw [World.cell?_alloc_at _ _ _ _ rfl]; rfl))
  have lq1 : w0.cell? ⟨w.heap.size, 1, none⟩ = some (.int .i64 0) := by rw [hw0]; exact cell_alloc _ (cell_alloc _ (by rw [World.cell?_alloc_at _ _ _ _ rfl]; rfl))
  have lq2 : w0.cell? ⟨w.heap.size, 2, none⟩ = some (.int .i64 0) := by rw [hw0]; exact cell_alloc _ (cell_alloc _ (by rw [World.cell?_alloc_at _ _ _ _ rfl]; rfl))
  have lq3 : w0.cell? ⟨w.heap.size, 3, none⟩ = some (.int .i64 0) := by rw [hw0]; exact cell_alloc _ (cell_alloc _ (by rw [World.cell?_alloc_at _ _ _ _ rfl]; rfl))
  have lq4 : w0.cell? ⟨w.heap.size, 4, none⟩ = some (.int .i64 kind) := by rw [hw0]; exact cell_alloc _ (cell_alloc _ (by rw [World.cell?_alloc_at _ _ _ _ rfl]; rfl))
  have lq5 : w0.cell? ⟨w.heap.size, 5, none⟩ = some (.int .i64 0) := by rw [hw0]; exact cell_alloc _ (cell_alloc _ (by rw [World.cell?_alloc_at _ _ _ _ rfl]; rfl))
  have lq6 : w0.cell? ⟨w.heap.size, 6, none⟩ = some (.int .i64 1) := by rw [hw0]; exact cell_alloc _ (cell_alloc _ (by rw [World.cell?_alloc_at _ _ _ _ rfl]; rfl))
  have lq7 : w0.cell? ⟨w.heap.size, 7, none⟩ = some (.int .i64 2) := by rw [hw0]; exact cell_alloc _ (cell_alloc _ (by rw [World.cell?_alloc_at _ _ _ _ rfl]; rfl))
  have lq8 : w0.cell? ⟨w.heap.size, 8, none⟩ = some (.int .i64 3) := by rw [hw0]; exact cell_alloc _ (cell_alloc _ (by rw [World.cell?_alloc_at _ _ _ _ rfl]; rfl))
  have lq9 : w0.cell? ⟨w.heap.size, 9, none⟩ = some (.int .i64 4) := by rw [hw0]; exact cell_alloc _ (cell_alloc _ (by rw [World.cell?_alloc_at _ _ _ _ rfl]; rfl))
  have lq10 : w0.cell? ⟨w.heap.size, 10, none⟩ = some (.int .i64 16) := by rw [hw0]; exact cell_alloc _ (cell_alloc _ (by rw [World.cell?_alloc_at _ _ _ _ rfl]; rfl))
  have lq11 : w0.cell? ⟨w.heap.size, 11, none⟩ = some (.int .i64 16) := by rw [hw0]; exact cell_alloc _ (cell_alloc _ (by rw [World.cell?_alloc_at _ _ _ _ rfl]; rfl))
  have lq12 : w0.cell? ⟨w.heap.size, 12, none⟩ = some (.int .i64 16) := by rw [hw0]; exact cell_alloc _ (cell_alloc _ (by rw [World.cell?_alloc_at _ _ _ _ rfl]; rfl))
  have mq0 : w0.cell? ⟨w.heap.size + 1, 0, none⟩ = some (.int .i64 m.s) := by rw [hw0]; exact cell_alloc _ (by rw [World.cell?_alloc_at _ _ _ _ (by simp)]; rfl)
  have mq1 : w0.cell? ⟨w.heap.size + 1, 1, none⟩ = some (.int .i64 m.k) := by rw [hw0]; exact cell_alloc _ (by rw [World.cell?_alloc_at _ _ _ _ (by simp)]; rfl)
  have mq2 : w0.cell? ⟨w.heap.size + 1, 2, none⟩ = some (.int .i64 m.a) := by rw [hw0]; exact cell_alloc _ (by rw [World.cell?_alloc_at _ _ _ _ (by simp)]; rfl)
  have rq0 : w0.cell? ⟨w.heap.size + 1 + 1, 0, none⟩ = some (.slice none 0 0) := by rw [hw0]; rw [World.cell?_alloc_at _ _ _ _ (by simp)]; rfl
  have HF := Lib.hid (show Fz w0 (w.heap.size + 1 + 1) from ⟨by omega, fun o => by rw [hw0]; exact World.frozen?_alloc_at _ _ _ _ (by simp)⟩)
  have HB0 := Lib.hid hb
  have hlo : w.heap.size + 1 + 1 < w0.heap.size := by omega
  have HLO := Lib.hid hlo
  clear hw0 hs0 hb
  have HW := Lib.hid (Below.refl w0.heap.size w0)
  have HWS := Lib.hid (Nat.le_refl w0.heap.size)
  refine wp_region_held_drew (S := fun W => W.cell? ⟨w.heap.size, 0, none⟩ = some (.int .i64 3) ∧ W.cell? ⟨w.heap.size, 1, none⟩ = some (.int .i64 0) ∧ W.cell? ⟨w.heap.size, 2, none⟩ = some (.int .i64 0) ∧ W.cell? ⟨w.heap.size, 3, none⟩ = some (.int .i64 0) ∧ W.cell? ⟨w.heap.size, 4, none⟩ = some (.int .i64 kind) ∧ W.cell? ⟨w.heap.size, 5, none⟩ = some (.int .i64 0) ∧ W.cell? ⟨w.heap.size, 6, none⟩ = some (.int .i64 1) ∧ W.cell? ⟨w.heap.size, 7, none⟩ = some (.int .i64 2) ∧ W.cell? ⟨w.heap.size, 8, none⟩ = some (.int .i64 3) ∧ W.cell? ⟨w.heap.size, 9, none⟩ = some (.int .i64 4) ∧ W.cell? ⟨w.heap.size, 10, none⟩ = some (.int .i64 16) ∧ W.cell? ⟨w.heap.size, 11, none⟩ = some (.int .i64 16) ∧ W.cell? ⟨w.heap.size, 12, none⟩ = some (.int .i64 16) ∧ W.cell? ⟨w.heap.size + 1, 0, none⟩ = some (.int .i64 m.s) ∧ W.cell? ⟨w.heap.size + 1, 1, none⟩ = some (.int .i64 m.k) ∧ W.cell? ⟨w.heap.size + 1, 2, none⟩ = some (.int .i64 m.a) ∧ W.cell? ⟨w.heap.size + 1 + 1, 0, none⟩ = some (.slice none 0 0)) (by kernel_rfl) ?_ (fun hHeld => ?_)
  · (try dsimp only); exact ⟨by first | assumption | go_simp, by first | assumption | go_simp, by first | assumption | go_simp, by first | assumption | go_simp, by first | assumption | go_simp, by first | assumption | go_simp, by first | assumption | go_simp, by first | assumption | go_simp, by first | assumption | go_simp, by first | assumption | go_simp, by first | assumption | go_simp, by first | assumption | go_simp, by first | assumption | go_simp, by first | assumption | go_simp, by first | assumption | go_simp, by first | assumption | go_simp, by first | assumption | go_simp⟩
  replace HW := Lib.hid (show Below _ _ (World.drew w0) from below_drews HW.out 1)
  obtain ⟨wy0, hwy⟩ : ∃ W, W = World.drew w0 := ⟨_, rfl⟩
  rw [← hwy] at HW ⊢
  have hHeld2 := hHeld
  rw [← hwy] at hHeld2
  clear hHeld
  have LO : w0.heap.size ≤ wy0.heap.size := by rw [hwy]; exact Nat.le_refl _
  have hb : Below w0.heap.size w0 wy0 := by rw [hwy]; exact below_drews (Below.refl _ _) 1
  replace HF := Lib.hid (fz_keep HF.out hb)
  clear hb hwy
  obtain ⟨s0, s1, s2, s3, s4, s5, s6, s7, s8, s9, s10, s11, s12, s13, s14, s15, s16⟩ := hHeld2
  have hHeld := And.intro s0 (And.intro s1 (And.intro s2 (And.intro s3 (And.intro s4 (And.intro s5 (And.intro s6 (And.intro s7 (And.intro s8 (And.intro s9 (And.intro s10 (And.intro s11 (And.intro s12 (And.intro s13 (And.intro s14 (And.intro s15 (s16))))))))))))))))
  refine tkA 0 (by kernel_rfl) (by assumption) ⟨_, _, ?_, rfl, rfl, ?_, fun _ _ _ h => h, ?_⟩; rotate_left; · intro w hSw; (try dsimp only at hSw); go_simp; (try with_reducible rfl)
  (try simp only [Act.put, List.setIfInBounds_toArray, List.set_cons_zero, List.set_cons_succ])
  refine tkA 5 (by kernel_rfl) (by assumption) ⟨_, _, ?_, rfl, rfl, ?_, fun _ _ _ h => h, ?_⟩; rotate_left; · intro w hSw; (try dsimp only at hSw); go_simp; (try with_reducible rfl)
  (try simp only [Act.put, List.setIfInBounds_toArray, List.set_cons_zero, List.set_cons_succ])
  refine tkA 6 (by kernel_rfl) (by assumption) ⟨_, _, ?_, rfl, rfl, ?_, fun _ _ _ h => h, ?_⟩; rotate_left; · intro w hSw; (try dsimp only at hSw); go_simp; (try with_reducible rfl)
  (try simp only [Act.put, List.setIfInBounds_toArray, List.set_cons_zero, List.set_cons_succ])
  refine tkA 8 (by kernel_rfl) (by assumption) ⟨_, _, ?_, rfl, rfl, ?_, fun _ _ _ h => h, ?_⟩; rotate_left; · intro w hSw; (try dsimp only at hSw); go_simp; (try with_reducible rfl)
  (try simp only [Act.put, List.setIfInBounds_toArray, List.set_cons_zero, List.set_cons_succ])
  refine tkA 10 (by kernel_rfl) (by assumption) ⟨_, _, ?_, rfl, rfl, ?_, fun _ _ _ h => h, ?_⟩; rotate_left; · intro w hSw; (try dsimp only at hSw); go_simp; (try with_reducible rfl)
  (try simp only [Act.put, List.setIfInBounds_toArray, List.set_cons_zero, List.set_cons_succ])
  refine tkA 11 (by kernel_rfl) (by assumption) ⟨_, _, ?_, rfl, rfl, ?_, fun _ _ _ h => h, ?_⟩; rotate_left; · intro w hSw; (try dsimp only at hSw); go_simp; (try with_reducible rfl)
  (try simp only [Act.put, List.setIfInBounds_toArray, List.set_cons_zero, List.set_cons_succ])
  refine tkA 13 (by kernel_rfl) (by assumption) ⟨_, _, ?_, rfl, rfl, ?_, fun _ _ _ h => h, ?_⟩; rotate_left; · intro w hSw; (try dsimp only at hSw); go_simp; (try with_reducible rfl)
  (try simp only [Act.put, List.setIfInBounds_toArray, List.set_cons_zero, List.set_cons_succ])
  refine tkA 16 (by kernel_rfl) (by assumption) ⟨_, _, ?_, rfl, rfl, ?_, fun _ _ _ h => h, ?_⟩; rotate_left; · intro w hSw; (try dsimp only at hSw); go_simp; (try with_reducible rfl)
  (try simp only [Act.put, List.setIfInBounds_toArray, List.set_cons_zero, List.set_cons_succ])
  refine tkA 17 (by kernel_rfl) (by assumption) ⟨_, _, ?_, rfl, rfl, ?_, fun _ _ _ h => h, ?_⟩; rotate_left; · intro w hSw; (try dsimp only at hSw); go_simp; (try with_reducible rfl)
  (try simp only [Act.put, List.setIfInBounds_toArray, List.set_cons_zero, List.set_cons_succ])
  refine tkA 19 (by kernel_rfl) (by assumption) ⟨_, _, ?_, rfl, rfl, ?_, fun _ _ _ h => h, ?_⟩; rotate_left; · intro w hSw; (try dsimp only at hSw); go_simp; (try with_reducible rfl)
  (try simp only [Act.put, List.setIfInBounds_toArray, List.set_cons_zero, List.set_cons_succ])
  refine tkA 1 (by kernel_rfl) (by assumption) ⟨_, _, ?_, rfl, rfl, ?_, fun _ _ _ h => h, ?_⟩; rotate_left; · intro w hSw; (try dsimp only at hSw); go_simp; (try with_reducible rfl)
  (try simp only [Act.put, List.setIfInBounds_toArray, List.set_cons_zero, List.set_cons_succ])
  refine tkA 14 (by kernel_rfl) (by assumption) ⟨_, _, ?_, rfl, rfl, ?_, fun _ _ _ h => h, ?_⟩; rotate_left; · intro w hSw; (try dsimp only at hSw); go_simp; (try with_reducible rfl)
  (try simp only [Act.put, List.setIfInBounds_toArray, List.set_cons_zero, List.set_cons_succ])
  refine tkA 20 (by kernel_rfl) (by assumption) ⟨_, _, ?_, rfl, rfl, ?_, fun _ _ _ h => h, ?_⟩; rotate_left; · intro w hSw; (try dsimp only at hSw); go_simp; (try with_reducible rfl)
  (try simp only [Act.put, List.setIfInBounds_toArray, List.set_cons_zero, List.set_cons_succ])
  refine tkA 2 (by kernel_rfl) (by assumption) ⟨_, _, ?_, rfl, rfl, ?_, fun _ _ _ h => h, ?_⟩; rotate_left; · intro w hSw; (try dsimp only at hSw); go_simp; (try with_reducible rfl)
  (try simp only [Act.put, List.setIfInBounds_toArray, List.set_cons_zero, List.set_cons_succ])
  refine tkA 3 (by kernel_rfl) (by assumption) ⟨_, _, ?_, rfl, rfl, ?_, fun _ _ _ h => h, ?_⟩; rotate_left; · intro w hSw; (try dsimp only at hSw); go_simp; (try with_reducible rfl)
  (try simp only [Act.put, List.setIfInBounds_toArray, List.set_cons_zero, List.set_cons_succ])
  clear hHeld
  refine wpAnyH_ready (rs := [4, 28]) (by kernel_rfl) (by simp) ?_
  refine AllReadyH.cons (o := ?oi1) ?hi1 (fun K hK => ?rest1) (AllReadyH.cons (o := ?oi2) ?hi2 (fun K hK => ?rest2) AllReadyH.nil)
  (case hi1 => (simp only [List.getElem?_toArray, List.getElem?_cons_succ, List.getElem?_cons_zero]; rfl))
  (case hi2 => (simp only [List.getElem?_toArray, List.getElem?_cons_succ, List.getElem?_cons_zero]; rfl))
  case rest1 =>
   go_simp
   ((with_reducible refine (HN.out _).mono ?_); rintro e wz3 ⟨g1, rfl, hq, hg1, hb⟩)
   replace HW := Lib.hid (below_step HW.out hb)
   replace s0 := cel_below hb s0
   replace s1 := cel_below hb s1
   replace s2 := cel_below hb s2
   replace s3 := cel_below hb s3
   replace s4 := cel_below hb s4
   replace s5 := cel_below hb s5
   replace s6 := cel_below hb s6
   replace s7 := cel_below hb s7
   replace s8 := cel_below hb s8
   replace s9 := cel_below hb s9
   replace s10 := cel_below hb s10
   replace s11 := cel_below hb s11
   replace s12 := cel_below hb s12
   replace s13 := cel_below hb s13
   replace s14 := cel_below hb s14
   replace s15 := cel_below hb s15
   replace s16 := cel_below hb s16
   replace HF := Lib.hid (fz_keep HF.out hb)
   have HN1 := Lib.hid hq
   clear hq hg1
   replace LO := Nat.le_trans LO hb.size
   clear hb
   refine hK.out _ _ ?_ (fun _ => ?_)
   · (try dsimp only); exact ⟨s0, s1, s2, s3, s4, s5, s6, s7, s8, s9, s10, s11, s12, s13, s14, s15, s16⟩
   clear hK K
   (try simp only [Act.put, List.setIfInBounds_toArray, List.set_cons_zero, List.set_cons_succ])
   refine wpAnyH_ready (rs := [7, 28]) (by kernel_rfl) (by simp) ?_
   refine AllReadyH.cons (o := ?oi4) ?hi4 (fun K hK => ?rest4) (AllReadyH.cons (o := ?oi5) ?hi5 (fun K hK => ?rest5) AllReadyH.nil)
   (case hi4 => (simp only [List.getElem?_toArray, List.getElem?_cons_succ, List.getElem?_cons_zero]; rfl))
   (case hi5 => (simp only [List.getElem?_toArray, List.getElem?_cons_succ, List.getElem?_cons_zero]; rfl))
   case rest4 =>
    go_simp
    ((with_reducible refine (HS.out _).mono ?_); rintro e wz6 ⟨rfl, hb⟩)
    replace HW := Lib.hid (below_step HW.out hb)
    replace s0 := cel_below hb s0
    replace s1 := cel_below hb s1
    replace s2 := cel_below hb s2
    replace s3 := cel_below hb s3
    replace s4 := cel_below hb s4
    replace s5 := cel_below hb s5
    replace s6 := cel_below hb s6
    replace s7 := cel_below hb s7
    replace s8 := cel_below hb s8
    replace s9 := cel_below hb s9
    replace s10 := cel_below hb s10
    replace s11 := cel_below hb s11
    replace s12 := cel_below hb s12
    replace s13 := cel_below hb s13
    replace s14 := cel_below hb s14
    replace s15 := cel_below hb s15
    replace s16 := cel_below hb s16
    replace HF := Lib.hid (fz_keep HF.out hb)
    replace HN1 := Lib.hid (hasInts_keep HN1.out hb)
    replace LO := Nat.le_trans LO hb.size
    clear hb
    refine hK.out _ _ ?_ (fun _ => ?_)
    · (try dsimp only); exact ⟨s0, s1, s2, s3, s4, s5, s6, s7, s8, s9, s10, s11, s12, s13, s14, s15, s16⟩
    clear hK K
    (try simp only [Act.put, List.setIfInBounds_toArray, List.set_cons_zero, List.set_cons_succ])
    have hHeld := And.intro s0 (And.intro s1 (And.intro s2 (And.intro s3 (And.intro s4 (And.intro s5 (And.intro s6 (And.intro s7 (And.intro s8 (And.intro s9 (And.intro s10 (And.intro s11 (And.intro s12 (And.intro s13 (And.intro s14 (And.intro s15 (s16))))))))))))))))
    refine tkA 9 (by kernel_rfl) (by assumption) ⟨_, _, ?_, rfl, rfl, ?_, fun _ _ _ h => h, ?_⟩; rotate_left; · intro w hSw; (try dsimp only at hSw); go_simp; (try with_reducible rfl)
    (try simp only [Act.put, List.setIfInBounds_toArray, List.set_cons_zero, List.set_cons_succ])
    clear hHeld
    refine wpAnyH_ready (rs := [12, 28]) (by kernel_rfl) (by simp) ?_
    refine AllReadyH.cons (o := ?oi7) ?hi7 (fun K hK => ?rest7) (AllReadyH.cons (o := ?oi8) ?hi8 (fun K hK => ?rest8) AllReadyH.nil)
    (case hi7 => (simp only [List.getElem?_toArray, List.getElem?_cons_succ, List.getElem?_cons_zero]; rfl))
    (case hi8 => (simp only [List.getElem?_toArray, List.getElem?_cons_succ, List.getElem?_cons_zero]; rfl))
    case rest7 =>
     go_simp
     ((with_reducible refine (HT.out _).mono ?_); rintro e wz9 ⟨rfl, hb⟩)
     replace HW := Lib.hid (below_step HW.out hb)
     replace s0 := cel_below hb s0
     replace s1 := cel_below hb s1
     replace s2 := cel_below hb s2
     replace s3 := cel_below hb s3
     replace s4 := cel_below hb s4
     replace s5 := cel_below hb s5
     replace s6 := cel_below hb s6
     replace s7 := cel_below hb s7
     replace s8 := cel_below hb s8
     replace s9 := cel_below hb s9
     replace s10 := cel_below hb s10
     replace s11 := cel_below hb s11
     replace s12 := cel_below hb s12
     replace s13 := cel_below hb s13
     replace s14 := cel_below hb s14
     replace s15 := cel_below hb s15
     replace s16 := cel_below hb s16
     replace HF := Lib.hid (fz_keep HF.out hb)
     replace HN1 := Lib.hid (hasInts_keep HN1.out hb)
     replace LO := Nat.le_trans LO hb.size
     clear hb
     refine hK.out _ _ ?_ (fun _ => ?_)
     · (try dsimp only); exact ⟨s0, s1, s2, s3, s4, s5, s6, s7, s8, s9, s10, s11, s12, s13, s14, s15, s16⟩
     clear hK K
     (try simp only [Act.put, List.setIfInBounds_toArray, List.set_cons_zero, List.set_cons_succ])
     have hHeld := And.intro s0 (And.intro s1 (And.intro s2 (And.intro s3 (And.intro s4 (And.intro s5 (And.intro s6 (And.intro s7 (And.intro s8 (And.intro s9 (And.intro s10 (And.intro s11 (And.intro s12 (And.intro s13 (And.intro s14 (And.intro s15 (s16))))))))))))))))
     refine tkA 15 (by kernel_rfl) (by assumption) ⟨_, _, ?_, rfl, rfl, ?_, fun _ _ _ h => h, ?_⟩; rotate_left; · intro w hSw; (try dsimp only at hSw); go_simp; (try with_reducible rfl)
     (try simp only [Act.put, List.setIfInBounds_toArray, List.set_cons_zero, List.set_cons_succ])
     clear hHeld
     refine wpAnyH_ready (rs := [18, 28]) (by kernel_rfl) (by simp) ?_
     refine AllReadyH.cons (o := ?oi10) ?hi10 (fun K hK => ?rest10) (AllReadyH.cons (o := ?oi11) ?hi11 (fun K hK => ?rest11) AllReadyH.nil)
     (case hi10 => (simp only [List.getElem?_toArray, List.getElem?_cons_succ, List.getElem?_cons_zero]; rfl))
     (case hi11 => (simp only [List.getElem?_toArray, List.getElem?_cons_succ, List.getElem?_cons_zero]; rfl))
     case rest10 =>
      go_simp
      ((with_reducible refine (HK.out _).mono ?_); rintro e wz12 ⟨rfl, hb⟩)
      replace HW := Lib.hid (below_step HW.out hb)
      replace s0 := cel_below hb s0
      replace s1 := cel_below hb s1
      replace s2 := cel_below hb s2
      replace s3 := cel_below hb s3
      replace s4 := cel_below hb s4
      replace s5 := cel_below hb s5
      replace s6 := cel_below hb s6
      replace s7 := cel_below hb s7
      replace s8 := cel_below hb s8
      replace s9 := cel_below hb s9
      replace s10 := cel_below hb s10
      replace s11 := cel_below hb s11
      replace s12 := cel_below hb s12
      replace s13 := cel_below hb s13
      replace s14 := cel_below hb s14
      replace s15 := cel_below hb s15
      replace s16 := cel_below hb s16
      replace HF := Lib.hid (fz_keep HF.out hb)
      replace HN1 := Lib.hid (hasInts_keep HN1.out hb)
      replace LO := Nat.le_trans LO hb.size
      clear hb
      refine hK.out _ _ ?_ (fun _ => ?_)
      · (try dsimp only); exact ⟨s0, s1, s2, s3, s4, s5, s6, s7, s8, s9, s10, s11, s12, s13, s14, s15, s16⟩
      clear hK K
      (try simp only [Act.put, List.setIfInBounds_toArray, List.set_cons_zero, List.set_cons_succ])
      have hHeld := And.intro s0 (And.intro s1 (And.intro s2 (And.intro s3 (And.intro s4 (And.intro s5 (And.intro s6 (And.intro s7 (And.intro s8 (And.intro s9 (And.intro s10 (And.intro s11 (And.intro s12 (And.intro s13 (And.intro s14 (And.intro s15 (s16))))))))))))))))
      refine tkA 21 (by kernel_rfl) (by assumption) ⟨_, _, ?_, rfl, rfl, ?_, fun _ _ _ h => h, ?_⟩; rotate_left; · intro w hSw; (try dsimp only at hSw); go_simp; (try with_reducible rfl)
      (try simp only [Act.put, List.setIfInBounds_toArray, List.set_cons_zero, List.set_cons_succ])
      clear hHeld
      refine wpAnyH_ready (rs := [22, 28]) (by kernel_rfl) (by simp) ?_
      refine AllReadyH.cons (o := ?oi13) ?hi13 (fun K hK => ?rest13) (AllReadyH.cons (o := ?oi14) ?hi14 (fun K hK => ?rest14) AllReadyH.nil)
      (case hi13 => (simp only [List.getElem?_toArray, List.getElem?_cons_succ, List.getElem?_cons_zero]; rfl))
      (case hi14 => (simp only [List.getElem?_toArray, List.getElem?_cons_succ, List.getElem?_cons_zero]; rfl))
      case rest13 =>
       go_simp
       obtain ⟨wz15, hwy⟩ : ∃ W, W = wz12.alloc (.cells #[.int .i64 2, .int .i64 p0, .int .i64 0, .int .i64 s, .string ⟨#[]⟩, .int .i64 2, .int .i64 p1, .int .i64 0, .int .i64 m.s, .string ⟨#[]⟩, .int .i64 2, .int .i64 p2, .int .i64 0, .int .i64 m.k, .string ⟨#[]⟩] 32) := ⟨_, rfl⟩
       rw [← hwy]
       have hb : Below wz12.heap.size wz12 wz15 := by rw [hwy]; exact below_new1 _ _
       have xc0 : wz15.cell? ⟨wz12.heap.size, 0, none⟩ = some (.int .i64 2) := by rw [hwy, World.cell?_alloc_at _ _ _ _ rfl]; rfl
       have xf0 : wz15.frozen? ⟨wz12.heap.size, 0, none⟩ = false := by rw [hwy]; exact World.frozen?_alloc_at _ _ _ _ rfl
       have xc1 : wz15.cell? ⟨wz12.heap.size, 1, none⟩ = some (.int .i64 p0) := by rw [hwy, World.cell?_alloc_at _ _ _ _ rfl]; rfl
       have xf1 : wz15.frozen? ⟨wz12.heap.size, 1, none⟩ = false := by rw [hwy]; exact World.frozen?_alloc_at _ _ _ _ rfl
       have xc2 : wz15.cell? ⟨wz12.heap.size, 2, none⟩ = some (.int .i64 0) := by rw [hwy, World.cell?_alloc_at _ _ _ _ rfl]; rfl
       have xf2 : wz15.frozen? ⟨wz12.heap.size, 2, none⟩ = false := by rw [hwy]; exact World.frozen?_alloc_at _ _ _ _ rfl
       have xc3 : wz15.cell? ⟨wz12.heap.size, 3, none⟩ = some (.int .i64 s) := by rw [hwy, World.cell?_alloc_at _ _ _ _ rfl]; rfl
       have xf3 : wz15.frozen? ⟨wz12.heap.size, 3, none⟩ = false := by rw [hwy]; exact World.frozen?_alloc_at _ _ _ _ rfl
       have xc4 : wz15.cell? ⟨wz12.heap.size, 4, none⟩ = some (.string ⟨#[]⟩) := by rw [hwy, World.cell?_alloc_at _ _ _ _ rfl]; rfl
       have xf4 : wz15.frozen? ⟨wz12.heap.size, 4, none⟩ = false := by rw [hwy]; exact World.frozen?_alloc_at _ _ _ _ rfl
       have xc5 : wz15.cell? ⟨wz12.heap.size, 5, none⟩ = some (.int .i64 2) := by rw [hwy, World.cell?_alloc_at _ _ _ _ rfl]; rfl
       have xf5 : wz15.frozen? ⟨wz12.heap.size, 5, none⟩ = false := by rw [hwy]; exact World.frozen?_alloc_at _ _ _ _ rfl
       have xc6 : wz15.cell? ⟨wz12.heap.size, 6, none⟩ = some (.int .i64 p1) := by rw [hwy, World.cell?_alloc_at _ _ _ _ rfl]; rfl
       have xf6 : wz15.frozen? ⟨wz12.heap.size, 6, none⟩ = false := by rw [hwy]; exact World.frozen?_alloc_at _ _ _ _ rfl
       have xc7 : wz15.cell? ⟨wz12.heap.size, 7, none⟩ = some (.int .i64 0) := by rw [hwy, World.cell?_alloc_at _ _ _ _ rfl]; rfl
       have xf7 : wz15.frozen? ⟨wz12.heap.size, 7, none⟩ = false := by rw [hwy]; exact World.frozen?_alloc_at _ _ _ _ rfl
       have xc8 : wz15.cell? ⟨wz12.heap.size, 8, none⟩ = some (.int .i64 m.s) := by rw [hwy, World.cell?_alloc_at _ _ _ _ rfl]; rfl
       have xf8 : wz15.frozen? ⟨wz12.heap.size, 8, none⟩ = false := by rw [hwy]; exact World.frozen?_alloc_at _ _ _ _ rfl
       have xc9 : wz15.cell? ⟨wz12.heap.size, 9, none⟩ = some (.string ⟨#[]⟩) := by rw [hwy, World.cell?_alloc_at _ _ _ _ rfl]; rfl
       have xf9 : wz15.frozen? ⟨wz12.heap.size, 9, none⟩ = false := by rw [hwy]; exact World.frozen?_alloc_at _ _ _ _ rfl
       have xc10 : wz15.cell? ⟨wz12.heap.size, 10, none⟩ = some (.int .i64 2) := by rw [hwy, World.cell?_alloc_at _ _ _ _ rfl]; rfl
       have xf10 : wz15.frozen? ⟨wz12.heap.size, 10, none⟩ = false := by rw [hwy]; exact World.frozen?_alloc_at _ _ _ _ rfl
       have xc11 : wz15.cell? ⟨wz12.heap.size, 11, none⟩ = some (.int .i64 p2) := by rw [hwy, World.cell?_alloc_at _ _ _ _ rfl]; rfl
       have xf11 : wz15.frozen? ⟨wz12.heap.size, 11, none⟩ = false := by rw [hwy]; exact World.frozen?_alloc_at _ _ _ _ rfl
       have xc12 : wz15.cell? ⟨wz12.heap.size, 12, none⟩ = some (.int .i64 0) := by rw [hwy, World.cell?_alloc_at _ _ _ _ rfl]; rfl
       have xf12 : wz15.frozen? ⟨wz12.heap.size, 12, none⟩ = false := by rw [hwy]; exact World.frozen?_alloc_at _ _ _ _ rfl
       have xc13 : wz15.cell? ⟨wz12.heap.size, 13, none⟩ = some (.int .i64 m.k) := by rw [hwy, World.cell?_alloc_at _ _ _ _ rfl]; rfl
       have xf13 : wz15.frozen? ⟨wz12.heap.size, 13, none⟩ = false := by rw [hwy]; exact World.frozen?_alloc_at _ _ _ _ rfl
       have xc14 : wz15.cell? ⟨wz12.heap.size, 14, none⟩ = some (.string ⟨#[]⟩) := by rw [hwy, World.cell?_alloc_at _ _ _ _ rfl]; rfl
       have xf14 : wz15.frozen? ⟨wz12.heap.size, 14, none⟩ = false := by rw [hwy]; exact World.frozen?_alloc_at _ _ _ _ rfl
       have xt : Tag wz15 wz12.heap.size 32 := by rw [hwy]; exact tag_new _ _ _
       have xz : wz12.heap.size < wz15.heap.size := by rw [hwy]; simp
       have xl := LO
       replace HW := Lib.hid (below_step HW.out hb)
       replace s0 := cel_below hb s0
       replace s1 := cel_below hb s1
       replace s2 := cel_below hb s2
       replace s3 := cel_below hb s3
       replace s4 := cel_below hb s4
       replace s5 := cel_below hb s5
       replace s6 := cel_below hb s6
       replace s7 := cel_below hb s7
       replace s8 := cel_below hb s8
       replace s9 := cel_below hb s9
       replace s10 := cel_below hb s10
       replace s11 := cel_below hb s11
       replace s12 := cel_below hb s12
       replace s13 := cel_below hb s13
       replace s14 := cel_below hb s14
       replace s15 := cel_below hb s15
       replace s16 := cel_below hb s16
       replace HF := Lib.hid (fz_keep HF.out hb)
       replace HN1 := Lib.hid (hasInts_keep HN1.out hb)
       replace LO := Nat.le_trans LO hb.size
       clear hb hwy
       refine hK.out _ _ ?_ (fun _ => ?_)
       · (try dsimp only); exact ⟨s0, s1, s2, s3, s4, s5, s6, s7, s8, s9, s10, s11, s12, s13, s14, s15, s16⟩
       clear hK K
       (try simp only [Act.put, List.setIfInBounds_toArray, List.set_cons_zero, List.set_cons_succ])
       refine wpAnyH_ready (rs := [23, 28]) (by kernel_rfl) (by simp) ?_
       refine AllReadyH.cons (o := ?oi16) ?hi16 (fun K hK => ?rest16) (AllReadyH.cons (o := ?oi17) ?hi17 (fun K hK => ?rest17) AllReadyH.nil)
       (case hi16 => (simp only [List.getElem?_toArray, List.getElem?_cons_succ, List.getElem?_cons_zero]; rfl))
       (case hi17 => (simp only [List.getElem?_toArray, List.getElem?_cons_succ, List.getElem?_cons_zero]; rfl))
       case rest16 =>
        go_simp
        ((with_reducible refine (HA.out _ _ _ HN1.out (hasAccs_15 xc0 xc1 xc2 xc3 xc4 xc5 xc6 xc7 xc8 xc9 xc10 xc11 xc12 xc13 xc14)).mono ?_); rintro e wz18 ⟨am, cm, r3, rfl, hq, hb⟩)
        replace HW := Lib.hid (below_step HW.out hb)
        replace s0 := cel_below hb s0
        replace s1 := cel_below hb s1
        replace s2 := cel_below hb s2
        replace s3 := cel_below hb s3
        replace s4 := cel_below hb s4
        replace s5 := cel_below hb s5
        replace s6 := cel_below hb s6
        replace s7 := cel_below hb s7
        replace s8 := cel_below hb s8
        replace s9 := cel_below hb s9
        replace s10 := cel_below hb s10
        replace s11 := cel_below hb s11
        replace s12 := cel_below hb s12
        replace s13 := cel_below hb s13
        replace s14 := cel_below hb s14
        replace s15 := cel_below hb s15
        replace s16 := cel_below hb s16
        replace xc0 := cel_below hb xc0
        replace xf0 := fro_below hb xz xf0
        replace xc1 := cel_below hb xc1
        replace xf1 := fro_below hb xz xf1
        replace xc2 := cel_below hb xc2
        replace xf2 := fro_below hb xz xf2
        replace xc3 := cel_below hb xc3
        replace xf3 := fro_below hb xz xf3
        replace xc4 := cel_below hb xc4
        replace xf4 := fro_below hb xz xf4
        replace xc5 := cel_below hb xc5
        replace xf5 := fro_below hb xz xf5
        replace xc6 := cel_below hb xc6
        replace xf6 := fro_below hb xz xf6
        replace xc7 := cel_below hb xc7
        replace xf7 := fro_below hb xz xf7
        replace xc8 := cel_below hb xc8
        replace xf8 := fro_below hb xz xf8
        replace xc9 := cel_below hb xc9
        replace xf9 := fro_below hb xz xf9
        replace xc10 := cel_below hb xc10
        replace xf10 := fro_below hb xz xf10
        replace xc11 := cel_below hb xc11
        replace xf11 := fro_below hb xz xf11
        replace xc12 := cel_below hb xc12
        replace xf12 := fro_below hb xz xf12
        replace xc13 := cel_below hb xc13
        replace xf13 := fro_below hb xz xf13
        replace xc14 := cel_below hb xc14
        replace xf14 := fro_below hb xz xf14
        replace xz := lt_below hb xz
        replace xt := tag_below xt hb
        replace HF := Lib.hid (fz_keep HF.out hb)
        replace HN1 := Lib.hid (hasInts_keep HN1.out hb)
        have HM1 := Lib.hid hq
        clear hq HN1
        replace LO := Nat.le_trans LO hb.size
        clear hb
        refine hK.out _ _ ?_ (fun _ => ?_)
        · (try dsimp only); exact ⟨s0, s1, s2, s3, s4, s5, s6, s7, s8, s9, s10, s11, s12, s13, s14, s15, s16⟩
        clear hK K
        (try simp only [Act.put, List.setIfInBounds_toArray, List.set_cons_zero, List.set_cons_succ])
        have hHeld := And.intro s0 (And.intro s1 (And.intro s2 (And.intro s3 (And.intro s4 (And.intro s5 (And.intro s6 (And.intro s7 (And.intro s8 (And.intro s9 (And.intro s10 (And.intro s11 (And.intro s12 (And.intro s13 (And.intro s14 (And.intro s15 (s16))))))))))))))))
        refine tkA 24 (by kernel_rfl) (by assumption) ⟨_, _, ?_, rfl, rfl, ?_, fun _ _ _ h => h, ?_⟩; rotate_left; · intro w hSw; (try dsimp only at hSw); go_simp; (try with_reducible rfl)
        (try simp only [Act.put, List.setIfInBounds_toArray, List.set_cons_zero, List.set_cons_succ])
        refine tkA 25 (by kernel_rfl) (by assumption) ⟨_, _, ?_, rfl, rfl, ?_, fun _ _ _ h => h, ?_⟩; rotate_left; · intro w hSw; (try dsimp only at hSw); go_simp; (try with_reducible rfl)
        (try simp only [Act.put, List.setIfInBounds_toArray, List.set_cons_zero, List.set_cons_succ])
        refine tkA 26 (by kernel_rfl) (by assumption) ⟨_, _, ?_, rfl, rfl, ?_, fun _ _ _ h => h, ?_⟩; rotate_left; · intro w hSw; (try dsimp only at hSw); go_simp; (try with_reducible rfl)
        (try simp only [Act.put, List.setIfInBounds_toArray, List.set_cons_zero, List.set_cons_succ])
        refine tkA 27 (by kernel_rfl) (by assumption) ⟨_, _, ?_, rfl, rfl, ?_, fun _ _ _ h => h, ?_⟩; rotate_left; · intro w hSw; (try dsimp only at hSw); go_simp; (try with_reducible rfl)
        (try simp only [Act.put, List.setIfInBounds_toArray, List.set_cons_zero, List.set_cons_succ])
        clear hHeld
        refine wpAnyH_ready (rs := [28]) (by kernel_rfl) (by simp) ?_
        refine AllReadyH.cons (o := ?oi19) ?hi19 (fun K hK => ?rest19) AllReadyH.nil
        (case hi19 => (simp only [List.getElem?_toArray, List.getElem?_cons_succ, List.getElem?_cons_zero]; rfl))
        go_simp
        obtain ⟨wz20, hwy⟩ : ∃ W, W = wz18.alloc (.cells #[.slice none 0 0] 55) := ⟨_, rfl⟩
        rw [← hwy]
        have hb : Below wz18.heap.size wz18 wz20 := by rw [hwy]; exact below_new1 _ _
        have mc0 : wz20.cell? ⟨wz18.heap.size, 0, none⟩ = some (.slice none 0 0) := by rw [hwy, World.cell?_alloc_at _ _ _ _ rfl]; rfl
        have mf0 : wz20.frozen? ⟨wz18.heap.size, 0, none⟩ = false := by rw [hwy]; exact World.frozen?_alloc_at _ _ _ _ rfl
        have mt : Tag wz20 wz18.heap.size 55 := by rw [hwy]; exact tag_new _ _ _
        have mz : wz18.heap.size < wz20.heap.size := by rw [hwy]; simp
        have ml := LO
        replace HW := Lib.hid (below_step HW.out hb)
        replace s0 := cel_below hb s0
        replace s1 := cel_below hb s1
        replace s2 := cel_below hb s2
        replace s3 := cel_below hb s3
        replace s4 := cel_below hb s4
        replace s5 := cel_below hb s5
        replace s6 := cel_below hb s6
        replace s7 := cel_below hb s7
        replace s8 := cel_below hb s8
        replace s9 := cel_below hb s9
        replace s10 := cel_below hb s10
        replace s11 := cel_below hb s11
        replace s12 := cel_below hb s12
        replace s13 := cel_below hb s13
        replace s14 := cel_below hb s14
        replace s15 := cel_below hb s15
        replace s16 := cel_below hb s16
        replace xc0 := cel_below hb xc0
        replace xf0 := fro_below hb xz xf0
        replace xc1 := cel_below hb xc1
        replace xf1 := fro_below hb xz xf1
        replace xc2 := cel_below hb xc2
        replace xf2 := fro_below hb xz xf2
        replace xc3 := cel_below hb xc3
        replace xf3 := fro_below hb xz xf3
        replace xc4 := cel_below hb xc4
        replace xf4 := fro_below hb xz xf4
        replace xc5 := cel_below hb xc5
        replace xf5 := fro_below hb xz xf5
        replace xc6 := cel_below hb xc6
        replace xf6 := fro_below hb xz xf6
        replace xc7 := cel_below hb xc7
        replace xf7 := fro_below hb xz xf7
        replace xc8 := cel_below hb xc8
        replace xf8 := fro_below hb xz xf8
        replace xc9 := cel_below hb xc9
        replace xf9 := fro_below hb xz xf9
        replace xc10 := cel_below hb xc10
        replace xf10 := fro_below hb xz xf10
        replace xc11 := cel_below hb xc11
        replace xf11 := fro_below hb xz xf11
        replace xc12 := cel_below hb xc12
        replace xf12 := fro_below hb xz xf12
        replace xc13 := cel_below hb xc13
        replace xf13 := fro_below hb xz xf13
        replace xc14 := cel_below hb xc14
        replace xf14 := fro_below hb xz xf14
        replace xt := tag_below xt hb
        have xmn : wz12.heap.size ≠ wz18.heap.size := by omega
        replace xz := lt_below hb xz
        replace HF := Lib.hid (fz_keep HF.out hb)
        replace HM1 := Lib.hid (hasInts_keep HM1.out hb)
        replace LO := Nat.le_trans LO hb.size
        clear hb hwy
        refine hK.out _ _ ?_ (fun _ => ?_)
        · (try dsimp only); exact ⟨s0, s1, s2, s3, s4, s5, s6, s7, s8, s9, s10, s11, s12, s13, s14, s15, s16⟩
        clear hK K
        (try simp only [Act.put, List.setIfInBounds_toArray, List.set_cons_zero, List.set_cons_succ])
        refine wpAnyH_ready (rs := [29]) (by kernel_rfl) (by simp) ?_
        refine AllReadyH.cons (o := ?oi21) ?hi21 (fun K hK => ?rest21) AllReadyH.nil
        (case hi21 => (simp only [List.getElem?_toArray, List.getElem?_cons_succ, List.getElem?_cons_zero]; rfl))
        go_simp
        obtain ⟨wz22, hwy⟩ : ∃ W, W = (wz20.setCell ⟨wz18.heap.size, 0, none⟩ (.slice am 16 cm)) := ⟨_, rfl⟩
        rw [← hwy]
        have kp : ∀ {b' o' : Nat} {u : Value}, wz20.cell? ⟨b', o', none⟩ = some u → wz18.heap.size ≠ b' → wz22.cell? ⟨b', o', none⟩ = some u := fun h hn => by rw [hwy]; exact keepA_ (h) (Or.inl hn)
        replace s0 := kp s0 (by omega)
        replace s1 := kp s1 (by omega)
        replace s2 := kp s2 (by omega)
        replace s3 := kp s3 (by omega)
        replace s4 := kp s4 (by omega)
        replace s5 := kp s5 (by omega)
        replace s6 := kp s6 (by omega)
        replace s7 := kp s7 (by omega)
        replace s8 := kp s8 (by omega)
        replace s9 := kp s9 (by omega)
        replace s10 := kp s10 (by omega)
        replace s11 := kp s11 (by omega)
        replace s12 := kp s12 (by omega)
        replace s13 := kp s13 (by omega)
        replace s14 := kp s14 (by omega)
        replace s15 := kp s15 (by omega)
        replace s16 := kp s16 (by omega)
        clear kp
        replace xc0 : wz22.cell? ⟨wz12.heap.size, 0, none⟩ = some (.int .i64 2) := by rw [hwy]; exact keepA_ (xc0) (Or.inl (by omega))
        replace xf0 : wz22.frozen? ⟨wz12.heap.size, 0, none⟩ = false := by rw [hwy]; simpa using xf0
        replace xc1 : wz22.cell? ⟨wz12.heap.size, 1, none⟩ = some (.int .i64 p0) := by rw [hwy]; exact keepA_ (xc1) (Or.inl (by omega))
        replace xf1 : wz22.frozen? ⟨wz12.heap.size, 1, none⟩ = false := by rw [hwy]; simpa using xf1
        replace xc2 : wz22.cell? ⟨wz12.heap.size, 2, none⟩ = some (.int .i64 0) := by rw [hwy]; exact keepA_ (xc2) (Or.inl (by omega))
        replace xf2 : wz22.frozen? ⟨wz12.heap.size, 2, none⟩ = false := by rw [hwy]; simpa using xf2
        replace xc3 : wz22.cell? ⟨wz12.heap.size, 3, none⟩ = some (.int .i64 s) := by rw [hwy]; exact keepA_ (xc3) (Or.inl (by omega))
        replace xf3 : wz22.frozen? ⟨wz12.heap.size, 3, none⟩ = false := by rw [hwy]; simpa using xf3
        replace xc4 : wz22.cell? ⟨wz12.heap.size, 4, none⟩ = some (.string ⟨#[]⟩) := by rw [hwy]; exact keepA_ (xc4) (Or.inl (by omega))
        replace xf4 : wz22.frozen? ⟨wz12.heap.size, 4, none⟩ = false := by rw [hwy]; simpa using xf4
        replace xc5 : wz22.cell? ⟨wz12.heap.size, 5, none⟩ = some (.int .i64 2) := by rw [hwy]; exact keepA_ (xc5) (Or.inl (by omega))
        replace xf5 : wz22.frozen? ⟨wz12.heap.size, 5, none⟩ = false := by rw [hwy]; simpa using xf5
        replace xc6 : wz22.cell? ⟨wz12.heap.size, 6, none⟩ = some (.int .i64 p1) := by rw [hwy]; exact keepA_ (xc6) (Or.inl (by omega))
        replace xf6 : wz22.frozen? ⟨wz12.heap.size, 6, none⟩ = false := by rw [hwy]; simpa using xf6
        replace xc7 : wz22.cell? ⟨wz12.heap.size, 7, none⟩ = some (.int .i64 0) := by rw [hwy]; exact keepA_ (xc7) (Or.inl (by omega))
        replace xf7 : wz22.frozen? ⟨wz12.heap.size, 7, none⟩ = false := by rw [hwy]; simpa using xf7
        replace xc8 : wz22.cell? ⟨wz12.heap.size, 8, none⟩ = some (.int .i64 m.s) := by rw [hwy]; exact keepA_ (xc8) (Or.inl (by omega))
        replace xf8 : wz22.frozen? ⟨wz12.heap.size, 8, none⟩ = false := by rw [hwy]; simpa using xf8
        replace xc9 : wz22.cell? ⟨wz12.heap.size, 9, none⟩ = some (.string ⟨#[]⟩) := by rw [hwy]; exact keepA_ (xc9) (Or.inl (by omega))
        replace xf9 : wz22.frozen? ⟨wz12.heap.size, 9, none⟩ = false := by rw [hwy]; simpa using xf9
        replace xc10 : wz22.cell? ⟨wz12.heap.size, 10, none⟩ = some (.int .i64 2) := by rw [hwy]; exact keepA_ (xc10) (Or.inl (by omega))
        replace xf10 : wz22.frozen? ⟨wz12.heap.size, 10, none⟩ = false := by rw [hwy]; simpa using xf10
        replace xc11 : wz22.cell? ⟨wz12.heap.size, 11, none⟩ = some (.int .i64 p2) := by rw [hwy]; exact keepA_ (xc11) (Or.inl (by omega))
        replace xf11 : wz22.frozen? ⟨wz12.heap.size, 11, none⟩ = false := by rw [hwy]; simpa using xf11
        replace xc12 : wz22.cell? ⟨wz12.heap.size, 12, none⟩ = some (.int .i64 0) := by rw [hwy]; exact keepA_ (xc12) (Or.inl (by omega))
        replace xf12 : wz22.frozen? ⟨wz12.heap.size, 12, none⟩ = false := by rw [hwy]; simpa using xf12
        replace xc13 : wz22.cell? ⟨wz12.heap.size, 13, none⟩ = some (.int .i64 m.k) := by rw [hwy]; exact keepA_ (xc13) (Or.inl (by omega))
        replace xf13 : wz22.frozen? ⟨wz12.heap.size, 13, none⟩ = false := by rw [hwy]; simpa using xf13
        replace xc14 : wz22.cell? ⟨wz12.heap.size, 14, none⟩ = some (.string ⟨#[]⟩) := by rw [hwy]; exact keepA_ (xc14) (Or.inl (by omega))
        replace xf14 : wz22.frozen? ⟨wz12.heap.size, 14, none⟩ = false := by rw [hwy]; simpa using xf14
        replace HF : Hid (Fz wz22 (w.heap.size + 1 + 1)) := Lib.hid (by rw [hwy]; exact (fz_set HF.out _ _))
        replace HM1 := Lib.hid (hasInts_setS HM1.out mc0 (u := .slice am 16 cm))
        rw [← hwy] at HM1
        have md0 : wz22.cell? ⟨wz18.heap.size, 0, none⟩ = some (.slice am 16 cm) := by rw [hwy]; exact World.cell?_setCell_same _ _ _ mc0
        replace xt : Tag wz22 wz12.heap.size 32 := by rw [hwy]; exact (tag_set xt _ _)
        replace mt : Tag wz22 wz18.heap.size 55 := by rw [hwy]; exact (tag_set mt _ _)
        replace mf0 : wz22.frozen? ⟨wz18.heap.size, 0, none⟩ = false := by rw [hwy]; simpa using mf0
        replace HW := Lib.hid (Below.setCell (p := ⟨wz18.heap.size, 0, none⟩) HW.out (by have := HWS.out; dsimp only; omega) (.slice am 16 cm))
        rw [← hwy] at HW
        have hsz : wz22.heap.size = wz20.heap.size := by rw [hwy]; simp
        replace xz : wz12.heap.size < wz22.heap.size := by omega
        replace mz : wz18.heap.size < wz22.heap.size := by omega
        replace LO : _ ≤ wz22.heap.size := Nat.le_trans LO (Nat.le_of_eq hsz.symm)
        clear hsz hwy mc0
        have mc0 := md0
        clear md0
        refine hK.out _ _ ?_ (fun _ => ?_)
        · (try dsimp only); exact ⟨s0, s1, s2, s3, s4, s5, s6, s7, s8, s9, s10, s11, s12, s13, s14, s15, s16⟩
        clear hK K
        (try simp only [Act.put, List.setIfInBounds_toArray, List.set_cons_zero, List.set_cons_succ])
        have hHeld := And.intro s0 (And.intro s1 (And.intro s2 (And.intro s3 (And.intro s4 (And.intro s5 (And.intro s6 (And.intro s7 (And.intro s8 (And.intro s9 (And.intro s10 (And.intro s11 (And.intro s12 (And.intro s13 (And.intro s14 (And.intro s15 (s16))))))))))))))))
        refine tkA 30 (by kernel_rfl) (by assumption) ⟨_, _, ?_, rfl, rfl, ?_, fun _ _ _ h => h, ?_⟩; rotate_left; · intro w hSw; (try dsimp only at hSw); go_simp; (try with_reducible rfl)
        (try simp only [Act.put, List.setIfInBounds_toArray, List.set_cons_zero, List.set_cons_succ])
        refine tkA 31 (by kernel_rfl) (by assumption) ⟨_, _, ?_, rfl, rfl, ?_, fun _ _ _ h => h, ?_⟩; rotate_left; · intro w hSw; (try dsimp only at hSw); go_simp; (try with_reducible rfl)
        (try simp only [Act.put, List.setIfInBounds_toArray, List.set_cons_zero, List.set_cons_succ])
        clear hHeld
        refine wpAnyH_done (by kernel_rfl) ?_ _
        have ff := HF.out.2
        have kk := World.cell?_setCell_same wz22 ⟨w.heap.size + 1 + 1, 0, none⟩ (.slice am 16 cm) s16
        go_wp2
        refine bodyPost_ret (v := .agg #[.slice am 16 cm]) (by simp [results, Try.results36, go_sem, kk]) rfl ?_
        exact ⟨am, cm, rfl, hasInts_setS HM1.out s16, (HB0.out.trans (HW.out.mono (by have := HLO.out; omega))).setCell (by dsimp only; omega) _⟩
       case rest17 =>
        go_simp
        obtain ⟨wz23, hwy⟩ : ∃ W, W = wz15.alloc (.cells #[.slice none 0 0] 55) := ⟨_, rfl⟩
        rw [← hwy]
        have hb : Below wz15.heap.size wz15 wz23 := by rw [hwy]; exact below_new1 _ _
        have mc0 : wz23.cell? ⟨wz15.heap.size, 0, none⟩ = some (.slice none 0 0) := by rw [hwy, World.cell?_alloc_at _ _ _ _ rfl]; rfl
        have mf0 : wz23.frozen? ⟨wz15.heap.size, 0, none⟩ = false := by rw [hwy]; exact World.frozen?_alloc_at _ _ _ _ rfl
        have mt : Tag wz23 wz15.heap.size 55 := by rw [hwy]; exact tag_new _ _ _
        have mz : wz15.heap.size < wz23.heap.size := by rw [hwy]; simp
        have ml := LO
        replace HW := Lib.hid (below_step HW.out hb)
        replace s0 := cel_below hb s0
        replace s1 := cel_below hb s1
        replace s2 := cel_below hb s2
        replace s3 := cel_below hb s3
        replace s4 := cel_below hb s4
        replace s5 := cel_below hb s5
        replace s6 := cel_below hb s6
        replace s7 := cel_below hb s7
        replace s8 := cel_below hb s8
        replace s9 := cel_below hb s9
        replace s10 := cel_below hb s10
        replace s11 := cel_below hb s11
        replace s12 := cel_below hb s12
        replace s13 := cel_below hb s13
        replace s14 := cel_below hb s14
        replace s15 := cel_below hb s15
        replace s16 := cel_below hb s16
        replace xc0 := cel_below hb xc0
        replace xf0 := fro_below hb xz xf0
        replace xc1 := cel_below hb xc1
        replace xf1 := fro_below hb xz xf1
        replace xc2 := cel_below hb xc2
        replace xf2 := fro_below hb xz xf2
        replace xc3 := cel_below hb xc3
        replace xf3 := fro_below hb xz xf3
        replace xc4 := cel_below hb xc4
        replace xf4 := fro_below hb xz xf4
        replace xc5 := cel_below hb xc5
        replace xf5 := fro_below hb xz xf5
        replace xc6 := cel_below hb xc6
        replace xf6 := fro_below hb xz xf6
        replace xc7 := cel_below hb xc7
        replace xf7 := fro_below hb xz xf7
        replace xc8 := cel_below hb xc8
        replace xf8 := fro_below hb xz xf8
        replace xc9 := cel_below hb xc9
        replace xf9 := fro_below hb xz xf9
        replace xc10 := cel_below hb xc10
        replace xf10 := fro_below hb xz xf10
        replace xc11 := cel_below hb xc11
        replace xf11 := fro_below hb xz xf11
        replace xc12 := cel_below hb xc12
        replace xf12 := fro_below hb xz xf12
        replace xc13 := cel_below hb xc13
        replace xf13 := fro_below hb xz xf13
        replace xc14 := cel_below hb xc14
        replace xf14 := fro_below hb xz xf14
        replace xt := tag_below xt hb
        have xmn : wz12.heap.size ≠ wz15.heap.size := by omega
        replace xz := lt_below hb xz
        replace HF := Lib.hid (fz_keep HF.out hb)
        replace HN1 := Lib.hid (hasInts_keep HN1.out hb)
        replace LO := Nat.le_trans LO hb.size
        clear hb hwy
        refine hK.out _ _ ?_ (fun _ => ?_)
        · (try dsimp only); exact ⟨s0, s1, s2, s3, s4, s5, s6, s7, s8, s9, s10, s11, s12, s13, s14, s15, s16⟩
        clear hK K
        (try simp only [Act.put, List.setIfInBounds_toArray, List.set_cons_zero, List.set_cons_succ])
        refine wpAnyH_ready (rs := [23]) (by kernel_rfl) (by simp) ?_
        refine AllReadyH.cons (o := ?oi24) ?hi24 (fun K hK => ?rest24) AllReadyH.nil
        (case hi24 => (simp only [List.getElem?_toArray, List.getElem?_cons_succ, List.getElem?_cons_zero]; rfl))
        go_simp
        ((with_reducible refine (HA.out _ _ _ HN1.out (hasAccs_15 xc0 xc1 xc2 xc3 xc4 xc5 xc6 xc7 xc8 xc9 xc10 xc11 xc12 xc13 xc14)).mono ?_); rintro e wz25 ⟨am, cm, r3, rfl, hq, hb⟩)
        replace HW := Lib.hid (below_step HW.out hb)
        replace s0 := cel_below hb s0
        replace s1 := cel_below hb s1
        replace s2 := cel_below hb s2
        replace s3 := cel_below hb s3
        replace s4 := cel_below hb s4
        replace s5 := cel_below hb s5
        replace s6 := cel_below hb s6
        replace s7 := cel_below hb s7
        replace s8 := cel_below hb s8
        replace s9 := cel_below hb s9
        replace s10 := cel_below hb s10
        replace s11 := cel_below hb s11
        replace s12 := cel_below hb s12
        replace s13 := cel_below hb s13
        replace s14 := cel_below hb s14
        replace s15 := cel_below hb s15
        replace s16 := cel_below hb s16
        replace xc0 := cel_below hb xc0
        replace xf0 := fro_below hb xz xf0
        replace xc1 := cel_below hb xc1
        replace xf1 := fro_below hb xz xf1
        replace xc2 := cel_below hb xc2
        replace xf2 := fro_below hb xz xf2
        replace xc3 := cel_below hb xc3
        replace xf3 := fro_below hb xz xf3
        replace xc4 := cel_below hb xc4
        replace xf4 := fro_below hb xz xf4
        replace xc5 := cel_below hb xc5
        replace xf5 := fro_below hb xz xf5
        replace xc6 := cel_below hb xc6
        replace xf6 := fro_below hb xz xf6
        replace xc7 := cel_below hb xc7
        replace xf7 := fro_below hb xz xf7
        replace xc8 := cel_below hb xc8
        replace xf8 := fro_below hb xz xf8
        replace xc9 := cel_below hb xc9
        replace xf9 := fro_below hb xz xf9
        replace xc10 := cel_below hb xc10
        replace xf10 := fro_below hb xz xf10
        replace xc11 := cel_below hb xc11
        replace xf11 := fro_below hb xz xf11
        replace xc12 := cel_below hb xc12
        replace xf12 := fro_below hb xz xf12
        replace xc13 := cel_below hb xc13
        replace xf13 := fro_below hb xz xf13
        replace xc14 := cel_below hb xc14
        replace xf14 := fro_below hb xz xf14
        replace xz := lt_below hb xz
        replace xt := tag_below xt hb
        replace mc0 := cel_below hb mc0
        replace mf0 := fro_below hb mz mf0
        replace mz := lt_below hb mz
        replace mt := tag_below mt hb
        replace HF := Lib.hid (fz_keep HF.out hb)
        replace HN1 := Lib.hid (hasInts_keep HN1.out hb)
        have HM1 := Lib.hid hq
        clear hq HN1
        replace LO := Nat.le_trans LO hb.size
        clear hb
        refine hK.out _ _ ?_ (fun _ => ?_)
        · (try dsimp only); exact ⟨s0, s1, s2, s3, s4, s5, s6, s7, s8, s9, s10, s11, s12, s13, s14, s15, s16⟩
        clear hK K
        (try simp only [Act.put, List.setIfInBounds_toArray, List.set_cons_zero, List.set_cons_succ])
        have hHeld := And.intro s0 (And.intro s1 (And.intro s2 (And.intro s3 (And.intro s4 (And.intro s5 (And.intro s6 (And.intro s7 (And.intro s8 (And.intro s9 (And.intro s10 (And.intro s11 (And.intro s12 (And.intro s13 (And.intro s14 (And.intro s15 (s16))))))))))))))))
        refine tkA 24 (by kernel_rfl) (by assumption) ⟨_, _, ?_, rfl, rfl, ?_, fun _ _ _ h => h, ?_⟩; rotate_left; · intro w hSw; (try dsimp only at hSw); go_simp; (try with_reducible rfl)
        (try simp only [Act.put, List.setIfInBounds_toArray, List.set_cons_zero, List.set_cons_succ])
        refine tkA 25 (by kernel_rfl) (by assumption) ⟨_, _, ?_, rfl, rfl, ?_, fun _ _ _ h => h, ?_⟩; rotate_left; · intro w hSw; (try dsimp only at hSw); go_simp; (try with_reducible rfl)
        (try simp only [Act.put, List.setIfInBounds_toArray, List.set_cons_zero, List.set_cons_succ])
        refine tkA 26 (by kernel_rfl) (by assumption) ⟨_, _, ?_, rfl, rfl, ?_, fun _ _ _ h => h, ?_⟩; rotate_left; · intro w hSw; (try dsimp only at hSw); go_simp; (try with_reducible rfl)
        (try simp only [Act.put, List.setIfInBounds_toArray, List.set_cons_zero, List.set_cons_succ])
        refine tkA 27 (by kernel_rfl) (by assumption) ⟨_, _, ?_, rfl, rfl, ?_, fun _ _ _ h => h, ?_⟩; rotate_left; · intro w hSw; (try dsimp only at hSw); go_simp; (try with_reducible rfl)
        (try simp only [Act.put, List.setIfInBounds_toArray, List.set_cons_zero, List.set_cons_succ])
        clear hHeld
        refine wpAnyH_ready (rs := [29]) (by kernel_rfl) (by simp) ?_
        refine AllReadyH.cons (o := ?oi26) ?hi26 (fun K hK => ?rest26) AllReadyH.nil
        (case hi26 => (simp only [List.getElem?_toArray, List.getElem?_cons_succ, List.getElem?_cons_zero]; rfl))
        go_simp
        obtain ⟨wz27, hwy⟩ : ∃ W, W = (wz25.setCell ⟨wz15.heap.size, 0, none⟩ (.slice am 16 cm)) := ⟨_, rfl⟩
        rw [← hwy]
        have kp : ∀ {b' o' : Nat} {u : Value}, wz25.cell? ⟨b', o', none⟩ = some u → wz15.heap.size ≠ b' → wz27.cell? ⟨b', o', none⟩ = some u := fun h hn => by rw [hwy]; exact keepA_ (h) (Or.inl hn)
        replace s0 := kp s0 (by omega)
        replace s1 := kp s1 (by omega)
        replace s2 := kp s2 (by omega)
        replace s3 := kp s3 (by omega)
        replace s4 := kp s4 (by omega)
        replace s5 := kp s5 (by omega)
        replace s6 := kp s6 (by omega)
        replace s7 := kp s7 (by omega)
        replace s8 := kp s8 (by omega)
        replace s9 := kp s9 (by omega)
        replace s10 := kp s10 (by omega)
        replace s11 := kp s11 (by omega)
        replace s12 := kp s12 (by omega)
        replace s13 := kp s13 (by omega)
        replace s14 := kp s14 (by omega)
        replace s15 := kp s15 (by omega)
        replace s16 := kp s16 (by omega)
        clear kp
        replace xc0 : wz27.cell? ⟨wz12.heap.size, 0, none⟩ = some (.int .i64 2) := by rw [hwy]; exact keepA_ (xc0) (Or.inl (by omega))
        replace xf0 : wz27.frozen? ⟨wz12.heap.size, 0, none⟩ = false := by rw [hwy]; simpa using xf0
        replace xc1 : wz27.cell? ⟨wz12.heap.size, 1, none⟩ = some (.int .i64 p0) := by rw [hwy]; exact keepA_ (xc1) (Or.inl (by omega))
        replace xf1 : wz27.frozen? ⟨wz12.heap.size, 1, none⟩ = false := by rw [hwy]; simpa using xf1
        replace xc2 : wz27.cell? ⟨wz12.heap.size, 2, none⟩ = some (.int .i64 0) := by rw [hwy]; exact keepA_ (xc2) (Or.inl (by omega))
        replace xf2 : wz27.frozen? ⟨wz12.heap.size, 2, none⟩ = false := by rw [hwy]; simpa using xf2
        replace xc3 : wz27.cell? ⟨wz12.heap.size, 3, none⟩ = some (.int .i64 s) := by rw [hwy]; exact keepA_ (xc3) (Or.inl (by omega))
        replace xf3 : wz27.frozen? ⟨wz12.heap.size, 3, none⟩ = false := by rw [hwy]; simpa using xf3
        replace xc4 : wz27.cell? ⟨wz12.heap.size, 4, none⟩ = some (.string ⟨#[]⟩) := by rw [hwy]; exact keepA_ (xc4) (Or.inl (by omega))
        replace xf4 : wz27.frozen? ⟨wz12.heap.size, 4, none⟩ = false := by rw [hwy]; simpa using xf4
        replace xc5 : wz27.cell? ⟨wz12.heap.size, 5, none⟩ = some (.int .i64 2) := by rw [hwy]; exact keepA_ (xc5) (Or.inl (by omega))
        replace xf5 : wz27.frozen? ⟨wz12.heap.size, 5, none⟩ = false := by rw [hwy]; simpa using xf5
        replace xc6 : wz27.cell? ⟨wz12.heap.size, 6, none⟩ = some (.int .i64 p1) := by rw [hwy]; exact keepA_ (xc6) (Or.inl (by omega))
        replace xf6 : wz27.frozen? ⟨wz12.heap.size, 6, none⟩ = false := by rw [hwy]; simpa using xf6
        replace xc7 : wz27.cell? ⟨wz12.heap.size, 7, none⟩ = some (.int .i64 0) := by rw [hwy]; exact keepA_ (xc7) (Or.inl (by omega))
        replace xf7 : wz27.frozen? ⟨wz12.heap.size, 7, none⟩ = false := by rw [hwy]; simpa using xf7
        replace xc8 : wz27.cell? ⟨wz12.heap.size, 8, none⟩ = some (.int .i64 m.s) := by rw [hwy]; exact keepA_ (xc8) (Or.inl (by omega))
        replace xf8 : wz27.frozen? ⟨wz12.heap.size, 8, none⟩ = false := by rw [hwy]; simpa using xf8
        replace xc9 : wz27.cell? ⟨wz12.heap.size, 9, none⟩ = some (.string ⟨#[]⟩) := by rw [hwy]; exact keepA_ (xc9) (Or.inl (by omega))
        replace xf9 : wz27.frozen? ⟨wz12.heap.size, 9, none⟩ = false := by rw [hwy]; simpa using xf9
        replace xc10 : wz27.cell? ⟨wz12.heap.size, 10, none⟩ = some (.int .i64 2) := by rw [hwy]; exact keepA_ (xc10) (Or.inl (by omega))
        replace xf10 : wz27.frozen? ⟨wz12.heap.size, 10, none⟩ = false := by rw [hwy]; simpa using xf10
        replace xc11 : wz27.cell? ⟨wz12.heap.size, 11, none⟩ = some (.int .i64 p2) := by rw [hwy]; exact keepA_ (xc11) (Or.inl (by omega))
        replace xf11 : wz27.frozen? ⟨wz12.heap.size, 11, none⟩ = false := by rw [hwy]; simpa using xf11
        replace xc12 : wz27.cell? ⟨wz12.heap.size, 12, none⟩ = some (.int .i64 0) := by rw [hwy]; exact keepA_ (xc12) (Or.inl (by omega))
        replace xf12 : wz27.frozen? ⟨wz12.heap.size, 12, none⟩ = false := by rw [hwy]; simpa using xf12
        replace xc13 : wz27.cell? ⟨wz12.heap.size, 13, none⟩ = some (.int .i64 m.k) := by rw [hwy]; exact keepA_ (xc13) (Or.inl (by omega))
        replace xf13 : wz27.frozen? ⟨wz12.heap.size, 13, none⟩ = false := by rw [hwy]; simpa using xf13
        replace xc14 : wz27.cell? ⟨wz12.heap.size, 14, none⟩ = some (.string ⟨#[]⟩) := by rw [hwy]; exact keepA_ (xc14) (Or.inl (by omega))
        replace xf14 : wz27.frozen? ⟨wz12.heap.size, 14, none⟩ = false := by rw [hwy]; simpa using xf14
        replace HF : Hid (Fz wz27 (w.heap.size + 1 + 1)) := Lib.hid (by rw [hwy]; exact (fz_set HF.out _ _))
        replace HM1 := Lib.hid (hasInts_setS HM1.out mc0 (u := .slice am 16 cm))
        rw [← hwy] at HM1
        have md0 : wz27.cell? ⟨wz15.heap.size, 0, none⟩ = some (.slice am 16 cm) := by rw [hwy]; exact World.cell?_setCell_same _ _ _ mc0
        replace xt : Tag wz27 wz12.heap.size 32 := by rw [hwy]; exact (tag_set xt _ _)
        replace mt : Tag wz27 wz15.heap.size 55 := by rw [hwy]; exact (tag_set mt _ _)
        replace mf0 : wz27.frozen? ⟨wz15.heap.size, 0, none⟩ = false := by rw [hwy]; simpa using mf0
        replace HW := Lib.hid (Below.setCell (p := ⟨wz15.heap.size, 0, none⟩) HW.out (by have := HWS.out; dsimp only; omega) (.slice am 16 cm))
        rw [← hwy] at HW
        have hsz : wz27.heap.size = wz25.heap.size := by rw [hwy]; simp
        replace xz : wz12.heap.size < wz27.heap.size := by omega
        replace mz : wz15.heap.size < wz27.heap.size := by omega
        replace LO : _ ≤ wz27.heap.size := Nat.le_trans LO (Nat.le_of_eq hsz.symm)
        clear hsz hwy mc0
        have mc0 := md0
        clear md0
        refine hK.out _ _ ?_ (fun _ => ?_)
        · (try dsimp only); exact ⟨s0, s1, s2, s3, s4, s5, s6, s7, s8, s9, s10, s11, s12, s13, s14, s15, s16⟩
        clear hK K
        (try simp only [Act.put, List.setIfInBounds_toArray, List.set_cons_zero, List.set_cons_succ])
        have hHeld := And.intro s0 (And.intro s1 (And.intro s2 (And.intro s3 (And.intro s4 (And.intro s5 (And.intro s6 (And.intro s7 (And.intro s8 (And.intro s9 (And.intro s10 (And.intro s11 (And.intro s12 (And.intro s13 (And.intro s14 (And.intro s15 (s16))))))))))))))))
        refine tkA 30 (by kernel_rfl) (by assumption) ⟨_, _, ?_, rfl, rfl, ?_, fun _ _ _ h => h, ?_⟩; rotate_left; · intro w hSw; (try dsimp only at hSw); go_simp; (try with_reducible rfl)
        (try simp only [Act.put, List.setIfInBounds_toArray, List.set_cons_zero, List.set_cons_succ])
        refine tkA 31 (by kernel_rfl) (by assumption) ⟨_, _, ?_, rfl, rfl, ?_, fun _ _ _ h => h, ?_⟩; rotate_left; · intro w hSw; (try dsimp only at hSw); go_simp; (try with_reducible rfl)
        (try simp only [Act.put, List.setIfInBounds_toArray, List.set_cons_zero, List.set_cons_succ])
        clear hHeld
        refine wpAnyH_done (by kernel_rfl) ?_ _
        have ff := HF.out.2
        have kk := World.cell?_setCell_same wz27 ⟨w.heap.size + 1 + 1, 0, none⟩ (.slice am 16 cm) s16
        go_wp2
        refine bodyPost_ret (v := .agg #[.slice am 16 cm]) (by simp [results, Try.results36, go_sem, kk]) rfl ?_
        exact ⟨am, cm, rfl, hasInts_setS HM1.out s16, (HB0.out.trans (HW.out.mono (by have := HLO.out; omega))).setCell (by dsimp only; omega) _⟩
      case rest14 =>
       go_simp
       obtain ⟨wz28, hwy⟩ : ∃ W, W = wz12.alloc (.cells #[.slice none 0 0] 55) := ⟨_, rfl⟩
       rw [← hwy]
       have hb : Below wz12.heap.size wz12 wz28 := by rw [hwy]; exact below_new1 _ _
       have mc0 : wz28.cell? ⟨wz12.heap.size, 0, none⟩ = some (.slice none 0 0) := by rw [hwy, World.cell?_alloc_at _ _ _ _ rfl]; rfl
       have mf0 : wz28.frozen? ⟨wz12.heap.size, 0, none⟩ = false := by rw [hwy]; exact World.frozen?_alloc_at _ _ _ _ rfl
       have mt : Tag wz28 wz12.heap.size 55 := by rw [hwy]; exact tag_new _ _ _
       have mz : wz12.heap.size < wz28.heap.size := by rw [hwy]; simp
       have ml := LO
       replace HW := Lib.hid (below_step HW.out hb)
       replace s0 := cel_below hb s0
       replace s1 := cel_below hb s1
       replace s2 := cel_below hb s2
       replace s3 := cel_below hb s3
       replace s4 := cel_below hb s4
       replace s5 := cel_below hb s5
       replace s6 := cel_below hb s6
       replace s7 := cel_below hb s7
       replace s8 := cel_below hb s8
       replace s9 := cel_below hb s9
       replace s10 := cel_below hb s10
       replace s11 := cel_below hb s11
       replace s12 := cel_below hb s12
       replace s13 := cel_below hb s13
       replace s14 := cel_below hb s14
       replace s15 := cel_below hb s15
       replace s16 := cel_below hb s16
       replace HF := Lib.hid (fz_keep HF.out hb)
       replace HN1 := Lib.hid (hasInts_keep HN1.out hb)
       replace LO := Nat.le_trans LO hb.size
       clear hb hwy
       refine hK.out _ _ ?_ (fun _ => ?_)
       · (try dsimp only); exact ⟨s0, s1, s2, s3, s4, s5, s6, s7, s8, s9, s10, s11, s12, s13, s14, s15, s16⟩
       clear hK K
       (try simp only [Act.put, List.setIfInBounds_toArray, List.set_cons_zero, List.set_cons_succ])
       refine wpAnyH_ready (rs := [22]) (by kernel_rfl) (by simp) ?_
       refine AllReadyH.cons (o := ?oi29) ?hi29 (fun K hK => ?rest29) AllReadyH.nil
       (case hi29 => (simp only [List.getElem?_toArray, List.getElem?_cons_succ, List.getElem?_cons_zero]; rfl))
       go_simp
       obtain ⟨wz30, hwy⟩ : ∃ W, W = wz28.alloc (.cells #[.int .i64 2, .int .i64 p0, .int .i64 0, .int .i64 s, .string ⟨#[]⟩, .int .i64 2, .int .i64 p1, .int .i64 0, .int .i64 m.s, .string ⟨#[]⟩, .int .i64 2, .int .i64 p2, .int .i64 0, .int .i64 m.k, .string ⟨#[]⟩] 32) := ⟨_, rfl⟩
       rw [← hwy]
       have hb : Below wz28.heap.size wz28 wz30 := by rw [hwy]; exact below_new1 _ _
       have xc0 : wz30.cell? ⟨wz28.heap.size, 0, none⟩ = some (.int .i64 2) := by rw [hwy, World.cell?_alloc_at _ _ _ _ rfl]; rfl
       have xf0 : wz30.frozen? ⟨wz28.heap.size, 0, none⟩ = false := by rw [hwy]; exact World.frozen?_alloc_at _ _ _ _ rfl
       have xc1 : wz30.cell? ⟨wz28.heap.size, 1, none⟩ = some (.int .i64 p0) := by rw [hwy, World.cell?_alloc_at _ _ _ _ rfl]; rfl
       have xf1 : wz30.frozen? ⟨wz28.heap.size, 1, none⟩ = false := by rw [hwy]; exact World.frozen?_alloc_at _ _ _ _ rfl
       have xc2 : wz30.cell? ⟨wz28.heap.size, 2, none⟩ = some (.int .i64 0) := by rw [hwy, World.cell?_alloc_at _ _ _ _ rfl]; rfl
       have xf2 : wz30.frozen? ⟨wz28.heap.size, 2, none⟩ = false := by rw [hwy]; exact World.frozen?_alloc_at _ _ _ _ rfl
       have xc3 : wz30.cell? ⟨wz28.heap.size, 3, none⟩ = some (.int .i64 s) := by rw [hwy, World.cell?_alloc_at _ _ _ _ rfl]; rfl
       have xf3 : wz30.frozen? ⟨wz28.heap.size, 3, none⟩ = false := by rw [hwy]; exact World.frozen?_alloc_at _ _ _ _ rfl
       have xc4 : wz30.cell? ⟨wz28.heap.size, 4, none⟩ = some (.string ⟨#[]⟩) := by rw [hwy, World.cell?_alloc_at _ _ _ _ rfl]; rfl
       have xf4 : wz30.frozen? ⟨wz28.heap.size, 4, none⟩ = false := by rw [hwy]; exact World.frozen?_alloc_at _ _ _ _ rfl
       have xc5 : wz30.cell? ⟨wz28.heap.size, 5, none⟩ = some (.int .i64 2) := by rw [hwy, World.cell?_alloc_at _ _ _ _ rfl]; rfl
       have xf5 : wz30.frozen? ⟨wz28.heap.size, 5, none⟩ = false := by rw [hwy]; exact World.frozen?_alloc_at _ _ _ _ rfl
       have xc6 : wz30.cell? ⟨wz28.heap.size, 6, none⟩ = some (.int .i64 p1) := by rw [hwy, World.cell?_alloc_at _ _ _ _ rfl]; rfl
       have xf6 : wz30.frozen? ⟨wz28.heap.size, 6, none⟩ = false := by rw [hwy]; exact World.frozen?_alloc_at _ _ _ _ rfl
       have xc7 : wz30.cell? ⟨wz28.heap.size, 7, none⟩ = some (.int .i64 0) := by rw [hwy, World.cell?_alloc_at _ _ _ _ rfl]; rfl
       have xf7 : wz30.frozen? ⟨wz28.heap.size, 7, none⟩ = false := by rw [hwy]; exact World.frozen?_alloc_at _ _ _ _ rfl
       have xc8 : wz30.cell? ⟨wz28.heap.size, 8, none⟩ = some (.int .i64 m.s) := by rw [hwy, World.cell?_alloc_at _ _ _ _ rfl]; rfl
       have xf8 : wz30.frozen? ⟨wz28.heap.size, 8, none⟩ = false := by rw [hwy]; exact World.frozen?_alloc_at _ _ _ _ rfl
       have xc9 : wz30.cell? ⟨wz28.heap.size, 9, none⟩ = some (.string ⟨#[]⟩) := by rw [hwy, World.cell?_alloc_at _ _ _ _ rfl]; rfl
       have xf9 : wz30.frozen? ⟨wz28.heap.size, 9, none⟩ = false := by rw [hwy]; exact World.frozen?_alloc_at _ _ _ _ rfl
       have xc10 : wz30.cell? ⟨wz28.heap.size, 10, none⟩ = some (.int .i64 2) := by rw [hwy, World.cell?_alloc_at _ _ _ _ rfl]; rfl
       have xf10 : wz30.frozen? ⟨wz28.heap.size, 10, none⟩ = false := by rw [hwy]; exact World.frozen?_alloc_at _ _ _ _ rfl
       have xc11 : wz30.cell? ⟨wz28.heap.size, 11, none⟩ = some (.int .i64 p2) := by rw [hwy, World.cell?_alloc_at _ _ _ _ rfl]; rfl
       have xf11 : wz30.frozen? ⟨wz28.heap.size, 11, none⟩ = false := by rw [hwy]; exact World.frozen?_alloc_at _ _ _ _ rfl
       have xc12 : wz30.cell? ⟨wz28.heap.size, 12, none⟩ = some (.int .i64 0) := by rw [hwy, World.cell?_alloc_at _ _ _ _ rfl]; rfl
       have xf12 : wz30.frozen? ⟨wz28.heap.size, 12, none⟩ = false := by rw [hwy]; exact World.frozen?_alloc_at _ _ _ _ rfl
       have xc13 : wz30.cell? ⟨wz28.heap.size, 13, none⟩ = some (.int .i64 m.k) := by rw [hwy, World.cell?_alloc_at _ _ _ _ rfl]; rfl
       have xf13 : wz30.frozen? ⟨wz28.heap.size, 13, none⟩ = false := by rw [hwy]; exact World.frozen?_alloc_at _ _ _ _ rfl
       have xc14 : wz30.cell? ⟨wz28.heap.size, 14, none⟩ = some (.string ⟨#[]⟩) := by rw [hwy, World.cell?_alloc_at _ _ _ _ rfl]; rfl
       have xf14 : wz30.frozen? ⟨wz28.heap.size, 14, none⟩ = false := by rw [hwy]; exact World.frozen?_alloc_at _ _ _ _ rfl
       have xt : Tag wz30 wz28.heap.size 32 := by rw [hwy]; exact tag_new _ _ _
       have xz : wz28.heap.size < wz30.heap.size := by rw [hwy]; simp
       have xl := LO
       replace HW := Lib.hid (below_step HW.out hb)
       replace s0 := cel_below hb s0
       replace s1 := cel_below hb s1
       replace s2 := cel_below hb s2
       replace s3 := cel_below hb s3
       replace s4 := cel_below hb s4
       replace s5 := cel_below hb s5
       replace s6 := cel_below hb s6
       replace s7 := cel_below hb s7
       replace s8 := cel_below hb s8
       replace s9 := cel_below hb s9
       replace s10 := cel_below hb s10
       replace s11 := cel_below hb s11
       replace s12 := cel_below hb s12
       replace s13 := cel_below hb s13
       replace s14 := cel_below hb s14
       replace s15 := cel_below hb s15
       replace s16 := cel_below hb s16
       replace mc0 := cel_below hb mc0
       replace mf0 := fro_below hb mz mf0
       replace mt := tag_below mt hb
       have mxn : wz12.heap.size ≠ wz28.heap.size := by omega
       replace mz := lt_below hb mz
       replace HF := Lib.hid (fz_keep HF.out hb)
       replace HN1 := Lib.hid (hasInts_keep HN1.out hb)
       replace LO := Nat.le_trans LO hb.size
       clear hb hwy
       refine hK.out _ _ ?_ (fun _ => ?_)
       · (try dsimp only); exact ⟨s0, s1, s2, s3, s4, s5, s6, s7, s8, s9, s10, s11, s12, s13, s14, s15, s16⟩
       clear hK K
       (try simp only [Act.put, List.setIfInBounds_toArray, List.set_cons_zero, List.set_cons_succ])
       refine wpAnyH_ready (rs := [23]) (by kernel_rfl) (by simp) ?_
       refine AllReadyH.cons (o := ?oi31) ?hi31 (fun K hK => ?rest31) AllReadyH.nil
       (case hi31 => (simp only [List.getElem?_toArray, List.getElem?_cons_succ, List.getElem?_cons_zero]; rfl))
       go_simp
       ((with_reducible refine (HA.out _ _ _ HN1.out (hasAccs_15 xc0 xc1 xc2 xc3 xc4 xc5 xc6 xc7 xc8 xc9 xc10 xc11 xc12 xc13 xc14)).mono ?_); rintro e wz32 ⟨am, cm, r3, rfl, hq, hb⟩)
       replace HW := Lib.hid (below_step HW.out hb)
       replace s0 := cel_below hb s0
       replace s1 := cel_below hb s1
       replace s2 := cel_below hb s2
       replace s3 := cel_below hb s3
       replace s4 := cel_below hb s4
       replace s5 := cel_below hb s5
       replace s6 := cel_below hb s6
       replace s7 := cel_below hb s7
       replace s8 := cel_below hb s8
       replace s9 := cel_below hb s9
       replace s10 := cel_below hb s10
       replace s11 := cel_below hb s11
       replace s12 := cel_below hb s12
       replace s13 := cel_below hb s13
       replace s14 := cel_below hb s14
       replace s15 := cel_below hb s15
       replace s16 := cel_below hb s16
       replace mc0 := cel_below hb mc0
       replace mf0 := fro_below hb mz mf0
       replace mz := lt_below hb mz
       replace mt := tag_below mt hb
       replace xc0 := cel_below hb xc0
       replace xf0 := fro_below hb xz xf0
       replace xc1 := cel_below hb xc1
       replace xf1 := fro_below hb xz xf1
       replace xc2 := cel_below hb xc2
       replace xf2 := fro_below hb xz xf2
       replace xc3 := cel_below hb xc3
       replace xf3 := fro_below hb xz xf3
       replace xc4 := cel_below hb xc4
       replace xf4 := fro_below hb xz xf4
       replace xc5 := cel_below hb xc5
       replace xf5 := fro_below hb xz xf5
       replace xc6 := cel_below hb xc6
       replace xf6 := fro_below hb xz xf6
       replace xc7 := cel_below hb xc7
       replace xf7 := fro_below hb xz xf7
       replace xc8 := cel_below hb xc8
       replace xf8 := fro_below hb xz xf8
       replace xc9 := cel_below hb xc9
       replace xf9 := fro_below hb xz xf9
       replace xc10 := cel_below hb xc10
       replace xf10 := fro_below hb xz xf10
       replace xc11 := cel_below hb xc11
       replace xf11 := fro_below hb xz xf11
       replace xc12 := cel_below hb xc12
       replace xf12 := fro_below hb xz xf12
       replace xc13 := cel_below hb xc13
       replace xf13 := fro_below hb xz xf13
       replace xc14 := cel_below hb xc14
       replace xf14 := fro_below hb xz xf14
       replace xz := lt_below hb xz
       replace xt := tag_below xt hb
       replace HF := Lib.hid (fz_keep HF.out hb)
       replace HN1 := Lib.hid (hasInts_keep HN1.out hb)
       have HM1 := Lib.hid hq
       clear hq HN1
       replace LO := Nat.le_trans LO hb.size
       clear hb
       refine hK.out _ _ ?_ (fun _ => ?_)
       · (try dsimp only); exact ⟨s0, s1, s2, s3, s4, s5, s6, s7, s8, s9, s10, s11, s12, s13, s14, s15, s16⟩
       clear hK K
       (try simp only [Act.put, List.setIfInBounds_toArray, List.set_cons_zero, List.set_cons_succ])
       have hHeld := And.intro s0 (And.intro s1 (And.intro s2 (And.intro s3 (And.intro s4 (And.intro s5 (And.intro s6 (And.intro s7 (And.intro s8 (And.intro s9 (And.intro s10 (And.intro s11 (And.intro s12 (And.intro s13 (And.intro s14 (And.intro s15 (s16))))))))))))))))
       refine tkA 24 (by kernel_rfl) (by assumption) ⟨_, _, ?_, rfl, rfl, ?_, fun _ _ _ h => h, ?_⟩; rotate_left; · intro w hSw; (try dsimp only at hSw); go_simp; (try with_reducible rfl)
       (try simp only [Act.put, List.setIfInBounds_toArray, List.set_cons_zero, List.set_cons_succ])
       refine tkA 25 (by kernel_rfl) (by assumption) ⟨_, _, ?_, rfl, rfl, ?_, fun _ _ _ h => h, ?_⟩; rotate_left; · intro w hSw; (try dsimp only at hSw); go_simp; (try with_reducible rfl)
       (try simp only [Act.put, List.setIfInBounds_toArray, List.set_cons_zero, List.set_cons_succ])
       refine tkA 26 (by kernel_rfl) (by assumption) ⟨_, _, ?_, rfl, rfl, ?_, fun _ _ _ h => h, ?_⟩; rotate_left; · intro w hSw; (try dsimp only at hSw); go_simp; (try with_reducible rfl)
       (try simp only [Act.put, List.setIfInBounds_toArray, List.set_cons_zero, List.set_cons_succ])
       refine tkA 27 (by kernel_rfl) (by assumption) ⟨_, _, ?_, rfl, rfl, ?_, fun _ _ _ h => h, ?_⟩; rotate_left; · intro w hSw; (try dsimp only at hSw); go_simp; (try with_reducible rfl)
       (try simp only [Act.put, List.setIfInBounds_toArray, List.set_cons_zero, List.set_cons_succ])
       clear hHeld
       refine wpAnyH_ready (rs := [29]) (by kernel_rfl) (by simp) ?_
       refine AllReadyH.cons (o := ?oi33) ?hi33 (fun K hK => ?rest33) AllReadyH.nil
       (case hi33 => (simp only [List.getElem?_toArray, List.getElem?_cons_succ, List.getElem?_cons_zero]; rfl))
       go_simp
       obtain ⟨wz34, hwy⟩ : ∃ W, W = (wz32.setCell ⟨wz12.heap.size, 0, none⟩ (.slice am 16 cm)) := ⟨_, rfl⟩
       rw [← hwy]
       have kp : ∀ {b' o' : Nat} {u : Value}, wz32.cell? ⟨b', o', none⟩ = some u → wz12.heap.size ≠ b' → wz34.cell? ⟨b', o', none⟩ = some u := fun h hn => by rw [hwy]; exact keepA_ (h) (Or.inl hn)
       replace s0 := kp s0 (by omega)
       replace s1 := kp s1 (by omega)
       replace s2 := kp s2 (by omega)
       replace s3 := kp s3 (by omega)
       replace s4 := kp s4 (by omega)
       replace s5 := kp s5 (by omega)
       replace s6 := kp s6 (by omega)
       replace s7 := kp s7 (by omega)
       replace s8 := kp s8 (by omega)
       replace s9 := kp s9 (by omega)
       replace s10 := kp s10 (by omega)
       replace s11 := kp s11 (by omega)
       replace s12 := kp s12 (by omega)
       replace s13 := kp s13 (by omega)
       replace s14 := kp s14 (by omega)
       replace s15 := kp s15 (by omega)
       replace s16 := kp s16 (by omega)
       clear kp
       replace xc0 : wz34.cell? ⟨wz28.heap.size, 0, none⟩ = some (.int .i64 2) := by rw [hwy]; exact keepA_ (xc0) (Or.inl (by omega))
       replace xf0 : wz34.frozen? ⟨wz28.heap.size, 0, none⟩ = false := by rw [hwy]; simpa using xf0
       replace xc1 : wz34.cell? ⟨wz28.heap.size, 1, none⟩ = some (.int .i64 p0) := by rw [hwy]; exact keepA_ (xc1) (Or.inl (by omega))
       replace xf1 : wz34.frozen? ⟨wz28.heap.size, 1, none⟩ = false := by rw [hwy]; simpa using xf1
       replace xc2 : wz34.cell? ⟨wz28.heap.size, 2, none⟩ = some (.int .i64 0) := by rw [hwy]; exact keepA_ (xc2) (Or.inl (by omega))
       replace xf2 : wz34.frozen? ⟨wz28.heap.size, 2, none⟩ = false := by rw [hwy]; simpa using xf2
       replace xc3 : wz34.cell? ⟨wz28.heap.size, 3, none⟩ = some (.int .i64 s) := by rw [hwy]; exact keepA_ (xc3) (Or.inl (by omega))
       replace xf3 : wz34.frozen? ⟨wz28.heap.size, 3, none⟩ = false := by rw [hwy]; simpa using xf3
       replace xc4 : wz34.cell? ⟨wz28.heap.size, 4, none⟩ = some (.string ⟨#[]⟩) := by rw [hwy]; exact keepA_ (xc4) (Or.inl (by omega))
       replace xf4 : wz34.frozen? ⟨wz28.heap.size, 4, none⟩ = false := by rw [hwy]; simpa using xf4
       replace xc5 : wz34.cell? ⟨wz28.heap.size, 5, none⟩ = some (.int .i64 2) := by rw [hwy]; exact keepA_ (xc5) (Or.inl (by omega))
       replace xf5 : wz34.frozen? ⟨wz28.heap.size, 5, none⟩ = false := by rw [hwy]; simpa using xf5
       replace xc6 : wz34.cell? ⟨wz28.heap.size, 6, none⟩ = some (.int .i64 p1) := by rw [hwy]; exact keepA_ (xc6) (Or.inl (by omega))
       replace xf6 : wz34.frozen? ⟨wz28.heap.size, 6, none⟩ = false := by rw [hwy]; simpa using xf6
       replace xc7 : wz34.cell? ⟨wz28.heap.size, 7, none⟩ = some (.int .i64 0) := by rw [hwy]; exact keepA_ (xc7) (Or.inl (by omega))
       replace xf7 : wz34.frozen? ⟨wz28.heap.size, 7, none⟩ = false := by rw [hwy]; simpa using xf7
       replace xc8 : wz34.cell? ⟨wz28.heap.size, 8, none⟩ = some (.int .i64 m.s) := by rw [hwy]; exact keepA_ (xc8) (Or.inl (by omega))
       replace xf8 : wz34.frozen? ⟨wz28.heap.size, 8, none⟩ = false := by rw [hwy]; simpa using xf8
       replace xc9 : wz34.cell? ⟨wz28.heap.size, 9, none⟩ = some (.string ⟨#[]⟩) := by rw [hwy]; exact keepA_ (xc9) (Or.inl (by omega))
       replace xf9 : wz34.frozen? ⟨wz28.heap.size, 9, none⟩ = false := by rw [hwy]; simpa using xf9
       replace xc10 : wz34.cell? ⟨wz28.heap.size, 10, none⟩ = some (.int .i64 2) := by rw [hwy]; exact keepA_ (xc10) (Or.inl (by omega))
       replace xf10 : wz34.frozen? ⟨wz28.heap.size, 10, none⟩ = false := by rw [hwy]; simpa using xf10
       replace xc11 : wz34.cell? ⟨wz28.heap.size, 11, none⟩ = some (.int .i64 p2) := by rw [hwy]; exact keepA_ (xc11) (Or.inl (by omega))
       replace xf11 : wz34.frozen? ⟨wz28.heap.size, 11, none⟩ = false := by rw [hwy]; simpa using xf11
       replace xc12 : wz34.cell? ⟨wz28.heap.size, 12, none⟩ = some (.int .i64 0) := by rw [hwy]; exact keepA_ (xc12) (Or.inl (by omega))
       replace xf12 : wz34.frozen? ⟨wz28.heap.size, 12, none⟩ = false := by rw [hwy]; simpa using xf12
       replace xc13 : wz34.cell? ⟨wz28.heap.size, 13, none⟩ = some (.int .i64 m.k) := by rw [hwy]; exact keepA_ (xc13) (Or.inl (by omega))
       replace xf13 : wz34.frozen? ⟨wz28.heap.size, 13, none⟩ = false := by rw [hwy]; simpa using xf13
       replace xc14 : wz34.cell? ⟨wz28.heap.size, 14, none⟩ = some (.string ⟨#[]⟩) := by rw [hwy]; exact keepA_ (xc14) (Or.inl (by omega))
       replace xf14 : wz34.frozen? ⟨wz28.heap.size, 14, none⟩ = false := by rw [hwy]; simpa using xf14
       replace HF : Hid (Fz wz34 (w.heap.size + 1 + 1)) := Lib.hid (by rw [hwy]; exact (fz_set HF.out _ _))
       replace HM1 := Lib.hid (hasInts_setS HM1.out mc0 (u := .slice am 16 cm))
       rw [← hwy] at HM1
       have md0 : wz34.cell? ⟨wz12.heap.size, 0, none⟩ = some (.slice am 16 cm) := by rw [hwy]; exact World.cell?_setCell_same _ _ _ mc0
       replace mt : Tag wz34 wz12.heap.size 55 := by rw [hwy]; exact (tag_set mt _ _)
       replace xt : Tag wz34 wz28.heap.size 32 := by rw [hwy]; exact (tag_set xt _ _)
       replace mf0 : wz34.frozen? ⟨wz12.heap.size, 0, none⟩ = false := by rw [hwy]; simpa using mf0
       replace HW := Lib.hid (Below.setCell (p := ⟨wz12.heap.size, 0, none⟩) HW.out (by have := HWS.out; dsimp only; omega) (.slice am 16 cm))
       rw [← hwy] at HW
       have hsz : wz34.heap.size = wz32.heap.size := by rw [hwy]; simp
       replace mz : wz12.heap.size < wz34.heap.size := by omega
       replace xz : wz28.heap.size < wz34.heap.size := by omega
       replace LO : _ ≤ wz34.heap.size := Nat.le_trans LO (Nat.le_of_eq hsz.symm)
       clear hsz hwy mc0
       have mc0 := md0
       clear md0
       refine hK.out _ _ ?_ (fun _ => ?_)
       · (try dsimp only); exact ⟨s0, s1, s2, s3, s4, s5, s6, s7, s8, s9, s10, s11, s12, s13, s14, s15, s16⟩
       clear hK K
       (try simp only [Act.put, List.setIfInBounds_toArray, List.set_cons_zero, List.set_cons_succ])
       have hHeld := And.intro s0 (And.intro s1 (And.intro s2 (And.intro s3 (And.intro s4 (And.intro s5 (And.intro s6 (And.intro s7 (And.intro s8 (And.intro s9 (And.intro s10 (And.intro s11 (And.intro s12 (And.intro s13 (And.intro s14 (And.intro s15 (s16))))))))))))))))
       refine tkA 30 (by kernel_rfl) (by assumption) ⟨_, _, ?_, rfl, rfl, ?_, fun _ _ _ h => h, ?_⟩; rotate_left; · intro w hSw; (try dsimp only at hSw); go_simp; (try with_reducible rfl)
       (try simp only [Act.put, List.setIfInBounds_toArray, List.set_cons_zero, List.set_cons_succ])
       refine tkA 31 (by kernel_rfl) (by assumption) ⟨_, _, ?_, rfl, rfl, ?_, fun _ _ _ h => h, ?_⟩; rotate_left; · intro w hSw; (try dsimp only at hSw); go_simp; (try with_reducible rfl)
       (try simp only [Act.put, List.setIfInBounds_toArray, List.set_cons_zero, List.set_cons_succ])
       clear hHeld
       refine wpAnyH_done (by kernel_rfl) ?_ _
       have ff := HF.out.2
       have kk := World.cell?_setCell_same wz34 ⟨w.heap.size + 1 + 1, 0, none⟩ (.slice am 16 cm) s16
       go_wp2
       refine bodyPost_ret (v := .agg #[.slice am 16 cm]) (by simp [results, Try.results36, go_sem, kk]) rfl ?_
       exact ⟨am, cm, rfl, hasInts_setS HM1.out s16, (HB0.out.trans (HW.out.mono (by have := HLO.out; omega))).setCell (by dsimp only; omega) _⟩
     case rest11 =>
      go_simp
      obtain ⟨wz35, hwy⟩ : ∃ W, W = wz9.alloc (.cells #[.slice none 0 0] 55) := ⟨_, rfl⟩
      rw [← hwy]
      have hb : Below wz9.heap.size wz9 wz35 := by rw [hwy]; exact below_new1 _ _
      have mc0 : wz35.cell? ⟨wz9.heap.size, 0, none⟩ = some (.slice none 0 0) := by rw [hwy, World.cell?_alloc_at _ _ _ _ rfl]; rfl
      have mf0 : wz35.frozen? ⟨wz9.heap.size, 0, none⟩ = false := by rw [hwy]; exact World.frozen?_alloc_at _ _ _ _ rfl
      have mt : Tag wz35 wz9.heap.size 55 := by rw [hwy]; exact tag_new _ _ _
      have mz : wz9.heap.size < wz35.heap.size := by rw [hwy]; simp
      have ml := LO
      replace HW := Lib.hid (below_step HW.out hb)
      replace s0 := cel_below hb s0
      replace s1 := cel_below hb s1
      replace s2 := cel_below hb s2
      replace s3 := cel_below hb s3
      replace s4 := cel_below hb s4
      replace s5 := cel_below hb s5
      replace s6 := cel_below hb s6
      replace s7 := cel_below hb s7
      replace s8 := cel_below hb s8
      replace s9 := cel_below hb s9
      replace s10 := cel_below hb s10
      replace s11 := cel_below hb s11
      replace s12 := cel_below hb s12
      replace s13 := cel_below hb s13
      replace s14 := cel_below hb s14
      replace s15 := cel_below hb s15
      replace s16 := cel_below hb s16
      replace HF := Lib.hid (fz_keep HF.out hb)
      replace HN1 := Lib.hid (hasInts_keep HN1.out hb)
      replace LO := Nat.le_trans LO hb.size
      clear hb hwy
      refine hK.out _ _ ?_ (fun _ => ?_)
      · (try dsimp only); exact ⟨s0, s1, s2, s3, s4, s5, s6, s7, s8, s9, s10, s11, s12, s13, s14, s15, s16⟩
      clear hK K
      (try simp only [Act.put, List.setIfInBounds_toArray, List.set_cons_zero, List.set_cons_succ])
      refine wpAnyH_ready (rs := [18]) (by kernel_rfl) (by simp) ?_
      refine AllReadyH.cons (o := ?oi36) ?hi36 (fun K hK => ?rest36) AllReadyH.nil
      (case hi36 => (simp only [List.getElem?_toArray, List.getElem?_cons_succ, List.getElem?_cons_zero]; rfl))
      go_simp
      ((with_reducible refine (HK.out _).mono ?_); rintro e wz37 ⟨rfl, hb⟩)
      replace HW := Lib.hid (below_step HW.out hb)
      replace s0 := cel_below hb s0
      replace s1 := cel_below hb s1
      replace s2 := cel_below hb s2
      replace s3 := cel_below hb s3
      replace s4 := cel_below hb s4
      replace s5 := cel_below hb s5
      replace s6 := cel_below hb s6
      replace s7 := cel_below hb s7
      replace s8 := cel_below hb s8
      replace s9 := cel_below hb s9
      replace s10 := cel_below hb s10
      replace s11 := cel_below hb s11
      replace s12 := cel_below hb s12
      replace s13 := cel_below hb s13
      replace s14 := cel_below hb s14
      replace s15 := cel_below hb s15
      replace s16 := cel_below hb s16
      replace mc0 := cel_below hb mc0
      replace mf0 := fro_below hb mz mf0
      replace mz := lt_below hb mz
      replace mt := tag_below mt hb
      replace HF := Lib.hid (fz_keep HF.out hb)
      replace HN1 := Lib.hid (hasInts_keep HN1.out hb)
      replace LO := Nat.le_trans LO hb.size
      clear hb
      refine hK.out _ _ ?_ (fun _ => ?_)
      · (try dsimp only); exact ⟨s0, s1, s2, s3, s4, s5, s6, s7, s8, s9, s10, s11, s12, s13, s14, s15, s16⟩
      clear hK K
      (try simp only [Act.put, List.setIfInBounds_toArray, List.set_cons_zero, List.set_cons_succ])
      have hHeld := And.intro s0 (And.intro s1 (And.intro s2 (And.intro s3 (And.intro s4 (And.intro s5 (And.intro s6 (And.intro s7 (And.intro s8 (And.intro s9 (And.intro s10 (And.intro s11 (And.intro s12 (And.intro s13 (And.intro s14 (And.intro s15 (s16))))))))))))))))
      refine tkA 21 (by kernel_rfl) (by assumption) ⟨_, _, ?_, rfl, rfl, ?_, fun _ _ _ h => h, ?_⟩; rotate_left; · intro w hSw; (try dsimp only at hSw); go_simp; (try with_reducible rfl)
      (try simp only [Act.put, List.setIfInBounds_toArray, List.set_cons_zero, List.set_cons_succ])
      clear hHeld
      refine wpAnyH_ready (rs := [22]) (by kernel_rfl) (by simp) ?_
      refine AllReadyH.cons (o := ?oi38) ?hi38 (fun K hK => ?rest38) AllReadyH.nil
      (case hi38 => (simp only [List.getElem?_toArray, List.getElem?_cons_succ, List.getElem?_cons_zero]; rfl))
      go_simp
      obtain ⟨wz39, hwy⟩ : ∃ W, W = wz37.alloc (.cells #[.int .i64 2, .int .i64 p0, .int .i64 0, .int .i64 s, .string ⟨#[]⟩, .int .i64 2, .int .i64 p1, .int .i64 0, .int .i64 m.s, .string ⟨#[]⟩, .int .i64 2, .int .i64 p2, .int .i64 0, .int .i64 m.k, .string ⟨#[]⟩] 32) := ⟨_, rfl⟩
      rw [← hwy]
      have hb : Below wz37.heap.size wz37 wz39 := by rw [hwy]; exact below_new1 _ _
      have xc0 : wz39.cell? ⟨wz37.heap.size, 0, none⟩ = some (.int .i64 2) := by rw [hwy, World.cell?_alloc_at _ _ _ _ rfl]; rfl
      have xf0 : wz39.frozen? ⟨wz37.heap.size, 0, none⟩ = false := by rw [hwy]; exact World.frozen?_alloc_at _ _ _ _ rfl
      have xc1 : wz39.cell? ⟨wz37.heap.size, 1, none⟩ = some (.int .i64 p0) := by rw [hwy, World.cell?_alloc_at _ _ _ _ rfl]; rfl
      have xf1 : wz39.frozen? ⟨wz37.heap.size, 1, none⟩ = false := by rw [hwy]; exact World.frozen?_alloc_at _ _ _ _ rfl
      have xc2 : wz39.cell? ⟨wz37.heap.size, 2, none⟩ = some (.int .i64 0) := by rw [hwy, World.cell?_alloc_at _ _ _ _ rfl]; rfl
      have xf2 : wz39.frozen? ⟨wz37.heap.size, 2, none⟩ = false := by rw [hwy]; exact World.frozen?_alloc_at _ _ _ _ rfl
      have xc3 : wz39.cell? ⟨wz37.heap.size, 3, none⟩ = some (.int .i64 s) := by rw [hwy, World.cell?_alloc_at _ _ _ _ rfl]; rfl
      have xf3 : wz39.frozen? ⟨wz37.heap.size, 3, none⟩ = false := by rw [hwy]; exact World.frozen?_alloc_at _ _ _ _ rfl
      have xc4 : wz39.cell? ⟨wz37.heap.size, 4, none⟩ = some (.string ⟨#[]⟩) := by rw [hwy, World.cell?_alloc_at _ _ _ _ rfl]; rfl
      have xf4 : wz39.frozen? ⟨wz37.heap.size, 4, none⟩ = false := by rw [hwy]; exact World.frozen?_alloc_at _ _ _ _ rfl
      have xc5 : wz39.cell? ⟨wz37.heap.size, 5, none⟩ = some (.int .i64 2) := by rw [hwy, World.cell?_alloc_at _ _ _ _ rfl]; rfl
      have xf5 : wz39.frozen? ⟨wz37.heap.size, 5, none⟩ = false := by rw [hwy]; exact World.frozen?_alloc_at _ _ _ _ rfl
      have xc6 : wz39.cell? ⟨wz37.heap.size, 6, none⟩ = some (.int .i64 p1) := by rw [hwy, World.cell?_alloc_at _ _ _ _ rfl]; rfl
      have xf6 : wz39.frozen? ⟨wz37.heap.size, 6, none⟩ = false := by rw [hwy]; exact World.frozen?_alloc_at _ _ _ _ rfl
      have xc7 : wz39.cell? ⟨wz37.heap.size, 7, none⟩ = some (.int .i64 0) := by rw [hwy, World.cell?_alloc_at _ _ _ _ rfl]; rfl
      have xf7 : wz39.frozen? ⟨wz37.heap.size, 7, none⟩ = false := by rw [hwy]; exact World.frozen?_alloc_at _ _ _ _ rfl
      have xc8 : wz39.cell? ⟨wz37.heap.size, 8, none⟩ = some (.int .i64 m.s) := by rw [hwy, World.cell?_alloc_at _ _ _ _ rfl]; rfl
      have xf8 : wz39.frozen? ⟨wz37.heap.size, 8, none⟩ = false := by rw [hwy]; exact World.frozen?_alloc_at _ _ _ _ rfl
      have xc9 : wz39.cell? ⟨wz37.heap.size, 9, none⟩ = some (.string ⟨#[]⟩) := by rw [hwy, World.cell?_alloc_at _ _ _ _ rfl]; rfl
      have xf9 : wz39.frozen? ⟨wz37.heap.size, 9, none⟩ = false := by rw [hwy]; exact World.frozen?_alloc_at _ _ _ _ rfl
      have xc10 : wz39.cell? ⟨wz37.heap.size, 10, none⟩ = some (.int .i64 2) := by rw [hwy, World.cell?_alloc_at _ _ _ _ rfl]; rfl
      have xf10 : wz39.frozen? ⟨wz37.heap.size, 10, none⟩ = false := by rw [hwy]; exact World.frozen?_alloc_at _ _ _ _ rfl
      have xc11 : wz39.cell? ⟨wz37.heap.size, 11, none⟩ = some (.int .i64 p2) := by rw [hwy, World.cell?_alloc_at _ _ _ _ rfl]; rfl
      have xf11 : wz39.frozen? ⟨wz37.heap.size, 11, none⟩ = false := by rw [hwy]; exact World.frozen?_alloc_at _ _ _ _ rfl
      have xc12 : wz39.cell? ⟨wz37.heap.size, 12, none⟩ = some (.int .i64 0) := by rw [hwy, World.cell?_alloc_at _ _ _ _ rfl]; rfl
      have xf12 : wz39.frozen? ⟨wz37.heap.size, 12, none⟩ = false := by rw [hwy]; exact World.frozen?_alloc_at _ _ _ _ rfl
      have xc13 : wz39.cell? ⟨wz37.heap.size, 13, none⟩ = some (.int .i64 m.k) := by rw [hwy, World.cell?_alloc_at _ _ _ _ rfl]; rfl
      have xf13 : wz39.frozen? ⟨wz37.heap.size, 13, none⟩ = false := by rw [hwy]; exact World.frozen?_alloc_at _ _ _ _ rfl
      have xc14 : wz39.cell? ⟨wz37.heap.size, 14, none⟩ = some (.string ⟨#[]⟩) := by rw [hwy, World.cell?_alloc_at _ _ _ _ rfl]; rfl
      have xf14 : wz39.frozen? ⟨wz37.heap.size, 14, none⟩ = false := by rw [hwy]; exact World.frozen?_alloc_at _ _ _ _ rfl
      have xt : Tag wz39 wz37.heap.size 32 := by rw [hwy]; exact tag_new _ _ _
      have xz : wz37.heap.size < wz39.heap.size := by rw [hwy]; simp
      have xl := LO
      replace HW := Lib.hid (below_step HW.out hb)
      replace s0 := cel_below hb s0
      replace s1 := cel_below hb s1
      replace s2 := cel_below hb s2
      replace s3 := cel_below hb s3
      replace s4 := cel_below hb s4
      replace s5 := cel_below hb s5
      replace s6 := cel_below hb s6
      replace s7 := cel_below hb s7
      replace s8 := cel_below hb s8
      replace s9 := cel_below hb s9
      replace s10 := cel_below hb s10
      replace s11 := cel_below hb s11
      replace s12 := cel_below hb s12
      replace s13 := cel_below hb s13
      replace s14 := cel_below hb s14
      replace s15 := cel_below hb s15
      replace s16 := cel_below hb s16
      replace mc0 := cel_below hb mc0
      replace mf0 := fro_below hb mz mf0
      replace mt := tag_below mt hb
      have mxn : wz9.heap.size ≠ wz37.heap.size := by omega
      replace mz := lt_below hb mz
      replace HF := Lib.hid (fz_keep HF.out hb)
      replace HN1 := Lib.hid (hasInts_keep HN1.out hb)
      replace LO := Nat.le_trans LO hb.size
      clear hb hwy
      refine hK.out _ _ ?_ (fun _ => ?_)
      · (try dsimp only); exact ⟨s0, s1, s2, s3, s4, s5, s6, s7, s8, s9, s10, s11, s12, s13, s14, s15, s16⟩
      clear hK K
      (try simp only [Act.put, List.setIfInBounds_toArray, List.set_cons_zero, List.set_cons_succ])
      refine wpAnyH_ready (rs := [23]) (by kernel_rfl) (by simp) ?_
      refine AllReadyH.cons (o := ?oi40) ?hi40 (fun K hK => ?rest40) AllReadyH.nil
      (case hi40 => (simp only [List.getElem?_toArray, List.getElem?_cons_succ, List.getElem?_cons_zero]; rfl))
      go_simp
      ((with_reducible refine (HA.out _ _ _ HN1.out (hasAccs_15 xc0 xc1 xc2 xc3 xc4 xc5 xc6 xc7 xc8 xc9 xc10 xc11 xc12 xc13 xc14)).mono ?_); rintro e wz41 ⟨am, cm, r3, rfl, hq, hb⟩)
      replace HW := Lib.hid (below_step HW.out hb)
      replace s0 := cel_below hb s0
      replace s1 := cel_below hb s1
      replace s2 := cel_below hb s2
      replace s3 := cel_below hb s3
      replace s4 := cel_below hb s4
      replace s5 := cel_below hb s5
      replace s6 := cel_below hb s6
      replace s7 := cel_below hb s7
      replace s8 := cel_below hb s8
      replace s9 := cel_below hb s9
      replace s10 := cel_below hb s10
      replace s11 := cel_below hb s11
      replace s12 := cel_below hb s12
      replace s13 := cel_below hb s13
      replace s14 := cel_below hb s14
      replace s15 := cel_below hb s15
      replace s16 := cel_below hb s16
      replace mc0 := cel_below hb mc0
      replace mf0 := fro_below hb mz mf0
      replace mz := lt_below hb mz
      replace mt := tag_below mt hb
      replace xc0 := cel_below hb xc0
      replace xf0 := fro_below hb xz xf0
      replace xc1 := cel_below hb xc1
      replace xf1 := fro_below hb xz xf1
      replace xc2 := cel_below hb xc2
      replace xf2 := fro_below hb xz xf2
      replace xc3 := cel_below hb xc3
      replace xf3 := fro_below hb xz xf3
      replace xc4 := cel_below hb xc4
      replace xf4 := fro_below hb xz xf4
      replace xc5 := cel_below hb xc5
      replace xf5 := fro_below hb xz xf5
      replace xc6 := cel_below hb xc6
      replace xf6 := fro_below hb xz xf6
      replace xc7 := cel_below hb xc7
      replace xf7 := fro_below hb xz xf7
      replace xc8 := cel_below hb xc8
      replace xf8 := fro_below hb xz xf8
      replace xc9 := cel_below hb xc9
      replace xf9 := fro_below hb xz xf9
      replace xc10 := cel_below hb xc10
      replace xf10 := fro_below hb xz xf10
      replace xc11 := cel_below hb xc11
      replace xf11 := fro_below hb xz xf11
      replace xc12 := cel_below hb xc12
      replace xf12 := fro_below hb xz xf12
      replace xc13 := cel_below hb xc13
      replace xf13 := fro_below hb xz xf13
      replace xc14 := cel_below hb xc14
      replace xf14 := fro_below hb xz xf14
      replace xz := lt_below hb xz
      replace xt := tag_below xt hb
      replace HF := Lib.hid (fz_keep HF.out hb)
      replace HN1 := Lib.hid (hasInts_keep HN1.out hb)
      have HM1 := Lib.hid hq
      clear hq HN1
      replace LO := Nat.le_trans LO hb.size
      clear hb
      refine hK.out _ _ ?_ (fun _ => ?_)
      · (try dsimp only); exact ⟨s0, s1, s2, s3, s4, s5, s6, s7, s8, s9, s10, s11, s12, s13, s14, s15, s16⟩
      clear hK K
      (try simp only [Act.put, List.setIfInBounds_toArray, List.set_cons_zero, List.set_cons_succ])
      have hHeld := And.intro s0 (And.intro s1 (And.intro s2 (And.intro s3 (And.intro s4 (And.intro s5 (And.intro s6 (And.intro s7 (And.intro s8 (And.intro s9 (And.intro s10 (And.intro s11 (And.intro s12 (And.intro s13 (And.intro s14 (And.intro s15 (s16))))))))))))))))
      refine tkA 24 (by kernel_rfl) (by assumption) ⟨_, _, ?_, rfl, rfl, ?_, fun _ _ _ h => h, ?_⟩; rotate_left; · intro w hSw; (try dsimp only at hSw); go_simp; (try with_reducible rfl)
      (try simp only [Act.put, List.setIfInBounds_toArray, List.set_cons_zero, List.set_cons_succ])
      refine tkA 25 (by kernel_rfl) (by assumption) ⟨_, _, ?_, rfl, rfl, ?_, fun _ _ _ h => h, ?_⟩; rotate_left; · intro w hSw; (try dsimp only at hSw); go_simp; (try with_reducible rfl)
      (try simp only [Act.put, List.setIfInBounds_toArray, List.set_cons_zero, List.set_cons_succ])
      refine tkA 26 (by kernel_rfl) (by assumption) ⟨_, _, ?_, rfl, rfl, ?_, fun _ _ _ h => h, ?_⟩; rotate_left; · intro w hSw; (try dsimp only at hSw); go_simp; (try with_reducible rfl)
      (try simp only [Act.put, List.setIfInBounds_toArray, List.set_cons_zero, List.set_cons_succ])
      refine tkA 27 (by kernel_rfl) (by assumption) ⟨_, _, ?_, rfl, rfl, ?_, fun _ _ _ h => h, ?_⟩; rotate_left; · intro w hSw; (try dsimp only at hSw); go_simp; (try with_reducible rfl)
      (try simp only [Act.put, List.setIfInBounds_toArray, List.set_cons_zero, List.set_cons_succ])
      clear hHeld
      refine wpAnyH_ready (rs := [29]) (by kernel_rfl) (by simp) ?_
      refine AllReadyH.cons (o := ?oi42) ?hi42 (fun K hK => ?rest42) AllReadyH.nil
      (case hi42 => (simp only [List.getElem?_toArray, List.getElem?_cons_succ, List.getElem?_cons_zero]; rfl))
      go_simp
      obtain ⟨wz43, hwy⟩ : ∃ W, W = (wz41.setCell ⟨wz9.heap.size, 0, none⟩ (.slice am 16 cm)) := ⟨_, rfl⟩
      rw [← hwy]
      have kp : ∀ {b' o' : Nat} {u : Value}, wz41.cell? ⟨b', o', none⟩ = some u → wz9.heap.size ≠ b' → wz43.cell? ⟨b', o', none⟩ = some u := fun h hn => by rw [hwy]; exact keepA_ (h) (Or.inl hn)
      replace s0 := kp s0 (by omega)
      replace s1 := kp s1 (by omega)
      replace s2 := kp s2 (by omega)
      replace s3 := kp s3 (by omega)
      replace s4 := kp s4 (by omega)
      replace s5 := kp s5 (by omega)
      replace s6 := kp s6 (by omega)
      replace s7 := kp s7 (by omega)
      replace s8 := kp s8 (by omega)
      replace s9 := kp s9 (by omega)
      replace s10 := kp s10 (by omega)
      replace s11 := kp s11 (by omega)
      replace s12 := kp s12 (by omega)
      replace s13 := kp s13 (by omega)
      replace s14 := kp s14 (by omega)
      replace s15 := kp s15 (by omega)
      replace s16 := kp s16 (by omega)
      clear kp
      replace xc0 : wz43.cell? ⟨wz37.heap.size, 0, none⟩ = some (.int .i64 2) := by rw [hwy]; exact keepA_ (xc0) (Or.inl (by omega))
      replace xf0 : wz43.frozen? ⟨wz37.heap.size, 0, none⟩ = false := by rw [hwy]; simpa using xf0
      replace xc1 : wz43.cell? ⟨wz37.heap.size, 1, none⟩ = some (.int .i64 p0) := by rw [hwy]; exact keepA_ (xc1) (Or.inl (by omega))
      replace xf1 : wz43.frozen? ⟨wz37.heap.size, 1, none⟩ = false := by rw [hwy]; simpa using xf1
      replace xc2 : wz43.cell? ⟨wz37.heap.size, 2, none⟩ = some (.int .i64 0) := by rw [hwy]; exact keepA_ (xc2) (Or.inl (by omega))
      replace xf2 : wz43.frozen? ⟨wz37.heap.size, 2, none⟩ = false := by rw [hwy]; simpa using xf2
      replace xc3 : wz43.cell? ⟨wz37.heap.size, 3, none⟩ = some (.int .i64 s) := by rw [hwy]; exact keepA_ (xc3) (Or.inl (by omega))
      replace xf3 : wz43.frozen? ⟨wz37.heap.size, 3, none⟩ = false := by rw [hwy]; simpa using xf3
      replace xc4 : wz43.cell? ⟨wz37.heap.size, 4, none⟩ = some (.string ⟨#[]⟩) := by rw [hwy]; exact keepA_ (xc4) (Or.inl (by omega))
      replace xf4 : wz43.frozen? ⟨wz37.heap.size, 4, none⟩ = false := by rw [hwy]; simpa using xf4
      replace xc5 : wz43.cell? ⟨wz37.heap.size, 5, none⟩ = some (.int .i64 2) := by rw [hwy]; exact keepA_ (xc5) (Or.inl (by omega))
      replace xf5 : wz43.frozen? ⟨wz37.heap.size, 5, none⟩ = false := by rw [hwy]; simpa using xf5
      replace xc6 : wz43.cell? ⟨wz37.heap.size, 6, none⟩ = some (.int .i64 p1) := by rw [hwy]; exact keepA_ (xc6) (Or.inl (by omega))
      replace xf6 : wz43.frozen? ⟨wz37.heap.size, 6, none⟩ = false := by rw [hwy]; simpa using xf6
      replace xc7 : wz43.cell? ⟨wz37.heap.size, 7, none⟩ = some (.int .i64 0) := by rw [hwy]; exact keepA_ (xc7) (Or.inl (by omega))
      replace xf7 : wz43.frozen? ⟨wz37.heap.size, 7, none⟩ = false := by rw [hwy]; simpa using xf7
      replace xc8 : wz43.cell? ⟨wz37.heap.size, 8, none⟩ = some (.int .i64 m.s) := by rw [hwy]; exact keepA_ (xc8) (Or.inl (by omega))
      replace xf8 : wz43.frozen? ⟨wz37.heap.size, 8, none⟩ = false := by rw [hwy]; simpa using xf8
      replace xc9 : wz43.cell? ⟨wz37.heap.size, 9, none⟩ = some (.string ⟨#[]⟩) := by rw [hwy]; exact keepA_ (xc9) (Or.inl (by omega))
      replace xf9 : wz43.frozen? ⟨wz37.heap.size, 9, none⟩ = false := by rw [hwy]; simpa using xf9
      replace xc10 : wz43.cell? ⟨wz37.heap.size, 10, none⟩ = some (.int .i64 2) := by rw [hwy]; exact keepA_ (xc10) (Or.inl (by omega))
      replace xf10 : wz43.frozen? ⟨wz37.heap.size, 10, none⟩ = false := by rw [hwy]; simpa using xf10
      replace xc11 : wz43.cell? ⟨wz37.heap.size, 11, none⟩ = some (.int .i64 p2) := by rw [hwy]; exact keepA_ (xc11) (Or.inl (by omega))
      replace xf11 : wz43.frozen? ⟨wz37.heap.size, 11, none⟩ = false := by rw [hwy]; simpa using xf11
      replace xc12 : wz43.cell? ⟨wz37.heap.size, 12, none⟩ = some (.int .i64 0) := by rw [hwy]; exact keepA_ (xc12) (Or.inl (by omega))
      replace xf12 : wz43.frozen? ⟨wz37.heap.size, 12, none⟩ = false := by rw [hwy]; simpa using xf12
      replace xc13 : wz43.cell? ⟨wz37.heap.size, 13, none⟩ = some (.int .i64 m.k) := by rw [hwy]; exact keepA_ (xc13) (Or.inl (by omega))
      replace xf13 : wz43.frozen? ⟨wz37.heap.size, 13, none⟩ = false := by rw [hwy]; simpa using xf13
      replace xc14 : wz43.cell? ⟨wz37.heap.size, 14, none⟩ = some (.string ⟨#[]⟩) := by rw [hwy]; exact keepA_ (xc14) (Or.inl (by omega))
      replace xf14 : wz43.frozen? ⟨wz37.heap.size, 14, none⟩ = false := by rw [hwy]; simpa using xf14
      replace HF : Hid (Fz wz43 (w.heap.size + 1 + 1)) := Lib.hid (by rw [hwy]; exact (fz_set HF.out _ _))
      replace HM1 := Lib.hid (hasInts_setS HM1.out mc0 (u := .slice am 16 cm))
      rw [← hwy] at HM1
      have md0 : wz43.cell? ⟨wz9.heap.size, 0, none⟩ = some (.slice am 16 cm) := by rw [hwy]; exact World.cell?_setCell_same _ _ _ mc0
      replace mt : Tag wz43 wz9.heap.size 55 := by rw [hwy]; exact (tag_set mt _ _)
      replace xt : Tag wz43 wz37.heap.size 32 := by rw [hwy]; exact (tag_set xt _ _)
      replace mf0 : wz43.frozen? ⟨wz9.heap.size, 0, none⟩ = false := by rw [hwy]; simpa using mf0
      replace HW := Lib.hid (Below.setCell (p := ⟨wz9.heap.size, 0, none⟩) HW.out (by have := HWS.out; dsimp only; omega) (.slice am 16 cm))
      rw [← hwy] at HW
      have hsz : wz43.heap.size = wz41.heap.size := by rw [hwy]; simp
      replace mz : wz9.heap.size < wz43.heap.size := by omega
      replace xz : wz37.heap.size < wz43.heap.size := by omega
      replace LO : _ ≤ wz43.heap.size := Nat.le_trans LO (Nat.le_of_eq hsz.symm)
      clear hsz hwy mc0
      have mc0 := md0
      clear md0
      refine hK.out _ _ ?_ (fun _ => ?_)
      · (try dsimp only); exact ⟨s0, s1, s2, s3, s4, s5, s6, s7, s8, s9, s10, s11, s12, s13, s14, s15, s16⟩
      clear hK K
      (try simp only [Act.put, List.setIfInBounds_toArray, List.set_cons_zero, List.set_cons_succ])
      have hHeld := And.intro s0 (And.intro s1 (And.intro s2 (And.intro s3 (And.intro s4 (And.intro s5 (And.intro s6 (And.intro s7 (And.intro s8 (And.intro s9 (And.intro s10 (And.intro s11 (And.intro s12 (And.intro s13 (And.intro s14 (And.intro s15 (s16))))))))))))))))
      refine tkA 30 (by kernel_rfl) (by assumption) ⟨_, _, ?_, rfl, rfl, ?_, fun _ _ _ h => h, ?_⟩; rotate_left; · intro w hSw; (try dsimp only at hSw); go_simp; (try with_reducible rfl)
      (try simp only [Act.put, List.setIfInBounds_toArray, List.set_cons_zero, List.set_cons_succ])
      refine tkA 31 (by kernel_rfl) (by assumption) ⟨_, _, ?_, rfl, rfl, ?_, fun _ _ _ h => h, ?_⟩; rotate_left; · intro w hSw; (try dsimp only at hSw); go_simp; (try with_reducible rfl)
      (try simp only [Act.put, List.setIfInBounds_toArray, List.set_cons_zero, List.set_cons_succ])
      clear hHeld
      refine wpAnyH_done (by kernel_rfl) ?_ _
      have ff := HF.out.2
      have kk := World.cell?_setCell_same wz43 ⟨w.heap.size + 1 + 1, 0, none⟩ (.slice am 16 cm) s16
      go_wp2
      refine bodyPost_ret (v := .agg #[.slice am 16 cm]) (by simp [results, Try.results36, go_sem, kk]) rfl ?_
      exact ⟨am, cm, rfl, hasInts_setS HM1.out s16, (HB0.out.trans (HW.out.mono (by have := HLO.out; omega))).setCell (by dsimp only; omega) _⟩
    case rest8 =>
     go_simp
     obtain ⟨wz44, hwy⟩ : ∃ W, W = wz6.alloc (.cells #[.slice none 0 0] 55) := ⟨_, rfl⟩
     rw [← hwy]
     have hb : Below wz6.heap.size wz6 wz44 := by rw [hwy]; exact below_new1 _ _
     have mc0 : wz44.cell? ⟨wz6.heap.size, 0, none⟩ = some (.slice none 0 0) := by rw [hwy, World.cell?_alloc_at _ _ _ _ rfl]; rfl
     have mf0 : wz44.frozen? ⟨wz6.heap.size, 0, none⟩ = false := by rw [hwy]; exact World.frozen?_alloc_at _ _ _ _ rfl
     have mt : Tag wz44 wz6.heap.size 55 := by rw [hwy]; exact tag_new _ _ _
     have mz : wz6.heap.size < wz44.heap.size := by rw [hwy]; simp
     have ml := LO
     replace HW := Lib.hid (below_step HW.out hb)
     replace s0 := cel_below hb s0
     replace s1 := cel_below hb s1
     replace s2 := cel_below hb s2
     replace s3 := cel_below hb s3
     replace s4 := cel_below hb s4
     replace s5 := cel_below hb s5
     replace s6 := cel_below hb s6
     replace s7 := cel_below hb s7
     replace s8 := cel_below hb s8
     replace s9 := cel_below hb s9
     replace s10 := cel_below hb s10
     replace s11 := cel_below hb s11
     replace s12 := cel_below hb s12
     replace s13 := cel_below hb s13
     replace s14 := cel_below hb s14
     replace s15 := cel_below hb s15
     replace s16 := cel_below hb s16
     replace HF := Lib.hid (fz_keep HF.out hb)
     replace HN1 := Lib.hid (hasInts_keep HN1.out hb)
     replace LO := Nat.le_trans LO hb.size
     clear hb hwy
     refine hK.out _ _ ?_ (fun _ => ?_)
     · (try dsimp only); exact ⟨s0, s1, s2, s3, s4, s5, s6, s7, s8, s9, s10, s11, s12, s13, s14, s15, s16⟩
     clear hK K
     (try simp only [Act.put, List.setIfInBounds_toArray, List.set_cons_zero, List.set_cons_succ])
     refine wpAnyH_ready (rs := [12]) (by kernel_rfl) (by simp) ?_
     refine AllReadyH.cons (o := ?oi45) ?hi45 (fun K hK => ?rest45) AllReadyH.nil
     (case hi45 => (simp only [List.getElem?_toArray, List.getElem?_cons_succ, List.getElem?_cons_zero]; rfl))
     go_simp
     ((with_reducible refine (HT.out _).mono ?_); rintro e wz46 ⟨rfl, hb⟩)
     replace HW := Lib.hid (below_step HW.out hb)
     replace s0 := cel_below hb s0
     replace s1 := cel_below hb s1
     replace s2 := cel_below hb s2
     replace s3 := cel_below hb s3
     replace s4 := cel_below hb s4
     replace s5 := cel_below hb s5
     replace s6 := cel_below hb s6
     replace s7 := cel_below hb s7
     replace s8 := cel_below hb s8
     replace s9 := cel_below hb s9
     replace s10 := cel_below hb s10
     replace s11 := cel_below hb s11
     replace s12 := cel_below hb s12
     replace s13 := cel_below hb s13
     replace s14 := cel_below hb s14
     replace s15 := cel_below hb s15
     replace s16 := cel_below hb s16
     replace mc0 := cel_below hb mc0
     replace mf0 := fro_below hb mz mf0
     replace mz := lt_below hb mz
     replace mt := tag_below mt hb
     replace HF := Lib.hid (fz_keep HF.out hb)
     replace HN1 := Lib.hid (hasInts_keep HN1.out hb)
     replace LO := Nat.le_trans LO hb.size
     clear hb
     refine hK.out _ _ ?_ (fun _ => ?_)
     · (try dsimp only); exact ⟨s0, s1, s2, s3, s4, s5, s6, s7, s8, s9, s10, s11, s12, s13, s14, s15, s16⟩
     clear hK K
     (try simp only [Act.put, List.setIfInBounds_toArray, List.set_cons_zero, List.set_cons_succ])
     have hHeld := And.intro s0 (And.intro s1 (And.intro s2 (And.intro s3 (And.intro s4 (And.intro s5 (And.intro s6 (And.intro s7 (And.intro s8 (And.intro s9 (And.intro s10 (And.intro s11 (And.intro s12 (And.intro s13 (And.intro s14 (And.intro s15 (s16))))))))))))))))
     refine tkA 15 (by kernel_rfl) (by assumption) ⟨_, _, ?_, rfl, rfl, ?_, fun _ _ _ h => h, ?_⟩; rotate_left; · intro w hSw; (try dsimp only at hSw); go_simp; (try with_reducible rfl)
     (try simp only [Act.put, List.setIfInBounds_toArray, List.set_cons_zero, List.set_cons_succ])
     clear hHeld
     refine wpAnyH_ready (rs := [18]) (by kernel_rfl) (by simp) ?_
     refine AllReadyH.cons (o := ?oi47) ?hi47 (fun K hK => ?rest47) AllReadyH.nil
     (case hi47 => (simp only [List.getElem?_toArray, List.getElem?_cons_succ, List.getElem?_cons_zero]; rfl))
     go_simp
     ((with_reducible refine (HK.out _).mono ?_); rintro e wz48 ⟨rfl, hb⟩)
     replace HW := Lib.hid (below_step HW.out hb)
     replace s0 := cel_below hb s0
     replace s1 := cel_below hb s1
     replace s2 := cel_below hb s2
     replace s3 := cel_below hb s3
     replace s4 := cel_below hb s4
     replace s5 := cel_below hb s5
     replace s6 := cel_below hb s6
     replace s7 := cel_below hb s7
     replace s8 := cel_below hb s8
     replace s9 := cel_below hb s9
     replace s10 := cel_below hb s10
     replace s11 := cel_below hb s11
     replace s12 := cel_below hb s12
     replace s13 := cel_below hb s13
     replace s14 := cel_below hb s14
     replace s15 := cel_below hb s15
     replace s16 := cel_below hb s16
     replace mc0 := cel_below hb mc0
     replace mf0 := fro_below hb mz mf0
     replace mz := lt_below hb mz
     replace mt := tag_below mt hb
     replace HF := Lib.hid (fz_keep HF.out hb)
     replace HN1 := Lib.hid (hasInts_keep HN1.out hb)
     replace LO := Nat.le_trans LO hb.size
     clear hb
     refine hK.out _ _ ?_ (fun _ => ?_)
     · (try dsimp only); exact ⟨s0, s1, s2, s3, s4, s5, s6, s7, s8, s9, s10, s11, s12, s13, s14, s15, s16⟩
     clear hK K
     (try simp only [Act.put, List.setIfInBounds_toArray, List.set_cons_zero, List.set_cons_succ])
     have hHeld := And.intro s0 (And.intro s1 (And.intro s2 (And.intro s3 (And.intro s4 (And.intro s5 (And.intro s6 (And.intro s7 (And.intro s8 (And.intro s9 (And.intro s10 (And.intro s11 (And.intro s12 (And.intro s13 (And.intro s14 (And.intro s15 (s16))))))))))))))))
     refine tkA 21 (by kernel_rfl) (by assumption) ⟨_, _, ?_, rfl, rfl, ?_, fun _ _ _ h => h, ?_⟩; rotate_left; · intro w hSw; (try dsimp only at hSw); go_simp; (try with_reducible rfl)
     (try simp only [Act.put, List.setIfInBounds_toArray, List.set_cons_zero, List.set_cons_succ])
     clear hHeld
     refine wpAnyH_ready (rs := [22]) (by kernel_rfl) (by simp) ?_
     refine AllReadyH.cons (o := ?oi49) ?hi49 (fun K hK => ?rest49) AllReadyH.nil
     (case hi49 => (simp only [List.getElem?_toArray, List.getElem?_cons_succ, List.getElem?_cons_zero]; rfl))
     go_simp
     obtain ⟨wz50, hwy⟩ : ∃ W, W = wz48.alloc (.cells #[.int .i64 2, .int .i64 p0, .int .i64 0, .int .i64 s, .string ⟨#[]⟩, .int .i64 2, .int .i64 p1, .int .i64 0, .int .i64 m.s, .string ⟨#[]⟩, .int .i64 2, .int .i64 p2, .int .i64 0, .int .i64 m.k, .string ⟨#[]⟩] 32) := ⟨_, rfl⟩
     rw [← hwy]
     have hb : Below wz48.heap.size wz48 wz50 := by rw [hwy]; exact below_new1 _ _
     have xc0 : wz50.cell? ⟨wz48.heap.size, 0, none⟩ = some (.int .i64 2) := by rw [hwy, World.cell?_alloc_at _ _ _ _ rfl]; rfl
     have xf0 : wz50.frozen? ⟨wz48.heap.size, 0, none⟩ = false := by rw [hwy]; exact World.frozen?_alloc_at _ _ _ _ rfl
     have xc1 : wz50.cell? ⟨wz48.heap.size, 1, none⟩ = some (.int .i64 p0) := by rw [hwy, World.cell?_alloc_at _ _ _ _ rfl]; rfl
     have xf1 : wz50.frozen? ⟨wz48.heap.size, 1, none⟩ = false := by rw [hwy]; exact World.frozen?_alloc_at _ _ _ _ rfl
     have xc2 : wz50.cell? ⟨wz48.heap.size, 2, none⟩ = some (.int .i64 0) := by rw [hwy, World.cell?_alloc_at _ _ _ _ rfl]; rfl
     have xf2 : wz50.frozen? ⟨wz48.heap.size, 2, none⟩ = false := by rw [hwy]; exact World.frozen?_alloc_at _ _ _ _ rfl
     have xc3 : wz50.cell? ⟨wz48.heap.size, 3, none⟩ = some (.int .i64 s) := by rw [hwy, World.cell?_alloc_at _ _ _ _ rfl]; rfl
     have xf3 : wz50.frozen? ⟨wz48.heap.size, 3, none⟩ = false := by rw [hwy]; exact World.frozen?_alloc_at _ _ _ _ rfl
     have xc4 : wz50.cell? ⟨wz48.heap.size, 4, none⟩ = some (.string ⟨#[]⟩) := by rw [hwy, World.cell?_alloc_at _ _ _ _ rfl]; rfl
     have xf4 : wz50.frozen? ⟨wz48.heap.size, 4, none⟩ = false := by rw [hwy]; exact World.frozen?_alloc_at _ _ _ _ rfl
     have xc5 : wz50.cell? ⟨wz48.heap.size, 5, none⟩ = some (.int .i64 2) := by rw [hwy, World.cell?_alloc_at _ _ _ _ rfl]; rfl
     have xf5 : wz50.frozen? ⟨wz48.heap.size, 5, none⟩ = false := by rw [hwy]; exact World.frozen?_alloc_at _ _ _ _ rfl
     have xc6 : wz50.cell? ⟨wz48.heap.size, 6, none⟩ = some (.int .i64 p1) := by rw [hwy, World.cell?_alloc_at _ _ _ _ rfl]; rfl
     have xf6 : wz50.frozen? ⟨wz48.heap.size, 6, none⟩ = false := by rw [hwy]; exact World.frozen?_alloc_at _ _ _ _ rfl
     have xc7 : wz50.cell? ⟨wz48.heap.size, 7, none⟩ = some (.int .i64 0) := by rw [hwy, World.cell?_alloc_at _ _ _ _ rfl]; rfl
     have xf7 : wz50.frozen? ⟨wz48.heap.size, 7, none⟩ = false := by rw [hwy]; exact World.frozen?_alloc_at _ _ _ _ rfl
     have xc8 : wz50.cell? ⟨wz48.heap.size, 8, none⟩ = some (.int .i64 m.s) := by rw [hwy, World.cell?_alloc_at _ _ _ _ rfl]; rfl
     have xf8 : wz50.frozen? ⟨wz48.heap.size, 8, none⟩ = false := by rw [hwy]; exact World.frozen?_alloc_at _ _ _ _ rfl
     have xc9 : wz50.cell? ⟨wz48.heap.size, 9, none⟩ = some (.string ⟨#[]⟩) := by rw [hwy, World.cell?_alloc_at _ _ _ _ rfl]; rfl
     have xf9 : wz50.frozen? ⟨wz48.heap.size, 9, none⟩ = false := by rw [hwy]; exact World.frozen?_alloc_at _ _ _ _ rfl
     have xc10 : wz50.cell? ⟨wz48.heap.size, 10, none⟩ = some (.int .i64 2) := by rw [hwy, World.cell?_alloc_at _ _ _ _ rfl]; rfl
     have xf10 : wz50.frozen? ⟨wz48.heap.size, 10, none⟩ = false := by rw [hwy]; exact World.frozen?_alloc_at _ _ _ _ rfl
     have xc11 : wz50.cell? ⟨wz48.heap.size, 11, none⟩ = some (.int .i64 p2) := by rw [hwy, World.cell?_alloc_at _ _ _ _ rfl]; rfl
     have xf11 : wz50.frozen? ⟨wz48.heap.size, 11, none⟩ = false := by rw [hwy]; exact World.frozen?_alloc_at _ _ _ _ rfl
     have xc12 : wz50.cell? ⟨wz48.heap.size, 12, none⟩ = some (.int .i64 0) := by rw [hwy, World.cell?_alloc_at _ _ _ _ rfl]; rfl
     have xf12 : wz50.frozen? ⟨wz48.heap.size, 12, none⟩ = false := by rw [hwy]; exact World.frozen?_alloc_at _ _ _ _ rfl
     have xc13 : wz50.cell? ⟨wz48.heap.size, 13, none⟩ = some (.int .i64 m.k) := by rw [hwy, World.cell?_alloc_at _ _ _ _ rfl]; rfl
     have xf13 : wz50.frozen? ⟨wz48.heap.size, 13, none⟩ = false := by rw [hwy]; exact World.frozen?_alloc_at _ _ _ _ rfl
     have xc14 : wz50.cell? ⟨wz48.heap.size, 14, none⟩ = some (.string ⟨#[]⟩) := by rw [hwy, World.cell?_alloc_at _ _ _ _ rfl]; rfl
     have xf14 : wz50.frozen? ⟨wz48.heap.size, 14, none⟩ = false := by rw [hwy]; exact World.frozen?_alloc_at _ _ _ _ rfl
     have xt : Tag wz50 wz48.heap.size 32 := by rw [hwy]; exact tag_new _ _ _
     have xz : wz48.heap.size < wz50.heap.size := by rw [hwy]; simp
     have xl := LO
     replace HW := Lib.hid (below_step HW.out hb)
     replace s0 := cel_below hb s0
     replace s1 := cel_below hb s1
     replace s2 := cel_below hb s2
     replace s3 := cel_below hb s3
     replace s4 := cel_below hb s4
     replace s5 := cel_below hb s5
     replace s6 := cel_below hb s6
     replace s7 := cel_below hb s7
     replace s8 := cel_below hb s8
     replace s9 := cel_below hb s9
     replace s10 := cel_below hb s10
     replace s11 := cel_below hb s11
     replace s12 := cel_below hb s12
     replace s13 := cel_below hb s13
     replace s14 := cel_below hb s14
     replace s15 := cel_below hb s15
     replace s16 := cel_below hb s16
     replace mc0 := cel_below hb mc0
     replace mf0 := fro_below hb mz mf0
     replace mt := tag_below mt hb
     have mxn : wz6.heap.size ≠ wz48.heap.size := by omega
     replace mz := lt_below hb mz
     replace HF := Lib.hid (fz_keep HF.out hb)
     replace HN1 := Lib.hid (hasInts_keep HN1.out hb)
     replace LO := Nat.le_trans LO hb.size
     clear hb hwy
     refine hK.out _ _ ?_ (fun _ => ?_)
     · (try dsimp only); exact ⟨s0, s1, s2, s3, s4, s5, s6, s7, s8, s9, s10, s11, s12, s13, s14, s15, s16⟩
     clear hK K
     (try simp only [Act.put, List.setIfInBounds_toArray, List.set_cons_zero, List.set_cons_succ])
     refine wpAnyH_ready (rs := [23]) (by kernel_rfl) (by simp) ?_
     refine AllReadyH.cons (o := ?oi51) ?hi51 (fun K hK => ?rest51) AllReadyH.nil
     (case hi51 => (simp only [List.getElem?_toArray, List.getElem?_cons_succ, List.getElem?_cons_zero]; rfl))
     go_simp
     ((with_reducible refine (HA.out _ _ _ HN1.out (hasAccs_15 xc0 xc1 xc2 xc3 xc4 xc5 xc6 xc7 xc8 xc9 xc10 xc11 xc12 xc13 xc14)).mono ?_); rintro e wz52 ⟨am, cm, r3, rfl, hq, hb⟩)
     replace HW := Lib.hid (below_step HW.out hb)
     replace s0 := cel_below hb s0
     replace s1 := cel_below hb s1
     replace s2 := cel_below hb s2
     replace s3 := cel_below hb s3
     replace s4 := cel_below hb s4
     replace s5 := cel_below hb s5
     replace s6 := cel_below hb s6
     replace s7 := cel_below hb s7
     replace s8 := cel_below hb s8
     replace s9 := cel_below hb s9
     replace s10 := cel_below hb s10
     replace s11 := cel_below hb s11
     replace s12 := cel_below hb s12
     replace s13 := cel_below hb s13
     replace s14 := cel_below hb s14
     replace s15 := cel_below hb s15
     replace s16 := cel_below hb s16
     replace mc0 := cel_below hb mc0
     replace mf0 := fro_below hb mz mf0
     replace mz := lt_below hb mz
     replace mt := tag_below mt hb
     replace xc0 := cel_below hb xc0
     replace xf0 := fro_below hb xz xf0
     replace xc1 := cel_below hb xc1
     replace xf1 := fro_below hb xz xf1
     replace xc2 := cel_below hb xc2
     replace xf2 := fro_below hb xz xf2
     replace xc3 := cel_below hb xc3
     replace xf3 := fro_below hb xz xf3
     replace xc4 := cel_below hb xc4
     replace xf4 := fro_below hb xz xf4
     replace xc5 := cel_below hb xc5
     replace xf5 := fro_below hb xz xf5
     replace xc6 := cel_below hb xc6
     replace xf6 := fro_below hb xz xf6
     replace xc7 := cel_below hb xc7
     replace xf7 := fro_below hb xz xf7
     replace xc8 := cel_below hb xc8
     replace xf8 := fro_below hb xz xf8
     replace xc9 := cel_below hb xc9
     replace xf9 := fro_below hb xz xf9
     replace xc10 := cel_below hb xc10
     replace xf10 := fro_below hb xz xf10
     replace xc11 := cel_below hb xc11
     replace xf11 := fro_below hb xz xf11
     replace xc12 := cel_below hb xc12
     replace xf12 := fro_below hb xz xf12
     replace xc13 := cel_below hb xc13
     replace xf13 := fro_below hb xz xf13
     replace xc14 := cel_below hb xc14
     replace xf14 := fro_below hb xz xf14
     replace xz := lt_below hb xz
     replace xt := tag_below xt hb
     replace HF := Lib.hid (fz_keep HF.out hb)
     replace HN1 := Lib.hid (hasInts_keep HN1.out hb)
     have HM1 := Lib.hid hq
     clear hq HN1
     replace LO := Nat.le_trans LO hb.size
     clear hb
     refine hK.out _ _ ?_ (fun _ => ?_)
     · (try dsimp only); exact ⟨s0, s1, s2, s3, s4, s5, s6, s7, s8, s9, s10, s11, s12, s13, s14, s15, s16⟩
     clear hK K
     (try simp only [Act.put, List.setIfInBounds_toArray, List.set_cons_zero, List.set_cons_succ])
     have hHeld := And.intro s0 (And.intro s1 (And.intro s2 (And.intro s3 (And.intro s4 (And.intro s5 (And.intro s6 (And.intro s7 (And.intro s8 (And.intro s9 (And.intro s10 (And.intro s11 (And.intro s12 (And.intro s13 (And.intro s14 (And.intro s15 (s16))))))))))))))))
     refine tkA 24 (by kernel_rfl) (by assumption) ⟨_, _, ?_, rfl, rfl, ?_, fun _ _ _ h => h, ?_⟩; rotate_left; · intro w hSw; (try dsimp only at hSw); go_simp; (try with_reducible rfl)
     (try simp only [Act.put, List.setIfInBounds_toArray, List.set_cons_zero, List.set_cons_succ])
     refine tkA 25 (by kernel_rfl) (by assumption) ⟨_, _, ?_, rfl, rfl, ?_, fun _ _ _ h => h, ?_⟩; rotate_left; · intro w hSw; (try dsimp only at hSw); go_simp; (try with_reducible rfl)
     (try simp only [Act.put, List.setIfInBounds_toArray, List.set_cons_zero, List.set_cons_succ])
     refine tkA 26 (by kernel_rfl) (by assumption) ⟨_, _, ?_, rfl, rfl, ?_, fun _ _ _ h => h, ?_⟩; rotate_left; · intro w hSw; (try dsimp only at hSw); go_simp; (try with_reducible rfl)
     (try simp only [Act.put, List.setIfInBounds_toArray, List.set_cons_zero, List.set_cons_succ])
     refine tkA 27 (by kernel_rfl) (by assumption) ⟨_, _, ?_, rfl, rfl, ?_, fun _ _ _ h => h, ?_⟩; rotate_left; · intro w hSw; (try dsimp only at hSw); go_simp; (try with_reducible rfl)
     (try simp only [Act.put, List.setIfInBounds_toArray, List.set_cons_zero, List.set_cons_succ])
     clear hHeld
     refine wpAnyH_ready (rs := [29]) (by kernel_rfl) (by simp) ?_
     refine AllReadyH.cons (o := ?oi53) ?hi53 (fun K hK => ?rest53) AllReadyH.nil
     (case hi53 => (simp only [List.getElem?_toArray, List.getElem?_cons_succ, List.getElem?_cons_zero]; rfl))
     go_simp
     obtain ⟨wz54, hwy⟩ : ∃ W, W = (wz52.setCell ⟨wz6.heap.size, 0, none⟩ (.slice am 16 cm)) := ⟨_, rfl⟩
     rw [← hwy]
     have kp : ∀ {b' o' : Nat} {u : Value}, wz52.cell? ⟨b', o', none⟩ = some u → wz6.heap.size ≠ b' → wz54.cell? ⟨b', o', none⟩ = some u := fun h hn => by rw [hwy]; exact keepA_ (h) (Or.inl hn)
     replace s0 := kp s0 (by omega)
     replace s1 := kp s1 (by omega)
     replace s2 := kp s2 (by omega)
     replace s3 := kp s3 (by omega)
     replace s4 := kp s4 (by omega)
     replace s5 := kp s5 (by omega)
     replace s6 := kp s6 (by omega)
     replace s7 := kp s7 (by omega)
     replace s8 := kp s8 (by omega)
     replace s9 := kp s9 (by omega)
     replace s10 := kp s10 (by omega)
     replace s11 := kp s11 (by omega)
     replace s12 := kp s12 (by omega)
     replace s13 := kp s13 (by omega)
     replace s14 := kp s14 (by omega)
     replace s15 := kp s15 (by omega)
     replace s16 := kp s16 (by omega)
     clear kp
     replace xc0 : wz54.cell? ⟨wz48.heap.size, 0, none⟩ = some (.int .i64 2) := by rw [hwy]; exact keepA_ (xc0) (Or.inl (by omega))
     replace xf0 : wz54.frozen? ⟨wz48.heap.size, 0, none⟩ = false := by rw [hwy]; simpa using xf0
     replace xc1 : wz54.cell? ⟨wz48.heap.size, 1, none⟩ = some (.int .i64 p0) := by rw [hwy]; exact keepA_ (xc1) (Or.inl (by omega))
     replace xf1 : wz54.frozen? ⟨wz48.heap.size, 1, none⟩ = false := by rw [hwy]; simpa using xf1
     replace xc2 : wz54.cell? ⟨wz48.heap.size, 2, none⟩ = some (.int .i64 0) := by rw [hwy]; exact keepA_ (xc2) (Or.inl (by omega))
     replace xf2 : wz54.frozen? ⟨wz48.heap.size, 2, none⟩ = false := by rw [hwy]; simpa using xf2
     replace xc3 : wz54.cell? ⟨wz48.heap.size, 3, none⟩ = some (.int .i64 s) := by rw [hwy]; exact keepA_ (xc3) (Or.inl (by omega))
     replace xf3 : wz54.frozen? ⟨wz48.heap.size, 3, none⟩ = false := by rw [hwy]; simpa using xf3
     replace xc4 : wz54.cell? ⟨wz48.heap.size, 4, none⟩ = some (.string ⟨#[]⟩) := by rw [hwy]; exact keepA_ (xc4) (Or.inl (by omega))
     replace xf4 : wz54.frozen? ⟨wz48.heap.size, 4, none⟩ = false := by rw [hwy]; simpa using xf4
     replace xc5 : wz54.cell? ⟨wz48.heap.size, 5, none⟩ = some (.int .i64 2) := by rw [hwy]; exact keepA_ (xc5) (Or.inl (by omega))
     replace xf5 : wz54.frozen? ⟨wz48.heap.size, 5, none⟩ = false := by rw [hwy]; simpa using xf5
     replace xc6 : wz54.cell? ⟨wz48.heap.size, 6, none⟩ = some (.int .i64 p1) := by rw [hwy]; exact keepA_ (xc6) (Or.inl (by omega))
     replace xf6 : wz54.frozen? ⟨wz48.heap.size, 6, none⟩ = false := by rw [hwy]; simpa using xf6
     replace xc7 : wz54.cell? ⟨wz48.heap.size, 7, none⟩ = some (.int .i64 0) := by rw [hwy]; exact keepA_ (xc7) (Or.inl (by omega))
     replace xf7 : wz54.frozen? ⟨wz48.heap.size, 7, none⟩ = false := by rw [hwy]; simpa using xf7
     replace xc8 : wz54.cell? ⟨wz48.heap.size, 8, none⟩ = some (.int .i64 m.s) := by rw [hwy]; exact keepA_ (xc8) (Or.inl (by omega))
     replace xf8 : wz54.frozen? ⟨wz48.heap.size, 8, none⟩ = false := by rw [hwy]; simpa using xf8
     replace xc9 : wz54.cell? ⟨wz48.heap.size, 9, none⟩ = some (.string ⟨#[]⟩) := by rw [hwy]; exact keepA_ (xc9) (Or.inl (by omega))
     replace xf9 : wz54.frozen? ⟨wz48.heap.size, 9, none⟩ = false := by rw [hwy]; simpa using xf9
     replace xc10 : wz54.cell? ⟨wz48.heap.size, 10, none⟩ = some (.int .i64 2) := by rw [hwy]; exact keepA_ (xc10) (Or.inl (by omega))
     replace xf10 : wz54.frozen? ⟨wz48.heap.size, 10, none⟩ = false := by rw [hwy]; simpa using xf10
     replace xc11 : wz54.cell? ⟨wz48.heap.size, 11, none⟩ = some (.int .i64 p2) := by rw [hwy]; exact keepA_ (xc11) (Or.inl (by omega))
     replace xf11 : wz54.frozen? ⟨wz48.heap.size, 11, none⟩ = false := by rw [hwy]; simpa using xf11
     replace xc12 : wz54.cell? ⟨wz48.heap.size, 12, none⟩ = some (.int .i64 0) := by rw [hwy]; exact keepA_ (xc12) (Or.inl (by omega))
     replace xf12 : wz54.frozen? ⟨wz48.heap.size, 12, none⟩ = false := by rw [hwy]; simpa using xf12
     replace xc13 : wz54.cell? ⟨wz48.heap.size, 13, none⟩ = some (.int .i64 m.k) := by rw [hwy]; exact keepA_ (xc13) (Or.inl (by omega))
     replace xf13 : wz54.frozen? ⟨wz48.heap.size, 13, none⟩ = false := by rw [hwy]; simpa using xf13
     replace xc14 : wz54.cell? ⟨wz48.heap.size, 14, none⟩ = some (.string ⟨#[]⟩) := by rw [hwy]; exact keepA_ (xc14) (Or.inl (by omega))
     replace xf14 : wz54.frozen? ⟨wz48.heap.size, 14, none⟩ = false := by rw [hwy]; simpa using xf14
     replace HF : Hid (Fz wz54 (w.heap.size + 1 + 1)) := Lib.hid (by rw [hwy]; exact (fz_set HF.out _ _))
     replace HM1 := Lib.hid (hasInts_setS HM1.out mc0 (u := .slice am 16 cm))
     rw [← hwy] at HM1
     have md0 : wz54.cell? ⟨wz6.heap.size, 0, none⟩ = some (.slice am 16 cm) := by rw [hwy]; exact World.cell?_setCell_same _ _ _ mc0
     replace mt : Tag wz54 wz6.heap.size 55 := by rw [hwy]; exact (tag_set mt _ _)
     replace xt : Tag wz54 wz48.heap.size 32 := by rw [hwy]; exact (tag_set xt _ _)
     replace mf0 : wz54.frozen? ⟨wz6.heap.size, 0, none⟩ = false := by rw [hwy]; simpa using mf0
     replace HW := Lib.hid (Below.setCell (p := ⟨wz6.heap.size, 0, none⟩) HW.out (by have := HWS.out; dsimp only; omega) (.slice am 16 cm))
     rw [← hwy] at HW
     have hsz : wz54.heap.size = wz52.heap.size := by rw [hwy]; simp
     replace mz : wz6.heap.size < wz54.heap.size := by omega
     replace xz : wz48.heap.size < wz54.heap.size := by omega
     replace LO : _ ≤ wz54.heap.size := Nat.le_trans LO (Nat.le_of_eq hsz.symm)
     clear hsz hwy mc0
     have mc0 := md0
     clear md0
     refine hK.out _ _ ?_ (fun _ => ?_)
     · (try dsimp only); exact ⟨s0, s1, s2, s3, s4, s5, s6, s7, s8, s9, s10, s11, s12, s13, s14, s15, s16⟩
     clear hK K
     (try simp only [Act.put, List.setIfInBounds_toArray, List.set_cons_zero, List.set_cons_succ])
     have hHeld := And.intro s0 (And.intro s1 (And.intro s2 (And.intro s3 (And.intro s4 (And.intro s5 (And.intro s6 (And.intro s7 (And.intro s8 (And.intro s9 (And.intro s10 (And.intro s11 (And.intro s12 (And.intro s13 (And.intro s14 (And.intro s15 (s16))))))))))))))))
     refine tkA 30 (by kernel_rfl) (by assumption) ⟨_, _, ?_, rfl, rfl, ?_, fun _ _ _ h => h, ?_⟩; rotate_left; · intro w hSw; (try dsimp only at hSw); go_simp; (try with_reducible rfl)
     (try simp only [Act.put, List.setIfInBounds_toArray, List.set_cons_zero, List.set_cons_succ])
     refine tkA 31 (by kernel_rfl) (by assumption) ⟨_, _, ?_, rfl, rfl, ?_, fun _ _ _ h => h, ?_⟩; rotate_left; · intro w hSw; (try dsimp only at hSw); go_simp; (try with_reducible rfl)
     (try simp only [Act.put, List.setIfInBounds_toArray, List.set_cons_zero, List.set_cons_succ])
     clear hHeld
     refine wpAnyH_done (by kernel_rfl) ?_ _
     have ff := HF.out.2
     have kk := World.cell?_setCell_same wz54 ⟨w.heap.size + 1 + 1, 0, none⟩ (.slice am 16 cm) s16
     go_wp2
     refine bodyPost_ret (v := .agg #[.slice am 16 cm]) (by simp [results, Try.results36, go_sem, kk]) rfl ?_
     exact ⟨am, cm, rfl, hasInts_setS HM1.out s16, (HB0.out.trans (HW.out.mono (by have := HLO.out; omega))).setCell (by dsimp only; omega) _⟩
   case rest5 =>
    go_simp
    obtain ⟨wz55, hwy⟩ : ∃ W, W = wz3.alloc (.cells #[.slice none 0 0] 55) := ⟨_, rfl⟩
    rw [← hwy]
    have hb : Below wz3.heap.size wz3 wz55 := by rw [hwy]; exact below_new1 _ _
    have mc0 : wz55.cell? ⟨wz3.heap.size, 0, none⟩ = some (.slice none 0 0) := by rw [hwy, World.cell?_alloc_at _ _ _ _ rfl]; rfl
    have mf0 : wz55.frozen? ⟨wz3.heap.size, 0, none⟩ = false := by rw [hwy]; exact World.frozen?_alloc_at _ _ _ _ rfl
    have mt : Tag wz55 wz3.heap.size 55 := by rw [hwy]; exact tag_new _ _ _
    have mz : wz3.heap.size < wz55.heap.size := by rw [hwy]; simp
    have ml := LO
    replace HW := Lib.hid (below_step HW.out hb)
    replace s0 := cel_below hb s0
    replace s1 := cel_below hb s1
    replace s2 := cel_below hb s2
    replace s3 := cel_below hb s3
    replace s4 := cel_below hb s4
    replace s5 := cel_below hb s5
    replace s6 := cel_below hb s6
    replace s7 := cel_below hb s7
    replace s8 := cel_below hb s8
    replace s9 := cel_below hb s9
    replace s10 := cel_below hb s10
    replace s11 := cel_below hb s11
    replace s12 := cel_below hb s12
    replace s13 := cel_below hb s13
    replace s14 := cel_below hb s14
    replace s15 := cel_below hb s15
    replace s16 := cel_below hb s16
    replace HF := Lib.hid (fz_keep HF.out hb)
    replace HN1 := Lib.hid (hasInts_keep HN1.out hb)
    replace LO := Nat.le_trans LO hb.size
    clear hb hwy
    refine hK.out _ _ ?_ (fun _ => ?_)
    · (try dsimp only); exact ⟨s0, s1, s2, s3, s4, s5, s6, s7, s8, s9, s10, s11, s12, s13, s14, s15, s16⟩
    clear hK K
    (try simp only [Act.put, List.setIfInBounds_toArray, List.set_cons_zero, List.set_cons_succ])
    refine wpAnyH_ready (rs := [7]) (by kernel_rfl) (by simp) ?_
    refine AllReadyH.cons (o := ?oi56) ?hi56 (fun K hK => ?rest56) AllReadyH.nil
    (case hi56 => (simp only [List.getElem?_toArray, List.getElem?_cons_succ, List.getElem?_cons_zero]; rfl))
    go_simp
    ((with_reducible refine (HS.out _).mono ?_); rintro e wz57 ⟨rfl, hb⟩)
    replace HW := Lib.hid (below_step HW.out hb)
    replace s0 := cel_below hb s0
    replace s1 := cel_below hb s1
    replace s2 := cel_below hb s2
    replace s3 := cel_below hb s3
    replace s4 := cel_below hb s4
    replace s5 := cel_below hb s5
    replace s6 := cel_below hb s6
    replace s7 := cel_below hb s7
    replace s8 := cel_below hb s8
    replace s9 := cel_below hb s9
    replace s10 := cel_below hb s10
    replace s11 := cel_below hb s11
    replace s12 := cel_below hb s12
    replace s13 := cel_below hb s13
    replace s14 := cel_below hb s14
    replace s15 := cel_below hb s15
    replace s16 := cel_below hb s16
    replace mc0 := cel_below hb mc0
    replace mf0 := fro_below hb mz mf0
    replace mz := lt_below hb mz
    replace mt := tag_below mt hb
    replace HF := Lib.hid (fz_keep HF.out hb)
    replace HN1 := Lib.hid (hasInts_keep HN1.out hb)
    replace LO := Nat.le_trans LO hb.size
    clear hb
    refine hK.out _ _ ?_ (fun _ => ?_)
    · (try dsimp only); exact ⟨s0, s1, s2, s3, s4, s5, s6, s7, s8, s9, s10, s11, s12, s13, s14, s15, s16⟩
    clear hK K
    (try simp only [Act.put, List.setIfInBounds_toArray, List.set_cons_zero, List.set_cons_succ])
    have hHeld := And.intro s0 (And.intro s1 (And.intro s2 (And.intro s3 (And.intro s4 (And.intro s5 (And.intro s6 (And.intro s7 (And.intro s8 (And.intro s9 (And.intro s10 (And.intro s11 (And.intro s12 (And.intro s13 (And.intro s14 (And.intro s15 (s16))))))))))))))))
    refine tkA 9 (by kernel_rfl) (by assumption) ⟨_, _, ?_, rfl, rfl, ?_, fun _ _ _ h => h, ?_⟩; rotate_left; · intro w hSw; (try dsimp only at hSw); go_simp; (try with_reducible rfl)
    (try simp only [Act.put, List.setIfInBounds_toArray, List.set_cons_zero, List.set_cons_succ])
    clear hHeld
    refine wpAnyH_ready (rs := [12]) (by kernel_rfl) (by simp) ?_
    refine AllReadyH.cons (o := ?oi58) ?hi58 (fun K hK => ?rest58) AllReadyH.nil
    (case hi58 => (simp only [List.getElem?_toArray, List.getElem?_cons_succ, List.getElem?_cons_zero]; rfl))
    go_simp
    ((with_reducible refine (HT.out _).mono ?_); rintro e wz59 ⟨rfl, hb⟩)
    replace HW := Lib.hid (below_step HW.out hb)
    replace s0 := cel_below hb s0
    replace s1 := cel_below hb s1
    replace s2 := cel_below hb s2
    replace s3 := cel_below hb s3
    replace s4 := cel_below hb s4
    replace s5 := cel_below hb s5
    replace s6 := cel_below hb s6
    replace s7 := cel_below hb s7
    replace s8 := cel_below hb s8
    replace s9 := cel_below hb s9
    replace s10 := cel_below hb s10
    replace s11 := cel_below hb s11
    replace s12 := cel_below hb s12
    replace s13 := cel_below hb s13
    replace s14 := cel_below hb s14
    replace s15 := cel_below hb s15
    replace s16 := cel_below hb s16
    replace mc0 := cel_below hb mc0
    replace mf0 := fro_below hb mz mf0
    replace mz := lt_below hb mz
    replace mt := tag_below mt hb
    replace HF := Lib.hid (fz_keep HF.out hb)
    replace HN1 := Lib.hid (hasInts_keep HN1.out hb)
    replace LO := Nat.le_trans LO hb.size
    clear hb
    refine hK.out _ _ ?_ (fun _ => ?_)
    · (try dsimp only); exact ⟨s0, s1, s2, s3, s4, s5, s6, s7, s8, s9, s10, s11, s12, s13, s14, s15, s16⟩
    clear hK K
    (try simp only [Act.put, List.setIfInBounds_toArray, List.set_cons_zero, List.set_cons_succ])
    have hHeld := And.intro s0 (And.intro s1 (And.intro s2 (And.intro s3 (And.intro s4 (And.intro s5 (And.intro s6 (And.intro s7 (And.intro s8 (And.intro s9 (And.intro s10 (And.intro s11 (And.intro s12 (And.intro s13 (And.intro s14 (And.intro s15 (s16))))))))))))))))
    refine tkA 15 (by kernel_rfl) (by assumption) ⟨_, _, ?_, rfl, rfl, ?_, fun _ _ _ h => h, ?_⟩; rotate_left; · intro w hSw; (try dsimp only at hSw); go_simp; (try with_reducible rfl)
    (try simp only [Act.put, List.setIfInBounds_toArray, List.set_cons_zero, List.set_cons_succ])
    clear hHeld
    refine wpAnyH_ready (rs := [18]) (by kernel_rfl) (by simp) ?_
    refine AllReadyH.cons (o := ?oi60) ?hi60 (fun K hK => ?rest60) AllReadyH.nil
    (case hi60 => (simp only [List.getElem?_toArray, List.getElem?_cons_succ, List.getElem?_cons_zero]; rfl))
    go_simp
    ((with_reducible refine (HK.out _).mono ?_); rintro e wz61 ⟨rfl, hb⟩)
    replace HW := Lib.hid (below_step HW.out hb)
    replace s0 := cel_below hb s0
    replace s1 := cel_below hb s1
    replace s2 := cel_below hb s2
    replace s3 := cel_below hb s3
    replace s4 := cel_below hb s4
    replace s5 := cel_below hb s5
    replace s6 := cel_below hb s6
    replace s7 := cel_below hb s7
    replace s8 := cel_below hb s8
    replace s9 := cel_below hb s9
    replace s10 := cel_below hb s10
    replace s11 := cel_below hb s11
    replace s12 := cel_below hb s12
    replace s13 := cel_below hb s13
    replace s14 := cel_below hb s14
    replace s15 := cel_below hb s15
    replace s16 := cel_below hb s16
    replace mc0 := cel_below hb mc0
    replace mf0 := fro_below hb mz mf0
    replace mz := lt_below hb mz
    replace mt := tag_below mt hb
    replace HF := Lib.hid (fz_keep HF.out hb)
    replace HN1 := Lib.hid (hasInts_keep HN1.out hb)
    replace LO := Nat.le_trans LO hb.size
    clear hb
    refine hK.out _ _ ?_ (fun _ => ?_)
    · (try dsimp only); exact ⟨s0, s1, s2, s3, s4, s5, s6, s7, s8, s9, s10, s11, s12, s13, s14, s15, s16⟩
    clear hK K
    (try simp only [Act.put, List.setIfInBounds_toArray, List.set_cons_zero, List.set_cons_succ])
    have hHeld := And.intro s0 (And.intro s1 (And.intro s2 (And.intro s3 (And.intro s4 (And.intro s5 (And.intro s6 (And.intro s7 (And.intro s8 (And.intro s9 (And.intro s10 (And.intro s11 (And.intro s12 (And.intro s13 (And.intro s14 (And.intro s15 (s16))))))))))))))))
    refine tkA 21 (by kernel_rfl) (by assumption) ⟨_, _, ?_, rfl, rfl, ?_, fun _ _ _ h => h, ?_⟩; rotate_left; · intro w hSw; (try dsimp only at hSw); go_simp; (try with_reducible rfl)
    (try simp only [Act.put, List.setIfInBounds_toArray, List.set_cons_zero, List.set_cons_succ])
    clear hHeld
    refine wpAnyH_ready (rs := [22]) (by kernel_rfl) (by simp) ?_
    refine AllReadyH.cons (o := ?oi62) ?hi62 (fun K hK => ?rest62) AllReadyH.nil
    (case hi62 => (simp only [List.getElem?_toArray, List.getElem?_cons_succ, List.getElem?_cons_zero]; rfl))
    go_simp
    obtain ⟨wz63, hwy⟩ : ∃ W, W = wz61.alloc (.cells #[.int .i64 2, .int .i64 p0, .int .i64 0, .int .i64 s, .string ⟨#[]⟩, .int .i64 2, .int .i64 p1, .int .i64 0, .int .i64 m.s, .string ⟨#[]⟩, .int .i64 2, .int .i64 p2, .int .i64 0, .int .i64 m.k, .string ⟨#[]⟩] 32) := ⟨_, rfl⟩
    rw [← hwy]
    have hb : Below wz61.heap.size wz61 wz63 := by rw [hwy]; exact below_new1 _ _
    have xc0 : wz63.cell? ⟨wz61.heap.size, 0, none⟩ = some (.int .i64 2) := by rw [hwy, World.cell?_alloc_at _ _ _ _ rfl]; rfl
    have xf0 : wz63.frozen? ⟨wz61.heap.size, 0, none⟩ = false := by rw [hwy]; exact World.frozen?_alloc_at _ _ _ _ rfl
    have xc1 : wz63.cell? ⟨wz61.heap.size, 1, none⟩ = some (.int .i64 p0) := by rw [hwy, World.cell?_alloc_at _ _ _ _ rfl]; rfl
    have xf1 : wz63.frozen? ⟨wz61.heap.size, 1, none⟩ = false := by rw [hwy]; exact World.frozen?_alloc_at _ _ _ _ rfl
    have xc2 : wz63.cell? ⟨wz61.heap.size, 2, none⟩ = some (.int .i64 0) := by rw [hwy, World.cell?_alloc_at _ _ _ _ rfl]; rfl
    have xf2 : wz63.frozen? ⟨wz61.heap.size, 2, none⟩ = false := by rw [hwy]; exact World.frozen?_alloc_at _ _ _ _ rfl
    have xc3 : wz63.cell? ⟨wz61.heap.size, 3, none⟩ = some (.int .i64 s) := by rw [hwy, World.cell?_alloc_at _ _ _ _ rfl]; rfl
    have xf3 : wz63.frozen? ⟨wz61.heap.size, 3, none⟩ = false := by rw [hwy]; exact World.frozen?_alloc_at _ _ _ _ rfl
    have xc4 : wz63.cell? ⟨wz61.heap.size, 4, none⟩ = some (.string ⟨#[]⟩) := by rw [hwy, World.cell?_alloc_at _ _ _ _ rfl]; rfl
    have xf4 : wz63.frozen? ⟨wz61.heap.size, 4, none⟩ = false := by rw [hwy]; exact World.frozen?_alloc_at _ _ _ _ rfl
    have xc5 : wz63.cell? ⟨wz61.heap.size, 5, none⟩ = some (.int .i64 2) := by rw [hwy, World.cell?_alloc_at _ _ _ _ rfl]; rfl
    have xf5 : wz63.frozen? ⟨wz61.heap.size, 5, none⟩ = false := by rw [hwy]; exact World.frozen?_alloc_at _ _ _ _ rfl
    have xc6 : wz63.cell? ⟨wz61.heap.size, 6, none⟩ = some (.int .i64 p1) := by rw [hwy, World.cell?_alloc_at _ _ _ _ rfl]; rfl
    have xf6 : wz63.frozen? ⟨wz61.heap.size, 6, none⟩ = false := by rw [hwy]; exact World.frozen?_alloc_at _ _ _ _ rfl
    have xc7 : wz63.cell? ⟨wz61.heap.size, 7, none⟩ = some (.int .i64 0) := by rw [hwy, World.cell?_alloc_at _ _ _ _ rfl]; rfl
    have xf7 : wz63.frozen? ⟨wz61.heap.size, 7, none⟩ = false := by rw [hwy]; exact World.frozen?_alloc_at _ _ _ _ rfl
    have xc8 : wz63.cell? ⟨wz61.heap.size, 8, none⟩ = some (.int .i64 m.s) := by rw [hwy, World.cell?_alloc_at _ _ _ _ rfl]; rfl
    have xf8 : wz63.frozen? ⟨wz61.heap.size, 8, none⟩ = false := by rw [hwy]; exact World.frozen?_alloc_at _ _ _ _ rfl
    have xc9 : wz63.cell? ⟨wz61.heap.size, 9, none⟩ = some (.string ⟨#[]⟩) := by rw [hwy, World.cell?_alloc_at _ _ _ _ rfl]; rfl
    have xf9 : wz63.frozen? ⟨wz61.heap.size, 9, none⟩ = false := by rw [hwy]; exact World.frozen?_alloc_at _ _ _ _ rfl
    have xc10 : wz63.cell? ⟨wz61.heap.size, 10, none⟩ = some (.int .i64 2) := by rw [hwy, World.cell?_alloc_at _ _ _ _ rfl]; rfl
    have xf10 : wz63.frozen? ⟨wz61.heap.size, 10, none⟩ = false := by rw [hwy]; exact World.frozen?_alloc_at _ _ _ _ rfl
    have xc11 : wz63.cell? ⟨wz61.heap.size, 11, none⟩ = some (.int .i64 p2) := by rw [hwy, World.cell?_alloc_at _ _ _ _ rfl]; rfl
    have xf11 : wz63.frozen? ⟨wz61.heap.size, 11, none⟩ = false := by rw [hwy]; exact World.frozen?_alloc_at _ _ _ _ rfl
    have xc12 : wz63.cell? ⟨wz61.heap.size, 12, none⟩ = some (.int .i64 0) := by rw [hwy, World.cell?_alloc_at _ _ _ _ rfl]; rfl
    have xf12 : wz63.frozen? ⟨wz61.heap.size, 12, none⟩ = false := by rw [hwy]; exact World.frozen?_alloc_at _ _ _ _ rfl
    have xc13 : wz63.cell? ⟨wz61.heap.size, 13, none⟩ = some (.int .i64 m.k) := by rw [hwy, World.cell?_alloc_at _ _ _ _ rfl]; rfl
    have xf13 : wz63.frozen? ⟨wz61.heap.size, 13, none⟩ = false := by rw [hwy]; exact World.frozen?_alloc_at _ _ _ _ rfl
    have xc14 : wz63.cell? ⟨wz61.heap.size, 14, none⟩ = some (.string ⟨#[]⟩) := by rw [hwy, World.cell?_alloc_at _ _ _ _ rfl]; rfl
    have xf14 : wz63.frozen? ⟨wz61.heap.size, 14, none⟩ = false := by rw [hwy]; exact World.frozen?_alloc_at _ _ _ _ rfl
    have xt : Tag wz63 wz61.heap.size 32 := by rw [hwy]; exact tag_new _ _ _
    have xz : wz61.heap.size < wz63.heap.size := by rw [hwy]; simp
    have xl := LO
    replace HW := Lib.hid (below_step HW.out hb)
    replace s0 := cel_below hb s0
    replace s1 := cel_below hb s1
    replace s2 := cel_below hb s2
    replace s3 := cel_below hb s3
    replace s4 := cel_below hb s4
    replace s5 := cel_below hb s5
    replace s6 := cel_below hb s6
    replace s7 := cel_below hb s7
    replace s8 := cel_below hb s8
    replace s9 := cel_below hb s9
    replace s10 := cel_below hb s10
    replace s11 := cel_below hb s11
    replace s12 := cel_below hb s12
    replace s13 := cel_below hb s13
    replace s14 := cel_below hb s14
    replace s15 := cel_below hb s15
    replace s16 := cel_below hb s16
    replace mc0 := cel_below hb mc0
    replace mf0 := fro_below hb mz mf0
    replace mt := tag_below mt hb
    have mxn : wz3.heap.size ≠ wz61.heap.size := by omega
    replace mz := lt_below hb mz
    replace HF := Lib.hid (fz_keep HF.out hb)
    replace HN1 := Lib.hid (hasInts_keep HN1.out hb)
    replace LO := Nat.le_trans LO hb.size
    clear hb hwy
    refine hK.out _ _ ?_ (fun _ => ?_)
    · (try dsimp only); exact ⟨s0, s1, s2, s3, s4, s5, s6, s7, s8, s9, s10, s11, s12, s13, s14, s15, s16⟩
    clear hK K
    (try simp only [Act.put, List.setIfInBounds_toArray, List.set_cons_zero, List.set_cons_succ])
    refine wpAnyH_ready (rs := [23]) (by kernel_rfl) (by simp) ?_
    refine AllReadyH.cons (o := ?oi64) ?hi64 (fun K hK => ?rest64) AllReadyH.nil
    (case hi64 => (simp only [List.getElem?_toArray, List.getElem?_cons_succ, List.getElem?_cons_zero]; rfl))
    go_simp
    ((with_reducible refine (HA.out _ _ _ HN1.out (hasAccs_15 xc0 xc1 xc2 xc3 xc4 xc5 xc6 xc7 xc8 xc9 xc10 xc11 xc12 xc13 xc14)).mono ?_); rintro e wz65 ⟨am, cm, r3, rfl, hq, hb⟩)
    replace HW := Lib.hid (below_step HW.out hb)
    replace s0 := cel_below hb s0
    replace s1 := cel_below hb s1
    replace s2 := cel_below hb s2
    replace s3 := cel_below hb s3
    replace s4 := cel_below hb s4
    replace s5 := cel_below hb s5
    replace s6 := cel_below hb s6
    replace s7 := cel_below hb s7
    replace s8 := cel_below hb s8
    replace s9 := cel_below hb s9
    replace s10 := cel_below hb s10
    replace s11 := cel_below hb s11
    replace s12 := cel_below hb s12
    replace s13 := cel_below hb s13
    replace s14 := cel_below hb s14
    replace s15 := cel_below hb s15
    replace s16 := cel_below hb s16
    replace mc0 := cel_below hb mc0
    replace mf0 := fro_below hb mz mf0
    replace mz := lt_below hb mz
    replace mt := tag_below mt hb
    replace xc0 := cel_below hb xc0
    replace xf0 := fro_below hb xz xf0
    replace xc1 := cel_below hb xc1
    replace xf1 := fro_below hb xz xf1
    replace xc2 := cel_below hb xc2
    replace xf2 := fro_below hb xz xf2
    replace xc3 := cel_below hb xc3
    replace xf3 := fro_below hb xz xf3
    replace xc4 := cel_below hb xc4
    replace xf4 := fro_below hb xz xf4
    replace xc5 := cel_below hb xc5
    replace xf5 := fro_below hb xz xf5
    replace xc6 := cel_below hb xc6
    replace xf6 := fro_below hb xz xf6
    replace xc7 := cel_below hb xc7
    replace xf7 := fro_below hb xz xf7
    replace xc8 := cel_below hb xc8
    replace xf8 := fro_below hb xz xf8
    replace xc9 := cel_below hb xc9
    replace xf9 := fro_below hb xz xf9
    replace xc10 := cel_below hb xc10
    replace xf10 := fro_below hb xz xf10
    replace xc11 := cel_below hb xc11
    replace xf11 := fro_below hb xz xf11
    replace xc12 := cel_below hb xc12
    replace xf12 := fro_below hb xz xf12
    replace xc13 := cel_below hb xc13
    replace xf13 := fro_below hb xz xf13
    replace xc14 := cel_below hb xc14
    replace xf14 := fro_below hb xz xf14
    replace xz := lt_below hb xz
    replace xt := tag_below xt hb
    replace HF := Lib.hid (fz_keep HF.out hb)
    replace HN1 := Lib.hid (hasInts_keep HN1.out hb)
    have HM1 := Lib.hid hq
    clear hq HN1
    replace LO := Nat.le_trans LO hb.size
    clear hb
    refine hK.out _ _ ?_ (fun _ => ?_)
    · (try dsimp only); exact ⟨s0, s1, s2, s3, s4, s5, s6, s7, s8, s9, s10, s11, s12, s13, s14, s15, s16⟩
    clear hK K
    (try simp only [Act.put, List.setIfInBounds_toArray, List.set_cons_zero, List.set_cons_succ])
    have hHeld := And.intro s0 (And.intro s1 (And.intro s2 (And.intro s3 (And.intro s4 (And.intro s5 (And.intro s6 (And.intro s7 (And.intro s8 (And.intro s9 (And.intro s10 (And.intro s11 (And.intro s12 (And.intro s13 (And.intro s14 (And.intro s15 (s16))))))))))))))))
    refine tkA 24 (by kernel_rfl) (by assumption) ⟨_, _, ?_, rfl, rfl, ?_, fun _ _ _ h => h, ?_⟩; rotate_left; · intro w hSw; (try dsimp only at hSw); go_simp; (try with_reducible rfl)
    (try simp only [Act.put, List.setIfInBounds_toArray, List.set_cons_zero, List.set_cons_succ])
    refine tkA 25 (by kernel_rfl) (by assumption) ⟨_, _, ?_, rfl, rfl, ?_, fun _ _ _ h => h, ?_⟩; rotate_left; · intro w hSw; (try dsimp only at hSw); go_simp; (try with_reducible rfl)
    (try simp only [Act.put, List.setIfInBounds_toArray, List.set_cons_zero, List.set_cons_succ])
    refine tkA 26 (by kernel_rfl) (by assumption) ⟨_, _, ?_, rfl, rfl, ?_, fun _ _ _ h => h, ?_⟩; rotate_left; · intro w hSw; (try dsimp only at hSw); go_simp; (try with_reducible rfl)
    (try simp only [Act.put, List.setIfInBounds_toArray, List.set_cons_zero, List.set_cons_succ])
    refine tkA 27 (by kernel_rfl) (by assumption) ⟨_, _, ?_, rfl, rfl, ?_, fun _ _ _ h => h, ?_⟩; rotate_left; · intro w hSw; (try dsimp only at hSw); go_simp; (try with_reducible rfl)
    (try simp only [Act.put, List.setIfInBounds_toArray, List.set_cons_zero, List.set_cons_succ])
    clear hHeld
    refine wpAnyH_ready (rs := [29]) (by kernel_rfl) (by simp) ?_
    refine AllReadyH.cons (o := ?oi66) ?hi66 (fun K hK => ?rest66) AllReadyH.nil
    (case hi66 => (simp only [List.getElem?_toArray, List.getElem?_cons_succ, List.getElem?_cons_zero]; rfl))
    go_simp
    obtain ⟨wz67, hwy⟩ : ∃ W, W = (wz65.setCell ⟨wz3.heap.size, 0, none⟩ (.slice am 16 cm)) := ⟨_, rfl⟩
    rw [← hwy]
    have kp : ∀ {b' o' : Nat} {u : Value}, wz65.cell? ⟨b', o', none⟩ = some u → wz3.heap.size ≠ b' → wz67.cell? ⟨b', o', none⟩ = some u := fun h hn => by rw [hwy]; exact keepA_ (h) (Or.inl hn)
    replace s0 := kp s0 (by omega)
    replace s1 := kp s1 (by omega)
    replace s2 := kp s2 (by omega)
    replace s3 := kp s3 (by omega)
    replace s4 := kp s4 (by omega)
    replace s5 := kp s5 (by omega)
    replace s6 := kp s6 (by omega)
    replace s7 := kp s7 (by omega)
    replace s8 := kp s8 (by omega)
    replace s9 := kp s9 (by omega)
    replace s10 := kp s10 (by omega)
    replace s11 := kp s11 (by omega)
    replace s12 := kp s12 (by omega)
    replace s13 := kp s13 (by omega)
    replace s14 := kp s14 (by omega)
    replace s15 := kp s15 (by omega)
    replace s16 := kp s16 (by omega)
    clear kp
    replace xc0 : wz67.cell? ⟨wz61.heap.size, 0, none⟩ = some (.int .i64 2) := by rw [hwy]; exact keepA_ (xc0) (Or.inl (by omega))
    replace xf0 : wz67.frozen? ⟨wz61.heap.size, 0, none⟩ = false := by rw [hwy]; simpa using xf0
    replace xc1 : wz67.cell? ⟨wz61.heap.size, 1, none⟩ = some (.int .i64 p0) := by rw [hwy]; exact keepA_ (xc1) (Or.inl (by omega))
    replace xf1 : wz67.frozen? ⟨wz61.heap.size, 1, none⟩ = false := by rw [hwy]; simpa using xf1
    replace xc2 : wz67.cell? ⟨wz61.heap.size, 2, none⟩ = some (.int .i64 0) := by rw [hwy]; exact keepA_ (xc2) (Or.inl (by omega))
    replace xf2 : wz67.frozen? ⟨wz61.heap.size, 2, none⟩ = false := by rw [hwy]; simpa using xf2
    replace xc3 : wz67.cell? ⟨wz61.heap.size, 3, none⟩ = some (.int .i64 s) := by rw [hwy]; exact keepA_ (xc3) (Or.inl (by omega))
    replace xf3 : wz67.frozen? ⟨wz61.heap.size, 3, none⟩ = false := by rw [hwy]; simpa using xf3
    replace xc4 : wz67.cell? ⟨wz61.heap.size, 4, none⟩ = some (.string ⟨#[]⟩) := by rw [hwy]; exact keepA_ (xc4) (Or.inl (by omega))
    replace xf4 : wz67.frozen? ⟨wz61.heap.size, 4, none⟩ = false := by rw [hwy]; simpa using xf4
    replace xc5 : wz67.cell? ⟨wz61.heap.size, 5, none⟩ = some (.int .i64 2) := by rw [hwy]; exact keepA_ (xc5) (Or.inl (by omega))
    replace xf5 : wz67.frozen? ⟨wz61.heap.size, 5, none⟩ = false := by rw [hwy]; simpa using xf5
    replace xc6 : wz67.cell? ⟨wz61.heap.size, 6, none⟩ = some (.int .i64 p1) := by rw [hwy]; exact keepA_ (xc6) (Or.inl (by omega))
    replace xf6 : wz67.frozen? ⟨wz61.heap.size, 6, none⟩ = false := by rw [hwy]; simpa using xf6
    replace xc7 : wz67.cell? ⟨wz61.heap.size, 7, none⟩ = some (.int .i64 0) := by rw [hwy]; exact keepA_ (xc7) (Or.inl (by omega))
    replace xf7 : wz67.frozen? ⟨wz61.heap.size, 7, none⟩ = false := by rw [hwy]; simpa using xf7
    replace xc8 : wz67.cell? ⟨wz61.heap.size, 8, none⟩ = some (.int .i64 m.s) := by rw [hwy]; exact keepA_ (xc8) (Or.inl (by omega))
    replace xf8 : wz67.frozen? ⟨wz61.heap.size, 8, none⟩ = false := by rw [hwy]; simpa using xf8
    replace xc9 : wz67.cell? ⟨wz61.heap.size, 9, none⟩ = some (.string ⟨#[]⟩) := by rw [hwy]; exact keepA_ (xc9) (Or.inl (by omega))
    replace xf9 : wz67.frozen? ⟨wz61.heap.size, 9, none⟩ = false := by rw [hwy]; simpa using xf9
    replace xc10 : wz67.cell? ⟨wz61.heap.size, 10, none⟩ = some (.int .i64 2) := by rw [hwy]; exact keepA_ (xc10) (Or.inl (by omega))
    replace xf10 : wz67.frozen? ⟨wz61.heap.size, 10, none⟩ = false := by rw [hwy]; simpa using xf10
    replace xc11 : wz67.cell? ⟨wz61.heap.size, 11, none⟩ = some (.int .i64 p2) := by rw [hwy]; exact keepA_ (xc11) (Or.inl (by omega))
    replace xf11 : wz67.frozen? ⟨wz61.heap.size, 11, none⟩ = false := by rw [hwy]; simpa using xf11
    replace xc12 : wz67.cell? ⟨wz61.heap.size, 12, none⟩ = some (.int .i64 0) := by rw [hwy]; exact keepA_ (xc12) (Or.inl (by omega))
    replace xf12 : wz67.frozen? ⟨wz61.heap.size, 12, none⟩ = false := by rw [hwy]; simpa using xf12
    replace xc13 : wz67.cell? ⟨wz61.heap.size, 13, none⟩ = some (.int .i64 m.k) := by rw [hwy]; exact keepA_ (xc13) (Or.inl (by omega))
    replace xf13 : wz67.frozen? ⟨wz61.heap.size, 13, none⟩ = false := by rw [hwy]; simpa using xf13
    replace xc14 : wz67.cell? ⟨wz61.heap.size, 14, none⟩ = some (.string ⟨#[]⟩) := by rw [hwy]; exact keepA_ (xc14) (Or.inl (by omega))
    replace xf14 : wz67.frozen? ⟨wz61.heap.size, 14, none⟩ = false := by rw [hwy]; simpa using xf14
    replace HF : Hid (Fz wz67 (w.heap.size + 1 + 1)) := Lib.hid (by rw [hwy]; exact (fz_set HF.out _ _))
    replace HM1 := Lib.hid (hasInts_setS HM1.out mc0 (u := .slice am 16 cm))
    rw [← hwy] at HM1
    have md0 : wz67.cell? ⟨wz3.heap.size, 0, none⟩ = some (.slice am 16 cm) := by rw [hwy]; exact World.cell?_setCell_same _ _ _ mc0
    replace mt : Tag wz67 wz3.heap.size 55 := by rw [hwy]; exact (tag_set mt _ _)
    replace xt : Tag wz67 wz61.heap.size 32 := by rw [hwy]; exact (tag_set xt _ _)
    replace mf0 : wz67.frozen? ⟨wz3.heap.size, 0, none⟩ = false := by rw [hwy]; simpa using mf0
    replace HW := Lib.hid (Below.setCell (p := ⟨wz3.heap.size, 0, none⟩) HW.out (by have := HWS.out; dsimp only; omega) (.slice am 16 cm))
    rw [← hwy] at HW
    have hsz : wz67.heap.size = wz65.heap.size := by rw [hwy]; simp
    replace mz : wz3.heap.size < wz67.heap.size := by omega
    replace xz : wz61.heap.size < wz67.heap.size := by omega
    replace LO : _ ≤ wz67.heap.size := Nat.le_trans LO (Nat.le_of_eq hsz.symm)
    clear hsz hwy mc0
    have mc0 := md0
    clear md0
    refine hK.out _ _ ?_ (fun _ => ?_)
    · (try dsimp only); exact ⟨s0, s1, s2, s3, s4, s5, s6, s7, s8, s9, s10, s11, s12, s13, s14, s15, s16⟩
    clear hK K
    (try simp only [Act.put, List.setIfInBounds_toArray, List.set_cons_zero, List.set_cons_succ])
    have hHeld := And.intro s0 (And.intro s1 (And.intro s2 (And.intro s3 (And.intro s4 (And.intro s5 (And.intro s6 (And.intro s7 (And.intro s8 (And.intro s9 (And.intro s10 (And.intro s11 (And.intro s12 (And.intro s13 (And.intro s14 (And.intro s15 (s16))))))))))))))))
    refine tkA 30 (by kernel_rfl) (by assumption) ⟨_, _, ?_, rfl, rfl, ?_, fun _ _ _ h => h, ?_⟩; rotate_left; · intro w hSw; (try dsimp only at hSw); go_simp; (try with_reducible rfl)
    (try simp only [Act.put, List.setIfInBounds_toArray, List.set_cons_zero, List.set_cons_succ])
    refine tkA 31 (by kernel_rfl) (by assumption) ⟨_, _, ?_, rfl, rfl, ?_, fun _ _ _ h => h, ?_⟩; rotate_left; · intro w hSw; (try dsimp only at hSw); go_simp; (try with_reducible rfl)
    (try simp only [Act.put, List.setIfInBounds_toArray, List.set_cons_zero, List.set_cons_succ])
    clear hHeld
    refine wpAnyH_done (by kernel_rfl) ?_ _
    have ff := HF.out.2
    have kk := World.cell?_setCell_same wz67 ⟨w.heap.size + 1 + 1, 0, none⟩ (.slice am 16 cm) s16
    go_wp2
    refine bodyPost_ret (v := .agg #[.slice am 16 cm]) (by simp [results, Try.results36, go_sem, kk]) rfl ?_
    exact ⟨am, cm, rfl, hasInts_setS HM1.out s16, (HB0.out.trans (HW.out.mono (by have := HLO.out; omega))).setCell (by dsimp only; omega) _⟩
  case rest2 =>
   go_simp
   obtain ⟨wz68, hwy⟩ : ∃ W, W = wy0.alloc (.cells #[.slice none 0 0] 55) := ⟨_, rfl⟩
   rw [← hwy]
   have hb : Below wy0.heap.size wy0 wz68 := by rw [hwy]; exact below_new1 _ _
   have mc0 : wz68.cell? ⟨wy0.heap.size, 0, none⟩ = some (.slice none 0 0) := by rw [hwy, World.cell?_alloc_at _ _ _ _ rfl]; rfl
   have mf0 : wz68.frozen? ⟨wy0.heap.size, 0, none⟩ = false := by rw [hwy]; exact World.frozen?_alloc_at _ _ _ _ rfl
   have mt : Tag wz68 wy0.heap.size 55 := by rw [hwy]; exact tag_new _ _ _
   have mz : wy0.heap.size < wz68.heap.size := by rw [hwy]; simp
   have ml := LO
   replace HW := Lib.hid (below_step HW.out hb)
   replace s0 := cel_below hb s0
   replace s1 := cel_below hb s1
   replace s2 := cel_below hb s2
   replace s3 := cel_below hb s3
   replace s4 := cel_below hb s4
   replace s5 := cel_below hb s5
   replace s6 := cel_below hb s6
   replace s7 := cel_below hb s7
   replace s8 := cel_below hb s8
   replace s9 := cel_below hb s9
   replace s10 := cel_below hb s10
   replace s11 := cel_below hb s11
   replace s12 := cel_below hb s12
   replace s13 := cel_below hb s13
   replace s14 := cel_below hb s14
   replace s15 := cel_below hb s15
   replace s16 := cel_below hb s16
   replace HF := Lib.hid (fz_keep HF.out hb)
   replace LO := Nat.le_trans LO hb.size
   clear hb hwy
   refine hK.out _ _ ?_ (fun _ => ?_)
   · (try dsimp only); exact ⟨s0, s1, s2, s3, s4, s5, s6, s7, s8, s9, s10, s11, s12, s13, s14, s15, s16⟩
   clear hK K
   (try simp only [Act.put, List.setIfInBounds_toArray, List.set_cons_zero, List.set_cons_succ])
   refine wpAnyH_ready (rs := [4]) (by kernel_rfl) (by simp) ?_
   refine AllReadyH.cons (o := ?oi69) ?hi69 (fun K hK => ?rest69) AllReadyH.nil
   (case hi69 => (simp only [List.getElem?_toArray, List.getElem?_cons_succ, List.getElem?_cons_zero]; rfl))
   go_simp
   ((with_reducible refine (HN.out _).mono ?_); rintro e wz70 ⟨g1, rfl, hq, hg1, hb⟩)
   replace HW := Lib.hid (below_step HW.out hb)
   replace s0 := cel_below hb s0
   replace s1 := cel_below hb s1
   replace s2 := cel_below hb s2
   replace s3 := cel_below hb s3
   replace s4 := cel_below hb s4
   replace s5 := cel_below hb s5
   replace s6 := cel_below hb s6
   replace s7 := cel_below hb s7
   replace s8 := cel_below hb s8
   replace s9 := cel_below hb s9
   replace s10 := cel_below hb s10
   replace s11 := cel_below hb s11
   replace s12 := cel_below hb s12
   replace s13 := cel_below hb s13
   replace s14 := cel_below hb s14
   replace s15 := cel_below hb s15
   replace s16 := cel_below hb s16
   replace mc0 := cel_below hb mc0
   replace mf0 := fro_below hb mz mf0
   replace mz := lt_below hb mz
   replace mt := tag_below mt hb
   replace HF := Lib.hid (fz_keep HF.out hb)
   have HN1 := Lib.hid hq
   clear hq hg1
   replace LO := Nat.le_trans LO hb.size
   clear hb
   refine hK.out _ _ ?_ (fun _ => ?_)
   · (try dsimp only); exact ⟨s0, s1, s2, s3, s4, s5, s6, s7, s8, s9, s10, s11, s12, s13, s14, s15, s16⟩
   clear hK K
   (try simp only [Act.put, List.setIfInBounds_toArray, List.set_cons_zero, List.set_cons_succ])
   refine wpAnyH_ready (rs := [7]) (by kernel_rfl) (by simp) ?_
   refine AllReadyH.cons (o := ?oi71) ?hi71 (fun K hK => ?rest71) AllReadyH.nil
   (case hi71 => (simp only [List.getElem?_toArray, List.getElem?_cons_succ, List.getElem?_cons_zero]; rfl))
   go_simp
   ((with_reducible refine (HS.out _).mono ?_); rintro e wz72 ⟨rfl, hb⟩)
   replace HW := Lib.hid (below_step HW.out hb)
   replace s0 := cel_below hb s0
   replace s1 := cel_below hb s1
   replace s2 := cel_below hb s2
   replace s3 := cel_below hb s3
   replace s4 := cel_below hb s4
   replace s5 := cel_below hb s5
   replace s6 := cel_below hb s6
   replace s7 := cel_below hb s7
   replace s8 := cel_below hb s8
   replace s9 := cel_below hb s9
   replace s10 := cel_below hb s10
   replace s11 := cel_below hb s11
   replace s12 := cel_below hb s12
   replace s13 := cel_below hb s13
   replace s14 := cel_below hb s14
   replace s15 := cel_below hb s15
   replace s16 := cel_below hb s16
   replace mc0 := cel_below hb mc0
   replace mf0 := fro_below hb mz mf0
   replace mz := lt_below hb mz
   replace mt := tag_below mt hb
   replace HF := Lib.hid (fz_keep HF.out hb)
   replace HN1 := Lib.hid (hasInts_keep HN1.out hb)
   replace LO := Nat.le_trans LO hb.size
   clear hb
   refine hK.out _ _ ?_ (fun _ => ?_)
   · (try dsimp only); exact ⟨s0, s1, s2, s3, s4, s5, s6, s7, s8, s9, s10, s11, s12, s13, s14, s15, s16⟩
   clear hK K
   (try simp only [Act.put, List.setIfInBounds_toArray, List.set_cons_zero, List.set_cons_succ])
   have hHeld := And.intro s0 (And.intro s1 (And.intro s2 (And.intro s3 (And.intro s4 (And.intro s5 (And.intro s6 (And.intro s7 (And.intro s8 (And.intro s9 (And.intro s10 (And.intro s11 (And.intro s12 (And.intro s13 (And.intro s14 (And.intro s15 (s16))))))))))))))))
   refine tkA 9 (by kernel_rfl) (by assumption) ⟨_, _, ?_, rfl, rfl, ?_, fun _ _ _ h => h, ?_⟩; rotate_left; · intro w hSw; (try dsimp only at hSw); go_simp; (try with_reducible rfl)
   (try simp only [Act.put, List.setIfInBounds_toArray, List.set_cons_zero, List.set_cons_succ])
   clear hHeld
   refine wpAnyH_ready (rs := [12]) (by kernel_rfl) (by simp) ?_
   refine AllReadyH.cons (o := ?oi73) ?hi73 (fun K hK => ?rest73) AllReadyH.nil
   (case hi73 => (simp only [List.getElem?_toArray, List.getElem?_cons_succ, List.getElem?_cons_zero]; rfl))
   go_simp
   ((with_reducible refine (HT.out _).mono ?_); rintro e wz74 ⟨rfl, hb⟩)
   replace HW := Lib.hid (below_step HW.out hb)
   replace s0 := cel_below hb s0
   replace s1 := cel_below hb s1
   replace s2 := cel_below hb s2
   replace s3 := cel_below hb s3
   replace s4 := cel_below hb s4
   replace s5 := cel_below hb s5
   replace s6 := cel_below hb s6
   replace s7 := cel_below hb s7
   replace s8 := cel_below hb s8
   replace s9 := cel_below hb s9
   replace s10 := cel_below hb s10
   replace s11 := cel_below hb s11
   replace s12 := cel_below hb s12
   replace s13 := cel_below hb s13
   replace s14 := cel_below hb s14
   replace s15 := cel_below hb s15
   replace s16 := cel_below hb s16
   replace mc0 := cel_below hb mc0
   replace mf0 := fro_below hb mz mf0
   replace mz := lt_below hb mz
   replace mt := tag_below mt hb
   replace HF := Lib.hid (fz_keep HF.out hb)
   replace HN1 := Lib.hid (hasInts_keep HN1.out hb)
   replace LO := Nat.le_trans LO hb.size
   clear hb
   refine hK.out _ _ ?_ (fun _ => ?_)
   · (try dsimp only); exact ⟨s0, s1, s2, s3, s4, s5, s6, s7, s8, s9, s10, s11, s12, s13, s14, s15, s16⟩
   clear hK K
   (try simp only [Act.put, List.setIfInBounds_toArray, List.set_cons_zero, List.set_cons_succ])
   have hHeld := And.intro s0 (And.intro s1 (And.intro s2 (And.intro s3 (And.intro s4 (And.intro s5 (And.intro s6 (And.intro s7 (And.intro s8 (And.intro s9 (And.intro s10 (And.intro s11 (And.intro s12 (And.intro s13 (And.intro s14 (And.intro s15 (s16))))))))))))))))
   refine tkA 15 (by kernel_rfl) (by assumption) ⟨_, _, ?_, rfl, rfl, ?_, fun _ _ _ h => h, ?_⟩; rotate_left; · intro w hSw; (try dsimp only at hSw); go_simp; (try with_reducible rfl)
   (try simp only [Act.put, List.setIfInBounds_toArray, List.set_cons_zero, List.set_cons_succ])
   clear hHeld
   refine wpAnyH_ready (rs := [18]) (by kernel_rfl) (by simp) ?_
   refine AllReadyH.cons (o := ?oi75) ?hi75 (fun K hK => ?rest75) AllReadyH.nil
   (case hi75 => (simp only [List.getElem?_toArray, List.getElem?_cons_succ, List.getElem?_cons_zero]; rfl))
   go_simp
   ((with_reducible refine (HK.out _).mono ?_); rintro e wz76 ⟨rfl, hb⟩)
   replace HW := Lib.hid (below_step HW.out hb)
   replace s0 := cel_below hb s0
   replace s1 := cel_below hb s1
   replace s2 := cel_below hb s2
   replace s3 := cel_below hb s3
   replace s4 := cel_below hb s4
   replace s5 := cel_below hb s5
   replace s6 := cel_below hb s6
   replace s7 := cel_below hb s7
   replace s8 := cel_below hb s8
   replace s9 := cel_below hb s9
   replace s10 := cel_below hb s10
   replace s11 := cel_below hb s11
   replace s12 := cel_below hb s12
   replace s13 := cel_below hb s13
   replace s14 := cel_below hb s14
   replace s15 := cel_below hb s15
   replace s16 := cel_below hb s16
   replace mc0 := cel_below hb mc0
   replace mf0 := fro_below hb mz mf0
   replace mz := lt_below hb mz
   replace mt := tag_below mt hb
   replace HF := Lib.hid (fz_keep HF.out hb)
   replace HN1 := Lib.hid (hasInts_keep HN1.out hb)
   replace LO := Nat.le_trans LO hb.size
   clear hb
   refine hK.out _ _ ?_ (fun _ => ?_)
   · (try dsimp only); exact ⟨s0, s1, s2, s3, s4, s5, s6, s7, s8, s9, s10, s11, s12, s13, s14, s15, s16⟩
   clear hK K
   (try simp only [Act.put, List.setIfInBounds_toArray, List.set_cons_zero, List.set_cons_succ])
   have hHeld := And.intro s0 (And.intro s1 (And.intro s2 (And.intro s3 (And.intro s4 (And.intro s5 (And.intro s6 (And.intro s7 (And.intro s8 (And.intro s9 (And.intro s10 (And.intro s11 (And.intro s12 (And.intro s13 (And.intro s14 (And.intro s15 (s16))))))))))))))))
   refine tkA 21 (by kernel_rfl) (by assumption) ⟨_, _, ?_, rfl, rfl, ?_, fun _ _ _ h => h, ?_⟩; rotate_left; · intro w hSw; (try dsimp only at hSw); go_simp; (try with_reducible rfl)
   (try simp only [Act.put, List.setIfInBounds_toArray, List.set_cons_zero, List.set_cons_succ])
   clear hHeld
   refine wpAnyH_ready (rs := [22]) (by kernel_rfl) (by simp) ?_
   refine AllReadyH.cons (o := ?oi77) ?hi77 (fun K hK => ?rest77) AllReadyH.nil
   (case hi77 => (simp only [List.getElem?_toArray, List.getElem?_cons_succ, List.getElem?_cons_zero]; rfl))
   go_simp
   obtain ⟨wz78, hwy⟩ : ∃ W, W = wz76.alloc (.cells #[.int .i64 2, .int .i64 p0, .int .i64 0, .int .i64 s, .string ⟨#[]⟩, .int .i64 2, .int .i64 p1, .int .i64 0, .int .i64 m.s, .string ⟨#[]⟩, .int .i64 2, .int .i64 p2, .int .i64 0, .int .i64 m.k, .string ⟨#[]⟩] 32) := ⟨_, rfl⟩
   rw [← hwy]
   have hb : Below wz76.heap.size wz76 wz78 := by rw [hwy]; exact below_new1 _ _
   have xc0 : wz78.cell? ⟨wz76.heap.size, 0, none⟩ = some (.int .i64 2) := by rw [hwy, World.cell?_alloc_at _ _ _ _ rfl]; rfl
   have xf0 : wz78.frozen? ⟨wz76.heap.size, 0, none⟩ = false := by rw [hwy]; exact World.frozen?_alloc_at _ _ _ _ rfl
   have xc1 : wz78.cell? ⟨wz76.heap.size, 1, none⟩ = some (.int .i64 p0) := by rw [hwy, World.cell?_alloc_at _ _ _ _ rfl]; rfl
   have xf1 : wz78.frozen? ⟨wz76.heap.size, 1, none⟩ = false := by rw [hwy]; exact World.frozen?_alloc_at _ _ _ _ rfl
   have xc2 : wz78.cell? ⟨wz76.heap.size, 2, none⟩ = some (.int .i64 0) := by rw [hwy, World.cell?_alloc_at _ _ _ _ rfl]; rfl
   have xf2 : wz78.frozen? ⟨wz76.heap.size, 2, none⟩ = false := by rw [hwy]; exact World.frozen?_alloc_at _ _ _ _ rfl
   have xc3 : wz78.cell? ⟨wz76.heap.size, 3, none⟩ = some (.int .i64 s) := by rw [hwy, World.cell?_alloc_at _ _ _ _ rfl]; rfl
   have xf3 : wz78.frozen? ⟨wz76.heap.size, 3, none⟩ = false := by rw [hwy]; exact World.frozen?_alloc_at _ _ _ _ rfl
   have xc4 : wz78.cell? ⟨wz76.heap.size, 4, none⟩ = some (.string ⟨#[]⟩) := by rw [hwy, World.cell?_alloc_at _ _ _ _ rfl]; rfl
   have xf4 : wz78.frozen? ⟨wz76.heap.size, 4, none⟩ = false := by rw [hwy]; exact World.frozen?_alloc_at _ _ _ _ rfl
   have xc5 : wz78.cell? ⟨wz76.heap.size, 5, none⟩ = some (.int .i64 2) := by rw [hwy, World.cell?_alloc_at _ _ _ _ rfl]; rfl
   have xf5 : wz78.frozen? ⟨wz76.heap.size, 5, none⟩ = false := by rw [hwy]; exact World.frozen?_alloc_at _ _ _ _ rfl
   have xc6 : wz78.cell? ⟨wz76.heap.size, 6, none⟩ = some (.int .i64 p1) := by rw [hwy, World.cell?_alloc_at _ _ _ _ rfl]; rfl
   have xf6 : wz78.frozen? ⟨wz76.heap.size, 6, none⟩ = false := by rw [hwy]; exact World.frozen?_alloc_at _ _ _ _ rfl
   have xc7 : wz78.cell? ⟨wz76.heap.size, 7, none⟩ = some (.int .i64 0) := by rw [hwy, World.cell?_alloc_at _ _ _ _ rfl]; rfl
   have xf7 : wz78.frozen? ⟨wz76.heap.size, 7, none⟩ = false := by rw [hwy]; exact World.frozen?_alloc_at _ _ _ _ rfl
   have xc8 : wz78.cell? ⟨wz76.heap.size, 8, none⟩ = some (.int .i64 m.s) := by rw [hwy, World.cell?_alloc_at _ _ _ _ rfl]; rfl
   have xf8 : wz78.frozen? ⟨wz76.heap.size, 8, none⟩ = false := by rw [hwy]; exact World.frozen?_alloc_at _ _ _ _ rfl
   have xc9 : wz78.cell? ⟨wz76.heap.size, 9, none⟩ = some (.string ⟨#[]⟩) := by rw [hwy, World.cell?_alloc_at _ _ _ _ rfl]; rfl
   have xf9 : wz78.frozen? ⟨wz76.heap.size, 9, none⟩ = false := by rw [hwy]; exact World.frozen?_alloc_at _ _ _ _ rfl
   have xc10 : wz78.cell? ⟨wz76.heap.size, 10, none⟩ = some (.int .i64 2) := by rw [hwy, World.cell?_alloc_at _ _ _ _ rfl]; rfl
   have xf10 : wz78.frozen? ⟨wz76.heap.size, 10, none⟩ = false := by rw [hwy]; exact World.frozen?_alloc_at _ _ _ _ rfl
   have xc11 : wz78.cell? ⟨wz76.heap.size, 11, none⟩ = some (.int .i64 p2) := by rw [hwy, World.cell?_alloc_at _ _ _ _ rfl]; rfl
   have xf11 : wz78.frozen? ⟨wz76.heap.size, 11, none⟩ = false := by rw [hwy]; exact World.frozen?_alloc_at _ _ _ _ rfl
   have xc12 : wz78.cell? ⟨wz76.heap.size, 12, none⟩ = some (.int .i64 0) := by rw [hwy, World.cell?_alloc_at _ _ _ _ rfl]; rfl
   have xf12 : wz78.frozen? ⟨wz76.heap.size, 12, none⟩ = false := by rw [hwy]; exact World.frozen?_alloc_at _ _ _ _ rfl
   have xc13 : wz78.cell? ⟨wz76.heap.size, 13, none⟩ = some (.int .i64 m.k) := by rw [hwy, World.cell?_alloc_at _ _ _ _ rfl]; rfl
   have xf13 : wz78.frozen? ⟨wz76.heap.size, 13, none⟩ = false := by rw [hwy]; exact World.frozen?_alloc_at _ _ _ _ rfl
   have xc14 : wz78.cell? ⟨wz76.heap.size, 14, none⟩ = some (.string ⟨#[]⟩) := by rw [hwy, World.cell?_alloc_at _ _ _ _ rfl]; rfl
   have xf14 : wz78.frozen? ⟨wz76.heap.size, 14, none⟩ = false := by rw [hwy]; exact World.frozen?_alloc_at _ _ _ _ rfl
   have xt : Tag wz78 wz76.heap.size 32 := by rw [hwy]; exact tag_new _ _ _
   have xz : wz76.heap.size < wz78.heap.size := by rw [hwy]; simp
   have xl := LO
   replace HW := Lib.hid (below_step HW.out hb)
   replace s0 := cel_below hb s0
   replace s1 := cel_below hb s1
   replace s2 := cel_below hb s2
   replace s3 := cel_below hb s3
   replace s4 := cel_below hb s4
   replace s5 := cel_below hb s5
   replace s6 := cel_below hb s6
   replace s7 := cel_below hb s7
   replace s8 := cel_below hb s8
   replace s9 := cel_below hb s9
   replace s10 := cel_below hb s10
   replace s11 := cel_below hb s11
   replace s12 := cel_below hb s12
   replace s13 := cel_below hb s13
   replace s14 := cel_below hb s14
   replace s15 := cel_below hb s15
   replace s16 := cel_below hb s16
   replace mc0 := cel_below hb mc0
   replace mf0 := fro_below hb mz mf0
   replace mt := tag_below mt hb
   have mxn : wy0.heap.size ≠ wz76.heap.size := by omega
   replace mz := lt_below hb mz
   replace HF := Lib.hid (fz_keep HF.out hb)
   replace HN1 := Lib.hid (hasInts_keep HN1.out hb)
   replace LO := Nat.le_trans LO hb.size
   clear hb hwy
   refine hK.out _ _ ?_ (fun _ => ?_)
   · (try dsimp only); exact ⟨s0, s1, s2, s3, s4, s5, s6, s7, s8, s9, s10, s11, s12, s13, s14, s15, s16⟩
   clear hK K
   (try simp only [Act.put, List.setIfInBounds_toArray, List.set_cons_zero, List.set_cons_succ])
   refine wpAnyH_ready (rs := [23]) (by kernel_rfl) (by simp) ?_
   refine AllReadyH.cons (o := ?oi79) ?hi79 (fun K hK => ?rest79) AllReadyH.nil
   (case hi79 => (simp only [List.getElem?_toArray, List.getElem?_cons_succ, List.getElem?_cons_zero]; rfl))
   go_simp
   ((with_reducible refine (HA.out _ _ _ HN1.out (hasAccs_15 xc0 xc1 xc2 xc3 xc4 xc5 xc6 xc7 xc8 xc9 xc10 xc11 xc12 xc13 xc14)).mono ?_); rintro e wz80 ⟨am, cm, r3, rfl, hq, hb⟩)
   replace HW := Lib.hid (below_step HW.out hb)
   replace s0 := cel_below hb s0
   replace s1 := cel_below hb s1
   replace s2 := cel_below hb s2
   replace s3 := cel_below hb s3
   replace s4 := cel_below hb s4
   replace s5 := cel_below hb s5
   replace s6 := cel_below hb s6
   replace s7 := cel_below hb s7
   replace s8 := cel_below hb s8
   replace s9 := cel_below hb s9
   replace s10 := cel_below hb s10
   replace s11 := cel_below hb s11
   replace s12 := cel_below hb s12
   replace s13 := cel_below hb s13
   replace s14 := cel_below hb s14
   replace s15 := cel_below hb s15
   replace s16 := cel_below hb s16
   replace mc0 := cel_below hb mc0
   replace mf0 := fro_below hb mz mf0
   replace mz := lt_below hb mz
   replace mt := tag_below mt hb
   replace xc0 := cel_below hb xc0
   replace xf0 := fro_below hb xz xf0
   replace xc1 := cel_below hb xc1
   replace xf1 := fro_below hb xz xf1
   replace xc2 := cel_below hb xc2
   replace xf2 := fro_below hb xz xf2
   replace xc3 := cel_below hb xc3
   replace xf3 := fro_below hb xz xf3
   replace xc4 := cel_below hb xc4
   replace xf4 := fro_below hb xz xf4
   replace xc5 := cel_below hb xc5
   replace xf5 := fro_below hb xz xf5
   replace xc6 := cel_below hb xc6
   replace xf6 := fro_below hb xz xf6
   replace xc7 := cel_below hb xc7
   replace xf7 := fro_below hb xz xf7
   replace xc8 := cel_below hb xc8
   replace xf8 := fro_below hb xz xf8
   replace xc9 := cel_below hb xc9
   replace xf9 := fro_below hb xz xf9
   replace xc10 := cel_below hb xc10
   replace xf10 := fro_below hb xz xf10
   replace xc11 := cel_below hb xc11
   replace xf11 := fro_below hb xz xf11
   replace xc12 := cel_below hb xc12
   replace xf12 := fro_below hb xz xf12
   replace xc13 := cel_below hb xc13
   replace xf13 := fro_below hb xz xf13
   replace xc14 := cel_below hb xc14
   replace xf14 := fro_below hb xz xf14
   replace xz := lt_below hb xz
   replace xt := tag_below xt hb
   replace HF := Lib.hid (fz_keep HF.out hb)
   replace HN1 := Lib.hid (hasInts_keep HN1.out hb)
   have HM1 := Lib.hid hq
   clear hq HN1
   replace LO := Nat.le_trans LO hb.size
   clear hb
   refine hK.out _ _ ?_ (fun _ => ?_)
   · (try dsimp only); exact ⟨s0, s1, s2, s3, s4, s5, s6, s7, s8, s9, s10, s11, s12, s13, s14, s15, s16⟩
   clear hK K
   (try simp only [Act.put, List.setIfInBounds_toArray, List.set_cons_zero, List.set_cons_succ])
   have hHeld := And.intro s0 (And.intro s1 (And.intro s2 (And.intro s3 (And.intro s4 (And.intro s5 (And.intro s6 (And.intro s7 (And.intro s8 (And.intro s9 (And.intro s10 (And.intro s11 (And.intro s12 (And.intro s13 (And.intro s14 (And.intro s15 (s16))))))))))))))))
   refine tkA 24 (by kernel_rfl) (by assumption) ⟨_, _, ?_, rfl, rfl, ?_, fun _ _ _ h => h, ?_⟩; rotate_left; · intro w hSw; (try dsimp only at hSw); go_simp; (try with_reducible rfl)
   (try simp only [Act.put, List.setIfInBounds_toArray, List.set_cons_zero, List.set_cons_succ])
   refine tkA 25 (by kernel_rfl) (by assumption) ⟨_, _, ?_, rfl, rfl, ?_, fun _ _ _ h => h, ?_⟩; rotate_left; · intro w hSw; (try dsimp only at hSw); go_simp; (try with_reducible rfl)
   (try simp only [Act.put, List.setIfInBounds_toArray, List.set_cons_zero, List.set_cons_succ])
   refine tkA 26 (by kernel_rfl) (by assumption) ⟨_, _, ?_, rfl, rfl, ?_, fun _ _ _ h => h, ?_⟩; rotate_left; · intro w hSw; (try dsimp only at hSw); go_simp; (try with_reducible rfl)
   (try simp only [Act.put, List.setIfInBounds_toArray, List.set_cons_zero, List.set_cons_succ])
   refine tkA 27 (by kernel_rfl) (by assumption) ⟨_, _, ?_, rfl, rfl, ?_, fun _ _ _ h => h, ?_⟩; rotate_left; · intro w hSw; (try dsimp only at hSw); go_simp; (try with_reducible rfl)
   (try simp only [Act.put, List.setIfInBounds_toArray, List.set_cons_zero, List.set_cons_succ])
   clear hHeld
   refine wpAnyH_ready (rs := [29]) (by kernel_rfl) (by simp) ?_
   refine AllReadyH.cons (o := ?oi81) ?hi81 (fun K hK => ?rest81) AllReadyH.nil
   (case hi81 => (simp only [List.getElem?_toArray, List.getElem?_cons_succ, List.getElem?_cons_zero]; rfl))
   go_simp
   obtain ⟨wz82, hwy⟩ : ∃ W, W = (wz80.setCell ⟨wy0.heap.size, 0, none⟩ (.slice am 16 cm)) := ⟨_, rfl⟩
   rw [← hwy]
   have kp : ∀ {b' o' : Nat} {u : Value}, wz80.cell? ⟨b', o', none⟩ = some u → wy0.heap.size ≠ b' → wz82.cell? ⟨b', o', none⟩ = some u := fun h hn => by rw [hwy]; exact keepA_ (h) (Or.inl hn)
   replace s0 := kp s0 (by omega)
   replace s1 := kp s1 (by omega)
   replace s2 := kp s2 (by omega)
   replace s3 := kp s3 (by omega)
   replace s4 := kp s4 (by omega)
   replace s5 := kp s5 (by omega)
   replace s6 := kp s6 (by omega)
   replace s7 := kp s7 (by omega)
   replace s8 := kp s8 (by omega)
   replace s9 := kp s9 (by omega)
   replace s10 := kp s10 (by omega)
   replace s11 := kp s11 (by omega)
   replace s12 := kp s12 (by omega)
   replace s13 := kp s13 (by omega)
   replace s14 := kp s14 (by omega)
   replace s15 := kp s15 (by omega)
   replace s16 := kp s16 (by omega)
   clear kp
   replace xc0 : wz82.cell? ⟨wz76.heap.size, 0, none⟩ = some (.int .i64 2) := by rw [hwy]; exact keepA_ (xc0) (Or.inl (by omega))
   replace xf0 : wz82.frozen? ⟨wz76.heap.size, 0, none⟩ = false := by rw [hwy]; simpa using xf0
   replace xc1 : wz82.cell? ⟨wz76.heap.size, 1, none⟩ = some (.int .i64 p0) := by rw [hwy]; exact keepA_ (xc1) (Or.inl (by omega))
   replace xf1 : wz82.frozen? ⟨wz76.heap.size, 1, none⟩ = false := by rw [hwy]; simpa using xf1
   replace xc2 : wz82.cell? ⟨wz76.heap.size, 2, none⟩ = some (.int .i64 0) := by rw [hwy]; exact keepA_ (xc2) (Or.inl (by omega))
   replace xf2 : wz82.frozen? ⟨wz76.heap.size, 2, none⟩ = false := by rw [hwy]; simpa using xf2
   replace xc3 : wz82.cell? ⟨wz76.heap.size, 3, none⟩ = some (.int .i64 s) := by rw [hwy]; exact keepA_ (xc3) (Or.inl (by omega))
   replace xf3 : wz82.frozen? ⟨wz76.heap.size, 3, none⟩ = false := by rw [hwy]; simpa using xf3
   replace xc4 : wz82.cell? ⟨wz76.heap.size, 4, none⟩ = some (.string ⟨#[]⟩) := by rw [hwy]; exact keepA_ (xc4) (Or.inl (by omega))
   replace xf4 : wz82.frozen? ⟨wz76.heap.size, 4, none⟩ = false := by rw [hwy]; simpa using xf4
   replace xc5 : wz82.cell? ⟨wz76.heap.size, 5, none⟩ = some (.int .i64 2) := by rw [hwy]; exact keepA_ (xc5) (Or.inl (by omega))
   replace xf5 : wz82.frozen? ⟨wz76.heap.size, 5, none⟩ = false := by rw [hwy]; simpa using xf5
   replace xc6 : wz82.cell? ⟨wz76.heap.size, 6, none⟩ = some (.int .i64 p1) := by rw [hwy]; exact keepA_ (xc6) (Or.inl (by omega))
   replace xf6 : wz82.frozen? ⟨wz76.heap.size, 6, none⟩ = false := by rw [hwy]; simpa using xf6
   replace xc7 : wz82.cell? ⟨wz76.heap.size, 7, none⟩ = some (.int .i64 0) := by rw [hwy]; exact keepA_ (xc7) (Or.inl (by omega))
   replace xf7 : wz82.frozen? ⟨wz76.heap.size, 7, none⟩ = false := by rw [hwy]; simpa using xf7
   replace xc8 : wz82.cell? ⟨wz76.heap.size, 8, none⟩ = some (.int .i64 m.s) := by rw [hwy]; exact keepA_ (xc8) (Or.inl (by omega))
   replace xf8 : wz82.frozen? ⟨wz76.heap.size, 8, none⟩ = false := by rw [hwy]; simpa using xf8
   replace xc9 : wz82.cell? ⟨wz76.heap.size, 9, none⟩ = some (.string ⟨#[]⟩) := by rw [hwy]; exact keepA_ (xc9) (Or.inl (by omega))
   replace xf9 : wz82.frozen? ⟨wz76.heap.size, 9, none⟩ = false := by rw [hwy]; simpa using xf9
   replace xc10 : wz82.cell? ⟨wz76.heap.size, 10, none⟩ = some (.int .i64 2) := by rw [hwy]; exact keepA_ (xc10) (Or.inl (by omega))
   replace xf10 : wz82.frozen? ⟨wz76.heap.size, 10, none⟩ = false := by rw [hwy]; simpa using xf10
   replace xc11 : wz82.cell? ⟨wz76.heap.size, 11, none⟩ = some (.int .i64 p2) := by rw [hwy]; exact keepA_ (xc11) (Or.inl (by omega))
   replace xf11 : wz82.frozen? ⟨wz76.heap.size, 11, none⟩ = false := by rw [hwy]; simpa using xf11
   replace xc12 : wz82.cell? ⟨wz76.heap.size, 12, none⟩ = some (.int .i64 0) := by rw [hwy]; exact keepA_ (xc12) (Or.inl (by omega))
   replace xf12 : wz82.frozen? ⟨wz76.heap.size, 12, none⟩ = false := by rw [hwy]; simpa using xf12
   replace xc13 : wz82.cell? ⟨wz76.heap.size, 13, none⟩ = some (.int .i64 m.k) := by rw [hwy]; exact keepA_ (xc13) (Or.inl (by omega))
   replace xf13 : wz82.frozen? ⟨wz76.heap.size, 13, none⟩ = false := by rw [hwy]; simpa using xf13
   replace xc14 : wz82.cell? ⟨wz76.heap.size, 14, none⟩ = some (.string ⟨#[]⟩) := by rw [hwy]; exact keepA_ (xc14) (Or.inl (by omega))
   replace xf14 : wz82.frozen? ⟨wz76.heap.size, 14, none⟩ = false := by rw [hwy]; simpa using xf14
   replace HF : Hid (Fz wz82 (w.heap.size + 1 + 1)) := Lib.hid (by rw [hwy]; exact (fz_set HF.out _ _))
   replace HM1 := Lib.hid (hasInts_setS HM1.out mc0 (u := .slice am 16 cm))
   rw [← hwy] at HM1
   have md0 : wz82.cell? ⟨wy0.heap.size, 0, none⟩ = some (.slice am 16 cm) := by rw [hwy]; exact World.cell?_setCell_same _ _ _ mc0
   replace mt : Tag wz82 wy0.heap.size 55 := by rw [hwy]; exact (tag_set mt _ _)
   replace xt : Tag wz82 wz76.heap.size 32 := by rw [hwy]; exact (tag_set xt _ _)
   replace mf0 : wz82.frozen? ⟨wy0.heap.size, 0, none⟩ = false := by rw [hwy]; simpa using mf0
   replace HW := Lib.hid (Below.setCell (p := ⟨wy0.heap.size, 0, none⟩) HW.out (by have := HWS.out; dsimp only; omega) (.slice am 16 cm))
   rw [← hwy] at HW
   have hsz : wz82.heap.size = wz80.heap.size := by rw [hwy]; simp
   replace mz : wy0.heap.size < wz82.heap.size := by omega
   replace xz : wz76.heap.size < wz82.heap.size := by omega
   replace LO : _ ≤ wz82.heap.size := Nat.le_trans LO (Nat.le_of_eq hsz.symm)
   clear hsz hwy mc0
   have mc0 := md0
   clear md0
   refine hK.out _ _ ?_ (fun _ => ?_)
   · (try dsimp only); exact ⟨s0, s1, s2, s3, s4, s5, s6, s7, s8, s9, s10, s11, s12, s13, s14, s15, s16⟩
   clear hK K
   (try simp only [Act.put, List.setIfInBounds_toArray, List.set_cons_zero, List.set_cons_succ])
   have hHeld := And.intro s0 (And.intro s1 (And.intro s2 (And.intro s3 (And.intro s4 (And.intro s5 (And.intro s6 (And.intro s7 (And.intro s8 (And.intro s9 (And.intro s10 (And.intro s11 (And.intro s12 (And.intro s13 (And.intro s14 (And.intro s15 (s16))))))))))))))))
   refine tkA 30 (by kernel_rfl) (by assumption) ⟨_, _, ?_, rfl, rfl, ?_, fun _ _ _ h => h, ?_⟩; rotate_left; · intro w hSw; (try dsimp only at hSw); go_simp; (try with_reducible rfl)
   (try simp only [Act.put, List.setIfInBounds_toArray, List.set_cons_zero, List.set_cons_succ])
   refine tkA 31 (by kernel_rfl) (by assumption) ⟨_, _, ?_, rfl, rfl, ?_, fun _ _ _ h => h, ?_⟩; rotate_left; · intro w hSw; (try dsimp only at hSw); go_simp; (try with_reducible rfl)
   (try simp only [Act.put, List.setIfInBounds_toArray, List.set_cons_zero, List.set_cons_succ])
   clear hHeld
   refine wpAnyH_done (by kernel_rfl) ?_ _
   have ff := HF.out.2
   have kk := World.cell?_setCell_same wz82 ⟨w.heap.size + 1 + 1, 0, none⟩ (.slice am 16 cm) s16
   go_wp2
   refine bodyPost_ret (v := .agg #[.slice am 16 cm]) (by simp [results, Try.results36, go_sem, kk]) rfl ?_
   exact ⟨am, cm, rfl, hasInts_setS HM1.out s16, (HB0.out.trans (HW.out.mono (by have := HLO.out; omega))).setCell (by dsimp only; omega) _⟩

end Go.Proofs.Ytaclnaedinfhmaa
