/- ManagerDooms: without interference a conflict resolution changes memory only if the other transaction is active and has to yield; the outcome and the number of accesses are as specified for each status. No condition. -/
import Derived.Test.YtaclnaedinfhmaaRows
import Derived.Test.YtaclnaedinfhmaaBase
import Derived.Test.YtaclnaedinfhmaaAux
import Derived.Test.YtaclnaedinfhmaaMgrA
import Derived.Test.YtaclnaedinfhmaaMgrO
import Derived.Test.YtaclnaedinfhmaaMgrT
import Derived.Outline
import Derived.Deep.RegionHeld3
import Derived.IntWalk
import Derived.Test.YtaclnaedinfhmaaWord2
import Derived.Test.YtaclnaedinfhmaaMgrS
import Derived.Test.YtaclnaedinfhmaaAloneM
import Derived.Test.YtaclnaedinfhmaaMemE
import Derived.Test.YtaclnaedinfhmaaMemP
import Derived.Deep.DeepCutAuto
import Derived.WalkKit
import Derived.ProofKit
import Derived.OpenShut
import Derived.Lib.Hide
import Derived.Carry
namespace Go.Proofs.Ytaclnaedinfhmaa.managerDooms
open Go.ChangeShapes Go.WideShapes Go.ChangeAt Go.RowKit
set_option linter.unusedVariables false

theorem wrap_u8 {n : Int} (h0 : 0 ≤ n) (h1 : n ≤ 255) : IntKind.u8.wrap n = n := by
  have h : 0 ≤ n ∧ n ≤ 255 := ⟨h0, h1⟩
  simp [IntKind.wrap, IntKind.bits, IntKind.signed]
  omega
/-- The block b has no cell from its fourth on. -/
def Nc (w : World) (b : Nat) : Prop := b < w.heap.size ∧ ∀ i, 3 ≤ i → w.cell? ⟨b, i, none⟩ = none
theorem nc_keep {w w' : World} {b : Nat} (h : Nc w b) (hb : Below w.heap.size w w') : Nc w' b := ⟨lt_below hb h.1, fun i hi => (hb.cell (p := ⟨b, i, none⟩) h.1).trans (h.2 i hi)⟩
theorem nc_new (w : World) (x y z : Value) (T : TypeId) (b : Nat) (hb : b = w.heap.size) : Nc (w.alloc (.cells #[x, y, z] T)) b := by
  subst hb
  refine ⟨by simp, fun i hi => ?_⟩
  rw [World.cell?_alloc_at _ _ _ _ rfl]
  exact Array.getElem?_eq_none (by simpa using hi)
theorem hasInts_setN {w : World} {v : Value} {zs : List Int} {c o : Nat} {u : Value} (h : HasInts w v zs) (hl : 4 ≤ zs.length) (hn : Nc w c) : HasInts (w.setCell ⟨c, o, none⟩ u) v zs := by
  obtain ⟨a, cap, rfl, h1, h2⟩ := h
  refine ⟨a, cap, rfl, h1, ?_⟩
  rcases h2 with h2 | ⟨b, q, rfl, h2⟩
  · exact Or.inl h2
  · have hne : c ≠ b := by
      intro he
      have := h2 3 (by omega)
      rw [← he, hn.2 (q + 3) (by omega)] at this
      cases this
    exact Or.inr ⟨b, q, rfl, fun j hj => keepA_ (h2 j hj) (Or.inl hne)⟩
theorem hasInts_setB {w : World} {v : Value} {zs : List Int} {c o : Nat} {u : Value} {x : Bool} (h : HasInts w v zs) (hc : w.cell? ⟨c, o, none⟩ = some (.bool x)) : HasInts (w.setCell ⟨c, o, none⟩ u) v zs := by
  obtain ⟨a, cap, rfl, h1, h2⟩ := h
  refine ⟨a, cap, rfl, h1, ?_⟩
  rcases h2 with h2 | ⟨b, q, rfl, h2⟩
  · exact Or.inl h2
  · refine Or.inr ⟨b, q, rfl, fun j hj => ?_⟩
    have hcj := h2 j hj
    have hne : (⟨b, q + j, none⟩ : Addr) ≠ ⟨c, o, none⟩ := by intro he; rw [he, hc] at hcj; simp at hcj
    rw [World.cell?_setCell_other _ _ _ _ (Ne.symm hne)]; exact hcj
theorem hasInts_res {w : World} {v : Value} {zs : List Int} {c : Nat} {n : Int} {y x : Bool} (h : HasInts w v zs) (hl : 2 ≤ zs.length) (hc : w.cell? ⟨c, 1, none⟩ = some (.bool x)) : HasInts ((w.setCell ⟨c, 0, none⟩ (.int .i64 n)).setCell ⟨c, 1, none⟩ (.bool y)) v zs := by
  refine hasInts_setB (x := x) ?_ (keepA_ hc (Or.inr (by decide)))
  obtain ⟨a, cap, rfl, h1, h2⟩ := h
  refine ⟨a, cap, rfl, h1, ?_⟩
  rcases h2 with h2 | ⟨b, q, rfl, h2⟩
  · exact Or.inl h2
  · refine Or.inr ⟨b, q, rfl, fun j hj => ?_⟩
    have hcj := h2 j hj
    have hne : (⟨b, q + j, none⟩ : Addr) ≠ ⟨c, 0, none⟩ := by
      intro he
      simp at he
      obtain ⟨rfl, rfl, rfl⟩ := he
      have := h2 1 (by omega)
      rw [hc] at this
      simp at this
    rw [World.cell?_setCell_other _ _ _ _ (Ne.symm hne)]; exact hcj
theorem out_struct : Try.prog.underlying 35 = some (.struct (Try.prog.fieldsOf 35)) := by kernel_rfl
theorem out_held : Try.prog.stoodInHeld 35 = false := by kernel_rfl
theorem out_guard : Try.prog.eqGuardType Try.prog.depth 35 = false := by kernel_rfl
theorem out_eq (v : Int) (w : World) : (binOp .eql 35 (.agg #[.int .i64 v, .int .i64 0, .int .i64 0, .int .i64 0, .bool false, .bool false, .int .i64 0]) (.agg #[.int .i64 v, .int .i64 0, .int .i64 0, .int .i64 0, .bool false, .bool false, .int .i64 0])).run Try.prog w = .ok (.bool true) w := by
  rw [run_eql_struct, show (10000 : Nat) = 9999 + 1 from rfl, run_equalIn_agg w 9999 35 _ _ out_struct out_held]
  have u3 := Try.underlying3
  have a3 := Try.isAgg3
  have z3 := Try.sizeOf3
  have u4 := Try.underlying4
  have a4 := Try.isAgg4
  have z4 := Try.sizeOf4
  have u5 := Try.underlying33
  have a5 := Try.isAgg33
  have z5 := Try.sizeOf33
  simp only [Program.fieldsOf, Try.underlying35]
  go_simp
theorem exec_load {n : Nat} {p : Nat} {f : Int × Bool → Tree} {zs : List Int} (hl : zs.length = 16) (hp : p < 16) : exec (n + 1) (.ask ⟨1, (p : Nat), 0, 0⟩ f) zs = (exec n (f (zs.getD p 0, true)) zs).map (fun x => (x.1, x.2.1, x.2.2 + 1)) := by
  have hc : chk zs.length 1 (p : Nat) 0 0 ByteArray.empty = 0 := by
    rw [hl]
    have h : p = 0 ∨ p = 1 ∨ p = 2 ∨ p = 3 ∨ p = 4 ∨ p = 5 ∨ p = 6 ∨ p = 7 ∨ p = 8 ∨ p = 9 ∨ p = 10 ∨ p = 11 ∨ p = 12 ∨ p = 13 ∨ p = 14 ∨ p = 15 := by omega
    rcases h with rfl | rfl | rfl | rfl | rfl | rfl | rfl | rfl | rfl | rfl | rfl | rfl | rfl | rfl | rfl | rfl <;> decide +kernel
  show (if chk zs.length 1 (p : Nat) 0 0 ByteArray.empty = 0 ∧ _ then _ else _) = _
  rw [if_pos ⟨hc, (by decide : (-9223372036854775808 : Int) ≤ 0), (by decide : (0 : Int) ≤ 9223372036854775807)⟩]
  rw [show doR 1 (p : Nat) 0 0 ByteArray.empty zs = zs.getD p 0 by unfold doR; rw [if_pos hc]; rfl, show doOk 1 (p : Nat) 0 0 ByteArray.empty zs = true by unfold doOk; rw [if_pos hc]; rfl,
    show doZ 1 (p : Nat) 0 0 ByteArray.empty zs = zs by unfold doZ; rw [if_pos hc]; rfl]
theorem exec_cas {n : Nat} {o v : Int} {f : Int × Bool → Tree} {zs : List Int} (hl : zs.length = 16) (ho : zs.getD 12 0 = o) (hv : I64 v) : exec (n + 1) (.ask ⟨3, 12, o, v⟩ f) zs = (exec n (f (o, true)) (zs.set 12 v)).map (fun x => (x.1, x.2.1, x.2.2 + 1)) := by
  have hc : chk zs.length 3 12 o v ByteArray.empty = 0 := by
    rw [hl]
    have : rightB 3 12 o v ByteArray.empty = true := by unfold rightB; rw [if_neg (by decide), if_neg (by decide)]; decide +kernel
    unfold chk; rw [if_pos this]; rfl
  show (if chk zs.length 3 12 o v ByteArray.empty = 0 ∧ _ then _ else _) = _
  rw [if_pos ⟨hc, hv⟩]
  rw [show doR 3 12 o v ByteArray.empty zs = o by unfold doR; rw [if_pos hc]; exact ho, show doOk 3 12 o v ByteArray.empty zs = true by unfold doOk appOk; rw [if_pos hc]; simp; exact ho,
    show doZ 3 12 o v ByteArray.empty zs = zs.set 12 v by unfold doZ appZ; rw [if_pos hc, if_pos (Or.inr ⟨rfl, ho⟩)]; rfl]
theorem exec_zero (n : Nat) (o : OutD) (zs : List Int) : exec n (.ret o) zs = some (o, zs, 0) := by cases n <;> rfl

/-- What the resolution does: verdict, cells, accesses (the own status not counted). -/
def doomsV (q r : Int) : Int := if q = 0 then 0 else if r = 1 then 1 else if q = 2 then 3 else 2
def doomsN (q r : Int) : Nat := if q = 0 then 1 else if r = 1 then 3 else if q = 1 then 4 else 3
def doomsW (q r ty s : Int) : Int := if q = 1 ∧ r = 2 then 4 * ty + 3 else s
theorem dooms_asks (kap ty q s r : Int) (m o : Ct) (hty : 0 ≤ ty ∧ ty ≤ 255) (hq : 0 ≤ q ∧ q ≤ 3) (hs : s = 4 * ty + q) (hr : chooseD kap m ⟨o.s, o.k, ty⟩ = r) (j : Nat) (hj : 10 ≤ j) :
    exec j (asksT (lay3 kap) 2 m) (laidZ 2 s o) = some ({ val := doomsV q r }, (laidZ 2 s o).set 12 (doomsW q r ty s), doomsN q r) := by
  obtain ⟨i, rfl⟩ : ∃ i, j = i + 1 + 1 + 1 + 1 := ⟨j - 4, by omega⟩
  have hl : (laidZ 2 s o).length = 16 := by simp [laidZ]
  have g12 : (laidZ 2 s o).getD 12 0 = s := by simp [laidZ]
  have g13 : (laidZ 2 s o).getD 13 0 = o.s := by simp [laidZ]
  have g15 : (laidZ 2 s o).getD 15 0 = o.k := by simp [laidZ]
  have hset : (laidZ 2 s o).set 12 s = laidZ 2 s o := by simp [laidZ]
  have e1 : s % 4 = q := by omega
  have e2 : s / 4 = ty := by omega
  have a1 : atStatus (lay3 kap) 2 = ((12 : Nat) : Int) := rfl
  have a2 : atStamp (lay3 kap) 2 = ((13 : Nat) : Int) := rfl
  have a3 : atKarma (lay3 kap) 2 = ((15 : Nat) : Int) := rfl
  unfold asksT
  rw [a1, a2, a3, exec_load hl (by decide)]
  simp only [g12, e1, e2]
  by_cases h0 : q = 0
  · rw [if_pos h0, exec_zero]
    unfold doomsV doomsW doomsN
    rw [if_pos h0, if_pos h0, if_neg (by omega), hset]; rfl
  · rw [if_neg h0, exec_load hl (by decide), exec_load hl (by decide)]
    have hm : (lay3 kap).c.m = kap := rfl
    simp only [g13, g15, hm, hr]
    rcases chooseD_12 kap m ⟨o.s, o.k, ty⟩ with hc | hc
    · rw [hr] at hc
      rw [if_pos hc, exec_zero]
      unfold doomsV doomsW doomsN
      rw [if_neg h0, if_pos hc, if_neg h0, if_pos hc, if_neg (by omega), hset]; rfl
    · rw [hr] at hc
      rw [if_neg (by omega)]
      unfold doomT
      rw [e1, e2]
      by_cases h1 : q = 1
      · rw [if_pos h1]
        have hw : wrap64 (4 * ty + 3) = 4 * ty + 3 := wrap64_id (by unfold I64; omega)
        rw [hw]
        have := exec_cas (n := i) (o := s) (v := 4 * ty + 3) (f := fun u => if u.2 = true then Tree.ret { val := 2 } else Tree.ret { val := 0 }) hl g12 (by unfold I64; omega)
        rw [show atStatus (lay3 kap) 2 = (12 : Int) from rfl, this]
        simp only [if_true, exec_zero]
        subst h1
        rw [hc]; rfl
      · rw [if_neg h1]
        have hw : doomsW q r ty s = s := by unfold doomsW; rw [if_neg (by omega)]
        rw [hw, hset]
        by_cases h3 : q = 3
        · rw [if_pos h3, exec_zero]; subst h3; rw [hc]; rfl
        · have h2 : q = 2 := by omega
          rw [if_neg h3, exec_zero]; subst h2; rw [hc]; rfl
theorem dooms_exec (kap ty q s r : Int) (own : Bool) (m o : Ct) (hty : 0 ≤ ty ∧ ty ≤ 255) (hq : 0 ≤ q ∧ q ≤ 3) (hs : s = 4 * ty + q) (hr : chooseD kap m ⟨o.s, o.k, ty⟩ = r) :
    exec 19 (mgrT (lay3 kap) 0 2 (if own then 1 else 0) m) (laidZ 2 s o) = some ({ val := doomsV q r }, (laidZ 2 s o).set 12 (doomsW q r ty s), doomsN q r + if own then 1 else 0) := by
  have hl : (laidZ 2 s o).length = 16 := by simp [laidZ]
  have g4 : (laidZ 2 s o).getD 4 0 = 0 := by simp [laidZ]
  unfold mgrT
  rw [if_neg (fun h => h.elim (fun h => absurd h (show ¬((12 : Int) < 0) by decide)) (fun h => absurd h (by decide)))]
  cases own with
  | false => exact dooms_asks kap ty q s r m o hty hq hs hr 19 (by decide)
  | true =>
    have a1 : atStatus (lay3 kap) 0 = ((4 : Nat) : Int) := rfl
    show exec (18 + 1) (.ask ⟨1, atStatus (lay3 kap) 0, 0, 0⟩ fun r => if r.1 % 4 = 3 then .ret { val := 1, lost := true } else asksT (lay3 kap) 2 m) _ = _
    rw [a1, exec_load hl (by decide)]
    simp only [g4]
    rw [if_neg (by decide), dooms_asks kap ty q s r m o hty hq hs hr 18 (by decide)]
    rfl
set_option maxHeartbeats 8000000 in
set_option maxRecDepth 100000 in
theorem walk_own (w : World) (k ty at_ : Int) (hk : 0 ≤ k ∧ k ≤ 255) (ht : 0 ≤ ty ∧ ty ≤ 255) (ha : 0 ≤ at_ ∧ at_ ≤ 255) (m o : Ct) (i1 : I64 o.s) (i2 : I64 o.k) (own : Bool) : Calls Try.prog 12 #[.int .u8 k, .int .u8 ty, .int .u8 at_, m.v, o.v, .bool own] w fun e w' => e = .returned (.bool true) ∧ Below w.heap.size w w' := by
  obtain ⟨bq, hbq⟩ : ∃ x : Int, x = if own then 1 else 0 := ⟨_, rfl⟩
  obtain ⟨kap, hkap⟩ : ∃ x, x = k % 4 := ⟨_, rfl⟩
  obtain ⟨q, hq⟩ : ∃ x, x = at_ % 4 := ⟨_, rfl⟩
  obtain ⟨s, hs⟩ : ∃ x, x = 4 * ty + q := ⟨_, rfl⟩
  obtain ⟨r, hr⟩ : ∃ x, x = chooseD kap m ⟨o.s, o.k, ty⟩ := ⟨_, rfl⟩
  have hr2 : r = 1 ∨ r = 2 := by rw [hr]; exact chooseD_12 _ _ _
  have hq4 : 0 ≤ q ∧ q ≤ 3 := by omega
  have hk4 : 0 ≤ kap ∧ kap ≤ 3 := by omega
  have K1 : Hid (k.tmod 4 = kap) := Lib.hid (by rw [Int.tmod_eq_emod_of_nonneg hk.1]; exact hkap.symm)
  have K2 : Hid (at_.tmod 4 = q) := Lib.hid (by rw [Int.tmod_eq_emod_of_nonneg ha.1]; exact hq.symm)
  have K3 : Hid (IntKind.i64.wrap kap = kap) := Lib.hid (IntWalk.i64_in _ (by omega))
  have K4 : Hid (IntKind.i64.wrap q = q) := Lib.hid (IntWalk.i64_in _ (by omega))
  have K5 : Hid (IntKind.i64.wrap ty = ty) := Lib.hid (IntWalk.i64_in _ (by omega))
  have K6 : Hid (IntKind.u8.wrap kap = kap) := Lib.hid (wrap_u8 (by omega) (by omega))
  have K7 : Hid (IntKind.u8.wrap q = q) := Lib.hid (wrap_u8 (by omega) (by omega))
  obtain ⟨V, hV⟩ : ∃ x, x = doomsV q r := ⟨_, rfl⟩
  obtain ⟨N, hN⟩ : ∃ x, x = doomsN q r := ⟨_, rfl⟩
  obtain ⟨M, hM⟩ : ∃ x : Nat, x = N + if own then 1 else 0 := ⟨_, rfl⟩
  obtain ⟨X, hX⟩ : ∃ x, x = doomsW q r ty s := ⟨_, rfl⟩
  obtain ⟨Zf, hZf⟩ : ∃ x, x = (laidZ 2 s o).set 12 X := ⟨_, rfl⟩
  have HWh : Hid (∀ w, Calls Try.prog 32 #[.int .i64 kap] w fun e w' => e = .returned (.agg #[.int .i64 3, .int .i64 0, .int .i64 0, .int .i64 0, .int .i64 kap, .int .i64 0, .int .i64 1, .int .i64 2, .int .i64 3, .int .i64 4, .int .i64 16, .int .i64 16, .int .i64 16]) ∧ Below w.heap.size w w') := Lib.hid (fun w => where17_any kap hk4 w)
  have HSt : Hid (∀ w, Calls Try.prog 35 #[.int .i64 ty, .int .i64 q] w fun e w' => e = .returned (.int .i64 s) ∧ Below w.heap.size w w') := Lib.hid (fun w => (wstatus_any ty q w).mono (by rintro e w' ⟨rfl, rfl⟩; exact ⟨ret_int (by rw [hs]; unfold wrap64; omega), Below.refl _ _⟩))
  have HS3 : Hid (∀ w, Calls Try.prog 35 #[.int .i64 ty, .int .i64 3] w fun e w' => e = .returned (.int .i64 (4 * ty + 3)) ∧ w = w') := Lib.hid (fun w => (wstatus_any ty 3 w).mono (by rintro e w' ⟨rfl, rfl⟩; exact ⟨ret_int (by unfold wrap64; omega), rfl⟩))
  have HLd : Hid (∀ w, Calls Try.prog 36 #[.agg #[.int .i64 3, .int .i64 0, .int .i64 0, .int .i64 0, .int .i64 kap, .int .i64 0, .int .i64 1, .int .i64 2, .int .i64 3, .int .i64 4, .int .i64 16, .int .i64 16, .int .i64 16], .int .i64 2, .int .i64 s, o.v] w fun e w' => ∃ a c, e = .returned (.agg #[.slice a 16 c]) ∧ HasInts w' (.slice a 16 c) (laidZ 2 s o) ∧ Below w.heap.size w w') := Lib.hid (fun w => laid17_any kap s 2 (by decide) o w)
  have HAl : Hid (∀ w am cm, HasInts w (.slice am 16 cm) (laidZ 2 s o) → (∀ z ∈ laidZ 2 s o, I64 z) → Calls Try.prog 37 #[.agg #[.int .i64 3, .int .i64 0, .int .i64 0, .int .i64 0, .int .i64 kap, .int .i64 0, .int .i64 1, .int .i64 2, .int .i64 3, .int .i64 4, .int .i64 16, .int .i64 16, .int .i64 16], .agg #[.slice am 16 cm], .int .i64 0, .agg #[.int .i64 0, .int .i64 2, .int .i64 bq, .int .i64 0, .int .i64 m.s, .int .i64 m.k, .int .i64 m.a, .slice none 0 0, .slice none 0 0, .slice none 0 0]] w fun e w' => ∃ a2 c2, e = .returned (.tuple #[.agg #[.int .i64 V, .int .i64 0, .int .i64 0, .int .i64 0, .bool false, .bool false, .int .i64 0], .agg #[.slice a2 16 c2], .int .i64 ((M : Nat) : Int)]) ∧ HasInts w' (.slice a2 16 c2) Zf ∧ Below w.heap.size w w') := Lib.hid (fun w am cm hv hi => by
    have hx := dooms_exec kap ty q s r own m o ht hq4 hs hr.symm
    rw [← hbq] at hx
    refine (alone17_any w (lay3 kap) (lay3_ok kap) 0 0 2 bq 0 m none none none 0 0 0 0 0 0 am 16 cm _ hv (by simp [laidZ]) hi _ _ _ hx).mono ?_
    rintro e w' ⟨a2, l2, c2, rfl, hu, hb⟩
    rw [← hX, ← hZf] at hu
    have hl : Zf.length = 16 := by rw [hZf]; simp [laidZ]
    obtain ⟨a3, c3, he, _⟩ := id hu
    simp only [Value.slice.injEq] at he
    obtain ⟨rfl, rfl, rfl⟩ := he
    rw [hl] at hu ⊢
    exact ⟨_, _, by rw [hV, hM, hN]; rfl, hu, hb⟩)
  have HI : Hid (∀ (i1 : I64 o.s) (i2 : I64 o.k), ∀ z ∈ laidZ 2 s o, I64 z) := Lib.hid (by intro i1 i2 z hz; unfold laidZ at hz; simp at hz; rcases hz with rfl | rfl | rfl | rfl | rfl <;> first | exact i64_zero | (unfold I64; omega) | assumption)
  have HCh : Hid (∀ w, Calls Try.prog 30 #[.int .i64 kap, m.v, .agg #[.int .i64 o.s, .int .i64 o.k, .int .i64 ty]] w fun e w' => e = .returned (.int .i64 r) ∧ Below w.heap.size w w') := Lib.hid (fun w => by rw [hr]; exact choose_any kap m ⟨o.s, o.k, ty⟩ w)
  have HL2 : Hid (∀ w, Calls Try.prog 38 #[.agg #[.int .i64 3, .int .i64 0, .int .i64 0, .int .i64 0, .int .i64 kap, .int .i64 0, .int .i64 1, .int .i64 2, .int .i64 3, .int .i64 4, .int .i64 16, .int .i64 16, .int .i64 16], .int .i64 2] w fun e w' => e = .returned (.int .i64 12) ∧ Below w.heap.size w w') := Lib.hid (fun w => status_any (lay3 kap) 2 w (lay3_ok kap))
  have HCe : Hid (∀ w a c, HasInts w (.slice a 16 c) Zf → Calls Try.prog 20 #[.agg #[.slice a 16 c], .int .i64 12] w fun e w' => e = .returned (.int .i64 X) ∧ Below w.heap.size w w') := Lib.hid (fun w a c h => by
    have := cell16_any _ Zf 12 (by rw [hZf]; simp [laidZ]) w h
    rwa [show Zf.getD 12 0 = X by rw [hZf]; simp [laidZ]] at this)
  have HDo : Hid (∀ w a c, HasInts w (.slice a 16 c) Zf → Calls Try.prog 39 #[.agg #[.slice a 16 c], .agg #[.int .i64 2, .int .i64 12, .int .i64 0, .int .i64 s, .string ⟨#[]⟩]] w fun e w' => ∃ a4 c4 r4 b4, e = .returned (.tuple #[.agg #[.slice a4 16 c4], .agg #[.int .i64 r4, .bool b4], .int .i64 0]) ∧ HasInts w' (.slice a4 16 c4) (laidZ 2 s o) ∧ Below w.heap.size w w') := Lib.hid (fun w a c h => by
    have hl : Zf.length = 16 := by rw [hZf]; simp [laidZ]
    refine (do_any _ Zf 2 12 0 s ByteArray.empty w h (by omega)).mono ?_
    rintro e w' ⟨u, rfl, hu, hb⟩
    have hc : chk Zf.length 2 12 0 s ByteArray.empty = 0 := by rw [hl]; exact chk_set 16 12 s (by decide)
    have hz : doZ 2 12 0 s ByteArray.empty Zf = laidZ 2 s o := by unfold doZ; rw [if_pos hc, hZf]; simp [appZ, laidZ]
    rw [hz] at hu
    rw [hc]
    obtain ⟨a3, c3, he, _⟩ := id hu
    subst he
    rw [show (laidZ 2 s o).length = 16 by simp [laidZ]] at hu ⊢
    exact ⟨_, _, _, _, rfl, hu, hb⟩)
  have HSm : Hid (∀ w a c a' c', HasInts w (.slice a 16 c) (laidZ 2 s o) → HasInts w (.slice a' 16 c') (laidZ 2 s o) → Calls Try.prog 26 #[.agg #[.slice a 16 c], .agg #[.slice a' 16 c']] w fun e w' => e = .returned (.bool true) ∧ Below w.heap.size w w') := Lib.hid (fun w a c a' c' h h' => by
    have := same_any _ _ _ _ w h h'
    rwa [decide_eq_true rfl] at this)
  have HBr : Hid ((q = 0 ∧ X = s ∧ V = 0 ∧ N = 1) ∨ (q ≠ 0 ∧ r = 1 ∧ X = s ∧ V = 1 ∧ N = 3) ∨ (q = 1 ∧ r = 2 ∧ X = 4 * ty + 3 ∧ V = 2 ∧ N = 4) ∨ (q = 2 ∧ r = 2 ∧ X = s ∧ V = 3 ∧ N = 3) ∨ (q = 3 ∧ r = 2 ∧ X = s ∧ V = 2 ∧ N = 3)) := Lib.hid (by
    rw [hX, hV, hN]
    have h4 : q = 0 ∨ q = 1 ∨ q = 2 ∨ q = 3 := by omega
    rcases h4 with h | h | h | h <;> rcases hr2 with h' | h' <;> rw [h, h'] <;> simp [doomsV, doomsN, doomsW])
  have HZl : Hid (Zf.length = 16) := Lib.hid (by rw [hZf]; simp [laidZ])
  have HOwn := Lib.hid hbq
  have HMown := Lib.hid hM
  clear hkap hq hs hr hr2 hV hN hX hZf hk ht ha hk4 hbq hM
  have HQ4 := Lib.hid hq4
  clear hq4
  unfold Ct.v at HLd HCh ⊢
  go_enter Try.func12, Try.ntmps12
  go_wp2_with fail
  ((with_reducible refine (sane17_any _).mono ?_); rintro e w1 ⟨rfl, hb⟩)
  have HW := Lib.hid (below_alloc2 hb)
  have zz : w.heap.size + 2 ≤ w1.heap.size := by have := hb.size; (try simp at this); omega
  have aq0 : w1.cell? ⟨w.heap.size, 0, none⟩ = some (.int .i64 m.s) := cel_below hb (cell_alloc _ (by rw [World.cell?_alloc_at _ _ _ _ (by simp)]; rfl))
  have aq1 : w1.cell? ⟨w.heap.size, 1, none⟩ = some (.int .i64 m.k) := cel_below hb (cell_alloc _ (by rw [World.cell?_alloc_at _ _ _ _ (by simp)]; rfl))
  have aq2 : w1.cell? ⟨w.heap.size, 2, none⟩ = some (.int .i64 m.a) := cel_below hb (cell_alloc _ (by rw [World.cell?_alloc_at _ _ _ _ (by simp)]; rfl))
  have z0 : w.heap.size < w1.heap.size := by omega
  have bq0 : w1.cell? ⟨w.heap.size + 1, 0, none⟩ = some (.int .i64 o.s) := cel_below hb (by rw [World.cell?_alloc_at _ _ _ _ (by simp)]; rfl)
  have bq1 : w1.cell? ⟨w.heap.size + 1, 1, none⟩ = some (.int .i64 o.k) := cel_below hb (by rw [World.cell?_alloc_at _ _ _ _ (by simp)]; rfl)
  have bq2 : w1.cell? ⟨w.heap.size + 1, 2, none⟩ = some (.int .i64 o.a) := cel_below hb (by rw [World.cell?_alloc_at _ _ _ _ (by simp)]; rfl)
  have z1 : w.heap.size + 1 < w1.heap.size := by omega
  have HFo := Lib.hid ((fz_keep ⟨by simp, fun o => World.frozen?_alloc_at _ _ _ _ (by simp)⟩ hb : Fz w1 (w.heap.size + 1)))
  have HNo := Lib.hid ((nc_keep (nc_new _ _ _ _ _ _ (by simp)) hb : Nc w1 (w.heap.size + 1)))
  clear hb zz
  have k1 := K1.out
  have k2 := K2.out
  have k3 := K3.out
  have k4 := K4.out
  have k5 := K5.out
  have k6 := K6.out
  have k7 := K7.out
  go_wp2_with fail
  clear k1 k2 k3 k4 k5 k6 k7
  ((with_reducible refine (HWh.out _).mono ?_); rintro e w2 ⟨rfl, hb⟩)
  replace HW := Lib.hid (below_step HW.out (hb))
  have zz : w1.heap.size + 0 ≤ w2.heap.size := by have := hb.size; (try simp at this); omega
  replace aq0 : w2.cell? ⟨w.heap.size, 0, none⟩ = some (.int .i64 m.s) := cel_below hb (aq0)
  replace aq1 : w2.cell? ⟨w.heap.size, 1, none⟩ = some (.int .i64 m.k) := cel_below hb (aq1)
  replace aq2 : w2.cell? ⟨w.heap.size, 2, none⟩ = some (.int .i64 m.a) := cel_below hb (aq2)
  replace bq0 : w2.cell? ⟨w.heap.size + 1, 0, none⟩ = some (.int .i64 o.s) := cel_below hb (bq0)
  replace bq1 : w2.cell? ⟨w.heap.size + 1, 1, none⟩ = some (.int .i64 o.k) := cel_below hb (bq1)
  replace bq2 : w2.cell? ⟨w.heap.size + 1, 2, none⟩ = some (.int .i64 o.a) := cel_below hb (bq2)
  replace z0 : w.heap.size < w2.heap.size := by omega
  replace z1 : w.heap.size + 1 < w2.heap.size := by omega
  replace HFo := Lib.hid (fz_keep HFo.out (below_step (Below.refl _ w1) hb))
  replace HNo := Lib.hid (nc_keep HNo.out (below_step (Below.refl _ w1) hb))
  clear hb zz
  have y2 := z1
  have k1 := K1.out
  have k2 := K2.out
  have k3 := K3.out
  have k4 := K4.out
  have k5 := K5.out
  have k6 := K6.out
  have k7 := K7.out
  go_wp2_with fail
  clear k1 k2 k3 k4 k5 k6 k7
  ((with_reducible refine (HSt.out _).mono ?_); rintro e w3 ⟨rfl, hb⟩)
  replace HW := Lib.hid (below_step HW.out (below_alloc1 hb))
  have zz : w2.heap.size + 1 ≤ w3.heap.size := by have := hb.size; (try simp at this); omega
  replace aq0 : w3.cell? ⟨w.heap.size, 0, none⟩ = some (.int .i64 m.s) := cel_below hb (cell_alloc _ (aq0))
  replace aq1 : w3.cell? ⟨w.heap.size, 1, none⟩ = some (.int .i64 m.k) := cel_below hb (cell_alloc _ (aq1))
  replace aq2 : w3.cell? ⟨w.heap.size, 2, none⟩ = some (.int .i64 m.a) := cel_below hb (cell_alloc _ (aq2))
  replace bq0 : w3.cell? ⟨w.heap.size + 1, 0, none⟩ = some (.int .i64 o.s) := cel_below hb (cell_alloc _ (bq0))
  replace bq1 : w3.cell? ⟨w.heap.size + 1, 1, none⟩ = some (.int .i64 o.k) := cel_below hb (cell_alloc _ (bq1))
  replace bq2 : w3.cell? ⟨w.heap.size + 1, 2, none⟩ = some (.int .i64 o.a) := cel_below hb (cell_alloc _ (bq2))
  replace z0 : w.heap.size < w3.heap.size := by omega
  replace z1 : w.heap.size + 1 < w3.heap.size := by omega
  replace HFo := Lib.hid (fz_keep HFo.out (below_step (Below.alloc (Below.refl _ w2) (by first | exact Nat.le_refl _ | (simp; omega) | simp) _) hb))
  replace HNo := Lib.hid (nc_keep HNo.out (below_step (Below.alloc (Below.refl _ w2) (by first | exact Nat.le_refl _ | (simp; omega) | simp) _) hb))
  have lq0 : w3.cell? ⟨w2.heap.size, 0, none⟩ = some (.int .i64 3) := cel_below hb (by rw [World.cell?_alloc_at _ _ _ _ (by simp)]; rfl)
  have lq1 : w3.cell? ⟨w2.heap.size, 1, none⟩ = some (.int .i64 0) := cel_below hb (by rw [World.cell?_alloc_at _ _ _ _ (by simp)]; rfl)
  have lq2 : w3.cell? ⟨w2.heap.size, 2, none⟩ = some (.int .i64 0) := cel_below hb (by rw [World.cell?_alloc_at _ _ _ _ (by simp)]; rfl)
  have lq3 : w3.cell? ⟨w2.heap.size, 3, none⟩ = some (.int .i64 0) := cel_below hb (by rw [World.cell?_alloc_at _ _ _ _ (by simp)]; rfl)
  have lq4 : w3.cell? ⟨w2.heap.size, 4, none⟩ = some (.int .i64 kap) := cel_below hb (by rw [World.cell?_alloc_at _ _ _ _ (by simp)]; rfl)
  have lq5 : w3.cell? ⟨w2.heap.size, 5, none⟩ = some (.int .i64 0) := cel_below hb (by rw [World.cell?_alloc_at _ _ _ _ (by simp)]; rfl)
  have lq6 : w3.cell? ⟨w2.heap.size, 6, none⟩ = some (.int .i64 1) := cel_below hb (by rw [World.cell?_alloc_at _ _ _ _ (by simp)]; rfl)
  have lq7 : w3.cell? ⟨w2.heap.size, 7, none⟩ = some (.int .i64 2) := cel_below hb (by rw [World.cell?_alloc_at _ _ _ _ (by simp)]; rfl)
  have lq8 : w3.cell? ⟨w2.heap.size, 8, none⟩ = some (.int .i64 3) := cel_below hb (by rw [World.cell?_alloc_at _ _ _ _ (by simp)]; rfl)
  have lq9 : w3.cell? ⟨w2.heap.size, 9, none⟩ = some (.int .i64 4) := cel_below hb (by rw [World.cell?_alloc_at _ _ _ _ (by simp)]; rfl)
  have lq10 : w3.cell? ⟨w2.heap.size, 10, none⟩ = some (.int .i64 16) := cel_below hb (by rw [World.cell?_alloc_at _ _ _ _ (by simp)]; rfl)
  have lq11 : w3.cell? ⟨w2.heap.size, 11, none⟩ = some (.int .i64 16) := cel_below hb (by rw [World.cell?_alloc_at _ _ _ _ (by simp)]; rfl)
  have lq12 : w3.cell? ⟨w2.heap.size, 12, none⟩ = some (.int .i64 16) := cel_below hb (by rw [World.cell?_alloc_at _ _ _ _ (by simp)]; rfl)
  have z2 : w2.heap.size < w3.heap.size := by omega
  clear hb zz
  go_wp2_with fail
  ((with_reducible refine (HLd.out _).mono ?_); rintro e w4 ⟨am, cm, rfl, hq, hb⟩)
  replace HW := Lib.hid (below_step HW.out (hb))
  have zz : w3.heap.size + 0 ≤ w4.heap.size := by have := hb.size; (try simp at this); omega
  replace aq0 : w4.cell? ⟨w.heap.size, 0, none⟩ = some (.int .i64 m.s) := cel_below hb (aq0)
  replace aq1 : w4.cell? ⟨w.heap.size, 1, none⟩ = some (.int .i64 m.k) := cel_below hb (aq1)
  replace aq2 : w4.cell? ⟨w.heap.size, 2, none⟩ = some (.int .i64 m.a) := cel_below hb (aq2)
  replace bq0 : w4.cell? ⟨w.heap.size + 1, 0, none⟩ = some (.int .i64 o.s) := cel_below hb (bq0)
  replace bq1 : w4.cell? ⟨w.heap.size + 1, 1, none⟩ = some (.int .i64 o.k) := cel_below hb (bq1)
  replace bq2 : w4.cell? ⟨w.heap.size + 1, 2, none⟩ = some (.int .i64 o.a) := cel_below hb (bq2)
  replace lq0 : w4.cell? ⟨w2.heap.size, 0, none⟩ = some (.int .i64 3) := cel_below hb (lq0)
  replace lq1 : w4.cell? ⟨w2.heap.size, 1, none⟩ = some (.int .i64 0) := cel_below hb (lq1)
  replace lq2 : w4.cell? ⟨w2.heap.size, 2, none⟩ = some (.int .i64 0) := cel_below hb (lq2)
  replace lq3 : w4.cell? ⟨w2.heap.size, 3, none⟩ = some (.int .i64 0) := cel_below hb (lq3)
  replace lq4 : w4.cell? ⟨w2.heap.size, 4, none⟩ = some (.int .i64 kap) := cel_below hb (lq4)
  replace lq5 : w4.cell? ⟨w2.heap.size, 5, none⟩ = some (.int .i64 0) := cel_below hb (lq5)
  replace lq6 : w4.cell? ⟨w2.heap.size, 6, none⟩ = some (.int .i64 1) := cel_below hb (lq6)
  replace lq7 : w4.cell? ⟨w2.heap.size, 7, none⟩ = some (.int .i64 2) := cel_below hb (lq7)
  replace lq8 : w4.cell? ⟨w2.heap.size, 8, none⟩ = some (.int .i64 3) := cel_below hb (lq8)
  replace lq9 : w4.cell? ⟨w2.heap.size, 9, none⟩ = some (.int .i64 4) := cel_below hb (lq9)
  replace lq10 : w4.cell? ⟨w2.heap.size, 10, none⟩ = some (.int .i64 16) := cel_below hb (lq10)
  replace lq11 : w4.cell? ⟨w2.heap.size, 11, none⟩ = some (.int .i64 16) := cel_below hb (lq11)
  replace lq12 : w4.cell? ⟨w2.heap.size, 12, none⟩ = some (.int .i64 16) := cel_below hb (lq12)
  replace z0 : w.heap.size < w4.heap.size := by omega
  replace z1 : w.heap.size + 1 < w4.heap.size := by omega
  replace z2 : w2.heap.size < w4.heap.size := by omega
  replace HFo := Lib.hid (fz_keep HFo.out (below_step (Below.refl _ w3) hb))
  replace HNo := Lib.hid (nc_keep HNo.out (below_step (Below.refl _ w3) hb))
  have HM := Lib.hid (hq)
  clear hb zz
  clear hq
  have y4 := z1
  go_upto_if 46 with fail
  obtain ⟨wq, hwq⟩ : ∃ W, W = (w4.alloc (.cells #[.slice am 16 cm] 55)).alloc (.cells #[.int .i64 0, .int .i64 2, .int .i64 0, .int .i64 0, .int .i64 m.s, .int .i64 m.k, .int .i64 m.a, .slice none 0 0, .slice none 0 0, .slice none 0 0] 28) := ⟨_, rfl⟩
  rw [← hwq]
  have mmq0 : wq.cell? ⟨w4.heap.size, 0, none⟩ = some (.slice am 16 cm) := by rw [hwq]; exact cell_alloc _ (by rw [World.cell?_alloc_at _ _ _ _ rfl]; rfl)
  have opq0 : wq.cell? ⟨w4.heap.size + 1, 0, none⟩ = some (.int .i64 0) := by rw [hwq]; rw [World.cell?_alloc_at _ _ _ _ (by simp)]; rfl
  have opq1 : wq.cell? ⟨w4.heap.size + 1, 1, none⟩ = some (.int .i64 2) := by rw [hwq]; rw [World.cell?_alloc_at _ _ _ _ (by simp)]; rfl
  have opq2 : wq.cell? ⟨w4.heap.size + 1, 2, none⟩ = some (.int .i64 0) := by rw [hwq]; rw [World.cell?_alloc_at _ _ _ _ (by simp)]; rfl
  have opq3 : wq.cell? ⟨w4.heap.size + 1, 3, none⟩ = some (.int .i64 0) := by rw [hwq]; rw [World.cell?_alloc_at _ _ _ _ (by simp)]; rfl
  have opq4 : wq.cell? ⟨w4.heap.size + 1, 4, none⟩ = some (.int .i64 m.s) := by rw [hwq]; rw [World.cell?_alloc_at _ _ _ _ (by simp)]; rfl
  have opq5 : wq.cell? ⟨w4.heap.size + 1, 5, none⟩ = some (.int .i64 m.k) := by rw [hwq]; rw [World.cell?_alloc_at _ _ _ _ (by simp)]; rfl
  have opq6 : wq.cell? ⟨w4.heap.size + 1, 6, none⟩ = some (.int .i64 m.a) := by rw [hwq]; rw [World.cell?_alloc_at _ _ _ _ (by simp)]; rfl
  have opq7 : wq.cell? ⟨w4.heap.size + 1, 7, none⟩ = some (.slice none 0 0) := by rw [hwq]; rw [World.cell?_alloc_at _ _ _ _ (by simp)]; rfl
  have opq8 : wq.cell? ⟨w4.heap.size + 1, 8, none⟩ = some (.slice none 0 0) := by rw [hwq]; rw [World.cell?_alloc_at _ _ _ _ (by simp)]; rfl
  have opq9 : wq.cell? ⟨w4.heap.size + 1, 9, none⟩ = some (.slice none 0 0) := by rw [hwq]; rw [World.cell?_alloc_at _ _ _ _ (by simp)]; rfl
  have fp : ∀ o, wq.frozen? ⟨w4.heap.size + 1, o, none⟩ = false := fun o => by rw [hwq]; exact World.frozen?_alloc_at _ _ _ _ (by simp)
  go_cut [46] (fun s46 wx => wx = if own then wq.setCell ⟨w4.heap.size + 1, 2, none⟩ (.int .i64 1) else wq)
  case first =>
    clear hwq
    cases own
    · go_wp2
      go_meet
      exact rfl
    · go_wp2
      go_meet
      exact rfl
  case rest =>
    obtain ⟨wd, hwd⟩ : ∃ W, W = wc := ⟨_, rfl⟩
    rw [← hwd] at hcut ⊢
    clear hwd
    have hbc : Below w4.heap.size w4 wd := by
      rw [hcut, hwq]
      split
      · exact ((((Below.refl _ _).alloc (Nat.le_refl _) _).alloc (by simp) _).setCell (by dsimp only; omega) _)
      · exact (((Below.refl _ _).alloc (Nat.le_refl _) _).alloc (by simp) _)
    replace aq0 := cel_below hbc aq0
    replace aq1 := cel_below hbc aq1
    replace aq2 := cel_below hbc aq2
    replace bq0 := cel_below hbc bq0
    replace bq1 := cel_below hbc bq1
    replace bq2 := cel_below hbc bq2
    replace lq0 := cel_below hbc lq0
    replace lq1 := cel_below hbc lq1
    replace lq2 := cel_below hbc lq2
    replace lq3 := cel_below hbc lq3
    replace lq4 := cel_below hbc lq4
    replace lq5 := cel_below hbc lq5
    replace lq6 := cel_below hbc lq6
    replace lq7 := cel_below hbc lq7
    replace lq8 := cel_below hbc lq8
    replace lq9 := cel_below hbc lq9
    replace lq10 := cel_below hbc lq10
    replace lq11 := cel_below hbc lq11
    replace lq12 := cel_below hbc lq12
    replace mmq0 : wd.cell? ⟨w4.heap.size, 0, none⟩ = some (.slice am 16 cm) := by
      rw [hcut]
      split
      · exact keepA_ mmq0 (by omega)
      · exact mmq0
    replace opq0 : wd.cell? ⟨w4.heap.size + 1, 0, none⟩ = some (.int .i64 0) := by
      rw [hcut]
      split
      · exact keepA_ opq0 (by omega)
      · exact opq0
    replace opq1 : wd.cell? ⟨w4.heap.size + 1, 1, none⟩ = some (.int .i64 2) := by
      rw [hcut]
      split
      · exact keepA_ opq1 (by omega)
      · exact opq1
    replace opq2 : wd.cell? ⟨w4.heap.size + 1, 2, none⟩ = some (.int .i64 bq) := by
      rw [hcut, HOwn.out]
      split
      · exact World.cell?_setCell_same _ _ _ opq2
      · exact opq2
    replace opq3 : wd.cell? ⟨w4.heap.size + 1, 3, none⟩ = some (.int .i64 0) := by
      rw [hcut]
      split
      · exact keepA_ opq3 (by omega)
      · exact opq3
    replace opq4 : wd.cell? ⟨w4.heap.size + 1, 4, none⟩ = some (.int .i64 m.s) := by
      rw [hcut]
      split
      · exact keepA_ opq4 (by omega)
      · exact opq4
    replace opq5 : wd.cell? ⟨w4.heap.size + 1, 5, none⟩ = some (.int .i64 m.k) := by
      rw [hcut]
      split
      · exact keepA_ opq5 (by omega)
      · exact opq5
    replace opq6 : wd.cell? ⟨w4.heap.size + 1, 6, none⟩ = some (.int .i64 m.a) := by
      rw [hcut]
      split
      · exact keepA_ opq6 (by omega)
      · exact opq6
    replace opq7 : wd.cell? ⟨w4.heap.size + 1, 7, none⟩ = some (.slice none 0 0) := by
      rw [hcut]
      split
      · exact keepA_ opq7 (by omega)
      · exact opq7
    replace opq8 : wd.cell? ⟨w4.heap.size + 1, 8, none⟩ = some (.slice none 0 0) := by
      rw [hcut]
      split
      · exact keepA_ opq8 (by omega)
      · exact opq8
    replace opq9 : wd.cell? ⟨w4.heap.size + 1, 9, none⟩ = some (.slice none 0 0) := by
      rw [hcut]
      split
      · exact keepA_ opq9 (by omega)
      · exact opq9
    replace HM := Lib.hid (hasInts_keep HM.out hbc)
    replace HFo := Lib.hid (fz_keep HFo.out hbc)
    replace HNo := Lib.hid (nc_keep HNo.out hbc)
    replace HW := Lib.hid (below_step HW.out hbc)
    replace z0 := lt_below hbc z0
    replace z1 := lt_below hbc z1
    replace z2 := lt_below hbc z2
    clear hbc hcut hwq fp
    have k1 := K1.out
    have k2 := K2.out
    have k3 := K3.out
    have k4 := K4.out
    have k5 := K5.out
    have k6 := K6.out
    have k7 := K7.out
    go_wp2_with fail
    clear k1 k2 k3 k4 k5 k6 k7
    ((with_reducible refine (HAl.out _ _ _ HM.out (HI.out i1 i2)).mono ?_); rintro e w5 ⟨a2, c2, rfl, hq, hb⟩)
    replace HW := Lib.hid (below_step HW.out (hb))
    have zz : wd.heap.size + 0 ≤ w5.heap.size := by have := hb.size; (try simp at this); omega
    replace aq0 : w5.cell? ⟨w.heap.size, 0, none⟩ = some (.int .i64 m.s) := cel_below hb (aq0)
    replace aq1 : w5.cell? ⟨w.heap.size, 1, none⟩ = some (.int .i64 m.k) := cel_below hb (aq1)
    replace aq2 : w5.cell? ⟨w.heap.size, 2, none⟩ = some (.int .i64 m.a) := cel_below hb (aq2)
    replace bq0 : w5.cell? ⟨w.heap.size + 1, 0, none⟩ = some (.int .i64 o.s) := cel_below hb (bq0)
    replace bq1 : w5.cell? ⟨w.heap.size + 1, 1, none⟩ = some (.int .i64 o.k) := cel_below hb (bq1)
    replace bq2 : w5.cell? ⟨w.heap.size + 1, 2, none⟩ = some (.int .i64 o.a) := cel_below hb (bq2)
    replace lq0 : w5.cell? ⟨w2.heap.size, 0, none⟩ = some (.int .i64 3) := cel_below hb (lq0)
    replace lq1 : w5.cell? ⟨w2.heap.size, 1, none⟩ = some (.int .i64 0) := cel_below hb (lq1)
    replace lq2 : w5.cell? ⟨w2.heap.size, 2, none⟩ = some (.int .i64 0) := cel_below hb (lq2)
    replace lq3 : w5.cell? ⟨w2.heap.size, 3, none⟩ = some (.int .i64 0) := cel_below hb (lq3)
    replace lq4 : w5.cell? ⟨w2.heap.size, 4, none⟩ = some (.int .i64 kap) := cel_below hb (lq4)
    replace lq5 : w5.cell? ⟨w2.heap.size, 5, none⟩ = some (.int .i64 0) := cel_below hb (lq5)
    replace lq6 : w5.cell? ⟨w2.heap.size, 6, none⟩ = some (.int .i64 1) := cel_below hb (lq6)
    replace lq7 : w5.cell? ⟨w2.heap.size, 7, none⟩ = some (.int .i64 2) := cel_below hb (lq7)
    replace lq8 : w5.cell? ⟨w2.heap.size, 8, none⟩ = some (.int .i64 3) := cel_below hb (lq8)
    replace lq9 : w5.cell? ⟨w2.heap.size, 9, none⟩ = some (.int .i64 4) := cel_below hb (lq9)
    replace lq10 : w5.cell? ⟨w2.heap.size, 10, none⟩ = some (.int .i64 16) := cel_below hb (lq10)
    replace lq11 : w5.cell? ⟨w2.heap.size, 11, none⟩ = some (.int .i64 16) := cel_below hb (lq11)
    replace lq12 : w5.cell? ⟨w2.heap.size, 12, none⟩ = some (.int .i64 16) := cel_below hb (lq12)
    replace mmq0 : w5.cell? ⟨w4.heap.size, 0, none⟩ = some (.slice am 16 cm) := cel_below hb (mmq0)
    replace opq0 : w5.cell? ⟨w4.heap.size + 1, 0, none⟩ = some (.int .i64 0) := cel_below hb (opq0)
    replace opq1 : w5.cell? ⟨w4.heap.size + 1, 1, none⟩ = some (.int .i64 2) := cel_below hb (opq1)
    replace opq2 : w5.cell? ⟨w4.heap.size + 1, 2, none⟩ = some (.int .i64 bq) := cel_below hb (opq2)
    replace opq3 : w5.cell? ⟨w4.heap.size + 1, 3, none⟩ = some (.int .i64 0) := cel_below hb (opq3)
    replace opq4 : w5.cell? ⟨w4.heap.size + 1, 4, none⟩ = some (.int .i64 m.s) := cel_below hb (opq4)
    replace opq5 : w5.cell? ⟨w4.heap.size + 1, 5, none⟩ = some (.int .i64 m.k) := cel_below hb (opq5)
    replace opq6 : w5.cell? ⟨w4.heap.size + 1, 6, none⟩ = some (.int .i64 m.a) := cel_below hb (opq6)
    replace opq7 : w5.cell? ⟨w4.heap.size + 1, 7, none⟩ = some (.slice none 0 0) := cel_below hb (opq7)
    replace opq8 : w5.cell? ⟨w4.heap.size + 1, 8, none⟩ = some (.slice none 0 0) := cel_below hb (opq8)
    replace opq9 : w5.cell? ⟨w4.heap.size + 1, 9, none⟩ = some (.slice none 0 0) := cel_below hb (opq9)
    replace z0 : w.heap.size < w5.heap.size := by omega
    replace z1 : w.heap.size + 1 < w5.heap.size := by omega
    replace z2 : w2.heap.size < w5.heap.size := by omega
    replace HFo := Lib.hid (fz_keep HFo.out (below_step (Below.refl _ wd) hb))
    replace HNo := Lib.hid (nc_keep HNo.out (below_step (Below.refl _ wd) hb))
    replace HM := Lib.hid (hasInts_keep HM.out (below_step (Below.refl _ wd) hb))
    have HZ := Lib.hid (hq)
    clear hb zz
    clear hq
    clear opq0 opq1 opq2 opq3 opq4 opq5 opq6 opq7 opq8 opq9
    have ff2 : ∀ o1 o2 : Obj, ((w5.alloc o1).alloc o2).frozen? ⟨w.heap.size + 1, 2, none⟩ = false := fun o1 o2 => frozen_alloc _ (by simp; omega) (frozen_alloc _ HFo.out.1 (HFo.out.2 2))
    have fc2 : ∀ o1 o2 : Obj, ((w5.alloc o1).alloc o2).cell? ⟨w.heap.size + 1, 2, none⟩ = some (.int .i64 o.a) := fun o1 o2 => cell_alloc _ (cell_alloc _ bq2)
    have k1 := K1.out
    have k2 := K2.out
    have k3 := K3.out
    have k4 := K4.out
    have k5 := K5.out
    have k6 := K6.out
    have k7 := K7.out
    go_upto_region 10 with fail
    clear k1 k2 k3 k4 k5 k6 k7
    obtain ⟨wb, hwb⟩ : ∃ W, W = ((w5.setCell ⟨w.heap.size + 1, 2, none⟩ (.int .i64 ty)).alloc (.cells #[.int .i64 V, .int .i64 0, .int .i64 0, .int .i64 0, .bool false, .bool false, .int .i64 0] 35)).alloc (.cells #[.slice a2 16 c2] 55) := ⟨_, rfl⟩
    rw [← hwb]
    have hsb : wb.heap.size = w5.heap.size + 1 + 1 := by rw [hwb]; simp
    have hle : w.heap.size ≤ w5.heap.size := HW.out.size
    replace HW := Lib.hid (show Below w.heap.size w wb by rw [hwb]; exact ((HW.out.setCell (by dsimp only; omega) _).alloc (by simp; omega) _).alloc (by simp; omega) _)
    replace aq0 : wb.cell? ⟨w.heap.size, 0, none⟩ = some (.int .i64 m.s) := by rw [hwb]; exact cell_alloc _ (cell_alloc _ (keepA_ aq0 (by omega)))
    replace aq1 : wb.cell? ⟨w.heap.size, 1, none⟩ = some (.int .i64 m.k) := by rw [hwb]; exact cell_alloc _ (cell_alloc _ (keepA_ aq1 (by omega)))
    replace aq2 : wb.cell? ⟨w.heap.size, 2, none⟩ = some (.int .i64 m.a) := by rw [hwb]; exact cell_alloc _ (cell_alloc _ (keepA_ aq2 (by omega)))
    replace bq0 : wb.cell? ⟨w.heap.size + 1, 0, none⟩ = some (.int .i64 o.s) := by rw [hwb]; exact cell_alloc _ (cell_alloc _ (keepA_ bq0 (by omega)))
    replace bq1 : wb.cell? ⟨w.heap.size + 1, 1, none⟩ = some (.int .i64 o.k) := by rw [hwb]; exact cell_alloc _ (cell_alloc _ (keepA_ bq1 (by omega)))
    replace bq2 : wb.cell? ⟨w.heap.size + 1, 2, none⟩ = some (.int .i64 ty) := by rw [hwb]; exact cell_alloc _ (cell_alloc _ (World.cell?_setCell_same _ _ _ bq2))
    replace lq0 : wb.cell? ⟨w2.heap.size, 0, none⟩ = some (.int .i64 3) := by rw [hwb]; exact cell_alloc _ (cell_alloc _ (keepA_ lq0 (by omega)))
    replace lq1 : wb.cell? ⟨w2.heap.size, 1, none⟩ = some (.int .i64 0) := by rw [hwb]; exact cell_alloc _ (cell_alloc _ (keepA_ lq1 (by omega)))
    replace lq2 : wb.cell? ⟨w2.heap.size, 2, none⟩ = some (.int .i64 0) := by rw [hwb]; exact cell_alloc _ (cell_alloc _ (keepA_ lq2 (by omega)))
    replace lq3 : wb.cell? ⟨w2.heap.size, 3, none⟩ = some (.int .i64 0) := by rw [hwb]; exact cell_alloc _ (cell_alloc _ (keepA_ lq3 (by omega)))
    replace lq4 : wb.cell? ⟨w2.heap.size, 4, none⟩ = some (.int .i64 kap) := by rw [hwb]; exact cell_alloc _ (cell_alloc _ (keepA_ lq4 (by omega)))
    replace lq5 : wb.cell? ⟨w2.heap.size, 5, none⟩ = some (.int .i64 0) := by rw [hwb]; exact cell_alloc _ (cell_alloc _ (keepA_ lq5 (by omega)))
    replace lq6 : wb.cell? ⟨w2.heap.size, 6, none⟩ = some (.int .i64 1) := by rw [hwb]; exact cell_alloc _ (cell_alloc _ (keepA_ lq6 (by omega)))
    replace lq7 : wb.cell? ⟨w2.heap.size, 7, none⟩ = some (.int .i64 2) := by rw [hwb]; exact cell_alloc _ (cell_alloc _ (keepA_ lq7 (by omega)))
    replace lq8 : wb.cell? ⟨w2.heap.size, 8, none⟩ = some (.int .i64 3) := by rw [hwb]; exact cell_alloc _ (cell_alloc _ (keepA_ lq8 (by omega)))
    replace lq9 : wb.cell? ⟨w2.heap.size, 9, none⟩ = some (.int .i64 4) := by rw [hwb]; exact cell_alloc _ (cell_alloc _ (keepA_ lq9 (by omega)))
    replace lq10 : wb.cell? ⟨w2.heap.size, 10, none⟩ = some (.int .i64 16) := by rw [hwb]; exact cell_alloc _ (cell_alloc _ (keepA_ lq10 (by omega)))
    replace lq11 : wb.cell? ⟨w2.heap.size, 11, none⟩ = some (.int .i64 16) := by rw [hwb]; exact cell_alloc _ (cell_alloc _ (keepA_ lq11 (by omega)))
    replace lq12 : wb.cell? ⟨w2.heap.size, 12, none⟩ = some (.int .i64 16) := by rw [hwb]; exact cell_alloc _ (cell_alloc _ (keepA_ lq12 (by omega)))
    replace mmq0 : wb.cell? ⟨w4.heap.size, 0, none⟩ = some (.slice am 16 cm) := by rw [hwb]; exact cell_alloc _ (cell_alloc _ (keepA_ mmq0 (by omega)))
    have vq0 : wb.cell? ⟨w5.heap.size, 0, none⟩ = some (.int .i64 V) := by rw [hwb]; exact cell_alloc _ (by rw [World.cell?_alloc_at _ _ _ _ (by simp)]; rfl)
    have vq1 : wb.cell? ⟨w5.heap.size, 1, none⟩ = some (.int .i64 0) := by rw [hwb]; exact cell_alloc _ (by rw [World.cell?_alloc_at _ _ _ _ (by simp)]; rfl)
    have vq2 : wb.cell? ⟨w5.heap.size, 2, none⟩ = some (.int .i64 0) := by rw [hwb]; exact cell_alloc _ (by rw [World.cell?_alloc_at _ _ _ _ (by simp)]; rfl)
    have vq3 : wb.cell? ⟨w5.heap.size, 3, none⟩ = some (.int .i64 0) := by rw [hwb]; exact cell_alloc _ (by rw [World.cell?_alloc_at _ _ _ _ (by simp)]; rfl)
    have vq4 : wb.cell? ⟨w5.heap.size, 4, none⟩ = some (.bool false) := by rw [hwb]; exact cell_alloc _ (by rw [World.cell?_alloc_at _ _ _ _ (by simp)]; rfl)
    have vq5 : wb.cell? ⟨w5.heap.size, 5, none⟩ = some (.bool false) := by rw [hwb]; exact cell_alloc _ (by rw [World.cell?_alloc_at _ _ _ _ (by simp)]; rfl)
    have vq6 : wb.cell? ⟨w5.heap.size, 6, none⟩ = some (.int .i64 0) := by rw [hwb]; exact cell_alloc _ (by rw [World.cell?_alloc_at _ _ _ _ (by simp)]; rfl)
    have nq0 : wb.cell? ⟨w5.heap.size + 1, 0, none⟩ = some (.slice a2 16 c2) := by rw [hwb]; rw [World.cell?_alloc_at _ _ _ _ (by simp)]; rfl
    replace HM : Hid (HasInts wb _ _) := Lib.hid (by rw [hwb]; exact hasInts_keep (hasInts_setN HM.out (by simp [laidZ]) HNo.out) (below_alloc2 (Below.refl _ _)))
    replace HZ : Hid (HasInts wb _ _) := Lib.hid (by rw [hwb]; exact hasInts_keep (hasInts_setN HZ.out (by have := HZl.out; omega) HNo.out) (below_alloc2 (Below.refl _ _)))
    clear hwb hle ff2 fc2 HFo HNo
    have hBb := hsb
    clear hsb hBb z0 z1
    have Y1 := Lib.hid y2
    clear y2
    have k1 := K1.out
    have k2 := K2.out
    have k3 := K3.out
    have k4 := K4.out
    have k5 := K5.out
    have k6 := K6.out
    have k7 := K7.out
    go_wp2_with fail
    clear k1 k2 k3 k4 k5 k6 k7
    ((with_reducible refine (HCh.out _).mono ?_); rintro e w6 ⟨rfl, hb⟩)
    replace HW := Lib.hid (below_step HW.out (hb))
    have zz : wb.heap.size + 0 ≤ w6.heap.size := by have := hb.size; (try simp at this); omega
    replace aq0 : w6.cell? ⟨w.heap.size, 0, none⟩ = some (.int .i64 m.s) := cel_below hb (aq0)
    replace aq1 : w6.cell? ⟨w.heap.size, 1, none⟩ = some (.int .i64 m.k) := cel_below hb (aq1)
    replace aq2 : w6.cell? ⟨w.heap.size, 2, none⟩ = some (.int .i64 m.a) := cel_below hb (aq2)
    replace bq0 : w6.cell? ⟨w.heap.size + 1, 0, none⟩ = some (.int .i64 o.s) := cel_below hb (bq0)
    replace bq1 : w6.cell? ⟨w.heap.size + 1, 1, none⟩ = some (.int .i64 o.k) := cel_below hb (bq1)
    replace bq2 : w6.cell? ⟨w.heap.size + 1, 2, none⟩ = some (.int .i64 ty) := cel_below hb (bq2)
    replace lq0 : w6.cell? ⟨w2.heap.size, 0, none⟩ = some (.int .i64 3) := cel_below hb (lq0)
    replace lq1 : w6.cell? ⟨w2.heap.size, 1, none⟩ = some (.int .i64 0) := cel_below hb (lq1)
    replace lq2 : w6.cell? ⟨w2.heap.size, 2, none⟩ = some (.int .i64 0) := cel_below hb (lq2)
    replace lq3 : w6.cell? ⟨w2.heap.size, 3, none⟩ = some (.int .i64 0) := cel_below hb (lq3)
    replace lq4 : w6.cell? ⟨w2.heap.size, 4, none⟩ = some (.int .i64 kap) := cel_below hb (lq4)
    replace lq5 : w6.cell? ⟨w2.heap.size, 5, none⟩ = some (.int .i64 0) := cel_below hb (lq5)
    replace lq6 : w6.cell? ⟨w2.heap.size, 6, none⟩ = some (.int .i64 1) := cel_below hb (lq6)
    replace lq7 : w6.cell? ⟨w2.heap.size, 7, none⟩ = some (.int .i64 2) := cel_below hb (lq7)
    replace lq8 : w6.cell? ⟨w2.heap.size, 8, none⟩ = some (.int .i64 3) := cel_below hb (lq8)
    replace lq9 : w6.cell? ⟨w2.heap.size, 9, none⟩ = some (.int .i64 4) := cel_below hb (lq9)
    replace lq10 : w6.cell? ⟨w2.heap.size, 10, none⟩ = some (.int .i64 16) := cel_below hb (lq10)
    replace lq11 : w6.cell? ⟨w2.heap.size, 11, none⟩ = some (.int .i64 16) := cel_below hb (lq11)
    replace lq12 : w6.cell? ⟨w2.heap.size, 12, none⟩ = some (.int .i64 16) := cel_below hb (lq12)
    replace mmq0 : w6.cell? ⟨w4.heap.size, 0, none⟩ = some (.slice am 16 cm) := cel_below hb (mmq0)
    replace vq0 : w6.cell? ⟨w5.heap.size, 0, none⟩ = some (.int .i64 V) := cel_below hb (vq0)
    replace vq1 : w6.cell? ⟨w5.heap.size, 1, none⟩ = some (.int .i64 0) := cel_below hb (vq1)
    replace vq2 : w6.cell? ⟨w5.heap.size, 2, none⟩ = some (.int .i64 0) := cel_below hb (vq2)
    replace vq3 : w6.cell? ⟨w5.heap.size, 3, none⟩ = some (.int .i64 0) := cel_below hb (vq3)
    replace vq4 : w6.cell? ⟨w5.heap.size, 4, none⟩ = some (.bool false) := cel_below hb (vq4)
    replace vq5 : w6.cell? ⟨w5.heap.size, 5, none⟩ = some (.bool false) := cel_below hb (vq5)
    replace vq6 : w6.cell? ⟨w5.heap.size, 6, none⟩ = some (.int .i64 0) := cel_below hb (vq6)
    replace nq0 : w6.cell? ⟨w5.heap.size + 1, 0, none⟩ = some (.slice a2 16 c2) := cel_below hb (nq0)
    replace HM := Lib.hid (hasInts_keep HM.out (below_step (Below.refl _ wb) hb))
    replace HZ := Lib.hid (hasInts_keep HZ.out (below_step (Below.refl _ wb) hb))
    clear hb zz
    have k1 := K1.out
    have k2 := K2.out
    have k3 := K3.out
    have k4 := K4.out
    have k5 := K5.out
    have k6 := K6.out
    have k7 := K7.out
    go_wp2_with fail
    clear k1 k2 k3 k4 k5 k6 k7
    refine wp_region_held_drew (S := fun W => W.cell? ⟨w2.heap.size, 0, none⟩ = some (.int .i64 3) ∧ W.cell? ⟨w2.heap.size, 1, none⟩ = some (.int .i64 0) ∧ W.cell? ⟨w2.heap.size, 2, none⟩ = some (.int .i64 0) ∧ W.cell? ⟨w2.heap.size, 3, none⟩ = some (.int .i64 0) ∧ W.cell? ⟨w2.heap.size, 4, none⟩ = some (.int .i64 kap) ∧ W.cell? ⟨w2.heap.size, 5, none⟩ = some (.int .i64 0) ∧ W.cell? ⟨w2.heap.size, 6, none⟩ = some (.int .i64 1) ∧ W.cell? ⟨w2.heap.size, 7, none⟩ = some (.int .i64 2) ∧ W.cell? ⟨w2.heap.size, 8, none⟩ = some (.int .i64 3) ∧ W.cell? ⟨w2.heap.size, 9, none⟩ = some (.int .i64 4) ∧ W.cell? ⟨w2.heap.size, 10, none⟩ = some (.int .i64 16) ∧ W.cell? ⟨w2.heap.size, 11, none⟩ = some (.int .i64 16) ∧ W.cell? ⟨w2.heap.size, 12, none⟩ = some (.int .i64 16) ∧ W.cell? ⟨w4.heap.size, 0, none⟩ = some (.slice am 16 cm) ∧ W.cell? ⟨w5.heap.size, 0, none⟩ = some (.int .i64 V) ∧ W.cell? ⟨w5.heap.size, 1, none⟩ = some (.int .i64 0) ∧ W.cell? ⟨w5.heap.size, 2, none⟩ = some (.int .i64 0) ∧ W.cell? ⟨w5.heap.size, 3, none⟩ = some (.int .i64 0) ∧ W.cell? ⟨w5.heap.size, 4, none⟩ = some (.bool false) ∧ W.cell? ⟨w5.heap.size, 5, none⟩ = some (.bool false) ∧ W.cell? ⟨w5.heap.size, 6, none⟩ = some (.int .i64 0) ∧ W.cell? ⟨w5.heap.size + 1, 0, none⟩ = some (.slice a2 16 c2) ∧ HasInts W (.slice am 16 cm) (laidZ 2 s o) ∧ HasInts W (.slice a2 16 c2) Zf) (by kernel_rfl) ?_ (fun hHeld => ?_)
    · (try dsimp only); exact ⟨by first | assumption | go_simp, by first | assumption | go_simp, by first | assumption | go_simp, by first | assumption | go_simp, by first | assumption | go_simp, by first | assumption | go_simp, by first | assumption | go_simp, by first | assumption | go_simp, by first | assumption | go_simp, by first | assumption | go_simp, by first | assumption | go_simp, by first | assumption | go_simp, by first | assumption | go_simp, by first | assumption | go_simp, by first | assumption | go_simp, by first | assumption | go_simp, by first | assumption | go_simp, by first | assumption | go_simp, by first | assumption | go_simp, by first | assumption | go_simp, by first | assumption | go_simp, by first | assumption | go_simp, HM.out, HZ.out⟩
    replace HW := Lib.hid (below_drews HW.out 1)
    refine wpAnyH_take (i := 0) (oi := ?oi1) (v := ?v1) ?hi1 (by kernel_rfl) (by kernel_rfl) (by kernel_rfl) ?hQ1 (Or.inl ⟨?hw1, ?hy1⟩) (by assumption) ?rest1; (case hi1 => (simp only [List.getElem?_toArray, List.getElem?_cons_zero]; rfl)); (case hQ1 => exact fun _ _ _ h => h); (case hw1 => rfl); (case hy1 => ((intro w hSw); (try dsimp only at hSw); go_simp; (try with_reducible rfl)))
    (try simp only [Act.put, List.setIfInBounds_toArray, List.set_cons_zero, List.set_cons_succ])
    refine wpAnyH_take (i := 1) (oi := ?oi3) (v := ?v3) ?hi3 (by kernel_rfl) (by kernel_rfl) (by kernel_rfl) ?hQ3 (Or.inl ⟨?hw3, ?hy3⟩) (by assumption) ?rest3; (case hi3 => (simp only [List.getElem?_toArray, List.getElem?_cons_succ, List.getElem?_cons_zero]; rfl)); (case hQ3 => exact fun _ _ _ h => h); (case hw3 => rfl); (case hy3 => ((intro w hSw); (try dsimp only at hSw); go_simp; (try with_reducible rfl)))
    (try simp only [Act.put, List.setIfInBounds_toArray, List.set_cons_zero, List.set_cons_succ])
    refine wpAnyH_ready (rs := [2]) (by kernel_rfl) (by simp) ?_
    refine AllReadyH.cons (o := ?oi5) ?hi5 (fun K hK => ?rest5) AllReadyH.nil
    (case hi5 => (simp only [List.getElem?_toArray, List.getElem?_cons_succ, List.getElem?_cons_zero]; rfl))
    obtain ⟨s0, s1, s2, s3, s4, s5, s6, s7, s8, s9, s10, s11, s12, s13, s14, s15, s16, s17, s18, s19, s20, s21, t0, t1⟩ := hHeld
    go_simp
    ((with_reducible refine (HL2.out _).mono ?_); rintro e wx1 ⟨rfl, hb⟩)
    replace HW := Lib.hid (below_step HW.out hb)
    refine hK.out _ _ ?_ (fun hHeld => ?_)
    · (try dsimp only); exact ⟨cel_below hb s0, cel_below hb s1, cel_below hb s2, cel_below hb s3, cel_below hb s4, cel_below hb s5, cel_below hb s6, cel_below hb s7, cel_below hb s8, cel_below hb s9, cel_below hb s10, cel_below hb s11, cel_below hb s12, cel_below hb s13, cel_below hb s14, cel_below hb s15, cel_below hb s16, cel_below hb s17, cel_below hb s18, cel_below hb s19, cel_below hb s20, cel_below hb s21, hasInts_keep t0 hb, hasInts_keep t1 hb⟩
    clear hK K s0 s1 s2 s3 s4 s5 s6 s7 s8 s9 s10 s11 s12 s13 s14 s15 s16 s17 s18 s19 s20 s21 t0 t1 hb
    (try simp only [Act.put, List.setIfInBounds_toArray, List.set_cons_zero, List.set_cons_succ])
    refine wpAnyH_ready (rs := [3]) (by kernel_rfl) (by simp) ?_
    refine AllReadyH.cons (o := ?oi6) ?hi6 (fun K hK => ?rest6) AllReadyH.nil
    (case hi6 => (simp only [List.getElem?_toArray, List.getElem?_cons_succ, List.getElem?_cons_zero]; rfl))
    obtain ⟨s0, s1, s2, s3, s4, s5, s6, s7, s8, s9, s10, s11, s12, s13, s14, s15, s16, s17, s18, s19, s20, s21, t0, t1⟩ := hHeld
    go_simp
    ((with_reducible refine (HCe.out _ _ _ t1).mono ?_); rintro e wx2 ⟨rfl, hb⟩)
    replace HW := Lib.hid (below_step HW.out hb)
    refine hK.out _ _ ?_ (fun hHeld => ?_)
    · (try dsimp only); exact ⟨cel_below hb s0, cel_below hb s1, cel_below hb s2, cel_below hb s3, cel_below hb s4, cel_below hb s5, cel_below hb s6, cel_below hb s7, cel_below hb s8, cel_below hb s9, cel_below hb s10, cel_below hb s11, cel_below hb s12, cel_below hb s13, cel_below hb s14, cel_below hb s15, cel_below hb s16, cel_below hb s17, cel_below hb s18, cel_below hb s19, cel_below hb s20, cel_below hb s21, hasInts_keep t0 hb, hasInts_keep t1 hb⟩
    clear hK K s0 s1 s2 s3 s4 s5 s6 s7 s8 s9 s10 s11 s12 s13 s14 s15 s16 s17 s18 s19 s20 s21 t0 t1 hb
    (try simp only [Act.put, List.setIfInBounds_toArray, List.set_cons_zero, List.set_cons_succ])
    refine wpAnyH_take (i := 4) (oi := ?oi7) (v := ?v7) ?hi7 (by kernel_rfl) (by kernel_rfl) (by kernel_rfl) ?hQ7 (Or.inl ⟨?hw7, ?hy7⟩) (by assumption) ?rest7; (case hi7 => (simp only [List.getElem?_toArray, List.getElem?_cons_succ, List.getElem?_cons_zero]; rfl)); (case hQ7 => exact fun _ _ _ h => h); (case hw7 => rfl); (case hy7 => ((intro w hSw); (try dsimp only at hSw); go_simp; (try with_reducible rfl)))
    (try simp only [Act.put, List.setIfInBounds_toArray, List.set_cons_zero, List.set_cons_succ])
    refine wpAnyH_done (by kernel_rfl) ?_ _
    obtain ⟨s0, s1, s2, s3, s4, s5, s6, s7, s8, s9, s10, s11, s12, s13, s14, s15, s16, s17, s18, s19, s20, s21, t0, t1⟩ := hHeld
    have HMx := Lib.hid t0
    have HZx := Lib.hid t1
    clear t0 t1 HM HZ
    have k1 := K1.out
    have k2 := K2.out
    have k3 := K3.out
    have k4 := K4.out
    have k5 := K5.out
    have k6 := K6.out
    have k7 := K7.out
    go_upto_if 73 with fail
    clear k1 k2 k3 k4 k5 k6 k7
    go_cut [20, 21, 22, 23, 24, 25] (fun s20 s21 s22 s23 s24 s25 wx => s20 = .int .i64 ((M : Nat) : Int) ∧ s22 = .int .i64 X ∧ s23 = .int .i64 X ∧ s24 = .int .i64 V ∧ s25 = .int .i64 ((N : Nat) : Int) ∧ wx = wx2)
    case first =>
      rcases HBr.out with ⟨rfl, rfl, rfl, rfl⟩ | ⟨hq0, rfl, rfl, rfl, rfl⟩ | ⟨rfl, rfl, rfl, rfl, rfl⟩ | ⟨rfl, rfl, rfl, rfl, rfl⟩ | ⟨rfl, rfl, rfl, rfl, rfl⟩
      · have k1 := K1.out
        have k2 := K2.out
        have k3 := K3.out
        have k4 := K4.out
        have k5 := K5.out
        have k6 := K6.out
        have k7 := K7.out
        go_wp2_with (first | ((with_reducible refine (HS3.out _).mono ?_); rintro e w' ⟨rfl, rfl⟩))
        go_meet
        exact ⟨by first | rfl | simp, rfl, rfl, by first | rfl | simp, by first | rfl | simp, rfl⟩
      · have hq1 : (q == 0) = false := by simp [hq0]
        have k1 := K1.out
        have k2 := K2.out
        have k3 := K3.out
        have k4 := K4.out
        have k5 := K5.out
        have k6 := K6.out
        have k7 := K7.out
        go_wp2_with (first | ((with_reducible refine (HS3.out _).mono ?_); rintro e w' ⟨rfl, rfl⟩))
        go_meet
        exact ⟨by first | rfl | simp, rfl, rfl, by first | rfl | simp, by first | rfl | simp, rfl⟩
      · have k1 := K1.out
        have k2 := K2.out
        have k3 := K3.out
        have k4 := K4.out
        have k5 := K5.out
        have k6 := K6.out
        have k7 := K7.out
        go_wp2_with (first | ((with_reducible refine (HS3.out _).mono ?_); rintro e w' ⟨rfl, rfl⟩))
        go_meet
        exact ⟨by first | rfl | simp, rfl, rfl, by first | rfl | simp, by first | rfl | simp, rfl⟩
      · have k1 := K1.out
        have k2 := K2.out
        have k3 := K3.out
        have k4 := K4.out
        have k5 := K5.out
        have k6 := K6.out
        have k7 := K7.out
        go_wp2_with (first | ((with_reducible refine (HS3.out _).mono ?_); rintro e w' ⟨rfl, rfl⟩))
        go_meet
        exact ⟨by first | rfl | simp, rfl, rfl, by first | rfl | simp, by first | rfl | simp, rfl⟩
      · have k1 := K1.out
        have k2 := K2.out
        have k3 := K3.out
        have k4 := K4.out
        have k5 := K5.out
        have k6 := K6.out
        have k7 := K7.out
        go_wp2_with (first | ((with_reducible refine (HS3.out _).mono ?_); rintro e w' ⟨rfl, rfl⟩))
        go_meet
        exact ⟨by first | rfl | simp, rfl, rfl, by first | rfl | simp, by first | rfl | simp, rfl⟩
    case rest =>
      obtain ⟨rfl, rfl, rfl, rfl, rfl, hwc⟩ := hcut
      rw [hwc]
      have HNw : Hid (IntKind.i64.wrap ((N : Int) + 1) = (N : Int) + 1) := Lib.hid (by rcases HBr.out with h | h | h | h | h <;> (refine IntWalk.i64_in _ ?_; omega))
      go_upto_if 86 with fail
      go_cut [25] (fun s25 wx => s25 = .int .i64 ((M : Nat) : Int) ∧ wx = wx2)
      case first =>
        cases own
        · go_wp2
          go_meet
          exact ⟨by rw [HMown.out]; simp, rfl⟩
        · have hnw := HNw.out
          go_wp2
          go_meet
          exact ⟨by rw [HMown.out]; simp, rfl⟩
      case rest =>
        obtain ⟨rfl, hwc2⟩ := hcut
        rw [hwc2]
        go_upto_region 30 with fail
        have HWr := Lib.hid HW.out
        go_cut [26, 27, 28] (fun s26 s27 s28 wx => ∃ (g : Nat) (a4 : Option Addr) (c4 : Nat), s26 = .pointer (some ⟨g, 0, none⟩) ∧ wx.cell? ⟨g, 0, none⟩ = some (.slice a4 16 c4) ∧ HasInts wx (.slice a4 16 c4) (laidZ 2 s o) ∧ HasInts wx (.slice am 16 cm) (laidZ 2 s o) ∧ Below wx2.heap.size wx2 wx)
        case first =>
          have HW := Lib.hid (Below.refl wx2.heap.size wx2)
          have HWS := Lib.hid (Nat.le_refl wx2.heap.size)
          replace HMx : Hid (HasInts wx2 (.slice am 16 cm) (laidZ 2 s o)) := HMx
          have zb0 : w2.heap.size < wx2.heap.size := World.block_lt_of_cell? _ _ s0
          have zb1 : w4.heap.size < wx2.heap.size := World.block_lt_of_cell? _ _ s13
          have zb2 : w5.heap.size < wx2.heap.size := World.block_lt_of_cell? _ _ s14
          have zb3 : w5.heap.size + 1 < wx2.heap.size := World.block_lt_of_cell? _ _ s21
          have r0 := s0
          have r1 := s1
          have r2 := s2
          have r3 := s3
          have r4 := s4
          have r5 := s5
          have r6 := s6
          have r7 := s7
          have r8 := s8
          have r9 := s9
          have r10 := s10
          have r11 := s11
          have r12 := s12
          have r13 := s21
          clear s0 s1 s2 s3 s4 s5 s6 s7 s8 s9 s10 s11 s12 s13 s14 s15 s16 s17 s18 s19 s20 s21
          have s0 := r0
          clear r0
          have s1 := r1
          clear r1
          have s2 := r2
          clear r2
          have s3 := r3
          clear r3
          have s4 := r4
          clear r4
          have s5 := r5
          clear r5
          have s6 := r6
          clear r6
          have s7 := r7
          clear r7
          have s8 := r8
          clear r8
          have s9 := r9
          clear r9
          have s10 := r10
          clear r10
          have s11 := r11
          clear r11
          have s12 := r12
          clear r12
          have s13 := r13
          clear r13
          refine wp_region_held_drew (S := fun W => W.cell? ⟨w2.heap.size, 0, none⟩ = some (.int .i64 3) ∧ W.cell? ⟨w2.heap.size, 1, none⟩ = some (.int .i64 0) ∧ W.cell? ⟨w2.heap.size, 2, none⟩ = some (.int .i64 0) ∧ W.cell? ⟨w2.heap.size, 3, none⟩ = some (.int .i64 0) ∧ W.cell? ⟨w2.heap.size, 4, none⟩ = some (.int .i64 kap) ∧ W.cell? ⟨w2.heap.size, 5, none⟩ = some (.int .i64 0) ∧ W.cell? ⟨w2.heap.size, 6, none⟩ = some (.int .i64 1) ∧ W.cell? ⟨w2.heap.size, 7, none⟩ = some (.int .i64 2) ∧ W.cell? ⟨w2.heap.size, 8, none⟩ = some (.int .i64 3) ∧ W.cell? ⟨w2.heap.size, 9, none⟩ = some (.int .i64 4) ∧ W.cell? ⟨w2.heap.size, 10, none⟩ = some (.int .i64 16) ∧ W.cell? ⟨w2.heap.size, 11, none⟩ = some (.int .i64 16) ∧ W.cell? ⟨w2.heap.size, 12, none⟩ = some (.int .i64 16) ∧ W.cell? ⟨w5.heap.size + 1, 0, none⟩ = some (.slice a2 16 c2)) (by kernel_rfl) ?_ (fun hHeld => ?_)
          · (try dsimp only); exact ⟨by first | assumption | go_simp, by first | assumption | go_simp, by first | assumption | go_simp, by first | assumption | go_simp, by first | assumption | go_simp, by first | assumption | go_simp, by first | assumption | go_simp, by first | assumption | go_simp, by first | assumption | go_simp, by first | assumption | go_simp, by first | assumption | go_simp, by first | assumption | go_simp, by first | assumption | go_simp, by first | assumption | go_simp⟩
          replace HW := Lib.hid (show Below _ _ (World.drew wx2) from below_drews HW.out 1)
          obtain ⟨wy0, hwy⟩ : ∃ W, W = World.drew wx2 := ⟨_, rfl⟩
          rw [← hwy] at HW ⊢
          have hHeld2 := hHeld
          rw [← hwy] at hHeld2
          clear hHeld
          have LO : wx2.heap.size ≤ wy0.heap.size := by rw [hwy]; exact Nat.le_refl _
          have hb : Below wx2.heap.size wx2 wy0 := by rw [hwy]; exact below_drews (Below.refl _ _) 1
          replace HMx := Lib.hid (hasInts_keep HMx.out hb)
          replace HZx := Lib.hid (hasInts_keep HZx.out hb)
          clear hb hwy
          obtain ⟨s0, s1, s2, s3, s4, s5, s6, s7, s8, s9, s10, s11, s12, s13⟩ := hHeld2
          have hHeld := And.intro s0 (And.intro s1 (And.intro s2 (And.intro s3 (And.intro s4 (And.intro s5 (And.intro s6 (And.intro s7 (And.intro s8 (And.intro s9 (And.intro s10 (And.intro s11 (And.intro s12 (s13)))))))))))))
          refine wpAnyH_take (i := 0) (oi := ?oi9) (v := ?v9) ?hi9 (by kernel_rfl) (by kernel_rfl) (by kernel_rfl) ?hQ9 (Or.inl ⟨?hw9, ?hy9⟩) (by assumption) ?rest9; (case hi9 => (simp only [List.getElem?_toArray, List.getElem?_cons_zero]; rfl)); (case hQ9 => exact fun _ _ _ h => h); (case hw9 => rfl); (case hy9 => ((intro w hSw); (try dsimp only at hSw); go_simp; (try with_reducible rfl)))
          (try simp only [Act.put, List.setIfInBounds_toArray, List.set_cons_zero, List.set_cons_succ])
          refine wpAnyH_take (i := 1) (oi := ?oi11) (v := ?v11) ?hi11 (by kernel_rfl) (by kernel_rfl) (by kernel_rfl) ?hQ11 (Or.inl ⟨?hw11, ?hy11⟩) (by assumption) ?rest11; (case hi11 => (simp only [List.getElem?_toArray, List.getElem?_cons_succ, List.getElem?_cons_zero]; rfl)); (case hQ11 => exact fun _ _ _ h => h); (case hw11 => rfl); (case hy11 => ((intro w hSw); (try dsimp only at hSw); go_simp; (try with_reducible rfl)))
          (try simp only [Act.put, List.setIfInBounds_toArray, List.set_cons_zero, List.set_cons_succ])
          refine wpAnyH_take (i := 3) (oi := ?oi13) (v := ?v13) ?hi13 (by kernel_rfl) (by kernel_rfl) (by kernel_rfl) ?hQ13 (Or.inl ⟨?hw13, ?hy13⟩) (by assumption) ?rest13; (case hi13 => (simp only [List.getElem?_toArray, List.getElem?_cons_succ, List.getElem?_cons_zero]; rfl)); (case hQ13 => exact fun _ _ _ h => h); (case hw13 => rfl); (case hy13 => ((intro w hSw); (try dsimp only at hSw); go_simp; (try with_reducible rfl)))
          (try simp only [Act.put, List.setIfInBounds_toArray, List.set_cons_zero, List.set_cons_succ])
          clear hHeld
          refine wpAnyH_ready (rs := [2, 10, 11]) (by kernel_rfl) (by simp) ?_
          refine AllReadyH.cons (o := ?oi15) ?hi15 (fun K hK => ?rest15) (AllReadyH.cons (o := ?oi16) ?hi16 (fun K hK => ?rest16) (AllReadyH.cons (o := ?oi17) ?hi17 (fun K hK => ?rest17) AllReadyH.nil))
          (case hi15 => (simp only [List.getElem?_toArray, List.getElem?_cons_succ, List.getElem?_cons_zero]; rfl))
          (case hi16 => (simp only [List.getElem?_toArray, List.getElem?_cons_succ, List.getElem?_cons_zero]; rfl))
          (case hi17 => (simp only [List.getElem?_toArray, List.getElem?_cons_succ, List.getElem?_cons_zero]; rfl))
          case rest15 =>
           go_simp
           ((with_reducible refine (HL2.out _).mono ?_); rintro e wz18 ⟨rfl, hb⟩)
           replace HW := Lib.hid (below_step HW.out hb)
           replace s0 := cel_below hb s0
           replace s1 := cel_below hb s1
           replace s2 := cel_below hb s2
           replace s3 := cel_below hb s3
           replace s4 := cel_below hb s4
           replace s5 := cel_below hb s5
           replace s6 := cel_below hb s6
           replace s7 := cel_below hb s7
           replace s8 := cel_below hb s8
           replace s9 := cel_below hb s9
           replace s10 := cel_below hb s10
           replace s11 := cel_below hb s11
           replace s12 := cel_below hb s12
           replace s13 := cel_below hb s13
           replace HMx := Lib.hid (hasInts_keep HMx.out hb)
           replace HZx := Lib.hid (hasInts_keep HZx.out hb)
           replace LO := Nat.le_trans LO hb.size
           clear hb
           refine hK.out _ _ ?_ (fun _ => ?_)
           · (try dsimp only); exact ⟨s0, s1, s2, s3, s4, s5, s6, s7, s8, s9, s10, s11, s12, s13⟩
           clear hK K
           (try simp only [Act.put, List.setIfInBounds_toArray, List.set_cons_zero, List.set_cons_succ])
           have hHeld := And.intro s0 (And.intro s1 (And.intro s2 (And.intro s3 (And.intro s4 (And.intro s5 (And.intro s6 (And.intro s7 (And.intro s8 (And.intro s9 (And.intro s10 (And.intro s11 (And.intro s12 (s13)))))))))))))
           refine wpAnyH_take (i := 4) (oi := ?oi19) (v := ?v19) ?hi19 (by kernel_rfl) (by kernel_rfl) (by kernel_rfl) ?hQ19 (Or.inl ⟨?hw19, ?hy19⟩) (by assumption) ?rest19; (case hi19 => (simp only [List.getElem?_toArray, List.getElem?_cons_succ, List.getElem?_cons_zero]; rfl)); (case hQ19 => exact fun _ _ _ h => h); (case hw19 => rfl); (case hy19 => ((intro w hSw); (try dsimp only at hSw); go_simp; (try with_reducible rfl)))
           (try simp only [Act.put, List.setIfInBounds_toArray, List.set_cons_zero, List.set_cons_succ])
           clear hHeld
           refine wpAnyH_ready (rs := [5, 10, 11]) (by kernel_rfl) (by simp) ?_
           refine AllReadyH.cons (o := ?oi21) ?hi21 (fun K hK => ?rest21) (AllReadyH.cons (o := ?oi22) ?hi22 (fun K hK => ?rest22) (AllReadyH.cons (o := ?oi23) ?hi23 (fun K hK => ?rest23) AllReadyH.nil))
           (case hi21 => (simp only [List.getElem?_toArray, List.getElem?_cons_succ, List.getElem?_cons_zero]; rfl))
           (case hi22 => (simp only [List.getElem?_toArray, List.getElem?_cons_succ, List.getElem?_cons_zero]; rfl))
           (case hi23 => (simp only [List.getElem?_toArray, List.getElem?_cons_succ, List.getElem?_cons_zero]; rfl))
           case rest21 =>
            go_simp
            ((with_reducible refine (HDo.out _ _ _ HZx.out).mono ?_); rintro e wz24 ⟨a4, c4, r4, b4, rfl, hq, hb⟩)
            replace HW := Lib.hid (below_step HW.out hb)
            replace s0 := cel_below hb s0
            replace s1 := cel_below hb s1
            replace s2 := cel_below hb s2
            replace s3 := cel_below hb s3
            replace s4 := cel_below hb s4
            replace s5 := cel_below hb s5
            replace s6 := cel_below hb s6
            replace s7 := cel_below hb s7
            replace s8 := cel_below hb s8
            replace s9 := cel_below hb s9
            replace s10 := cel_below hb s10
            replace s11 := cel_below hb s11
            replace s12 := cel_below hb s12
            replace s13 := cel_below hb s13
            replace HMx := Lib.hid (hasInts_keep HMx.out hb)
            replace HZx := Lib.hid (hasInts_keep HZx.out hb)
            have HX1 := Lib.hid hq
            clear hq
            replace LO := Nat.le_trans LO hb.size
            clear hb
            refine hK.out _ _ ?_ (fun _ => ?_)
            · (try dsimp only); exact ⟨s0, s1, s2, s3, s4, s5, s6, s7, s8, s9, s10, s11, s12, s13⟩
            clear hK K
            (try simp only [Act.put, List.setIfInBounds_toArray, List.set_cons_zero, List.set_cons_succ])
            have hHeld := And.intro s0 (And.intro s1 (And.intro s2 (And.intro s3 (And.intro s4 (And.intro s5 (And.intro s6 (And.intro s7 (And.intro s8 (And.intro s9 (And.intro s10 (And.intro s11 (And.intro s12 (s13)))))))))))))
            refine wpAnyH_take (i := 6) (oi := ?oi25) (v := ?v25) ?hi25 (by kernel_rfl) (by kernel_rfl) (by kernel_rfl) ?hQ25 (Or.inl ⟨?hw25, ?hy25⟩) (by assumption) ?rest25; (case hi25 => (simp only [List.getElem?_toArray, List.getElem?_cons_succ, List.getElem?_cons_zero]; rfl)); (case hQ25 => exact fun _ _ _ h => h); (case hw25 => rfl); (case hy25 => ((intro w hSw); (try dsimp only at hSw); go_simp; (try with_reducible rfl)))
            (try simp only [Act.put, List.setIfInBounds_toArray, List.set_cons_zero, List.set_cons_succ])
            refine wpAnyH_take (i := 7) (oi := ?oi27) (v := ?v27) ?hi27 (by kernel_rfl) (by kernel_rfl) (by kernel_rfl) ?hQ27 (Or.inl ⟨?hw27, ?hy27⟩) (by assumption) ?rest27; (case hi27 => (simp only [List.getElem?_toArray, List.getElem?_cons_succ, List.getElem?_cons_zero]; rfl)); (case hQ27 => exact fun _ _ _ h => h); (case hw27 => rfl); (case hy27 => ((intro w hSw); (try dsimp only at hSw); go_simp; (try with_reducible rfl)))
            (try simp only [Act.put, List.setIfInBounds_toArray, List.set_cons_zero, List.set_cons_succ])
            refine wpAnyH_take (i := 8) (oi := ?oi29) (v := ?v29) ?hi29 (by kernel_rfl) (by kernel_rfl) (by kernel_rfl) ?hQ29 (Or.inl ⟨?hw29, ?hy29⟩) (by assumption) ?rest29; (case hi29 => (simp only [List.getElem?_toArray, List.getElem?_cons_succ, List.getElem?_cons_zero]; rfl)); (case hQ29 => exact fun _ _ _ h => h); (case hw29 => rfl); (case hy29 => ((intro w hSw); (try dsimp only at hSw); go_simp; (try with_reducible rfl)))
            (try simp only [Act.put, List.setIfInBounds_toArray, List.set_cons_zero, List.set_cons_succ])
            refine wpAnyH_take (i := 9) (oi := ?oi31) (v := ?v31) ?hi31 (by kernel_rfl) (by kernel_rfl) (by kernel_rfl) ?hQ31 (Or.inl ⟨?hw31, ?hy31⟩) (by assumption) ?rest31; (case hi31 => (simp only [List.getElem?_toArray, List.getElem?_cons_succ, List.getElem?_cons_zero]; rfl)); (case hQ31 => exact fun _ _ _ h => h); (case hw31 => rfl); (case hy31 => ((intro w hSw); (try dsimp only at hSw); go_simp; (try with_reducible rfl)))
            (try simp only [Act.put, List.setIfInBounds_toArray, List.set_cons_zero, List.set_cons_succ])
            clear hHeld
            refine wpAnyH_ready (rs := [10, 11]) (by kernel_rfl) (by simp) ?_
            refine AllReadyH.cons (o := ?oi33) ?hi33 (fun K hK => ?rest33) (AllReadyH.cons (o := ?oi34) ?hi34 (fun K hK => ?rest34) AllReadyH.nil)
            (case hi33 => (simp only [List.getElem?_toArray, List.getElem?_cons_succ, List.getElem?_cons_zero]; rfl))
            (case hi34 => (simp only [List.getElem?_toArray, List.getElem?_cons_succ, List.getElem?_cons_zero]; rfl))
            case rest33 =>
             go_simp
             obtain ⟨wz35, hwy⟩ : ∃ W, W = wz24.alloc (.cells #[.slice none 0 0] 55) := ⟨_, rfl⟩
             rw [← hwy]
             have hb : Below wz24.heap.size wz24 wz35 := by rw [hwy]; exact below_new1 _ _
             have xc0 : wz35.cell? ⟨wz24.heap.size, 0, none⟩ = some (.slice none 0 0) := by rw [hwy, World.cell?_alloc_at _ _ _ _ rfl]; rfl
             have xf0 : wz35.frozen? ⟨wz24.heap.size, 0, none⟩ = false := by rw [hwy]; exact World.frozen?_alloc_at _ _ _ _ rfl
             have xt : Tag wz35 wz24.heap.size 55 := by rw [hwy]; exact tag_new _ _ _
             have xz : wz24.heap.size < wz35.heap.size := by rw [hwy]; simp
             have xl := LO
             replace HW := Lib.hid (below_step HW.out hb)
             replace s0 := cel_below hb s0
             replace s1 := cel_below hb s1
             replace s2 := cel_below hb s2
             replace s3 := cel_below hb s3
             replace s4 := cel_below hb s4
             replace s5 := cel_below hb s5
             replace s6 := cel_below hb s6
             replace s7 := cel_below hb s7
             replace s8 := cel_below hb s8
             replace s9 := cel_below hb s9
             replace s10 := cel_below hb s10
             replace s11 := cel_below hb s11
             replace s12 := cel_below hb s12
             replace s13 := cel_below hb s13
             replace HMx := Lib.hid (hasInts_keep HMx.out hb)
             replace HX1 := Lib.hid (hasInts_keep HX1.out hb)
             replace LO := Nat.le_trans LO hb.size
             clear hb hwy
             refine hK.out _ _ ?_ (fun _ => ?_)
             · (try dsimp only); exact ⟨s0, s1, s2, s3, s4, s5, s6, s7, s8, s9, s10, s11, s12, s13⟩
             clear hK K
             (try simp only [Act.put, List.setIfInBounds_toArray, List.set_cons_zero, List.set_cons_succ])
             refine wpAnyH_ready (rs := [11]) (by kernel_rfl) (by simp) ?_
             refine AllReadyH.cons (o := ?oi36) ?hi36 (fun K hK => ?rest36) AllReadyH.nil
             (case hi36 => (simp only [List.getElem?_toArray, List.getElem?_cons_succ, List.getElem?_cons_zero]; rfl))
             go_simp
             obtain ⟨wz37, hwy⟩ : ∃ W, W = wz35.alloc (.cells #[.int .i64 0, .bool false] 85) := ⟨_, rfl⟩
             rw [← hwy]
             have hb : Below wz35.heap.size wz35 wz37 := by rw [hwy]; exact below_new1 _ _
             have ec0 : wz37.cell? ⟨wz35.heap.size, 0, none⟩ = some (.int .i64 0) := by rw [hwy, World.cell?_alloc_at _ _ _ _ rfl]; rfl
             have ef0 : wz37.frozen? ⟨wz35.heap.size, 0, none⟩ = false := by rw [hwy]; exact World.frozen?_alloc_at _ _ _ _ rfl
             have ec1 : wz37.cell? ⟨wz35.heap.size, 1, none⟩ = some (.bool false) := by rw [hwy, World.cell?_alloc_at _ _ _ _ rfl]; rfl
             have ef1 : wz37.frozen? ⟨wz35.heap.size, 1, none⟩ = false := by rw [hwy]; exact World.frozen?_alloc_at _ _ _ _ rfl
             have et : Tag wz37 wz35.heap.size 85 := by rw [hwy]; exact tag_new _ _ _
             have ez : wz35.heap.size < wz37.heap.size := by rw [hwy]; simp
             have el := LO
             replace HW := Lib.hid (below_step HW.out hb)
             replace s0 := cel_below hb s0
             replace s1 := cel_below hb s1
             replace s2 := cel_below hb s2
             replace s3 := cel_below hb s3
             replace s4 := cel_below hb s4
             replace s5 := cel_below hb s5
             replace s6 := cel_below hb s6
             replace s7 := cel_below hb s7
             replace s8 := cel_below hb s8
             replace s9 := cel_below hb s9
             replace s10 := cel_below hb s10
             replace s11 := cel_below hb s11
             replace s12 := cel_below hb s12
             replace s13 := cel_below hb s13
             replace xc0 := cel_below hb xc0
             replace xf0 := fro_below hb xz xf0
             replace xt := tag_below xt hb
             have xen : wz24.heap.size ≠ wz35.heap.size := by omega
             replace xz := lt_below hb xz
             replace HMx := Lib.hid (hasInts_keep HMx.out hb)
             replace HX1 := Lib.hid (hasInts_keep HX1.out hb)
             replace LO := Nat.le_trans LO hb.size
             clear hb hwy
             refine hK.out _ _ ?_ (fun _ => ?_)
             · (try dsimp only); exact ⟨s0, s1, s2, s3, s4, s5, s6, s7, s8, s9, s10, s11, s12, s13⟩
             clear hK K
             (try simp only [Act.put, List.setIfInBounds_toArray, List.set_cons_zero, List.set_cons_succ])
             refine wpAnyH_ready (rs := [12]) (by kernel_rfl) (by simp) ?_
             refine AllReadyH.cons (o := ?oi38) ?hi38 (fun K hK => ?rest38) AllReadyH.nil
             (case hi38 => (simp only [List.getElem?_toArray, List.getElem?_cons_succ, List.getElem?_cons_zero]; rfl))
             go_simp
             obtain ⟨wz39, hwy⟩ : ∃ W, W = (wz37.setCell ⟨wz24.heap.size, 0, none⟩ (.slice a4 16 c4)) := ⟨_, rfl⟩
             rw [← hwy]
             have kp : ∀ {b' o' : Nat} {u : Value}, wz37.cell? ⟨b', o', none⟩ = some u → wz24.heap.size ≠ b' → wz39.cell? ⟨b', o', none⟩ = some u := fun h hn => by rw [hwy]; exact keepA_ (h) (Or.inl hn)
             replace s0 := kp s0 (by omega)
             replace s1 := kp s1 (by omega)
             replace s2 := kp s2 (by omega)
             replace s3 := kp s3 (by omega)
             replace s4 := kp s4 (by omega)
             replace s5 := kp s5 (by omega)
             replace s6 := kp s6 (by omega)
             replace s7 := kp s7 (by omega)
             replace s8 := kp s8 (by omega)
             replace s9 := kp s9 (by omega)
             replace s10 := kp s10 (by omega)
             replace s11 := kp s11 (by omega)
             replace s12 := kp s12 (by omega)
             replace s13 := kp s13 (by omega)
             clear kp
             replace ec0 : wz39.cell? ⟨wz35.heap.size, 0, none⟩ = some (.int .i64 0) := by rw [hwy]; exact keepA_ (ec0) (Or.inl (by omega))
             replace ef0 : wz39.frozen? ⟨wz35.heap.size, 0, none⟩ = false := by rw [hwy]; simpa using ef0
             replace ec1 : wz39.cell? ⟨wz35.heap.size, 1, none⟩ = some (.bool false) := by rw [hwy]; exact keepA_ (ec1) (Or.inl (by omega))
             replace ef1 : wz39.frozen? ⟨wz35.heap.size, 1, none⟩ = false := by rw [hwy]; simpa using ef1
             replace HMx : Hid (HasInts wz39 (.slice am 16 cm) (laidZ 2 s o)) := Lib.hid (by rw [hwy]; exact (hasInts_setS HMx.out xc0 (u := .slice a4 16 c4)))
             replace HX1 : Hid (HasInts wz39 (.slice a4 16 c4) (laidZ 2 s o)) := Lib.hid (by rw [hwy]; exact (hasInts_setS HX1.out xc0 (u := .slice a4 16 c4)))
             have xd0 : wz39.cell? ⟨wz24.heap.size, 0, none⟩ = some (.slice a4 16 c4) := by rw [hwy]; exact World.cell?_setCell_same _ _ _ xc0
             replace xt : Tag wz39 wz24.heap.size 55 := by rw [hwy]; exact (tag_set xt _ _)
             replace et : Tag wz39 wz35.heap.size 85 := by rw [hwy]; exact (tag_set et _ _)
             replace xf0 : wz39.frozen? ⟨wz24.heap.size, 0, none⟩ = false := by rw [hwy]; simpa using xf0
             replace HW := Lib.hid (Below.setCell (p := ⟨wz24.heap.size, 0, none⟩) HW.out (by have := HWS.out; dsimp only; omega) (.slice a4 16 c4))
             rw [← hwy] at HW
             have hsz : wz39.heap.size = wz37.heap.size := by rw [hwy]; simp
             replace xz : wz24.heap.size < wz39.heap.size := by omega
             replace ez : wz35.heap.size < wz39.heap.size := by omega
             replace LO : _ ≤ wz39.heap.size := Nat.le_trans LO (Nat.le_of_eq hsz.symm)
             clear hsz hwy xc0
             have xc0 := xd0
             clear xd0
             refine hK.out _ _ ?_ (fun _ => ?_)
             · (try dsimp only); exact ⟨s0, s1, s2, s3, s4, s5, s6, s7, s8, s9, s10, s11, s12, s13⟩
             clear hK K
             (try simp only [Act.put, List.setIfInBounds_toArray, List.set_cons_zero, List.set_cons_succ])
             refine wpAnyH_ready (rs := [13]) (by kernel_rfl) (by simp) ?_
             refine AllReadyH.cons (o := ?oi40) ?hi40 (fun K hK => ?rest40) AllReadyH.nil
             (case hi40 => (simp only [List.getElem?_toArray, List.getElem?_cons_succ, List.getElem?_cons_zero]; rfl))
             go_simp
             obtain ⟨wz41, hwy⟩ : ∃ W, W = ((wz39.setCell ⟨wz35.heap.size, 0, none⟩ (.int .i64 r4)).setCell ⟨wz35.heap.size, 1, none⟩ (.bool b4)) := ⟨_, rfl⟩
             rw [← hwy]
             have kp : ∀ {b' o' : Nat} {u : Value}, wz39.cell? ⟨b', o', none⟩ = some u → wz35.heap.size ≠ b' → wz41.cell? ⟨b', o', none⟩ = some u := fun h hn => by rw [hwy]; exact keepA_ (keepA_ (h) (Or.inl hn)) (Or.inl hn)
             replace s0 := kp s0 (by omega)
             replace s1 := kp s1 (by omega)
             replace s2 := kp s2 (by omega)
             replace s3 := kp s3 (by omega)
             replace s4 := kp s4 (by omega)
             replace s5 := kp s5 (by omega)
             replace s6 := kp s6 (by omega)
             replace s7 := kp s7 (by omega)
             replace s8 := kp s8 (by omega)
             replace s9 := kp s9 (by omega)
             replace s10 := kp s10 (by omega)
             replace s11 := kp s11 (by omega)
             replace s12 := kp s12 (by omega)
             replace s13 := kp s13 (by omega)
             clear kp
             replace xc0 : wz41.cell? ⟨wz24.heap.size, 0, none⟩ = some (.slice a4 16 c4) := by rw [hwy]; exact keepA_ (keepA_ (xc0) (Or.inl (by omega))) (Or.inl (by omega))
             replace xf0 : wz41.frozen? ⟨wz24.heap.size, 0, none⟩ = false := by rw [hwy]; simpa using xf0
             replace HMx : Hid (HasInts wz41 (.slice am 16 cm) (laidZ 2 s o)) := Lib.hid (by rw [hwy]; exact hasInts_res HMx.out (by simp [laidZ]) ec1)
             replace HX1 : Hid (HasInts wz41 (.slice a4 16 c4) (laidZ 2 s o)) := Lib.hid (by rw [hwy]; exact hasInts_res HX1.out (by simp [laidZ]) ec1)
             have ed0 : wz41.cell? ⟨wz35.heap.size, 0, none⟩ = some (.int .i64 r4) := by rw [hwy]; exact keepA_ (World.cell?_setCell_same _ _ _ ec0) (Or.inr (by simp))
             have ed1 : wz41.cell? ⟨wz35.heap.size, 1, none⟩ = some (.bool b4) := by rw [hwy]; exact World.cell?_setCell_same _ _ _ (keepA_ ec1 (Or.inr (by simp)))
             replace xt : Tag wz41 wz24.heap.size 55 := by rw [hwy]; exact (tag_set (tag_set xt _ _) _ _)
             replace et : Tag wz41 wz35.heap.size 85 := by rw [hwy]; exact (tag_set (tag_set et _ _) _ _)
             replace ef0 : wz41.frozen? ⟨wz35.heap.size, 0, none⟩ = false := by rw [hwy]; simpa using ef0
             replace ef1 : wz41.frozen? ⟨wz35.heap.size, 1, none⟩ = false := by rw [hwy]; simpa using ef1
             replace HW := Lib.hid (Below.setCell (p := ⟨wz35.heap.size, 1, none⟩) (Below.setCell (p := ⟨wz35.heap.size, 0, none⟩) HW.out (by have := HWS.out; dsimp only; omega) (.int .i64 r4)) (by have := HWS.out; dsimp only; omega) (.bool b4))
             rw [← hwy] at HW
             have hsz : wz41.heap.size = wz39.heap.size := by rw [hwy]; simp
             replace xz : wz24.heap.size < wz41.heap.size := by omega
             replace ez : wz35.heap.size < wz41.heap.size := by omega
             replace LO : _ ≤ wz41.heap.size := Nat.le_trans LO (Nat.le_of_eq hsz.symm)
             clear hsz hwy ec0 ec1
             have ec0 := ed0
             clear ed0
             have ec1 := ed1
             clear ed1
             refine hK.out _ _ ?_ (fun _ => ?_)
             · (try dsimp only); exact ⟨s0, s1, s2, s3, s4, s5, s6, s7, s8, s9, s10, s11, s12, s13⟩
             clear hK K
             (try simp only [Act.put, List.setIfInBounds_toArray, List.set_cons_zero, List.set_cons_succ])
             have hHeld := And.intro s0 (And.intro s1 (And.intro s2 (And.intro s3 (And.intro s4 (And.intro s5 (And.intro s6 (And.intro s7 (And.intro s8 (And.intro s9 (And.intro s10 (And.intro s11 (And.intro s12 (s13)))))))))))))
             refine wpAnyH_take (i := 14) (oi := ?oi42) (v := ?v42) ?hi42 (by kernel_rfl) (by kernel_rfl) (by kernel_rfl) ?hQ42 (Or.inl ⟨?hw42, ?hy42⟩) (by assumption) ?rest42; (case hi42 => (simp only [List.getElem?_toArray, List.getElem?_cons_succ, List.getElem?_cons_zero]; rfl)); (case hQ42 => exact fun _ _ _ h => h); (case hw42 => rfl); (case hy42 => ((intro w hSw); (try dsimp only at hSw); go_simp; (try with_reducible rfl)))
             (try simp only [Act.put, List.setIfInBounds_toArray, List.set_cons_zero, List.set_cons_succ])
             clear hHeld
             refine wpAnyH_done (by kernel_rfl) ?_ _
             go_wp2_with fail
             go_meet
             exact ⟨wz24.heap.size, a4, c4, rfl, xc0, HX1.out, HMx.out, HW.out⟩
            case rest34 =>
             go_simp
             obtain ⟨wz44, hwy⟩ : ∃ W, W = wz24.alloc (.cells #[.int .i64 0, .bool false] 85) := ⟨_, rfl⟩
             rw [← hwy]
             have hb : Below wz24.heap.size wz24 wz44 := by rw [hwy]; exact below_new1 _ _
             have ec0 : wz44.cell? ⟨wz24.heap.size, 0, none⟩ = some (.int .i64 0) := by rw [hwy, World.cell?_alloc_at _ _ _ _ rfl]; rfl
             have ef0 : wz44.frozen? ⟨wz24.heap.size, 0, none⟩ = false := by rw [hwy]; exact World.frozen?_alloc_at _ _ _ _ rfl
             have ec1 : wz44.cell? ⟨wz24.heap.size, 1, none⟩ = some (.bool false) := by rw [hwy, World.cell?_alloc_at _ _ _ _ rfl]; rfl
             have ef1 : wz44.frozen? ⟨wz24.heap.size, 1, none⟩ = false := by rw [hwy]; exact World.frozen?_alloc_at _ _ _ _ rfl
             have et : Tag wz44 wz24.heap.size 85 := by rw [hwy]; exact tag_new _ _ _
             have ez : wz24.heap.size < wz44.heap.size := by rw [hwy]; simp
             have el := LO
             replace HW := Lib.hid (below_step HW.out hb)
             replace s0 := cel_below hb s0
             replace s1 := cel_below hb s1
             replace s2 := cel_below hb s2
             replace s3 := cel_below hb s3
             replace s4 := cel_below hb s4
             replace s5 := cel_below hb s5
             replace s6 := cel_below hb s6
             replace s7 := cel_below hb s7
             replace s8 := cel_below hb s8
             replace s9 := cel_below hb s9
             replace s10 := cel_below hb s10
             replace s11 := cel_below hb s11
             replace s12 := cel_below hb s12
             replace s13 := cel_below hb s13
             replace HMx := Lib.hid (hasInts_keep HMx.out hb)
             replace HX1 := Lib.hid (hasInts_keep HX1.out hb)
             replace LO := Nat.le_trans LO hb.size
             clear hb hwy
             refine hK.out _ _ ?_ (fun _ => ?_)
             · (try dsimp only); exact ⟨s0, s1, s2, s3, s4, s5, s6, s7, s8, s9, s10, s11, s12, s13⟩
             clear hK K
             (try simp only [Act.put, List.setIfInBounds_toArray, List.set_cons_zero, List.set_cons_succ])
             refine wpAnyH_ready (rs := [10]) (by kernel_rfl) (by simp) ?_
             refine AllReadyH.cons (o := ?oi45) ?hi45 (fun K hK => ?rest45) AllReadyH.nil
             (case hi45 => (simp only [List.getElem?_toArray, List.getElem?_cons_succ, List.getElem?_cons_zero]; rfl))
             go_simp
             obtain ⟨wz46, hwy⟩ : ∃ W, W = wz44.alloc (.cells #[.slice none 0 0] 55) := ⟨_, rfl⟩
             rw [← hwy]
             have hb : Below wz44.heap.size wz44 wz46 := by rw [hwy]; exact below_new1 _ _
             have xc0 : wz46.cell? ⟨wz44.heap.size, 0, none⟩ = some (.slice none 0 0) := by rw [hwy, World.cell?_alloc_at _ _ _ _ rfl]; rfl
             have xf0 : wz46.frozen? ⟨wz44.heap.size, 0, none⟩ = false := by rw [hwy]; exact World.frozen?_alloc_at _ _ _ _ rfl
             have xt : Tag wz46 wz44.heap.size 55 := by rw [hwy]; exact tag_new _ _ _
             have xz : wz44.heap.size < wz46.heap.size := by rw [hwy]; simp
             have xl := LO
             replace HW := Lib.hid (below_step HW.out hb)
             replace s0 := cel_below hb s0
             replace s1 := cel_below hb s1
             replace s2 := cel_below hb s2
             replace s3 := cel_below hb s3
             replace s4 := cel_below hb s4
             replace s5 := cel_below hb s5
             replace s6 := cel_below hb s6
             replace s7 := cel_below hb s7
             replace s8 := cel_below hb s8
             replace s9 := cel_below hb s9
             replace s10 := cel_below hb s10
             replace s11 := cel_below hb s11
             replace s12 := cel_below hb s12
             replace s13 := cel_below hb s13
             replace ec0 := cel_below hb ec0
             replace ef0 := fro_below hb ez ef0
             replace ec1 := cel_below hb ec1
             replace ef1 := fro_below hb ez ef1
             replace et := tag_below et hb
             have exn : wz24.heap.size ≠ wz44.heap.size := by omega
             replace ez := lt_below hb ez
             replace HMx := Lib.hid (hasInts_keep HMx.out hb)
             replace HX1 := Lib.hid (hasInts_keep HX1.out hb)
             replace LO := Nat.le_trans LO hb.size
             clear hb hwy
             refine hK.out _ _ ?_ (fun _ => ?_)
             · (try dsimp only); exact ⟨s0, s1, s2, s3, s4, s5, s6, s7, s8, s9, s10, s11, s12, s13⟩
             clear hK K
             (try simp only [Act.put, List.setIfInBounds_toArray, List.set_cons_zero, List.set_cons_succ])
             refine wpAnyH_ready (rs := [12]) (by kernel_rfl) (by simp) ?_
             refine AllReadyH.cons (o := ?oi47) ?hi47 (fun K hK => ?rest47) AllReadyH.nil
             (case hi47 => (simp only [List.getElem?_toArray, List.getElem?_cons_succ, List.getElem?_cons_zero]; rfl))
             go_simp
             obtain ⟨wz48, hwy⟩ : ∃ W, W = (wz46.setCell ⟨wz44.heap.size, 0, none⟩ (.slice a4 16 c4)) := ⟨_, rfl⟩
             rw [← hwy]
             have kp : ∀ {b' o' : Nat} {u : Value}, wz46.cell? ⟨b', o', none⟩ = some u → wz44.heap.size ≠ b' → wz48.cell? ⟨b', o', none⟩ = some u := fun h hn => by rw [hwy]; exact keepA_ (h) (Or.inl hn)
             replace s0 := kp s0 (by omega)
             replace s1 := kp s1 (by omega)
             replace s2 := kp s2 (by omega)
             replace s3 := kp s3 (by omega)
             replace s4 := kp s4 (by omega)
             replace s5 := kp s5 (by omega)
             replace s6 := kp s6 (by omega)
             replace s7 := kp s7 (by omega)
             replace s8 := kp s8 (by omega)
             replace s9 := kp s9 (by omega)
             replace s10 := kp s10 (by omega)
             replace s11 := kp s11 (by omega)
             replace s12 := kp s12 (by omega)
             replace s13 := kp s13 (by omega)
             clear kp
             replace ec0 : wz48.cell? ⟨wz24.heap.size, 0, none⟩ = some (.int .i64 0) := by rw [hwy]; exact keepA_ (ec0) (Or.inl (by omega))
             replace ef0 : wz48.frozen? ⟨wz24.heap.size, 0, none⟩ = false := by rw [hwy]; simpa using ef0
             replace ec1 : wz48.cell? ⟨wz24.heap.size, 1, none⟩ = some (.bool false) := by rw [hwy]; exact keepA_ (ec1) (Or.inl (by omega))
             replace ef1 : wz48.frozen? ⟨wz24.heap.size, 1, none⟩ = false := by rw [hwy]; simpa using ef1
             replace HMx : Hid (HasInts wz48 (.slice am 16 cm) (laidZ 2 s o)) := Lib.hid (by rw [hwy]; exact (hasInts_setS HMx.out xc0 (u := .slice a4 16 c4)))
             replace HX1 : Hid (HasInts wz48 (.slice a4 16 c4) (laidZ 2 s o)) := Lib.hid (by rw [hwy]; exact (hasInts_setS HX1.out xc0 (u := .slice a4 16 c4)))
             have xd0 : wz48.cell? ⟨wz44.heap.size, 0, none⟩ = some (.slice a4 16 c4) := by rw [hwy]; exact World.cell?_setCell_same _ _ _ xc0
             replace et : Tag wz48 wz24.heap.size 85 := by rw [hwy]; exact (tag_set et _ _)
             replace xt : Tag wz48 wz44.heap.size 55 := by rw [hwy]; exact (tag_set xt _ _)
             replace xf0 : wz48.frozen? ⟨wz44.heap.size, 0, none⟩ = false := by rw [hwy]; simpa using xf0
             replace HW := Lib.hid (Below.setCell (p := ⟨wz44.heap.size, 0, none⟩) HW.out (by have := HWS.out; dsimp only; omega) (.slice a4 16 c4))
             rw [← hwy] at HW
             have hsz : wz48.heap.size = wz46.heap.size := by rw [hwy]; simp
             replace ez : wz24.heap.size < wz48.heap.size := by omega
             replace xz : wz44.heap.size < wz48.heap.size := by omega
             replace LO : _ ≤ wz48.heap.size := Nat.le_trans LO (Nat.le_of_eq hsz.symm)
             clear hsz hwy xc0
             have xc0 := xd0
             clear xd0
             refine hK.out _ _ ?_ (fun _ => ?_)
             · (try dsimp only); exact ⟨s0, s1, s2, s3, s4, s5, s6, s7, s8, s9, s10, s11, s12, s13⟩
             clear hK K
             (try simp only [Act.put, List.setIfInBounds_toArray, List.set_cons_zero, List.set_cons_succ])
             refine wpAnyH_ready (rs := [13]) (by kernel_rfl) (by simp) ?_
             refine AllReadyH.cons (o := ?oi49) ?hi49 (fun K hK => ?rest49) AllReadyH.nil
             (case hi49 => (simp only [List.getElem?_toArray, List.getElem?_cons_succ, List.getElem?_cons_zero]; rfl))
             go_simp
             obtain ⟨wz50, hwy⟩ : ∃ W, W = ((wz48.setCell ⟨wz24.heap.size, 0, none⟩ (.int .i64 r4)).setCell ⟨wz24.heap.size, 1, none⟩ (.bool b4)) := ⟨_, rfl⟩
             rw [← hwy]
             have kp : ∀ {b' o' : Nat} {u : Value}, wz48.cell? ⟨b', o', none⟩ = some u → wz24.heap.size ≠ b' → wz50.cell? ⟨b', o', none⟩ = some u := fun h hn => by rw [hwy]; exact keepA_ (keepA_ (h) (Or.inl hn)) (Or.inl hn)
             replace s0 := kp s0 (by omega)
             replace s1 := kp s1 (by omega)
             replace s2 := kp s2 (by omega)
             replace s3 := kp s3 (by omega)
             replace s4 := kp s4 (by omega)
             replace s5 := kp s5 (by omega)
             replace s6 := kp s6 (by omega)
             replace s7 := kp s7 (by omega)
             replace s8 := kp s8 (by omega)
             replace s9 := kp s9 (by omega)
             replace s10 := kp s10 (by omega)
             replace s11 := kp s11 (by omega)
             replace s12 := kp s12 (by omega)
             replace s13 := kp s13 (by omega)
             clear kp
             replace xc0 : wz50.cell? ⟨wz44.heap.size, 0, none⟩ = some (.slice a4 16 c4) := by rw [hwy]; exact keepA_ (keepA_ (xc0) (Or.inl (by omega))) (Or.inl (by omega))
             replace xf0 : wz50.frozen? ⟨wz44.heap.size, 0, none⟩ = false := by rw [hwy]; simpa using xf0
             replace HMx : Hid (HasInts wz50 (.slice am 16 cm) (laidZ 2 s o)) := Lib.hid (by rw [hwy]; exact hasInts_res HMx.out (by simp [laidZ]) ec1)
             replace HX1 : Hid (HasInts wz50 (.slice a4 16 c4) (laidZ 2 s o)) := Lib.hid (by rw [hwy]; exact hasInts_res HX1.out (by simp [laidZ]) ec1)
             have ed0 : wz50.cell? ⟨wz24.heap.size, 0, none⟩ = some (.int .i64 r4) := by rw [hwy]; exact keepA_ (World.cell?_setCell_same _ _ _ ec0) (Or.inr (by simp))
             have ed1 : wz50.cell? ⟨wz24.heap.size, 1, none⟩ = some (.bool b4) := by rw [hwy]; exact World.cell?_setCell_same _ _ _ (keepA_ ec1 (Or.inr (by simp)))
             replace et : Tag wz50 wz24.heap.size 85 := by rw [hwy]; exact (tag_set (tag_set et _ _) _ _)
             replace xt : Tag wz50 wz44.heap.size 55 := by rw [hwy]; exact (tag_set (tag_set xt _ _) _ _)
             replace ef0 : wz50.frozen? ⟨wz24.heap.size, 0, none⟩ = false := by rw [hwy]; simpa using ef0
             replace ef1 : wz50.frozen? ⟨wz24.heap.size, 1, none⟩ = false := by rw [hwy]; simpa using ef1
             replace HW := Lib.hid (Below.setCell (p := ⟨wz24.heap.size, 1, none⟩) (Below.setCell (p := ⟨wz24.heap.size, 0, none⟩) HW.out (by have := HWS.out; dsimp only; omega) (.int .i64 r4)) (by have := HWS.out; dsimp only; omega) (.bool b4))
             rw [← hwy] at HW
             have hsz : wz50.heap.size = wz48.heap.size := by rw [hwy]; simp
             replace ez : wz24.heap.size < wz50.heap.size := by omega
             replace xz : wz44.heap.size < wz50.heap.size := by omega
             replace LO : _ ≤ wz50.heap.size := Nat.le_trans LO (Nat.le_of_eq hsz.symm)
             clear hsz hwy ec0 ec1
             have ec0 := ed0
             clear ed0
             have ec1 := ed1
             clear ed1
             refine hK.out _ _ ?_ (fun _ => ?_)
             · (try dsimp only); exact ⟨s0, s1, s2, s3, s4, s5, s6, s7, s8, s9, s10, s11, s12, s13⟩
             clear hK K
             (try simp only [Act.put, List.setIfInBounds_toArray, List.set_cons_zero, List.set_cons_succ])
             have hHeld := And.intro s0 (And.intro s1 (And.intro s2 (And.intro s3 (And.intro s4 (And.intro s5 (And.intro s6 (And.intro s7 (And.intro s8 (And.intro s9 (And.intro s10 (And.intro s11 (And.intro s12 (s13)))))))))))))
             refine wpAnyH_take (i := 14) (oi := ?oi51) (v := ?v51) ?hi51 (by kernel_rfl) (by kernel_rfl) (by kernel_rfl) ?hQ51 (Or.inl ⟨?hw51, ?hy51⟩) (by assumption) ?rest51; (case hi51 => (simp only [List.getElem?_toArray, List.getElem?_cons_succ, List.getElem?_cons_zero]; rfl)); (case hQ51 => exact fun _ _ _ h => h); (case hw51 => rfl); (case hy51 => ((intro w hSw); (try dsimp only at hSw); go_simp; (try with_reducible rfl)))
             (try simp only [Act.put, List.setIfInBounds_toArray, List.set_cons_zero, List.set_cons_succ])
             clear hHeld
             refine wpAnyH_done (by kernel_rfl) ?_ _
             go_wp2_with fail
             go_meet
             exact ⟨wz44.heap.size, a4, c4, rfl, xc0, HX1.out, HMx.out, HW.out⟩
           case rest22 =>
            go_simp
            obtain ⟨wz53, hwy⟩ : ∃ W, W = wz18.alloc (.cells #[.slice none 0 0] 55) := ⟨_, rfl⟩
            rw [← hwy]
            have hb : Below wz18.heap.size wz18 wz53 := by rw [hwy]; exact below_new1 _ _
            have xc0 : wz53.cell? ⟨wz18.heap.size, 0, none⟩ = some (.slice none 0 0) := by rw [hwy, World.cell?_alloc_at _ _ _ _ rfl]; rfl
            have xf0 : wz53.frozen? ⟨wz18.heap.size, 0, none⟩ = false := by rw [hwy]; exact World.frozen?_alloc_at _ _ _ _ rfl
            have xt : Tag wz53 wz18.heap.size 55 := by rw [hwy]; exact tag_new _ _ _
            have xz : wz18.heap.size < wz53.heap.size := by rw [hwy]; simp
            have xl := LO
            replace HW := Lib.hid (below_step HW.out hb)
            replace s0 := cel_below hb s0
            replace s1 := cel_below hb s1
            replace s2 := cel_below hb s2
            replace s3 := cel_below hb s3
            replace s4 := cel_below hb s4
            replace s5 := cel_below hb s5
            replace s6 := cel_below hb s6
            replace s7 := cel_below hb s7
            replace s8 := cel_below hb s8
            replace s9 := cel_below hb s9
            replace s10 := cel_below hb s10
            replace s11 := cel_below hb s11
            replace s12 := cel_below hb s12
            replace s13 := cel_below hb s13
            replace HMx := Lib.hid (hasInts_keep HMx.out hb)
            replace HZx := Lib.hid (hasInts_keep HZx.out hb)
            replace LO := Nat.le_trans LO hb.size
            clear hb hwy
            refine hK.out _ _ ?_ (fun _ => ?_)
            · (try dsimp only); exact ⟨s0, s1, s2, s3, s4, s5, s6, s7, s8, s9, s10, s11, s12, s13⟩
            clear hK K
            (try simp only [Act.put, List.setIfInBounds_toArray, List.set_cons_zero, List.set_cons_succ])
            refine wpAnyH_ready (rs := [5, 11]) (by kernel_rfl) (by simp) ?_
            refine AllReadyH.cons (o := ?oi54) ?hi54 (fun K hK => ?rest54) (AllReadyH.cons (o := ?oi55) ?hi55 (fun K hK => ?rest55) AllReadyH.nil)
            (case hi54 => (simp only [List.getElem?_toArray, List.getElem?_cons_succ, List.getElem?_cons_zero]; rfl))
            (case hi55 => (simp only [List.getElem?_toArray, List.getElem?_cons_succ, List.getElem?_cons_zero]; rfl))
            case rest54 =>
             go_simp
             ((with_reducible refine (HDo.out _ _ _ HZx.out).mono ?_); rintro e wz56 ⟨a4, c4, r4, b4, rfl, hq, hb⟩)
             replace HW := Lib.hid (below_step HW.out hb)
             replace s0 := cel_below hb s0
             replace s1 := cel_below hb s1
             replace s2 := cel_below hb s2
             replace s3 := cel_below hb s3
             replace s4 := cel_below hb s4
             replace s5 := cel_below hb s5
             replace s6 := cel_below hb s6
             replace s7 := cel_below hb s7
             replace s8 := cel_below hb s8
             replace s9 := cel_below hb s9
             replace s10 := cel_below hb s10
             replace s11 := cel_below hb s11
             replace s12 := cel_below hb s12
             replace s13 := cel_below hb s13
             replace xc0 := cel_below hb xc0
             replace xf0 := fro_below hb xz xf0
             replace xz := lt_below hb xz
             replace xt := tag_below xt hb
             replace HMx := Lib.hid (hasInts_keep HMx.out hb)
             replace HZx := Lib.hid (hasInts_keep HZx.out hb)
             have HX1 := Lib.hid hq
             clear hq
             replace LO := Nat.le_trans LO hb.size
             clear hb
             refine hK.out _ _ ?_ (fun _ => ?_)
             · (try dsimp only); exact ⟨s0, s1, s2, s3, s4, s5, s6, s7, s8, s9, s10, s11, s12, s13⟩
             clear hK K
             (try simp only [Act.put, List.setIfInBounds_toArray, List.set_cons_zero, List.set_cons_succ])
             have hHeld := And.intro s0 (And.intro s1 (And.intro s2 (And.intro s3 (And.intro s4 (And.intro s5 (And.intro s6 (And.intro s7 (And.intro s8 (And.intro s9 (And.intro s10 (And.intro s11 (And.intro s12 (s13)))))))))))))
             refine wpAnyH_take (i := 6) (oi := ?oi57) (v := ?v57) ?hi57 (by kernel_rfl) (by kernel_rfl) (by kernel_rfl) ?hQ57 (Or.inl ⟨?hw57, ?hy57⟩) (by assumption) ?rest57; (case hi57 => (simp only [List.getElem?_toArray, List.getElem?_cons_succ, List.getElem?_cons_zero]; rfl)); (case hQ57 => exact fun _ _ _ h => h); (case hw57 => rfl); (case hy57 => ((intro w hSw); (try dsimp only at hSw); go_simp; (try with_reducible rfl)))
             (try simp only [Act.put, List.setIfInBounds_toArray, List.set_cons_zero, List.set_cons_succ])
             refine wpAnyH_take (i := 7) (oi := ?oi59) (v := ?v59) ?hi59 (by kernel_rfl) (by kernel_rfl) (by kernel_rfl) ?hQ59 (Or.inl ⟨?hw59, ?hy59⟩) (by assumption) ?rest59; (case hi59 => (simp only [List.getElem?_toArray, List.getElem?_cons_succ, List.getElem?_cons_zero]; rfl)); (case hQ59 => exact fun _ _ _ h => h); (case hw59 => rfl); (case hy59 => ((intro w hSw); (try dsimp only at hSw); go_simp; (try with_reducible rfl)))
             (try simp only [Act.put, List.setIfInBounds_toArray, List.set_cons_zero, List.set_cons_succ])
             refine wpAnyH_take (i := 8) (oi := ?oi61) (v := ?v61) ?hi61 (by kernel_rfl) (by kernel_rfl) (by kernel_rfl) ?hQ61 (Or.inl ⟨?hw61, ?hy61⟩) (by assumption) ?rest61; (case hi61 => (simp only [List.getElem?_toArray, List.getElem?_cons_succ, List.getElem?_cons_zero]; rfl)); (case hQ61 => exact fun _ _ _ h => h); (case hw61 => rfl); (case hy61 => ((intro w hSw); (try dsimp only at hSw); go_simp; (try with_reducible rfl)))
             (try simp only [Act.put, List.setIfInBounds_toArray, List.set_cons_zero, List.set_cons_succ])
             refine wpAnyH_take (i := 9) (oi := ?oi63) (v := ?v63) ?hi63 (by kernel_rfl) (by kernel_rfl) (by kernel_rfl) ?hQ63 (Or.inl ⟨?hw63, ?hy63⟩) (by assumption) ?rest63; (case hi63 => (simp only [List.getElem?_toArray, List.getElem?_cons_succ, List.getElem?_cons_zero]; rfl)); (case hQ63 => exact fun _ _ _ h => h); (case hw63 => rfl); (case hy63 => ((intro w hSw); (try dsimp only at hSw); go_simp; (try with_reducible rfl)))
             (try simp only [Act.put, List.setIfInBounds_toArray, List.set_cons_zero, List.set_cons_succ])
             clear hHeld
             refine wpAnyH_ready (rs := [11]) (by kernel_rfl) (by simp) ?_
             refine AllReadyH.cons (o := ?oi65) ?hi65 (fun K hK => ?rest65) AllReadyH.nil
             (case hi65 => (simp only [List.getElem?_toArray, List.getElem?_cons_succ, List.getElem?_cons_zero]; rfl))
             go_simp
             obtain ⟨wz66, hwy⟩ : ∃ W, W = wz56.alloc (.cells #[.int .i64 0, .bool false] 85) := ⟨_, rfl⟩
             rw [← hwy]
             have hb : Below wz56.heap.size wz56 wz66 := by rw [hwy]; exact below_new1 _ _
             have ec0 : wz66.cell? ⟨wz56.heap.size, 0, none⟩ = some (.int .i64 0) := by rw [hwy, World.cell?_alloc_at _ _ _ _ rfl]; rfl
             have ef0 : wz66.frozen? ⟨wz56.heap.size, 0, none⟩ = false := by rw [hwy]; exact World.frozen?_alloc_at _ _ _ _ rfl
             have ec1 : wz66.cell? ⟨wz56.heap.size, 1, none⟩ = some (.bool false) := by rw [hwy, World.cell?_alloc_at _ _ _ _ rfl]; rfl
             have ef1 : wz66.frozen? ⟨wz56.heap.size, 1, none⟩ = false := by rw [hwy]; exact World.frozen?_alloc_at _ _ _ _ rfl
             have et : Tag wz66 wz56.heap.size 85 := by rw [hwy]; exact tag_new _ _ _
             have ez : wz56.heap.size < wz66.heap.size := by rw [hwy]; simp
             have el := LO
             replace HW := Lib.hid (below_step HW.out hb)
             replace s0 := cel_below hb s0
             replace s1 := cel_below hb s1
             replace s2 := cel_below hb s2
             replace s3 := cel_below hb s3
             replace s4 := cel_below hb s4
             replace s5 := cel_below hb s5
             replace s6 := cel_below hb s6
             replace s7 := cel_below hb s7
             replace s8 := cel_below hb s8
             replace s9 := cel_below hb s9
             replace s10 := cel_below hb s10
             replace s11 := cel_below hb s11
             replace s12 := cel_below hb s12
             replace s13 := cel_below hb s13
             replace xc0 := cel_below hb xc0
             replace xf0 := fro_below hb xz xf0
             replace xt := tag_below xt hb
             have xen : wz18.heap.size ≠ wz56.heap.size := by omega
             replace xz := lt_below hb xz
             replace HMx := Lib.hid (hasInts_keep HMx.out hb)
             replace HX1 := Lib.hid (hasInts_keep HX1.out hb)
             replace LO := Nat.le_trans LO hb.size
             clear hb hwy
             refine hK.out _ _ ?_ (fun _ => ?_)
             · (try dsimp only); exact ⟨s0, s1, s2, s3, s4, s5, s6, s7, s8, s9, s10, s11, s12, s13⟩
             clear hK K
             (try simp only [Act.put, List.setIfInBounds_toArray, List.set_cons_zero, List.set_cons_succ])
             refine wpAnyH_ready (rs := [12]) (by kernel_rfl) (by simp) ?_
             refine AllReadyH.cons (o := ?oi67) ?hi67 (fun K hK => ?rest67) AllReadyH.nil
             (case hi67 => (simp only [List.getElem?_toArray, List.getElem?_cons_succ, List.getElem?_cons_zero]; rfl))
             go_simp
             obtain ⟨wz68, hwy⟩ : ∃ W, W = (wz66.setCell ⟨wz18.heap.size, 0, none⟩ (.slice a4 16 c4)) := ⟨_, rfl⟩
             rw [← hwy]
             have kp : ∀ {b' o' : Nat} {u : Value}, wz66.cell? ⟨b', o', none⟩ = some u → wz18.heap.size ≠ b' → wz68.cell? ⟨b', o', none⟩ = some u := fun h hn => by rw [hwy]; exact keepA_ (h) (Or.inl hn)
             replace s0 := kp s0 (by omega)
             replace s1 := kp s1 (by omega)
             replace s2 := kp s2 (by omega)
             replace s3 := kp s3 (by omega)
             replace s4 := kp s4 (by omega)
             replace s5 := kp s5 (by omega)
             replace s6 := kp s6 (by omega)
             replace s7 := kp s7 (by omega)
             replace s8 := kp s8 (by omega)
             replace s9 := kp s9 (by omega)
             replace s10 := kp s10 (by omega)
             replace s11 := kp s11 (by omega)
             replace s12 := kp s12 (by omega)
             replace s13 := kp s13 (by omega)
             clear kp
             replace ec0 : wz68.cell? ⟨wz56.heap.size, 0, none⟩ = some (.int .i64 0) := by rw [hwy]; exact keepA_ (ec0) (Or.inl (by omega))
             replace ef0 : wz68.frozen? ⟨wz56.heap.size, 0, none⟩ = false := by rw [hwy]; simpa using ef0
             replace ec1 : wz68.cell? ⟨wz56.heap.size, 1, none⟩ = some (.bool false) := by rw [hwy]; exact keepA_ (ec1) (Or.inl (by omega))
             replace ef1 : wz68.frozen? ⟨wz56.heap.size, 1, none⟩ = false := by rw [hwy]; simpa using ef1
             replace HMx : Hid (HasInts wz68 (.slice am 16 cm) (laidZ 2 s o)) := Lib.hid (by rw [hwy]; exact (hasInts_setS HMx.out xc0 (u := .slice a4 16 c4)))
             replace HX1 : Hid (HasInts wz68 (.slice a4 16 c4) (laidZ 2 s o)) := Lib.hid (by rw [hwy]; exact (hasInts_setS HX1.out xc0 (u := .slice a4 16 c4)))
             have xd0 : wz68.cell? ⟨wz18.heap.size, 0, none⟩ = some (.slice a4 16 c4) := by rw [hwy]; exact World.cell?_setCell_same _ _ _ xc0
             replace xt : Tag wz68 wz18.heap.size 55 := by rw [hwy]; exact (tag_set xt _ _)
             replace et : Tag wz68 wz56.heap.size 85 := by rw [hwy]; exact (tag_set et _ _)
             replace xf0 : wz68.frozen? ⟨wz18.heap.size, 0, none⟩ = false := by rw [hwy]; simpa using xf0
             replace HW := Lib.hid (Below.setCell (p := ⟨wz18.heap.size, 0, none⟩) HW.out (by have := HWS.out; dsimp only; omega) (.slice a4 16 c4))
             rw [← hwy] at HW
             have hsz : wz68.heap.size = wz66.heap.size := by rw [hwy]; simp
             replace xz : wz18.heap.size < wz68.heap.size := by omega
             replace ez : wz56.heap.size < wz68.heap.size := by omega
             replace LO : _ ≤ wz68.heap.size := Nat.le_trans LO (Nat.le_of_eq hsz.symm)
             clear hsz hwy xc0
             have xc0 := xd0
             clear xd0
             refine hK.out _ _ ?_ (fun _ => ?_)
             · (try dsimp only); exact ⟨s0, s1, s2, s3, s4, s5, s6, s7, s8, s9, s10, s11, s12, s13⟩
             clear hK K
             (try simp only [Act.put, List.setIfInBounds_toArray, List.set_cons_zero, List.set_cons_succ])
             refine wpAnyH_ready (rs := [13]) (by kernel_rfl) (by simp) ?_
             refine AllReadyH.cons (o := ?oi69) ?hi69 (fun K hK => ?rest69) AllReadyH.nil
             (case hi69 => (simp only [List.getElem?_toArray, List.getElem?_cons_succ, List.getElem?_cons_zero]; rfl))
             go_simp
             obtain ⟨wz70, hwy⟩ : ∃ W, W = ((wz68.setCell ⟨wz56.heap.size, 0, none⟩ (.int .i64 r4)).setCell ⟨wz56.heap.size, 1, none⟩ (.bool b4)) := ⟨_, rfl⟩
             rw [← hwy]
             have kp : ∀ {b' o' : Nat} {u : Value}, wz68.cell? ⟨b', o', none⟩ = some u → wz56.heap.size ≠ b' → wz70.cell? ⟨b', o', none⟩ = some u := fun h hn => by rw [hwy]; exact keepA_ (keepA_ (h) (Or.inl hn)) (Or.inl hn)
             replace s0 := kp s0 (by omega)
             replace s1 := kp s1 (by omega)
             replace s2 := kp s2 (by omega)
             replace s3 := kp s3 (by omega)
             replace s4 := kp s4 (by omega)
             replace s5 := kp s5 (by omega)
             replace s6 := kp s6 (by omega)
             replace s7 := kp s7 (by omega)
             replace s8 := kp s8 (by omega)
             replace s9 := kp s9 (by omega)
             replace s10 := kp s10 (by omega)
             replace s11 := kp s11 (by omega)
             replace s12 := kp s12 (by omega)
             replace s13 := kp s13 (by omega)
             clear kp
             replace xc0 : wz70.cell? ⟨wz18.heap.size, 0, none⟩ = some (.slice a4 16 c4) := by rw [hwy]; exact keepA_ (keepA_ (xc0) (Or.inl (by omega))) (Or.inl (by omega))
             replace xf0 : wz70.frozen? ⟨wz18.heap.size, 0, none⟩ = false := by rw [hwy]; simpa using xf0
             replace HMx : Hid (HasInts wz70 (.slice am 16 cm) (laidZ 2 s o)) := Lib.hid (by rw [hwy]; exact hasInts_res HMx.out (by simp [laidZ]) ec1)
             replace HX1 : Hid (HasInts wz70 (.slice a4 16 c4) (laidZ 2 s o)) := Lib.hid (by rw [hwy]; exact hasInts_res HX1.out (by simp [laidZ]) ec1)
             have ed0 : wz70.cell? ⟨wz56.heap.size, 0, none⟩ = some (.int .i64 r4) := by rw [hwy]; exact keepA_ (World.cell?_setCell_same _ _ _ ec0) (Or.inr (by simp))
             have ed1 : wz70.cell? ⟨wz56.heap.size, 1, none⟩ = some (.bool b4) := by rw [hwy]; exact World.cell?_setCell_same _ _ _ (keepA_ ec1 (Or.inr (by simp)))
             replace xt : Tag wz70 wz18.heap.size 55 := by rw [hwy]; exact (tag_set (tag_set xt _ _) _ _)
             replace et : Tag wz70 wz56.heap.size 85 := by rw [hwy]; exact (tag_set (tag_set et _ _) _ _)
             replace ef0 : wz70.frozen? ⟨wz56.heap.size, 0, none⟩ = false := by rw [hwy]; simpa using ef0
             replace ef1 : wz70.frozen? ⟨wz56.heap.size, 1, none⟩ = false := by rw [hwy]; simpa using ef1
             replace HW := Lib.hid (Below.setCell (p := ⟨wz56.heap.size, 1, none⟩) (Below.setCell (p := ⟨wz56.heap.size, 0, none⟩) HW.out (by have := HWS.out; dsimp only; omega) (.int .i64 r4)) (by have := HWS.out; dsimp only; omega) (.bool b4))
             rw [← hwy] at HW
             have hsz : wz70.heap.size = wz68.heap.size := by rw [hwy]; simp
             replace xz : wz18.heap.size < wz70.heap.size := by omega
             replace ez : wz56.heap.size < wz70.heap.size := by omega
             replace LO : _ ≤ wz70.heap.size := Nat.le_trans LO (Nat.le_of_eq hsz.symm)
             clear hsz hwy ec0 ec1
             have ec0 := ed0
             clear ed0
             have ec1 := ed1
             clear ed1
             refine hK.out _ _ ?_ (fun _ => ?_)
             · (try dsimp only); exact ⟨s0, s1, s2, s3, s4, s5, s6, s7, s8, s9, s10, s11, s12, s13⟩
             clear hK K
             (try simp only [Act.put, List.setIfInBounds_toArray, List.set_cons_zero, List.set_cons_succ])
             have hHeld := And.intro s0 (And.intro s1 (And.intro s2 (And.intro s3 (And.intro s4 (And.intro s5 (And.intro s6 (And.intro s7 (And.intro s8 (And.intro s9 (And.intro s10 (And.intro s11 (And.intro s12 (s13)))))))))))))
             refine wpAnyH_take (i := 14) (oi := ?oi71) (v := ?v71) ?hi71 (by kernel_rfl) (by kernel_rfl) (by kernel_rfl) ?hQ71 (Or.inl ⟨?hw71, ?hy71⟩) (by assumption) ?rest71; (case hi71 => (simp only [List.getElem?_toArray, List.getElem?_cons_succ, List.getElem?_cons_zero]; rfl)); (case hQ71 => exact fun _ _ _ h => h); (case hw71 => rfl); (case hy71 => ((intro w hSw); (try dsimp only at hSw); go_simp; (try with_reducible rfl)))
             (try simp only [Act.put, List.setIfInBounds_toArray, List.set_cons_zero, List.set_cons_succ])
             clear hHeld
             refine wpAnyH_done (by kernel_rfl) ?_ _
             go_wp2_with fail
             go_meet
             exact ⟨wz18.heap.size, a4, c4, rfl, xc0, HX1.out, HMx.out, HW.out⟩
            case rest55 =>
             go_simp
             obtain ⟨wz73, hwy⟩ : ∃ W, W = wz53.alloc (.cells #[.int .i64 0, .bool false] 85) := ⟨_, rfl⟩
             rw [← hwy]
             have hb : Below wz53.heap.size wz53 wz73 := by rw [hwy]; exact below_new1 _ _
             have ec0 : wz73.cell? ⟨wz53.heap.size, 0, none⟩ = some (.int .i64 0) := by rw [hwy, World.cell?_alloc_at _ _ _ _ rfl]; rfl
             have ef0 : wz73.frozen? ⟨wz53.heap.size, 0, none⟩ = false := by rw [hwy]; exact World.frozen?_alloc_at _ _ _ _ rfl
             have ec1 : wz73.cell? ⟨wz53.heap.size, 1, none⟩ = some (.bool false) := by rw [hwy, World.cell?_alloc_at _ _ _ _ rfl]; rfl
             have ef1 : wz73.frozen? ⟨wz53.heap.size, 1, none⟩ = false := by rw [hwy]; exact World.frozen?_alloc_at _ _ _ _ rfl
             have et : Tag wz73 wz53.heap.size 85 := by rw [hwy]; exact tag_new _ _ _
             have ez : wz53.heap.size < wz73.heap.size := by rw [hwy]; simp
             have el := LO
             replace HW := Lib.hid (below_step HW.out hb)
             replace s0 := cel_below hb s0
             replace s1 := cel_below hb s1
             replace s2 := cel_below hb s2
             replace s3 := cel_below hb s3
             replace s4 := cel_below hb s4
             replace s5 := cel_below hb s5
             replace s6 := cel_below hb s6
             replace s7 := cel_below hb s7
             replace s8 := cel_below hb s8
             replace s9 := cel_below hb s9
             replace s10 := cel_below hb s10
             replace s11 := cel_below hb s11
             replace s12 := cel_below hb s12
             replace s13 := cel_below hb s13
             replace xc0 := cel_below hb xc0
             replace xf0 := fro_below hb xz xf0
             replace xt := tag_below xt hb
             have xen : wz18.heap.size ≠ wz53.heap.size := by omega
             replace xz := lt_below hb xz
             replace HMx := Lib.hid (hasInts_keep HMx.out hb)
             replace HZx := Lib.hid (hasInts_keep HZx.out hb)
             replace LO := Nat.le_trans LO hb.size
             clear hb hwy
             refine hK.out _ _ ?_ (fun _ => ?_)
             · (try dsimp only); exact ⟨s0, s1, s2, s3, s4, s5, s6, s7, s8, s9, s10, s11, s12, s13⟩
             clear hK K
             (try simp only [Act.put, List.setIfInBounds_toArray, List.set_cons_zero, List.set_cons_succ])
             refine wpAnyH_ready (rs := [5]) (by kernel_rfl) (by simp) ?_
             refine AllReadyH.cons (o := ?oi74) ?hi74 (fun K hK => ?rest74) AllReadyH.nil
             (case hi74 => (simp only [List.getElem?_toArray, List.getElem?_cons_succ, List.getElem?_cons_zero]; rfl))
             go_simp
             ((with_reducible refine (HDo.out _ _ _ HZx.out).mono ?_); rintro e wz75 ⟨a4, c4, r4, b4, rfl, hq, hb⟩)
             replace HW := Lib.hid (below_step HW.out hb)
             replace s0 := cel_below hb s0
             replace s1 := cel_below hb s1
             replace s2 := cel_below hb s2
             replace s3 := cel_below hb s3
             replace s4 := cel_below hb s4
             replace s5 := cel_below hb s5
             replace s6 := cel_below hb s6
             replace s7 := cel_below hb s7
             replace s8 := cel_below hb s8
             replace s9 := cel_below hb s9
             replace s10 := cel_below hb s10
             replace s11 := cel_below hb s11
             replace s12 := cel_below hb s12
             replace s13 := cel_below hb s13
             replace xc0 := cel_below hb xc0
             replace xf0 := fro_below hb xz xf0
             replace xz := lt_below hb xz
             replace xt := tag_below xt hb
             replace ec0 := cel_below hb ec0
             replace ef0 := fro_below hb ez ef0
             replace ec1 := cel_below hb ec1
             replace ef1 := fro_below hb ez ef1
             replace ez := lt_below hb ez
             replace et := tag_below et hb
             replace HMx := Lib.hid (hasInts_keep HMx.out hb)
             replace HZx := Lib.hid (hasInts_keep HZx.out hb)
             have HX1 := Lib.hid hq
             clear hq
             replace LO := Nat.le_trans LO hb.size
             clear hb
             refine hK.out _ _ ?_ (fun _ => ?_)
             · (try dsimp only); exact ⟨s0, s1, s2, s3, s4, s5, s6, s7, s8, s9, s10, s11, s12, s13⟩
             clear hK K
             (try simp only [Act.put, List.setIfInBounds_toArray, List.set_cons_zero, List.set_cons_succ])
             have hHeld := And.intro s0 (And.intro s1 (And.intro s2 (And.intro s3 (And.intro s4 (And.intro s5 (And.intro s6 (And.intro s7 (And.intro s8 (And.intro s9 (And.intro s10 (And.intro s11 (And.intro s12 (s13)))))))))))))
             refine wpAnyH_take (i := 6) (oi := ?oi76) (v := ?v76) ?hi76 (by kernel_rfl) (by kernel_rfl) (by kernel_rfl) ?hQ76 (Or.inl ⟨?hw76, ?hy76⟩) (by assumption) ?rest76; (case hi76 => (simp only [List.getElem?_toArray, List.getElem?_cons_succ, List.getElem?_cons_zero]; rfl)); (case hQ76 => exact fun _ _ _ h => h); (case hw76 => rfl); (case hy76 => ((intro w hSw); (try dsimp only at hSw); go_simp; (try with_reducible rfl)))
             (try simp only [Act.put, List.setIfInBounds_toArray, List.set_cons_zero, List.set_cons_succ])
             refine wpAnyH_take (i := 7) (oi := ?oi78) (v := ?v78) ?hi78 (by kernel_rfl) (by kernel_rfl) (by kernel_rfl) ?hQ78 (Or.inl ⟨?hw78, ?hy78⟩) (by assumption) ?rest78; (case hi78 => (simp only [List.getElem?_toArray, List.getElem?_cons_succ, List.getElem?_cons_zero]; rfl)); (case hQ78 => exact fun _ _ _ h => h); (case hw78 => rfl); (case hy78 => ((intro w hSw); (try dsimp only at hSw); go_simp; (try with_reducible rfl)))
             (try simp only [Act.put, List.setIfInBounds_toArray, List.set_cons_zero, List.set_cons_succ])
             refine wpAnyH_take (i := 8) (oi := ?oi80) (v := ?v80) ?hi80 (by kernel_rfl) (by kernel_rfl) (by kernel_rfl) ?hQ80 (Or.inl ⟨?hw80, ?hy80⟩) (by assumption) ?rest80; (case hi80 => (simp only [List.getElem?_toArray, List.getElem?_cons_succ, List.getElem?_cons_zero]; rfl)); (case hQ80 => exact fun _ _ _ h => h); (case hw80 => rfl); (case hy80 => ((intro w hSw); (try dsimp only at hSw); go_simp; (try with_reducible rfl)))
             (try simp only [Act.put, List.setIfInBounds_toArray, List.set_cons_zero, List.set_cons_succ])
             refine wpAnyH_take (i := 9) (oi := ?oi82) (v := ?v82) ?hi82 (by kernel_rfl) (by kernel_rfl) (by kernel_rfl) ?hQ82 (Or.inl ⟨?hw82, ?hy82⟩) (by assumption) ?rest82; (case hi82 => (simp only [List.getElem?_toArray, List.getElem?_cons_succ, List.getElem?_cons_zero]; rfl)); (case hQ82 => exact fun _ _ _ h => h); (case hw82 => rfl); (case hy82 => ((intro w hSw); (try dsimp only at hSw); go_simp; (try with_reducible rfl)))
             (try simp only [Act.put, List.setIfInBounds_toArray, List.set_cons_zero, List.set_cons_succ])
             clear hHeld
             refine wpAnyH_ready (rs := [12]) (by kernel_rfl) (by simp) ?_
             refine AllReadyH.cons (o := ?oi84) ?hi84 (fun K hK => ?rest84) AllReadyH.nil
             (case hi84 => (simp only [List.getElem?_toArray, List.getElem?_cons_succ, List.getElem?_cons_zero]; rfl))
             go_simp
             obtain ⟨wz85, hwy⟩ : ∃ W, W = (wz75.setCell ⟨wz18.heap.size, 0, none⟩ (.slice a4 16 c4)) := ⟨_, rfl⟩
             rw [← hwy]
             have kp : ∀ {b' o' : Nat} {u : Value}, wz75.cell? ⟨b', o', none⟩ = some u → wz18.heap.size ≠ b' → wz85.cell? ⟨b', o', none⟩ = some u := fun h hn => by rw [hwy]; exact keepA_ (h) (Or.inl hn)
             replace s0 := kp s0 (by omega)
             replace s1 := kp s1 (by omega)
             replace s2 := kp s2 (by omega)
             replace s3 := kp s3 (by omega)
             replace s4 := kp s4 (by omega)
             replace s5 := kp s5 (by omega)
             replace s6 := kp s6 (by omega)
             replace s7 := kp s7 (by omega)
             replace s8 := kp s8 (by omega)
             replace s9 := kp s9 (by omega)
             replace s10 := kp s10 (by omega)
             replace s11 := kp s11 (by omega)
             replace s12 := kp s12 (by omega)
             replace s13 := kp s13 (by omega)
             clear kp
             replace ec0 : wz85.cell? ⟨wz53.heap.size, 0, none⟩ = some (.int .i64 0) := by rw [hwy]; exact keepA_ (ec0) (Or.inl (by omega))
             replace ef0 : wz85.frozen? ⟨wz53.heap.size, 0, none⟩ = false := by rw [hwy]; simpa using ef0
             replace ec1 : wz85.cell? ⟨wz53.heap.size, 1, none⟩ = some (.bool false) := by rw [hwy]; exact keepA_ (ec1) (Or.inl (by omega))
             replace ef1 : wz85.frozen? ⟨wz53.heap.size, 1, none⟩ = false := by rw [hwy]; simpa using ef1
             replace HMx : Hid (HasInts wz85 (.slice am 16 cm) (laidZ 2 s o)) := Lib.hid (by rw [hwy]; exact (hasInts_setS HMx.out xc0 (u := .slice a4 16 c4)))
             replace HX1 : Hid (HasInts wz85 (.slice a4 16 c4) (laidZ 2 s o)) := Lib.hid (by rw [hwy]; exact (hasInts_setS HX1.out xc0 (u := .slice a4 16 c4)))
             have xd0 : wz85.cell? ⟨wz18.heap.size, 0, none⟩ = some (.slice a4 16 c4) := by rw [hwy]; exact World.cell?_setCell_same _ _ _ xc0
             replace xt : Tag wz85 wz18.heap.size 55 := by rw [hwy]; exact (tag_set xt _ _)
             replace et : Tag wz85 wz53.heap.size 85 := by rw [hwy]; exact (tag_set et _ _)
             replace xf0 : wz85.frozen? ⟨wz18.heap.size, 0, none⟩ = false := by rw [hwy]; simpa using xf0
             replace HW := Lib.hid (Below.setCell (p := ⟨wz18.heap.size, 0, none⟩) HW.out (by have := HWS.out; dsimp only; omega) (.slice a4 16 c4))
             rw [← hwy] at HW
             have hsz : wz85.heap.size = wz75.heap.size := by rw [hwy]; simp
             replace xz : wz18.heap.size < wz85.heap.size := by omega
             replace ez : wz53.heap.size < wz85.heap.size := by omega
             replace LO : _ ≤ wz85.heap.size := Nat.le_trans LO (Nat.le_of_eq hsz.symm)
             clear hsz hwy xc0
             have xc0 := xd0
             clear xd0
             refine hK.out _ _ ?_ (fun _ => ?_)
             · (try dsimp only); exact ⟨s0, s1, s2, s3, s4, s5, s6, s7, s8, s9, s10, s11, s12, s13⟩
             clear hK K
             (try simp only [Act.put, List.setIfInBounds_toArray, List.set_cons_zero, List.set_cons_succ])
             refine wpAnyH_ready (rs := [13]) (by kernel_rfl) (by simp) ?_
             refine AllReadyH.cons (o := ?oi86) ?hi86 (fun K hK => ?rest86) AllReadyH.nil
             (case hi86 => (simp only [List.getElem?_toArray, List.getElem?_cons_succ, List.getElem?_cons_zero]; rfl))
             go_simp
             obtain ⟨wz87, hwy⟩ : ∃ W, W = ((wz85.setCell ⟨wz53.heap.size, 0, none⟩ (.int .i64 r4)).setCell ⟨wz53.heap.size, 1, none⟩ (.bool b4)) := ⟨_, rfl⟩
             rw [← hwy]
             have kp : ∀ {b' o' : Nat} {u : Value}, wz85.cell? ⟨b', o', none⟩ = some u → wz53.heap.size ≠ b' → wz87.cell? ⟨b', o', none⟩ = some u := fun h hn => by rw [hwy]; exact keepA_ (keepA_ (h) (Or.inl hn)) (Or.inl hn)
             replace s0 := kp s0 (by omega)
             replace s1 := kp s1 (by omega)
             replace s2 := kp s2 (by omega)
             replace s3 := kp s3 (by omega)
             replace s4 := kp s4 (by omega)
             replace s5 := kp s5 (by omega)
             replace s6 := kp s6 (by omega)
             replace s7 := kp s7 (by omega)
             replace s8 := kp s8 (by omega)
             replace s9 := kp s9 (by omega)
             replace s10 := kp s10 (by omega)
             replace s11 := kp s11 (by omega)
             replace s12 := kp s12 (by omega)
             replace s13 := kp s13 (by omega)
             clear kp
             replace xc0 : wz87.cell? ⟨wz18.heap.size, 0, none⟩ = some (.slice a4 16 c4) := by rw [hwy]; exact keepA_ (keepA_ (xc0) (Or.inl (by omega))) (Or.inl (by omega))
             replace xf0 : wz87.frozen? ⟨wz18.heap.size, 0, none⟩ = false := by rw [hwy]; simpa using xf0
             replace HMx : Hid (HasInts wz87 (.slice am 16 cm) (laidZ 2 s o)) := Lib.hid (by rw [hwy]; exact hasInts_res HMx.out (by simp [laidZ]) ec1)
             replace HX1 : Hid (HasInts wz87 (.slice a4 16 c4) (laidZ 2 s o)) := Lib.hid (by rw [hwy]; exact hasInts_res HX1.out (by simp [laidZ]) ec1)
             have ed0 : wz87.cell? ⟨wz53.heap.size, 0, none⟩ = some (.int .i64 r4) := by rw [hwy]; exact keepA_ (World.cell?_setCell_same _ _ _ ec0) (Or.inr (by simp))
             have ed1 : wz87.cell? ⟨wz53.heap.size, 1, none⟩ = some (.bool b4) := by rw [hwy]; exact World.cell?_setCell_same _ _ _ (keepA_ ec1 (Or.inr (by simp)))
             replace xt : Tag wz87 wz18.heap.size 55 := by rw [hwy]; exact (tag_set (tag_set xt _ _) _ _)
             replace et : Tag wz87 wz53.heap.size 85 := by rw [hwy]; exact (tag_set (tag_set et _ _) _ _)
             replace ef0 : wz87.frozen? ⟨wz53.heap.size, 0, none⟩ = false := by rw [hwy]; simpa using ef0
             replace ef1 : wz87.frozen? ⟨wz53.heap.size, 1, none⟩ = false := by rw [hwy]; simpa using ef1
             replace HW := Lib.hid (Below.setCell (p := ⟨wz53.heap.size, 1, none⟩) (Below.setCell (p := ⟨wz53.heap.size, 0, none⟩) HW.out (by have := HWS.out; dsimp only; omega) (.int .i64 r4)) (by have := HWS.out; dsimp only; omega) (.bool b4))
             rw [← hwy] at HW
             have hsz : wz87.heap.size = wz85.heap.size := by rw [hwy]; simp
             replace xz : wz18.heap.size < wz87.heap.size := by omega
             replace ez : wz53.heap.size < wz87.heap.size := by omega
             replace LO : _ ≤ wz87.heap.size := Nat.le_trans LO (Nat.le_of_eq hsz.symm)
             clear hsz hwy ec0 ec1
             have ec0 := ed0
             clear ed0
             have ec1 := ed1
             clear ed1
             refine hK.out _ _ ?_ (fun _ => ?_)
             · (try dsimp only); exact ⟨s0, s1, s2, s3, s4, s5, s6, s7, s8, s9, s10, s11, s12, s13⟩
             clear hK K
             (try simp only [Act.put, List.setIfInBounds_toArray, List.set_cons_zero, List.set_cons_succ])
             have hHeld := And.intro s0 (And.intro s1 (And.intro s2 (And.intro s3 (And.intro s4 (And.intro s5 (And.intro s6 (And.intro s7 (And.intro s8 (And.intro s9 (And.intro s10 (And.intro s11 (And.intro s12 (s13)))))))))))))
             refine wpAnyH_take (i := 14) (oi := ?oi88) (v := ?v88) ?hi88 (by kernel_rfl) (by kernel_rfl) (by kernel_rfl) ?hQ88 (Or.inl ⟨?hw88, ?hy88⟩) (by assumption) ?rest88; (case hi88 => (simp only [List.getElem?_toArray, List.getElem?_cons_succ, List.getElem?_cons_zero]; rfl)); (case hQ88 => exact fun _ _ _ h => h); (case hw88 => rfl); (case hy88 => ((intro w hSw); (try dsimp only at hSw); go_simp; (try with_reducible rfl)))
             (try simp only [Act.put, List.setIfInBounds_toArray, List.set_cons_zero, List.set_cons_succ])
             clear hHeld
             refine wpAnyH_done (by kernel_rfl) ?_ _
             go_wp2_with fail
             go_meet
             exact ⟨wz18.heap.size, a4, c4, rfl, xc0, HX1.out, HMx.out, HW.out⟩
           case rest23 =>
            go_simp
            obtain ⟨wz90, hwy⟩ : ∃ W, W = wz18.alloc (.cells #[.int .i64 0, .bool false] 85) := ⟨_, rfl⟩
            rw [← hwy]
            have hb : Below wz18.heap.size wz18 wz90 := by rw [hwy]; exact below_new1 _ _
            have ec0 : wz90.cell? ⟨wz18.heap.size, 0, none⟩ = some (.int .i64 0) := by rw [hwy, World.cell?_alloc_at _ _ _ _ rfl]; rfl
            have ef0 : wz90.frozen? ⟨wz18.heap.size, 0, none⟩ = false := by rw [hwy]; exact World.frozen?_alloc_at _ _ _ _ rfl
            have ec1 : wz90.cell? ⟨wz18.heap.size, 1, none⟩ = some (.bool false) := by rw [hwy, World.cell?_alloc_at _ _ _ _ rfl]; rfl
            have ef1 : wz90.frozen? ⟨wz18.heap.size, 1, none⟩ = false := by rw [hwy]; exact World.frozen?_alloc_at _ _ _ _ rfl
            have et : Tag wz90 wz18.heap.size 85 := by rw [hwy]; exact tag_new _ _ _
            have ez : wz18.heap.size < wz90.heap.size := by rw [hwy]; simp
            have el := LO
            replace HW := Lib.hid (below_step HW.out hb)
            replace s0 := cel_below hb s0
            replace s1 := cel_below hb s1
            replace s2 := cel_below hb s2
            replace s3 := cel_below hb s3
            replace s4 := cel_below hb s4
            replace s5 := cel_below hb s5
            replace s6 := cel_below hb s6
            replace s7 := cel_below hb s7
            replace s8 := cel_below hb s8
            replace s9 := cel_below hb s9
            replace s10 := cel_below hb s10
            replace s11 := cel_below hb s11
            replace s12 := cel_below hb s12
            replace s13 := cel_below hb s13
            replace HMx := Lib.hid (hasInts_keep HMx.out hb)
            replace HZx := Lib.hid (hasInts_keep HZx.out hb)
            replace LO := Nat.le_trans LO hb.size
            clear hb hwy
            refine hK.out _ _ ?_ (fun _ => ?_)
            · (try dsimp only); exact ⟨s0, s1, s2, s3, s4, s5, s6, s7, s8, s9, s10, s11, s12, s13⟩
            clear hK K
            (try simp only [Act.put, List.setIfInBounds_toArray, List.set_cons_zero, List.set_cons_succ])
            refine wpAnyH_ready (rs := [5, 10]) (by kernel_rfl) (by simp) ?_
            refine AllReadyH.cons (o := ?oi91) ?hi91 (fun K hK => ?rest91) (AllReadyH.cons (o := ?oi92) ?hi92 (fun K hK => ?rest92) AllReadyH.nil)
            (case hi91 => (simp only [List.getElem?_toArray, List.getElem?_cons_succ, List.getElem?_cons_zero]; rfl))
            (case hi92 => (simp only [List.getElem?_toArray, List.getElem?_cons_succ, List.getElem?_cons_zero]; rfl))
            case rest91 =>
             go_simp
             ((with_reducible refine (HDo.out _ _ _ HZx.out).mono ?_); rintro e wz93 ⟨a4, c4, r4, b4, rfl, hq, hb⟩)
             replace HW := Lib.hid (below_step HW.out hb)
             replace s0 := cel_below hb s0
             replace s1 := cel_below hb s1
             replace s2 := cel_below hb s2
             replace s3 := cel_below hb s3
             replace s4 := cel_below hb s4
             replace s5 := cel_below hb s5
             replace s6 := cel_below hb s6
             replace s7 := cel_below hb s7
             replace s8 := cel_below hb s8
             replace s9 := cel_below hb s9
             replace s10 := cel_below hb s10
             replace s11 := cel_below hb s11
             replace s12 := cel_below hb s12
             replace s13 := cel_below hb s13
             replace ec0 := cel_below hb ec0
             replace ef0 := fro_below hb ez ef0
             replace ec1 := cel_below hb ec1
             replace ef1 := fro_below hb ez ef1
             replace ez := lt_below hb ez
             replace et := tag_below et hb
             replace HMx := Lib.hid (hasInts_keep HMx.out hb)
             replace HZx := Lib.hid (hasInts_keep HZx.out hb)
             have HX1 := Lib.hid hq
             clear hq
             replace LO := Nat.le_trans LO hb.size
             clear hb
             refine hK.out _ _ ?_ (fun _ => ?_)
             · (try dsimp only); exact ⟨s0, s1, s2, s3, s4, s5, s6, s7, s8, s9, s10, s11, s12, s13⟩
             clear hK K
             (try simp only [Act.put, List.setIfInBounds_toArray, List.set_cons_zero, List.set_cons_succ])
             have hHeld := And.intro s0 (And.intro s1 (And.intro s2 (And.intro s3 (And.intro s4 (And.intro s5 (And.intro s6 (And.intro s7 (And.intro s8 (And.intro s9 (And.intro s10 (And.intro s11 (And.intro s12 (s13)))))))))))))
             refine wpAnyH_take (i := 6) (oi := ?oi94) (v := ?v94) ?hi94 (by kernel_rfl) (by kernel_rfl) (by kernel_rfl) ?hQ94 (Or.inl ⟨?hw94, ?hy94⟩) (by assumption) ?rest94; (case hi94 => (simp only [List.getElem?_toArray, List.getElem?_cons_succ, List.getElem?_cons_zero]; rfl)); (case hQ94 => exact fun _ _ _ h => h); (case hw94 => rfl); (case hy94 => ((intro w hSw); (try dsimp only at hSw); go_simp; (try with_reducible rfl)))
             (try simp only [Act.put, List.setIfInBounds_toArray, List.set_cons_zero, List.set_cons_succ])
             refine wpAnyH_take (i := 7) (oi := ?oi96) (v := ?v96) ?hi96 (by kernel_rfl) (by kernel_rfl) (by kernel_rfl) ?hQ96 (Or.inl ⟨?hw96, ?hy96⟩) (by assumption) ?rest96; (case hi96 => (simp only [List.getElem?_toArray, List.getElem?_cons_succ, List.getElem?_cons_zero]; rfl)); (case hQ96 => exact fun _ _ _ h => h); (case hw96 => rfl); (case hy96 => ((intro w hSw); (try dsimp only at hSw); go_simp; (try with_reducible rfl)))
             (try simp only [Act.put, List.setIfInBounds_toArray, List.set_cons_zero, List.set_cons_succ])
             refine wpAnyH_take (i := 8) (oi := ?oi98) (v := ?v98) ?hi98 (by kernel_rfl) (by kernel_rfl) (by kernel_rfl) ?hQ98 (Or.inl ⟨?hw98, ?hy98⟩) (by assumption) ?rest98; (case hi98 => (simp only [List.getElem?_toArray, List.getElem?_cons_succ, List.getElem?_cons_zero]; rfl)); (case hQ98 => exact fun _ _ _ h => h); (case hw98 => rfl); (case hy98 => ((intro w hSw); (try dsimp only at hSw); go_simp; (try with_reducible rfl)))
             (try simp only [Act.put, List.setIfInBounds_toArray, List.set_cons_zero, List.set_cons_succ])
             refine wpAnyH_take (i := 9) (oi := ?oi100) (v := ?v100) ?hi100 (by kernel_rfl) (by kernel_rfl) (by kernel_rfl) ?hQ100 (Or.inl ⟨?hw100, ?hy100⟩) (by assumption) ?rest100; (case hi100 => (simp only [List.getElem?_toArray, List.getElem?_cons_succ, List.getElem?_cons_zero]; rfl)); (case hQ100 => exact fun _ _ _ h => h); (case hw100 => rfl); (case hy100 => ((intro w hSw); (try dsimp only at hSw); go_simp; (try with_reducible rfl)))
             (try simp only [Act.put, List.setIfInBounds_toArray, List.set_cons_zero, List.set_cons_succ])
             clear hHeld
             refine wpAnyH_ready (rs := [10]) (by kernel_rfl) (by simp) ?_
             refine AllReadyH.cons (o := ?oi102) ?hi102 (fun K hK => ?rest102) AllReadyH.nil
             (case hi102 => (simp only [List.getElem?_toArray, List.getElem?_cons_succ, List.getElem?_cons_zero]; rfl))
             go_simp
             obtain ⟨wz103, hwy⟩ : ∃ W, W = wz93.alloc (.cells #[.slice none 0 0] 55) := ⟨_, rfl⟩
             rw [← hwy]
             have hb : Below wz93.heap.size wz93 wz103 := by rw [hwy]; exact below_new1 _ _
             have xc0 : wz103.cell? ⟨wz93.heap.size, 0, none⟩ = some (.slice none 0 0) := by rw [hwy, World.cell?_alloc_at _ _ _ _ rfl]; rfl
             have xf0 : wz103.frozen? ⟨wz93.heap.size, 0, none⟩ = false := by rw [hwy]; exact World.frozen?_alloc_at _ _ _ _ rfl
             have xt : Tag wz103 wz93.heap.size 55 := by rw [hwy]; exact tag_new _ _ _
             have xz : wz93.heap.size < wz103.heap.size := by rw [hwy]; simp
             have xl := LO
             replace HW := Lib.hid (below_step HW.out hb)
             replace s0 := cel_below hb s0
             replace s1 := cel_below hb s1
             replace s2 := cel_below hb s2
             replace s3 := cel_below hb s3
             replace s4 := cel_below hb s4
             replace s5 := cel_below hb s5
             replace s6 := cel_below hb s6
             replace s7 := cel_below hb s7
             replace s8 := cel_below hb s8
             replace s9 := cel_below hb s9
             replace s10 := cel_below hb s10
             replace s11 := cel_below hb s11
             replace s12 := cel_below hb s12
             replace s13 := cel_below hb s13
             replace ec0 := cel_below hb ec0
             replace ef0 := fro_below hb ez ef0
             replace ec1 := cel_below hb ec1
             replace ef1 := fro_below hb ez ef1
             replace et := tag_below et hb
             have exn : wz18.heap.size ≠ wz93.heap.size := by omega
             replace ez := lt_below hb ez
             replace HMx := Lib.hid (hasInts_keep HMx.out hb)
             replace HX1 := Lib.hid (hasInts_keep HX1.out hb)
             replace LO := Nat.le_trans LO hb.size
             clear hb hwy
             refine hK.out _ _ ?_ (fun _ => ?_)
             · (try dsimp only); exact ⟨s0, s1, s2, s3, s4, s5, s6, s7, s8, s9, s10, s11, s12, s13⟩
             clear hK K
             (try simp only [Act.put, List.setIfInBounds_toArray, List.set_cons_zero, List.set_cons_succ])
             refine wpAnyH_ready (rs := [12]) (by kernel_rfl) (by simp) ?_
             refine AllReadyH.cons (o := ?oi104) ?hi104 (fun K hK => ?rest104) AllReadyH.nil
             (case hi104 => (simp only [List.getElem?_toArray, List.getElem?_cons_succ, List.getElem?_cons_zero]; rfl))
             go_simp
             obtain ⟨wz105, hwy⟩ : ∃ W, W = (wz103.setCell ⟨wz93.heap.size, 0, none⟩ (.slice a4 16 c4)) := ⟨_, rfl⟩
             rw [← hwy]
             have kp : ∀ {b' o' : Nat} {u : Value}, wz103.cell? ⟨b', o', none⟩ = some u → wz93.heap.size ≠ b' → wz105.cell? ⟨b', o', none⟩ = some u := fun h hn => by rw [hwy]; exact keepA_ (h) (Or.inl hn)
             replace s0 := kp s0 (by omega)
             replace s1 := kp s1 (by omega)
             replace s2 := kp s2 (by omega)
             replace s3 := kp s3 (by omega)
             replace s4 := kp s4 (by omega)
             replace s5 := kp s5 (by omega)
             replace s6 := kp s6 (by omega)
             replace s7 := kp s7 (by omega)
             replace s8 := kp s8 (by omega)
             replace s9 := kp s9 (by omega)
             replace s10 := kp s10 (by omega)
             replace s11 := kp s11 (by omega)
             replace s12 := kp s12 (by omega)
             replace s13 := kp s13 (by omega)
             clear kp
             replace ec0 : wz105.cell? ⟨wz18.heap.size, 0, none⟩ = some (.int .i64 0) := by rw [hwy]; exact keepA_ (ec0) (Or.inl (by omega))
             replace ef0 : wz105.frozen? ⟨wz18.heap.size, 0, none⟩ = false := by rw [hwy]; simpa using ef0
             replace ec1 : wz105.cell? ⟨wz18.heap.size, 1, none⟩ = some (.bool false) := by rw [hwy]; exact keepA_ (ec1) (Or.inl (by omega))
             replace ef1 : wz105.frozen? ⟨wz18.heap.size, 1, none⟩ = false := by rw [hwy]; simpa using ef1
             replace HMx : Hid (HasInts wz105 (.slice am 16 cm) (laidZ 2 s o)) := Lib.hid (by rw [hwy]; exact (hasInts_setS HMx.out xc0 (u := .slice a4 16 c4)))
             replace HX1 : Hid (HasInts wz105 (.slice a4 16 c4) (laidZ 2 s o)) := Lib.hid (by rw [hwy]; exact (hasInts_setS HX1.out xc0 (u := .slice a4 16 c4)))
             have xd0 : wz105.cell? ⟨wz93.heap.size, 0, none⟩ = some (.slice a4 16 c4) := by rw [hwy]; exact World.cell?_setCell_same _ _ _ xc0
             replace et : Tag wz105 wz18.heap.size 85 := by rw [hwy]; exact (tag_set et _ _)
             replace xt : Tag wz105 wz93.heap.size 55 := by rw [hwy]; exact (tag_set xt _ _)
             replace xf0 : wz105.frozen? ⟨wz93.heap.size, 0, none⟩ = false := by rw [hwy]; simpa using xf0
             replace HW := Lib.hid (Below.setCell (p := ⟨wz93.heap.size, 0, none⟩) HW.out (by have := HWS.out; dsimp only; omega) (.slice a4 16 c4))
             rw [← hwy] at HW
             have hsz : wz105.heap.size = wz103.heap.size := by rw [hwy]; simp
             replace ez : wz18.heap.size < wz105.heap.size := by omega
             replace xz : wz93.heap.size < wz105.heap.size := by omega
             replace LO : _ ≤ wz105.heap.size := Nat.le_trans LO (Nat.le_of_eq hsz.symm)
             clear hsz hwy xc0
             have xc0 := xd0
             clear xd0
             refine hK.out _ _ ?_ (fun _ => ?_)
             · (try dsimp only); exact ⟨s0, s1, s2, s3, s4, s5, s6, s7, s8, s9, s10, s11, s12, s13⟩
             clear hK K
             (try simp only [Act.put, List.setIfInBounds_toArray, List.set_cons_zero, List.set_cons_succ])
             refine wpAnyH_ready (rs := [13]) (by kernel_rfl) (by simp) ?_
             refine AllReadyH.cons (o := ?oi106) ?hi106 (fun K hK => ?rest106) AllReadyH.nil
             (case hi106 => (simp only [List.getElem?_toArray, List.getElem?_cons_succ, List.getElem?_cons_zero]; rfl))
             go_simp
             obtain ⟨wz107, hwy⟩ : ∃ W, W = ((wz105.setCell ⟨wz18.heap.size, 0, none⟩ (.int .i64 r4)).setCell ⟨wz18.heap.size, 1, none⟩ (.bool b4)) := ⟨_, rfl⟩
             rw [← hwy]
             have kp : ∀ {b' o' : Nat} {u : Value}, wz105.cell? ⟨b', o', none⟩ = some u → wz18.heap.size ≠ b' → wz107.cell? ⟨b', o', none⟩ = some u := fun h hn => by rw [hwy]; exact keepA_ (keepA_ (h) (Or.inl hn)) (Or.inl hn)
             replace s0 := kp s0 (by omega)
             replace s1 := kp s1 (by omega)
             replace s2 := kp s2 (by omega)
             replace s3 := kp s3 (by omega)
             replace s4 := kp s4 (by omega)
             replace s5 := kp s5 (by omega)
             replace s6 := kp s6 (by omega)
             replace s7 := kp s7 (by omega)
             replace s8 := kp s8 (by omega)
             replace s9 := kp s9 (by omega)
             replace s10 := kp s10 (by omega)
             replace s11 := kp s11 (by omega)
             replace s12 := kp s12 (by omega)
             replace s13 := kp s13 (by omega)
             clear kp
             replace xc0 : wz107.cell? ⟨wz93.heap.size, 0, none⟩ = some (.slice a4 16 c4) := by rw [hwy]; exact keepA_ (keepA_ (xc0) (Or.inl (by omega))) (Or.inl (by omega))
             replace xf0 : wz107.frozen? ⟨wz93.heap.size, 0, none⟩ = false := by rw [hwy]; simpa using xf0
             replace HMx : Hid (HasInts wz107 (.slice am 16 cm) (laidZ 2 s o)) := Lib.hid (by rw [hwy]; exact hasInts_res HMx.out (by simp [laidZ]) ec1)
             replace HX1 : Hid (HasInts wz107 (.slice a4 16 c4) (laidZ 2 s o)) := Lib.hid (by rw [hwy]; exact hasInts_res HX1.out (by simp [laidZ]) ec1)
             have ed0 : wz107.cell? ⟨wz18.heap.size, 0, none⟩ = some (.int .i64 r4) := by rw [hwy]; exact keepA_ (World.cell?_setCell_same _ _ _ ec0) (Or.inr (by simp))
             have ed1 : wz107.cell? ⟨wz18.heap.size, 1, none⟩ = some (.bool b4) := by rw [hwy]; exact World.cell?_setCell_same _ _ _ (keepA_ ec1 (Or.inr (by simp)))
             replace et : Tag wz107 wz18.heap.size 85 := by rw [hwy]; exact (tag_set (tag_set et _ _) _ _)
             replace xt : Tag wz107 wz93.heap.size 55 := by rw [hwy]; exact (tag_set (tag_set xt _ _) _ _)
             replace ef0 : wz107.frozen? ⟨wz18.heap.size, 0, none⟩ = false := by rw [hwy]; simpa using ef0
             replace ef1 : wz107.frozen? ⟨wz18.heap.size, 1, none⟩ = false := by rw [hwy]; simpa using ef1
             replace HW := Lib.hid (Below.setCell (p := ⟨wz18.heap.size, 1, none⟩) (Below.setCell (p := ⟨wz18.heap.size, 0, none⟩) HW.out (by have := HWS.out; dsimp only; omega) (.int .i64 r4)) (by have := HWS.out; dsimp only; omega) (.bool b4))
             rw [← hwy] at HW
             have hsz : wz107.heap.size = wz105.heap.size := by rw [hwy]; simp
             replace ez : wz18.heap.size < wz107.heap.size := by omega
             replace xz : wz93.heap.size < wz107.heap.size := by omega
             replace LO : _ ≤ wz107.heap.size := Nat.le_trans LO (Nat.le_of_eq hsz.symm)
             clear hsz hwy ec0 ec1
             have ec0 := ed0
             clear ed0
             have ec1 := ed1
             clear ed1
             refine hK.out _ _ ?_ (fun _ => ?_)
             · (try dsimp only); exact ⟨s0, s1, s2, s3, s4, s5, s6, s7, s8, s9, s10, s11, s12, s13⟩
             clear hK K
             (try simp only [Act.put, List.setIfInBounds_toArray, List.set_cons_zero, List.set_cons_succ])
             have hHeld := And.intro s0 (And.intro s1 (And.intro s2 (And.intro s3 (And.intro s4 (And.intro s5 (And.intro s6 (And.intro s7 (And.intro s8 (And.intro s9 (And.intro s10 (And.intro s11 (And.intro s12 (s13)))))))))))))
             refine wpAnyH_take (i := 14) (oi := ?oi108) (v := ?v108) ?hi108 (by kernel_rfl) (by kernel_rfl) (by kernel_rfl) ?hQ108 (Or.inl ⟨?hw108, ?hy108⟩) (by assumption) ?rest108; (case hi108 => (simp only [List.getElem?_toArray, List.getElem?_cons_succ, List.getElem?_cons_zero]; rfl)); (case hQ108 => exact fun _ _ _ h => h); (case hw108 => rfl); (case hy108 => ((intro w hSw); (try dsimp only at hSw); go_simp; (try with_reducible rfl)))
             (try simp only [Act.put, List.setIfInBounds_toArray, List.set_cons_zero, List.set_cons_succ])
             clear hHeld
             refine wpAnyH_done (by kernel_rfl) ?_ _
             go_wp2_with fail
             go_meet
             exact ⟨wz93.heap.size, a4, c4, rfl, xc0, HX1.out, HMx.out, HW.out⟩
            case rest92 =>
             go_simp
             obtain ⟨wz110, hwy⟩ : ∃ W, W = wz90.alloc (.cells #[.slice none 0 0] 55) := ⟨_, rfl⟩
             rw [← hwy]
             have hb : Below wz90.heap.size wz90 wz110 := by rw [hwy]; exact below_new1 _ _
             have xc0 : wz110.cell? ⟨wz90.heap.size, 0, none⟩ = some (.slice none 0 0) := by rw [hwy, World.cell?_alloc_at _ _ _ _ rfl]; rfl
             have xf0 : wz110.frozen? ⟨wz90.heap.size, 0, none⟩ = false := by rw [hwy]; exact World.frozen?_alloc_at _ _ _ _ rfl
             have xt : Tag wz110 wz90.heap.size 55 := by rw [hwy]; exact tag_new _ _ _
             have xz : wz90.heap.size < wz110.heap.size := by rw [hwy]; simp
             have xl := LO
             replace HW := Lib.hid (below_step HW.out hb)
             replace s0 := cel_below hb s0
             replace s1 := cel_below hb s1
             replace s2 := cel_below hb s2
             replace s3 := cel_below hb s3
             replace s4 := cel_below hb s4
             replace s5 := cel_below hb s5
             replace s6 := cel_below hb s6
             replace s7 := cel_below hb s7
             replace s8 := cel_below hb s8
             replace s9 := cel_below hb s9
             replace s10 := cel_below hb s10
             replace s11 := cel_below hb s11
             replace s12 := cel_below hb s12
             replace s13 := cel_below hb s13
             replace ec0 := cel_below hb ec0
             replace ef0 := fro_below hb ez ef0
             replace ec1 := cel_below hb ec1
             replace ef1 := fro_below hb ez ef1
             replace et := tag_below et hb
             have exn : wz18.heap.size ≠ wz90.heap.size := by omega
             replace ez := lt_below hb ez
             replace HMx := Lib.hid (hasInts_keep HMx.out hb)
             replace HZx := Lib.hid (hasInts_keep HZx.out hb)
             replace LO := Nat.le_trans LO hb.size
             clear hb hwy
             refine hK.out _ _ ?_ (fun _ => ?_)
             · (try dsimp only); exact ⟨s0, s1, s2, s3, s4, s5, s6, s7, s8, s9, s10, s11, s12, s13⟩
             clear hK K
             (try simp only [Act.put, List.setIfInBounds_toArray, List.set_cons_zero, List.set_cons_succ])
             refine wpAnyH_ready (rs := [5]) (by kernel_rfl) (by simp) ?_
             refine AllReadyH.cons (o := ?oi111) ?hi111 (fun K hK => ?rest111) AllReadyH.nil
             (case hi111 => (simp only [List.getElem?_toArray, List.getElem?_cons_succ, List.getElem?_cons_zero]; rfl))
             go_simp
             ((with_reducible refine (HDo.out _ _ _ HZx.out).mono ?_); rintro e wz112 ⟨a4, c4, r4, b4, rfl, hq, hb⟩)
             replace HW := Lib.hid (below_step HW.out hb)
             replace s0 := cel_below hb s0
             replace s1 := cel_below hb s1
             replace s2 := cel_below hb s2
             replace s3 := cel_below hb s3
             replace s4 := cel_below hb s4
             replace s5 := cel_below hb s5
             replace s6 := cel_below hb s6
             replace s7 := cel_below hb s7
             replace s8 := cel_below hb s8
             replace s9 := cel_below hb s9
             replace s10 := cel_below hb s10
             replace s11 := cel_below hb s11
             replace s12 := cel_below hb s12
             replace s13 := cel_below hb s13
             replace ec0 := cel_below hb ec0
             replace ef0 := fro_below hb ez ef0
             replace ec1 := cel_below hb ec1
             replace ef1 := fro_below hb ez ef1
             replace ez := lt_below hb ez
             replace et := tag_below et hb
             replace xc0 := cel_below hb xc0
             replace xf0 := fro_below hb xz xf0
             replace xz := lt_below hb xz
             replace xt := tag_below xt hb
             replace HMx := Lib.hid (hasInts_keep HMx.out hb)
             replace HZx := Lib.hid (hasInts_keep HZx.out hb)
             have HX1 := Lib.hid hq
             clear hq
             replace LO := Nat.le_trans LO hb.size
             clear hb
             refine hK.out _ _ ?_ (fun _ => ?_)
             · (try dsimp only); exact ⟨s0, s1, s2, s3, s4, s5, s6, s7, s8, s9, s10, s11, s12, s13⟩
             clear hK K
             (try simp only [Act.put, List.setIfInBounds_toArray, List.set_cons_zero, List.set_cons_succ])
             have hHeld := And.intro s0 (And.intro s1 (And.intro s2 (And.intro s3 (And.intro s4 (And.intro s5 (And.intro s6 (And.intro s7 (And.intro s8 (And.intro s9 (And.intro s10 (And.intro s11 (And.intro s12 (s13)))))))))))))
             refine wpAnyH_take (i := 6) (oi := ?oi113) (v := ?v113) ?hi113 (by kernel_rfl) (by kernel_rfl) (by kernel_rfl) ?hQ113 (Or.inl ⟨?hw113, ?hy113⟩) (by assumption) ?rest113; (case hi113 => (simp only [List.getElem?_toArray, List.getElem?_cons_succ, List.getElem?_cons_zero]; rfl)); (case hQ113 => exact fun _ _ _ h => h); (case hw113 => rfl); (case hy113 => ((intro w hSw); (try dsimp only at hSw); go_simp; (try with_reducible rfl)))
             (try simp only [Act.put, List.setIfInBounds_toArray, List.set_cons_zero, List.set_cons_succ])
             refine wpAnyH_take (i := 7) (oi := ?oi115) (v := ?v115) ?hi115 (by kernel_rfl) (by kernel_rfl) (by kernel_rfl) ?hQ115 (Or.inl ⟨?hw115, ?hy115⟩) (by assumption) ?rest115; (case hi115 => (simp only [List.getElem?_toArray, List.getElem?_cons_succ, List.getElem?_cons_zero]; rfl)); (case hQ115 => exact fun _ _ _ h => h); (case hw115 => rfl); (case hy115 => ((intro w hSw); (try dsimp only at hSw); go_simp; (try with_reducible rfl)))
             (try simp only [Act.put, List.setIfInBounds_toArray, List.set_cons_zero, List.set_cons_succ])
             refine wpAnyH_take (i := 8) (oi := ?oi117) (v := ?v117) ?hi117 (by kernel_rfl) (by kernel_rfl) (by kernel_rfl) ?hQ117 (Or.inl ⟨?hw117, ?hy117⟩) (by assumption) ?rest117; (case hi117 => (simp only [List.getElem?_toArray, List.getElem?_cons_succ, List.getElem?_cons_zero]; rfl)); (case hQ117 => exact fun _ _ _ h => h); (case hw117 => rfl); (case hy117 => ((intro w hSw); (try dsimp only at hSw); go_simp; (try with_reducible rfl)))
             (try simp only [Act.put, List.setIfInBounds_toArray, List.set_cons_zero, List.set_cons_succ])
             refine wpAnyH_take (i := 9) (oi := ?oi119) (v := ?v119) ?hi119 (by kernel_rfl) (by kernel_rfl) (by kernel_rfl) ?hQ119 (Or.inl ⟨?hw119, ?hy119⟩) (by assumption) ?rest119; (case hi119 => (simp only [List.getElem?_toArray, List.getElem?_cons_succ, List.getElem?_cons_zero]; rfl)); (case hQ119 => exact fun _ _ _ h => h); (case hw119 => rfl); (case hy119 => ((intro w hSw); (try dsimp only at hSw); go_simp; (try with_reducible rfl)))
             (try simp only [Act.put, List.setIfInBounds_toArray, List.set_cons_zero, List.set_cons_succ])
             clear hHeld
             refine wpAnyH_ready (rs := [12]) (by kernel_rfl) (by simp) ?_
             refine AllReadyH.cons (o := ?oi121) ?hi121 (fun K hK => ?rest121) AllReadyH.nil
             (case hi121 => (simp only [List.getElem?_toArray, List.getElem?_cons_succ, List.getElem?_cons_zero]; rfl))
             go_simp
             obtain ⟨wz122, hwy⟩ : ∃ W, W = (wz112.setCell ⟨wz90.heap.size, 0, none⟩ (.slice a4 16 c4)) := ⟨_, rfl⟩
             rw [← hwy]
             have kp : ∀ {b' o' : Nat} {u : Value}, wz112.cell? ⟨b', o', none⟩ = some u → wz90.heap.size ≠ b' → wz122.cell? ⟨b', o', none⟩ = some u := fun h hn => by rw [hwy]; exact keepA_ (h) (Or.inl hn)
             replace s0 := kp s0 (by omega)
             replace s1 := kp s1 (by omega)
             replace s2 := kp s2 (by omega)
             replace s3 := kp s3 (by omega)
             replace s4 := kp s4 (by omega)
             replace s5 := kp s5 (by omega)
             replace s6 := kp s6 (by omega)
             replace s7 := kp s7 (by omega)
             replace s8 := kp s8 (by omega)
             replace s9 := kp s9 (by omega)
             replace s10 := kp s10 (by omega)
             replace s11 := kp s11 (by omega)
             replace s12 := kp s12 (by omega)
             replace s13 := kp s13 (by omega)
             clear kp
             replace ec0 : wz122.cell? ⟨wz18.heap.size, 0, none⟩ = some (.int .i64 0) := by rw [hwy]; exact keepA_ (ec0) (Or.inl (by omega))
             replace ef0 : wz122.frozen? ⟨wz18.heap.size, 0, none⟩ = false := by rw [hwy]; simpa using ef0
             replace ec1 : wz122.cell? ⟨wz18.heap.size, 1, none⟩ = some (.bool false) := by rw [hwy]; exact keepA_ (ec1) (Or.inl (by omega))
             replace ef1 : wz122.frozen? ⟨wz18.heap.size, 1, none⟩ = false := by rw [hwy]; simpa using ef1
             replace HMx : Hid (HasInts wz122 (.slice am 16 cm) (laidZ 2 s o)) := Lib.hid (by rw [hwy]; exact (hasInts_setS HMx.out xc0 (u := .slice a4 16 c4)))
             replace HX1 : Hid (HasInts wz122 (.slice a4 16 c4) (laidZ 2 s o)) := Lib.hid (by rw [hwy]; exact (hasInts_setS HX1.out xc0 (u := .slice a4 16 c4)))
             have xd0 : wz122.cell? ⟨wz90.heap.size, 0, none⟩ = some (.slice a4 16 c4) := by rw [hwy]; exact World.cell?_setCell_same _ _ _ xc0
             replace et : Tag wz122 wz18.heap.size 85 := by rw [hwy]; exact (tag_set et _ _)
             replace xt : Tag wz122 wz90.heap.size 55 := by rw [hwy]; exact (tag_set xt _ _)
             replace xf0 : wz122.frozen? ⟨wz90.heap.size, 0, none⟩ = false := by rw [hwy]; simpa using xf0
             replace HW := Lib.hid (Below.setCell (p := ⟨wz90.heap.size, 0, none⟩) HW.out (by have := HWS.out; dsimp only; omega) (.slice a4 16 c4))
             rw [← hwy] at HW
             have hsz : wz122.heap.size = wz112.heap.size := by rw [hwy]; simp
             replace ez : wz18.heap.size < wz122.heap.size := by omega
             replace xz : wz90.heap.size < wz122.heap.size := by omega
             replace LO : _ ≤ wz122.heap.size := Nat.le_trans LO (Nat.le_of_eq hsz.symm)
             clear hsz hwy xc0
             have xc0 := xd0
             clear xd0
             refine hK.out _ _ ?_ (fun _ => ?_)
             · (try dsimp only); exact ⟨s0, s1, s2, s3, s4, s5, s6, s7, s8, s9, s10, s11, s12, s13⟩
             clear hK K
             (try simp only [Act.put, List.setIfInBounds_toArray, List.set_cons_zero, List.set_cons_succ])
             refine wpAnyH_ready (rs := [13]) (by kernel_rfl) (by simp) ?_
             refine AllReadyH.cons (o := ?oi123) ?hi123 (fun K hK => ?rest123) AllReadyH.nil
             (case hi123 => (simp only [List.getElem?_toArray, List.getElem?_cons_succ, List.getElem?_cons_zero]; rfl))
             go_simp
             obtain ⟨wz124, hwy⟩ : ∃ W, W = ((wz122.setCell ⟨wz18.heap.size, 0, none⟩ (.int .i64 r4)).setCell ⟨wz18.heap.size, 1, none⟩ (.bool b4)) := ⟨_, rfl⟩
             rw [← hwy]
             have kp : ∀ {b' o' : Nat} {u : Value}, wz122.cell? ⟨b', o', none⟩ = some u → wz18.heap.size ≠ b' → wz124.cell? ⟨b', o', none⟩ = some u := fun h hn => by rw [hwy]; exact keepA_ (keepA_ (h) (Or.inl hn)) (Or.inl hn)
             replace s0 := kp s0 (by omega)
             replace s1 := kp s1 (by omega)
             replace s2 := kp s2 (by omega)
             replace s3 := kp s3 (by omega)
             replace s4 := kp s4 (by omega)
             replace s5 := kp s5 (by omega)
             replace s6 := kp s6 (by omega)
             replace s7 := kp s7 (by omega)
             replace s8 := kp s8 (by omega)
             replace s9 := kp s9 (by omega)
             replace s10 := kp s10 (by omega)
             replace s11 := kp s11 (by omega)
             replace s12 := kp s12 (by omega)
             replace s13 := kp s13 (by omega)
             clear kp
             replace xc0 : wz124.cell? ⟨wz90.heap.size, 0, none⟩ = some (.slice a4 16 c4) := by rw [hwy]; exact keepA_ (keepA_ (xc0) (Or.inl (by omega))) (Or.inl (by omega))
             replace xf0 : wz124.frozen? ⟨wz90.heap.size, 0, none⟩ = false := by rw [hwy]; simpa using xf0
             replace HMx : Hid (HasInts wz124 (.slice am 16 cm) (laidZ 2 s o)) := Lib.hid (by rw [hwy]; exact hasInts_res HMx.out (by simp [laidZ]) ec1)
             replace HX1 : Hid (HasInts wz124 (.slice a4 16 c4) (laidZ 2 s o)) := Lib.hid (by rw [hwy]; exact hasInts_res HX1.out (by simp [laidZ]) ec1)
             have ed0 : wz124.cell? ⟨wz18.heap.size, 0, none⟩ = some (.int .i64 r4) := by rw [hwy]; exact keepA_ (World.cell?_setCell_same _ _ _ ec0) (Or.inr (by simp))
             have ed1 : wz124.cell? ⟨wz18.heap.size, 1, none⟩ = some (.bool b4) := by rw [hwy]; exact World.cell?_setCell_same _ _ _ (keepA_ ec1 (Or.inr (by simp)))
             replace et : Tag wz124 wz18.heap.size 85 := by rw [hwy]; exact (tag_set (tag_set et _ _) _ _)
             replace xt : Tag wz124 wz90.heap.size 55 := by rw [hwy]; exact (tag_set (tag_set xt _ _) _ _)
             replace ef0 : wz124.frozen? ⟨wz18.heap.size, 0, none⟩ = false := by rw [hwy]; simpa using ef0
             replace ef1 : wz124.frozen? ⟨wz18.heap.size, 1, none⟩ = false := by rw [hwy]; simpa using ef1
             replace HW := Lib.hid (Below.setCell (p := ⟨wz18.heap.size, 1, none⟩) (Below.setCell (p := ⟨wz18.heap.size, 0, none⟩) HW.out (by have := HWS.out; dsimp only; omega) (.int .i64 r4)) (by have := HWS.out; dsimp only; omega) (.bool b4))
             rw [← hwy] at HW
             have hsz : wz124.heap.size = wz122.heap.size := by rw [hwy]; simp
             replace ez : wz18.heap.size < wz124.heap.size := by omega
             replace xz : wz90.heap.size < wz124.heap.size := by omega
             replace LO : _ ≤ wz124.heap.size := Nat.le_trans LO (Nat.le_of_eq hsz.symm)
             clear hsz hwy ec0 ec1
             have ec0 := ed0
             clear ed0
             have ec1 := ed1
             clear ed1
             refine hK.out _ _ ?_ (fun _ => ?_)
             · (try dsimp only); exact ⟨s0, s1, s2, s3, s4, s5, s6, s7, s8, s9, s10, s11, s12, s13⟩
             clear hK K
             (try simp only [Act.put, List.setIfInBounds_toArray, List.set_cons_zero, List.set_cons_succ])
             have hHeld := And.intro s0 (And.intro s1 (And.intro s2 (And.intro s3 (And.intro s4 (And.intro s5 (And.intro s6 (And.intro s7 (And.intro s8 (And.intro s9 (And.intro s10 (And.intro s11 (And.intro s12 (s13)))))))))))))
             refine wpAnyH_take (i := 14) (oi := ?oi125) (v := ?v125) ?hi125 (by kernel_rfl) (by kernel_rfl) (by kernel_rfl) ?hQ125 (Or.inl ⟨?hw125, ?hy125⟩) (by assumption) ?rest125; (case hi125 => (simp only [List.getElem?_toArray, List.getElem?_cons_succ, List.getElem?_cons_zero]; rfl)); (case hQ125 => exact fun _ _ _ h => h); (case hw125 => rfl); (case hy125 => ((intro w hSw); (try dsimp only at hSw); go_simp; (try with_reducible rfl)))
             (try simp only [Act.put, List.setIfInBounds_toArray, List.set_cons_zero, List.set_cons_succ])
             clear hHeld
             refine wpAnyH_done (by kernel_rfl) ?_ _
             go_wp2_with fail
             go_meet
             exact ⟨wz90.heap.size, a4, c4, rfl, xc0, HX1.out, HMx.out, HW.out⟩
          case rest16 =>
           go_simp
           obtain ⟨wz127, hwy⟩ : ∃ W, W = wy0.alloc (.cells #[.slice none 0 0] 55) := ⟨_, rfl⟩
           rw [← hwy]
           have hb : Below wy0.heap.size wy0 wz127 := by rw [hwy]; exact below_new1 _ _
           have xc0 : wz127.cell? ⟨wy0.heap.size, 0, none⟩ = some (.slice none 0 0) := by rw [hwy, World.cell?_alloc_at _ _ _ _ rfl]; rfl
           have xf0 : wz127.frozen? ⟨wy0.heap.size, 0, none⟩ = false := by rw [hwy]; exact World.frozen?_alloc_at _ _ _ _ rfl
           have xt : Tag wz127 wy0.heap.size 55 := by rw [hwy]; exact tag_new _ _ _
           have xz : wy0.heap.size < wz127.heap.size := by rw [hwy]; simp
           have xl := LO
           replace HW := Lib.hid (below_step HW.out hb)
           replace s0 := cel_below hb s0
           replace s1 := cel_below hb s1
           replace s2 := cel_below hb s2
           replace s3 := cel_below hb s3
           replace s4 := cel_below hb s4
           replace s5 := cel_below hb s5
           replace s6 := cel_below hb s6
           replace s7 := cel_below hb s7
           replace s8 := cel_below hb s8
           replace s9 := cel_below hb s9
           replace s10 := cel_below hb s10
           replace s11 := cel_below hb s11
           replace s12 := cel_below hb s12
           replace s13 := cel_below hb s13
           replace HMx := Lib.hid (hasInts_keep HMx.out hb)
           replace HZx := Lib.hid (hasInts_keep HZx.out hb)
           replace LO := Nat.le_trans LO hb.size
           clear hb hwy
           refine hK.out _ _ ?_ (fun _ => ?_)
           · (try dsimp only); exact ⟨s0, s1, s2, s3, s4, s5, s6, s7, s8, s9, s10, s11, s12, s13⟩
           clear hK K
           (try simp only [Act.put, List.setIfInBounds_toArray, List.set_cons_zero, List.set_cons_succ])
           refine wpAnyH_ready (rs := [2, 11]) (by kernel_rfl) (by simp) ?_
           refine AllReadyH.cons (o := ?oi128) ?hi128 (fun K hK => ?rest128) (AllReadyH.cons (o := ?oi129) ?hi129 (fun K hK => ?rest129) AllReadyH.nil)
           (case hi128 => (simp only [List.getElem?_toArray, List.getElem?_cons_succ, List.getElem?_cons_zero]; rfl))
           (case hi129 => (simp only [List.getElem?_toArray, List.getElem?_cons_succ, List.getElem?_cons_zero]; rfl))
           case rest128 =>
            go_simp
            ((with_reducible refine (HL2.out _).mono ?_); rintro e wz130 ⟨rfl, hb⟩)
            replace HW := Lib.hid (below_step HW.out hb)
            replace s0 := cel_below hb s0
            replace s1 := cel_below hb s1
            replace s2 := cel_below hb s2
            replace s3 := cel_below hb s3
            replace s4 := cel_below hb s4
            replace s5 := cel_below hb s5
            replace s6 := cel_below hb s6
            replace s7 := cel_below hb s7
            replace s8 := cel_below hb s8
            replace s9 := cel_below hb s9
            replace s10 := cel_below hb s10
            replace s11 := cel_below hb s11
            replace s12 := cel_below hb s12
            replace s13 := cel_below hb s13
            replace xc0 := cel_below hb xc0
            replace xf0 := fro_below hb xz xf0
            replace xz := lt_below hb xz
            replace xt := tag_below xt hb
            replace HMx := Lib.hid (hasInts_keep HMx.out hb)
            replace HZx := Lib.hid (hasInts_keep HZx.out hb)
            replace LO := Nat.le_trans LO hb.size
            clear hb
            refine hK.out _ _ ?_ (fun _ => ?_)
            · (try dsimp only); exact ⟨s0, s1, s2, s3, s4, s5, s6, s7, s8, s9, s10, s11, s12, s13⟩
            clear hK K
            (try simp only [Act.put, List.setIfInBounds_toArray, List.set_cons_zero, List.set_cons_succ])
            have hHeld := And.intro s0 (And.intro s1 (And.intro s2 (And.intro s3 (And.intro s4 (And.intro s5 (And.intro s6 (And.intro s7 (And.intro s8 (And.intro s9 (And.intro s10 (And.intro s11 (And.intro s12 (s13)))))))))))))
            refine wpAnyH_take (i := 4) (oi := ?oi131) (v := ?v131) ?hi131 (by kernel_rfl) (by kernel_rfl) (by kernel_rfl) ?hQ131 (Or.inl ⟨?hw131, ?hy131⟩) (by assumption) ?rest131; (case hi131 => (simp only [List.getElem?_toArray, List.getElem?_cons_succ, List.getElem?_cons_zero]; rfl)); (case hQ131 => exact fun _ _ _ h => h); (case hw131 => rfl); (case hy131 => ((intro w hSw); (try dsimp only at hSw); go_simp; (try with_reducible rfl)))
            (try simp only [Act.put, List.setIfInBounds_toArray, List.set_cons_zero, List.set_cons_succ])
            clear hHeld
            refine wpAnyH_ready (rs := [5, 11]) (by kernel_rfl) (by simp) ?_
            refine AllReadyH.cons (o := ?oi133) ?hi133 (fun K hK => ?rest133) (AllReadyH.cons (o := ?oi134) ?hi134 (fun K hK => ?rest134) AllReadyH.nil)
            (case hi133 => (simp only [List.getElem?_toArray, List.getElem?_cons_succ, List.getElem?_cons_zero]; rfl))
            (case hi134 => (simp only [List.getElem?_toArray, List.getElem?_cons_succ, List.getElem?_cons_zero]; rfl))
            case rest133 =>
             go_simp
             ((with_reducible refine (HDo.out _ _ _ HZx.out).mono ?_); rintro e wz135 ⟨a4, c4, r4, b4, rfl, hq, hb⟩)
             replace HW := Lib.hid (below_step HW.out hb)
             replace s0 := cel_below hb s0
             replace s1 := cel_below hb s1
             replace s2 := cel_below hb s2
             replace s3 := cel_below hb s3
             replace s4 := cel_below hb s4
             replace s5 := cel_below hb s5
             replace s6 := cel_below hb s6
             replace s7 := cel_below hb s7
             replace s8 := cel_below hb s8
             replace s9 := cel_below hb s9
             replace s10 := cel_below hb s10
             replace s11 := cel_below hb s11
             replace s12 := cel_below hb s12
             replace s13 := cel_below hb s13
             replace xc0 := cel_below hb xc0
             replace xf0 := fro_below hb xz xf0
             replace xz := lt_below hb xz
             replace xt := tag_below xt hb
             replace HMx := Lib.hid (hasInts_keep HMx.out hb)
             replace HZx := Lib.hid (hasInts_keep HZx.out hb)
             have HX1 := Lib.hid hq
             clear hq
             replace LO := Nat.le_trans LO hb.size
             clear hb
             refine hK.out _ _ ?_ (fun _ => ?_)
             · (try dsimp only); exact ⟨s0, s1, s2, s3, s4, s5, s6, s7, s8, s9, s10, s11, s12, s13⟩
             clear hK K
             (try simp only [Act.put, List.setIfInBounds_toArray, List.set_cons_zero, List.set_cons_succ])
             have hHeld := And.intro s0 (And.intro s1 (And.intro s2 (And.intro s3 (And.intro s4 (And.intro s5 (And.intro s6 (And.intro s7 (And.intro s8 (And.intro s9 (And.intro s10 (And.intro s11 (And.intro s12 (s13)))))))))))))
             refine wpAnyH_take (i := 6) (oi := ?oi136) (v := ?v136) ?hi136 (by kernel_rfl) (by kernel_rfl) (by kernel_rfl) ?hQ136 (Or.inl ⟨?hw136, ?hy136⟩) (by assumption) ?rest136; (case hi136 => (simp only [List.getElem?_toArray, List.getElem?_cons_succ, List.getElem?_cons_zero]; rfl)); (case hQ136 => exact fun _ _ _ h => h); (case hw136 => rfl); (case hy136 => ((intro w hSw); (try dsimp only at hSw); go_simp; (try with_reducible rfl)))
             (try simp only [Act.put, List.setIfInBounds_toArray, List.set_cons_zero, List.set_cons_succ])
             refine wpAnyH_take (i := 7) (oi := ?oi138) (v := ?v138) ?hi138 (by kernel_rfl) (by kernel_rfl) (by kernel_rfl) ?hQ138 (Or.inl ⟨?hw138, ?hy138⟩) (by assumption) ?rest138; (case hi138 => (simp only [List.getElem?_toArray, List.getElem?_cons_succ, List.getElem?_cons_zero]; rfl)); (case hQ138 => exact fun _ _ _ h => h); (case hw138 => rfl); (case hy138 => ((intro w hSw); (try dsimp only at hSw); go_simp; (try with_reducible rfl)))
             (try simp only [Act.put, List.setIfInBounds_toArray, List.set_cons_zero, List.set_cons_succ])
             refine wpAnyH_take (i := 8) (oi := ?oi140) (v := ?v140) ?hi140 (by kernel_rfl) (by kernel_rfl) (by kernel_rfl) ?hQ140 (Or.inl ⟨?hw140, ?hy140⟩) (by assumption) ?rest140; (case hi140 => (simp only [List.getElem?_toArray, List.getElem?_cons_succ, List.getElem?_cons_zero]; rfl)); (case hQ140 => exact fun _ _ _ h => h); (case hw140 => rfl); (case hy140 => ((intro w hSw); (try dsimp only at hSw); go_simp; (try with_reducible rfl)))
             (try simp only [Act.put, List.setIfInBounds_toArray, List.set_cons_zero, List.set_cons_succ])
             refine wpAnyH_take (i := 9) (oi := ?oi142) (v := ?v142) ?hi142 (by kernel_rfl) (by kernel_rfl) (by kernel_rfl) ?hQ142 (Or.inl ⟨?hw142, ?hy142⟩) (by assumption) ?rest142; (case hi142 => (simp only [List.getElem?_toArray, List.getElem?_cons_succ, List.getElem?_cons_zero]; rfl)); (case hQ142 => exact fun _ _ _ h => h); (case hw142 => rfl); (case hy142 => ((intro w hSw); (try dsimp only at hSw); go_simp; (try with_reducible rfl)))
             (try simp only [Act.put, List.setIfInBounds_toArray, List.set_cons_zero, List.set_cons_succ])
             clear hHeld
             refine wpAnyH_ready (rs := [11]) (by kernel_rfl) (by simp) ?_
             refine AllReadyH.cons (o := ?oi144) ?hi144 (fun K hK => ?rest144) AllReadyH.nil
             (case hi144 => (simp only [List.getElem?_toArray, List.getElem?_cons_succ, List.getElem?_cons_zero]; rfl))
             go_simp
             obtain ⟨wz145, hwy⟩ : ∃ W, W = wz135.alloc (.cells #[.int .i64 0, .bool false] 85) := ⟨_, rfl⟩
             rw [← hwy]
             have hb : Below wz135.heap.size wz135 wz145 := by rw [hwy]; exact below_new1 _ _
             have ec0 : wz145.cell? ⟨wz135.heap.size, 0, none⟩ = some (.int .i64 0) := by rw [hwy, World.cell?_alloc_at _ _ _ _ rfl]; rfl
             have ef0 : wz145.frozen? ⟨wz135.heap.size, 0, none⟩ = false := by rw [hwy]; exact World.frozen?_alloc_at _ _ _ _ rfl
             have ec1 : wz145.cell? ⟨wz135.heap.size, 1, none⟩ = some (.bool false) := by rw [hwy, World.cell?_alloc_at _ _ _ _ rfl]; rfl
             have ef1 : wz145.frozen? ⟨wz135.heap.size, 1, none⟩ = false := by rw [hwy]; exact World.frozen?_alloc_at _ _ _ _ rfl
             have et : Tag wz145 wz135.heap.size 85 := by rw [hwy]; exact tag_new _ _ _
             have ez : wz135.heap.size < wz145.heap.size := by rw [hwy]; simp
             have el := LO
             replace HW := Lib.hid (below_step HW.out hb)
             replace s0 := cel_below hb s0
             replace s1 := cel_below hb s1
             replace s2 := cel_below hb s2
             replace s3 := cel_below hb s3
             replace s4 := cel_below hb s4
             replace s5 := cel_below hb s5
             replace s6 := cel_below hb s6
             replace s7 := cel_below hb s7
             replace s8 := cel_below hb s8
             replace s9 := cel_below hb s9
             replace s10 := cel_below hb s10
             replace s11 := cel_below hb s11
             replace s12 := cel_below hb s12
             replace s13 := cel_below hb s13
             replace xc0 := cel_below hb xc0
             replace xf0 := fro_below hb xz xf0
             replace xt := tag_below xt hb
             have xen : wy0.heap.size ≠ wz135.heap.size := by omega
             replace xz := lt_below hb xz
             replace HMx := Lib.hid (hasInts_keep HMx.out hb)
             replace HX1 := Lib.hid (hasInts_keep HX1.out hb)
             replace LO := Nat.le_trans LO hb.size
             clear hb hwy
             refine hK.out _ _ ?_ (fun _ => ?_)
             · (try dsimp only); exact ⟨s0, s1, s2, s3, s4, s5, s6, s7, s8, s9, s10, s11, s12, s13⟩
             clear hK K
             (try simp only [Act.put, List.setIfInBounds_toArray, List.set_cons_zero, List.set_cons_succ])
             refine wpAnyH_ready (rs := [12]) (by kernel_rfl) (by simp) ?_
             refine AllReadyH.cons (o := ?oi146) ?hi146 (fun K hK => ?rest146) AllReadyH.nil
             (case hi146 => (simp only [List.getElem?_toArray, List.getElem?_cons_succ, List.getElem?_cons_zero]; rfl))
             go_simp
             obtain ⟨wz147, hwy⟩ : ∃ W, W = (wz145.setCell ⟨wy0.heap.size, 0, none⟩ (.slice a4 16 c4)) := ⟨_, rfl⟩
             rw [← hwy]
             have kp : ∀ {b' o' : Nat} {u : Value}, wz145.cell? ⟨b', o', none⟩ = some u → wy0.heap.size ≠ b' → wz147.cell? ⟨b', o', none⟩ = some u := fun h hn => by rw [hwy]; exact keepA_ (h) (Or.inl hn)
             replace s0 := kp s0 (by omega)
             replace s1 := kp s1 (by omega)
             replace s2 := kp s2 (by omega)
             replace s3 := kp s3 (by omega)
             replace s4 := kp s4 (by omega)
             replace s5 := kp s5 (by omega)
             replace s6 := kp s6 (by omega)
             replace s7 := kp s7 (by omega)
             replace s8 := kp s8 (by omega)
             replace s9 := kp s9 (by omega)
             replace s10 := kp s10 (by omega)
             replace s11 := kp s11 (by omega)
             replace s12 := kp s12 (by omega)
             replace s13 := kp s13 (by omega)
             clear kp
             replace ec0 : wz147.cell? ⟨wz135.heap.size, 0, none⟩ = some (.int .i64 0) := by rw [hwy]; exact keepA_ (ec0) (Or.inl (by omega))
             replace ef0 : wz147.frozen? ⟨wz135.heap.size, 0, none⟩ = false := by rw [hwy]; simpa using ef0
             replace ec1 : wz147.cell? ⟨wz135.heap.size, 1, none⟩ = some (.bool false) := by rw [hwy]; exact keepA_ (ec1) (Or.inl (by omega))
             replace ef1 : wz147.frozen? ⟨wz135.heap.size, 1, none⟩ = false := by rw [hwy]; simpa using ef1
             replace HMx : Hid (HasInts wz147 (.slice am 16 cm) (laidZ 2 s o)) := Lib.hid (by rw [hwy]; exact (hasInts_setS HMx.out xc0 (u := .slice a4 16 c4)))
             replace HX1 : Hid (HasInts wz147 (.slice a4 16 c4) (laidZ 2 s o)) := Lib.hid (by rw [hwy]; exact (hasInts_setS HX1.out xc0 (u := .slice a4 16 c4)))
             have xd0 : wz147.cell? ⟨wy0.heap.size, 0, none⟩ = some (.slice a4 16 c4) := by rw [hwy]; exact World.cell?_setCell_same _ _ _ xc0
             replace xt : Tag wz147 wy0.heap.size 55 := by rw [hwy]; exact (tag_set xt _ _)
             replace et : Tag wz147 wz135.heap.size 85 := by rw [hwy]; exact (tag_set et _ _)
             replace xf0 : wz147.frozen? ⟨wy0.heap.size, 0, none⟩ = false := by rw [hwy]; simpa using xf0
             replace HW := Lib.hid (Below.setCell (p := ⟨wy0.heap.size, 0, none⟩) HW.out (by have := HWS.out; dsimp only; omega) (.slice a4 16 c4))
             rw [← hwy] at HW
             have hsz : wz147.heap.size = wz145.heap.size := by rw [hwy]; simp
             replace xz : wy0.heap.size < wz147.heap.size := by omega
             replace ez : wz135.heap.size < wz147.heap.size := by omega
             replace LO : _ ≤ wz147.heap.size := Nat.le_trans LO (Nat.le_of_eq hsz.symm)
             clear hsz hwy xc0
             have xc0 := xd0
             clear xd0
             refine hK.out _ _ ?_ (fun _ => ?_)
             · (try dsimp only); exact ⟨s0, s1, s2, s3, s4, s5, s6, s7, s8, s9, s10, s11, s12, s13⟩
             clear hK K
             (try simp only [Act.put, List.setIfInBounds_toArray, List.set_cons_zero, List.set_cons_succ])
             refine wpAnyH_ready (rs := [13]) (by kernel_rfl) (by simp) ?_
             refine AllReadyH.cons (o := ?oi148) ?hi148 (fun K hK => ?rest148) AllReadyH.nil
             (case hi148 => (simp only [List.getElem?_toArray, List.getElem?_cons_succ, List.getElem?_cons_zero]; rfl))
             go_simp
             obtain ⟨wz149, hwy⟩ : ∃ W, W = ((wz147.setCell ⟨wz135.heap.size, 0, none⟩ (.int .i64 r4)).setCell ⟨wz135.heap.size, 1, none⟩ (.bool b4)) := ⟨_, rfl⟩
             rw [← hwy]
             have kp : ∀ {b' o' : Nat} {u : Value}, wz147.cell? ⟨b', o', none⟩ = some u → wz135.heap.size ≠ b' → wz149.cell? ⟨b', o', none⟩ = some u := fun h hn => by rw [hwy]; exact keepA_ (keepA_ (h) (Or.inl hn)) (Or.inl hn)
             replace s0 := kp s0 (by omega)
             replace s1 := kp s1 (by omega)
             replace s2 := kp s2 (by omega)
             replace s3 := kp s3 (by omega)
             replace s4 := kp s4 (by omega)
             replace s5 := kp s5 (by omega)
             replace s6 := kp s6 (by omega)
             replace s7 := kp s7 (by omega)
             replace s8 := kp s8 (by omega)
             replace s9 := kp s9 (by omega)
             replace s10 := kp s10 (by omega)
             replace s11 := kp s11 (by omega)
             replace s12 := kp s12 (by omega)
             replace s13 := kp s13 (by omega)
             clear kp
             replace xc0 : wz149.cell? ⟨wy0.heap.size, 0, none⟩ = some (.slice a4 16 c4) := by rw [hwy]; exact keepA_ (keepA_ (xc0) (Or.inl (by omega))) (Or.inl (by omega))
             replace xf0 : wz149.frozen? ⟨wy0.heap.size, 0, none⟩ = false := by rw [hwy]; simpa using xf0
             replace HMx : Hid (HasInts wz149 (.slice am 16 cm) (laidZ 2 s o)) := Lib.hid (by rw [hwy]; exact hasInts_res HMx.out (by simp [laidZ]) ec1)
             replace HX1 : Hid (HasInts wz149 (.slice a4 16 c4) (laidZ 2 s o)) := Lib.hid (by rw [hwy]; exact hasInts_res HX1.out (by simp [laidZ]) ec1)
             have ed0 : wz149.cell? ⟨wz135.heap.size, 0, none⟩ = some (.int .i64 r4) := by rw [hwy]; exact keepA_ (World.cell?_setCell_same _ _ _ ec0) (Or.inr (by simp))
             have ed1 : wz149.cell? ⟨wz135.heap.size, 1, none⟩ = some (.bool b4) := by rw [hwy]; exact World.cell?_setCell_same _ _ _ (keepA_ ec1 (Or.inr (by simp)))
             replace xt : Tag wz149 wy0.heap.size 55 := by rw [hwy]; exact (tag_set (tag_set xt _ _) _ _)
             replace et : Tag wz149 wz135.heap.size 85 := by rw [hwy]; exact (tag_set (tag_set et _ _) _ _)
             replace ef0 : wz149.frozen? ⟨wz135.heap.size, 0, none⟩ = false := by rw [hwy]; simpa using ef0
             replace ef1 : wz149.frozen? ⟨wz135.heap.size, 1, none⟩ = false := by rw [hwy]; simpa using ef1
             replace HW := Lib.hid (Below.setCell (p := ⟨wz135.heap.size, 1, none⟩) (Below.setCell (p := ⟨wz135.heap.size, 0, none⟩) HW.out (by have := HWS.out; dsimp only; omega) (.int .i64 r4)) (by have := HWS.out; dsimp only; omega) (.bool b4))
             rw [← hwy] at HW
             have hsz : wz149.heap.size = wz147.heap.size := by rw [hwy]; simp
             replace xz : wy0.heap.size < wz149.heap.size := by omega
             replace ez : wz135.heap.size < wz149.heap.size := by omega
             replace LO : _ ≤ wz149.heap.size := Nat.le_trans LO (Nat.le_of_eq hsz.symm)
             clear hsz hwy ec0 ec1
             have ec0 := ed0
             clear ed0
             have ec1 := ed1
             clear ed1
             refine hK.out _ _ ?_ (fun _ => ?_)
             · (try dsimp only); exact ⟨s0, s1, s2, s3, s4, s5, s6, s7, s8, s9, s10, s11, s12, s13⟩
             clear hK K
             (try simp only [Act.put, List.setIfInBounds_toArray, List.set_cons_zero, List.set_cons_succ])
             have hHeld := And.intro s0 (And.intro s1 (And.intro s2 (And.intro s3 (And.intro s4 (And.intro s5 (And.intro s6 (And.intro s7 (And.intro s8 (And.intro s9 (And.intro s10 (And.intro s11 (And.intro s12 (s13)))))))))))))
             refine wpAnyH_take (i := 14) (oi := ?oi150) (v := ?v150) ?hi150 (by kernel_rfl) (by kernel_rfl) (by kernel_rfl) ?hQ150 (Or.inl ⟨?hw150, ?hy150⟩) (by assumption) ?rest150; (case hi150 => (simp only [List.getElem?_toArray, List.getElem?_cons_succ, List.getElem?_cons_zero]; rfl)); (case hQ150 => exact fun _ _ _ h => h); (case hw150 => rfl); (case hy150 => ((intro w hSw); (try dsimp only at hSw); go_simp; (try with_reducible rfl)))
             (try simp only [Act.put, List.setIfInBounds_toArray, List.set_cons_zero, List.set_cons_succ])
             clear hHeld
             refine wpAnyH_done (by kernel_rfl) ?_ _
             go_wp2_with fail
             go_meet
             exact ⟨wy0.heap.size, a4, c4, rfl, xc0, HX1.out, HMx.out, HW.out⟩
            case rest134 =>
             go_simp
             obtain ⟨wz152, hwy⟩ : ∃ W, W = wz130.alloc (.cells #[.int .i64 0, .bool false] 85) := ⟨_, rfl⟩
             rw [← hwy]
             have hb : Below wz130.heap.size wz130 wz152 := by rw [hwy]; exact below_new1 _ _
             have ec0 : wz152.cell? ⟨wz130.heap.size, 0, none⟩ = some (.int .i64 0) := by rw [hwy, World.cell?_alloc_at _ _ _ _ rfl]; rfl
             have ef0 : wz152.frozen? ⟨wz130.heap.size, 0, none⟩ = false := by rw [hwy]; exact World.frozen?_alloc_at _ _ _ _ rfl
             have ec1 : wz152.cell? ⟨wz130.heap.size, 1, none⟩ = some (.bool false) := by rw [hwy, World.cell?_alloc_at _ _ _ _ rfl]; rfl
             have ef1 : wz152.frozen? ⟨wz130.heap.size, 1, none⟩ = false := by rw [hwy]; exact World.frozen?_alloc_at _ _ _ _ rfl
             have et : Tag wz152 wz130.heap.size 85 := by rw [hwy]; exact tag_new _ _ _
             have ez : wz130.heap.size < wz152.heap.size := by rw [hwy]; simp
             have el := LO
             replace HW := Lib.hid (below_step HW.out hb)
             replace s0 := cel_below hb s0
             replace s1 := cel_below hb s1
             replace s2 := cel_below hb s2
             replace s3 := cel_below hb s3
             replace s4 := cel_below hb s4
             replace s5 := cel_below hb s5
             replace s6 := cel_below hb s6
             replace s7 := cel_below hb s7
             replace s8 := cel_below hb s8
             replace s9 := cel_below hb s9
             replace s10 := cel_below hb s10
             replace s11 := cel_below hb s11
             replace s12 := cel_below hb s12
             replace s13 := cel_below hb s13
             replace xc0 := cel_below hb xc0
             replace xf0 := fro_below hb xz xf0
             replace xt := tag_below xt hb
             have xen : wy0.heap.size ≠ wz130.heap.size := by omega
             replace xz := lt_below hb xz
             replace HMx := Lib.hid (hasInts_keep HMx.out hb)
             replace HZx := Lib.hid (hasInts_keep HZx.out hb)
             replace LO := Nat.le_trans LO hb.size
             clear hb hwy
             refine hK.out _ _ ?_ (fun _ => ?_)
             · (try dsimp only); exact ⟨s0, s1, s2, s3, s4, s5, s6, s7, s8, s9, s10, s11, s12, s13⟩
             clear hK K
             (try simp only [Act.put, List.setIfInBounds_toArray, List.set_cons_zero, List.set_cons_succ])
             refine wpAnyH_ready (rs := [5]) (by kernel_rfl) (by simp) ?_
             refine AllReadyH.cons (o := ?oi153) ?hi153 (fun K hK => ?rest153) AllReadyH.nil
             (case hi153 => (simp only [List.getElem?_toArray, List.getElem?_cons_succ, List.getElem?_cons_zero]; rfl))
             go_simp
             ((with_reducible refine (HDo.out _ _ _ HZx.out).mono ?_); rintro e wz154 ⟨a4, c4, r4, b4, rfl, hq, hb⟩)
             replace HW := Lib.hid (below_step HW.out hb)
             replace s0 := cel_below hb s0
             replace s1 := cel_below hb s1
             replace s2 := cel_below hb s2
             replace s3 := cel_below hb s3
             replace s4 := cel_below hb s4
             replace s5 := cel_below hb s5
             replace s6 := cel_below hb s6
             replace s7 := cel_below hb s7
             replace s8 := cel_below hb s8
             replace s9 := cel_below hb s9
             replace s10 := cel_below hb s10
             replace s11 := cel_below hb s11
             replace s12 := cel_below hb s12
             replace s13 := cel_below hb s13
             replace xc0 := cel_below hb xc0
             replace xf0 := fro_below hb xz xf0
             replace xz := lt_below hb xz
             replace xt := tag_below xt hb
             replace ec0 := cel_below hb ec0
             replace ef0 := fro_below hb ez ef0
             replace ec1 := cel_below hb ec1
             replace ef1 := fro_below hb ez ef1
             replace ez := lt_below hb ez
             replace et := tag_below et hb
             replace HMx := Lib.hid (hasInts_keep HMx.out hb)
             replace HZx := Lib.hid (hasInts_keep HZx.out hb)
             have HX1 := Lib.hid hq
             clear hq
             replace LO := Nat.le_trans LO hb.size
             clear hb
             refine hK.out _ _ ?_ (fun _ => ?_)
             · (try dsimp only); exact ⟨s0, s1, s2, s3, s4, s5, s6, s7, s8, s9, s10, s11, s12, s13⟩
             clear hK K
             (try simp only [Act.put, List.setIfInBounds_toArray, List.set_cons_zero, List.set_cons_succ])
             have hHeld := And.intro s0 (And.intro s1 (And.intro s2 (And.intro s3 (And.intro s4 (And.intro s5 (And.intro s6 (And.intro s7 (And.intro s8 (And.intro s9 (And.intro s10 (And.intro s11 (And.intro s12 (s13)))))))))))))
             refine wpAnyH_take (i := 6) (oi := ?oi155) (v := ?v155) ?hi155 (by kernel_rfl) (by kernel_rfl) (by kernel_rfl) ?hQ155 (Or.inl ⟨?hw155, ?hy155⟩) (by assumption) ?rest155; (case hi155 => (simp only [List.getElem?_toArray, List.getElem?_cons_succ, List.getElem?_cons_zero]; rfl)); (case hQ155 => exact fun _ _ _ h => h); (case hw155 => rfl); (case hy155 => ((intro w hSw); (try dsimp only at hSw); go_simp; (try with_reducible rfl)))
             (try simp only [Act.put, List.setIfInBounds_toArray, List.set_cons_zero, List.set_cons_succ])
             refine wpAnyH_take (i := 7) (oi := ?oi157) (v := ?v157) ?hi157 (by kernel_rfl) (by kernel_rfl) (by kernel_rfl) ?hQ157 (Or.inl ⟨?hw157, ?hy157⟩) (by assumption) ?rest157; (case hi157 => (simp only [List.getElem?_toArray, List.getElem?_cons_succ, List.getElem?_cons_zero]; rfl)); (case hQ157 => exact fun _ _ _ h => h); (case hw157 => rfl); (case hy157 => ((intro w hSw); (try dsimp only at hSw); go_simp; (try with_reducible rfl)))
             (try simp only [Act.put, List.setIfInBounds_toArray, List.set_cons_zero, List.set_cons_succ])
             refine wpAnyH_take (i := 8) (oi := ?oi159) (v := ?v159) ?hi159 (by kernel_rfl) (by kernel_rfl) (by kernel_rfl) ?hQ159 (Or.inl ⟨?hw159, ?hy159⟩) (by assumption) ?rest159; (case hi159 => (simp only [List.getElem?_toArray, List.getElem?_cons_succ, List.getElem?_cons_zero]; rfl)); (case hQ159 => exact fun _ _ _ h => h); (case hw159 => rfl); (case hy159 => ((intro w hSw); (try dsimp only at hSw); go_simp; (try with_reducible rfl)))
             (try simp only [Act.put, List.setIfInBounds_toArray, List.set_cons_zero, List.set_cons_succ])
             refine wpAnyH_take (i := 9) (oi := ?oi161) (v := ?v161) ?hi161 (by kernel_rfl) (by kernel_rfl) (by kernel_rfl) ?hQ161 (Or.inl ⟨?hw161, ?hy161⟩) (by assumption) ?rest161; (case hi161 => (simp only [List.getElem?_toArray, List.getElem?_cons_succ, List.getElem?_cons_zero]; rfl)); (case hQ161 => exact fun _ _ _ h => h); (case hw161 => rfl); (case hy161 => ((intro w hSw); (try dsimp only at hSw); go_simp; (try with_reducible rfl)))
             (try simp only [Act.put, List.setIfInBounds_toArray, List.set_cons_zero, List.set_cons_succ])
             clear hHeld
             refine wpAnyH_ready (rs := [12]) (by kernel_rfl) (by simp) ?_
             refine AllReadyH.cons (o := ?oi163) ?hi163 (fun K hK => ?rest163) AllReadyH.nil
             (case hi163 => (simp only [List.getElem?_toArray, List.getElem?_cons_succ, List.getElem?_cons_zero]; rfl))
             go_simp
             obtain ⟨wz164, hwy⟩ : ∃ W, W = (wz154.setCell ⟨wy0.heap.size, 0, none⟩ (.slice a4 16 c4)) := ⟨_, rfl⟩
             rw [← hwy]
             have kp : ∀ {b' o' : Nat} {u : Value}, wz154.cell? ⟨b', o', none⟩ = some u → wy0.heap.size ≠ b' → wz164.cell? ⟨b', o', none⟩ = some u := fun h hn => by rw [hwy]; exact keepA_ (h) (Or.inl hn)
             replace s0 := kp s0 (by omega)
             replace s1 := kp s1 (by omega)
             replace s2 := kp s2 (by omega)
             replace s3 := kp s3 (by omega)
             replace s4 := kp s4 (by omega)
             replace s5 := kp s5 (by omega)
             replace s6 := kp s6 (by omega)
             replace s7 := kp s7 (by omega)
             replace s8 := kp s8 (by omega)
             replace s9 := kp s9 (by omega)
             replace s10 := kp s10 (by omega)
             replace s11 := kp s11 (by omega)
             replace s12 := kp s12 (by omega)
             replace s13 := kp s13 (by omega)
             clear kp
             replace ec0 : wz164.cell? ⟨wz130.heap.size, 0, none⟩ = some (.int .i64 0) := by rw [hwy]; exact keepA_ (ec0) (Or.inl (by omega))
             replace ef0 : wz164.frozen? ⟨wz130.heap.size, 0, none⟩ = false := by rw [hwy]; simpa using ef0
             replace ec1 : wz164.cell? ⟨wz130.heap.size, 1, none⟩ = some (.bool false) := by rw [hwy]; exact keepA_ (ec1) (Or.inl (by omega))
             replace ef1 : wz164.frozen? ⟨wz130.heap.size, 1, none⟩ = false := by rw [hwy]; simpa using ef1
             replace HMx : Hid (HasInts wz164 (.slice am 16 cm) (laidZ 2 s o)) := Lib.hid (by rw [hwy]; exact (hasInts_setS HMx.out xc0 (u := .slice a4 16 c4)))
             replace HX1 : Hid (HasInts wz164 (.slice a4 16 c4) (laidZ 2 s o)) := Lib.hid (by rw [hwy]; exact (hasInts_setS HX1.out xc0 (u := .slice a4 16 c4)))
             have xd0 : wz164.cell? ⟨wy0.heap.size, 0, none⟩ = some (.slice a4 16 c4) := by rw [hwy]; exact World.cell?_setCell_same _ _ _ xc0
             replace xt : Tag wz164 wy0.heap.size 55 := by rw [hwy]; exact (tag_set xt _ _)
             replace et : Tag wz164 wz130.heap.size 85 := by rw [hwy]; exact (tag_set et _ _)
             replace xf0 : wz164.frozen? ⟨wy0.heap.size, 0, none⟩ = false := by rw [hwy]; simpa using xf0
             replace HW := Lib.hid (Below.setCell (p := ⟨wy0.heap.size, 0, none⟩) HW.out (by have := HWS.out; dsimp only; omega) (.slice a4 16 c4))
             rw [← hwy] at HW
             have hsz : wz164.heap.size = wz154.heap.size := by rw [hwy]; simp
             replace xz : wy0.heap.size < wz164.heap.size := by omega
             replace ez : wz130.heap.size < wz164.heap.size := by omega
             replace LO : _ ≤ wz164.heap.size := Nat.le_trans LO (Nat.le_of_eq hsz.symm)
             clear hsz hwy xc0
             have xc0 := xd0
             clear xd0
             refine hK.out _ _ ?_ (fun _ => ?_)
             · (try dsimp only); exact ⟨s0, s1, s2, s3, s4, s5, s6, s7, s8, s9, s10, s11, s12, s13⟩
             clear hK K
             (try simp only [Act.put, List.setIfInBounds_toArray, List.set_cons_zero, List.set_cons_succ])
             refine wpAnyH_ready (rs := [13]) (by kernel_rfl) (by simp) ?_
             refine AllReadyH.cons (o := ?oi165) ?hi165 (fun K hK => ?rest165) AllReadyH.nil
             (case hi165 => (simp only [List.getElem?_toArray, List.getElem?_cons_succ, List.getElem?_cons_zero]; rfl))
             go_simp
             obtain ⟨wz166, hwy⟩ : ∃ W, W = ((wz164.setCell ⟨wz130.heap.size, 0, none⟩ (.int .i64 r4)).setCell ⟨wz130.heap.size, 1, none⟩ (.bool b4)) := ⟨_, rfl⟩
             rw [← hwy]
             have kp : ∀ {b' o' : Nat} {u : Value}, wz164.cell? ⟨b', o', none⟩ = some u → wz130.heap.size ≠ b' → wz166.cell? ⟨b', o', none⟩ = some u := fun h hn => by rw [hwy]; exact keepA_ (keepA_ (h) (Or.inl hn)) (Or.inl hn)
             replace s0 := kp s0 (by omega)
             replace s1 := kp s1 (by omega)
             replace s2 := kp s2 (by omega)
             replace s3 := kp s3 (by omega)
             replace s4 := kp s4 (by omega)
             replace s5 := kp s5 (by omega)
             replace s6 := kp s6 (by omega)
             replace s7 := kp s7 (by omega)
             replace s8 := kp s8 (by omega)
             replace s9 := kp s9 (by omega)
             replace s10 := kp s10 (by omega)
             replace s11 := kp s11 (by omega)
             replace s12 := kp s12 (by omega)
             replace s13 := kp s13 (by omega)
             clear kp
             replace xc0 : wz166.cell? ⟨wy0.heap.size, 0, none⟩ = some (.slice a4 16 c4) := by rw [hwy]; exact keepA_ (keepA_ (xc0) (Or.inl (by omega))) (Or.inl (by omega))
             replace xf0 : wz166.frozen? ⟨wy0.heap.size, 0, none⟩ = false := by rw [hwy]; simpa using xf0
             replace HMx : Hid (HasInts wz166 (.slice am 16 cm) (laidZ 2 s o)) := Lib.hid (by rw [hwy]; exact hasInts_res HMx.out (by simp [laidZ]) ec1)
             replace HX1 : Hid (HasInts wz166 (.slice a4 16 c4) (laidZ 2 s o)) := Lib.hid (by rw [hwy]; exact hasInts_res HX1.out (by simp [laidZ]) ec1)
             have ed0 : wz166.cell? ⟨wz130.heap.size, 0, none⟩ = some (.int .i64 r4) := by rw [hwy]; exact keepA_ (World.cell?_setCell_same _ _ _ ec0) (Or.inr (by simp))
             have ed1 : wz166.cell? ⟨wz130.heap.size, 1, none⟩ = some (.bool b4) := by rw [hwy]; exact World.cell?_setCell_same _ _ _ (keepA_ ec1 (Or.inr (by simp)))
             replace xt : Tag wz166 wy0.heap.size 55 := by rw [hwy]; exact (tag_set (tag_set xt _ _) _ _)
             replace et : Tag wz166 wz130.heap.size 85 := by rw [hwy]; exact (tag_set (tag_set et _ _) _ _)
             replace ef0 : wz166.frozen? ⟨wz130.heap.size, 0, none⟩ = false := by rw [hwy]; simpa using ef0
             replace ef1 : wz166.frozen? ⟨wz130.heap.size, 1, none⟩ = false := by rw [hwy]; simpa using ef1
             replace HW := Lib.hid (Below.setCell (p := ⟨wz130.heap.size, 1, none⟩) (Below.setCell (p := ⟨wz130.heap.size, 0, none⟩) HW.out (by have := HWS.out; dsimp only; omega) (.int .i64 r4)) (by have := HWS.out; dsimp only; omega) (.bool b4))
             rw [← hwy] at HW
             have hsz : wz166.heap.size = wz164.heap.size := by rw [hwy]; simp
             replace xz : wy0.heap.size < wz166.heap.size := by omega
             replace ez : wz130.heap.size < wz166.heap.size := by omega
             replace LO : _ ≤ wz166.heap.size := Nat.le_trans LO (Nat.le_of_eq hsz.symm)
             clear hsz hwy ec0 ec1
             have ec0 := ed0
             clear ed0
             have ec1 := ed1
             clear ed1
             refine hK.out _ _ ?_ (fun _ => ?_)
             · (try dsimp only); exact ⟨s0, s1, s2, s3, s4, s5, s6, s7, s8, s9, s10, s11, s12, s13⟩
             clear hK K
             (try simp only [Act.put, List.setIfInBounds_toArray, List.set_cons_zero, List.set_cons_succ])
             have hHeld := And.intro s0 (And.intro s1 (And.intro s2 (And.intro s3 (And.intro s4 (And.intro s5 (And.intro s6 (And.intro s7 (And.intro s8 (And.intro s9 (And.intro s10 (And.intro s11 (And.intro s12 (s13)))))))))))))
             refine wpAnyH_take (i := 14) (oi := ?oi167) (v := ?v167) ?hi167 (by kernel_rfl) (by kernel_rfl) (by kernel_rfl) ?hQ167 (Or.inl ⟨?hw167, ?hy167⟩) (by assumption) ?rest167; (case hi167 => (simp only [List.getElem?_toArray, List.getElem?_cons_succ, List.getElem?_cons_zero]; rfl)); (case hQ167 => exact fun _ _ _ h => h); (case hw167 => rfl); (case hy167 => ((intro w hSw); (try dsimp only at hSw); go_simp; (try with_reducible rfl)))
             (try simp only [Act.put, List.setIfInBounds_toArray, List.set_cons_zero, List.set_cons_succ])
             clear hHeld
             refine wpAnyH_done (by kernel_rfl) ?_ _
             go_wp2_with fail
             go_meet
             exact ⟨wy0.heap.size, a4, c4, rfl, xc0, HX1.out, HMx.out, HW.out⟩
           case rest129 =>
            go_simp
            obtain ⟨wz169, hwy⟩ : ∃ W, W = wz127.alloc (.cells #[.int .i64 0, .bool false] 85) := ⟨_, rfl⟩
            rw [← hwy]
            have hb : Below wz127.heap.size wz127 wz169 := by rw [hwy]; exact below_new1 _ _
            have ec0 : wz169.cell? ⟨wz127.heap.size, 0, none⟩ = some (.int .i64 0) := by rw [hwy, World.cell?_alloc_at _ _ _ _ rfl]; rfl
            have ef0 : wz169.frozen? ⟨wz127.heap.size, 0, none⟩ = false := by rw [hwy]; exact World.frozen?_alloc_at _ _ _ _ rfl
            have ec1 : wz169.cell? ⟨wz127.heap.size, 1, none⟩ = some (.bool false) := by rw [hwy, World.cell?_alloc_at _ _ _ _ rfl]; rfl
            have ef1 : wz169.frozen? ⟨wz127.heap.size, 1, none⟩ = false := by rw [hwy]; exact World.frozen?_alloc_at _ _ _ _ rfl
            have et : Tag wz169 wz127.heap.size 85 := by rw [hwy]; exact tag_new _ _ _
            have ez : wz127.heap.size < wz169.heap.size := by rw [hwy]; simp
            have el := LO
            replace HW := Lib.hid (below_step HW.out hb)
            replace s0 := cel_below hb s0
            replace s1 := cel_below hb s1
            replace s2 := cel_below hb s2
            replace s3 := cel_below hb s3
            replace s4 := cel_below hb s4
            replace s5 := cel_below hb s5
            replace s6 := cel_below hb s6
            replace s7 := cel_below hb s7
            replace s8 := cel_below hb s8
            replace s9 := cel_below hb s9
            replace s10 := cel_below hb s10
            replace s11 := cel_below hb s11
            replace s12 := cel_below hb s12
            replace s13 := cel_below hb s13
            replace xc0 := cel_below hb xc0
            replace xf0 := fro_below hb xz xf0
            replace xt := tag_below xt hb
            have xen : wy0.heap.size ≠ wz127.heap.size := by omega
            replace xz := lt_below hb xz
            replace HMx := Lib.hid (hasInts_keep HMx.out hb)
            replace HZx := Lib.hid (hasInts_keep HZx.out hb)
            replace LO := Nat.le_trans LO hb.size
            clear hb hwy
            refine hK.out _ _ ?_ (fun _ => ?_)
            · (try dsimp only); exact ⟨s0, s1, s2, s3, s4, s5, s6, s7, s8, s9, s10, s11, s12, s13⟩
            clear hK K
            (try simp only [Act.put, List.setIfInBounds_toArray, List.set_cons_zero, List.set_cons_succ])
            refine wpAnyH_ready (rs := [2]) (by kernel_rfl) (by simp) ?_
            refine AllReadyH.cons (o := ?oi170) ?hi170 (fun K hK => ?rest170) AllReadyH.nil
            (case hi170 => (simp only [List.getElem?_toArray, List.getElem?_cons_succ, List.getElem?_cons_zero]; rfl))
            go_simp
            ((with_reducible refine (HL2.out _).mono ?_); rintro e wz171 ⟨rfl, hb⟩)
            replace HW := Lib.hid (below_step HW.out hb)
            replace s0 := cel_below hb s0
            replace s1 := cel_below hb s1
            replace s2 := cel_below hb s2
            replace s3 := cel_below hb s3
            replace s4 := cel_below hb s4
            replace s5 := cel_below hb s5
            replace s6 := cel_below hb s6
            replace s7 := cel_below hb s7
            replace s8 := cel_below hb s8
            replace s9 := cel_below hb s9
            replace s10 := cel_below hb s10
            replace s11 := cel_below hb s11
            replace s12 := cel_below hb s12
            replace s13 := cel_below hb s13
            replace xc0 := cel_below hb xc0
            replace xf0 := fro_below hb xz xf0
            replace xz := lt_below hb xz
            replace xt := tag_below xt hb
            replace ec0 := cel_below hb ec0
            replace ef0 := fro_below hb ez ef0
            replace ec1 := cel_below hb ec1
            replace ef1 := fro_below hb ez ef1
            replace ez := lt_below hb ez
            replace et := tag_below et hb
            replace HMx := Lib.hid (hasInts_keep HMx.out hb)
            replace HZx := Lib.hid (hasInts_keep HZx.out hb)
            replace LO := Nat.le_trans LO hb.size
            clear hb
            refine hK.out _ _ ?_ (fun _ => ?_)
            · (try dsimp only); exact ⟨s0, s1, s2, s3, s4, s5, s6, s7, s8, s9, s10, s11, s12, s13⟩
            clear hK K
            (try simp only [Act.put, List.setIfInBounds_toArray, List.set_cons_zero, List.set_cons_succ])
            have hHeld := And.intro s0 (And.intro s1 (And.intro s2 (And.intro s3 (And.intro s4 (And.intro s5 (And.intro s6 (And.intro s7 (And.intro s8 (And.intro s9 (And.intro s10 (And.intro s11 (And.intro s12 (s13)))))))))))))
            refine wpAnyH_take (i := 4) (oi := ?oi172) (v := ?v172) ?hi172 (by kernel_rfl) (by kernel_rfl) (by kernel_rfl) ?hQ172 (Or.inl ⟨?hw172, ?hy172⟩) (by assumption) ?rest172; (case hi172 => (simp only [List.getElem?_toArray, List.getElem?_cons_succ, List.getElem?_cons_zero]; rfl)); (case hQ172 => exact fun _ _ _ h => h); (case hw172 => rfl); (case hy172 => ((intro w hSw); (try dsimp only at hSw); go_simp; (try with_reducible rfl)))
            (try simp only [Act.put, List.setIfInBounds_toArray, List.set_cons_zero, List.set_cons_succ])
            clear hHeld
            refine wpAnyH_ready (rs := [5]) (by kernel_rfl) (by simp) ?_
            refine AllReadyH.cons (o := ?oi174) ?hi174 (fun K hK => ?rest174) AllReadyH.nil
            (case hi174 => (simp only [List.getElem?_toArray, List.getElem?_cons_succ, List.getElem?_cons_zero]; rfl))
            go_simp
            ((with_reducible refine (HDo.out _ _ _ HZx.out).mono ?_); rintro e wz175 ⟨a4, c4, r4, b4, rfl, hq, hb⟩)
            replace HW := Lib.hid (below_step HW.out hb)
            replace s0 := cel_below hb s0
            replace s1 := cel_below hb s1
            replace s2 := cel_below hb s2
            replace s3 := cel_below hb s3
            replace s4 := cel_below hb s4
            replace s5 := cel_below hb s5
            replace s6 := cel_below hb s6
            replace s7 := cel_below hb s7
            replace s8 := cel_below hb s8
            replace s9 := cel_below hb s9
            replace s10 := cel_below hb s10
            replace s11 := cel_below hb s11
            replace s12 := cel_below hb s12
            replace s13 := cel_below hb s13
            replace xc0 := cel_below hb xc0
            replace xf0 := fro_below hb xz xf0
            replace xz := lt_below hb xz
            replace xt := tag_below xt hb
            replace ec0 := cel_below hb ec0
            replace ef0 := fro_below hb ez ef0
            replace ec1 := cel_below hb ec1
            replace ef1 := fro_below hb ez ef1
            replace ez := lt_below hb ez
            replace et := tag_below et hb
            replace HMx := Lib.hid (hasInts_keep HMx.out hb)
            replace HZx := Lib.hid (hasInts_keep HZx.out hb)
            have HX1 := Lib.hid hq
            clear hq
            replace LO := Nat.le_trans LO hb.size
            clear hb
            refine hK.out _ _ ?_ (fun _ => ?_)
            · (try dsimp only); exact ⟨s0, s1, s2, s3, s4, s5, s6, s7, s8, s9, s10, s11, s12, s13⟩
            clear hK K
            (try simp only [Act.put, List.setIfInBounds_toArray, List.set_cons_zero, List.set_cons_succ])
            have hHeld := And.intro s0 (And.intro s1 (And.intro s2 (And.intro s3 (And.intro s4 (And.intro s5 (And.intro s6 (And.intro s7 (And.intro s8 (And.intro s9 (And.intro s10 (And.intro s11 (And.intro s12 (s13)))))))))))))
            refine wpAnyH_take (i := 6) (oi := ?oi176) (v := ?v176) ?hi176 (by kernel_rfl) (by kernel_rfl) (by kernel_rfl) ?hQ176 (Or.inl ⟨?hw176, ?hy176⟩) (by assumption) ?rest176; (case hi176 => (simp only [List.getElem?_toArray, List.getElem?_cons_succ, List.getElem?_cons_zero]; rfl)); (case hQ176 => exact fun _ _ _ h => h); (case hw176 => rfl); (case hy176 => ((intro w hSw); (try dsimp only at hSw); go_simp; (try with_reducible rfl)))
            (try simp only [Act.put, List.setIfInBounds_toArray, List.set_cons_zero, List.set_cons_succ])
            refine wpAnyH_take (i := 7) (oi := ?oi178) (v := ?v178) ?hi178 (by kernel_rfl) (by kernel_rfl) (by kernel_rfl) ?hQ178 (Or.inl ⟨?hw178, ?hy178⟩) (by assumption) ?rest178; (case hi178 => (simp only [List.getElem?_toArray, List.getElem?_cons_succ, List.getElem?_cons_zero]; rfl)); (case hQ178 => exact fun _ _ _ h => h); (case hw178 => rfl); (case hy178 => ((intro w hSw); (try dsimp only at hSw); go_simp; (try with_reducible rfl)))
            (try simp only [Act.put, List.setIfInBounds_toArray, List.set_cons_zero, List.set_cons_succ])
            refine wpAnyH_take (i := 8) (oi := ?oi180) (v := ?v180) ?hi180 (by kernel_rfl) (by kernel_rfl) (by kernel_rfl) ?hQ180 (Or.inl ⟨?hw180, ?hy180⟩) (by assumption) ?rest180; (case hi180 => (simp only [List.getElem?_toArray, List.getElem?_cons_succ, List.getElem?_cons_zero]; rfl)); (case hQ180 => exact fun _ _ _ h => h); (case hw180 => rfl); (case hy180 => ((intro w hSw); (try dsimp only at hSw); go_simp; (try with_reducible rfl)))
            (try simp only [Act.put, List.setIfInBounds_toArray, List.set_cons_zero, List.set_cons_succ])
            refine wpAnyH_take (i := 9) (oi := ?oi182) (v := ?v182) ?hi182 (by kernel_rfl) (by kernel_rfl) (by kernel_rfl) ?hQ182 (Or.inl ⟨?hw182, ?hy182⟩) (by assumption) ?rest182; (case hi182 => (simp only [List.getElem?_toArray, List.getElem?_cons_succ, List.getElem?_cons_zero]; rfl)); (case hQ182 => exact fun _ _ _ h => h); (case hw182 => rfl); (case hy182 => ((intro w hSw); (try dsimp only at hSw); go_simp; (try with_reducible rfl)))
            (try simp only [Act.put, List.setIfInBounds_toArray, List.set_cons_zero, List.set_cons_succ])
            clear hHeld
            refine wpAnyH_ready (rs := [12]) (by kernel_rfl) (by simp) ?_
            refine AllReadyH.cons (o := ?oi184) ?hi184 (fun K hK => ?rest184) AllReadyH.nil
            (case hi184 => (simp only [List.getElem?_toArray, List.getElem?_cons_succ, List.getElem?_cons_zero]; rfl))
            go_simp
            obtain ⟨wz185, hwy⟩ : ∃ W, W = (wz175.setCell ⟨wy0.heap.size, 0, none⟩ (.slice a4 16 c4)) := ⟨_, rfl⟩
            rw [← hwy]
            have kp : ∀ {b' o' : Nat} {u : Value}, wz175.cell? ⟨b', o', none⟩ = some u → wy0.heap.size ≠ b' → wz185.cell? ⟨b', o', none⟩ = some u := fun h hn => by rw [hwy]; exact keepA_ (h) (Or.inl hn)
            replace s0 := kp s0 (by omega)
            replace s1 := kp s1 (by omega)
            replace s2 := kp s2 (by omega)
            replace s3 := kp s3 (by omega)
            replace s4 := kp s4 (by omega)
            replace s5 := kp s5 (by omega)
            replace s6 := kp s6 (by omega)
            replace s7 := kp s7 (by omega)
            replace s8 := kp s8 (by omega)
            replace s9 := kp s9 (by omega)
            replace s10 := kp s10 (by omega)
            replace s11 := kp s11 (by omega)
            replace s12 := kp s12 (by omega)
            replace s13 := kp s13 (by omega)
            clear kp
            replace ec0 : wz185.cell? ⟨wz127.heap.size, 0, none⟩ = some (.int .i64 0) := by rw [hwy]; exact keepA_ (ec0) (Or.inl (by omega))
            replace ef0 : wz185.frozen? ⟨wz127.heap.size, 0, none⟩ = false := by rw [hwy]; simpa using ef0
            replace ec1 : wz185.cell? ⟨wz127.heap.size, 1, none⟩ = some (.bool false) := by rw [hwy]; exact keepA_ (ec1) (Or.inl (by omega))
            replace ef1 : wz185.frozen? ⟨wz127.heap.size, 1, none⟩ = false := by rw [hwy]; simpa using ef1
            replace HMx : Hid (HasInts wz185 (.slice am 16 cm) (laidZ 2 s o)) := Lib.hid (by rw [hwy]; exact (hasInts_setS HMx.out xc0 (u := .slice a4 16 c4)))
            replace HX1 : Hid (HasInts wz185 (.slice a4 16 c4) (laidZ 2 s o)) := Lib.hid (by rw [hwy]; exact (hasInts_setS HX1.out xc0 (u := .slice a4 16 c4)))
            have xd0 : wz185.cell? ⟨wy0.heap.size, 0, none⟩ = some (.slice a4 16 c4) := by rw [hwy]; exact World.cell?_setCell_same _ _ _ xc0
            replace xt : Tag wz185 wy0.heap.size 55 := by rw [hwy]; exact (tag_set xt _ _)
            replace et : Tag wz185 wz127.heap.size 85 := by rw [hwy]; exact (tag_set et _ _)
            replace xf0 : wz185.frozen? ⟨wy0.heap.size, 0, none⟩ = false := by rw [hwy]; simpa using xf0
            replace HW := Lib.hid (Below.setCell (p := ⟨wy0.heap.size, 0, none⟩) HW.out (by have := HWS.out; dsimp only; omega) (.slice a4 16 c4))
            rw [← hwy] at HW
            have hsz : wz185.heap.size = wz175.heap.size := by rw [hwy]; simp
            replace xz : wy0.heap.size < wz185.heap.size := by omega
            replace ez : wz127.heap.size < wz185.heap.size := by omega
            replace LO : _ ≤ wz185.heap.size := Nat.le_trans LO (Nat.le_of_eq hsz.symm)
            clear hsz hwy xc0
            have xc0 := xd0
            clear xd0
            refine hK.out _ _ ?_ (fun _ => ?_)
            · (try dsimp only); exact ⟨s0, s1, s2, s3, s4, s5, s6, s7, s8, s9, s10, s11, s12, s13⟩
            clear hK K
            (try simp only [Act.put, List.setIfInBounds_toArray, List.set_cons_zero, List.set_cons_succ])
            refine wpAnyH_ready (rs := [13]) (by kernel_rfl) (by simp) ?_
            refine AllReadyH.cons (o := ?oi186) ?hi186 (fun K hK => ?rest186) AllReadyH.nil
            (case hi186 => (simp only [List.getElem?_toArray, List.getElem?_cons_succ, List.getElem?_cons_zero]; rfl))
            go_simp
            obtain ⟨wz187, hwy⟩ : ∃ W, W = ((wz185.setCell ⟨wz127.heap.size, 0, none⟩ (.int .i64 r4)).setCell ⟨wz127.heap.size, 1, none⟩ (.bool b4)) := ⟨_, rfl⟩
            rw [← hwy]
            have kp : ∀ {b' o' : Nat} {u : Value}, wz185.cell? ⟨b', o', none⟩ = some u → wz127.heap.size ≠ b' → wz187.cell? ⟨b', o', none⟩ = some u := fun h hn => by rw [hwy]; exact keepA_ (keepA_ (h) (Or.inl hn)) (Or.inl hn)
            replace s0 := kp s0 (by omega)
            replace s1 := kp s1 (by omega)
            replace s2 := kp s2 (by omega)
            replace s3 := kp s3 (by omega)
            replace s4 := kp s4 (by omega)
            replace s5 := kp s5 (by omega)
            replace s6 := kp s6 (by omega)
            replace s7 := kp s7 (by omega)
            replace s8 := kp s8 (by omega)
            replace s9 := kp s9 (by omega)
            replace s10 := kp s10 (by omega)
            replace s11 := kp s11 (by omega)
            replace s12 := kp s12 (by omega)
            replace s13 := kp s13 (by omega)
            clear kp
            replace xc0 : wz187.cell? ⟨wy0.heap.size, 0, none⟩ = some (.slice a4 16 c4) := by rw [hwy]; exact keepA_ (keepA_ (xc0) (Or.inl (by omega))) (Or.inl (by omega))
            replace xf0 : wz187.frozen? ⟨wy0.heap.size, 0, none⟩ = false := by rw [hwy]; simpa using xf0
            replace HMx : Hid (HasInts wz187 (.slice am 16 cm) (laidZ 2 s o)) := Lib.hid (by rw [hwy]; exact hasInts_res HMx.out (by simp [laidZ]) ec1)
            replace HX1 : Hid (HasInts wz187 (.slice a4 16 c4) (laidZ 2 s o)) := Lib.hid (by rw [hwy]; exact hasInts_res HX1.out (by simp [laidZ]) ec1)
            have ed0 : wz187.cell? ⟨wz127.heap.size, 0, none⟩ = some (.int .i64 r4) := by rw [hwy]; exact keepA_ (World.cell?_setCell_same _ _ _ ec0) (Or.inr (by simp))
            have ed1 : wz187.cell? ⟨wz127.heap.size, 1, none⟩ = some (.bool b4) := by rw [hwy]; exact World.cell?_setCell_same _ _ _ (keepA_ ec1 (Or.inr (by simp)))
            replace xt : Tag wz187 wy0.heap.size 55 := by rw [hwy]; exact (tag_set (tag_set xt _ _) _ _)
            replace et : Tag wz187 wz127.heap.size 85 := by rw [hwy]; exact (tag_set (tag_set et _ _) _ _)
            replace ef0 : wz187.frozen? ⟨wz127.heap.size, 0, none⟩ = false := by rw [hwy]; simpa using ef0
            replace ef1 : wz187.frozen? ⟨wz127.heap.size, 1, none⟩ = false := by rw [hwy]; simpa using ef1
            replace HW := Lib.hid (Below.setCell (p := ⟨wz127.heap.size, 1, none⟩) (Below.setCell (p := ⟨wz127.heap.size, 0, none⟩) HW.out (by have := HWS.out; dsimp only; omega) (.int .i64 r4)) (by have := HWS.out; dsimp only; omega) (.bool b4))
            rw [← hwy] at HW
            have hsz : wz187.heap.size = wz185.heap.size := by rw [hwy]; simp
            replace xz : wy0.heap.size < wz187.heap.size := by omega
            replace ez : wz127.heap.size < wz187.heap.size := by omega
            replace LO : _ ≤ wz187.heap.size := Nat.le_trans LO (Nat.le_of_eq hsz.symm)
            clear hsz hwy ec0 ec1
            have ec0 := ed0
            clear ed0
            have ec1 := ed1
            clear ed1
            refine hK.out _ _ ?_ (fun _ => ?_)
            · (try dsimp only); exact ⟨s0, s1, s2, s3, s4, s5, s6, s7, s8, s9, s10, s11, s12, s13⟩
            clear hK K
            (try simp only [Act.put, List.setIfInBounds_toArray, List.set_cons_zero, List.set_cons_succ])
            have hHeld := And.intro s0 (And.intro s1 (And.intro s2 (And.intro s3 (And.intro s4 (And.intro s5 (And.intro s6 (And.intro s7 (And.intro s8 (And.intro s9 (And.intro s10 (And.intro s11 (And.intro s12 (s13)))))))))))))
            refine wpAnyH_take (i := 14) (oi := ?oi188) (v := ?v188) ?hi188 (by kernel_rfl) (by kernel_rfl) (by kernel_rfl) ?hQ188 (Or.inl ⟨?hw188, ?hy188⟩) (by assumption) ?rest188; (case hi188 => (simp only [List.getElem?_toArray, List.getElem?_cons_succ, List.getElem?_cons_zero]; rfl)); (case hQ188 => exact fun _ _ _ h => h); (case hw188 => rfl); (case hy188 => ((intro w hSw); (try dsimp only at hSw); go_simp; (try with_reducible rfl)))
            (try simp only [Act.put, List.setIfInBounds_toArray, List.set_cons_zero, List.set_cons_succ])
            clear hHeld
            refine wpAnyH_done (by kernel_rfl) ?_ _
            go_wp2_with fail
            go_meet
            exact ⟨wy0.heap.size, a4, c4, rfl, xc0, HX1.out, HMx.out, HW.out⟩
          case rest17 =>
           go_simp
           obtain ⟨wz190, hwy⟩ : ∃ W, W = wy0.alloc (.cells #[.int .i64 0, .bool false] 85) := ⟨_, rfl⟩
           rw [← hwy]
           have hb : Below wy0.heap.size wy0 wz190 := by rw [hwy]; exact below_new1 _ _
           have ec0 : wz190.cell? ⟨wy0.heap.size, 0, none⟩ = some (.int .i64 0) := by rw [hwy, World.cell?_alloc_at _ _ _ _ rfl]; rfl
           have ef0 : wz190.frozen? ⟨wy0.heap.size, 0, none⟩ = false := by rw [hwy]; exact World.frozen?_alloc_at _ _ _ _ rfl
           have ec1 : wz190.cell? ⟨wy0.heap.size, 1, none⟩ = some (.bool false) := by rw [hwy, World.cell?_alloc_at _ _ _ _ rfl]; rfl
           have ef1 : wz190.frozen? ⟨wy0.heap.size, 1, none⟩ = false := by rw [hwy]; exact World.frozen?_alloc_at _ _ _ _ rfl
           have et : Tag wz190 wy0.heap.size 85 := by rw [hwy]; exact tag_new _ _ _
           have ez : wy0.heap.size < wz190.heap.size := by rw [hwy]; simp
           have el := LO
           replace HW := Lib.hid (below_step HW.out hb)
           replace s0 := cel_below hb s0
           replace s1 := cel_below hb s1
           replace s2 := cel_below hb s2
           replace s3 := cel_below hb s3
           replace s4 := cel_below hb s4
           replace s5 := cel_below hb s5
           replace s6 := cel_below hb s6
           replace s7 := cel_below hb s7
           replace s8 := cel_below hb s8
           replace s9 := cel_below hb s9
           replace s10 := cel_below hb s10
           replace s11 := cel_below hb s11
           replace s12 := cel_below hb s12
           replace s13 := cel_below hb s13
           replace HMx := Lib.hid (hasInts_keep HMx.out hb)
           replace HZx := Lib.hid (hasInts_keep HZx.out hb)
           replace LO := Nat.le_trans LO hb.size
           clear hb hwy
           refine hK.out _ _ ?_ (fun _ => ?_)
           · (try dsimp only); exact ⟨s0, s1, s2, s3, s4, s5, s6, s7, s8, s9, s10, s11, s12, s13⟩
           clear hK K
           (try simp only [Act.put, List.setIfInBounds_toArray, List.set_cons_zero, List.set_cons_succ])
           refine wpAnyH_ready (rs := [2, 10]) (by kernel_rfl) (by simp) ?_
           refine AllReadyH.cons (o := ?oi191) ?hi191 (fun K hK => ?rest191) (AllReadyH.cons (o := ?oi192) ?hi192 (fun K hK => ?rest192) AllReadyH.nil)
           (case hi191 => (simp only [List.getElem?_toArray, List.getElem?_cons_succ, List.getElem?_cons_zero]; rfl))
           (case hi192 => (simp only [List.getElem?_toArray, List.getElem?_cons_succ, List.getElem?_cons_zero]; rfl))
           case rest191 =>
            go_simp
            ((with_reducible refine (HL2.out _).mono ?_); rintro e wz193 ⟨rfl, hb⟩)
            replace HW := Lib.hid (below_step HW.out hb)
            replace s0 := cel_below hb s0
            replace s1 := cel_below hb s1
            replace s2 := cel_below hb s2
            replace s3 := cel_below hb s3
            replace s4 := cel_below hb s4
            replace s5 := cel_below hb s5
            replace s6 := cel_below hb s6
            replace s7 := cel_below hb s7
            replace s8 := cel_below hb s8
            replace s9 := cel_below hb s9
            replace s10 := cel_below hb s10
            replace s11 := cel_below hb s11
            replace s12 := cel_below hb s12
            replace s13 := cel_below hb s13
            replace ec0 := cel_below hb ec0
            replace ef0 := fro_below hb ez ef0
            replace ec1 := cel_below hb ec1
            replace ef1 := fro_below hb ez ef1
            replace ez := lt_below hb ez
            replace et := tag_below et hb
            replace HMx := Lib.hid (hasInts_keep HMx.out hb)
            replace HZx := Lib.hid (hasInts_keep HZx.out hb)
            replace LO := Nat.le_trans LO hb.size
            clear hb
            refine hK.out _ _ ?_ (fun _ => ?_)
            · (try dsimp only); exact ⟨s0, s1, s2, s3, s4, s5, s6, s7, s8, s9, s10, s11, s12, s13⟩
            clear hK K
            (try simp only [Act.put, List.setIfInBounds_toArray, List.set_cons_zero, List.set_cons_succ])
            have hHeld := And.intro s0 (And.intro s1 (And.intro s2 (And.intro s3 (And.intro s4 (And.intro s5 (And.intro s6 (And.intro s7 (And.intro s8 (And.intro s9 (And.intro s10 (And.intro s11 (And.intro s12 (s13)))))))))))))
            refine wpAnyH_take (i := 4) (oi := ?oi194) (v := ?v194) ?hi194 (by kernel_rfl) (by kernel_rfl) (by kernel_rfl) ?hQ194 (Or.inl ⟨?hw194, ?hy194⟩) (by assumption) ?rest194; (case hi194 => (simp only [List.getElem?_toArray, List.getElem?_cons_succ, List.getElem?_cons_zero]; rfl)); (case hQ194 => exact fun _ _ _ h => h); (case hw194 => rfl); (case hy194 => ((intro w hSw); (try dsimp only at hSw); go_simp; (try with_reducible rfl)))
            (try simp only [Act.put, List.setIfInBounds_toArray, List.set_cons_zero, List.set_cons_succ])
            clear hHeld
            refine wpAnyH_ready (rs := [5, 10]) (by kernel_rfl) (by simp) ?_
            refine AllReadyH.cons (o := ?oi196) ?hi196 (fun K hK => ?rest196) (AllReadyH.cons (o := ?oi197) ?hi197 (fun K hK => ?rest197) AllReadyH.nil)
            (case hi196 => (simp only [List.getElem?_toArray, List.getElem?_cons_succ, List.getElem?_cons_zero]; rfl))
            (case hi197 => (simp only [List.getElem?_toArray, List.getElem?_cons_succ, List.getElem?_cons_zero]; rfl))
            case rest196 =>
             go_simp
             ((with_reducible refine (HDo.out _ _ _ HZx.out).mono ?_); rintro e wz198 ⟨a4, c4, r4, b4, rfl, hq, hb⟩)
             replace HW := Lib.hid (below_step HW.out hb)
             replace s0 := cel_below hb s0
             replace s1 := cel_below hb s1
             replace s2 := cel_below hb s2
             replace s3 := cel_below hb s3
             replace s4 := cel_below hb s4
             replace s5 := cel_below hb s5
             replace s6 := cel_below hb s6
             replace s7 := cel_below hb s7
             replace s8 := cel_below hb s8
             replace s9 := cel_below hb s9
             replace s10 := cel_below hb s10
             replace s11 := cel_below hb s11
             replace s12 := cel_below hb s12
             replace s13 := cel_below hb s13
             replace ec0 := cel_below hb ec0
             replace ef0 := fro_below hb ez ef0
             replace ec1 := cel_below hb ec1
             replace ef1 := fro_below hb ez ef1
             replace ez := lt_below hb ez
             replace et := tag_below et hb
             replace HMx := Lib.hid (hasInts_keep HMx.out hb)
             replace HZx := Lib.hid (hasInts_keep HZx.out hb)
             have HX1 := Lib.hid hq
             clear hq
             replace LO := Nat.le_trans LO hb.size
             clear hb
             refine hK.out _ _ ?_ (fun _ => ?_)
             · (try dsimp only); exact ⟨s0, s1, s2, s3, s4, s5, s6, s7, s8, s9, s10, s11, s12, s13⟩
             clear hK K
             (try simp only [Act.put, List.setIfInBounds_toArray, List.set_cons_zero, List.set_cons_succ])
             have hHeld := And.intro s0 (And.intro s1 (And.intro s2 (And.intro s3 (And.intro s4 (And.intro s5 (And.intro s6 (And.intro s7 (And.intro s8 (And.intro s9 (And.intro s10 (And.intro s11 (And.intro s12 (s13)))))))))))))
             refine wpAnyH_take (i := 6) (oi := ?oi199) (v := ?v199) ?hi199 (by kernel_rfl) (by kernel_rfl) (by kernel_rfl) ?hQ199 (Or.inl ⟨?hw199, ?hy199⟩) (by assumption) ?rest199; (case hi199 => (simp only [List.getElem?_toArray, List.getElem?_cons_succ, List.getElem?_cons_zero]; rfl)); (case hQ199 => exact fun _ _ _ h => h); (case hw199 => rfl); (case hy199 => ((intro w hSw); (try dsimp only at hSw); go_simp; (try with_reducible rfl)))
             (try simp only [Act.put, List.setIfInBounds_toArray, List.set_cons_zero, List.set_cons_succ])
             refine wpAnyH_take (i := 7) (oi := ?oi201) (v := ?v201) ?hi201 (by kernel_rfl) (by kernel_rfl) (by kernel_rfl) ?hQ201 (Or.inl ⟨?hw201, ?hy201⟩) (by assumption) ?rest201; (case hi201 => (simp only [List.getElem?_toArray, List.getElem?_cons_succ, List.getElem?_cons_zero]; rfl)); (case hQ201 => exact fun _ _ _ h => h); (case hw201 => rfl); (case hy201 => ((intro w hSw); (try dsimp only at hSw); go_simp; (try with_reducible rfl)))
             (try simp only [Act.put, List.setIfInBounds_toArray, List.set_cons_zero, List.set_cons_succ])
             refine wpAnyH_take (i := 8) (oi := ?oi203) (v := ?v203) ?hi203 (by kernel_rfl) (by kernel_rfl) (by kernel_rfl) ?hQ203 (Or.inl ⟨?hw203, ?hy203⟩) (by assumption) ?rest203; (case hi203 => (simp only [List.getElem?_toArray, List.getElem?_cons_succ, List.getElem?_cons_zero]; rfl)); (case hQ203 => exact fun _ _ _ h => h); (case hw203 => rfl); (case hy203 => ((intro w hSw); (try dsimp only at hSw); go_simp; (try with_reducible rfl)))
             (try simp only [Act.put, List.setIfInBounds_toArray, List.set_cons_zero, List.set_cons_succ])
             refine wpAnyH_take (i := 9) (oi := ?oi205) (v := ?v205) ?hi205 (by kernel_rfl) (by kernel_rfl) (by kernel_rfl) ?hQ205 (Or.inl ⟨?hw205, ?hy205⟩) (by assumption) ?rest205; (case hi205 => (simp only [List.getElem?_toArray, List.getElem?_cons_succ, List.getElem?_cons_zero]; rfl)); (case hQ205 => exact fun _ _ _ h => h); (case hw205 => rfl); (case hy205 => ((intro w hSw); (try dsimp only at hSw); go_simp; (try with_reducible rfl)))
             (try simp only [Act.put, List.setIfInBounds_toArray, List.set_cons_zero, List.set_cons_succ])
             clear hHeld
             refine wpAnyH_ready (rs := [10]) (by kernel_rfl) (by simp) ?_
             refine AllReadyH.cons (o := ?oi207) ?hi207 (fun K hK => ?rest207) AllReadyH.nil
             (case hi207 => (simp only [List.getElem?_toArray, List.getElem?_cons_succ, List.getElem?_cons_zero]; rfl))
             go_simp
             obtain ⟨wz208, hwy⟩ : ∃ W, W = wz198.alloc (.cells #[.slice none 0 0] 55) := ⟨_, rfl⟩
             rw [← hwy]
             have hb : Below wz198.heap.size wz198 wz208 := by rw [hwy]; exact below_new1 _ _
             have xc0 : wz208.cell? ⟨wz198.heap.size, 0, none⟩ = some (.slice none 0 0) := by rw [hwy, World.cell?_alloc_at _ _ _ _ rfl]; rfl
             have xf0 : wz208.frozen? ⟨wz198.heap.size, 0, none⟩ = false := by rw [hwy]; exact World.frozen?_alloc_at _ _ _ _ rfl
             have xt : Tag wz208 wz198.heap.size 55 := by rw [hwy]; exact tag_new _ _ _
             have xz : wz198.heap.size < wz208.heap.size := by rw [hwy]; simp
             have xl := LO
             replace HW := Lib.hid (below_step HW.out hb)
             replace s0 := cel_below hb s0
             replace s1 := cel_below hb s1
             replace s2 := cel_below hb s2
             replace s3 := cel_below hb s3
             replace s4 := cel_below hb s4
             replace s5 := cel_below hb s5
             replace s6 := cel_below hb s6
             replace s7 := cel_below hb s7
             replace s8 := cel_below hb s8
             replace s9 := cel_below hb s9
             replace s10 := cel_below hb s10
             replace s11 := cel_below hb s11
             replace s12 := cel_below hb s12
             replace s13 := cel_below hb s13
             replace ec0 := cel_below hb ec0
             replace ef0 := fro_below hb ez ef0
             replace ec1 := cel_below hb ec1
             replace ef1 := fro_below hb ez ef1
             replace et := tag_below et hb
             have exn : wy0.heap.size ≠ wz198.heap.size := by omega
             replace ez := lt_below hb ez
             replace HMx := Lib.hid (hasInts_keep HMx.out hb)
             replace HX1 := Lib.hid (hasInts_keep HX1.out hb)
             replace LO := Nat.le_trans LO hb.size
             clear hb hwy
             refine hK.out _ _ ?_ (fun _ => ?_)
             · (try dsimp only); exact ⟨s0, s1, s2, s3, s4, s5, s6, s7, s8, s9, s10, s11, s12, s13⟩
             clear hK K
             (try simp only [Act.put, List.setIfInBounds_toArray, List.set_cons_zero, List.set_cons_succ])
             refine wpAnyH_ready (rs := [12]) (by kernel_rfl) (by simp) ?_
             refine AllReadyH.cons (o := ?oi209) ?hi209 (fun K hK => ?rest209) AllReadyH.nil
             (case hi209 => (simp only [List.getElem?_toArray, List.getElem?_cons_succ, List.getElem?_cons_zero]; rfl))
             go_simp
             obtain ⟨wz210, hwy⟩ : ∃ W, W = (wz208.setCell ⟨wz198.heap.size, 0, none⟩ (.slice a4 16 c4)) := ⟨_, rfl⟩
             rw [← hwy]
             have kp : ∀ {b' o' : Nat} {u : Value}, wz208.cell? ⟨b', o', none⟩ = some u → wz198.heap.size ≠ b' → wz210.cell? ⟨b', o', none⟩ = some u := fun h hn => by rw [hwy]; exact keepA_ (h) (Or.inl hn)
             replace s0 := kp s0 (by omega)
             replace s1 := kp s1 (by omega)
             replace s2 := kp s2 (by omega)
             replace s3 := kp s3 (by omega)
             replace s4 := kp s4 (by omega)
             replace s5 := kp s5 (by omega)
             replace s6 := kp s6 (by omega)
             replace s7 := kp s7 (by omega)
             replace s8 := kp s8 (by omega)
             replace s9 := kp s9 (by omega)
             replace s10 := kp s10 (by omega)
             replace s11 := kp s11 (by omega)
             replace s12 := kp s12 (by omega)
             replace s13 := kp s13 (by omega)
             clear kp
             replace ec0 : wz210.cell? ⟨wy0.heap.size, 0, none⟩ = some (.int .i64 0) := by rw [hwy]; exact keepA_ (ec0) (Or.inl (by omega))
             replace ef0 : wz210.frozen? ⟨wy0.heap.size, 0, none⟩ = false := by rw [hwy]; simpa using ef0
             replace ec1 : wz210.cell? ⟨wy0.heap.size, 1, none⟩ = some (.bool false) := by rw [hwy]; exact keepA_ (ec1) (Or.inl (by omega))
             replace ef1 : wz210.frozen? ⟨wy0.heap.size, 1, none⟩ = false := by rw [hwy]; simpa using ef1
             replace HMx : Hid (HasInts wz210 (.slice am 16 cm) (laidZ 2 s o)) := Lib.hid (by rw [hwy]; exact (hasInts_setS HMx.out xc0 (u := .slice a4 16 c4)))
             replace HX1 : Hid (HasInts wz210 (.slice a4 16 c4) (laidZ 2 s o)) := Lib.hid (by rw [hwy]; exact (hasInts_setS HX1.out xc0 (u := .slice a4 16 c4)))
             have xd0 : wz210.cell? ⟨wz198.heap.size, 0, none⟩ = some (.slice a4 16 c4) := by rw [hwy]; exact World.cell?_setCell_same _ _ _ xc0
             replace et : Tag wz210 wy0.heap.size 85 := by rw [hwy]; exact (tag_set et _ _)
             replace xt : Tag wz210 wz198.heap.size 55 := by rw [hwy]; exact (tag_set xt _ _)
             replace xf0 : wz210.frozen? ⟨wz198.heap.size, 0, none⟩ = false := by rw [hwy]; simpa using xf0
             replace HW := Lib.hid (Below.setCell (p := ⟨wz198.heap.size, 0, none⟩) HW.out (by have := HWS.out; dsimp only; omega) (.slice a4 16 c4))
             rw [← hwy] at HW
             have hsz : wz210.heap.size = wz208.heap.size := by rw [hwy]; simp
             replace ez : wy0.heap.size < wz210.heap.size := by omega
             replace xz : wz198.heap.size < wz210.heap.size := by omega
             replace LO : _ ≤ wz210.heap.size := Nat.le_trans LO (Nat.le_of_eq hsz.symm)
             clear hsz hwy xc0
             have xc0 := xd0
             clear xd0
             refine hK.out _ _ ?_ (fun _ => ?_)
             · (try dsimp only); exact ⟨s0, s1, s2, s3, s4, s5, s6, s7, s8, s9, s10, s11, s12, s13⟩
             clear hK K
             (try simp only [Act.put, List.setIfInBounds_toArray, List.set_cons_zero, List.set_cons_succ])
             refine wpAnyH_ready (rs := [13]) (by kernel_rfl) (by simp) ?_
             refine AllReadyH.cons (o := ?oi211) ?hi211 (fun K hK => ?rest211) AllReadyH.nil
             (case hi211 => (simp only [List.getElem?_toArray, List.getElem?_cons_succ, List.getElem?_cons_zero]; rfl))
             go_simp
             obtain ⟨wz212, hwy⟩ : ∃ W, W = ((wz210.setCell ⟨wy0.heap.size, 0, none⟩ (.int .i64 r4)).setCell ⟨wy0.heap.size, 1, none⟩ (.bool b4)) := ⟨_, rfl⟩
             rw [← hwy]
             have kp : ∀ {b' o' : Nat} {u : Value}, wz210.cell? ⟨b', o', none⟩ = some u → wy0.heap.size ≠ b' → wz212.cell? ⟨b', o', none⟩ = some u := fun h hn => by rw [hwy]; exact keepA_ (keepA_ (h) (Or.inl hn)) (Or.inl hn)
             replace s0 := kp s0 (by omega)
             replace s1 := kp s1 (by omega)
             replace s2 := kp s2 (by omega)
             replace s3 := kp s3 (by omega)
             replace s4 := kp s4 (by omega)
             replace s5 := kp s5 (by omega)
             replace s6 := kp s6 (by omega)
             replace s7 := kp s7 (by omega)
             replace s8 := kp s8 (by omega)
             replace s9 := kp s9 (by omega)
             replace s10 := kp s10 (by omega)
             replace s11 := kp s11 (by omega)
             replace s12 := kp s12 (by omega)
             replace s13 := kp s13 (by omega)
             clear kp
             replace xc0 : wz212.cell? ⟨wz198.heap.size, 0, none⟩ = some (.slice a4 16 c4) := by rw [hwy]; exact keepA_ (keepA_ (xc0) (Or.inl (by omega))) (Or.inl (by omega))
             replace xf0 : wz212.frozen? ⟨wz198.heap.size, 0, none⟩ = false := by rw [hwy]; simpa using xf0
             replace HMx : Hid (HasInts wz212 (.slice am 16 cm) (laidZ 2 s o)) := Lib.hid (by rw [hwy]; exact hasInts_res HMx.out (by simp [laidZ]) ec1)
             replace HX1 : Hid (HasInts wz212 (.slice a4 16 c4) (laidZ 2 s o)) := Lib.hid (by rw [hwy]; exact hasInts_res HX1.out (by simp [laidZ]) ec1)
             have ed0 : wz212.cell? ⟨wy0.heap.size, 0, none⟩ = some (.int .i64 r4) := by rw [hwy]; exact keepA_ (World.cell?_setCell_same _ _ _ ec0) (Or.inr (by simp))
             have ed1 : wz212.cell? ⟨wy0.heap.size, 1, none⟩ = some (.bool b4) := by rw [hwy]; exact World.cell?_setCell_same _ _ _ (keepA_ ec1 (Or.inr (by simp)))
             replace et : Tag wz212 wy0.heap.size 85 := by rw [hwy]; exact (tag_set (tag_set et _ _) _ _)
             replace xt : Tag wz212 wz198.heap.size 55 := by rw [hwy]; exact (tag_set (tag_set xt _ _) _ _)
             replace ef0 : wz212.frozen? ⟨wy0.heap.size, 0, none⟩ = false := by rw [hwy]; simpa using ef0
             replace ef1 : wz212.frozen? ⟨wy0.heap.size, 1, none⟩ = false := by rw [hwy]; simpa using ef1
             replace HW := Lib.hid (Below.setCell (p := ⟨wy0.heap.size, 1, none⟩) (Below.setCell (p := ⟨wy0.heap.size, 0, none⟩) HW.out (by have := HWS.out; dsimp only; omega) (.int .i64 r4)) (by have := HWS.out; dsimp only; omega) (.bool b4))
             rw [← hwy] at HW
             have hsz : wz212.heap.size = wz210.heap.size := by rw [hwy]; simp
             replace ez : wy0.heap.size < wz212.heap.size := by omega
             replace xz : wz198.heap.size < wz212.heap.size := by omega
             replace LO : _ ≤ wz212.heap.size := Nat.le_trans LO (Nat.le_of_eq hsz.symm)
             clear hsz hwy ec0 ec1
             have ec0 := ed0
             clear ed0
             have ec1 := ed1
             clear ed1
             refine hK.out _ _ ?_ (fun _ => ?_)
             · (try dsimp only); exact ⟨s0, s1, s2, s3, s4, s5, s6, s7, s8, s9, s10, s11, s12, s13⟩
             clear hK K
             (try simp only [Act.put, List.setIfInBounds_toArray, List.set_cons_zero, List.set_cons_succ])
             have hHeld := And.intro s0 (And.intro s1 (And.intro s2 (And.intro s3 (And.intro s4 (And.intro s5 (And.intro s6 (And.intro s7 (And.intro s8 (And.intro s9 (And.intro s10 (And.intro s11 (And.intro s12 (s13)))))))))))))
             refine wpAnyH_take (i := 14) (oi := ?oi213) (v := ?v213) ?hi213 (by kernel_rfl) (by kernel_rfl) (by kernel_rfl) ?hQ213 (Or.inl ⟨?hw213, ?hy213⟩) (by assumption) ?rest213; (case hi213 => (simp only [List.getElem?_toArray, List.getElem?_cons_succ, List.getElem?_cons_zero]; rfl)); (case hQ213 => exact fun _ _ _ h => h); (case hw213 => rfl); (case hy213 => ((intro w hSw); (try dsimp only at hSw); go_simp; (try with_reducible rfl)))
             (try simp only [Act.put, List.setIfInBounds_toArray, List.set_cons_zero, List.set_cons_succ])
             clear hHeld
             refine wpAnyH_done (by kernel_rfl) ?_ _
             go_wp2_with fail
             go_meet
             exact ⟨wz198.heap.size, a4, c4, rfl, xc0, HX1.out, HMx.out, HW.out⟩
            case rest197 =>
             go_simp
             obtain ⟨wz215, hwy⟩ : ∃ W, W = wz193.alloc (.cells #[.slice none 0 0] 55) := ⟨_, rfl⟩
             rw [← hwy]
             have hb : Below wz193.heap.size wz193 wz215 := by rw [hwy]; exact below_new1 _ _
             have xc0 : wz215.cell? ⟨wz193.heap.size, 0, none⟩ = some (.slice none 0 0) := by rw [hwy, World.cell?_alloc_at _ _ _ _ rfl]; rfl
             have xf0 : wz215.frozen? ⟨wz193.heap.size, 0, none⟩ = false := by rw [hwy]; exact World.frozen?_alloc_at _ _ _ _ rfl
             have xt : Tag wz215 wz193.heap.size 55 := by rw [hwy]; exact tag_new _ _ _
             have xz : wz193.heap.size < wz215.heap.size := by rw [hwy]; simp
             have xl := LO
             replace HW := Lib.hid (below_step HW.out hb)
             replace s0 := cel_below hb s0
             replace s1 := cel_below hb s1
             replace s2 := cel_below hb s2
             replace s3 := cel_below hb s3
             replace s4 := cel_below hb s4
             replace s5 := cel_below hb s5
             replace s6 := cel_below hb s6
             replace s7 := cel_below hb s7
             replace s8 := cel_below hb s8
             replace s9 := cel_below hb s9
             replace s10 := cel_below hb s10
             replace s11 := cel_below hb s11
             replace s12 := cel_below hb s12
             replace s13 := cel_below hb s13
             replace ec0 := cel_below hb ec0
             replace ef0 := fro_below hb ez ef0
             replace ec1 := cel_below hb ec1
             replace ef1 := fro_below hb ez ef1
             replace et := tag_below et hb
             have exn : wy0.heap.size ≠ wz193.heap.size := by omega
             replace ez := lt_below hb ez
             replace HMx := Lib.hid (hasInts_keep HMx.out hb)
             replace HZx := Lib.hid (hasInts_keep HZx.out hb)
             replace LO := Nat.le_trans LO hb.size
             clear hb hwy
             refine hK.out _ _ ?_ (fun _ => ?_)
             · (try dsimp only); exact ⟨s0, s1, s2, s3, s4, s5, s6, s7, s8, s9, s10, s11, s12, s13⟩
             clear hK K
             (try simp only [Act.put, List.setIfInBounds_toArray, List.set_cons_zero, List.set_cons_succ])
             refine wpAnyH_ready (rs := [5]) (by kernel_rfl) (by simp) ?_
             refine AllReadyH.cons (o := ?oi216) ?hi216 (fun K hK => ?rest216) AllReadyH.nil
             (case hi216 => (simp only [List.getElem?_toArray, List.getElem?_cons_succ, List.getElem?_cons_zero]; rfl))
             go_simp
             ((with_reducible refine (HDo.out _ _ _ HZx.out).mono ?_); rintro e wz217 ⟨a4, c4, r4, b4, rfl, hq, hb⟩)
             replace HW := Lib.hid (below_step HW.out hb)
             replace s0 := cel_below hb s0
             replace s1 := cel_below hb s1
             replace s2 := cel_below hb s2
             replace s3 := cel_below hb s3
             replace s4 := cel_below hb s4
             replace s5 := cel_below hb s5
             replace s6 := cel_below hb s6
             replace s7 := cel_below hb s7
             replace s8 := cel_below hb s8
             replace s9 := cel_below hb s9
             replace s10 := cel_below hb s10
             replace s11 := cel_below hb s11
             replace s12 := cel_below hb s12
             replace s13 := cel_below hb s13
             replace ec0 := cel_below hb ec0
             replace ef0 := fro_below hb ez ef0
             replace ec1 := cel_below hb ec1
             replace ef1 := fro_below hb ez ef1
             replace ez := lt_below hb ez
             replace et := tag_below et hb
             replace xc0 := cel_below hb xc0
             replace xf0 := fro_below hb xz xf0
             replace xz := lt_below hb xz
             replace xt := tag_below xt hb
             replace HMx := Lib.hid (hasInts_keep HMx.out hb)
             replace HZx := Lib.hid (hasInts_keep HZx.out hb)
             have HX1 := Lib.hid hq
             clear hq
             replace LO := Nat.le_trans LO hb.size
             clear hb
             refine hK.out _ _ ?_ (fun _ => ?_)
             · (try dsimp only); exact ⟨s0, s1, s2, s3, s4, s5, s6, s7, s8, s9, s10, s11, s12, s13⟩
             clear hK K
             (try simp only [Act.put, List.setIfInBounds_toArray, List.set_cons_zero, List.set_cons_succ])
             have hHeld := And.intro s0 (And.intro s1 (And.intro s2 (And.intro s3 (And.intro s4 (And.intro s5 (And.intro s6 (And.intro s7 (And.intro s8 (And.intro s9 (And.intro s10 (And.intro s11 (And.intro s12 (s13)))))))))))))
             refine wpAnyH_take (i := 6) (oi := ?oi218) (v := ?v218) ?hi218 (by kernel_rfl) (by kernel_rfl) (by kernel_rfl) ?hQ218 (Or.inl ⟨?hw218, ?hy218⟩) (by assumption) ?rest218; (case hi218 => (simp only [List.getElem?_toArray, List.getElem?_cons_succ, List.getElem?_cons_zero]; rfl)); (case hQ218 => exact fun _ _ _ h => h); (case hw218 => rfl); (case hy218 => ((intro w hSw); (try dsimp only at hSw); go_simp; (try with_reducible rfl)))
             (try simp only [Act.put, List.setIfInBounds_toArray, List.set_cons_zero, List.set_cons_succ])
             refine wpAnyH_take (i := 7) (oi := ?oi220) (v := ?v220) ?hi220 (by kernel_rfl) (by kernel_rfl) (by kernel_rfl) ?hQ220 (Or.inl ⟨?hw220, ?hy220⟩) (by assumption) ?rest220; (case hi220 => (simp only [List.getElem?_toArray, List.getElem?_cons_succ, List.getElem?_cons_zero]; rfl)); (case hQ220 => exact fun _ _ _ h => h); (case hw220 => rfl); (case hy220 => ((intro w hSw); (try dsimp only at hSw); go_simp; (try with_reducible rfl)))
             (try simp only [Act.put, List.setIfInBounds_toArray, List.set_cons_zero, List.set_cons_succ])
             refine wpAnyH_take (i := 8) (oi := ?oi222) (v := ?v222) ?hi222 (by kernel_rfl) (by kernel_rfl) (by kernel_rfl) ?hQ222 (Or.inl ⟨?hw222, ?hy222⟩) (by assumption) ?rest222; (case hi222 => (simp only [List.getElem?_toArray, List.getElem?_cons_succ, List.getElem?_cons_zero]; rfl)); (case hQ222 => exact fun _ _ _ h => h); (case hw222 => rfl); (case hy222 => ((intro w hSw); (try dsimp only at hSw); go_simp; (try with_reducible rfl)))
             (try simp only [Act.put, List.setIfInBounds_toArray, List.set_cons_zero, List.set_cons_succ])
             refine wpAnyH_take (i := 9) (oi := ?oi224) (v := ?v224) ?hi224 (by kernel_rfl) (by kernel_rfl) (by kernel_rfl) ?hQ224 (Or.inl ⟨?hw224, ?hy224⟩) (by assumption) ?rest224; (case hi224 => (simp only [List.getElem?_toArray, List.getElem?_cons_succ, List.getElem?_cons_zero]; rfl)); (case hQ224 => exact fun _ _ _ h => h); (case hw224 => rfl); (case hy224 => ((intro w hSw); (try dsimp only at hSw); go_simp; (try with_reducible rfl)))
             (try simp only [Act.put, List.setIfInBounds_toArray, List.set_cons_zero, List.set_cons_succ])
             clear hHeld
             refine wpAnyH_ready (rs := [12]) (by kernel_rfl) (by simp) ?_
             refine AllReadyH.cons (o := ?oi226) ?hi226 (fun K hK => ?rest226) AllReadyH.nil
             (case hi226 => (simp only [List.getElem?_toArray, List.getElem?_cons_succ, List.getElem?_cons_zero]; rfl))
             go_simp
             obtain ⟨wz227, hwy⟩ : ∃ W, W = (wz217.setCell ⟨wz193.heap.size, 0, none⟩ (.slice a4 16 c4)) := ⟨_, rfl⟩
             rw [← hwy]
             have kp : ∀ {b' o' : Nat} {u : Value}, wz217.cell? ⟨b', o', none⟩ = some u → wz193.heap.size ≠ b' → wz227.cell? ⟨b', o', none⟩ = some u := fun h hn => by rw [hwy]; exact keepA_ (h) (Or.inl hn)
             replace s0 := kp s0 (by omega)
             replace s1 := kp s1 (by omega)
             replace s2 := kp s2 (by omega)
             replace s3 := kp s3 (by omega)
             replace s4 := kp s4 (by omega)
             replace s5 := kp s5 (by omega)
             replace s6 := kp s6 (by omega)
             replace s7 := kp s7 (by omega)
             replace s8 := kp s8 (by omega)
             replace s9 := kp s9 (by omega)
             replace s10 := kp s10 (by omega)
             replace s11 := kp s11 (by omega)
             replace s12 := kp s12 (by omega)
             replace s13 := kp s13 (by omega)
             clear kp
             replace ec0 : wz227.cell? ⟨wy0.heap.size, 0, none⟩ = some (.int .i64 0) := by rw [hwy]; exact keepA_ (ec0) (Or.inl (by omega))
             replace ef0 : wz227.frozen? ⟨wy0.heap.size, 0, none⟩ = false := by rw [hwy]; simpa using ef0
             replace ec1 : wz227.cell? ⟨wy0.heap.size, 1, none⟩ = some (.bool false) := by rw [hwy]; exact keepA_ (ec1) (Or.inl (by omega))
             replace ef1 : wz227.frozen? ⟨wy0.heap.size, 1, none⟩ = false := by rw [hwy]; simpa using ef1
             replace HMx : Hid (HasInts wz227 (.slice am 16 cm) (laidZ 2 s o)) := Lib.hid (by rw [hwy]; exact (hasInts_setS HMx.out xc0 (u := .slice a4 16 c4)))
             replace HX1 : Hid (HasInts wz227 (.slice a4 16 c4) (laidZ 2 s o)) := Lib.hid (by rw [hwy]; exact (hasInts_setS HX1.out xc0 (u := .slice a4 16 c4)))
             have xd0 : wz227.cell? ⟨wz193.heap.size, 0, none⟩ = some (.slice a4 16 c4) := by rw [hwy]; exact World.cell?_setCell_same _ _ _ xc0
             replace et : Tag wz227 wy0.heap.size 85 := by rw [hwy]; exact (tag_set et _ _)
             replace xt : Tag wz227 wz193.heap.size 55 := by rw [hwy]; exact (tag_set xt _ _)
             replace xf0 : wz227.frozen? ⟨wz193.heap.size, 0, none⟩ = false := by rw [hwy]; simpa using xf0
             replace HW := Lib.hid (Below.setCell (p := ⟨wz193.heap.size, 0, none⟩) HW.out (by have := HWS.out; dsimp only; omega) (.slice a4 16 c4))
             rw [← hwy] at HW
             have hsz : wz227.heap.size = wz217.heap.size := by rw [hwy]; simp
             replace ez : wy0.heap.size < wz227.heap.size := by omega
             replace xz : wz193.heap.size < wz227.heap.size := by omega
             replace LO : _ ≤ wz227.heap.size := Nat.le_trans LO (Nat.le_of_eq hsz.symm)
             clear hsz hwy xc0
             have xc0 := xd0
             clear xd0
             refine hK.out _ _ ?_ (fun _ => ?_)
             · (try dsimp only); exact ⟨s0, s1, s2, s3, s4, s5, s6, s7, s8, s9, s10, s11, s12, s13⟩
             clear hK K
             (try simp only [Act.put, List.setIfInBounds_toArray, List.set_cons_zero, List.set_cons_succ])
             refine wpAnyH_ready (rs := [13]) (by kernel_rfl) (by simp) ?_
             refine AllReadyH.cons (o := ?oi228) ?hi228 (fun K hK => ?rest228) AllReadyH.nil
             (case hi228 => (simp only [List.getElem?_toArray, List.getElem?_cons_succ, List.getElem?_cons_zero]; rfl))
             go_simp
             obtain ⟨wz229, hwy⟩ : ∃ W, W = ((wz227.setCell ⟨wy0.heap.size, 0, none⟩ (.int .i64 r4)).setCell ⟨wy0.heap.size, 1, none⟩ (.bool b4)) := ⟨_, rfl⟩
             rw [← hwy]
             have kp : ∀ {b' o' : Nat} {u : Value}, wz227.cell? ⟨b', o', none⟩ = some u → wy0.heap.size ≠ b' → wz229.cell? ⟨b', o', none⟩ = some u := fun h hn => by rw [hwy]; exact keepA_ (keepA_ (h) (Or.inl hn)) (Or.inl hn)
             replace s0 := kp s0 (by omega)
             replace s1 := kp s1 (by omega)
             replace s2 := kp s2 (by omega)
             replace s3 := kp s3 (by omega)
             replace s4 := kp s4 (by omega)
             replace s5 := kp s5 (by omega)
             replace s6 := kp s6 (by omega)
             replace s7 := kp s7 (by omega)
             replace s8 := kp s8 (by omega)
             replace s9 := kp s9 (by omega)
             replace s10 := kp s10 (by omega)
             replace s11 := kp s11 (by omega)
             replace s12 := kp s12 (by omega)
             replace s13 := kp s13 (by omega)
             clear kp
             replace xc0 : wz229.cell? ⟨wz193.heap.size, 0, none⟩ = some (.slice a4 16 c4) := by rw [hwy]; exact keepA_ (keepA_ (xc0) (Or.inl (by omega))) (Or.inl (by omega))
             replace xf0 : wz229.frozen? ⟨wz193.heap.size, 0, none⟩ = false := by rw [hwy]; simpa using xf0
             replace HMx : Hid (HasInts wz229 (.slice am 16 cm) (laidZ 2 s o)) := Lib.hid (by rw [hwy]; exact hasInts_res HMx.out (by simp [laidZ]) ec1)
             replace HX1 : Hid (HasInts wz229 (.slice a4 16 c4) (laidZ 2 s o)) := Lib.hid (by rw [hwy]; exact hasInts_res HX1.out (by simp [laidZ]) ec1)
             have ed0 : wz229.cell? ⟨wy0.heap.size, 0, none⟩ = some (.int .i64 r4) := by rw [hwy]; exact keepA_ (World.cell?_setCell_same _ _ _ ec0) (Or.inr (by simp))
             have ed1 : wz229.cell? ⟨wy0.heap.size, 1, none⟩ = some (.bool b4) := by rw [hwy]; exact World.cell?_setCell_same _ _ _ (keepA_ ec1 (Or.inr (by simp)))
             replace et : Tag wz229 wy0.heap.size 85 := by rw [hwy]; exact (tag_set (tag_set et _ _) _ _)
             replace xt : Tag wz229 wz193.heap.size 55 := by rw [hwy]; exact (tag_set (tag_set xt _ _) _ _)
             replace ef0 : wz229.frozen? ⟨wy0.heap.size, 0, none⟩ = false := by rw [hwy]; simpa using ef0
             replace ef1 : wz229.frozen? ⟨wy0.heap.size, 1, none⟩ = false := by rw [hwy]; simpa using ef1
             replace HW := Lib.hid (Below.setCell (p := ⟨wy0.heap.size, 1, none⟩) (Below.setCell (p := ⟨wy0.heap.size, 0, none⟩) HW.out (by have := HWS.out; dsimp only; omega) (.int .i64 r4)) (by have := HWS.out; dsimp only; omega) (.bool b4))
             rw [← hwy] at HW
             have hsz : wz229.heap.size = wz227.heap.size := by rw [hwy]; simp
             replace ez : wy0.heap.size < wz229.heap.size := by omega
             replace xz : wz193.heap.size < wz229.heap.size := by omega
             replace LO : _ ≤ wz229.heap.size := Nat.le_trans LO (Nat.le_of_eq hsz.symm)
             clear hsz hwy ec0 ec1
             have ec0 := ed0
             clear ed0
             have ec1 := ed1
             clear ed1
             refine hK.out _ _ ?_ (fun _ => ?_)
             · (try dsimp only); exact ⟨s0, s1, s2, s3, s4, s5, s6, s7, s8, s9, s10, s11, s12, s13⟩
             clear hK K
             (try simp only [Act.put, List.setIfInBounds_toArray, List.set_cons_zero, List.set_cons_succ])
             have hHeld := And.intro s0 (And.intro s1 (And.intro s2 (And.intro s3 (And.intro s4 (And.intro s5 (And.intro s6 (And.intro s7 (And.intro s8 (And.intro s9 (And.intro s10 (And.intro s11 (And.intro s12 (s13)))))))))))))
             refine wpAnyH_take (i := 14) (oi := ?oi230) (v := ?v230) ?hi230 (by kernel_rfl) (by kernel_rfl) (by kernel_rfl) ?hQ230 (Or.inl ⟨?hw230, ?hy230⟩) (by assumption) ?rest230; (case hi230 => (simp only [List.getElem?_toArray, List.getElem?_cons_succ, List.getElem?_cons_zero]; rfl)); (case hQ230 => exact fun _ _ _ h => h); (case hw230 => rfl); (case hy230 => ((intro w hSw); (try dsimp only at hSw); go_simp; (try with_reducible rfl)))
             (try simp only [Act.put, List.setIfInBounds_toArray, List.set_cons_zero, List.set_cons_succ])
             clear hHeld
             refine wpAnyH_done (by kernel_rfl) ?_ _
             go_wp2_with fail
             go_meet
             exact ⟨wz193.heap.size, a4, c4, rfl, xc0, HX1.out, HMx.out, HW.out⟩
           case rest192 =>
            go_simp
            obtain ⟨wz232, hwy⟩ : ∃ W, W = wz190.alloc (.cells #[.slice none 0 0] 55) := ⟨_, rfl⟩
            rw [← hwy]
            have hb : Below wz190.heap.size wz190 wz232 := by rw [hwy]; exact below_new1 _ _
            have xc0 : wz232.cell? ⟨wz190.heap.size, 0, none⟩ = some (.slice none 0 0) := by rw [hwy, World.cell?_alloc_at _ _ _ _ rfl]; rfl
            have xf0 : wz232.frozen? ⟨wz190.heap.size, 0, none⟩ = false := by rw [hwy]; exact World.frozen?_alloc_at _ _ _ _ rfl
            have xt : Tag wz232 wz190.heap.size 55 := by rw [hwy]; exact tag_new _ _ _
            have xz : wz190.heap.size < wz232.heap.size := by rw [hwy]; simp
            have xl := LO
            replace HW := Lib.hid (below_step HW.out hb)
            replace s0 := cel_below hb s0
            replace s1 := cel_below hb s1
            replace s2 := cel_below hb s2
            replace s3 := cel_below hb s3
            replace s4 := cel_below hb s4
            replace s5 := cel_below hb s5
            replace s6 := cel_below hb s6
            replace s7 := cel_below hb s7
            replace s8 := cel_below hb s8
            replace s9 := cel_below hb s9
            replace s10 := cel_below hb s10
            replace s11 := cel_below hb s11
            replace s12 := cel_below hb s12
            replace s13 := cel_below hb s13
            replace ec0 := cel_below hb ec0
            replace ef0 := fro_below hb ez ef0
            replace ec1 := cel_below hb ec1
            replace ef1 := fro_below hb ez ef1
            replace et := tag_below et hb
            have exn : wy0.heap.size ≠ wz190.heap.size := by omega
            replace ez := lt_below hb ez
            replace HMx := Lib.hid (hasInts_keep HMx.out hb)
            replace HZx := Lib.hid (hasInts_keep HZx.out hb)
            replace LO := Nat.le_trans LO hb.size
            clear hb hwy
            refine hK.out _ _ ?_ (fun _ => ?_)
            · (try dsimp only); exact ⟨s0, s1, s2, s3, s4, s5, s6, s7, s8, s9, s10, s11, s12, s13⟩
            clear hK K
            (try simp only [Act.put, List.setIfInBounds_toArray, List.set_cons_zero, List.set_cons_succ])
            refine wpAnyH_ready (rs := [2]) (by kernel_rfl) (by simp) ?_
            refine AllReadyH.cons (o := ?oi233) ?hi233 (fun K hK => ?rest233) AllReadyH.nil
            (case hi233 => (simp only [List.getElem?_toArray, List.getElem?_cons_succ, List.getElem?_cons_zero]; rfl))
            go_simp
            ((with_reducible refine (HL2.out _).mono ?_); rintro e wz234 ⟨rfl, hb⟩)
            replace HW := Lib.hid (below_step HW.out hb)
            replace s0 := cel_below hb s0
            replace s1 := cel_below hb s1
            replace s2 := cel_below hb s2
            replace s3 := cel_below hb s3
            replace s4 := cel_below hb s4
            replace s5 := cel_below hb s5
            replace s6 := cel_below hb s6
            replace s7 := cel_below hb s7
            replace s8 := cel_below hb s8
            replace s9 := cel_below hb s9
            replace s10 := cel_below hb s10
            replace s11 := cel_below hb s11
            replace s12 := cel_below hb s12
            replace s13 := cel_below hb s13
            replace ec0 := cel_below hb ec0
            replace ef0 := fro_below hb ez ef0
            replace ec1 := cel_below hb ec1
            replace ef1 := fro_below hb ez ef1
            replace ez := lt_below hb ez
            replace et := tag_below et hb
            replace xc0 := cel_below hb xc0
            replace xf0 := fro_below hb xz xf0
            replace xz := lt_below hb xz
            replace xt := tag_below xt hb
            replace HMx := Lib.hid (hasInts_keep HMx.out hb)
            replace HZx := Lib.hid (hasInts_keep HZx.out hb)
            replace LO := Nat.le_trans LO hb.size
            clear hb
            refine hK.out _ _ ?_ (fun _ => ?_)
            · (try dsimp only); exact ⟨s0, s1, s2, s3, s4, s5, s6, s7, s8, s9, s10, s11, s12, s13⟩
            clear hK K
            (try simp only [Act.put, List.setIfInBounds_toArray, List.set_cons_zero, List.set_cons_succ])
            have hHeld := And.intro s0 (And.intro s1 (And.intro s2 (And.intro s3 (And.intro s4 (And.intro s5 (And.intro s6 (And.intro s7 (And.intro s8 (And.intro s9 (And.intro s10 (And.intro s11 (And.intro s12 (s13)))))))))))))
            refine wpAnyH_take (i := 4) (oi := ?oi235) (v := ?v235) ?hi235 (by kernel_rfl) (by kernel_rfl) (by kernel_rfl) ?hQ235 (Or.inl ⟨?hw235, ?hy235⟩) (by assumption) ?rest235; (case hi235 => (simp only [List.getElem?_toArray, List.getElem?_cons_succ, List.getElem?_cons_zero]; rfl)); (case hQ235 => exact fun _ _ _ h => h); (case hw235 => rfl); (case hy235 => ((intro w hSw); (try dsimp only at hSw); go_simp; (try with_reducible rfl)))
            (try simp only [Act.put, List.setIfInBounds_toArray, List.set_cons_zero, List.set_cons_succ])
            clear hHeld
            refine wpAnyH_ready (rs := [5]) (by kernel_rfl) (by simp) ?_
            refine AllReadyH.cons (o := ?oi237) ?hi237 (fun K hK => ?rest237) AllReadyH.nil
            (case hi237 => (simp only [List.getElem?_toArray, List.getElem?_cons_succ, List.getElem?_cons_zero]; rfl))
            go_simp
            ((with_reducible refine (HDo.out _ _ _ HZx.out).mono ?_); rintro e wz238 ⟨a4, c4, r4, b4, rfl, hq, hb⟩)
            replace HW := Lib.hid (below_step HW.out hb)
            replace s0 := cel_below hb s0
            replace s1 := cel_below hb s1
            replace s2 := cel_below hb s2
            replace s3 := cel_below hb s3
            replace s4 := cel_below hb s4
            replace s5 := cel_below hb s5
            replace s6 := cel_below hb s6
            replace s7 := cel_below hb s7
            replace s8 := cel_below hb s8
            replace s9 := cel_below hb s9
            replace s10 := cel_below hb s10
            replace s11 := cel_below hb s11
            replace s12 := cel_below hb s12
            replace s13 := cel_below hb s13
            replace ec0 := cel_below hb ec0
            replace ef0 := fro_below hb ez ef0
            replace ec1 := cel_below hb ec1
            replace ef1 := fro_below hb ez ef1
            replace ez := lt_below hb ez
            replace et := tag_below et hb
            replace xc0 := cel_below hb xc0
            replace xf0 := fro_below hb xz xf0
            replace xz := lt_below hb xz
            replace xt := tag_below xt hb
            replace HMx := Lib.hid (hasInts_keep HMx.out hb)
            replace HZx := Lib.hid (hasInts_keep HZx.out hb)
            have HX1 := Lib.hid hq
            clear hq
            replace LO := Nat.le_trans LO hb.size
            clear hb
            refine hK.out _ _ ?_ (fun _ => ?_)
            · (try dsimp only); exact ⟨s0, s1, s2, s3, s4, s5, s6, s7, s8, s9, s10, s11, s12, s13⟩
            clear hK K
            (try simp only [Act.put, List.setIfInBounds_toArray, List.set_cons_zero, List.set_cons_succ])
            have hHeld := And.intro s0 (And.intro s1 (And.intro s2 (And.intro s3 (And.intro s4 (And.intro s5 (And.intro s6 (And.intro s7 (And.intro s8 (And.intro s9 (And.intro s10 (And.intro s11 (And.intro s12 (s13)))))))))))))
            refine wpAnyH_take (i := 6) (oi := ?oi239) (v := ?v239) ?hi239 (by kernel_rfl) (by kernel_rfl) (by kernel_rfl) ?hQ239 (Or.inl ⟨?hw239, ?hy239⟩) (by assumption) ?rest239; (case hi239 => (simp only [List.getElem?_toArray, List.getElem?_cons_succ, List.getElem?_cons_zero]; rfl)); (case hQ239 => exact fun _ _ _ h => h); (case hw239 => rfl); (case hy239 => ((intro w hSw); (try dsimp only at hSw); go_simp; (try with_reducible rfl)))
            (try simp only [Act.put, List.setIfInBounds_toArray, List.set_cons_zero, List.set_cons_succ])
            refine wpAnyH_take (i := 7) (oi := ?oi241) (v := ?v241) ?hi241 (by kernel_rfl) (by kernel_rfl) (by kernel_rfl) ?hQ241 (Or.inl ⟨?hw241, ?hy241⟩) (by assumption) ?rest241; (case hi241 => (simp only [List.getElem?_toArray, List.getElem?_cons_succ, List.getElem?_cons_zero]; rfl)); (case hQ241 => exact fun _ _ _ h => h); (case hw241 => rfl); (case hy241 => ((intro w hSw); (try dsimp only at hSw); go_simp; (try with_reducible rfl)))
            (try simp only [Act.put, List.setIfInBounds_toArray, List.set_cons_zero, List.set_cons_succ])
            refine wpAnyH_take (i := 8) (oi := ?oi243) (v := ?v243) ?hi243 (by kernel_rfl) (by kernel_rfl) (by kernel_rfl) ?hQ243 (Or.inl ⟨?hw243, ?hy243⟩) (by assumption) ?rest243; (case hi243 => (simp only [List.getElem?_toArray, List.getElem?_cons_succ, List.getElem?_cons_zero]; rfl)); (case hQ243 => exact fun _ _ _ h => h); (case hw243 => rfl); (case hy243 => ((intro w hSw); (try dsimp only at hSw); go_simp; (try with_reducible rfl)))
            (try simp only [Act.put, List.setIfInBounds_toArray, List.set_cons_zero, List.set_cons_succ])
            refine wpAnyH_take (i := 9) (oi := ?oi245) (v := ?v245) ?hi245 (by kernel_rfl) (by kernel_rfl) (by kernel_rfl) ?hQ245 (Or.inl ⟨?hw245, ?hy245⟩) (by assumption) ?rest245; (case hi245 => (simp only [List.getElem?_toArray, List.getElem?_cons_succ, List.getElem?_cons_zero]; rfl)); (case hQ245 => exact fun _ _ _ h => h); (case hw245 => rfl); (case hy245 => ((intro w hSw); (try dsimp only at hSw); go_simp; (try with_reducible rfl)))
            (try simp only [Act.put, List.setIfInBounds_toArray, List.set_cons_zero, List.set_cons_succ])
            clear hHeld
            refine wpAnyH_ready (rs := [12]) (by kernel_rfl) (by simp) ?_
            refine AllReadyH.cons (o := ?oi247) ?hi247 (fun K hK => ?rest247) AllReadyH.nil
            (case hi247 => (simp only [List.getElem?_toArray, List.getElem?_cons_succ, List.getElem?_cons_zero]; rfl))
            go_simp
            obtain ⟨wz248, hwy⟩ : ∃ W, W = (wz238.setCell ⟨wz190.heap.size, 0, none⟩ (.slice a4 16 c4)) := ⟨_, rfl⟩
            rw [← hwy]
            have kp : ∀ {b' o' : Nat} {u : Value}, wz238.cell? ⟨b', o', none⟩ = some u → wz190.heap.size ≠ b' → wz248.cell? ⟨b', o', none⟩ = some u := fun h hn => by rw [hwy]; exact keepA_ (h) (Or.inl hn)
            replace s0 := kp s0 (by omega)
            replace s1 := kp s1 (by omega)
            replace s2 := kp s2 (by omega)
            replace s3 := kp s3 (by omega)
            replace s4 := kp s4 (by omega)
            replace s5 := kp s5 (by omega)
            replace s6 := kp s6 (by omega)
            replace s7 := kp s7 (by omega)
            replace s8 := kp s8 (by omega)
            replace s9 := kp s9 (by omega)
            replace s10 := kp s10 (by omega)
            replace s11 := kp s11 (by omega)
            replace s12 := kp s12 (by omega)
            replace s13 := kp s13 (by omega)
            clear kp
            replace ec0 : wz248.cell? ⟨wy0.heap.size, 0, none⟩ = some (.int .i64 0) := by rw [hwy]; exact keepA_ (ec0) (Or.inl (by omega))
            replace ef0 : wz248.frozen? ⟨wy0.heap.size, 0, none⟩ = false := by rw [hwy]; simpa using ef0
            replace ec1 : wz248.cell? ⟨wy0.heap.size, 1, none⟩ = some (.bool false) := by rw [hwy]; exact keepA_ (ec1) (Or.inl (by omega))
            replace ef1 : wz248.frozen? ⟨wy0.heap.size, 1, none⟩ = false := by rw [hwy]; simpa using ef1
            replace HMx : Hid (HasInts wz248 (.slice am 16 cm) (laidZ 2 s o)) := Lib.hid (by rw [hwy]; exact (hasInts_setS HMx.out xc0 (u := .slice a4 16 c4)))
            replace HX1 : Hid (HasInts wz248 (.slice a4 16 c4) (laidZ 2 s o)) := Lib.hid (by rw [hwy]; exact (hasInts_setS HX1.out xc0 (u := .slice a4 16 c4)))
            have xd0 : wz248.cell? ⟨wz190.heap.size, 0, none⟩ = some (.slice a4 16 c4) := by rw [hwy]; exact World.cell?_setCell_same _ _ _ xc0
            replace et : Tag wz248 wy0.heap.size 85 := by rw [hwy]; exact (tag_set et _ _)
            replace xt : Tag wz248 wz190.heap.size 55 := by rw [hwy]; exact (tag_set xt _ _)
            replace xf0 : wz248.frozen? ⟨wz190.heap.size, 0, none⟩ = false := by rw [hwy]; simpa using xf0
            replace HW := Lib.hid (Below.setCell (p := ⟨wz190.heap.size, 0, none⟩) HW.out (by have := HWS.out; dsimp only; omega) (.slice a4 16 c4))
            rw [← hwy] at HW
            have hsz : wz248.heap.size = wz238.heap.size := by rw [hwy]; simp
            replace ez : wy0.heap.size < wz248.heap.size := by omega
            replace xz : wz190.heap.size < wz248.heap.size := by omega
            replace LO : _ ≤ wz248.heap.size := Nat.le_trans LO (Nat.le_of_eq hsz.symm)
            clear hsz hwy xc0
            have xc0 := xd0
            clear xd0
            refine hK.out _ _ ?_ (fun _ => ?_)
            · (try dsimp only); exact ⟨s0, s1, s2, s3, s4, s5, s6, s7, s8, s9, s10, s11, s12, s13⟩
            clear hK K
            (try simp only [Act.put, List.setIfInBounds_toArray, List.set_cons_zero, List.set_cons_succ])
            refine wpAnyH_ready (rs := [13]) (by kernel_rfl) (by simp) ?_
            refine AllReadyH.cons (o := ?oi249) ?hi249 (fun K hK => ?rest249) AllReadyH.nil
            (case hi249 => (simp only [List.getElem?_toArray, List.getElem?_cons_succ, List.getElem?_cons_zero]; rfl))
            go_simp
            obtain ⟨wz250, hwy⟩ : ∃ W, W = ((wz248.setCell ⟨wy0.heap.size, 0, none⟩ (.int .i64 r4)).setCell ⟨wy0.heap.size, 1, none⟩ (.bool b4)) := ⟨_, rfl⟩
            rw [← hwy]
            have kp : ∀ {b' o' : Nat} {u : Value}, wz248.cell? ⟨b', o', none⟩ = some u → wy0.heap.size ≠ b' → wz250.cell? ⟨b', o', none⟩ = some u := fun h hn => by rw [hwy]; exact keepA_ (keepA_ (h) (Or.inl hn)) (Or.inl hn)
            replace s0 := kp s0 (by omega)
            replace s1 := kp s1 (by omega)
            replace s2 := kp s2 (by omega)
            replace s3 := kp s3 (by omega)
            replace s4 := kp s4 (by omega)
            replace s5 := kp s5 (by omega)
            replace s6 := kp s6 (by omega)
            replace s7 := kp s7 (by omega)
            replace s8 := kp s8 (by omega)
            replace s9 := kp s9 (by omega)
            replace s10 := kp s10 (by omega)
            replace s11 := kp s11 (by omega)
            replace s12 := kp s12 (by omega)
            replace s13 := kp s13 (by omega)
            clear kp
            replace xc0 : wz250.cell? ⟨wz190.heap.size, 0, none⟩ = some (.slice a4 16 c4) := by rw [hwy]; exact keepA_ (keepA_ (xc0) (Or.inl (by omega))) (Or.inl (by omega))
            replace xf0 : wz250.frozen? ⟨wz190.heap.size, 0, none⟩ = false := by rw [hwy]; simpa using xf0
            replace HMx : Hid (HasInts wz250 (.slice am 16 cm) (laidZ 2 s o)) := Lib.hid (by rw [hwy]; exact hasInts_res HMx.out (by simp [laidZ]) ec1)
            replace HX1 : Hid (HasInts wz250 (.slice a4 16 c4) (laidZ 2 s o)) := Lib.hid (by rw [hwy]; exact hasInts_res HX1.out (by simp [laidZ]) ec1)
            have ed0 : wz250.cell? ⟨wy0.heap.size, 0, none⟩ = some (.int .i64 r4) := by rw [hwy]; exact keepA_ (World.cell?_setCell_same _ _ _ ec0) (Or.inr (by simp))
            have ed1 : wz250.cell? ⟨wy0.heap.size, 1, none⟩ = some (.bool b4) := by rw [hwy]; exact World.cell?_setCell_same _ _ _ (keepA_ ec1 (Or.inr (by simp)))
            replace et : Tag wz250 wy0.heap.size 85 := by rw [hwy]; exact (tag_set (tag_set et _ _) _ _)
            replace xt : Tag wz250 wz190.heap.size 55 := by rw [hwy]; exact (tag_set (tag_set xt _ _) _ _)
            replace ef0 : wz250.frozen? ⟨wy0.heap.size, 0, none⟩ = false := by rw [hwy]; simpa using ef0
            replace ef1 : wz250.frozen? ⟨wy0.heap.size, 1, none⟩ = false := by rw [hwy]; simpa using ef1
            replace HW := Lib.hid (Below.setCell (p := ⟨wy0.heap.size, 1, none⟩) (Below.setCell (p := ⟨wy0.heap.size, 0, none⟩) HW.out (by have := HWS.out; dsimp only; omega) (.int .i64 r4)) (by have := HWS.out; dsimp only; omega) (.bool b4))
            rw [← hwy] at HW
            have hsz : wz250.heap.size = wz248.heap.size := by rw [hwy]; simp
            replace ez : wy0.heap.size < wz250.heap.size := by omega
            replace xz : wz190.heap.size < wz250.heap.size := by omega
            replace LO : _ ≤ wz250.heap.size := Nat.le_trans LO (Nat.le_of_eq hsz.symm)
            clear hsz hwy ec0 ec1
            have ec0 := ed0
            clear ed0
            have ec1 := ed1
            clear ed1
            refine hK.out _ _ ?_ (fun _ => ?_)
            · (try dsimp only); exact ⟨s0, s1, s2, s3, s4, s5, s6, s7, s8, s9, s10, s11, s12, s13⟩
            clear hK K
            (try simp only [Act.put, List.setIfInBounds_toArray, List.set_cons_zero, List.set_cons_succ])
            have hHeld := And.intro s0 (And.intro s1 (And.intro s2 (And.intro s3 (And.intro s4 (And.intro s5 (And.intro s6 (And.intro s7 (And.intro s8 (And.intro s9 (And.intro s10 (And.intro s11 (And.intro s12 (s13)))))))))))))
            refine wpAnyH_take (i := 14) (oi := ?oi251) (v := ?v251) ?hi251 (by kernel_rfl) (by kernel_rfl) (by kernel_rfl) ?hQ251 (Or.inl ⟨?hw251, ?hy251⟩) (by assumption) ?rest251; (case hi251 => (simp only [List.getElem?_toArray, List.getElem?_cons_succ, List.getElem?_cons_zero]; rfl)); (case hQ251 => exact fun _ _ _ h => h); (case hw251 => rfl); (case hy251 => ((intro w hSw); (try dsimp only at hSw); go_simp; (try with_reducible rfl)))
            (try simp only [Act.put, List.setIfInBounds_toArray, List.set_cons_zero, List.set_cons_succ])
            clear hHeld
            refine wpAnyH_done (by kernel_rfl) ?_ _
            go_wp2_with fail
            go_meet
            exact ⟨wz190.heap.size, a4, c4, rfl, xc0, HX1.out, HMx.out, HW.out⟩
        case rest =>
          obtain ⟨g, a4, c4, rfl, hx, hX, hMM, hb⟩ := hcut
          have f0 := cel_below hb s0
          have f1 := cel_below hb s1
          have f2 := cel_below hb s2
          have f3 := cel_below hb s3
          have f4 := cel_below hb s4
          have f5 := cel_below hb s5
          have f6 := cel_below hb s6
          have f7 := cel_below hb s7
          have f8 := cel_below hb s8
          have f9 := cel_below hb s9
          have f10 := cel_below hb s10
          have f11 := cel_below hb s11
          have f12 := cel_below hb s12
          have f13 := cel_below hb s13
          have f14 := cel_below hb s14
          have f15 := cel_below hb s15
          have f16 := cel_below hb s16
          have f17 := cel_below hb s17
          have f18 := cel_below hb s18
          have f19 := cel_below hb s19
          have f20 := cel_below hb s20
          have f21 := cel_below hb s21
          replace HW := Lib.hid (below_step HWr.out hb)
          have HX := Lib.hid hX
          have HM2 := Lib.hid hMM
          clear hb hX hMM
          have hqq : ∀ w, (binOp .eql 35 (.agg #[.int .i64 V, .int .i64 0, .int .i64 0, .int .i64 0, .bool false, .bool false, .int .i64 0]) (.agg #[.int .i64 V, .int .i64 0, .int .i64 0, .int .i64 0, .bool false, .bool false, .int .i64 0])).run Try.prog w = .ok (.bool true) w := out_eq V
          go_wp2_with (first | ((with_reducible refine (HSm.out _ _ _ _ _ HX.out HM2.out).mono ?_); rintro e w9 ⟨rfl, hb9⟩))
          go_ret
          exact ⟨rfl, below_step HW.out hb9⟩
theorem walk (w : World) (k : Int) (wk : (Lit.int .u8 k).wf = true) (ty : Int) (wt : (Lit.int .u8 ty).wf = true) (at_ : Int) (wa : (Lit.int .u8 at_).wf = true) (m : Ct) (ia : I64 m.s) (ib : I64 m.k) (ic : I64 m.a) (o : Ct) (ja : I64 o.s) (jb : I64 o.k) (jc : I64 o.a) (own : Bool) : Calls Try.prog 12 #[.int .u8 k, .int .u8 ty, .int .u8 at_, m.v, o.v, .bool own] w fun e w' => e = .returned (.bool true) ∧ Below w.heap.size w w' := by
  exact walk_own w k ty at_ (u8_of_wf wk) (u8_of_wf wt) (u8_of_wf wa) m o ja jb own

theorem own : ownKnob Try.prog.godebug = none := by kernel_rfl
theorem laidOut : laidOutB Try.prog = true := by kernel_rfl

set_option maxRecDepth 100000 in
theorem lifted (os : Os) (started : os.Started) (H : Type) (enc : TypeId × Value → H) :
    ReturnsInHanded {} Try.checked os 12 .any (Rows.managerDoomsSpec.pre6 enc Try.prog Try.f12 Rows.managerDoomsRow.domain false) (Rows.managerDoomsSpec.post enc Try.prog Try.f12 false true false false) := by
  refine returnsInHanded_of_change (C := Try.checked) own started (by kernel_rfl) Try.func12
    (ChangeSpec.witness6 (enc := enc) (C := Try.checked) false ⟨#[], #[.int .u8 0, .int .u8 0, .int .u8 0, .agg #[.int .i64 0, .int .i64 0, .int .i64 0], .agg #[.int .i64 0, .int .i64 0, .int .i64 0], .bool false], []⟩ 8 (by kernel_rfl) (by kernel_rfl) (by kernel_rfl) (by kernel_rfl)) ?_
  intro W base args ds gs before hval0 hW hcnd _
  have hval : ∀ (j : Nat) t v, Try.f12.params[j]? = some t → args[j]? = some v → Value.okWide Try.prog W .any base t v := hval0
  have hW' := hW
  obtain ⟨p, q, hA0, hV, rfl, hfz, hnd⟩ := hW
  have hA : DataW.TrodAll enc Try.prog W 0 (fun _ => true) true Try.f12.params.toList args.toList ds p := hA0
  rw [Try.params12] at hA hval
  obtain ⟨v0, vs0, d0, ds0, p0, q0, hargs, rfl, rfl, h0, r0⟩ := trodAll_cons hA
  obtain ⟨v1, vs1, d1, ds1, p1, q1, rfl, rfl, rfl, h1, r1⟩ := trodAll_cons r0
  obtain ⟨v2, vs2, d2, ds2, p2, q2, rfl, rfl, rfl, h2, r2⟩ := trodAll_cons r1
  obtain ⟨v3, vs3, d3, ds3, p3, q3, rfl, rfl, rfl, h3, r3⟩ := trodAll_cons r2
  obtain ⟨v4, vs4, d4, ds4, p4, q4, rfl, rfl, rfl, h4, r4⟩ := trodAll_cons r3
  obtain ⟨v5, vs5, d5, ds5, p5, q5, rfl, rfl, rfl, h5, r5⟩ := trodAll_cons r4
  obtain ⟨rfl, rfl, rfl⟩ := trodAll_nil r5
  obtain rfl : args = #[v0, v1, v2, v3, v4, v5] := by cases args; simp_all
  obtain ⟨rfl, rfl⟩ := trodVars_none hV
  clear hA0 hval0
  simp only [List.append_nil] at hW'
  have lt0 : ∀ x ∈ p0, x.block < W.heap.size := fun x hx => hW'.lt x (by simp [hx])
  have lt1 : ∀ x ∈ p1, x.block < W.heap.size := fun x hx => hW'.lt x (by simp [hx])
  have lt2 : ∀ x ∈ p2, x.block < W.heap.size := fun x hx => hW'.lt x (by simp [hx])
  have lt3 : ∀ x ∈ p3, x.block < W.heap.size := fun x hx => hW'.lt x (by simp [hx])
  have lt4 : ∀ x ∈ p4, x.block < W.heap.size := fun x hx => hW'.lt x (by simp [hx])
  have lt5 : ∀ x ∈ p5, x.block < W.heap.size := fun x hx => hW'.lt x (by simp [hx])
  have back0 : ∀ W', Below W.heap.size W W' → DataW.Trod enc Try.prog W' 0 (fun b => decide (b < W.heap.size)) true 5 v0 d0 p0 := fun W' hb => Below.trod laidOut (by kernel_rfl) (of_decide_eq_true (by kernel_rfl)) h0 hb lt0
  have back1 : ∀ W', Below W.heap.size W W' → DataW.Trod enc Try.prog W' 0 (fun b => decide (b < W.heap.size)) true 5 v1 d1 p1 := fun W' hb => Below.trod laidOut (by kernel_rfl) (of_decide_eq_true (by kernel_rfl)) h1 hb lt1
  have back2 : ∀ W', Below W.heap.size W W' → DataW.Trod enc Try.prog W' 0 (fun b => decide (b < W.heap.size)) true 5 v2 d2 p2 := fun W' hb => Below.trod laidOut (by kernel_rfl) (of_decide_eq_true (by kernel_rfl)) h2 hb lt2
  have back3 : ∀ W', Below W.heap.size W W' → DataW.Trod enc Try.prog W' 0 (fun b => decide (b < W.heap.size)) true 23 v3 d3 p3 := fun W' hb => Below.trod laidOut (by kernel_rfl) (of_decide_eq_true (by kernel_rfl)) h3 hb lt3
  have back4 : ∀ W', Below W.heap.size W W' → DataW.Trod enc Try.prog W' 0 (fun b => decide (b < W.heap.size)) true 23 v4 d4 p4 := fun W' hb => Below.trod laidOut (by kernel_rfl) (of_decide_eq_true (by kernel_rfl)) h4 hb lt4
  have back5 : ∀ W', Below W.heap.size W W' → DataW.Trod enc Try.prog W' 0 (fun b => decide (b < W.heap.size)) true 4 v5 d5 p5 := fun W' hb => Below.trod laidOut (by kernel_rfl) (of_decide_eq_true (by kernel_rfl)) h5 hb lt5
  obtain ⟨a0, rfl, rfl, rfl, w0⟩ := open_int Try.underlying5 (hval 0 5 v0 rfl rfl) h0
  obtain ⟨a1, rfl, rfl, rfl, w1⟩ := open_int Try.underlying5 (hval 1 5 v1 rfl rfl) h1
  obtain ⟨a2, rfl, rfl, rfl, w2⟩ := open_int Try.underlying5 (hval 2 5 v2 rfl rfl) h2
  obtain ⟨ct3, rfl, ia3, ib3, ic3⟩ := open_ct (hval 3 23 v3 rfl rfl) h3
  obtain ⟨ct4, rfl, ia4, ib4, ic4⟩ := open_ct (hval 4 23 v4 rfl rfl) h4
  obtain ⟨a5, rfl, rfl, rfl⟩ := open_bool Try.underlying4 (hval 5 4 v5 rfl rfl) h5
  refine (walk W a0 w0 a1 w1 a2 w2 ct3 ia3 ib3 ic3 ct4 ia4 ib4 ic4 a5).mono fun e W' ⟨he, hg⟩ => ?_
  subst he
  exact ⟨_, rfl, _, _, _, [], _, [], hW', (trodAll_cons_mk (shut_bool Try.underlying4 _) trodAll_mk0), (trodAll_cons_mk (back0 _ hg) (trodAll_cons_mk (back1 _ hg) (trodAll_cons_mk (back2 _ hg) (trodAll_cons_mk (back3 _ hg) (trodAll_cons_mk (back4 _ hg) (trodAll_cons_mk (back5 _ hg) trodAll_mk0)))))), rfl, hg.frame _, fun h => by cases h⟩

theorem over : Rows.managerDoomsRow.holds Try.pinned (OpenSpec.ofChange Rows.managerDoomsSpec) :=
  OpenClaim.holds_of_wide 12 Try.f12 rfl rfl rfl rfl rfl rfl rfl ⟨rfl, rfl, rfl, rfl, rfl⟩ rfl rfl rfl rfl rfl (by kernel_rfl) Try.func12 (by kernel_rfl)
    (of_decide_eq_true (by kernel_rfl)) (by unfold Func.isWrapper; first | (rw [if_pos (by decide +kernel)]; kernel_rfl) | (rw [if_neg (by decide +kernel)]; exact ⟨rfl, rfl⟩))
    (fun os started H enc _ => lifted os started H enc)

/-- The given statement. -/
theorem proved : Rows.ManagerDoomsSaid :=
  over
#print axioms proved
end Go.Proofs.Ytaclnaedinfhmaa.managerDooms
