/- ManagerNext: for every operation and every log, Next returns what the specification says. No condition. -/
import Derived.Test.YtaclnaedinfhmaaRows
import Derived.Test.YtaclnaedinfhmaaBase
import Derived.Test.YtaclnaedinfhmaaAux
import Derived.Test.YtaclnaedinfhmaaMgrA
import Derived.Test.YtaclnaedinfhmaaMgrO
import Derived.Test.YtaclnaedinfhmaaMgrT
import Derived.Outline
import Derived.Deep.RegionHeld3
import Derived.IntWalk
import Derived.Test.YtaclnaedinfhmaaMgrS
import Derived.Test.YtaclnaedinfhmaaMgrE
import Derived.Test.YtaclnaedinfhmaaMgrH
import Derived.Test.YtaclnaedinfhmaaNxtO
import Derived.WalkKit
import Derived.ProofKit
import Derived.OpenShut
import Derived.Lib.Hide
import Derived.Carry
namespace Go.Proofs.Ytaclnaedinfhmaa.managerNext
open Go.ChangeShapes Go.WideShapes Go.ChangeAt Go.RowKit
set_option linter.unusedVariables false

theorem wrap_u8 {n : Int} (h0 : 0 ≤ n) (h1 : n ≤ 255) : IntKind.u8.wrap n = n := by
  have h : 0 ≤ n ∧ n ≤ 255 := ⟨h0, h1⟩
  simp [IntKind.wrap, IntKind.bits, IntKind.signed]
  omega
theorem out_struct : Try.prog.underlying 35 = some (.struct (Try.prog.fieldsOf 35)) := by kernel_rfl
theorem out_held : Try.prog.stoodInHeld 35 = false := by kernel_rfl
theorem out_guard : Try.prog.eqGuardType Try.prog.depth 35 = false := by kernel_rfl
theorem acc_struct : Try.prog.underlying 32 = some (.struct (Try.prog.fieldsOf 32)) := by kernel_rfl
theorem acc_held : Try.prog.stoodInHeld 32 = false := by kernel_rfl
theorem acc_guard : Try.prog.eqGuardType Try.prog.depth 32 = false := by kernel_rfl
theorem out_eql (v0 v1 v2 v3 : Int) (b4 b5 : Bool) (v6 : Int) (w : World) : (binOp .eql 35 (.agg #[.int .i64 v0, .int .i64 v1, .int .i64 v2, .int .i64 v3, .bool b4, .bool b5, .int .i64 v6]) (.agg #[.int .i64 v0, .int .i64 v1, .int .i64 v2, .int .i64 v3, .bool b4, .bool b5, .int .i64 v6])).run Try.prog w = .ok (.bool true) w := by
  rw [run_eql_struct, show (10000 : Nat) = 9999 + 1 from rfl, run_equalIn_agg w 9999 35 _ _ out_struct out_held]
  have u3 := Try.underlying3
  have a3 := Try.isAgg3
  have z3 := Try.sizeOf3
  have u4 := Try.underlying4
  have a4 := Try.isAgg4
  have z4 := Try.sizeOf4
  have u5 := Try.underlying33
  have a5 := Try.isAgg33
  have z5 := Try.sizeOf33
  simp only [Program.fieldsOf, Try.underlying35]
  go_simp
theorem acc_eql (k c o n : Int) (s : ByteArray) (w : World) : (binOp .eql 32 (.agg #[.int .i64 k, .int .i64 c, .int .i64 o, .int .i64 n, .string s]) (.agg #[.int .i64 k, .int .i64 c, .int .i64 o, .int .i64 n, .string s])).run Try.prog w = .ok (.bool true) w := by
  rw [run_eql_struct, show (10000 : Nat) = 9999 + 1 from rfl, run_equalIn_agg w 9999 32 _ _ acc_struct acc_held]
  have u3 := Try.underlying3
  have a3 := Try.isAgg3
  have z3 := Try.sizeOf3
  have u4 := Try.underlying9
  have a4 := Try.isAgg9
  have z4 := Try.sizeOf9
  simp only [Program.fieldsOf, Try.underlying32]
  go_simp

set_option maxHeartbeats 8000000 in
set_option maxRecDepth 100000 in
theorem walk_b1 (w : World) (k me : Int) (hk : 0 ≤ k ∧ k ≤ 255) (hm : 0 ≤ me ∧ me ≤ 255) (kind a b ty : Int) (m : Ct) (sa wa da : Option Addr) (sl sc wl wc dl dc : Nat) (la : Option Addr) (lc : Nat) (l : List (Int × Bool)) (hv : LogOf w (.slice la l.length lc) l) (hI : ∀ x ∈ l, I64 x.1) (q0 : decide ((10 : Int) < (l.length : Int)) = true) : Calls Try.prog 9 #[.int .u8 k, .int .u8 me, .agg #[.int .i64 kind, .int .i64 a, .int .i64 b, .int .i64 ty, .int .i64 m.s, .int .i64 m.k, .int .i64 m.a, .slice sa sl sc, .slice wa wl wc, .slice da dl dc], .slice la l.length lc] w fun e w' => e = .returned (.bool true) ∧ Below w.heap.size w w' := by
  clear hv hI hk hm
  go_enter Try.func9, Try.ntmps9
  go_wp2_with fail
  ((with_reducible refine (sane17_any _).mono ?_); rintro e w1 ⟨rfl, hb⟩)
  have HW := Lib.hid (below_alloc1 hb)
  have zz : w.heap.size + 1 ≤ w1.heap.size := by have := hb.size; (try simp at this); omega
  have oq0 : w1.cell? ⟨w.heap.size, 0, none⟩ = some (.int .i64 kind) := cel_below hb (by rw [World.cell?_alloc_at _ _ _ _ (by simp)]; rfl)
  have oq1 : w1.cell? ⟨w.heap.size, 1, none⟩ = some (.int .i64 a) := cel_below hb (by rw [World.cell?_alloc_at _ _ _ _ (by simp)]; rfl)
  have oq2 : w1.cell? ⟨w.heap.size, 2, none⟩ = some (.int .i64 b) := cel_below hb (by rw [World.cell?_alloc_at _ _ _ _ (by simp)]; rfl)
  have oq3 : w1.cell? ⟨w.heap.size, 3, none⟩ = some (.int .i64 ty) := cel_below hb (by rw [World.cell?_alloc_at _ _ _ _ (by simp)]; rfl)
  have oq4 : w1.cell? ⟨w.heap.size, 4, none⟩ = some (.int .i64 m.s) := cel_below hb (by rw [World.cell?_alloc_at _ _ _ _ (by simp)]; rfl)
  have oq5 : w1.cell? ⟨w.heap.size, 5, none⟩ = some (.int .i64 m.k) := cel_below hb (by rw [World.cell?_alloc_at _ _ _ _ (by simp)]; rfl)
  have oq6 : w1.cell? ⟨w.heap.size, 6, none⟩ = some (.int .i64 m.a) := cel_below hb (by rw [World.cell?_alloc_at _ _ _ _ (by simp)]; rfl)
  have oq7 : w1.cell? ⟨w.heap.size, 7, none⟩ = some (.slice sa sl sc) := cel_below hb (by rw [World.cell?_alloc_at _ _ _ _ (by simp)]; rfl)
  have oq8 : w1.cell? ⟨w.heap.size, 8, none⟩ = some (.slice wa wl wc) := cel_below hb (by rw [World.cell?_alloc_at _ _ _ _ (by simp)]; rfl)
  have oq9 : w1.cell? ⟨w.heap.size, 9, none⟩ = some (.slice da dl dc) := cel_below hb (by rw [World.cell?_alloc_at _ _ _ _ (by simp)]; rfl)
  have z0 : w.heap.size < w1.heap.size := by omega
  clear hb zz
  go_wp2
  go_ret
  exact ⟨rfl, HW.out⟩

set_option maxHeartbeats 8000000 in
set_option maxRecDepth 100000 in
theorem walk_b2 (w : World) (k me : Int) (hk : 0 ≤ k ∧ k ≤ 255) (hm : 0 ≤ me ∧ me ≤ 255) (kind a b ty : Int) (m : Ct) (sa wa da : Option Addr) (sl sc wl wc dl dc : Nat) (la : Option Addr) (lc : Nat) (l : List (Int × Bool)) (hv : LogOf w (.slice la l.length lc) l) (hI : ∀ x ∈ l, I64 x.1) (q0 : decide ((10 : Int) < (l.length : Int)) = false) (q1 : decide ((20 : Int) < (sl : Int)) = true) : Calls Try.prog 9 #[.int .u8 k, .int .u8 me, .agg #[.int .i64 kind, .int .i64 a, .int .i64 b, .int .i64 ty, .int .i64 m.s, .int .i64 m.k, .int .i64 m.a, .slice sa sl sc, .slice wa wl wc, .slice da dl dc], .slice la l.length lc] w fun e w' => e = .returned (.bool true) ∧ Below w.heap.size w w' := by
  clear hv hI hk hm
  go_enter Try.func9, Try.ntmps9
  go_wp2_with fail
  ((with_reducible refine (sane17_any _).mono ?_); rintro e w1 ⟨rfl, hb⟩)
  have HW := Lib.hid (below_alloc1 hb)
  have zz : w.heap.size + 1 ≤ w1.heap.size := by have := hb.size; (try simp at this); omega
  have oq0 : w1.cell? ⟨w.heap.size, 0, none⟩ = some (.int .i64 kind) := cel_below hb (by rw [World.cell?_alloc_at _ _ _ _ (by simp)]; rfl)
  have oq1 : w1.cell? ⟨w.heap.size, 1, none⟩ = some (.int .i64 a) := cel_below hb (by rw [World.cell?_alloc_at _ _ _ _ (by simp)]; rfl)
  have oq2 : w1.cell? ⟨w.heap.size, 2, none⟩ = some (.int .i64 b) := cel_below hb (by rw [World.cell?_alloc_at _ _ _ _ (by simp)]; rfl)
  have oq3 : w1.cell? ⟨w.heap.size, 3, none⟩ = some (.int .i64 ty) := cel_below hb (by rw [World.cell?_alloc_at _ _ _ _ (by simp)]; rfl)
  have oq4 : w1.cell? ⟨w.heap.size, 4, none⟩ = some (.int .i64 m.s) := cel_below hb (by rw [World.cell?_alloc_at _ _ _ _ (by simp)]; rfl)
  have oq5 : w1.cell? ⟨w.heap.size, 5, none⟩ = some (.int .i64 m.k) := cel_below hb (by rw [World.cell?_alloc_at _ _ _ _ (by simp)]; rfl)
  have oq6 : w1.cell? ⟨w.heap.size, 6, none⟩ = some (.int .i64 m.a) := cel_below hb (by rw [World.cell?_alloc_at _ _ _ _ (by simp)]; rfl)
  have oq7 : w1.cell? ⟨w.heap.size, 7, none⟩ = some (.slice sa sl sc) := cel_below hb (by rw [World.cell?_alloc_at _ _ _ _ (by simp)]; rfl)
  have oq8 : w1.cell? ⟨w.heap.size, 8, none⟩ = some (.slice wa wl wc) := cel_below hb (by rw [World.cell?_alloc_at _ _ _ _ (by simp)]; rfl)
  have oq9 : w1.cell? ⟨w.heap.size, 9, none⟩ = some (.slice da dl dc) := cel_below hb (by rw [World.cell?_alloc_at _ _ _ _ (by simp)]; rfl)
  have z0 : w.heap.size < w1.heap.size := by omega
  clear hb zz
  go_wp2
  go_ret
  exact ⟨rfl, HW.out⟩

set_option maxHeartbeats 8000000 in
set_option maxRecDepth 100000 in
theorem walk_b3 (w : World) (k me : Int) (hk : 0 ≤ k ∧ k ≤ 255) (hm : 0 ≤ me ∧ me ≤ 255) (kind a b ty : Int) (m : Ct) (sa wa da : Option Addr) (sl sc wl wc dl dc : Nat) (la : Option Addr) (lc : Nat) (l : List (Int × Bool)) (hv : LogOf w (.slice la l.length lc) l) (hI : ∀ x ∈ l, I64 x.1) (q0 : decide ((10 : Int) < (l.length : Int)) = false) (q1 : decide ((20 : Int) < (sl : Int)) = false) (q2 : decide ((20 : Int) < (wl : Int)) = true) : Calls Try.prog 9 #[.int .u8 k, .int .u8 me, .agg #[.int .i64 kind, .int .i64 a, .int .i64 b, .int .i64 ty, .int .i64 m.s, .int .i64 m.k, .int .i64 m.a, .slice sa sl sc, .slice wa wl wc, .slice da dl dc], .slice la l.length lc] w fun e w' => e = .returned (.bool true) ∧ Below w.heap.size w w' := by
  clear hv hI hk hm
  go_enter Try.func9, Try.ntmps9
  go_wp2_with fail
  ((with_reducible refine (sane17_any _).mono ?_); rintro e w1 ⟨rfl, hb⟩)
  have HW := Lib.hid (below_alloc1 hb)
  have zz : w.heap.size + 1 ≤ w1.heap.size := by have := hb.size; (try simp at this); omega
  have oq0 : w1.cell? ⟨w.heap.size, 0, none⟩ = some (.int .i64 kind) := cel_below hb (by rw [World.cell?_alloc_at _ _ _ _ (by simp)]; rfl)
  have oq1 : w1.cell? ⟨w.heap.size, 1, none⟩ = some (.int .i64 a) := cel_below hb (by rw [World.cell?_alloc_at _ _ _ _ (by simp)]; rfl)
  have oq2 : w1.cell? ⟨w.heap.size, 2, none⟩ = some (.int .i64 b) := cel_below hb (by rw [World.cell?_alloc_at _ _ _ _ (by simp)]; rfl)
  have oq3 : w1.cell? ⟨w.heap.size, 3, none⟩ = some (.int .i64 ty) := cel_below hb (by rw [World.cell?_alloc_at _ _ _ _ (by simp)]; rfl)
  have oq4 : w1.cell? ⟨w.heap.size, 4, none⟩ = some (.int .i64 m.s) := cel_below hb (by rw [World.cell?_alloc_at _ _ _ _ (by simp)]; rfl)
  have oq5 : w1.cell? ⟨w.heap.size, 5, none⟩ = some (.int .i64 m.k) := cel_below hb (by rw [World.cell?_alloc_at _ _ _ _ (by simp)]; rfl)
  have oq6 : w1.cell? ⟨w.heap.size, 6, none⟩ = some (.int .i64 m.a) := cel_below hb (by rw [World.cell?_alloc_at _ _ _ _ (by simp)]; rfl)
  have oq7 : w1.cell? ⟨w.heap.size, 7, none⟩ = some (.slice sa sl sc) := cel_below hb (by rw [World.cell?_alloc_at _ _ _ _ (by simp)]; rfl)
  have oq8 : w1.cell? ⟨w.heap.size, 8, none⟩ = some (.slice wa wl wc) := cel_below hb (by rw [World.cell?_alloc_at _ _ _ _ (by simp)]; rfl)
  have oq9 : w1.cell? ⟨w.heap.size, 9, none⟩ = some (.slice da dl dc) := cel_below hb (by rw [World.cell?_alloc_at _ _ _ _ (by simp)]; rfl)
  have z0 : w.heap.size < w1.heap.size := by omega
  clear hb zz
  go_wp2
  go_ret
  exact ⟨rfl, HW.out⟩

set_option maxHeartbeats 8000000 in
set_option maxRecDepth 100000 in
theorem walk_b4 (w : World) (k me : Int) (hk : 0 ≤ k ∧ k ≤ 255) (hm : 0 ≤ me ∧ me ≤ 255) (kind a b ty : Int) (m : Ct) (sa wa da : Option Addr) (sl sc wl wc dl dc : Nat) (la : Option Addr) (lc : Nat) (l : List (Int × Bool)) (hv : LogOf w (.slice la l.length lc) l) (hI : ∀ x ∈ l, I64 x.1) (q0 : decide ((10 : Int) < (l.length : Int)) = false) (q1 : decide ((20 : Int) < (sl : Int)) = false) (q2 : decide ((20 : Int) < (wl : Int)) = false) (q3 : decide ((20 : Int) < (dl : Int)) = true) : Calls Try.prog 9 #[.int .u8 k, .int .u8 me, .agg #[.int .i64 kind, .int .i64 a, .int .i64 b, .int .i64 ty, .int .i64 m.s, .int .i64 m.k, .int .i64 m.a, .slice sa sl sc, .slice wa wl wc, .slice da dl dc], .slice la l.length lc] w fun e w' => e = .returned (.bool true) ∧ Below w.heap.size w w' := by
  clear hv hI hk hm
  go_enter Try.func9, Try.ntmps9
  go_wp2_with fail
  ((with_reducible refine (sane17_any _).mono ?_); rintro e w1 ⟨rfl, hb⟩)
  have HW := Lib.hid (below_alloc1 hb)
  have zz : w.heap.size + 1 ≤ w1.heap.size := by have := hb.size; (try simp at this); omega
  have oq0 : w1.cell? ⟨w.heap.size, 0, none⟩ = some (.int .i64 kind) := cel_below hb (by rw [World.cell?_alloc_at _ _ _ _ (by simp)]; rfl)
  have oq1 : w1.cell? ⟨w.heap.size, 1, none⟩ = some (.int .i64 a) := cel_below hb (by rw [World.cell?_alloc_at _ _ _ _ (by simp)]; rfl)
  have oq2 : w1.cell? ⟨w.heap.size, 2, none⟩ = some (.int .i64 b) := cel_below hb (by rw [World.cell?_alloc_at _ _ _ _ (by simp)]; rfl)
  have oq3 : w1.cell? ⟨w.heap.size, 3, none⟩ = some (.int .i64 ty) := cel_below hb (by rw [World.cell?_alloc_at _ _ _ _ (by simp)]; rfl)
  have oq4 : w1.cell? ⟨w.heap.size, 4, none⟩ = some (.int .i64 m.s) := cel_below hb (by rw [World.cell?_alloc_at _ _ _ _ (by simp)]; rfl)
  have oq5 : w1.cell? ⟨w.heap.size, 5, none⟩ = some (.int .i64 m.k) := cel_below hb (by rw [World.cell?_alloc_at _ _ _ _ (by simp)]; rfl)
  have oq6 : w1.cell? ⟨w.heap.size, 6, none⟩ = some (.int .i64 m.a) := cel_below hb (by rw [World.cell?_alloc_at _ _ _ _ (by simp)]; rfl)
  have oq7 : w1.cell? ⟨w.heap.size, 7, none⟩ = some (.slice sa sl sc) := cel_below hb (by rw [World.cell?_alloc_at _ _ _ _ (by simp)]; rfl)
  have oq8 : w1.cell? ⟨w.heap.size, 8, none⟩ = some (.slice wa wl wc) := cel_below hb (by rw [World.cell?_alloc_at _ _ _ _ (by simp)]; rfl)
  have oq9 : w1.cell? ⟨w.heap.size, 9, none⟩ = some (.slice da dl dc) := cel_below hb (by rw [World.cell?_alloc_at _ _ _ _ (by simp)]; rfl)
  have z0 : w.heap.size < w1.heap.size := by omega
  clear hb zz
  go_wp2
  go_ret
  exact ⟨rfl, HW.out⟩

set_option maxHeartbeats 8000000 in
set_option maxRecDepth 100000 in
theorem walk_in (w : World) (k me : Int) (hk : 0 ≤ k ∧ k ≤ 255) (hm : 0 ≤ me ∧ me ≤ 255) (kind a b ty : Int) (m : Ct) (sa wa da : Option Addr) (sl sc wl wc dl dc : Nat) (la : Option Addr) (lc : Nat) (l : List (Int × Bool)) (hv : LogOf w (.slice la l.length lc) l) (hI : ∀ x ∈ l, I64 x.1) (q0 : decide ((10 : Int) < (l.length : Int)) = false) (q1 : decide ((20 : Int) < (sl : Int)) = false) (q2 : decide ((20 : Int) < (wl : Int)) = false) (q3 : decide ((20 : Int) < (dl : Int)) = false) : Calls Try.prog 9 #[.int .u8 k, .int .u8 me, .agg #[.int .i64 kind, .int .i64 a, .int .i64 b, .int .i64 ty, .int .i64 m.s, .int .i64 m.k, .int .i64 m.a, .slice sa sl sc, .slice wa wl wc, .slice da dl dc], .slice la l.length lc] w fun e w' => e = .returned (.bool true) ∧ Below w.heap.size w w' := by
  obtain ⟨kap, hkap⟩ : ∃ x, x = k % 4 := ⟨_, rfl⟩
  obtain ⟨mq, hmq⟩ : ∃ x, x = me % 3 := ⟨_, rfl⟩
  have hk4 : 0 ≤ kap ∧ kap ≤ 3 := by omega
  have K1 : Hid (k.tmod 4 = kap) := Lib.hid (by rw [Int.tmod_eq_emod_of_nonneg hk.1]; exact hkap.symm)
  have K2 : Hid (me.tmod 3 = mq) := Lib.hid (by rw [Int.tmod_eq_emod_of_nonneg hm.1]; exact hmq.symm)
  have K3 : Hid (IntKind.i64.wrap kap = kap) := Lib.hid (IntWalk.i64_in _ (by omega))
  have K4 : Hid (IntKind.i64.wrap mq = mq) := Lib.hid (IntWalk.i64_in _ (by omega))
  have K5 : Hid (IntKind.u8.wrap kap = kap) := Lib.hid (wrap_u8 (by omega) (by omega))
  have K6 : Hid (IntKind.u8.wrap mq = mq) := Lib.hid (wrap_u8 (by omega) (by omega))
  have hlen : l.length ≤ 1000000 := by simp at q0; omega
  have HWh : Hid (∀ w, Calls Try.prog 32 #[.int .i64 kap] w fun e w' => e = .returned (.agg #[.int .i64 3, .int .i64 0, .int .i64 0, .int .i64 0, .int .i64 kap, .int .i64 0, .int .i64 1, .int .i64 2, .int .i64 3, .int .i64 4, .int .i64 16, .int .i64 16, .int .i64 16]) ∧ Below w.heap.size w w') := Lib.hid (fun w => where17_any kap hk4 w)
  obtain ⟨q, p1, o, n, v0, v1, v2, v3, b4, b5, v6, d, hxx⟩ := nextV_form ((mgrT (lay3 kap) mq a b m).run l)
  have HN : Hid (∀ w, LogOf w (.slice la l.length lc) l → Calls Try.prog 33 #[.agg #[.int .i64 3, .int .i64 0, .int .i64 0, .int .i64 0, .int .i64 kap, .int .i64 0, .int .i64 1, .int .i64 2, .int .i64 3, .int .i64 4, .int .i64 16, .int .i64 16, .int .i64 16], .int .i64 mq, .agg #[.int .i64 kind, .int .i64 a, .int .i64 b, .int .i64 ty, .int .i64 m.s, .int .i64 m.k, .int .i64 m.a, .slice sa sl sc, .slice wa wl wc, .slice da dl dc], .slice la l.length lc] w fun e w' => e = .returned (.tuple #[.agg #[.int .i64 q, .int .i64 p1, .int .i64 o, .int .i64 n, .string ⟨#[]⟩], .agg #[.int .i64 v0, .int .i64 v1, .int .i64 v2, .int .i64 v3, .bool b4, .bool b5, .int .i64 v6], .bool d]) ∧ Below w.heap.size w w') := Lib.hid (fun w h => by rw [← hxx]; exact mnext_any w (lay3 kap) (lay3_ok kap) mq kind a b ty m sa wa da sl sc wl wc dl dc _ l h hI)
  have HR : Hid (∀ w, LogOf w (.slice la l.length lc) l → Calls Try.prog 34 #[.agg #[.int .i64 3, .int .i64 0, .int .i64 0, .int .i64 0, .int .i64 kap, .int .i64 0, .int .i64 1, .int .i64 2, .int .i64 3, .int .i64 4, .int .i64 16, .int .i64 16, .int .i64 16], .int .i64 mq, .agg #[.int .i64 kind, .int .i64 a, .int .i64 b, .int .i64 ty, .int .i64 m.s, .int .i64 m.k, .int .i64 m.a, .slice sa sl sc, .slice wa wl wc, .slice da dl dc], .slice la l.length lc] w fun e w' => e = .returned (.tuple #[.agg #[.int .i64 q, .int .i64 p1, .int .i64 o, .int .i64 n, .string ⟨#[]⟩], .agg #[.int .i64 v0, .int .i64 v1, .int .i64 v2, .int .i64 v3, .bool b4, .bool b5, .int .i64 v6], .bool d]) ∧ Below w.heap.size w w') := Lib.hid (fun w h => by rw [← hxx]; exact rmnext_any w (lay3 kap) (lay3_ok kap) mq kind a b ty m sa wa da sl sc wl wc dl dc _ l h hlen hI)
  have HL := Lib.hid hv
  clear hxx hkap hmq hk4 hlen hv hI hk hm
  go_enter Try.func9, Try.ntmps9
  go_wp2_with fail
  ((with_reducible refine (sane17_any _).mono ?_); rintro e w1 ⟨rfl, hb⟩)
  have HW := Lib.hid (below_alloc1 hb)
  have zz : w.heap.size + 1 ≤ w1.heap.size := by have := hb.size; (try simp at this); omega
  have oq0 : w1.cell? ⟨w.heap.size, 0, none⟩ = some (.int .i64 kind) := cel_below hb (by rw [World.cell?_alloc_at _ _ _ _ (by simp)]; rfl)
  have oq1 : w1.cell? ⟨w.heap.size, 1, none⟩ = some (.int .i64 a) := cel_below hb (by rw [World.cell?_alloc_at _ _ _ _ (by simp)]; rfl)
  have oq2 : w1.cell? ⟨w.heap.size, 2, none⟩ = some (.int .i64 b) := cel_below hb (by rw [World.cell?_alloc_at _ _ _ _ (by simp)]; rfl)
  have oq3 : w1.cell? ⟨w.heap.size, 3, none⟩ = some (.int .i64 ty) := cel_below hb (by rw [World.cell?_alloc_at _ _ _ _ (by simp)]; rfl)
  have oq4 : w1.cell? ⟨w.heap.size, 4, none⟩ = some (.int .i64 m.s) := cel_below hb (by rw [World.cell?_alloc_at _ _ _ _ (by simp)]; rfl)
  have oq5 : w1.cell? ⟨w.heap.size, 5, none⟩ = some (.int .i64 m.k) := cel_below hb (by rw [World.cell?_alloc_at _ _ _ _ (by simp)]; rfl)
  have oq6 : w1.cell? ⟨w.heap.size, 6, none⟩ = some (.int .i64 m.a) := cel_below hb (by rw [World.cell?_alloc_at _ _ _ _ (by simp)]; rfl)
  have oq7 : w1.cell? ⟨w.heap.size, 7, none⟩ = some (.slice sa sl sc) := cel_below hb (by rw [World.cell?_alloc_at _ _ _ _ (by simp)]; rfl)
  have oq8 : w1.cell? ⟨w.heap.size, 8, none⟩ = some (.slice wa wl wc) := cel_below hb (by rw [World.cell?_alloc_at _ _ _ _ (by simp)]; rfl)
  have oq9 : w1.cell? ⟨w.heap.size, 9, none⟩ = some (.slice da dl dc) := cel_below hb (by rw [World.cell?_alloc_at _ _ _ _ (by simp)]; rfl)
  have z0 : w.heap.size < w1.heap.size := by omega
  have HLg := Lib.hid (logOf_keep HL.out (below_step (below_new1 _ _) hb))
  clear hb zz
  have k1 := K1.out
  have k2 := K2.out
  have k3 := K3.out
  have k4 := K4.out
  have k5 := K5.out
  have k6 := K6.out
  go_wp2_with fail
  clear k1 k2 k3 k4 k5 k6
  ((with_reducible refine (HWh.out _).mono ?_); rintro e w2 ⟨rfl, hb⟩)
  replace HW := Lib.hid (below_step HW.out (hb))
  have zz : w1.heap.size + 0 ≤ w2.heap.size := by have := hb.size; (try simp at this); omega
  replace oq0 : w2.cell? ⟨w.heap.size, 0, none⟩ = some (.int .i64 kind) := cel_below hb (oq0)
  replace oq1 : w2.cell? ⟨w.heap.size, 1, none⟩ = some (.int .i64 a) := cel_below hb (oq1)
  replace oq2 : w2.cell? ⟨w.heap.size, 2, none⟩ = some (.int .i64 b) := cel_below hb (oq2)
  replace oq3 : w2.cell? ⟨w.heap.size, 3, none⟩ = some (.int .i64 ty) := cel_below hb (oq3)
  replace oq4 : w2.cell? ⟨w.heap.size, 4, none⟩ = some (.int .i64 m.s) := cel_below hb (oq4)
  replace oq5 : w2.cell? ⟨w.heap.size, 5, none⟩ = some (.int .i64 m.k) := cel_below hb (oq5)
  replace oq6 : w2.cell? ⟨w.heap.size, 6, none⟩ = some (.int .i64 m.a) := cel_below hb (oq6)
  replace oq7 : w2.cell? ⟨w.heap.size, 7, none⟩ = some (.slice sa sl sc) := cel_below hb (oq7)
  replace oq8 : w2.cell? ⟨w.heap.size, 8, none⟩ = some (.slice wa wl wc) := cel_below hb (oq8)
  replace oq9 : w2.cell? ⟨w.heap.size, 9, none⟩ = some (.slice da dl dc) := cel_below hb (oq9)
  replace z0 : w.heap.size < w2.heap.size := by omega
  replace HLg := Lib.hid (logOf_keep HLg.out (below_step (Below.refl _ w1) hb))
  clear hb zz
  have k1 := K1.out
  have k2 := K2.out
  have k3 := K3.out
  have k4 := K4.out
  have k5 := K5.out
  have k6 := K6.out
  go_wp2_with fail
  clear k1 k2 k3 k4 k5 k6
  ((with_reducible refine (HN.out _ (logOf_keep HLg.out (below_new1 _ _))).mono ?_); rintro e w3 ⟨rfl, hb⟩)
  replace HW := Lib.hid (below_step HW.out (below_alloc1 hb))
  have zz : w2.heap.size + 1 ≤ w3.heap.size := by have := hb.size; (try simp at this); omega
  replace oq0 : w3.cell? ⟨w.heap.size, 0, none⟩ = some (.int .i64 kind) := cel_below hb (cell_alloc _ (oq0))
  replace oq1 : w3.cell? ⟨w.heap.size, 1, none⟩ = some (.int .i64 a) := cel_below hb (cell_alloc _ (oq1))
  replace oq2 : w3.cell? ⟨w.heap.size, 2, none⟩ = some (.int .i64 b) := cel_below hb (cell_alloc _ (oq2))
  replace oq3 : w3.cell? ⟨w.heap.size, 3, none⟩ = some (.int .i64 ty) := cel_below hb (cell_alloc _ (oq3))
  replace oq4 : w3.cell? ⟨w.heap.size, 4, none⟩ = some (.int .i64 m.s) := cel_below hb (cell_alloc _ (oq4))
  replace oq5 : w3.cell? ⟨w.heap.size, 5, none⟩ = some (.int .i64 m.k) := cel_below hb (cell_alloc _ (oq5))
  replace oq6 : w3.cell? ⟨w.heap.size, 6, none⟩ = some (.int .i64 m.a) := cel_below hb (cell_alloc _ (oq6))
  replace oq7 : w3.cell? ⟨w.heap.size, 7, none⟩ = some (.slice sa sl sc) := cel_below hb (cell_alloc _ (oq7))
  replace oq8 : w3.cell? ⟨w.heap.size, 8, none⟩ = some (.slice wa wl wc) := cel_below hb (cell_alloc _ (oq8))
  replace oq9 : w3.cell? ⟨w.heap.size, 9, none⟩ = some (.slice da dl dc) := cel_below hb (cell_alloc _ (oq9))
  replace z0 : w.heap.size < w3.heap.size := by omega
  replace HLg := Lib.hid (logOf_keep HLg.out (below_step (Below.alloc (Below.refl _ w2) (by first | exact Nat.le_refl _ | (simp; omega) | simp) _) hb))
  have lq0 : w3.cell? ⟨w2.heap.size, 0, none⟩ = some (.int .i64 3) := cel_below hb (by rw [World.cell?_alloc_at _ _ _ _ (by simp)]; rfl)
  have lq1 : w3.cell? ⟨w2.heap.size, 1, none⟩ = some (.int .i64 0) := cel_below hb (by rw [World.cell?_alloc_at _ _ _ _ (by simp)]; rfl)
  have lq2 : w3.cell? ⟨w2.heap.size, 2, none⟩ = some (.int .i64 0) := cel_below hb (by rw [World.cell?_alloc_at _ _ _ _ (by simp)]; rfl)
  have lq3 : w3.cell? ⟨w2.heap.size, 3, none⟩ = some (.int .i64 0) := cel_below hb (by rw [World.cell?_alloc_at _ _ _ _ (by simp)]; rfl)
  have lq4 : w3.cell? ⟨w2.heap.size, 4, none⟩ = some (.int .i64 kap) := cel_below hb (by rw [World.cell?_alloc_at _ _ _ _ (by simp)]; rfl)
  have lq5 : w3.cell? ⟨w2.heap.size, 5, none⟩ = some (.int .i64 0) := cel_below hb (by rw [World.cell?_alloc_at _ _ _ _ (by simp)]; rfl)
  have lq6 : w3.cell? ⟨w2.heap.size, 6, none⟩ = some (.int .i64 1) := cel_below hb (by rw [World.cell?_alloc_at _ _ _ _ (by simp)]; rfl)
  have lq7 : w3.cell? ⟨w2.heap.size, 7, none⟩ = some (.int .i64 2) := cel_below hb (by rw [World.cell?_alloc_at _ _ _ _ (by simp)]; rfl)
  have lq8 : w3.cell? ⟨w2.heap.size, 8, none⟩ = some (.int .i64 3) := cel_below hb (by rw [World.cell?_alloc_at _ _ _ _ (by simp)]; rfl)
  have lq9 : w3.cell? ⟨w2.heap.size, 9, none⟩ = some (.int .i64 4) := cel_below hb (by rw [World.cell?_alloc_at _ _ _ _ (by simp)]; rfl)
  have lq10 : w3.cell? ⟨w2.heap.size, 10, none⟩ = some (.int .i64 16) := cel_below hb (by rw [World.cell?_alloc_at _ _ _ _ (by simp)]; rfl)
  have lq11 : w3.cell? ⟨w2.heap.size, 11, none⟩ = some (.int .i64 16) := cel_below hb (by rw [World.cell?_alloc_at _ _ _ _ (by simp)]; rfl)
  have lq12 : w3.cell? ⟨w2.heap.size, 12, none⟩ = some (.int .i64 16) := cel_below hb (by rw [World.cell?_alloc_at _ _ _ _ (by simp)]; rfl)
  have z1 : w2.heap.size < w3.heap.size := by omega
  clear hb zz
  have k1 := K1.out
  have k2 := K2.out
  have k3 := K3.out
  have k4 := K4.out
  have k5 := K5.out
  have k6 := K6.out
  go_wp2_with fail
  clear k1 k2 k3 k4 k5 k6
  ((with_reducible refine (HR.out _ (logOf_keep HLg.out (below_alloc2 (Below.refl _ _)))).mono ?_); rintro e w4 ⟨rfl, hb⟩)
  replace HW := Lib.hid (below_step HW.out (below_alloc2 hb))
  have zz : w3.heap.size + 2 ≤ w4.heap.size := by have := hb.size; (try simp at this); omega
  replace oq0 : w4.cell? ⟨w.heap.size, 0, none⟩ = some (.int .i64 kind) := cel_below hb (cell_alloc _ (cell_alloc _ (oq0)))
  replace oq1 : w4.cell? ⟨w.heap.size, 1, none⟩ = some (.int .i64 a) := cel_below hb (cell_alloc _ (cell_alloc _ (oq1)))
  replace oq2 : w4.cell? ⟨w.heap.size, 2, none⟩ = some (.int .i64 b) := cel_below hb (cell_alloc _ (cell_alloc _ (oq2)))
  replace oq3 : w4.cell? ⟨w.heap.size, 3, none⟩ = some (.int .i64 ty) := cel_below hb (cell_alloc _ (cell_alloc _ (oq3)))
  replace oq4 : w4.cell? ⟨w.heap.size, 4, none⟩ = some (.int .i64 m.s) := cel_below hb (cell_alloc _ (cell_alloc _ (oq4)))
  replace oq5 : w4.cell? ⟨w.heap.size, 5, none⟩ = some (.int .i64 m.k) := cel_below hb (cell_alloc _ (cell_alloc _ (oq5)))
  replace oq6 : w4.cell? ⟨w.heap.size, 6, none⟩ = some (.int .i64 m.a) := cel_below hb (cell_alloc _ (cell_alloc _ (oq6)))
  replace oq7 : w4.cell? ⟨w.heap.size, 7, none⟩ = some (.slice sa sl sc) := cel_below hb (cell_alloc _ (cell_alloc _ (oq7)))
  replace oq8 : w4.cell? ⟨w.heap.size, 8, none⟩ = some (.slice wa wl wc) := cel_below hb (cell_alloc _ (cell_alloc _ (oq8)))
  replace oq9 : w4.cell? ⟨w.heap.size, 9, none⟩ = some (.slice da dl dc) := cel_below hb (cell_alloc _ (cell_alloc _ (oq9)))
  replace lq0 : w4.cell? ⟨w2.heap.size, 0, none⟩ = some (.int .i64 3) := cel_below hb (cell_alloc _ (cell_alloc _ (lq0)))
  replace lq1 : w4.cell? ⟨w2.heap.size, 1, none⟩ = some (.int .i64 0) := cel_below hb (cell_alloc _ (cell_alloc _ (lq1)))
  replace lq2 : w4.cell? ⟨w2.heap.size, 2, none⟩ = some (.int .i64 0) := cel_below hb (cell_alloc _ (cell_alloc _ (lq2)))
  replace lq3 : w4.cell? ⟨w2.heap.size, 3, none⟩ = some (.int .i64 0) := cel_below hb (cell_alloc _ (cell_alloc _ (lq3)))
  replace lq4 : w4.cell? ⟨w2.heap.size, 4, none⟩ = some (.int .i64 kap) := cel_below hb (cell_alloc _ (cell_alloc _ (lq4)))
  replace lq5 : w4.cell? ⟨w2.heap.size, 5, none⟩ = some (.int .i64 0) := cel_below hb (cell_alloc _ (cell_alloc _ (lq5)))
  replace lq6 : w4.cell? ⟨w2.heap.size, 6, none⟩ = some (.int .i64 1) := cel_below hb (cell_alloc _ (cell_alloc _ (lq6)))
  replace lq7 : w4.cell? ⟨w2.heap.size, 7, none⟩ = some (.int .i64 2) := cel_below hb (cell_alloc _ (cell_alloc _ (lq7)))
  replace lq8 : w4.cell? ⟨w2.heap.size, 8, none⟩ = some (.int .i64 3) := cel_below hb (cell_alloc _ (cell_alloc _ (lq8)))
  replace lq9 : w4.cell? ⟨w2.heap.size, 9, none⟩ = some (.int .i64 4) := cel_below hb (cell_alloc _ (cell_alloc _ (lq9)))
  replace lq10 : w4.cell? ⟨w2.heap.size, 10, none⟩ = some (.int .i64 16) := cel_below hb (cell_alloc _ (cell_alloc _ (lq10)))
  replace lq11 : w4.cell? ⟨w2.heap.size, 11, none⟩ = some (.int .i64 16) := cel_below hb (cell_alloc _ (cell_alloc _ (lq11)))
  replace lq12 : w4.cell? ⟨w2.heap.size, 12, none⟩ = some (.int .i64 16) := cel_below hb (cell_alloc _ (cell_alloc _ (lq12)))
  replace z0 : w.heap.size < w4.heap.size := by omega
  replace z1 : w2.heap.size < w4.heap.size := by omega
  replace HLg := Lib.hid (logOf_keep HLg.out (below_step (Below.alloc (Below.alloc (Below.refl _ w3) (by first | exact Nat.le_refl _ | (simp; omega) | simp) _) (by first | exact Nat.le_refl _ | (simp; omega) | simp) _) hb))
  have aq0 : w4.cell? ⟨w3.heap.size, 0, none⟩ = some (.int .i64 q) := cel_below hb (cell_alloc _ (by rw [World.cell?_alloc_at _ _ _ _ (by simp)]; rfl))
  have aq1 : w4.cell? ⟨w3.heap.size, 1, none⟩ = some (.int .i64 p1) := cel_below hb (cell_alloc _ (by rw [World.cell?_alloc_at _ _ _ _ (by simp)]; rfl))
  have aq2 : w4.cell? ⟨w3.heap.size, 2, none⟩ = some (.int .i64 o) := cel_below hb (cell_alloc _ (by rw [World.cell?_alloc_at _ _ _ _ (by simp)]; rfl))
  have aq3 : w4.cell? ⟨w3.heap.size, 3, none⟩ = some (.int .i64 n) := cel_below hb (cell_alloc _ (by rw [World.cell?_alloc_at _ _ _ _ (by simp)]; rfl))
  have aq4 : w4.cell? ⟨w3.heap.size, 4, none⟩ = some (.string ⟨#[]⟩) := cel_below hb (cell_alloc _ (by rw [World.cell?_alloc_at _ _ _ _ (by simp)]; rfl))
  have z2 : w3.heap.size < w4.heap.size := by omega
  have tq0 : w4.cell? ⟨w3.heap.size + 1, 0, none⟩ = some (.int .i64 v0) := cel_below hb (by rw [World.cell?_alloc_at _ _ _ _ (by simp)]; rfl)
  have tq1 : w4.cell? ⟨w3.heap.size + 1, 1, none⟩ = some (.int .i64 v1) := cel_below hb (by rw [World.cell?_alloc_at _ _ _ _ (by simp)]; rfl)
  have tq2 : w4.cell? ⟨w3.heap.size + 1, 2, none⟩ = some (.int .i64 v2) := cel_below hb (by rw [World.cell?_alloc_at _ _ _ _ (by simp)]; rfl)
  have tq3 : w4.cell? ⟨w3.heap.size + 1, 3, none⟩ = some (.int .i64 v3) := cel_below hb (by rw [World.cell?_alloc_at _ _ _ _ (by simp)]; rfl)
  have tq4 : w4.cell? ⟨w3.heap.size + 1, 4, none⟩ = some (.bool b4) := cel_below hb (by rw [World.cell?_alloc_at _ _ _ _ (by simp)]; rfl)
  have tq5 : w4.cell? ⟨w3.heap.size + 1, 5, none⟩ = some (.bool b5) := cel_below hb (by rw [World.cell?_alloc_at _ _ _ _ (by simp)]; rfl)
  have tq6 : w4.cell? ⟨w3.heap.size + 1, 6, none⟩ = some (.int .i64 v6) := cel_below hb (by rw [World.cell?_alloc_at _ _ _ _ (by simp)]; rfl)
  have z3 : w3.heap.size + 1 < w4.heap.size := by omega
  clear hb zz
  have e1 := acc_eql q p1 o n ⟨#[]⟩
  have e2 := out_eql v0 v1 v2 v3 b4 b5 v6
  go_wp2
  go_ret
  have hz := HW.out.size
  exact ⟨rfl, (HW.out.alloc (by omega) _).alloc (by simp; omega) _⟩

theorem walk (w : World) (k : Int) (wk : (Lit.int .u8 k).wf = true) (me : Int) (wm : (Lit.int .u8 me).wf = true) (kind a b ty : Int) (m : Ct) (sa wa da : Option Addr) (sl sc wl wc dl dc : Nat) (i1 : I64 kind) (i2 : I64 a) (i3 : I64 b) (i4 : I64 ty) (i5 : I64 m.s) (i6 : I64 m.k) (i7 : I64 m.a) (v : Value) (l : List (Int × Bool)) (hv : LogOf w v l) (hI : ∀ x ∈ l, I64 x.1) : Calls Try.prog 9 #[.int .u8 k, .int .u8 me, .agg #[.int .i64 kind, .int .i64 a, .int .i64 b, .int .i64 ty, .int .i64 m.s, .int .i64 m.k, .int .i64 m.a, .slice sa sl sc, .slice wa wl wc, .slice da dl dc], v] w fun e w' => e = .returned (.bool true) ∧ Below w.heap.size w w' := by
  obtain ⟨la, lc, rfl, _⟩ := id hv
  have hk := u8_of_wf wk
  have hm := u8_of_wf wm
  cases q0 : decide ((10 : Int) < (l.length : Int)) with
  | true => exact walk_b1 w k me hk hm kind a b ty m sa wa da sl sc wl wc dl dc la lc l hv hI q0
  | false =>
    cases q1 : decide ((20 : Int) < (sl : Int)) with
    | true => exact walk_b2 w k me hk hm kind a b ty m sa wa da sl sc wl wc dl dc la lc l hv hI q0 q1
    | false =>
      cases q2 : decide ((20 : Int) < (wl : Int)) with
      | true => exact walk_b3 w k me hk hm kind a b ty m sa wa da sl sc wl wc dl dc la lc l hv hI q0 q1 q2
      | false =>
        cases q3 : decide ((20 : Int) < (dl : Int)) with
        | true => exact walk_b4 w k me hk hm kind a b ty m sa wa da sl sc wl wc dl dc la lc l hv hI q0 q1 q2 q3
        | false => exact walk_in w k me hk hm kind a b ty m sa wa da sl sc wl wc dl dc la lc l hv hI q0 q1 q2 q3

theorem own : ownKnob Try.prog.godebug = none := by kernel_rfl
theorem laidOut : laidOutB Try.prog = true := by kernel_rfl

set_option maxRecDepth 100000 in
theorem lifted (os : Os) (started : os.Started) (H : Type) (enc : TypeId × Value → H) :
    ReturnsInHanded {} Try.checked os 9 .any (Rows.managerNextSpec.pre6 enc Try.prog Try.f9 Rows.managerNextRow.domain false) (Rows.managerNextSpec.post enc Try.prog Try.f9 false true false false) := by
  refine returnsInHanded_of_change (C := Try.checked) own started (by kernel_rfl) Try.func9
    (ChangeSpec.witness6 (enc := enc) (C := Try.checked) false ⟨#[], #[.int .u8 0, .int .u8 0, .agg #[.int .i64 0, .int .i64 0, .int .i64 0, .int .i64 0, .int .i64 0, .int .i64 0, .int .i64 0, .slice none 0 0, .slice none 0 0, .slice none 0 0], .slice none 0 0], []⟩ 8 (by kernel_rfl) (by kernel_rfl) (by kernel_rfl) (by kernel_rfl)) ?_
  intro W base args ds gs before hval0 hW hcnd _
  have hval : ∀ (j : Nat) t v, Try.f9.params[j]? = some t → args[j]? = some v → Value.okWide Try.prog W .any base t v := hval0
  have hW' := hW
  obtain ⟨p, q, hA0, hV, rfl, hfz, hnd⟩ := hW
  have hA : DataW.TrodAll enc Try.prog W 0 (fun _ => true) true Try.f9.params.toList args.toList ds p := hA0
  rw [Try.params9] at hA hval
  obtain ⟨v0, vs0, d0, ds0, p0, q0, hargs, rfl, rfl, h0, r0⟩ := trodAll_cons hA
  obtain ⟨v1, vs1, d1, ds1, p1, q1, rfl, rfl, rfl, h1, r1⟩ := trodAll_cons r0
  obtain ⟨v2, vs2, d2, ds2, p2, q2, rfl, rfl, rfl, h2, r2⟩ := trodAll_cons r1
  obtain ⟨v3, vs3, d3, ds3, p3, q3, rfl, rfl, rfl, h3, r3⟩ := trodAll_cons r2
  obtain ⟨rfl, rfl, rfl⟩ := trodAll_nil r3
  obtain rfl : args = #[v0, v1, v2, v3] := by cases args; simp_all
  obtain ⟨rfl, rfl⟩ := trodVars_none hV
  clear hA0 hval0
  simp only [List.append_nil] at hW'
  have lt0 : ∀ x ∈ p0, x.block < W.heap.size := fun x hx => hW'.lt x (by simp [hx])
  have lt1 : ∀ x ∈ p1, x.block < W.heap.size := fun x hx => hW'.lt x (by simp [hx])
  have lt2 : ∀ x ∈ p2, x.block < W.heap.size := fun x hx => hW'.lt x (by simp [hx])
  have lt3 : ∀ x ∈ p3, x.block < W.heap.size := fun x hx => hW'.lt x (by simp [hx])
  have back0 : ∀ W', Below W.heap.size W W' → DataW.Trod enc Try.prog W' 0 (fun b => decide (b < W.heap.size)) true 5 v0 d0 p0 := fun W' hb => Below.trod laidOut (by kernel_rfl) (of_decide_eq_true (by kernel_rfl)) h0 hb lt0
  have back1 : ∀ W', Below W.heap.size W W' → DataW.Trod enc Try.prog W' 0 (fun b => decide (b < W.heap.size)) true 5 v1 d1 p1 := fun W' hb => Below.trod laidOut (by kernel_rfl) (of_decide_eq_true (by kernel_rfl)) h1 hb lt1
  have back2 : ∀ W', Below W.heap.size W W' → DataW.Trod enc Try.prog W' 0 (fun b => decide (b < W.heap.size)) true 28 v2 d2 p2 := fun W' hb => Below.trod laidOut (by kernel_rfl) (of_decide_eq_true (by kernel_rfl)) h2 hb lt2
  have back3 : ∀ W', Below W.heap.size W W' → DataW.Trod enc Try.prog W' 0 (fun b => decide (b < W.heap.size)) true 29 v3 d3 p3 := fun W' hb => Below.trod laidOut (by kernel_rfl) (of_decide_eq_true (by kernel_rfl)) h3 hb lt3
  obtain ⟨a0, rfl, rfl, rfl, w0⟩ := open_int Try.underlying5 (hval 0 5 v0 rfl rfl) h0
  obtain ⟨a1, rfl, rfl, rfl, w1⟩ := open_int Try.underlying5 (hval 1 5 v1 rfl rfl) h1
  obtain ⟨ok2, oa2, ob2, oy2, om2, sa2, wa2, da2, sl2, sc2, wl2, wc2, dl2, dc2, rfl, xa2, xb2, xc2, xd2, xe2, xf2, xg2⟩ := open_op (hval 2 28 v2 rfl rfl) h2
  obtain ⟨l3, k3, y3⟩ := open_ress (hval 3 29 v3 rfl rfl) h3
  refine (walk W a0 w0 a1 w1 ok2 oa2 ob2 oy2 om2 sa2 wa2 da2 sl2 sc2 wl2 wc2 dl2 dc2 xa2 xb2 xc2 xd2 xe2 xf2 xg2 v3 l3 k3 y3).mono fun e W' ⟨he, hg⟩ => ?_
  subst he
  exact ⟨_, rfl, _, _, _, [], _, [], hW', (trodAll_cons_mk (shut_bool Try.underlying4 _) trodAll_mk0), (trodAll_cons_mk (back0 _ hg) (trodAll_cons_mk (back1 _ hg) (trodAll_cons_mk (back2 _ hg) (trodAll_cons_mk (back3 _ hg) trodAll_mk0)))), rfl, hg.frame _, fun h => by cases h⟩

theorem over : Rows.managerNextRow.holds Try.pinned (OpenSpec.ofChange Rows.managerNextSpec) :=
  OpenClaim.holds_of_wide 9 Try.f9 rfl rfl rfl rfl rfl rfl rfl ⟨rfl, rfl, rfl, rfl, rfl⟩ rfl rfl rfl rfl rfl (by kernel_rfl) Try.func9 (by kernel_rfl)
    (of_decide_eq_true (by kernel_rfl)) (by unfold Func.isWrapper; first | (rw [if_pos (by decide +kernel)]; kernel_rfl) | (rw [if_neg (by decide +kernel)]; exact ⟨rfl, rfl⟩))
    (fun os started H enc _ => lifted os started H enc)

/-- The given statement. -/
theorem proved : Rows.ManagerNextSaid :=
  over
#print axioms proved
end Go.Proofs.Ytaclnaedinfhmaa.managerNext
