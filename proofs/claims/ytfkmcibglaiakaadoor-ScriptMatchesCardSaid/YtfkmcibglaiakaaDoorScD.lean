
/-
  Layer 27: a crash's word; a word.
-/
import Derived.Test.YtfkmcibglaiakaaDoorRows
import Derived.Test.YtfkmcibglaiakaaDoorBase
import Derived.Test.YtfkmcibglaiakaaDoorScC
import Derived.WalkKit
namespace Go.Proofs.YtfkmcibglaiakaaDoor
open Go Go.RowKit SZ
set_option linter.unusedVariables false
set_option linter.unusedSimpArgs false
set_option maxRecDepth 100000
attribute [local irreducible] post GD Nxt NxtAll
theorem cpre_s (w : World) (l : List Nat) : Calls Tryd.prog 49 #[.string (strOf (33 :: l)), .string (strOf [33])] w fun e w' => e = .returned (.tuple #[.string (strOf l), .bool true]) ∧ Below w.heap.size w w' :=
  (Tryd.strings_CutPrefix (strOf (33 :: l)) (strOf [33]) w).mono fun e w' ⟨h1, h2⟩ => ⟨by
    rw [h1]
    have e1 : Lib.hasPrefix ((33 :: l).map UInt8.ofNat) [UInt8.ofNat 33] = true := by simp [Lib.hasPrefix, List.isPrefixOf]
    show Ending.returned (.tuple #[.string ⟨(Lib.trimPrefix ((33 :: l).map UInt8.ofNat) [UInt8.ofNat 33]).toArray⟩, .bool (Lib.hasPrefix ((33 :: l).map UInt8.ofNat) [UInt8.ofNat 33])]) = _
    unfold Lib.trimPrefix
    rw [e1]
    rfl, h2 ▸ Below.refl _ _⟩
theorem cpre_n (w : World) (l : List Nat) (hl : ∀ b ∈ l, b < 256) (h : ∀ t, l ≠ 33 :: t) : Calls Tryd.prog 49 #[.string (strOf l), .string (strOf [33])] w fun e w' => e = .returned (.tuple #[.string (strOf l), .bool false]) ∧ Below w.heap.size w w' :=
  (Tryd.strings_CutPrefix (strOf l) (strOf [33]) w).mono fun e w' ⟨h1, h2⟩ => ⟨by
    rw [h1]
    have e1 : Lib.hasPrefix (l.map UInt8.ofNat) [UInt8.ofNat 33] = false := by
      cases l with
      | nil => rfl
      | cons x l =>
        have hx := hl x (by simp)
        have hne : (UInt8.ofNat 33 == UInt8.ofNat x) = false := by
          rw [beq_eq_false_iff_ne]
          intro h2
          have := congrArg UInt8.toNat h2
          rw [UInt8.toNat_ofNat_of_lt' (by decide), UInt8.toNat_ofNat_of_lt' hx] at this
          exact h l (by rw [← this])
        show ((UInt8.ofNat 33 == UInt8.ofNat x) && _) = false
        rw [hne]
        rfl
    show Ending.returned (.tuple #[.string ⟨(Lib.trimPrefix (l.map UInt8.ofNat) [UInt8.ofNat 33]).toArray⟩, .bool (Lib.hasPrefix (l.map UInt8.ofNat) [UInt8.ofNat 33])]) = _
    unfold Lib.trimPrefix
    rw [e1]
    rfl, h2 ▸ Below.refl _ _⟩
theorem splL_pos (c : Nat) : ∀ l, 1 ≤ (splL c l).length ∧ (splL c l).length ≤ l.length + 1
  | [] => by simp [splL]
  | x :: l => by
    have ih := splL_pos c l
    unfold splL
    split
    · simp; omega
    · cases h : splL c l with
      | nil => simp
      | cons p r => rw [h] at ih; simp at ih ⊢; omega
theorem splL_mem (c : Nat) : ∀ l, ∀ p ∈ splL c l, ∀ b ∈ p, b ∈ l
  | [], p, hp, b, hb => by simp [splL] at hp; subst hp; exact hb
  | x :: l, p, hp, b, hb => by
    have ih := splL_mem c l
    unfold splL at hp
    split at hp
    · rcases List.mem_cons.1 hp with rfl | hp
      · cases hb
      · exact List.mem_cons_of_mem _ (ih p hp b hb)
    · cases h : splL c l with
      | nil => rw [h] at hp; simp at hp; subst hp; simp at hb; subst hb; simp
      | cons q r =>
        rw [h] at hp ih
        rcases List.mem_cons.1 hp with rfl | hp
        · rcases List.mem_cons.1 hb with rfl | hb
          · simp
          · exact List.mem_cons_of_mem _ (ih q (by simp) b hb)
        · exact List.mem_cons_of_mem _ (ih p (by simp [hp]) b hb)
theorem split_t (w : World) (hm : rfMx.P w) (l : List Nat) (hl : ∀ b ∈ l, b < 256) (h3 : l.length ≤ 4000000000) : Calls Tryd.prog 50 #[.string (strOf l), .string (strOf [44])] w fun e w' => ∃ g : Nat, e = .returned (.slice (some ⟨g, 0, none⟩) (splL 44 l).length (splL 44 l).length) ∧ (w.heap.size ≤ g ∧ LsAt w' g 0 (splL 44 l)) ∧ Below w.heap.size w w' := by
  obtain ⟨m, hm⟩ := hm
  refine (Tryd.strings_Split (strOf l) (strOf [44]) m w (by rw [strOf_size]; omega) hm (by rw [strOf_size]; exact Nat.le_refl _)).mono fun e w' ⟨h1, h2⟩ => ?_
  have e1 := lib_split (c := 44) (by omega) l.length l (Nat.le_refl _) hl
  have e2 : Lib.countB (strOf l) (strOf [44]) + 1 = (splL 44 l).length := by
    have h := congrArg List.length e1
    rw [List.length_map, Lib.splitB_all _ (by rw [strOf_size]; exact Nat.le_refl _) _ _ _ rfl] at h
    exact h
  rw [e1, List.map_map] at h2
  rw [e2] at h1
  subst h2
  refine ⟨w.heap.size, h1, ⟨Nat.le_refl _, fun j hj => ?_⟩, (Below.refl _ w).alloc (Nat.le_refl _) _⟩
  rw [show (⟨w.heap.size, 0 + j, none⟩ : Addr) = ⟨w.heap.size, j, none⟩ by rw [Nat.zero_add]]
  have hb : (w.alloc (.cells ((splL 44 l).map (Value.string ∘ strOf)).toArray 9)).heap[w.heap.size]? = some (.cells ((splL 44 l).map (Value.string ∘ strOf)).toArray 9 (0, 0)) := by
    show (w.heap.push _)[w.heap.size]? = _
    simp
  unfold World.cell?
  rw [hb]
  simp [List.getElem?_map, List.getElem?_eq_getElem hj, List.getD]
def crF (fd : Bool) : Option (List Int) → Option (Pw × Nat)
  | none => none
  | some cs => if fd = true ∧ cs.length ≤ 64 then some (⟨3, 0, 0, cs⟩, 1) else none
theorem crashS_s (l : List Nat) : crashS (33 :: l) = crF true (cutsS l) := by
  unfold crF
  show (match cutsS l with | none => (none : Option (Pw × Nat)) | some cs => if cs.length ≤ 64 then some (⟨3, 0, 0, cs⟩, 1) else none) = _
  cases cutsS l with
  | none => rfl
  | some cs => simp
theorem crashS_n (l : List Nat) (h : ∀ t, l ≠ 33 :: t) (r : Option (List Int)) : crashS l = crF false r := by
  have e1 : crashS l = none := by
    unfold crashS
    split
    · exact absurd rfl (h _)
    · rfl
  rw [e1]
  cases r with
  | none => rfl
  | some cs => simp [crF]
theorem sl_of_owns {w : World} {B : Nat} {v : Value} {c : List Int} (h : w.ownsRow B 3 1 v c.length (c.map (Value.int .i64))) : ∃ a cp b, v = .slice a c.length cp ∧ (c.length = 0 ∨ a = some ⟨b, 0, none⟩) ∧ IsAt w b 0 c ∧ (c.length = 0 ∨ B ≤ b) := by
  rcases h.2 with ⟨rfl, hz⟩ | ⟨g, cap, cur, rfl, hb, hg, h1, h2, h3, h4⟩
  · exact ⟨none, 0, 0, by rw [hz], Or.inl hz, fun j hj => by omega, Or.inl hz⟩
  · have hc := h.cells (g := g) rfl
    refine ⟨_, cap, g, rfl, Or.inr rfl, fun j hj => ?_, Or.inr hb⟩
    have c1 := hc j (.int .i64 (c.getD j 0)) (by simp [List.getElem?_map, List.getElem?_eq_getElem hj, List.getD])
    have ea : ∀ k, (⟨g, 0, none⟩ : Addr).add k = ⟨g, 0 + k, none⟩ := fun k => by unfold Addr.add; split <;> simp_all
    rw [ea] at c1
    exact c1
theorem sy_nmq {w0 : World} {r bs : List Nat} {s : SS} {F : List RF} {a : Act} {w : World} {G : Prop} (q : Nat) (S : Sy w0 r bs s F a w) (hq : 0 < bs.length ∧ bs.getD 0 0 = q) (h : ∀ bs, (0 < bs.length ∧ bs.getD 0 0 = q) → Sy w0 r bs s F a w → G) : G := h bs hq S
theorem gd_app {bs x : List Nat} {q : Nat} (h : 0 < bs.length ∧ bs.getD 0 0 = q) : 0 < (bs ++ x).length ∧ (bs ++ x).getD 0 0 = q := ⟨by rw [List.length_append]; omega, by rw [← h.2]; simp [List.getD, List.getElem?_append_left h.1]⟩
theorem infI3 : (Tryd.prog.info? 3).map (fun i => (i.zero, i.size, i.bytes)) = some (some (.int .i64 0), 1, 8) := by kernel_rfl
theorem own_nilI (w : World) (B : Nat) : w.ownsRow B 3 1 (.slice none 0 0) 0 [] := ⟨rfl, Or.inl ⟨rfl, rfl⟩⟩
noncomputable def crC : Cfg := ⟨goZ 60 [1] [.code (bodyOf Tryd.f38)], ⟨0, [], []⟩⟩
noncomputable def crK : List It := (runC Tryd.prog ⟨0, [12]⟩ 50 ⟨crC.k.tail, ⟨50, [], []⟩⟩).k
noncomputable def crS (p0 : Pk) (pv : Value) (fd : Bool) (v : Value) (g n j : Nat) : SS := ⟨50, [(0, .p 0 0), (7, .v (.bool fd)), (8, .v v), (21, .v (.slice (some ⟨g, 0, none⟩) n n)), (22, .v (.int .i64 (n : Int))), (23, .v (.int .i64 (j : Int)))], [⟨48, [.int .i64 p0.k, .int .i64 p0.a, .int .i64 p0.b, .slice p0.s p0.c.length p0.cp, pv]⟩]⟩
set_option maxHeartbeats 8000000 in
theorem cr_z (w0 : World) (q : Nat) (p0 : Pk) (pv : Value) (fd : Bool) (o : Option (Pw × Nat)) (a : Option Addr) (cp b : Nat) (acc : List Int) (x21 x22 x23 : Value) (ho2 : o = if fd = true ∧ acc.length ≤ 64 then some (⟨3, 0, 0, acc⟩, 1) else none) (ha : acc.length = 0 ∨ a = some ⟨b, 0, none⟩) (hb2 : acc.length = 0 ∨ w0.heap.size ≤ b) (k : List It) (hk : k = crK) (F : List RF) (aa : Act) (w : World) (hia : IsAt w b 0 acc) (hF : rfIs b 0 acc ∈ F) (S : Sy w0 [q] [q] ⟨50, [(0, .p 0 0), (7, .v (.bool fd)), (8, .v (.slice a acc.length cp))], [⟨48, [.int .i64 p0.k, .int .i64 p0.a, .int .i64 p0.b, .slice p0.s p0.c.length p0.cp, pv]⟩]⟩ F aa w) : post Tryd.prog k (bodyPost Tryd.prog Tryd.f38 (FormP w0 q pv o)) .normal aa w := by
  subst hk
  refine sy_run (c := ⟨crK, ⟨50, [(0, .p 0 0), (7, .v (.bool fd)), (8, .v (.slice a acc.length cp))], [⟨48, [.int .i64 p0.k, .int .i64 p0.a, .int .i64 p0.b, .slice p0.s p0.c.length p0.cp, pv]⟩]⟩⟩) ⟨0, [13]⟩ 50 S fun bs aa w S => ?_
  have hia : IsAt w b 0 acc := S.fact (f := rfIs b 0 acc) hF
  refine sy_reg S fun S => ?_
  cases fd with
  | false =>
    have hos : o.isSome = false := by rw [ho2]; simp
    refine sy_run ⟨0, []⟩ 60 S fun bs aa w S => ?_
    have hia2 : IsAt _ b 0 acc := S.fact (f := rfIs b 0 acc) hF
    have hbx := S.bx 0 ⟨48, [.int .i64 3, .int .i64 0, .int .i64 0, .slice a acc.length cp, pv]⟩ (by kernel_rfl)
    exact sy_ret S (by kernel_rfl) (by kernel_rfl) fun hg => ⟨1, ⟨3, 0, 0, a, cp, b, 0, acc⟩, by rw [hos], hbx, fun x hx => (by
        rw [ho2] at hx
        split at hx
        · cases hx; exact ⟨rfl, rfl, ha, hia2, hb2⟩
        · cases hx), hg⟩
  | true =>
    refine sy_ops 4 S fun bs aa w S => ?_
    by_cases h64 : acc.length ≤ 64
    · have hos : o.isSome = true := by rw [ho2]; simp [h64]
      refine sy_ops 1 S fun bs aa w S => ?_
      refine sy_cast 48 S (congrArg Value.bool (decide_eq_true (by omega) : decide ((acc.length : Int) ≤ 64) = true)) (by kernel_rfl) fun S => ?_
      refine sy_run ⟨0, []⟩ 60 S fun bs aa w S => ?_
      have hia2 : IsAt _ b 0 acc := S.fact (f := rfIs b 0 acc) hF
      have hbx := S.bx 0 ⟨48, [.int .i64 3, .int .i64 0, .int .i64 0, .slice a acc.length cp, pv]⟩ (by kernel_rfl)
      exact sy_ret S (by kernel_rfl) (by kernel_rfl) fun hg => ⟨1, ⟨3, 0, 0, a, cp, b, 0, acc⟩, by rw [hos], hbx, fun x hx => (by
          rw [ho2] at hx
          split at hx
          · cases hx; exact ⟨rfl, rfl, ha, hia2, hb2⟩
          · cases hx), hg⟩
    · have hos : o.isSome = false := by rw [ho2]; simp [h64]
      refine sy_ops 1 S fun bs aa w S => ?_
      refine sy_cast 48 S (congrArg Value.bool (decide_eq_false (by omega) : decide ((acc.length : Int) ≤ 64) = false)) (by kernel_rfl) fun S => ?_
      refine sy_run ⟨0, []⟩ 60 S fun bs aa w S => ?_
      have hia2 : IsAt _ b 0 acc := S.fact (f := rfIs b 0 acc) hF
      have hbx := S.bx 0 ⟨48, [.int .i64 3, .int .i64 0, .int .i64 0, .slice a acc.length cp, pv]⟩ (by kernel_rfl)
      exact sy_ret S (by kernel_rfl) (by kernel_rfl) fun hg => ⟨1, ⟨3, 0, 0, a, cp, b, 0, acc⟩, by rw [hos], hbx, fun x hx => (by
          rw [ho2] at hx
          split at hx
          · cases hx; exact ⟨rfl, rfl, ha, hia2, hb2⟩
          · cases hx), hg⟩
set_option maxHeartbeats 8000000 in
theorem cr_e (w0 : World) (q : Nat) (p0 : Pk) (pv : Value) (fd : Bool) (g : Nat) (ls : List (List Nat)) (hls : ∀ p ∈ ls, ∀ b ∈ p, b < 256) (h3 : ls.length ≤ 4000000001) (o : Option (Pw × Nat)) (ho : o = crF fd (cutsG ls)) (m : Nat) (v : Value) (acc : List Int) (hv : ∀ b, Value.ownBlock v = some b → b ≠ g) (hn : (acc).length = ls.length) (hR : cutsG ls = (cutsG (ls.drop (ls.length))).map fun (x : List Int) => (acc) ++ x) (aa : Act) (w : World) (S : Sy w0 [q] [q] (crS p0 pv fd v g ls.length (ls.length)) [rfLs g 0 ls, rfOwn w0.heap.size 3 1 v (acc).length ((acc).map (Value.int .i64))] aa w) : post Tryd.prog (.rnd (m + 1) (bodyL crC) :: crC.k.tail) (bodyPost Tryd.prog Tryd.f38 (FormP w0 q pv o)) .normal aa w := by
  have hR2 : cutsG ls = some acc := by rw [hR, List.drop_length]; simp [cutsG]
  rw [hR2] at ho
  refine sy_run (c := ⟨(.rnd (m + 1) (bodyL crC) :: crC.k.tail), crS p0 pv fd v g ls.length ls.length⟩) ⟨0, [5]⟩ 50 S fun bs aa w S => ?_
  refine sy_reg S fun S => ?_
  refine sy_ops 1 S fun bs aa w S => ?_
  refine sy_cast 24 S (congrArg Value.bool (decide_eq_false (by omega) : decide ((ls.length : Int) < (ls.length : Int)) = false)) (by kernel_rfl) fun S => ?_
  have how : w.ownsRow w0.heap.size 3 1 v acc.length (acc.map (Value.int .i64)) := S.fact (f := rfOwn w0.heap.size 3 1 v (acc).length ((acc).map (Value.int .i64))) (by simp)
  obtain ⟨a, cp, b, rfl, ha, hia, hb⟩ := sl_of_owns how
  refine sy_run ⟨0, [12]⟩ 60 S fun bs aa w S => ?_
  have how2 : w.ownsRow w0.heap.size 3 1 (.slice a acc.length cp) acc.length (acc.map (Value.int .i64)) := S.fact (f := rfOwn w0.heap.size 3 1 (.slice a acc.length cp) (acc).length ((acc).map (Value.int .i64))) (by simp)
  have hap := (S.fs (rfOwn w0.heap.size 3 1 (.slice a acc.length cp) (acc).length ((acc).map (Value.int .i64))) (by simp)).2
  have hia : IsAt w b 0 acc := fun j hj => by
    have q1 := ha.resolve_left (by omega)
    subst q1
    have hc := how2.cells (g := b) rfl j (.int .i64 (acc.getD j 0)) (by simp [List.getElem?_map, List.getElem?_eq_getElem hj, List.getD])
    have ea : ∀ k, (⟨b, 0, none⟩ : Addr).add k = ⟨b, 0 + k, none⟩ := fun k => by unfold Addr.add; split <;> simp_all
    rw [ea] at hc
    exact hc
  have S := S.add (rfIs b 0 acc) hia (fun i hi hbl => by
    obtain ⟨q1, q2⟩ := hbl
    refine hap i hi ?_
    show Value.ownBlock (.slice a acc.length cp) = some _
    rw [ha.resolve_left q2, ← q1]
    rfl)
  have S2 := S.to [0] ⟨50, [(0, .p 0 0), (7, .v (.bool fd)), (8, .v (.slice a acc.length cp))], [⟨48, [.int .i64 p0.k, .int .i64 p0.a, .int .i64 p0.b, .slice p0.s p0.c.length p0.cp, pv]⟩]⟩ (by kernel_rfl) (by kernel_rfl) (by kernel_rfl) (by kernel_rfl) (by kernel_rfl)
  exact cr_z w0 q p0 pv fd o a cp b acc undef undef undef ho ha hb _ (by kernel_rfl) _ _ _ hia (by simp) S2
theorem cuts_drop {ls : List (List Nat)} {j : Nat} (hj : j < ls.length) : cutsG (ls.drop j) = match numM (ls.getD j []) 32 with | none => none | some n => (cutsG (ls.drop (j + 1))).map fun (q : List Int) => (n : Int) :: q := by
  have h := List.drop_eq_getElem_cons hj
  have e : (ls.getD j []) = ls[j] := by simp [List.getD, List.getElem?_eq_getElem hj]
  rw [h, e]
  rfl
set_option maxHeartbeats 8000000 in
theorem cr_s (w0 : World) (q : Nat) (p0 : Pk) (pv : Value) (fd : Bool) (g : Nat) (ls : List (List Nat)) (hls : ∀ p ∈ ls, ∀ b ∈ p, b < 256) (h3 : ls.length ≤ 4000000001) (o : Option (Pw × Nat)) (ho : o = crF fd (cutsG ls)) (m j : Nat) (hj : j < ls.length) (v : Value) (acc : List Int) (ih : ∀ (v2 : Value) (acc2 : List Int) (hv : ∀ b, Value.ownBlock v2 = some b → b ≠ g) (hn : (acc2).length = j + 1) (hR : cutsG ls = (cutsG (ls.drop (j + 1))).map fun (x : List Int) => (acc2) ++ x) (aa : Act) (w : World) (S : Sy w0 [q] [q] (crS p0 pv fd v2 g ls.length (j + 1)) [rfLs g 0 ls, rfOwn w0.heap.size 3 1 v2 (acc2).length ((acc2).map (Value.int .i64))] aa w), post Tryd.prog (.rnd (m) (bodyL crC) :: crC.k.tail) (bodyPost Tryd.prog Tryd.f38 (FormP w0 q pv o)) .normal aa w) (hv : ∀ b, Value.ownBlock v = some b → b ≠ g) (hn : (acc).length = j) (hR : cutsG ls = (cutsG (ls.drop (j))).map fun (x : List Int) => (acc) ++ x) (aa : Act) (w : World) (S : Sy w0 [q] [q] (crS p0 pv fd v g ls.length (j)) [rfLs g 0 ls, rfOwn w0.heap.size 3 1 v (acc).length ((acc).map (Value.int .i64))] aa w) : post Tryd.prog (.rnd (m + 1) (bodyL crC) :: crC.k.tail) (bodyPost Tryd.prog Tryd.f38 (FormP w0 q pv o)) .normal aa w := by
  have hpb : ∀ b ∈ (ls.getD j []), b < 256 := hls _ (getD_mem ls j [] hj)
  have hdr := cuts_drop hj
  rw [hdr] at hR
  refine sy_run (c := ⟨(.rnd (m + 1) (bodyL crC) :: crC.k.tail), crS p0 pv fd v g ls.length j⟩) ⟨0, [5]⟩ 50 S fun bs aa w S => ?_
  refine sy_reg S fun S => ?_
  refine sy_ops 1 S fun bs aa w S => ?_
  refine sy_cast 24 S (congrArg Value.bool (decide_eq_true (by omega) : decide ((j : Int) < (ls.length : Int)) = true)) (by kernel_rfl) fun S => ?_
  refine sy_run ⟨0, [6]⟩ 60 S fun bs aa w S => ?_
  refine sy_reg S fun S => ?_
  refine sy_ix (b := g) (off := 0) (len := ls.length) (n := j) (size := 1) (i := (j : Int)) S ((by kernel_rfl)) rfl hj fun aa S => ?_
  refine sy_ldo S (ld_at (ty := 9) (b := g) (off := 0 + j * 1) (by kernel_rfl) (by rw [Nat.mul_one]; exact S.fact (f := rfLs g 0 ls) (by simp) j hj)) (by kernel_rfl) fun aa S => ?_
  refine sy_run ⟨0, [7]⟩ 60 S fun bs aa w S => ?_
  refine sy_reg S fun S => ?_
  refine sy_ops 1 S fun bs aa w S => ?_
  cases hn2 : numM (ls.getD j []) 32 with
  | none =>
    rw [hn2] at hR
    have ho2 : o = none := by rw [ho, hR]; rfl
    refine sy_call S (X := Int) (val := fun v => .tuple #[.int .i64 v, .bool false]) (C := fun _ _ => True) (num_n _ hpb hn2) (by kernel_rfl) fun v aa w _ hb S => ?_
    refine sy_run ⟨0, []⟩ 60 S fun bs aa w S => ?_
    have hbx := S.bx 0 ⟨48, [.int .i64 p0.k, .int .i64 p0.a, .int .i64 p0.b, .slice p0.s p0.c.length p0.cp, pv]⟩ (by kernel_rfl)
    exact sy_ret S (by kernel_rfl) (by kernel_rfl) fun hg => ⟨0, p0, by rw [ho2], hbx, fun x hx => (by rw [ho2] at hx; cases hx), hg⟩
  | some n =>
    rw [hn2] at hR
    refine sy_call1 S (num_s _ hpb hn2) (by kernel_rfl) fun aa w hb S => ?_
    refine sy_run ⟨0, [10]⟩ 60 S fun bs aa w S => ?_
    refine sy_reg S fun S => ?_
    refine sy_ops 3 S fun bs aa w S => ?_
    refine sy_nmq q S ⟨by simp, rfl⟩ fun bs hbq S => ?_
    have how := S.fact (f := rfOwn w0.heap.size 3 1 v (acc).length ((acc).map (Value.int .i64))) (by simp)
    have hap := (S.fs (rfOwn w0.heap.size 3 1 v (acc).length ((acc).map (Value.int .i64))) (by simp)).2
    have hblk : ∀ j, j < bs.length → bs.getD j 0 < w.heap.size := fun j hj => S.lt hj
    obtain ⟨ii, hi1, hi2, hi3, hi4⟩ := parts3 infI3
    have hgl : g < w.heap.size := (rfLs g 0 ls).lt w (S.fact (f := rfLs g 0 ls) (by simp)) g ⟨rfl, by omega⟩
    refine sy_appO w0.heap.size (u := .v v) (y := .s 1 0 1 1) (v := v) (ad := adr bs 1 0) (m := 1) (cp := 1) (n := acc.length) (size := 1) (bytes := 8) (e := 3) (t := 23) (xs := acc.map (Value.int .i64)) (news := [.int .i64 (n : Int)]) [rfLs g 0 ls] S (by kernel_rfl) Tryd.underlying23 hi1 hi2 hi3 hi4 rfl (by omega) rfl rfl how S.gr.size (own3 (P := Tryd.prog) (ty := 3) (cs := [.int .i64 (n : Int)]) S 1 (by kernel_rfl)) rfl (by intro u hu; simp only [List.mem_singleton] at hu; subst hu; rfl) (by simp only [maxLen]; omega) (by omega)
      (fun g hg => Or.inr (how.lt g hg).1) (fun f hf => ⟨by simp only [List.mem_singleton] at hf; subst hf; simp, fun b hb => by
        simp only [List.mem_singleton] at hf
        subst hf
        intro hbl
        exact hv b hb hbl.1⟩) (fun j hj hb => hap j hj hb)
      fun v' aa w2 hO hg' hnn S => ?_
    have S := S.add (rfOwn w0.heap.size 3 1 v' (acc ++ [(n : Int)]).length ((acc ++ [(n : Int)]).map (Value.int .i64))) (by rw [List.map_append, List.length_append]; exact hO) (fun j hj hb => (hnn _ hb).elim (fun q => hap j hj q) (fun q => by have := hblk j hj; omega))
    refine sy_run ⟨0, [11]⟩ 60 S fun bs aa w S => ?_
    refine sy_reg S fun S => ?_
    refine sy_ops 1 S fun bs aa w S => ?_
    refine sy_cast 38 S (congrArg (Value.int .i64) (by rw [IntKind.wrap_i64]; omega : IntKind.i64.wrap ((j : Int) + 1) = ((j + 1 : Nat) : Int))) (by kernel_rfl) fun S => ?_
    refine sy_run ⟨0, [999]⟩ 50 S fun bs aa w S => ?_
    have S := S.sub (F' := [rfLs g 0 ls, rfOwn w0.heap.size 3 1 v' (acc ++ [(n : Int)]).length ((acc ++ [(n : Int)]).map (Value.int .i64))]) (by intro f hf; simp only [List.mem_cons, List.not_mem_nil, or_false] at hf; rcases hf with rfl | rfl <;> simp)
    refine sy_nmq q S (by first | exact hbq | exact gd_app hbq | exact gd_app (gd_app hbq) | exact gd_app (gd_app (gd_app hbq))) fun bs hbq2 S => ?_
    have S2 := S.to [0] (crS p0 pv fd v' g ls.length (j + 1)) (by kernel_rfl) (by kernel_rfl) (by kernel_rfl) (by kernel_rfl) (by kernel_rfl)
    rw [show ([0].map fun i => bs.getD i 0) = [q] from congrArg (fun x => [x]) hbq2.2] at S2
    refine sy_at2 (k' := (.rnd (m) (bodyL crC) :: crC.k.tail)) (by kernel_rfl) ?_
    refine ih v' (acc ++ [(n : Int)]) (fun b hb => (hnn b hb).elim (fun q => hv b q) (fun q => by omega)) (by rw [List.length_append, List.length_singleton, hn]) (by rw [hR]; cases cutsG (ls.drop (j + 1)) <;> simp) aa w S2
theorem cr_a (w0 : World) (q : Nat) (p0 : Pk) (pv : Value) (fd : Bool) (g : Nat) (ls : List (List Nat)) (hls : ∀ p ∈ ls, ∀ b ∈ p, b < 256) (h3 : ls.length ≤ 4000000001) (o : Option (Pw × Nat)) (ho : o = crF fd (cutsG ls)) : ∀ (m j : Nat), j + m = ls.length → ∀ (v : Value) (acc : List Int) (hv : ∀ b, Value.ownBlock v = some b → b ≠ g) (hn : (acc).length = j) (hR : cutsG ls = (cutsG (ls.drop (j))).map fun (x : List Int) => (acc) ++ x) (aa : Act) (w : World) (S : Sy w0 [q] [q] (crS p0 pv fd v g ls.length (j)) [rfLs g 0 ls, rfOwn w0.heap.size 3 1 v (acc).length ((acc).map (Value.int .i64))] aa w), post Tryd.prog (.rnd (m + 1) (bodyL crC) :: crC.k.tail) (bodyPost Tryd.prog Tryd.f38 (FormP w0 q pv o)) .normal aa w := by
  intro m
  induction m with
  | zero =>
    intro j hj v acc hv hn hR aa w S
    obtain rfl : j = ls.length := by omega
    exact cr_e w0 q p0 pv fd g ls hls h3 o ho 0 v acc hv hn hR aa w S
  | succ m ih => intro j hj v acc hv hn hR aa w S; exact cr_s w0 q p0 pv fd g ls hls h3 o ho (m + 1) j (by omega) v acc (fun v2 acc2 hv hn hR aa w S => ih (j + 1) (by omega) v2 acc2 hv hn hR aa w S) hv hn hR aa w S
set_option maxHeartbeats 8000000 in
theorem crash_t (w0 : World) (q : Nat) (p0 : Pk) (pv : Value) (hq : w0.heap[q]? = some (.cells #[.int .i64 p0.k, .int .i64 p0.a, .int .i64 p0.b, .slice p0.s p0.c.length p0.cp, pv] 48 (0, 0))) (l : List Nat) (hl : ∀ b ∈ l, b < 256) (hm : rfMx.P w0) (hq0 : ¬q = 0) (h3 : l.length ≤ 4000000000) : Calls Tryd.prog 38 #[.pointer (some ⟨q, 0, none⟩), .string (strOf l)] w0 (FormP w0 q pv (crashS l)) := by
  refine sy_enterR [q] [q] [⟨48, [.int .i64 p0.k, .int .i64 p0.a, .int .i64 p0.b, .slice p0.s p0.c.length p0.cp, pv]⟩] [.p 0 0, .v (.string (strOf l))] [rfMx] rfl (fun i k hk => by
    match i, hk with
    | 0, hk => obtain rfl := Option.some.inj hk; exact hq
    | i + 1, hk => cases hk) (fun i j hi hj _ => by simp at hi hj; omega) (fun i hi => by simp at hi; subst hi; simp) (fun x hx => by simp only [List.mem_cons, List.not_mem_nil, or_false] at hx; rcases hx with rfl | rfl; exact (show 0 < 1 by omega); trivial) (fun f hf => by simp only [List.mem_singleton] at hf; subst hf; exact ⟨hm, fun i hi => by simp at hi; subst hi; show ¬q = 0; exact hq0⟩) Tryd.func38 rfl rfl fun aa S => ?_
  refine sy_run ⟨0, [1]⟩ 60 S fun bs aa w S => ?_
  refine sy_reg S fun S => ?_
  refine sy_ops 1 S fun bs aa w S => ?_
  have hT : ∃ (t : List Nat) (fd : Bool), (∀ b ∈ t, b < 256) ∧ t.length ≤ 4000000000 ∧ crashS l = crF fd (cutsS t) ∧ ∀ w : World, Calls Tryd.prog 49 #[.string (strOf l), .string (strOf [33])] w fun e w' => e = .returned (.tuple #[.string (strOf t), .bool fd]) ∧ Below w.heap.size w w' := by
    by_cases h : ∃ t, l = 33 :: t
    · obtain ⟨t, rfl⟩ := h
      exact ⟨t, true, fun b hb => hl b (by simp [hb]), by simp at h3; omega, crashS_s t, fun w => cpre_s w t⟩
    · exact ⟨l, false, hl, h3, crashS_n l (fun t e => h ⟨t, e⟩) _, fun w => cpre_n w l hl (fun t e => h ⟨t, e⟩)⟩
  obtain ⟨t, fd, htb, ht3, hcs, hC⟩ := hT
  refine sy_call1 S (hC _) (by kernel_rfl) fun aa w hb S => ?_
  generalize crashS l = o at hcs ⊢
  refine sy_run ⟨0, [3]⟩ 60 S fun bs aa w S => ?_
  refine sy_reg S fun S => ?_
  refine sy_ops 1 S fun bs aa w S => ?_
  by_cases hte : t = []
  · refine sy_ex (op := .binOp .neq 9 (.tmp 18) (.const (.string ⟨#[]⟩)) 9) (ty := 4) (v := .bool false) S (by kernel_rfl) (ex_neL (l := t) (m := []) (by kernel_rfl) (by kernel_rfl) htb (by simp) (by rw [decide_eq_true hte]; rfl)) fun aa S => ?_
    have ho : o = crF fd (some []) := by rw [hcs]; unfold cutsS; rw [if_pos hte]
    refine sy_run ⟨0, [12]⟩ 60 S fun bs aa w S => ?_
    have S := S.add (rfIs 0 0 []) (fun j hj => absurd hj (Nat.not_lt_zero _)) (fun i hi hbl => hbl.2 rfl)
    have S2 := S.to [0] ⟨50, [(0, .p 0 0), (7, .v (.bool fd)), (8, .v (.slice none ([] : List Int).length 0))], [⟨48, [.int .i64 p0.k, .int .i64 p0.a, .int .i64 p0.b, .slice p0.s p0.c.length p0.cp, pv]⟩]⟩ (by kernel_rfl) (by kernel_rfl) (by kernel_rfl) (by kernel_rfl) (by kernel_rfl)
    exact cr_z w0 q p0 pv fd o none 0 0 [] undef undef undef ho (Or.inl rfl) (Or.inl rfl) _ (by kernel_rfl) _ _ _ (fun j hj => absurd hj (Nat.not_lt_zero _)) (by simp) S2
  · refine sy_ex (op := .binOp .neq 9 (.tmp 18) (.const (.string ⟨#[]⟩)) 9) (ty := 4) (v := .bool true) S (by kernel_rfl) (ex_neL (l := t) (m := []) (by kernel_rfl) (by kernel_rfl) htb (by simp) (by rw [decide_eq_false hte]; rfl)) fun aa S => ?_
    have ho : o = crF fd (cutsG (splL 44 t)) := by rw [hcs]; unfold cutsS; rw [if_neg hte]
    refine sy_run ⟨0, [4]⟩ 60 S fun bs aa w S => ?_
    refine sy_reg S fun S => ?_
    refine sy_ops 1 S fun bs aa w S => ?_
    refine sy_nmq q S ⟨by simp, rfl⟩ fun bs hbq S => ?_
    have hblk : ∀ j, j < bs.length → bs.getD j 0 < w.heap.size := fun j hj => S.lt hj
    refine sy_call S (X := Nat) (val := fun g => .slice (some ⟨g, 0, none⟩) (splL 44 t).length (splL 44 t).length) (C := fun g w' => w.heap.size ≤ g ∧ LsAt w' g 0 (splL 44 t)) (split_t w (S.fact (f := rfMx) (by simp)) t htb ht3) (by kernel_rfl) fun g aa w2 hC hb S => ?_
    obtain ⟨hg, hLs⟩ := hC
    have S := S.add (rfLs g 0 (splL 44 t)) hLs (fun i hi hbl => by
      have h1 := hbl.1
      have := hblk i hi
      omega)
    have S := S.add (rfOwn w0.heap.size 3 1 (.slice none 0 0) (([] : List Int)).length ((([] : List Int)).map (Value.int .i64))) (own_nilI _ _) (fun i hi hbl => by cases hbl)
    refine sy_run ⟨0, []⟩ 60 S fun bs aa w S => ?_
    have S := S.sub (F' := [rfLs g 0 (splL 44 t), rfOwn w0.heap.size 3 1 (.slice none 0 0) (([] : List Int)).length ((([] : List Int)).map (Value.int .i64))]) (by intro f hf; simp only [List.mem_cons, List.not_mem_nil, or_false] at hf; rcases hf with rfl | rfl <;> simp)
    refine sy_nmq q S (by first | exact hbq | exact gd_app hbq | exact gd_app (gd_app hbq) | exact gd_app (gd_app (gd_app hbq))) fun bs hbq2 S => ?_
    have S2 := S.to [0] (crS p0 pv fd (.slice none 0 0) g (splL 44 t).length 0) (by kernel_rfl) (by kernel_rfl) (by kernel_rfl) (by kernel_rfl) (by kernel_rfl)
    rw [show ([0].map fun i => bs.getD i 0) = [q] from congrArg (fun x => [x]) hbq2.2] at S2
    refine sy_loop ((splL 44 t).length + 1) (by kernel_rfl) ?_
    refine sy_at2 (k' := (.rnd ((splL 44 t).length + 1) (bodyL crC) :: crC.k.tail)) (by kernel_rfl) ?_
    have hsp := splL_pos 44 t
    exact cr_a w0 q p0 pv fd g (splL 44 t) (fun p hp b hb => htb b (splL_mem 44 t p hp b hb)) (by omega) o ho (splL 44 t).length 0 (by omega) (.slice none 0 0) [] (fun b hb => by cases hb) rfl (by rw [List.drop_zero]; cases cutsG (splL 44 t) <;> simp) aa _ S2
end Go.Proofs.YtfkmcibglaiakaaDoor
