/-
  Merged: DkO, Dk7, Dk8, Dk9, Dk10, DkP, DkQ, Dk11, Dk12, Dk15, Dk17, DkT, Dk18
-/
import Derived.Test.YtnlcjlhcghgaoaaRows
import Derived.Test.YtnlcjlhcghgaoaaPm2
import Derived.Test.YtnlcjlhcghgaoaaPm9
import Derived.Deep.Fields
import Derived.Deep.Slices
import Derived.WalkKit
import Derived.Test.YtnlcjlhcghgaoaaPm3

/-
  Layer 22: a row of bytes, as an argument.
-/
namespace Go.Proofs.Ytnlcjlhcghgaoaa
open Go.ChangeShapes Go.WideShapes Go.ChangeAt Go.RowKit Go.Deep
set_option maxRecDepth 100000
/-- A row of bytes. -/
def HasBy (w : World) (v : Value) (l : List Nat) : Prop := ∃ a cap, v = .slice a l.length cap ∧ l.length ≤ cap ∧ (l.length = 0 ∨ ∃ b o, a = some ⟨b, o, none⟩ ∧ ByAt w b o l)
section
variable {H : Type} {enc : TypeId × Value → H} {W : World}
theorem cells_u8 : Try.prog.cellsOf 5 = 1 := by kernel_rfl
theorem open_bytesArg {r : Reach} {b0 : Nat} {v : Value} {d : DataW H} {p : List MemPlace} (hv : Value.okWide Try.prog W r b0 41 v) (h : DataW.Trod enc Try.prog W 0 (fun _ => true) true 41 v d p) :
    ∃ l, HasBy W v l ∧ ∀ b ∈ l, b < 256 := by
  obtain ⟨a0, len0, cap0, rfl⟩ := okWide_slice Try.underlying41 hv
  obtain ⟨fuel, hf⟩ := h
  rcases open_ints Try.underlying41 Try.underlying5 cells_u8 hf with ⟨hcs, _⟩ | ⟨a, len, cap, zs, hcs, _, hl, hm, hz, _, hcell, hwf⟩
  · simp [Value.cells] at hcs
    obtain ⟨rfl, rfl, rfl⟩ := hcs
    exact ⟨[], ⟨none, 0, rfl, Nat.le_refl _, Or.inl rfl⟩, by simp⟩
  · simp [Value.cells] at hcs
    obtain ⟨rfl, rfl, rfl⟩ := hcs
    simp only [if_true] at hz
    have hb : ∀ n ∈ zs, 0 ≤ n ∧ n < 256 := fun n hn => by have := u8_of_wf (hwf n hn); omega
    have hlen : ((zs.take len0).map Int.toNat).length = len0 := by rw [List.length_map, List.length_take]; omega
    refine ⟨(zs.take len0).map Int.toNat, ⟨some a, cap0, by rw [hlen], by rw [hlen]; exact hl, ?_⟩, ?_⟩
    · by_cases h0 : len0 = 0
      · exact Or.inl (by rw [hlen]; exact h0)
      · obtain ⟨b, off, spot⟩ := a
        have hspot : spot = none := by simpa [Addr.add] using World.cell?_spot (hcell 0 (by omega))
        subst hspot
        refine Or.inr ⟨b, off, rfl, fun j hj => ?_⟩
        rw [hlen] at hj
        have h1 := hcell j (by omega)
        rw [add_plain] at h1
        rw [h1]
        have hjz : j < zs.length := by omega
        have h2 := hb zs[j] (List.getElem_mem hjz)
        simp [List.getD, hj, List.getElem?_eq_getElem hjz]
        omega
    · intro b hb'
      obtain ⟨n, hn, rfl⟩ := List.mem_map.1 hb'
      have := hb n (List.mem_of_mem_take hn)
      omega

end
end Go.Proofs.Ytnlcjlhcghgaoaa


/-
  Layer 22: what a list of commands leaves.
-/
namespace Go.Proofs.Ytnlcjlhcghgaoaa
open Go Go.RowKit SZ
set_option linter.unusedVariables false
set_option linter.unusedSimpArgs false
set_option maxRecDepth 100000
attribute [local irreducible] post GD Nxt NxtAll
/-- The last write to a sector. -/
def lastD (D : List (Int × ByteArray)) (at_ : Nat) (z : ByteArray) : ByteArray := D.foldl (fun w x => if x.1 = (at_ : Int) then x.2 else w) z
theorem lastD_app (D : List (Int × ByteArray)) (x : Int × ByteArray) (at_ : Nat) (z : ByteArray) : lastD (D ++ [x]) at_ z = if x.1 = (at_ : Int) then x.2 else lastD D at_ z := by simp [lastD]
theorem lastD_succ (D : List (Int × ByteArray)) (i : Nat) (h : i < D.length) (at_ : Nat) (z : ByteArray) : lastD (D.take (i + 1)) at_ z = if (D.getD i (0, ByteArray.empty)).1 = (at_ : Int) then (D.getD i (0, ByteArray.empty)).2 else lastD (D.take i) at_ z := by
  have e := List.take_succ_eq_append_getElem h
  rw [e, lastD_app]
  simp [List.getD, List.getElem?_eq_getElem h]
structure WInv (n : Nat) (x : List ByteArray × List (Int × ByteArray) × List (Int × ByteArray)) : Prop where
  len : x.1.length = n
  sz : ∀ s ∈ x.1, s.size = 32
  w : ∀ y ∈ x.2.1, (0 ≤ y.1 ∧ y.1 < (n : Int)) ∧ y.2.size = 32
  d : ∀ y ∈ x.2.2, (0 ≤ y.1 ∧ y.1 < (n : Int)) ∧ y.2.size = 32
  last : ∀ j, j < n → x.1.getD j ByteArray.empty = lastD x.2.2 j z32
theorem winv_0 (n : Nat) : WInv n (List.replicate n z32, [], []) := by
  refine ⟨by simp, fun s hs => ?_, by simp, by simp, fun j hj => by simp [lastD, List.getD, List.getElem?_replicate, hj]⟩
  rw [List.eq_of_mem_replicate hs]
  rfl
theorem winv_step (n : Nat) (hn : 0 < n) (x : List ByteArray × List (Int × ByteArray) × List (Int × ByteArray)) (h : WInv n x) (c : Nat) : WInv n (wstep n x c) := by
  unfold wstep
  split
  · exact ⟨h.len, h.sz, by simp, h.d, h.last⟩
  · have hm := Nat.mod_lt c hn
    refine ⟨by simp [h.len], fun s hs => ?_, fun y hy => ?_, fun y hy => ?_, fun j hj => ?_⟩
    · rcases List.mem_or_eq_of_mem_set hs with h1 | rfl
      · exact h.sz s h1
      · exact full_size _
    · rcases List.mem_append.1 hy with h1 | h1
      · exact h.w y h1
      · simp only [List.mem_singleton] at h1
        subst h1
        refine ⟨⟨by show (0 : Int) ≤ ((c % n : Nat) : Int); omega, by show ((c % n : Nat) : Int) < (n : Int); omega⟩, ?_⟩
        have hl : c % n < x.1.length := by rw [h.len]; exact hm
        show (x.1.getD (c % n) ByteArray.empty).size = 32
        have e : x.1.getD (c % n) ByteArray.empty = x.1[c % n] := by simp [List.getD, List.getElem?_eq_getElem hl]
        rw [e]
        exact h.sz _ (List.getElem_mem hl)
    · rcases List.mem_append.1 hy with h1 | h1
      · exact h.d y h1
      · simp only [List.mem_singleton] at h1
        subst h1
        exact ⟨⟨by show (0 : Int) ≤ ((c % n : Nat) : Int); omega, by show ((c % n : Nat) : Int) < (n : Int); omega⟩, full_size _⟩
    · show (x.1.set (c % n) _).getD j ByteArray.empty = lastD (x.2.2 ++ _) j z32
      rw [lastD_app]
      by_cases e : c % n = j
      · subst e
        simp [List.getD, List.getElem?_set, h.len, hm]
      · have e2 : ¬ (((c % n : Nat) : Int) = (j : Int)) := by omega
        have h3 := h.last j hj
        rw [if_neg e2, ← h3]
        simp [List.getD, List.getElem?_set, e]
theorem winv (n : Nat) (hn : 0 < n) (l : List Nat) : WInv n (wall n l) := by
  have key : ∀ (l : List Nat) x, WInv n x → WInv n (l.foldl (wstep n) x) := by
    intro l
    induction l with
    | nil => intro x h; exact h
    | cons c l ih => intro x h; exact ih _ (winv_step n hn x h c)
  exact key l _ (winv_0 n)
theorem getD_mem {α : Type} (l : List α) (j : Nat) (z : α) (h : j < l.length) : l.getD j z ∈ l := by
  have e : l.getD j z = l[j] := by simp [List.getD, List.getElem?_eq_getElem h]
  rw [e]
  exact List.getElem_mem h
theorem WI.right {w0 : World} {k : Nat} {l : List Nat} {i : Nat} {d : Dk} {D : List (Int × ByteArray)} (h : WI w0 k l i d D) : d.right := by
  have hv := winv (k + 1) (Nat.succ_pos _) (l.take i)
  rw [h.eq] at hv
  refine ⟨fun j hj => hv.sz _ (getD_mem _ _ _ (by rw [h.ok.hS]; exact hj)), fun j hj => ?_⟩
  have := hv.w _ (getD_mem d.W j (0, ByteArray.empty) (by rw [h.ok.hW]; exact hj))
  exact ⟨⟨this.1.1, by have := this.1.2; rw [h.sl]; exact this⟩, this.2⟩
/-- A list of commands, its writes as a row. -/
theorem written_u (w0 : World) (k : Nat) (hk : k < 6) (l : List Nat) (hl : l.length ≤ 40) (h256 : ∀ i, i < l.length → l.getD i 0 < 256) (pa : Option Addr) (lc lb lo : Nat) (hp : l.length = 0 ∨ pa = some ⟨lb, lo, none⟩) (hL : ByAt w0 lb lo l) : Calls Try.prog 23 #[.int .i64 ((k + 1 : Nat) : Int), .slice pa l.length lc] w0 fun e w' =>
    ∃ x : Dk × Option Addr × Nat × Nat × List (Int × ByteArray), e = .returned (.tuple #[x.1.v, .slice x.2.1 x.2.2.2.2.length x.2.2.1, .bool true]) ∧ (WI w0 k l l.length x.1 x.2.2.2.2 ∧ StrAt w' x.1.b x.1.o x.1.S ∧ WasAt w' x.1.c x.1.p x.1.W ∧ (x.2.2.2.2.length = 0 ∨ x.2.1 = some ⟨x.2.2.2.1, 0, none⟩) ∧ (x.2.2.2.2.length = 0 ∨ w0.heap.size ≤ x.2.2.2.1) ∧ WasAt w' x.2.2.2.1 0 x.2.2.2.2) ∧ Below w0.heap.size w0 w' := by
  refine (written_t w0 k hk l hl h256 pa lc lb lo hp hL).mono fun e w' ⟨d, v, D, h1, h2, h3, h4, h5, h6⟩ => ?_
  rcases h5.2 with ⟨rfl, h⟩ | ⟨g, cap, cur, rfl, hg0, hgc, _, _, _, htk⟩
  · have h0 : D = [] := List.eq_nil_of_length_eq_zero h
    subst h0
    exact ⟨(d, none, 0, 0, []), h1, ⟨h2, h3, h4, Or.inl rfl, Or.inl rfl, fun j hj => absurd hj (Nat.not_lt_zero _)⟩, h6⟩
  · exact ⟨(d, some ⟨g, 0, none⟩, cap, g, D), h1, ⟨h2, h3, h4, Or.inr rfl, Or.inr hg0, wasAt_of (cs := cur.toList) (by simpa using hgc) htk⟩, h6⟩
end Go.Proofs.Ytnlcjlhcghgaoaa


/-
  Layer 22: each sector reads as the last write to it.
-/
namespace Go.Proofs.Ytnlcjlhcghgaoaa
open Go Go.RowKit SZ
set_option linter.unusedVariables false
set_option linter.unusedSimpArgs false
set_option maxRecDepth 100000
attribute [local irreducible] post GD Nxt NxtAll
noncomputable def ouC : Cfg := ⟨goZ 60 [0] [.code (bodyOf Try.f4)], ⟨0, [], []⟩⟩
noncomputable def inC (M : Nat) : Cfg := ⟨goZ 60 [1] (.code (bodyL ouC) :: .rnd M (bodyL ouC) :: ouC.k.tail), ⟨0, [], []⟩⟩
noncomputable def ouS (k at_ n : Nat) (ga : Option Addr) (gc : Nat) (d : Dk) : SS := ⟨79, [(5, .v (.bool true)), (6, .v (.int .i64 ((k + 1 : Nat) : Int))), (7, .p 0 0), (8, .v (.slice ga n gc)), (9, .v (.bool true)), (10, .v (.int .i64 (at_ : Int)))], [⟨25, d.cs⟩]⟩
noncomputable def inS (k at_ n i : Nat) (ga : Option Addr) (gc : Nat) (d : Dk) (X : ByteArray) : SS := ⟨79, [(5, .v (.bool true)), (6, .v (.int .i64 ((k + 1 : Nat) : Int))), (7, .p 0 0), (8, .v (.slice ga n gc)), (9, .v (.bool true)), (10, .v (.int .i64 (at_ : Int))), (11, .v (.string X)), (12, .v (.int .i64 (i : Int)))], [⟨25, d.cs⟩]⟩
set_option maxHeartbeats 8000000 in
theorem in_eq (w0 : World) (k : Nat) (hk : k < 6) (d : Dk) (hd : d.ok) (hsl : d.sl = k + 1) (hr : d.right) (D : List (Int × ByteArray)) (hdl : D.length ≤ 40) (hla : ∀ j, j < k + 1 → d.S.getD j ByteArray.empty = lastD D j z32) (ga : Option Addr) (gc g : Nat) (hg : D.length = 0 ∨ ga = some ⟨g, 0, none⟩) (M m at_ i : Nat) (ha : at_ < k + 1) (hi : i < D.length) (he : (D.getD i (0, ByteArray.empty)).1 = (at_ : Int)) (ih : ∀ (bb : Nat) (aa : Act) (w : World) (S : Sy w0 [] [bb] (inS k at_ D.length (i + 1) ga gc d (lastD (D.take (i + 1)) at_ z32)) [rfSt d.b d.o d.S, rfWs d.c d.p d.W, rfWs g 0 D] aa w), post Try.prog (.rnd (m) (bodyL (inC M)) :: (inC M).k.tail) (bodyPost Try.prog Try.f4 fun e w' => e = .returned (.bool true) ∧ Below w0.heap.size w0 w') .normal aa w) (bb : Nat) (aa : Act) (w : World) (S : Sy w0 [] [bb] (inS k at_ D.length (i) ga gc d (lastD (D.take (i)) at_ z32)) [rfSt d.b d.o d.S, rfWs d.c d.p d.W, rfWs g 0 D] aa w) : post Try.prog (.rnd (m + 1) (bodyL (inC M)) :: (inC M).k.tail) (bodyPost Try.prog Try.f4 fun e w' => e = .returned (.bool true) ∧ Below w0.heap.size w0 w') .normal aa w := by
  obtain rfl := hg.resolve_left (by omega)
  have e := lastD_succ D i hi at_ z32
  rw [if_pos he] at e
  refine sy_run (c := ⟨(.rnd (m + 1) (bodyL (inC M)) :: (inC M).k.tail), inS k at_ D.length (i) (some ⟨g, 0, none⟩) gc d (lastD (D.take (i)) at_ z32)⟩) ⟨0, [11]⟩ 50 S fun bs aa w S => ?_
  refine sy_reg S fun S => ?_
  refine sy_ops 4 S fun bs aa w S => ?_
  refine sy_cast 43 S (congrArg Value.bool (by simp; omega : decide (((i : Nat) : Int) < (D.length : Int)) = true)) (by kernel_rfl) fun S => ?_
  refine sy_run ⟨0, [13]⟩ 60 S fun bs aa w S => ?_
  refine sy_reg S fun S => ?_
  refine sy_ops 2 S fun bs aa w S => ?_
  refine sy_ix (b := g) (off := 0) (len := D.length) (n := i) (size := 2) (i := (i : Int)) S (by kernel_rfl) rfl hi fun aa S => ?_
  refine sy_ops 1 S fun bs aa w S => ?_
  refine sy_ldo S (ld_at (ty := 3) (b := g) (off := 0 + i * 2) (by kernel_rfl) ((S.fact (f := rfWs g 0 D) (by simp)) i hi).1) (by kernel_rfl) fun aa S => ?_
  refine sy_ops 2 S fun bs aa w S => ?_
  refine sy_cast 52 S (congrArg Value.bool (decide_eq_true he : decide ((D.getD i (0, ByteArray.empty)).1 = (at_ : Int)) = true)) (by kernel_rfl) fun S => ?_
  refine sy_run ⟨0, [14]⟩ 60 S fun bs aa w S => ?_
  refine sy_reg S fun S => ?_
  refine sy_ops 2 S fun bs aa w S => ?_
  refine sy_ix (b := g) (off := 0) (len := D.length) (n := i) (size := 2) (i := (i : Int)) S (by kernel_rfl) rfl hi fun aa S => ?_
  refine sy_ops 1 S fun bs aa w S => ?_
  refine sy_ldo S (ld_at (ty := 9) (b := g) (off := 0 + i * 2 + 1) (by kernel_rfl) ((S.fact (f := rfWs g 0 D) (by simp)) i hi).2) (by kernel_rfl) fun aa S => ?_
  refine sy_run ⟨0, [12]⟩ 60 S fun bs aa w S => ?_
  refine sy_reg S fun S => ?_
  refine sy_ops 2 S fun bs aa w S => ?_
  refine sy_cast 45 S (congrArg (Value.int .i64) (by rw [IntKind.wrap_i64]; omega : IntKind.i64.wrap ((i : Int) + 1) = ((i + 1 : Nat) : Int))) (by kernel_rfl) fun S => ?_
  refine sy_run ⟨0, [999]⟩ 50 S fun bs aa w S => ?_
  have S2 := S.to [0] (inS k at_ D.length (i + 1) (some ⟨g, 0, none⟩) gc d (D.getD i (0, ByteArray.empty)).2) (by kernel_rfl) (by kernel_rfl) (by kernel_rfl) (by kernel_rfl) (by kernel_rfl)
  rw [← e] at S2
  refine sy_at2 (k' := (.rnd (m) (bodyL (inC M)) :: (inC M).k.tail)) (by kernel_rfl) ?_
  exact ih _ aa w S2
set_option maxHeartbeats 8000000 in
theorem in_ne (w0 : World) (k : Nat) (hk : k < 6) (d : Dk) (hd : d.ok) (hsl : d.sl = k + 1) (hr : d.right) (D : List (Int × ByteArray)) (hdl : D.length ≤ 40) (hla : ∀ j, j < k + 1 → d.S.getD j ByteArray.empty = lastD D j z32) (ga : Option Addr) (gc g : Nat) (hg : D.length = 0 ∨ ga = some ⟨g, 0, none⟩) (M m at_ i : Nat) (ha : at_ < k + 1) (hi : i < D.length) (he : ¬ (D.getD i (0, ByteArray.empty)).1 = (at_ : Int)) (ih : ∀ (bb : Nat) (aa : Act) (w : World) (S : Sy w0 [] [bb] (inS k at_ D.length (i + 1) ga gc d (lastD (D.take (i + 1)) at_ z32)) [rfSt d.b d.o d.S, rfWs d.c d.p d.W, rfWs g 0 D] aa w), post Try.prog (.rnd (m) (bodyL (inC M)) :: (inC M).k.tail) (bodyPost Try.prog Try.f4 fun e w' => e = .returned (.bool true) ∧ Below w0.heap.size w0 w') .normal aa w) (bb : Nat) (aa : Act) (w : World) (S : Sy w0 [] [bb] (inS k at_ D.length (i) ga gc d (lastD (D.take (i)) at_ z32)) [rfSt d.b d.o d.S, rfWs d.c d.p d.W, rfWs g 0 D] aa w) : post Try.prog (.rnd (m + 1) (bodyL (inC M)) :: (inC M).k.tail) (bodyPost Try.prog Try.f4 fun e w' => e = .returned (.bool true) ∧ Below w0.heap.size w0 w') .normal aa w := by
  obtain rfl := hg.resolve_left (by omega)
  have e := lastD_succ D i hi at_ z32
  rw [if_neg he] at e
  refine sy_run (c := ⟨(.rnd (m + 1) (bodyL (inC M)) :: (inC M).k.tail), inS k at_ D.length (i) (some ⟨g, 0, none⟩) gc d (lastD (D.take (i)) at_ z32)⟩) ⟨0, [11]⟩ 50 S fun bs aa w S => ?_
  refine sy_reg S fun S => ?_
  refine sy_ops 4 S fun bs aa w S => ?_
  refine sy_cast 43 S (congrArg Value.bool (by simp; omega : decide (((i : Nat) : Int) < (D.length : Int)) = true)) (by kernel_rfl) fun S => ?_
  refine sy_run ⟨0, [13]⟩ 60 S fun bs aa w S => ?_
  refine sy_reg S fun S => ?_
  refine sy_ops 2 S fun bs aa w S => ?_
  refine sy_ix (b := g) (off := 0) (len := D.length) (n := i) (size := 2) (i := (i : Int)) S (by kernel_rfl) rfl hi fun aa S => ?_
  refine sy_ops 1 S fun bs aa w S => ?_
  refine sy_ldo S (ld_at (ty := 3) (b := g) (off := 0 + i * 2) (by kernel_rfl) ((S.fact (f := rfWs g 0 D) (by simp)) i hi).1) (by kernel_rfl) fun aa S => ?_
  refine sy_ops 2 S fun bs aa w S => ?_
  refine sy_cast 52 S (congrArg Value.bool (decide_eq_false he : decide ((D.getD i (0, ByteArray.empty)).1 = (at_ : Int)) = false)) (by kernel_rfl) fun S => ?_
  refine sy_run ⟨0, [12]⟩ 60 S fun bs aa w S => ?_
  refine sy_reg S fun S => ?_
  refine sy_ops 2 S fun bs aa w S => ?_
  refine sy_cast 45 S (congrArg (Value.int .i64) (by rw [IntKind.wrap_i64]; omega : IntKind.i64.wrap ((i : Int) + 1) = ((i + 1 : Nat) : Int))) (by kernel_rfl) fun S => ?_
  refine sy_run ⟨0, [999]⟩ 50 S fun bs aa w S => ?_
  have S2 := S.to [0] (inS k at_ D.length (i + 1) (some ⟨g, 0, none⟩) gc d (lastD (D.take i) at_ z32)) (by kernel_rfl) (by kernel_rfl) (by kernel_rfl) (by kernel_rfl) (by kernel_rfl)
  rw [← e] at S2
  refine sy_at2 (k' := (.rnd (m) (bodyL (inC M)) :: (inC M).k.tail)) (by kernel_rfl) ?_
  exact ih _ aa w S2
set_option maxHeartbeats 8000000 in
theorem in_end (w0 : World) (k : Nat) (hk : k < 6) (d : Dk) (hd : d.ok) (hsl : d.sl = k + 1) (hr : d.right) (D : List (Int × ByteArray)) (hdl : D.length ≤ 40) (hla : ∀ j, j < k + 1 → d.S.getD j ByteArray.empty = lastD D j z32) (ga : Option Addr) (gc g : Nat) (hg : D.length = 0 ∨ ga = some ⟨g, 0, none⟩) (M m at_ : Nat) (ha : at_ < k + 1) (ihO : ∀ (bb : Nat) (aa : Act) (w : World) (S : Sy w0 [] [bb] (ouS k (at_ + 1) D.length ga gc d) [rfSt d.b d.o d.S, rfWs d.c d.p d.W, rfWs g 0 D] aa w), post Try.prog (.rnd (M) (bodyL ouC) :: ouC.k.tail) (bodyPost Try.prog Try.f4 fun e w' => e = .returned (.bool true) ∧ Below w0.heap.size w0 w') .normal aa w) (bb : Nat) (aa : Act) (w : World) (S : Sy w0 [] [bb] (inS k at_ D.length (D.length) ga gc d (lastD (D.take (D.length)) at_ z32)) [rfSt d.b d.o d.S, rfWs d.c d.p d.W, rfWs g 0 D] aa w) : post Try.prog (.rnd (m + 1) (bodyL (inC M)) :: (inC M).k.tail) (bodyPost Try.prog Try.f4 fun e w' => e = .returned (.bool true) ∧ Below w0.heap.size w0 w') .normal aa w := by
  refine sy_run (c := ⟨(.rnd (m + 1) (bodyL (inC M)) :: (inC M).k.tail), inS k at_ D.length (D.length) ga gc d (lastD (D.take (D.length)) at_ z32)⟩) ⟨0, [11]⟩ 50 S fun bs aa w S => ?_
  refine sy_reg S fun S => ?_
  refine sy_ops 4 S fun bs aa w S => ?_
  refine sy_cast 43 S (congrArg Value.bool (by simp : decide (((D.length : Nat) : Int) < (D.length : Int)) = false)) (by kernel_rfl) fun S => ?_
  refine sy_run ⟨0, [15]⟩ 60 S fun bs aa w S => ?_
  refine sy_reg S fun S => ?_
  refine sy_ops 2 S fun bs aa w S => ?_
  refine sy_call1 S (read_t d hd at_ (by omega) w (S.fact (f := rfSt d.b d.o d.S) (by simp))) (by kernel_rfl) fun aa w hb S => ?_
  refine sy_run ⟨0, [16]⟩ 60 S fun bs aa w S => ?_
  refine sy_reg S fun S => ?_
  refine sy_ops 3 S fun bs aa w S => ?_
  refine sy_cast 66 S (congrArg Value.bool (by rw [List.take_length, hla at_ ha]; simp : (!((d.S.getD at_ ByteArray.empty).toList == (lastD (D.take D.length) at_ z32).toList)) = false)) (by kernel_rfl) fun S => ?_
  refine sy_run ⟨0, [8]⟩ 60 S fun bs aa w S => ?_
  refine sy_reg S fun S => ?_
  refine sy_ops 2 S fun bs aa w S => ?_
  refine sy_cast 38 S (congrArg (Value.int .i64) (by rw [IntKind.wrap_i64]; omega : IntKind.i64.wrap ((at_ : Int) + 1) = ((at_ + 1 : Nat) : Int))) (by kernel_rfl) fun S => ?_
  refine sy_run ⟨0, [999]⟩ 50 S fun bs aa w S => ?_
  have S2 := S.to [0] (ouS k (at_ + 1) D.length ga gc d) (by kernel_rfl) (by kernel_rfl) (by kernel_rfl) (by kernel_rfl) (by kernel_rfl)
  refine sy_at2 (k' := (.rnd (M) (bodyL ouC) :: ouC.k.tail)) (by kernel_rfl) ?_
  exact ihO _ aa w S2
theorem in_all (w0 : World) (k : Nat) (hk : k < 6) (d : Dk) (hd : d.ok) (hsl : d.sl = k + 1) (hr : d.right) (D : List (Int × ByteArray)) (hdl : D.length ≤ 40) (hla : ∀ j, j < k + 1 → d.S.getD j ByteArray.empty = lastD D j z32) (ga : Option Addr) (gc g : Nat) (hg : D.length = 0 ∨ ga = some ⟨g, 0, none⟩) (M at_ : Nat) (ha : at_ < k + 1) (ihO : ∀ (bb : Nat) (aa : Act) (w : World) (S : Sy w0 [] [bb] (ouS k (at_ + 1) D.length ga gc d) [rfSt d.b d.o d.S, rfWs d.c d.p d.W, rfWs g 0 D] aa w), post Try.prog (.rnd (M) (bodyL ouC) :: ouC.k.tail) (bodyPost Try.prog Try.f4 fun e w' => e = .returned (.bool true) ∧ Below w0.heap.size w0 w') .normal aa w) : ∀ (r i : Nat), i + r = D.length → ∀ (bb : Nat) (aa : Act) (w : World) (S : Sy w0 [] [bb] (inS k at_ D.length (i) ga gc d (lastD (D.take (i)) at_ z32)) [rfSt d.b d.o d.S, rfWs d.c d.p d.W, rfWs g 0 D] aa w), post Try.prog (.rnd (r + 1) (bodyL (inC M)) :: (inC M).k.tail) (bodyPost Try.prog Try.f4 fun e w' => e = .returned (.bool true) ∧ Below w0.heap.size w0 w') .normal aa w := by
  intro r
  induction r with
  | zero => intro i hi bb aa w S; obtain rfl : i = D.length := by omega
            exact in_end w0 k hk d hd hsl hr D hdl hla ga gc g hg M 0 at_ ha ihO bb aa w S
  | succ r ih =>
    intro i hi bb aa w S
    by_cases he : (D.getD i (0, ByteArray.empty)).1 = (at_ : Int)
    · exact in_eq w0 k hk d hd hsl hr D hdl hla ga gc g hg M (r + 1) at_ i ha (by omega) he (ih (i + 1) (by omega)) bb aa w S
    · exact in_ne w0 k hk d hd hsl hr D hdl hla ga gc g hg M (r + 1) at_ i ha (by omega) he (ih (i + 1) (by omega)) bb aa w S
set_option maxHeartbeats 8000000 in
theorem ou_step (w0 : World) (k : Nat) (hk : k < 6) (d : Dk) (hd : d.ok) (hsl : d.sl = k + 1) (hr : d.right) (D : List (Int × ByteArray)) (hdl : D.length ≤ 40) (hla : ∀ j, j < k + 1 → d.S.getD j ByteArray.empty = lastD D j z32) (ga : Option Addr) (gc g : Nat) (hg : D.length = 0 ∨ ga = some ⟨g, 0, none⟩) (M at_ : Nat) (ha : at_ < k + 1) (ihO : ∀ (bb : Nat) (aa : Act) (w : World) (S : Sy w0 [] [bb] (ouS k (at_ + 1) D.length ga gc d) [rfSt d.b d.o d.S, rfWs d.c d.p d.W, rfWs g 0 D] aa w), post Try.prog (.rnd (M) (bodyL ouC) :: ouC.k.tail) (bodyPost Try.prog Try.f4 fun e w' => e = .returned (.bool true) ∧ Below w0.heap.size w0 w') .normal aa w) (bb : Nat) (aa : Act) (w : World) (S : Sy w0 [] [bb] (ouS k (at_) D.length ga gc d) [rfSt d.b d.o d.S, rfWs d.c d.p d.W, rfWs g 0 D] aa w) : post Try.prog (.rnd (M + 1) (bodyL ouC) :: ouC.k.tail) (bodyPost Try.prog Try.f4 fun e w' => e = .returned (.bool true) ∧ Below w0.heap.size w0 w') .normal aa w := by
  refine sy_run (c := ⟨(.rnd (M + 1) (bodyL ouC) :: ouC.k.tail), ouS k (at_) D.length ga gc d⟩) ⟨0, [7]⟩ 50 S fun bs aa w S => ?_
  refine sy_reg S fun S => ?_
  refine sy_ops 3 S fun bs aa w S => ?_
  refine sy_cast 33 S (congrArg Value.bool (decide_eq_true (by omega) : decide (((at_ : Nat) : Int) < ((k + 1 : Nat) : Int)) = true)) (by kernel_rfl) fun S => ?_
  refine sy_run ⟨0, [9]⟩ 60 S fun bs aa w S => ?_
  refine sy_reg S fun S => ?_
  refine sy_call1 S (full_any 0 w) (by kernel_rfl) fun aa w hb S => ?_
  refine sy_run ⟨0, []⟩ 60 S fun bs aa w S => ?_
  have S2 := S.to [0] (inS k at_ D.length 0 ga gc d (fullS 0)) (by kernel_rfl) (by kernel_rfl) (by kernel_rfl) (by kernel_rfl) (by kernel_rfl)
  rw [show fullS 0 = lastD (D.take 0) at_ z32 from full_0] at S2
  refine sy_loop (D.length + 1) (by kernel_rfl) ?_
  refine sy_at2 (k' := (.rnd (D.length + 1) (bodyL (inC M)) :: (inC M).k.tail)) (by kernel_rfl) ?_
  exact in_all w0 k hk d hd hsl hr D hdl hla ga gc g hg M at_ ha ihO D.length 0 (by omega) _ aa w S2
set_option maxHeartbeats 8000000 in
theorem ou_end (w0 : World) (k : Nat) (hk : k < 6) (d : Dk) (hd : d.ok) (hsl : d.sl = k + 1) (hr : d.right) (D : List (Int × ByteArray)) (hdl : D.length ≤ 40) (hla : ∀ j, j < k + 1 → d.S.getD j ByteArray.empty = lastD D j z32) (ga : Option Addr) (gc g : Nat) (hg : D.length = 0 ∨ ga = some ⟨g, 0, none⟩) (M : Nat) (bb : Nat) (aa : Act) (w : World) (S : Sy w0 [] [bb] (ouS k (k + 1) D.length ga gc d) [rfSt d.b d.o d.S, rfWs d.c d.p d.W, rfWs g 0 D] aa w) : post Try.prog (.rnd (M + 1) (bodyL ouC) :: ouC.k.tail) (bodyPost Try.prog Try.f4 fun e w' => e = .returned (.bool true) ∧ Below w0.heap.size w0 w') .normal aa w := by
  refine sy_run (c := ⟨(.rnd (M + 1) (bodyL ouC) :: ouC.k.tail), ouS k (k + 1) D.length ga gc d⟩) ⟨0, [7]⟩ 50 S fun bs aa w S => ?_
  refine sy_reg S fun S => ?_
  refine sy_ops 3 S fun bs aa w S => ?_
  refine sy_cast 33 S (congrArg Value.bool (decide_eq_false (by omega) : decide (((k + 1 : Nat) : Int) < ((k + 1 : Nat) : Int)) = false)) (by kernel_rfl) fun S => ?_
  refine sy_run ⟨0, [18]⟩ 60 S fun bs aa w S => ?_
  refine sy_reg S fun S => ?_
  refine sy_ops 6 S fun bs aa w S => ?_
  refine sy_call1 S (right_t w d hd hr (S.fact (f := rfSt d.b d.o d.S) (by simp)) (S.fact (f := rfWs d.c d.p d.W) (by simp))) (by kernel_rfl) fun aa w hb S => ?_
  refine sy_run ⟨0, []⟩ 60 S fun bs aa w S => ?_
  exact sy_ret S (by kernel_rfl) (by kernel_rfl) fun hg => ⟨rfl, bel_gr hg⟩
theorem ou_all (w0 : World) (k : Nat) (hk : k < 6) (d : Dk) (hd : d.ok) (hsl : d.sl = k + 1) (hr : d.right) (D : List (Int × ByteArray)) (hdl : D.length ≤ 40) (hla : ∀ j, j < k + 1 → d.S.getD j ByteArray.empty = lastD D j z32) (ga : Option Addr) (gc g : Nat) (hg : D.length = 0 ∨ ga = some ⟨g, 0, none⟩) : ∀ (r at_ : Nat), at_ + r = k + 1 → ∀ (bb : Nat) (aa : Act) (w : World) (S : Sy w0 [] [bb] (ouS k (at_) D.length ga gc d) [rfSt d.b d.o d.S, rfWs d.c d.p d.W, rfWs g 0 D] aa w), post Try.prog (.rnd (r + 1) (bodyL ouC) :: ouC.k.tail) (bodyPost Try.prog Try.f4 fun e w' => e = .returned (.bool true) ∧ Below w0.heap.size w0 w') .normal aa w := by
  intro r
  induction r with
  | zero => intro a hi bb aa w S; obtain rfl : a = k + 1 := by omega
            exact ou_end w0 k hk d hd hsl hr D hdl hla ga gc g hg 0 bb aa w S
  | succ r ih => intro a hi bb aa w S; exact ou_step w0 k hk d hd hsl hr D hdl hla ga gc g hg (r + 1) a (by omega) (ih (a + 1) (by omega)) bb aa w S
set_option maxHeartbeats 8000000 in
theorem rlw_all (w0 : World) (m : Int) (hm : 0 ≤ m ∧ m ≤ 255) (l : List Nat) (h256 : ∀ i, i < l.length → l.getD i 0 < 256) (pa : Option Addr) (lc lb lo : Nat) (hp : l.length = 0 ∨ pa = some ⟨lb, lo, none⟩) (hL : ByAt w0 lb lo l) : Calls Try.prog 4 #[.int .u8 m, .slice pa l.length lc] w0 fun e w' => e = .returned (.bool true) ∧ Below w0.heap.size w0 w' := by
  obtain ⟨k, hk, hk2⟩ : ∃ k : Nat, k < 6 ∧ IntKind.i64.wrap (1 + Int.tmod (IntKind.i64.wrap m) 6) = ((k + 1 : Nat) : Int) := by
    refine ⟨(m % 6).toNat, by omega, ?_⟩
    have e : IntKind.i64.wrap m = m := by rw [IntKind.wrap_i64]; omega
    rw [e, Int.tmod_eq_emod_of_nonneg hm.1, IntKind.wrap_i64]
    omega
  refine sy_enterF [] [rfBy lb lo l] (by intro f hf; simp only [List.mem_singleton] at hf; subst hf; exact hL) Try.func4 rfl rfl fun aa S => ?_
  refine sy_run ⟨0, [1]⟩ 60 S fun bs aa w S => ?_
  refine sy_reg S fun S => ?_
  refine sy_call1 S (sane22 w) (by kernel_rfl) fun aa w hb S => ?_
  refine sy_run ⟨0, [2]⟩ 60 S fun bs aa w S => ?_
  refine sy_reg S fun S => ?_
  refine sy_ops 4 S fun bs aa w S => ?_
  refine sy_cast 19 S (congrArg (Value.int .i64) hk2) (by kernel_rfl) fun S => ?_
  refine sy_run ⟨0, [3]⟩ 60 S fun bs aa w S => ?_
  refine sy_reg S fun S => ?_
  refine sy_ops 3 S fun bs aa w S => ?_
  by_cases hl : l.length ≤ 40
  · refine sy_cast 22 S (congrArg Value.bool (decide_eq_false (by omega) : decide ((l.length : Int) > 40) = false)) (by kernel_rfl) fun S => ?_
    refine sy_run ⟨0, [5]⟩ 60 S fun bs aa w S => ?_
    refine sy_reg S fun S => ?_
    refine sy_ops 2 S fun bs aa w S => ?_
    have hlt := fun j hj => S.lt (i := j) hj
    refine sy_call S (X := Dk × Option Addr × Nat × Nat × List (Int × ByteArray)) (val := fun x => .tuple #[x.1.v, .slice x.2.1 x.2.2.2.2.length x.2.2.1, .bool true]) (written_u w k hk l hl h256 pa lc lb lo hp (S.fact (f := rfBy lb lo l) (by simp))) (by kernel_rfl) fun x aa w1 hC hb S => ?_
    obtain ⟨d, ga, gc, g, D⟩ := x
    obtain ⟨hW, h1, h2, h3, h4, h5⟩ := hC
    have S := S.add (rfWs g 0 D) h5 (fun j hj hb => by have q1 := hlt j hj; obtain ⟨q2, q3⟩ := hb; have q4 := h4.resolve_left q3; simp only at q4; omega)
    have S := S.add (rfWs d.c d.p d.W) h2 (fun j hj hb => by have q1 := hlt j hj; obtain ⟨q2, q3⟩ := hb; have q4 := hW.hb.2.resolve_left q3; simp only at q4; omega)
    have S := S.add (rfSt d.b d.o d.S) h1 (fun j hj hb => by have q1 := hlt j hj; obtain ⟨q2, q3⟩ := hb; have q4 := hW.hb.1; simp only at q4; omega)
    refine sy_run ⟨0, []⟩ 60 S fun bs aa w S => ?_
    have S := S.sub (F' := [rfSt d.b d.o d.S, rfWs d.c d.p d.W, rfWs g 0 D]) (by intro f hf; simp only [List.mem_cons, List.not_mem_nil, or_false] at hf; rcases hf with rfl | rfl | rfl <;> simp)
    have S2 := S.to [0] (ouS k 0 D.length ga gc d) (by kernel_rfl) (by kernel_rfl) (by kernel_rfl) (by kernel_rfl) (by kernel_rfl)
    refine sy_loop (k + 1 + 1) (by kernel_rfl) ?_
    refine sy_at2 (k' := (.rnd (k + 1 + 1) (bodyL ouC) :: ouC.k.tail)) (by kernel_rfl) ?_
    have hv := winv (k + 1) (Nat.succ_pos _) (l.take l.length)
    have he : wall (k + 1) (l.take l.length) = (d.S, d.W, D) := hW.eq
    rw [he] at hv
    exact ou_all w0 k hk d hW.ok hW.sl hW.right D (by have q := hW.dl; simp only at q; omega) hv.last ga gc g h3 (k + 1) 0 (by omega) _ aa w S2
  · refine sy_cast 22 S (congrArg Value.bool (decide_eq_true (by omega) : decide ((l.length : Int) > 40) = true)) (by kernel_rfl) fun S => ?_
    refine sy_run ⟨0, []⟩ 60 S fun bs aa w S => ?_
    exact sy_ret S (by kernel_rfl) (by kernel_rfl) fun hg => ⟨rfl, bel_gr hg⟩
end Go.Proofs.Ytnlcjlhcghgaoaa


/-
  Layer 22: what a crash undoes.
-/
namespace Go.Proofs.Ytnlcjlhcghgaoaa
open Go Go.RowKit SZ
set_option linter.unusedVariables false
set_option linter.unusedSimpArgs false
set_option maxRecDepth 100000
attribute [local irreducible] post GD Nxt NxtAll
set_option maxHeartbeats 8000000 in
theorem fm_t (n : Int) (w0 : World) : Calls Try.prog 34 #[.int .i64 n, .int .i64 33] w0 fun e w' => e = .returned (.int .i64 (n % 33)) ∧ Below w0.heap.size w0 w' := by
  have hk : Int.tmod (IntKind.i64.wrap (Int.tmod n 33 + 33)) 33 = n % 33 := by
    have h1 := Int.tmod_lt_of_pos n (show (0 : Int) < 33 by omega)
    have h2 : -33 < Int.tmod n 33 := by
      have := Int.lt_tmod_of_pos n (show (0 : Int) < 33 by omega)
      omega
    have h3 : (Int.tmod n 33) % 33 = n % 33 := by rw [Int.tmod_def]; omega
    rw [show IntKind.i64.wrap (Int.tmod n 33 + 33) = Int.tmod n 33 + 33 by rw [IntKind.wrap_i64]; omega, Int.tmod_eq_emod_of_nonneg (by omega)]
    omega
  refine sy_enterF [] [] (by intro f hf; cases hf) Try.func34 rfl rfl fun aa S => ?_
  refine sy_run ⟨0, [1]⟩ 60 S fun bs aa w S => ?_
  refine sy_reg S fun S => ?_
  refine sy_ops 7 S fun bs aa w S => ?_
  refine sy_cast 11 S (congrArg (Value.int .i64) hk) (by kernel_rfl) fun S => ?_
  refine sy_run ⟨0, []⟩ 60 S fun bs aa w S => ?_
  exact sy_ret S (by kernel_rfl) (by kernel_rfl) fun hg => ⟨rfl, bel_gr hg⟩
/-- A row of strings, with room behind it. -/
def rfRow (g : Nat) (S : List ByteArray) : RF := ⟨fun b => b = g, fun w => ∃ cs : List Value, w.heap[g]? = some (.cells cs.toArray 9 (0, 0)) ∧ cs.take S.length = S.map Value.string, fun w h b hb => by
  subst hb
  obtain ⟨cs, h, _⟩ := h
  exact (Array.getElem?_eq_some_iff.1 h).1, fun w w' h hb => by
  obtain ⟨cs, h, q⟩ := h
  exact ⟨cs, (hb g rfl).trans h, q⟩⟩
theorem row_at {w : World} {g : Nat} {S : List ByteArray} (h : (rfRow g S).P w) : StrAt w g 0 S := by
  obtain ⟨cs, h, q⟩ := h
  exact strAt_of h q
/-- A string is stored in a row. -/
theorem row_st {w : World} {g : Nat} {S : List ByteArray} (h : (rfRow g S).P w) (j : Nat) (hj : j < S.length) (s : ByteArray) : (storeVar 9 ⟨g, 0 + j * 1, none⟩ (.string s)).run Try.prog w = .ok () (w.setCells g j [.string s]) ∧ (rfRow g (S.set j s)).P (w.setCells g j [.string s]) := by
  obtain ⟨cs, h, q⟩ := h
  have hl : j < cs.length := by
    have := congrArg List.length q
    simp at this
    omega
  obtain ⟨hr, he⟩ := st_at (P := Try.prog) (ty := 9) (v := .string s) (off := j) (by kernel_rfl) (by kernel_rfl) (by kernel_rfl) h hl
  refine ⟨by rw [Nat.mul_one, Nat.zero_add]; exact hr, _, he, ?_⟩
  rw [List.length_set, List.take_set, List.map_set, q]
def unA (W : List (Int × ByteArray)) : Nat → List ByteArray × List ByteArray → List ByteArray × List ByteArray
  | 0, x => x
  | j + 1, x => unA W j (x.1.set (W.getD j (0, ByteArray.empty)).1.toNat (W.getD j (0, ByteArray.empty)).2, x.2.set j (x.1.getD (W.getD j (0, ByteArray.empty)).1.toNat ByteArray.empty))
theorem mk_run2 (n : Nat) (hn : n ≤ 1000) (w : World) : (Instr.makeSlice 22 (.int .i64 (n : Int)) (.int .i64 (n : Int))).run Try.prog w = .ok (.slice (some ⟨w.heap.size, 0, none⟩) n n) (w.alloc (.cells (zS n 0).toArray 9 (0, 0))) := by
  have hI : (Try.prog.info? 9).map (fun i => (i.zero, i.size, i.bytes)) = some (some (.string ByteArray.empty), 1, 16) := by kernel_rfl
  cases hi : Try.prog.info? 9 with
  | none => rw [hi] at hI; cases hI
  | some i =>
    rw [hi] at hI
    simp only [Option.map_some, Option.some.injEq, Prod.mk.injEq] at hI
    obtain ⟨h1, h2, h3⟩ := hI
    have h := run_makeSlice (P := Try.prog) w 22 9 i (.string ByteArray.empty) Try.underlying22 hi h1 .i64 .i64 (n : Int) (n : Int) (by omega) (by omega) (by rw [h2, Int.toNat_natCast]; omega) (by rw [h3]; omega) (by omega)
    rw [h2, Int.toNat_natCast, Nat.mul_one, made_str] at h
    exact h
theorem sl_hm (c p n cc j : Nat) (h1 : j ≤ cc) (W : World) : (Instr.sliceAt 23 (.slice (some ⟨c, p, none⟩) n cc) none (some (.int .i64 (j : Int))) (some (.int .i64 (j : Int)))).run Try.prog W = .ok (.slice (some ⟨c, p, none⟩) j j) W := by
  have hu : Try.prog.underlying 23 = some (.slice (Try.prog.elem 23)) := by rw [Try.underlying23]; kernel_rfl
  rw [run_sliceAt_slice W _ _ _ _ _ hu, run_slice_any W _ _ _ _ hu]
  have hs : (Instr.sliceBounds true n cc none (some (.int .i64 (j : Int))) (some (.int .i64 (j : Int)))).run Try.prog W = .ok (0, j, j) W := by
    simp [Instr.sliceBounds, run_sliceBound, h1]
  rw [hs]
  have hI : (Try.prog.info? (Try.prog.elem 23)).isSome = true := by kernel_rfl
  have ha : (⟨c, p, none⟩ : Addr).add 0 = ⟨c, p, none⟩ := by unfold Addr.add; split <;> simp_all
  obtain ⟨ii, hi⟩ := Option.isSome_iff_exists.1 hI
  simp [sizeOf, typeInfo, sliced, hi, ha]
noncomputable def udC : Cfg := ⟨goZ 60 [] [.code (bodyOf Try.f32)], ⟨0, [], []⟩⟩
noncomputable def udS (g sl sc gd tl : Nat) (ta : Option Addr) (n cc : Nat) : SS := ⟨52, [(0, .v (.slice (some ⟨g, 0, none⟩) sl sc)), (5, .v (.slice (some ⟨gd, 0, none⟩) tl tl)), (6, .v (.slice ta n cc))], []⟩
set_option maxHeartbeats 8000000 in
theorem ud_end (w0 : World) (g sl sc gd tl : Nat) (W : List (Int × ByteArray)) (c p : Nat) (ta : Option Addr) (hgd : w0.heap.size ≤ gd) (hg : g < w0.heap.size) (hc : W.length = 0 ∨ (c ≠ g ∧ c < w0.heap.size)) (hW : W.length = tl) (hsl : sl ≤ 512) (htl : tl ≤ 1000) (hr : ∀ j, j < tl → 0 ≤ (W.getD j (0, ByteArray.empty)).1 ∧ (W.getD j (0, ByteArray.empty)).1 < (sl : Int)) (hta : tl = 0 ∨ ta = some ⟨c, p, none⟩) (m : Nat) (S_ Dt : List ByteArray) (hS : S_.length = sl) (hD : Dt.length = tl) (cc : Nat) (hcc : 0 ≤ cc) (aa : Act) (w : World) (S : Sy w0 [g] [] (udS g sl sc gd tl ta (0) cc) [rfRow g S_, rfRow gd Dt, rfWs c p W] aa w) : post Try.prog (.rnd (m + 1) (bodyL udC) :: udC.k.tail) (bodyPost Try.prog Try.f32 fun e w' => ∃ gd, e = .returned (.slice (some ⟨gd, 0, none⟩) tl tl) ∧ w0.heap.size ≤ gd ∧ (rfRow g (S_, Dt).1).P w' ∧ (rfRow gd (S_, Dt).2).P w' ∧ Gr w0 w' [g]) .normal aa w := by
  refine sy_run (c := ⟨(.rnd (m + 1) (bodyL udC) :: udC.k.tail), udS g sl sc gd tl ta (0) cc⟩) ⟨0, [3]⟩ 50 S fun bs aa w S => ?_
  refine sy_reg S fun S => ?_
  refine sy_ops 2 S fun bs aa w S => ?_
  refine sy_ops 1 S fun bs aa w S => ?_
  refine sy_cast 15 S (congrArg Value.bool (rfl : decide (((0 : Nat) : Int) > 0) = false)) (by kernel_rfl) fun S => ?_
  refine sy_run ⟨0, []⟩ 60 S fun bs aa w S => ?_
  exact sy_ret S (by kernel_rfl) (by kernel_rfl) fun hg => ⟨gd, rfl, hgd, S.fact (f := rfRow g S_) (by simp), S.fact (f := rfRow gd Dt) (by simp), hg⟩
set_option maxHeartbeats 8000000 in
theorem ud_step (w0 : World) (g sl sc gd tl : Nat) (W : List (Int × ByteArray)) (c p : Nat) (ta : Option Addr) (hgd : w0.heap.size ≤ gd) (hg : g < w0.heap.size) (hc : W.length = 0 ∨ (c ≠ g ∧ c < w0.heap.size)) (hW : W.length = tl) (hsl : sl ≤ 512) (htl : tl ≤ 1000) (hr : ∀ j, j < tl → 0 ≤ (W.getD j (0, ByteArray.empty)).1 ∧ (W.getD j (0, ByteArray.empty)).1 < (sl : Int)) (hta : tl = 0 ∨ ta = some ⟨c, p, none⟩) (m j : Nat) (hj : j < tl) (R : List ByteArray × List ByteArray) (S_ Dt : List ByteArray) (hS : S_.length = sl) (hD : Dt.length = tl) (ih : ∀ (aa : Act) (w : World) (S : Sy w0 [g] [] (udS g sl sc gd tl ta j j) [rfRow g ((S_.set (W.getD j (0, ByteArray.empty)).1.toNat (W.getD j (0, ByteArray.empty)).2, Dt.set j (S_.getD (W.getD j (0, ByteArray.empty)).1.toNat ByteArray.empty))).1, rfRow gd ((S_.set (W.getD j (0, ByteArray.empty)).1.toNat (W.getD j (0, ByteArray.empty)).2, Dt.set j (S_.getD (W.getD j (0, ByteArray.empty)).1.toNat ByteArray.empty))).2, rfWs c p W] aa w), post Try.prog (.rnd (m) (bodyL udC) :: udC.k.tail) (bodyPost Try.prog Try.f32 fun e w' => ∃ gd, e = .returned (.slice (some ⟨gd, 0, none⟩) tl tl) ∧ w0.heap.size ≤ gd ∧ (rfRow g R.1).P w' ∧ (rfRow gd R.2).P w' ∧ Gr w0 w' [g]) .normal aa w) (cc : Nat) (hcc : j + 1 ≤ cc) (aa : Act) (w : World) (S : Sy w0 [g] [] (udS g sl sc gd tl ta (j + 1) cc) [rfRow g S_, rfRow gd Dt, rfWs c p W] aa w) : post Try.prog (.rnd (m + 1) (bodyL udC) :: udC.k.tail) (bodyPost Try.prog Try.f32 fun e w' => ∃ gd, e = .returned (.slice (some ⟨gd, 0, none⟩) tl tl) ∧ w0.heap.size ≤ gd ∧ (rfRow g R.1).P w' ∧ (rfRow gd R.2).P w' ∧ Gr w0 w' [g]) .normal aa w := by
  obtain rfl := hta.resolve_left (by omega)
  obtain ⟨hx0, hx1⟩ := hr j hj
  have hcg := hc.resolve_left (by omega)
  refine sy_run (c := ⟨(.rnd (m + 1) (bodyL udC) :: udC.k.tail), udS g sl sc gd tl (some ⟨c, p, none⟩) (j + 1) cc⟩) ⟨0, [3]⟩ 50 S fun bs aa w S => ?_
  refine sy_reg S fun S => ?_
  refine sy_ops 2 S fun bs aa w S => ?_
  refine sy_ops 1 S fun bs aa w S => ?_
  refine sy_cast 15 S (congrArg Value.bool (decide_eq_true (by omega) : decide (((j + 1 : Nat) : Int) > 0) = true)) (by kernel_rfl) fun S => ?_
  refine sy_run ⟨0, [4]⟩ 60 S fun bs aa w S => ?_
  refine sy_reg S fun S => ?_
  refine sy_ops 3 S fun bs aa w S => ?_
  refine sy_cast 18 S (congrArg (Value.int .i64) (by rw [IntKind.wrap_i64]; omega : IntKind.i64.wrap (((j + 1 : Nat) : Int) - 1) = (j : Int))) (by kernel_rfl) fun S => ?_
  refine sy_run ⟨0, [5]⟩ 60 S fun bs aa w S => ?_
  refine sy_reg S fun S => ?_
  refine sy_ops 2 S fun bs aa w S => ?_
  refine sy_ix (b := c) (off := p) (len := j + 1) (n := j) (size := 2) (i := (j : Int)) S (by kernel_rfl) rfl (by omega) fun aa S => ?_
  refine sy_ldo S (ld_was (j := j) (S.fact (f := rfWs c p W) (by simp)) (by omega)) (by kernel_rfl) fun aa S => ?_
  refine sy_run ⟨0, [6]⟩ 60 S fun bs aa w S => ?_
  refine sy_reg S fun S => ?_
  refine sy_ops 3 S fun bs aa w S => ?_
  refine sy_cast 25 S (congrArg Value.bool (decide_eq_true hx0 : decide ((W.getD j (0, ByteArray.empty)).1 ≥ 0) = true)) (by kernel_rfl) fun S => ?_
  refine sy_ops 6 S fun bs aa w S => ?_
  refine sy_cast 31 S (congrArg Value.bool (decide_eq_true hx1 : decide ((W.getD j (0, ByteArray.empty)).1 < (sl : Int)) = true)) (by kernel_rfl) fun S => ?_
  refine sy_run ⟨0, [7]⟩ 60 S fun bs aa w S => ?_
  refine sy_reg S fun S => ?_
  refine sy_ops 5 S fun bs aa w S => ?_
  refine sy_ix (b := g) (off := 0) (len := sl) (n := (W.getD j (0, ByteArray.empty)).1.toNat) (size := 1) (i := (W.getD j (0, ByteArray.empty)).1) S (by kernel_rfl) (Int.toNat_of_nonneg hx0).symm (by omega) fun aa S => ?_
  refine sy_ldo S (ld_at (ty := 9) (b := g) (off := 0 + (W.getD j (0, ByteArray.empty)).1.toNat * 1) (by kernel_rfl) (by rw [Nat.mul_one]; exact row_at (S.fact (f := rfRow g S_) (by simp)) _ (by omega))) (by kernel_rfl) fun aa S => ?_
  refine sy_ix (b := gd) (off := 0) (len := tl) (n := j) (size := 1) (i := (j : Int)) S (by kernel_rfl) rfl hj fun aa S => ?_
  obtain ⟨hr1, he1⟩ := row_st (S.fact (f := rfRow gd Dt) (by simp)) j (by omega) (S_.getD (W.getD j (0, ByteArray.empty)).1.toNat ByteArray.empty)
  have hap := (S.fs (rfRow gd Dt) (by simp)).2
  refine sy_sto (ty := 9) (ad := ⟨gd, 0 + j * 1, none⟩) (x := .v (.string (S_.getD (W.getD j (0, ByteArray.empty)).1.toNat ByteArray.empty))) (v := .string (S_.getD (W.getD j (0, ByteArray.empty)).1.toNat ByteArray.empty)) S (by kernel_rfl) rfl hr1 (gb_setC w gd j _) (Or.inr hgd) [rfRow g S_, rfWs c p W] (by intro f hf; simp only [List.mem_cons, List.not_mem_nil, or_false] at hf; rcases hf with rfl | rfl; exact ⟨by simp, fun hb => by have h1 : gd = g := hb; omega⟩; exact ⟨by simp, fun hb => by have h1 : gd = c := hb.1; omega⟩) (fun i hi e => hap i hi e) fun aa S => ?_
  have S := S.add (rfRow gd (Dt.set j (S_.getD (W.getD j (0, ByteArray.empty)).1.toNat ByteArray.empty))) he1 hap
  refine sy_run ⟨0, [8]⟩ 60 S fun bs aa w S => ?_
  refine sy_reg S fun S => ?_
  refine sy_ops 5 S fun bs aa w S => ?_
  refine sy_ix (b := g) (off := 0) (len := sl) (n := (W.getD j (0, ByteArray.empty)).1.toNat) (size := 1) (i := (W.getD j (0, ByteArray.empty)).1) S (by kernel_rfl) (Int.toNat_of_nonneg hx0).symm (by omega) fun aa S => ?_
  obtain ⟨hr2, he2⟩ := row_st (S.fact (f := rfRow g S_) (by simp)) (W.getD j (0, ByteArray.empty)).1.toNat (by omega) (W.getD j (0, ByteArray.empty)).2
  have hap2 := (S.fs (rfRow g S_) (by simp)).2
  refine sy_sto (ty := 9) (ad := ⟨g, 0 + (W.getD j (0, ByteArray.empty)).1.toNat * 1, none⟩) (x := .v (.string (W.getD j (0, ByteArray.empty)).2)) (v := .string (W.getD j (0, ByteArray.empty)).2) S (by kernel_rfl) rfl hr2 (gb_setC w g _ _) (Or.inl (by simp)) [rfRow gd (Dt.set j (S_.getD (W.getD j (0, ByteArray.empty)).1.toNat ByteArray.empty)), rfWs c p W] (by intro f hf; simp only [List.mem_cons, List.not_mem_nil, or_false] at hf; rcases hf with rfl | rfl; exact ⟨by simp, fun hb => by have h1 : g = gd := hb; omega⟩; exact ⟨by simp, fun hb => by have h1 : g = c := hb.1; omega⟩) (fun i hi e => hap2 i hi e) fun aa S => ?_
  have S := S.add (rfRow g (S_.set (W.getD j (0, ByteArray.empty)).1.toNat (W.getD j (0, ByteArray.empty)).2)) he2 hap2
  refine sy_run ⟨0, [9]⟩ 60 S fun bs aa w S => ?_
  refine sy_reg S fun S => ?_
  refine sy_ops 3 S fun bs aa w S => ?_
  refine sy_ex (op := .slice 23 (.tmp 47) none (some (.tmp 48)) (some (.tmp 49))) (ty := 23) (v := .slice (some ⟨c, p, none⟩) j j) S (by kernel_rfl) (ex_sl (p := .slice (some ⟨c, p, none⟩) (j + 1) cc) (l2 := none) (h2 := some (.v (.int .i64 (j : Int)))) (m2 := some (.v (.int .i64 (j : Int)))) (by kernel_rfl) (by kernel_rfl) (by kernel_rfl) (by kernel_rfl) (fun W => sl_hm c p (j + 1) cc j (by omega) W)) fun aa S => ?_
  refine sy_run ⟨0, [999]⟩ 50 S fun bs aa w S => ?_
  have S2 := S.to [] (udS g sl sc gd tl (some ⟨c, p, none⟩) j j) (by kernel_rfl) (by kernel_rfl) (by kernel_rfl) (by kernel_rfl) (by kernel_rfl)
  refine sy_at2 (k' := (.rnd (m) (bodyL udC) :: udC.k.tail)) (by kernel_rfl) ?_
  exact ih aa w S2
theorem ud_all (w0 : World) (g sl sc gd tl : Nat) (W : List (Int × ByteArray)) (c p : Nat) (ta : Option Addr) (hgd : w0.heap.size ≤ gd) (hg : g < w0.heap.size) (hc : W.length = 0 ∨ (c ≠ g ∧ c < w0.heap.size)) (hW : W.length = tl) (hsl : sl ≤ 512) (htl : tl ≤ 1000) (hr : ∀ j, j < tl → 0 ≤ (W.getD j (0, ByteArray.empty)).1 ∧ (W.getD j (0, ByteArray.empty)).1 < (sl : Int)) (hta : tl = 0 ∨ ta = some ⟨c, p, none⟩) : ∀ (n : Nat), n ≤ tl → ∀ (S_ Dt : List ByteArray) (hS : S_.length = sl) (hD : Dt.length = tl) (cc : Nat) (hcc : n ≤ cc) (aa : Act) (w : World) (S : Sy w0 [g] [] (udS g sl sc gd tl ta (n) cc) [rfRow g S_, rfRow gd Dt, rfWs c p W] aa w), post Try.prog (.rnd (n + 1) (bodyL udC) :: udC.k.tail) (bodyPost Try.prog Try.f32 fun e w' => ∃ gd, e = .returned (.slice (some ⟨gd, 0, none⟩) tl tl) ∧ w0.heap.size ≤ gd ∧ (rfRow g (unA W n (S_, Dt)).1).P w' ∧ (rfRow gd (unA W n (S_, Dt)).2).P w' ∧ Gr w0 w' [g]) .normal aa w := by
  intro n
  induction n with
  | zero => intro hn S_ Dt hS hD cc hcc aa w S; exact ud_end w0 g sl sc gd tl W c p ta hgd hg hc hW hsl htl hr hta 0 S_ Dt hS hD cc hcc aa w S
  | succ j ih =>
    intro hn S_ Dt hS hD cc hcc aa w S
    exact ud_step w0 g sl sc gd tl W c p ta hgd hg hc hW hsl htl hr hta (j + 1) j (by omega) (unA W (j + 1) (S_, Dt)) S_ Dt hS hD (fun aa w S => ih (by omega) _ _ (by simp [hS]) (by simp [hD]) j (Nat.le_refl _) aa w S) cc hcc aa w S
set_option maxHeartbeats 8000000 in
theorem undo_t (w0 : World) (g sl sc tl tc : Nat) (W : List (Int × ByteArray)) (c p : Nat) (ta : Option Addr) (hc : W.length = 0 ∨ (c ≠ g ∧ c < w0.heap.size)) (hW : W.length = tl) (hsl : sl ≤ 512) (htl : tl ≤ 1000) (hr : ∀ j, j < tl → 0 ≤ (W.getD j (0, ByteArray.empty)).1 ∧ (W.getD j (0, ByteArray.empty)).1 < (sl : Int)) (hta : tl = 0 ∨ ta = some ⟨c, p, none⟩) (htc : tl ≤ tc) (S_ : List ByteArray) (hS : S_.length = sl) (hA : (rfRow g S_).P w0) (hB : WasAt w0 c p W) : Calls Try.prog 32 #[.slice (some ⟨g, 0, none⟩) sl sc, .slice ta tl tc] w0 fun e w' => ∃ gd, e = .returned (.slice (some ⟨gd, 0, none⟩) tl tl) ∧ w0.heap.size ≤ gd ∧ (rfRow g (unA W tl (S_, List.replicate tl ByteArray.empty)).1).P w' ∧ (rfRow gd (unA W tl (S_, List.replicate tl ByteArray.empty)).2).P w' ∧ Gr w0 w' [g] := by
  have hg : g < w0.heap.size := (rfRow g S_).lt w0 hA g rfl
  refine sy_enterF [g] [rfRow g S_, rfWs c p W] (by intro f hf; simp only [List.mem_cons, List.not_mem_nil, or_false] at hf; rcases hf with rfl | rfl; exact hA; exact hB) Try.func32 rfl rfl fun aa S => ?_
  refine sy_run ⟨0, [1]⟩ 60 S fun bs aa w S => ?_
  refine sy_reg S fun S => ?_
  refine sy_ops 2 S fun bs aa w S => ?_
  refine sy_mk (t := 22) (u := .int .i64 (tl : Int)) (v := .int .i64 (tl : Int)) (n := tl) (cs := zS tl 0) (e := 9) S (by kernel_rfl) (mk_run2 tl htl) fun gd aa w hb0 hnb hnf hh hb S => ?_
  have S := S.add (rfRow gd (List.replicate tl ByteArray.empty)) ⟨zS tl 0, hh, by simp [zS]⟩ hnb
  refine sy_run ⟨0, []⟩ 60 S fun bs aa w S => ?_
  have S := S.sub (F' := [rfRow g S_, rfRow gd (List.replicate tl ByteArray.empty), rfWs c p W]) (by intro f hf; simp only [List.mem_cons, List.not_mem_nil, or_false] at hf; rcases hf with rfl | rfl | rfl <;> simp)
  have S' := S.to [] (udS g sl sc gd tl ta tl tc) (by kernel_rfl) (by kernel_rfl) (by kernel_rfl) (by kernel_rfl) (by kernel_rfl)
  refine sy_loop (tl + 1) (by kernel_rfl) ?_
  refine sy_at2 (k' := (.rnd (tl + 1) (bodyL udC) :: udC.k.tail)) (by kernel_rfl) ?_
  exact ud_all w0 g sl sc gd tl W c p ta hb0 hg hc hW hsl htl hr hta tl (Nat.le_refl _) S_ _ hS (by simp) tc htc aa w S'
end Go.Proofs.Ytnlcjlhcghgaoaa


/-
  Layer 22: one write is done again, torn.
-/
namespace Go.Proofs.Ytnlcjlhcghgaoaa
open Go Go.RowKit SZ
set_option linter.unusedVariables false
set_option linter.unusedSimpArgs false
set_option maxRecDepth 100000
attribute [local irreducible] post GD Nxt NxtAll
def tear (a b : ByteArray) (m : Nat) : ByteArray := a.extract 0 m ++ b.extract m b.size
theorem tear_size (a b : ByteArray) (m : Nat) (ha : a.size = 32) (hb : b.size = 32) (hm : m ≤ 32) : (tear a b m).size = 32 := by
  unfold tear
  rw [ByteArray.size_append, ByteArray.size_extract, ByteArray.size_extract]
  omega
def cutOf (cs : List Int) (j : Nat) : Nat := if j < cs.length then (cs.getD j 0 % 33).toNat else 32
theorem cutOf_le (cs : List Int) (j : Nat) : cutOf cs j ≤ 32 := by unfold cutOf; split <;> omega
def IntsAt (w : World) (b o : Nat) (l : List Int) : Prop := ∀ j, j < l.length → w.cell? ⟨b, o + j, none⟩ = some (.int .i64 (l.getD j 0))
def rfIn (b o : Nat) (l : List Int) : RF := ⟨fun b' => b' = b ∧ l.length ≠ 0, fun w => IntsAt w b o l, fun w h b' hb => by
  obtain ⟨rfl, hl⟩ := hb
  exact World.block_lt_of_cell? w _ (h 0 (by omega)), fun w w' h hb j hj => (World.cell?_of_block (a := ⟨b, o + j, none⟩) (hb b ⟨rfl, by omega⟩)).trans (h j hj)⟩
theorem slS_h (s : ByteArray) (m : Nat) (h : m ≤ s.size) (W : World) : (Instr.sliceAt 9 (.string s) none (some (.int .i64 (m : Int))) none).run Try.prog W = .ok (.string (s.extract 0 m)) W := by
  have hu : Try.prog.underlying 9 = some .string := Try.underlying9
  rw [run_sliceAt_string W _ _ _ _ _ hu, run_slice_string_h W _ _ hu _ _ (by omega) (by omega), Int.toNat_natCast]
theorem slS_l (s : ByteArray) (m : Nat) (h : m ≤ s.size) (W : World) : (Instr.sliceAt 9 (.string s) (some (.int .i64 (m : Int))) none none).run Try.prog W = .ok (.string (s.extract m s.size)) W := by
  have hu : Try.prog.underlying 9 = some .string := Try.underlying9
  rw [run_sliceAt_string W _ _ _ _ _ hu, run_slice_string_l W _ _ hu _ _ (by omega) (by omega), Int.toNat_natCast]
theorem gr_own {w0 w : World} {bs : List Nat} {K : List Bx} {g : Nat} (hl : bs.length = K.length) (h0 : ∀ i k, K[i]? = some k → w0.heap[bs.getD i 0]? = some (.cells k.cs.toArray k.ty (0, 0))) (h1 : ∀ i k, K[i]? = some k → w.heap[bs.getD i 0]? = some (.cells k.cs.toArray k.ty (0, 0))) (hg : Gr w0 w (bs ++ [g])) : w0.grownBy w (some g) := by
  refine ⟨hg.os, hg.tape, hg.output, hg.size, fun k hk hne => ?_⟩
  by_cases hm : k ∈ bs
  · obtain ⟨i, hi, rfl⟩ := List.getElem_of_mem hm
    have e : bs.getD i 0 = bs[i] := by simp [List.getD, List.getElem?_eq_getElem hi]
    have hk2 := List.getElem?_eq_getElem (l := K) (show i < K.length by omega)
    rw [← e, h1 i _ hk2, h0 i _ hk2]
  · exact hg.block k hk (by simp only [List.mem_append, List.mem_singleton, not_or]; exact ⟨hm, fun e => hne (by rw [e])⟩)
def rpK (d : Dk) (ca : Option Addr) (cl cc g sl sc gd tl : Nat) : List Bx := [⟨26, [.slice ca cl cc]⟩, ⟨25, d.cs⟩, ⟨22, [.slice (some ⟨gd, 0, none⟩) tl tl]⟩, ⟨22, [.slice (some ⟨g, 0, none⟩) sl sc]⟩]
def rpA (j : Nat) : List SV := [.v (.int .i64 (j : Int)), .p 0 0, .p 1 0, .p 2 0, .p 3 0]
noncomputable def rpS (j m : Nat) (K : List Bx) : SS := ⟨54, [(0, .v (.int .i64 (j : Int))), (1, .p 0 0), (2, .p 1 0), (3, .p 2 0), (4, .p 3 0), (6, .v (.int .i64 (m : Int)))], K⟩
def goM : Nat → Nat → List Nat → List It → List It
  | n + 1, r, ch, .code (.seq x y) :: k => goM n r ch (.code x :: .code y :: k)
  | n + 1, r, ch, .code (.block id c) :: k => goM n r ch (.code c :: .blk id :: k)
  | n + 1, r + 1, ch, .code (.region _ _ _) :: k => goM n r ch k
  | n + 1, r, ch, .code .skip :: k => goM n r ch k
  | n + 1, r, ch, .blk _ :: k => goM n r ch k
  | n + 1, r, c :: ch, .code (.cond _ x y) :: k => goM n r ch (.code (if c = 1 then x else y) :: k)
  | n + 1, r, _ :: ch, .code (.loop _) :: k => goM n r ch k
  | _, _, _, k => k
noncomputable def rpC : List It := goM 60 2 [0] [.code (bodyOf Try.f33)]
set_option maxHeartbeats 8000000 in
theorem rp_2 (w0 : World) (j : Nat) (d : Dk) (hd : d.ok) (hj : j < d.tl) (g gd sc : Nat) (S1 Dt : List ByteArray) (hS : S1.length = d.sl) (hD : Dt.length = d.tl) (hA : (Dt.getD j ByteArray.empty).size = 32) (hB : (S1.getD (d.W.getD j (0, ByteArray.empty)).1.toNat ByteArray.empty).size = 32) (hx : 0 ≤ (d.W.getD j (0, ByteArray.empty)).1 ∧ (d.W.getD j (0, ByteArray.empty)).1 < d.sl) (ca : Option Addr) (cc cb co : Nat) (cs : List Int) (hca : cs.length = 0 ∨ ca = some ⟨cb, co, none⟩) (b0 b1 b2 b3 : Nat) (hgg : gd ≠ g) (hK : ∀ i k, (rpK d ca cs.length cc g d.sl sc gd d.tl)[i]? = some k → w0.heap[[b0, b1, b2, b3].getD i 0]? = some (.cells k.cs.toArray k.ty (0, 0))) (aa : Act) (w : World) (S : Sy w0 ([b0, b1, b2, b3] ++ [g]) [b0, b1, b2, b3] (rpS j (cutOf cs j) (rpK d ca cs.length cc g d.sl sc gd d.tl)) [rfRow g S1, rfRow gd Dt, rfWs d.c d.p d.W, rfIn cb co cs] aa w) : post Try.prog rpC (bodyPost Try.prog Try.f33 fun e w' => e = .returned (.tuple #[]) ∧ (rfRow g (S1.set (d.W.getD j (0, ByteArray.empty)).1.toNat (tear (Dt.getD j ByteArray.empty) (S1.getD (d.W.getD j (0, ByteArray.empty)).1.toNat ByteArray.empty) (cutOf cs j)))).P w' ∧ w0.grownBy w' (some g)) .normal aa w := by
  have hm := cutOf_le cs j
  have hxn : (d.W.getD j (0, ByteArray.empty)).1 = (((d.W.getD j (0, ByteArray.empty)).1.toNat : Nat) : Int) := (Int.toNat_of_nonneg hx.1).symm
  refine sy_run (c := ⟨rpC, rpS j (cutOf cs j) (rpK d ca cs.length cc g d.sl sc gd d.tl)⟩) ⟨0, [3]⟩ 60 S fun bs aa w S => ?_
  refine sy_reg S fun S => ?_
  refine sy_ops 3 S fun bs aa w S => ?_
  refine sy_ix (b := d.c) (off := d.p) (len := d.tl) (n := j) (size := 2) (i := (j : Int)) S (by rw [← hd.hw.resolve_left (by omega)]; kernel_rfl) rfl hj fun aa S => ?_
  refine sy_ops 1 S fun bs aa w S => ?_
  refine sy_ldo S (ld_at (ty := 3) (b := d.c) (off := d.p + j * 2) (by kernel_rfl) ((S.fact (f := rfWs d.c d.p d.W) (by simp)) j (by rw [hd.hW]; exact hj)).1) (by kernel_rfl) fun aa S => ?_
  refine sy_run ⟨0, [4]⟩ 60 S fun bs aa w S => ?_
  refine sy_reg S fun S => ?_
  refine sy_ops 2 S fun bs aa w S => ?_
  refine sy_call1 S (has_t d (d.W.getD j (0, ByteArray.empty)).1 hx w) (by kernel_rfl) fun aa w hb S => ?_
  refine sy_run ⟨0, []⟩ 60 S fun bs aa w S => ?_
  letI : KP := ⟨[38, 39, 50, 51, 52]⟩
  letI : HF := ⟨[rfRow gd Dt]⟩
  refine dr_enter [2, 3] (by kernel_rfl) (by kernel_rfl) S (by kernel_rfl) (fun aa w D => ?_) (fun f hf => by have e : f = rfRow gd Dt := List.mem_singleton.1 hf; subst e; simp)
  refine dr_tix 4 D (by kernel_rfl) (by kernel_rfl) (by kernel_rfl) (b := gd) (off := 0) (len := d.tl) (n := j) (size := 1) (ix := (j : Int)) (by kernel_rfl) rfl (hj) fun aa D => ?_
  refine dr_tld 5 D (by kernel_rfl) (by kernel_rfl) (by kernel_rfl) (ty := 9) (ad := ⟨gd, 0 + j * 1, none⟩) (v := .string (Dt.getD j ByteArray.empty)) (fun W hW => ld_at (by kernel_rfl) (by rw [Nat.mul_one]; exact row_at (hW _ (List.mem_singleton.2 rfl)) j (by omega))) (by kernel_rfl) fun aa D => ?_
  refine dr_tix 9 D (by kernel_rfl) (by kernel_rfl) (by kernel_rfl) (b := gd) (off := 0) (len := d.tl) (n := j) (size := 1) (ix := (j : Int)) (by kernel_rfl) rfl (hj) fun aa D => ?_
  refine dr_tld 10 D (by kernel_rfl) (by kernel_rfl) (by kernel_rfl) (ty := 9) (ad := ⟨gd, 0 + j * 1, none⟩) (v := .string (Dt.getD j ByteArray.empty)) (fun W hW => ld_at (by kernel_rfl) (by rw [Nat.mul_one]; exact row_at (hW _ (List.mem_singleton.2 rfl)) j (by omega))) (by kernel_rfl) fun aa D => ?_
  refine dr_tix 16 D (by kernel_rfl) (by kernel_rfl) (by kernel_rfl) (b := g) (off := 0) (len := d.sl) (n := (d.W.getD j (0, ByteArray.empty)).1.toNat) (size := 1) (ix := (d.W.getD j (0, ByteArray.empty)).1) (by kernel_rfl) hxn (by omega) fun aa D => ?_
  refine dr_tix 21 D (by kernel_rfl) (by kernel_rfl) (by kernel_rfl) (b := g) (off := 0) (len := d.sl) (n := (d.W.getD j (0, ByteArray.empty)).1.toNat) (size := 1) (ix := (d.W.getD j (0, ByteArray.empty)).1) (by kernel_rfl) hxn (by omega) fun aa D => ?_
  refine dr_ex2 (fun d v c a w h => by cases d <;> exact h) 12 (op := .call { callee := .builtin .min, args := #[.tmp 32, .tmp 37], argTypes := #[3, 3] }) (ty := 3) (v := .int .i64 ((cutOf cs j : Nat) : Int)) D (by kernel_rfl) (by kernel_rfl) (by kernel_rfl) (by kernel_rfl) (ex_min (p := ((cutOf cs j : Nat) : Int)) (q := (((Dt.getD j ByteArray.empty).size : Nat) : Int)) (by kernel_rfl) (by kernel_rfl) (by split <;> omega)) fun aa D => ?_
  refine dr_ex2 (fun d v c a w h => by cases d <;> exact h) 13 (op := .slice 9 (.tmp 31) none (some (.tmp 38)) none) (ty := 9) (v := .string ((Dt.getD j ByteArray.empty).extract 0 (cutOf cs j))) D (by kernel_rfl) (by kernel_rfl) (by kernel_rfl) (by kernel_rfl) (ex_slS (p := (Dt.getD j ByteArray.empty)) (l2 := none) (h2 := some (.v (.int .i64 ((cutOf cs j : Nat) : Int)))) Try.underlying9 (by kernel_rfl) (by kernel_rfl) (by kernel_rfl) (fun W => slS_h (Dt.getD j ByteArray.empty) (cutOf cs j) (by omega) W)) fun aa D => ?_
  refine dr_any [17, 22] (by kernel_rfl) (by kernel_rfl) rfl (na2 ?_ ?_)
  · refine nx_ld 17 D (by kernel_rfl) (ld_at (ty := 9) (b := g) (off := 0 + (d.W.getD j (0, ByteArray.empty)).1.toNat * 1) (by kernel_rfl) (by rw [Nat.mul_one]; exact row_at (D.S.fact (f := rfRow g S1) (by simp)) _ (by omega))) (by kernel_rfl) fun aa D => ?_
    refine dr_any [22] (by kernel_rfl) (by kernel_rfl) rfl (na1 ?_)
    refine nx_ld 22 D (by kernel_rfl) (ld_at (ty := 9) (b := g) (off := 0 + (d.W.getD j (0, ByteArray.empty)).1.toNat * 1) (by kernel_rfl) (by rw [Nat.mul_one]; exact row_at (D.S.fact (f := rfRow g S1) (by simp)) _ (by omega))) (by kernel_rfl) fun aa D => ?_
    refine dr_ex2 (fun d v c a w h => by cases d <;> exact h) 24 (op := .call { callee := .builtin .min, args := #[.tmp 44, .tmp 49], argTypes := #[3, 3] }) (ty := 3) (v := .int .i64 ((cutOf cs j : Nat) : Int)) D (by kernel_rfl) (by kernel_rfl) (by kernel_rfl) (by kernel_rfl) (ex_min (p := ((cutOf cs j : Nat) : Int)) (q := (((S1.getD (d.W.getD j (0, ByteArray.empty)).1.toNat ByteArray.empty).size : Nat) : Int)) (by kernel_rfl) (by kernel_rfl) (by split <;> omega)) fun aa D => ?_
    refine dr_ex2 (fun d v c a w h => by cases d <;> exact h) 25 (op := .slice 9 (.tmp 43) (some (.tmp 50)) none none) (ty := 9) (v := .string ((S1.getD (d.W.getD j (0, ByteArray.empty)).1.toNat ByteArray.empty).extract (cutOf cs j) (S1.getD (d.W.getD j (0, ByteArray.empty)).1.toNat ByteArray.empty).size)) D (by kernel_rfl) (by kernel_rfl) (by kernel_rfl) (by kernel_rfl) (ex_slS (p := (S1.getD (d.W.getD j (0, ByteArray.empty)).1.toNat ByteArray.empty)) (l2 := some (.v (.int .i64 ((cutOf cs j : Nat) : Int)))) (h2 := none) Try.underlying9 (by kernel_rfl) (by kernel_rfl) (by kernel_rfl) (fun W => slS_l (S1.getD (d.W.getD j (0, ByteArray.empty)).1.toNat ByteArray.empty) (cutOf cs j) (by omega) W)) fun aa D => ?_
    refine dr_ex2 (fun d v c a w h => by cases d <;> exact h) 26 (op := .binOp .add 9 (.tmp 39) (.tmp 51) 9) (ty := 9) (v := .string (tear (Dt.getD j ByteArray.empty) (S1.getD (d.W.getD j (0, ByteArray.empty)).1.toNat ByteArray.empty) (cutOf cs j))) D (by kernel_rfl) (by kernel_rfl) (by kernel_rfl) (by kernel_rfl) (ex_cat (p := (Dt.getD j ByteArray.empty).extract 0 (cutOf cs j)) (q := (S1.getD (d.W.getD j (0, ByteArray.empty)).1.toNat ByteArray.empty).extract (cutOf cs j) (S1.getD (d.W.getD j (0, ByteArray.empty)).1.toNat ByteArray.empty).size) Try.underlying9 (by kernel_rfl) (by kernel_rfl) (by rw [ByteArray.size_extract, ByteArray.size_extract]; omega)) fun aa D => ?_
    refine dr_tix 27 D (by kernel_rfl) (by kernel_rfl) (by kernel_rfl) (b := g) (off := 0) (len := d.sl) (n := (d.W.getD j (0, ByteArray.empty)).1.toNat) (size := 1) (ix := (d.W.getD j (0, ByteArray.empty)).1) (by kernel_rfl) hxn (by omega) fun aa D => ?_
    obtain ⟨hr2, he2⟩ := row_st (D.S.fact (f := rfRow g S1) (by simp)) (d.W.getD j (0, ByteArray.empty)).1.toNat (by omega) (tear (Dt.getD j ByteArray.empty) (S1.getD (d.W.getD j (0, ByteArray.empty)).1.toNat ByteArray.empty) (cutOf cs j))
    have hap2 := (D.S.fs (rfRow g S1) (by simp)).2
    refine dr_any [28] (by kernel_rfl) (by kernel_rfl) rfl (na1 ?_)
    refine nx_sto 28 [rfRow gd Dt] D (by kernel_rfl) (ty := 9) (ad := ⟨g, 0 + (d.W.getD j (0, ByteArray.empty)).1.toNat * 1, none⟩) (x := .v (.string (tear (Dt.getD j ByteArray.empty) (S1.getD (d.W.getD j (0, ByteArray.empty)).1.toNat ByteArray.empty) (cutOf cs j)))) (v := .string (tear (Dt.getD j ByteArray.empty) (S1.getD (d.W.getD j (0, ByteArray.empty)).1.toNat ByteArray.empty) (cutOf cs j))) (by kernel_rfl) rfl hr2 (gb_setC w g _ _) (Or.inl (by simp)) (by intro f hf; simp only [List.mem_singleton] at hf; subst hf; exact ⟨by simp, fun hb => by have h1 : g = gd := hb; omega⟩) (fun f hf => hf) (fun i hi e => hap2 i hi e) fun aa D => ?_
    have D := D.addF (rfRow g (S1.set (d.W.getD j (0, ByteArray.empty)).1.toNat (tear (Dt.getD j ByteArray.empty) (S1.getD (d.W.getD j (0, ByteArray.empty)).1.toNat ByteArray.empty) (cutOf cs j)))) he2 hap2
    refine dr_end D (by kernel_rfl) fun S => ?_
    refine sy_run ⟨0, []⟩ 60 S fun bs aa w S => ?_
    have hx0 : w.heap[b0]? = some (.cells #[.slice ca cs.length cc] 26 (0, 0)) := S.bx 0 ⟨26, [.slice ca cs.length cc]⟩ (by kernel_rfl)
    have hx1 : w.heap[b1]? = some (.cells d.cs.toArray 25 (0, 0)) := S.bx 1 ⟨25, d.cs⟩ (by kernel_rfl)
    have hx2 : w.heap[b2]? = some (.cells #[.slice (some ⟨gd, 0, none⟩) d.tl d.tl] 22 (0, 0)) := S.bx 2 ⟨22, [.slice (some ⟨gd, 0, none⟩) d.tl d.tl]⟩ (by kernel_rfl)
    have hx3 : w.heap[b3]? = some (.cells #[.slice (some ⟨g, 0, none⟩) d.sl sc] 22 (0, 0)) := S.bx 3 ⟨22, [.slice (some ⟨g, 0, none⟩) d.sl sc]⟩ (by kernel_rfl)
    have hbx : ∀ i k, (rpK d ca cs.length cc g d.sl sc gd d.tl)[i]? = some k → w.heap[[b0, b1, b2, b3].getD i 0]? = some (.cells k.cs.toArray k.ty (0, 0)) := fun i k hk => match i, hk with | 0, hk => (by obtain rfl := Option.some.inj hk; exact hx0) | 1, hk => (by obtain rfl := Option.some.inj hk; exact hx1) | 2, hk => (by obtain rfl := Option.some.inj hk; exact hx2) | 3, hk => (by obtain rfl := Option.some.inj hk; exact hx3) | i + 4, hk => by cases hk
    exact sy_ret S (by kernel_rfl) (by kernel_rfl) fun hg => ⟨rfl, S.fact (f := rfRow g (S1.set (d.W.getD j (0, ByteArray.empty)).1.toNat (tear (Dt.getD j ByteArray.empty) (S1.getD (d.W.getD j (0, ByteArray.empty)).1.toNat ByteArray.empty) (cutOf cs j)))) (by simp), gr_own (bs := [b0, b1, b2, b3]) (K := (rpK d ca cs.length cc g d.sl sc gd d.tl)) rfl hK hbx hg⟩
  · refine nx_ld 22 D (by kernel_rfl) (ld_at (ty := 9) (b := g) (off := 0 + (d.W.getD j (0, ByteArray.empty)).1.toNat * 1) (by kernel_rfl) (by rw [Nat.mul_one]; exact row_at (D.S.fact (f := rfRow g S1) (by simp)) _ (by omega))) (by kernel_rfl) fun aa D => ?_
    refine dr_ex2 (fun d v c a w h => by cases d <;> exact h) 24 (op := .call { callee := .builtin .min, args := #[.tmp 44, .tmp 49], argTypes := #[3, 3] }) (ty := 3) (v := .int .i64 ((cutOf cs j : Nat) : Int)) D (by kernel_rfl) (by kernel_rfl) (by kernel_rfl) (by kernel_rfl) (ex_min (p := ((cutOf cs j : Nat) : Int)) (q := (((S1.getD (d.W.getD j (0, ByteArray.empty)).1.toNat ByteArray.empty).size : Nat) : Int)) (by kernel_rfl) (by kernel_rfl) (by split <;> omega)) fun aa D => ?_
    refine dr_any [17] (by kernel_rfl) (by kernel_rfl) rfl (na1 ?_)
    refine nx_ld 17 D (by kernel_rfl) (ld_at (ty := 9) (b := g) (off := 0 + (d.W.getD j (0, ByteArray.empty)).1.toNat * 1) (by kernel_rfl) (by rw [Nat.mul_one]; exact row_at (D.S.fact (f := rfRow g S1) (by simp)) _ (by omega))) (by kernel_rfl) fun aa D => ?_
    refine dr_ex2 (fun d v c a w h => by cases d <;> exact h) 25 (op := .slice 9 (.tmp 43) (some (.tmp 50)) none none) (ty := 9) (v := .string ((S1.getD (d.W.getD j (0, ByteArray.empty)).1.toNat ByteArray.empty).extract (cutOf cs j) (S1.getD (d.W.getD j (0, ByteArray.empty)).1.toNat ByteArray.empty).size)) D (by kernel_rfl) (by kernel_rfl) (by kernel_rfl) (by kernel_rfl) (ex_slS (p := (S1.getD (d.W.getD j (0, ByteArray.empty)).1.toNat ByteArray.empty)) (l2 := some (.v (.int .i64 ((cutOf cs j : Nat) : Int)))) (h2 := none) Try.underlying9 (by kernel_rfl) (by kernel_rfl) (by kernel_rfl) (fun W => slS_l (S1.getD (d.W.getD j (0, ByteArray.empty)).1.toNat ByteArray.empty) (cutOf cs j) (by omega) W)) fun aa D => ?_
    refine dr_ex2 (fun d v c a w h => by cases d <;> exact h) 26 (op := .binOp .add 9 (.tmp 39) (.tmp 51) 9) (ty := 9) (v := .string (tear (Dt.getD j ByteArray.empty) (S1.getD (d.W.getD j (0, ByteArray.empty)).1.toNat ByteArray.empty) (cutOf cs j))) D (by kernel_rfl) (by kernel_rfl) (by kernel_rfl) (by kernel_rfl) (ex_cat (p := (Dt.getD j ByteArray.empty).extract 0 (cutOf cs j)) (q := (S1.getD (d.W.getD j (0, ByteArray.empty)).1.toNat ByteArray.empty).extract (cutOf cs j) (S1.getD (d.W.getD j (0, ByteArray.empty)).1.toNat ByteArray.empty).size) Try.underlying9 (by kernel_rfl) (by kernel_rfl) (by rw [ByteArray.size_extract, ByteArray.size_extract]; omega)) fun aa D => ?_
    refine dr_tix 27 D (by kernel_rfl) (by kernel_rfl) (by kernel_rfl) (b := g) (off := 0) (len := d.sl) (n := (d.W.getD j (0, ByteArray.empty)).1.toNat) (size := 1) (ix := (d.W.getD j (0, ByteArray.empty)).1) (by kernel_rfl) hxn (by omega) fun aa D => ?_
    obtain ⟨hr2, he2⟩ := row_st (D.S.fact (f := rfRow g S1) (by simp)) (d.W.getD j (0, ByteArray.empty)).1.toNat (by omega) (tear (Dt.getD j ByteArray.empty) (S1.getD (d.W.getD j (0, ByteArray.empty)).1.toNat ByteArray.empty) (cutOf cs j))
    have hap2 := (D.S.fs (rfRow g S1) (by simp)).2
    refine dr_any [28] (by kernel_rfl) (by kernel_rfl) rfl (na1 ?_)
    refine nx_sto 28 [rfRow gd Dt] D (by kernel_rfl) (ty := 9) (ad := ⟨g, 0 + (d.W.getD j (0, ByteArray.empty)).1.toNat * 1, none⟩) (x := .v (.string (tear (Dt.getD j ByteArray.empty) (S1.getD (d.W.getD j (0, ByteArray.empty)).1.toNat ByteArray.empty) (cutOf cs j)))) (v := .string (tear (Dt.getD j ByteArray.empty) (S1.getD (d.W.getD j (0, ByteArray.empty)).1.toNat ByteArray.empty) (cutOf cs j))) (by kernel_rfl) rfl hr2 (gb_setC w g _ _) (Or.inl (by simp)) (by intro f hf; simp only [List.mem_singleton] at hf; subst hf; exact ⟨by simp, fun hb => by have h1 : g = gd := hb; omega⟩) (fun f hf => hf) (fun i hi e => hap2 i hi e) fun aa D => ?_
    have D := D.addF (rfRow g (S1.set (d.W.getD j (0, ByteArray.empty)).1.toNat (tear (Dt.getD j ByteArray.empty) (S1.getD (d.W.getD j (0, ByteArray.empty)).1.toNat ByteArray.empty) (cutOf cs j)))) he2 hap2
    refine dr_end D (by kernel_rfl) fun S => ?_
    refine sy_run ⟨0, []⟩ 60 S fun bs aa w S => ?_
    have hx0 : w.heap[b0]? = some (.cells #[.slice ca cs.length cc] 26 (0, 0)) := S.bx 0 ⟨26, [.slice ca cs.length cc]⟩ (by kernel_rfl)
    have hx1 : w.heap[b1]? = some (.cells d.cs.toArray 25 (0, 0)) := S.bx 1 ⟨25, d.cs⟩ (by kernel_rfl)
    have hx2 : w.heap[b2]? = some (.cells #[.slice (some ⟨gd, 0, none⟩) d.tl d.tl] 22 (0, 0)) := S.bx 2 ⟨22, [.slice (some ⟨gd, 0, none⟩) d.tl d.tl]⟩ (by kernel_rfl)
    have hx3 : w.heap[b3]? = some (.cells #[.slice (some ⟨g, 0, none⟩) d.sl sc] 22 (0, 0)) := S.bx 3 ⟨22, [.slice (some ⟨g, 0, none⟩) d.sl sc]⟩ (by kernel_rfl)
    have hbx : ∀ i k, (rpK d ca cs.length cc g d.sl sc gd d.tl)[i]? = some k → w.heap[[b0, b1, b2, b3].getD i 0]? = some (.cells k.cs.toArray k.ty (0, 0)) := fun i k hk => match i, hk with | 0, hk => (by obtain rfl := Option.some.inj hk; exact hx0) | 1, hk => (by obtain rfl := Option.some.inj hk; exact hx1) | 2, hk => (by obtain rfl := Option.some.inj hk; exact hx2) | 3, hk => (by obtain rfl := Option.some.inj hk; exact hx3) | i + 4, hk => by cases hk
    exact sy_ret S (by kernel_rfl) (by kernel_rfl) fun hg => ⟨rfl, S.fact (f := rfRow g (S1.set (d.W.getD j (0, ByteArray.empty)).1.toNat (tear (Dt.getD j ByteArray.empty) (S1.getD (d.W.getD j (0, ByteArray.empty)).1.toNat ByteArray.empty) (cutOf cs j)))) (by simp), gr_own (bs := [b0, b1, b2, b3]) (K := (rpK d ca cs.length cc g d.sl sc gd d.tl)) rfl hK hbx hg⟩
set_option maxHeartbeats 8000000 in
theorem rp_t (w0 : World) (j : Nat) (d : Dk) (hd : d.ok) (hj : j < d.tl) (g gd sc : Nat) (S1 Dt : List ByteArray) (hS : S1.length = d.sl) (hD : Dt.length = d.tl) (hA : (Dt.getD j ByteArray.empty).size = 32) (hB : (S1.getD (d.W.getD j (0, ByteArray.empty)).1.toNat ByteArray.empty).size = 32) (hx : 0 ≤ (d.W.getD j (0, ByteArray.empty)).1 ∧ (d.W.getD j (0, ByteArray.empty)).1 < d.sl) (ca : Option Addr) (cc cb co : Nat) (cs : List Int) (hca : cs.length = 0 ∨ ca = some ⟨cb, co, none⟩) (b0 b1 b2 b3 : Nat) (hgg : gd ≠ g) (hK : ∀ i k, (rpK d ca cs.length cc g d.sl sc gd d.tl)[i]? = some k → w0.heap[[b0, b1, b2, b3].getD i 0]? = some (.cells k.cs.toArray k.ty (0, 0))) (hnd : ∀ i i', i < 4 → i' < 4 → [b0, b1, b2, b3].getD i 0 = [b0, b1, b2, b3].getD i' 0 → i = i') (hF : ∀ f ∈ [rfRow g S1, rfRow gd Dt, rfWs d.c d.p d.W, rfIn cb co cs], f.P w0 ∧ ∀ i, i < 4 → ¬f.bl ([b0, b1, b2, b3].getD i 0)) : Calls Try.prog 33 ((rpA j).map (den [b0, b1, b2, b3])).toArray w0 fun e w' => e = .returned (.tuple #[]) ∧ (rfRow g (S1.set (d.W.getD j (0, ByteArray.empty)).1.toNat (tear (Dt.getD j ByteArray.empty) (S1.getD (d.W.getD j (0, ByteArray.empty)).1.toNat ByteArray.empty) (cutOf cs j)))).P w' ∧ w0.grownBy w' (some g) := by
  refine sy_enterR ([b0, b1, b2, b3] ++ [g]) [b0, b1, b2, b3] (rpK d ca cs.length cc g d.sl sc gd d.tl) (rpA j) [rfRow g S1, rfRow gd Dt, rfWs d.c d.p d.W, rfIn cb co cs] rfl hK hnd (fun i hi => match i, hi with | 0, _ => by simp | 1, _ => by simp | 2, _ => by simp | 3, _ => by simp | i + 4, hi => absurd hi (by simp)) (fun x hx => by simp only [rpA, List.mem_cons, List.not_mem_nil, or_false] at hx; rcases hx with rfl | rfl | rfl | rfl | rfl <;> simp [SV.ok]) hF Try.func33 rfl rfl fun aa S => ?_
  refine sy_run ⟨0, [1]⟩ 60 S fun bs aa w S => ?_
  refine sy_reg S fun S => ?_
  refine sy_ops 4 S fun bs aa w S => ?_
  by_cases hc : j < cs.length
  · obtain rfl := hca.resolve_left (by omega)
    have ec : cs.getD j 0 % 33 = ((cutOf cs j : Nat) : Int) := by unfold cutOf; rw [if_pos hc]; omega
    refine sy_cast 11 S (congrArg Value.bool (decide_eq_true (by omega) : decide ((j : Int) < (cs.length : Int)) = true)) (by kernel_rfl) fun S => ?_
    refine sy_run ⟨0, [2]⟩ 60 S fun bs aa w S => ?_
    refine sy_reg S fun S => ?_
    refine sy_ops 2 S fun bs aa w S => ?_
    refine sy_ix (b := cb) (off := co) (len := cs.length) (n := j) (size := 1) (i := (j : Int)) S (by kernel_rfl) rfl hc fun aa S => ?_
    refine sy_ldo S (ld_at (ty := 3) (b := cb) (off := co + j * 1) (by kernel_rfl) (by rw [Nat.mul_one]; exact S.fact (f := rfIn cb co cs) (by simp) j hc)) (by kernel_rfl) fun aa S => ?_
    refine sy_call1 S (fm_t (cs.getD j 0) w) (by kernel_rfl) fun aa w hb S => ?_
    refine sy_cast 16 S (congrArg (Value.int .i64) ec) (by kernel_rfl) fun S => ?_
    refine sy_run ⟨0, [3]⟩ 60 S fun bs aa w S => ?_
    have S2 := S.to [0, 1, 2, 3] (rpS j (cutOf cs j) (rpK d (some ⟨cb, co, none⟩) cs.length cc g d.sl sc gd d.tl)) (by kernel_rfl) (by kernel_rfl) (by kernel_rfl) (by kernel_rfl) (by kernel_rfl)
    refine sy_at2 (k' := rpC) (by kernel_rfl) ?_
    exact rp_2 w0 j d hd hj g gd sc S1 Dt hS hD hA hB hx _ cc cb co cs hca b0 b1 b2 b3 hgg hK aa w S2
  · have ec : cutOf cs j = 32 := by unfold cutOf; rw [if_neg hc]
    refine sy_cast 11 S (congrArg Value.bool (decide_eq_false (by omega) : decide ((j : Int) < (cs.length : Int)) = false)) (by kernel_rfl) fun S => ?_
    refine sy_run ⟨0, [3]⟩ 60 S fun bs aa w S => ?_
    have S2 := S.to [0, 1, 2, 3] (rpS j 32 (rpK d ca cs.length cc g d.sl sc gd d.tl)) (by kernel_rfl) (by kernel_rfl) (by kernel_rfl) (by kernel_rfl) (by kernel_rfl)
    rw [← ec] at S2
    refine sy_at2 (k' := rpC) (by kernel_rfl) ?_
    exact rp_2 w0 j d hd hj g gd sc S1 Dt hS hD hA hB hx ca cc cb co cs hca b0 b1 b2 b3 hgg hK aa w S2
end Go.Proofs.Ytnlcjlhcghgaoaa


/-
  Layer 22: a row of integers, as an argument.
-/
namespace Go.Proofs.Ytnlcjlhcghgaoaa
open Go.ChangeShapes Go.WideShapes Go.ChangeAt Go.RowKit Go.Deep
set_option maxRecDepth 100000
/-- A row of integers. -/
def HasIn (w : World) (v : Value) (l : List Int) : Prop := ∃ a cap, v = .slice a l.length cap ∧ (l.length = 0 ∨ ∃ b o, a = some ⟨b, o, none⟩ ∧ IntsAt w b o l)
section
variable {H : Type} {enc : TypeId × Value → H} {W : World}
theorem cells_i64 : Try.prog.cellsOf 3 = 1 := by kernel_rfl
theorem open_intsArg {r : Reach} {b0 : Nat} {v : Value} {d : DataW H} {p : List MemPlace} (hv : Value.okWide Try.prog W r b0 26 v) (h : DataW.Trod enc Try.prog W 0 (fun _ => true) true 26 v d p) :
    ∃ l, HasIn W v l := by
  obtain ⟨a0, len0, cap0, rfl⟩ := okWide_slice Try.underlying26 hv
  obtain ⟨fuel, hf⟩ := h
  rcases open_ints Try.underlying26 Try.underlying3 cells_i64 hf with ⟨hcs, _⟩ | ⟨a, len, cap, zs, hcs, _, hl, hm, hz, _, hcell, hwf⟩
  · simp [Value.cells] at hcs
    obtain ⟨rfl, rfl, rfl⟩ := hcs
    exact ⟨[], none, 0, rfl, Or.inl rfl⟩
  · simp [Value.cells] at hcs
    obtain ⟨rfl, rfl, rfl⟩ := hcs
    simp only [if_true] at hz
    have hlen : (zs.take len0).length = len0 := by rw [List.length_take]; omega
    refine ⟨zs.take len0, some a, cap0, by rw [hlen], ?_⟩
    by_cases h0 : len0 = 0
    · exact Or.inl (by rw [hlen]; exact h0)
    · obtain ⟨b, off, spot⟩ := a
      have hspot : spot = none := by simpa [Addr.add] using World.cell?_spot (hcell 0 (by omega))
      subst hspot
      refine Or.inr ⟨b, off, rfl, fun j hj => ?_⟩
      rw [hlen] at hj
      have h1 := hcell j (by omega)
      rw [add_plain] at h1
      rw [h1]
      simp [hj]
end
end Go.Proofs.Ytnlcjlhcghgaoaa


/-
  Layer 22: opening the arguments of DiskKeepsSynced.
-/
namespace Go.Proofs.Ytnlcjlhcghgaoaa
open Go.ChangeShapes Go.WideShapes Go.ChangeAt Go.RowKit Go.Deep
set_option maxRecDepth 100000
set_option linter.unusedVariables false
set_option linter.unusedSimpArgs false
section
variable {H : Type} {enc : TypeId × Value → H} {W : World}
theorem by_trod {c : Value} {x : DataW H × List MemPlace} {n' : Nat} (hf : DataW.trod enc Try.prog W 0 (fun _ => true) true n' 41 [c] = some x) : ∃ l, HasBy W c l ∧ ∀ b ∈ l, b < 256 := by
  rcases open_ints Try.underlying41 Try.underlying5 cells_u8 hf with ⟨hcs, _⟩ | ⟨a, len0, cap0, zs, hcs, _, hl, hm, hz, _, hcell, hwf⟩
  · simp at hcs
    subst hcs
    exact ⟨[], ⟨none, 0, rfl, Nat.le_refl _, Or.inl rfl⟩, by simp⟩
  · simp at hcs
    subst hcs
    simp only [if_true] at hz
    have hb : ∀ n ∈ zs, 0 ≤ n ∧ n < 256 := fun n hn => by have := u8_of_wf (hwf n hn); omega
    have hlen : ((zs.take len0).map Int.toNat).length = len0 := by rw [List.length_map, List.length_take]; omega
    refine ⟨(zs.take len0).map Int.toNat, ⟨some a, cap0, by rw [hlen], by rw [hlen]; exact hl, ?_⟩, ?_⟩
    · by_cases h0 : len0 = 0
      · exact Or.inl (by rw [hlen]; exact h0)
      · obtain ⟨b, off, spot⟩ := a
        have hspot : spot = none := by simpa [Addr.add] using World.cell?_spot (hcell 0 (by omega))
        subst hspot
        refine Or.inr ⟨b, off, rfl, fun j hj => ?_⟩
        rw [hlen] at hj
        have h1 := hcell j (by omega)
        rw [add_plain] at h1
        rw [h1]
        have hjz : j < zs.length := by omega
        have h2 := hb zs[j] (List.getElem_mem hjz)
        simp [List.getD, hj, List.getElem?_eq_getElem hjz]
        omega
    · intro b hb'
      obtain ⟨n, hn, rfl⟩ := List.mem_map.1 hb'
      have := hb n (List.mem_of_mem_take hn)
      omega
theorem in_trod {c : Value} {x : DataW H × List MemPlace} {n' : Nat} (hf : DataW.trod enc Try.prog W 0 (fun _ => true) true n' 26 [c] = some x) : ∃ l, HasIn W c l := by
  rcases open_ints Try.underlying26 Try.underlying3 cells_i64 hf with ⟨hcs, _⟩ | ⟨a, len0, cap0, zs, hcs, _, hl, hm, hz, _, hcell, hwf⟩
  · simp at hcs
    subst hcs
    exact ⟨[], none, 0, rfl, Or.inl rfl⟩
  · simp at hcs
    subst hcs
    simp only [if_true] at hz
    have hlen : (zs.take len0).length = len0 := by rw [List.length_take]; omega
    refine ⟨zs.take len0, some a, cap0, by rw [hlen], ?_⟩
    by_cases h0 : len0 = 0
    · exact Or.inl (by rw [hlen]; exact h0)
    · obtain ⟨b, off, spot⟩ := a
      have hspot : spot = none := by simpa [Addr.add] using World.cell?_spot (hcell 0 (by omega))
      subst hspot
      refine Or.inr ⟨b, off, rfl, fun j hj => ?_⟩
      rw [hlen] at hj
      have h1 := hcell j (by omega)
      rw [add_plain] at h1
      rw [h1]
      simp [hj]
theorem open_ks {r : Reach} {b0 : Nat} {v : Value} {d : DataW H} {p : List MemPlace} (hv : Value.okWide Try.prog W r b0 49 v) (h : DataW.Trod enc Try.prog W 0 (fun _ => true) true 49 v d p) :
    ∃ (m : Int) (va vb vc : Value) (l0 l1 : List Nat) (l2 : List Int), v = .agg #[.int .u8 m, va, vb, vc] ∧ (0 ≤ m ∧ m ≤ 255) ∧ (HasBy W va l0 ∧ ∀ b ∈ l0, b < 256) ∧ (HasBy W vb l1 ∧ ∀ b ∈ l1, b < 256) ∧ HasIn W vc l2 := by
  obtain ⟨cs, rfl, hsz⟩ := okWide_struct Try.underlying49 hv
  obtain ⟨l⟩ := cs
  have hcells : Try.prog.cellsOf 49 = 4 := by kernel_rfl
  match l, hsz.trans hcells with
  | [c0, c1, c2, c3], _ =>
    obtain ⟨fuel, hf⟩ := h
    obtain ⟨xs, n, _, _, _, hlen, hg⟩ := DataW.trod_struct Try.underlying49 hf
    match xs, hlen with
    | [y0, y1, y2, y3], _ =>
      have cu : Try.prog.cellsOf 5 = 1 := by kernel_rfl
      have cs : Try.prog.cellsOf 41 = 1 := by kernel_rfl
      have ci : Try.prog.cellsOf 26 = 1 := by kernel_rfl
      have h0 := hg 0 _ rfl
      have h1 := hg 1 _ rfl
      have h2 := hg 2 _ rfl
      have h3 := hg 3 _ rfl
      simp [Value.cells, cu, cs, ci] at h0 h1 h2 h3
      obtain ⟨a0, e0, _, w0⟩ := DataW.trod_int Try.underlying5 h0
      obtain ⟨l0, g0⟩ := by_trod h1
      obtain ⟨l1, g1⟩ := by_trod h2
      obtain ⟨l2, g2⟩ := in_trod h3
      simp at e0
      subst e0
      exact ⟨a0, _, _, _, l0, l1, l2, rfl, u8_of_wf w0, g0, g1, g2⟩
end
end Go.Proofs.Ytnlcjlhcghgaoaa


/-
  Layer 22: a crash.
-/
namespace Go.Proofs.Ytnlcjlhcghgaoaa
open Go Go.RowKit SZ
set_option linter.unusedVariables false
set_option linter.unusedSimpArgs false
set_option maxRecDepth 100000
attribute [local irreducible] post GD Nxt NxtAll
/-- One write is done again. -/
def crJ (W : List (Int × ByteArray)) (cs : List Int) (Dt : List ByteArray) (j : Nat) (S : List ByteArray) : List ByteArray := S.set (W.getD j (0, ByteArray.empty)).1.toNat (tear (Dt.getD j ByteArray.empty) (S.getD (W.getD j (0, ByteArray.empty)).1.toNat ByteArray.empty) (cutOf cs j))
def crA (W : List (Int × ByteArray)) (cs : List Int) (Dt : List ByteArray) : Nat → List ByteArray → List ByteArray
  | 0, S => S
  | j + 1, S => crJ W cs Dt j (crA W cs Dt j S)
def crU (d : Dk) : List ByteArray × List ByteArray := unA d.W d.tl (d.S, List.replicate d.tl ByteArray.empty)
def crS (d : Dk) (cs : List Int) : List ByteArray := crA d.W cs (crU d).2 d.tl (crU d).1
def All32 (S : List ByteArray) : Prop := ∀ j, j < S.length → (S.getD j ByteArray.empty).size = 32
theorem all32_set {S : List ByteArray} (h : All32 S) (i : Nat) (x : ByteArray) (hx : x.size = 32) : All32 (S.set i x) := fun j hj => by
  rw [List.length_set] at hj
  have := h j hj
  simp only [List.getD, List.getElem?_set] at this ⊢
  split
  · split
    · exact hx
    · rename_i h1 h2; subst h1; exact absurd hj h2
  · exact this
theorem unA_inv (W : List (Int × ByteArray)) (n : Nat) : ∀ (m : Nat) (S Dt : List ByteArray), (∀ j, j < m → (0 ≤ (W.getD j (0, ByteArray.empty)).1 ∧ (W.getD j (0, ByteArray.empty)).1 < (n : Int)) ∧ (W.getD j (0, ByteArray.empty)).2.size = 32) → S.length = n → All32 S → m ≤ Dt.length → (∀ j, m ≤ j → j < Dt.length → (Dt.getD j ByteArray.empty).size = 32) → (unA W m (S, Dt)).1.length = n ∧ All32 (unA W m (S, Dt)).1 ∧ (unA W m (S, Dt)).2.length = Dt.length ∧ All32 (unA W m (S, Dt)).2
  | 0, S, Dt, _, hl, hS, _, hD => ⟨hl, hS, rfl, fun j hj => hD j (Nat.zero_le _) hj⟩
  | m + 1, S, Dt, hW, hl, hS, hm, hD => by
    obtain ⟨hx, hy⟩ := hW m (Nat.lt_succ_self _)
    have h := unA_inv W n m (S.set (W.getD m (0, ByteArray.empty)).1.toNat (W.getD m (0, ByteArray.empty)).2) (Dt.set m (S.getD (W.getD m (0, ByteArray.empty)).1.toNat ByteArray.empty)) (fun j hj => hW j (by omega)) (by simp [hl]) (all32_set hS _ _ hy) (by simp; omega) (fun j h1 h2 => by
      rw [List.length_set] at h2
      simp only [List.getD, List.getElem?_set]
      have e1 := hS (W.getD m (0, ByteArray.empty)).1.toNat (by omega)
      split
      · split
        · exact e1
        · omega
      · have := hD j (by omega) h2
        exact this)
    simp only [List.length_set] at h
    exact h
theorem crA_inv (W : List (Int × ByteArray)) (cs : List Int) (n : Nat) (Dt : List ByteArray) (hD : All32 Dt) : ∀ (m : Nat) (S : List ByteArray), (∀ j, j < m → (0 ≤ (W.getD j (0, ByteArray.empty)).1 ∧ (W.getD j (0, ByteArray.empty)).1 < (n : Int))) → m ≤ Dt.length → S.length = n → All32 S → (crA W cs Dt m S).length = n ∧ All32 (crA W cs Dt m S)
  | 0, S, _, _, hl, hS => ⟨hl, hS⟩
  | m + 1, S, hW, hm, hl, hS => by
    obtain ⟨h1, h2⟩ := crA_inv W cs n Dt hD m S (fun j hj => hW j (by omega)) (by omega) hl hS
    have hx := hW m (Nat.lt_succ_self _)
    exact ⟨by simp [crA, crJ, h1], all32_set h2 _ _ (tear_size _ _ _ (hD m (by omega)) (h2 _ (by omega)) (cutOf_le _ _))⟩
theorem crU_inv (d : Dk) (hd : d.ok) (hr : d.right) : (crU d).1.length = d.sl ∧ All32 (crU d).1 ∧ (crU d).2.length = d.tl ∧ All32 (crU d).2 := by
  have h := unA_inv d.W d.sl d.tl d.S (List.replicate d.tl ByteArray.empty) hr.w hd.hS (fun j hj => hr.s j (by rw [← hd.hS]; exact hj)) (by simp) (fun j h1 h2 => by simp at h2; omega)
  simpa [crU] using h
theorem crS_inv (d : Dk) (hd : d.ok) (hr : d.right) (cs : List Int) : (crS d cs).length = d.sl ∧ All32 (crS d cs) := by
  obtain ⟨h1, h2, h3, h4⟩ := crU_inv d hd hr
  exact crA_inv d.W cs d.sl _ h4 d.tl _ (fun j hj => (hr.w j hj).1) (by omega) h1 h2
def crK (d : Dk) (ca : Option Addr) (cl cc g sc gd : Nat) : List Bx := [⟨25, d.cs⟩, ⟨26, [.slice ca cl cc]⟩, ⟨25, [.slice none 0 0, .slice none 0 0]⟩, ⟨22, [.slice (some ⟨g, 0, none⟩) d.sl sc]⟩, ⟨22, [.slice (some ⟨gd, 0, none⟩) d.tl d.tl]⟩]
noncomputable def crC : Cfg := ⟨goZ 60 [] [.code (bodyOf Try.f21)], ⟨0, [], []⟩⟩
noncomputable def crSt (d : Dk) (ca : Option Addr) (cl cc g sc gd j : Nat) : SS := ⟨29, [(4, .p 2 0), (5, .p 3 0), (7, .f 33 [(1, 0), (0, 0), (4, 0), (3, 0)]), (19, .v (.int .i64 (d.tl : Int))), (20, .v (.int .i64 (j : Int)))], crK d ca cl cc g sc gd⟩
set_option maxHeartbeats 8000000 in
theorem cr_end (w0 : World) (d : Dk) (hd : d.ok) (hr : d.right) (ca : Option Addr) (cc cb co : Nat) (cs : List Int) (hca : cs.length = 0 ∨ ca = some ⟨cb, co, none⟩) (hcb : cs.length = 0 ∨ cb < w0.heap.size) (hdc : d.W.length = 0 ∨ d.c < w0.heap.size) (g sc gd : Nat) (hg0 : w0.heap.size ≤ g) (hgg : gd ≠ g) (m : Nat) (x0 x1 x2 x3 x4 : Nat) (aa : Act) (w : World) (S : Sy w0 [] [x0, x1, x2, x3, x4] (crSt d ca cs.length cc g sc gd (d.tl)) [rfRow g (crA d.W cs (crU d).2 (d.tl) (crU d).1), rfRow gd (crU d).2, rfWs d.c d.p d.W, rfIn cb co cs] aa w) : post Try.prog (.rnd (m + 1) (bodyL crC) :: crC.k.tail) (bodyPost Try.prog Try.f21 fun e w' => ∃ g sc, e = .returned (.agg #[.slice (some ⟨g, 0, none⟩) d.sl sc, .slice none 0 0]) ∧ w0.heap.size ≤ g ∧ (rfRow g (crS d cs)).P w' ∧ Below w0.heap.size w0 w') .normal aa w := by
  refine sy_run (c := ⟨(.rnd (m + 1) (bodyL crC) :: crC.k.tail), crSt d ca cs.length cc g sc gd (d.tl)⟩) ⟨0, [5]⟩ 50 S fun bs aa w S => ?_
  refine sy_reg S fun S => ?_
  refine sy_ops 1 S fun bs aa w S => ?_
  refine sy_cast 21 S (congrArg Value.bool (decide_eq_false (by omega) : decide (((d.tl : Nat) : Int) < (d.tl : Int)) = false)) (by kernel_rfl) fun S => ?_
  refine sy_run ⟨0, []⟩ 60 S fun bs aa w S => ?_
  exact sy_ret S (by kernel_rfl) (by kernel_rfl) fun hg => ⟨g, sc, rfl, hg0, S.fact (f := rfRow g (crS d cs)) (by simp [crS]), bel_gr hg⟩
set_option maxHeartbeats 8000000 in
theorem cr_step (w0 : World) (d : Dk) (hd : d.ok) (hr : d.right) (ca : Option Addr) (cc cb co : Nat) (cs : List Int) (hca : cs.length = 0 ∨ ca = some ⟨cb, co, none⟩) (hcb : cs.length = 0 ∨ cb < w0.heap.size) (hdc : d.W.length = 0 ∨ d.c < w0.heap.size) (g sc gd : Nat) (hg0 : w0.heap.size ≤ g) (hgg : gd ≠ g) (m j : Nat) (hj : j < d.tl) (ih : ∀ (x0 x1 x2 x3 x4 : Nat) (aa : Act) (w : World) (S : Sy w0 [] [x0, x1, x2, x3, x4] (crSt d ca cs.length cc g sc gd (j + 1)) [rfRow g (crA d.W cs (crU d).2 (j + 1) (crU d).1), rfRow gd (crU d).2, rfWs d.c d.p d.W, rfIn cb co cs] aa w), post Try.prog (.rnd (m) (bodyL crC) :: crC.k.tail) (bodyPost Try.prog Try.f21 fun e w' => ∃ g sc, e = .returned (.agg #[.slice (some ⟨g, 0, none⟩) d.sl sc, .slice none 0 0]) ∧ w0.heap.size ≤ g ∧ (rfRow g (crS d cs)).P w' ∧ Below w0.heap.size w0 w') .normal aa w) (x0 x1 x2 x3 x4 : Nat) (aa : Act) (w : World) (S : Sy w0 [] [x0, x1, x2, x3, x4] (crSt d ca cs.length cc g sc gd (j)) [rfRow g (crA d.W cs (crU d).2 (j) (crU d).1), rfRow gd (crU d).2, rfWs d.c d.p d.W, rfIn cb co cs] aa w) : post Try.prog (.rnd (m + 1) (bodyL crC) :: crC.k.tail) (bodyPost Try.prog Try.f21 fun e w' => ∃ g sc, e = .returned (.agg #[.slice (some ⟨g, 0, none⟩) d.sl sc, .slice none 0 0]) ∧ w0.heap.size ≤ g ∧ (rfRow g (crS d cs)).P w' ∧ Below w0.heap.size w0 w') .normal aa w := by
  obtain ⟨hu1, hu2, hu3, hu4⟩ := crU_inv d hd hr
  obtain ⟨hA1, hA2⟩ := crA_inv d.W cs d.sl _ hu4 j _ (fun i hi => (hr.w i (by omega)).1) (by omega) hu1 hu2
  have hx := (hr.w j hj).1
  refine sy_run (c := ⟨(.rnd (m + 1) (bodyL crC) :: crC.k.tail), crSt d ca cs.length cc g sc gd (j)⟩) ⟨0, [5]⟩ 50 S fun bs1 aa w S => ?_
  refine sy_reg S fun S => ?_
  refine sy_ops 1 S fun bs2 aa w S => ?_
  refine sy_cast 21 S (congrArg Value.bool (decide_eq_true (by omega) : decide (((j : Nat) : Int) < (d.tl : Int)) = true)) (by kernel_rfl) fun S => ?_
  refine sy_run ⟨0, [7]⟩ 60 S fun bs3 aa w S => ?_
  refine sy_reg S fun S => ?_
  refine sy_ops 2 S fun bs4 aa w S => ?_
  obtain ⟨bs, hB⟩ : ∃ bs, bs = [x0, x1, x2, x3, x4] ++ bs1 ++ bs2 ++ bs3 ++ bs4 := ⟨_, rfl⟩
  rw [← hB] at S
  have S' := S.to [1, 0, 4, 3] ⟨29, [], rpK d ca cs.length cc g d.sl sc gd d.tl⟩ (by kernel_rfl) (by kernel_rfl) (by kernel_rfl) (by kernel_rfl) (by kernel_rfl)
  have hap := (S.fs (rfRow g (crA d.W cs (crU d).2 (j) (crU d).1)) (by simp)).2
  refine sy_callG (g := g) (X := Unit) (val := fun _ => .tuple #[]) (C := fun _ w' => (rfRow g (crJ d.W cs (crU d).2 j (crA d.W cs (crU d).2 (j) (crU d).1))).P w') (f := 33) (args := ((rpA j).map (den [bs.getD 1 0, bs.getD 0 0, bs.getD 4 0, bs.getD 3 0])).toArray) S (Or.inr hg0) ((rp_t w j d hd hj g gd sc (crA d.W cs (crU d).2 (j) (crU d).1) (crU d).2 hA1 hu3 (hu4 j (by omega)) (hA2 _ (by omega)) hx ca cc cb co cs hca (bs.getD 1 0) (bs.getD 0 0) (bs.getD 4 0) (bs.getD 3 0) hgg S'.bx (fun i i' hi hi' e => S'.nd i i' (by simpa using hi) (by simpa using hi') e) (fun f hf => ⟨(S.fs f hf).1, fun i hi => (S'.fs f hf).2 i (by simpa using hi)⟩)).mono fun e w' h => ⟨(), h.1, h.2.1, h.2.2⟩) (by kernel_rfl) [rfRow gd (crU d).2, rfWs d.c d.p d.W, rfIn cb co cs] (by
      intro f hf
      simp only [List.mem_cons, List.not_mem_nil, or_false] at hf
      rcases hf with rfl | rfl | rfl
      · exact ⟨by simp, fun hb => hgg (by have h1 : g = gd := hb; exact h1.symm)⟩
      · exact ⟨by simp, fun hb => by obtain ⟨h1, h2⟩ := hb; have := hdc.resolve_left h2; omega⟩
      · exact ⟨by simp, fun hb => by obtain ⟨h1, h2⟩ := hb; have := hcb.resolve_left h2; omega⟩) (fun i hi e => hap i hi e) fun _ aa w hC hgb S => ?_
  have S := S.add (rfRow g (crJ d.W cs (crU d).2 j (crA d.W cs (crU d).2 (j) (crU d).1))) hC hap
  refine sy_run ⟨0, [8]⟩ 60 S fun bs aa w S => ?_
  refine sy_reg S fun S => ?_
  refine sy_ops 1 S fun bs aa w S => ?_
  refine sy_cast 26 S (congrArg (Value.int .i64) (by rw [IntKind.wrap_i64]; have := hd.l2; omega : IntKind.i64.wrap ((j : Int) + 1) = ((j + 1 : Nat) : Int))) (by kernel_rfl) fun S => ?_
  refine sy_run ⟨0, [999]⟩ 50 S fun bs aa w S => ?_
  have S2 := S.to [0, 1, 2, 3, 4] (crSt d ca cs.length cc g sc gd (j + 1)) (by kernel_rfl) (by kernel_rfl) (by kernel_rfl) (by kernel_rfl) (by kernel_rfl)
  refine sy_at2 (k' := (.rnd (m) (bodyL crC) :: crC.k.tail)) (by kernel_rfl) ?_
  exact ih _ _ _ _ _ aa w S2
theorem cr_all (w0 : World) (d : Dk) (hd : d.ok) (hr : d.right) (ca : Option Addr) (cc cb co : Nat) (cs : List Int) (hca : cs.length = 0 ∨ ca = some ⟨cb, co, none⟩) (hcb : cs.length = 0 ∨ cb < w0.heap.size) (hdc : d.W.length = 0 ∨ d.c < w0.heap.size) (g sc gd : Nat) (hg0 : w0.heap.size ≤ g) (hgg : gd ≠ g) : ∀ (r j : Nat), j + r = d.tl → ∀ (x0 x1 x2 x3 x4 : Nat) (aa : Act) (w : World) (S : Sy w0 [] [x0, x1, x2, x3, x4] (crSt d ca cs.length cc g sc gd (j)) [rfRow g (crA d.W cs (crU d).2 (j) (crU d).1), rfRow gd (crU d).2, rfWs d.c d.p d.W, rfIn cb co cs] aa w), post Try.prog (.rnd (r + 1) (bodyL crC) :: crC.k.tail) (bodyPost Try.prog Try.f21 fun e w' => ∃ g sc, e = .returned (.agg #[.slice (some ⟨g, 0, none⟩) d.sl sc, .slice none 0 0]) ∧ w0.heap.size ≤ g ∧ (rfRow g (crS d cs)).P w' ∧ Below w0.heap.size w0 w') .normal aa w := by
  intro r
  induction r with
  | zero => intro j hj x0 x1 x2 x3 x4 aa w S; obtain rfl : j = d.tl := by omega
            exact cr_end w0 d hd hr ca cc cb co cs hca hcb hdc g sc gd hg0 hgg 0 x0 x1 x2 x3 x4 aa w S
  | succ r ih => intro j hj x0 x1 x2 x3 x4 aa w S; exact cr_step w0 d hd hr ca cc cb co cs hca hcb hdc g sc gd hg0 hgg (r + 1) j (by omega) (ih (j + 1) (by omega)) x0 x1 x2 x3 x4 aa w S
set_option maxHeartbeats 8000000 in
theorem crash_t (w0 : World) (d : Dk) (hd : d.ok) (hr : d.right) (h0 : 0 < d.sl) (htc : d.tl ≤ d.tc) (ca : Option Addr) (cc cb co : Nat) (cs : List Int) (hca : cs.length = 0 ∨ ca = some ⟨cb, co, none⟩) (hA : StrAt w0 d.b d.o d.S) (hB : WasAt w0 d.c d.p d.W) (hC : IntsAt w0 cb co cs) : Calls Try.prog 21 #[d.v, .slice ca cs.length cc] w0 fun e w' => ∃ g sc, e = .returned (.agg #[.slice (some ⟨g, 0, none⟩) d.sl sc, .slice none 0 0]) ∧ w0.heap.size ≤ g ∧ (rfRow g (crS d cs)).P w' ∧ Below w0.heap.size w0 w' := by
  have hcb : cs.length = 0 ∨ cb < w0.heap.size := by
    by_cases h : cs.length = 0
    · exact Or.inl h
    · exact Or.inr ((rfIn cb co cs).lt w0 hC cb ⟨rfl, h⟩)
  have hdc : d.W.length = 0 ∨ d.c < w0.heap.size := by
    by_cases h : d.W.length = 0
    · exact Or.inl h
    · exact Or.inr ((rfWs d.c d.p d.W).lt w0 hB d.c ⟨rfl, h⟩)
  have hl1 := hd.l1
  have hl2 := hd.l2
  refine sy_enterF [] [rfSt d.b d.o d.S, rfWs d.c d.p d.W, rfIn cb co cs] (by intro f hf; simp only [List.mem_cons, List.not_mem_nil, or_false] at hf; rcases hf with rfl | rfl | rfl; exact hA; exact hB; exact hC) Try.func21 rfl rfl fun aa S => ?_
  refine sy_run ⟨0, [1]⟩ 60 S fun bs aa w S => ?_
  refine sy_reg S fun S => ?_
  refine sy_ops 2 S fun bs aa w S => ?_
  have esa := hd.hs.resolve_left (show ¬ d.sl = 0 by omega)
  have hltb := fun i hi => S.lt (i := i) hi
  have hw0 := S.gr.size
  refine sy_call S (X := Value) (val := fun v => v) (C := fun v w' => w'.ownsRow w.heap.size 9 1 v d.sl (d.S.map Value.string)) (by
    have h := Try.slices_Clone_string d.b d.o d.sl d.sc d.S w (by rw [hd.hS]; exact Nat.le_refl _) (by omega) (S.fact (f := rfSt d.b d.o d.S) (by simp))
    rw [show d.S.take d.sl = d.S by rw [← hd.hS]; exact List.take_length, ← esa] at h
    exact h.mono fun e w' ⟨v, h1, h2, _, h3⟩ => ⟨v, h1, h2, h3⟩) (by kernel_rfl) fun v2 aa w3 hO hb3 S => ?_
  rcases hO.2 with ⟨_, q⟩ | ⟨g, cap, cur, rfl, hg0, hgc, hnc, hcm, hcs, htk⟩
  · omega
  have S := S.add (rfRow g d.S) ⟨cur.toList, by simpa using hgc, by rw [hd.hS]; simpa using htk⟩ (fun i hi he => by have h1 := hltb i hi; have h2 : _ = g := he; omega)
  refine sy_run ⟨0, [2]⟩ 60 S fun bs aa w S => ?_
  refine sy_reg S fun S => ?_
  refine sy_ops 3 S fun bs aa w S => ?_
  have hap := (S.fs (rfRow g d.S) (by simp)).2
  have hltb := fun i hi => S.lt (i := i) hi
  have hsz := S.gr.size
  have hglt := (rfRow g d.S).lt w (S.fact (f := rfRow g d.S) (by simp)) g rfl
  refine sy_callG (g := g) (X := Nat) (val := fun gd => .slice (some ⟨gd, 0, none⟩) d.tl d.tl) (C := fun gd w' => w.heap.size ≤ gd ∧ (rfRow g (crU d).1).P w' ∧ (rfRow gd (crU d).2).P w') S (Or.inr (by omega)) ((undo_t w g d.sl cap d.tl d.tc d.W d.c d.p d.ta (by rcases hdc with h | h; exact Or.inl h; exact Or.inr ⟨by omega, by omega⟩) hd.hW hl1 hl2 (fun j hj => (hr.w j hj).1) hd.hw htc d.S hd.hS (S.fact (f := rfRow g d.S) (by simp)) (S.fact (f := rfWs d.c d.p d.W) (by simp))).mono fun e w' ⟨gd, h1, h2, h3, h4, h5⟩ => ⟨gd, h1, ⟨h2, h3, h4⟩, gb_of_gr1 h5⟩) (by kernel_rfl) [rfWs d.c d.p d.W, rfIn cb co cs] (by
      intro f hf
      simp only [List.mem_cons, List.not_mem_nil, or_false] at hf
      rcases hf with rfl | rfl
      · exact ⟨by simp, fun hb => by obtain ⟨h1, h2⟩ := hb; have := hdc.resolve_left h2; omega⟩
      · exact ⟨by simp, fun hb => by obtain ⟨h1, h2⟩ := hb; have := hcb.resolve_left h2; omega⟩) (fun i hi e => hap i hi e) fun gd aa w4 hC4 hgb S => ?_
  have S := S.add (rfRow gd (crU d).2) hC4.2.2 (fun i hi he => by have h1 := hltb i hi; have h2 : _ = gd := he; have h3 := hC4.1; omega)
  have S := S.add (rfRow g (crU d).1) hC4.2.1 hap
  refine sy_run ⟨0, []⟩ 60 S fun bs aa w S => ?_
  have S := S.sub (F' := [rfRow g (crA d.W cs (crU d).2 (0) (crU d).1), rfRow gd (crU d).2, rfWs d.c d.p d.W, rfIn cb co cs]) (by intro f hf; simp only [List.mem_cons, List.not_mem_nil, or_false] at hf; rcases hf with rfl | rfl | rfl | rfl <;> simp [crA])
  have S' := S.to [0, 1, 2, 3, 4] (crSt d ca cs.length cc g cap gd 0) (by kernel_rfl) (by kernel_rfl) (by kernel_rfl) (by kernel_rfl) (by kernel_rfl)
  refine sy_loop (d.tl + 1) (by kernel_rfl) ?_
  refine sy_at2 (k' := (.rnd (d.tl + 1) (bodyL crC) :: crC.k.tail)) (by kernel_rfl) ?_
  exact cr_all w0 d hd hr ca cc cb co cs hca hcb hdc g cap gd (by omega) (by have h3 := hC4.1; omega) d.tl 0 (by omega) _ _ _ _ _ aa w S'
end Go.Proofs.Ytnlcjlhcghgaoaa


/-
  Layer 22: what the bytes are after a crash.
-/
namespace Go.Proofs.Ytnlcjlhcghgaoaa
open Go Go.RowKit SZ
set_option linter.unusedVariables false
set_option linter.unusedSimpArgs false
set_option maxRecDepth 100000
attribute [local irreducible] post GD Nxt NxtAll
theorem gset_eq {α : Type} (l : List α) (i : Nat) (x z : α) (h : i < l.length) : (l.set i x).getD i z = x := by simp [List.getD, List.getElem?_set, h]
theorem gset_ne {α : Type} (l : List α) (i j : Nat) (x z : α) (h : i ≠ j) : (l.set i x).getD j z = l.getD j z := by simp [List.getD, List.getElem?_set, h]
theorem set_back {α : Type} (l : List α) (i : Nat) (x z : α) : (l.set i x).set i (l.getD i z) = l := by
  rw [List.set_set]
  by_cases h : i < l.length
  · have e : l.getD i z = l[i] := by simp [List.getD, List.getElem?_eq_getElem h]
    rw [e, List.set_getElem_self]
  · exact List.set_eq_of_length_le (by omega)
def byt (s : ByteArray) (k : Nat) : Nat := (s.data.toList.getD k 0).toNat
theorem byt_ix (s : ByteArray) (k : Nat) (h : k < s.size) : (s[k]'h).toNat = byt s k := by
  have h2 : k < s.data.toList.length := by simpa using h
  unfold byt
  rw [List.getD, List.getElem?_eq_getElem h2]
  rfl
theorem byt_tear (a b : ByteArray) (m k : Nat) (ha : a.size = 32) (hb : b.size = 32) (hm : m ≤ 32) (hk : k < 32) : byt (tear a b m) k = if k < m then byt a k else byt b k := by
  have ha2 : a.data.toList.length = 32 := by simpa using ha
  have hb2 : b.data.toList.length = 32 := by simpa using hb
  have e : (tear a b m).data.toList = a.data.toList.take m ++ b.data.toList.drop m := by
    unfold tear
    rw [ByteArray.data_append, ByteArray.data_extract, ByteArray.data_extract, Array.toList_append]
    simp
    rw [List.take_of_length_le (by simp [hb2, hb])]
  unfold byt
  rw [e]
  simp only [List.getD, List.getElem?_append, List.length_take, ha2, List.getElem?_take, List.getElem?_drop]
  by_cases h : k < m
  · rw [if_pos (by omega), if_pos h, if_pos h]
  · rw [if_neg (by omega), if_neg h, show m + (k - min m 32) = k by omega]
/-- Every byte is the old one or one of a write to that sector. -/
theorem crA_byt (W : List (Int × ByteArray)) (cs : List Int) (n : Nat) (Dt : List ByteArray) (hD : All32 Dt) (a k : Nat) (ha : a < n) (hk : k < 32) : ∀ (m : Nat) (S : List ByteArray), (∀ j, j < m → (0 ≤ (W.getD j (0, ByteArray.empty)).1 ∧ (W.getD j (0, ByteArray.empty)).1 < (n : Int))) → m ≤ Dt.length → S.length = n → All32 S →
    byt ((crA W cs Dt m S).getD a ByteArray.empty) k = byt (S.getD a ByteArray.empty) k ∨ ∃ j, j < m ∧ (W.getD j (0, ByteArray.empty)).1 = (a : Int) ∧ byt ((crA W cs Dt m S).getD a ByteArray.empty) k = byt (Dt.getD j ByteArray.empty) k
  | 0, S, _, _, _, _ => Or.inl rfl
  | m + 1, S, hW, hm, hl, hS => by
    have ih := crA_byt W cs n Dt hD a k ha hk m S (fun j hj => hW j (by omega)) (by omega) hl hS
    obtain ⟨h1, h2⟩ := crA_inv W cs n Dt hD m S (fun j hj => hW j (by omega)) (by omega) hl hS
    have hx := hW m (Nat.lt_succ_self _)
    have ih' : byt ((crA W cs Dt m S).getD a ByteArray.empty) k = byt (S.getD a ByteArray.empty) k ∨ ∃ j, j < m + 1 ∧ (W.getD j (0, ByteArray.empty)).1 = (a : Int) ∧ byt ((crA W cs Dt m S).getD a ByteArray.empty) k = byt (Dt.getD j ByteArray.empty) k := ih.imp id fun ⟨j, hj, q⟩ => ⟨j, by omega, q⟩
    by_cases he : (W.getD m (0, ByteArray.empty)).1.toNat = a
    · have e : (crA W cs Dt (m + 1) S).getD a ByteArray.empty = tear (Dt.getD m ByteArray.empty) ((crA W cs Dt m S).getD a ByteArray.empty) (cutOf cs m) := by
        show (List.set _ _ _).getD a ByteArray.empty = _
        rw [he]
        exact gset_eq _ _ _ _ (by rw [h1]; exact ha)
      rw [e, byt_tear _ _ _ _ (hD m (by omega)) (h2 a (by omega)) (cutOf_le _ _) hk]
      by_cases hc : k < cutOf cs m
      · rw [if_pos hc]
        exact Or.inr ⟨m, by omega, by omega, rfl⟩
      · rw [if_neg hc]
        exact ih'
    · have e : (crA W cs Dt (m + 1) S).getD a ByteArray.empty = (crA W cs Dt m S).getD a ByteArray.empty := by
        exact gset_ne _ _ _ _ _ he
      rw [e]
      exact ih'
theorem unA_app (W X : List (Int × ByteArray)) : ∀ (m : Nat) (x : List ByteArray × List ByteArray), m ≤ W.length → unA (W ++ X) m x = unA W m x
  | 0, x, _ => rfl
  | m + 1, x, h => by
    have e : (W ++ X).getD m (0, ByteArray.empty) = W.getD m (0, ByteArray.empty) := by simp [List.getD, List.getElem?_append_left (show m < W.length by omega)]
    simp only [unA]
    rw [e]
    exact unA_app W X m _ (by omega)
/-- What a list of commands without a sync does, and what undoes it. -/
structure UnR (n : Nat) (S0 : List ByteArray) (D0 : List (Int × ByteArray)) (l : List Nat) (x : List ByteArray × List (Int × ByteArray) × List (Int × ByteArray)) : Prop where
  len : x.1.length = n
  wl : x.2.1.length = l.length
  w1 : ∀ j, j < l.length → (x.2.1.getD j (0, ByteArray.empty)).1 = ((l.getD j 0 % n : Nat) : Int)
  d : x.2.2 = D0 ++ l.map fun c => (((c % n : Nat) : Int), fullS (c : Int))
  un : ∀ Dt : List ByteArray, l.length ≤ Dt.length → (unA x.2.1 l.length (x.1, Dt)).1 = S0 ∧ (unA x.2.1 l.length (x.1, Dt)).2.length = Dt.length ∧ ∀ j, (unA x.2.1 l.length (x.1, Dt)).2.getD j ByteArray.empty = if j < l.length then fullS ((l.getD j 0 : Nat) : Int) else Dt.getD j ByteArray.empty
theorem unr_all (n : Nat) (hn : 0 < n) (S0 : List ByteArray) (hS : S0.length = n) (D0 : List (Int × ByteArray)) : ∀ (m : Nat) (l : List Nat), l.length = m → (∀ c ∈ l, c ≠ 255) → UnR n S0 D0 l (l.foldl (wstep n) (S0, [], D0))
  | 0, l, hm, _ => by
    obtain rfl := List.eq_nil_of_length_eq_zero hm
    exact ⟨hS, rfl, fun j hj => absurd hj (Nat.not_lt_zero _), by simp, fun Dt _ => ⟨rfl, rfl, fun j => by simp [unA]⟩⟩
  | m + 1, l, hm, h => by
    obtain ⟨l', c, rfl⟩ : ∃ l' c, l = l' ++ [c] := by
      rcases List.eq_nil_or_concat l with e | ⟨l', c, e⟩
      · rw [e] at hm; cases hm
      · exact ⟨l', c, by rw [e, List.concat_eq_append]⟩
    have hl : l'.length = m := by simpa using hm
    have ih := unr_all n hn S0 hS D0 m l' hl (fun c hc => h c (List.mem_append_left _ hc))
    have hc : c ≠ 255 := h c (by simp)
    have hcn := Nat.mod_lt c hn
    rw [List.foldl_append]
    generalize l'.foldl (wstep n) (S0, [], D0) = x at ih ⊢
    have e : List.foldl (wstep n) x [c] = (x.1.set (c % n) (fullS (c : Int)), x.2.1 ++ [(((c % n : Nat) : Int), x.1.getD (c % n) ByteArray.empty)], x.2.2 ++ [(((c % n : Nat) : Int), fullS (c : Int))]) := by
      simp [wstep, hc]
    rw [e]
    refine ⟨by simp [ih.len], by simp [ih.wl], fun j hj => ?_, by simp [ih.d], fun Dt hDt => ?_⟩
    · by_cases hjl : j < l'.length
      · have := ih.w1 j hjl
        show ((x.2.1 ++ _).getD j (0, ByteArray.empty)).1 = _
        simp only [List.getD, List.getElem?_append_left (show j < x.2.1.length by rw [ih.wl]; exact hjl), List.getElem?_append_left hjl] at this ⊢
        exact this
      · obtain rfl : j = l'.length := by simp at hj; omega
        show ((x.2.1 ++ _).getD l'.length (0, ByteArray.empty)).1 = _
        rw [← ih.wl]
        simp only [List.getD, List.getElem?_concat_length, Option.getD_some]
        rw [ih.wl, List.getElem?_concat_length]
        rfl
    · have hDt' : l'.length < Dt.length := by simp at hDt; omega
      have e1 : (l' ++ [c]).length = l'.length + 1 := by simp
      have e2 : (x.2.1 ++ [(((c % n : Nat) : Int), x.1.getD (c % n) ByteArray.empty)]).getD l'.length (0, ByteArray.empty) = (((c % n : Nat) : Int), x.1.getD (c % n) ByteArray.empty) := by
        rw [← ih.wl]
        simp only [List.getD, List.getElem?_concat_length, Option.getD_some]
      have e3 : unA (x.2.1 ++ [(((c % n : Nat) : Int), x.1.getD (c % n) ByteArray.empty)]) (l' ++ [c]).length (x.1.set (c % n) (fullS (c : Int)), Dt) = unA x.2.1 l'.length (x.1, Dt.set l'.length (fullS (c : Int))) := by
        rw [e1]
        show unA _ l'.length (List.set _ _ _, List.set _ _ _) = _
        rw [e2]
        show unA _ l'.length ((x.1.set (c % n) (fullS (c : Int))).set (((c % n : Nat) : Int)).toNat (x.1.getD (c % n) ByteArray.empty), Dt.set l'.length ((x.1.set (c % n) (fullS (c : Int))).getD (((c % n : Nat) : Int)).toNat ByteArray.empty)) = _
        rw [Int.toNat_natCast, set_back, gset_eq _ _ _ _ (by rw [ih.len]; exact hcn), unA_app _ _ _ _ (by rw [ih.wl]; exact Nat.le_refl _)]
      show (unA (x.2.1 ++ _) _ (_, Dt)).1 = S0 ∧ _
      rw [e3]
      obtain ⟨h1, h2, h3⟩ := ih.un (Dt.set l'.length (fullS (c : Int))) (by simp; omega)
      refine ⟨h1, by rw [h2, List.length_set], fun j => ?_⟩
      rw [h3 j]
      by_cases hj : j < l'.length
      · rw [if_pos hj, if_pos (by omega)]
        simp [List.getD, List.getElem?_append_left hj]
      · rw [if_neg hj]
        by_cases hj2 : j = l'.length
        · subst hj2
          rw [if_pos (by omega), gset_eq _ _ _ _ hDt']
          simp only [List.getD, List.getElem?_concat_length, Option.getD_some]
        · rw [if_neg (by omega), gset_ne _ _ _ _ _ (fun e => hj2 e.symm)]
/-- Behind the last sync. -/
def lastS (l : List Nat) : Nat → Nat
  | 0 => 0
  | i + 1 => if l.getD i 0 = 255 then i + 1 else lastS l i
theorem lastS_le (l : List Nat) : ∀ i, lastS l i ≤ i
  | 0 => Nat.le_refl _
  | i + 1 => by
    unfold lastS
    split
    · exact Nat.le_refl _
    · exact Nat.le_succ_of_le (lastS_le l i)
theorem lastS_ne (l : List Nat) : ∀ i j, lastS l i ≤ j → j < i → l.getD j 0 ≠ 255
  | 0, j, _, h => absurd h (Nat.not_lt_zero _)
  | i + 1, j, h1, h2 => by
    unfold lastS at h1
    split at h1
    · omega
    · rename_i h
      by_cases e : j = i
      · rw [e]; exact h
      · exact lastS_ne l i j h1 (by omega)
theorem lastS_at (l : List Nat) : ∀ i, lastS l i = 0 ∨ (0 < lastS l i ∧ l.getD (lastS l i - 1) 0 = 255)
  | 0 => Or.inl rfl
  | i + 1 => by
    unfold lastS
    split
    · exact Or.inr ⟨Nat.succ_pos _, by assumption⟩
    · exact lastS_at l i
theorem wall_last (n : Nat) (l : List Nat) (p : Nat) (hp : p = lastS l l.length) : (wall n (l.take p)).2.1 = [] := by
  rcases lastS_at l l.length with h | ⟨h1, h2⟩
  · rw [hp, h]; rfl
  · have hle := lastS_le l l.length
    have e := wall_succ n l (p - 1) (by omega)
    rw [show p - 1 + 1 = p by omega, show l.getD (p - 1) 0 = 255 by rw [hp]; exact h2] at e
    rw [e]
    rfl
def isA (s o : ByteArray) (D : List (Int × ByteArray)) (a k b0 : Nat) : Nat → Bool
  | 0 => decide (((byt s k : Nat) : Int) = ((byt o k : Nat) : Int))
  | j + 1 => isA s o D a k b0 j || (decide ((D.getD (b0 + j) (0, ByteArray.empty)).1 = (a : Int)) && decide (((byt s k : Nat) : Int) = ((byt (D.getD (b0 + j) (0, ByteArray.empty)).2 k : Nat) : Int)))
theorem isA_of (s o : ByteArray) (D : List (Int × ByteArray)) (a k b0 : Nat) : ∀ m, (byt s k = byt o k ∨ ∃ j, j < m ∧ (D.getD (b0 + j) (0, ByteArray.empty)).1 = (a : Int) ∧ byt s k = byt (D.getD (b0 + j) (0, ByteArray.empty)).2 k) → isA s o D a k b0 m = true
  | 0, h => by
    rcases h with h | ⟨j, hj, _⟩
    · simp [isA, h]
    · omega
  | m + 1, h => by
    simp only [isA, Bool.or_eq_true, Bool.and_eq_true, decide_eq_true_eq]
    rcases h with h | ⟨j, hj, h1, h2⟩
    · exact Or.inl (isA_of s o D a k b0 m (Or.inl h))
    · by_cases e : j = m
      · subst e; exact Or.inr ⟨h1, by rw [h2]⟩
      · exact Or.inl (isA_of s o D a k b0 m (Or.inr ⟨j, by omega, h1, h2⟩))
/-- Each byte of the device after a crash. -/
theorem tears (n : Nat) (hn : 0 < n) (l : List Nat) (d : Dk) (hd : d.ok) (hr : d.right) (hsl : d.sl = n) (D : List (Int × ByteArray)) (he : wall n l = (d.S, d.W, D)) (S2 : List ByteArray) (W2 D2 : List (Int × ByteArray)) (he2 : wall n (l.take (lastS l l.length)) = (S2, W2, D2)) (cs : List Int) :
    (S2.length = n ∧ All32 S2) ∧ D2.length ≤ D.length ∧ ∀ a k, a < n → k < 32 → isA ((crS d cs).getD a ByteArray.empty) (S2.getD a ByteArray.empty) D a k D2.length (D.length - D2.length) = true := by
  have hle := lastS_le l l.length
  have hv2 := winv n hn (l.take (lastS l l.length))
  have hw2 := wall_last n l _ rfl
  rw [he2] at hv2 hw2
  have hw2' : W2 = [] := hw2
  subst hw2'
  have e0 : (l.drop (lastS l l.length)).foldl (wstep n) (S2, [], D2) = (d.S, d.W, D) := by
    rw [← he, ← he2]
    unfold wall
    rw [← List.foldl_append, List.take_append_drop]
  have hu := unr_all n hn S2 hv2.len D2 _ (l.drop (lastS l l.length)) rfl (fun c hc => by
    obtain ⟨j, hj, rfl⟩ := List.getElem_of_mem hc
    have hj2 : j < l.length - lastS l l.length := by simpa using hj
    have h1 := lastS_ne l l.length (lastS l l.length + j) (by omega) (by omega)
    rw [List.getElem_drop]
    intro e
    apply h1
    rw [List.getD, List.getElem?_eq_getElem (by omega)]
    exact e)
  rw [e0] at hu
  have hS2 : S2.length = n ∧ All32 S2 := ⟨hv2.len, fun j hj => hv2.sz _ (getD_mem _ _ _ hj)⟩
  have htl : d.tl = (l.drop (lastS l l.length)).length := by rw [← hd.hW]; exact hu.wl
  have hD : D = D2 ++ (l.drop (lastS l l.length)).map fun c => (((c % n : Nat) : Int), fullS (c : Int)) := hu.d
  generalize l.drop (lastS l l.length) = l' at hu htl hD
  refine ⟨hS2, by rw [hD, List.length_append]; omega, fun a k ha hk => ?_⟩
  obtain ⟨h1, h2, h3⟩ := hu.un (List.replicate d.tl ByteArray.empty) (by simp; omega)
  obtain ⟨hu1, hu2, hu3, hu4⟩ := crU_inv d hd hr
  have hc : crU d = unA d.W l'.length (d.S, List.replicate d.tl ByteArray.empty) := by unfold crU; rw [htl]
  have hb := crA_byt d.W cs n (crU d).2 hu4 a k ha hk d.tl (crU d).1 (fun j hj => by have := (hr.w j hj).1; rw [hsl] at this; exact this) (by omega) (by rw [hu1, hsl]) hu2
  have e1 : (crU d).1 = S2 := by rw [hc]; exact h1
  rw [show crA d.W cs (crU d).2 d.tl (crU d).1 = crS d cs from rfl, e1] at hb
  refine isA_of _ _ _ _ _ _ _ (hb.imp id fun ⟨j, hj, q1, q2⟩ => ?_)
  have hjl : j < l'.length := by omega
  have eD : D.getD (D2.length + j) (0, ByteArray.empty) = (((l'.getD j 0 % n : Nat) : Int), fullS ((l'.getD j 0 : Nat) : Int)) := by
    rw [hD]
    simp [List.getD, List.getElem?_append_right, List.getElem?_eq_getElem hjl]
  refine ⟨j, by rw [hD, List.length_append, List.length_map]; omega, ?_, ?_⟩
  · rw [eD, ← q1]
    exact (hu.w1 j hjl).symm
  · rw [eD, q2, hc]
    have := h3 j
    rw [if_pos hjl] at this
    show byt ((unA d.W l'.length (d.S, List.replicate d.tl ByteArray.empty)).2.getD j ByteArray.empty) k = _
    rw [this]
theorem sl_pre (a : Option Addr) (n c m : Nat) (h : m ≤ c) (W : World) : (Instr.sliceAt 41 (.slice a n c) none (some (.int .i64 (m : Int))) none).run Try.prog W = .ok (.slice a m c) W := by
  have hu : Try.prog.underlying 41 = some (.slice (Try.prog.elem 41)) := by rw [Try.underlying41]; kernel_rfl
  rw [run_sliceAt_slice W _ _ _ _ _ hu, run_slice_any W _ _ _ _ hu]
  have hs : (Instr.sliceBounds true n c none (some (.int .i64 (m : Int))) none).run Try.prog W = .ok (0, m, c) W := by
    simp [Instr.sliceBounds, run_sliceBound, h]
  rw [hs]
  have hI : (Try.prog.info? (Try.prog.elem 41)).isSome = true := by kernel_rfl
  obtain ⟨ii, hi⟩ := Option.isSome_iff_exists.1 hI
  have ha : (if c = 0 then a else a.map (·.add (0 * ii.size))) = a := by
    rw [Nat.zero_mul]
    have e : (fun x : Addr => x.add 0) = id := by funext x; simp [Addr.add]
    rw [e, Option.map_id]
    simp
  simp [sizeOf, typeInfo, sliced, hi]
  simpa using ha
/-- A byte of a string. -/
theorem ex_ix {s : SS} {bs : List Nat} {x y : Operand} {t ty : TypeId} {p : ByteArray} {k : Nat} (ht : Try.prog.underlying t = some .string) (hx : s.val x = some (.v (.string p))) (hy : s.val y = some (.v (.int .i64 (k : Int)))) (hk : k < p.size) :
    ∀ (o : Oper) (ρ : Operand → Value) (W : World), o.op = .index t x y → o.type = ty → (∀ x y, s.val x = some y → ρ x = den bs y) → (execOp ρ o).run Try.prog W = .ok (.value (.int .u8 ((byt p k : Nat) : Int))) W := by
  intro o ρ W h1 h2 h3
  have e1 : ρ x = .string p := h3 x _ hx
  have e2 : ρ y = .int .i64 (k : Int) := h3 y _ hy
  have hr : ∀ W, (Instr.index t (.string p) (.int .i64 (k : Int))).run Try.prog W = .ok (.int .u8 ((byt p k : Nat) : Int)) W := fun W => by
    rw [run_index_string W t p .i64 _ ht, dif_pos ⟨by omega, by omega⟩]
    have e := byt_ix p k hk
    simp only [Int.toNat_natCast]
    rw [e]
  unfold execOp
  simp only [h1, e1, e2, Sem.run_bind, Sem.run_pure, Result.andThen_ok, hr]
theorem ex_eqI {s : SS} {bs : List Nat} {x y : Operand} {t t' ty : TypeId} {ki : IntKind} {p q : Int} {b : Bool} (hx : s.val x = some (.v (.int ki p))) (hy : s.val y = some (.v (.int ki q))) (hb : decide (p = q) = b) :
    ∀ (o : Oper) (ρ : Operand → Value) (W : World), o.op = .binOp .eql t x y t' → o.type = ty → (∀ x y, s.val x = some y → ρ x = den bs y) → (execOp ρ o).run Try.prog W = .ok (.value (.bool b)) W := by
  intro o ρ W h1 h2 h3
  have e1 : ρ x = .int ki p := h3 x _ hx
  have e2 : ρ y = .int ki q := h3 y _ hy
  subst hb
  have hb2 : (p == q) = decide (p = q) := rfl
  unfold execOp
  simp only [h1, e1, e2, eqGuard, binOp_eql, hb2, Sem.run_bind, Sem.run_pure, Result.andThen_ok]
  rfl
end Go.Proofs.Ytnlcjlhcghgaoaa


/-
  Layer 22: writes behind a sync; equality of devices.
-/
namespace Go.Proofs.Ytnlcjlhcghgaoaa
open Go Go.RowKit SZ
set_option linter.unusedVariables false
set_option linter.unusedSimpArgs false
set_option maxRecDepth 100000
attribute [local irreducible] post GD Nxt NxtAll
def wput (n : Nat) (x : List ByteArray × List (Int × ByteArray) × List (Int × ByteArray)) (c : Nat) : List ByteArray × List (Int × ByteArray) × List (Int × ByteArray) := (x.1.set (c % n) (fullS (c : Int)), x.2.1 ++ [(((c % n : Nat) : Int), x.1.getD (c % n) ByteArray.empty)], x.2.2 ++ [(((c % n : Nat) : Int), fullS (c : Int))])
theorem unr_put (n : Nat) (hn : 0 < n) (S0 : List ByteArray) (hS : S0.length = n) (D0 : List (Int × ByteArray)) : ∀ (m : Nat) (l : List Nat), l.length = m → UnR n S0 D0 l (l.foldl (wput n) (S0, [], D0))
  | 0, l, hm => by
    obtain rfl := List.eq_nil_of_length_eq_zero hm
    exact ⟨hS, rfl, fun j hj => absurd hj (Nat.not_lt_zero _), by simp, fun Dt _ => ⟨rfl, rfl, fun j => by simp [unA]⟩⟩
  | m + 1, l, hm => by
    obtain ⟨l', c, rfl⟩ : ∃ l' c, l = l' ++ [c] := by
      rcases List.eq_nil_or_concat l with e | ⟨l', c, e⟩
      · rw [e] at hm; cases hm
      · exact ⟨l', c, by rw [e, List.concat_eq_append]⟩
    have hl : l'.length = m := by simpa using hm
    have ih := unr_put n hn S0 hS D0 m l' hl
    have hcn := Nat.mod_lt c hn
    rw [List.foldl_append]
    generalize l'.foldl (wput n) (S0, [], D0) = x at ih ⊢
    have e : List.foldl (wput n) x [c] = (x.1.set (c % n) (fullS (c : Int)), x.2.1 ++ [(((c % n : Nat) : Int), x.1.getD (c % n) ByteArray.empty)], x.2.2 ++ [(((c % n : Nat) : Int), fullS (c : Int))]) := by
      simp [wput]
    rw [e]
    refine ⟨by simp [ih.len], by simp [ih.wl], fun j hj => ?_, by simp [ih.d], fun Dt hDt => ?_⟩
    · by_cases hjl : j < l'.length
      · have := ih.w1 j hjl
        show ((x.2.1 ++ _).getD j (0, ByteArray.empty)).1 = _
        simp only [List.getD, List.getElem?_append_left (show j < x.2.1.length by rw [ih.wl]; exact hjl), List.getElem?_append_left hjl] at this ⊢
        exact this
      · obtain rfl : j = l'.length := by simp at hj; omega
        show ((x.2.1 ++ _).getD l'.length (0, ByteArray.empty)).1 = _
        rw [← ih.wl]
        simp only [List.getD, List.getElem?_concat_length, Option.getD_some]
        rw [ih.wl, List.getElem?_concat_length]
        rfl
    · have hDt' : l'.length < Dt.length := by simp at hDt; omega
      have e1 : (l' ++ [c]).length = l'.length + 1 := by simp
      have e2 : (x.2.1 ++ [(((c % n : Nat) : Int), x.1.getD (c % n) ByteArray.empty)]).getD l'.length (0, ByteArray.empty) = (((c % n : Nat) : Int), x.1.getD (c % n) ByteArray.empty) := by
        rw [← ih.wl]
        simp only [List.getD, List.getElem?_concat_length, Option.getD_some]
      have e3 : unA (x.2.1 ++ [(((c % n : Nat) : Int), x.1.getD (c % n) ByteArray.empty)]) (l' ++ [c]).length (x.1.set (c % n) (fullS (c : Int)), Dt) = unA x.2.1 l'.length (x.1, Dt.set l'.length (fullS (c : Int))) := by
        rw [e1]
        show unA _ l'.length (List.set _ _ _, List.set _ _ _) = _
        rw [e2]
        show unA _ l'.length ((x.1.set (c % n) (fullS (c : Int))).set (((c % n : Nat) : Int)).toNat (x.1.getD (c % n) ByteArray.empty), Dt.set l'.length ((x.1.set (c % n) (fullS (c : Int))).getD (((c % n : Nat) : Int)).toNat ByteArray.empty)) = _
        rw [Int.toNat_natCast, set_back, gset_eq _ _ _ _ (by rw [ih.len]; exact hcn), unA_app _ _ _ _ (by rw [ih.wl]; exact Nat.le_refl _)]
      show (unA (x.2.1 ++ _) _ (_, Dt)).1 = S0 ∧ _
      rw [e3]
      obtain ⟨h1, h2, h3⟩ := ih.un (Dt.set l'.length (fullS (c : Int))) (by simp; omega)
      refine ⟨h1, by rw [h2, List.length_set], fun j => ?_⟩
      rw [h3 j]
      by_cases hj : j < l'.length
      · rw [if_pos hj, if_pos (by omega)]
        simp [List.getD, List.getElem?_append_left hj]
      · rw [if_neg hj]
        by_cases hj2 : j = l'.length
        · subst hj2
          rw [if_pos (by omega), gset_eq _ _ _ _ hDt']
          simp only [List.getD, List.getElem?_concat_length, Option.getD_some]
        · rw [if_neg (by omega), gset_ne _ _ _ _ _ (fun e => hj2 e.symm)]
def mput (n : Nat) (S0 : List ByteArray) (l : List Nat) : List ByteArray × List (Int × ByteArray) × List (Int × ByteArray) := l.foldl (wput n) (S0, [], [])
theorem mput_succ (n : Nat) (S0 : List ByteArray) (l : List Nat) (i : Nat) (h : i < l.length) : mput n S0 (l.take (i + 1)) = wput n (mput n S0 (l.take i)) (l.getD i 0) := by
  have e := List.take_succ_eq_append_getElem h
  unfold mput
  rw [e, List.foldl_append]
  simp [List.getD, List.getElem?_eq_getElem h]
theorem tear_0 (a b : ByteArray) : tear a b 0 = b := by
  unfold tear
  rw [show a.extract 0 0 = ByteArray.empty by simp, ByteArray.empty_append, ByteArray.extract_zero_size]
theorem tear_32 (a b : ByteArray) (ha : a.size = 32) (hb : b.size = 32) : tear a b 32 = a := by
  unfold tear
  rw [hb, show b.extract 32 32 = ByteArray.empty by simp, ByteArray.append_empty, ← ha, ByteArray.extract_zero_size]
theorem crA_un (W : List (Int × ByteArray)) (cs : List Int) (Dt : List ByteArray) (a : Nat) : ∀ (m : Nat) (S : List ByteArray), (∀ j, j < m → (W.getD j (0, ByteArray.empty)).1.toNat ≠ a) → (crA W cs Dt m S).getD a ByteArray.empty = S.getD a ByteArray.empty
  | 0, S, _ => rfl
  | m + 1, S, h => by
    show (List.set _ _ _).getD a ByteArray.empty = _
    rw [gset_ne _ _ _ _ _ (h m (Nat.lt_succ_self _))]
    exact crA_un W cs Dt a m S fun j hj => h j (by omega)
theorem crA_none (W : List (Int × ByteArray)) (cs : List Int) (Dt : List ByteArray) (hc : ∀ j, cutOf cs j = 0 ∨ j ≥ W.length) : ∀ (m : Nat) (S : List ByteArray), m ≤ W.length → crA W cs Dt m S = S
  | 0, S, _ => rfl
  | m + 1, S, h => by
    show List.set _ _ _ = _
    rw [crA_none W cs Dt hc m S (by omega), (hc m).resolve_right (by omega), tear_0]
    have e := set_back S (W.getD m (0, ByteArray.empty)).1.toNat ByteArray.empty ByteArray.empty
    rw [List.set_set] at e
    exact e
/-- A crash behind some writes. -/
structure Keeps (n : Nat) (S0 : List ByteArray) (l : List Nat) (d : Dk) : Prop where
  none : ∀ cs : List Int, (∀ j, j < l.length → cutOf cs j = 0) → crS d cs = S0
  all : crS d [] = d.S
  un : ∀ cs a, a < n → (∀ j, j < l.length → l.getD j 0 % n ≠ a) → (crS d cs).getD a ByteArray.empty = S0.getD a ByteArray.empty
theorem keeps (n : Nat) (hn : 0 < n) (S0 : List ByteArray) (hS : S0.length = n) (l : List Nat) (d : Dk) (hd : d.ok) (hr : d.right) (hsl : d.sl = n) (D : List (Int × ByteArray)) (he : mput n S0 l = (d.S, d.W, D)) : Keeps n S0 l d := by
  have hu := unr_put n hn S0 hS [] _ l rfl
  rw [show l.foldl (wput n) (S0, [], []) = mput n S0 l from rfl, he] at hu
  have htl : d.tl = l.length := by rw [← hd.hW]; exact hu.wl
  obtain ⟨h1, h2, h3⟩ := hu.un (List.replicate d.tl ByteArray.empty) (by simp; omega)
  have hc : crU d = unA d.W l.length (d.S, List.replicate d.tl ByteArray.empty) := by unfold crU; rw [htl]
  have e1 : (crU d).1 = S0 := by rw [hc]; exact h1
  have e2 : ∀ j, j < l.length → (crU d).2.getD j ByteArray.empty = fullS ((l.getD j 0 : Nat) : Int) := fun j hj => by
    have := h3 j
    rw [if_pos hj] at this
    rw [hc]; exact this
  have e3 : ∀ cs, crS d cs = crA d.W cs (crU d).2 l.length S0 := fun cs => by unfold crS; rw [e1, htl]
  refine ⟨fun cs h => ?_, ?_, fun cs a ha h => ?_⟩
  · rw [e3]
    exact crA_none d.W cs _ (fun j => by rcases Nat.lt_or_ge j l.length with q | q; exact Or.inl (h j q); exact Or.inr (by rw [show d.W.length = l.length from hu.wl]; exact q)) _ _ (by rw [show d.W.length = l.length from hu.wl]; exact Nat.le_refl _)
  · rw [e3]
    obtain ⟨hu1, hu2, hu3, hu4⟩ := crU_inv d hd hr
    rw [e1] at hu1 hu2
    have key : ∀ m, m ≤ l.length → crA d.W [] (crU d).2 m S0 = (mput n S0 (l.take m)).1 := by
      intro m
      induction m with
      | zero => intro _; rfl
      | succ m ih =>
        intro hm
        rw [mput_succ n S0 l m (by omega)]
        show crJ d.W [] (crU d).2 m (crA d.W [] (crU d).2 m S0) = ((mput n S0 (l.take m)).1.set (l.getD m 0 % n) (fullS ((l.getD m 0 : Nat) : Int)))
        obtain ⟨q1, q2⟩ := crA_inv d.W [] n (crU d).2 hu4 m S0 (fun j hj => by have := (hr.w j (by omega)).1; rw [hsl] at this; exact this) (by omega) hS hu2
        have hx : (d.W.getD m (0, ByteArray.empty)).1 = ((l.getD m 0 % n : Nat) : Int) := hu.w1 m (by omega)
        have hlt := Nat.mod_lt (l.getD m 0) hn
        unfold crJ
        rw [hx, Int.toNat_natCast, ← ih (by omega)]
        rw [show cutOf [] m = 32 by simp [cutOf], tear_32 _ _ (hu4 m (by omega)) (q2 _ (by omega)), e2 m (by omega)]
    rw [key l.length (Nat.le_refl _), List.take_length, he]
  · rw [e3]
    rw [crA_un d.W cs _ a _ _ fun j hj => by
      have hx : (d.W.getD j (0, ByteArray.empty)).1 = ((l.getD j 0 % n : Nat) : Int) := hu.w1 j hj
      rw [hx, Int.toNat_natCast]; exact h j hj]
theorem crS_synced (d : Dk) (htl : d.tl = 0) (cs : List Int) : crS d cs = d.S := by
  unfold crS crU
  rw [htl]
  rfl
theorem ex_neS {s : SS} {bs : List Nat} {x y : Operand} {t t' ty : TypeId} {p q : ByteArray} {b : Bool} (hx : s.val x = some (.v (.string p))) (hy : s.val y = some (.v (.string q))) (hb : (!(p.toList == q.toList)) = b) :
    ∀ (o : Oper) (ρ : Operand → Value) (W : World), o.op = .binOp .neq t x y t' → o.type = ty → (∀ x y, s.val x = some y → ρ x = den bs y) → (execOp ρ o).run Try.prog W = .ok (.value (.bool b)) W := by
  intro o ρ W h1 h2 h3
  have e1 : ρ x = .string p := h3 x _ hx
  have e2 : ρ y = .string q := h3 y _ hy
  subst hb
  unfold execOp
  simp only [h1, e1, e2, eqGuard, binOp_string_neq, Sem.run_bind, Sem.run_pure, Result.andThen_ok]
  rfl
noncomputable def sm1 : Cfg := ⟨goZ 60 [0] [.code (bodyOf Try.f14)], ⟨0, [], []⟩⟩
noncomputable def sm1S (a b : Dk) (i : Nat) : SS := ⟨59, [(2, .p 0 0), (3, .p 1 0), (5, .v (.int .i64 (i : Int)))], [⟨25, a.cs⟩, ⟨25, b.cs⟩]⟩
noncomputable def sm2S (a b : Dk) (i : Nat) : SS := ⟨59, [(2, .p 0 0), (3, .p 1 0), (6, .v (.int .i64 (i : Int)))], [⟨25, a.cs⟩, ⟨25, b.cs⟩]⟩
noncomputable def sm2 : Cfg := ⟨goZ 60 [0, 9] [.code (bodyOf Try.f14)], ⟨0, [], []⟩⟩
set_option maxHeartbeats 8000000 in
theorem sm_step (w0 : World) (a b : Dk) (ha : a.ok) (hb : b.ok) (hab : a.S = b.S) (hta : a.tl = 0) (htb : b.tl = 0) (m i : Nat) (hi : i < a.sl) (ih : ∀ (x0 x1 : Nat) (aa : Act) (w : World) (S : Sy w0 [] [x0, x1] (sm1S a b (i + 1)) [rfSt a.b a.o a.S, rfSt b.b b.o b.S] aa w), post Try.prog (.rnd (m) (bodyL sm1) :: sm1.k.tail) (bodyPost Try.prog Try.f14 fun e w' => e = .returned (.bool true) ∧ Below w0.heap.size w0 w') .normal aa w) (x0 x1 : Nat) (aa : Act) (w : World) (S : Sy w0 [] [x0, x1] (sm1S a b (i)) [rfSt a.b a.o a.S, rfSt b.b b.o b.S] aa w) : post Try.prog (.rnd (m + 1) (bodyL sm1) :: sm1.k.tail) (bodyPost Try.prog Try.f14 fun e w' => e = .returned (.bool true) ∧ Below w0.heap.size w0 w') .normal aa w := by
  have hsl : a.sl = b.sl := by rw [← ha.hS, ← hb.hS, hab]
  refine sy_run (c := ⟨(.rnd (m + 1) (bodyL sm1) :: sm1.k.tail), sm1S a b i⟩) ⟨0, [4]⟩ 50 S fun bs aa w S => ?_
  refine sy_reg S fun S => ?_
  refine sy_ops 5 S fun bs aa w S => ?_
  refine sy_cast 27 S (congrArg Value.bool (decide_eq_true (by omega) : decide ((i : Int) < (a.sl : Int)) = true)) (by kernel_rfl) fun S => ?_
  refine sy_run ⟨0, []⟩ 60 S fun bs aa w S => ?_
  letI : HF := ⟨[rfSt a.b a.o a.S, rfSt b.b b.o b.S]⟩
  letI : KP := ⟨[40]⟩
  refine dr_enter [0, 1] (by kernel_rfl) (by kernel_rfl) S (by kernel_rfl) (fun aa w D => ?_) (fun f hf => hf)
  refine dr_tix 3 D (by kernel_rfl) (by kernel_rfl) (by kernel_rfl) (b := a.b) (off := a.o) (len := a.sl) (n := i) (size := 1) (ix := (i : Int)) (by rw [← ha.hs.resolve_left (by omega)]; kernel_rfl) rfl (by omega) fun aa D => ?_
  refine dr_tld 4 D (by kernel_rfl) (by kernel_rfl) (by kernel_rfl) (ty := 9) (ad := ⟨a.b, a.o + i * 1, none⟩) (v := .string (a.S.getD i ByteArray.empty)) (fun W hW => ld_at (by kernel_rfl) (by rw [Nat.mul_one]; exact (show StrAt W a.b a.o a.S from hW (rfSt a.b a.o a.S) (by show _ ∈ [rfSt a.b a.o a.S, rfSt b.b b.o b.S]; simp)) i (by rw [ha.hS]; omega))) (by kernel_rfl) fun aa D => ?_
  refine dr_tix 8 D (by kernel_rfl) (by kernel_rfl) (by kernel_rfl) (b := b.b) (off := b.o) (len := b.sl) (n := i) (size := 1) (ix := (i : Int)) (by rw [← hb.hs.resolve_left (by omega)]; kernel_rfl) rfl (by omega) fun aa D => ?_
  refine dr_tld 9 D (by kernel_rfl) (by kernel_rfl) (by kernel_rfl) (ty := 9) (ad := ⟨b.b, b.o + i * 1, none⟩) (v := .string (b.S.getD i ByteArray.empty)) (fun W hW => ld_at (by kernel_rfl) (by rw [Nat.mul_one]; exact (show StrAt W b.b b.o b.S from hW (rfSt b.b b.o b.S) (by show _ ∈ [rfSt a.b a.o a.S, rfSt b.b b.o b.S]; simp)) i (by rw [hb.hS]; omega))) (by kernel_rfl) fun aa D => ?_
  refine dr_ex2 (fun d v c a w h => by cases d <;> exact h) 10 (op := .binOp .neq 9 (.tmp 34) (.tmp 39) 9) (ty := 4) (v := .bool false) D (by kernel_rfl) (by kernel_rfl) (by kernel_rfl) (by kernel_rfl) (ex_neS (p := a.S.getD i ByteArray.empty) (q := b.S.getD i ByteArray.empty) (by kernel_rfl) (by kernel_rfl) (by rw [hab]; simp)) fun aa D => ?_
  refine dr_end D (by kernel_rfl) fun S => ?_
  refine sy_run ⟨0, [5]⟩ 60 S fun bs aa w S => ?_
  refine sy_reg S fun S => ?_
  refine sy_ops 2 S fun bs aa w S => ?_
  refine sy_cast 29 S (congrArg (Value.int .i64) (by rw [IntKind.wrap_i64]; have := ha.l1; omega : IntKind.i64.wrap ((i : Int) + 1) = ((i + 1 : Nat) : Int))) (by kernel_rfl) fun S => ?_
  refine sy_run ⟨0, [999]⟩ 50 S fun bs aa w S => ?_
  have S2 := S.to [0, 1] (sm1S a b (i + 1)) (by kernel_rfl) (by kernel_rfl) (by kernel_rfl) (by kernel_rfl) (by kernel_rfl)
  refine sy_at2 (k' := (.rnd (m) (bodyL sm1) :: sm1.k.tail)) (by kernel_rfl) ?_
  exact ih _ _ aa w S2
set_option maxHeartbeats 8000000 in
theorem sm_end (w0 : World) (a b : Dk) (ha : a.ok) (hb : b.ok) (hab : a.S = b.S) (hta : a.tl = 0) (htb : b.tl = 0) (m : Nat) (x0 x1 : Nat) (aa : Act) (w : World) (S : Sy w0 [] [x0, x1] (sm1S a b (a.sl)) [rfSt a.b a.o a.S, rfSt b.b b.o b.S] aa w) : post Try.prog (.rnd (m + 1) (bodyL sm1) :: sm1.k.tail) (bodyPost Try.prog Try.f14 fun e w' => e = .returned (.bool true) ∧ Below w0.heap.size w0 w') .normal aa w := by
  refine sy_run (c := ⟨(.rnd (m + 1) (bodyL sm1) :: sm1.k.tail), sm1S a b a.sl⟩) ⟨0, [4]⟩ 50 S fun bs aa w S => ?_
  refine sy_reg S fun S => ?_
  refine sy_ops 5 S fun bs aa w S => ?_
  refine sy_cast 27 S (congrArg Value.bool (decide_eq_false (by omega) : decide ((a.sl : Int) < (a.sl : Int)) = false)) (by kernel_rfl) fun S => ?_
  refine sy_run ⟨0, []⟩ 60 S fun bs aa w S => ?_
  have S2 := S.to [0, 1] (sm2S a b 0) (by kernel_rfl) (by kernel_rfl) (by kernel_rfl) (by kernel_rfl) (by kernel_rfl)
  refine sy_loop 1 (by kernel_rfl) ?_
  refine sy_at2 (k' := (.rnd 1 (bodyL sm2) :: sm2.k.tail)) (by kernel_rfl) ?_
  have S := S2
  refine sy_run (c := ⟨.rnd 1 (bodyL sm2) :: sm2.k.tail, sm2S a b 0⟩) ⟨0, [9]⟩ 60 S fun bs aa w S => ?_
  refine sy_reg S fun S => ?_
  refine sy_ops 5 S fun bs aa w S => ?_
  refine sy_cast 45 S (congrArg Value.bool (by rw [hta]; rfl : decide (((0 : Nat) : Int) < (a.tl : Int)) = false)) (by kernel_rfl) fun S => ?_
  refine sy_run ⟨0, []⟩ 60 S fun bs aa w S => ?_
  exact sy_ret S (by kernel_rfl) (by kernel_rfl) fun hg => ⟨rfl, bel_gr hg⟩
theorem sm_all (w0 : World) (a b : Dk) (ha : a.ok) (hb : b.ok) (hab : a.S = b.S) (hta : a.tl = 0) (htb : b.tl = 0) : ∀ (r i : Nat), i + r = a.sl → ∀ (x0 x1 : Nat) (aa : Act) (w : World) (S : Sy w0 [] [x0, x1] (sm1S a b (i)) [rfSt a.b a.o a.S, rfSt b.b b.o b.S] aa w), post Try.prog (.rnd (r + 1) (bodyL sm1) :: sm1.k.tail) (bodyPost Try.prog Try.f14 fun e w' => e = .returned (.bool true) ∧ Below w0.heap.size w0 w') .normal aa w := by
  intro r
  induction r with
  | zero => intro i hi x0 x1 aa w S; obtain rfl : i = a.sl := by omega
            exact sm_end w0 a b ha hb hab hta htb 0 x0 x1 aa w S
  | succ r ih => intro i hi x0 x1 aa w S; exact sm_step w0 a b ha hb hab hta htb (r + 1) i (by omega) (ih (i + 1) (by omega)) x0 x1 aa w S
set_option maxHeartbeats 8000000 in
theorem same0_t (w0 : World) (a b : Dk) (ha : a.ok) (hb : b.ok) (hab : a.S = b.S) (hta : a.tl = 0) (htb : b.tl = 0) (hA : StrAt w0 a.b a.o a.S) (hB : StrAt w0 b.b b.o b.S) : Calls Try.prog 14 #[a.v, b.v] w0 fun e w' => e = .returned (.bool true) ∧ Below w0.heap.size w0 w' := by
  have hsl : a.sl = b.sl := by rw [← ha.hS, ← hb.hS, hab]
  refine sy_enterF [] [rfSt a.b a.o a.S, rfSt b.b b.o b.S] (by intro f hf; simp only [List.mem_cons, List.not_mem_nil, or_false] at hf; rcases hf with rfl | rfl; exact hA; exact hB) Try.func14 rfl rfl fun aa S => ?_
  refine sy_run ⟨0, [1]⟩ 60 S fun bs aa w S => ?_
  refine sy_reg S fun S => ?_
  refine sy_ops 7 S fun bs aa w S => ?_
  refine sy_cast 13 S (congrArg Value.bool (by rw [hsl]; simp : (!decide ((a.sl : Int) = (b.sl : Int))) = false)) (by kernel_rfl) fun S => ?_
  refine sy_ops 8 S fun bs aa w S => ?_
  refine sy_cast 21 S (congrArg Value.bool (by rw [hta, htb]; rfl : (!decide ((a.tl : Int) = (b.tl : Int))) = false)) (by kernel_rfl) fun S => ?_
  refine sy_run ⟨0, []⟩ 60 S fun bs aa w S => ?_
  have S2 := S.to [0, 1] (sm1S a b 0) (by kernel_rfl) (by kernel_rfl) (by kernel_rfl) (by kernel_rfl) (by kernel_rfl)
  refine sy_loop (a.sl + 1) (by kernel_rfl) ?_
  refine sy_at2 (k' := (.rnd (a.sl + 1) (bodyL sm1) :: sm1.k.tail)) (by kernel_rfl) ?_
  exact sm_all w0 a b ha hb hab hta htb a.sl 0 (by omega) _ _ aa w S2
end Go.Proofs.Ytnlcjlhcghgaoaa


/-
  Layer 22: any device: whether it is small, whether it is right.
-/
namespace Go.Proofs.Ytnlcjlhcghgaoaa
open Go Go.RowKit SZ
set_option linter.unusedVariables false
set_option linter.unusedSimpArgs false
set_option maxRecDepth 100000
attribute [local irreducible] post GD Nxt NxtAll
/-- Any device. -/
structure Dk.gen (d : Dk) : Prop where
  hS : d.S.length = d.sl
  hs : d.sl = 0 ∨ d.sa = some ⟨d.b, d.o, none⟩
  hW : d.W.length = d.tl
  hw : d.tl = 0 ∨ d.ta = some ⟨d.c, d.p, none⟩
  ht : (d.ta = none ∧ d.tl = 0 ∧ d.tc = 0) ∨ (d.ta.isSome = true ∧ d.tl ≤ d.tc)
  hc : d.tc ≤ 9223372036854775807
  hsn : d.sa = none → d.sc = 0
theorem upto_succ {P : Nat → Prop} {j : Nat} (hv : ∀ i, i < j → P i) (hp : P j) : ∀ i, i < j + 1 → P i := fun i hi => by
  rcases Nat.lt_or_ge i j with h | h
  · exact hv i h
  · rw [show i = j by omega]; exact hp
theorem all_upto {α : Type} (p : α → Bool) (z : α) (l : List α) : (∀ i, i < l.length → p (l.getD i z) = true) → l.all p = true := fun h => by
  rw [List.all_eq_true]
  intro x hx
  obtain ⟨i, hi, rfl⟩ := List.getElem_of_mem hx
  have := h i hi
  rwa [List.getD, List.getElem?_eq_getElem hi] at this
theorem all_not {α : Type} (p : α → Bool) (z : α) (l : List α) (i : Nat) (hi : i < l.length) (h : p (l.getD i z) = false) : l.all p = false := by
  rw [List.all_eq_false]
  exact ⟨l.getD i z, getD_mem l i z hi, by rw [h]; simp⟩
def fewB (d : Dk) : Bool := decide (d.sl ≤ 600) && decide (d.tl ≤ 60) && d.S.all (fun s => decide (s.size ≤ 60)) && d.W.all (fun x => decide (x.2.size ≤ 60))
def rightB (d : Dk) : Bool := decide (d.sl ≤ 512) && d.S.all (fun s => decide (s.size = 32)) && d.W.all (fun x => decide (0 ≤ x.1) && decide (x.1 < (d.sl : Int)) && decide (x.2.size = 32))
noncomputable def fw1 : Cfg := ⟨goZ 60 [0] [.code (bodyOf Try.f8)], ⟨0, [], []⟩⟩
noncomputable def fw2 : Cfg := ⟨goZ 60 [0, 9] [.code (bodyOf Try.f8)], ⟨0, [], []⟩⟩
noncomputable def fwS1 (d : Dk) (j : Nat) : SS := ⟨44, [(1, .p 0 0), (3, .v (.int .i64 (j : Int)))], [⟨25, d.cs⟩]⟩
noncomputable def fwS2 (d : Dk) (j : Nat) : SS := ⟨44, [(1, .p 0 0), (4, .v (.int .i64 (j : Int)))], [⟨25, d.cs⟩]⟩
set_option maxHeartbeats 8000000 in
theorem fw_e2 (w0 : World) (d : Dk) (hg : d.gen) (h6 : d.sl ≤ 600 ∧ d.tl ≤ 60) (m : Nat) (hu : ∀ i, i < d.sl → (decide ((d.S.getD i ByteArray.empty).size ≤ 60)) = true) (hv : ∀ i, i < d.tl → (decide ((d.W.getD i (0, ByteArray.empty)).2.size ≤ 60)) = true) (x0 : Nat) (aa : Act) (w : World) (S : Sy w0 [] [x0] (fwS2 d (d.tl)) [rfSt d.b d.o d.S, rfWs d.c d.p d.W] aa w) : post Try.prog (.rnd (m + 1) (bodyL fw2) :: fw2.k.tail) (bodyPost Try.prog Try.f8 fun e w' => e = .returned (.bool (fewB d)) ∧ Below w0.heap.size w0 w') .normal aa w := by
  refine sy_run (c := ⟨(.rnd (m + 1) (bodyL fw2) :: fw2.k.tail), fwS2 d d.tl⟩) ⟨0, [9]⟩ 50 S fun bs aa w S => ?_
  refine sy_reg S fun S => ?_
  refine sy_ops 5 S fun bs aa w S => ?_
  refine sy_cast 33 S (congrArg Value.bool (decide_eq_false (by omega) : decide ((d.tl : Int) < (d.tl : Int)) = false)) (by kernel_rfl) fun S => ?_
  refine sy_run ⟨0, []⟩ 60 S fun bs aa w S => ?_
  have e : fewB d = true := by simp only [fewB]; rw [all_upto _ ByteArray.empty d.S (fun i hi => hu i (by rw [← hg.hS]; exact hi)), all_upto _ (0, ByteArray.empty) d.W (fun i hi => hv i (by rw [← hg.hW]; exact hi)), decide_eq_true h6.1, decide_eq_true h6.2]; rfl
  rw [e]
  exact sy_ret S (by kernel_rfl) (by kernel_rfl) fun hg => ⟨rfl, bel_gr hg⟩
set_option maxHeartbeats 8000000 in
theorem fw_s20 (w0 : World) (d : Dk) (hg : d.gen) (h6 : d.sl ≤ 600 ∧ d.tl ≤ 60) (hu : ∀ i, i < d.sl → (decide ((d.S.getD i ByteArray.empty).size ≤ 60)) = true) (m j : Nat) (hj : j < d.tl) (hp : (decide ((d.W.getD j (0, ByteArray.empty)).2.size ≤ 60)) = true) (ih : (∀ i, i < j + 1 → (decide ((d.W.getD i (0, ByteArray.empty)).2.size ≤ 60)) = true) → ∀ (x0 : Nat) (aa : Act) (w : World) (S : Sy w0 [] [x0] (fwS2 d (j + 1)) [rfSt d.b d.o d.S, rfWs d.c d.p d.W] aa w), post Try.prog (.rnd (m) (bodyL fw2) :: fw2.k.tail) (bodyPost Try.prog Try.f8 fun e w' => e = .returned (.bool (fewB d)) ∧ Below w0.heap.size w0 w') .normal aa w) (hv : ∀ i, i < j → (decide ((d.W.getD i (0, ByteArray.empty)).2.size ≤ 60)) = true) (x0 : Nat) (aa : Act) (w : World) (S : Sy w0 [] [x0] (fwS2 d (j)) [rfSt d.b d.o d.S, rfWs d.c d.p d.W] aa w) : post Try.prog (.rnd (m + 1) (bodyL fw2) :: fw2.k.tail) (bodyPost Try.prog Try.f8 fun e w' => e = .returned (.bool (fewB d)) ∧ Below w0.heap.size w0 w') .normal aa w := by
  refine sy_run (c := ⟨(.rnd (m + 1) (bodyL fw2) :: fw2.k.tail), fwS2 d j⟩) ⟨0, [9]⟩ 50 S fun bs aa w S => ?_
  refine sy_reg S fun S => ?_
  refine sy_ops 5 S fun bs aa w S => ?_
  refine sy_cast 33 S (congrArg Value.bool (decide_eq_true (by omega) : decide ((j : Int) < (d.tl : Int)) = true)) (by kernel_rfl) fun S => ?_
  refine sy_run ⟨0, [11]⟩ 60 S fun bs aa w S => ?_
  refine sy_reg S fun S => ?_
  refine sy_ops 3 S fun bs aa w S => ?_
  refine sy_ix (b := d.c) (off := d.p) (len := d.tl) (n := j) (size := 2) (i := (j : Int)) S (by rw [← hg.hw.resolve_left (by omega)]; kernel_rfl) rfl hj fun aa S => ?_
  refine sy_ops 1 S fun bs aa w S => ?_
  refine sy_ldo S (ld_at (ty := 9) (b := d.c) (off := d.p + j * 2 + 1) (by kernel_rfl) ((S.fact (f := rfWs d.c d.p d.W) (by simp)) j (by rw [hg.hW]; omega)).2) (by kernel_rfl) fun aa S => ?_
  refine sy_ops 2 S fun bs aa w S => ?_
  refine sy_cast 43 S (congrArg Value.bool (decide_eq_false (by have := of_decide_eq_true hp; omega) : decide (((d.W.getD j (0, ByteArray.empty)).2.size : Int) > 60) = false)) (by kernel_rfl) fun S => ?_
  refine sy_run ⟨0, [10]⟩ 60 S fun bs aa w S => ?_
  refine sy_reg S fun S => ?_
  refine sy_ops 2 S fun bs aa w S => ?_
  refine sy_cast 35 S (congrArg (Value.int .i64) (by rw [IntKind.wrap_i64]; omega : IntKind.i64.wrap ((j : Int) + 1) = ((j + 1 : Nat) : Int))) (by kernel_rfl) fun S => ?_
  refine sy_run ⟨0, [999]⟩ 50 S fun bs aa w S => ?_
  have S2 := S.to [0] (fwS2 d (j + 1)) (by kernel_rfl) (by kernel_rfl) (by kernel_rfl) (by kernel_rfl) (by kernel_rfl)
  refine sy_at2 (k' := (.rnd (m) (bodyL fw2) :: fw2.k.tail)) (by kernel_rfl) ?_
  exact ih (upto_succ hv hp) _ aa w S2
set_option maxHeartbeats 8000000 in
theorem fw_s21 (w0 : World) (d : Dk) (hg : d.gen) (h6 : d.sl ≤ 600 ∧ d.tl ≤ 60) (hu : ∀ i, i < d.sl → (decide ((d.S.getD i ByteArray.empty).size ≤ 60)) = true) (m j : Nat) (hj : j < d.tl) (hp : (decide ((d.W.getD j (0, ByteArray.empty)).2.size ≤ 60)) = false) (ih : (∀ i, i < j + 1 → (decide ((d.W.getD i (0, ByteArray.empty)).2.size ≤ 60)) = true) → ∀ (x0 : Nat) (aa : Act) (w : World) (S : Sy w0 [] [x0] (fwS2 d (j + 1)) [rfSt d.b d.o d.S, rfWs d.c d.p d.W] aa w), post Try.prog (.rnd (m) (bodyL fw2) :: fw2.k.tail) (bodyPost Try.prog Try.f8 fun e w' => e = .returned (.bool (fewB d)) ∧ Below w0.heap.size w0 w') .normal aa w) (hv : ∀ i, i < j → (decide ((d.W.getD i (0, ByteArray.empty)).2.size ≤ 60)) = true) (x0 : Nat) (aa : Act) (w : World) (S : Sy w0 [] [x0] (fwS2 d (j)) [rfSt d.b d.o d.S, rfWs d.c d.p d.W] aa w) : post Try.prog (.rnd (m + 1) (bodyL fw2) :: fw2.k.tail) (bodyPost Try.prog Try.f8 fun e w' => e = .returned (.bool (fewB d)) ∧ Below w0.heap.size w0 w') .normal aa w := by
  refine sy_run (c := ⟨(.rnd (m + 1) (bodyL fw2) :: fw2.k.tail), fwS2 d j⟩) ⟨0, [9]⟩ 50 S fun bs aa w S => ?_
  refine sy_reg S fun S => ?_
  refine sy_ops 5 S fun bs aa w S => ?_
  refine sy_cast 33 S (congrArg Value.bool (decide_eq_true (by omega) : decide ((j : Int) < (d.tl : Int)) = true)) (by kernel_rfl) fun S => ?_
  refine sy_run ⟨0, [11]⟩ 60 S fun bs aa w S => ?_
  refine sy_reg S fun S => ?_
  refine sy_ops 3 S fun bs aa w S => ?_
  refine sy_ix (b := d.c) (off := d.p) (len := d.tl) (n := j) (size := 2) (i := (j : Int)) S (by rw [← hg.hw.resolve_left (by omega)]; kernel_rfl) rfl hj fun aa S => ?_
  refine sy_ops 1 S fun bs aa w S => ?_
  refine sy_ldo S (ld_at (ty := 9) (b := d.c) (off := d.p + j * 2 + 1) (by kernel_rfl) ((S.fact (f := rfWs d.c d.p d.W) (by simp)) j (by rw [hg.hW]; omega)).2) (by kernel_rfl) fun aa S => ?_
  refine sy_ops 2 S fun bs aa w S => ?_
  refine sy_cast 43 S (congrArg Value.bool (decide_eq_true (by have := of_decide_eq_false hp; omega) : decide (((d.W.getD j (0, ByteArray.empty)).2.size : Int) > 60) = true)) (by kernel_rfl) fun S => ?_
  refine sy_run ⟨0, []⟩ 60 S fun bs aa w S => ?_
  have e : fewB d = false := (by simp only [fewB]; rw [all_not _ (0, ByteArray.empty) d.W j (by rw [hg.hW]; exact hj) hp]; simp)
  rw [e]
  exact sy_ret S (by kernel_rfl) (by kernel_rfl) fun hg => ⟨rfl, bel_gr hg⟩
theorem fw_a2 (w0 : World) (d : Dk) (hg : d.gen) (h6 : d.sl ≤ 600 ∧ d.tl ≤ 60) (hu : ∀ i, i < d.sl → (decide ((d.S.getD i ByteArray.empty).size ≤ 60)) = true) : ∀ (r j : Nat), j + r = d.tl → (∀ i, i < j → (decide ((d.W.getD i (0, ByteArray.empty)).2.size ≤ 60)) = true) → ∀ (x0 : Nat) (aa : Act) (w : World) (S : Sy w0 [] [x0] (fwS2 d (j)) [rfSt d.b d.o d.S, rfWs d.c d.p d.W] aa w), post Try.prog (.rnd (r + 1) (bodyL fw2) :: fw2.k.tail) (bodyPost Try.prog Try.f8 fun e w' => e = .returned (.bool (fewB d)) ∧ Below w0.heap.size w0 w') .normal aa w := by
  intro r
  induction r with
  | zero => intro j hj hv x0 aa w S; obtain rfl : j = d.tl := by omega
            exact fw_e2 w0 d hg h6 0 hu hv x0 aa w S
  | succ r ih =>
    intro j hj hv x0 aa w S
    have hjl : j < d.tl := by omega
    cases hp : (decide ((d.W.getD j (0, ByteArray.empty)).2.size ≤ 60)) with
    | true => exact fw_s20 w0 d hg h6 hu (r + 1) j hjl hp (fun h => ih (j + 1) (by omega) h) hv x0 aa w S
    | false => exact fw_s21 w0 d hg h6 hu (r + 1) j hjl hp (fun h => ih (j + 1) (by omega) h) hv x0 aa w S
set_option maxHeartbeats 8000000 in
theorem fw_e1 (w0 : World) (d : Dk) (hg : d.gen) (h6 : d.sl ≤ 600 ∧ d.tl ≤ 60) (m : Nat) (hv : ∀ i, i < d.sl → (decide ((d.S.getD i ByteArray.empty).size ≤ 60)) = true) (x0 : Nat) (aa : Act) (w : World) (S : Sy w0 [] [x0] (fwS1 d (d.sl)) [rfSt d.b d.o d.S, rfWs d.c d.p d.W] aa w) : post Try.prog (.rnd (m + 1) (bodyL fw1) :: fw1.k.tail) (bodyPost Try.prog Try.f8 fun e w' => e = .returned (.bool (fewB d)) ∧ Below w0.heap.size w0 w') .normal aa w := by
  refine sy_run (c := ⟨(.rnd (m + 1) (bodyL fw1) :: fw1.k.tail), fwS1 d d.sl⟩) ⟨0, [4]⟩ 50 S fun bs aa w S => ?_
  refine sy_reg S fun S => ?_
  refine sy_ops 5 S fun bs aa w S => ?_
  refine sy_cast 19 S (congrArg Value.bool (decide_eq_false (by omega) : decide ((d.sl : Int) < (d.sl : Int)) = false)) (by kernel_rfl) fun S => ?_
  refine sy_run ⟨0, []⟩ 60 S fun bs aa w S => ?_
  have S2 := S.to [0] (fwS2 d 0) (by kernel_rfl) (by kernel_rfl) (by kernel_rfl) (by kernel_rfl) (by kernel_rfl)
  refine sy_loop (d.tl + 1) (by kernel_rfl) ?_
  refine sy_at2 (k' := (.rnd (d.tl + 1) (bodyL fw2) :: fw2.k.tail)) (by kernel_rfl) ?_
  exact fw_a2 w0 d hg h6 hv d.tl 0 (by omega) (fun i hi => absurd hi (Nat.not_lt_zero _)) _ aa w S2
set_option maxHeartbeats 8000000 in
theorem fw_s10 (w0 : World) (d : Dk) (hg : d.gen) (h6 : d.sl ≤ 600 ∧ d.tl ≤ 60) (m j : Nat) (hj : j < d.sl) (hp : (decide ((d.S.getD j ByteArray.empty).size ≤ 60)) = true) (ih : (∀ i, i < j + 1 → (decide ((d.S.getD i ByteArray.empty).size ≤ 60)) = true) → ∀ (x0 : Nat) (aa : Act) (w : World) (S : Sy w0 [] [x0] (fwS1 d (j + 1)) [rfSt d.b d.o d.S, rfWs d.c d.p d.W] aa w), post Try.prog (.rnd (m) (bodyL fw1) :: fw1.k.tail) (bodyPost Try.prog Try.f8 fun e w' => e = .returned (.bool (fewB d)) ∧ Below w0.heap.size w0 w') .normal aa w) (hv : ∀ i, i < j → (decide ((d.S.getD i ByteArray.empty).size ≤ 60)) = true) (x0 : Nat) (aa : Act) (w : World) (S : Sy w0 [] [x0] (fwS1 d (j)) [rfSt d.b d.o d.S, rfWs d.c d.p d.W] aa w) : post Try.prog (.rnd (m + 1) (bodyL fw1) :: fw1.k.tail) (bodyPost Try.prog Try.f8 fun e w' => e = .returned (.bool (fewB d)) ∧ Below w0.heap.size w0 w') .normal aa w := by
  refine sy_run (c := ⟨(.rnd (m + 1) (bodyL fw1) :: fw1.k.tail), fwS1 d j⟩) ⟨0, [4]⟩ 50 S fun bs aa w S => ?_
  refine sy_reg S fun S => ?_
  refine sy_ops 5 S fun bs aa w S => ?_
  refine sy_cast 19 S (congrArg Value.bool (decide_eq_true (by omega) : decide ((j : Int) < (d.sl : Int)) = true)) (by kernel_rfl) fun S => ?_
  refine sy_run ⟨0, [6]⟩ 60 S fun bs aa w S => ?_
  refine sy_reg S fun S => ?_
  refine sy_ops 3 S fun bs aa w S => ?_
  refine sy_ix (b := d.b) (off := d.o) (len := d.sl) (n := j) (size := 1) (i := (j : Int)) S (by rw [← hg.hs.resolve_left (by omega)]; kernel_rfl) rfl hj fun aa S => ?_
  refine sy_ldo S (ld_at (ty := 9) (b := d.b) (off := d.o + j * 1) (by kernel_rfl) (by rw [Nat.mul_one]; exact S.fact (f := rfSt d.b d.o d.S) (by simp) j (by rw [hg.hS]; omega))) (by kernel_rfl) fun aa S => ?_
  refine sy_ops 2 S fun bs aa w S => ?_
  refine sy_cast 28 S (congrArg Value.bool (decide_eq_false (by have := of_decide_eq_true hp; omega) : decide (((d.S.getD j ByteArray.empty).size : Int) > 60) = false)) (by kernel_rfl) fun S => ?_
  refine sy_run ⟨0, [5]⟩ 60 S fun bs aa w S => ?_
  refine sy_reg S fun S => ?_
  refine sy_ops 2 S fun bs aa w S => ?_
  refine sy_cast 21 S (congrArg (Value.int .i64) (by rw [IntKind.wrap_i64]; omega : IntKind.i64.wrap ((j : Int) + 1) = ((j + 1 : Nat) : Int))) (by kernel_rfl) fun S => ?_
  refine sy_run ⟨0, [999]⟩ 50 S fun bs aa w S => ?_
  have S2 := S.to [0] (fwS1 d (j + 1)) (by kernel_rfl) (by kernel_rfl) (by kernel_rfl) (by kernel_rfl) (by kernel_rfl)
  refine sy_at2 (k' := (.rnd (m) (bodyL fw1) :: fw1.k.tail)) (by kernel_rfl) ?_
  exact ih (upto_succ hv hp) _ aa w S2
set_option maxHeartbeats 8000000 in
theorem fw_s11 (w0 : World) (d : Dk) (hg : d.gen) (h6 : d.sl ≤ 600 ∧ d.tl ≤ 60) (m j : Nat) (hj : j < d.sl) (hp : (decide ((d.S.getD j ByteArray.empty).size ≤ 60)) = false) (ih : (∀ i, i < j + 1 → (decide ((d.S.getD i ByteArray.empty).size ≤ 60)) = true) → ∀ (x0 : Nat) (aa : Act) (w : World) (S : Sy w0 [] [x0] (fwS1 d (j + 1)) [rfSt d.b d.o d.S, rfWs d.c d.p d.W] aa w), post Try.prog (.rnd (m) (bodyL fw1) :: fw1.k.tail) (bodyPost Try.prog Try.f8 fun e w' => e = .returned (.bool (fewB d)) ∧ Below w0.heap.size w0 w') .normal aa w) (hv : ∀ i, i < j → (decide ((d.S.getD i ByteArray.empty).size ≤ 60)) = true) (x0 : Nat) (aa : Act) (w : World) (S : Sy w0 [] [x0] (fwS1 d (j)) [rfSt d.b d.o d.S, rfWs d.c d.p d.W] aa w) : post Try.prog (.rnd (m + 1) (bodyL fw1) :: fw1.k.tail) (bodyPost Try.prog Try.f8 fun e w' => e = .returned (.bool (fewB d)) ∧ Below w0.heap.size w0 w') .normal aa w := by
  refine sy_run (c := ⟨(.rnd (m + 1) (bodyL fw1) :: fw1.k.tail), fwS1 d j⟩) ⟨0, [4]⟩ 50 S fun bs aa w S => ?_
  refine sy_reg S fun S => ?_
  refine sy_ops 5 S fun bs aa w S => ?_
  refine sy_cast 19 S (congrArg Value.bool (decide_eq_true (by omega) : decide ((j : Int) < (d.sl : Int)) = true)) (by kernel_rfl) fun S => ?_
  refine sy_run ⟨0, [6]⟩ 60 S fun bs aa w S => ?_
  refine sy_reg S fun S => ?_
  refine sy_ops 3 S fun bs aa w S => ?_
  refine sy_ix (b := d.b) (off := d.o) (len := d.sl) (n := j) (size := 1) (i := (j : Int)) S (by rw [← hg.hs.resolve_left (by omega)]; kernel_rfl) rfl hj fun aa S => ?_
  refine sy_ldo S (ld_at (ty := 9) (b := d.b) (off := d.o + j * 1) (by kernel_rfl) (by rw [Nat.mul_one]; exact S.fact (f := rfSt d.b d.o d.S) (by simp) j (by rw [hg.hS]; omega))) (by kernel_rfl) fun aa S => ?_
  refine sy_ops 2 S fun bs aa w S => ?_
  refine sy_cast 28 S (congrArg Value.bool (decide_eq_true (by have := of_decide_eq_false hp; omega) : decide (((d.S.getD j ByteArray.empty).size : Int) > 60) = true)) (by kernel_rfl) fun S => ?_
  refine sy_run ⟨0, []⟩ 60 S fun bs aa w S => ?_
  have e : fewB d = false := (by simp only [fewB]; rw [all_not _ ByteArray.empty d.S j (by rw [hg.hS]; exact hj) hp]; simp)
  rw [e]
  exact sy_ret S (by kernel_rfl) (by kernel_rfl) fun hg => ⟨rfl, bel_gr hg⟩
theorem fw_a1 (w0 : World) (d : Dk) (hg : d.gen) (h6 : d.sl ≤ 600 ∧ d.tl ≤ 60) : ∀ (r j : Nat), j + r = d.sl → (∀ i, i < j → (decide ((d.S.getD i ByteArray.empty).size ≤ 60)) = true) → ∀ (x0 : Nat) (aa : Act) (w : World) (S : Sy w0 [] [x0] (fwS1 d (j)) [rfSt d.b d.o d.S, rfWs d.c d.p d.W] aa w), post Try.prog (.rnd (r + 1) (bodyL fw1) :: fw1.k.tail) (bodyPost Try.prog Try.f8 fun e w' => e = .returned (.bool (fewB d)) ∧ Below w0.heap.size w0 w') .normal aa w := by
  intro r
  induction r with
  | zero => intro j hj hv x0 aa w S; obtain rfl : j = d.sl := by omega
            exact fw_e1 w0 d hg h6 0 hv x0 aa w S
  | succ r ih =>
    intro j hj hv x0 aa w S
    have hjl : j < d.sl := by omega
    cases hp : (decide ((d.S.getD j ByteArray.empty).size ≤ 60)) with
    | true => exact fw_s10 w0 d hg h6 (r + 1) j hjl hp (fun h => ih (j + 1) (by omega) h) hv x0 aa w S
    | false => exact fw_s11 w0 d hg h6 (r + 1) j hjl hp (fun h => ih (j + 1) (by omega) h) hv x0 aa w S
set_option maxHeartbeats 8000000 in
theorem few_t (w0 : World) (d : Dk) (hg : d.gen) (hA : StrAt w0 d.b d.o d.S) (hB : WasAt w0 d.c d.p d.W) : Calls Try.prog 8 #[d.v] w0 fun e w' => e = .returned (.bool (fewB d)) ∧ Below w0.heap.size w0 w' := by
  refine sy_enterF [] [rfSt d.b d.o d.S, rfWs d.c d.p d.W] (by intro f hf; simp only [List.mem_cons, List.not_mem_nil, or_false] at hf; rcases hf with rfl | rfl; exact hA; exact hB) Try.func8 rfl rfl fun aa S => ?_
  refine sy_run ⟨0, [1]⟩ 60 S fun bs aa w S => ?_
  refine sy_reg S fun S => ?_
  refine sy_ops 4 S fun bs aa w S => ?_
  by_cases h1 : d.sl ≤ 600
  case neg =>
    refine sy_cast 8 S (congrArg Value.bool (decide_eq_true (by omega) : decide ((d.sl : Int) > 600) = true)) (by kernel_rfl) fun S => ?_
    refine sy_run ⟨0, []⟩ 60 S fun bs aa w S => ?_
    have e : fewB d = false := by simp [fewB, h1]
    rw [e]
    exact sy_ret S (by kernel_rfl) (by kernel_rfl) fun hg => ⟨rfl, bel_gr hg⟩
  refine sy_cast 8 S (congrArg Value.bool (decide_eq_false (by omega) : decide ((d.sl : Int) > 600) = false)) (by kernel_rfl) fun S => ?_
  refine sy_ops 5 S fun bs aa w S => ?_
  by_cases h2 : d.tl ≤ 60
  case neg =>
    refine sy_cast 13 S (congrArg Value.bool (decide_eq_true (by omega) : decide ((d.tl : Int) > 60) = true)) (by kernel_rfl) fun S => ?_
    refine sy_run ⟨0, []⟩ 60 S fun bs aa w S => ?_
    have e : fewB d = false := by simp [fewB, h2]
    rw [e]
    exact sy_ret S (by kernel_rfl) (by kernel_rfl) fun hg => ⟨rfl, bel_gr hg⟩
  refine sy_cast 13 S (congrArg Value.bool (decide_eq_false (by omega) : decide ((d.tl : Int) > 60) = false)) (by kernel_rfl) fun S => ?_
  refine sy_run ⟨0, []⟩ 60 S fun bs aa w S => ?_
  have S2 := S.to [0] (fwS1 d 0) (by kernel_rfl) (by kernel_rfl) (by kernel_rfl) (by kernel_rfl) (by kernel_rfl)
  refine sy_loop (d.sl + 1) (by kernel_rfl) ?_
  refine sy_at2 (k' := (.rnd (d.sl + 1) (bodyL fw1) :: fw1.k.tail)) (by kernel_rfl) ?_
  exact fw_a1 w0 d hg ⟨h1, h2⟩ d.sl 0 (by omega) (fun i hi => absurd hi (Nat.not_lt_zero _)) _ aa w S2
end Go.Proofs.Ytnlcjlhcghgaoaa


/-
  Layer 22: opening the arguments of DiskMatchesSpec.
-/
namespace Go.Proofs.Ytnlcjlhcghgaoaa
open Go.ChangeShapes Go.WideShapes Go.ChangeAt Go.RowKit Go.Deep
set_option maxRecDepth 100000
set_option linter.unusedVariables false
set_option linter.unusedSimpArgs false
section
variable {H : Type} {enc : TypeId × Value → H} {W : World}
/-- What is known of a slice that is given. -/
def SlOk (a : Option Addr) (l c : Nat) : Prop := ((a = none ∧ l = 0 ∧ c = 0) ∨ (a.isSome = true ∧ l ≤ c)) ∧ c ≤ 9223372036854775807
theorem ss_trod {c : Value} {x : DataW H × List MemPlace} {n' : Nat} (hf : DataW.trod enc Try.prog W 0 (fun _ => true) true n' 22 [c] = some x) : ∃ (a : Option Addr) (k : Nat) (S : List ByteArray) (b o : Nat), c = .slice a S.length k ∧ SlOk a S.length k ∧ (S.length = 0 ∨ a = some ⟨b, o, none⟩) ∧ StrAt W b o S := by
  rcases open_slice Try.underlying22 hf with ⟨hcs, _⟩ | ⟨a, len0, cap0, m, n, D, Pl, hcs, _, hl, hm, hmm, _, hi⟩
  · simp at hcs
    subst hcs
    exact ⟨none, 0, [], 0, 0, rfl, ⟨Or.inl ⟨rfl, rfl, rfl⟩, Nat.zero_le _⟩, Or.inl rfl, fun j hj => absurd hj (Nat.not_lt_zero _)⟩
  · simp at hcs
    subst hcs
    simp only [if_true] at hmm
    have cu : Try.prog.cellsOf 9 = 1 := by kernel_rfl
    have key : ∀ i, i < len0 → ∃ A : ByteArray, W.cell? (a.add i) = some (.string A) := by
      intro i hil
      obtain ⟨cs', hc, ht⟩ := hi i (by omega)
      rw [cu] at hc
      obtain ⟨_, hcl, hat⟩ := World.cells?_some hc
      match cs', hcl with
      | [c0], _ =>
        obtain ⟨a0, e0, _⟩ := DataW.trod_string Try.underlying9 ht
        simp at e0
        subst e0
        have q0 := hat 0 (by omega)
        rw [add_add] at q0
        exact ⟨a0, by simpa using q0⟩
    have hcap : cap0 ≤ 9223372036854775807 := by unfold maxLen at hm; omega
    by_cases h0 : len0 = 0
    · subst h0
      exact ⟨_, _, [], 0, 0, rfl, ⟨Or.inr ⟨rfl, Nat.zero_le _⟩, hcap⟩, Or.inl rfl, fun j hj => absurd hj (Nat.not_lt_zero _)⟩
    · obtain ⟨b, off, spot⟩ := a
      obtain ⟨A0, hA0⟩ := key 0 (by omega)
      have hspot : spot = none := by simpa [Addr.add] using World.cell?_spot hA0
      subst hspot
      obtain ⟨f, hf'⟩ := Classical.axiomOfChoice (fun i : { i : Nat // i < len0 } => key i.1 i.2)
      have hlen : ((List.range len0).attach.map (fun i => f ⟨i.1, List.mem_range.1 i.2⟩)).length = len0 := by simp
      refine ⟨some ⟨b, off, none⟩, cap0, (List.range len0).attach.map (fun i => f ⟨i.1, List.mem_range.1 i.2⟩), b, off, by rw [hlen], ⟨Or.inr ⟨rfl, by rw [hlen]; exact hl⟩, hcap⟩, Or.inr rfl, fun j hj => ?_⟩
      have hjl : j < len0 := by simpa using hj
      have hd := hf' ⟨j, hjl⟩
      simp only [add_plain] at hd
      have e : ((List.range len0).attach.map (fun i => f ⟨i.1, List.mem_range.1 i.2⟩)).getD j ByteArray.empty = f ⟨j, hjl⟩ := by
        simp [List.getD, hjl]
      rw [e]
      exact hd
theorem ws_trod {c : Value} {x : DataW H × List MemPlace} {n' : Nat} (hf : DataW.trod enc Try.prog W 0 (fun _ => true) true n' 23 [c] = some x) : ∃ (a : Option Addr) (k : Nat) (S : List (Int × ByteArray)) (b o : Nat), c = .slice a S.length k ∧ SlOk a S.length k ∧ (S.length = 0 ∨ a = some ⟨b, o, none⟩) ∧ WasAt W b o S := by
  rcases open_slice Try.underlying23 hf with ⟨hcs, _⟩ | ⟨a, len0, cap0, m, n, D, Pl, hcs, _, hl, hm, hmm, _, hi⟩
  · simp at hcs
    subst hcs
    exact ⟨none, 0, [], 0, 0, rfl, ⟨Or.inl ⟨rfl, rfl, rfl⟩, Nat.zero_le _⟩, Or.inl rfl, fun j hj => absurd hj (Nat.not_lt_zero _)⟩
  · simp at hcs
    subst hcs
    simp only [if_true] at hmm
    have cw : Try.prog.cellsOf 46 = 2 := by kernel_rfl
    have ci : Try.prog.cellsOf 3 = 1 := by kernel_rfl
    have cu : Try.prog.cellsOf 9 = 1 := by kernel_rfl
    have key : ∀ i, i < len0 → ∃ A : Int × ByteArray, W.cell? (a.add (i * 2)) = some (.int .i64 A.1) ∧ W.cell? (a.add (i * 2 + 1)) = some (.string A.2) := by
      intro i hil
      obtain ⟨cs', hc, ht⟩ := hi i (by omega)
      rw [cw] at hc
      obtain ⟨_, hcl, hat⟩ := World.cells?_some hc
      match cs', hcl with
      | [c0, c1], _ =>
        obtain ⟨xs, n', _, _, _, hlen, hg⟩ := DataW.trod_struct Try.underlying46 ht
        match xs, hlen with
        | [y0, y1], _ =>
          have h0 := hg 0 _ rfl
          have h1 := hg 1 _ rfl
          simp [ci, cu] at h0 h1
          obtain ⟨a0, e0, _, _⟩ := DataW.trod_int Try.underlying3 h0
          obtain ⟨a1, e1, _⟩ := DataW.trod_string Try.underlying9 h1
          simp at e0 e1
          subst e0; subst e1
          have q0 := hat 0 (by omega)
          have q1 := hat 1 (by omega)
          rw [add_add] at q0 q1
          exact ⟨⟨a0, a1⟩, q0, q1⟩
    have hcap : cap0 ≤ 9223372036854775807 := by unfold maxLen at hm; omega
    by_cases h0 : len0 = 0
    · subst h0
      exact ⟨_, _, [], 0, 0, rfl, ⟨Or.inr ⟨rfl, Nat.zero_le _⟩, hcap⟩, Or.inl rfl, fun j hj => absurd hj (Nat.not_lt_zero _)⟩
    · obtain ⟨b, off, spot⟩ := a
      obtain ⟨A0, hA0, _⟩ := key 0 (by omega)
      have hspot : spot = none := by simpa [Addr.add] using World.cell?_spot hA0
      subst hspot
      obtain ⟨f, hf'⟩ := Classical.axiomOfChoice (fun i : { i : Nat // i < len0 } => key i.1 i.2)
      have hlen : ((List.range len0).attach.map (fun i => f ⟨i.1, List.mem_range.1 i.2⟩)).length = len0 := by simp
      refine ⟨some ⟨b, off, none⟩, cap0, (List.range len0).attach.map (fun i => f ⟨i.1, List.mem_range.1 i.2⟩), b, off, by rw [hlen], ⟨Or.inr ⟨rfl, by rw [hlen]; exact hl⟩, hcap⟩, Or.inr rfl, fun j hj => ?_⟩
      have hjl : j < len0 := by simpa using hj
      have hd := hf' ⟨j, hjl⟩
      simp only [add_plain] at hd
      have e : ((List.range len0).attach.map (fun i => f ⟨i.1, List.mem_range.1 i.2⟩)).getD j (0, ByteArray.empty) = f ⟨j, hjl⟩ := by
        simp [List.getD, hjl]
      rw [e]
      exact ⟨hd.1, by simpa [Nat.add_assoc] using hd.2⟩
def DkIn (w : World) (d : Dk) : Prop := d.gen ∧ StrAt w d.b d.o d.S ∧ WasAt w d.c d.p d.W
theorem dk_trod {c0 c1 : Value} {x : DataW H × List MemPlace} {n' : Nat} (hf : DataW.trod enc Try.prog W 0 (fun _ => true) true n' 25 [c0, c1] = some x) : ∃ d : Dk, c0 = .slice d.sa d.sl d.sc ∧ c1 = .slice d.ta d.tl d.tc ∧ DkIn W d := by
  obtain ⟨xs, n', _, _, _, hlen, hg⟩ := DataW.trod_struct Try.underlying25 hf
  match xs, hlen with
  | [y0, y1], _ =>
    have c1' : Try.prog.cellsOf 22 = 1 := by kernel_rfl
    have c2' : Try.prog.cellsOf 23 = 1 := by kernel_rfl
    have h0 := hg 0 _ rfl
    have h1 := hg 1 _ rfl
    simp [c1', c2'] at h0 h1
    obtain ⟨a, k, S, b, o, rfl, hs1, hs2, hs3⟩ := ss_trod h0
    obtain ⟨a', k', T, b', o', rfl, ht1, ht2, ht3⟩ := ws_trod h1
    exact ⟨⟨a, S.length, k, a', T.length, k', b, o, b', o', S, T⟩, rfl, rfl, ⟨rfl, hs2, rfl, ht2, ht1.1, ht1.2, fun h => by rcases hs1.1 with q | q; exact q.2.2; subst h; cases q.1⟩, hs3, ht3⟩
theorem open_dm {r : Reach} {b0 : Nat} {v : Value} {d : DataW H} {p : List MemPlace} (hv : Value.okWide Try.prog W r b0 28 v) (h : DataW.Trod enc Try.prog W 0 (fun _ => true) true 28 v d p) :
    ∃ (d c : Dk) (n : Int) (s : ByteArray) (vc : Value) (l2 : List Int), v = .agg #[.slice d.sa d.sl d.sc, .slice d.ta d.tl d.tc, .slice c.sa c.sl c.sc, .slice c.ta c.tl c.tc, .int .i64 n, .string s, vc] ∧ DkIn W d ∧ DkIn W c ∧ HasIn W vc l2 := by
  obtain ⟨cs, rfl, hsz⟩ := okWide_struct Try.underlying28 hv
  obtain ⟨l⟩ := cs
  have hcells : Try.prog.cellsOf 28 = 7 := by kernel_rfl
  match l, hsz.trans hcells with
  | [c0, c1, c2, c3, c4, c5, c6], _ =>
    obtain ⟨fuel, hf⟩ := h
    obtain ⟨xs, n, _, _, _, hlen, hg⟩ := DataW.trod_struct Try.underlying28 hf
    match xs, hlen with
    | [y0, y1, y2, y3, y4], _ =>
      have cD : Try.prog.cellsOf 25 = 2 := by kernel_rfl
      have cn : Try.prog.cellsOf 3 = 1 := by kernel_rfl
      have cs : Try.prog.cellsOf 9 = 1 := by kernel_rfl
      have ci : Try.prog.cellsOf 26 = 1 := by kernel_rfl
      have h0 := hg 0 _ rfl
      have h1 := hg 1 _ rfl
      have h2 := hg 2 _ rfl
      have h3 := hg 3 _ rfl
      have h4 := hg 4 _ rfl
      simp [Value.cells, cD, cn, cs, ci] at h0 h1 h2 h3 h4
      obtain ⟨dd, rfl, rfl, g0⟩ := dk_trod h0
      obtain ⟨cc, rfl, rfl, g1⟩ := dk_trod h1
      obtain ⟨a2, e2, _, _⟩ := DataW.trod_int Try.underlying3 h2
      obtain ⟨a3, e3, _⟩ := DataW.trod_string Try.underlying9 h3
      obtain ⟨l2, g4⟩ := in_trod h4
      simp at e2 e3
      subst e2; subst e3
      exact ⟨dd, cc, a2, a3, _, l2, rfl, g0, g1, g4⟩
end
end Go.Proofs.Ytnlcjlhcghgaoaa


/-
  Layer 22: whether any device is right.
-/
namespace Go.Proofs.Ytnlcjlhcghgaoaa
open Go Go.RowKit SZ
set_option linter.unusedVariables false
set_option linter.unusedSimpArgs false
set_option maxRecDepth 100000
attribute [local irreducible] post GD Nxt NxtAll
theorem ex_ltI {s : SS} {bs : List Nat} {x y : Operand} {t t' ty : TypeId} {ki : IntKind} {p q : Int} {b : Bool} (hx : s.val x = some (.v (.int ki p))) (hy : s.val y = some (.v (.int ki q))) (hb : decide (p < q) = b) :
    ∀ (o : Oper) (ρ : Operand → Value) (W : World), o.op = .binOp .lss t x y t' → o.type = ty → (∀ x y, s.val x = some y → ρ x = den bs y) → (execOp ρ o).run Try.prog W = .ok (.value (.bool b)) W := by
  intro o ρ W h1 h2 h3
  have e1 : ρ x = .int ki p := h3 x _ hx
  have e2 : ρ y = .int ki q := h3 y _ hy
  subst hb
  unfold execOp
  simp only [h1, e1, e2, eqGuard, binOp_lss, Sem.run_bind, Sem.run_pure, Result.andThen_ok]
  rfl
theorem ex_geI {s : SS} {bs : List Nat} {x y : Operand} {t t' ty : TypeId} {ki : IntKind} {p q : Int} {b : Bool} (hx : s.val x = some (.v (.int ki p))) (hy : s.val y = some (.v (.int ki q))) (hb : decide (p ≥ q) = b) :
    ∀ (o : Oper) (ρ : Operand → Value) (W : World), o.op = .binOp .geq t x y t' → o.type = ty → (∀ x y, s.val x = some y → ρ x = den bs y) → (execOp ρ o).run Try.prog W = .ok (.value (.bool b)) W := by
  intro o ρ W h1 h2 h3
  have e1 : ρ x = .int ki p := h3 x _ hx
  have e2 : ρ y = .int ki q := h3 y _ hy
  subst hb
  unfold execOp
  simp only [h1, e1, e2, eqGuard, binOp_geq, Sem.run_bind, Sem.run_pure, Result.andThen_ok]
  rfl
theorem ex_gtI {s : SS} {bs : List Nat} {x y : Operand} {t t' ty : TypeId} {ki : IntKind} {p q : Int} {b : Bool} (hx : s.val x = some (.v (.int ki p))) (hy : s.val y = some (.v (.int ki q))) (hb : decide (p > q) = b) :
    ∀ (o : Oper) (ρ : Operand → Value) (W : World), o.op = .binOp .gtr t x y t' → o.type = ty → (∀ x y, s.val x = some y → ρ x = den bs y) → (execOp ρ o).run Try.prog W = .ok (.value (.bool b)) W := by
  intro o ρ W h1 h2 h3
  have e1 : ρ x = .int ki p := h3 x _ hx
  have e2 : ρ y = .int ki q := h3 y _ hy
  subst hb
  unfold execOp
  simp only [h1, e1, e2, eqGuard, binOp_gtr, Sem.run_bind, Sem.run_pure, Result.andThen_ok]
  rfl
theorem ex_neI {s : SS} {bs : List Nat} {x y : Operand} {t t' ty : TypeId} {ki : IntKind} {p q : Int} {b : Bool} (hx : s.val x = some (.v (.int ki p))) (hy : s.val y = some (.v (.int ki q))) (hb : (!decide (p = q)) = b) :
    ∀ (o : Oper) (ρ : Operand → Value) (W : World), o.op = .binOp .neq t x y t' → o.type = ty → (∀ x y, s.val x = some y → ρ x = den bs y) → (execOp ρ o).run Try.prog W = .ok (.value (.bool b)) W := by
  intro o ρ W h1 h2 h3
  have e1 : ρ x = .int ki p := h3 x _ hx
  have e2 : ρ y = .int ki q := h3 y _ hy
  subst hb
  have hb2 : (p != q) = !decide (p = q) := rfl
  unfold execOp
  simp only [h1, e1, e2, eqGuard, binOp_neq, hb2, Sem.run_bind, Sem.run_pure, Result.andThen_ok]
  rfl
set_option maxHeartbeats 8000000 in
theorem has_f (d : Dk) (at_ : Int) (h : ¬(0 ≤ at_ ∧ at_ < d.sl)) (w : World) : Calls Try.prog 27 #[d.v, .int .i64 at_] w fun e w' => e = .returned (.bool false) ∧ Below w.heap.size w w' := by
  refine sy_enterF [] [] (by intro f hf; cases hf) Try.func27 rfl rfl fun aa S => ?_
  refine sy_run ⟨0, [1]⟩ 60 S fun bs aa w S => ?_
  refine sy_reg S fun S => ?_
  refine sy_ops 2 S fun bs aa w S => ?_
  by_cases h0 : 0 ≤ at_
  case neg =>
    refine sy_cast 6 S (congrArg Value.bool (decide_eq_false h0 : decide (at_ ≥ 0) = false)) (by kernel_rfl) fun S => ?_
    refine sy_run ⟨0, []⟩ 60 S fun bs aa w S => ?_
    exact sy_ret S (by kernel_rfl) (by kernel_rfl) fun hg => ⟨rfl, bel_gr hg⟩
  refine sy_cast 6 S (congrArg Value.bool (decide_eq_true h0 : decide (at_ ≥ 0) = true)) (by kernel_rfl) fun S => ?_
  refine sy_ops 6 S fun bs aa w S => ?_
  refine sy_cast 12 S (congrArg Value.bool (decide_eq_false (fun q => h ⟨h0, q⟩) : decide (at_ < (d.sl : Int)) = false)) (by kernel_rfl) fun S => ?_
  refine sy_run ⟨0, []⟩ 60 S fun bs aa w S => ?_
  exact sy_ret S (by kernel_rfl) (by kernel_rfl) fun hg => ⟨rfl, bel_gr hg⟩
noncomputable def dr1 : Cfg := ⟨goZ 60 [0] [.code (bodyOf Try.f12)], ⟨0, [], []⟩⟩
noncomputable def dr2 : Cfg := ⟨goZ 60 [0, 9] [.code (bodyOf Try.f12)], ⟨0, [], []⟩⟩
noncomputable def drS1 (d : Dk) (j : Nat) : SS := ⟨41, [(1, .p 0 0), (12, .v (.slice d.sa d.sl d.sc)), (13, .v (.int .i64 (d.sl : Int))), (14, .v (.int .i64 (j : Int)))], [⟨25, d.cs⟩]⟩
noncomputable def drS2 (d : Dk) (j : Nat) : SS := ⟨41, [(1, .p 0 0), (23, .v (.slice d.ta d.tl d.tc)), (24, .v (.int .i64 (d.tl : Int))), (25, .v (.int .i64 (j : Int)))], [⟨25, d.cs⟩]⟩
set_option maxHeartbeats 8000000 in
theorem dr_e2 (w0 : World) (d : Dk) (hg : d.gen) (h5 : d.sl ≤ 512) (h1000 : d.tl ≤ 60) (m : Nat) (hu : ∀ i, i < d.sl → (decide ((d.S.getD i ByteArray.empty).size = 32)) = true) (hv : ∀ i, i < d.tl → (decide (0 ≤ (d.W.getD i (0, ByteArray.empty)).1) && decide ((d.W.getD i (0, ByteArray.empty)).1 < (d.sl : Int)) && decide ((d.W.getD i (0, ByteArray.empty)).2.size = 32)) = true) (x0 : Nat) (aa : Act) (w : World) (S : Sy w0 [] [x0] (drS2 d (d.tl)) [rfSt d.b d.o d.S, rfWs d.c d.p d.W] aa w) : post Try.prog (.rnd (m + 1) (bodyL dr2) :: dr2.k.tail) (bodyPost Try.prog Try.f12 fun e w' => e = .returned (.bool (rightB d)) ∧ Below w0.heap.size w0 w') .normal aa w := by
  refine sy_run (c := ⟨(.rnd (m + 1) (bodyL dr2) :: dr2.k.tail), drS2 d d.tl⟩) ⟨0, [10]⟩ 50 S fun bs aa w S => ?_
  refine sy_reg S fun S => ?_
  refine sy_ops 1 S fun bs aa w S => ?_
  refine sy_cast 26 S (congrArg Value.bool (decide_eq_false (by omega) : decide ((d.tl : Int) < (d.tl : Int)) = false)) (by kernel_rfl) fun S => ?_
  refine sy_run ⟨0, []⟩ 60 S fun bs aa w S => ?_
  have e : rightB d = true := by simp only [rightB]; rw [all_upto _ ByteArray.empty d.S (fun i hi => hu i (by rw [← hg.hS]; exact hi)), all_upto (fun x => decide (0 ≤ x.1) && decide (x.1 < (d.sl : Int)) && decide (x.2.size = 32)) (0, ByteArray.empty) d.W (fun i hi => hv i (by rw [← hg.hW]; exact hi)), decide_eq_true h5]; rfl
  rw [e]
  exact sy_ret S (by kernel_rfl) (by kernel_rfl) fun hg => ⟨rfl, bel_gr hg⟩
set_option maxHeartbeats 8000000 in
theorem dr_s20 (w0 : World) (d : Dk) (hg : d.gen) (h5 : d.sl ≤ 512) (h1000 : d.tl ≤ 60) (hu : ∀ i, i < d.sl → (decide ((d.S.getD i ByteArray.empty).size = 32)) = true) (m j : Nat) (hj : j < d.tl) (hr : 0 ≤ (d.W.getD j (0, ByteArray.empty)).1 ∧ (d.W.getD j (0, ByteArray.empty)).1 < (d.sl : Int)) (hz : (d.W.getD j (0, ByteArray.empty)).2.size = 32) (ih : (∀ i, i < j + 1 → (decide (0 ≤ (d.W.getD i (0, ByteArray.empty)).1) && decide ((d.W.getD i (0, ByteArray.empty)).1 < (d.sl : Int)) && decide ((d.W.getD i (0, ByteArray.empty)).2.size = 32)) = true) → ∀ (x0 : Nat) (aa : Act) (w : World) (S : Sy w0 [] [x0] (drS2 d (j + 1)) [rfSt d.b d.o d.S, rfWs d.c d.p d.W] aa w), post Try.prog (.rnd (m) (bodyL dr2) :: dr2.k.tail) (bodyPost Try.prog Try.f12 fun e w' => e = .returned (.bool (rightB d)) ∧ Below w0.heap.size w0 w') .normal aa w) (hv : ∀ i, i < j → (decide (0 ≤ (d.W.getD i (0, ByteArray.empty)).1) && decide ((d.W.getD i (0, ByteArray.empty)).1 < (d.sl : Int)) && decide ((d.W.getD i (0, ByteArray.empty)).2.size = 32)) = true) (x0 : Nat) (aa : Act) (w : World) (S : Sy w0 [] [x0] (drS2 d (j)) [rfSt d.b d.o d.S, rfWs d.c d.p d.W] aa w) : post Try.prog (.rnd (m + 1) (bodyL dr2) :: dr2.k.tail) (bodyPost Try.prog Try.f12 fun e w' => e = .returned (.bool (rightB d)) ∧ Below w0.heap.size w0 w') .normal aa w := by
  refine sy_run (c := ⟨(.rnd (m + 1) (bodyL dr2) :: dr2.k.tail), drS2 d j⟩) ⟨0, [10]⟩ 50 S fun bs aa w S => ?_
  refine sy_reg S fun S => ?_
  refine sy_ops 1 S fun bs aa w S => ?_
  refine sy_cast 26 S (congrArg Value.bool (decide_eq_true (by omega) : decide ((j : Int) < (d.tl : Int)) = true)) (by kernel_rfl) fun S => ?_
  refine sy_run ⟨0, [11]⟩ 60 S fun bs aa w S => ?_
  refine sy_reg S fun S => ?_
  refine sy_ix (b := d.c) (off := d.p) (len := d.tl) (n := j) (size := 2) (i := (j : Int)) S (by rw [← hg.hw.resolve_left (by omega)]; kernel_rfl) rfl hj fun aa S => ?_
  refine sy_ldo S (ld_was (j := j) (S.fact (f := rfWs d.c d.p d.W) (by simp)) (by rw [hg.hW]; exact hj)) (by kernel_rfl) fun aa S => ?_
  refine sy_run ⟨0, []⟩ 60 S fun bs aa w S => ?_
  refine sy_call1 S (has_t d (d.W.getD j (0, ByteArray.empty)).1 hr w) (by kernel_rfl) fun aa w hb S => ?_
  refine sy_ops 6 S fun bs aa w S => ?_
  refine sy_cast 38 S (congrArg Value.bool (by rw [hz]; rfl : (!decide (((d.W.getD j (0, ByteArray.empty)).2.size : Int) = 32)) = false)) (by kernel_rfl) fun S => ?_
  have hp : (decide (0 ≤ (d.W.getD j (0, ByteArray.empty)).1) && decide ((d.W.getD j (0, ByteArray.empty)).1 < (d.sl : Int)) && decide ((d.W.getD j (0, ByteArray.empty)).2.size = 32)) = true := by rw [decide_eq_true hr.1, decide_eq_true hr.2, decide_eq_true hz]; rfl
  refine sy_run ⟨0, [14]⟩ 60 S fun bs aa w S => ?_
  refine sy_reg S fun S => ?_
  refine sy_ops 1 S fun bs aa w S => ?_
  refine sy_cast 40 S (congrArg (Value.int .i64) (by rw [IntKind.wrap_i64]; omega : IntKind.i64.wrap ((j : Int) + 1) = ((j + 1 : Nat) : Int))) (by kernel_rfl) fun S => ?_
  refine sy_run ⟨0, [999]⟩ 50 S fun bs aa w S => ?_
  have S2 := S.to [0] (drS2 d (j + 1)) (by kernel_rfl) (by kernel_rfl) (by kernel_rfl) (by kernel_rfl) (by kernel_rfl)
  refine sy_at2 (k' := (.rnd (m) (bodyL dr2) :: dr2.k.tail)) (by kernel_rfl) ?_
  exact ih (upto_succ hv hp) _ aa w S2
set_option maxHeartbeats 8000000 in
theorem dr_s21 (w0 : World) (d : Dk) (hg : d.gen) (h5 : d.sl ≤ 512) (h1000 : d.tl ≤ 60) (hu : ∀ i, i < d.sl → (decide ((d.S.getD i ByteArray.empty).size = 32)) = true) (m j : Nat) (hj : j < d.tl) (hr : 0 ≤ (d.W.getD j (0, ByteArray.empty)).1 ∧ (d.W.getD j (0, ByteArray.empty)).1 < (d.sl : Int)) (hz : ¬(d.W.getD j (0, ByteArray.empty)).2.size = 32) (ih : (∀ i, i < j + 1 → (decide (0 ≤ (d.W.getD i (0, ByteArray.empty)).1) && decide ((d.W.getD i (0, ByteArray.empty)).1 < (d.sl : Int)) && decide ((d.W.getD i (0, ByteArray.empty)).2.size = 32)) = true) → ∀ (x0 : Nat) (aa : Act) (w : World) (S : Sy w0 [] [x0] (drS2 d (j + 1)) [rfSt d.b d.o d.S, rfWs d.c d.p d.W] aa w), post Try.prog (.rnd (m) (bodyL dr2) :: dr2.k.tail) (bodyPost Try.prog Try.f12 fun e w' => e = .returned (.bool (rightB d)) ∧ Below w0.heap.size w0 w') .normal aa w) (hv : ∀ i, i < j → (decide (0 ≤ (d.W.getD i (0, ByteArray.empty)).1) && decide ((d.W.getD i (0, ByteArray.empty)).1 < (d.sl : Int)) && decide ((d.W.getD i (0, ByteArray.empty)).2.size = 32)) = true) (x0 : Nat) (aa : Act) (w : World) (S : Sy w0 [] [x0] (drS2 d (j)) [rfSt d.b d.o d.S, rfWs d.c d.p d.W] aa w) : post Try.prog (.rnd (m + 1) (bodyL dr2) :: dr2.k.tail) (bodyPost Try.prog Try.f12 fun e w' => e = .returned (.bool (rightB d)) ∧ Below w0.heap.size w0 w') .normal aa w := by
  refine sy_run (c := ⟨(.rnd (m + 1) (bodyL dr2) :: dr2.k.tail), drS2 d j⟩) ⟨0, [10]⟩ 50 S fun bs aa w S => ?_
  refine sy_reg S fun S => ?_
  refine sy_ops 1 S fun bs aa w S => ?_
  refine sy_cast 26 S (congrArg Value.bool (decide_eq_true (by omega) : decide ((j : Int) < (d.tl : Int)) = true)) (by kernel_rfl) fun S => ?_
  refine sy_run ⟨0, [11]⟩ 60 S fun bs aa w S => ?_
  refine sy_reg S fun S => ?_
  refine sy_ix (b := d.c) (off := d.p) (len := d.tl) (n := j) (size := 2) (i := (j : Int)) S (by rw [← hg.hw.resolve_left (by omega)]; kernel_rfl) rfl hj fun aa S => ?_
  refine sy_ldo S (ld_was (j := j) (S.fact (f := rfWs d.c d.p d.W) (by simp)) (by rw [hg.hW]; exact hj)) (by kernel_rfl) fun aa S => ?_
  refine sy_run ⟨0, []⟩ 60 S fun bs aa w S => ?_
  refine sy_call1 S (has_t d (d.W.getD j (0, ByteArray.empty)).1 hr w) (by kernel_rfl) fun aa w hb S => ?_
  refine sy_ops 6 S fun bs aa w S => ?_
  refine sy_cast 38 S (congrArg Value.bool (by rw [decide_eq_false (by omega)]; rfl : (!decide (((d.W.getD j (0, ByteArray.empty)).2.size : Int) = 32)) = true)) (by kernel_rfl) fun S => ?_
  refine sy_run ⟨0, []⟩ 60 S fun bs aa w S => ?_
  have hpw : (decide (0 ≤ (d.W.getD j (0, ByteArray.empty)).1) && decide ((d.W.getD j (0, ByteArray.empty)).1 < (d.sl : Int)) && decide ((d.W.getD j (0, ByteArray.empty)).2.size = 32)) = false := by rw [decide_eq_false hz, Bool.and_false]
  have e : rightB d = false := (by simp only [rightB]; rw [all_not (fun x => decide (0 ≤ x.1) && decide (x.1 < (d.sl : Int)) && decide (x.2.size = 32)) (0, ByteArray.empty) d.W j (by rw [hg.hW]; exact hj) hpw]; simp)
  rw [e]
  exact sy_ret S (by kernel_rfl) (by kernel_rfl) fun hg => ⟨rfl, bel_gr hg⟩
set_option maxHeartbeats 8000000 in
theorem dr_s22 (w0 : World) (d : Dk) (hg : d.gen) (h5 : d.sl ≤ 512) (h1000 : d.tl ≤ 60) (hu : ∀ i, i < d.sl → (decide ((d.S.getD i ByteArray.empty).size = 32)) = true) (m j : Nat) (hj : j < d.tl) (hr : ¬(0 ≤ (d.W.getD j (0, ByteArray.empty)).1 ∧ (d.W.getD j (0, ByteArray.empty)).1 < (d.sl : Int))) (ih : (∀ i, i < j + 1 → (decide (0 ≤ (d.W.getD i (0, ByteArray.empty)).1) && decide ((d.W.getD i (0, ByteArray.empty)).1 < (d.sl : Int)) && decide ((d.W.getD i (0, ByteArray.empty)).2.size = 32)) = true) → ∀ (x0 : Nat) (aa : Act) (w : World) (S : Sy w0 [] [x0] (drS2 d (j + 1)) [rfSt d.b d.o d.S, rfWs d.c d.p d.W] aa w), post Try.prog (.rnd (m) (bodyL dr2) :: dr2.k.tail) (bodyPost Try.prog Try.f12 fun e w' => e = .returned (.bool (rightB d)) ∧ Below w0.heap.size w0 w') .normal aa w) (hv : ∀ i, i < j → (decide (0 ≤ (d.W.getD i (0, ByteArray.empty)).1) && decide ((d.W.getD i (0, ByteArray.empty)).1 < (d.sl : Int)) && decide ((d.W.getD i (0, ByteArray.empty)).2.size = 32)) = true) (x0 : Nat) (aa : Act) (w : World) (S : Sy w0 [] [x0] (drS2 d (j)) [rfSt d.b d.o d.S, rfWs d.c d.p d.W] aa w) : post Try.prog (.rnd (m + 1) (bodyL dr2) :: dr2.k.tail) (bodyPost Try.prog Try.f12 fun e w' => e = .returned (.bool (rightB d)) ∧ Below w0.heap.size w0 w') .normal aa w := by
  refine sy_run (c := ⟨(.rnd (m + 1) (bodyL dr2) :: dr2.k.tail), drS2 d j⟩) ⟨0, [10]⟩ 50 S fun bs aa w S => ?_
  refine sy_reg S fun S => ?_
  refine sy_ops 1 S fun bs aa w S => ?_
  refine sy_cast 26 S (congrArg Value.bool (decide_eq_true (by omega) : decide ((j : Int) < (d.tl : Int)) = true)) (by kernel_rfl) fun S => ?_
  refine sy_run ⟨0, [11]⟩ 60 S fun bs aa w S => ?_
  refine sy_reg S fun S => ?_
  refine sy_ix (b := d.c) (off := d.p) (len := d.tl) (n := j) (size := 2) (i := (j : Int)) S (by rw [← hg.hw.resolve_left (by omega)]; kernel_rfl) rfl hj fun aa S => ?_
  refine sy_ldo S (ld_was (j := j) (S.fact (f := rfWs d.c d.p d.W) (by simp)) (by rw [hg.hW]; exact hj)) (by kernel_rfl) fun aa S => ?_
  refine sy_run ⟨0, []⟩ 60 S fun bs aa w S => ?_
  refine sy_call1 S (has_f d (d.W.getD j (0, ByteArray.empty)).1 hr w) (by kernel_rfl) fun aa w hb S => ?_
  refine sy_run ⟨0, []⟩ 60 S fun bs aa w S => ?_
  have hpw : (decide (0 ≤ (d.W.getD j (0, ByteArray.empty)).1) && decide ((d.W.getD j (0, ByteArray.empty)).1 < (d.sl : Int)) && decide ((d.W.getD j (0, ByteArray.empty)).2.size = 32)) = false := by rw [Bool.eq_false_iff]; intro q; simp only [Bool.and_eq_true, decide_eq_true_eq] at q; exact hr q.1
  have e : rightB d = false := (by simp only [rightB]; rw [all_not (fun x => decide (0 ≤ x.1) && decide (x.1 < (d.sl : Int)) && decide (x.2.size = 32)) (0, ByteArray.empty) d.W j (by rw [hg.hW]; exact hj) hpw]; simp)
  rw [e]
  exact sy_ret S (by kernel_rfl) (by kernel_rfl) fun hg => ⟨rfl, bel_gr hg⟩
theorem dr_a2 (w0 : World) (d : Dk) (hg : d.gen) (h5 : d.sl ≤ 512) (h1000 : d.tl ≤ 60) (hu : ∀ i, i < d.sl → (decide ((d.S.getD i ByteArray.empty).size = 32)) = true) : ∀ (r j : Nat), j + r = d.tl → (∀ i, i < j → (decide (0 ≤ (d.W.getD i (0, ByteArray.empty)).1) && decide ((d.W.getD i (0, ByteArray.empty)).1 < (d.sl : Int)) && decide ((d.W.getD i (0, ByteArray.empty)).2.size = 32)) = true) → ∀ (x0 : Nat) (aa : Act) (w : World) (S : Sy w0 [] [x0] (drS2 d (j)) [rfSt d.b d.o d.S, rfWs d.c d.p d.W] aa w), post Try.prog (.rnd (r + 1) (bodyL dr2) :: dr2.k.tail) (bodyPost Try.prog Try.f12 fun e w' => e = .returned (.bool (rightB d)) ∧ Below w0.heap.size w0 w') .normal aa w := by
  intro r
  induction r with
  | zero => intro j hj hv x0 aa w S; obtain rfl : j = d.tl := by omega
            exact dr_e2 w0 d hg h5 h1000 0 hu hv x0 aa w S
  | succ r ih =>
    intro j hj hv x0 aa w S
    have hjl : j < d.tl := by omega
    by_cases hr : 0 ≤ (d.W.getD j (0, ByteArray.empty)).1 ∧ (d.W.getD j (0, ByteArray.empty)).1 < (d.sl : Int)
    · by_cases hz : (d.W.getD j (0, ByteArray.empty)).2.size = 32
      · exact dr_s20 w0 d hg h5 h1000 hu (r + 1) j hjl hr hz (fun h => ih (j + 1) (by omega) h) hv x0 aa w S
      · exact dr_s21 w0 d hg h5 h1000 hu (r + 1) j hjl hr hz (fun h => ih (j + 1) (by omega) h) hv x0 aa w S
    · exact dr_s22 w0 d hg h5 h1000 hu (r + 1) j hjl hr (fun h => ih (j + 1) (by omega) h) hv x0 aa w S
set_option maxHeartbeats 8000000 in
theorem dr_e1 (w0 : World) (d : Dk) (hg : d.gen) (h5 : d.sl ≤ 512) (h1000 : d.tl ≤ 60) (m : Nat) (hv : ∀ i, i < d.sl → (decide ((d.S.getD i ByteArray.empty).size = 32)) = true) (x0 : Nat) (aa : Act) (w : World) (S : Sy w0 [] [x0] (drS1 d (d.sl)) [rfSt d.b d.o d.S, rfWs d.c d.p d.W] aa w) : post Try.prog (.rnd (m + 1) (bodyL dr1) :: dr1.k.tail) (bodyPost Try.prog Try.f12 fun e w' => e = .returned (.bool (rightB d)) ∧ Below w0.heap.size w0 w') .normal aa w := by
  refine sy_run (c := ⟨(.rnd (m + 1) (bodyL dr1) :: dr1.k.tail), drS1 d d.sl⟩) ⟨0, [4]⟩ 50 S fun bs aa w S => ?_
  refine sy_reg S fun S => ?_
  refine sy_ops 1 S fun bs aa w S => ?_
  refine sy_cast 15 S (congrArg Value.bool (decide_eq_false (by omega) : decide ((d.sl : Int) < (d.sl : Int)) = false)) (by kernel_rfl) fun S => ?_
  refine sy_run ⟨0, []⟩ 60 S fun bs aa w S => ?_
  have S2 := S.to [0] (drS2 d 0) (by kernel_rfl) (by kernel_rfl) (by kernel_rfl) (by kernel_rfl) (by kernel_rfl)
  refine sy_loop (d.tl + 1) (by kernel_rfl) ?_
  refine sy_at2 (k' := (.rnd (d.tl + 1) (bodyL dr2) :: dr2.k.tail)) (by kernel_rfl) ?_
  exact dr_a2 w0 d hg h5 h1000 hv d.tl 0 (by omega) (fun i hi => absurd hi (Nat.not_lt_zero _)) _ aa w S2
set_option maxHeartbeats 8000000 in
theorem dr_s10 (w0 : World) (d : Dk) (hg : d.gen) (h5 : d.sl ≤ 512) (h1000 : d.tl ≤ 60) (m j : Nat) (hj : j < d.sl) (hp : (decide ((d.S.getD j ByteArray.empty).size = 32)) = true) (ih : (∀ i, i < j + 1 → (decide ((d.S.getD i ByteArray.empty).size = 32)) = true) → ∀ (x0 : Nat) (aa : Act) (w : World) (S : Sy w0 [] [x0] (drS1 d (j + 1)) [rfSt d.b d.o d.S, rfWs d.c d.p d.W] aa w), post Try.prog (.rnd (m) (bodyL dr1) :: dr1.k.tail) (bodyPost Try.prog Try.f12 fun e w' => e = .returned (.bool (rightB d)) ∧ Below w0.heap.size w0 w') .normal aa w) (hv : ∀ i, i < j → (decide ((d.S.getD i ByteArray.empty).size = 32)) = true) (x0 : Nat) (aa : Act) (w : World) (S : Sy w0 [] [x0] (drS1 d (j)) [rfSt d.b d.o d.S, rfWs d.c d.p d.W] aa w) : post Try.prog (.rnd (m + 1) (bodyL dr1) :: dr1.k.tail) (bodyPost Try.prog Try.f12 fun e w' => e = .returned (.bool (rightB d)) ∧ Below w0.heap.size w0 w') .normal aa w := by
  refine sy_run (c := ⟨(.rnd (m + 1) (bodyL dr1) :: dr1.k.tail), drS1 d j⟩) ⟨0, [4]⟩ 50 S fun bs aa w S => ?_
  refine sy_reg S fun S => ?_
  refine sy_ops 1 S fun bs aa w S => ?_
  refine sy_cast 15 S (congrArg Value.bool (decide_eq_true (by omega) : decide ((j : Int) < (d.sl : Int)) = true)) (by kernel_rfl) fun S => ?_
  refine sy_run ⟨0, [5]⟩ 60 S fun bs aa w S => ?_
  refine sy_reg S fun S => ?_
  refine sy_ix (b := d.b) (off := d.o) (len := d.sl) (n := j) (size := 1) (i := (j : Int)) S (by rw [← hg.hs.resolve_left (by omega)]; kernel_rfl) rfl hj fun aa S => ?_
  refine sy_ldo S (ld_at (ty := 9) (b := d.b) (off := d.o + j * 1) (by kernel_rfl) (by rw [Nat.mul_one]; exact S.fact (f := rfSt d.b d.o d.S) (by simp) j (by rw [hg.hS]; omega))) (by kernel_rfl) fun aa S => ?_
  refine sy_run ⟨0, [6]⟩ 60 S fun bs aa w S => ?_
  refine sy_reg S fun S => ?_
  refine sy_ops 3 S fun bs aa w S => ?_
  refine sy_cast 20 S (congrArg Value.bool (by rw [of_decide_eq_true hp]; rfl : (!decide (((d.S.getD j ByteArray.empty).size : Int) = 32)) = false)) (by kernel_rfl) fun S => ?_
  refine sy_run ⟨0, [8]⟩ 60 S fun bs aa w S => ?_
  refine sy_reg S fun S => ?_
  refine sy_ops 1 S fun bs aa w S => ?_
  refine sy_cast 21 S (congrArg (Value.int .i64) (by rw [IntKind.wrap_i64]; omega : IntKind.i64.wrap ((j : Int) + 1) = ((j + 1 : Nat) : Int))) (by kernel_rfl) fun S => ?_
  refine sy_run ⟨0, [999]⟩ 50 S fun bs aa w S => ?_
  have S2 := S.to [0] (drS1 d (j + 1)) (by kernel_rfl) (by kernel_rfl) (by kernel_rfl) (by kernel_rfl) (by kernel_rfl)
  refine sy_at2 (k' := (.rnd (m) (bodyL dr1) :: dr1.k.tail)) (by kernel_rfl) ?_
  exact ih (upto_succ hv hp) _ aa w S2
set_option maxHeartbeats 8000000 in
theorem dr_s11 (w0 : World) (d : Dk) (hg : d.gen) (h5 : d.sl ≤ 512) (h1000 : d.tl ≤ 60) (m j : Nat) (hj : j < d.sl) (hp : (decide ((d.S.getD j ByteArray.empty).size = 32)) = false) (ih : (∀ i, i < j + 1 → (decide ((d.S.getD i ByteArray.empty).size = 32)) = true) → ∀ (x0 : Nat) (aa : Act) (w : World) (S : Sy w0 [] [x0] (drS1 d (j + 1)) [rfSt d.b d.o d.S, rfWs d.c d.p d.W] aa w), post Try.prog (.rnd (m) (bodyL dr1) :: dr1.k.tail) (bodyPost Try.prog Try.f12 fun e w' => e = .returned (.bool (rightB d)) ∧ Below w0.heap.size w0 w') .normal aa w) (hv : ∀ i, i < j → (decide ((d.S.getD i ByteArray.empty).size = 32)) = true) (x0 : Nat) (aa : Act) (w : World) (S : Sy w0 [] [x0] (drS1 d (j)) [rfSt d.b d.o d.S, rfWs d.c d.p d.W] aa w) : post Try.prog (.rnd (m + 1) (bodyL dr1) :: dr1.k.tail) (bodyPost Try.prog Try.f12 fun e w' => e = .returned (.bool (rightB d)) ∧ Below w0.heap.size w0 w') .normal aa w := by
  refine sy_run (c := ⟨(.rnd (m + 1) (bodyL dr1) :: dr1.k.tail), drS1 d j⟩) ⟨0, [4]⟩ 50 S fun bs aa w S => ?_
  refine sy_reg S fun S => ?_
  refine sy_ops 1 S fun bs aa w S => ?_
  refine sy_cast 15 S (congrArg Value.bool (decide_eq_true (by omega) : decide ((j : Int) < (d.sl : Int)) = true)) (by kernel_rfl) fun S => ?_
  refine sy_run ⟨0, [5]⟩ 60 S fun bs aa w S => ?_
  refine sy_reg S fun S => ?_
  refine sy_ix (b := d.b) (off := d.o) (len := d.sl) (n := j) (size := 1) (i := (j : Int)) S (by rw [← hg.hs.resolve_left (by omega)]; kernel_rfl) rfl hj fun aa S => ?_
  refine sy_ldo S (ld_at (ty := 9) (b := d.b) (off := d.o + j * 1) (by kernel_rfl) (by rw [Nat.mul_one]; exact S.fact (f := rfSt d.b d.o d.S) (by simp) j (by rw [hg.hS]; omega))) (by kernel_rfl) fun aa S => ?_
  refine sy_run ⟨0, [6]⟩ 60 S fun bs aa w S => ?_
  refine sy_reg S fun S => ?_
  refine sy_ops 3 S fun bs aa w S => ?_
  refine sy_cast 20 S (congrArg Value.bool (by have := of_decide_eq_false hp; rw [decide_eq_false (by omega)]; rfl : (!decide (((d.S.getD j ByteArray.empty).size : Int) = 32)) = true)) (by kernel_rfl) fun S => ?_
  refine sy_run ⟨0, []⟩ 60 S fun bs aa w S => ?_
  have e : rightB d = false := (by simp only [rightB]; rw [all_not _ ByteArray.empty d.S j (by rw [hg.hS]; exact hj) hp]; simp)
  rw [e]
  exact sy_ret S (by kernel_rfl) (by kernel_rfl) fun hg => ⟨rfl, bel_gr hg⟩
theorem dr_a1 (w0 : World) (d : Dk) (hg : d.gen) (h5 : d.sl ≤ 512) (h1000 : d.tl ≤ 60) : ∀ (r j : Nat), j + r = d.sl → (∀ i, i < j → (decide ((d.S.getD i ByteArray.empty).size = 32)) = true) → ∀ (x0 : Nat) (aa : Act) (w : World) (S : Sy w0 [] [x0] (drS1 d (j)) [rfSt d.b d.o d.S, rfWs d.c d.p d.W] aa w), post Try.prog (.rnd (r + 1) (bodyL dr1) :: dr1.k.tail) (bodyPost Try.prog Try.f12 fun e w' => e = .returned (.bool (rightB d)) ∧ Below w0.heap.size w0 w') .normal aa w := by
  intro r
  induction r with
  | zero => intro j hj hv x0 aa w S; obtain rfl : j = d.sl := by omega
            exact dr_e1 w0 d hg h5 h1000 0 hv x0 aa w S
  | succ r ih =>
    intro j hj hv x0 aa w S
    have hjl : j < d.sl := by omega
    cases hp : (decide ((d.S.getD j ByteArray.empty).size = 32)) with
    | true => exact dr_s10 w0 d hg h5 h1000 (r + 1) j hjl hp (fun h => ih (j + 1) (by omega) h) hv x0 aa w S
    | false => exact dr_s11 w0 d hg h5 h1000 (r + 1) j hjl hp (fun h => ih (j + 1) (by omega) h) hv x0 aa w S
set_option maxHeartbeats 8000000 in
theorem dright_t (w0 : World) (d : Dk) (hg : d.gen) (h1000 : d.tl ≤ 60) (hA : StrAt w0 d.b d.o d.S) (hB : WasAt w0 d.c d.p d.W) : Calls Try.prog 12 #[d.v] w0 fun e w' => e = .returned (.bool (rightB d)) ∧ Below w0.heap.size w0 w' := by
  refine sy_enterF [] [rfSt d.b d.o d.S, rfWs d.c d.p d.W] (by intro f hf; simp only [List.mem_cons, List.not_mem_nil, or_false] at hf; rcases hf with rfl | rfl; exact hA; exact hB) Try.func12 rfl rfl fun aa S => ?_
  refine sy_run ⟨0, [1]⟩ 60 S fun bs aa w S => ?_
  refine sy_reg S fun S => ?_
  refine sy_ops 4 S fun bs aa w S => ?_
  by_cases h1 : d.sl ≤ 512
  case neg =>
    refine sy_cast 10 S (congrArg Value.bool (decide_eq_true (by omega) : decide ((d.sl : Int) > 512) = true)) (by kernel_rfl) fun S => ?_
    refine sy_run ⟨0, []⟩ 60 S fun bs aa w S => ?_
    have e : rightB d = false := by simp [rightB, h1]
    rw [e]
    exact sy_ret S (by kernel_rfl) (by kernel_rfl) fun hg => ⟨rfl, bel_gr hg⟩
  refine sy_cast 10 S (congrArg Value.bool (decide_eq_false (by omega) : decide ((d.sl : Int) > 512) = false)) (by kernel_rfl) fun S => ?_
  refine sy_run ⟨0, []⟩ 60 S fun bs aa w S => ?_
  have S2 := S.to [0] (drS1 d 0) (by kernel_rfl) (by kernel_rfl) (by kernel_rfl) (by kernel_rfl) (by kernel_rfl)
  refine sy_loop (d.sl + 1) (by kernel_rfl) ?_
  refine sy_at2 (k' := (.rnd (d.sl + 1) (bodyL dr1) :: dr1.k.tail)) (by kernel_rfl) ?_
  exact dr_a1 w0 d hg h1 h1000 d.sl 0 (by omega) (fun i hi => absurd hi (Nat.not_lt_zero _)) _ aa w S2
noncomputable def rr1 : Cfg := ⟨goZ 60 [0] [.code (bodyOf Try.f11)], ⟨0, [], []⟩⟩
noncomputable def rr2 : Cfg := ⟨goZ 60 [0, 9] [.code (bodyOf Try.f11)], ⟨0, [], []⟩⟩
noncomputable def rrS1 (d : Dk) (j : Nat) : SS := ⟨59, [(1, .p 0 0), (3, .v (.int .i64 (j : Int)))], [⟨25, d.cs⟩]⟩
noncomputable def rrS2 (d : Dk) (j : Nat) : SS := ⟨59, [(1, .p 0 0), (4, .v (.int .i64 (j : Int)))], [⟨25, d.cs⟩]⟩
set_option maxHeartbeats 8000000 in
theorem rr_e2 (w0 : World) (d : Dk) (hg : d.gen) (h5 : d.sl ≤ 512) (h1000 : d.tl ≤ 60) (m : Nat) (hu : ∀ i, i < d.sl → (decide ((d.S.getD i ByteArray.empty).size = 32)) = true) (hv : ∀ i, i < d.tl → (decide (0 ≤ (d.W.getD i (0, ByteArray.empty)).1) && decide ((d.W.getD i (0, ByteArray.empty)).1 < (d.sl : Int)) && decide ((d.W.getD i (0, ByteArray.empty)).2.size = 32)) = true) (x0 : Nat) (aa : Act) (w : World) (S : Sy w0 [] [x0] (rrS2 d (d.tl)) [rfSt d.b d.o d.S, rfWs d.c d.p d.W] aa w) : post Try.prog (.rnd (m + 1) (bodyL rr2) :: rr2.k.tail) (bodyPost Try.prog Try.f11 fun e w' => e = .returned (.bool (rightB d)) ∧ Below w0.heap.size w0 w') .normal aa w := by
  refine sy_run (c := ⟨(.rnd (m + 1) (bodyL rr2) :: rr2.k.tail), rrS2 d d.tl⟩) ⟨0, [9]⟩ 50 S fun bs aa w S => ?_
  refine sy_reg S fun S => ?_
  refine sy_ops 5 S fun bs aa w S => ?_
  refine sy_cast 27 S (congrArg Value.bool (decide_eq_false (by omega) : decide ((d.tl : Int) < (d.tl : Int)) = false)) (by kernel_rfl) fun S => ?_
  refine sy_run ⟨0, []⟩ 60 S fun bs aa w S => ?_
  have e : rightB d = true := by simp only [rightB]; rw [all_upto _ ByteArray.empty d.S (fun i hi => hu i (by rw [← hg.hS]; exact hi)), all_upto (fun x => decide (0 ≤ x.1) && decide (x.1 < (d.sl : Int)) && decide (x.2.size = 32)) (0, ByteArray.empty) d.W (fun i hi => hv i (by rw [← hg.hW]; exact hi)), decide_eq_true h5]; rfl
  rw [e]
  exact sy_ret S (by kernel_rfl) (by kernel_rfl) fun hg => ⟨rfl, bel_gr hg⟩
set_option maxHeartbeats 8000000 in
theorem rr_s20 (w0 : World) (d : Dk) (hg : d.gen) (h5 : d.sl ≤ 512) (h1000 : d.tl ≤ 60) (hu : ∀ i, i < d.sl → (decide ((d.S.getD i ByteArray.empty).size = 32)) = true) (m j : Nat) (hj : j < d.tl) (hr : 0 ≤ (d.W.getD j (0, ByteArray.empty)).1 ∧ (d.W.getD j (0, ByteArray.empty)).1 < (d.sl : Int)) (hz : (d.W.getD j (0, ByteArray.empty)).2.size = 32) (ih : (∀ i, i < j + 1 → (decide (0 ≤ (d.W.getD i (0, ByteArray.empty)).1) && decide ((d.W.getD i (0, ByteArray.empty)).1 < (d.sl : Int)) && decide ((d.W.getD i (0, ByteArray.empty)).2.size = 32)) = true) → ∀ (x0 : Nat) (aa : Act) (w : World) (S : Sy w0 [] [x0] (rrS2 d (j + 1)) [rfSt d.b d.o d.S, rfWs d.c d.p d.W] aa w), post Try.prog (.rnd (m) (bodyL rr2) :: rr2.k.tail) (bodyPost Try.prog Try.f11 fun e w' => e = .returned (.bool (rightB d)) ∧ Below w0.heap.size w0 w') .normal aa w) (hv : ∀ i, i < j → (decide (0 ≤ (d.W.getD i (0, ByteArray.empty)).1) && decide ((d.W.getD i (0, ByteArray.empty)).1 < (d.sl : Int)) && decide ((d.W.getD i (0, ByteArray.empty)).2.size = 32)) = true) (x0 : Nat) (aa : Act) (w : World) (S : Sy w0 [] [x0] (rrS2 d (j)) [rfSt d.b d.o d.S, rfWs d.c d.p d.W] aa w) : post Try.prog (.rnd (m + 1) (bodyL rr2) :: rr2.k.tail) (bodyPost Try.prog Try.f11 fun e w' => e = .returned (.bool (rightB d)) ∧ Below w0.heap.size w0 w') .normal aa w := by
  refine sy_run (c := ⟨(.rnd (m + 1) (bodyL rr2) :: rr2.k.tail), rrS2 d j⟩) ⟨0, [9]⟩ 50 S fun bs aa w S => ?_
  refine sy_reg S fun S => ?_
  refine sy_ops 5 S fun bs aa w S => ?_
  refine sy_cast 27 S (congrArg Value.bool (decide_eq_true (by omega) : decide ((j : Int) < (d.tl : Int)) = true)) (by kernel_rfl) fun S => ?_
  refine sy_run ⟨0, []⟩ 60 S fun bs aa w S => ?_
  letI : KP := ⟨[36, 47, 57]⟩
  letI : HF := ⟨[rfWs d.c d.p d.W]⟩
  refine dr_enter [0] (by kernel_rfl) (by kernel_rfl) S (by kernel_rfl) (fun aa w D => ?_) (fun f hf => by have e : f = rfWs d.c d.p d.W := List.mem_singleton.1 hf; subst e; simp)
  refine dr_tix 3 D (by kernel_rfl) (by kernel_rfl) (by kernel_rfl) (b := d.c) (off := d.p) (len := d.tl) (n := j) (size := 2) (ix := (j : Int)) (by rw [← hg.hw.resolve_left (by omega)]; kernel_rfl) rfl hj fun aa D => ?_
  refine dr_tld 5 D (by kernel_rfl) (by kernel_rfl) (by kernel_rfl) (ty := 3) (ad := ⟨d.c, d.p + j * 2, none⟩) (v := .int .i64 (d.W.getD j (0, ByteArray.empty)).1) (fun W hW => ld_at (by kernel_rfl) ((show WasAt W d.c d.p d.W from hW _ (List.mem_singleton.2 rfl)) j (by rw [hg.hW]; exact hj)).1) (by kernel_rfl) fun aa D => ?_
  refine dr_ex2 (fun d v c a w h => by cases d <;> exact h) 6 (op := .binOp .lss 3 (.tmp 35) (.const (.int .i64 0)) 3) (ty := 4) (v := .bool false) D (by kernel_rfl) (by kernel_rfl) (by kernel_rfl) (by kernel_rfl) (ex_ltI (ki := .i64) (p := (d.W.getD j (0, ByteArray.empty)).1) (q := 0) (by kernel_rfl) (by kernel_rfl) (decide_eq_false (by omega))) fun aa D => ?_
  refine dr_tix 11 D (by kernel_rfl) (by kernel_rfl) (by kernel_rfl) (b := d.c) (off := d.p) (len := d.tl) (n := j) (size := 2) (ix := (j : Int)) (by rw [← hg.hw.resolve_left (by omega)]; kernel_rfl) rfl hj fun aa D => ?_
  refine dr_tld 13 D (by kernel_rfl) (by kernel_rfl) (by kernel_rfl) (ty := 3) (ad := ⟨d.c, d.p + j * 2, none⟩) (v := .int .i64 (d.W.getD j (0, ByteArray.empty)).1) (fun W hW => ld_at (by kernel_rfl) ((show WasAt W d.c d.p d.W from hW _ (List.mem_singleton.2 rfl)) j (by rw [hg.hW]; exact hj)).1) (by kernel_rfl) fun aa D => ?_
  refine dr_ex2 (fun d v c a w h => by cases d <;> exact h) 17 (op := .binOp .geq 3 (.tmp 43) (.tmp 46) 3) (ty := 4) (v := .bool false) D (by kernel_rfl) (by kernel_rfl) (by kernel_rfl) (by kernel_rfl) (ex_geI (ki := .i64) (p := (d.W.getD j (0, ByteArray.empty)).1) (q := (d.sl : Int)) (by kernel_rfl) (by kernel_rfl) (decide_eq_false (by omega))) fun aa D => ?_
  refine dr_tix 23 D (by kernel_rfl) (by kernel_rfl) (by kernel_rfl) (b := d.c) (off := d.p) (len := d.tl) (n := j) (size := 2) (ix := (j : Int)) (by rw [← hg.hw.resolve_left (by omega)]; kernel_rfl) rfl hj fun aa D => ?_
  refine dr_tld 25 D (by kernel_rfl) (by kernel_rfl) (by kernel_rfl) (ty := 9) (ad := ⟨d.c, d.p + j * 2 + 1, none⟩) (v := .string (d.W.getD j (0, ByteArray.empty)).2) (fun W hW => ld_at (by kernel_rfl) ((show WasAt W d.c d.p d.W from hW _ (List.mem_singleton.2 rfl)) j (by rw [hg.hW]; exact hj)).2) (by kernel_rfl) fun aa D => ?_
  refine dr_ex2 (fun d v c a w h => by cases d <;> exact h) 27 (op := .binOp .neq 3 (.tmp 56) (.const (.int .i64 32)) 3) (ty := 4) (v := .bool false) D (by kernel_rfl) (by kernel_rfl) (by kernel_rfl) (by kernel_rfl) (ex_neI (ki := .i64) (p := ((d.W.getD j (0, ByteArray.empty)).2.size : Int)) (q := 32) (by kernel_rfl) (by kernel_rfl) (by rw [hz]; rfl)) fun aa D => ?_
  refine dr_end D (by kernel_rfl) fun S => ?_
  have hp : (decide (0 ≤ (d.W.getD j (0, ByteArray.empty)).1) && decide ((d.W.getD j (0, ByteArray.empty)).1 < (d.sl : Int)) && decide ((d.W.getD j (0, ByteArray.empty)).2.size = 32)) = true := by rw [decide_eq_true hr.1, decide_eq_true hr.2, decide_eq_true hz]; rfl
  refine sy_run ⟨0, [10]⟩ 60 S fun bs aa w S => ?_
  refine sy_reg S fun S => ?_
  refine sy_ops 2 S fun bs aa w S => ?_
  refine sy_cast 29 S (congrArg (Value.int .i64) (by rw [IntKind.wrap_i64]; omega : IntKind.i64.wrap ((j : Int) + 1) = ((j + 1 : Nat) : Int))) (by kernel_rfl) fun S => ?_
  refine sy_run ⟨0, [999]⟩ 50 S fun bs aa w S => ?_
  have S2 := S.to [0] (rrS2 d (j + 1)) (by kernel_rfl) (by kernel_rfl) (by kernel_rfl) (by kernel_rfl) (by kernel_rfl)
  refine sy_at2 (k' := (.rnd (m) (bodyL rr2) :: rr2.k.tail)) (by kernel_rfl) ?_
  exact ih (upto_succ hv hp) _ aa w S2
set_option maxHeartbeats 8000000 in
theorem rr_s21 (w0 : World) (d : Dk) (hg : d.gen) (h5 : d.sl ≤ 512) (h1000 : d.tl ≤ 60) (hu : ∀ i, i < d.sl → (decide ((d.S.getD i ByteArray.empty).size = 32)) = true) (m j : Nat) (hj : j < d.tl) (hr : 0 ≤ (d.W.getD j (0, ByteArray.empty)).1 ∧ (d.W.getD j (0, ByteArray.empty)).1 < (d.sl : Int)) (hz : ¬(d.W.getD j (0, ByteArray.empty)).2.size = 32) (ih : (∀ i, i < j + 1 → (decide (0 ≤ (d.W.getD i (0, ByteArray.empty)).1) && decide ((d.W.getD i (0, ByteArray.empty)).1 < (d.sl : Int)) && decide ((d.W.getD i (0, ByteArray.empty)).2.size = 32)) = true) → ∀ (x0 : Nat) (aa : Act) (w : World) (S : Sy w0 [] [x0] (rrS2 d (j + 1)) [rfSt d.b d.o d.S, rfWs d.c d.p d.W] aa w), post Try.prog (.rnd (m) (bodyL rr2) :: rr2.k.tail) (bodyPost Try.prog Try.f11 fun e w' => e = .returned (.bool (rightB d)) ∧ Below w0.heap.size w0 w') .normal aa w) (hv : ∀ i, i < j → (decide (0 ≤ (d.W.getD i (0, ByteArray.empty)).1) && decide ((d.W.getD i (0, ByteArray.empty)).1 < (d.sl : Int)) && decide ((d.W.getD i (0, ByteArray.empty)).2.size = 32)) = true) (x0 : Nat) (aa : Act) (w : World) (S : Sy w0 [] [x0] (rrS2 d (j)) [rfSt d.b d.o d.S, rfWs d.c d.p d.W] aa w) : post Try.prog (.rnd (m + 1) (bodyL rr2) :: rr2.k.tail) (bodyPost Try.prog Try.f11 fun e w' => e = .returned (.bool (rightB d)) ∧ Below w0.heap.size w0 w') .normal aa w := by
  refine sy_run (c := ⟨(.rnd (m + 1) (bodyL rr2) :: rr2.k.tail), rrS2 d j⟩) ⟨0, [9]⟩ 50 S fun bs aa w S => ?_
  refine sy_reg S fun S => ?_
  refine sy_ops 5 S fun bs aa w S => ?_
  refine sy_cast 27 S (congrArg Value.bool (decide_eq_true (by omega) : decide ((j : Int) < (d.tl : Int)) = true)) (by kernel_rfl) fun S => ?_
  refine sy_run ⟨0, []⟩ 60 S fun bs aa w S => ?_
  letI : KP := ⟨[36, 47, 57]⟩
  letI : HF := ⟨[rfWs d.c d.p d.W]⟩
  refine dr_enter [0] (by kernel_rfl) (by kernel_rfl) S (by kernel_rfl) (fun aa w D => ?_) (fun f hf => by have e : f = rfWs d.c d.p d.W := List.mem_singleton.1 hf; subst e; simp)
  refine dr_tix 3 D (by kernel_rfl) (by kernel_rfl) (by kernel_rfl) (b := d.c) (off := d.p) (len := d.tl) (n := j) (size := 2) (ix := (j : Int)) (by rw [← hg.hw.resolve_left (by omega)]; kernel_rfl) rfl hj fun aa D => ?_
  refine dr_tld 5 D (by kernel_rfl) (by kernel_rfl) (by kernel_rfl) (ty := 3) (ad := ⟨d.c, d.p + j * 2, none⟩) (v := .int .i64 (d.W.getD j (0, ByteArray.empty)).1) (fun W hW => ld_at (by kernel_rfl) ((show WasAt W d.c d.p d.W from hW _ (List.mem_singleton.2 rfl)) j (by rw [hg.hW]; exact hj)).1) (by kernel_rfl) fun aa D => ?_
  refine dr_ex2 (fun d v c a w h => by cases d <;> exact h) 6 (op := .binOp .lss 3 (.tmp 35) (.const (.int .i64 0)) 3) (ty := 4) (v := .bool false) D (by kernel_rfl) (by kernel_rfl) (by kernel_rfl) (by kernel_rfl) (ex_ltI (ki := .i64) (p := (d.W.getD j (0, ByteArray.empty)).1) (q := 0) (by kernel_rfl) (by kernel_rfl) (decide_eq_false (by omega))) fun aa D => ?_
  refine dr_tix 11 D (by kernel_rfl) (by kernel_rfl) (by kernel_rfl) (b := d.c) (off := d.p) (len := d.tl) (n := j) (size := 2) (ix := (j : Int)) (by rw [← hg.hw.resolve_left (by omega)]; kernel_rfl) rfl hj fun aa D => ?_
  refine dr_tld 13 D (by kernel_rfl) (by kernel_rfl) (by kernel_rfl) (ty := 3) (ad := ⟨d.c, d.p + j * 2, none⟩) (v := .int .i64 (d.W.getD j (0, ByteArray.empty)).1) (fun W hW => ld_at (by kernel_rfl) ((show WasAt W d.c d.p d.W from hW _ (List.mem_singleton.2 rfl)) j (by rw [hg.hW]; exact hj)).1) (by kernel_rfl) fun aa D => ?_
  refine dr_ex2 (fun d v c a w h => by cases d <;> exact h) 17 (op := .binOp .geq 3 (.tmp 43) (.tmp 46) 3) (ty := 4) (v := .bool false) D (by kernel_rfl) (by kernel_rfl) (by kernel_rfl) (by kernel_rfl) (ex_geI (ki := .i64) (p := (d.W.getD j (0, ByteArray.empty)).1) (q := (d.sl : Int)) (by kernel_rfl) (by kernel_rfl) (decide_eq_false (by omega))) fun aa D => ?_
  refine dr_tix 23 D (by kernel_rfl) (by kernel_rfl) (by kernel_rfl) (b := d.c) (off := d.p) (len := d.tl) (n := j) (size := 2) (ix := (j : Int)) (by rw [← hg.hw.resolve_left (by omega)]; kernel_rfl) rfl hj fun aa D => ?_
  refine dr_tld 25 D (by kernel_rfl) (by kernel_rfl) (by kernel_rfl) (ty := 9) (ad := ⟨d.c, d.p + j * 2 + 1, none⟩) (v := .string (d.W.getD j (0, ByteArray.empty)).2) (fun W hW => ld_at (by kernel_rfl) ((show WasAt W d.c d.p d.W from hW _ (List.mem_singleton.2 rfl)) j (by rw [hg.hW]; exact hj)).2) (by kernel_rfl) fun aa D => ?_
  refine dr_ex2 (fun d v c a w h => by cases d <;> exact h) 27 (op := .binOp .neq 3 (.tmp 56) (.const (.int .i64 32)) 3) (ty := 4) (v := .bool true) D (by kernel_rfl) (by kernel_rfl) (by kernel_rfl) (by kernel_rfl) (ex_neI (ki := .i64) (p := ((d.W.getD j (0, ByteArray.empty)).2.size : Int)) (q := 32) (by kernel_rfl) (by kernel_rfl) (by rw [decide_eq_false (by omega)]; rfl)) fun aa D => ?_
  refine dr_end D (by kernel_rfl) fun S => ?_
  refine sy_run ⟨0, []⟩ 60 S fun bs aa w S => ?_
  have hpw : (decide (0 ≤ (d.W.getD j (0, ByteArray.empty)).1) && decide ((d.W.getD j (0, ByteArray.empty)).1 < (d.sl : Int)) && decide ((d.W.getD j (0, ByteArray.empty)).2.size = 32)) = false := by rw [decide_eq_false hz, Bool.and_false]
  have e : rightB d = false := (by simp only [rightB]; rw [all_not (fun x => decide (0 ≤ x.1) && decide (x.1 < (d.sl : Int)) && decide (x.2.size = 32)) (0, ByteArray.empty) d.W j (by rw [hg.hW]; exact hj) hpw]; simp)
  rw [e]
  exact sy_ret S (by kernel_rfl) (by kernel_rfl) fun hg => ⟨rfl, bel_gr hg⟩
set_option maxHeartbeats 8000000 in
theorem rr_s22 (w0 : World) (d : Dk) (hg : d.gen) (h5 : d.sl ≤ 512) (h1000 : d.tl ≤ 60) (hu : ∀ i, i < d.sl → (decide ((d.S.getD i ByteArray.empty).size = 32)) = true) (m j : Nat) (hj : j < d.tl) (hr : ¬(0 ≤ (d.W.getD j (0, ByteArray.empty)).1 ∧ (d.W.getD j (0, ByteArray.empty)).1 < (d.sl : Int))) (ih : (∀ i, i < j + 1 → (decide (0 ≤ (d.W.getD i (0, ByteArray.empty)).1) && decide ((d.W.getD i (0, ByteArray.empty)).1 < (d.sl : Int)) && decide ((d.W.getD i (0, ByteArray.empty)).2.size = 32)) = true) → ∀ (x0 : Nat) (aa : Act) (w : World) (S : Sy w0 [] [x0] (rrS2 d (j + 1)) [rfSt d.b d.o d.S, rfWs d.c d.p d.W] aa w), post Try.prog (.rnd (m) (bodyL rr2) :: rr2.k.tail) (bodyPost Try.prog Try.f11 fun e w' => e = .returned (.bool (rightB d)) ∧ Below w0.heap.size w0 w') .normal aa w) (hv : ∀ i, i < j → (decide (0 ≤ (d.W.getD i (0, ByteArray.empty)).1) && decide ((d.W.getD i (0, ByteArray.empty)).1 < (d.sl : Int)) && decide ((d.W.getD i (0, ByteArray.empty)).2.size = 32)) = true) (x0 : Nat) (aa : Act) (w : World) (S : Sy w0 [] [x0] (rrS2 d (j)) [rfSt d.b d.o d.S, rfWs d.c d.p d.W] aa w) : post Try.prog (.rnd (m + 1) (bodyL rr2) :: rr2.k.tail) (bodyPost Try.prog Try.f11 fun e w' => e = .returned (.bool (rightB d)) ∧ Below w0.heap.size w0 w') .normal aa w := by
  refine sy_run (c := ⟨(.rnd (m + 1) (bodyL rr2) :: rr2.k.tail), rrS2 d j⟩) ⟨0, [9]⟩ 50 S fun bs aa w S => ?_
  refine sy_reg S fun S => ?_
  refine sy_ops 5 S fun bs aa w S => ?_
  refine sy_cast 27 S (congrArg Value.bool (decide_eq_true (by omega) : decide ((j : Int) < (d.tl : Int)) = true)) (by kernel_rfl) fun S => ?_
  have hpw : (decide (0 ≤ (d.W.getD j (0, ByteArray.empty)).1) && decide ((d.W.getD j (0, ByteArray.empty)).1 < (d.sl : Int)) && decide ((d.W.getD j (0, ByteArray.empty)).2.size = 32)) = false := by rw [Bool.eq_false_iff]; intro q; simp only [Bool.and_eq_true, decide_eq_true_eq] at q; exact hr q.1
  by_cases h0 : 0 ≤ (d.W.getD j (0, ByteArray.empty)).1
  case neg =>
    refine sy_run ⟨0, []⟩ 60 S fun bs aa w S => ?_
    letI : KP := ⟨[36]⟩
    letI : HF := ⟨[rfWs d.c d.p d.W]⟩
    refine dr_enter [0] (by kernel_rfl) (by kernel_rfl) S (by kernel_rfl) (fun aa w D => ?_) (fun f hf => by have e : f = rfWs d.c d.p d.W := List.mem_singleton.1 hf; subst e; simp)
    refine dr_tix 3 D (by kernel_rfl) (by kernel_rfl) (by kernel_rfl) (b := d.c) (off := d.p) (len := d.tl) (n := j) (size := 2) (ix := (j : Int)) (by rw [← hg.hw.resolve_left (by omega)]; kernel_rfl) rfl hj fun aa D => ?_
    refine dr_tld 5 D (by kernel_rfl) (by kernel_rfl) (by kernel_rfl) (ty := 3) (ad := ⟨d.c, d.p + j * 2, none⟩) (v := .int .i64 (d.W.getD j (0, ByteArray.empty)).1) (fun W hW => ld_at (by kernel_rfl) ((show WasAt W d.c d.p d.W from hW _ (List.mem_singleton.2 rfl)) j (by rw [hg.hW]; exact hj)).1) (by kernel_rfl) fun aa D => ?_
    refine dr_ex2 (fun d v c a w h => by cases d <;> exact h) 6 (op := .binOp .lss 3 (.tmp 35) (.const (.int .i64 0)) 3) (ty := 4) (v := .bool true) D (by kernel_rfl) (by kernel_rfl) (by kernel_rfl) (by kernel_rfl) (ex_ltI (ki := .i64) (p := (d.W.getD j (0, ByteArray.empty)).1) (q := 0) (by kernel_rfl) (by kernel_rfl) (decide_eq_true (by omega))) fun aa D => ?_
    refine dr_end D (by kernel_rfl) fun S => ?_
    refine sy_run ⟨0, []⟩ 60 S fun bs aa w S => ?_
    have e : rightB d = false := (by simp only [rightB]; rw [all_not (fun x => decide (0 ≤ x.1) && decide (x.1 < (d.sl : Int)) && decide (x.2.size = 32)) (0, ByteArray.empty) d.W j (by rw [hg.hW]; exact hj) hpw]; simp)
    rw [e]
    exact sy_ret S (by kernel_rfl) (by kernel_rfl) fun hg => ⟨rfl, bel_gr hg⟩
  refine sy_run ⟨0, []⟩ 60 S fun bs aa w S => ?_
  letI : KP := ⟨[36, 47]⟩
  letI : HF := ⟨[rfWs d.c d.p d.W]⟩
  refine dr_enter [0] (by kernel_rfl) (by kernel_rfl) S (by kernel_rfl) (fun aa w D => ?_) (fun f hf => by have e : f = rfWs d.c d.p d.W := List.mem_singleton.1 hf; subst e; simp)
  refine dr_tix 3 D (by kernel_rfl) (by kernel_rfl) (by kernel_rfl) (b := d.c) (off := d.p) (len := d.tl) (n := j) (size := 2) (ix := (j : Int)) (by rw [← hg.hw.resolve_left (by omega)]; kernel_rfl) rfl hj fun aa D => ?_
  refine dr_tld 5 D (by kernel_rfl) (by kernel_rfl) (by kernel_rfl) (ty := 3) (ad := ⟨d.c, d.p + j * 2, none⟩) (v := .int .i64 (d.W.getD j (0, ByteArray.empty)).1) (fun W hW => ld_at (by kernel_rfl) ((show WasAt W d.c d.p d.W from hW _ (List.mem_singleton.2 rfl)) j (by rw [hg.hW]; exact hj)).1) (by kernel_rfl) fun aa D => ?_
  refine dr_ex2 (fun d v c a w h => by cases d <;> exact h) 6 (op := .binOp .lss 3 (.tmp 35) (.const (.int .i64 0)) 3) (ty := 4) (v := .bool false) D (by kernel_rfl) (by kernel_rfl) (by kernel_rfl) (by kernel_rfl) (ex_ltI (ki := .i64) (p := (d.W.getD j (0, ByteArray.empty)).1) (q := 0) (by kernel_rfl) (by kernel_rfl) (decide_eq_false (by omega))) fun aa D => ?_
  refine dr_tix 11 D (by kernel_rfl) (by kernel_rfl) (by kernel_rfl) (b := d.c) (off := d.p) (len := d.tl) (n := j) (size := 2) (ix := (j : Int)) (by rw [← hg.hw.resolve_left (by omega)]; kernel_rfl) rfl hj fun aa D => ?_
  refine dr_tld 13 D (by kernel_rfl) (by kernel_rfl) (by kernel_rfl) (ty := 3) (ad := ⟨d.c, d.p + j * 2, none⟩) (v := .int .i64 (d.W.getD j (0, ByteArray.empty)).1) (fun W hW => ld_at (by kernel_rfl) ((show WasAt W d.c d.p d.W from hW _ (List.mem_singleton.2 rfl)) j (by rw [hg.hW]; exact hj)).1) (by kernel_rfl) fun aa D => ?_
  refine dr_ex2 (fun d v c a w h => by cases d <;> exact h) 17 (op := .binOp .geq 3 (.tmp 43) (.tmp 46) 3) (ty := 4) (v := .bool true) D (by kernel_rfl) (by kernel_rfl) (by kernel_rfl) (by kernel_rfl) (ex_geI (ki := .i64) (p := (d.W.getD j (0, ByteArray.empty)).1) (q := (d.sl : Int)) (by kernel_rfl) (by kernel_rfl) (decide_eq_true (by omega))) fun aa D => ?_
  refine dr_end D (by kernel_rfl) fun S => ?_
  refine sy_run ⟨0, []⟩ 60 S fun bs aa w S => ?_
  have e : rightB d = false := (by simp only [rightB]; rw [all_not (fun x => decide (0 ≤ x.1) && decide (x.1 < (d.sl : Int)) && decide (x.2.size = 32)) (0, ByteArray.empty) d.W j (by rw [hg.hW]; exact hj) hpw]; simp)
  rw [e]
  exact sy_ret S (by kernel_rfl) (by kernel_rfl) fun hg => ⟨rfl, bel_gr hg⟩
theorem rr_a2 (w0 : World) (d : Dk) (hg : d.gen) (h5 : d.sl ≤ 512) (h1000 : d.tl ≤ 60) (hu : ∀ i, i < d.sl → (decide ((d.S.getD i ByteArray.empty).size = 32)) = true) : ∀ (r j : Nat), j + r = d.tl → (∀ i, i < j → (decide (0 ≤ (d.W.getD i (0, ByteArray.empty)).1) && decide ((d.W.getD i (0, ByteArray.empty)).1 < (d.sl : Int)) && decide ((d.W.getD i (0, ByteArray.empty)).2.size = 32)) = true) → ∀ (x0 : Nat) (aa : Act) (w : World) (S : Sy w0 [] [x0] (rrS2 d (j)) [rfSt d.b d.o d.S, rfWs d.c d.p d.W] aa w), post Try.prog (.rnd (r + 1) (bodyL rr2) :: rr2.k.tail) (bodyPost Try.prog Try.f11 fun e w' => e = .returned (.bool (rightB d)) ∧ Below w0.heap.size w0 w') .normal aa w := by
  intro r
  induction r with
  | zero => intro j hj hv x0 aa w S; obtain rfl : j = d.tl := by omega
            exact rr_e2 w0 d hg h5 h1000 0 hu hv x0 aa w S
  | succ r ih =>
    intro j hj hv x0 aa w S
    have hjl : j < d.tl := by omega
    by_cases hr : 0 ≤ (d.W.getD j (0, ByteArray.empty)).1 ∧ (d.W.getD j (0, ByteArray.empty)).1 < (d.sl : Int)
    · by_cases hz : (d.W.getD j (0, ByteArray.empty)).2.size = 32
      · exact rr_s20 w0 d hg h5 h1000 hu (r + 1) j hjl hr hz (fun h => ih (j + 1) (by omega) h) hv x0 aa w S
      · exact rr_s21 w0 d hg h5 h1000 hu (r + 1) j hjl hr hz (fun h => ih (j + 1) (by omega) h) hv x0 aa w S
    · exact rr_s22 w0 d hg h5 h1000 hu (r + 1) j hjl hr (fun h => ih (j + 1) (by omega) h) hv x0 aa w S
set_option maxHeartbeats 8000000 in
theorem rr_e1 (w0 : World) (d : Dk) (hg : d.gen) (h5 : d.sl ≤ 512) (h1000 : d.tl ≤ 60) (m : Nat) (hv : ∀ i, i < d.sl → (decide ((d.S.getD i ByteArray.empty).size = 32)) = true) (x0 : Nat) (aa : Act) (w : World) (S : Sy w0 [] [x0] (rrS1 d (d.sl)) [rfSt d.b d.o d.S, rfWs d.c d.p d.W] aa w) : post Try.prog (.rnd (m + 1) (bodyL rr1) :: rr1.k.tail) (bodyPost Try.prog Try.f11 fun e w' => e = .returned (.bool (rightB d)) ∧ Below w0.heap.size w0 w') .normal aa w := by
  refine sy_run (c := ⟨(.rnd (m + 1) (bodyL rr1) :: rr1.k.tail), rrS1 d d.sl⟩) ⟨0, [4]⟩ 50 S fun bs aa w S => ?_
  refine sy_reg S fun S => ?_
  refine sy_ops 5 S fun bs aa w S => ?_
  refine sy_cast 13 S (congrArg Value.bool (decide_eq_false (by omega) : decide ((d.sl : Int) < (d.sl : Int)) = false)) (by kernel_rfl) fun S => ?_
  refine sy_run ⟨0, []⟩ 60 S fun bs aa w S => ?_
  have S2 := S.to [0] (rrS2 d 0) (by kernel_rfl) (by kernel_rfl) (by kernel_rfl) (by kernel_rfl) (by kernel_rfl)
  refine sy_loop (d.tl + 1) (by kernel_rfl) ?_
  refine sy_at2 (k' := (.rnd (d.tl + 1) (bodyL rr2) :: rr2.k.tail)) (by kernel_rfl) ?_
  exact rr_a2 w0 d hg h5 h1000 hv d.tl 0 (by omega) (fun i hi => absurd hi (Nat.not_lt_zero _)) _ aa w S2
set_option maxHeartbeats 8000000 in
theorem rr_s10 (w0 : World) (d : Dk) (hg : d.gen) (h5 : d.sl ≤ 512) (h1000 : d.tl ≤ 60) (m j : Nat) (hj : j < d.sl) (hp : (decide ((d.S.getD j ByteArray.empty).size = 32)) = true) (ih : (∀ i, i < j + 1 → (decide ((d.S.getD i ByteArray.empty).size = 32)) = true) → ∀ (x0 : Nat) (aa : Act) (w : World) (S : Sy w0 [] [x0] (rrS1 d (j + 1)) [rfSt d.b d.o d.S, rfWs d.c d.p d.W] aa w), post Try.prog (.rnd (m) (bodyL rr1) :: rr1.k.tail) (bodyPost Try.prog Try.f11 fun e w' => e = .returned (.bool (rightB d)) ∧ Below w0.heap.size w0 w') .normal aa w) (hv : ∀ i, i < j → (decide ((d.S.getD i ByteArray.empty).size = 32)) = true) (x0 : Nat) (aa : Act) (w : World) (S : Sy w0 [] [x0] (rrS1 d (j)) [rfSt d.b d.o d.S, rfWs d.c d.p d.W] aa w) : post Try.prog (.rnd (m + 1) (bodyL rr1) :: rr1.k.tail) (bodyPost Try.prog Try.f11 fun e w' => e = .returned (.bool (rightB d)) ∧ Below w0.heap.size w0 w') .normal aa w := by
  refine sy_run (c := ⟨(.rnd (m + 1) (bodyL rr1) :: rr1.k.tail), rrS1 d j⟩) ⟨0, [4]⟩ 50 S fun bs aa w S => ?_
  refine sy_reg S fun S => ?_
  refine sy_ops 5 S fun bs aa w S => ?_
  refine sy_cast 13 S (congrArg Value.bool (decide_eq_true (by omega) : decide ((j : Int) < (d.sl : Int)) = true)) (by kernel_rfl) fun S => ?_
  refine sy_run ⟨0, [6]⟩ 60 S fun bs aa w S => ?_
  refine sy_reg S fun S => ?_
  refine sy_ops 3 S fun bs aa w S => ?_
  refine sy_ix (b := d.b) (off := d.o) (len := d.sl) (n := j) (size := 1) (i := (j : Int)) S (by rw [← hg.hs.resolve_left (by omega)]; kernel_rfl) rfl hj fun aa S => ?_
  refine sy_ldo S (ld_at (ty := 9) (b := d.b) (off := d.o + j * 1) (by kernel_rfl) (by rw [Nat.mul_one]; exact S.fact (f := rfSt d.b d.o d.S) (by simp) j (by rw [hg.hS]; omega))) (by kernel_rfl) fun aa S => ?_
  refine sy_ops 2 S fun bs aa w S => ?_
  refine sy_cast 22 S (congrArg Value.bool (by rw [of_decide_eq_true hp]; rfl : (!decide (((d.S.getD j ByteArray.empty).size : Int) = 32)) = false)) (by kernel_rfl) fun S => ?_
  refine sy_run ⟨0, [5]⟩ 60 S fun bs aa w S => ?_
  refine sy_reg S fun S => ?_
  refine sy_ops 2 S fun bs aa w S => ?_
  refine sy_cast 15 S (congrArg (Value.int .i64) (by rw [IntKind.wrap_i64]; omega : IntKind.i64.wrap ((j : Int) + 1) = ((j + 1 : Nat) : Int))) (by kernel_rfl) fun S => ?_
  refine sy_run ⟨0, [999]⟩ 50 S fun bs aa w S => ?_
  have S2 := S.to [0] (rrS1 d (j + 1)) (by kernel_rfl) (by kernel_rfl) (by kernel_rfl) (by kernel_rfl) (by kernel_rfl)
  refine sy_at2 (k' := (.rnd (m) (bodyL rr1) :: rr1.k.tail)) (by kernel_rfl) ?_
  exact ih (upto_succ hv hp) _ aa w S2
set_option maxHeartbeats 8000000 in
theorem rr_s11 (w0 : World) (d : Dk) (hg : d.gen) (h5 : d.sl ≤ 512) (h1000 : d.tl ≤ 60) (m j : Nat) (hj : j < d.sl) (hp : (decide ((d.S.getD j ByteArray.empty).size = 32)) = false) (ih : (∀ i, i < j + 1 → (decide ((d.S.getD i ByteArray.empty).size = 32)) = true) → ∀ (x0 : Nat) (aa : Act) (w : World) (S : Sy w0 [] [x0] (rrS1 d (j + 1)) [rfSt d.b d.o d.S, rfWs d.c d.p d.W] aa w), post Try.prog (.rnd (m) (bodyL rr1) :: rr1.k.tail) (bodyPost Try.prog Try.f11 fun e w' => e = .returned (.bool (rightB d)) ∧ Below w0.heap.size w0 w') .normal aa w) (hv : ∀ i, i < j → (decide ((d.S.getD i ByteArray.empty).size = 32)) = true) (x0 : Nat) (aa : Act) (w : World) (S : Sy w0 [] [x0] (rrS1 d (j)) [rfSt d.b d.o d.S, rfWs d.c d.p d.W] aa w) : post Try.prog (.rnd (m + 1) (bodyL rr1) :: rr1.k.tail) (bodyPost Try.prog Try.f11 fun e w' => e = .returned (.bool (rightB d)) ∧ Below w0.heap.size w0 w') .normal aa w := by
  refine sy_run (c := ⟨(.rnd (m + 1) (bodyL rr1) :: rr1.k.tail), rrS1 d j⟩) ⟨0, [4]⟩ 50 S fun bs aa w S => ?_
  refine sy_reg S fun S => ?_
  refine sy_ops 5 S fun bs aa w S => ?_
  refine sy_cast 13 S (congrArg Value.bool (decide_eq_true (by omega) : decide ((j : Int) < (d.sl : Int)) = true)) (by kernel_rfl) fun S => ?_
  refine sy_run ⟨0, [6]⟩ 60 S fun bs aa w S => ?_
  refine sy_reg S fun S => ?_
  refine sy_ops 3 S fun bs aa w S => ?_
  refine sy_ix (b := d.b) (off := d.o) (len := d.sl) (n := j) (size := 1) (i := (j : Int)) S (by rw [← hg.hs.resolve_left (by omega)]; kernel_rfl) rfl hj fun aa S => ?_
  refine sy_ldo S (ld_at (ty := 9) (b := d.b) (off := d.o + j * 1) (by kernel_rfl) (by rw [Nat.mul_one]; exact S.fact (f := rfSt d.b d.o d.S) (by simp) j (by rw [hg.hS]; omega))) (by kernel_rfl) fun aa S => ?_
  refine sy_ops 2 S fun bs aa w S => ?_
  refine sy_cast 22 S (congrArg Value.bool (by have := of_decide_eq_false hp; rw [decide_eq_false (by omega)]; rfl : (!decide (((d.S.getD j ByteArray.empty).size : Int) = 32)) = true)) (by kernel_rfl) fun S => ?_
  refine sy_run ⟨0, []⟩ 60 S fun bs aa w S => ?_
  have e : rightB d = false := (by simp only [rightB]; rw [all_not _ ByteArray.empty d.S j (by rw [hg.hS]; exact hj) hp]; simp)
  rw [e]
  exact sy_ret S (by kernel_rfl) (by kernel_rfl) fun hg => ⟨rfl, bel_gr hg⟩
theorem rr_a1 (w0 : World) (d : Dk) (hg : d.gen) (h5 : d.sl ≤ 512) (h1000 : d.tl ≤ 60) : ∀ (r j : Nat), j + r = d.sl → (∀ i, i < j → (decide ((d.S.getD i ByteArray.empty).size = 32)) = true) → ∀ (x0 : Nat) (aa : Act) (w : World) (S : Sy w0 [] [x0] (rrS1 d (j)) [rfSt d.b d.o d.S, rfWs d.c d.p d.W] aa w), post Try.prog (.rnd (r + 1) (bodyL rr1) :: rr1.k.tail) (bodyPost Try.prog Try.f11 fun e w' => e = .returned (.bool (rightB d)) ∧ Below w0.heap.size w0 w') .normal aa w := by
  intro r
  induction r with
  | zero => intro j hj hv x0 aa w S; obtain rfl : j = d.sl := by omega
            exact rr_e1 w0 d hg h5 h1000 0 hv x0 aa w S
  | succ r ih =>
    intro j hj hv x0 aa w S
    have hjl : j < d.sl := by omega
    cases hp : (decide ((d.S.getD j ByteArray.empty).size = 32)) with
    | true => exact rr_s10 w0 d hg h5 h1000 (r + 1) j hjl hp (fun h => ih (j + 1) (by omega) h) hv x0 aa w S
    | false => exact rr_s11 w0 d hg h5 h1000 (r + 1) j hjl hp (fun h => ih (j + 1) (by omega) h) hv x0 aa w S
set_option maxHeartbeats 8000000 in
theorem rright_t (w0 : World) (d : Dk) (hg : d.gen) (h1000 : d.tl ≤ 60) (hA : StrAt w0 d.b d.o d.S) (hB : WasAt w0 d.c d.p d.W) : Calls Try.prog 11 #[d.v] w0 fun e w' => e = .returned (.bool (rightB d)) ∧ Below w0.heap.size w0 w' := by
  refine sy_enterF [] [rfSt d.b d.o d.S, rfWs d.c d.p d.W] (by intro f hf; simp only [List.mem_cons, List.not_mem_nil, or_false] at hf; rcases hf with rfl | rfl; exact hA; exact hB) Try.func11 rfl rfl fun aa S => ?_
  refine sy_run ⟨0, [1]⟩ 60 S fun bs aa w S => ?_
  refine sy_reg S fun S => ?_
  refine sy_ops 4 S fun bs aa w S => ?_
  by_cases h1 : d.sl ≤ 512
  case neg =>
    refine sy_cast 8 S (congrArg Value.bool (decide_eq_true (by omega) : decide ((d.sl : Int) > 512) = true)) (by kernel_rfl) fun S => ?_
    refine sy_run ⟨0, []⟩ 60 S fun bs aa w S => ?_
    have e : rightB d = false := by simp [rightB, h1]
    rw [e]
    exact sy_ret S (by kernel_rfl) (by kernel_rfl) fun hg => ⟨rfl, bel_gr hg⟩
  refine sy_cast 8 S (congrArg Value.bool (decide_eq_false (by omega) : decide ((d.sl : Int) > 512) = false)) (by kernel_rfl) fun S => ?_
  refine sy_run ⟨0, []⟩ 60 S fun bs aa w S => ?_
  have S2 := S.to [0] (rrS1 d 0) (by kernel_rfl) (by kernel_rfl) (by kernel_rfl) (by kernel_rfl) (by kernel_rfl)
  refine sy_loop (d.sl + 1) (by kernel_rfl) ?_
  refine sy_at2 (k' := (.rnd (d.sl + 1) (bodyL rr1) :: rr1.k.tail)) (by kernel_rfl) ?_
  exact rr_a1 w0 d hg h1 h1000 d.sl 0 (by omega) (fun i hi => absurd hi (Nat.not_lt_zero _)) _ aa w S2
theorem right_of {d : Dk} (hg : d.gen) (h : rightB d = true) : d.right ∧ d.sl ≤ 512 := by
  simp only [rightB, Bool.and_eq_true, decide_eq_true_eq, List.all_eq_true] at h
  refine ⟨⟨fun j hj => h.1.2 _ (getD_mem _ _ _ (by rw [hg.hS]; exact hj)), fun j hj => ?_⟩, h.1.1⟩
  have := h.2 _ (getD_mem d.W j (0, ByteArray.empty) (by rw [hg.hW]; exact hj))
  exact ⟨⟨this.1.1, this.1.2⟩, this.2⟩
end Go.Proofs.Ytnlcjlhcghgaoaa
