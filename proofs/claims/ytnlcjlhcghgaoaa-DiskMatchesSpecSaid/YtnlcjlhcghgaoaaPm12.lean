/-
  Merged: Dk16, Dk25
-/
import Derived.Test.YtnlcjlhcghgaoaaRows
import Derived.Test.YtnlcjlhcghgaoaaPm2
import Derived.Test.YtnlcjlhcghgaoaaPm11
import Derived.Test.YtnlcjlhcghgaoaaPm10
import Derived.WalkKit

/-
  Layer 22: what a crash keeps: the statement.
-/
namespace Go.Proofs.Ytnlcjlhcghgaoaa
open Go Go.RowKit SZ
set_option linter.unusedVariables false
set_option linter.unusedSimpArgs false
set_option maxRecDepth 100000
attribute [local irreducible] post GD Nxt NxtAll
theorem made_v (v : Value) (h1 : v.cells = #[v]) (n : Nat) : madeCells v.cells n = (List.replicate n v).toArray := by
  apply Array.ext'
  apply List.ext_getElem
  · simp [madeCells, h1]
  · intro i h1' h2
    simp [madeCells, h1, Nat.mod_one]
theorem mk_runb (n : Nat) (hn : n ≤ 512) (w : World) : (Instr.makeSlice 50 (.int .i64 (n : Int)) (.int .i64 (n : Int))).run Try.prog w = .ok (.slice (some ⟨w.heap.size, 0, none⟩) n n) (w.alloc (.cells (List.replicate n (Value.bool false)).toArray 4 (0, 0))) := by
  have hI : (Try.prog.info? 4).map (fun i => (i.zero, i.size, i.bytes)) = some (some (.bool false), 1, 1) := by kernel_rfl
  cases hi : Try.prog.info? 4 with
  | none => rw [hi] at hI; cases hI
  | some i =>
    rw [hi] at hI
    simp only [Option.map_some, Option.some.injEq, Prod.mk.injEq] at hI
    obtain ⟨h1, h2, h3⟩ := hI
    have h := run_makeSlice (P := Try.prog) w 50 4 i (.bool false) Try.underlying50 hi h1 .i64 .i64 (n : Int) (n : Int) (by omega) (by omega) (by rw [h2, Int.toNat_natCast]; omega) (by rw [h3]; omega) (by omega)
    rw [h2, Int.toNat_natCast, Nat.mul_one, made_v (.bool false) rfl] at h
    exact h
theorem mk_runi (n : Nat) (hn : n ≤ 512) (w : World) : (Instr.makeSlice 26 (.int .i64 (n : Int)) (.int .i64 (n : Int))).run Try.prog w = .ok (.slice (some ⟨w.heap.size, 0, none⟩) n n) (w.alloc (.cells (List.replicate n (Value.int .i64 0)).toArray 3 (0, 0))) := by
  have hI : (Try.prog.info? 3).map (fun i => (i.zero, i.size, i.bytes)) = some (some (.int .i64 0), 1, 8) := by kernel_rfl
  cases hi : Try.prog.info? 3 with
  | none => rw [hi] at hI; cases hI
  | some i =>
    rw [hi] at hI
    simp only [Option.map_some, Option.some.injEq, Prod.mk.injEq] at hI
    obtain ⟨h1, h2, h3⟩ := hI
    have h := run_makeSlice (P := Try.prog) w 26 3 i (.int .i64 0) Try.underlying26 hi h1 .i64 .i64 (n : Int) (n : Int) (by omega) (by omega) (by rw [h2, Int.toNat_natCast]; omega) (by rw [h3]; omega) (by omega)
    rw [h2, Int.toNat_natCast, Nat.mul_one, made_v (.int .i64 0) rfl] at h
    exact h
/-- A row of bools. -/
def rfBl (g : Nat) (T : List Bool) : RF := ⟨fun b => b = g, fun w => w.heap[g]? = some (.cells (T.map Value.bool).toArray 4 (0, 0)), fun w h b hb => by subst hb; exact (Array.getElem?_eq_some_iff.1 h).1, fun w w' h hb => (hb g rfl).trans h⟩
theorem bl_at {w : World} {g : Nat} {T : List Bool} (h : (rfBl g T).P w) (j : Nat) (hj : j < T.length) : w.cell? ⟨g, 0 + j * 1, none⟩ = some (.bool (T.getD j false)) := by
  rw [Nat.mul_one, Nat.zero_add]
  refine cel_of h ?_
  simp [List.getD, List.getElem?_eq_getElem hj]
theorem bl_st {w : World} {g : Nat} {T : List Bool} (h : (rfBl g T).P w) (j : Nat) (hj : j < T.length) (b : Bool) : (storeVar 4 ⟨g, 0 + j * 1, none⟩ (.bool b)).run Try.prog w = .ok () (w.setCells g j [.bool b]) ∧ (rfBl g (T.set j b)).P (w.setCells g j [.bool b]) := by
  obtain ⟨hr, he⟩ := st_at (P := Try.prog) (ty := 4) (v := .bool b) (off := j) (by kernel_rfl) (by kernel_rfl) (by kernel_rfl) h (by simpa using hj)
  refine ⟨by rw [Nat.mul_one, Nat.zero_add]; exact hr, ?_⟩
  show (w.setCells g j [.bool b]).heap[g]? = some (Obj.cells ((T.set j b).map Value.bool).toArray 4 (0, 0))
  rw [List.map_set]
  exact he
def tch (n : Nat) (l : List Nat) : List Bool := l.foldl (fun T c => T.set (c % n) true) (List.replicate n false)
theorem tch_succ (n : Nat) (l : List Nat) (i : Nat) (h : i < l.length) : tch n (l.take (i + 1)) = (tch n (l.take i)).set (l.getD i 0 % n) true := by
  have e := List.take_succ_eq_append_getElem h
  unfold tch
  rw [e, List.foldl_append]
  simp [List.getD, List.getElem?_eq_getElem h]
theorem tch_len (n : Nat) : ∀ (l : List Nat) (T : List Bool), (l.foldl (fun T c => T.set (c % n) true) T).length = T.length
  | [], T => rfl
  | c :: l, T => by
    show (l.foldl _ (T.set (c % n) true)).length = _
    rw [tch_len n l, List.length_set]
theorem tch_f (n : Nat) (a : Nat) : ∀ (l : List Nat) (T : List Bool), a < T.length → (l.foldl (fun T c => T.set (c % n) true) T).getD a false = false → T.getD a false = false ∧ ∀ c ∈ l, c % n ≠ a
  | [], T, _, h => ⟨h, by simp⟩
  | c :: l, T, hl, h => by
    obtain ⟨h1, h2⟩ := tch_f n a l (T.set (c % n) true) (by simpa using hl) h
    by_cases e : c % n = a
    · rw [e] at h1
      rw [gset_eq _ _ _ _ hl] at h1
      cases h1
    · rw [gset_ne _ _ _ _ _ e] at h1
      exact ⟨h1, fun c' hc => by
        rcases List.mem_cons.1 hc with rfl | hc
        · exact e
        · exact h2 c' hc⟩
structure PInv2 (n : Nat) (x : List ByteArray × List (Int × ByteArray) × List (Int × ByteArray)) : Prop where
  len : x.1.length = n
  sz : ∀ s ∈ x.1, s.size = 32
  w : ∀ y ∈ x.2.1, (0 ≤ y.1 ∧ y.1 < (n : Int)) ∧ y.2.size = 32
theorem pinv_all (n : Nat) (hn : 0 < n) : ∀ (l : List Nat) (x : List ByteArray × List (Int × ByteArray) × List (Int × ByteArray)), PInv2 n x → PInv2 n (l.foldl (wput n) x)
  | [], x, h => h
  | c :: l, x, h => by
    refine pinv_all n hn l _ ?_
    have hm := Nat.mod_lt c hn
    refine ⟨by simp [wput, h.len], fun s hs => ?_, fun y hy => ?_⟩
    · rcases List.mem_or_eq_of_mem_set hs with h1 | rfl
      · exact h.sz s h1
      · exact full_size _
    · rcases List.mem_append.1 hy with h1 | h1
      · exact h.w y h1
      · simp only [List.mem_singleton] at h1
        subst h1
        exact ⟨⟨by show (0 : Int) ≤ ((c % n : Nat) : Int); omega, by show ((c % n : Nat) : Int) < (n : Int); omega⟩, h.sz _ (getD_mem _ _ _ (by rw [h.len]; exact hm))⟩
/-- Where the further writes are. -/
structure KI (w0 : World) (k : Nat) (S0 : List ByteArray) (l : List Nat) (i : Nat) (x : Dk) (tg : Nat) : Prop where
  ok : x.ok
  sl : x.sl = k + 1
  tc : x.tc ≤ 9223372036854775807
  eq : ∃ D, mput (k + 1) S0 (l.take i) = (x.S, x.W, D)
  tl : x.tl ≤ i
  ap : x.b ≠ tg ∧ (x.W.length = 0 ∨ x.c ≠ tg)
theorem KI.right {w0 : World} {k : Nat} {S0 : List ByteArray} {l : List Nat} {i : Nat} {x : Dk} {tg : Nat} (h : KI w0 k S0 l i x tg) (h0 : S0.length = k + 1) (h1 : All32 S0) : x.right := by
  obtain ⟨D, he⟩ := h.eq
  have hv := pinv_all (k + 1) (Nat.succ_pos _) (l.take i) (S0, [], []) ⟨h0, fun s hs => by obtain ⟨j, hj, rfl⟩ := List.getElem_of_mem hs; have := h1 j hj; rwa [List.getD, List.getElem?_eq_getElem hj] at this, by simp⟩
  rw [show (l.take i).foldl (wput (k + 1)) (S0, [], []) = mput (k + 1) S0 (l.take i) from rfl, he] at hv
  refine ⟨fun j hj => hv.sz _ (getD_mem _ _ _ (by rw [h.ok.hS]; exact hj)), fun j hj => ?_⟩
  have := hv.w _ (getD_mem x.W j (0, ByteArray.empty) (by rw [h.ok.hW]; exact hj))
  exact ⟨⟨this.1.1, by have := this.1.2; rw [h.sl]; exact this⟩, this.2⟩
def syn (d : Dk) : Dk := ⟨d.sa, d.sl, d.sc, none, 0, 0, d.b, d.o, d.c, d.p, d.S, []⟩
theorem syn_ok {d : Dk} (h : d.ok) : (syn d).ok := ⟨h.hS, h.hs, rfl, Or.inl ⟨rfl, rfl, rfl⟩, h.l1, Nat.zero_le _⟩
noncomputable def ks1 : Cfg := ⟨goZ 60 [0] [.code (bodyOf Try.f5)], ⟨0, [], []⟩⟩
noncomputable def ks2 : Cfg := ⟨goZ 90 [0, 9] [.code (bodyOf Try.f5)], ⟨0, [], []⟩⟩
noncomputable def ksm (m : Nat) : List It := goN 60 3 [1] (.code (bodyL ks1) :: .rnd m (bodyL ks1) :: ks1.k.tail)
noncomputable def ks1S (k : Nat) (l : List Nat) (qa : Option Addr) (qc : Nat) (cs : List Int) (ca : Option Addr) (cc tg zg : Nat) (d : Dk) (x : Dk) (i : Nat) : SS := ⟨161, [(5, .v (.slice qa l.length qc)), (6, .v (.slice ca cs.length cc)), (7, .v (.bool true)), (8, .v (.int .i64 ((k + 1 : Nat) : Int))), (9, .p 0 0), (11, .v (.bool true)), (12, .p 1 0), (13, .p 2 0), (14, .v (.slice (some ⟨tg, 0, none⟩) (k + 1) (k + 1))), (15, .v (.slice (some ⟨zg, 0, none⟩) l.length l.length)), (16, .v (.int .i64 (i : Int)))], [⟨25, d.cs⟩, ⟨25, (syn d).cs⟩, ⟨25, x.cs⟩]⟩
noncomputable def ksmS (k : Nat) (l : List Nat) (qa : Option Addr) (qc : Nat) (cs : List Int) (ca : Option Addr) (cc tg zg : Nat) (d : Dk) (x y : Dk) (i a : Nat) : SS := ⟨161, [(5, .v (.slice qa l.length qc)), (6, .v (.slice ca cs.length cc)), (7, .v (.bool true)), (8, .v (.int .i64 ((k + 1 : Nat) : Int))), (9, .p 0 0), (11, .v (.bool true)), (12, .p 1 0), (13, .p 2 0), (14, .v (.slice (some ⟨tg, 0, none⟩) (k + 1) (k + 1))), (15, .v (.slice (some ⟨zg, 0, none⟩) l.length l.length)), (16, .v (.int .i64 (i : Int))), (17, .v (.int .i64 (a : Int))), (18, .p 3 0), (19, .v (.int .i64 0))], [⟨25, d.cs⟩, ⟨25, (syn d).cs⟩, ⟨25, x.cs⟩, ⟨25, y.cs⟩]⟩
noncomputable def ks2S (k : Nat) (l : List Nat) (qa : Option Addr) (qc : Nat) (cs : List Int) (ca : Option Addr) (cc tg zg : Nat) (d : Dk) (x c : Dk) (a : Nat) : SS := ⟨161, [(6, .v (.slice ca cs.length cc)), (7, .v (.bool true)), (8, .v (.int .i64 ((k + 1 : Nat) : Int))), (9, .p 0 0), (11, .v (.bool true)), (12, .p 1 0), (13, .p 2 0), (14, .v (.slice (some ⟨tg, 0, none⟩) (k + 1) (k + 1))), (15, .v (.slice (some ⟨zg, 0, none⟩) l.length l.length)), (20, .p 3 0), (21, .v (.int .i64 (a : Int)))], [⟨25, d.cs⟩, ⟨25, (syn d).cs⟩, ⟨25, x.cs⟩, ⟨25, c.cs⟩]⟩
theorem ap_tg {w0 : World} {qb qo cb co tg zg : Nat} {l : List Nat} {cs : List Int} {d y : Dk} (hqb : l.length = 0 ∨ qb < w0.heap.size) (hcb : cs.length = 0 ∨ cb < w0.heap.size) (htg : w0.heap.size ≤ tg) (hap : d.b ≠ tg ∧ zg ≠ tg) (hy : y.b ≠ tg ∧ (y.W.length = 0 ∨ y.c ≠ tg)) : ∀ f ∈ [rfBy qb qo l, rfIn cb co cs, rfSt d.b d.o d.S, rfSt y.b y.o y.S, rfWs y.c y.p y.W, rfIn zg 0 (List.replicate l.length (0 : Int))], ¬f.bl tg := by
  intro f hf hb
  simp only [List.mem_cons, List.not_mem_nil, or_false] at hf
  rcases hf with rfl | rfl | rfl | rfl | rfl | rfl
  · obtain ⟨rfl, h⟩ := hb; have := hqb.resolve_left h; omega
  · obtain ⟨rfl, h⟩ := hb; have := hcb.resolve_left h; omega
  · obtain ⟨h, _⟩ := hb; exact hap.1 h.symm
  · obtain ⟨h, _⟩ := hb; exact hy.1 h.symm
  · obtain ⟨h, h2⟩ := hb; exact (hy.2.resolve_left h2) h.symm
  · obtain ⟨h, _⟩ := hb; exact hap.2 h.symm
set_option maxHeartbeats 8000000 in
theorem ks_2 (w0 : World) (k : Nat) (hk : k < 6) (l : List Nat) (hlL : l.length ≤ 30) (h256 : ∀ i, i < l.length → l.getD i 0 < 256) (qa : Option Addr) (qc qb qo : Nat) (hq : l.length = 0 ∨ qa = some ⟨qb, qo, none⟩) (hqb : l.length = 0 ∨ qb < w0.heap.size) (cs : List Int) (hcl : cs.length ≤ 40) (ca : Option Addr) (cc cb co : Nat) (hca : cs.length = 0 ∨ ca = some ⟨cb, co, none⟩) (hcb : cs.length = 0 ∨ cb < w0.heap.size) (d : Dk) (hd : d.ok) (hsl : d.sl = k + 1) (hS0 : All32 d.S) (tg zg : Nat) (htg : w0.heap.size ≤ tg) (hap : d.b ≠ tg ∧ zg ≠ tg) (m i : Nat) (hi : i < l.length) (ih : ∀ (x : Dk) (hx : KI w0 k d.S l (i + 1) x tg) (x0 x1 x2 : Nat) (aa : Act) (w : World) (S : Sy w0 [] [x0, x1, x2] (ks1S k l qa qc cs ca cc tg zg d x (i + 1)) [rfBy qb qo l, rfIn cb co cs, rfSt d.b d.o d.S, rfSt x.b x.o x.S, rfWs x.c x.p x.W, rfBl tg (tch (k + 1) (l.take (i + 1))), rfIn zg 0 (List.replicate l.length (0 : Int))] aa w), post Try.prog (.rnd (m) (bodyL ks1) :: ks1.k.tail) (bodyPost Try.prog Try.f5 fun e w' => e = .returned (.bool true) ∧ Below w0.heap.size w0 w') .normal aa w) (x y : Dk) (hx : KI w0 k d.S l i x tg) (hy : y.ok) (hys : y.sl = x.sl) (hyS : y.S = x.S.set (l.getD i 0 % (k + 1)) (fullS ((l.getD i 0 : Nat) : Int))) (hyW : y.W = x.W ++ [((((l.getD i 0 % (k + 1)) : Nat) : Int), x.S.getD (l.getD i 0 % (k + 1)) ByteArray.empty)]) (hytc : y.tc ≤ 9223372036854775807) (hya : y.b ≠ tg ∧ y.c ≠ tg) (x0 x1 x2 x3 : Nat) (aa : Act) (w : World) (S : Sy w0 [] [x0, x1, x2, x3] (ksmS k l qa qc cs ca cc tg zg d x y i (l.getD i 0 % (k + 1))) [rfBy qb qo l, rfIn cb co cs, rfSt d.b d.o d.S, rfSt y.b y.o y.S, rfWs y.c y.p y.W, rfBl tg (tch (k + 1) (l.take i)), rfIn zg 0 (List.replicate l.length (0 : Int))] aa w) : post Try.prog (ksm m) (bodyPost Try.prog Try.f5 fun e w' => e = .returned (.bool true) ∧ Below w0.heap.size w0 w') .normal aa w := by
  have hlt : (l.getD i 0 % (k + 1)) < k + 1 := Nat.mod_lt _ (Nat.succ_pos _)
  have hTl : (tch (k + 1) (l.take i)).length = k + 1 := by unfold tch; rw [tch_len, List.length_replicate]
  refine sy_run (c := ⟨ksm m, ksmS k l qa qc cs ca cc tg zg d x y i (l.getD i 0 % (k + 1))⟩) ⟨0, [22]⟩ 60 S fun bs aa w S => ?_
  refine sy_reg S fun S => ?_
  refine sy_ops 2 S fun bs aa w S => ?_
  refine sy_ix (b := tg) (off := 0) (len := k + 1) (n := (l.getD i 0 % (k + 1))) (size := 1) (i := (((l.getD i 0 % (k + 1)) : Nat) : Int)) S (by kernel_rfl) (by omega) hlt fun aa S => ?_
  obtain ⟨hr, he⟩ := bl_st (S.fact (f := rfBl tg (tch (k + 1) (l.take i))) (by simp)) (l.getD i 0 % (k + 1)) (by rw [hTl]; exact hlt) true
  have hapt := (S.fs (rfBl tg (tch (k + 1) (l.take i))) (by simp)).2
  refine sy_sto (ty := 4) (ad := ⟨tg, 0 + (l.getD i 0 % (k + 1)) * 1, none⟩) (x := .v (.bool true)) (v := .bool true) S (by kernel_rfl) rfl hr (gb_setC w tg _ _) (Or.inr htg) [rfBy qb qo l, rfIn cb co cs, rfSt d.b d.o d.S, rfSt y.b y.o y.S, rfWs y.c y.p y.W, rfIn zg 0 (List.replicate l.length (0 : Int))] (fun f hf => ⟨by simp only [List.mem_cons, List.not_mem_nil, or_false] at hf; rcases hf with rfl | rfl | rfl | rfl | rfl | rfl <;> simp, ap_tg hqb hcb htg hap ⟨hya.1, Or.inr hya.2⟩ f hf⟩) (fun i hi e => hapt i hi e) fun aa S => ?_
  have S := S.add (rfBl tg ((tch (k + 1) (l.take i)).set (l.getD i 0 % (k + 1)) true)) he hapt
  rw [← tch_succ (k + 1) l i hi] at S
  refine sy_run ⟨0, [16]⟩ 60 S fun bs aa w S => ?_
  refine sy_reg S fun S => ?_
  refine sy_ops 2 S fun bs aa w S => ?_
  refine sy_cast 73 S (congrArg (Value.int .i64) (by rw [IntKind.wrap_i64]; omega : IntKind.i64.wrap ((i : Int) + 1) = ((i + 1 : Nat) : Int))) (by kernel_rfl) fun S => ?_
  refine sy_run ⟨0, [999]⟩ 50 S fun bs aa w S => ?_
  have S := S.sub (F' := [rfBy qb qo l, rfIn cb co cs, rfSt d.b d.o d.S, rfSt y.b y.o y.S, rfWs y.c y.p y.W, rfBl tg (tch (k + 1) (l.take (i + 1))), rfIn zg 0 (List.replicate l.length (0 : Int))]) (by intro f hf; simp only [List.mem_cons, List.not_mem_nil, or_false] at hf; rcases hf with rfl | rfl | rfl | rfl | rfl | rfl | rfl <;> simp)
  have S2 := S.to [0, 1, 2] (ks1S k l qa qc cs ca cc tg zg d y (i + 1)) (by kernel_rfl) (by kernel_rfl) (by kernel_rfl) (by kernel_rfl) (by kernel_rfl)
  refine sy_at2 (k' := (.rnd (m) (bodyL ks1) :: ks1.k.tail)) (by kernel_rfl) ?_
  refine ih y ⟨hy, hys.trans hx.sl, hytc, ?_, ?_, ⟨hya.1, Or.inr hya.2⟩⟩ _ _ _ aa w S2
  · obtain ⟨D, hD⟩ := hx.eq
    refine ⟨D ++ [((((l.getD i 0 % (k + 1)) : Nat) : Int), (fullS ((l.getD i 0 : Nat) : Int)))], ?_⟩
    rw [mput_succ (k + 1) d.S l i hi, hD, hyS, hyW]
    rfl
  · rw [← hy.hW, hyW, List.length_append, hx.ok.hW]; have := hx.tl; simpa using this
set_option maxHeartbeats 8000000 in
theorem ks_1 (w0 : World) (k : Nat) (hk : k < 6) (l : List Nat) (hlL : l.length ≤ 30) (h256 : ∀ i, i < l.length → l.getD i 0 < 256) (qa : Option Addr) (qc qb qo : Nat) (hq : l.length = 0 ∨ qa = some ⟨qb, qo, none⟩) (hqb : l.length = 0 ∨ qb < w0.heap.size) (cs : List Int) (hcl : cs.length ≤ 40) (ca : Option Addr) (cc cb co : Nat) (hca : cs.length = 0 ∨ ca = some ⟨cb, co, none⟩) (hcb : cs.length = 0 ∨ cb < w0.heap.size) (d : Dk) (hd : d.ok) (hsl : d.sl = k + 1) (hS0 : All32 d.S) (tg zg : Nat) (htg : w0.heap.size ≤ tg) (hap : d.b ≠ tg ∧ zg ≠ tg) (m i : Nat) (hi : i < l.length) (ih : ∀ (x : Dk) (hx : KI w0 k d.S l (i + 1) x tg) (x0 x1 x2 : Nat) (aa : Act) (w : World) (S : Sy w0 [] [x0, x1, x2] (ks1S k l qa qc cs ca cc tg zg d x (i + 1)) [rfBy qb qo l, rfIn cb co cs, rfSt d.b d.o d.S, rfSt x.b x.o x.S, rfWs x.c x.p x.W, rfBl tg (tch (k + 1) (l.take (i + 1))), rfIn zg 0 (List.replicate l.length (0 : Int))] aa w), post Try.prog (.rnd (m) (bodyL ks1) :: ks1.k.tail) (bodyPost Try.prog Try.f5 fun e w' => e = .returned (.bool true) ∧ Below w0.heap.size w0 w') .normal aa w) (x : Dk) (hx : KI w0 k d.S l (i) x tg) (x0 x1 x2 : Nat) (aa : Act) (w : World) (S : Sy w0 [] [x0, x1, x2] (ks1S k l qa qc cs ca cc tg zg d x (i)) [rfBy qb qo l, rfIn cb co cs, rfSt d.b d.o d.S, rfSt x.b x.o x.S, rfWs x.c x.p x.W, rfBl tg (tch (k + 1) (l.take (i))), rfIn zg 0 (List.replicate l.length (0 : Int))] aa w) : post Try.prog (.rnd (m + 1) (bodyL ks1) :: ks1.k.tail) (bodyPost Try.prog Try.f5 fun e w' => e = .returned (.bool true) ∧ Below w0.heap.size w0 w') .normal aa w := by
  have hq0 := hq
  obtain rfl := hq.resolve_left (by omega)
  refine sy_run (c := ⟨(.rnd (m + 1) (bodyL ks1) :: ks1.k.tail), ks1S k l (some ⟨qb, qo, none⟩) qc cs ca cc tg zg d x i⟩) ⟨0, [15]⟩ 50 S fun bs aa w S => ?_
  refine sy_reg S fun S => ?_
  refine sy_ops 4 S fun bs aa w S => ?_
  refine sy_cast 71 S (congrArg Value.bool (decide_eq_true (by omega) : decide ((i : Int) < (l.length : Int)) = true)) (by kernel_rfl) fun S => ?_
  refine sy_run ⟨0, [17]⟩ 60 S fun bs aa w S => ?_
  refine sy_reg S fun S => ?_
  refine sy_ops 2 S fun bs aa w S => ?_
  refine sy_ix (b := qb) (off := qo) (len := l.length) (n := i) (size := 1) (i := (i : Int)) S (by kernel_rfl) rfl hi fun aa S => ?_
  refine sy_ldo S (ld_at (ty := 5) (b := qb) (off := qo + i * 1) (by kernel_rfl) (by rw [Nat.mul_one]; exact S.fact (f := rfBy qb qo l) (by simp) i hi)) (by kernel_rfl) fun aa S => ?_
  refine sy_ops 3 S fun bs aa w S => ?_
  refine sy_cast 80 S (congrArg (Value.int .i64) (wt_rem (l.getD i 0) k (h256 i hi))) (by kernel_rfl) fun S => ?_
  refine sy_run ⟨0, []⟩ 60 S fun bs aa w S => ?_
  letI : HF := ⟨[rfBy qb qo l]⟩
  refine dr_enter [2] (by kernel_rfl) (by kernel_rfl) S (by kernel_rfl) (fun aa w D => ?_) (fun f hf => by have e : f = rfBy qb qo l := List.mem_singleton.1 hf; subst e; simp)
  refine dr_tix 4 D (by kernel_rfl) (by kernel_rfl) (by kernel_rfl) (b := qb) (off := qo) (len := l.length) (n := i) (size := 1) (ix := (i : Int)) (by kernel_rfl) rfl hi fun aa D => ?_
  refine dr_tld 5 D (by kernel_rfl) (by kernel_rfl) (by kernel_rfl) (ty := 5) (ad := ⟨qb, qo + i * 1, none⟩) (v := .int .u8 ((l.getD i 0 : Nat) : Int)) (fun W hW => ld_at (by kernel_rfl) (by rw [Nat.mul_one]; exact (show ByAt W qb qo l from hW _ (List.mem_singleton.2 rfl)) i hi)) (by kernel_rfl) fun aa D => ?_
  refine dr_any [6, 11] (by kernel_rfl) (by kernel_rfl) rfl (na2 ?_ ?_)
  · refine nx_call1 6 D (by kernel_rfl) (full_any ((l.getD i 0 : Nat) : Int) w) (by kernel_rfl) fun aa w D => ?_
    refine dr_any [7, 11] (by kernel_rfl) (by kernel_rfl) rfl (na2 ?_ ?_)
    · refine have hlt := fun j hj => D.S.lt (i := j) hj; have htgl := (rfBl tg (tch (k + 1) (l.take i))).lt w (D.S.fact (f := rfBl tg (tch (k + 1) (l.take i))) (by simp)) tg rfl; nx_call 7 D (by kernel_rfl) (X := Dk) (val := fun d' => .tuple #[d'.v, .int .i64 0]) (C := (fun d' w' => d'.ok ∧ d'.sl = x.sl ∧ d'.S = x.S.set (l.getD i 0 % (k + 1)) (fullS ((l.getD i 0 : Nat) : Int)) ∧ d'.W = x.W ++ [((((l.getD i 0 % (k + 1)) : Nat) : Int), x.S.getD (l.getD i 0 % (k + 1)) ByteArray.empty)] ∧ d'.tc ≤ 9223372036854775807 ∧ (w.heap.size ≤ d'.b ∧ w.heap.size ≤ d'.c) ∧ StrAt w' d'.b d'.o d'.S ∧ WasAt w' d'.c d'.p d'.W)) (f := 17) (args := #[x.v, .int .i64 (((l.getD i 0 % (k + 1)) : Nat) : Int), .string (fullS ((l.getD i 0 : Nat) : Int))]) ((write_t w x hx.ok (l.getD i 0 % (k + 1)) (by rw [hx.sl]; exact Nat.mod_lt _ (Nat.succ_pos _)) (fullS ((l.getD i 0 : Nat) : Int)) (full_size _) hx.tc (by have := hx.tl; omega) (D.S.fact (f := rfSt x.b x.o x.S) (by simp)) (D.S.fact (f := rfWs x.c x.p x.W) (by simp))).mono fun e w' ⟨d', q1, q2, q3, q4, q5, q6, q7, q8, q9, q10⟩ => ⟨d', q1, ⟨q2, q3, q4, q5, q6, q7, q8, q9⟩, q10⟩) (by kernel_rfl) fun y aa w2 hC hb2 D => have D := (D.addF (rfSt y.b y.o y.S) hC.2.2.2.2.2.2.1 (fun j hj hb => by have h1 := hlt j hj; have h2 := hC.2.2.2.2.2.1.1; obtain ⟨h3, _⟩ := hb; omega)).addF (rfWs y.c y.p y.W) hC.2.2.2.2.2.2.2 (fun j hj hb => by have h1 := hlt j hj; have h2 := hC.2.2.2.2.2.1.2; obtain ⟨h3, _⟩ := hb; omega); ?_
      refine dr_any [11] (by kernel_rfl) (by kernel_rfl) rfl (na1 ?_)
      · refine nx_op 11 D (by kernel_rfl) (Nat.le_refl _) (by kernel_rfl) (by kernel_rfl) fun bs aa w D hl => ?_
        refine dr_any [12] (by kernel_rfl) (by kernel_rfl) rfl (na1 ?_)
        · refine nx_op 12 D (by kernel_rfl) hl (by kernel_rfl) (by kernel_rfl) fun bs aa w D hl => ?_
          refine dr_end D (by kernel_rfl) fun S => ?_
          obtain ⟨q2, q3, q4, q5, q6, q7, _, _⟩ := hC
          have S := S.sub (F' := [rfBy qb qo l, rfIn cb co cs, rfSt d.b d.o d.S, rfSt y.b y.o y.S, rfWs y.c y.p y.W, rfBl tg (tch (k + 1) (l.take i)), rfIn zg 0 (List.replicate l.length (0 : Int))]) (by intro f hf; simp only [List.mem_cons, List.not_mem_nil, or_false] at hf; rcases hf with rfl | rfl | rfl | rfl | rfl | rfl | rfl <;> simp)
          have S2 := S.to [0, 1, 2, 3] (ksmS k l (some ⟨qb, qo, none⟩) qc cs ca cc tg zg d x y i (l.getD i 0 % (k + 1))) (by kernel_rfl) (by kernel_rfl) (by kernel_rfl) (by kernel_rfl) (by kernel_rfl)
          refine sy_at2 (k' := ksm m) (by kernel_rfl) ?_
          exact ks_2 w0 k hk l hlL h256 _ qc qb qo hq hqb cs hcl ca cc cb co hca hcb d hd hsl hS0 tg zg htg hap m i hi ih x y hx q2 q3 q4 q5 q6 ⟨by omega, by omega⟩ _ _ _ _ aa w S2
    · refine nx_op 11 D (by kernel_rfl) (Nat.le_refl _) (by kernel_rfl) (by kernel_rfl) fun bs aa w D hl => ?_
      refine dr_any [7] (by kernel_rfl) (by kernel_rfl) rfl (na1 ?_)
      · refine have hlt := fun j hj => D.S.lt (i := j) hj; have htgl := (rfBl tg (tch (k + 1) (l.take i))).lt w (D.S.fact (f := rfBl tg (tch (k + 1) (l.take i))) (by simp)) tg rfl; nx_call 7 D (by kernel_rfl) (X := Dk) (val := fun d' => .tuple #[d'.v, .int .i64 0]) (C := (fun d' w' => d'.ok ∧ d'.sl = x.sl ∧ d'.S = x.S.set (l.getD i 0 % (k + 1)) (fullS ((l.getD i 0 : Nat) : Int)) ∧ d'.W = x.W ++ [((((l.getD i 0 % (k + 1)) : Nat) : Int), x.S.getD (l.getD i 0 % (k + 1)) ByteArray.empty)] ∧ d'.tc ≤ 9223372036854775807 ∧ (w.heap.size ≤ d'.b ∧ w.heap.size ≤ d'.c) ∧ StrAt w' d'.b d'.o d'.S ∧ WasAt w' d'.c d'.p d'.W)) (f := 17) (args := #[x.v, .int .i64 (((l.getD i 0 % (k + 1)) : Nat) : Int), .string (fullS ((l.getD i 0 : Nat) : Int))]) ((write_t w x hx.ok (l.getD i 0 % (k + 1)) (by rw [hx.sl]; exact Nat.mod_lt _ (Nat.succ_pos _)) (fullS ((l.getD i 0 : Nat) : Int)) (full_size _) hx.tc (by have := hx.tl; omega) (D.S.fact (f := rfSt x.b x.o x.S) (by simp)) (D.S.fact (f := rfWs x.c x.p x.W) (by simp))).mono fun e w' ⟨d', q1, q2, q3, q4, q5, q6, q7, q8, q9, q10⟩ => ⟨d', q1, ⟨q2, q3, q4, q5, q6, q7, q8, q9⟩, q10⟩) (by kernel_rfl) fun y aa w2 hC hb2 D => have D := (D.addF (rfSt y.b y.o y.S) hC.2.2.2.2.2.2.1 (fun j hj hb => by have h1 := hlt j hj; have h2 := hC.2.2.2.2.2.1.1; obtain ⟨h3, _⟩ := hb; omega)).addF (rfWs y.c y.p y.W) hC.2.2.2.2.2.2.2 (fun j hj hb => by have h1 := hlt j hj; have h2 := hC.2.2.2.2.2.1.2; obtain ⟨h3, _⟩ := hb; omega); ?_
        refine dr_any [12] (by kernel_rfl) (by kernel_rfl) rfl (na1 ?_)
        · refine nx_op 12 D (by kernel_rfl) hl (by kernel_rfl) (by kernel_rfl) fun bs aa w D hl => ?_
          refine dr_end D (by kernel_rfl) fun S => ?_
          obtain ⟨q2, q3, q4, q5, q6, q7, _, _⟩ := hC
          have S := S.sub (F' := [rfBy qb qo l, rfIn cb co cs, rfSt d.b d.o d.S, rfSt y.b y.o y.S, rfWs y.c y.p y.W, rfBl tg (tch (k + 1) (l.take i)), rfIn zg 0 (List.replicate l.length (0 : Int))]) (by intro f hf; simp only [List.mem_cons, List.not_mem_nil, or_false] at hf; rcases hf with rfl | rfl | rfl | rfl | rfl | rfl | rfl <;> simp)
          have S2 := S.to [0, 1, 2, 3] (ksmS k l (some ⟨qb, qo, none⟩) qc cs ca cc tg zg d x y i (l.getD i 0 % (k + 1))) (by kernel_rfl) (by kernel_rfl) (by kernel_rfl) (by kernel_rfl) (by kernel_rfl)
          refine sy_at2 (k' := ksm m) (by kernel_rfl) ?_
          exact ks_2 w0 k hk l hlL h256 _ qc qb qo hq hqb cs hcl ca cc cb co hca hcb d hd hsl hS0 tg zg htg hap m i hi ih x y hx q2 q3 q4 q5 q6 ⟨by omega, by omega⟩ _ _ _ _ aa w S2
  · refine nx_op 11 D (by kernel_rfl) (Nat.le_refl _) (by kernel_rfl) (by kernel_rfl) fun bs aa w D hl => ?_
    refine dr_any [6] (by kernel_rfl) (by kernel_rfl) rfl (na1 ?_)
    · refine nx_call1 6 D (by kernel_rfl) (full_any ((l.getD i 0 : Nat) : Int) w) (by kernel_rfl) fun aa w D => ?_
      refine dr_any [7] (by kernel_rfl) (by kernel_rfl) rfl (na1 ?_)
      · refine have hlt := fun j hj => D.S.lt (i := j) hj; have htgl := (rfBl tg (tch (k + 1) (l.take i))).lt w (D.S.fact (f := rfBl tg (tch (k + 1) (l.take i))) (by simp)) tg rfl; nx_call 7 D (by kernel_rfl) (X := Dk) (val := fun d' => .tuple #[d'.v, .int .i64 0]) (C := (fun d' w' => d'.ok ∧ d'.sl = x.sl ∧ d'.S = x.S.set (l.getD i 0 % (k + 1)) (fullS ((l.getD i 0 : Nat) : Int)) ∧ d'.W = x.W ++ [((((l.getD i 0 % (k + 1)) : Nat) : Int), x.S.getD (l.getD i 0 % (k + 1)) ByteArray.empty)] ∧ d'.tc ≤ 9223372036854775807 ∧ (w.heap.size ≤ d'.b ∧ w.heap.size ≤ d'.c) ∧ StrAt w' d'.b d'.o d'.S ∧ WasAt w' d'.c d'.p d'.W)) (f := 17) (args := #[x.v, .int .i64 (((l.getD i 0 % (k + 1)) : Nat) : Int), .string (fullS ((l.getD i 0 : Nat) : Int))]) ((write_t w x hx.ok (l.getD i 0 % (k + 1)) (by rw [hx.sl]; exact Nat.mod_lt _ (Nat.succ_pos _)) (fullS ((l.getD i 0 : Nat) : Int)) (full_size _) hx.tc (by have := hx.tl; omega) (D.S.fact (f := rfSt x.b x.o x.S) (by simp)) (D.S.fact (f := rfWs x.c x.p x.W) (by simp))).mono fun e w' ⟨d', q1, q2, q3, q4, q5, q6, q7, q8, q9, q10⟩ => ⟨d', q1, ⟨q2, q3, q4, q5, q6, q7, q8, q9⟩, q10⟩) (by kernel_rfl) fun y aa w2 hC hb2 D => have D := (D.addF (rfSt y.b y.o y.S) hC.2.2.2.2.2.2.1 (fun j hj hb => by have h1 := hlt j hj; have h2 := hC.2.2.2.2.2.1.1; obtain ⟨h3, _⟩ := hb; omega)).addF (rfWs y.c y.p y.W) hC.2.2.2.2.2.2.2 (fun j hj hb => by have h1 := hlt j hj; have h2 := hC.2.2.2.2.2.1.2; obtain ⟨h3, _⟩ := hb; omega); ?_
        refine dr_any [12] (by kernel_rfl) (by kernel_rfl) rfl (na1 ?_)
        · refine nx_op 12 D (by kernel_rfl) hl (by kernel_rfl) (by kernel_rfl) fun bs aa w D hl => ?_
          refine dr_end D (by kernel_rfl) fun S => ?_
          obtain ⟨q2, q3, q4, q5, q6, q7, _, _⟩ := hC
          have S := S.sub (F' := [rfBy qb qo l, rfIn cb co cs, rfSt d.b d.o d.S, rfSt y.b y.o y.S, rfWs y.c y.p y.W, rfBl tg (tch (k + 1) (l.take i)), rfIn zg 0 (List.replicate l.length (0 : Int))]) (by intro f hf; simp only [List.mem_cons, List.not_mem_nil, or_false] at hf; rcases hf with rfl | rfl | rfl | rfl | rfl | rfl | rfl <;> simp)
          have S2 := S.to [0, 1, 2, 3] (ksmS k l (some ⟨qb, qo, none⟩) qc cs ca cc tg zg d x y i (l.getD i 0 % (k + 1))) (by kernel_rfl) (by kernel_rfl) (by kernel_rfl) (by kernel_rfl) (by kernel_rfl)
          refine sy_at2 (k' := ksm m) (by kernel_rfl) ?_
          exact ks_2 w0 k hk l hlL h256 _ qc qb qo hq hqb cs hcl ca cc cb co hca hcb d hd hsl hS0 tg zg htg hap m i hi ih x y hx q2 q3 q4 q5 q6 ⟨by omega, by omega⟩ _ _ _ _ aa w S2
theorem ks_keeps (w0 : World) (k : Nat) (hk : k < 6) (l : List Nat) (hlL : l.length ≤ 30) (h256 : ∀ i, i < l.length → l.getD i 0 < 256) (qa : Option Addr) (qc qb qo : Nat) (hq : l.length = 0 ∨ qa = some ⟨qb, qo, none⟩) (hqb : l.length = 0 ∨ qb < w0.heap.size) (cs : List Int) (hcl : cs.length ≤ 40) (ca : Option Addr) (cc cb co : Nat) (hca : cs.length = 0 ∨ ca = some ⟨cb, co, none⟩) (hcb : cs.length = 0 ∨ cb < w0.heap.size) (d : Dk) (hd : d.ok) (hsl : d.sl = k + 1) (hS0 : All32 d.S) (tg zg : Nat) (htg : w0.heap.size ≤ tg) (hap : d.b ≠ tg ∧ zg ≠ tg) (x : Dk) (hx : KI w0 k d.S l l.length x tg) : Keeps (k + 1) d.S l x := by
  obtain ⟨D, he⟩ := hx.eq
  rw [List.take_length] at he
  exact keeps (k + 1) (Nat.succ_pos _) d.S (by rw [hd.hS, hsl]) l x hx.ok (hx.right (by rw [hd.hS, hsl]) hS0) hx.sl D he
set_option maxHeartbeats 8000000 in
theorem k2_step (w0 : World) (k : Nat) (hk : k < 6) (l : List Nat) (hlL : l.length ≤ 30) (h256 : ∀ i, i < l.length → l.getD i 0 < 256) (qa : Option Addr) (qc qb qo : Nat) (hq : l.length = 0 ∨ qa = some ⟨qb, qo, none⟩) (hqb : l.length = 0 ∨ qb < w0.heap.size) (cs : List Int) (hcl : cs.length ≤ 40) (ca : Option Addr) (cc cb co : Nat) (hca : cs.length = 0 ∨ ca = some ⟨cb, co, none⟩) (hcb : cs.length = 0 ∨ cb < w0.heap.size) (d : Dk) (hd : d.ok) (hsl : d.sl = k + 1) (hS0 : All32 d.S) (tg zg : Nat) (htg : w0.heap.size ≤ tg) (hap : d.b ≠ tg ∧ zg ≠ tg) (x : Dk) (hx : KI w0 k d.S l l.length x tg) (c : Dk) (hc : c.ok) (hcs : c.sl = k + 1) (hct : c.tl = 0) (hcS : c.S = crS x cs) (m a : Nat) (ha : a < k + 1) (ih : ∀ (x0 x1 x2 x3 : Nat) (aa : Act) (w : World) (S : Sy w0 [] [x0, x1, x2, x3] (ks2S k l qa qc cs ca cc tg zg d x c (a + 1)) [rfIn cb co cs, rfSt d.b d.o d.S, rfSt x.b x.o x.S, rfWs x.c x.p x.W, rfBl tg (tch (k + 1) l), rfIn zg 0 (List.replicate l.length (0 : Int)), rfSt c.b c.o c.S] aa w), post Try.prog (.rnd (m) (bodyL ks2) :: ks2.k.tail) (bodyPost Try.prog Try.f5 fun e w' => e = .returned (.bool true) ∧ Below w0.heap.size w0 w') .normal aa w) (x0 x1 x2 x3 : Nat) (aa : Act) (w : World) (S : Sy w0 [] [x0, x1, x2, x3] (ks2S k l qa qc cs ca cc tg zg d x c (a)) [rfIn cb co cs, rfSt d.b d.o d.S, rfSt x.b x.o x.S, rfWs x.c x.p x.W, rfBl tg (tch (k + 1) l), rfIn zg 0 (List.replicate l.length (0 : Int)), rfSt c.b c.o c.S] aa w) : post Try.prog (.rnd (m + 1) (bodyL ks2) :: ks2.k.tail) (bodyPost Try.prog Try.f5 fun e w' => e = .returned (.bool true) ∧ Below w0.heap.size w0 w') .normal aa w := by
  have hTl : (tch (k + 1) l).length = k + 1 := by unfold tch; rw [tch_len, List.length_replicate]
  refine sy_run (c := ⟨(.rnd (m + 1) (bodyL ks2) :: ks2.k.tail), ks2S k l qa qc cs ca cc tg zg d x c a⟩) ⟨0, [25]⟩ 50 S fun bs aa w S => ?_
  refine sy_reg S fun S => ?_
  refine sy_ops 3 S fun bs aa w S => ?_
  refine sy_cast 103 S (congrArg Value.bool (decide_eq_true (by omega) : decide ((a : Int) < ((k + 1 : Nat) : Int)) = true)) (by kernel_rfl) fun S => ?_
  refine sy_run ⟨0, [27]⟩ 60 S fun bs aa w S => ?_
  refine sy_reg S fun S => ?_
  refine sy_ops 2 S fun bs aa w S => ?_
  refine sy_call1 S (read_t c hc a (by omega) w (S.fact (f := rfSt c.b c.o c.S) (by simp))) (by kernel_rfl) fun aa w hb S => ?_
  refine sy_run ⟨0, [28]⟩ 60 S fun bs aa w S => ?_
  refine sy_reg S fun S => ?_
  refine sy_ops 2 S fun bs aa w S => ?_
  refine sy_call1 S (read_t d hd a (by omega) w (S.fact (f := rfSt d.b d.o d.S) (by simp))) (by kernel_rfl) fun aa w hb S => ?_
  refine sy_run ⟨0, [29]⟩ 60 S fun bs aa w S => ?_
  refine sy_reg S fun S => ?_
  refine sy_ops 9 S fun bs aa w S => ?_
  refine sy_ix (b := tg) (off := 0) (len := k + 1) (n := a) (size := 1) (i := (a : Int)) S (by kernel_rfl) rfl ha fun aa S => ?_
  cases hT : (tch (k + 1) l).getD a false with
  | true =>
    refine sy_ldo S (ld_at (ty := 4) (b := tg) (off := 0 + a * 1) (by kernel_rfl) ((bl_at (S.fact (f := rfBl tg (tch (k + 1) l)) (by simp)) a (by rw [hTl]; exact ha)).trans (by rw [hT]))) (by kernel_rfl) fun aa S => ?_
    refine sy_run ⟨0, [26]⟩ 60 S fun bs aa w S => ?_
    refine sy_reg S fun S => ?_
    refine sy_ops 2 S fun bs aa w S => ?_
    refine sy_cast 105 S (congrArg (Value.int .i64) (by rw [IntKind.wrap_i64]; omega : IntKind.i64.wrap ((a : Int) + 1) = ((a + 1 : Nat) : Int))) (by kernel_rfl) fun S => ?_
    refine sy_run ⟨0, [999]⟩ 50 S fun bs aa w S => ?_
    have S2 := S.to [0, 1, 2, 3] (ks2S k l qa qc cs ca cc tg zg d x c (a + 1)) (by kernel_rfl) (by kernel_rfl) (by kernel_rfl) (by kernel_rfl) (by kernel_rfl)
    refine sy_at2 (k' := (.rnd (m) (bodyL ks2) :: ks2.k.tail)) (by kernel_rfl) ?_
    exact ih _ _ _ _ aa w S2
  | false =>
    have he : (c.S.getD a ByteArray.empty) = (d.S.getD a ByteArray.empty) := by
      rw [hcS]
      refine (ks_keeps w0 k hk l hlL h256 qa qc qb qo hq hqb cs hcl ca cc cb co hca hcb d hd hsl hS0 tg zg htg hap x hx).un cs a ha fun j hj => ?_
      exact (tch_f (k + 1) a l _ (by simpa using ha) hT).2 _ (getD_mem _ _ _ hj)
    refine sy_ldo S (ld_at (ty := 4) (b := tg) (off := 0 + a * 1) (by kernel_rfl) ((bl_at (S.fact (f := rfBl tg (tch (k + 1) l)) (by simp)) a (by rw [hTl]; exact ha)).trans (by rw [hT]))) (by kernel_rfl) fun aa S => ?_
    refine sy_ops 5 S fun bs aa w S => ?_
    refine sy_cast 133 S (congrArg Value.bool (by rw [he]; simp : (!((c.S.getD a ByteArray.empty).toList == (d.S.getD a ByteArray.empty).toList)) = false)) (by kernel_rfl) fun S => ?_
    refine sy_run ⟨0, [26]⟩ 60 S fun bs aa w S => ?_
    refine sy_reg S fun S => ?_
    refine sy_ops 2 S fun bs aa w S => ?_
    refine sy_cast 105 S (congrArg (Value.int .i64) (by rw [IntKind.wrap_i64]; omega : IntKind.i64.wrap ((a : Int) + 1) = ((a + 1 : Nat) : Int))) (by kernel_rfl) fun S => ?_
    refine sy_run ⟨0, [999]⟩ 50 S fun bs aa w S => ?_
    have S2 := S.to [0, 1, 2, 3] (ks2S k l qa qc cs ca cc tg zg d x c (a + 1)) (by kernel_rfl) (by kernel_rfl) (by kernel_rfl) (by kernel_rfl) (by kernel_rfl)
    refine sy_at2 (k' := (.rnd (m) (bodyL ks2) :: ks2.k.tail)) (by kernel_rfl) ?_
    exact ih _ _ _ _ aa w S2
set_option maxHeartbeats 8000000 in
theorem k2_end (w0 : World) (k : Nat) (hk : k < 6) (l : List Nat) (hlL : l.length ≤ 30) (h256 : ∀ i, i < l.length → l.getD i 0 < 256) (qa : Option Addr) (qc qb qo : Nat) (hq : l.length = 0 ∨ qa = some ⟨qb, qo, none⟩) (hqb : l.length = 0 ∨ qb < w0.heap.size) (cs : List Int) (hcl : cs.length ≤ 40) (ca : Option Addr) (cc cb co : Nat) (hca : cs.length = 0 ∨ ca = some ⟨cb, co, none⟩) (hcb : cs.length = 0 ∨ cb < w0.heap.size) (d : Dk) (hd : d.ok) (hsl : d.sl = k + 1) (hS0 : All32 d.S) (tg zg : Nat) (htg : w0.heap.size ≤ tg) (hap : d.b ≠ tg ∧ zg ≠ tg) (x : Dk) (hx : KI w0 k d.S l l.length x tg) (c : Dk) (hc : c.ok) (hcs : c.sl = k + 1) (hct : c.tl = 0) (hcS : c.S = crS x cs) (m : Nat) (x0 x1 x2 x3 : Nat) (aa : Act) (w : World) (S : Sy w0 [] [x0, x1, x2, x3] (ks2S k l qa qc cs ca cc tg zg d x c (k + 1)) [rfIn cb co cs, rfSt d.b d.o d.S, rfSt x.b x.o x.S, rfWs x.c x.p x.W, rfBl tg (tch (k + 1) l), rfIn zg 0 (List.replicate l.length (0 : Int)), rfSt c.b c.o c.S] aa w) : post Try.prog (.rnd (m + 1) (bodyL ks2) :: ks2.k.tail) (bodyPost Try.prog Try.f5 fun e w' => e = .returned (.bool true) ∧ Below w0.heap.size w0 w') .normal aa w := by
  have hK := ks_keeps w0 k hk l hlL h256 qa qc qb qo hq hqb cs hcl ca cc cb co hca hcb d hd hsl hS0 tg zg htg hap x hx
  have hrx : x.right := hx.right (by rw [hd.hS, hsl]) hS0
  have hrc : c.right := ⟨fun j hj => by rw [hcS]; exact (crS_inv x hx.ok hrx cs).2 j (by rw [(crS_inv x hx.ok hrx cs).1, hx.sl]; omega), fun j hj => absurd hj (by omega)⟩
  have hxs := hx.sl
  have hcw : c.W = [] := List.eq_nil_of_length_eq_zero (by rw [hc.hW]; exact hct)
  refine sy_run (c := ⟨(.rnd (m + 1) (bodyL ks2) :: ks2.k.tail), ks2S k l qa qc cs ca cc tg zg d x c (k + 1)⟩) ⟨0, [25]⟩ 50 S fun bs aa w S => ?_
  refine sy_reg S fun S => ?_
  refine sy_ops 3 S fun bs aa w S => ?_
  refine sy_cast 103 S (congrArg Value.bool (decide_eq_false (by omega) : decide (((k + 1 : Nat) : Int) < ((k + 1 : Nat) : Int)) = false)) (by kernel_rfl) fun S => ?_
  refine sy_run ⟨0, []⟩ 60 S fun bs aa w S => ?_
  refine dr_enter [0, 1, 2, 3] (by kernel_rfl) (by kernel_rfl) S (by kernel_rfl) (fun aa w D => ?_)
  have hlt7 := fun j hj => D.S.lt (i := j) hj
  refine dr_call 7 D (by kernel_rfl) (by kernel_rfl) (by kernel_rfl) (X := Nat × Nat) (val := fun q => .agg #[.slice (some ⟨q.1, 0, none⟩) x.sl q.2, .slice none 0 0]) (C := fun q w' => w.heap.size ≤ q.1 ∧ (rfRow q.1 (crS x (List.replicate l.length (0 : Int)))).P w') (f := 21) (args := #[x.v, .slice (some ⟨zg, 0, none⟩) l.length l.length]) (by
    have hz := crash_t w x hx.ok hrx (by omega) (hx.ok.hw2.elim (fun h => by omega) (fun h => h.2.2)) (some ⟨zg, 0, none⟩) l.length zg 0 (List.replicate l.length (0 : Int)) (Or.inr rfl) (D.S.fact (f := rfSt x.b x.o x.S) (by simp)) (D.S.fact (f := rfWs x.c x.p x.W) (by simp)) (D.S.fact (f := rfIn zg 0 (List.replicate l.length (0 : Int))) (by simp))
    rw [List.length_replicate] at hz
    exact hz.mono fun e w' ⟨g3, sc3, q1, q2, q3, q4⟩ => ⟨(g3, sc3), q1, ⟨q2, q3⟩, q4⟩) (by kernel_rfl) fun q7 aa w hC7 hb D => ?_
  have D := D.addF (rfSt q7.1 0 (crS x (List.replicate l.length (0 : Int)))) (row_at hC7.2) (fun j hj hb => by have h1 := hlt7 j hj; obtain ⟨h2, _⟩ := hb; have h3 := hC7.1; omega)
  refine dr_call1 9 D (by kernel_rfl) (by kernel_rfl) (by kernel_rfl) (f := 14) (args := #[(⟨some ⟨q7.1, 0, none⟩, x.sl, q7.2, none, 0, 0, q7.1, 0, 0, 0, crS x (List.replicate l.length (0 : Int)), []⟩ : Dk).v, (syn d).v]) (same0_t w (⟨some ⟨q7.1, 0, none⟩, x.sl, q7.2, none, 0, 0, q7.1, 0, 0, 0, crS x (List.replicate l.length (0 : Int)), []⟩ : Dk) (syn d) ⟨(crS_inv x hx.ok hrx _).1, Or.inr rfl, rfl, Or.inl ⟨rfl, rfl, rfl⟩, hx.ok.l1, Nat.zero_le _⟩ (syn_ok hd) (hK.none (List.replicate l.length (0 : Int)) (fun j hj => by simp [cutOf, hj])) rfl rfl (D.S.fact (f := rfSt q7.1 0 (crS x (List.replicate l.length (0 : Int)))) (by simp)) (D.S.fact (f := rfSt d.b d.o d.S) (by simp))) (by kernel_rfl) fun aa w hb D => ?_
  have hlt13 := fun j hj => D.S.lt (i := j) hj
  refine dr_call 13 D (by kernel_rfl) (by kernel_rfl) (by kernel_rfl) (X := Nat × Nat) (val := fun q => .agg #[.slice (some ⟨q.1, 0, none⟩) x.sl q.2, .slice none 0 0]) (C := fun q w' => w.heap.size ≤ q.1 ∧ (rfRow q.1 (crS x ([] : List Int))).P w') (f := 21) (args := #[x.v, .slice none (([] : List Int)).length 0]) ((crash_t w x hx.ok hrx (by omega) (hx.ok.hw2.elim (fun h => by omega) (fun h => h.2.2)) none 0 0 0 ([] : List Int) (Or.inl rfl) (D.S.fact (f := rfSt x.b x.o x.S) (by simp)) (D.S.fact (f := rfWs x.c x.p x.W) (by simp)) (fun j hj => absurd hj (Nat.not_lt_zero _))).mono fun e w' ⟨g3, sc3, q1, q2, q3, q4⟩ => ⟨(g3, sc3), q1, ⟨q2, q3⟩, q4⟩) (by kernel_rfl) fun q13 aa w hC13 hb D => ?_
  have D := D.addF (rfSt q13.1 0 (crS x ([] : List Int))) (row_at hC13.2) (fun j hj hb => by have h1 := hlt13 j hj; obtain ⟨h2, _⟩ := hb; have h3 := hC13.1; omega)
  refine dr_call1 15 D (by kernel_rfl) (by kernel_rfl) (by kernel_rfl) (f := 19) (args := #[x.v]) (sync_t x w) (by kernel_rfl) fun aa w hb D => ?_
  refine dr_call1 16 D (by kernel_rfl) (by kernel_rfl) (by kernel_rfl) (f := 14) (args := #[(⟨some ⟨q13.1, 0, none⟩, x.sl, q13.2, none, 0, 0, q13.1, 0, 0, 0, crS x [], []⟩ : Dk).v, (syn x).v]) (same0_t w (⟨some ⟨q13.1, 0, none⟩, x.sl, q13.2, none, 0, 0, q13.1, 0, 0, 0, crS x [], []⟩ : Dk) (syn x) ⟨(crS_inv x hx.ok hrx _).1, Or.inr rfl, rfl, Or.inl ⟨rfl, rfl, rfl⟩, hx.ok.l1, Nat.zero_le _⟩ (syn_ok hx.ok) hK.all rfl rfl (D.S.fact (f := rfSt q13.1 0 (crS x [])) (by simp)) (D.S.fact (f := rfSt x.b x.o x.S) (by simp))) (by kernel_rfl) fun aa w hb D => ?_
  have hlt21 := fun j hj => D.S.lt (i := j) hj
  refine dr_call 21 D (by kernel_rfl) (by kernel_rfl) (by kernel_rfl) (X := Nat × Nat) (val := fun q => .agg #[.slice (some ⟨q.1, 0, none⟩) c.sl q.2, .slice none 0 0]) (C := fun q w' => w.heap.size ≤ q.1 ∧ (rfRow q.1 (crS c cs)).P w') (f := 21) (args := #[c.v, .slice ca (cs).length cc]) ((crash_t w c hc hrc (by omega) (hc.hw2.elim (fun h => by omega) (fun h => h.2.2)) ca cc cb co cs hca (D.S.fact (f := rfSt c.b c.o c.S) (by simp)) (by rw [hcw]; exact fun j hj => absurd hj (Nat.not_lt_zero _)) (D.S.fact (f := rfIn cb co cs) (by simp))).mono fun e w' ⟨g3, sc3, q1, q2, q3, q4⟩ => ⟨(g3, sc3), q1, ⟨q2, q3⟩, q4⟩) (by kernel_rfl) fun q21 aa w hC21 hb D => ?_
  have D := D.addF (rfSt q21.1 0 (crS c cs)) (row_at hC21.2) (fun j hj hb => by have h1 := hlt21 j hj; obtain ⟨h2, _⟩ := hb; have h3 := hC21.1; omega)
  refine dr_call1 23 D (by kernel_rfl) (by kernel_rfl) (by kernel_rfl) (f := 14) (args := #[(⟨some ⟨q21.1, 0, none⟩, c.sl, q21.2, none, 0, 0, q21.1, 0, 0, 0, crS c cs, []⟩ : Dk).v, c.v]) (same0_t w (⟨some ⟨q21.1, 0, none⟩, c.sl, q21.2, none, 0, 0, q21.1, 0, 0, 0, crS c cs, []⟩ : Dk) c ⟨(crS_inv c hc hrc _).1, Or.inr rfl, rfl, Or.inl ⟨rfl, rfl, rfl⟩, hc.l1, Nat.zero_le _⟩ hc (crS_synced c hct cs) rfl hct (D.S.fact (f := rfSt q21.1 0 (crS c cs)) (by simp)) (D.S.fact (f := rfSt c.b c.o c.S) (by simp))) (by kernel_rfl) fun aa w hb D => ?_
  refine dr_end D (by kernel_rfl) fun S => ?_
  refine sy_run ⟨0, []⟩ 60 S fun bs aa w S => ?_
  exact sy_ret S (by kernel_rfl) (by kernel_rfl) fun hg => ⟨rfl, bel_gr hg⟩
theorem k2_all (w0 : World) (k : Nat) (hk : k < 6) (l : List Nat) (hlL : l.length ≤ 30) (h256 : ∀ i, i < l.length → l.getD i 0 < 256) (qa : Option Addr) (qc qb qo : Nat) (hq : l.length = 0 ∨ qa = some ⟨qb, qo, none⟩) (hqb : l.length = 0 ∨ qb < w0.heap.size) (cs : List Int) (hcl : cs.length ≤ 40) (ca : Option Addr) (cc cb co : Nat) (hca : cs.length = 0 ∨ ca = some ⟨cb, co, none⟩) (hcb : cs.length = 0 ∨ cb < w0.heap.size) (d : Dk) (hd : d.ok) (hsl : d.sl = k + 1) (hS0 : All32 d.S) (tg zg : Nat) (htg : w0.heap.size ≤ tg) (hap : d.b ≠ tg ∧ zg ≠ tg) (x : Dk) (hx : KI w0 k d.S l l.length x tg) (c : Dk) (hc : c.ok) (hcs : c.sl = k + 1) (hct : c.tl = 0) (hcS : c.S = crS x cs) : ∀ (r a : Nat), a + r = k + 1 → ∀ (x0 x1 x2 x3 : Nat) (aa : Act) (w : World) (S : Sy w0 [] [x0, x1, x2, x3] (ks2S k l qa qc cs ca cc tg zg d x c (a)) [rfIn cb co cs, rfSt d.b d.o d.S, rfSt x.b x.o x.S, rfWs x.c x.p x.W, rfBl tg (tch (k + 1) l), rfIn zg 0 (List.replicate l.length (0 : Int)), rfSt c.b c.o c.S] aa w), post Try.prog (.rnd (r + 1) (bodyL ks2) :: ks2.k.tail) (bodyPost Try.prog Try.f5 fun e w' => e = .returned (.bool true) ∧ Below w0.heap.size w0 w') .normal aa w := by
  intro r
  induction r with
  | zero => intro a hi x0 x1 x2 x3 aa w S; obtain rfl : a = k + 1 := by omega
            exact k2_end w0 k hk l hlL h256 qa qc qb qo hq hqb cs hcl ca cc cb co hca hcb d hd hsl hS0 tg zg htg hap x hx c hc hcs hct hcS 0 x0 x1 x2 x3 aa w S
  | succ r ih => intro a hi x0 x1 x2 x3 aa w S; exact k2_step w0 k hk l hlL h256 qa qc qb qo hq hqb cs hcl ca cc cb co hca hcb d hd hsl hS0 tg zg htg hap x hx c hc hcs hct hcS (r + 1) a (by omega) (ih (a + 1) (by omega)) x0 x1 x2 x3 aa w S
set_option maxHeartbeats 8000000 in
theorem k1_end (w0 : World) (k : Nat) (hk : k < 6) (l : List Nat) (hlL : l.length ≤ 30) (h256 : ∀ i, i < l.length → l.getD i 0 < 256) (qa : Option Addr) (qc qb qo : Nat) (hq : l.length = 0 ∨ qa = some ⟨qb, qo, none⟩) (hqb : l.length = 0 ∨ qb < w0.heap.size) (cs : List Int) (hcl : cs.length ≤ 40) (ca : Option Addr) (cc cb co : Nat) (hca : cs.length = 0 ∨ ca = some ⟨cb, co, none⟩) (hcb : cs.length = 0 ∨ cb < w0.heap.size) (d : Dk) (hd : d.ok) (hsl : d.sl = k + 1) (hS0 : All32 d.S) (tg zg : Nat) (htg : w0.heap.size ≤ tg) (hap : d.b ≠ tg ∧ zg ≠ tg) (m : Nat) (x : Dk) (hx : KI w0 k d.S l (l.length) x tg) (x0 x1 x2 : Nat) (aa : Act) (w : World) (S : Sy w0 [] [x0, x1, x2] (ks1S k l qa qc cs ca cc tg zg d x (l.length)) [rfBy qb qo l, rfIn cb co cs, rfSt d.b d.o d.S, rfSt x.b x.o x.S, rfWs x.c x.p x.W, rfBl tg (tch (k + 1) (l.take (l.length))), rfIn zg 0 (List.replicate l.length (0 : Int))] aa w) : post Try.prog (.rnd (m + 1) (bodyL ks1) :: ks1.k.tail) (bodyPost Try.prog Try.f5 fun e w' => e = .returned (.bool true) ∧ Below w0.heap.size w0 w') .normal aa w := by
  have hrx : x.right := hx.right (by rw [hd.hS, hsl]) hS0
  have hxs := hx.sl
  refine sy_run (c := ⟨(.rnd (m + 1) (bodyL ks1) :: ks1.k.tail), ks1S k l qa qc cs ca cc tg zg d x l.length⟩) ⟨0, [15]⟩ 50 S fun bs aa w S => ?_
  refine sy_reg S fun S => ?_
  refine sy_ops 4 S fun bs aa w S => ?_
  refine sy_cast 71 S (congrArg Value.bool (decide_eq_false (by omega) : decide ((l.length : Int) < (l.length : Int)) = false)) (by kernel_rfl) fun S => ?_
  refine sy_run ⟨0, [23]⟩ 60 S fun bs aa w S => ?_
  refine sy_reg S fun S => ?_
  refine sy_ops 2 S fun bs aa w S => ?_
  have hlt := fun j hj => S.lt (i := j) hj
  refine sy_call S (X := Nat × Nat) (val := fun q => .agg #[.slice (some ⟨q.1, 0, none⟩) x.sl q.2, .slice none 0 0]) (C := fun q w' => w.heap.size ≤ q.1 ∧ (rfRow q.1 (crS x cs)).P w') ((crash_t w x hx.ok hrx (by omega) (hx.ok.hw2.elim (fun h => by omega) (fun h => h.2.2)) ca cc cb co cs hca (S.fact (f := rfSt x.b x.o x.S) (by simp)) (S.fact (f := rfWs x.c x.p x.W) (by simp)) (S.fact (f := rfIn cb co cs) (by simp))).mono fun e w' ⟨g3, sc3, q1, q2, q3, q4⟩ => ⟨(g3, sc3), q1, ⟨q2, q3⟩, q4⟩) (by kernel_rfl) fun q aa w2 hC hb S => ?_
  obtain ⟨g3, sc3⟩ := q
  obtain ⟨hC1, hC2⟩ := hC
  have S := S.add (rfSt g3 0 (crS x cs)) (row_at hC2) (fun j hj hb => by have q1 := hlt j hj; obtain ⟨q2, q3⟩ := hb; have q4 : w.heap.size ≤ g3 := hC1; omega)
  refine sy_run ⟨0, []⟩ 60 S fun bs aa w S => ?_
  rw [show l.take l.length = l from List.take_length] at S
  have S := S.sub (F' := [rfIn cb co cs, rfSt d.b d.o d.S, rfSt x.b x.o x.S, rfWs x.c x.p x.W, rfBl tg (tch (k + 1) l), rfIn zg 0 (List.replicate l.length (0 : Int)), rfSt g3 0 (crS x cs)]) (by intro f hf; simp only [List.mem_cons, List.not_mem_nil, or_false] at hf; rcases hf with rfl | rfl | rfl | rfl | rfl | rfl | rfl <;> simp)
  have S2 := S.to [0, 1, 2, 3] (ks2S k l qa qc cs ca cc tg zg d x (⟨some ⟨g3, 0, none⟩, x.sl, sc3, none, 0, 0, g3, 0, 0, 0, crS x cs, []⟩ : Dk) 0) (by kernel_rfl) (by kernel_rfl) (by kernel_rfl) (by kernel_rfl) (by kernel_rfl)
  refine sy_loop (k + 1 + 1) (by kernel_rfl) ?_
  refine sy_at2 (k' := (.rnd (k + 1 + 1) (bodyL ks2) :: ks2.k.tail)) (by kernel_rfl) ?_
  exact k2_all w0 k hk l hlL h256 qa qc qb qo hq hqb cs hcl ca cc cb co hca hcb d hd hsl hS0 tg zg htg hap x hx (⟨some ⟨g3, 0, none⟩, x.sl, sc3, none, 0, 0, g3, 0, 0, 0, crS x cs, []⟩ : Dk) ⟨(crS_inv x hx.ok hrx cs).1, Or.inr rfl, rfl, Or.inl ⟨rfl, rfl, rfl⟩, hx.ok.l1, Nat.zero_le _⟩ hxs rfl rfl (k + 1) 0 (by omega) _ _ _ _ aa w S2
theorem k1_all (w0 : World) (k : Nat) (hk : k < 6) (l : List Nat) (hlL : l.length ≤ 30) (h256 : ∀ i, i < l.length → l.getD i 0 < 256) (qa : Option Addr) (qc qb qo : Nat) (hq : l.length = 0 ∨ qa = some ⟨qb, qo, none⟩) (hqb : l.length = 0 ∨ qb < w0.heap.size) (cs : List Int) (hcl : cs.length ≤ 40) (ca : Option Addr) (cc cb co : Nat) (hca : cs.length = 0 ∨ ca = some ⟨cb, co, none⟩) (hcb : cs.length = 0 ∨ cb < w0.heap.size) (d : Dk) (hd : d.ok) (hsl : d.sl = k + 1) (hS0 : All32 d.S) (tg zg : Nat) (htg : w0.heap.size ≤ tg) (hap : d.b ≠ tg ∧ zg ≠ tg) : ∀ (r i : Nat), i + r = l.length → ∀ (x : Dk) (hx : KI w0 k d.S l (i) x tg) (x0 x1 x2 : Nat) (aa : Act) (w : World) (S : Sy w0 [] [x0, x1, x2] (ks1S k l qa qc cs ca cc tg zg d x (i)) [rfBy qb qo l, rfIn cb co cs, rfSt d.b d.o d.S, rfSt x.b x.o x.S, rfWs x.c x.p x.W, rfBl tg (tch (k + 1) (l.take (i))), rfIn zg 0 (List.replicate l.length (0 : Int))] aa w), post Try.prog (.rnd (r + 1) (bodyL ks1) :: ks1.k.tail) (bodyPost Try.prog Try.f5 fun e w' => e = .returned (.bool true) ∧ Below w0.heap.size w0 w') .normal aa w := by
  intro r
  induction r with
  | zero => intro i hi x hx x0 x1 x2 aa w S; obtain rfl : i = l.length := by omega
            exact k1_end w0 k hk l hlL h256 qa qc qb qo hq hqb cs hcl ca cc cb co hca hcb d hd hsl hS0 tg zg htg hap 0 x hx x0 x1 x2 aa w S
  | succ r ih => intro i hi x hx x0 x1 x2 aa w S; exact ks_1 w0 k hk l hlL h256 qa qc qb qo hq hqb cs hcl ca cc cb co hca hcb d hd hsl hS0 tg zg htg hap (r + 1) i (by omega) (ih (i + 1) (by omega)) x hx x0 x1 x2 aa w S
set_option maxHeartbeats 8000000 in
theorem keeps_all (w0 : World) (m : Int) (hm : 0 ≤ m ∧ m ≤ 255) (l0 : List Nat) (h0 : ∀ i, i < l0.length → l0.getD i 0 < 256) (pa : Option Addr) (lc lb lo : Nat) (hp : l0.length = 0 ∨ pa = some ⟨lb, lo, none⟩) (hL0 : ByAt w0 lb lo l0) (l : List Nat) (h256 : ∀ i, i < l.length → l.getD i 0 < 256) (qa : Option Addr) (qc qb qo : Nat) (hq : l.length = 0 ∨ qa = some ⟨qb, qo, none⟩) (hL : ByAt w0 qb qo l) (cs : List Int) (ca : Option Addr) (cc cb co : Nat) (hca : cs.length = 0 ∨ ca = some ⟨cb, co, none⟩) (hI : IntsAt w0 cb co cs) : Calls Try.prog 5 #[.agg #[.int .u8 m, .slice pa l0.length lc, .slice qa l.length qc, .slice ca cs.length cc]] w0 fun e w' => e = .returned (.bool true) ∧ Below w0.heap.size w0 w' := by
  obtain ⟨k, hk, hk2⟩ : ∃ k : Nat, k < 6 ∧ IntKind.i64.wrap (1 + Int.tmod (IntKind.i64.wrap m) 6) = ((k + 1 : Nat) : Int) := by
    refine ⟨(m % 6).toNat, by omega, ?_⟩
    have e : IntKind.i64.wrap m = m := by rw [IntKind.wrap_i64]; omega
    rw [e, Int.tmod_eq_emod_of_nonneg hm.1, IntKind.wrap_i64]
    omega
  have hqb : l.length = 0 ∨ qb < w0.heap.size := by
    by_cases h : l.length = 0
    · exact Or.inl h
    · exact Or.inr ((rfBy qb qo l).lt w0 hL qb ⟨rfl, h⟩)
  have hcb : cs.length = 0 ∨ cb < w0.heap.size := by
    by_cases h : cs.length = 0
    · exact Or.inl h
    · exact Or.inr ((rfIn cb co cs).lt w0 hI cb ⟨rfl, h⟩)
  refine sy_enterF [] [rfBy lb lo l0, rfBy qb qo l, rfIn cb co cs] (by intro f hf; simp only [List.mem_cons, List.not_mem_nil, or_false] at hf; rcases hf with rfl | rfl | rfl; exact hL0; exact hL; exact hI) Try.func5 rfl rfl fun aa S => ?_
  refine sy_run ⟨0, [5]⟩ 60 S fun bs aa w S => ?_
  refine sy_reg S fun S => ?_
  refine sy_call1 S (sane22 w) (by kernel_rfl) fun aa w hb S => ?_
  refine sy_run ⟨0, [6]⟩ 60 S fun bs aa w S => ?_
  refine sy_reg S fun S => ?_
  refine sy_ops 4 S fun bs aa w S => ?_
  refine sy_cast 38 S (congrArg (Value.int .i64) hk2) (by kernel_rfl) fun S => ?_
  refine sy_run ⟨0, [7]⟩ 60 S fun bs aa w S => ?_
  refine sy_reg S fun S => ?_
  refine sy_ops 3 S fun bs aa w S => ?_
  by_cases hl0 : l0.length ≤ 30
  case neg =>
    refine sy_cast 41 S (congrArg Value.bool (decide_eq_true (by omega) : decide ((l0.length : Int) > 30) = true)) (by kernel_rfl) fun S => ?_
    refine sy_run ⟨0, []⟩ 60 S fun bs aa w S => ?_
    exact sy_ret S (by kernel_rfl) (by kernel_rfl) fun hg => ⟨rfl, bel_gr hg⟩
  refine sy_cast 41 S (congrArg Value.bool (decide_eq_false (by omega) : decide ((l0.length : Int) > 30) = false)) (by kernel_rfl) fun S => ?_
  refine sy_ops 4 S fun bs aa w S => ?_
  by_cases hlL : l.length ≤ 30
  case neg =>
    refine sy_cast 45 S (congrArg Value.bool (decide_eq_true (by omega) : decide ((l.length : Int) > 30) = true)) (by kernel_rfl) fun S => ?_
    refine sy_run ⟨0, []⟩ 60 S fun bs aa w S => ?_
    exact sy_ret S (by kernel_rfl) (by kernel_rfl) fun hg => ⟨rfl, bel_gr hg⟩
  refine sy_cast 45 S (congrArg Value.bool (decide_eq_false (by omega) : decide ((l.length : Int) > 30) = false)) (by kernel_rfl) fun S => ?_
  refine sy_ops 5 S fun bs aa w S => ?_
  by_cases hcl : cs.length ≤ 40
  case neg =>
    refine sy_cast 50 S (congrArg Value.bool (decide_eq_true (by omega) : decide ((cs.length : Int) > 40) = true)) (by kernel_rfl) fun S => ?_
    refine sy_run ⟨0, []⟩ 60 S fun bs aa w S => ?_
    exact sy_ret S (by kernel_rfl) (by kernel_rfl) fun hg => ⟨rfl, bel_gr hg⟩
  refine sy_cast 50 S (congrArg Value.bool (decide_eq_false (by omega) : decide ((cs.length : Int) > 40) = false)) (by kernel_rfl) fun S => ?_
  refine sy_run ⟨0, [9]⟩ 60 S fun bs aa w S => ?_
  refine sy_reg S fun S => ?_
  refine sy_ops 2 S fun bs aa w S => ?_
  have hlt := fun j hj => S.lt (i := j) hj
  refine sy_call S (X := Dk × Option Addr × Nat × Nat × List (Int × ByteArray)) (val := fun x => .tuple #[x.1.v, .slice x.2.1 x.2.2.2.2.length x.2.2.1, .bool true]) (written_u w k hk l0 (by omega) h0 pa lc lb lo hp (S.fact (f := rfBy lb lo l0) (by simp))) (by kernel_rfl) fun x aa w1 hC hb S => ?_
  obtain ⟨d, ga, gc, g, DD⟩ := x
  obtain ⟨hW, h1, h2, h3, h4, h5⟩ := hC
  have S := S.add (rfSt d.b d.o d.S) h1 (fun j hj hb => by have q1 := hlt j hj; obtain ⟨q2, q3⟩ := hb; have q4 := hW.hb.1; (try simp only at q4); omega)
  refine sy_run ⟨0, [10]⟩ 60 S fun bs aa w S => ?_
  refine sy_reg S fun S => ?_
  refine sy_ops 1 S fun bs aa w S => ?_
  refine sy_call1 S (sync_t d w) (by kernel_rfl) fun aa w hb S => ?_
  refine sy_run ⟨0, [12]⟩ 60 S fun bs aa w S => ?_
  refine sy_reg S fun S => ?_
  refine sy_ops 1 S fun bs aa w S => ?_
  have hdl := fun h => (rfSt d.b d.o d.S).lt w (S.fact (f := rfSt d.b d.o d.S) (by simp)) d.b ⟨rfl, h⟩
  refine sy_mk (t := 50) (u := .int .i64 ((k + 1 : Nat) : Int)) (v := .int .i64 ((k + 1 : Nat) : Int)) (n := k + 1) (cs := List.replicate (k + 1) (Value.bool false)) (e := 4) S (by kernel_rfl) (mk_runb (k + 1) (by omega)) fun tg aa w hb0 hnb hnf hh hb S => ?_
  have hnd := hnf (rfSt d.b d.o d.S) (by simp)
  have S := S.add (rfBl tg (List.replicate (k + 1) false)) (by show w.heap[tg]? = some (Obj.cells ((List.replicate (k + 1) false).map Value.bool).toArray 4 (0, 0)); rw [List.map_replicate]; exact hh) hnb
  refine sy_run ⟨0, [13]⟩ 60 S fun bs aa w S => ?_
  refine sy_reg S fun S => ?_
  refine sy_ops 2 S fun bs aa w S => ?_
  refine sy_mk (t := 26) (u := .int .i64 (l.length : Int)) (v := .int .i64 (l.length : Int)) (n := l.length) (cs := List.replicate l.length (Value.int .i64 0)) (e := 3) S (by kernel_rfl) (mk_runi l.length (by omega)) fun zg aa w hb1 hnb1 hnf1 hh1 hb S => ?_
  have hzt := hnf1 (rfBl tg (List.replicate (k + 1) false)) (by simp)
  have S := S.add (rfIn zg 0 (List.replicate l.length (0 : Int))) (fun j hj => by
    have hj2 : j < l.length := by simpa using hj
    rw [Nat.zero_add]
    refine cel_of hh1 ?_
    simp [List.getD, List.getElem?_replicate, hj2]) (fun i hi h => hnb1 i hi h.1)
  have S := S.add (rfWs d.c d.p []) (fun j hj => absurd hj (Nat.not_lt_zero _)) (fun i hi h => h.2 rfl)
  refine sy_run ⟨0, []⟩ 60 S fun bs aa w S => ?_
  have hsl : d.sl = k + 1 := hW.sl
  have hS0 : All32 d.S := fun j hj => hW.right.s j (by rw [← hW.ok.hS]; exact hj)
  have S := S.sub (F' := [rfBy qb qo l, rfIn cb co cs, rfSt d.b d.o d.S, rfSt d.b d.o d.S, rfWs d.c d.p [], rfBl tg (List.replicate (k + 1) false), rfIn zg 0 (List.replicate l.length (0 : Int))]) (by intro f hf; simp only [List.mem_cons, List.not_mem_nil, or_false] at hf; rcases hf with rfl | rfl | rfl | rfl | rfl | rfl | rfl <;> simp)
  have S2 := S.to [1, 2, 3] (ks1S k l qa qc cs ca cc tg zg d (syn d) 0) (by kernel_rfl) (by kernel_rfl) (by kernel_rfl) (by kernel_rfl) (by kernel_rfl)
  refine sy_loop (l.length + 1) (by kernel_rfl) ?_
  refine sy_at2 (k' := (.rnd (l.length + 1) (bodyL ks1) :: ks1.k.tail)) (by kernel_rfl) ?_
  have hbt : d.b ≠ tg := fun e => hnd ⟨e.symm, by rw [hW.ok.hS, hsl]; omega⟩
  exact k1_all w0 k hk l hlL h256 qa qc qb qo hq hqb cs hcl ca cc cb co hca hcb d hW.ok hsl hS0 tg zg hb0 ⟨hbt, fun e => hzt e⟩ l.length 0 (by omega) (syn d) ⟨syn_ok hW.ok, hsl, Nat.zero_le _, ⟨[], rfl⟩, Nat.zero_le _, ⟨hbt, Or.inl rfl⟩⟩ _ _ _ aa w (S2.sub (by intro f hf; simp only [List.mem_cons, List.not_mem_nil, or_false] at hf; rcases hf with rfl | rfl | rfl | rfl | rfl | rfl | rfl <;> simp [syn, tch]))
end Go.Proofs.Ytnlcjlhcghgaoaa


/-
  Layer 22: the statement DiskMatchesSpec.
-/
namespace Go.Proofs.Ytnlcjlhcghgaoaa
open Go Go.RowKit SZ
set_option linter.unusedVariables false
set_option linter.unusedSimpArgs false
set_option maxRecDepth 100000
attribute [local irreducible] post GD Nxt NxtAll
def newS (n : Int) : List ByteArray := if 0 ≤ n ∧ n ≤ 512 then List.replicate n.toNat z32 else []
def newE (n : Int) : Int := if 0 ≤ n ∧ n ≤ 512 then 0 else 1
theorem dev_nil (h0 : Nat) (w : World) : Dev h0 w ⟨none, 0, 0, none, 0, 0, 0, 0, 0, 0, [], []⟩ [] [] := ⟨⟨rfl, Or.inl rfl, rfl, Or.inl rfl, Or.inl ⟨rfl, rfl, rfl⟩, Nat.zero_le _, fun _ => rfl⟩, rfl, rfl, fun j hj => absurd hj (Nat.not_lt_zero _), fun j hj => absurd hj (Nat.not_lt_zero _), Or.inl rfl, Or.inl rfl⟩
theorem pnew_any (n : Int) (w0 : World) : Calls Try.prog 9 #[.int .i64 n] w0 fun e w' => ∃ d' : Dk, e = .returned (.tuple #[d'.v, .int .i64 (newE n)]) ∧ Dev w0.heap.size w' d' (newS n) [] ∧ Below w0.heap.size w0 w' := by
  unfold newS newE
  by_cases h : 0 ≤ n ∧ n ≤ 512
  · rw [if_pos h, if_pos h]
    have := pnew_t w0 n.toNat (by omega)
    rwa [Int.toNat_of_nonneg h.1] at this
  · rw [if_neg h, if_neg h]
    exact (newbad n h w0).mono fun e w' h => ⟨⟨none, 0, 0, none, 0, 0, 0, 0, 0, 0, [], []⟩, h.1, dev_nil _ _, h.2⟩
theorem rnew_any (n : Int) (w0 : World) : Calls Try.prog 10 #[.int .i64 n] w0 fun e w' => ∃ d' : Dk, e = .returned (.tuple #[d'.v, .int .i64 (newE n)]) ∧ Dev w0.heap.size w' d' (newS n) [] ∧ Below w0.heap.size w0 w' := by
  unfold newS newE
  by_cases h : 0 ≤ n ∧ n ≤ 512
  · rw [if_pos h, if_pos h]
    have := rnew_t w0 n.toNat (by omega)
    rwa [Int.toNat_of_nonneg h.1] at this
  · rw [if_neg h, if_neg h]
    exact (rnewbad n h w0).mono fun e w' h => ⟨⟨none, 0, 0, none, 0, 0, 0, 0, 0, 0, [], []⟩, h.1, dev_nil _ _, h.2⟩
def rdS (d : Dk) (n : Int) : ByteArray := if 0 ≤ n ∧ n < (d.sl : Int) then d.S.getD n.toNat ByteArray.empty else ByteArray.empty
def rdE (d : Dk) (n : Int) : Int := if 0 ≤ n ∧ n < (d.sl : Int) then 0 else 8
theorem pread_any (d : Dk) (hd : d.ok) (n : Int) (w0 : World) (hA : StrAt w0 d.b d.o d.S) : Calls Try.prog 15 #[d.v, .int .i64 n] w0 fun e w' => e = .returned (.tuple #[.string (rdS d n), .int .i64 (rdE d n)]) ∧ Below w0.heap.size w0 w' := by
  unfold rdS rdE
  by_cases h : 0 ≤ n ∧ n < (d.sl : Int)
  · rw [if_pos h, if_pos h]
    have := read_t d hd n.toNat (by omega) w0 hA
    rwa [Int.toNat_of_nonneg h.1] at this
  · rw [if_neg h, if_neg h]
    exact readbad d n h w0
theorem rread_any (d : Dk) (hd : d.ok) (n : Int) (w0 : World) (hA : StrAt w0 d.b d.o d.S) : Calls Try.prog 16 #[d.v, .int .i64 n] w0 fun e w' => e = .returned (.tuple #[.string (rdS d n), .int .i64 (rdE d n)]) ∧ Below w0.heap.size w0 w' := by
  unfold rdS rdE
  by_cases h : 0 ≤ n ∧ n < (d.sl : Int)
  · rw [if_pos h, if_pos h]
    have := rread_t d hd n.toNat (by omega) w0 hA
    rwa [Int.toNat_of_nonneg h.1] at this
  · rw [if_neg h, if_neg h]
    exact rreadbad d n h w0
/-- A device that is there: made since, or this one. -/
structure Dvv (h0 : Nat) (w : World) (d d' : Dk) (S : List ByteArray) (W : List (Int × ByteArray)) : Prop where
  g : d'.gen
  eS : d'.S = S
  eW : d'.W = W
  sA : StrAt w d'.b d'.o d'.S
  wA : WasAt w d'.c d'.p d'.W
  b0 : d'.S.length = 0 ∨ h0 ≤ d'.b ∨ (d'.b = d.b ∧ d.S.length ≠ 0)
  c0 : d'.W.length = 0 ∨ h0 ≤ d'.c ∨ (d'.c = d.c ∧ d.W.length ≠ 0)
theorem Dev.dvv {h0 : Nat} {w : World} {d d' : Dk} {S : List ByteArray} {W : List (Int × ByteArray)} (h : Dev h0 w d' S W) : Dvv h0 w d d' S W := ⟨h.g, h.eS, h.eW, by rw [h.eS]; exact h.sA, by rw [h.eW]; exact h.wA, by rw [h.eS]; exact h.b0.imp id Or.inl, by rw [h.eW]; exact h.c0.imp id Or.inl⟩
theorem dvv_self (h0 : Nat) {w : World} {d : Dk} (hg : d.gen) (hA : StrAt w d.b d.o d.S) (hB : WasAt w d.c d.p d.W) : Dvv h0 w d d d.S d.W := ⟨hg, rfl, rfl, hA, hB, by by_cases h : d.S.length = 0; exact Or.inl h; exact Or.inr (Or.inr ⟨rfl, h⟩), by by_cases h : d.W.length = 0; exact Or.inl h; exact Or.inr (Or.inr ⟨rfl, h⟩)⟩
def waOk (d : Dk) (n : Int) (s : ByteArray) : Bool := decide (0 ≤ n ∧ n < (d.sl : Int)) && decide (s.size = 32)
def waS (d : Dk) (n : Int) (s : ByteArray) : List ByteArray := if waOk d n s then d.S.set n.toNat s else d.S
def waW (d : Dk) (n : Int) (s : ByteArray) : List (Int × ByteArray) := if waOk d n s then d.W ++ [(n, d.S.getD n.toNat ByteArray.empty)] else d.W
def waE (d : Dk) (n : Int) (s : ByteArray) : Int := if 0 ≤ n ∧ n < (d.sl : Int) then (if s.size = 32 then 0 else 1) else 8
set_option maxHeartbeats 8000000 in
theorem pwrite_any (d : Dk) (hd : d.ok) (hg : d.gen) (htl : d.tl ≤ 60) (n : Int) (s : ByteArray) (w0 : World) (hA : StrAt w0 d.b d.o d.S) (hB : WasAt w0 d.c d.p d.W) : Calls Try.prog 17 #[d.v, .int .i64 n, .string s] w0 fun e w' => ∃ d' : Dk, e = .returned (.tuple #[d'.v, .int .i64 (waE d n s)]) ∧ Dvv w0.heap.size w' d d' (waS d n s) (waW d n s) ∧ Below w0.heap.size w0 w' := by
  by_cases hn : 0 ≤ n ∧ n < (d.sl : Int)
  · by_cases hs : s.size = 32
    · have e1 : waOk d n s = true := by unfold waOk; rw [decide_eq_true hn, decide_eq_true hs]; rfl
      unfold waS waW waE
      rw [if_pos e1, if_pos e1, if_pos hn, if_pos hs]
      have h := write_t w0 d hd n.toNat (by omega) s hs hg.hc (by omega) hA hB
      rw [Int.toNat_of_nonneg hn.1] at h
      exact h.mono fun e w' ⟨d', q1, q2, q3, q4, q5, q6, q7, q8, q9, q10⟩ => ⟨d', q1, ⟨⟨q2.hS, q2.hs, q2.hW, q2.hw, q2.hw2.elim Or.inl (fun q => Or.inr q.2), q6, fun h0 => absurd h0 (by rw [q2.hs.resolve_left (by omega)]; simp)⟩, q4, q5, q8, q9, Or.inr (Or.inl q7.1), Or.inr (Or.inl q7.2)⟩, q10⟩
    · have e1 : ¬ waOk d n s = true := by unfold waOk; rw [decide_eq_false hs]; simp
      unfold waS waW waE
      rw [if_neg e1, if_neg e1, if_pos hn, if_neg hs]
      exact (writebad2 d n hn s hs w0).mono fun e w' h => ⟨d, h.1, dvv_self _ hg (hA.keep h.2) (hB.keep h.2), h.2⟩
  · have e1 : ¬ waOk d n s = true := by unfold waOk; rw [decide_eq_false hn]; simp
    unfold waS waW waE
    rw [if_neg e1, if_neg e1, if_neg hn]
    exact (writebad1 d n hn s w0).mono fun e w' h => ⟨d, h.1, dvv_self _ hg (hA.keep h.2) (hB.keep h.2), h.2⟩
set_option maxHeartbeats 8000000 in
theorem rwrite_any (d : Dk) (hd : d.ok) (hg : d.gen) (htl : d.tl ≤ 60) (n : Int) (s : ByteArray) (w0 : World) (hA : StrAt w0 d.b d.o d.S) (hB : WasAt w0 d.c d.p d.W) : Calls Try.prog 18 #[d.v, .int .i64 n, .string s] w0 fun e w' => ∃ d' : Dk, e = .returned (.tuple #[d'.v, .int .i64 (waE d n s)]) ∧ Dvv w0.heap.size w' d d' (waS d n s) (waW d n s) ∧ Below w0.heap.size w0 w' := by
  by_cases hn : 0 ≤ n ∧ n < (d.sl : Int)
  · by_cases hs : s.size = 32
    · have e1 : waOk d n s = true := by unfold waOk; rw [decide_eq_true hn, decide_eq_true hs]; rfl
      unfold waS waW waE
      rw [if_pos e1, if_pos e1, if_pos hn, if_pos hs]
      have h := rwrite_t w0 d hd htl n.toNat (by omega) s hs (fun h => hg.ht.elim (fun q => q.2.2) (fun q => by rw [h] at q; cases q.1)) hA hB
      rw [Int.toNat_of_nonneg hn.1] at h
      exact h.mono fun e w' ⟨d', q1, q2, q3⟩ => ⟨d', q1, q2.dvv, q3⟩
    · have e1 : ¬ waOk d n s = true := by unfold waOk; rw [decide_eq_false hs]; simp
      unfold waS waW waE
      rw [if_neg e1, if_neg e1, if_pos hn, if_neg hs]
      exact (rwritebad2 d n hn s hs w0).mono fun e w' h => ⟨d, h.1, dvv_self _ hg (hA.keep h.2) (hB.keep h.2), h.2⟩
  · have e1 : ¬ waOk d n s = true := by unfold waOk; rw [decide_eq_false hn]; simp
    unfold waS waW waE
    rw [if_neg e1, if_neg e1, if_neg hn]
    exact (rwritebad1 d n hn s w0).mono fun e w' h => ⟨d, h.1, dvv_self _ hg (hA.keep h.2) (hB.keep h.2), h.2⟩
set_option maxHeartbeats 8000000 in
theorem rsync_any (w0 : World) (d : Dk) (hd : d.ok) (hg : d.gen) (hA : StrAt w0 d.b d.o d.S) : Calls Try.prog 20 #[d.v] w0 fun e w' => ∃ d' : Dk, e = .returned d'.v ∧ Dev w0.heap.size w' d' d.S [] ∧ Below w0.heap.size w0 w' := by
  by_cases h0 : d.sl = 0
  · have eS : d.S = [] := List.eq_nil_of_length_eq_zero (by rw [hd.hS, h0])
    have ev : d.v = .agg #[.slice d.sa 0 d.sc, .slice d.ta d.tl d.tc] := by unfold Dk.v; rw [h0]
    rw [ev, eS]
    exact (rsync0 d.sa d.sc hg.hsn (.slice d.ta d.tl d.tc) w0 ⟨_, _, _, rfl⟩).mono fun e w' ⟨b, h1, h2⟩ => ⟨⟨some ⟨b, 0, none⟩, 0, 0, none, 0, 0, 0, 0, 0, 0, [], []⟩, h1, ⟨⟨rfl, Or.inl rfl, rfl, Or.inl rfl, Or.inl ⟨rfl, rfl, rfl⟩, Nat.zero_le _, fun h => by cases h⟩, rfl, rfl, fun j hj => absurd hj (Nat.not_lt_zero _), fun j hj => absurd hj (Nat.not_lt_zero _), Or.inl rfl, Or.inl rfl⟩, h2⟩
  · exact rsync1 w0 d hd (by omega) hA
theorem ex_eqS {s : SS} {bs : List Nat} {x y : Operand} {t t' ty : TypeId} {p q : ByteArray} {b : Bool} (hx : s.val x = some (.v (.string p))) (hy : s.val y = some (.v (.string q))) (hb : decide (p = q) = b) :
    ∀ (o : Oper) (ρ : Operand → Value) (W : World), o.op = .binOp .eql t x y t' → o.type = ty → (∀ x y, s.val x = some y → ρ x = den bs y) → (execOp ρ o).run Try.prog W = .ok (.value (.bool b)) W := by
  intro o ρ W h1 h2 h3
  have e1 : ρ x = .string p := h3 x _ hx
  have e2 : ρ y = .string q := h3 y _ hy
  subst hb
  unfold execOp
  simp only [h1, e1, e2, eqGuard, binOp_string_eql, tl_eq, Sem.run_bind, Sem.run_pure, Result.andThen_ok]
  rfl
theorem sameB_t {a b : Dk} (h1 : a.S = b.S) (h2 : a.W = b.W) : sameB a b = true := by unfold sameB; rw [decide_eq_true h1, decide_eq_true h2]; rfl
noncomputable def msE : List It := goM 90 17 [0, 0, 0] [.code (bodyOf Try.f3)]
noncomputable def msS (d x y : Dk) (ca : Option Addr) (cl cc : Nat) (s : ByteArray) (e1 e2 : Int) : SS := ⟨154, [(3, .p 0 0), (7, .v (.slice ca cl cc)), (8, .v (.bool true)), (14, .v (.string s)), (15, .v (.int .i64 e1)), (16, .v (.string s)), (17, .v (.int .i64 e1)), (18, .p 1 0), (19, .v (.int .i64 e2)), (20, .p 2 0), (21, .v (.int .i64 e2))], [⟨25, d.cs⟩, ⟨25, x.cs⟩, ⟨25, y.cs⟩]⟩
set_option maxHeartbeats 8000000 in
theorem ms_end (w0 : World) (d x y : Dk) (hd : d.ok) (hg : d.gen) (hr : d.right) (htl : d.tl ≤ 60) (hx : x.gen) (hy : y.gen) (hxl : x.sl ≤ 600 ∧ x.tl ≤ 100) (eS : x.S = y.S) (eW : x.W = y.W) (cs : List Int) (ca : Option Addr) (cc cb co : Nat) (hca : cs.length = 0 ∨ ca = some ⟨cb, co, none⟩) (s : ByteArray) (e1 e2 : Int) (x0 x1 x2 : Nat) (aa : Act) (w : World) (S : Sy w0 [] [x0, x1, x2] (msS d x y ca cs.length cc s e1 e2) [rfSt d.b d.o d.S, rfWs d.c d.p d.W, rfSt x.b x.o x.S, rfWs x.c x.p x.W, rfSt y.b y.o y.S, rfWs y.c y.p y.W, rfIn cb co cs] aa w) : post Try.prog msE (bodyPost Try.prog Try.f3 fun e w' => e = .returned (.bool true) ∧ Below w0.heap.size w0 w') .normal aa w := by
  have hl1 := hd.l1
  refine sy_run (c := ⟨msE, msS d x y ca cs.length cc s e1 e2⟩) ⟨0, []⟩ 60 S fun bs aa w S => ?_
  letI : KP := ⟨[121, 126, 136]⟩
  refine dr_enter [0, 1, 2] (by kernel_rfl) (by kernel_rfl) S (by kernel_rfl) (fun aa w D => ?_)
  refine dr_ex2 (fun d v c a w h => by cases d <;> exact h) 4 (op := .binOp .eql 9 (.tmp 119) (.tmp 120) 9) (ty := 4) (v := .bool true) D (by kernel_rfl) (by kernel_rfl) (by kernel_rfl) (by kernel_rfl) (ex_eqS (p := s) (q := s) (by kernel_rfl) (by kernel_rfl) (by simp)) fun aa D => ?_
  refine dr_ex2 (fun d v c a w h => by cases d <;> exact h) 9 (op := .binOp .eql 31 (.tmp 124) (.tmp 125) 31) (ty := 4) (v := .bool true) D (by kernel_rfl) (by kernel_rfl) (by kernel_rfl) (by kernel_rfl) (ex_eqI (ki := .i64) (p := e1) (q := e1) (by kernel_rfl) (by kernel_rfl) (by simp)) fun aa D => ?_
  refine dr_call1 14 D (by kernel_rfl) (by kernel_rfl) (by kernel_rfl) (v := .bool true) (f := 14) (args := #[x.v, y.v]) (by rw [← sameB_t (a := x) (b := y) eS eW]; exact rsame_t w x y hx hy hxl (D.S.fact (f := rfSt x.b x.o x.S) (by simp)) (D.S.fact (f := rfWs x.c x.p x.W) (by simp)) (D.S.fact (f := rfSt y.b y.o y.S) (by simp)) (D.S.fact (f := rfWs y.c y.p y.W) (by simp))) (by kernel_rfl) fun aa w hb D => ?_
  refine dr_ex2 (fun d v c a w h => by cases d <;> exact h) 19 (op := .binOp .eql 31 (.tmp 134) (.tmp 135) 31) (ty := 4) (v := .bool true) D (by kernel_rfl) (by kernel_rfl) (by kernel_rfl) (by kernel_rfl) (ex_eqI (ki := .i64) (p := e2) (q := e2) (by kernel_rfl) (by kernel_rfl) (by simp)) fun aa D => ?_
  refine dr_call1 23 D (by kernel_rfl) (by kernel_rfl) (by kernel_rfl) (f := 19) (args := #[d.v]) (sync_t d w) (by kernel_rfl) fun aa w hb D => ?_
  have hlt25 := fun j hj => D.S.lt (i := j) hj
  refine dr_call 25 D (by kernel_rfl) (by kernel_rfl) (by kernel_rfl) (X := Dk) (val := fun q => q.v) (C := fun q w' => Dev w.heap.size w' q d.S []) (f := 20) (args := #[d.v]) (rsync_any w d hd hg (D.S.fact (f := rfSt d.b d.o d.S) (by simp))) (by kernel_rfl) fun q aa w hq hb D => ?_
  have D := (D.addF (rfSt q.b q.o q.S) (by rw [hq.eS]; exact hq.sA) (fun j hj hb => by have q1 := hlt25 j hj; obtain ⟨q2, q3⟩ := hb; rcases hq.b0 with q4 | q4; exact q3 (by rw [hq.eS]; exact q4); omega)).addF (rfWs q.c q.p q.W) (by rw [hq.eW]; exact hq.wA) (fun j hj hb => by have q1 := hlt25 j hj; obtain ⟨q2, q3⟩ := hb; rcases hq.c0 with q4 | q4; exact q3 (by rw [hq.eW]; exact q4); omega)
  refine dr_call1 26 D (by kernel_rfl) (by kernel_rfl) (by kernel_rfl) (v := .bool true) (f := 14) (args := #[(syn d).v, q.v]) (by rw [← sameB_t (a := (syn d)) (b := q) hq.eS.symm hq.eW.symm]; exact rsame_t w (syn d) q (ok_gen (syn_ok hd) (Nat.zero_le _) hg.hsn) hq.g ⟨by show d.sl ≤ 600; omega, Nat.zero_le _⟩ (D.S.fact (f := rfSt d.b d.o d.S) (by simp)) (fun j hj => absurd hj (Nat.not_lt_zero _)) (D.S.fact (f := rfSt q.b q.o q.S) (by simp)) (D.S.fact (f := rfWs q.c q.p q.W) (by simp))) (by kernel_rfl) fun aa w hb D => ?_
  have hlt31 := fun j hj => D.S.lt (i := j) hj
  refine dr_call 31 D (by kernel_rfl) (by kernel_rfl) (by kernel_rfl) (X := Dk) (val := fun q => q.v) (C := fun q w' => Dev w.heap.size w' q (crS d cs) []) (f := 21) (args := #[d.v, .slice ca cs.length cc]) (pcrash_t w d hd hr hg.hsn ca cc cb co cs hca (D.S.fact (f := rfSt d.b d.o d.S) (by simp)) (D.S.fact (f := rfWs d.c d.p d.W) (by simp)) (D.S.fact (f := rfIn cb co cs) (by simp))) (by kernel_rfl) fun u aa w hu hb D => ?_
  have D := (D.addF (rfSt u.b u.o u.S) (by rw [hu.eS]; exact hu.sA) (fun j hj hb => by have q1 := hlt31 j hj; obtain ⟨q2, q3⟩ := hb; rcases hu.b0 with q4 | q4; exact q3 (by rw [hu.eS]; exact q4); omega)).addF (rfWs u.c u.p u.W) (by rw [hu.eW]; exact hu.wA) (fun j hj hb => by have q1 := hlt31 j hj; obtain ⟨q2, q3⟩ := hb; rcases hu.c0 with q4 | q4; exact q3 (by rw [hu.eW]; exact q4); omega)
  have hlt34 := fun j hj => D.S.lt (i := j) hj
  refine dr_call 34 D (by kernel_rfl) (by kernel_rfl) (by kernel_rfl) (X := Dk) (val := fun q => q.v) (C := fun q w' => Dev w.heap.size w' q (crS d cs) []) (f := 22) (args := #[d.v, .slice ca cs.length cc]) (rcrash_t w d hd hr ca cc cb co cs hca (D.S.fact (f := rfSt d.b d.o d.S) (by simp)) (D.S.fact (f := rfWs d.c d.p d.W) (by simp)) (D.S.fact (f := rfIn cb co cs) (by simp))) (by kernel_rfl) fun v aa w hv hb D => ?_
  have D := (D.addF (rfSt v.b v.o v.S) (by rw [hv.eS]; exact hv.sA) (fun j hj hb => by have q1 := hlt34 j hj; obtain ⟨q2, q3⟩ := hb; rcases hv.b0 with q4 | q4; exact q3 (by rw [hv.eS]; exact q4); omega)).addF (rfWs v.c v.p v.W) (by rw [hv.eW]; exact hv.wA) (fun j hj hb => by have q1 := hlt34 j hj; obtain ⟨q2, q3⟩ := hb; rcases hv.c0 with q4 | q4; exact q3 (by rw [hv.eW]; exact q4); omega)
  have hul : u.sl ≤ 600 ∧ u.tl ≤ 100 := ⟨by rw [← hu.g.hS, hu.eS, (crS_inv d hd hr cs).1]; omega, by rw [← hu.g.hW, hu.eW]; exact Nat.zero_le _⟩
  refine dr_call1 35 D (by kernel_rfl) (by kernel_rfl) (by kernel_rfl) (v := .bool true) (f := 14) (args := #[u.v, v.v]) (by rw [← sameB_t (a := u) (b := v) (hu.eS.trans hv.eS.symm) (hu.eW.trans hv.eW.symm)]; exact rsame_t w u v hu.g hv.g hul (D.S.fact (f := rfSt u.b u.o u.S) (by simp)) (D.S.fact (f := rfWs u.c u.p u.W) (by simp)) (D.S.fact (f := rfSt v.b v.o v.S) (by simp)) (D.S.fact (f := rfWs v.c v.p v.W) (by simp))) (by kernel_rfl) fun aa w hb D => ?_
  refine dr_end D (by kernel_rfl) fun S => ?_
  refine sy_run ⟨0, []⟩ 60 S fun bs aa w S => ?_
  exact sy_ret S (by kernel_rfl) (by kernel_rfl) fun hg => ⟨rfl, bel_gr hg⟩
theorem ex_neB {s : SS} {bs : List Nat} {x y : Operand} {t' ty : TypeId} {p : Bool} (hx : s.val x = some (.v (.bool p))) (hy : s.val y = some (.v (.bool p))) :
    ∀ (o : Oper) (ρ : Operand → Value) (W : World), o.op = .binOp .neq 4 x y t' → o.type = ty → (∀ x y, s.val x = some y → ρ x = den bs y) → (execOp ρ o).run Try.prog W = .ok (.value (.bool false)) W := by
  intro o ρ W h1 h2 h3
  have e1 : ρ x = .bool p := h3 x _ hx
  have e2 : ρ y = .bool p := h3 y _ hy
  have hr : ∀ W, (binOp .neq 4 (.bool p) (.bool p)).run Try.prog W = .ok (.bool false) W := fun W => by cases p <;> kernel_rfl
  unfold execOp
  simp only [h1, e1, e2, eqGuard, Sem.run_bind, Sem.run_pure, Result.andThen_ok, hr]
  simp [Sem.run_pure, hr]
theorem few_of {d : Dk} (h : fewB d = true) : d.sl ≤ 600 ∧ d.tl ≤ 60 := by
  simp only [fewB, Bool.and_eq_true, decide_eq_true_eq] at h
  exact ⟨h.1.1.1, h.1.1.2⟩
set_option maxHeartbeats 8000000 in
theorem dms_all (w0 : World) (d c : Dk) (hg : d.gen) (hc : c.gen) (n : Int) (b : ByteArray) (cs : List Int) (ca : Option Addr) (cc cb co : Nat) (hca : cs.length = 0 ∨ ca = some ⟨cb, co, none⟩) (hA : StrAt w0 d.b d.o d.S) (hB : WasAt w0 d.c d.p d.W) (hC : StrAt w0 c.b c.o c.S) (hD : WasAt w0 c.c c.p c.W) (hI : IntsAt w0 cb co cs) : Calls Try.prog 3 #[.agg #[.slice d.sa d.sl d.sc, .slice d.ta d.tl d.tc, .slice c.sa c.sl c.sc, .slice c.ta c.tl c.tc, .int .i64 n, .string b, .slice ca cs.length cc]] w0 fun e w' => e = .returned (.bool true) ∧ Below w0.heap.size w0 w' := by
  refine sy_enterF [] [rfSt d.b d.o d.S, rfWs d.c d.p d.W, rfSt c.b c.o c.S, rfWs c.c c.p c.W, rfIn cb co cs] (by intro f hf; simp only [List.mem_cons, List.not_mem_nil, or_false] at hf; rcases hf with rfl | rfl | rfl | rfl | rfl; exact hA; exact hB; exact hC; exact hD; exact hI) Try.func3 rfl rfl fun aa S => ?_
  refine sy_run ⟨0, [6]⟩ 60 S fun bs aa w S => ?_
  refine sy_reg S fun S => ?_
  refine sy_call1 S (sane22 w) (by kernel_rfl) fun aa w hb S => ?_
  refine sy_run ⟨0, [7]⟩ 60 S fun bs aa w S => ?_
  refine sy_reg S fun S => ?_
  refine sy_ops 1 S fun bs aa w S => ?_
  refine sy_call1 S (few_t w d hg (S.fact (f := rfSt d.b d.o d.S) (by simp)) (S.fact (f := rfWs d.c d.p d.W) (by simp))) (by kernel_rfl) fun aa w hb S => ?_
  rcases Bool.eq_false_or_eq_true (fewB d) with hf | hf
  case inr =>
    refine sy_cast 34 S (congrArg Value.bool hf) (by kernel_rfl) fun S => ?_
    refine sy_run ⟨0, []⟩ 60 S fun bs aa w S => ?_
    exact sy_ret S (by kernel_rfl) (by kernel_rfl) fun hg => ⟨rfl, bel_gr hg⟩
  refine sy_cast 34 S (congrArg Value.bool hf) (by kernel_rfl) fun S => ?_
  refine sy_ops 3 S fun bs aa w S => ?_
  refine sy_call1 S (few_t w c hc (S.fact (f := rfSt c.b c.o c.S) (by simp)) (S.fact (f := rfWs c.c c.p c.W) (by simp))) (by kernel_rfl) fun aa w hb S => ?_
  rcases Bool.eq_false_or_eq_true (fewB c) with hf2 | hf2
  case inr =>
    refine sy_cast 38 S (congrArg Value.bool hf2) (by kernel_rfl) fun S => ?_
    refine sy_run ⟨0, []⟩ 60 S fun bs aa w S => ?_
    exact sy_ret S (by kernel_rfl) (by kernel_rfl) fun hg => ⟨rfl, bel_gr hg⟩
  refine sy_cast 38 S (congrArg Value.bool hf2) (by kernel_rfl) fun S => ?_
  refine sy_ops 6 S fun bs aa w S => ?_
  by_cases hb60 : b.size ≤ 60
  case neg =>
    refine sy_cast 44 S (congrArg Value.bool (decide_eq_true (by omega) : decide ((b.size : Int) > 60) = true)) (by kernel_rfl) fun S => ?_
    refine sy_run ⟨0, []⟩ 60 S fun bs aa w S => ?_
    exact sy_ret S (by kernel_rfl) (by kernel_rfl) fun hg => ⟨rfl, bel_gr hg⟩
  refine sy_cast 44 S (congrArg Value.bool (decide_eq_false (by omega) : decide ((b.size : Int) > 60) = false)) (by kernel_rfl) fun S => ?_
  refine sy_ops 5 S fun bs aa w S => ?_
  by_cases hc80 : cs.length ≤ 80
  case neg =>
    refine sy_cast 49 S (congrArg Value.bool (decide_eq_true (by omega) : decide ((cs.length : Int) > 80) = true)) (by kernel_rfl) fun S => ?_
    refine sy_run ⟨0, []⟩ 60 S fun bs aa w S => ?_
    exact sy_ret S (by kernel_rfl) (by kernel_rfl) fun hg => ⟨rfl, bel_gr hg⟩
  refine sy_cast 49 S (congrArg Value.bool (decide_eq_false (by omega) : decide ((cs.length : Int) > 80) = false)) (by kernel_rfl) fun S => ?_
  obtain ⟨hd1, hd2⟩ := few_of hf
  obtain ⟨hc1, hc2⟩ := few_of hf2
  refine sy_run ⟨0, [9]⟩ 60 S fun bs aa w S => ?_
  refine sy_reg S fun S => ?_
  refine sy_ops 1 S fun bs aa w S => ?_
  have hlt9 := fun j hj => S.lt (i := j) hj
  refine sy_call S (X := Dk) (val := fun q => .tuple #[q.v, .int .i64 (newE n)]) (C := fun q w' => Dev w.heap.size w' q (newS n) []) (f := 9) (args := #[.int .i64 n]) (pnew_any n w) (by kernel_rfl) fun m1 aa w hm1 hb S => ?_
  have S := (S.add (rfSt m1.b m1.o m1.S) (by rw [hm1.eS]; exact hm1.sA) (fun j hj hb => by have q1 := hlt9 j hj; obtain ⟨q2, q3⟩ := hb; rcases hm1.b0 with q4 | q4; exact q3 (by rw [hm1.eS]; exact q4); omega)).add (rfWs m1.c m1.p m1.W) (by rw [hm1.eW]; exact hm1.wA) (fun j hj hb => by have q1 := hlt9 j hj; obtain ⟨q2, q3⟩ := hb; rcases hm1.c0 with q4 | q4; exact q3 (by rw [hm1.eW]; exact q4); omega)
  refine sy_run ⟨0, [10]⟩ 60 S fun bs aa w S => ?_
  refine sy_reg S fun S => ?_
  refine sy_ops 1 S fun bs aa w S => ?_
  have hlt10 := fun j hj => S.lt (i := j) hj
  refine sy_call S (X := Dk) (val := fun q => .tuple #[q.v, .int .i64 (newE n)]) (C := fun q w' => Dev w.heap.size w' q (newS n) []) (f := 10) (args := #[.int .i64 n]) (rnew_any n w) (by kernel_rfl) fun m2 aa w hm2 hb S => ?_
  have S := (S.add (rfSt m2.b m2.o m2.S) (by rw [hm2.eS]; exact hm2.sA) (fun j hj hb => by have q1 := hlt10 j hj; obtain ⟨q2, q3⟩ := hb; rcases hm2.b0 with q4 | q4; exact q3 (by rw [hm2.eS]; exact q4); omega)).add (rfWs m2.c m2.p m2.W) (by rw [hm2.eW]; exact hm2.wA) (fun j hj hb => by have q1 := hlt10 j hj; obtain ⟨q2, q3⟩ := hb; rcases hm2.c0 with q4 | q4; exact q3 (by rw [hm2.eW]; exact q4); omega)
  refine sy_run ⟨0, [11]⟩ 60 S fun bs aa w S => ?_
  refine sy_reg S fun S => ?_
  refine sy_ops 1 S fun bs aa w S => ?_
  refine sy_call1 S (rright_t w d hg hd2 (S.fact (f := rfSt d.b d.o d.S) (by simp)) (S.fact (f := rfWs d.c d.p d.W) (by simp))) (by kernel_rfl) fun aa w hb S => ?_
  refine sy_run ⟨0, []⟩ 60 S fun bs aa w S => ?_
  have hml : (newS n).length ≤ 600 := by unfold newS; split <;> simp; omega
  have hm1l : m1.sl ≤ 600 ∧ m1.tl ≤ 100 := ⟨by rw [← hm1.g.hS, hm1.eS]; exact hml, by rw [← hm1.g.hW, hm1.eW]; exact Nat.zero_le _⟩
  letI : KP := ⟨[67, 75, 86]⟩
  refine dr_enter [1, 2, 3, 4] (by kernel_rfl) (by kernel_rfl) S (by kernel_rfl) (fun aa w D => ?_)
  refine dr_call1 1 D (by kernel_rfl) (by kernel_rfl) (by kernel_rfl) (v := .bool (rightB d)) (f := 12) (args := #[d.v]) (dright_t w d hg hd2 (D.S.fact (f := rfSt d.b d.o d.S) (by simp)) (D.S.fact (f := rfWs d.c d.p d.W) (by simp))) (by kernel_rfl) fun aa w hb D => ?_
  refine dr_ex2 (fun d v c a w h => by cases d <;> exact h) 3 (op := .binOp .neq 4 (.tmp 65) (.tmp 66) 4) (ty := 4) (v := .bool false) D (by kernel_rfl) (by kernel_rfl) (by kernel_rfl) (by kernel_rfl) (ex_neB (p := rightB d) (by kernel_rfl) (by kernel_rfl)) fun aa D => ?_
  refine dr_call1 7 D (by kernel_rfl) (by kernel_rfl) (by kernel_rfl) (v := .bool (sameB d c)) (f := 13) (args := #[d.v, c.v]) (dsame_t w d c hg hc ⟨hd1, by omega⟩ hc1 (D.S.fact (f := rfSt d.b d.o d.S) (by simp)) (D.S.fact (f := rfWs d.c d.p d.W) (by simp)) (D.S.fact (f := rfSt c.b c.o c.S) (by simp)) (D.S.fact (f := rfWs c.c c.p c.W) (by simp))) (by kernel_rfl) fun aa w hb D => ?_
  refine dr_call1 10 D (by kernel_rfl) (by kernel_rfl) (by kernel_rfl) (v := .bool (sameB d c)) (f := 14) (args := #[d.v, c.v]) (rsame_t w d c hg hc ⟨hd1, by omega⟩ (D.S.fact (f := rfSt d.b d.o d.S) (by simp)) (D.S.fact (f := rfWs d.c d.p d.W) (by simp)) (D.S.fact (f := rfSt c.b c.o c.S) (by simp)) (D.S.fact (f := rfWs c.c c.p c.W) (by simp))) (by kernel_rfl) fun aa w hb D => ?_
  refine dr_ex2 (fun d v c a w h => by cases d <;> exact h) 11 (op := .binOp .neq 4 (.tmp 71) (.tmp 74) 4) (ty := 4) (v := .bool false) D (by kernel_rfl) (by kernel_rfl) (by kernel_rfl) (by kernel_rfl) (ex_neB (p := sameB d c) (by kernel_rfl) (by kernel_rfl)) fun aa D => ?_
  refine dr_call1 16 D (by kernel_rfl) (by kernel_rfl) (by kernel_rfl) (v := .bool true) (f := 14) (args := #[m1.v, m2.v]) (by rw [← sameB_t (a := m1) (b := m2) (hm1.eS.trans hm2.eS.symm) (hm1.eW.trans hm2.eW.symm)]; exact rsame_t w m1 m2 hm1.g hm2.g hm1l (D.S.fact (f := rfSt m1.b m1.o m1.S) (by simp)) (D.S.fact (f := rfWs m1.c m1.p m1.W) (by simp)) (D.S.fact (f := rfSt m2.b m2.o m2.S) (by simp)) (D.S.fact (f := rfWs m2.c m2.p m2.W) (by simp))) (by kernel_rfl) fun aa w hb D => ?_
  refine dr_ex2 (fun d v c a w h => by cases d <;> exact h) 22 (op := .binOp .neq 31 (.tmp 84) (.tmp 85) 31) (ty := 4) (v := .bool false) D (by kernel_rfl) (by kernel_rfl) (by kernel_rfl) (by kernel_rfl) (ex_neI (ki := .i64) (p := newE n) (q := newE n) (by kernel_rfl) (by kernel_rfl) (by simp)) fun aa D => ?_
  refine dr_end D (by kernel_rfl) fun S => ?_
  refine sy_run ⟨0, [14]⟩ 60 S fun bs aa w S => ?_
  refine sy_reg S fun S => ?_
  refine sy_ops 2 S fun bs aa w S => ?_
  rcases Bool.eq_false_or_eq_true (rightB d) with hR | hR
  case inr =>
    refine sy_cast 89 S (congrArg Value.bool (by rw [hR]; rfl : (!rightB d) = true)) (by kernel_rfl) fun S => ?_
    refine sy_run ⟨0, []⟩ 60 S fun bs aa w S => ?_
    exact sy_ret S (by kernel_rfl) (by kernel_rfl) fun hg => ⟨rfl, bel_gr hg⟩
  refine sy_cast 89 S (congrArg Value.bool (by rw [hR]; rfl : (!rightB d) = false)) (by kernel_rfl) fun S => ?_
  obtain ⟨hr, hsl⟩ := right_of hg hR
  have hd := gen_ok hg hsl (by omega)
  refine sy_run ⟨0, [16]⟩ 60 S fun bs aa w S => ?_
  refine sy_reg S fun S => ?_
  refine sy_ops 2 S fun bs aa w S => ?_
  refine sy_call1 S (pread_any d hd n w (S.fact (f := rfSt d.b d.o d.S) (by simp))) (by kernel_rfl) fun aa w hb S => ?_
  refine sy_run ⟨0, [17]⟩ 60 S fun bs aa w S => ?_
  refine sy_reg S fun S => ?_
  refine sy_ops 2 S fun bs aa w S => ?_
  refine sy_call1 S (rread_any d hd n w (S.fact (f := rfSt d.b d.o d.S) (by simp))) (by kernel_rfl) fun aa w hb S => ?_
  refine sy_run ⟨0, [18]⟩ 60 S fun bs aa w S => ?_
  refine sy_reg S fun S => ?_
  refine sy_ops 3 S fun bs aa w S => ?_
  have hdS := (S.fs (rfSt d.b d.o d.S) (by simp)).2
  have hdW := (S.fs (rfWs d.c d.p d.W) (by simp)).2
  have hlt18 := fun j hj => S.lt (i := j) hj
  refine sy_call S (X := Dk) (val := fun q => .tuple #[q.v, .int .i64 (waE d n b)]) (C := fun q w' => Dvv w.heap.size w' d q (waS d n b) (waW d n b)) (f := 17) (args := #[d.v, .int .i64 n, .string b]) (pwrite_any d hd hg hd2 n b w (S.fact (f := rfSt d.b d.o d.S) (by simp)) (S.fact (f := rfWs d.c d.p d.W) (by simp))) (by kernel_rfl) fun x aa w hx hb S => ?_
  have S := (S.add (rfSt x.b x.o x.S) hx.sA (fun j hj hb => by have q1 := hlt18 j hj; obtain ⟨q2, q3⟩ := hb; rcases hx.b0 with q4 | q4 | ⟨q4, q5⟩; exact q3 q4; omega; exact hdS j hj ⟨q2.trans q4, q5⟩)).add (rfWs x.c x.p x.W) hx.wA (fun j hj hb => by have q1 := hlt18 j hj; obtain ⟨q2, q3⟩ := hb; rcases hx.c0 with q4 | q4 | ⟨q4, q5⟩; exact q3 q4; omega; exact hdW j hj ⟨q2.trans q4, q5⟩)
  have hdS := (S.fs (rfSt d.b d.o d.S) (by simp)).2
  have hdW := (S.fs (rfWs d.c d.p d.W) (by simp)).2
  refine sy_run ⟨0, [19]⟩ 60 S fun bs aa w S => ?_
  refine sy_reg S fun S => ?_
  refine sy_ops 3 S fun bs aa w S => ?_
  have hdS := (S.fs (rfSt d.b d.o d.S) (by simp)).2
  have hdW := (S.fs (rfWs d.c d.p d.W) (by simp)).2
  have hlt19 := fun j hj => S.lt (i := j) hj
  refine sy_call S (X := Dk) (val := fun q => .tuple #[q.v, .int .i64 (waE d n b)]) (C := fun q w' => Dvv w.heap.size w' d q (waS d n b) (waW d n b)) (f := 18) (args := #[d.v, .int .i64 n, .string b]) (rwrite_any d hd hg hd2 n b w (S.fact (f := rfSt d.b d.o d.S) (by simp)) (S.fact (f := rfWs d.c d.p d.W) (by simp))) (by kernel_rfl) fun y aa w hy hb S => ?_
  have S := (S.add (rfSt y.b y.o y.S) hy.sA (fun j hj hb => by have q1 := hlt19 j hj; obtain ⟨q2, q3⟩ := hb; rcases hy.b0 with q4 | q4 | ⟨q4, q5⟩; exact q3 q4; omega; exact hdS j hj ⟨q2.trans q4, q5⟩)).add (rfWs y.c y.p y.W) hy.wA (fun j hj hb => by have q1 := hlt19 j hj; obtain ⟨q2, q3⟩ := hb; rcases hy.c0 with q4 | q4 | ⟨q4, q5⟩; exact q3 q4; omega; exact hdW j hj ⟨q2.trans q4, q5⟩)
  have hdS := (S.fs (rfSt d.b d.o d.S) (by simp)).2
  have hdW := (S.fs (rfWs d.c d.p d.W) (by simp)).2
  refine sy_run ⟨0, []⟩ 60 S fun bs aa w S => ?_
  have S := S.sub (F' := [rfSt d.b d.o d.S, rfWs d.c d.p d.W, rfSt x.b x.o x.S, rfWs x.c x.p x.W, rfSt y.b y.o y.S, rfWs y.c y.p y.W, rfIn cb co cs]) (by intro f hf; simp only [List.mem_cons, List.not_mem_nil, or_false] at hf; rcases hf with rfl | rfl | rfl | rfl | rfl | rfl | rfl <;> simp)
  have S2 := S.to [1, 5, 6] (msS d x y ca cs.length cc (rdS d n) (rdE d n) (waE d n b)) (by kernel_rfl) (by kernel_rfl) (by kernel_rfl) (by kernel_rfl) (by kernel_rfl)
  refine sy_at2 (k' := msE) (by kernel_rfl) ?_
  have hxl : x.sl ≤ 600 ∧ x.tl ≤ 100 := by
    refine ⟨?_, ?_⟩
    · rw [← hx.g.hS, hx.eS]; unfold waS; split
      · rw [List.length_set, hg.hS]; omega
      · rw [hg.hS]; omega
    · rw [← hx.g.hW, hx.eW]; unfold waW; split
      · rw [List.length_append, hg.hW]; simp; omega
      · rw [hg.hW]; omega
  exact ms_end w0 d x y hd hg hr hd2 hx.g hy.g hxl (hx.eS.trans hy.eS.symm) (hx.eW.trans hy.eW.symm) cs ca cc cb co hca _ _ _ _ _ _ aa w S2
end Go.Proofs.Ytnlcjlhcghgaoaa
