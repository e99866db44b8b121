
/-
  Layer 22: a list of commands.
-/
import Derived.Test.YtnlcjlhcghgaoaaRows
import Derived.Test.YtnlcjlhcghgaoaaBase
import Derived.Test.YtnlcjlhcghgaoaaZu
import Derived.Test.YtnlcjlhcghgaoaaDk5
import Derived.WalkKit
namespace Go.Proofs.Ytnlcjlhcghgaoaa
open Go Go.RowKit SZ
set_option linter.unusedVariables false
set_option linter.unusedSimpArgs false
set_option maxRecDepth 100000
attribute [local irreducible] post GD Nxt NxtAll
/-- What one command does. -/
def wstep (n : Nat) (x : List ByteArray × List (Int × ByteArray) × List (Int × ByteArray)) (c : Nat) : List ByteArray × List (Int × ByteArray) × List (Int × ByteArray) :=
  if c = 255 then (x.1, [], x.2.2) else (x.1.set (c % n) (fullS (c : Int)), x.2.1 ++ [(((c % n : Nat) : Int), x.1.getD (c % n) ByteArray.empty)], x.2.2 ++ [(((c % n : Nat) : Int), fullS (c : Int))])
def wall (n : Nat) (l : List Nat) : List ByteArray × List (Int × ByteArray) × List (Int × ByteArray) := l.foldl (wstep n) (List.replicate n z32, [], [])
theorem wall_succ (n : Nat) (l : List Nat) (i : Nat) (h : i < l.length) : wall n (l.take (i + 1)) = wstep n (wall n (l.take i)) (l.getD i 0) := by
  have e := List.take_succ_eq_append_getElem h
  unfold wall
  rw [e, List.foldl_append]
  simp [List.getD, List.getElem?_eq_getElem h]
def ByAt (w : World) (b o : Nat) (l : List Nat) : Prop := ∀ j, j < l.length → w.cell? ⟨b, o + j, none⟩ = some (.int .u8 ((l.getD j 0 : Nat) : Int))
def rfBy (b o : Nat) (l : List Nat) : RF := ⟨fun b' => b' = b ∧ l.length ≠ 0, fun w => ByAt w b o l, fun w h b' hb => by
  obtain ⟨rfl, hl⟩ := hb
  exact World.block_lt_of_cell? w _ (h 0 (by omega)), fun w w' h hb j hj => (World.cell?_of_block (a := ⟨b, o + j, none⟩) (hb b ⟨rfl, by omega⟩)).trans (h j hj)⟩
theorem own3 {P : Program} {w0 w : World} {r bs : List Nat} {s : SS} {F : List RF} {a : Act} {ty : TypeId} {cs : List Value} (S : Sy w0 r bs s F a w) (i : Nat) (hK : s.K[i]? = some ⟨ty, cs⟩) : ∀ k x, cs[k]? = some x → w.cell? ((adr bs i 0).add k) = some x := fun k x hx => by
  have ea : (adr bs i 0).add k = ⟨bs.getD i 0, 0 + k, none⟩ := by unfold Addr.add adr; split <;> simp_all
  rw [ea, Nat.zero_add]
  exact cel_of (S.bx i _ hK) hx
/-- Where the commands are. -/
structure WI (w0 : World) (k : Nat) (l : List Nat) (i : Nat) (d : Dk) (D : List (Int × ByteArray)) : Prop where
  ok : d.ok
  sl : d.sl = k + 1
  tc : d.tc ≤ 9223372036854775807
  eq : wall (k + 1) (l.take i) = (d.S, d.W, D)
  tl : d.tl ≤ i
  dl : D.length ≤ i
  hb : w0.heap.size ≤ d.b ∧ (d.W.length = 0 ∨ w0.heap.size ≤ d.c)
noncomputable def wtC : Cfg := ⟨goZ 60 [] [.code (bodyOf Try.f23)], ⟨0, [], []⟩⟩
noncomputable def wtS (k i n : Nat) (pa : Option Addr) (lc : Nat) (d : Dk) (v : Value) : SS := ⟨76, [(0, .v (.int .i64 ((k + 1 : Nat) : Int))), (1, .v (.slice pa n lc)), (4, .p 0 0), (7, .p 1 0), (9, .v (.bool true)), (10, .v v), (11, .v (.int .i64 (i : Int)))], [⟨25, [.slice none 0 0, .slice none 0 0]⟩, ⟨25, d.cs⟩]⟩
noncomputable def wt2S (k i n : Nat) (pa : Option Addr) (lc : Nat) (d d' : Dk) (v : Value) : SS := ⟨76, [(0, .v (.int .i64 ((k + 1 : Nat) : Int))), (1, .v (.slice pa n lc)), (4, .p 0 0), (7, .p 1 0), (9, .v (.bool true)), (10, .v v), (11, .v (.int .i64 (i : Int))), (12, .p 2 0), (13, .v (.int .i64 0))], [⟨25, [.slice none 0 0, .slice none 0 0]⟩, ⟨25, d.cs⟩, ⟨25, d'.cs⟩]⟩
noncomputable def wt2C (m : Nat) : List It := goN 60 3 [1, 0] (.code (bodyL wtC) :: .rnd m (bodyL wtC) :: wtC.k.tail)
set_option maxHeartbeats 8000000 in
theorem wt_end (w0 : World) (k : Nat) (hk : k < 6) (l : List Nat) (hl4 : l.length ≤ 40) (h256 : ∀ i, i < l.length → l.getD i 0 < 256) (pa : Option Addr) (lc lb lo : Nat) (hp : l.length = 0 ∨ pa = some ⟨lb, lo, none⟩) (hlb : l.length = 0 ∨ lb < w0.heap.size) (m : Nat) (d : Dk) (v : Value) (D : List (Int × ByteArray)) (hW : WI w0 k l l.length d D) (bb0 bb1 : Nat) (aa : Act) (w : World) (S : Sy w0 [] [bb0, bb1] (wtS k l.length l.length pa lc d v) [rfBy lb lo l, rfSt d.b d.o d.S, rfWs d.c d.p d.W, rfOwn w0.heap.size 46 2 v D.length (wasV D)] aa w) : post Try.prog (.rnd (m + 1) (bodyL wtC) :: wtC.k.tail) (bodyPost Try.prog Try.f23 fun e w' => ∃ (d : Dk) (v : Value) (D : List (Int × ByteArray)), e = .returned (.tuple #[d.v, v, .bool true]) ∧ WI w0 k l l.length d D ∧ StrAt w' d.b d.o d.S ∧ WasAt w' d.c d.p d.W ∧ w'.ownsRow w0.heap.size 46 2 v D.length (wasV D) ∧ Below w0.heap.size w0 w') .normal aa w := by
  refine sy_run (c := ⟨(.rnd (m + 1) (bodyL wtC) :: wtC.k.tail), wtS k l.length l.length pa lc d v⟩) ⟨0, [5]⟩ 50 S fun bs aa w S => ?_
  refine sy_reg S fun S => ?_
  refine sy_ops 4 S fun bs aa w S => ?_
  refine sy_cast 24 S (congrArg Value.bool (by simp : decide ((l.length : Int) < (l.length : Int)) = false)) (by kernel_rfl) fun S => ?_
  refine sy_run ⟨0, []⟩ 60 S fun bs aa w S => ?_
  exact sy_ret S (by kernel_rfl) (by kernel_rfl) fun hg => ⟨d, v, D, rfl, hW, S.fact (f := rfSt d.b d.o d.S) (by simp), S.fact (f := rfWs d.c d.p d.W) (by simp), S.fact (f := rfOwn w0.heap.size 46 2 v D.length (wasV D)) (by simp), bel_gr hg⟩
set_option maxHeartbeats 8000000 in
theorem wt_sync (w0 : World) (k : Nat) (hk : k < 6) (l : List Nat) (hl4 : l.length ≤ 40) (h256 : ∀ i, i < l.length → l.getD i 0 < 256) (pa : Option Addr) (lc lb lo : Nat) (hp : l.length = 0 ∨ pa = some ⟨lb, lo, none⟩) (hlb : l.length = 0 ∨ lb < w0.heap.size) (m i : Nat) (hi : i < l.length) (hc : l.getD i 0 = 255) (ih : ∀ (d : Dk) (v : Value) (D : List (Int × ByteArray)) (hW : WI w0 k l (i + 1) d D) (bb0 bb1 : Nat) (aa : Act) (w : World) (S : Sy w0 [] [bb0, bb1] (wtS k (i + 1) l.length pa lc d v) [rfBy lb lo l, rfSt d.b d.o d.S, rfWs d.c d.p d.W, rfOwn w0.heap.size 46 2 v D.length (wasV D)] aa w), post Try.prog (.rnd (m) (bodyL wtC) :: wtC.k.tail) (bodyPost Try.prog Try.f23 fun e w' => ∃ (d : Dk) (v : Value) (D : List (Int × ByteArray)), e = .returned (.tuple #[d.v, v, .bool true]) ∧ WI w0 k l l.length d D ∧ StrAt w' d.b d.o d.S ∧ WasAt w' d.c d.p d.W ∧ w'.ownsRow w0.heap.size 46 2 v D.length (wasV D) ∧ Below w0.heap.size w0 w') .normal aa w) (d : Dk) (v : Value) (D : List (Int × ByteArray)) (hW : WI w0 k l i d D) (bb0 bb1 : Nat) (aa : Act) (w : World) (S : Sy w0 [] [bb0, bb1] (wtS k i l.length pa lc d v) [rfBy lb lo l, rfSt d.b d.o d.S, rfWs d.c d.p d.W, rfOwn w0.heap.size 46 2 v D.length (wasV D)] aa w) : post Try.prog (.rnd (m + 1) (bodyL wtC) :: wtC.k.tail) (bodyPost Try.prog Try.f23 fun e w' => ∃ (d : Dk) (v : Value) (D : List (Int × ByteArray)), e = .returned (.tuple #[d.v, v, .bool true]) ∧ WI w0 k l l.length d D ∧ StrAt w' d.b d.o d.S ∧ WasAt w' d.c d.p d.W ∧ w'.ownsRow w0.heap.size 46 2 v D.length (wasV D) ∧ Below w0.heap.size w0 w') .normal aa w := by
  obtain rfl := hp.resolve_left (by omega)
  refine sy_run (c := ⟨(.rnd (m + 1) (bodyL wtC) :: wtC.k.tail), wtS k i l.length (some ⟨lb, lo, none⟩) lc d v⟩) ⟨0, [5]⟩ 50 S fun bs aa w S => ?_
  refine sy_reg S fun S => ?_
  refine sy_ops 4 S fun bs aa w S => ?_
  refine sy_cast 24 S (congrArg Value.bool (by simp; omega : decide ((i : Int) < (l.length : Int)) = true)) (by kernel_rfl) fun S => ?_
  refine sy_run ⟨0, [7]⟩ 60 S fun bs aa w S => ?_
  refine sy_reg S fun S => ?_
  refine sy_ops 2 S fun bs aa w S => ?_
  refine sy_ix (b := lb) (off := lo) (len := l.length) (n := i) (size := 1) (i := (i : Int)) S (by kernel_rfl) rfl hi fun aa S => ?_
  refine sy_ldo S (ld_at (ty := 5) (b := lb) (off := lo + i * 1) (by kernel_rfl) (by rw [Nat.mul_one]; exact S.fact (f := rfBy lb lo l) (by simp) i hi)) (by kernel_rfl) fun aa S => ?_
  refine sy_ops 1 S fun bs aa w S => ?_
  refine sy_cast 34 S (congrArg Value.bool (decide_eq_true (by rw [hc]; rfl) : decide (((l.getD i 0 : Nat) : Int) = 255) = true)) (by kernel_rfl) fun S => ?_
  refine sy_run ⟨0, [8]⟩ 60 S fun bs aa w S => ?_
  refine sy_reg S fun S => ?_
  refine sy_ops 1 S fun bs aa w S => ?_
  refine sy_call1 S (sync_t d w) (by kernel_rfl) fun aa w hb S => ?_
  refine sy_run ⟨0, [6]⟩ 60 S fun bs aa w S => ?_
  refine sy_reg S fun S => ?_
  refine sy_ops 2 S fun bs aa w S => ?_
  refine sy_cast 29 S (congrArg (Value.int .i64) (by rw [IntKind.wrap_i64]; omega : IntKind.i64.wrap ((i : Int) + 1) = ((i + 1 : Nat) : Int))) (by kernel_rfl) fun S => ?_
  refine sy_run ⟨0, [999]⟩ 50 S fun bs aa w S => ?_
  have S := S.add (rfWs d.c d.p []) (fun j hj => absurd hj (Nat.not_lt_zero _)) (fun i hi h => h.2 rfl)
  have S := S.sub (F' := [rfBy lb lo l, rfSt ((⟨d.sa, d.sl, d.sc, none, 0, 0, d.b, d.o, d.c, d.p, d.S, []⟩ : Dk)).b ((⟨d.sa, d.sl, d.sc, none, 0, 0, d.b, d.o, d.c, d.p, d.S, []⟩ : Dk)).o ((⟨d.sa, d.sl, d.sc, none, 0, 0, d.b, d.o, d.c, d.p, d.S, []⟩ : Dk)).S, rfWs ((⟨d.sa, d.sl, d.sc, none, 0, 0, d.b, d.o, d.c, d.p, d.S, []⟩ : Dk)).c ((⟨d.sa, d.sl, d.sc, none, 0, 0, d.b, d.o, d.c, d.p, d.S, []⟩ : Dk)).p ((⟨d.sa, d.sl, d.sc, none, 0, 0, d.b, d.o, d.c, d.p, d.S, []⟩ : Dk)).W, rfOwn w0.heap.size 46 2 v (D).length (wasV (D))]) (by intro f hf; simp only [List.mem_cons, List.not_mem_nil, or_false] at hf; rcases hf with rfl | rfl | rfl | rfl <;> simp)
  have S2 := S.to [0, 1] (wtS k (i + 1) l.length (some ⟨lb, lo, none⟩) lc ((⟨d.sa, d.sl, d.sc, none, 0, 0, d.b, d.o, d.c, d.p, d.S, []⟩ : Dk)) v) (by kernel_rfl) (by kernel_rfl) (by kernel_rfl) (by kernel_rfl) (by kernel_rfl)
  refine sy_at2 (k' := (.rnd (m) (bodyL wtC) :: wtC.k.tail)) (by kernel_rfl) ?_
  refine ih (⟨d.sa, d.sl, d.sc, none, 0, 0, d.b, d.o, d.c, d.p, d.S, []⟩ : Dk) v D ⟨⟨hW.ok.hS, hW.ok.hs, rfl, Or.inl ⟨rfl, rfl, rfl⟩, hW.ok.l1, Nat.zero_le _⟩, hW.sl, Nat.zero_le _, ?_, Nat.zero_le _, Nat.le_succ_of_le hW.dl, hW.hb.1, Or.inl rfl⟩ _ _ aa w S2
  rw [wall_succ _ _ _ hi, hW.eq, hc]
  rfl
theorem wt_rem (c k : Nat) (hc : c < 256) : Int.tmod (IntKind.i64.wrap (c : Int)) ((k + 1 : Nat) : Int) = ((c % (k + 1) : Nat) : Int) := by
  have e : IntKind.i64.wrap (c : Int) = (c : Int) := by rw [IntKind.wrap_i64]; omega
  rw [e]
  exact (Int.ofNat_tmod _ _).symm
theorem ap3 {w0 w : World} {v : Value} {n : Nat} {xs : List Value} {lb lo : Nat} {l : List Nat} {d' : Dk} (h : w.ownsRow w0.heap.size 46 2 v n xs) (hlb : l.length = 0 ∨ lb < w0.heap.size) (hvb : v.ownBlock ≠ some d'.b ∧ v.ownBlock ≠ some d'.c) : ∀ f ∈ [rfBy lb lo l, rfSt d'.b d'.o d'.S, rfWs d'.c d'.p d'.W], ∀ g, v.ownBlock = some g → ¬f.bl g := by
  intro f hf g hg hb
  have h1 := (h.lt g hg).1
  simp only [List.mem_cons, List.not_mem_nil, or_false] at hf
  rcases hf with rfl | rfl | rfl
  · obtain ⟨rfl, h2⟩ := hb; omega
  · obtain ⟨rfl, _⟩ := hb; exact hvb.1 hg
  · obtain ⟨rfl, _⟩ := hb; exact hvb.2 hg
set_option maxHeartbeats 8000000 in
theorem wt_2 (w0 : World) (k : Nat) (hk : k < 6) (l : List Nat) (hl4 : l.length ≤ 40) (h256 : ∀ i, i < l.length → l.getD i 0 < 256) (pa : Option Addr) (lc lb lo : Nat) (hp : l.length = 0 ∨ pa = some ⟨lb, lo, none⟩) (hlb : l.length = 0 ∨ lb < w0.heap.size) (m i : Nat) (hi : i < l.length) (hc : l.getD i 0 ≠ 255) (d d' : Dk) (v : Value) (D0 : List (Int × ByteArray)) (hW : WI w0 k l i d D0) (hd' : d'.ok) (hs' : d'.sl = d.sl) (hS' : d'.S = d.S.set (l.getD i 0 % (k + 1)) (fullS ((l.getD i 0 : Nat) : Int))) (hW' : d'.W = d.W ++ [((((l.getD i 0 % (k + 1)) : Nat) : Int), d.S.getD (l.getD i 0 % (k + 1)) ByteArray.empty)]) (htc : d'.tc ≤ 9223372036854775807) (hb' : w0.heap.size ≤ d'.b ∧ w0.heap.size ≤ d'.c) (hvb : v.ownBlock ≠ some d'.b ∧ v.ownBlock ≠ some d'.c) (ih : ∀ (d : Dk) (v : Value) (D : List (Int × ByteArray)) (hW : WI w0 k l (i + 1) d D) (bb0 bb1 : Nat) (aa : Act) (w : World) (S : Sy w0 [] [bb0, bb1] (wtS k (i + 1) l.length pa lc d v) [rfBy lb lo l, rfSt d.b d.o d.S, rfWs d.c d.p d.W, rfOwn w0.heap.size 46 2 v D.length (wasV D)] aa w), post Try.prog (.rnd (m) (bodyL wtC) :: wtC.k.tail) (bodyPost Try.prog Try.f23 fun e w' => ∃ (d : Dk) (v : Value) (D : List (Int × ByteArray)), e = .returned (.tuple #[d.v, v, .bool true]) ∧ WI w0 k l l.length d D ∧ StrAt w' d.b d.o d.S ∧ WasAt w' d.c d.p d.W ∧ w'.ownsRow w0.heap.size 46 2 v D.length (wasV D) ∧ Below w0.heap.size w0 w') .normal aa w) (bb0 bb1 bb2 : Nat) (aa : Act) (w : World) (S : Sy w0 [] [bb0, bb1, bb2] (wt2S k i l.length pa lc d d' v) [rfBy lb lo l, rfSt d'.b d'.o d'.S, rfWs d'.c d'.p d'.W, rfOwn w0.heap.size 46 2 v D0.length (wasV D0)] aa w) : post Try.prog (wt2C m) (bodyPost Try.prog Try.f23 fun e w' => ∃ (d : Dk) (v : Value) (D : List (Int × ByteArray)), e = .returned (.tuple #[d.v, v, .bool true]) ∧ WI w0 k l l.length d D ∧ StrAt w' d.b d.o d.S ∧ WasAt w' d.c d.p d.W ∧ w'.ownsRow w0.heap.size 46 2 v D.length (wasV D) ∧ Below w0.heap.size w0 w') .normal aa w := by
  obtain rfl := hp.resolve_left (by omega)
  have hI : (Try.prog.info? 46).map (fun i => (i.zero, i.size, i.bytes)) = some (some (.agg #[.int .i64 0, .string ByteArray.empty]), 2, 24) := by kernel_rfl
  obtain ⟨ii, hi1, hi2, hi3, hi4⟩ : ∃ ii, Try.prog.info? 46 = some ii ∧ ii.zero = some (.agg #[.int .i64 0, .string ByteArray.empty]) ∧ ii.size = 2 ∧ ii.bytes = 24 := by
    cases hi : Try.prog.info? 46 with
    | none => rw [hi] at hI; cases hI
    | some i =>
      rw [hi] at hI
      simp only [Option.map_some, Option.some.injEq, Prod.mk.injEq] at hI
      exact ⟨i, rfl, hI.1, hI.2.1, hI.2.2⟩
  refine sy_run (c := ⟨wt2C m, wt2S k i l.length (some ⟨lb, lo, none⟩) lc d d' v⟩) ⟨0, []⟩ 60 S fun bs aa w S => ?_
  letI : HF := ⟨[rfBy lb lo l]⟩
  refine dr_enter [] (by kernel_rfl) (by kernel_rfl) S (by kernel_rfl) (fun aa w D => ?_) (fun f hf => by have e : f = rfBy lb lo l := List.mem_singleton.1 hf; subst e; simp)
  refine dr_tix 3 D (by kernel_rfl) (by kernel_rfl) (by kernel_rfl) (b := lb) (off := lo) (len := l.length) (n := i) (size := 1) (ix := (i : Int)) (by kernel_rfl) rfl hi fun aa D => ?_
  refine dr_tld 4 D (by kernel_rfl) (by kernel_rfl) (by kernel_rfl) (ty := 5) (ad := ⟨lb, lo + i * 1, none⟩) (v := .int .u8 ((l.getD i 0 : Nat) : Int)) (fun W hW => ld_at (by kernel_rfl) (by rw [Nat.mul_one]; exact (show ByAt W lb lo l from hW _ (List.mem_singleton.2 rfl)) i hi)) (by kernel_rfl) fun aa D => ?_
  refine dr_tix 10 D (by kernel_rfl) (by kernel_rfl) (by kernel_rfl) (b := lb) (off := lo) (len := l.length) (n := i) (size := 1) (ix := (i : Int)) (by kernel_rfl) rfl hi fun aa D => ?_
  refine dr_tld 11 D (by kernel_rfl) (by kernel_rfl) (by kernel_rfl) (ty := 5) (ad := ⟨lb, lo + i * 1, none⟩) (v := .int .u8 ((l.getD i 0 : Nat) : Int)) (fun W hW => ld_at (by kernel_rfl) (by rw [Nat.mul_one]; exact (show ByAt W lb lo l from hW _ (List.mem_singleton.2 rfl)) i hi)) (by kernel_rfl) fun aa D => ?_
  refine dr_any [12] (by kernel_rfl) (by kernel_rfl) rfl (na1 ?_)
  · refine nx_call1 12 D (by kernel_rfl) (full_any ((l.getD i 0 : Nat) : Int) w) (by kernel_rfl) fun aa w D => ?_
    refine dr_any [14] (by kernel_rfl) (by kernel_rfl) rfl (na1 ?_)
    · refine nx_op 14 D (by kernel_rfl) (Nat.le_refl _) (by kernel_rfl) (by kernel_rfl) fun bs aa w D hl => ?_
      refine dr_any [15] (by kernel_rfl) (by kernel_rfl) rfl (na1 ?_)
      · refine have hap := (D.S.fs (rfOwn w0.heap.size 46 2 v D0.length (wasV D0)) (by simp)).2; nx_appO 15 w0.heap.size [rfBy lb lo l, rfSt d'.b d'.o d'.S, rfWs d'.c d'.p d'.W] D (by kernel_rfl) (u := .v v) (y := .s 3 0 1 1) (t := 23) (e := 46) (v := v) (n := D0.length) (ad := adr _ 3 0) (m := 1) (cp := 1) (size := 2) (bytes := 24) (xs := wasV D0) (news := [.int .i64 (Int.tmod (IntKind.i64.wrap ((l.getD i 0 : Nat) : Int)) ((k + 1 : Nat) : Int)), .string (fullS ((l.getD i 0 : Nat) : Int))]) (by kernel_rfl) Try.underlying23 hi1 hi2 hi3 hi4 rfl (by omega) rfl rfl (D.S.fact (f := rfOwn w0.heap.size 46 2 v D0.length (wasV D0)) (by simp)) D.S.gr.size (own3 (P := Try.prog) (ty := 46) (cs := [.int .i64 (Int.tmod (IntKind.i64.wrap ((l.getD i 0 : Nat) : Int)) ((k + 1 : Nat) : Int)), .string (fullS ((l.getD i 0 : Nat) : Int))]) D.S 3 (by kernel_rfl)) rfl (by intro u hu; simp only [List.mem_cons, List.not_mem_nil, or_false] at hu; rcases hu with rfl | rfl <;> rfl) (by have := hW.dl; simp only [maxLen]; omega) (by have := hW.dl; omega) (fun g hg => Or.inr ((D.S.fact (f := rfOwn w0.heap.size 46 2 v D0.length (wasV D0)) (by simp)).lt g hg).1) (fun f hf => ⟨by simp only [List.mem_cons, List.not_mem_nil, or_false] at hf; rcases hf with rfl | rfl | rfl <;> simp, ap3 (D.S.fact (f := rfOwn w0.heap.size 46 2 v D0.length (wasV D0)) (by simp)) hlb hvb f hf⟩) (fun f hf => by have e : f = rfBy lb lo l := List.mem_singleton.1 hf; subst e; simp) (fun j hj hb => (D.S.fs (rfOwn w0.heap.size 46 2 v D0.length (wasV D0)) (by simp)).2 j hj hb) fun v' aa w2 hO hg hnn hlt D => have D := D.addF (rfOwn w0.heap.size 46 2 v' (D0.length + 1) (wasV D0 ++ [Value.int IntKind.i64 (Int.tmod (IntKind.i64.wrap ((l.getD i 0 : Nat) : Int)) ((k + 1 : Nat) : Int)), Value.string (fullS ((l.getD i 0 : Nat) : Int))])) hO (fun j hj hb => (hnn _ hb).elim (fun q => hap j hj q) (fun q => by have := hlt j hj; omega)); ?_
        refine dr_end D (by kernel_rfl) fun S => ?_
        refine sy_run ⟨0, [6]⟩ 60 S fun bs aa w S => ?_
        refine sy_reg S fun S => ?_
        refine sy_ops 2 S fun bs aa w S => ?_
        refine sy_cast 29 S (congrArg (Value.int .i64) (by rw [IntKind.wrap_i64]; omega : IntKind.i64.wrap ((i : Int) + 1) = ((i + 1 : Nat) : Int))) (by kernel_rfl) fun S => ?_
        refine sy_run ⟨0, [999]⟩ 50 S fun bs aa w S => ?_
        have eD : wasV D0 ++ [Value.int IntKind.i64 (Int.tmod (IntKind.i64.wrap ((l.getD i 0 : Nat) : Int)) ((k + 1 : Nat) : Int)), Value.string (fullS ((l.getD i 0 : Nat) : Int))] = wasV (D0 ++ [((((l.getD i 0 % (k + 1)) : Nat) : Int), (fullS ((l.getD i 0 : Nat) : Int)))]) := by rw [wt_rem _ _ (h256 i hi), wasV_app]; rfl
        have eL : D0.length + 1 = (D0 ++ [((((l.getD i 0 % (k + 1)) : Nat) : Int), (fullS ((l.getD i 0 : Nat) : Int)))]).length := by simp
        rw [eD, eL] at S
        have S := S.sub (F' := [rfBy lb lo l, rfSt (d').b (d').o (d').S, rfWs (d').c (d').p (d').W, rfOwn w0.heap.size 46 2 v' ((D0 ++ [((((l.getD i 0 % (k + 1)) : Nat) : Int), (fullS ((l.getD i 0 : Nat) : Int)))])).length (wasV ((D0 ++ [((((l.getD i 0 % (k + 1)) : Nat) : Int), (fullS ((l.getD i 0 : Nat) : Int)))])))]) (by intro f hf; simp only [List.mem_cons, List.not_mem_nil, or_false] at hf; rcases hf with rfl | rfl | rfl | rfl <;> simp)
        have S2 := S.to [0, 1] (wtS k (i + 1) l.length (some ⟨lb, lo, none⟩) lc (d') v') (by kernel_rfl) (by kernel_rfl) (by kernel_rfl) (by kernel_rfl) (by kernel_rfl)
        refine sy_at2 (k' := (.rnd (m) (bodyL wtC) :: wtC.k.tail)) (by kernel_rfl) ?_
        refine ih d' v' (D0 ++ [((((l.getD i 0 % (k + 1)) : Nat) : Int), (fullS ((l.getD i 0 : Nat) : Int)))]) ⟨hd', hs'.trans hW.sl, htc, ?_, ?_, ?_, hb'.1, Or.inr hb'.2⟩ _ _ aa w S2
        · rw [wall_succ _ _ _ hi, hW.eq, hS', hW']
          simp only [wstep, if_neg hc]
        · rw [← hd'.hW, hW', List.length_append]; have := hW.tl; rw [← hW.ok.hW] at this; simpa using this
        · have := hW.dl; simpa using this
set_option maxHeartbeats 8000000 in
theorem wt_write (w0 : World) (k : Nat) (hk : k < 6) (l : List Nat) (hl4 : l.length ≤ 40) (h256 : ∀ i, i < l.length → l.getD i 0 < 256) (pa : Option Addr) (lc lb lo : Nat) (hp : l.length = 0 ∨ pa = some ⟨lb, lo, none⟩) (hlb : l.length = 0 ∨ lb < w0.heap.size) (m i : Nat) (hi : i < l.length) (hc : l.getD i 0 ≠ 255) (ih : ∀ (d : Dk) (v : Value) (D : List (Int × ByteArray)) (hW : WI w0 k l (i + 1) d D) (bb0 bb1 : Nat) (aa : Act) (w : World) (S : Sy w0 [] [bb0, bb1] (wtS k (i + 1) l.length pa lc d v) [rfBy lb lo l, rfSt d.b d.o d.S, rfWs d.c d.p d.W, rfOwn w0.heap.size 46 2 v D.length (wasV D)] aa w), post Try.prog (.rnd (m) (bodyL wtC) :: wtC.k.tail) (bodyPost Try.prog Try.f23 fun e w' => ∃ (d : Dk) (v : Value) (D : List (Int × ByteArray)), e = .returned (.tuple #[d.v, v, .bool true]) ∧ WI w0 k l l.length d D ∧ StrAt w' d.b d.o d.S ∧ WasAt w' d.c d.p d.W ∧ w'.ownsRow w0.heap.size 46 2 v D.length (wasV D) ∧ Below w0.heap.size w0 w') .normal aa w) (d : Dk) (v : Value) (D0 : List (Int × ByteArray)) (hW : WI w0 k l i d D0) (bb0 bb1 : Nat) (aa : Act) (w : World) (S : Sy w0 [] [bb0, bb1] (wtS k i l.length pa lc d v) [rfBy lb lo l, rfSt d.b d.o d.S, rfWs d.c d.p d.W, rfOwn w0.heap.size 46 2 v D0.length (wasV D0)] aa w) : post Try.prog (.rnd (m + 1) (bodyL wtC) :: wtC.k.tail) (bodyPost Try.prog Try.f23 fun e w' => ∃ (d : Dk) (v : Value) (D : List (Int × ByteArray)), e = .returned (.tuple #[d.v, v, .bool true]) ∧ WI w0 k l l.length d D ∧ StrAt w' d.b d.o d.S ∧ WasAt w' d.c d.p d.W ∧ w'.ownsRow w0.heap.size 46 2 v D.length (wasV D) ∧ Below w0.heap.size w0 w') .normal aa w := by
  have hp0 := hp
  obtain rfl := hp.resolve_left (by omega)
  refine sy_run (c := ⟨(.rnd (m + 1) (bodyL wtC) :: wtC.k.tail), wtS k i l.length (some ⟨lb, lo, none⟩) lc d v⟩) ⟨0, [5]⟩ 50 S fun bs aa w S => ?_
  refine sy_reg S fun S => ?_
  refine sy_ops 4 S fun bs aa w S => ?_
  refine sy_cast 24 S (congrArg Value.bool (by simp; omega : decide ((i : Int) < (l.length : Int)) = true)) (by kernel_rfl) fun S => ?_
  refine sy_run ⟨0, [7]⟩ 60 S fun bs aa w S => ?_
  refine sy_reg S fun S => ?_
  refine sy_ops 2 S fun bs aa w S => ?_
  refine sy_ix (b := lb) (off := lo) (len := l.length) (n := i) (size := 1) (i := (i : Int)) S (by kernel_rfl) rfl hi fun aa S => ?_
  refine sy_ldo S (ld_at (ty := 5) (b := lb) (off := lo + i * 1) (by kernel_rfl) (by rw [Nat.mul_one]; exact S.fact (f := rfBy lb lo l) (by simp) i hi)) (by kernel_rfl) fun aa S => ?_
  refine sy_ops 1 S fun bs aa w S => ?_
  refine sy_cast 34 S (congrArg Value.bool (decide_eq_false (by omega) : decide (((l.getD i 0 : Nat) : Int) = 255) = false)) (by kernel_rfl) fun S => ?_
  refine sy_run ⟨0, []⟩ 60 S fun bs aa w S => ?_
  letI : HF := ⟨[rfBy lb lo l]⟩
  refine dr_enter [1] (by kernel_rfl) (by kernel_rfl) S (by kernel_rfl) (fun aa w D => ?_) (fun f hf => by have e : f = rfBy lb lo l := List.mem_singleton.1 hf; subst e; simp)
  refine dr_tix 3 D (by kernel_rfl) (by kernel_rfl) (by kernel_rfl) (b := lb) (off := lo) (len := l.length) (n := i) (size := 1) (ix := (i : Int)) (by kernel_rfl) rfl hi fun aa D => ?_
  refine dr_tld 4 D (by kernel_rfl) (by kernel_rfl) (by kernel_rfl) (ty := 5) (ad := ⟨lb, lo + i * 1, none⟩) (v := .int .u8 ((l.getD i 0 : Nat) : Int)) (fun W hW => ld_at (by kernel_rfl) (by rw [Nat.mul_one]; exact (show ByAt W lb lo l from hW _ (List.mem_singleton.2 rfl)) i hi)) (by kernel_rfl) fun aa D => ?_
  refine dr_tix 10 D (by kernel_rfl) (by kernel_rfl) (by kernel_rfl) (b := lb) (off := lo) (len := l.length) (n := i) (size := 1) (ix := (i : Int)) (by kernel_rfl) rfl hi fun aa D => ?_
  refine dr_tld 11 D (by kernel_rfl) (by kernel_rfl) (by kernel_rfl) (ty := 5) (ad := ⟨lb, lo + i * 1, none⟩) (v := .int .u8 ((l.getD i 0 : Nat) : Int)) (fun W hW => ld_at (by kernel_rfl) (by rw [Nat.mul_one]; exact (show ByAt W lb lo l from hW _ (List.mem_singleton.2 rfl)) i hi)) (by kernel_rfl) fun aa D => ?_
  refine dr_any [12, 17] (by kernel_rfl) (by kernel_rfl) rfl (na2 ?_ ?_)
  · refine nx_call1 12 D (by kernel_rfl) (full_any ((l.getD i 0 : Nat) : Int) w) (by kernel_rfl) fun aa w D => ?_
    refine dr_any [13, 17] (by kernel_rfl) (by kernel_rfl) rfl (na2 ?_ ?_)
    · refine have hlt := fun j hj => D.S.lt (i := j) hj; have hro := D.S.fact (f := rfOwn w0.heap.size 46 2 v D0.length (wasV D0)) (by simp); have hgs := D.S.gr.size; nx_call 13 D (by kernel_rfl) (X := Dk) (val := fun d' => .tuple #[d'.v, .int .i64 0]) (C := (fun d' w' => d'.ok ∧ d'.sl = d.sl ∧ d'.S = d.S.set (l.getD i 0 % (k + 1)) (fullS ((l.getD i 0 : Nat) : Int)) ∧ d'.W = d.W ++ [((((l.getD i 0 % (k + 1)) : Nat) : Int), d.S.getD (l.getD i 0 % (k + 1)) ByteArray.empty)] ∧ d'.tc ≤ 9223372036854775807 ∧ (w.heap.size ≤ d'.b ∧ w.heap.size ≤ d'.c) ∧ StrAt w' d'.b d'.o d'.S ∧ WasAt w' d'.c d'.p d'.W)) (f := 17) (args := #[d.v, .int .i64 (Int.tmod (IntKind.i64.wrap ((l.getD i 0 : Nat) : Int)) ((k + 1 : Nat) : Int)), .string (fullS ((l.getD i 0 : Nat) : Int))]) (by rw [wt_rem _ _ (h256 i hi)]; exact (write_t w d hW.ok (l.getD i 0 % (k + 1)) (by rw [hW.sl]; exact Nat.mod_lt _ (Nat.succ_pos _)) (fullS ((l.getD i 0 : Nat) : Int)) (full_size _) hW.tc (by have := hW.tl; omega) (D.S.fact (f := rfSt d.b d.o d.S) (by simp)) (D.S.fact (f := rfWs d.c d.p d.W) (by simp))).mono fun e w' ⟨d', q1, q2, q3, q4, q5, q6, q7, q8, q9, q10⟩ => ⟨d', q1, ⟨q2, q3, q4, q5, q6, q7, q8, q9⟩, q10⟩) (by kernel_rfl) fun d' aa w2 hC hb2 D => have D := (D.addF (rfSt d'.b d'.o d'.S) hC.2.2.2.2.2.2.1 (fun j hj hb => by have h1 := hlt j hj; have h2 := hC.2.2.2.2.2.1.1; obtain ⟨h3, _⟩ := hb; omega)).addF (rfWs d'.c d'.p d'.W) hC.2.2.2.2.2.2.2 (fun j hj hb => by have h1 := hlt j hj; have h2 := hC.2.2.2.2.2.1.2; obtain ⟨h3, _⟩ := hb; omega); ?_
      refine dr_any [17] (by kernel_rfl) (by kernel_rfl) rfl (na1 ?_)
      · refine nx_op 17 D (by kernel_rfl) (Nat.le_refl _) (by kernel_rfl) (by kernel_rfl) fun bs aa w D hl => ?_
        refine dr_any [18] (by kernel_rfl) (by kernel_rfl) rfl (na1 ?_)
        · refine nx_op 18 D (by kernel_rfl) hl (by kernel_rfl) (by kernel_rfl) fun bs aa w D hl => ?_
          refine dr_end D (by kernel_rfl) fun S => ?_
          obtain ⟨q2, q3, q4, q5, q6, q7, _, _⟩ := hC
          have S := S.sub (F' := [rfBy lb lo l, rfSt d'.b d'.o d'.S, rfWs d'.c d'.p d'.W, rfOwn w0.heap.size 46 2 v D0.length (wasV D0)]) (by intro f hf; simp only [List.mem_cons, List.not_mem_nil, or_false] at hf; rcases hf with rfl | rfl | rfl | rfl <;> simp)
          have S2 := S.to [0, 1, 2] (wt2S k i l.length (some ⟨lb, lo, none⟩) lc d d' v) (by kernel_rfl) (by kernel_rfl) (by kernel_rfl) (by kernel_rfl) (by kernel_rfl)
          refine sy_at2 (k' := wt2C m) (by kernel_rfl) ?_
          exact wt_2 w0 k hk l hl4 h256 _ lc lb lo hp hlb m i hi hc d d' v D0 hW q2 q3 q4 q5 q6 ⟨by omega, by omega⟩ ⟨fun e => by have := (hro.lt _ e).2; omega, fun e => by have := (hro.lt _ e).2; omega⟩ ih _ _ _ aa w S2
    · refine nx_op 17 D (by kernel_rfl) (Nat.le_refl _) (by kernel_rfl) (by kernel_rfl) fun bs aa w D hl => ?_
      refine dr_any [13] (by kernel_rfl) (by kernel_rfl) rfl (na1 ?_)
      · refine have hlt := fun j hj => D.S.lt (i := j) hj; have hro := D.S.fact (f := rfOwn w0.heap.size 46 2 v D0.length (wasV D0)) (by simp); have hgs := D.S.gr.size; nx_call 13 D (by kernel_rfl) (X := Dk) (val := fun d' => .tuple #[d'.v, .int .i64 0]) (C := (fun d' w' => d'.ok ∧ d'.sl = d.sl ∧ d'.S = d.S.set (l.getD i 0 % (k + 1)) (fullS ((l.getD i 0 : Nat) : Int)) ∧ d'.W = d.W ++ [((((l.getD i 0 % (k + 1)) : Nat) : Int), d.S.getD (l.getD i 0 % (k + 1)) ByteArray.empty)] ∧ d'.tc ≤ 9223372036854775807 ∧ (w.heap.size ≤ d'.b ∧ w.heap.size ≤ d'.c) ∧ StrAt w' d'.b d'.o d'.S ∧ WasAt w' d'.c d'.p d'.W)) (f := 17) (args := #[d.v, .int .i64 (Int.tmod (IntKind.i64.wrap ((l.getD i 0 : Nat) : Int)) ((k + 1 : Nat) : Int)), .string (fullS ((l.getD i 0 : Nat) : Int))]) (by rw [wt_rem _ _ (h256 i hi)]; exact (write_t w d hW.ok (l.getD i 0 % (k + 1)) (by rw [hW.sl]; exact Nat.mod_lt _ (Nat.succ_pos _)) (fullS ((l.getD i 0 : Nat) : Int)) (full_size _) hW.tc (by have := hW.tl; omega) (D.S.fact (f := rfSt d.b d.o d.S) (by simp)) (D.S.fact (f := rfWs d.c d.p d.W) (by simp))).mono fun e w' ⟨d', q1, q2, q3, q4, q5, q6, q7, q8, q9, q10⟩ => ⟨d', q1, ⟨q2, q3, q4, q5, q6, q7, q8, q9⟩, q10⟩) (by kernel_rfl) fun d' aa w2 hC hb2 D => have D := (D.addF (rfSt d'.b d'.o d'.S) hC.2.2.2.2.2.2.1 (fun j hj hb => by have h1 := hlt j hj; have h2 := hC.2.2.2.2.2.1.1; obtain ⟨h3, _⟩ := hb; omega)).addF (rfWs d'.c d'.p d'.W) hC.2.2.2.2.2.2.2 (fun j hj hb => by have h1 := hlt j hj; have h2 := hC.2.2.2.2.2.1.2; obtain ⟨h3, _⟩ := hb; omega); ?_
        refine dr_any [18] (by kernel_rfl) (by kernel_rfl) rfl (na1 ?_)
        · refine nx_op 18 D (by kernel_rfl) hl (by kernel_rfl) (by kernel_rfl) fun bs aa w D hl => ?_
          refine dr_end D (by kernel_rfl) fun S => ?_
          obtain ⟨q2, q3, q4, q5, q6, q7, _, _⟩ := hC
          have S := S.sub (F' := [rfBy lb lo l, rfSt d'.b d'.o d'.S, rfWs d'.c d'.p d'.W, rfOwn w0.heap.size 46 2 v D0.length (wasV D0)]) (by intro f hf; simp only [List.mem_cons, List.not_mem_nil, or_false] at hf; rcases hf with rfl | rfl | rfl | rfl <;> simp)
          have S2 := S.to [0, 1, 2] (wt2S k i l.length (some ⟨lb, lo, none⟩) lc d d' v) (by kernel_rfl) (by kernel_rfl) (by kernel_rfl) (by kernel_rfl) (by kernel_rfl)
          refine sy_at2 (k' := wt2C m) (by kernel_rfl) ?_
          exact wt_2 w0 k hk l hl4 h256 _ lc lb lo hp hlb m i hi hc d d' v D0 hW q2 q3 q4 q5 q6 ⟨by omega, by omega⟩ ⟨fun e => by have := (hro.lt _ e).2; omega, fun e => by have := (hro.lt _ e).2; omega⟩ ih _ _ _ aa w S2
  · refine nx_op 17 D (by kernel_rfl) (Nat.le_refl _) (by kernel_rfl) (by kernel_rfl) fun bs aa w D hl => ?_
    refine dr_any [12] (by kernel_rfl) (by kernel_rfl) rfl (na1 ?_)
    · refine nx_call1 12 D (by kernel_rfl) (full_any ((l.getD i 0 : Nat) : Int) w) (by kernel_rfl) fun aa w D => ?_
      refine dr_any [13] (by kernel_rfl) (by kernel_rfl) rfl (na1 ?_)
      · refine have hlt := fun j hj => D.S.lt (i := j) hj; have hro := D.S.fact (f := rfOwn w0.heap.size 46 2 v D0.length (wasV D0)) (by simp); have hgs := D.S.gr.size; nx_call 13 D (by kernel_rfl) (X := Dk) (val := fun d' => .tuple #[d'.v, .int .i64 0]) (C := (fun d' w' => d'.ok ∧ d'.sl = d.sl ∧ d'.S = d.S.set (l.getD i 0 % (k + 1)) (fullS ((l.getD i 0 : Nat) : Int)) ∧ d'.W = d.W ++ [((((l.getD i 0 % (k + 1)) : Nat) : Int), d.S.getD (l.getD i 0 % (k + 1)) ByteArray.empty)] ∧ d'.tc ≤ 9223372036854775807 ∧ (w.heap.size ≤ d'.b ∧ w.heap.size ≤ d'.c) ∧ StrAt w' d'.b d'.o d'.S ∧ WasAt w' d'.c d'.p d'.W)) (f := 17) (args := #[d.v, .int .i64 (Int.tmod (IntKind.i64.wrap ((l.getD i 0 : Nat) : Int)) ((k + 1 : Nat) : Int)), .string (fullS ((l.getD i 0 : Nat) : Int))]) (by rw [wt_rem _ _ (h256 i hi)]; exact (write_t w d hW.ok (l.getD i 0 % (k + 1)) (by rw [hW.sl]; exact Nat.mod_lt _ (Nat.succ_pos _)) (fullS ((l.getD i 0 : Nat) : Int)) (full_size _) hW.tc (by have := hW.tl; omega) (D.S.fact (f := rfSt d.b d.o d.S) (by simp)) (D.S.fact (f := rfWs d.c d.p d.W) (by simp))).mono fun e w' ⟨d', q1, q2, q3, q4, q5, q6, q7, q8, q9, q10⟩ => ⟨d', q1, ⟨q2, q3, q4, q5, q6, q7, q8, q9⟩, q10⟩) (by kernel_rfl) fun d' aa w2 hC hb2 D => have D := (D.addF (rfSt d'.b d'.o d'.S) hC.2.2.2.2.2.2.1 (fun j hj hb => by have h1 := hlt j hj; have h2 := hC.2.2.2.2.2.1.1; obtain ⟨h3, _⟩ := hb; omega)).addF (rfWs d'.c d'.p d'.W) hC.2.2.2.2.2.2.2 (fun j hj hb => by have h1 := hlt j hj; have h2 := hC.2.2.2.2.2.1.2; obtain ⟨h3, _⟩ := hb; omega); ?_
        refine dr_any [18] (by kernel_rfl) (by kernel_rfl) rfl (na1 ?_)
        · refine nx_op 18 D (by kernel_rfl) hl (by kernel_rfl) (by kernel_rfl) fun bs aa w D hl => ?_
          refine dr_end D (by kernel_rfl) fun S => ?_
          obtain ⟨q2, q3, q4, q5, q6, q7, _, _⟩ := hC
          have S := S.sub (F' := [rfBy lb lo l, rfSt d'.b d'.o d'.S, rfWs d'.c d'.p d'.W, rfOwn w0.heap.size 46 2 v D0.length (wasV D0)]) (by intro f hf; simp only [List.mem_cons, List.not_mem_nil, or_false] at hf; rcases hf with rfl | rfl | rfl | rfl <;> simp)
          have S2 := S.to [0, 1, 2] (wt2S k i l.length (some ⟨lb, lo, none⟩) lc d d' v) (by kernel_rfl) (by kernel_rfl) (by kernel_rfl) (by kernel_rfl) (by kernel_rfl)
          refine sy_at2 (k' := wt2C m) (by kernel_rfl) ?_
          exact wt_2 w0 k hk l hl4 h256 _ lc lb lo hp hlb m i hi hc d d' v D0 hW q2 q3 q4 q5 q6 ⟨by omega, by omega⟩ ⟨fun e => by have := (hro.lt _ e).2; omega, fun e => by have := (hro.lt _ e).2; omega⟩ ih _ _ _ aa w S2
theorem wt_all (w0 : World) (k : Nat) (hk : k < 6) (l : List Nat) (hl4 : l.length ≤ 40) (h256 : ∀ i, i < l.length → l.getD i 0 < 256) (pa : Option Addr) (lc lb lo : Nat) (hp : l.length = 0 ∨ pa = some ⟨lb, lo, none⟩) (hlb : l.length = 0 ∨ lb < w0.heap.size) : ∀ (r i : Nat), i + r = l.length → ∀ (d : Dk) (v : Value) (D : List (Int × ByteArray)) (hW : WI w0 k l i d D) (bb0 bb1 : Nat) (aa : Act) (w : World) (S : Sy w0 [] [bb0, bb1] (wtS k i l.length pa lc d v) [rfBy lb lo l, rfSt d.b d.o d.S, rfWs d.c d.p d.W, rfOwn w0.heap.size 46 2 v D.length (wasV D)] aa w), post Try.prog (.rnd (r + 1) (bodyL wtC) :: wtC.k.tail) (bodyPost Try.prog Try.f23 fun e w' => ∃ (d : Dk) (v : Value) (D : List (Int × ByteArray)), e = .returned (.tuple #[d.v, v, .bool true]) ∧ WI w0 k l l.length d D ∧ StrAt w' d.b d.o d.S ∧ WasAt w' d.c d.p d.W ∧ w'.ownsRow w0.heap.size 46 2 v D.length (wasV D) ∧ Below w0.heap.size w0 w') .normal aa w := by
  intro r
  induction r with
  | zero => intro i hi d v D hW bb0 bb1 aa w S; obtain rfl : i = l.length := by omega
            exact wt_end w0 k hk l hl4 h256 pa lc lb lo hp hlb 0 d v D hW bb0 bb1 aa w S
  | succ r ih =>
    intro i hi d v D hW bb0 bb1 aa w S
    by_cases hc : l.getD i 0 = 255
    · exact wt_sync w0 k hk l hl4 h256 pa lc lb lo hp hlb (r + 1) i (by omega) hc (ih (i + 1) (by omega)) d v D hW bb0 bb1 aa w S
    · exact wt_write w0 k hk l hl4 h256 pa lc lb lo hp hlb (r + 1) i (by omega) hc (ih (i + 1) (by omega)) d v D hW bb0 bb1 aa w S
set_option maxHeartbeats 8000000 in
theorem written_t (w0 : World) (k : Nat) (hk : k < 6) (l : List Nat) (hl4 : l.length ≤ 40) (h256 : ∀ i, i < l.length → l.getD i 0 < 256) (pa : Option Addr) (lc lb lo : Nat) (hp : l.length = 0 ∨ pa = some ⟨lb, lo, none⟩) (hL : ByAt w0 lb lo l) : Calls Try.prog 23 #[.int .i64 ((k + 1 : Nat) : Int), .slice pa l.length lc] w0 fun e w' => ∃ (d : Dk) (v : Value) (D : List (Int × ByteArray)), e = .returned (.tuple #[d.v, v, .bool true]) ∧ WI w0 k l l.length d D ∧ StrAt w' d.b d.o d.S ∧ WasAt w' d.c d.p d.W ∧ w'.ownsRow w0.heap.size 46 2 v D.length (wasV D) ∧ Below w0.heap.size w0 w' := by
  have hlb : l.length = 0 ∨ lb < w0.heap.size := by
    by_cases h : l.length = 0
    · exact Or.inl h
    · exact Or.inr ((rfBy lb lo l).lt w0 hL lb ⟨rfl, h⟩)
  refine sy_enterF [] [rfBy lb lo l] (by intro f hf; simp only [List.mem_singleton] at hf; subst hf; exact hL) Try.func23 rfl rfl fun aa S => ?_
  refine sy_run ⟨0, [1]⟩ 60 S fun bs aa w S => ?_
  refine sy_reg S fun S => ?_
  refine sy_ops 1 S fun bs aa w S => ?_
  have hlt := fun j hj => S.lt (i := j) hj
  have hgs := S.gr.size
  refine sy_call S (X := Nat) (val := fun b => .tuple #[.agg #[.slice (some ⟨b, 0, none⟩) (k + 1) (k + 1), .slice none 0 0], .int .i64 0]) (C := fun b w' => w.heap.size ≤ b ∧ w'.heap[b]? = some (.cells (zS (k + 1) (k + 1)).toArray 9 (0, 0))) ((new_t (k + 1) (by omega) w).mono fun e w' ⟨b, h1, ⟨h2, h3⟩, h4⟩ => ⟨b, h2, ⟨h1, h3⟩, h4⟩) (by kernel_rfl) fun b aa w1 hC hb S => ?_
  have S := S.add (rfSt b 0 (List.replicate (k + 1) z32)) (strAt_of (n := k + 1) hC.2 (by simp [zS])) (fun j hj hb => by have h1 := hlt j hj; have h2 := hC.1; obtain ⟨h3, _⟩ := hb; omega)
  have S := S.add (rfWs 0 0 []) (fun j hj => absurd hj (Nat.not_lt_zero _)) (fun i hi h => h.2 rfl)
  have S := S.add (rfOwn w0.heap.size 46 2 (.slice none 0 0) ([] : List (Int × ByteArray)).length (wasV [])) (World.ownsRow_nil _ _ _ _) (fun i hi h => by cases h)
  refine sy_run ⟨0, []⟩ 60 S fun bs aa w S => ?_
  have S := S.sub (F' := [rfBy lb lo l, rfSt b 0 (List.replicate (k + 1) z32), rfWs 0 0 [], rfOwn w0.heap.size 46 2 (.slice none 0 0) ([] : List (Int × ByteArray)).length (wasV [])]) (by intro f hf; simp only [List.mem_cons, List.not_mem_nil, or_false] at hf; rcases hf with rfl | rfl | rfl | rfl <;> simp)
  have S' := S.to [0, 1] (wtS k 0 l.length pa lc ⟨some ⟨b, 0, none⟩, k + 1, k + 1, none, 0, 0, b, 0, 0, 0, List.replicate (k + 1) z32, []⟩ (.slice none 0 0)) (by kernel_rfl) (by kernel_rfl) (by kernel_rfl) (by kernel_rfl) (by kernel_rfl)
  refine sy_loop (l.length + 1) (by kernel_rfl) ?_
  refine sy_at2 (k' := (.rnd (l.length + 1) (bodyL wtC) :: wtC.k.tail)) (by kernel_rfl) ?_
  exact wt_all w0 k hk l hl4 h256 pa lc lb lo hp hlb l.length 0 (by omega) ⟨some ⟨b, 0, none⟩, k + 1, k + 1, none, 0, 0, b, 0, 0, 0, List.replicate (k + 1) z32, []⟩ (.slice none 0 0) [] ⟨⟨by simp, Or.inr rfl, rfl, Or.inl ⟨rfl, rfl, rfl⟩, by show k + 1 ≤ 512; omega, Nat.zero_le _⟩, rfl, Nat.zero_le _, rfl, Nat.zero_le _, Nat.zero_le _, by show w0.heap.size ≤ b; have := hC.1; omega, Or.inl rfl⟩ _ _ aa w S'
end Go.Proofs.Ytnlcjlhcghgaoaa
