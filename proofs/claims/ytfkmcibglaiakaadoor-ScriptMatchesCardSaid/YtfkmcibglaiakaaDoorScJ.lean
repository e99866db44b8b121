
/-
  Layer 27: the text of a script.
-/
import Derived.Test.YtfkmcibglaiakaaDoorScI
import Derived.Shelf.RegionOpen
namespace Go.Proofs.YtfkmcibglaiakaaDoor
set_option linter.unusedVariables false
open Go.ChangeShapes Go.WideShapes Go.ChangeAt Go.RowKit Go.Shelf
attribute [local go_sem] Oper.semAt_some
set_option maxRecDepth 100000
abbrev TA : TypeId := 49
abbrev EA : TypeId := 9
abbrev TK : TypeId := 25
abbrev TKS : TypeId := 22
/-- A block's cells. -/
def Cz (W : World) (B : Nat) (t : TypeId) (cs : Array Value) : Prop := W.heap[B]? = some (.cells cs t (0, 0))
theorem Cz.lt {W : World} {B : Nat} {t : TypeId} {cs : Array Value} (h : Cz W B t cs) : B < W.heap.size := (Array.getElem?_eq_some_iff.1 h).1
theorem Cz.cell {W : World} {B : Nat} {t : TypeId} {cs : Array Value} (h : Cz W B t cs) (j : Nat) (v : Value) (hv : cs[j]? = some v) : W.cell? ⟨B, j, none⟩ = some v := by simp [World.cell?, show W.heap[B]? = _ from h, hv]
theorem Cz.frozen {W : World} {B : Nat} {t : TypeId} {cs : Array Value} (h : Cz W B t cs) (j : Nat) : W.frozen? ⟨B, j, none⟩ = false := by simp [World.frozen?, show W.heap[B]? = _ from h]
theorem Cz.new (W : World) (t : TypeId) (cs : Array Value) : Cz (W.alloc (.cells cs t)) W.heap.size t cs := World.alloc_heap_new W _
theorem Cz.kept {W W' : World} {row : Option Nat} {B : Nat} {t : TypeId} {cs : Array Value} (h : Cz W B t cs) (hg : W.grownBy W' row) (hne : some B ≠ row) : Cz W' B t cs := (hg.block B h.lt hne).trans h
theorem Cz.alloc {W : World} {B : Nat} {t : TypeId} {cs : Array Value} (h : Cz W B t cs) (o : Obj) : Cz (W.alloc o) B t cs := h.kept (World.grownBy_alloc W o none) (by simp)
theorem Cz.below {n0 : Nat} {W W' : World} {B : Nat} {t : TypeId} {cs : Array Value} (h : Cz W B t cs) (hb : Below n0 W W') (hB : B < n0) : Cz W' B t cs := (hb.block B hB).trans h
theorem Cz.other {W : World} {B B' j : Nat} {t : TypeId} {cs : Array Value} {v : Value} (h : Cz W B t cs) (hne : B ≠ B') : Cz (W.setCell ⟨B', j, none⟩ v) B t cs := (Below.heap_setCell _ _ _ B (by simpa using hne)).trans h
theorem Cz.setE {W : World} {B j : Nat} {t : TypeId} {cs cs' : Array Value} {v : Value} (h : Cz W B t cs) (e : cs.setIfInBounds j v = cs') : Cz (W.setCell ⟨B, j, none⟩ v) B t cs' := by
  unfold Cz
  have h' : W.heap[B]? = some (.cells cs t (0, 0)) := h
  simp only [World.setCell, Array.getElem?_modify]
  simp [h', ← e]
theorem Cz.drew {W : World} {B : Nat} {t : TypeId} {cs : Array Value} (h : Cz W B t cs) : Cz W.drew B t cs := h
theorem cz_own {β : Type} (B : Nat) (t : TypeId) (f : β → Array Value) : Own (fun s W => Cz W B t (f s)) := by
  rintro s W W' row h hg hr
  refine (hg.block B (Cz.lt h) (fun e => ?_)).trans h
  obtain ⟨o, ho, hc⟩ := hr B e.symm
  rw [show W.heap[B]? = _ from h] at ho; cases ho; cases hc
theorem lit_cells (w : World) (xs : List Value) (t : TypeId) : ∀ j u, xs[j]? = some u → (w.alloc (.cells xs.toArray t)).cell? ((⟨w.heap.size, 0, none⟩ : Addr).add j) = some u := by
  intro j u h
  have := World.alloc_heap_new w (.cells xs.toArray t)
  have e : (⟨w.heap.size, 0, none⟩ : Addr).add j = ⟨w.heap.size, j, none⟩ := by cases j <;> simp [Addr.add]
  rw [e]
  unfold World.cell?
  rw [this]
  simpa using h

theorem row_block {W : World} {n0 : Nat} {v : Value} {n : Nat} {xs : List Value} (h : W.ownsRow n0 EA 1 v n xs) {o : Nat} (ho : v.ownBlock = some o) : n0 ≤ o ∧ ∃ cur, W.heap[o]? = some (.cells cur EA (0, 0)) := by
  rcases h.2 with ⟨rfl, _⟩ | ⟨g, cap, cur, rfl, h1, h2, _⟩
  · cases ho
  · simp only [Value.ownBlock, Option.some.injEq] at ho
    subst ho
    exact ⟨h1, cur, h2⟩
theorem heap_lt {W : World} {k : Nat} {o : Obj} (h : W.heap[k]? = some o) : k < W.heap.size := (Array.getElem?_eq_some_iff.1 h).1
theorem grown_of_below {W W' : World} (h : Below W.heap.size W W') : W.grownBy W' none := ⟨h.os, h.tape, h.output, h.size, fun k hk _ => h.block k hk⟩
/-- The variable is as it was behind the append. -/
theorem box_keep {W w2 w3 : World} {A n0 n : Nat} {v : Value} {xs : List Value} {o : Obj} (hv : Boxed W A TA v) (hrow : W.ownsRow n0 EA 1 v n xs) (hb : Below W.heap.size W w2) (hgrow : (w2.alloc o).grownBy w3 v.ownBlock) :
    w3.heap[A]? = some (.cells #[v] TA (0, 0)) ∧ w3.cell? ⟨A, 0, none⟩ = some v ∧ w3.frozen? ⟨A, 0, none⟩ = false := by
  have hA := heap_lt hv
  have hs2 := hb.size
  have hne : v.ownBlock ≠ some A := fun e => by
    obtain ⟨_, cur, hcur⟩ := row_block hrow e
    rw [show W.heap[A]? = _ from hv] at hcur
    simp [TA, EA] at hcur
  have h3 : w3.heap[A]? = some (.cells #[v] TA (0, 0)) := by
    rw [hgrow.block A (by rw [World.size_alloc]; omega) (fun e => hne e.symm), Below.heap_alloc _ _ _ (by omega), hb.block A hA]
    exact hv
  exact ⟨h3, by simp [World.cell?, h3], by simp [World.frozen?, h3]⟩
/-- The word of a run. -/
def wordX (ps : List Pk) (x : Rn ps) : List Nat := wordT (ps.getD x.1.1 pk0).w (x.1.2 : Int)
def wsV (ps : List Pk) (pre : List (Rn ps)) : List Value := stV (pre.map (wordX ps))
theorem wsV_snoc (ps : List Pk) (pre : List (Rn ps)) (x : Rn ps) : wsV ps (pre ++ [x]) = wsV ps pre ++ [.string (strOf (wordX ps x))] := by unfold wsV; rw [List.map_append]; exact stV_snoc _ _
/-- What a round leaves. -/
theorem round_end {w W w2 w3 : World} {ps : List Pk} {pre : List (Rn ps)} {x : Rn ps} {v v' sl : Value} {o : Obj} {h B : Nat} {wd : List Nat} (hwd : wordX ps x = wd) (hn : h ≤ W.heap.size) (hB : Below h w W) (hL : Cz W (h + 1) TKS #[sl]) (hv : Boxed W h TA v) (hrow : W.ownsRow h EA 1 v pre.length (wsV ps pre))
    (hb2 : Below W.heap.size W w2) (hrow3 : w3.ownsRow h EA 1 v' (pre.length + 1) (wsV ps pre ++ [.string (strOf wd)])) (hgrow : (w2.alloc o).grownBy w3 v.ownBlock) :
    KeepsFrom B W (w3.setCell ⟨h, 0, none⟩ v') ∧ KpB h (h + 1) W (w3.setCell ⟨h, 0, none⟩ v') ∧ ((∃ u, Boxed (w3.setCell ⟨h, 0, none⟩ v') h TA u ∧ (w3.setCell ⟨h, 0, none⟩ v').ownsRow h EA 1 u (pre ++ [x]).length (wsV ps (pre ++ [x])) ∧ (u = .slice none 0 0 ↔ pre ++ [x] = [])) ∧ Cz (w3.setCell ⟨h, 0, none⟩ v') (h + 1) TKS #[sl]) ∧ Below h w (w3.setCell ⟨h, 0, none⟩ v') := by
  subst hwd
  have g2 := grown_of_below hb2
  have hv2 : Boxed w2 h TA v := hv.kept g2 (by simp)
  have hr2 := owns_below hrow hb2
  have hs2 := hb2.size
  obtain ⟨k1, k2, k3, k4, k5⟩ := hv2.appended (by decide) hr2 (by omega) (Nat.le_refl _) hrow3 hgrow
  have hKO : KeepsOthers W w2 := KeepsOthers.of_grownBy g2 fun j ob ej => by cases ej
  have hne : v.ownBlock ≠ some (h + 1) := fun e => by
    obtain ⟨_, cur, hcur⟩ := row_block hrow e
    rw [show W.heap[h + 1]? = _ from hL] at hcur
    simp [EA, TKS] at hcur
  have hlt := heap_lt hL
  have hL3 : (w3.setCell ⟨h, 0, none⟩ v').heap[h + 1]? = W.heap[h + 1]? := by
    rw [(grownBy_setCell' w3 h v').block (h + 1) (by have := hgrow.size; rw [World.size_alloc] at this; omega) (fun e => by have := Option.some.inj e; omega), hgrow.block (h + 1) (by rw [World.size_alloc]; omega) (fun e => hne e.symm), Below.heap_alloc _ _ _ (by omega), hb2.block (h + 1) hlt]
  refine ⟨(hKO.trans k4).from B, ⟨(hb2.mono hn).trans k5, hL3⟩, ⟨⟨v', k2, ?_, ?_⟩, ?_⟩, (hB.trans (hb2.mono hn)).trans k5⟩
  · rw [wsV_snoc, List.length_append]
    exact k3
  · obtain ⟨g, cap, rfl⟩ := ownsRow_succ hrow3
    simp
  · exact hL3.trans hL
/-- append, closed to the walk. -/
noncomputable def apA (ats : Array TypeId) (ty : TypeId) (args : Array Value) : Sem Value := Builtin.append_ ats ty args
theorem apA_eq (ats : Array TypeId) (ty : TypeId) (args : Array Value) : Builtin.append_ ats ty args = apA ats ty args := rfl
attribute [local go_sem ↓] apA_eq

set_option maxHeartbeats 1000000 in
theorem runs_in (n : Nat) (a : Option Addr) (len cap : Nat) (w : World) :
    CallsIn Fence.wide n Tryd.prog 31 #[.slice a len cap] w fun e w' => e = .returned (.func (.func 42) #[] #[.pointer (some ⟨w.heap.size, 0, none⟩)]) ∧ w' = w.alloc (.cells #[.slice a len cap] TKS) := by
  refine callsIn_of_wp Tryd.func31 rfl trivial ?_ rfl
  simp only [Tryd.ntmps31, List.size_toArray, List.length_cons, List.length_nil, Nat.reduceAdd, Nat.reduceSub, Array.replicate_succ, Array.replicate_zero, List.push_toArray, List.append_toArray, List.nil_append, List.cons_append]
  gi_wp2
  go_ret
  exact ⟨rfl, rfl⟩
/-- A pick that can be read. -/
def Pkr (w : World) (p : Pk) : Prop := p.ok ∧ I64 p.a ∧ I64 p.b ∧ p.c.length ≤ 1000 ∧ (∀ x ∈ p.c, I64 x) ∧ IsAt w p.bl p.o p.c
theorem isAt_lt {w : World} {b o : Nat} {c : List Int} (h : IsAt w b o c) (hl : c.length ≠ 0) : b < w.heap.size := (rfIs b o c).lt w h b ⟨rfl, hl⟩
theorem isAt_keep {w W : World} {b o : Nat} {c : List Int} (h : IsAt w b o c) (hb : Below w.heap.size w W) : IsAt W b o c := (rfIs b o c).st w W h fun b' hq => hb.block b' (by have := isAt_lt h hq.2; have e : b' = b := hq.1; omega)
theorem tab_keep {w W : World} (h : rfTb.P w) (hb : Below w.heap.size w W) : rfTb.P W := rfTb.st w W h fun b' hq => hb.block b' (rfTb.lt w h b' hq)
def textS (ps : List Pk) : List Nat := joinN 32 ((rnS ps 0).map (wordX ps))
theorem rnL_len (ps : List Pk) : ∀ f i, (rnL ps f i).length ≤ f
  | 0, i => Nat.le_refl _
  | f + 1, i => by
    unfold rnL
    split
    · simp only [List.length_cons]; have := rnL_len ps f (runX ps i); omega
    · simp
theorem word_len {w : World} {p : Pk} (h : Pkr w p) {n : Int} (hn : I64 n) : (wordT p.w n).length ≤ 22001 := by
  obtain ⟨_, h1, h2, h3, h4, _⟩ := h
  have a1 := digL_len h1
  have a2 := digL_len h2
  have a3 := digL_len hn
  have a4 := cuts_len h3 h4
  show (if p.k = 2 then digL p.a ++ [126] ++ digL p.b else if p.k = 3 then [33] ++ joinN 44 (p.c.map digL) else if n > 1 then digL p.a ++ [120] ++ digL n else digL p.a).length ≤ _
  split
  · simp only [List.length_append, List.length_singleton]; omega
  · split
    · simp only [List.length_append, List.length_singleton]; omega
    · split
      · simp only [List.length_append, List.length_singleton]; omega
      · omega
theorem info_strT : (Tryd.prog.info? 9).map (fun i => (i.zero, i.size, i.bytes)) = some (some (.string ByteArray.empty), 1, 16) := by kernel_rfl
set_option maxHeartbeats 8000000 in
theorem text_in (w : World) (hlow : 1 < w.heap.size) (ht : rfTb.P w) (b off cap : Nat) (a : Option Addr) (ps : List Pk) (hreach : ps.length ≤ 1000) (ha : 0 < ps.length → a = some ⟨b, off, none⟩) (hbn : ps.length = 0 ∨ b < w.heap.size) (hc : PsAt w b off ps) (hps : ∀ j, j < ps.length → Pkr w (ps.getD j pk0)) :
    CallsIn Fence.wide 9 Tryd.prog 22 #[.slice a ps.length cap] w fun e W' => e = .returned (.string (strOf (textS ps))) ∧ Below w.heap.size w W' := by
  obtain ⟨i0, hi, hz0, hz1, hz2⟩ := info_parts info_strT
  refine callsIn_of_wp_marks Tryd.func22 rfl trivial ?_ rfl
  simp only [Tryd.ntmps22, List.size_toArray, List.length_cons, List.length_nil, Nat.reduceAdd, Nat.reduceSub, Array.replicate_succ, Array.replicate_zero, List.push_toArray, List.append_toArray, List.nil_append, List.cons_append]
  gi_wp2_with (refine ⟨trivial, ?_⟩; gi_at_call 31; refine (runs_in _ _ _ _ _).mono ?_; rintro e w' ⟨rfl, rfl⟩)
  obtain ⟨W0, hW0⟩ : ∃ W0, ((w.alloc (.cells #[.slice none 0 0] TA)).alloc (.cells #[.slice a ps.length cap] TKS)) = W0 := ⟨_, rfl⟩
  have hsz : W0.heap.size = w.heap.size + 2 := by rw [← hW0]; simp
  have g1 : W0.heap[w.heap.size]? = some (.cells #[.slice none 0 0] TA (0, 0)) := by
    rw [← hW0, Below.heap_alloc _ _ _ (by simp)]
    exact World.alloc_heap_new w _
  have g2 : Cz W0 (w.heap.size + 1) TKS #[.slice a ps.length cap] := by
    show W0.heap[w.heap.size + 1]? = _
    rw [← hW0]
    have := World.alloc_heap_new (w.alloc (.cells #[.slice none 0 0] TA)) (.cells #[.slice a ps.length cap] TKS)
    rwa [World.size_alloc] at this
  have hB0 : Below w.heap.size w W0 := by
    rw [← hW0]
    exact ((Below.refl _ w).alloc (Nat.le_refl _) _).alloc (by simp) _
  have bA : Boxed W0 w.heap.size TA (.slice none 0 0) := g1
  show Code.wpIn _ _ _ _ _ _ ((w.alloc (.cells #[.slice none 0 0] TA)).alloc (.cells #[.slice a ps.length cap] TKS))
  rw [hW0]
  clear hW0
  refine wpIn_rangeFunc_ownH rfl (by omega) (gf := 42) (lb := #[.pointer (some ⟨w.heap.size + 1, 0, none⟩)]) rfl trivial (enters_of Tryd.func42 (by kernel_rfl) rfl)
    (encs := rnV ps) (Kp := KpB w.heap.size (w.heap.size + 1)) (S := fun ys => ys = rnS ps 0) (Sp := fun pre => ∃ q, rnS ps 0 = pre ++ q) (N := ps.length) (w0 := W0)
    (fun l J Jx W hW hJ _ hY h0 => runs1_in _ (by omega) l (w.heap.size + 1) w.heap.size b off cap a ps (by omega) J Jx hY W hJ (by have := (g2.below hW (by omega)).cell 0 _ rfl; exact this) ha hbn (hc.below (hB0.trans (hW.mono (by omega))) hbn) h0)
    KpB.trans (KpB.putObj (by omega) (by omega)) (Below.refl _ _) (fun _ => rfl)
    (fun pre W => ((∃ v, Boxed W w.heap.size TA v ∧ W.ownsRow w.heap.size EA 1 v pre.length (wsV ps pre) ∧ (v = .slice none 0 0 ↔ pre = [])) ∧ Cz W (w.heap.size + 1) TKS #[.slice a ps.length cap]) ∧ Below w.heap.size w W)
    (fun _ _ _ => False)
    (OwnFrom.and (Own.from (fun s W W' row hs hg hr => ⟨holdsRow_own w.heap.size w.heap.size TA EA 1 (fun pre : List (Rn ps) => pre.length) (fun pre => wsV ps pre) (fun pre v => v = .slice none 0 0 ↔ pre = []) s W W' row hs.1 hg hr, cz_own _ _ (fun _ : Unit => _) () W W' row hs.2 hg hr⟩) _) (ownFrom_below (Nat.le_refl _) (by omega)))
    (fun _ _ _ _ _ hs _ _ => hs)
    ⟨⟨⟨_, bA, World.ownsRow_nil _ _ _ _, by simp⟩, g2⟩, hB0⟩
    (fun x a' W => ∃ Bx, w.heap.size + 1 < Bx ∧ Cz W Bx TK #[.int .i64 (ps.getD x.1.1 pk0).k, .int .i64 (ps.getD x.1.1 pk0).a, .int .i64 (ps.getD x.1.1 pk0).b, .slice (ps.getD x.1.1 pk0).s (ps.getD x.1.1 pk0).c.length (ps.getD x.1.1 pk0).cp] ∧ a' = { tmps := #[.slice a ps.length cap, undef, .string ⟨#[]⟩, .pointer (some ⟨w.heap.size, 0, none⟩), .pointer (some ⟨Bx, 0, none⟩), .int .i64 (x.1.2 : Int), .slice a ps.length cap, .func (.func 42) #[] #[.pointer (some ⟨w.heap.size + 1, 0, none⟩)], .agg #[.int .i64 (ps.getD x.1.1 pk0).k, .int .i64 (ps.getD x.1.1 pk0).a, .int .i64 (ps.getD x.1.1 pk0).b, .slice (ps.getD x.1.1 pk0).s (ps.getD x.1.1 pk0).c.length (ps.getD x.1.1 pk0).cp], .int .i64 (x.1.2 : Int), undef, undef, undef, undef, undef, undef, undef, undef], defers := [] })
    (fun x a' _ X Y row hs hg hr => by obtain ⟨Bx, e1, e2, e3⟩ := hs; exact ⟨Bx, e1, cz_own _ _ (fun _ : Unit => _) () X Y row e2 hg (fun r e => (hr r e).2), e3⟩)
    ?assign ?body ?done ?stop
  case assign =>
    rintro l pre x W K ⟨⟨⟨v, hv, hrow, hnil⟩, hL⟩, hB⟩ hK
    have hlt := hL.lt
    dsimp only [rnV] at hK ⊢
    generalize hpx : ps.getD x.1.1 pk0 = px at hK ⊢
    obtain ⟨pk, pa, pb, psl, pcp, pbl, po, pc⟩ := px
    dsimp only at hK ⊢
    gi_wp2
    refine hK _ _ ((KeepsOthers.alloc _ _).from _) ⟨(Below.refl _ W).alloc hB.size _, ?_⟩ ⟨⟨⟨v, hv.alloc _, hrow.alloc _, hnil⟩, hL.alloc _⟩, hB.alloc hB.size _⟩ ⟨W.heap.size, hlt, Cz.new W TK _, rfl⟩
    exact (hL.alloc _).trans hL.symm
  case body =>
    rintro l pre x a' W hl ⟨r, hr⟩ ⟨⟨⟨v, hv, hrow, hnil⟩, hL⟩, hB⟩ ⟨Bx, hBx, bX, rfl⟩ hlt
    have hpk := hps x.1.1 x.2.1
    have hI2 : I64 (x.1.2 : Int) := by have := x.2.2; unfold I64; omega
    have hwx : wordX ps x = wordT (ps.getD x.1.1 pk0).w (x.1.2 : Int) := rfl
    generalize hcn : (x.1.2 : Int) = cn at *
    generalize hpx : ps.getD x.1.1 pk0 = px at *
    obtain ⟨pk, pa, pb, psl, pcp, pbl, po, pc⟩ := px
    dsimp only at bX ⊢
    have hsW := hB.size
    have ltX := bX.lt
    have hcv := hv.cell
    have x0 := bX.cell 0 _ rfl
    have x1 := bX.cell 1 _ rfl
    have x2 := bX.cell 2 _ rfl
    have x3 := bX.cell 3 _ rfl
    have hmx : Tryd.prog.follows .mixedOrders = true := by kernel_rfl
    have hszW : w.heap.size < W.heap.size := heap_lt hv
    have hrowd : W.drew.ownsRow w.heap.size EA 1 v pre.length (wsV ps pre) := hrow
    have hBd : Below w.heap.size w W.drew := hB.drew
    have hd : 1 ≤ 9 - 1 - 1 := by omega
    have hwt := fun (V : World) (hV : Below w.heap.size w V) => wordOf_t V (by have := hV.size; omega) (tab_keep ht hV) ⟨pk, pa, pb, psl, pcp, pbl, po, pc⟩ hpk.1 (isAt_keep hpk.2.2.2.2.2 hV) cn hpk.2.1 hpk.2.2.1 hI2 hpk.2.2.2.1 hpk.2.2.2.2.1
    rw [← hwx] at hwt
    dsimp only [Pk.v] at hwt
    generalize hwd0 : wordX ps x = wd at hwt hwx
    have HW : Hid (wordX ps x = wd) := Lib.hid hwd0
    clear hwx hwd0
    gi_wp2
    gi_region_with_o? (refine ⟨trivial, ?_⟩; gi_at_call 32; refine (CallsIn.inRound l (callsIn_wide.2 (hwt _ hBd))).mono ?_; rintro e w2 ⟨rfl, hb2⟩; have hc2 := (hb2.cell (p := ⟨w.heap.size, 0, none⟩) (by simp <;> omega)).trans (by simpa using hcv); have hc2a : (w2.alloc (.cells #[.string (strOf wd)] 9)).cell? ⟨w.heap.size, 0, none⟩ = some v := (((Below.refl w2.heap.size w2).alloc (Nat.le_refl _) _).cell (p := ⟨w.heap.size, 0, none⟩) (by have := hb2.size; simp; simp at this; omega)).trans hc2; have hrow2 := (owns_below hrowd hb2).alloc (.cells #[.string (strOf wd)] 9); obtain ⟨v', w3, hrun0, hrow3, hgrow, hniliff, hat⟩ := run_append_own_at (P := Tryd.prog) _ w.heap.size TA TA EA i0 _ 1 16 Tryd.underlying49 hi hz0 hz1 hz2 rfl (by decide) v pre.length (wsV ps pre) hrow2 ⟨w2.heap.size, 0, none⟩ 1 1 [.string (strOf wd)] rfl (lit_cells w2 [.string (strOf wd)] EA) (by intro u hu; simp at hu; rcases hu with rfl; rfl) (by unfold maxLen; omega) (by omega) (by simp; have := hb2.size; simp at this; omega); have hrun : (apA #[49, 49] 49 #[v, .slice (some ⟨w2.heap.size, 0, none⟩) 1 1]).run Tryd.prog (w2.alloc (.cells #[.string (strOf wd)] 9)) = .ok v' w3 := hrun0; clear hrun0; obtain ⟨sa, sn, sc, rfl⟩ : ∃ a n c, v' = .slice a n c := (by rcases hrow3.2 with ⟨h, _⟩ | ⟨g, cap, cur, h, _⟩ <;> exact ⟨_, _, _, h⟩); obtain ⟨h3, hc3, hf3⟩ := box_keep (w2 := w2) hv hrow (show Below W.heap.size W w2 from ⟨hb2.os, hb2.tape, hb2.output, hb2.size, hb2.block⟩) hgrow)
    all_goals gi_wp2
    all_goals exact round_end HW.out (by omega) hB hL hv hrow ⟨hb2.os, hb2.tape, hb2.output, hb2.size, hb2.block⟩ hrow3 hgrow
  case done =>
    rintro D ys W hD rfl ⟨⟨⟨v, hv, hrow, hnil⟩, hL⟩, hB⟩ hK
    have hcv := hv.cell
    have hpl : ((rnS ps 0).map (wordX ps)).length ≤ 1000 := by rw [List.length_map]; have := rnL_len ps ps.length 0; unfold rnS; omega
    have hjl : (textS ps).length ≤ 100000000 := by
      have h := joinN_len 32 22001 ((rnS ps 0).map (wordX ps)) (fun l hl => by
        simp only [List.mem_map] at hl
        obtain ⟨x, _, rfl⟩ := hl
        exact word_len (hps x.1.1 x.2.1) (by have := x.2.2; unfold I64; omega))
      unfold textS
      have h2 : ((rnS ps 0).map (wordX ps)).length * (22001 + 1) ≤ 1000 * (22001 + 1) := Nat.mul_le_mul_right _ hpl
      omega
    have hjn := fun (V : World) (hV : V.ownsRow w.heap.size EA 1 v (rnS ps 0).length (wsV ps (rnS ps 0))) => join_l V 32 w.heap.size ((rnS ps 0).map (wordX ps)) v hjl (by omega) (by rw [List.length_map]; exact hV) (fun g hg => (hV.lt g hg).2)
    have hJ0 := hjn W hrow
    gi_wp2_with (refine ⟨trivial, ?_⟩; gi_at_call 33; refine (callsIn_wide.2 hJ0).mono ?_; rintro e w2 ⟨rfl, hb2⟩)
    have hlD : D < W.heap.size := heap_lt hK
    have hK2 : w2.heap[D]? = some (.deferred (some [])) := (hb2.block D hlD).trans hK
    refine ⟨by simp, .inl ⟨_, _, rfl, run_takeDeferred hK2, ?_⟩⟩
    exact ⟨_, results_tmp rfl _ _ _, rfl, (hB.trans (hb2.mono hB.size)).trans (belowK_b (w := w) (Nat.le_refl _) w2 D _ _ (by omega) hK2 rfl rfl)⟩
  case stop =>
    rintro D c pre W _ _ h _
    exact h.elim
end Go.Proofs.YtfkmcibglaiakaaDoor
