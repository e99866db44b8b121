/-
  Merged: BkB
-/
import Derived.Test.YtfhmdlihnidjoaaPf18
import Derived.Shelf.RegionOpen
namespace Go.Proofs.Ytfhmdlihnidjoaa
set_option linter.unusedVariables false
set_option linter.unusedSectionVars false
set_option maxRecDepth 100000
set_option linter.unusedSimpArgs false
set_option maxHeartbeats 8000000
open Go.ChangeShapes Go.WideShapes Go.ChangeAt Go.RowKit Go.Shelf
attribute [local go_sem] Oper.semAt_some
def Cz (W : World) (B : Nat) (t : TypeId) (cs : Array Value) : Prop := W.heap[B]? = some (.cells cs t (0, 0))
section
variable {W : World} {B : Nat} {t : TypeId} {cs : Array Value} (h : Cz W B t cs)
include W B t cs h
theorem Cz.lt : B < W.heap.size := (Array.getElem?_eq_some_iff.1 h).1
theorem Cz.cell (j : Nat) (v : Value) (hv : cs[j]? = some v) : W.cell? ⟨B, j, none⟩ = some v := by simp [World.cell?, show W.heap[B]? = _ from h, hv]
theorem Cz.frozen (j : Nat) : W.frozen? ⟨B, j, none⟩ = false := by simp [World.frozen?, show W.heap[B]? = _ from h]
end
theorem Cz.new (W : World) (t : TypeId) (cs : Array Value) : Cz (W.alloc (.cells cs t)) W.heap.size t cs := World.alloc_heap_new W _
theorem Cz.kept {W W' : World} {row : Option Nat} {B : Nat} {t : TypeId} {cs : Array Value} (h : Cz W B t cs) (hg : W.grownBy W' row) (hne : some B ≠ row) : Cz W' B t cs := (hg.block B h.lt hne).trans h
theorem Cz.alloc {W : World} {B : Nat} {t : TypeId} {cs : Array Value} (h : Cz W B t cs) (o : Obj) : Cz (W.alloc o) B t cs := h.kept (World.grownBy_alloc W o none) (by simp)
theorem Cz.below {n0 : Nat} {W W' : World} {B : Nat} {t : TypeId} {cs : Array Value} (h : Cz W B t cs) (hb : Below n0 W W') (hB : B < n0) : Cz W' B t cs := (hb.block B hB).trans h
theorem Cz.other {W : World} {B B' j : Nat} {t : TypeId} {cs : Array Value} {v : Value} (h : Cz W B t cs) (hne : B ≠ B') : Cz (W.setCell ⟨B', j, none⟩ v) B t cs := (Below.heap_setCell _ _ _ B (by simpa using hne)).trans h
theorem Cz.setE {W : World} {B j : Nat} {t : TypeId} {cs cs' : Array Value} {v : Value} (h : Cz W B t cs) (e : cs.setIfInBounds j v = cs') : Cz (W.setCell ⟨B, j, none⟩ v) B t cs' := by
  unfold Cz
  have h' : W.heap[B]? = some (.cells cs t (0, 0)) := h
  simp only [World.setCell, Array.getElem?_modify]
  simp [h', ← e]
theorem Cz.drew {W : World} {B : Nat} {t : TypeId} {cs : Array Value} (h : Cz W B t cs) : Cz W.drew B t cs := h
theorem Qd8 {β : Type} (B : Nat) (t : TypeId) (f : β → Array Value) : Own (fun s W => Cz W B t (f s)) := by
  rintro s W W' row h hg hr
  refine (hg.block B (Cz.lt h) (fun e => ?_)).trans h
  obtain ⟨o, ho, hc⟩ := hr B e.symm
  rw [show W.heap[B]? = _ from h] at ho; cases ho; cases hc
def Qc2 (loc : Int) : List (Int × Int) → Option (Int × Int)
  | [] => none
  | x :: l => if x.1 = loc then some x else Qc2 loc l
theorem Qfj {loc : Int} : ∀ {l : List (Int × Int)} {m : Nat}, (∀ i, i < m → i < l.length → (l[i]?.getD (0, 0)).1 ≠ loc) → Qc2 loc l = Qc2 loc (l.drop m)
  | [], m, _ => by simp
  | x :: l, 0, _ => rfl
  | x :: l, m + 1, h => by
    have h0 := h 0 (by omega) (by simp)
    simp only [Qc2, List.drop_succ_cons]
    rw [if_neg (by simpa using h0)]
    exact Qfj fun i hi hl => by simpa using h (i + 1) (by omega) (by simpa using hl)
def Qcx (es : List En) (loc : Int) : List Nat → Option (Int × Int × Int)
  | [] => none
  | j :: l => match Qc2 loc (es[j]?.getD default).ws with
    | some x => some (x.1, x.2, (es[j]?.getD default).ver)
    | none => Qcx es loc l
theorem QfS (es : List En) (loc : Int) (j : Nat) : ∀ (l : List Nat), Qcx es loc l = none → Qcx es loc (l ++ [j]) = (Qc2 loc (es[j]?.getD default).ws).map fun x => (x.1, x.2, (es[j]?.getD default).ver)
  | [], _ => by simp only [List.nil_append, Qcx]; cases Qc2 loc (es[j]?.getD default).ws <;> rfl
  | k :: l, h => by
    simp only [List.cons_append, Qcx] at h ⊢
    cases hk : Qc2 loc (es[k]?.getD default).ws with
    | some x => rw [hk] at h; cases h
    | none => rw [hk] at h; exact QfS es loc j l h
theorem Qh_ (es : List En) (loc : Int) : ∀ (l r : List Nat) (t : Int × Int × Int), Qcx es loc l = some t → Qcx es loc (l ++ r) = some t
  | [], r, t, h => by cases h
  | k :: l, r, t, h => by
    simp only [List.cons_append, Qcx] at h ⊢
    cases hk : Qc2 loc (es[k]?.getD default).ws with
    | some x => rw [hk] at h; exact h
    | none => rw [hk] at h; exact Qh_ es loc l r t h
theorem bkL_pre {n m : Nat} (hm : m ≤ n) : ∃ r, bkL n 0 = bkL n m ++ r := by
  induction m with
  | zero => exact ⟨[], by simp⟩
  | succ m ih => obtain ⟨r, hr⟩ := ih (by omega); exact ⟨m :: r, by rw [hr, QgJ n m (by omega)]; simp⟩
def QjZ : Option (Int × Int × Int) → Value
  | none => .tuple #[.agg #[.int .i64 0, .int .i64 0], .int .i64 0, .bool false]
  | some (l, v, r) => .tuple #[.agg #[.int .i64 l, .int .i64 v], .int .i64 r, .bool true]
abbrev TE : TypeId := 60
abbrev TW : TypeId := 42
abbrev TI : TypeId := 3
abbrev TB : TypeId := 4
theorem Qi4 {n D : Nat} {w V : World} {T : Array Value} {l v r : Int} {bv : Bool} {x : Value} (hD : w.heap.size + 5 ≤ D) (q1 : Cz V (w.heap.size + 1) TW #[.int .i64 l, .int .i64 v]) (q2 : Cz V (w.heap.size + 1 + 1) TI #[.int .i64 r]) (q3 : Cz V (w.heap.size + 1 + 1 + 1) TB #[.bool bv])
    (hB : Below w.heap.size w V) (hK : V.heap[D]? = some (.deferred (some []))) (e4 : T[4]? = some (.pointer (some ⟨w.heap.size + 1, 0, none⟩))) (e5 : T[5]? = some (.pointer (some ⟨w.heap.size + 1 + 1, 0, none⟩))) (e6 : T[6]? = some (.pointer (some ⟨w.heap.size + 1 + 1 + 1, 0, none⟩)))
    (hx : x = .tuple #[.agg #[.int .i64 l, .int .i64 v], .int .i64 r, .bool bv]) : bodyPostM Fence.wide n Try.prog Try.f12 (fun e W' => e = .returned x ∧ Below w.heap.size w W') .ret { tmps := T, defers := [{ target := .collected D, args := #[] }] } V := by
  subst hx
  refine ⟨by simp, .inl ⟨_, _, rfl, run_takeDeferred hK, ?_⟩⟩
  have gr := grownBy_putObj' V D (.deferred none)
  have hr : ∀ r, some D = some r → ∃ o : Obj, V.heap[r]? = some o ∧ o.isCells = false := fun r e => by cases e; exact ⟨_, hK, rfl⟩
  have k1 := cell_kept (q1.cell 0 _ rfl) gr hr
  have k2 := cell_kept (q1.cell 1 _ rfl) gr hr
  have k3 := cell_kept (q2.cell 0 _ rfl) gr hr
  have k4 := cell_kept (q3.cell 0 _ rfl) gr hr
  refine ⟨_, ?_, rfl, hB.trans (belowK_b (w := w) (Nat.le_refl _) V D _ _ (by omega) hK rfl rfl)⟩
  simp [results, Try.f12, go_sem, e4, e5, e6, k1, k2, k3, k4]
theorem last_in (n : Nat) (hn : 9 ≤ n) (b off cap : Nat) (a : Option Addr) (es : List En) (loc : Int) (w : World) (hreach : es.length ≤ 140737488355328) (ha : 0 < es.length → a = some ⟨b, off, none⟩) (hc : 0 < es.length → EsAt w.heap.size w b off es)
    (hws : ∀ j : Nat, WsAt w.heap.size w (es[j]?.getD default) ∧ (es[j]?.getD default).ws.length ≤ 140737488355328) :
    CallsIn Fence.wide n Try.prog 12 #[.slice a es.length cap, .int .i64 loc] w fun e W' => e = .returned (QjZ (Qcx es loc (bkL es.length 0))) ∧ Below w.heap.size w W' := by
  have h1 : 1 ≤ n := by omega
  refine callsIn_of_wp_marks Try.func12 rfl trivial ?_ rfl
  simp only [Try.ntmps12, List.size_toArray, List.length_cons, List.length_nil, Nat.reduceAdd, Nat.reduceSub, Array.replicate_succ, Array.replicate_zero, List.push_toArray, List.append_toArray, List.nil_append, List.cons_append]
  gi_wp2_with (refine ⟨trivial, ?_⟩; gi_at_call 38; refine (back_in _ _ _ _ _).mono ?_; rintro e w' ⟨rfl, rfl⟩)
  obtain ⟨W0, hW0⟩ : ∃ W0, (((((w.alloc (.cells #[.int .i64 loc] TI)).alloc (.cells #[.int .i64 0, .int .i64 0] TW)).alloc (.cells #[.int .i64 0] TI)).alloc (.cells #[.bool false] TB)).alloc (.cells #[.slice a es.length cap] 38)) = W0 := ⟨_, rfl⟩
  have z0 : Cz W0 w.heap.size TI #[.int .i64 loc] := by rw [← hW0]; exact ((((Cz.new w TI _).alloc _).alloc _).alloc _).alloc _
  have z1 : Cz W0 (w.heap.size + 1) TW #[.int .i64 0, .int .i64 0] := by
    have := Cz.new (w.alloc (.cells #[.int .i64 loc] TI)) TW #[.int .i64 0, .int .i64 0]
    rw [World.size_alloc] at this
    rw [← hW0]; exact ((this.alloc _).alloc _).alloc _
  have z2 : Cz W0 (w.heap.size + 2) TI #[.int .i64 0] := by
    have := Cz.new ((w.alloc (.cells #[.int .i64 loc] TI)).alloc (.cells #[.int .i64 0, .int .i64 0] TW)) TI #[.int .i64 0]
    rw [World.size_alloc, World.size_alloc] at this
    rw [← hW0]; exact (this.alloc _).alloc _
  have z3 : Cz W0 (w.heap.size + 3) TB #[.bool false] := by
    have := Cz.new (((w.alloc (.cells #[.int .i64 loc] TI)).alloc (.cells #[.int .i64 0, .int .i64 0] TW)).alloc (.cells #[.int .i64 0] TI)) TB #[.bool false]
    rw [World.size_alloc, World.size_alloc, World.size_alloc] at this
    rw [← hW0]; exact this.alloc _
  have z4 : Cz W0 (w.heap.size + 4) 38 #[.slice a es.length cap] := by
    have := Cz.new ((((w.alloc (.cells #[.int .i64 loc] TI)).alloc (.cells #[.int .i64 0, .int .i64 0] TW)).alloc (.cells #[.int .i64 0] TI)).alloc (.cells #[.bool false] TB)) 38 #[.slice a es.length cap]
    rw [World.size_alloc, World.size_alloc, World.size_alloc, World.size_alloc] at this
    rw [← hW0]; exact this
  have hB0 : Below w.heap.size w W0 := by
    rw [← hW0]
    exact (((((Below.refl _ w).alloc (Nat.le_refl _) _).alloc (by simp) _).alloc (by simp <;> omega) _).alloc (by simp <;> omega) _).alloc (by simp <;> omega) _
  have hsz : W0.heap.size = w.heap.size + 5 := by rw [← hW0]; simp
  show Code.wpIn _ _ _ _ _ _ (((((w.alloc (.cells #[.int .i64 loc] TI)).alloc (.cells #[.int .i64 0, .int .i64 0] TW)).alloc (.cells #[.int .i64 0] TI)).alloc (.cells #[.bool false] TB)).alloc (.cells #[.slice a es.length cap] 38))
  rw [hW0]
  clear hW0
  refine wpIn_rangeFunc_ownH rfl h1 (gf := 59) (lb := #[.pointer (some ⟨w.heap.size + 1 + 1 + 1 + 1, 0, none⟩)]) rfl trivial (enters_of Try.func59 (by kernel_rfl) rfl)
    (encs := bkV es) (Kp := KpB w.heap.size (w.heap.size + 4)) (S := fun ys => ys = bkL es.length 0) (Sp := fun pre => ∃ m, m ≤ es.length ∧ pre = bkL es.length m) (N := es.length) (w0 := W0)
    (fun l J Jx W hW hJ _ hY h0 => back1_in _ (by omega) l _ w.heap.size b off cap a es (by omega) J Jx hY W (by have := (z4.below hW (by omega)).cell 0 _ rfl; exact this) ha (fun h => ((hc h).below hB0).below (hW.mono (by omega))) h0)
    KpB.trans (KpB.putObj (by omega) (by omega)) (Below.refl _ _) (fun _ => rfl)
    (fun pre W => ((Qcx es loc pre = none ∧ Cz W w.heap.size TI #[.int .i64 loc]) ∧ Cz W (w.heap.size + 1) TW #[.int .i64 0, .int .i64 0] ∧ Cz W (w.heap.size + 2) TI #[.int .i64 0] ∧ Cz W (w.heap.size + 3) TB #[.bool false] ∧ Cz W (w.heap.size + 4) 38 #[.slice a es.length cap]) ∧ Below w.heap.size w W)
    (fun c pre W => (c = .ret ∧ ∃ x, Qcx es loc pre = some x ∧ Cz W (w.heap.size + 1) TW #[.int .i64 x.1, .int .i64 x.2.1] ∧ Cz W (w.heap.size + 2) TI #[.int .i64 x.2.2] ∧ Cz W (w.heap.size + 3) TB #[.bool true]) ∧ Below w.heap.size w W)
    (OwnFrom.and (Own.from (fun s A B row hs hg hr => ⟨⟨hs.1.1, Qd8 _ _ (fun _ : Unit => _) () A B row hs.1.2 hg hr⟩, Qd8 _ _ (fun _ : Unit => _) () A B row hs.2.1 hg hr, Qd8 _ _ (fun _ : Unit => _) () A B row hs.2.2.1 hg hr, Qd8 _ _ (fun _ : Unit => _) () A B row hs.2.2.2.1 hg hr, Qd8 _ _ (fun _ : Unit => _) () A B row hs.2.2.2.2 hg hr⟩) _) (ownFrom_below (Nat.le_refl _) (by omega)))
    (fun c => OwnFrom.and (Own.from (fun s A B row hs hg hr => by obtain ⟨h0, x, hx, a1, a2, a3⟩ := hs; exact ⟨h0, x, hx, Qd8 _ _ (fun _ : Unit => _) () A B row a1 hg hr, Qd8 _ _ (fun _ : Unit => _) () A B row a2 hg hr, Qd8 _ _ (fun _ : Unit => _) () A B row a3 hg hr⟩) _) (ownFrom_below (Nat.le_refl _) (by omega)))
    ⟨⟨⟨rfl, z0⟩, z1, z2, z3, z4⟩, hB0⟩
    (fun x a' W => ∃ Bx, w.heap.size + 4 < Bx ∧ Cz W Bx TE #[.int .i64 (es[x]?.getD default).ver, (es[x]?.getD default).sl] ∧ a' = { tmps := #[.slice a es.length cap, .int .i64 loc, undef, .pointer (some ⟨w.heap.size, 0, none⟩), .pointer (some ⟨w.heap.size + 1, 0, none⟩), .pointer (some ⟨w.heap.size + 1 + 1, 0, none⟩), .pointer (some ⟨w.heap.size + 1 + 1 + 1, 0, none⟩), undef, .pointer (some ⟨Bx, 0, none⟩), undef, undef, .slice a es.length cap, .func (.func 59) #[] #[.pointer (some ⟨w.heap.size + 1 + 1 + 1 + 1, 0, none⟩)], .int .i64 x, .agg #[.int .i64 (es[x]?.getD default).ver, (es[x]?.getD default).sl], undef, undef, undef, undef, undef, undef, undef, undef, undef, undef, undef, undef, undef, undef, undef, undef], defers := [] })
    (fun x a' _ X Y row hs hg hr => by obtain ⟨Bx, e1, e2, e3⟩ := hs; exact ⟨Bx, e1, Qd8 _ _ (fun _ : Unit => _) () X Y row e2 hg (fun r e => (hr r e).2), e3⟩)
    ?assign ?body ?done ?stop
  case assign =>
    rintro l pre x W K ⟨⟨⟨hp, q0⟩, q1, q2, q3, q4⟩, hB⟩ hK
    have hlt := q4.lt
    gi_wp2
    refine hK _ _ ((KeepsOthers.alloc _ _).from _) ⟨(Below.refl _ W).alloc hB.size _, ?_⟩ ⟨⟨⟨hp, q0.alloc _⟩, q1.alloc _, q2.alloc _, q3.alloc _, q4.alloc _⟩, hB.alloc hB.size _⟩ ⟨W.heap.size, hlt, Cz.new W TE _, rfl⟩
    exact (q4.alloc _).trans q4.symm
  case body =>
    rintro l pre x a' W hl ⟨r, hr⟩ ⟨⟨⟨hp, q0⟩, q1, q2, q3, q4⟩, hB⟩ ⟨Bx, hBx, bX, rfl⟩ hlt
    have hsW := hB.size
    have ltX := bX.lt
    have c0 := q0.cell 0 _ rfl
    have x0 := bX.cell 0 _ rfl
    have x1 := bX.cell 1 _ rfl
    have hmx : Try.prog.follows .mixedOrders = true := by kernel_rfl
    obtain ⟨hwx, hwl⟩ := hws x
    have hsn := QfS es loc x pre hp
    generalize es[x]?.getD default = e at *
    obtain ⟨ver, ea, ec, ws⟩ := e
    unfold WsAt at hwx
    dsimp only [En.sl] at bX x0 x1 hwl hwx hsn ⊢
    gi_wp2
    gi_loopw [18] (fun k wr => ∃ m : Nat, m ≤ ws.length ∧ k = .int .i64 m ∧ (∀ i, i < m → i < ws.length → (ws[i]?.getD (0, 0)).1 ≠ loc) ∧ (Cz wr w.heap.size TI #[.int .i64 loc] ∧ Cz wr (w.heap.size + 1) TW #[.int .i64 0, .int .i64 0] ∧ Cz wr (w.heap.size + 2) TI #[.int .i64 0] ∧ Cz wr (w.heap.size + 3) TB #[.bool false] ∧ Cz wr (w.heap.size + 4) 38 #[.slice a es.length cap] ∧ Cz wr Bx TE #[.int .i64 ver, .slice ea ws.length ec]) ∧ Below w.heap.size W wr ∧ KeepsFrom W0.heap.size W wr) (fun k _ => ws.length - (intOf k).toNat)
    case atStart => exact ⟨0, Nat.zero_le _, rfl, fun i hi => absurd hi (Nat.not_lt_zero _), ⟨q0, q1, q2, q3, q4, bX⟩, Below.refl _ _, KeepsFrom.refl _ _⟩
    case round =>
      obtain ⟨m, hm, rfl, hno, ⟨p0, p1, p2, p3, p4, pX⟩, hBW, hKF⟩ := hrel
      by_cases hlt : m < ws.length
      · have c0 := p0.cell 0 _ rfl
        have x0 := pX.cell 0 _ rfl
        have x1 := pX.cell 1 _ rfl
        rcases hwx with hnil | ⟨wb, wo, hea, hwb, hcs⟩
        · rw [hnil] at hlt; exact absurd hlt (Nat.not_lt_zero _)
        obtain ⟨v0, v1⟩ := hcs m hlt
        have v0' := ((hB.trans hBW).cell (p := ⟨wb, wo + m * 2, none⟩) hwb).trans v0
        have v1' := ((hB.trans hBW).cell (p := ⟨wb, wo + m * 2 + 1, none⟩) hwb).trans v1
        subst hea
        obtain ⟨⟨kl, kv⟩, hk⟩ : ∃ p : Int × Int, ws[m]?.getD (0, 0) = p := ⟨_, rfl⟩
        rw [hk] at v0' v1'
        dsimp only at v0' v1'
        clear v0 v1 hcs
        have a0 : (wr.alloc (.cells #[.int .i64 kl, .int .i64 kv] TW)).cell? ⟨w.heap.size, 0, none⟩ = some (.int .i64 loc) := (p0.alloc _).cell 0 _ rfl
        have a1 : (wr.alloc (.cells #[.int .i64 kl, .int .i64 kv] TW)).cell? ⟨w.heap.size + 1, 0, none⟩ = some (.int .i64 0) := (p1.alloc _).cell 0 _ rfl
        have a2 : (wr.alloc (.cells #[.int .i64 kl, .int .i64 kv] TW)).cell? ⟨w.heap.size + 1, 1, none⟩ = some (.int .i64 0) := (p1.alloc _).cell 1 _ rfl
        have a3 : (wr.alloc (.cells #[.int .i64 kl, .int .i64 kv] TW)).cell? ⟨w.heap.size + 1 + 1, 0, none⟩ = some (.int .i64 0) := (p2.alloc _).cell 0 _ rfl
        have a4 : (wr.alloc (.cells #[.int .i64 kl, .int .i64 kv] TW)).cell? ⟨w.heap.size + 1 + 1 + 1, 0, none⟩ = some (.bool false) := (p3.alloc _).cell 0 _ rfl
        have a5 : (wr.alloc (.cells #[.int .i64 kl, .int .i64 kv] TW)).cell? ⟨Bx, 0, none⟩ = some (.int .i64 ver) := (pX.alloc _).cell 0 _ rfl
        have f1 : (wr.alloc (.cells #[.int .i64 kl, .int .i64 kv] TW)).frozen? ⟨w.heap.size + 1, 0, none⟩ = false := (p1.alloc _).frozen 0
        have f2 : (wr.alloc (.cells #[.int .i64 kl, .int .i64 kv] TW)).frozen? ⟨w.heap.size + 1, 1, none⟩ = false := (p1.alloc _).frozen 1
        have f3 : (wr.alloc (.cells #[.int .i64 kl, .int .i64 kv] TW)).frozen? ⟨w.heap.size + 1 + 1, 0, none⟩ = false := (p2.alloc _).frozen 0
        have f4 : (wr.alloc (.cells #[.int .i64 kl, .int .i64 kv] TW)).frozen? ⟨w.heap.size + 1 + 1 + 1, 0, none⟩ = false := (p3.alloc _).frozen 0
        have l0 : w.heap.size < wr.heap.size := p0.lt
        have l1 : w.heap.size + 1 < wr.heap.size := p1.lt
        have l2 : w.heap.size + 2 < wr.heap.size := p2.lt
        have l3 : w.heap.size + 3 < wr.heap.size := p3.lt
        have lX : Bx < wr.heap.size := pX.lt
        gi_wp2
        case roundEnd =>
          rename_i hne
          refine ⟨⟨m + 1, by omega, by simp, fun i hi hil => ?_, ⟨p0.alloc _, p1.alloc _, p2.alloc _, p3.alloc _, p4.alloc _, pX.alloc _⟩, hBW.alloc (by omega) _, hKF.trans ((KeepsOthers.alloc _ _).from _)⟩, ?_⟩
          · by_cases e : i = m
            · subst e; rw [hk]; simpa using hne
            · exact hno i (by omega) hil
          · simp [intOf]; omega
        have hkl : kl = loc := eq_of_beq (by assumption)
        have n0 := (Cz.new wr TW #[.int .i64 kl, .int .i64 kv]).cell 0 _ rfl
        have n1 := (Cz.new wr TW #[.int .i64 kl, .int .i64 kv]).cell 1 _ rfl
        have z0 := p0.alloc (.cells #[.int .i64 kl, .int .i64 kv] TW)
        have z1 := p1.alloc (.cells #[.int .i64 kl, .int .i64 kv] TW)
        have z2 := p2.alloc (.cells #[.int .i64 kl, .int .i64 kv] TW)
        have z3 := p3.alloc (.cells #[.int .i64 kl, .int .i64 kv] TW)
        have hb2 : Below w.heap.size W (wr.alloc (.cells #[.int .i64 kl, .int .i64 kv] TW)) := hBW.alloc (by omega) _
        have hk2 : KeepsFrom W0.heap.size W (wr.alloc (.cells #[.int .i64 kl, .int .i64 kv] TW)) := hKF.trans ((KeepsOthers.alloc _ _).from _)
        have hs2 : (wr.alloc (.cells #[.int .i64 kl, .int .i64 kv] TW)).heap.size = wr.heap.size + 1 := World.size_alloc _ _
        have hn1 : Qc2 loc ws = some (kl, kv) := by
          rw [Qfj (m := m) hno, List.drop_eq_getElem_cons hlt]
          have hk' : ws[m] = (kl, kv) := by simpa [List.getElem?_eq_getElem hlt] using hk
          simp only [Qc2, hk', hkl, if_true]
        rw [hn1] at hsn
        show Code.wpIn _ _ _ _ _ _ (wr.alloc (.cells #[.int .i64 kl, .int .i64 kv] TW))
        generalize wr.alloc (.cells #[.int .i64 kl, .int .i64 kv] TW) = W2 at *
        gi_region_with_o? (skip)
        all_goals gi_wp2
        all_goals
          refine ⟨hk2.trans (((((KeepsOthers.setCell _ _ _).trans (KeepsOthers.setCell _ _ _)).trans (KeepsOthers.setCell _ _ _)).trans (KeepsOthers.setCell _ _ _)).trans (KeepsOthers.drew _) |>.from _), ⟨rfl, (loc, kv, ver), by rw [hsn, hkl]; rfl, ?_, ?_, ?_⟩,
            hB.trans ((((((hb2.setCell (p := ⟨w.heap.size + 1, 0, none⟩) (by simp) _).setCell (p := ⟨w.heap.size + 1, 1, none⟩) (by simp) _).setCell (p := ⟨w.heap.size + 1 + 1, 0, none⟩) (by simp <;> omega) _).setCell (p := ⟨w.heap.size + 1 + 1 + 1, 0, none⟩) (by simp <;> omega) _)).drew)⟩
          · exact Cz.drew (Cz.other (Cz.other (Cz.setE (cs' := #[.int .i64 loc, .int .i64 kv]) (Cz.setE (cs' := #[.int .i64 loc, .int .i64 0]) z1 rfl) rfl) (by omega)) (by omega))
          · exact Cz.drew (Cz.other (Cz.setE (cs' := #[.int .i64 ver]) (Cz.other (Cz.other z2 (by omega)) (by omega)) rfl) (by omega))
          · exact Cz.drew (Cz.setE (cs' := #[.bool true]) (Cz.other (Cz.other (Cz.other z3 (by omega)) (by omega)) (by omega)) rfl)
      · obtain rfl : m = ws.length := by omega
        gi_wp2
        have hn1 : Qc2 loc ws = none := by rw [Qfj (m := ws.length) hno]; simp [Qc2]
        rw [hn1] at hsn
        exact ⟨hKF, ⟨hBW, p4.trans q4.symm⟩, ⟨⟨hsn, p0⟩, p1, p2, p3, p4⟩, hB.trans hBW⟩
  case done =>
    rintro D ys W hD rfl ⟨⟨⟨hp, q0⟩, q1, q2, q3, q4⟩, hB⟩ hK
    have c1 := q1.cell 0 _ rfl
    have c2 := q1.cell 1 _ rfl
    have c3 : W.cell? ⟨w.heap.size + 1 + 1, 0, none⟩ = some (.int .i64 0) := q2.cell 0 _ rfl
    have c4 : W.cell? ⟨w.heap.size + 1 + 1 + 1, 0, none⟩ = some (.bool false) := q3.cell 0 _ rfl
    have f1 := q1.frozen 0
    have f2 := q1.frozen 1
    have f3 : W.frozen? ⟨w.heap.size + 1 + 1, 0, none⟩ = false := q2.frozen 0
    have f4 : W.frozen? ⟨w.heap.size + 1 + 1 + 1, 0, none⟩ = false := q3.frozen 0
    gi_wp2
    have r1 := Cz.other (B := w.heap.size + 1) (B' := w.heap.size + 1 + 1 + 1) (j := 0) (v := .bool false) (Cz.other (B' := w.heap.size + 1 + 1) (j := 0) (v := .int .i64 0) (Cz.setE (j := 1) (v := .int .i64 0) (cs' := #[.int .i64 0, .int .i64 0]) (Cz.setE (j := 0) (v := .int .i64 0) (cs' := #[.int .i64 0, .int .i64 0]) q1 rfl) rfl) (by omega)) (by omega)
    have r2 := Cz.other (B' := w.heap.size + 1 + 1 + 1) (j := 0) (v := .bool false) (Cz.setE (B := w.heap.size + 1 + 1) (j := 0) (v := .int .i64 0) (cs' := #[.int .i64 0]) (Cz.other (B' := w.heap.size + 1) (j := 1) (v := .int .i64 0) (Cz.other (B' := w.heap.size + 1) (j := 0) (v := .int .i64 0) q2 (by omega)) (by omega)) rfl) (by omega)
    have r3 := Cz.setE (B := w.heap.size + 1 + 1 + 1) (j := 0) (v := .bool false) (cs' := #[.bool false]) (Cz.other (B' := w.heap.size + 1 + 1) (j := 0) (v := .int .i64 0) (Cz.other (B' := w.heap.size + 1) (j := 1) (v := .int .i64 0) (Cz.other (B' := w.heap.size + 1) (j := 0) (v := .int .i64 0) q3 (by omega)) (by omega)) (by omega)) rfl
    have hB' := (((hB.setCell (p := ⟨w.heap.size + 1, 0, none⟩) (by simp) (.int .i64 0)).setCell (p := ⟨w.heap.size + 1, 1, none⟩) (by simp) (.int .i64 0)).setCell (p := ⟨w.heap.size + 1 + 1, 0, none⟩) (by simp <;> omega) (.int .i64 0)).setCell (p := ⟨w.heap.size + 1 + 1 + 1, 0, none⟩) (by simp <;> omega) (.bool false)
    have hK' := (((KeepsOthers.setCell W ⟨w.heap.size + 1, 0, none⟩ (.int .i64 0)).trans (KeepsOthers.setCell _ ⟨w.heap.size + 1, 1, none⟩ (.int .i64 0))).trans ((KeepsOthers.setCell _ ⟨w.heap.size + 1 + 1, 0, none⟩ (.int .i64 0)).trans (KeepsOthers.setCell _ ⟨w.heap.size + 1 + 1 + 1, 0, none⟩ (.bool false)))).same D _ hK rfl
    refine Qi4 (by omega) r1 r2 r3 hB' hK' rfl rfl rfl ?_
    rw [hp]
    rfl
  case stop =>
    rintro D c pre W hD ⟨m, hm, rfl⟩ ⟨⟨rfl, x, hx, q1, q2, q3⟩, hB⟩ hK
    gi_wp2
    refine Qi4 (by omega) q1 q2 q3 hB hK rfl rfl rfl ?_
    obtain ⟨rr, hrr⟩ := bkL_pre hm
    rw [hrr, Qh_ es loc _ rr x hx]
    rfl
end Go.Proofs.Ytfhmdlihnidjoaa
