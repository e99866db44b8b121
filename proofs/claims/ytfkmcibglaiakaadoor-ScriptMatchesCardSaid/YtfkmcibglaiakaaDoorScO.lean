
/-
  Layer 27: what rows of flags, integers, bytes and picks, handed in, are in memory.
-/
import Derived.Test.YtfkmcibglaiakaaDoorRows
import Derived.Test.YtfkmcibglaiakaaDoorBase
import Derived.Test.YtfkmcibglaiakaaDoorScL
import Derived.Deep.Fields
import Derived.Deep.Slices
import Derived.Handed
namespace Go.Proofs.YtfkmcibglaiakaaDoor
open Go.ChangeShapes Go.WideShapes Go.ChangeAt Go.RowKit Go.Deep
set_option maxRecDepth 100000
set_option linter.unusedVariables false
/-- A row of flags. -/
def HasBo (w : World) (v : Value) (on : List Bool) : Prop := ∃ a cp b o, v = .slice a on.length cp ∧ (on.length = 0 ∨ a = some ⟨b, o, none⟩) ∧ OnAt w b o on
/-- A row of bytes. -/
def HasBy (w : World) (v : Value) (l : List Nat) : Prop := ∃ a cp b o, v = .slice a l.length cp ∧ (l.length = 0 ∨ a = some ⟨b, o, none⟩) ∧ ∀ j, j < l.length → w.cell? ⟨b, o + j, none⟩ = some (.int .u8 ((l.getD j 0 : Nat) : Int))
/-- A pick and its cuts. -/
def PkH (w : World) (p : Pk) : Prop := p.ok ∧ (I64 p.k ∧ I64 p.a ∧ I64 p.b) ∧ IsAt w p.bl p.o p.c ∧ p.c.length ≤ p.cp ∧ p.cp ≤ maxLen
/-- A row of picks. -/
def HasPk (w : World) (v : Value) (ps : List Pk) : Prop := ∃ a cp b o, v = .slice a ps.length cp ∧ (ps.length = 0 ∨ a = some ⟨b, o, none⟩) ∧ PsAt w b o ps ∧ (∀ p ∈ ps, PkH w p) ∧ ps.length ≤ cp ∧ cp ≤ maxLen
theorem add_plain0 (b o i : Nat) : (⟨b, o, none⟩ : Addr).add i = ⟨b, o + i, none⟩ := by simp [Addr.add]
section
variable {H : Type} {enc : TypeId × Value → H} {W : World}
theorem cells_u8 : Tryd.prog.cellsOf 5 = 1 := by kernel_rfl
theorem cells_i64 : Tryd.prog.cellsOf 3 = 1 := by kernel_rfl
theorem cells_boo : Tryd.prog.cellsOf 4 = 1 := by kernel_rfl
theorem cells_isl : Tryd.prog.cellsOf 23 = 1 := by kernel_rfl
theorem cells_pck : Tryd.prog.cellsOf 25 = 4 := by kernel_rfl
theorem open_boolsArg {r : Reach} {b0 : Nat} {v : Value} {d : DataW H} {p : List MemPlace} (hv : Value.okWide Tryd.prog W r b0 26 v) (h : DataW.Trod enc Tryd.prog W 0 (fun _ => true) true 26 v d p) :
    ∃ on, HasBo W v on := by
  obtain ⟨a0, len0, cap0, rfl⟩ := okWide_slice Tryd.underlying26 hv
  obtain ⟨fuel, hf⟩ := h
  rcases open_slice1 Tryd.underlying26 cells_boo hf with ⟨hcs, _⟩ | ⟨a, len, cap, m, n, V, D, Pl, hcs, _, hl, hm, hmm, _, hi⟩
  · simp [Value.cells] at hcs
    obtain ⟨rfl, rfl, rfl⟩ := hcs
    exact ⟨[], none, 0, 0, 0, rfl, Or.inl rfl, fun j hj => absurd hj (Nat.not_lt_zero _)⟩
  · simp [Value.cells] at hcs
    obtain ⟨rfl, rfl, rfl⟩ := hcs
    simp only [if_true] at hmm
    have key : ∀ i, i < len0 → ∃ b : Bool, W.cell? (a.add i) = some (.bool b) := by
      intro i hil
      obtain ⟨h1, h2⟩ := hi i (by omega)
      obtain ⟨b, h3, _⟩ := DataW.trod_bool Tryd.underlying4 h2
      simp only [List.cons.injEq, and_true] at h3
      exact ⟨b, by rw [h1, h3]⟩
    by_cases h0 : len0 = 0
    · subst h0
      exact ⟨[], _, _, 0, 0, rfl, Or.inl rfl, fun j hj => absurd hj (Nat.not_lt_zero _)⟩
    · obtain ⟨b, off, spot⟩ := a
      obtain ⟨A0, hA0⟩ := key 0 (by omega)
      have hspot : spot = none := by simpa [Addr.add] using World.cell?_spot hA0
      subst hspot
      obtain ⟨f, hf'⟩ := Classical.axiomOfChoice (fun i : { i : Nat // i < len0 } => key i.1 i.2)
      refine ⟨(List.range len0).attach.map (fun i => f ⟨i.1, List.mem_range.1 i.2⟩), some ⟨b, off, none⟩, cap0, b, off, by simp, Or.inr rfl, fun j hj => ?_⟩
      have hjl : j < len0 := by simpa using hj
      have hd := hf' ⟨j, hjl⟩
      simp only [add_plain0] at hd
      have e : ((List.range len0).attach.map (fun i => f ⟨i.1, List.mem_range.1 i.2⟩)).getD j false = f ⟨j, hjl⟩ := by
        simp [List.getD, hjl]
      rw [e]
      exact hd
theorem open_bytesArg {r : Reach} {b0 : Nat} {v : Value} {d : DataW H} {p : List MemPlace} (hv : Value.okWide Tryd.prog W r b0 42 v) (h : DataW.Trod enc Tryd.prog W 0 (fun _ => true) true 42 v d p) :
    ∃ l, HasBy W v l ∧ ∀ b ∈ l, b < 256 := by
  obtain ⟨a0, len0, cap0, rfl⟩ := okWide_slice Tryd.underlying42 hv
  obtain ⟨fuel, hf⟩ := h
  rcases open_ints Tryd.underlying42 Tryd.underlying5 cells_u8 hf with ⟨hcs, _⟩ | ⟨a, len, cap, zs, hcs, _, hl, hm, hz, _, hcell, hwf⟩
  · simp [Value.cells] at hcs
    obtain ⟨rfl, rfl, rfl⟩ := hcs
    exact ⟨[], ⟨none, 0, 0, 0, rfl, Or.inl rfl, fun j hj => absurd hj (Nat.not_lt_zero _)⟩, by simp⟩
  · simp [Value.cells] at hcs
    obtain ⟨rfl, rfl, rfl⟩ := hcs
    simp only [if_true] at hz
    have hb : ∀ n ∈ zs, 0 ≤ n ∧ n < 256 := fun n hn => by
      have h1 : IntKind.u8.min = 0 := rfl
      have h2 : IntKind.u8.max = 255 := rfl
      have := hwf n hn
      simp only [Lit.wf, Bool.and_eq_true, decide_eq_true_eq] at this
      omega
    have hlen : ((zs.take len0).map Int.toNat).length = len0 := by rw [List.length_map, List.length_take]; omega
    have hall : ∀ b ∈ (zs.take len0).map Int.toNat, b < 256 := by
      intro b hb'
      obtain ⟨n, hn, rfl⟩ := List.mem_map.1 hb'
      have := hb n (List.mem_of_mem_take hn)
      omega
    by_cases h0 : len0 = 0
    · subst h0
      exact ⟨[], ⟨_, _, 0, 0, rfl, Or.inl rfl, fun j hj => absurd hj (Nat.not_lt_zero _)⟩, by simp⟩
    · obtain ⟨b, off, spot⟩ := a
      have hspot : spot = none := by simpa [Addr.add] using World.cell?_spot (hcell 0 (by omega))
      subst hspot
      refine ⟨(zs.take len0).map Int.toNat, ⟨some ⟨b, off, none⟩, cap0, b, off, by rw [hlen], Or.inr rfl, fun j hj => ?_⟩, hall⟩
      rw [hlen] at hj
      have h1 := hcell j (by omega)
      rw [add_plain0] at h1
      rw [h1]
      have hjz : j < zs.length := by omega
      have h2 := hb zs[j] (List.getElem_mem hjz)
      simp [List.getD, hj, List.getElem?_eq_getElem hjz]
      omega
/-- A pick's cells are what they must be. -/
theorem pk_of_cells {fuel : Nat} {c0 c1 c2 c3 : Value} {x : DataW H × List MemPlace} (ht : DataW.trod enc Tryd.prog W 0 (fun _ => true) true fuel 25 [c0, c1, c2, c3] = some x) : ∃ p : Pk, [c0, c1, c2, c3] = p.cs ∧ PkH W p := by
  obtain ⟨xs, n', _, _, _, hlen, hg⟩ := DataW.trod_struct Tryd.underlying25 ht
  match xs, hlen with
  | [y0, y1, y2, y3], _ =>
    have h0 := hg 0 _ rfl
    have h1 := hg 1 _ rfl
    have h2 := hg 2 _ rfl
    have h3 := hg 3 _ rfl
    have ci : Tryd.prog.cellsOf 3 = 1 := cells_i64
    have cs : Tryd.prog.cellsOf 23 = 1 := cells_isl
    simp [ci, cs] at h0 h1 h2 h3
    obtain ⟨a0, e0, _, w0⟩ := DataW.trod_int Tryd.underlying3 h0
    obtain ⟨a1, e1, _, w1⟩ := DataW.trod_int Tryd.underlying3 h1
    obtain ⟨a2, e2, _, w2⟩ := DataW.trod_int Tryd.underlying3 h2
    simp at e0 e1 e2
    subst e0; subst e1; subst e2
    rcases open_ints Tryd.underlying23 Tryd.underlying3 cells_i64 h3 with ⟨hcs, _⟩ | ⟨a, len, cap, zs, hcs, _, hl, hm, hz, _, hcell, hwf⟩
    · simp at hcs
      subst hcs
      exact ⟨⟨a0, a1, a2, none, 0, 0, 0, []⟩, rfl, Or.inl rfl, ⟨i64_of_wf w0, i64_of_wf w1, i64_of_wf w2⟩, fun j hj => absurd hj (Nat.not_lt_zero _), Nat.le_refl _, Nat.zero_le _⟩
    · simp at hcs
      subst hcs
      simp only [if_true] at hz
      have hlt : (zs.take len).length = len := by rw [List.length_take]; omega
      by_cases hlen0 : len = 0
      · subst hlen0
        exact ⟨⟨a0, a1, a2, some a, cap, 0, 0, []⟩, rfl, Or.inl rfl, ⟨i64_of_wf w0, i64_of_wf w1, i64_of_wf w2⟩, fun j hj => absurd hj (Nat.not_lt_zero _), Nat.zero_le _, hm⟩
      · obtain ⟨b, off, spot⟩ := a
        have hspot : spot = none := by simpa [Addr.add] using World.cell?_spot (hcell 0 (by omega))
        subst hspot
        refine ⟨⟨a0, a1, a2, some ⟨b, off, none⟩, cap, b, off, zs.take len⟩, ?_, Or.inr rfl, ⟨i64_of_wf w0, i64_of_wf w1, i64_of_wf w2⟩, fun j hj => ?_, ?_, hm⟩
        · show _ = [Value.int .i64 a0, .int .i64 a1, .int .i64 a2, .slice (some ⟨b, off, none⟩) (zs.take len).length cap]
          rw [hlt]
        · have hj' : j < (zs.take len).length := hj
          rw [hlt] at hj'
          have h1 := hcell j (by omega)
          rw [add_plain0] at h1
          show W.cell? ⟨b, off + j, none⟩ = some (.int .i64 ((zs.take len).getD j 0))
          rw [h1]
          simp [List.getD, hj']
        · show (zs.take len).length ≤ cap
          rw [hlt]
          exact hl
theorem open_pkArg {r : Reach} {b0 : Nat} {v : Value} {d : DataW H} {p : List MemPlace} (hv : Value.okWide Tryd.prog W r b0 25 v) (h : DataW.Trod enc Tryd.prog W 0 (fun _ => true) true 25 v d p) :
    ∃ x : Pk, v = x.v ∧ PkH W x := by
  obtain ⟨cs, rfl, hsz⟩ := okWide_struct Tryd.underlying25 hv
  obtain ⟨l⟩ := cs
  match l, hsz.trans cells_pck with
  | [c0, c1, c2, c3], _ =>
    obtain ⟨fuel, hf⟩ := h
    obtain ⟨x, hx, hp⟩ := pk_of_cells hf
    refine ⟨x, ?_, hp⟩
    rw [hx]
    rfl
theorem open_pksArg {r : Reach} {b0 : Nat} {v : Value} {d : DataW H} {p : List MemPlace} (hv : Value.okWide Tryd.prog W r b0 22 v) (h : DataW.Trod enc Tryd.prog W 0 (fun _ => true) true 22 v d p) :
    ∃ ps, HasPk W v ps := by
  obtain ⟨a0, len0, cap0, rfl⟩ := okWide_slice Tryd.underlying22 hv
  obtain ⟨fuel, hf⟩ := h
  rcases open_slice Tryd.underlying22 hf with ⟨hcs, _⟩ | ⟨a, len, cap, m, n, D, Pl, hcs, _, hl, hm, hmm, _, hi⟩
  · simp [Value.cells] at hcs
    obtain ⟨rfl, rfl, rfl⟩ := hcs
    exact ⟨[], none, 0, 0, 0, rfl, Or.inl rfl, fun j hj => absurd hj (Nat.not_lt_zero _), (fun p hp => by cases hp), Nat.le_refl _, Nat.zero_le _⟩
  · simp [Value.cells] at hcs
    obtain ⟨rfl, rfl, rfl⟩ := hcs
    simp only [if_true] at hmm
    have key : ∀ i, i < len0 → ∃ p : Pk, (W.cell? (a.add (i * 4)) = some (.int .i64 p.k) ∧ W.cell? (a.add (i * 4 + 1)) = some (.int .i64 p.a) ∧ W.cell? (a.add (i * 4 + 2)) = some (.int .i64 p.b) ∧ W.cell? (a.add (i * 4 + 3)) = some (.slice p.s p.c.length p.cp)) ∧ PkH W p := by
      intro i hil
      obtain ⟨cs', hc, ht⟩ := hi i (by omega)
      rw [cells_pck] at hc
      obtain ⟨_, hcl, hat⟩ := World.cells?_some hc
      match cs', hcl with
      | [c0, c1, c2, c3], _ =>
        obtain ⟨p, hx, hp⟩ := pk_of_cells ht
        simp only [Pk.cs, List.cons.injEq, and_true] at hx
        obtain ⟨rfl, rfl, rfl, rfl⟩ := hx
        have q0 := hat 0 (by omega)
        have q1 := hat 1 (by omega)
        have q2 := hat 2 (by omega)
        have q3 := hat 3 (by omega)
        rw [add_add] at q0 q1 q2 q3
        exact ⟨p, ⟨q0, q1, q2, q3⟩, hp⟩
    by_cases h0 : len0 = 0
    · subst h0
      exact ⟨[], _, _, 0, 0, rfl, Or.inl rfl, fun j hj => absurd hj (Nat.not_lt_zero _), (fun p hp => by cases hp), Nat.zero_le _, hm⟩
    · obtain ⟨b, off, spot⟩ := a
      obtain ⟨A0, ⟨hA0, _⟩, _⟩ := key 0 (by omega)
      have hspot : spot = none := by simpa [Addr.add] using World.cell?_spot hA0
      subst hspot
      obtain ⟨f, hf'⟩ := Classical.axiomOfChoice (fun i : { i : Nat // i < len0 } => key i.1 i.2)
      refine ⟨(List.range len0).attach.map (fun i => f ⟨i.1, List.mem_range.1 i.2⟩), some ⟨b, off, none⟩, cap0, b, off, by simp, Or.inr rfl, fun j hj => ?_, fun t ht => ?_, by simpa using hl, hm⟩
      · have hjl : j < len0 := by simpa using hj
        have hd := (hf' ⟨j, hjl⟩).1
        simp only [add_plain0] at hd
        have e : ((List.range len0).attach.map (fun i => f ⟨i.1, List.mem_range.1 i.2⟩)).getD j pk0 = f ⟨j, hjl⟩ := by
          simp [List.getD, hjl]
        rw [e]
        simpa [Nat.add_assoc] using hd
      · obtain ⟨i, _, rfl⟩ := List.mem_map.1 ht
        exact (hf' _).2
end
/-- The row's form, met by a contract that is told the world's shape too. -/
theorem row_of_calls {H : Type} {enc : TypeId × Value → H} {a : Assume} {C : Checked} {os : Os} {f : FuncId} {fn : Func} {s : ChangeSpec} {conds : List PathCond} {apart fresh handsOn again : Bool} {X : World → Array Value → Prop}
    (hX : ∀ (w w' : World) (args : Array Value), w.heap = w'.heap → X w args → X w' args)
    (own : ownKnob C.prog.godebug = none) (started : os.Started) (noInit : C.prog.inits.idxOf? f = none) (hfn : C.prog.funcs[f]? = some fn)
    (witness : ∃ (w : World) (tape : Tape) (i : Input), w.os = os ∧ (w.forCall tape i).Shaped C.prog ∧ i.vars = [] ∧ Input.okWide C.prog (w.forCall tape i) .any w.heap.size f i ∧
      ((s.pre enc C.prog fn conds apart (w.forCall tape i).memory i.args ∧ X (w.forCall tape i).memory i.args) ∧ sizedMet enc C.prog fn (OpenSpec.ofChange s) apart (w.forCall tape i).memory i.args) ∧ a.holds C.prog (lone (Frame.enter C.prog f i.args .normal) [] (w.forCall tape i)))
    (contract : ∀ (W : World) (base : Nat) (args : Array Value) (ds gs : List (DataW H)) (before : List MemPlace),
      (∀ (j : Nat) t v, fn.params[j]? = some t → args[j]? = some v → Value.okWide C.prog W .any base t v) →
      DataW.Whole enc C.prog fn.params.toList s.vars apart W args.toList ds gs before →
      conds.all (PathCond.test C.prog ⟨fn.params.toList, ds, s.plain.varTypes C.prog, gs⟩) = true →
      W.ShapedOpen C.prog → X W args →
      (DataW.weightsEach C.prog (fn.params.toList ++ s.plain.varTypes C.prog) (ds ++ gs)).all (· ≤ reachBytes) = true →
      Calls C.prog f args W fun e W' => ∃ v, e = .returned v ∧ s.post enc C.prog fn apart fresh handsOn again W args v W') :
    ReturnsInHanded a C os f .any (fun w args => (s.pre enc C.prog fn conds apart w args ∧ X w args) ∧ sizedMet enc C.prog fn (OpenSpec.ofChange s) apart w args) (s.post enc C.prog fn apart fresh handsOn again) := by
  refine returnsInHanded_of_calls own started noInit witness fun w tape i _ hsh _ hok hpre _ => ?_
  obtain ⟨_, _, _, fn', hfn', _, _, _, _, hval⟩ := hok
  obtain rfl : fn' = fn := Option.some.inj (hfn'.symm.trans hfn)
  obtain ⟨⟨⟨ds, gs, before, hw, hc⟩, hx⟩, hz⟩ := hpre
  refine (contract (w.forCall tape i) w.heap.size i.args ds gs before hval (DataW.Whole.of_heap (w' := w.forCall tape i) (by rfl) hw) hc hsh (hX _ _ _ (by rfl) hx) (hz.weights hw)).mono fun e W' ⟨v, he, hp⟩ => ?_
  subst he
  exact ChangeSpec.post_blind hp
end Go.Proofs.YtfkmcibglaiakaaDoor
