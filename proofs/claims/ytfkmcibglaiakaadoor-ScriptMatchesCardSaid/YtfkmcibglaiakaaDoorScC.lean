
/-
  Layer 27: the forms of a word.
-/
import Derived.Test.YtfkmcibglaiakaaDoorRows
import Derived.Test.YtfkmcibglaiakaaDoorBase
import Derived.Test.YtfkmcibglaiakaaDoorScB
import Derived.Test.YtfkmcibglaiakaaDoorShZ
import Derived.Shelf.Strings.FuncGrows
import Derived.WalkKit
namespace Go.Proofs.YtfkmcibglaiakaaDoor
open Go Go.RowKit SZ
set_option linter.unusedVariables false
set_option linter.unusedSimpArgs false
set_option maxRecDepth 100000
/-- A call that changes one own variable, and foreign ones that may change. -/
theorem sy_callX [DF] {P : Program} {w0 : World} {r bs : List Nat} {F : List RF} {a : Act} {w : World} {X : Type} {c : Cfg} (S : Sy w0 r bs c.s F a w) (i : Nat) (k : Bx) (k' : X → Bx) (G : List Nat) (hk : c.s.K[i]? = some k) (hG : ∀ g ∈ G, g ∈ r ∨ w0.heap.size ≤ g) {v : X → Value} {C : X → World → Prop} {f : FuncId} {args : Array Value} {Q : Exit → Act → World → Prop}
    (hC : Calls P f args w fun e w' => ∃ x, e = .returned (v x) ∧ C x w' ∧ w'.heap[bs.getD i 0]? = some (.cells (k' x).cs.toArray (k' x).ty (0, 0)) ∧ Gr w w' (bs.getD i 0 :: G))
    (hh : (headC P c).map (fun q => (q.1, q.2.map (den bs))) = some (f, args.toList)) (F' : List RF) (hF : ∀ f ∈ F', f ∈ F ∧ ∀ g ∈ G, ¬f.bl g) (hn : ∀ j, j < bs.length → bs.getD j 0 ∉ G)
    (h : ∀ x a' w', C x w' → Sy w0 r bs (aftH c i (k' x) (.v (v x))).s F' a' w' → post P (aftH c i (k' x) (.v (v x))).k Q .normal a' w') : post P c.k Q .normal a w := by
  obtain ⟨kk, s⟩ := c
  match kk with
  | .ops all (o :: l) :: kk =>
    obtain ⟨h1, h2⟩ := call_op S hh
    show wpList P all (post P kk Q) (o :: l) a w
    refine wpList_step fun K hK => ?_
    rw [if_pos h1]
    unfold Oper.wp
    rw [h2, Oper.upon_enter]
    refine Calls.mono hC ?_
    rintro e w' ⟨x, rfl, hx, hb, hg⟩
    have hi : i < bs.length := by rw [S.bl]; exact (List.getElem?_eq_some_iff.1 hk).1
    have S1 : Sy w0 r bs (s.setK i (k' x)) F' a w' := by
      refine ⟨S.df, S.sz, S.tm, by simp [SS.setK, S.bl], fun j q hq => ?_, S.nd, S.lo, fun f hf => ?_, ?_⟩
      · have hq' : (s.K.set i (k' x))[j]? = some q := hq
        by_cases hj : i = j
        · subst hj
          rw [List.getElem?_set_self (by rw [← S.bl]; exact hi)] at hq'
          simp only [Option.some.injEq] at hq'
          subst hq'
          exact hb
        · rw [List.getElem?_set_ne hj] at hq'
          have hjl : j < bs.length := by rw [S.bl]; exact (List.getElem?_eq_some_iff.1 hq').1
          rw [hg.block _ (S.lt hjl) (by
            intro hm
            rcases List.mem_cons.1 hm with e | hm
            · exact hj (S.nd j i hjl hi e).symm
            · exact hn j hjl hm)]
          exact S.bx j q hq'
      · obtain ⟨h3, h4⟩ := hF f hf
        obtain ⟨h5, h6⟩ := S.fs f h3
        exact ⟨f.st w w' h5 fun b hbl => hg.block b (f.lt w h5 b hbl) (by
          intro hm
          rcases List.mem_cons.1 hm with e | hm
          · exact h6 i hi (e ▸ hbl)
          · exact h4 b hm hbl), h6⟩
      · have G0 := S.gr
        refine ⟨hg.os.trans G0.os, hg.tape.trans G0.tape, hg.output.trans G0.output, Nat.le_trans G0.size hg.size, fun b hb' hne => (hg.block b (Nat.lt_of_lt_of_le hb' G0.size) ?_).trans (G0.block b hb' hne)⟩
        intro hm
        rcases List.mem_cons.1 hm with e | hm
        · rcases S.lo i hi with hl | hl
          · omega
          · exact hne (e ▸ hl)
        · rcases hG b hm with hr | hr
          · exact hne hr
          · omega
    exact hK _ _ (h x _ w' hx (S1.put o.dst (x := .v (v x)) trivial))
  | [] => simp [headC] at hh
  | .code _ :: _ => simp [headC] at hh
  | .blk _ :: _ => simp [headC] at hh
  | .rnd _ _ :: _ => simp [headC] at hh
  | .ops _ [] :: _ => simp [headC] at hh
attribute [local irreducible] post GD Nxt NxtAll
/-- A pick in memory: its cells, and where its cuts lie. -/
structure Pk where
  k : Int
  a : Int
  b : Int
  s : Option Addr
  cp : Nat
  bl : Nat
  o : Nat
  c : List Int
def Pk.w (p : Pk) : Pw := ⟨p.k, p.a, p.b, p.c⟩
def Pk.cs (p : Pk) : List Value := [.int .i64 p.k, .int .i64 p.a, .int .i64 p.b, .slice p.s p.c.length p.cp]
def Pk.v (p : Pk) : Value := .agg #[.int .i64 p.k, .int .i64 p.a, .int .i64 p.b, .slice p.s p.c.length p.cp]
def Pk.ok (p : Pk) : Prop := p.c.length = 0 ∨ p.s = some ⟨p.bl, p.o, none⟩
def IsAt (w : World) (b o : Nat) (c : List Int) : Prop := ∀ j, j < c.length → w.cell? ⟨b, o + j, none⟩ = some (.int .i64 (c.getD j 0))
def rfIs (b o : Nat) (c : List Int) : RF := ⟨fun b' => b' = b ∧ c.length ≠ 0, fun w => IsAt w b o c, fun w h b' hb => by
  obtain ⟨rfl, hl⟩ := hb
  exact World.block_lt_of_cell? w _ (h 0 (by omega)), fun w w' h hb j hj => (World.cell?_of_block (a := ⟨b, o + j, none⟩) (hb b ⟨rfl, by omega⟩)).trans (h j hj)⟩
/-- A row of strings. -/
def LsAt (w : World) (b o : Nat) (ls : List (List Nat)) : Prop := ∀ j, j < ls.length → w.cell? ⟨b, o + j, none⟩ = some (.string (strOf (ls.getD j [])))
def rfLs (b o : Nat) (ls : List (List Nat)) : RF := ⟨fun b' => b' = b ∧ ls.length ≠ 0, fun w => LsAt w b o ls, fun w h b' hb => by
  obtain ⟨rfl, hl⟩ := hb
  exact World.block_lt_of_cell? w _ (h 0 (by omega)), fun w w' h hb j hj => (World.cell?_of_block (a := ⟨b, o + j, none⟩) (hb b ⟨rfl, by omega⟩)).trans (h j hj)⟩
/-- The library's greatest length. -/
def rfMx : RF := ⟨fun b => b = 0, fun w => ∃ m : Int, w.cell? ⟨0, 0, none⟩ = some (.int .i64 m), fun w h b hb => by
  subst hb
  obtain ⟨m, h⟩ := h
  exact World.block_lt_of_cell? w _ h, fun w w' h hb => by
  obtain ⟨m, h⟩ := h
  exact ⟨m, (World.cell?_of_block (a := ⟨0, 0, none⟩) (hb 0 rfl)).trans h⟩⟩
theorem cutp_s (w : World) (hm : rfMx.P w) (l : List Nat) (hl : ∀ b ∈ l, b < 256) (h3 : l.length ≤ 4000000000) {c : Nat} (hc : c < 256) {p q : List Nat} (h : cutL c l = some (p, q)) : Calls Tryd.prog 48 #[.string (strOf l), .string (strOf [c])] w fun e w' => e = .returned (.tuple #[.string (strOf p), .string (strOf q), .bool true]) ∧ Below w.heap.size w w' := by
  obtain ⟨m, hm⟩ := hm
  refine (Tryd.strings_Cut (strOf l) (strOf [c]) m w (by rw [strOf_size]; omega) hm).mono fun e w' ⟨h1, n, h2⟩ => ⟨?_, h2 ▸ below_drewNg w n⟩
  have e1 := lib_cut hc l hl
  rw [h] at e1
  rw [h1]
  show Ending.returned (.tuple #[.string ⟨(Lib.cut (l.map UInt8.ofNat) [UInt8.ofNat c]).1.toArray⟩, .string ⟨(Lib.cut (l.map UInt8.ofNat) [UInt8.ofNat c]).2.1.toArray⟩, .bool (Lib.cut (l.map UInt8.ofNat) [UInt8.ofNat c]).2.2]) = _
  rw [e1]
  rfl
theorem cutp_n (w : World) (hm : rfMx.P w) (l : List Nat) (hl : ∀ b ∈ l, b < 256) (h3 : l.length ≤ 4000000000) {c : Nat} (hc : c < 256) (h : cutL c l = none) : Calls Tryd.prog 48 #[.string (strOf l), .string (strOf [c])] w fun e w' => e = .returned (.tuple #[.string (strOf l), .string (strOf []), .bool false]) ∧ Below w.heap.size w w' := by
  obtain ⟨m, hm⟩ := hm
  refine (Tryd.strings_Cut (strOf l) (strOf [c]) m w (by rw [strOf_size]; omega) hm).mono fun e w' ⟨h1, n, h2⟩ => ⟨?_, h2 ▸ below_drewNg w n⟩
  have e1 := lib_cut hc l hl
  rw [h] at e1
  rw [h1]
  show Ending.returned (.tuple #[.string ⟨(Lib.cut (l.map UInt8.ofNat) [UInt8.ofNat c]).1.toArray⟩, .string ⟨(Lib.cut (l.map UInt8.ofNat) [UInt8.ofNat c]).2.1.toArray⟩, .bool (Lib.cut (l.map UInt8.ofNat) [UInt8.ofNat c]).2.2]) = _
  rw [e1]
  rfl
theorem num_n (w : World) {l : List Nat} {m : Nat} (hl : ∀ b ∈ l, b < 256) (h : numM l m = none) : Calls Tryd.prog 47 #[.string (strOf l), .int .i64 (m : Int)] w fun e w' => ∃ v : Int, e = .returned (.tuple #[.int .i64 v, .bool false]) ∧ True ∧ Below w.heap.size w w' :=
  (numb_t w l m hl).mono fun e w' ⟨⟨v, q1, q2⟩, q3⟩ => ⟨v, by rw [h] at q1; exact q1, trivial, q3⟩
theorem num_s (w : World) {l : List Nat} {m n : Nat} (hl : ∀ b ∈ l, b < 256) (h : numM l m = some n) : Calls Tryd.prog 47 #[.string (strOf l), .int .i64 (m : Int)] w fun e w' => e = .returned (.tuple #[.int .i64 (n : Int), .bool true]) ∧ Below w.heap.size w w' :=
  (numb_t w l m hl).mono fun e w' ⟨⟨v, q1, q2⟩, q3⟩ => ⟨by rw [h, q2 n h] at q1; exact q1, q3⟩
/-- What a form of a word does to the reader. -/
def FormP (w0 : World) (q : Nat) (pv : Value) (o : Option (Pw × Nat)) (e : Ending) (w' : World) : Prop := ∃ (n : Int) (p : Pk), e = .returned (.tuple #[.int .i64 n, .bool o.isSome]) ∧ w'.heap[q]? = some (.cells #[.int .i64 p.k, .int .i64 p.a, .int .i64 p.b, .slice p.s p.c.length p.cp, pv] 48 (0, 0)) ∧
  (∀ x, o = some x → n = (x.2 : Int) ∧ p.w = x.1 ∧ p.ok ∧ IsAt w' p.bl p.o p.c ∧ (p.c.length = 0 ∨ w0.heap.size ≤ p.bl)) ∧ Gr w0 w' [q]
theorem ofB {o : Option (Pw × Nat)} {b : Bool} (h : o.isSome = b) : Value.bool b = .bool o.isSome := by rw [h]
set_option maxHeartbeats 8000000 in
theorem step_t (w0 : World) (q : Nat) (p0 : Pk) (pv : Value) (hq : w0.heap[q]? = some (.cells #[.int .i64 p0.k, .int .i64 p0.a, .int .i64 p0.b, .slice p0.s p0.c.length p0.cp, pv] 48 (0, 0))) (l : List Nat) (hl : ∀ b ∈ l, b < 256) : Calls Tryd.prog 35 #[.pointer (some ⟨q, 0, none⟩), .string (strOf l)] w0 (FormP w0 q pv (stepS l)) := by
  refine sy_enterR [q] [q] [⟨48, [.int .i64 p0.k, .int .i64 p0.a, .int .i64 p0.b, .slice p0.s p0.c.length p0.cp, pv]⟩] [.p 0 0, .v (.string (strOf l))] [] rfl (fun i k hk => by
    match i, hk with
    | 0, hk => obtain rfl := Option.some.inj hk; exact hq
    | i + 1, hk => cases hk) (fun i j hi hj _ => by simp at hi hj; omega) (fun i hi => by simp at hi; subst hi; simp) (fun x hx => by simp only [List.mem_cons, List.not_mem_nil, or_false] at hx; rcases hx with rfl | rfl; exact (show 0 < 1 by omega); trivial) (fun f hf => by cases hf) Tryd.func35 rfl rfl fun aa S => ?_
  refine sy_run ⟨0, [1]⟩ 60 S fun bs aa w S => ?_
  refine sy_reg S fun S => ?_
  refine sy_ops 1 S fun bs aa w S => ?_
  cases h : numM l 3 with
  | none =>
    have ho : stepS l = none := by unfold stepS; rw [h]; rfl
    refine sy_call S (X := Int) (val := fun v => .tuple #[.int .i64 v, .bool false]) (C := fun _ _ => True) (num_n _ hl h) (by kernel_rfl) fun v aa w _ hb S => ?_
    refine sy_run ⟨0, []⟩ 60 S fun bs aa w S => ?_
    have hbx := S.bx 0 ⟨48, [.int .i64 1, .int .i64 v, .int .i64 0, .slice none 0 0, pv]⟩ (by kernel_rfl)
    exact sy_ret S (by kernel_rfl) (by kernel_rfl) fun hg => ⟨1, ⟨1, v, 0, none, 0, 0, 0, []⟩, by rw [ho], hbx, fun x hx => (by rw [ho] at hx; cases hx), hg⟩
  | some n =>
    have ho : stepS l = some (⟨1, (n : Int), 0, []⟩, 1) := by unfold stepS; rw [h]; rfl
    refine sy_call1 S (num_s _ hl h) (by kernel_rfl) fun aa w hb S => ?_
    refine sy_run ⟨0, []⟩ 60 S fun bs aa w S => ?_
    have hbx := S.bx 0 ⟨48, [.int .i64 1, .int .i64 (n : Int), .int .i64 0, .slice none 0 0, pv]⟩ (by kernel_rfl)
    exact sy_ret S (by kernel_rfl) (by kernel_rfl) fun hg => ⟨1, ⟨1, (n : Int), 0, none, 0, 0, 0, []⟩, by rw [ho], hbx, fun x hx => (by rw [ho] at hx; cases hx; exact ⟨rfl, rfl, Or.inl rfl, fun j hj => absurd hj (Nat.not_lt_zero _), Or.inl rfl⟩), hg⟩
set_option maxHeartbeats 8000000 in
theorem rep_t (w0 : World) (q : Nat) (p0 : Pk) (pv : Value) (hq : w0.heap[q]? = some (.cells #[.int .i64 p0.k, .int .i64 p0.a, .int .i64 p0.b, .slice p0.s p0.c.length p0.cp, pv] 48 (0, 0))) (l : List Nat) (hl : ∀ b ∈ l, b < 256) (hm : rfMx.P w0) (hq0 : ¬q = 0) (h3 : l.length ≤ 4000000000) : Calls Tryd.prog 36 #[.pointer (some ⟨q, 0, none⟩), .string (strOf l)] w0 (FormP w0 q pv (repS l)) := by
  refine sy_enterR [q] [q] [⟨48, [.int .i64 p0.k, .int .i64 p0.a, .int .i64 p0.b, .slice p0.s p0.c.length p0.cp, pv]⟩] [.p 0 0, .v (.string (strOf l))] [rfMx] rfl (fun i k hk => by
    match i, hk with
    | 0, hk => obtain rfl := Option.some.inj hk; exact hq
    | i + 1, hk => cases hk) (fun i j hi hj _ => by simp at hi hj; omega) (fun i hi => by simp at hi; subst hi; simp) (fun x hx => by simp only [List.mem_cons, List.not_mem_nil, or_false] at hx; rcases hx with rfl | rfl; exact (show 0 < 1 by omega); trivial) (fun f hf => by simp only [List.mem_singleton] at hf; subst hf; exact ⟨hm, fun i hi => by simp at hi; subst hi; show ¬q = 0; exact hq0⟩) Tryd.func36 rfl rfl fun aa S => ?_
  refine sy_run ⟨0, [1]⟩ 60 S fun bs aa w S => ?_
  refine sy_reg S fun S => ?_
  refine sy_ops 1 S fun bs aa w S => ?_
  cases h : cutL 120 l with
  | none =>
    have ho : repS l = none := by unfold repS; rw [h]
    refine sy_call1 S (cutp_n _ (S.fact (f := rfMx) (by simp)) l hl h3 (c := 120) (by omega) h) (by kernel_rfl) fun aa w hb S => ?_
    refine sy_run ⟨0, [2]⟩ 60 S fun bs aa w S => ?_
    refine sy_reg S fun S => ?_
    refine sy_ops 1 S fun bs aa w S => ?_
    refine sy_call S (X := Int) (val := fun v => .tuple #[.int .i64 v, .bool false]) (C := fun _ _ => True) (num_n _ (by simp) (show numM [] 9999999 = none from rfl)) (by kernel_rfl) fun v aa w _ hb S => ?_
    refine sy_run ⟨0, []⟩ 60 S fun bs aa w S => ?_
    have hbx := S.bx 0 ⟨48, [.int .i64 p0.k, .int .i64 p0.a, .int .i64 p0.b, .slice p0.s p0.c.length p0.cp, pv]⟩ (by kernel_rfl)
    exact sy_ret S (by kernel_rfl) (by kernel_rfl) fun hg => ⟨0, p0, by rw [ho], hbx, fun x hx => (by rw [ho] at hx; cases hx), hg⟩
  | some pr =>
    obtain ⟨p, r⟩ := pr
    obtain ⟨hc1, hc2⟩ := cutL_some h
    have hlp : ∀ b ∈ p, b < 256 := fun b hb => hl b (by rw [hc1]; simp [hb])
    have hlr : ∀ b ∈ r, b < 256 := fun b hb => hl b (by rw [hc1]; simp [hb])
    refine sy_call1 S (cutp_s _ (S.fact (f := rfMx) (by simp)) l hl h3 (c := 120) (by omega) h) (by kernel_rfl) fun aa w hb S => ?_
    refine sy_run ⟨0, [2]⟩ 60 S fun bs aa w S => ?_
    refine sy_reg S fun S => ?_
    refine sy_ops 1 S fun bs aa w S => ?_
    cases h2 : numM r 9999999 with
    | none =>
      have ho : repS l = none := by unfold repS; rw [h]; simp only [h2]
      refine sy_call S (X := Int) (val := fun v => .tuple #[.int .i64 v, .bool false]) (C := fun _ _ => True) (num_n _ hlr h2) (by kernel_rfl) fun v aa w _ hb S => ?_
      refine sy_run ⟨0, []⟩ 60 S fun bs aa w S => ?_
      have hbx := S.bx 0 ⟨48, [.int .i64 p0.k, .int .i64 p0.a, .int .i64 p0.b, .slice p0.s p0.c.length p0.cp, pv]⟩ (by kernel_rfl)
      exact sy_ret S (by kernel_rfl) (by kernel_rfl) fun hg => ⟨0, p0, by rw [ho], hbx, fun x hx => (by rw [ho] at hx; cases hx), hg⟩
    | some n =>
      refine sy_call1 S (num_s _ hlr h2) (by kernel_rfl) fun aa w hb S => ?_
      refine sy_run ⟨0, [3]⟩ 60 S fun bs aa w S => ?_
      refine sy_reg S fun S => ?_
      refine sy_ops 9 S fun bs aa w S => ?_
      by_cases h1 : n < 1
      · have ho : repS l = none := by unfold repS; rw [h]; simp only [h2]; rw [if_pos h1]
        refine sy_cast 30 S (congrArg Value.bool (decide_eq_true (by omega) : decide ((n : Int) < 1) = true)) (by kernel_rfl) fun S => ?_
        refine sy_run ⟨0, []⟩ 60 S fun bs aa w S => ?_
        have hbx := S.bx 0 ⟨48, [.int .i64 p0.k, .int .i64 p0.a, .int .i64 p0.b, .slice p0.s p0.c.length p0.cp, pv]⟩ (by kernel_rfl)
        exact sy_ret S (by kernel_rfl) (by kernel_rfl) fun hg => ⟨0, p0, by rw [ho], hbx, fun x hx => (by rw [ho] at hx; cases hx), hg⟩
      · have ho : repS l = (numM p 3).map fun (a : Nat) => (⟨1, (a : Int), 0, []⟩, n) := by unfold repS; rw [h]; simp only [h2]; rw [if_neg h1]
        refine sy_cast 30 S (congrArg Value.bool (decide_eq_false (by omega) : decide ((n : Int) < 1) = false)) (by kernel_rfl) fun S => ?_
        refine sy_run ⟨0, [5]⟩ 60 S fun bs aa w S => ?_
        refine sy_reg S fun S => ?_
        refine sy_ops 2 S fun bs aa w S => ?_
        have hst := step_t w q p0 pv (S.bx 0 ⟨48, [.int .i64 p0.k, .int .i64 p0.a, .int .i64 p0.b, .slice p0.s p0.c.length p0.cp, pv]⟩ (by kernel_rfl)) p hlp
        refine sy_callX (X := Int × Pk) S 0 ⟨48, [.int .i64 p0.k, .int .i64 p0.a, .int .i64 p0.b, .slice p0.s p0.c.length p0.cp, pv]⟩ (fun x => ⟨48, [.int .i64 x.2.k, .int .i64 x.2.a, .int .i64 x.2.b, .slice x.2.s x.2.c.length x.2.cp, pv]⟩) [] (by kernel_rfl) (by simp) (v := fun x => .tuple #[.int .i64 x.1, .bool (stepS p).isSome]) (C := fun x w' => ∀ y, stepS p = some y → x.1 = (y.2 : Int) ∧ x.2.w = y.1 ∧ x.2.ok ∧ IsAt w' x.2.bl x.2.o x.2.c ∧ (x.2.c.length = 0 ∨ w.heap.size ≤ x.2.bl)) (hst.mono fun e w' ⟨n, p, q1, q2, q3, q4⟩ => ⟨(n, p), q1, q3, q2, q4⟩) (by kernel_rfl) [rfMx] (by simp) (by simp) fun x aa w2 hC S => ?_
        obtain ⟨n1, p1⟩ := x
        refine sy_run ⟨0, []⟩ 60 S fun bs aa w S => ?_
        have hbx := S.bx 0 ⟨48, [.int .i64 p1.k, .int .i64 p1.a, .int .i64 p1.b, .slice p1.s p1.c.length p1.cp, pv]⟩ (by kernel_rfl)
        have hso : (repS l).isSome = (stepS p).isSome := by rw [ho]; unfold stepS; simp
        exact sy_ret S (by kernel_rfl) (by kernel_rfl) fun hg => ⟨(n : Int), p1, by rw [hso], hbx, fun x hx => (by
          rw [ho] at hx
          cases h4 : numM p 3 with
          | none => rw [h4] at hx; cases hx
          | some a =>
            rw [h4] at hx
            cases hx
            have h5 := hC (⟨1, (a : Int), 0, []⟩, 1) (by unfold stepS; rw [h4]; rfl)
            have h6 : p1.c = [] := congrArg Pw.c h5.2.1
            exact ⟨rfl, h5.2.1, Or.inl (by rw [h6]; rfl), fun j hj => by rw [h6] at hj; exact absurd hj (Nat.not_lt_zero _), Or.inl (by rw [h6]; rfl)⟩), hg⟩
set_option maxHeartbeats 8000000 in
theorem stall_t (w0 : World) (q : Nat) (p0 : Pk) (pv : Value) (hq : w0.heap[q]? = some (.cells #[.int .i64 p0.k, .int .i64 p0.a, .int .i64 p0.b, .slice p0.s p0.c.length p0.cp, pv] 48 (0, 0))) (l : List Nat) (hl : ∀ b ∈ l, b < 256) (hm : rfMx.P w0) (hq0 : ¬q = 0) (h3 : l.length ≤ 4000000000) : Calls Tryd.prog 37 #[.pointer (some ⟨q, 0, none⟩), .string (strOf l)] w0 (FormP w0 q pv (stallS l)) := by
  refine sy_enterR [q] [q] [⟨48, [.int .i64 p0.k, .int .i64 p0.a, .int .i64 p0.b, .slice p0.s p0.c.length p0.cp, pv]⟩] [.p 0 0, .v (.string (strOf l))] [rfMx] rfl (fun i k hk => by
    match i, hk with
    | 0, hk => obtain rfl := Option.some.inj hk; exact hq
    | i + 1, hk => cases hk) (fun i j hi hj _ => by simp at hi hj; omega) (fun i hi => by simp at hi; subst hi; simp) (fun x hx => by simp only [List.mem_cons, List.not_mem_nil, or_false] at hx; rcases hx with rfl | rfl; exact (show 0 < 1 by omega); trivial) (fun f hf => by simp only [List.mem_singleton] at hf; subst hf; exact ⟨hm, fun i hi => by simp at hi; subst hi; show ¬q = 0; exact hq0⟩) Tryd.func37 rfl rfl fun aa S => ?_
  refine sy_run ⟨0, [1]⟩ 60 S fun bs aa w S => ?_
  refine sy_reg S fun S => ?_
  refine sy_ops 1 S fun bs aa w S => ?_
  cases h : cutL 126 l with
  | none =>
    have ho : stallS l = none := by unfold stallS; rw [h]
    refine sy_call1 S (cutp_n _ (S.fact (f := rfMx) (by simp)) l hl h3 (c := 126) (by omega) h) (by kernel_rfl) fun aa w hb S => ?_
    refine sy_run ⟨0, [2]⟩ 60 S fun bs aa w S => ?_
    refine sy_reg S fun S => ?_
    refine sy_ops 1 S fun bs aa w S => ?_
    cases h2 : numM l 3 with
    | none =>
      refine sy_call S (X := Int) (val := fun v => .tuple #[.int .i64 v, .bool false]) (C := fun _ _ => True) (num_n _ hl h2) (by kernel_rfl) fun v aa w _ hb S => ?_
      refine sy_run ⟨0, [3]⟩ 60 S fun bs aa w S => ?_
      refine sy_reg S fun S => ?_
      refine sy_ops 1 S fun bs aa w S => ?_
      refine sy_call S (X := Int) (val := fun v => .tuple #[.int .i64 v, .bool false]) (C := fun _ _ => True) (num_n _ (by simp) (show numM [] 1048576 = none from rfl)) (by kernel_rfl) fun v2 aa w _ hb S => ?_
      refine sy_run ⟨0, []⟩ 60 S fun bs aa w S => ?_
      have hbx := S.bx 0 ⟨48, [.int .i64 2, .int .i64 v, .int .i64 v2, .slice none 0 0, pv]⟩ (by kernel_rfl)
      exact sy_ret S (by kernel_rfl) (by kernel_rfl) fun hg => ⟨1, ⟨2, v, v2, none, 0, 0, 0, []⟩, by rw [ho], hbx, fun x hx => (by rw [ho] at hx; cases hx), hg⟩
    | some n =>
      refine sy_call1 S (num_s _ hl h2) (by kernel_rfl) fun aa w hb S => ?_
      refine sy_run ⟨0, [3]⟩ 60 S fun bs aa w S => ?_
      refine sy_reg S fun S => ?_
      refine sy_ops 1 S fun bs aa w S => ?_
      refine sy_call S (X := Int) (val := fun v => .tuple #[.int .i64 v, .bool false]) (C := fun _ _ => True) (num_n _ (by simp) (show numM [] 1048576 = none from rfl)) (by kernel_rfl) fun v aa w _ hb S => ?_
      refine sy_run ⟨0, []⟩ 60 S fun bs aa w S => ?_
      have hbx := S.bx 0 ⟨48, [.int .i64 2, .int .i64 (n : Int), .int .i64 v, .slice none 0 0, pv]⟩ (by kernel_rfl)
      exact sy_ret S (by kernel_rfl) (by kernel_rfl) fun hg => ⟨1, ⟨2, (n : Int), v, none, 0, 0, 0, []⟩, by rw [ho], hbx, fun x hx => (by rw [ho] at hx; cases hx), hg⟩
  | some pr =>
    obtain ⟨p, r⟩ := pr
    obtain ⟨hc1, hc2⟩ := cutL_some h
    have hlp : ∀ b ∈ p, b < 256 := fun b hb => hl b (by rw [hc1]; simp [hb])
    have hlr : ∀ b ∈ r, b < 256 := fun b hb => hl b (by rw [hc1]; simp [hb])
    refine sy_call1 S (cutp_s _ (S.fact (f := rfMx) (by simp)) l hl h3 (c := 126) (by omega) h) (by kernel_rfl) fun aa w hb S => ?_
    refine sy_run ⟨0, [2]⟩ 60 S fun bs aa w S => ?_
    refine sy_reg S fun S => ?_
    refine sy_ops 1 S fun bs aa w S => ?_
    cases h2 : numM p 3 with
    | none =>
      have ho : stallS l = none := by unfold stallS; rw [h]; simp only [h2]
      refine sy_call S (X := Int) (val := fun v => .tuple #[.int .i64 v, .bool false]) (C := fun _ _ => True) (num_n _ hlp h2) (by kernel_rfl) fun v aa w _ hb S => ?_
      refine sy_run ⟨0, [3]⟩ 60 S fun bs aa w S => ?_
      refine sy_reg S fun S => ?_
      refine sy_ops 1 S fun bs aa w S => ?_
      cases h4 : numM r 1048576 with
      | none =>
        refine sy_call S (X := Int) (val := fun v => .tuple #[.int .i64 v, .bool false]) (C := fun _ _ => True) (num_n _ hlr h4) (by kernel_rfl) fun v2 aa w _ hb S => ?_
        refine sy_run ⟨0, []⟩ 60 S fun bs aa w S => ?_
        have hbx := S.bx 0 ⟨48, [.int .i64 2, .int .i64 v, .int .i64 v2, .slice none 0 0, pv]⟩ (by kernel_rfl)
        exact sy_ret S (by kernel_rfl) (by kernel_rfl) fun hg => ⟨1, ⟨2, v, v2, none, 0, 0, 0, []⟩, by rw [ho], hbx, fun x hx => (by rw [ho] at hx; cases hx), hg⟩
      | some n =>
        refine sy_call1 S (num_s _ hlr h4) (by kernel_rfl) fun aa w hb S => ?_
        refine sy_run ⟨0, []⟩ 60 S fun bs aa w S => ?_
        have hbx := S.bx 0 ⟨48, [.int .i64 2, .int .i64 v, .int .i64 (n : Int), .slice none 0 0, pv]⟩ (by kernel_rfl)
        exact sy_ret S (by kernel_rfl) (by kernel_rfl) fun hg => ⟨1, ⟨2, v, (n : Int), none, 0, 0, 0, []⟩, by rw [ho], hbx, fun x hx => (by rw [ho] at hx; cases hx), hg⟩
    | some a =>
      refine sy_call1 S (num_s _ hlp h2) (by kernel_rfl) fun aa w hb S => ?_
      refine sy_run ⟨0, [3]⟩ 60 S fun bs aa w S => ?_
      refine sy_reg S fun S => ?_
      refine sy_ops 1 S fun bs aa w S => ?_
      cases h4 : numM r 1048576 with
      | none =>
        have ho : stallS l = none := by unfold stallS; rw [h]; simp only [h2, h4]; rfl
        refine sy_call S (X := Int) (val := fun v => .tuple #[.int .i64 v, .bool false]) (C := fun _ _ => True) (num_n _ hlr h4) (by kernel_rfl) fun v aa w _ hb S => ?_
        refine sy_run ⟨0, []⟩ 60 S fun bs aa w S => ?_
        have hbx := S.bx 0 ⟨48, [.int .i64 2, .int .i64 (a : Int), .int .i64 v, .slice none 0 0, pv]⟩ (by kernel_rfl)
        exact sy_ret S (by kernel_rfl) (by kernel_rfl) fun hg => ⟨1, ⟨2, (a : Int), v, none, 0, 0, 0, []⟩, by rw [ho], hbx, fun x hx => (by rw [ho] at hx; cases hx), hg⟩
      | some n =>
        have ho : stallS l = some (⟨2, (a : Int), (n : Int), []⟩, 1) := by unfold stallS; rw [h]; simp only [h2, h4]; rfl
        refine sy_call1 S (num_s _ hlr h4) (by kernel_rfl) fun aa w hb S => ?_
        refine sy_run ⟨0, []⟩ 60 S fun bs aa w S => ?_
        have hbx := S.bx 0 ⟨48, [.int .i64 2, .int .i64 (a : Int), .int .i64 (n : Int), .slice none 0 0, pv]⟩ (by kernel_rfl)
        exact sy_ret S (by kernel_rfl) (by kernel_rfl) fun hg => ⟨1, ⟨2, (a : Int), (n : Int), none, 0, 0, 0, []⟩, by rw [ho], hbx, fun x hx => (by rw [ho] at hx; cases hx; exact ⟨rfl, rfl, Or.inl rfl, fun j hj => absurd hj (Nat.not_lt_zero _), Or.inl rfl⟩), hg⟩
end Go.Proofs.YtfkmcibglaiakaaDoor
