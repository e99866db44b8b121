
/-
  A walk by computation: regions that draw their order, with loads of variables that are not the walk's own and calls that change the one foreign variable.
-/
import Derived.Test.YtfkmcibglaiakaaDoorRows
import Derived.Test.YtfkmcibglaiakaaDoorBase
import Derived.Test.YtfkmcibglaiakaaDoorZd
import Derived.Test.YtfkmcibglaiakaaDoorZb
namespace Go.Proofs.YtfkmcibglaiakaaDoor.SZ
open Go Go.RowKit
set_option linter.unusedVariables false
set_option linter.unusedSectionVars false
set_option linter.unusedSimpArgs false
set_option maxRecDepth 10000
section
variable [DF] [KP] [HF]
variable {P : Program} {w0 : World} {r : List Nat} {bs : List Nat} {s : SS} {F : List RF} {a : Act} {w : World}
theorem ix_run {ops : Array Oper} {o : Oper} {b off len n size : Nat} {i : Int} (S : Sy w0 r bs s F a w) (hh : headIx P ⟨[.ops ops [o]], s⟩ = some (some ⟨b, off, none⟩, len, i, size)) (hi : i = (n : Int)) (hn : n < len) :
    wantS s ops o = some true ∧ (execOp a.eval o).run P w = .ok (.value (.pointer (some ⟨b, off + n * size, none⟩))) w := by
  subst hi
  unfold headIx at hh
  simp only at hh
  cases hw : wantS s ops o with
  | none => rw [hw] at hh; simp at hh
  | some b' =>
    rw [hw] at hh
    cases b' with
    | false => simp at hh
    | true =>
      cases ho : o.op <;> rw [ho] at hh <;> simp only [reduceCtorEq] at hh
      case indexAddr t x ix =>
        cases hx : s.val x with
        | none => rw [hx] at hh; simp at hh
        | some y =>
          rw [hx] at hh
          cases y with
          | v y =>
            cases y with
            | slice ad len' cap =>
              cases hi : s.val ix with
              | none => rw [hi] at hh; simp at hh
              | some z =>
                rw [hi] at hh
                cases z with
                | v z =>
                  cases z with
                  | int kk m =>
                    cases hu : P.underlying t with
                    | none => rw [hu] at hh; simp at hh
                    | some d =>
                      rw [hu] at hh
                      cases d <;> simp only [reduceCtorEq] at hh
                      rename_i elem
                      cases hs : (P.info? elem).map (·.size) with
                      | none => rw [hs] at hh; simp at hh
                      | some sz =>
                        rw [hs] at hh
                        simp only [Option.map_some, Option.some.injEq, Prod.mk.injEq] at hh
                        obtain ⟨h1, h2, h3, h4⟩ := hh
                        subst h1; subst h2; subst h3; subst h4
                        have g1 := (S.val hx).1
                        have g2 := (S.val hi).1
                        refine ⟨rfl, ?_⟩
                        unfold execOp
                        simp only [ho, g1, g2, den, Instr.indexAt, asIntOf, Sem.run_bind, Sem.run_pure, Result.andThen_ok, run_underlying hu w]
                        rw [if_pos ⟨by simp, by simpa using hn⟩]
                        simp only [Sem.run_bind, run_info hs, Result.andThen_ok, Sem.run_pure, addr_addS, Int.toNat_natCast]
                  | _ => simp at hh
                | _ => simp at hh
            | _ => simp at hh
          | _ => simp at hh
theorem ix_runW {ops : Array Oper} {o : Oper} {b off len n size : Nat} {i : Int} (S : Sy w0 r bs s F a w) (hh : headIx P ⟨[.ops ops [o]], s⟩ = some (some ⟨b, off, none⟩, len, i, size)) (hi : i = (n : Int)) (hn : n < len) (W : World) :
    (execOp a.eval o).run P W = .ok (.value (.pointer (some ⟨b, off + n * size, none⟩))) W := by
  subst hi
  unfold headIx at hh
  simp only at hh
  cases hw : wantS s ops o with
  | none => rw [hw] at hh; simp at hh
  | some b' =>
    rw [hw] at hh
    cases b' with
    | false => simp at hh
    | true =>
      cases ho : o.op <;> rw [ho] at hh <;> simp only [reduceCtorEq] at hh
      case indexAddr t x ix =>
        cases hx : s.val x with
        | none => rw [hx] at hh; simp at hh
        | some y =>
          rw [hx] at hh
          cases y with
          | v y =>
            cases y with
            | slice ad len' cap =>
              cases hi : s.val ix with
              | none => rw [hi] at hh; simp at hh
              | some z =>
                rw [hi] at hh
                cases z with
                | v z =>
                  cases z with
                  | int kk m =>
                    cases hu : P.underlying t with
                    | none => rw [hu] at hh; simp at hh
                    | some d =>
                      rw [hu] at hh
                      cases d <;> simp only [reduceCtorEq] at hh
                      rename_i elem
                      cases hs : (P.info? elem).map (·.size) with
                      | none => rw [hs] at hh; simp at hh
                      | some sz =>
                        rw [hs] at hh
                        simp only [Option.map_some, Option.some.injEq, Prod.mk.injEq] at hh
                        obtain ⟨h1, h2, h3, h4⟩ := hh
                        subst h1; subst h2; subst h3; subst h4
                        have g1 := (S.val hx).1
                        have g2 := (S.val hi).1
                        unfold execOp
                        simp only [ho, g1, g2, den, Instr.indexAt, asIntOf, Sem.run_bind, Sem.run_pure, Result.andThen_ok, run_underlying hu W]
                        rw [if_pos ⟨by simp, by simpa using hn⟩]
                        simp only [Sem.run_bind, run_info hs, Result.andThen_ok, Sem.run_pure, addr_addS, Int.toNat_natCast]
                  | _ => simp at hh
                | _ => simp at hh
            | _ => simp at hh
          | _ => simp at hh
theorem ldo_run {ops : Array Oper} {o : Oper} {ty : TypeId} {ad : Addr} {v : Value} (S : Sy w0 r bs s F a w) (hl : (loadVar ty ad).run P w = .ok v w) (hh : headO P ⟨[.ops ops [o]], s⟩ = some (ty, ad)) :
    wantS s ops o = some true ∧ (execOp a.eval o).run P w = .ok (.value v) w := by
  unfold headO at hh
  simp only at hh
  cases hw : wantS s ops o with
  | none => rw [hw] at hh; simp at hh
  | some b =>
    rw [hw] at hh
    cases b with
    | false => simp at hh
    | true =>
      cases ho : o.op <;> rw [ho] at hh <;> simp only [reduceCtorEq] at hh
      case load ty' x =>
        cases hx : s.val x with
        | none => rw [hx] at hh; simp at hh
        | some y =>
          rw [hx] at hh
          cases y with
          | v y =>
            cases y with
            | pointer pa =>
              cases pa with
              | none => simp at hh
              | some ad' =>
                simp only [Option.some.injEq, Prod.mk.injEq] at hh
                obtain ⟨h1, h2⟩ := hh
                subst h1; subst h2
                have h1 := (S.val hx).1
                refine ⟨rfl, ?_⟩
                unfold execOp
                simp only [ho, h1, den, Instr.loadAt, Instr.sureAddr, Sem.run_bind, Sem.run_pure, Result.andThen_ok, hl]
            | _ => simp at hh
          | _ => simp at hh
theorem ldo_runW {ops : Array Oper} {o : Oper} {ty : TypeId} {ad : Addr} {v : Value} (S : Sy w0 r bs s F a w) {W : World} (hl : (loadVar ty ad).run P W = .ok v W) (hh : headO P ⟨[.ops ops [o]], s⟩ = some (ty, ad)) :
    (execOp a.eval o).run P W = .ok (.value v) W := by
  unfold headO at hh
  simp only at hh
  cases hw : wantS s ops o with
  | none => rw [hw] at hh; simp at hh
  | some b =>
    rw [hw] at hh
    cases b with
    | false => simp at hh
    | true =>
      cases ho : o.op <;> rw [ho] at hh <;> simp only [reduceCtorEq] at hh
      case load ty' x =>
        cases hx : s.val x with
        | none => rw [hx] at hh; simp at hh
        | some y =>
          rw [hx] at hh
          cases y with
          | v y =>
            cases y with
            | pointer pa =>
              cases pa with
              | none => simp at hh
              | some ad' =>
                simp only [Option.some.injEq, Prod.mk.injEq] at hh
                obtain ⟨h1, h2⟩ := hh
                subst h1; subst h2
                have h1 := (S.val hx).1
                unfold execOp
                simp only [ho, h1, den, Instr.loadAt, Instr.sureAddr, Sem.run_bind, Sem.run_pure, Result.andThen_ok, hl]
            | _ => simp at hh
          | _ => simp at hh
variable {k : List It} {QQ : Exit → Act → World → Prop} [PInv QQ] {B : List Nat} {K0 : List Bx} {ro : List Nat} {ops : Array Oper}
theorem nxt_val {m : Nat} {listed : Array Bool} {i : Nat} (D : Sd w0 r B K0 ro bs s F a w) {o : Oper} (ho : ops[i]? = some o) {x : SV} (hx : x.ok bs.length) (hr : wantS s ops o = some true ∧ (execOp a.eval o).run P w = .ok (.value (den bs x)) w)
    (h : ∀ a', Sd w0 r B K0 ro bs (s.put ((ops[i]?).bind (·.dst)) x) F a' w → wpAnyH P .any ops (PQ P k QQ) (HoldS B K0 ro) m (listed.setIfInBounds i true) a' w) : Nxt P ops (PQ P k QQ) (HoldS B K0 ro) m listed a w i := by
  unfold Nxt wpOp
  rw [ho] at h ⊢
  simp only [Option.bind_some] at h ⊢
  rw [if_pos (wantS_sound D.S hr.1)]
  refine Or.inl ?_
  unfold Oper.wp
  rw [hr.2, Oper.upon_value]
  have D' := D.put o.dst hx
  exact ⟨D'.hold, h _ D'⟩
theorem nxt_callG {g : Nat} {m : Nat} {listed : Array Bool} {i : Nat} (D : Sd w0 r B K0 ro bs s F a w) (h0 : g ∈ r ∨ w0.heap.size ≤ g) {v : Value} {C : World → Prop} {f : FuncId} {args : Array Value}
    (hC : Calls P f args w fun e w' => e = .returned v ∧ C w' ∧ w.grownBy w' (some g))
    (hh : ((ops[i]?).bind fun o => headC P ⟨[.ops ops [o]], s⟩).map (fun q => (q.1, q.2.map (den bs))) = some (f, args.toList)) {F' : List RF} (hF : ∀ f ∈ F', f ∈ F ∧ ¬f.bl g) (hn : ∀ i, i < bs.length → bs.getD i 0 ≠ g)
    (h : ∀ a' w', C w' → Sd w0 r B K0 ro bs (s.put ((ops[i]?).bind (·.dst)) (.v v)) F' a' w' → wpAnyH P .any ops (PQ P k QQ) (HoldS B K0 ro) m (listed.setIfInBounds i true) a' w') (hff : ∀ f ∈ HF.fs, f ∈ F' := by exact fun f hf => absurd hf List.not_mem_nil) :
    Nxt P ops (PQ P k QQ) (HoldS B K0 ro) m listed a w i := by
  unfold Nxt
  cases ho : ops[i]? with
  | none => rw [ho] at hh; simp at hh
  | some o =>
    rw [ho] at hh h; simp only [Option.bind_some] at hh h
    obtain ⟨h1, h2⟩ := call_op D.S hh
    unfold wpOp
    rw [ho]
    simp only
    rw [if_pos h1]
    refine Or.inl ?_
    unfold Oper.wp
    rw [h2, Oper.upon_enter]
    refine Calls.mono hC ?_
    rintro e w' ⟨rfl, hx, hb⟩
    have D1 : Sd w0 r B K0 ro bs s F' a w' := ⟨D.S.grown hb h0 hF hn, D.pre, D.bl, hff, D.hro⟩
    have D' := D1.put o.dst (x := .v v) trivial
    exact ⟨D'.hold, h _ w' hx D'⟩
theorem nxt_panic {m : Nat} {listed : Array Bool} {i : Nat} (D : Sd w0 r B K0 ro bs s F a w) {ch : List PanicEntry} {f : FuncId} {args : Array Value}
    {G : List Nat} (hC : Calls P f args w fun e w' => e = .panicked ch ∧ Gr w w' G)
    (hh : ((ops[i]?).bind fun o => headC P ⟨[.ops ops [o]], s⟩).map (fun q => (q.1, q.2.map (den bs))) = some (f, args.toList))
    (h : ∀ w', Gr w w' G → QQ (.panic ch) a w') : Nxt P ops (PQ P k QQ) (HoldS B K0 ro) m listed a w i := by
  unfold Nxt
  cases ho : ops[i]? with
  | none => rw [ho] at hh; simp at hh
  | some o =>
    rw [ho] at hh; simp only [Option.bind_some] at hh
    obtain ⟨h1, h2⟩ := call_op D.S hh
    unfold wpOp
    rw [ho]
    simp only
    rw [if_pos h1]
    refine Or.inl ?_
    unfold Oper.wp
    rw [h2, Oper.upon_enter]
    refine Calls.mono hC ?_
    rintro e w' ⟨rfl, hb⟩
    show post P k _ (.panic ch) a w'
    rw [post_panic]
    exact h w' hb
end
section
variable [DF] [KP] [HF]
variable {P : Program} {w0 : World} {r : List Nat} {bs : List Nat} {F : List RF} {a : Act} {w : World}
variable {c : Cfg} {QQ : Exit → Act → World → Prop} [PInv QQ] {B : List Nat} {ro : List Nat} {d : DC}
theorem dr_ix (i : Nat) (D : Sd w0 r B c.s.K ro bs d.s F a w) (hs : Region.noSelect (opsD c) = true) (hn : (d.m != 0) = true) (hr : Region.ready .any (opsD c) d.lst = [i]) {b off len n size : Nat} {ix : Int}
    (hh : (((opsD c)[i]?).bind fun o => headIx P ⟨[.ops (opsD c) [o]], d.s⟩) = some (some ⟨b, off, none⟩, len, ix, size)) (hi : ix = (n : Int)) (hlt : n < len)
    (h : ∀ a', Sd w0 r B c.s.K ro bs (dV P c ro d i (.v (.pointer (some ⟨b, off + n * size, none⟩)))).s F a' w → GD P c QQ B ro (dV P c ro d i (.v (.pointer (some ⟨b, off + n * size, none⟩)))) a' w) : GD P c QQ B ro d a w := by
  have hn' : d.m = (d.m - 1) + 1 := by simp at hn; omega
  obtain ⟨o, ho, hh⟩ : ∃ o, (opsD c)[i]? = some o ∧ headIx P ⟨[.ops (opsD c) [o]], d.s⟩ = some (some ⟨b, off, none⟩, len, ix, size) := by
    cases ho : (opsD c)[i]? with
    | none => rw [ho] at hh; cases hh
    | some o => rw [ho] at hh; exact ⟨o, rfl, hh⟩
  exact any_ready [i] (d.m - 1) hn' hr (by simp) ⟨nxt_val D ho (x := .v (.pointer (some ⟨b, off + n * size, none⟩))) trivial (ix_run D.S hh hi hlt) fun a' D' => drq_sound (d := ⟨d.m - 1, d.lst.setIfInBounds i true, d.s.put (((opsD c)[i]?).bind (·.dst)) (.v (.pointer (some ⟨b, off + n * size, none⟩)))⟩) hs D' fun a'' D'' => h a'' D'', trivial⟩
theorem dr_ldo (i : Nat) (D : Sd w0 r B c.s.K ro bs d.s F a w) (hs : Region.noSelect (opsD c) = true) (hn : (d.m != 0) = true) (hr : Region.ready .any (opsD c) d.lst = [i]) {ty : TypeId} {ad : Addr} {v : Value}
    (hl : (loadVar ty ad).run P w = .ok v w) (hh : (((opsD c)[i]?).bind fun o => headO P ⟨[.ops (opsD c) [o]], d.s⟩) = some (ty, ad))
    (h : ∀ a', Sd w0 r B c.s.K ro bs (dV P c ro d i (.v v)).s F a' w → GD P c QQ B ro (dV P c ro d i (.v v)) a' w) : GD P c QQ B ro d a w := by
  have hn' : d.m = (d.m - 1) + 1 := by simp at hn; omega
  obtain ⟨o, ho, hh⟩ : ∃ o, (opsD c)[i]? = some o ∧ headO P ⟨[.ops (opsD c) [o]], d.s⟩ = some (ty, ad) := by
    cases ho : (opsD c)[i]? with
    | none => rw [ho] at hh; cases hh
    | some o => rw [ho] at hh; exact ⟨o, rfl, hh⟩
  exact any_ready [i] (d.m - 1) hn' hr (by simp) ⟨nxt_val D ho (x := .v v) trivial (ldo_run D.S hl hh) fun a' D' => drq_sound (d := ⟨d.m - 1, d.lst.setIfInBounds i true, d.s.put (((opsD c)[i]?).bind (·.dst)) (.v v)⟩) hs D' fun a'' D'' => h a'' D'', trivial⟩
theorem dr_callG {g : Nat} (i : Nat) (D : Sd w0 r B c.s.K ro bs d.s F a w) (h0 : g ∈ r ∨ w0.heap.size ≤ g) (hs : Region.noSelect (opsD c) = true) (hn : (d.m != 0) = true) (hr : Region.ready .any (opsD c) d.lst = [i]) {v : Value} {C : World → Prop} {f : FuncId} {args : Array Value}
    (hC : Calls P f args w fun e w' => e = .returned v ∧ C w' ∧ w.grownBy w' (some g))
    (hh : (((opsD c)[i]?).bind fun o => headC P ⟨[.ops (opsD c) [o]], d.s⟩).map (fun q => (q.1, q.2.map (den bs))) = some (f, args.toList)) {F' : List RF} (hF : ∀ f ∈ F', f ∈ F ∧ ¬f.bl g) (hnb : ∀ i, i < bs.length → bs.getD i 0 ≠ g)
    (h : ∀ a' w', C w' → Sd w0 r B c.s.K ro bs (dV P c ro d i (.v v)).s F' a' w' → GD P c QQ B ro (dV P c ro d i (.v v)) a' w') (hff : ∀ f ∈ HF.fs, f ∈ F' := by exact fun f hf => absurd hf List.not_mem_nil) : GD P c QQ B ro d a w := by
  have hn' : d.m = (d.m - 1) + 1 := by simp at hn; omega
  exact any_ready [i] (d.m - 1) hn' hr (by simp) ⟨nxt_callG D h0 hC hh hF hnb (hff := hff) fun a' w' hx D' => drq_sound (d := ⟨d.m - 1, d.lst.setIfInBounds i true, d.s.put (((opsD c)[i]?).bind (·.dst)) (.v v)⟩) hs D' fun a'' D'' => h a'' w' hx D'', trivial⟩
theorem dr_panic (i : Nat) (D : Sd w0 r B c.s.K ro bs d.s F a w) (hn : (d.m != 0) = true) (hr : Region.ready .any (opsD c) d.lst = [i]) {ch : List PanicEntry} {f : FuncId} {args : Array Value}
    {G : List Nat} (hC : Calls P f args w fun e w' => e = .panicked ch ∧ Gr w w' G)
    (hh : (((opsD c)[i]?).bind fun o => headC P ⟨[.ops (opsD c) [o]], d.s⟩).map (fun q => (q.1, q.2.map (den bs))) = some (f, args.toList))
    (h : ∀ w', Gr w w' G → QQ (.panic ch) a w') : GD P c QQ B ro d a w := by
  have hn' : d.m = (d.m - 1) + 1 := by simp at hn; omega
  exact any_ready [i] (d.m - 1) hn' hr (by simp) ⟨nxt_panic D hC hh h, trivial⟩
/-- The address of an element of a foreign slice, first of all. -/
theorem dr_tix (i : Nat) (D : Sd w0 r B c.s.K ro bs d.s F a w) (hs : Region.noSelect (opsD c) = true) (hn : (d.m != 0) = true) (hf : (Region.free .any (opsD c) d.lst i && (Region.ready .any (opsD c) d.lst).contains i && KP.keep.all fun t => ((opsD c)[i]?).bind (·.dst) != some t) = true) {b off len n size : Nat} {ix : Int}
    (hh : (((opsD c)[i]?).bind fun o => headIx P ⟨[.ops (opsD c) [o]], d.s⟩) = some (some ⟨b, off, none⟩, len, ix, size)) (hi : ix = (n : Int)) (hlt : n < len)
    (h : ∀ a', Sd w0 r B c.s.K ro bs (dV P c ro d i (.v (.pointer (some ⟨b, off + n * size, none⟩)))).s F a' w → GD P c QQ B ro (dV P c ro d i (.v (.pointer (some ⟨b, off + n * size, none⟩)))) a' w) : GD P c QQ B ro d a w := by
  obtain ⟨o, ho, hh⟩ : ∃ o, (opsD c)[i]? = some o ∧ headIx P ⟨[.ops (opsD c) [o]], d.s⟩ = some (some ⟨b, off, none⟩, len, ix, size) := by
    cases ho : (opsD c)[i]? with
    | none => rw [ho] at hh; cases hh
    | some o => rw [ho] at hh; exact ⟨o, rfl, hh⟩
  exact dr_tk i D hs hn hf ho (x := .v _) trivial (ix_run D.S hh hi hlt).1 (fun W _ => ix_runW D.S hh hi hlt W) h
/-- A load of a foreign variable that the region keeps, first of all. -/
theorem dr_tld (i : Nat) (D : Sd w0 r B c.s.K ro bs d.s F a w) (hs : Region.noSelect (opsD c) = true) (hn : (d.m != 0) = true) (hf : (Region.free .any (opsD c) d.lst i && (Region.ready .any (opsD c) d.lst).contains i && KP.keep.all fun t => ((opsD c)[i]?).bind (·.dst) != some t) = true) {ty : TypeId} {ad : Addr} {v : Value}
    (hl : ∀ W, (∀ f ∈ HF.fs, f.P W) → (loadVar ty ad).run P W = .ok v W) (hh : (((opsD c)[i]?).bind fun o => headO P ⟨[.ops (opsD c) [o]], d.s⟩) = some (ty, ad))
    (h : ∀ a', Sd w0 r B c.s.K ro bs (dV P c ro d i (.v v)).s F a' w → GD P c QQ B ro (dV P c ro d i (.v v)) a' w) : GD P c QQ B ro d a w := by
  obtain ⟨o, ho, hh⟩ : ∃ o, (opsD c)[i]? = some o ∧ headO P ⟨[.ops (opsD c) [o]], d.s⟩ = some (ty, ad) := by
    cases ho : (opsD c)[i]? with
    | none => rw [ho] at hh; cases hh
    | some o => rw [ho] at hh; exact ⟨o, rfl, hh⟩
  exact dr_tk i D hs hn hf ho (x := .v v) trivial (ldo_run D.S (hl w D.hold.2) hh).1 (fun W hW => ldo_runW D.S (hl W hW.2) hh) h
end
end Go.Proofs.YtfkmcibglaiakaaDoor.SZ
