
/-
  A walk by computation: regions that draw their order, several operations at once.
-/
import Derived.Test.YtfkmcibglaiakaaDoorRows
import Derived.Test.YtfkmcibglaiakaaDoorBase
import Derived.Test.YtfkmcibglaiakaaDoorZt
namespace Go.Proofs.YtfkmcibglaiakaaDoor.SZ
open Go Go.RowKit
set_option linter.unusedVariables false
set_option linter.unusedSectionVars false
set_option maxRecDepth 10000

section
variable {P : Program} {ops : Array Oper} {Q : Exit → Act → World → Prop} {S : World → Prop} {m : Nat} {listed : Array Bool} {a : Act} {w : World} {i j k l : Nat}
theorem na1 (h1 : Nxt P ops Q S m listed a w i) : NxtAll P ops Q S m listed a w [i] := ⟨h1, trivial⟩
theorem na2 (h1 : Nxt P ops Q S m listed a w i) (h2 : Nxt P ops Q S m listed a w j) : NxtAll P ops Q S m listed a w [i, j] := ⟨h1, h2, trivial⟩
theorem na3 (h1 : Nxt P ops Q S m listed a w i) (h2 : Nxt P ops Q S m listed a w j) (h3 : Nxt P ops Q S m listed a w k) : NxtAll P ops Q S m listed a w [i, j, k] := ⟨h1, h2, h3, trivial⟩
theorem na4 (h1 : Nxt P ops Q S m listed a w i) (h2 : Nxt P ops Q S m listed a w j) (h3 : Nxt P ops Q S m listed a w k) (h4 : Nxt P ops Q S m listed a w l) : NxtAll P ops Q S m listed a w [i, j, k, l] := ⟨h1, h2, h3, h4, trivial⟩
end
section
variable [DF] [KP] [HF]
variable {P : Program} {w0 : World} {r : List Nat} {B : List Nat} {ro bs : List Nat} {QQ : Exit → Act → World → Prop} [PInv QQ] {c : Cfg} {d : DC} {F : List RF} {a : Act} {w : World}
theorem nx_ld (i : Nat) (D : Sd w0 r B c.s.K ro bs d.s F a w) (hs : Region.noSelect (opsD c) = true) {ty : TypeId} {ad : Addr} {v : Value}
    (hl : (loadVar ty ad).run P w = .ok v w) (hh : (((opsD c)[i]?).bind fun o => headO P ⟨[.ops (opsD c) [o]], d.s⟩) = some (ty, ad))
    (h : ∀ a', Sd w0 r B c.s.K ro bs (dV P c ro d i (.v v)).s F a' w → GD P c QQ B ro (dV P c ro d i (.v v)) a' w) : Nxt P (opsD c) (PQ P (kD c) QQ) (HoldS B c.s.K ro) d.pred d.lst a w i := by
  obtain ⟨o, ho, hh⟩ : ∃ o, (opsD c)[i]? = some o ∧ headO P ⟨[.ops (opsD c) [o]], d.s⟩ = some (ty, ad) := by
    cases ho : (opsD c)[i]? with
    | none => rw [ho] at hh; cases hh
    | some o => rw [ho] at hh; exact ⟨o, rfl, hh⟩
  exact nxt_val D ho (x := .v v) trivial (ldo_run D.S hl hh) fun a' D' => drq_sound (d := ⟨d.m - 1, d.lst.setIfInBounds i true, d.s.put (((opsD c)[i]?).bind (·.dst)) (.v v)⟩) hs D' fun a'' D'' => h a'' D''
theorem nx_call1 (i : Nat) (D : Sd w0 r B c.s.K ro bs d.s F a w) (hs : Region.noSelect (opsD c) = true) {v : Value} {f : FuncId} {args : Array Value}
    (hC : Calls P f args w fun e w' => e = .returned v ∧ Below w.heap.size w w')
    (hh : (((opsD c)[i]?).bind fun o => headC P ⟨[.ops (opsD c) [o]], d.s⟩).map (fun q => (q.1, q.2.map (den bs))) = some (f, args.toList))
    (h : ∀ a' w', Sd w0 r B c.s.K ro bs (dV P c ro d i (.v v)).s F a' w' → GD P c QQ B ro (dV P c ro d i (.v v)) a' w') : Nxt P (opsD c) (PQ P (kD c) QQ) (HoldS B c.s.K ro) d.pred d.lst a w i :=
  nx_call i D hs (X := Unit) (val := fun _ => v) (C := fun _ _ => True) (hC.mono fun e w' h => ⟨(), h.1, trivial, h.2⟩) hh fun _ a' w' _ hb D' => h a' w' D'
theorem nx_callG {g : Nat} (i : Nat) (D : Sd w0 r B c.s.K ro bs d.s F a w) (h0 : g ∈ r ∨ w0.heap.size ≤ g) (hs : Region.noSelect (opsD c) = true) {v : Value} {C : World → Prop} {f : FuncId} {args : Array Value}
    (hC : Calls P f args w fun e w' => e = .returned v ∧ C w' ∧ w.grownBy w' (some g))
    (hh : (((opsD c)[i]?).bind fun o => headC P ⟨[.ops (opsD c) [o]], d.s⟩).map (fun q => (q.1, q.2.map (den bs))) = some (f, args.toList)) {F' : List RF} (hF : ∀ f ∈ F', f ∈ F ∧ ¬f.bl g) (hnb : ∀ i, i < bs.length → bs.getD i 0 ≠ g)
    (h : ∀ a' w', C w' → Sd w0 r B c.s.K ro bs (dV P c ro d i (.v v)).s F' a' w' → GD P c QQ B ro (dV P c ro d i (.v v)) a' w') (hff : ∀ f ∈ HF.fs, f ∈ F' := by exact fun f hf => absurd hf List.not_mem_nil) : Nxt P (opsD c) (PQ P (kD c) QQ) (HoldS B c.s.K ro) d.pred d.lst a w i :=
  nxt_callG D h0 hC hh hF hnb (hff := hff) fun a' w' hx D' => drq_sound (d := ⟨d.m - 1, d.lst.setIfInBounds i true, d.s.put (((opsD c)[i]?).bind (·.dst)) (.v v)⟩) hs D' fun a'' D'' => h a'' w' hx D''
theorem nx_pan (i : Nat) (D : Sd w0 r B c.s.K ro bs d.s F a w) {ch : List PanicEntry} {f : FuncId} {args : Array Value} {G : List Nat}
    (hC : Calls P f args w fun e w' => e = .panicked ch ∧ Gr w w' G)
    (hh : (((opsD c)[i]?).bind fun o => headC P ⟨[.ops (opsD c) [o]], d.s⟩).map (fun q => (q.1, q.2.map (den bs))) = some (f, args.toList))
    (h : ∀ w', Gr w w' G → QQ (.panic ch) a w') : Nxt P (opsD c) (PQ P (kD c) QQ) (HoldS B c.s.K ro) d.pred d.lst a w i := nxt_panic D hC hh h
theorem gr_gb' {w w' : World} {g : Nat} (h : w.grownBy w' (some g)) : Gr w w' [g] := gr_gb h (by simp)
end
end Go.Proofs.YtfkmcibglaiakaaDoor.SZ
