
/-
  A walk by computation: append within a region that draws its order, where there is no room.
-/
import Derived.Test.YtfkmcibglaiakaaDoorRows
import Derived.Test.YtfkmcibglaiakaaDoorBase
import Derived.Test.YtfkmcibglaiakaaDoorZw
namespace Go.Proofs.YtfkmcibglaiakaaDoor.SZ
open Go Go.RowKit
set_option linter.unusedVariables false
set_option linter.unusedSectionVars false
set_option linter.unusedSimpArgs false
set_option maxRecDepth 10000
section
variable [DF] [KP] [HF]
variable {P : Program} {w0 : World} {r : List Nat} {B : List Nat} {ro bs : List Nat} {QQ : Exit → Act → World → Prop} [PInv QQ] {c : Cfg} {d : DC} {F : List RF} {a : Act} {w : World}
/-- An operation that leaves the world to grow. -/
theorem nx_runB (i : Nat) (D : Sd w0 r B c.s.K ro bs d.s F a w) (hs : Region.noSelect (opsD c) = true) {o : Oper} (ho : (opsD c)[i]? = some o) (hw : Region.wanted o (yielded (opsD c) a.tmps) = true) {C : Value → World → Prop}
    (hr : ∃ v' w', (execOp a.eval o).run P w = .ok (.value v') w' ∧ C v' w' ∧ Below w.heap.size w w')
    (h : ∀ v' a' w', C v' w' → Below w.heap.size w w' → (∀ j, j < bs.length → bs.getD j 0 < w.heap.size) → Sd w0 r B c.s.K ro bs (dV P c ro d i (.v v')).s F a' w' → GD P c QQ B ro (dV P c ro d i (.v v')) a' w') : Nxt P (opsD c) (PQ P (kD c) QQ) (HoldS B c.s.K ro) d.pred d.lst a w i := by
  obtain ⟨v', w', h1, h2, h3⟩ := hr
  unfold Nxt wpOp
  rw [ho]
  simp only
  rw [if_pos hw]
  refine Or.inl ?_
  unfold Oper.wp
  rw [h1, Oper.upon_value]
  have D1 : Sd w0 r B c.s.K ro bs d.s F a w' := ⟨D.S.below h3, D.pre, D.bl, D.ff, D.hro⟩
  have D2 := D1.put o.dst (x := .v v') trivial
  have e : ((opsD c)[i]?).bind (·.dst) = o.dst := by rw [ho]; rfl
  refine ⟨D2.hold, ?_⟩
  exact drq_sound (d := ⟨d.m - 1, d.lst.setIfInBounds i true, d.s.put (((opsD c)[i]?).bind (·.dst)) (.v v')⟩) hs (by rw [e]; exact D2) fun a'' D'' => h v' a'' w' h2 h3 (fun j hj => D.S.lt hj) D''
/-- Append where there is no room: a new row. -/
theorem nx_appN (i : Nat) (D : Sd w0 r B c.s.K ro bs d.s F a w) (hs : Region.noSelect (opsD c) = true) {u y : SV} {t e : TypeId} {b : Option Addr} {n : Nat} {ad : Addr} {m cp size bytes : Nat} {xs news : List Value} {info : TypeInfo} {z : Value}
    (hh : (((opsD c)[i]?).bind fun o => headApp ⟨[.ops (opsD c) [o]], d.s⟩) = some (u, y, t)) (ht : P.underlying t = some (.slice e)) (hi : P.info? e = some info) (hz : info.zero = some z)
    (hsize : info.size = size) (hby : info.bytes = bytes) (hzs : z.cells.size = size) (hu : den bs u = .slice b n n) (hy : den bs y = .slice (some ad) m cp) (hm : 0 < m)
    (hx : (b = none ∧ n = 0) ∨ (∃ g o, b = some ⟨g, o, none⟩ ∧ ∀ j x, xs[j]? = some x → w.cell? ⟨g, o + j, none⟩ = some x) ∨ (n = 0 ∧ b.isSome = true)) (hxl : xs.length = n * size)
    (hnews : ∀ j x, news[j]? = some x → w.cell? (ad.add j) = some x) (hl : news.length = m * size) (h63 : n + m ≤ 100000) (hbytes : (n + m) * bytes ≤ 140737488355328)
    (h : ∀ v' a' w', w'.ownsRow w.heap.size e size v' (n + m) (xs ++ news) → Below w.heap.size w w' → (∀ j, j < bs.length → bs.getD j 0 < w.heap.size) → Sd w0 r B c.s.K ro bs (dV P c ro d i (.v v')).s F a' w' → GD P c QQ B ro (dV P c ro d i (.v v')) a' w') : Nxt P (opsD c) (PQ P (kD c) QQ) (HoldS B c.s.K ro) d.pred d.lst a w i := by
  obtain ⟨o, ho, hh⟩ : ∃ o, (opsD c)[i]? = some o ∧ headApp ⟨[.ops (opsD c) [o]], d.s⟩ = some (u, y, t) := by
    cases ho : (opsD c)[i]? with
    | none => rw [ho] at hh; cases hh
    | some o => rw [ho] at hh; exact ⟨o, rfl, hh⟩
  obtain ⟨hw, x, yy, hop, hx1, hy1⟩ := app_op D.S hh
  subst hsize
  subst hby
  refine nx_runB i D hs ho hw (C := fun v' w' => w'.ownsRow w.heap.size e info.size v' (n + m) (xs ++ news)) ?_ h
  have key : ∃ (cap : Nat) (Z : Array Value), (Builtin.append_ #[t, t] o.type #[.slice b n n, .slice (some ad) m cp]).run P w = .ok (.slice (some ⟨w.heap.size, 0, none⟩) (n + m) cap) (w.drew.alloc (.cells (xs.toArray ++ news.toArray ++ Z) e)) ∧ n + m ≤ cap ∧ cap ≤ maxLen ∧ Z.size = (cap - (n + m)) * info.size := by
    rcases hx with ⟨rfl, rfl⟩ | ⟨g, of, rfl, hc⟩ | ⟨rfl, hsm⟩
    · have hx0 : xs = [] := List.eq_nil_of_length_eq_zero (by simpa using hxl)
      subst hx0
      have hr := run_append_nil (P := P) w t o.type e info z ht hi hz ad m cp news hl hnews hm (by omega) (by simp only [Nat.zero_add] at hbytes; omega)
      refine ⟨grownCap w m 0 e, Builtin.zeroCells z.cells (grownCap w m 0 e - m), ?_, ?_, grownCap_le_maxLen w m 0 e (by simp only [maxLen]; omega), by rw [size_zeroCells, hzs]; simp⟩
      · simpa using hr
      · simpa using grownCap_ge w m 0 e
    · have hr := run_append_grow (P := P) w t o.type e info z ht hi hz ⟨g, of, none⟩ n n xs hxl (fun j v hj => by rw [Addr.add_mid]; exact hc j v hj) ad m cp news hl hnews (by omega) (by omega) (growslice_fits (by omega) hbytes)
      exact ⟨_, _, hr, grownCap_ge w (n + m) n e, grownCap_le_maxLen w (n + m) n e (by simp only [maxLen]; omega), by rw [size_zeroCells, hzs]⟩
    · obtain ⟨a0, rfl⟩ := Option.isSome_iff_exists.1 hsm
      have hx0 : xs = [] := List.eq_nil_of_length_eq_zero (by simpa using hxl)
      subst hx0
      have hr := run_append_grow (P := P) w t o.type e info z ht hi hz a0 0 0 [] (by simp) (fun j v hj => by simp at hj) ad m cp news hl hnews (by omega) (by omega) (growslice_fits (by omega) hbytes)
      exact ⟨_, _, hr, grownCap_ge w (0 + m) 0 e, grownCap_le_maxLen w (0 + m) 0 e (by simp only [maxLen]; omega), by rw [size_zeroCells, hzs]⟩
  obtain ⟨cap, Z, hr, g1, g2, g3⟩ := key
  refine ⟨_, w.drew.alloc (.cells (xs.toArray ++ news.toArray ++ Z) e), ?_, ⟨by rw [List.length_append, hxl, hl, Nat.add_mul], Or.inr ⟨w.heap.size, cap, _, rfl, Nat.le_refl _, heap_alloc_new w.drew _, g1, g2, ?_, ?_⟩⟩, ⟨rfl, rfl, rfl, by simp, fun k hk => heap_alloc_old w.drew _ hk⟩⟩
  · unfold execOp
    simp only [hop, resolve, invoke, builtin, Sem.run_bind, Sem.run_pure, Result.andThen_ok, List.map_toArray, List.map_cons, List.map_nil, hx1, hy1, hu, hy, hr]
  · simp only [Array.size_append, List.size_toArray, hxl, hl, g3, ← Nat.add_mul]
    congr 1
    omega
  · simp only [Array.toList_append, List.append_assoc]
    rw [← List.append_assoc]
    have e1 : (n + m) * info.size = (xs ++ news).length := by rw [List.length_append, hxl, hl, Nat.add_mul]
    rw [e1]
    exact List.take_left
end
end Go.Proofs.YtfkmcibglaiakaaDoor.SZ
