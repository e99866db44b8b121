
/-
  A walk by computation: append to an own row within a region that draws its order.
-/
import Derived.Test.YtfkmcibglaiakaaDoorRows
import Derived.Test.YtfkmcibglaiakaaDoorBase
import Derived.Test.YtfkmcibglaiakaaDoorZv
namespace Go.Proofs.YtfkmcibglaiakaaDoor.SZ
open Go Go.RowKit
set_option linter.unusedVariables false
set_option linter.unusedSectionVars false
set_option linter.unusedSimpArgs false
set_option maxRecDepth 10000
section
variable [DF] [KP] [HF]
variable {P : Program} {w0 : World} {r : List Nat} {B : List Nat} {ro bs : List Nat} {QQ : Exit → Act → World → Prop} [PInv QQ] {c : Cfg} {d : DC} {F : List RF} {a : Act} {w : World}
theorem app_at {w : World} {B0 : Nat} {e t ty : TypeId} {info : TypeInfo} {z : Value} (ht : P.underlying t = some (.slice e)) (hi : P.info? e = some info) (hz : info.zero = some z) (hzs : z.cells.size = info.size) (hsz : 0 < info.size)
    {v : Value} {n : Nat} {xs : List Value} (hown : w.ownsRow B0 e info.size v n xs) {ad : Addr} {m cp : Nat} {news : List Value} (hl : news.length = m * info.size) (hnews : ∀ j x, news[j]? = some x → w.cell? (ad.add j) = some x) (h1 : ∀ u ∈ news, u.oneCell' = true)
    (h63 : n + m ≤ maxLen) (hbytes : (n + m) * info.bytes ≤ 140737488355328) (hB1 : B0 ≤ w.heap.size) :
    ∃ v' w', (Builtin.append_ #[t, t] ty #[v, .slice (some ad) m cp]).run P w = .ok v' w' ∧ w'.ownsRow B0 e info.size v' (n + m) (xs ++ news) ∧ w.grownBy w' v.ownBlock ∧ ∀ g, v'.ownBlock = some g → v.ownBlock = some g ∨ w.heap.size ≤ g := by
  obtain ⟨v', w', hr, h2, h3, _⟩ := run_append_own (P := P) w B0 t ty e info z info.size info.bytes ht hi hz rfl rfl hzs hsz v n xs hown ad m cp news hl hnews h1 h63 hbytes hB1
  refine ⟨v', w', hr, h2, h3, fun g' hg' => ?_⟩
  rcases hown.2 with ⟨rfl, rfl⟩ | ⟨g, cap, cur, rfl, hbg, hg, hnc, hcm, hcs, htake⟩
  · have hx : xs = [] := List.eq_nil_of_length_eq_zero (by simpa using hown.1)
    subst hx
    obtain ⟨v2, w2, hr2, q2, _, _⟩ := run_append_own (P := P) w w.heap.size t ty e info z info.size info.bytes ht hi hz rfl rfl hzs hsz _ 0 [] (World.ownsRow_nil w w.heap.size e info.size) ad m cp news hl hnews h1 h63 hbytes (Nat.le_refl _)
    rw [hr] at hr2
    simp only [Result.ok.injEq] at hr2
    obtain ⟨rfl, rfl⟩ := hr2
    exact Or.inr (q2.lt g' hg').1
  · by_cases hroom : n + m ≤ cap
    · have hfit : n * info.size + news.length ≤ cur.size := by rw [hl, hcs, ← Nat.add_mul]; exact Nat.mul_le_mul_right _ hroom
      have hr2 := run_append_room (P := P) w t ty e info ht hi g n cap cur hg ad m cp news hl hnews h1 hroom hfit
      rw [hr] at hr2
      simp only [Result.ok.injEq] at hr2
      obtain ⟨rfl, _⟩ := hr2
      exact Or.inl (by simpa [Value.ownBlock] using hg')
    · have hr2 := run_append_grow (P := P) w t ty e info z ht hi hz ⟨g, 0, none⟩ n cap xs hown.1 (hown.cells (g := g) rfl) ad m cp news hl hnews (by omega) (by simp only [maxLen] at h63; omega) (growslice_fits (by omega) hbytes)
      rw [hr] at hr2
      simp only [Result.ok.injEq] at hr2
      obtain ⟨rfl, _⟩ := hr2
      simp [Value.ownBlock] at hg'
      exact Or.inr (by omega)
/-- Append to an own row, with room or without. -/
theorem nx_appO (i : Nat) (B0 : Nat) (F' : List RF) (D : Sd w0 r B c.s.K ro bs d.s F a w) (hs : Region.noSelect (opsD c) = true) {u y : SV} {t e : TypeId} {v : Value} {n : Nat} {ad : Addr} {m cp size bytes : Nat} {xs news : List Value} {info : TypeInfo} {z : Value}
    (hh : (((opsD c)[i]?).bind fun o => headApp ⟨[.ops (opsD c) [o]], d.s⟩) = some (u, y, t)) (ht : P.underlying t = some (.slice e)) (hi : P.info? e = some info) (hz : info.zero = some z)
    (hsize : info.size = size) (hby : info.bytes = bytes) (hzs : z.cells.size = size) (hsz : 0 < size) (hu : den bs u = v) (hy : den bs y = .slice (some ad) m cp)
    (hown : w.ownsRow B0 e size v n xs) (hB1 : B0 ≤ w.heap.size)
    (hnews : ∀ j x, news[j]? = some x → w.cell? (ad.add j) = some x) (hl : news.length = m * size) (h1 : ∀ u ∈ news, u.oneCell' = true) (h63 : n + m ≤ maxLen) (hbytes : (n + m) * bytes ≤ 140737488355328)
    (h0 : ∀ g, v.ownBlock = some g → g ∈ r ∨ w0.heap.size ≤ g) (hF : ∀ f ∈ F', f ∈ F ∧ ∀ g, v.ownBlock = some g → ¬f.bl g) (hff : ∀ f ∈ HF.fs, f ∈ F') (hn : ∀ i, i < bs.length → v.ownBlock ≠ some (bs.getD i 0))
    (h : ∀ v' a' w', w'.ownsRow B0 e size v' (n + m) (xs ++ news) → w.grownBy w' v.ownBlock → (∀ g, v'.ownBlock = some g → v.ownBlock = some g ∨ w.heap.size ≤ g) → (∀ j, j < bs.length → bs.getD j 0 < w.heap.size) → Sd w0 r B c.s.K ro bs (dV P c ro d i (.v v')).s F' a' w' → GD P c QQ B ro (dV P c ro d i (.v v')) a' w') : Nxt P (opsD c) (PQ P (kD c) QQ) (HoldS B c.s.K ro) d.pred d.lst a w i := by
  obtain ⟨o, ho, hh⟩ : ∃ o, (opsD c)[i]? = some o ∧ headApp ⟨[.ops (opsD c) [o]], d.s⟩ = some (u, y, t) := by
    cases ho : (opsD c)[i]? with
    | none => rw [ho] at hh; cases hh
    | some o => rw [ho] at hh; exact ⟨o, rfl, hh⟩
  obtain ⟨hw, x, yy, hop, hx1, hy1⟩ := app_op D.S hh
  unfold Nxt wpOp
  rw [ho]
  simp only
  rw [if_pos hw]
  refine Or.inl ?_
  subst hsize
  subst hby
  obtain ⟨v', w', hr, hv', hg, hnn⟩ := app_at (P := P) (ty := o.type) ht hi hz hzs hsz hown (cp := cp) hl hnews h1 h63 hbytes hB1
  have hex : (execOp a.eval o).run P w = .ok (.value v') w' := by
    unfold execOp
    simp only [hop, resolve, invoke, builtin, Sem.run_bind, Sem.run_pure, Result.andThen_ok, List.map_toArray, List.map_cons, List.map_nil, hx1, hy1, hu, hy, hr]
  unfold Oper.wp
  rw [hex, Oper.upon_value]
  have D1 : Sd w0 r B c.s.K ro bs d.s F' a w' := ⟨D.S.grownO hg h0 hF hn, D.pre, D.bl, hff, D.hro⟩
  have D2 := D1.put o.dst (x := .v v') trivial
  have e : ((opsD c)[i]?).bind (·.dst) = o.dst := by rw [ho]; rfl
  refine ⟨D2.hold, ?_⟩
  exact drq_sound (d := ⟨d.m - 1, d.lst.setIfInBounds i true, d.s.put (((opsD c)[i]?).bind (·.dst)) (.v v')⟩) hs (by rw [e]; exact D2) fun a'' D'' => h v' a'' w' hv' hg hnn (fun j hj => D.S.lt hj) D''
end
end Go.Proofs.YtfkmcibglaiakaaDoor.SZ
