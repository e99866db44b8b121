
/-
  Layer 3: an append to a slice that is cut to its length in length and capacity.
-/
import Derived.Test.YtoieifhagekgfaaRows
import Derived.Test.YtoieifhagekgfaaBase
import Derived.Test.YtoieifhagekgfaaWireA
import Derived.Test.YtoieifhagekgfaaWireB
import Derived.Test.YtoieifhagekgfaaWireF
import Derived.ArgAppend
namespace Go.Proofs.Ytoieifhagekgfaa
open Go.ChangeShapes Go.WideShapes Go.ChangeAt Go.RowKit

theorem wpList_append_cut (w : World) {ops : Array Oper} {rest : List Oper} {o : Oper} {a : Act} {Q : Exit → Act → World → Prop}
    (hg : o.guard = none) (s x : Operand) (hop : o.op = Op.call { callee := Callee.builtin Builtin.append, args := #[s, x], argTypes := #[24, 24] })
    (i0 : TypeInfo) (hi : Try.prog.info? 5 = some i0) (hz0 : i0.zero = some (.int .u8 0)) (hz1 : i0.size = 1) (hz2 : i0.bytes = 1)
    (g n : Nat) (olds : List Nat) (hs : a.eval s = .slice (some ⟨g, 0, none⟩) n n) (hn : olds.length = n) (hpos : 0 < n) (holds : ∀ j u, (olds.map bV)[j]? = some u → w.cell? ((⟨g, 0, none⟩ : Addr).add j) = some u)
    (ad : Addr) (m c : Nat) (news : List Nat) (hx : a.eval x = .slice (some ad) m c) (hm : news.length = m) (hc : ∀ j u, (news.map bV)[j]? = some u → w.cell? (ad.add j) = some u)
    (b1 : n + m ≤ 1000000)
    (hK : ∀ v' w', HasB w' v' (olds ++ news) → Below w.heap.size w w' → wpList Try.prog ops Q rest (a.put o.dst v') w') :
    wpList Try.prog ops Q (o :: rest) a w := by
  have hadd : ∀ j, (⟨g, 0, none⟩ : Addr).add j = ⟨g, 0 + j, none⟩ := fun j => by
    unfold Addr.add; split
    · rename_i h; subst h; rfl
    · rfl
  refine wpList_append_arg w hg s x _ hop 5 i0 (.int .u8 0) 1 1 Try.underlying24 hi hz0 hz1 hz2 rfl (by decide) g 0 n n (olds.map bV) hs (by rw [List.length_map]; omega) (fun j u hu => by rw [← hadd]; exact holds j u hu)
    ad m c (news.map bV) hx (by rw [List.length_map]; omega) hc (bV_one _) (fun hle j hj => by rw [List.length_map] at hj; omega) (by unfold maxLen; omega) (by omega) (fun hle => ?_) (fun hlt v' w' ho hgr => ?_)
  · have hm0 : m = 0 := by omega
    have hnl : news = [] := List.length_eq_zero_iff.1 (by omega)
    subst hm0; subst hnl
    refine hK _ _ ?_ ?_
    · show HasB (w.setCells g (0 + n * 1) []) (.slice (some ⟨g, 0, none⟩) (n + 0) n) (olds ++ [])
      rw [List.append_nil]
      refine ⟨some ⟨g, 0, none⟩, n, by rw [hn]; rfl, ⟨by omega, by omega, by omega, fun h => by cases h⟩, Or.inr ⟨g, 0, rfl, fun j hj => ?_⟩⟩
      have h := holds j (bV olds[j]) (by simp [List.getElem?_eq_getElem hj])
      rw [hadd] at h
      show w.cell? _ = _
      rw [h]
      simp [bV, List.getD, List.getElem?_eq_getElem hj]
    · exact Below.refl _ _
  · refine hK v' w' (hasB_of_owns (B := w.heap.size) ?_) ((Below.refl _ _).grown hgr (Nat.le_refl _) (fun j hj => by cases hj))
    exact own_join (by omega) ho
end Go.Proofs.Ytoieifhagekgfaa
