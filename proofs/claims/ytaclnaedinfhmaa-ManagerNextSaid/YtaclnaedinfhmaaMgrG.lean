
/-
  Layer 17: the reference's Next, as the same tree.
-/
import Derived.Test.YtaclnaedinfhmaaRows
import Derived.Test.YtaclnaedinfhmaaBase
import Derived.Test.YtaclnaedinfhmaaAux
import Derived.Test.YtaclnaedinfhmaaWord2
import Derived.Test.YtaclnaedinfhmaaLayA
import Derived.Test.YtaclnaedinfhmaaStepC
import Derived.Test.YtaclnaedinfhmaaStepD
import Derived.Test.YtaclnaedinfhmaaTake
import Derived.Test.YtaclnaedinfhmaaStepF
import Derived.Test.YtaclnaedinfhmaaMgrA
import Derived.Test.YtaclnaedinfhmaaMgrB
import Derived.Test.YtaclnaedinfhmaaCurA
import Derived.Test.YtaclnaedinfhmaaCurB
import Derived.Test.YtaclnaedinfhmaaCurC
import Derived.Test.YtaclnaedinfhmaaCurD
import Derived.Test.YtaclnaedinfhmaaStepG
import Derived.Test.YtaclnaedinfhmaaMgrE
import Derived.Test.YtaclnaedinfhmaaMgrF
import Derived.WalkKit
import Derived.WalkLawsBesides
import Derived.Lib.Hide
namespace Go.Proofs.Ytaclnaedinfhmaa
set_option linter.unusedVariables false
set_option linter.unusedSimpArgs false
set_option maxRecDepth 100000
set_option maxHeartbeats 4000000
open Go.ChangeShapes Go.WideShapes Go.ChangeAt Go.RowKit


theorem cdo_i64 {c : CSt} (a : Ask) (h : ∀ x ∈ c.1, I64 x.1) : I64 (cdo c a).1.1 ∧ ∀ x ∈ (cdo c a).2.1, I64 x.1 := by
  match c, h with
  | (l, some q), h => exact ⟨i64_zero, h⟩
  | ([], none), h => exact ⟨i64_zero, h⟩
  | (r :: l, none), h => exact ⟨h r (by simp), fun x hx => h x (List.mem_cons_of_mem r (show x ∈ l from hx))⟩
theorem refRun_ask {a : Ask} {f : Int × Bool → Tree} {c c' : CSt} {r : Int × Bool} (e : cdo c a = (r, c')) : refRun (.ask a f) c = refRun (f r) c' := by
  show refRun (f (cdo c a).1) (cdo c a).2 = _
  rw [e]
theorem refRun_ret (o : OutD) (c : CSt) : refRun (.ret o) c = (o, c) := rfl
/-- What Ask leaves. -/
def AskPost (T : Tree) (g : Nat) (c : CSt) (w : World) (e : Ending) (w' : World) : Prop :=
  ∃ v b c', e = .returned (.tuple #[.int .i64 v, .bool b]) ∧ refRun T c = ({ val := v, lost := b }, c') ∧ CurAt w' g c' ∧ w.grownBy w' (some g)

theorem ask_fany (w : World) (g : Nat) (L : Ly) (hok : L.ok) (me other : Int) (m : Ct) (c0 : CSt) (h0 : CurAt w g c0) (hI : ∀ x ∈ c0.1, I64 x.1) :
    Calls Try.prog 63 #[.pointer (some ⟨g, 0, none⟩), L.v, .int .i64 me, .int .i64 other, .bool false, m.v] w fun e w' => ∃ v b c', e = .returned (.tuple #[.int .i64 v, .bool b]) ∧ refRun (asksT L other m) c0 = ({ val := v, lost := b }, c') ∧ CurAt w' g c' ∧ w.grownBy w' (some g) := by
  have hi := cdo_i64 ⟨1, atStatus L other, 0, 0⟩ hI
  obtain ⟨⟨⟨s, b1⟩, c1⟩, e1⟩ : ∃ X, cdo c0 ⟨1, atStatus L other, 0, 0⟩ = X := ⟨_, rfl⟩
  obtain ⟨⟨⟨x, b2⟩, c2⟩, e2⟩ : ∃ X, cdo c1 ⟨1, atStamp L other, 0, 0⟩ = X := ⟨_, rfl⟩
  obtain ⟨⟨⟨y, b3⟩, c3⟩, e3⟩ : ∃ X, cdo c2 ⟨1, atKarma L other, 0, 0⟩ = X := ⟨_, rfl⟩
  rw [e1] at hi
  have R1 := refRun_ask (f := fun s => if s.1 % 4 = 0 then Tree.ret { val := 0 } else .ask ⟨1, atStamp L other, 0, 0⟩ fun t => .ask ⟨1, atKarma L other, 0, 0⟩ fun k => if chooseD L.c.m m ⟨t.1, k.1, s.1 / 4⟩ = 1 then .ret { val := 1 } else doomT L other s.1) e1
  have hT : asksT L other m = .ask ⟨1, atStatus L other, 0, 0⟩ fun s => if s.1 % 4 = 0 then Tree.ret { val := 0 } else .ask ⟨1, atStamp L other, 0, 0⟩ fun t => .ask ⟨1, atKarma L other, 0, 0⟩ fun k => if chooseD L.c.m m ⟨t.1, k.1, s.1 / 4⟩ = 1 then .ret { val := 1 } else doomT L other s.1 := rfl
  rw [← hT] at R1
  simp only at R1 hi
  by_cases hs : s % 4 = 0
  · rw [if_pos hs, refRun_ret] at R1
    refine (ask_f_idle w g L hok me other m c0 h0 s b1 c1 e1 hs).mono ?_
    rintro e w' ⟨rfl, h, hg⟩
    exact ⟨0, false, c1, rfl, by rw [R1], h, hg⟩
  · rw [if_neg hs, refRun_ask e2, refRun_ask e3] at R1
    simp only at R1
    rcases chooseD_12 L.c.m m ⟨x, y, s / 4⟩ with hv | hv
    · rw [if_pos hv, refRun_ret] at R1
      refine (ask_f_abort w g L hok me other m c0 h0 s b1 c1 e1 hs hi.1 x b2 c2 e2 y b3 c3 e3 hv).mono ?_
      rintro e w' ⟨rfl, h, hg⟩
      exact ⟨1, false, c3, rfl, by rw [R1], h, hg⟩
    · rw [if_neg (by rw [hv]; decide)] at R1
      have h4 : s % 4 = 1 ∨ s % 4 = 2 ∨ s % 4 = 3 := by omega
      rcases h4 with hk | hk | hk
      · obtain ⟨⟨⟨z, b4⟩, c4⟩, e4⟩ : ∃ X, cdo c3 ⟨3, atStatus L other, s, wrap64 (4 * (s / 4) + 3)⟩ = X := ⟨_, rfl⟩
        unfold doomT at R1
        rw [if_pos hk, refRun_ask e4] at R1
        cases b4
        · rw [if_neg (by simp), refRun_ret] at R1
          refine (ask_f_casf w g L hok me other m c0 h0 s b1 c1 e1 hs hi.1 x b2 c2 e2 y b3 c3 e3 hv hk z c4 e4).mono ?_
          rintro e w' ⟨rfl, h, hg⟩
          exact ⟨0, false, c4, rfl, by rw [R1], h, hg⟩
        · rw [if_pos rfl, refRun_ret] at R1
          refine (ask_f_cast w g L hok me other m c0 h0 s b1 c1 e1 hs hi.1 x b2 c2 e2 y b3 c3 e3 hv hk z c4 e4).mono ?_
          rintro e w' ⟨rfl, h, hg⟩
          exact ⟨2, false, c4, rfl, by rw [R1], h, hg⟩
      · unfold doomT at R1
        rw [if_neg (by omega), if_neg (by omega), refRun_ret] at R1
        refine (ask_f_k2 w g L hok me other m c0 h0 s b1 c1 e1 hs hi.1 x b2 c2 e2 y b3 c3 e3 hv hk).mono ?_
        rintro e w' ⟨rfl, h, hg⟩
        exact ⟨3, false, c3, rfl, by rw [R1], h, hg⟩
      · unfold doomT at R1
        rw [if_neg (by omega), if_pos hk, refRun_ret] at R1
        refine (ask_f_k3 w g L hok me other m c0 h0 s b1 c1 e1 hs hi.1 x b2 c2 e2 y b3 c3 e3 hv hk).mono ?_
        rintro e w' ⟨rfl, h, hg⟩
        exact ⟨2, false, c3, rfl, by rw [R1], h, hg⟩

theorem ask_tany (w : World) (g : Nat) (L : Ly) (hok : L.ok) (me other : Int) (m : Ct) (c0 : CSt) (h0 : CurAt w g c0) (r0 : Int) (b0 : Bool) (ca : CSt) (eca : cdo c0 ⟨1, atStatus L me, 0, 0⟩ = ((r0, b0), ca)) (ho : ¬r0 % 4 = 3) (hI : ∀ x ∈ ca.1, I64 x.1) :
    Calls Try.prog 63 #[.pointer (some ⟨g, 0, none⟩), L.v, .int .i64 me, .int .i64 other, .bool true, m.v] w fun e w' => ∃ v b c', e = .returned (.tuple #[.int .i64 v, .bool b]) ∧ refRun (asksT L other m) ca = ({ val := v, lost := b }, c') ∧ CurAt w' g c' ∧ w.grownBy w' (some g) := by
  have hi := cdo_i64 ⟨1, atStatus L other, 0, 0⟩ hI
  obtain ⟨⟨⟨s, b1⟩, c1⟩, e1⟩ : ∃ X, cdo ca ⟨1, atStatus L other, 0, 0⟩ = X := ⟨_, rfl⟩
  obtain ⟨⟨⟨x, b2⟩, c2⟩, e2⟩ : ∃ X, cdo c1 ⟨1, atStamp L other, 0, 0⟩ = X := ⟨_, rfl⟩
  obtain ⟨⟨⟨y, b3⟩, c3⟩, e3⟩ : ∃ X, cdo c2 ⟨1, atKarma L other, 0, 0⟩ = X := ⟨_, rfl⟩
  rw [e1] at hi
  have R1 := refRun_ask (f := fun s => if s.1 % 4 = 0 then Tree.ret { val := 0 } else .ask ⟨1, atStamp L other, 0, 0⟩ fun t => .ask ⟨1, atKarma L other, 0, 0⟩ fun k => if chooseD L.c.m m ⟨t.1, k.1, s.1 / 4⟩ = 1 then .ret { val := 1 } else doomT L other s.1) e1
  have hT : asksT L other m = .ask ⟨1, atStatus L other, 0, 0⟩ fun s => if s.1 % 4 = 0 then Tree.ret { val := 0 } else .ask ⟨1, atStamp L other, 0, 0⟩ fun t => .ask ⟨1, atKarma L other, 0, 0⟩ fun k => if chooseD L.c.m m ⟨t.1, k.1, s.1 / 4⟩ = 1 then .ret { val := 1 } else doomT L other s.1 := rfl
  rw [← hT] at R1
  simp only at R1 hi
  by_cases hs : s % 4 = 0
  · rw [if_pos hs, refRun_ret] at R1
    refine (ask_t_idle w g L hok me other m c0 h0 r0 b0 ca eca ho s b1 c1 e1 hs).mono ?_
    rintro e w' ⟨rfl, h, hg⟩
    exact ⟨0, false, c1, rfl, by rw [R1], h, hg⟩
  · rw [if_neg hs, refRun_ask e2, refRun_ask e3] at R1
    simp only at R1
    rcases chooseD_12 L.c.m m ⟨x, y, s / 4⟩ with hv | hv
    · rw [if_pos hv, refRun_ret] at R1
      refine (ask_t_abort w g L hok me other m c0 h0 r0 b0 ca eca ho s b1 c1 e1 hs hi.1 x b2 c2 e2 y b3 c3 e3 hv).mono ?_
      rintro e w' ⟨rfl, h, hg⟩
      exact ⟨1, false, c3, rfl, by rw [R1], h, hg⟩
    · rw [if_neg (by rw [hv]; decide)] at R1
      have h4 : s % 4 = 1 ∨ s % 4 = 2 ∨ s % 4 = 3 := by omega
      rcases h4 with hk | hk | hk
      · obtain ⟨⟨⟨z, b4⟩, c4⟩, e4⟩ : ∃ X, cdo c3 ⟨3, atStatus L other, s, wrap64 (4 * (s / 4) + 3)⟩ = X := ⟨_, rfl⟩
        unfold doomT at R1
        rw [if_pos hk, refRun_ask e4] at R1
        cases b4
        · rw [if_neg (by simp), refRun_ret] at R1
          refine (ask_t_casf w g L hok me other m c0 h0 r0 b0 ca eca ho s b1 c1 e1 hs hi.1 x b2 c2 e2 y b3 c3 e3 hv hk z c4 e4).mono ?_
          rintro e w' ⟨rfl, h, hg⟩
          exact ⟨0, false, c4, rfl, by rw [R1], h, hg⟩
        · rw [if_pos rfl, refRun_ret] at R1
          refine (ask_t_cast w g L hok me other m c0 h0 r0 b0 ca eca ho s b1 c1 e1 hs hi.1 x b2 c2 e2 y b3 c3 e3 hv hk z c4 e4).mono ?_
          rintro e w' ⟨rfl, h, hg⟩
          exact ⟨2, false, c4, rfl, by rw [R1], h, hg⟩
      · unfold doomT at R1
        rw [if_neg (by omega), if_neg (by omega), refRun_ret] at R1
        refine (ask_t_k2 w g L hok me other m c0 h0 r0 b0 ca eca ho s b1 c1 e1 hs hi.1 x b2 c2 e2 y b3 c3 e3 hv hk).mono ?_
        rintro e w' ⟨rfl, h, hg⟩
        exact ⟨3, false, c3, rfl, by rw [R1], h, hg⟩
      · unfold doomT at R1
        rw [if_neg (by omega), if_pos hk, refRun_ret] at R1
        refine (ask_t_k3 w g L hok me other m c0 h0 r0 b0 ca eca ho s b1 c1 e1 hs hi.1 x b2 c2 e2 y b3 c3 e3 hv hk).mono ?_
        rintro e w' ⟨rfl, h, hg⟩
        exact ⟨2, false, c3, rfl, by rw [R1], h, hg⟩

theorem ask_any (w : World) (g : Nat) (L : Ly) (hok : L.ok) (me other : Int) (own : Bool) (m : Ct) (c0 : CSt) (h0 : CurAt w g c0) (hI : ∀ x ∈ c0.1, I64 x.1) :
    Calls Try.prog 63 #[.pointer (some ⟨g, 0, none⟩), L.v, .int .i64 me, .int .i64 other, .bool own, m.v] w (AskPost (resolveT L me other own m) g c0 w) := by
  cases own with
  | false => exact ask_fany w g L hok me other m c0 h0 hI
  | true =>
    have hi := cdo_i64 ⟨1, atStatus L me, 0, 0⟩ hI
    obtain ⟨⟨⟨r0, b0⟩, ca⟩, eca⟩ : ∃ X, cdo c0 ⟨1, atStatus L me, 0, 0⟩ = X := ⟨_, rfl⟩
    rw [eca] at hi
    have R := refRun_ask (f := fun r => if r.1 % 4 = 3 then Tree.ret { val := 1, lost := true } else asksT L other m) eca
    have hT : resolveT L me other true m = .ask ⟨1, atStatus L me, 0, 0⟩ fun r => if r.1 % 4 = 3 then Tree.ret { val := 1, lost := true } else asksT L other m := rfl
    rw [← hT] at R
    simp only at R
    by_cases ho : r0 % 4 = 3
    · rw [if_pos ho, refRun_ret] at R
      refine (ask_own3 w g L hok me other m c0 h0 r0 b0 ca eca ho).mono ?_
      rintro e w' ⟨rfl, h, hg⟩
      exact ⟨1, true, ca, rfl, R, h, hg⟩
    · rw [if_neg ho] at R
      refine (ask_tany w g L hok me other m c0 h0 r0 b0 ca eca ho hi.2).mono ?_
      rintro e w' ⟨v, b, c', rfl, hr, h, hg⟩
      exact ⟨v, b, c', rfl, R.trans hr, h, hg⟩
end Go.Proofs.Ytaclnaedinfhmaa
