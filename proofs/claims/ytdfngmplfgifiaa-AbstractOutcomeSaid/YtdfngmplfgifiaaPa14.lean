/-
  Merged: Vt0
-/
import Derived.Test.YtdfngmplfgifiaaPa8
import Derived.Test.YtdfngmplfgifiaaPa13

/-
  Layer 18 as a table of known results: Next of an operation on a mask, where its log is known.
-/
namespace Go.Proofs.Ytdfngmplfgifiaa
open Go Go.RowKit EX
set_option maxRecDepth 100000
set_option linter.unusedVariables false
set_option linter.unusedSimpArgs false
set_option linter.unusedSectionVars false
instance okDec (L : Ly) : Decidable L.ok := by unfold Ly.ok; infer_instance
/-- A layout out of its cells. -/
def lyOf2 : List Value → Option Ly
  | [.int .i64 t, .int .i64 l, .int .i64 k, .int .i64 s, .int .i64 m, .int .i64 c, .int .i64 st, .int .i64 lg, .int .i64 fi, .int .i64 th, .int .i64 lk, .int .i64 lo, .int .i64 sz] => some ⟨⟨t, l, k, s, m⟩, c, st, lg, fi, th, lk, lo, sz⟩
  | _ => none
theorem lyOf2_v {l : List Value} {L : Ly} (h : lyOf2 l = some L) : .agg l.toArray = L.v := by
  unfold lyOf2 at h
  split at h
  · simp only [Option.some.injEq] at h
    subst h
    rfl
  · cases h
/-- The kind and the location of an operation. -/
def opOf : List Value → Option (Int × Int)
  | [.int .i64 k, .int .i64 a, .int .i64 _, .int .i64 _, .int .i64 _, .int .i64 _, .int .i64 _, .slice _ _ _, .slice _ _ _, .slice _ _ _] => some (k, a)
  | _ => none
theorem opOf_v {l : List Value} {k a : Int} (h : opOf l = some (k, a)) : ∃ b ty ms mk ma sa wa da sl sc wl wc dl dc, .agg l.toArray = kd k a b ty ms mk ma sa wa da sl sc wl wc dl dc := by
  unfold opOf at h
  split at h
  · simp only [Option.some.injEq, Prod.mk.injEq] at h
    obtain ⟨rfl, rfl⟩ := h
    exact ⟨_, _, _, _, _, _, _, _, _, _, _, _, _, _, rfl⟩
  · cases h
/-- What Next returns. -/
def visX (L : Ly) (me k a : Int) (l : List (Int × Bool)) : Ask ⊕ OutD :=
  match decide (k < 3), decide (k % 2 = 1) with
  | true, true => match decide (atReaders L a < 0), decide (atStatus L me < 0) with
    | false, false => runV (fun m => withT m me) (atReaders L a) l
    | _, _ => .inr { err := 1 }
  | true, false => match decide (atReaders L a < 0), decide (atStatus L me < 0) with
    | false, false => runV (fun m => sansT m me) (atReaders L a) l
    | _, _ => .inr { err := 1 }
  | false, true => match decide (atWaiters L a < 0), decide (atStatus L me < 0) with
    | false, false => runV (fun m => withT m me) (atWaiters L a) l
    | _, _ => .inr { err := 1 }
  | false, false => match decide (atWaiters L a < 0), decide (atStatus L me < 0) with
    | false, false => runV (fun m => sansT m me) (atWaiters L a) l
    | _, _ => .inr { err := 1 }
theorem visX_any (w : World) (L : Ly) (hok : L.ok) (me k a b ty ms mk ma : Int) (sa wa da : Option Addr) (sl sc wl wc dl dc : Nat) (v : Value) (l : List (Int × Bool)) (hv : LogOf w v l) (hI : ∀ x ∈ l, I64 x.1) (hk : 1 ≤ k ∧ k ≤ 4) :
    Calls Try.prog 13 #[L.v, .int .i64 me, kd k a b ty ms mk ma sa wa da sl sc wl wc dl dc, v] w fun e w' => e = .returned (nextV (visX L me k a l)) ∧ Below w.heap.size w w' := by
  have hk4 : k = 1 ∨ k = 2 ∨ k = 3 ∨ k = 4 := by omega
  rcases hk4 with rfl | rfl | rfl | rfl
  · simp only [visX, show decide ((1 : Int) < 3) = true from rfl, show decide ((1 : Int) % 2 = 1) = true from rfl]
    cases hc : decide (atReaders L a < 0) with
    | true => exact nxta_1 w L hok me a b ty ms mk ma sa wa da sl sc wl wc dl dc v l hv hc
    | false =>
      cases hs : decide (atStatus L me < 0) with
      | true => exact nxtb_1 w L hok me a b ty ms mk ma sa wa da sl sc wl wc dl dc v l hv hc hs
      | false => exact nxtc_1 w L hok me a b ty ms mk ma sa wa da sl sc wl wc dl dc v l hv hI hc hs _ rfl
  · simp only [visX, show decide ((2 : Int) < 3) = true from rfl, show decide ((2 : Int) % 2 = 1) = false from rfl]
    cases hc : decide (atReaders L a < 0) with
    | true => exact nxta_2 w L hok me a b ty ms mk ma sa wa da sl sc wl wc dl dc v l hv hc
    | false =>
      cases hs : decide (atStatus L me < 0) with
      | true => exact nxtb_2 w L hok me a b ty ms mk ma sa wa da sl sc wl wc dl dc v l hv hc hs
      | false => exact nxtc_2 w L hok me a b ty ms mk ma sa wa da sl sc wl wc dl dc v l hv hI hc hs _ rfl
  · simp only [visX, show decide ((3 : Int) < 3) = false from rfl, show decide ((3 : Int) % 2 = 1) = true from rfl]
    cases hc : decide (atWaiters L a < 0) with
    | true => exact nxta_3 w L hok me a b ty ms mk ma sa wa da sl sc wl wc dl dc v l hv hc
    | false =>
      cases hs : decide (atStatus L me < 0) with
      | true => exact nxtb_3 w L hok me a b ty ms mk ma sa wa da sl sc wl wc dl dc v l hv hc hs
      | false => exact nxtc_3 w L hok me a b ty ms mk ma sa wa da sl sc wl wc dl dc v l hv hI hc hs _ rfl
  · simp only [visX, show decide ((4 : Int) < 3) = false from rfl, show decide ((4 : Int) % 2 = 1) = false from rfl]
    cases hc : decide (atWaiters L a < 0) with
    | true => exact nxta_4 w L hok me a b ty ms mk ma sa wa da sl sc wl wc dl dc v l hv hc
    | false =>
      cases hs : decide (atStatus L me < 0) with
      | true => exact nxtb_4 w L hok me a b ty ms mk ma sa wa da sl sc wl wc dl dc v l hv hc hs
      | false => exact nxtc_4 w L hok me a b ty ms mk ma sa wa da sl sc wl wc dl dc v l hv hI hc hs _ rfl
/-- Results that are known. -/
def logL : List SV → Option (List (Int × Bool))
  | [] => some []
  | .v (.int .i64 a) :: .v (.bool b) :: l => match decide (-9223372036854775808 ≤ a), decide (a ≤ 9223372036854775807), logL l with
    | true, true, some r => some ((a, b) :: r)
    | _, _, _ => none
  | _ => none
theorem logL_ok : ∀ {cs : List SV} {l : List (Int × Bool)}, logL cs = some l → cs.length = 2 * l.length ∧ (∀ x ∈ l, I64 x.1) ∧ ∀ j, j < l.length → cs[j * 2]? = some (.v (.int .i64 (l.getD j (0, false)).1)) ∧ cs[j * 2 + 1]? = some (.v (.bool (l.getD j (0, false)).2))
  | cs, l, h => by
    unfold logL at h
    split at h
    · simp only [Option.some.injEq] at h
      subst h
      exact ⟨rfl, by simp, by simp⟩
    · rename_i a b cs'
      split at h
      · rename_i r h1 h2 hr
        simp only [Option.some.injEq] at h
        subst h
        obtain ⟨g1, g2, g3⟩ := logL_ok hr
        refine ⟨by simp [g1]; omega, ?_, ?_⟩
        · intro x hx
          rcases List.mem_cons.1 hx with rfl | hx
          · exact ⟨of_decide_eq_true h1, of_decide_eq_true h2⟩
          · exact g2 x hx
        · intro j hj
          cases j with
          | zero => simp
          | succ j =>
            have := g3 j (by simpa using hj)
            rw [show (j + 1) * 2 = j * 2 + 1 + 1 by omega]
            simpa using this
      · cases h
    · cases h
/-- The log that a slice of own results holds. -/
def logS (m : Mm) : SV → Option (List (Int × Bool))
  | .v (.slice none 0 0) => some []
  | .s i o n c => match m.K.get i with
    | some b => match logL ((b.cs.drop o).take (n * 2)), Nat.ble n c && Nat.ble c 1000000 with
      | some l, true => match Nat.beq l.length n with
        | true => some l
        | false => none
      | _, _ => none
    | none => none
  | .r i o n x => match m.K.get i with
    | some b => match logL ((b.cs.drop o).take (n * 2)), Nat.ble n x && Nat.beq b.sz 2 && Nat.ble (x * 2) b.cs.length with
      | some l, true => match Nat.beq l.length n with
        | true => some l
        | false => none
      | _, _ => none
    | none => none
  | .z i o q => match m.K.get i with
    | some b => match Nat.beq b.sz 2 with
      | true => some []
      | false => none
    | none => none
  | _ => none
section
variable [FC] {P : Program} {w0 : World} {F : List RF} {B : Pl} {S : Nat → Prop} {m : Mm} {w : World}
theorem logS_cells {i o n : Nat} {b : Bx} {l : List (Int × Bool)} (R : Re w0 F B m.K.get S w) (hb : m.K.get i = some b) (hl : logL ((b.cs.drop o).take (n * 2)) = some l) :
    (∀ x ∈ l, I64 x.1) ∧ ∀ j, j < l.length → w.cell? ⟨(B i).1, o + j * 2, none⟩ = some (.int .i64 (l.getD j (0, false)).1) ∧ w.cell? ⟨(B i).1, o + j * 2 + 1, none⟩ = some (.bool (l.getD j (0, false)).2) := by
  obtain ⟨g1, g2, g3⟩ := logL_ok hl
  have at' : ∀ j x, ((b.cs.drop o).take (n * 2))[j]? = some x → w.cell? ⟨(B i).1, o + j, none⟩ = some (den B x) := by
    intro j x hx
    refine R.cell hb ?_
    rw [List.getElem?_take] at hx
    split at hx
    · rw [List.getElem?_drop] at hx; exact hx
    · cases hx
  refine ⟨g2, fun j hj => ?_⟩
  obtain ⟨h1, h2⟩ := g3 j hj
  exact ⟨by simpa [den] using at' _ _ h1, by simpa [den, Nat.add_assoc] using at' _ _ h2⟩
theorem logS_ok {x : SV} {l : List (Int × Bool)} (R : Re w0 F B m.K.get S w) (h : logS m x = some l) : LogOf w (den B x) l ∧ ∀ y ∈ l, I64 y.1 := by
  unfold logS at h
  split at h
  · simp only [Option.some.injEq] at h
    subst h
    exact ⟨⟨none, 0, by simp [den], by simp, by omega, Or.inl rfl⟩, by simp⟩
  · rename_i i o n c
    cases hb : m.K.get i with
    | none => rw [hb] at h; cases h
    | some b =>
      rw [hb] at h
      simp only at h
      split at h
      · rename_i l' hl hc
        split at h
        · rename_i hn
          simp only [Option.some.injEq] at h
          subst h
          have := Nat.eq_of_beq_eq_true hn
          subst this
          obtain ⟨g1, g2⟩ := logS_cells R hb hl
          simp only [Bool.and_eq_true] at hc
          have c1 := hc.1
          have c2 := hc.2
          simp only [Nat.ble_eq] at c1 c2
          exact ⟨⟨_, c, by simp only [den], c1, by omega, Or.inr ⟨_, _, rfl, g2⟩⟩, g1⟩
        · cases h
      · cases h
  · rename_i i o n x
    cases hb : m.K.get i with
    | none => rw [hb] at h; cases h
    | some b =>
      rw [hb] at h
      simp only at h
      split at h
      · rename_i l' hl hc
        split at h
        · rename_i hn
          simp only [Option.some.injEq] at h
          subst h
          have := Nat.eq_of_beq_eq_true hn
          subst this
          obtain ⟨g1, g2⟩ := logS_cells R hb hl
          simp only [Bool.and_eq_true] at hc
          have c1 := hc.1.1
          have c2 := Nat.eq_of_beq_eq_true hc.1.2
          have c3 := hc.2
          simp only [Nat.ble_eq] at c1 c3
          obtain ⟨_, _, rest, hr, _⟩ := R.bx i b hb
          have hr2 := hr.2
          rw [c2] at hr2
          refine ⟨⟨_, (B i).2 + x, by simp only [den], by omega, ?_, Or.inr ⟨_, _, rfl, g2⟩⟩, g1⟩
          rcases hr2 with h0 | h0
          · cases h0
          · unfold maxLen at h0; omega
        · cases h
      · cases h
  · rename_i i o q
    cases hb : m.K.get i with
    | none => rw [hb] at h; cases h
    | some b =>
      rw [hb] at h
      simp only at h
      split at h
      · rename_i hs
        simp only [Option.some.injEq] at h
        subst h
        have c2 := Nat.eq_of_beq_eq_true hs
        obtain ⟨_, _, rest, hr, _⟩ := R.bx i b hb
        have hr2 := hr.2
        rw [c2] at hr2
        refine ⟨⟨_, (B i).2, by simp only [den]; rfl, by simp, ?_, Or.inl rfl⟩, by simp⟩
        rcases hr2 with h0 | h0
        · cases h0
        · unfold maxLen at h0; omega
      · cases h
  · cases h
def aggL : Option Value → Option (List Value)
  | some (.agg a) => some a.toList
  | _ => none
/-- Next of a mask, from a log that is known. -/
def kgVis : KnG := fun f args st => match Nat.beq f 13, args with
  | true, [xl, .v (.int .i64 me), xo, lg] => match (aggL (pvE xl)).bind lyOf2, (aggL (pvE xo)).bind opOf, logS st.m lg with
    | some L, some (k, a), some l => match decide L.ok, decide (1 ≤ k ∧ k ≤ 4) with
      | true, true => some ⟨.ret (.v (nextV (visX L me k a l))), st⟩
      | _, _ => none
    | _, _, _ => none
  | _, _ => none
theorem aggL_den (B : Pl) {x : SV} {l : List Value} (h : aggL (pvE x) = some l) : den B x = .agg l.toArray := by
  cases hx : pvE x with
  | none => rw [hx] at h; cases h
  | some v =>
    rw [hx] at h
    unfold aggL at h
    split at h
    · rename_i a e
      simp only [Option.some.injEq] at h e
      subst h
      subst e
      rw [pvE_den B hx]
    · cases h
theorem kgVis_ok : KnGOk Try.prog kgVis := by
  intro f args st o h
  unfold kgVis at h
  split at h
  · rename_i xl me xo lg hf
    have := Nat.eq_of_beq_eq_true hf
    subst this
    split at h
    · rename_i L k a l hL ho hl
      split at h
      · rename_i hok hk
        simp only [Option.some.injEq] at h
        subst h
        refine ⟨Sfx.refl _, trivial, fun tr w0 F B S w hS R hargs => ?_⟩
        cases h1 : aggL (pvE xl) with
        | none => rw [h1] at hL; cases hL
        | some al =>
          rw [h1] at hL
          cases h2 : aggL (pvE xo) with
          | none => rw [h2] at ho; cases ho
          | some ao =>
            rw [h2] at ho
            obtain ⟨b, ty, ms, mk, ma, sa, wa, da, sl, sc, wl, wc, dl, dc, e⟩ := opOf_v (show opOf ao = some (k, a) from ho)
            obtain ⟨hv, hI⟩ := logS_ok R hl
            have ea : (denL B [xl, .v (.int .i64 me), xo, lg]).toArray = #[L.v, .int .i64 me, kd k a b ty ms mk ma sa wa da sl sc wl wc dl dc, den B lg] := by
              simp only [denL, aggL_den B h1, aggL_den B h2, lyOf2_v (show lyOf2 al = some L from hL), e, den]
            rw [ea]
            refine (visX_any w L (of_decide_eq_true hok) me k a b ty ms mk ma sa wa da sl sc wl wc dl dc _ l hv hI (of_decide_eq_true hk)).mono ?_
            rintro e w' ⟨rfl, hb⟩
            exact ⟨B, Ag.refl _ _ _, Nat.le_refl _, by rw [ext_self]; exact R.below hb, by simp [den], by simp [bd]⟩
      · cases h
    · cases h
  · cases h
end
end Go.Proofs.Ytdfngmplfgifiaa
