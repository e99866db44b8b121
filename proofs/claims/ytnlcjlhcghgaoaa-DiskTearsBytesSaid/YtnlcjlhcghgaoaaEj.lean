
/-
  Runs by computation: a region that draws its order, where whatever touches one thing is ordered.
-/
import Derived.Test.YtnlcjlhcghgaoaaEi
import Derived.Orders
namespace Go.Proofs.Ytnlcjlhcghgaoaa.EX
open Go Go.RowKit
set_option linter.unusedVariables false
set_option linter.unusedSimpArgs false
set_option linter.unusedSectionVars false
set_option maxRecDepth 10000
variable [FC]

/-- The last version among the operations X that come before m. -/
noncomputable def ver {α : Type} (tch : Nat → Nat → Prop) (V : Nat → Nat → Option α) (X : Nat → Prop) : Nat → Nat → Option α
  | 0, j => V 0 j
  | m + 1, j => open Classical in if X m ∧ tch m j then V (m + 1) j else ver tch V X m j
section
variable {α : Type} {tch : Nat → Nat → Prop} {V : Nat → Nat → Option α} {pr : Nat → Nat → Prop} {X : Nat → Prop} {N : Nat}
theorem ver_pre (hV : ∀ m j, m < N → ¬tch m j → V (m + 1) j = V m j) {j : Nat} : ∀ m, m ≤ N → (∀ q, q < m → tch q j → X q) → ver tch V X m j = V m j
  | 0, _, _ => rfl
  | m + 1, hm, h => by
    rw [ver]
    by_cases ht : tch m j
    · rw [if_pos ⟨h m (by omega) ht, ht⟩]
    · rw [if_neg (fun e => ht e.2), ver_pre hV m (by omega) (fun q hq => h q (by omega)), hV m j (by omega) ht]
theorem ver_post {j i : Nat} : ∀ m, i ≤ m → (∀ q, i ≤ q → q < m → X q → ¬tch q j) → ver tch V X m j = ver tch V X i j
  | 0, hm, h => by have : i = 0 := by omega
                   subst this; rfl
  | m + 1, hm, h => by
    by_cases e : i = m + 1
    · subst e; rfl
    · rw [ver, if_neg (fun e' => h m (by omega) (by omega) e'.1 e'.2), ver_post m (by omega) (fun q hq hq' => h q hq (by omega))]
/-- What an operation sees that may come next is what it sees in the order of the text. -/
theorem ver_see (hV : ∀ m j, m < N → ¬tch m j → V (m + 1) j = V m j) (hpr : ∀ k i, pr k i → k < i) (hX : ∀ i, i < N → X i → ∀ k, pr k i → X k) {i j : Nat} (hi : i < N) (hni : ¬X i) (hp : ∀ k, pr k i → X k)
    (ho : ∀ m, m < N → tch m j → m = i ∨ pr m i ∨ pr i m) : ver tch V X N j = V i j := by
  rw [ver_post (i := i) N (by omega) ?_, ver_pre hV i (by omega) ?_]
  · intro q hq ht
    rcases ho q (by omega) ht with h | h | h
    · omega
    · exact hp q h
    · have := hpr _ _ h; omega
  · intro q hq hq' hXq ht
    rcases ho q hq' ht with h | h | h
    · subst h; exact hni hXq
    · have := hpr _ _ h; omega
    · exact hni (hX q hq' hXq i h)
/-- One operation more. -/
theorem ver_add (hpr : ∀ k i, pr k i → k < i) (hX : ∀ i, i < N → X i → ∀ k, pr k i → X k) {i j : Nat} (hi : i < N) (hni : ¬X i) (hT : ∀ i m j, i < m → m < N → tch i j → tch m j → pr i m) :
    ver tch V (fun k => X k ∨ k = i) N j = open Classical in if tch i j then V (i + 1) j else ver tch V X N j := by
  have lo : ∀ m, m ≤ i → ver tch V (fun k => X k ∨ k = i) m j = ver tch V X m j := by
    intro m
    induction m with
    | zero => intro _; rfl
    | succ m ih =>
      intro hm
      have hne : m ≠ i := by omega
      rw [ver, ver, ih (by omega)]
      have e1 : (X m ∨ m = i) ∧ tch m j ↔ X m ∧ tch m j := by simp [hne]
      by_cases h : X m ∧ tch m j
      · rw [if_pos (e1.2 h), if_pos h]
      · rw [if_neg (fun q => h (e1.1 q)), if_neg h]
  have hi1 : ∀ m, i < m → m ≤ N → ver tch V (fun k => X k ∨ k = i) m j = open Classical in if tch i j then V (i + 1) j else ver tch V X m j := by
    intro m
    induction m with
    | zero => intro h; omega
    | succ m ih =>
      intro hm hmN
      by_cases e : m = i
      · subst e
        rw [ver, ver, lo m (Nat.le_refl _)]
        by_cases ht : tch m j
        · simp [ht]
        · simp [ht]
      · have hlt : i < m := by omega
        rw [ver, ver, ih hlt (by omega)]
        have e1 : (X m ∨ m = i) ∧ tch m j ↔ X m ∧ tch m j := by simp [e]
        by_cases h : X m ∧ tch m j
        · rw [if_pos (e1.2 h), if_pos h]
          by_cases ht : tch i j
          · exact absurd (hX m (by omega) h.1 i (hT i m j hlt (by omega) ht h.2)) hni
          · rw [if_neg ht]
        · rw [if_neg (fun q => h (e1.1 q)), if_neg h]
  exact hi1 N (by omega) (Nat.le_refl _)
end

/-- A region's operations, each with what it does, whatever comes between. -/
structure Cert (P : Program) (ops : Array Oper) (w0 : World) (F : List RF) (S0 : Nat → Prop) (n : Nat) (Q : Exit → Act → World → Prop) where
  nx : Nat → Nat
  V : Nat → Nat → Option Bx
  T : Nat → Nat → Option SV
  x : Nat → SV
  pr : Nat → Nat → Prop
  tch : Nat → Nat → Prop
  Ki : Nat → Nat → Option Bx
  Ti : Nat → Nat → Option SV
  nx_le : ∀ i, i < ops.size → nx i ≤ nx (i + 1)
  s0 : ∀ j, S0 j → j < nx 0
  pr_lt : ∀ k i, pr k i → k < i
  pr_tr : ∀ k m i, pr k m → pr m i → pr k i
  edge : ∀ (i : Nat) (o : Oper), ops[i]? = some o → ∀ k, pr k i → ∃ e ∈ o.after, Region.binds .any e = true ∧ (k = e.on ∨ pr k e.on)
  edge_lt : ∀ (i : Nat) (o : Oper), ops[i]? = some o → ∀ e ∈ o.after, Region.binds .any e = true → e.on < i
  hV : ∀ m j, m < ops.size → ¬tch m j → V (m + 1) j = V m j
  hT : ∀ i m j, i < m → m < ops.size → tch i j → tch m j → pr i m
  made : ∀ i j, i < ops.size → nx i ≤ j → j < nx (i + 1) → tch i j
  dst_lt : ∀ (i : Nat) (o : Oper) (d : Nat), ops[i]? = some o → o.dst = some d → d < n
  hTt : ∀ (m : Nat) (o : Oper) (t : Nat), ops[m]? = some o → T (m + 1) t = if o.dst = some t then some (x m) else T m t
  dst_one : ∀ (i m : Nat) (o p : Oper) (d : Nat), ops[i]? = some o → ops[m]? = some p → o.dst = some d → p.dst = some d → i = m
  ki : ∀ i j b, i < ops.size → Ki i j = some b → V i j = some b ∧ (S0 j ∨ ∃ k, pr k i ∧ nx k ≤ j ∧ j < nx (k + 1)) ∧ ∀ m, m < ops.size → tch m j → m = i ∨ pr m i ∨ pr i m
  ti : ∀ i t v, i < ops.size → Ti i t = some v → T i t = some v ∧ ∀ (m : Nat) (o : Oper), ops[m]? = some o → o.dst = some t → m = i ∨ pr m i ∨ pr i m
  G : Pl → Act → Prop
  dd : Nat → Prop
  eff : ∀ (i : Nat) (o : Oper) (B : Pl) (a : Act) (w : World) (F' : List RF) (K : Act → World → Prop), ops[i]? = some o → ¬dd i → (∀ k, pr k i → ¬dd k) → (∀ f ∈ F, f ∈ F') → Re w0 F' B (Ki i) (fun j => S0 j ∨ ∃ k, pr k i ∧ nx k ≤ j ∧ j < nx (k + 1)) w →
    (∀ t v, Ti i t = some v → a.tmps[t]? = some (den B v) ∧ bd (fun j => S0 j ∨ ∃ k, pr k i ∧ nx k ≤ j ∧ j < nx (k + 1)) v) →
    (∀ B' w', Ag (nx i) (nx (i + 1)) B B' → Re w0 F' B' (fun j => open Classical in if tch i j then V (i + 1) j else Ki i j) (ext (fun j => S0 j ∨ ∃ k, pr k i ∧ nx k ≤ j ∧ j < nx (k + 1)) (nx i) (nx (i + 1))) w' →
      bd (ext (fun j => S0 j ∨ ∃ k, pr k i ∧ nx k ≤ j ∧ j < nx (k + 1)) (nx i) (nx (i + 1))) (x i) → K (a.put o.dst (den B' (x i))) w') → wpOp P ops Q i K a w
  effd : ∀ (i : Nat) (o : Oper) (B : Pl) (a : Act) (w : World) (F' : List RF) (K : Act → World → Prop), ops[i]? = some o → dd i → (∀ k, pr k i → ¬dd k) → (∀ f ∈ F, f ∈ F') → Re w0 F' B (Ki i) (fun j => S0 j ∨ ∃ k, pr k i ∧ nx k ≤ j ∧ j < nx (k + 1)) w →
    (∀ t v, Ti i t = some v → a.tmps[t]? = some (den B v) ∧ bd (fun j => S0 j ∨ ∃ k, pr k i ∧ nx k ≤ j ∧ j < nx (k + 1)) v) → G B a → wpOp P ops Q i K a w
namespace Cert
variable {P : Program} {ops : Array Oper} {w0 : World} {F : List RF} {S0 : Nat → Prop} {n : Nat} {Q : Exit → Act → World → Prop} (C : Cert P ops w0 F S0 n Q)
/-- The names that an operation sees. -/
def Sv (i : Nat) : Nat → Prop := fun j => S0 j ∨ ∃ k, C.pr k i ∧ C.nx k ≤ j ∧ j < C.nx (k + 1)
def Sx (X : Nat → Prop) : Nat → Prop := fun j => S0 j ∨ ∃ k, k < ops.size ∧ X k ∧ C.nx k ≤ j ∧ j < C.nx (k + 1)
def dt {ops : Array Oper} (m t : Nat) : Prop := ∃ o, ops[m]? = some o ∧ o.dst = some t
noncomputable def KX (X : Nat → Prop) : Nat → Option Bx := ver C.tch C.V X ops.size
noncomputable def TX (X : Nat → Prop) : Nat → Option SV := ver (dt (ops := ops)) C.T X ops.size
structure Inv (B0 : Pl) (X : Nat → Prop) (D : List Deferred) (B : Pl) (a : Act) (w : World) : Prop where
  ag : Ag (C.nx 0) (C.nx ops.size) B0 B
  cl : ∀ i, i < ops.size → X i → ∀ k, C.pr k i → X k
  xb : ∀ k, k < ops.size → X k → bd (ext (C.Sv k) (C.nx k) (C.nx (k + 1))) (C.x k)
  vb : ∀ k j b, k < ops.size → X k → C.tch k j → C.V (k + 1) j = some b → ext (C.Sv k) (C.nx k) (C.nx (k + 1)) j ∧ bdK (ext (C.Sv k) (C.nx k) (C.nx (k + 1))) b
  re : Re w0 F B (C.KX X) (C.Sx X) w
  ra : Ra B (C.TX X) n (C.Sx X) a
  df : a.defers = D
  nd : ∀ k, k < ops.size → X k → ¬C.dd k
theorem nx_mono {i k : Nat} (h : i ≤ k) (hk : k ≤ ops.size) : C.nx i ≤ C.nx k := by
  induction k with
  | zero => have : i = 0 := by omega
            subst this; exact Nat.le_refl _
  | succ k ih =>
    by_cases e : i = k + 1
    · subst e; exact Nat.le_refl _
    · exact Nat.le_trans (ih (by omega) (by omega)) (C.nx_le k (by omega))
theorem sv_lt {i : Nat} (hi : i < ops.size) : ∀ j, C.Sv i j → j < C.nx i := by
  rintro j (h | ⟨k, h1, h2, h3⟩)
  · exact Nat.lt_of_lt_of_le (C.s0 j h) (C.nx_mono (Nat.zero_le _) (by omega))
  · have := C.pr_lt k i h1
    exact Nat.lt_of_lt_of_le h3 (C.nx_mono (by omega) (by omega))
theorem sv_up {k i : Nat} (h : C.pr k i) : ∀ j, ext (C.Sv k) (C.nx k) (C.nx (k + 1)) j → C.Sv i j := by
  rintro j (h1 | h1)
  · rcases h1 with h1 | ⟨m, h1, h2⟩
    · exact Or.inl h1
    · exact Or.inr ⟨m, C.pr_tr m k i h1 h, h2⟩
  · exact Or.inr ⟨k, h, h1⟩
theorem sv_sx {X : Nat → Prop} {i : Nat} (hi : i < ops.size) (h : ∀ k, C.pr k i → X k) : ∀ j, C.Sv i j → C.Sx X j := by
  rintro j (h1 | ⟨k, h1, h2⟩)
  · exact Or.inl h1
  · exact Or.inr ⟨k, Nat.lt_trans (C.pr_lt k i h1) hi, h k h1, h2⟩
theorem sx_out {X : Nat → Prop} {i : Nat} (hi : i < ops.size) (hni : ¬X i) : ∀ j, C.Sx X j → j < C.nx i ∨ C.nx (i + 1) ≤ j := by
  rintro j (h | ⟨k, hk, h1, h2, h3⟩)
  · exact Or.inl (Nat.lt_of_lt_of_le (C.s0 j h) (C.nx_mono (Nat.zero_le _) (by omega)))
  · by_cases e : k < i
    · exact Or.inl (Nat.lt_of_lt_of_le h3 (C.nx_mono (by omega) (by omega)))
    · have : k ≠ i := fun e => hni (e ▸ h1)
      exact Or.inr (Nat.le_trans (C.nx_mono (by omega) (by omega)) h2)
/-- What an operation sees in memory speaks of what it sees. -/
theorem see_bd {B0 : Pl} {X : Nat → Prop} {D : List Deferred} {B : Pl} {a : Act} {w : World} (I : C.Inv B0 X D B a w) (h0 : ∀ j b, C.V 0 j = some b → S0 j ∧ bdK S0 b) {i j : Nat} {b : Bx} (hi : i < ops.size) (hp : ∀ k, C.pr k i → X k) :
    ∀ m, m ≤ i → (∀ q, q < m → C.tch q j → C.pr q i) → C.V m j = some b → bdK (C.Sv i) b
  | 0, _, _, h => bdK_mono (fun _ h => Or.inl h) (h0 j b h).2
  | m + 1, hm, hq, h => by
    by_cases ht : C.tch m j
    · have hpm := hq m (by omega) ht
      exact bdK_mono (C.sv_up hpm) (I.vb m j b (by omega) (hp m hpm) ht h).2
    · rw [C.hV m j (by omega) ht] at h
      exact see_bd I h0 hi hp m (by omega) (fun q hq' => hq q (by omega)) h
theorem see_bdT {B0 : Pl} {X : Nat → Prop} {D : List Deferred} {B : Pl} {a : Act} {w : World} (I : C.Inv B0 X D B a w) (h0 : ∀ t v, C.T 0 t = some v → bd S0 v) {i t : Nat} {v : SV} (hi : i < ops.size) (hp : ∀ k, C.pr k i → X k) :
    ∀ m, m ≤ i → (∀ q, q < m → dt (ops := ops) q t → C.pr q i) → C.T m t = some v → bd (C.Sv i) v
  | 0, _, _, h => bd_mono (fun _ h => Or.inl h) (h0 t v h)
  | m + 1, hm, hq, h => by
    obtain ⟨o, ho⟩ : ∃ o, ops[m]? = some o := ⟨_, Array.getElem?_eq_getElem (by omega)⟩
    rw [C.hTt m o t ho] at h
    by_cases ht : o.dst = some t
    · rw [if_pos ht] at h
      simp only [Option.some.injEq] at h
      subst h
      have hpm := hq m (by omega) ⟨o, ho, ht⟩
      exact bd_mono (C.sv_up hpm) (I.xb m (by omega) (hp m hpm))
    · rw [if_neg ht] at h
      exact see_bdT I h0 hi hp m (by omega) (fun q hq' => hq q (by omega)) h
/-- The rest of memory, as a fact. -/
noncomputable def rest (X : Nat → Prop) (B : Pl) (i : Nat) : RF :=
  ⟨fun b => ∃ j k, C.KX X j = some k ∧ C.Ki i j = none ∧ (B j).1 = b, fun w => ∀ j k, C.KX X j = some k → C.Ki i j = none → ∃ r, rowOk (B j).2 k r ∧ w.heap[(B j).1]? = some (objOf B k r),
    fun w h b ⟨j, k, h1, h2, h3⟩ => by
      obtain ⟨r, _, hr⟩ := h j k h1 h2
      rw [h3] at hr
      exact (Array.getElem?_eq_some_iff.1 hr).1,
    fun w w' h hb j k h1 h2 => by
      obtain ⟨r, hr1, hr2⟩ := h j k h1 h2
      exact ⟨r, hr1, by rw [hb _ ⟨j, k, h1, h2, rfl⟩]; exact hr2⟩⟩
theorem step {B0 : Pl} {X : Nat → Prop} {D : List Deferred} {B : Pl} {a : Act} {w : World} (I : C.Inv B0 X D B a w) (h0 : ∀ j b, C.V 0 j = some b → S0 j ∧ bdK S0 b) (h0T : ∀ t v, C.T 0 t = some v → bd S0 v) {i : Nat} {o : Oper} (ho : ops[i]? = some o)
    (hni : ¬X i) (hp : ∀ k, C.pr k i → X k) (hG : C.G B a) {K : Act → World → Prop} (hK : ∀ B' a' w', C.Inv B0 (fun k => X k ∨ k = i) D B' a' w' → K a' w') : wpOp P ops Q i K a w := by
  have hi : i < ops.size := (Array.getElem?_eq_some_iff.1 ho).1
  have see : ∀ j b, C.Ki i j = some b → C.KX X j = some b := fun j b h => by
    obtain ⟨h1, _, h3⟩ := C.ki i j b hi h
    rw [← h1]
    exact ver_see (pr := C.pr) C.hV C.pr_lt I.cl hi hni hp h3
  have seeT : ∀ t v, C.Ti i t = some v → C.TX X t = some v := fun t v h => by
    obtain ⟨h1, h3⟩ := C.ti i t v hi h
    rw [← h1]
    refine ver_see (pr := C.pr) (fun m j hm hn => ?_) C.pr_lt I.cl hi hni hp (fun m hm ⟨o', ho', hd⟩ => h3 m o' ho' hd)
    obtain ⟨o', ho'⟩ : ∃ o', ops[m]? = some o' := ⟨_, Array.getElem?_eq_getElem hm⟩
    rw [C.hTt m o' j ho', if_neg (fun e => hn ⟨o', ho', e⟩)]
  have hord : ∀ q, q < i → (q = i ∨ C.pr q i ∨ C.pr i q) → C.pr q i := fun q hq h => by
    rcases h with h | h | h
    · omega
    · exact h
    · have := C.pr_lt _ _ h; omega
  have Rin : Re w0 (C.rest X B i :: F) B (C.Ki i) (C.Sv i) w := by
    refine ⟨fun j b h => ?_, fun p q kp kq h1 h2 => I.re.nd p q kp kq (see _ _ h1) (see _ _ h2), fun j b h => I.re.lo j b (see _ _ h), fun f hf => ?_, I.re.gr⟩
    · obtain ⟨h1, h2, h3⟩ := C.ki i j b hi h
      obtain ⟨_, _, r, g1, g2⟩ := I.re.bx j b (see _ _ h)
      exact ⟨h2, C.see_bd I h0 hi hp i (Nat.le_refl _) (fun q hq ht => hord q hq (h3 q (by omega) ht)) h1, r, g1, g2⟩
    · rcases List.mem_cons.1 hf with rfl | hf
      · refine ⟨fun j k h1 h2 => ?_, fun j k h => ?_⟩
        · obtain ⟨_, _, r, g1, g2⟩ := I.re.bx j k h1
          exact ⟨r, g1, g2⟩
        · rintro ⟨j', k', h1, h2, h3⟩
          have := I.re.nd _ _ _ _ h1 (see _ _ h) h3
          rw [this, h] at h2
          cases h2
      · exact ⟨(I.re.fs f hf).1, fun j k h => (I.re.fs f hf).2 j k (see _ _ h)⟩
  have hsl : ∀ t v, C.Ti i t = some v → a.tmps[t]? = some (den B v) ∧ bd (C.Sv i) v := fun t v h => by
    obtain ⟨h1, h3⟩ := C.ti i t v hi h
    exact ⟨(I.ra.tm t v (seeT t v h)).1, C.see_bdT I h0T hi hp i (Nat.le_refl _) (fun q hq ⟨o', ho', hd⟩ => hord q hq (h3 q o' ho' hd)) h1⟩
  have hnd : ∀ k, C.pr k i → ¬C.dd k := fun k hk => I.nd k (Nat.lt_trans (C.pr_lt k i hk) hi) (hp k hk)
  by_cases hdi : C.dd i
  · exact C.effd i o B a w (C.rest X B i :: F) K ho hdi hnd (fun f hf => List.mem_cons_of_mem _ hf) Rin hsl hG
  refine C.eff i o B a w (C.rest X B i :: F) K ho hdi hnd (fun f hf => List.mem_cons_of_mem _ hf) Rin hsl ?_
  · intro B' w' hag R' hx
    have hout : ∀ j, C.Sx X j → B' j = B j := fun j hj => hag j (C.sx_out hi hni j hj)
    have hsub : ∀ j, C.Sx X j → C.Sx (fun k => X k ∨ k = i) j := by
      rintro j (h | ⟨k, hk, h1, h2⟩)
      · exact Or.inl h
      · exact Or.inr ⟨k, hk, Or.inl h1, h2⟩
    have hsubi : ∀ j, ext (C.Sv i) (C.nx i) (C.nx (i + 1)) j → C.Sx (fun k => X k ∨ k = i) j := by
      rintro j (h | h)
      · exact hsub j (C.sv_sx hi hp j h)
      · exact Or.inr ⟨i, hi, Or.inr rfl, h⟩
    have hKX : ∀ j, C.KX (fun k => X k ∨ k = i) j = open Classical in if C.tch i j then C.V (i + 1) j else C.KX X j := fun j => ver_add (pr := C.pr) C.pr_lt I.cl hi hni C.hT
    have hTX : ∀ t, C.TX (fun k => X k ∨ k = i) t = if o.dst = some t then some (C.x i) else C.TX X t := fun t => by
      have := ver_add (pr := C.pr) (tch := dt (ops := ops)) (V := C.T) (X := X) (N := ops.size) (i := i) (j := t) C.pr_lt I.cl hi hni (fun i m j him hm ⟨o1, h1, h2⟩ ⟨o2, h3, h4⟩ => by
        have := C.dst_one i m o1 o2 j h1 h3 h2 h4; omega)
      rw [TX, this]
      by_cases e : o.dst = some t
      · rw [if_pos ⟨o, ho, e⟩, if_pos e, C.hTt i o t ho, if_pos e]
      · rw [if_neg (fun ⟨o', h1, h2⟩ => by rw [ho] at h1; simp only [Option.some.injEq] at h1; subst h1; exact e h2), if_neg e]; rfl
    -- where a name lies
    have parts : ∀ j b, C.KX (fun k => X k ∨ k = i) j = some b → (open Classical in (if C.tch i j then C.V (i + 1) j else C.Ki i j)) = some b ∨ (C.KX X j = some b ∧ C.Ki i j = none ∧ ¬C.tch i j) := fun j b h => by
      rw [hKX] at h
      by_cases ht : C.tch i j
      · rw [if_pos ht] at h ⊢; exact Or.inl h
      · rw [if_neg ht] at h ⊢
        cases hk : C.Ki i j with
        | none => exact Or.inr ⟨h, rfl, ht⟩
        | some b' => have := see _ _ hk; rw [h] at this; exact Or.inl this.symm
    have hrest := (R'.fs _ (List.mem_cons_self ..))
    have hB2 : ∀ j b, C.KX X j = some b → B' j = B j := fun j b h => hout j (I.re.bx j b h).1
    refine hK B' _ w' ⟨fun j hj => (hag j (by have := C.nx_mono (Nat.zero_le i) (by omega); have := C.nx_mono (by omega : i + 1 ≤ ops.size) (Nat.le_refl _); omega)).trans (I.ag j hj), fun k hk hXk q hq => ?_, fun k hk hXk => ?_, fun k j b hk hXk ht hv => ?_, ⟨fun j b h => ?_, fun p q kp kq h1 h2 he => ?_, fun j b h => ?_, fun f hf => ?_, R'.gr⟩, ⟨?_, fun t v h => ?_⟩, ?_, fun k hk hXk => ?_⟩
    · rcases hXk with h | rfl
      · exact Or.inl (I.cl k hk h q hq)
      · exact Or.inl (hp q hq)
    · rcases hXk with h | rfl
      · exact I.xb k hk h
      · exact hx
    · rcases hXk with h | rfl
      · exact I.vb k j b hk h ht hv
      · have := R'.bx j b (by simp only [if_pos ht]; exact hv)
        exact ⟨this.1, this.2.1⟩
    · rcases parts j b h with h1 | ⟨h1, h2, h3⟩
      · obtain ⟨g1, g2, r, g3, g4⟩ := R'.bx j b h1
        exact ⟨hsubi j g1, bdK_mono hsubi g2, r, g3, g4⟩
      · obtain ⟨g1, g2, _⟩ := I.re.bx j b h1
        obtain ⟨r, g3, g4⟩ := hrest.1 j b h1 h2
        exact ⟨hsub j g1, bdK_mono hsub g2, r, by rw [hout j g1]; exact g3, by rw [hout j g1, objOf_ag hout g2]; exact g4⟩
    · rcases parts p kp h1 with h1 | ⟨h1, h1', _⟩ <;> rcases parts q kq h2 with h2 | ⟨h2, h2', _⟩
      · exact R'.nd p q kp kq h1 h2 he
      · exact absurd ⟨q, kq, h2, h2', by rw [he, hB2 q kq h2]⟩ (hrest.2 p kp h1)
      · exact absurd ⟨p, kp, h1, h1', by rw [← he, hB2 p kp h1]⟩ (hrest.2 q kq h2)
      · rw [hB2 p kp h1, hB2 q kq h2] at he
        exact I.re.nd p q kp kq h1 h2 he
    · rcases parts j b h with h1 | ⟨h1, h2, _⟩
      · exact R'.lo j b h1
      · rw [hB2 j b h1]; exact I.re.lo j b h1
    · refine ⟨(R'.fs f (List.mem_cons_of_mem _ hf)).1, fun j b h => ?_⟩
      rcases parts j b h with h1 | ⟨h1, h2, _⟩
      · exact (R'.fs f (List.mem_cons_of_mem _ hf)).2 j b h1
      · rw [hB2 j b h1]; exact (I.re.fs f hf).2 j b h1
    · cases o.dst <;> simp [Act.put, I.ra.sz]
    · rw [hTX] at h
      by_cases e : o.dst = some t
      · rw [if_pos e] at h
        simp only [Option.some.injEq] at h
        subst h
        have hlt := C.dst_lt i o t ho e
        exact ⟨by rw [e]; simp [Act.put, I.ra.sz, hlt], bd_mono hsubi hx⟩
      · rw [if_neg e] at h
        obtain ⟨g1, g2⟩ := I.ra.tm t v h
        refine ⟨?_, bd_mono hsub g2⟩
        rw [den_ag hout g2]
        cases hd : o.dst with
        | none => exact g1
        | some d =>
          have : d ≠ t := fun q => e (by rw [hd, q])
          simp only [Act.put]
          rw [Array.getElem?_setIfInBounds_ne this]
          exact g1
    · rw [← I.df]; cases o.dst <;> rfl
    · rcases hXk with h | rfl
      · exact I.nd k hk h
      · exact hdi
theorem any {B0 : Pl} {D : List Deferred} (h0 : ∀ j b, C.V 0 j = some b → S0 j ∧ bdK S0 b) (h0T : ∀ t v, C.T 0 t = some v → bd S0 v) (hG : ∀ X B a w, C.Inv B0 X D B a w → C.G B a) (hQ : ∀ B a w X, (∀ i, i < ops.size → X i) → C.Inv B0 X D B a w → Q .normal a w) :
    ∀ (fuel : Nat) (listed : Array Bool) (B : Pl) (a : Act) (w : World), listed.size = ops.size → ops.size ≤ fuel + listed.toList.countP id → C.Inv B0 (fun k => listed.getD k false = true) D B a w → wpAny P .any ops Q fuel listed a w := by
  have all : ∀ listed : Array Bool, listed.size = ops.size → Region.ready .any ops listed = [] → ∀ i, i < ops.size → listed.getD i false = true := by
    intro listed hs hr i
    induction i using Nat.strongRecOn with
    | _ i ih =>
      intro hi
      cases hl : listed.getD i false with
      | true => rfl
      | false =>
        obtain ⟨o, ho⟩ : ∃ o, ops[i]? = some o := ⟨_, Array.getElem?_eq_getElem hi⟩
        have : i ∈ Region.ready .any ops listed := mem_ready.2 ⟨by
          simp only [Array.getD_eq_getD_getElem?] at hl ⊢
          rw [Array.getElem?_eq_getElem (by omega)] at hl ⊢
          exact hl, o, ho, fun e he hb => ih e.on (C.edge_lt i o ho e he hb) (by have := C.edge_lt i o ho e he hb; omega)⟩
        rw [hr] at this
        cases this
  intro fuel
  induction fuel with
  | zero =>
    intro listed B a w hs hc I
    have hall : ∀ i, i < ops.size → listed.getD i false = true := by
      intro i hi
      have hle := List.countP_le_length (p := id) (l := listed.toList)
      rw [Array.length_toList] at hle
      have heq : listed.toList.countP id = listed.toList.length := by rw [Array.length_toList]; omega
      have := List.countP_eq_length.1 heq
      simp only [Array.getD_eq_getD_getElem?]
      rw [Array.getElem?_eq_getElem (by omega)]
      exact this _ (by simp)
    refine ⟨?_, hQ B a w _ hall I⟩
    apply List.eq_nil_iff_forall_not_mem.2
    intro j hj
    obtain ⟨h1, o, h2, _⟩ := mem_ready.1 hj
    have := hall j (Array.getElem?_eq_some_iff.1 h2).1
    have hj' : j < listed.size := by rw [hs]; exact (Array.getElem?_eq_some_iff.1 h2).1
    simp only [Array.getD_eq_getD_getElem?] at h1 this
    rw [Array.getElem?_eq_getElem hj'] at h1 this
    simp at h1 this
    rw [h1] at this
    cases this
  | succ fuel ih =>
    intro listed B a w hs hc I
    refine ⟨fun hr => hQ B a w _ (all listed hs hr) I, fun i hi => ?_⟩
    obtain ⟨h1, o, ho, he⟩ := mem_ready.1 hi
    have hil : i < listed.size := by rw [hs]; exact (Array.getElem?_eq_some_iff.1 ho).1
    have hlf : listed[i] = false := by
      simp only [Array.getD_eq_getD_getElem?] at h1
      rw [Array.getElem?_eq_getElem hil] at h1
      simpa using h1
    refine C.step I h0 h0T ho ?_ ?_ (hG _ _ _ _ I) ?_
    · simp only [Array.getD_eq_getD_getElem?]
      rw [Array.getElem?_eq_getElem hil]
      simp [hlf]
    · intro k hk
      obtain ⟨e, he1, he2, he3⟩ := C.edge i o ho k hk
      rcases he3 with rfl | he3
      · exact he e he1 he2
      · exact I.cl e.on (by have := C.edge_lt i o ho e he1 he2; have := (Array.getElem?_eq_some_iff.1 ho).1; omega) (he e he1 he2) k he3
    · intro B' a' w' I'
      refine ih (listed.setIfInBounds i true) B' a' w' (by simp [hs]) ?_ ?_
      · have hcs := List.countP_set (p := id) (l := listed.toList) (i := i) (a := true) (by simpa using hil)
        have hle : listed.toList.countP id < listed.toList.length := by
          rcases Nat.lt_or_ge (listed.toList.countP id) listed.toList.length with h | h
          · exact h
          · have heq : listed.toList.countP id = listed.toList.length := Nat.le_antisymm (List.countP_le_length) h
            have := List.countP_eq_length.1 heq listed[i] (by simp)
            rw [hlf] at this
            cases this
        simp only [Array.toList_setIfInBounds]
        rw [hcs]
        have e1 : (if id listed.toList[i] = true then 1 else 0) = 0 := by simp [hlf]
        have e2 : (if id true = true then 1 else 0) = 1 := rfl
        rw [e1, e2]
        omega
      · have e : (fun k => (listed.setIfInBounds i true).getD k false = true) = fun k => listed.getD k false = true ∨ k = i := by
          funext k
          apply propext
          simp only [Array.getD_eq_getD_getElem?]
          by_cases hk : i = k
          · subst hk
            rw [Array.getElem?_setIfInBounds_self]
            simp [hil]
          · rw [Array.getElem?_setIfInBounds_ne hk]
            exact ⟨Or.inl, fun h => h.elim id (fun h => absurd h.symm hk)⟩
        rw [e]
        exact I'
end Cert
end Go.Proofs.Ytnlcjlhcghgaoaa.EX
