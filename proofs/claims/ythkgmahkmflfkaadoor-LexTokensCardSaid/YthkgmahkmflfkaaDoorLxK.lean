
/-
  Layer 4: the decimal digits of a number.
-/
import Derived.Test.YthkgmahkmflfkaaDoorRows
import Derived.Test.YthkgmahkmflfkaaDoorBase
import Derived.Test.YthkgmahkmflfkaaDoorLxF
import Derived.WalkKit
namespace Go.Proofs.YthkgmahkmflfkaaDoor
open Go Go.RowKit SZ
set_option linter.unusedVariables false
set_option linter.unusedSimpArgs false
set_option maxRecDepth 100000
attribute [local irreducible] post GD Nxt NxtAll
theorem numV_app (a b : List Nat) : numV (a ++ b) = numV a * 10 ^ b.length + numV b := by
  suffices h : ∀ (b : List Nat) (n : Nat), b.foldl (fun n c => 10 * n + (c - 48)) n = n * 10 ^ b.length + numV b by
    show (a ++ b).foldl _ 0 = _
    rw [List.foldl_append]
    exact h b _
  intro b
  induction b with
  | nil => intro n; simp [numV]
  | cons c b ih =>
    intro n
    show b.foldl _ (10 * n + (c - 48)) = _
    rw [ih]
    have h0 : numV (c :: b) = (c - 48) * 10 ^ b.length + numV b := by
      show b.foldl _ (10 * 0 + (c - 48)) = _
      rw [ih]
      simp
    rw [h0, List.length_cons, Nat.pow_succ, Nat.add_mul, ← Nat.add_assoc]
    congr 2
    rw [Nat.mul_comm 10 n, Nat.mul_assoc, Nat.mul_comm 10]
theorem numV_cons (c : Nat) (s : List Nat) : numV (c :: s) = (c - 48) * 10 ^ s.length + numV s := by
  have h := numV_app [c] s
  have h1 : numV [c] = c - 48 := by simp [numV]
  rw [h1] at h
  exact h
/-- The digits written so far, and what is left. -/
structure dgP (x n : Nat) (s : List Nat) : Prop where
  d : ∀ b ∈ s, digB b = true
  v : n / 10 * 10 ^ s.length + numV s = x
  h : s.getD 0 0 = 48 + n % 10
  l : 1 ≤ s.length
  z : 1 < s.length → 1 ≤ n
theorem dg_0 (x : Nat) : dgP x x [48 + x % 10] := by
  refine ⟨fun b hb => ?_, ?_, rfl, Nat.le_refl _, fun h => ?_⟩
  · rw [List.mem_singleton] at hb
    subst hb
    unfold digB
    simp
    omega
  · have h1 : numV [48 + x % 10] = x % 10 := by simp [numV]
    rw [h1]
    simp only [List.length_singleton, Nat.pow_one]
    omega
  · simp only [List.length_singleton] at h
    omega
theorem dg_s {x n : Nat} {s : List Nat} (h : dgP x n s) (hn : 9 < n) : dgP x (n / 10) ((48 + n / 10 % 10) :: s) := by
  refine ⟨fun b hb => ?_, ?_, rfl, by rw [List.length_cons]; omega, fun _ => by omega⟩
  · rcases List.mem_cons.1 hb with rfl | hb
    · unfold digB
      simp
      omega
    · exact h.d b hb
  · have hv := h.v
    rw [numV_cons, List.length_cons, Nat.pow_succ, show 48 + n / 10 % 10 - 48 = n / 10 % 10 by omega, ← Nat.add_assoc, ← hv]
    congr 1
    rw [Nat.mul_comm (10 ^ s.length) 10, ← Nat.mul_assoc, ← Nat.add_mul]
    congr 1
    omega
theorem dg_e {x n : Nat} {s : List Nat} (h : dgP x n s) (hn : n ≤ 9) : numV s = x ∧ (∀ b ∈ s, digB b = true) ∧ 1 ≤ s.length ∧ ¬(1 < s.length ∧ s.getD 0 0 = 48) := by
  refine ⟨?_, h.d, h.l, fun q => ?_⟩
  · have hv := h.v
    rw [show n / 10 = 0 by omega] at hv
    simpa using hv
  · have h1 := h.z q.1
    have h2 := h.h
    rw [q.2] at h2
    omega
/-- A number's digits are read as that number; with a nought before them as nothing. -/
theorem lex_num {x : Nat} {s : List Nat} (hv : numV s = x) (hd : ∀ b ∈ s, digB b = true) (h1 : 1 ≤ s.length) (h13 : s.length ≤ 13) (h0 : ¬(1 < s.length ∧ s.getD 0 0 = 48)) (hx : x ≤ 1099511627776) : lexW s 0 = some [(2, s, x, 0)] ∧ lexW (48 :: s) 0 = none := by
  match s, h1 with
  | c :: r, _ =>
    have hc := hd c (by simp)
    have hsp : ∀ c, digB c = true → spcB c = false ∧ lettB c = false := fun c hc => by
      refine ⟨?_, let_dig hc⟩
      cases q : spcB c with
      | true => have := (spc_w q).2; rw [this] at hc; cases hc
      | false => rfl
    obtain ⟨g1, g2⟩ := hsp c hc
    have htw : (c :: r).takeWhile digB = c :: r := by
      have h := tw_end (K := digB) rfl (s := c :: r) (rest := []) hd (Or.inl rfl)
      simpa using h
    have hok : nOk (c :: r) = true := by
      unfold nOk
      have h3 : (decide (1 < (c :: r).length) && decide ((c :: r).getD 0 0 = 48)) = false := by
        rw [Bool.eq_false_iff]
        intro h
        simp only [Bool.and_eq_true, decide_eq_true_eq] at h
        exact h0 h
      rw [h3, decide_eq_true h13, hv, decide_eq_true hx]
      rfl
    refine ⟨?_, ?_⟩
    · rw [lexW_tok g1, tokL_cc, if_neg (by rw [g2]; decide), if_pos hc, htw, List.drop_length, if_pos ⟨hok, rfl⟩]
      simp only [List.drop_length, hv]
      rfl
    · have hd2 : ∀ b ∈ 48 :: c :: r, digB b = true := fun b hb => by
        rcases List.mem_cons.1 hb with rfl | hb
        · rfl
        · exact hd b hb
      have htw2 : (48 :: c :: r).takeWhile digB = 48 :: c :: r := by
        have h := tw_end (K := digB) rfl (s := 48 :: c :: r) (rest := []) hd2 (Or.inl rfl)
        simpa using h
      have hbad : nOk (48 :: c :: r) = false := by
        unfold nOk
        simp
      have h48 : lettB 48 = false := rfl
      rw [lexW_tok rfl, tokL_cc, if_neg (by rw [h48]; decide), if_pos (show digB 48 = true from rfl), htw2, if_neg (fun q => by rw [hbad] at q; cases q.1)]
/-- A token's spelling alone, two signs that follow each other. -/
theorem lex_one {t : Tk} (h : good t) : lexW t.2.1 0 = some [(t.1, t.2.1, t.2.2.1, 0)] := by
  have h1 := relex [t] (fun x hx => by rw [List.mem_singleton] at hx; subst hx; exact h) 0
  rw [shL_one] at h1
  exact h1
theorem ex_quo {s : SS} {bs : List Nat} {x y : Operand} {t t' ty : TypeId} {n d : Nat} (hx : s.val x = some (.v (.int .i64 (n : Int)))) (hy : s.val y = some (.v (.int .i64 (d : Int)))) (hd : d ≠ 0) (hn : n ≤ 9000000000000000000) :
    ∀ (o : Oper) (ρ : Operand → Value) (W : World), o.op = .binOp .quo t x y t' → o.type = ty → (∀ x y, s.val x = some y → ρ x = den bs y) → (execOp ρ o).run Tryd.prog W = .ok (.value (.int .i64 ((n / d : Nat) : Int))) W := by
  intro o ρ W h1 h2 h3
  have e1 : ρ x = .int .i64 (n : Int) := h3 x _ hx
  have e2 : ρ y = .int .i64 (d : Int) := h3 y _ hy
  have hd2 : (d : Int) ≠ 0 := by omega
  have hq : Int.tdiv (n : Int) (d : Int) = ((n / d : Nat) : Int) := rfl
  have hw : IntKind.i64.wrap ((n / d : Nat) : Int) = ((n / d : Nat) : Int) := by
    have h := Nat.div_le_self n d
    generalize n / d = q at h ⊢
    rw [IntKind.wrap_i64]
    omega
  unfold execOp
  simp only [h1, e1, e2, eqGuard, binOp_quo, Op.intDiv, if_neg hd2, hq, hw, Sem.run_bind, Sem.run_pure, Result.andThen_ok]
  rfl
theorem cv_one {w : World} {ad : Addr} {c : Nat} (hc : c < 256) (h : w.cell? ad = some (.int .u8 (c : Int))) : (convert 46 9 (.slice (some ad) 1 1)).run Tryd.prog w = .ok (.string (strOf [c])) w := by
  have h1 := run_convert_bytes_back (P := Tryd.prog) w 46 9 5 ad 1 [UInt8.ofNat c] Tryd.underlying46 Tryd.underlying5 Tryd.underlying9 (fun j hj => by
    have hj0 : j = 0 := by simpa using hj
    subst hj0
    have ea : ad.add 0 = ad := by cases ad; rfl
    rw [ea]
    have e : (UInt8.ofNat c).toNat = c := UInt8.toNat_ofNat_of_lt' (by simpa using hc)
    simp only [List.getElem_cons_zero, e]
    exact h)
  exact h1
theorem dg_len {x n : Nat} {s : List Nat} (h : dgP x n s) (hx : x ≤ 1099511627776) : (9 < n → s.length ≤ 12) ∧ (n ≤ 9 → s.length ≤ 13) := by
  refine ⟨fun hn => ?_, fun hn => ?_⟩
  · have hv := h.v
    rcases Nat.lt_or_ge s.length 13 with q | q
    · omega
    · exfalso
      have h1 : 10 ^ 13 ≤ 10 ^ s.length := Nat.pow_le_pow_right (by omega) q
      have h2 : 1 * 10 ^ s.length ≤ n / 10 * 10 ^ s.length := Nat.mul_le_mul_right _ (by omega)
      omega
  · have hv := h.v
    rcases Nat.lt_or_ge s.length 14 with q | q
    · omega
    · exfalso
      match s, h, q with
      | c :: r, h, q =>
        have hh := h.h
        have hz := h.z (by omega)
        have hc : c = 48 + n % 10 := hh
        rw [numV_cons] at hv
        rw [List.length_cons] at q
        have h1 : 10 ^ 13 ≤ 10 ^ r.length := Nat.pow_le_pow_right (by omega) (by omega)
        have h2 : 1 * 10 ^ r.length ≤ (c - 48) * 10 ^ r.length := Nat.mul_le_mul_right _ (by omega)
        omega
noncomputable def dgC : Cfg := ⟨goZ 60 [] [.code (bodyOf Tryd.f17)], ⟨0, [], []⟩⟩
noncomputable def dgS (n : Nat) (s : List Nat) (k : Nat) : SS := ⟨30, [(0, .v (.int .i64 (n : Int))), (3, .v (.string (strOf s))), (4, .v (.int .i64 (k : Int)))], []⟩
set_option maxHeartbeats 8000000 in
theorem dg_st (w0 : World) (x : Nat) (hx : x ≤ 1099511627776) (m n k : Nat) (s : List Nat) (hk : s.length = k + 1) (hP : dgP x n s) (hn : 9 < n) (ih : ∀ (aa : Act) (w : World) (S : Sy w0 [] [] (dgS (n / 10) ((48 + n / 10 % 10) :: s) (k + 1)) [] aa w), post Tryd.prog (.rnd (m) (bodyL dgC) :: dgC.k.tail) (bodyPost Tryd.prog Tryd.f17 (fun e w' => (∃ s, e = .returned (.string (strOf s)) ∧ numV s = x ∧ (∀ b ∈ s, digB b = true) ∧ 1 ≤ s.length ∧ s.length ≤ 13 ∧ ¬(1 < s.length ∧ s.getD 0 0 = 48)) ∧ Below w0.heap.size w0 w')) .normal aa w) (aa : Act) (w : World) (S : Sy w0 [] [] (dgS (n) (s) (k)) [] aa w) : post Tryd.prog (.rnd (m + 1) (bodyL dgC) :: dgC.k.tail) (bodyPost Tryd.prog Tryd.f17 (fun e w' => (∃ s, e = .returned (.string (strOf s)) ∧ numV s = x ∧ (∀ b ∈ s, digB b = true) ∧ 1 ≤ s.length ∧ s.length ≤ 13 ∧ ¬(1 < s.length ∧ s.getD 0 0 = 48)) ∧ Below w0.heap.size w0 w')) .normal aa w := by
  have hl := (dg_len hP hx).1 hn
  have hv := hP.v
  have hp : 1 ≤ 10 ^ s.length := Nat.pow_pos (by omega)
  have hnx : n / 10 ≤ x := by
    have : n / 10 * 1 ≤ n / 10 * 10 ^ s.length := Nat.mul_le_mul_left _ hp
    omega
  refine sy_run (c := ⟨(.rnd (m + 1) (bodyL dgC) :: dgC.k.tail), dgS n s k⟩) ⟨0, [3]⟩ 50 S fun bs aa w S => ?_
  refine sy_reg S fun S => ?_
  refine sy_ops 2 S fun bs aa w S => ?_
  refine sy_cast 12 S (congrArg Value.bool (decide_eq_true (by omega) : decide ((k : Int) < 20) = true)) (by kernel_rfl) fun S => ?_
  refine sy_ops 3 S fun bs aa w S => ?_
  refine sy_cast 15 S (congrArg Value.bool (decide_eq_true (by omega) : decide ((n : Int) > 9) = true)) (by kernel_rfl) fun S => ?_
  refine sy_run ⟨0, [5]⟩ 60 S fun bs aa w S => ?_
  refine sy_reg S fun S => ?_
  refine sy_ops 1 S fun bs aa w S => ?_
  refine sy_ex (op := .binOp .quo 3 (.tmp 19) (.const (.int .i64 10)) 3) (ty := 3) (v := .int .i64 ((n / 10 : Nat) : Int)) S (by kernel_rfl) (ex_quo (n := n) (d := 10) (by kernel_rfl) (by kernel_rfl) (by decide) (by omega)) fun aa S => ?_
  refine sy_run ⟨0, [6]⟩ 60 S fun bs aa w S => ?_
  refine sy_reg S fun S => ?_
  refine sy_ops 1 S fun bs aa w S => ?_
  refine sy_ex (op := .binOp .rem 3 (.tmp 21) (.const (.int .i64 10)) 3) (ty := 3) (v := .int .i64 (((n / 10) % 10 : Nat) : Int)) S (by kernel_rfl) (ex_rem (ki := .i64) (p := ((n / 10 : Nat) : Int)) (q := 10) (by kernel_rfl) (by kernel_rfl) (by decide) rfl) fun aa S => ?_
  refine sy_ops 1 S fun bs aa w S => ?_
  refine sy_cast 23 S (congrArg (Value.int .i64) (by rw [IntKind.wrap_i64]; omega : IntKind.i64.wrap (48 + (((n / 10) % 10 : Nat) : Int)) = ((48 + (n / 10) % 10 : Nat) : Int))) (by kernel_rfl) fun S => ?_
  refine sy_ops 1 S fun bs aa w S => ?_
  refine sy_cast 24 S (congrArg (Value.int .u8) (by rw [IntKind.wrap_u8]; omega : IntKind.u8.wrap ((48 + (n / 10) % 10 : Nat) : Int) = ((48 + (n / 10) % 10 : Nat) : Int))) (by kernel_rfl) fun S => ?_
  refine sy_ops 1 S fun bs aa w S => ?_
  refine sy_nm S fun bs S => ?_
  have hrow := S.bx 0 ⟨5, [.int .u8 ((48 + (n / 10) % 10 : Nat) : Int)]⟩ (by kernel_rfl)
  refine sy_exW (op := .convert 46 9 (.tmp 25)) (ty := 9) (v := .string (strOf [48 + (n / 10) % 10])) S (by kernel_rfl) (fun op ρ h1 h2 h3 => by
    have e1 : ρ (.tmp 25) = .slice (some ⟨bs.getD 0 0, 0, none⟩) 1 1 := h3 (.tmp 25) (.s 0 0 1 1) (by kernel_rfl)
    have hc := cv_one (w := w) (ad := ⟨bs.getD 0 0, 0, none⟩) (c := 48 + (n / 10) % 10) (by omega) (cel_of hrow rfl)
    unfold execOp
    simp only [h1, e1, Sem.run_bind, Sem.run_pure, Result.andThen_ok, hc]) fun aa S => ?_
  refine sy_ops 1 S fun bs aa w S => ?_
  refine sy_ex (op := .binOp .add 9 (.tmp 26) (.tmp 27) 9) (ty := 9) (v := .string (strOf [48 + n / 10 % 10] ++ strOf s)) S (by kernel_rfl) (ex_cat Tryd.underlying9 (by kernel_rfl) (by kernel_rfl) (by rw [strOf_size, strOf_size]; simp only [List.length_singleton]; omega)) fun aa S => ?_
  refine sy_cast 28 S (congrArg Value.string (strOf_app [48 + n / 10 % 10] s)) (by kernel_rfl) fun S => ?_
  refine sy_run ⟨0, [4]⟩ 60 S fun bs aa w S => ?_
  refine sy_reg S fun S => ?_
  refine sy_ops 2 S fun bs aa w S => ?_
  refine sy_cast 18 S (congrArg (Value.int .i64) (by rw [IntKind.wrap_i64]; omega : IntKind.i64.wrap ((k : Int) + 1) = ((k + 1 : Nat) : Int))) (by kernel_rfl) fun S => ?_
  refine sy_run ⟨0, [999]⟩ 50 S fun bs aa w S => ?_
  have S2 := S.to [] (dgS (n / 10) ((48 + n / 10 % 10) :: s) (k + 1)) (by kernel_rfl) (by kernel_rfl) (by kernel_rfl) (by kernel_rfl) (by kernel_rfl)
  refine sy_at2 (k' := (.rnd (m) (bodyL dgC) :: dgC.k.tail)) (by kernel_rfl) ?_
  exact ih aa w S2
set_option maxHeartbeats 8000000 in
theorem dg_en (w0 : World) (x : Nat) (hx : x ≤ 1099511627776) (m n k : Nat) (s : List Nat) (hk : s.length = k + 1) (hP : dgP x n s) (hn : n ≤ 9) (aa : Act) (w : World) (S : Sy w0 [] [] (dgS (n) (s) (k)) [] aa w) : post Tryd.prog (.rnd (m + 1) (bodyL dgC) :: dgC.k.tail) (bodyPost Tryd.prog Tryd.f17 (fun e w' => (∃ s, e = .returned (.string (strOf s)) ∧ numV s = x ∧ (∀ b ∈ s, digB b = true) ∧ 1 ≤ s.length ∧ s.length ≤ 13 ∧ ¬(1 < s.length ∧ s.getD 0 0 = 48)) ∧ Below w0.heap.size w0 w')) .normal aa w := by
  have hl := (dg_len hP hx).2 hn
  obtain ⟨e1, e2, e3, e4⟩ := dg_e hP hn
  refine sy_run (c := ⟨(.rnd (m + 1) (bodyL dgC) :: dgC.k.tail), dgS n s k⟩) ⟨0, [3]⟩ 50 S fun bs aa w S => ?_
  refine sy_reg S fun S => ?_
  refine sy_ops 2 S fun bs aa w S => ?_
  refine sy_cast 12 S (congrArg Value.bool (decide_eq_true (by omega) : decide ((k : Int) < 20) = true)) (by kernel_rfl) fun S => ?_
  refine sy_ops 3 S fun bs aa w S => ?_
  refine sy_cast 15 S (congrArg Value.bool (decide_eq_false (by omega) : decide ((n : Int) > 9) = false)) (by kernel_rfl) fun S => ?_
  refine sy_run ⟨0, []⟩ 60 S fun bs aa w S => ?_
  exact sy_ret S (by kernel_rfl) (by kernel_rfl) fun hg => ⟨⟨s, rfl, e1, e2, e3, hl, e4⟩, bel_gr hg⟩
theorem dg_a (w0 : World) (x : Nat) (hx : x ≤ 1099511627776) : ∀ (m n k : Nat) (s : List Nat), n ≤ m → s.length = k + 1 → dgP x n s → ∀ (aa : Act) (w : World) (S : Sy w0 [] [] (dgS (n) (s) (k)) [] aa w), post Tryd.prog (.rnd (m + 1) (bodyL dgC) :: dgC.k.tail) (bodyPost Tryd.prog Tryd.f17 (fun e w' => (∃ s, e = .returned (.string (strOf s)) ∧ numV s = x ∧ (∀ b ∈ s, digB b = true) ∧ 1 ≤ s.length ∧ s.length ≤ 13 ∧ ¬(1 < s.length ∧ s.getD 0 0 = 48)) ∧ Below w0.heap.size w0 w')) .normal aa w := by
  intro m
  induction m with
  | zero => intro n k s hm hk hP aa w S; exact dg_en w0 x hx 0 n k s hk hP (by omega) aa w S
  | succ m ih =>
    intro n k s hm hk hP aa w S
    by_cases hn : 9 < n
    · exact dg_st w0 x hx (m + 1) n k s hk hP hn (fun aa w S => ih (n / 10) (k + 1) _ (by omega) (by rw [List.length_cons, hk]) (dg_s hP hn) aa w S) aa w S
    · exact dg_en w0 x hx (m + 1) n k s hk hP (by omega) aa w S
set_option maxHeartbeats 8000000 in
theorem digits_t (w0 : World) (x : Nat) (hx : x ≤ 1099511627776) : Calls Tryd.prog 17 #[.int .i64 (x : Int)] w0 (fun e w' => (∃ s, e = .returned (.string (strOf s)) ∧ numV s = x ∧ (∀ b ∈ s, digB b = true) ∧ 1 ≤ s.length ∧ s.length ≤ 13 ∧ ¬(1 < s.length ∧ s.getD 0 0 = 48)) ∧ Below w0.heap.size w0 w') := by
  refine sy_enterF [] [] (by intro f hf; cases hf) Tryd.func17 rfl rfl fun aa S => ?_
  refine sy_run ⟨0, [1]⟩ 60 S fun bs aa w S => ?_
  refine sy_reg S fun S => ?_
  refine sy_ops 1 S fun bs aa w S => ?_
  refine sy_ex (op := .binOp .rem 3 (.tmp 5) (.const (.int .i64 10)) 3) (ty := 3) (v := .int .i64 (((x) % 10 : Nat) : Int)) S (by kernel_rfl) (ex_rem (ki := .i64) (p := ((x : Nat) : Int)) (q := 10) (by kernel_rfl) (by kernel_rfl) (by decide) rfl) fun aa S => ?_
  refine sy_ops 1 S fun bs aa w S => ?_
  refine sy_cast 7 S (congrArg (Value.int .i64) (by rw [IntKind.wrap_i64]; omega : IntKind.i64.wrap (48 + (((x) % 10 : Nat) : Int)) = ((48 + (x) % 10 : Nat) : Int))) (by kernel_rfl) fun S => ?_
  refine sy_ops 1 S fun bs aa w S => ?_
  refine sy_cast 8 S (congrArg (Value.int .u8) (by rw [IntKind.wrap_u8]; omega : IntKind.u8.wrap ((48 + (x) % 10 : Nat) : Int) = ((48 + (x) % 10 : Nat) : Int))) (by kernel_rfl) fun S => ?_
  refine sy_ops 1 S fun bs aa w S => ?_
  refine sy_nm S fun bs S => ?_
  have hrow := S.bx 0 ⟨5, [.int .u8 ((48 + (x) % 10 : Nat) : Int)]⟩ (by kernel_rfl)
  refine sy_exW (op := .convert 46 9 (.tmp 9)) (ty := 9) (v := .string (strOf [48 + (x) % 10])) S (by kernel_rfl) (fun op ρ h1 h2 h3 => by
    have e1 : ρ (.tmp 9) = .slice (some ⟨bs.getD 0 0, 0, none⟩) 1 1 := h3 (.tmp 9) (.s 0 0 1 1) (by kernel_rfl)
    have hc := cv_one (w := w) (ad := ⟨bs.getD 0 0, 0, none⟩) (c := 48 + (x) % 10) (by omega) (cel_of hrow rfl)
    unfold execOp
    simp only [h1, e1, Sem.run_bind, Sem.run_pure, Result.andThen_ok, hc]) fun aa S => ?_
  refine sy_run ⟨0, []⟩ 60 S fun bs aa w S => ?_
  have S2 := S.to [] (dgS x [48 + x % 10] 0) (by kernel_rfl) (by kernel_rfl) (by kernel_rfl) (by kernel_rfl) (by kernel_rfl)
  refine sy_loop (x + 1) (by kernel_rfl) ?_
  refine sy_at2 (k' := (.rnd (x + 1) (bodyL dgC) :: dgC.k.tail)) (by kernel_rfl) ?_
  exact dg_a w0 x hx x x 0 [48 + x % 10] (Nat.le_refl _) rfl (dg_0 x) aa w S2
end Go.Proofs.YthkgmahkmflfkaaDoor
