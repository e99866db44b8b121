/-
  Merged: WlN, WlQ, WlU
-/
import Derived.Test.YtaclhiagfgmgkaaRows
import Derived.Test.YtaclhiagfgmgkaaPc2
import Derived.Test.YtaclhiagfgmgkaaPc13
import Derived.Test.YtaclhiagfgmgkaaPc14
import Derived.WalkKit

/-
  Layer 23: WalCanonical.
-/
namespace Go.Proofs.Ytaclhiagfgmgkaa
open Go Go.RowKit SZ
set_option linter.unusedVariables false
set_option linter.unusedSimpArgs false
set_option maxRecDepth 100000
attribute [local irreducible] post GD Nxt NxtAll
theorem record_s (w : World) (e : Et) (hg : e.ok) (hf : fitE e.ver e.ws) (hA : WrAt w e.b e.o e.ws) : Calls Try.prog 12 #[e.v] w fun y w' => ∃ s : Sr, y = .returned s.v ∧ (s.l = recE e.ver e.ws ∧ s.ok ∧ s.at w' ∧ s.l.length ≤ s.c ∧ (s.l.length = 0 ∨ w.heap.size ≤ s.b)) ∧ Below w.heap.size w w' := (record_e w e hg hf hA).mono fun y w' ⟨v, h1, h2, h3⟩ => by
  obtain ⟨s, q1, q2, q3, q4, q5, q6⟩ := sr_of_owns h2
  exact ⟨s, by rw [h1, q2], ⟨q1, q3, q4, q5, by rw [q1]; exact q6⟩, h3⟩
theorem rec_len25 {e : Et} (hf : fitE e.ver e.ws) : (recE e.ver e.ws).length ≤ 25 := by
  cases hv : validB e.ver e.ws with
  | false => rw [recE_bad hv]; exact Nat.zero_le _
  | true => rw [recE_valid hv, recL_len]; exact (recE_many hf hv).2
theorem parA_some {l : (List ByteArray)} {at_ : Int} {v : Int} {ws : Ws} {n : Nat} (h : parA l at_ = some (v, ws, n)) : ∃ k : Nat, at_ = (k : Int) ∧ parseS l k = some (v, ws, n) := by
  unfold parA at h
  split at h
  · cases h
  · exact ⟨at_.toNat, (Int.toNat_of_nonneg (by omega)).symm, h⟩
def wcBad : Prop := True
set_option maxHeartbeats 8000000 in
theorem wcan (w0 : World) (x : Sr) (hx : x.ok) (hc : x.l.length ≤ x.c) (hA : x.at w0) (at_ : Int) : Calls Try.prog 6 #[x.v, .int .i64 at_] w0 fun y w' => y = .returned (.bool true) ∧ Below w0.heap.size w0 w' := by
  refine sy_enterF [] [rfSt x.b x.o x.l] (by intro f hf; simp only [List.mem_singleton] at hf; subst hf; exact hA) Try.func6 rfl rfl fun aa S => ?_
  refine sy_run ⟨0, [1]⟩ 60 S fun bs aa w S => ?_
  refine sy_reg S fun S => ?_
  refine sy_call1 S (sane23 w) (by kernel_rfl) fun aa w hb S => ?_
  refine sy_run ⟨0, [2]⟩ 60 S fun bs aa w S => ?_
  refine sy_reg S fun S => ?_
  refine sy_ops 1 S fun bs aa w S => ?_
  refine sy_call1 S (few_w w x hx (S.fact (f := rfSt x.b x.o x.l) (by simp))) (by kernel_rfl) fun aa w hb S => ?_
  cases hfw : fewL x.l with
  | false =>
    refine sy_cast 11 S (congrArg Value.bool hfw) (by kernel_rfl) fun S => ?_
    refine sy_run ⟨0, []⟩ 60 S fun bs aa w S => ?_
    exact sy_ret S (by kernel_rfl) (by kernel_rfl) fun hg => ⟨rfl, bel_gr hg⟩
  | true =>
    have h40 : x.l.length ≤ 40 := by simp [fewL] at hfw; exact hfw.1
    refine sy_cast 11 S (congrArg Value.bool hfw) (by kernel_rfl) fun S => ?_
    refine sy_run ⟨0, [4]⟩ 60 S fun bs aa w S => ?_
    refine sy_reg S fun S => ?_
    refine sy_ops 2 S fun bs aa w S => ?_
    refine sy_nm S fun bs S => ?_
    have hpar := parse_t w x.l x.a x.c x.b x.o hx hc (by omega) at_ (S.fact (f := rfSt x.b x.o x.l) (by simp))
    have hblk : ∀ j, j < bs.length → bs.getD j 0 < w.heap.size := fun j hj => S.lt hj
    cases hp : parA x.l at_ with
    | none =>
      refine sy_call1 S (hpar.mono fun y w' h => ⟨by have h2 := h.2; rw [hp] at h2; exact h2, h.1⟩) (by kernel_rfl) fun aa w hb S => ?_
      refine sy_run ⟨0, []⟩ 60 S fun bs aa w S => ?_
      exact sy_ret S (by kernel_rfl) (by kernel_rfl) fun hg => ⟨rfl, bel_gr hg⟩
    | some q =>
      obtain ⟨v, ws, n⟩ := q
      obtain ⟨k, rfl, hps⟩ := parA_some hp
      obtain ⟨hfit, hvv, hn, hn1, hkl, hnl, htk⟩ := parse_rec hps
      refine sy_call S (X := Et) (val := fun e => .tuple #[e.v, .int .i64 (n : Int), .int .i64 0]) (C := fun e w' => e.ver = v ∧ e.ws = ws ∧ e.ok ∧ WrAt w' e.b e.o e.ws ∧ (e.ws.length = 0 ∨ w.heap.size ≤ e.b)) (hpar.mono fun y w' h => by
        have h2 := h.2
        rw [hp] at h2
        obtain ⟨e, q1, q2, q3, q4, q5, q6⟩ := h2
        exact ⟨e, q4, ⟨q1, q2, q3, q5, q6⟩, h.1⟩) (by kernel_rfl) fun e aa w1 hC hb S => ?_
      obtain ⟨rfl, rfl, hok, hwr, hfr⟩ := hC
      have S := S.add (rfWr e.b e.o e.ws) hwr (fun i hi hb => by
        obtain ⟨q1, q2⟩ := hb
        have := hblk i hi
        have := hfr.resolve_left q2
        omega)
      obtain rfl := hn
      have h25 := rec_len25 hfit
      refine sy_run ⟨0, [7]⟩ 60 S fun bs aa w S => ?_
      refine sy_reg S fun S => ?_
      refine sy_ops 2 S fun bs aa w S => ?_
      refine sy_cast 39 S (congrArg Value.bool (decide_eq_false (by omega) : decide ((k : Int) < 0) = false)) (by kernel_rfl) fun S => ?_
      refine sy_ops 3 S fun bs aa w S => ?_
      refine sy_cast 42 S (congrArg Value.bool (decide_eq_false (by omega) : decide (((recE e.ver e.ws).length : Int) < 1) = false)) (by kernel_rfl) fun S => ?_
      refine sy_ops 7 S fun bs aa w S => ?_
      refine sy_cast 49 S (congrArg (Value.int .i64) (by rw [IntKind.wrap_i64]; omega : IntKind.i64.wrap ((x.l.length : Int) - (k : Int)) = ((x.l.length - k : Nat) : Int))) (by kernel_rfl) fun S => ?_
      refine sy_ops 1 S fun bs aa w S => ?_
      refine sy_cast 50 S (congrArg Value.bool (decide_eq_false (by omega) : decide (((recE e.ver e.ws).length : Int) > ((x.l.length - k : Nat) : Int)) = false)) (by kernel_rfl) fun S => ?_
      refine sy_run ⟨0, []⟩ 60 S fun bs aa w S => ?_
      have hxa := hx.resolve_left (by omega)
      have hsl : ∀ W, (Instr.sliceAt 28 (.slice x.a x.l.length x.c) (some (.int .i64 (k : Int))) (some (.int .i64 (IntKind.i64.wrap ((k : Int) + ((recE e.ver e.ws).length : Int))))) none).run Try.prog W = .ok (.slice (some ⟨x.b, x.o + k, none⟩) (recE e.ver e.ws).length (x.c - k)) W := fun W => by
        have q := sl_mid 28 9 Try.underlying28 (by kernel_rfl) x.b x.o x.l.length x.c k (k + (recE e.ver e.ws).length) (by omega) (by omega) (by omega) W
        rw [show k + (recE e.ver e.ws).length - k = (recE e.ver e.ws).length by omega] at q
        rw [hxa, show IntKind.i64.wrap ((k : Int) + ((recE e.ver e.ws).length : Int)) = ((k + (recE e.ver e.ws).length : Nat) : Int) by rw [IntKind.wrap_i64]; omega]
        exact q
      have hst : StrAt w x.b (x.o + k) (recE e.ver e.ws) := by rw [← htk]; exact sub_str (S.fact (f := rfSt x.b x.o x.l) (by simp))
      have hxw := (rfSt x.b x.o x.l).lt _ (S.fact (f := rfSt x.b x.o x.l) (by simp)) x.b ⟨rfl, by omega⟩
      have S := S.add (rfSt x.b (x.o + k) (recE e.ver e.ws)) hst (fun i hi hb => by
        obtain ⟨q1, _⟩ := hb
        exact (S.fs (rfSt x.b x.o x.l) (by simp)).2 i hi ⟨q1, by omega⟩)
      letI : KP := ⟨[61]⟩
      letI : HF := ⟨[]⟩
      refine dr_enter [0] (by kernel_rfl) (by kernel_rfl) S (by kernel_rfl) (fun aa w D => ?_) (fun f hf => by cases hf)
      refine dr_ex2 (fun d v c a w h => by cases d <;> exact h) 9 (op := .slice 28 (.tmp 56) (some (.tmp 57)) (some (.tmp 60)) none) (ty := 28) (v := .slice (some ⟨x.b, x.o + k, none⟩) (recE e.ver e.ws).length (x.c - k)) D (by kernel_rfl) (by kernel_rfl) (by kernel_rfl) (by kernel_rfl) (ex_sl (p := .slice x.a x.l.length x.c) (l2 := some (.v (.int .i64 (k : Int)))) (h2 := some (.v (.int .i64 (IntKind.i64.wrap ((k : Int) + ((recE e.ver e.ws).length : Int)))))) (m2 := none) (by kernel_rfl) (by kernel_rfl) (by kernel_rfl) (by kernel_rfl) hsl) fun aa D => ?_
      have hlt := fun j hj => D.S.lt (i := j) hj
      refine dr_call 3 D (by kernel_rfl) (by kernel_rfl) (by kernel_rfl) (X := Sr) (val := Sr.v) (C := fun s w' => s.l = recE e.ver e.ws ∧ s.ok ∧ s.at w' ∧ s.l.length ≤ s.c ∧ (s.l.length = 0 ∨ w.heap.size ≤ s.b)) (f := 12) (args := #[e.v]) (record_s w e hok hfit (D.S.fact (f := rfWr e.b e.o e.ws) (by simp))) (by kernel_rfl) fun s aa w1 hC hb D => ?_
      have D := D.addF (rfSt s.b s.o s.l) hC.2.2.1 (fun j hj hb => by
        obtain ⟨q1, q2⟩ := hb
        have := hlt j hj
        have := hC.2.2.2.2.resolve_left q2
        omega)
      refine dr_call1 10 D (by kernel_rfl) (by kernel_rfl) (by kernel_rfl) (v := .bool true) (f := 11) (args := #[s.v, .slice (some ⟨x.b, x.o + k, none⟩) (recE e.ver e.ws).length (x.c - k)]) (by
        have h := texts_t w1 s ⟨some ⟨x.b, x.o + k, none⟩, x.c - k, x.b, x.o + k, recE e.ver e.ws⟩ hC.2.1 (Or.inr rfl) (by rw [hC.1]; omega) hC.2.2.1 (D.S.fact (f := rfSt x.b (x.o + k) (recE e.ver e.ws)) (by simp))
        rw [decide_eq_true hC.1] at h
        exact h) (by kernel_rfl) fun aa w hb D => ?_
      refine dr_end D (by kernel_rfl) fun S => ?_
      refine sy_run ⟨0, []⟩ 60 S fun bs aa w S => ?_
      exact sy_ret S (by kernel_rfl) (by kernel_rfl) fun hg => ⟨rfl, bel_gr hg⟩
end Go.Proofs.Ytaclhiagfgmgkaa


/-
  Layer 23: torn sectors: the mathematics; stores into a string's bytes.
-/
namespace Go.Proofs.Ytaclhiagfgmgkaa
open Go Go.RowKit SZ
set_option linter.unusedVariables false
set_option linter.unusedSimpArgs false
set_option maxRecDepth 100000
attribute [local irreducible] post GD Nxt NxtAll
def adQ (p q : Nat) (l : List Nat) : Nat × Nat := l.foldl (fun p c => ((p.1 + c) % 65521, (p.2 + (p.1 + c) % 65521) % 65521)) (p, q)
theorem adQ_one (l : List Nat) : ∀ p q, p < 65521 → (adQ p q l).1 = (p + l.sum) % 65521 := by
  induction l with
  | nil => intro p q hp; simp [adQ]; omega
  | cons c l ih =>
    intro p q hp
    have e : adQ p q (c :: l) = adQ ((p + c) % 65521) ((q + (p + c) % 65521) % 65521) l := rfl
    rw [e, ih _ _ (Nat.mod_lt _ (by omega)), List.sum_cons]
    omega
theorem sum_le (l : List Nat) (h : ∀ b ∈ l, b < 256) : l.sum ≤ 255 * l.length := by
  induction l with
  | nil => simp
  | cons c l ih =>
    have h1 := h c (by simp)
    have h2 := ih fun b hb => h b (by simp [hb])
    rw [List.sum_cons, List.length_cons]
    omega
theorem adler_low (l : List Nat) (h : ∀ b ∈ l, b < 256) (hl : l.length = 28) : ¬(adler l % 256 = 0 ∧ adler l / 256 % 256 = 0) := by
  have h1 : (adS l).1 = (1 + l.sum) % 65521 := adQ_one l 1 0 (by omega)
  have h2 := sum_le l h
  have h3 := adS_lt l
  unfold adler
  generalize (adS l).2 = y at *
  generalize (adS l).1 = x at *
  omega
def tornB (s : List Nat) (c : Nat) : List Nat := s.take c ++ List.replicate (32 - c) 0
theorem torn_byte {s : List Nat} (h : ∀ b ∈ s, b < 256) (c : Nat) : ∀ b ∈ tornB s c, b < 256 := by
  intro b hb
  simp only [tornB, List.mem_append, List.mem_replicate] at hb
  rcases hb with hb | ⟨_, rfl⟩
  · exact h b (List.mem_of_mem_take hb)
  · omega
theorem torn_len {s : List Nat} {c : Nat} (h : s.length = 32) (hc : c ≤ 32) : (tornB s c).length = 32 := by simp [tornB]; omega
theorem sec_torn {f f' c : Nat} {p p' : List Nat} (hl : p.length ≤ 27) (hl' : p'.length ≤ 27) (hb' : ∀ b ∈ bodyB f' p', b < 256) (hc : c ≤ 32) (h : tornB (sec f p) c = sec f' p') : sec f' p' = sec f p := by
  have b1 := body_len (f := f) hl
  have b2 := body_len (f := f') hl'
  have s1 := sec_len (f := f) hl
  rcases Nat.lt_or_ge 28 c with hlt | hge
  · have e := congrArg (List.take 28) h
    have e1 : (tornB (sec f p) c).take 28 = bodyB f p := by
      unfold tornB
      rw [List.take_append_of_le_length (by rw [List.length_take]; omega), List.take_take, Nat.min_eq_left (by omega)]
      unfold sec
      rw [List.take_append_of_le_length (by omega), List.take_of_length_le (by omega)]
    have e2 : (sec f' p').take 28 = bodyB f' p' := by
      unfold sec
      rw [List.take_append_of_le_length (by omega), List.take_of_length_le (by omega)]
    rw [e1, e2] at e
    unfold sec
    rw [e]
  · exfalso
    have e := congrArg (List.drop 28) h
    have e1 : (tornB (sec f p) c).drop 28 = [0, 0, 0, 0] := by
      unfold tornB
      rw [List.drop_append, List.drop_of_length_le (by rw [List.length_take]; omega), List.nil_append, List.drop_replicate, List.length_take, Nat.min_eq_left (by omega), show 32 - c - (28 - c) = 4 by omega]
      rfl
    have e2 : (sec f' p').drop 28 = le4 (adler (bodyB f' p')) := by
      unfold sec
      rw [List.drop_append_of_le_length (by omega), List.drop_of_length_le (by omega), List.nil_append]
    rw [e1, e2] at e
    unfold le4 at e
    simp only [List.cons.injEq] at e
    exact adler_low _ hb' b2 ⟨e.1.symm, e.2.1.symm⟩
def cutA (cs : List Nat) (i : Nat) : Nat := if i < cs.length then min (cs.getD i 0) 32 else 32
theorem cutA_le (cs : List Nat) (i : Nat) : cutA cs i ≤ 32 := by unfold cutA; split <;> omega
def tornS (r : (List ByteArray)) (cs : List Nat) (i : Nat) : ByteArray := strOf (tornB (bytesOf (r.getD i ByteArray.empty)) (cutA cs i))
def tornL (r : (List ByteArray)) (cs : List Nat) (n : Nat) : (List ByteArray) := (List.range n).map (tornS r cs)
theorem tornL_succ (r : (List ByteArray)) (cs : List Nat) (n : Nat) : tornL r cs (n + 1) = tornL r cs n ++ [tornS r cs n] := by simp [tornL, List.range_succ]
theorem tornL_len (r : (List ByteArray)) (cs : List Nat) (n : Nat) : (tornL r cs n).length = n := by simp [tornL]
theorem tornL_at (r : (List ByteArray)) (cs : List Nat) (n i : Nat) (hi : i < n) : (tornL r cs n).getD i ByteArray.empty = tornS r cs i := by simp [tornL, List.getD, hi]
def sameI (r : (List ByteArray)) (cs : List Nat) : Nat → Bool
  | 0 => true
  | i + 1 => sameI r cs i && decide (tornS r cs i = r.getD i ByteArray.empty)
theorem sameI_iff (r : (List ByteArray)) (cs : List Nat) : ∀ n, sameI r cs n = true ↔ ∀ i, i < n → tornS r cs i = r.getD i ByteArray.empty
  | 0 => by simp [sameI]
  | n + 1 => by
    simp only [sameI, Bool.and_eq_true, decide_eq_true_eq, sameI_iff r cs n]
    constructor
    · rintro ⟨h1, h2⟩ i hi
      rcases Nat.lt_or_ge i n with q | q
      · exact h1 i q
      · rw [show i = n by omega]; exact h2
    · intro h
      exact ⟨fun i hi => h i (by omega), h n (by omega)⟩
theorem torn_all (r : (List ByteArray)) (cs : List Nat) (h : sameI r cs r.length = true) : tornL r cs r.length = r := eq_upto ByteArray.empty _ _ (by rw [tornL_len]) fun i hi => by
  rw [tornL_len] at hi
  rw [tornL_at r cs _ i hi]
  exact (sameI_iff r cs _).1 h i hi
theorem bytes_inj2 {a b : ByteArray} (h : bytesOf a = bytesOf b) : a = b := by rw [← strOf_bytesOf a, ← strOf_bytesOf b, h]
theorem torn_none {ver : Int} {ws : Ws} (hf : fitE ver ws) (hv : validB ver ws = true) (cs : List Nat) (h : sameI (recE ver ws) cs (recE ver ws).length = false) : parseS (tornL (recE ver ws) cs (recE ver ws).length) 0 = none := by
  cases hp : parseS (tornL (recE ver ws) cs (recE ver ws).length) 0 with
  | none => rfl
  | some x =>
    exfalso
    obtain ⟨v, ws', n⟩ := x
    obtain ⟨h1, h2, hn, h4, h5, h6, h7⟩ := parse_rec hp
    have hm := recE_many hf hv
    have hm' := recE_many h1 h2
    have el := recE_valid hv
    have el' := recE_valid h2
    have hlen : (recE ver ws).length = manyL (payE ver ws) := by rw [el, recL_len]
    have hlen' : n = manyL (payE v ws') := by rw [hn, el', recL_len]
    rw [tornL_len, Nat.sub_zero] at h6
    rw [List.drop_zero] at h7
    have key : ∀ i, i < n → tornS (recE ver ws) cs i = secB (manyL (payE v ws') - 1 - i) (partL (payE v ws') i) ∧ tornS (recE ver ws) cs i = (recE ver ws).getD i ByteArray.empty := by
      intro i hi
      have e1 : tornS (recE ver ws) cs i = (recE v ws').getD i ByteArray.empty := by
        rw [← h7, ← tornL_at _ cs (recE ver ws).length i (by omega)]
        simp [List.getD, List.getElem?_take, hi]
      have e2 : (recE v ws').getD i ByteArray.empty = secB (manyL (payE v ws') - 1 - i) (partL (payE v ws') i) := by rw [el', recL_at _ i (by omega)]
      have e3 : (recE ver ws).getD i ByteArray.empty = secB (manyL (payE ver ws) - 1 - i) (partL (payE ver ws) i) := by rw [el, recL_at _ i (by omega)]
      have p1 := part_byte (pay_byte ver ws) i
      have p2 := part_byte (pay_byte v ws') i
      have q1 := part_le (payE ver ws) i
      have q2 := part_le (payE v ws') i
      refine ⟨e1.trans e2, ?_⟩
      have e4 := congrArg bytesOf (e1.trans e2)
      unfold tornS at e4
      rw [e3, sec_bytes (by omega) p1, sec_bytes (by omega) p2, bytesOf_strOf _ (torn_byte (sec_byte (by omega) p1) _)] at e4
      have e5 := sec_torn q1 q2 (body_byte (by omega) p2) (cutA_le _ _) e4
      rw [e1, e2, e3]
      unfold secB
      rw [e5]
    have k0 := key 0 (by omega)
    have f0 : manyL (payE v ws') - 1 = manyL (payE ver ws) - 1 := by
      have e := k0.1.symm.trans k0.2
      rw [el, recL_at _ 0 (by omega)] at e
      have e2 := congrArg bytesOf e
      rw [sec_bytes (by omega) (part_byte (pay_byte _ _) _), sec_bytes (by omega) (part_byte (pay_byte _ _) _)] at e2
      have e3 := congrArg (fun l => l.getD 0 0) e2
      exact e3
    have : sameI (recE ver ws) cs (recE ver ws).length = true := (sameI_iff _ _ _).2 fun i hi => (key i (by omega)).2
    rw [h] at this
    cases this
/-- A string's bytes as a row of their own (its mark behind). -/
def rfFz (g N : Nat) (cs : List Value) : RF := ⟨fun b => b = g, fun w => w.heap[g]? = some (.cells cs.toArray 5 (N, N + 1)), fun w h b hb => by subst hb; exact (Array.getElem?_eq_some_iff.1 h).1, fun w w' h hb => (hb g rfl).trans h⟩
theorem fz_st {w : World} {g N k : Nat} {cs : List Value} (h : w.heap[g]? = some (.cells cs.toArray 5 (N, N + 1))) (hN : cs.length = N) (hk : k < N) : (storeVar 5 ⟨g, k, none⟩ (.int .u8 0)).run Try.prog w = .ok () (w.setCells g k [.int .u8 0]) ∧ (w.setCells g k [.int .u8 0]).heap[g]? = some (.cells (cs.set k (.int .u8 0)).toArray 5 (N, N + 1)) := by
  have hi : (Try.prog.info? 5).map (·.size) = some 1 := by kernel_rfl
  constructor
  · have hs := run_storeCells_cells (P := Try.prog) g k [Value.int .u8 0] 0 w (fun j hj => by
      have hj0 : j = 0 := by simpa using hj
      subst hj0
      unfold World.cell?
      simp only [h]
      simp [hN, hk]) (fun j hj => by
      have hj0 : j = 0 := by simpa using hj
      subst hj0
      unfold World.frozen?
      simp only [h]
      simp
      omega) (fun x hx => by simp only [List.mem_singleton] at hx; subst hx; rfl)
    simp only [Nat.add_zero] at hs
    have h1 : (Value.int .u8 0).cells.size = 1 := rfl
    have hc : (Value.int .u8 0).cells.toList = [Value.int .u8 0] := rfl
    simp only [storeVar, Sem.run_bind, run_info hi, Result.andThen_ok, h1, hc, ne_eq, not_true_eq_false, if_false, if_true, Sem.run_pure]
    simpa using hs
  · show (w.setCell ⟨g, k, none⟩ (.int .u8 0)).heap[g]? = _
    simp only [World.setCell, Array.getElem?_modify]
    simp [h]
theorem ex_sb2 {s : SS} {bs : List Nat} {w : World} {x : Operand} {p : ByteArray} (hx : s.val x = some (.v (.string p))) (hp : p.size ≤ maxLen) :
    ∀ (o : Oper) (ρ : Operand → Value), o.op = .convert 9 43 x → o.type = 43 → (∀ x y, s.val x = some y → ρ x = den bs y) → ∃ v w', (execOp ρ o).run Try.prog w = .ok (.value v) w' ∧ (∃ (cap : Nat) (Z : List Value), v = .slice (some ⟨w.heap.size, 0, none⟩) p.size cap ∧ p.size ≤ cap ∧ cap ≤ 9223372036854775807 ∧ Z.length = cap - p.size ∧ w'.heap[w.heap.size]? = some (.cells ((bytesOf p).map bV ++ Z).toArray 5 (cap, cap + 1))) ∧ Below w.heap.size w w' := by
  intro o ρ h1 h2 h3
  have e1 : ρ x = .string p := h3 x _ hx
  have hr := run_bytes_of_string (P := Try.prog) w 9 43 5 p Try.underlying9 Try.underlying43 Try.underlying5
  have g1 := grownCap_ge w p.size 0 5
  have g2 := grownCap_le_maxLen w p.size 0 5 hp
  have esz : (bytesRow p (grownCap w p.size 0 5)).size = grownCap w p.size 0 5 := by
    simp [bytesRow]
    show p.size + _ = _
    omega
  have ec : bytesRow p (grownCap w p.size 0 5) = ((bytesOf p).map bV ++ List.replicate (grownCap w p.size 0 5 - p.size) (Value.int .u8 0)).toArray := by
    apply Array.ext'
    simp [bytesRow, bytesOf, bV]
  refine ⟨_, w.drew.alloc (.cells (bytesRow p (grownCap w p.size 0 5)) 5 ((bytesRow p (grownCap w p.size 0 5)).size, (bytesRow p (grownCap w p.size 0 5)).size + 1)), ?_, ⟨grownCap w p.size 0 5, List.replicate (grownCap w p.size 0 5 - p.size) (Value.int .u8 0), rfl, g1, by simpa [maxLen] using g2, by simp, ?_⟩, ?_⟩
  · unfold execOp
    simp only [h1, e1, Sem.run_bind, Sem.run_pure, Result.andThen_ok, hr]
  · have hh := heap_alloc_new w.drew (.cells (bytesRow p (grownCap w p.size 0 5)) 5 ((bytesRow p (grownCap w p.size 0 5)).size, (bytesRow p (grownCap w p.size 0 5)).size + 1))
    rw [esz, ec] at hh
    rw [esz, ec]
    exact hh
  · exact ⟨rfl, rfl, rfl, by simp, fun k hk => heap_alloc_old w.drew _ hk⟩
/-- The bytes while they are cut off. -/
def fzC (s : List Nat) (c k : Nat) (Z : List Value) : List Value := (s.take c ++ List.replicate (k - c) 0 ++ s.drop k).map bV ++ Z
theorem fzC_0 (s : List Nat) (c : Nat) (Z : List Value) : fzC s c c Z = s.map bV ++ Z := by simp [fzC]
theorem fzC_set (s : List Nat) (c k : Nat) (Z : List Value) (hs : s.length = 32) (hc : c ≤ k) (hk : k < 32) : (fzC s c k Z).set k (.int .u8 0) = fzC s c (k + 1) Z := by
  have hl : (s.take c ++ List.replicate (k - c) 0).length = k := by simp; omega
  unfold fzC
  rw [List.drop_eq_getElem_cons (show k < s.length by omega), List.set_append_left _ _ (by simp; omega)]
  congr 1
  have e : Value.int .u8 0 = bV 0 := rfl
  rw [e, ← List.map_set]
  congr 1
  rw [List.set_append_right _ _ (by omega), hl, Nat.sub_self, List.set_cons_zero, show k + 1 - c = (k - c) + 1 by omega, List.replicate_succ', List.append_assoc, List.append_assoc, List.append_assoc]
  rfl
theorem fzC_end (s : List Nat) (c : Nat) (Z : List Value) (hs : s.length = 32) : fzC s c 32 Z = (tornB s c).map bV ++ Z := by
  unfold fzC tornB
  rw [List.drop_of_length_le (by omega), List.append_nil]
end Go.Proofs.Ytaclhiagfgmgkaa


/-
  Layer 23: WalTorn.
-/
namespace Go.Proofs.Ytaclhiagfgmgkaa
open Go Go.RowKit SZ
set_option linter.unusedVariables false
set_option linter.unusedSimpArgs false
set_option maxRecDepth 100000
attribute [local irreducible] post GD Nxt NxtAll
theorem ap_nx {F : List RF} {w : World} {v v' : Value} (hF : ∀ f ∈ F, f.P w) (hap : ∀ f ∈ F, ∀ g, v.ownBlock = some g → ¬f.bl g) (hnn : ∀ g, v'.ownBlock = some g → v.ownBlock = some g ∨ w.heap.size ≤ g) : ∀ f ∈ F, ∀ g, v'.ownBlock = some g → ¬f.bl g := fun f hf g hg hb => (hnn g hg).elim (fun q => hap f hf g q hb) (fun q => by have := f.lt w (hF f hf) g hb; omega)
noncomputable def toC : Cfg := ⟨goZ 200 [0] [.code (bodyOf Try.f7)], ⟨0, [], []⟩⟩
noncomputable def toS (e : Et) (cs : List Nat) (ca : Option Addr) (cc : Nat) (r : Sr) (lv : Value) (sm : Bool) (i : Nat) : SS := ⟨108, [(1, .v (.slice ca cs.length cc)), (2, .p 0 0), (5, .v (.bool true)), (7, .v r.v), (8, .v lv), (9, .v (.bool sm)), (10, .v (.int .i64 (i : Int)))], [⟨24, e.cs⟩]⟩
noncomputable def toS2 (e : Et) (cs : List Nat) (ca : Option Addr) (cc : Nat) (r : Sr) (lv : Value) (sm : Bool) (i c : Nat) : SS := ⟨108, [(1, .v (.slice ca cs.length cc)), (2, .p 0 0), (5, .v (.bool true)), (7, .v r.v), (8, .v lv), (9, .v (.bool sm)), (10, .v (.int .i64 (i : Int))), (11, .v (.int .i64 (c : Int)))], [⟨24, e.cs⟩]⟩
noncomputable def toS3 (e : Et) (cs : List Nat) (ca : Option Addr) (cc : Nat) (r : Sr) (lv : Value) (sm : Bool) (i g cap k : Nat) : SS := ⟨108, [(1, .v (.slice ca cs.length cc)), (2, .p 0 0), (5, .v (.bool true)), (7, .v r.v), (8, .v lv), (9, .v (.bool sm)), (10, .v (.int .i64 (i : Int))), (12, .v (.slice (some ⟨g, 0, none⟩) 32 cap)), (13, .v (.int .i64 (k : Int)))], [⟨24, e.cs⟩]⟩
def goM2 : Nat → Nat → List Nat → List It → List It
  | n + 1, r, ch, .code (.seq x y) :: k => goM2 n r ch (.code x :: .code y :: k)
  | n + 1, r, ch, .code (.block id c) :: k => goM2 n r ch (.code c :: .blk id :: k)
  | n + 1, r + 1, ch, .code (.region _ _ _) :: k => goM2 n r ch k
  | n + 1, r, ch, .code .skip :: k => goM2 n r ch k
  | n + 1, r, ch, .blk _ :: k => goM2 n r ch k
  | n + 1, r, c :: ch, .code (.cond _ x y) :: k => goM2 n r ch (.code (if c = 1 then x else y) :: k)
  | n + 1, r, _ :: ch, .code (.loop _) :: k => goM2 n r ch k
  | _, _, _, k => k
noncomputable def toP (m : Nat) : List It := goM2 200 3 [1, 0] (.code (bodyL toC) :: .rnd m (bodyL toC) :: toC.k.tail)
noncomputable def toI (m : Nat) : Cfg := ⟨goM2 200 5 [1, 0] (.code (bodyL toC) :: .rnd m (bodyL toC) :: toC.k.tail), ⟨0, [], []⟩⟩
set_option maxHeartbeats 8000000 in
theorem ti_s (w0 : World) (e : Et) (hok : e.ok) (hf : fitE e.ver e.ws) (hv : validB e.ver e.ws = true) (cs : List Nat) (hcs : ∀ b ∈ cs, b < 256) (ca : Option Addr) (cc : Nat) (cb co : Nat) (hca : cs.length = 0 ∨ ca = some ⟨cb, co, none⟩) (hcl : cs.length ≤ 9223372036854775807) (r : Sr) (hr : r.ok) (hcr : r.l.length ≤ r.c) (hrl : r.l = recE e.ver e.ws) (m i : Nat) (hi : i < r.l.length) (lv : Value) (sm : Bool) (hap : (∀ f ∈ [rfWr e.b e.o e.ws, rfHB (.slice ca cs.length cc) cs, rfSt r.b r.o r.l], ∀ g, Value.ownBlock lv = some g → ¬f.bl g)) (hsm : sm = sameI r.l cs i) (g cap : Nat) (Z : List Value) (hcap : 32 ≤ cap ∧ cap ≤ 9223372036854775807) (hZ : Z.length = cap - 32) (hgb : w0.heap.size ≤ g) (hgap : ∀ f ∈ [rfWr e.b e.o e.ws, rfHB (.slice ca cs.length cc) cs, rfSt r.b r.o r.l, rfOwn w0.heap.size 9 1 lv (i) ((tornL r.l cs (i)).map Value.string)], ¬f.bl g) (q k : Nat) (hk : k < 32) (hck : cutA cs i ≤ k) (hs32 : (bytesOf (r.l.getD i ByteArray.empty)).length = 32) (ih : ∀ (x0 : Nat) (aa : Act) (w : World) (S : Sy w0 [] [x0] (toS3 e cs ca cc r lv sm i g cap (k + 1)) [rfFz g cap (fzC (bytesOf (r.l.getD i ByteArray.empty)) (cutA cs i) (k + 1) Z), rfWr e.b e.o e.ws, rfHB (.slice ca cs.length cc) cs, rfSt r.b r.o r.l, rfOwn w0.heap.size 9 1 lv (i) ((tornL r.l cs (i)).map Value.string)] aa w), post Try.prog (.rnd (q) (bodyL (toI m)) :: (toI m).k.tail) (bodyPost Try.prog Try.f7 fun y w' => y = .returned (.bool true) ∧ Below w0.heap.size w0 w') .normal aa w) (x0 : Nat) (aa : Act) (w : World) (S : Sy w0 [] [x0] (toS3 e cs ca cc r lv sm i g cap (k)) [rfFz g cap (fzC (bytesOf (r.l.getD i ByteArray.empty)) (cutA cs i) (k) Z), rfWr e.b e.o e.ws, rfHB (.slice ca cs.length cc) cs, rfSt r.b r.o r.l, rfOwn w0.heap.size 9 1 lv (i) ((tornL r.l cs (i)).map Value.string)] aa w) : post Try.prog (.rnd (q + 1) (bodyL (toI m)) :: (toI m).k.tail) (bodyPost Try.prog Try.f7 fun y w' => y = .returned (.bool true) ∧ Below w0.heap.size w0 w') .normal aa w := by
  refine sy_run (c := ⟨(.rnd (q + 1) (bodyL (toI m)) :: (toI m).k.tail), toS3 e cs ca cc r lv sm i g cap k⟩) ⟨0, [16]⟩ 50 S fun bs aa w S => ?_
  refine sy_reg S fun S => ?_
  refine sy_ops 4 S fun bs aa w S => ?_
  refine sy_cast 55 S (congrArg Value.bool (decide_eq_true (by omega) : decide (((k : Nat) : Int) < ((32 : Nat) : Int)) = true)) (by kernel_rfl) fun S => ?_
  refine sy_run ⟨0, [18]⟩ 60 S fun bs aa w S => ?_
  refine sy_reg S fun S => ?_
  refine sy_ops 2 S fun bs aa w S => ?_
  refine sy_ix (b := g) (off := 0) (len := 32) (n := k) (size := 1) (i := (k : Int)) S (by kernel_rfl) rfl hk fun aa S => ?_
  refine sy_nm S fun bs S => ?_
  have hfz := S.fact (f := rfFz g cap (fzC (bytesOf (r.l.getD i ByteArray.empty)) (cutA cs i) k Z)) (by simp)
  have hfa := (S.fs (rfFz g cap (fzC (bytesOf (r.l.getD i ByteArray.empty)) (cutA cs i) k Z)) (by simp)).2
  have hlen : (fzC (bytesOf (r.l.getD i ByteArray.empty)) (cutA cs i) k Z).length = cap := by unfold fzC; simp only [List.length_append, List.length_map, List.length_take, List.length_replicate, List.length_drop, hs32, hZ]; omega
  obtain ⟨hst, hh⟩ := fz_st hfz hlen (show k < cap by omega)
  rw [fzC_set _ _ _ _ hs32 hck hk] at hh
  refine sy_sto (ty := 5) (ad := ⟨g, 0 + k * 1, none⟩) (x := .v (.int .u8 0)) (v := .int .u8 0) S (by kernel_rfl) rfl (by rw [Nat.mul_one, Nat.zero_add]; exact hst) (gb_setC w g _ _) (Or.inr hgb) [rfWr e.b e.o e.ws, rfHB (.slice ca cs.length cc) cs, rfSt r.b r.o r.l, rfOwn w0.heap.size 9 1 lv (i) ((tornL r.l cs (i)).map Value.string)] (fun f hf => ⟨List.mem_cons_of_mem _ hf, hgap f hf⟩) (fun j hj e => hfa j hj e) fun aa S => ?_
  have S := S.add (rfFz g cap (fzC (bytesOf (r.l.getD i ByteArray.empty)) (cutA cs i) (k + 1) Z)) hh (fun j hj hb => hfa j hj hb)
  refine sy_run ⟨0, [17]⟩ 60 S fun bs aa w S => ?_
  refine sy_reg S fun S => ?_
  refine sy_ops 2 S fun bs aa w S => ?_
  refine sy_cast 57 S (congrArg (Value.int .i64) (by rw [IntKind.wrap_i64]; omega : IntKind.i64.wrap ((k : Int) + 1) = ((k + 1 : Nat) : Int))) (by kernel_rfl) fun S => ?_
  refine sy_run ⟨0, [999]⟩ 50 S fun bs aa w S => ?_
  have S2 := S.to [0] (toS3 e cs ca cc r lv sm i g cap (k + 1)) (by kernel_rfl) (by kernel_rfl) (by kernel_rfl) (by kernel_rfl) (by kernel_rfl)
  refine sy_at2 (k' := (.rnd (q) (bodyL (toI m)) :: (toI m).k.tail)) (by kernel_rfl) ?_
  exact ih _ aa w S2
theorem hasB_fz {w : World} {g cap c : Nat} {s : List Nat} {Z : List Value} (h : w.heap[g]? = some (.cells (fzC s c 32 Z).toArray 5 (cap, cap + 1))) (hs : s.length = 32) (hc : c ≤ 32) (hcap : 32 ≤ cap ∧ cap ≤ 9223372036854775807) : HasB w (.slice (some ⟨g, 0, none⟩) 32 cap) (tornB s c) := by
  have hl := torn_len hs hc
  refine ⟨_, _, by rw [hl], ⟨by omega, by omega, hcap.2, fun h => by cases h⟩, Or.inr ⟨g, 0, rfl, fun j hj => ?_⟩⟩
  rw [fzC_end s c Z hs] at h
  unfold World.cell?
  simp only [h]
  have hj2 : j < ((tornB s c).map bV).length := by simpa using hj
  simp [List.getElem?_append_left hj2, bV, List.getD, List.getElem?_eq_getElem hj, Nat.zero_add]
theorem ex_eqW {s : SS} {bs : List Nat} {x y : Operand} {t t' ty : TypeId} {p q : ByteArray} {b : Bool} (hx : s.val x = some (.v (.string p))) (hy : s.val y = some (.v (.string q))) (hb : decide (p = q) = b) :
    ∀ (o : Oper) (ρ : Operand → Value) (W : World), o.op = .binOp .eql t x y t' → o.type = ty → (∀ x y, s.val x = some y → ρ x = den bs y) → (execOp ρ o).run Try.prog W = .ok (.value (.bool b)) W := by
  intro o ρ W h1 h2 h3
  have e1 : ρ x = .string p := h3 x _ hx
  have e2 : ρ y = .string q := h3 y _ hy
  subst hb
  unfold execOp
  simp only [h1, e1, e2, eqGuard, binOp_string_eql, tl_eq, Sem.run_bind, Sem.run_pure, Result.andThen_ok]
  rfl
set_option maxHeartbeats 8000000 in
theorem ti_e (w0 : World) (e : Et) (hok : e.ok) (hf : fitE e.ver e.ws) (hv : validB e.ver e.ws = true) (cs : List Nat) (hcs : ∀ b ∈ cs, b < 256) (ca : Option Addr) (cc : Nat) (cb co : Nat) (hca : cs.length = 0 ∨ ca = some ⟨cb, co, none⟩) (hcl : cs.length ≤ 9223372036854775807) (r : Sr) (hr : r.ok) (hcr : r.l.length ≤ r.c) (hrl : r.l = recE e.ver e.ws) (m i : Nat) (hi : i < r.l.length) (lv : Value) (sm : Bool) (hap : (∀ f ∈ [rfWr e.b e.o e.ws, rfHB (.slice ca cs.length cc) cs, rfSt r.b r.o r.l], ∀ g, Value.ownBlock lv = some g → ¬f.bl g)) (hsm : sm = sameI r.l cs i) (g cap : Nat) (Z : List Value) (hcap : 32 ≤ cap ∧ cap ≤ 9223372036854775807) (hZ : Z.length = cap - 32) (hgb : w0.heap.size ≤ g) (hgap : ∀ f ∈ [rfWr e.b e.o e.ws, rfHB (.slice ca cs.length cc) cs, rfSt r.b r.o r.l, rfOwn w0.heap.size 9 1 lv (i) ((tornL r.l cs (i)).map Value.string)], ¬f.bl g) (hs32 : (bytesOf (r.l.getD i ByteArray.empty)).length = 32) (ih : ∀ (lv : Value) (sm : Bool) (hap : (∀ f ∈ [rfWr e.b e.o e.ws, rfHB (.slice ca cs.length cc) cs, rfSt r.b r.o r.l], ∀ g, Value.ownBlock lv = some g → ¬f.bl g)) (hsm : sm = sameI r.l cs (i + 1)) (x0 : Nat) (aa : Act) (w : World) (S : Sy w0 [] [x0] (toS e cs ca cc r lv sm (i + 1)) [rfWr e.b e.o e.ws, rfHB (.slice ca cs.length cc) cs, rfSt r.b r.o r.l, rfOwn w0.heap.size 9 1 lv (i + 1) ((tornL r.l cs (i + 1)).map Value.string)] aa w), post Try.prog (.rnd (m) (bodyL toC) :: toC.k.tail) (bodyPost Try.prog Try.f7 fun y w' => y = .returned (.bool true) ∧ Below w0.heap.size w0 w') .normal aa w) (q : Nat) (x0 : Nat) (aa : Act) (w : World) (S : Sy w0 [] [x0] (toS3 e cs ca cc r lv sm i g cap (32)) [rfFz g cap (fzC (bytesOf (r.l.getD i ByteArray.empty)) (cutA cs i) (32) Z), rfWr e.b e.o e.ws, rfHB (.slice ca cs.length cc) cs, rfSt r.b r.o r.l, rfOwn w0.heap.size 9 1 lv (i) ((tornL r.l cs (i)).map Value.string)] aa w) : post Try.prog (.rnd (q + 1) (bodyL (toI m)) :: (toI m).k.tail) (bodyPost Try.prog Try.f7 fun y w' => y = .returned (.bool true) ∧ Below w0.heap.size w0 w') .normal aa w := by
  have h25 := rec_len25 hf
  rw [← hrl] at h25
  obtain ⟨ii, hi1, hi2, hi3, hi4⟩ := parts3 infS3
  refine sy_run (c := ⟨(.rnd (q + 1) (bodyL (toI m)) :: (toI m).k.tail), toS3 e cs ca cc r lv sm i g cap 32⟩) ⟨0, [16]⟩ 50 S fun bs aa w S => ?_
  refine sy_reg S fun S => ?_
  refine sy_ops 4 S fun bs aa w S => ?_
  refine sy_cast 55 S (congrArg Value.bool (by decide : decide (((32 : Nat) : Int) < ((32 : Nat) : Int)) = false)) (by kernel_rfl) fun S => ?_
  refine sy_run ⟨0, [19]⟩ 60 S fun bs aa w S => ?_
  refine sy_reg S fun S => ?_
  refine sy_ops 2 S fun bs aa w S => ?_
  have hHB := hasB_fz (S.fact (f := rfFz g cap (fzC (bytesOf (r.l.getD i ByteArray.empty)) (cutA cs i) 32 Z)) (by simp)) hs32 (cutA_le cs i) hcap
  refine sy_exW S (op := .convert 43 9 (.tmp 62)) (ty := 9) (v := .string (tornS r.l cs i)) (by kernel_rfl) (ex_bs (y := .v (.slice (some ⟨g, 0, none⟩) 32 cap)) (by kernel_rfl) rfl (torn_byte (byte_lt _) _) hHB) fun aa S => ?_
  refine sy_ops 1 S fun bs aa w S => ?_
  refine sy_nm S fun bs S => ?_
  have how := S.fact (f := rfOwn w0.heap.size 9 1 lv (i) ((tornL r.l cs (i)).map Value.string)) (by simp)
  have hapb := (S.fs (rfOwn w0.heap.size 9 1 lv (i) ((tornL r.l cs (i)).map Value.string)) (by simp)).2
  have hblk : ∀ j, j < bs.length → bs.getD j 0 < w.heap.size := fun j hj => S.lt hj
  have hFP : ∀ f ∈ [rfWr e.b e.o e.ws, rfHB (.slice ca cs.length cc) cs, rfSt r.b r.o r.l], f.P w := fun f hf => (S.fs f (by simp only [List.mem_cons, List.not_mem_nil, or_false] at hf ⊢; rcases hf with rfl | rfl | rfl <;> simp)).1
  have hlg := hgap (rfOwn w0.heap.size 9 1 lv (i) ((tornL r.l cs (i)).map Value.string)) (by simp)
  refine sy_appO w0.heap.size (u := .v lv) (y := .s 1 0 1 1) (v := lv) (ad := adr bs 1 0) (m := 1) (cp := 1) (n := i) (size := 1) (bytes := 16) (e := 9) (t := 28) (xs := (tornL r.l cs i).map Value.string) (news := [.string (tornS r.l cs i)]) [rfFz g cap (fzC (bytesOf (r.l.getD i ByteArray.empty)) (cutA cs i) 32 Z), rfWr e.b e.o e.ws, rfHB (.slice ca cs.length cc) cs, rfSt r.b r.o r.l] S (by kernel_rfl) Try.underlying28 hi1 hi2 hi3 hi4 rfl (by omega) rfl rfl how S.gr.size (own3 (P := Try.prog) (ty := 9) (cs := [.string (tornS r.l cs i)]) S 1 (by kernel_rfl)) rfl (by intro u hu; simp only [List.mem_singleton] at hu; subst hu; rfl) (by simp only [maxLen]; omega) (by omega)
    (fun g hg => Or.inr (how.lt g hg).1) (fun f hf => by
      rcases List.mem_cons.1 hf with rfl | hf
      · exact ⟨by simp, fun g' hg' hb => hlg (by have e1 : g' = g := hb; rw [← e1]; exact hg')⟩
      · exact ⟨by simp only [List.mem_cons, List.not_mem_nil, or_false] at hf ⊢; rcases hf with rfl | rfl | rfl <;> simp, fun g' hg' hb => hap f hf g' hg' hb⟩) (fun j hj hb => hapb j hj hb)
    fun v' aa w2 hO hg' hnn S => ?_
  have hap' := ap_nx hFP hap hnn
  have S := S.add (rfOwn w0.heap.size 9 1 v' (i + 1) ((tornL r.l cs (i + 1)).map Value.string)) (by rw [tornL_succ, List.map_append]; exact hO) (fun j hj hb => (hnn _ hb).elim (fun q => hapb j hj q) (fun q => by have := hblk j hj; omega))
  cases sm with
  | false =>
    refine sy_run ⟨0, []⟩ 60 S fun bs aa w S => ?_
    letI : HF := ⟨[]⟩
    refine dr_enter [] (by kernel_rfl) (by kernel_rfl) S (by kernel_rfl) (fun aa w D => ?_) (fun f hf => by cases hf)
    refine dr_end D (by kernel_rfl) fun S => ?_
    refine sy_run ⟨0, [10]⟩ 60 S fun bs aa w S => ?_
    refine sy_reg S fun S => ?_
    refine sy_ops 2 S fun bs aa w S => ?_
    refine sy_cast 35 S (congrArg (Value.int .i64) (by rw [IntKind.wrap_i64]; omega : IntKind.i64.wrap ((i : Int) + 1) = ((i + 1 : Nat) : Int))) (by kernel_rfl) fun S => ?_
    refine sy_run ⟨0, [999]⟩ 50 S fun bs aa w S => ?_
    have S := S.sub (F' := [rfWr e.b e.o e.ws, rfHB (.slice ca cs.length cc) cs, rfSt r.b r.o r.l, rfOwn w0.heap.size 9 1 v' (i + 1) ((tornL r.l cs (i + 1)).map Value.string)]) (by intro f hf; simp only [List.mem_cons, List.not_mem_nil, or_false] at hf; rcases hf with rfl | rfl | rfl | rfl <;> simp)
    have S2 := S.to [0] (toS e cs ca cc r v' false (i + 1)) (by kernel_rfl) (by kernel_rfl) (by kernel_rfl) (by kernel_rfl) (by kernel_rfl)
    refine sy_at2 (k' := (.rnd (m) (bodyL toC) :: toC.k.tail)) (by kernel_rfl) ?_
    exact ih v' false hap' (by simp [sameI, ← hsm]) _ aa w S2
  | true =>
    refine sy_run ⟨0, []⟩ 60 S fun bs aa w S => ?_
    by_cases hq : (tornS r.l cs i) = (r.l.getD i ByteArray.empty)
    case neg =>
      letI : KP := ⟨[74]⟩
      letI : HF := ⟨[rfSt r.b r.o r.l]⟩
      refine dr_enter [] (by kernel_rfl) (by kernel_rfl) S (by kernel_rfl) (fun aa w D => ?_) (fun f hf => by have e1 : f = rfSt r.b r.o r.l := List.mem_singleton.1 hf; subst e1; simp)
      refine dr_tix 6 D (by kernel_rfl) (by kernel_rfl) (by kernel_rfl) (b := r.b) (off := r.o) (len := r.l.length) (n := i) (size := 1) (ix := (i : Int)) (by rw [← hr.resolve_left (by omega)]; kernel_rfl) rfl hi fun aa D => ?_
      refine dr_tld 7 D (by kernel_rfl) (by kernel_rfl) (by kernel_rfl) (ty := 9) (ad := ⟨r.b, r.o + i * 1, none⟩) (v := .string (r.l.getD i ByteArray.empty)) (fun W hW => ld_at (by kernel_rfl) (by rw [Nat.mul_one]; exact (show StrAt W r.b r.o r.l from hW (rfSt r.b r.o r.l) (by show _ ∈ [rfSt r.b r.o r.l]; simp)) i hi)) (by kernel_rfl) fun aa D => ?_
      refine dr_any [3] (by kernel_rfl) (by kernel_rfl) rfl (na1 ?_)
      have hHB2 := hasB_fz (D.S.fact (f := rfFz g cap (fzC (bytesOf (r.l.getD i ByteArray.empty)) (cutA cs i) 32 Z)) (by simp)) hs32 (cutA_le cs i) hcap
      refine nx_exB 3 D (by kernel_rfl) (op := .convert 43 9 (.tmp 68)) (ty := 9) (C := fun v _ => v = .string (tornS r.l cs i)) (by kernel_rfl) (fun o ρ h1 h2 h3 => ⟨_, _, ex_bs (y := .v (.slice (some ⟨g, 0, none⟩) 32 cap)) (by kernel_rfl) rfl (torn_byte (byte_lt _) _) hHB2 o ρ h1 h2 h3, rfl, Below.refl _ _⟩) fun v0 aa w2 hC2 hb2 hlt2 D => ?_
      obtain rfl := hC2
      refine dr_ex2 (fun d v c a w h => by cases d <;> exact h) 8 (op := .binOp .eql 9 (.tmp 69) (.tmp 73) 9) (ty := 4) (v := .bool false) D (by kernel_rfl) (by kernel_rfl) (by kernel_rfl) (by kernel_rfl) (ex_eqW (p := (tornS r.l cs i)) (q := (r.l.getD i ByteArray.empty)) (by kernel_rfl) (by kernel_rfl) (decide_eq_false hq)) fun aa D => ?_
      refine dr_end D (by kernel_rfl) fun S => ?_
      refine sy_run ⟨0, [10]⟩ 60 S fun bs aa w S => ?_
      refine sy_reg S fun S => ?_
      refine sy_ops 2 S fun bs aa w S => ?_
      refine sy_cast 35 S (congrArg (Value.int .i64) (by rw [IntKind.wrap_i64]; omega : IntKind.i64.wrap ((i : Int) + 1) = ((i + 1 : Nat) : Int))) (by kernel_rfl) fun S => ?_
      refine sy_run ⟨0, [999]⟩ 50 S fun bs aa w S => ?_
      have S := S.sub (F' := [rfWr e.b e.o e.ws, rfHB (.slice ca cs.length cc) cs, rfSt r.b r.o r.l, rfOwn w0.heap.size 9 1 v' (i + 1) ((tornL r.l cs (i + 1)).map Value.string)]) (by intro f hf; simp only [List.mem_cons, List.not_mem_nil, or_false] at hf; rcases hf with rfl | rfl | rfl | rfl <;> simp)
      have S2 := S.to [0] (toS e cs ca cc r v' false (i + 1)) (by kernel_rfl) (by kernel_rfl) (by kernel_rfl) (by kernel_rfl) (by kernel_rfl)
      refine sy_at2 (k' := (.rnd (m) (bodyL toC) :: toC.k.tail)) (by kernel_rfl) ?_
      exact ih v' false hap' (by show false = (sameI r.l cs i && decide ((tornS r.l cs i) = (r.l.getD i ByteArray.empty))); rw [← hsm, decide_eq_false hq]; rfl) _ aa w S2
    letI : KP := ⟨[74]⟩
    letI : HF := ⟨[rfSt r.b r.o r.l]⟩
    refine dr_enter [] (by kernel_rfl) (by kernel_rfl) S (by kernel_rfl) (fun aa w D => ?_) (fun f hf => by have e1 : f = rfSt r.b r.o r.l := List.mem_singleton.1 hf; subst e1; simp)
    refine dr_tix 6 D (by kernel_rfl) (by kernel_rfl) (by kernel_rfl) (b := r.b) (off := r.o) (len := r.l.length) (n := i) (size := 1) (ix := (i : Int)) (by rw [← hr.resolve_left (by omega)]; kernel_rfl) rfl hi fun aa D => ?_
    refine dr_tld 7 D (by kernel_rfl) (by kernel_rfl) (by kernel_rfl) (ty := 9) (ad := ⟨r.b, r.o + i * 1, none⟩) (v := .string (r.l.getD i ByteArray.empty)) (fun W hW => ld_at (by kernel_rfl) (by rw [Nat.mul_one]; exact (show StrAt W r.b r.o r.l from hW (rfSt r.b r.o r.l) (by show _ ∈ [rfSt r.b r.o r.l]; simp)) i hi)) (by kernel_rfl) fun aa D => ?_
    refine dr_any [3] (by kernel_rfl) (by kernel_rfl) rfl (na1 ?_)
    have hHB2 := hasB_fz (D.S.fact (f := rfFz g cap (fzC (bytesOf (r.l.getD i ByteArray.empty)) (cutA cs i) 32 Z)) (by simp)) hs32 (cutA_le cs i) hcap
    refine nx_exB 3 D (by kernel_rfl) (op := .convert 43 9 (.tmp 68)) (ty := 9) (C := fun v _ => v = .string (tornS r.l cs i)) (by kernel_rfl) (fun o ρ h1 h2 h3 => ⟨_, _, ex_bs (y := .v (.slice (some ⟨g, 0, none⟩) 32 cap)) (by kernel_rfl) rfl (torn_byte (byte_lt _) _) hHB2 o ρ h1 h2 h3, rfl, Below.refl _ _⟩) fun v0 aa w2 hC2 hb2 hlt2 D => ?_
    obtain rfl := hC2
    refine dr_ex2 (fun d v c a w h => by cases d <;> exact h) 8 (op := .binOp .eql 9 (.tmp 69) (.tmp 73) 9) (ty := 4) (v := .bool true) D (by kernel_rfl) (by kernel_rfl) (by kernel_rfl) (by kernel_rfl) (ex_eqW (p := (tornS r.l cs i)) (q := (r.l.getD i ByteArray.empty)) (by kernel_rfl) (by kernel_rfl) (decide_eq_true hq)) fun aa D => ?_
    refine dr_end D (by kernel_rfl) fun S => ?_
    refine sy_run ⟨0, [10]⟩ 60 S fun bs aa w S => ?_
    refine sy_reg S fun S => ?_
    refine sy_ops 2 S fun bs aa w S => ?_
    refine sy_cast 35 S (congrArg (Value.int .i64) (by rw [IntKind.wrap_i64]; omega : IntKind.i64.wrap ((i : Int) + 1) = ((i + 1 : Nat) : Int))) (by kernel_rfl) fun S => ?_
    refine sy_run ⟨0, [999]⟩ 50 S fun bs aa w S => ?_
    have S := S.sub (F' := [rfWr e.b e.o e.ws, rfHB (.slice ca cs.length cc) cs, rfSt r.b r.o r.l, rfOwn w0.heap.size 9 1 v' (i + 1) ((tornL r.l cs (i + 1)).map Value.string)]) (by intro f hf; simp only [List.mem_cons, List.not_mem_nil, or_false] at hf; rcases hf with rfl | rfl | rfl | rfl <;> simp)
    have S2 := S.to [0] (toS e cs ca cc r v' true (i + 1)) (by kernel_rfl) (by kernel_rfl) (by kernel_rfl) (by kernel_rfl) (by kernel_rfl)
    refine sy_at2 (k' := (.rnd (m) (bodyL toC) :: toC.k.tail)) (by kernel_rfl) ?_
    exact ih v' true hap' (by show true = (sameI r.l cs i && decide ((tornS r.l cs i) = (r.l.getD i ByteArray.empty))); rw [← hsm, decide_eq_true hq]; rfl) _ aa w S2
theorem ti_a (w0 : World) (e : Et) (hok : e.ok) (hf : fitE e.ver e.ws) (hv : validB e.ver e.ws = true) (cs : List Nat) (hcs : ∀ b ∈ cs, b < 256) (ca : Option Addr) (cc : Nat) (cb co : Nat) (hca : cs.length = 0 ∨ ca = some ⟨cb, co, none⟩) (hcl : cs.length ≤ 9223372036854775807) (r : Sr) (hr : r.ok) (hcr : r.l.length ≤ r.c) (hrl : r.l = recE e.ver e.ws) (m i : Nat) (hi : i < r.l.length) (lv : Value) (sm : Bool) (hap : (∀ f ∈ [rfWr e.b e.o e.ws, rfHB (.slice ca cs.length cc) cs, rfSt r.b r.o r.l], ∀ g, Value.ownBlock lv = some g → ¬f.bl g)) (hsm : sm = sameI r.l cs i) (g cap : Nat) (Z : List Value) (hcap : 32 ≤ cap ∧ cap ≤ 9223372036854775807) (hZ : Z.length = cap - 32) (hgb : w0.heap.size ≤ g) (hgap : ∀ f ∈ [rfWr e.b e.o e.ws, rfHB (.slice ca cs.length cc) cs, rfSt r.b r.o r.l, rfOwn w0.heap.size 9 1 lv (i) ((tornL r.l cs (i)).map Value.string)], ¬f.bl g) (hs32 : (bytesOf (r.l.getD i ByteArray.empty)).length = 32) (ih : ∀ (lv : Value) (sm : Bool) (hap : (∀ f ∈ [rfWr e.b e.o e.ws, rfHB (.slice ca cs.length cc) cs, rfSt r.b r.o r.l], ∀ g, Value.ownBlock lv = some g → ¬f.bl g)) (hsm : sm = sameI r.l cs (i + 1)) (x0 : Nat) (aa : Act) (w : World) (S : Sy w0 [] [x0] (toS e cs ca cc r lv sm (i + 1)) [rfWr e.b e.o e.ws, rfHB (.slice ca cs.length cc) cs, rfSt r.b r.o r.l, rfOwn w0.heap.size 9 1 lv (i + 1) ((tornL r.l cs (i + 1)).map Value.string)] aa w), post Try.prog (.rnd (m) (bodyL toC) :: toC.k.tail) (bodyPost Try.prog Try.f7 fun y w' => y = .returned (.bool true) ∧ Below w0.heap.size w0 w') .normal aa w) : ∀ (q k : Nat), k + q = 32 → cutA cs i ≤ k → ∀ (x0 : Nat) (aa : Act) (w : World) (S : Sy w0 [] [x0] (toS3 e cs ca cc r lv sm i g cap (k)) [rfFz g cap (fzC (bytesOf (r.l.getD i ByteArray.empty)) (cutA cs i) (k) Z), rfWr e.b e.o e.ws, rfHB (.slice ca cs.length cc) cs, rfSt r.b r.o r.l, rfOwn w0.heap.size 9 1 lv (i) ((tornL r.l cs (i)).map Value.string)] aa w), post Try.prog (.rnd (q + 1) (bodyL (toI m)) :: (toI m).k.tail) (bodyPost Try.prog Try.f7 fun y w' => y = .returned (.bool true) ∧ Below w0.heap.size w0 w') .normal aa w := by
  intro q
  induction q with
  | zero => intro k hk hck x0 aa w S; obtain rfl : k = 32 := by omega
            exact ti_e w0 e hok hf hv cs hcs ca cc cb co hca hcl r hr hcr hrl m i hi lv sm hap hsm g cap Z hcap hZ hgb hgap hs32 ih 0 x0 aa w S
  | succ q ihq => intro k hk hck x0 aa w S; exact ti_s w0 e hok hf hv cs hcs ca cc cb co hca hcl r hr hcr hrl m i hi lv sm hap hsm g cap Z hcap hZ hgb hgap (q + 1) k (by omega) hck hs32 (ihq (k + 1) (by omega) (by omega)) x0 aa w S
theorem at_of5 {w : World} {B : Nat} {z : Sr} {R : List ByteArray} (h : w.ownsRow B 9 1 z.v R.length (R.map Value.string)) (hz : z.l = R) (hok : z.ok) : z.at w := fun j hj => by
  obtain ⟨s, q1, q2, q3, q4, _, _⟩ := sr_of_owns h
  have hl : z.l.length ≠ 0 := by omega
  have e1 := hok.resolve_left hl
  have e2 := q3.resolve_left (by rw [q1, ← hz]; exact hl)
  have e3 : some (⟨z.b, z.o, none⟩ : Addr) = some ⟨s.b, s.o, none⟩ := by
    rw [← e1, ← e2]
    have := congrArg (fun v => match v with | Value.slice a _ _ => a | _ => none) q2
    exact this
  simp only [Option.some.injEq, Addr.mk.injEq] at e3
  rw [e3.1, e3.2.1, hz]
  have := q4 j (by rw [q1, ← hz]; exact hj)
  rw [q1] at this
  exact this
theorem hb_cell {w : World} {ca : Option Addr} {n cc cb co : Nat} {cs : List Nat} (h : HasB w (.slice ca n cc) cs) (hca : ca = some ⟨cb, co, none⟩) (j : Nat) (hj : j < cs.length) : w.cell? ⟨cb, co + j, none⟩ = some (.int .u8 ((cs.getD j 0 : Nat) : Int)) := by
  obtain ⟨a', c', he, _, h⟩ := h
  obtain ⟨b', o', rfl, hq⟩ := h.resolve_left (by omega)
  simp only [Value.slice.injEq] at he
  rw [hca] at he
  simp only [Option.some.injEq, Addr.mk.injEq] at he
  obtain ⟨⟨rfl, rfl, _⟩, _, _⟩ := he
  exact hq j hj
set_option maxHeartbeats 8000000 in
theorem tn_2 (w0 : World) (e : Et) (hok : e.ok) (hf : fitE e.ver e.ws) (hv : validB e.ver e.ws = true) (cs : List Nat) (hcs : ∀ b ∈ cs, b < 256) (ca : Option Addr) (cc : Nat) (cb co : Nat) (hca : cs.length = 0 ∨ ca = some ⟨cb, co, none⟩) (hcl : cs.length ≤ 9223372036854775807) (r : Sr) (hr : r.ok) (hcr : r.l.length ≤ r.c) (hrl : r.l = recE e.ver e.ws) (m i : Nat) (hi : i < r.l.length) (lv : Value) (sm : Bool) (hap : (∀ f ∈ [rfWr e.b e.o e.ws, rfHB (.slice ca cs.length cc) cs, rfSt r.b r.o r.l], ∀ g, Value.ownBlock lv = some g → ¬f.bl g)) (hsm : sm = sameI r.l cs i) (ih : ∀ (lv : Value) (sm : Bool) (hap : (∀ f ∈ [rfWr e.b e.o e.ws, rfHB (.slice ca cs.length cc) cs, rfSt r.b r.o r.l], ∀ g, Value.ownBlock lv = some g → ¬f.bl g)) (hsm : sm = sameI r.l cs (i + 1)) (x0 : Nat) (aa : Act) (w : World) (S : Sy w0 [] [x0] (toS e cs ca cc r lv sm (i + 1)) [rfWr e.b e.o e.ws, rfHB (.slice ca cs.length cc) cs, rfSt r.b r.o r.l, rfOwn w0.heap.size 9 1 lv (i + 1) ((tornL r.l cs (i + 1)).map Value.string)] aa w), post Try.prog (.rnd (m) (bodyL toC) :: toC.k.tail) (bodyPost Try.prog Try.f7 fun y w' => y = .returned (.bool true) ∧ Below w0.heap.size w0 w') .normal aa w) (x0 : Nat) (aa : Act) (w : World) (S : Sy w0 [] [x0] (toS2 e cs ca cc r lv sm i (cutA cs i)) [rfWr e.b e.o e.ws, rfHB (.slice ca cs.length cc) cs, rfSt r.b r.o r.l, rfOwn w0.heap.size 9 1 lv (i) ((tornL r.l cs (i)).map Value.string)] aa w) : post Try.prog (toP m) (bodyPost Try.prog Try.f7 fun y w' => y = .returned (.bool true) ∧ Below w0.heap.size w0 w') .normal aa w := by
  have hsz : (r.l.getD i ByteArray.empty).size = 32 := by have q := recE_sizes hf; rw [← hrl] at q; exact q _ (getD_mem r.l i ByteArray.empty hi)
  have hs32 : (bytesOf (r.l.getD i ByteArray.empty)).length = 32 := by rw [bytesOf_length]; exact hsz
  have hc32 := cutA_le cs i
  refine sy_run (c := ⟨toP m, toS2 e cs ca cc r lv sm i (cutA cs i)⟩) ⟨0, [14]⟩ 50 S fun bs aa w S => ?_
  refine sy_reg S fun S => ?_
  refine sy_ops 2 S fun bs aa w S => ?_
  refine sy_ix (b := r.b) (off := r.o) (len := r.l.length) (n := i) (size := 1) (i := (i : Int)) S (by rw [← hr.resolve_left (by omega)]; kernel_rfl) rfl hi fun aa S => ?_
  refine sy_ldo S (ld_at (ty := 9) (b := r.b) (off := r.o + i * 1) (by kernel_rfl) (by rw [Nat.mul_one]; exact S.fact (f := rfSt r.b r.o r.l) (by simp) i hi)) (by kernel_rfl) fun aa S => ?_
  refine sy_nm S fun bs S => ?_
  have hblk : ∀ j, j < bs.length → bs.getD j 0 < w.heap.size := fun j hj => S.lt hj
  obtain ⟨g, hgd⟩ : ∃ g, g = w.heap.size := ⟨_, rfl⟩
  have hgs : w0.heap.size ≤ g := by rw [hgd]; exact S.gr.size
  have hgap : ∀ f ∈ [rfWr e.b e.o e.ws, rfHB (.slice ca cs.length cc) cs, rfSt r.b r.o r.l, rfOwn w0.heap.size 9 1 lv (i) ((tornL r.l cs (i)).map Value.string)], ¬f.bl g := fun f hf hb => by
    have := f.lt w (S.fs f hf).1 _ hb
    omega
  refine sy_exB S (by kernel_rfl) (fun o ρ h1 h2 h3 => ex_sb2 (x := .tmp 49) (p := (r.l.getD i ByteArray.empty)) (by kernel_rfl) (by rw [hsz]; decide) o ρ h1 h2 h3) fun v aa w' hC hb S => ?_
  obtain ⟨cap, Z, hv0, hc1, hc2, hZ, hh⟩ := hC
  rw [← hgd] at hv0 hh
  subst hv0
  rw [hsz] at hc1 hZ
  rw [← fzC_0 _ (cutA cs i) Z] at hh
  have S := S.add (rfFz g cap (fzC (bytesOf (r.l.getD i ByteArray.empty)) (cutA cs i) (cutA cs i) Z)) hh (fun j hj hb => by
    have e1 : bs.getD j 0 = g := hb
    have := hblk j hj
    omega)
  refine sy_cast 50 S (congrArg (fun n => Value.slice (some ⟨g, 0, none⟩) n cap) hsz) (by kernel_rfl) fun S => ?_
  refine sy_run ⟨0, []⟩ 60 S fun bs aa w S => ?_
  have S2 := S.to [0] (toS3 e cs ca cc r lv sm i g cap (cutA cs i)) (by kernel_rfl) (by kernel_rfl) (by kernel_rfl) (by kernel_rfl) (by kernel_rfl)
  refine sy_loop (32 - cutA cs i + 1) (by kernel_rfl) ?_
  refine sy_at2 (k' := (.rnd (32 - cutA cs i + 1) (bodyL (toI m)) :: (toI m).k.tail)) (by kernel_rfl) ?_
  exact ti_a w0 e hok hf hv cs hcs ca cc cb co hca hcl r hr hcr hrl m i hi lv sm hap hsm g cap Z ⟨hc1, hc2⟩ hZ hgs hgap hs32 ih (32 - cutA cs i) (cutA cs i) (by omega) (Nat.le_refl _) _ aa _ S2
set_option maxHeartbeats 8000000 in
theorem tn_s (w0 : World) (e : Et) (hok : e.ok) (hf : fitE e.ver e.ws) (hv : validB e.ver e.ws = true) (cs : List Nat) (hcs : ∀ b ∈ cs, b < 256) (ca : Option Addr) (cc : Nat) (cb co : Nat) (hca : cs.length = 0 ∨ ca = some ⟨cb, co, none⟩) (hcl : cs.length ≤ 9223372036854775807) (r : Sr) (hr : r.ok) (hcr : r.l.length ≤ r.c) (hrl : r.l = recE e.ver e.ws) (m i : Nat) (hi : i < r.l.length) (lv : Value) (sm : Bool) (hap : (∀ f ∈ [rfWr e.b e.o e.ws, rfHB (.slice ca cs.length cc) cs, rfSt r.b r.o r.l], ∀ g, Value.ownBlock lv = some g → ¬f.bl g)) (hsm : sm = sameI r.l cs i) (ih : ∀ (lv : Value) (sm : Bool) (hap : (∀ f ∈ [rfWr e.b e.o e.ws, rfHB (.slice ca cs.length cc) cs, rfSt r.b r.o r.l], ∀ g, Value.ownBlock lv = some g → ¬f.bl g)) (hsm : sm = sameI r.l cs (i + 1)) (x0 : Nat) (aa : Act) (w : World) (S : Sy w0 [] [x0] (toS e cs ca cc r lv sm (i + 1)) [rfWr e.b e.o e.ws, rfHB (.slice ca cs.length cc) cs, rfSt r.b r.o r.l, rfOwn w0.heap.size 9 1 lv (i + 1) ((tornL r.l cs (i + 1)).map Value.string)] aa w), post Try.prog (.rnd (m) (bodyL toC) :: toC.k.tail) (bodyPost Try.prog Try.f7 fun y w' => y = .returned (.bool true) ∧ Below w0.heap.size w0 w') .normal aa w) (x0 : Nat) (aa : Act) (w : World) (S : Sy w0 [] [x0] (toS e cs ca cc r lv sm (i)) [rfWr e.b e.o e.ws, rfHB (.slice ca cs.length cc) cs, rfSt r.b r.o r.l, rfOwn w0.heap.size 9 1 lv (i) ((tornL r.l cs (i)).map Value.string)] aa w) : post Try.prog (.rnd (m + 1) (bodyL toC) :: toC.k.tail) (bodyPost Try.prog Try.f7 fun y w' => y = .returned (.bool true) ∧ Below w0.heap.size w0 w') .normal aa w := by
  refine sy_run (c := ⟨(.rnd (m + 1) (bodyL toC) :: toC.k.tail), toS e cs ca cc r lv sm i⟩) ⟨0, [9]⟩ 50 S fun bs aa w S => ?_
  refine sy_reg S fun S => ?_
  refine sy_ops 4 S fun bs aa w S => ?_
  refine sy_cast 33 S (congrArg Value.bool (decide_eq_true (by omega) : decide ((i : Int) < (r.l.length : Int)) = true)) (by kernel_rfl) fun S => ?_
  refine sy_run ⟨0, [12]⟩ 60 S fun bs aa w S => ?_
  refine sy_reg S fun S => ?_
  refine sy_ops 4 S fun bs aa w S => ?_
  by_cases hc : i < cs.length
  case neg =>
    have ec : cutA cs i = 32 := by unfold cutA; rw [if_neg hc]
    refine sy_cast 39 S (congrArg Value.bool (decide_eq_false (by omega) : decide ((i : Int) < (cs.length : Int)) = false)) (by kernel_rfl) fun S => ?_
    refine sy_run ⟨0, [14]⟩ 60 S fun bs aa w S => ?_
    have S2 := S.to [0] (toS2 e cs ca cc r lv sm i 32) (by kernel_rfl) (by kernel_rfl) (by kernel_rfl) (by kernel_rfl) (by kernel_rfl)
    rw [← ec] at S2
    refine sy_at2 (k' := toP m) (by kernel_rfl) ?_
    exact tn_2 w0 e hok hf hv cs hcs ca cc cb co hca hcl r hr hcr hrl m i hi lv sm hap hsm ih _ aa w S2
  refine sy_cast 39 S (congrArg Value.bool (decide_eq_true (by omega) : decide ((i : Int) < (cs.length : Int)) = true)) (by kernel_rfl) fun S => ?_
  have hb256 := hcs _ (getD_mem cs i 0 hc)
  refine sy_run ⟨0, [13]⟩ 60 S fun bs aa w S => ?_
  refine sy_reg S fun S => ?_
  refine sy_ops 2 S fun bs aa w S => ?_
  refine sy_ix (b := cb) (off := co) (len := cs.length) (n := i) (size := 1) (i := (i : Int)) S (by rw [← hca.resolve_left (by omega)]; kernel_rfl) rfl hc fun aa S => ?_
  refine sy_ldo S (ld_at (ty := 5) (b := cb) (off := co + i * 1) (by kernel_rfl) (by rw [Nat.mul_one]; exact hb_cell (S.fact (f := rfHB (.slice ca cs.length cc) cs) (by simp)) (hca.resolve_left (by omega)) i hc)) (by kernel_rfl) fun aa S => ?_
  refine sy_ops 1 S fun bs aa w S => ?_
  refine sy_ex (op := .call { callee := .builtin .min, args := #[.tmp 44, .const (.int .i64 32)], argTypes := #[3, 3] }) (ty := 3) (v := .int .i64 ((cutA cs i : Nat) : Int)) S (by kernel_rfl) (ex_min (p := IntKind.i64.wrap ((cs.getD i 0 : Nat) : Int)) (q := 32) (by kernel_rfl) (by kernel_rfl) (by rw [IntKind.wrap_i64]; unfold cutA; rw [if_pos hc]; split <;> omega)) fun aa S => ?_
  refine sy_run ⟨0, [14]⟩ 60 S fun bs aa w S => ?_
  have S2 := S.to [0] (toS2 e cs ca cc r lv sm i (cutA cs i)) (by kernel_rfl) (by kernel_rfl) (by kernel_rfl) (by kernel_rfl) (by kernel_rfl)
  refine sy_at2 (k' := toP m) (by kernel_rfl) ?_
  exact tn_2 w0 e hok hf hv cs hcs ca cc cb co hca hcl r hr hcr hrl m i hi lv sm hap hsm ih _ aa w S2
set_option maxHeartbeats 8000000 in
theorem tn_e (w0 : World) (e : Et) (hok : e.ok) (hf : fitE e.ver e.ws) (hv : validB e.ver e.ws = true) (cs : List Nat) (hcs : ∀ b ∈ cs, b < 256) (ca : Option Addr) (cc : Nat) (cb co : Nat) (hca : cs.length = 0 ∨ ca = some ⟨cb, co, none⟩) (hcl : cs.length ≤ 9223372036854775807) (r : Sr) (hr : r.ok) (hcr : r.l.length ≤ r.c) (hrl : r.l = recE e.ver e.ws) (m : Nat) (lv : Value) (sm : Bool) (hsm : sm = sameI r.l cs r.l.length) (x0 : Nat) (aa : Act) (w : World) (S : Sy w0 [] [x0] (toS e cs ca cc r lv sm (r.l.length)) [rfWr e.b e.o e.ws, rfHB (.slice ca cs.length cc) cs, rfSt r.b r.o r.l, rfOwn w0.heap.size 9 1 lv (r.l.length) ((tornL r.l cs (r.l.length)).map Value.string)] aa w) : post Try.prog (.rnd (m + 1) (bodyL toC) :: toC.k.tail) (bodyPost Try.prog Try.f7 fun y w' => y = .returned (.bool true) ∧ Below w0.heap.size w0 w') .normal aa w := by
  have h25 := rec_len25 hf
  have hm := recE_many hf hv
  have hml : (recE e.ver e.ws).length = manyL (payE e.ver e.ws) := by rw [recE_valid hv, recL_len]
  rw [← hrl] at h25 hml
  have how := S.fact (f := rfOwn w0.heap.size 9 1 lv (r.l.length) ((tornL r.l cs (r.l.length)).map Value.string)) (by simp)
  have how2 : w.ownsRow w0.heap.size 9 1 lv (tornL r.l cs r.l.length).length ((tornL r.l cs r.l.length).map Value.string) := by rw [tornL_len]; exact how
  obtain ⟨z, hz1, rfl, hz2, hz3, hz4, hz5⟩ := sr_of_owns how2
  refine sy_run (c := ⟨(.rnd (m + 1) (bodyL toC) :: toC.k.tail), toS e cs ca cc r z.v sm r.l.length⟩) ⟨0, [9]⟩ 50 S fun bs aa w S => ?_
  refine sy_reg S fun S => ?_
  refine sy_ops 4 S fun bs aa w S => ?_
  refine sy_cast 33 S (congrArg Value.bool (decide_eq_false (by omega) : decide ((r.l.length : Int) < (r.l.length : Int)) = false)) (by kernel_rfl) fun S => ?_
  refine sy_run ⟨0, [21]⟩ 60 S fun bs aa w S => ?_
  refine sy_reg S fun S => ?_
  refine sy_ops 1 S fun bs aa w S => ?_
  refine sy_nm S fun bs S => ?_
  have how4 := S.fact (f := rfOwn w0.heap.size 9 1 z.v (r.l.length) ((tornL r.l cs (r.l.length)).map Value.string)) (by simp)
  have how5 : w.ownsRow w0.heap.size 9 1 z.v (tornL r.l cs r.l.length).length ((tornL r.l cs r.l.length).map Value.string) := by rw [tornL_len]; exact how4
  have hzat : z.at w := at_of5 how5 hz1 hz2
  have hzl : z.l.length = r.l.length := by rw [hz1, tornL_len]
  have hblp : ∀ j, j < bs.length → bs.getD j 0 < w.heap.size := fun j hj => S.lt hj
  have hpt := parse_t w z.l z.a z.c z.b z.o hz2 hz4 (by omega) 0 hzat
  rw [show parA z.l 0 = parseS z.l 0 from rfl] at hpt
  cases sm with
  | false =>
    have hpar : parseS z.l 0 = none := by rw [hz1, hrl]; exact torn_none hf hv cs (by rw [← hrl]; exact hsm.symm)
    refine sy_call1 S (args := #[z.v, .int .i64 0]) (hpt.mono fun y w' h => ⟨by have h2 := h.2; rw [hpar] at h2; exact h2, h.1⟩) (by kernel_rfl) fun aa w hb S => ?_
    refine sy_run ⟨0, []⟩ 60 S fun bs aa w S => ?_
    exact sy_ret S (by kernel_rfl) (by kernel_rfl) fun hg => ⟨rfl, bel_gr hg⟩
  | true =>
    have hpar : parseS z.l 0 = some (e.ver, e.ws, r.l.length) := by
      rw [hz1, torn_all r.l cs hsm.symm, hrl]
      exact rec_parse hf hv (by rw [← hrl]; omega) (by rw [List.drop_zero]; exact List.take_length)
    refine sy_call S (X := Et) (val := fun e => .tuple #[e.v, .int .i64 (r.l.length : Int), .int .i64 0]) (C := fun q w' => q.ver = e.ver ∧ q.ws = e.ws ∧ q.ok ∧ WrAt w' q.b q.o q.ws ∧ (q.ws.length = 0 ∨ w.heap.size ≤ q.b)) (args := #[z.v, .int .i64 0]) (hpt.mono fun y w' h => by
      have h2 := h.2
      rw [hpar] at h2
      obtain ⟨q, q1, q2, q3, q4, q5, q6⟩ := h2
      exact ⟨q, q4, ⟨q1, q2, q3, q5, q6⟩, h.1⟩) (by kernel_rfl) fun q aa w1 hC hb S => ?_
    obtain ⟨hq1, hq2, hqo, hqw, hqf⟩ := hC
    have S := S.add (rfWr q.b q.o q.ws) hqw (fun i hi hb => by
      obtain ⟨q1, q2⟩ := hb
      have := hblp i hi
      have := hqf.resolve_left q2
      omega)
    refine sy_run ⟨0, [23]⟩ 60 S fun bs aa w S => ?_
    refine sy_reg S fun S => ?_
    refine sy_ops 10 S fun bs aa w S => ?_
    refine sy_cast 92 S (congrArg Value.bool (decide_eq_true rfl : decide ((r.l.length : Int) = (r.l.length : Int)) = true)) (by kernel_rfl) fun S => ?_
    refine sy_ops 4 S fun bs aa w S => ?_
    have h32 := valid_len hv
    refine sy_call1 S (v := .bool true) (by
      have h := one_t _ q e hqo hok (by rw [hq2]; omega) (S.fact (f := rfWr q.b q.o q.ws) (by simp)) (S.fact (f := rfWr e.b e.o e.ws) (by simp))
      rw [decide_eq_true ⟨hq1, hq2⟩] at h
      exact h) (by kernel_rfl) fun aa w hb S => ?_
    refine sy_run ⟨0, []⟩ 60 S fun bs aa w S => ?_
    exact sy_ret S (by kernel_rfl) (by kernel_rfl) fun hg => ⟨rfl, bel_gr hg⟩
theorem tn_a (w0 : World) (e : Et) (hok : e.ok) (hf : fitE e.ver e.ws) (hv : validB e.ver e.ws = true) (cs : List Nat) (hcs : ∀ b ∈ cs, b < 256) (ca : Option Addr) (cc : Nat) (cb co : Nat) (hca : cs.length = 0 ∨ ca = some ⟨cb, co, none⟩) (hcl : cs.length ≤ 9223372036854775807) (r : Sr) (hr : r.ok) (hcr : r.l.length ≤ r.c) (hrl : r.l = recE e.ver e.ws) : ∀ (m i : Nat), i + m = r.l.length → ∀ (lv : Value) (sm : Bool) (hap : (∀ f ∈ [rfWr e.b e.o e.ws, rfHB (.slice ca cs.length cc) cs, rfSt r.b r.o r.l], ∀ g, Value.ownBlock lv = some g → ¬f.bl g)) (hsm : sm = sameI r.l cs i) (x0 : Nat) (aa : Act) (w : World) (S : Sy w0 [] [x0] (toS e cs ca cc r lv sm (i)) [rfWr e.b e.o e.ws, rfHB (.slice ca cs.length cc) cs, rfSt r.b r.o r.l, rfOwn w0.heap.size 9 1 lv (i) ((tornL r.l cs (i)).map Value.string)] aa w), post Try.prog (.rnd (m + 1) (bodyL toC) :: toC.k.tail) (bodyPost Try.prog Try.f7 fun y w' => y = .returned (.bool true) ∧ Below w0.heap.size w0 w') .normal aa w := by
  intro m
  induction m with
  | zero => intro i hi lv sm hap hsm x0 aa w S; obtain rfl : i = r.l.length := by omega
            exact tn_e w0 e hok hf hv cs hcs ca cc cb co hca hcl r hr hcr hrl 0 lv sm hsm x0 aa w S
  | succ m ih => intro i hi lv sm hap hsm x0 aa w S; exact tn_s w0 e hok hf hv cs hcs ca cc cb co hca hcl r hr hcr hrl (m + 1) i (by omega) lv sm hap hsm (fun lv sm hap hsm => ih (i + 1) (by omega) lv sm hap hsm) x0 aa w S
set_option maxHeartbeats 8000000 in
theorem wtorn (w0 : World) (e : Et) (hok : e.ok) (hf : fitE e.ver e.ws) (hwr : WrAt w0 e.b e.o e.ws) (v : Value) (cs : List Nat) (hHB : HasB w0 v cs) (hcs : ∀ b ∈ cs, b < 256) : Calls Try.prog 7 #[e.v, v] w0 fun y w' => y = .returned (.bool true) ∧ Below w0.heap.size w0 w' := by
  obtain ⟨ca, cc, rfl, ⟨hcl, _⟩, hcell⟩ := id hHB
  obtain ⟨cb, co, hca⟩ : ∃ cb co, cs.length = 0 ∨ ca = some ⟨cb, co, none⟩ := by
    rcases hcell with h | ⟨b, o, h, _⟩
    · exact ⟨0, 0, Or.inl h⟩
    · exact ⟨b, o, Or.inr h⟩
  refine sy_enterF [] [rfWr e.b e.o e.ws, rfHB (.slice ca cs.length cc) cs] (by intro f hf; simp only [List.mem_cons, List.not_mem_nil, or_false] at hf; rcases hf with rfl | rfl; exact hwr; exact hHB) Try.func7 rfl rfl fun aa S => ?_
  refine sy_run ⟨0, [1]⟩ 60 S fun bs aa w S => ?_
  refine sy_reg S fun S => ?_
  refine sy_call1 S (sane23 w) (by kernel_rfl) fun aa w hb S => ?_
  refine sy_run ⟨0, [2]⟩ 60 S fun bs aa w S => ?_
  refine sy_reg S fun S => ?_
  refine sy_ops 1 S fun bs aa w S => ?_
  refine sy_call1 S (rValid_e w e hok (S.fact (f := rfWr e.b e.o e.ws) (by simp))) (by kernel_rfl) fun aa w hb S => ?_
  rcases Bool.eq_false_or_eq_true (validB e.ver e.ws) with hv | hv
  rotate_left
  · refine sy_cast 19 S (congrArg Value.bool hv) (by kernel_rfl) fun S => ?_
    refine sy_run ⟨0, [3]⟩ 60 S fun bs aa w S => ?_
    refine sy_reg S fun S => ?_
    refine sy_ops 1 S fun bs aa w S => ?_
    refine sy_call1 S (short_w w e) (by kernel_rfl) fun aa w hb S => ?_
    by_cases h40 : e.ws.length ≤ 40
    · refine sy_cast 21 S (congrArg Value.bool (decide_eq_true h40)) (by kernel_rfl) fun S => ?_
      refine sy_run ⟨0, []⟩ 60 S fun bs aa w S => ?_
      exact sy_ret S (by kernel_rfl) (by kernel_rfl) fun hg => ⟨rfl, bel_gr hg⟩
    · refine sy_cast 21 S (congrArg Value.bool (decide_eq_false h40)) (by kernel_rfl) fun S => ?_
      refine sy_run ⟨0, []⟩ 60 S fun bs aa w S => ?_
      exact sy_ret S (by kernel_rfl) (by kernel_rfl) fun hg => ⟨rfl, bel_gr hg⟩
  · have h32 := valid_len hv
    refine sy_cast 19 S (congrArg Value.bool hv) (by kernel_rfl) fun S => ?_
    refine sy_run ⟨0, [3]⟩ 60 S fun bs aa w S => ?_
    refine sy_reg S fun S => ?_
    refine sy_ops 1 S fun bs aa w S => ?_
    refine sy_call1 S (short_w w e) (by kernel_rfl) fun aa w hb S => ?_
    refine sy_cast 21 S (congrArg Value.bool (decide_eq_true (by omega) : decide (e.ws.length ≤ 40) = true)) (by kernel_rfl) fun S => ?_
    refine sy_run ⟨0, [5]⟩ 60 S fun bs aa w S => ?_
    refine sy_reg S fun S => ?_
    refine sy_ops 1 S fun bs aa w S => ?_
    refine sy_nm S fun bs S => ?_
    have hbl : ∀ j, j < bs.length → bs.getD j 0 < w.heap.size := fun j hj => S.lt hj
    refine sy_call S (X := Sr) (val := Sr.v) (C := fun s w' => s.l = recE e.ver e.ws ∧ s.ok ∧ s.at w' ∧ s.l.length ≤ s.c ∧ (s.l.length = 0 ∨ w.heap.size ≤ s.b)) (record_s w e hok hf (S.fact (f := rfWr e.b e.o e.ws) (by simp))) (by kernel_rfl) fun r aa w1 hC hb S => ?_
    obtain ⟨hrl, hr, har, hcr, hrf⟩ := hC
    have S := S.add (rfSt r.b r.o r.l) har (fun j hj hb => by
      obtain ⟨q1, q2⟩ := hb
      have := hbl j hj
      have := hrf.resolve_left q2
      omega)
    refine sy_run ⟨0, []⟩ 60 S fun bs aa w S => ?_
    have S := S.add (rfOwn w0.heap.size 9 1 (.slice none 0 0) (0) ((tornL r.l cs (0)).map Value.string)) (World.ownsRow_nil _ _ _ _) (fun i hi h => by cases h)
    have S := S.sub (F' := [rfWr e.b e.o e.ws, rfHB (.slice ca cs.length cc) cs, rfSt r.b r.o r.l, rfOwn w0.heap.size 9 1 (.slice none 0 0) (0) ((tornL r.l cs (0)).map Value.string)]) (by intro f hf; simp only [List.mem_cons, List.not_mem_nil, or_false] at hf; rcases hf with rfl | rfl | rfl | rfl <;> simp)
    have S2 := S.to [0] (toS e cs ca cc r (.slice none 0 0) true 0) (by kernel_rfl) (by kernel_rfl) (by kernel_rfl) (by kernel_rfl) (by kernel_rfl)
    refine sy_loop (r.l.length + 1) (by kernel_rfl) ?_
    refine sy_at2 (k' := (.rnd (r.l.length + 1) (bodyL toC) :: toC.k.tail)) (by kernel_rfl) ?_
    exact tn_a w0 e hok hf hv cs hcs ca cc cb co hca hcl r hr hcr hrl r.l.length 0 (by omega) (.slice none 0 0) true (fun f hf g hg => by cases hg) rfl _ aa w S2
end Go.Proofs.Ytaclhiagfgmgkaa
