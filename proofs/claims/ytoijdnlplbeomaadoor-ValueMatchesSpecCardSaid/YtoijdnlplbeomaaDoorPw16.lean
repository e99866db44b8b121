/-
  Merged: Vw0, Vw1, Vw2, Vy0, Vy1
-/
import Derived.Test.YtoijdnlplbeomaaDoorPw8
import Derived.Test.YtoijdnlplbeomaaDoorPw15
import Derived.Test.YtoijdnlplbeomaaDoorPw11
import Derived.Test.YtoijdnlplbeomaaDoorPw6

/-
  Layer 8: the text of a value, as a function of the world; how long it is; tables for numerals.
-/
namespace Go.Proofs.YtoijdnlplbeomaaDoor
open Go Go.RowKit EX
set_option maxRecDepth 100000
set_option linter.unusedVariables false
set_option linter.unusedSimpArgs false
set_option linter.unusedSectionVars false
theorem dec_len10 : ∀ (k u : Nat), u < 10 ^ (k + 1) → (Lib.decDigits u).length ≤ k + 1
  | 0, u, h => by rw [Lib.decDigits_one (by simpa using h)]; simp
  | k + 1, u, h => by
    by_cases hu : u < 10
    · rw [Lib.decDigits_one hu]; simp
    · rw [Lib.decDigits, dif_neg hu]
      have := dec_len10 k (u / 10) (by rw [Nat.div_lt_iff_lt_mul (by omega)]; rw [Nat.pow_succ] at h; exact h)
      simp only [List.length_append, List.length_cons, List.length_nil]
      omega
theorem decB_size20 (a : Int) (h : a < 10 ^ 19) : (decB a).size ≤ 19 := by
  have := dec_len10 18 a.toNat (by
    have h2 : (10 : Nat) ^ (18 + 1) = 10000000000000000000 := by decide
    have h3 : (10 : Int) ^ 19 = 10000000000000000000 := by decide
    omega)
  unfold decB
  show (Lib.decDigits a.toNat).toArray.size ≤ 19
  simpa using this
theorem numB_size (n : Int) (hn : I64 n) : (numB n).size ≤ 20 := by
  unfold I64 at hn
  have h3 : (10 : Int) ^ 19 = 10000000000000000000 := by decide
  by_cases h : n < 0
  · rw [numB_neg h, ByteArray.size_append]
    have := decB_size20 (-n) (by omega)
    have e : (⟨#[45]⟩ : ByteArray).size = 1 := rfl
    omega
  · rw [numB_pos (by omega)]
    have := decB_size20 n (by omega)
    omega
def bTrue : ByteArray := ⟨#[116, 114, 117, 101]⟩
def bFalse : ByteArray := ⟨#[102, 97, 108, 115, 101]⟩
def bUnit : ByteArray := ⟨#[40, 41]⟩
def bAt : ByteArray := ⟨#[64]⟩
def bHash : ByteArray := ⟨#[35]⟩
def bNone : ByteArray := ⟨#[78, 111, 110, 101]⟩
def bFun : ByteArray := ⟨#[102, 117, 110]⟩
def bLP : ByteArray := ⟨#[40]⟩
def bRP : ByteArray := ⟨#[41]⟩
def bComma : ByteArray := ⟨#[44, 32]⟩
def bSomeP : ByteArray := ⟨#[83, 111, 109, 101, 32, 40]⟩
def bSome : ByteArray := ⟨#[83, 111, 109, 101, 32]⟩
def bQ : ByteArray := ⟨#[63]⟩
def showW : Nat → World → VH → ByteArray
  | 0, _, _ => ⟨#[]⟩
  | d + 1, w, h =>
    if h.k = 1 then numB h.n
    else if h.k = 2 then (if h.n = 0 then bFalse else bTrue)
    else if h.k = 3 then bUnit
    else if h.k = 4 then bAt ++ numB h.n
    else if h.k = 5 then bAt ++ numB h.n ++ bHash ++ numB h.m
    else if h.k = 7 then bNone
    else if h.k = 9 then bFun
    else if h.k = 6 ∧ h.len = 2 then bLP ++ showW d w (h.kid w 0) ++ bComma ++ showW d w (h.kid w 1) ++ bRP
    else if h.k = 8 ∧ h.len = 1 then (if (h.kid w 0).k = 8 then bSomeP ++ showW d w (h.kid w 0) ++ bRP else bSome ++ showW d w (h.kid w 0))
    else bQ
theorem showW_size : ∀ (d : Nat) {w : World} {h : VH}, VT d w h → (showW d w h).size + 10 ≤ 60 * 2 ^ d
  | 0, w, h, hv => by simp [showW, ByteArray.size]
  | d + 1, w, h, hv => by
    have hp : 1 ≤ 2 ^ d := Nat.one_le_two_pow
    have e : 60 * 2 ^ (d + 1) = 2 * (60 * 2 ^ d) := by rw [Nat.pow_succ]; omega
    have ok := hv.ok
    have n1 := numB_size h.n ok.2.1
    have n2 := numB_size h.m ok.2.2.1
    have s1 : bFalse.size = 5 := rfl
    have s2 : bTrue.size = 4 := rfl
    have s3 : bUnit.size = 2 := rfl
    have s4 : bAt.size = 1 := rfl
    have s5 : bHash.size = 1 := rfl
    have s6 : bNone.size = 4 := rfl
    have s7 : bFun.size = 3 := rfl
    have s8 : bLP.size = 1 := rfl
    have s9 : bRP.size = 1 := rfl
    have s10 : bComma.size = 2 := rfl
    have s11 : bSomeP.size = 6 := rfl
    have s12 : bSome.size = 5 := rfl
    have s13 : bQ.size = 1 := rfl
    unfold showW
    rw [e]
    split
    · omega
    split
    · split <;> omega
    split
    · omega
    split
    · rw [ByteArray.size_append]; omega
    split
    · simp only [ByteArray.size_append]; omega
    split
    · omega
    split
    · omega
    split
    · rename_i h6
      have k0 := showW_size d (kid_below (below_rfl w) hv (i := 0) (by omega)).2
      have k1 := showW_size d (kid_below (below_rfl w) hv (i := 1) (by omega)).2
      simp only [ByteArray.size_append]; omega
    split
    · rename_i h8
      have k0 := showW_size d (kid_below (below_rfl w) hv (i := 0) (by omega)).2
      split <;> simp only [ByteArray.size_append] <;> omega
    · omega
theorem showW_below {w w' : World} (hb : Below w.heap.size w w') : ∀ {d : Nat} {h : VH}, VT d w h → showW d w' h = showW d w h
  | 0, _, _ => rfl
  | d + 1, h, hv => by
    have k : ∀ i, i < h.len → h.kid w' i = h.kid w i ∧ showW d w' (h.kid w i) = showW d w (h.kid w i) := fun i hi => by
      obtain ⟨e, hk⟩ := kid_below hb hv hi
      exact ⟨e, showW_below hb hk⟩
    unfold showW
    by_cases h6 : h.k = 6 ∧ h.len = 2
    · rw [if_pos h6, if_pos h6, (k 0 (by omega)).1, (k 1 (by omega)).1, (k 0 (by omega)).2, (k 1 (by omega)).2]
    · rw [if_neg h6, if_neg h6]
      by_cases h8 : h.k = 8 ∧ h.len = 1
      · rw [if_pos h8, if_pos h8, (k 0 (by omega)).1, (k 0 (by omega)).2]
      · rw [if_neg h8, if_neg h8]
section
variable [FC]
/-- A function that writes a number. -/
def kgNum (f0 : FuncId) : KnG := fun f args st => match Nat.beq f f0, args with
  | true, [.y (.int .i64 a)] => some ⟨.ret (.y (.string (numB a))), ⟨st.m, st.orc, (.bool (decide (-9223372036854775808 ≤ a ∧ a ≤ 9223372036854775807)), .bool true) :: st.cnd⟩⟩
  | _, _ => none
theorem kgNum_ok {P : Program} {f0 : FuncId} (h : ∀ a w, I64 a → FcAt w → Calls P f0 #[.int .i64 a] w fun e w' => e = .returned (.string (numB a)) ∧ Below w.heap.size w w') : KnGOk P (kgNum f0) := by
  intro f args st o hk
  unfold kgNum at hk
  split at hk
  · rename_i a hf
    have := Nat.eq_of_beq_eq_true hf
    subst this
    simp only [Option.some.injEq] at hk
    subst hk
    refine ⟨⟨⟨[_], rfl⟩, Fm.refl _⟩, trivial, fun tr w0 F B S w hS R hargs => ?_⟩
    have c := tr (.bool (decide (-9223372036854775808 ≤ a ∧ a ≤ 9223372036854775807)), .bool true) (by simp)
    simp only [Value.bool.injEq, decide_eq_true_eq] at c
    have := h a w (by unfold I64; omega) R.fc
    simp only [denL, den]
    refine this.mono ?_
    rintro e w' ⟨rfl, hb⟩
    exact ⟨B, Ag.refl _ _ _, Nat.le_refl _, by rw [ext_self]; exact R.below hb, by simp [den], by simp [bd]⟩
  · cases hk
theorem cut_endY {P : Program} {kn : KnG} (hkn : KnGOk P kn) (n : Nat) {w0 : World} {fr : Fr} {k : List SX.It} {st : St} {fn : Func} {v : Value} {cs : List (Value × Value)}
    (h : endE P fn (goF P kn n (.run fr k) st) = some ([], some [.y v], cs)) (hc : ∀ q ∈ cs, q.1 = q.2) :
    EX.Good P w0 (bodyPostD P fn fun e w' => e = .returned v ∧ Below w0.heap.size w0 w') fr k st := by
  unfold endE at h
  split at h
  · rename_i fr1 st1 h1
    simp only [Option.some.injEq, Prod.mk.injEq] at h
    obtain ⟨hD, hr, rfl⟩ := h
    rw [goF_eq] at h1
    have s := goJ_sound hkn (drE_ok P) n _ _ _ h1
    intro B S a w hS R A
    refine s.2.2 hc w0 [] B S a w _ hS R A ?_
    intro B' a' w' g1 g2 R' A'
    simp only at R' A'
    have hfin : Leaves P fn a'.tmps (fun e w' => e = .returned v ∧ Below w0.heap.size w0 w') a'.defers .returning w' := by
      rw [A'.df, hD]
      obtain ⟨h2, h3⟩ := resE_run R' A'.ra hr
      refine ⟨_, h2, ?_, ⟨R'.gr.1.os, R'.gr.1.tape, R'.gr.1.output, R'.gr.1.size, fun k hk => R'.gr.1.block k hk (by simp)⟩⟩
      simp [oneOf, den]
    exact ⟨hfin, hfin⟩
  · cases h
end
end Go.Proofs.YtoijdnlplbeomaaDoor


/-
  Layer 8: the text of a value, as the program writes it.
-/
namespace Go.Proofs.YtoijdnlplbeomaaDoor
open Go Go.RowKit EX
set_option maxRecDepth 100000
set_option linter.unusedVariables false
set_option linter.unusedSimpArgs false
set_option linter.unusedSectionVars false
/-- The parts of one value as one given row; the library's table. -/
abbrev fcW (W : World) (h : VH) (cs : List SV) (hT : TabP W) : FC := ⟨fun _ => bOf h, fun _ => oOf h, fun _ => cs, fun w => Below W.heap.size W w, fun w w' h k => ⟨k.os.trans h.os, k.tape.trans h.tape, k.output.trans h.output, Nat.le_trans h.size k.size, fun b hb => (k.block b (Nat.lt_of_lt_of_le hb h.size) (by simp)).trans (h.block b hb)⟩⟩
theorem fcW_nil {W : World} {h : VH} {hT : TabP W} : @FcAt (fcW W h [] hT) W := ⟨below_rfl W, fun i j x hx => absurd (show ([] : List SV)[j]? = some x from hx) (by simp)⟩
theorem fcW_1 {d : Nat} {W : World} {h : VH} {hT : TabP W} (hv : VT (d + 1) W h) (hl : h.len = 1) : @FcAt (fcW W h (h.kid W 0).sv hT) W := by
  refine ⟨below_rfl W, fun i j x hx => ?_⟩
  rcases hv.2 with q | ⟨b, o, ea, hel⟩
  · omega
  obtain ⟨k, hk, _⟩ := hel 0 (by omega)
  have e := VH.kid_eq ea hk
  have hx' : k.sv[j]? = some x := by rw [← e]; exact hx
  have hc := @sv_cell (fcW W h (h.kid W 0).sv hT) _ _ _ _ hk j x hx'
  have eb : bOf h = b := by unfold bOf; rw [ea]
  have eo : oOf h = o := by unfold oOf; rw [ea]
  show W.cell? ⟨bOf h, oOf h + j, none⟩ = _ ∧ _
  rw [eb, eo]
  simpa using hc
theorem fcW_2 {d : Nat} {W : World} {h : VH} {hT : TabP W} (hv : VT (d + 1) W h) (hl : h.len = 2) : @FcAt (fcW W h ((h.kid W 0).sv ++ (h.kid W 1).sv) hT) W := by
  refine ⟨below_rfl W, fun i j x hx => ?_⟩
  rcases hv.2 with q | ⟨b, o, ea, hel⟩
  · omega
  obtain ⟨k, hk, _⟩ := hel 0 (by omega)
  obtain ⟨k', hk', _⟩ := hel 1 (by omega)
  have e := VH.kid_eq ea hk
  have e' := VH.kid_eq ea hk'
  have hx' : (k.sv ++ k'.sv)[j]? = some x := by rw [← e, ← e']; exact hx
  have eb : bOf h = b := by unfold bOf; rw [ea]
  have eo : oOf h = o := by unfold oOf; rw [ea]
  show W.cell? ⟨bOf h, oOf h + j, none⟩ = _ ∧ _
  rw [eb, eo]
  by_cases hj : j < 4
  · have h2 : k.sv[j]? = some x := by
      rw [List.getElem?_append_left (by simpa [VH.sv] using hj)] at hx'
      exact hx'
    have hc := @sv_cell (fcW W h ((h.kid W 0).sv ++ (h.kid W 1).sv) hT) _ _ _ _ hk j x h2
    simpa using hc
  · have h2 : k'.sv[j - 4]? = some x := by
      rw [List.getElem?_append_right (by simp [VH.sv]; omega)] at hx'
      simpa [VH.sv] using hx'
    have hc := @sv_cell (fcW W h ((h.kid W 0).sv ++ (h.kid W 1).sv) hT) _ _ _ _ hk' (j - 4) x h2
    have e3 : o + 1 * 4 + (j - 4) = o + j := by omega
    rw [e3] at hc
    exact hc
section
variable [FC]
/-- Two calls of one function: the oracle picks. -/
def kgP2 (f0 : FuncId) (l1 l2 : List Value) (x y : SV) : KnG := fun f args st => match st.orc with
  | .bool true :: r => kgAt f0 l1 x f args ⟨st.m, r, st.cnd⟩
  | .bool false :: r => kgAt f0 l2 y f args ⟨st.m, r, st.cnd⟩
  | _ => none
theorem kgP2_ok {P : Program} {f0 : FuncId} {l1 l2 : List Value} {x y : SV} (h1 : KnGOk P (kgAt f0 l1 x)) (h2 : KnGOk P (kgAt f0 l2 y)) : KnGOk P (kgP2 f0 l1 l2 x y) := by
  intro f args st o hk
  unfold kgP2 at hk
  split at hk
  · have := h1 f args _ o hk
    exact this
  · have := h2 f args _ o hk
    exact this
  · cases hk
end
/-- What a case asks of sizes. -/
theorem sz_facts : bFalse.size = 5 ∧ bTrue.size = 4 ∧ bUnit.size = 2 ∧ bAt.size = 1 ∧ bHash.size = 1 ∧ bNone.size = 4 ∧ bFun.size = 3 ∧ bLP.size = 1 ∧ bRP.size = 1 ∧ bComma.size = 2 ∧ bSomeP.size = 6 ∧ bSome.size = 5 ∧ bQ.size = 1 := by
  refine ⟨rfl, rfl, rfl, rfl, rfl, rfl, rfl, rfl, rfl, rfl, rfl, rfl, rfl⟩
abbrev pshF : FuncId := 15
theorem psh_1 {d : Nat} {W : World} {h : VH} (hT : TabP W) (hv : VT (d + 1) W h) (g0 : h.k = 1) : Calls Tryd.prog pshF #[h.v] W fun e w' => e = .returned (.string (numB h.n)) ∧ Below W.heap.size W w' := by
  letI fc : FC := fcW W h [] hT
  have hfc : FcAt W := fcW_nil
  obtain ⟨f1, f2, f3, f4, f5, f6, f7, f8, f9, f10, f11, f12, f13⟩ := sz_facts
  have ok := hv.ok
  have n1 := numB_size h.n ok.2.1
  have n2 := numB_size h.m ok.2.2.1
  have r1 := ok.2.1
  have r2 := ok.2.2.1
  unfold I64 at r1 r2
  have hkn : KnGOk Tryd.prog (kgNum 31) := kgNum_ok fun a w ha hf => itoa_any a ha w (hT.below hf.1)
  refine cut_allA (fn := Tryd.f15) [.g [.v (.int .i64 1), .y (.int .i64 h.n), .y (.int .i64 h.m), .y (.slice h.a h.len h.cap)]] [] rfl rfl ?_ (by simp [bd, bdL, VH.sv]) ?_ hfc
  · simp [denL, den, VH.v, g0]
  · refine cut_endY hkn 100000 (cs := [(.bool (decide (-9223372036854775808 ≤ h.n ∧ h.n ≤ 9223372036854775807)), .bool true)]) (by kernel_rfl) ?_
    intro q hq
    simp only [List.mem_cons, List.not_mem_nil, or_false] at hq
    rcases hq with rfl
    all_goals first
      | exact congrArg Value.bool (decide_eq_true (by simp only [ByteArray.size_append]; omega))
      | exact congrArg Value.bool (by simp; assumption)
      | exact congrArg Value.bool (by simp; omega)
      | rfl
theorem psh_2t {d : Nat} {W : World} {h : VH} (hT : TabP W) (hv : VT (d + 1) W h) (g0 : h.k = 2) (g1 : h.n ≠ 0) : Calls Tryd.prog pshF #[h.v] W fun e w' => e = .returned (.string (bTrue)) ∧ Below W.heap.size W w' := by
  letI fc : FC := fcW W h [] hT
  have hfc : FcAt W := fcW_nil
  obtain ⟨f1, f2, f3, f4, f5, f6, f7, f8, f9, f10, f11, f12, f13⟩ := sz_facts
  have ok := hv.ok
  have n1 := numB_size h.n ok.2.1
  have n2 := numB_size h.m ok.2.2.1
  have r1 := ok.2.1
  have r2 := ok.2.2.1
  unfold I64 at r1 r2
  have hkn : KnGOk Tryd.prog (kgNum 31) := kgNum_ok fun a w ha hf => itoa_any a ha w (hT.below hf.1)
  refine cut_allA (fn := Tryd.f15) [.g [.v (.int .i64 2), .y (.int .i64 h.n), .y (.int .i64 h.m), .y (.slice h.a h.len h.cap)]] [.bool true] rfl rfl ?_ (by simp [bd, bdL, VH.sv]) ?_ hfc
  · simp [denL, den, VH.v, g0]
  · refine cut_end (v := .string (bTrue)) hkn 100000 (cs := [(.bool (h.n != 0), .bool true)]) (by kernel_rfl) ?_
    intro q hq
    simp only [List.mem_cons, List.not_mem_nil, or_false] at hq
    rcases hq with rfl
    all_goals first
      | exact congrArg Value.bool (decide_eq_true (by simp only [ByteArray.size_append]; omega))
      | exact congrArg Value.bool (by simp; assumption)
      | exact congrArg Value.bool (by simp; omega)
      | rfl
theorem psh_2f {d : Nat} {W : World} {h : VH} (hT : TabP W) (hv : VT (d + 1) W h) (g0 : h.k = 2) (g1 : h.n = 0) : Calls Tryd.prog pshF #[h.v] W fun e w' => e = .returned (.string (bFalse)) ∧ Below W.heap.size W w' := by
  letI fc : FC := fcW W h [] hT
  have hfc : FcAt W := fcW_nil
  obtain ⟨f1, f2, f3, f4, f5, f6, f7, f8, f9, f10, f11, f12, f13⟩ := sz_facts
  have ok := hv.ok
  have n1 := numB_size h.n ok.2.1
  have n2 := numB_size h.m ok.2.2.1
  have r1 := ok.2.1
  have r2 := ok.2.2.1
  unfold I64 at r1 r2
  have hkn : KnGOk Tryd.prog (kgNum 31) := kgNum_ok fun a w ha hf => itoa_any a ha w (hT.below hf.1)
  refine cut_allA (fn := Tryd.f15) [.g [.v (.int .i64 2), .y (.int .i64 h.n), .y (.int .i64 h.m), .y (.slice h.a h.len h.cap)]] [.bool false] rfl rfl ?_ (by simp [bd, bdL, VH.sv]) ?_ hfc
  · simp [denL, den, VH.v, g0]
  · refine cut_end (v := .string (bFalse)) hkn 100000 (cs := [(.bool (h.n != 0), .bool false)]) (by kernel_rfl) ?_
    intro q hq
    simp only [List.mem_cons, List.not_mem_nil, or_false] at hq
    rcases hq with rfl
    all_goals first
      | exact congrArg Value.bool (decide_eq_true (by simp only [ByteArray.size_append]; omega))
      | exact congrArg Value.bool (by simp; assumption)
      | exact congrArg Value.bool (by simp; omega)
      | rfl
theorem psh_3 {d : Nat} {W : World} {h : VH} (hT : TabP W) (hv : VT (d + 1) W h) (g0 : h.k = 3) : Calls Tryd.prog pshF #[h.v] W fun e w' => e = .returned (.string (bUnit)) ∧ Below W.heap.size W w' := by
  letI fc : FC := fcW W h [] hT
  have hfc : FcAt W := fcW_nil
  obtain ⟨f1, f2, f3, f4, f5, f6, f7, f8, f9, f10, f11, f12, f13⟩ := sz_facts
  have ok := hv.ok
  have n1 := numB_size h.n ok.2.1
  have n2 := numB_size h.m ok.2.2.1
  have r1 := ok.2.1
  have r2 := ok.2.2.1
  unfold I64 at r1 r2
  have hkn : KnGOk Tryd.prog (kgNum 31) := kgNum_ok fun a w ha hf => itoa_any a ha w (hT.below hf.1)
  refine cut_allA (fn := Tryd.f15) [.g [.v (.int .i64 3), .y (.int .i64 h.n), .y (.int .i64 h.m), .y (.slice h.a h.len h.cap)]] [] rfl rfl ?_ (by simp [bd, bdL, VH.sv]) ?_ hfc
  · simp [denL, den, VH.v, g0]
  · refine cut_end (v := .string (bUnit)) hkn 100000 (cs := []) (by kernel_rfl) ?_
    intro q hq
    simp only [List.mem_cons, List.not_mem_nil, or_false] at hq
theorem psh_4 {d : Nat} {W : World} {h : VH} (hT : TabP W) (hv : VT (d + 1) W h) (g0 : h.k = 4) : Calls Tryd.prog pshF #[h.v] W fun e w' => e = .returned (.string (bAt ++ numB h.n)) ∧ Below W.heap.size W w' := by
  letI fc : FC := fcW W h [] hT
  have hfc : FcAt W := fcW_nil
  obtain ⟨f1, f2, f3, f4, f5, f6, f7, f8, f9, f10, f11, f12, f13⟩ := sz_facts
  have ok := hv.ok
  have n1 := numB_size h.n ok.2.1
  have n2 := numB_size h.m ok.2.2.1
  have r1 := ok.2.1
  have r2 := ok.2.2.1
  unfold I64 at r1 r2
  have hkn : KnGOk Tryd.prog (kgNum 31) := kgNum_ok fun a w ha hf => itoa_any a ha w (hT.below hf.1)
  refine cut_allA (fn := Tryd.f15) [.g [.v (.int .i64 4), .y (.int .i64 h.n), .y (.int .i64 h.m), .y (.slice h.a h.len h.cap)]] [] rfl rfl ?_ (by simp [bd, bdL, VH.sv]) ?_ hfc
  · simp [denL, den, VH.v, g0]
  · refine cut_endY hkn 100000 (cs := [(.bool (decide ((bAt).size + (numB h.n).size ≤ 9223372036854775807)), .bool true), (.bool (decide (-9223372036854775808 ≤ h.n ∧ h.n ≤ 9223372036854775807)), .bool true)]) (by kernel_rfl) ?_
    intro q hq
    simp only [List.mem_cons, List.not_mem_nil, or_false] at hq
    rcases hq with rfl | rfl
    all_goals first
      | exact congrArg Value.bool (decide_eq_true (by simp only [ByteArray.size_append]; omega))
      | exact congrArg Value.bool (by simp; assumption)
      | exact congrArg Value.bool (by simp; omega)
      | rfl
theorem psh_5 {d : Nat} {W : World} {h : VH} (hT : TabP W) (hv : VT (d + 1) W h) (g0 : h.k = 5) : Calls Tryd.prog pshF #[h.v] W fun e w' => e = .returned (.string (bAt ++ numB h.n ++ bHash ++ numB h.m)) ∧ Below W.heap.size W w' := by
  letI fc : FC := fcW W h [] hT
  have hfc : FcAt W := fcW_nil
  obtain ⟨f1, f2, f3, f4, f5, f6, f7, f8, f9, f10, f11, f12, f13⟩ := sz_facts
  have ok := hv.ok
  have n1 := numB_size h.n ok.2.1
  have n2 := numB_size h.m ok.2.2.1
  have r1 := ok.2.1
  have r2 := ok.2.2.1
  unfold I64 at r1 r2
  have hkn : KnGOk Tryd.prog (kgNum 31) := kgNum_ok fun a w ha hf => itoa_any a ha w (hT.below hf.1)
  refine cut_allA (fn := Tryd.f15) [.g [.v (.int .i64 5), .y (.int .i64 h.n), .y (.int .i64 h.m), .y (.slice h.a h.len h.cap)]] [] rfl rfl ?_ (by simp [bd, bdL, VH.sv]) ?_ hfc
  · simp [denL, den, VH.v, g0]
  · refine cut_endY hkn 100000 (cs := [(.bool (decide ((bAt ++ numB h.n ++ bHash).size + (numB h.m).size ≤ 9223372036854775807)), .bool true), (.bool (decide (-9223372036854775808 ≤ h.m ∧ h.m ≤ 9223372036854775807)), .bool true), (.bool (decide ((bAt ++ numB h.n).size + (bHash).size ≤ 9223372036854775807)), .bool true), (.bool (decide ((bAt).size + (numB h.n).size ≤ 9223372036854775807)), .bool true), (.bool (decide (-9223372036854775808 ≤ h.n ∧ h.n ≤ 9223372036854775807)), .bool true)]) (by kernel_rfl) ?_
    intro q hq
    simp only [List.mem_cons, List.not_mem_nil, or_false] at hq
    rcases hq with rfl | rfl | rfl | rfl | rfl
    all_goals first
      | exact congrArg Value.bool (decide_eq_true (by simp only [ByteArray.size_append]; omega))
      | exact congrArg Value.bool (by simp; assumption)
      | exact congrArg Value.bool (by simp; omega)
      | rfl
theorem psh_7 {d : Nat} {W : World} {h : VH} (hT : TabP W) (hv : VT (d + 1) W h) (g0 : h.k = 7) : Calls Tryd.prog pshF #[h.v] W fun e w' => e = .returned (.string (bNone)) ∧ Below W.heap.size W w' := by
  letI fc : FC := fcW W h [] hT
  have hfc : FcAt W := fcW_nil
  obtain ⟨f1, f2, f3, f4, f5, f6, f7, f8, f9, f10, f11, f12, f13⟩ := sz_facts
  have ok := hv.ok
  have n1 := numB_size h.n ok.2.1
  have n2 := numB_size h.m ok.2.2.1
  have r1 := ok.2.1
  have r2 := ok.2.2.1
  unfold I64 at r1 r2
  have hkn : KnGOk Tryd.prog (kgNum 31) := kgNum_ok fun a w ha hf => itoa_any a ha w (hT.below hf.1)
  refine cut_allA (fn := Tryd.f15) [.g [.v (.int .i64 7), .y (.int .i64 h.n), .y (.int .i64 h.m), .y (.slice h.a h.len h.cap)]] [] rfl rfl ?_ (by simp [bd, bdL, VH.sv]) ?_ hfc
  · simp [denL, den, VH.v, g0]
  · refine cut_end (v := .string (bNone)) hkn 100000 (cs := []) (by kernel_rfl) ?_
    intro q hq
    simp only [List.mem_cons, List.not_mem_nil, or_false] at hq
theorem psh_9 {d : Nat} {W : World} {h : VH} (hT : TabP W) (hv : VT (d + 1) W h) (g0 : h.k = 9) : Calls Tryd.prog pshF #[h.v] W fun e w' => e = .returned (.string (bFun)) ∧ Below W.heap.size W w' := by
  letI fc : FC := fcW W h [] hT
  have hfc : FcAt W := fcW_nil
  obtain ⟨f1, f2, f3, f4, f5, f6, f7, f8, f9, f10, f11, f12, f13⟩ := sz_facts
  have ok := hv.ok
  have n1 := numB_size h.n ok.2.1
  have n2 := numB_size h.m ok.2.2.1
  have r1 := ok.2.1
  have r2 := ok.2.2.1
  unfold I64 at r1 r2
  have hkn : KnGOk Tryd.prog (kgNum 31) := kgNum_ok fun a w ha hf => itoa_any a ha w (hT.below hf.1)
  refine cut_allA (fn := Tryd.f15) [.g [.v (.int .i64 9), .y (.int .i64 h.n), .y (.int .i64 h.m), .y (.slice h.a h.len h.cap)]] [] rfl rfl ?_ (by simp [bd, bdL, VH.sv]) ?_ hfc
  · simp [denL, den, VH.v, g0]
  · refine cut_end (v := .string (bFun)) hkn 100000 (cs := []) (by kernel_rfl) ?_
    intro q hq
    simp only [List.mem_cons, List.not_mem_nil, or_false] at hq
theorem psh_6 {d : Nat} {W : World} {h : VH} (hT : TabP W) (hv : VT (d + 1) W h) (g0 : h.k = 6) (g1 : h.len = 2) (ih : ∀ i, i < h.len → ∀ w, Below W.heap.size W w → Calls Tryd.prog pshF #[(h.kid W i).v] w fun e w' => e = .returned (.string (showW d W (h.kid W i))) ∧ Below w.heap.size w w') (hz : ∀ i, i < h.len → (showW d W (h.kid W i)).size ≤ 1000000000000000) : Calls Tryd.prog pshF #[h.v] W fun e w' => e = .returned (.string (bLP ++ (showW d W (h.kid W 0)) ++ bComma ++ (showW d W (h.kid W 1)) ++ bRP)) ∧ Below W.heap.size W w' := by
  letI fc : FC := fcW W h ((h.kid W 0).sv ++ (h.kid W 1).sv) hT
  have hfc : FcAt W := fcW_2 hv g1
  obtain ⟨f1, f2, f3, f4, f5, f6, f7, f8, f9, f10, f11, f12, f13⟩ := sz_facts
  have ok := hv.ok
  have n1 := numB_size h.n ok.2.1
  have n2 := numB_size h.m ok.2.2.1
  have r1 := ok.2.1
  have r2 := ok.2.2.1
  unfold I64 at r1 r2
  have z0 := hz 0 (by omega)
  have z1 := hz 1 (by omega)
  have hkn : KnGOk Tryd.prog (kgP2 pshF [(h.kid W 0).v] [(h.kid W 1).v] (.y (.string (showW d W (h.kid W 0)))) (.y (.string (showW d W (h.kid W 1))))) := kgP2_ok (kgAt_ok (by simp [bd]) fun w hf => by have := ih 0 (by omega) w hf.1; simpa [den] using this) (kgAt_ok (by simp [bd]) fun w hf => by have := ih 1 (by omega) w hf.1; simpa [den] using this)
  refine cut_allA (fn := Tryd.f15) [.g [.v (.int .i64 6), .y (.int .i64 h.n), .y (.int .i64 h.m), .q 0 0 2 h.cap]] [.bool true, .bool true, .bool false] rfl rfl ?_ (by simp [bd, bdL, VH.sv]) ?_ hfc
  · rcases hv.2 with q | ⟨b1, o1, e1, _⟩
    · omega
    · have eb : bOf h = b1 := by unfold bOf; rw [e1]
      have eo : oOf h = o1 := by unfold oOf; rw [e1]
      simp [denL, den, VH.v, g0, g1, e1]
      exact ⟨eb, eo⟩
  · refine cut_endY hkn 100000 (cs := [(.bool (decide ((bLP ++ (showW d W (h.kid W 0)) ++ bComma ++ (showW d W (h.kid W 1))).size + (bRP).size ≤ 9223372036854775807)), .bool true), (.bool (decide ((bLP ++ (showW d W (h.kid W 0)) ++ bComma).size + ((showW d W (h.kid W 1))).size ≤ 9223372036854775807)), .bool true), ((.agg #[.int .i64 (h.kid W 1).k, .int .i64 (h.kid W 1).n, .int .i64 (h.kid W 1).m, .slice (h.kid W 1).a (h.kid W 1).len (h.kid W 1).cap]), (h.kid W 1).v), (.bool (decide ((bLP ++ (showW d W (h.kid W 0))).size + (bComma).size ≤ 9223372036854775807)), .bool true), (.bool (decide ((bLP).size + ((showW d W (h.kid W 0))).size ≤ 9223372036854775807)), .bool true), ((.agg #[.int .i64 (h.kid W 0).k, .int .i64 (h.kid W 0).n, .int .i64 (h.kid W 0).m, .slice (h.kid W 0).a (h.kid W 0).len (h.kid W 0).cap]), (h.kid W 0).v), (.bool (((2 : Nat) : Int) == 2), .bool true)]) (by kernel_rfl) ?_
    intro q hq
    simp only [List.mem_cons, List.not_mem_nil, or_false] at hq
    rcases hq with rfl | rfl | rfl | rfl | rfl | rfl | rfl
    all_goals first
      | exact congrArg Value.bool (decide_eq_true (by simp only [ByteArray.size_append]; omega))
      | exact congrArg Value.bool (by simp; assumption)
      | exact congrArg Value.bool (by simp; omega)
      | rfl
theorem psh_6n {d : Nat} {W : World} {h : VH} (hT : TabP W) (hv : VT (d + 1) W h) (g0 : h.k = 6) (g1 : h.len ≠ 2) : Calls Tryd.prog pshF #[h.v] W fun e w' => e = .returned (.string (bQ)) ∧ Below W.heap.size W w' := by
  letI fc : FC := fcW W h [] hT
  have hfc : FcAt W := fcW_nil
  obtain ⟨f1, f2, f3, f4, f5, f6, f7, f8, f9, f10, f11, f12, f13⟩ := sz_facts
  have ok := hv.ok
  have n1 := numB_size h.n ok.2.1
  have n2 := numB_size h.m ok.2.2.1
  have r1 := ok.2.1
  have r2 := ok.2.2.1
  unfold I64 at r1 r2
  have hkn : KnGOk Tryd.prog (kgNum 31) := kgNum_ok fun a w ha hf => itoa_any a ha w (hT.below hf.1)
  refine cut_allA (fn := Tryd.f15) [.g [.v (.int .i64 6), .y (.int .i64 h.n), .y (.int .i64 h.m), .y (.slice h.a h.len h.cap)]] [.bool false] rfl rfl ?_ (by simp [bd, bdL, VH.sv]) ?_ hfc
  · simp [denL, den, VH.v, g0]
  · refine cut_end (v := .string (bQ)) hkn 100000 (cs := [(.bool (((h.len : Nat) : Int) == 2), .bool false)]) (by kernel_rfl) ?_
    intro q hq
    simp only [List.mem_cons, List.not_mem_nil, or_false] at hq
    rcases hq with rfl
    all_goals first
      | exact congrArg Value.bool (decide_eq_true (by simp only [ByteArray.size_append]; omega))
      | exact congrArg Value.bool (by simp; assumption)
      | exact congrArg Value.bool (by simp; omega)
      | rfl
theorem psh_8t {d : Nat} {W : World} {h : VH} (hT : TabP W) (hv : VT (d + 1) W h) (g0 : h.k = 8) (g1 : h.len = 1) (g2 : (h.kid W 0).k = 8) (ih : ∀ i, i < h.len → ∀ w, Below W.heap.size W w → Calls Tryd.prog pshF #[(h.kid W i).v] w fun e w' => e = .returned (.string (showW d W (h.kid W i))) ∧ Below w.heap.size w w') (hz : ∀ i, i < h.len → (showW d W (h.kid W i)).size ≤ 1000000000000000) : Calls Tryd.prog pshF #[h.v] W fun e w' => e = .returned (.string (bSomeP ++ (showW d W (h.kid W 0)) ++ bRP)) ∧ Below W.heap.size W w' := by
  letI fc : FC := fcW W h (h.kid W 0).sv hT
  have hfc : FcAt W := fcW_1 hv g1
  obtain ⟨f1, f2, f3, f4, f5, f6, f7, f8, f9, f10, f11, f12, f13⟩ := sz_facts
  have ok := hv.ok
  have n1 := numB_size h.n ok.2.1
  have n2 := numB_size h.m ok.2.2.1
  have r1 := ok.2.1
  have r2 := ok.2.2.1
  unfold I64 at r1 r2
  have z0 := hz 0 (by omega)
  have hkn : KnGOk Tryd.prog (kgAt pshF [(h.kid W 0).v] (.y (.string (showW d W (h.kid W 0))))) := kgAt_ok (by simp [bd]) fun w hf => by have := ih 0 (by omega) w hf.1; simpa [den] using this
  refine cut_allA (fn := Tryd.f15) [.g [.v (.int .i64 8), .y (.int .i64 h.n), .y (.int .i64 h.m), .q 0 0 1 h.cap]] [.bool true, .bool true] rfl rfl ?_ (by simp [bd, bdL, VH.sv]) ?_ hfc
  · rcases hv.2 with q | ⟨b1, o1, e1, _⟩
    · omega
    · have eb : bOf h = b1 := by unfold bOf; rw [e1]
      have eo : oOf h = o1 := by unfold oOf; rw [e1]
      simp [denL, den, VH.v, g0, g1, e1]
      exact ⟨eb, eo⟩
  · refine cut_endY hkn 100000 (cs := [(.bool (decide ((bSomeP ++ (showW d W (h.kid W 0))).size + (bRP).size ≤ 9223372036854775807)), .bool true), (.bool (decide ((bSomeP).size + ((showW d W (h.kid W 0))).size ≤ 9223372036854775807)), .bool true), ((.agg #[.int .i64 (h.kid W 0).k, .int .i64 (h.kid W 0).n, .int .i64 (h.kid W 0).m, .slice (h.kid W 0).a (h.kid W 0).len (h.kid W 0).cap]), (h.kid W 0).v), (.bool ((h.kid W 0).k == 8), .bool true), (.bool (((1 : Nat) : Int) == 1), .bool true)]) (by kernel_rfl) ?_
    intro q hq
    simp only [List.mem_cons, List.not_mem_nil, or_false] at hq
    rcases hq with rfl | rfl | rfl | rfl | rfl
    all_goals first
      | exact congrArg Value.bool (decide_eq_true (by simp only [ByteArray.size_append]; omega))
      | exact congrArg Value.bool (by simp; assumption)
      | exact congrArg Value.bool (by simp; omega)
      | rfl
theorem psh_8f {d : Nat} {W : World} {h : VH} (hT : TabP W) (hv : VT (d + 1) W h) (g0 : h.k = 8) (g1 : h.len = 1) (g2 : (h.kid W 0).k ≠ 8) (ih : ∀ i, i < h.len → ∀ w, Below W.heap.size W w → Calls Tryd.prog pshF #[(h.kid W i).v] w fun e w' => e = .returned (.string (showW d W (h.kid W i))) ∧ Below w.heap.size w w') (hz : ∀ i, i < h.len → (showW d W (h.kid W i)).size ≤ 1000000000000000) : Calls Tryd.prog pshF #[h.v] W fun e w' => e = .returned (.string (bSome ++ (showW d W (h.kid W 0)))) ∧ Below W.heap.size W w' := by
  letI fc : FC := fcW W h (h.kid W 0).sv hT
  have hfc : FcAt W := fcW_1 hv g1
  obtain ⟨f1, f2, f3, f4, f5, f6, f7, f8, f9, f10, f11, f12, f13⟩ := sz_facts
  have ok := hv.ok
  have n1 := numB_size h.n ok.2.1
  have n2 := numB_size h.m ok.2.2.1
  have r1 := ok.2.1
  have r2 := ok.2.2.1
  unfold I64 at r1 r2
  have z0 := hz 0 (by omega)
  have hkn : KnGOk Tryd.prog (kgAt pshF [(h.kid W 0).v] (.y (.string (showW d W (h.kid W 0))))) := kgAt_ok (by simp [bd]) fun w hf => by have := ih 0 (by omega) w hf.1; simpa [den] using this
  refine cut_allA (fn := Tryd.f15) [.g [.v (.int .i64 8), .y (.int .i64 h.n), .y (.int .i64 h.m), .q 0 0 1 h.cap]] [.bool true, .bool false, .bool true] rfl rfl ?_ (by simp [bd, bdL, VH.sv]) ?_ hfc
  · rcases hv.2 with q | ⟨b1, o1, e1, _⟩
    · omega
    · have eb : bOf h = b1 := by unfold bOf; rw [e1]
      have eo : oOf h = o1 := by unfold oOf; rw [e1]
      simp [denL, den, VH.v, g0, g1, e1]
      exact ⟨eb, eo⟩
  · refine cut_endY hkn 100000 (cs := [(.bool (decide ((bSome).size + ((showW d W (h.kid W 0))).size ≤ 9223372036854775807)), .bool true), ((.agg #[.int .i64 (h.kid W 0).k, .int .i64 (h.kid W 0).n, .int .i64 (h.kid W 0).m, .slice (h.kid W 0).a (h.kid W 0).len (h.kid W 0).cap]), (h.kid W 0).v), (.bool (((1 : Nat) : Int) == 1), .bool true), (.bool ((h.kid W 0).k == 8), .bool false), (.bool (((1 : Nat) : Int) == 1), .bool true)]) (by kernel_rfl) ?_
    intro q hq
    simp only [List.mem_cons, List.not_mem_nil, or_false] at hq
    rcases hq with rfl | rfl | rfl | rfl | rfl
    all_goals first
      | exact congrArg Value.bool (decide_eq_true (by simp only [ByteArray.size_append]; omega))
      | exact congrArg Value.bool (by simp; assumption)
      | exact congrArg Value.bool (by simp; omega)
      | rfl
theorem psh_8n {d : Nat} {W : World} {h : VH} (hT : TabP W) (hv : VT (d + 1) W h) (g0 : h.k = 8) (g1 : h.len ≠ 1) : Calls Tryd.prog pshF #[h.v] W fun e w' => e = .returned (.string (bQ)) ∧ Below W.heap.size W w' := by
  letI fc : FC := fcW W h [] hT
  have hfc : FcAt W := fcW_nil
  obtain ⟨f1, f2, f3, f4, f5, f6, f7, f8, f9, f10, f11, f12, f13⟩ := sz_facts
  have ok := hv.ok
  have n1 := numB_size h.n ok.2.1
  have n2 := numB_size h.m ok.2.2.1
  have r1 := ok.2.1
  have r2 := ok.2.2.1
  unfold I64 at r1 r2
  have hkn : KnGOk Tryd.prog (kgNum 31) := kgNum_ok fun a w ha hf => itoa_any a ha w (hT.below hf.1)
  refine cut_allA (fn := Tryd.f15) [.g [.v (.int .i64 8), .y (.int .i64 h.n), .y (.int .i64 h.m), .y (.slice h.a h.len h.cap)]] [.bool false, .bool false] rfl rfl ?_ (by simp [bd, bdL, VH.sv]) ?_ hfc
  · simp [denL, den, VH.v, g0]
  · refine cut_end (v := .string (bQ)) hkn 100000 (cs := [(.bool (((h.len : Nat) : Int) == 1), .bool false), (.bool (((h.len : Nat) : Int) == 1), .bool false)]) (by kernel_rfl) ?_
    intro q hq
    simp only [List.mem_cons, List.not_mem_nil, or_false] at hq
    rcases hq with rfl | rfl
    all_goals first
      | exact congrArg Value.bool (decide_eq_true (by simp only [ByteArray.size_append]; omega))
      | exact congrArg Value.bool (by simp; assumption)
      | exact congrArg Value.bool (by simp; omega)
      | rfl
theorem psh_o {d : Nat} {W : World} {h : VH} (hT : TabP W) (hv : VT (d + 1) W h) (g0 : h.k ≠ 1) (g1 : h.k ≠ 2) (g2 : h.k ≠ 3) (g3 : h.k ≠ 4) (g4 : h.k ≠ 5) (g5 : h.k ≠ 6) (g6 : h.k ≠ 7) (g7 : h.k ≠ 8) (g8 : h.k ≠ 9) : Calls Tryd.prog pshF #[h.v] W fun e w' => e = .returned (.string (bQ)) ∧ Below W.heap.size W w' := by
  letI fc : FC := fcW W h [] hT
  have hfc : FcAt W := fcW_nil
  obtain ⟨f1, f2, f3, f4, f5, f6, f7, f8, f9, f10, f11, f12, f13⟩ := sz_facts
  have ok := hv.ok
  have n1 := numB_size h.n ok.2.1
  have n2 := numB_size h.m ok.2.2.1
  have r1 := ok.2.1
  have r2 := ok.2.2.1
  unfold I64 at r1 r2
  have hkn : KnGOk Tryd.prog (kgNum 31) := kgNum_ok fun a w ha hf => itoa_any a ha w (hT.below hf.1)
  refine cut_allA (fn := Tryd.f15) [.g h.sv] [.bool false, .bool false, .bool false, .bool false, .bool false, .bool false, .bool false, .bool false, .bool false] rfl rfl ?_ (by simp [bd, bdL, VH.sv]) ?_ hfc
  · simp [denL, den, VH.v, VH.sv]
  · refine cut_end (v := .string (bQ)) hkn 100000 (cs := [(.bool (h.k == 8), .bool false), (.bool (h.k == 6), .bool false), (.bool (h.k == 9), .bool false), (.bool (h.k == 7), .bool false), (.bool (h.k == 5), .bool false), (.bool (h.k == 4), .bool false), (.bool (h.k == 3), .bool false), (.bool (h.k == 2), .bool false), (.bool (h.k == 1), .bool false)]) (by kernel_rfl) ?_
    intro q hq
    simp only [List.mem_cons, List.not_mem_nil, or_false] at hq
    rcases hq with rfl | rfl | rfl | rfl | rfl | rfl | rfl | rfl | rfl
    all_goals first
      | exact congrArg Value.bool (decide_eq_true (by simp only [ByteArray.size_append]; omega))
      | exact congrArg Value.bool (by simp; assumption)
      | exact congrArg Value.bool (by simp; omega)
      | rfl
theorem psh_is : ∀ (d : Nat), d ≤ 40 → ∀ (W : World) (h : VH), VT d W h → deepB d W h = true → TabP W → Calls Tryd.prog pshF #[h.v] W fun e w' => e = .returned (.string (showW d W h)) ∧ Below W.heap.size W w'
  | 0, _, W, h, _, hd, _ => by cases hd
  | d + 1, hd1, W, h, hv, hd, hT => by
    have ih : ∀ i, i < h.len → ∀ w, Below W.heap.size W w → Calls Tryd.prog pshF #[(h.kid W i).v] w fun e w' => e = .returned (.string (showW d W (h.kid W i))) ∧ Below w.heap.size w w' := fun i hi w hw => by
      obtain ⟨e1, k1⟩ := kid_below hw hv hi
      have := psh_is d (by omega) w (h.kid W i) (VT.below hw k1) (by rw [deepB_below hw k1]; exact deepB_kid hd hi) (hT.below hw)
      rw [showW_below hw k1] at this
      exact this
    have hz : ∀ i, i < h.len → (showW d W (h.kid W i)).size ≤ 1000000000000000 := fun i hi => by
      have h1 := showW_size d (kid_below (below_rfl W) hv hi).2
      have h2 : (2 : Nat) ^ d ≤ 2 ^ 40 := Nat.pow_le_pow_right (by omega) (by omega)
      have h3 : (2 : Nat) ^ 40 = 1099511627776 := by decide
      omega
    have fin : ∀ b, showW (d + 1) W h = b → (Calls Tryd.prog pshF #[h.v] W fun e w' => e = .returned (.string b) ∧ Below W.heap.size W w') → Calls Tryd.prog pshF #[h.v] W fun e w' => e = .returned (.string (showW (d + 1) W h)) ∧ Below W.heap.size W w' := fun b e hc => by rw [e]; exact hc
    by_cases g1 : h.k = 1
    · exact fin _ (by simp [showW, g1]) (psh_1 hT hv g1)
    by_cases g2 : h.k = 2
    · by_cases hn : h.n = 0
      · exact fin _ (by simp [showW, g2, hn]) (psh_2f hT hv g2 hn)
      · exact fin _ (by simp [showW, g2, hn]) (psh_2t hT hv g2 hn)
    by_cases g3 : h.k = 3
    · exact fin _ (by simp [showW, g3]) (psh_3 hT hv g3)
    by_cases g4 : h.k = 4
    · exact fin _ (by simp [showW, g4]) (psh_4 hT hv g4)
    by_cases g5 : h.k = 5
    · exact fin _ (by simp [showW, g5]) (psh_5 hT hv g5)
    by_cases g7 : h.k = 7
    · exact fin _ (by simp [showW, g7]) (psh_7 hT hv g7)
    by_cases g9 : h.k = 9
    · exact fin _ (by simp [showW, g9]) (psh_9 hT hv g9)
    by_cases g6 : h.k = 6
    · by_cases hl : h.len = 2
      · exact fin _ (by simp [showW, g6, hl]) (psh_6 hT hv g6 hl ih hz)
      · exact fin _ (by simp [showW, g6, hl]) (psh_6n hT hv g6 hl)
    by_cases g8 : h.k = 8
    · by_cases hl : h.len = 1
      · by_cases hk : (h.kid W 0).k = 8
        · exact fin _ (by simp [showW, g8, hl, hk]) (psh_8t hT hv g8 hl hk ih hz)
        · exact fin _ (by simp [showW, g8, hl, hk]) (psh_8f hT hv g8 hl hk ih hz)
      · exact fin _ (by simp [showW, g8, hl]) (psh_8n hT hv g8 hl)
    exact fin _ (by simp [showW, g1, g2, g3, g4, g5, g6, g7, g8, g9]) (psh_o hT hv g1 g2 g3 g4 g5 g6 g7 g8 g9)
end Go.Proofs.YtoijdnlplbeomaaDoor


/-
  Layer 8: the text of a value, as the reference writes it.
-/
namespace Go.Proofs.YtoijdnlplbeomaaDoor
open Go Go.RowKit EX
set_option maxRecDepth 100000
set_option linter.unusedVariables false
set_option linter.unusedSimpArgs false
set_option linter.unusedSectionVars false
abbrev rshF : FuncId := 33
theorem rsh_1 {d : Nat} {W : World} {h : VH} {L : Int} (hL : L ≠ 0 ∧ IntKind.i64.wrap (L - 1) = L - 1) (hT : TabP W) (hv : VT (d + 1) W h) (g0 : h.k = 1) : Calls Tryd.prog rshF #[h.v, .int .i64 L] W fun e w' => e = .returned (.string (numB h.n)) ∧ Below W.heap.size W w' := by
  letI fc : FC := fcW W h [] hT
  have hfc : FcAt W := fcW_nil
  obtain ⟨f1, f2, f3, f4, f5, f6, f7, f8, f9, f10, f11, f12, f13⟩ := sz_facts
  have ok := hv.ok
  have n1 := numB_size h.n ok.2.1
  have n2 := numB_size h.m ok.2.2.1
  have r1 := ok.2.1
  have r2 := ok.2.2.1
  unfold I64 at r1 r2
  have hkn : KnGOk Tryd.prog (kgNum 41) := kgNum_ok fun a w ha hf => num_any a ha w
  refine cut_allA (fn := Tryd.f33) [.g [.v (.int .i64 1), .y (.int .i64 h.n), .y (.int .i64 h.m), .y (.slice h.a h.len h.cap)], .y (.int .i64 L)] [.bool false] rfl rfl ?_ (by simp [bd, bdL, VH.sv]) ?_ hfc
  · simp [denL, den, VH.v, g0]
  · refine cut_endY hkn 100000 (cs := [(.bool (decide (-9223372036854775808 ≤ h.n ∧ h.n ≤ 9223372036854775807)), .bool true), (.bool (L == 0), .bool false)]) (by kernel_rfl) ?_
    intro q hq
    simp only [List.mem_cons, List.not_mem_nil, or_false] at hq
    rcases hq with rfl | rfl
    all_goals first
      | exact congrArg Value.bool (decide_eq_true (by simp only [ByteArray.size_append]; omega))
      | exact congrArg Value.bool (by simp; assumption)
      | exact congrArg Value.bool (by simp; omega)
      | rfl
      | exact congrArg (Value.int .i64) hL.2
theorem rsh_2t {d : Nat} {W : World} {h : VH} {L : Int} (hL : L ≠ 0 ∧ IntKind.i64.wrap (L - 1) = L - 1) (hT : TabP W) (hv : VT (d + 1) W h) (g0 : h.k = 2) (g1 : h.n ≠ 0) : Calls Tryd.prog rshF #[h.v, .int .i64 L] W fun e w' => e = .returned (.string (bTrue)) ∧ Below W.heap.size W w' := by
  letI fc : FC := fcW W h [] hT
  have hfc : FcAt W := fcW_nil
  obtain ⟨f1, f2, f3, f4, f5, f6, f7, f8, f9, f10, f11, f12, f13⟩ := sz_facts
  have ok := hv.ok
  have n1 := numB_size h.n ok.2.1
  have n2 := numB_size h.m ok.2.2.1
  have r1 := ok.2.1
  have r2 := ok.2.2.1
  unfold I64 at r1 r2
  have hkn : KnGOk Tryd.prog (kgNum 41) := kgNum_ok fun a w ha hf => num_any a ha w
  refine cut_allA (fn := Tryd.f33) [.g [.v (.int .i64 2), .y (.int .i64 h.n), .y (.int .i64 h.m), .y (.slice h.a h.len h.cap)], .y (.int .i64 L)] [.bool false, .bool false] rfl rfl ?_ (by simp [bd, bdL, VH.sv]) ?_ hfc
  · simp [denL, den, VH.v, g0]
  · refine cut_end (v := .string (bTrue)) hkn 100000 (cs := [(.bool (h.n == 0), .bool false), (.bool (L == 0), .bool false)]) (by kernel_rfl) ?_
    intro q hq
    simp only [List.mem_cons, List.not_mem_nil, or_false] at hq
    rcases hq with rfl | rfl
    all_goals first
      | exact congrArg Value.bool (decide_eq_true (by simp only [ByteArray.size_append]; omega))
      | exact congrArg Value.bool (by simp; assumption)
      | exact congrArg Value.bool (by simp; omega)
      | rfl
      | exact congrArg (Value.int .i64) hL.2
theorem rsh_2f {d : Nat} {W : World} {h : VH} {L : Int} (hL : L ≠ 0 ∧ IntKind.i64.wrap (L - 1) = L - 1) (hT : TabP W) (hv : VT (d + 1) W h) (g0 : h.k = 2) (g1 : h.n = 0) : Calls Tryd.prog rshF #[h.v, .int .i64 L] W fun e w' => e = .returned (.string (bFalse)) ∧ Below W.heap.size W w' := by
  letI fc : FC := fcW W h [] hT
  have hfc : FcAt W := fcW_nil
  obtain ⟨f1, f2, f3, f4, f5, f6, f7, f8, f9, f10, f11, f12, f13⟩ := sz_facts
  have ok := hv.ok
  have n1 := numB_size h.n ok.2.1
  have n2 := numB_size h.m ok.2.2.1
  have r1 := ok.2.1
  have r2 := ok.2.2.1
  unfold I64 at r1 r2
  have hkn : KnGOk Tryd.prog (kgNum 41) := kgNum_ok fun a w ha hf => num_any a ha w
  refine cut_allA (fn := Tryd.f33) [.g [.v (.int .i64 2), .y (.int .i64 h.n), .y (.int .i64 h.m), .y (.slice h.a h.len h.cap)], .y (.int .i64 L)] [.bool false, .bool true] rfl rfl ?_ (by simp [bd, bdL, VH.sv]) ?_ hfc
  · simp [denL, den, VH.v, g0]
  · refine cut_end (v := .string (bFalse)) hkn 100000 (cs := [(.bool (h.n == 0), .bool true), (.bool (L == 0), .bool false)]) (by kernel_rfl) ?_
    intro q hq
    simp only [List.mem_cons, List.not_mem_nil, or_false] at hq
    rcases hq with rfl | rfl
    all_goals first
      | exact congrArg Value.bool (decide_eq_true (by simp only [ByteArray.size_append]; omega))
      | exact congrArg Value.bool (by simp; assumption)
      | exact congrArg Value.bool (by simp; omega)
      | rfl
      | exact congrArg (Value.int .i64) hL.2
theorem rsh_3 {d : Nat} {W : World} {h : VH} {L : Int} (hL : L ≠ 0 ∧ IntKind.i64.wrap (L - 1) = L - 1) (hT : TabP W) (hv : VT (d + 1) W h) (g0 : h.k = 3) : Calls Tryd.prog rshF #[h.v, .int .i64 L] W fun e w' => e = .returned (.string (bUnit)) ∧ Below W.heap.size W w' := by
  letI fc : FC := fcW W h [] hT
  have hfc : FcAt W := fcW_nil
  obtain ⟨f1, f2, f3, f4, f5, f6, f7, f8, f9, f10, f11, f12, f13⟩ := sz_facts
  have ok := hv.ok
  have n1 := numB_size h.n ok.2.1
  have n2 := numB_size h.m ok.2.2.1
  have r1 := ok.2.1
  have r2 := ok.2.2.1
  unfold I64 at r1 r2
  have hkn : KnGOk Tryd.prog (kgNum 41) := kgNum_ok fun a w ha hf => num_any a ha w
  refine cut_allA (fn := Tryd.f33) [.g [.v (.int .i64 3), .y (.int .i64 h.n), .y (.int .i64 h.m), .y (.slice h.a h.len h.cap)], .y (.int .i64 L)] [.bool false] rfl rfl ?_ (by simp [bd, bdL, VH.sv]) ?_ hfc
  · simp [denL, den, VH.v, g0]
  · refine cut_end (v := .string (bUnit)) hkn 100000 (cs := [(.bool (L == 0), .bool false)]) (by kernel_rfl) ?_
    intro q hq
    simp only [List.mem_cons, List.not_mem_nil, or_false] at hq
    rcases hq with rfl
    all_goals first
      | exact congrArg Value.bool (decide_eq_true (by simp only [ByteArray.size_append]; omega))
      | exact congrArg Value.bool (by simp; assumption)
      | exact congrArg Value.bool (by simp; omega)
      | rfl
      | exact congrArg (Value.int .i64) hL.2
theorem rsh_4 {d : Nat} {W : World} {h : VH} {L : Int} (hL : L ≠ 0 ∧ IntKind.i64.wrap (L - 1) = L - 1) (hT : TabP W) (hv : VT (d + 1) W h) (g0 : h.k = 4) : Calls Tryd.prog rshF #[h.v, .int .i64 L] W fun e w' => e = .returned (.string (bAt ++ numB h.n)) ∧ Below W.heap.size W w' := by
  letI fc : FC := fcW W h [] hT
  have hfc : FcAt W := fcW_nil
  obtain ⟨f1, f2, f3, f4, f5, f6, f7, f8, f9, f10, f11, f12, f13⟩ := sz_facts
  have ok := hv.ok
  have n1 := numB_size h.n ok.2.1
  have n2 := numB_size h.m ok.2.2.1
  have r1 := ok.2.1
  have r2 := ok.2.2.1
  unfold I64 at r1 r2
  have hkn : KnGOk Tryd.prog (kgNum 41) := kgNum_ok fun a w ha hf => num_any a ha w
  refine cut_allA (fn := Tryd.f33) [.g [.v (.int .i64 4), .y (.int .i64 h.n), .y (.int .i64 h.m), .y (.slice h.a h.len h.cap)], .y (.int .i64 L)] [.bool false] rfl rfl ?_ (by simp [bd, bdL, VH.sv]) ?_ hfc
  · simp [denL, den, VH.v, g0]
  · refine cut_endY hkn 100000 (cs := [(.bool (decide ((bAt).size + (numB h.n).size ≤ 9223372036854775807)), .bool true), (.bool (decide (-9223372036854775808 ≤ h.n ∧ h.n ≤ 9223372036854775807)), .bool true), (.bool (L == 0), .bool false)]) (by kernel_rfl) ?_
    intro q hq
    simp only [List.mem_cons, List.not_mem_nil, or_false] at hq
    rcases hq with rfl | rfl | rfl
    all_goals first
      | exact congrArg Value.bool (decide_eq_true (by simp only [ByteArray.size_append]; omega))
      | exact congrArg Value.bool (by simp; assumption)
      | exact congrArg Value.bool (by simp; omega)
      | rfl
      | exact congrArg (Value.int .i64) hL.2
theorem rsh_5 {d : Nat} {W : World} {h : VH} {L : Int} (hL : L ≠ 0 ∧ IntKind.i64.wrap (L - 1) = L - 1) (hT : TabP W) (hv : VT (d + 1) W h) (g0 : h.k = 5) : Calls Tryd.prog rshF #[h.v, .int .i64 L] W fun e w' => e = .returned (.string (bAt ++ numB h.n ++ bHash ++ numB h.m)) ∧ Below W.heap.size W w' := by
  letI fc : FC := fcW W h [] hT
  have hfc : FcAt W := fcW_nil
  obtain ⟨f1, f2, f3, f4, f5, f6, f7, f8, f9, f10, f11, f12, f13⟩ := sz_facts
  have ok := hv.ok
  have n1 := numB_size h.n ok.2.1
  have n2 := numB_size h.m ok.2.2.1
  have r1 := ok.2.1
  have r2 := ok.2.2.1
  unfold I64 at r1 r2
  have hkn : KnGOk Tryd.prog (kgNum 41) := kgNum_ok fun a w ha hf => num_any a ha w
  refine cut_allA (fn := Tryd.f33) [.g [.v (.int .i64 5), .y (.int .i64 h.n), .y (.int .i64 h.m), .y (.slice h.a h.len h.cap)], .y (.int .i64 L)] [.bool false] rfl rfl ?_ (by simp [bd, bdL, VH.sv]) ?_ hfc
  · simp [denL, den, VH.v, g0]
  · refine cut_endY hkn 100000 (cs := [(.bool (decide ((bAt ++ numB h.n ++ bHash).size + (numB h.m).size ≤ 9223372036854775807)), .bool true), (.bool (decide (-9223372036854775808 ≤ h.m ∧ h.m ≤ 9223372036854775807)), .bool true), (.bool (decide ((bAt ++ numB h.n).size + (bHash).size ≤ 9223372036854775807)), .bool true), (.bool (decide ((bAt).size + (numB h.n).size ≤ 9223372036854775807)), .bool true), (.bool (decide (-9223372036854775808 ≤ h.n ∧ h.n ≤ 9223372036854775807)), .bool true), (.bool (L == 0), .bool false)]) (by kernel_rfl) ?_
    intro q hq
    simp only [List.mem_cons, List.not_mem_nil, or_false] at hq
    rcases hq with rfl | rfl | rfl | rfl | rfl | rfl
    all_goals first
      | exact congrArg Value.bool (decide_eq_true (by simp only [ByteArray.size_append]; omega))
      | exact congrArg Value.bool (by simp; assumption)
      | exact congrArg Value.bool (by simp; omega)
      | rfl
      | exact congrArg (Value.int .i64) hL.2
theorem rsh_7 {d : Nat} {W : World} {h : VH} {L : Int} (hL : L ≠ 0 ∧ IntKind.i64.wrap (L - 1) = L - 1) (hT : TabP W) (hv : VT (d + 1) W h) (g0 : h.k = 7) : Calls Tryd.prog rshF #[h.v, .int .i64 L] W fun e w' => e = .returned (.string (bNone)) ∧ Below W.heap.size W w' := by
  letI fc : FC := fcW W h [] hT
  have hfc : FcAt W := fcW_nil
  obtain ⟨f1, f2, f3, f4, f5, f6, f7, f8, f9, f10, f11, f12, f13⟩ := sz_facts
  have ok := hv.ok
  have n1 := numB_size h.n ok.2.1
  have n2 := numB_size h.m ok.2.2.1
  have r1 := ok.2.1
  have r2 := ok.2.2.1
  unfold I64 at r1 r2
  have hkn : KnGOk Tryd.prog (kgNum 41) := kgNum_ok fun a w ha hf => num_any a ha w
  refine cut_allA (fn := Tryd.f33) [.g [.v (.int .i64 7), .y (.int .i64 h.n), .y (.int .i64 h.m), .y (.slice h.a h.len h.cap)], .y (.int .i64 L)] [.bool false] rfl rfl ?_ (by simp [bd, bdL, VH.sv]) ?_ hfc
  · simp [denL, den, VH.v, g0]
  · refine cut_end (v := .string (bNone)) hkn 100000 (cs := [(.bool (L == 0), .bool false)]) (by kernel_rfl) ?_
    intro q hq
    simp only [List.mem_cons, List.not_mem_nil, or_false] at hq
    rcases hq with rfl
    all_goals first
      | exact congrArg Value.bool (decide_eq_true (by simp only [ByteArray.size_append]; omega))
      | exact congrArg Value.bool (by simp; assumption)
      | exact congrArg Value.bool (by simp; omega)
      | rfl
      | exact congrArg (Value.int .i64) hL.2
theorem rsh_9 {d : Nat} {W : World} {h : VH} {L : Int} (hL : L ≠ 0 ∧ IntKind.i64.wrap (L - 1) = L - 1) (hT : TabP W) (hv : VT (d + 1) W h) (g0 : h.k = 9) : Calls Tryd.prog rshF #[h.v, .int .i64 L] W fun e w' => e = .returned (.string (bFun)) ∧ Below W.heap.size W w' := by
  letI fc : FC := fcW W h [] hT
  have hfc : FcAt W := fcW_nil
  obtain ⟨f1, f2, f3, f4, f5, f6, f7, f8, f9, f10, f11, f12, f13⟩ := sz_facts
  have ok := hv.ok
  have n1 := numB_size h.n ok.2.1
  have n2 := numB_size h.m ok.2.2.1
  have r1 := ok.2.1
  have r2 := ok.2.2.1
  unfold I64 at r1 r2
  have hkn : KnGOk Tryd.prog (kgNum 41) := kgNum_ok fun a w ha hf => num_any a ha w
  refine cut_allA (fn := Tryd.f33) [.g [.v (.int .i64 9), .y (.int .i64 h.n), .y (.int .i64 h.m), .y (.slice h.a h.len h.cap)], .y (.int .i64 L)] [.bool false] rfl rfl ?_ (by simp [bd, bdL, VH.sv]) ?_ hfc
  · simp [denL, den, VH.v, g0]
  · refine cut_end (v := .string (bFun)) hkn 100000 (cs := [(.bool (L == 0), .bool false)]) (by kernel_rfl) ?_
    intro q hq
    simp only [List.mem_cons, List.not_mem_nil, or_false] at hq
    rcases hq with rfl
    all_goals first
      | exact congrArg Value.bool (decide_eq_true (by simp only [ByteArray.size_append]; omega))
      | exact congrArg Value.bool (by simp; assumption)
      | exact congrArg Value.bool (by simp; omega)
      | rfl
      | exact congrArg (Value.int .i64) hL.2
theorem rsh_6 {d : Nat} {W : World} {h : VH} {L : Int} (hL : L ≠ 0 ∧ IntKind.i64.wrap (L - 1) = L - 1) (hT : TabP W) (hv : VT (d + 1) W h) (g0 : h.k = 6) (g1 : h.len = 2) (ih : ∀ i, i < h.len → ∀ w, Below W.heap.size W w → Calls Tryd.prog rshF #[(h.kid W i).v, .int .i64 (L - 1)] w fun e w' => e = .returned (.string (showW d W (h.kid W i))) ∧ Below w.heap.size w w') (hz : ∀ i, i < h.len → (showW d W (h.kid W i)).size ≤ 1000000000000000) : Calls Tryd.prog rshF #[h.v, .int .i64 L] W fun e w' => e = .returned (.string (bLP ++ (showW d W (h.kid W 0)) ++ bComma ++ (showW d W (h.kid W 1)) ++ bRP)) ∧ Below W.heap.size W w' := by
  letI fc : FC := fcW W h ((h.kid W 0).sv ++ (h.kid W 1).sv) hT
  have hfc : FcAt W := fcW_2 hv g1
  obtain ⟨f1, f2, f3, f4, f5, f6, f7, f8, f9, f10, f11, f12, f13⟩ := sz_facts
  have ok := hv.ok
  have n1 := numB_size h.n ok.2.1
  have n2 := numB_size h.m ok.2.2.1
  have r1 := ok.2.1
  have r2 := ok.2.2.1
  unfold I64 at r1 r2
  have z0 := hz 0 (by omega)
  have z1 := hz 1 (by omega)
  have hkn : KnGOk Tryd.prog (kgP2 rshF [(h.kid W 0).v, .int .i64 (L - 1)] [(h.kid W 1).v, .int .i64 (L - 1)] (.y (.string (showW d W (h.kid W 0)))) (.y (.string (showW d W (h.kid W 1))))) := kgP2_ok (kgAt_ok (by simp [bd]) fun w hf => by have := ih 0 (by omega) w hf.1; simpa [den] using this) (kgAt_ok (by simp [bd]) fun w hf => by have := ih 1 (by omega) w hf.1; simpa [den] using this)
  refine cut_allA (fn := Tryd.f33) [.g [.v (.int .i64 6), .y (.int .i64 h.n), .y (.int .i64 h.m), .q 0 0 2 h.cap], .y (.int .i64 L)] [.bool false, .bool true, .bool true, .bool false] rfl rfl ?_ (by simp [bd, bdL, VH.sv]) ?_ hfc
  · rcases hv.2 with q | ⟨b1, o1, e1, _⟩
    · omega
    · have eb : bOf h = b1 := by unfold bOf; rw [e1]
      have eo : oOf h = o1 := by unfold oOf; rw [e1]
      simp [denL, den, VH.v, g0, g1, e1]
      exact ⟨eb, eo⟩
  · refine cut_endY hkn 100000 (cs := [(.bool (decide ((bLP ++ (showW d W (h.kid W 0)) ++ bComma ++ (showW d W (h.kid W 1))).size + (bRP).size ≤ 9223372036854775807)), .bool true), (.bool (decide ((bLP ++ (showW d W (h.kid W 0)) ++ bComma).size + ((showW d W (h.kid W 1))).size ≤ 9223372036854775807)), .bool true), ((.agg #[.int .i64 (h.kid W 1).k, .int .i64 (h.kid W 1).n, .int .i64 (h.kid W 1).m, .slice (h.kid W 1).a (h.kid W 1).len (h.kid W 1).cap]), (h.kid W 1).v), (.int .i64 (IntKind.i64.wrap (L - 1)), .int .i64 (L - 1)), (.bool (decide ((bLP ++ (showW d W (h.kid W 0))).size + (bComma).size ≤ 9223372036854775807)), .bool true), (.bool (decide ((bLP).size + ((showW d W (h.kid W 0))).size ≤ 9223372036854775807)), .bool true), ((.agg #[.int .i64 (h.kid W 0).k, .int .i64 (h.kid W 0).n, .int .i64 (h.kid W 0).m, .slice (h.kid W 0).a (h.kid W 0).len (h.kid W 0).cap]), (h.kid W 0).v), (.int .i64 (IntKind.i64.wrap (L - 1)), .int .i64 (L - 1)), (.bool (((2 : Nat) : Int) == 2), .bool true), (.bool (L == 0), .bool false)]) (by kernel_rfl) ?_
    intro q hq
    simp only [List.mem_cons, List.not_mem_nil, or_false] at hq
    rcases hq with rfl | rfl | rfl | rfl | rfl | rfl | rfl | rfl | rfl | rfl
    all_goals first
      | exact congrArg Value.bool (decide_eq_true (by simp only [ByteArray.size_append]; omega))
      | exact congrArg Value.bool (by simp; assumption)
      | exact congrArg Value.bool (by simp; omega)
      | rfl
      | exact congrArg (Value.int .i64) hL.2
theorem rsh_6n {d : Nat} {W : World} {h : VH} {L : Int} (hL : L ≠ 0 ∧ IntKind.i64.wrap (L - 1) = L - 1) (hT : TabP W) (hv : VT (d + 1) W h) (g0 : h.k = 6) (g1 : h.len ≠ 2) : Calls Tryd.prog rshF #[h.v, .int .i64 L] W fun e w' => e = .returned (.string (bQ)) ∧ Below W.heap.size W w' := by
  letI fc : FC := fcW W h [] hT
  have hfc : FcAt W := fcW_nil
  obtain ⟨f1, f2, f3, f4, f5, f6, f7, f8, f9, f10, f11, f12, f13⟩ := sz_facts
  have ok := hv.ok
  have n1 := numB_size h.n ok.2.1
  have n2 := numB_size h.m ok.2.2.1
  have r1 := ok.2.1
  have r2 := ok.2.2.1
  unfold I64 at r1 r2
  have hkn : KnGOk Tryd.prog (kgNum 41) := kgNum_ok fun a w ha hf => num_any a ha w
  refine cut_allA (fn := Tryd.f33) [.g [.v (.int .i64 6), .y (.int .i64 h.n), .y (.int .i64 h.m), .y (.slice h.a h.len h.cap)], .y (.int .i64 L)] [.bool false, .bool false] rfl rfl ?_ (by simp [bd, bdL, VH.sv]) ?_ hfc
  · simp [denL, den, VH.v, g0]
  · refine cut_end (v := .string (bQ)) hkn 100000 (cs := [(.bool (((h.len : Nat) : Int) == 2), .bool false), (.bool (L == 0), .bool false)]) (by kernel_rfl) ?_
    intro q hq
    simp only [List.mem_cons, List.not_mem_nil, or_false] at hq
    rcases hq with rfl | rfl
    all_goals first
      | exact congrArg Value.bool (decide_eq_true (by simp only [ByteArray.size_append]; omega))
      | exact congrArg Value.bool (by simp; assumption)
      | exact congrArg Value.bool (by simp; omega)
      | rfl
      | exact congrArg (Value.int .i64) hL.2
theorem rsh_8t {d : Nat} {W : World} {h : VH} {L : Int} (hL : L ≠ 0 ∧ IntKind.i64.wrap (L - 1) = L - 1) (hT : TabP W) (hv : VT (d + 1) W h) (g0 : h.k = 8) (g1 : h.len = 1) (g2 : (h.kid W 0).k = 8) (ih : ∀ i, i < h.len → ∀ w, Below W.heap.size W w → Calls Tryd.prog rshF #[(h.kid W i).v, .int .i64 (L - 1)] w fun e w' => e = .returned (.string (showW d W (h.kid W i))) ∧ Below w.heap.size w w') (hz : ∀ i, i < h.len → (showW d W (h.kid W i)).size ≤ 1000000000000000) : Calls Tryd.prog rshF #[h.v, .int .i64 L] W fun e w' => e = .returned (.string (bSomeP ++ (showW d W (h.kid W 0)) ++ bRP)) ∧ Below W.heap.size W w' := by
  letI fc : FC := fcW W h (h.kid W 0).sv hT
  have hfc : FcAt W := fcW_1 hv g1
  obtain ⟨f1, f2, f3, f4, f5, f6, f7, f8, f9, f10, f11, f12, f13⟩ := sz_facts
  have ok := hv.ok
  have n1 := numB_size h.n ok.2.1
  have n2 := numB_size h.m ok.2.2.1
  have r1 := ok.2.1
  have r2 := ok.2.2.1
  unfold I64 at r1 r2
  have z0 := hz 0 (by omega)
  have hkn : KnGOk Tryd.prog (kgAt rshF [(h.kid W 0).v, .int .i64 (L - 1)] (.y (.string (showW d W (h.kid W 0))))) := kgAt_ok (by simp [bd]) fun w hf => by have := ih 0 (by omega) w hf.1; simpa [den] using this
  refine cut_allA (fn := Tryd.f33) [.g [.v (.int .i64 8), .y (.int .i64 h.n), .y (.int .i64 h.m), .q 0 0 1 h.cap], .y (.int .i64 L)] [.bool false, .bool true, .bool true] rfl rfl ?_ (by simp [bd, bdL, VH.sv]) ?_ hfc
  · rcases hv.2 with q | ⟨b1, o1, e1, _⟩
    · omega
    · have eb : bOf h = b1 := by unfold bOf; rw [e1]
      have eo : oOf h = o1 := by unfold oOf; rw [e1]
      simp [denL, den, VH.v, g0, g1, e1]
      exact ⟨eb, eo⟩
  · refine cut_endY hkn 100000 (cs := [(.bool (decide ((bSomeP ++ (showW d W (h.kid W 0))).size + (bRP).size ≤ 9223372036854775807)), .bool true), (.bool (decide ((bSomeP).size + ((showW d W (h.kid W 0))).size ≤ 9223372036854775807)), .bool true), ((.agg #[.int .i64 (h.kid W 0).k, .int .i64 (h.kid W 0).n, .int .i64 (h.kid W 0).m, .slice (h.kid W 0).a (h.kid W 0).len (h.kid W 0).cap]), (h.kid W 0).v), (.int .i64 (IntKind.i64.wrap (L - 1)), .int .i64 (L - 1)), (.bool ((h.kid W 0).k == 8), .bool true), (.bool (((1 : Nat) : Int) == 1), .bool true), (.bool (L == 0), .bool false)]) (by kernel_rfl) ?_
    intro q hq
    simp only [List.mem_cons, List.not_mem_nil, or_false] at hq
    rcases hq with rfl | rfl | rfl | rfl | rfl | rfl | rfl
    all_goals first
      | exact congrArg Value.bool (decide_eq_true (by simp only [ByteArray.size_append]; omega))
      | exact congrArg Value.bool (by simp; assumption)
      | exact congrArg Value.bool (by simp; omega)
      | rfl
      | exact congrArg (Value.int .i64) hL.2
theorem rsh_8f {d : Nat} {W : World} {h : VH} {L : Int} (hL : L ≠ 0 ∧ IntKind.i64.wrap (L - 1) = L - 1) (hT : TabP W) (hv : VT (d + 1) W h) (g0 : h.k = 8) (g1 : h.len = 1) (g2 : (h.kid W 0).k ≠ 8) (ih : ∀ i, i < h.len → ∀ w, Below W.heap.size W w → Calls Tryd.prog rshF #[(h.kid W i).v, .int .i64 (L - 1)] w fun e w' => e = .returned (.string (showW d W (h.kid W i))) ∧ Below w.heap.size w w') (hz : ∀ i, i < h.len → (showW d W (h.kid W i)).size ≤ 1000000000000000) : Calls Tryd.prog rshF #[h.v, .int .i64 L] W fun e w' => e = .returned (.string (bSome ++ (showW d W (h.kid W 0)))) ∧ Below W.heap.size W w' := by
  letI fc : FC := fcW W h (h.kid W 0).sv hT
  have hfc : FcAt W := fcW_1 hv g1
  obtain ⟨f1, f2, f3, f4, f5, f6, f7, f8, f9, f10, f11, f12, f13⟩ := sz_facts
  have ok := hv.ok
  have n1 := numB_size h.n ok.2.1
  have n2 := numB_size h.m ok.2.2.1
  have r1 := ok.2.1
  have r2 := ok.2.2.1
  unfold I64 at r1 r2
  have z0 := hz 0 (by omega)
  have hkn : KnGOk Tryd.prog (kgAt rshF [(h.kid W 0).v, .int .i64 (L - 1)] (.y (.string (showW d W (h.kid W 0))))) := kgAt_ok (by simp [bd]) fun w hf => by have := ih 0 (by omega) w hf.1; simpa [den] using this
  refine cut_allA (fn := Tryd.f33) [.g [.v (.int .i64 8), .y (.int .i64 h.n), .y (.int .i64 h.m), .q 0 0 1 h.cap], .y (.int .i64 L)] [.bool false, .bool true, .bool false, .bool true] rfl rfl ?_ (by simp [bd, bdL, VH.sv]) ?_ hfc
  · rcases hv.2 with q | ⟨b1, o1, e1, _⟩
    · omega
    · have eb : bOf h = b1 := by unfold bOf; rw [e1]
      have eo : oOf h = o1 := by unfold oOf; rw [e1]
      simp [denL, den, VH.v, g0, g1, e1]
      exact ⟨eb, eo⟩
  · refine cut_endY hkn 100000 (cs := [(.bool (decide ((bSome).size + ((showW d W (h.kid W 0))).size ≤ 9223372036854775807)), .bool true), ((.agg #[.int .i64 (h.kid W 0).k, .int .i64 (h.kid W 0).n, .int .i64 (h.kid W 0).m, .slice (h.kid W 0).a (h.kid W 0).len (h.kid W 0).cap]), (h.kid W 0).v), (.int .i64 (IntKind.i64.wrap (L - 1)), .int .i64 (L - 1)), (.bool (((1 : Nat) : Int) == 1), .bool true), (.bool ((h.kid W 0).k == 8), .bool false), (.bool (((1 : Nat) : Int) == 1), .bool true), (.bool (L == 0), .bool false)]) (by kernel_rfl) ?_
    intro q hq
    simp only [List.mem_cons, List.not_mem_nil, or_false] at hq
    rcases hq with rfl | rfl | rfl | rfl | rfl | rfl | rfl
    all_goals first
      | exact congrArg Value.bool (decide_eq_true (by simp only [ByteArray.size_append]; omega))
      | exact congrArg Value.bool (by simp; assumption)
      | exact congrArg Value.bool (by simp; omega)
      | rfl
      | exact congrArg (Value.int .i64) hL.2
theorem rsh_8n {d : Nat} {W : World} {h : VH} {L : Int} (hL : L ≠ 0 ∧ IntKind.i64.wrap (L - 1) = L - 1) (hT : TabP W) (hv : VT (d + 1) W h) (g0 : h.k = 8) (g1 : h.len ≠ 1) : Calls Tryd.prog rshF #[h.v, .int .i64 L] W fun e w' => e = .returned (.string (bQ)) ∧ Below W.heap.size W w' := by
  letI fc : FC := fcW W h [] hT
  have hfc : FcAt W := fcW_nil
  obtain ⟨f1, f2, f3, f4, f5, f6, f7, f8, f9, f10, f11, f12, f13⟩ := sz_facts
  have ok := hv.ok
  have n1 := numB_size h.n ok.2.1
  have n2 := numB_size h.m ok.2.2.1
  have r1 := ok.2.1
  have r2 := ok.2.2.1
  unfold I64 at r1 r2
  have hkn : KnGOk Tryd.prog (kgNum 41) := kgNum_ok fun a w ha hf => num_any a ha w
  refine cut_allA (fn := Tryd.f33) [.g [.v (.int .i64 8), .y (.int .i64 h.n), .y (.int .i64 h.m), .y (.slice h.a h.len h.cap)], .y (.int .i64 L)] [.bool false, .bool false, .bool false] rfl rfl ?_ (by simp [bd, bdL, VH.sv]) ?_ hfc
  · simp [denL, den, VH.v, g0]
  · refine cut_end (v := .string (bQ)) hkn 100000 (cs := [(.bool (((h.len : Nat) : Int) == 1), .bool false), (.bool (((h.len : Nat) : Int) == 1), .bool false), (.bool (L == 0), .bool false)]) (by kernel_rfl) ?_
    intro q hq
    simp only [List.mem_cons, List.not_mem_nil, or_false] at hq
    rcases hq with rfl | rfl | rfl
    all_goals first
      | exact congrArg Value.bool (decide_eq_true (by simp only [ByteArray.size_append]; omega))
      | exact congrArg Value.bool (by simp; assumption)
      | exact congrArg Value.bool (by simp; omega)
      | rfl
      | exact congrArg (Value.int .i64) hL.2
theorem rsh_o {d : Nat} {W : World} {h : VH} {L : Int} (hL : L ≠ 0 ∧ IntKind.i64.wrap (L - 1) = L - 1) (hT : TabP W) (hv : VT (d + 1) W h) (g0 : h.k ≠ 1) (g1 : h.k ≠ 2) (g2 : h.k ≠ 3) (g3 : h.k ≠ 4) (g4 : h.k ≠ 5) (g5 : h.k ≠ 6) (g6 : h.k ≠ 7) (g7 : h.k ≠ 8) (g8 : h.k ≠ 9) : Calls Tryd.prog rshF #[h.v, .int .i64 L] W fun e w' => e = .returned (.string (bQ)) ∧ Below W.heap.size W w' := by
  letI fc : FC := fcW W h [] hT
  have hfc : FcAt W := fcW_nil
  obtain ⟨f1, f2, f3, f4, f5, f6, f7, f8, f9, f10, f11, f12, f13⟩ := sz_facts
  have ok := hv.ok
  have n1 := numB_size h.n ok.2.1
  have n2 := numB_size h.m ok.2.2.1
  have r1 := ok.2.1
  have r2 := ok.2.2.1
  unfold I64 at r1 r2
  have hkn : KnGOk Tryd.prog (kgNum 41) := kgNum_ok fun a w ha hf => num_any a ha w
  refine cut_allA (fn := Tryd.f33) [.g h.sv, .y (.int .i64 L)] [.bool false, .bool false, .bool false, .bool false, .bool false, .bool false, .bool false, .bool false, .bool false, .bool false] rfl rfl ?_ (by simp [bd, bdL, VH.sv]) ?_ hfc
  · simp [denL, den, VH.v, VH.sv]
  · refine cut_end (v := .string (bQ)) hkn 100000 (cs := [(.bool (h.k == 8), .bool false), (.bool (h.k == 6), .bool false), (.bool (h.k == 9), .bool false), (.bool (h.k == 7), .bool false), (.bool (h.k == 5), .bool false), (.bool (h.k == 4), .bool false), (.bool (h.k == 3), .bool false), (.bool (h.k == 2), .bool false), (.bool (h.k == 1), .bool false), (.bool (L == 0), .bool false)]) (by kernel_rfl) ?_
    intro q hq
    simp only [List.mem_cons, List.not_mem_nil, or_false] at hq
    rcases hq with rfl | rfl | rfl | rfl | rfl | rfl | rfl | rfl | rfl | rfl
    all_goals first
      | exact congrArg Value.bool (decide_eq_true (by simp only [ByteArray.size_append]; omega))
      | exact congrArg Value.bool (by simp; assumption)
      | exact congrArg Value.bool (by simp; omega)
      | rfl
      | exact congrArg (Value.int .i64) hL.2
theorem rsh_is : ∀ (d : Nat), d ≤ 40 → ∀ (L : Int), (d : Int) ≤ L → L ≤ 1000 → ∀ (W : World) (h : VH), VT d W h → deepB d W h = true → TabP W → Calls Tryd.prog rshF #[h.v, .int .i64 L] W fun e w' => e = .returned (.string (showW d W h)) ∧ Below W.heap.size W w'
  | 0, _, L, hL0, hL1, W, h, _, hd, _ => by cases hd
  | d + 1, hd1, L, hL0, hL1, W, h, hv, hd, hT => by
    have ih : ∀ i, i < h.len → ∀ w, Below W.heap.size W w → Calls Tryd.prog rshF #[(h.kid W i).v, .int .i64 (L - 1)] w fun e w' => e = .returned (.string (showW d W (h.kid W i))) ∧ Below w.heap.size w w' := fun i hi w hw => by
      obtain ⟨e1, k1⟩ := kid_below hw hv hi
      have := rsh_is d (by omega) (L - 1) (by omega) (by omega) w (h.kid W i) (VT.below hw k1) (by rw [deepB_below hw k1]; exact deepB_kid hd hi) (hT.below hw)
      rw [showW_below hw k1] at this
      exact this
    have hz : ∀ i, i < h.len → (showW d W (h.kid W i)).size ≤ 1000000000000000 := fun i hi => by
      have h1 := showW_size d (kid_below (below_rfl W) hv hi).2
      have h2 : (2 : Nat) ^ d ≤ 2 ^ 40 := Nat.pow_le_pow_right (by omega) (by omega)
      have h3 : (2 : Nat) ^ 40 = 1099511627776 := by decide
      omega
    have fin : ∀ b, showW (d + 1) W h = b → (Calls Tryd.prog rshF #[h.v, .int .i64 L] W fun e w' => e = .returned (.string b) ∧ Below W.heap.size W w') → Calls Tryd.prog rshF #[h.v, .int .i64 L] W fun e w' => e = .returned (.string (showW (d + 1) W h)) ∧ Below W.heap.size W w' := fun b e hc => by rw [e]; exact hc
    by_cases g1 : h.k = 1
    · exact fin _ (by simp [showW, g1]) (rsh_1 ⟨by omega, by rw [IntKind.wrap_i64]; omega⟩ hT hv g1)
    by_cases g2 : h.k = 2
    · by_cases hn : h.n = 0
      · exact fin _ (by simp [showW, g2, hn]) (rsh_2f ⟨by omega, by rw [IntKind.wrap_i64]; omega⟩ hT hv g2 hn)
      · exact fin _ (by simp [showW, g2, hn]) (rsh_2t ⟨by omega, by rw [IntKind.wrap_i64]; omega⟩ hT hv g2 hn)
    by_cases g3 : h.k = 3
    · exact fin _ (by simp [showW, g3]) (rsh_3 ⟨by omega, by rw [IntKind.wrap_i64]; omega⟩ hT hv g3)
    by_cases g4 : h.k = 4
    · exact fin _ (by simp [showW, g4]) (rsh_4 ⟨by omega, by rw [IntKind.wrap_i64]; omega⟩ hT hv g4)
    by_cases g5 : h.k = 5
    · exact fin _ (by simp [showW, g5]) (rsh_5 ⟨by omega, by rw [IntKind.wrap_i64]; omega⟩ hT hv g5)
    by_cases g7 : h.k = 7
    · exact fin _ (by simp [showW, g7]) (rsh_7 ⟨by omega, by rw [IntKind.wrap_i64]; omega⟩ hT hv g7)
    by_cases g9 : h.k = 9
    · exact fin _ (by simp [showW, g9]) (rsh_9 ⟨by omega, by rw [IntKind.wrap_i64]; omega⟩ hT hv g9)
    by_cases g6 : h.k = 6
    · by_cases hl : h.len = 2
      · exact fin _ (by simp [showW, g6, hl]) (rsh_6 ⟨by omega, by rw [IntKind.wrap_i64]; omega⟩ hT hv g6 hl ih hz)
      · exact fin _ (by simp [showW, g6, hl]) (rsh_6n ⟨by omega, by rw [IntKind.wrap_i64]; omega⟩ hT hv g6 hl)
    by_cases g8 : h.k = 8
    · by_cases hl : h.len = 1
      · by_cases hk : (h.kid W 0).k = 8
        · exact fin _ (by simp [showW, g8, hl, hk]) (rsh_8t ⟨by omega, by rw [IntKind.wrap_i64]; omega⟩ hT hv g8 hl hk ih hz)
        · exact fin _ (by simp [showW, g8, hl, hk]) (rsh_8f ⟨by omega, by rw [IntKind.wrap_i64]; omega⟩ hT hv g8 hl hk ih hz)
      · exact fin _ (by simp [showW, g8, hl]) (rsh_8n ⟨by omega, by rw [IntKind.wrap_i64]; omega⟩ hT hv g8 hl)
    exact fin _ (by simp [showW, g1, g2, g3, g4, g5, g6, g7, g8, g9]) (rsh_o ⟨by omega, by rw [IntKind.wrap_i64]; omega⟩ hT hv g1 g2 g3 g4 g5 g6 g7 g8 g9)
end Go.Proofs.YtoijdnlplbeomaaDoor


/-
  Layer 8: what ValueMatchesSpec calls, as contracts: Index of program and reference, the reference's Round, Small and Show.
-/
namespace Go.Proofs.YtoijdnlplbeomaaDoor
open Go Go.RowKit EX
set_option maxRecDepth 100000
set_option linter.unusedVariables false
set_option linter.unusedSimpArgs false
set_option linter.unusedSectionVars false
def AllT (cs : List (Value × Value)) : Prop := ∀ q ∈ cs, q.1 = q.2
theorem AllT.nil : AllT [] := fun q hq => by cases hq
theorem AllT.cons {a b : Value} {l : List (Value × Value)} (h : a = b) (k : AllT l) : AllT ((a, b) :: l) := fun q hq => by
  rcases List.mem_cons.1 hq with rfl | hq
  · exact h
  · exact k q hq
def tw (F s : Int) (v : Value) : Value := .tuple #[.int .i64 F, .int .i64 s, v]
section
variable [FC]
theorem knI_okF {P : Program} {f0 : FuncId} {g : Int → Value} (h : ∀ a w, Calls P f0 #[.int .i64 a] w fun e w' => e = .returned (g a) ∧ Below w.heap.size w w') : KnOk P (knI f0 g) := by
  intro f args x cs hx
  unfold knI at hx
  split at hx
  · rename_i a hb
    simp only [Option.some.injEq, Prod.mk.injEq] at hx
    obtain ⟨rfl, rfl⟩ := hx
    have := Nat.eq_of_beq_eq_true hb
    subst this
    refine ⟨by simp [bd], fun tr B w => ?_⟩
    simpa [denL, den] using h a w
  · cases hx
theorem kn8F_ok : KnOk Tryd.prog kn8 := knOr_ok (kn1_ok sane08) (knI_okF round_any)
def kgIf (k : KnG) : KnG := fun f args st => match isYV args with
  | true => k f args st
  | false => none
theorem kgIf_ok {P : Program} {k : KnG} (h : KnGOk P k) : KnGOk P (kgIf k) := by
  intro f args st o hk
  unfold kgIf at hk
  split at hk
  · exact h f args st o hk
  · cases hk
end
theorem rightTab {W : World} {h g : VH} (b : Bool) (e : rightW 40 W h = b) : @KnGOk (fcV W h g) Tryd.prog (@kgAt (fcV W h g) 11 [h.v] (.v (.bool b))) := by
  letI fc : FC := fcV W h g
  exact kgAt_ok (by simp [bd]) fun w1 hf => by
    have := rightP_is w1 h hf.1.2.1.1
    rw [hf.1.2.2.1.1, e] at this
    simpa [den] using this
set_option maxHeartbeats 4000000 in
theorem ix_k (w W : World) (h g : VH) (n : Int) (hk : (h.k != 5) = true) (hf : @FcAt (fcV W h g) w) : Calls Tryd.prog 9 #[h.v, .int .i64 n] w fun e w' => e = .returned (.tuple #[.agg #[.int .i64 0, .int .i64 0, .int .i64 0, .slice none 0 0], .bool false]) ∧ Below w.heap.size w w' := by
  letI fc : FC := fcV W h g
  refine (@ex_runG (fcV W h g) _ (gk knNone) (gk_ok knNone_ok) 100000 _ _ [argV h, .y (.int .i64 n)] [tw 9 8 (.bool true)] (.v (.tuple #[.agg #[.int .i64 0, .int .i64 0, .int .i64 0, .slice none 0 0], .bool false])) ([(.bool (h.k != 5), .bool true)]) w (by kernel_rfl) (by simp [denL, den, argV, VH.v]) (by simp [bdL, bd, argV]) (AllT.cons (by rw [hk]) (AllT.nil)) hf).mono ?_
  rintro e w' ⟨B, he, hb⟩
  exact ⟨by rw [he]; simp [den, denL], hb⟩
set_option maxHeartbeats 4000000 in
theorem ix_r (w W : World) (h g : VH) (n : Int) (hk : (h.k != 5) = false) (hA : rightW 40 W h = false) (hf : @FcAt (fcV W h g) w) : Calls Tryd.prog 9 #[h.v, .int .i64 n] w fun e w' => e = .returned (.tuple #[.agg #[.int .i64 0, .int .i64 0, .int .i64 0, .slice none 0 0], .bool false]) ∧ Below w.heap.size w w' := by
  letI fc : FC := fcV W h g
  refine (@ex_runG (fcV W h g) _ (kgIf (kgAt 11 [h.v] (.v (.bool false)))) (kgIf_ok (rightTab false hA)) 100000 _ _ [argV h, .y (.int .i64 n)] [tw 9 8 (.bool false)] (.v (.tuple #[.agg #[.int .i64 0, .int .i64 0, .int .i64 0, .slice none 0 0], .bool false])) ([(h.v, h.v), (.bool (h.k != 5), .bool false)]) w (by kernel_rfl) (by simp [denL, den, argV, VH.v]) (by simp [bdL, bd, argV]) (AllT.cons (rfl) (AllT.cons (by rw [hk]) (AllT.nil))) hf).mono ?_
  rintro e w' ⟨B, he, hb⟩
  exact ⟨by rw [he]; simp [den, denL], hb⟩
set_option maxHeartbeats 4000000 in
theorem ix_n (w W : World) (h g : VH) (n : Int) (hk : (h.k != 5) = false) (hA : rightW 40 W h = true) (hn : decide (n < 0) = true) (hf : @FcAt (fcV W h g) w) : Calls Tryd.prog 9 #[h.v, .int .i64 n] w fun e w' => e = .returned (.tuple #[.agg #[.int .i64 0, .int .i64 0, .int .i64 0, .slice none 0 0], .bool false]) ∧ Below w.heap.size w w' := by
  letI fc : FC := fcV W h g
  refine (@ex_runG (fcV W h g) _ (kgIf (kgAt 11 [h.v] (.v (.bool true)))) (kgIf_ok (rightTab true hA)) 100000 _ _ [argV h, .y (.int .i64 n)] [tw 9 8 (.bool false), tw 9 16 (.bool true)] (.v (.tuple #[.agg #[.int .i64 0, .int .i64 0, .int .i64 0, .slice none 0 0], .bool false])) ([(.bool (decide (n < 0)), .bool true), (h.v, h.v), (.bool (h.k != 5), .bool false)]) w (by kernel_rfl) (by simp [denL, den, argV, VH.v]) (by simp [bdL, bd, argV]) (AllT.cons (by rw [hn]) (AllT.cons (rfl) (AllT.cons (by rw [hk]) (AllT.nil)))) hf).mono ?_
  rintro e w' ⟨B, he, hb⟩
  exact ⟨by rw [he]; simp [den, denL], hb⟩
set_option maxHeartbeats 4000000 in
theorem ix_m (w W : World) (h g : VH) (n : Int) (hk : (h.k != 5) = false) (hA : rightW 40 W h = true) (hn : decide (n < 0) = false) (hm : decide (n ≥ h.m) = true) (hf : @FcAt (fcV W h g) w) : Calls Tryd.prog 9 #[h.v, .int .i64 n] w fun e w' => e = .returned (.tuple #[.agg #[.int .i64 0, .int .i64 0, .int .i64 0, .slice none 0 0], .bool false]) ∧ Below w.heap.size w w' := by
  letI fc : FC := fcV W h g
  refine (@ex_runG (fcV W h g) _ (kgIf (kgAt 11 [h.v] (.v (.bool true)))) (kgIf_ok (rightTab true hA)) 100000 _ _ [argV h, .y (.int .i64 n)] [tw 9 8 (.bool false), tw 9 16 (.bool false), tw 9 22 (.bool true)] (.v (.tuple #[.agg #[.int .i64 0, .int .i64 0, .int .i64 0, .slice none 0 0], .bool false])) ([(.bool (decide (n ≥ h.m)), .bool true), (.bool (decide (n < 0)), .bool false), (h.v, h.v), (.bool (h.k != 5), .bool false)]) w (by kernel_rfl) (by simp [denL, den, argV, VH.v]) (by simp [bdL, bd, argV]) (AllT.cons (by rw [hm]) (AllT.cons (by rw [hn]) (AllT.cons (rfl) (AllT.cons (by rw [hk]) (AllT.nil))))) hf).mono ?_
  rintro e w' ⟨B, he, hb⟩
  exact ⟨by rw [he]; simp [den, denL], hb⟩
set_option maxHeartbeats 4000000 in
theorem ix_y (w W : World) (h g : VH) (n : Int) (hk : (h.k != 5) = false) (hA : rightW 40 W h = true) (hn : decide (n < 0) = false) (hm : decide (n ≥ h.m) = false) (hf : @FcAt (fcV W h g) w) : Calls Tryd.prog 9 #[h.v, .int .i64 n] w fun e w' => e = .returned (.tuple #[.agg #[.int .i64 4, .int .i64 (IntKind.i64.wrap (h.n + n)), .int .i64 0, .slice none 0 0], .bool true]) ∧ Below w.heap.size w w' := by
  letI fc : FC := fcV W h g
  refine (@ex_runG (fcV W h g) _ (kgIf (kgAt 11 [h.v] (.v (.bool true)))) (kgIf_ok (rightTab true hA)) 100000 _ _ [argV h, .y (.int .i64 n)] [tw 9 8 (.bool false), tw 9 16 (.bool false), tw 9 22 (.bool false)] (.t [.g [.v (.int .i64 4), .y (.int .i64 (IntKind.i64.wrap (h.n + n))), .v (.int .i64 0), .v (.slice none 0 0)], .v (.bool true)]) ([(.bool (decide (n ≥ h.m)), .bool false), (.bool (decide (n < 0)), .bool false), (h.v, h.v), (.bool (h.k != 5), .bool false)]) w (by kernel_rfl) (by simp [denL, den, argV, VH.v]) (by simp [bdL, bd, argV]) (AllT.cons (by rw [hm]) (AllT.cons (by rw [hn]) (AllT.cons (rfl) (AllT.cons (by rw [hk]) (AllT.nil))))) hf).mono ?_
  rintro e w' ⟨B, he, hb⟩
  exact ⟨by rw [he]; simp [den, denL], hb⟩
def stayV (op : Int) (h g : VH) (m : Int) : Value := .agg #[.int .i64 op, .int .i64 h.k, .int .i64 h.n, .int .i64 h.m, .slice h.a h.len h.cap, .int .i64 g.k, .int .i64 g.n, .int .i64 g.m, .slice g.a g.len g.cap, .int .i64 m]
def staySV (op : Int) (h g : VH) (m : Int) : SV := .g [.y (.int .i64 op), .y (.int .i64 h.k), .y (.int .i64 h.n), .y (.int .i64 h.m), .y (.slice h.a h.len h.cap), .y (.int .i64 g.k), .y (.int .i64 g.n), .y (.int .i64 g.m), .y (.slice g.a g.len g.cap), .y (.int .i64 m)]
abbrev RRD : FuncId := 18
def ttY : Value := .bool true
def ffY : Value := .bool false
def pwY (a : Bool) (b : Bool) : Value × Value := (.bool a, .bool b)
theorem rround_any (n : Int) (w : World) : Calls Tryd.prog RRD #[.int .i64 n] w fun e w' => e = .returned (.int .i64 (rnd n)) ∧ Below w.heap.size w w' := by
  have hr := tm_range n
  by_cases h1 : tm n > 1099511627776
  · have e1 : IntKind.i64.wrap (IntKind.i64.wrap (tm n - 2199023255552) - 1) = rnd n := by
      rw [IntKind.wrap_i64, IntKind.wrap_i64]
      have : rnd n = tm n - 2199023255553 := by unfold rnd; exact if_pos h1
      omega
    have hr2 := rnd_range n
    refine (ex_run (w := w) (x := .y (.int .i64 (IntKind.i64.wrap (IntKind.i64.wrap (tm n - 2199023255552) - 1)))) knNone_ok 100000 [.y (.int .i64 n)] [ttY, ffY] [pwY (decide (IntKind.i64.wrap (IntKind.i64.wrap (tm n - 2199023255552) - 1) < -1099511627776)) false, pwY (decide (tm n > 1099511627776)) true] (by kernel_rfl) (by simp [denL, den]) (by simp [bdL, bd]) (by
      intro q hq
      simp only [List.mem_cons, List.not_mem_nil, or_false] at hq
      rcases hq with rfl | rfl
      · rw [e1]; simp only [pwY, Value.bool.injEq, decide_eq_false_iff_not]; omega
      · simp only [pwY, Value.bool.injEq, decide_eq_true_eq]; exact h1)).mono ?_
    rintro e w' ⟨B, rfl, hb⟩
    exact ⟨by rw [den, e1], hb⟩
  · by_cases h2 : tm n < -1099511627776
    · refine (ex_run (w := w) (x := .y (.int .i64 (IntKind.i64.wrap (IntKind.i64.wrap (tm n + 2199023255552) + 1)))) knNone_ok 100000 [.y (.int .i64 n)] [ffY, ttY] [pwY (decide (tm n < -1099511627776)) true, pwY (decide (tm n > 1099511627776)) false] (by kernel_rfl) (by simp [denL, den]) (by simp [bdL, bd]) (by
        intro q hq
        simp only [List.mem_cons, List.not_mem_nil, or_false] at hq
        rcases hq with rfl | rfl
        · simp only [pwY, Value.bool.injEq, decide_eq_true_eq]; exact h2
        · simp only [pwY, Value.bool.injEq, decide_eq_false_iff_not]; exact h1)).mono ?_
      rintro e w' ⟨B, rfl, hb⟩
      have e1 : IntKind.i64.wrap (IntKind.i64.wrap (tm n + 2199023255552) + 1) = rnd n := by
        rw [IntKind.wrap_i64, IntKind.wrap_i64]
        have : rnd n = tm n + 2199023255553 := by unfold rnd; exact (if_neg h1).trans (if_pos h2)
        omega
      exact ⟨by rw [den, e1], hb⟩
    · refine (ex_run (w := w) (x := .y (.int .i64 (tm n))) knNone_ok 100000 [.y (.int .i64 n)] [ffY, ffY] [pwY (decide (tm n < -1099511627776)) false, pwY (decide (tm n > 1099511627776)) false] (by kernel_rfl) (by simp [denL, den]) (by simp [bdL, bd]) (by
        intro q hq
        simp only [List.mem_cons, List.not_mem_nil, or_false] at hq
        rcases hq with rfl | rfl
        · simp only [pwY, Value.bool.injEq, decide_eq_false_iff_not]; exact h2
        · simp only [pwY, Value.bool.injEq, decide_eq_false_iff_not]; exact h1)).mono ?_
      rintro e w' ⟨B, rfl, hb⟩
      have e1 : tm n = rnd n := by unfold rnd; exact ((if_neg h1).trans (if_neg h2)).symm
      exact ⟨by rw [den, e1], hb⟩
/-! ### Congruence -/

theorem rrightTab {W : World} {h g : VH} (b : Bool) (e : rightW 40 W h = b) : @KnGOk (fcV W h g) Tryd.prog (@kgAt (fcV W h g) 12 [h.v] (.v (.bool b))) := by
  letI fc : FC := fcV W h g
  exact kgAt_ok (by simp [bd]) fun w1 hf => by
    have := rr_is h w1 hf.1.2.1.1
    rw [hf.1.2.2.1.1, e] at this
    simpa [den] using this
set_option maxHeartbeats 4000000 in
theorem rx_k (w W : World) (h g : VH) (n : Int) (b : Bool) (hA : rightW 40 W h = b) (hk : (h.k != 5) = true) (hf : @FcAt (fcV W h g) w) : Calls Tryd.prog 10 #[h.v, .int .i64 n] w fun e w' => e = .returned (.tuple #[.agg #[.int .i64 0, .int .i64 0, .int .i64 0, .slice none 0 0], .bool false]) ∧ Below w.heap.size w w' := by
  letI fc : FC := fcV W h g
  refine (@ex_runG (fcV W h g) _ (kgIf (kgAt 12 [h.v] (.v (.bool b)))) (kgIf_ok (rrightTab b hA)) 100000 _ _ [argV h, .y (.int .i64 n)] [.bool true] (.v (.tuple #[.agg #[.int .i64 0, .int .i64 0, .int .i64 0, .slice none 0 0], .bool false])) ([(.bool (h.k != 5), .bool true), (h.v, h.v)]) w (by kernel_rfl) (by simp [denL, den, argV, VH.v]) (by simp [bdL, bd, argV]) (AllT.cons (by rw [hk]) (AllT.cons (rfl) (AllT.nil))) hf).mono ?_
  rintro e w' ⟨B, he, hb⟩
  exact ⟨by rw [he]; simp [den, denL], hb⟩
set_option maxHeartbeats 4000000 in
theorem rx_r (w W : World) (h g : VH) (n : Int) (hk : (h.k != 5) = false) (hA : rightW 40 W h = false) (hf : @FcAt (fcV W h g) w) : Calls Tryd.prog 10 #[h.v, .int .i64 n] w fun e w' => e = .returned (.tuple #[.agg #[.int .i64 0, .int .i64 0, .int .i64 0, .slice none 0 0], .bool false]) ∧ Below w.heap.size w w' := by
  letI fc : FC := fcV W h g
  refine (@ex_runG (fcV W h g) _ (kgIf (kgAt 12 [h.v] (.v (.bool false)))) (kgIf_ok (rrightTab false hA)) 100000 _ _ [argV h, .y (.int .i64 n)] [.bool false] (.v (.tuple #[.agg #[.int .i64 0, .int .i64 0, .int .i64 0, .slice none 0 0], .bool false])) ([(.bool (h.k != 5), .bool false), (h.v, h.v)]) w (by kernel_rfl) (by simp [denL, den, argV, VH.v]) (by simp [bdL, bd, argV]) (AllT.cons (by rw [hk]) (AllT.cons (rfl) (AllT.nil))) hf).mono ?_
  rintro e w' ⟨B, he, hb⟩
  exact ⟨by rw [he]; simp [den, denL], hb⟩
set_option maxHeartbeats 4000000 in
theorem rx_n (w W : World) (h g : VH) (n : Int) (hk : (h.k != 5) = false) (hA : rightW 40 W h = true) (hn : decide (n < 0) = true) (hf : @FcAt (fcV W h g) w) : Calls Tryd.prog 10 #[h.v, .int .i64 n] w fun e w' => e = .returned (.tuple #[.agg #[.int .i64 0, .int .i64 0, .int .i64 0, .slice none 0 0], .bool false]) ∧ Below w.heap.size w w' := by
  letI fc : FC := fcV W h g
  refine (@ex_runG (fcV W h g) _ (kgIf (kgAt 12 [h.v] (.v (.bool true)))) (kgIf_ok (rrightTab true hA)) 100000 _ _ [argV h, .y (.int .i64 n)] [.bool false, .bool true] (.v (.tuple #[.agg #[.int .i64 0, .int .i64 0, .int .i64 0, .slice none 0 0], .bool false])) ([(.bool (decide (n < 0)), .bool true), (.bool (h.k != 5), .bool false), (h.v, h.v)]) w (by kernel_rfl) (by simp [denL, den, argV, VH.v]) (by simp [bdL, bd, argV]) (AllT.cons (by rw [hn]) (AllT.cons (by rw [hk]) (AllT.cons (rfl) (AllT.nil)))) hf).mono ?_
  rintro e w' ⟨B, he, hb⟩
  exact ⟨by rw [he]; simp [den, denL], hb⟩
set_option maxHeartbeats 4000000 in
theorem rx_m (w W : World) (h g : VH) (n : Int) (hk : (h.k != 5) = false) (hA : rightW 40 W h = true) (hn : decide (n < 0) = false) (hm : decide (n ≥ h.m) = true) (hf : @FcAt (fcV W h g) w) : Calls Tryd.prog 10 #[h.v, .int .i64 n] w fun e w' => e = .returned (.tuple #[.agg #[.int .i64 0, .int .i64 0, .int .i64 0, .slice none 0 0], .bool false]) ∧ Below w.heap.size w w' := by
  letI fc : FC := fcV W h g
  refine (@ex_runG (fcV W h g) _ (kgIf (kgAt 12 [h.v] (.v (.bool true)))) (kgIf_ok (rrightTab true hA)) 100000 _ _ [argV h, .y (.int .i64 n)] [.bool false, .bool false, .bool true] (.v (.tuple #[.agg #[.int .i64 0, .int .i64 0, .int .i64 0, .slice none 0 0], .bool false])) ([(.bool (decide (n ≥ h.m)), .bool true), (.bool (decide (n < 0)), .bool false), (.bool (h.k != 5), .bool false), (h.v, h.v)]) w (by kernel_rfl) (by simp [denL, den, argV, VH.v]) (by simp [bdL, bd, argV]) (AllT.cons (by rw [hm]) (AllT.cons (by rw [hn]) (AllT.cons (by rw [hk]) (AllT.cons (rfl) (AllT.nil))))) hf).mono ?_
  rintro e w' ⟨B, he, hb⟩
  exact ⟨by rw [he]; simp [den, denL], hb⟩
set_option maxHeartbeats 4000000 in
theorem rx_y (w W : World) (h g : VH) (n : Int) (hk : (h.k != 5) = false) (hA : rightW 40 W h = true) (hn : decide (n < 0) = false) (hm : decide (n ≥ h.m) = false) (hf : @FcAt (fcV W h g) w) : Calls Tryd.prog 10 #[h.v, .int .i64 n] w fun e w' => e = .returned (.tuple #[.agg #[.int .i64 4, .int .i64 (IntKind.i64.wrap (h.n + n)), .int .i64 0, .slice none 0 0], .bool true]) ∧ Below w.heap.size w w' := by
  letI fc : FC := fcV W h g
  refine (@ex_runG (fcV W h g) _ (kgIf (kgAt 12 [h.v] (.v (.bool true)))) (kgIf_ok (rrightTab true hA)) 100000 _ _ [argV h, .y (.int .i64 n)] [.bool false, .bool false, .bool false] (.t [.g [.v (.int .i64 4), .y (.int .i64 (IntKind.i64.wrap (h.n + n))), .v (.int .i64 0), .v (.slice none 0 0)], .v (.bool true)]) ([(.bool (decide (n ≥ h.m)), .bool false), (.bool (decide (n < 0)), .bool false), (.bool (h.k != 5), .bool false), (h.v, h.v)]) w (by kernel_rfl) (by simp [denL, den, argV, VH.v]) (by simp [bdL, bd, argV]) (AllT.cons (by rw [hm]) (AllT.cons (by rw [hn]) (AllT.cons (by rw [hk]) (AllT.cons (rfl) (AllT.nil))))) hf).mono ?_
  rintro e w' ⟨B, he, hb⟩
  exact ⟨by rw [he]; simp [den, denL], hb⟩
/-- What Index gives. -/
def ixRes (k n : Int) (b : Bool) : Value := .tuple #[.agg #[.int .i64 k, .int .i64 n, .int .i64 0, .slice none 0 0], .bool b]
theorem index_both (W : World) (h g : VH) (n : Int) : ∃ (K N : Int) (b : Bool), (∀ w, @FcAt (fcV W h g) w → Calls Tryd.prog 9 #[h.v, .int .i64 n] w fun e w' => e = .returned (ixRes K N b) ∧ Below w.heap.size w w') ∧ (∀ w, @FcAt (fcV W h g) w → Calls Tryd.prog 10 #[h.v, .int .i64 n] w fun e w' => e = .returned (ixRes K N b) ∧ Below w.heap.size w w') := by
  cases hk : (h.k != 5) with
  | true => exact ⟨0, 0, false, fun w hf => ix_k w W h g n hk hf, fun w hf => rx_k w W h g n _ rfl hk hf⟩
  | false =>
    cases hA : rightW 40 W h with
    | false => exact ⟨0, 0, false, fun w hf => ix_r w W h g n hk hA hf, fun w hf => rx_r w W h g n hk hA hf⟩
    | true =>
      cases hn : decide (n < 0) with
      | true => exact ⟨0, 0, false, fun w hf => ix_n w W h g n hk hA hn hf, fun w hf => rx_n w W h g n hk hA hn hf⟩
      | false =>
        cases hm : decide (n ≥ h.m) with
        | true => exact ⟨0, 0, false, fun w hf => ix_m w W h g n hk hA hn hm hf, fun w hf => rx_m w W h g n hk hA hn hm hf⟩
        | false => exact ⟨4, IntKind.i64.wrap (h.n + n), true, fun w hf => ix_y w W h g n hk hA hn hm hf, fun w hf => rx_y w W h g n hk hA hn hm hf⟩
set_option maxHeartbeats 4000000 in
theorem small_is (h : VH) (w : World) (hv : VT 40 w h) : Calls Tryd.prog 8 #[h.v] w fun e w' => e = .returned (.bool (decide (countW 40 w h 60 ≤ 60))) ∧ Below w.heap.size w w' := by
  letI fc : FC := ⟨fun _ => 0, fun _ => 0, fun _ => [], fun w' => Below w.heap.size w w', fun w w' h k => ⟨k.os.trans h.os, k.tape.trans h.tape, k.output.trans h.output, Nat.le_trans h.size k.size, fun b hb => (k.block b (Nat.lt_of_lt_of_le hb h.size) (by simp)).trans (h.block b hb)⟩⟩
  have K : KnGOk Tryd.prog (kgAt 26 [h.v, .int .i64 40, .int .i64 60] (.y (.int .i64 (countW 40 w h 60)))) := kgAt_ok (by simp [bd]) fun w1 hf => by
    have := count_is 60 40 (by omega) h w1 (hv.below hf.1) 40 (by omega)
    rw [countW_below hf.1 hv] at this
    simpa [den] using this
  refine (ex_runG (w := w) (x := .y (.bool (decide (countW 40 w h 60 ≤ 60)))) K 100000 [.y h.v] [] [(h.v, h.v), (.int .i64 40, .int .i64 40), (.int .i64 60, .int .i64 60)] (by kernel_rfl) (by simp [denL, den]) (by simp [bdL, bd]) (by
    intro q hq
    simp only [List.mem_cons, List.not_mem_nil, or_false] at hq
    rcases hq with rfl | rfl | rfl <;> rfl) ⟨below_rfl w, fun i j x hx => absurd (show ([] : List SV)[j]? = some x from hx) (by simp)⟩).mono ?_
  rintro e w' ⟨B, he, hb⟩
  exact ⟨by rw [he]; simp [den], hb⟩
set_option maxHeartbeats 4000000 in
theorem rShow_is {d : Nat} (hd1 : d ≤ 40) {W : World} {h : VH} (hv : VT d W h) (hd : deepB d W h = true) (hT : TabP W) : Calls Tryd.prog 16 #[h.v] W fun e w' => e = .returned (.string (showW d W h)) ∧ Below W.heap.size W w' := by
  letI fc : FC := ⟨fun _ => 0, fun _ => 0, fun _ => [], fun w' => Below W.heap.size W w', fun w w' h k => ⟨k.os.trans h.os, k.tape.trans h.tape, k.output.trans h.output, Nat.le_trans h.size k.size, fun b hb => (k.block b (Nat.lt_of_lt_of_le hb h.size) (by simp)).trans (h.block b hb)⟩⟩
  have K : KnGOk Tryd.prog (kgAt rshF [h.v, .int .i64 50] (.y (.string (showW d W h)))) := kgAt_ok (by simp [bd]) fun w hf => by
    have := rsh_is d (by omega) 50 (by omega) (by omega) w h (VT.below hf.1 hv) (by rw [deepB_below hf.1 hv]; exact hd) (hT.below hf.1)
    rw [showW_below hf.1 hv] at this
    simpa [den] using this
  refine (ex_runG (w := W) (x := .y (.string (showW d W h))) K 100000 [.y h.v] [] [(h.v, h.v), (.int .i64 50, .int .i64 50)] (by kernel_rfl) (by simp [denL, den]) (by simp [bdL, bd]) (by
      intro q hq
      simp only [List.mem_cons, List.not_mem_nil, or_false] at hq
      rcases hq with rfl | rfl <;> rfl) ⟨below_rfl W, fun i j x hx => absurd (show ([] : List SV)[j]? = some x from hx) (by simp)⟩).mono ?_
  rintro e w' ⟨B, he, hb⟩
  exact ⟨by rw [he]; simp [den], hb⟩
end Go.Proofs.YtoijdnlplbeomaaDoor


/-
  Layer 8: ValueMatchesSpec.
-/
namespace Go.Proofs.YtoijdnlplbeomaaDoor
open Go Go.RowKit EX
set_option maxRecDepth 100000
set_option linter.unusedVariables false
set_option linter.unusedSimpArgs false
set_option linter.unusedSectionVars false
section
variable [FC]
def knR : Kn := knOr kn8 (knI RRD fun a => .int .i64 (rnd a))
theorem knR_ok : KnOk Tryd.prog knR := knOr_ok kn8F_ok (knI_okF rround_any)
end
theorem smallTab1 {W : World} {h g : VH} {b : Bool} (kv : VT 40 W h) (e : decide (countW 40 W h 60 ≤ 60) = b) : @KnGOk (fcV W h g) Tryd.prog (@kgAt (fcV W h g) 8 [h.v] (.v (.bool b))) := by
  letI fc : FC := fcV W h g
  exact kgAt_ok (by simp [bd]) fun w1 hf => by
    have := small_is h w1 hf.1.2.1.1
    rw [countW_below hf.1.1 kv, e] at this
    simpa [den] using this
theorem smallTab2 {W : World} {h g : VH} {b : Bool} (kw : VT 40 W g) (e : decide (countW 40 W g 60 ≤ 60) = b) : @KnGOk (fcV W h g) Tryd.prog (@kgAt (fcV W h g) 8 [g.v] (.v (.bool b))) := by
  letI fc : FC := fcV W h g
  exact kgAt_ok (by simp [bd]) fun w1 hf => by
    have := small_is g w1 hf.1.2.1.2
    rw [countW_below hf.1.1 kw, e] at this
    simpa [den] using this
theorem psameTab {W : World} {h g : VH} {b : Bool} (kv : VT 40 W h) (kw : VT 40 W g) (hd : deepB 40 W h = true) (e : sameW 40 W h g = b) : @KnGOk (fcV W h g) Tryd.prog (@kgAt (fcV W h g) 13 [h.v, g.v] (.v (.bool b))) := by
  letI fc : FC := fcV W h g
  exact kgAt_ok (by simp [bd]) fun w1 hf => by
    have := psa_is 40 (by omega) w1 h g hf.1.2.1.1 hf.1.2.1.2 (by rw [deepB_below hf.1.1 kv]; exact hd)
    rw [sameW_below hf.1.1 kv kw, e] at this
    simpa [den] using this
theorem rsameTab {W : World} {h g : VH} {b : Bool} (kv : VT 40 W h) (kw : VT 40 W g) (hd : deepB 40 W h = true) (e : sameW 40 W h g = b) : @KnGOk (fcV W h g) Tryd.prog (@kgAt (fcV W h g) 14 [h.v, g.v] (.v (.bool b))) := by
  letI fc : FC := fcV W h g
  exact kgAt_ok (by simp [bd]) fun w1 hf => by
    have := rSame_is (d := 40) (by omega) hf.1.2.1.1 hf.1.2.1.2 (by rw [deepB_below hf.1.1 kv]; exact hd)
    rw [sameW_below hf.1.1 kv kw, e] at this
    simpa [den] using this
theorem pshowTab {W : World} {h g : VH} (kv : VT 40 W h) (hd : deepB 40 W h = true) (hT : TabP W) : @KnGOk (fcV W h g) Tryd.prog (@kgAt (fcV W h g) 15 [h.v] (.y (.string (showW 40 W h)))) := by
  letI fc : FC := fcV W h g
  exact kgAt_ok (by simp [bd]) fun w1 hf => by
    have := psh_is 40 (by omega) w1 h hf.1.2.1.1 (by rw [deepB_below hf.1.1 kv]; exact hd) (hT.below hf.1.1)
    rw [showW_below hf.1.1 kv] at this
    simpa [den] using this
theorem rshowTab {W : World} {h g : VH} (kv : VT 40 W h) (hd : deepB 40 W h = true) (hT : TabP W) : @KnGOk (fcV W h g) Tryd.prog (@kgAt (fcV W h g) 16 [h.v] (.y (.string (showW 40 W h)))) := by
  letI fc : FC := fcV W h g
  exact kgAt_ok (by simp [bd]) fun w1 hf => by
    have := rShow_is (d := 40) (by omega) hf.1.2.1.1 (by rw [deepB_below hf.1.1 kv]; exact hd) (hT.below hf.1.1)
    rw [showW_below hf.1.1 kv] at this
    simpa [den] using this
theorem ixTab {F : FuncId} {W : World} {h g : VH} {n K N : Int} {b : Bool} (hix : ∀ w, @FcAt (fcV W h g) w → Calls Tryd.prog F #[h.v, .int .i64 n] w fun e w' => e = .returned (ixRes K N b) ∧ Below w.heap.size w w') : @KnGOk (fcV W h g) Tryd.prog (@kgAt (fcV W h g) F [h.v, .int .i64 n] (.t [.g [.y (.int .i64 K), .y (.int .i64 N), .v (.int .i64 0), .v (.slice none 0 0)], .v (.bool b)])) := by
  letI fc : FC := fcV W h g
  exact kgAt_ok (by simp [bd, bdL]) fun w1 hf => (hix w1 hf).mono fun e w' ⟨he, hb⟩ => ⟨by rw [he]; simp [den, denL, ixRes], hb⟩
set_option maxHeartbeats 8000000 in
theorem vm_s1 {W : World} {n : Int} {h g : VH} (kv : VT 40 W h) (kw : VT 40 W g) (hs1 : decide (countW 40 W h 60 ≤ 60) = false) : Calls Tryd.prog 3 #[h.v, g.v, .int .i64 n] W fun e w' => e = .returned (.bool true) ∧ Below W.heap.size W w' := by
  letI fc : FC := fcV W h g
  exact @ex_valG (fcV W h g) _ ((kgOr (gk knR) (kgAt 8 [h.v] (.v (.bool false))))) ((kgOr_ok (gk_ok knR_ok) (smallTab1 kv hs1))) 100000 _ _ [argV h, argV g, .y (.int .i64 n)] [] _ [(h.v, h.v)] W (by kernel_rfl) (by simp [denL, den, argV, VH.v]) (by simp [bdL, bd, argV]) (AllT.cons (rfl) (AllT.nil)) (fcV_at kv kw)
set_option maxHeartbeats 8000000 in
theorem vm_s2 {W : World} {n : Int} {h g : VH} (kv : VT 40 W h) (kw : VT 40 W g) (hs1 : decide (countW 40 W h 60 ≤ 60) = true) (hs2 : decide (countW 40 W g 60 ≤ 60) = false) : Calls Tryd.prog 3 #[h.v, g.v, .int .i64 n] W fun e w' => e = .returned (.bool true) ∧ Below W.heap.size W w' := by
  letI fc : FC := fcV W h g
  exact @ex_valG (fcV W h g) _ ((kgOr (gk knR) (kgSel (kgAt 8 [h.v] (.v (.bool true))) (kgAt 8 [g.v] (.v (.bool false)))))) ((kgOr_ok (gk_ok knR_ok) (kgSel_ok (smallTab1 kv hs1) (smallTab2 kw hs2)))) 100000 _ _ [argV h, argV g, .y (.int .i64 n)] [.bool true, .bool false] _ [(g.v, g.v), (h.v, h.v)] W (by kernel_rfl) (by simp [denL, den, argV, VH.v]) (by simp [bdL, bd, argV]) (AllT.cons (rfl) (AllT.cons (rfl) (AllT.nil))) (fcV_at kv kw)
set_option maxHeartbeats 8000000 in
theorem vm_ttt {W : World} {n : Int} {h g : VH} (kv : VT 40 W h) (kw : VT 40 W g) (hT : TabP W) (hs1 : decide (countW 40 W h 60 ≤ 60) = true) (hs2 : decide (countW 40 W g 60 ≤ 60) = true) {K N : Int} (hix : ∀ w, @FcAt (fcV W h g) w → Calls Tryd.prog 9 #[h.v, .int .i64 n] w fun e w' => e = .returned (ixRes K N true) ∧ Below w.heap.size w w') (hrx : ∀ w, @FcAt (fcV W h g) w → Calls Tryd.prog 10 #[h.v, .int .i64 n] w fun e w' => e = .returned (ixRes K N true) ∧ Below w.heap.size w w') (hA : rightW 40 W h = true) (hS : sameW 40 W h g = true) : Calls Tryd.prog 3 #[h.v, g.v, .int .i64 n] W fun e w' => e = .returned (.bool true) ∧ Below W.heap.size W w' := by
  letI fc : FC := fcV W h g
  have hd : deepB 40 W h = true := deep_of_count (by omega) (of_decide_eq_true hs1)
  exact @ex_valG (fcV W h g) _ ((kgOr (gk knR) ((kgOr (kgSel (kgAt 8 [h.v] (.v (.bool true))) (kgAt 8 [g.v] (.v (.bool true)))) ((kgOr (kgAt 9 [h.v, .int .i64 n] (.t [.g [.y (.int .i64 K), .y (.int .i64 N), .v (.int .i64 0), .v (.slice none 0 0)], .v (.bool true)])) ((kgOr (kgAt 10 [h.v, .int .i64 n] (.t [.g [.y (.int .i64 K), .y (.int .i64 N), .v (.int .i64 0), .v (.slice none 0 0)], .v (.bool true)])) ((kgOr (kgAt 11 [h.v] (.v (.bool true))) ((kgOr (kgAt 12 [h.v] (.v (.bool true))) ((kgOr (kgAt 13 [h.v, g.v] (.v (.bool true))) ((kgOr (kgIf (kgAt 14 [h.v, g.v] (.v (.bool true)))) ((kgOr (kgAt 15 [h.v] (.y (.string (showW 40 W h)))) (kgAt 16 [h.v] (.y (.string (showW 40 W h)))))))))))))))))))))) ((kgOr_ok (gk_ok knR_ok) ((kgOr_ok (kgSel_ok (smallTab1 kv hs1) (smallTab2 kw hs2)) ((kgOr_ok (ixTab hix) ((kgOr_ok (ixTab hrx) ((kgOr_ok (rightTab _ hA) ((kgOr_ok (rrightTab _ hA) ((kgOr_ok (psameTab kv kw hd hS) ((kgOr_ok (kgIf_ok (rsameTab kv kw hd hS)) ((kgOr_ok (pshowTab kv hd hT) (rshowTab kv hd hT))))))))))))))))))) 100000 _ _ [argV h, argV g, .y (.int .i64 n)] [.bool true, .bool false, .bool true, .bool true, .bool true, .bool true, .bool false, .bool false, .bool true, .bool true, .bool true, .bool true, .bool true, .bool false, .bool true] _ [(.bool (rnd n == rnd n), .bool true), (.bool (rnd n != rnd n), .bool false), (.bool (rnd n == rnd n), .bool true), (.bool (rnd n == rnd n), .bool true), (.bool (rnd n == rnd n), .bool true), (.bool (rnd n == rnd n), .bool true), (.bool (rnd n == rnd n), .bool true), (.bool (N != N), .bool false), (.bool (K != K), .bool false), (.bool ((showW 40 W h).toList == (showW 40 W h).toList), .bool true), (.bool ((showW 40 W h).toList == (showW 40 W h).toList), .bool true), (.bool ((showW 40 W h).toList == (showW 40 W h).toList), .bool true), (.bool ((showW 40 W h).toList == (showW 40 W h).toList), .bool true), (h.v, h.v), (h.v, h.v), (h.v, h.v), (g.v, g.v), (h.v, h.v), (g.v, g.v), (h.v, h.v), (h.v, h.v), (h.v, h.v), (.int .i64 n, .int .i64 n), (h.v, h.v), (.int .i64 n, .int .i64 n), (g.v, g.v), (h.v, h.v)] W (by kernel_rfl) (by simp [denL, den, argV, VH.v]) (by simp [bdL, bd, argV]) (AllT.cons (congrArg Value.bool (by simp)) (AllT.cons (congrArg Value.bool (by simp)) (AllT.cons (congrArg Value.bool (by simp)) (AllT.cons (congrArg Value.bool (by simp)) (AllT.cons (congrArg Value.bool (by simp)) (AllT.cons (congrArg Value.bool (by simp)) (AllT.cons (congrArg Value.bool (by simp)) (AllT.cons (congrArg Value.bool (by simp)) (AllT.cons (congrArg Value.bool (by simp)) (AllT.cons (congrArg Value.bool (by simp)) (AllT.cons (congrArg Value.bool (by simp)) (AllT.cons (congrArg Value.bool (by simp)) (AllT.cons (congrArg Value.bool (by simp)) (AllT.cons (rfl) (AllT.cons (rfl) (AllT.cons (rfl) (AllT.cons (rfl) (AllT.cons (rfl) (AllT.cons (rfl) (AllT.cons (rfl) (AllT.cons (rfl) (AllT.cons (rfl) (AllT.cons (rfl) (AllT.cons (rfl) (AllT.cons (rfl) (AllT.cons (rfl) (AllT.cons (rfl) (AllT.nil)))))))))))))))))))))))))))) (fcV_at kv kw)
set_option maxHeartbeats 8000000 in
theorem vm_ttf {W : World} {n : Int} {h g : VH} (kv : VT 40 W h) (kw : VT 40 W g) (hT : TabP W) (hs1 : decide (countW 40 W h 60 ≤ 60) = true) (hs2 : decide (countW 40 W g 60 ≤ 60) = true) {K N : Int} (hix : ∀ w, @FcAt (fcV W h g) w → Calls Tryd.prog 9 #[h.v, .int .i64 n] w fun e w' => e = .returned (ixRes K N false) ∧ Below w.heap.size w w') (hrx : ∀ w, @FcAt (fcV W h g) w → Calls Tryd.prog 10 #[h.v, .int .i64 n] w fun e w' => e = .returned (ixRes K N false) ∧ Below w.heap.size w w') (hA : rightW 40 W h = true) (hS : sameW 40 W h g = true) : Calls Tryd.prog 3 #[h.v, g.v, .int .i64 n] W fun e w' => e = .returned (.bool true) ∧ Below W.heap.size W w' := by
  letI fc : FC := fcV W h g
  have hd : deepB 40 W h = true := deep_of_count (by omega) (of_decide_eq_true hs1)
  exact @ex_valG (fcV W h g) _ ((kgOr (gk knR) ((kgOr (kgSel (kgAt 8 [h.v] (.v (.bool true))) (kgAt 8 [g.v] (.v (.bool true)))) ((kgOr (kgAt 9 [h.v, .int .i64 n] (.t [.g [.y (.int .i64 K), .y (.int .i64 N), .v (.int .i64 0), .v (.slice none 0 0)], .v (.bool false)])) ((kgOr (kgAt 10 [h.v, .int .i64 n] (.t [.g [.y (.int .i64 K), .y (.int .i64 N), .v (.int .i64 0), .v (.slice none 0 0)], .v (.bool false)])) ((kgOr (kgAt 11 [h.v] (.v (.bool true))) ((kgOr (kgAt 12 [h.v] (.v (.bool true))) ((kgOr (kgAt 13 [h.v, g.v] (.v (.bool true))) ((kgOr (kgIf (kgAt 14 [h.v, g.v] (.v (.bool true)))) ((kgOr (kgAt 15 [h.v] (.y (.string (showW 40 W h)))) (kgAt 16 [h.v] (.y (.string (showW 40 W h)))))))))))))))))))))) ((kgOr_ok (gk_ok knR_ok) ((kgOr_ok (kgSel_ok (smallTab1 kv hs1) (smallTab2 kw hs2)) ((kgOr_ok (ixTab hix) ((kgOr_ok (ixTab hrx) ((kgOr_ok (rightTab _ hA) ((kgOr_ok (rrightTab _ hA) ((kgOr_ok (psameTab kv kw hd hS) ((kgOr_ok (kgIf_ok (rsameTab kv kw hd hS)) ((kgOr_ok (pshowTab kv hd hT) (rshowTab kv hd hT))))))))))))))))))) 100000 _ _ [argV h, argV g, .y (.int .i64 n)] [.bool true, .bool false, .bool true, .bool true, .bool true, .bool true, .bool false, .bool false, .bool true, .bool true, .bool true, .bool true, .bool true, .bool false, .bool true] _ [(.bool (rnd n == rnd n), .bool true), (.bool (rnd n != rnd n), .bool false), (.bool (rnd n == rnd n), .bool true), (.bool (rnd n == rnd n), .bool true), (.bool (rnd n == rnd n), .bool true), (.bool (rnd n == rnd n), .bool true), (.bool (rnd n == rnd n), .bool true), (.bool (N != N), .bool false), (.bool (K != K), .bool false), (.bool ((showW 40 W h).toList == (showW 40 W h).toList), .bool true), (.bool ((showW 40 W h).toList == (showW 40 W h).toList), .bool true), (.bool ((showW 40 W h).toList == (showW 40 W h).toList), .bool true), (.bool ((showW 40 W h).toList == (showW 40 W h).toList), .bool true), (h.v, h.v), (h.v, h.v), (h.v, h.v), (g.v, g.v), (h.v, h.v), (g.v, g.v), (h.v, h.v), (h.v, h.v), (h.v, h.v), (.int .i64 n, .int .i64 n), (h.v, h.v), (.int .i64 n, .int .i64 n), (g.v, g.v), (h.v, h.v)] W (by kernel_rfl) (by simp [denL, den, argV, VH.v]) (by simp [bdL, bd, argV]) (AllT.cons (congrArg Value.bool (by simp)) (AllT.cons (congrArg Value.bool (by simp)) (AllT.cons (congrArg Value.bool (by simp)) (AllT.cons (congrArg Value.bool (by simp)) (AllT.cons (congrArg Value.bool (by simp)) (AllT.cons (congrArg Value.bool (by simp)) (AllT.cons (congrArg Value.bool (by simp)) (AllT.cons (congrArg Value.bool (by simp)) (AllT.cons (congrArg Value.bool (by simp)) (AllT.cons (congrArg Value.bool (by simp)) (AllT.cons (congrArg Value.bool (by simp)) (AllT.cons (congrArg Value.bool (by simp)) (AllT.cons (congrArg Value.bool (by simp)) (AllT.cons (rfl) (AllT.cons (rfl) (AllT.cons (rfl) (AllT.cons (rfl) (AllT.cons (rfl) (AllT.cons (rfl) (AllT.cons (rfl) (AllT.cons (rfl) (AllT.cons (rfl) (AllT.cons (rfl) (AllT.cons (rfl) (AllT.cons (rfl) (AllT.cons (rfl) (AllT.cons (rfl) (AllT.nil)))))))))))))))))))))))))))) (fcV_at kv kw)
set_option maxHeartbeats 8000000 in
theorem vm_tft {W : World} {n : Int} {h g : VH} (kv : VT 40 W h) (kw : VT 40 W g) (hT : TabP W) (hs1 : decide (countW 40 W h 60 ≤ 60) = true) (hs2 : decide (countW 40 W g 60 ≤ 60) = true) {K N : Int} (hix : ∀ w, @FcAt (fcV W h g) w → Calls Tryd.prog 9 #[h.v, .int .i64 n] w fun e w' => e = .returned (ixRes K N true) ∧ Below w.heap.size w w') (hrx : ∀ w, @FcAt (fcV W h g) w → Calls Tryd.prog 10 #[h.v, .int .i64 n] w fun e w' => e = .returned (ixRes K N true) ∧ Below w.heap.size w w') (hA : rightW 40 W h = true) (hS : sameW 40 W h g = false) : Calls Tryd.prog 3 #[h.v, g.v, .int .i64 n] W fun e w' => e = .returned (.bool true) ∧ Below W.heap.size W w' := by
  letI fc : FC := fcV W h g
  have hd : deepB 40 W h = true := deep_of_count (by omega) (of_decide_eq_true hs1)
  exact @ex_valG (fcV W h g) _ ((kgOr (gk knR) ((kgOr (kgSel (kgAt 8 [h.v] (.v (.bool true))) (kgAt 8 [g.v] (.v (.bool true)))) ((kgOr (kgAt 9 [h.v, .int .i64 n] (.t [.g [.y (.int .i64 K), .y (.int .i64 N), .v (.int .i64 0), .v (.slice none 0 0)], .v (.bool true)])) ((kgOr (kgAt 10 [h.v, .int .i64 n] (.t [.g [.y (.int .i64 K), .y (.int .i64 N), .v (.int .i64 0), .v (.slice none 0 0)], .v (.bool true)])) ((kgOr (kgAt 11 [h.v] (.v (.bool true))) ((kgOr (kgAt 12 [h.v] (.v (.bool true))) ((kgOr (kgAt 13 [h.v, g.v] (.v (.bool false))) ((kgOr (kgIf (kgAt 14 [h.v, g.v] (.v (.bool false)))) ((kgOr (kgAt 15 [h.v] (.y (.string (showW 40 W h)))) (kgAt 16 [h.v] (.y (.string (showW 40 W h)))))))))))))))))))))) ((kgOr_ok (gk_ok knR_ok) ((kgOr_ok (kgSel_ok (smallTab1 kv hs1) (smallTab2 kw hs2)) ((kgOr_ok (ixTab hix) ((kgOr_ok (ixTab hrx) ((kgOr_ok (rightTab _ hA) ((kgOr_ok (rrightTab _ hA) ((kgOr_ok (psameTab kv kw hd hS) ((kgOr_ok (kgIf_ok (rsameTab kv kw hd hS)) ((kgOr_ok (pshowTab kv hd hT) (rshowTab kv hd hT))))))))))))))))))) 100000 _ _ [argV h, argV g, .y (.int .i64 n)] [.bool true, .bool false, .bool true, .bool true, .bool true, .bool true, .bool false, .bool false, .bool true, .bool true, .bool true, .bool true, .bool true, .bool false, .bool true] _ [(.bool (rnd n == rnd n), .bool true), (.bool (rnd n != rnd n), .bool false), (.bool (rnd n == rnd n), .bool true), (.bool (rnd n == rnd n), .bool true), (.bool (rnd n == rnd n), .bool true), (.bool (rnd n == rnd n), .bool true), (.bool (rnd n == rnd n), .bool true), (.bool (N != N), .bool false), (.bool (K != K), .bool false), (.bool ((showW 40 W h).toList == (showW 40 W h).toList), .bool true), (.bool ((showW 40 W h).toList == (showW 40 W h).toList), .bool true), (.bool ((showW 40 W h).toList == (showW 40 W h).toList), .bool true), (.bool ((showW 40 W h).toList == (showW 40 W h).toList), .bool true), (h.v, h.v), (h.v, h.v), (h.v, h.v), (g.v, g.v), (h.v, h.v), (g.v, g.v), (h.v, h.v), (h.v, h.v), (h.v, h.v), (.int .i64 n, .int .i64 n), (h.v, h.v), (.int .i64 n, .int .i64 n), (g.v, g.v), (h.v, h.v)] W (by kernel_rfl) (by simp [denL, den, argV, VH.v]) (by simp [bdL, bd, argV]) (AllT.cons (congrArg Value.bool (by simp)) (AllT.cons (congrArg Value.bool (by simp)) (AllT.cons (congrArg Value.bool (by simp)) (AllT.cons (congrArg Value.bool (by simp)) (AllT.cons (congrArg Value.bool (by simp)) (AllT.cons (congrArg Value.bool (by simp)) (AllT.cons (congrArg Value.bool (by simp)) (AllT.cons (congrArg Value.bool (by simp)) (AllT.cons (congrArg Value.bool (by simp)) (AllT.cons (congrArg Value.bool (by simp)) (AllT.cons (congrArg Value.bool (by simp)) (AllT.cons (congrArg Value.bool (by simp)) (AllT.cons (congrArg Value.bool (by simp)) (AllT.cons (rfl) (AllT.cons (rfl) (AllT.cons (rfl) (AllT.cons (rfl) (AllT.cons (rfl) (AllT.cons (rfl) (AllT.cons (rfl) (AllT.cons (rfl) (AllT.cons (rfl) (AllT.cons (rfl) (AllT.cons (rfl) (AllT.cons (rfl) (AllT.cons (rfl) (AllT.cons (rfl) (AllT.nil)))))))))))))))))))))))))))) (fcV_at kv kw)
set_option maxHeartbeats 8000000 in
theorem vm_tff {W : World} {n : Int} {h g : VH} (kv : VT 40 W h) (kw : VT 40 W g) (hT : TabP W) (hs1 : decide (countW 40 W h 60 ≤ 60) = true) (hs2 : decide (countW 40 W g 60 ≤ 60) = true) {K N : Int} (hix : ∀ w, @FcAt (fcV W h g) w → Calls Tryd.prog 9 #[h.v, .int .i64 n] w fun e w' => e = .returned (ixRes K N false) ∧ Below w.heap.size w w') (hrx : ∀ w, @FcAt (fcV W h g) w → Calls Tryd.prog 10 #[h.v, .int .i64 n] w fun e w' => e = .returned (ixRes K N false) ∧ Below w.heap.size w w') (hA : rightW 40 W h = true) (hS : sameW 40 W h g = false) : Calls Tryd.prog 3 #[h.v, g.v, .int .i64 n] W fun e w' => e = .returned (.bool true) ∧ Below W.heap.size W w' := by
  letI fc : FC := fcV W h g
  have hd : deepB 40 W h = true := deep_of_count (by omega) (of_decide_eq_true hs1)
  exact @ex_valG (fcV W h g) _ ((kgOr (gk knR) ((kgOr (kgSel (kgAt 8 [h.v] (.v (.bool true))) (kgAt 8 [g.v] (.v (.bool true)))) ((kgOr (kgAt 9 [h.v, .int .i64 n] (.t [.g [.y (.int .i64 K), .y (.int .i64 N), .v (.int .i64 0), .v (.slice none 0 0)], .v (.bool false)])) ((kgOr (kgAt 10 [h.v, .int .i64 n] (.t [.g [.y (.int .i64 K), .y (.int .i64 N), .v (.int .i64 0), .v (.slice none 0 0)], .v (.bool false)])) ((kgOr (kgAt 11 [h.v] (.v (.bool true))) ((kgOr (kgAt 12 [h.v] (.v (.bool true))) ((kgOr (kgAt 13 [h.v, g.v] (.v (.bool false))) ((kgOr (kgIf (kgAt 14 [h.v, g.v] (.v (.bool false)))) ((kgOr (kgAt 15 [h.v] (.y (.string (showW 40 W h)))) (kgAt 16 [h.v] (.y (.string (showW 40 W h)))))))))))))))))))))) ((kgOr_ok (gk_ok knR_ok) ((kgOr_ok (kgSel_ok (smallTab1 kv hs1) (smallTab2 kw hs2)) ((kgOr_ok (ixTab hix) ((kgOr_ok (ixTab hrx) ((kgOr_ok (rightTab _ hA) ((kgOr_ok (rrightTab _ hA) ((kgOr_ok (psameTab kv kw hd hS) ((kgOr_ok (kgIf_ok (rsameTab kv kw hd hS)) ((kgOr_ok (pshowTab kv hd hT) (rshowTab kv hd hT))))))))))))))))))) 100000 _ _ [argV h, argV g, .y (.int .i64 n)] [.bool true, .bool false, .bool true, .bool true, .bool true, .bool true, .bool false, .bool false, .bool true, .bool true, .bool true, .bool true, .bool true, .bool false, .bool true] _ [(.bool (rnd n == rnd n), .bool true), (.bool (rnd n != rnd n), .bool false), (.bool (rnd n == rnd n), .bool true), (.bool (rnd n == rnd n), .bool true), (.bool (rnd n == rnd n), .bool true), (.bool (rnd n == rnd n), .bool true), (.bool (rnd n == rnd n), .bool true), (.bool (N != N), .bool false), (.bool (K != K), .bool false), (.bool ((showW 40 W h).toList == (showW 40 W h).toList), .bool true), (.bool ((showW 40 W h).toList == (showW 40 W h).toList), .bool true), (.bool ((showW 40 W h).toList == (showW 40 W h).toList), .bool true), (.bool ((showW 40 W h).toList == (showW 40 W h).toList), .bool true), (h.v, h.v), (h.v, h.v), (h.v, h.v), (g.v, g.v), (h.v, h.v), (g.v, g.v), (h.v, h.v), (h.v, h.v), (h.v, h.v), (.int .i64 n, .int .i64 n), (h.v, h.v), (.int .i64 n, .int .i64 n), (g.v, g.v), (h.v, h.v)] W (by kernel_rfl) (by simp [denL, den, argV, VH.v]) (by simp [bdL, bd, argV]) (AllT.cons (congrArg Value.bool (by simp)) (AllT.cons (congrArg Value.bool (by simp)) (AllT.cons (congrArg Value.bool (by simp)) (AllT.cons (congrArg Value.bool (by simp)) (AllT.cons (congrArg Value.bool (by simp)) (AllT.cons (congrArg Value.bool (by simp)) (AllT.cons (congrArg Value.bool (by simp)) (AllT.cons (congrArg Value.bool (by simp)) (AllT.cons (congrArg Value.bool (by simp)) (AllT.cons (congrArg Value.bool (by simp)) (AllT.cons (congrArg Value.bool (by simp)) (AllT.cons (congrArg Value.bool (by simp)) (AllT.cons (congrArg Value.bool (by simp)) (AllT.cons (rfl) (AllT.cons (rfl) (AllT.cons (rfl) (AllT.cons (rfl) (AllT.cons (rfl) (AllT.cons (rfl) (AllT.cons (rfl) (AllT.cons (rfl) (AllT.cons (rfl) (AllT.cons (rfl) (AllT.cons (rfl) (AllT.cons (rfl) (AllT.cons (rfl) (AllT.cons (rfl) (AllT.nil)))))))))))))))))))))))))))) (fcV_at kv kw)
set_option maxHeartbeats 8000000 in
theorem vm_ftt {W : World} {n : Int} {h g : VH} (kv : VT 40 W h) (kw : VT 40 W g) (hT : TabP W) (hs1 : decide (countW 40 W h 60 ≤ 60) = true) (hs2 : decide (countW 40 W g 60 ≤ 60) = true) {K N : Int} (hix : ∀ w, @FcAt (fcV W h g) w → Calls Tryd.prog 9 #[h.v, .int .i64 n] w fun e w' => e = .returned (ixRes K N true) ∧ Below w.heap.size w w') (hrx : ∀ w, @FcAt (fcV W h g) w → Calls Tryd.prog 10 #[h.v, .int .i64 n] w fun e w' => e = .returned (ixRes K N true) ∧ Below w.heap.size w w') (hA : rightW 40 W h = false) (hS : sameW 40 W h g = true) : Calls Tryd.prog 3 #[h.v, g.v, .int .i64 n] W fun e w' => e = .returned (.bool true) ∧ Below W.heap.size W w' := by
  letI fc : FC := fcV W h g
  have hd : deepB 40 W h = true := deep_of_count (by omega) (of_decide_eq_true hs1)
  exact @ex_valG (fcV W h g) _ ((kgOr (gk knR) ((kgOr (kgSel (kgAt 8 [h.v] (.v (.bool true))) (kgAt 8 [g.v] (.v (.bool true)))) ((kgOr (kgAt 9 [h.v, .int .i64 n] (.t [.g [.y (.int .i64 K), .y (.int .i64 N), .v (.int .i64 0), .v (.slice none 0 0)], .v (.bool true)])) ((kgOr (kgAt 10 [h.v, .int .i64 n] (.t [.g [.y (.int .i64 K), .y (.int .i64 N), .v (.int .i64 0), .v (.slice none 0 0)], .v (.bool true)])) ((kgOr (kgAt 11 [h.v] (.v (.bool false))) ((kgOr (kgAt 12 [h.v] (.v (.bool false))) ((kgOr (kgAt 13 [h.v, g.v] (.v (.bool true))) ((kgOr (kgIf (kgAt 14 [h.v, g.v] (.v (.bool true)))) ((kgOr (kgAt 15 [h.v] (.y (.string (showW 40 W h)))) (kgAt 16 [h.v] (.y (.string (showW 40 W h)))))))))))))))))))))) ((kgOr_ok (gk_ok knR_ok) ((kgOr_ok (kgSel_ok (smallTab1 kv hs1) (smallTab2 kw hs2)) ((kgOr_ok (ixTab hix) ((kgOr_ok (ixTab hrx) ((kgOr_ok (rightTab _ hA) ((kgOr_ok (rrightTab _ hA) ((kgOr_ok (psameTab kv kw hd hS) ((kgOr_ok (kgIf_ok (rsameTab kv kw hd hS)) ((kgOr_ok (pshowTab kv hd hT) (rshowTab kv hd hT))))))))))))))))))) 100000 _ _ [argV h, argV g, .y (.int .i64 n)] [.bool true, .bool false, .bool true, .bool true, .bool true, .bool true, .bool false, .bool false, .bool true, .bool true, .bool true, .bool true, .bool true, .bool false, .bool true] _ [(.bool (rnd n == rnd n), .bool true), (.bool (rnd n != rnd n), .bool false), (.bool (rnd n == rnd n), .bool true), (.bool (rnd n == rnd n), .bool true), (.bool (rnd n == rnd n), .bool true), (.bool (rnd n == rnd n), .bool true), (.bool (rnd n == rnd n), .bool true), (.bool (N != N), .bool false), (.bool (K != K), .bool false), (.bool ((showW 40 W h).toList == (showW 40 W h).toList), .bool true), (.bool ((showW 40 W h).toList == (showW 40 W h).toList), .bool true), (.bool ((showW 40 W h).toList == (showW 40 W h).toList), .bool true), (.bool ((showW 40 W h).toList == (showW 40 W h).toList), .bool true), (h.v, h.v), (h.v, h.v), (h.v, h.v), (g.v, g.v), (h.v, h.v), (g.v, g.v), (h.v, h.v), (h.v, h.v), (h.v, h.v), (.int .i64 n, .int .i64 n), (h.v, h.v), (.int .i64 n, .int .i64 n), (g.v, g.v), (h.v, h.v)] W (by kernel_rfl) (by simp [denL, den, argV, VH.v]) (by simp [bdL, bd, argV]) (AllT.cons (congrArg Value.bool (by simp)) (AllT.cons (congrArg Value.bool (by simp)) (AllT.cons (congrArg Value.bool (by simp)) (AllT.cons (congrArg Value.bool (by simp)) (AllT.cons (congrArg Value.bool (by simp)) (AllT.cons (congrArg Value.bool (by simp)) (AllT.cons (congrArg Value.bool (by simp)) (AllT.cons (congrArg Value.bool (by simp)) (AllT.cons (congrArg Value.bool (by simp)) (AllT.cons (congrArg Value.bool (by simp)) (AllT.cons (congrArg Value.bool (by simp)) (AllT.cons (congrArg Value.bool (by simp)) (AllT.cons (congrArg Value.bool (by simp)) (AllT.cons (rfl) (AllT.cons (rfl) (AllT.cons (rfl) (AllT.cons (rfl) (AllT.cons (rfl) (AllT.cons (rfl) (AllT.cons (rfl) (AllT.cons (rfl) (AllT.cons (rfl) (AllT.cons (rfl) (AllT.cons (rfl) (AllT.cons (rfl) (AllT.cons (rfl) (AllT.cons (rfl) (AllT.nil)))))))))))))))))))))))))))) (fcV_at kv kw)
set_option maxHeartbeats 8000000 in
theorem vm_ftf {W : World} {n : Int} {h g : VH} (kv : VT 40 W h) (kw : VT 40 W g) (hT : TabP W) (hs1 : decide (countW 40 W h 60 ≤ 60) = true) (hs2 : decide (countW 40 W g 60 ≤ 60) = true) {K N : Int} (hix : ∀ w, @FcAt (fcV W h g) w → Calls Tryd.prog 9 #[h.v, .int .i64 n] w fun e w' => e = .returned (ixRes K N false) ∧ Below w.heap.size w w') (hrx : ∀ w, @FcAt (fcV W h g) w → Calls Tryd.prog 10 #[h.v, .int .i64 n] w fun e w' => e = .returned (ixRes K N false) ∧ Below w.heap.size w w') (hA : rightW 40 W h = false) (hS : sameW 40 W h g = true) : Calls Tryd.prog 3 #[h.v, g.v, .int .i64 n] W fun e w' => e = .returned (.bool true) ∧ Below W.heap.size W w' := by
  letI fc : FC := fcV W h g
  have hd : deepB 40 W h = true := deep_of_count (by omega) (of_decide_eq_true hs1)
  exact @ex_valG (fcV W h g) _ ((kgOr (gk knR) ((kgOr (kgSel (kgAt 8 [h.v] (.v (.bool true))) (kgAt 8 [g.v] (.v (.bool true)))) ((kgOr (kgAt 9 [h.v, .int .i64 n] (.t [.g [.y (.int .i64 K), .y (.int .i64 N), .v (.int .i64 0), .v (.slice none 0 0)], .v (.bool false)])) ((kgOr (kgAt 10 [h.v, .int .i64 n] (.t [.g [.y (.int .i64 K), .y (.int .i64 N), .v (.int .i64 0), .v (.slice none 0 0)], .v (.bool false)])) ((kgOr (kgAt 11 [h.v] (.v (.bool false))) ((kgOr (kgAt 12 [h.v] (.v (.bool false))) ((kgOr (kgAt 13 [h.v, g.v] (.v (.bool true))) ((kgOr (kgIf (kgAt 14 [h.v, g.v] (.v (.bool true)))) ((kgOr (kgAt 15 [h.v] (.y (.string (showW 40 W h)))) (kgAt 16 [h.v] (.y (.string (showW 40 W h)))))))))))))))))))))) ((kgOr_ok (gk_ok knR_ok) ((kgOr_ok (kgSel_ok (smallTab1 kv hs1) (smallTab2 kw hs2)) ((kgOr_ok (ixTab hix) ((kgOr_ok (ixTab hrx) ((kgOr_ok (rightTab _ hA) ((kgOr_ok (rrightTab _ hA) ((kgOr_ok (psameTab kv kw hd hS) ((kgOr_ok (kgIf_ok (rsameTab kv kw hd hS)) ((kgOr_ok (pshowTab kv hd hT) (rshowTab kv hd hT))))))))))))))))))) 100000 _ _ [argV h, argV g, .y (.int .i64 n)] [.bool true, .bool false, .bool true, .bool true, .bool true, .bool true, .bool false, .bool false, .bool true, .bool true, .bool true, .bool true, .bool true, .bool false, .bool true] _ [(.bool (rnd n == rnd n), .bool true), (.bool (rnd n != rnd n), .bool false), (.bool (rnd n == rnd n), .bool true), (.bool (rnd n == rnd n), .bool true), (.bool (rnd n == rnd n), .bool true), (.bool (rnd n == rnd n), .bool true), (.bool (rnd n == rnd n), .bool true), (.bool (N != N), .bool false), (.bool (K != K), .bool false), (.bool ((showW 40 W h).toList == (showW 40 W h).toList), .bool true), (.bool ((showW 40 W h).toList == (showW 40 W h).toList), .bool true), (.bool ((showW 40 W h).toList == (showW 40 W h).toList), .bool true), (.bool ((showW 40 W h).toList == (showW 40 W h).toList), .bool true), (h.v, h.v), (h.v, h.v), (h.v, h.v), (g.v, g.v), (h.v, h.v), (g.v, g.v), (h.v, h.v), (h.v, h.v), (h.v, h.v), (.int .i64 n, .int .i64 n), (h.v, h.v), (.int .i64 n, .int .i64 n), (g.v, g.v), (h.v, h.v)] W (by kernel_rfl) (by simp [denL, den, argV, VH.v]) (by simp [bdL, bd, argV]) (AllT.cons (congrArg Value.bool (by simp)) (AllT.cons (congrArg Value.bool (by simp)) (AllT.cons (congrArg Value.bool (by simp)) (AllT.cons (congrArg Value.bool (by simp)) (AllT.cons (congrArg Value.bool (by simp)) (AllT.cons (congrArg Value.bool (by simp)) (AllT.cons (congrArg Value.bool (by simp)) (AllT.cons (congrArg Value.bool (by simp)) (AllT.cons (congrArg Value.bool (by simp)) (AllT.cons (congrArg Value.bool (by simp)) (AllT.cons (congrArg Value.bool (by simp)) (AllT.cons (congrArg Value.bool (by simp)) (AllT.cons (congrArg Value.bool (by simp)) (AllT.cons (rfl) (AllT.cons (rfl) (AllT.cons (rfl) (AllT.cons (rfl) (AllT.cons (rfl) (AllT.cons (rfl) (AllT.cons (rfl) (AllT.cons (rfl) (AllT.cons (rfl) (AllT.cons (rfl) (AllT.cons (rfl) (AllT.cons (rfl) (AllT.cons (rfl) (AllT.cons (rfl) (AllT.nil)))))))))))))))))))))))))))) (fcV_at kv kw)
set_option maxHeartbeats 8000000 in
theorem vm_fft {W : World} {n : Int} {h g : VH} (kv : VT 40 W h) (kw : VT 40 W g) (hT : TabP W) (hs1 : decide (countW 40 W h 60 ≤ 60) = true) (hs2 : decide (countW 40 W g 60 ≤ 60) = true) {K N : Int} (hix : ∀ w, @FcAt (fcV W h g) w → Calls Tryd.prog 9 #[h.v, .int .i64 n] w fun e w' => e = .returned (ixRes K N true) ∧ Below w.heap.size w w') (hrx : ∀ w, @FcAt (fcV W h g) w → Calls Tryd.prog 10 #[h.v, .int .i64 n] w fun e w' => e = .returned (ixRes K N true) ∧ Below w.heap.size w w') (hA : rightW 40 W h = false) (hS : sameW 40 W h g = false) : Calls Tryd.prog 3 #[h.v, g.v, .int .i64 n] W fun e w' => e = .returned (.bool true) ∧ Below W.heap.size W w' := by
  letI fc : FC := fcV W h g
  have hd : deepB 40 W h = true := deep_of_count (by omega) (of_decide_eq_true hs1)
  exact @ex_valG (fcV W h g) _ ((kgOr (gk knR) ((kgOr (kgSel (kgAt 8 [h.v] (.v (.bool true))) (kgAt 8 [g.v] (.v (.bool true)))) ((kgOr (kgAt 9 [h.v, .int .i64 n] (.t [.g [.y (.int .i64 K), .y (.int .i64 N), .v (.int .i64 0), .v (.slice none 0 0)], .v (.bool true)])) ((kgOr (kgAt 10 [h.v, .int .i64 n] (.t [.g [.y (.int .i64 K), .y (.int .i64 N), .v (.int .i64 0), .v (.slice none 0 0)], .v (.bool true)])) ((kgOr (kgAt 11 [h.v] (.v (.bool false))) ((kgOr (kgAt 12 [h.v] (.v (.bool false))) ((kgOr (kgAt 13 [h.v, g.v] (.v (.bool false))) ((kgOr (kgIf (kgAt 14 [h.v, g.v] (.v (.bool false)))) ((kgOr (kgAt 15 [h.v] (.y (.string (showW 40 W h)))) (kgAt 16 [h.v] (.y (.string (showW 40 W h)))))))))))))))))))))) ((kgOr_ok (gk_ok knR_ok) ((kgOr_ok (kgSel_ok (smallTab1 kv hs1) (smallTab2 kw hs2)) ((kgOr_ok (ixTab hix) ((kgOr_ok (ixTab hrx) ((kgOr_ok (rightTab _ hA) ((kgOr_ok (rrightTab _ hA) ((kgOr_ok (psameTab kv kw hd hS) ((kgOr_ok (kgIf_ok (rsameTab kv kw hd hS)) ((kgOr_ok (pshowTab kv hd hT) (rshowTab kv hd hT))))))))))))))))))) 100000 _ _ [argV h, argV g, .y (.int .i64 n)] [.bool true, .bool false, .bool true, .bool true, .bool true, .bool true, .bool false, .bool false, .bool true, .bool true, .bool true, .bool true, .bool true, .bool false, .bool true] _ [(.bool (rnd n == rnd n), .bool true), (.bool (rnd n != rnd n), .bool false), (.bool (rnd n == rnd n), .bool true), (.bool (rnd n == rnd n), .bool true), (.bool (rnd n == rnd n), .bool true), (.bool (rnd n == rnd n), .bool true), (.bool (rnd n == rnd n), .bool true), (.bool (N != N), .bool false), (.bool (K != K), .bool false), (.bool ((showW 40 W h).toList == (showW 40 W h).toList), .bool true), (.bool ((showW 40 W h).toList == (showW 40 W h).toList), .bool true), (.bool ((showW 40 W h).toList == (showW 40 W h).toList), .bool true), (.bool ((showW 40 W h).toList == (showW 40 W h).toList), .bool true), (h.v, h.v), (h.v, h.v), (h.v, h.v), (g.v, g.v), (h.v, h.v), (g.v, g.v), (h.v, h.v), (h.v, h.v), (h.v, h.v), (.int .i64 n, .int .i64 n), (h.v, h.v), (.int .i64 n, .int .i64 n), (g.v, g.v), (h.v, h.v)] W (by kernel_rfl) (by simp [denL, den, argV, VH.v]) (by simp [bdL, bd, argV]) (AllT.cons (congrArg Value.bool (by simp)) (AllT.cons (congrArg Value.bool (by simp)) (AllT.cons (congrArg Value.bool (by simp)) (AllT.cons (congrArg Value.bool (by simp)) (AllT.cons (congrArg Value.bool (by simp)) (AllT.cons (congrArg Value.bool (by simp)) (AllT.cons (congrArg Value.bool (by simp)) (AllT.cons (congrArg Value.bool (by simp)) (AllT.cons (congrArg Value.bool (by simp)) (AllT.cons (congrArg Value.bool (by simp)) (AllT.cons (congrArg Value.bool (by simp)) (AllT.cons (congrArg Value.bool (by simp)) (AllT.cons (congrArg Value.bool (by simp)) (AllT.cons (rfl) (AllT.cons (rfl) (AllT.cons (rfl) (AllT.cons (rfl) (AllT.cons (rfl) (AllT.cons (rfl) (AllT.cons (rfl) (AllT.cons (rfl) (AllT.cons (rfl) (AllT.cons (rfl) (AllT.cons (rfl) (AllT.cons (rfl) (AllT.cons (rfl) (AllT.cons (rfl) (AllT.nil)))))))))))))))))))))))))))) (fcV_at kv kw)
set_option maxHeartbeats 8000000 in
theorem vm_fff {W : World} {n : Int} {h g : VH} (kv : VT 40 W h) (kw : VT 40 W g) (hT : TabP W) (hs1 : decide (countW 40 W h 60 ≤ 60) = true) (hs2 : decide (countW 40 W g 60 ≤ 60) = true) {K N : Int} (hix : ∀ w, @FcAt (fcV W h g) w → Calls Tryd.prog 9 #[h.v, .int .i64 n] w fun e w' => e = .returned (ixRes K N false) ∧ Below w.heap.size w w') (hrx : ∀ w, @FcAt (fcV W h g) w → Calls Tryd.prog 10 #[h.v, .int .i64 n] w fun e w' => e = .returned (ixRes K N false) ∧ Below w.heap.size w w') (hA : rightW 40 W h = false) (hS : sameW 40 W h g = false) : Calls Tryd.prog 3 #[h.v, g.v, .int .i64 n] W fun e w' => e = .returned (.bool true) ∧ Below W.heap.size W w' := by
  letI fc : FC := fcV W h g
  have hd : deepB 40 W h = true := deep_of_count (by omega) (of_decide_eq_true hs1)
  exact @ex_valG (fcV W h g) _ ((kgOr (gk knR) ((kgOr (kgSel (kgAt 8 [h.v] (.v (.bool true))) (kgAt 8 [g.v] (.v (.bool true)))) ((kgOr (kgAt 9 [h.v, .int .i64 n] (.t [.g [.y (.int .i64 K), .y (.int .i64 N), .v (.int .i64 0), .v (.slice none 0 0)], .v (.bool false)])) ((kgOr (kgAt 10 [h.v, .int .i64 n] (.t [.g [.y (.int .i64 K), .y (.int .i64 N), .v (.int .i64 0), .v (.slice none 0 0)], .v (.bool false)])) ((kgOr (kgAt 11 [h.v] (.v (.bool false))) ((kgOr (kgAt 12 [h.v] (.v (.bool false))) ((kgOr (kgAt 13 [h.v, g.v] (.v (.bool false))) ((kgOr (kgIf (kgAt 14 [h.v, g.v] (.v (.bool false)))) ((kgOr (kgAt 15 [h.v] (.y (.string (showW 40 W h)))) (kgAt 16 [h.v] (.y (.string (showW 40 W h)))))))))))))))))))))) ((kgOr_ok (gk_ok knR_ok) ((kgOr_ok (kgSel_ok (smallTab1 kv hs1) (smallTab2 kw hs2)) ((kgOr_ok (ixTab hix) ((kgOr_ok (ixTab hrx) ((kgOr_ok (rightTab _ hA) ((kgOr_ok (rrightTab _ hA) ((kgOr_ok (psameTab kv kw hd hS) ((kgOr_ok (kgIf_ok (rsameTab kv kw hd hS)) ((kgOr_ok (pshowTab kv hd hT) (rshowTab kv hd hT))))))))))))))))))) 100000 _ _ [argV h, argV g, .y (.int .i64 n)] [.bool true, .bool false, .bool true, .bool true, .bool true, .bool true, .bool false, .bool false, .bool true, .bool true, .bool true, .bool true, .bool true, .bool false, .bool true] _ [(.bool (rnd n == rnd n), .bool true), (.bool (rnd n != rnd n), .bool false), (.bool (rnd n == rnd n), .bool true), (.bool (rnd n == rnd n), .bool true), (.bool (rnd n == rnd n), .bool true), (.bool (rnd n == rnd n), .bool true), (.bool (rnd n == rnd n), .bool true), (.bool (N != N), .bool false), (.bool (K != K), .bool false), (.bool ((showW 40 W h).toList == (showW 40 W h).toList), .bool true), (.bool ((showW 40 W h).toList == (showW 40 W h).toList), .bool true), (.bool ((showW 40 W h).toList == (showW 40 W h).toList), .bool true), (.bool ((showW 40 W h).toList == (showW 40 W h).toList), .bool true), (h.v, h.v), (h.v, h.v), (h.v, h.v), (g.v, g.v), (h.v, h.v), (g.v, g.v), (h.v, h.v), (h.v, h.v), (h.v, h.v), (.int .i64 n, .int .i64 n), (h.v, h.v), (.int .i64 n, .int .i64 n), (g.v, g.v), (h.v, h.v)] W (by kernel_rfl) (by simp [denL, den, argV, VH.v]) (by simp [bdL, bd, argV]) (AllT.cons (congrArg Value.bool (by simp)) (AllT.cons (congrArg Value.bool (by simp)) (AllT.cons (congrArg Value.bool (by simp)) (AllT.cons (congrArg Value.bool (by simp)) (AllT.cons (congrArg Value.bool (by simp)) (AllT.cons (congrArg Value.bool (by simp)) (AllT.cons (congrArg Value.bool (by simp)) (AllT.cons (congrArg Value.bool (by simp)) (AllT.cons (congrArg Value.bool (by simp)) (AllT.cons (congrArg Value.bool (by simp)) (AllT.cons (congrArg Value.bool (by simp)) (AllT.cons (congrArg Value.bool (by simp)) (AllT.cons (congrArg Value.bool (by simp)) (AllT.cons (rfl) (AllT.cons (rfl) (AllT.cons (rfl) (AllT.cons (rfl) (AllT.cons (rfl) (AllT.cons (rfl) (AllT.cons (rfl) (AllT.cons (rfl) (AllT.cons (rfl) (AllT.cons (rfl) (AllT.cons (rfl) (AllT.cons (rfl) (AllT.cons (rfl) (AllT.cons (rfl) (AllT.nil)))))))))))))))))))))))))))) (fcV_at kv kw)
theorem vm_all (W : World) (n : Int) (h g : VH) (kv : VT 40 W h) (kw : VT 40 W g) (hT : TabP W) : Calls Tryd.prog 3 #[h.v, g.v, .int .i64 n] W fun e w' => e = .returned (.bool true) ∧ Below W.heap.size W w' := by
  cases hs1 : decide (countW 40 W h 60 ≤ 60) with
  | false => exact vm_s1 kv kw hs1
  | true =>
  cases hs2 : decide (countW 40 W g 60 ≤ 60) with
  | false => exact vm_s2 kv kw hs1 hs2
  | true =>
  obtain ⟨K, N, B, hix, hrx⟩ := index_both W h g n
  cases hA : rightW 40 W h <;> cases hS : sameW 40 W h g <;> cases B
  · exact vm_fff kv kw hT hs1 hs2 hix hrx hA hS
  · exact vm_fft kv kw hT hs1 hs2 hix hrx hA hS
  · exact vm_ftf kv kw hT hs1 hs2 hix hrx hA hS
  · exact vm_ftt kv kw hT hs1 hs2 hix hrx hA hS
  · exact vm_tff kv kw hT hs1 hs2 hix hrx hA hS
  · exact vm_tft kv kw hT hs1 hs2 hix hrx hA hS
  · exact vm_ttf kv kw hT hs1 hs2 hix hrx hA hS
  · exact vm_ttt kv kw hT hs1 hs2 hix hrx hA hS
end Go.Proofs.YtoijdnlplbeomaaDoor
