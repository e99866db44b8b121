/-
  Merged: Vw0, Vw1, Vw2, Vy0, Vy1, Ij0, Ij1, Pl0, Vi1
-/
import Derived.Test.YtoijdnlplbeomaaDoorPx8
import Derived.Test.YtoijdnlplbeomaaDoorPx15
import Derived.Test.YtoijdnlplbeomaaDoorPx11
import Derived.Test.YtoijdnlplbeomaaDoorPx6

/-
  Layer 8: the text of a value, as a function of the world; how long it is; tables for numerals.
-/
namespace Go.Proofs.YtoijdnlplbeomaaDoor
open Go Go.RowKit EX
set_option maxRecDepth 100000
set_option linter.unusedVariables false
set_option linter.unusedSimpArgs false
set_option linter.unusedSectionVars false
theorem dec_len10 : ∀ (k u : Nat), u < 10 ^ (k + 1) → (Lib.decDigits u).length ≤ k + 1
  | 0, u, h => by rw [Lib.decDigits_one (by simpa using h)]; simp
  | k + 1, u, h => by
    by_cases hu : u < 10
    · rw [Lib.decDigits_one hu]; simp
    · rw [Lib.decDigits, dif_neg hu]
      have := dec_len10 k (u / 10) (by rw [Nat.div_lt_iff_lt_mul (by omega)]; rw [Nat.pow_succ] at h; exact h)
      simp only [List.length_append, List.length_cons, List.length_nil]
      omega
theorem decB_size20 (a : Int) (h : a < 10 ^ 19) : (decB a).size ≤ 19 := by
  have := dec_len10 18 a.toNat (by
    have h2 : (10 : Nat) ^ (18 + 1) = 10000000000000000000 := by decide
    have h3 : (10 : Int) ^ 19 = 10000000000000000000 := by decide
    omega)
  unfold decB
  show (Lib.decDigits a.toNat).toArray.size ≤ 19
  simpa using this
theorem numB_size (n : Int) (hn : I64 n) : (numB n).size ≤ 20 := by
  unfold I64 at hn
  have h3 : (10 : Int) ^ 19 = 10000000000000000000 := by decide
  by_cases h : n < 0
  · rw [numB_neg h, ByteArray.size_append]
    have := decB_size20 (-n) (by omega)
    have e : (⟨#[45]⟩ : ByteArray).size = 1 := rfl
    omega
  · rw [numB_pos (by omega)]
    have := decB_size20 n (by omega)
    omega
def bTrue : ByteArray := ⟨#[116, 114, 117, 101]⟩
def bFalse : ByteArray := ⟨#[102, 97, 108, 115, 101]⟩
def bUnit : ByteArray := ⟨#[40, 41]⟩
def bAt : ByteArray := ⟨#[64]⟩
def bHash : ByteArray := ⟨#[35]⟩
def bNone : ByteArray := ⟨#[78, 111, 110, 101]⟩
def bFun : ByteArray := ⟨#[102, 117, 110]⟩
def bLP : ByteArray := ⟨#[40]⟩
def bRP : ByteArray := ⟨#[41]⟩
def bComma : ByteArray := ⟨#[44, 32]⟩
def bSomeP : ByteArray := ⟨#[83, 111, 109, 101, 32, 40]⟩
def bSome : ByteArray := ⟨#[83, 111, 109, 101, 32]⟩
def bQ : ByteArray := ⟨#[63]⟩
def showW : Nat → World → VH → ByteArray
  | 0, _, _ => ⟨#[]⟩
  | d + 1, w, h =>
    if h.k = 1 then numB h.n
    else if h.k = 2 then (if h.n = 0 then bFalse else bTrue)
    else if h.k = 3 then bUnit
    else if h.k = 4 then bAt ++ numB h.n
    else if h.k = 5 then bAt ++ numB h.n ++ bHash ++ numB h.m
    else if h.k = 7 then bNone
    else if h.k = 9 then bFun
    else if h.k = 6 ∧ h.len = 2 then bLP ++ showW d w (h.kid w 0) ++ bComma ++ showW d w (h.kid w 1) ++ bRP
    else if h.k = 8 ∧ h.len = 1 then (if (h.kid w 0).k = 8 then bSomeP ++ showW d w (h.kid w 0) ++ bRP else bSome ++ showW d w (h.kid w 0))
    else bQ
theorem showW_size : ∀ (d : Nat) {w : World} {h : VH}, VT d w h → (showW d w h).size + 10 ≤ 60 * 2 ^ d
  | 0, w, h, hv => by simp [showW, ByteArray.size]
  | d + 1, w, h, hv => by
    have hp : 1 ≤ 2 ^ d := Nat.one_le_two_pow
    have e : 60 * 2 ^ (d + 1) = 2 * (60 * 2 ^ d) := by rw [Nat.pow_succ]; omega
    have ok := hv.ok
    have n1 := numB_size h.n ok.2.1
    have n2 := numB_size h.m ok.2.2.1
    have s1 : bFalse.size = 5 := rfl
    have s2 : bTrue.size = 4 := rfl
    have s3 : bUnit.size = 2 := rfl
    have s4 : bAt.size = 1 := rfl
    have s5 : bHash.size = 1 := rfl
    have s6 : bNone.size = 4 := rfl
    have s7 : bFun.size = 3 := rfl
    have s8 : bLP.size = 1 := rfl
    have s9 : bRP.size = 1 := rfl
    have s10 : bComma.size = 2 := rfl
    have s11 : bSomeP.size = 6 := rfl
    have s12 : bSome.size = 5 := rfl
    have s13 : bQ.size = 1 := rfl
    unfold showW
    rw [e]
    split
    · omega
    split
    · split <;> omega
    split
    · omega
    split
    · rw [ByteArray.size_append]; omega
    split
    · simp only [ByteArray.size_append]; omega
    split
    · omega
    split
    · omega
    split
    · rename_i h6
      have k0 := showW_size d (kid_below (below_rfl w) hv (i := 0) (by omega)).2
      have k1 := showW_size d (kid_below (below_rfl w) hv (i := 1) (by omega)).2
      simp only [ByteArray.size_append]; omega
    split
    · rename_i h8
      have k0 := showW_size d (kid_below (below_rfl w) hv (i := 0) (by omega)).2
      split <;> simp only [ByteArray.size_append] <;> omega
    · omega
theorem showW_below {w w' : World} (hb : Below w.heap.size w w') : ∀ {d : Nat} {h : VH}, VT d w h → showW d w' h = showW d w h
  | 0, _, _ => rfl
  | d + 1, h, hv => by
    have k : ∀ i, i < h.len → h.kid w' i = h.kid w i ∧ showW d w' (h.kid w i) = showW d w (h.kid w i) := fun i hi => by
      obtain ⟨e, hk⟩ := kid_below hb hv hi
      exact ⟨e, showW_below hb hk⟩
    unfold showW
    by_cases h6 : h.k = 6 ∧ h.len = 2
    · rw [if_pos h6, if_pos h6, (k 0 (by omega)).1, (k 1 (by omega)).1, (k 0 (by omega)).2, (k 1 (by omega)).2]
    · rw [if_neg h6, if_neg h6]
      by_cases h8 : h.k = 8 ∧ h.len = 1
      · rw [if_pos h8, if_pos h8, (k 0 (by omega)).1, (k 0 (by omega)).2]
      · rw [if_neg h8, if_neg h8]
section
variable [FC]
/-- A function that writes a number. -/
def kgNum (f0 : FuncId) : KnG := fun f args st => match Nat.beq f f0, args with
  | true, [.y (.int .i64 a)] => some ⟨.ret (.y (.string (numB a))), ⟨st.m, st.orc, (.bool (decide (-9223372036854775808 ≤ a ∧ a ≤ 9223372036854775807)), .bool true) :: st.cnd⟩⟩
  | _, _ => none
theorem kgNum_ok {P : Program} {f0 : FuncId} (h : ∀ a w, I64 a → FcAt w → Calls P f0 #[.int .i64 a] w fun e w' => e = .returned (.string (numB a)) ∧ Below w.heap.size w w') : KnGOk P (kgNum f0) := by
  intro f args st o hk
  unfold kgNum at hk
  split at hk
  · rename_i a hf
    have := Nat.eq_of_beq_eq_true hf
    subst this
    simp only [Option.some.injEq] at hk
    subst hk
    refine ⟨⟨⟨[_], rfl⟩, Fm.refl _⟩, trivial, fun tr w0 F B S w hS R hargs => ?_⟩
    have c := tr (.bool (decide (-9223372036854775808 ≤ a ∧ a ≤ 9223372036854775807)), .bool true) (by simp)
    simp only [Value.bool.injEq, decide_eq_true_eq] at c
    have := h a w (by unfold I64; omega) R.fc
    simp only [denL, den]
    refine this.mono ?_
    rintro e w' ⟨rfl, hb⟩
    exact ⟨B, Ag.refl _ _ _, Nat.le_refl _, by rw [ext_self]; exact R.below hb, by simp [den], by simp [bd]⟩
  · cases hk
theorem cut_endY {P : Program} {kn : KnG} (hkn : KnGOk P kn) (n : Nat) {w0 : World} {fr : Fr} {k : List SX.It} {st : St} {fn : Func} {v : Value} {cs : List (Value × Value)}
    (h : endE P fn (goF P kn n (.run fr k) st) = some ([], some [.y v], cs)) (hc : ∀ q ∈ cs, q.1 = q.2) :
    EX.Good P w0 (bodyPostD P fn fun e w' => e = .returned v ∧ Below w0.heap.size w0 w') fr k st := by
  unfold endE at h
  split at h
  · rename_i fr1 st1 h1
    simp only [Option.some.injEq, Prod.mk.injEq] at h
    obtain ⟨hD, hr, rfl⟩ := h
    rw [goF_eq] at h1
    have s := goJ_sound hkn (drE_ok P) n _ _ _ h1
    intro B S a w hS R A
    refine s.2.2 hc w0 [] B S a w _ hS R A ?_
    intro B' a' w' g1 g2 R' A'
    simp only at R' A'
    have hfin : Leaves P fn a'.tmps (fun e w' => e = .returned v ∧ Below w0.heap.size w0 w') a'.defers .returning w' := by
      rw [A'.df, hD]
      obtain ⟨h2, h3⟩ := resE_run R' A'.ra hr
      refine ⟨_, h2, ?_, ⟨R'.gr.1.os, R'.gr.1.tape, R'.gr.1.output, R'.gr.1.size, fun k hk => R'.gr.1.block k hk (by simp)⟩⟩
      simp [oneOf, den]
    exact ⟨hfin, hfin⟩
  · cases h
end
end Go.Proofs.YtoijdnlplbeomaaDoor


/-
  Layer 8: the text of a value, as the program writes it.
-/
namespace Go.Proofs.YtoijdnlplbeomaaDoor
open Go Go.RowKit EX
set_option maxRecDepth 100000
set_option linter.unusedVariables false
set_option linter.unusedSimpArgs false
set_option linter.unusedSectionVars false
/-- The parts of one value as one given row; the library's table. -/
abbrev fcW (W : World) (h : VH) (cs : List SV) (hT : TabP W) : FC := ⟨fun _ => bOf h, fun _ => oOf h, fun _ => cs, fun w => Below W.heap.size W w, fun w w' h k => ⟨k.os.trans h.os, k.tape.trans h.tape, k.output.trans h.output, Nat.le_trans h.size k.size, fun b hb => (k.block b (Nat.lt_of_lt_of_le hb h.size) (by simp)).trans (h.block b hb)⟩⟩
theorem fcW_nil {W : World} {h : VH} {hT : TabP W} : @FcAt (fcW W h [] hT) W := ⟨below_rfl W, fun i j x hx => absurd (show ([] : List SV)[j]? = some x from hx) (by simp)⟩
theorem fcW_1 {d : Nat} {W : World} {h : VH} {hT : TabP W} (hv : VT (d + 1) W h) (hl : h.len = 1) : @FcAt (fcW W h (h.kid W 0).sv hT) W := by
  refine ⟨below_rfl W, fun i j x hx => ?_⟩
  rcases hv.2 with q | ⟨b, o, ea, hel⟩
  · omega
  obtain ⟨k, hk, _⟩ := hel 0 (by omega)
  have e := VH.kid_eq ea hk
  have hx' : k.sv[j]? = some x := by rw [← e]; exact hx
  have hc := @sv_cell (fcW W h (h.kid W 0).sv hT) _ _ _ _ hk j x hx'
  have eb : bOf h = b := by unfold bOf; rw [ea]
  have eo : oOf h = o := by unfold oOf; rw [ea]
  show W.cell? ⟨bOf h, oOf h + j, none⟩ = _ ∧ _
  rw [eb, eo]
  simpa using hc
theorem fcW_2 {d : Nat} {W : World} {h : VH} {hT : TabP W} (hv : VT (d + 1) W h) (hl : h.len = 2) : @FcAt (fcW W h ((h.kid W 0).sv ++ (h.kid W 1).sv) hT) W := by
  refine ⟨below_rfl W, fun i j x hx => ?_⟩
  rcases hv.2 with q | ⟨b, o, ea, hel⟩
  · omega
  obtain ⟨k, hk, _⟩ := hel 0 (by omega)
  obtain ⟨k', hk', _⟩ := hel 1 (by omega)
  have e := VH.kid_eq ea hk
  have e' := VH.kid_eq ea hk'
  have hx' : (k.sv ++ k'.sv)[j]? = some x := by rw [← e, ← e']; exact hx
  have eb : bOf h = b := by unfold bOf; rw [ea]
  have eo : oOf h = o := by unfold oOf; rw [ea]
  show W.cell? ⟨bOf h, oOf h + j, none⟩ = _ ∧ _
  rw [eb, eo]
  by_cases hj : j < 4
  · have h2 : k.sv[j]? = some x := by
      rw [List.getElem?_append_left (by simpa [VH.sv] using hj)] at hx'
      exact hx'
    have hc := @sv_cell (fcW W h ((h.kid W 0).sv ++ (h.kid W 1).sv) hT) _ _ _ _ hk j x h2
    simpa using hc
  · have h2 : k'.sv[j - 4]? = some x := by
      rw [List.getElem?_append_right (by simp [VH.sv]; omega)] at hx'
      simpa [VH.sv] using hx'
    have hc := @sv_cell (fcW W h ((h.kid W 0).sv ++ (h.kid W 1).sv) hT) _ _ _ _ hk' (j - 4) x h2
    have e3 : o + 1 * 4 + (j - 4) = o + j := by omega
    rw [e3] at hc
    exact hc
section
variable [FC]
/-- Two calls of one function: the oracle picks. -/
def kgP2 (f0 : FuncId) (l1 l2 : List Value) (x y : SV) : KnG := fun f args st => match st.orc with
  | .bool true :: r => kgAt f0 l1 x f args ⟨st.m, r, st.cnd⟩
  | .bool false :: r => kgAt f0 l2 y f args ⟨st.m, r, st.cnd⟩
  | _ => none
theorem kgP2_ok {P : Program} {f0 : FuncId} {l1 l2 : List Value} {x y : SV} (h1 : KnGOk P (kgAt f0 l1 x)) (h2 : KnGOk P (kgAt f0 l2 y)) : KnGOk P (kgP2 f0 l1 l2 x y) := by
  intro f args st o hk
  unfold kgP2 at hk
  split at hk
  · have := h1 f args _ o hk
    exact this
  · have := h2 f args _ o hk
    exact this
  · cases hk
end
/-- What a case asks of sizes. -/
theorem sz_facts : bFalse.size = 5 ∧ bTrue.size = 4 ∧ bUnit.size = 2 ∧ bAt.size = 1 ∧ bHash.size = 1 ∧ bNone.size = 4 ∧ bFun.size = 3 ∧ bLP.size = 1 ∧ bRP.size = 1 ∧ bComma.size = 2 ∧ bSomeP.size = 6 ∧ bSome.size = 5 ∧ bQ.size = 1 := by
  refine ⟨rfl, rfl, rfl, rfl, rfl, rfl, rfl, rfl, rfl, rfl, rfl, rfl, rfl⟩
abbrev pshF : FuncId := 15
theorem psh_1 {d : Nat} {W : World} {h : VH} (hT : TabP W) (hv : VT (d + 1) W h) (g0 : h.k = 1) : Calls Tryd.prog pshF #[h.v] W fun e w' => e = .returned (.string (numB h.n)) ∧ Below W.heap.size W w' := by
  letI fc : FC := fcW W h [] hT
  have hfc : FcAt W := fcW_nil
  obtain ⟨f1, f2, f3, f4, f5, f6, f7, f8, f9, f10, f11, f12, f13⟩ := sz_facts
  have ok := hv.ok
  have n1 := numB_size h.n ok.2.1
  have n2 := numB_size h.m ok.2.2.1
  have r1 := ok.2.1
  have r2 := ok.2.2.1
  unfold I64 at r1 r2
  have hkn : KnGOk Tryd.prog (kgNum 31) := kgNum_ok fun a w ha hf => itoa_any a ha w (hT.below hf.1)
  refine cut_allA (fn := Tryd.f15) [.g [.v (.int .i64 1), .y (.int .i64 h.n), .y (.int .i64 h.m), .y (.slice h.a h.len h.cap)]] [] rfl rfl ?_ (by simp [bd, bdL, VH.sv]) ?_ hfc
  · simp [denL, den, VH.v, g0]
  · refine cut_endY hkn 100000 (cs := [(.bool (decide (-9223372036854775808 ≤ h.n ∧ h.n ≤ 9223372036854775807)), .bool true)]) (by kernel_rfl) ?_
    intro q hq
    simp only [List.mem_cons, List.not_mem_nil, or_false] at hq
    rcases hq with rfl
    all_goals first
      | exact congrArg Value.bool (decide_eq_true (by simp only [ByteArray.size_append]; omega))
      | exact congrArg Value.bool (by simp; assumption)
      | exact congrArg Value.bool (by simp; omega)
      | rfl
theorem psh_2t {d : Nat} {W : World} {h : VH} (hT : TabP W) (hv : VT (d + 1) W h) (g0 : h.k = 2) (g1 : h.n ≠ 0) : Calls Tryd.prog pshF #[h.v] W fun e w' => e = .returned (.string (bTrue)) ∧ Below W.heap.size W w' := by
  letI fc : FC := fcW W h [] hT
  have hfc : FcAt W := fcW_nil
  obtain ⟨f1, f2, f3, f4, f5, f6, f7, f8, f9, f10, f11, f12, f13⟩ := sz_facts
  have ok := hv.ok
  have n1 := numB_size h.n ok.2.1
  have n2 := numB_size h.m ok.2.2.1
  have r1 := ok.2.1
  have r2 := ok.2.2.1
  unfold I64 at r1 r2
  have hkn : KnGOk Tryd.prog (kgNum 31) := kgNum_ok fun a w ha hf => itoa_any a ha w (hT.below hf.1)
  refine cut_allA (fn := Tryd.f15) [.g [.v (.int .i64 2), .y (.int .i64 h.n), .y (.int .i64 h.m), .y (.slice h.a h.len h.cap)]] [.bool true] rfl rfl ?_ (by simp [bd, bdL, VH.sv]) ?_ hfc
  · simp [denL, den, VH.v, g0]
  · refine cut_end (v := .string (bTrue)) hkn 100000 (cs := [(.bool (h.n != 0), .bool true)]) (by kernel_rfl) ?_
    intro q hq
    simp only [List.mem_cons, List.not_mem_nil, or_false] at hq
    rcases hq with rfl
    all_goals first
      | exact congrArg Value.bool (decide_eq_true (by simp only [ByteArray.size_append]; omega))
      | exact congrArg Value.bool (by simp; assumption)
      | exact congrArg Value.bool (by simp; omega)
      | rfl
theorem psh_2f {d : Nat} {W : World} {h : VH} (hT : TabP W) (hv : VT (d + 1) W h) (g0 : h.k = 2) (g1 : h.n = 0) : Calls Tryd.prog pshF #[h.v] W fun e w' => e = .returned (.string (bFalse)) ∧ Below W.heap.size W w' := by
  letI fc : FC := fcW W h [] hT
  have hfc : FcAt W := fcW_nil
  obtain ⟨f1, f2, f3, f4, f5, f6, f7, f8, f9, f10, f11, f12, f13⟩ := sz_facts
  have ok := hv.ok
  have n1 := numB_size h.n ok.2.1
  have n2 := numB_size h.m ok.2.2.1
  have r1 := ok.2.1
  have r2 := ok.2.2.1
  unfold I64 at r1 r2
  have hkn : KnGOk Tryd.prog (kgNum 31) := kgNum_ok fun a w ha hf => itoa_any a ha w (hT.below hf.1)
  refine cut_allA (fn := Tryd.f15) [.g [.v (.int .i64 2), .y (.int .i64 h.n), .y (.int .i64 h.m), .y (.slice h.a h.len h.cap)]] [.bool false] rfl rfl ?_ (by simp [bd, bdL, VH.sv]) ?_ hfc
  · simp [denL, den, VH.v, g0]
  · refine cut_end (v := .string (bFalse)) hkn 100000 (cs := [(.bool (h.n != 0), .bool false)]) (by kernel_rfl) ?_
    intro q hq
    simp only [List.mem_cons, List.not_mem_nil, or_false] at hq
    rcases hq with rfl
    all_goals first
      | exact congrArg Value.bool (decide_eq_true (by simp only [ByteArray.size_append]; omega))
      | exact congrArg Value.bool (by simp; assumption)
      | exact congrArg Value.bool (by simp; omega)
      | rfl
theorem psh_3 {d : Nat} {W : World} {h : VH} (hT : TabP W) (hv : VT (d + 1) W h) (g0 : h.k = 3) : Calls Tryd.prog pshF #[h.v] W fun e w' => e = .returned (.string (bUnit)) ∧ Below W.heap.size W w' := by
  letI fc : FC := fcW W h [] hT
  have hfc : FcAt W := fcW_nil
  obtain ⟨f1, f2, f3, f4, f5, f6, f7, f8, f9, f10, f11, f12, f13⟩ := sz_facts
  have ok := hv.ok
  have n1 := numB_size h.n ok.2.1
  have n2 := numB_size h.m ok.2.2.1
  have r1 := ok.2.1
  have r2 := ok.2.2.1
  unfold I64 at r1 r2
  have hkn : KnGOk Tryd.prog (kgNum 31) := kgNum_ok fun a w ha hf => itoa_any a ha w (hT.below hf.1)
  refine cut_allA (fn := Tryd.f15) [.g [.v (.int .i64 3), .y (.int .i64 h.n), .y (.int .i64 h.m), .y (.slice h.a h.len h.cap)]] [] rfl rfl ?_ (by simp [bd, bdL, VH.sv]) ?_ hfc
  · simp [denL, den, VH.v, g0]
  · refine cut_end (v := .string (bUnit)) hkn 100000 (cs := []) (by kernel_rfl) ?_
    intro q hq
    simp only [List.mem_cons, List.not_mem_nil, or_false] at hq
theorem psh_4 {d : Nat} {W : World} {h : VH} (hT : TabP W) (hv : VT (d + 1) W h) (g0 : h.k = 4) : Calls Tryd.prog pshF #[h.v] W fun e w' => e = .returned (.string (bAt ++ numB h.n)) ∧ Below W.heap.size W w' := by
  letI fc : FC := fcW W h [] hT
  have hfc : FcAt W := fcW_nil
  obtain ⟨f1, f2, f3, f4, f5, f6, f7, f8, f9, f10, f11, f12, f13⟩ := sz_facts
  have ok := hv.ok
  have n1 := numB_size h.n ok.2.1
  have n2 := numB_size h.m ok.2.2.1
  have r1 := ok.2.1
  have r2 := ok.2.2.1
  unfold I64 at r1 r2
  have hkn : KnGOk Tryd.prog (kgNum 31) := kgNum_ok fun a w ha hf => itoa_any a ha w (hT.below hf.1)
  refine cut_allA (fn := Tryd.f15) [.g [.v (.int .i64 4), .y (.int .i64 h.n), .y (.int .i64 h.m), .y (.slice h.a h.len h.cap)]] [] rfl rfl ?_ (by simp [bd, bdL, VH.sv]) ?_ hfc
  · simp [denL, den, VH.v, g0]
  · refine cut_endY hkn 100000 (cs := [(.bool (decide ((bAt).size + (numB h.n).size ≤ 9223372036854775807)), .bool true), (.bool (decide (-9223372036854775808 ≤ h.n ∧ h.n ≤ 9223372036854775807)), .bool true)]) (by kernel_rfl) ?_
    intro q hq
    simp only [List.mem_cons, List.not_mem_nil, or_false] at hq
    rcases hq with rfl | rfl
    all_goals first
      | exact congrArg Value.bool (decide_eq_true (by simp only [ByteArray.size_append]; omega))
      | exact congrArg Value.bool (by simp; assumption)
      | exact congrArg Value.bool (by simp; omega)
      | rfl
theorem psh_5 {d : Nat} {W : World} {h : VH} (hT : TabP W) (hv : VT (d + 1) W h) (g0 : h.k = 5) : Calls Tryd.prog pshF #[h.v] W fun e w' => e = .returned (.string (bAt ++ numB h.n ++ bHash ++ numB h.m)) ∧ Below W.heap.size W w' := by
  letI fc : FC := fcW W h [] hT
  have hfc : FcAt W := fcW_nil
  obtain ⟨f1, f2, f3, f4, f5, f6, f7, f8, f9, f10, f11, f12, f13⟩ := sz_facts
  have ok := hv.ok
  have n1 := numB_size h.n ok.2.1
  have n2 := numB_size h.m ok.2.2.1
  have r1 := ok.2.1
  have r2 := ok.2.2.1
  unfold I64 at r1 r2
  have hkn : KnGOk Tryd.prog (kgNum 31) := kgNum_ok fun a w ha hf => itoa_any a ha w (hT.below hf.1)
  refine cut_allA (fn := Tryd.f15) [.g [.v (.int .i64 5), .y (.int .i64 h.n), .y (.int .i64 h.m), .y (.slice h.a h.len h.cap)]] [] rfl rfl ?_ (by simp [bd, bdL, VH.sv]) ?_ hfc
  · simp [denL, den, VH.v, g0]
  · refine cut_endY hkn 100000 (cs := [(.bool (decide ((bAt ++ numB h.n ++ bHash).size + (numB h.m).size ≤ 9223372036854775807)), .bool true), (.bool (decide (-9223372036854775808 ≤ h.m ∧ h.m ≤ 9223372036854775807)), .bool true), (.bool (decide ((bAt ++ numB h.n).size + (bHash).size ≤ 9223372036854775807)), .bool true), (.bool (decide ((bAt).size + (numB h.n).size ≤ 9223372036854775807)), .bool true), (.bool (decide (-9223372036854775808 ≤ h.n ∧ h.n ≤ 9223372036854775807)), .bool true)]) (by kernel_rfl) ?_
    intro q hq
    simp only [List.mem_cons, List.not_mem_nil, or_false] at hq
    rcases hq with rfl | rfl | rfl | rfl | rfl
    all_goals first
      | exact congrArg Value.bool (decide_eq_true (by simp only [ByteArray.size_append]; omega))
      | exact congrArg Value.bool (by simp; assumption)
      | exact congrArg Value.bool (by simp; omega)
      | rfl
theorem psh_7 {d : Nat} {W : World} {h : VH} (hT : TabP W) (hv : VT (d + 1) W h) (g0 : h.k = 7) : Calls Tryd.prog pshF #[h.v] W fun e w' => e = .returned (.string (bNone)) ∧ Below W.heap.size W w' := by
  letI fc : FC := fcW W h [] hT
  have hfc : FcAt W := fcW_nil
  obtain ⟨f1, f2, f3, f4, f5, f6, f7, f8, f9, f10, f11, f12, f13⟩ := sz_facts
  have ok := hv.ok
  have n1 := numB_size h.n ok.2.1
  have n2 := numB_size h.m ok.2.2.1
  have r1 := ok.2.1
  have r2 := ok.2.2.1
  unfold I64 at r1 r2
  have hkn : KnGOk Tryd.prog (kgNum 31) := kgNum_ok fun a w ha hf => itoa_any a ha w (hT.below hf.1)
  refine cut_allA (fn := Tryd.f15) [.g [.v (.int .i64 7), .y (.int .i64 h.n), .y (.int .i64 h.m), .y (.slice h.a h.len h.cap)]] [] rfl rfl ?_ (by simp [bd, bdL, VH.sv]) ?_ hfc
  · simp [denL, den, VH.v, g0]
  · refine cut_end (v := .string (bNone)) hkn 100000 (cs := []) (by kernel_rfl) ?_
    intro q hq
    simp only [List.mem_cons, List.not_mem_nil, or_false] at hq
theorem psh_9 {d : Nat} {W : World} {h : VH} (hT : TabP W) (hv : VT (d + 1) W h) (g0 : h.k = 9) : Calls Tryd.prog pshF #[h.v] W fun e w' => e = .returned (.string (bFun)) ∧ Below W.heap.size W w' := by
  letI fc : FC := fcW W h [] hT
  have hfc : FcAt W := fcW_nil
  obtain ⟨f1, f2, f3, f4, f5, f6, f7, f8, f9, f10, f11, f12, f13⟩ := sz_facts
  have ok := hv.ok
  have n1 := numB_size h.n ok.2.1
  have n2 := numB_size h.m ok.2.2.1
  have r1 := ok.2.1
  have r2 := ok.2.2.1
  unfold I64 at r1 r2
  have hkn : KnGOk Tryd.prog (kgNum 31) := kgNum_ok fun a w ha hf => itoa_any a ha w (hT.below hf.1)
  refine cut_allA (fn := Tryd.f15) [.g [.v (.int .i64 9), .y (.int .i64 h.n), .y (.int .i64 h.m), .y (.slice h.a h.len h.cap)]] [] rfl rfl ?_ (by simp [bd, bdL, VH.sv]) ?_ hfc
  · simp [denL, den, VH.v, g0]
  · refine cut_end (v := .string (bFun)) hkn 100000 (cs := []) (by kernel_rfl) ?_
    intro q hq
    simp only [List.mem_cons, List.not_mem_nil, or_false] at hq
theorem psh_6 {d : Nat} {W : World} {h : VH} (hT : TabP W) (hv : VT (d + 1) W h) (g0 : h.k = 6) (g1 : h.len = 2) (ih : ∀ i, i < h.len → ∀ w, Below W.heap.size W w → Calls Tryd.prog pshF #[(h.kid W i).v] w fun e w' => e = .returned (.string (showW d W (h.kid W i))) ∧ Below w.heap.size w w') (hz : ∀ i, i < h.len → (showW d W (h.kid W i)).size ≤ 1000000000000000) : Calls Tryd.prog pshF #[h.v] W fun e w' => e = .returned (.string (bLP ++ (showW d W (h.kid W 0)) ++ bComma ++ (showW d W (h.kid W 1)) ++ bRP)) ∧ Below W.heap.size W w' := by
  letI fc : FC := fcW W h ((h.kid W 0).sv ++ (h.kid W 1).sv) hT
  have hfc : FcAt W := fcW_2 hv g1
  obtain ⟨f1, f2, f3, f4, f5, f6, f7, f8, f9, f10, f11, f12, f13⟩ := sz_facts
  have ok := hv.ok
  have n1 := numB_size h.n ok.2.1
  have n2 := numB_size h.m ok.2.2.1
  have r1 := ok.2.1
  have r2 := ok.2.2.1
  unfold I64 at r1 r2
  have z0 := hz 0 (by omega)
  have z1 := hz 1 (by omega)
  have hkn : KnGOk Tryd.prog (kgP2 pshF [(h.kid W 0).v] [(h.kid W 1).v] (.y (.string (showW d W (h.kid W 0)))) (.y (.string (showW d W (h.kid W 1))))) := kgP2_ok (kgAt_ok (by simp [bd]) fun w hf => by have := ih 0 (by omega) w hf.1; simpa [den] using this) (kgAt_ok (by simp [bd]) fun w hf => by have := ih 1 (by omega) w hf.1; simpa [den] using this)
  refine cut_allA (fn := Tryd.f15) [.g [.v (.int .i64 6), .y (.int .i64 h.n), .y (.int .i64 h.m), .q 0 0 2 h.cap]] [.bool true, .bool true, .bool false] rfl rfl ?_ (by simp [bd, bdL, VH.sv]) ?_ hfc
  · rcases hv.2 with q | ⟨b1, o1, e1, _⟩
    · omega
    · have eb : bOf h = b1 := by unfold bOf; rw [e1]
      have eo : oOf h = o1 := by unfold oOf; rw [e1]
      simp [denL, den, VH.v, g0, g1, e1]
      exact ⟨eb, eo⟩
  · refine cut_endY hkn 100000 (cs := [(.bool (decide ((bLP ++ (showW d W (h.kid W 0)) ++ bComma ++ (showW d W (h.kid W 1))).size + (bRP).size ≤ 9223372036854775807)), .bool true), (.bool (decide ((bLP ++ (showW d W (h.kid W 0)) ++ bComma).size + ((showW d W (h.kid W 1))).size ≤ 9223372036854775807)), .bool true), ((.agg #[.int .i64 (h.kid W 1).k, .int .i64 (h.kid W 1).n, .int .i64 (h.kid W 1).m, .slice (h.kid W 1).a (h.kid W 1).len (h.kid W 1).cap]), (h.kid W 1).v), (.bool (decide ((bLP ++ (showW d W (h.kid W 0))).size + (bComma).size ≤ 9223372036854775807)), .bool true), (.bool (decide ((bLP).size + ((showW d W (h.kid W 0))).size ≤ 9223372036854775807)), .bool true), ((.agg #[.int .i64 (h.kid W 0).k, .int .i64 (h.kid W 0).n, .int .i64 (h.kid W 0).m, .slice (h.kid W 0).a (h.kid W 0).len (h.kid W 0).cap]), (h.kid W 0).v), (.bool (((2 : Nat) : Int) == 2), .bool true)]) (by kernel_rfl) ?_
    intro q hq
    simp only [List.mem_cons, List.not_mem_nil, or_false] at hq
    rcases hq with rfl | rfl | rfl | rfl | rfl | rfl | rfl
    all_goals first
      | exact congrArg Value.bool (decide_eq_true (by simp only [ByteArray.size_append]; omega))
      | exact congrArg Value.bool (by simp; assumption)
      | exact congrArg Value.bool (by simp; omega)
      | rfl
theorem psh_6n {d : Nat} {W : World} {h : VH} (hT : TabP W) (hv : VT (d + 1) W h) (g0 : h.k = 6) (g1 : h.len ≠ 2) : Calls Tryd.prog pshF #[h.v] W fun e w' => e = .returned (.string (bQ)) ∧ Below W.heap.size W w' := by
  letI fc : FC := fcW W h [] hT
  have hfc : FcAt W := fcW_nil
  obtain ⟨f1, f2, f3, f4, f5, f6, f7, f8, f9, f10, f11, f12, f13⟩ := sz_facts
  have ok := hv.ok
  have n1 := numB_size h.n ok.2.1
  have n2 := numB_size h.m ok.2.2.1
  have r1 := ok.2.1
  have r2 := ok.2.2.1
  unfold I64 at r1 r2
  have hkn : KnGOk Tryd.prog (kgNum 31) := kgNum_ok fun a w ha hf => itoa_any a ha w (hT.below hf.1)
  refine cut_allA (fn := Tryd.f15) [.g [.v (.int .i64 6), .y (.int .i64 h.n), .y (.int .i64 h.m), .y (.slice h.a h.len h.cap)]] [.bool false] rfl rfl ?_ (by simp [bd, bdL, VH.sv]) ?_ hfc
  · simp [denL, den, VH.v, g0]
  · refine cut_end (v := .string (bQ)) hkn 100000 (cs := [(.bool (((h.len : Nat) : Int) == 2), .bool false)]) (by kernel_rfl) ?_
    intro q hq
    simp only [List.mem_cons, List.not_mem_nil, or_false] at hq
    rcases hq with rfl
    all_goals first
      | exact congrArg Value.bool (decide_eq_true (by simp only [ByteArray.size_append]; omega))
      | exact congrArg Value.bool (by simp; assumption)
      | exact congrArg Value.bool (by simp; omega)
      | rfl
theorem psh_8t {d : Nat} {W : World} {h : VH} (hT : TabP W) (hv : VT (d + 1) W h) (g0 : h.k = 8) (g1 : h.len = 1) (g2 : (h.kid W 0).k = 8) (ih : ∀ i, i < h.len → ∀ w, Below W.heap.size W w → Calls Tryd.prog pshF #[(h.kid W i).v] w fun e w' => e = .returned (.string (showW d W (h.kid W i))) ∧ Below w.heap.size w w') (hz : ∀ i, i < h.len → (showW d W (h.kid W i)).size ≤ 1000000000000000) : Calls Tryd.prog pshF #[h.v] W fun e w' => e = .returned (.string (bSomeP ++ (showW d W (h.kid W 0)) ++ bRP)) ∧ Below W.heap.size W w' := by
  letI fc : FC := fcW W h (h.kid W 0).sv hT
  have hfc : FcAt W := fcW_1 hv g1
  obtain ⟨f1, f2, f3, f4, f5, f6, f7, f8, f9, f10, f11, f12, f13⟩ := sz_facts
  have ok := hv.ok
  have n1 := numB_size h.n ok.2.1
  have n2 := numB_size h.m ok.2.2.1
  have r1 := ok.2.1
  have r2 := ok.2.2.1
  unfold I64 at r1 r2
  have z0 := hz 0 (by omega)
  have hkn : KnGOk Tryd.prog (kgAt pshF [(h.kid W 0).v] (.y (.string (showW d W (h.kid W 0))))) := kgAt_ok (by simp [bd]) fun w hf => by have := ih 0 (by omega) w hf.1; simpa [den] using this
  refine cut_allA (fn := Tryd.f15) [.g [.v (.int .i64 8), .y (.int .i64 h.n), .y (.int .i64 h.m), .q 0 0 1 h.cap]] [.bool true, .bool true] rfl rfl ?_ (by simp [bd, bdL, VH.sv]) ?_ hfc
  · rcases hv.2 with q | ⟨b1, o1, e1, _⟩
    · omega
    · have eb : bOf h = b1 := by unfold bOf; rw [e1]
      have eo : oOf h = o1 := by unfold oOf; rw [e1]
      simp [denL, den, VH.v, g0, g1, e1]
      exact ⟨eb, eo⟩
  · refine cut_endY hkn 100000 (cs := [(.bool (decide ((bSomeP ++ (showW d W (h.kid W 0))).size + (bRP).size ≤ 9223372036854775807)), .bool true), (.bool (decide ((bSomeP).size + ((showW d W (h.kid W 0))).size ≤ 9223372036854775807)), .bool true), ((.agg #[.int .i64 (h.kid W 0).k, .int .i64 (h.kid W 0).n, .int .i64 (h.kid W 0).m, .slice (h.kid W 0).a (h.kid W 0).len (h.kid W 0).cap]), (h.kid W 0).v), (.bool ((h.kid W 0).k == 8), .bool true), (.bool (((1 : Nat) : Int) == 1), .bool true)]) (by kernel_rfl) ?_
    intro q hq
    simp only [List.mem_cons, List.not_mem_nil, or_false] at hq
    rcases hq with rfl | rfl | rfl | rfl | rfl
    all_goals first
      | exact congrArg Value.bool (decide_eq_true (by simp only [ByteArray.size_append]; omega))
      | exact congrArg Value.bool (by simp; assumption)
      | exact congrArg Value.bool (by simp; omega)
      | rfl
theorem psh_8f {d : Nat} {W : World} {h : VH} (hT : TabP W) (hv : VT (d + 1) W h) (g0 : h.k = 8) (g1 : h.len = 1) (g2 : (h.kid W 0).k ≠ 8) (ih : ∀ i, i < h.len → ∀ w, Below W.heap.size W w → Calls Tryd.prog pshF #[(h.kid W i).v] w fun e w' => e = .returned (.string (showW d W (h.kid W i))) ∧ Below w.heap.size w w') (hz : ∀ i, i < h.len → (showW d W (h.kid W i)).size ≤ 1000000000000000) : Calls Tryd.prog pshF #[h.v] W fun e w' => e = .returned (.string (bSome ++ (showW d W (h.kid W 0)))) ∧ Below W.heap.size W w' := by
  letI fc : FC := fcW W h (h.kid W 0).sv hT
  have hfc : FcAt W := fcW_1 hv g1
  obtain ⟨f1, f2, f3, f4, f5, f6, f7, f8, f9, f10, f11, f12, f13⟩ := sz_facts
  have ok := hv.ok
  have n1 := numB_size h.n ok.2.1
  have n2 := numB_size h.m ok.2.2.1
  have r1 := ok.2.1
  have r2 := ok.2.2.1
  unfold I64 at r1 r2
  have z0 := hz 0 (by omega)
  have hkn : KnGOk Tryd.prog (kgAt pshF [(h.kid W 0).v] (.y (.string (showW d W (h.kid W 0))))) := kgAt_ok (by simp [bd]) fun w hf => by have := ih 0 (by omega) w hf.1; simpa [den] using this
  refine cut_allA (fn := Tryd.f15) [.g [.v (.int .i64 8), .y (.int .i64 h.n), .y (.int .i64 h.m), .q 0 0 1 h.cap]] [.bool true, .bool false, .bool true] rfl rfl ?_ (by simp [bd, bdL, VH.sv]) ?_ hfc
  · rcases hv.2 with q | ⟨b1, o1, e1, _⟩
    · omega
    · have eb : bOf h = b1 := by unfold bOf; rw [e1]
      have eo : oOf h = o1 := by unfold oOf; rw [e1]
      simp [denL, den, VH.v, g0, g1, e1]
      exact ⟨eb, eo⟩
  · refine cut_endY hkn 100000 (cs := [(.bool (decide ((bSome).size + ((showW d W (h.kid W 0))).size ≤ 9223372036854775807)), .bool true), ((.agg #[.int .i64 (h.kid W 0).k, .int .i64 (h.kid W 0).n, .int .i64 (h.kid W 0).m, .slice (h.kid W 0).a (h.kid W 0).len (h.kid W 0).cap]), (h.kid W 0).v), (.bool (((1 : Nat) : Int) == 1), .bool true), (.bool ((h.kid W 0).k == 8), .bool false), (.bool (((1 : Nat) : Int) == 1), .bool true)]) (by kernel_rfl) ?_
    intro q hq
    simp only [List.mem_cons, List.not_mem_nil, or_false] at hq
    rcases hq with rfl | rfl | rfl | rfl | rfl
    all_goals first
      | exact congrArg Value.bool (decide_eq_true (by simp only [ByteArray.size_append]; omega))
      | exact congrArg Value.bool (by simp; assumption)
      | exact congrArg Value.bool (by simp; omega)
      | rfl
theorem psh_8n {d : Nat} {W : World} {h : VH} (hT : TabP W) (hv : VT (d + 1) W h) (g0 : h.k = 8) (g1 : h.len ≠ 1) : Calls Tryd.prog pshF #[h.v] W fun e w' => e = .returned (.string (bQ)) ∧ Below W.heap.size W w' := by
  letI fc : FC := fcW W h [] hT
  have hfc : FcAt W := fcW_nil
  obtain ⟨f1, f2, f3, f4, f5, f6, f7, f8, f9, f10, f11, f12, f13⟩ := sz_facts
  have ok := hv.ok
  have n1 := numB_size h.n ok.2.1
  have n2 := numB_size h.m ok.2.2.1
  have r1 := ok.2.1
  have r2 := ok.2.2.1
  unfold I64 at r1 r2
  have hkn : KnGOk Tryd.prog (kgNum 31) := kgNum_ok fun a w ha hf => itoa_any a ha w (hT.below hf.1)
  refine cut_allA (fn := Tryd.f15) [.g [.v (.int .i64 8), .y (.int .i64 h.n), .y (.int .i64 h.m), .y (.slice h.a h.len h.cap)]] [.bool false, .bool false] rfl rfl ?_ (by simp [bd, bdL, VH.sv]) ?_ hfc
  · simp [denL, den, VH.v, g0]
  · refine cut_end (v := .string (bQ)) hkn 100000 (cs := [(.bool (((h.len : Nat) : Int) == 1), .bool false), (.bool (((h.len : Nat) : Int) == 1), .bool false)]) (by kernel_rfl) ?_
    intro q hq
    simp only [List.mem_cons, List.not_mem_nil, or_false] at hq
    rcases hq with rfl | rfl
    all_goals first
      | exact congrArg Value.bool (decide_eq_true (by simp only [ByteArray.size_append]; omega))
      | exact congrArg Value.bool (by simp; assumption)
      | exact congrArg Value.bool (by simp; omega)
      | rfl
theorem psh_o {d : Nat} {W : World} {h : VH} (hT : TabP W) (hv : VT (d + 1) W h) (g0 : h.k ≠ 1) (g1 : h.k ≠ 2) (g2 : h.k ≠ 3) (g3 : h.k ≠ 4) (g4 : h.k ≠ 5) (g5 : h.k ≠ 6) (g6 : h.k ≠ 7) (g7 : h.k ≠ 8) (g8 : h.k ≠ 9) : Calls Tryd.prog pshF #[h.v] W fun e w' => e = .returned (.string (bQ)) ∧ Below W.heap.size W w' := by
  letI fc : FC := fcW W h [] hT
  have hfc : FcAt W := fcW_nil
  obtain ⟨f1, f2, f3, f4, f5, f6, f7, f8, f9, f10, f11, f12, f13⟩ := sz_facts
  have ok := hv.ok
  have n1 := numB_size h.n ok.2.1
  have n2 := numB_size h.m ok.2.2.1
  have r1 := ok.2.1
  have r2 := ok.2.2.1
  unfold I64 at r1 r2
  have hkn : KnGOk Tryd.prog (kgNum 31) := kgNum_ok fun a w ha hf => itoa_any a ha w (hT.below hf.1)
  refine cut_allA (fn := Tryd.f15) [.g h.sv] [.bool false, .bool false, .bool false, .bool false, .bool false, .bool false, .bool false, .bool false, .bool false] rfl rfl ?_ (by simp [bd, bdL, VH.sv]) ?_ hfc
  · simp [denL, den, VH.v, VH.sv]
  · refine cut_end (v := .string (bQ)) hkn 100000 (cs := [(.bool (h.k == 8), .bool false), (.bool (h.k == 6), .bool false), (.bool (h.k == 9), .bool false), (.bool (h.k == 7), .bool false), (.bool (h.k == 5), .bool false), (.bool (h.k == 4), .bool false), (.bool (h.k == 3), .bool false), (.bool (h.k == 2), .bool false), (.bool (h.k == 1), .bool false)]) (by kernel_rfl) ?_
    intro q hq
    simp only [List.mem_cons, List.not_mem_nil, or_false] at hq
    rcases hq with rfl | rfl | rfl | rfl | rfl | rfl | rfl | rfl | rfl
    all_goals first
      | exact congrArg Value.bool (decide_eq_true (by simp only [ByteArray.size_append]; omega))
      | exact congrArg Value.bool (by simp; assumption)
      | exact congrArg Value.bool (by simp; omega)
      | rfl
theorem psh_is : ∀ (d : Nat), d ≤ 40 → ∀ (W : World) (h : VH), VT d W h → deepB d W h = true → TabP W → Calls Tryd.prog pshF #[h.v] W fun e w' => e = .returned (.string (showW d W h)) ∧ Below W.heap.size W w'
  | 0, _, W, h, _, hd, _ => by cases hd
  | d + 1, hd1, W, h, hv, hd, hT => by
    have ih : ∀ i, i < h.len → ∀ w, Below W.heap.size W w → Calls Tryd.prog pshF #[(h.kid W i).v] w fun e w' => e = .returned (.string (showW d W (h.kid W i))) ∧ Below w.heap.size w w' := fun i hi w hw => by
      obtain ⟨e1, k1⟩ := kid_below hw hv hi
      have := psh_is d (by omega) w (h.kid W i) (VT.below hw k1) (by rw [deepB_below hw k1]; exact deepB_kid hd hi) (hT.below hw)
      rw [showW_below hw k1] at this
      exact this
    have hz : ∀ i, i < h.len → (showW d W (h.kid W i)).size ≤ 1000000000000000 := fun i hi => by
      have h1 := showW_size d (kid_below (below_rfl W) hv hi).2
      have h2 : (2 : Nat) ^ d ≤ 2 ^ 40 := Nat.pow_le_pow_right (by omega) (by omega)
      have h3 : (2 : Nat) ^ 40 = 1099511627776 := by decide
      omega
    have fin : ∀ b, showW (d + 1) W h = b → (Calls Tryd.prog pshF #[h.v] W fun e w' => e = .returned (.string b) ∧ Below W.heap.size W w') → Calls Tryd.prog pshF #[h.v] W fun e w' => e = .returned (.string (showW (d + 1) W h)) ∧ Below W.heap.size W w' := fun b e hc => by rw [e]; exact hc
    by_cases g1 : h.k = 1
    · exact fin _ (by simp [showW, g1]) (psh_1 hT hv g1)
    by_cases g2 : h.k = 2
    · by_cases hn : h.n = 0
      · exact fin _ (by simp [showW, g2, hn]) (psh_2f hT hv g2 hn)
      · exact fin _ (by simp [showW, g2, hn]) (psh_2t hT hv g2 hn)
    by_cases g3 : h.k = 3
    · exact fin _ (by simp [showW, g3]) (psh_3 hT hv g3)
    by_cases g4 : h.k = 4
    · exact fin _ (by simp [showW, g4]) (psh_4 hT hv g4)
    by_cases g5 : h.k = 5
    · exact fin _ (by simp [showW, g5]) (psh_5 hT hv g5)
    by_cases g7 : h.k = 7
    · exact fin _ (by simp [showW, g7]) (psh_7 hT hv g7)
    by_cases g9 : h.k = 9
    · exact fin _ (by simp [showW, g9]) (psh_9 hT hv g9)
    by_cases g6 : h.k = 6
    · by_cases hl : h.len = 2
      · exact fin _ (by simp [showW, g6, hl]) (psh_6 hT hv g6 hl ih hz)
      · exact fin _ (by simp [showW, g6, hl]) (psh_6n hT hv g6 hl)
    by_cases g8 : h.k = 8
    · by_cases hl : h.len = 1
      · by_cases hk : (h.kid W 0).k = 8
        · exact fin _ (by simp [showW, g8, hl, hk]) (psh_8t hT hv g8 hl hk ih hz)
        · exact fin _ (by simp [showW, g8, hl, hk]) (psh_8f hT hv g8 hl hk ih hz)
      · exact fin _ (by simp [showW, g8, hl]) (psh_8n hT hv g8 hl)
    exact fin _ (by simp [showW, g1, g2, g3, g4, g5, g6, g7, g8, g9]) (psh_o hT hv g1 g2 g3 g4 g5 g6 g7 g8 g9)
end Go.Proofs.YtoijdnlplbeomaaDoor


/-
  Layer 8: the text of a value, as the reference writes it.
-/
namespace Go.Proofs.YtoijdnlplbeomaaDoor
open Go Go.RowKit EX
set_option maxRecDepth 100000
set_option linter.unusedVariables false
set_option linter.unusedSimpArgs false
set_option linter.unusedSectionVars false
abbrev rshF : FuncId := 33
theorem rsh_1 {d : Nat} {W : World} {h : VH} {L : Int} (hL : L ≠ 0 ∧ IntKind.i64.wrap (L - 1) = L - 1) (hT : TabP W) (hv : VT (d + 1) W h) (g0 : h.k = 1) : Calls Tryd.prog rshF #[h.v, .int .i64 L] W fun e w' => e = .returned (.string (numB h.n)) ∧ Below W.heap.size W w' := by
  letI fc : FC := fcW W h [] hT
  have hfc : FcAt W := fcW_nil
  obtain ⟨f1, f2, f3, f4, f5, f6, f7, f8, f9, f10, f11, f12, f13⟩ := sz_facts
  have ok := hv.ok
  have n1 := numB_size h.n ok.2.1
  have n2 := numB_size h.m ok.2.2.1
  have r1 := ok.2.1
  have r2 := ok.2.2.1
  unfold I64 at r1 r2
  have hkn : KnGOk Tryd.prog (kgNum 41) := kgNum_ok fun a w ha hf => num_any a ha w
  refine cut_allA (fn := Tryd.f33) [.g [.v (.int .i64 1), .y (.int .i64 h.n), .y (.int .i64 h.m), .y (.slice h.a h.len h.cap)], .y (.int .i64 L)] [.bool false] rfl rfl ?_ (by simp [bd, bdL, VH.sv]) ?_ hfc
  · simp [denL, den, VH.v, g0]
  · refine cut_endY hkn 100000 (cs := [(.bool (decide (-9223372036854775808 ≤ h.n ∧ h.n ≤ 9223372036854775807)), .bool true), (.bool (L == 0), .bool false)]) (by kernel_rfl) ?_
    intro q hq
    simp only [List.mem_cons, List.not_mem_nil, or_false] at hq
    rcases hq with rfl | rfl
    all_goals first
      | exact congrArg Value.bool (decide_eq_true (by simp only [ByteArray.size_append]; omega))
      | exact congrArg Value.bool (by simp; assumption)
      | exact congrArg Value.bool (by simp; omega)
      | rfl
      | exact congrArg (Value.int .i64) hL.2
theorem rsh_2t {d : Nat} {W : World} {h : VH} {L : Int} (hL : L ≠ 0 ∧ IntKind.i64.wrap (L - 1) = L - 1) (hT : TabP W) (hv : VT (d + 1) W h) (g0 : h.k = 2) (g1 : h.n ≠ 0) : Calls Tryd.prog rshF #[h.v, .int .i64 L] W fun e w' => e = .returned (.string (bTrue)) ∧ Below W.heap.size W w' := by
  letI fc : FC := fcW W h [] hT
  have hfc : FcAt W := fcW_nil
  obtain ⟨f1, f2, f3, f4, f5, f6, f7, f8, f9, f10, f11, f12, f13⟩ := sz_facts
  have ok := hv.ok
  have n1 := numB_size h.n ok.2.1
  have n2 := numB_size h.m ok.2.2.1
  have r1 := ok.2.1
  have r2 := ok.2.2.1
  unfold I64 at r1 r2
  have hkn : KnGOk Tryd.prog (kgNum 41) := kgNum_ok fun a w ha hf => num_any a ha w
  refine cut_allA (fn := Tryd.f33) [.g [.v (.int .i64 2), .y (.int .i64 h.n), .y (.int .i64 h.m), .y (.slice h.a h.len h.cap)], .y (.int .i64 L)] [.bool false, .bool false] rfl rfl ?_ (by simp [bd, bdL, VH.sv]) ?_ hfc
  · simp [denL, den, VH.v, g0]
  · refine cut_end (v := .string (bTrue)) hkn 100000 (cs := [(.bool (h.n == 0), .bool false), (.bool (L == 0), .bool false)]) (by kernel_rfl) ?_
    intro q hq
    simp only [List.mem_cons, List.not_mem_nil, or_false] at hq
    rcases hq with rfl | rfl
    all_goals first
      | exact congrArg Value.bool (decide_eq_true (by simp only [ByteArray.size_append]; omega))
      | exact congrArg Value.bool (by simp; assumption)
      | exact congrArg Value.bool (by simp; omega)
      | rfl
      | exact congrArg (Value.int .i64) hL.2
theorem rsh_2f {d : Nat} {W : World} {h : VH} {L : Int} (hL : L ≠ 0 ∧ IntKind.i64.wrap (L - 1) = L - 1) (hT : TabP W) (hv : VT (d + 1) W h) (g0 : h.k = 2) (g1 : h.n = 0) : Calls Tryd.prog rshF #[h.v, .int .i64 L] W fun e w' => e = .returned (.string (bFalse)) ∧ Below W.heap.size W w' := by
  letI fc : FC := fcW W h [] hT
  have hfc : FcAt W := fcW_nil
  obtain ⟨f1, f2, f3, f4, f5, f6, f7, f8, f9, f10, f11, f12, f13⟩ := sz_facts
  have ok := hv.ok
  have n1 := numB_size h.n ok.2.1
  have n2 := numB_size h.m ok.2.2.1
  have r1 := ok.2.1
  have r2 := ok.2.2.1
  unfold I64 at r1 r2
  have hkn : KnGOk Tryd.prog (kgNum 41) := kgNum_ok fun a w ha hf => num_any a ha w
  refine cut_allA (fn := Tryd.f33) [.g [.v (.int .i64 2), .y (.int .i64 h.n), .y (.int .i64 h.m), .y (.slice h.a h.len h.cap)], .y (.int .i64 L)] [.bool false, .bool true] rfl rfl ?_ (by simp [bd, bdL, VH.sv]) ?_ hfc
  · simp [denL, den, VH.v, g0]
  · refine cut_end (v := .string (bFalse)) hkn 100000 (cs := [(.bool (h.n == 0), .bool true), (.bool (L == 0), .bool false)]) (by kernel_rfl) ?_
    intro q hq
    simp only [List.mem_cons, List.not_mem_nil, or_false] at hq
    rcases hq with rfl | rfl
    all_goals first
      | exact congrArg Value.bool (decide_eq_true (by simp only [ByteArray.size_append]; omega))
      | exact congrArg Value.bool (by simp; assumption)
      | exact congrArg Value.bool (by simp; omega)
      | rfl
      | exact congrArg (Value.int .i64) hL.2
theorem rsh_3 {d : Nat} {W : World} {h : VH} {L : Int} (hL : L ≠ 0 ∧ IntKind.i64.wrap (L - 1) = L - 1) (hT : TabP W) (hv : VT (d + 1) W h) (g0 : h.k = 3) : Calls Tryd.prog rshF #[h.v, .int .i64 L] W fun e w' => e = .returned (.string (bUnit)) ∧ Below W.heap.size W w' := by
  letI fc : FC := fcW W h [] hT
  have hfc : FcAt W := fcW_nil
  obtain ⟨f1, f2, f3, f4, f5, f6, f7, f8, f9, f10, f11, f12, f13⟩ := sz_facts
  have ok := hv.ok
  have n1 := numB_size h.n ok.2.1
  have n2 := numB_size h.m ok.2.2.1
  have r1 := ok.2.1
  have r2 := ok.2.2.1
  unfold I64 at r1 r2
  have hkn : KnGOk Tryd.prog (kgNum 41) := kgNum_ok fun a w ha hf => num_any a ha w
  refine cut_allA (fn := Tryd.f33) [.g [.v (.int .i64 3), .y (.int .i64 h.n), .y (.int .i64 h.m), .y (.slice h.a h.len h.cap)], .y (.int .i64 L)] [.bool false] rfl rfl ?_ (by simp [bd, bdL, VH.sv]) ?_ hfc
  · simp [denL, den, VH.v, g0]
  · refine cut_end (v := .string (bUnit)) hkn 100000 (cs := [(.bool (L == 0), .bool false)]) (by kernel_rfl) ?_
    intro q hq
    simp only [List.mem_cons, List.not_mem_nil, or_false] at hq
    rcases hq with rfl
    all_goals first
      | exact congrArg Value.bool (decide_eq_true (by simp only [ByteArray.size_append]; omega))
      | exact congrArg Value.bool (by simp; assumption)
      | exact congrArg Value.bool (by simp; omega)
      | rfl
      | exact congrArg (Value.int .i64) hL.2
theorem rsh_4 {d : Nat} {W : World} {h : VH} {L : Int} (hL : L ≠ 0 ∧ IntKind.i64.wrap (L - 1) = L - 1) (hT : TabP W) (hv : VT (d + 1) W h) (g0 : h.k = 4) : Calls Tryd.prog rshF #[h.v, .int .i64 L] W fun e w' => e = .returned (.string (bAt ++ numB h.n)) ∧ Below W.heap.size W w' := by
  letI fc : FC := fcW W h [] hT
  have hfc : FcAt W := fcW_nil
  obtain ⟨f1, f2, f3, f4, f5, f6, f7, f8, f9, f10, f11, f12, f13⟩ := sz_facts
  have ok := hv.ok
  have n1 := numB_size h.n ok.2.1
  have n2 := numB_size h.m ok.2.2.1
  have r1 := ok.2.1
  have r2 := ok.2.2.1
  unfold I64 at r1 r2
  have hkn : KnGOk Tryd.prog (kgNum 41) := kgNum_ok fun a w ha hf => num_any a ha w
  refine cut_allA (fn := Tryd.f33) [.g [.v (.int .i64 4), .y (.int .i64 h.n), .y (.int .i64 h.m), .y (.slice h.a h.len h.cap)], .y (.int .i64 L)] [.bool false] rfl rfl ?_ (by simp [bd, bdL, VH.sv]) ?_ hfc
  · simp [denL, den, VH.v, g0]
  · refine cut_endY hkn 100000 (cs := [(.bool (decide ((bAt).size + (numB h.n).size ≤ 9223372036854775807)), .bool true), (.bool (decide (-9223372036854775808 ≤ h.n ∧ h.n ≤ 9223372036854775807)), .bool true), (.bool (L == 0), .bool false)]) (by kernel_rfl) ?_
    intro q hq
    simp only [List.mem_cons, List.not_mem_nil, or_false] at hq
    rcases hq with rfl | rfl | rfl
    all_goals first
      | exact congrArg Value.bool (decide_eq_true (by simp only [ByteArray.size_append]; omega))
      | exact congrArg Value.bool (by simp; assumption)
      | exact congrArg Value.bool (by simp; omega)
      | rfl
      | exact congrArg (Value.int .i64) hL.2
theorem rsh_5 {d : Nat} {W : World} {h : VH} {L : Int} (hL : L ≠ 0 ∧ IntKind.i64.wrap (L - 1) = L - 1) (hT : TabP W) (hv : VT (d + 1) W h) (g0 : h.k = 5) : Calls Tryd.prog rshF #[h.v, .int .i64 L] W fun e w' => e = .returned (.string (bAt ++ numB h.n ++ bHash ++ numB h.m)) ∧ Below W.heap.size W w' := by
  letI fc : FC := fcW W h [] hT
  have hfc : FcAt W := fcW_nil
  obtain ⟨f1, f2, f3, f4, f5, f6, f7, f8, f9, f10, f11, f12, f13⟩ := sz_facts
  have ok := hv.ok
  have n1 := numB_size h.n ok.2.1
  have n2 := numB_size h.m ok.2.2.1
  have r1 := ok.2.1
  have r2 := ok.2.2.1
  unfold I64 at r1 r2
  have hkn : KnGOk Tryd.prog (kgNum 41) := kgNum_ok fun a w ha hf => num_any a ha w
  refine cut_allA (fn := Tryd.f33) [.g [.v (.int .i64 5), .y (.int .i64 h.n), .y (.int .i64 h.m), .y (.slice h.a h.len h.cap)], .y (.int .i64 L)] [.bool false] rfl rfl ?_ (by simp [bd, bdL, VH.sv]) ?_ hfc
  · simp [denL, den, VH.v, g0]
  · refine cut_endY hkn 100000 (cs := [(.bool (decide ((bAt ++ numB h.n ++ bHash).size + (numB h.m).size ≤ 9223372036854775807)), .bool true), (.bool (decide (-9223372036854775808 ≤ h.m ∧ h.m ≤ 9223372036854775807)), .bool true), (.bool (decide ((bAt ++ numB h.n).size + (bHash).size ≤ 9223372036854775807)), .bool true), (.bool (decide ((bAt).size + (numB h.n).size ≤ 9223372036854775807)), .bool true), (.bool (decide (-9223372036854775808 ≤ h.n ∧ h.n ≤ 9223372036854775807)), .bool true), (.bool (L == 0), .bool false)]) (by kernel_rfl) ?_
    intro q hq
    simp only [List.mem_cons, List.not_mem_nil, or_false] at hq
    rcases hq with rfl | rfl | rfl | rfl | rfl | rfl
    all_goals first
      | exact congrArg Value.bool (decide_eq_true (by simp only [ByteArray.size_append]; omega))
      | exact congrArg Value.bool (by simp; assumption)
      | exact congrArg Value.bool (by simp; omega)
      | rfl
      | exact congrArg (Value.int .i64) hL.2
theorem rsh_7 {d : Nat} {W : World} {h : VH} {L : Int} (hL : L ≠ 0 ∧ IntKind.i64.wrap (L - 1) = L - 1) (hT : TabP W) (hv : VT (d + 1) W h) (g0 : h.k = 7) : Calls Tryd.prog rshF #[h.v, .int .i64 L] W fun e w' => e = .returned (.string (bNone)) ∧ Below W.heap.size W w' := by
  letI fc : FC := fcW W h [] hT
  have hfc : FcAt W := fcW_nil
  obtain ⟨f1, f2, f3, f4, f5, f6, f7, f8, f9, f10, f11, f12, f13⟩ := sz_facts
  have ok := hv.ok
  have n1 := numB_size h.n ok.2.1
  have n2 := numB_size h.m ok.2.2.1
  have r1 := ok.2.1
  have r2 := ok.2.2.1
  unfold I64 at r1 r2
  have hkn : KnGOk Tryd.prog (kgNum 41) := kgNum_ok fun a w ha hf => num_any a ha w
  refine cut_allA (fn := Tryd.f33) [.g [.v (.int .i64 7), .y (.int .i64 h.n), .y (.int .i64 h.m), .y (.slice h.a h.len h.cap)], .y (.int .i64 L)] [.bool false] rfl rfl ?_ (by simp [bd, bdL, VH.sv]) ?_ hfc
  · simp [denL, den, VH.v, g0]
  · refine cut_end (v := .string (bNone)) hkn 100000 (cs := [(.bool (L == 0), .bool false)]) (by kernel_rfl) ?_
    intro q hq
    simp only [List.mem_cons, List.not_mem_nil, or_false] at hq
    rcases hq with rfl
    all_goals first
      | exact congrArg Value.bool (decide_eq_true (by simp only [ByteArray.size_append]; omega))
      | exact congrArg Value.bool (by simp; assumption)
      | exact congrArg Value.bool (by simp; omega)
      | rfl
      | exact congrArg (Value.int .i64) hL.2
theorem rsh_9 {d : Nat} {W : World} {h : VH} {L : Int} (hL : L ≠ 0 ∧ IntKind.i64.wrap (L - 1) = L - 1) (hT : TabP W) (hv : VT (d + 1) W h) (g0 : h.k = 9) : Calls Tryd.prog rshF #[h.v, .int .i64 L] W fun e w' => e = .returned (.string (bFun)) ∧ Below W.heap.size W w' := by
  letI fc : FC := fcW W h [] hT
  have hfc : FcAt W := fcW_nil
  obtain ⟨f1, f2, f3, f4, f5, f6, f7, f8, f9, f10, f11, f12, f13⟩ := sz_facts
  have ok := hv.ok
  have n1 := numB_size h.n ok.2.1
  have n2 := numB_size h.m ok.2.2.1
  have r1 := ok.2.1
  have r2 := ok.2.2.1
  unfold I64 at r1 r2
  have hkn : KnGOk Tryd.prog (kgNum 41) := kgNum_ok fun a w ha hf => num_any a ha w
  refine cut_allA (fn := Tryd.f33) [.g [.v (.int .i64 9), .y (.int .i64 h.n), .y (.int .i64 h.m), .y (.slice h.a h.len h.cap)], .y (.int .i64 L)] [.bool false] rfl rfl ?_ (by simp [bd, bdL, VH.sv]) ?_ hfc
  · simp [denL, den, VH.v, g0]
  · refine cut_end (v := .string (bFun)) hkn 100000 (cs := [(.bool (L == 0), .bool false)]) (by kernel_rfl) ?_
    intro q hq
    simp only [List.mem_cons, List.not_mem_nil, or_false] at hq
    rcases hq with rfl
    all_goals first
      | exact congrArg Value.bool (decide_eq_true (by simp only [ByteArray.size_append]; omega))
      | exact congrArg Value.bool (by simp; assumption)
      | exact congrArg Value.bool (by simp; omega)
      | rfl
      | exact congrArg (Value.int .i64) hL.2
theorem rsh_6 {d : Nat} {W : World} {h : VH} {L : Int} (hL : L ≠ 0 ∧ IntKind.i64.wrap (L - 1) = L - 1) (hT : TabP W) (hv : VT (d + 1) W h) (g0 : h.k = 6) (g1 : h.len = 2) (ih : ∀ i, i < h.len → ∀ w, Below W.heap.size W w → Calls Tryd.prog rshF #[(h.kid W i).v, .int .i64 (L - 1)] w fun e w' => e = .returned (.string (showW d W (h.kid W i))) ∧ Below w.heap.size w w') (hz : ∀ i, i < h.len → (showW d W (h.kid W i)).size ≤ 1000000000000000) : Calls Tryd.prog rshF #[h.v, .int .i64 L] W fun e w' => e = .returned (.string (bLP ++ (showW d W (h.kid W 0)) ++ bComma ++ (showW d W (h.kid W 1)) ++ bRP)) ∧ Below W.heap.size W w' := by
  letI fc : FC := fcW W h ((h.kid W 0).sv ++ (h.kid W 1).sv) hT
  have hfc : FcAt W := fcW_2 hv g1
  obtain ⟨f1, f2, f3, f4, f5, f6, f7, f8, f9, f10, f11, f12, f13⟩ := sz_facts
  have ok := hv.ok
  have n1 := numB_size h.n ok.2.1
  have n2 := numB_size h.m ok.2.2.1
  have r1 := ok.2.1
  have r2 := ok.2.2.1
  unfold I64 at r1 r2
  have z0 := hz 0 (by omega)
  have z1 := hz 1 (by omega)
  have hkn : KnGOk Tryd.prog (kgP2 rshF [(h.kid W 0).v, .int .i64 (L - 1)] [(h.kid W 1).v, .int .i64 (L - 1)] (.y (.string (showW d W (h.kid W 0)))) (.y (.string (showW d W (h.kid W 1))))) := kgP2_ok (kgAt_ok (by simp [bd]) fun w hf => by have := ih 0 (by omega) w hf.1; simpa [den] using this) (kgAt_ok (by simp [bd]) fun w hf => by have := ih 1 (by omega) w hf.1; simpa [den] using this)
  refine cut_allA (fn := Tryd.f33) [.g [.v (.int .i64 6), .y (.int .i64 h.n), .y (.int .i64 h.m), .q 0 0 2 h.cap], .y (.int .i64 L)] [.bool false, .bool true, .bool true, .bool false] rfl rfl ?_ (by simp [bd, bdL, VH.sv]) ?_ hfc
  · rcases hv.2 with q | ⟨b1, o1, e1, _⟩
    · omega
    · have eb : bOf h = b1 := by unfold bOf; rw [e1]
      have eo : oOf h = o1 := by unfold oOf; rw [e1]
      simp [denL, den, VH.v, g0, g1, e1]
      exact ⟨eb, eo⟩
  · refine cut_endY hkn 100000 (cs := [(.bool (decide ((bLP ++ (showW d W (h.kid W 0)) ++ bComma ++ (showW d W (h.kid W 1))).size + (bRP).size ≤ 9223372036854775807)), .bool true), (.bool (decide ((bLP ++ (showW d W (h.kid W 0)) ++ bComma).size + ((showW d W (h.kid W 1))).size ≤ 9223372036854775807)), .bool true), ((.agg #[.int .i64 (h.kid W 1).k, .int .i64 (h.kid W 1).n, .int .i64 (h.kid W 1).m, .slice (h.kid W 1).a (h.kid W 1).len (h.kid W 1).cap]), (h.kid W 1).v), (.int .i64 (IntKind.i64.wrap (L - 1)), .int .i64 (L - 1)), (.bool (decide ((bLP ++ (showW d W (h.kid W 0))).size + (bComma).size ≤ 9223372036854775807)), .bool true), (.bool (decide ((bLP).size + ((showW d W (h.kid W 0))).size ≤ 9223372036854775807)), .bool true), ((.agg #[.int .i64 (h.kid W 0).k, .int .i64 (h.kid W 0).n, .int .i64 (h.kid W 0).m, .slice (h.kid W 0).a (h.kid W 0).len (h.kid W 0).cap]), (h.kid W 0).v), (.int .i64 (IntKind.i64.wrap (L - 1)), .int .i64 (L - 1)), (.bool (((2 : Nat) : Int) == 2), .bool true), (.bool (L == 0), .bool false)]) (by kernel_rfl) ?_
    intro q hq
    simp only [List.mem_cons, List.not_mem_nil, or_false] at hq
    rcases hq with rfl | rfl | rfl | rfl | rfl | rfl | rfl | rfl | rfl | rfl
    all_goals first
      | exact congrArg Value.bool (decide_eq_true (by simp only [ByteArray.size_append]; omega))
      | exact congrArg Value.bool (by simp; assumption)
      | exact congrArg Value.bool (by simp; omega)
      | rfl
      | exact congrArg (Value.int .i64) hL.2
theorem rsh_6n {d : Nat} {W : World} {h : VH} {L : Int} (hL : L ≠ 0 ∧ IntKind.i64.wrap (L - 1) = L - 1) (hT : TabP W) (hv : VT (d + 1) W h) (g0 : h.k = 6) (g1 : h.len ≠ 2) : Calls Tryd.prog rshF #[h.v, .int .i64 L] W fun e w' => e = .returned (.string (bQ)) ∧ Below W.heap.size W w' := by
  letI fc : FC := fcW W h [] hT
  have hfc : FcAt W := fcW_nil
  obtain ⟨f1, f2, f3, f4, f5, f6, f7, f8, f9, f10, f11, f12, f13⟩ := sz_facts
  have ok := hv.ok
  have n1 := numB_size h.n ok.2.1
  have n2 := numB_size h.m ok.2.2.1
  have r1 := ok.2.1
  have r2 := ok.2.2.1
  unfold I64 at r1 r2
  have hkn : KnGOk Tryd.prog (kgNum 41) := kgNum_ok fun a w ha hf => num_any a ha w
  refine cut_allA (fn := Tryd.f33) [.g [.v (.int .i64 6), .y (.int .i64 h.n), .y (.int .i64 h.m), .y (.slice h.a h.len h.cap)], .y (.int .i64 L)] [.bool false, .bool false] rfl rfl ?_ (by simp [bd, bdL, VH.sv]) ?_ hfc
  · simp [denL, den, VH.v, g0]
  · refine cut_end (v := .string (bQ)) hkn 100000 (cs := [(.bool (((h.len : Nat) : Int) == 2), .bool false), (.bool (L == 0), .bool false)]) (by kernel_rfl) ?_
    intro q hq
    simp only [List.mem_cons, List.not_mem_nil, or_false] at hq
    rcases hq with rfl | rfl
    all_goals first
      | exact congrArg Value.bool (decide_eq_true (by simp only [ByteArray.size_append]; omega))
      | exact congrArg Value.bool (by simp; assumption)
      | exact congrArg Value.bool (by simp; omega)
      | rfl
      | exact congrArg (Value.int .i64) hL.2
theorem rsh_8t {d : Nat} {W : World} {h : VH} {L : Int} (hL : L ≠ 0 ∧ IntKind.i64.wrap (L - 1) = L - 1) (hT : TabP W) (hv : VT (d + 1) W h) (g0 : h.k = 8) (g1 : h.len = 1) (g2 : (h.kid W 0).k = 8) (ih : ∀ i, i < h.len → ∀ w, Below W.heap.size W w → Calls Tryd.prog rshF #[(h.kid W i).v, .int .i64 (L - 1)] w fun e w' => e = .returned (.string (showW d W (h.kid W i))) ∧ Below w.heap.size w w') (hz : ∀ i, i < h.len → (showW d W (h.kid W i)).size ≤ 1000000000000000) : Calls Tryd.prog rshF #[h.v, .int .i64 L] W fun e w' => e = .returned (.string (bSomeP ++ (showW d W (h.kid W 0)) ++ bRP)) ∧ Below W.heap.size W w' := by
  letI fc : FC := fcW W h (h.kid W 0).sv hT
  have hfc : FcAt W := fcW_1 hv g1
  obtain ⟨f1, f2, f3, f4, f5, f6, f7, f8, f9, f10, f11, f12, f13⟩ := sz_facts
  have ok := hv.ok
  have n1 := numB_size h.n ok.2.1
  have n2 := numB_size h.m ok.2.2.1
  have r1 := ok.2.1
  have r2 := ok.2.2.1
  unfold I64 at r1 r2
  have z0 := hz 0 (by omega)
  have hkn : KnGOk Tryd.prog (kgAt rshF [(h.kid W 0).v, .int .i64 (L - 1)] (.y (.string (showW d W (h.kid W 0))))) := kgAt_ok (by simp [bd]) fun w hf => by have := ih 0 (by omega) w hf.1; simpa [den] using this
  refine cut_allA (fn := Tryd.f33) [.g [.v (.int .i64 8), .y (.int .i64 h.n), .y (.int .i64 h.m), .q 0 0 1 h.cap], .y (.int .i64 L)] [.bool false, .bool true, .bool true] rfl rfl ?_ (by simp [bd, bdL, VH.sv]) ?_ hfc
  · rcases hv.2 with q | ⟨b1, o1, e1, _⟩
    · omega
    · have eb : bOf h = b1 := by unfold bOf; rw [e1]
      have eo : oOf h = o1 := by unfold oOf; rw [e1]
      simp [denL, den, VH.v, g0, g1, e1]
      exact ⟨eb, eo⟩
  · refine cut_endY hkn 100000 (cs := [(.bool (decide ((bSomeP ++ (showW d W (h.kid W 0))).size + (bRP).size ≤ 9223372036854775807)), .bool true), (.bool (decide ((bSomeP).size + ((showW d W (h.kid W 0))).size ≤ 9223372036854775807)), .bool true), ((.agg #[.int .i64 (h.kid W 0).k, .int .i64 (h.kid W 0).n, .int .i64 (h.kid W 0).m, .slice (h.kid W 0).a (h.kid W 0).len (h.kid W 0).cap]), (h.kid W 0).v), (.int .i64 (IntKind.i64.wrap (L - 1)), .int .i64 (L - 1)), (.bool ((h.kid W 0).k == 8), .bool true), (.bool (((1 : Nat) : Int) == 1), .bool true), (.bool (L == 0), .bool false)]) (by kernel_rfl) ?_
    intro q hq
    simp only [List.mem_cons, List.not_mem_nil, or_false] at hq
    rcases hq with rfl | rfl | rfl | rfl | rfl | rfl | rfl
    all_goals first
      | exact congrArg Value.bool (decide_eq_true (by simp only [ByteArray.size_append]; omega))
      | exact congrArg Value.bool (by simp; assumption)
      | exact congrArg Value.bool (by simp; omega)
      | rfl
      | exact congrArg (Value.int .i64) hL.2
theorem rsh_8f {d : Nat} {W : World} {h : VH} {L : Int} (hL : L ≠ 0 ∧ IntKind.i64.wrap (L - 1) = L - 1) (hT : TabP W) (hv : VT (d + 1) W h) (g0 : h.k = 8) (g1 : h.len = 1) (g2 : (h.kid W 0).k ≠ 8) (ih : ∀ i, i < h.len → ∀ w, Below W.heap.size W w → Calls Tryd.prog rshF #[(h.kid W i).v, .int .i64 (L - 1)] w fun e w' => e = .returned (.string (showW d W (h.kid W i))) ∧ Below w.heap.size w w') (hz : ∀ i, i < h.len → (showW d W (h.kid W i)).size ≤ 1000000000000000) : Calls Tryd.prog rshF #[h.v, .int .i64 L] W fun e w' => e = .returned (.string (bSome ++ (showW d W (h.kid W 0)))) ∧ Below W.heap.size W w' := by
  letI fc : FC := fcW W h (h.kid W 0).sv hT
  have hfc : FcAt W := fcW_1 hv g1
  obtain ⟨f1, f2, f3, f4, f5, f6, f7, f8, f9, f10, f11, f12, f13⟩ := sz_facts
  have ok := hv.ok
  have n1 := numB_size h.n ok.2.1
  have n2 := numB_size h.m ok.2.2.1
  have r1 := ok.2.1
  have r2 := ok.2.2.1
  unfold I64 at r1 r2
  have z0 := hz 0 (by omega)
  have hkn : KnGOk Tryd.prog (kgAt rshF [(h.kid W 0).v, .int .i64 (L - 1)] (.y (.string (showW d W (h.kid W 0))))) := kgAt_ok (by simp [bd]) fun w hf => by have := ih 0 (by omega) w hf.1; simpa [den] using this
  refine cut_allA (fn := Tryd.f33) [.g [.v (.int .i64 8), .y (.int .i64 h.n), .y (.int .i64 h.m), .q 0 0 1 h.cap], .y (.int .i64 L)] [.bool false, .bool true, .bool false, .bool true] rfl rfl ?_ (by simp [bd, bdL, VH.sv]) ?_ hfc
  · rcases hv.2 with q | ⟨b1, o1, e1, _⟩
    · omega
    · have eb : bOf h = b1 := by unfold bOf; rw [e1]
      have eo : oOf h = o1 := by unfold oOf; rw [e1]
      simp [denL, den, VH.v, g0, g1, e1]
      exact ⟨eb, eo⟩
  · refine cut_endY hkn 100000 (cs := [(.bool (decide ((bSome).size + ((showW d W (h.kid W 0))).size ≤ 9223372036854775807)), .bool true), ((.agg #[.int .i64 (h.kid W 0).k, .int .i64 (h.kid W 0).n, .int .i64 (h.kid W 0).m, .slice (h.kid W 0).a (h.kid W 0).len (h.kid W 0).cap]), (h.kid W 0).v), (.int .i64 (IntKind.i64.wrap (L - 1)), .int .i64 (L - 1)), (.bool (((1 : Nat) : Int) == 1), .bool true), (.bool ((h.kid W 0).k == 8), .bool false), (.bool (((1 : Nat) : Int) == 1), .bool true), (.bool (L == 0), .bool false)]) (by kernel_rfl) ?_
    intro q hq
    simp only [List.mem_cons, List.not_mem_nil, or_false] at hq
    rcases hq with rfl | rfl | rfl | rfl | rfl | rfl | rfl
    all_goals first
      | exact congrArg Value.bool (decide_eq_true (by simp only [ByteArray.size_append]; omega))
      | exact congrArg Value.bool (by simp; assumption)
      | exact congrArg Value.bool (by simp; omega)
      | rfl
      | exact congrArg (Value.int .i64) hL.2
theorem rsh_8n {d : Nat} {W : World} {h : VH} {L : Int} (hL : L ≠ 0 ∧ IntKind.i64.wrap (L - 1) = L - 1) (hT : TabP W) (hv : VT (d + 1) W h) (g0 : h.k = 8) (g1 : h.len ≠ 1) : Calls Tryd.prog rshF #[h.v, .int .i64 L] W fun e w' => e = .returned (.string (bQ)) ∧ Below W.heap.size W w' := by
  letI fc : FC := fcW W h [] hT
  have hfc : FcAt W := fcW_nil
  obtain ⟨f1, f2, f3, f4, f5, f6, f7, f8, f9, f10, f11, f12, f13⟩ := sz_facts
  have ok := hv.ok
  have n1 := numB_size h.n ok.2.1
  have n2 := numB_size h.m ok.2.2.1
  have r1 := ok.2.1
  have r2 := ok.2.2.1
  unfold I64 at r1 r2
  have hkn : KnGOk Tryd.prog (kgNum 41) := kgNum_ok fun a w ha hf => num_any a ha w
  refine cut_allA (fn := Tryd.f33) [.g [.v (.int .i64 8), .y (.int .i64 h.n), .y (.int .i64 h.m), .y (.slice h.a h.len h.cap)], .y (.int .i64 L)] [.bool false, .bool false, .bool false] rfl rfl ?_ (by simp [bd, bdL, VH.sv]) ?_ hfc
  · simp [denL, den, VH.v, g0]
  · refine cut_end (v := .string (bQ)) hkn 100000 (cs := [(.bool (((h.len : Nat) : Int) == 1), .bool false), (.bool (((h.len : Nat) : Int) == 1), .bool false), (.bool (L == 0), .bool false)]) (by kernel_rfl) ?_
    intro q hq
    simp only [List.mem_cons, List.not_mem_nil, or_false] at hq
    rcases hq with rfl | rfl | rfl
    all_goals first
      | exact congrArg Value.bool (decide_eq_true (by simp only [ByteArray.size_append]; omega))
      | exact congrArg Value.bool (by simp; assumption)
      | exact congrArg Value.bool (by simp; omega)
      | rfl
      | exact congrArg (Value.int .i64) hL.2
theorem rsh_o {d : Nat} {W : World} {h : VH} {L : Int} (hL : L ≠ 0 ∧ IntKind.i64.wrap (L - 1) = L - 1) (hT : TabP W) (hv : VT (d + 1) W h) (g0 : h.k ≠ 1) (g1 : h.k ≠ 2) (g2 : h.k ≠ 3) (g3 : h.k ≠ 4) (g4 : h.k ≠ 5) (g5 : h.k ≠ 6) (g6 : h.k ≠ 7) (g7 : h.k ≠ 8) (g8 : h.k ≠ 9) : Calls Tryd.prog rshF #[h.v, .int .i64 L] W fun e w' => e = .returned (.string (bQ)) ∧ Below W.heap.size W w' := by
  letI fc : FC := fcW W h [] hT
  have hfc : FcAt W := fcW_nil
  obtain ⟨f1, f2, f3, f4, f5, f6, f7, f8, f9, f10, f11, f12, f13⟩ := sz_facts
  have ok := hv.ok
  have n1 := numB_size h.n ok.2.1
  have n2 := numB_size h.m ok.2.2.1
  have r1 := ok.2.1
  have r2 := ok.2.2.1
  unfold I64 at r1 r2
  have hkn : KnGOk Tryd.prog (kgNum 41) := kgNum_ok fun a w ha hf => num_any a ha w
  refine cut_allA (fn := Tryd.f33) [.g h.sv, .y (.int .i64 L)] [.bool false, .bool false, .bool false, .bool false, .bool false, .bool false, .bool false, .bool false, .bool false, .bool false] rfl rfl ?_ (by simp [bd, bdL, VH.sv]) ?_ hfc
  · simp [denL, den, VH.v, VH.sv]
  · refine cut_end (v := .string (bQ)) hkn 100000 (cs := [(.bool (h.k == 8), .bool false), (.bool (h.k == 6), .bool false), (.bool (h.k == 9), .bool false), (.bool (h.k == 7), .bool false), (.bool (h.k == 5), .bool false), (.bool (h.k == 4), .bool false), (.bool (h.k == 3), .bool false), (.bool (h.k == 2), .bool false), (.bool (h.k == 1), .bool false), (.bool (L == 0), .bool false)]) (by kernel_rfl) ?_
    intro q hq
    simp only [List.mem_cons, List.not_mem_nil, or_false] at hq
    rcases hq with rfl | rfl | rfl | rfl | rfl | rfl | rfl | rfl | rfl | rfl
    all_goals first
      | exact congrArg Value.bool (decide_eq_true (by simp only [ByteArray.size_append]; omega))
      | exact congrArg Value.bool (by simp; assumption)
      | exact congrArg Value.bool (by simp; omega)
      | rfl
      | exact congrArg (Value.int .i64) hL.2
theorem rsh_is : ∀ (d : Nat), d ≤ 40 → ∀ (L : Int), (d : Int) ≤ L → L ≤ 1000 → ∀ (W : World) (h : VH), VT d W h → deepB d W h = true → TabP W → Calls Tryd.prog rshF #[h.v, .int .i64 L] W fun e w' => e = .returned (.string (showW d W h)) ∧ Below W.heap.size W w'
  | 0, _, L, hL0, hL1, W, h, _, hd, _ => by cases hd
  | d + 1, hd1, L, hL0, hL1, W, h, hv, hd, hT => by
    have ih : ∀ i, i < h.len → ∀ w, Below W.heap.size W w → Calls Tryd.prog rshF #[(h.kid W i).v, .int .i64 (L - 1)] w fun e w' => e = .returned (.string (showW d W (h.kid W i))) ∧ Below w.heap.size w w' := fun i hi w hw => by
      obtain ⟨e1, k1⟩ := kid_below hw hv hi
      have := rsh_is d (by omega) (L - 1) (by omega) (by omega) w (h.kid W i) (VT.below hw k1) (by rw [deepB_below hw k1]; exact deepB_kid hd hi) (hT.below hw)
      rw [showW_below hw k1] at this
      exact this
    have hz : ∀ i, i < h.len → (showW d W (h.kid W i)).size ≤ 1000000000000000 := fun i hi => by
      have h1 := showW_size d (kid_below (below_rfl W) hv hi).2
      have h2 : (2 : Nat) ^ d ≤ 2 ^ 40 := Nat.pow_le_pow_right (by omega) (by omega)
      have h3 : (2 : Nat) ^ 40 = 1099511627776 := by decide
      omega
    have fin : ∀ b, showW (d + 1) W h = b → (Calls Tryd.prog rshF #[h.v, .int .i64 L] W fun e w' => e = .returned (.string b) ∧ Below W.heap.size W w') → Calls Tryd.prog rshF #[h.v, .int .i64 L] W fun e w' => e = .returned (.string (showW (d + 1) W h)) ∧ Below W.heap.size W w' := fun b e hc => by rw [e]; exact hc
    by_cases g1 : h.k = 1
    · exact fin _ (by simp [showW, g1]) (rsh_1 ⟨by omega, by rw [IntKind.wrap_i64]; omega⟩ hT hv g1)
    by_cases g2 : h.k = 2
    · by_cases hn : h.n = 0
      · exact fin _ (by simp [showW, g2, hn]) (rsh_2f ⟨by omega, by rw [IntKind.wrap_i64]; omega⟩ hT hv g2 hn)
      · exact fin _ (by simp [showW, g2, hn]) (rsh_2t ⟨by omega, by rw [IntKind.wrap_i64]; omega⟩ hT hv g2 hn)
    by_cases g3 : h.k = 3
    · exact fin _ (by simp [showW, g3]) (rsh_3 ⟨by omega, by rw [IntKind.wrap_i64]; omega⟩ hT hv g3)
    by_cases g4 : h.k = 4
    · exact fin _ (by simp [showW, g4]) (rsh_4 ⟨by omega, by rw [IntKind.wrap_i64]; omega⟩ hT hv g4)
    by_cases g5 : h.k = 5
    · exact fin _ (by simp [showW, g5]) (rsh_5 ⟨by omega, by rw [IntKind.wrap_i64]; omega⟩ hT hv g5)
    by_cases g7 : h.k = 7
    · exact fin _ (by simp [showW, g7]) (rsh_7 ⟨by omega, by rw [IntKind.wrap_i64]; omega⟩ hT hv g7)
    by_cases g9 : h.k = 9
    · exact fin _ (by simp [showW, g9]) (rsh_9 ⟨by omega, by rw [IntKind.wrap_i64]; omega⟩ hT hv g9)
    by_cases g6 : h.k = 6
    · by_cases hl : h.len = 2
      · exact fin _ (by simp [showW, g6, hl]) (rsh_6 ⟨by omega, by rw [IntKind.wrap_i64]; omega⟩ hT hv g6 hl ih hz)
      · exact fin _ (by simp [showW, g6, hl]) (rsh_6n ⟨by omega, by rw [IntKind.wrap_i64]; omega⟩ hT hv g6 hl)
    by_cases g8 : h.k = 8
    · by_cases hl : h.len = 1
      · by_cases hk : (h.kid W 0).k = 8
        · exact fin _ (by simp [showW, g8, hl, hk]) (rsh_8t ⟨by omega, by rw [IntKind.wrap_i64]; omega⟩ hT hv g8 hl hk ih hz)
        · exact fin _ (by simp [showW, g8, hl, hk]) (rsh_8f ⟨by omega, by rw [IntKind.wrap_i64]; omega⟩ hT hv g8 hl hk ih hz)
      · exact fin _ (by simp [showW, g8, hl]) (rsh_8n ⟨by omega, by rw [IntKind.wrap_i64]; omega⟩ hT hv g8 hl)
    exact fin _ (by simp [showW, g1, g2, g3, g4, g5, g6, g7, g8, g9]) (rsh_o ⟨by omega, by rw [IntKind.wrap_i64]; omega⟩ hT hv g1 g2 g3 g4 g5 g6 g7 g8 g9)
end Go.Proofs.YtoijdnlplbeomaaDoor


/-
  Layer 8: what ValueMatchesSpec calls, as contracts: Index of program and reference, the reference's Round, Small and Show.
-/
namespace Go.Proofs.YtoijdnlplbeomaaDoor
open Go Go.RowKit EX
set_option maxRecDepth 100000
set_option linter.unusedVariables false
set_option linter.unusedSimpArgs false
set_option linter.unusedSectionVars false
def AllT (cs : List (Value × Value)) : Prop := ∀ q ∈ cs, q.1 = q.2
theorem AllT.nil : AllT [] := fun q hq => by cases hq
theorem AllT.cons {a b : Value} {l : List (Value × Value)} (h : a = b) (k : AllT l) : AllT ((a, b) :: l) := fun q hq => by
  rcases List.mem_cons.1 hq with rfl | hq
  · exact h
  · exact k q hq
def tw (F s : Int) (v : Value) : Value := .tuple #[.int .i64 F, .int .i64 s, v]
section
variable [FC]
theorem knI_okF {P : Program} {f0 : FuncId} {g : Int → Value} (h : ∀ a w, Calls P f0 #[.int .i64 a] w fun e w' => e = .returned (g a) ∧ Below w.heap.size w w') : KnOk P (knI f0 g) := by
  intro f args x cs hx
  unfold knI at hx
  split at hx
  · rename_i a hb
    simp only [Option.some.injEq, Prod.mk.injEq] at hx
    obtain ⟨rfl, rfl⟩ := hx
    have := Nat.eq_of_beq_eq_true hb
    subst this
    refine ⟨by simp [bd], fun tr B w => ?_⟩
    simpa [denL, den] using h a w
  · cases hx
theorem kn8F_ok : KnOk Tryd.prog kn8 := knOr_ok (kn1_ok sane08) (knI_okF round_any)
def kgIf (k : KnG) : KnG := fun f args st => match isYV args with
  | true => k f args st
  | false => none
theorem kgIf_ok {P : Program} {k : KnG} (h : KnGOk P k) : KnGOk P (kgIf k) := by
  intro f args st o hk
  unfold kgIf at hk
  split at hk
  · exact h f args st o hk
  · cases hk
end
theorem rightTab {W : World} {h g : VH} (b : Bool) (e : rightW 40 W h = b) : @KnGOk (fcV W h g) Tryd.prog (@kgAt (fcV W h g) 11 [h.v] (.v (.bool b))) := by
  letI fc : FC := fcV W h g
  exact kgAt_ok (by simp [bd]) fun w1 hf => by
    have := rightP_is w1 h hf.1.2.1.1
    rw [hf.1.2.2.1.1, e] at this
    simpa [den] using this
set_option maxHeartbeats 4000000 in
theorem ix_k (w W : World) (h g : VH) (n : Int) (hk : (h.k != 5) = true) (hf : @FcAt (fcV W h g) w) : Calls Tryd.prog 9 #[h.v, .int .i64 n] w fun e w' => e = .returned (.tuple #[.agg #[.int .i64 0, .int .i64 0, .int .i64 0, .slice none 0 0], .bool false]) ∧ Below w.heap.size w w' := by
  letI fc : FC := fcV W h g
  refine (@ex_runG (fcV W h g) _ (gk knNone) (gk_ok knNone_ok) 100000 _ _ [argV h, .y (.int .i64 n)] [tw 9 8 (.bool true)] (.v (.tuple #[.agg #[.int .i64 0, .int .i64 0, .int .i64 0, .slice none 0 0], .bool false])) ([(.bool (h.k != 5), .bool true)]) w (by kernel_rfl) (by simp [denL, den, argV, VH.v]) (by simp [bdL, bd, argV]) (AllT.cons (by rw [hk]) (AllT.nil)) hf).mono ?_
  rintro e w' ⟨B, he, hb⟩
  exact ⟨by rw [he]; simp [den, denL], hb⟩
set_option maxHeartbeats 4000000 in
theorem ix_r (w W : World) (h g : VH) (n : Int) (hk : (h.k != 5) = false) (hA : rightW 40 W h = false) (hf : @FcAt (fcV W h g) w) : Calls Tryd.prog 9 #[h.v, .int .i64 n] w fun e w' => e = .returned (.tuple #[.agg #[.int .i64 0, .int .i64 0, .int .i64 0, .slice none 0 0], .bool false]) ∧ Below w.heap.size w w' := by
  letI fc : FC := fcV W h g
  refine (@ex_runG (fcV W h g) _ (kgIf (kgAt 11 [h.v] (.v (.bool false)))) (kgIf_ok (rightTab false hA)) 100000 _ _ [argV h, .y (.int .i64 n)] [tw 9 8 (.bool false)] (.v (.tuple #[.agg #[.int .i64 0, .int .i64 0, .int .i64 0, .slice none 0 0], .bool false])) ([(h.v, h.v), (.bool (h.k != 5), .bool false)]) w (by kernel_rfl) (by simp [denL, den, argV, VH.v]) (by simp [bdL, bd, argV]) (AllT.cons (rfl) (AllT.cons (by rw [hk]) (AllT.nil))) hf).mono ?_
  rintro e w' ⟨B, he, hb⟩
  exact ⟨by rw [he]; simp [den, denL], hb⟩
set_option maxHeartbeats 4000000 in
theorem ix_n (w W : World) (h g : VH) (n : Int) (hk : (h.k != 5) = false) (hA : rightW 40 W h = true) (hn : decide (n < 0) = true) (hf : @FcAt (fcV W h g) w) : Calls Tryd.prog 9 #[h.v, .int .i64 n] w fun e w' => e = .returned (.tuple #[.agg #[.int .i64 0, .int .i64 0, .int .i64 0, .slice none 0 0], .bool false]) ∧ Below w.heap.size w w' := by
  letI fc : FC := fcV W h g
  refine (@ex_runG (fcV W h g) _ (kgIf (kgAt 11 [h.v] (.v (.bool true)))) (kgIf_ok (rightTab true hA)) 100000 _ _ [argV h, .y (.int .i64 n)] [tw 9 8 (.bool false), tw 9 16 (.bool true)] (.v (.tuple #[.agg #[.int .i64 0, .int .i64 0, .int .i64 0, .slice none 0 0], .bool false])) ([(.bool (decide (n < 0)), .bool true), (h.v, h.v), (.bool (h.k != 5), .bool false)]) w (by kernel_rfl) (by simp [denL, den, argV, VH.v]) (by simp [bdL, bd, argV]) (AllT.cons (by rw [hn]) (AllT.cons (rfl) (AllT.cons (by rw [hk]) (AllT.nil)))) hf).mono ?_
  rintro e w' ⟨B, he, hb⟩
  exact ⟨by rw [he]; simp [den, denL], hb⟩
set_option maxHeartbeats 4000000 in
theorem ix_m (w W : World) (h g : VH) (n : Int) (hk : (h.k != 5) = false) (hA : rightW 40 W h = true) (hn : decide (n < 0) = false) (hm : decide (n ≥ h.m) = true) (hf : @FcAt (fcV W h g) w) : Calls Tryd.prog 9 #[h.v, .int .i64 n] w fun e w' => e = .returned (.tuple #[.agg #[.int .i64 0, .int .i64 0, .int .i64 0, .slice none 0 0], .bool false]) ∧ Below w.heap.size w w' := by
  letI fc : FC := fcV W h g
  refine (@ex_runG (fcV W h g) _ (kgIf (kgAt 11 [h.v] (.v (.bool true)))) (kgIf_ok (rightTab true hA)) 100000 _ _ [argV h, .y (.int .i64 n)] [tw 9 8 (.bool false), tw 9 16 (.bool false), tw 9 22 (.bool true)] (.v (.tuple #[.agg #[.int .i64 0, .int .i64 0, .int .i64 0, .slice none 0 0], .bool false])) ([(.bool (decide (n ≥ h.m)), .bool true), (.bool (decide (n < 0)), .bool false), (h.v, h.v), (.bool (h.k != 5), .bool false)]) w (by kernel_rfl) (by simp [denL, den, argV, VH.v]) (by simp [bdL, bd, argV]) (AllT.cons (by rw [hm]) (AllT.cons (by rw [hn]) (AllT.cons (rfl) (AllT.cons (by rw [hk]) (AllT.nil))))) hf).mono ?_
  rintro e w' ⟨B, he, hb⟩
  exact ⟨by rw [he]; simp [den, denL], hb⟩
set_option maxHeartbeats 4000000 in
theorem ix_y (w W : World) (h g : VH) (n : Int) (hk : (h.k != 5) = false) (hA : rightW 40 W h = true) (hn : decide (n < 0) = false) (hm : decide (n ≥ h.m) = false) (hf : @FcAt (fcV W h g) w) : Calls Tryd.prog 9 #[h.v, .int .i64 n] w fun e w' => e = .returned (.tuple #[.agg #[.int .i64 4, .int .i64 (IntKind.i64.wrap (h.n + n)), .int .i64 0, .slice none 0 0], .bool true]) ∧ Below w.heap.size w w' := by
  letI fc : FC := fcV W h g
  refine (@ex_runG (fcV W h g) _ (kgIf (kgAt 11 [h.v] (.v (.bool true)))) (kgIf_ok (rightTab true hA)) 100000 _ _ [argV h, .y (.int .i64 n)] [tw 9 8 (.bool false), tw 9 16 (.bool false), tw 9 22 (.bool false)] (.t [.g [.v (.int .i64 4), .y (.int .i64 (IntKind.i64.wrap (h.n + n))), .v (.int .i64 0), .v (.slice none 0 0)], .v (.bool true)]) ([(.bool (decide (n ≥ h.m)), .bool false), (.bool (decide (n < 0)), .bool false), (h.v, h.v), (.bool (h.k != 5), .bool false)]) w (by kernel_rfl) (by simp [denL, den, argV, VH.v]) (by simp [bdL, bd, argV]) (AllT.cons (by rw [hm]) (AllT.cons (by rw [hn]) (AllT.cons (rfl) (AllT.cons (by rw [hk]) (AllT.nil))))) hf).mono ?_
  rintro e w' ⟨B, he, hb⟩
  exact ⟨by rw [he]; simp [den, denL], hb⟩
def stayV (op : Int) (h g : VH) (m : Int) : Value := .agg #[.int .i64 op, .int .i64 h.k, .int .i64 h.n, .int .i64 h.m, .slice h.a h.len h.cap, .int .i64 g.k, .int .i64 g.n, .int .i64 g.m, .slice g.a g.len g.cap, .int .i64 m]
def staySV (op : Int) (h g : VH) (m : Int) : SV := .g [.y (.int .i64 op), .y (.int .i64 h.k), .y (.int .i64 h.n), .y (.int .i64 h.m), .y (.slice h.a h.len h.cap), .y (.int .i64 g.k), .y (.int .i64 g.n), .y (.int .i64 g.m), .y (.slice g.a g.len g.cap), .y (.int .i64 m)]
abbrev RRD : FuncId := 18
def ttY : Value := .bool true
def ffY : Value := .bool false
def pwY (a : Bool) (b : Bool) : Value × Value := (.bool a, .bool b)
theorem rround_any (n : Int) (w : World) : Calls Tryd.prog RRD #[.int .i64 n] w fun e w' => e = .returned (.int .i64 (rnd n)) ∧ Below w.heap.size w w' := by
  have hr := tm_range n
  by_cases h1 : tm n > 1099511627776
  · have e1 : IntKind.i64.wrap (IntKind.i64.wrap (tm n - 2199023255552) - 1) = rnd n := by
      rw [IntKind.wrap_i64, IntKind.wrap_i64]
      have : rnd n = tm n - 2199023255553 := by unfold rnd; exact if_pos h1
      omega
    have hr2 := rnd_range n
    refine (ex_run (w := w) (x := .y (.int .i64 (IntKind.i64.wrap (IntKind.i64.wrap (tm n - 2199023255552) - 1)))) knNone_ok 100000 [.y (.int .i64 n)] [ttY, ffY] [pwY (decide (IntKind.i64.wrap (IntKind.i64.wrap (tm n - 2199023255552) - 1) < -1099511627776)) false, pwY (decide (tm n > 1099511627776)) true] (by kernel_rfl) (by simp [denL, den]) (by simp [bdL, bd]) (by
      intro q hq
      simp only [List.mem_cons, List.not_mem_nil, or_false] at hq
      rcases hq with rfl | rfl
      · rw [e1]; simp only [pwY, Value.bool.injEq, decide_eq_false_iff_not]; omega
      · simp only [pwY, Value.bool.injEq, decide_eq_true_eq]; exact h1)).mono ?_
    rintro e w' ⟨B, rfl, hb⟩
    exact ⟨by rw [den, e1], hb⟩
  · by_cases h2 : tm n < -1099511627776
    · refine (ex_run (w := w) (x := .y (.int .i64 (IntKind.i64.wrap (IntKind.i64.wrap (tm n + 2199023255552) + 1)))) knNone_ok 100000 [.y (.int .i64 n)] [ffY, ttY] [pwY (decide (tm n < -1099511627776)) true, pwY (decide (tm n > 1099511627776)) false] (by kernel_rfl) (by simp [denL, den]) (by simp [bdL, bd]) (by
        intro q hq
        simp only [List.mem_cons, List.not_mem_nil, or_false] at hq
        rcases hq with rfl | rfl
        · simp only [pwY, Value.bool.injEq, decide_eq_true_eq]; exact h2
        · simp only [pwY, Value.bool.injEq, decide_eq_false_iff_not]; exact h1)).mono ?_
      rintro e w' ⟨B, rfl, hb⟩
      have e1 : IntKind.i64.wrap (IntKind.i64.wrap (tm n + 2199023255552) + 1) = rnd n := by
        rw [IntKind.wrap_i64, IntKind.wrap_i64]
        have : rnd n = tm n + 2199023255553 := by unfold rnd; exact (if_neg h1).trans (if_pos h2)
        omega
      exact ⟨by rw [den, e1], hb⟩
    · refine (ex_run (w := w) (x := .y (.int .i64 (tm n))) knNone_ok 100000 [.y (.int .i64 n)] [ffY, ffY] [pwY (decide (tm n < -1099511627776)) false, pwY (decide (tm n > 1099511627776)) false] (by kernel_rfl) (by simp [denL, den]) (by simp [bdL, bd]) (by
        intro q hq
        simp only [List.mem_cons, List.not_mem_nil, or_false] at hq
        rcases hq with rfl | rfl
        · simp only [pwY, Value.bool.injEq, decide_eq_false_iff_not]; exact h2
        · simp only [pwY, Value.bool.injEq, decide_eq_false_iff_not]; exact h1)).mono ?_
      rintro e w' ⟨B, rfl, hb⟩
      have e1 : tm n = rnd n := by unfold rnd; exact ((if_neg h1).trans (if_neg h2)).symm
      exact ⟨by rw [den, e1], hb⟩
/-! ### Congruence -/

theorem rrightTab {W : World} {h g : VH} (b : Bool) (e : rightW 40 W h = b) : @KnGOk (fcV W h g) Tryd.prog (@kgAt (fcV W h g) 12 [h.v] (.v (.bool b))) := by
  letI fc : FC := fcV W h g
  exact kgAt_ok (by simp [bd]) fun w1 hf => by
    have := rr_is h w1 hf.1.2.1.1
    rw [hf.1.2.2.1.1, e] at this
    simpa [den] using this
set_option maxHeartbeats 4000000 in
theorem rx_k (w W : World) (h g : VH) (n : Int) (b : Bool) (hA : rightW 40 W h = b) (hk : (h.k != 5) = true) (hf : @FcAt (fcV W h g) w) : Calls Tryd.prog 10 #[h.v, .int .i64 n] w fun e w' => e = .returned (.tuple #[.agg #[.int .i64 0, .int .i64 0, .int .i64 0, .slice none 0 0], .bool false]) ∧ Below w.heap.size w w' := by
  letI fc : FC := fcV W h g
  refine (@ex_runG (fcV W h g) _ (kgIf (kgAt 12 [h.v] (.v (.bool b)))) (kgIf_ok (rrightTab b hA)) 100000 _ _ [argV h, .y (.int .i64 n)] [.bool true] (.v (.tuple #[.agg #[.int .i64 0, .int .i64 0, .int .i64 0, .slice none 0 0], .bool false])) ([(.bool (h.k != 5), .bool true), (h.v, h.v)]) w (by kernel_rfl) (by simp [denL, den, argV, VH.v]) (by simp [bdL, bd, argV]) (AllT.cons (by rw [hk]) (AllT.cons (rfl) (AllT.nil))) hf).mono ?_
  rintro e w' ⟨B, he, hb⟩
  exact ⟨by rw [he]; simp [den, denL], hb⟩
set_option maxHeartbeats 4000000 in
theorem rx_r (w W : World) (h g : VH) (n : Int) (hk : (h.k != 5) = false) (hA : rightW 40 W h = false) (hf : @FcAt (fcV W h g) w) : Calls Tryd.prog 10 #[h.v, .int .i64 n] w fun e w' => e = .returned (.tuple #[.agg #[.int .i64 0, .int .i64 0, .int .i64 0, .slice none 0 0], .bool false]) ∧ Below w.heap.size w w' := by
  letI fc : FC := fcV W h g
  refine (@ex_runG (fcV W h g) _ (kgIf (kgAt 12 [h.v] (.v (.bool false)))) (kgIf_ok (rrightTab false hA)) 100000 _ _ [argV h, .y (.int .i64 n)] [.bool false] (.v (.tuple #[.agg #[.int .i64 0, .int .i64 0, .int .i64 0, .slice none 0 0], .bool false])) ([(.bool (h.k != 5), .bool false), (h.v, h.v)]) w (by kernel_rfl) (by simp [denL, den, argV, VH.v]) (by simp [bdL, bd, argV]) (AllT.cons (by rw [hk]) (AllT.cons (rfl) (AllT.nil))) hf).mono ?_
  rintro e w' ⟨B, he, hb⟩
  exact ⟨by rw [he]; simp [den, denL], hb⟩
set_option maxHeartbeats 4000000 in
theorem rx_n (w W : World) (h g : VH) (n : Int) (hk : (h.k != 5) = false) (hA : rightW 40 W h = true) (hn : decide (n < 0) = true) (hf : @FcAt (fcV W h g) w) : Calls Tryd.prog 10 #[h.v, .int .i64 n] w fun e w' => e = .returned (.tuple #[.agg #[.int .i64 0, .int .i64 0, .int .i64 0, .slice none 0 0], .bool false]) ∧ Below w.heap.size w w' := by
  letI fc : FC := fcV W h g
  refine (@ex_runG (fcV W h g) _ (kgIf (kgAt 12 [h.v] (.v (.bool true)))) (kgIf_ok (rrightTab true hA)) 100000 _ _ [argV h, .y (.int .i64 n)] [.bool false, .bool true] (.v (.tuple #[.agg #[.int .i64 0, .int .i64 0, .int .i64 0, .slice none 0 0], .bool false])) ([(.bool (decide (n < 0)), .bool true), (.bool (h.k != 5), .bool false), (h.v, h.v)]) w (by kernel_rfl) (by simp [denL, den, argV, VH.v]) (by simp [bdL, bd, argV]) (AllT.cons (by rw [hn]) (AllT.cons (by rw [hk]) (AllT.cons (rfl) (AllT.nil)))) hf).mono ?_
  rintro e w' ⟨B, he, hb⟩
  exact ⟨by rw [he]; simp [den, denL], hb⟩
set_option maxHeartbeats 4000000 in
theorem rx_m (w W : World) (h g : VH) (n : Int) (hk : (h.k != 5) = false) (hA : rightW 40 W h = true) (hn : decide (n < 0) = false) (hm : decide (n ≥ h.m) = true) (hf : @FcAt (fcV W h g) w) : Calls Tryd.prog 10 #[h.v, .int .i64 n] w fun e w' => e = .returned (.tuple #[.agg #[.int .i64 0, .int .i64 0, .int .i64 0, .slice none 0 0], .bool false]) ∧ Below w.heap.size w w' := by
  letI fc : FC := fcV W h g
  refine (@ex_runG (fcV W h g) _ (kgIf (kgAt 12 [h.v] (.v (.bool true)))) (kgIf_ok (rrightTab true hA)) 100000 _ _ [argV h, .y (.int .i64 n)] [.bool false, .bool false, .bool true] (.v (.tuple #[.agg #[.int .i64 0, .int .i64 0, .int .i64 0, .slice none 0 0], .bool false])) ([(.bool (decide (n ≥ h.m)), .bool true), (.bool (decide (n < 0)), .bool false), (.bool (h.k != 5), .bool false), (h.v, h.v)]) w (by kernel_rfl) (by simp [denL, den, argV, VH.v]) (by simp [bdL, bd, argV]) (AllT.cons (by rw [hm]) (AllT.cons (by rw [hn]) (AllT.cons (by rw [hk]) (AllT.cons (rfl) (AllT.nil))))) hf).mono ?_
  rintro e w' ⟨B, he, hb⟩
  exact ⟨by rw [he]; simp [den, denL], hb⟩
set_option maxHeartbeats 4000000 in
theorem rx_y (w W : World) (h g : VH) (n : Int) (hk : (h.k != 5) = false) (hA : rightW 40 W h = true) (hn : decide (n < 0) = false) (hm : decide (n ≥ h.m) = false) (hf : @FcAt (fcV W h g) w) : Calls Tryd.prog 10 #[h.v, .int .i64 n] w fun e w' => e = .returned (.tuple #[.agg #[.int .i64 4, .int .i64 (IntKind.i64.wrap (h.n + n)), .int .i64 0, .slice none 0 0], .bool true]) ∧ Below w.heap.size w w' := by
  letI fc : FC := fcV W h g
  refine (@ex_runG (fcV W h g) _ (kgIf (kgAt 12 [h.v] (.v (.bool true)))) (kgIf_ok (rrightTab true hA)) 100000 _ _ [argV h, .y (.int .i64 n)] [.bool false, .bool false, .bool false] (.t [.g [.v (.int .i64 4), .y (.int .i64 (IntKind.i64.wrap (h.n + n))), .v (.int .i64 0), .v (.slice none 0 0)], .v (.bool true)]) ([(.bool (decide (n ≥ h.m)), .bool false), (.bool (decide (n < 0)), .bool false), (.bool (h.k != 5), .bool false), (h.v, h.v)]) w (by kernel_rfl) (by simp [denL, den, argV, VH.v]) (by simp [bdL, bd, argV]) (AllT.cons (by rw [hm]) (AllT.cons (by rw [hn]) (AllT.cons (by rw [hk]) (AllT.cons (rfl) (AllT.nil))))) hf).mono ?_
  rintro e w' ⟨B, he, hb⟩
  exact ⟨by rw [he]; simp [den, denL], hb⟩
/-- What Index gives. -/
def ixRes (k n : Int) (b : Bool) : Value := .tuple #[.agg #[.int .i64 k, .int .i64 n, .int .i64 0, .slice none 0 0], .bool b]
theorem index_both (W : World) (h g : VH) (n : Int) : ∃ (K N : Int) (b : Bool), (∀ w, @FcAt (fcV W h g) w → Calls Tryd.prog 9 #[h.v, .int .i64 n] w fun e w' => e = .returned (ixRes K N b) ∧ Below w.heap.size w w') ∧ (∀ w, @FcAt (fcV W h g) w → Calls Tryd.prog 10 #[h.v, .int .i64 n] w fun e w' => e = .returned (ixRes K N b) ∧ Below w.heap.size w w') := by
  cases hk : (h.k != 5) with
  | true => exact ⟨0, 0, false, fun w hf => ix_k w W h g n hk hf, fun w hf => rx_k w W h g n _ rfl hk hf⟩
  | false =>
    cases hA : rightW 40 W h with
    | false => exact ⟨0, 0, false, fun w hf => ix_r w W h g n hk hA hf, fun w hf => rx_r w W h g n hk hA hf⟩
    | true =>
      cases hn : decide (n < 0) with
      | true => exact ⟨0, 0, false, fun w hf => ix_n w W h g n hk hA hn hf, fun w hf => rx_n w W h g n hk hA hn hf⟩
      | false =>
        cases hm : decide (n ≥ h.m) with
        | true => exact ⟨0, 0, false, fun w hf => ix_m w W h g n hk hA hn hm hf, fun w hf => rx_m w W h g n hk hA hn hm hf⟩
        | false => exact ⟨4, IntKind.i64.wrap (h.n + n), true, fun w hf => ix_y w W h g n hk hA hn hm hf, fun w hf => rx_y w W h g n hk hA hn hm hf⟩
set_option maxHeartbeats 4000000 in
theorem small_is (h : VH) (w : World) (hv : VT 40 w h) : Calls Tryd.prog 8 #[h.v] w fun e w' => e = .returned (.bool (decide (countW 40 w h 60 ≤ 60))) ∧ Below w.heap.size w w' := by
  letI fc : FC := ⟨fun _ => 0, fun _ => 0, fun _ => [], fun w' => Below w.heap.size w w', fun w w' h k => ⟨k.os.trans h.os, k.tape.trans h.tape, k.output.trans h.output, Nat.le_trans h.size k.size, fun b hb => (k.block b (Nat.lt_of_lt_of_le hb h.size) (by simp)).trans (h.block b hb)⟩⟩
  have K : KnGOk Tryd.prog (kgAt 26 [h.v, .int .i64 40, .int .i64 60] (.y (.int .i64 (countW 40 w h 60)))) := kgAt_ok (by simp [bd]) fun w1 hf => by
    have := count_is 60 40 (by omega) h w1 (hv.below hf.1) 40 (by omega)
    rw [countW_below hf.1 hv] at this
    simpa [den] using this
  refine (ex_runG (w := w) (x := .y (.bool (decide (countW 40 w h 60 ≤ 60)))) K 100000 [.y h.v] [] [(h.v, h.v), (.int .i64 40, .int .i64 40), (.int .i64 60, .int .i64 60)] (by kernel_rfl) (by simp [denL, den]) (by simp [bdL, bd]) (by
    intro q hq
    simp only [List.mem_cons, List.not_mem_nil, or_false] at hq
    rcases hq with rfl | rfl | rfl <;> rfl) ⟨below_rfl w, fun i j x hx => absurd (show ([] : List SV)[j]? = some x from hx) (by simp)⟩).mono ?_
  rintro e w' ⟨B, he, hb⟩
  exact ⟨by rw [he]; simp [den], hb⟩
set_option maxHeartbeats 4000000 in
theorem rShow_is {d : Nat} (hd1 : d ≤ 40) {W : World} {h : VH} (hv : VT d W h) (hd : deepB d W h = true) (hT : TabP W) : Calls Tryd.prog 16 #[h.v] W fun e w' => e = .returned (.string (showW d W h)) ∧ Below W.heap.size W w' := by
  letI fc : FC := ⟨fun _ => 0, fun _ => 0, fun _ => [], fun w' => Below W.heap.size W w', fun w w' h k => ⟨k.os.trans h.os, k.tape.trans h.tape, k.output.trans h.output, Nat.le_trans h.size k.size, fun b hb => (k.block b (Nat.lt_of_lt_of_le hb h.size) (by simp)).trans (h.block b hb)⟩⟩
  have K : KnGOk Tryd.prog (kgAt rshF [h.v, .int .i64 50] (.y (.string (showW d W h)))) := kgAt_ok (by simp [bd]) fun w hf => by
    have := rsh_is d (by omega) 50 (by omega) (by omega) w h (VT.below hf.1 hv) (by rw [deepB_below hf.1 hv]; exact hd) (hT.below hf.1)
    rw [showW_below hf.1 hv] at this
    simpa [den] using this
  refine (ex_runG (w := W) (x := .y (.string (showW d W h))) K 100000 [.y h.v] [] [(h.v, h.v), (.int .i64 50, .int .i64 50)] (by kernel_rfl) (by simp [denL, den]) (by simp [bdL, bd]) (by
      intro q hq
      simp only [List.mem_cons, List.not_mem_nil, or_false] at hq
      rcases hq with rfl | rfl <;> rfl) ⟨below_rfl W, fun i j x hx => absurd (show ([] : List SV)[j]? = some x from hx) (by simp)⟩).mono ?_
  rintro e w' ⟨B, he, hb⟩
  exact ⟨by rw [he]; simp [den], hb⟩
end Go.Proofs.YtoijdnlplbeomaaDoor


/-
  Layer 8: ValueMatchesSpec.
-/
namespace Go.Proofs.YtoijdnlplbeomaaDoor
open Go Go.RowKit EX
set_option maxRecDepth 100000
set_option linter.unusedVariables false
set_option linter.unusedSimpArgs false
set_option linter.unusedSectionVars false
section
variable [FC]
def knR : Kn := knOr kn8 (knI RRD fun a => .int .i64 (rnd a))
theorem knR_ok : KnOk Tryd.prog knR := knOr_ok kn8F_ok (knI_okF rround_any)
end
theorem smallTab1 {W : World} {h g : VH} {b : Bool} (kv : VT 40 W h) (e : decide (countW 40 W h 60 ≤ 60) = b) : @KnGOk (fcV W h g) Tryd.prog (@kgAt (fcV W h g) 8 [h.v] (.v (.bool b))) := by
  letI fc : FC := fcV W h g
  exact kgAt_ok (by simp [bd]) fun w1 hf => by
    have := small_is h w1 hf.1.2.1.1
    rw [countW_below hf.1.1 kv, e] at this
    simpa [den] using this
theorem smallTab2 {W : World} {h g : VH} {b : Bool} (kw : VT 40 W g) (e : decide (countW 40 W g 60 ≤ 60) = b) : @KnGOk (fcV W h g) Tryd.prog (@kgAt (fcV W h g) 8 [g.v] (.v (.bool b))) := by
  letI fc : FC := fcV W h g
  exact kgAt_ok (by simp [bd]) fun w1 hf => by
    have := small_is g w1 hf.1.2.1.2
    rw [countW_below hf.1.1 kw, e] at this
    simpa [den] using this
theorem psameTab {W : World} {h g : VH} {b : Bool} (kv : VT 40 W h) (kw : VT 40 W g) (hd : deepB 40 W h = true) (e : sameW 40 W h g = b) : @KnGOk (fcV W h g) Tryd.prog (@kgAt (fcV W h g) 13 [h.v, g.v] (.v (.bool b))) := by
  letI fc : FC := fcV W h g
  exact kgAt_ok (by simp [bd]) fun w1 hf => by
    have := psa_is 40 (by omega) w1 h g hf.1.2.1.1 hf.1.2.1.2 (by rw [deepB_below hf.1.1 kv]; exact hd)
    rw [sameW_below hf.1.1 kv kw, e] at this
    simpa [den] using this
theorem rsameTab {W : World} {h g : VH} {b : Bool} (kv : VT 40 W h) (kw : VT 40 W g) (hd : deepB 40 W h = true) (e : sameW 40 W h g = b) : @KnGOk (fcV W h g) Tryd.prog (@kgAt (fcV W h g) 14 [h.v, g.v] (.v (.bool b))) := by
  letI fc : FC := fcV W h g
  exact kgAt_ok (by simp [bd]) fun w1 hf => by
    have := rSame_is (d := 40) (by omega) hf.1.2.1.1 hf.1.2.1.2 (by rw [deepB_below hf.1.1 kv]; exact hd)
    rw [sameW_below hf.1.1 kv kw, e] at this
    simpa [den] using this
theorem pshowTab {W : World} {h g : VH} (kv : VT 40 W h) (hd : deepB 40 W h = true) (hT : TabP W) : @KnGOk (fcV W h g) Tryd.prog (@kgAt (fcV W h g) 15 [h.v] (.y (.string (showW 40 W h)))) := by
  letI fc : FC := fcV W h g
  exact kgAt_ok (by simp [bd]) fun w1 hf => by
    have := psh_is 40 (by omega) w1 h hf.1.2.1.1 (by rw [deepB_below hf.1.1 kv]; exact hd) (hT.below hf.1.1)
    rw [showW_below hf.1.1 kv] at this
    simpa [den] using this
theorem rshowTab {W : World} {h g : VH} (kv : VT 40 W h) (hd : deepB 40 W h = true) (hT : TabP W) : @KnGOk (fcV W h g) Tryd.prog (@kgAt (fcV W h g) 16 [h.v] (.y (.string (showW 40 W h)))) := by
  letI fc : FC := fcV W h g
  exact kgAt_ok (by simp [bd]) fun w1 hf => by
    have := rShow_is (d := 40) (by omega) hf.1.2.1.1 (by rw [deepB_below hf.1.1 kv]; exact hd) (hT.below hf.1.1)
    rw [showW_below hf.1.1 kv] at this
    simpa [den] using this
theorem ixTab {F : FuncId} {W : World} {h g : VH} {n K N : Int} {b : Bool} (hix : ∀ w, @FcAt (fcV W h g) w → Calls Tryd.prog F #[h.v, .int .i64 n] w fun e w' => e = .returned (ixRes K N b) ∧ Below w.heap.size w w') : @KnGOk (fcV W h g) Tryd.prog (@kgAt (fcV W h g) F [h.v, .int .i64 n] (.t [.g [.y (.int .i64 K), .y (.int .i64 N), .v (.int .i64 0), .v (.slice none 0 0)], .v (.bool b)])) := by
  letI fc : FC := fcV W h g
  exact kgAt_ok (by simp [bd, bdL]) fun w1 hf => (hix w1 hf).mono fun e w' ⟨he, hb⟩ => ⟨by rw [he]; simp [den, denL, ixRes], hb⟩
set_option maxHeartbeats 8000000 in
theorem vm_s1 {W : World} {n : Int} {h g : VH} (kv : VT 40 W h) (kw : VT 40 W g) (hs1 : decide (countW 40 W h 60 ≤ 60) = false) : Calls Tryd.prog 3 #[h.v, g.v, .int .i64 n] W fun e w' => e = .returned (.bool true) ∧ Below W.heap.size W w' := by
  letI fc : FC := fcV W h g
  exact @ex_valG (fcV W h g) _ ((kgOr (gk knR) (kgAt 8 [h.v] (.v (.bool false))))) ((kgOr_ok (gk_ok knR_ok) (smallTab1 kv hs1))) 100000 _ _ [argV h, argV g, .y (.int .i64 n)] [] _ [(h.v, h.v)] W (by kernel_rfl) (by simp [denL, den, argV, VH.v]) (by simp [bdL, bd, argV]) (AllT.cons (rfl) (AllT.nil)) (fcV_at kv kw)
set_option maxHeartbeats 8000000 in
theorem vm_s2 {W : World} {n : Int} {h g : VH} (kv : VT 40 W h) (kw : VT 40 W g) (hs1 : decide (countW 40 W h 60 ≤ 60) = true) (hs2 : decide (countW 40 W g 60 ≤ 60) = false) : Calls Tryd.prog 3 #[h.v, g.v, .int .i64 n] W fun e w' => e = .returned (.bool true) ∧ Below W.heap.size W w' := by
  letI fc : FC := fcV W h g
  exact @ex_valG (fcV W h g) _ ((kgOr (gk knR) (kgSel (kgAt 8 [h.v] (.v (.bool true))) (kgAt 8 [g.v] (.v (.bool false)))))) ((kgOr_ok (gk_ok knR_ok) (kgSel_ok (smallTab1 kv hs1) (smallTab2 kw hs2)))) 100000 _ _ [argV h, argV g, .y (.int .i64 n)] [.bool true, .bool false] _ [(g.v, g.v), (h.v, h.v)] W (by kernel_rfl) (by simp [denL, den, argV, VH.v]) (by simp [bdL, bd, argV]) (AllT.cons (rfl) (AllT.cons (rfl) (AllT.nil))) (fcV_at kv kw)
set_option maxHeartbeats 8000000 in
theorem vm_ttt {W : World} {n : Int} {h g : VH} (kv : VT 40 W h) (kw : VT 40 W g) (hT : TabP W) (hs1 : decide (countW 40 W h 60 ≤ 60) = true) (hs2 : decide (countW 40 W g 60 ≤ 60) = true) {K N : Int} (hix : ∀ w, @FcAt (fcV W h g) w → Calls Tryd.prog 9 #[h.v, .int .i64 n] w fun e w' => e = .returned (ixRes K N true) ∧ Below w.heap.size w w') (hrx : ∀ w, @FcAt (fcV W h g) w → Calls Tryd.prog 10 #[h.v, .int .i64 n] w fun e w' => e = .returned (ixRes K N true) ∧ Below w.heap.size w w') (hA : rightW 40 W h = true) (hS : sameW 40 W h g = true) : Calls Tryd.prog 3 #[h.v, g.v, .int .i64 n] W fun e w' => e = .returned (.bool true) ∧ Below W.heap.size W w' := by
  letI fc : FC := fcV W h g
  have hd : deepB 40 W h = true := deep_of_count (by omega) (of_decide_eq_true hs1)
  exact @ex_valG (fcV W h g) _ ((kgOr (gk knR) ((kgOr (kgSel (kgAt 8 [h.v] (.v (.bool true))) (kgAt 8 [g.v] (.v (.bool true)))) ((kgOr (kgAt 9 [h.v, .int .i64 n] (.t [.g [.y (.int .i64 K), .y (.int .i64 N), .v (.int .i64 0), .v (.slice none 0 0)], .v (.bool true)])) ((kgOr (kgAt 10 [h.v, .int .i64 n] (.t [.g [.y (.int .i64 K), .y (.int .i64 N), .v (.int .i64 0), .v (.slice none 0 0)], .v (.bool true)])) ((kgOr (kgAt 11 [h.v] (.v (.bool true))) ((kgOr (kgAt 12 [h.v] (.v (.bool true))) ((kgOr (kgAt 13 [h.v, g.v] (.v (.bool true))) ((kgOr (kgIf (kgAt 14 [h.v, g.v] (.v (.bool true)))) ((kgOr (kgAt 15 [h.v] (.y (.string (showW 40 W h)))) (kgAt 16 [h.v] (.y (.string (showW 40 W h)))))))))))))))))))))) ((kgOr_ok (gk_ok knR_ok) ((kgOr_ok (kgSel_ok (smallTab1 kv hs1) (smallTab2 kw hs2)) ((kgOr_ok (ixTab hix) ((kgOr_ok (ixTab hrx) ((kgOr_ok (rightTab _ hA) ((kgOr_ok (rrightTab _ hA) ((kgOr_ok (psameTab kv kw hd hS) ((kgOr_ok (kgIf_ok (rsameTab kv kw hd hS)) ((kgOr_ok (pshowTab kv hd hT) (rshowTab kv hd hT))))))))))))))))))) 100000 _ _ [argV h, argV g, .y (.int .i64 n)] [.bool true, .bool false, .bool true, .bool true, .bool true, .bool true, .bool false, .bool false, .bool true, .bool true, .bool true, .bool true, .bool true, .bool false, .bool true] _ [(.bool (rnd n == rnd n), .bool true), (.bool (rnd n != rnd n), .bool false), (.bool (rnd n == rnd n), .bool true), (.bool (rnd n == rnd n), .bool true), (.bool (rnd n == rnd n), .bool true), (.bool (rnd n == rnd n), .bool true), (.bool (rnd n == rnd n), .bool true), (.bool (N != N), .bool false), (.bool (K != K), .bool false), (.bool ((showW 40 W h).toList == (showW 40 W h).toList), .bool true), (.bool ((showW 40 W h).toList == (showW 40 W h).toList), .bool true), (.bool ((showW 40 W h).toList == (showW 40 W h).toList), .bool true), (.bool ((showW 40 W h).toList == (showW 40 W h).toList), .bool true), (h.v, h.v), (h.v, h.v), (h.v, h.v), (g.v, g.v), (h.v, h.v), (g.v, g.v), (h.v, h.v), (h.v, h.v), (h.v, h.v), (.int .i64 n, .int .i64 n), (h.v, h.v), (.int .i64 n, .int .i64 n), (g.v, g.v), (h.v, h.v)] W (by kernel_rfl) (by simp [denL, den, argV, VH.v]) (by simp [bdL, bd, argV]) (AllT.cons (congrArg Value.bool (by simp)) (AllT.cons (congrArg Value.bool (by simp)) (AllT.cons (congrArg Value.bool (by simp)) (AllT.cons (congrArg Value.bool (by simp)) (AllT.cons (congrArg Value.bool (by simp)) (AllT.cons (congrArg Value.bool (by simp)) (AllT.cons (congrArg Value.bool (by simp)) (AllT.cons (congrArg Value.bool (by simp)) (AllT.cons (congrArg Value.bool (by simp)) (AllT.cons (congrArg Value.bool (by simp)) (AllT.cons (congrArg Value.bool (by simp)) (AllT.cons (congrArg Value.bool (by simp)) (AllT.cons (congrArg Value.bool (by simp)) (AllT.cons (rfl) (AllT.cons (rfl) (AllT.cons (rfl) (AllT.cons (rfl) (AllT.cons (rfl) (AllT.cons (rfl) (AllT.cons (rfl) (AllT.cons (rfl) (AllT.cons (rfl) (AllT.cons (rfl) (AllT.cons (rfl) (AllT.cons (rfl) (AllT.cons (rfl) (AllT.cons (rfl) (AllT.nil)))))))))))))))))))))))))))) (fcV_at kv kw)
set_option maxHeartbeats 8000000 in
theorem vm_ttf {W : World} {n : Int} {h g : VH} (kv : VT 40 W h) (kw : VT 40 W g) (hT : TabP W) (hs1 : decide (countW 40 W h 60 ≤ 60) = true) (hs2 : decide (countW 40 W g 60 ≤ 60) = true) {K N : Int} (hix : ∀ w, @FcAt (fcV W h g) w → Calls Tryd.prog 9 #[h.v, .int .i64 n] w fun e w' => e = .returned (ixRes K N false) ∧ Below w.heap.size w w') (hrx : ∀ w, @FcAt (fcV W h g) w → Calls Tryd.prog 10 #[h.v, .int .i64 n] w fun e w' => e = .returned (ixRes K N false) ∧ Below w.heap.size w w') (hA : rightW 40 W h = true) (hS : sameW 40 W h g = true) : Calls Tryd.prog 3 #[h.v, g.v, .int .i64 n] W fun e w' => e = .returned (.bool true) ∧ Below W.heap.size W w' := by
  letI fc : FC := fcV W h g
  have hd : deepB 40 W h = true := deep_of_count (by omega) (of_decide_eq_true hs1)
  exact @ex_valG (fcV W h g) _ ((kgOr (gk knR) ((kgOr (kgSel (kgAt 8 [h.v] (.v (.bool true))) (kgAt 8 [g.v] (.v (.bool true)))) ((kgOr (kgAt 9 [h.v, .int .i64 n] (.t [.g [.y (.int .i64 K), .y (.int .i64 N), .v (.int .i64 0), .v (.slice none 0 0)], .v (.bool false)])) ((kgOr (kgAt 10 [h.v, .int .i64 n] (.t [.g [.y (.int .i64 K), .y (.int .i64 N), .v (.int .i64 0), .v (.slice none 0 0)], .v (.bool false)])) ((kgOr (kgAt 11 [h.v] (.v (.bool true))) ((kgOr (kgAt 12 [h.v] (.v (.bool true))) ((kgOr (kgAt 13 [h.v, g.v] (.v (.bool true))) ((kgOr (kgIf (kgAt 14 [h.v, g.v] (.v (.bool true)))) ((kgOr (kgAt 15 [h.v] (.y (.string (showW 40 W h)))) (kgAt 16 [h.v] (.y (.string (showW 40 W h)))))))))))))))))))))) ((kgOr_ok (gk_ok knR_ok) ((kgOr_ok (kgSel_ok (smallTab1 kv hs1) (smallTab2 kw hs2)) ((kgOr_ok (ixTab hix) ((kgOr_ok (ixTab hrx) ((kgOr_ok (rightTab _ hA) ((kgOr_ok (rrightTab _ hA) ((kgOr_ok (psameTab kv kw hd hS) ((kgOr_ok (kgIf_ok (rsameTab kv kw hd hS)) ((kgOr_ok (pshowTab kv hd hT) (rshowTab kv hd hT))))))))))))))))))) 100000 _ _ [argV h, argV g, .y (.int .i64 n)] [.bool true, .bool false, .bool true, .bool true, .bool true, .bool true, .bool false, .bool false, .bool true, .bool true, .bool true, .bool true, .bool true, .bool false, .bool true] _ [(.bool (rnd n == rnd n), .bool true), (.bool (rnd n != rnd n), .bool false), (.bool (rnd n == rnd n), .bool true), (.bool (rnd n == rnd n), .bool true), (.bool (rnd n == rnd n), .bool true), (.bool (rnd n == rnd n), .bool true), (.bool (rnd n == rnd n), .bool true), (.bool (N != N), .bool false), (.bool (K != K), .bool false), (.bool ((showW 40 W h).toList == (showW 40 W h).toList), .bool true), (.bool ((showW 40 W h).toList == (showW 40 W h).toList), .bool true), (.bool ((showW 40 W h).toList == (showW 40 W h).toList), .bool true), (.bool ((showW 40 W h).toList == (showW 40 W h).toList), .bool true), (h.v, h.v), (h.v, h.v), (h.v, h.v), (g.v, g.v), (h.v, h.v), (g.v, g.v), (h.v, h.v), (h.v, h.v), (h.v, h.v), (.int .i64 n, .int .i64 n), (h.v, h.v), (.int .i64 n, .int .i64 n), (g.v, g.v), (h.v, h.v)] W (by kernel_rfl) (by simp [denL, den, argV, VH.v]) (by simp [bdL, bd, argV]) (AllT.cons (congrArg Value.bool (by simp)) (AllT.cons (congrArg Value.bool (by simp)) (AllT.cons (congrArg Value.bool (by simp)) (AllT.cons (congrArg Value.bool (by simp)) (AllT.cons (congrArg Value.bool (by simp)) (AllT.cons (congrArg Value.bool (by simp)) (AllT.cons (congrArg Value.bool (by simp)) (AllT.cons (congrArg Value.bool (by simp)) (AllT.cons (congrArg Value.bool (by simp)) (AllT.cons (congrArg Value.bool (by simp)) (AllT.cons (congrArg Value.bool (by simp)) (AllT.cons (congrArg Value.bool (by simp)) (AllT.cons (congrArg Value.bool (by simp)) (AllT.cons (rfl) (AllT.cons (rfl) (AllT.cons (rfl) (AllT.cons (rfl) (AllT.cons (rfl) (AllT.cons (rfl) (AllT.cons (rfl) (AllT.cons (rfl) (AllT.cons (rfl) (AllT.cons (rfl) (AllT.cons (rfl) (AllT.cons (rfl) (AllT.cons (rfl) (AllT.cons (rfl) (AllT.nil)))))))))))))))))))))))))))) (fcV_at kv kw)
set_option maxHeartbeats 8000000 in
theorem vm_tft {W : World} {n : Int} {h g : VH} (kv : VT 40 W h) (kw : VT 40 W g) (hT : TabP W) (hs1 : decide (countW 40 W h 60 ≤ 60) = true) (hs2 : decide (countW 40 W g 60 ≤ 60) = true) {K N : Int} (hix : ∀ w, @FcAt (fcV W h g) w → Calls Tryd.prog 9 #[h.v, .int .i64 n] w fun e w' => e = .returned (ixRes K N true) ∧ Below w.heap.size w w') (hrx : ∀ w, @FcAt (fcV W h g) w → Calls Tryd.prog 10 #[h.v, .int .i64 n] w fun e w' => e = .returned (ixRes K N true) ∧ Below w.heap.size w w') (hA : rightW 40 W h = true) (hS : sameW 40 W h g = false) : Calls Tryd.prog 3 #[h.v, g.v, .int .i64 n] W fun e w' => e = .returned (.bool true) ∧ Below W.heap.size W w' := by
  letI fc : FC := fcV W h g
  have hd : deepB 40 W h = true := deep_of_count (by omega) (of_decide_eq_true hs1)
  exact @ex_valG (fcV W h g) _ ((kgOr (gk knR) ((kgOr (kgSel (kgAt 8 [h.v] (.v (.bool true))) (kgAt 8 [g.v] (.v (.bool true)))) ((kgOr (kgAt 9 [h.v, .int .i64 n] (.t [.g [.y (.int .i64 K), .y (.int .i64 N), .v (.int .i64 0), .v (.slice none 0 0)], .v (.bool true)])) ((kgOr (kgAt 10 [h.v, .int .i64 n] (.t [.g [.y (.int .i64 K), .y (.int .i64 N), .v (.int .i64 0), .v (.slice none 0 0)], .v (.bool true)])) ((kgOr (kgAt 11 [h.v] (.v (.bool true))) ((kgOr (kgAt 12 [h.v] (.v (.bool true))) ((kgOr (kgAt 13 [h.v, g.v] (.v (.bool false))) ((kgOr (kgIf (kgAt 14 [h.v, g.v] (.v (.bool false)))) ((kgOr (kgAt 15 [h.v] (.y (.string (showW 40 W h)))) (kgAt 16 [h.v] (.y (.string (showW 40 W h)))))))))))))))))))))) ((kgOr_ok (gk_ok knR_ok) ((kgOr_ok (kgSel_ok (smallTab1 kv hs1) (smallTab2 kw hs2)) ((kgOr_ok (ixTab hix) ((kgOr_ok (ixTab hrx) ((kgOr_ok (rightTab _ hA) ((kgOr_ok (rrightTab _ hA) ((kgOr_ok (psameTab kv kw hd hS) ((kgOr_ok (kgIf_ok (rsameTab kv kw hd hS)) ((kgOr_ok (pshowTab kv hd hT) (rshowTab kv hd hT))))))))))))))))))) 100000 _ _ [argV h, argV g, .y (.int .i64 n)] [.bool true, .bool false, .bool true, .bool true, .bool true, .bool true, .bool false, .bool false, .bool true, .bool true, .bool true, .bool true, .bool true, .bool false, .bool true] _ [(.bool (rnd n == rnd n), .bool true), (.bool (rnd n != rnd n), .bool false), (.bool (rnd n == rnd n), .bool true), (.bool (rnd n == rnd n), .bool true), (.bool (rnd n == rnd n), .bool true), (.bool (rnd n == rnd n), .bool true), (.bool (rnd n == rnd n), .bool true), (.bool (N != N), .bool false), (.bool (K != K), .bool false), (.bool ((showW 40 W h).toList == (showW 40 W h).toList), .bool true), (.bool ((showW 40 W h).toList == (showW 40 W h).toList), .bool true), (.bool ((showW 40 W h).toList == (showW 40 W h).toList), .bool true), (.bool ((showW 40 W h).toList == (showW 40 W h).toList), .bool true), (h.v, h.v), (h.v, h.v), (h.v, h.v), (g.v, g.v), (h.v, h.v), (g.v, g.v), (h.v, h.v), (h.v, h.v), (h.v, h.v), (.int .i64 n, .int .i64 n), (h.v, h.v), (.int .i64 n, .int .i64 n), (g.v, g.v), (h.v, h.v)] W (by kernel_rfl) (by simp [denL, den, argV, VH.v]) (by simp [bdL, bd, argV]) (AllT.cons (congrArg Value.bool (by simp)) (AllT.cons (congrArg Value.bool (by simp)) (AllT.cons (congrArg Value.bool (by simp)) (AllT.cons (congrArg Value.bool (by simp)) (AllT.cons (congrArg Value.bool (by simp)) (AllT.cons (congrArg Value.bool (by simp)) (AllT.cons (congrArg Value.bool (by simp)) (AllT.cons (congrArg Value.bool (by simp)) (AllT.cons (congrArg Value.bool (by simp)) (AllT.cons (congrArg Value.bool (by simp)) (AllT.cons (congrArg Value.bool (by simp)) (AllT.cons (congrArg Value.bool (by simp)) (AllT.cons (congrArg Value.bool (by simp)) (AllT.cons (rfl) (AllT.cons (rfl) (AllT.cons (rfl) (AllT.cons (rfl) (AllT.cons (rfl) (AllT.cons (rfl) (AllT.cons (rfl) (AllT.cons (rfl) (AllT.cons (rfl) (AllT.cons (rfl) (AllT.cons (rfl) (AllT.cons (rfl) (AllT.cons (rfl) (AllT.cons (rfl) (AllT.nil)))))))))))))))))))))))))))) (fcV_at kv kw)
set_option maxHeartbeats 8000000 in
theorem vm_tff {W : World} {n : Int} {h g : VH} (kv : VT 40 W h) (kw : VT 40 W g) (hT : TabP W) (hs1 : decide (countW 40 W h 60 ≤ 60) = true) (hs2 : decide (countW 40 W g 60 ≤ 60) = true) {K N : Int} (hix : ∀ w, @FcAt (fcV W h g) w → Calls Tryd.prog 9 #[h.v, .int .i64 n] w fun e w' => e = .returned (ixRes K N false) ∧ Below w.heap.size w w') (hrx : ∀ w, @FcAt (fcV W h g) w → Calls Tryd.prog 10 #[h.v, .int .i64 n] w fun e w' => e = .returned (ixRes K N false) ∧ Below w.heap.size w w') (hA : rightW 40 W h = true) (hS : sameW 40 W h g = false) : Calls Tryd.prog 3 #[h.v, g.v, .int .i64 n] W fun e w' => e = .returned (.bool true) ∧ Below W.heap.size W w' := by
  letI fc : FC := fcV W h g
  have hd : deepB 40 W h = true := deep_of_count (by omega) (of_decide_eq_true hs1)
  exact @ex_valG (fcV W h g) _ ((kgOr (gk knR) ((kgOr (kgSel (kgAt 8 [h.v] (.v (.bool true))) (kgAt 8 [g.v] (.v (.bool true)))) ((kgOr (kgAt 9 [h.v, .int .i64 n] (.t [.g [.y (.int .i64 K), .y (.int .i64 N), .v (.int .i64 0), .v (.slice none 0 0)], .v (.bool false)])) ((kgOr (kgAt 10 [h.v, .int .i64 n] (.t [.g [.y (.int .i64 K), .y (.int .i64 N), .v (.int .i64 0), .v (.slice none 0 0)], .v (.bool false)])) ((kgOr (kgAt 11 [h.v] (.v (.bool true))) ((kgOr (kgAt 12 [h.v] (.v (.bool true))) ((kgOr (kgAt 13 [h.v, g.v] (.v (.bool false))) ((kgOr (kgIf (kgAt 14 [h.v, g.v] (.v (.bool false)))) ((kgOr (kgAt 15 [h.v] (.y (.string (showW 40 W h)))) (kgAt 16 [h.v] (.y (.string (showW 40 W h)))))))))))))))))))))) ((kgOr_ok (gk_ok knR_ok) ((kgOr_ok (kgSel_ok (smallTab1 kv hs1) (smallTab2 kw hs2)) ((kgOr_ok (ixTab hix) ((kgOr_ok (ixTab hrx) ((kgOr_ok (rightTab _ hA) ((kgOr_ok (rrightTab _ hA) ((kgOr_ok (psameTab kv kw hd hS) ((kgOr_ok (kgIf_ok (rsameTab kv kw hd hS)) ((kgOr_ok (pshowTab kv hd hT) (rshowTab kv hd hT))))))))))))))))))) 100000 _ _ [argV h, argV g, .y (.int .i64 n)] [.bool true, .bool false, .bool true, .bool true, .bool true, .bool true, .bool false, .bool false, .bool true, .bool true, .bool true, .bool true, .bool true, .bool false, .bool true] _ [(.bool (rnd n == rnd n), .bool true), (.bool (rnd n != rnd n), .bool false), (.bool (rnd n == rnd n), .bool true), (.bool (rnd n == rnd n), .bool true), (.bool (rnd n == rnd n), .bool true), (.bool (rnd n == rnd n), .bool true), (.bool (rnd n == rnd n), .bool true), (.bool (N != N), .bool false), (.bool (K != K), .bool false), (.bool ((showW 40 W h).toList == (showW 40 W h).toList), .bool true), (.bool ((showW 40 W h).toList == (showW 40 W h).toList), .bool true), (.bool ((showW 40 W h).toList == (showW 40 W h).toList), .bool true), (.bool ((showW 40 W h).toList == (showW 40 W h).toList), .bool true), (h.v, h.v), (h.v, h.v), (h.v, h.v), (g.v, g.v), (h.v, h.v), (g.v, g.v), (h.v, h.v), (h.v, h.v), (h.v, h.v), (.int .i64 n, .int .i64 n), (h.v, h.v), (.int .i64 n, .int .i64 n), (g.v, g.v), (h.v, h.v)] W (by kernel_rfl) (by simp [denL, den, argV, VH.v]) (by simp [bdL, bd, argV]) (AllT.cons (congrArg Value.bool (by simp)) (AllT.cons (congrArg Value.bool (by simp)) (AllT.cons (congrArg Value.bool (by simp)) (AllT.cons (congrArg Value.bool (by simp)) (AllT.cons (congrArg Value.bool (by simp)) (AllT.cons (congrArg Value.bool (by simp)) (AllT.cons (congrArg Value.bool (by simp)) (AllT.cons (congrArg Value.bool (by simp)) (AllT.cons (congrArg Value.bool (by simp)) (AllT.cons (congrArg Value.bool (by simp)) (AllT.cons (congrArg Value.bool (by simp)) (AllT.cons (congrArg Value.bool (by simp)) (AllT.cons (congrArg Value.bool (by simp)) (AllT.cons (rfl) (AllT.cons (rfl) (AllT.cons (rfl) (AllT.cons (rfl) (AllT.cons (rfl) (AllT.cons (rfl) (AllT.cons (rfl) (AllT.cons (rfl) (AllT.cons (rfl) (AllT.cons (rfl) (AllT.cons (rfl) (AllT.cons (rfl) (AllT.cons (rfl) (AllT.cons (rfl) (AllT.nil)))))))))))))))))))))))))))) (fcV_at kv kw)
set_option maxHeartbeats 8000000 in
theorem vm_ftt {W : World} {n : Int} {h g : VH} (kv : VT 40 W h) (kw : VT 40 W g) (hT : TabP W) (hs1 : decide (countW 40 W h 60 ≤ 60) = true) (hs2 : decide (countW 40 W g 60 ≤ 60) = true) {K N : Int} (hix : ∀ w, @FcAt (fcV W h g) w → Calls Tryd.prog 9 #[h.v, .int .i64 n] w fun e w' => e = .returned (ixRes K N true) ∧ Below w.heap.size w w') (hrx : ∀ w, @FcAt (fcV W h g) w → Calls Tryd.prog 10 #[h.v, .int .i64 n] w fun e w' => e = .returned (ixRes K N true) ∧ Below w.heap.size w w') (hA : rightW 40 W h = false) (hS : sameW 40 W h g = true) : Calls Tryd.prog 3 #[h.v, g.v, .int .i64 n] W fun e w' => e = .returned (.bool true) ∧ Below W.heap.size W w' := by
  letI fc : FC := fcV W h g
  have hd : deepB 40 W h = true := deep_of_count (by omega) (of_decide_eq_true hs1)
  exact @ex_valG (fcV W h g) _ ((kgOr (gk knR) ((kgOr (kgSel (kgAt 8 [h.v] (.v (.bool true))) (kgAt 8 [g.v] (.v (.bool true)))) ((kgOr (kgAt 9 [h.v, .int .i64 n] (.t [.g [.y (.int .i64 K), .y (.int .i64 N), .v (.int .i64 0), .v (.slice none 0 0)], .v (.bool true)])) ((kgOr (kgAt 10 [h.v, .int .i64 n] (.t [.g [.y (.int .i64 K), .y (.int .i64 N), .v (.int .i64 0), .v (.slice none 0 0)], .v (.bool true)])) ((kgOr (kgAt 11 [h.v] (.v (.bool false))) ((kgOr (kgAt 12 [h.v] (.v (.bool false))) ((kgOr (kgAt 13 [h.v, g.v] (.v (.bool true))) ((kgOr (kgIf (kgAt 14 [h.v, g.v] (.v (.bool true)))) ((kgOr (kgAt 15 [h.v] (.y (.string (showW 40 W h)))) (kgAt 16 [h.v] (.y (.string (showW 40 W h)))))))))))))))))))))) ((kgOr_ok (gk_ok knR_ok) ((kgOr_ok (kgSel_ok (smallTab1 kv hs1) (smallTab2 kw hs2)) ((kgOr_ok (ixTab hix) ((kgOr_ok (ixTab hrx) ((kgOr_ok (rightTab _ hA) ((kgOr_ok (rrightTab _ hA) ((kgOr_ok (psameTab kv kw hd hS) ((kgOr_ok (kgIf_ok (rsameTab kv kw hd hS)) ((kgOr_ok (pshowTab kv hd hT) (rshowTab kv hd hT))))))))))))))))))) 100000 _ _ [argV h, argV g, .y (.int .i64 n)] [.bool true, .bool false, .bool true, .bool true, .bool true, .bool true, .bool false, .bool false, .bool true, .bool true, .bool true, .bool true, .bool true, .bool false, .bool true] _ [(.bool (rnd n == rnd n), .bool true), (.bool (rnd n != rnd n), .bool false), (.bool (rnd n == rnd n), .bool true), (.bool (rnd n == rnd n), .bool true), (.bool (rnd n == rnd n), .bool true), (.bool (rnd n == rnd n), .bool true), (.bool (rnd n == rnd n), .bool true), (.bool (N != N), .bool false), (.bool (K != K), .bool false), (.bool ((showW 40 W h).toList == (showW 40 W h).toList), .bool true), (.bool ((showW 40 W h).toList == (showW 40 W h).toList), .bool true), (.bool ((showW 40 W h).toList == (showW 40 W h).toList), .bool true), (.bool ((showW 40 W h).toList == (showW 40 W h).toList), .bool true), (h.v, h.v), (h.v, h.v), (h.v, h.v), (g.v, g.v), (h.v, h.v), (g.v, g.v), (h.v, h.v), (h.v, h.v), (h.v, h.v), (.int .i64 n, .int .i64 n), (h.v, h.v), (.int .i64 n, .int .i64 n), (g.v, g.v), (h.v, h.v)] W (by kernel_rfl) (by simp [denL, den, argV, VH.v]) (by simp [bdL, bd, argV]) (AllT.cons (congrArg Value.bool (by simp)) (AllT.cons (congrArg Value.bool (by simp)) (AllT.cons (congrArg Value.bool (by simp)) (AllT.cons (congrArg Value.bool (by simp)) (AllT.cons (congrArg Value.bool (by simp)) (AllT.cons (congrArg Value.bool (by simp)) (AllT.cons (congrArg Value.bool (by simp)) (AllT.cons (congrArg Value.bool (by simp)) (AllT.cons (congrArg Value.bool (by simp)) (AllT.cons (congrArg Value.bool (by simp)) (AllT.cons (congrArg Value.bool (by simp)) (AllT.cons (congrArg Value.bool (by simp)) (AllT.cons (congrArg Value.bool (by simp)) (AllT.cons (rfl) (AllT.cons (rfl) (AllT.cons (rfl) (AllT.cons (rfl) (AllT.cons (rfl) (AllT.cons (rfl) (AllT.cons (rfl) (AllT.cons (rfl) (AllT.cons (rfl) (AllT.cons (rfl) (AllT.cons (rfl) (AllT.cons (rfl) (AllT.cons (rfl) (AllT.cons (rfl) (AllT.nil)))))))))))))))))))))))))))) (fcV_at kv kw)
set_option maxHeartbeats 8000000 in
theorem vm_ftf {W : World} {n : Int} {h g : VH} (kv : VT 40 W h) (kw : VT 40 W g) (hT : TabP W) (hs1 : decide (countW 40 W h 60 ≤ 60) = true) (hs2 : decide (countW 40 W g 60 ≤ 60) = true) {K N : Int} (hix : ∀ w, @FcAt (fcV W h g) w → Calls Tryd.prog 9 #[h.v, .int .i64 n] w fun e w' => e = .returned (ixRes K N false) ∧ Below w.heap.size w w') (hrx : ∀ w, @FcAt (fcV W h g) w → Calls Tryd.prog 10 #[h.v, .int .i64 n] w fun e w' => e = .returned (ixRes K N false) ∧ Below w.heap.size w w') (hA : rightW 40 W h = false) (hS : sameW 40 W h g = true) : Calls Tryd.prog 3 #[h.v, g.v, .int .i64 n] W fun e w' => e = .returned (.bool true) ∧ Below W.heap.size W w' := by
  letI fc : FC := fcV W h g
  have hd : deepB 40 W h = true := deep_of_count (by omega) (of_decide_eq_true hs1)
  exact @ex_valG (fcV W h g) _ ((kgOr (gk knR) ((kgOr (kgSel (kgAt 8 [h.v] (.v (.bool true))) (kgAt 8 [g.v] (.v (.bool true)))) ((kgOr (kgAt 9 [h.v, .int .i64 n] (.t [.g [.y (.int .i64 K), .y (.int .i64 N), .v (.int .i64 0), .v (.slice none 0 0)], .v (.bool false)])) ((kgOr (kgAt 10 [h.v, .int .i64 n] (.t [.g [.y (.int .i64 K), .y (.int .i64 N), .v (.int .i64 0), .v (.slice none 0 0)], .v (.bool false)])) ((kgOr (kgAt 11 [h.v] (.v (.bool false))) ((kgOr (kgAt 12 [h.v] (.v (.bool false))) ((kgOr (kgAt 13 [h.v, g.v] (.v (.bool true))) ((kgOr (kgIf (kgAt 14 [h.v, g.v] (.v (.bool true)))) ((kgOr (kgAt 15 [h.v] (.y (.string (showW 40 W h)))) (kgAt 16 [h.v] (.y (.string (showW 40 W h)))))))))))))))))))))) ((kgOr_ok (gk_ok knR_ok) ((kgOr_ok (kgSel_ok (smallTab1 kv hs1) (smallTab2 kw hs2)) ((kgOr_ok (ixTab hix) ((kgOr_ok (ixTab hrx) ((kgOr_ok (rightTab _ hA) ((kgOr_ok (rrightTab _ hA) ((kgOr_ok (psameTab kv kw hd hS) ((kgOr_ok (kgIf_ok (rsameTab kv kw hd hS)) ((kgOr_ok (pshowTab kv hd hT) (rshowTab kv hd hT))))))))))))))))))) 100000 _ _ [argV h, argV g, .y (.int .i64 n)] [.bool true, .bool false, .bool true, .bool true, .bool true, .bool true, .bool false, .bool false, .bool true, .bool true, .bool true, .bool true, .bool true, .bool false, .bool true] _ [(.bool (rnd n == rnd n), .bool true), (.bool (rnd n != rnd n), .bool false), (.bool (rnd n == rnd n), .bool true), (.bool (rnd n == rnd n), .bool true), (.bool (rnd n == rnd n), .bool true), (.bool (rnd n == rnd n), .bool true), (.bool (rnd n == rnd n), .bool true), (.bool (N != N), .bool false), (.bool (K != K), .bool false), (.bool ((showW 40 W h).toList == (showW 40 W h).toList), .bool true), (.bool ((showW 40 W h).toList == (showW 40 W h).toList), .bool true), (.bool ((showW 40 W h).toList == (showW 40 W h).toList), .bool true), (.bool ((showW 40 W h).toList == (showW 40 W h).toList), .bool true), (h.v, h.v), (h.v, h.v), (h.v, h.v), (g.v, g.v), (h.v, h.v), (g.v, g.v), (h.v, h.v), (h.v, h.v), (h.v, h.v), (.int .i64 n, .int .i64 n), (h.v, h.v), (.int .i64 n, .int .i64 n), (g.v, g.v), (h.v, h.v)] W (by kernel_rfl) (by simp [denL, den, argV, VH.v]) (by simp [bdL, bd, argV]) (AllT.cons (congrArg Value.bool (by simp)) (AllT.cons (congrArg Value.bool (by simp)) (AllT.cons (congrArg Value.bool (by simp)) (AllT.cons (congrArg Value.bool (by simp)) (AllT.cons (congrArg Value.bool (by simp)) (AllT.cons (congrArg Value.bool (by simp)) (AllT.cons (congrArg Value.bool (by simp)) (AllT.cons (congrArg Value.bool (by simp)) (AllT.cons (congrArg Value.bool (by simp)) (AllT.cons (congrArg Value.bool (by simp)) (AllT.cons (congrArg Value.bool (by simp)) (AllT.cons (congrArg Value.bool (by simp)) (AllT.cons (congrArg Value.bool (by simp)) (AllT.cons (rfl) (AllT.cons (rfl) (AllT.cons (rfl) (AllT.cons (rfl) (AllT.cons (rfl) (AllT.cons (rfl) (AllT.cons (rfl) (AllT.cons (rfl) (AllT.cons (rfl) (AllT.cons (rfl) (AllT.cons (rfl) (AllT.cons (rfl) (AllT.cons (rfl) (AllT.cons (rfl) (AllT.nil)))))))))))))))))))))))))))) (fcV_at kv kw)
set_option maxHeartbeats 8000000 in
theorem vm_fft {W : World} {n : Int} {h g : VH} (kv : VT 40 W h) (kw : VT 40 W g) (hT : TabP W) (hs1 : decide (countW 40 W h 60 ≤ 60) = true) (hs2 : decide (countW 40 W g 60 ≤ 60) = true) {K N : Int} (hix : ∀ w, @FcAt (fcV W h g) w → Calls Tryd.prog 9 #[h.v, .int .i64 n] w fun e w' => e = .returned (ixRes K N true) ∧ Below w.heap.size w w') (hrx : ∀ w, @FcAt (fcV W h g) w → Calls Tryd.prog 10 #[h.v, .int .i64 n] w fun e w' => e = .returned (ixRes K N true) ∧ Below w.heap.size w w') (hA : rightW 40 W h = false) (hS : sameW 40 W h g = false) : Calls Tryd.prog 3 #[h.v, g.v, .int .i64 n] W fun e w' => e = .returned (.bool true) ∧ Below W.heap.size W w' := by
  letI fc : FC := fcV W h g
  have hd : deepB 40 W h = true := deep_of_count (by omega) (of_decide_eq_true hs1)
  exact @ex_valG (fcV W h g) _ ((kgOr (gk knR) ((kgOr (kgSel (kgAt 8 [h.v] (.v (.bool true))) (kgAt 8 [g.v] (.v (.bool true)))) ((kgOr (kgAt 9 [h.v, .int .i64 n] (.t [.g [.y (.int .i64 K), .y (.int .i64 N), .v (.int .i64 0), .v (.slice none 0 0)], .v (.bool true)])) ((kgOr (kgAt 10 [h.v, .int .i64 n] (.t [.g [.y (.int .i64 K), .y (.int .i64 N), .v (.int .i64 0), .v (.slice none 0 0)], .v (.bool true)])) ((kgOr (kgAt 11 [h.v] (.v (.bool false))) ((kgOr (kgAt 12 [h.v] (.v (.bool false))) ((kgOr (kgAt 13 [h.v, g.v] (.v (.bool false))) ((kgOr (kgIf (kgAt 14 [h.v, g.v] (.v (.bool false)))) ((kgOr (kgAt 15 [h.v] (.y (.string (showW 40 W h)))) (kgAt 16 [h.v] (.y (.string (showW 40 W h)))))))))))))))))))))) ((kgOr_ok (gk_ok knR_ok) ((kgOr_ok (kgSel_ok (smallTab1 kv hs1) (smallTab2 kw hs2)) ((kgOr_ok (ixTab hix) ((kgOr_ok (ixTab hrx) ((kgOr_ok (rightTab _ hA) ((kgOr_ok (rrightTab _ hA) ((kgOr_ok (psameTab kv kw hd hS) ((kgOr_ok (kgIf_ok (rsameTab kv kw hd hS)) ((kgOr_ok (pshowTab kv hd hT) (rshowTab kv hd hT))))))))))))))))))) 100000 _ _ [argV h, argV g, .y (.int .i64 n)] [.bool true, .bool false, .bool true, .bool true, .bool true, .bool true, .bool false, .bool false, .bool true, .bool true, .bool true, .bool true, .bool true, .bool false, .bool true] _ [(.bool (rnd n == rnd n), .bool true), (.bool (rnd n != rnd n), .bool false), (.bool (rnd n == rnd n), .bool true), (.bool (rnd n == rnd n), .bool true), (.bool (rnd n == rnd n), .bool true), (.bool (rnd n == rnd n), .bool true), (.bool (rnd n == rnd n), .bool true), (.bool (N != N), .bool false), (.bool (K != K), .bool false), (.bool ((showW 40 W h).toList == (showW 40 W h).toList), .bool true), (.bool ((showW 40 W h).toList == (showW 40 W h).toList), .bool true), (.bool ((showW 40 W h).toList == (showW 40 W h).toList), .bool true), (.bool ((showW 40 W h).toList == (showW 40 W h).toList), .bool true), (h.v, h.v), (h.v, h.v), (h.v, h.v), (g.v, g.v), (h.v, h.v), (g.v, g.v), (h.v, h.v), (h.v, h.v), (h.v, h.v), (.int .i64 n, .int .i64 n), (h.v, h.v), (.int .i64 n, .int .i64 n), (g.v, g.v), (h.v, h.v)] W (by kernel_rfl) (by simp [denL, den, argV, VH.v]) (by simp [bdL, bd, argV]) (AllT.cons (congrArg Value.bool (by simp)) (AllT.cons (congrArg Value.bool (by simp)) (AllT.cons (congrArg Value.bool (by simp)) (AllT.cons (congrArg Value.bool (by simp)) (AllT.cons (congrArg Value.bool (by simp)) (AllT.cons (congrArg Value.bool (by simp)) (AllT.cons (congrArg Value.bool (by simp)) (AllT.cons (congrArg Value.bool (by simp)) (AllT.cons (congrArg Value.bool (by simp)) (AllT.cons (congrArg Value.bool (by simp)) (AllT.cons (congrArg Value.bool (by simp)) (AllT.cons (congrArg Value.bool (by simp)) (AllT.cons (congrArg Value.bool (by simp)) (AllT.cons (rfl) (AllT.cons (rfl) (AllT.cons (rfl) (AllT.cons (rfl) (AllT.cons (rfl) (AllT.cons (rfl) (AllT.cons (rfl) (AllT.cons (rfl) (AllT.cons (rfl) (AllT.cons (rfl) (AllT.cons (rfl) (AllT.cons (rfl) (AllT.cons (rfl) (AllT.cons (rfl) (AllT.nil)))))))))))))))))))))))))))) (fcV_at kv kw)
set_option maxHeartbeats 8000000 in
theorem vm_fff {W : World} {n : Int} {h g : VH} (kv : VT 40 W h) (kw : VT 40 W g) (hT : TabP W) (hs1 : decide (countW 40 W h 60 ≤ 60) = true) (hs2 : decide (countW 40 W g 60 ≤ 60) = true) {K N : Int} (hix : ∀ w, @FcAt (fcV W h g) w → Calls Tryd.prog 9 #[h.v, .int .i64 n] w fun e w' => e = .returned (ixRes K N false) ∧ Below w.heap.size w w') (hrx : ∀ w, @FcAt (fcV W h g) w → Calls Tryd.prog 10 #[h.v, .int .i64 n] w fun e w' => e = .returned (ixRes K N false) ∧ Below w.heap.size w w') (hA : rightW 40 W h = false) (hS : sameW 40 W h g = false) : Calls Tryd.prog 3 #[h.v, g.v, .int .i64 n] W fun e w' => e = .returned (.bool true) ∧ Below W.heap.size W w' := by
  letI fc : FC := fcV W h g
  have hd : deepB 40 W h = true := deep_of_count (by omega) (of_decide_eq_true hs1)
  exact @ex_valG (fcV W h g) _ ((kgOr (gk knR) ((kgOr (kgSel (kgAt 8 [h.v] (.v (.bool true))) (kgAt 8 [g.v] (.v (.bool true)))) ((kgOr (kgAt 9 [h.v, .int .i64 n] (.t [.g [.y (.int .i64 K), .y (.int .i64 N), .v (.int .i64 0), .v (.slice none 0 0)], .v (.bool false)])) ((kgOr (kgAt 10 [h.v, .int .i64 n] (.t [.g [.y (.int .i64 K), .y (.int .i64 N), .v (.int .i64 0), .v (.slice none 0 0)], .v (.bool false)])) ((kgOr (kgAt 11 [h.v] (.v (.bool false))) ((kgOr (kgAt 12 [h.v] (.v (.bool false))) ((kgOr (kgAt 13 [h.v, g.v] (.v (.bool false))) ((kgOr (kgIf (kgAt 14 [h.v, g.v] (.v (.bool false)))) ((kgOr (kgAt 15 [h.v] (.y (.string (showW 40 W h)))) (kgAt 16 [h.v] (.y (.string (showW 40 W h)))))))))))))))))))))) ((kgOr_ok (gk_ok knR_ok) ((kgOr_ok (kgSel_ok (smallTab1 kv hs1) (smallTab2 kw hs2)) ((kgOr_ok (ixTab hix) ((kgOr_ok (ixTab hrx) ((kgOr_ok (rightTab _ hA) ((kgOr_ok (rrightTab _ hA) ((kgOr_ok (psameTab kv kw hd hS) ((kgOr_ok (kgIf_ok (rsameTab kv kw hd hS)) ((kgOr_ok (pshowTab kv hd hT) (rshowTab kv hd hT))))))))))))))))))) 100000 _ _ [argV h, argV g, .y (.int .i64 n)] [.bool true, .bool false, .bool true, .bool true, .bool true, .bool true, .bool false, .bool false, .bool true, .bool true, .bool true, .bool true, .bool true, .bool false, .bool true] _ [(.bool (rnd n == rnd n), .bool true), (.bool (rnd n != rnd n), .bool false), (.bool (rnd n == rnd n), .bool true), (.bool (rnd n == rnd n), .bool true), (.bool (rnd n == rnd n), .bool true), (.bool (rnd n == rnd n), .bool true), (.bool (rnd n == rnd n), .bool true), (.bool (N != N), .bool false), (.bool (K != K), .bool false), (.bool ((showW 40 W h).toList == (showW 40 W h).toList), .bool true), (.bool ((showW 40 W h).toList == (showW 40 W h).toList), .bool true), (.bool ((showW 40 W h).toList == (showW 40 W h).toList), .bool true), (.bool ((showW 40 W h).toList == (showW 40 W h).toList), .bool true), (h.v, h.v), (h.v, h.v), (h.v, h.v), (g.v, g.v), (h.v, h.v), (g.v, g.v), (h.v, h.v), (h.v, h.v), (h.v, h.v), (.int .i64 n, .int .i64 n), (h.v, h.v), (.int .i64 n, .int .i64 n), (g.v, g.v), (h.v, h.v)] W (by kernel_rfl) (by simp [denL, den, argV, VH.v]) (by simp [bdL, bd, argV]) (AllT.cons (congrArg Value.bool (by simp)) (AllT.cons (congrArg Value.bool (by simp)) (AllT.cons (congrArg Value.bool (by simp)) (AllT.cons (congrArg Value.bool (by simp)) (AllT.cons (congrArg Value.bool (by simp)) (AllT.cons (congrArg Value.bool (by simp)) (AllT.cons (congrArg Value.bool (by simp)) (AllT.cons (congrArg Value.bool (by simp)) (AllT.cons (congrArg Value.bool (by simp)) (AllT.cons (congrArg Value.bool (by simp)) (AllT.cons (congrArg Value.bool (by simp)) (AllT.cons (congrArg Value.bool (by simp)) (AllT.cons (congrArg Value.bool (by simp)) (AllT.cons (rfl) (AllT.cons (rfl) (AllT.cons (rfl) (AllT.cons (rfl) (AllT.cons (rfl) (AllT.cons (rfl) (AllT.cons (rfl) (AllT.cons (rfl) (AllT.cons (rfl) (AllT.cons (rfl) (AllT.cons (rfl) (AllT.cons (rfl) (AllT.cons (rfl) (AllT.cons (rfl) (AllT.nil)))))))))))))))))))))))))))) (fcV_at kv kw)
theorem vm_all (W : World) (n : Int) (h g : VH) (kv : VT 40 W h) (kw : VT 40 W g) (hT : TabP W) : Calls Tryd.prog 3 #[h.v, g.v, .int .i64 n] W fun e w' => e = .returned (.bool true) ∧ Below W.heap.size W w' := by
  cases hs1 : decide (countW 40 W h 60 ≤ 60) with
  | false => exact vm_s1 kv kw hs1
  | true =>
  cases hs2 : decide (countW 40 W g 60 ≤ 60) with
  | false => exact vm_s2 kv kw hs1 hs2
  | true =>
  obtain ⟨K, N, B, hix, hrx⟩ := index_both W h g n
  cases hA : rightW 40 W h <;> cases hS : sameW 40 W h g <;> cases B
  · exact vm_fff kv kw hT hs1 hs2 hix hrx hA hS
  · exact vm_fft kv kw hT hs1 hs2 hix hrx hA hS
  · exact vm_ftf kv kw hT hs1 hs2 hix hrx hA hS
  · exact vm_ftt kv kw hT hs1 hs2 hix hrx hA hS
  · exact vm_tff kv kw hT hs1 hs2 hix hrx hA hS
  · exact vm_tft kv kw hT hs1 hs2 hix hrx hA hS
  · exact vm_ttf kv kw hT hs1 hs2 hix hrx hA hS
  · exact vm_ttt kv kw hT hs1 hs2 hix hrx hA hS
end Go.Proofs.YtoijdnlplbeomaaDoor


/-
  Layer 8: numerals and what follows them: the text tells the number.
-/
namespace Go.Proofs.YtoijdnlplbeomaaDoor
open Go Go.RowKit
set_option linter.unusedVariables false
set_option linter.unusedSimpArgs false
def Dg (c : UInt8) : Prop := 48 ≤ c.toNat ∧ c.toNat ≤ 57
def ND (s : List UInt8) : Prop := ∀ c r, s = c :: r → ¬ Dg c
theorem dg_one {i : Nat} (h : i < 10) : (UInt8.ofNat (48 + i)).toNat = 48 + i := by
  rw [UInt8.toNat_ofNat']
  omega
theorem dec_all : ∀ (n u : Nat), u ≤ n → ∀ c ∈ Lib.decDigits u, Dg c
  | 0, u, h, c, hc => by
    have : u = 0 := by omega
    subst this
    rw [Lib.decDigits_one (by omega)] at hc
    simp only [List.mem_singleton] at hc
    subst hc
    have := dg_one (i := 0) (by omega)
    unfold Dg; omega
  | n + 1, u, h, c, hc => by
    by_cases hu : u < 10
    · rw [Lib.decDigits_one hu] at hc
      simp only [List.mem_singleton] at hc
      subst hc
      have := dg_one hu
      unfold Dg; omega
    · rw [Lib.decDigits, dif_neg hu] at hc
      rcases List.mem_append.1 hc with h1 | h1
      · exact dec_all n (u / 10) (by omega) c h1
      · simp only [List.mem_singleton] at h1
        subst h1
        have := dg_one (i := u % 10) (by omega)
        unfold Dg; omega
def valL (l : List UInt8) : Nat := l.foldl (fun a c => a * 10 + (c.toNat - 48)) 0
theorem val_dec : ∀ (n u : Nat), u ≤ n → valL (Lib.decDigits u) = u
  | 0, u, h => by
    have : u = 0 := by omega
    subst this
    rw [Lib.decDigits_one (by omega)]
    rfl
  | n + 1, u, h => by
    by_cases hu : u < 10
    · rw [Lib.decDigits_one hu]
      have := dg_one hu
      simp only [valL, List.foldl_cons, List.foldl_nil]
      omega
    · rw [Lib.decDigits, dif_neg hu]
      have ih := val_dec n (u / 10) (by omega)
      have := dg_one (i := u % 10) (by omega)
      unfold valL at ih ⊢
      rw [List.foldl_append, ih]
      simp only [List.foldl_cons, List.foldl_nil]
      omega
theorem cut_digits : ∀ {l m s t : List UInt8}, (∀ c ∈ l, Dg c) → (∀ c ∈ m, Dg c) → ND s → ND t → l ++ s = m ++ t → l = m ∧ s = t
  | [], [], s, t, _, _, _, _, h => ⟨rfl, h⟩
  | [], b :: m, s, t, _, hm, hs, _, h => absurd (hm b (by simp)) (hs b (m ++ t) (by simpa using h))
  | a :: l, [], s, t, hl, _, _, ht, h => absurd (hl a (by simp)) (ht a (l ++ s) (by simpa using h.symm))
  | a :: l, b :: m, s, t, hl, hm, hs, ht, h => by
    simp only [List.cons_append, List.cons.injEq] at h
    obtain ⟨h1, h2⟩ := cut_digits (fun c hc => hl c (List.mem_cons_of_mem _ hc)) (fun c hc => hm c (List.mem_cons_of_mem _ hc)) hs ht h.2
    exact ⟨by rw [h.1, h1], h2⟩
theorem dec_cons (u : Nat) : ∃ c r, Lib.decDigits u = c :: r ∧ Dg c := by
  cases h : Lib.decDigits u with
  | nil =>
    have h1 := Lib.decDigits_length u
    have h2 := Lib.nDigits_pos u
    rw [h] at h1
    simp at h1
    omega
  | cons c r => exact ⟨c, r, rfl, dec_all u u (Nat.le_refl _) c (by rw [h]; simp)⟩
theorem itoa_neg {n : Int} (h : n < 0) : Lib.itoa n = 45 :: Lib.decDigits n.natAbs := by
  unfold Lib.itoa; rw [if_pos h]
theorem itoa_pos {n : Int} (h : ¬ n < 0) : Lib.itoa n = Lib.decDigits n.natAbs := by
  have e : n.toNat = n.natAbs := by omega
  unfold Lib.itoa; rw [if_neg h, e]
theorem num_inj {n m : Int} {s t : List UInt8} (hs : ND s) (ht : ND t) (h : Lib.itoa n ++ s = Lib.itoa m ++ t) : n = m ∧ s = t := by
  have core : ∀ {a b : Nat}, Lib.decDigits a ++ s = Lib.decDigits b ++ t → a = b ∧ s = t := fun {a b} e => by
    obtain ⟨h1, h2⟩ := cut_digits (dec_all a a (Nat.le_refl _)) (dec_all b b (Nat.le_refl _)) hs ht e
    have := congrArg valL h1
    rw [val_dec a a (Nat.le_refl _), val_dec b b (Nat.le_refl _)] at this
    exact ⟨this, h2⟩
  have no : ∀ {a : Nat} {l r : List UInt8}, (45 : UInt8) :: l = Lib.decDigits a ++ r → False := fun {a l r} e => by
    obtain ⟨c, q, e1, hc⟩ := dec_cons a
    rw [e1] at e
    simp only [List.cons_append, List.cons.injEq] at e
    rw [← e.1] at hc
    unfold Dg at hc
    have : (45 : UInt8).toNat = 45 := rfl
    omega
  by_cases h1 : n < 0
  · by_cases h2 : m < 0
    · rw [itoa_neg h1, itoa_neg h2] at h
      simp only [List.cons_append, List.cons.injEq, true_and] at h
      obtain ⟨e, e2⟩ := core h
      exact ⟨by omega, e2⟩
    · rw [itoa_neg h1, itoa_pos h2] at h
      exact (no h).elim
  · by_cases h2 : m < 0
    · rw [itoa_pos h1, itoa_neg h2] at h
      exact (no h.symm).elim
    · rw [itoa_pos h1, itoa_pos h2] at h
      obtain ⟨e, e2⟩ := core h
      exact ⟨by omega, e2⟩
theorem itoa_cons (n : Int) : ∃ c r, Lib.itoa n = c :: r ∧ (c = 45 ∨ Dg c) := by
  by_cases h : n < 0
  · exact ⟨_, _, itoa_neg h, Or.inl rfl⟩
  · obtain ⟨c, r, e, hc⟩ := dec_cons n.natAbs
    exact ⟨c, r, by rw [itoa_pos h, e], Or.inr hc⟩
end Go.Proofs.YtoijdnlplbeomaaDoor


/-
  Layer 8: the text of a valid plain value tells the value.
-/
namespace Go.Proofs.YtoijdnlplbeomaaDoor
open Go Go.RowKit
set_option maxRecDepth 100000
set_option linter.unusedVariables false
set_option linter.unusedSimpArgs false
def plainW : Nat → World → VH → Bool
  | 0, _, _ => false
  | d + 1, w, h => (h.k != 9) && okFrom (fun i => plainW d w (h.kid w i)) h.len 0
theorem plainW_below {w w' : World} (hb : Below w.heap.size w w') : ∀ {d : Nat} {h : VH}, VT d w h → plainW d w' h = plainW d w h
  | 0, _, _ => rfl
  | d + 1, h, hv => by
    unfold plainW
    congr 1
    refine okFrom_congr fun i _ hi => ?_
    obtain ⟨e, hk⟩ := kid_below hb hv (i := i) (by omega)
    rw [e]
    exact plainW_below hb hk
def sL (d : Nat) (w : World) (h : VH) : List UInt8 := (showW d w h).data.toList
theorem sL_1 {d : Nat} {w : World} {h : VH} (hk : h.k = 1) : sL (d + 1) w h = Lib.itoa h.n := by simp [sL, showW, hk, numB]
theorem sL_2f {d : Nat} {w : World} {h : VH} (hk : h.k = 2) (hn : h.n = 0) : sL (d + 1) w h = [102, 97, 108, 115, 101] := by simp [sL, showW, hk, hn, bFalse]
theorem sL_2t {d : Nat} {w : World} {h : VH} (hk : h.k = 2) (hn : h.n = 1) : sL (d + 1) w h = [116, 114, 117, 101] := by simp [sL, showW, hk, hn, bTrue]
theorem sL_3 {d : Nat} {w : World} {h : VH} (hk : h.k = 3) : sL (d + 1) w h = [40, 41] := by simp [sL, showW, hk, bUnit]
theorem sL_4 {d : Nat} {w : World} {h : VH} (hk : h.k = 4) : sL (d + 1) w h = 64 :: Lib.itoa h.n := by simp [sL, showW, hk, bAt, numB]
theorem sL_5 {d : Nat} {w : World} {h : VH} (hk : h.k = 5) : sL (d + 1) w h = 64 :: (Lib.itoa h.n ++ 35 :: Lib.itoa h.m) := by simp [sL, showW, hk, bAt, bHash, numB]
theorem sL_7 {d : Nat} {w : World} {h : VH} (hk : h.k = 7) : sL (d + 1) w h = [78, 111, 110, 101] := by simp [sL, showW, hk, bNone]
theorem sL_6 {d : Nat} {w : World} {h : VH} (hk : h.k = 6) (hl : h.len = 2) : sL (d + 1) w h = 40 :: (sL d w (h.kid w 0) ++ 44 :: 32 :: (sL d w (h.kid w 1) ++ [41])) := by simp [sL, showW, hk, hl, bLP, bComma, bRP]
theorem sL_8t {d : Nat} {w : World} {h : VH} (hk : h.k = 8) (hl : h.len = 1) (h8 : (h.kid w 0).k = 8) : sL (d + 1) w h = 83 :: 111 :: 109 :: 101 :: 32 :: 40 :: (sL d w (h.kid w 0) ++ [41]) := by simp [sL, showW, hk, hl, h8, bSomeP, bRP]
theorem sL_8f {d : Nat} {w : World} {h : VH} (hk : h.k = 8) (hl : h.len = 1) (h8 : (h.kid w 0).k ≠ 8) : sL (d + 1) w h = 83 :: 111 :: 109 :: 101 :: 32 :: sL d w (h.kid w 0) := by simp [sL, showW, hk, hl, h8, bSome]
def Form (h : VH) : Prop := (h.k = 1 ∧ h.m = 0 ∧ h.len = 0) ∨ (h.k = 2 ∧ h.m = 0 ∧ h.len = 0 ∧ (h.n = 0 ∨ h.n = 1)) ∨ (h.k = 3 ∧ h.m = 0 ∧ h.len = 0 ∧ h.n = 0) ∨ (h.k = 4 ∧ h.m = 0 ∧ h.len = 0) ∨ (h.k = 5 ∧ h.len = 0) ∨ (h.k = 6 ∧ h.m = 0 ∧ h.n = 0 ∧ h.len = 2) ∨ (h.k = 7 ∧ h.m = 0 ∧ h.n = 0 ∧ h.len = 0) ∨ (h.k = 8 ∧ h.m = 0 ∧ h.n = 0 ∧ h.len = 1)
theorem own_form {h : VH} (ho : ownB h = true) (h9 : h.k ≠ 9) : Form h := by
  obtain ⟨k, n, m, a, l, c⟩ := h
  simp only [Form]
  simp only at h9
  unfold ownB at ho
  simp only at ho
  by_cases e5 : k = 5
  · subst e5; simp at ho; omega
  by_cases em : m = 0
  · subst em
    by_cases e1 : k = 1
    · subst e1; simp at ho; omega
    by_cases e2 : k = 2
    · subst e2; simp at ho; omega
    by_cases e3 : k = 3
    · subst e3; simp at ho; omega
    by_cases e7 : k = 7
    · subst e7; simp at ho; omega
    by_cases e4 : k = 4
    · subst e4; simp at ho; omega
    by_cases e6 : k = 6
    · subst e6; simp at ho; omega
    by_cases e8 : k = 8
    · subst e8; simp at ho; omega
    · simp [e5, e1, e2, e3, e7, e4, e6, e8, h9] at ho
  · simp [e5, em] at ho
def Hc (k : Int) (c : UInt8) : Prop := (k = 1 ∧ (c.toNat = 45 ∨ (48 ≤ c.toNat ∧ c.toNat ≤ 57))) ∨ (k = 2 ∧ (c.toNat = 102 ∨ c.toNat = 116)) ∨ (k = 3 ∧ c.toNat = 40) ∨ (k = 4 ∧ c.toNat = 64) ∨ (k = 5 ∧ c.toNat = 64) ∨ (k = 6 ∧ c.toNat = 40) ∨ (k = 7 ∧ c.toNat = 78) ∨ (k = 8 ∧ c.toNat = 83)
theorem hc_kind {k k' : Int} {c : UInt8} (h : Hc k c) (g : Hc k' c) : k = k' ∨ (k = 3 ∧ k' = 6) ∨ (k = 6 ∧ k' = 3) ∨ (k = 4 ∧ k' = 5) ∨ (k = 5 ∧ k' = 4) := by
  unfold Hc at h g
  omega
theorem head_of {d : Nat} {w : World} {h : VH} (f : Form h) : ∃ c r, sL (d + 1) w h = c :: r ∧ Hc h.k c := by
  rcases f with ⟨hk, _⟩ | ⟨hk, _, _, hn | hn⟩ | ⟨hk, _⟩ | ⟨hk, _⟩ | ⟨hk, _⟩ | ⟨hk, _, _, hl⟩ | ⟨hk, _⟩ | ⟨hk, _, _, hl⟩
  · obtain ⟨c, r, e, hc⟩ := itoa_cons h.n
    refine ⟨c, r, by rw [sL_1 hk, e], Or.inl ⟨hk, ?_⟩⟩
    rcases hc with rfl | hc
    · exact Or.inl rfl
    · exact Or.inr hc
  · exact ⟨_, _, sL_2f hk hn, Or.inr (Or.inl ⟨hk, Or.inl rfl⟩)⟩
  · exact ⟨_, _, sL_2t hk hn, Or.inr (Or.inl ⟨hk, Or.inr rfl⟩)⟩
  · exact ⟨_, _, sL_3 hk, Or.inr (Or.inr (Or.inl ⟨hk, rfl⟩))⟩
  · exact ⟨_, _, sL_4 hk, Or.inr (Or.inr (Or.inr (Or.inl ⟨hk, rfl⟩)))⟩
  · exact ⟨_, _, sL_5 hk, Or.inr (Or.inr (Or.inr (Or.inr (Or.inl ⟨hk, rfl⟩))))⟩
  · exact ⟨_, _, sL_6 hk hl, Or.inr (Or.inr (Or.inr (Or.inr (Or.inr (Or.inl ⟨hk, rfl⟩)))))⟩
  · exact ⟨_, _, sL_7 hk, Or.inr (Or.inr (Or.inr (Or.inr (Or.inr (Or.inr (Or.inl ⟨hk, rfl⟩))))))⟩
  · by_cases h8 : (h.kid w 0).k = 8
    · exact ⟨_, _, sL_8t hk hl h8, Or.inr (Or.inr (Or.inr (Or.inr (Or.inr (Or.inr (Or.inr ⟨hk, rfl⟩))))))⟩
    · exact ⟨_, _, sL_8f hk hl h8, Or.inr (Or.inr (Or.inr (Or.inr (Or.inr (Or.inr (Or.inr ⟨hk, rfl⟩))))))⟩
/-- What may follow a value: nothing, a comma, a closing parenthesis. -/
def Dl (s : List UInt8) : Prop := s = [] ∨ (∃ r, s = 44 :: r) ∨ ∃ r, s = 41 :: r
theorem Dl.nd {s : List UInt8} (h : Dl s) : ND s := by
  intro c r e hc
  unfold Dg at hc
  rcases h with rfl | ⟨q, rfl⟩ | ⟨q, rfl⟩
  · cases e
  · simp only [List.cons.injEq] at e
    rw [← e.1] at hc
    have : (44 : UInt8).toNat = 44 := rfl
    omega
  · simp only [List.cons.injEq] at e
    rw [← e.1] at hc
    have : (41 : UInt8).toNat = 41 := rfl
    omega
theorem nd_hash (r : List UInt8) : ND (35 :: r) := by
  intro c q e hc
  unfold Dg at hc
  simp only [List.cons.injEq] at e
  rw [← e.1] at hc
  have : (35 : UInt8).toNat = 35 := rfl
  omega
theorem dl_hash {r : List UInt8} (h : Dl (35 :: r)) : False := by
  rcases h with h | ⟨q, h⟩ | ⟨q, h⟩
  · cases h
  · simp at h
  · simp at h
theorem same_flat {d : Nat} {w : World} {h g : VH} (h1 : h.k = g.k) (h2 : h.n = g.n) (h3 : h.m = g.m) (h4 : h.len = 0) (h5 : g.len = 0) : sameW (d + 1) w h g = true := by
  unfold sameW
  rw [headEq_iff.2 ⟨h1, h2, h3, h4.trans h5.symm⟩, h4]
  rfl
theorem right_kid {d : Nat} {w : World} {h : VH} (hr : rightW (d + 1) w h = true) {i : Nat} (hi : i < h.len) : rightW d w (h.kid w i) = true := by
  unfold rightW at hr
  rw [Bool.and_eq_true] at hr
  exact List.all_eq_true.1 hr.2 i (List.mem_range.2 hi)
theorem plain_kid {d : Nat} {w : World} {h : VH} (hr : plainW (d + 1) w h = true) {i : Nat} (hi : i < h.len) : plainW d w (h.kid w i) = true := by
  unfold plainW at hr
  rw [Bool.and_eq_true] at hr
  exact (okFrom_iff _ _ _).1 hr.2 i (Nat.zero_le _) (by omega)
theorem form_of {d : Nat} {w : World} {h : VH} (hr : rightW (d + 1) w h = true) (hp : plainW (d + 1) w h = true) : Form h := by
  unfold rightW at hr
  unfold plainW at hp
  rw [Bool.and_eq_true] at hr hp
  exact own_form hr.1 (by simpa using hp.1)
theorem inj (w : World) : ∀ (n d e : Nat), d + e ≤ n → ∀ (h g : VH) (s t : List UInt8), rightW d w h = true → rightW e w g = true → plainW d w h = true → plainW e w g = true → Dl s → Dl t → sL d w h ++ s = sL e w g ++ t → sameW d w h g = true ∧ s = t
  | n, 0, e, _, h, g, s, t, hr, _, _, _, _, _, _ => by cases hr
  | n, d + 1, 0, _, h, g, s, t, _, gr, _, _, _, _, _ => by cases gr
  | 0, d + 1, e + 1, hn, h, g, s, t, _, _, _, _, _, _, _ => by omega
  | n + 1, d + 1, e + 1, hn, h, g, s, t, hr, gr, hp, gp, hs, ht, he => by
    have fh := form_of hr hp
    have fg := form_of gr gp
    obtain ⟨c1, r1, e1, k1⟩ := head_of (d := d) (w := w) fh
    obtain ⟨c2, r2, e2, k2⟩ := head_of (d := e) (w := w) fg
    have hc : c1 = c2 := by
      rw [e1, e2] at he
      simp only [List.cons_append, List.cons.injEq] at he
      exact he.1
    subst hc
    have kk := hc_kind k1 k2
    -- a unit against a pair
    have no36 : ∀ {x : VH} {f : Nat} {u v : List UInt8}, Form x → (41 : UInt8) :: u = sL (f + 1) w x ++ v → False := fun {x f u v} fx ex => by
      obtain ⟨c, r, e3, k3⟩ := head_of (d := f) (w := w) fx
      rw [e3] at ex
      simp only [List.cons_append, List.cons.injEq] at ex
      rw [← ex.1] at k3
      unfold Hc at k3
      have : (41 : UInt8).toNat = 41 := rfl
      omega
    have sub : ∀ {f : Nat} {x : VH} {i : Nat}, rightW (f + 1) w x = true → plainW (f + 1) w x = true → i < x.len → ∃ f', f = f' + 1 ∧ Form (x.kid w i) := fun {f x i} a b c => by
      have a' := right_kid a c
      have b' := plain_kid b c
      cases f with
      | zero => cases a'
      | succ f => exact ⟨f, rfl, form_of a' b'⟩
    have sameKids : h.k = g.k → h.n = g.n → h.m = g.m → h.len = g.len → (∀ i, i < h.len → sameW d w (h.kid w i) (g.kid w i) = true) → sameW (d + 1) w h g = true := fun a1 a2 a3 a4 a5 => by
      unfold sameW
      rw [headEq_iff.2 ⟨a1, a2, a3, a4⟩, Bool.true_and]
      exact (okFrom_iff _ _ _).2 fun j _ hj => a5 j (by omega)
    have fh' := fh
    have fg' := fg
    rcases fh with ⟨hk, hm, hl⟩ | ⟨hk, hm, hl, hq⟩ | ⟨hk, hm, hl, hq⟩ | ⟨hk, hm, hl⟩ | ⟨hk, hl⟩ | ⟨hk, hm, hq, hl⟩ | ⟨hk, hm, hq, hl⟩ | ⟨hk, hm, hq, hl⟩
    · -- integers
      have gk : g.k = 1 := by omega
      have gf : g.m = 0 ∧ g.len = 0 := by unfold Form at fg; omega
      rw [sL_1 hk, sL_1 gk] at he
      obtain ⟨q1, q2⟩ := num_inj hs.nd ht.nd he
      exact ⟨same_flat (by omega) q1 (by omega) hl gf.2, q2⟩
    · -- truth values
      have gk : g.k = 2 := by omega
      have gf : g.m = 0 ∧ g.len = 0 ∧ (g.n = 0 ∨ g.n = 1) := by unfold Form at fg; omega
      rcases hq with hq | hq <;> rcases gf.2.2 with gq | gq
      · rw [sL_2f hk hq, sL_2f gk gq] at he
        exact ⟨same_flat (by omega) (by omega) (by omega) hl gf.2.1, by simpa using he⟩
      · rw [sL_2f hk hq, sL_2t gk gq] at he
        simp at he
      · rw [sL_2t hk hq, sL_2f gk gq] at he
        simp at he
      · rw [sL_2t hk hq, sL_2t gk gq] at he
        exact ⟨same_flat (by omega) (by omega) (by omega) hl gf.2.1, by simpa using he⟩
    · -- the unit
      by_cases gk : g.k = 3
      · have gf : g.m = 0 ∧ g.len = 0 ∧ g.n = 0 := by unfold Form at fg; omega
        rw [sL_3 hk, sL_3 gk] at he
        exact ⟨same_flat (by omega) (by omega) (by omega) hl gf.2.1, by simpa using he⟩
      · have gk6 : g.k = 6 := by omega
        have gl : g.len = 2 := by unfold Form at fg; omega
        obtain ⟨f', rfl, fx⟩ := sub (i := 0) gr gp (by omega)
        rw [sL_3 hk, sL_6 gk6 gl] at he
        simp only [List.cons_append, List.nil_append, List.cons.injEq, true_and, List.append_assoc] at he
        exact (no36 fx he).elim
    · -- references
      by_cases gk : g.k = 4
      · have gf : g.m = 0 ∧ g.len = 0 := by unfold Form at fg; omega
        rw [sL_4 hk, sL_4 gk] at he
        simp only [List.cons_append, List.cons.injEq, true_and] at he
        obtain ⟨q1, q2⟩ := num_inj hs.nd ht.nd he
        exact ⟨same_flat (by omega) q1 (by omega) hl gf.2, q2⟩
      · have gk5 : g.k = 5 := by omega
        rw [sL_4 hk, sL_5 gk5] at he
        simp only [List.cons_append, List.cons.injEq, true_and, List.append_assoc] at he
        obtain ⟨q1, q2⟩ := num_inj hs.nd (nd_hash _) he
        rw [q2] at hs
        exact (dl_hash hs).elim
    · -- arrays
      by_cases gk : g.k = 5
      · have gf : g.len = 0 := by unfold Form at fg; omega
        rw [sL_5 hk, sL_5 gk] at he
        simp only [List.cons_append, List.cons.injEq, true_and, List.append_assoc] at he
        obtain ⟨q1, q2⟩ := num_inj (nd_hash _) (nd_hash _) he
        simp only [List.cons.injEq, true_and] at q2
        obtain ⟨q3, q4⟩ := num_inj hs.nd ht.nd q2
        exact ⟨same_flat (by omega) q1 q3 hl gf, q4⟩
      · have gk4 : g.k = 4 := by omega
        rw [sL_5 hk, sL_4 gk4] at he
        simp only [List.cons_append, List.cons.injEq, true_and, List.append_assoc] at he
        obtain ⟨q1, q2⟩ := num_inj (nd_hash _) ht.nd he
        rw [← q2] at ht
        exact (dl_hash ht).elim
    · -- pairs
      by_cases gk : g.k = 6
      · have gf : g.m = 0 ∧ g.n = 0 ∧ g.len = 2 := by unfold Form at fg; omega
        rw [sL_6 hk hl, sL_6 gk gf.2.2] at he
        simp only [List.cons_append, List.cons.injEq, true_and, List.append_assoc, List.nil_append] at he
        obtain ⟨a1, a2⟩ := inj w n d e (by omega) (h.kid w 0) (g.kid w 0) _ _ (right_kid hr (by omega)) (right_kid gr (by omega)) (plain_kid hp (by omega)) (plain_kid gp (by omega)) (Or.inr (Or.inl ⟨_, rfl⟩)) (Or.inr (Or.inl ⟨_, rfl⟩)) he
        simp only [List.cons.injEq, true_and] at a2
        obtain ⟨b1, b2⟩ := inj w n d e (by omega) (h.kid w 1) (g.kid w 1) _ _ (right_kid hr (by omega)) (right_kid gr (by omega)) (plain_kid hp (by omega)) (plain_kid gp (by omega)) (Or.inr (Or.inr ⟨_, rfl⟩)) (Or.inr (Or.inr ⟨_, rfl⟩)) a2
        simp only [List.cons.injEq, true_and] at b2
        refine ⟨sameKids (by omega) (by omega) (by omega) (by omega) fun i hi => ?_, b2⟩
        match i, hi with
        | 0, _ => exact a1
        | 1, _ => exact b1
        | i + 2, hi => omega
      · have gk3 : g.k = 3 := by omega
        obtain ⟨f', rfl, fx⟩ := sub (i := 0) hr hp (by omega)
        rw [sL_6 hk hl, sL_3 gk3] at he
        simp only [List.cons_append, List.nil_append, List.cons.injEq, true_and, List.append_assoc] at he
        exact (no36 fx he.symm).elim
    · -- none
      have gk : g.k = 7 := by omega
      have gf : g.m = 0 ∧ g.n = 0 ∧ g.len = 0 := by unfold Form at fg; omega
      rw [sL_7 hk, sL_7 gk] at he
      exact ⟨same_flat (by omega) (by omega) (by omega) hl gf.2.2, by simpa using he⟩
    · -- some
      have gk : g.k = 8 := by omega
      have gf : g.m = 0 ∧ g.n = 0 ∧ g.len = 1 := by unfold Form at fg; omega
      have one : sameW d w (h.kid w 0) (g.kid w 0) = true → sameW (d + 1) w h g = true := fun a => sameKids (by omega) (by omega) (by omega) (by omega) fun i hi => by
        have : i = 0 := by omega
        subst this
        exact a
      -- a parenthesis against none
      have mixed : ∀ {x y : VH} {fx fy : Nat} {u v : List UInt8}, fx + fy + 1 ≤ n → rightW fx w x = true → plainW fx w x = true → x.k = 8 → rightW fy w y = true → plainW fy w y = true → y.k ≠ 8 → 40 :: (sL fx w x ++ (41 :: u)) = sL fy w y ++ v → False := fun {x y fx fy u v} hx1 hx2 hx3 hx4 hy2 hy3 hy4 ex => by
        cases fx with
        | zero => cases hx2
        | succ fx =>
        cases fy with
        | zero => cases hy2
        | succ fy =>
        have ffx := form_of hx2 hx3
        have ffy := form_of hy2 hy3
        obtain ⟨c, r, e3, k3⟩ := head_of (d := fy) (w := w) ffy
        have hc40 : c = 40 := by
          rw [e3] at ex
          simp only [List.cons_append, List.cons.injEq] at ex
          exact ex.1.symm
        subst hc40
        have h40 : (40 : UInt8).toNat = 40 := rfl
        have : y.k = 3 ∨ y.k = 6 := by unfold Hc at k3; omega
        rcases this with y3 | y6
        · rw [sL_3 y3] at ex
          simp only [List.cons_append, List.nil_append, List.cons.injEq, true_and] at ex
          exact no36 ffx ex.symm
        · have yl : y.len = 2 := by unfold Form at ffy; omega
          rw [sL_6 y6 yl] at ex
          simp only [List.cons_append, List.nil_append, List.cons.injEq, true_and, List.append_assoc] at ex
          obtain ⟨_, a2⟩ := inj w n (fx + 1) fy (by omega) x (y.kid w 0) _ _ hx2 (right_kid hy2 (by omega)) hx3 (plain_kid hy3 (by omega)) (Or.inr (Or.inr ⟨_, rfl⟩)) (Or.inr (Or.inl ⟨_, rfl⟩)) ex
          simp at a2
      by_cases h8 : (h.kid w 0).k = 8 <;> by_cases g8 : (g.kid w 0).k = 8
      · rw [sL_8t hk hl h8, sL_8t gk gf.2.2 g8] at he
        simp only [List.cons_append, List.nil_append, List.cons.injEq, true_and, List.append_assoc] at he
        obtain ⟨a1, a2⟩ := inj w n d e (by omega) (h.kid w 0) (g.kid w 0) _ _ (right_kid hr (by omega)) (right_kid gr (by omega)) (plain_kid hp (by omega)) (plain_kid gp (by omega)) (Or.inr (Or.inr ⟨_, rfl⟩)) (Or.inr (Or.inr ⟨_, rfl⟩)) he
        simp only [List.cons.injEq, true_and] at a2
        exact ⟨one a1, a2⟩
      · rw [sL_8t hk hl h8, sL_8f gk gf.2.2 g8] at he
        simp only [List.cons_append, List.nil_append, List.cons.injEq, true_and, List.append_assoc] at he
        exact (mixed (by omega) (right_kid hr (by omega)) (plain_kid hp (by omega)) h8 (right_kid gr (by omega)) (plain_kid gp (by omega)) g8 he).elim
      · rw [sL_8f hk hl h8, sL_8t gk gf.2.2 g8] at he
        simp only [List.cons_append, List.nil_append, List.cons.injEq, true_and, List.append_assoc] at he
        exact (mixed (by omega) (right_kid gr (by omega)) (plain_kid gp (by omega)) g8 (right_kid hr (by omega)) (plain_kid hp (by omega)) h8 he.symm).elim
      · rw [sL_8f hk hl h8, sL_8f gk gf.2.2 g8] at he
        simp only [List.cons_append, List.nil_append, List.cons.injEq, true_and] at he
        obtain ⟨a1, a2⟩ := inj w n d e (by omega) (h.kid w 0) (g.kid w 0) _ _ (right_kid hr (by omega)) (right_kid gr (by omega)) (plain_kid hp (by omega)) (plain_kid gp (by omega)) hs ht he
        exact ⟨one a1, a2⟩
/-- Equal values have equal texts. -/
theorem same_show {w : World} : ∀ {d : Nat} {h g : VH}, sameW d w h g = true → showW d w h = showW d w g
  | 0, h, g, hs => by cases hs
  | d + 1, h, g, hs => by
    unfold sameW at hs
    rw [Bool.and_eq_true] at hs
    obtain ⟨q1, q2, q3, q4⟩ := headEq_iff.1 hs.1
    have kids : ∀ i, i < h.len → sameW d w (h.kid w i) (g.kid w i) = true := fun i hi => (okFrom_iff _ _ _).1 hs.2 i (Nat.zero_le _) (by omega)
    have kk : ∀ i, i < h.len → (h.kid w i).k = (g.kid w i).k := fun i hi => by
      have := kids i hi
      cases d with
      | zero => cases this
      | succ d =>
        unfold sameW at this
        rw [Bool.and_eq_true] at this
        exact (headEq_iff.1 this.1).1
    unfold showW
    rw [q1, q2, q3, q4]
    by_cases h6 : g.k = 6 ∧ g.len = 2
    · rw [if_pos h6, if_pos h6, same_show (kids 0 (by omega)), same_show (kids 1 (by omega))]
    · rw [if_neg h6, if_neg h6]
      by_cases h8 : g.k = 8 ∧ g.len = 1
      · rw [if_pos h8, if_pos h8, same_show (kids 0 (by omega)), kk 0 (by omega)]
      · rw [if_neg h8, if_neg h8]
theorem show_inj {w : World} {h g : VH} (hr : rightW 40 w h = true) (gr : rightW 40 w g = true) (hp : plainW 40 w h = true) (gp : plainW 40 w g = true) : (((showW 40 w h).toList == (showW 40 w g).toList) == sameW 40 w h g) = true := by
  cases hs : sameW 40 w h g with
  | true =>
    rw [same_show hs]
    simp
  | false =>
    have : ((showW 40 w h).toList == (showW 40 w g).toList) = false := by
      cases hb : ((showW 40 w h).toList == (showW 40 w g).toList) with
      | false => rfl
      | true =>
        have e : (showW 40 w h).toList = (showW 40 w g).toList := by simpa using hb
        have e2 : sL 40 w h ++ [] = sL 40 w g ++ [] := by
          unfold sL
          rw [List.append_nil, List.append_nil]
          rw [ByteArray.toList_eq, ByteArray.toList_eq] at e
          exact e
        have := (inj w 80 40 40 (by omega) h g [] [] hr gr hp gp (Or.inl rfl) (Or.inl rfl) e2).1
        rw [hs] at this
        cases this
    rw [this]
    rfl
end Go.Proofs.YtoijdnlplbeomaaDoor


/-
  Layer 8: Plain, as the reference decides it.
-/
namespace Go.Proofs.YtoijdnlplbeomaaDoor
open Go Go.RowKit EX
set_option maxRecDepth 100000
set_option linter.unusedVariables false
set_option linter.unusedSimpArgs false
set_option linter.unusedSectionVars false
abbrev plF : FuncId := 23
noncomputable def plK (h : VH) : List SX.It := kOf (@midF noFC Tryd.prog (gk knNone) 100000 20 (.run (fr0 plF Tryd.f23 [.g h.sv]) [.code (match (Tryd.f23).body with
  | some c => c
  | none => .skip)]) ⟨⟨.leaf, 0, []⟩, [.bool false], []⟩)
noncomputable def pltl (h : VH) (x : Int) : List (Nat × SV) := [(1, .p 0 0), (3, .y (.int .i64 x))]
def plkl (h : VH) : List (Nat × Bx) := [(0, ⟨24, h.sv, 0, false, []⟩)]
def plcs (W : World) (h : VH) (k : Nat) (x : Int) (b1 o1 : Nat) : List (Value × Value) := [((.agg #[.int .i64 (kidJ W h h 18 (tldR x 18)).k, .int .i64 (kidJ W h h 18 (tldR x 18)).n, .int .i64 (kidJ W h h 18 (tldR x 18)).m, .slice (kidJ W h h 18 (tldR x 18)).a (kidJ W h h 18 (tldR x 18)).len (kidJ W h h 18 (tldR x 18)).cap]), (h.kid W k).v), pq (decide (0 ≤ x ∧ x < ((h.len : Nat) : Int))) true, (.pointer (some ⟨b1, o1 + x.toNat * 4, none⟩), .pointer (some ⟨(fcS W h h 18).b (tldR x 18), (fcS W h h 18).o (tldR x 18), none⟩)), pq (decide (x < ((h.len : Nat) : Int))) true]
theorem plcs_ok {W : World} {h : VH} {k : Nat} {x : Int} {b1 o1 : Nat} (hx : x = (k : Int)) (hk : k < h.len) (e1 : h.a = some ⟨b1, o1, none⟩) : ∀ q ∈ plcs W h k x b1 o1, q.1 = q.2 := by
  subst hx
  intro q hq
  have k1 := kidJ_at W h h 18 18 k (by omega) hk
  rw [if_pos rfl] at k1
  simp only [plcs, k1, List.mem_cons, List.not_mem_nil, or_false] at hq
  rcases hq with rfl | rfl | rfl | rfl
  · rfl
  · exact congrArg Value.bool (decide_eq_true (by omega))
  · exact ptr_at (d := 18) (by omega) hk (by rw [if_pos rfl]) e1
  · exact congrArg Value.bool (decide_eq_true (by omega))
set_option maxHeartbeats 4000000 in
theorem pl_loop (d : Nat) (W : World) (h : VH) (hv : VT (d + 1) W h)
    (ih : ∀ k, k < h.len → ∀ w, Below W.heap.size W w → Calls Tryd.prog plF #[(h.kid W k).v] w fun e w' => e = .returned (.bool (plainW d W (h.kid W k))) ∧ Below w.heap.size w w') :
    ∀ (r k : Nat) (x : Int), x = (k : Int) → k + r = h.len → @EX.Good (fcS W h h 18) Tryd.prog W (bodyPostD Tryd.prog Tryd.f23 fun e w' => e = .returned (.bool (okFrom (fun i => plainW d W (h.kid W i)) r k)) ∧ Below W.heap.size W w') ⟨plF, 23, mkTr (pltl h x), []⟩ (.rnd (r + 1) (loopB (plK h)) :: (plK h).tail) ⟨⟨mkTr (plkl h), 1, []⟩, [], []⟩ := by
  letI fc : FC := fcS W h h 18
  intro r
  have hlen : h.len ≤ 9223372036854775807 := hv.ok.2.2.2.2
  induction r with
  | zero =>
    intro k x hx hk
    exact EX.Good.orc (cut_end (gk_ok knNone_ok) 100000 (v := .bool true) (cs := [pq (decide (x < ((h.len : Nat) : Int))) false]) (st := ⟨⟨mkTr (plkl h), 1, []⟩, [.bool false], []⟩) (by kernel_rfl) (by
      intro q hq
      simp only [List.mem_cons, List.not_mem_nil, or_false] at hq
      subst hq
      exact congrArg Value.bool (decide_eq_false (by omega))))
  | succ r ihr =>
    intro k x hx hk
    have hlt : k < h.len := by omega
    rcases hv.2 with q | ⟨b1, o1, e1, _⟩
    · omega
    have hfx : okFrom (fun i => plainW d W (h.kid W i)) (r + 1) k = (plainW d W (h.kid W k) && okFrom (fun i => plainW d W (h.kid W i)) r (k + 1)) := rfl
    have tab : ∀ b, plainW d W (h.kid W k) = b → KnGOk Tryd.prog (kgAt plF [(h.kid W k).v] (.v (.bool b))) := fun b hb => kgAt_ok (by simp [bd]) fun w hf => by
      have := ih k hlt w hf.1
      rw [hb] at this
      simpa [den] using this
    obtain ⟨hk0, hn0, hm0, ha0, hl0, hc0⟩ := h
    simp only at e1
    subst e1
    cases hb : plainW d W (VH.kid ⟨hk0, hn0, hm0, some ⟨b1, o1, none⟩, hl0, hc0⟩ W k) with
    | false =>
      rw [hfx, hb, Bool.false_and]
      exact EX.Good.orc (cut_end (tab false hb) 100000 (v := .bool false) (cs := plcs W ⟨hk0, hn0, hm0, some ⟨b1, o1, none⟩, hl0, hc0⟩ k x b1 o1) (st := ⟨⟨mkTr (plkl ⟨hk0, hn0, hm0, some ⟨b1, o1, none⟩, hl0, hc0⟩), 1, []⟩, [.bool true], []⟩) (by kernel_rfl) (plcs_ok hx hlt rfl))
    | true =>
      rw [hfx, hb, Bool.true_and]
      exact EX.Good.orc (cut_mid (tab true hb) 100000 37 (pltl ⟨hk0, hn0, hm0, some ⟨b1, o1, none⟩, hl0, hc0⟩ (IntKind.i64.wrap (x + 1))) (plkl ⟨hk0, hn0, hm0, some ⟨b1, o1, none⟩, hl0, hc0⟩) [0] (cs := plcs W ⟨hk0, hn0, hm0, some ⟨b1, o1, none⟩, hl0, hc0⟩ k x b1 o1) (st := ⟨⟨mkTr (plkl ⟨hk0, hn0, hm0, some ⟨b1, o1, none⟩, hl0, hc0⟩), 1, []⟩, [.bool true], []⟩) (by kernel_rfl) (plcs_ok hx hlt rfl) (by decide) (by kernel_rfl) (ihr (k + 1) (IntKind.i64.wrap (x + 1)) (by simp only at hlen hlt; rw [IntKind.wrap_i64]; omega) (by omega)))
theorem pl_is : ∀ (d : Nat), d ≤ 1000 → ∀ (W : World) (h : VH), VT d W h → deepB d W h = true → Calls Tryd.prog plF #[h.v] W fun e w' => e = .returned (.bool (plainW d W h)) ∧ Below W.heap.size W w'
  | 0, _, W, h, _, hd => by cases hd
  | d + 1, hd1, W, h, hv, hd => by
    have ha : ∀ [FC], denL (fun _ => (0, 0)) [.g h.sv] = [h.v] := by intro _; simp [denL, den, VH.sv, VH.v]
    have hb : ∀ [FC], bdL (fun _ => False) [.g h.sv] := by intro _; simp [bdL, bd, VH.sv]
    by_cases h9 : h.k = 9
    · have hs : plainW (d + 1) W h = false := by simp [plainW, h9]
      rw [hs]
      exact ex_valG (w := W) (gk_ok knNone_ok) 100000 [.g h.sv] [.bool true] [(.bool (h.k == 9), .bool true)] (by kernel_rfl) ha hb (by
        intro q hq
        simp only [List.mem_cons, List.not_mem_nil, or_false] at hq
        subst hq
        exact congrArg Value.bool (by simp; omega))
    have hs : plainW (d + 1) W h = okFrom (fun i => plainW d W (h.kid W i)) h.len 0 := by
      show ((h.k != 9) && okFrom (fun i => plainW d W (h.kid W i)) h.len 0) = _
      have : (h.k != 9) = true := by simpa using h9
      rw [this, Bool.true_and]
    rw [hs]
    by_cases hz : h.len = 0
    · have e0 : okFrom (fun i => plainW d W (h.kid W i)) h.len 0 = true := by rw [hz]; rfl
      rw [e0]
      exact ex_valG (w := W) (gk_ok knNone_ok) 100000 [.g h.sv] [.bool false, .bool false] [(.bool (decide ((0 : Int) < ((h.len : Nat) : Int))), .bool false), (.bool (h.k == 9), .bool false)] (by kernel_rfl) ha hb (by
        intro q hq
        simp only [List.mem_cons, List.not_mem_nil, or_false] at hq
        rcases hq with rfl | rfl
        all_goals exact congrArg Value.bool (by simp; omega))
    · letI fc : FC := fcS W h h 18
      have hfc : FcAt W := fcS_at 18 hv hv rfl hz (below_rfl W)
      refine cut_allA (fn := Tryd.f23) [.g h.sv] [.bool false] rfl rfl ha hb ?_ hfc
      refine cut_mid (f := plF) (nt := 23) (gk_ok knNone_ok) 100000 20 [(1, .p 0 0), (3, .v (.int .i64 0))] (plkl h) [0] (cs := [(.bool (h.k == 9), .bool false)]) (k1 := .code (.loop (loopB (plK h))) :: (plK h).tail) (by kernel_rfl) (by
        intro q hq
        simp only [List.mem_cons, List.not_mem_nil, or_false] at hq
        subst hq
        exact congrArg Value.bool (by simp; omega)) (by decide) (by kernel_rfl) ?_
      refine EX.Good.sub (tl' := pltl h 0) ?_ (by
        intro q hq
        simp only [pltl, List.mem_cons, List.not_mem_nil, or_false] at hq
        rcases hq with rfl | rfl
        all_goals exact ⟨_, rfl, fun _ => rfl, fun _ hx => by first | exact hx | simp [bd]⟩)
      refine EX.Good.loop (h.len + 1) ?_
      exact pl_loop d W h hv (fun k hk w hw => by
        obtain ⟨e1, k1⟩ := kid_below hw hv hk
        have := pl_is d (by omega) w (h.kid W k) (VT.below hw k1) (by rw [deepB_below hw k1]; exact deepB_kid hd hk)
        rw [plainW_below hw k1] at this
        exact this) h.len 0 0 rfl (by omega)
end Go.Proofs.YtoijdnlplbeomaaDoor


/-
  Layer 8: ValueShowIsInjective.
-/
namespace Go.Proofs.YtoijdnlplbeomaaDoor
open Go Go.RowKit EX
set_option maxRecDepth 100000
set_option linter.unusedVariables false
set_option linter.unusedSimpArgs false
set_option linter.unusedSectionVars false
theorem rr1 {W : World} {h g : VH} {b : Bool} (e : rightW 40 W h = b) : @KnGOk (fcV W h g) Tryd.prog (@kgAt (fcV W h g) 12 [h.v] (.v (.bool b))) := by
  letI fc : FC := fcV W h g
  exact kgAt_ok (by simp [bd]) fun w1 hf => by
    have := rr_is h w1 hf.1.2.1.1
    rw [hf.1.2.2.1.1, e] at this
    simpa [den] using this
theorem pl1 {W : World} {h g : VH} {b : Bool} (kv : VT 40 W h) (hd : deepB 40 W h = true) (e : plainW 40 W h = b) : @KnGOk (fcV W h g) Tryd.prog (@kgAt (fcV W h g) 23 [h.v] (.v (.bool b))) := by
  letI fc : FC := fcV W h g
  exact kgAt_ok (by simp [bd]) fun w1 hf => by
    have := pl_is 40 (by omega) w1 h hf.1.2.1.1 (by rw [deepB_below hf.1.1 kv]; exact hd)
    rw [plainW_below hf.1.1 kv, e] at this
    simpa [den] using this
theorem sh1 {W : World} {h g : VH} (kv : VT 40 W h) (hd : deepB 40 W h = true) (hT : TabP W) : @KnGOk (fcV W h g) Tryd.prog (@kgAt (fcV W h g) 15 [h.v] (.y (.string (showW 40 W h)))) := by
  letI fc : FC := fcV W h g
  exact kgAt_ok (by simp [bd]) fun w1 hf => by
    have := psh_is 40 (by omega) w1 h hf.1.2.1.1 (by rw [deepB_below hf.1.1 kv]; exact hd) (hT.below hf.1.1)
    rw [showW_below hf.1.1 kv] at this
    simpa [den] using this
theorem rr2 {W : World} {h g : VH} {b : Bool} (e : rightW 40 W g = b) : @KnGOk (fcV W h g) Tryd.prog (@kgAt (fcV W h g) 12 [g.v] (.v (.bool b))) := by
  letI fc : FC := fcV W h g
  exact kgAt_ok (by simp [bd]) fun w1 hf => by
    have := rr_is g w1 hf.1.2.1.2
    rw [hf.1.2.2.1.2.2.1, e] at this
    simpa [den] using this
theorem pl2 {W : World} {h g : VH} {b : Bool} (kv : VT 40 W g) (hd : deepB 40 W g = true) (e : plainW 40 W g = b) : @KnGOk (fcV W h g) Tryd.prog (@kgAt (fcV W h g) 23 [g.v] (.v (.bool b))) := by
  letI fc : FC := fcV W h g
  exact kgAt_ok (by simp [bd]) fun w1 hf => by
    have := pl_is 40 (by omega) w1 g hf.1.2.1.2 (by rw [deepB_below hf.1.1 kv]; exact hd)
    rw [plainW_below hf.1.1 kv, e] at this
    simpa [den] using this
theorem sh2 {W : World} {h g : VH} (kv : VT 40 W g) (hd : deepB 40 W g = true) (hT : TabP W) : @KnGOk (fcV W h g) Tryd.prog (@kgAt (fcV W h g) 15 [g.v] (.y (.string (showW 40 W g)))) := by
  letI fc : FC := fcV W h g
  exact kgAt_ok (by simp [bd]) fun w1 hf => by
    have := psh_is 40 (by omega) w1 g hf.1.2.1.2 (by rw [deepB_below hf.1.1 kv]; exact hd) (hT.below hf.1.1)
    rw [showW_below hf.1.1 kv] at this
    simpa [den] using this
theorem psameTabY {W : World} {h g : VH} (kv : VT 40 W h) (kw : VT 40 W g) (hd : deepB 40 W h = true) : @KnGOk (fcV W h g) Tryd.prog (@kgAt (fcV W h g) 13 [h.v, g.v] (.y (.bool (sameW 40 W h g)))) := by
  letI fc : FC := fcV W h g
  exact kgAt_ok (by simp [bd]) fun w1 hf => by
    have := psa_is 40 (by omega) w1 h g hf.1.2.1.1 hf.1.2.1.2 (by rw [deepB_below hf.1.1 kv]; exact hd)
    rw [sameW_below hf.1.1 kv kw] at this
    simpa [den] using this
set_option maxHeartbeats 8000000 in
theorem vi_0 {W : World} {h g : VH} (kv : VT 40 W h) (kw : VT 40 W g) (hs1 : decide (countW 40 W h 60 ≤ 60) = false) : Calls Tryd.prog 5 #[h.v, g.v] W fun e w' => e = .returned (.bool true) ∧ Below W.heap.size W w' := by
  letI fc : FC := fcV W h g
  exact @ex_valG (fcV W h g) _ ((kgOr (gk kn8) (kgSel (kgAt 8 [h.v] (.v (.bool false))) (kgAt 8 [h.v] (.v (.bool false)))))) ((kgOr_ok (gk_ok kn8F_ok) (kgSel_ok (smallTab1 kv hs1) (smallTab1 kv hs1)))) 100000 _ _ [argV h, argV g] [.bool true] _ [(h.v, h.v)] W (by kernel_rfl) (by simp [denL, den, argV, VH.v]) (by simp [bdL, bd, argV]) (AllT.cons (rfl) (AllT.nil)) (fcV_at kv kw)
set_option maxHeartbeats 8000000 in
theorem vi_1 {W : World} {h g : VH} (kv : VT 40 W h) (kw : VT 40 W g) (hs1 : decide (countW 40 W h 60 ≤ 60) = true) (hs2 : decide (countW 40 W g 60 ≤ 60) = false) : Calls Tryd.prog 5 #[h.v, g.v] W fun e w' => e = .returned (.bool true) ∧ Below W.heap.size W w' := by
  letI fc : FC := fcV W h g
  exact @ex_valG (fcV W h g) _ ((kgOr (gk kn8) (kgSel (kgAt 8 [h.v] (.v (.bool true))) (kgAt 8 [g.v] (.v (.bool false)))))) ((kgOr_ok (gk_ok kn8F_ok) (kgSel_ok (smallTab1 kv hs1) (smallTab2 kw hs2)))) 100000 _ _ [argV h, argV g] [.bool true, .bool false] _ [(g.v, g.v), (h.v, h.v)] W (by kernel_rfl) (by simp [denL, den, argV, VH.v]) (by simp [bdL, bd, argV]) (AllT.cons (rfl) (AllT.cons (rfl) (AllT.nil))) (fcV_at kv kw)
set_option maxHeartbeats 8000000 in
theorem vi_2 {W : World} {h g : VH} (kv : VT 40 W h) (kw : VT 40 W g) (hs1 : decide (countW 40 W h 60 ≤ 60) = true) (hs2 : decide (countW 40 W g 60 ≤ 60) = true) (hA : rightW 40 W h = false) : Calls Tryd.prog 5 #[h.v, g.v] W fun e w' => e = .returned (.bool true) ∧ Below W.heap.size W w' := by
  letI fc : FC := fcV W h g
  exact @ex_valG (fcV W h g) _ ((kgOr (gk kn8) ((kgOr (kgSel (kgAt 8 [h.v] (.v (.bool true))) (kgAt 8 [g.v] (.v (.bool true)))) (kgSel (kgAt 12 [h.v] (.v (.bool false))) (kgAt 12 [h.v] (.v (.bool false)))))))) ((kgOr_ok (gk_ok kn8F_ok) ((kgOr_ok (kgSel_ok (smallTab1 kv hs1) (smallTab2 kw hs2)) (kgSel_ok (rr1 hA) (rr1 hA)))))) 100000 _ _ [argV h, argV g] [.bool true, .bool false, .bool true] _ [(h.v, h.v), (g.v, g.v), (h.v, h.v)] W (by kernel_rfl) (by simp [denL, den, argV, VH.v]) (by simp [bdL, bd, argV]) (AllT.cons (rfl) (AllT.cons (rfl) (AllT.cons (rfl) (AllT.nil)))) (fcV_at kv kw)
set_option maxHeartbeats 8000000 in
theorem vi_3 {W : World} {h g : VH} (kv : VT 40 W h) (kw : VT 40 W g) (hs1 : decide (countW 40 W h 60 ≤ 60) = true) (hs2 : decide (countW 40 W g 60 ≤ 60) = true) (hA : rightW 40 W h = true) (hB : rightW 40 W g = false) : Calls Tryd.prog 5 #[h.v, g.v] W fun e w' => e = .returned (.bool true) ∧ Below W.heap.size W w' := by
  letI fc : FC := fcV W h g
  exact @ex_valG (fcV W h g) _ ((kgOr (gk kn8) ((kgOr (kgSel (kgAt 8 [h.v] (.v (.bool true))) (kgAt 8 [g.v] (.v (.bool true)))) (kgSel (kgAt 12 [h.v] (.v (.bool true))) (kgAt 12 [g.v] (.v (.bool false)))))))) ((kgOr_ok (gk_ok kn8F_ok) ((kgOr_ok (kgSel_ok (smallTab1 kv hs1) (smallTab2 kw hs2)) (kgSel_ok (rr1 hA) (rr2 hB)))))) 100000 _ _ [argV h, argV g] [.bool true, .bool false, .bool true, .bool false] _ [(g.v, g.v), (h.v, h.v), (g.v, g.v), (h.v, h.v)] W (by kernel_rfl) (by simp [denL, den, argV, VH.v]) (by simp [bdL, bd, argV]) (AllT.cons (rfl) (AllT.cons (rfl) (AllT.cons (rfl) (AllT.cons (rfl) (AllT.nil))))) (fcV_at kv kw)
set_option maxHeartbeats 8000000 in
theorem vi_4 {W : World} {h g : VH} (kv : VT 40 W h) (kw : VT 40 W g) (hs1 : decide (countW 40 W h 60 ≤ 60) = true) (hs2 : decide (countW 40 W g 60 ≤ 60) = true) (hA : rightW 40 W h = true) (hB : rightW 40 W g = true) (hP : plainW 40 W h = false) : Calls Tryd.prog 5 #[h.v, g.v] W fun e w' => e = .returned (.bool true) ∧ Below W.heap.size W w' := by
  letI fc : FC := fcV W h g
  have hd : deepB 40 W h = true := deep_of_count (by omega) (of_decide_eq_true hs1)
  have gd : deepB 40 W g = true := deep_of_count (by omega) (of_decide_eq_true hs2)
  exact @ex_valG (fcV W h g) _ ((kgOr (gk kn8) ((kgOr (kgSel (kgAt 8 [h.v] (.v (.bool true))) (kgAt 8 [g.v] (.v (.bool true)))) ((kgOr (kgSel (kgAt 12 [h.v] (.v (.bool true))) (kgAt 12 [g.v] (.v (.bool true)))) (kgSel (kgAt 23 [h.v] (.v (.bool false))) (kgAt 23 [h.v] (.v (.bool false)))))))))) ((kgOr_ok (gk_ok kn8F_ok) ((kgOr_ok (kgSel_ok (smallTab1 kv hs1) (smallTab2 kw hs2)) ((kgOr_ok (kgSel_ok (rr1 hA) (rr2 hB)) (kgSel_ok (pl1 kv hd hP) (pl1 kv hd hP)))))))) 100000 _ _ [argV h, argV g] [.bool true, .bool false, .bool true, .bool false, .bool true] _ [(h.v, h.v), (g.v, g.v), (h.v, h.v), (g.v, g.v), (h.v, h.v)] W (by kernel_rfl) (by simp [denL, den, argV, VH.v]) (by simp [bdL, bd, argV]) (AllT.cons (rfl) (AllT.cons (rfl) (AllT.cons (rfl) (AllT.cons (rfl) (AllT.cons (rfl) (AllT.nil)))))) (fcV_at kv kw)
set_option maxHeartbeats 8000000 in
theorem vi_5 {W : World} {h g : VH} (kv : VT 40 W h) (kw : VT 40 W g) (hs1 : decide (countW 40 W h 60 ≤ 60) = true) (hs2 : decide (countW 40 W g 60 ≤ 60) = true) (hA : rightW 40 W h = true) (hB : rightW 40 W g = true) (hP : plainW 40 W h = true) (hQ : plainW 40 W g = false) : Calls Tryd.prog 5 #[h.v, g.v] W fun e w' => e = .returned (.bool true) ∧ Below W.heap.size W w' := by
  letI fc : FC := fcV W h g
  have hd : deepB 40 W h = true := deep_of_count (by omega) (of_decide_eq_true hs1)
  have gd : deepB 40 W g = true := deep_of_count (by omega) (of_decide_eq_true hs2)
  exact @ex_valG (fcV W h g) _ ((kgOr (gk kn8) ((kgOr (kgSel (kgAt 8 [h.v] (.v (.bool true))) (kgAt 8 [g.v] (.v (.bool true)))) ((kgOr (kgSel (kgAt 12 [h.v] (.v (.bool true))) (kgAt 12 [g.v] (.v (.bool true)))) (kgSel (kgAt 23 [h.v] (.v (.bool true))) (kgAt 23 [g.v] (.v (.bool false)))))))))) ((kgOr_ok (gk_ok kn8F_ok) ((kgOr_ok (kgSel_ok (smallTab1 kv hs1) (smallTab2 kw hs2)) ((kgOr_ok (kgSel_ok (rr1 hA) (rr2 hB)) (kgSel_ok (pl1 kv hd hP) (pl2 kw gd hQ)))))))) 100000 _ _ [argV h, argV g] [.bool true, .bool false, .bool true, .bool false, .bool true, .bool false] _ [(g.v, g.v), (h.v, h.v), (g.v, g.v), (h.v, h.v), (g.v, g.v), (h.v, h.v)] W (by kernel_rfl) (by simp [denL, den, argV, VH.v]) (by simp [bdL, bd, argV]) (AllT.cons (rfl) (AllT.cons (rfl) (AllT.cons (rfl) (AllT.cons (rfl) (AllT.cons (rfl) (AllT.cons (rfl) (AllT.nil))))))) (fcV_at kv kw)
set_option maxHeartbeats 8000000 in
theorem vi_6 {W : World} {h g : VH} (kv : VT 40 W h) (kw : VT 40 W g) (hT : TabP W) (hs1 : decide (countW 40 W h 60 ≤ 60) = true) (hs2 : decide (countW 40 W g 60 ≤ 60) = true) (hA : rightW 40 W h = true) (hB : rightW 40 W g = true) (hP : plainW 40 W h = true) (hQ : plainW 40 W g = true) : Calls Tryd.prog 5 #[h.v, g.v] W fun e w' => e = .returned (.bool true) ∧ Below W.heap.size W w' := by
  letI fc : FC := fcV W h g
  have hd : deepB 40 W h = true := deep_of_count (by omega) (of_decide_eq_true hs1)
  have gd : deepB 40 W g = true := deep_of_count (by omega) (of_decide_eq_true hs2)
  refine (@ex_runG (fcV W h g) _ ((kgOr (gk kn8) ((kgOr (kgSel (kgAt 8 [h.v] (.v (.bool true))) (kgAt 8 [g.v] (.v (.bool true)))) ((kgOr (kgSel (kgAt 12 [h.v] (.v (.bool true))) (kgAt 12 [g.v] (.v (.bool true)))) ((kgOr (kgSel (kgAt 23 [h.v] (.v (.bool true))) (kgAt 23 [g.v] (.v (.bool true)))) ((kgOr (kgSel (kgAt 15 [h.v] (.y (.string (showW 40 W h)))) (kgAt 15 [g.v] (.y (.string (showW 40 W g))))) (kgAt 13 [h.v, g.v] (.y (.bool (sameW 40 W h g)))))))))))))) ((kgOr_ok (gk_ok kn8F_ok) ((kgOr_ok (kgSel_ok (smallTab1 kv hs1) (smallTab2 kw hs2)) ((kgOr_ok (kgSel_ok (rr1 hA) (rr2 hB)) ((kgOr_ok (kgSel_ok (pl1 kv hd hP) (pl2 kw gd hQ)) ((kgOr_ok (kgSel_ok (sh1 kv hd hT) (sh2 kw gd hT)) (psameTabY kv kw hd))))))))))) 100000 _ _ [argV h, argV g] [.bool true, .bool false, .bool true, .bool false, .bool true, .bool false, .bool true, .bool false] (.y (.bool (((showW 40 W h).toList == (showW 40 W g).toList) == sameW 40 W h g))) [(h.v, h.v), (g.v, g.v), (g.v, g.v), (h.v, h.v), (g.v, g.v), (h.v, h.v), (g.v, g.v), (h.v, h.v), (g.v, g.v), (h.v, h.v)] W (by kernel_rfl) (by simp [denL, den, argV, VH.v]) (by simp [bdL, bd, argV]) (AllT.cons (rfl) (AllT.cons (rfl) (AllT.cons (rfl) (AllT.cons (rfl) (AllT.cons (rfl) (AllT.cons (rfl) (AllT.cons (rfl) (AllT.cons (rfl) (AllT.cons (rfl) (AllT.cons (rfl) (AllT.nil))))))))))) (fcV_at kv kw)).mono ?_
  rintro e w' ⟨B, he, hb⟩
  refine ⟨?_, hb⟩
  rw [he]
  simp only [den]
  rw [show_inj hA hB hP hQ]
theorem vi_all (W : World) (h g : VH) (kv : VT 40 W h) (kw : VT 40 W g) (hT : TabP W) : Calls Tryd.prog 5 #[h.v, g.v] W fun e w' => e = .returned (.bool true) ∧ Below W.heap.size W w' := by
  cases hs1 : decide (countW 40 W h 60 ≤ 60) with
  | false => exact vi_0 kv kw hs1
  | true =>
  cases hs2 : decide (countW 40 W g 60 ≤ 60) with
  | false => exact vi_1 kv kw hs1 hs2
  | true =>
  cases hA : rightW 40 W h with
  | false => exact vi_2 kv kw hs1 hs2 hA
  | true =>
  cases hB : rightW 40 W g with
  | false => exact vi_3 kv kw hs1 hs2 hA hB
  | true =>
  cases hP : plainW 40 W h with
  | false => exact vi_4 kv kw hs1 hs2 hA hB hP
  | true =>
  cases hQ : plainW 40 W g with
  | false => exact vi_5 kv kw hs1 hs2 hA hB hP hQ
  | true => exact vi_6 kv kw hT hs1 hs2 hA hB hP hQ
end Go.Proofs.YtoijdnlplbeomaaDoor
