/-
  Contracts of layer 4: the reference's Kind, Same, Compare; real.Whole and the reference's.
-/
import Derived.Test.YtancncclgeomeaaFltD
namespace Go.Proofs.Ytancncclgeomeaa
open Go.RowKit
set_option linter.unusedVariables false

/-- The two answers of the reference's Kind. -/
def rkindV (b : Nat) : Value := .tuple #[.int .i64 (kindF b), .bool (negF b)]
set_option maxHeartbeats 400000 in
theorem rkind_any (b : Nat) (hb : b < 18446744073709551616) (w : World) : Calls Try.prog 9 #[.float .f64 b] w fun e w' => e = .returned (rkindV b) ∧ w = w' := by
  have hx := run_bitsOf
  have hn := neg_iff b hb
  have d0 : decide ((9223372036854775808 : Int) ≤ (b : Int)) = negF b := by rw [hn]; congr 1; exact propext (by omega)
  obtain ⟨r, hr⟩ : ∃ r, rungF b = r := ⟨_, rfl⟩
  have hm : (b : Int) % 9223372036854775808 = (r : Int) := by rw [← hr]; exact (Int.natCast_emod b 9223372036854775808).symm
  have hv : rkindV b = .tuple #[.int .i64 (kindR r), .bool (negF b)] := by rw [← hr]; rfl
  have Hv := Lib.hid hv
  have hk : kindR r = if 9218868437227405312 < r then 0 else if r = 9218868437227405312 then 1 else if r = 0 then 2 else if r < 4503599627370496 then 3 else 4 := rfl
  have Hk := Lib.hid hk
  clear hv hr hn hk
  generalize negF b = ng at *
  by_cases h1 : 9218868437227405312 < r
  · have d1 : decide (9218868437227405312 < (r : Int)) = true := decide_eq_true (by omega)
    go_enter Try.func9, Try.ntmps9
    go_wp2
    go_ret2
    exact ⟨by rw [Hv.out, Hk.out, if_pos h1]; rfl, rfl⟩
  · have d1 : decide (9218868437227405312 < (r : Int)) = false := decide_eq_false (by omega)
    by_cases h2 : r = 9218868437227405312
    · have d2 : ((r : Int) == 9218868437227405312) = true := by rw [beq_iff_eq]; omega
      go_enter Try.func9, Try.ntmps9
      go_wp2
      go_ret2
      exact ⟨by rw [Hv.out, Hk.out, if_neg h1, if_pos h2]; rfl, rfl⟩
    · have d2 : ((r : Int) == 9218868437227405312) = false := by rw [beq_eq_false_iff_ne]; omega
      by_cases h3 : r = 0
      · have d3 : ((r : Int) == 0) = true := by rw [beq_iff_eq]; omega
        go_enter Try.func9, Try.ntmps9
        go_wp2
        go_ret2
        exact ⟨by rw [Hv.out, Hk.out, if_neg h1, if_neg h2, if_pos h3]; rfl, rfl⟩
      · have d3 : ((r : Int) == 0) = false := by rw [beq_eq_false_iff_ne]; omega
        by_cases h4 : r < 4503599627370496
        · have d4 : decide ((r : Int) < 4503599627370496) = true := decide_eq_true (by omega)
          go_enter Try.func9, Try.ntmps9
          go_wp2
          go_ret2
          exact ⟨by rw [Hv.out, Hk.out, if_neg h1, if_neg h2, if_neg h3, if_pos h4]; rfl, rfl⟩
        · have d4 : decide ((r : Int) < 4503599627370496) = false := decide_eq_false (by omega)
          go_enter Try.func9, Try.ntmps9
          go_wp2
          go_ret2
          exact ⟨by rw [Hv.out, Hk.out, if_neg h1, if_neg h2, if_neg h3, if_neg h4]; rfl, rfl⟩

theorem cast_beq (a b : Nat) : ((a : Int) == (b : Int)) = (a == b) := by
  rw [Bool.eq_iff_iff, beq_iff_eq, beq_iff_eq]
  omega
theorem rsame_any (a b : Nat) (w : World) : Calls Try.prog 16 #[.float .f64 a, .float .f64 b] w fun e w' => e = .returned (.bool (sameF a b)) ∧ w = w' := by
  have hx := run_bitsOf
  have hv : sameF a b = if isNan a || isNan b then isNan a && isNan b else a == b := rfl
  have Hv := Lib.hid hv
  clear hv
  cases ha : isNan a
  · cases hb : isNan b
    · go_enter Try.func16, Try.ntmps16
      go_wp2_with fail
      refine (none_any a w).mono ?_
      rintro e w1 ⟨rfl, rfl⟩
      go_wp2_with fail
      refine (none_any b w).mono ?_
      rintro e w1 ⟨rfl, rfl⟩
      go_wp2
      go_ret
      exact ⟨by rw [Hv.out, ha, hb]; simp only [Bool.or_self, Bool.false_eq_true, if_false, ← cast_beq]; rfl, rfl⟩
    · go_enter Try.func16, Try.ntmps16
      go_wp2_with fail
      refine (none_any a w).mono ?_
      rintro e w1 ⟨rfl, rfl⟩
      go_wp2_with fail
      refine (none_any b w).mono ?_
      rintro e w1 ⟨rfl, rfl⟩
      go_wp2_with fail
      refine (none_any a w).mono ?_
      rintro e w1 ⟨rfl, rfl⟩
      go_wp2
      go_ret
      exact ⟨by rw [Hv.out, ha, hb]; rfl, rfl⟩
  · go_enter Try.func16, Try.ntmps16
    go_wp2_with fail
    refine (none_any a w).mono ?_
    rintro e w1 ⟨rfl, rfl⟩
    go_wp2_with fail
    refine (none_any a w).mono ?_
    rintro e w1 ⟨rfl, rfl⟩
    go_wp2_with fail
    refine (none_any b w).mono ?_
    rintro e w1 ⟨rfl, rfl⟩
    go_wp2
    go_ret
    exact ⟨by rw [Hv.out, ha]; rfl, rfl⟩

set_option maxHeartbeats 400000 in
theorem rcompare_any (a b : Nat) (ha : a < 18446744073709551616) (hb : b < 18446744073709551616) (w : World) : Calls Try.prog 14 #[.float .f64 a, .float .f64 b] w fun e w' => e = .returned (.int .i64 (cmpR a b)) ∧ w = w' := by
  have Hv := Lib.hid (cmpR_ref ha hb)
  have Hb := Lib.hid hb
  cases h0 : sameF a b
  rotate_left
  · go_enter Try.func14, Try.ntmps14
    go_wp2_with fail
    refine (rsame_any a b w).mono ?_
    rintro e w1 ⟨rfl, rfl⟩
    go_wp2
    go_ret
    exact ⟨by rw [Hv.out, h0]; rfl, rfl⟩
  cases h1 : isNan a
  rotate_left
  · go_enter Try.func14, Try.ntmps14
    go_wp2_with fail
    refine (rsame_any a b w).mono ?_
    rintro e w1 ⟨rfl, rfl⟩
    go_wp2_with fail
    refine (none_any a w).mono ?_
    rintro e w1 ⟨rfl, rfl⟩
    go_wp2
    go_ret
    exact ⟨by rw [Hv.out, h0, h1]; rfl, rfl⟩
  cases h2 : isNan b
  rotate_left
  · go_enter Try.func14, Try.ntmps14
    go_wp2_with fail
    refine (rsame_any a b w).mono ?_
    rintro e w1 ⟨rfl, rfl⟩
    go_wp2_with fail
    refine (none_any a w).mono ?_
    rintro e w1 ⟨rfl, rfl⟩
    go_wp2_with fail
    refine (none_any b w).mono ?_
    rintro e w1 ⟨rfl, rfl⟩
    go_wp2
    go_ret
    exact ⟨by rw [Hv.out, h0, h1, h2]; rfl, rfl⟩
  cases h3 : (Ieee.double.order a b == some .lt)
  rotate_left
  · have h3' : (FloatKind.f64.format.order a b == some .lt) = true := h3
    go_enter Try.func14, Try.ntmps14
    go_wp2_with fail
    refine (rsame_any a b w).mono ?_
    rintro e w1 ⟨rfl, rfl⟩
    go_wp2_with fail
    refine (none_any a w).mono ?_
    rintro e w1 ⟨rfl, rfl⟩
    go_wp2_with fail
    refine (none_any b w).mono ?_
    rintro e w1 ⟨rfl, rfl⟩
    go_wp2
    go_ret
    exact ⟨by rw [Hv.out, h0, h1, h2, h3]; rfl, rfl⟩
  have h3' : (FloatKind.f64.format.order a b == some .lt) = false := h3
  cases h4 : (Ieee.double.order a b == some .gt)
  rotate_left
  · have h4' : (FloatKind.f64.format.order a b == some .gt) = true := h4
    go_enter Try.func14, Try.ntmps14
    go_wp2_with fail
    refine (rsame_any a b w).mono ?_
    rintro e w1 ⟨rfl, rfl⟩
    go_wp2_with fail
    refine (none_any a w).mono ?_
    rintro e w1 ⟨rfl, rfl⟩
    go_wp2_with fail
    refine (none_any b w).mono ?_
    rintro e w1 ⟨rfl, rfl⟩
    go_wp2
    go_ret
    exact ⟨by rw [Hv.out, h0, h1, h2, h3, h4]; rfl, rfl⟩
  have h4' : (FloatKind.f64.format.order a b == some .gt) = false := h4
  cases h5 : negF a
  · have hk : rkindV a = .tuple #[.int .i64 (kindF a), .bool false] := by unfold rkindV; rw [h5]
    go_enter Try.func14, Try.ntmps14
    go_wp2_with fail
    refine (rsame_any a b w).mono ?_
    rintro e w1 ⟨rfl, rfl⟩
    go_wp2_with fail
    refine (none_any a w).mono ?_
    rintro e w1 ⟨rfl, rfl⟩
    go_wp2_with fail
    refine (none_any b w).mono ?_
    rintro e w1 ⟨rfl, rfl⟩
    go_wp2_with fail
    refine (rkind_any a ha w).mono ?_
    rintro e w1 ⟨rfl, rfl⟩
    go_wp2
    go_ret
    exact ⟨by rw [Hv.out, h0, h1, h2, h3, h4, h5]; rfl, rfl⟩
  · have hk : rkindV a = .tuple #[.int .i64 (kindF a), .bool true] := by unfold rkindV; rw [h5]
    go_enter Try.func14, Try.ntmps14
    go_wp2_with fail
    refine (rsame_any a b w).mono ?_
    rintro e w1 ⟨rfl, rfl⟩
    go_wp2_with fail
    refine (none_any a w).mono ?_
    rintro e w1 ⟨rfl, rfl⟩
    go_wp2_with fail
    refine (none_any b w).mono ?_
    rintro e w1 ⟨rfl, rfl⟩
    go_wp2_with fail
    refine (rkind_any a ha w).mono ?_
    rintro e w1 ⟨rfl, rfl⟩
    go_wp2
    go_ret
    exact ⟨by rw [Hv.out, h0, h1, h2, h3, h4, h5]; rfl, rfl⟩

/-- Below -2^40; above 2^40. -/
def below40 (b : Nat) : Bool := FloatKind.f64.format.order b 14010698440749613056 == some .lt
def above40 (b : Nat) : Bool := FloatKind.f64.format.order b 4787326403894837248 == some .gt
theorem within40 {b : Nat} (h : isNan b = false) (h1 : below40 b = false) (h2 : above40 b = false) : rungF b ≤ r40 := by
  have n1 : isNan 14010698440749613056 = false := by decide
  have n2 : isNan 4787326403894837248 = false := by decide
  have k1 : keyF 14010698440749613056 = -4787326403894837248 := by decide
  have k2 : keyF 4787326403894837248 = 4787326403894837248 := by decide
  have e1 : decide (keyF b < keyF 14010698440749613056) = false := (lt_key h n1).symm.trans h1
  have e2 : decide (keyF 4787326403894837248 < keyF b) = false := (gt_key h n2).symm.trans h2
  rw [k1] at e1
  rw [k2] at e2
  have f1 : ¬ keyF b < -4787326403894837248 := by simpa using e1
  have f2 : ¬ 4787326403894837248 < keyF b := by simpa using e2
  have e3 : r40 = 4787326403894837248 := rfl
  unfold keyF at f1 f2
  rw [e3]
  cases hn : negF b
  · rw [hn, if_neg (by simp)] at f1 f2
    omega
  · rw [hn, if_pos rfl] at f1 f2
    omega
def wholeI (b : Nat) : Int := (floatToIntVal .f64 b .i64).getD 0
/-- The two answers of Whole. -/
def wholeV (b : Nat) : Value := if isNan b then .tuple #[.int .i64 0, .int .i64 1] else if below40 b || above40 b then .tuple #[.int .i64 0, .int .i64 2] else .tuple #[.int .i64 (wholeI b), .int .i64 0]
theorem run_whole {b : Nat} (h : rungF b ≤ r40) (w : World) : (convert 23 3 (.float .f64 b)).run Try.prog w = .ok (.int .i64 (wholeI b)) w := by
  obtain ⟨n, e, _, _⟩ := whole_some h
  unfold wholeI
  rw [e]
  exact run_convert_float_int w 23 3 .f64 .i64 b n (by kernel_rfl) (by kernel_rfl) e

theorem whole_any (b : Nat) (w : World) : Calls Try.prog 17 #[.float .f64 b] w fun e w' => e = .returned (wholeV b) ∧ w = w' := by
  cases h1 : isNan b
  rotate_left
  · have hv : wholeV b = .tuple #[.int .i64 0, .int .i64 1] := by unfold wholeV; rw [h1]; rfl
    have Hv := Lib.hid hv
    clear hv
    go_enter Try.func17, Try.ntmps17
    go_wp2_with fail
    refine (isnan_any b w).mono ?_
    rintro e w1 ⟨rfl, rfl⟩
    go_wp2
    go_ret2
    exact ⟨by rw [Hv.out]; rfl, rfl⟩
  cases h2 : below40 b
  rotate_left
  · have hv : wholeV b = .tuple #[.int .i64 0, .int .i64 2] := by unfold wholeV; rw [h1, h2]; rfl
    have Hv := Lib.hid hv
    have h2' : (FloatKind.f64.format.order b 14010698440749613056 == some .lt) = true := h2
    have h3' : (FloatKind.f64.format.order b 4787326403894837248 == some .gt) = above40 b := rfl
    clear hv h2
    generalize above40 b = ab at *
    cases ab
    · go_enter Try.func17, Try.ntmps17
      go_wp2_with fail
      refine (isnan_any b w).mono ?_
      rintro e w1 ⟨rfl, rfl⟩
      go_wp2
      go_ret2
      exact ⟨by rw [Hv.out]; rfl, rfl⟩
    · go_enter Try.func17, Try.ntmps17
      go_wp2_with fail
      refine (isnan_any b w).mono ?_
      rintro e w1 ⟨rfl, rfl⟩
      go_wp2
      go_ret2
      exact ⟨by rw [Hv.out]; rfl, rfl⟩
  have h2' : (FloatKind.f64.format.order b 14010698440749613056 == some .lt) = false := h2
  cases h3 : above40 b
  rotate_left
  · have hv : wholeV b = .tuple #[.int .i64 0, .int .i64 2] := by unfold wholeV; rw [h1, h2, h3]; rfl
    have Hv := Lib.hid hv
    have h3' : (FloatKind.f64.format.order b 4787326403894837248 == some .gt) = true := h3
    clear hv h2 h3
    go_enter Try.func17, Try.ntmps17
    go_wp2_with fail
    refine (isnan_any b w).mono ?_
    rintro e w1 ⟨rfl, rfl⟩
    go_wp2
    go_ret2
    exact ⟨by rw [Hv.out]; rfl, rfl⟩
  · have hv : wholeV b = .tuple #[.int .i64 (wholeI b), .int .i64 0] := by unfold wholeV; rw [h1, h2, h3]; rfl
    have Hv := Lib.hid hv
    have h3' : (FloatKind.f64.format.order b 4787326403894837248 == some .gt) = false := h3
    have hr := run_whole (within40 h1 h2 h3)
    clear hv h2 h3
    go_enter Try.func17, Try.ntmps17
    go_wp2_with fail
    refine (isnan_any b w).mono ?_
    rintro e w1 ⟨rfl, rfl⟩
    go_wp2
    go_ret2
    exact ⟨by rw [Hv.out]; rfl, rfl⟩

theorem rwhole_any (b : Nat) (w : World) : Calls Try.prog 18 #[.float .f64 b] w fun e w' => e = .returned (wholeV b) ∧ w = w' := by
  cases h1 : isNan b
  rotate_left
  · have hv : wholeV b = .tuple #[.int .i64 0, .int .i64 1] := by unfold wholeV; rw [h1]; rfl
    have Hv := Lib.hid hv
    clear hv
    go_enter Try.func18, Try.ntmps18
    go_wp2_with fail
    refine (none_any b w).mono ?_
    rintro e w1 ⟨rfl, rfl⟩
    go_wp2
    go_ret2
    exact ⟨by rw [Hv.out]; rfl, rfl⟩
  cases h2 : below40 b
  rotate_left
  · have hv : wholeV b = .tuple #[.int .i64 0, .int .i64 2] := by unfold wholeV; rw [h1, h2]; rfl
    have Hv := Lib.hid hv
    have h2' : (FloatKind.f64.format.order b 14010698440749613056 == some .lt) = true := h2
    have h3' : (FloatKind.f64.format.order b 4787326403894837248 == some .gt) = above40 b := rfl
    clear hv h2
    generalize above40 b = ab at *
    cases ab
    · go_enter Try.func18, Try.ntmps18
      go_wp2_with fail
      refine (none_any b w).mono ?_
      rintro e w1 ⟨rfl, rfl⟩
      go_wp2
      go_ret2
      exact ⟨by rw [Hv.out]; rfl, rfl⟩
    · go_enter Try.func18, Try.ntmps18
      go_wp2_with fail
      refine (none_any b w).mono ?_
      rintro e w1 ⟨rfl, rfl⟩
      go_wp2
      go_ret2
      exact ⟨by rw [Hv.out]; rfl, rfl⟩
  have h2' : (FloatKind.f64.format.order b 14010698440749613056 == some .lt) = false := h2
  cases h3 : above40 b
  rotate_left
  · have hv : wholeV b = .tuple #[.int .i64 0, .int .i64 2] := by unfold wholeV; rw [h1, h2, h3]; rfl
    have Hv := Lib.hid hv
    have h3' : (FloatKind.f64.format.order b 4787326403894837248 == some .gt) = true := h3
    clear hv h2 h3
    go_enter Try.func18, Try.ntmps18
    go_wp2_with fail
    refine (none_any b w).mono ?_
    rintro e w1 ⟨rfl, rfl⟩
    go_wp2
    go_ret2
    exact ⟨by rw [Hv.out]; rfl, rfl⟩
  · have hv : wholeV b = .tuple #[.int .i64 (wholeI b), .int .i64 0] := by unfold wholeV; rw [h1, h2, h3]; rfl
    have Hv := Lib.hid hv
    have h3' : (FloatKind.f64.format.order b 4787326403894837248 == some .gt) = false := h3
    have hr := run_whole (within40 h1 h2 h3)
    clear hv h2 h3
    go_enter Try.func18, Try.ntmps18
    go_wp2_with fail
    refine (none_any b w).mono ?_
    rintro e w1 ⟨rfl, rfl⟩
    go_wp2
    go_ret2
    exact ⟨by rw [Hv.out]; rfl, rfl⟩
end Go.Proofs.Ytancncclgeomeaa
