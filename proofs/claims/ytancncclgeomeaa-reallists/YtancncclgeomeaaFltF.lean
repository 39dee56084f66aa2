/-
  Contracts of layer 4: math.Inf, math.NaN, math.Copysign, math.IsInf (asked for +Inf), Part and Clamp of both.
-/
import Derived.Test.YtancncclgeomeaaFltE
namespace Go.Proofs.Ytancncclgeomeaa
open Go.RowKit
set_option linter.unusedVariables false

theorem inf_up (w : World) : Calls Try.prog 32 #[.int .i64 1] w fun e w' => e = .returned (.float .f64 9218868437227405312) ∧ w = w' := by
  have hx : ∀ w, (callFunc 7 #[.int .u64 9218868437227405312]).run Try.prog w = .ok (.value (.float .f64 9218868437227405312)) w := fun w => run_ofBits 9218868437227405312 w
  go_enter Try.func32, Try.ntmps32
  go_wp2
  go_ret
  exact ⟨rfl, rfl⟩
theorem inf_down (w : World) : Calls Try.prog 32 #[.int .i64 (-1)] w fun e w' => e = .returned (.float .f64 18442240474082181120) ∧ w = w' := by
  have hx : ∀ w, (callFunc 7 #[.int .u64 18442240474082181120]).run Try.prog w = .ok (.value (.float .f64 18442240474082181120)) w := fun w => run_ofBits 18442240474082181120 w
  go_enter Try.func32, Try.ntmps32
  go_wp2
  go_ret
  exact ⟨rfl, rfl⟩
theorem nan_any (w : World) : Calls Try.prog 31 #[] w fun e w' => e = .returned (.float .f64 9221120237041090561) ∧ w = w' := by
  have hx : ∀ w, (callFunc 7 #[.int .u64 9221120237041090561]).run Try.prog w = .ok (.value (.float .f64 9221120237041090561)) w := fun w => run_ofBits 9221120237041090561 w
  go_enter Try.func31, Try.ntmps31
  go_wp2
  go_ret
  exact ⟨rfl, rfl⟩
/-- math.Copysign(0, -1). -/
theorem minus0_any (w : World) : Calls Try.prog 30 #[.float .f64 0, .float .f64 13830554455654793216] w fun e w' => e = .returned (.float .f64 9223372036854775808) ∧ w = w' := by
  have hx0 : ∀ w, (callFunc 29 #[.float .f64 0]).run Try.prog w = .ok (.value (.int .u64 0)) w := fun w => run_bitsOf 0 w
  have hx1 : ∀ w, (callFunc 29 #[.float .f64 13830554455654793216]).run Try.prog w = .ok (.value (.int .u64 13830554455654793216)) w := fun w => run_bitsOf _ w
  have hy : ∀ w, (callFunc 7 #[.int .u64 9223372036854775808]).run Try.prog w = .ok (.value (.float .f64 9223372036854775808)) w := fun w => run_ofBits 9223372036854775808 w
  have e1 : bits .andNot .u64 0 9223372036854775808 = 0 := by decide
  have e2 : bits .and .u64 13830554455654793216 9223372036854775808 = 9223372036854775808 := by decide
  have e3 : bits .or .u64 0 9223372036854775808 = 9223372036854775808 := by decide
  go_enter Try.func30, Try.ntmps30
  go_wp2
  go_ret
  exact ⟨rfl, rfl⟩
theorem isinf_up (b : Nat) (w : World) : Calls Try.prog 33 #[.float .f64 b, .int .i64 1] w fun e w' => e = .returned (.bool (FloatKind.f64.format.order b 9218868437227405311 == some .gt)) ∧ w = w' := by
  go_enter Try.func33, Try.ntmps33
  go_wp2
  go_ret
  exact ⟨rfl, rfl⟩

/-- The bits that are told, or any that are none. -/
def Told (o : Option Nat) (r : Nat) : Prop := match o with | some x => r = x | none => isNan r = true
theorem Told.same {o : Option Nat} {r s : Nat} (h : Told o r) (h' : Told o s) : sameF r s = true := by
  cases o with
  | some x =>
    obtain rfl : r = x := h
    obtain rfl : s = r := h'
    unfold sameF
    cases isNan s <;> simp
  | none =>
    have h1 : isNan r = true := h
    have h2 : isNan s = true := h'
    unfold sameF
    rw [h1, h2]
    rfl
def quoF (n o : Int) : Option Nat := floatBits .quo .f64 (floatOfInt .f64 n) (floatOfInt .f64 o)
theorem bits_lt {op : BinOp} {x y r : Nat} (h : floatBits op .f64 x y = some r) : r < 18446744073709551616 := by
  have := floatBits_wf h
  simpa [Lit.wf] using this
theorem part_any (n o : Int) (w : World) : Calls Try.prog 19 #[.int .i64 n, .int .i64 o] w fun e w' => ∃ r, e = .returned (.float .f64 r) ∧ r < 18446744073709551616 ∧ Told (quoF n o) r ∧ Below w.heap.size w w' := by
  rcases run_float_any (P := Try.prog) .quo (by simp) 23 (floatOfInt .f64 n) (floatOfInt .f64 o) w with ⟨r, h1, h2⟩ | ⟨h1, r, h3, h4, h2⟩
  · have Ht := Lib.hid (show Told (quoF n o) r by unfold quoF; rw [h1]; rfl)
    have Hl := Lib.hid (bits_lt h1)
    clear h1
    go_enter Try.func19, Try.ntmps19
    go_wp2
    go_ret
    exact ⟨r, rfl, Hl.out, Ht.out, Below.refl _ _⟩
  · have Ht := Lib.hid (show Told (quoF n o) r by unfold quoF; rw [h1]; exact h3)
    have Hl := Lib.hid h4
    clear h1 h3 h4
    go_enter Try.func19, Try.ntmps19
    go_wp2
    go_ret
    exact ⟨r, rfl, Hl.out, Ht.out, (Below.refl _ _).drew⟩
theorem rpart_any (n o : Int) (w : World) : Calls Try.prog 20 #[.int .i64 n, .int .i64 o] w fun e w' => ∃ r, e = .returned (.float .f64 r) ∧ r < 18446744073709551616 ∧ Told (quoF n o) r ∧ Below w.heap.size w w' := by
  rcases run_float_any (P := Try.prog) .quo (by simp) 23 (floatOfInt .f64 n) (floatOfInt .f64 o) w with ⟨r, h1, h2⟩ | ⟨h1, r, h3, h4, h2⟩
  · have Ht := Lib.hid (show Told (quoF n o) r by unfold quoF; rw [h1]; rfl)
    have Hl := Lib.hid (bits_lt h1)
    clear h1
    go_enter Try.func20, Try.ntmps20
    go_wp2
    go_ret
    exact ⟨r, rfl, Hl.out, Ht.out, Below.refl _ _⟩
  · have Ht := Lib.hid (show Told (quoF n o) r by unfold quoF; rw [h1]; exact h3)
    have Hl := Lib.hid h4
    clear h1 h3 h4
    go_enter Try.func20, Try.ntmps20
    go_wp2
    go_ret
    exact ⟨r, rfl, Hl.out, Ht.out, (Below.refl _ _).drew⟩

/-- What Clamp answers. -/
def clampF (x lo hi : Nat) : Nat := if isNan x || decide (0 < cmpR lo hi) then 9221120237041090561 else if decide (cmpR x lo < 0) then lo else if decide (0 < cmpR x hi) then hi else x

set_option maxHeartbeats 400000 in
theorem clamp_any (x lo hi : Nat) (hx : x < 18446744073709551616) (hl : lo < 18446744073709551616) (hh : hi < 18446744073709551616) (w : World) : Calls Try.prog 26 #[.float .f64 x, .float .f64 lo, .float .f64 hi] w fun e w' => e = .returned (.float .f64 (clampF x lo hi)) ∧ w = w' := by
  cases h1 : isNan x
  rotate_left
  · have hv : clampF x lo hi = 9221120237041090561 := by unfold clampF; rw [h1]; rfl
    have Hv := Lib.hid hv
    clear hv
    go_enter Try.func26, Try.ntmps26
    go_wp2_with fail
    refine (isnan_any x w).mono ?_
    rintro e w1 ⟨rfl, rfl⟩
    go_wp2_with fail
    refine (nan_any w).mono ?_
    rintro e w1 ⟨rfl, rfl⟩
    go_wp2
    go_ret
    exact ⟨by rw [Hv.out]; rfl, rfl⟩
  cases h2 : decide (0 < cmpR lo hi)
  rotate_left
  · have hv : clampF x lo hi = 9221120237041090561 := by unfold clampF; rw [h1, h2]; rfl
    have Hv := Lib.hid hv
    clear hv
    go_enter Try.func26, Try.ntmps26
    go_wp2_with fail
    refine (isnan_any x w).mono ?_
    rintro e w1 ⟨rfl, rfl⟩
    go_wp2_with fail
    refine (compareF_any lo hi hl hh w).mono ?_
    rintro e w1 ⟨rfl, rfl⟩
    go_wp2_with fail
    refine (nan_any w).mono ?_
    rintro e w1 ⟨rfl, rfl⟩
    go_wp2
    go_ret
    exact ⟨by rw [Hv.out]; rfl, rfl⟩
  cases h3 : decide (cmpR x lo < 0)
  rotate_left
  · have hv : clampF x lo hi = lo := by unfold clampF; rw [h1, h2, h3]; rfl
    have Hv := Lib.hid hv
    clear hv
    go_enter Try.func26, Try.ntmps26
    go_wp2_with fail
    refine (isnan_any x w).mono ?_
    rintro e w1 ⟨rfl, rfl⟩
    go_wp2_with fail
    refine (compareF_any lo hi hl hh w).mono ?_
    rintro e w1 ⟨rfl, rfl⟩
    go_wp2_with fail
    refine (compareF_any x lo hx hl w).mono ?_
    rintro e w1 ⟨rfl, rfl⟩
    go_wp2
    go_ret
    exact ⟨by rw [Hv.out]; rfl, rfl⟩
  cases h4 : decide (0 < cmpR x hi)
  rotate_left
  · have hv : clampF x lo hi = hi := by unfold clampF; rw [h1, h2, h3, h4]; rfl
    have Hv := Lib.hid hv
    clear hv
    go_enter Try.func26, Try.ntmps26
    go_wp2_with fail
    refine (isnan_any x w).mono ?_
    rintro e w1 ⟨rfl, rfl⟩
    go_wp2_with fail
    refine (compareF_any lo hi hl hh w).mono ?_
    rintro e w1 ⟨rfl, rfl⟩
    go_wp2_with fail
    refine (compareF_any x lo hx hl w).mono ?_
    rintro e w1 ⟨rfl, rfl⟩
    go_wp2_with fail
    refine (compareF_any x hi hx hh w).mono ?_
    rintro e w1 ⟨rfl, rfl⟩
    go_wp2
    go_ret
    exact ⟨by rw [Hv.out]; rfl, rfl⟩
  · have hv : clampF x lo hi = x := by unfold clampF; rw [h1, h2, h3, h4]; rfl
    have Hv := Lib.hid hv
    clear hv
    go_enter Try.func26, Try.ntmps26
    go_wp2_with fail
    refine (isnan_any x w).mono ?_
    rintro e w1 ⟨rfl, rfl⟩
    go_wp2_with fail
    refine (compareF_any lo hi hl hh w).mono ?_
    rintro e w1 ⟨rfl, rfl⟩
    go_wp2_with fail
    refine (compareF_any x lo hx hl w).mono ?_
    rintro e w1 ⟨rfl, rfl⟩
    go_wp2_with fail
    refine (compareF_any x hi hx hh w).mono ?_
    rintro e w1 ⟨rfl, rfl⟩
    go_wp2
    go_ret
    exact ⟨by rw [Hv.out]; rfl, rfl⟩

set_option maxHeartbeats 400000 in
theorem rclamp_any (x lo hi : Nat) (hx : x < 18446744073709551616) (hl : lo < 18446744073709551616) (hh : hi < 18446744073709551616) (w : World) : Calls Try.prog 27 #[.float .f64 x, .float .f64 lo, .float .f64 hi] w fun e w' => e = .returned (.float .f64 (clampF x lo hi)) ∧ w = w' := by
  cases h1 : isNan x
  rotate_left
  · have hv : clampF x lo hi = 9221120237041090561 := by unfold clampF; rw [h1]; rfl
    have Hv := Lib.hid hv
    clear hv
    go_enter Try.func27, Try.ntmps27
    go_wp2_with fail
    refine (none_any x w).mono ?_
    rintro e w1 ⟨rfl, rfl⟩
    go_wp2_with fail
    refine (nan_any w).mono ?_
    rintro e w1 ⟨rfl, rfl⟩
    go_wp2
    go_ret
    exact ⟨by rw [Hv.out]; rfl, rfl⟩
  cases h2 : decide (0 < cmpR lo hi)
  rotate_left
  · have hv : clampF x lo hi = 9221120237041090561 := by unfold clampF; rw [h1, h2]; rfl
    have Hv := Lib.hid hv
    clear hv
    go_enter Try.func27, Try.ntmps27
    go_wp2_with fail
    refine (none_any x w).mono ?_
    rintro e w1 ⟨rfl, rfl⟩
    go_wp2_with fail
    refine (rcompare_any lo hi hl hh w).mono ?_
    rintro e w1 ⟨rfl, rfl⟩
    go_wp2_with fail
    refine (nan_any w).mono ?_
    rintro e w1 ⟨rfl, rfl⟩
    go_wp2
    go_ret
    exact ⟨by rw [Hv.out]; rfl, rfl⟩
  cases h3 : decide (cmpR x lo < 0)
  rotate_left
  · have hv : clampF x lo hi = lo := by unfold clampF; rw [h1, h2, h3]; rfl
    have Hv := Lib.hid hv
    clear hv
    go_enter Try.func27, Try.ntmps27
    go_wp2_with fail
    refine (none_any x w).mono ?_
    rintro e w1 ⟨rfl, rfl⟩
    go_wp2_with fail
    refine (rcompare_any lo hi hl hh w).mono ?_
    rintro e w1 ⟨rfl, rfl⟩
    go_wp2_with fail
    refine (rcompare_any x lo hx hl w).mono ?_
    rintro e w1 ⟨rfl, rfl⟩
    go_wp2
    go_ret
    exact ⟨by rw [Hv.out]; rfl, rfl⟩
  cases h4 : decide (0 < cmpR x hi)
  rotate_left
  · have hv : clampF x lo hi = hi := by unfold clampF; rw [h1, h2, h3, h4]; rfl
    have Hv := Lib.hid hv
    clear hv
    go_enter Try.func27, Try.ntmps27
    go_wp2_with fail
    refine (none_any x w).mono ?_
    rintro e w1 ⟨rfl, rfl⟩
    go_wp2_with fail
    refine (rcompare_any lo hi hl hh w).mono ?_
    rintro e w1 ⟨rfl, rfl⟩
    go_wp2_with fail
    refine (rcompare_any x lo hx hl w).mono ?_
    rintro e w1 ⟨rfl, rfl⟩
    go_wp2_with fail
    refine (rcompare_any x hi hx hh w).mono ?_
    rintro e w1 ⟨rfl, rfl⟩
    go_wp2
    go_ret
    exact ⟨by rw [Hv.out]; rfl, rfl⟩
  · have hv : clampF x lo hi = x := by unfold clampF; rw [h1, h2, h3, h4]; rfl
    have Hv := Lib.hid hv
    clear hv
    go_enter Try.func27, Try.ntmps27
    go_wp2_with fail
    refine (none_any x w).mono ?_
    rintro e w1 ⟨rfl, rfl⟩
    go_wp2_with fail
    refine (rcompare_any lo hi hl hh w).mono ?_
    rintro e w1 ⟨rfl, rfl⟩
    go_wp2_with fail
    refine (rcompare_any x lo hx hl w).mono ?_
    rintro e w1 ⟨rfl, rfl⟩
    go_wp2_with fail
    refine (rcompare_any x hi hx hh w).mono ?_
    rintro e w1 ⟨rfl, rfl⟩
    go_wp2
    go_ret
    exact ⟨by rw [Hv.out]; rfl, rfl⟩
end Go.Proofs.Ytancncclgeomeaa
