/-
  The examples of layer 4's laws: works answers true.
-/
import Derived.Test.YtancncclgeomeaaFltG
namespace Go.Proofs.Ytancncclgeomeaa
open Go.RowKit
set_option linter.unusedVariables false

theorem kind_m0 : kindV 9223372036854775808 = .tuple #[.int .i64 2, .bool true] := by kernel_rfl
theorem whole_a : wholeV 13837084675114480435 = .tuple #[.int .i64 (-2), .int .i64 0] := by kernel_rfl
theorem whole_b : wholeV 9221120237041090561 = .tuple #[.int .i64 0, .int .i64 1] := by kernel_rfl
theorem whole_c : wholeV 9218868437227405312 = .tuple #[.int .i64 0, .int .i64 2] := by kernel_rfl
theorem span_a : leastF [9221120237041090561, 4611686018427387904, 13830554455654793216] = 13830554455654793216 := by kernel_rfl
theorem span_b : greatestF [9221120237041090561, 4611686018427387904, 13830554455654793216] = 4611686018427387904 := by kernel_rfl
theorem cmp_a : cmpR 9223372036854775808 0 = -1 := by kernel_rfl
theorem cmp_b : cmpR 9221120237041090561 9218868437227405312 = 1 := by kernel_rfl
theorem same_a : sameF 9221120237041090561 9221120237041090561 = true := by kernel_rfl
theorem quo_a : quoF 0 0 = none := by kernel_rfl
theorem quo_b : quoF 1 0 = some 9218868437227405312 := by kernel_rfl
theorem quo_c : quoF 1 2 = some 4602678819172646912 := by kernel_rfl
theorem isinf_a : (FloatKind.f64.format.order 9218868437227405312 9218868437227405311 == some .gt) = true := by kernel_rfl
theorem eq_half : (FloatKind.f64.format.order 4602678819172646912 4602678819172646912 == some .eq) = true := by kernel_rfl
theorem eq_m1 : (FloatKind.f64.format.order 13830554455654793216 13830554455654793216 == some .eq) = true := by kernel_rfl
theorem eq_2 : (FloatKind.f64.format.order 4611686018427387904 4611686018427387904 == some .eq) = true := by kernel_rfl
theorem mean_a : meanF [4607182418800017408, 4611686018427387904] = some 4609434218613702656 := by kernel_rfl
theorem eq_15 : (FloatKind.f64.format.order 4609434218613702656 4609434218613702656 == some .eq) = true := by kernel_rfl
theorem bits_1 : bitsF 4607182418800017408 = 4607182418800017408 := by kernel_rfl
theorem clamp_a : clampF 4617315517961601024 0 4611686018427387904 = 4611686018427387904 := by kernel_rfl

set_option maxHeartbeats 1000000 in
set_option maxRecDepth 100000 in
theorem works04_any (w : World) : Calls Try.prog 12 #[] w fun e w' => e = .returned (.bool true) ∧ Below w.heap.size w w' := by
  go_enter Try.func12, Try.ntmps12
  go_wp2_with fail
  refine (minus0_any w).mono ?_
  rintro e w1 ⟨rfl, rfl⟩
  go_wp2_with fail
  refine (kind_any _ (by decide) w).mono ?_
  rintro e w1 ⟨rfl, rfl⟩
  rw [kind_m0]
  go_wp2_with fail
  refine (whole_any _ w).mono ?_
  rintro e w1 ⟨rfl, rfl⟩
  rw [whole_a]
  go_wp2_with fail
  refine (nan_any w).mono ?_
  rintro e w1 ⟨rfl, rfl⟩
  go_wp2_with fail
  refine (whole_any _ w).mono ?_
  rintro e w1 ⟨rfl, rfl⟩
  rw [whole_b]
  go_wp2_with fail
  refine (inf_up w).mono ?_
  rintro e w1 ⟨rfl, rfl⟩
  go_wp2_with fail
  refine (whole_any _ w).mono ?_
  rintro e w1 ⟨rfl, rfl⟩
  rw [whole_c]
  go_wp2_with fail
  refine (nan_any w).mono ?_
  rintro e w1 ⟨rfl, rfl⟩
  go_wp2_with fail
  refine (span_any _ _ _ [9221120237041090561, 4611686018427387904, 13830554455654793216] _ (w.heap.size + 1) (LiesV.lit w #[.float .f64 9221120237041090561, .float .f64 4611686018427387904, .float .f64 13830554455654793216] 23 _ (by omega)) (by unfold W64; decide) rfl (by decide)).mono ?_
  rintro e w1 ⟨rfl, rfl⟩
  rw [span_a, span_b]
  have hb0 : Below w.heap.size w (w.alloc (.cells #[.float .f64 9221120237041090561, .float .f64 4611686018427387904, .float .f64 13830554455654793216] 23)) := (Below.refl _ _).alloc (Nat.le_refl _) _
  generalize w.alloc _ = w0 at *
  go_wp2_with fail
  refine (minus0_any w0).mono ?_
  rintro e w1 ⟨rfl, rfl⟩
  go_wp2_with fail
  refine (compareF_any _ _ (by decide) (by decide) w0).mono ?_
  rintro e w1 ⟨rfl, rfl⟩
  rw [cmp_a]
  go_wp2_with fail
  refine (nan_any w0).mono ?_
  rintro e w1 ⟨rfl, rfl⟩
  go_wp2_with fail
  refine (inf_up w0).mono ?_
  rintro e w1 ⟨rfl, rfl⟩
  go_wp2_with fail
  refine (compareF_any _ _ (by decide) (by decide) w0).mono ?_
  rintro e w1 ⟨rfl, rfl⟩
  rw [cmp_b]
  go_wp2_with fail
  refine (nan_any w0).mono ?_
  rintro e w1 ⟨rfl, rfl⟩
  go_wp2_with fail
  refine (nan_any w0).mono ?_
  rintro e w1 ⟨rfl, rfl⟩
  go_wp2_with fail
  refine (sameF_any _ _ w0).mono ?_
  rintro e w1 ⟨rfl, rfl⟩
  rw [same_a]
  go_wp2_with fail
  refine (part_any 0 0 w0).mono ?_
  rintro e w1 ⟨r1, rfl, hr1, ht1, hb1⟩
  rw [quo_a] at ht1
  have hn1 : isNan r1 = true := ht1
  clear ht1 hr1
  go_wp2_with fail
  refine (isnan_any r1 w1).mono ?_
  rintro e w1' ⟨rfl, rfl⟩
  rw [hn1]
  go_wp2_with fail
  refine (part_any 1 0 w1).mono ?_
  rintro e w2 ⟨r2, rfl, hr2, ht2, hb2⟩
  rw [quo_b] at ht2
  obtain rfl : r2 = 9218868437227405312 := ht2
  clear hr2
  go_wp2_with fail
  refine (isinf_up _ w2).mono ?_
  rintro e w2' ⟨rfl, rfl⟩
  rw [isinf_a]
  go_wp2_with fail
  refine (part_any 1 2 w2).mono ?_
  rintro e w3 ⟨r3, rfl, hr3, ht3, hb3⟩
  rw [quo_c] at ht3
  obtain rfl : r3 = 4602678819172646912 := ht3
  clear hr3
  have q1 := eq_half
  have q2 := eq_m1
  have q3 := eq_2
  go_wp2_with fail
  have hb4 : Below w3.heap.size w3 (w3.alloc (.cells #[.float .f64 4607182418800017408, .float .f64 4611686018427387904] 23)) := (Below.refl _ _).alloc (Nat.le_refl _) _
  have hl4 := LiesV.lit w3 #[.float .f64 4607182418800017408, .float .f64 4611686018427387904] 23 (w3.alloc (.cells #[.float .f64 4607182418800017408, .float .f64 4611686018427387904] 23)).heap.size (by simp)
  generalize w3.alloc _ = w4 at *
  refine (mean_any _ _ _ [4607182418800017408, 4611686018427387904] _ hl4 rfl (by decide)).mono ?_
  rintro e w5 ⟨r4, rfl, hr4, ht4, hb5⟩
  rw [mean_a] at ht4
  obtain rfl : r4 = 4609434218613702656 := ht4
  clear hr4 hl4
  have q4 := eq_15
  go_wp2_with fail
  refine (bits_any _ w5).mono ?_
  rintro e w5' ⟨rfl, rfl⟩
  rw [bits_1]
  go_wp2_with fail
  refine (clamp_any _ _ _ (by decide) (by decide) (by decide) w5).mono ?_
  rintro e w5' ⟨rfl, rfl⟩
  rw [clamp_a]
  go_wp2
  go_ret
  exact ⟨rfl, below_seq (below_seq (below_seq (below_seq (below_seq hb0 hb1) hb2) hb3) hb4) hb5⟩
end Go.Proofs.Ytancncclgeomeaa
