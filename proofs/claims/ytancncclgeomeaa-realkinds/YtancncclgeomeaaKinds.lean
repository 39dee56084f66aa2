/-
  The walk of the law RealKinds.
-/
import Derived.Test.YtancncclgeomeaaWorks4
namespace Go.Proofs.Ytancncclgeomeaa
open Go.RowKit
set_option linter.unusedVariables false

theorem kind_nan {b : Nat} (h : isNan b = true) : kindF b = 0 := by
  unfold isNan at h
  exact if_pos (by simpa using h)
theorem kind_num {b : Nat} (h : isNan b = false) : kindF b ≠ 0 := by
  unfold isNan at h
  unfold kindF
  rw [if_neg (by simpa using h)]
  split
  · decide
  · split
    · decide
    · split <;> decide

set_option maxHeartbeats 1000000 in
set_option maxRecDepth 100000 in
theorem kinds_any (b : Nat) (hb : b < 18446744073709551616) (w : World) :
    Calls Try.prog 3 #[.int .u64 (b : Int)] w fun e w' => e = .returned (.bool true) ∧ Below w.heap.size w w' := by
  have hx := run_ofBits
  cases h1 : isNan b
  · have hk : kindV b = .tuple #[.int .i64 (kindF b), .bool (negF b)] := by unfold kindV bitsF; rw [h1]; rfl
    have hr : rkindV b = .tuple #[.int .i64 (kindF b), .bool (negF b)] := rfl
    have hz : (kindF b == 0) = false := by rw [beq_eq_false_iff_ne]; exact kind_num h1
    have hbb : bitsF b = b := by unfold bitsF; rw [h1]; rfl
    have Hk := Lib.hid hk
    have Hr := Lib.hid hr
    have Hb := Lib.hid hbb
    clear hk hr hbb
    generalize kindF b = K at *
    generalize negF b = ng at *
    have hz2 : (K != 0) = true := by simp [bne, hz]
    go_enter Try.func3, Try.ntmps3
    go_wp2_with fail
    refine (kind_any b hb w).mono ?_
    rintro e w1 ⟨rfl, rfl⟩
    rw [Hk.out]
    go_wp2_with fail
    refine (rkind_any b hb w).mono ?_
    rintro e w1 ⟨rfl, rfl⟩
    rw [Hr.out]
    go_wp2_with fail
    refine (isnan_any b w).mono ?_
    rintro e w1 ⟨rfl, rfl⟩
    go_wp2_with fail
    refine (bits_any b w).mono ?_
    rintro e w1 ⟨rfl, rfl⟩
    rw [Hb.out]
    go_wp2_with fail
    refine (works04_any w).mono ?_
    rintro e w1 ⟨rfl, hb1⟩
    go_wp2
    go_ret
    exact ⟨rfl, hb1⟩
  · have hk : kindV b = .tuple #[.int .i64 0, .bool (negF (bitsF b))] := by unfold kindV; rw [kind_nan h1]
    have hr : rkindV b = .tuple #[.int .i64 0, .bool (negF b)] := by unfold rkindV; rw [kind_nan h1]
    have hbb : bitsF b = 9221120237041090561 := by unfold bitsF; rw [h1]; rfl
    have hn : isNan 9221120237041090561 = true := by decide
    have Hk := Lib.hid hk
    have Hr := Lib.hid hr
    have Hb := Lib.hid hbb
    have hy : ∀ w, (callFunc 7 #[.int .u64 9221120237041090561]).run Try.prog w = .ok (.value (.float .f64 9221120237041090561)) w := fun w => run_ofBits 9221120237041090561 w
    clear hk hr hbb
    generalize negF (bitsF b) = ng at *
    generalize negF b = ng' at *
    go_enter Try.func3, Try.ntmps3
    go_wp2_with fail
    refine (kind_any b hb w).mono ?_
    rintro e w1 ⟨rfl, rfl⟩
    rw [Hk.out]
    go_wp2_with fail
    refine (rkind_any b hb w).mono ?_
    rintro e w1 ⟨rfl, rfl⟩
    rw [Hr.out]
    go_wp2_with fail
    refine (isnan_any b w).mono ?_
    rintro e w1 ⟨rfl, rfl⟩
    go_wp2_with fail
    refine (bits_any b w).mono ?_
    rintro e w1 ⟨rfl, rfl⟩
    rw [Hb.out]
    go_wp2_with fail
    refine (isnan_any _ w).mono ?_
    rintro e w1 ⟨rfl, rfl⟩
    rw [hn]
    go_wp2_with fail
    refine (works04_any w).mono ?_
    rintro e w1 ⟨rfl, hb1⟩
    go_wp2
    go_ret
    exact ⟨rfl, hb1⟩
end Go.Proofs.Ytancncclgeomeaa
