/-
  Contracts of layer 4: cmp.Compare, real.Compare, real.Same, real.Kind, and the reference's none, Kind, Same, Compare.
-/
import Derived.Test.YtancncclgeomeaaFltC
import Derived.StillTailTactics
namespace Go.Proofs.Ytancncclgeomeaa
open Go.RowKit
set_option linter.unusedVariables false

/-- What a region's still step asks for. -/
theorem still_at {P : Program} {f : Nat} {args : Array Value} {v : Value} {w : World} (h : Calls P f args w fun e w' => e = .returned v ∧ w = w') : Calls P f args w fun e w' => e = .returned v ∧ w' = w :=
  h.mono fun _ _ h => ⟨h.1, h.2.symm⟩
/-- cmp.Compare at two words. -/
def cmpU (x y : Nat) : Int := if x < y then -1 else if y < x then 1 else 0
theorem isnanU_any (x : Nat) (w : World) : Calls Try.prog 38 #[.int .u64 (x : Int)] w fun e w' => e = .returned (.bool false) ∧ w = w' := by
  go_enter Try.func38, Try.ntmps38
  go_wp2
  go_ret
  exact ⟨by simp, rfl⟩
theorem cmpU_any (x y : Nat) (w : World) : Calls Try.prog 34 #[.int .u64 (x : Int), .int .u64 (y : Int)] w fun e w' => e = .returned (.int .i64 (cmpU x y)) ∧ w = w' := by
  have hv : cmpU x y = if x < y then -1 else if y < x then 1 else 0 := rfl
  have Hv := Lib.hid hv
  clear hv
  by_cases h1 : x < y
  · have d1 : decide ((x : Int) < (y : Int)) = true := decide_eq_true (by omega)
    go_enter Try.func34, Try.ntmps34
    go_wp2_with fail
    refine (isnanU_any x w).mono ?_
    rintro e w1 ⟨rfl, rfl⟩
    go_wp2_with fail
    refine (isnanU_any y w).mono ?_
    rintro e w1 ⟨rfl, rfl⟩
    go_wp2
    go_ret
    exact ⟨by rw [Hv.out, if_pos h1]; rfl, rfl⟩
  · have d1 : decide ((x : Int) < (y : Int)) = false := decide_eq_false (by omega)
    by_cases h2 : y < x
    · have d2 : decide ((y : Int) < (x : Int)) = true := decide_eq_true (by omega)
      go_enter Try.func34, Try.ntmps34
      go_wp2_with fail
      refine (isnanU_any x w).mono ?_
      rintro e w1 ⟨rfl, rfl⟩
      go_wp2_with fail
      refine (isnanU_any y w).mono ?_
      rintro e w1 ⟨rfl, rfl⟩
      go_wp2
      go_ret
      exact ⟨by rw [Hv.out, if_neg h1, if_pos h2]; rfl, rfl⟩
    · have d2 : decide ((y : Int) < (x : Int)) = false := decide_eq_false (by omega)
      go_enter Try.func34, Try.ntmps34
      go_wp2_with fail
      refine (isnanU_any x w).mono ?_
      rintro e w1 ⟨rfl, rfl⟩
      go_wp2_with fail
      refine (isnanU_any y w).mono ?_
      rintro e w1 ⟨rfl, rfl⟩
      go_wp2
      go_ret
      exact ⟨by rw [Hv.out, if_neg h1, if_neg h2]; rfl, rfl⟩
theorem cmpU_rank (a b : Nat) (ha : a < 18446744073709551616) (hb : b < 18446744073709551616) : cmpU (rankU a) (rankU b) = cmpR a b := by
  obtain ⟨h1, h2⟩ := rankU_cmp a b ha hb
  unfold cmpU cmpR
  by_cases h : rankF a < rankF b
  · rw [if_pos h, if_pos (h1.2 h)]
  · rw [if_neg h, if_neg (fun x => h (h1.1 x))]
    by_cases h' : rankF a = rankF b
    · rw [if_pos h', if_neg (by have := h2.2 h'; omega)]
    · have : ¬ rankU a = rankU b := fun x => h' (h2.1 x)
      have : ¬ rankU a < rankU b := fun x => h (h1.1 x)
      rw [if_neg h', if_pos (by omega)]
theorem compareF_any (a b : Nat) (ha : a < 18446744073709551616) (hb : b < 18446744073709551616) (w : World) : Calls Try.prog 13 #[.float .f64 a, .float .f64 b] w fun e w' => e = .returned (.int .i64 (cmpR a b)) ∧ w = w' := by
  have Hv := Lib.hid (cmpU_rank a b ha hb)
  go_enter Try.func13, Try.ntmps13
  go_wp2_with fail
  refine (rank_any a ha w).mono ?_
  rintro e w1 ⟨rfl, rfl⟩
  go_wp2_with fail
  refine (rank_any b hb w).mono ?_
  rintro e w1 ⟨rfl, rfl⟩
  go_wp2_with fail
  refine (cmpU_any _ _ w).mono ?_
  rintro e w1 ⟨rfl, rfl⟩
  go_wp2
  go_ret
  exact ⟨by rw [← Hv.out]; rfl, rfl⟩
theorem bits_same (a b : Nat) : (bitsF a = bitsF b) ↔ sameF a b = true := by
  have e : isNan 9221120237041090561 = true := by decide
  unfold bitsF sameF
  cases ha : isNan a <;> cases hb : isNan b <;> simp
  · rintro rfl
    rw [e] at ha
    exact Bool.noConfusion ha
  · rintro rfl
    rw [e] at hb
    exact Bool.noConfusion hb
theorem sameF_any (a b : Nat) (w : World) : Calls Try.prog 15 #[.float .f64 a, .float .f64 b] w fun e w' => e = .returned (.bool (sameF a b)) ∧ w = w' := by
  have Hv := Lib.hid (bits_same a b)
  go_enter Try.func15, Try.ntmps15
  go_wp2_with fail
  refine (bits_any a w).mono ?_
  rintro e w1 ⟨rfl, rfl⟩
  go_wp2_with fail
  refine (bits_any b w).mono ?_
  rintro e w1 ⟨rfl, rfl⟩
  go_wp2
  go_ret
  refine ⟨?_, rfl⟩
  have hb : ∀ p : Bool, p = sameF a b → Ending.returned (.bool p) = Ending.returned (.bool (sameF a b)) := fun p h => by rw [h]
  refine hb _ ?_
  rw [Bool.eq_iff_iff, ← Hv.out, beq_iff_eq]
  omega
/-- The kind of a rung. -/
def kindR (r : Nat) : Int := if infR < r then 0 else if r = infR then 1 else if r = 0 then 2 else if r < bin52 then 3 else 4
theorem size_any (r : Nat) (w : World) : Calls Try.prog 28 #[.int .u64 (r : Int)] w fun e w' => e = .returned (.int .i64 (kindR r)) ∧ w = w' := by
  have hv : kindR r = if 9218868437227405312 < r then 0 else if r = 9218868437227405312 then 1 else if r = 0 then 2 else if r < 4503599627370496 then 3 else 4 := rfl
  have Hv := Lib.hid hv
  clear hv
  by_cases h1 : 9218868437227405312 < r
  · have d1 : decide (9218868437227405312 < (r : Int)) = true := decide_eq_true (by omega)
    go_enter Try.func28, Try.ntmps28
    go_wp2
    go_ret
    exact ⟨by rw [Hv.out, if_pos h1]; rfl, rfl⟩
  · have d1 : decide (9218868437227405312 < (r : Int)) = false := decide_eq_false (by omega)
    by_cases h2 : r = 9218868437227405312
    · subst h2
      clear Hv
      go_enter Try.func28, Try.ntmps28
      go_wp2
      go_ret
      exact ⟨by rfl, rfl⟩
    · have d2 : ((r : Int) == 9218868437227405312) = false := by rw [beq_eq_false_iff_ne]; omega
      by_cases h3 : 4503599627370495 < r
      · have d3 : decide (4503599627370495 < (r : Int)) = true := decide_eq_true (by omega)
        go_enter Try.func28, Try.ntmps28
        go_wp2
        go_ret
        exact ⟨by rw [Hv.out, if_neg h1, if_neg h2, if_neg (by omega), if_neg (by omega)]; rfl, rfl⟩
      · have d3 : decide (4503599627370495 < (r : Int)) = false := decide_eq_false (by omega)
        by_cases h4 : 0 < r
        · have d4 : decide (0 < (r : Int)) = true := decide_eq_true (by omega)
          go_enter Try.func28, Try.ntmps28
          go_wp2
          go_ret
          exact ⟨by rw [Hv.out, if_neg h1, if_neg h2, if_neg (by omega), if_pos (by omega)]; rfl, rfl⟩
        · obtain rfl : r = 0 := by omega
          go_enter Try.func28, Try.ntmps28
          go_wp2
          go_ret
          exact ⟨by rw [Hv.out]; rfl, rfl⟩
theorem kind_bits (b : Nat) : kindR (rungF (bitsF b)) = kindF b := by
  unfold bitsF
  by_cases h : isNan b = true
  · rw [if_pos h]
    unfold isNan at h
    rw [show kindF b = 0 from if_pos (by simpa using h)]
    decide
  · rw [if_neg h]
    rfl
/-- The two answers of Kind. -/
def kindV (b : Nat) : Value := .tuple #[.int .i64 (kindF b), .bool (negF (bitsF b))]
theorem kind_any (b : Nat) (hb : b < 18446744073709551616) (w : World) : Calls Try.prog 8 #[.float .f64 b] w fun e w' => e = .returned (kindV b) ∧ w = w' := by
  have hl := bitsF_lt b hb
  have ha := and_sign _ hl
  have hn := andNot_sign _ hl
  have Hv := Lib.hid (kind_bits b)
  cases h : negF (bitsF b)
  · have hk : kindV b = .tuple #[.int .i64 (kindF b), .bool false] := by unfold kindV; rw [h]
    have Hk := Lib.hid hk
    rw [h] at ha
    clear hk
    go_enter Try.func8, Try.ntmps8
    go_wp2_with fail
    refine (bits_any b w).mono ?_
    rintro e w1 ⟨rfl, rfl⟩
    go_wp2_with fail
    refine (size_any _ w).mono ?_
    rintro e w1 ⟨rfl, rfl⟩
    rw [Hv.out]
    go_wp2
    go_ret2
    exact ⟨by rw [Hk.out]; rfl, rfl⟩
  · have hk : kindV b = .tuple #[.int .i64 (kindF b), .bool true] := by unfold kindV; rw [h]
    have Hk := Lib.hid hk
    rw [h] at ha
    clear hk
    go_enter Try.func8, Try.ntmps8
    go_wp2_with fail
    refine (bits_any b w).mono ?_
    rintro e w1 ⟨rfl, rfl⟩
    go_wp2_with fail
    refine (size_any _ w).mono ?_
    rintro e w1 ⟨rfl, rfl⟩
    rw [Hv.out]
    go_wp2
    go_ret2
    exact ⟨by rw [Hk.out]; rfl, rfl⟩
theorem none_any (b : Nat) (w : World) : Calls Try.prog 36 #[.float .f64 b] w fun e w' => e = .returned (.bool (isNan b)) ∧ w = w' := by
  have Hn := Lib.hid (nan_self b)
  go_enter Try.func36, Try.ntmps36
  go_wp2
  go_ret
  exact ⟨by rw [← Hn.out]; rfl, rfl⟩
end Go.Proofs.Ytancncclgeomeaa
