/-
  Contracts of layer 4's small functions: math.IsNaN, the reference's none, real.Bits, real.Same, real.Kind, real.rank, cmp.Compare, real.Compare.
-/
import Derived.Test.YtancncclgeomeaaFltI
import Derived.Test.YtancncclgeomeaaRet
import Derived.WalkLawsBesides
import Derived.Laws.Externs
namespace Go.Proofs.Ytancncclgeomeaa
open Go.RowKit
set_option linter.unusedVariables false

theorem run_bitsOf (b : Nat) (w : World) : (callFunc 29 #[.float .f64 b]).run Try.prog w = .ok (.value (.int .u64 (b : Int))) w := by
  rw [run_callFunc_extern Try.func29 (by kernel_rfl) (by kernel_rfl) (by kernel_rfl) (e := Extern.MathFloatBits.float64bits) (by kernel_rfl)]
  rfl
theorem run_ofBits (n : Nat) (w : World) : (callFunc 7 #[.int .u64 (n : Int)]).run Try.prog w = .ok (.value (.float .f64 n)) w := by
  rw [run_callFunc_extern Try.func7 (by kernel_rfl) (by kernel_rfl) (by kernel_rfl) (e := Extern.MathFloatBits.float64frombits) (by kernel_rfl)]
  rfl

theorem isnan_any (b : Nat) (w : World) : Calls Try.prog 10 #[.float .f64 b] w fun e w' => e = .returned (.bool (isNan b)) ∧ w = w' := by
  have Hn := Lib.hid (nan_self b)
  go_enter Try.func10, Try.ntmps10
  go_wp2
  go_ret
  exact ⟨by rw [← Hn.out]; rfl, rfl⟩

/-- The bits of a number, the same ones for each that is none. -/
def bitsF (b : Nat) : Nat := if isNan b then 9221120237041090561 else b
theorem bits_any (b : Nat) (w : World) : Calls Try.prog 11 #[.float .f64 b] w fun e w' => e = .returned (.int .u64 (bitsF b : Int)) ∧ w = w' := by
  have hx := run_bitsOf
  by_cases h : isNan b = true
  · have hv : bitsF b = 9221120237041090561 := if_pos h
    have Hv := Lib.hid hv
    clear hv
    go_enter Try.func11, Try.ntmps11
    go_wp2_with fail
    refine (isnan_any b w).mono ?_
    rintro e w1 ⟨rfl, rfl⟩
    go_wp2
    go_ret
    exact ⟨by rw [Hv.out]; rfl, rfl⟩
  · have h' : isNan b = false := by simpa using h
    have hv : bitsF b = b := if_neg h
    have Hv := Lib.hid hv
    clear hv h
    go_enter Try.func11, Try.ntmps11
    go_wp2_with fail
    refine (isnan_any b w).mono ?_
    rintro e w1 ⟨rfl, rfl⟩
    go_wp2
    go_ret
    exact ⟨by rw [Hv.out]; rfl, rfl⟩

/-- The sign's bit. -/
theorem and_sign (b : Nat) (hb : b < 18446744073709551616) : bits .and .u64 (b : Int) 9223372036854775808 = if negF b then 9223372036854775808 else 0 := by
  have e : (9223372036854775808 : Int) = ((9223372036854775808 : Nat) : Int) := rfl
  rw [e, u64_and_nat _ _ hb (by decide)]
  unfold negF sg63
  have h2 : (9223372036854775808 : Nat) = 2 ^ 63 := by decide
  have ht : b / 9223372036854775808 % 2 = if b.testBit 63 then 1 else 0 := by
    rw [h2, Nat.testBit_eq_decide_div_mod_eq]
    have := Nat.mod_lt (b / 2 ^ 63) (show 0 < 2 by decide)
    by_cases hh : b / 2 ^ 63 % 2 = 1
    · rw [decide_eq_true hh, hh]; rfl
    · rw [decide_eq_false hh]; simp; omega
  have h3 : b &&& 9223372036854775808 = if b.testBit 63 then 9223372036854775808 else 0 := by
    have hp : ∀ i, Nat.testBit 9223372036854775808 i = decide (63 = i) := fun i => by rw [h2]; exact Nat.testBit_two_pow
    apply Nat.eq_of_testBit_eq
    intro i
    rw [Nat.testBit_and, hp]
    by_cases hi : 63 = i
    · subst hi
      cases hb63 : b.testBit 63 <;> simp [hp]
    · cases b.testBit 63 <;> simp [hi, hp]
  rw [h3, ht]
  cases b.testBit 63 <;> rfl
theorem andNot_sign (b : Nat) (hb : b < 18446744073709551616) : bits .andNot .u64 (b : Int) 9223372036854775808 = (rungF b : Int) := by
  have e : (9223372036854775808 : Int) = ((9223372036854775808 : Nat) : Int) := rfl
  rw [e, u64_andNot_nat _ _ hb (by decide)]
  unfold rungF sg63
  congr 1
  rw [show 18446744073709551615 - 9223372036854775808 = 2 ^ 63 - 1 by decide, Nat.and_two_pow_sub_one_eq_mod]
theorem or_sign (b : Nat) (hb : b < 9223372036854775808) : bits .or .u64 (b : Int) 9223372036854775808 = ((b + 9223372036854775808 : Nat) : Int) := by
  have e : (9223372036854775808 : Int) = ((9223372036854775808 : Nat) : Int) := rfl
  rw [e, u64_or_nat _ _ (by omega) (by decide)]
  congr 1
  rw [Nat.or_comm, show 9223372036854775808 = 2 ^ 63 * 1 by decide, ← Nat.two_pow_add_eq_or_of_lt (by omega)]
  omega
theorem not_word (b : Nat) (hb : b < 18446744073709551616) : bits .xor .u64 IntKind.u64.max (b : Int) = ((18446744073709551615 - b : Nat) : Int) := by
  have e : IntKind.u64.max = ((18446744073709551615 : Nat) : Int) := by decide
  rw [e, u64_xor_nat _ _ (by decide) hb]
  congr 1
  have h2 := congrArg BitVec.toNat (BitVec.not_def (x := BitVec.ofNat 64 b))
  rw [BitVec.toNat_not, BitVec.toNat_xor, BitVec.toNat_ofNat, Nat.mod_eq_of_lt (by omega), BitVec.toNat_allOnes] at h2
  exact h2.symm

theorem bitsF_lt (b : Nat) (hb : b < 18446744073709551616) : bitsF b < 18446744073709551616 := by
  unfold bitsF
  split <;> omega
theorem neg_iff (b : Nat) (hb : b < 18446744073709551616) : negF b = decide (9223372036854775808 ≤ b) := by
  unfold negF sg63
  rw [Bool.eq_iff_iff, beq_iff_eq, decide_eq_true_iff]
  omega
theorem rung_of_pos {b : Nat} (hb : b < 9223372036854775808) : rungF b = b := Nat.mod_eq_of_lt hb
theorem rung_of_neg {b : Nat} (h : 9223372036854775808 ≤ b) (hb : b < 18446744073709551616) : rungF b = b - 9223372036854775808 := by
  unfold rungF sg63
  omega

/-- The number by which real.rank orders. -/
def rankU (b : Nat) : Nat := if negF (bitsF b) then 18446744073709551615 - bitsF b else bitsF b + 9223372036854775808
theorem rankU_lt (b : Nat) (hb : b < 18446744073709551616) : rankU b < 18446744073709551616 := by
  have h := bitsF_lt b hb
  have hn := neg_iff _ h
  unfold rankU
  split
  · omega
  · rename_i h2
    rw [hn] at h2
    have : bitsF b < 9223372036854775808 := by simpa using h2
    omega
/-- Both ranks order alike. -/
theorem rankU_cmp (a b : Nat) (ha : a < 18446744073709551616) (hb : b < 18446744073709551616) : (rankU a < rankU b ↔ rankF a < rankF b) ∧ (rankU a = rankU b ↔ rankF a = rankF b) := by
  have key : ∀ x : Nat, x < 18446744073709551616 → (isNan x = true ∧ rankU x = 9221120237041090561 + 9223372036854775808 ∧ rankF x = 36893488147419103232) ∨ (isNan x = false ∧ ((rankU x = rungF x + 9223372036854775808 ∧ ((rungF x = 0 ∧ rankF x = 1) ∨ (0 < rungF x ∧ rankF x = 2 * (rungF x : Int)))) ∨ (rankU x = 9223372036854775807 - rungF x ∧ rankF x = -2 * (rungF x : Int))) ∧ rungF x ≤ 9218868437227405312) := by
    intro x hx
    by_cases h : isNan x = true
    · left
      refine ⟨h, ?_, rank_nan h⟩
      unfold rankU bitsF
      rw [if_pos h]
      rfl
    · have h' : isNan x = false := by simpa using h
      right
      refine ⟨h', ?_, ?_⟩
      · obtain ⟨_, hr⟩ := rank_num h'
        have hu : rankU x = if negF x then 18446744073709551615 - x else x + 9223372036854775808 := by
          unfold rankU bitsF
          rw [if_neg h]
        have hn := neg_iff x hx
        rcases hr with ⟨h1, _, h2⟩ | ⟨h1, _, h2⟩
        · left
          rw [h1] at hn
          have hlt : x < 9223372036854775808 := by
            have := hn.symm
            simpa using this
          rw [hu, h1, if_neg (by simp), rung_of_pos hlt]
          rw [rung_of_pos hlt] at h2
          exact ⟨rfl, h2⟩
        · right
          rw [h1] at hn
          have hge : 9223372036854775808 ≤ x := by
            have := hn.symm
            simpa using this
          rw [hu, h1, if_pos rfl, h2, rung_of_neg hge hx]
          exact ⟨by omega, rfl⟩
      · unfold isNan infR at h'
        simpa using h'
  have ra := key a ha
  have rb := key b hb
  rcases ra with ⟨_, a1, a2⟩ | ⟨_, ⟨a1, a2⟩ | ⟨a1, a2⟩, a3⟩ <;> rcases rb with ⟨_, b1, b2⟩ | ⟨_, ⟨b1, b2⟩ | ⟨b1, b2⟩, b3⟩ <;> omega

theorem rank_any (b : Nat) (hb : b < 18446744073709551616) (w : World) : Calls Try.prog 35 #[.float .f64 b] w fun e w' => e = .returned (.int .u64 (rankU b : Int)) ∧ w = w' := by
  have hl := bitsF_lt b hb
  have ha := and_sign _ hl
  have hn := neg_iff _ hl
  by_cases h : negF (bitsF b) = true
  · have hv : rankU b = 18446744073709551615 - bitsF b := if_pos h
    have Hv := Lib.hid hv
    rw [if_pos h] at ha
    have hx := not_word _ hl
    clear hv hn
    go_enter Try.func35, Try.ntmps35
    go_wp2_with fail
    refine (bits_any b w).mono ?_
    rintro e w1 ⟨rfl, rfl⟩
    go_wp2
    go_ret
    exact ⟨by rw [Hv.out]; rfl, rfl⟩
  · have hv : rankU b = bitsF b + 9223372036854775808 := if_neg h
    have Hv := Lib.hid hv
    rw [if_neg h] at ha
    have hx := or_sign _ (show bitsF b < 9223372036854775808 by rw [hn] at h; simpa using h)
    clear hv hn
    go_enter Try.func35, Try.ntmps35
    go_wp2_with fail
    refine (bits_any b w).mono ?_
    rintro e w1 ⟨rfl, rfl⟩
    go_wp2
    go_ret
    exact ⟨by rw [Hv.out]; rfl, rfl⟩
end Go.Proofs.Ytancncclgeomeaa
