/-
  Plain mathematics: a float64 number between -2^40 and 2^40 has a whole part that is told. No program is named here.
-/
import Derived.Test.YtancncclgeomeaaFltO
import Derived.Laws.FloatArith
import Derived.Laws.NewFold
namespace Go.Proofs.Ytancncclgeomeaa

/-- The rung of 2^40. -/
def r40 : Nat := 4787326403894837248
def p1074 : Nat := 1074
theorem val40 : valF r40 = 1099511627776 * 2 ^ p1074 := by decide +kernel
theorem val_le {r : Nat} (h : r ≤ r40) : valF r ≤ 1099511627776 * 2 ^ p1074 := by
  rcases Nat.lt_or_eq_of_le h with h | h
  · rw [← val40]
    exact Nat.le_of_lt (valF_mono h)
  · rw [h, val40]
    exact Nat.le_refl _
theorem cut_bd {n d v : Nat} (neg : Bool) (h : n ≤ v * 2 ^ d) : Ieee.Toward.zero.cut neg n d ≤ v := by
  unfold Ieee.Toward.cut
  simp only [Bool.toNat_false, Nat.add_zero]
  rw [Nat.shiftLeft_eq, Nat.one_mul]
  by_cases hd : d ≤ n.log2 + 2
  · rw [Nat.min_eq_left hd]
    exact Nat.div_le_of_le_mul (by rw [Nat.mul_comm]; exact h)
  · rw [Nat.min_eq_right (by omega)]
    have hlt : n < 2 ^ (n.log2 + 2) := Nat.lt_of_lt_of_le Nat.lt_log2_self (Nat.pow_le_pow_right (by omega) (by omega))
    rw [Nat.div_eq_of_lt hlt]
    exact Nat.zero_le _
theorem whole_some {b : Nat} (h : rungF b ≤ r40) : ∃ n : Int, floatToIntVal .f64 b .i64 = some n ∧ -1099511627776 ≤ n ∧ n ≤ 1099511627776 := by
  have hi : r40 < infR := by decide
  obtain ⟨m, i, e, hl, hv⟩ := read_num (b := b) (by omega)
  have hv2 := val_le h
  rw [← hv] at hv2
  have hc : Ieee.Toward.zero.cut (negF b) (m <<< i.toNat) (-i).toNat ≤ 1099511627776 := by
    apply cut_bd
    rw [Nat.shiftLeft_eq]
    have hp : 0 < 2 ^ p1074 := Nat.two_pow_pos _
    have hlp : lp = -1074 := rfl
    have hpp : p1074 = 1074 := rfl
    have key : m * 2 ^ i.toNat * 2 ^ p1074 ≤ 1099511627776 * 2 ^ (-i).toNat * 2 ^ p1074 := by
      have e1 : m * 2 ^ i.toNat * 2 ^ p1074 = m * 2 ^ (i - lp).toNat * 2 ^ (-i).toNat := by
        rw [Nat.mul_assoc, Nat.mul_assoc, ← Nat.pow_add, ← Nat.pow_add, show i.toNat + p1074 = (i - lp).toNat + (-i).toNat by omega]
      have e2 : 1099511627776 * 2 ^ (-i).toNat * 2 ^ p1074 = 1099511627776 * 2 ^ p1074 * 2 ^ (-i).toNat := Nat.mul_right_comm _ _ _
      rw [e1, e2]
      exact Nat.mul_le_mul_right _ hv2
    exact Nat.le_of_mul_le_mul_right key hp
  have hd : (FloatKind.f64.decode b).toInt .zero = some (sg (negF b) (Ieee.Toward.zero.cut (negF b) (m <<< i.toNat) (-i).toNat)) := by
    show (Ieee.double.read b).toInt .zero = _
    rw [e]
    show some (Ieee.signed _ _ 0) = _
    rw [signed_eq]
    simp
  refine ⟨sg (negF b) (Ieee.Toward.zero.cut (negF b) (m <<< i.toNat) (-i).toNat), ?_, ?_, ?_⟩
  · unfold floatToIntVal
    rw [hd]
    show (if IntKind.i64.min ≤ _ ∧ _ ≤ IntKind.i64.max then _ else _) = _
    have m1 : IntKind.i64.min = -9223372036854775808 := by decide
    have m2 : IntKind.i64.max = 9223372036854775807 := by decide
    rw [m1, m2, if_pos]
    unfold sg
    split <;> omega
  · unfold sg
    split <;> omega
  · unfold sg
    split <;> omega

/-- A float operation, whatever comes of it: the bits that are told, or a NaN that the tape tells. -/
theorem run_float_any {P : Program} (op : BinOp) (hop : op = .add ∨ op = .sub ∨ op = .mul ∨ op = .quo) (t : TypeId) (x y : Nat) (w : World) :
    (∃ r, floatBits op .f64 x y = some r ∧ (binOp op t (.float .f64 x) (.float .f64 y)).run P w = .ok (.float .f64 r) w) ∨
    (floatBits op .f64 x y = none ∧ ∃ r, isNan r = true ∧ r < 18446744073709551616 ∧ (binOp op t (.float .f64 x) (.float .f64 y)).run P w = .ok (.float .f64 r) w.drew) := by
  cases h : floatBits op .f64 x y with
  | some r => exact .inl ⟨r, rfl, run_float_arith w op t .f64 x y r h⟩
  | none =>
    right
    refine ⟨rfl, (Question.nanBits .f64 x y).cut (w.tape w.drawn (.nanBits .f64 x y)), ?_, ?_, ?_⟩
    · generalize w.tape w.drawn (.nanBits .f64 x y) = k
      show decide (infR < ((k % 2) * 2 ^ 63 + 9218868437227405312 + 1 + (k / 2) % (2 ^ 52 - 1)) % sg63) = true
      unfold infR sg63
      rw [decide_eq_true_iff]
      have hf : (k / 2) % (2 ^ 52 - 1) < 4503599627370495 := Nat.mod_lt _ (by decide)
      generalize (k / 2) % (2 ^ 52 - 1) = f at *
      have e : (k % 2 * 2 ^ 63 + 9218868437227405312 + 1 + f) % 9223372036854775808 = 9218868437227405313 + f := by
        rw [show k % 2 * 2 ^ 63 + 9218868437227405312 + 1 + f = (9218868437227405313 + f) + (k % 2) * 9223372036854775808 by omega, Nat.add_mul_mod_self_right, Nat.mod_eq_of_lt (by omega)]
      rw [e]
      omega
    · generalize w.tape w.drawn (.nanBits .f64 x y) = k
      show (k % 2) * 2 ^ 63 + 9218868437227405312 + 1 + (k / 2) % (2 ^ 52 - 1) < 18446744073709551616
      omega
    · rcases hop with rfl | rfl | rfl | rfl <;> (unfold floatBits at h; simp only at h; simp [binOp, Op.floatArith, h, Question.forced])
end Go.Proofs.Ytancncclgeomeaa
