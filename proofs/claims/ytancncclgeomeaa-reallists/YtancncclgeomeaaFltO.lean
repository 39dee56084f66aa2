/-
  Plain mathematics: the chapter's order of all float64 numbers (layer 4), by a rank that is a whole number. No program is named here.
-/
import Derived.Test.YtancncclgeomeaaFlt
namespace Go.Proofs.Ytancncclgeomeaa

theorem nan_self (a : Nat) : (Ieee.double.order a a != some .eq) = isNan a := by
  unfold isNan
  by_cases h : infR < rungF a
  · rw [order_nan (.inl h), decide_eq_true h]
    rfl
  · rw [order_key (by omega) (by omega), decide_eq_false h]
    unfold cmpI
    rw [if_neg (by omega), if_pos rfl]
    rfl
theorem lt_key {a b : Nat} (ha : isNan a = false) (hb : isNan b = false) : (Ieee.double.order a b == some .lt) = decide (keyF a < keyF b) := by
  unfold isNan at ha hb
  rw [order_key (by simpa using ha) (by simpa using hb)]
  unfold cmpI
  by_cases h : keyF a < keyF b
  · rw [if_pos h, decide_eq_true h]
    rfl
  · rw [if_neg h, decide_eq_false h]
    split <;> rfl
theorem gt_key {a b : Nat} (ha : isNan a = false) (hb : isNan b = false) : (Ieee.double.order a b == some .gt) = decide (keyF b < keyF a) := by
  unfold isNan at ha hb
  rw [order_key (by simpa using ha) (by simpa using hb)]
  unfold cmpI
  by_cases h : keyF a < keyF b
  · rw [if_pos h, decide_eq_false (by omega)]
    rfl
  · rw [if_neg h]
    by_cases h' : keyF a = keyF b
    · rw [if_pos h', decide_eq_false (by omega)]
      rfl
    · rw [if_neg h', decide_eq_true (by omega)]
      rfl
theorem eq_key {a b : Nat} (ha : isNan a = false) (hb : isNan b = false) : (Ieee.double.order a b == some .eq) = decide (keyF a = keyF b) := by
  unfold isNan at ha hb
  rw [order_key (by simpa using ha) (by simpa using hb)]
  unfold cmpI
  by_cases h : keyF a < keyF b
  · rw [if_pos h, decide_eq_false (by omega)]
    rfl
  · rw [if_neg h]
    by_cases h' : keyF a = keyF b
    · rw [if_pos h', decide_eq_true h']
      rfl
    · rw [if_neg h', decide_eq_false h']
      rfl
theorem nan_order {a b : Nat} (h : isNan a = true ∨ isNan b = true) : Ieee.double.order a b = none := by
  unfold isNan at h
  exact order_nan (by simpa using h)

/-- Both are none, or both have the same bits. -/
def sameF (a b : Nat) : Bool := if isNan a || isNan b then isNan a && isNan b else a == b
/-- Where a number stands among all: twice its rung with its sign, +0 one above -0, what is none above all. -/
def rankF (b : Nat) : Int := if isNan b then 36893488147419103232 else 2 * keyF b + (if rungF b = 0 ∧ negF b = false then 1 else 0)
/-- The answer of Compare. -/
def cmpR (a b : Nat) : Int := if rankF a < rankF b then -1 else if rankF a = rankF b then 0 else 1
theorem rung_lt (b : Nat) : rungF b < sg63 := Nat.mod_lt b (by decide)
theorem key_bd (b : Nat) : -(sg63 : Int) < keyF b ∧ keyF b < (sg63 : Int) := by
  have := rung_lt b
  unfold keyF
  split <;> omega
theorem bits_eq {a b : Nat} (ha : a < 18446744073709551616) (hb : b < 18446744073709551616) : a = b ↔ rungF a = rungF b ∧ negF a = negF b := by
  constructor
  · rintro rfl
    exact ⟨rfl, rfl⟩
  · rintro ⟨h1, h2⟩
    unfold rungF negF sg63 at *
    have e1 := Nat.div_add_mod a 9223372036854775808
    have e2 := Nat.div_add_mod b 9223372036854775808
    have q1 : a / 9223372036854775808 < 2 := by omega
    have q2 : b / 9223372036854775808 < 2 := by omega
    rw [Nat.mod_eq_of_lt q1, Nat.mod_eq_of_lt q2] at h2
    have h3 : a / 9223372036854775808 = b / 9223372036854775808 := by
      have : (a / 9223372036854775808 = 1) ↔ (b / 9223372036854775808 = 1) := by
        rw [← beq_iff_eq (a := a / 9223372036854775808), ← beq_iff_eq (a := b / 9223372036854775808), h2]
      omega
    omega
theorem rank_nan {b : Nat} (h : isNan b = true) : rankF b = 36893488147419103232 := by unfold rankF; rw [if_pos h]
theorem rank_num {b : Nat} (h : isNan b = false) : rankF b < 36893488147419103232 ∧ ((negF b = false ∧ keyF b = (rungF b : Int) ∧ ((rungF b = 0 ∧ rankF b = 1) ∨ (0 < rungF b ∧ rankF b = 2 * (rungF b : Int)))) ∨ (negF b = true ∧ keyF b = -(rungF b : Int) ∧ rankF b = -2 * (rungF b : Int))) := by
  have r := rung_lt b
  have hs : (sg63 : Int) = 9223372036854775808 := rfl
  have hs' : sg63 = 9223372036854775808 := rfl
  unfold rankF keyF
  rw [if_neg (by simp [h])]
  cases hn : negF b
  · simp only [Bool.false_eq_true, if_false, and_true, true_and, false_and, or_false]
    by_cases z : rungF b = 0
    · rw [if_pos z, z]
      omega
    · rw [if_neg z]
      omega
  · simp only [if_true, and_false, false_and, true_and, false_or, Bool.true_eq_false, if_false]
    omega
theorem same_rank {a b : Nat} (ha : a < 18446744073709551616) (hb : b < 18446744073709551616) : sameF a b = decide (rankF a = rankF b) := by
  unfold sameF
  cases h1 : isNan a <;> cases h2 : isNan b
  · rw [if_neg (by simp), Bool.eq_iff_iff, beq_iff_eq, decide_eq_true_iff, bits_eq ha hb]
    obtain ⟨_, x⟩ := rank_num h1
    obtain ⟨_, y⟩ := rank_num h2
    rcases x with ⟨x1, _, x2⟩ | ⟨x1, _, x2⟩ <;> rcases y with ⟨y1, _, y2⟩ | ⟨y1, _, y2⟩ <;> rw [x1, y1]
    · simp only [and_true]; omega
    · simp only [and_false, false_iff, reduceCtorEq]; omega
    · simp only [and_false, false_iff, reduceCtorEq]; omega
    · simp only [and_true]; omega
  · rw [if_pos (by simp), rank_nan h2, decide_eq_false (by have := (rank_num h1).1; omega)]
    rfl
  · rw [if_pos (by simp), rank_nan h1, decide_eq_false (by have := (rank_num h2).1; omega)]
    rfl
  · rw [if_pos (by simp), rank_nan h1, rank_nan h2]
    rfl
theorem cmpR_neg (a b : Nat) : cmpR a b = -cmpR b a := by
  unfold cmpR
  split <;> split <;> (try split) <;> (try split) <;> omega
theorem cmpR_zero {a b : Nat} (ha : a < 18446744073709551616) (hb : b < 18446744073709551616) : decide (cmpR a b = 0) = sameF a b := by
  rw [same_rank ha hb]
  unfold cmpR
  by_cases h : rankF a = rankF b
  · rw [if_neg (by omega), if_pos h, decide_eq_true rfl, decide_eq_true h]
  · rw [decide_eq_false h]
    split
    · rfl
    · rfl
theorem cmpR_le (a b : Nat) : cmpR a b ≤ 0 ↔ rankF a ≤ rankF b := by
  unfold cmpR
  split
  · omega
  · split <;> omega
theorem cmpR_trans {a b c : Nat} (h1 : cmpR a b ≤ 0) (h2 : cmpR b c ≤ 0) : cmpR a c ≤ 0 := by
  rw [cmpR_le] at *
  omega
/-- How the reference reckons it. -/
theorem cmpR_ref {a b : Nat} (ha : a < 18446744073709551616) (hb : b < 18446744073709551616) :
    cmpR a b = if sameF a b then 0 else if isNan a then 1 else if isNan b || (Ieee.double.order a b == some .lt) then -1 else if Ieee.double.order a b == some .gt then 1 else if negF a then -1 else 1 := by
  rw [same_rank ha hb]
  by_cases h : rankF a = rankF b
  · rw [decide_eq_true h, if_pos rfl]
    unfold cmpR
    rw [if_neg (by omega), if_pos h]
  · rw [decide_eq_false h, if_neg (by simp)]
    unfold cmpR
    rw [if_neg (show ¬ rankF a = rankF b from h)]
    cases h1 : isNan a
    · rw [if_neg (show ¬ false = true by simp)]
      cases h2 : isNan b
      · rw [lt_key h1 h2, gt_key h1 h2, Bool.false_or]
        obtain ⟨_, x⟩ := rank_num h1
        obtain ⟨_, y⟩ := rank_num h2
        simp only [decide_eq_true_iff]
        rcases x with ⟨x1, x3, x2⟩ | ⟨x1, x3, x2⟩ <;> rcases y with ⟨y1, y3, y2⟩ | ⟨y1, y3, y2⟩ <;> rw [x1, x3, y3] <;> simp only [Bool.false_eq_true, if_false, if_true] <;> (split <;> (try split) <;> (try split) <;> omega)
      · rw [Bool.true_or, if_pos (show true = true from rfl), if_pos (by have := (rank_num h1).1; have := rank_nan h2; omega)]
    · rw [if_pos (show true = true from rfl)]
      cases h2 : isNan b
      · rw [if_neg (by have := (rank_num h2).1; have := rank_nan h1; omega)]
      · exact absurd ((rank_nan h1).trans (rank_nan h2).symm) h
/-- The kind of a number. -/
def kindF (b : Nat) : Int := if infR < rungF b then 0 else if rungF b = infR then 1 else if rungF b = 0 then 2 else if rungF b < bin52 then 3 else 4
end Go.Proofs.Ytancncclgeomeaa
