/-
  Plain mathematics: the order of float64 numbers is the order of their bits, the sign apart. No program is named here.
-/
import GoSem.Core.Float
namespace Go.Proofs.Ytancncclgeomeaa

/-- Rungs to a binade; the rung of what is endless; the weight of the sign. -/
def bin52 : Nat := 4503599627370496
def infR : Nat := 9218868437227405312
def sg63 : Nat := 9223372036854775808
def rungF (b : Nat) : Nat := b % sg63
def negF (b : Nat) : Bool := b / sg63 % 2 == 1
def isNan (b : Nat) : Bool := decide (infR < rungF b)
/-- What a rung stands for, in units of the least place. -/
def valF (r : Nat) : Nat := if r < bin52 then r else (bin52 + r % bin52) * 2 ^ (r / bin52 - 1)
/-- Where a number stands: the rung with its sign. -/
def keyF (b : Nat) : Int := if negF b then -(rungF b : Int) else (rungF b : Int)
def svalF (b : Nat) : Int := if negF b then -(valF (rungF b) : Int) else (valF (rungF b) : Int)
def cmpI (x y : Int) : Ordering := if x < y then .lt else if x = y then .eq else .gt
theorem cmpI_eq (x y : Int) : compare x y = cmpI x y := rfl

theorem valF_low {r : Nat} (h : r < bin52) : valF r = r := if_pos h
theorem valF_bd (r : Nat) (h : ¬ r < bin52) : bin52 * 2 ^ (r / bin52 - 1) ≤ valF r ∧ valF r < bin52 * 2 ^ (r / bin52) := by
  unfold valF
  rw [if_neg h]
  have hB : 0 < bin52 := by decide
  have hq : 1 ≤ r / bin52 := (Nat.one_le_div_iff hB).2 (by omega)
  have hm := Nat.mod_lt r hB
  have e : 2 ^ (r / bin52) = 2 * 2 ^ (r / bin52 - 1) := by rw [show r / bin52 = (r / bin52 - 1) + 1 by omega, Nat.pow_succ, Nat.mul_comm]; simp
  refine ⟨Nat.mul_le_mul_right _ (by omega), ?_⟩
  rw [e, ← Nat.mul_assoc]
  exact Nat.mul_lt_mul_of_pos_right (by omega) (Nat.two_pow_pos _)
theorem valF_mono {r s : Nat} (h : r < s) : valF r < valF s := by
  have hB : 0 < bin52 := by decide
  by_cases h1 : s < bin52
  · rw [valF_low h1, valF_low (by omega)]
    exact h
  · obtain ⟨l2, _⟩ := valF_bd s h1
    have hq2 : 1 ≤ s / bin52 := (Nat.one_le_div_iff hB).2 (by omega)
    by_cases h2 : r < bin52
    · rw [valF_low h2]
      have : bin52 * 1 ≤ bin52 * 2 ^ (s / bin52 - 1) := Nat.mul_le_mul_left _ (Nat.two_pow_pos _)
      omega
    · obtain ⟨_, u1⟩ := valF_bd r h2
      have hle : r / bin52 ≤ s / bin52 := Nat.div_le_div_right (Nat.le_of_lt h)
      by_cases hq : r / bin52 = s / bin52
      · unfold valF
        rw [if_neg h1, if_neg h2, hq]
        refine Nat.mul_lt_mul_of_pos_right ?_ (Nat.two_pow_pos _)
        have e1 := Nat.div_add_mod r bin52
        have e2 := Nat.div_add_mod s bin52
        rw [hq] at e1
        omega
      · have : bin52 * 2 ^ (r / bin52) ≤ bin52 * 2 ^ (s / bin52 - 1) := Nat.mul_le_mul_left _ (Nat.pow_le_pow_right (by omega) (by omega))
        omega
theorem valF_zero {r : Nat} (h : valF r = 0) : r = 0 := by
  rcases Nat.eq_zero_or_pos r with h0 | h0
  · exact h0
  · have := valF_mono h0
    omega
theorem sval_lt (a b : Nat) : (svalF a < svalF b) ↔ (keyF a < keyF b) := by
  have m1 : ∀ {r s}, r < s → valF r < valF s := valF_mono
  have m2 : ∀ r s, valF r < valF s ↔ r < s := fun r s => ⟨fun h => by
    rcases Nat.lt_or_ge r s with h1 | h1
    · exact h1
    · rcases Nat.lt_or_eq_of_le h1 with h2 | h2
      · have := m1 h2; omega
      · subst h2; omega, m1⟩
  have z1 : ∀ r, valF r = 0 ↔ r = 0 := fun r => ⟨valF_zero, fun h => by rw [h]; rfl⟩
  have i1 := m2 (rungF a) (rungF b)
  have i2 := m2 (rungF b) (rungF a)
  have i3 := z1 (rungF a)
  have i4 := z1 (rungF b)
  unfold svalF keyF
  cases negF a <;> cases negF b <;> simp only [Bool.false_eq_true, if_false, if_true] <;> omega
theorem cmp_sval (a b : Nat) : cmpI (svalF a) (svalF b) = cmpI (keyF a) (keyF b) := by
  have h1 := sval_lt a b
  have h2 := sval_lt b a
  unfold cmpI
  by_cases h : keyF a < keyF b
  · rw [if_pos h, if_pos (h1.2 h)]
  · rw [if_neg h, if_neg (fun x => h (h1.1 x))]
    by_cases h' : keyF b < keyF a
    · have := h2.2 h'
      rw [if_neg (by omega), if_neg (by omega)]
    · have a1 : ¬ svalF a < svalF b := fun x => h (h1.1 x)
      have a2 : ¬ svalF b < svalF a := fun x => h' (h2.1 x)
      rw [if_pos (by omega), if_pos (by omega)]

/-- The least place. -/
def lp : Int := -1074
theorem lp_eq : Ieee.double.leastPlace = lp := by decide
theorem read_num {b : Nat} (h : rungF b < infR) : ∃ m i, Ieee.double.read b = .number (negF b) m i ∧ lp ≤ i ∧ m * 2 ^ (i - lp).toNat = valF (rungF b) := by
  have e1 : Ieee.double.signWeight = sg63 := by decide
  have e2 : Ieee.double.binade = bin52 := by decide
  have e3 : Ieee.double.infRung = infR := by decide
  unfold Ieee.Format.read
  rw [e1, e2, e3, lp_eq]
  show ∃ m i, (if rungF b < bin52 then Ieee.Datum.number (negF b) (rungF b) lp else if rungF b < infR then _ else _) = _ ∧ _
  by_cases h1 : rungF b < bin52
  · rw [if_pos h1]
    refine ⟨_, _, rfl, Int.le_refl _, ?_⟩
    rw [valF_low h1, Int.sub_self]
    simp
  · rw [if_neg h1, if_pos h]
    refine ⟨_, _, rfl, by omega, ?_⟩
    unfold valF
    rw [if_neg h1, show (lp + ((b % sg63 / bin52 - 1 : Nat) : Int) - lp).toNat = b % sg63 / bin52 - 1 by omega]
    rfl
theorem read_inf {b : Nat} (h : rungF b = infR) : Ieee.double.read b = .infinity (negF b) := by
  have e1 : Ieee.double.signWeight = sg63 := by decide
  have e2 : Ieee.double.binade = bin52 := by decide
  have e3 : Ieee.double.infRung = infR := by decide
  unfold Ieee.Format.read
  rw [e1, e2, e3]
  show (if rungF b < bin52 then _ else if rungF b < infR then _ else if rungF b = infR then _ else _) = _
  rw [if_neg (by rw [h]; decide), if_neg (by omega), if_pos h]
  rfl
theorem read_nan {b : Nat} (h : infR < rungF b) : ∃ f, Ieee.double.read b = .nan (negF b) f := by
  have e1 : Ieee.double.signWeight = sg63 := by decide
  have e2 : Ieee.double.binade = bin52 := by decide
  have e3 : Ieee.double.infRung = infR := by decide
  have hb : bin52 < infR := by decide
  unfold Ieee.Format.read
  rw [e1, e2, e3]
  show ∃ f, (if rungF b < bin52 then _ else if rungF b < infR then _ else if rungF b = infR then _ else _) = _
  rw [if_neg (by omega), if_neg (by omega), if_neg (by omega)]
  exact ⟨_, rfl⟩

def sg (n : Bool) (m : Nat) : Int := if n then -(m : Int) else (m : Int)
theorem signed_eq (n : Bool) (m k : Nat) : Ieee.signed n m k = sg n m * (2 ^ k : Nat) := by
  unfold Ieee.signed sg
  rw [Nat.shiftLeft_eq]
  cases n
  · simp
  · simp [Int.neg_mul]
theorem cmp_scale (x y : Int) (k : Nat) : cmpI (x * (2 ^ k : Nat)) (y * (2 ^ k : Nat)) = cmpI x y := by
  have hp : (0 : Int) < (2 ^ k : Nat) := by exact_mod_cast Nat.two_pow_pos k
  unfold cmpI
  have h1 : (x * (2 ^ k : Nat) < y * (2 ^ k : Nat)) ↔ x < y := ⟨fun h => Int.lt_of_mul_lt_mul_right h (Int.le_of_lt hp), fun h => Int.mul_lt_mul_of_pos_right h hp⟩
  have h2 : (x * (2 ^ k : Nat) = y * (2 ^ k : Nat)) ↔ x = y := ⟨fun h => Int.eq_of_mul_eq_mul_right (by omega) h, fun h => by rw [h]⟩
  simp only [h1, h2]
theorem order_num {n n' : Bool} {m m' : Nat} {i j : Int} (hi : lp ≤ i) (hj : lp ≤ j) :
    (Ieee.Datum.number n m i).order (.number n' m' j) = some (cmpI (sg n (m * 2 ^ (i - lp).toNat)) (sg n' (m' * 2 ^ (j - lp).toNat))) := by
  show some (compare (Ieee.signed n m (i - min i j).toNat) (Ieee.signed n' m' (j - min i j).toNat)) = _
  rw [cmpI_eq, signed_eq, signed_eq]
  have e1 : (i - lp).toNat = (i - min i j).toNat + (min i j - lp).toNat := by omega
  have e2 : (j - lp).toNat = (j - min i j).toNat + (min i j - lp).toNat := by omega
  have s1 : ∀ (b : Bool) (q k l : Nat), sg b (q * 2 ^ (k + l)) = sg b q * (2 ^ k : Nat) * (2 ^ l : Nat) := by
    intro b q k l
    unfold sg
    rw [Nat.pow_add]
    cases b
    · simp [Int.mul_assoc]
    · simp [Int.mul_assoc, Int.neg_mul]
  rw [e1, e2, s1, s1, cmp_scale]

/-- The order of two numbers that are none of them none. -/
theorem order_key {a b : Nat} (ha : rungF a ≤ infR) (hb : rungF b ≤ infR) : Ieee.double.order a b = some (cmpI (keyF a) (keyF b)) := by
  show (Ieee.double.read a).order (Ieee.double.read b) = _
  by_cases h1 : rungF a < infR
  · obtain ⟨m, i, e, hi, hv⟩ := read_num h1
    by_cases h2 : rungF b < infR
    · obtain ⟨m', j, e', hj, hv'⟩ := read_num h2
      rw [e, e', order_num hi hj, hv, hv', ← cmp_sval]
      rfl
    · have h2' : rungF b = infR := by omega
      rw [e, read_inf h2']
      show some (if negF b then Ordering.gt else Ordering.lt) = _
      congr 1
      unfold cmpI keyF
      rw [h2']
      have hp : (0 : Int) < (infR : Int) := by decide
      cases negF a <;> cases negF b <;> simp only [Bool.false_eq_true, if_false, if_true]
      · rw [if_pos (by omega)]
      · rw [if_neg (by omega), if_neg (by omega)]
      · rw [if_pos (by omega)]
      · rw [if_neg (by omega), if_neg (by omega)]
  · have h1' : rungF a = infR := by omega
    by_cases h2 : rungF b < infR
    · obtain ⟨m', j, e', hj, hv'⟩ := read_num h2
      rw [e', read_inf h1']
      show some (if negF a then Ordering.lt else Ordering.gt) = _
      congr 1
      unfold cmpI keyF
      rw [h1']
      have hp : (0 : Int) < (infR : Int) := by decide
      cases negF a <;> cases negF b <;> simp only [Bool.false_eq_true, if_false, if_true]
      · rw [if_neg (by omega), if_neg (by omega)]
      · rw [if_neg (by omega), if_neg (by omega)]
      · rw [if_pos (by omega)]
      · rw [if_pos (by omega)]
    · have h2' : rungF b = infR := by omega
      rw [read_inf h1', read_inf h2']
      unfold cmpI keyF
      rw [h1', h2']
      cases negF a <;> cases negF b <;> decide
theorem order_nan {a b : Nat} (h : infR < rungF a ∨ infR < rungF b) : Ieee.double.order a b = none := by
  show (Ieee.double.read a).order (Ieee.double.read b) = none
  rcases h with h | h
  · obtain ⟨f, e⟩ := read_nan h
    rw [e]
    rfl
  · obtain ⟨f, e⟩ := read_nan h
    rw [e]
    cases Ieee.double.read a <;> rfl
end Go.Proofs.Ytancncclgeomeaa
