/-
  Plain mathematics: the long division, bit by bit in a row of bits, leaves what the register leaves. No program is named here.
-/
import Derived.Test.YtoiphbdmmiikaaaCrcM
namespace Go.Proofs.Ytoiphbdmmiikaaa

def polyL : List Bool := [true, false, false, false, false, false, true, false, false, true, true, false, false, false, false, false, true, false, false, false, true, true, true, false, true, true, false, true, true, false, true, true, true]
/-- The first k bits inverted, one by one. -/
def inv (l : List Bool) : Nat → List Bool
  | 0 => l
  | k + 1 => (inv l k).set k (!(inv l k).getD k false)
/-- The polynomial's first k coefficients added from place i on, one by one. -/
def xorAt (l : List Bool) (i : Nat) : Nat → List Bool
  | 0 => l
  | k + 1 => (xorAt l i k).set (i + k) ((xorAt l i k).getD (i + k) false ^^ polyL.getD k false)
/-- i steps of the long division. -/
def divI (l : List Bool) : Nat → List Bool
  | 0 => l
  | i + 1 => if (divI l i).getD i false then xorAt (divI l i) i 33 else divI l i
/-- What the inverted bits from place n on say, as far as k of them. -/
def sumK (l : List Bool) (n : Nat) : Nat → Nat
  | 0 => 0
  | k + 1 => sumK l n k + if l.getD (n + k) false then 0 else 2 ^ k

theorem getD_set_eq {l : List Bool} {i : Nat} (h : i < l.length) (b : Bool) : (l.set i b).getD i false = b := by
  rw [List.getD_eq_getElem?_getD, List.getElem?_set_self h]
  rfl
theorem getD_set_ne {l : List Bool} {i j : Nat} (h : i ≠ j) (b : Bool) : (l.set i b).getD j false = l.getD j false := by
  rw [List.getD_eq_getElem?_getD, List.getElem?_set_ne h, ← List.getD_eq_getElem?_getD]
theorem inv_length (l : List Bool) (k : Nat) : (inv l k).length = l.length := by
  induction k with
  | zero => rfl
  | succ k ih => simp [inv, ih]
theorem xorAt_length (l : List Bool) (i k : Nat) : (xorAt l i k).length = l.length := by
  induction k with
  | zero => rfl
  | succ k ih => simp [xorAt, ih]
theorem divI_length (l : List Bool) (i : Nat) : (divI l i).length = l.length := by
  induction i with
  | zero => rfl
  | succ i ih =>
    unfold divI
    split
    · rw [xorAt_length, ih]
    · exact ih
theorem inv_get {l : List Bool} (k : Nat) (h : k ≤ l.length) (j : Nat) : (inv l k).getD j false = (l.getD j false ^^ decide (j < k)) := by
  induction k with
  | zero => simp [inv]
  | succ k ih =>
    have ih' := ih (by omega)
    unfold inv
    by_cases hj : k = j
    · subst hj
      rw [getD_set_eq (by rw [inv_length]; omega), ih', decide_eq_false (by omega), decide_eq_true (by omega)]
      simp
    · rw [getD_set_ne hj, ih']
      congr 1
      rw [decide_eq_decide]
      omega
theorem xorAt_get {l : List Bool} {i : Nat} (k : Nat) (h : i + k ≤ l.length) (j : Nat) : (xorAt l i k).getD j false = (l.getD j false ^^ (decide (i ≤ j ∧ j < i + k) && polyL.getD (j - i) false)) := by
  induction k with
  | zero =>
    rw [decide_eq_false (by omega)]
    simp [xorAt]
  | succ k ih =>
    have ih' := ih (by omega)
    unfold xorAt
    by_cases hj : i + k = j
    · subst hj
      rw [getD_set_eq (by rw [xorAt_length]; omega), ih', decide_eq_false (by omega), decide_eq_true (by omega), Nat.add_sub_cancel_left]
      simp
    · rw [getD_set_ne hj, ih']
      congr 2
      rw [decide_eq_decide]
      omega
theorem poly_get (p : Nat) : polyL.getD (p + 1) false = crcP.getLsbD p := by
  by_cases h : p < 32
  · have : ∀ p : Fin 32, polyL.getD (p.val + 1) false = crcP.getLsbD p.val := by decide
    exact this ⟨p, h⟩
  · rw [BitVec.getLsbD_of_ge _ _ (by omega), List.getD_eq_getElem?_getD, List.getElem?_eq_none (by show 33 ≤ p + 1; omega)]
    rfl
/-- The register behind the first i bits. -/
def reg (bs : List Bool) (i : Nat) : BitVec 32 := bitRun (~~~ 0#32) (bs.take i)
theorem reg_succ {bs : List Bool} {i : Nat} (h : i < bs.length) : reg bs (i + 1) = bitStep (reg bs i ^^^ b2v (bs.getD i false)) := by
  unfold reg
  rw [List.take_succ_eq_append_getElem h, bitRun_append, List.getD_eq_getElem?_getD, List.getElem?_eq_getElem h]
  rfl
theorem ones_get (j : Nat) : (~~~ 0#32 : BitVec 32).getLsbD j = decide (j < 32) := by
  rw [BitVec.getLsbD_not]
  simp
theorem padded_get (bs : List Bool) (j : Nat) : (bs ++ List.replicate 32 false).getD j false = bs.getD j false := by
  rw [List.getD_eq_getElem?_getD, List.getD_eq_getElem?_getD]
  by_cases h : j < bs.length
  · rw [List.getElem?_append_left h]
  · rw [List.getElem?_append_right (by omega), List.getElem?_eq_none (l := bs) (by omega), List.getElem?_replicate]
    split <;> rfl
theorem div_get (bs : List Bool) (i : Nat) (hi : i ≤ bs.length) : ∀ j, i ≤ j → (divI (inv (bs ++ List.replicate 32 false) 32) i).getD j false = ((reg bs i).getLsbD (j - i) ^^ bs.getD j false) := by
  induction i with
  | zero =>
    intro j _
    show (inv (bs ++ List.replicate 32 false) 32).getD j false = _
    have e : reg bs 0 = ~~~ 0#32 := rfl
    rw [inv_get 32 (by simp), padded_get, e, ones_get, Nat.sub_zero, Bool.xor_comm]
  | succ i ih =>
    intro j hj
    have ih' := ih (by omega)
    have e0 := ih' i (Nat.le_refl _)
    have e1 := ih' j (by omega)
    rw [Nat.sub_self] at e0
    obtain ⟨q, rfl⟩ : ∃ q, j = i + (q + 1) := ⟨j - i - 1, by omega⟩
    have s1 : i + (q + 1) - i = q + 1 := by omega
    have s2 : i + (q + 1) - (i + 1) = q := by omega
    rw [s1] at e1
    have hR : (reg bs (i + 1)).getLsbD q = ((reg bs i).getLsbD (q + 1) ^^ (((reg bs i).getLsbD 0 ^^ bs.getD i false) && crcP.getLsbD q)) := by
      rw [reg_succ (by omega), bitStep_get, BitVec.getLsbD_xor, BitVec.getLsbD_xor, b2v_get, b2v_get, decide_eq_false (show ¬ (q + 1 = 0) by omega), Bool.and_false, Bool.xor_false, decide_eq_true (show (0 : Nat) = 0 from rfl), Bool.and_true]
    have hx := xorAt_get (l := divI (inv (bs ++ List.replicate 32 false) 32) i) (i := i) 33 (by rw [divI_length, inv_length]; simp; omega) (i + (q + 1))
    have hp : (decide (i ≤ i + (q + 1) ∧ i + (q + 1) < i + 33) && crcP.getLsbD q) = crcP.getLsbD q := by
      by_cases h33 : q < 32
      · rw [decide_eq_true (by omega), Bool.true_and]
      · rw [BitVec.getLsbD_of_ge crcP q (by omega), Bool.and_false]
    rw [s1, poly_get, hp, e1] at hx
    have hd : (divI (inv (bs ++ List.replicate 32 false) 32) (i + 1)).getD (i + (q + 1)) false = if (divI (inv (bs ++ List.replicate 32 false) 32) i).getD i false then (xorAt (divI (inv (bs ++ List.replicate 32 false) 32) i) i 33).getD (i + (q + 1)) false else (divI (inv (bs ++ List.replicate 32 false) 32) i).getD (i + (q + 1)) false := by
      show (if _ then _ else _ : List Bool).getD _ _ = _
      split <;> rfl
    rw [hd, hx, e1, e0, s2, hR]
    generalize (reg bs i).getLsbD 0 = a0
    generalize (reg bs i).getLsbD (q + 1) = aq
    generalize bs.getD i false = m
    generalize bs.getD (i + (q + 1)) false = mj
    generalize crcP.getLsbD q = pq
    cases a0 <;> cases aq <;> cases m <;> cases mj <;> cases pq <;> rfl
theorem sum_get {l : List Bool} {n : Nat} {R : BitVec 32} (h : ∀ j, j < 32 → l.getD (n + j) false = R.getLsbD j) (k : Nat) (hk : k ≤ 32) : sumK l n k = (~~~ R).toNat % 2 ^ k := by
  induction k with
  | zero => simp [sumK, Nat.mod_one]
  | succ k ih =>
    have e : (~~~ R).toNat.testBit k = !R.getLsbD k := by
      have : (~~~ R).getLsbD k = !R.getLsbD k := by
        rw [BitVec.getLsbD_not]
        simp [show k < 32 by omega]
      exact this
    rw [Nat.testBit_eq_decide_div_mod_eq] at e
    rw [sumK, ih (by omega), h k (by omega), Nat.mod_pow_succ]
    cases hb : R.getLsbD k
    · rw [hb] at e
      have : (~~~ R).toNat / 2 ^ k % 2 = 1 := by simpa using e
      rw [this]
      simp
    · rw [hb] at e
      have : (~~~ R).toNat / 2 ^ k % 2 = 0 := by
        have h1 : ¬ (~~~ R).toNat / 2 ^ k % 2 = 1 := by simpa using e
        omega
      rw [this]
      simp
theorem sumK_lt (l : List Bool) (n k : Nat) : sumK l n k < 2 ^ k := by
  induction k with
  | zero => simp [sumK]
  | succ k ih =>
    unfold sumK
    rw [Nat.pow_succ]
    split <;> omega
/-- The two ways to reckon come to one end. -/
theorem ref_sum (xs : List UInt8) : sumK (divI (inv (bitsOf xs ++ List.replicate 32 false) 32) (8 * xs.length)) (8 * xs.length) 32 = (crcOf xs).toNat := by
  have hl := bitsOf_length xs
  have hr : reg (bitsOf xs) (8 * xs.length) = run (~~~ 0#32) xs := by
    unfold reg
    rw [← hl, List.take_length, run_bits]
  rw [sum_get (R := run (~~~ 0#32) xs) (by
    intro j hj
    rw [div_get (bitsOf xs) (8 * xs.length) (by omega) _ (by omega), hr, Nat.add_sub_cancel_left, List.getD_eq_getElem?_getD, List.getElem?_eq_none (by omega)]
    simp) 32 (Nat.le_refl _)]
  exact Nat.mod_eq_of_lt (~~~ run (~~~ 0#32) xs).isLt
end Go.Proofs.Ytoiphbdmmiikaaa
