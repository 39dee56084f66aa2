/-
  Plain mathematics: bits that are turned round within 32 of each other are told by CRC-32. No program is named here.
-/
import Derived.Test.YtoiphbdmmiikaaaCrcM
namespace Go.Proofs.Ytoiphbdmmiikaaa

/-- Bit i of the bytes turned round. -/
def turn1 (s : List UInt8) (i : Nat) : List UInt8 := s.set (i / 8) (s.getD (i / 8) 0 ^^^ UInt8.ofNat (2 ^ (i % 8)))
/-- The bits of M, from place N on, as far as the k lowest of them say so. -/
def turnK (s : List UInt8) (N M : Nat) : Nat → List UInt8
  | 0 => s
  | k + 1 => if M.testBit k then turn1 (turnK s N M k) (N + k) else turnK s N M k

theorem turn1_length (s : List UInt8) (i : Nat) : (turn1 s i).length = s.length := by simp [turn1]
theorem turnK_length (s : List UInt8) (N M k : Nat) : (turnK s N M k).length = s.length := by
  induction k with
  | zero => rfl
  | succ k ih =>
    unfold turnK
    split
    · rw [turn1_length, ih]
    · exact ih
theorem turn1_bits {s : List UInt8} {i : Nat} (h : i < 8 * s.length) (j : Nat) : (bitsOf (turn1 s i)).getD j false = ((bitsOf s).getD j false ^^ decide (j = i)) := by
  rw [bitsOf_get, bitsOf_get]
  unfold turn1
  have hp : (2 : Nat) ^ (i % 8) < 256 := by
    have : (2 : Nat) ^ (i % 8) ≤ 2 ^ 7 := Nat.pow_le_pow_right (by omega) (by omega)
    omega
  by_cases hq : j / 8 = i / 8
  · have e : (s.set (i / 8) (s.getD (i / 8) 0 ^^^ UInt8.ofNat (2 ^ (i % 8)))).getD (j / 8) 0 = s.getD (i / 8) 0 ^^^ UInt8.ofNat (2 ^ (i % 8)) := by
      rw [List.getD_eq_getElem?_getD, hq, List.getElem?_set_self (by omega)]
      rfl
    rw [e, hq, UInt8.toNat_xor, Nat.testBit_xor, toNat_ofNat, Nat.mod_eq_of_lt hp, Nat.testBit_two_pow]
    congr 1
    rw [decide_eq_decide]
    omega
  · have e : (s.set (i / 8) (s.getD (i / 8) 0 ^^^ UInt8.ofNat (2 ^ (i % 8)))).getD (j / 8) 0 = s.getD (j / 8) 0 := by
      rw [List.getD_eq_getElem?_getD, List.getElem?_set_ne (by omega), ← List.getD_eq_getElem?_getD]
    rw [e, decide_eq_false (by rintro rfl; exact hq rfl), Bool.xor_false]
theorem turnK_bits {s : List UInt8} {N M : Nat} (k : Nat) (h : N + k ≤ 8 * s.length) (j : Nat) :
    (bitsOf (turnK s N M k)).getD j false = ((bitsOf s).getD j false ^^ (decide (N ≤ j ∧ j < N + k) && M.testBit (j - N))) := by
  induction k with
  | zero =>
    have : decide (N ≤ j ∧ j < N + 0) = false := decide_eq_false (by omega)
    rw [this]
    simp [turnK]
  | succ k ih =>
    have ih' := ih (by omega)
    unfold turnK
    by_cases hb : M.testBit k = true
    · rw [if_pos hb, turn1_bits (by rw [turnK_length]; omega), ih']
      by_cases hj : j = N + k
      · subst hj
        simp [hb]
      · have e : decide (N ≤ j ∧ j < N + (k + 1)) = decide (N ≤ j ∧ j < N + k) := by rw [decide_eq_decide]; omega
        rw [e, decide_eq_false hj, Bool.xor_false]
    · rw [if_neg hb, ih']
      by_cases hj : j = N + k
      · subst hj
        simp at hb
        simp [hb]
      · have e : decide (N ≤ j ∧ j < N + (k + 1)) = decide (N ≤ j ∧ j < N + k) := by rw [decide_eq_decide]; omega
        rw [e]

theorem getD_of {l : List Bool} {j : Nat} (h : j < l.length) : l.getD j false = l[j] := by
  rw [List.getD_eq_getElem?_getD, List.getElem?_eq_getElem h]
  rfl
theorem b2v_xor (a b : Bool) : b2v (a ^^ b) = b2v a ^^^ b2v b := by cases a <;> cases b <;> decide
theorem bitRun_xor : ∀ (l1 l2 : List Bool) (r1 r2 : BitVec 32), l1.length = l2.length → bitRun (r1 ^^^ r2) (List.zipWith (fun a b => a ^^ b) l1 l2) = bitRun r1 l1 ^^^ bitRun r2 l2
  | [], [], _, _, _ => rfl
  | a :: l1, b :: l2, r1, r2, h => by
    have e1 : bitRun r1 (a :: l1) = bitRun (bitStep (r1 ^^^ b2v a)) l1 := rfl
    have e2 : bitRun r2 (b :: l2) = bitRun (bitStep (r2 ^^^ b2v b)) l2 := rfl
    rw [e1, e2, ← bitRun_xor l1 l2 _ _ (by simpa using h), ← bitStep_xor, List.zipWith_cons_cons]
    have e3 : r1 ^^^ b2v a ^^^ (r2 ^^^ b2v b) = r1 ^^^ r2 ^^^ b2v (a ^^ b) := by rw [b2v_xor]; ac_rfl
    rw [e3]
    rfl
theorem bitRun_zeros (n : Nat) : ∀ r, bitRun r (List.replicate n false) = stepN n r := by
  induction n with
  | zero => intro r; rfl
  | succ n ih =>
    intro r
    have e : bitRun r (List.replicate (n + 1) false) = bitRun (bitStep (r ^^^ b2v false)) (List.replicate n false) := rfl
    rw [e, ih]
    simp [b2v, stepN]
/-- The turned bits, as a row. -/
def errs (N M L : Nat) : List Bool := List.replicate N false ++ (nbits 32 M ++ List.replicate (L - N - 32) false)
theorem errs_length {N M L : Nat} (h : N + 32 ≤ L) : (errs N M L).length = L := by
  simp [errs, nbits_length]
  omega
theorem errs_get {N M L : Nat} (j : Nat) : (errs N M L).getD j false = (decide (N ≤ j ∧ j < N + 32) && M.testBit (j - N)) := by
  unfold errs
  rw [List.getD_eq_getElem?_getD]
  by_cases h1 : j < N
  · rw [List.getElem?_append_left (by simpa using h1), List.getElem?_replicate, if_pos h1, decide_eq_false (by omega)]
    rfl
  · rw [List.getElem?_append_right (by simp; omega), List.length_replicate]
    by_cases h2 : j < N + 32
    · rw [List.getElem?_append_left (by rw [nbits_length]; omega), ← List.getD_eq_getElem?_getD, nbits_get 32 _ _ (by omega), decide_eq_true (by omega), Bool.true_and]
    · rw [List.getElem?_append_right (by rw [nbits_length]; omega), nbits_length, decide_eq_false (by omega), Bool.false_and, List.getElem?_replicate]
      split <;> rfl
theorem errs_run {N M L : Nat} (hM : M < 2 ^ 32) (h : bitRun 0#32 (errs N M L) = 0#32) : M = 0 := by
  unfold errs at h
  rw [bitRun_append, bitRun_zeros, stepN_zero, bitRun_append, bitRun_num 32 M _ (by omega) hM, bitRun_zeros] at h
  have h2 := stepN_ne _ (stepN_ne _ h)
  rw [BitVec.zero_xor] at h2
  have := congrArg BitVec.toNat h2
  rwa [BitVec.toNat_ofNat, Nat.mod_eq_of_lt hM, BitVec.toNat_ofNat, Nat.zero_mod] at this
theorem turnK_row {s : List UInt8} {N M : Nat} (h : N + 32 ≤ 8 * s.length) : bitsOf (turnK s N M 32) = List.zipWith (fun a b => a ^^ b) (bitsOf s) (errs N M (8 * s.length)) := by
  have hl : (errs N M (8 * s.length)).length = 8 * s.length := errs_length h
  apply List.ext_getElem
  · rw [List.length_zipWith, bitsOf_length, bitsOf_length, turnK_length, hl, Nat.min_self]
  · intro j h1 h2
    have hj : j < 8 * s.length := by rw [bitsOf_length, turnK_length] at h1; exact h1
    have e := turnK_bits (s := s) (N := N) (M := M) 32 h j
    rw [← errs_get (L := 8 * s.length), getD_of h1, getD_of (l := bitsOf s) (by rw [bitsOf_length]; exact hj), getD_of (l := errs N M (8 * s.length)) (by rw [hl]; exact hj)] at e
    rw [e, List.getElem_zipWith]
/-- The promise: whatever is turned within 32 bits is told. -/
theorem turned_told {s : List UInt8} {N M : Nat} (hs : holdsB s = true) (h : N + 32 ≤ 8 * s.length) (hM : M < 2 ^ 32) (h0 : M ≠ 0) : holdsB (turnK s N M 32) = false := by
  have h4 : 4 ≤ s.length := by omega
  cases hc : holdsB (turnK s N M 32)
  · rfl
  · exfalso
    have key (t : List UInt8) (ht : 4 ≤ t.length) (hh : holdsB t = true) : run (~~~ 0#32) t = stepN 32 (~~~ 0#32) := by
      have e := List.take_append_drop (t.length - 4) t
      rw [← e] at hh
      have := (holdsB_iff (by rw [List.length_drop]; omega)).1 hh
      rwa [e] at this
    have k1 := key s h4 hs
    have k2 := key _ (by rw [turnK_length]; exact h4) hc
    rw [run_bits, turnK_row h] at k2
    have k3 := bitRun_xor (bitsOf s) (errs N M (8 * s.length)) (~~~ 0#32) 0#32 (by rw [bitsOf_length, errs_length h])
    rw [BitVec.xor_zero, k2, ← run_bits, k1] at k3
    refine h0 (errs_run (N := N) (L := 8 * s.length) hM ?_)
    have : stepN 32 (~~~ 0#32) ^^^ stepN 32 (~~~ 0#32) = stepN 32 (~~~ 0#32) ^^^ (stepN 32 (~~~ 0#32) ^^^ bitRun 0#32 (errs N M (8 * s.length))) := by rw [← k3]
    rw [BitVec.xor_self, ← BitVec.xor_assoc, BitVec.xor_self, BitVec.zero_xor] at this
    exact this.symm
end Go.Proofs.Ytoiphbdmmiikaaa
