/-
  Plain mathematics: the division by the polynomial of CRC-32, bit by bit and byte by byte; it is linear and loses nothing. No program is named here.
-/
import Derived.Test.YtoiphbdmmiikaaaNum
import Derived.Test.YtoiphbdmmiikaaaNv
namespace Go.Proofs.Ytoiphbdmmiikaaa

def crcP : BitVec 32 := 0xedb88320#32
/-- One step of the division. -/
def bitStep (r : BitVec 32) : BitVec 32 := (r >>> 1) ^^^ (if r.getLsbD 0 then crcP else 0#32)
def stepN : Nat → BitVec 32 → BitVec 32
  | 0, r => r
  | n + 1, r => stepN n (bitStep r)
def byteStep (r : BitVec 32) (x : UInt8) : BitVec 32 := stepN 8 (r ^^^ BitVec.ofNat 32 x.toNat)
def run (r : BitVec 32) (xs : List UInt8) : BitVec 32 := xs.foldl byteStep r
def crcMore (s : BitVec 32) (xs : List UInt8) : BitVec 32 := ~~~ run (~~~ s) xs
def crcOf (xs : List UInt8) : BitVec 32 := crcMore 0#32 xs
def four (s : BitVec 32) : List UInt8 := putB s.toNat 4
def sealB (xs : List UInt8) : List UInt8 := xs ++ four (crcOf xs)
def holdsB (xs : List UInt8) : Bool := decide (4 ≤ xs.length) && (xs.drop (xs.length - 4) == four (crcOf (xs.take (xs.length - 4))))

theorem four_length (s : BitVec 32) : (four s).length = 4 := putB_length _ _
theorem sealB_length (xs : List UInt8) : (sealB xs).length = xs.length + 4 := by simp [sealB, four_length]
theorem crcMore_more (a b : List UInt8) : crcMore (crcOf a) b = crcOf (a ++ b) := by
  simp [crcMore, crcOf, run, List.foldl_append]
theorem crcMore_nil (s : BitVec 32) : crcMore s [] = s := by simp [crcMore, run]
theorem holdsB_seal (xs : List UInt8) : holdsB (sealB xs) = true := by
  have h : xs.length + 4 - 4 = xs.length := by omega
  unfold holdsB
  rw [sealB_length, h]
  simp [sealB]

/-! ### The step is linear, and nothing is lost -/
theorem bitStep_get (r : BitVec 32) (i : Nat) : (bitStep r).getLsbD i = (r.getLsbD (i + 1) ^^ (r.getLsbD 0 && crcP.getLsbD i)) := by
  unfold bitStep
  rw [BitVec.getLsbD_xor, BitVec.getLsbD_ushiftRight, Nat.add_comm 1 i]
  cases r.getLsbD 0 <;> simp
theorem bitStep_xor (a b : BitVec 32) : bitStep (a ^^^ b) = bitStep a ^^^ bitStep b := by
  apply BitVec.eq_of_getLsbD_eq
  intro i _
  rw [BitVec.getLsbD_xor, bitStep_get, bitStep_get, bitStep_get, BitVec.getLsbD_xor, BitVec.getLsbD_xor]
  cases a.getLsbD 0 <;> cases b.getLsbD 0 <;> cases a.getLsbD (i + 1) <;> cases b.getLsbD (i + 1) <;> cases crcP.getLsbD i <;> rfl
theorem bitStep_zero : bitStep 0#32 = 0#32 := by decide
theorem bitStep_ne {r : BitVec 32} (h : bitStep r = 0#32) : r = 0#32 := by
  have h0 : r.getLsbD 0 = false := by
    have := congrArg (fun v => v.getLsbD 31) h
    simp only [bitStep_get] at this
    rw [BitVec.getLsbD_of_ge r (31 + 1) (by omega)] at this
    have hp : crcP.getLsbD 31 = true := by decide
    rw [hp] at this
    simpa using this
  apply BitVec.eq_of_getLsbD_eq
  intro i hi
  rcases i with _ | i
  · simpa using h0
  · have := congrArg (fun v => v.getLsbD i) h
    simp only [bitStep_get, h0] at this
    simpa using this
theorem stepN_xor (n : Nat) : ∀ a b : BitVec 32, stepN n (a ^^^ b) = stepN n a ^^^ stepN n b := by
  induction n with
  | zero => intro a b; rfl
  | succ n ih => intro a b; rw [stepN, bitStep_xor, ih]; rfl
theorem stepN_zero (n : Nat) : stepN n 0#32 = 0#32 := by
  induction n with
  | zero => rfl
  | succ n ih => rw [stepN, bitStep_zero, ih]
theorem stepN_ne (n : Nat) : ∀ {r : BitVec 32}, stepN n r = 0#32 → r = 0#32 := by
  induction n with
  | zero => intro r h; exact h
  | succ n ih => intro r h; exact bitStep_ne (ih h)
theorem stepN_inj (n : Nat) {a b : BitVec 32} (h : stepN n a = stepN n b) : a = b := by
  have h2 : stepN n (a ^^^ b) = 0#32 := by rw [stepN_xor, h, BitVec.xor_self]
  have h3 := stepN_ne n h2
  have : a ^^^ b ^^^ b = 0#32 ^^^ b := by rw [h3]
  simpa [BitVec.xor_assoc] using this
theorem stepN_add (m n : Nat) (r : BitVec 32) : stepN n (stepN m r) = stepN (m + n) r := by
  induction m generalizing r with
  | zero => simp [stepN]
  | succ m ih => rw [stepN, ih, Nat.succ_add]; rfl

/-! ### Bit by bit -/
def b2v (b : Bool) : BitVec 32 := if b then 1#32 else 0#32
def bitRun (r : BitVec 32) (bs : List Bool) : BitVec 32 := bs.foldl (fun r b => bitStep (r ^^^ b2v b)) r
/-- The k lowest bits of n, the lowest first. -/
def nbits : Nat → Nat → List Bool
  | 0, _ => []
  | k + 1, n => n.testBit 0 :: nbits k (n / 2)
def bitsOf (xs : List UInt8) : List Bool := xs.flatMap fun x => nbits 8 x.toNat

theorem bitRun_append (r : BitVec 32) (a b : List Bool) : bitRun r (a ++ b) = bitRun (bitRun r a) b := by simp [bitRun]
theorem nbits_length (k : Nat) : ∀ n, (nbits k n).length = k := by
  induction k with
  | zero => intro n; rfl
  | succ k ih => intro n; simp [nbits, ih]
theorem nbits_get (k : Nat) : ∀ n i, i < k → (nbits k n).getD i false = n.testBit i := by
  induction k with
  | zero => intro n i h; omega
  | succ k ih =>
    intro n i h
    rcases i with _ | i
    · simp [nbits]
    · have := ih (n / 2) i (by omega)
      simp only [nbits, List.getD_cons_succ, this, Nat.testBit_succ]
theorem bitsOf_length (xs : List UInt8) : (bitsOf xs).length = 8 * xs.length := by
  induction xs with
  | nil => rfl
  | cons x xs ih =>
    have : bitsOf (x :: xs) = nbits 8 x.toNat ++ bitsOf xs := rfl
    rw [this, List.length_append, nbits_length, ih, List.length_cons]
    omega
theorem bitsOf_get (xs : List UInt8) : ∀ j, (bitsOf xs).getD j false = (xs.getD (j / 8) 0).toNat.testBit (j % 8) := by
  induction xs with
  | nil => intro j; simp [bitsOf]
  | cons x xs ih =>
    intro j
    have e : bitsOf (x :: xs) = nbits 8 x.toNat ++ bitsOf xs := rfl
    rw [e]
    by_cases h : j < 8
    · have := nbits_get 8 x.toNat j h
      rw [List.getD_eq_getElem?_getD] at this
      rw [List.getD_eq_getElem?_getD, List.getElem?_append_left (by rw [nbits_length]; exact h), this, Nat.div_eq_of_lt h, Nat.mod_eq_of_lt h]
      rfl
    · rw [List.getD_eq_getElem?_getD, List.getElem?_append_right (by rw [nbits_length]; omega), nbits_length, ← List.getD_eq_getElem?_getD, ih, show j / 8 = (j - 8) / 8 + 1 by omega, show j % 8 = (j - 8) % 8 by omega]
      rfl
theorem b2v_get (b : Bool) (i : Nat) : (b2v b).getLsbD i = (b && decide (i = 0)) := by
  cases b
  · simp [b2v]
  · rcases i with _ | i
    · simp [b2v]
    · simp [b2v, BitVec.getLsbD_one]
theorem step_num {n : Nat} (h : n < 2 ^ 32) : bitStep (BitVec.ofNat 32 n ^^^ b2v (n.testBit 0)) = BitVec.ofNat 32 (n / 2) := by
  apply BitVec.eq_of_getLsbD_eq
  intro i hi
  rw [bitStep_get, BitVec.getLsbD_xor, BitVec.getLsbD_xor, b2v_get, b2v_get, BitVec.getLsbD_ofNat, BitVec.getLsbD_ofNat, BitVec.getLsbD_ofNat]
  have e : n.testBit (i + 1) = (n / 2).testBit i := Nat.testBit_succ ..
  rw [e]
  by_cases h2 : i + 1 < 32
  · simp [h2, hi]
  · have : (n / 2).testBit i = false := by
      rw [← e, show i + 1 = 32 by omega]
      exact Nat.testBit_lt_two_pow h
    simp [this]
theorem bitRun_num (k : Nat) : ∀ (n : Nat) (r : BitVec 32), k ≤ 32 → n < 2 ^ k → bitRun r (nbits k n) = stepN k (r ^^^ BitVec.ofNat 32 n) := by
  induction k with
  | zero =>
    intro n r _ h
    have : n = 0 := by simpa using h
    subst this
    simp [bitRun, nbits, stepN]
  | succ k ih =>
    intro n r hk h
    have h1 : n < 2 ^ 32 := Nat.lt_of_lt_of_le h (Nat.pow_le_pow_right (by omega) hk)
    have h2 : n / 2 < 2 ^ k := by rw [Nat.pow_succ] at h; omega
    have e : bitRun r (nbits (k + 1) n) = bitRun (bitStep (r ^^^ b2v (n.testBit 0))) (nbits k (n / 2)) := rfl
    rw [e, ih _ _ (by omega) h2, ← step_num h1, ← bitStep_xor, stepN]
    congr 2
    have : r ^^^ b2v (n.testBit 0) ^^^ (BitVec.ofNat 32 n ^^^ b2v (n.testBit 0)) = r ^^^ BitVec.ofNat 32 n ^^^ (b2v (n.testBit 0) ^^^ b2v (n.testBit 0)) := by ac_rfl
    rw [this]
    simp
theorem byteStep_bits (r : BitVec 32) (x : UInt8) : byteStep r x = bitRun r (nbits 8 x.toNat) := by
  rw [bitRun_num 8 _ _ (by omega) x.toNat_lt]
  rfl
theorem run_bits (xs : List UInt8) : ∀ r, run r xs = bitRun r (bitsOf xs) := by
  induction xs with
  | nil => intro r; rfl
  | cons x xs ih =>
    intro r
    have e : bitsOf (x :: xs) = nbits 8 x.toNat ++ bitsOf xs := rfl
    rw [e, bitRun_append, ← byteStep_bits, ← ih]
    rfl
theorem run_append (r : BitVec 32) (a b : List UInt8) : run r (a ++ b) = run (run r a) b := by simp [run]

/-! ### Bits of numbers of several bytes -/
theorem nbits_add (a : Nat) : ∀ b n, nbits (a + b) n = nbits a n ++ nbits b (n / 2 ^ a) := by
  induction a with
  | zero => intro b n; simp [nbits]
  | succ a ih =>
    intro b n
    rw [Nat.succ_add, nbits, ih, nbits, Nat.div_div_eq_div_mul, ← Nat.pow_succ']
    rfl
theorem nbits_mod (a : Nat) : ∀ n, nbits a (n % 2 ^ a) = nbits a n := by
  induction a with
  | zero => intro n; rfl
  | succ a ih =>
    intro n
    have h1 : (n % 2 ^ (a + 1)) / 2 = (n / 2) % 2 ^ a := by rw [Nat.pow_succ', Nat.mod_mul_right_div_self]
    have h2 : (n % 2 ^ (a + 1)).testBit 0 = n.testBit 0 := by rw [Nat.testBit_mod_two_pow]; simp
    rw [nbits, h1, ih, h2]
    rfl
theorem bitsOf_num (xs : List UInt8) : bitsOf xs = nbits (8 * xs.length) (leN xs) := by
  induction xs with
  | nil => rfl
  | cons x xs ih =>
    have e : bitsOf (x :: xs) = nbits 8 x.toNat ++ bitsOf xs := rfl
    have hx := x.toNat_lt
    rw [e, List.length_cons, show 8 * (xs.length + 1) = 8 + 8 * xs.length by omega, nbits_add, leN, ih]
    rw [show (x.toNat + 256 * leN xs) / 2 ^ 8 = leN xs by omega, ← nbits_mod 8 (x.toNat + _), show (x.toNat + 256 * leN xs) % 2 ^ 8 = x.toNat by omega]
theorem run_four (r : BitVec 32) (t : List UInt8) (h : t.length = 4) : run r t = stepN 32 (r ^^^ BitVec.ofNat 32 (leN t)) := by
  have hl := leN_lt t
  rw [h] at hl
  rw [run_bits, bitsOf_num, h, bitRun_num 32 _ _ (by omega) (by omega)]
theorem leN_four (s : BitVec 32) : leN (four s) = s.toNat := by
  have := s.isLt
  unfold four
  rw [leN_putB, Nat.mod_eq_of_lt (by omega)]
theorem putB_leN (xs : List UInt8) : putB (leN xs) xs.length = xs := by
  induction xs with
  | nil => rfl
  | cons x xs ih =>
    have hx := x.toNat_lt
    rw [List.length_cons, putB, leN, show (x.toNat + 256 * leN xs) / 256 = leN xs by omega, ih]
    congr 1
    apply UInt8.toNat_inj.1
    rw [toNat_ofNat]
    omega
theorem xor_not (r : BitVec 32) : r ^^^ ~~~ r = ~~~ 0#32 := by
  apply BitVec.eq_of_getLsbD_eq
  intro i hi
  simp only [BitVec.getLsbD_xor, BitVec.getLsbD_not, BitVec.getLsbD_zero, hi]
  simp
/-- Bytes hold just if the division of all of them leaves one certain remainder. -/
theorem holdsB_iff {a t : List UInt8} (h : t.length = 4) : holdsB (a ++ t) = true ↔ run (~~~ 0#32) (a ++ t) = stepN 32 (~~~ 0#32) := by
  have e : (a ++ t).length - 4 = a.length := by rw [List.length_append, h]; omega
  have hl := leN_lt t
  rw [h] at hl
  unfold holdsB
  rw [e, run_append, run_four _ _ h]
  have h4 : decide (4 ≤ (a ++ t).length) = true := by rw [List.length_append, h]; simp
  rw [h4, Bool.true_and, beq_iff_eq, List.drop_left, List.take_left]
  unfold crcOf crcMore
  constructor
  · intro ht
    congr 1
    rw [ht, leN_four, BitVec.ofNat_toNat, BitVec.setWidth_eq, xor_not]
  · intro hs
    have h1 := stepN_inj 32 hs
    have h2 : BitVec.ofNat 32 (leN t) = ~~~ run (~~~ 0#32) a := by
      have : run (~~~ 0#32) a ^^^ (run (~~~ 0#32) a ^^^ BitVec.ofNat 32 (leN t)) = run (~~~ 0#32) a ^^^ ~~~ 0#32 := by rw [h1]
      rw [← BitVec.xor_assoc, BitVec.xor_self, BitVec.zero_xor] at this
      rw [this, xor_ones]
    unfold four
    rw [← h2, BitVec.toNat_ofNat, Nat.mod_eq_of_lt (by omega), ← h, putB_leN]
end Go.Proofs.Ytoiphbdmmiikaaa
