/-
  Plain mathematics: little-endian numbers. No program is named here.
-/
import Derived.Laws.BitsAllLaws
namespace Go.Proofs.Ytmcnhcbibcjgnaa

/-- The number that bytes are, the lowest first. -/
def leN : List UInt8 → Nat
  | [] => 0
  | x :: xs => x.toNat + 256 * leN xs
/-- The k lowest bytes of n, the lowest first. -/
def putB (n : Nat) : Nat → List UInt8
  | 0 => []
  | k + 1 => UInt8.ofNat n :: putB (n / 256) k

theorem leN_lt : ∀ xs : List UInt8, leN xs < 256 ^ xs.length
  | [] => by simp [leN]
  | x :: xs => by
    have h := leN_lt xs
    have hx := x.toNat_lt
    simp only [leN, List.length_cons, Nat.pow_succ]
    omega
theorem leN_snoc : ∀ (xs : List UInt8) (x : UInt8), leN (xs ++ [x]) = leN xs + x.toNat * 256 ^ xs.length
  | [], x => by simp [leN]
  | y :: xs, x => by
    have h := leN_snoc xs x
    simp only [List.cons_append, leN, List.length_cons, Nat.pow_succ, h, Nat.mul_add]
    ac_rfl
theorem leN_take_succ {xs : List UInt8} {k : Nat} {x : UInt8} (h : xs[k]? = some x) : leN (xs.take (k + 1)) = leN (xs.take k) + x.toNat * 256 ^ k := by
  obtain ⟨hk, rfl⟩ := List.getElem?_eq_some_iff.1 h
  rw [List.take_succ_eq_append_getElem hk, leN_snoc, List.length_take, Nat.min_eq_left (by omega)]
theorem leN_take_lt (xs : List UInt8) (k : Nat) : leN (xs.take k) < 256 ^ k :=
  Nat.lt_of_lt_of_le (leN_lt _) (Nat.pow_le_pow_right (by omega) (List.length_take_le _ _))
theorem pow256 (k : Nat) : 256 ^ k = 2 ^ (8 * k) := by rw [Nat.pow_mul]
theorem or_join {N X k : Nat} (h : N < 256 ^ k) : N ||| X * 256 ^ k = N + X * 256 ^ k := by
  rw [Nat.or_comm, nat_join (8 * k) (X * 256 ^ k) N (by rw [pow256]; exact Nat.mul_mod_left _ _) (by rw [← pow256]; exact h), Nat.add_comm]
theorem putB_length (n : Nat) : ∀ k, (putB n k).length = k := by
  intro k
  induction k generalizing n with
  | zero => rfl
  | succ k ih => simp [putB, ih]
theorem putB_snoc (k : Nat) : ∀ n, putB n (k + 1) = putB n k ++ [UInt8.ofNat (n / 256 ^ k)] := by
  induction k with
  | zero => intro n; simp [putB]
  | succ k ih =>
    intro n
    rw [putB, ih (n / 256)]
    simp only [putB, List.cons_append, Nat.div_div_eq_div_mul]
    rw [Nat.pow_succ, Nat.mul_comm 256]
theorem toNat_ofNat (n : Nat) : (UInt8.ofNat n).toNat = n % 256 := by simp
theorem leN_putB (k : Nat) : ∀ n, leN (putB n k) = n % 256 ^ k := by
  induction k with
  | zero => intro n; simp [putB, leN, Nat.mod_one]
  | succ k ih =>
    intro n
    rw [putB, leN, ih, toNat_ofNat, Nat.pow_succ, Nat.mul_comm (256 ^ k) 256, Nat.mod_mul]
end Go.Proofs.Ytmcnhcbibcjgnaa
