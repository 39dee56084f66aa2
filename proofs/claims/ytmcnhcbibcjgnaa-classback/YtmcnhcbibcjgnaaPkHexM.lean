/-
  Plain mathematics: bytes as hexadecimal digits, there and back, and their order; the big-endian number of the first bytes. No program is named here.
-/
import Derived.Test.YtmcnhcbibcjgnaaPkNum
import Derived.WalkKit
namespace Go.Proofs.Ytmcnhcbibcjgnaa

/-- The digit of a number below 16. -/
def dig (n : Nat) : UInt8 := if n < 10 then UInt8.ofNat (48 + n) else UInt8.ofNat (87 + n)
/-- The number of a digit. -/
def undig (c : UInt8) : Option Nat := if 48 ≤ c.toNat ∧ c.toNat ≤ 57 then some (c.toNat - 48) else if 97 ≤ c.toNat ∧ c.toNat ≤ 102 then some (c.toNat - 87) else none
def hexB (xs : List UInt8) : List UInt8 := xs.flatMap fun x => [dig (x.toNat / 16), dig (x.toNat % 16)]
/-- The bytes whose digits these are, if there are any. -/
def unhex : List UInt8 → Option (List UInt8)
  | [] => some []
  | [_] => none
  | c :: d :: r => do
    let h ← undig c
    let l ← undig d
    let xs ← unhex r
    pure (UInt8.ofNat (16 * h + l) :: xs)
/-- The number of bytes, the highest first. -/
def beN (xs : List UInt8) : Nat := xs.foldl (fun n x => n * 256 + x.toNat) 0

theorem hexB_cons (x : UInt8) (xs : List UInt8) : hexB (x :: xs) = dig (x.toNat / 16) :: dig (x.toNat % 16) :: hexB xs := rfl
theorem hexB_length (xs : List UInt8) : (hexB xs).length = 2 * xs.length := by
  induction xs with
  | nil => rfl
  | cons x xs ih => rw [hexB_cons]; simp [ih]; omega
theorem hexB_append (a b : List UInt8) : hexB (a ++ b) = hexB a ++ hexB b := by simp [hexB]
theorem dig_toNat {n : Nat} (h : n < 16) : (dig n).toNat = if n < 10 then 48 + n else 87 + n := by
  unfold dig
  split <;> rw [toNat_ofNat] <;> omega
theorem undig_dig {n : Nat} (h : n < 16) : undig (dig n) = some n := by
  unfold undig
  rw [dig_toNat h]
  by_cases h1 : n < 10
  · rw [if_pos h1, if_pos (by omega)]
    congr 1
    omega
  · rw [if_neg h1, if_neg (by omega), if_pos (by omega)]
    congr 1
    omega
theorem dig_undig {c : UInt8} {n : Nat} (h : undig c = some n) : n < 16 ∧ dig n = c := by
  unfold undig at h
  split at h
  · injection h with h
    refine ⟨by omega, UInt8.toNat_inj.1 ?_⟩
    rw [dig_toNat (by omega), if_pos (by omega)]
    omega
  · split at h
    · injection h with h
      refine ⟨by omega, UInt8.toNat_inj.1 ?_⟩
      rw [dig_toNat (by omega), if_neg (by omega)]
      omega
    · cases h
theorem dig_inj {a b : Nat} (ha : a < 16) (hb : b < 16) (h : dig a = dig b) : a = b := by
  have := undig_dig ha
  rw [h, undig_dig hb] at this
  exact (Option.some.inj this).symm
theorem dig_lt {a b : Nat} (ha : a < 16) (hb : b < 16) : (dig a < dig b) = (a < b) := by
  rw [UInt8.lt_iff_toNat_lt, dig_toNat ha, dig_toNat hb]
  apply propext
  split <;> split <;> omega
theorem unhex_hexB (xs : List UInt8) : unhex (hexB xs) = some xs := by
  induction xs with
  | nil => rfl
  | cons x xs ih =>
    have hx := x.toNat_lt
    rw [hexB_cons, unhex, undig_dig (by omega), undig_dig (by omega), ih]
    show some (UInt8.ofNat (16 * (x.toNat / 16) + x.toNat % 16) :: xs) = _
    rw [show 16 * (x.toNat / 16) + x.toNat % 16 = x.toNat by omega]
    simp
theorem hexB_unhex : ∀ (s xs : List UInt8), unhex s = some xs → hexB xs = s
  | [], xs, h => by
    simp [unhex] at h
    subst h
    rfl
  | [_], xs, h => by simp [unhex] at h
  | c :: d :: r, xs, h => by
    rw [unhex] at h
    simp only [bind, Option.bind_eq_some_iff, pure, Option.some.injEq] at h
    obtain ⟨hi, h1, lo, h2, ys, h3, rfl⟩ := h
    obtain ⟨b1, e1⟩ := dig_undig h1
    obtain ⟨b2, e2⟩ := dig_undig h2
    rw [hexB_cons, toNat_ofNat, show (16 * hi + lo) % 256 / 16 = hi by omega, show (16 * hi + lo) % 256 % 16 = lo by omega, e1, e2, hexB_unhex r ys h3]
theorem unhex_length {s xs : List UInt8} (h : unhex s = some xs) : s.length = 2 * xs.length := by rw [← hexB_unhex s xs h, hexB_length]
/-- Digits stand in the order of their bytes. -/
theorem hexB_less : ∀ a b : List UInt8, Op.bytesLess (hexB a) (hexB b) = Op.bytesLess a b
  | a, [] => by cases a <;> rfl
  | [], b :: y => by rw [hexB_cons]; rfl
  | a :: x, b :: y => by
    have ha := a.toNat_lt
    have hb := b.toNat_lt
    rw [hexB_cons, hexB_cons]
    simp only [Op.bytesLess]
    rw [hexB_less x y]
    have e1 : decide (dig (a.toNat / 16) < dig (b.toNat / 16)) = decide (a.toNat / 16 < b.toNat / 16) := by rw [decide_eq_decide, dig_lt (by omega) (by omega)]
    have e2 : decide (dig (a.toNat % 16) < dig (b.toNat % 16)) = decide (a.toNat % 16 < b.toNat % 16) := by rw [decide_eq_decide, dig_lt (by omega) (by omega)]
    have e3 : (dig (a.toNat / 16) == dig (b.toNat / 16)) = decide (a.toNat / 16 = b.toNat / 16) := by
      rw [Bool.eq_iff_iff, beq_iff_eq, decide_eq_true_iff]
      exact ⟨dig_inj (by omega) (by omega), fun h => by rw [h]⟩
    have e4 : (dig (a.toNat % 16) == dig (b.toNat % 16)) = decide (a.toNat % 16 = b.toNat % 16) := by
      rw [Bool.eq_iff_iff, beq_iff_eq, decide_eq_true_iff]
      exact ⟨dig_inj (by omega) (by omega), fun h => by rw [h]⟩
    have e5 : (a == b) = decide (a.toNat = b.toNat) := by
      rw [Bool.eq_iff_iff, beq_iff_eq, decide_eq_true_iff, UInt8.toNat_inj]
    have e6 : decide (a < b) = decide (a.toNat < b.toNat) := by rw [decide_eq_decide, UInt8.lt_iff_toNat_lt]
    rw [e1, e2, e3, e4, e5, e6]
    generalize Op.bytesLess x y = z
    rw [Bool.eq_iff_iff]
    cases z
    · simp only [Bool.or_eq_true, Bool.and_eq_true, decide_eq_true_iff, Bool.and_false, Bool.false_eq_true, or_false]
      omega
    · simp only [Bool.or_eq_true, Bool.and_eq_true, decide_eq_true_iff, and_true]
      omega
theorem beN_snoc (xs : List UInt8) (x : UInt8) : beN (xs ++ [x]) = beN xs * 256 + x.toNat := by simp [beN]
theorem beN_take_succ {xs : List UInt8} {k : Nat} {x : UInt8} (h : xs[k]? = some x) : beN (xs.take (k + 1)) = beN (xs.take k) * 256 + x.toNat := by
  obtain ⟨hk, rfl⟩ := List.getElem?_eq_some_iff.1 h
  rw [List.take_succ_eq_append_getElem hk, beN_snoc]
theorem beN_from (xs : List UInt8) : ∀ n : Nat, xs.foldl (fun n x => n * 256 + x.toNat) n < (n + 1) * 256 ^ xs.length := by
  induction xs with
  | nil => intro n; simp
  | cons x xs ih =>
    intro n
    have hx := x.toNat_lt
    have h := ih (n * 256 + x.toNat)
    rw [List.foldl_cons, List.length_cons, Nat.pow_succ]
    have h2 : (n * 256 + x.toNat + 1) * 256 ^ xs.length ≤ ((n + 1) * 256) * 256 ^ xs.length := Nat.mul_le_mul_right _ (by omega)
    rw [Nat.mul_comm (256 ^ xs.length) 256, ← Nat.mul_assoc]
    omega
theorem beN_lt (xs : List UInt8) : beN xs < 256 ^ xs.length := by
  have := beN_from xs 0
  rwa [Nat.zero_add, Nat.one_mul] at this
end Go.Proofs.Ytmcnhcbibcjgnaa
