/-
  Words of 32 bits as the walk holds them: 'nv r', a name that nothing takes apart, and what each operation of Go makes of such words. No program is named here.
-/
import Derived.Test.YtoiphbdmmiikaaaNum
import Derived.Laws.BitsAllLaws
import Derived.IntWalk
namespace Go.Proofs.Ytoiphbdmmiikaaa

/-- A register as the walk holds it: a name that nothing takes apart. -/
def nv (r : BitVec 32) : Int := (r.toNat : Int)
theorem nv_bd (r : BitVec 32) : 0 ≤ nv r ∧ nv r ≤ 4294967295 := by
  have := r.isLt
  unfold nv
  omega
theorem nv_inj {a b : BitVec 32} (h : nv a = nv b) : a = b := by
  unfold nv at h
  exact BitVec.eq_of_toNat_eq (by omega)

theorem half (r : BitVec 32) : (nv r / (2 : Int)) = nv (r >>> 1) := by
  unfold nv
  rw [BitVec.toNat_ushiftRight, Nat.shiftRight_eq_div_pow]
  omega
theorem xor_nat (a b : BitVec 32) : bits .xor .u32 (nv a) (nv b) = nv (a ^^^ b) := by
  unfold nv
  rw [u32_xor_nat _ _ (by have := a.isLt; omega) (by have := b.isLt; omega), BitVec.toNat_xor]
theorem xor_ones (r : BitVec 32) : r ^^^ ~~~ 0#32 = ~~~ r := by
  apply BitVec.eq_of_getLsbD_eq
  intro i hi
  simp only [BitVec.getLsbD_xor, BitVec.getLsbD_not, BitVec.getLsbD_zero, hi]
  simp
theorem not_nat (a : BitVec 32) : bits .xor .u32 IntKind.u32.max (nv a) = nv (~~~ a) := by
  have e : IntKind.u32.max = nv (~~~ 0#32) := by decide
  rw [e, xor_nat, BitVec.xor_comm, xor_ones]
theorem and_nat (a b : BitVec 32) : bits .and .u32 (nv a) (nv b) = nv (a &&& b) := by
  unfold nv
  rw [u32_and_nat _ _ (by have := a.isLt; omega) (by have := b.isLt; omega), BitVec.toNat_and]
theorem or_nat (a b : BitVec 32) : bits .or .u32 (nv a) (nv b) = nv (a ||| b) := by
  unfold nv
  rw [u32_or_nat _ _ (by have := a.isLt; omega) (by have := b.isLt; omega), BitVec.toNat_or]
theorem add_nat (a b : BitVec 32) : (nv a + nv b) % 4294967296 = nv (a + b) := by
  unfold nv
  rw [BitVec.toNat_add]
  omega
theorem add_wrap (a b : BitVec 32) : IntKind.u32.wrap (nv a + nv b) = nv (a + b) := (show IntKind.u32.wrap (nv a + nv b) = (nv a + nv b) % 4294967296 from rfl).trans (add_nat a b)
theorem shr_nat (a : BitVec 32) (n : Nat) : nv a / 2 ^ n = nv (a >>> n) := by
  unfold nv
  rw [BitVec.toNat_ushiftRight, Nat.shiftRight_eq_div_pow, Int.natCast_ediv, Int.natCast_pow]
  rfl
theorem shl_nat (a : BitVec 32) (n : Nat) : nv a * 2 ^ n % 4294967296 = nv (a <<< n) := by
  unfold nv
  rw [BitVec.toNat_shiftLeft, Nat.shiftLeft_eq, Int.natCast_emod, Int.natCast_mul, Int.natCast_pow]
  rfl
theorem ones_sub (a : BitVec 32) : (4294967295 : Int) - nv a = nv (~~~ a) := by
  have := a.isLt
  unfold nv
  rw [BitVec.toNat_not]
  omega
theorem sub_wrap (a : BitVec 32) : IntKind.u32.wrap ((4294967295 : Int) - nv a) = nv (~~~ a) := by
  rw [ones_sub]
  have := nv_bd (~~~ a)
  exact (show IntKind.u32.wrap (nv (~~~ a)) = (nv (~~~ a)) % 4294967296 from rfl).trans (by omega)
theorem nv_ofNat {n : Nat} (h : n < 4294967296) : nv (BitVec.ofNat 32 n) = (n : Int) := by
  unfold nv
  rw [BitVec.toNat_ofNat, Nat.mod_eq_of_lt (by omega)]
end Go.Proofs.Ytoiphbdmmiikaaa
