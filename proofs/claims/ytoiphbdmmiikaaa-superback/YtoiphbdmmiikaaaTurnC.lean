/-
  Bits turned, as the walks ask for them. No program is named here.
-/
import Derived.Test.YtoiphbdmmiikaaaCrcE
import Derived.Test.YtoiphbdmmiikaaaNv
import Derived.Test.YtoiphbdmmiikaaaMem
import Derived.Lib.SmallJoins
namespace Go.Proofs.Ytoiphbdmmiikaaa
open Go.RowKit
set_option linter.unusedVariables false

theorem test_eq (M k : Nat) (hM : M < 4294967296) : (bits .and .u32 ((M : Int) / 2 ^ k) 1 == 1) = M.testBit k := by
  have e : ((M : Int) / 2 ^ k) = ((M / 2 ^ k : Nat) : Int) := by rw [Int.natCast_ediv, Int.natCast_pow]; rfl
  have hle : M / 2 ^ k ≤ M := Nat.div_le_self _ _
  have := u32_and_nat (M / 2 ^ k) 1 (by omega) (by omega)
  rw [Int.ofNat_one] at this
  rw [e, this, nat_mask1, Nat.testBit_eq_decide_div_mod_eq]
  rcases Nat.mod_two_eq_zero_or_one (M / 2 ^ k) with h | h <;> simp [h]

theorem turn_byte (x : UInt8) (q : Nat) (hq : q < 8) : bits .xor .u8 (x.toNat : Int) (2 ^ q % 256) = ((x ^^^ UInt8.ofNat (2 ^ q)).toNat : Int) := by
  have hx := x.toNat_lt
  have e : ((2 : Int) ^ q % 256) = ((2 ^ q % 256 : Nat) : Int) := by rw [Int.natCast_emod, Int.natCast_pow]; rfl
  rw [e, u8_xor_nat _ _ (by omega) (by omega), UInt8.toNat_xor, toNat_ofNat]

theorem turn_cells {s : List UInt8} {P M k : Nat} {x : UInt8} (hb : M.testBit k = true) (hx : (turnK s P M k)[(P + k) / 8]? = some x) :
    cells (turnK s P M (k + 1)) = (cells (turnK s P M k)).set ((P + k) / 8) (.int .u8 ((x ^^^ UInt8.ofNat (2 ^ ((P + k) % 8))).toNat : Int)) := by
  have e : turnK s P M (k + 1) = turn1 (turnK s P M k) (P + k) := by
    show (if M.testBit k then _ else _) = _
    rw [if_pos hb]
  rw [e, turn1, List.getD_eq_getElem?_getD, hx]
  unfold cells
  rw [List.map_set]
  rfl
end Go.Proofs.Ytoiphbdmmiikaaa
