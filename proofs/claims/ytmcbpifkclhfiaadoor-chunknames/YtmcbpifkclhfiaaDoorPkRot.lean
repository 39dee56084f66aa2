/-
  Contracts of bits.RotateLeft32 (turned by a negative number), digest.rotated and the reference's right.
-/
import Derived.Test.YtmcbpifkclhfiaaDoorRows
import Derived.Test.YtmcbpifkclhfiaaDoorPkSha
import Derived.WalkKit
import Derived.WalkLawsBesides
import Derived.Lib.Hide
namespace Go.Proofs.YtmcbpifkclhfiaaDoor
open Go.RowKit
set_option linter.unusedVariables false

set_option maxRecDepth 100000 in
theorem rotr_any (x : BitVec 32) (n : Nat) (h1 : 1 ≤ n) (h2 : n ≤ 31) (w : World) :
    Calls Tryd.prog 45 #[.int .u32 (nv x), .int .u64 (n : Int)] w fun e w' => e = .returned (.int .u32 (nv (rot x n))) ∧ w = w' := by
  have hb := nv_bd x
  have e1 := shr_nat x n
  have e2 := shl_nat x (32 - n)
  have e3 := or_nat (x >>> n) (x <<< (32 - n))
  go_enter Tryd.func45, Tryd.ntmps45
  go_wp2
  go_ret
  exact ⟨rfl, rfl⟩
theorem turn_and : ∀ n : Nat, n < 32 → 1 ≤ n → bits .and .u64 (IntKind.u64.wrap (-(n : Int))) 31 = 32 - (n : Int) := by decide +kernel
set_option maxRecDepth 100000 in
theorem rotl_any (x : BitVec 32) (n : Nat) (h1 : 1 ≤ n) (h2 : n ≤ 31) (w : World) :
    Calls Tryd.prog 47 #[.int .u32 (nv x), .int .i64 (-(n : Int))] w fun e w' => e = .returned (.int .u32 (nv (rot x n))) ∧ w = w' := by
  have hb := nv_bd x
  have ha := turn_and n (by omega) h1
  have e1 := shr_nat x n
  have e2 := shl_nat x (32 - n)
  have e3 := or_nat (x <<< (32 - n)) (x >>> n)
  rw [BitVec.or_comm] at e3
  have e5 : 32 - (32 - n) = n := by omega
  go_enter Tryd.func47, Tryd.ntmps47
  go_wp2
  go_ret
  exact ⟨rfl, rfl⟩
set_option maxRecDepth 100000 in
theorem rotated_any (x : BitVec 32) (n : Nat) (h1 : 1 ≤ n) (h2 : n ≤ 31) (w : World) :
    Calls Tryd.prog 46 #[.int .u32 (nv x), .int .i64 (n : Int)] w fun e w' => e = .returned (.int .u32 (nv (rot x n))) ∧ w = w' := by
  have hb := nv_bd x
  go_enter Tryd.func46, Tryd.ntmps46
  go_wp2_with fail
  refine (rotl_any x n h1 h2 w).mono ?_
  rintro e w1 ⟨rfl, rfl⟩
  go_wp2
  go_ret
  exact ⟨rfl, rfl⟩
end Go.Proofs.YtmcbpifkclhfiaaDoor
