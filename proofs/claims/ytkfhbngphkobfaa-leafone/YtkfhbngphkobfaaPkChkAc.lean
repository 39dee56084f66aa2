/-
  Layer 13: the contract of Count.
-/
import Derived.Test.YtkfhbngphkobfaaRows
import Derived.Test.YtkfhbngphkobfaaPkSuperM
import Derived.WalkKit
import Derived.WalkSpells
namespace Go.Proofs.Ytkfhbngphkobfaa
open Go.RowKit
set_option linter.unusedVariables false

theorem countK_quo {s : Int} (h : 1 ≤ s) : (s - 1).tdiv 256 + 1 = ((countK s.toNat : Nat) : Int) := by
  obtain ⟨n, rfl⟩ : ∃ n : Nat, s = n := ⟨s.toNat, by omega⟩
  rw [Int.tdiv_eq_ediv_of_nonneg (by omega)]
  unfold countK
  simp only [Int.toNat_natCast]
  omega
set_option maxRecDepth 100000 in
theorem kcount_any (s : Int) (w : World) (h1 : -9223372036854775808 ≤ s) (h2 : s ≤ 9223372036854775807) : Calls Try.prog 23 #[.int .i64 s] w fun e w' => e = .returned (.int .i64 ((countK s.toNat : Nat) : Int)) ∧ w = w' := by
  by_cases h : s < 1
  · have e0 : countK s.toNat = 0 := by unfold countK; omega
    rw [e0]
    clear e0
    go_enter Try.func23, Try.ntmps23
    go_wp2
    go_ret
    exact ⟨rfl, rfl⟩
  · have e0 := countK_quo (s := s) (by omega)
    rw [← e0]
    clear e0
    have hd : (s - 1).tdiv 256 = (s - 1) / 256 := Int.tdiv_eq_ediv_of_nonneg (by omega)
    rw [hd]
    go_enter Try.func23, Try.ntmps23
    go_wp2
    go_ret
    exact ⟨rfl, rfl⟩
end Go.Proofs.Ytkfhbngphkobfaa
