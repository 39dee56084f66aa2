/-
  The walk of the law CrcParts.
-/
import Derived.Test.YtnmlkkjodcpbhaaCrcWorks
import Derived.StillTailTactics
namespace Go.Proofs.Ytnmlkkjodcpbhaa
open Go.RowKit
set_option linter.unusedVariables false

/-- As a region's still step asks for it. -/
theorem still_of {P : Program} {f : Nat} {args : Array Value} {v : Value} {w : World} (h : Calls P f args w fun e w' => e = .returned v ∧ w = w') : Calls P f args w fun e w' => e = .returned v ∧ w' = w :=
  h.mono fun _ _ h => ⟨h.1, h.2.symm⟩

set_option maxHeartbeats 1000000 in
theorem parts_any (A : Option Addr) (n c N : Nat) (xs : List UInt8) (w : World) (hN : N < 65536) (hn : n = xs.length) (hc : n ≤ c) (hm : c ≤ maxLen) (hl : Lies w w.heap.size A xs) :
    Calls Try.prog 4 #[.slice A n c, .int .u16 (N : Int)] w fun e w' => e = .returned (.bool true) ∧ Below w.heap.size w w' := by
  have hm' : c ≤ 9223372036854775807 := by unfold maxLen at hm; exact hm
  have Hn := Lib.hid hn
  clear hn
  by_cases h1 : 3000 < n
  · go_enter Try.func4, Try.ntmps4
    go_wp2_with fail
    refine (works02_any w).mono ?_
    rintro e w1 ⟨rfl, hb⟩
    go_wp2_with fail
    go_ret
    exact ⟨rfl, hb⟩
  · go_enter Try.func4, Try.ntmps4
    go_wp2_with fail
    obtain ⟨k, hk, hkn⟩ : ∃ k : Nat, (N : Int) % ((n : Int) + 1) = (k : Int) ∧ k ≤ n := ⟨N % (n + 1), by rw [show ((n : Int) + 1) = ((n + 1 : Nat) : Int) by omega]; exact (Int.natCast_emod N (n + 1)).symm, by have := Nat.mod_lt N (show 0 < n + 1 by omega); omega⟩
    rw [hk]
    clear hk
    have q1 : (0 : Int) ≤ (k : Int) := by omega
    have q2 : (k : Int) ≤ (c : Int) := by omega
    have q3 : (k : Int) ≤ (n : Int) := by omega
    have hxl : xs.length ≤ c := by have := Hn.out; omega
    have Hl := Lib.hid hl
    have L1 := Lib.hid (hl.take k)
    have L2 := Lib.hid (hl.drop (k := k) hxl)
    clear hl hxl
    refine wp_region_still_tail 20 (by kernel_rfl) (by kernel_rfl) ?_
    simp only [List.take_succ_cons, List.take_zero, List.drop_succ_cons, List.drop_zero]
    still_step
    still_step
    still_step
    still_call (still_of (of_any _ _ _ (xs.take k) _ _ L1.out (by have := Hn.out; rw [List.length_take]; omega) (by omega)))
    still_step
    still_step
    still_step
    still_call (still_of (more_any (crcOf (xs.take k)) _ _ _ (xs.drop k) _ _ L2.out (by have := Hn.out; rw [List.length_drop]; omega) (by omega)))
    rw [crcMore_more, List.take_append_drop]
    still_step
    still_call (still_of (of_any _ _ _ xs _ _ Hl.out Hn.out (by omega)))
    still_step
    still_step
    still_step
    still_call (still_of (of_any _ _ _ xs _ _ Hl.out Hn.out (by omega)))
    still_call (still_of (more_any (crcOf xs) _ _ _ [] _ 0 (Lies.nil _ _ _) rfl (by omega)))
    rw [crcMore_nil]
    still_step
    still_call (still_of (of_any _ _ _ xs _ _ Hl.out Hn.out (by omega)))
    still_step
    still_step
    still_step
    refine wpStill_nil ?_
    change wpList _ _ _ _ _ w.drew
    go_wp2_with fail
    all_goals
      refine (works02_any w.drew).mono ?_
      rintro e w1 ⟨rfl, hb⟩
      go_wp2_with fail
      go_ret
      exact ⟨rfl, below_from_drew hb⟩
end Go.Proofs.Ytnmlkkjodcpbhaa
