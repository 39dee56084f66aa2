/-
  The walk of the law WordNumbers.
-/
import Derived.Test.YtpgddlajlehilaaWorks
import Derived.Test.YtpgddlajlehilaaRPut
import Derived.Test.YtpgddlajlehilaaRGet
import Derived.Test.YtpgddlajlehilaaRSame
import Derived.Test.YtpgddlajlehilaaRZero
namespace Go.Proofs.Ytpgddlajlehilaa
open Go.RowKit
set_option linter.unusedVariables false

set_option maxHeartbeats 1000000 in
theorem numbers_any (N : Nat) (s : Int) (A : Option Addr) (n c : Nat) (xs : List UInt8) (w : World) (hN : N < 18446744073709551616) (hs : -9223372036854775808 ≤ s) (hn : n = xs.length) (hc : n ≤ c) (hm : c ≤ maxLen) (hl : Lies w w.heap.size A xs) :
    Calls Try.prog 3 #[.int .u64 (N : Int), .int .i64 s, .slice A n c] w fun e w' => e = .returned (.bool true) ∧ Below w.heap.size w w' := by
  have hm' : c ≤ 9223372036854775807 := by unfold maxLen at hm; exact hm
  have Hn := Lib.hid hn
  clear hn
  by_cases h1 : 100 < s
  · go_enter Try.func3, Try.ntmps3
    go_wp2_with fail
    refine (works_any w).mono ?_
    rintro e w1 ⟨rfl, hb⟩
    go_wp2_with fail
    go_ret
    exact ⟨rfl, hb⟩
  · have h1' : decide (100 < s) = false := by simp; omega
    by_cases h2 : 3000 < n
    · go_enter Try.func3, Try.ntmps3
      go_wp2_with fail
      refine (few_yes _ _ _ w h2).mono ?_
      rintro e w1 ⟨rfl, rfl⟩
      go_wp2_with fail
      refine (works_any w).mono ?_
      rintro e w1 ⟨rfl, hb⟩
      go_wp2_with fail
      go_ret
      exact ⟨rfl, hb⟩
    · go_enter Try.func3, Try.ntmps3
      go_wp2_with fail
      refine (few_no _ _ _ w (by omega)).mono ?_
      rintro e w1 ⟨rfl, rfl⟩
      go_wp2_with fail
      refine (put_any N s w (by omega) hN).mono ?_
      rintro e w1 ⟨A1, c1, rfl, _, _, hl1, hb1⟩
      go_wp2_with fail
      refine (rput_any s.toNat N _ s w1 rfl rfl (by omega) hs hN).mono ?_
      rintro e w2 ⟨A2, c2, rfl, _, _, hl2, hb2, _⟩
      have hl1' := (hl1.below hb2).le hb2.size
      have hb12 := below_seq hb1 hb2
      have hll := hl.below hb12
      go_wp2_with fail
      refine (same_any _ _ _ _ _ _ (putB N s.toNat) (putB N s.toNat) w2 w2.heap.size rfl rfl hl1' hl2).mono ?_
      rintro e w3 ⟨rfl, rfl⟩
      rw [beq_self_eq_true]
      go_wp2_with fail
      refine (get_n _ _ _ xs w2 _ hll Hn.out (by omega)).mono ?_
      rintro e w3 ⟨rfl, rfl⟩
      go_wp2_with fail
      refine (rget_any xs _ _ _ w2 _ Hn.out hc hll).mono ?_
      rintro e w3 ⟨rfl, m, rfl⟩
      have hb3 := below_drewN' hb12 m
      generalize w2.drewN m = w3 at *
      go_wp2_with fail
      refine (works_any w3).mono ?_
      rintro e w4 ⟨rfl, hb4⟩
      go_wp2_with fail
      go_ret
      exact ⟨rfl, below_seq hb3 hb4⟩
end Go.Proofs.Ytpgddlajlehilaa
