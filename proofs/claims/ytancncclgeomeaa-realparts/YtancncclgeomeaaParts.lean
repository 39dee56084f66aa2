/-
  The walk of the law RealParts.
-/
import Derived.Test.YtancncclgeomeaaWorks4
namespace Go.Proofs.Ytancncclgeomeaa
open Go.RowKit
set_option linter.unusedVariables false

theorem wholeV_two (b : Nat) : ∃ k c : Int, wholeV b = .tuple #[.int .i64 k, .int .i64 c] := by
  unfold wholeV
  split
  · exact ⟨_, _, rfl⟩
  · split
    · exact ⟨_, _, rfl⟩
    · exact ⟨_, _, rfl⟩

set_option maxHeartbeats 1000000 in
set_option maxRecDepth 100000 in
theorem rparts_any (n o : Int) (b : Nat) (hb : b < 18446744073709551616) (w : World) :
    Calls Try.prog 5 #[.int .i64 n, .int .i64 o, .int .u64 (b : Int)] w fun e w' => e = .returned (.bool true) ∧ Below w.heap.size w w' := by
  have hx := run_ofBits
  obtain ⟨k, c, hv⟩ := wholeV_two b
  have Hv := Lib.hid hv
  clear hv
  go_enter Try.func5, Try.ntmps5
  go_wp2_with fail
  refine (whole_any b w).mono ?_
  rintro e w1 ⟨rfl, rfl⟩
  rw [Hv.out]
  go_wp2_with fail
  refine (rwhole_any b w).mono ?_
  rintro e w1 ⟨rfl, rfl⟩
  rw [Hv.out]
  go_wp2_with fail
  refine (part_any n o w).mono ?_
  rintro e w1 ⟨r1, rfl, hr1, ht1, hb1⟩
  have T1 := Lib.hid ht1
  clear ht1
  go_wp2_with fail
  refine (rpart_any n o w1).mono ?_
  rintro e w2 ⟨r2, rfl, hr2, ht2, hb2⟩
  have hs := Lib.hid (T1.out.same ht2)
  clear ht2 T1
  go_wp2_with fail
  refine (sameF_any r1 r2 w2).mono ?_
  rintro e w2' ⟨rfl, rfl⟩
  rw [hs.out]
  go_wp2_with fail
  refine (works04_any w2).mono ?_
  rintro e w3 ⟨rfl, hb3⟩
  go_wp2
  go_ret
  exact ⟨rfl, below_seq (below_seq hb1 hb2) hb3⟩
end Go.Proofs.Ytancncclgeomeaa
