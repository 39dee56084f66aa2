/-
  The size of a sector, as the program has it.
  A sector that is filled with one byte, cell by cell. No program is named here.
-/
import Derived.Test.YticlbefbnfnlmaaRows
import Derived.Test.YticlbefbnfnlmaaPkSlmP
import Derived.WalkKit
import Derived.Test.YticlbefbnfnlmaaPkRPut
namespace Go.Proofs.Yticlbefbnfnlmaa
open Go.RowKit

theorem Try.sizeSec : (Try.prog.info? 42).map (·.size) = some 256 := by kernel_rfl
theorem Try.zeroS : (Try.prog.info? 42).bind (·.zero) = some (.agg zeroSec.cs.toArray) := by kernel_rfl
theorem sec_size (s : Sec) : (Try.prog.info? 42).map (·.size) = some s.cs.length := by rw [Sec.cs_length]; exact Try.sizeSec
theorem sec_size' (s : Sec) : (Try.prog.info? 42).map (·.size) = some s.cs.toArray.size := by rw [List.size_toArray]; exact sec_size s
theorem sec_all (s : Sec) : s.cs.toArray.all (·.oneCell') = true := all_oneCell_toArray s.one
end Go.Proofs.Yticlbefbnfnlmaa
namespace Go.Proofs.Yticlbefbnfnlmaa
open Go.RowKit Go.Maps
set_option linter.unusedVariables false

theorem fill_zero : cells (fill [] 256) = zeroSec.cs := by
  unfold Sec.cs zeroSec fill
  rfl
theorem fill_rep (b : UInt8) (k : Nat) (h : k < 256) : (cells (fill (List.replicate k b) 256)).set k (.int .u8 (b.toNat : Int)) = cells (fill (List.replicate (k + 1) b) 256) := by
  have := fill_set (xs := List.replicate k b) (k := 256) b (by simpa using h)
  rw [List.length_replicate] at this
  rw [this, List.replicate_succ']
theorem fill_done (b : UInt8) : cells (fill (List.replicate 256 b) 256) = (fillSec b).cs := by
  unfold Sec.cs fillSec fill
  simp only [List.length_replicate, Nat.sub_self, List.replicate_zero, List.append_nil]
end Go.Proofs.Yticlbefbnfnlmaa
