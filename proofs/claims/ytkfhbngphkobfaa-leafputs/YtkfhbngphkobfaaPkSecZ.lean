/-
  The size of a sector, as the program has it.
-/
import Derived.Test.YtkfhbngphkobfaaRows
import Derived.Test.YtkfhbngphkobfaaPkSuperM
import Derived.WalkKit
namespace Go.Proofs.Ytkfhbngphkobfaa
open Go.RowKit

theorem Try.sizeSec : (Try.prog.info? 28).map (·.size) = some 256 := by kernel_rfl
theorem Try.zeroS : (Try.prog.info? 28).bind (·.zero) = some (.agg zeroSec.cs.toArray) := by kernel_rfl
theorem sec_size (s : Sec) : (Try.prog.info? 28).map (·.size) = some s.cs.length := by rw [Sec.cs_length]; exact Try.sizeSec
theorem sec_size' (s : Sec) : (Try.prog.info? 28).map (·.size) = some s.cs.toArray.size := by rw [List.size_toArray]; exact sec_size s
theorem sec_all (s : Sec) : s.cs.toArray.all (·.oneCell') = true := all_oneCell_toArray s.one
end Go.Proofs.Ytkfhbngphkobfaa
