/-
  The size of a sector, as the program has it.
-/
import Derived.Test.YtmcnhcbibcjgnaaRows
import Derived.Test.YtmcnhcbibcjgnaaPkSuperM
import Derived.WalkKit
namespace Go.Proofs.Ytmcnhcbibcjgnaa
open Go.RowKit

theorem Try.sizeSec : (Try.prog.info? 48).map (·.size) = some 256 := by kernel_rfl
theorem Try.zeroS : (Try.prog.info? 48).bind (·.zero) = some (.agg zeroSec.cs.toArray) := by kernel_rfl
theorem sec_size (s : Sec) : (Try.prog.info? 48).map (·.size) = some s.cs.length := by rw [Sec.cs_length]; exact Try.sizeSec
theorem sec_size' (s : Sec) : (Try.prog.info? 48).map (·.size) = some s.cs.toArray.size := by rw [List.size_toArray]; exact sec_size s
theorem sec_all (s : Sec) : s.cs.toArray.all (·.oneCell') = true := all_oneCell_toArray s.one
end Go.Proofs.Ytmcnhcbibcjgnaa
