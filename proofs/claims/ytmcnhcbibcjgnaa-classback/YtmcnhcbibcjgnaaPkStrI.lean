/-
  A byte of a string by its place. No program is named here.
-/
import Derived.Test.YtmcnhcbibcjgnaaPkStr
import Derived.WalkKit
namespace Go.Proofs.Ytmcnhcbibcjgnaa
open Go.RowKit
set_option linter.unusedVariables false

section
variable {P : Program}
theorem run_index_str {W : World} (s : ByteArray) (n : Nat) (c : UInt8) (k : IntKind) (h9 : P.underlying 9 = some .string) (hc : s.data.toList[n]? = some c) : (Instr.index 9 (.string s) (.int k (n : Int))).run P W = .ok (.int .u8 (c.toNat : Int)) W := by
  have e : s[n]? = some c := by
    obtain ⟨⟨l⟩⟩ := s
    have hn : n < l.length := (List.getElem?_eq_some_iff.1 hc).1
    rw [getElem?_pos (ByteArray.mk (Array.mk l)) n hn]
    have : l[n]? = some c := hc
    rw [List.getElem?_eq_getElem hn] at this
    exact this
  simp [Instr.index, asIntOf, run_underlying h9, e]
end
end Go.Proofs.Ytmcnhcbibcjgnaa
