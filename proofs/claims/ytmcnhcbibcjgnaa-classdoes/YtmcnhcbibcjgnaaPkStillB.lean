/-
  A call that leaves the world alone, in the form that a region's walk takes; the size of a byte.
-/
import Derived.Test.YtmcnhcbibcjgnaaPkPutO
import Derived.StillTailTactics
namespace Go.Proofs.Ytmcnhcbibcjgnaa
open Go.RowKit
set_option linter.unusedVariables false

theorem still_ofB {P : Program} {f : Nat} {args : Array Value} {v : Value} {w : World} (h : Calls P f args w fun e w' => e = .returned v ∧ w = w') : Calls P f args w fun e w' => e = .returned v ∧ w' = w :=
  h.mono fun _ _ h => ⟨h.1, h.2.symm⟩

theorem Try.size5 : (Try.prog.info? 5).map (·.size) = some 1 := by kernel_rfl
end Go.Proofs.Ytmcnhcbibcjgnaa
