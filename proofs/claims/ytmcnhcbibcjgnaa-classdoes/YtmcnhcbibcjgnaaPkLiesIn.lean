/-
  Cells that came in lie at their address. No program is named here.
-/
import Derived.Test.YtmcnhcbibcjgnaaPkStr
import Derived.ProofKit
import Derived.OpenShut
import Derived.Deep.Slices
import Derived.Deep.Grids
import Derived.Deep.Matrix
import Derived.ChangeArms
import Derived.DataReads
namespace Go.Proofs.Ytmcnhcbibcjgnaa
open Go.ChangeShapes Go.WideShapes Go.ChangeAt Go.RowKit
set_option linter.unusedVariables false
set_option maxRecDepth 100000

theorem lies_of_cells {W : World} {a : Addr} {cs : List Value} (h : ∀ i v, cs[i]? = some v → W.cell? (a.add i) = some v) : LiesV W W.heap.size (some a) cs := by
  intro hne
  obtain ⟨v, hv⟩ : ∃ v, cs[0]? = some v := by
    cases cs with
    | nil => exact absurd rfl hne
    | cons v r => exact ⟨v, rfl⟩
  obtain ⟨b, off, spot⟩ := a
  have h0 := h 0 v hv
  have hspot : spot = none := by simpa [Addr.add] using World.cell?_spot h0
  subst hspot
  refine ⟨b, off, rfl, ?_, fun i u hi => ?_⟩
  · have := World.block_lt_of_cell? W _ h0
    rwa [Go.WideShapes.add_plain] at this
  · rw [← Go.WideShapes.add_plain]
    exact h i u hi

end Go.Proofs.Ytmcnhcbibcjgnaa
