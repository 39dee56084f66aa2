/-
  Bools that came in, as the walks ask for them.
-/
import Derived.Test.YtgkmbnmelepenaaRows
import Derived.Test.YtgkmbnmelepenaaPkMemV
import Derived.ProofKit
import Derived.OpenShut
import Derived.Deep.Slices
import Derived.Deep.Grids
import Derived.Deep.Matrix
import Derived.ChangeArms
import Derived.DataReads
namespace Go.Proofs.Ytgkmbnmelepenaa
open Go.ChangeShapes Go.WideShapes Go.ChangeAt Go.RowKit
set_option linter.unusedVariables false
set_option maxRecDepth 100000

theorem lies_of_cells {W : World} {a : Addr} {cs : List Value} (h : ∀ i v, cs[i]? = some v → W.cell? (a.add i) = some v) : LiesV W W.heap.size (some a) cs := by
  intro hne
  obtain ⟨v, hv⟩ : ∃ v, cs[0]? = some v := by
    cases cs with
    | nil => exact absurd rfl hne
    | cons v r => exact ⟨v, rfl⟩
  obtain ⟨b, off, spot⟩ := a
  have h0 := h 0 v hv
  have hspot : spot = none := by simpa [Addr.add] using World.cell?_spot h0
  subst hspot
  refine ⟨b, off, rfl, ?_, fun i u hi => ?_⟩
  · have := World.block_lt_of_cell? W _ h0
    rwa [Go.WideShapes.add_plain] at this
  · rw [← Go.WideShapes.add_plain]
    exact h i u hi

section
variable {H : Type} {enc : TypeId × Value → H} {W : World}
/-- A slice of bools that came in. -/
theorem bools_of {fuel : Nat} {cs : List Value} {x : DataW H × List MemPlace} (h : DataW.trod enc Try.prog W 0 (fun _ => true) true fuel 44 cs = some x) :
    ∃ (A : Option Addr) (c : Nat) (keep : List Bool), cs = [.slice A keep.length c] ∧ keep.length ≤ c ∧ LiesV W W.heap.size A (keep.map Value.bool) := by
  rcases Go.Deep.open_bools Try.underlying44 Try.underlying4 (by kernel_rfl) h with ⟨hcs, _⟩ | ⟨a, len, cap, B, hcs, _, hl, _, _, hc⟩
  · exact ⟨none, 0, [], hcs, Nat.le_refl _, LiesV.nil _ _ _⟩
  · refine ⟨some a, cap, (List.range len).map B, by simpa using hcs, by simpa using hl, lies_of_cells fun i v hi => ?_⟩
    rw [List.getElem?_map, Option.map_eq_some_iff] at hi
    obtain ⟨b, hb, rfl⟩ := hi
    rw [List.getElem?_map, Option.map_eq_some_iff] at hb
    obtain ⟨j, hj, rfl⟩ := hb
    rw [List.getElem?_eq_some_iff] at hj
    obtain ⟨h1, h2⟩ := hj
    rw [List.getElem_range] at h2
    rw [List.length_range] at h1
    subst h2
    exact hc _ (by omega)
end
end Go.Proofs.Ytgkmbnmelepenaa
