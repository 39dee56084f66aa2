/-
  A constant's bytes ('[]byte("..")' of a constant): the row that is laid, with the mark behind it. No function of the program is named here.
-/
import Derived.Test.YthkbbghoofknpaaDoorMem
import Derived.Lib.SlBytesConst
namespace Go.Proofs.YthkbbghoofknpaaDoor
open Go.RowKit

theorem Lies.lit_mark (w : World) (cs : Array Value) (fr : Nat × Nat) (xs : List UInt8) (h : cs.toList = Go.Proofs.YthkbbghoofknpaaDoor.cells xs) (B : Nat) (hB : w.heap.size < B) : Lies (w.alloc (.cells cs 5 fr)) B (some ⟨w.heap.size, 0, none⟩) xs := by
  intro _
  refine ⟨w.heap.size, 0, rfl, hB, fun i x hi => ?_⟩
  rw [cell_of_row _ w.heap.size (0 + i) cs 5 fr (heap_alloc_new w _), Nat.zero_add, ← Array.getElem?_toList, h]
  exact cells_get hi
end Go.Proofs.YthkbbghoofknpaaDoor
