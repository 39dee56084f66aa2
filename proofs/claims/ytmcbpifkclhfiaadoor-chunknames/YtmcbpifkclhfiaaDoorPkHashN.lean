/-
  A hash in memory ('HashAt'), and the contract of digest.New.
-/
import Derived.Test.YtmcbpifkclhfiaaDoorPkMixC
import Derived.Test.YtmcbpifkclhfiaaDoorPkBuild
import Derived.Test.YtmcbpifkclhfiaaDoorPkPadC
namespace Go.Proofs.YtmcbpifkclhfiaaDoor
open Go.RowKit
set_option linter.unusedVariables false

/-- Block g is a hash of the message m: the words behind the whole blocks, the rest of the message (what lies behind it in the block is not told), the number of bytes. -/
def HashAt (w : World) (g : Nat) (m : List UInt8) : Prop := ∃ blk : List UInt8, blk.length = 64 ∧ blk.take (m.length % 64) = m.drop (64 * (m.length / 64)) ∧
  RowV w g 66 (wcells (foldK shaH m (m.length / 64)).list ++ (cells blk ++ [.int .u64 (m.length : Int)]))
theorem HashAt.lt {w : World} {g : Nat} {m : List UInt8} (h : HashAt w g m) : g < w.heap.size := by
  obtain ⟨_, _, _, h⟩ := h
  exact h.lt
theorem HashAt.below {w w' : World} {g : Nat} {m : List UInt8} (h : HashAt w g m) (hb : Below w.heap.size w w') : HashAt w' g m := by
  obtain ⟨blk, h1, h2, h3⟩ := h
  exact ⟨blk, h1, h2, h3.below h3.lt hb⟩
theorem HashAt.grown {w w' : World} {g k : Nat} {m : List UInt8} (h : HashAt w g m) (hb : w.grownBy w' (some k)) (hk : k ≠ g) : HashAt w' g m := by
  obtain ⟨blk, h1, h2, h3⟩ := h
  exact ⟨blk, h1, h2, h3.keep hb (fun e => hk (by injection e))⟩
theorem HashAt.drew {w : World} {g : Nat} {m : List UInt8} (h : HashAt w g m) : HashAt w.drew g m := h
def zero64 : List UInt8 := List.replicate 64 0

set_option maxRecDepth 100000 in
set_option maxHeartbeats 1000000 in
theorem new_any (w : World) : Calls Tryd.prog 30 #[] w fun e w' => e = .returned (.pointer (some ⟨w.heap.size, 0, none⟩)) ∧ HashAt w' w.heap.size [] ∧ Below w.heap.size w w' ∧ w'.heap.size = w.heap.size + 1 := by
  go_enter Tryd.func30, Tryd.ntmps30
  go_wp2_with ((with_reducible refine at_build 66 ?_); refine wpList_build_to rfl 66 _ rfl (wcells shaH.list ++ (cells zero64 ++ [.int .u64 0])) (by kernel_rfl) ?_)
  go_ret
  exact ⟨rfl, ⟨zero64, rfl, rfl, heap_alloc_new w _⟩, (Below.refl _ _).alloc (Nat.le_refl _) _, by simp⟩
end Go.Proofs.YtmcbpifkclhfiaaDoor
