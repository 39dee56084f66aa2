/-
  Layer 6: the contract of disk.New.
-/
import Derived.Test.YtoiphbdmmiikaaaDiskA
namespace Go.Proofs.Ytoiphbdmmiikaaa
open Go.RowKit
set_option linter.unusedVariables false

theorem Try.infoS : (Try.prog.info? 24).map (fun i => (i.zero, i.size, i.bytes)) = some (some zeroSec.val, 256, 256) := by kernel_rfl
theorem Try.infoC : (Try.prog.info? 75).map (fun i => (i.zero, i.size, i.bytes)) = some (some (.agg (.int .i64 0 :: zeroSec.cs).toArray), 257, 264) := by kernel_rfl
theorem Try.sizeSec : (Try.prog.info? 24).map (·.size) = some 256 := by kernel_rfl
theorem Try.sizeC : (Try.prog.info? 75).map (·.size) = some 257 := by kernel_rfl

theorem zero_cs : zeroSec.cs = List.replicate 256 (.int .u8 0) := by
  unfold Sec.cs zeroSec cells
  rw [List.map_replicate]
  rfl
theorem made_secs (n : Nat) : (madeCells zeroSec.val.cells (n * 256)).toList = secs (List.replicate n zeroSec) := by
  have e1 : secs (List.replicate n zeroSec) = List.replicate (n * 256) (.int .u8 0) := by
    induction n with
    | zero => rfl
    | succ n ih =>
      rw [List.replicate_succ]
      show zeroSec.cs ++ secs _ = _
      rw [ih, zero_cs, List.replicate_append_replicate, Nat.succ_mul]
      congr 1
      omega
  rw [e1]
  apply List.ext_getElem?
  intro j
  have e2 : zeroSec.val.cells = zeroSec.cs.toArray := rfl
  rw [e2, zero_cs]
  generalize hN : (256 : Nat) = N
  have hp : 0 < N := by omega
  clear hN e1 e2
  by_cases hj : j < n * N
  · have : j % N < N := Nat.mod_lt _ hp
    simp [madeCells, hj, this]
  · simp [madeCells, hj]

set_option maxRecDepth 100000 in
set_option maxHeartbeats 2000000 in
theorem dnew_bad (w : World) (x : Int) (hx : x < 1 ∨ 4096 < x) : Calls Try.prog 13 #[.int .i64 x] w fun e w' => e = .returned (.tuple #[.pointer none, .int .i64 2]) ∧ w' = w := by
  go_enter Try.func13, Try.ntmps13
  go_wp2_with fail
  all_goals first | (exfalso; omega) | skip
  all_goals go_ret2
  all_goals exact ⟨rfl, rfl⟩

set_option maxRecDepth 100000 in
set_option maxHeartbeats 2000000 in
theorem dnew_any (w : World) (n : Nat) (h1 : 1 ≤ n) (h2 : n ≤ 4096) : Calls Try.prog 13 #[.int .i64 (n : Int)] w fun e w' =>
    ∃ g L, e = .returned (.tuple #[.pointer (some ⟨g, 0, none⟩), .int .i64 0]) ∧ Disk w' w.heap.size L g (Dk.new n) ∧ Below w.heap.size w w' := by
  obtain ⟨i0, hi, hz0, hz1, hz2⟩ := info_parts Try.infoS
  have hmm := @run_makeMap Try.prog
  go_enter Try.func13, Try.ntmps13
  go_wp2_with (at_make; refine wpList_make_full _ rfl _ _ 68 rfl w.heap.size 24 i0 zeroSec.val 256 Try.underlying68 hi hz0 hz1 .i64 .i64 _ _ n rfl rfl rfl rfl (by rw [hz2]; omega) (by unfold maxLen; omega) (Nat.le_refl _) ?_; intro w1 hown hgrow)
  go_ret2
  have hs := hgrow.size
  have hb : Below w.heap.size w w1 := ⟨hgrow.os, hgrow.tape, hgrow.output, hgrow.size, fun k hk => hgrow.block k hk (by simp)⟩
  rw [made_secs] at hown
  refine ⟨_, _, rfl, ⟨.slice (some ⟨w.heap.size, 0, none⟩) n n, .slice none 0 0, w1.heap.size, ⟨?_, ?_, World.ownsRow_nil _ _ _ _, ?_, by omega, hs⟩, rfl⟩, ?_⟩
  · have := heap_alloc_new (w1.alloc (.map #[] 0)) (.cells (dcells (.slice (some ⟨w.heap.size, 0, none⟩) n n) (.slice none 0 0) w1.heap.size (Dk.new n)).toArray 72)
    rwa [World.size_alloc] at this
  · show World.ownsRow _ _ _ _ _ (List.replicate n zeroSec).length (secs (List.replicate n zeroSec))
    rw [List.length_replicate]
    exact (hown.alloc _).alloc _
  · exact (World.ownsMap_made w1 _ _ _).alloc _
  · exact (hb.alloc hs _).alloc (by rw [World.size_alloc]; omega) _
end Go.Proofs.Ytoiphbdmmiikaaa
