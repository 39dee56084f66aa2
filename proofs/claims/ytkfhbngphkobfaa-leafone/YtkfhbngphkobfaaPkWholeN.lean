/-
  The contract of word.Whole.
-/
import Derived.Test.YtkfhbngphkobfaaPkRNumC
import Derived.Test.YtkfhbngphkobfaaPkArr
namespace Go.Proofs.Ytkfhbngphkobfaa
open Go.RowKit
set_option linter.unusedVariables false

/-- A sector of noughts. -/
def sec0 : List UInt8 := List.replicate 256 0
/-- The sector that begins with xs. -/
def wholeB (xs : List UInt8) : List UInt8 := fill (xs.take 256) 256
theorem sec0_length : sec0.length = 256 := List.length_replicate
theorem wholeB_length (xs : List UInt8) : (wholeB xs).length = 256 := fill_length (List.length_take_le _ _)
theorem over_zeros (t : List UInt8) (n : Nat) : over (List.replicate n 0) 0 t = fill t n := by
  unfold over fill
  simp
theorem over_sec0 (xs : List UInt8) : over sec0 0 (xs.take 256) = wholeB xs := over_zeros _ _
theorem Try.zero35 : (Try.prog.info? 28).bind (·.zero) = some (.agg (cells sec0).toArray) := by kernel_rfl
theorem Try.size35 : (Try.prog.info? 28).map (·.size) = some 256 := by kernel_rfl
theorem Try.len35 : Try.prog.arrayLen 28 = 256 := by kernel_rfl
/-- A call that answers a sector, and turns nothing that was there. -/
def RetSec (w : World) (xs : List UInt8) (e : Ending) (w' : World) : Prop := e = .returned (.agg (cells xs).toArray) ∧ Below w.heap.size w w'

set_option maxRecDepth 100000 in
set_option maxHeartbeats 400000 in
theorem whole_any (A : Option Addr) (n c : Nat) (xs : List UInt8) (w : World) (B : Nat) (h : Lies w B A xs) (hn : n = xs.length) (hB : B ≤ w.heap.size) :
    Calls Try.prog 27 #[.slice A n c] w (RetSec w (wholeB xs)) := by
  obtain ⟨i0, hi, hz0, hz1, hz2⟩ := info_parts Try.info5
  have hsz : (Try.prog.info? 5).map (·.size) = some 1 := by rw [hi]; simp [hz1]
  have Hsz := Lib.hid hsz
  have Hn := Lib.hid hn
  clear hsz hn
  go_enter Try.func27, Try.ntmps27
  go_wp2_with (with_reducible refine wpList_alloc_row rfl 28 rfl sec0 Try.zero35 ?_)
  intro w1 hr1 hb1 hs1
  go_wp2_with (with_reducible refine wpList_alloc_row rfl 28 rfl sec0 Try.zero35 ?_)
  intro w2 hr2 hb2 hs2
  have hl2 : Lies w2 B A xs := (h.below (hb1.mono hB)).below (hb2.mono (by omega))
  obtain ⟨w3, hrun, hr3, hg3⟩ := run_copy_lies (P := Try.prog) (dT := 43) (sT := 43) (ty := 3) (c := c) Try.underlying43 Hsz.out (some ⟨w.heap.size + 1, 0, none⟩) 256 256 0 hr2 hl2 Hn.out rfl (by rw [sec0_length]; omega)
  rw [over_sec0] at hr3
  have hr1' : Row w3 w.heap.size 28 sec0 := (hr1.below (hb2.mono (by omega))).keep hg3 (by intro e; injection e with e; omega)
  have hb3 : Below w.heap.size w w3 := (hb1.trans (hb2.mono (by omega))).grown hg3 (by omega) (fun g e => by injection e with e; omega)
  have hsz3 : (Try.prog.info? 28).map (·.size) = some ((cells (wholeB xs)).toArray).size := by rw [Try.size35]; simp only [List.size_toArray, cells_length, wholeB_length]
  have hold : ((cells sec0).toArray).size = ((cells (wholeB xs)).toArray).size := by simp only [List.size_toArray, cells_length, wholeB_length, sec0_length]
  have Hsz3 := Lib.hid hsz3
  have Hold := Lib.hid hold
  clear hsz3 hold
  go_wp2_with (first
    | ((with_reducible refine at_load 28 ?_); refine wpList_load_row rfl 28 _ rfl (w.heap.size + 1) rfl 28 _ (0, 0) _ hr3 Try.underlying28 rfl Hsz3.out ?_)
    | ((with_reducible refine at_store 28 ?_); refine wpList_store_row rfl 28 _ _ rfl w.heap.size _ rfl rfl 28 _ hr1' Hsz3.out Hold.out (cells_oneCell _) ?_))
  refine bodyPost_ret (results_cell_row (fn := Try.f27) rfl _ _ w.heap.size 28 _ (0, 0) _ rfl (hr1'.set (wholeB xs)) Try.underlying28 rfl Hsz3.out) rfl ⟨rfl, below_setRow hb3 (Nat.le_refl _) _⟩
end Go.Proofs.Ytkfhbngphkobfaa
