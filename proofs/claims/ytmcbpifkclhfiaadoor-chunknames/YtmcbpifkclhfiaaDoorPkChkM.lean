/-
  Layer 13, naming no program: a text's chunks (256 bytes each, the last one shorter); how many there are and how long each is; they put together are the text; sectors joined; the addresses of two chunks of the laws' own example differ.
-/
import Derived.Test.YtmcbpifkclhfiaaDoorPkSha
import Derived.Test.YtmcbpifkclhfiaaDoorPkMadeV
namespace Go.Proofs.YtmcbpifkclhfiaaDoor
set_option linter.unusedVariables false

/-- How many chunks a text of n bytes has; how long chunk i is. -/
def countK (n : Nat) : Nat := (n + 255) / 256
def partK (n i : Nat) : Nat := min 256 (n - i * 256)
theorem countK_zero : countK 0 = 0 := rfl
theorem countK_pos {n : Nat} (h : 0 < n) : 0 < countK n := by unfold countK; omega
theorem countK_le (n : Nat) : n ≤ countK n * 256 := by unfold countK; omega
theorem countK_lt {n i : Nat} : i < countK n ↔ i * 256 < n := by unfold countK; omega
theorem countK_step {n : Nat} (h : 256 < n) : countK n = countK (n - 256) + 1 := by unfold countK; omega
theorem countK_one {n : Nat} (h : 0 < n) (h2 : n ≤ 256) : countK n = 1 := by unfold countK; omega
theorem partK_zero {n i : Nat} (h : ¬ i < countK n) : partK n i = 0 := by have := countK_lt (n := n) (i := i); unfold partK; omega
theorem partK_pos {n i : Nat} (h : i < countK n) : 0 < partK n i := by have := countK_lt.1 h; unfold partK; omega
theorem partK_le (n i : Nat) : partK n i ≤ 256 := by unfold partK; omega
theorem partK_full {n i : Nat} (h : i + 1 < countK n) : partK n i = 256 := by have := countK_lt.1 h; unfold partK; omega
/-- Chunk i; all of them. -/
def chunkK (b : List UInt8) (i : Nat) : List UInt8 := (b.drop (i * 256)).take 256
theorem chunkK_length (b : List UInt8) (i : Nat) : (chunkK b i).length = partK b.length i := by simp [chunkK, partK]
def chunksK (b : List UInt8) : List (List UInt8) := (List.range (countK b.length)).map (chunkK b)
theorem chunksK_length (b : List UInt8) : (chunksK b).length = countK b.length := by simp [chunksK]
theorem chunksK_nil : chunksK [] = [] := rfl
theorem chunksK_get {b : List UInt8} {i : Nat} (h : i < countK b.length) : (chunksK b)[i]? = some (chunkK b i) := by
  rw [chunksK, List.getElem?_map, List.getElem?_range h]
  rfl
theorem chunkK_zero (b : List UInt8) : chunkK b 0 = b.take 256 := by simp [chunkK]
theorem chunkK_drop (b : List UInt8) (i : Nat) : chunkK (b.drop 256) i = chunkK b (i + 1) := by
  unfold chunkK
  rw [List.drop_drop]
  congr 2
  omega
/-- As the reference cuts. -/
theorem chunksK_one {b : List UInt8} (h : 0 < b.length) (h2 : b.length ≤ 256) : chunksK b = [b] := by
  unfold chunksK
  rw [countK_one h h2]
  simp [chunkK, List.take_of_length_le h2]
set_option maxRecDepth 10000 in
theorem chunksK_step {b : List UInt8} (h : 256 < b.length) : chunksK b = b.take 256 :: chunksK (b.drop 256) := by
  unfold chunksK
  rw [countK_step h, List.range_succ_eq_map, List.map_cons, chunkK_zero, List.map_map, List.length_drop]
  congr 1
  apply List.map_congr_left
  intro i _
  exact (chunkK_drop b i).symm
theorem chunksK_upto (b : List UInt8) : ∀ k, k ≤ countK b.length → ((List.range k).map (chunkK b)).flatten = b.take (k * 256)
  | 0, _ => by simp
  | k + 1, h => by
    rw [List.range_succ, List.map_append, List.flatten_append, chunksK_upto b k (by omega), List.map_singleton, List.flatten_singleton, chunkK, Nat.succ_mul, List.take_add]
/-- The chunks put together are the text. -/
theorem chunksK_flat (b : List UInt8) : (chunksK b).flatten = b := by
  rw [chunksK, chunksK_upto b _ (Nat.le_refl _), List.take_of_length_le (countK_le _)]
/-- A chunk as a sector: noughts behind it. -/
def padK (c : List UInt8) : List UInt8 := c.take 256 ++ List.replicate (256 - c.length) 0
theorem padK_length (c : List UInt8) : (padK c).length = 256 := by simp [padK]; omega
theorem padK_full {c : List UInt8} (h : c.length = 256) : padK c = c := by simp [padK, h, List.take_of_length_le (Nat.le_of_eq h)]
/-- The bytes of a row of sectors. -/
def flatS (l : List Sec) : List UInt8 := l.flatMap (·.1)
theorem flatS_length (l : List Sec) : (flatS l).length = l.length * 256 := by
  induction l with
  | nil => rfl
  | cons s l ih => show (s.1 ++ flatS l).length = _; rw [List.length_append, ih, s.2, List.length_cons]; omega
theorem flatS_snoc (l : List Sec) (s : Sec) : flatS (l ++ [s]) = flatS l ++ s.1 := by simp [flatS]
theorem flatS_take {l : List Sec} {k : Nat} {s : Sec} (h : l[k]? = some s) : flatS (l.take (k + 1)) = flatS (l.take k) ++ s.1 := by
  rw [List.take_add_one, h]
  exact flatS_snoc _ _
/-- What Join answers: the bytes, and the code. -/
def joinC (size : Int) (l : List Sec) : Int :=
  if size < 1 ∨ 2048 < size then 15 else if l.length ≠ countK size.toNat then 1 else if ((flatS l).drop size.toNat).all (· == 0) = true then 0 else 5
def joinB (size : Int) (l : List Sec) : List UInt8 := if joinC size l = 0 then (flatS l).take size.toNat else []
/-- The words whose sum is an address. -/
def saidK (c : List UInt8) : List UInt8 := [99, 104, 117, 110, 107] ++ c
def wordsK (n : Nat) (as : List (List UInt8)) : List UInt8 := [116, 101, 120, 116] ++ putB n 4 ++ as.flatten
def adrK13 (c : List UInt8) : List UInt8 := shaB (saidK c)
def textK (b : List UInt8) : List UInt8 := shaB (wordsK b.length ((chunksK b).map adrK13))
/-- The laws' own example. -/
def exB : List UInt8 := List.replicate 299 0 ++ [7]
theorem exB_differ : adrK13 (chunkK exB 0) ≠ adrK13 (chunkK exB 1) := by decide +kernel
end Go.Proofs.YtmcbpifkclhfiaaDoor
