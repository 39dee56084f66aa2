/-
  Words for what a call answers: new bytes ('RetRow', 'RetNew'); rows that are filled from the front. No function of the program is named here.
-/
import Derived.Test.YtkkllmjomdbndaaRows
import Derived.Test.YtkkllmjomdbndaaPkMemV
import Derived.Test.YtkkllmjomdbndaaPkNum
import Derived.Test.YtkkllmjomdbndaaPkApp
import Derived.WalkKit
import Derived.WalkLawsBesides
import Derived.Lib.Hide
namespace Go.Proofs.Ytkkllmjomdbndaa
open Go.RowKit
set_option linter.unusedVariables false

theorem Try.info5 : (Try.prog.info? 5).map (fun i => (i.zero, i.size, i.bytes)) = some (some (.int .u8 0), 1, 1) := by kernel_rfl

/-- A call that answers new bytes, and turns nothing that was there. -/
def RetRow (w : World) (xs : List UInt8) (e : Ending) (w' : World) : Prop :=
  ∃ A c, e = .returned (.slice A xs.length c) ∧ xs.length ≤ c ∧ c ≤ maxLen ∧ Lies w' w'.heap.size A xs ∧ Below w.heap.size w w'

/-- The address, if there is one, lies from block lo on. -/
def Fresh (lo : Nat) (A : Option Addr) : Prop := ∀ a, A = some a → lo ≤ a.block
theorem Fresh.of_own {w : World} {base : Nat} {e : TypeId} {size : Nat} {A : Option Addr} {n m c : Nat} {xs : List Value} (h : w.ownsRow base e size (.slice A m c) n xs) : Fresh base A := by
  rintro a rfl
  exact own_ge h a.block rfl
theorem Lies.set_fresh {w : World} {B lo : Nat} {A : Option Addr} {xs : List UInt8} (h : Lies w B A xs) (hf : Fresh lo A) {p : Addr} (hp : p.block < lo) (v : Value) : Lies (w.setCell p v) B A xs := by
  intro hx
  obtain ⟨b, o, e, hb, hc⟩ := h hx
  refine ⟨b, o, e, hb, fun i x hi => ?_⟩
  rw [World.cell?_of_block (Below.heap_setCell w p v b (by have := hf _ e; simp at this; omega))]
  exact hc i x hi
theorem Lies.grown_fresh {w w' : World} {B lo g : Nat} {A : Option Addr} {xs : List UInt8} (h : Lies w B A xs) (hf : Fresh lo A) (hg : w.grownBy w' (some g)) (hB : B ≤ w.heap.size) (hp : g < lo) : Lies w' B A xs := by
  intro hx
  obtain ⟨b, o, e, hb, hc⟩ := h hx
  refine ⟨b, o, e, hb, fun i x hi => ?_⟩
  rw [World.cell?_of_block (hg.block b (by omega) (fun e' => by injection e' with e'; have := hf _ e; simp at this; omega))]
  exact hc i x hi
/-- A call that answers new bytes in new memory, and turns nothing that was there. -/
def RetNew (w : World) (xs : List UInt8) (e : Ending) (w' : World) : Prop :=
  ∃ A c, e = .returned (.slice A xs.length c) ∧ xs.length ≤ c ∧ c ≤ maxLen ∧ Lies w' w'.heap.size A xs ∧ Below w.heap.size w w' ∧ Fresh w.heap.size A

/-- A row of k bytes, the first ones told, the others nought. -/
def fill (xs : List UInt8) (k : Nat) : List UInt8 := xs ++ List.replicate (k - xs.length) 0
theorem fill_length {xs : List UInt8} {k : Nat} (h : xs.length ≤ k) : (fill xs k).length = k := by simp [fill]; omega
theorem fill_set {xs : List UInt8} {k : Nat} (x : UInt8) (h : xs.length < k) : (cells (fill xs k)).set xs.length (.int .u8 (x.toNat : Int)) = cells (fill (xs ++ [x]) k) := by
  have e : k - xs.length = (k - (xs ++ [x]).length) + 1 := by simp; omega
  unfold fill
  rw [e, List.replicate_succ, cells_append, cells_append, cells_append, List.append_assoc]
  rw [List.set_append_right _ _ (by rw [cells_length]; exact Nat.le_refl _), cells_length, Nat.sub_self]
  simp [cells]
theorem fill_full {xs : List UInt8} : fill xs xs.length = xs := by simp [fill]
theorem fill_made (k : Nat) : (madeCells #[Value.int .u8 0] k).toList = cells (fill [] k) := by
  rw [toList_madeCells_one]
  simp [fill, cells]

theorem byte_of (n : Nat) : (n : Int) % 256 = ((UInt8.ofNat n).toNat : Int) := by
  rw [toNat_ofNat]
  omega

end Go.Proofs.Ytkkllmjomdbndaa
