/-
  copy of a string's or a slice's bytes into a row of the call's own: laws for the walk. No program is named here.
-/
import Derived.Test.YtoiphbdmmiikaaaApp
import Derived.Lib.BufferWrite
import Derived.Laws.CopyOwn
namespace Go.Proofs.Ytoiphbdmmiikaaa
open Go.RowKit

/-- The bytes t laid over xs from place k on. -/
def over (xs : List UInt8) (k : Nat) (t : List UInt8) : List UInt8 := xs.take k ++ t ++ xs.drop (k + t.length)
theorem over_length {xs : List UInt8} {k : Nat} {t : List UInt8} (h : k + t.length ≤ xs.length) : (over xs k t).length = xs.length := by
  simp [over]
  omega
theorem over_nil (xs : List UInt8) (k : Nat) : over xs k [] = xs := by simp [over]
theorem cells_over (xs : List UInt8) (k : Nat) (t : List UInt8) : cells (over xs k t) = (cells xs).take k ++ cells t ++ (cells xs).drop (k + t.length) := by
  simp [over, cells, List.map_take, List.map_drop]

section
variable {P : Program} {w : World} {base g n : Nat} {xs : List UInt8}

/-- The row of a full slice, written out. -/
theorem own_full (h : w.ownsRow base 5 1 (.slice (some ⟨g, 0, none⟩) n n) n (cells xs)) : w.heap[g]? = some (.cells (cells xs).toArray 5 (0, 0)) ∧ base ≤ g ∧ xs.length = n := by
  have hx : xs.length = n := by have := h.1; rw [cells_length] at this; omega
  rcases h.2 with ⟨h', _⟩ | ⟨g', cap', cur, h', hb, hg, _, _, hcs, htake⟩
  · simp at h'
  · simp only [Value.slice.injEq, Option.some.injEq, Addr.mk.injEq, and_true, true_and] at h'
    obtain ⟨rfl, rfl⟩ := h'
    rw [List.take_of_length_le (by rw [Array.length_toList]; omega)] at htake
    exact ⟨by rw [← htake]; simpa using hg, hb, hx⟩
theorem own_of_full {w' : World} (hg : w'.heap[g]? = some (.cells (cells xs).toArray 5 (0, 0))) (hb : base ≤ g) (hx : xs.length = n) (hm : n ≤ maxLen) :
    w'.ownsRow base 5 1 (.slice (some ⟨g, 0, none⟩) n n) n (cells xs) :=
  ⟨by rw [cells_length]; omega, .inr ⟨g, n, _, rfl, hb, hg, Nat.le_refl _, hm, by simp [cells_length, hx], List.take_of_length_le (by simp [cells_length, hx])⟩⟩

/-- copy of a string into a full row of the call's own, from place k on. -/
theorem run_copy_str {dT sT ty : TypeId} (hu : P.underlying dT = some (.slice 5)) (hsz : (P.info? 5).map (·.size) = some 1) (dp : Option Addr) (dLen dCap : Nat) (t : ByteArray) (k : Nat)
    (h : w.ownsRow base 5 1 (.slice (some ⟨g, 0, none⟩) n n) n (cells xs)) (hm : n ≤ maxLen) (hdp : t.size ≠ 0 → dp = some ⟨g, k, none⟩) (hle : t.size ≤ dLen) (hfit : k + t.size ≤ n) :
    ∃ w', (Builtin.copy_ #[dT, sT] ty #[.slice dp dLen dCap, .string t]).run P w = .ok (goInt t.size) w' ∧
      w'.ownsRow base 5 1 (.slice (some ⟨g, 0, none⟩) n n) n (cells (over xs k t.data.toList)) ∧ w.grownBy w' (some g) := by
  have hts : t.size = t.data.toList.length := Lib.size_eq t
  obtain ⟨hg, hb, hx⟩ := own_full h
  by_cases h0 : t.size = 0
  · have hnil : t.data.toList = [] := List.eq_nil_of_length_eq_zero (by omega)
    have hr := Lib.run_copy_empty_string (P := P) w dT sT ty 5 dp dLen dCap t hu (by simp [hsz]) h0
    exact ⟨w, by rw [h0]; exact hr, by rw [hnil, over_nil]; exact h, World.grownBy.refl _ _⟩
  · have hr := Lib.run_copy_row_string (P := P) w dT sT ty 5 g k dLen dCap t _ 5 hu hsz hg hle (by simp only [List.size_toArray, cells_length]; omega)
    rw [hdp h0]
    refine ⟨_, hr, own_of_full ?_ hb (by rw [over_length (by omega)]; exact hx) hm, ⟨rfl, rfl, rfl, by simp, fun k _ hk => setRow_other w g k _ (fun e => hk (by simp [e]))⟩⟩
    rw [cells_over, ← hts, show cells t.data.toList = Lib.byteCells t.data.toList from rfl]
    simpa using setRow_heap w g _ _ 5 _ hg
end
end Go.Proofs.Ytoiphbdmmiikaaa
