/-
  Slices of values of many cells that came in, as the walks ask for them.
-/
import Derived.Test.YtmcnhcbibcjgnaaRows
import Derived.Test.YtmcnhcbibcjgnaaPkSuperM
import Derived.Test.YtmcnhcbibcjgnaaPkLiesIn
import Derived.Test.YtmcnhcbibcjgnaaPkOpen
namespace Go.Proofs.Ytmcnhcbibcjgnaa
open Go.ChangeShapes Go.WideShapes Go.ChangeAt Go.RowKit
set_option linter.unusedVariables false
set_option maxRecDepth 100000

section
variable {H : Type} {enc : TypeId × Value → H} {W : World}
/-- Rows of such that came in. -/
theorem rows_in {α : Type} [Inhabited α] {f : α → List Value} {size : Nat} {T E : TypeId} {fuel : Nat} {a : Option Addr} {len cap : Nat} {x : DataW H × List MemPlace} (hT : Try.prog.underlying T = some (.slice E)) (hs : Try.prog.cellsOf E = size) (h0 : 0 < size) (hf : ∀ o, (f o).length = size)
    (hin : ∀ {fuel : Nat} {cs : List Value} {x : DataW H × List MemPlace}, DataW.trod enc Try.prog W 0 (fun _ => true) true fuel E cs = some x → ∃ o : α, cs = f o)
    (h : DataW.trod enc Try.prog W 0 (fun _ => true) true fuel T (Value.slice a len cap).cells.toList = some x) :
    ∃ l : List α, len = l.length ∧ len ≤ cap ∧ LiesV W W.heap.size a (l.flatMap f) := by
  rcases Go.Deep.open_slice hT h with ⟨hcs, _⟩ | ⟨x, l, c, m, n, D, Pl, hcs, _, hl, hm, hmm, _, hi⟩
  · simp [Value.cells] at hcs
    obtain ⟨rfl, rfl, rfl⟩ := hcs
    exact ⟨[], rfl, Nat.le_refl _, LiesV.nil _ _ _⟩
  · simp [Value.cells] at hcs
    obtain ⟨rfl, rfl, rfl⟩ := hcs
    rw [if_pos rfl] at hmm
    subst hmm
    have each : ∀ i, i < len → ∃ o : α, ∀ j v, (f o)[j]? = some v → W.cell? (x.add (i * size + j)) = some v := by
      intro i hlt
      obtain ⟨cs', h1, h2⟩ := hi i (by omega)
      rw [hs] at h1
      obtain ⟨o, rfl⟩ := hin h2
      obtain ⟨_, _, h6⟩ := World.cells?_some h1
      refine ⟨o, fun j v hj => ?_⟩
      have hj4 : j < size := by have := (List.getElem?_eq_some_iff.1 hj).1; rw [hf] at this; exact this
      rw [← Go.Deep.add_add, h6 j hj4]
      exact hj
    obtain ⟨g, hfo⟩ := Go.Deep.choose_lt each
    refine ⟨(List.range len).map g, by simp, hl, lies_of_cells fun i v hv => ?_⟩
    have hi4 : i < len * size := by
      have := (List.getElem?_eq_some_iff.1 hv).1
      rw [flat_length (f := f) (k := size) hf, List.length_map, List.length_range] at this
      exact this
    have hq : i / size < len := (Nat.div_lt_iff_lt_mul h0).2 hi4
    have hget : ((List.range len).map g)[i / size]? = some (g (i / size)) := by simp [hq]
    have hsplit : i = i / size * size + i % size := by rw [Nat.mul_comm]; exact (Nat.div_add_mod i size).symm
    have hsp := flat_get (f := f) (k := size) hf hget (i % size) (Nat.mod_lt _ h0)
    rw [hsplit, hsp] at hv
    rw [hsplit]
    exact hfo (i / size) hq (i % size) v hv
end
end Go.Proofs.Ytmcnhcbibcjgnaa
