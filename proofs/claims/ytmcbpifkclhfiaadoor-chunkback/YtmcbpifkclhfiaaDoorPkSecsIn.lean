/-
  Slices of values of many cells that came in, as the walks ask for them.
  Slices of sectors that came in, as the walks ask for them.
-/
import Derived.Test.YtmcbpifkclhfiaaDoorRows
import Derived.Test.YtmcbpifkclhfiaaDoorPkMadeV
import Derived.Test.YtmcbpifkclhfiaaDoorPkLiesIn
import Derived.Test.YtmcbpifkclhfiaaDoorPkOpen
namespace Go.Proofs.YtmcbpifkclhfiaaDoor
open Go.ChangeShapes Go.WideShapes Go.ChangeAt Go.RowKit
set_option linter.unusedVariables false
set_option maxRecDepth 100000

section
variable {H : Type} {enc : TypeId × Value → H} {W : World}
/-- Rows of such that came in. -/
theorem rows_in {α : Type} [Inhabited α] {f : α → List Value} {size : Nat} {T E : TypeId} {fuel : Nat} {a : Option Addr} {len cap : Nat} {x : DataW H × List MemPlace} (hT : Tryd.prog.underlying T = some (.slice E)) (hs : Tryd.prog.cellsOf E = size) (h0 : 0 < size) (hf : ∀ o, (f o).length = size)
    (hin : ∀ {fuel : Nat} {cs : List Value} {x : DataW H × List MemPlace}, DataW.trod enc Tryd.prog W 0 (fun _ => true) true fuel E cs = some x → ∃ o : α, cs = f o)
    (h : DataW.trod enc Tryd.prog W 0 (fun _ => true) true fuel T (Value.slice a len cap).cells.toList = some x) :
    ∃ l : List α, len = l.length ∧ len ≤ cap ∧ LiesV W W.heap.size a (l.flatMap f) := by
  rcases Go.Deep.open_slice hT h with ⟨hcs, _⟩ | ⟨x, l, c, m, n, D, Pl, hcs, _, hl, hm, hmm, _, hi⟩
  · simp [Value.cells] at hcs
    obtain ⟨rfl, rfl, rfl⟩ := hcs
    exact ⟨[], rfl, Nat.le_refl _, LiesV.nil _ _ _⟩
  · simp [Value.cells] at hcs
    obtain ⟨rfl, rfl, rfl⟩ := hcs
    rw [if_pos rfl] at hmm
    subst hmm
    have each : ∀ i, i < len → ∃ o : α, ∀ j v, (f o)[j]? = some v → W.cell? (x.add (i * size + j)) = some v := by
      intro i hlt
      obtain ⟨cs', h1, h2⟩ := hi i (by omega)
      rw [hs] at h1
      obtain ⟨o, rfl⟩ := hin h2
      obtain ⟨_, _, h6⟩ := World.cells?_some h1
      refine ⟨o, fun j v hj => ?_⟩
      have hj4 : j < size := by have := (List.getElem?_eq_some_iff.1 hj).1; rw [hf] at this; exact this
      rw [← Go.Deep.add_add, h6 j hj4]
      exact hj
    obtain ⟨g, hfo⟩ := Go.Deep.choose_lt each
    refine ⟨(List.range len).map g, by simp, hl, lies_of_cells fun i v hv => ?_⟩
    have hi4 : i < len * size := by
      have := (List.getElem?_eq_some_iff.1 hv).1
      rw [flat_length (f := f) (k := size) hf, List.length_map, List.length_range] at this
      exact this
    have hq : i / size < len := (Nat.div_lt_iff_lt_mul h0).2 hi4
    have hget : ((List.range len).map g)[i / size]? = some (g (i / size)) := by simp [hq]
    have hsplit : i = i / size * size + i % size := by rw [Nat.mul_comm]; exact (Nat.div_add_mod i size).symm
    have hsp := flat_get (f := f) (k := size) hf hget (i % size) (Nat.mod_lt _ h0)
    rw [hsplit, hsp] at hv
    rw [hsplit]
    exact hfo (i / size) hq (i % size) v hv
end
end Go.Proofs.YtmcbpifkclhfiaaDoor
namespace Go.Proofs.YtmcbpifkclhfiaaDoor
open Go.ChangeShapes Go.WideShapes Go.ChangeAt Go.RowKit
set_option linter.unusedVariables false
set_option maxRecDepth 100000

section
variable {H : Type} {enc : TypeId × Value → H} {W : World}
theorem sec_cells {fuel : Nat} {cs : List Value} {x : DataW H × List MemPlace} (h : DataW.trod enc Tryd.prog W 0 (fun _ => true) true fuel 42 cs = some x) : ∃ a : Sec, cs = a.cs := by
  obtain ⟨ys, m, rfl, _, hlen, hn, hel⟩ := DataW.trod_array Tryd.underlying42 h
  have c1 : Tryd.prog.cellsOf 5 = 1 := by kernel_rfl
  have c32 : Tryd.prog.cellsOf 42 = 256 := by kernel_rfl
  rw [c32] at hlen
  have each : ∀ i, i < 256 → ∃ b : UInt8, cs[i]? = some (.int .u8 (b.toNat : Int)) := by
    intro i hi
    have h1 := hel i hi
    rw [c1, Nat.mul_one, List.getElem?_eq_getElem (show i < ys.length by omega)] at h1
    obtain ⟨n, e1, _, hw⟩ := DataW.trod_int Tryd.underlying5 h1
    refine ⟨UInt8.ofNat n.toNat, ?_⟩
    rw [byte_of_wf hw]
    have e2 := congrArg (·[0]?) e1
    simpa [List.getElem?_take, List.getElem?_drop] using e2
  obtain ⟨f, hf⟩ := Go.Deep.choose_lt each
  refine ⟨⟨(List.range 256).map f, by simp⟩, ?_⟩
  show cs = cells ((List.range 256).map f)
  apply List.ext_getElem?
  intro i
  by_cases hi : i < 256
  · rw [hf i hi]
    symm
    apply cells_get
    rw [List.getElem?_map, List.getElem?_range hi]
    rfl
  · rw [List.getElem?_eq_none (by omega), List.getElem?_eq_none (by rw [cells_length]; simp; omega)]
instance : Inhabited Sec := ⟨zeroSec⟩
theorem secs_in {fuel : Nat} {a : Option Addr} {len cap : Nat} {x : DataW H × List MemPlace} (h : DataW.trod enc Tryd.prog W 0 (fun _ => true) true fuel 41 (Value.slice a len cap).cells.toList = some x) :
    ∃ l : List Sec, len = l.length ∧ len ≤ cap ∧ LiesV W W.heap.size a (secs l) :=
  rows_in Tryd.underlying41 (by kernel_rfl) (by decide) Sec.cs_length sec_cells h
end
end Go.Proofs.YtmcbpifkclhfiaaDoor
