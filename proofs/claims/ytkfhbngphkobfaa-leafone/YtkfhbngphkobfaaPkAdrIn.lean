/-
  An address that came in (32 bytes, by value), as the walks ask for it.
-/
import Derived.Test.YtkfhbngphkobfaaRows
import Derived.Test.YtkfhbngphkobfaaPkNumTwo
import Derived.Test.YtkfhbngphkobfaaPkLiesIn
import Derived.Test.YtkfhbngphkobfaaPkOpen
namespace Go.Proofs.Ytkfhbngphkobfaa
open Go.ChangeShapes Go.WideShapes Go.ChangeAt Go.RowKit
set_option linter.unusedVariables false
set_option maxRecDepth 100000

section
variable {H : Type} {enc : TypeId × Value → H} {W : World}
/-- An address that came in. -/
theorem adr_cells {fuel : Nat} {cs : List Value} {x : DataW H × List MemPlace} (h : DataW.trod enc Try.prog W 0 (fun _ => true) true fuel 22 cs = some x) : ∃ a : Adr, cs = cells a.1 := by
  obtain ⟨ys, m, rfl, _, hlen, hn, hel⟩ := DataW.trod_array Try.underlying22 h
  have c1 : Try.prog.cellsOf 5 = 1 := by kernel_rfl
  have c32 : Try.prog.cellsOf 22 = 32 := by kernel_rfl
  rw [c32] at hlen
  have each : ∀ i, i < 32 → ∃ b : UInt8, cs[i]? = some (.int .u8 (b.toNat : Int)) := by
    intro i hi
    have h1 := hel i hi
    rw [c1, Nat.mul_one, List.getElem?_eq_getElem (show i < ys.length by omega)] at h1
    obtain ⟨n, e1, _, hw⟩ := DataW.trod_int Try.underlying5 h1
    refine ⟨UInt8.ofNat n.toNat, ?_⟩
    rw [byte_of_wf hw]
    have e2 := congrArg (·[0]?) e1
    simpa [List.getElem?_take, List.getElem?_drop] using e2
  obtain ⟨f, hf⟩ := Go.Deep.choose_lt each
  refine ⟨⟨(List.range 32).map f, by simp⟩, ?_⟩
  apply List.ext_getElem?
  intro i
  by_cases hi : i < 32
  · rw [hf i hi]
    symm
    apply cells_get
    rw [List.getElem?_map, List.getElem?_range hi]
    rfl
  · rw [List.getElem?_eq_none (by omega), List.getElem?_eq_none (by rw [cells_length]; simp; omega)]
theorem adr_in {fuel : Nat} {v : Value} {x : DataW H × List MemPlace} (h : DataW.trod enc Try.prog W 0 (fun _ => true) true fuel 22 v.cells.toList = some x) : ∃ a : Adr, v = .agg (cells a.1).toArray := by
  obtain ⟨a, ha⟩ := adr_cells h
  refine ⟨a, ?_⟩
  have hlen : v.cells.toList.length = 32 := by rw [ha, cells_length, a.2]
  cases v with
  | agg cs =>
    show Value.agg cs = _
    congr 1
    rw [← ha]
    exact Array.toArray_toList.symm
  | _ => simp [Value.cells] at hlen
end
end Go.Proofs.Ytkfhbngphkobfaa
