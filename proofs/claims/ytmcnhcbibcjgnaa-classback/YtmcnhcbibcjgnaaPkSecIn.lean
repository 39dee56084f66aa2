/-
  A sector that came in (an array of 256 bytes, by value), as the walks ask for it.
-/
import Derived.Test.YtmcnhcbibcjgnaaPkOpen
import Derived.Test.YtmcnhcbibcjgnaaPkSuperM
import Derived.Test.YtmcnhcbibcjgnaaRows
import Derived.ProofKit
import Derived.OpenShut
import Derived.Deep.Slices
import Derived.ChangeArms
import Derived.DataReads
namespace Go.Proofs.Ytmcnhcbibcjgnaa
open Go.ChangeShapes Go.WideShapes Go.ChangeAt Go.RowKit
set_option linter.unusedVariables false
set_option maxRecDepth 100000

theorem sec_of {H : Type} {enc : TypeId × Value → H} {W : World} {fuel : Nat} {v : Value} {x : DataW H × List MemPlace}
    (h : DataW.trod enc Try.prog W 0 (fun _ => true) true fuel 48 v.cells.toList = some x) : ∃ s : Sec, v = .agg s.cs.toArray := by
  obtain ⟨ys, m, rfl, _, hlen, hn, hel⟩ := DataW.trod_array Try.underlying48 h
  have c1 : Try.prog.cellsOf 5 = 1 := by kernel_rfl
  have c256 : Try.prog.cellsOf 48 = 256 := by kernel_rfl
  rw [c256] at hlen
  have each : ∀ i, i < 256 → ∃ b : UInt8, v.cells.toList[i]? = some (.int .u8 (b.toNat : Int)) := by
    intro i hi
    have h1 := hel i hi
    rw [c1, Nat.mul_one, List.getElem?_eq_getElem (show i < ys.length by omega)] at h1
    obtain ⟨n, e1, _, hw⟩ := DataW.trod_int Try.underlying5 h1
    refine ⟨UInt8.ofNat n.toNat, ?_⟩
    rw [byte_of_wf hw]
    have e2 := congrArg (·[0]?) e1
    simpa [List.getElem?_take, List.getElem?_drop] using e2
  obtain ⟨f, hf⟩ := Go.Deep.choose_lt each
  refine ⟨⟨(List.range 256).map f, by simp⟩, ?_⟩
  have hcs : v.cells.toList = cells ((List.range 256).map f) := by
    apply List.ext_getElem?
    intro i
    by_cases hi : i < 256
    · rw [hf i hi]
      symm
      apply cells_get
      rw [List.getElem?_map, List.getElem?_range hi]
      rfl
    · rw [List.getElem?_eq_none (by omega), List.getElem?_eq_none (by rw [cells_length]; simp; omega)]
  cases v with
  | agg cs =>
    show Value.agg cs = .agg (cells ((List.range 256).map f)).toArray
    congr 1
    rw [← hcs]
    exact Array.toArray_toList.symm
  | _ => simp [Value.cells] at hlen
end Go.Proofs.Ytmcnhcbibcjgnaa
