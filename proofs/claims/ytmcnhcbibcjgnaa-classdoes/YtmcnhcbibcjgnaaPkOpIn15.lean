/-
  Acts on classes that came in, as the walks ask for them; a string that came in.
-/
import Derived.Test.YtmcnhcbibcjgnaaPkRowsIn
import Derived.Test.YtmcnhcbibcjgnaaPkClsV
import Derived.ChangeMaps5
namespace Go.Proofs.Ytmcnhcbibcjgnaa
open Go.ChangeShapes Go.WideShapes Go.ChangeAt Go.RowKit
set_option linter.unusedVariables false
set_option maxRecDepth 100000

section
variable {H : Type} {enc : TypeId × Value → H} {W : World}
theorem str_cells {fuel : Nat} {cs : List Value} {x : DataW H × List MemPlace} (h : DataW.trod enc Try.prog W 0 (fun _ => true) true fuel 9 cs = some x) : ∃ s : List UInt8, cs = [.string ⟨s.toArray⟩] := by
  obtain ⟨s, h1, _⟩ := DataW.trod_string Try.underlying9 h
  refine ⟨s.data.toList, ?_⟩
  rw [h1]
theorem bool_cells {fuel : Nat} {cs : List Value} {x : DataW H × List MemPlace} (h : DataW.trod enc Try.prog W 0 (fun _ => true) true fuel 4 cs = some x) : ∃ b : Bool, cs = [.bool b] := by
  obtain ⟨b, h1, _⟩ := DataW.trod_bool Try.underlying4 h
  exact ⟨b, h1⟩
/-- A class that came in. -/
theorem cl_in {fuel : Nat} {cs : List Value} {x : DataW H × List MemPlace} (h : DataW.trod enc Try.prog W 0 (fun _ => true) true fuel 34 cs = some x) : ∃ c : Cl, cs = clv c := by
  obtain ⟨xs, n, _, _, hlen, hxl, hf⟩ := DataW.trod_struct Try.underlying34 h
  have h4 : cs.length = 4 := hlen.trans (by kernel_rfl)
  have hx4 : xs.length = 4 := hxl
  match cs, h4 with
  | [c0, c1, c2, c3], _ =>
    match xs, hx4 with
    | [y0, y1, y2, y3], _ =>
      have k9 : Try.prog.cellsOf 9 = 1 := by kernel_rfl
      have k3 : Try.prog.cellsOf 3 = 1 := by kernel_rfl
      have k4 : Try.prog.cellsOf 4 = 1 := by kernel_rfl
      have e0 : DataW.trod enc Try.prog W 0 (fun _ => true) true n 9 (List.take (Try.prog.cellsOf 9) [c0, c1, c2, c3]) = some y0 := hf 0 _ rfl
      have e1 : DataW.trod enc Try.prog W 0 (fun _ => true) true n 3 (List.take (Try.prog.cellsOf 3) [c1, c2, c3]) = some y1 := hf 1 _ rfl
      have e2 : DataW.trod enc Try.prog W 0 (fun _ => true) true n 4 (List.take (Try.prog.cellsOf 4) [c2, c3]) = some y2 := hf 2 _ rfl
      have e3 : DataW.trod enc Try.prog W 0 (fun _ => true) true n 4 (List.take (Try.prog.cellsOf 4) [c3]) = some y3 := hf 3 _ rfl
      rw [k9] at e0
      rw [k3] at e1
      rw [k4] at e2 e3
      obtain ⟨s, h0⟩ := str_cells e0
      obtain ⟨z, h1, _, _⟩ := DataW.trod_int Try.underlying3 e1
      obtain ⟨b, h2⟩ := bool_cells e2
      obtain ⟨d, h3⟩ := bool_cells e3
      obtain rfl : c0 = .string ⟨s.toArray⟩ := by simpa using h0
      obtain rfl : c1 = .int .i64 z := by simpa using h1
      obtain rfl : c2 = .bool b := by simpa using h2
      obtain rfl : c3 = .bool d := by simpa using h3
      exact ⟨⟨s, z, b, d⟩, rfl⟩
/-- An act that came in. -/
theorem act_in {fuel : Nat} {cs : List Value} {x : DataW H × List MemPlace} (h : DataW.trod enc Try.prog W 0 (fun _ => true) true fuel 46 cs = some x) : ∃ a : Act15, cs = actV a := by
  obtain ⟨xs, n, _, _, hlen, hxl, hf⟩ := DataW.trod_struct Try.underlying46 h
  have h5 : cs.length = 5 := hlen.trans (by kernel_rfl)
  have hx2 : xs.length = 2 := hxl
  match xs, hx2 with
  | [y0, y1], _ =>
    have k3 : Try.prog.cellsOf 3 = 1 := by kernel_rfl
    have kc : Try.prog.cellsOf 34 = 4 := by kernel_rfl
    have e0 : DataW.trod enc Try.prog W 0 (fun _ => true) true n 3 (List.take (Try.prog.cellsOf 3) (cs.drop 0)) = some y0 := hf 0 _ rfl
    have e1 : DataW.trod enc Try.prog W 0 (fun _ => true) true n 34 (List.take (Try.prog.cellsOf 34) (cs.drop 1)) = some y1 := hf 1 _ rfl
    rw [k3] at e0
    rw [kc] at e1
    obtain ⟨z, h1, _, _⟩ := DataW.trod_int Try.underlying3 e0
    obtain ⟨c, hc⟩ := cl_in e1
    refine ⟨⟨z, c⟩, ?_⟩
    rw [List.drop_zero] at h1
    rw [List.take_of_length_le (by rw [List.length_drop]; omega)] at hc
    have s1 : cs = cs.take 1 ++ cs.drop 1 := (List.take_append_drop 1 _).symm
    rw [s1, h1, hc]
    rfl
instance : Inhabited Act15 := ⟨⟨0, cl0⟩⟩
theorem acts_in {fuel : Nat} {a : Option Addr} {len cap : Nat} {x : DataW H × List MemPlace} (h : DataW.trod enc Try.prog W 0 (fun _ => true) true fuel 22 (Value.slice a len cap).cells.toList = some x) :
    ∃ l : List Act15, len = l.length ∧ len ≤ cap ∧ LiesV W W.heap.size a (actsV l) :=
  rows_in Try.underlying22 (by kernel_rfl) (by decide) actV_length act_in h
end
end Go.Proofs.Ytmcnhcbibcjgnaa
