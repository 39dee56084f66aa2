/-
  Layer 7: a plan that came in, as the walks ask for it.
-/
import Derived.Test.YtoiphbdmmiikaaaPkPlanE
import Derived.ProofKit
import Derived.OpenShut
import Derived.ChangeArms
import Derived.DataReads
namespace Go.Proofs.Ytoiphbdmmiikaaa
open Go.ChangeShapes Go.WideShapes Go.ChangeAt Go.RowKit
set_option linter.unusedVariables false
set_option maxRecDepth 100000

section
variable {H : Type} {enc : TypeId × Value → H} {W : World}
theorem plan_of {fuel : Nat} {cs : Array Value} {x : DataW H × List MemPlace} (h : DataW.trod enc Try.prog W 0 (fun _ => true) true fuel 23 (Value.agg cs).cells.toList = some x) :
    ∃ s t c a : Int, cs = (pc s t c a).toArray := by
  obtain ⟨l⟩ := cs
  replace h : DataW.trod enc Try.prog W 0 (fun _ => true) true fuel 23 l = some x := h
  obtain ⟨xs, n, _, _, hlen, hxl, hf⟩ := DataW.trod_struct Try.underlying23 h
  have h4 : l.length = 4 := hlen.trans (by kernel_rfl)
  have hx4 : xs.length = 4 := hxl
  match l, h4 with
  | [c0, c1, c2, c3], _ =>
    match xs, hx4 with
    | [y0, y1, y2, y3], _ =>
      have k3 : Try.prog.cellsOf 3 = 1 := by kernel_rfl
      have e0 : DataW.trod enc Try.prog W 0 (fun _ => true) true n 3 (List.take (Try.prog.cellsOf 3) [c0, c1, c2, c3]) = some y0 := hf 0 _ rfl
      have e1 : DataW.trod enc Try.prog W 0 (fun _ => true) true n 3 (List.take (Try.prog.cellsOf 3) [c1, c2, c3]) = some y1 := hf 1 _ rfl
      have e2 : DataW.trod enc Try.prog W 0 (fun _ => true) true n 3 (List.take (Try.prog.cellsOf 3) [c2, c3]) = some y2 := hf 2 _ rfl
      have e3 : DataW.trod enc Try.prog W 0 (fun _ => true) true n 3 (List.take (Try.prog.cellsOf 3) [c3]) = some y3 := hf 3 _ rfl
      rw [k3] at e0 e1 e2 e3
      obtain ⟨z0, h0, _, _⟩ := DataW.trod_int Try.underlying3 e0
      obtain ⟨z1, h1, _, _⟩ := DataW.trod_int Try.underlying3 e1
      obtain ⟨z2, h2, _, _⟩ := DataW.trod_int Try.underlying3 e2
      obtain ⟨z3, h3, _, _⟩ := DataW.trod_int Try.underlying3 e3
      obtain rfl : c0 = .int .i64 z0 := by simpa using h0
      obtain rfl : c1 = .int .i64 z1 := by simpa using h1
      obtain rfl : c2 = .int .i64 z2 := by simpa using h2
      obtain rfl : c3 = .int .i64 z3 := by simpa using h3
      exact ⟨z0, z1, z2, z3, rfl⟩
end
end Go.Proofs.Ytoiphbdmmiikaaa
