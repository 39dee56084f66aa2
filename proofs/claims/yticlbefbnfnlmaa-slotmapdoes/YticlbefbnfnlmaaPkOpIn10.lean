/-
  Acts on a map of slots that came in (slices of structs of three numbers), as the walks ask for them.
-/
import Derived.Test.YticlbefbnfnlmaaPkSlmV
import Derived.Test.YticlbefbnfnlmaaPkLiesIn
namespace Go.Proofs.Yticlbefbnfnlmaa
open Go.ChangeShapes Go.WideShapes Go.ChangeAt Go.RowKit
set_option linter.unusedVariables false
set_option maxRecDepth 100000

section
variable {H : Type} {enc : TypeId × Value → H} {W : World}
def OkOp (o : Op10) : Prop := o.2.1 ≤ 9223372036854775807
/-- One that came in. -/
theorem op10_of {fuel : Nat} {cs : List Value} {x : DataW H × List MemPlace} (h : DataW.trod enc Try.prog W 0 (fun _ => true) true fuel 31 cs = some x) : ∃ o : Op10, cs = o.cs ∧ OkOp o := by
  obtain ⟨xs, n, _, _, hlen, hxl, hf⟩ := DataW.trod_struct Try.underlying31 h
  have h4 : cs.length = 3 := hlen.trans (by kernel_rfl)
  have hx4 : xs.length = 3 := hxl
  match cs, h4 with
  | [c0, c1, c2], _ =>
    match xs, hx4 with
    | [y0, y1, y2], _ =>
      have k3 : Try.prog.cellsOf 3 = 1 := by kernel_rfl
      have e0 : DataW.trod enc Try.prog W 0 (fun _ => true) true n 3 (List.take (Try.prog.cellsOf 3) [c0, c1, c2]) = some y0 := hf 0 _ rfl
      have e1 : DataW.trod enc Try.prog W 0 (fun _ => true) true n 3 (List.take (Try.prog.cellsOf 3) [c1, c2]) = some y1 := hf 1 _ rfl
      have e2 : DataW.trod enc Try.prog W 0 (fun _ => true) true n 3 (List.take (Try.prog.cellsOf 3) [c2]) = some y2 := hf 2 _ rfl
      rw [k3] at e0 e1 e2
      obtain ⟨z0, h0, _, w0⟩ := DataW.trod_int Try.underlying3 e0
      obtain ⟨z1, h1, _, w1⟩ := DataW.trod_int Try.underlying3 e1
      obtain ⟨z2, h2, _, w2⟩ := DataW.trod_int Try.underlying3 e2
      obtain rfl : c0 = .int .i64 z0 := by simpa using h0
      obtain rfl : c1 = .int .i64 z1 := by simpa using h1
      obtain rfl : c2 = .int .i64 z2 := by simpa using h2
      have hb := bounds_i64 w1
      exact ⟨(z0, z1, z2), rfl, by show z1 ≤ _; omega⟩
/-- Those that came in. -/
theorem op10s_of {fuel : Nat} {a : Option Addr} {len cap : Nat} {x : DataW H × List MemPlace} (h : DataW.trod enc Try.prog W 0 (fun _ => true) true fuel 22 (Value.slice a len cap).cells.toList = some x) :
    ∃ l : List Op10, len = l.length ∧ len ≤ cap ∧ LiesV W W.heap.size a (op10s l) ∧ ∀ o ∈ l, OkOp o := by
  rcases Go.Deep.open_slice Try.underlying22 h with ⟨hcs, _⟩ | ⟨x, l, c, m, n, D, Pl, hcs, _, hl, hm, hmm, _, hi⟩
  · simp [Value.cells] at hcs
    obtain ⟨rfl, rfl, rfl⟩ := hcs
    exact ⟨[], rfl, Nat.le_refl _, LiesV.nil _ _ _, by simp⟩
  · simp [Value.cells] at hcs
    obtain ⟨rfl, rfl, rfl⟩ := hcs
    have k4 : Try.prog.cellsOf 31 = 3 := by kernel_rfl
    rw [if_pos rfl] at hmm
    subst hmm
    have each : ∀ i, i < len → ∃ o : Op10, (∀ j v, o.cs[j]? = some v → W.cell? (x.add (i * 3 + j)) = some v) ∧ OkOp o := by
      intro i hlt
      obtain ⟨cs', h1, h2⟩ := hi i (by omega)
      rw [k4] at h1
      obtain ⟨o, rfl, hok⟩ := op10_of h2
      obtain ⟨_, _, h6⟩ := World.cells?_some h1
      refine ⟨o, fun j v hj => ?_, hok⟩
      have hj4 : j < 3 := (List.getElem?_eq_some_iff.1 hj).1
      rw [← Go.Deep.add_add, h6 j hj4]
      exact hj
    have hinh : Inhabited Op10 := ⟨(0, 0, 0)⟩
    obtain ⟨f, hfo⟩ := Go.Deep.choose_lt each
    refine ⟨(List.range len).map f, by simp, hl, lies_of_cells fun i v hv => ?_, fun o ho => ?_⟩
    · have hi4 : i < ((List.range len).map f).length * 3 := by
        have := (List.getElem?_eq_some_iff.1 hv).1
        rw [op10s, flat_length (f := Op10.cs) (k := 3) (fun _ => rfl)] at this
        exact this
      rw [List.length_map, List.length_range] at hi4
      have hq : i / 3 < len := by omega
      have hget : ((List.range len).map f)[i / 3]? = some (f (i / 3)) := by simp [hq]
      have hsplit : i = i / 3 * 3 + i % 3 := by omega
      have := flat_get (f := Op10.cs) (k := 3) (fun _ => rfl) hget (i % 3) (Nat.mod_lt _ (by omega))
      rw [hsplit, op10s, this] at hv
      rw [hsplit]
      exact (hfo (i / 3) hq).1 (i % 3) v hv
    · obtain ⟨i, hi5, rfl⟩ := List.mem_map.1 ho
      exact (hfo i (by simpa using hi5)).2
end
end Go.Proofs.Yticlbefbnfnlmaa
