/-
  Sector numbers and bytes that came in, as the walks ask for them.
-/
import Derived.Test.YtgkmbnmelepenaaPkJrnW
import Derived.Test.YtgkmbnmelepenaaPkBoolsIn
namespace Go.Proofs.Ytgkmbnmelepenaa
open Go.ChangeShapes Go.WideShapes Go.ChangeAt Go.RowKit
set_option linter.unusedVariables false
set_option maxRecDepth 100000

section
variable {H : Type} {enc : TypeId × Value → H} {W : World}
/-- One that came in. -/
theorem put_of {fuel : Nat} {cs : List Value} {x : DataW H × List MemPlace} (h : DataW.trod enc Try.prog W 0 (fun _ => true) true fuel 64 cs = some x) : ∃ o : PutI, cs = o.cs := by
  obtain ⟨xs, n, _, _, hlen, hxl, hf⟩ := DataW.trod_struct Try.underlying64 h
  have h4 : cs.length = 2 := hlen.trans (by kernel_rfl)
  have hx4 : xs.length = 2 := hxl
  match cs, h4 with
  | [c0, c1], _ =>
    match xs, hx4 with
    | [y0, y1], _ =>
      have k3 : Try.prog.cellsOf 3 = 1 := by kernel_rfl
      have k5 : Try.prog.cellsOf 5 = 1 := by kernel_rfl
      have e0 : DataW.trod enc Try.prog W 0 (fun _ => true) true n 3 (List.take (Try.prog.cellsOf 3) [c0, c1]) = some y0 := hf 0 _ rfl
      have e1 : DataW.trod enc Try.prog W 0 (fun _ => true) true n 5 (List.take (Try.prog.cellsOf 5) [c1]) = some y1 := hf 1 _ rfl
      rw [k3] at e0
      rw [k5] at e1
      obtain ⟨z0, h0, _, w0⟩ := DataW.trod_int Try.underlying3 e0
      obtain ⟨z1, h1, _, w1⟩ := DataW.trod_int Try.underlying5 e1
      obtain rfl : c0 = .int .i64 z0 := by simpa using h0
      obtain rfl : c1 = .int .u8 z1 := by simpa using h1
      have hb := bounds_u8 w1
      refine ⟨(z0, UInt8.ofNat z1.toNat), ?_⟩
      have e : ((UInt8.ofNat z1.toNat).toNat : Int) = z1 := by
        rw [toNat_ofNat]
        omega
      show _ = ([.int .i64 z0, .int .u8 ((UInt8.ofNat z1.toNat).toNat : Int)] : List Value)
      rw [e]
/-- Those that came in. -/
theorem puts_of {fuel : Nat} {a : Option Addr} {len cap : Nat} {x : DataW H × List MemPlace} (h : DataW.trod enc Try.prog W 0 (fun _ => true) true fuel 22 (Value.slice a len cap).cells.toList = some x) :
    ∃ l : List PutI, len = l.length ∧ len ≤ cap ∧ LiesV W W.heap.size a (puts l) := by
  rcases Go.Deep.open_slice Try.underlying22 h with ⟨hcs, _⟩ | ⟨x, l, c, m, n, D, Pl, hcs, _, hl, hm, hmm, _, hi⟩
  · simp [Value.cells] at hcs
    obtain ⟨rfl, rfl, rfl⟩ := hcs
    exact ⟨[], rfl, Nat.le_refl _, LiesV.nil _ _ _⟩
  · simp [Value.cells] at hcs
    obtain ⟨rfl, rfl, rfl⟩ := hcs
    have k4 : Try.prog.cellsOf 64 = 2 := by kernel_rfl
    rw [if_pos rfl] at hmm
    subst hmm
    have each : ∀ i, i < len → ∃ o : PutI, ∀ j v, o.cs[j]? = some v → W.cell? (x.add (i * 2 + j)) = some v := by
      intro i hlt
      obtain ⟨cs', h1, h2⟩ := hi i (by omega)
      rw [k4] at h1
      obtain ⟨o, rfl⟩ := put_of h2
      obtain ⟨_, _, h6⟩ := World.cells?_some h1
      refine ⟨o, fun j v hj => ?_⟩
      have hj4 : j < 2 := (List.getElem?_eq_some_iff.1 hj).1
      rw [← Go.Deep.add_add, h6 j hj4]
      exact hj
    have hinh : Inhabited PutI := ⟨(0, 0)⟩
    obtain ⟨f, hfo⟩ := Go.Deep.choose_lt each
    refine ⟨(List.range len).map f, by simp, hl, lies_of_cells fun i v hv => ?_⟩
    have hi4 : i < ((List.range len).map f).length * 2 := by
      have := (List.getElem?_eq_some_iff.1 hv).1
      rw [puts, flat_length (f := PutI.cs) (k := 2) (fun _ => rfl)] at this
      exact this
    rw [List.length_map, List.length_range] at hi4
    have hq : i / 2 < len := by omega
    have hget : ((List.range len).map f)[i / 2]? = some (f (i / 2)) := by simp [hq]
    have hsplit : i = i / 2 * 2 + i % 2 := by omega
    have := flat_get (f := PutI.cs) (k := 2) (fun _ => rfl) hget (i % 2) (Nat.mod_lt _ (by omega))
    rw [hsplit, puts, this] at hv
    rw [hsplit]
    exact hfo (i / 2) hq (i % 2) v hv
end
end Go.Proofs.Ytgkmbnmelepenaa
