/-
  Crashes that came in (a fuse and a row of bools), as the walks ask for them.
-/
import Derived.Test.YtgkmbnmelepenaaPkJrnTw
import Derived.Test.YtgkmbnmelepenaaPkBoolsIn
namespace Go.Proofs.Ytgkmbnmelepenaa
open Go.ChangeShapes Go.WideShapes Go.ChangeAt Go.RowKit
set_option linter.unusedVariables false
set_option maxRecDepth 100000

section
variable {H : Type} {enc : TypeId × Value → H} {W : World}
/-- One that came in. -/
theorem cr_of {fuel : Nat} {cs : List Value} {x : DataW H × List MemPlace} (h : DataW.trod enc Try.prog W 0 (fun _ => true) true fuel 46 cs = some x) : ∃ o : CrI, cs = o.cs ∧ LiesV W W.heap.size o.A (o.keep.map Value.bool) ∧ o.keep.length ≤ o.c := by
  obtain ⟨xs, n, _, _, hlen, hxl, hf⟩ := DataW.trod_struct Try.underlying46 h
  have h4 : cs.length = 2 := hlen.trans (by kernel_rfl)
  have hx4 : xs.length = 2 := hxl
  match cs, h4 with
  | [c0, c1], _ =>
    match xs, hx4 with
    | [y0, y1], _ =>
      have k5 : Try.prog.cellsOf 5 = 1 := by kernel_rfl
      have kb : Try.prog.cellsOf 44 = 1 := by kernel_rfl
      have e0 : DataW.trod enc Try.prog W 0 (fun _ => true) true n 5 (List.take (Try.prog.cellsOf 5) [c0, c1]) = some y0 := hf 0 _ rfl
      have e1 : DataW.trod enc Try.prog W 0 (fun _ => true) true n 44 (List.take (Try.prog.cellsOf 44) [c1]) = some y1 := hf 1 _ rfl
      rw [k5] at e0
      rw [kb] at e1
      obtain ⟨z0, h0, _, w0⟩ := DataW.trod_int Try.underlying5 e0
      obtain ⟨A, c, keep, h1, hkc, hl⟩ := bools_of e1
      obtain rfl : c0 = .int .u8 z0 := by simpa using h0
      obtain rfl : c1 = .slice A keep.length c := by simpa using h1
      have hb := bounds_u8 w0
      refine ⟨⟨UInt8.ofNat z0.toNat, A, c, keep⟩, ?_, hl, hkc⟩
      have e : ((UInt8.ofNat z0.toNat).toNat : Int) = z0 := by
        rw [toNat_ofNat]
        omega
      show _ = ([.int .u8 ((UInt8.ofNat z0.toNat).toNat : Int), .slice A keep.length c] : List Value)
      rw [e]
/-- Those that came in. -/
theorem crs_of {fuel : Nat} {a : Option Addr} {len cap : Nat} {x : DataW H × List MemPlace} (h : DataW.trod enc Try.prog W 0 (fun _ => true) true fuel 47 (Value.slice a len cap).cells.toList = some x) :
    ∃ l : List CrI, len = l.length ∧ len ≤ cap ∧ CrsAt W W.heap.size a l := by
  rcases Go.Deep.open_slice Try.underlying47 h with ⟨hcs, _⟩ | ⟨x, l, c, m, n, D, Pl, hcs, _, hl, hm, hmm, _, hi⟩
  · simp [Value.cells] at hcs
    obtain ⟨rfl, rfl, rfl⟩ := hcs
    exact ⟨[], rfl, Nat.le_refl _, LiesV.nil _ _ _, by intro o ho; cases ho⟩
  · simp [Value.cells] at hcs
    obtain ⟨rfl, rfl, rfl⟩ := hcs
    have k4 : Try.prog.cellsOf 46 = 2 := by kernel_rfl
    rw [if_pos rfl] at hmm
    subst hmm
    have each : ∀ i, i < len → ∃ o : CrI, (∀ j v, o.cs[j]? = some v → W.cell? (x.add (i * 2 + j)) = some v) ∧ LiesV W W.heap.size o.A (o.keep.map Value.bool) ∧ o.keep.length ≤ o.c := by
      intro i hlt
      obtain ⟨cs', h1, h2⟩ := hi i (by omega)
      rw [k4] at h1
      obtain ⟨o, rfl, h3, h4⟩ := cr_of h2
      obtain ⟨_, _, h6⟩ := World.cells?_some h1
      refine ⟨o, fun j v hj => ?_, h3, h4⟩
      have hj4 : j < 2 := (List.getElem?_eq_some_iff.1 hj).1
      rw [← Go.Deep.add_add, h6 j hj4]
      exact hj
    have hinh : Inhabited CrI := ⟨⟨0, none, 0, []⟩⟩
    obtain ⟨f, hfo⟩ := Go.Deep.choose_lt each
    refine ⟨(List.range len).map f, by simp, hl, lies_of_cells fun i v hv => ?_, fun o ho => ?_⟩
    · have hi4 : i < ((List.range len).map f).length * 2 := by
        have := (List.getElem?_eq_some_iff.1 hv).1
        rw [crs, flat_length (f := CrI.cs) (k := 2) (fun _ => rfl)] at this
        exact this
      rw [List.length_map, List.length_range] at hi4
      have hq : i / 2 < len := by omega
      have hget : ((List.range len).map f)[i / 2]? = some (f (i / 2)) := by simp [hq]
      have hsplit : i = i / 2 * 2 + i % 2 := by omega
      have := flat_get (f := CrI.cs) (k := 2) (fun _ => rfl) hget (i % 2) (Nat.mod_lt _ (by omega))
      rw [hsplit, crs, this] at hv
      rw [hsplit]
      exact (hfo (i / 2) hq).1 (i % 2) v hv
    · rw [List.mem_map] at ho
      obtain ⟨r, hr, rfl⟩ := ho
      exact (hfo r (List.mem_range.1 hr)).2
end
end Go.Proofs.Ytgkmbnmelepenaa
