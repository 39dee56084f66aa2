/-
  Layer 6: acts and bools that came in, as the walks ask for them.
-/
import Derived.Test.YtamjkmelfpdhiaaDiskLw
import Derived.ProofKit
import Derived.OpenShut
import Derived.Deep.Slices
import Derived.Deep.Grids
import Derived.Deep.Matrix
import Derived.ChangeArms
import Derived.DataReads
namespace Go.Proofs.Ytamjkmelfpdhiaa
open Go.ChangeShapes Go.WideShapes Go.ChangeAt Go.RowKit
set_option linter.unusedVariables false

theorem lies_of_cells {W : World} {a : Addr} {cs : List Value} (h : ∀ i v, cs[i]? = some v → W.cell? (a.add i) = some v) : LiesV W W.heap.size (some a) cs := by
  intro hne
  obtain ⟨v, hv⟩ : ∃ v, cs[0]? = some v := by
    cases cs with
    | nil => exact absurd rfl hne
    | cons v r => exact ⟨v, rfl⟩
  obtain ⟨b, off, spot⟩ := a
  have h0 := h 0 v hv
  have hspot : spot = none := by simpa [Addr.add] using World.cell?_spot h0
  subst hspot
  refine ⟨b, off, rfl, ?_, fun i u hi => ?_⟩
  · have := World.block_lt_of_cell? W _ h0
    rwa [Go.WideShapes.add_plain] at this
  · rw [← Go.WideShapes.add_plain]
    exact h i u hi

section
variable {H : Type} {enc : TypeId × Value → H} {W : World}
/-- A slice of bools that came in. -/
theorem bools_of {fuel : Nat} {cs : List Value} {x : DataW H × List MemPlace} (h : DataW.trod enc Try.prog W 0 (fun _ => true) true fuel 37 cs = some x) :
    ∃ (A : Option Addr) (c : Nat) (keep : List Bool), cs = [.slice A keep.length c] ∧ keep.length ≤ c ∧ LiesV W W.heap.size A (keep.map Value.bool) := by
  rcases Go.Deep.open_bools Try.underlying37 Try.underlying4 (by kernel_rfl) h with ⟨hcs, _⟩ | ⟨a, len, cap, B, hcs, _, hl, _, _, hc⟩
  · exact ⟨none, 0, [], hcs, Nat.le_refl _, LiesV.nil _ _ _⟩
  · refine ⟨some a, cap, (List.range len).map B, by simpa using hcs, by simpa using hl, lies_of_cells fun i v hi => ?_⟩
    rw [List.getElem?_map, Option.map_eq_some_iff] at hi
    obtain ⟨b, hb, rfl⟩ := hi
    rw [List.getElem?_map, Option.map_eq_some_iff] at hb
    obtain ⟨j, hj, rfl⟩ := hb
    rw [List.getElem?_eq_some_iff] at hj
    obtain ⟨h1, h2⟩ := hj
    rw [List.getElem_range] at h2
    rw [List.length_range] at h1
    subst h2
    exact hc _ (by omega)
/-- One act that came in. -/
theorem op_of {fuel : Nat} {cs : List Value} {x : DataW H × List MemPlace} (h : DataW.trod enc Try.prog W 0 (fun _ => true) true fuel 39 cs = some x) :
    ∃ o : OpV, cs = o.cs ∧ LiesV W W.heap.size o.A (o.keep.map Value.bool) ∧ o.keep.length ≤ o.c ∧ o.at_ ≤ 9223372036854775807 := by
  obtain ⟨xs, n, _, _, hlen, hxl, hf⟩ := DataW.trod_struct Try.underlying39 h
  have h4 : cs.length = 4 := hlen.trans (by kernel_rfl)
  have hx4 : xs.length = 4 := hxl
  match cs, h4 with
  | [c0, c1, c2, c3], _ =>
    match xs, hx4 with
    | [y0, y1, y2, y3], _ =>
      have k3 : Try.prog.cellsOf 3 = 1 := by kernel_rfl
      have k5 : Try.prog.cellsOf 5 = 1 := by kernel_rfl
      have kb : Try.prog.cellsOf 37 = 1 := by kernel_rfl
      have e0 : DataW.trod enc Try.prog W 0 (fun _ => true) true n 3 (List.take (Try.prog.cellsOf 3) [c0, c1, c2, c3]) = some y0 := hf 0 _ rfl
      have e1 : DataW.trod enc Try.prog W 0 (fun _ => true) true n 3 (List.take (Try.prog.cellsOf 3) [c1, c2, c3]) = some y1 := hf 1 _ rfl
      have e2 : DataW.trod enc Try.prog W 0 (fun _ => true) true n 5 (List.take (Try.prog.cellsOf 5) [c2, c3]) = some y2 := hf 2 _ rfl
      have e3 : DataW.trod enc Try.prog W 0 (fun _ => true) true n 37 (List.take (Try.prog.cellsOf 37) [c3]) = some y3 := hf 3 _ rfl
      rw [k3] at e0 e1
      rw [k5] at e2
      rw [kb] at e3
      obtain ⟨z0, h0, _, w0⟩ := DataW.trod_int Try.underlying3 e0
      obtain ⟨z1, h1, _, w1⟩ := DataW.trod_int Try.underlying3 e1
      obtain ⟨z2, h2, _, w2⟩ := DataW.trod_int Try.underlying5 e2
      obtain ⟨A, c, keep, h3, hkc, hl⟩ := bools_of e3
      obtain rfl : c0 = .int .i64 z0 := by simpa using h0
      obtain rfl : c1 = .int .i64 z1 := by simpa using h1
      obtain rfl : c2 = .int .u8 z2 := by simpa using h2
      obtain rfl : c3 = .slice A keep.length c := by simpa using h3
      have hb := bounds_u8 w2
      have hz1 := (bounds_i64 w1).2
      refine ⟨⟨z0, z1, UInt8.ofNat z2.toNat, A, c, keep⟩, ?_, hl, hkc, hz1⟩
      have e : ((UInt8.ofNat z2.toNat).toNat : Int) = z2 := by
        rw [toNat_ofNat]
        omega
      show _ = ([.int .i64 z0, .int .i64 z1, .int .u8 ((UInt8.ofNat z2.toNat).toNat : Int), .slice A keep.length c] : List Value)
      rw [e]
/-- The acts that came in. -/
theorem ops_of {fuel : Nat} {a : Option Addr} {len cap : Nat} {x : DataW H × List MemPlace} (h : DataW.trod enc Try.prog W 0 (fun _ => true) true fuel 22 (Value.slice a len cap).cells.toList = some x) :
    ∃ l : List OpV, len = l.length ∧ len ≤ cap ∧ OpsAt W W.heap.size a l := by
  rcases Go.Deep.open_slice Try.underlying22 h with ⟨hcs, _⟩ | ⟨x, l, c, m, n, D, Pl, hcs, _, hl, hm, hmm, _, hi⟩
  · simp [Value.cells] at hcs
    obtain ⟨rfl, rfl, rfl⟩ := hcs
    exact ⟨[], rfl, Nat.le_refl _, LiesV.nil _ _ _, by intro o ho; cases ho⟩
  · simp [Value.cells] at hcs
    obtain ⟨rfl, rfl, rfl⟩ := hcs
    have k4 : Try.prog.cellsOf 39 = 4 := by kernel_rfl
    rw [if_pos rfl] at hmm
    subst hmm
    have each : ∀ i, i < len → ∃ o : OpV, (∀ j v, o.cs[j]? = some v → W.cell? (x.add (i * 4 + j)) = some v) ∧ LiesV W W.heap.size o.A (o.keep.map Value.bool) ∧ o.keep.length ≤ o.c ∧ o.at_ ≤ 9223372036854775807 := by
      intro i hlt
      obtain ⟨cs', h1, h2⟩ := hi i (by omega)
      rw [k4] at h1
      obtain ⟨o, rfl, h3, h4, h5⟩ := op_of h2
      obtain ⟨_, _, h6⟩ := World.cells?_some h1
      refine ⟨o, fun j v hj => ?_, h3, h4, h5⟩
      have hj4 : j < 4 := (List.getElem?_eq_some_iff.1 hj).1
      rw [← Go.Deep.add_add, h6 j hj4]
      exact hj
    have hinh : Inhabited OpV := ⟨⟨0, 0, 0, none, 0, []⟩⟩
    obtain ⟨f, hfo⟩ := Go.Deep.choose_lt each
    refine ⟨(List.range len).map f, by simp, hl, lies_of_cells fun i v hv => ?_, fun o ho => ?_⟩
    · have hi4 : i < ((List.range len).map f).length * 4 := by
        have := (List.getElem?_eq_some_iff.1 hv).1
        rw [opsC, flat_length OpV.cs_length] at this
        exact this
      rw [List.length_map, List.length_range] at hi4
      have hq : i / 4 < len := by omega
      have hget : ((List.range len).map f)[i / 4]? = some (f (i / 4)) := by simp [hq]
      have hsplit : i = i / 4 * 4 + i % 4 := by omega
      have := flat_get (f := OpV.cs) OpV.cs_length hget (i % 4) (Nat.mod_lt _ (by omega))
      rw [hsplit, opsC, this] at hv
      rw [hsplit]
      exact (hfo (i / 4) hq).1 (i % 4) v hv
    · rw [List.mem_map] at ho
      obtain ⟨r, hr, rfl⟩ := ho
      exact (hfo r (List.mem_range.1 hr)).2
end
end Go.Proofs.Ytamjkmelfpdhiaa
