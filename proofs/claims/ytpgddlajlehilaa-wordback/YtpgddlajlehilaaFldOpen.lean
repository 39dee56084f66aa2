/-
  A slice of fields that came in: from its reading to 'Flds'.
-/
import Derived.Test.YtpgddlajlehilaaRows
import Derived.Test.YtpgddlajlehilaaFld
import Derived.Test.YtpgddlajlehilaaOpen
import Derived.Deep.Slices
import Derived.Deep.Fields
namespace Go.Proofs.Ytpgddlajlehilaa
open Go.RowKit Go.ChangeShapes Go.WideShapes
set_option linter.unusedVariables false

theorem Try.cells41 : Try.prog.cellsOf 41 = 4 := by kernel_rfl
theorem Try.cells4 : Try.prog.cellsOf 4 = 1 := by kernel_rfl
theorem Try.cells5 : Try.prog.cellsOf 5 = 1 := by kernel_rfl
theorem Try.cells22 : Try.prog.cellsOf 22 = 1 := by kernel_rfl
theorem Try.cells9 : Try.prog.cellsOf 9 = 1 := by kernel_rfl
instance : Inhabited Fld := ⟨⟨false, 0, 0, ByteArray.empty⟩⟩

def FldAt (w : World) (a : Addr) (i : Nat) (f : Fld) : Prop :=
  w.cell? ((a.add (i * 4)).add 0) = some (.bool f.t) ∧ w.cell? ((a.add (i * 4)).add 1) = some (.int .u8 (f.sz.toNat : Int)) ∧
  w.cell? ((a.add (i * 4)).add 2) = some (.int .u64 (f.n : Int)) ∧ w.cell? ((a.add (i * 4)).add 3) = some (.string f.s) ∧ f.n < 18446744073709551616

theorem open_fld {H : Type} {enc : TypeId × Value → H} {w : World} {base : Nat} {sp : Nat → Bool} {held : Bool} {n i : Nat} {a : Addr} {cs : List Value} {x : DataW H × List MemPlace}
    (hc : w.cells? base (a.add (i * 4)) 4 = some cs) (ht : DataW.trod enc Try.prog w base sp held n 41 cs = some x) : ∃ f, FldAt w a i f := by
  obtain ⟨_, hlen, hat⟩ := World.cells?_some hc
  obtain ⟨xs, m, _, _, _, hxl, hf⟩ := DataW.trod_struct Try.underlying41 ht
  match cs, hlen with
  | [v0, v1, v2, v3], _ =>
    have h0 : DataW.trod enc Try.prog w base sp held m 4 (([v0, v1, v2, v3].drop 0).take (Try.prog.cellsOf 4)) = xs[0]? := hf 0 _ rfl
    have h1 : DataW.trod enc Try.prog w base sp held m 5 (([v0, v1, v2, v3].drop 1).take (Try.prog.cellsOf 5)) = xs[1]? := hf 1 _ rfl
    have h2 : DataW.trod enc Try.prog w base sp held m 22 (([v0, v1, v2, v3].drop 2).take (Try.prog.cellsOf 22)) = xs[2]? := hf 2 _ rfl
    have h3 : DataW.trod enc Try.prog w base sp held m 9 (([v0, v1, v2, v3].drop 3).take (Try.prog.cellsOf 9)) = xs[3]? := hf 3 _ rfl
    rw [Try.cells4] at h0
    rw [Try.cells5] at h1
    rw [Try.cells22] at h2
    rw [Try.cells9] at h3
    match xs, hxl with
    | [y0, y1, y2, y3], _ =>
      obtain ⟨t, e0, _⟩ := DataW.trod_bool Try.underlying4 (h0.trans rfl)
      obtain ⟨z, e1, _, wz⟩ := DataW.trod_int Try.underlying5 (h1.trans rfl)
      obtain ⟨N, e2, _, wN⟩ := DataW.trod_int Try.underlying22 (h2.trans rfl)
      obtain ⟨s, e3, _, _⟩ := DataW.trod_string Try.underlying9 (h3.trans rfl)
      have bN := bounds_u64 wN
      simp only [List.drop_zero, List.drop_succ_cons, List.take_succ_cons, List.take_zero, List.cons.injEq, and_true] at e0 e1 e2 e3
      subst e0 e1 e2 e3
      refine ⟨⟨t, UInt8.ofNat z.toNat, N.toNat, s⟩, ?_, ?_, ?_, ?_, by show N.toNat < _; omega⟩
      · exact hat 0 (by omega)
      · rw [hat 1 (by omega)]
        show some (Value.int .u8 z) = some (.int .u8 ((UInt8.ofNat z.toNat).toNat : Int))
        rw [byte_of_wf wz]
      · rw [hat 2 (by omega)]
        show some (Value.int .u64 N) = some (.int .u64 ((N.toNat : Nat) : Int))
        rw [Int.toNat_of_nonneg bN.1]
      · exact hat 3 (by omega)

theorem open_flds {H : Type} {enc : TypeId × Value → H} {w : World} {sp : Nat → Bool} {held : Bool} {a : Option Addr} {len cap : Nat} {d : DataW H} {p : List MemPlace}
    (h : DataW.Trod enc Try.prog w 0 sp held 39 (.slice a len cap) d p) : ∃ l : List Fld, len = l.length ∧ len ≤ cap ∧ cap ≤ maxLen ∧ Flds w w.heap.size a l := by
  obtain ⟨fuel, hf⟩ := h
  rcases Go.Deep.open_slice Try.underlying39 hf with ⟨hcs, _⟩ | ⟨x, l, c, m, n, D, Pl, hcs, _, hl, hm, hmm, _, hi⟩
  · simp [Value.cells] at hcs
    obtain ⟨rfl, rfl, rfl⟩ := hcs
    exact ⟨[], rfl, Nat.le_refl _, by unfold maxLen; omega, fun h => absurd rfl h⟩
  · simp [Value.cells] at hcs
    obtain ⟨rfl, rfl, rfl⟩ := hcs
    have hlm : len ≤ m := by rw [hmm]; split <;> omega
    obtain ⟨F, hF⟩ := Go.Deep.choose_lt (n := len) (p := fun i f => FldAt w x i f) (fun i hlt => by
      obtain ⟨cs, hc, ht⟩ := hi i (by omega)
      rw [Try.cells41] at hc
      exact open_fld hc ht)
    refine ⟨(List.range len).map F, by simp, hl, hm, fun hne => ?_⟩
    have hpos : 0 < len := by
      rcases Nat.eq_zero_or_pos len with h0 | h0
      · subst h0; simp at hne
      · exact h0
    obtain ⟨b, o, spot⟩ := x
    have h0 := (hF 0 hpos).1
    have hspot : spot = none := by simpa [Addr.add] using World.cell?_spot h0
    subst hspot
    refine ⟨b, o, rfl, World.block_lt_of_cell? w _ h0, fun i f hif => ?_⟩
    rw [List.getElem?_map, Option.map_eq_some_iff] at hif
    obtain ⟨k, hk, rfl⟩ := hif
    obtain ⟨hk1, hk2⟩ := List.getElem?_eq_some_iff.1 hk
    simp only [List.getElem_range] at hk2
    subst hk2
    obtain ⟨q0, q1, q2, q3, q4⟩ := hF i (by simpa using hk1)
    simp only [Addr.add_lit] at q0 q1 q2 q3
    exact ⟨q0, q1, q2, q3, q4⟩
end Go.Proofs.Ytpgddlajlehilaa
