/-
  Addresses, entries and acts on a table that came in, as the walks ask for them.
-/
import Derived.Test.YtiglffkbaddefaaRows
import Derived.Test.YtiglffkbaddefaaPkTabQ
import Derived.Test.YtiglffkbaddefaaPkLiesIn
import Derived.Test.YtiglffkbaddefaaPkOpen
namespace Go.Proofs.Ytiglffkbaddefaa
open Go.ChangeShapes Go.WideShapes Go.ChangeAt Go.RowKit
set_option linter.unusedVariables false
set_option maxRecDepth 100000

section
variable {H : Type} {enc : TypeId × Value → H} {W : World}
/-- An address that came in. -/
theorem adr_cells {fuel : Nat} {cs : List Value} {x : DataW H × List MemPlace} (h : DataW.trod enc Try.prog W 0 (fun _ => true) true fuel 30 cs = some x) : ∃ a : Adr, cs = cells a.1 := by
  obtain ⟨ys, m, rfl, _, hlen, hn, hel⟩ := DataW.trod_array Try.underlying30 h
  have c1 : Try.prog.cellsOf 5 = 1 := by kernel_rfl
  have c32 : Try.prog.cellsOf 30 = 32 := by kernel_rfl
  rw [c32] at hlen
  have each : ∀ i, i < 32 → ∃ b : UInt8, cs[i]? = some (.int .u8 (b.toNat : Int)) := by
    intro i hi
    have h1 := hel i hi
    rw [c1, Nat.mul_one, List.getElem?_eq_getElem (show i < ys.length by omega)] at h1
    obtain ⟨n, e1, _, hw⟩ := DataW.trod_int Try.underlying5 h1
    refine ⟨UInt8.ofNat n.toNat, ?_⟩
    rw [byte_of_wf hw]
    have e2 := congrArg (·[0]?) e1
    simpa [List.getElem?_take, List.getElem?_drop] using e2
  obtain ⟨f, hf⟩ := Go.Deep.choose_lt each
  refine ⟨⟨(List.range 32).map f, by simp⟩, ?_⟩
  apply List.ext_getElem?
  intro i
  by_cases hi : i < 32
  · rw [hf i hi]
    symm
    apply cells_get
    rw [List.getElem?_map, List.getElem?_range hi]
    rfl
  · rw [List.getElem?_eq_none (by omega), List.getElem?_eq_none (by rw [cells_length]; simp; omega)]
theorem adr_in {fuel : Nat} {v : Value} {x : DataW H × List MemPlace} (h : DataW.trod enc Try.prog W 0 (fun _ => true) true fuel 30 v.cells.toList = some x) : ∃ a : Adr, v = .agg (cells a.1).toArray := by
  obtain ⟨a, ha⟩ := adr_cells h
  refine ⟨a, ?_⟩
  have hlen : v.cells.toList.length = 32 := by rw [ha, cells_length, a.2]
  cases v with
  | agg cs =>
    show Value.agg cs = _
    congr 1
    rw [← ha]
    exact Array.toArray_toList.symm
  | _ => simp [Value.cells] at hlen
/-- An entry that came in. -/
theorem ent_in {fuel : Nat} {cs : List Value} {x : DataW H × List MemPlace} (h : DataW.trod enc Try.prog W 0 (fun _ => true) true fuel 32 cs = some x) : ∃ e : Ent, cs = e.cs := by
  obtain ⟨xs, n, _, _, hlen, hxl, hf⟩ := DataW.trod_struct Try.underlying32 h
  have h34 : cs.length = 34 := hlen.trans (by kernel_rfl)
  have hx3 : xs.length = 3 := hxl
  match xs, hx3 with
  | [y0, y1, y2], _ =>
    have k3 : Try.prog.cellsOf 3 = 1 := by kernel_rfl
    have k23 : Try.prog.cellsOf 30 = 32 := by kernel_rfl
    have e0 : DataW.trod enc Try.prog W 0 (fun _ => true) true n 30 (List.take (Try.prog.cellsOf 30) (cs.drop 0)) = some y0 := hf 0 _ rfl
    have e1 : DataW.trod enc Try.prog W 0 (fun _ => true) true n 3 (List.take (Try.prog.cellsOf 3) (cs.drop 32)) = some y1 := hf 1 _ rfl
    have e2 : DataW.trod enc Try.prog W 0 (fun _ => true) true n 3 (List.take (Try.prog.cellsOf 3) (cs.drop 33)) = some y2 := hf 2 _ rfl
    rw [k3] at e1 e2
    rw [k23] at e0
    obtain ⟨a, ha⟩ := adr_cells e0
    obtain ⟨z1, h1, _, _⟩ := DataW.trod_int Try.underlying3 e1
    obtain ⟨z2, h2, _, _⟩ := DataW.trod_int Try.underlying3 e2
    refine ⟨⟨a, z1, z2⟩, ?_⟩
    rw [List.drop_zero] at ha
    have s1 : cs = cs.take 32 ++ ((cs.drop 32).take 1 ++ (cs.drop 33).take 1) := by
      have t1 : cs.drop 32 = (cs.drop 32).take 1 ++ (cs.drop 32).drop 1 := (List.take_append_drop 1 _).symm
      have t2 : (cs.drop 32).drop 1 = (cs.drop 33).take 1 := by
        rw [List.drop_drop, List.take_of_length_le (by rw [List.length_drop]; omega)]
      conv => lhs; rw [← List.take_append_drop 32 cs, t1, t2]
    rw [s1, ha, h1, h2]
    rfl
theorem entv_in {fuel : Nat} {v : Value} {x : DataW H × List MemPlace} (h : DataW.trod enc Try.prog W 0 (fun _ => true) true fuel 32 v.cells.toList = some x) : ∃ e : Ent, v = .agg e.cs.toArray := by
  obtain ⟨e, he⟩ := ent_in h
  refine ⟨e, ?_⟩
  have hlen : v.cells.toList.length = 34 := by rw [he, Ent.cs_length]
  cases v with
  | agg cs =>
    show Value.agg cs = _
    congr 1
    rw [← he]
    exact Array.toArray_toList.symm
  | _ => simp [Value.cells] at hlen
/-- Rows of such that came in. -/
theorem rows_in {α : Type} [Inhabited α] {f : α → List Value} {size : Nat} {T E : TypeId} {fuel : Nat} {a : Option Addr} {len cap : Nat} {x : DataW H × List MemPlace} (hT : Try.prog.underlying T = some (.slice E)) (hs : Try.prog.cellsOf E = size) (h0 : 0 < size) (hf : ∀ o, (f o).length = size)
    (hin : ∀ {fuel : Nat} {cs : List Value} {x : DataW H × List MemPlace}, DataW.trod enc Try.prog W 0 (fun _ => true) true fuel E cs = some x → ∃ o : α, cs = f o)
    (h : DataW.trod enc Try.prog W 0 (fun _ => true) true fuel T (Value.slice a len cap).cells.toList = some x) :
    ∃ l : List α, len = l.length ∧ len ≤ cap ∧ LiesV W W.heap.size a (l.flatMap f) := by
  rcases Go.Deep.open_slice hT h with ⟨hcs, _⟩ | ⟨x, l, c, m, n, D, Pl, hcs, _, hl, hm, hmm, _, hi⟩
  · simp [Value.cells] at hcs
    obtain ⟨rfl, rfl, rfl⟩ := hcs
    exact ⟨[], rfl, Nat.le_refl _, LiesV.nil _ _ _⟩
  · simp [Value.cells] at hcs
    obtain ⟨rfl, rfl, rfl⟩ := hcs
    rw [if_pos rfl] at hmm
    subst hmm
    have each : ∀ i, i < len → ∃ o : α, ∀ j v, (f o)[j]? = some v → W.cell? (x.add (i * size + j)) = some v := by
      intro i hlt
      obtain ⟨cs', h1, h2⟩ := hi i (by omega)
      rw [hs] at h1
      obtain ⟨o, rfl⟩ := hin h2
      obtain ⟨_, _, h6⟩ := World.cells?_some h1
      refine ⟨o, fun j v hj => ?_⟩
      have hj4 : j < size := by have := (List.getElem?_eq_some_iff.1 hj).1; rw [hf] at this; exact this
      rw [← Go.Deep.add_add, h6 j hj4]
      exact hj
    obtain ⟨g, hfo⟩ := Go.Deep.choose_lt each
    refine ⟨(List.range len).map g, by simp, hl, lies_of_cells fun i v hv => ?_⟩
    have hi4 : i < len * size := by
      have := (List.getElem?_eq_some_iff.1 hv).1
      rw [flat_length (f := f) (k := size) hf, List.length_map, List.length_range] at this
      exact this
    have hq : i / size < len := (Nat.div_lt_iff_lt_mul h0).2 hi4
    have hget : ((List.range len).map g)[i / size]? = some (g (i / size)) := by simp [hq]
    have hsplit : i = i / size * size + i % size := by rw [Nat.mul_comm]; exact (Nat.div_add_mod i size).symm
    have hsp := flat_get (f := f) (k := size) hf hget (i % size) (Nat.mod_lt _ h0)
    rw [hsplit, hsp] at hv
    rw [hsplit]
    exact hfo (i / size) hq (i % size) v hv
instance : Inhabited Ent := ⟨zeroEnt⟩
theorem ents_in {fuel : Nat} {a : Option Addr} {len cap : Nat} {x : DataW H × List MemPlace} (h : DataW.trod enc Try.prog W 0 (fun _ => true) true fuel 22 (Value.slice a len cap).cells.toList = some x) :
    ∃ l : List Ent, len = l.length ∧ len ≤ cap ∧ LiesV W W.heap.size a (ents l) :=
  rows_in Try.underlying22 (by kernel_rfl) (by decide) Ent.cs_length ent_in h
end
end Go.Proofs.Ytiglffkbaddefaa
