/-
  A whole block of cells as a range; a guarded load of a row out of the midst of a block. No program is named here.
  Arrays of values of one cell each: their value at an index, slices of them, a slice as an array: laws for the walk. No program is named here.
-/
import Derived.Test.YtmcnhcbibcjgnaaPkArrV
import Derived.Deep.MidRow
import Derived.WalkKit
import Derived.Test.YtmcnhcbibcjgnaaPkArrEq
import Derived.Test.YtmcnhcbibcjgnaaPkApp
import Derived.ArgAppend
namespace Go.Proofs.Ytmcnhcbibcjgnaa
open Go.RowKit

theorem row_range {w : World} {g : Nat} {t : TypeId} {cs : List Value} (h : RowV w g t cs) : w.rangeAt g 0 cs := fun j v hj => by rw [Nat.zero_add]; exact h.cell hj
/-- It fits where the next operation is a guarded load of the type named, and nowhere else. -/
theorem at_loadGR {P : Program} {ops : Array Oper} {rest : List Oper} {a : Act} {w : World} {Q : Exit → Act → World → Prop} {d : Option Tmp} {x : Operand} {u : TypeId} {p : String} {af : Array Edge} {gd : Tmp × Bool} (ty : TypeId)
    (h : wpList P ops Q (⟨d, .load ty x, u, p, af, some gd⟩ :: rest) a w) : wpList P ops Q (⟨d, .load ty x, u, p, af, some gd⟩ :: rest) a w := h
/-- A guarded operation that is wanted: a row is loaded. -/
theorem wpList_load_midG {P : Program} {ops : Array Oper} {rest : List Oper} {op : Oper} {a : Act} {w : World} {Q : Exit → Act → World → Prop} (hw : Region.wanted op (yielded ops a.tmps) = true) (ty : TypeId) (x : Operand) (ho : op.op = .load ty x)
    (b o : Nat) (hx : a.eval x = .pointer (some ⟨b, o, none⟩)) (cs : List Value) (d : TypeDesc) (hc : w.rangeAt b o cs)
    (hu : P.underlying ty = some d) (hd : d.isRow = true) (hi : (P.info? ty).map (·.size) = some cs.length)
    (h : wpList P ops Q rest (a.put op.dst (.agg cs.toArray)) w) : wpList P ops Q (op :: rest) a w := by
  rw [wpList, if_pos hw]
  exact .inl (wp_load_mid ty x ho b o hx cs d hc hu hd hi h)
end Go.Proofs.Ytmcnhcbibcjgnaa
namespace Go.Proofs.Ytmcnhcbibcjgnaa
open Go.RowKit
set_option linter.unusedVariables false

section
variable {P : Program} {w : World}
/-- An array's value at an index. -/
theorem run_index_one {t e : TypeId} {n : Nat} {cs : List Value} {k : IntKind} {i : Nat} {v : Value} (ht : P.underlying t = some (.array n e)) (hp : P.plainKey e = true) (hs : (P.info? e).map (·.size) = some 1) (hi : i < n) (hv : cs[i]? = some v) :
    (Instr.index t (.agg cs.toArray) (.int k (i : Int))).run P w = .ok v w := by
  obtain ⟨inf, hinf, h1⟩ := Option.map_eq_some_iff.1 hs
  have p1 := run_part_plain w hp (xs := cs.toArray) (off := i * 1) (v := v) (by simpa using hv)
  simp [Instr.index, asIntOf, run_underlying ht, sizeOf, typeInfo, hinf, h1, hi]
  simpa using p1

/-- 'a[l:h]' of an array behind a pointer. -/
theorem run_slice_arr {t e : TypeId} {n : Nat} (ht : P.underlying t = some (.array n e)) (hs : (P.info? e).map (·.size) = some 1) (g o : Nat) (kl kh : IntKind) (L H : Int) (l h : Nat) (hL : L = (l : Int)) (hH : H = (h : Int)) (h1 : l ≤ h) (h2 : h ≤ n) (h3 : l < n) :
    (Instr.sliceAt t (.pointer (some ⟨g, o, none⟩)) (some (.int kl L)) (some (.int kh H)) none).run P w = .ok (.slice (some ⟨g, o + l, none⟩) (h - l) (n - l)) w := by
  subst hL hH
  obtain ⟨inf, hinf, h4⟩ := Option.map_eq_some_iff.1 hs
  have q1 : ¬ n = l := by omega
  have q2 : (l : Int) ≤ (h : Int) := by omega
  have q3 : (h : Int) ≤ (n : Int) := by omega
  simp [Instr.sliceAt, Instr.sureAddr, run_underlying ht, Instr.sliceBounds, run_sliceBound, sizeOf, typeInfo, hinf, h4, q1, h1, h2, Addr.add_lit]
theorem run_slice_arr_from {t e : TypeId} {n : Nat} (ht : P.underlying t = some (.array n e)) (hs : (P.info? e).map (·.size) = some 1) (g o : Nat) (kl : IntKind) (L : Int) (l : Nat) (hL : L = (l : Int)) (h3 : l < n) :
    (Instr.sliceAt t (.pointer (some ⟨g, o, none⟩)) (some (.int kl L)) none none).run P w = .ok (.slice (some ⟨g, o + l, none⟩) (n - l) (n - l)) w := by
  subst hL
  obtain ⟨inf, hinf, h4⟩ := Option.map_eq_some_iff.1 hs
  have q1 : ¬ n = l := by omega
  have q2 : l ≤ n := by omega
  simp [Instr.sliceAt, Instr.sureAddr, run_underlying ht, Instr.sliceBounds, run_sliceBound, sizeOf, typeInfo, hinf, h4, q1, q2, Addr.add_lit]
theorem RowV.frozen {g : Nat} {t : TypeId} {cs : List Value} (h : RowV w g t cs) (i : Nat) : w.frozen? ⟨g, i, none⟩ = false := frozen_of_row w g i _ t h
end
theorem run_slice_arr_to {P : Program} {w : World} {t e : TypeId} {n : Nat} (ht : P.underlying t = some (.array n e)) (hs : (P.info? e).map (·.size) = some 1) (g o : Nat) (kh : IntKind) (H : Int) (h : Nat) (hH : H = (h : Int)) (h2 : h ≤ n) (h3 : 0 < n) :
    (Instr.sliceAt t (.pointer (some ⟨g, o, none⟩)) none (some (.int kh H)) none).run P w = .ok (.slice (some ⟨g, o, none⟩) h n) w := by
  subst hH
  obtain ⟨inf, hinf, h4⟩ := Option.map_eq_some_iff.1 hs
  simp [Instr.sliceAt, Instr.sureAddr, run_underlying ht, Instr.sliceBounds, run_sliceBound, sizeOf, typeInfo, hinf, h2, Addr.add_lit]
theorem run_slice_arr_all {P : Program} {w : World} {t e : TypeId} {n : Nat} (ht : P.underlying t = some (.array n e)) (hs : (P.info? e).map (·.size) = some 1) (g : Nat) :
    (Instr.sliceAt t (.pointer (some ⟨g, 0, none⟩)) none none none).run P w = .ok (.slice (some ⟨g, 0, none⟩) n n) w := by
  obtain ⟨inf, hinf, h4⟩ := Option.map_eq_some_iff.1 hs
  simp [Instr.sliceAt, Instr.sureAddr, run_underlying ht, Instr.sliceBounds, sizeOf, typeInfo, hinf, Addr.add_lit]
/-- '[n]T(s)': the slice's cells as an array. -/
theorem run_arrayAt {P : Program} {w : World} {t e : TypeId} {n : Nat} (ht : P.underlying t = some (.array n e)) (A : Option Addr) (len cap : Nat) (h : n ≤ len) : (Instr.arrayAt t (.slice A len cap)).run P w = .ok (.pointer A) w := by
  simp [Instr.arrayAt, run_underlying ht, Nat.not_lt.2 h]
/-- append onto a row that is full: a new row. -/
theorem wpList_append_full {P : Program} {w : World} {ops : Array Oper} {rest : List Oper} {o : Oper} {a : Act} {Q : Exit → Act → World → Prop} (hgd : o.guard = none) (s x : Operand) (t : TypeId)
    (ho : o.op = .call { callee := .builtin .append, args := #[s, x], argTypes := #[t, t] }) (i : TypeInfo)
    (ht : P.underlying t = some (.slice 5)) (hi : P.info? 5 = some i) (hz : i.zero = some (.int .u8 0)) (h1 : i.size = 1) (h2 : i.bytes = 1)
    (A' : Option Addr) (n cap : Nat) (xs ys : List UInt8) (hs : a.eval s = .slice A' n cap) (B' : Nat) (h : Lies w B' A' xs) (hn : n = xs.length) (h0 : xs ≠ []) (B : Nat) (A : Option Addr) (m c : Nat) (hx : a.eval x = .slice A m c)
    (hl : Lies w B A ys) (hm : m = ys.length) (hy : ys ≠ []) (hg : cap < n + m) (hb : n + m ≤ 140737488355328)
    (hK : ∀ v' w', w'.ownsRow w.heap.size 5 1 v' (n + m) (cells (xs ++ ys)) → w.grownBy w' none → wpList P ops Q rest (a.put o.dst v') w') : wpList P ops Q (o :: rest) a w := by
  obtain ⟨b, o1, rfl, _, hc⟩ := h h0
  obtain ⟨b2, o2, rfl, _, hc2⟩ := hl hy
  refine wpList_append_grows w hgd s x t ho 5 i (.int .u8 0) 1 1 ht hi hz h1 h2 rfl (by omega) (some ⟨b, o1, none⟩) n cap (cells xs) hs (by simp) (by rw [cells_length]; omega) ?_ ⟨b2, o2, none⟩ m c (cells ys) hx (by rw [cells_length]; omega) ?_ (cells_one _) hg (by unfold maxLen; omega) (by omega) ?_
  · intro bb e j u hj
    exact h.cells (by exact e) j u hj
  · intro j u hj
    exact hl.cells rfl j u hj
  · intro v' w' r1 r2
    exact hK v' w' (by rw [cells_append]; exact r1) r2
end Go.Proofs.Ytmcnhcbibcjgnaa
