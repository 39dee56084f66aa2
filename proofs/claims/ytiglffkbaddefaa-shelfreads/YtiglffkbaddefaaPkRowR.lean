/-
  Arrays of values of one cell each: their value at an index, slices of them, a slice as an array: laws for the walk. No program is named here.
  Arrays of words that are filled from the front, and words put together byte by byte; boxes and reads of arrays of one cell a value: laws for the walk. No program is named here.
  A whole block of cells as a range; a guarded load of a row out of the midst of a block. No program is named here.
-/
import Derived.Test.YtiglffkbaddefaaPkArrV
import Derived.Test.YtiglffkbaddefaaPkArrEq
import Derived.Test.YtiglffkbaddefaaPkApp
import Derived.ArgAppend
import Derived.Test.YtiglffkbaddefaaPkCrcRef
import Derived.Test.YtiglffkbaddefaaPkBuild
import Derived.Test.YtiglffkbaddefaaPkHexM
import Derived.Deep.MidRow
import Derived.WalkKit
namespace Go.Proofs.Ytiglffkbaddefaa
open Go.RowKit
set_option linter.unusedVariables false

section
variable {P : Program} {w : World}
/-- An array's value at an index. -/
theorem run_index_one {t e : TypeId} {n : Nat} {cs : List Value} {k : IntKind} {i : Nat} {v : Value} (ht : P.underlying t = some (.array n e)) (hp : P.plainKey e = true) (hs : (P.info? e).map (·.size) = some 1) (hi : i < n) (hv : cs[i]? = some v) :
    (Instr.index t (.agg cs.toArray) (.int k (i : Int))).run P w = .ok v w := by
  obtain ⟨inf, hinf, h1⟩ := Option.map_eq_some_iff.1 hs
  have p1 := run_part_plain w hp (xs := cs.toArray) (off := i * 1) (v := v) (by simpa using hv)
  simp [Instr.index, asIntOf, run_underlying ht, sizeOf, typeInfo, hinf, h1, hi]
  simpa using p1

/-- 'a[l:h]' of an array behind a pointer. -/
theorem run_slice_arr {t e : TypeId} {n : Nat} (ht : P.underlying t = some (.array n e)) (hs : (P.info? e).map (·.size) = some 1) (g o : Nat) (kl kh : IntKind) (L H : Int) (l h : Nat) (hL : L = (l : Int)) (hH : H = (h : Int)) (h1 : l ≤ h) (h2 : h ≤ n) (h3 : l < n) :
    (Instr.sliceAt t (.pointer (some ⟨g, o, none⟩)) (some (.int kl L)) (some (.int kh H)) none).run P w = .ok (.slice (some ⟨g, o + l, none⟩) (h - l) (n - l)) w := by
  subst hL hH
  obtain ⟨inf, hinf, h4⟩ := Option.map_eq_some_iff.1 hs
  have q1 : ¬ n = l := by omega
  have q2 : (l : Int) ≤ (h : Int) := by omega
  have q3 : (h : Int) ≤ (n : Int) := by omega
  simp [Instr.sliceAt, Instr.sureAddr, run_underlying ht, Instr.sliceBounds, run_sliceBound, sizeOf, typeInfo, hinf, h4, q1, h1, h2, Addr.add_lit]
theorem run_slice_arr_from {t e : TypeId} {n : Nat} (ht : P.underlying t = some (.array n e)) (hs : (P.info? e).map (·.size) = some 1) (g o : Nat) (kl : IntKind) (L : Int) (l : Nat) (hL : L = (l : Int)) (h3 : l < n) :
    (Instr.sliceAt t (.pointer (some ⟨g, o, none⟩)) (some (.int kl L)) none none).run P w = .ok (.slice (some ⟨g, o + l, none⟩) (n - l) (n - l)) w := by
  subst hL
  obtain ⟨inf, hinf, h4⟩ := Option.map_eq_some_iff.1 hs
  have q1 : ¬ n = l := by omega
  have q2 : l ≤ n := by omega
  simp [Instr.sliceAt, Instr.sureAddr, run_underlying ht, Instr.sliceBounds, run_sliceBound, sizeOf, typeInfo, hinf, h4, q1, q2, Addr.add_lit]
theorem RowV.frozen {g : Nat} {t : TypeId} {cs : List Value} (h : RowV w g t cs) (i : Nat) : w.frozen? ⟨g, i, none⟩ = false := frozen_of_row w g i _ t h
end
theorem run_slice_arr_to {P : Program} {w : World} {t e : TypeId} {n : Nat} (ht : P.underlying t = some (.array n e)) (hs : (P.info? e).map (·.size) = some 1) (g o : Nat) (kh : IntKind) (H : Int) (h : Nat) (hH : H = (h : Int)) (h2 : h ≤ n) (h3 : 0 < n) :
    (Instr.sliceAt t (.pointer (some ⟨g, o, none⟩)) none (some (.int kh H)) none).run P w = .ok (.slice (some ⟨g, o, none⟩) h n) w := by
  subst hH
  obtain ⟨inf, hinf, h4⟩ := Option.map_eq_some_iff.1 hs
  simp [Instr.sliceAt, Instr.sureAddr, run_underlying ht, Instr.sliceBounds, run_sliceBound, sizeOf, typeInfo, hinf, h2, Addr.add_lit]
theorem run_slice_arr_all {P : Program} {w : World} {t e : TypeId} {n : Nat} (ht : P.underlying t = some (.array n e)) (hs : (P.info? e).map (·.size) = some 1) (g : Nat) :
    (Instr.sliceAt t (.pointer (some ⟨g, 0, none⟩)) none none none).run P w = .ok (.slice (some ⟨g, 0, none⟩) n n) w := by
  obtain ⟨inf, hinf, h4⟩ := Option.map_eq_some_iff.1 hs
  simp [Instr.sliceAt, Instr.sureAddr, run_underlying ht, Instr.sliceBounds, sizeOf, typeInfo, hinf, Addr.add_lit]
/-- '[n]T(s)': the slice's cells as an array. -/
theorem run_arrayAt {P : Program} {w : World} {t e : TypeId} {n : Nat} (ht : P.underlying t = some (.array n e)) (A : Option Addr) (len cap : Nat) (h : n ≤ len) : (Instr.arrayAt t (.slice A len cap)).run P w = .ok (.pointer A) w := by
  simp [Instr.arrayAt, run_underlying ht, Nat.not_lt.2 h]
/-- append onto a row that is full: a new row. -/
theorem wpList_append_full {P : Program} {w : World} {ops : Array Oper} {rest : List Oper} {o : Oper} {a : Act} {Q : Exit → Act → World → Prop} (hgd : o.guard = none) (s x : Operand) (t : TypeId)
    (ho : o.op = .call { callee := .builtin .append, args := #[s, x], argTypes := #[t, t] }) (i : TypeInfo)
    (ht : P.underlying t = some (.slice 5)) (hi : P.info? 5 = some i) (hz : i.zero = some (.int .u8 0)) (h1 : i.size = 1) (h2 : i.bytes = 1)
    (A' : Option Addr) (n cap : Nat) (xs ys : List UInt8) (hs : a.eval s = .slice A' n cap) (B' : Nat) (h : Lies w B' A' xs) (hn : n = xs.length) (h0 : xs ≠ []) (B : Nat) (A : Option Addr) (m c : Nat) (hx : a.eval x = .slice A m c)
    (hl : Lies w B A ys) (hm : m = ys.length) (hy : ys ≠ []) (hg : cap < n + m) (hb : n + m ≤ 140737488355328)
    (hK : ∀ v' w', w'.ownsRow w.heap.size 5 1 v' (n + m) (cells (xs ++ ys)) → w.grownBy w' none → wpList P ops Q rest (a.put o.dst v') w') : wpList P ops Q (o :: rest) a w := by
  obtain ⟨b, o1, rfl, _, hc⟩ := h h0
  obtain ⟨b2, o2, rfl, _, hc2⟩ := hl hy
  refine wpList_append_grows w hgd s x t ho 5 i (.int .u8 0) 1 1 ht hi hz h1 h2 rfl (by omega) (some ⟨b, o1, none⟩) n cap (cells xs) hs (by simp) (by rw [cells_length]; omega) ?_ ⟨b2, o2, none⟩ m c (cells ys) hx (by rw [cells_length]; omega) ?_ (cells_one _) hg (by unfold maxLen; omega) (by omega) ?_
  · intro bb e j u hj
    exact h.cells (by exact e) j u hj
  · intro j u hj
    exact hl.cells rfl j u hj
  · intro v' w' r1 r2
    exact hK v' w' (by rw [cells_append]; exact r1) r2
end Go.Proofs.Ytiglffkbaddefaa
namespace Go.Proofs.Ytiglffkbaddefaa
open Go.RowKit

/-- A row of k words, the first ones told, the others nought. -/
def fillW (l : List (BitVec 32)) (k : Nat) : List (BitVec 32) := l ++ List.replicate (k - l.length) 0#32
theorem fillW_length {l : List (BitVec 32)} {k : Nat} (h : l.length ≤ k) : (fillW l k).length = k := by simp [fillW]; omega
theorem fillW_get {l : List (BitVec 32)} {k i : Nat} (h : i < l.length) : (fillW l k).getD i 0#32 = l.getD i 0#32 := by
  simp only [fillW, List.getD_eq_getElem?_getD, List.getElem?_append_left h]
theorem fillW_at {l : List (BitVec 32)} {k : Nat} : (fillW l k).getD l.length 0#32 = 0#32 := by
  simp only [fillW, List.getD_eq_getElem?_getD, List.getElem?_append_right (Nat.le_refl _), Nat.sub_self]
  cases h : k - l.length <;> simp
theorem fillW_set {l : List (BitVec 32)} {k : Nat} (x : BitVec 32) (h : l.length < k) : (fillW l k).set l.length x = fillW (l ++ [x]) k := by
  have e : k - l.length = (k - (l ++ [x]).length) + 1 := by simp; omega
  unfold fillW
  rw [e, List.replicate_succ, List.append_assoc, List.set_append_right _ _ (Nat.le_refl _), Nat.sub_self]
  simp
theorem fillW_zero {l : List (BitVec 32)} {k : Nat} (h : l.length < k) : (fillW l k).set l.length 0#32 = fillW l k := by
  have e : k - l.length = (k - l.length - 1) + 1 := by omega
  unfold fillW
  rw [e, List.replicate_succ, List.set_append_right _ _ (Nat.le_refl _), Nat.sub_self, List.set_cons_zero]
theorem getD_set_self {ws : List (BitVec 32)} {k : Nat} (h : k < ws.length) (v : BitVec 32) : (ws.set k v).getD k 0#32 = v := by
  rw [List.getD_eq_getElem?_getD, List.getElem?_set_self h]
  rfl
theorem fillW_full {l : List (BitVec 32)} {k : Nat} (h : l.length = k) : fillW l k = l := by simp [fillW, h]

/-- The first j bytes of a word. -/
def part4 (b : List UInt8) (i j : Nat) : BitVec 32 := BitVec.ofNat 32 (beN ((b.drop i).take j))
theorem part4_zero (b : List UInt8) (i : Nat) : part4 b i 0 = 0#32 := rfl
theorem part4_succ {b : List UInt8} {i j : Nat} {x : UInt8} (h : b[i + j]? = some x) (hj : j < 4) : part4 b i j <<< 8 ||| BitVec.ofNat 32 x.toNat = part4 b i (j + 1) := by
  have hx := x.toNat_lt
  have hl := beN_lt ((b.drop i).take j)
  have hp : (256 : Nat) ^ ((b.drop i).take j).length ≤ 256 ^ 3 := Nat.pow_le_pow_right (by omega) (by simp only [List.length_take]; omega)
  have e : beN ((b.drop i).take (j + 1)) = beN ((b.drop i).take j) * 256 + x.toNat := beN_take_succ (by rw [List.getElem?_drop]; exact h)
  unfold part4
  rw [e]
  generalize beN ((b.drop i).take j) = N at *
  apply BitVec.eq_of_toNat_eq
  rw [BitVec.toNat_or, BitVec.toNat_shiftLeft, BitVec.toNat_ofNat, BitVec.toNat_ofNat, BitVec.toNat_ofNat, Nat.shiftLeft_eq]
  have hN : N < 16777216 := by omega
  rw [Nat.mod_eq_of_lt (show N < 2 ^ 32 by omega), Nat.mod_eq_of_lt (show N * 2 ^ 8 < 2 ^ 32 by omega), Nat.mod_eq_of_lt (show x.toNat < 2 ^ 32 by omega), Nat.mod_eq_of_lt (show N * 256 + x.toNat < 2 ^ 32 by omega)]
  rw [show N * 2 ^ 8 = 2 ^ 8 * N by omega, ← Nat.two_pow_add_eq_or_of_lt (by omega)]
theorem part4_word {b : List UInt8} {i : Nat} (h : i + 4 ≤ b.length) : part4 b i 4 = word4 b i := by
  unfold part4 word4
  congr 1
  have e : (b.drop i).take 4 = [b[i], b[i + 1], b[i + 2], b[i + 3]] := by
    apply List.ext_getElem?
    intro j
    match j with
    | 0 => simp [List.getElem?_eq_getElem (show i < b.length by omega)]
    | 1 => simp [List.getElem?_eq_getElem (show i + 1 < b.length by omega)]
    | 2 => simp [List.getElem?_eq_getElem (show i + 2 < b.length by omega)]
    | 3 => simp [List.getElem?_eq_getElem (show i + 3 < b.length by omega)]
    | j + 4 => rw [List.getElem?_take, if_neg (by omega)]; rfl
  rw [e]
  simp only [beN, List.foldl_cons, List.foldl_nil, List.getD_eq_getElem?_getD, List.getElem?_eq_getElem (show i < b.length by omega), List.getElem?_eq_getElem (show i + 1 < b.length by omega), List.getElem?_eq_getElem (show i + 2 < b.length by omega), List.getElem?_eq_getElem (show i + 3 < b.length by omega), Option.getD_some]
  omega
theorem words16_take_succ (b : List UInt8) {i : Nat} (h : i < 16) : (words16 b).take (i + 1) = (words16 b).take i ++ [word4 b (4 * i)] := by
  rw [List.take_succ_eq_append_getElem (by rw [words16_length]; exact h)]
  congr 2
  simp [words16]
end Go.Proofs.Ytiglffkbaddefaa
namespace Go.Proofs.Ytiglffkbaddefaa
open Go.RowKit

theorem row_range {w : World} {g : Nat} {t : TypeId} {cs : List Value} (h : RowV w g t cs) : w.rangeAt g 0 cs := fun j v hj => by rw [Nat.zero_add]; exact h.cell hj
/-- It fits where the next operation is a guarded load of the type named, and nowhere else. -/
theorem at_loadGR {P : Program} {ops : Array Oper} {rest : List Oper} {a : Act} {w : World} {Q : Exit → Act → World → Prop} {d : Option Tmp} {x : Operand} {u : TypeId} {p : String} {af : Array Edge} {gd : Tmp × Bool} (ty : TypeId)
    (h : wpList P ops Q (⟨d, .load ty x, u, p, af, some gd⟩ :: rest) a w) : wpList P ops Q (⟨d, .load ty x, u, p, af, some gd⟩ :: rest) a w := h
/-- A guarded operation that is wanted: a row is loaded. -/
theorem wpList_load_midG {P : Program} {ops : Array Oper} {rest : List Oper} {op : Oper} {a : Act} {w : World} {Q : Exit → Act → World → Prop} (hw : Region.wanted op (yielded ops a.tmps) = true) (ty : TypeId) (x : Operand) (ho : op.op = .load ty x)
    (b o : Nat) (hx : a.eval x = .pointer (some ⟨b, o, none⟩)) (cs : List Value) (d : TypeDesc) (hc : w.rangeAt b o cs)
    (hu : P.underlying ty = some d) (hd : d.isRow = true) (hi : (P.info? ty).map (·.size) = some cs.length)
    (h : wpList P ops Q rest (a.put op.dst (.agg cs.toArray)) w) : wpList P ops Q (op :: rest) a w := by
  rw [wpList, if_pos hw]
  exact .inl (wp_load_mid ty x ho b o hx cs d hc hu hd hi h)
end Go.Proofs.Ytiglffkbaddefaa
