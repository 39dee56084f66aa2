/-
  Arrays of values of one cell each: their value at an index, slices of them, a slice as an array: laws for the walk. No program is named here.
  Arrays of words that are filled from the front, and words put together byte by byte; boxes and reads of arrays of one cell a value: laws for the walk. No program is named here.
  Plain mathematics of a hash that grows, and its cells: laws for the walk. No program is named here.
-/
import Derived.Test.YtmcbpifkclhfiaaDoorPkArrV
import Derived.Test.YtmcbpifkclhfiaaDoorPkArrEq
import Derived.Test.YtmcbpifkclhfiaaDoorPkApp
import Derived.ArgAppend
import Derived.Test.YtmcbpifkclhfiaaDoorPkSha
import Derived.Test.YtmcbpifkclhfiaaDoorPkBuild
import Derived.Test.YtmcbpifkclhfiaaDoorPkHexM
import Derived.Test.YtmcbpifkclhfiaaDoorPkArr
namespace Go.Proofs.YtmcbpifkclhfiaaDoor
open Go.RowKit
set_option linter.unusedVariables false

section
variable {P : Program} {w : World}
/-- An array's value at an index. -/
theorem run_index_one {t e : TypeId} {n : Nat} {cs : List Value} {k : IntKind} {i : Nat} {v : Value} (ht : P.underlying t = some (.array n e)) (hp : P.plainKey e = true) (hs : (P.info? e).map (·.size) = some 1) (hi : i < n) (hv : cs[i]? = some v) :
    (Instr.index t (.agg cs.toArray) (.int k (i : Int))).run P w = .ok v w := by
  obtain ⟨inf, hinf, h1⟩ := Option.map_eq_some_iff.1 hs
  have p1 := run_part_plain w hp (xs := cs.toArray) (off := i * 1) (v := v) (by simpa using hv)
  simp [Instr.index, asIntOf, run_underlying ht, sizeOf, typeInfo, hinf, h1, hi]
  simpa using p1

/-- 'a[l:h]' of an array behind a pointer. -/
theorem run_slice_arr {t e : TypeId} {n : Nat} (ht : P.underlying t = some (.array n e)) (hs : (P.info? e).map (·.size) = some 1) (g o : Nat) (kl kh : IntKind) (L H : Int) (l h : Nat) (hL : L = (l : Int)) (hH : H = (h : Int)) (h1 : l ≤ h) (h2 : h ≤ n) (h3 : l < n) :
    (Instr.sliceAt t (.pointer (some ⟨g, o, none⟩)) (some (.int kl L)) (some (.int kh H)) none).run P w = .ok (.slice (some ⟨g, o + l, none⟩) (h - l) (n - l)) w := by
  subst hL hH
  obtain ⟨inf, hinf, h4⟩ := Option.map_eq_some_iff.1 hs
  have q1 : ¬ n = l := by omega
  have q2 : (l : Int) ≤ (h : Int) := by omega
  have q3 : (h : Int) ≤ (n : Int) := by omega
  simp [Instr.sliceAt, Instr.sureAddr, run_underlying ht, Instr.sliceBounds, run_sliceBound, sizeOf, typeInfo, hinf, h4, q1, h1, h2, Addr.add_lit]
theorem run_slice_arr_from {t e : TypeId} {n : Nat} (ht : P.underlying t = some (.array n e)) (hs : (P.info? e).map (·.size) = some 1) (g o : Nat) (kl : IntKind) (L : Int) (l : Nat) (hL : L = (l : Int)) (h3 : l < n) :
    (Instr.sliceAt t (.pointer (some ⟨g, o, none⟩)) (some (.int kl L)) none none).run P w = .ok (.slice (some ⟨g, o + l, none⟩) (n - l) (n - l)) w := by
  subst hL
  obtain ⟨inf, hinf, h4⟩ := Option.map_eq_some_iff.1 hs
  have q1 : ¬ n = l := by omega
  have q2 : l ≤ n := by omega
  simp [Instr.sliceAt, Instr.sureAddr, run_underlying ht, Instr.sliceBounds, run_sliceBound, sizeOf, typeInfo, hinf, h4, q1, q2, Addr.add_lit]
theorem RowV.frozen {g : Nat} {t : TypeId} {cs : List Value} (h : RowV w g t cs) (i : Nat) : w.frozen? ⟨g, i, none⟩ = false := frozen_of_row w g i _ t h
end
theorem run_slice_arr_to {P : Program} {w : World} {t e : TypeId} {n : Nat} (ht : P.underlying t = some (.array n e)) (hs : (P.info? e).map (·.size) = some 1) (g o : Nat) (kh : IntKind) (H : Int) (h : Nat) (hH : H = (h : Int)) (h2 : h ≤ n) (h3 : 0 < n) :
    (Instr.sliceAt t (.pointer (some ⟨g, o, none⟩)) none (some (.int kh H)) none).run P w = .ok (.slice (some ⟨g, o, none⟩) h n) w := by
  subst hH
  obtain ⟨inf, hinf, h4⟩ := Option.map_eq_some_iff.1 hs
  simp [Instr.sliceAt, Instr.sureAddr, run_underlying ht, Instr.sliceBounds, run_sliceBound, sizeOf, typeInfo, hinf, h2, Addr.add_lit]
theorem run_slice_arr_all {P : Program} {w : World} {t e : TypeId} {n : Nat} (ht : P.underlying t = some (.array n e)) (hs : (P.info? e).map (·.size) = some 1) (g : Nat) :
    (Instr.sliceAt t (.pointer (some ⟨g, 0, none⟩)) none none none).run P w = .ok (.slice (some ⟨g, 0, none⟩) n n) w := by
  obtain ⟨inf, hinf, h4⟩ := Option.map_eq_some_iff.1 hs
  simp [Instr.sliceAt, Instr.sureAddr, run_underlying ht, Instr.sliceBounds, sizeOf, typeInfo, hinf, Addr.add_lit]
/-- '[n]T(s)': the slice's cells as an array. -/
theorem run_arrayAt {P : Program} {w : World} {t e : TypeId} {n : Nat} (ht : P.underlying t = some (.array n e)) (A : Option Addr) (len cap : Nat) (h : n ≤ len) : (Instr.arrayAt t (.slice A len cap)).run P w = .ok (.pointer A) w := by
  simp [Instr.arrayAt, run_underlying ht, Nat.not_lt.2 h]
/-- append onto a row that is full: a new row. -/
theorem wpList_append_full {P : Program} {w : World} {ops : Array Oper} {rest : List Oper} {o : Oper} {a : Act} {Q : Exit → Act → World → Prop} (hgd : o.guard = none) (s x : Operand) (t : TypeId)
    (ho : o.op = .call { callee := .builtin .append, args := #[s, x], argTypes := #[t, t] }) (i : TypeInfo)
    (ht : P.underlying t = some (.slice 5)) (hi : P.info? 5 = some i) (hz : i.zero = some (.int .u8 0)) (h1 : i.size = 1) (h2 : i.bytes = 1)
    (A' : Option Addr) (n cap : Nat) (xs ys : List UInt8) (hs : a.eval s = .slice A' n cap) (B' : Nat) (h : Lies w B' A' xs) (hn : n = xs.length) (h0 : xs ≠ []) (B : Nat) (A : Option Addr) (m c : Nat) (hx : a.eval x = .slice A m c)
    (hl : Lies w B A ys) (hm : m = ys.length) (hy : ys ≠ []) (hg : cap < n + m) (hb : n + m ≤ 140737488355328)
    (hK : ∀ v' w', w'.ownsRow w.heap.size 5 1 v' (n + m) (cells (xs ++ ys)) → w.grownBy w' none → wpList P ops Q rest (a.put o.dst v') w') : wpList P ops Q (o :: rest) a w := by
  obtain ⟨b, o1, rfl, _, hc⟩ := h h0
  obtain ⟨b2, o2, rfl, _, hc2⟩ := hl hy
  refine wpList_append_grows w hgd s x t ho 5 i (.int .u8 0) 1 1 ht hi hz h1 h2 rfl (by omega) (some ⟨b, o1, none⟩) n cap (cells xs) hs (by simp) (by rw [cells_length]; omega) ?_ ⟨b2, o2, none⟩ m c (cells ys) hx (by rw [cells_length]; omega) ?_ (cells_one _) hg (by unfold maxLen; omega) (by omega) ?_
  · intro bb e j u hj
    exact h.cells (by exact e) j u hj
  · intro j u hj
    exact hl.cells rfl j u hj
  · intro v' w' r1 r2
    exact hK v' w' (by rw [cells_append]; exact r1) r2
end Go.Proofs.YtmcbpifkclhfiaaDoor
namespace Go.Proofs.YtmcbpifkclhfiaaDoor
open Go.RowKit

/-- A row of k words, the first ones told, the others nought. -/
def fillW (l : List (BitVec 32)) (k : Nat) : List (BitVec 32) := l ++ List.replicate (k - l.length) 0#32
theorem fillW_length {l : List (BitVec 32)} {k : Nat} (h : l.length ≤ k) : (fillW l k).length = k := by simp [fillW]; omega
theorem fillW_get {l : List (BitVec 32)} {k i : Nat} (h : i < l.length) : (fillW l k).getD i 0#32 = l.getD i 0#32 := by
  simp only [fillW, List.getD_eq_getElem?_getD, List.getElem?_append_left h]
theorem fillW_at {l : List (BitVec 32)} {k : Nat} : (fillW l k).getD l.length 0#32 = 0#32 := by
  simp only [fillW, List.getD_eq_getElem?_getD, List.getElem?_append_right (Nat.le_refl _), Nat.sub_self]
  cases h : k - l.length <;> simp
theorem fillW_set {l : List (BitVec 32)} {k : Nat} (x : BitVec 32) (h : l.length < k) : (fillW l k).set l.length x = fillW (l ++ [x]) k := by
  have e : k - l.length = (k - (l ++ [x]).length) + 1 := by simp; omega
  unfold fillW
  rw [e, List.replicate_succ, List.append_assoc, List.set_append_right _ _ (Nat.le_refl _), Nat.sub_self]
  simp
theorem fillW_zero {l : List (BitVec 32)} {k : Nat} (h : l.length < k) : (fillW l k).set l.length 0#32 = fillW l k := by
  have e : k - l.length = (k - l.length - 1) + 1 := by omega
  unfold fillW
  rw [e, List.replicate_succ, List.set_append_right _ _ (Nat.le_refl _), Nat.sub_self, List.set_cons_zero]
theorem getD_set_self {ws : List (BitVec 32)} {k : Nat} (h : k < ws.length) (v : BitVec 32) : (ws.set k v).getD k 0#32 = v := by
  rw [List.getD_eq_getElem?_getD, List.getElem?_set_self h]
  rfl
theorem fillW_full {l : List (BitVec 32)} {k : Nat} (h : l.length = k) : fillW l k = l := by simp [fillW, h]

/-- The first j bytes of a word. -/
def part4 (b : List UInt8) (i j : Nat) : BitVec 32 := BitVec.ofNat 32 (beN ((b.drop i).take j))
theorem part4_zero (b : List UInt8) (i : Nat) : part4 b i 0 = 0#32 := rfl
theorem part4_succ {b : List UInt8} {i j : Nat} {x : UInt8} (h : b[i + j]? = some x) (hj : j < 4) : part4 b i j <<< 8 ||| BitVec.ofNat 32 x.toNat = part4 b i (j + 1) := by
  have hx := x.toNat_lt
  have hl := beN_lt ((b.drop i).take j)
  have hp : (256 : Nat) ^ ((b.drop i).take j).length ≤ 256 ^ 3 := Nat.pow_le_pow_right (by omega) (by simp only [List.length_take]; omega)
  have e : beN ((b.drop i).take (j + 1)) = beN ((b.drop i).take j) * 256 + x.toNat := beN_take_succ (by rw [List.getElem?_drop]; exact h)
  unfold part4
  rw [e]
  generalize beN ((b.drop i).take j) = N at *
  apply BitVec.eq_of_toNat_eq
  rw [BitVec.toNat_or, BitVec.toNat_shiftLeft, BitVec.toNat_ofNat, BitVec.toNat_ofNat, BitVec.toNat_ofNat, Nat.shiftLeft_eq]
  have hN : N < 16777216 := by omega
  rw [Nat.mod_eq_of_lt (show N < 2 ^ 32 by omega), Nat.mod_eq_of_lt (show N * 2 ^ 8 < 2 ^ 32 by omega), Nat.mod_eq_of_lt (show x.toNat < 2 ^ 32 by omega), Nat.mod_eq_of_lt (show N * 256 + x.toNat < 2 ^ 32 by omega)]
  rw [show N * 2 ^ 8 = 2 ^ 8 * N by omega, ← Nat.two_pow_add_eq_or_of_lt (by omega)]
theorem part4_word {b : List UInt8} {i : Nat} (h : i + 4 ≤ b.length) : part4 b i 4 = word4 b i := by
  unfold part4 word4
  congr 1
  have e : (b.drop i).take 4 = [b[i], b[i + 1], b[i + 2], b[i + 3]] := by
    apply List.ext_getElem?
    intro j
    match j with
    | 0 => simp [List.getElem?_eq_getElem (show i < b.length by omega)]
    | 1 => simp [List.getElem?_eq_getElem (show i + 1 < b.length by omega)]
    | 2 => simp [List.getElem?_eq_getElem (show i + 2 < b.length by omega)]
    | 3 => simp [List.getElem?_eq_getElem (show i + 3 < b.length by omega)]
    | j + 4 => rw [List.getElem?_take, if_neg (by omega)]; rfl
  rw [e]
  simp only [beN, List.foldl_cons, List.foldl_nil, List.getD_eq_getElem?_getD, List.getElem?_eq_getElem (show i < b.length by omega), List.getElem?_eq_getElem (show i + 1 < b.length by omega), List.getElem?_eq_getElem (show i + 2 < b.length by omega), List.getElem?_eq_getElem (show i + 3 < b.length by omega), Option.getD_some]
  omega
theorem words16_take_succ (b : List UInt8) {i : Nat} (h : i < 16) : (words16 b).take (i + 1) = (words16 b).take i ++ [word4 b (4 * i)] := by
  rw [List.take_succ_eq_append_getElem (by rw [words16_length]; exact h)]
  congr 2
  simp [words16]
end Go.Proofs.YtmcbpifkclhfiaaDoor
namespace Go.Proofs.YtmcbpifkclhfiaaDoor
open Go.RowKit

/-- The cells of a hash. -/
def hcells (s : St) (blk : List UInt8) (n : Nat) : List Value := wcells s.list ++ (cells blk ++ [.int .u64 (n : Int)])
theorem hcells_length {s : St} {blk : List UInt8} {n : Nat} (h : blk.length = 64) : (hcells s blk n).length = 73 := by
  simp only [hcells, List.length_append, wcells_length, cells_length, h]
  rfl
theorem hcells_size {s : St} {blk : List UInt8} {n : Nat} (h : blk.length = 64) : (hcells s blk n)[72]? = some (.int .u64 (n : Int)) := by
  unfold hcells
  rw [List.getElem?_append_right (by rw [wcells_length]; show 8 ≤ 72; omega), wcells_length]
  show (cells blk ++ [.int .u64 (n : Int)])[64]? = _
  rw [List.getElem?_append_right (by rw [cells_length]; omega), cells_length, h]
  rfl
theorem hcells_setSize {s : St} {blk : List UInt8} {n k : Nat} (h : blk.length = 64) : (hcells s blk n).set 72 (.int .u64 (k : Int)) = hcells s blk k := by
  unfold hcells
  rw [List.set_append_right _ _ (by rw [wcells_length]; show 8 ≤ 72; omega), wcells_length]
  show wcells s.list ++ (cells blk ++ [Value.int .u64 (n : Int)]).set 64 _ = _
  rw [List.set_append_right _ _ (by rw [cells_length]; omega), cells_length, h]
  rfl
theorem hcells_byte {s : St} {blk : List UInt8} {n j : Nat} {v : Value} (h : (cells blk)[j]? = some v) : (hcells s blk n)[8 + j]? = some v := by
  have hj : j < (cells blk).length := (List.getElem?_eq_some_iff.1 h).1
  unfold hcells
  rw [List.getElem?_append_right (by rw [wcells_length]; show 8 ≤ 8 + j; omega), wcells_length]
  show (cells blk ++ [.int .u64 (n : Int)])[8 + j - 8]? = _
  rw [Nat.add_sub_cancel_left, List.getElem?_append_left hj]
  exact h
theorem hcells_over {s : St} {blk t : List UInt8} {n r : Nat} (h : blk.length = 64) (hr : r + t.length ≤ 64) :
    (hcells s blk n).take (8 + r) ++ cells t ++ (hcells s blk n).drop (8 + r + t.length) = hcells s (over blk r t) n := by
  have e1 : (hcells s blk n).take (8 + r) = wcells s.list ++ (cells blk).take r := by
    unfold hcells
    rw [List.take_append, wcells_length]
    show List.take (8 + r) (wcells s.list) ++ List.take (8 + r - 8) (cells blk ++ [.int .u64 (n : Int)]) = _
    rw [List.take_of_length_le (l := wcells s.list) (by rw [wcells_length]; show 8 ≤ 8 + r; omega), Nat.add_sub_cancel_left, List.take_append_of_le_length (by rw [cells_length]; omega)]
  have e2 : (hcells s blk n).drop (8 + r + t.length) = (cells blk).drop (r + t.length) ++ [.int .u64 (n : Int)] := by
    unfold hcells
    rw [List.drop_append, List.drop_eq_nil_of_le (as := wcells s.list) (by rw [wcells_length]; show 8 ≤ 8 + r + t.length; omega), List.nil_append, wcells_length]
    show List.drop (8 + r + t.length - 8) (cells blk ++ [.int .u64 (n : Int)]) = _
    rw [show 8 + r + t.length - 8 = r + t.length by omega, List.drop_append_of_le_length (by rw [cells_length]; omega)]
  rw [e1, e2]
  unfold hcells
  rw [cells_over]
  simp only [List.append_assoc]

theorem rest_fill {m t blk : List UInt8} (hb : blk.length = 64) (h : blk.take (m.length % 64) = m.drop (64 * (m.length / 64))) (ht : m.length % 64 + t.length < 64) :
    (over blk (m.length % 64) t).length = 64 ∧ (over blk (m.length % 64) t).take ((m ++ t).length % 64) = (m ++ t).drop (64 * ((m ++ t).length / 64)) ∧ foldK shaH (m ++ t) ((m ++ t).length / 64) = foldK shaH m (m.length / 64) := by
  have e1 : (m ++ t).length % 64 = m.length % 64 + t.length := by rw [List.length_append]; omega
  have e2 : (m ++ t).length / 64 = m.length / 64 := by rw [List.length_append]; omega
  refine ⟨by rw [over_length (by omega), hb], ?_, ?_⟩
  · rw [e1, e2, List.drop_append_of_le_length (by omega), ← h]
    unfold over
    rw [List.take_append_of_le_length (by rw [List.length_append, List.length_take]; omega), List.take_of_length_le (by rw [List.length_append, List.length_take]; omega)]
  · rw [e2, foldK_left _ (by omega)]
theorem rest_full {m t blk : List UInt8} (hb : blk.length = 64) (h : blk.take (m.length % 64) = m.drop (64 * (m.length / 64))) (ht : m.length % 64 + t.length = 64) :
    (over blk (m.length % 64) t).length = 64 ∧ (over blk (m.length % 64) t).take ((m ++ t).length % 64) = (m ++ t).drop (64 * ((m ++ t).length / 64)) ∧ foldK shaH (m ++ t) ((m ++ t).length / 64) = mixB (foldK shaH m (m.length / 64)) (over blk (m.length % 64) t) := by
  have e1 : (m ++ t).length % 64 = 0 := by rw [List.length_append]; omega
  have e2 : (m ++ t).length / 64 = m.length / 64 + 1 := by rw [List.length_append]; omega
  have e3 : over blk (m.length % 64) t = m.drop (64 * (m.length / 64)) ++ t := by
    unfold over
    rw [List.drop_eq_nil_of_le (by omega), List.append_nil, h]
  have e4 : m ++ t = m.take (64 * (m.length / 64)) ++ over blk (m.length % 64) t := by rw [e3, ← List.append_assoc, List.take_append_drop]
  have hl : (over blk (m.length % 64) t).length = 64 := by rw [over_length (by omega), hb]
  refine ⟨hl, ?_, ?_⟩
  · rw [e1, e2, List.take_zero, List.drop_eq_nil_of_le (by rw [List.length_append]; omega)]
  · have hp : (m.take (64 * (m.length / 64))).length = 64 * (m.length / 64) := by rw [List.length_take]; omega
    rw [e2, e4, foldK_block hp hl]
    congr 1
    have := foldK_left (s := shaH) (a := m.take (64 * (m.length / 64))) (b := m.drop (64 * (m.length / 64))) (m.length / 64) (by omega)
    rw [List.take_append_drop] at this
    exact this.symm

/-- 's[l:]' of a slice of bytes. -/
theorem run_slice_from {P : Program} {t e : TypeId} (ht : P.underlying t = some (.slice e)) (hs : (P.info? e).map (·.size) = some 1) (A A2 : Option Addr) (n c l : Nat) (k : IntKind) (h1 : l ≤ n) (hA : (if c = l then A else A.map (·.add l)) = A2) (W : World) :
    (Instr.slice t (.slice A n c) (some (.int k (l : Int))) none none).run P W = .ok (.slice A2 (n - l) (c - l)) W ∧ (Instr.sliceAt t (.slice A n c) (some (.int k (l : Int))) none none).run P W = .ok (.slice A2 (n - l) (c - l)) W := by
  obtain ⟨inf, hinf, h4⟩ := Option.map_eq_some_iff.1 hs
  have h2 : (Instr.slice t (.slice A n c) (some (.int k (l : Int))) none none).run P W = .ok (.slice A2 (n - l) (c - l)) W := by
    rw [← hA]
    simp [Instr.slice, run_underlying ht, Instr.sliceBounds, run_sliceBound, sizeOf, typeInfo, hinf, h4, h1]
  refine ⟨h2, ?_⟩
  simp only [Instr.sliceAt, Sem.run_bind, run_underlying ht, Result.andThen_ok]
  exact h2

theorem grown_trans {a b c : World} {row : Option Nat} (h1 : a.grownBy b row) (h2 : b.grownBy c row) : a.grownBy c row :=
  ⟨h2.os.trans h1.os, h2.tape.trans h1.tape, h2.output.trans h1.output, Nat.le_trans h1.size h2.size, fun k hk hne => (h2.block k (Nat.lt_of_lt_of_le hk h1.size) hne).trans (h1.block k hk hne)⟩
/-- The bytes do not lie in block g. -/
def Aside (g : Nat) (A : Option Addr) : Prop := ∀ a, A = some a → a.block ≠ g
theorem Aside.ite {g : Nat} {A : Option Addr} (h : Aside g A) (k c : Nat) : Aside g (if c = k then A else A.map (·.add k)) := by
  intro a ha
  split at ha
  · exact h a ha
  · cases A with
    | none => cases ha
    | some b =>
      simp only [Option.map_some, Option.some.injEq] at ha
      subst ha
      have := h b rfl
      unfold Addr.add
      split <;> simpa using this
theorem Lies.aside {w w' : World} {B g : Nat} {A : Option Addr} {xs : List UInt8} (h : Lies w B A xs) (ha : Aside g A) (hg : w.grownBy w' (some g)) (hB : B ≤ w.heap.size) : Lies w' B A xs := fun hx => by
  obtain ⟨b, o, e, hb, hc⟩ := h hx
  refine ⟨b, o, e, hb, fun i x hi => ?_⟩
  have hne := ha _ e
  rw [World.cell?_of_block (hg.block b (by omega) (fun e' => hne (by injection e')))]
  exact hc i x hi
end Go.Proofs.YtmcbpifkclhfiaaDoor
