/-
  Arrays of words that are filled from the front, and words put together byte by byte; boxes and reads of arrays of one cell a value: laws for the walk. No program is named here.
-/
import Derived.Test.YthkbbghoofknpaaDoorSha
import Derived.Test.YthkbbghoofknpaaDoorArrV
import Derived.Test.YthkbbghoofknpaaDoorArrEq
import Derived.Test.YthkbbghoofknpaaDoorHexM
namespace Go.Proofs.YthkbbghoofknpaaDoor
open Go.RowKit

/-- A row of k words, the first ones told, the others nought. -/
def fillW (l : List (BitVec 32)) (k : Nat) : List (BitVec 32) := l ++ List.replicate (k - l.length) 0#32
theorem fillW_length {l : List (BitVec 32)} {k : Nat} (h : l.length ≤ k) : (fillW l k).length = k := by simp [fillW]; omega
theorem fillW_get {l : List (BitVec 32)} {k i : Nat} (h : i < l.length) : (fillW l k).getD i 0#32 = l.getD i 0#32 := by
  simp only [fillW, List.getD_eq_getElem?_getD, List.getElem?_append_left h]
theorem fillW_at {l : List (BitVec 32)} {k : Nat} : (fillW l k).getD l.length 0#32 = 0#32 := by
  simp only [fillW, List.getD_eq_getElem?_getD, List.getElem?_append_right (Nat.le_refl _), Nat.sub_self]
  cases h : k - l.length <;> simp
theorem fillW_set {l : List (BitVec 32)} {k : Nat} (x : BitVec 32) (h : l.length < k) : (fillW l k).set l.length x = fillW (l ++ [x]) k := by
  have e : k - l.length = (k - (l ++ [x]).length) + 1 := by simp; omega
  unfold fillW
  rw [e, List.replicate_succ, List.append_assoc, List.set_append_right _ _ (Nat.le_refl _), Nat.sub_self]
  simp
theorem fillW_zero {l : List (BitVec 32)} {k : Nat} (h : l.length < k) : (fillW l k).set l.length 0#32 = fillW l k := by
  have e : k - l.length = (k - l.length - 1) + 1 := by omega
  unfold fillW
  rw [e, List.replicate_succ, List.set_append_right _ _ (Nat.le_refl _), Nat.sub_self, List.set_cons_zero]
theorem getD_set_self {ws : List (BitVec 32)} {k : Nat} (h : k < ws.length) (v : BitVec 32) : (ws.set k v).getD k 0#32 = v := by
  rw [List.getD_eq_getElem?_getD, List.getElem?_set_self h]
  rfl
theorem fillW_full {l : List (BitVec 32)} {k : Nat} (h : l.length = k) : fillW l k = l := by simp [fillW, h]

/-- The first j bytes of a word. -/
def part4 (b : List UInt8) (i j : Nat) : BitVec 32 := BitVec.ofNat 32 (beN ((b.drop i).take j))
theorem part4_zero (b : List UInt8) (i : Nat) : part4 b i 0 = 0#32 := rfl
theorem part4_succ {b : List UInt8} {i j : Nat} {x : UInt8} (h : b[i + j]? = some x) (hj : j < 4) : part4 b i j <<< 8 ||| BitVec.ofNat 32 x.toNat = part4 b i (j + 1) := by
  have hx := x.toNat_lt
  have hl := beN_lt ((b.drop i).take j)
  have hp : (256 : Nat) ^ ((b.drop i).take j).length ≤ 256 ^ 3 := Nat.pow_le_pow_right (by omega) (by simp only [List.length_take]; omega)
  have e : beN ((b.drop i).take (j + 1)) = beN ((b.drop i).take j) * 256 + x.toNat := beN_take_succ (by rw [List.getElem?_drop]; exact h)
  unfold part4
  rw [e]
  generalize beN ((b.drop i).take j) = N at *
  apply BitVec.eq_of_toNat_eq
  rw [BitVec.toNat_or, BitVec.toNat_shiftLeft, BitVec.toNat_ofNat, BitVec.toNat_ofNat, BitVec.toNat_ofNat, Nat.shiftLeft_eq]
  have hN : N < 16777216 := by omega
  rw [Nat.mod_eq_of_lt (show N < 2 ^ 32 by omega), Nat.mod_eq_of_lt (show N * 2 ^ 8 < 2 ^ 32 by omega), Nat.mod_eq_of_lt (show x.toNat < 2 ^ 32 by omega), Nat.mod_eq_of_lt (show N * 256 + x.toNat < 2 ^ 32 by omega)]
  rw [show N * 2 ^ 8 = 2 ^ 8 * N by omega, ← Nat.two_pow_add_eq_or_of_lt (by omega)]
theorem part4_word {b : List UInt8} {i : Nat} (h : i + 4 ≤ b.length) : part4 b i 4 = word4 b i := by
  unfold part4 word4
  congr 1
  have e : (b.drop i).take 4 = [b[i], b[i + 1], b[i + 2], b[i + 3]] := by
    apply List.ext_getElem?
    intro j
    match j with
    | 0 => simp [List.getElem?_eq_getElem (show i < b.length by omega)]
    | 1 => simp [List.getElem?_eq_getElem (show i + 1 < b.length by omega)]
    | 2 => simp [List.getElem?_eq_getElem (show i + 2 < b.length by omega)]
    | 3 => simp [List.getElem?_eq_getElem (show i + 3 < b.length by omega)]
    | j + 4 => rw [List.getElem?_take, if_neg (by omega)]; rfl
  rw [e]
  simp only [beN, List.foldl_cons, List.foldl_nil, List.getD_eq_getElem?_getD, List.getElem?_eq_getElem (show i < b.length by omega), List.getElem?_eq_getElem (show i + 1 < b.length by omega), List.getElem?_eq_getElem (show i + 2 < b.length by omega), List.getElem?_eq_getElem (show i + 3 < b.length by omega), Option.getD_some]
  omega
theorem words16_take_succ (b : List UInt8) {i : Nat} (h : i < 16) : (words16 b).take (i + 1) = (words16 b).take i ++ [word4 b (4 * i)] := by
  rw [List.take_succ_eq_append_getElem (by rw [words16_length]; exact h)]
  congr 2
  simp [words16]

section
variable {P : Program} {w : World}
/-- An array's value at an index. -/
theorem run_index_one {t e : TypeId} {n : Nat} {cs : List Value} {k : IntKind} {i : Nat} {v : Value} (ht : P.underlying t = some (.array n e)) (hp : P.plainKey e = true) (hs : (P.info? e).map (·.size) = some 1) (hi : i < n) (hv : cs[i]? = some v) :
    (Instr.index t (.agg cs.toArray) (.int k (i : Int))).run P w = .ok v w := by
  obtain ⟨inf, hinf, h1⟩ := Option.map_eq_some_iff.1 hs
  have p1 := run_part_plain w hp (xs := cs.toArray) (off := i * 1) (v := v) (by simpa using hv)
  simp [Instr.index, asIntOf, run_underlying ht, sizeOf, typeInfo, hinf, h1, hi]
  simpa using p1

/-- A value of many cells put into a new variable. -/
theorem wpList_box_rowV {ops : Array Oper} {rest : List Oper} {o : Oper} {a : Act} {Q : Exit → Act → World → Prop} (hgd : o.guard = none) (t : TypeId) (x : Operand) (ho : o.op = .box t x)
    (cs : List Value) (hx : a.eval x = .agg cs.toArray)
    (h : ∀ w', RowV w' w.heap.size t cs → Below w.heap.size w w' → w'.heap.size = w.heap.size + 1 → wpList P ops Q rest (a.put o.dst (.pointer (some ⟨w.heap.size, 0, none⟩))) w') : wpList P ops Q (o :: rest) a w := by
  refine wpList_plain hgd fun K hK => ?_
  have hc : (Value.agg cs.toArray).cells = cs.toArray := rfl
  unfold Oper.wp execOp
  simp only [ho, hx, Sem.run_bind, Instr.box, newVar, newRow, hc, run_newObj_alloc, Sem.run_pure, Result.andThen_ok]
  exact hK _ _ (h _ (RowV.new w t cs) ((Below.refl _ _).alloc (Nat.le_refl _) _) (by simp))
/-- Guards: they fit where the next operation is a box, an alloc, of the type named, and nowhere else. -/
theorem at_box {ops : Array Oper} {rest : List Oper} {a : Act} {Q : Exit → Act → World → Prop} {d : Option Tmp} {x : Operand} {u : TypeId} {p : String} {af : Array Edge} (ty : TypeId)
    (h : wpList P ops Q (⟨d, .box ty x, u, p, af, none⟩ :: rest) a w) : wpList P ops Q (⟨d, .box ty x, u, p, af, none⟩ :: rest) a w := h
theorem at_alloc {ops : Array Oper} {rest : List Oper} {a : Act} {Q : Exit → Act → World → Prop} {d : Option Tmp} {u : TypeId} {p : String} {af : Array Edge} (ty : TypeId)
    (h : wpList P ops Q (⟨d, .alloc ty, u, p, af, none⟩ :: rest) a w) : wpList P ops Q (⟨d, .alloc ty, u, p, af, none⟩ :: rest) a w := h
/-- 'a[l:h]' of an array behind a pointer. -/
theorem run_slice_arr {t e : TypeId} {n : Nat} (ht : P.underlying t = some (.array n e)) (hs : (P.info? e).map (·.size) = some 1) (g o : Nat) (kl kh : IntKind) (L H : Int) (l h : Nat) (hL : L = (l : Int)) (hH : H = (h : Int)) (h1 : l ≤ h) (h2 : h ≤ n) (h3 : l < n) :
    (Instr.sliceAt t (.pointer (some ⟨g, o, none⟩)) (some (.int kl L)) (some (.int kh H)) none).run P w = .ok (.slice (some ⟨g, o + l, none⟩) (h - l) (n - l)) w := by
  subst hL hH
  obtain ⟨inf, hinf, h4⟩ := Option.map_eq_some_iff.1 hs
  have q1 : ¬ n = l := by omega
  have q2 : (l : Int) ≤ (h : Int) := by omega
  have q3 : (h : Int) ≤ (n : Int) := by omega
  simp [Instr.sliceAt, Instr.sureAddr, run_underlying ht, Instr.sliceBounds, run_sliceBound, sizeOf, typeInfo, hinf, h4, q1, h1, h2, Addr.add_lit]
theorem run_slice_arr_from {t e : TypeId} {n : Nat} (ht : P.underlying t = some (.array n e)) (hs : (P.info? e).map (·.size) = some 1) (g o : Nat) (kl : IntKind) (L : Int) (l : Nat) (hL : L = (l : Int)) (h3 : l < n) :
    (Instr.sliceAt t (.pointer (some ⟨g, o, none⟩)) (some (.int kl L)) none none).run P w = .ok (.slice (some ⟨g, o + l, none⟩) (n - l) (n - l)) w := by
  subst hL
  obtain ⟨inf, hinf, h4⟩ := Option.map_eq_some_iff.1 hs
  have q1 : ¬ n = l := by omega
  have q2 : l ≤ n := by omega
  simp [Instr.sliceAt, Instr.sureAddr, run_underlying ht, Instr.sliceBounds, run_sliceBound, sizeOf, typeInfo, hinf, h4, q1, q2, Addr.add_lit]
theorem RowV.frozen {g : Nat} {t : TypeId} {cs : List Value} (h : RowV w g t cs) (i : Nat) : w.frozen? ⟨g, i, none⟩ = false := frozen_of_row w g i _ t h
end
end Go.Proofs.YthkbbghoofknpaaDoor
