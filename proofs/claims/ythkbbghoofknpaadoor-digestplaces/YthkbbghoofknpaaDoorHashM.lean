/-
  Plain mathematics of a hash that grows, and its cells: laws for the walk. No program is named here.
-/
import Derived.Test.YthkbbghoofknpaaDoorWordM
import Derived.Test.YthkbbghoofknpaaDoorCopy
namespace Go.Proofs.YthkbbghoofknpaaDoor
open Go.RowKit

/-- The cells of a hash. -/
def hcells (s : St) (blk : List UInt8) (n : Nat) : List Value := wcells s.list ++ (cells blk ++ [.int .u64 (n : Int)])
theorem hcells_length {s : St} {blk : List UInt8} {n : Nat} (h : blk.length = 64) : (hcells s blk n).length = 73 := by
  simp only [hcells, List.length_append, wcells_length, cells_length, h]
  rfl
theorem hcells_size {s : St} {blk : List UInt8} {n : Nat} (h : blk.length = 64) : (hcells s blk n)[72]? = some (.int .u64 (n : Int)) := by
  unfold hcells
  rw [List.getElem?_append_right (by rw [wcells_length]; show 8 ≤ 72; omega), wcells_length]
  show (cells blk ++ [.int .u64 (n : Int)])[64]? = _
  rw [List.getElem?_append_right (by rw [cells_length]; omega), cells_length, h]
  rfl
theorem hcells_setSize {s : St} {blk : List UInt8} {n k : Nat} (h : blk.length = 64) : (hcells s blk n).set 72 (.int .u64 (k : Int)) = hcells s blk k := by
  unfold hcells
  rw [List.set_append_right _ _ (by rw [wcells_length]; show 8 ≤ 72; omega), wcells_length]
  show wcells s.list ++ (cells blk ++ [Value.int .u64 (n : Int)]).set 64 _ = _
  rw [List.set_append_right _ _ (by rw [cells_length]; omega), cells_length, h]
  rfl
theorem hcells_byte {s : St} {blk : List UInt8} {n j : Nat} {v : Value} (h : (cells blk)[j]? = some v) : (hcells s blk n)[8 + j]? = some v := by
  have hj : j < (cells blk).length := (List.getElem?_eq_some_iff.1 h).1
  unfold hcells
  rw [List.getElem?_append_right (by rw [wcells_length]; show 8 ≤ 8 + j; omega), wcells_length]
  show (cells blk ++ [.int .u64 (n : Int)])[8 + j - 8]? = _
  rw [Nat.add_sub_cancel_left, List.getElem?_append_left hj]
  exact h
theorem hcells_over {s : St} {blk t : List UInt8} {n r : Nat} (h : blk.length = 64) (hr : r + t.length ≤ 64) :
    (hcells s blk n).take (8 + r) ++ cells t ++ (hcells s blk n).drop (8 + r + t.length) = hcells s (over blk r t) n := by
  have e1 : (hcells s blk n).take (8 + r) = wcells s.list ++ (cells blk).take r := by
    unfold hcells
    rw [List.take_append, wcells_length]
    show List.take (8 + r) (wcells s.list) ++ List.take (8 + r - 8) (cells blk ++ [.int .u64 (n : Int)]) = _
    rw [List.take_of_length_le (l := wcells s.list) (by rw [wcells_length]; show 8 ≤ 8 + r; omega), Nat.add_sub_cancel_left, List.take_append_of_le_length (by rw [cells_length]; omega)]
  have e2 : (hcells s blk n).drop (8 + r + t.length) = (cells blk).drop (r + t.length) ++ [.int .u64 (n : Int)] := by
    unfold hcells
    rw [List.drop_append, List.drop_eq_nil_of_le (as := wcells s.list) (by rw [wcells_length]; show 8 ≤ 8 + r + t.length; omega), List.nil_append, wcells_length]
    show List.drop (8 + r + t.length - 8) (cells blk ++ [.int .u64 (n : Int)]) = _
    rw [show 8 + r + t.length - 8 = r + t.length by omega, List.drop_append_of_le_length (by rw [cells_length]; omega)]
  rw [e1, e2]
  unfold hcells
  rw [cells_over]
  simp only [List.append_assoc]

theorem rest_fill {m t blk : List UInt8} (hb : blk.length = 64) (h : blk.take (m.length % 64) = m.drop (64 * (m.length / 64))) (ht : m.length % 64 + t.length < 64) :
    (over blk (m.length % 64) t).length = 64 ∧ (over blk (m.length % 64) t).take ((m ++ t).length % 64) = (m ++ t).drop (64 * ((m ++ t).length / 64)) ∧ foldK shaH (m ++ t) ((m ++ t).length / 64) = foldK shaH m (m.length / 64) := by
  have e1 : (m ++ t).length % 64 = m.length % 64 + t.length := by rw [List.length_append]; omega
  have e2 : (m ++ t).length / 64 = m.length / 64 := by rw [List.length_append]; omega
  refine ⟨by rw [over_length (by omega), hb], ?_, ?_⟩
  · rw [e1, e2, List.drop_append_of_le_length (by omega), ← h]
    unfold over
    rw [List.take_append_of_le_length (by rw [List.length_append, List.length_take]; omega), List.take_of_length_le (by rw [List.length_append, List.length_take]; omega)]
  · rw [e2, foldK_left _ (by omega)]
theorem rest_full {m t blk : List UInt8} (hb : blk.length = 64) (h : blk.take (m.length % 64) = m.drop (64 * (m.length / 64))) (ht : m.length % 64 + t.length = 64) :
    (over blk (m.length % 64) t).length = 64 ∧ (over blk (m.length % 64) t).take ((m ++ t).length % 64) = (m ++ t).drop (64 * ((m ++ t).length / 64)) ∧ foldK shaH (m ++ t) ((m ++ t).length / 64) = mixB (foldK shaH m (m.length / 64)) (over blk (m.length % 64) t) := by
  have e1 : (m ++ t).length % 64 = 0 := by rw [List.length_append]; omega
  have e2 : (m ++ t).length / 64 = m.length / 64 + 1 := by rw [List.length_append]; omega
  have e3 : over blk (m.length % 64) t = m.drop (64 * (m.length / 64)) ++ t := by
    unfold over
    rw [List.drop_eq_nil_of_le (by omega), List.append_nil, h]
  have e4 : m ++ t = m.take (64 * (m.length / 64)) ++ over blk (m.length % 64) t := by rw [e3, ← List.append_assoc, List.take_append_drop]
  have hl : (over blk (m.length % 64) t).length = 64 := by rw [over_length (by omega), hb]
  refine ⟨hl, ?_, ?_⟩
  · rw [e1, e2, List.take_zero, List.drop_eq_nil_of_le (by rw [List.length_append]; omega)]
  · have hp : (m.take (64 * (m.length / 64))).length = 64 * (m.length / 64) := by rw [List.length_take]; omega
    rw [e2, e4, foldK_block hp hl]
    congr 1
    have := foldK_left (s := shaH) (a := m.take (64 * (m.length / 64))) (b := m.drop (64 * (m.length / 64))) (m.length / 64) (by omega)
    rw [List.take_append_drop] at this
    exact this.symm

/-- 's[l:]' of a slice of bytes. -/
theorem run_slice_from {P : Program} {t e : TypeId} (ht : P.underlying t = some (.slice e)) (hs : (P.info? e).map (·.size) = some 1) (A A2 : Option Addr) (n c l : Nat) (k : IntKind) (h1 : l ≤ n) (hA : (if c = l then A else A.map (·.add l)) = A2) (W : World) :
    (Instr.slice t (.slice A n c) (some (.int k (l : Int))) none none).run P W = .ok (.slice A2 (n - l) (c - l)) W ∧ (Instr.sliceAt t (.slice A n c) (some (.int k (l : Int))) none none).run P W = .ok (.slice A2 (n - l) (c - l)) W := by
  obtain ⟨inf, hinf, h4⟩ := Option.map_eq_some_iff.1 hs
  have h2 : (Instr.slice t (.slice A n c) (some (.int k (l : Int))) none none).run P W = .ok (.slice A2 (n - l) (c - l)) W := by
    rw [← hA]
    simp [Instr.slice, run_underlying ht, Instr.sliceBounds, run_sliceBound, sizeOf, typeInfo, hinf, h4, h1]
  refine ⟨h2, ?_⟩
  simp only [Instr.sliceAt, Sem.run_bind, run_underlying ht, Result.andThen_ok]
  exact h2

theorem grown_trans {a b c : World} {row : Option Nat} (h1 : a.grownBy b row) (h2 : b.grownBy c row) : a.grownBy c row :=
  ⟨h2.os.trans h1.os, h2.tape.trans h1.tape, h2.output.trans h1.output, Nat.le_trans h1.size h2.size, fun k hk hne => (h2.block k (Nat.lt_of_lt_of_le hk h1.size) hne).trans (h1.block k hk hne)⟩
/-- The bytes do not lie in block g. -/
def Aside (g : Nat) (A : Option Addr) : Prop := ∀ a, A = some a → a.block ≠ g
theorem Aside.ite {g : Nat} {A : Option Addr} (h : Aside g A) (k c : Nat) : Aside g (if c = k then A else A.map (·.add k)) := by
  intro a ha
  split at ha
  · exact h a ha
  · cases A with
    | none => cases ha
    | some b =>
      simp only [Option.map_some, Option.some.injEq] at ha
      subst ha
      have := h b rfl
      unfold Addr.add
      split <;> simpa using this
theorem Lies.aside {w w' : World} {B g : Nat} {A : Option Addr} {xs : List UInt8} (h : Lies w B A xs) (ha : Aside g A) (hg : w.grownBy w' (some g)) (hB : B ≤ w.heap.size) : Lies w' B A xs := fun hx => by
  obtain ⟨b, o, e, hb, hc⟩ := h hx
  refine ⟨b, o, e, hb, fun i x hi => ?_⟩
  have hne := ha _ e
  rw [World.cell?_of_block (hg.block b (by omega) (fun e' => hne (by injection e')))]
  exact hc i x hi
end Go.Proofs.YthkbbghoofknpaaDoor
