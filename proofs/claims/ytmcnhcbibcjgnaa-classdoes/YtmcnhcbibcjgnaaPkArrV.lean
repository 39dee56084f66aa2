/-
  Arrays of values of one cell each (words, bytes) in a block of their own: laws for the walk. No program is named here.
-/
import Derived.Test.YtmcnhcbibcjgnaaPkArr
import Derived.Test.YtmcnhcbibcjgnaaPkCrcE
namespace Go.Proofs.Ytmcnhcbibcjgnaa
open Go.RowKit

/-- Words of 32 bits as cells. -/
def wcells (ws : List (BitVec 32)) : List Value := ws.map fun x => Value.int .u32 (nv x)
theorem wcells_length (ws : List (BitVec 32)) : (wcells ws).length = ws.length := by simp [wcells]
theorem wcells_get {ws : List (BitVec 32)} {i : Nat} (h : i < ws.length) : (wcells ws)[i]? = some (.int .u32 (nv (ws.getD i 0#32))) := by
  unfold wcells
  rw [List.getElem?_map, List.getD_eq_getElem?_getD, List.getElem?_eq_getElem h]
  rfl
theorem wcells_set (ws : List (BitVec 32)) (i : Nat) (x : BitVec 32) : (wcells ws).set i (.int .u32 (nv x)) = wcells (ws.set i x) := by
  unfold wcells
  rw [List.map_set]
theorem wcells_one (ws : List (BitVec 32)) : ∀ u ∈ wcells ws, u.oneCell' = true := by
  intro u hu
  obtain ⟨x, _, rfl⟩ := List.mem_map.1 hu
  rfl
theorem wcells_oneCell (ws : List (BitVec 32)) : ((wcells ws).toArray).all (·.oneCell') = true := by
  rw [Array.all_eq_true_iff_forall_mem]
  intro v hv
  exact wcells_one ws v (by simpa using hv)

/-- Block g is just these cells (as an object of type t); none of them is frozen. -/
def RowV (w : World) (g : Nat) (t : TypeId) (cs : List Value) : Prop := w.heap[g]? = some (.cells cs.toArray t (0, 0))

section
variable {P : Program} {w w' : World} {g : Nat} {t : TypeId} {cs : List Value}

theorem RowV.lt (h : RowV w g t cs) : g < w.heap.size := (Array.getElem?_eq_some_iff.1 h).1
theorem RowV.keep (h : RowV w g t cs) {row : Option Nat} (hg : w.grownBy w' row) (hne : row ≠ some g) : RowV w' g t cs := (hg.block g h.lt (fun e => hne e.symm)).trans h
theorem RowV.below {B : Nat} (h : RowV w g t cs) (hg : g < B) (hb : Below B w w') : RowV w' g t cs := (hb.block g hg).trans h
theorem RowV.alloc (h : RowV w g t cs) (o : Obj) : RowV (w.alloc o) g t cs := (Below.heap_alloc w o g h.lt).trans h
theorem RowV.drew (h : RowV w g t cs) : RowV w.drew g t cs := h
theorem RowV.new (w : World) (t : TypeId) (cs : List Value) : RowV (w.alloc (.cells cs.toArray t)) w.heap.size t cs := heap_alloc_new w _
theorem RowV.put (h : RowV w g t cs) (ds : List Value) : RowV (w.setRow g ds.toArray) g t ds := setRow_heap w g _ _ t _ h
theorem RowV.put_other {k : Nat} (h : RowV w g t cs) (hk : g ≠ k) (ds : Array Value) : RowV (w.setRow k ds) g t cs := (setRow_other w k g ds hk).trans h
theorem RowV.setCell (h : RowV w g t cs) (i : Nat) (v : Value) : RowV (w.setCell ⟨g, i, none⟩ v) g t (cs.set i v) := by
  have := heap_setCell_same w g i _ t v h
  unfold RowV
  rw [this]
  simp
theorem RowV.setCell_other (h : RowV w g t cs) {p : Addr} (hk : g ≠ p.block) (v : Value) : RowV (w.setCell p v) g t cs := (heap_setCell_other w p g v hk).trans h
theorem RowV.cell (h : RowV w g t cs) {i : Nat} {v : Value} (hi : cs[i]? = some v) : w.cell? ⟨g, i, none⟩ = some v := by
  rw [cell_of_row w g i _ t (0, 0) h]
  simpa using hi
theorem RowV.word {ws : List (BitVec 32)} (h : RowV w g t (wcells ws)) {i : Nat} (hi : i < ws.length) : w.cell? ⟨g, i, none⟩ = some (.int .u32 (nv (ws.getD i 0#32))) := h.cell (wcells_get hi)
theorem RowV.setWord {ws : List (BitVec 32)} (h : RowV w g t (wcells ws)) (i : Nat) (x : BitVec 32) : RowV (w.setCell ⟨g, i, none⟩ (.int .u32 (nv x))) g t (wcells (ws.set i x)) := by
  rw [← wcells_set]
  exact h.setCell i _

/-- 'var s [n]T': a new block. -/
theorem wpList_alloc_rowV {ops : Array Oper} {rest : List Oper} {o : Oper} {a : Act} {Q : Exit → Act → World → Prop} (hgd : o.guard = none) (t : TypeId) (ho : o.op = .alloc t)
    (cs : List Value) (hz : (P.info? t).bind (·.zero) = some (.agg cs.toArray))
    (h : ∀ w', RowV w' w.heap.size t cs → Below w.heap.size w w' → w'.heap.size = w.heap.size + 1 → wpList P ops Q rest (a.put o.dst (.pointer (some ⟨w.heap.size, 0, none⟩))) w') : wpList P ops Q (o :: rest) a w := by
  refine wpList_plain hgd fun K hK => ?_
  obtain ⟨i, hi, hz'⟩ := Option.bind_eq_some_iff.1 hz
  have hr : (Instr.alloc t true (.tuple #[])).run P w = .ok (.pointer (some ⟨w.heap.size, 0, none⟩)) (w.alloc (.cells cs.toArray t)) := by
    simp [Instr.alloc, zeroValue, typeInfo, hi, hz', newVar, newRow, Value.cells]
  unfold Oper.wp
  simp only [execOp, ho, Sem.run_bind, hr, Result.andThen_ok]
  exact hK _ _ (h _ (RowV.new w t cs) ((Below.refl _ _).alloc (Nat.le_refl _) _) (by simp))
end
end Go.Proofs.Ytmcnhcbibcjgnaa
