/-
  copy of a string's or a slice's bytes into a row of the call's own: laws for the walk. No program is named here.
  Arrays of bytes held in a block of their own: laws for the walk (a new array, a copy into it, the whole array loaded, stored, answered). No program is named here.
-/
import Derived.Test.YtmcnhcbibcjgnaaPkApp
import Derived.Lib.BufferWrite
import Derived.Laws.CopyOwn
namespace Go.Proofs.Ytmcnhcbibcjgnaa
open Go.RowKit

/-- The bytes t laid over xs from place k on. -/
def over (xs : List UInt8) (k : Nat) (t : List UInt8) : List UInt8 := xs.take k ++ t ++ xs.drop (k + t.length)
theorem over_length {xs : List UInt8} {k : Nat} {t : List UInt8} (h : k + t.length ≤ xs.length) : (over xs k t).length = xs.length := by
  simp [over]
  omega
theorem over_nil (xs : List UInt8) (k : Nat) : over xs k [] = xs := by simp [over]
theorem cells_over (xs : List UInt8) (k : Nat) (t : List UInt8) : cells (over xs k t) = (cells xs).take k ++ cells t ++ (cells xs).drop (k + t.length) := by
  simp [over, cells, List.map_take, List.map_drop]

section
variable {P : Program} {w : World} {base g n : Nat} {xs : List UInt8}

/-- The row of a full slice, written out. -/
theorem own_full (h : w.ownsRow base 5 1 (.slice (some ⟨g, 0, none⟩) n n) n (cells xs)) : w.heap[g]? = some (.cells (cells xs).toArray 5 (0, 0)) ∧ base ≤ g ∧ xs.length = n := by
  have hx : xs.length = n := by have := h.1; rw [cells_length] at this; omega
  rcases h.2 with ⟨h', _⟩ | ⟨g', cap', cur, h', hb, hg, _, _, hcs, htake⟩
  · simp at h'
  · simp only [Value.slice.injEq, Option.some.injEq, Addr.mk.injEq, and_true, true_and] at h'
    obtain ⟨rfl, rfl⟩ := h'
    rw [List.take_of_length_le (by rw [Array.length_toList]; omega)] at htake
    exact ⟨by rw [← htake]; simpa using hg, hb, hx⟩
theorem own_of_full {w' : World} (hg : w'.heap[g]? = some (.cells (cells xs).toArray 5 (0, 0))) (hb : base ≤ g) (hx : xs.length = n) (hm : n ≤ maxLen) :
    w'.ownsRow base 5 1 (.slice (some ⟨g, 0, none⟩) n n) n (cells xs) :=
  ⟨by rw [cells_length]; omega, .inr ⟨g, n, _, rfl, hb, hg, Nat.le_refl _, hm, by simp [cells_length, hx], List.take_of_length_le (by simp [cells_length, hx])⟩⟩

/-- copy of a string into a full row of the call's own, from place k on. -/
theorem run_copy_str {dT sT ty : TypeId} (hu : P.underlying dT = some (.slice 5)) (hsz : (P.info? 5).map (·.size) = some 1) (dp : Option Addr) (dLen dCap : Nat) (t : ByteArray) (k : Nat)
    (h : w.ownsRow base 5 1 (.slice (some ⟨g, 0, none⟩) n n) n (cells xs)) (hm : n ≤ maxLen) (hdp : t.size ≠ 0 → dp = some ⟨g, k, none⟩) (hle : t.size ≤ dLen) (hfit : k + t.size ≤ n) :
    ∃ w', (Builtin.copy_ #[dT, sT] ty #[.slice dp dLen dCap, .string t]).run P w = .ok (goInt t.size) w' ∧
      w'.ownsRow base 5 1 (.slice (some ⟨g, 0, none⟩) n n) n (cells (over xs k t.data.toList)) ∧ w.grownBy w' (some g) := by
  have hts : t.size = t.data.toList.length := Lib.size_eq t
  obtain ⟨hg, hb, hx⟩ := own_full h
  by_cases h0 : t.size = 0
  · have hnil : t.data.toList = [] := List.eq_nil_of_length_eq_zero (by omega)
    have hr := Lib.run_copy_empty_string (P := P) w dT sT ty 5 dp dLen dCap t hu (by simp [hsz]) h0
    exact ⟨w, by rw [h0]; exact hr, by rw [hnil, over_nil]; exact h, World.grownBy.refl _ _⟩
  · have hr := Lib.run_copy_row_string (P := P) w dT sT ty 5 g k dLen dCap t _ 5 hu hsz hg hle (by simp only [List.size_toArray, cells_length]; omega)
    rw [hdp h0]
    refine ⟨_, hr, own_of_full ?_ hb (by rw [over_length (by omega)]; exact hx) hm, ⟨rfl, rfl, rfl, by simp, fun k _ hk => setRow_other w g k _ (fun e => hk (by simp [e]))⟩⟩
    rw [cells_over, ← hts, show cells t.data.toList = Lib.byteCells t.data.toList from rfl]
    simpa using setRow_heap w g _ _ 5 _ hg
end
end Go.Proofs.Ytmcnhcbibcjgnaa
namespace Go.Proofs.Ytmcnhcbibcjgnaa
open Go.RowKit

section
variable {P : Program} {w : World}

/-- Block g is just the bytes xs (as an object of type t); none of them is frozen. -/
def Row (w : World) (g : Nat) (t : TypeId) (xs : List UInt8) : Prop := w.heap[g]? = some (.cells (cells xs).toArray t (0, 0))

theorem Row.lt {g : Nat} {t : TypeId} {xs : List UInt8} (h : Row w g t xs) : g < w.heap.size := (Array.getElem?_eq_some_iff.1 h).1
theorem Row.lies {g : Nat} {t : TypeId} {xs : List UInt8} (h : Row w g t xs) : Lies w w.heap.size (some ⟨g, 0, none⟩) xs := fun _ => ⟨g, 0, rfl, h.lt, fun i x hi => by
  rw [cell_of_row w g (0 + i) _ t (0, 0) h, Nat.zero_add]
  simpa using cells_get hi⟩
theorem Row.keep {w' : World} {g : Nat} {t : TypeId} {xs : List UInt8} (h : Row w g t xs) {row : Option Nat} (hg : w.grownBy w' row) (hne : row ≠ some g) : Row w' g t xs := (hg.block g h.lt (fun e => hne e.symm)).trans h
theorem Row.below {w' : World} {g : Nat} {t : TypeId} {xs : List UInt8} (h : Row w g t xs) (hb : Below w.heap.size w w') : Row w' g t xs := (hb.block g h.lt).trans h
theorem Row.alloc {g : Nat} {t : TypeId} {xs : List UInt8} (h : Row w g t xs) (o : Obj) : Row (w.alloc o) g t xs := (Below.heap_alloc w o g h.lt).trans h
theorem Row.new (w : World) (t : TypeId) (xs : List UInt8) : Row (w.alloc (.cells (cells xs).toArray t)) w.heap.size t xs := heap_alloc_new w _
theorem Row.set {g : Nat} {t : TypeId} {xs : List UInt8} (h : Row w g t xs) (ys : List UInt8) : Row (w.setRow g (cells ys).toArray) g t ys := setRow_heap w g _ _ t _ h
theorem Row.set_other {g k : Nat} {t : TypeId} {xs : List UInt8} (h : Row w g t xs) (hk : g ≠ k) (cs : Array Value) : Row (w.setRow k cs) g t xs := (setRow_other w k g cs hk).trans h
theorem Row.cell {g : Nat} {t : TypeId} {xs : List UInt8} (h : Row w g t xs) {i : Nat} {x : UInt8} (hi : xs[i]? = some x) : w.cell? ⟨g, i, none⟩ = some (.int .u8 (x.toNat : Int)) := by
  rw [cell_of_row w g i _ t (0, 0) h]
  simpa using cells_get hi
theorem cells_oneCell (xs : List UInt8) : ((cells xs).toArray).all (·.oneCell') = true := by
  rw [Array.all_eq_true_iff_forall_mem]
  intro v hv
  exact cells_one xs v (by simpa using hv)

/-- Guards: they fit where the next operation is a load, a store, of the type named, and nowhere else ('with_reducible refine at_load T ?_'). -/
theorem at_load {ops : Array Oper} {rest : List Oper} {a : Act} {Q : Exit → Act → World → Prop} {d : Option Tmp} {x : Operand} {u : TypeId} {p : String} {af : Array Edge} (ty : TypeId)
    (h : wpList P ops Q (⟨d, .load ty x, u, p, af, none⟩ :: rest) a w) : wpList P ops Q (⟨d, .load ty x, u, p, af, none⟩ :: rest) a w := h
theorem at_store {ops : Array Oper} {rest : List Oper} {a : Act} {Q : Exit → Act → World → Prop} {d : Option Tmp} {x y : Operand} {u : TypeId} {p : String} {af : Array Edge} (ty : TypeId)
    (h : wpList P ops Q (⟨d, .store ty x y, u, p, af, none⟩ :: rest) a w) : wpList P ops Q (⟨d, .store ty x y, u, p, af, none⟩ :: rest) a w := h

/-- 'var s [n]byte': a new block. -/
theorem wpList_alloc_row {ops : Array Oper} {rest : List Oper} {o : Oper} {a : Act} {Q : Exit → Act → World → Prop} (hgd : o.guard = none) (t : TypeId) (ho : o.op = .alloc t)
    (xs : List UInt8) (hz : (P.info? t).bind (·.zero) = some (.agg (cells xs).toArray))
    (h : ∀ w', Row w' w.heap.size t xs → Below w.heap.size w w' → w'.heap.size = w.heap.size + 1 → wpList P ops Q rest (a.put o.dst (.pointer (some ⟨w.heap.size, 0, none⟩))) w') : wpList P ops Q (o :: rest) a w := by
  refine wpList_plain hgd fun K hK => ?_
  obtain ⟨i, hi, hz'⟩ := Option.bind_eq_some_iff.1 hz
  have hr : (Instr.alloc t true (.tuple #[])).run P w = .ok (.pointer (some ⟨w.heap.size, 0, none⟩)) (w.alloc (.cells (cells xs).toArray t)) := by
    simp [Instr.alloc, zeroValue, typeInfo, hi, hz', newVar, newRow, Value.cells]
  unfold Oper.wp
  simp only [execOp, ho, Sem.run_bind, hr, Result.andThen_ok]
  exact hK _ _ (h _ (Row.new w t xs) ((Below.refl _ _).alloc (Nat.le_refl _) _) (by simp))

/-- copy of a slice's bytes into a whole row, from place k on. -/
theorem run_copy_lies {dT sT ty t : TypeId} {g : Nat} {xs ys : List UInt8} (hu : P.underlying dT = some (.slice 5)) (hsz : (P.info? 5).map (·.size) = some 1) (dp : Option Addr) (dLen dCap : Nat) (k : Nat)
    (h : Row w g t xs) {B : Nat} {A : Option Addr} {m c : Nat} (hl : Lies w B A ys) (hm : m = ys.length) (hdp : dp = some ⟨g, k, none⟩) (hfit : k + dLen ≤ xs.length) :
    ∃ w', (Builtin.copy_ #[dT, sT] ty #[.slice dp dLen dCap, .slice A m c]).run P w = .ok (goInt (ys.take dLen).length) w' ∧ Row w' g t (over xs k (ys.take dLen)) ∧ w.grownBy w' (some g) := by
  subst hdp
  have hn : (cells (ys.take dLen)).length = Nat.min m dLen := by
    rw [cells_length, List.length_take, hm, Nat.min_comm]
  rcases A with _ | a
  · have hy : ys = [] := by
      rcases ys with _ | ⟨y, ys⟩
      · rfl
      · obtain ⟨_, _, e, _⟩ := hl (by simp)
        cases e
    subst hy
    simp only [List.length_nil] at hm
    subst hm
    exact ⟨w, by simpa using run_copy_none (P := P) w dT sT ty 5 (some ⟨g, k, none⟩) none dLen dCap 0 c hu hsz (Nat.zero_min _), by simpa [over_nil] using h, World.grownBy.refl _ _⟩
  · have hr := run_copy_row (P := P) w dT sT ty 5 g k dLen dCap a m c _ t (cells (ys.take dLen)) hu hsz h hn ((hl.take dLen).cells rfl) (by
      have : (ys.take dLen).length ≤ dLen := List.length_take_le _ _
      simp only [List.size_toArray, cells_length]
      omega) (cells_one _)
    rw [cells_length] at hr
    refine ⟨w.setRow g (cells (over xs k (ys.take dLen))).toArray, ?_, h.set _, ⟨rfl, rfl, rfl, by simp, fun j _ hk => setRow_other w g j _ (fun e => hk (by simp [e]))⟩⟩
    rw [hr, cells_over]
end
end Go.Proofs.Ytmcnhcbibcjgnaa
