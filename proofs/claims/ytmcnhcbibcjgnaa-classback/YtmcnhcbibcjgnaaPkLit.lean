/-
  A constant's bytes ('[]byte("..")' of a constant): the row that is laid, with the mark behind it. No function of the program is named here.
-/
import Derived.Test.YtmcnhcbibcjgnaaPkStr
import Derived.Lib.SlBytesConst
import Derived.Test.YtmcnhcbibcjgnaaPkArr
namespace Go.Proofs.Ytmcnhcbibcjgnaa
open Go.RowKit

theorem Lies.lit_mark (w : World) (cs : Array Value) (fr : Nat × Nat) (xs : List UInt8) (h : cs.toList = Go.Proofs.Ytmcnhcbibcjgnaa.cells xs) (B : Nat) (hB : w.heap.size < B) : Lies (w.alloc (.cells cs 5 fr)) B (some ⟨w.heap.size, 0, none⟩) xs := by
  intro _
  refine ⟨w.heap.size, 0, rfl, hB, fun i x hi => ?_⟩
  rw [cell_of_row _ w.heap.size (0 + i) cs 5 fr (heap_alloc_new w _), Nat.zero_add, ← Array.getElem?_toList, h]
  exact cells_get hi
theorem at_convert {P : Program} {w : World} {ops : Array Oper} {rest : List Oper} {a : Act} {Q : Exit → Act → World → Prop} {d : Option Tmp} {x : Operand} {s u : TypeId} {p : String} {af : Array Edge} (ty : TypeId)
    (h : wpList P ops Q (⟨d, .convert ty s x, u, p, af, none⟩ :: rest) a w) : wpList P ops Q (⟨d, .convert ty s x, u, p, af, none⟩ :: rest) a w := h
/-- '[]byte("..")' of a constant, its literal just laid: the world behind it is a letter. -/
theorem wp_const {P : Program} {w : World} {o : Oper} {a : Act} {K : Act → World → Prop} {Q : Exit → Act → World → Prop} (t : TypeId) (x : Operand) (ho : o.op = .convert t t x)
    (ht : P.underlying t = some (.slice 5)) (he : P.underlying 5 = some (.int .u8)) (C : Array Value) (n c : Nat) (hx : a.eval x = .slice (some ⟨w.heap.size, 0, none⟩) n c) (xs : List UInt8) (hC : C.toList = Go.Proofs.Ytmcnhcbibcjgnaa.cells xs)
    (h : ∀ w', Lies w' (w.heap.size + 1) (some ⟨w.heap.size, 0, none⟩) xs → Below w.heap.size w w' → w'.heap.size = w.heap.size + 1 → K (a.put o.dst (.slice (some ⟨w.heap.size, 0, none⟩) n c)) w') : o.wp P a (w.alloc (.cells C 5)) K Q := by
  unfold Oper.wp
  simp only [execOp, ho, hx, Sem.run_bind, Lib.run_convert_bytes_const w t 5 C n c ht he, Result.andThen_ok]
  exact h _ (Lies.lit_mark w C _ xs hC _ (Nat.lt_succ_self _)) ((Below.refl _ _).alloc (Nat.le_refl _) _) (by simp)
theorem wpList_const {P : Program} {w : World} {ops : Array Oper} {rest : List Oper} {o : Oper} {a : Act} {Q : Exit → Act → World → Prop} (hgd : o.guard = none) (t : TypeId) (x : Operand) (ho : o.op = .convert t t x)
    (ht : P.underlying t = some (.slice 5)) (he : P.underlying 5 = some (.int .u8)) (C : Array Value) (n c : Nat) (hx : a.eval x = .slice (some ⟨w.heap.size, 0, none⟩) n c) (xs : List UInt8) (hC : C.toList = Go.Proofs.Ytmcnhcbibcjgnaa.cells xs)
    (h : ∀ w', Lies w' (w.heap.size + 1) (some ⟨w.heap.size, 0, none⟩) xs → Below w.heap.size w w' → w'.heap.size = w.heap.size + 1 → wpList P ops Q rest (a.put o.dst (.slice (some ⟨w.heap.size, 0, none⟩) n c)) w') : wpList P ops Q (o :: rest) a (w.alloc (.cells C 5)) :=
  wpList_plain hgd fun _ hK => wp_const t x ho ht he C n c hx xs hC fun w' h1 h2 h3 => hK _ _ (h w' h1 h2 h3)
end Go.Proofs.Ytmcnhcbibcjgnaa
