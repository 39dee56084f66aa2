/-
  Composite values: built, boxed, answered beside another result: laws for the walk. No program is named here.
-/
import Derived.WalkKit
import Derived.Laws.Rows
import Derived.Test.YtmcnhcbibcjgnaaPkArrV
namespace Go.Proofs.Ytmcnhcbibcjgnaa
open Go.RowKit

theorem at_build {P : Program} {w : World} {ops : Array Oper} {rest : List Oper} {a : Act} {Q : Exit → Act → World → Prop} {d : Option Tmp} {x : Array (Nat × Operand)} {u : TypeId} {p : String} {af : Array Edge} (ty : TypeId)
    (h : wpList P ops Q (⟨d, .build ty x, u, p, af, none⟩ :: rest) a w) : wpList P ops Q (⟨d, .build ty x, u, p, af, none⟩ :: rest) a w := h
theorem wpList_build_to {P : Program} {ops : Array Oper} {rest : List Oper} {o : Oper} {a : Act} {w : World} {Q : Exit → Act → World → Prop} (hg : o.guard = none) (t : TypeId) (parts : Array (Nat × Operand)) (ho : o.op = .build t parts) (cs : List Value)
    (hf : P.built t (parts.map fun (i, x) => (i, a.eval x)).toList = some cs.toArray) (h : wpList P ops Q rest (a.put o.dst (.agg cs.toArray)) w) : wpList P ops Q (o :: rest) a w :=
  wpList_build hg t parts ho (by rw [hf]; rfl) (by rw [hf]; exact h)

section
variable {P : Program} {w : World}
/-- A value of many cells put into a new variable. -/
theorem wpList_box_rowV {ops : Array Oper} {rest : List Oper} {o : Oper} {a : Act} {Q : Exit → Act → World → Prop} (hgd : o.guard = none) (t : TypeId) (x : Operand) (ho : o.op = .box t x)
    (cs : List Value) (hx : a.eval x = .agg cs.toArray)
    (h : ∀ w', RowV w' w.heap.size t cs → Below w.heap.size w w' → w'.heap.size = w.heap.size + 1 → wpList P ops Q rest (a.put o.dst (.pointer (some ⟨w.heap.size, 0, none⟩))) w') : wpList P ops Q (o :: rest) a w := by
  refine wpList_plain hgd fun K hK => ?_
  have hc : (Value.agg cs.toArray).cells = cs.toArray := rfl
  unfold Oper.wp execOp
  simp only [ho, hx, Sem.run_bind, Instr.box, newVar, newRow, hc, run_newObj_alloc, Sem.run_pure, Result.andThen_ok]
  exact hK _ _ (h _ (RowV.new w t cs) ((Below.refl _ _).alloc (Nat.le_refl _) _) (by simp))
/-- Guards: they fit where the next operation is a box, an alloc, of the type named, and nowhere else. -/
theorem at_box {ops : Array Oper} {rest : List Oper} {a : Act} {Q : Exit → Act → World → Prop} {d : Option Tmp} {x : Operand} {u : TypeId} {p : String} {af : Array Edge} (ty : TypeId)
    (h : wpList P ops Q (⟨d, .box ty x, u, p, af, none⟩ :: rest) a w) : wpList P ops Q (⟨d, .box ty x, u, p, af, none⟩ :: rest) a w := h
theorem at_alloc {ops : Array Oper} {rest : List Oper} {a : Act} {Q : Exit → Act → World → Prop} {d : Option Tmp} {u : TypeId} {p : String} {af : Array Edge} (ty : TypeId)
    (h : wpList P ops Q (⟨d, .alloc ty, u, p, af, none⟩ :: rest) a w) : wpList P ops Q (⟨d, .alloc ty, u, p, af, none⟩ :: rest) a w := h
end
section
variable {P : Program}
theorem results_cell_tmp {fn : Func} {p q : Tmp} {ty : TypeId} (h : fn.results = #[.cell p ty, .tmp q]) (tmps : Array Value) (w : World) (g : Nat) (t : TypeId) (cs : Array Value) (fr : Nat × Nat) (d : TypeDesc)
    (hp : tmps.getD p undef = .pointer (some ⟨g, 0, none⟩)) (v : Value) (hq : tmps.getD q undef = v) (hg : w.heap[g]? = some (.cells cs t fr))
    (hu : P.underlying ty = some d) (hd : (match d with | .struct _ | .array _ _ => true | _ => false) = true) (hi : (P.info? ty).map (·.size) = some cs.size) :
    (results fn tmps).run P w = .ok (.tuple #[.agg cs, v]) w := by
  have hp' : tmps[p]?.getD undef = .pointer (some ⟨g, 0, none⟩) := by simpa using hp
  have hq' : tmps[q]?.getD undef = v := by simpa using hq
  simp [results, h, hp', hq', asAddr, run_loadVar_row w g t ty cs fr d hg hu hd hi]
end
end Go.Proofs.Ytmcnhcbibcjgnaa
