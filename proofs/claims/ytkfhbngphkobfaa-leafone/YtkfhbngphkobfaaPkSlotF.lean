/-
  A number stored into a field of a struct, or into any slot of a row.
-/
import Derived.Test.YtkfhbngphkobfaaRows
import Derived.Test.YtkfhbngphkobfaaPkSlot
namespace Go.Proofs.Ytkfhbngphkobfaa
open Go.RowKit
set_option linter.unusedVariables false

/-- A number stored into a field. -/
theorem store_field {w : World} {ops : Array Oper} {rest : List Oper} {o : Oper} {A : Act} {Q : Exit → Act → World → Prop} (hgd : o.guard = none) (x y : Operand) (ho : o.op = .store 3 x y) (g k : Nat) (v : Int)
    (hx : A.eval x = .pointer (some ⟨g, k, none⟩)) (hy : A.eval y = .int .i64 v) {t : TypeId} {old : List Value} (hg : RowV w g t old) (hk : k < old.length)
    (h : ∀ w', RowV w' g t (old.set k (.int .i64 v)) → w.grownBy w' (some g) → w'.heap.size = w.heap.size → wpList Try.prog ops Q rest (A.put o.dst undef) w') : wpList Try.prog ops Q (o :: rest) A w :=
  wpList_store_slot hgd 3 x y ho g k hx _ hy rfl t old hg hk (by kernel_rfl) h
end Go.Proofs.Ytkfhbngphkobfaa
