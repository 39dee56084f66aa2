/-
  A number, or a whole row, loaded: one operation.
-/
import Derived.Test.YtmcnhcbibcjgnaaRows
import Derived.Test.YtmcnhcbibcjgnaaPkAppV
import Derived.WalkKit
import Derived.WalkLawsBesides
namespace Go.Proofs.Ytmcnhcbibcjgnaa
open Go.RowKit
set_option linter.unusedVariables false

section
variable {W : World} {ρ : Operand → Value} {o : Oper}
theorem exec_load_int (x : Operand) (ho : o.op = .load 3 x) (b k : Nat) (hx : ρ x = .pointer (some ⟨b, k, none⟩)) (v : Int) (hc : W.cell? ⟨b, k, none⟩ = some (.int .i64 v)) : (execOp ρ o).run Try.prog W = .ok (.value (.int .i64 v)) W := by
  simp only [execOp, ho, hx]
  go_simp
theorem exec_load_row (ty : TypeId) (x : Operand) (ho : o.op = .load ty x) (b : Nat) (hx : ρ x = .pointer (some ⟨b, 0, none⟩)) {t : TypeId} {cs : List Value} (d : TypeDesc) (hc : RowV W b t cs) (hu : Try.prog.underlying ty = some d) (hd : d.isRow = true) (hi : (Try.prog.info? ty).map (·.size) = some cs.length) :
    (execOp ρ o).run Try.prog W = .ok (.value (.agg cs.toArray)) W :=
  exec_load_mid ty x ho b 0 hx cs d (fun i v hv => by rw [Nat.zero_add]; exact hc.cell hv) hu hd hi
end
end Go.Proofs.Ytmcnhcbibcjgnaa
