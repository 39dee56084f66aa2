/-
  '==' of structs, field by field. No program is named here.
-/
import Derived.Test.YtmcnhcbibcjgnaaPkAppV
import Derived.WalkKit
import Derived.WalkLawsBesides
import Derived.ChangeKeysEq
import Derived.Laws.StructEq
import Derived.DeepKeys
namespace Go.Proofs.Ytmcnhcbibcjgnaa
open Go.RowKit
set_option linter.unusedVariables false

section
variable {P : Program} {w : World}
theorem eqF_nil (d : Nat) (xs ys : Array Value) : (Op.eqFields d xs ys []).run P w = .ok true w := by simp [Op.eqFields]
/-- A field that is a number. -/
theorem eqF_int (d : Nat) {xs ys : Array Value} {f : Field} {fs : List Field} {k : IntKind} (hu : P.underlying f.type = some (.int k)) (hn : (f.name != "_") = true) {a b : Int} (hx : xs[f.offset]? = some (.int k a)) (hy : ys[f.offset]? = some (.int k b)) {r : Bool}
    (h : (Op.eqFields (d + 1) xs ys fs).run P w = .ok r w) : (Op.eqFields (d + 1) xs ys (f :: fs)).run P w = .ok ((a == b) && r) w := by
  have hp : P.plainKey f.type = true := by simp [Program.plainKey, hu]
  have hn' : f.name ≠ "_" := by simpa using hn
  simp only [Op.eqFields, Sem.run_ite, Sem.run_bind, run_part_plain w hp hx, run_part_plain w hp hy, Result.andThen_ok, run_equalIn_int w d f.type k k a b hu]
  cases hab : a == b
  · simp [hn']
  · simpa [hn'] using h
/-- A field that is a struct. -/
theorem eqF_agg (d : Nat) {xs ys : Array Value} {f : Field} {fs : List Field} (hn : (f.name != "_") = true) {A B : Value} (hx : (part f.type xs f.offset).run P w = .ok A w) (hy : (part f.type ys f.offset).run P w = .ok B w) {q r : Bool} (hq : (Op.equalIn d f.type A B).run P w = .ok q w)
    (h : (Op.eqFields d xs ys fs).run P w = .ok r w) : (Op.eqFields d xs ys (f :: fs)).run P w = .ok (q && r) w := by
  have hn' : f.name ≠ "_" := by simpa using hn
  simp only [Op.eqFields, Sem.run_ite, Sem.run_bind, hx, hy, Result.andThen_ok, hq]
  cases q
  · simp [hn']
  · simpa [hn'] using h
end
section
variable {P : Program}
/-- One operation: '==', '!=' of two structs. -/
theorem exec_eqlS {W : World} {ρ : Operand → Value} {o : Oper} (t : TypeId) (x y : Operand) (u : TypeId) (ho : o.op = .binOp .eql t x y u) (hm : P.eqGuardType P.depth t = false) {xs ys : Array Value} (hx : ρ x = .agg xs) (hy : ρ y = .agg ys) {b : Bool}
    (he : (Op.equalIn 10000 t (.agg xs) (.agg ys)).run P W = .ok b W) : (execOp ρ o).run P W = .ok (.value (.bool b)) W := by
  simp only [execOp, ho, hx, hy, Sem.run_bind, run_eqGuard_agg W .eql t x y _ _ hm, run_eql_struct, he, Result.andThen_ok, Sem.run_pure]
theorem exec_neqS {W : World} {ρ : Operand → Value} {o : Oper} (t : TypeId) (x y : Operand) (u : TypeId) (ho : o.op = .binOp .neq t x y u) (hm : P.eqGuardType P.depth t = false) {xs ys : Array Value} (hx : ρ x = .agg xs) (hy : ρ y = .agg ys) {b : Bool}
    (he : (Op.equalIn 10000 t (.agg xs) (.agg ys)).run P W = .ok b W) : (execOp ρ o).run P W = .ok (.value (.bool (!b))) W := by
  simp only [execOp, ho, hx, hy, Sem.run_bind, run_eqGuard_agg W .neq t x y _ _ hm, run_neq_struct, he, Result.andThen_ok, Sem.run_pure]
theorem at_eql {w : World} {ops : Array Oper} {rest : List Oper} {a : Act} {Q : Exit → Act → World → Prop} {d : Option Tmp} {x y : Operand} {v u : TypeId} {p : String} {af : Array Edge} (ty : TypeId)
    (h : wpList P ops Q (⟨d, .binOp .eql ty x y v, u, p, af, none⟩ :: rest) a w) : wpList P ops Q (⟨d, .binOp .eql ty x y v, u, p, af, none⟩ :: rest) a w := h
theorem wpList_eqlS {w : World} {ops : Array Oper} {rest : List Oper} {o : Oper} {a : Act} {Q : Exit → Act → World → Prop} (hg : o.guard = none) (t : TypeId) (x y : Operand) (u : TypeId) (ho : o.op = .binOp .eql t x y u) (hm : P.eqGuardType P.depth t = false) {xs ys : Array Value} (hx : a.eval x = .agg xs) (hy : a.eval y = .agg ys) {b : Bool}
    (he : (Op.equalIn 10000 t (.agg xs) (.agg ys)).run P w = .ok b w) (h : wpList P ops Q rest (a.put o.dst (.bool b)) w) : wpList P ops Q (o :: rest) a w := by
  refine wpList_plain hg fun K hK => ?_
  unfold Oper.wp
  rw [exec_eqlS t x y u ho hm hx hy he]
  exact hK _ _ h
theorem at_neqS {w : World} {ops : Array Oper} {rest : List Oper} {a : Act} {Q : Exit → Act → World → Prop} {d : Option Tmp} {x y : Operand} {v u : TypeId} {p : String} {af : Array Edge} (ty : TypeId)
    (h : wpList P ops Q (⟨d, .binOp .neq ty x y v, u, p, af, none⟩ :: rest) a w) : wpList P ops Q (⟨d, .binOp .neq ty x y v, u, p, af, none⟩ :: rest) a w := h
theorem wpList_neqS {w : World} {ops : Array Oper} {rest : List Oper} {o : Oper} {a : Act} {Q : Exit → Act → World → Prop} (hg : o.guard = none) (t : TypeId) (x y : Operand) (u : TypeId) (ho : o.op = .binOp .neq t x y u) (hm : P.eqGuardType P.depth t = false) {xs ys : Array Value} (hx : a.eval x = .agg xs) (hy : a.eval y = .agg ys) {b : Bool}
    (he : (Op.equalIn 10000 t (.agg xs) (.agg ys)).run P w = .ok b w) (h : wpList P ops Q rest (a.put o.dst (.bool (!b))) w) : wpList P ops Q (o :: rest) a w := by
  refine wpList_plain hg fun K hK => ?_
  unfold Oper.wp
  rw [exec_neqS t x y u ho hm hx hy he]
  exact hK _ _ h
end
end Go.Proofs.Ytmcnhcbibcjgnaa
