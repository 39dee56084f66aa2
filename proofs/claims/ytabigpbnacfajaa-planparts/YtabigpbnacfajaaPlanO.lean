/-
  Layer 7: what Of answers, of any plan; single loads.
-/
import Derived.Test.YtabigpbnacfajaaPlanH
namespace Go.Proofs.Ytabigpbnacfajaa
open Go.RowKit
set_option linter.unusedVariables false

/-- The layout that Of answers. -/
def layO (s t c a : Int) : List Value := if okP s t c a then lay s t c a else lc0
theorem layO_len (s t c a : Int) : (layO s t c a).length = 14 := by unfold layO; split <;> rfl
theorem layO_all (s t c a : Int) : (layO s t c a).toArray.all (·.oneCell') = true := by unfold layO; split <;> exact lcs_all _ _ _ _ _ _ _ _ _ _ _ _ _ _
theorem of_any (w : World) (s t c a : Int) :
    Calls Try.prog 6 #[.agg (pc s t c a).toArray] w fun e w' => e = .returned (.tuple #[.agg (layO s t c a).toArray, .int .i64 (codeP s t c a)]) ∧ Below w.heap.size w w' := by
  cases hok : okP s t c a
  · simp only [layO, codeP, hok]; exact of_no w s t c a hok
  · simp only [layO, codeP, hok]; exact of_yes w s t c a hok
theorem store_layO {w : World} {ops : Array Oper} {rest : List Oper} {o : Oper} {A : Act} {Q : Exit → Act → World → Prop} (hgd : o.guard = none) (x y : Operand) (ho : o.op = .store 25 x y) (g : Nat) (s t c a : Int)
    (hx : A.eval x = .pointer (some ⟨g, 0, none⟩)) (hy : A.eval y = .agg (layO s t c a).toArray) {old : List Value} (hg : RowV w g 25 old) (hold : old.length = 14)
    (h : ∀ w', RowV w' g 25 (layO s t c a) → w.grownBy w' (some g) → w'.heap.size = w.heap.size → wpList Try.prog ops Q rest (A.put o.dst undef) w') : wpList Try.prog ops Q (o :: rest) A w :=
  wpList_store_rowV hgd 25 x y ho g _ hx hy 25 old hg (by rw [List.size_toArray, layO_len]; exact Try.sizeL) (by rw [List.size_toArray, List.size_toArray, hold, layO_len]) (layO_all _ _ _ _) h

section
variable {W : World} {ρ : Operand → Value} {o : Oper}
theorem exec_load_int (x : Operand) (ho : o.op = .load 3 x) (b k : Nat) (hx : ρ x = .pointer (some ⟨b, k, none⟩)) (v : Int) (hc : W.cell? ⟨b, k, none⟩ = some (.int .i64 v)) : (execOp ρ o).run Try.prog W = .ok (.value (.int .i64 v)) W := by
  simp only [execOp, ho, hx]
  go_simp
theorem exec_load_row (ty : TypeId) (x : Operand) (ho : o.op = .load ty x) (b : Nat) (hx : ρ x = .pointer (some ⟨b, 0, none⟩)) {t : TypeId} {cs : List Value} (d : TypeDesc) (hc : RowV W b t cs) (hu : Try.prog.underlying ty = some d) (hd : d.isRow = true) (hi : (Try.prog.info? ty).map (·.size) = some cs.length) :
    (execOp ρ o).run Try.prog W = .ok (.value (.agg cs.toArray)) W :=
  exec_load_mid ty x ho b 0 hx cs d (fun i v hv => by rw [Nat.zero_add]; exact hc.cell hv) hu hd hi
end
end Go.Proofs.Ytabigpbnacfajaa
