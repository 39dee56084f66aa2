/-
  A value of one cell stored into a row whose cells are a list. No program is named here.
-/
import Derived.Test.YtoiphbdmmiikaaaStoreV
namespace Go.Proofs.Ytoiphbdmmiikaaa
open Go.RowKit
set_option linter.unusedVariables false
set_option linter.unusedSimpArgs false

/-- A value of one cell stored into a row. -/
theorem wp_store_slot {P : Program} {o : Oper} {a : Act} {w : World} {K : Act → World → Prop} {Q : Exit → Act → World → Prop} (ty : TypeId) (x y : Operand) (ho : o.op = .store ty x y) (b k : Nat) (hx : a.eval x = .pointer (some ⟨b, k, none⟩)) (v : Value) (hy : a.eval y = v) (h1 : v.oneCell' = true)
    (t : TypeId) (vs : List Value) (hr : RowV w b t vs) (hk : k < vs.length) (hi : (P.info? ty).map (·.size) = some 1)
    (h : ∀ w', RowV w' b t (vs.set k v) → w.grownBy w' (some b) → w'.heap.size = w.heap.size → K (a.put o.dst undef) w') : o.wp P a w K Q := by
  have hc : v.cells = #[v] := by cases v <;> first | rfl | cases h1
  have hst := run_storeCells_cells (P := P) b k [v] 0 w (by intro j hj; simp at hj; subst hj; rw [show k + 0 + 0 = k from rfl, hr.cell (List.getElem?_eq_getElem hk)]; rfl) (by intro j hj; unfold RowV at hr; simp [World.frozen?, hr]) (by intro u hu; simp at hu; subst hu; exact h1)
  obtain ⟨i, hq, hs⟩ : ∃ i, P.info? ty = some i ∧ i.size = 1 := by
    cases hq : P.info? ty with
    | none => simp [hq] at hi
    | some i => exact ⟨i, rfl, by simpa [hq] using hi⟩
  have e : (Instr.storeAt ty (.pointer (some ⟨b, k, none⟩)) v).run P w = .ok () (w.setCell ⟨b, k, none⟩ v) := by
    simp only [Nat.add_zero] at hst
    simp [Instr.storeAt, Instr.sureAddr, storeVar, sizeOf, typeInfo, hq, hc, hs, hst]
    rfl
  unfold Oper.wp execOp
  simp only [ho, hx, hy, Sem.run_bind, e, Result.andThen_ok, Sem.run_pure]
  exact h _ (hr.setCell k v) ⟨rfl, rfl, rfl, by simp [World.setCell], fun j _ hj => Below.heap_setCell _ _ _ _ (fun e => hj (by simp [e]))⟩ (by simp [World.setCell])
theorem wpList_store_slot {P : Program} {ops : Array Oper} {rest : List Oper} {o : Oper} {a : Act} {w : World} {Q : Exit → Act → World → Prop} (hgd : o.guard = none) (ty : TypeId) (x y : Operand) (ho : o.op = .store ty x y) (b k : Nat) (hx : a.eval x = .pointer (some ⟨b, k, none⟩)) (v : Value) (hy : a.eval y = v) (h1 : v.oneCell' = true)
    (t : TypeId) (vs : List Value) (hr : RowV w b t vs) (hk : k < vs.length) (hi : (P.info? ty).map (·.size) = some 1)
    (h : ∀ w', RowV w' b t (vs.set k v) → w.grownBy w' (some b) → w'.heap.size = w.heap.size → wpList P ops Q rest (a.put o.dst undef) w') : wpList P ops Q (o :: rest) a w :=
  wpList_plain hgd fun _ hK => wp_store_slot ty x y ho b k hx v hy h1 t vs hr hk hi fun w' a1 a2 a3 => hK _ _ (h w' a1 a2 a3)
end Go.Proofs.Ytoiphbdmmiikaaa
