/-
  A text's descriptor that came in (a struct by value with a slice inside), as the walks ask for it.
-/
import Derived.Test.YtkfhbngphkobfaaPkAdrIn
import Derived.Test.YtkfhbngphkobfaaPkOpenV
import Derived.Test.YtkfhbngphkobfaaPkLefA
namespace Go.Proofs.Ytkfhbngphkobfaa
open Go.ChangeShapes Go.WideShapes Go.ChangeAt Go.RowKit
set_option linter.unusedVariables false
set_option maxRecDepth 100000

section
variable {H : Type} {enc : TypeId × Value → H} {W : World}
/-- Slots that came in. -/
theorem slots_in {fuel : Nat} {cs : List Value} {x : DataW H × List MemPlace} (h : DataW.trod enc Try.prog W 0 (fun _ => true) true fuel 23 cs = some x) :
    ∃ (A : Option Addr) (c : Nat) (l : List Int), cs = [.slice A l.length c] ∧ l.length ≤ c ∧ LiesV W W.heap.size A (slv l) := by
  rcases open_ints Try.underlying23 Try.underlying3 (by kernel_rfl) h with ⟨hcs, _⟩ | ⟨a, len, cap, zs, hcs, _, hl, hm, hz, _, hcell, hw⟩
  · exact ⟨none, 0, [], hcs, Nat.le_refl _, LiesV.nil _ _ _⟩
  · obtain ⟨xs, hx, hc, _, _, hl'⟩ := row_ints (k := .i64) (a := some a) (len := len) (cap := cap) (zs := zs) (.inr ⟨a, rfl, hl, hm, by simpa using hz, hcell, hw⟩)
    subst hx
    exact ⟨some a, cap, xs, hcs, hc, hl'⟩
/-- A descriptor that came in. -/
theorem tx_of {fuel : Nat} {cs : List Value} {x : DataW H × List MemPlace} (h : DataW.trod enc Try.prog W 0 (fun _ => true) true fuel 25 cs = some x) : ∃ (t : Tx) (A : Option Addr) (c : Nat), cs = txc t A c ∧ LiesV W W.heap.size A (slv t.slots) ∧ t.slots.length ≤ c := by
  obtain ⟨xs, n, _, _, hlen, hxl, hf⟩ := DataW.trod_struct Try.underlying25 h
  have h35 : cs.length = 35 := hlen.trans (by kernel_rfl)
  have hx4 : xs.length = 4 := hxl
  match xs, hx4 with
  | [y0, y1, y2, y3], _ =>
    have k3 : Try.prog.cellsOf 3 = 1 := by kernel_rfl
    have ka : Try.prog.cellsOf 22 = 32 := by kernel_rfl
    have ks : Try.prog.cellsOf 23 = 1 := by kernel_rfl
    have e0 : DataW.trod enc Try.prog W 0 (fun _ => true) true n 22 (List.take (Try.prog.cellsOf 22) (cs.drop 0)) = some y0 := hf 0 _ rfl
    have e1 : DataW.trod enc Try.prog W 0 (fun _ => true) true n 3 (List.take (Try.prog.cellsOf 3) (cs.drop 32)) = some y1 := hf 1 _ rfl
    have e2 : DataW.trod enc Try.prog W 0 (fun _ => true) true n 23 (List.take (Try.prog.cellsOf 23) (cs.drop 33)) = some y2 := hf 2 _ rfl
    have e3 : DataW.trod enc Try.prog W 0 (fun _ => true) true n 3 (List.take (Try.prog.cellsOf 3) (cs.drop 34)) = some y3 := hf 3 _ rfl
    rw [k3] at e1 e3
    rw [ka] at e0
    rw [ks] at e2
    obtain ⟨a, ha⟩ := adr_cells e0
    obtain ⟨z1, h1, _, _⟩ := DataW.trod_int Try.underlying3 e1
    obtain ⟨A, c, l, h2, hlc, hl⟩ := slots_in e2
    obtain ⟨z3, h3, _, _⟩ := DataW.trod_int Try.underlying3 e3
    refine ⟨⟨a, z1, l, z3⟩, A, c, ?_, hl, hlc⟩
    rw [List.drop_zero] at ha
    have s1 : cs = cs.take 32 ++ ((cs.drop 32).take 1 ++ ((cs.drop 33).take 1 ++ (cs.drop 34).take 1)) := by
      have t1 : cs.drop 32 = (cs.drop 32).take 1 ++ (cs.drop 32).drop 1 := (List.take_append_drop 1 _).symm
      have t2 : (cs.drop 32).drop 1 = (cs.drop 33).take 1 ++ (cs.drop 33).drop 1 := by rw [List.drop_drop]; exact (List.take_append_drop 1 _).symm
      have t3 : (cs.drop 33).drop 1 = (cs.drop 34).take 1 := by rw [List.drop_drop, List.take_of_length_le (by rw [List.length_drop]; omega)]
      conv => lhs; rw [← List.take_append_drop 32 cs, t1, t2, t3]
    rw [s1, ha, h1, h2, h3]
    rfl
theorem txv_of {fuel : Nat} {v : Value} {x : DataW H × List MemPlace} (h : DataW.trod enc Try.prog W 0 (fun _ => true) true fuel 25 v.cells.toList = some x) : ∃ (t : Tx) (A : Option Addr) (c : Nat), v = .agg (txc t A c).toArray ∧ LiesV W W.heap.size A (slv t.slots) ∧ t.slots.length ≤ c := by
  obtain ⟨t, A, c, he, hl, hc⟩ := tx_of h
  refine ⟨t, A, c, ?_, hl, hc⟩
  have hlen : v.cells.toList.length = 35 := by rw [he, txc_length]
  cases v with
  | agg cs =>
    show Value.agg cs = _
    congr 1
    rw [← he]
    exact Array.toArray_toList.symm
  | _ => simp [Value.cells] at hlen
end
end Go.Proofs.Ytkfhbngphkobfaa
