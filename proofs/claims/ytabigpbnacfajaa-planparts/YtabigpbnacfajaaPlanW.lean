/-
  Layer 7: the contract of works: the fixed examples.
-/
import Derived.Test.YtabigpbnacfajaaPlanD
namespace Go.Proofs.Ytabigpbnacfajaa
open Go.RowKit
set_option linter.unusedVariables false

def exL : List Value := lcs 10 4 3 5 5 9 13 16 21 22 39 49 24 17
theorem lay_ex : lay 10 4 3 5 = exL := by rfl
theorem of_ex (w : World) : Calls Try.prog 6 #[.agg (pc 10 4 3 5).toArray] w fun e w' => e = .returned (.tuple #[.agg exL.toArray, .int .i64 0]) ∧ Below w.heap.size w w' := by
  rw [← lay_ex]; exact of_yes w 10 4 3 5 rfl
theorem of_ex0 (w : World) : Calls Try.prog 6 #[.agg (pc 10 0 0 0).toArray] w fun e w' => e = .returned (.tuple #[.agg lc0.toArray, .int .i64 2]) ∧ Below w.heap.size w w' := of_no w 10 0 0 0 rfl
theorem check_ex (w : World) : Calls Try.prog 8 #[.agg (pc 0 0 0 0).toArray] w fun e w' => e = .returned (.int .i64 2) ∧ Below w.heap.size w w' := pcheck_any w 0 0 0 0
theorem part_ex (w : World) (at_ : Int) (v : Value) (h : (partN 9 13 16 21 22 39 49 at_).v = v) : Calls Try.prog 14 #[.agg exL.toArray, .int .i64 at_] w fun e w' => e = .returned v ∧ Below w.heap.size w w' := by
  rw [← h]; exact part_any w 10 4 3 5 5 9 13 16 21 22 39 49 24 17 at_

theorem home_ex (w : World) (at_ : Int) (b : Bool) (h : decide (2 ≤ at_ ∧ at_ < 21) = b) : Calls Try.prog 16 #[.agg exL.toArray, .int .i64 at_] w fun e w' => e = .returned (.bool b) ∧ Below w.heap.size w w' := by
  rw [← h]; exact home_any w 10 4 3 5 5 9 13 16 21 22 39 49 24 17 at_
theorem same_ex (w : World) : Calls Try.prog 15 #[.agg exL.toArray, .agg exL.toArray] w fun e w' => e = .returned (.bool true) ∧ Below w.heap.size w w' :=
  same_any w 10 4 3 5 5 9 13 16 21 22 39 49 24 17 10 4 3 5 5 9 13 16 21 22 39 49 24 17
theorem ex_cells {w : World} {g : Nat} {t : TypeId} (h : RowV w g t exL) : w.cell? ⟨g, 0, none⟩ = some (.int .i64 10) ∧ w.cell? ⟨g, 1, none⟩ = some (.int .i64 4) ∧ w.cell? ⟨g, 2, none⟩ = some (.int .i64 3) ∧ w.cell? ⟨g, 3, none⟩ = some (.int .i64 5) ∧ w.cell? ⟨g, 4, none⟩ = some (.int .i64 5) ∧ w.cell? ⟨g, 5, none⟩ = some (.int .i64 9) ∧ w.cell? ⟨g, 6, none⟩ = some (.int .i64 13) ∧ w.cell? ⟨g, 7, none⟩ = some (.int .i64 16) ∧ w.cell? ⟨g, 8, none⟩ = some (.int .i64 21) ∧ w.cell? ⟨g, 9, none⟩ = some (.int .i64 22) ∧ w.cell? ⟨g, 10, none⟩ = some (.int .i64 39) ∧ w.cell? ⟨g, 11, none⟩ = some (.int .i64 49) ∧ w.cell? ⟨g, 12, none⟩ = some (.int .i64 24) ∧ w.cell? ⟨g, 13, none⟩ = some (.int .i64 17) :=
  ⟨h.cell (i := 0) rfl, h.cell (i := 1) rfl, h.cell (i := 2) rfl, h.cell (i := 3) rfl, h.cell (i := 4) rfl, h.cell (i := 5) rfl, h.cell (i := 6) rfl, h.cell (i := 7) rfl, h.cell (i := 8) rfl, h.cell (i := 9) rfl, h.cell (i := 10) rfl, h.cell (i := 11) rfl, h.cell (i := 12) rfl, h.cell (i := 13) rfl⟩

set_option maxRecDepth 100000 in
set_option maxHeartbeats 4000000 in
theorem works_any (w : World) : Calls Try.prog 9 #[] w fun e w' => e = .returned (.bool true) ∧ Below w.heap.size w w' := by
  go_enter Try.func9, Try.ntmps9
  go_wp2_with fail
  refine (of_ex _).mono ?_
  rintro e w1 ⟨rfl, hb1⟩
  have hz1 := hb1.size
  go_wp2_with ((with_reducible refine at_alloc 25 ?_); refine wpList_alloc_rowV rfl 25 rfl lc0 Try.zeroL ?_)
  intro w2 hr2 hb2 hz2
  go_wp2_with ((with_reducible refine at_store 25 ?_); refine store_lay rfl _ _ rfl _ _ _ _ _ _ _ _ _ _ _ _ _ _ _ rfl rfl hr2 rfl ?_)
  intro w3 hr3 hg3 hz3
  have hB3 : Below w.heap.size w w3 := below_grown (hb1.trans (hb2.mono (by omega))) hg3 (by omega) (by omega)
  generalize hN1 : w1.heap.size = N1 at *
  have hz3' : N1 < w3.heap.size := by omega
  clear hb1 hz1 hr2 hb2 hz2 hg3 hz3
  go_wp2_with fail
  refine (of_ex0 _).mono ?_
  rintro e w4 ⟨rfl, hb4⟩
  have hz4 := hb4.size
  have hr4 := hr3.below (by omega) hb4
  have hB4 : Below w.heap.size w w4 := hB3.trans (hb4.mono (by have := hB3.size; omega))
  go_wp2_with ((with_reducible refine at_alloc 25 ?_); refine wpList_alloc_rowV rfl 25 rfl lc0 Try.zeroL ?_)
  intro w5 hr5 hb5 hz5
  have hr15 := hr4.below (by omega) hb5
  have hB5 : Below w.heap.size w w5 := hB4.trans (hb5.mono (by have := hB4.size; omega))
  generalize hN4 : w4.heap.size = N4 at *
  go_wp2_with ((with_reducible refine at_store 25 ?_); refine store_lay rfl _ _ rfl N4 _ _ _ _ _ _ _ _ _ _ _ _ _ _ rfl rfl hr5 rfl ?_)
  intro w6 hr6 hg6 hz6
  have hr := hr15.keep hg6 (fun e => by injection e with e; omega)
  have hB : Below w.heap.size w w6 := below_grown hB5 hg6 (by have := hB4.size; omega) (by have := hB5.size; omega)
  have hz : N1 < w6.heap.size := by omega
  clear hr3 hB3 hz3' hr4 hb4 hz4 hB4 hr5 hb5 hz5 hr15 hB5 hr6 hg6 hz6
  have hz' := hB.size
  obtain ⟨c0, c1, c2, c3, c4, c5, c6, c7, c8, c9, c10, c11, c12, c13⟩ := ex_cells hr
  go_wp2_with fail
  refine (part_ex _ 21 (.string ⟨#[104, 101, 97, 100]⟩) rfl).mono ?_
  rintro e w7 ⟨rfl, hb7⟩
  have hr7 := hr.below hz hb7
  have hB7 : Below w.heap.size w w7 := hB.trans (hb7.mono hz')
  have hy7 : N1 < w7.heap.size := by have := hb7.size; omega
  clear hr hB hz hz' c0 c1 c2 c3 c4 c5 c6 c7 c8 c9 c10 c11 c12 c13 hb7
  have hr := hr7
  have hB := hB7
  have hz := hy7
  have hz' := hB.size
  clear hr7 hB7 hy7
  obtain ⟨c0, c1, c2, c3, c4, c5, c6, c7, c8, c9, c10, c11, c12, c13⟩ := ex_cells hr
  go_wp2_with fail
  refine (part_ex _ 49 (.string ⟨#[]⟩) rfl).mono ?_
  rintro e w8 ⟨rfl, hb8⟩
  have hr8 := hr.below hz hb8
  have hB8 : Below w.heap.size w w8 := hB.trans (hb8.mono hz')
  have hy8 : N1 < w8.heap.size := by have := hb8.size; omega
  clear hr hB hz hz' c0 c1 c2 c3 c4 c5 c6 c7 c8 c9 c10 c11 c12 c13 hb8
  have hr := hr8
  have hB := hB8
  have hz := hy8
  have hz' := hB.size
  clear hr8 hB8 hy8
  obtain ⟨c0, c1, c2, c3, c4, c5, c6, c7, c8, c9, c10, c11, c12, c13⟩ := ex_cells hr
  go_wp2_with fail
  refine (home_ex _ 20 true (by decide)).mono ?_
  rintro e w9 ⟨rfl, hb9⟩
  have hr9 := hr.below hz hb9
  have hB9 : Below w.heap.size w w9 := hB.trans (hb9.mono hz')
  have hy9 : N1 < w9.heap.size := by have := hb9.size; omega
  clear hr hB hz hz' c0 c1 c2 c3 c4 c5 c6 c7 c8 c9 c10 c11 c12 c13 hb9
  have hr := hr9
  have hB := hB9
  have hz := hy9
  have hz' := hB.size
  clear hr9 hB9 hy9
  obtain ⟨c0, c1, c2, c3, c4, c5, c6, c7, c8, c9, c10, c11, c12, c13⟩ := ex_cells hr
  go_wp2_with fail
  refine (home_ex _ 21 false (by decide)).mono ?_
  rintro e w10 ⟨rfl, hb10⟩
  have hr10 := hr.below hz hb10
  have hB10 : Below w.heap.size w w10 := hB.trans (hb10.mono hz')
  have hy10 : N1 < w10.heap.size := by have := hb10.size; omega
  clear hr hB hz hz' c0 c1 c2 c3 c4 c5 c6 c7 c8 c9 c10 c11 c12 c13 hb10
  have hr := hr10
  have hB := hB10
  have hz := hy10
  have hz' := hB.size
  clear hr10 hB10 hy10
  obtain ⟨c0, c1, c2, c3, c4, c5, c6, c7, c8, c9, c10, c11, c12, c13⟩ := ex_cells hr
  go_wp2_with fail
  refine (bound_any _ 10 4 3 5 5 9 13 16 21 22 39 49 24 17 (by decide) (by decide)).mono ?_
  rintro e w11 ⟨rfl, hb11⟩
  have hr11 := hr.below hz hb11
  have hB11 : Below w.heap.size w w11 := hB.trans (hb11.mono hz')
  have hy11 : N1 < w11.heap.size := by have := hb11.size; omega
  clear hr hB hz hz' c0 c1 c2 c3 c4 c5 c6 c7 c8 c9 c10 c11 c12 c13 hb11
  have hr := hr11
  have hB := hB11
  have hz := hy11
  have hz' := hB.size
  clear hr11 hB11 hy11
  obtain ⟨c0, c1, c2, c3, c4, c5, c6, c7, c8, c9, c10, c11, c12, c13⟩ := ex_cells hr
  go_wp2_with fail
  refine (same_ex _).mono ?_
  rintro e w12 ⟨rfl, hb12⟩
  have hr12 := hr.below hz hb12
  have hB12 : Below w.heap.size w w12 := hB.trans (hb12.mono hz')
  have hy12 : N1 < w12.heap.size := by have := hb12.size; omega
  clear hr hB hz hz' c0 c1 c2 c3 c4 c5 c6 c7 c8 c9 c10 c11 c12 c13 hb12
  have hr := hr12
  have hB := hB12
  have hz := hy12
  have hz' := hB.size
  clear hr12 hB12 hy12
  obtain ⟨c0, c1, c2, c3, c4, c5, c6, c7, c8, c9, c10, c11, c12, c13⟩ := ex_cells hr
  go_wp2_with fail
  refine (check_ex _).mono ?_
  rintro e w13 ⟨rfl, hb13⟩
  have hr13 := hr.below hz hb13
  have hB13 : Below w.heap.size w w13 := hB.trans (hb13.mono hz')
  have hy13 : N1 < w13.heap.size := by have := hb13.size; omega
  clear hr hB hz hz' c0 c1 c2 c3 c4 c5 c6 c7 c8 c9 c10 c11 c12 c13 hb13
  have hr := hr13
  have hB := hB13
  have hz := hy13
  have hz' := hB.size
  clear hr13 hB13 hy13
  obtain ⟨c0, c1, c2, c3, c4, c5, c6, c7, c8, c9, c10, c11, c12, c13⟩ := ex_cells hr
  go_wp2_with fail
  go_ret
  exact ⟨rfl, hB⟩
end Go.Proofs.Ytabigpbnacfajaa
