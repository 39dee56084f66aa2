/-
  Layer 7: the contracts of the reference's right and Check.
-/
import Derived.Test.YtoiphbdmmiikaaaPlanA
namespace Go.Proofs.Ytoiphbdmmiikaaa
open Go.RowKit
set_option linter.unusedVariables false

set_option maxRecDepth 100000 in
set_option maxHeartbeats 4000000 in
theorem rright_any (w : World) (s t c a : Int) :
    Calls Try.prog 38 #[.agg (pc s t c a).toArray] w fun e w' => e = .returned (.bool (okP s t c a)) ∧ Below w.heap.size w w' := by
  go_enter Try.func38, Try.ntmps38
  go_wp2_with ((with_reducible refine at_box 23 ?_); refine wpList_box_rowV rfl 23 _ rfl (pc s t c a) rfl ?_)
  intro w1 hr1 hb1 hs1
  have c0 := hr1.cell (i := 0) rfl
  have c1 := hr1.cell (i := 1) rfl
  have c2 := hr1.cell (i := 2) rfl
  have c3 := hr1.cell (i := 3) rfl
  by_cases h0 : 1 ≤ s
  · have h0g := h0
    by_cases h1 : s ≤ 200
    · have h1g := h1
      by_cases h2 : 1 ≤ t
      · have h2g := h2
        by_cases h3 : t ≤ 40
        · have h3g := h3
          by_cases h4 : 1 ≤ c
          · have h4g := h4
            by_cases h5 : c ≤ 40
            · have h5g := h5
              by_cases h6 : 1 ≤ a
              · have h6g := h6
                by_cases h7 : a ≤ 80
                · have h7g := h7
                  go_wp2_with fail
                  go_ret
                  exact ⟨by rw [okP_iff.2 (by omega)]; rfl, hb1⟩
                · have h7g : 80 < a := by omega
                  go_wp2_with fail
                  go_ret
                  exact ⟨by rw [Bool.eq_false_iff.2 (fun h => absurd (okP_iff.1 h) (by omega))]; rfl, hb1⟩
              · have h6g : a < 1 := by omega
                go_wp2_with fail
                go_ret
                exact ⟨by rw [Bool.eq_false_iff.2 (fun h => absurd (okP_iff.1 h) (by omega))]; rfl, hb1⟩
            · have h5g : 40 < c := by omega
              go_wp2_with fail
              go_ret
              exact ⟨by rw [Bool.eq_false_iff.2 (fun h => absurd (okP_iff.1 h) (by omega))]; rfl, hb1⟩
          · have h4g : c < 1 := by omega
            go_wp2_with fail
            go_ret
            exact ⟨by rw [Bool.eq_false_iff.2 (fun h => absurd (okP_iff.1 h) (by omega))]; rfl, hb1⟩
        · have h3g : 40 < t := by omega
          go_wp2_with fail
          go_ret
          exact ⟨by rw [Bool.eq_false_iff.2 (fun h => absurd (okP_iff.1 h) (by omega))]; rfl, hb1⟩
      · have h2g : t < 1 := by omega
        go_wp2_with fail
        go_ret
        exact ⟨by rw [Bool.eq_false_iff.2 (fun h => absurd (okP_iff.1 h) (by omega))]; rfl, hb1⟩
    · have h1g : 200 < s := by omega
      go_wp2_with fail
      go_ret
      exact ⟨by rw [Bool.eq_false_iff.2 (fun h => absurd (okP_iff.1 h) (by omega))]; rfl, hb1⟩
  · have h0g : s < 1 := by omega
    go_wp2_with fail
    go_ret
    exact ⟨by rw [Bool.eq_false_iff.2 (fun h => absurd (okP_iff.1 h) (by omega))]; rfl, hb1⟩

set_option maxRecDepth 100000 in
set_option maxHeartbeats 4000000 in
theorem rcheck_any (w : World) (s t c a : Int) :
    Calls Try.prog 23 #[.agg (pc s t c a).toArray] w fun e w' => e = .returned (.int .i64 (codeP s t c a)) ∧ Below w.heap.size w w' := by
  go_enter Try.func23, Try.ntmps23
  go_wp2_with ((with_reducible refine at_box 23 ?_); refine wpList_box_rowV rfl 23 _ rfl (pc s t c a) rfl ?_)
  intro w1 hr1 hb1 hs1
  go_wp2_with ((with_reducible refine at_load 23 ?_); refine wpList_load_row rfl 23 _ rfl (w.heap.size) rfl 23 (pc s t c a).toArray (0, 0) _ hr1 Try.underlying23 rfl (pc_size _ _ _ _) ?_)
  refine (rright_any _ _ _ _ _).mono ?_
  rintro e w2 ⟨rfl, hb2⟩
  have hb : Below w.heap.size w w2 := hb1.trans (hb2.mono (by omega))
  cases hok : okP s t c a
  · go_wp2_with fail
    go_ret
    exact ⟨by rw [codeP, hok]; rfl, hb⟩
  · go_wp2_with fail
    go_ret
    exact ⟨by rw [codeP, hok]; rfl, hb⟩
end Go.Proofs.Ytoiphbdmmiikaaa
