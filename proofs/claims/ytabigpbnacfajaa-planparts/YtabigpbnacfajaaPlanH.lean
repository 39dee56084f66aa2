/-
  Layer 7: the walk of the law PlanHomes.
-/
import Derived.Test.YtabigpbnacfajaaPlanW
namespace Go.Proofs.Ytabigpbnacfajaa
open Go.RowKit
set_option linter.unusedVariables false

/-- The parts that are written by a journal. -/
def Nm.home : Nm → Bool
  | .state_ | .map_ | .classes_ | .index_ | .text_ | .clip_ | .audit_ => true
  | _ => false
theorem home_part {x2 x3 x4 x5 x6 x7 x8 : Int} (h2 : 5 ≤ x2) (h3 : x2 ≤ x3) (h4 : x3 ≤ x4) (h5 : x4 ≤ x5) (h6 : x5 < x6) (h7 : x6 ≤ x7) (h8 : x7 ≤ x8) (at_ : Int) :
    decide (2 ≤ at_ ∧ at_ < x5) = (partN x2 x3 x4 x5 x6 x7 x8 at_).home := by
  rw [partN]
  by_cases k0 : at_ < 0
  · rw [if_pos k0]; exact decide_eq_false (by omega)
  rw [if_neg k0]
  by_cases k1 : x8 ≤ at_
  · rw [if_pos k1]; exact decide_eq_false (by omega)
  rw [if_neg k1]
  by_cases k2 : at_ < 2
  · rw [if_pos k2]; exact decide_eq_false (by omega)
  rw [if_neg k2]
  by_cases k3 : at_ < 3
  · rw [if_pos k3]; exact decide_eq_true (by omega)
  rw [if_neg k3]
  by_cases k4 : at_ < 4
  · rw [if_pos k4]; exact decide_eq_true (by omega)
  rw [if_neg k4]
  by_cases k5 : at_ < 5
  · rw [if_pos k5]; exact decide_eq_true (by omega)
  rw [if_neg k5]
  by_cases k6 : at_ < x2
  · rw [if_pos k6]; exact decide_eq_true (by omega)
  rw [if_neg k6]
  by_cases k7 : at_ < x3
  · rw [if_pos k7]; exact decide_eq_true (by omega)
  rw [if_neg k7]
  by_cases k8 : at_ < x4
  · rw [if_pos k8]; exact decide_eq_true (by omega)
  rw [if_neg k8]
  by_cases k9 : at_ < x5
  · rw [if_pos k9]; exact decide_eq_true (by omega)
  rw [if_neg k9]
  by_cases k10 : at_ < x6
  · rw [if_pos k10]; exact decide_eq_false (by omega)
  rw [if_neg k10]
  by_cases k11 : at_ < x7
  · rw [if_pos k11]; exact decide_eq_false (by omega)
  rw [if_neg k11]
  exact decide_eq_false (by omega)

set_option maxRecDepth 100000 in
set_option maxHeartbeats 4000000 in
theorem homes_any (w : World) (s t c a at_ : Int) :
    Calls Try.prog 5 #[.agg (pc s t c a).toArray, .int .i64 at_] w fun e w' => e = .returned (.bool true) ∧ Below w.heap.size w w' := by
  go_enter Try.func5, Try.ntmps5
  go_wp2_with ((with_reducible refine at_box 23 ?_); refine wpList_box_rowV rfl 23 _ rfl (pc s t c a) rfl ?_)
  intro w1 hr1 hb1 hz1
  go_wp2_with ((with_reducible refine at_load 23 ?_); refine load_plan rfl _ rfl w.heap.size rfl hr1 ?_)
  cases hok : okP s t c a
  · refine (of_no _ _ _ _ _ hok).mono ?_
    rintro e w2 ⟨rfl, hb2⟩
    have hB2 : Below w.heap.size w w2 := hb1.trans (hb2.mono (by omega))
    have hz2 := hB2.size
    clear hr1 hb1 hz1 hb2
    go_wp2_with ((with_reducible refine at_alloc 25 ?_); refine wpList_alloc_rowV rfl 25 rfl lc0 Try.zeroL ?_)
    intro w3 hr3 hb3 hz3
    generalize hN2 : w2.heap.size = N2 at *
    go_wp2_with ((with_reducible refine at_store 25 ?_); refine store_lay rfl _ _ rfl N2 _ _ _ _ _ _ _ _ _ _ _ _ _ _ rfl rfl hr3 rfl ?_)
    intro w4 hr4 hg4 hz4
    have hB4 : Below w.heap.size w w4 := below_grown (hB2.trans (hb3.mono (by omega))) hg4 (by omega) (by omega)
    go_wp2_with fail
    refine (works_any _).mono ?_
    rintro e w5 ⟨rfl, hb5⟩
    have hB5 : Below w.heap.size w w5 := hB4.trans (hb5.mono (by have := hB4.size; omega))
    go_wp2_with fail
    go_ret
    exact ⟨rfl, hB5⟩
  · obtain ⟨⟨hs1, hs2⟩, ⟨ht1, ht2⟩, ⟨hc1, hc2⟩, ha1, ha2⟩ := okP_iff.1 hok
    refine (of_yes _ _ _ _ _ hok).mono ?_
    rintro e w2 ⟨rfl, hb2⟩
    have hB2 : Below w.heap.size w w2 := hb1.trans (hb2.mono (by omega))
    have hz2 := hB2.size
    clear hr1 hb1 hz1 hb2
    obtain ⟨n, hn⟩ : ∃ n, n = idx s := ⟨_, rfl⟩
    have hn1 : 1 ≤ n := by rw [hn]; unfold idx; omega
    have hlay : lay s t c a = lcs s t c a 5 (5 + n) (5 + n + t) (5 + n + t + c) (5 + n + t + c + a) (5 + n + t + c + a + 1) (5 + n + t + c + a + 1 + (n + t + 9)) (5 + n + t + c + a + 1 + (n + t + 9) + s) (n * 6) (n + t + 9) := by rw [hn]; rfl
    rw [hlay]
    clear hlay hn
    have hH := home_part (x2 := 5 + n) (x3 := 5 + n + t) (x4 := 5 + n + t + c) (x5 := 5 + n + t + c + a) (x6 := 5 + n + t + c + a + 1) (x7 := 5 + n + t + c + a + 1 + (n + t + 9)) (x8 := 5 + n + t + c + a + 1 + (n + t + 9) + s) (by omega) (by omega) (by omega) (by omega) (by omega) (by omega) (by omega) at_
    generalize 5 + n + t + c + a + 1 + (n + t + 9) + s = x8 at *
    generalize 5 + n + t + c + a + 1 + (n + t + 9) = x7 at *
    generalize 5 + n + t + c + a + 1 = x6 at *
    generalize 5 + n + t + c + a = x5 at *
    generalize 5 + n + t + c = x4 at *
    generalize 5 + n + t = x3 at *
    generalize 5 + n = x2 at *
    generalize n * 6 = x9 at *
    generalize n + t + 9 = x10 at *
    clear hok hs1 hs2 ht1 ht2 hc1 hc2 ha1 ha2 hn1
    generalize hnm : partN x2 x3 x4 x5 x6 x7 x8 at_ = nm at *
    have Hn := Lib.hid hnm
    have HH := Lib.hid hH
    clear hnm hH
    go_wp2_with ((with_reducible refine at_alloc 25 ?_); refine wpList_alloc_rowV rfl 25 rfl lc0 Try.zeroL ?_)
    intro w3 hr3 hb3 hz3
    generalize hN2 : w2.heap.size = N2 at *
    go_wp2_with ((with_reducible refine at_store 25 ?_); refine store_lay rfl _ _ rfl N2 _ _ _ _ _ _ _ _ _ _ _ _ _ _ rfl rfl hr3 rfl ?_)
    intro w4 hr4 hg4 hz4
    have hB4 : Below w.heap.size w w4 := below_grown (hB2.trans (hb3.mono (by omega))) hg4 (by omega) (by omega)
    have hz4' : N2 < w4.heap.size := by omega
    clear hb3 hz3 hr3 hg4 hz4 hB2 hz2
    go_wp2_with ((with_reducible refine at_load 25 ?_); refine load_lay rfl _ rfl N2 rfl hr4 ?_)
    refine (part_any _ _ _ _ _ _ _ _ _ _ _ _ _ _ _ _).mono ?_
    rintro e w5 ⟨rfl, hb5⟩
    have hr5 := hr4.below hz4' hb5
    have hB5 : Below w.heap.size w w5 := hB4.trans (hb5.mono hB4.size)
    have hz5 : N2 < w5.heap.size := by have := hb5.size; omega
    rw [Hn.out]
    clear hr4 hB4 hz4' hb5
    go_wp2_with ((with_reducible refine at_load 25 ?_); refine load_lay rfl _ rfl N2 rfl hr5 ?_)
    refine (home_any _ _ _ _ _ _ _ _ _ _ _ _ _ _ _ _).mono ?_
    rintro e w6 ⟨rfl, hb6⟩
    have hB6 : Below w.heap.size w w6 := hB5.trans (hb6.mono hB5.size)
    rw [HH.out]
    clear hr5 hB5 hz5 hb6 Hn HH
    cases nm
    all_goals (
      simp only [Nm.v, Nm.b, Nm.home]
      go_wp2_with fail
      refine (works_any _).mono ?_
      rintro e w7 ⟨rfl, hb7⟩
      have hB7 : Below w.heap.size w w7 := hB6.trans (hb7.mono hB6.size)
      go_wp2_with fail
      go_ret
      exact ⟨rfl, hB7⟩)
end Go.Proofs.Ytabigpbnacfajaa
