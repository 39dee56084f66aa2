/-
  The walk of the law RealOrders.
-/
import Derived.Test.YtancncclgeomeaaWorks4
namespace Go.Proofs.Ytancncclgeomeaa
open Go.RowKit
set_option linter.unusedVariables false

theorem cmpR_three (a b : Nat) : cmpR a b = -1 ∨ cmpR a b = 0 ∨ cmpR a b = 1 := by
  unfold cmpR
  split
  · exact .inl rfl
  · split
    · exact .inr (.inl rfl)
    · exact .inr (.inr rfl)

set_option maxHeartbeats 1000000 in
set_option maxRecDepth 100000 in
theorem orders_any (a b c : Nat) (ha : a < 18446744073709551616) (hb : b < 18446744073709551616) (hc : c < 18446744073709551616) (w : World) :
    Calls Try.prog 4 #[.int .u64 (a : Int), .int .u64 (b : Int), .int .u64 (c : Int)] w fun e w' => e = .returned (.bool true) ∧ Below w.heap.size w w' := by
  have hx := run_ofBits
  have c1 := fun w => compareF_any a b ha hb w
  have c2 := fun w => compareF_any b c hb hc w
  have c3 := fun w => compareF_any a c ha hc w
  have c4 := fun w => rcompare_any a b ha hb w
  have c5 := fun w => compareF_any b a hb ha w
  have c6 := fun w => sameF_any a b w
  have c7 := fun w => rsame_any a b w
  have ht : cmpR a b ≤ 0 → cmpR b c ≤ 0 → cmpR a c ≤ 0 := cmpR_trans
  have hz := (cmpR_zero ha hb).symm
  have hneg := cmpR_neg b a
  have h3 := cmpR_three a b
  rw [hz] at c6 c7
  rw [hneg] at c5
  generalize cmpR a b = P at *
  generalize cmpR b c = Q at *
  generalize cmpR a c = R at *
  clear hz hneg
  have C1 := Lib.hid c1
  have C2 := Lib.hid c2
  have C3 := Lib.hid c3
  have C4 := Lib.hid c4
  have C5 := Lib.hid c5
  have C6 := Lib.hid c6
  have C7 := Lib.hid c7
  have Ht := Lib.hid ht
  clear c1 c2 c3 c4 c5 c6 c7 ht
  rcases h3 with rfl | rfl | rfl
  · have hq : decide (0 < Q) = true ∨ (decide (0 < Q) = false ∧ decide (R ≤ 0) = true) := by
      by_cases h : 0 < Q
      · exact .inl (decide_eq_true h)
      · exact .inr ⟨decide_eq_false h, decide_eq_true (Ht.out (by decide) (by omega))⟩
    clear Ht
    go_enter Try.func4, Try.ntmps4
    go_wp2_with fail
    refine (C1.out w).mono ?_
    rintro e w1 ⟨rfl, rfl⟩
    go_wp2_with fail
    refine (C2.out w).mono ?_
    rintro e w1 ⟨rfl, rfl⟩
    go_wp2_with fail
    refine (C3.out w).mono ?_
    rintro e w1 ⟨rfl, rfl⟩
    go_wp2_with fail
    refine (C4.out w).mono ?_
    rintro e w1 ⟨rfl, rfl⟩
    go_wp2_with fail
    refine (C5.out w).mono ?_
    rintro e w1 ⟨rfl, rfl⟩
    go_wp2_with fail
    refine (C6.out w).mono ?_
    rintro e w1 ⟨rfl, rfl⟩
    go_wp2_with fail
    refine (C6.out w).mono ?_
    rintro e w1 ⟨rfl, rfl⟩
    go_wp2_with fail
    refine (C7.out w).mono ?_
    rintro e w1 ⟨rfl, rfl⟩
    rcases hq with h1 | ⟨h1, h2⟩
    · go_wp2_with fail
      refine (works04_any w).mono ?_
      rintro e w1 ⟨rfl, hb1⟩
      go_wp2
      go_ret
      exact ⟨rfl, hb1⟩
    · go_wp2_with fail
      refine (works04_any w).mono ?_
      rintro e w1 ⟨rfl, hb1⟩
      go_wp2
      go_ret
      exact ⟨rfl, hb1⟩
  · have hq : decide (0 < Q) = true ∨ (decide (0 < Q) = false ∧ decide (R ≤ 0) = true) := by
      by_cases h : 0 < Q
      · exact .inl (decide_eq_true h)
      · exact .inr ⟨decide_eq_false h, decide_eq_true (Ht.out (by decide) (by omega))⟩
    clear Ht
    go_enter Try.func4, Try.ntmps4
    go_wp2_with fail
    refine (C1.out w).mono ?_
    rintro e w1 ⟨rfl, rfl⟩
    go_wp2_with fail
    refine (C2.out w).mono ?_
    rintro e w1 ⟨rfl, rfl⟩
    go_wp2_with fail
    refine (C3.out w).mono ?_
    rintro e w1 ⟨rfl, rfl⟩
    go_wp2_with fail
    refine (C4.out w).mono ?_
    rintro e w1 ⟨rfl, rfl⟩
    go_wp2_with fail
    refine (C5.out w).mono ?_
    rintro e w1 ⟨rfl, rfl⟩
    go_wp2_with fail
    refine (C6.out w).mono ?_
    rintro e w1 ⟨rfl, rfl⟩
    go_wp2_with fail
    refine (C6.out w).mono ?_
    rintro e w1 ⟨rfl, rfl⟩
    go_wp2_with fail
    refine (C7.out w).mono ?_
    rintro e w1 ⟨rfl, rfl⟩
    rcases hq with h1 | ⟨h1, h2⟩
    · go_wp2_with fail
      refine (works04_any w).mono ?_
      rintro e w1 ⟨rfl, hb1⟩
      go_wp2
      go_ret
      exact ⟨rfl, hb1⟩
    · go_wp2_with fail
      refine (works04_any w).mono ?_
      rintro e w1 ⟨rfl, hb1⟩
      go_wp2
      go_ret
      exact ⟨rfl, hb1⟩
  · clear Ht
    go_enter Try.func4, Try.ntmps4
    go_wp2_with fail
    refine (C1.out w).mono ?_
    rintro e w1 ⟨rfl, rfl⟩
    go_wp2_with fail
    refine (C2.out w).mono ?_
    rintro e w1 ⟨rfl, rfl⟩
    go_wp2_with fail
    refine (C3.out w).mono ?_
    rintro e w1 ⟨rfl, rfl⟩
    go_wp2_with fail
    refine (C4.out w).mono ?_
    rintro e w1 ⟨rfl, rfl⟩
    go_wp2_with fail
    refine (C5.out w).mono ?_
    rintro e w1 ⟨rfl, rfl⟩
    go_wp2_with fail
    refine (C6.out w).mono ?_
    rintro e w1 ⟨rfl, rfl⟩
    go_wp2_with fail
    refine (C6.out w).mono ?_
    rintro e w1 ⟨rfl, rfl⟩
    go_wp2_with fail
    refine (C7.out w).mono ?_
    rintro e w1 ⟨rfl, rfl⟩
    go_wp2_with fail
    refine (works04_any w).mono ?_
    rintro e w1 ⟨rfl, hb1⟩
    go_wp2
    go_ret
    exact ⟨rfl, hb1⟩
end Go.Proofs.Ytancncclgeomeaa
