/-
  The walk of the law DigestSums.
-/
import Derived.Test.YthkbbghoofknpaaDoorWorks3
import Derived.Test.YthkbbghoofknpaaDoorRSum
namespace Go.Proofs.YthkbbghoofknpaaDoor
open Go.RowKit
set_option linter.unusedVariables false

theorem of_nil (w : World) (hT : Tab w) : Calls Tryd.prog 7 #[.slice none 0 0] w fun e w' => e = .returned (.agg (cells (shaB [])).toArray) ∧ Below w.heap.size w w' :=
  of_any none 0 0 [] w 0 hT (Nat.zero_le _) (PartsAt.nil _ _ _) rfl (by omega) (by decide)
theorem rsum_nil (w : World) : Calls Tryd.prog 8 #[.slice none 0 0] w fun e w' => e = .returned (.agg (cells (shaB [])).toArray) ∧ Below w.heap.size w w' :=
  rsum_any none 0 0 [] w 0 (Lies.nil _ _ _) (Nat.zero_le _) rfl (by omega)

theorem sums_long (A A' : Option Addr) (n c n' c' : Nat) (w : World) (hT : Tab w) (h : 600 < n ∨ 600 < n') (hc : n ≤ c) (hm : c ≤ 9223372036854775807) (hc' : n' ≤ c') (hm' : c' ≤ 9223372036854775807) :
    Calls Tryd.prog 3 #[.slice A n c, .slice A' n' c'] w fun e w' => e = .returned (.bool true) ∧ Below w.heap.size w w' := by
  by_cases h1 : 600 < n
  · clear h
    go_enter Tryd.func3, Tryd.ntmps3
    go_wp2_with fail
    refine (works3_any w hT).mono ?_
    rintro e w1 ⟨rfl, hb⟩
    go_wp2_with fail
    go_ret
    exact ⟨rfl, hb⟩
  · have h2 : 600 < n' := by omega
    clear h
    go_enter Tryd.func3, Tryd.ntmps3
    go_wp2_with fail
    refine (works3_any w hT).mono ?_
    rintro e w1 ⟨rfl, hb⟩
    go_wp2_with fail
    go_ret
    exact ⟨rfl, hb⟩

set_option maxHeartbeats 1000000 in
theorem sums_short (A A' : Option Addr) (n c n' c' : Nat) (xs ys : List UInt8) (w : World) (hT : Tab w) (h3 : n ≤ 600) (h3' : n' ≤ 600) (hn : n = xs.length) (hn' : n' = ys.length) (hc : n ≤ c) (hm : c ≤ maxLen) (hc' : n' ≤ c') (hm' : c' ≤ maxLen) (hl : Lies w w.heap.size A xs) (hl' : Lies w w.heap.size A' ys) :
    Calls Tryd.prog 3 #[.slice A n c, .slice A' n' c'] w fun e w' => e = .returned (.bool true) ∧ Below w.heap.size w w' := by
  obtain ⟨i0, hi, hz0, hz1, hz2⟩ := info_parts Tryd.info5
  have Hn := Lib.hid hn
  have Hn' := Lib.hid hn'
  have Hm := Lib.hid hm
  have Hm' := Lib.hid hm'
  have hm1 : c ≤ 9223372036854775807 := by unfold maxLen at hm; exact hm
  have hm2 : c' ≤ 9223372036854775807 := by unfold maxLen at hm'; exact hm'
  clear hn hn' hm hm'
  have hd1 : decide (600 < (n : Int)) = false := decide_eq_false (by omega)
  have hd2 : decide (600 < (n' : Int)) = false := decide_eq_false (by omega)
  have hown0 : w.ownsRow w.heap.size 5 1 (.slice none 0 0) 0 (cells []) := ⟨rfl, .inl ⟨rfl, rfl⟩⟩
  go_enter Tryd.func3, Tryd.ntmps3
  go_wp2_with (at_builtin; refine wpList_append_lies rfl _ _ 22 rfl w.heap.size i0 Tryd.underlying22 hi hz0 hz1 hz2 _ 0 [] xs rfl hown0 w.heap.size _ _ _ rfl hl Hn.out (by omega) (Nat.le_refl _) ?_)
  intro v1 w1 hown1 hg1
  have hb1 : Below w.heap.size w w1 := (Below.refl _ _).grown hg1 (Nat.le_refl _) (by simp [Value.ownBlock])
  have hge1 := own_ge hown1
  have hl1' := hl'.below hb1
  go_wp2_with (at_builtin; refine wpList_append_lies rfl _ _ 22 rfl w.heap.size i0 Tryd.underlying22 hi hz0 hz1 hz2 _ n xs ys rfl hown1 w.heap.size _ _ _ rfl hl1' Hn'.out (by omega) hb1.size ?_)
  intro v2 w2 hown2 hg2
  have hb2 : Below w.heap.size w w2 := hb1.grown hg2 hb1.size hge1
  obtain ⟨A2, c2, rfl, hn2, hk2, hk3, hL2⟩ := Lies.of_own hown2
  have Hn2 := Lib.hid hn2
  rw [← hn2]
  have hT2 := hT.below hb2
  have l1 := (hl.below hb2).le hb2.size
  have l2 := (hl'.below hb2).le hb2.size
  clear hn2 hown2 hg2 hown1 hg1 hb1 hl1' hge1 hown0
  go_wp2_with fail
  refine (of_two w2 A A' n c n' c' xs ys hT2 l1 l2 Hn.out Hn'.out hc hc' Hm.out Hm'.out (by have h1 := Hn.out; have h2 := Hn'.out; omega)).mono ?_
  rintro e w3 ⟨rfl, hb3⟩
  have hL3 := hL2.below hb3
  have hB3 := hb2.trans (hb3.mono hb2.size)
  have hs3 := hb3.size
  go_wp2_with fail
  refine (rsum_any A2 (n + n') c2 (xs ++ ys) w3 w2.heap.size hL3 hs3 Hn2.out (by omega)).mono ?_
  rintro e w4 ⟨rfl, hb4⟩
  have hB4 := hB3.trans (hb4.mono hB3.size)
  have hT4 := hT.below hB4
  have heq : ∀ (W : World) (zs : List UInt8), (binOp .eql 24 (.agg (cells (shaB zs)).toArray) (.agg (cells (shaB zs)).toArray)).run Tryd.prog W = .ok (.bool true) W := fun W zs => by
    rw [run_eql_bytes W Tryd.underlying24 Tryd.underlying5 Tryd.cells5 (shaB_length zs) (shaB_length zs), beq_self_eq_true]
  clear hl hl' hb2 hb3 hb4 hB3 hL2 hL3 hs3 l1 l2 hT2
  go_wp2_with fail
  refine (of_nil w4 hT4).mono ?_
  rintro e w5 ⟨rfl, hb5⟩
  have hB5 := hB4.trans (hb5.mono hB4.size)
  go_wp2_with fail
  refine (rsum_nil w5).mono ?_
  rintro e w6 ⟨rfl, hb6⟩
  have hB6 := hB5.trans (hb6.mono hB5.size)
  go_wp2_with fail
  refine (works3_any w6 (hT.below hB6)).mono ?_
  rintro e w7 ⟨rfl, hb7⟩
  go_wp2_with fail
  go_ret
  exact ⟨rfl, hB6.trans (hb7.mono hB6.size)⟩
theorem dsums_any (A A' : Option Addr) (n c n' c' : Nat) (xs ys : List UInt8) (w : World) (hT : Tab w) (hn : n = xs.length) (hn' : n' = ys.length) (hc : n ≤ c) (hm : c ≤ maxLen) (hc' : n' ≤ c') (hm' : c' ≤ maxLen) (hl : Lies w w.heap.size A xs) (hl' : Lies w w.heap.size A' ys) :
    Calls Tryd.prog 3 #[.slice A n c, .slice A' n' c'] w fun e w' => e = .returned (.bool true) ∧ Below w.heap.size w w' := by
  by_cases h : 600 < n ∨ 600 < n'
  · exact sums_long A A' n c n' c' w hT h hc (by unfold maxLen at hm; exact hm) hc' (by unfold maxLen at hm'; exact hm')
  · exact sums_short A A' n c n' c' xs ys w hT (by omega) (by omega) hn hn' hc hm hc' hm' hl hl'
end Go.Proofs.YthkbbghoofknpaaDoor
