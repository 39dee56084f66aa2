/-
  The walk of the law WordStops.
-/
import Derived.Test.YtpgddlajlehilaaWorks
import Derived.Test.YtpgddlajlehilaaRZero
namespace Go.Proofs.Ytpgddlajlehilaa
open Go.RowKit
set_option linter.unusedVariables false

theorem leN_zeros : ∀ k, leN (List.replicate k 0) = 0
  | 0 => rfl
  | k + 1 => by rw [List.replicate_succ, leN, leN_zeros k]; rfl
theorem zeros_zeros (k : Nat) : zeros (List.replicate k 0) = true := by
  unfold zeros
  rw [List.all_eq_true]
  intro x hx
  rw [(List.mem_replicate.1 hx).2]
  rfl
theorem unpad_zeros (k : Nat) : unpadS (List.replicate k 0) = [] := by
  cases k with
  | zero => rfl
  | succ k =>
    show (unpadO (0 :: List.replicate k 0)).getD [] = []
    have e : unpadO (0 :: List.replicate k 0) = if (0 : UInt8).toNat ≤ (List.replicate k (0 : UInt8)).length ∧ zeros ((List.replicate k (0 : UInt8)).drop (0 : UInt8).toNat) = true then some ((List.replicate k (0 : UInt8)).take (0 : UInt8).toNat) else none := rfl
    rw [e]
    split <;> rfl

theorem cut_bad (xs : List UInt8) (n : Int) : cutBad xs true n = true := rfl
theorem cut_got (xs : List UInt8) (n : Int) : cutGot xs true n = List.replicate (min n.toNat 256) 0 := by unfold cutGot; rw [cut_bad]; rfl
theorem cut_rest (xs : List UInt8) (n : Int) : cutRest xs true n = xs := by unfold cutRest; rw [cut_bad]; rfl

theorem num_bad (w : World) (g : Nat) (xs : List UInt8) (n : Int) (h : Cur w g xs true) (hx : xs.length ≤ 140737488355328) :
    Calls Try.prog 23 #[.pointer (some ⟨g, 0, none⟩), .int .i64 n] w (RetG w g (.int .u64 0) xs true) := by
  have := num_any w g xs true n h hx
  rw [cut_got, cut_rest, cut_bad, List.take_replicate, leN_zeros] at this
  exact this
theorem text_bad (w : World) (g : Nat) (xs : List UInt8) (n : Int) (h : Cur w g xs true) (hx : xs.length ≤ 140737488355328) :
    Calls Try.prog 22 #[.pointer (some ⟨g, 0, none⟩), .int .i64 n] w (RetG w g (.string ⟨#[]⟩) xs true) := by
  have := text_any w g xs true n h hx
  rw [cut_got, cut_rest, cut_bad, unpad_zeros, Bool.true_or] at this
  exact this
/-- Bytes that are all noughts; the cursor is invalid behind the call. -/
def RetNought (w : World) (g : Nat) (xs : List UInt8) (e : Ending) (w' : World) : Prop :=
  ∃ A n c k, e = .returned (.slice A n c) ∧ n = (List.replicate k (0 : UInt8)).length ∧ n ≤ 256 ∧ Lies w' w'.heap.size A (List.replicate k 0) ∧ Cur w' g xs true ∧ w.grownBy w' (some g)
theorem bytes_stop (w : World) (g : Nat) (xs : List UInt8) (bad : Bool) (n : Int) (h : Cur w g xs bad) (hx : xs.length ≤ 140737488355328) (hb : cutBad xs bad n = true) :
    Calls Try.prog 26 #[.pointer (some ⟨g, 0, none⟩), .int .i64 n] w (RetNought w g xs) := by
  refine (bytes_any w g xs bad n h hx).mono fun e w' hh => ?_
  unfold RetCut cutGot cutRest at hh
  rw [hb] at hh
  simp only [if_true] at hh
  obtain ⟨⟨A, c, rfl, h1, h2, h3, h4⟩, h5⟩ := hh
  exact ⟨A, _, c, _, rfl, rfl, by rw [List.length_replicate]; omega, h3, h5, h4⟩

set_option maxRecDepth 100000 in
set_option maxHeartbeats 1000000 in
theorem stops_any (A A2 : Option Addr) (n c n2 c2 : Nat) (far : Int) (xs ys : List UInt8) (w : World) (hn : n = xs.length) (hc : n ≤ c) (hm : c ≤ maxLen) (hl : Lies w w.heap.size A xs)
    (hn2 : n2 = ys.length) (hc2 : n2 ≤ c2) (hm2 : c2 ≤ maxLen) (hl2 : Lies w w.heap.size A2 ys) :
    Calls Try.prog 6 #[.slice A n c, .slice A2 n2 c2, .int .i64 far] w fun e w' => e = .returned (.bool true) ∧ Below w.heap.size w w' := by
  have hm' : c ≤ 9223372036854775807 := by unfold maxLen at hm; exact hm
  have hm2' : c2 ≤ 9223372036854775807 := by unfold maxLen at hm2; exact hm2
  have Hn := Lib.hid hn
  have Hn2 := Lib.hid hn2
  clear hn hn2
  by_cases h1 : 3000 < n
  · go_enter Try.func6, Try.ntmps6
    go_wp2_with fail
    refine (few_yes _ _ _ w h1).mono ?_
    rintro e w1 ⟨rfl, rfl⟩
    go_wp2_with fail
    refine (works_any w).mono ?_
    rintro e w1 ⟨rfl, hb⟩
    go_wp2_with fail
    go_ret
    exact ⟨rfl, hb⟩
  · by_cases h2 : 30 < n2 ∨ 0 ≤ far ∧ far ≤ n
    · by_cases h3 : 30 < n2
      · have h3' : decide (30 < n2) = true := by simp; omega
        have h3'' : decide (30 < (n2 : Int)) = true := by simp; omega
        go_enter Try.func6, Try.ntmps6
        go_wp2_with fail
        refine (few_no _ _ _ w (by omega)).mono ?_
        rintro e w1 ⟨rfl, rfl⟩
        go_wp2_with fail
        refine (works_any w).mono ?_
        rintro e w1 ⟨rfl, hb⟩
        go_wp2_with fail
        go_ret
        exact ⟨rfl, hb⟩
      · have h3' : decide (30 < n2) = false := by simp; omega
        have h3'' : decide (30 < (n2 : Int)) = false := by simp; omega
        have h4 : decide (0 ≤ far) = true := by simp; omega
        have h5 : decide (far ≤ (n : Int)) = true := by simp; omega
        go_enter Try.func6, Try.ntmps6
        go_wp2_with fail
        refine (few_no _ _ _ w (by omega)).mono ?_
        rintro e w1 ⟨rfl, rfl⟩
        go_wp2_with fail
        refine (works_any w).mono ?_
        rintro e w1 ⟨rfl, hb⟩
        go_wp2_with fail
        go_ret
        exact ⟨rfl, hb⟩
    · have h3' : decide (30 < n2) = false := by simp; omega
      have h3'' : decide (30 < (n2 : Int)) = false := by simp; omega
      have hfar : cutBad xs false far = true := by
        have := Hn.out
        simp only [cutBad, Bool.false_or, decide_eq_true_eq]
        omega
      have hxl : xs.length ≤ 140737488355328 := by have := Hn.out; omega
      have Hfar := Lib.hid hfar
      clear hfar
      have h45 : ∃ b d, decide (0 ≤ far) = b ∧ decide (far ≤ (n : Int)) = d ∧ (b = false ∨ b = true ∧ d = false) := by
        refine ⟨_, _, rfl, rfl, ?_⟩
        by_cases h6 : 0 ≤ far
        · right; simp; omega
        · left; simp; omega
      obtain ⟨b, d, h4, h5, h6⟩ := h45
      rcases h6 with rfl | ⟨rfl, rfl⟩
      all_goals
        go_enter Try.func6, Try.ntmps6
        go_wp2_with fail
        refine (few_no _ _ _ w (by omega)).mono ?_
        rintro e w1 ⟨rfl, rfl⟩
        go_wp2_with fail
        refine (from_any _ _ _ xs w hl Hn.out (by omega)).mono ?_
        rintro e w1 ⟨g, rfl, hg1, hcur1, hb1⟩
        go_wp2_with fail
        refine (bytes_stop w1 g xs false far hcur1 hxl Hfar.out).mono ?_
        rintro e w2 ⟨A3, n3, c3, k3, rfl, hn3, hn3', hl3, hcur2, hgr2⟩
        have hb2 := hb1.grown hgr2 hb1.size (fun k e => by injection e with e; omega)
        have Hn3 := Lib.hid hn3
        clear hn3 hcur1 hb1 hgr2
        go_wp2_with fail
        refine (rzero_n _ _ _ (List.replicate k3 0) w2 _ hl3 Hn3.out (by omega)).mono ?_
        rintro e w3 ⟨rfl, rfl⟩
        rw [zeros_zeros]
        go_wp2_with fail
        refine (right_any w2 g xs true hcur2).mono ?_
        rintro e w3 ⟨rfl, rfl⟩
        clear hl3 Hn3
        go_wp2_with fail
        go_loopw [8] (fun i wr => ∃ j : Nat, j ≤ n2 ∧ i = .int .i64 j ∧ Cur wr g xs true ∧ Below w.heap.size w wr) (fun i _ => n2 - (intOf i).toNat)
        case atStart => exact ⟨0, Nat.zero_le _, rfl, hcur2, hb2⟩
        case round =>
          obtain ⟨j, hj, rfl, hcr, hbr⟩ := hrel
          by_cases hlt : j < n2
          · obtain ⟨b, o, x, rfl, _, hx, hcx⟩ := (hl2.below hbr).at_ (show j < ys.length by have := Hn2.out; omega)
            have hxl2 := x.toNat_lt
            clear hx
            go_wp2_with fail
            refine (num_bad wr g xs _ hcr hxl).mono ?_
            rintro e w3 ⟨rfl, hc3, hg3⟩
            have hb3 := hbr.grown hg3 hbr.size (fun k e => by injection e with e; omega)
            clear hcr hbr hg3
            go_wp2_with fail
            refine (text_bad w3 g xs _ hc3 hxl).mono ?_
            rintro e w4 ⟨rfl, hc4, hg4⟩
            have hb4 := hb3.grown hg4 hb3.size (fun k e => by injection e with e; omega)
            clear hc3 hb3 hg4
            go_wp2_with fail
            refine (bytes_stop w4 g xs true _ hc4 hxl (cut_bad _ _)).mono ?_
            rintro e w5 ⟨A5, n5, c5, k5, rfl, hn5, hn5', hl5, hc5, hg5⟩
            have hb5 := hb4.grown hg5 hb4.size (fun k e => by injection e with e; omega)
            have Hn5 := Lib.hid hn5
            clear hc4 hb4 hg5 hn5
            go_wp2_with fail
            refine (rzero_n _ _ _ (List.replicate k5 0) w5 _ hl5 Hn5.out (by omega)).mono ?_
            rintro e w6 ⟨rfl, rfl⟩
            rw [zeros_zeros]
            go_wp2_with fail
            refine (right_any w5 g xs true hc5).mono ?_
            rintro e w6 ⟨rfl, rfl⟩
            go_wp2_with fail
            refine (rest_any w5 g xs true hc5 hxl).mono ?_
            rintro e w6 ⟨rfl, rfl⟩
            go_wp2_with fail
            go_roundw
            case rel => exact ⟨j + 1, by omega, by go_num, hc5, hb5⟩
            case measure => simp [intOf]; omega
          · go_wp2_with fail
            refine (works_any wr).mono ?_
            rintro e w3 ⟨rfl, hb3⟩
            go_wp2_with fail
            go_ret
            exact ⟨rfl, below_seq hbr hb3⟩
end Go.Proofs.Ytpgddlajlehilaa
