/-
  The walk of the law WordTexts.
-/
import Derived.Test.YtpgddlajlehilaaWorks
import Derived.Test.YtpgddlajlehilaaRPad
import Derived.Test.YtpgddlajlehilaaRUnpad
import Derived.Test.YtpgddlajlehilaaRSame
import Derived.Test.YtpgddlajlehilaaRZero
namespace Go.Proofs.Ytpgddlajlehilaa
open Go.RowKit
set_option linter.unusedVariables false

theorem wholeB_in {xs : List UInt8} {k : Nat} {x : UInt8} (hk : k < 256) (h : xs[k]? = some x) : (wholeB xs)[k]? = some x := by
  have hl := (List.getElem?_eq_some_iff.1 h).1
  unfold wholeB fill
  rw [List.getElem?_append_left (by rw [List.length_take]; omega), List.getElem?_take_of_lt hk]
  exact h
theorem wholeB_out {xs : List UInt8} {k : Nat} (hk : k < 256) (h : xs.length ≤ k) : (wholeB xs)[k]? = some 0 := by
  unfold wholeB fill
  have e : (xs.take 256).length = xs.length := by rw [List.length_take]; omega
  rw [List.getElem?_append_right (by omega), e, List.getElem?_replicate, if_pos (by omega)]

set_option maxRecDepth 100000 in
set_option maxHeartbeats 1000000 in
theorem texts_any (s : ByteArray) (k : Int) (A : Option Addr) (n c : Nat) (xs : List UInt8) (w : World) (hn : n = xs.length) (hc : n ≤ c) (hm : c ≤ maxLen) (hl : Lies w w.heap.size A xs) :
    Calls Try.prog 4 #[.string s, .int .i64 k, .slice A n c] w fun e w' => e = .returned (.bool true) ∧ Below w.heap.size w w' := by
  have hm' : c ≤ 9223372036854775807 := by unfold maxLen at hm; exact hm
  have Hn := Lib.hid hn
  clear hn
  by_cases h1 : 600 < s.size
  · go_enter Try.func4, Try.ntmps4
    go_wp2_with fail
    refine (works_any w).mono ?_
    rintro e w1 ⟨rfl, hb⟩
    go_wp2_with fail
    go_ret
    exact ⟨rfl, hb⟩
  · have h1' : decide (600 < s.size) = false := by simp; omega
    have h1'' : decide (600 < (s.size : Int)) = false := by simp; omega
    by_cases h2 : 3000 < n
    · go_enter Try.func4, Try.ntmps4
      go_wp2_with fail
      refine (few_yes _ _ _ w h2).mono ?_
      rintro e w1 ⟨rfl, rfl⟩
      go_wp2_with fail
      refine (works_any w).mono ?_
      rintro e w1 ⟨rfl, hb⟩
      go_wp2_with fail
      go_ret
      exact ⟨rfl, hb⟩
    · go_enter Try.func4, Try.ntmps4
      go_wp2_with fail
      refine (few_no _ _ _ w (by omega)).mono ?_
      rintro e w1 ⟨rfl, rfl⟩
      go_wp2_with fail
      refine (pad_any s k w).mono ?_
      rintro e w1 ⟨A1, c1, rfl, _, _, hl1, hb1⟩
      go_wp2_with fail
      refine (rpad_any s k w1).mono ?_
      rintro e w2 ⟨A2, c2, rfl, _, _, hl2, hb2⟩
      have hl1' := (hl1.below hb2).le hb2.size
      have hb12 := below_seq hb1 hb2
      have hll := hl.below hb12
      generalize padBytes s.data.toList k = pb at *
      generalize padCode s.data.toList k = pc at *
      clear hl1 hl hb1 hb2
      go_wp2_with fail
      refine (unpad_any xs _ _ _ w2 _ Hn.out hc hm' hll).mono ?_
      rintro e w3 ⟨rfl, m, rfl⟩
      have hb3 := below_drewN' hb12 m
      have hl13 := hl1'.drewN m
      have hl23 := hl2.drewN m
      have hl3 := hll.drewN m
      have hs3 : (w2.drewN m).heap.size = w2.heap.size := rfl
      rw [← hs3] at hl13 hl23
      generalize w2.drewN m = w3 at *
      obtain ⟨S, C, hv⟩ : ∃ S C, unpadV xs = .tuple #[.string S, .int .i64 C] := ⟨_, _, rfl⟩
      rw [hv]
      have Hv := Lib.hid hv
      clear hs3 hl1' hl2 hll hb12 hv
      go_wp2_with fail
      refine (runpad_any xs _ _ _ w3 _ Hn.out hc hm' hl3).mono ?_
      rintro e w4 ⟨rfl, rfl⟩
      rw [Hv.out]
      go_wp2_with fail
      refine (whole_any _ _ _ xs w3 _ hl3 Hn.out hb3.size).mono ?_
      rintro e w4 ⟨rfl, hb34⟩
      have hb4 := below_seq hb3 hb34
      have hl14 := (hl13.below hb34).le hb34.size
      have hl24 := (hl23.below hb34).le hb34.size
      have hl4 := hl3.below (hb34.mono hb3.size)
      have hsz3 : (Try.prog.info? 35).map (·.size) = some ((cells (wholeB xs)).toArray).size := by rw [Try.size35]; simp only [List.size_toArray, cells_length, wholeB_length]
      have hold : ((cells sec0).toArray).size = ((cells (wholeB xs)).toArray).size := by simp only [List.size_toArray, cells_length, wholeB_length, sec0_length]
      have Hsz3 := Lib.hid hsz3
      have Hold := Lib.hid hold
      clear hsz3 hold hb3 hb34 hl13 hl23 hl3
      go_wp2_with (with_reducible refine wpList_alloc_row rfl 35 rfl sec0 Try.zero35 ?_)
      intro w5 hr5 hb45 hs5
      have hb5 := below_seq hb4 hb45
      have hl15 := hl14.below hb45
      have hl25 := hl24.below hb45
      have hl5 := hl4.below (hb45.mono hb4.size)
      have hw4 := hb4.size
      clear hb4 hl14 hl24 hl4 hb45
      go_wp2_with ((with_reducible refine at_store 35 ?_); refine wpList_store_row rfl 35 _ _ rfl w4.heap.size _ rfl rfl 35 _ hr5 Hsz3.out Hold.out (cells_oneCell _) ?_)
      have hgr := grown_setRow w5 w4.heap.size (cells (wholeB xs)).toArray
      have hr6 := hr5.set (wholeB xs)
      have hb6 := hb5.grown hgr hb5.size (fun k e => by injection e with e; omega)
      have hl16 := hl15.grown hgr (by omega) (fun k e => by injection e with e; omega)
      have hl26 := hl25.grown hgr (by omega) (fun k e => by injection e with e; omega)
      have hl6 := hl5.grown hgr (by omega) (fun k e => by injection e with e; omega)
      generalize w5.setRow w4.heap.size (cells (wholeB xs)).toArray = w6 at *
      clear hb5 hl15 hl25 hl5 hr5 hgr hs5
      go_loopw [16] (fun i wr => ∃ j m : Nat, j ≤ 256 ∧ i = .int .i64 j ∧ wr = w6.drewN m) (fun i _ => 256 - (intOf i).toNat)
      case atStart => exact ⟨0, 0, by omega, rfl, rfl⟩
      case round =>
        obtain ⟨j, m, hj, rfl, rfl⟩ := hrel
        by_cases hlt : j < 256
        · by_cases hjn : j < n
          · obtain ⟨b, o, x, rfl, _, hx, hcx⟩ := hl6.at_ (show j < xs.length by have := Hn.out; omega)
            have hcw := hr6.cell (wholeB_in hlt hx)
            have hd1 : decide ((j : Int) < (n : Int)) = true := by simp; omega
            have hd1' : decide (j < n) = true := by simp; omega
            have hd2 : decide ((n : Int) ≤ (j : Int)) = false := by simp; omega
            have hd2' : decide (n ≤ j) = false := by simp; omega
            have hi1 : (0 : Int) ≤ (j : Int) := by omega
            have hi2 : (j : Int) < 256 := by omega
            have hi3 : (j : Int) < (n : Int) := by omega
            have hne : ((x.toNat : Int) != (x.toNat : Int)) = false := by simp
            clear hx
            go_wp2_with fail
            go_quiet (fail)
            go_wp2_with fail
            go_roundw
            case rel => exact ⟨j + 1, _, by omega, by go_num, rfl⟩
            case measure => simp [intOf]; omega
          · have hcw := hr6.cell (wholeB_out hlt (show xs.length ≤ j by have := Hn.out; omega))
            have hd1 : decide ((j : Int) < (n : Int)) = false := by simp; omega
            have hd1' : decide (j < n) = false := by simp; omega
            have hd2 : decide ((n : Int) ≤ (j : Int)) = true := by simp; omega
            have hd2' : decide (n ≤ j) = true := by simp; omega
            have hi1 : (0 : Int) ≤ (j : Int) := by omega
            have hi2 : (j : Int) < 256 := by omega
            go_wp2_with fail
            go_quiet (fail)
            go_wp2_with fail
            go_roundw
            case rel => exact ⟨j + 1, _, by omega, by go_num, rfl⟩
            case measure => simp [intOf]; omega
        · have hb7 := below_drewN' hb6 m
          have hl17 := hl16.drewN m
          have hl27 := hl26.drewN m
          have hl7 := hl6.drewN m
          generalize w6.drewN m = w7 at *
          clear hb6 hl16 hl26 hl6 hr6
          go_wp2_with fail
          refine (same_any _ _ _ _ _ _ pb pb w7 _ rfl rfl hl17 hl27).mono ?_
          rintro e w8 ⟨rfl, rfl⟩
          rw [beq_self_eq_true]
          go_wp2_with fail
          refine (zero_n _ _ _ xs w7 _ hl7 Hn.out (by omega)).mono ?_
          rintro e w8 ⟨rfl, rfl⟩
          go_wp2_with fail
          refine (rzero_n _ _ _ xs w7 _ hl7 Hn.out (by omega)).mono ?_
          rintro e w8 ⟨rfl, rfl⟩
          go_wp2_with fail
          refine (works_any w7).mono ?_
          rintro e w8 ⟨rfl, hb8⟩
          go_wp2_with fail
          go_ret
          exact ⟨rfl, below_seq hb7 hb8⟩
end Go.Proofs.Ytpgddlajlehilaa
