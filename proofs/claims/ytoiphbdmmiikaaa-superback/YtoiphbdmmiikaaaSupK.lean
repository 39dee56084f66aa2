/-
  The walk of the law SuperBack.
-/
import Derived.Test.YtoiphbdmmiikaaaSupW
import Derived.Test.YtoiphbdmmiikaaaTurnC
namespace Go.Proofs.Ytoiphbdmmiikaaa
open Go.RowKit
set_option linter.unusedVariables false
set_option linter.unusedSimpArgs false

set_option maxRecDepth 100000 in
set_option maxHeartbeats 4000000 in
theorem sback_any (w : World) (s t c a m : Int) (N M : Nat) (hN : N < 65536) (hM : M < 4294967296) :
    Calls Try.prog 4 #[.agg (pc s t c a).toArray, .int .i64 m, .int .u16 (N : Int), .int .u32 (M : Int)] w fun e w' => e = .returned (.bool true) ∧ Below w.heap.size w w' := by
  have heq := eq_plan
  go_enter Try.func4, Try.ntmps4
  go_wp2_with ((with_reducible refine at_box 23 ?_); refine wpList_box_rowV rfl 23 _ rfl (pc s t c a) rfl ?_)
  intro w1 rp1 hb1 hs1
  have hz1 : w.heap.size < w1.heap.size := by omega
  clear hs1
  generalize hB0 : w.heap.size = B at *
  go_wp2_with (first
    | ((with_reducible refine at_load 23 ?_); refine load_plan rfl _ rfl B rfl rp1 ?_)
    | ((with_reducible refine at_build 29 ?_); refine wpList_build_to rfl 29 _ rfl (sbc ⟨s, t, c, a, m⟩) (by rw [Array.toList_map]; exact Try.builtS _ _ _ _ _) ?_))
  refine (sput_any w1 ⟨s, t, c, a, m⟩).mono ?_
  rintro e w2 ⟨rfl, hb2⟩
  have rp2 := rp1.below (by omega) hb2
  have hB2 : Below B w w2 := hb1.trans (hb2.mono (by omega))
  have hz2 : B < w2.heap.size := by have := hb2.size; omega
  clear rp1 hb1 hb2 hz1
  cases hok : (Sb.mk s t c a m).ok
  · have hp : putS ⟨s, t, c, a, m⟩ = (zeroSec, 2) := by rw [putS, hok]; rfl
    rw [hp]
    clear hp hok
    go_wp2_with ((with_reducible refine at_alloc 24 ?_); refine alloc_sec rfl rfl ?_)
    intro w3 rx3 hb3 hs3
    have hB3 : Below B w w3 := hB2.trans (hb3.mono (by omega))
    clear hB2 hb3 rp2
    generalize hG : w2.heap.size = G at *
    go_wp2_with ((with_reducible refine at_store 24 ?_); refine store_sec rfl _ _ rfl G zeroSec rfl rfl rx3 (Sec.cs_length _) ?_)
    intro w4 rx4 hg4 hs4
    have hB4 : Below B w w4 := below_grown hB3 hg4 (by omega) (by omega)
    go_wp2_with fail
    refine (works08_any w4).mono ?_
    rintro e w5 ⟨rfl, hb5⟩
    go_wp2_with fail
    go_ret
    exact ⟨rfl, by rw [hB0]; exact hB4.trans (hb5.mono (by omega))⟩
  · have hp : putS ⟨s, t, c, a, m⟩ = ((Sb.mk s t c a m).sec, 0) := by rw [putS, hok]; rfl
    rw [hp]
    have Hg := Lib.hid (get_some (getS_sec hok))
    have Hbad : Hid (∀ (P : Nat) (x : Sec), P + 32 ≤ 2048 → M ≠ 0 → x.1 = turnK (Sb.mk s t c a m).sec.1 P M 32 → getV x = sb0 ∧ getC x = 5) := fun P x h1 h2 h3 => get_none (getS_turned h1 (by omega) h2 x h3)
    generalize (Sb.mk s t c a m).sec = x at *
    clear hp hok
    go_wp2_with ((with_reducible refine at_alloc 24 ?_); refine alloc_sec rfl rfl ?_)
    intro w3 rx3 hb3 hs3
    have rp3 := rp2.below (by omega) hb3
    have hB3 : Below B w w3 := hB2.trans (hb3.mono (by omega))
    clear hB2 hb3 rp2
    generalize hG : w2.heap.size = G at *
    clear hG
    go_wp2_with ((with_reducible refine at_store 24 ?_); refine store_sec rfl _ _ rfl G x rfl rfl rx3 (Sec.cs_length _) ?_)
    intro w4 rx4 hg4 hs4
    have rp4 := rp3.keep hg4 (fun e => by injection e with e; omega)
    have hB4 : Below B w w4 := below_grown hB3 hg4 (by omega) (by omega)
    have hz4 : G < w4.heap.size := by omega
    clear rx3 rp3 hB3 hg4 hs4 hs3
    go_wp2_with ((with_reducible refine at_load 24 ?_); refine load_sec rfl _ rfl G rfl rx4 ?_)
    refine (sget_any w4 x).mono ?_
    rintro e w5 ⟨rfl, hb5⟩
    rw [Hg.out.1, Hg.out.2]
    have rx5 := rx4.below (by omega) hb5
    have rp5 := rp4.below (by omega) hb5
    have hB5 : Below B w w5 := hB4.trans (hb5.mono (by omega))
    have hz5 : G < w5.heap.size := by have := hb5.size; omega
    clear rx4 rp4 hB4 hb5 hz4
    go_wp2_with ((with_reducible refine at_alloc 29 ?_); refine alloc_sb rfl rfl ?_)
    intro w6 rs6 hb6 hs6
    have rx6 := rx5.below (by omega) hb6
    have rp6 := rp5.below (by omega) hb6
    have hB6 : Below B w w6 := hB5.trans (hb6.mono (by omega))
    clear rx5 rp5 hB5 hb6
    generalize hG2 : w5.heap.size = G2 at *
    clear hG2
    go_wp2_with ((with_reducible refine at_store 29 ?_); refine store_sb rfl _ _ rfl G2 ⟨s, t, c, a, m⟩ rfl rfl rs6 rfl ?_)
    intro w7 rs7 hg7 hs7
    have rx7 := rx6.keep hg7 (fun e => by injection e with e; omega)
    have rp7 := rp6.keep hg7 (fun e => by injection e with e; omega)
    have hB7 : Below B w w7 := below_grown hB6 hg7 (by omega) (by omega)
    have hz7 : G2 < w7.heap.size := by omega
    clear rx6 rp6 hB6 rs6 hg7 hs7 hs6
    have cs0 := rs7.cell (i := 0) rfl
    have cs1 := rs7.cell (i := 1) rfl
    have cs2 := rs7.cell (i := 2) rfl
    have cs3 := rs7.cell (i := 3) rfl
    have cs4 := rs7.cell (i := 4) rfl
    have cp0 := rp7.cell (i := 0) rfl
    have cp1 := rp7.cell (i := 1) rfl
    have cp2 := rp7.cell (i := 2) rfl
    have cp3 := rp7.cell (i := 3) rfl
    by_cases h0 : M = 0
    · subst h0
      go_wp2_with fail
      refine (works08_any w7).mono ?_
      rintro e w8 ⟨rfl, hb8⟩
      go_wp2_with fail
      go_ret
      exact ⟨rfl, by rw [hB0]; exact hB7.trans (hb8.mono (by omega))⟩
    · have hne : ((M : Int) == 0) = false := by rw [beq_eq_false_iff_ne]; omega
      have H0 := Lib.hid h0
      clear h0
      go_wp2_with fail
      clear cs0 cs1 cs2 cs3 cs4 cp0 cp1 cp2 cp3 rs7 rp7 hz7
      obtain ⟨P, hP, hP8⟩ : ∃ P : Nat, (N : Int) % 2017 = (P : Int) ∧ P ≤ 2016 := ⟨N % 2017, by omega, by omega⟩
      rw [hP]
      clear hP
      have hzz : B ≤ G := by omega
      have Hg7 := Lib.hid rx7.lt
      clear hz5 hz2
      go_loopw [14] (fun i W => ∃ k : Nat, k ≤ 32 ∧ i = .int .i64 k ∧ RowV W G 24 (cells (turnK x.1 P M k)) ∧ Below B w W) (fun i _ => 32 - (intOf i).toNat)
      case atStart => exact ⟨0, Nat.zero_le _, rfl, rx7, hB7⟩
      case round =>
        obtain ⟨k, hk, rfl, hrow, hb⟩ := hrel
        clear rx7 hB7
        by_cases hlt : k < 32
        · have Hlen := Lib.hid (turnK_length x.1 P M k)
          have ht := test_eq M k hM
          by_cases hbit : M.testBit k = true
          · rw [hbit] at ht
            have hq : (P + k) / 8 < 256 := by omega
            obtain ⟨z, hx⟩ : ∃ z, (turnK x.1 P M k)[(P + k) / 8]? = some z := ⟨_, List.getElem?_eq_getElem (by rw [Hlen.out, x.2]; exact hq)⟩
            have hcell : wr.cell? ⟨G, (P + k) / 8, none⟩ = some (.int .u8 (z.toNat : Int)) := hrow.cell (cells_get hx)
            have hfz := hrow.frozen ((P + k) / 8)
            have Hx := Lib.hid hx
            have Hb := Lib.hid hbit
            have hxl := z.toNat_lt
            clear hx hbit
            have R := hrow.setCell ((P + k) / 8) (.int .u8 ((z ^^^ UInt8.ofNat (2 ^ ((P + k) % 8))).toNat : Int))
            have R2 := hb.setCell (p := ⟨G, (P + k) / 8, none⟩) hzz (.int .u8 ((z ^^^ UInt8.ofNat (2 ^ ((P + k) % 8))).toNat : Int))
            have Hy := Lib.hid (turn_byte z ((P + k) % 8) (by omega))
            have Ht := Lib.hid (turn_cells Hb.out Hx.out)
            generalize z ^^^ UInt8.ofNat (2 ^ ((P + k) % 8)) = y at *
            have HR := Lib.hid R
            have HR2 := Lib.hid R2
            clear R R2
            go_wp2
            go_roundw
            case rel =>
              refine ⟨k + 1, by omega, by go_num, ?_, ?_⟩
              · rw [Hy.out, Ht.out]
                exact HR.out
              · rw [Hy.out]
                exact HR2.out
            case measure => simp [intOf]; omega
          · have hbit' : M.testBit k = false := by simpa using hbit
            rw [hbit'] at ht
            have Hb := Lib.hid hbit'
            clear hbit hbit'
            go_wp2
            go_roundw
            case rel =>
              refine ⟨k + 1, by omega, by go_num, ?_, hb⟩
              unfold turnK
              rw [Hb.out]
              exact hrow
            case measure => simp [intOf]; omega
        · obtain rfl : k = 32 := by omega
          obtain ⟨y, hy⟩ : ∃ y : Sec, y.1 = turnK x.1 P M 32 := ⟨⟨turnK x.1 P M 32, by rw [turnK_length, x.2]⟩, rfl⟩
          have Hy := Lib.hid (Hbad.out P y (by omega) H0.out hy)
          rw [← hy] at hrow
          have hry : RowV wr G 24 y.cs := hrow
          clear hrow hy Hbad Hg
          go_wp2_with ((with_reducible refine at_load 24 ?_); refine load_sec rfl _ rfl G rfl hry ?_)
          refine (sget_any wr y).mono ?_
          rintro e v1 ⟨rfl, hc1⟩
          rw [Hy.out.1, Hy.out.2]
          have hB8 : Below B w v1 := hb.trans (hc1.mono (by have := hry.lt; omega))
          have hz8 : B < v1.heap.size := by have := hc1.size; have := hry.lt; omega
          clear hry hb hc1
          go_wp2_with ((with_reducible refine at_alloc 29 ?_); refine alloc_sb rfl rfl ?_)
          intro v2 rs2 hc2 hs2
          have hB9 : Below B w v2 := hB8.trans (hc2.mono (by omega))
          clear hc2 hB8
          generalize hG3 : v1.heap.size = G3 at *
          go_wp2_with ((with_reducible refine at_store 29 ?_); refine store_sb rfl _ _ rfl G3 sb0 rfl rfl rs2 rfl ?_)
          intro v3 rs3 hc3 hs3
          have hB10 : Below B w v3 := below_grown hB9 hc3 (by omega) (by omega)
          have hz10 : B < v3.heap.size := by omega
          clear hB9 hc3 rs2 rs3 hs3
          go_wp2_with fail
          refine (works08_any v3).mono ?_
          rintro e v4 ⟨rfl, hc4⟩
          go_wp2_with fail
          go_ret
          exact ⟨rfl, by rw [hB0]; exact hB10.trans (hc4.mono (by omega))⟩
end Go.Proofs.Ytoiphbdmmiikaaa
