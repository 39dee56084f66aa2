/-
  Layer 14: the law LeafBack.
-/
import Derived.Test.YtkfhbngphkobfaaPkLefW
namespace Go.Proofs.Ytkfhbngphkobfaa
open Go.RowKit
set_option linter.unusedVariables false
set_option linter.unusedSimpArgs false

theorem get_code (x : Sec) (n : Int) : (getC14 x n = 0 ∧ okL x n = true) ∨ (getC14 x n = 5 ∧ okL x n = false) := by
  by_cases h0 : x = zeroSec
  · exact .inl ⟨(get14_zero h0).2.2, (okL_zero h0).2.2⟩
  cases hg : getL x n with
  | none => exact .inr ⟨(get14_none h0 hg).2.2, (okL_none h0 hg).2.2⟩
  | some t => exact .inl ⟨(get14_some h0 hg).2.2, (okL_some h0 hg).2.2⟩
theorem get_len (x : Sec) (n : Int) : (getT14 x n).slots.length ≤ 1000 := by
  by_cases h0 : x = zeroSec
  · rw [(get14_zero (n := n) h0).1]
    exact Nat.zero_le _
  cases hg : getL x n with
  | none =>
    rw [(get14_none h0 hg).1]
    exact Nat.zero_le _
  | some t =>
    rw [(get14_some h0 hg).1]
    obtain ⟨⟨s1, s2⟩, hl, _⟩ := checkL_zero.1 (getL_some hg).1
    rw [hl]
    unfold countK
    omega
theorem sameT_self (t : Tx) : sameT t t = true := decide_eq_true rfl

set_option maxRecDepth 100000 in
set_option maxHeartbeats 8000000 in
theorem back14_any (HW : Works14) (w : World) (t : Tx) (A : Option Addr) (c : Nat) (x : Sec) (n : Int) (h : LiesV w w.heap.size A (slv t.slots)) :
    Calls Try.prog 4 #[.agg (txc t A c).toArray, .agg x.cs.toArray, .int .i64 n] w fun e w' => e = .returned (.bool true) ∧ Below w.heap.size w w' := by
  have HT := Lib.hid h
  have HWh := Lib.hid HW
  have hNw : w.heap.size ≤ w.heap.size := Nat.le_refl _
  have hL_0 : Below w.heap.size w w := Below.refl _ _
  clear h HW
  go_enter Try.func4, Try.ntmps4
  go_wp2_with ((with_reducible refine at_box 25 ?_); refine box_tx rfl _ rfl t A c rfl ?_)
  intro v1 hR1 hb1 hs1
  clear hs1
  have St_1 := Lib.hid ((HT.out.below hb1).le hb1.size)
  have hL_1 := hL_0.trans (hb1.mono (Nat.le_trans hNw hL_0.size))
  obtain ⟨BT3, hBT3⟩ : ∃ BT3, w.heap.size = BT3 := ⟨_, rfl⟩
  rw [hBT3] at hR1
  try rw [hBT3]
  clear  hb1 hBT3
  go_wp2_with ((with_reducible refine at_box 28 ?_); refine wpList_box_rowV rfl 28 _ rfl x.cs rfl ?_)
  intro v2 hR2 hb2 hs2
  clear hs2
  have RT3_2 := hR1.below hR1.lt hb2
  have St_2 := Lib.hid ((St_1.out.below hb2).le hb2.size)
  have hL_2 := hL_1.trans (hb2.mono (Nat.le_trans hNw hL_1.size))
  obtain ⟨BX4, hBX4⟩ : ∃ BX4, v1.heap.size = BX4 := ⟨_, rfl⟩
  rw [hBX4] at hR2
  try rw [hBX4]
  clear hR1 St_1 hL_1 hb2 hBX4
  clear hNw
  obtain ⟨N, hN⟩ : ∃ N, w.heap.size = N := ⟨_, rfl⟩
  have hNw : N ≤ w.heap.size := by omega
  rw [hN] at hL_2
  have HN := Lib.hid hN
  clear hN
  go_wp2_with first
    | ((with_reducible refine at_load 25 ?_); refine load_tx rfl _ rfl BT3 rfl RT3_2 ?_)
    | ((with_reducible refine at_loadGR 25 ?_); refine load_txG (by rfl) _ rfl BT3 rfl RT3_2 ?_)
    | ((with_reducible refine at_load 28 ?_); refine load_sec rfl _ rfl BX4 rfl hR2 ?_)
    | ((with_reducible refine at_loadG 28 ?_); refine load_secG (by rfl) _ rfl BX4 rfl hR2 ?_)
  refine (light14_any v2 t A c).mono ?_
  rintro e v3 ⟨rfl, hb3⟩
  have RT3_3 := RT3_2.below RT3_2.lt hb3
  have RX4_3 := hR2.below hR2.lt hb3
  have St_3 := Lib.hid ((St_2.out.below hb3).le hb3.size)
  have hL_3 := hL_2.trans (hb3.mono (Nat.le_trans hNw hL_2.size))
  clear RT3_2 hR2 St_2 hL_2 hb3
  by_cases h1 : t.slots.length < 50
  rotate_left
  · rw [decide_eq_false h1]
    go_wp2_with first
      | ((with_reducible refine at_load 25 ?_); refine load_tx rfl _ rfl BT3 rfl RT3_3 ?_)
      | ((with_reducible refine at_loadGR 25 ?_); refine load_txG (by rfl) _ rfl BT3 rfl RT3_3 ?_)
      | ((with_reducible refine at_load 28 ?_); refine load_sec rfl _ rfl BX4 rfl RX4_3 ?_)
      | ((with_reducible refine at_loadG 28 ?_); refine load_secG (by rfl) _ rfl BX4 rfl RX4_3 ?_)
    refine (HWh.out v3).mono ?_
    rintro e v4 ⟨rfl, hb⟩
    go_wp2_with fail
    go_ret
    exact ⟨rfl, by rw [HN.out]; exact hL_3.trans (hb.mono (Nat.le_trans hNw hL_3.size))⟩
  rw [decide_eq_true h1]
  go_wp2_with first
    | ((with_reducible refine at_load 25 ?_); refine load_tx rfl _ rfl BT3 rfl RT3_3 ?_)
    | ((with_reducible refine at_loadGR 25 ?_); refine load_txG (by rfl) _ rfl BT3 rfl RT3_3 ?_)
    | ((with_reducible refine at_load 28 ?_); refine load_sec rfl _ rfl BX4 rfl RX4_3 ?_)
    | ((with_reducible refine at_loadG 28 ?_); refine load_secG (by rfl) _ rfl BX4 rfl RX4_3 ?_)
  refine (lput_any v3 v3.heap.size t A c St_3.out (Nat.le_refl _)).mono ?_
  rintro e v5 ⟨rfl, hb5⟩
  have RT3_5 := RT3_3.below RT3_3.lt hb5
  have RX4_5 := RX4_3.below RX4_3.lt hb5
  have St_5 := Lib.hid ((St_3.out.below hb5).le hb5.size)
  have hL_5 := hL_3.trans (hb5.mono (Nat.le_trans hNw hL_3.size))
  clear RT3_3 RX4_3 St_3 hL_3 hb5
  obtain ⟨et, het⟩ : ∃ k, checkL t 200 = k := ⟨_, rfl⟩
  have Het := Lib.hid het
  obtain ⟨Pt, hPt⟩ : ∃ k, putS14 t = k := ⟨_, rfl⟩
  have HPt := Lib.hid hPt
  rw [het, hPt]
  clear het hPt
  go_wp2_with ((with_reducible refine at_alloc 28 ?_); refine alloc_sec rfl rfl ?_)
  intro v6 hA7 hbA7 hsA7
  clear hsA7
  go_wp2_with ((with_reducible refine at_store 28 ?_); refine store_sec rfl _ _ rfl (v5.heap.size) Pt rfl rfl hA7 (Sec.cs_length _) ?_)
  intro v7 hR7 hgR7 hsR7
  have hb7 := below_grown hbA7 hgR7 (Nat.le_refl _) hbA7.size
  clear hA7 hbA7 hgR7 hsR7
  have RT3_7 := RT3_5.below RT3_5.lt hb7
  have RX4_7 := RX4_5.below RX4_5.lt hb7
  have St_7 := Lib.hid ((St_5.out.below hb7).le hb7.size)
  have hL_7 := hL_5.trans (hb7.mono (Nat.le_trans hNw hL_5.size))
  obtain ⟨BX7, hBX7⟩ : ∃ BX7, v5.heap.size = BX7 := ⟨_, rfl⟩
  rw [hBX7] at hR7
  try rw [hBX7]
  clear RT3_5 RX4_5 St_5 hL_5 hb7 hBX7
  obtain ⟨G, hG⟩ : ∃ G, getT14 x n = G := ⟨_, rfl⟩
  have hGl : G.slots.length ≤ 1000 := by rw [← hG]; exact get_len x n
  obtain ⟨isb, hisb⟩ : ∃ b, getB14 x n = b := ⟨_, rfl⟩
  obtain ⟨kc, hkc⟩ : ∃ b, getC14 x n = b := ⟨_, rfl⟩
  obtain ⟨ob, hob⟩ : ∃ b, okL x n = b := ⟨_, rfl⟩
  have hcode := get_code x n
  rw [hkc, hob] at hcode
  have HG := Lib.hid hG
  have Hisb := Lib.hid hisb
  have Hkc := Lib.hid hkc
  have Hob := Lib.hid hob
  clear hG hisb hkc hob
  by_cases hq1 : et = 0
  · subst hq1
    have Hbk := Lib.hid (get14_back Het.out (n := 200) (by omega))
    have HP2 : Hid (Pt = leafS t) := by show _ = _; rw [← HPt.out, putS14_yes Het.out]
    go_wp2_with first
      | ((with_reducible refine at_load 25 ?_); refine load_tx rfl _ rfl BT3 rfl RT3_7 ?_)
      | ((with_reducible refine at_loadGR 25 ?_); refine load_txG (by rfl) _ rfl BT3 rfl RT3_7 ?_)
      | ((with_reducible refine at_load 28 ?_); refine load_sec rfl _ rfl BX4 rfl RX4_7 ?_)
      | ((with_reducible refine at_loadG 28 ?_); refine load_secG (by rfl) _ rfl BX4 rfl RX4_7 ?_)
      | ((with_reducible refine at_load 28 ?_); refine load_sec rfl _ rfl BX7 rfl hR7 ?_)
      | ((with_reducible refine at_loadG 28 ?_); refine load_secG (by rfl) _ rfl BX7 rfl hR7 ?_)
    refine (lget_any v7 Pt 200).mono ?_
    rintro e v8 ⟨A8, c8, rfl, hq8, hb8⟩
    have RT3_8 := RT3_7.below RT3_7.lt hb8
    have RX4_8 := RX4_7.below RX4_7.lt hb8
    have RX7_8 := hR7.below hR7.lt hb8
    have St_8 := Lib.hid ((St_7.out.below hb8).le hb8.size)
    have hL_8 := hL_7.trans (hb8.mono (Nat.le_trans hNw hL_7.size))
    rw [HP2.out, Hbk.out.1] at hq8
    rw [show getT14 Pt 200 = t by rw [HP2.out]; exact Hbk.out.1, show getB14 Pt 200 = true by rw [HP2.out]; exact Hbk.out.2.1, show getC14 Pt 200 = 0 by rw [HP2.out]; exact Hbk.out.2.2]
    have hq8 := Lib.hid hq8
    clear RT3_7 RX4_7 hR7 St_7 hL_7 hb8
    go_wp2_with ((with_reducible refine at_alloc 25 ?_); refine alloc_tx rfl rfl ?_)
    intro v9 hA10 hbA10 hsA10
    clear hsA10
    go_wp2_with ((with_reducible refine at_store 25 ?_); refine store_tx rfl _ _ rfl (v8.heap.size) t A8 c8 rfl rfl hA10 (txc_length _ _ _) ?_)
    intro v10 hR10 hgR10 hsR10
    have hb10 := below_grown hbA10 hgR10 (Nat.le_refl _) hbA10.size
    clear hA10 hbA10 hgR10 hsR10
    have RT3_10 := RT3_8.below RT3_8.lt hb10
    have RX4_10 := RX4_8.below RX4_8.lt hb10
    have RX7_10 := RX7_8.below RX7_8.lt hb10
    have St_10 := Lib.hid ((St_8.out.below hb10).le hb10.size)
    have S9_10 := Lib.hid ((hq8.out.below hb10).le hb10.size)
    have hL_10 := hL_8.trans (hb10.mono (Nat.le_trans hNw hL_8.size))
    obtain ⟨BT9, hBT9⟩ : ∃ BT9, v8.heap.size = BT9 := ⟨_, rfl⟩
    rw [hBT9] at hR10
    try rw [hBT9]
    clear RT3_8 RX4_8 RX7_8 St_8 hq8 hL_8 hb10 hBT9
    go_wp2_with first
      | ((with_reducible refine at_load 25 ?_); refine load_tx rfl _ rfl BT3 rfl RT3_10 ?_)
      | ((with_reducible refine at_loadGR 25 ?_); refine load_txG (by rfl) _ rfl BT3 rfl RT3_10 ?_)
      | ((with_reducible refine at_load 28 ?_); refine load_sec rfl _ rfl BX4 rfl RX4_10 ?_)
      | ((with_reducible refine at_loadG 28 ?_); refine load_secG (by rfl) _ rfl BX4 rfl RX4_10 ?_)
      | ((with_reducible refine at_load 28 ?_); refine load_sec rfl _ rfl BX7 rfl RX7_10 ?_)
      | ((with_reducible refine at_loadG 28 ?_); refine load_secG (by rfl) _ rfl BX7 rfl RX7_10 ?_)
      | ((with_reducible refine at_load 25 ?_); refine load_tx rfl _ rfl BT9 rfl hR10 ?_)
      | ((with_reducible refine at_loadGR 25 ?_); refine load_txG (by rfl) _ rfl BT9 rfl hR10 ?_)
    refine (rsame14_any v10 v10.heap.size t t A8 A c8 c S9_10.out St_10.out (Nat.le_refl _) (by omega) (by omega)).mono ?_
    rintro e v11 ⟨rfl, hb11⟩
    have RT3_11 := RT3_10.below RT3_10.lt hb11
    have RX4_11 := RX4_10.below RX4_10.lt hb11
    have RX7_11 := RX7_10.below RX7_10.lt hb11
    have RT9_11 := hR10.below hR10.lt hb11
    have St_11 := Lib.hid ((St_10.out.below hb11).le hb11.size)
    have S9_11 := Lib.hid ((S9_10.out.below hb11).le hb11.size)
    have hL_11 := hL_10.trans (hb11.mono (Nat.le_trans hNw hL_10.size))
    rw [sameT_self]
    clear RT3_10 RX4_10 RX7_10 hR10 St_10 S9_10 hL_10 hb11
    go_wp2_with first
      | ((with_reducible refine at_load 25 ?_); refine load_tx rfl _ rfl BT3 rfl RT3_11 ?_)
      | ((with_reducible refine at_loadGR 25 ?_); refine load_txG (by rfl) _ rfl BT3 rfl RT3_11 ?_)
      | ((with_reducible refine at_load 28 ?_); refine load_sec rfl _ rfl BX4 rfl RX4_11 ?_)
      | ((with_reducible refine at_loadG 28 ?_); refine load_secG (by rfl) _ rfl BX4 rfl RX4_11 ?_)
      | ((with_reducible refine at_load 28 ?_); refine load_sec rfl _ rfl BX7 rfl RX7_11 ?_)
      | ((with_reducible refine at_loadG 28 ?_); refine load_secG (by rfl) _ rfl BX7 rfl RX7_11 ?_)
      | ((with_reducible refine at_load 25 ?_); refine load_tx rfl _ rfl BT9 rfl RT9_11 ?_)
      | ((with_reducible refine at_loadGR 25 ?_); refine load_txG (by rfl) _ rfl BT9 rfl RT9_11 ?_)
    refine (lget_any v11 x n).mono ?_
    rintro e v12 ⟨A12, c12, rfl, hq12, hb12⟩
    have RT3_12 := RT3_11.below RT3_11.lt hb12
    have RX4_12 := RX4_11.below RX4_11.lt hb12
    have RX7_12 := RX7_11.below RX7_11.lt hb12
    have RT9_12 := RT9_11.below RT9_11.lt hb12
    have St_12 := Lib.hid ((St_11.out.below hb12).le hb12.size)
    have S9_12 := Lib.hid ((S9_11.out.below hb12).le hb12.size)
    have hL_12 := hL_11.trans (hb12.mono (Nat.le_trans hNw hL_11.size))
    rw [HG.out] at hq12
    rw [HG.out, Hisb.out, Hkc.out]
    have hq12 := Lib.hid hq12
    clear RT3_11 RX4_11 RX7_11 RT9_11 St_11 S9_11 hL_11 hb12
    go_wp2_with ((with_reducible refine at_alloc 25 ?_); refine alloc_tx rfl rfl ?_)
    intro v13 hA14 hbA14 hsA14
    clear hsA14
    go_wp2_with ((with_reducible refine at_store 25 ?_); refine store_tx rfl _ _ rfl (v12.heap.size) G A12 c12 rfl rfl hA14 (txc_length _ _ _) ?_)
    intro v14 hR14 hgR14 hsR14
    have hb14 := below_grown hbA14 hgR14 (Nat.le_refl _) hbA14.size
    clear hA14 hbA14 hgR14 hsR14
    have RT3_14 := RT3_12.below RT3_12.lt hb14
    have RX4_14 := RX4_12.below RX4_12.lt hb14
    have RX7_14 := RX7_12.below RX7_12.lt hb14
    have RT9_14 := RT9_12.below RT9_12.lt hb14
    have St_14 := Lib.hid ((St_12.out.below hb14).le hb14.size)
    have S9_14 := Lib.hid ((S9_12.out.below hb14).le hb14.size)
    have Sa_14 := Lib.hid ((hq12.out.below hb14).le hb14.size)
    have hL_14 := hL_12.trans (hb14.mono (Nat.le_trans hNw hL_12.size))
    obtain ⟨BT12, hBT12⟩ : ∃ BT12, v12.heap.size = BT12 := ⟨_, rfl⟩
    rw [hBT12] at hR14
    try rw [hBT12]
    clear RT3_12 RX4_12 RX7_12 RT9_12 St_12 S9_12 hq12 hL_12 hb14 hBT12
    go_wp2_with first
      | ((with_reducible refine at_load 25 ?_); refine load_tx rfl _ rfl BT3 rfl RT3_14 ?_)
      | ((with_reducible refine at_loadGR 25 ?_); refine load_txG (by rfl) _ rfl BT3 rfl RT3_14 ?_)
      | ((with_reducible refine at_load 28 ?_); refine load_sec rfl _ rfl BX4 rfl RX4_14 ?_)
      | ((with_reducible refine at_loadG 28 ?_); refine load_secG (by rfl) _ rfl BX4 rfl RX4_14 ?_)
      | ((with_reducible refine at_load 28 ?_); refine load_sec rfl _ rfl BX7 rfl RX7_14 ?_)
      | ((with_reducible refine at_loadG 28 ?_); refine load_secG (by rfl) _ rfl BX7 rfl RX7_14 ?_)
      | ((with_reducible refine at_load 25 ?_); refine load_tx rfl _ rfl BT9 rfl RT9_14 ?_)
      | ((with_reducible refine at_loadGR 25 ?_); refine load_txG (by rfl) _ rfl BT9 rfl RT9_14 ?_)
      | ((with_reducible refine at_load 25 ?_); refine load_tx rfl _ rfl BT12 rfl hR14 ?_)
      | ((with_reducible refine at_loadGR 25 ?_); refine load_txG (by rfl) _ rfl BT12 rfl hR14 ?_)
    refine (rget14_any v14 x n).mono ?_
    rintro e v15 ⟨A15, c15, rfl, hq15, hb15⟩
    have RT3_15 := RT3_14.below RT3_14.lt hb15
    have RX4_15 := RX4_14.below RX4_14.lt hb15
    have RX7_15 := RX7_14.below RX7_14.lt hb15
    have RT9_15 := RT9_14.below RT9_14.lt hb15
    have RT12_15 := hR14.below hR14.lt hb15
    have St_15 := Lib.hid ((St_14.out.below hb15).le hb15.size)
    have S9_15 := Lib.hid ((S9_14.out.below hb15).le hb15.size)
    have Sa_15 := Lib.hid ((Sa_14.out.below hb15).le hb15.size)
    have hL_15 := hL_14.trans (hb15.mono (Nat.le_trans hNw hL_14.size))
    rw [HG.out] at hq15
    rw [HG.out, Hisb.out, Hob.out]
    have hq15 := Lib.hid hq15
    clear RT3_14 RX4_14 RX7_14 RT9_14 hR14 St_14 S9_14 Sa_14 hL_14 hb15
    go_wp2_with ((with_reducible refine at_alloc 25 ?_); refine alloc_tx rfl rfl ?_)
    intro v16 hA17 hbA17 hsA17
    clear hsA17
    go_wp2_with ((with_reducible refine at_store 25 ?_); refine store_tx rfl _ _ rfl (v15.heap.size) G A15 c15 rfl rfl hA17 (txc_length _ _ _) ?_)
    intro v17 hR17 hgR17 hsR17
    have hb17 := below_grown hbA17 hgR17 (Nat.le_refl _) hbA17.size
    clear hA17 hbA17 hgR17 hsR17
    have RT3_17 := RT3_15.below RT3_15.lt hb17
    have RX4_17 := RX4_15.below RX4_15.lt hb17
    have RX7_17 := RX7_15.below RX7_15.lt hb17
    have RT9_17 := RT9_15.below RT9_15.lt hb17
    have RT12_17 := RT12_15.below RT12_15.lt hb17
    have St_17 := Lib.hid ((St_15.out.below hb17).le hb17.size)
    have S9_17 := Lib.hid ((S9_15.out.below hb17).le hb17.size)
    have Sa_17 := Lib.hid ((Sa_15.out.below hb17).le hb17.size)
    have Sb_17 := Lib.hid ((hq15.out.below hb17).le hb17.size)
    have hL_17 := hL_15.trans (hb17.mono (Nat.le_trans hNw hL_15.size))
    obtain ⟨BT15, hBT15⟩ : ∃ BT15, v15.heap.size = BT15 := ⟨_, rfl⟩
    rw [hBT15] at hR17
    try rw [hBT15]
    clear RT3_15 RX4_15 RX7_15 RT9_15 RT12_15 St_15 S9_15 Sa_15 hq15 hL_15 hb17 hBT15
    rcases hcode with ⟨hk1, hk2⟩ | ⟨hk1, hk2⟩
    · subst hk1 hk2
      go_wp2_with first
        | ((with_reducible refine at_load 25 ?_); refine load_tx rfl _ rfl BT3 rfl RT3_17 ?_)
        | ((with_reducible refine at_loadGR 25 ?_); refine load_txG (by rfl) _ rfl BT3 rfl RT3_17 ?_)
        | ((with_reducible refine at_load 28 ?_); refine load_sec rfl _ rfl BX4 rfl RX4_17 ?_)
        | ((with_reducible refine at_loadG 28 ?_); refine load_secG (by rfl) _ rfl BX4 rfl RX4_17 ?_)
        | ((with_reducible refine at_load 28 ?_); refine load_sec rfl _ rfl BX7 rfl RX7_17 ?_)
        | ((with_reducible refine at_loadG 28 ?_); refine load_secG (by rfl) _ rfl BX7 rfl RX7_17 ?_)
        | ((with_reducible refine at_load 25 ?_); refine load_tx rfl _ rfl BT9 rfl RT9_17 ?_)
        | ((with_reducible refine at_loadGR 25 ?_); refine load_txG (by rfl) _ rfl BT9 rfl RT9_17 ?_)
        | ((with_reducible refine at_load 25 ?_); refine load_tx rfl _ rfl BT12 rfl RT12_17 ?_)
        | ((with_reducible refine at_loadGR 25 ?_); refine load_txG (by rfl) _ rfl BT12 rfl RT12_17 ?_)
        | ((with_reducible refine at_load 25 ?_); refine load_tx rfl _ rfl BT15 rfl hR17 ?_)
        | ((with_reducible refine at_loadGR 25 ?_); refine load_txG (by rfl) _ rfl BT15 rfl hR17 ?_)
      refine (rsame14_any v17 v17.heap.size G G A12 A15 c12 c15 Sa_17.out Sb_17.out (Nat.le_refl _) hGl hGl).mono ?_
      rintro e v18 ⟨rfl, hb18⟩
      have RT3_18 := RT3_17.below RT3_17.lt hb18
      have RX4_18 := RX4_17.below RX4_17.lt hb18
      have RX7_18 := RX7_17.below RX7_17.lt hb18
      have RT9_18 := RT9_17.below RT9_17.lt hb18
      have RT12_18 := RT12_17.below RT12_17.lt hb18
      have RT15_18 := hR17.below hR17.lt hb18
      have St_18 := Lib.hid ((St_17.out.below hb18).le hb18.size)
      have S9_18 := Lib.hid ((S9_17.out.below hb18).le hb18.size)
      have Sa_18 := Lib.hid ((Sa_17.out.below hb18).le hb18.size)
      have Sb_18 := Lib.hid ((Sb_17.out.below hb18).le hb18.size)
      have hL_18 := hL_17.trans (hb18.mono (Nat.le_trans hNw hL_17.size))
      rw [sameT_self]
      clear RT3_17 RX4_17 RX7_17 RT9_17 RT12_17 hR17 St_17 S9_17 Sa_17 Sb_17 hL_17 hb18
      go_wp2_with first
        | ((with_reducible refine at_load 25 ?_); refine load_tx rfl _ rfl BT3 rfl RT3_18 ?_)
        | ((with_reducible refine at_loadGR 25 ?_); refine load_txG (by rfl) _ rfl BT3 rfl RT3_18 ?_)
        | ((with_reducible refine at_load 28 ?_); refine load_sec rfl _ rfl BX4 rfl RX4_18 ?_)
        | ((with_reducible refine at_loadG 28 ?_); refine load_secG (by rfl) _ rfl BX4 rfl RX4_18 ?_)
        | ((with_reducible refine at_load 28 ?_); refine load_sec rfl _ rfl BX7 rfl RX7_18 ?_)
        | ((with_reducible refine at_loadG 28 ?_); refine load_secG (by rfl) _ rfl BX7 rfl RX7_18 ?_)
        | ((with_reducible refine at_load 25 ?_); refine load_tx rfl _ rfl BT9 rfl RT9_18 ?_)
        | ((with_reducible refine at_loadGR 25 ?_); refine load_txG (by rfl) _ rfl BT9 rfl RT9_18 ?_)
        | ((with_reducible refine at_load 25 ?_); refine load_tx rfl _ rfl BT12 rfl RT12_18 ?_)
        | ((with_reducible refine at_loadGR 25 ?_); refine load_txG (by rfl) _ rfl BT12 rfl RT12_18 ?_)
        | ((with_reducible refine at_load 25 ?_); refine load_tx rfl _ rfl BT15 rfl RT15_18 ?_)
        | ((with_reducible refine at_loadGR 25 ?_); refine load_txG (by rfl) _ rfl BT15 rfl RT15_18 ?_)
      refine (HWh.out v18).mono ?_
      rintro e v19 ⟨rfl, hb⟩
      go_wp2_with fail
      go_ret
      exact ⟨rfl, by rw [HN.out]; exact hL_18.trans (hb.mono (Nat.le_trans hNw hL_18.size))⟩
    · subst hk1 hk2
      go_wp2_with first
        | ((with_reducible refine at_load 25 ?_); refine load_tx rfl _ rfl BT3 rfl RT3_17 ?_)
        | ((with_reducible refine at_loadGR 25 ?_); refine load_txG (by rfl) _ rfl BT3 rfl RT3_17 ?_)
        | ((with_reducible refine at_load 28 ?_); refine load_sec rfl _ rfl BX4 rfl RX4_17 ?_)
        | ((with_reducible refine at_loadG 28 ?_); refine load_secG (by rfl) _ rfl BX4 rfl RX4_17 ?_)
        | ((with_reducible refine at_load 28 ?_); refine load_sec rfl _ rfl BX7 rfl RX7_17 ?_)
        | ((with_reducible refine at_loadG 28 ?_); refine load_secG (by rfl) _ rfl BX7 rfl RX7_17 ?_)
        | ((with_reducible refine at_load 25 ?_); refine load_tx rfl _ rfl BT9 rfl RT9_17 ?_)
        | ((with_reducible refine at_loadGR 25 ?_); refine load_txG (by rfl) _ rfl BT9 rfl RT9_17 ?_)
        | ((with_reducible refine at_load 25 ?_); refine load_tx rfl _ rfl BT12 rfl RT12_17 ?_)
        | ((with_reducible refine at_loadGR 25 ?_); refine load_txG (by rfl) _ rfl BT12 rfl RT12_17 ?_)
        | ((with_reducible refine at_load 25 ?_); refine load_tx rfl _ rfl BT15 rfl hR17 ?_)
        | ((with_reducible refine at_loadGR 25 ?_); refine load_txG (by rfl) _ rfl BT15 rfl hR17 ?_)
      refine (rsame14_any v17 v17.heap.size G G A12 A15 c12 c15 Sa_17.out Sb_17.out (Nat.le_refl _) hGl hGl).mono ?_
      rintro e v20 ⟨rfl, hb20⟩
      have RT3_20 := RT3_17.below RT3_17.lt hb20
      have RX4_20 := RX4_17.below RX4_17.lt hb20
      have RX7_20 := RX7_17.below RX7_17.lt hb20
      have RT9_20 := RT9_17.below RT9_17.lt hb20
      have RT12_20 := RT12_17.below RT12_17.lt hb20
      have RT15_20 := hR17.below hR17.lt hb20
      have St_20 := Lib.hid ((St_17.out.below hb20).le hb20.size)
      have S9_20 := Lib.hid ((S9_17.out.below hb20).le hb20.size)
      have Sa_20 := Lib.hid ((Sa_17.out.below hb20).le hb20.size)
      have Sb_20 := Lib.hid ((Sb_17.out.below hb20).le hb20.size)
      have hL_20 := hL_17.trans (hb20.mono (Nat.le_trans hNw hL_17.size))
      rw [sameT_self]
      clear RT3_17 RX4_17 RX7_17 RT9_17 RT12_17 hR17 St_17 S9_17 Sa_17 Sb_17 hL_17 hb20
      go_wp2_with first
        | ((with_reducible refine at_load 25 ?_); refine load_tx rfl _ rfl BT3 rfl RT3_20 ?_)
        | ((with_reducible refine at_loadGR 25 ?_); refine load_txG (by rfl) _ rfl BT3 rfl RT3_20 ?_)
        | ((with_reducible refine at_load 28 ?_); refine load_sec rfl _ rfl BX4 rfl RX4_20 ?_)
        | ((with_reducible refine at_loadG 28 ?_); refine load_secG (by rfl) _ rfl BX4 rfl RX4_20 ?_)
        | ((with_reducible refine at_load 28 ?_); refine load_sec rfl _ rfl BX7 rfl RX7_20 ?_)
        | ((with_reducible refine at_loadG 28 ?_); refine load_secG (by rfl) _ rfl BX7 rfl RX7_20 ?_)
        | ((with_reducible refine at_load 25 ?_); refine load_tx rfl _ rfl BT9 rfl RT9_20 ?_)
        | ((with_reducible refine at_loadGR 25 ?_); refine load_txG (by rfl) _ rfl BT9 rfl RT9_20 ?_)
        | ((with_reducible refine at_load 25 ?_); refine load_tx rfl _ rfl BT12 rfl RT12_20 ?_)
        | ((with_reducible refine at_loadGR 25 ?_); refine load_txG (by rfl) _ rfl BT12 rfl RT12_20 ?_)
        | ((with_reducible refine at_load 25 ?_); refine load_tx rfl _ rfl BT15 rfl RT15_20 ?_)
        | ((with_reducible refine at_loadGR 25 ?_); refine load_txG (by rfl) _ rfl BT15 rfl RT15_20 ?_)
      refine (HWh.out v20).mono ?_
      rintro e v21 ⟨rfl, hb⟩
      go_wp2_with fail
      go_ret
      exact ⟨rfl, by rw [HN.out]; exact hL_20.trans (hb.mono (Nat.le_trans hNw hL_20.size))⟩
  · go_wp2_with first
      | ((with_reducible refine at_load 25 ?_); refine load_tx rfl _ rfl BT3 rfl RT3_7 ?_)
      | ((with_reducible refine at_loadGR 25 ?_); refine load_txG (by rfl) _ rfl BT3 rfl RT3_7 ?_)
      | ((with_reducible refine at_load 28 ?_); refine load_sec rfl _ rfl BX4 rfl RX4_7 ?_)
      | ((with_reducible refine at_loadG 28 ?_); refine load_secG (by rfl) _ rfl BX4 rfl RX4_7 ?_)
      | ((with_reducible refine at_load 28 ?_); refine load_sec rfl _ rfl BX7 rfl hR7 ?_)
      | ((with_reducible refine at_loadG 28 ?_); refine load_secG (by rfl) _ rfl BX7 rfl hR7 ?_)
    refine (lget_any v7 x n).mono ?_
    rintro e v22 ⟨A22, c22, rfl, hq22, hb22⟩
    have RT3_22 := RT3_7.below RT3_7.lt hb22
    have RX4_22 := RX4_7.below RX4_7.lt hb22
    have RX7_22 := hR7.below hR7.lt hb22
    have St_22 := Lib.hid ((St_7.out.below hb22).le hb22.size)
    have hL_22 := hL_7.trans (hb22.mono (Nat.le_trans hNw hL_7.size))
    rw [HG.out] at hq22
    rw [HG.out, Hisb.out, Hkc.out]
    have hq22 := Lib.hid hq22
    clear RT3_7 RX4_7 hR7 St_7 hL_7 hb22
    go_wp2_with ((with_reducible refine at_alloc 25 ?_); refine alloc_tx rfl rfl ?_)
    intro v23 hA24 hbA24 hsA24
    clear hsA24
    go_wp2_with ((with_reducible refine at_store 25 ?_); refine store_tx rfl _ _ rfl (v22.heap.size) G A22 c22 rfl rfl hA24 (txc_length _ _ _) ?_)
    intro v24 hR24 hgR24 hsR24
    have hb24 := below_grown hbA24 hgR24 (Nat.le_refl _) hbA24.size
    clear hA24 hbA24 hgR24 hsR24
    have RT3_24 := RT3_22.below RT3_22.lt hb24
    have RX4_24 := RX4_22.below RX4_22.lt hb24
    have RX7_24 := RX7_22.below RX7_22.lt hb24
    have St_24 := Lib.hid ((St_22.out.below hb24).le hb24.size)
    have Sa_24 := Lib.hid ((hq22.out.below hb24).le hb24.size)
    have hL_24 := hL_22.trans (hb24.mono (Nat.le_trans hNw hL_22.size))
    obtain ⟨BT12, hBT12⟩ : ∃ BT12, v22.heap.size = BT12 := ⟨_, rfl⟩
    rw [hBT12] at hR24
    try rw [hBT12]
    clear RT3_22 RX4_22 RX7_22 St_22 hq22 hL_22 hb24 hBT12
    go_wp2_with first
      | ((with_reducible refine at_load 25 ?_); refine load_tx rfl _ rfl BT3 rfl RT3_24 ?_)
      | ((with_reducible refine at_loadGR 25 ?_); refine load_txG (by rfl) _ rfl BT3 rfl RT3_24 ?_)
      | ((with_reducible refine at_load 28 ?_); refine load_sec rfl _ rfl BX4 rfl RX4_24 ?_)
      | ((with_reducible refine at_loadG 28 ?_); refine load_secG (by rfl) _ rfl BX4 rfl RX4_24 ?_)
      | ((with_reducible refine at_load 28 ?_); refine load_sec rfl _ rfl BX7 rfl RX7_24 ?_)
      | ((with_reducible refine at_loadG 28 ?_); refine load_secG (by rfl) _ rfl BX7 rfl RX7_24 ?_)
      | ((with_reducible refine at_load 25 ?_); refine load_tx rfl _ rfl BT12 rfl hR24 ?_)
      | ((with_reducible refine at_loadGR 25 ?_); refine load_txG (by rfl) _ rfl BT12 rfl hR24 ?_)
    refine (rget14_any v24 x n).mono ?_
    rintro e v25 ⟨A25, c25, rfl, hq25, hb25⟩
    have RT3_25 := RT3_24.below RT3_24.lt hb25
    have RX4_25 := RX4_24.below RX4_24.lt hb25
    have RX7_25 := RX7_24.below RX7_24.lt hb25
    have RT12_25 := hR24.below hR24.lt hb25
    have St_25 := Lib.hid ((St_24.out.below hb25).le hb25.size)
    have Sa_25 := Lib.hid ((Sa_24.out.below hb25).le hb25.size)
    have hL_25 := hL_24.trans (hb25.mono (Nat.le_trans hNw hL_24.size))
    rw [HG.out] at hq25
    rw [HG.out, Hisb.out, Hob.out]
    have hq25 := Lib.hid hq25
    clear RT3_24 RX4_24 RX7_24 hR24 St_24 Sa_24 hL_24 hb25
    go_wp2_with ((with_reducible refine at_alloc 25 ?_); refine alloc_tx rfl rfl ?_)
    intro v26 hA27 hbA27 hsA27
    clear hsA27
    go_wp2_with ((with_reducible refine at_store 25 ?_); refine store_tx rfl _ _ rfl (v25.heap.size) G A25 c25 rfl rfl hA27 (txc_length _ _ _) ?_)
    intro v27 hR27 hgR27 hsR27
    have hb27 := below_grown hbA27 hgR27 (Nat.le_refl _) hbA27.size
    clear hA27 hbA27 hgR27 hsR27
    have RT3_27 := RT3_25.below RT3_25.lt hb27
    have RX4_27 := RX4_25.below RX4_25.lt hb27
    have RX7_27 := RX7_25.below RX7_25.lt hb27
    have RT12_27 := RT12_25.below RT12_25.lt hb27
    have St_27 := Lib.hid ((St_25.out.below hb27).le hb27.size)
    have Sa_27 := Lib.hid ((Sa_25.out.below hb27).le hb27.size)
    have Sb_27 := Lib.hid ((hq25.out.below hb27).le hb27.size)
    have hL_27 := hL_25.trans (hb27.mono (Nat.le_trans hNw hL_25.size))
    obtain ⟨BT15, hBT15⟩ : ∃ BT15, v25.heap.size = BT15 := ⟨_, rfl⟩
    rw [hBT15] at hR27
    try rw [hBT15]
    clear RT3_25 RX4_25 RX7_25 RT12_25 St_25 Sa_25 hq25 hL_25 hb27 hBT15
    rcases hcode with ⟨hk1, hk2⟩ | ⟨hk1, hk2⟩
    · subst hk1 hk2
      go_wp2_with first
        | ((with_reducible refine at_load 25 ?_); refine load_tx rfl _ rfl BT3 rfl RT3_27 ?_)
        | ((with_reducible refine at_loadGR 25 ?_); refine load_txG (by rfl) _ rfl BT3 rfl RT3_27 ?_)
        | ((with_reducible refine at_load 28 ?_); refine load_sec rfl _ rfl BX4 rfl RX4_27 ?_)
        | ((with_reducible refine at_loadG 28 ?_); refine load_secG (by rfl) _ rfl BX4 rfl RX4_27 ?_)
        | ((with_reducible refine at_load 28 ?_); refine load_sec rfl _ rfl BX7 rfl RX7_27 ?_)
        | ((with_reducible refine at_loadG 28 ?_); refine load_secG (by rfl) _ rfl BX7 rfl RX7_27 ?_)
        | ((with_reducible refine at_load 25 ?_); refine load_tx rfl _ rfl BT12 rfl RT12_27 ?_)
        | ((with_reducible refine at_loadGR 25 ?_); refine load_txG (by rfl) _ rfl BT12 rfl RT12_27 ?_)
        | ((with_reducible refine at_load 25 ?_); refine load_tx rfl _ rfl BT15 rfl hR27 ?_)
        | ((with_reducible refine at_loadGR 25 ?_); refine load_txG (by rfl) _ rfl BT15 rfl hR27 ?_)
      refine (rsame14_any v27 v27.heap.size G G A22 A25 c22 c25 Sa_27.out Sb_27.out (Nat.le_refl _) hGl hGl).mono ?_
      rintro e v28 ⟨rfl, hb28⟩
      have RT3_28 := RT3_27.below RT3_27.lt hb28
      have RX4_28 := RX4_27.below RX4_27.lt hb28
      have RX7_28 := RX7_27.below RX7_27.lt hb28
      have RT12_28 := RT12_27.below RT12_27.lt hb28
      have RT15_28 := hR27.below hR27.lt hb28
      have St_28 := Lib.hid ((St_27.out.below hb28).le hb28.size)
      have Sa_28 := Lib.hid ((Sa_27.out.below hb28).le hb28.size)
      have Sb_28 := Lib.hid ((Sb_27.out.below hb28).le hb28.size)
      have hL_28 := hL_27.trans (hb28.mono (Nat.le_trans hNw hL_27.size))
      rw [sameT_self]
      clear RT3_27 RX4_27 RX7_27 RT12_27 hR27 St_27 Sa_27 Sb_27 hL_27 hb28
      go_wp2_with first
        | ((with_reducible refine at_load 25 ?_); refine load_tx rfl _ rfl BT3 rfl RT3_28 ?_)
        | ((with_reducible refine at_loadGR 25 ?_); refine load_txG (by rfl) _ rfl BT3 rfl RT3_28 ?_)
        | ((with_reducible refine at_load 28 ?_); refine load_sec rfl _ rfl BX4 rfl RX4_28 ?_)
        | ((with_reducible refine at_loadG 28 ?_); refine load_secG (by rfl) _ rfl BX4 rfl RX4_28 ?_)
        | ((with_reducible refine at_load 28 ?_); refine load_sec rfl _ rfl BX7 rfl RX7_28 ?_)
        | ((with_reducible refine at_loadG 28 ?_); refine load_secG (by rfl) _ rfl BX7 rfl RX7_28 ?_)
        | ((with_reducible refine at_load 25 ?_); refine load_tx rfl _ rfl BT12 rfl RT12_28 ?_)
        | ((with_reducible refine at_loadGR 25 ?_); refine load_txG (by rfl) _ rfl BT12 rfl RT12_28 ?_)
        | ((with_reducible refine at_load 25 ?_); refine load_tx rfl _ rfl BT15 rfl RT15_28 ?_)
        | ((with_reducible refine at_loadGR 25 ?_); refine load_txG (by rfl) _ rfl BT15 rfl RT15_28 ?_)
      refine (HWh.out v28).mono ?_
      rintro e v29 ⟨rfl, hb⟩
      go_wp2_with fail
      go_ret
      exact ⟨rfl, by rw [HN.out]; exact hL_28.trans (hb.mono (Nat.le_trans hNw hL_28.size))⟩
    · subst hk1 hk2
      go_wp2_with first
        | ((with_reducible refine at_load 25 ?_); refine load_tx rfl _ rfl BT3 rfl RT3_27 ?_)
        | ((with_reducible refine at_loadGR 25 ?_); refine load_txG (by rfl) _ rfl BT3 rfl RT3_27 ?_)
        | ((with_reducible refine at_load 28 ?_); refine load_sec rfl _ rfl BX4 rfl RX4_27 ?_)
        | ((with_reducible refine at_loadG 28 ?_); refine load_secG (by rfl) _ rfl BX4 rfl RX4_27 ?_)
        | ((with_reducible refine at_load 28 ?_); refine load_sec rfl _ rfl BX7 rfl RX7_27 ?_)
        | ((with_reducible refine at_loadG 28 ?_); refine load_secG (by rfl) _ rfl BX7 rfl RX7_27 ?_)
        | ((with_reducible refine at_load 25 ?_); refine load_tx rfl _ rfl BT12 rfl RT12_27 ?_)
        | ((with_reducible refine at_loadGR 25 ?_); refine load_txG (by rfl) _ rfl BT12 rfl RT12_27 ?_)
        | ((with_reducible refine at_load 25 ?_); refine load_tx rfl _ rfl BT15 rfl hR27 ?_)
        | ((with_reducible refine at_loadGR 25 ?_); refine load_txG (by rfl) _ rfl BT15 rfl hR27 ?_)
      refine (rsame14_any v27 v27.heap.size G G A22 A25 c22 c25 Sa_27.out Sb_27.out (Nat.le_refl _) hGl hGl).mono ?_
      rintro e v30 ⟨rfl, hb30⟩
      have RT3_30 := RT3_27.below RT3_27.lt hb30
      have RX4_30 := RX4_27.below RX4_27.lt hb30
      have RX7_30 := RX7_27.below RX7_27.lt hb30
      have RT12_30 := RT12_27.below RT12_27.lt hb30
      have RT15_30 := hR27.below hR27.lt hb30
      have St_30 := Lib.hid ((St_27.out.below hb30).le hb30.size)
      have Sa_30 := Lib.hid ((Sa_27.out.below hb30).le hb30.size)
      have Sb_30 := Lib.hid ((Sb_27.out.below hb30).le hb30.size)
      have hL_30 := hL_27.trans (hb30.mono (Nat.le_trans hNw hL_27.size))
      rw [sameT_self]
      clear RT3_27 RX4_27 RX7_27 RT12_27 hR27 St_27 Sa_27 Sb_27 hL_27 hb30
      go_wp2_with first
        | ((with_reducible refine at_load 25 ?_); refine load_tx rfl _ rfl BT3 rfl RT3_30 ?_)
        | ((with_reducible refine at_loadGR 25 ?_); refine load_txG (by rfl) _ rfl BT3 rfl RT3_30 ?_)
        | ((with_reducible refine at_load 28 ?_); refine load_sec rfl _ rfl BX4 rfl RX4_30 ?_)
        | ((with_reducible refine at_loadG 28 ?_); refine load_secG (by rfl) _ rfl BX4 rfl RX4_30 ?_)
        | ((with_reducible refine at_load 28 ?_); refine load_sec rfl _ rfl BX7 rfl RX7_30 ?_)
        | ((with_reducible refine at_loadG 28 ?_); refine load_secG (by rfl) _ rfl BX7 rfl RX7_30 ?_)
        | ((with_reducible refine at_load 25 ?_); refine load_tx rfl _ rfl BT12 rfl RT12_30 ?_)
        | ((with_reducible refine at_loadGR 25 ?_); refine load_txG (by rfl) _ rfl BT12 rfl RT12_30 ?_)
        | ((with_reducible refine at_load 25 ?_); refine load_tx rfl _ rfl BT15 rfl RT15_30 ?_)
        | ((with_reducible refine at_loadGR 25 ?_); refine load_txG (by rfl) _ rfl BT15 rfl RT15_30 ?_)
      refine (HWh.out v30).mono ?_
      rintro e v31 ⟨rfl, hb⟩
      go_wp2_with fail
      go_ret
      exact ⟨rfl, by rw [HN.out]; exact hL_30.trans (hb.mono (Nat.le_trans hNw hL_30.size))⟩
end Go.Proofs.Ytkfhbngphkobfaa
