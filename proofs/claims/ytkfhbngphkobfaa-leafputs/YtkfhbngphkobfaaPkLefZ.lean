/-
  Layer 14: the law LeafPuts.
-/
import Derived.Test.YtkfhbngphkobfaaPkLefW
namespace Go.Proofs.Ytkfhbngphkobfaa
open Go.RowKit
set_option linter.unusedVariables false
set_option linter.unusedSimpArgs false

theorem sameT_self' (t : Tx) : sameT t t = true := decide_eq_true rfl
theorem movedL_len (t : Tx) (x y : Int) : (movedL t x y).slots.length = t.slots.length := List.length_map _

set_option maxRecDepth 100000 in
set_option maxHeartbeats 16000000 in
theorem puts14_any (HW : Works14) (w : World) (t u : Tx) (A A' : Option Addr) (c c' : Nat) (n x y : Int) (h : LiesV w w.heap.size A (slv t.slots)) (h' : LiesV w w.heap.size A' (slv u.slots)) :
    Calls Try.prog 3 #[.agg (txc t A c).toArray, .agg (txc u A' c').toArray, .int .i64 n, .int .i64 x, .int .i64 y] w fun e w' => e = .returned (.bool true) ∧ Below w.heap.size w w' := by
  have HT := Lib.hid h
  have HU := Lib.hid h'
  have HWh := Lib.hid HW
  have hNw : w.heap.size ≤ w.heap.size := Nat.le_refl _
  have hL_0 : Below w.heap.size w w := Below.refl _ _
  clear h h' HW
  go_enter Try.func3, Try.ntmps3
  go_wp2_with ((with_reducible refine at_box 25 ?_); refine box_tx rfl _ rfl t A c rfl ?_)
  intro v1 hR1 hb1 hs1
  clear hs1
  have St_1 := Lib.hid ((HT.out.below hb1).le hb1.size)
  have Su_1 := Lib.hid ((HU.out.below hb1).le hb1.size)
  have hL_1 := hL_0.trans (hb1.mono (Nat.le_trans hNw hL_0.size))
  obtain ⟨BT5, hBT5⟩ : ∃ BT5, w.heap.size = BT5 := ⟨_, rfl⟩
  rw [hBT5] at hR1
  try rw [hBT5]
  clear  hb1 hBT5
  go_wp2_with ((with_reducible refine at_box 25 ?_); refine box_tx rfl _ rfl u A' c' rfl ?_)
  intro v2 hR2 hb2 hs2
  clear hs2
  have RT5_2 := hR1.below hR1.lt hb2
  have St_2 := Lib.hid ((St_1.out.below hb2).le hb2.size)
  have Su_2 := Lib.hid ((Su_1.out.below hb2).le hb2.size)
  have hL_2 := hL_1.trans (hb2.mono (Nat.le_trans hNw hL_1.size))
  obtain ⟨BT6, hBT6⟩ : ∃ BT6, v1.heap.size = BT6 := ⟨_, rfl⟩
  rw [hBT6] at hR2
  try rw [hBT6]
  clear hR1 St_1 Su_1 hL_1 hb2 hBT6
  clear hNw
  obtain ⟨N, hN⟩ : ∃ N, w.heap.size = N := ⟨_, rfl⟩
  have hNw : N ≤ w.heap.size := by omega
  rw [hN] at hL_2
  have HN := Lib.hid hN
  clear hN
  go_wp2_with first
    | ((with_reducible refine at_load 25 ?_); refine load_tx rfl _ rfl BT5 rfl RT5_2 ?_)
    | ((with_reducible refine at_loadGR 25 ?_); refine load_txG (by rfl) _ rfl BT5 rfl RT5_2 ?_)
    | ((with_reducible refine at_load 25 ?_); refine load_tx rfl _ rfl BT6 rfl hR2 ?_)
    | ((with_reducible refine at_loadGR 25 ?_); refine load_txG (by rfl) _ rfl BT6 rfl hR2 ?_)
  refine (light14_any v2 t A c).mono ?_
  rintro e v3 ⟨rfl, hb3⟩
  have RT5_3 := RT5_2.below RT5_2.lt hb3
  have RT6_3 := hR2.below hR2.lt hb3
  have St_3 := Lib.hid ((St_2.out.below hb3).le hb3.size)
  have Su_3 := Lib.hid ((Su_2.out.below hb3).le hb3.size)
  have hL_3 := hL_2.trans (hb3.mono (Nat.le_trans hNw hL_2.size))
  clear RT5_2 hR2 St_2 Su_2 hL_2 hb3
  by_cases h1 : t.slots.length < 50
  rotate_left
  · rw [decide_eq_false h1]
    go_wp2_with first
      | ((with_reducible refine at_load 25 ?_); refine load_tx rfl _ rfl BT5 rfl RT5_3 ?_)
      | ((with_reducible refine at_loadGR 25 ?_); refine load_txG (by rfl) _ rfl BT5 rfl RT5_3 ?_)
      | ((with_reducible refine at_load 25 ?_); refine load_tx rfl _ rfl BT6 rfl RT6_3 ?_)
      | ((with_reducible refine at_loadGR 25 ?_); refine load_txG (by rfl) _ rfl BT6 rfl RT6_3 ?_)
    refine (HWh.out v3).mono ?_
    rintro e v4 ⟨rfl, hb⟩
    go_wp2_with fail
    go_ret
    exact ⟨rfl, by rw [HN.out]; exact hL_3.trans (hb.mono (Nat.le_trans hNw hL_3.size))⟩
  rw [decide_eq_true h1]
  go_wp2_with first
    | ((with_reducible refine at_load 25 ?_); refine load_tx rfl _ rfl BT5 rfl RT5_3 ?_)
    | ((with_reducible refine at_loadGR 25 ?_); refine load_txG (by rfl) _ rfl BT5 rfl RT5_3 ?_)
    | ((with_reducible refine at_load 25 ?_); refine load_tx rfl _ rfl BT6 rfl RT6_3 ?_)
    | ((with_reducible refine at_loadGR 25 ?_); refine load_txG (by rfl) _ rfl BT6 rfl RT6_3 ?_)
  refine (light14_any v3 u A' c').mono ?_
  rintro e v5 ⟨rfl, hb5⟩
  have RT5_5 := RT5_3.below RT5_3.lt hb5
  have RT6_5 := RT6_3.below RT6_3.lt hb5
  have St_5 := Lib.hid ((St_3.out.below hb5).le hb5.size)
  have Su_5 := Lib.hid ((Su_3.out.below hb5).le hb5.size)
  have hL_5 := hL_3.trans (hb5.mono (Nat.le_trans hNw hL_3.size))
  clear RT5_3 RT6_3 St_3 Su_3 hL_3 hb5
  by_cases h2 : u.slots.length < 50
  rotate_left
  · rw [decide_eq_false h2]
    go_wp2_with first
      | ((with_reducible refine at_load 25 ?_); refine load_tx rfl _ rfl BT5 rfl RT5_5 ?_)
      | ((with_reducible refine at_loadGR 25 ?_); refine load_txG (by rfl) _ rfl BT5 rfl RT5_5 ?_)
      | ((with_reducible refine at_load 25 ?_); refine load_tx rfl _ rfl BT6 rfl RT6_5 ?_)
      | ((with_reducible refine at_loadGR 25 ?_); refine load_txG (by rfl) _ rfl BT6 rfl RT6_5 ?_)
    refine (HWh.out v5).mono ?_
    rintro e v6 ⟨rfl, hb⟩
    go_wp2_with fail
    go_ret
    exact ⟨rfl, by rw [HN.out]; exact hL_5.trans (hb.mono (Nat.le_trans hNw hL_5.size))⟩
  rw [decide_eq_true h2]
  obtain ⟨et, het⟩ : ∃ k, checkL t 200 = k := ⟨_, rfl⟩
  have Het := Lib.hid het
  clear het
  obtain ⟨Pt, hPt⟩ : ∃ k, putS14 t = k := ⟨_, rfl⟩
  have HPt := Lib.hid hPt
  clear hPt
  obtain ⟨ck, hck⟩ : ∃ k, checkL t n = k := ⟨_, rfl⟩
  have Hck := Lib.hid hck
  clear hck
  obtain ⟨st, hst⟩ : ∃ k, sameT t u = k := ⟨_, rfl⟩
  have Hst := Lib.hid hst
  clear hst
  obtain ⟨mt, hmt⟩ : ∃ k, metL t x = k := ⟨_, rfl⟩
  have Hmt := Lib.hid hmt
  clear hmt
  obtain ⟨Mv, hMv⟩ : ∃ k, movedL t x y = k := ⟨_, rfl⟩
  have hMl : Mv.slots.length ≤ 1000 := by rw [← hMv, movedL_len]; omega
  have HMv := Lib.hid hMv
  clear hMv
  go_wp2_with first
    | ((with_reducible refine at_load 25 ?_); refine load_tx rfl _ rfl BT5 rfl RT5_5 ?_)
    | ((with_reducible refine at_loadGR 25 ?_); refine load_txG (by rfl) _ rfl BT5 rfl RT5_5 ?_)
    | ((with_reducible refine at_load 25 ?_); refine load_tx rfl _ rfl BT6 rfl RT6_5 ?_)
    | ((with_reducible refine at_loadGR 25 ?_); refine load_txG (by rfl) _ rfl BT6 rfl RT6_5 ?_)
  refine (lput_any v5 v5.heap.size t A c St_5.out (Nat.le_refl _)).mono ?_
  rintro e v7 ⟨rfl, hb7⟩
  have RT5_7 := RT5_5.below RT5_5.lt hb7
  have RT6_7 := RT6_5.below RT6_5.lt hb7
  have St_7 := Lib.hid ((St_5.out.below hb7).le hb7.size)
  have Su_7 := Lib.hid ((Su_5.out.below hb7).le hb7.size)
  have hL_7 := hL_5.trans (hb7.mono (Nat.le_trans hNw hL_5.size))
  rw [Het.out, HPt.out]
  clear RT5_5 RT6_5 St_5 Su_5 hL_5 hb7
  go_wp2_with ((with_reducible refine at_alloc 28 ?_); refine alloc_sec rfl rfl ?_)
  intro v8 hA9 hbA9 hsA9
  clear hsA9
  go_wp2_with ((with_reducible refine at_store 28 ?_); refine store_sec rfl _ _ rfl (v7.heap.size) Pt rfl rfl hA9 (Sec.cs_length _) ?_)
  intro v9 hR9 hgR9 hsR9
  have hb9 := below_grown hbA9 hgR9 (Nat.le_refl _) hbA9.size
  clear hA9 hbA9 hgR9 hsR9
  have RT5_9 := RT5_7.below RT5_7.lt hb9
  have RT6_9 := RT6_7.below RT6_7.lt hb9
  have St_9 := Lib.hid ((St_7.out.below hb9).le hb9.size)
  have Su_9 := Lib.hid ((Su_7.out.below hb9).le hb9.size)
  have hL_9 := hL_7.trans (hb9.mono (Nat.le_trans hNw hL_7.size))
  obtain ⟨BX11, hBX11⟩ : ∃ BX11, v7.heap.size = BX11 := ⟨_, rfl⟩
  rw [hBX11] at hR9
  try rw [hBX11]
  clear RT5_7 RT6_7 St_7 Su_7 hL_7 hb9 hBX11
  go_wp2_with first
    | ((with_reducible refine at_load 25 ?_); refine load_tx rfl _ rfl BT5 rfl RT5_9 ?_)
    | ((with_reducible refine at_loadGR 25 ?_); refine load_txG (by rfl) _ rfl BT5 rfl RT5_9 ?_)
    | ((with_reducible refine at_load 25 ?_); refine load_tx rfl _ rfl BT6 rfl RT6_9 ?_)
    | ((with_reducible refine at_loadGR 25 ?_); refine load_txG (by rfl) _ rfl BT6 rfl RT6_9 ?_)
    | ((with_reducible refine at_load 28 ?_); refine load_sec rfl _ rfl BX11 rfl hR9 ?_)
    | ((with_reducible refine at_loadG 28 ?_); refine load_secG (by rfl) _ rfl BX11 rfl hR9 ?_)
  refine (rput14_any v9 v9.heap.size t A c St_9.out (Nat.le_refl _)).mono ?_
  rintro e v10 ⟨rfl, hb10⟩
  have RT5_10 := RT5_9.below RT5_9.lt hb10
  have RT6_10 := RT6_9.below RT6_9.lt hb10
  have RX11_10 := hR9.below hR9.lt hb10
  have St_10 := Lib.hid ((St_9.out.below hb10).le hb10.size)
  have Su_10 := Lib.hid ((Su_9.out.below hb10).le hb10.size)
  have hL_10 := hL_9.trans (hb10.mono (Nat.le_trans hNw hL_9.size))
  rw [Het.out, HPt.out]
  clear RT5_9 RT6_9 hR9 St_9 Su_9 hL_9 hb10
  go_wp2_with ((with_reducible refine at_alloc 28 ?_); refine alloc_sec rfl rfl ?_)
  intro v11 hA12 hbA12 hsA12
  clear hsA12
  go_wp2_with ((with_reducible refine at_store 28 ?_); refine store_sec rfl _ _ rfl (v10.heap.size) Pt rfl rfl hA12 (Sec.cs_length _) ?_)
  intro v12 hR12 hgR12 hsR12
  have hb12 := below_grown hbA12 hgR12 (Nat.le_refl _) hbA12.size
  clear hA12 hbA12 hgR12 hsR12
  have RT5_12 := RT5_10.below RT5_10.lt hb12
  have RT6_12 := RT6_10.below RT6_10.lt hb12
  have RX11_12 := RX11_10.below RX11_10.lt hb12
  have St_12 := Lib.hid ((St_10.out.below hb12).le hb12.size)
  have Su_12 := Lib.hid ((Su_10.out.below hb12).le hb12.size)
  have hL_12 := hL_10.trans (hb12.mono (Nat.le_trans hNw hL_10.size))
  obtain ⟨BX13, hBX13⟩ : ∃ BX13, v10.heap.size = BX13 := ⟨_, rfl⟩
  rw [hBX13] at hR12
  try rw [hBX13]
  clear RT5_10 RT6_10 RX11_10 St_10 Su_10 hL_10 hb12 hBX13
  go_wp2_with first
    | ((with_reducible refine at_load 25 ?_); refine load_tx rfl _ rfl BT5 rfl RT5_12 ?_)
    | ((with_reducible refine at_loadGR 25 ?_); refine load_txG (by rfl) _ rfl BT5 rfl RT5_12 ?_)
    | ((with_reducible refine at_load 25 ?_); refine load_tx rfl _ rfl BT6 rfl RT6_12 ?_)
    | ((with_reducible refine at_loadGR 25 ?_); refine load_txG (by rfl) _ rfl BT6 rfl RT6_12 ?_)
    | ((with_reducible refine at_load 28 ?_); refine load_sec rfl _ rfl BX11 rfl RX11_12 ?_)
    | ((with_reducible refine at_loadG 28 ?_); refine load_secG (by rfl) _ rfl BX11 rfl RX11_12 ?_)
    | ((with_reducible refine at_load 28 ?_); refine load_sec rfl _ rfl BX13 rfl hR12 ?_)
    | ((with_reducible refine at_loadG 28 ?_); refine load_secG (by rfl) _ rfl BX13 rfl hR12 ?_)
  refine (lmoved_any v12 v12.heap.size t A c x y St_12.out (Nat.le_refl _) (by omega)).mono ?_
  rintro e v13 ⟨g13, rfl, hg13, hr13, hb13⟩
  have RT5_13 := RT5_12.below RT5_12.lt hb13
  have RT6_13 := RT6_12.below RT6_12.lt hb13
  have RX11_13 := RX11_12.below RX11_12.lt hb13
  have RX13_13 := hR12.below hR12.lt hb13
  have St_13 := Lib.hid ((St_12.out.below hb13).le hb13.size)
  have Su_13 := Lib.hid ((Su_12.out.below hb13).le hb13.size)
  have hL_13 := hL_12.trans (hb13.mono (Nat.le_trans hNw hL_12.size))
  rw [HMv.out] at hr13
  rw [HMv.out, Hmt.out]
  clear hg13
  clear RT5_12 RT6_12 RX11_12 hR12 St_12 Su_12 hL_12 hb13
  go_wp2_with ((with_reducible refine at_alloc 25 ?_); refine alloc_tx rfl rfl ?_)
  intro v14 hA15 hbA15 hsA15
  clear hsA15
  go_wp2_with ((with_reducible refine at_store 25 ?_); refine store_tx rfl _ _ rfl (v13.heap.size) Mv (some ⟨g13, 0, none⟩) t.slots.length rfl rfl hA15 (txc_length _ _ _) ?_)
  intro v15 hR15 hgR15 hsR15
  have hb15 := below_grown hbA15 hgR15 (Nat.le_refl _) hbA15.size
  clear hA15 hbA15 hgR15 hsR15
  have RT5_15 := RT5_13.below RT5_13.lt hb15
  have RT6_15 := RT6_13.below RT6_13.lt hb15
  have RX11_15 := RX11_13.below RX11_13.lt hb15
  have RX13_15 := RX13_13.below RX13_13.lt hb15
  have RM_15 := hr13.below hr13.lt hb15
  have St_15 := Lib.hid ((St_13.out.below hb15).le hb15.size)
  have Su_15 := Lib.hid ((Su_13.out.below hb15).le hb15.size)
  have hL_15 := hL_13.trans (hb15.mono (Nat.le_trans hNw hL_13.size))
  obtain ⟨BT15, hBT15⟩ : ∃ BT15, v13.heap.size = BT15 := ⟨_, rfl⟩
  rw [hBT15] at hR15
  try rw [hBT15]
  clear RT5_13 RT6_13 RX11_13 RX13_13 hr13 St_13 Su_13 hL_13 hb15 hBT15
  go_wp2_with first
    | ((with_reducible refine at_load 25 ?_); refine load_tx rfl _ rfl BT5 rfl RT5_15 ?_)
    | ((with_reducible refine at_loadGR 25 ?_); refine load_txG (by rfl) _ rfl BT5 rfl RT5_15 ?_)
    | ((with_reducible refine at_load 25 ?_); refine load_tx rfl _ rfl BT6 rfl RT6_15 ?_)
    | ((with_reducible refine at_loadGR 25 ?_); refine load_txG (by rfl) _ rfl BT6 rfl RT6_15 ?_)
    | ((with_reducible refine at_load 28 ?_); refine load_sec rfl _ rfl BX11 rfl RX11_15 ?_)
    | ((with_reducible refine at_loadG 28 ?_); refine load_secG (by rfl) _ rfl BX11 rfl RX11_15 ?_)
    | ((with_reducible refine at_load 28 ?_); refine load_sec rfl _ rfl BX13 rfl RX13_15 ?_)
    | ((with_reducible refine at_loadG 28 ?_); refine load_secG (by rfl) _ rfl BX13 rfl RX13_15 ?_)
    | ((with_reducible refine at_load 25 ?_); refine load_tx rfl _ rfl BT15 rfl hR15 ?_)
    | ((with_reducible refine at_loadGR 25 ?_); refine load_txG (by rfl) _ rfl BT15 rfl hR15 ?_)
  refine (rmoved14_any v15 v15.heap.size t A c x y St_15.out (Nat.le_refl _) (by omega)).mono ?_
  rintro e v16 ⟨A16, c16, rfl, hq16, hb16⟩
  have RT5_16 := RT5_15.below RT5_15.lt hb16
  have RT6_16 := RT6_15.below RT6_15.lt hb16
  have RX11_16 := RX11_15.below RX11_15.lt hb16
  have RX13_16 := RX13_15.below RX13_15.lt hb16
  have RM_16 := RM_15.below RM_15.lt hb16
  have RT15_16 := hR15.below hR15.lt hb16
  have St_16 := Lib.hid ((St_15.out.below hb16).le hb16.size)
  have Su_16 := Lib.hid ((Su_15.out.below hb16).le hb16.size)
  have hL_16 := hL_15.trans (hb16.mono (Nat.le_trans hNw hL_15.size))
  rw [HMv.out] at hq16
  rw [HMv.out, Hmt.out]
  have hq16 := Lib.hid hq16
  clear RT5_15 RT6_15 RX11_15 RX13_15 RM_15 hR15 St_15 Su_15 hL_15 hb16
  go_wp2_with ((with_reducible refine at_alloc 25 ?_); refine alloc_tx rfl rfl ?_)
  intro v17 hA18 hbA18 hsA18
  clear hsA18
  go_wp2_with ((with_reducible refine at_store 25 ?_); refine store_tx rfl _ _ rfl (v16.heap.size) Mv A16 c16 rfl rfl hA18 (txc_length _ _ _) ?_)
  intro v18 hR18 hgR18 hsR18
  have hb18 := below_grown hbA18 hgR18 (Nat.le_refl _) hbA18.size
  clear hA18 hbA18 hgR18 hsR18
  have RT5_18 := RT5_16.below RT5_16.lt hb18
  have RT6_18 := RT6_16.below RT6_16.lt hb18
  have RX11_18 := RX11_16.below RX11_16.lt hb18
  have RX13_18 := RX13_16.below RX13_16.lt hb18
  have RM_18 := RM_16.below RM_16.lt hb18
  have RT15_18 := RT15_16.below RT15_16.lt hb18
  have St_18 := Lib.hid ((St_16.out.below hb18).le hb18.size)
  have Su_18 := Lib.hid ((Su_16.out.below hb18).le hb18.size)
  have Sm_18 := Lib.hid ((hq16.out.below hb18).le hb18.size)
  have hL_18 := hL_16.trans (hb18.mono (Nat.le_trans hNw hL_16.size))
  obtain ⟨BT17, hBT17⟩ : ∃ BT17, v16.heap.size = BT17 := ⟨_, rfl⟩
  rw [hBT17] at hR18
  try rw [hBT17]
  clear RT5_16 RT6_16 RX11_16 RX13_16 RM_16 RT15_16 St_16 Su_16 hq16 hL_16 hb18 hBT17
  go_wp2_with fail
  have rT5 : RowV v18.drew BT5 _ _ := RT5_18
  have lT5 := rT5.lt
  have rT6 : RowV v18.drew BT6 _ _ := RT6_18
  have lT6 := rT6.lt
  have rX11 : RowV v18.drew BX11 _ _ := RX11_18
  have lX11 := rX11.lt
  have rX13 : RowV v18.drew BX13 _ _ := RX13_18
  have lX13 := rX13.lt
  have rM : RowV v18.drew g13 _ _ := RM_18
  have lM := rM.lt
  have rT15 : RowV v18.drew BT15 _ _ := RT15_18
  have lT15 := rT15.lt
  have rT17 : RowV v18.drew BT17 _ _ := hR18
  have lT17 := rT17.lt
  have slt : LiesV v18.drew v18.drew.heap.size _ _ := St_18.out
  have slu : LiesV v18.drew v18.drew.heap.size _ _ := Su_18.out
  have slm : LiesV v18.drew v18.drew.heap.size _ _ := Sm_18.out
  have hLd : Below N w v18.drew := hL_18.drew
  clear RT5_18 RT6_18 RX11_18 RX13_18 RM_18 RT15_18 hR18 St_18 Su_18 Sm_18 hL_18
  refine wp_region_held_drew (S := fun W => Below v18.drew.heap.size v18.drew W) (by kernel_rfl) (Below.refl _ _) (fun hHeld => ?_)
  generalize v18.drew = wd at *
  have hSc : Below wd.heap.size wd wd := Below.refl _ _
  refine wpAnyH_take (i := 0) (oi := ⟨_, _, _, _, _, _⟩) (v := ?_) rfl (by kernel_rfl) (by kernel_rfl) (by kernel_rfl) (fun _ _ _ h => h) (Or.inl ⟨by rfl, ?_⟩) (by assumption) ?_
  rotate_left
  · intro W hSW; refine exec_load_row 25 (.tmp 5) ?_ BT5 ?_ _ (rT5.below lT5 hSW) Try.underlying25 rfl (txc_info _ _ _) <;> rfl
  try simp only [Act.put, List.setIfInBounds_toArray, List.set_cons_zero, List.set_cons_succ]
  refine wpAnyH_take (i := 1) (oi := ⟨_, _, _, _, _, _⟩) (v := ?_) rfl (by kernel_rfl) (by kernel_rfl) (by kernel_rfl) (fun _ _ _ h => h) (Or.inl ⟨by rfl, ?_⟩) (by assumption) ?_
  rotate_left
  · intro W hSW; go_simp; try with_reducible rfl
  try simp only [Act.put, List.setIfInBounds_toArray, List.set_cons_zero, List.set_cons_succ]
  refine wpAnyH_take (i := 3) (oi := ⟨_, _, _, _, _, _⟩) (v := ?_) rfl (by kernel_rfl) (by kernel_rfl) (by kernel_rfl) (fun _ _ _ h => h) (Or.inl ⟨by rfl, ?_⟩) (by assumption) ?_
  rotate_left
  · intro W hSW; refine exec_load_row 25 (.tmp 5) ?_ BT5 ?_ _ (rT5.below lT5 hSW) Try.underlying25 rfl (txc_info _ _ _) <;> rfl
  try simp only [Act.put, List.setIfInBounds_toArray, List.set_cons_zero, List.set_cons_succ]
  refine wpAnyH_take (i := 4) (oi := ⟨_, _, _, _, _, _⟩) (v := ?_) rfl (by kernel_rfl) (by kernel_rfl) (by kernel_rfl) (fun _ _ _ h => h) (Or.inl ⟨by rfl, ?_⟩) (by assumption) ?_
  rotate_left
  · intro W hSW; go_simp; try with_reducible rfl
  try simp only [Act.put, List.setIfInBounds_toArray, List.set_cons_zero, List.set_cons_succ]
  refine wpAnyH_ready (rs := [2]) (by kernel_rfl) (by simp) ?_
  refine AllReadyH.cons (o := ⟨_, _, _, _, _, _⟩) rfl (fun K hK => ?_) AllReadyH.nil
  go_simp
  refine (lcheck_any _ wd.heap.size t A c n (slt.below hSc) hSc.size).mono ?_
  rintro e x1 ⟨rfl, hb⟩
  try simp only []
  rw [Hck.out]
  have hSx1 := hSc.trans (hb.mono hSc.size)
  refine hK.out _ _ hSx1 (fun hHeld => ?_)
  clear hK K hb hSc
  have hSc := hSx1
  clear hSx1
  try simp only [Act.put, List.setIfInBounds_toArray, List.set_cons_zero, List.set_cons_succ]
  refine wpAnyH_ready (rs := [5]) (by kernel_rfl) (by simp) ?_
  refine AllReadyH.cons (o := ⟨_, _, _, _, _, _⟩) rfl (fun K hK => ?_) AllReadyH.nil
  go_simp
  refine (rcheck14_any _ wd.heap.size t A c n (slt.below hSc) hSc.size).mono ?_
  rintro e x2 ⟨rfl, hb⟩
  try simp only []
  rw [Hck.out]
  have hSx2 := hSc.trans (hb.mono hSc.size)
  refine hK.out _ _ hSx2 (fun hHeld => ?_)
  clear hK K hb hSc
  have hSc := hSx2
  clear hSx2
  try simp only [Act.put, List.setIfInBounds_toArray, List.set_cons_zero, List.set_cons_succ]
  refine wpAnyH_take (i := 6) (oi := ⟨_, _, _, _, _, _⟩) (v := .bool true) rfl (by kernel_rfl) (by kernel_rfl) (by kernel_rfl) (fun _ _ _ h => h) (Or.inl ⟨by rfl, ?_⟩) (by assumption) ?_
  · intro W hSW; go_simp
  try simp only [Act.put, List.setIfInBounds_toArray, List.set_cons_zero, List.set_cons_succ]
  refine wpAnyH_take (i := 7) (oi := ⟨_, _, _, _, _, _⟩) (v := ?_) rfl (by kernel_rfl) (by kernel_rfl) (by kernel_rfl) (fun _ _ _ h => h) (Or.inl ⟨by rfl, ?_⟩) (by assumption) ?_
  rotate_left
  · intro W hSW; go_simp; try with_reducible rfl
  try simp only [Act.put, List.setIfInBounds_toArray, List.set_cons_zero, List.set_cons_succ]
  refine wpAnyH_take (i := 8) (oi := ⟨_, _, _, _, _, _⟩) (v := ?_) rfl (by kernel_rfl) (by kernel_rfl) (by kernel_rfl) (fun _ _ _ h => h) (Or.inl ⟨by rfl, ?_⟩) (by assumption) ?_
  rotate_left
  · intro W hSW; refine exec_load_row 28 (.tmp 11) ?_ BX11 ?_ _ (rX11.below lX11 hSW) Try.underlying28 rfl (sec_size _) <;> rfl
  try simp only [Act.put, List.setIfInBounds_toArray, List.set_cons_zero, List.set_cons_succ]
  refine wpAnyH_take (i := 9) (oi := ⟨_, _, _, _, _, _⟩) (v := ?_) rfl (by kernel_rfl) (by kernel_rfl) (by kernel_rfl) (fun _ _ _ h => h) (Or.inl ⟨by rfl, ?_⟩) (by assumption) ?_
  rotate_left
  · intro W hSW; refine exec_load_row 28 (.tmp 13) ?_ BX13 ?_ _ (rX13.below lX13 hSW) Try.underlying28 rfl (sec_size _) <;> rfl
  try simp only [Act.put, List.setIfInBounds_toArray, List.set_cons_zero, List.set_cons_succ]
  refine wpAnyH_take (i := 10) (oi := ⟨_, _, _, _, _, _⟩) (v := .bool true) rfl (by kernel_rfl) (by kernel_rfl) (by kernel_rfl) (fun _ _ _ h => h) (Or.inl ⟨by rfl, ?_⟩) (by assumption) ?_
  · intro W hSW; rw [exec_eql_sec (.tmp 60) (.tmp 61) _ (by rfl) Pt Pt (by rfl) (by rfl), decide_eq_true rfl]
  try simp only [Act.put, List.setIfInBounds_toArray, List.set_cons_zero, List.set_cons_succ]
  refine wpAnyH_take (i := 11) (oi := ⟨_, _, _, _, _, _⟩) (v := ?_) rfl (by kernel_rfl) (by kernel_rfl) (by kernel_rfl) (fun _ _ _ h => h) (Or.inl ⟨by rfl, ?_⟩) (by assumption) ?_
  rotate_left
  · intro W hSW; go_simp; try with_reducible rfl
  try simp only [Act.put, List.setIfInBounds_toArray, List.set_cons_zero, List.set_cons_succ]
  refine wpAnyH_take (i := 12) (oi := ⟨_, _, _, _, _, _⟩) (v := ?_) rfl (by kernel_rfl) (by kernel_rfl) (by kernel_rfl) (fun _ _ _ h => h) (Or.inl ⟨by rfl, ?_⟩) (by assumption) ?_
  rotate_left
  · intro W hSW; go_simp; try with_reducible rfl
  try simp only [Act.put, List.setIfInBounds_toArray, List.set_cons_zero, List.set_cons_succ]
  refine wpAnyH_take (i := 13) (oi := ⟨_, _, _, _, _, _⟩) (v := ?_) rfl (by kernel_rfl) (by kernel_rfl) (by kernel_rfl) (fun _ _ _ h => h) (Or.inl ⟨by rfl, ?_⟩) (by assumption) ?_
  rotate_left
  · intro W hSW; go_simp; try with_reducible rfl
  try simp only [Act.put, List.setIfInBounds_toArray, List.set_cons_zero, List.set_cons_succ]
  refine wpAnyH_take (i := 14) (oi := ⟨_, _, _, _, _, _⟩) (v := ?_) rfl (by kernel_rfl) (by kernel_rfl) (by kernel_rfl) (fun _ _ _ h => h) (Or.inl ⟨by rfl, ?_⟩) (by assumption) ?_
  rotate_left
  · intro W hSW; go_simp; try with_reducible rfl
  try simp only [Act.put, List.setIfInBounds_toArray, List.set_cons_zero, List.set_cons_succ]
  refine wpAnyH_take (i := 15) (oi := ⟨_, _, _, _, _, _⟩) (v := .bool true) rfl (by kernel_rfl) (by kernel_rfl) (by kernel_rfl) (fun _ _ _ h => h) (Or.inl ⟨by rfl, ?_⟩) (by assumption) ?_
  · intro W hSW; go_simp
  try simp only [Act.put, List.setIfInBounds_toArray, List.set_cons_zero, List.set_cons_succ]
  refine wpAnyH_take (i := 16) (oi := ⟨_, _, _, _, _, _⟩) (v := ?_) rfl (by kernel_rfl) (by kernel_rfl) (by kernel_rfl) (fun _ _ _ h => h) (Or.inl ⟨by rfl, ?_⟩) (by assumption) ?_
  rotate_left
  · intro W hSW; go_simp; try with_reducible rfl
  try simp only [Act.put, List.setIfInBounds_toArray, List.set_cons_zero, List.set_cons_succ]
  refine wpAnyH_take (i := 17) (oi := ⟨_, _, _, _, _, _⟩) (v := ?_) rfl (by kernel_rfl) (by kernel_rfl) (by kernel_rfl) (fun _ _ _ h => h) (Or.inl ⟨by rfl, ?_⟩) (by assumption) ?_
  rotate_left
  · intro W hSW; go_simp; try with_reducible rfl
  try simp only [Act.put, List.setIfInBounds_toArray, List.set_cons_zero, List.set_cons_succ]
  refine wpAnyH_take (i := 18) (oi := ⟨_, _, _, _, _, _⟩) (v := ?_) rfl (by kernel_rfl) (by kernel_rfl) (by kernel_rfl) (fun _ _ _ h => h) (Or.inl ⟨by rfl, ?_⟩) (by assumption) ?_
  rotate_left
  · intro W hSW; refine exec_load_row 25 (.tmp 5) ?_ BT5 ?_ _ (rT5.below lT5 hSW) Try.underlying25 rfl (txc_info _ _ _) <;> rfl
  try simp only [Act.put, List.setIfInBounds_toArray, List.set_cons_zero, List.set_cons_succ]
  refine wpAnyH_take (i := 19) (oi := ⟨_, _, _, _, _, _⟩) (v := ?_) rfl (by kernel_rfl) (by kernel_rfl) (by kernel_rfl) (fun _ _ _ h => h) (Or.inl ⟨by rfl, ?_⟩) (by assumption) ?_
  rotate_left
  · intro W hSW; refine exec_load_row 25 (.tmp 6) ?_ BT6 ?_ _ (rT6.below lT6 hSW) Try.underlying25 rfl (txc_info _ _ _) <;> rfl
  try simp only [Act.put, List.setIfInBounds_toArray, List.set_cons_zero, List.set_cons_succ]
  refine wpAnyH_take (i := 21) (oi := ⟨_, _, _, _, _, _⟩) (v := ?_) rfl (by kernel_rfl) (by kernel_rfl) (by kernel_rfl) (fun _ _ _ h => h) (Or.inl ⟨by rfl, ?_⟩) (by assumption) ?_
  rotate_left
  · intro W hSW; refine exec_load_row 25 (.tmp 5) ?_ BT5 ?_ _ (rT5.below lT5 hSW) Try.underlying25 rfl (txc_info _ _ _) <;> rfl
  try simp only [Act.put, List.setIfInBounds_toArray, List.set_cons_zero, List.set_cons_succ]
  refine wpAnyH_take (i := 22) (oi := ⟨_, _, _, _, _, _⟩) (v := ?_) rfl (by kernel_rfl) (by kernel_rfl) (by kernel_rfl) (fun _ _ _ h => h) (Or.inl ⟨by rfl, ?_⟩) (by assumption) ?_
  rotate_left
  · intro W hSW; refine exec_load_row 25 (.tmp 6) ?_ BT6 ?_ _ (rT6.below lT6 hSW) Try.underlying25 rfl (txc_info _ _ _) <;> rfl
  try simp only [Act.put, List.setIfInBounds_toArray, List.set_cons_zero, List.set_cons_succ]
  refine wpAnyH_ready (rs := [20]) (by kernel_rfl) (by simp) ?_
  refine AllReadyH.cons (o := ⟨_, _, _, _, _, _⟩) rfl (fun K hK => ?_) AllReadyH.nil
  go_simp
  refine (lsame_any _ wd.heap.size t u A A' c c' (slt.below hSc) (slu.below hSc) hSc.size (by omega) (by omega)).mono ?_
  rintro e x3 ⟨rfl, hb⟩
  try simp only []
  rw [Hst.out]
  have hSx3 := hSc.trans (hb.mono hSc.size)
  refine hK.out _ _ hSx3 (fun hHeld => ?_)
  clear hK K hb hSc
  have hSc := hSx3
  clear hSx3
  try simp only [Act.put, List.setIfInBounds_toArray, List.set_cons_zero, List.set_cons_succ]
  refine wpAnyH_ready (rs := [23]) (by kernel_rfl) (by simp) ?_
  refine AllReadyH.cons (o := ⟨_, _, _, _, _, _⟩) rfl (fun K hK => ?_) AllReadyH.nil
  go_simp
  refine (rsame14_any _ wd.heap.size t u A A' c c' (slt.below hSc) (slu.below hSc) hSc.size (by omega) (by omega)).mono ?_
  rintro e x4 ⟨rfl, hb⟩
  try simp only []
  rw [Hst.out]
  have hSx4 := hSc.trans (hb.mono hSc.size)
  refine hK.out _ _ hSx4 (fun hHeld => ?_)
  clear hK K hb hSc
  have hSc := hSx4
  clear hSx4
  try simp only [Act.put, List.setIfInBounds_toArray, List.set_cons_zero, List.set_cons_succ]
  refine wpAnyH_take (i := 24) (oi := ⟨_, _, _, _, _, _⟩) (v := .bool true) rfl (by kernel_rfl) (by kernel_rfl) (by kernel_rfl) (fun _ _ _ h => h) (Or.inl ⟨by rfl, ?_⟩) (by assumption) ?_
  · intro W hSW; go_simp
  try simp only [Act.put, List.setIfInBounds_toArray, List.set_cons_zero, List.set_cons_succ]
  refine wpAnyH_take (i := 25) (oi := ⟨_, _, _, _, _, _⟩) (v := ?_) rfl (by kernel_rfl) (by kernel_rfl) (by kernel_rfl) (fun _ _ _ h => h) (Or.inl ⟨by rfl, ?_⟩) (by assumption) ?_
  rotate_left
  · intro W hSW; go_simp; try with_reducible rfl
  try simp only [Act.put, List.setIfInBounds_toArray, List.set_cons_zero, List.set_cons_succ]
  refine wpAnyH_take (i := 26) (oi := ⟨_, _, _, _, _, _⟩) (v := ?_) rfl (by kernel_rfl) (by kernel_rfl) (by kernel_rfl) (fun _ _ _ h => h) (Or.inl ⟨by rfl, ?_⟩) (by assumption) ?_
  rotate_left
  · intro W hSW; go_simp; try with_reducible rfl
  try simp only [Act.put, List.setIfInBounds_toArray, List.set_cons_zero, List.set_cons_succ]
  refine wpAnyH_take (i := 27) (oi := ⟨_, _, _, _, _, _⟩) (v := ?_) rfl (by kernel_rfl) (by kernel_rfl) (by kernel_rfl) (fun _ _ _ h => h) (Or.inl ⟨by rfl, ?_⟩) (by assumption) ?_
  rotate_left
  · intro W hSW; refine exec_load_row 25 (.tmp 5) ?_ BT5 ?_ _ (rT5.below lT5 hSW) Try.underlying25 rfl (txc_info _ _ _) <;> rfl
  try simp only [Act.put, List.setIfInBounds_toArray, List.set_cons_zero, List.set_cons_succ]
  refine wpAnyH_take (i := 29) (oi := ⟨_, _, _, _, _, _⟩) (v := ?_) rfl (by kernel_rfl) (by kernel_rfl) (by kernel_rfl) (fun _ _ _ h => h) (Or.inl ⟨by rfl, ?_⟩) (by assumption) ?_
  rotate_left
  · intro W hSW; refine exec_load_row 25 (.tmp 5) ?_ BT5 ?_ _ (rT5.below lT5 hSW) Try.underlying25 rfl (txc_info _ _ _) <;> rfl
  try simp only [Act.put, List.setIfInBounds_toArray, List.set_cons_zero, List.set_cons_succ]
  refine wpAnyH_ready (rs := [28]) (by kernel_rfl) (by simp) ?_
  refine AllReadyH.cons (o := ⟨_, _, _, _, _, _⟩) rfl (fun K hK => ?_) AllReadyH.nil
  go_simp
  refine (lcopy_any _ wd.heap.size t A c (slt.below hSc) hSc.size (by omega)).mono ?_
  rintro e x5 ⟨gc, rfl, hgc, hrc, hb⟩
  try simp only []
  have hSx5 := hSc.trans (hb.mono hSc.size)
  refine hK.out _ _ hSx5 (fun hHeld => ?_)
  clear hK K hb hSc
  have hSc := hSx5
  clear hSx5
  try simp only [Act.put, List.setIfInBounds_toArray, List.set_cons_zero, List.set_cons_succ]
  refine wpAnyH_ready (rs := [30]) (by kernel_rfl) (by simp) ?_
  refine AllReadyH.cons (o := ⟨_, _, _, _, _, _⟩) rfl (fun K hK => ?_) AllReadyH.nil
  go_simp
  refine (rsame14_any _ x5.heap.size t t _ A _ c (rowV_lies hrc hrc.lt) ((slt.below hSc).le hSc.size) (Nat.le_refl _) (by omega) (by omega)).mono ?_
  rintro e x6 ⟨rfl, hb⟩
  try simp only []
  rw [sameT_self']
  have hSx6 := hSc.trans (hb.mono hSc.size)
  refine hK.out _ _ hSx6 (fun hHeld => ?_)
  clear hK K hb hSc
  have hSc := hSx6
  clear hSx6
  try simp only [Act.put, List.setIfInBounds_toArray, List.set_cons_zero, List.set_cons_succ]
  refine wpAnyH_take (i := 31) (oi := ⟨_, _, _, _, _, _⟩) (v := ?_) rfl (by kernel_rfl) (by kernel_rfl) (by kernel_rfl) (fun _ _ _ h => h) (Or.inl ⟨by rfl, ?_⟩) (by assumption) ?_
  rotate_left
  · intro W hSW; go_simp; try with_reducible rfl
  try simp only [Act.put, List.setIfInBounds_toArray, List.set_cons_zero, List.set_cons_succ]
  refine wpAnyH_take (i := 32) (oi := ⟨_, _, _, _, _, _⟩) (v := ?_) rfl (by kernel_rfl) (by kernel_rfl) (by kernel_rfl) (fun _ _ _ h => h) (Or.inl ⟨by rfl, ?_⟩) (by assumption) ?_
  rotate_left
  · intro W hSW; go_simp; try with_reducible rfl
  try simp only [Act.put, List.setIfInBounds_toArray, List.set_cons_zero, List.set_cons_succ]
  refine wpAnyH_take (i := 33) (oi := ⟨_, _, _, _, _, _⟩) (v := ?_) rfl (by kernel_rfl) (by kernel_rfl) (by kernel_rfl) (fun _ _ _ h => h) (Or.inl ⟨by rfl, ?_⟩) (by assumption) ?_
  rotate_left
  · intro W hSW; go_simp; try with_reducible rfl
  try simp only [Act.put, List.setIfInBounds_toArray, List.set_cons_zero, List.set_cons_succ]
  refine wpAnyH_take (i := 34) (oi := ⟨_, _, _, _, _, _⟩) (v := ?_) rfl (by kernel_rfl) (by kernel_rfl) (by kernel_rfl) (fun _ _ _ h => h) (Or.inl ⟨by rfl, ?_⟩) (by assumption) ?_
  rotate_left
  · intro W hSW; go_simp; try with_reducible rfl
  try simp only [Act.put, List.setIfInBounds_toArray, List.set_cons_zero, List.set_cons_succ]
  refine wpAnyH_take (i := 35) (oi := ⟨_, _, _, _, _, _⟩) (v := .bool true) rfl (by kernel_rfl) (by kernel_rfl) (by kernel_rfl) (fun _ _ _ h => h) (Or.inl ⟨by rfl, ?_⟩) (by assumption) ?_
  · intro W hSW; go_simp
  try simp only [Act.put, List.setIfInBounds_toArray, List.set_cons_zero, List.set_cons_succ]
  refine wpAnyH_take (i := 36) (oi := ⟨_, _, _, _, _, _⟩) (v := ?_) rfl (by kernel_rfl) (by kernel_rfl) (by kernel_rfl) (fun _ _ _ h => h) (Or.inl ⟨by rfl, ?_⟩) (by assumption) ?_
  rotate_left
  · intro W hSW; go_simp; try with_reducible rfl
  try simp only [Act.put, List.setIfInBounds_toArray, List.set_cons_zero, List.set_cons_succ]
  refine wpAnyH_take (i := 37) (oi := ⟨_, _, _, _, _, _⟩) (v := ?_) rfl (by kernel_rfl) (by kernel_rfl) (by kernel_rfl) (fun _ _ _ h => h) (Or.inl ⟨by rfl, ?_⟩) (by assumption) ?_
  rotate_left
  · intro W hSW; go_simp; try with_reducible rfl
  try simp only [Act.put, List.setIfInBounds_toArray, List.set_cons_zero, List.set_cons_succ]
  refine wpAnyH_take (i := 38) (oi := ⟨_, _, _, _, _, _⟩) (v := ?_) rfl (by kernel_rfl) (by kernel_rfl) (by kernel_rfl) (fun _ _ _ h => h) (Or.inl ⟨by rfl, ?_⟩) (by assumption) ?_
  rotate_left
  · intro W hSW; refine exec_load_row 25 (.tmp 15) ?_ BT15 ?_ _ (rT15.below lT15 hSW) Try.underlying25 rfl (txc_info _ _ _) <;> rfl
  try simp only [Act.put, List.setIfInBounds_toArray, List.set_cons_zero, List.set_cons_succ]
  refine wpAnyH_take (i := 39) (oi := ⟨_, _, _, _, _, _⟩) (v := ?_) rfl (by kernel_rfl) (by kernel_rfl) (by kernel_rfl) (fun _ _ _ h => h) (Or.inl ⟨by rfl, ?_⟩) (by assumption) ?_
  rotate_left
  · intro W hSW; refine exec_load_row 25 (.tmp 17) ?_ BT17 ?_ _ (rT17.below lT17 hSW) Try.underlying25 rfl (txc_info _ _ _) <;> rfl
  try simp only [Act.put, List.setIfInBounds_toArray, List.set_cons_zero, List.set_cons_succ]
  refine wpAnyH_ready (rs := [40]) (by kernel_rfl) (by simp) ?_
  refine AllReadyH.cons (o := ⟨_, _, _, _, _, _⟩) rfl (fun K hK => ?_) AllReadyH.nil
  go_simp
  refine (rsame14_any _ wd.heap.size Mv Mv _ A16 _ c16 ((rowV_lies rM lM).below hSc) (slm.below hSc) hSc.size hMl hMl).mono ?_
  rintro e x7 ⟨rfl, hb⟩
  try simp only []
  rw [sameT_self']
  have hSx7 := hSc.trans (hb.mono hSc.size)
  refine hK.out _ _ hSx7 (fun hHeld => ?_)
  clear hK K hb hSc
  have hSc := hSx7
  clear hSx7
  try simp only [Act.put, List.setIfInBounds_toArray, List.set_cons_zero, List.set_cons_succ]
  refine wpAnyH_take (i := 41) (oi := ⟨_, _, _, _, _, _⟩) (v := ?_) rfl (by kernel_rfl) (by kernel_rfl) (by kernel_rfl) (fun _ _ _ h => h) (Or.inl ⟨by rfl, ?_⟩) (by assumption) ?_
  rotate_left
  · intro W hSW; go_simp; try with_reducible rfl
  try simp only [Act.put, List.setIfInBounds_toArray, List.set_cons_zero, List.set_cons_succ]
  refine wpAnyH_take (i := 42) (oi := ⟨_, _, _, _, _, _⟩) (v := ?_) rfl (by kernel_rfl) (by kernel_rfl) (by kernel_rfl) (fun _ _ _ h => h) (Or.inl ⟨by rfl, ?_⟩) (by assumption) ?_
  rotate_left
  · intro W hSW; go_simp; try with_reducible rfl
  try simp only [Act.put, List.setIfInBounds_toArray, List.set_cons_zero, List.set_cons_succ]
  refine wpAnyH_ready (rs := [43]) (by kernel_rfl) (by simp) ?_
  refine AllReadyH.cons (o := ⟨_, _, _, _, _, _⟩) rfl (fun K hK => ?_) AllReadyH.nil
  go_simp
  refine (HWh.out _).mono ?_
  rintro e x8 ⟨rfl, hb⟩
  try simp only []
  have hSx8 := hSc.trans (hb.mono hSc.size)
  refine hK.out _ _ hSx8 (fun hHeld => ?_)
  clear hK K hb hSc
  have hSc := hSx8
  clear hSx8
  try simp only [Act.put, List.setIfInBounds_toArray, List.set_cons_zero, List.set_cons_succ]
  refine wpAnyH_take (i := 44) (oi := ⟨_, _, _, _, _, _⟩) (v := ?_) rfl (by kernel_rfl) (by kernel_rfl) (by kernel_rfl) (fun _ _ _ h => h) (Or.inl ⟨by rfl, ?_⟩) (by assumption) ?_
  rotate_left
  · intro W hSW; go_simp; try with_reducible rfl
  try simp only [Act.put, List.setIfInBounds_toArray, List.set_cons_zero, List.set_cons_succ]
  refine wpAnyH_take (i := 45) (oi := ⟨_, _, _, _, _, _⟩) (v := ?_) rfl (by kernel_rfl) (by kernel_rfl) (by kernel_rfl) (fun _ _ _ h => h) (Or.inl ⟨by rfl, ?_⟩) (by assumption) ?_
  rotate_left
  · intro W hSW; go_simp; try with_reducible rfl
  try simp only [Act.put, List.setIfInBounds_toArray, List.set_cons_zero, List.set_cons_succ]
  refine wpAnyH_done (by kernel_rfl) ?_ _
  go_wp2_with fail
  go_ret
  exact ⟨rfl, by rw [HN.out]; exact hLd.trans (hSc.mono (Nat.le_trans hNw hLd.size))⟩
end Go.Proofs.Ytkfhbngphkobfaa
