/-
  Layer 14: the law LeafOne.
-/
import Derived.Test.YtkfhbngphkobfaaPkLefW
namespace Go.Proofs.Ytkfhbngphkobfaa
open Go.RowKit
set_option linter.unusedVariables false
set_option linter.unusedSimpArgs false

theorem one_same {t u : Tx} (ht : checkL t 200 = 0) (hu : checkL u 200 = 0) : decide (putS14 t = putS14 u) = sameT t u := by
  rw [putS14_yes ht, putS14_yes hu]
  unfold sameT
  rw [Bool.eq_iff_iff, decide_eq_true_eq, decide_eq_true_eq]
  exact ⟨fun h => leafS_one ht hu h, fun h => by rw [h]⟩

set_option maxRecDepth 100000 in
set_option maxHeartbeats 8000000 in
theorem one14_any (HW : Works14) (w : World) (t u : Tx) (A A' : Option Addr) (c c' : Nat) (h : LiesV w w.heap.size A (slv t.slots)) (h' : LiesV w w.heap.size A' (slv u.slots)) :
    Calls Try.prog 5 #[.agg (txc t A c).toArray, .agg (txc u A' c').toArray] w fun e w' => e = .returned (.bool true) ∧ Below w.heap.size w w' := by
  have HT := Lib.hid h
  have HU := Lib.hid h'
  have HWh := Lib.hid HW
  have hNw : w.heap.size ≤ w.heap.size := Nat.le_refl _
  have hL_0 : Below w.heap.size w w := Below.refl _ _
  clear h h' HW
  go_enter Try.func5, Try.ntmps5
  go_wp2_with ((with_reducible refine at_box 25 ?_); refine box_tx rfl _ rfl t A c rfl ?_)
  intro v1 hR1 hb1 hs1
  clear hs1
  have St_1 := Lib.hid ((HT.out.below hb1).le hb1.size)
  have Su_1 := Lib.hid ((HU.out.below hb1).le hb1.size)
  have hL_1 := hL_0.trans (hb1.mono (Nat.le_trans hNw hL_0.size))
  obtain ⟨BT2, hBT2⟩ : ∃ BT2, w.heap.size = BT2 := ⟨_, rfl⟩
  rw [hBT2] at hR1
  try rw [hBT2]
  clear  hb1 hBT2
  go_wp2_with ((with_reducible refine at_box 25 ?_); refine box_tx rfl _ rfl u A' c' rfl ?_)
  intro v2 hR2 hb2 hs2
  clear hs2
  have RT2_2 := hR1.below hR1.lt hb2
  have St_2 := Lib.hid ((St_1.out.below hb2).le hb2.size)
  have Su_2 := Lib.hid ((Su_1.out.below hb2).le hb2.size)
  have hL_2 := hL_1.trans (hb2.mono (Nat.le_trans hNw hL_1.size))
  obtain ⟨BT3, hBT3⟩ : ∃ BT3, v1.heap.size = BT3 := ⟨_, rfl⟩
  rw [hBT3] at hR2
  try rw [hBT3]
  clear hR1 St_1 Su_1 hL_1 hb2 hBT3
  clear hNw
  obtain ⟨N, hN⟩ : ∃ N, w.heap.size = N := ⟨_, rfl⟩
  have hNw : N ≤ w.heap.size := by omega
  rw [hN] at hL_2
  have HN := Lib.hid hN
  clear hN
  go_wp2_with first
    | ((with_reducible refine at_load 25 ?_); refine load_tx rfl _ rfl BT2 rfl RT2_2 ?_)
    | ((with_reducible refine at_loadGR 25 ?_); refine load_txG (by rfl) _ rfl BT2 rfl RT2_2 ?_)
    | ((with_reducible refine at_load 25 ?_); refine load_tx rfl _ rfl BT3 rfl hR2 ?_)
    | ((with_reducible refine at_loadGR 25 ?_); refine load_txG (by rfl) _ rfl BT3 rfl hR2 ?_)
  refine (light14_any v2 t A c).mono ?_
  rintro e v3 ⟨rfl, hb3⟩
  have RT2_3 := RT2_2.below RT2_2.lt hb3
  have RT3_3 := hR2.below hR2.lt hb3
  have St_3 := Lib.hid ((St_2.out.below hb3).le hb3.size)
  have Su_3 := Lib.hid ((Su_2.out.below hb3).le hb3.size)
  have hL_3 := hL_2.trans (hb3.mono (Nat.le_trans hNw hL_2.size))
  clear RT2_2 hR2 St_2 Su_2 hL_2 hb3
  by_cases h1 : t.slots.length < 50
  rotate_left
  · rw [decide_eq_false h1]
    go_wp2_with first
      | ((with_reducible refine at_load 25 ?_); refine load_tx rfl _ rfl BT2 rfl RT2_3 ?_)
      | ((with_reducible refine at_loadGR 25 ?_); refine load_txG (by rfl) _ rfl BT2 rfl RT2_3 ?_)
      | ((with_reducible refine at_load 25 ?_); refine load_tx rfl _ rfl BT3 rfl RT3_3 ?_)
      | ((with_reducible refine at_loadGR 25 ?_); refine load_txG (by rfl) _ rfl BT3 rfl RT3_3 ?_)
    refine (HWh.out v3).mono ?_
    rintro e v4 ⟨rfl, hb⟩
    go_wp2_with fail
    go_ret
    exact ⟨rfl, by rw [HN.out]; exact hL_3.trans (hb.mono (Nat.le_trans hNw hL_3.size))⟩
  rw [decide_eq_true h1]
  go_wp2_with first
    | ((with_reducible refine at_load 25 ?_); refine load_tx rfl _ rfl BT2 rfl RT2_3 ?_)
    | ((with_reducible refine at_loadGR 25 ?_); refine load_txG (by rfl) _ rfl BT2 rfl RT2_3 ?_)
    | ((with_reducible refine at_load 25 ?_); refine load_tx rfl _ rfl BT3 rfl RT3_3 ?_)
    | ((with_reducible refine at_loadGR 25 ?_); refine load_txG (by rfl) _ rfl BT3 rfl RT3_3 ?_)
  refine (light14_any v3 u A' c').mono ?_
  rintro e v5 ⟨rfl, hb5⟩
  have RT2_5 := RT2_3.below RT2_3.lt hb5
  have RT3_5 := RT3_3.below RT3_3.lt hb5
  have St_5 := Lib.hid ((St_3.out.below hb5).le hb5.size)
  have Su_5 := Lib.hid ((Su_3.out.below hb5).le hb5.size)
  have hL_5 := hL_3.trans (hb5.mono (Nat.le_trans hNw hL_3.size))
  clear RT2_3 RT3_3 St_3 Su_3 hL_3 hb5
  by_cases h2 : u.slots.length < 50
  rotate_left
  · rw [decide_eq_false h2]
    go_wp2_with first
      | ((with_reducible refine at_load 25 ?_); refine load_tx rfl _ rfl BT2 rfl RT2_5 ?_)
      | ((with_reducible refine at_loadGR 25 ?_); refine load_txG (by rfl) _ rfl BT2 rfl RT2_5 ?_)
      | ((with_reducible refine at_load 25 ?_); refine load_tx rfl _ rfl BT3 rfl RT3_5 ?_)
      | ((with_reducible refine at_loadGR 25 ?_); refine load_txG (by rfl) _ rfl BT3 rfl RT3_5 ?_)
    refine (HWh.out v5).mono ?_
    rintro e v6 ⟨rfl, hb⟩
    go_wp2_with fail
    go_ret
    exact ⟨rfl, by rw [HN.out]; exact hL_5.trans (hb.mono (Nat.le_trans hNw hL_5.size))⟩
  rw [decide_eq_true h2]
  go_wp2_with first
    | ((with_reducible refine at_load 25 ?_); refine load_tx rfl _ rfl BT2 rfl RT2_5 ?_)
    | ((with_reducible refine at_loadGR 25 ?_); refine load_txG (by rfl) _ rfl BT2 rfl RT2_5 ?_)
    | ((with_reducible refine at_load 25 ?_); refine load_tx rfl _ rfl BT3 rfl RT3_5 ?_)
    | ((with_reducible refine at_loadGR 25 ?_); refine load_txG (by rfl) _ rfl BT3 rfl RT3_5 ?_)
  refine (lput_any v5 v5.heap.size t A c St_5.out (Nat.le_refl _)).mono ?_
  rintro e v7 ⟨rfl, hb7⟩
  have RT2_7 := RT2_5.below RT2_5.lt hb7
  have RT3_7 := RT3_5.below RT3_5.lt hb7
  have St_7 := Lib.hid ((St_5.out.below hb7).le hb7.size)
  have Su_7 := Lib.hid ((Su_5.out.below hb7).le hb7.size)
  have hL_7 := hL_5.trans (hb7.mono (Nat.le_trans hNw hL_5.size))
  clear RT2_5 RT3_5 St_5 Su_5 hL_5 hb7
  obtain ⟨et, het⟩ : ∃ k, checkL t 200 = k := ⟨_, rfl⟩
  have Het := Lib.hid het
  obtain ⟨Pt, hPt⟩ : ∃ k, putS14 t = k := ⟨_, rfl⟩
  have HPt := Lib.hid hPt
  rw [het, hPt]
  clear het hPt
  go_wp2_with ((with_reducible refine at_alloc 28 ?_); refine alloc_sec rfl rfl ?_)
  intro v8 hA9 hbA9 hsA9
  clear hsA9
  go_wp2_with ((with_reducible refine at_store 28 ?_); refine store_sec rfl _ _ rfl (v7.heap.size) Pt rfl rfl hA9 (Sec.cs_length _) ?_)
  intro v9 hR9 hgR9 hsR9
  have hb9 := below_grown hbA9 hgR9 (Nat.le_refl _) hbA9.size
  clear hA9 hbA9 hgR9 hsR9
  have RT2_9 := RT2_7.below RT2_7.lt hb9
  have RT3_9 := RT3_7.below RT3_7.lt hb9
  have St_9 := Lib.hid ((St_7.out.below hb9).le hb9.size)
  have Su_9 := Lib.hid ((Su_7.out.below hb9).le hb9.size)
  have hL_9 := hL_7.trans (hb9.mono (Nat.le_trans hNw hL_7.size))
  obtain ⟨BX5, hBX5⟩ : ∃ BX5, v7.heap.size = BX5 := ⟨_, rfl⟩
  rw [hBX5] at hR9
  try rw [hBX5]
  clear RT2_7 RT3_7 St_7 Su_7 hL_7 hb9 hBX5
  go_wp2_with first
    | ((with_reducible refine at_load 25 ?_); refine load_tx rfl _ rfl BT2 rfl RT2_9 ?_)
    | ((with_reducible refine at_loadGR 25 ?_); refine load_txG (by rfl) _ rfl BT2 rfl RT2_9 ?_)
    | ((with_reducible refine at_load 25 ?_); refine load_tx rfl _ rfl BT3 rfl RT3_9 ?_)
    | ((with_reducible refine at_loadGR 25 ?_); refine load_txG (by rfl) _ rfl BT3 rfl RT3_9 ?_)
    | ((with_reducible refine at_load 28 ?_); refine load_sec rfl _ rfl BX5 rfl hR9 ?_)
    | ((with_reducible refine at_loadG 28 ?_); refine load_secG (by rfl) _ rfl BX5 rfl hR9 ?_)
  refine (lput_any v9 v9.heap.size u A' c' Su_9.out (Nat.le_refl _)).mono ?_
  rintro e v10 ⟨rfl, hb10⟩
  have RT2_10 := RT2_9.below RT2_9.lt hb10
  have RT3_10 := RT3_9.below RT3_9.lt hb10
  have RX5_10 := hR9.below hR9.lt hb10
  have St_10 := Lib.hid ((St_9.out.below hb10).le hb10.size)
  have Su_10 := Lib.hid ((Su_9.out.below hb10).le hb10.size)
  have hL_10 := hL_9.trans (hb10.mono (Nat.le_trans hNw hL_9.size))
  clear RT2_9 RT3_9 hR9 St_9 Su_9 hL_9 hb10
  obtain ⟨eu, heu⟩ : ∃ k, checkL u 200 = k := ⟨_, rfl⟩
  have Heu := Lib.hid heu
  obtain ⟨Pu, hPu⟩ : ∃ k, putS14 u = k := ⟨_, rfl⟩
  have HPu := Lib.hid hPu
  rw [heu, hPu]
  clear heu hPu
  go_wp2_with ((with_reducible refine at_alloc 28 ?_); refine alloc_sec rfl rfl ?_)
  intro v11 hA12 hbA12 hsA12
  clear hsA12
  go_wp2_with ((with_reducible refine at_store 28 ?_); refine store_sec rfl _ _ rfl (v10.heap.size) Pu rfl rfl hA12 (Sec.cs_length _) ?_)
  intro v12 hR12 hgR12 hsR12
  have hb12 := below_grown hbA12 hgR12 (Nat.le_refl _) hbA12.size
  clear hA12 hbA12 hgR12 hsR12
  have RT2_12 := RT2_10.below RT2_10.lt hb12
  have RT3_12 := RT3_10.below RT3_10.lt hb12
  have RX5_12 := RX5_10.below RX5_10.lt hb12
  have St_12 := Lib.hid ((St_10.out.below hb12).le hb12.size)
  have Su_12 := Lib.hid ((Su_10.out.below hb12).le hb12.size)
  have hL_12 := hL_10.trans (hb12.mono (Nat.le_trans hNw hL_10.size))
  obtain ⟨BX7, hBX7⟩ : ∃ BX7, v10.heap.size = BX7 := ⟨_, rfl⟩
  rw [hBX7] at hR12
  try rw [hBX7]
  clear RT2_10 RT3_10 RX5_10 St_10 Su_10 hL_10 hb12 hBX7
  by_cases hq1 : et = 0
  rotate_left
  · go_wp2_with first
      | ((with_reducible refine at_load 25 ?_); refine load_tx rfl _ rfl BT2 rfl RT2_12 ?_)
      | ((with_reducible refine at_loadGR 25 ?_); refine load_txG (by rfl) _ rfl BT2 rfl RT2_12 ?_)
      | ((with_reducible refine at_load 25 ?_); refine load_tx rfl _ rfl BT3 rfl RT3_12 ?_)
      | ((with_reducible refine at_loadGR 25 ?_); refine load_txG (by rfl) _ rfl BT3 rfl RT3_12 ?_)
      | ((with_reducible refine at_load 28 ?_); refine load_sec rfl _ rfl BX5 rfl RX5_12 ?_)
      | ((with_reducible refine at_loadG 28 ?_); refine load_secG (by rfl) _ rfl BX5 rfl RX5_12 ?_)
      | ((with_reducible refine at_load 28 ?_); refine load_sec rfl _ rfl BX7 rfl hR12 ?_)
      | ((with_reducible refine at_loadG 28 ?_); refine load_secG (by rfl) _ rfl BX7 rfl hR12 ?_)
    refine (HWh.out v12).mono ?_
    rintro e v13 ⟨rfl, hb⟩
    go_wp2_with fail
    go_ret
    exact ⟨rfl, by rw [HN.out]; exact hL_12.trans (hb.mono (Nat.le_trans hNw hL_12.size))⟩
  by_cases hq2 : eu = 0
  rotate_left
  · go_wp2_with first
      | ((with_reducible refine at_load 25 ?_); refine load_tx rfl _ rfl BT2 rfl RT2_12 ?_)
      | ((with_reducible refine at_loadGR 25 ?_); refine load_txG (by rfl) _ rfl BT2 rfl RT2_12 ?_)
      | ((with_reducible refine at_load 25 ?_); refine load_tx rfl _ rfl BT3 rfl RT3_12 ?_)
      | ((with_reducible refine at_loadGR 25 ?_); refine load_txG (by rfl) _ rfl BT3 rfl RT3_12 ?_)
      | ((with_reducible refine at_load 28 ?_); refine load_sec rfl _ rfl BX5 rfl RX5_12 ?_)
      | ((with_reducible refine at_loadG 28 ?_); refine load_secG (by rfl) _ rfl BX5 rfl RX5_12 ?_)
      | ((with_reducible refine at_load 28 ?_); refine load_sec rfl _ rfl BX7 rfl hR12 ?_)
      | ((with_reducible refine at_loadG 28 ?_); refine load_secG (by rfl) _ rfl BX7 rfl hR12 ?_)
    refine (HWh.out v12).mono ?_
    rintro e v14 ⟨rfl, hb⟩
    go_wp2_with fail
    go_ret
    exact ⟨rfl, by rw [HN.out]; exact hL_12.trans (hb.mono (Nat.le_trans hNw hL_12.size))⟩
  subst hq1 hq2
  obtain ⟨b, hb⟩ : ∃ b, sameT t u = b := ⟨_, rfl⟩
  have Hb := Lib.hid hb
  have Hd : Hid (decide (Pt = Pu) = b) := by show _ = _; rw [← HPt.out, ← HPu.out, one_same Het.out Heu.out, Hb.out]
  clear hb
  go_wp2_with fail
  have rT2 : RowV v12.drew BT2 _ _ := RT2_12
  have lT2 := rT2.lt
  have rT3 : RowV v12.drew BT3 _ _ := RT3_12
  have lT3 := rT3.lt
  have rX5 : RowV v12.drew BX5 _ _ := RX5_12
  have lX5 := rX5.lt
  have rX7 : RowV v12.drew BX7 _ _ := hR12
  have lX7 := rX7.lt
  have st : LiesV v12.drew v12.drew.heap.size _ _ := St_12.out
  have su : LiesV v12.drew v12.drew.heap.size _ _ := Su_12.out
  have hLd : Below N w v12.drew := hL_12.drew
  clear RT2_12 RT3_12 RX5_12 hR12 St_12 Su_12 hL_12
  refine wp_region_held_drew (S := fun W => Below v12.drew.heap.size v12.drew W) (by kernel_rfl) (Below.refl _ _) (fun hHeld => ?_)
  generalize v12.drew = wd at *
  have hSc : Below wd.heap.size wd wd := Below.refl _ _
  refine wpAnyH_take (i := 0) (oi := ⟨_, _, _, _, _, _⟩) (v := ?_) rfl (by kernel_rfl) (by kernel_rfl) (by kernel_rfl) (fun _ _ _ h => h) (Or.inl ⟨by rfl, ?_⟩) (by assumption) ?_
  rotate_left
  · intro W hSW; refine exec_load_row 28 (.tmp 5) ?_ BX5 ?_ _ (rX5.below lX5 hSW) Try.underlying28 rfl (sec_size _) <;> rfl
  try simp only [Act.put, List.setIfInBounds_toArray, List.set_cons_zero, List.set_cons_succ]
  refine wpAnyH_take (i := 1) (oi := ⟨_, _, _, _, _, _⟩) (v := ?_) rfl (by kernel_rfl) (by kernel_rfl) (by kernel_rfl) (fun _ _ _ h => h) (Or.inl ⟨by rfl, ?_⟩) (by assumption) ?_
  rotate_left
  · intro W hSW; refine exec_load_row 28 (.tmp 7) ?_ BX7 ?_ _ (rX7.below lX7 hSW) Try.underlying28 rfl (sec_size _) <;> rfl
  try simp only [Act.put, List.setIfInBounds_toArray, List.set_cons_zero, List.set_cons_succ]
  refine wpAnyH_take (i := 2) (oi := ⟨_, _, _, _, _, _⟩) (v := .bool b) rfl (by kernel_rfl) (by kernel_rfl) (by kernel_rfl) (fun _ _ _ h => h) (Or.inl ⟨by rfl, ?_⟩) (by assumption) ?_
  · intro W hSW; rw [exec_eql_sec (.tmp 35) (.tmp 36) _ (by rfl) Pt Pu (by rfl) (by rfl), Hd.out]
  try simp only [Act.put, List.setIfInBounds_toArray, List.set_cons_zero, List.set_cons_succ]
  refine wpAnyH_take (i := 3) (oi := ⟨_, _, _, _, _, _⟩) (v := ?_) rfl (by kernel_rfl) (by kernel_rfl) (by kernel_rfl) (fun _ _ _ h => h) (Or.inl ⟨by rfl, ?_⟩) (by assumption) ?_
  rotate_left
  · intro W hSW; refine exec_load_row 25 (.tmp 2) ?_ BT2 ?_ _ (rT2.below lT2 hSW) Try.underlying25 rfl (txc_info _ _ _) <;> rfl
  try simp only [Act.put, List.setIfInBounds_toArray, List.set_cons_zero, List.set_cons_succ]
  refine wpAnyH_take (i := 4) (oi := ⟨_, _, _, _, _, _⟩) (v := ?_) rfl (by kernel_rfl) (by kernel_rfl) (by kernel_rfl) (fun _ _ _ h => h) (Or.inl ⟨by rfl, ?_⟩) (by assumption) ?_
  rotate_left
  · intro W hSW; refine exec_load_row 25 (.tmp 3) ?_ BT3 ?_ _ (rT3.below lT3 hSW) Try.underlying25 rfl (txc_info _ _ _) <;> rfl
  try simp only [Act.put, List.setIfInBounds_toArray, List.set_cons_zero, List.set_cons_succ]
  refine wpAnyH_ready (rs := [5]) (by kernel_rfl) (by simp) ?_
  refine AllReadyH.cons (o := ⟨_, _, _, _, _, _⟩) rfl (fun K hK => ?_) AllReadyH.nil
  go_simp
  refine (rsame14_any _ wd.heap.size t u A A' c c' (st.below hSc) (su.below hSc) hSc.size (by omega) (by omega)).mono ?_
  rintro e x1 ⟨rfl, hb⟩
  try simp only []
  rw [Hb.out]
  have hSx1 := hSc.trans (hb.mono hSc.size)
  refine hK.out _ _ hSx1 (fun hHeld => ?_)
  clear hK K hb hSc
  have hSc := hSx1
  clear hSx1
  try simp only [Act.put, List.setIfInBounds_toArray, List.set_cons_zero, List.set_cons_succ]
  refine wpAnyH_take (i := 6) (oi := ⟨_, _, _, _, _, _⟩) (v := .bool true) rfl (by kernel_rfl) (by kernel_rfl) (by kernel_rfl) (fun _ _ _ h => h) (Or.inl ⟨by rfl, ?_⟩) (by assumption) ?_
  · intro W hSW; go_simp
  try simp only [Act.put, List.setIfInBounds_toArray, List.set_cons_zero, List.set_cons_succ]
  refine wpAnyH_take (i := 7) (oi := ⟨_, _, _, _, _, _⟩) (v := ?_) rfl (by kernel_rfl) (by kernel_rfl) (by kernel_rfl) (fun _ _ _ h => h) (Or.inl ⟨by rfl, ?_⟩) (by assumption) ?_
  rotate_left
  · intro W hSW; go_simp; try with_reducible rfl
  try simp only [Act.put, List.setIfInBounds_toArray, List.set_cons_zero, List.set_cons_succ]
  refine wpAnyH_ready (rs := [8]) (by kernel_rfl) (by simp) ?_
  refine AllReadyH.cons (o := ⟨_, _, _, _, _, _⟩) rfl (fun K hK => ?_) AllReadyH.nil
  go_simp
  refine (HWh.out _).mono ?_
  rintro e x2 ⟨rfl, hb⟩
  try simp only []
  have hSx2 := hSc.trans (hb.mono hSc.size)
  refine hK.out _ _ hSx2 (fun hHeld => ?_)
  clear hK K hb hSc
  have hSc := hSx2
  clear hSx2
  try simp only [Act.put, List.setIfInBounds_toArray, List.set_cons_zero, List.set_cons_succ]
  refine wpAnyH_take (i := 9) (oi := ⟨_, _, _, _, _, _⟩) (v := ?_) rfl (by kernel_rfl) (by kernel_rfl) (by kernel_rfl) (fun _ _ _ h => h) (Or.inl ⟨by rfl, ?_⟩) (by assumption) ?_
  rotate_left
  · intro W hSW; go_simp; try with_reducible rfl
  try simp only [Act.put, List.setIfInBounds_toArray, List.set_cons_zero, List.set_cons_succ]
  refine wpAnyH_take (i := 10) (oi := ⟨_, _, _, _, _, _⟩) (v := ?_) rfl (by kernel_rfl) (by kernel_rfl) (by kernel_rfl) (fun _ _ _ h => h) (Or.inl ⟨by rfl, ?_⟩) (by assumption) ?_
  rotate_left
  · intro W hSW; go_simp; try with_reducible rfl
  try simp only [Act.put, List.setIfInBounds_toArray, List.set_cons_zero, List.set_cons_succ]
  refine wpAnyH_done (by kernel_rfl) ?_ _
  go_wp2_with fail
  go_ret
  exact ⟨rfl, by rw [HN.out]; exact hLd.trans (hSc.mono (Nat.le_trans hNw hLd.size))⟩
end Go.Proofs.Ytkfhbngphkobfaa
