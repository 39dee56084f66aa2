/-
  Layer 14: the laws' own light and works.
-/
import Derived.Test.YtkfhbngphkobfaaPkLefF
import Derived.Test.YtkfhbngphkobfaaPkLefL
import Derived.Test.YtkfhbngphkobfaaPkLefD
namespace Go.Proofs.Ytkfhbngphkobfaa
open Go.RowKit
set_option linter.unusedVariables false
set_option linter.unusedSimpArgs false

/-- The example. -/
def adr5 : Adr := ⟨5 :: List.replicate 31 0, rfl⟩
def ex14 : Tx := ⟨adr5, 300, [4, 2], 1⟩
def ex14m : Tx := ⟨adr5, 300, [4, 7], 1⟩
theorem ex14_moved : movedL ex14 2 7 = ex14m := by decide +kernel
theorem ex14_met : metL ex14 2 = true := by decide +kernel
theorem ex14_check : checkL ex14 200 = 0 := by decide +kernel
theorem ex14_check4 : checkL ex14 4 = 2 := by decide +kernel
theorem ex14_check9 : checkL ex14 9 = 0 := by decide +kernel
theorem leafS_first (t : Tx) : (leafS t).1[0]? = some 76 := rfl
theorem leafS_ne (t : Tx) : ¬ leafS t = zeroSec := by
  intro h
  have h1 := leafS_first t
  rw [h] at h1
  revert h1
  decide +kernel
theorem getB_zero (n : Int) : getB14 zeroSec n = false := (get14_zero rfl).2.1
theorem getC_zero (n : Int) : getC14 zeroSec n = 0 := (get14_zero rfl).2.2
theorem get14_back {t : Tx} {n : Int} (h : checkL t n = 0) (hn : n ≤ 200) : getT14 (leafS t) n = t ∧ getB14 (leafS t) n = true ∧ getC14 (leafS t) n = 0 := get14_some (leafS_ne t) (getL_leafS h hn)
theorem get14_low {t : Tx} {n : Int} (h2 : checkL t 200 = 0) (h : ¬ checkL t n = 0) : getT14 (leafS t) n = tx0 ∧ getB14 (leafS t) n = false ∧ getC14 (leafS t) n = 5 :=
  get14_none (leafS_ne t) (getL_cnot (fun h9 => h (by have := h9.2.2; rwa [candL_leafS h2] at this)))
theorem Try.builtA14 : Try.prog.built 22 [(0, .int .u8 5)] = some (cells adr5.1).toArray := by kernel_rfl
theorem build_sec0 (w : World) : (Instr.build 28 #[]).run Try.prog w = .ok (.agg zeroSec.cs.toArray) w := by kernel_rfl
theorem len_adr5 : (cells adr5.1).length = 32 := by rw [cells_length, adr5.2]

set_option maxRecDepth 100000 in
theorem light14_any (w : World) (t : Tx) (A : Option Addr) (c : Nat) :
    Calls Try.prog 6 #[.agg (txc t A c).toArray] w fun e w' => e = .returned (.bool (decide (t.slots.length < 50))) ∧ Below w.heap.size w w' := by
  go_enter Try.func6, Try.ntmps6
  go_wp2_with ((with_reducible refine at_box 25 ?_); refine box_tx rfl _ rfl t A c rfl ?_)
  intro w1 hr1 hb1 hs1
  have c1 := tx_slots hr1
  obtain ⟨m, hm⟩ : ∃ m, t.slots.length = m := ⟨_, rfl⟩
  rw [hm] at c1
  have Hm := Lib.hid hm
  clear hm
  have hd : decide ((m : Int) < 50) = decide (m < 50) := by
    rw [Bool.eq_iff_iff, decide_eq_true_eq, decide_eq_true_eq]
    omega
  go_wp2_with fail
  all_goals go_ret
  all_goals first
    | exact ⟨by rw [Hm.out, ← hd]; rfl, hb1⟩
    | (refine ⟨?_, hb1⟩; rw [Hm.out]; simp)

def Works14 : Prop := ∀ w : World, Calls Try.prog 7 #[] w fun e w' => e = .returned (.bool true) ∧ Below w.heap.size w w'
set_option maxRecDepth 100000 in
set_option maxHeartbeats 8000000 in
theorem works14_any : Works14 := by
  intro w
  have hz := zeroSv
  have hz' := build_sec0
  go_enter Try.func7, Try.ntmps7
  go_wp2_with first
    | ((with_reducible refine at_build 22 ?_); refine wpList_build_to rfl 22 _ rfl (cells adr5.1) (by rw [Array.toList_map]; exact Try.builtA14) ?_)
    | ((with_reducible refine at_build 25 ?_); refine wpList_build_to rfl 25 _ rfl (txc ex14 (some ⟨w.heap.size, 0, none⟩) 2) (by rw [Array.toList_map]; exact Try.builtT4 adr5 300 1 (some ⟨w.heap.size, 0, none⟩) [4, 2] 2) ?_)
    | ((with_reducible refine at_alloc 25 ?_); refine alloc_tx rfl rfl ?_)
  intro v1 hA2 hbA2 hsA2
  have hL_0 : Below w.heap.size w (w.alloc (.cells #[.int .i64 4, .int .i64 2] 3)) := (Below.refl _ _).alloc (Nat.le_refl _) _
  have hRS_0 : RowV (w.alloc (.cells #[.int .i64 4, .int .i64 2] 3)) w.heap.size 3 (slv ex14.slots) := RowV.new w 3 (slv ex14.slots)
  obtain ⟨v0, hv0⟩ : ∃ v0, w.alloc (.cells #[.int .i64 4, .int .i64 2] 3) = v0 := ⟨_, rfl⟩
  have hsz : w.heap.size + 1 = v0.heap.size := by rw [← hv0]; simp
  rw [hsz] at hA2 hbA2 ⊢
  rw [hv0] at hL_0 hRS_0 hbA2
  obtain ⟨S, hS⟩ : ∃ S, w.heap.size = S := ⟨_, rfl⟩
  rw [hS] at hRS_0 hL_0 ⊢
  have hNw : S ≤ w.heap.size := by omega
  clear hv0 hsA2 hsz
  go_wp2_with ((with_reducible refine at_store 25 ?_); refine store_tx rfl _ _ rfl (v0.heap.size) ex14 (some ⟨S, 0, none⟩) 2 rfl rfl hA2 (txc_length _ _ _) ?_)
  intro v2 hR2 hgR2 hsR2
  have hb2 := below_grown hbA2 hgR2 (Nat.le_refl _) hbA2.size
  clear hA2 hbA2 hgR2 hsR2
  have RS_2 := hRS_0.below hRS_0.lt hb2
  have hL_2 := hL_0.trans (hb2.mono (Nat.le_trans hNw hL_0.size))
  obtain ⟨BT1, hBT1⟩ : ∃ BT1, v0.heap.size = BT1 := ⟨_, rfl⟩
  rw [hBT1] at hR2
  try rw [hBT1]
  clear hRS_0 hL_0 hb2 hBT1
  go_wp2_with first
    | ((with_reducible refine at_load 25 ?_); refine load_tx rfl _ rfl BT1 rfl hR2 ?_)
    | ((with_reducible refine at_loadGR 25 ?_); refine load_txG (by rfl) _ rfl BT1 rfl hR2 ?_)
  refine (lput_any v2 v2.heap.size ex14 (some ⟨S, 0, none⟩) 2 (rowV_lies RS_2 RS_2.lt) (Nat.le_refl _)).mono ?_
  rintro e v3 ⟨rfl, hb3⟩
  have RS_3 := RS_2.below RS_2.lt hb3
  have RT1_3 := hR2.below hR2.lt hb3
  have hL_3 := hL_2.trans (hb3.mono (Nat.le_trans hNw hL_2.size))
  rw [putS14_yes ex14_check, ex14_check]
  clear RS_2 hR2 hL_2 hb3
  go_wp2_with ((with_reducible refine at_alloc 28 ?_); refine alloc_sec rfl rfl ?_)
  intro v4 hA5 hbA5 hsA5
  clear hsA5
  go_wp2_with ((with_reducible refine at_store 28 ?_); refine store_sec rfl _ _ rfl (v3.heap.size) (leafS ex14) rfl rfl hA5 (Sec.cs_length _) ?_)
  intro v5 hR5 hgR5 hsR5
  have hb5 := below_grown hbA5 hgR5 (Nat.le_refl _) hbA5.size
  clear hA5 hbA5 hgR5 hsR5
  have RS_5 := RS_3.below RS_3.lt hb5
  have RT1_5 := RT1_3.below RT1_3.lt hb5
  have hL_5 := hL_3.trans (hb5.mono (Nat.le_trans hNw hL_3.size))
  obtain ⟨BX1, hBX1⟩ : ∃ BX1, v3.heap.size = BX1 := ⟨_, rfl⟩
  rw [hBX1] at hR5
  try rw [hBX1]
  clear RS_3 RT1_3 hL_3 hb5 hBX1
  go_wp2_with first
    | ((with_reducible refine at_load 25 ?_); refine load_tx rfl _ rfl BT1 rfl RT1_5 ?_)
    | ((with_reducible refine at_loadGR 25 ?_); refine load_txG (by rfl) _ rfl BT1 rfl RT1_5 ?_)
    | ((with_reducible refine at_load 28 ?_); refine load_sec rfl _ rfl BX1 rfl hR5 ?_)
    | ((with_reducible refine at_loadG 28 ?_); refine load_secG (by rfl) _ rfl BX1 rfl hR5 ?_)
  refine (lget_any v5 (leafS ex14) 9).mono ?_
  rintro e v6 ⟨A6, c6, rfl, hq6, hb6⟩
  have RS_6 := RS_5.below RS_5.lt hb6
  have RT1_6 := RT1_5.below RT1_5.lt hb6
  have RX1_6 := hR5.below hR5.lt hb6
  have hL_6 := hL_5.trans (hb6.mono (Nat.le_trans hNw hL_5.size))
  rw [(get14_back ex14_check9 (by omega)).1] at hq6
  rw [(get14_back ex14_check9 (by omega)).1, (get14_back ex14_check9 (by omega)).2.1, (get14_back ex14_check9 (by omega)).2.2]
  have hq6 := Lib.hid hq6
  clear RS_5 RT1_5 hR5 hL_5 hb6
  go_wp2_with ((with_reducible refine at_alloc 25 ?_); refine alloc_tx rfl rfl ?_)
  intro v7 hA8 hbA8 hsA8
  clear hsA8
  go_wp2_with ((with_reducible refine at_store 25 ?_); refine store_tx rfl _ _ rfl (v6.heap.size) ex14 A6 c6 rfl rfl hA8 (txc_length _ _ _) ?_)
  intro v8 hR8 hgR8 hsR8
  have hb8 := below_grown hbA8 hgR8 (Nat.le_refl _) hbA8.size
  clear hA8 hbA8 hgR8 hsR8
  have RS_8 := RS_6.below RS_6.lt hb8
  have RT1_8 := RT1_6.below RT1_6.lt hb8
  have RX1_8 := RX1_6.below RX1_6.lt hb8
  have SL4_8 := Lib.hid ((hq6.out.below hb8).le hb8.size)
  have hL_8 := hL_6.trans (hb8.mono (Nat.le_trans hNw hL_6.size))
  obtain ⟨BT4, hBT4⟩ : ∃ BT4, v6.heap.size = BT4 := ⟨_, rfl⟩
  rw [hBT4] at hR8
  try rw [hBT4]
  clear RS_6 RT1_6 RX1_6 hq6 hL_6 hb8 hBT4
  go_wp2_with first
    | ((with_reducible refine at_load 25 ?_); refine load_tx rfl _ rfl BT1 rfl RT1_8 ?_)
    | ((with_reducible refine at_loadGR 25 ?_); refine load_txG (by rfl) _ rfl BT1 rfl RT1_8 ?_)
    | ((with_reducible refine at_load 28 ?_); refine load_sec rfl _ rfl BX1 rfl RX1_8 ?_)
    | ((with_reducible refine at_loadG 28 ?_); refine load_secG (by rfl) _ rfl BX1 rfl RX1_8 ?_)
    | ((with_reducible refine at_load 25 ?_); refine load_tx rfl _ rfl BT4 rfl hR8 ?_)
    | ((with_reducible refine at_loadGR 25 ?_); refine load_txG (by rfl) _ rfl BT4 rfl hR8 ?_)
  refine (lget_any v8 zeroSec 9).mono ?_
  rintro e v9 ⟨A9, c9, rfl, hq9, hb9⟩
  have RS_9 := RS_8.below RS_8.lt hb9
  have RT1_9 := RT1_8.below RT1_8.lt hb9
  have RX1_9 := RX1_8.below RX1_8.lt hb9
  have RT4_9 := hR8.below hR8.lt hb9
  have SL4_9 := Lib.hid ((SL4_8.out.below hb9).le hb9.size)
  have hL_9 := hL_8.trans (hb9.mono (Nat.le_trans hNw hL_8.size))
  rw [(get14_zero (n := 9) (x := zeroSec) rfl).1] at hq9
  rw [(get14_zero (n := 9) (x := zeroSec) rfl).1, (get14_zero (n := 9) (x := zeroSec) rfl).2.1, (get14_zero (n := 9) (x := zeroSec) rfl).2.2]
  have hq9 := Lib.hid hq9
  clear RS_8 RT1_8 RX1_8 hR8 SL4_8 hL_8 hb9
  go_wp2_with ((with_reducible refine at_alloc 25 ?_); refine alloc_tx rfl rfl ?_)
  intro v10 hA11 hbA11 hsA11
  clear hsA11
  go_wp2_with ((with_reducible refine at_store 25 ?_); refine store_tx rfl _ _ rfl (v9.heap.size) tx0 A9 c9 rfl rfl hA11 (txc_length _ _ _) ?_)
  intro v11 hR11 hgR11 hsR11
  have hb11 := below_grown hbA11 hgR11 (Nat.le_refl _) hbA11.size
  clear hA11 hbA11 hgR11 hsR11
  have RS_11 := RS_9.below RS_9.lt hb11
  have RT1_11 := RT1_9.below RT1_9.lt hb11
  have RX1_11 := RX1_9.below RX1_9.lt hb11
  have RT4_11 := RT4_9.below RT4_9.lt hb11
  have SL4_11 := Lib.hid ((SL4_9.out.below hb11).le hb11.size)
  have SL7_11 := Lib.hid ((hq9.out.below hb11).le hb11.size)
  have hL_11 := hL_9.trans (hb11.mono (Nat.le_trans hNw hL_9.size))
  obtain ⟨BT7, hBT7⟩ : ∃ BT7, v9.heap.size = BT7 := ⟨_, rfl⟩
  rw [hBT7] at hR11
  try rw [hBT7]
  clear RS_9 RT1_9 RX1_9 RT4_9 SL4_9 hq9 hL_9 hb11 hBT7
  go_wp2_with first
    | ((with_reducible refine at_load 25 ?_); refine load_tx rfl _ rfl BT1 rfl RT1_11 ?_)
    | ((with_reducible refine at_loadGR 25 ?_); refine load_txG (by rfl) _ rfl BT1 rfl RT1_11 ?_)
    | ((with_reducible refine at_load 28 ?_); refine load_sec rfl _ rfl BX1 rfl RX1_11 ?_)
    | ((with_reducible refine at_loadG 28 ?_); refine load_secG (by rfl) _ rfl BX1 rfl RX1_11 ?_)
    | ((with_reducible refine at_load 25 ?_); refine load_tx rfl _ rfl BT4 rfl RT4_11 ?_)
    | ((with_reducible refine at_loadGR 25 ?_); refine load_txG (by rfl) _ rfl BT4 rfl RT4_11 ?_)
    | ((with_reducible refine at_load 25 ?_); refine load_tx rfl _ rfl BT7 rfl hR11 ?_)
    | ((with_reducible refine at_loadGR 25 ?_); refine load_txG (by rfl) _ rfl BT7 rfl hR11 ?_)
  refine (lget_any v11 (leafS ex14) 4).mono ?_
  rintro e v12 ⟨A12, c12, rfl, hq12, hb12⟩
  have RS_12 := RS_11.below RS_11.lt hb12
  have RT1_12 := RT1_11.below RT1_11.lt hb12
  have RX1_12 := RX1_11.below RX1_11.lt hb12
  have RT4_12 := RT4_11.below RT4_11.lt hb12
  have RT7_12 := hR11.below hR11.lt hb12
  have SL4_12 := Lib.hid ((SL4_11.out.below hb12).le hb12.size)
  have SL7_12 := Lib.hid ((SL7_11.out.below hb12).le hb12.size)
  have hL_12 := hL_11.trans (hb12.mono (Nat.le_trans hNw hL_11.size))
  rw [(get14_low ex14_check (by rw [ex14_check4]; omega)).1] at hq12
  rw [(get14_low ex14_check (by rw [ex14_check4]; omega)).1, (get14_low ex14_check (by rw [ex14_check4]; omega)).2.1, (get14_low ex14_check (by rw [ex14_check4]; omega)).2.2]
  have hq12 := Lib.hid hq12
  clear RS_11 RT1_11 RX1_11 RT4_11 hR11 SL4_11 SL7_11 hL_11 hb12
  go_wp2_with ((with_reducible refine at_alloc 25 ?_); refine alloc_tx rfl rfl ?_)
  intro v13 hA14 hbA14 hsA14
  clear hsA14
  go_wp2_with ((with_reducible refine at_store 25 ?_); refine store_tx rfl _ _ rfl (v12.heap.size) tx0 A12 c12 rfl rfl hA14 (txc_length _ _ _) ?_)
  intro v14 hR14 hgR14 hsR14
  have hb14 := below_grown hbA14 hgR14 (Nat.le_refl _) hbA14.size
  clear hA14 hbA14 hgR14 hsR14
  have RS_14 := RS_12.below RS_12.lt hb14
  have RT1_14 := RT1_12.below RT1_12.lt hb14
  have RX1_14 := RX1_12.below RX1_12.lt hb14
  have RT4_14 := RT4_12.below RT4_12.lt hb14
  have RT7_14 := RT7_12.below RT7_12.lt hb14
  have SL4_14 := Lib.hid ((SL4_12.out.below hb14).le hb14.size)
  have SL7_14 := Lib.hid ((SL7_12.out.below hb14).le hb14.size)
  have SL10_14 := Lib.hid ((hq12.out.below hb14).le hb14.size)
  have hL_14 := hL_12.trans (hb14.mono (Nat.le_trans hNw hL_12.size))
  obtain ⟨BT10, hBT10⟩ : ∃ BT10, v12.heap.size = BT10 := ⟨_, rfl⟩
  rw [hBT10] at hR14
  try rw [hBT10]
  clear RS_12 RT1_12 RX1_12 RT4_12 RT7_12 SL4_12 SL7_12 hq12 hL_12 hb14 hBT10
  go_wp2_with first
    | ((with_reducible refine at_load 25 ?_); refine load_tx rfl _ rfl BT1 rfl RT1_14 ?_)
    | ((with_reducible refine at_loadGR 25 ?_); refine load_txG (by rfl) _ rfl BT1 rfl RT1_14 ?_)
    | ((with_reducible refine at_load 28 ?_); refine load_sec rfl _ rfl BX1 rfl RX1_14 ?_)
    | ((with_reducible refine at_loadG 28 ?_); refine load_secG (by rfl) _ rfl BX1 rfl RX1_14 ?_)
    | ((with_reducible refine at_load 25 ?_); refine load_tx rfl _ rfl BT4 rfl RT4_14 ?_)
    | ((with_reducible refine at_loadGR 25 ?_); refine load_txG (by rfl) _ rfl BT4 rfl RT4_14 ?_)
    | ((with_reducible refine at_load 25 ?_); refine load_tx rfl _ rfl BT7 rfl RT7_14 ?_)
    | ((with_reducible refine at_loadGR 25 ?_); refine load_txG (by rfl) _ rfl BT7 rfl RT7_14 ?_)
    | ((with_reducible refine at_load 25 ?_); refine load_tx rfl _ rfl BT10 rfl hR14 ?_)
    | ((with_reducible refine at_loadGR 25 ?_); refine load_txG (by rfl) _ rfl BT10 rfl hR14 ?_)
  refine (lmoved_any v14 v14.heap.size ex14 (some ⟨S, 0, none⟩) 2 2 7 (rowV_lies RS_14 RS_14.lt) (Nat.le_refl _) (by decide)).mono ?_
  rintro e v15 ⟨g15, rfl, hg15, hr15, hb15⟩
  have RS_15 := RS_14.below RS_14.lt hb15
  have RT1_15 := RT1_14.below RT1_14.lt hb15
  have RX1_15 := RX1_14.below RX1_14.lt hb15
  have RT4_15 := RT4_14.below RT4_14.lt hb15
  have RT7_15 := RT7_14.below RT7_14.lt hb15
  have RT10_15 := hR14.below hR14.lt hb15
  have SL4_15 := Lib.hid ((SL4_14.out.below hb15).le hb15.size)
  have SL7_15 := Lib.hid ((SL7_14.out.below hb15).le hb15.size)
  have SL10_15 := Lib.hid ((SL10_14.out.below hb15).le hb15.size)
  have hL_15 := hL_14.trans (hb15.mono (Nat.le_trans hNw hL_14.size))
  rw [ex14_moved] at hr15
  rw [ex14_moved, ex14_met]
  clear RS_14 RT1_14 RX1_14 RT4_14 RT7_14 hR14 SL4_14 SL7_14 SL10_14 hL_14 hb15
  go_wp2_with ((with_reducible refine at_alloc 25 ?_); refine alloc_tx rfl rfl ?_)
  intro v16 hA17 hbA17 hsA17
  clear hsA17
  go_wp2_with ((with_reducible refine at_store 25 ?_); refine store_tx rfl _ _ rfl (v15.heap.size) ex14m (some ⟨g15, 0, none⟩) 2 rfl rfl hA17 (txc_length _ _ _) ?_)
  intro v17 hR17 hgR17 hsR17
  have hb17 := below_grown hbA17 hgR17 (Nat.le_refl _) hbA17.size
  clear hA17 hbA17 hgR17 hsR17
  have RS_17 := RS_15.below RS_15.lt hb17
  have RT1_17 := RT1_15.below RT1_15.lt hb17
  have RX1_17 := RX1_15.below RX1_15.lt hb17
  have RT4_17 := RT4_15.below RT4_15.lt hb17
  have RT7_17 := RT7_15.below RT7_15.lt hb17
  have RT10_17 := RT10_15.below RT10_15.lt hb17
  have RM_17 := hr15.below hr15.lt hb17
  have SL4_17 := Lib.hid ((SL4_15.out.below hb17).le hb17.size)
  have SL7_17 := Lib.hid ((SL7_15.out.below hb17).le hb17.size)
  have SL10_17 := Lib.hid ((SL10_15.out.below hb17).le hb17.size)
  have hL_17 := hL_15.trans (hb17.mono (Nat.le_trans hNw hL_15.size))
  obtain ⟨BT13, hBT13⟩ : ∃ BT13, v15.heap.size = BT13 := ⟨_, rfl⟩
  rw [hBT13] at hR17
  try rw [hBT13]
  clear RS_15 RT1_15 RX1_15 RT4_15 RT7_15 RT10_15 hr15 SL4_15 SL7_15 SL10_15 hL_15 hb17 hBT13
  go_wp2_with first
    | ((with_reducible refine at_load 25 ?_); refine load_tx rfl _ rfl BT1 rfl RT1_17 ?_)
    | ((with_reducible refine at_loadGR 25 ?_); refine load_txG (by rfl) _ rfl BT1 rfl RT1_17 ?_)
    | ((with_reducible refine at_load 28 ?_); refine load_sec rfl _ rfl BX1 rfl RX1_17 ?_)
    | ((with_reducible refine at_loadG 28 ?_); refine load_secG (by rfl) _ rfl BX1 rfl RX1_17 ?_)
    | ((with_reducible refine at_load 25 ?_); refine load_tx rfl _ rfl BT4 rfl RT4_17 ?_)
    | ((with_reducible refine at_loadGR 25 ?_); refine load_txG (by rfl) _ rfl BT4 rfl RT4_17 ?_)
    | ((with_reducible refine at_load 25 ?_); refine load_tx rfl _ rfl BT7 rfl RT7_17 ?_)
    | ((with_reducible refine at_loadGR 25 ?_); refine load_txG (by rfl) _ rfl BT7 rfl RT7_17 ?_)
    | ((with_reducible refine at_load 25 ?_); refine load_tx rfl _ rfl BT10 rfl RT10_17 ?_)
    | ((with_reducible refine at_loadGR 25 ?_); refine load_txG (by rfl) _ rfl BT10 rfl RT10_17 ?_)
    | ((with_reducible refine at_load 25 ?_); refine load_tx rfl _ rfl BT13 rfl hR17 ?_)
    | ((with_reducible refine at_loadGR 25 ?_); refine load_txG (by rfl) _ rfl BT13 rfl hR17 ?_)
  refine (lcopy_any v17 v17.heap.size ex14 (some ⟨S, 0, none⟩) 2 (rowV_lies RS_17 RS_17.lt) (Nat.le_refl _) (by decide)).mono ?_
  rintro e v18 ⟨g18, rfl, hg18, hr18, hb18⟩
  have RS_18 := RS_17.below RS_17.lt hb18
  have RT1_18 := RT1_17.below RT1_17.lt hb18
  have RX1_18 := RX1_17.below RX1_17.lt hb18
  have RT4_18 := RT4_17.below RT4_17.lt hb18
  have RT7_18 := RT7_17.below RT7_17.lt hb18
  have RT10_18 := RT10_17.below RT10_17.lt hb18
  have RM_18 := RM_17.below RM_17.lt hb18
  have RT13_18 := hR17.below hR17.lt hb18
  have SL4_18 := Lib.hid ((SL4_17.out.below hb18).le hb18.size)
  have SL7_18 := Lib.hid ((SL7_17.out.below hb18).le hb18.size)
  have SL10_18 := Lib.hid ((SL10_17.out.below hb18).le hb18.size)
  have hL_18 := hL_17.trans (hb18.mono (Nat.le_trans hNw hL_17.size))
  clear RS_17 RT1_17 RX1_17 RT4_17 RT7_17 RT10_17 RM_17 hR17 SL4_17 SL7_17 SL10_17 hL_17 hb18
  go_wp2_with ((with_reducible refine at_alloc 25 ?_); refine alloc_tx rfl rfl ?_)
  intro v19 hA20 hbA20 hsA20
  clear hsA20
  go_wp2_with ((with_reducible refine at_store 25 ?_); refine store_tx rfl _ _ rfl (v18.heap.size) ex14 (some ⟨g18, 0, none⟩) 2 rfl rfl hA20 (txc_length _ _ _) ?_)
  intro v20 hR20 hgR20 hsR20
  have hb20 := below_grown hbA20 hgR20 (Nat.le_refl _) hbA20.size
  clear hA20 hbA20 hgR20 hsR20
  have RS_20 := RS_18.below RS_18.lt hb20
  have RT1_20 := RT1_18.below RT1_18.lt hb20
  have RX1_20 := RX1_18.below RX1_18.lt hb20
  have RT4_20 := RT4_18.below RT4_18.lt hb20
  have RT7_20 := RT7_18.below RT7_18.lt hb20
  have RT10_20 := RT10_18.below RT10_18.lt hb20
  have RM_20 := RM_18.below RM_18.lt hb20
  have RT13_20 := RT13_18.below RT13_18.lt hb20
  have RC_20 := hr18.below hr18.lt hb20
  have SL4_20 := Lib.hid ((SL4_18.out.below hb20).le hb20.size)
  have SL7_20 := Lib.hid ((SL7_18.out.below hb20).le hb20.size)
  have SL10_20 := Lib.hid ((SL10_18.out.below hb20).le hb20.size)
  have hL_20 := hL_18.trans (hb20.mono (Nat.le_trans hNw hL_18.size))
  obtain ⟨BT15, hBT15⟩ : ∃ BT15, v18.heap.size = BT15 := ⟨_, rfl⟩
  rw [hBT15] at hR20
  try rw [hBT15]
  clear RS_18 RT1_18 RX1_18 RT4_18 RT7_18 RT10_18 RM_18 RT13_18 hr18 SL4_18 SL7_18 SL10_18 hL_18 hb20 hBT15
  go_wp2_with first
    | ((with_reducible refine at_load 25 ?_); refine load_tx rfl _ rfl BT1 rfl RT1_20 ?_)
    | ((with_reducible refine at_loadGR 25 ?_); refine load_txG (by rfl) _ rfl BT1 rfl RT1_20 ?_)
    | ((with_reducible refine at_load 28 ?_); refine load_sec rfl _ rfl BX1 rfl RX1_20 ?_)
    | ((with_reducible refine at_loadG 28 ?_); refine load_secG (by rfl) _ rfl BX1 rfl RX1_20 ?_)
    | ((with_reducible refine at_load 25 ?_); refine load_tx rfl _ rfl BT4 rfl RT4_20 ?_)
    | ((with_reducible refine at_loadGR 25 ?_); refine load_txG (by rfl) _ rfl BT4 rfl RT4_20 ?_)
    | ((with_reducible refine at_load 25 ?_); refine load_tx rfl _ rfl BT7 rfl RT7_20 ?_)
    | ((with_reducible refine at_loadGR 25 ?_); refine load_txG (by rfl) _ rfl BT7 rfl RT7_20 ?_)
    | ((with_reducible refine at_load 25 ?_); refine load_tx rfl _ rfl BT10 rfl RT10_20 ?_)
    | ((with_reducible refine at_loadGR 25 ?_); refine load_txG (by rfl) _ rfl BT10 rfl RT10_20 ?_)
    | ((with_reducible refine at_load 25 ?_); refine load_tx rfl _ rfl BT13 rfl RT13_20 ?_)
    | ((with_reducible refine at_loadGR 25 ?_); refine load_txG (by rfl) _ rfl BT13 rfl RT13_20 ?_)
    | ((with_reducible refine at_load 25 ?_); refine load_tx rfl _ rfl BT15 rfl hR20 ?_)
    | ((with_reducible refine at_loadGR 25 ?_); refine load_txG (by rfl) _ rfl BT15 rfl hR20 ?_)
  refine (lsame_any v20 v20.heap.size ex14 ex14 (some ⟨S, 0, none⟩) A6 2 c6 (rowV_lies RS_20 RS_20.lt) SL4_20.out (Nat.le_refl _) (by decide) (by decide)).mono ?_
  rintro e v21 ⟨rfl, hb21⟩
  have RS_21 := RS_20.below RS_20.lt hb21
  have RT1_21 := RT1_20.below RT1_20.lt hb21
  have RX1_21 := RX1_20.below RX1_20.lt hb21
  have RT4_21 := RT4_20.below RT4_20.lt hb21
  have RT7_21 := RT7_20.below RT7_20.lt hb21
  have RT10_21 := RT10_20.below RT10_20.lt hb21
  have RM_21 := RM_20.below RM_20.lt hb21
  have RT13_21 := RT13_20.below RT13_20.lt hb21
  have RC_21 := RC_20.below RC_20.lt hb21
  have RT15_21 := hR20.below hR20.lt hb21
  have SL4_21 := Lib.hid ((SL4_20.out.below hb21).le hb21.size)
  have SL7_21 := Lib.hid ((SL7_20.out.below hb21).le hb21.size)
  have SL10_21 := Lib.hid ((SL10_20.out.below hb21).le hb21.size)
  have hL_21 := hL_20.trans (hb21.mono (Nat.le_trans hNw hL_20.size))
  rw [show sameT ex14 ex14 = true from decide_eq_true rfl]
  clear RS_20 RT1_20 RX1_20 RT4_20 RT7_20 RT10_20 RM_20 RT13_20 RC_20 hR20 SL4_20 SL7_20 SL10_20 hL_20 hb21
  have e1 : v21.cell? ⟨BT13, 33, none⟩ = some (.slice (some ⟨g15, 0, none⟩) 2 2) := tx_slots RT13_21
  have e2 : v21.cell? ⟨g15, 1, none⟩ = some (.int .i64 7) := RM_21.cell rfl
  have e3 : v21.cell? ⟨BT1, 33, none⟩ = some (.slice (some ⟨S, 0, none⟩) 2 2) := tx_slots RT1_21
  have e4 : v21.cell? ⟨S, 1, none⟩ = some (.int .i64 2) := RS_21.cell rfl
  go_wp2_with first
    | ((with_reducible refine at_load 25 ?_); refine load_tx rfl _ rfl BT1 rfl RT1_21 ?_)
    | ((with_reducible refine at_loadGR 25 ?_); refine load_txG (by rfl) _ rfl BT1 rfl RT1_21 ?_)
    | ((with_reducible refine at_load 28 ?_); refine load_sec rfl _ rfl BX1 rfl RX1_21 ?_)
    | ((with_reducible refine at_loadG 28 ?_); refine load_secG (by rfl) _ rfl BX1 rfl RX1_21 ?_)
    | ((with_reducible refine at_load 25 ?_); refine load_tx rfl _ rfl BT4 rfl RT4_21 ?_)
    | ((with_reducible refine at_loadGR 25 ?_); refine load_txG (by rfl) _ rfl BT4 rfl RT4_21 ?_)
    | ((with_reducible refine at_load 25 ?_); refine load_tx rfl _ rfl BT7 rfl RT7_21 ?_)
    | ((with_reducible refine at_loadGR 25 ?_); refine load_txG (by rfl) _ rfl BT7 rfl RT7_21 ?_)
    | ((with_reducible refine at_load 25 ?_); refine load_tx rfl _ rfl BT10 rfl RT10_21 ?_)
    | ((with_reducible refine at_loadGR 25 ?_); refine load_txG (by rfl) _ rfl BT10 rfl RT10_21 ?_)
    | ((with_reducible refine at_load 25 ?_); refine load_tx rfl _ rfl BT13 rfl RT13_21 ?_)
    | ((with_reducible refine at_loadGR 25 ?_); refine load_txG (by rfl) _ rfl BT13 rfl RT13_21 ?_)
    | ((with_reducible refine at_load 25 ?_); refine load_tx rfl _ rfl BT15 rfl RT15_21 ?_)
    | ((with_reducible refine at_loadGR 25 ?_); refine load_txG (by rfl) _ rfl BT15 rfl RT15_21 ?_)
  clear e1 e2 e3 e4
  refine (lsame_any v21 v21.heap.size ex14 ex14 (some ⟨g18, 0, none⟩) (some ⟨S, 0, none⟩) 2 2 (rowV_lies RC_21 RC_21.lt) (rowV_lies RS_21 RS_21.lt) (Nat.le_refl _) (by decide) (by decide)).mono ?_
  rintro e v22 ⟨rfl, hb22⟩
  have RS_22 := RS_21.below RS_21.lt hb22
  have RT1_22 := RT1_21.below RT1_21.lt hb22
  have RX1_22 := RX1_21.below RX1_21.lt hb22
  have RT4_22 := RT4_21.below RT4_21.lt hb22
  have RT7_22 := RT7_21.below RT7_21.lt hb22
  have RT10_22 := RT10_21.below RT10_21.lt hb22
  have RM_22 := RM_21.below RM_21.lt hb22
  have RT13_22 := RT13_21.below RT13_21.lt hb22
  have RC_22 := RC_21.below RC_21.lt hb22
  have RT15_22 := RT15_21.below RT15_21.lt hb22
  have SL4_22 := Lib.hid ((SL4_21.out.below hb22).le hb22.size)
  have SL7_22 := Lib.hid ((SL7_21.out.below hb22).le hb22.size)
  have SL10_22 := Lib.hid ((SL10_21.out.below hb22).le hb22.size)
  have hL_22 := hL_21.trans (hb22.mono (Nat.le_trans hNw hL_21.size))
  rw [show sameT ex14 ex14 = true from decide_eq_true rfl]
  clear RS_21 RT1_21 RX1_21 RT4_21 RT7_21 RT10_21 RM_21 RT13_21 RC_21 RT15_21 SL4_21 SL7_21 SL10_21 hL_21 hb22
  go_wp2_with first
    | ((with_reducible refine at_load 25 ?_); refine load_tx rfl _ rfl BT1 rfl RT1_22 ?_)
    | ((with_reducible refine at_loadGR 25 ?_); refine load_txG (by rfl) _ rfl BT1 rfl RT1_22 ?_)
    | ((with_reducible refine at_load 28 ?_); refine load_sec rfl _ rfl BX1 rfl RX1_22 ?_)
    | ((with_reducible refine at_loadG 28 ?_); refine load_secG (by rfl) _ rfl BX1 rfl RX1_22 ?_)
    | ((with_reducible refine at_load 25 ?_); refine load_tx rfl _ rfl BT4 rfl RT4_22 ?_)
    | ((with_reducible refine at_loadGR 25 ?_); refine load_txG (by rfl) _ rfl BT4 rfl RT4_22 ?_)
    | ((with_reducible refine at_load 25 ?_); refine load_tx rfl _ rfl BT7 rfl RT7_22 ?_)
    | ((with_reducible refine at_loadGR 25 ?_); refine load_txG (by rfl) _ rfl BT7 rfl RT7_22 ?_)
    | ((with_reducible refine at_load 25 ?_); refine load_tx rfl _ rfl BT10 rfl RT10_22 ?_)
    | ((with_reducible refine at_loadGR 25 ?_); refine load_txG (by rfl) _ rfl BT10 rfl RT10_22 ?_)
    | ((with_reducible refine at_load 25 ?_); refine load_tx rfl _ rfl BT13 rfl RT13_22 ?_)
    | ((with_reducible refine at_loadGR 25 ?_); refine load_txG (by rfl) _ rfl BT13 rfl RT13_22 ?_)
    | ((with_reducible refine at_load 25 ?_); refine load_tx rfl _ rfl BT15 rfl RT15_22 ?_)
    | ((with_reducible refine at_loadGR 25 ?_); refine load_txG (by rfl) _ rfl BT15 rfl RT15_22 ?_)
  refine (lcheck_any v22 v22.heap.size ex14 (some ⟨S, 0, none⟩) 2 4 (rowV_lies RS_22 RS_22.lt) (Nat.le_refl _)).mono ?_
  rintro e v23 ⟨rfl, hb23⟩
  have RS_23 := RS_22.below RS_22.lt hb23
  have RT1_23 := RT1_22.below RT1_22.lt hb23
  have RX1_23 := RX1_22.below RX1_22.lt hb23
  have RT4_23 := RT4_22.below RT4_22.lt hb23
  have RT7_23 := RT7_22.below RT7_22.lt hb23
  have RT10_23 := RT10_22.below RT10_22.lt hb23
  have RM_23 := RM_22.below RM_22.lt hb23
  have RT13_23 := RT13_22.below RT13_22.lt hb23
  have RC_23 := RC_22.below RC_22.lt hb23
  have RT15_23 := RT15_22.below RT15_22.lt hb23
  have SL4_23 := Lib.hid ((SL4_22.out.below hb23).le hb23.size)
  have SL7_23 := Lib.hid ((SL7_22.out.below hb23).le hb23.size)
  have SL10_23 := Lib.hid ((SL10_22.out.below hb23).le hb23.size)
  have hL_23 := hL_22.trans (hb23.mono (Nat.le_trans hNw hL_22.size))
  rw [ex14_check4]
  clear RS_22 RT1_22 RX1_22 RT4_22 RT7_22 RT10_22 RM_22 RT13_22 RC_22 RT15_22 SL4_22 SL7_22 SL10_22 hL_22 hb23
  go_wp2_with fail
  go_ret
  exact ⟨rfl, by rw [hS]; exact hL_23⟩
end Go.Proofs.Ytkfhbngphkobfaa
