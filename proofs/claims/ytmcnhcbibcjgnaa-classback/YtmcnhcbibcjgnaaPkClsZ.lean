/-
  Layer 15: the law ClassBack.
-/
import Derived.Test.YtmcnhcbibcjgnaaPkClsW
import Derived.Test.YtmcnhcbibcjgnaaPkClsU
import Derived.BigQuiet
namespace Go.Proofs.Ytmcnhcbibcjgnaa
open Go.RowKit Go.Maps
set_option linter.unusedVariables false
set_option linter.unusedSimpArgs false

set_option maxRecDepth 100000 in
set_option maxHeartbeats 8000000 in
theorem back15_law (HW : Works15) (w : World) (ax : List Act15) (x : Sec) (A : Option Addr) (c : Nat) (h : LiesV w w.heap.size A (actsV ax)) :
    Calls Try.prog 5 #[.slice A ax.length c, .agg x.cs.toArray] w fun e w' => e = .returned (.bool true) ∧ Below w.heap.size w w' := by
  have HA := Lib.hid h
  have HWh := Lib.hid HW
  obtain ⟨N, hN⟩ : ∃ N, w.heap.size = N := ⟨_, rfl⟩
  have HN := Lib.hid hN
  obtain ⟨na, hna⟩ : ∃ na, ax.length = na := ⟨_, rfl⟩
  have Hna := Lib.hid hna
  rw [hna]
  clear h HW hna
  go_enter Try.func5, Try.ntmps5
  go_wp2_with ((with_reducible refine at_box 48 ?_); refine wpList_box_rowV rfl 48 _ rfl x.cs rfl ?_)
  intro w1 hr1 hb1 hs1
  have HX1 := Lib.hid hr1
  have HB1 := Lib.hid hb1
  have hA1 : LiesV w1 w.heap.size A (actsV ax) := HA.out.below (by rw [hN]; exact hb1)
  have hlA := clight_any w1 w.heap.size A na c ax hA1 Hna.out.symm
  obtain ⟨la, hla⟩ : ∃ la, lightC ax = la := ⟨_, rfl⟩
  have HmA : Hid (lightC ax = true → Calls Try.prog 8 #[.slice A na c] w1 (RetMade w1 (madeC [] ax))) := fun e => cmade_any w1 w.heap.size A na c ax hA1 Hna.out.symm (by omega) e
  rw [hla] at hlA HmA
  clear hr1 hb1 hA1 hla hN
  go_wp2_with fail
  refine hlA.mono ?_
  rintro e w2 ⟨rfl, rfl⟩
  clear hlA
  cases la
  · go_wp2_with fail
    refine (HWh.out w1).mono ?_
    rintro e w2 ⟨rfl, hb⟩
    go_wp2_with fail
    go_ret
    exact ⟨rfl, by rw [HN.out]; exact HB1.out.trans (hb.mono (by omega))⟩
  go_wp2_with fail
  refine (HmA.out (by trivial)).mono ?_
  rintro e w2 ⟨g, L, v, rfl, hc2, hr2, hb2⟩
  obtain ⟨l, hl⟩ : ∃ l, madeC [] ax = l := ⟨_, rfl⟩
  rw [hl] at hc2 hr2
  have HC2 : Hid (Cls w2 N L g l) := hc2.lower (by omega)
  have HR2 := Lib.hid hr2
  have Hok := Lib.hid hc2.ok
  have hl8 := hc2.ok.len
  have HB2 : Hid (Below N w w2) := HB1.out.trans (hb2.mono (by omega))
  have HX2 := Lib.hid (HX1.out.below (by omega) hb2)
  have hz2 : N + 1 ≤ w2.heap.size := by have := hb2.size; omega
  clear HmA hl hc2 hr2 hb2 HX1 HB1
  go_wp2_with fail
  refine (cput_any w2 N g L l HC2.out).mono ?_
  rintro e w3 ⟨rfl, hb3⟩
  have HC3 := Lib.hid (HC2.out.below hb3)
  have HR3 := Lib.hid (HR2.out.below hb3)
  have HX3 := Lib.hid (HX2.out.below (by omega) hb3)
  have HB3 : Hid (Below N w w3) := HB2.out.trans (hb3.mono (by omega))
  have hz3 : N + 1 ≤ w3.heap.size := by have := hb3.size; omega
  clear hb3 HC2 HR2 HX2 HB2
  go_wp2_with fail
  refine (cread_any w3 (clsS l)).mono ?_
  rintro e w4 hP
  obtain ⟨g4, L4, rfl, hc4, hb4⟩ := hP.yes Hok.out
  have HC4 := Lib.hid (HC3.out.below hb4)
  have HR4 := Lib.hid (HR3.out.below hb4)
  have HX4 := Lib.hid (HX3.out.below (by omega) hb4)
  have HB4 : Hid (Below N w w4) := HB3.out.trans (hb4.mono (by omega))
  have hz4 : N + 1 ≤ w4.heap.size := by have := hb4.size; omega
  have HT4 : Hid (Cls w4 N L4 g4 l) := hc4.lower (by omega)
  clear hP hb4 hc4 HC3 HR3 HX3 HB3
  go_wp2_with fail
  refine (cput_any w4 N g L l HC4.out).mono ?_
  rintro e w5 ⟨rfl, hb5⟩
  have HR5 := Lib.hid (HR4.out.below hb5)
  have HX5 := Lib.hid (HX4.out.below (by omega) hb5)
  have HB5 : Hid (Below N w w5) := HB4.out.trans (hb5.mono (by omega))
  have hz5 : N + 1 ≤ w5.heap.size := by have := hb5.size; omega
  have HT5 := Lib.hid (HT4.out.below hb5)
  clear hb5 HC4 HR4 HX4 HB4 HT4
  go_wp2_with fail
  refine (rput15_any w5 w5.heap.size v l HR5.out.rw (Nat.le_refl _) Hok.out).mono ?_
  rintro e w6 ⟨rfl, hb6⟩
  have HR6 := Lib.hid (HR5.out.below hb6)
  have HX6 := Lib.hid (HX5.out.below (by omega) hb6)
  have HB6 : Hid (Below N w w6) := HB5.out.trans (hb6.mono (by omega))
  have hz6 : N + 1 ≤ w6.heap.size := by have := hb6.size; omega
  have HT6 := Lib.hid (HT5.out.below hb6)
  have heq : ∀ W, (Op.equalIn 10000 48 (.agg (clsS l).cs.toArray) (.agg (clsS l).cs.toArray)).run Try.prog W = .ok true W := fun W => by
    have := run_equalIn_bytes W 9998 Try.underlying48 Try.underlying5 Try.cells5s (clsS l).2 (clsS l).2
    rw [beq_self_eq_true] at this
    exact this
  clear hb6 HR5 HX5 HB5 HT5
  go_wp2_with fail
  clear heq
  refine (call_any w6 N g4 L4 l HT6.out).mono ?_
  rintro e w7 ⟨Aa, ca, rfl, hla7, _, hb7⟩
  have HR7 := Lib.hid (HR6.out.below hb7)
  have HX7 := Lib.hid (HX6.out.below (by omega) hb7)
  have HB7 : Hid (Below N w w7) := HB6.out.trans (hb7.mono (by omega))
  have hz7 : N + 1 ≤ w7.heap.size := by have := hb7.size; omega
  obtain ⟨Ar, cr, rfl, _, hlr⟩ := HR7.out.rw
  have hsm := rsame15_any w7 w7.heap.size Aa Ar l.length ca l.length cr l l hla7 hlr rfl rfl (Nat.le_refl _) (by omega) (by omega)
  rw [decide_eq_true (rfl : l = l)] at hsm
  clear hb7 HR6 HX6 HB6 HT6 hla7 hlr HR7
  go_wp2_with fail
  refine hsm.mono ?_
  rintro e w8 ⟨rfl, hb8⟩
  have HX8 := HX7.out.below (by omega) hb8
  have HB8 : Hid (Below N w w8) := HB7.out.trans (hb8.mono (by omega))
  have hz8 : N + 1 ≤ w8.heap.size := by have := hb8.size; omega
  clear hb8 hsm HX7 HB7
  go_wp2_with ((with_reducible refine at_load 48 ?_); refine load_sec rfl _ rfl N rfl HX8 ?_)
  refine (cread_any w8 x).mono ?_
  rintro e w9 ⟨hb9, hP⟩
  have HX9 := Lib.hid (HX8.below (by omega) hb9)
  have HB9 : Hid (Below N w w9) := HB8.out.trans (hb9.mono (by omega))
  have hz9 : N + 1 ≤ w9.heap.size := by have := hb9.size; omega
  clear hb9 HX8 HB8
  rcases hP with ⟨m, gu, Lu, hm, hmx, rfl, hcu⟩ | ⟨_, rfl⟩
  rotate_left
  · go_wp2_with fail
    refine (HWh.out w9).mono ?_
    rintro e w10 ⟨rfl, hb⟩
    go_wp2_with fail
    go_ret
    exact ⟨rfl, by rw [HN.out]; exact HB9.out.trans (hb.mono (by omega))⟩
  have HCu := Lib.hid hcu
  have Hmx := Lib.hid hmx
  clear hcu hmx
  go_wp2_with fail
  have hC : Cls w9.drew w8.heap.size Lu gu m := HCu.out.drew
  have hR : RowV w9.drew N 48 x.cs := HX9.out
  have hBd : Below N w w9.drew := HB9.out.drew
  have hzd : N + 1 ≤ w9.drew.heap.size := hz9
  clear HCu HX9 HB9
  refine wp_region_held_drew (S := fun W => Below w9.drew.heap.size w9.drew W) (by kernel_rfl) (Below.refl _ _) (fun hHeld => ?_)
  generalize w9.drew = wd at *
  have hSc : Below wd.heap.size wd wd := Below.refl _ _
  have hRl := hR.lt
  have Hbe : Hid (decide (clsS m = x) = true) := by show _ = _; rw [Hmx.out]; simp
  refine wpAnyH_take (i := 0) (oi := ⟨_, _, _, _, _, _⟩) (v := ?_) rfl (by kernel_rfl) (by kernel_rfl) (by kernel_rfl) (fun _ _ _ h => h) (Or.inl ⟨by rfl, ?_⟩) (by assumption) ?_
  rotate_left
  · intro W hSW; go_simp; try with_reducible rfl
  try simp only [Act.put, List.setIfInBounds_toArray, List.set_cons_zero, List.set_cons_succ]
  refine wpAnyH_take (i := 1) (oi := ⟨_, _, _, _, _, _⟩) (v := .bool true) rfl (by kernel_rfl) (by kernel_rfl) (by kernel_rfl) (fun _ _ _ h => h) (Or.inl ⟨by rfl, ?_⟩) (by assumption) ?_
  · intro W hSW; go_simp
  try simp only [Act.put, List.setIfInBounds_toArray, List.set_cons_zero, List.set_cons_succ]
  refine wpAnyH_take (i := 2) (oi := ⟨_, _, _, _, _, _⟩) (v := ?_) rfl (by kernel_rfl) (by kernel_rfl) (by kernel_rfl) (fun _ _ _ h => h) (Or.inl ⟨by rfl, ?_⟩) (by assumption) ?_
  rotate_left
  · intro W hSW; go_simp; try with_reducible rfl
  try simp only [Act.put, List.setIfInBounds_toArray, List.set_cons_zero, List.set_cons_succ]
  refine wpAnyH_take (i := 3) (oi := ⟨_, _, _, _, _, _⟩) (v := ?_) rfl (by kernel_rfl) (by kernel_rfl) (by kernel_rfl) (fun _ _ _ h => h) (Or.inl ⟨by rfl, ?_⟩) (by assumption) ?_
  rotate_left
  · intro W hSW; go_simp; try with_reducible rfl
  try simp only [Act.put, List.setIfInBounds_toArray, List.set_cons_zero, List.set_cons_succ]
  refine wpAnyH_take (i := 5) (oi := ⟨_, _, _, _, _, _⟩) (v := ?_) rfl (by kernel_rfl) (by kernel_rfl) (by kernel_rfl) (fun _ _ _ h => h) (Or.inl ⟨by rfl, ?_⟩) (by assumption) ?_
  rotate_left
  · intro W hSW; refine exec_load_row 48 (.tmp 3) ?_ N ?_ _ (hR.below hRl hSW) Try.underlying48 rfl (sec_size _) <;> rfl
  try simp only [Act.put, List.setIfInBounds_toArray, List.set_cons_zero, List.set_cons_succ]
  refine wpAnyH_ready (rs := [4]) (by kernel_rfl) (by simp) ?_
  refine AllReadyH.cons (o := ⟨_, _, _, _, _, _⟩) rfl (fun K hK => ?_) AllReadyH.nil
  go_simp
  refine (cput_any wd w8.heap.size gu Lu m hC).mono ?_
  rintro e x1 ⟨rfl, hb⟩
  try simp only []
  have hSx1 := hSc.trans (hb.mono hSc.size)
  refine hK.out _ _ hSx1 (fun hHeld => ?_)
  clear hK K hb hSc
  have hSc := hSx1
  clear hSx1
  try simp only [Act.put, List.setIfInBounds_toArray, List.set_cons_zero, List.set_cons_succ]
  refine wpAnyH_take (i := 6) (oi := ⟨_, _, _, _, _, _⟩) (v := .bool true) rfl (by kernel_rfl) (by kernel_rfl) (by kernel_rfl) (fun _ _ _ h => h) (Or.inl ⟨by rfl, ?_⟩) (by assumption) ?_
  · intro W hSW; rw [exec_eql_sec (.tmp 70) (.tmp 71) _ (by rfl) (clsS m) x (by rfl) (by rfl), Hbe.out]
  try simp only [Act.put, List.setIfInBounds_toArray, List.set_cons_zero, List.set_cons_succ]
  refine wpAnyH_take (i := 7) (oi := ⟨_, _, _, _, _, _⟩) (v := ?_) rfl (by kernel_rfl) (by kernel_rfl) (by kernel_rfl) (fun _ _ _ h => h) (Or.inl ⟨by rfl, ?_⟩) (by assumption) ?_
  rotate_left
  · intro W hSW; go_simp; try with_reducible rfl
  try simp only [Act.put, List.setIfInBounds_toArray, List.set_cons_zero, List.set_cons_succ]
  refine wpAnyH_take (i := 8) (oi := ⟨_, _, _, _, _, _⟩) (v := ?_) rfl (by kernel_rfl) (by kernel_rfl) (by kernel_rfl) (fun _ _ _ h => h) (Or.inl ⟨by rfl, ?_⟩) (by assumption) ?_
  rotate_left
  · intro W hSW; go_simp; try with_reducible rfl
  try simp only [Act.put, List.setIfInBounds_toArray, List.set_cons_zero, List.set_cons_succ]
  refine wpAnyH_ready (rs := [9]) (by kernel_rfl) (by simp) ?_
  refine AllReadyH.cons (o := ⟨_, _, _, _, _, _⟩) rfl (fun K hK => ?_) AllReadyH.nil
  go_simp
  refine (HWh.out _).mono ?_
  rintro e x2 ⟨rfl, hb⟩
  try simp only []
  have hSx2 := hSc.trans (hb.mono hSc.size)
  refine hK.out _ _ hSx2 (fun hHeld => ?_)
  clear hK K hb hSc
  have hSc := hSx2
  clear hSx2
  try simp only [Act.put, List.setIfInBounds_toArray, List.set_cons_zero, List.set_cons_succ]
  refine wpAnyH_take (i := 10) (oi := ⟨_, _, _, _, _, _⟩) (v := ?_) rfl (by kernel_rfl) (by kernel_rfl) (by kernel_rfl) (fun _ _ _ h => h) (Or.inl ⟨by rfl, ?_⟩) (by assumption) ?_
  rotate_left
  · intro W hSW; go_simp; try with_reducible rfl
  try simp only [Act.put, List.setIfInBounds_toArray, List.set_cons_zero, List.set_cons_succ]
  refine wpAnyH_take (i := 11) (oi := ⟨_, _, _, _, _, _⟩) (v := ?_) rfl (by kernel_rfl) (by kernel_rfl) (by kernel_rfl) (fun _ _ _ h => h) (Or.inl ⟨by rfl, ?_⟩) (by assumption) ?_
  rotate_left
  · intro W hSW; go_simp; try with_reducible rfl
  try simp only [Act.put, List.setIfInBounds_toArray, List.set_cons_zero, List.set_cons_succ]
  refine wpAnyH_done (by kernel_rfl) ?_ _
  go_wp2_with fail
  go_ret
  exact ⟨rfl, by rw [HN.out]; exact hBd.trans (hSc.mono (by omega))⟩
end Go.Proofs.Ytmcnhcbibcjgnaa
