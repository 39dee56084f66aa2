/-
  Layer 8: the contract of the reference's Get. (Written by wip/mk/mk8g.py.)
  Layer 8: the contract of the reference's Choose.
  The walk of the law SuperPuts. (Written by wip/mk/mk8t.py.)
-/
import Derived.Test.YtoiphbdmmiikaaaPkSupN
import Derived.Test.YtoiphbdmmiikaaaPkRGet
import Derived.Test.YtoiphbdmmiikaaaPkSupW
import Derived.Deep.Cut
import Derived.Deep.RegionHeld3
namespace Go.Proofs.Ytoiphbdmmiikaaa
open Go.RowKit
set_option linter.unusedVariables false
set_option linter.unusedSimpArgs false

theorem rnum8 (w : World) (x : Sec) : Calls Try.prog 28 #[.agg x.cs.toArray, .int .i64 8] w fun e w' => e = .returned (.int .i64 (numAt x.1 8 2 : Nat)) ∧ Below w.heap.size w w' := rnum_any w x 8 (by omega)
theorem rnum10 (w : World) (x : Sec) : Calls Try.prog 28 #[.agg x.cs.toArray, .int .i64 10] w fun e w' => e = .returned (.int .i64 (numAt x.1 10 2 : Nat)) ∧ Below w.heap.size w w' := rnum_any w x 10 (by omega)
theorem rnum12 (w : World) (x : Sec) : Calls Try.prog 28 #[.agg x.cs.toArray, .int .i64 12] w fun e w' => e = .returned (.int .i64 (numAt x.1 12 2 : Nat)) ∧ Below w.heap.size w w' := rnum_any w x 12 (by omega)
theorem rnum14 (w : World) (x : Sec) : Calls Try.prog 28 #[.agg x.cs.toArray, .int .i64 14] w fun e w' => e = .returned (.int .i64 (numAt x.1 14 2 : Nat)) ∧ Below w.heap.size w w' := rnum_any w x 14 (by omega)
theorem candS_bad {x : Sec} (h : (candS x).ok = false) : getS x = none := by
  unfold getS
  rw [if_neg]
  rintro ⟨h1, _⟩
  rw [h] at h1
  cases h1
theorem candS_other {x : Sec} (h : (candS x).sec ≠ x) : getS x = none := by
  unfold getS
  rw [if_neg]
  rintro ⟨_, h2⟩
  exact h h2
theorem candS_yes {x : Sec} (h1 : (candS x).ok = true) (h2 : (candS x).sec = x) : getS x = some (candS x) := by
  unfold getS
  rw [if_pos ⟨h1, h2⟩]
theorem candS_big {x : Sec} (h : 1099511627776 < numAt x.1 16 8) : getS x = none := by
  refine candS_bad ?_
  cases hc : (candS x).ok with
  | false => rfl
  | true =>
    have h1 : ((numAt x.1 16 8 : Nat) : Int) ≤ 1099511627776 := (Sb.ok_iff.1 hc).2.2.2.2.2
    omega
theorem take_one {l : List UInt8} {k : Nat} {y : UInt8} (h : l[k]? = some y) : l.take k ++ [y] = l.take (k + 1) := by
  rw [List.take_add_one, h]
  rfl

set_option maxRecDepth 100000 in
set_option maxHeartbeats 8000000 in
theorem rget8_any (w : World) (x : Sec) :
    Calls Try.prog 9 #[.agg x.cs.toArray] w fun e w' => e = .returned (.tuple #[.agg (sbc (getV x)).toArray, .int .i64 (getC x)]) ∧ Below w.heap.size w w' := by
  obtain ⟨i0, hi, hz0, hz1, hz2⟩ := info_parts Try.info5
  have hz := zeroRv
  have hz' := Try.buildR0
  go_enter Try.func9, Try.ntmps9
  go_wp2_with ((with_reducible refine at_box 24 ?_); refine wpList_box_rowV rfl 24 _ rfl x.cs rfl ?_)
  intro w1 hr1 hb1 hs1
  have hz1' : w.heap.size < w1.heap.size := by omega
  clear hs1
  generalize hN : w.heap.size = N at *
  go_wp2_with ((with_reducible refine at_alloc 31 ?_); refine alloc_sr rfl rfl ?_)
  intro w2 hq2 hb2 hs2
  have hr2 := hr1.below (by omega) hb2
  have hB2 : Below N w w2 := hb1.trans (hb2.mono (by omega))
  clear hr1 hb1 hb2
  generalize hN1 : w1.heap.size = N1 at *
  clear hN1
  have hz2' : N1 < w2.heap.size := by omega
  clear hs2
  generalize hbs : w2.heap.size = b at *
  go_wp2_with fail
  go_loopw [4, 5] (fun v i wr => ∃ (k : Nat) (A : Option Addr) (c : Nat), k ≤ 8 ∧ i = .int .i64 (16 + k : Nat) ∧ v = .slice A k c ∧ Hid (wr.ownsRow b 5 1 (.slice A k c) k (cells ((x.1.drop 16).take k))) ∧ Hid (Below b w2 wr)) (fun _ i _ => 24 - (intOf i).toNat)
  case atStart => exact ⟨0, none, 0, Nat.zero_le _, rfl, rfl, Lib.hid (World.ownsRow_nil _ _ _ _), Lib.hid (Below.refl _ _)⟩
  case round =>
    obtain ⟨k, A, c, hk, rfl, rfl, Ho, Hb⟩ := hrel
    have hrr := hr2.below (by omega) Hb.out
    by_cases hlt : k < 8
    · obtain ⟨y, hy⟩ : ∃ y, x.1[16 + k]? = some y := ⟨_, List.getElem?_eq_getElem (by rw [x.2]; omega)⟩
      have hcy := hrr.cell (cells_get hy)
      have hyl := y.toNat_lt
      have Hy := Lib.hid hy
      clear hy
      have ho' := Ho.out.alloc (.cells #[Value.int .u8 (y.toNat : Int)] 5)
      have hl' := Lies.lit wr #[Value.int .u8 (y.toNat : Int)] [y] rfl (wr.heap.size + 1) (by omega)
      have hsb : b ≤ wr.heap.size := by have := Hb.out.size; omega
      have hb'' := Hb.out.alloc hsb (.cells #[Value.int .u8 (y.toNat : Int)] 5)
      have hs'' : b ≤ (wr.alloc (.cells #[Value.int .u8 (y.toNat : Int)] 5)).heap.size := by have := hb''.size; omega
      go_wp2_with (at_builtin; refine wpList_append_lies rfl _ _ 46 rfl b i0 Try.underlying46 hi hz0 hz1 hz2 _ k ((x.1.drop 16).take k) [y] rfl ho' (wr.heap.size + 1) _ _ _ rfl hl' rfl (by omega) hs'' ?_)
      intro v2 w3 hown2 hg2
      rw [take_one (by rw [List.getElem?_drop]; exact Hy.out)] at hown2
      obtain ⟨A2, c2, rfl, hn2, _, _, _⟩ := Lies.of_own hown2
      have hb2 := hb''.grown hg2 hs'' (own_ge ho')
      rw [← hn2] at hown2 ⊢
      clear hn2 ho' hl' hcy
      go_wp2_with fail
      go_roundw
      case rel => exact ⟨k + 1, A2, c2, by omega, by go_num, rfl, Lib.hid hown2, Lib.hid hb2⟩
      case measure => simp [intOf]; omega
    · obtain rfl : k = 8 := by omega
      obtain ⟨A', c', hv, hk1, hk2, hk3, hl3⟩ := Lies.of_own Ho.out
      simp only [Value.slice.injEq] at hv
      obtain ⟨rfl, hzz, rfl⟩ := hv
      clear hzz
      have Hk1 := Lib.hid hk1
      clear hk1
      have hqr := hq2.below (by omega) Hb.out
      have hBr : Below N w wr := hB2.trans (Hb.out.mono (by omega))
      have hzr : N1 < wr.heap.size := by have := Hb.out.size; omega
      clear Hb Ho hr2 hq2 hB2 hz2'
      go_wp2_with fail
      refine (rget_any ((x.1.drop 16).take 8) _ 8 _ wr _ Hk1.out hk2 hl3).mono ?_
      rintro e w5 ⟨rfl, md, hmd⟩
      have hb5 : Below wr.heap.size wr w5 := by rw [hmd]; exact ⟨rfl, rfl, rfl, Nat.le_refl _, fun _ _ => rfl⟩
      rw [List.take_take, Nat.min_self, show leN ((x.1.drop 16).take 8) = numAt x.1 16 8 from rfl]
      have hr5 := hrr.below (by omega) hb5
      have hq5 := hqr.below (by omega) hb5
      have hB5 : Below N w w5 := hBr.trans (hb5.mono (by omega))
      have hz5 : N1 < w5.heap.size := by have := hb5.size; omega
      clear hrr hqr hBr hzr hb5 hl3 hmd Hk1
      have Hbig := Lib.hid (candS_big (x := x))
      have Hbad := Lib.hid (candS_bad (x := x))
      have Hoth := Lib.hid (candS_other (x := x))
      have Hyes := Lib.hid (candS_yes (x := x))
      have Hcand : Hid (candS x = ⟨(numAt x.1 8 2 : Nat), (numAt x.1 10 2 : Nat), (numAt x.1 12 2 : Nat), (numAt x.1 14 2 : Nat), (numAt x.1 16 8 : Nat)⟩) := rfl
      obtain ⟨n0, H0⟩ : ∃ n : Int, Hid (((numAt x.1 8 2 : Nat) : Int) = n) := ⟨_, Lib.hid rfl⟩
      obtain ⟨n1, H1⟩ : ∃ n : Int, Hid (((numAt x.1 10 2 : Nat) : Int) = n) := ⟨_, Lib.hid rfl⟩
      obtain ⟨n2, H2⟩ : ∃ n : Int, Hid (((numAt x.1 12 2 : Nat) : Int) = n) := ⟨_, Lib.hid rfl⟩
      obtain ⟨n3, H3⟩ : ∃ n : Int, Hid (((numAt x.1 14 2 : Nat) : Int) = n) := ⟨_, Lib.hid rfl⟩
      rw [H0.out, H1.out, H2.out, H3.out] at Hcand
      generalize numAt x.1 16 8 = M at *
      by_cases hM : 1099511627776 < M
      · have Hg := Lib.hid (get_none (Hbig.out hM))
        have hMi : (1099511627776 : Int) < (M : Int) := by omega
        go_wp2_with ((with_reducible refine at_store 31 ?_); refine store_sr rfl _ _ rfl N1 sb0 rfl rfl hq5 rfl ?_)
        intro w6 hq6 hg6 hs6
        go_wp2_with fail
        exact bodyPost_ret (results_cell_tmp (fn := Try.f9) rfl _ _ N1 31 _ (0, 0) _ rfl (.int .i64 5) rfl hq6 Try.underlying31 rfl (sr_size _)) rfl ⟨by rw [Hg.out.1, Hg.out.2], by rw [hN]; exact below_grown hB5 hg6 (by omega) (by omega)⟩
      · have hMi : ¬ (1099511627776 : Int) < (M : Int) := by omega
        rw [Hcand.out] at Hbad Hoth Hyes
        clear Hbig
        go_wp2_with fail
        go_cut [7] from 25 (fun s7 W => ∃ G : Nat, s7 = .pointer (some ⟨G, 0, none⟩) ∧ w5.heap.size ≤ G ∧ G < W.heap.size ∧ Hid (RowV W G 31 (sbc ⟨n0, n1, n2, n3, M⟩)) ∧ Hid (Below w5.heap.size w5 W))
        case first =>
          have r1 : RowV w5.drew N 24 x.cs := hr5
          have hb0 : Below w5.heap.size w5 w5.drew := (Below.refl _ _).drew
          have hszd : w5.heap.size ≤ w5.drew.heap.size := Nat.le_refl _
          have hl1 : N < w5.drew.heap.size := by show _ < w5.heap.size; omega
          refine wp_region_held_drew (S := fun W => Below w5.drew.heap.size w5.drew W) (by kernel_rfl) (Below.refl _ _) (fun hHeld => ?_)
          clear hr5 hq5 hB5
          generalize w5.drew = wd at *
          have S0 : Below wd.heap.size wd wd := Below.refl _ _
          refine wpAnyH_take (i := 0) (oi := ⟨_, _, _, _, _, _⟩) (v := ?_) rfl (by kernel_rfl) (by kernel_rfl) (by kernel_rfl) (fun _ _ _ h => h) (Or.inl ⟨by rfl, ?_⟩) (by assumption) ?_
          rotate_left
          · intro W hSW; refine sec_load (.tmp 1) ?_ N ?_ (r1.below hl1 hSW) <;> rfl
          try simp only [Act.put, List.setIfInBounds_toArray, List.set_cons_zero, List.set_cons_succ]
          refine wpAnyH_take (i := 2) (oi := ⟨_, _, _, _, _, _⟩) (v := ?_) rfl (by kernel_rfl) (by kernel_rfl) (by kernel_rfl) (fun _ _ _ h => h) (Or.inl ⟨by rfl, ?_⟩) (by assumption) ?_
          rotate_left
          · intro W hSW; refine sec_load (.tmp 1) ?_ N ?_ (r1.below hl1 hSW) <;> rfl
          try simp only [Act.put, List.setIfInBounds_toArray, List.set_cons_zero, List.set_cons_succ]
          refine wpAnyH_take (i := 4) (oi := ⟨_, _, _, _, _, _⟩) (v := ?_) rfl (by kernel_rfl) (by kernel_rfl) (by kernel_rfl) (fun _ _ _ h => h) (Or.inl ⟨by rfl, ?_⟩) (by assumption) ?_
          rotate_left
          · intro W hSW; refine sec_load (.tmp 1) ?_ N ?_ (r1.below hl1 hSW) <;> rfl
          try simp only [Act.put, List.setIfInBounds_toArray, List.set_cons_zero, List.set_cons_succ]
          refine wpAnyH_take (i := 6) (oi := ⟨_, _, _, _, _, _⟩) (v := ?_) rfl (by kernel_rfl) (by kernel_rfl) (by kernel_rfl) (fun _ _ _ h => h) (Or.inl ⟨by rfl, ?_⟩) (by assumption) ?_
          rotate_left
          · intro W hSW; refine sec_load (.tmp 1) ?_ N ?_ (r1.below hl1 hSW) <;> rfl
          try simp only [Act.put, List.setIfInBounds_toArray, List.set_cons_zero, List.set_cons_succ]
          refine wpAnyH_take (i := 9) (oi := ⟨_, _, _, _, _, _⟩) (v := ?_) rfl (by kernel_rfl) (by kernel_rfl) (by kernel_rfl) (fun _ _ _ h => h) (Or.inl ⟨by rfl, ?_⟩) (by assumption) ?_
          rotate_left
          · intro W hSW; go_simp; try with_reducible rfl
          try simp only [Act.put, List.setIfInBounds_toArray, List.set_cons_zero, List.set_cons_succ]
          refine wpAnyH_take (i := 10) (oi := ⟨_, _, _, _, _, _⟩) (v := .int .i64 (M : Int)) rfl (by kernel_rfl) (by kernel_rfl) (by kernel_rfl) (fun _ _ _ h => h) (Or.inl ⟨by rfl, ?_⟩) (by assumption) ?_
          · intro W hSW; go_simp; first | done | exact IntWalk.i64_in _ (by omega) | (rw [IntWalk.i64_in _ (by omega)]; omega)
          try simp only [Act.put, List.setIfInBounds_toArray, List.set_cons_zero, List.set_cons_succ]
          refine wpAnyH_ready (rs := [1, 12]) (by kernel_rfl) (by simp) ?_
          refine AllReadyH.cons (o := ⟨_, _, _, _, _, _⟩) rfl (fun K hK => ?_) (AllReadyH.cons (o := ⟨_, _, _, _, _, _⟩) rfl (fun K hK => ?_) AllReadyH.nil)
          · go_simp
            refine (rnum8 _ x).mono ?_
            rintro e v1 ⟨rfl, hb1⟩
            rw [H0.out]
            try simp only []
            have S1 : Below wd.heap.size wd v1 := S0.trans (hb1.mono S0.size)
            refine hK.out _ _ S1 (fun hHeld => ?_)
            clear hK K
            try simp only [Act.put, List.setIfInBounds_toArray, List.set_cons_zero, List.set_cons_succ]
            refine wpAnyH_ready (rs := [3, 12]) (by kernel_rfl) (by simp) ?_
            refine AllReadyH.cons (o := ⟨_, _, _, _, _, _⟩) rfl (fun K hK => ?_) (AllReadyH.cons (o := ⟨_, _, _, _, _, _⟩) rfl (fun K hK => ?_) AllReadyH.nil)
            · go_simp
              refine (rnum10 _ x).mono ?_
              rintro e v2 ⟨rfl, hb2⟩
              rw [H1.out]
              try simp only []
              have S2 : Below wd.heap.size wd v2 := S1.trans (hb2.mono S1.size)
              refine hK.out _ _ S2 (fun hHeld => ?_)
              clear hK K
              try simp only [Act.put, List.setIfInBounds_toArray, List.set_cons_zero, List.set_cons_succ]
              refine wpAnyH_ready (rs := [5, 12]) (by kernel_rfl) (by simp) ?_
              refine AllReadyH.cons (o := ⟨_, _, _, _, _, _⟩) rfl (fun K hK => ?_) (AllReadyH.cons (o := ⟨_, _, _, _, _, _⟩) rfl (fun K hK => ?_) AllReadyH.nil)
              · go_simp
                refine (rnum12 _ x).mono ?_
                rintro e v3 ⟨rfl, hb3⟩
                rw [H2.out]
                try simp only []
                have S3 : Below wd.heap.size wd v3 := S2.trans (hb3.mono S2.size)
                refine hK.out _ _ S3 (fun hHeld => ?_)
                clear hK K
                try simp only [Act.put, List.setIfInBounds_toArray, List.set_cons_zero, List.set_cons_succ]
                refine wpAnyH_ready (rs := [7, 12]) (by kernel_rfl) (by simp) ?_
                refine AllReadyH.cons (o := ⟨_, _, _, _, _, _⟩) rfl (fun K hK => ?_) (AllReadyH.cons (o := ⟨_, _, _, _, _, _⟩) rfl (fun K hK => ?_) AllReadyH.nil)
                · go_simp
                  refine (rnum14 _ x).mono ?_
                  rintro e v4 ⟨rfl, hb4⟩
                  rw [H3.out]
                  try simp only []
                  have S4 : Below wd.heap.size wd v4 := S3.trans (hb4.mono S3.size)
                  refine hK.out _ _ S4 (fun hHeld => ?_)
                  clear hK K
                  try simp only [Act.put, List.setIfInBounds_toArray, List.set_cons_zero, List.set_cons_succ]
                  refine wpAnyH_take (i := 8) (oi := ⟨_, _, _, _, _, _⟩) (v := ?_) rfl (by kernel_rfl) (by kernel_rfl) (by kernel_rfl) (fun _ _ _ h => h) (Or.inl ⟨by rfl, ?_⟩) (by assumption) ?_
                  rotate_left
                  · intro W hSW; refine exec_built 23 #[(0, .tmp 26), (1, .tmp 28), (2, .tmp 30), (3, .tmp 32)] ?_ (pc n0 n1 n2 n3) ?_
                    · rfl
                    · exact Try.builtP8 _ _ _ _
                  try simp only [Act.put, List.setIfInBounds_toArray, List.set_cons_zero, List.set_cons_succ]
                  refine wpAnyH_take (i := 11) (oi := ⟨_, _, _, _, _, _⟩) (v := ?_) rfl (by kernel_rfl) (by kernel_rfl) (by kernel_rfl) (fun _ _ _ h => h) (Or.inl ⟨by rfl, ?_⟩) (by assumption) ?_
                  rotate_left
                  · intro W hSW; refine exec_built 31 #[(0, .tmp 33), (1, .tmp 35)] ?_ (sbc ⟨n0, n1, n2, n3, M⟩) ?_
                    · rfl
                    · exact Try.builtR8 _ _ _ _ _
                  try simp only [Act.put, List.setIfInBounds_toArray, List.set_cons_zero, List.set_cons_succ]
                  refine wpAnyH_ready (rs := [12]) (by kernel_rfl) (by simp) ?_
                  refine AllReadyH.cons (o := ⟨_, _, _, _, _, _⟩) rfl (fun K hK => ?_) AllReadyH.nil
                  refine ite_yes rfl ?_
                  refine wp_alloc_sr rfl ?_
                  intro v5 hr5 hb5 hs5
                  have S5 : Below wd.heap.size wd v5 := S4.trans (hb5.mono S4.size)
                  refine hK.out _ _ S5 (fun hHeld => ?_)
                  clear hK K
                  try simp only [Act.put, List.setIfInBounds_toArray, List.set_cons_zero, List.set_cons_succ]
                  refine wpAnyH_ready (rs := [13]) (by kernel_rfl) (by simp) ?_
                  refine AllReadyH.cons (o := ⟨_, _, _, _, _, _⟩) rfl (fun K hK => ?_) AllReadyH.nil
                  refine ite_yes rfl ?_
                  refine wp_store_sr (.tmp 7) (.tmp 36) rfl v4.heap.size ⟨n0, n1, n2, n3, M⟩ rfl rfl hr5 rfl ?_
                  intro v6 hr6 hg6 hs6
                  have S6 : Below wd.heap.size wd v6 := below_grown S5 hg6 S4.size S5.size
                  refine hK.out _ _ S6 (fun hHeld => ?_)
                  clear hK K
                  try simp only [Act.put, List.setIfInBounds_toArray, List.set_cons_zero, List.set_cons_succ]
                  refine wpAnyH_done (by kernel_rfl) ?_ _
                  go_wp2_with fail
                  go_meet
                  case rel => exact ⟨v4.heap.size, rfl, Nat.le_trans hszd S4.size, hr6.lt, Lib.hid hr6, Lib.hid (hb0.trans (S6.mono hszd))⟩
                · refine ite_yes rfl ?_
                  refine wp_alloc_sr rfl ?_
                  intro v7 hr7 hb7 hs7
                  have S7 : Below wd.heap.size wd v7 := S3.trans (hb7.mono S3.size)
                  refine hK.out _ _ S7 (fun hHeld => ?_)
                  clear hK K
                  try simp only [Act.put, List.setIfInBounds_toArray, List.set_cons_zero, List.set_cons_succ]
                  refine wpAnyH_ready (rs := [7]) (by kernel_rfl) (by simp) ?_
                  refine AllReadyH.cons (o := ⟨_, _, _, _, _, _⟩) rfl (fun K hK => ?_) AllReadyH.nil
                  go_simp
                  refine (rnum14 _ x).mono ?_
                  rintro e v8 ⟨rfl, hb8⟩
                  rw [H3.out]
                  try simp only []
                  have S8 : Below wd.heap.size wd v8 := S7.trans (hb8.mono S7.size)
                  refine hK.out _ _ S8 (fun hHeld => ?_)
                  clear hK K
                  try simp only [Act.put, List.setIfInBounds_toArray, List.set_cons_zero, List.set_cons_succ]
                  have hr8 := hr7.below hr7.lt hb8
                  refine wpAnyH_take (i := 8) (oi := ⟨_, _, _, _, _, _⟩) (v := ?_) rfl (by kernel_rfl) (by kernel_rfl) (by kernel_rfl) (fun _ _ _ h => h) (Or.inl ⟨by rfl, ?_⟩) (by assumption) ?_
                  rotate_left
                  · intro W hSW; refine exec_built 23 #[(0, .tmp 26), (1, .tmp 28), (2, .tmp 30), (3, .tmp 32)] ?_ (pc n0 n1 n2 n3) ?_
                    · rfl
                    · exact Try.builtP8 _ _ _ _
                  try simp only [Act.put, List.setIfInBounds_toArray, List.set_cons_zero, List.set_cons_succ]
                  refine wpAnyH_take (i := 11) (oi := ⟨_, _, _, _, _, _⟩) (v := ?_) rfl (by kernel_rfl) (by kernel_rfl) (by kernel_rfl) (fun _ _ _ h => h) (Or.inl ⟨by rfl, ?_⟩) (by assumption) ?_
                  rotate_left
                  · intro W hSW; refine exec_built 31 #[(0, .tmp 33), (1, .tmp 35)] ?_ (sbc ⟨n0, n1, n2, n3, M⟩) ?_
                    · rfl
                    · exact Try.builtR8 _ _ _ _ _
                  try simp only [Act.put, List.setIfInBounds_toArray, List.set_cons_zero, List.set_cons_succ]
                  refine wpAnyH_ready (rs := [13]) (by kernel_rfl) (by simp) ?_
                  refine AllReadyH.cons (o := ⟨_, _, _, _, _, _⟩) rfl (fun K hK => ?_) AllReadyH.nil
                  refine ite_yes rfl ?_
                  refine wp_store_sr (.tmp 7) (.tmp 36) rfl v3.heap.size ⟨n0, n1, n2, n3, M⟩ rfl rfl hr8 rfl ?_
                  intro v9 hr9 hg9 hs9
                  have S9 : Below wd.heap.size wd v9 := below_grown S8 hg9 S3.size S8.size
                  refine hK.out _ _ S9 (fun hHeld => ?_)
                  clear hK K
                  try simp only [Act.put, List.setIfInBounds_toArray, List.set_cons_zero, List.set_cons_succ]
                  refine wpAnyH_done (by kernel_rfl) ?_ _
                  go_wp2_with fail
                  go_meet
                  case rel => exact ⟨v3.heap.size, rfl, Nat.le_trans hszd S3.size, hr9.lt, Lib.hid hr9, Lib.hid (hb0.trans (S9.mono hszd))⟩
              · refine ite_yes rfl ?_
                refine wp_alloc_sr rfl ?_
                intro v10 hr10 hb10 hs10
                have S10 : Below wd.heap.size wd v10 := S2.trans (hb10.mono S2.size)
                refine hK.out _ _ S10 (fun hHeld => ?_)
                clear hK K
                try simp only [Act.put, List.setIfInBounds_toArray, List.set_cons_zero, List.set_cons_succ]
                refine wpAnyH_ready (rs := [5]) (by kernel_rfl) (by simp) ?_
                refine AllReadyH.cons (o := ⟨_, _, _, _, _, _⟩) rfl (fun K hK => ?_) AllReadyH.nil
                go_simp
                refine (rnum12 _ x).mono ?_
                rintro e v11 ⟨rfl, hb11⟩
                rw [H2.out]
                try simp only []
                have S11 : Below wd.heap.size wd v11 := S10.trans (hb11.mono S10.size)
                refine hK.out _ _ S11 (fun hHeld => ?_)
                clear hK K
                try simp only [Act.put, List.setIfInBounds_toArray, List.set_cons_zero, List.set_cons_succ]
                have hr11 := hr10.below hr10.lt hb11
                refine wpAnyH_ready (rs := [7]) (by kernel_rfl) (by simp) ?_
                refine AllReadyH.cons (o := ⟨_, _, _, _, _, _⟩) rfl (fun K hK => ?_) AllReadyH.nil
                go_simp
                refine (rnum14 _ x).mono ?_
                rintro e v12 ⟨rfl, hb12⟩
                rw [H3.out]
                try simp only []
                have S12 : Below wd.heap.size wd v12 := S11.trans (hb12.mono S11.size)
                refine hK.out _ _ S12 (fun hHeld => ?_)
                clear hK K
                try simp only [Act.put, List.setIfInBounds_toArray, List.set_cons_zero, List.set_cons_succ]
                have hr12 := hr11.below hr11.lt hb12
                refine wpAnyH_take (i := 8) (oi := ⟨_, _, _, _, _, _⟩) (v := ?_) rfl (by kernel_rfl) (by kernel_rfl) (by kernel_rfl) (fun _ _ _ h => h) (Or.inl ⟨by rfl, ?_⟩) (by assumption) ?_
                rotate_left
                · intro W hSW; refine exec_built 23 #[(0, .tmp 26), (1, .tmp 28), (2, .tmp 30), (3, .tmp 32)] ?_ (pc n0 n1 n2 n3) ?_
                  · rfl
                  · exact Try.builtP8 _ _ _ _
                try simp only [Act.put, List.setIfInBounds_toArray, List.set_cons_zero, List.set_cons_succ]
                refine wpAnyH_take (i := 11) (oi := ⟨_, _, _, _, _, _⟩) (v := ?_) rfl (by kernel_rfl) (by kernel_rfl) (by kernel_rfl) (fun _ _ _ h => h) (Or.inl ⟨by rfl, ?_⟩) (by assumption) ?_
                rotate_left
                · intro W hSW; refine exec_built 31 #[(0, .tmp 33), (1, .tmp 35)] ?_ (sbc ⟨n0, n1, n2, n3, M⟩) ?_
                  · rfl
                  · exact Try.builtR8 _ _ _ _ _
                try simp only [Act.put, List.setIfInBounds_toArray, List.set_cons_zero, List.set_cons_succ]
                refine wpAnyH_ready (rs := [13]) (by kernel_rfl) (by simp) ?_
                refine AllReadyH.cons (o := ⟨_, _, _, _, _, _⟩) rfl (fun K hK => ?_) AllReadyH.nil
                refine ite_yes rfl ?_
                refine wp_store_sr (.tmp 7) (.tmp 36) rfl v2.heap.size ⟨n0, n1, n2, n3, M⟩ rfl rfl hr12 rfl ?_
                intro v13 hr13 hg13 hs13
                have S13 : Below wd.heap.size wd v13 := below_grown S12 hg13 S2.size S12.size
                refine hK.out _ _ S13 (fun hHeld => ?_)
                clear hK K
                try simp only [Act.put, List.setIfInBounds_toArray, List.set_cons_zero, List.set_cons_succ]
                refine wpAnyH_done (by kernel_rfl) ?_ _
                go_wp2_with fail
                go_meet
                case rel => exact ⟨v2.heap.size, rfl, Nat.le_trans hszd S2.size, hr13.lt, Lib.hid hr13, Lib.hid (hb0.trans (S13.mono hszd))⟩
            · refine ite_yes rfl ?_
              refine wp_alloc_sr rfl ?_
              intro v14 hr14 hb14 hs14
              have S14 : Below wd.heap.size wd v14 := S1.trans (hb14.mono S1.size)
              refine hK.out _ _ S14 (fun hHeld => ?_)
              clear hK K
              try simp only [Act.put, List.setIfInBounds_toArray, List.set_cons_zero, List.set_cons_succ]
              refine wpAnyH_ready (rs := [3]) (by kernel_rfl) (by simp) ?_
              refine AllReadyH.cons (o := ⟨_, _, _, _, _, _⟩) rfl (fun K hK => ?_) AllReadyH.nil
              go_simp
              refine (rnum10 _ x).mono ?_
              rintro e v15 ⟨rfl, hb15⟩
              rw [H1.out]
              try simp only []
              have S15 : Below wd.heap.size wd v15 := S14.trans (hb15.mono S14.size)
              refine hK.out _ _ S15 (fun hHeld => ?_)
              clear hK K
              try simp only [Act.put, List.setIfInBounds_toArray, List.set_cons_zero, List.set_cons_succ]
              have hr15 := hr14.below hr14.lt hb15
              refine wpAnyH_ready (rs := [5]) (by kernel_rfl) (by simp) ?_
              refine AllReadyH.cons (o := ⟨_, _, _, _, _, _⟩) rfl (fun K hK => ?_) AllReadyH.nil
              go_simp
              refine (rnum12 _ x).mono ?_
              rintro e v16 ⟨rfl, hb16⟩
              rw [H2.out]
              try simp only []
              have S16 : Below wd.heap.size wd v16 := S15.trans (hb16.mono S15.size)
              refine hK.out _ _ S16 (fun hHeld => ?_)
              clear hK K
              try simp only [Act.put, List.setIfInBounds_toArray, List.set_cons_zero, List.set_cons_succ]
              have hr16 := hr15.below hr15.lt hb16
              refine wpAnyH_ready (rs := [7]) (by kernel_rfl) (by simp) ?_
              refine AllReadyH.cons (o := ⟨_, _, _, _, _, _⟩) rfl (fun K hK => ?_) AllReadyH.nil
              go_simp
              refine (rnum14 _ x).mono ?_
              rintro e v17 ⟨rfl, hb17⟩
              rw [H3.out]
              try simp only []
              have S17 : Below wd.heap.size wd v17 := S16.trans (hb17.mono S16.size)
              refine hK.out _ _ S17 (fun hHeld => ?_)
              clear hK K
              try simp only [Act.put, List.setIfInBounds_toArray, List.set_cons_zero, List.set_cons_succ]
              have hr17 := hr16.below hr16.lt hb17
              refine wpAnyH_take (i := 8) (oi := ⟨_, _, _, _, _, _⟩) (v := ?_) rfl (by kernel_rfl) (by kernel_rfl) (by kernel_rfl) (fun _ _ _ h => h) (Or.inl ⟨by rfl, ?_⟩) (by assumption) ?_
              rotate_left
              · intro W hSW; refine exec_built 23 #[(0, .tmp 26), (1, .tmp 28), (2, .tmp 30), (3, .tmp 32)] ?_ (pc n0 n1 n2 n3) ?_
                · rfl
                · exact Try.builtP8 _ _ _ _
              try simp only [Act.put, List.setIfInBounds_toArray, List.set_cons_zero, List.set_cons_succ]
              refine wpAnyH_take (i := 11) (oi := ⟨_, _, _, _, _, _⟩) (v := ?_) rfl (by kernel_rfl) (by kernel_rfl) (by kernel_rfl) (fun _ _ _ h => h) (Or.inl ⟨by rfl, ?_⟩) (by assumption) ?_
              rotate_left
              · intro W hSW; refine exec_built 31 #[(0, .tmp 33), (1, .tmp 35)] ?_ (sbc ⟨n0, n1, n2, n3, M⟩) ?_
                · rfl
                · exact Try.builtR8 _ _ _ _ _
              try simp only [Act.put, List.setIfInBounds_toArray, List.set_cons_zero, List.set_cons_succ]
              refine wpAnyH_ready (rs := [13]) (by kernel_rfl) (by simp) ?_
              refine AllReadyH.cons (o := ⟨_, _, _, _, _, _⟩) rfl (fun K hK => ?_) AllReadyH.nil
              refine ite_yes rfl ?_
              refine wp_store_sr (.tmp 7) (.tmp 36) rfl v1.heap.size ⟨n0, n1, n2, n3, M⟩ rfl rfl hr17 rfl ?_
              intro v18 hr18 hg18 hs18
              have S18 : Below wd.heap.size wd v18 := below_grown S17 hg18 S1.size S17.size
              refine hK.out _ _ S18 (fun hHeld => ?_)
              clear hK K
              try simp only [Act.put, List.setIfInBounds_toArray, List.set_cons_zero, List.set_cons_succ]
              refine wpAnyH_done (by kernel_rfl) ?_ _
              go_wp2_with fail
              go_meet
              case rel => exact ⟨v1.heap.size, rfl, Nat.le_trans hszd S1.size, hr18.lt, Lib.hid hr18, Lib.hid (hb0.trans (S18.mono hszd))⟩
          · refine ite_yes rfl ?_
            refine wp_alloc_sr rfl ?_
            intro v19 hr19 hb19 hs19
            have S19 : Below wd.heap.size wd v19 := S0.trans (hb19.mono S0.size)
            refine hK.out _ _ S19 (fun hHeld => ?_)
            clear hK K
            try simp only [Act.put, List.setIfInBounds_toArray, List.set_cons_zero, List.set_cons_succ]
            refine wpAnyH_ready (rs := [1]) (by kernel_rfl) (by simp) ?_
            refine AllReadyH.cons (o := ⟨_, _, _, _, _, _⟩) rfl (fun K hK => ?_) AllReadyH.nil
            go_simp
            refine (rnum8 _ x).mono ?_
            rintro e v20 ⟨rfl, hb20⟩
            rw [H0.out]
            try simp only []
            have S20 : Below wd.heap.size wd v20 := S19.trans (hb20.mono S19.size)
            refine hK.out _ _ S20 (fun hHeld => ?_)
            clear hK K
            try simp only [Act.put, List.setIfInBounds_toArray, List.set_cons_zero, List.set_cons_succ]
            have hr20 := hr19.below hr19.lt hb20
            refine wpAnyH_ready (rs := [3]) (by kernel_rfl) (by simp) ?_
            refine AllReadyH.cons (o := ⟨_, _, _, _, _, _⟩) rfl (fun K hK => ?_) AllReadyH.nil
            go_simp
            refine (rnum10 _ x).mono ?_
            rintro e v21 ⟨rfl, hb21⟩
            rw [H1.out]
            try simp only []
            have S21 : Below wd.heap.size wd v21 := S20.trans (hb21.mono S20.size)
            refine hK.out _ _ S21 (fun hHeld => ?_)
            clear hK K
            try simp only [Act.put, List.setIfInBounds_toArray, List.set_cons_zero, List.set_cons_succ]
            have hr21 := hr20.below hr20.lt hb21
            refine wpAnyH_ready (rs := [5]) (by kernel_rfl) (by simp) ?_
            refine AllReadyH.cons (o := ⟨_, _, _, _, _, _⟩) rfl (fun K hK => ?_) AllReadyH.nil
            go_simp
            refine (rnum12 _ x).mono ?_
            rintro e v22 ⟨rfl, hb22⟩
            rw [H2.out]
            try simp only []
            have S22 : Below wd.heap.size wd v22 := S21.trans (hb22.mono S21.size)
            refine hK.out _ _ S22 (fun hHeld => ?_)
            clear hK K
            try simp only [Act.put, List.setIfInBounds_toArray, List.set_cons_zero, List.set_cons_succ]
            have hr22 := hr21.below hr21.lt hb22
            refine wpAnyH_ready (rs := [7]) (by kernel_rfl) (by simp) ?_
            refine AllReadyH.cons (o := ⟨_, _, _, _, _, _⟩) rfl (fun K hK => ?_) AllReadyH.nil
            go_simp
            refine (rnum14 _ x).mono ?_
            rintro e v23 ⟨rfl, hb23⟩
            rw [H3.out]
            try simp only []
            have S23 : Below wd.heap.size wd v23 := S22.trans (hb23.mono S22.size)
            refine hK.out _ _ S23 (fun hHeld => ?_)
            clear hK K
            try simp only [Act.put, List.setIfInBounds_toArray, List.set_cons_zero, List.set_cons_succ]
            have hr23 := hr22.below hr22.lt hb23
            refine wpAnyH_take (i := 8) (oi := ⟨_, _, _, _, _, _⟩) (v := ?_) rfl (by kernel_rfl) (by kernel_rfl) (by kernel_rfl) (fun _ _ _ h => h) (Or.inl ⟨by rfl, ?_⟩) (by assumption) ?_
            rotate_left
            · intro W hSW; refine exec_built 23 #[(0, .tmp 26), (1, .tmp 28), (2, .tmp 30), (3, .tmp 32)] ?_ (pc n0 n1 n2 n3) ?_
              · rfl
              · exact Try.builtP8 _ _ _ _
            try simp only [Act.put, List.setIfInBounds_toArray, List.set_cons_zero, List.set_cons_succ]
            refine wpAnyH_take (i := 11) (oi := ⟨_, _, _, _, _, _⟩) (v := ?_) rfl (by kernel_rfl) (by kernel_rfl) (by kernel_rfl) (fun _ _ _ h => h) (Or.inl ⟨by rfl, ?_⟩) (by assumption) ?_
            rotate_left
            · intro W hSW; refine exec_built 31 #[(0, .tmp 33), (1, .tmp 35)] ?_ (sbc ⟨n0, n1, n2, n3, M⟩) ?_
              · rfl
              · exact Try.builtR8 _ _ _ _ _
            try simp only [Act.put, List.setIfInBounds_toArray, List.set_cons_zero, List.set_cons_succ]
            refine wpAnyH_ready (rs := [13]) (by kernel_rfl) (by simp) ?_
            refine AllReadyH.cons (o := ⟨_, _, _, _, _, _⟩) rfl (fun K hK => ?_) AllReadyH.nil
            refine ite_yes rfl ?_
            refine wp_store_sr (.tmp 7) (.tmp 36) rfl wd.heap.size ⟨n0, n1, n2, n3, M⟩ rfl rfl hr23 rfl ?_
            intro v24 hr24 hg24 hs24
            have S24 : Below wd.heap.size wd v24 := below_grown S23 hg24 S0.size S23.size
            refine hK.out _ _ S24 (fun hHeld => ?_)
            clear hK K
            try simp only [Act.put, List.setIfInBounds_toArray, List.set_cons_zero, List.set_cons_succ]
            refine wpAnyH_done (by kernel_rfl) ?_ _
            go_wp2_with fail
            go_meet
            case rel => exact ⟨wd.heap.size, rfl, Nat.le_trans hszd S0.size, hr24.lt, Lib.hid hr24, Lib.hid (hb0.trans (S24.mono hszd))⟩
        case rest =>
          obtain ⟨G, rfl, hG1, hG2, HR, HB⟩ := hcut
          have hx6 := hr5.below (by omega) HB.out
          have hr6 := hq5.below (by omega) HB.out
          have hq6 := HR.out
          have hB6 : Below N w wc := hB5.trans (HB.out.mono (by omega))
          have hz6 : G < wc.heap.size := hG2
          have hlt : N < N1 := hz1'
          have hlt2 : N1 < G := by omega
          clear hr5 hq5 hB5 HR HB hG2 hG1
          generalize hbq : Sb.mk n0 n1 n2 n3 M = b at *
          clear hbq
          go_wp2_with ((with_reducible refine at_load 31 ?_); refine load_sr rfl _ rfl G rfl hq6 ?_)
          refine (rsput_any wc b).mono ?_
          rintro e w7 ⟨rfl, hb7⟩
          have hx7 := hx6.below (by omega) hb7
          have hr7 := hr6.below (by omega) hb7
          have hq7 := hq6.below (by omega) hb7
          have hB7 : Below N w w7 := hB6.trans (hb7.mono (by omega))
          have hz7 : G < w7.heap.size := by have := hb7.size; omega
          clear hx6 hr6 hq6 hB6 hz6 hb7
          go_wp2_with ((with_reducible refine at_alloc 24 ?_); refine alloc_sec rfl rfl ?_)
          intro w8 hy8 hb8 hs8
          have hx8 := hx7.below (by omega) hb8
          have hr8 := hr7.below (by omega) hb8
          have hq8 := hq7.below (by omega) hb8
          have hB8 : Below N w w8 := hB7.trans (hb8.mono (by omega))
          clear hx7 hr7 hq7 hB7 hb8
          generalize hG2 : w7.heap.size = G2 at *
          clear hG2
          go_wp2_with ((with_reducible refine at_store 24 ?_); refine store_sec rfl _ _ rfl G2 (putS b).1 rfl rfl hy8 (Sec.cs_length _) ?_)
          intro w9 hy9 hg9 hs9
          have hx9 := hx8.keep hg9 (fun e => by injection e with e; omega)
          have hr9 := hr8.keep hg9 (fun e => by injection e with e; omega)
          have hq9 := hq8.keep hg9 (fun e => by injection e with e; omega)
          have hB9 : Below N w w9 := below_grown hB8 hg9 (by omega) (by omega)
          have hz9 : G2 < w9.heap.size := by omega
          clear hx8 hr8 hq8 hB8 hy8 hg9 hs9 hs8
          have hz := zeroRv
          cases hok : b.ok
          · have hp : putS b = (zeroSec, 2) := by rw [putS, hok]; rfl
            have Hg := Lib.hid (get_none (Hbad.out hok))
            rw [hp] at hy9 ⊢
            clear hp hok
            go_wp2_with ((with_reducible refine at_store 31 ?_); refine store_sr rfl _ _ rfl N1 sb0 rfl rfl hr9 rfl ?_)
            intro w10 hr10 hg10 hs10
            go_wp2_with fail
            exact bodyPost_ret (results_cell_tmp (fn := Try.f9) rfl _ _ N1 31 _ (0, 0) _ rfl (.int .i64 5) rfl hr10 Try.underlying31 rfl (sr_size _)) rfl ⟨by rw [Hg.out.1, Hg.out.2], by rw [hN]; exact below_grown hB9 hg10 (by omega) (by omega)⟩
          · have hp : putS b = (b.sec, 0) := by rw [putS, hok]; rfl
            have Hok := Lib.hid hok
            rw [hp] at hy9 ⊢
            simp only at hy9 ⊢
            clear hp hok
            by_cases hse : b.sec = x
            · have Hg := Lib.hid (get_some (Hyes.out Hok.out hse))
              have hd : decide (b.sec = x) = true := by simp [hse]
              have Hse := Lib.hid hse
              clear hse
              go_wp2_with (first
                | ((with_reducible refine at_loadG 24 ?_); refine load_secG rfl _ rfl G2 rfl hy9 ?_)
                | ((with_reducible refine at_loadG 24 ?_); refine load_secG rfl _ rfl N rfl hx9 ?_)
                | ((with_reducible refine at_neqG 24 ?_); refine neq_secG rfl _ _ _ rfl b.sec x rfl rfl ?_)
                | ((with_reducible refine at_load 31 ?_); refine load_sr rfl _ rfl G rfl hq9 ?_)
                | ((with_reducible refine at_store 31 ?_); refine store_sr rfl _ _ rfl N1 b rfl rfl hr9 rfl ?_))
              intro w10 hr10 hg10 hs10
              go_wp2_with fail
              exact bodyPost_ret (results_cell_tmp (fn := Try.f9) rfl _ _ N1 31 _ (0, 0) _ rfl (.int .i64 0) rfl hr10 Try.underlying31 rfl (sr_size _)) rfl ⟨by rw [Hg.out.1, Hg.out.2], by rw [hN]; exact below_grown hB9 hg10 (by omega) (by omega)⟩
            · have Hg := Lib.hid (get_none (Hoth.out hse))
              have hd : decide (b.sec = x) = false := by simp [hse]
              clear hse
              go_wp2_with (first
                | ((with_reducible refine at_loadG 24 ?_); refine load_secG rfl _ rfl G2 rfl hy9 ?_)
                | ((with_reducible refine at_loadG 24 ?_); refine load_secG rfl _ rfl N rfl hx9 ?_)
                | ((with_reducible refine at_neqG 24 ?_); refine neq_secG rfl _ _ _ rfl b.sec x rfl rfl ?_)
                | ((with_reducible refine at_store 31 ?_); refine store_sr rfl _ _ rfl N1 sb0 rfl rfl hr9 rfl ?_))
              intro w10 hr10 hg10 hs10
              go_wp2_with fail
              exact bodyPost_ret (results_cell_tmp (fn := Try.f9) rfl _ _ N1 31 _ (0, 0) _ rfl (.int .i64 5) rfl hr10 Try.underlying31 rfl (sr_size _)) rfl ⟨by rw [Hg.out.1, Hg.out.2], by rw [hN]; exact below_grown hB9 hg10 (by omega) (by omega)⟩
end Go.Proofs.Ytoiphbdmmiikaaa
namespace Go.Proofs.Ytoiphbdmmiikaaa
open Go.RowKit
set_option linter.unusedVariables false
set_option linter.unusedSimpArgs false

set_option maxRecDepth 100000 in
set_option maxHeartbeats 2000000 in
theorem rchoose_any (w : World) (x y : Sec) :
    Calls Try.prog 11 #[.agg x.cs.toArray, .agg y.cs.toArray] w fun e w' => e = .returned (.tuple #[.agg (sbc (choT x y).1).toArray, .int .i64 (choT x y).2.1, .int .i64 (choT x y).2.2]) ∧ Below w.heap.size w w' := by
  go_enter Try.func11, Try.ntmps11
  go_wp2_with ((with_reducible refine at_box 24 ?_); refine wpList_box_rowV rfl 24 _ rfl x.cs rfl ?_)
  intro w1 hx1 hb1 hs1
  have hlt : w.heap.size < w1.heap.size := by omega
  clear hs1
  refine wpList_box_rowV rfl 24 _ rfl y.cs rfl ?_
  intro w2 hy2 hb2 hs2
  have hx2 := hx1.below (by omega) hb2
  have hB2 : Below w.heap.size w w2 := hb1.trans (hb2.mono (by omega))
  have hlt2 : w1.heap.size < w2.heap.size := by omega
  clear hx1 hb1 hb2 hs2
  generalize hN1 : w1.heap.size = N1 at *
  generalize hN : w.heap.size = N at *
  clear hN1
  go_wp2_with ((with_reducible refine at_alloc 31 ?_); refine alloc_sr rfl rfl ?_)
  intro w3 hr3 hb3 hs3
  have hx3 := hx2.below (by omega) hb3
  have hy3 := hy2.below (by omega) hb3
  have hB3 : Below N w w3 := hB2.trans (hb3.mono (by omega))
  clear hx2 hy2 hB2 hb3
  generalize hR : w2.heap.size = R at *
  clear hR
  go_wp2_with ((with_reducible refine at_load 24 ?_); refine load_sec rfl _ rfl N rfl hx3 ?_)
  refine (rget8_any w3 x).mono ?_
  rintro e w4 ⟨rfl, hb4⟩
  have hy4 := hy3.below (by omega) hb4
  have hr4 := hr3.below (by omega) hb4
  have hB4 : Below N w w4 := hB3.trans (hb4.mono (by omega))
  have hz4 : R < w4.heap.size := by have := hb4.size; omega
  clear hx3 hy3 hr3 hB3 hb4 hs3
  go_wp2_with ((with_reducible refine at_alloc 31 ?_); refine alloc_sr rfl rfl ?_)
  intro w5 ha5 hb5 hs5
  have hy5 := hy4.below (by omega) hb5
  have hr5 := hr4.below (by omega) hb5
  have hB5 : Below N w w5 := hB4.trans (hb5.mono (by omega))
  clear hy4 hr4 hB4 hb5
  generalize hG1 : w4.heap.size = G1 at *
  clear hG1
  go_wp2_with ((with_reducible refine at_store 31 ?_); refine store_sr rfl _ _ rfl G1 (getV x) rfl rfl ha5 rfl ?_)
  intro w6 ha6 hg6 hs6
  have hy6 := hy5.keep hg6 (fun e => by injection e with e; omega)
  have hr6 := hr5.keep hg6 (fun e => by injection e with e; omega)
  have hB6 : Below N w w6 := below_grown hB5 hg6 (by omega) (by omega)
  have hz6 : G1 < w6.heap.size := by omega
  clear hy5 hr5 hB5 ha5 hg6 hs6 hs5
  go_wp2_with ((with_reducible refine at_load 24 ?_); refine load_sec rfl _ rfl N1 rfl hy6 ?_)
  refine (rget8_any w6 y).mono ?_
  rintro e w7 ⟨rfl, hb7⟩
  have ha7 := ha6.below (by omega) hb7
  have hr7 := hr6.below (by omega) hb7
  have hB7 : Below N w w7 := hB6.trans (hb7.mono (by omega))
  have hz7 : G1 < w7.heap.size := by have := hb7.size; omega
  clear hy6 hr6 hB6 ha6 hb7 hz6
  go_wp2_with ((with_reducible refine at_alloc 31 ?_); refine alloc_sr rfl rfl ?_)
  intro w8 hc8 hb8 hs8
  have ha8 := ha7.below (by omega) hb8
  have hr8 := hr7.below (by omega) hb8
  have hB8 : Below N w w8 := hB7.trans (hb8.mono (by omega))
  clear ha7 hr7 hB7 hb8
  generalize hG2 : w7.heap.size = G2 at *
  clear hG2
  go_wp2_with ((with_reducible refine at_store 31 ?_); refine store_sr rfl _ _ rfl G2 (getV y) rfl rfl hc8 rfl ?_)
  intro w9 hc9 hg9 hs9
  have ha9 := ha8.keep hg9 (fun e => by injection e with e; omega)
  have hr9 := hr8.keep hg9 (fun e => by injection e with e; omega)
  have hB9 : Below N w w9 := below_grown hB8 hg9 (by omega) (by omega)
  have hz9 : G2 < w9.heap.size := by omega
  clear ha8 hr8 hB8 hc8 hg9 hs9 hs8
  have hz := zeroRv
  have hz' := Try.buildR0
  cases hx : getS x with
  | none =>
    rw [(get_none hx).1] at ha9
    rw [(get_none hx).2]
    cases hy : getS y with
    | none =>
      have Hc := Lib.hid (cho_nn hx hy)
      rw [(get_none hy).1] at hc9
      rw [(get_none hy).2]
      clear hx hy
      go_wp2_with ((with_reducible refine at_store 31 ?_); refine store_sr rfl _ _ rfl R sb0 rfl rfl hr9 rfl ?_)
      intro w10 hr10 hg10 hs10
      go_wp2_with fail
      exact bodyPost_ret (results_cell_tmp2 (fn := Try.f11) rfl _ _ R 31 _ (0, 0) _ rfl (.int .i64 0) rfl (.int .i64 5) rfl hr10 Try.underlying31 rfl (sr_size _)) rfl ⟨by rw [Hc.out], by rw [hN]; exact below_grown hB9 hg10 (by omega) (by omega)⟩
    | some b =>
      have Hc := Lib.hid (cho_ns hx hy)
      rw [(get_some hy).1] at hc9
      rw [(get_some hy).2]
      clear hx hy
      go_wp2_with (first | ((with_reducible refine at_load 31 ?_); refine load_sr rfl _ rfl G2 rfl hc9 ?_) | ((with_reducible refine at_store 31 ?_); refine store_sr rfl _ _ rfl R b rfl rfl hr9 rfl ?_))
      intro w10 hr10 hg10 hs10
      go_wp2_with fail
      exact bodyPost_ret (results_cell_tmp2 (fn := Try.f11) rfl _ _ R 31 _ (0, 0) _ rfl (.int .i64 1) rfl (.int .i64 0) rfl hr10 Try.underlying31 rfl (sr_size _)) rfl ⟨by rw [Hc.out], by rw [hN]; exact below_grown hB9 hg10 (by omega) (by omega)⟩
  | some a =>
    rw [(get_some hx).1] at ha9
    rw [(get_some hx).2]
    have c1 := ha9.cell (i := 4) rfl
    cases hy : getS y with
    | none =>
      have Hc := Lib.hid (cho_sn hx hy)
      rw [(get_none hy).1] at hc9
      rw [(get_none hy).2]
      clear hx hy
      go_wp2_with (first | ((with_reducible refine at_load 31 ?_); refine load_sr rfl _ rfl G1 rfl ha9 ?_) | ((with_reducible refine at_store 31 ?_); refine store_sr rfl _ _ rfl R a rfl rfl hr9 rfl ?_))
      intro w10 hr10 hg10 hs10
      go_wp2_with fail
      exact bodyPost_ret (results_cell_tmp2 (fn := Try.f11) rfl _ _ R 31 _ (0, 0) _ rfl (.int .i64 0) rfl (.int .i64 0) rfl hr10 Try.underlying31 rfl (sr_size _)) rfl ⟨by rw [Hc.out], by rw [hN]; exact below_grown hB9 hg10 (by omega) (by omega)⟩
    | some b =>
      rw [(get_some hy).1] at hc9
      rw [(get_some hy).2]
      have c2 := hc9.cell (i := 4) rfl
      by_cases hm : b.m ≤ a.m
      · have Hc := Lib.hid (cho_ss1 hx hy hm)
        clear hx hy
        go_wp2_with (first | ((with_reducible refine at_load 31 ?_); refine load_sr rfl _ rfl G1 rfl ha9 ?_) | ((with_reducible refine at_store 31 ?_); refine store_sr rfl _ _ rfl R a rfl rfl hr9 rfl ?_))
        intro w10 hr10 hg10 hs10
        go_wp2_with fail
        exact bodyPost_ret (results_cell_tmp2 (fn := Try.f11) rfl _ _ R 31 _ (0, 0) _ rfl (.int .i64 0) rfl (.int .i64 0) rfl hr10 Try.underlying31 rfl (sr_size _)) rfl ⟨by rw [Hc.out], by rw [hN]; exact below_grown hB9 hg10 (by omega) (by omega)⟩
      · have Hc := Lib.hid (cho_ss2 hx hy hm)
        have hm' : a.m < b.m := by omega
        clear hx hy
        go_wp2_with (first | ((with_reducible refine at_load 31 ?_); refine load_sr rfl _ rfl G2 rfl hc9 ?_) | ((with_reducible refine at_store 31 ?_); refine store_sr rfl _ _ rfl R b rfl rfl hr9 rfl ?_))
        intro w10 hr10 hg10 hs10
        go_wp2_with fail
        exact bodyPost_ret (results_cell_tmp2 (fn := Try.f11) rfl _ _ R 31 _ (0, 0) _ rfl (.int .i64 1) rfl (.int .i64 0) rfl hr10 Try.underlying31 rfl (sr_size _)) rfl ⟨by rw [Hc.out], by rw [hN]; exact below_grown hB9 hg10 (by omega) (by omega)⟩
end Go.Proofs.Ytoiphbdmmiikaaa
namespace Go.Proofs.Ytoiphbdmmiikaaa
open Go.RowKit
set_option linter.unusedVariables false
set_option linter.unusedSimpArgs false

theorem eql_sec {w : World} {ops : Array Oper} {rest : List Oper} {o : Oper} {A : Act} {Q : Exit → Act → World → Prop} (hw : Region.wanted o (yielded ops A.tmps) = true) (x y : Operand) (u : TypeId) (ho : o.op = .binOp .eql 24 x y u) (s : Sec)
    (hx : A.eval x = .agg s.cs.toArray) (hy : A.eval y = .agg s.cs.toArray)
    (h : wpList Try.prog ops Q rest (A.put o.dst (.bool true)) w) : wpList Try.prog ops Q (o :: rest) A w := by
  refine wpList_wants hw fun K hK => ?_
  unfold Oper.wp
  rw [exec_eql_bytes 24 x y u ho Try.underlying24 Try.underlying5 Try.cells5s Try.guardSec hx hy s.2 s.2, beq_self_eq_true]
  exact hK _ _ h

set_option maxRecDepth 100000 in
set_option maxHeartbeats 8000000 in
theorem sputs_any (w : World) (s t c a m : Int) (x y : Sec) :
    Calls Try.prog 3 #[.agg (pc s t c a).toArray, .int .i64 m, .agg x.cs.toArray, .agg y.cs.toArray] w fun e w' => e = .returned (.bool true) ∧ Below w.heap.size w w' := by
  obtain ⟨ps, pcd, hp⟩ : ∃ p q, putS ⟨s, t, c, a, m⟩ = (p, q) := ⟨_, _, rfl⟩
  have Hp := Lib.hid hp
  obtain ⟨gv, hgv⟩ : ∃ v, getV x = v := ⟨_, rfl⟩
  have Hgv := Lib.hid hgv
  obtain ⟨gc, hgc⟩ : ∃ v, getC x = v := ⟨_, rfl⟩
  have Hgc := Lib.hid hgc
  obtain ⟨cv, ci, cc, hc⟩ : ∃ p q r, choT x y = (p, q, r) := ⟨_, _, _, rfl⟩
  have Hc := Lib.hid hc
  clear hp hgv hgc hc
  have heq := eq_plan
  go_enter Try.func3, Try.ntmps3
  generalize hN : w.heap.size = N at *
  go_wp2_with ((with_reducible refine at_box 23 ?_); refine wpList_box_rowV rfl 23 _ rfl (pc s t c a) rfl ?_)
  intro w1 rp_1 hb1 hs1
  have hB_1 : Below N w w1 := hb1
  have hz_1 : N < w1.heap.size := by omega
  clear hb1 hs1
  refine wpList_box_rowV rfl 24 _ rfl x.cs rfl ?_
  intro w2 rx_2 hb2 hs2
  have rp_2 := rp_1.below (by omega) hb2
  have hB_2 : Below N w w2 := hB_1.trans (hb2.mono (by omega))
  clear rp_1 hB_1 hb2
  generalize hgGx : w1.heap.size = Gx at *
  clear hgGx
  have hz_2 : Gx < w2.heap.size := by omega
  clear hs2
  refine wpList_box_rowV rfl 24 _ rfl y.cs rfl ?_
  intro w3 ry_3 hb3 hs3
  have rp_3 := rp_2.below (by omega) hb3
  have rx_3 := rx_2.below (by omega) hb3
  have hB_3 : Below N w w3 := hB_2.trans (hb3.mono (by omega))
  clear rp_2 rx_2 hB_2 hb3
  generalize hgGy : w2.heap.size = Gy at *
  clear hgGy
  have hz_3 : Gy < w3.heap.size := by omega
  clear hs3
  go_wp2_with (first
    | ((with_reducible refine at_load 23 ?_); refine load_plan rfl _ rfl N rfl rp_3 ?_)
    | ((with_reducible refine at_build 29 ?_); refine wpList_build_to rfl 29 _ rfl (sbc ⟨s, t, c, a, m⟩) (by rw [Array.toList_map]; exact Try.builtS _ _ _ _ _) ?_))
  refine (sput_any w3 ⟨s, t, c, a, m⟩).mono ?_
  rintro e w4 ⟨rfl, hb4⟩
  rw [Hp.out]
  have rp_4 := rp_3.below (by omega) hb4
  have rx_4 := rx_3.below (by omega) hb4
  have ry_4 := ry_3.below (by omega) hb4
  have hB_4 : Below N w w4 := hB_3.trans (hb4.mono (by omega))
  have hz_4 : Gy < w4.heap.size := by have := hb4.size; omega
  clear rp_3 rx_3 ry_3 hB_3 hz_3 hb4
  go_wp2_with ((with_reducible refine at_alloc 24 ?_); refine alloc_sec rfl rfl ?_)
  intro w5 ra_5 hb5 hs5
  have rp_5 := rp_4.below (by omega) hb5
  have rx_5 := rx_4.below (by omega) hb5
  have ry_5 := ry_4.below (by omega) hb5
  have hB_5 : Below N w w5 := hB_4.trans (hb5.mono (by omega))
  clear rp_4 rx_4 ry_4 hB_4 hb5
  generalize hgGa : w4.heap.size = Ga at *
  clear hgGa
  have hz_5 : Ga < w5.heap.size := by omega
  clear hs5
  go_wp2_with ((with_reducible refine at_store 24 ?_); refine store_sec rfl _ _ rfl Ga ps rfl rfl ra_5 (Sec.cs_length _) ?_)
  intro w6 ra_6 hg6 hs6
  have rp_6 := rp_5.keep hg6 (fun e => by injection e with e; omega)
  have rx_6 := rx_5.keep hg6 (fun e => by injection e with e; omega)
  have ry_6 := ry_5.keep hg6 (fun e => by injection e with e; omega)
  have hB_6 : Below N w w6 := below_grown hB_5 hg6 (by omega) (by omega)
  have hz_6 : Ga < w6.heap.size := by omega
  clear rp_5 rx_5 ry_5 hB_5 ra_5 hg6 hs6 hz_5
  go_wp2_with (first
    | ((with_reducible refine at_load 23 ?_); refine load_plan rfl _ rfl N rfl rp_6 ?_)
    | ((with_reducible refine at_build 31 ?_); refine wpList_build_to rfl 31 _ rfl (sbc ⟨s, t, c, a, m⟩) (by rw [Array.toList_map]; exact Try.builtR8 _ _ _ _ _) ?_))
  refine (rsput_any w6 ⟨s, t, c, a, m⟩).mono ?_
  rintro e w7 ⟨rfl, hb7⟩
  rw [Hp.out]
  have rp_7 := rp_6.below (by omega) hb7
  have rx_7 := rx_6.below (by omega) hb7
  have ry_7 := ry_6.below (by omega) hb7
  have ra_7 := ra_6.below (by omega) hb7
  have hB_7 : Below N w w7 := hB_6.trans (hb7.mono (by omega))
  have hz_7 : Ga < w7.heap.size := by have := hb7.size; omega
  clear rp_6 rx_6 ry_6 ra_6 hB_6 hz_6 hb7
  go_wp2_with ((with_reducible refine at_alloc 24 ?_); refine alloc_sec rfl rfl ?_)
  intro w8 rb_8 hb8 hs8
  have rp_8 := rp_7.below (by omega) hb8
  have rx_8 := rx_7.below (by omega) hb8
  have ry_8 := ry_7.below (by omega) hb8
  have ra_8 := ra_7.below (by omega) hb8
  have hB_8 : Below N w w8 := hB_7.trans (hb8.mono (by omega))
  clear rp_7 rx_7 ry_7 ra_7 hB_7 hb8
  generalize hgGb : w7.heap.size = Gb at *
  clear hgGb
  have hz_8 : Gb < w8.heap.size := by omega
  clear hs8
  go_wp2_with ((with_reducible refine at_store 24 ?_); refine store_sec rfl _ _ rfl Gb ps rfl rfl rb_8 (Sec.cs_length _) ?_)
  intro w9 rb_9 hg9 hs9
  have rp_9 := rp_8.keep hg9 (fun e => by injection e with e; omega)
  have rx_9 := rx_8.keep hg9 (fun e => by injection e with e; omega)
  have ry_9 := ry_8.keep hg9 (fun e => by injection e with e; omega)
  have ra_9 := ra_8.keep hg9 (fun e => by injection e with e; omega)
  have hB_9 : Below N w w9 := below_grown hB_8 hg9 (by omega) (by omega)
  have hz_9 : Gb < w9.heap.size := by omega
  clear rp_8 rx_8 ry_8 ra_8 hB_8 rb_8 hg9 hs9 hz_8
  go_wp2_with ((with_reducible refine at_load 24 ?_); refine load_sec rfl _ rfl Gx rfl rx_9 ?_)
  refine (sget_any w9 x).mono ?_
  rintro e w10 ⟨rfl, hb10⟩
  rw [Hgv.out, Hgc.out]
  have rp_10 := rp_9.below (by omega) hb10
  have rx_10 := rx_9.below (by omega) hb10
  have ry_10 := ry_9.below (by omega) hb10
  have ra_10 := ra_9.below (by omega) hb10
  have rb_10 := rb_9.below (by omega) hb10
  have hB_10 : Below N w w10 := hB_9.trans (hb10.mono (by omega))
  have hz_10 : Gb < w10.heap.size := by have := hb10.size; omega
  clear rp_9 rx_9 ry_9 ra_9 rb_9 hB_9 hz_9 hb10
  go_wp2_with ((with_reducible refine at_alloc 29 ?_); refine alloc_sb rfl rfl ?_)
  intro w11 rs_11 hb11 hs11
  have rp_11 := rp_10.below (by omega) hb11
  have rx_11 := rx_10.below (by omega) hb11
  have ry_11 := ry_10.below (by omega) hb11
  have ra_11 := ra_10.below (by omega) hb11
  have rb_11 := rb_10.below (by omega) hb11
  have hB_11 : Below N w w11 := hB_10.trans (hb11.mono (by omega))
  clear rp_10 rx_10 ry_10 ra_10 rb_10 hB_10 hb11
  generalize hgGs : w10.heap.size = Gs at *
  clear hgGs
  have hz_11 : Gs < w11.heap.size := by omega
  clear hs11
  go_wp2_with ((with_reducible refine at_store 29 ?_); refine store_sb rfl _ _ rfl Gs gv rfl rfl rs_11 rfl ?_)
  intro w12 rs_12 hg12 hs12
  have rp_12 := rp_11.keep hg12 (fun e => by injection e with e; omega)
  have rx_12 := rx_11.keep hg12 (fun e => by injection e with e; omega)
  have ry_12 := ry_11.keep hg12 (fun e => by injection e with e; omega)
  have ra_12 := ra_11.keep hg12 (fun e => by injection e with e; omega)
  have rb_12 := rb_11.keep hg12 (fun e => by injection e with e; omega)
  have hB_12 : Below N w w12 := below_grown hB_11 hg12 (by omega) (by omega)
  have hz_12 : Gs < w12.heap.size := by omega
  clear rp_11 rx_11 ry_11 ra_11 rb_11 hB_11 rs_11 hg12 hs12 hz_11
  go_wp2_with ((with_reducible refine at_load 24 ?_); refine load_sec rfl _ rfl Gx rfl rx_12 ?_)
  refine (rget8_any w12 x).mono ?_
  rintro e w13 ⟨rfl, hb13⟩
  rw [Hgv.out, Hgc.out]
  have rp_13 := rp_12.below (by omega) hb13
  have rx_13 := rx_12.below (by omega) hb13
  have ry_13 := ry_12.below (by omega) hb13
  have ra_13 := ra_12.below (by omega) hb13
  have rb_13 := rb_12.below (by omega) hb13
  have rs_13 := rs_12.below (by omega) hb13
  have hB_13 : Below N w w13 := hB_12.trans (hb13.mono (by omega))
  have hz_13 : Gs < w13.heap.size := by have := hb13.size; omega
  clear rp_12 rx_12 ry_12 ra_12 rb_12 rs_12 hB_12 hz_12 hb13
  go_wp2_with ((with_reducible refine at_alloc 31 ?_); refine alloc_sr rfl rfl ?_)
  intro w14 rt_14 hb14 hs14
  have rp_14 := rp_13.below (by omega) hb14
  have rx_14 := rx_13.below (by omega) hb14
  have ry_14 := ry_13.below (by omega) hb14
  have ra_14 := ra_13.below (by omega) hb14
  have rb_14 := rb_13.below (by omega) hb14
  have rs_14 := rs_13.below (by omega) hb14
  have hB_14 : Below N w w14 := hB_13.trans (hb14.mono (by omega))
  clear rp_13 rx_13 ry_13 ra_13 rb_13 rs_13 hB_13 hb14
  generalize hgGt : w13.heap.size = Gt at *
  clear hgGt
  have hz_14 : Gt < w14.heap.size := by omega
  clear hs14
  go_wp2_with ((with_reducible refine at_store 31 ?_); refine store_sr rfl _ _ rfl Gt gv rfl rfl rt_14 rfl ?_)
  intro w15 rt_15 hg15 hs15
  have rp_15 := rp_14.keep hg15 (fun e => by injection e with e; omega)
  have rx_15 := rx_14.keep hg15 (fun e => by injection e with e; omega)
  have ry_15 := ry_14.keep hg15 (fun e => by injection e with e; omega)
  have ra_15 := ra_14.keep hg15 (fun e => by injection e with e; omega)
  have rb_15 := rb_14.keep hg15 (fun e => by injection e with e; omega)
  have rs_15 := rs_14.keep hg15 (fun e => by injection e with e; omega)
  have hB_15 : Below N w w15 := below_grown hB_14 hg15 (by omega) (by omega)
  have hz_15 : Gt < w15.heap.size := by omega
  clear rp_14 rx_14 ry_14 ra_14 rb_14 rs_14 hB_14 rt_14 hg15 hs15 hz_14
  go_wp2_with (first
    | ((with_reducible refine at_load 24 ?_); refine load_sec rfl _ rfl Gx rfl rx_15 ?_)
    | ((with_reducible refine at_load 24 ?_); refine load_sec rfl _ rfl Gy rfl ry_15 ?_))
  refine (schoose_any w15 x y).mono ?_
  rintro e w16 ⟨rfl, hb16⟩
  rw [Hc.out]
  have rp_16 := rp_15.below (by omega) hb16
  have rx_16 := rx_15.below (by omega) hb16
  have ry_16 := ry_15.below (by omega) hb16
  have ra_16 := ra_15.below (by omega) hb16
  have rb_16 := rb_15.below (by omega) hb16
  have rs_16 := rs_15.below (by omega) hb16
  have rt_16 := rt_15.below (by omega) hb16
  have hB_16 : Below N w w16 := hB_15.trans (hb16.mono (by omega))
  have hz_16 : Gt < w16.heap.size := by have := hb16.size; omega
  clear rp_15 rx_15 ry_15 ra_15 rb_15 rs_15 rt_15 hB_15 hz_15 hb16
  go_wp2_with ((with_reducible refine at_alloc 29 ?_); refine alloc_sb rfl rfl ?_)
  intro w17 ru_17 hb17 hs17
  have rp_17 := rp_16.below (by omega) hb17
  have rx_17 := rx_16.below (by omega) hb17
  have ry_17 := ry_16.below (by omega) hb17
  have ra_17 := ra_16.below (by omega) hb17
  have rb_17 := rb_16.below (by omega) hb17
  have rs_17 := rs_16.below (by omega) hb17
  have rt_17 := rt_16.below (by omega) hb17
  have hB_17 : Below N w w17 := hB_16.trans (hb17.mono (by omega))
  clear rp_16 rx_16 ry_16 ra_16 rb_16 rs_16 rt_16 hB_16 hb17
  generalize hgGu : w16.heap.size = Gu at *
  clear hgGu
  have hz_17 : Gu < w17.heap.size := by omega
  clear hs17
  go_wp2_with ((with_reducible refine at_store 29 ?_); refine store_sb rfl _ _ rfl Gu cv rfl rfl ru_17 rfl ?_)
  intro w18 ru_18 hg18 hs18
  have rp_18 := rp_17.keep hg18 (fun e => by injection e with e; omega)
  have rx_18 := rx_17.keep hg18 (fun e => by injection e with e; omega)
  have ry_18 := ry_17.keep hg18 (fun e => by injection e with e; omega)
  have ra_18 := ra_17.keep hg18 (fun e => by injection e with e; omega)
  have rb_18 := rb_17.keep hg18 (fun e => by injection e with e; omega)
  have rs_18 := rs_17.keep hg18 (fun e => by injection e with e; omega)
  have rt_18 := rt_17.keep hg18 (fun e => by injection e with e; omega)
  have hB_18 : Below N w w18 := below_grown hB_17 hg18 (by omega) (by omega)
  have hz_18 : Gu < w18.heap.size := by omega
  clear rp_17 rx_17 ry_17 ra_17 rb_17 rs_17 rt_17 hB_17 ru_17 hg18 hs18 hz_17
  go_wp2_with (first
    | ((with_reducible refine at_load 24 ?_); refine load_sec rfl _ rfl Gx rfl rx_18 ?_)
    | ((with_reducible refine at_load 24 ?_); refine load_sec rfl _ rfl Gy rfl ry_18 ?_))
  refine (rchoose_any w18 x y).mono ?_
  rintro e w19 ⟨rfl, hb19⟩
  rw [Hc.out]
  have rp_19 := rp_18.below (by omega) hb19
  have rx_19 := rx_18.below (by omega) hb19
  have ry_19 := ry_18.below (by omega) hb19
  have ra_19 := ra_18.below (by omega) hb19
  have rb_19 := rb_18.below (by omega) hb19
  have rs_19 := rs_18.below (by omega) hb19
  have rt_19 := rt_18.below (by omega) hb19
  have ru_19 := ru_18.below (by omega) hb19
  have hB_19 : Below N w w19 := hB_18.trans (hb19.mono (by omega))
  have hz_19 : Gu < w19.heap.size := by have := hb19.size; omega
  clear rp_18 rx_18 ry_18 ra_18 rb_18 rs_18 rt_18 ru_18 hB_18 hz_18 hb19
  go_wp2_with ((with_reducible refine at_alloc 31 ?_); refine alloc_sr rfl rfl ?_)
  intro w20 rv_20 hb20 hs20
  have rp_20 := rp_19.below (by omega) hb20
  have rx_20 := rx_19.below (by omega) hb20
  have ry_20 := ry_19.below (by omega) hb20
  have ra_20 := ra_19.below (by omega) hb20
  have rb_20 := rb_19.below (by omega) hb20
  have rs_20 := rs_19.below (by omega) hb20
  have rt_20 := rt_19.below (by omega) hb20
  have ru_20 := ru_19.below (by omega) hb20
  have hB_20 : Below N w w20 := hB_19.trans (hb20.mono (by omega))
  clear rp_19 rx_19 ry_19 ra_19 rb_19 rs_19 rt_19 ru_19 hB_19 hb20
  generalize hgGv : w19.heap.size = Gv at *
  clear hgGv
  have hz_20 : Gv < w20.heap.size := by omega
  clear hs20
  go_wp2_with ((with_reducible refine at_store 31 ?_); refine store_sr rfl _ _ rfl Gv cv rfl rfl rv_20 rfl ?_)
  intro w21 rv_21 hg21 hs21
  have rp_21 := rp_20.keep hg21 (fun e => by injection e with e; omega)
  have rx_21 := rx_20.keep hg21 (fun e => by injection e with e; omega)
  have ry_21 := ry_20.keep hg21 (fun e => by injection e with e; omega)
  have ra_21 := ra_20.keep hg21 (fun e => by injection e with e; omega)
  have rb_21 := rb_20.keep hg21 (fun e => by injection e with e; omega)
  have rs_21 := rs_20.keep hg21 (fun e => by injection e with e; omega)
  have rt_21 := rt_20.keep hg21 (fun e => by injection e with e; omega)
  have ru_21 := ru_20.keep hg21 (fun e => by injection e with e; omega)
  have hB_21 : Below N w w21 := below_grown hB_20 hg21 (by omega) (by omega)
  have hz_21 : Gv < w21.heap.size := by omega
  clear rp_20 rx_20 ry_20 ra_20 rb_20 rs_20 rt_20 ru_20 hB_20 rv_20 hg21 hs21 hz_20
  obtain ⟨s1, t1, c1, a1, m1⟩ := gv
  obtain ⟨s2, t2, c2, a2, m2⟩ := cv
  have ds0 := rs_21.cell (i := 0) rfl
  have ds1 := rs_21.cell (i := 1) rfl
  have ds2 := rs_21.cell (i := 2) rfl
  have ds3 := rs_21.cell (i := 3) rfl
  have ds4 := rs_21.cell (i := 4) rfl
  have dt0 := rt_21.cell (i := 0) rfl
  have dt1 := rt_21.cell (i := 1) rfl
  have dt2 := rt_21.cell (i := 2) rfl
  have dt3 := rt_21.cell (i := 3) rfl
  have dt4 := rt_21.cell (i := 4) rfl
  have du0 := ru_21.cell (i := 0) rfl
  have du1 := ru_21.cell (i := 1) rfl
  have du2 := ru_21.cell (i := 2) rfl
  have du3 := ru_21.cell (i := 3) rfl
  have du4 := ru_21.cell (i := 4) rfl
  have dv0 := rv_21.cell (i := 0) rfl
  have dv1 := rv_21.cell (i := 1) rfl
  have dv2 := rv_21.cell (i := 2) rfl
  have dv3 := rv_21.cell (i := 3) rfl
  have dv4 := rv_21.cell (i := 4) rfl
  clear Hp Hgv Hgc Hc
  go_wp2_with (first
    | ((with_reducible refine at_load 24 ?_); refine load_sec rfl _ rfl Ga rfl ra_21 ?_)
    | ((with_reducible refine at_load 24 ?_); refine load_sec rfl _ rfl Gb rfl rb_21 ?_)
    | ((with_reducible refine at_eql 24 ?_); refine eql_sec rfl _ _ _ rfl ps rfl rfl ?_))
  refine (works08_any w21).mono ?_
  rintro e wz ⟨rfl, hbz⟩
  go_wp2_with fail
  go_ret
  exact ⟨rfl, hB_21.trans (hbz.mono (by omega))⟩
end Go.Proofs.Ytoiphbdmmiikaaa
