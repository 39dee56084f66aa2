/-
  Layer 14: the contract of the reference's Get. (Written by wip/mk/mk14k.py.)
-/
import Derived.Test.YtkfhbngphkobfaaPkLefK
import Derived.Test.YtkfhbngphkobfaaPkRegS
import Derived.Deep.Cut
import Derived.StillTailTactics
namespace Go.Proofs.Ytkfhbngphkobfaa
open Go.RowKit
set_option linter.unusedVariables false
set_option linter.unusedSimpArgs false

theorem own_lies {w : World} {base k c : Nat} {A : Option Addr} {cs : List Value} (h : w.ownsRow base 3 1 (.slice A k c) k cs) : LiesV w w.heap.size A cs := by
  obtain ⟨A2, c2, hv2, _, _, _, hl2⟩ := LiesV.of_own h
  injection hv2 with e1 e2 e3
  subst e1
  exact hl2
theorem own_below14 {w w' : World} {base k : Nat} {v : Value} {cs : List Value} (h : w.ownsRow base 3 1 v k cs) (hb : Below w.heap.size w w') : w'.ownsRow base 3 1 v k cs :=
  h.kept (row := none) ⟨hb.os, hb.tape, hb.output, hb.size, fun j hj _ => hb.block j hj⟩ (by cases hv : v.ownBlock with
    | none => exact .inl rfl
    | some j => exact .inr (by intro e; cases e))
theorem exec_sec14 {W : World} {ρ : Operand → Value} {o : Oper} (x : Operand) (ho : o.op = .load 28 x) (g : Nat) (hx : ρ x = .pointer (some ⟨g, 0, none⟩)) {t : TypeId} {s : Sec} (hc : RowV W g t s.cs) : (execOp ρ o).run Try.prog W = .ok (.value (.agg s.cs.toArray)) W :=
  exec_load_row 28 x ho g hx _ hc Try.underlying28 rfl (sec_size s)
/-- What the reference's Get says of a candidate. -/
theorem getL_cand {x : Sec} {n : Int} (h1 : checkL (candL x) 200 = 0) (h2 : leafS (candL x) = x) (h3 : checkL (candL x) n = 0) : getL x n = some (candL x) := getL_iff.2 ⟨h1, h2, h3⟩
theorem getL_cnot {x : Sec} {n : Int} (h : ¬ (checkL (candL x) 200 = 0 ∧ leafS (candL x) = x ∧ checkL (candL x) n = 0)) : getL x n = none := by
  unfold getL
  rw [if_neg h]
def okL (x : Sec) (n : Int) : Bool := decide (getC14 x n = 0)
theorem okL_zero {x : Sec} {n : Int} (h : x = zeroSec) : getT14 x n = tx0 ∧ getB14 x n = false ∧ okL x n = true := ⟨(get14_zero h).1, (get14_zero h).2.1, by unfold okL; rw [(get14_zero h).2.2]; rfl⟩
theorem okL_none {x : Sec} {n : Int} (h : ¬ x = zeroSec) (hg : getL x n = none) : getT14 x n = tx0 ∧ getB14 x n = false ∧ okL x n = false := ⟨(get14_none h hg).1, (get14_none h hg).2.1, by unfold okL; rw [(get14_none h hg).2.2]; rfl⟩
theorem okL_some {x : Sec} {n : Int} {t : Tx} (h : ¬ x = zeroSec) (hg : getL x n = some t) : getT14 x n = t ∧ getB14 x n = true ∧ okL x n = true := ⟨(get14_some h hg).1, (get14_some h hg).2.1, by unfold okL; rw [(get14_some h hg).2.2]; rfl⟩

set_option maxRecDepth 100000 in
set_option maxHeartbeats 8000000 in
theorem rget14_any (w : World) (x : Sec) (n : Int) :
    Calls Try.prog 18 #[.agg x.cs.toArray, .int .i64 n] w fun e w' => ∃ A c, e = .returned (.tuple #[.agg (txc (getT14 x n) A c).toArray, .bool (getB14 x n), .bool (okL x n)]) ∧ LiesV w' w'.heap.size A (slv (getT14 x n).slots) ∧ Below w.heap.size w w' := by
  have hzv := zeroSv
  have hzt := zeroTv
  go_enter Try.func18, Try.ntmps18
  go_wp2_with ((with_reducible refine at_box 28 ?_); refine wpList_box_rowV rfl 28 _ rfl x.cs rfl ?_)
  intro w1 hr1 hb1 hs1
  go_wp2_with ((with_reducible refine at_alloc 25 ?_); refine alloc_tx rfl rfl ?_)
  intro w2 hr2 hb2 hs2
  have hx2 := hr1.below (by omega) hb2
  have hB2 : Below w.heap.size w w2 := hb1.trans (hb2.mono (by omega))
  have hz2 : w.heap.size + 1 < w2.heap.size := by omega
  clear hr1 hb1 hb2 hs1 hs2
  obtain ⟨N, hN⟩ : ∃ N, w.heap.size = N := ⟨_, rfl⟩
  rw [hN] at hx2 hr2 hB2 hz2 ⊢
  by_cases hx0 : x = zeroSec
  · have Hg := Lib.hid (okL_zero (n := n) hx0)
    have hd := Lib.hid (decide_eq_true hx0)
    clear hx0
    go_wp2_with first
      | ((with_reducible refine at_load 28 ?_); refine load_sec rfl _ rfl N rfl hx2 ?_)
      | ((with_reducible refine at_eql 28 ?_); refine eql_sec rfl _ _ _ rfl x zeroSec rfl rfl hd.out ?_)
      | ((with_reducible refine at_store 25 ?_); refine store_tx rfl _ _ rfl (N + 1) tx0 none 0 rfl rfl hr2 (txc_length _ _ _) ?_)
    intro w3 hr3 hg3 hs3
    go_wp2_with fail
    exact bodyPost_ret (results_cell_tmp2 (fn := Try.f18) rfl _ _ (N + 1) 25 _ (0, 0) _ rfl _ rfl _ rfl hr3 Try.underlying25 rfl (txc_info' _ _ _)) rfl ⟨none, 0, by rw [Hg.out.1, Hg.out.2.1, Hg.out.2.2]; rfl, by rw [Hg.out.1]; exact LiesV.nil _ _ _, by rw [hN]; exact below_grown hB2 hg3 (by omega) (by omega)⟩
  have hd := Lib.hid (decide_eq_false hx0)
  have Hx0 := Lib.hid hx0
  clear hx0
  obtain ⟨n1, h36⟩ : ∃ k : Int, ((numAt x.1 36 2 : Nat) : Int) = k := ⟨_, rfl⟩
  obtain ⟨n2, h38⟩ : ∃ k : Int, ((numAt x.1 38 2 : Nat) : Int) = k := ⟨_, rfl⟩
  obtain ⟨q, hqc⟩ : ∃ q, countK (numAt x.1 36 2) = q := ⟨_, rfl⟩
  have hn0 : 0 ≤ n1 := by omega
  have hn1 : n1 < 65536 := by
    have h9 : numAt x.1 36 2 < 65536 := leN_two _
    omega
  have hquo : (n1 + 255).tdiv 256 = (q : Int) := by
    rw [Int.tdiv_eq_ediv_of_nonneg (by omega), ← hqc, ← h36]
    unfold countK
    omega
  have hquo2 : (n1 + 255) / 256 = (q : Int) := by rw [← hquo, Int.tdiv_eq_ediv_of_nonneg (by omega)]
  have hq256 : q ≤ 256 := by rw [← hqc]; unfold countK; omega
  have H36 := Lib.hid h36
  have H38 := Lib.hid h38
  have Hqc := Lib.hid hqc
  clear h36 h38 hqc
  go_wp2_with first
    | ((with_reducible refine at_load 28 ?_); refine load_sec rfl _ rfl N rfl hx2 ?_)
    | ((with_reducible refine at_eql 28 ?_); refine eql_sec rfl _ _ _ rfl x zeroSec rfl rfl hd.out ?_)
  try simp only [Act.put, List.setIfInBounds_toArray, List.set_cons_zero, List.set_cons_succ]
  go_cut [7] from 16 (fun s7 W => ∃ M, s7 = .pointer (some ⟨M, 0, none⟩) ∧ N + 1 < M ∧ M < W.heap.size ∧ Hid (RowV W M 25 (txc ⟨zeroAdr, n1, [], n2⟩ none 0)) ∧ Hid (RowV W N 28 x.cs) ∧ Hid (RowV W (N + 1) 25 (txc tx0 none 0)) ∧ Hid (Below N w W))
  case first =>
    have hxd : RowV w2.drew N 28 x.cs := hx2
    have hrd : RowV w2.drew (N + 1) 25 (txc tx0 none 0) := hr2
    have hbd : Below N w w2.drew := hB2.drew
    have hzd : N ≤ w2.drew.heap.size := by show N ≤ w2.heap.size; omega
    refine wp_region_held_drew (S := fun W => RowV W N 28 x.cs) (by kernel_rfl) hxd (fun hHeld => ?_)
    clear hx2 hr2 hB2
    generalize w2.drew = wd at *
    refine wpAnyH_take (i := 0) (oi := ⟨_, _, _, _, _, _⟩) (v := ?_) rfl (by kernel_rfl) (by kernel_rfl) (by kernel_rfl) (fun _ _ _ h => h) (Or.inl ⟨by rfl, ?_⟩) (by assumption) ?_
    rotate_left
    · intro W hSW; refine exec_sec14 (.tmp 2) ?_ N ?_ hSW <;> rfl
    try simp only [Act.put, List.setIfInBounds_toArray, List.set_cons_zero, List.set_cons_succ]
    refine wpAnyH_take (i := 2) (oi := ⟨_, _, _, _, _, _⟩) (v := ?_) rfl (by kernel_rfl) (by kernel_rfl) (by kernel_rfl) (fun _ _ _ h => h) (Or.inl ⟨by rfl, ?_⟩) (by assumption) ?_
    rotate_left
    · intro W hSW; refine exec_sec14 (.tmp 2) ?_ N ?_ hSW <;> rfl
    try simp only [Act.put, List.setIfInBounds_toArray, List.set_cons_zero, List.set_cons_succ]
    refine wpAnyH_ready (rs := [1, 5]) (by kernel_rfl) (by simp) ?_
    refine AllReadyH.cons (o := ⟨_, _, _, _, _, _⟩) rfl (fun K hK => ?_) (AllReadyH.cons (o := ⟨_, _, _, _, _, _⟩) rfl (fun K hK => ?_) AllReadyH.nil)
    · go_simp
      refine (rnum36 wd x).mono ?_
      rintro e v1 ⟨rfl, hn1⟩
      rw [H36.out]
      try simp only []
      have hx1 := hxd.below hxd.lt hn1
      have hr1 := hrd.below hrd.lt hn1
      have hb1 : Below N w v1 := hbd.trans (hn1.mono hzd)
      have hz1 : N ≤ v1.heap.size := Nat.le_trans hzd hn1.size
      refine hK.out _ _ hx1 (fun hHeld => ?_)
      try clear hQ2
      clear hK K
      try simp only [Act.put, List.setIfInBounds_toArray, List.set_cons_zero, List.set_cons_succ]
      refine wpAnyH_ready (rs := [3, 5]) (by kernel_rfl) (by simp) ?_
      refine AllReadyH.cons (o := ⟨_, _, _, _, _, _⟩) rfl (fun K hK => ?_) (AllReadyH.cons (o := ⟨_, _, _, _, _, _⟩) rfl (fun K hK => ?_) AllReadyH.nil)
      · go_simp
        refine (rnum38 v1 x).mono ?_
        rintro e v2 ⟨rfl, hn2⟩
        rw [H38.out]
        try simp only []
        have hx2 := hx1.below hx1.lt hn2
        have hr2 := hr1.below hr1.lt hn2
        have hb2 : Below N w v2 := hb1.trans (hn2.mono hz1)
        have hz2 : N ≤ v2.heap.size := Nat.le_trans hz1 hn2.size
        refine hK.out _ _ hx2 (fun hHeld => ?_)
        try clear hQ2
        clear hK K
        try simp only [Act.put, List.setIfInBounds_toArray, List.set_cons_zero, List.set_cons_succ]
        refine wpAnyH_take (i := 4) (oi := ⟨_, _, _, _, _, _⟩) (v := ?_) rfl (by kernel_rfl) (by kernel_rfl) (by kernel_rfl) (fun _ _ _ h => h) (Or.inl ⟨by rfl, ?_⟩) (by assumption) ?_
        rotate_left
        · intro W hSW; refine exec_built 25 #[(1, .tmp 17), (3, .tmp 19)] ?_ (txc ⟨zeroAdr, n1, [], n2⟩ none 0) ?_
          · rfl
          · exact Try.builtT2 _ _
        try simp only [Act.put, List.setIfInBounds_toArray, List.set_cons_zero, List.set_cons_succ]
        refine wpAnyH_ready (rs := [5]) (by kernel_rfl) (by simp) ?_
        refine AllReadyH.cons (o := ⟨_, _, _, _, _, _⟩) rfl (fun K hK => ?_) AllReadyH.nil
        refine step_of_list rfl (fun Q2 hQ2 => ?_)
        refine alloc_tx rfl rfl ?_
        intro v3 hM3 hn3 hs3
        refine wpList_nil (hQ2 _ _ ?_)
        have hx3 := hx2.below hx2.lt hn3
        have hr3 := hr2.below hr2.lt hn3
        have hb3 : Below N w v3 := hb2.trans (hn3.mono hz2)
        have hz3 : N ≤ v3.heap.size := Nat.le_trans hz2 hn3.size
        have hl3 := hr2.lt
        refine hK.out _ _ hx3 (fun hHeld => ?_)
        try clear hQ2
        clear hK K
        try simp only [Act.put, List.setIfInBounds_toArray, List.set_cons_zero, List.set_cons_succ]
        refine wpAnyH_ready (rs := [6]) (by kernel_rfl) (by simp) ?_
        refine AllReadyH.cons (o := ⟨_, _, _, _, _, _⟩) rfl (fun K hK => ?_) AllReadyH.nil
        refine step_of_list rfl (fun Q2 hQ2 => ?_)
        refine store_tx rfl _ _ rfl (v2.heap.size) ⟨zeroAdr, n1, [], n2⟩ none 0 rfl rfl hM3 (txc_length _ _ _) ?_
        intro v4 hM4 hg4 hs4
        refine wpList_nil (hQ2 _ _ ?_)
        have hx4 := hx3.keep hg4 (fun e => by injection e with e; omega)
        refine hK.out _ _ hx4 (fun hHeld => ?_)
        try clear hQ2
        clear hK K
        try simp only [Act.put, List.setIfInBounds_toArray, List.set_cons_zero, List.set_cons_succ]
        refine wpAnyH_done (by kernel_rfl) ?_ _
        go_wp2_with fail
        go_meet
        case rel => exact ⟨v2.heap.size, rfl, hl3, hM4.lt, Lib.hid hM4, Lib.hid hx4, Lib.hid (hr3.keep hg4 (fun e => by injection e with e; omega)), Lib.hid (below_grown hb3 hg4 (by omega) hz3)⟩
      · refine step_of_list rfl (fun Q2 hQ2 => ?_)
        refine alloc_tx rfl rfl ?_
        intro v5 hM5 hn5 hs5
        refine wpList_nil (hQ2 _ _ ?_)
        have hx5 := hx1.below hx1.lt hn5
        have hr5 := hr1.below hr1.lt hn5
        have hb5 : Below N w v5 := hb1.trans (hn5.mono hz1)
        have hz5 : N ≤ v5.heap.size := Nat.le_trans hz1 hn5.size
        have hl5 := hr1.lt
        refine hK.out _ _ hx5 (fun hHeld => ?_)
        try clear hQ2
        clear hK K
        try simp only [Act.put, List.setIfInBounds_toArray, List.set_cons_zero, List.set_cons_succ]
        refine wpAnyH_ready (rs := [3]) (by kernel_rfl) (by simp) ?_
        refine AllReadyH.cons (o := ⟨_, _, _, _, _, _⟩) rfl (fun K hK => ?_) AllReadyH.nil
        go_simp
        refine (rnum38 v5 x).mono ?_
        rintro e v6 ⟨rfl, hn6⟩
        rw [H38.out]
        try simp only []
        have hx6 := hx5.below hx5.lt hn6
        have hr6 := hr5.below hr5.lt hn6
        have hb6 : Below N w v6 := hb5.trans (hn6.mono hz5)
        have hz6 : N ≤ v6.heap.size := Nat.le_trans hz5 hn6.size
        have hM6 := hM5.below hM5.lt hn6
        refine hK.out _ _ hx6 (fun hHeld => ?_)
        try clear hQ2
        clear hK K
        try simp only [Act.put, List.setIfInBounds_toArray, List.set_cons_zero, List.set_cons_succ]
        refine wpAnyH_take (i := 4) (oi := ⟨_, _, _, _, _, _⟩) (v := ?_) rfl (by kernel_rfl) (by kernel_rfl) (by kernel_rfl) (fun _ _ _ h => h) (Or.inl ⟨by rfl, ?_⟩) (by assumption) ?_
        rotate_left
        · intro W hSW; refine exec_built 25 #[(1, .tmp 17), (3, .tmp 19)] ?_ (txc ⟨zeroAdr, n1, [], n2⟩ none 0) ?_
          · rfl
          · exact Try.builtT2 _ _
        try simp only [Act.put, List.setIfInBounds_toArray, List.set_cons_zero, List.set_cons_succ]
        refine wpAnyH_ready (rs := [6]) (by kernel_rfl) (by simp) ?_
        refine AllReadyH.cons (o := ⟨_, _, _, _, _, _⟩) rfl (fun K hK => ?_) AllReadyH.nil
        refine step_of_list rfl (fun Q2 hQ2 => ?_)
        refine store_tx rfl _ _ rfl (v1.heap.size) ⟨zeroAdr, n1, [], n2⟩ none 0 rfl rfl hM6 (txc_length _ _ _) ?_
        intro v7 hM7 hg7 hs7
        refine wpList_nil (hQ2 _ _ ?_)
        have hx7 := hx6.keep hg7 (fun e => by injection e with e; omega)
        refine hK.out _ _ hx7 (fun hHeld => ?_)
        try clear hQ2
        clear hK K
        try simp only [Act.put, List.setIfInBounds_toArray, List.set_cons_zero, List.set_cons_succ]
        refine wpAnyH_done (by kernel_rfl) ?_ _
        go_wp2_with fail
        go_meet
        case rel => exact ⟨v1.heap.size, rfl, hl5, hM7.lt, Lib.hid hM7, Lib.hid hx7, Lib.hid (hr6.keep hg7 (fun e => by injection e with e; omega)), Lib.hid (below_grown hb6 hg7 (by omega) hz6)⟩
    · refine step_of_list rfl (fun Q2 hQ2 => ?_)
      refine alloc_tx rfl rfl ?_
      intro v8 hM8 hn8 hs8
      refine wpList_nil (hQ2 _ _ ?_)
      have hx8 := hxd.below hxd.lt hn8
      have hr8 := hrd.below hrd.lt hn8
      have hb8 : Below N w v8 := hbd.trans (hn8.mono hzd)
      have hz8 : N ≤ v8.heap.size := Nat.le_trans hzd hn8.size
      have hl8 := hrd.lt
      refine hK.out _ _ hx8 (fun hHeld => ?_)
      try clear hQ2
      clear hK K
      try simp only [Act.put, List.setIfInBounds_toArray, List.set_cons_zero, List.set_cons_succ]
      refine wpAnyH_ready (rs := [1]) (by kernel_rfl) (by simp) ?_
      refine AllReadyH.cons (o := ⟨_, _, _, _, _, _⟩) rfl (fun K hK => ?_) AllReadyH.nil
      go_simp
      refine (rnum36 v8 x).mono ?_
      rintro e v9 ⟨rfl, hn9⟩
      rw [H36.out]
      try simp only []
      have hx9 := hx8.below hx8.lt hn9
      have hr9 := hr8.below hr8.lt hn9
      have hb9 : Below N w v9 := hb8.trans (hn9.mono hz8)
      have hz9 : N ≤ v9.heap.size := Nat.le_trans hz8 hn9.size
      have hM9 := hM8.below hM8.lt hn9
      refine hK.out _ _ hx9 (fun hHeld => ?_)
      try clear hQ2
      clear hK K
      try simp only [Act.put, List.setIfInBounds_toArray, List.set_cons_zero, List.set_cons_succ]
      refine wpAnyH_ready (rs := [3]) (by kernel_rfl) (by simp) ?_
      refine AllReadyH.cons (o := ⟨_, _, _, _, _, _⟩) rfl (fun K hK => ?_) AllReadyH.nil
      go_simp
      refine (rnum38 v9 x).mono ?_
      rintro e v10 ⟨rfl, hn10⟩
      rw [H38.out]
      try simp only []
      have hx10 := hx9.below hx9.lt hn10
      have hr10 := hr9.below hr9.lt hn10
      have hb10 : Below N w v10 := hb9.trans (hn10.mono hz9)
      have hz10 : N ≤ v10.heap.size := Nat.le_trans hz9 hn10.size
      have hM10 := hM9.below hM9.lt hn10
      refine hK.out _ _ hx10 (fun hHeld => ?_)
      try clear hQ2
      clear hK K
      try simp only [Act.put, List.setIfInBounds_toArray, List.set_cons_zero, List.set_cons_succ]
      refine wpAnyH_take (i := 4) (oi := ⟨_, _, _, _, _, _⟩) (v := ?_) rfl (by kernel_rfl) (by kernel_rfl) (by kernel_rfl) (fun _ _ _ h => h) (Or.inl ⟨by rfl, ?_⟩) (by assumption) ?_
      rotate_left
      · intro W hSW; refine exec_built 25 #[(1, .tmp 17), (3, .tmp 19)] ?_ (txc ⟨zeroAdr, n1, [], n2⟩ none 0) ?_
        · rfl
        · exact Try.builtT2 _ _
      try simp only [Act.put, List.setIfInBounds_toArray, List.set_cons_zero, List.set_cons_succ]
      refine wpAnyH_ready (rs := [6]) (by kernel_rfl) (by simp) ?_
      refine AllReadyH.cons (o := ⟨_, _, _, _, _, _⟩) rfl (fun K hK => ?_) AllReadyH.nil
      refine step_of_list rfl (fun Q2 hQ2 => ?_)
      refine store_tx rfl _ _ rfl (wd.heap.size) ⟨zeroAdr, n1, [], n2⟩ none 0 rfl rfl hM10 (txc_length _ _ _) ?_
      intro v11 hM11 hg11 hs11
      refine wpList_nil (hQ2 _ _ ?_)
      have hx11 := hx10.keep hg11 (fun e => by injection e with e; omega)
      refine hK.out _ _ hx11 (fun hHeld => ?_)
      try clear hQ2
      clear hK K
      try simp only [Act.put, List.setIfInBounds_toArray, List.set_cons_zero, List.set_cons_succ]
      refine wpAnyH_done (by kernel_rfl) ?_ _
      go_wp2_with fail
      go_meet
      case rel => exact ⟨wd.heap.size, rfl, hl8, hM11.lt, Lib.hid hM11, Lib.hid hx11, Lib.hid (hr10.keep hg11 (fun e => by injection e with e; omega)), Lib.hid (below_grown hb10 hg11 (by omega) hz10)⟩
  case rest =>
    obtain ⟨M, rfl, hNM, hMl, HM, HX, HR, HB⟩ := hcut
    clear hx2 hr2 hB2
    go_wp2_with fail
    go_loopw [8] (fun v W => ∃ k : Nat, k ≤ 32 ∧ v = .int .i64 k ∧ M < W.heap.size ∧ Hid (RowV W M 25 (txc ⟨adrK x k, n1, [], n2⟩ none 0)) ∧ Hid (RowV W N 28 x.cs) ∧ Hid (RowV W (N + 1) 25 (txc tx0 none 0)) ∧ Hid (Below N w W)) (fun v _ => 32 - (intOf v).toNat)
    case atStart => exact ⟨0, by omega, rfl, hMl, by rw [adrK_zero]; exact HM, HX, HR, HB⟩
    case round =>
      obtain ⟨k, hk, rfl, hMl, HM, HX, HR, HB⟩ := hrel
      by_cases hlt : k < 32
      · obtain ⟨y, hy⟩ : ∃ y, x.1[4 + k]? = some y := ⟨_, List.getElem?_eq_getElem (by rw [x.2]; omega)⟩
        have hcy := HX.out.cell (cells_get hy)
        have hyl := y.toNat_lt
        have hM1 := HM.out
        have Hst := Lib.hid (txc_step (s := n1) (b := n2) hlt hy)
        clear hy
        go_wp2_with ((with_reducible refine at_store 5 ?_); refine wpList_store_slot rfl 5 _ _ rfl M k rfl _ rfl rfl 25 _ hM1 (by rw [txc_length]; omega) (by kernel_rfl) ?_)
        intro w3 hr3 hg3 hs3
        have HM3 := Lib.hid hr3
        rw [Hst.out] at HM3
        have HX3 := Lib.hid (HX.out.keep hg3 (fun e => by injection e with e; omega))
        have HR3 := Lib.hid (HR.out.keep hg3 (fun e => by injection e with e; omega))
        have HB3 := Lib.hid (below_grown HB.out hg3 (by omega) (by omega))
        clear hr3 hcy hM1 hg3
        go_wp2_with fail
        go_roundw
        all_goals first
          | (simp [intOf]; omega)
          | exact ⟨k + 1, by omega, by go_num, by omega, HM3, HX3, HR3, HB3⟩
      · obtain rfl : k = 32 := by omega
        have HT0 : Hid (∃ A' c', GtMid w N M x (.slice A' 0 c') (slotsAt x.1 0) ⟨adrK x 32, n1, slotsAt x.1 0, n2⟩ A' c' wr) := ⟨none, 0, ⟨HX.out, HR.out, World.ownsRow_nil _ _ _ _, HB.out, hNM, by omega⟩, HM.out⟩
        clear HM HX HR HB
        go_wp2_with fail
        go_loopw [9] (fun v W => ∃ k : Nat, k ≤ q ∧ k ≤ 9 ∧ v = .int .i64 k ∧ Hid (∃ A' c', GtMid w N M x (.slice A' k c') (slotsAt x.1 k) ⟨adrK x 32, n1, slotsAt x.1 k, n2⟩ A' c' W)) (fun v _ => 9 - (intOf v).toNat)
        case atStart => exact ⟨0, Nat.zero_le _, Nat.zero_le _, rfl, HT0⟩
        case round =>
          obtain ⟨k, hkq, hk9, rfl, HT⟩ := hrel
          clear HT0
          obtain ⟨A1, c1, hT⟩ := HT.out
          have d1 := tx_size hT.old
          simp only at d1
          by_cases hlt : k < q ∧ k < 9
          · obtain ⟨hlq, hl9⟩ := hlt
            obtain ⟨y, hy⟩ : ∃ y, x.1[40 + k]? = some y := ⟨_, List.getElem?_eq_getElem (by rw [x.2]; omega)⟩
            have hyl := y.toNat_lt
            have Hy := Lib.hid (cells_get hy)
            have hst := slotsAt_step hy
            obtain ⟨s, hs⟩ : ∃ s : Int, ((y.toNat : Nat) : Int) = s := ⟨_, rfl⟩
            rw [hs] at hst Hy
            have hs0 : 0 ≤ s := by omega
            have hs1 : s < 256 := by omega
            have hll := slotsAt_length x.1 k
            obtain ⟨ls, hls⟩ : ∃ ls, slotsAt x.1 k = ls := ⟨_, rfl⟩
            rw [hls] at hT hst hll
            subst hll
            have Hst := Lib.hid hst
            have Hls := Lib.hid hls
            have HT := Lib.hid hT
            have hTd := hT.toGtAt.drew
            have hod : RowV wr.drew M 25 (txc ⟨adrK x 32, n1, ls, n2⟩ A1 c1) := hT.old
            clear hst hls hT hy hs
            go_wp2_with fail
            obtain ⟨wd, hwd⟩ : ∃ wd, wr.drew = wd := ⟨_, rfl⟩
            refine wp_region_held_drew (S := fun W => RowV W N 28 x.cs ∧ Below N w W) (by kernel_rfl) ⟨hTd.box, hTd.low⟩ (fun hHeld => ?_)
            rw [hwd] at hTd hod hHeld ⊢
            have ho := hod
            have hcq0 := tx_slots ho
            clear hod hwd d1
            have hwa : IntKind.i64.wrap (40 + (ls.length : Int)) = 40 + (ls.length : Int) := IntWalk.i64_in _ (by omega)
            have hwb : (40 + (ls.length : Int)).toNat = 40 + ls.length := by omega
            have hwc : IntKind.i64.wrap s = s := IntWalk.i64_in _ (by omega)
            refine wpAnyH_take (i := 0) (oi := ⟨_, _, _, _, _, _⟩) (v := ?_) rfl (by kernel_rfl) (by kernel_rfl) (by kernel_rfl) (fun _ _ _ h => h) (Or.inl ⟨by rfl, ?_⟩) (by assumption) ?_
            rotate_left
            · intro W hSW; go_simp; try with_reducible rfl
            try simp only [Act.put, List.setIfInBounds_toArray, List.set_cons_zero, List.set_cons_succ]
            refine wpAnyH_take (i := 2) (oi := ⟨_, _, _, _, _, _⟩) (v := ?_) rfl (by kernel_rfl) (by kernel_rfl) (by kernel_rfl) (fun _ _ _ h => h) (Or.inl ⟨by rfl, ?_⟩) (by assumption) ?_
            rotate_left
            · intro W hSW; go_simp; try with_reducible rfl
            try simp only [Act.put, List.setIfInBounds_toArray, List.set_cons_zero, List.set_cons_succ]
            refine wpAnyH_take (i := 3) (oi := ⟨_, _, _, _, _, _⟩) (v := ?_) rfl (by kernel_rfl) (by kernel_rfl) (by kernel_rfl) (fun _ _ _ h => h) (Or.inl ⟨by rfl, ?_⟩) (by assumption) ?_
            rotate_left
            · intro W hSW; go_simp; try with_reducible rfl
            try simp only [Act.put, List.setIfInBounds_toArray, List.set_cons_zero, List.set_cons_succ]
            refine wpAnyH_take (i := 4) (oi := ⟨_, _, _, _, _, _⟩) (v := ?_) rfl (by kernel_rfl) (by kernel_rfl) (by kernel_rfl) (fun _ _ _ h => h) (Or.inl ⟨by rfl, ?_⟩) (by assumption) ?_
            rotate_left
            · intro W hSW; go_simp; rw [if_pos (by omega)]; first | done | (go_simp; done) | (with_reducible rfl) | (try go_simp; rw [hwb])
            try simp only [Act.put, List.setIfInBounds_toArray, List.set_cons_zero, List.set_cons_succ]
            refine wpAnyH_take (i := 5) (oi := ⟨_, _, _, _, _, _⟩) (v := ?_) rfl (by kernel_rfl) (by kernel_rfl) (by kernel_rfl) (fun _ _ _ h => h) (Or.inl ⟨by rfl, ?_⟩) (by assumption) ?_
            rotate_left
            · intro W hSW; have hcq := hSW.1.cell Hy.out; go_simp; try with_reducible rfl
            try simp only [Act.put, List.setIfInBounds_toArray, List.set_cons_zero, List.set_cons_succ]
            refine wpAnyH_take (i := 6) (oi := ⟨_, _, _, _, _, _⟩) (v := ?_) rfl (by kernel_rfl) (by kernel_rfl) (by kernel_rfl) (fun _ _ _ h => h) (Or.inl ⟨by rfl, ?_⟩) (by assumption) ?_
            rotate_left
            · intro W hSW; go_simp; try with_reducible rfl
            try simp only [Act.put, List.setIfInBounds_toArray, List.set_cons_zero, List.set_cons_succ]
            refine wpAnyH_ready (rs := [1, 7]) (by kernel_rfl) (by simp) ?_
            refine AllReadyH.cons (o := ⟨_, _, _, _, _, _⟩) rfl (fun K hK => ?_) (AllReadyH.cons (o := ⟨_, _, _, _, _, _⟩) rfl (fun K hK => ?_) AllReadyH.nil)
            · have hcq := hcq0
              go_simp
              refine hK.out _ _ ⟨hTd.box, hTd.low⟩ (fun hHeld => ?_)
              try clear hQ2
              clear hK K
              try simp only [Act.put, List.setIfInBounds_toArray, List.set_cons_zero, List.set_cons_succ]
              refine wpAnyH_ready (rs := [7]) (by kernel_rfl) (by simp) ?_
              refine AllReadyH.cons (o := ⟨_, _, _, _, _, _⟩) rfl (fun K hK => ?_) AllReadyH.nil
              have hT1 := hTd.alloc (.cells #[.int .i64 s] 3)
              have hrl : RowV (wd.alloc (.cells #[.int .i64 s] 3)) wd.heap.size 3 [.int .i64 s] := RowV.new wd 3 _
              have ho1 := ho.alloc (.cells #[.int .i64 s] 3)
              go_simp
              refine hK.out _ _ ⟨hT1.box, hT1.low⟩ (fun hHeld => ?_)
              try clear hQ2
              clear hK K
              try simp only [Act.put, List.setIfInBounds_toArray, List.set_cons_zero, List.set_cons_succ]
              refine wpAnyH_ready (rs := [8]) (by kernel_rfl) (by simp) ?_
              refine AllReadyH.cons (o := ⟨_, _, _, _, _, _⟩) rfl (fun K hK => ?_) AllReadyH.nil
              refine step_of_list rfl (fun Q2 hQ2 => ?_)
              refine wpList_append_one rfl _ _ 23 rfl (M + 1) 3 Try.underlying23 Try.infoI14 rfl (by decide) _ ls.length (slv ls) rfl hT1.own wd.heap.size [.int .i64 s] rfl hrl rfl (by intro u hu; simp at hu; subst hu; rfl) (by unfold maxLen; omega) (by omega) hT1.size ?_
              intro v2 w6 own6 hg6 _
              refine wpList_nil (hQ2 _ _ ?_)
              obtain ⟨A2, c2, rfl, _, _⟩ := own_slice own6
              have hT6 := hT1.app ho1 hg6 own6
              refine hK.out _ _ ⟨hT6.box, hT6.low⟩ (fun hHeld => ?_)
              try clear hQ2
              clear hK K
              try simp only [Act.put, List.setIfInBounds_toArray, List.set_cons_zero, List.set_cons_succ]
              refine wpAnyH_take (i := 9) (oi := ⟨_, _, _, _, _, _⟩) (v := ?_) rfl (by kernel_rfl) (by kernel_rfl) (by kernel_rfl) (fun _ _ _ h => h) (Or.inl ⟨by rfl, ?_⟩) (by assumption) ?_
              rotate_left
              · intro W hSW; go_simp; try with_reducible rfl
              try simp only [Act.put, List.setIfInBounds_toArray, List.set_cons_zero, List.set_cons_succ]
              refine wpAnyH_ready (rs := [10]) (by kernel_rfl) (by simp) ?_
              refine AllReadyH.cons (o := ⟨_, _, _, _, _, _⟩) rfl (fun K hK => ?_) AllReadyH.nil
              refine step_of_list rfl (fun Q2 hQ2 => ?_)
              refine store_slots rfl _ _ rfl M A2 (ls ++ [s]) c2 rfl (by rw [List.length_append]; rfl) hT6.old ?_
              intro w7 hr7 hg7 hs7
              refine wpList_nil (hQ2 _ _ ?_)
              have hT7 := hT6.sto hr7 hg7
              refine hK.out _ _ ⟨hT7.box, hT7.low⟩ (fun hHeld => ?_)
              try clear hQ2
              clear hK K
              try simp only [Act.put, List.setIfInBounds_toArray, List.set_cons_zero, List.set_cons_succ]
              refine wpAnyH_done (by kernel_rfl) ?_ _
              have HT7 : Hid (∃ A' c', GtMid w N M x (.slice A' (ls.length + 1) c') (slotsAt x.1 (ls.length + 1)) ⟨adrK x 32, n1, slotsAt x.1 (ls.length + 1), n2⟩ A' c' w7) := by
                show ∃ _, _
                rw [Hst.out]
                exact ⟨A2, c2, hT7⟩
              clear hT7 hT6 hT1 hTd ho1 ho hrl hg6 own6 hr7 hg7 hs7 hHeld HT
              go_wp2_with fail
              go_roundw
              all_goals first
                | (simp [intOf]; omega)
                | exact ⟨ls.length + 1, by omega, by omega, by go_num, HT7⟩
            · have hT1 := hTd.alloc (.cells #[.int .i64 s] 3)
              have hrl : RowV (wd.alloc (.cells #[.int .i64 s] 3)) wd.heap.size 3 [.int .i64 s] := RowV.new wd 3 _
              have ho1 := ho.alloc (.cells #[.int .i64 s] 3)
              go_simp
              refine hK.out _ _ ⟨hT1.box, hT1.low⟩ (fun hHeld => ?_)
              try clear hQ2
              clear hK K
              try simp only [Act.put, List.setIfInBounds_toArray, List.set_cons_zero, List.set_cons_succ]
              refine wpAnyH_ready (rs := [1]) (by kernel_rfl) (by simp) ?_
              refine AllReadyH.cons (o := ⟨_, _, _, _, _, _⟩) rfl (fun K hK => ?_) AllReadyH.nil
              have hcq := tx_slots ho1
              go_simp
              refine hK.out _ _ ⟨hT1.box, hT1.low⟩ (fun hHeld => ?_)
              try clear hQ2
              clear hK K
              try simp only [Act.put, List.setIfInBounds_toArray, List.set_cons_zero, List.set_cons_succ]
              refine wpAnyH_ready (rs := [8]) (by kernel_rfl) (by simp) ?_
              refine AllReadyH.cons (o := ⟨_, _, _, _, _, _⟩) rfl (fun K hK => ?_) AllReadyH.nil
              refine step_of_list rfl (fun Q2 hQ2 => ?_)
              refine wpList_append_one rfl _ _ 23 rfl (M + 1) 3 Try.underlying23 Try.infoI14 rfl (by decide) _ ls.length (slv ls) rfl hT1.own wd.heap.size [.int .i64 s] rfl hrl rfl (by intro u hu; simp at hu; subst hu; rfl) (by unfold maxLen; omega) (by omega) hT1.size ?_
              intro v2 w6 own6 hg6 _
              refine wpList_nil (hQ2 _ _ ?_)
              obtain ⟨A2, c2, rfl, _, _⟩ := own_slice own6
              have hT6 := hT1.app ho1 hg6 own6
              refine hK.out _ _ ⟨hT6.box, hT6.low⟩ (fun hHeld => ?_)
              try clear hQ2
              clear hK K
              try simp only [Act.put, List.setIfInBounds_toArray, List.set_cons_zero, List.set_cons_succ]
              refine wpAnyH_take (i := 9) (oi := ⟨_, _, _, _, _, _⟩) (v := ?_) rfl (by kernel_rfl) (by kernel_rfl) (by kernel_rfl) (fun _ _ _ h => h) (Or.inl ⟨by rfl, ?_⟩) (by assumption) ?_
              rotate_left
              · intro W hSW; go_simp; try with_reducible rfl
              try simp only [Act.put, List.setIfInBounds_toArray, List.set_cons_zero, List.set_cons_succ]
              refine wpAnyH_ready (rs := [10]) (by kernel_rfl) (by simp) ?_
              refine AllReadyH.cons (o := ⟨_, _, _, _, _, _⟩) rfl (fun K hK => ?_) AllReadyH.nil
              refine step_of_list rfl (fun Q2 hQ2 => ?_)
              refine store_slots rfl _ _ rfl M A2 (ls ++ [s]) c2 rfl (by rw [List.length_append]; rfl) hT6.old ?_
              intro w7 hr7 hg7 hs7
              refine wpList_nil (hQ2 _ _ ?_)
              have hT7 := hT6.sto hr7 hg7
              refine hK.out _ _ ⟨hT7.box, hT7.low⟩ (fun hHeld => ?_)
              try clear hQ2
              clear hK K
              try simp only [Act.put, List.setIfInBounds_toArray, List.set_cons_zero, List.set_cons_succ]
              refine wpAnyH_done (by kernel_rfl) ?_ _
              have HT7 : Hid (∃ A' c', GtMid w N M x (.slice A' (ls.length + 1) c') (slotsAt x.1 (ls.length + 1)) ⟨adrK x 32, n1, slotsAt x.1 (ls.length + 1), n2⟩ A' c' w7) := by
                show ∃ _, _
                rw [Hst.out]
                exact ⟨A2, c2, hT7⟩
              clear hT7 hT6 hT1 hTd ho1 ho hrl hg6 own6 hr7 hg7 hs7 hHeld HT
              go_wp2_with fail
              go_roundw
              all_goals first
                | (simp [intOf]; omega)
                | exact ⟨ls.length + 1, by omega, by omega, by go_num, HT7⟩
          · have hk : k = min q 9 := by omega
            have HF : Hid (candL x = ⟨adrK x 32, n1, slotsAt x.1 k, n2⟩) := by
              show _ = _
              rw [hk, ← Hqc.out, ← H36.out, ← H38.out, adrK_all]
              rfl
            obtain ⟨F, hF⟩ : ∃ F : Tx, F = ⟨adrK x 32, n1, slotsAt x.1 k, n2⟩ := ⟨_, rfl⟩
            have hls : slotsAt x.1 k = F.slots := by rw [hF]
            have hll : F.slots.length = k := by rw [← hls, slotsAt_length]
            rw [← hF] at HF
            have hold : RowV wr M 25 (txc F A1 c1) := by rw [hF]; exact hT.old
            have hx5 := hT.box
            have hr5 := hT.res
            have hB5 := hT.low
            have hown := hT.own
            rw [hls, hll] at hown
            have Hm := Lib.hid hll
            have hMl5 := hold.lt
            clear hF hT HT hls hll
            have hl5 := own_lies hown
            have HO5 := Lib.hid hown
            clear hown
            by_cases hq2 : k < q
            · skip
              go_wp2_with ((with_reducible refine at_load 25 ?_); refine load_tx rfl _ rfl M rfl hold ?_)
              refine (rput14_any wr wr.heap.size F A1 c1 hl5 (Nat.le_refl _)).mono ?_
              rintro e w6 ⟨rfl, hb6⟩
              have hx6 := hx5.below hx5.lt hb6
              have hr6 := hr5.below hr5.lt hb6
              have HO6 := Lib.hid (own_below14 HO5.out hb6)
              have hM6 := hold.below hMl5 hb6
              have hB6 : Below N w w6 := hB5.trans (hb6.mono (by omega))
              have hz6 : M < w6.heap.size := hM6.lt
              obtain ⟨P, hP⟩ : ∃ P, putS14 F = P := ⟨_, rfl⟩
              obtain ⟨cd, hcd⟩ : ∃ cd, checkL F 200 = cd := ⟨_, rfl⟩
              have HP := Lib.hid hP
              have Hcd := Lib.hid hcd
              rw [hP, hcd]
              clear hx5 hr5 hB5 hold hMl5 hb6 hP hcd hl5 HO5
              go_wp2_with ((with_reducible refine at_alloc 28 ?_); refine alloc_sec rfl rfl ?_)
              intro w7 hY7 hb7 hs7
              have hx7 := hx6.below hx6.lt hb7
              have hr7 := hr6.below hr6.lt hb7
              have HO7 := Lib.hid (own_below14 HO6.out hb7)
              have hM7 := hM6.below hz6 hb7
              have hB7 : Below N w w7 := hB6.trans (hb7.mono (by omega))
              have hYn : ∀ j, Value.ownBlock (.slice A1 k c1) = some j → j ≠ w6.heap.size := fun j e => by have := (HO6.out.lt j e).2; omega
              obtain ⟨Y, hY⟩ : ∃ Y, w6.heap.size = Y := ⟨_, rfl⟩
              rw [hY] at hY7 hz6 hs7 hYn ⊢
              clear hx6 hr6 HO6 hM6 hB6 hb7 hY
              have Hn := Lib.hid hYn
              clear hYn
              go_wp2_with ((with_reducible refine at_store 28 ?_); refine store_sec rfl _ _ rfl Y P rfl rfl hY7 (Sec.cs_length _) ?_)
              intro w8 hY8 hg8 hs8
              have hx8 := hx7.keep hg8 (fun e => by injection e with e; omega)
              have hr8 := hr7.keep hg8 (fun e => by injection e with e; omega)
              have HO8 := Lib.hid (HO7.out.kept hg8 (.inr (fun e => Hn.out _ e rfl)))
              have hM8 := hM7.keep hg8 (fun e => by injection e with e; omega)
              have hB8 := below_grown hB7 hg8 (by omega) (by omega)
              have hz8 : Y < w8.heap.size := by omega
              clear hx7 hr7 HO7 hM7 hB7 hY7 hg8 hs8 hs7
              by_cases hc0 : cd = 0
              rotate_left
              · have Hg := Lib.hid (okL_none (n := n) Hx0.out (getL_cnot (fun h => hc0 (by rw [← Hcd.out, ← HF.out]; exact h.1))))
                go_wp2_with first
                  | ((with_reducible refine at_loadG 28 ?_); refine load_secG (by rfl) _ rfl Y rfl hY8 ?_)
                  | ((with_reducible refine at_loadG 28 ?_); refine load_secG (by rfl) _ rfl N rfl hx8 ?_)
                  | ((with_reducible refine at_neqG 28 ?_); refine neq_secG (by rfl) _ _ _ rfl P x rfl rfl ?_)
                  | ((with_reducible refine at_store 25 ?_); refine store_tx rfl _ _ rfl (N + 1) tx0 none 0 rfl rfl hr8 (txc_length _ _ _) ?_)
                intro w11 hr11 hg11 hs11
                go_wp2_with fail
                exact bodyPost_ret (results_cell_tmp2 (fn := Try.f18) rfl _ _ (N + 1) 25 _ (0, 0) _ rfl _ rfl _ rfl hr11 Try.underlying25 rfl (txc_info' _ _ _)) rfl ⟨none, 0, by rw [Hg.out.1, Hg.out.2.1, Hg.out.2.2]; rfl, by rw [Hg.out.1]; exact LiesV.nil _ _ _, by rw [hN]; exact below_grown hB8 hg11 (by omega) (by omega)⟩
              subst hc0
              have HP2 : Hid (leafS F = P) := by show _ = _; rw [← HP.out, putS14_yes Hcd.out]
              by_cases hpx : P = x
              rotate_left
              · have Hg := Lib.hid (okL_none (n := n) Hx0.out (getL_cnot (fun h => hpx (by rw [← HP2.out, ← HF.out]; exact h.2.1))))
                have hpd := decide_eq_false hpx
                clear hpx
                go_wp2_with first
                  | ((with_reducible refine at_loadG 28 ?_); refine load_secG (by rfl) _ rfl Y rfl hY8 ?_)
                  | ((with_reducible refine at_loadG 28 ?_); refine load_secG (by rfl) _ rfl N rfl hx8 ?_)
                  | ((with_reducible refine at_neqG 28 ?_); refine neq_secG (by rfl) _ _ _ rfl P x rfl rfl ?_)
                  | ((with_reducible refine at_store 25 ?_); refine store_tx rfl _ _ rfl (N + 1) tx0 none 0 rfl rfl hr8 (txc_length _ _ _) ?_)
                intro w11 hr11 hg11 hs11
                go_wp2_with fail
                exact bodyPost_ret (results_cell_tmp2 (fn := Try.f18) rfl _ _ (N + 1) 25 _ (0, 0) _ rfl _ rfl _ rfl hr11 Try.underlying25 rfl (txc_info' _ _ _)) rfl ⟨none, 0, by rw [Hg.out.1, Hg.out.2.1, Hg.out.2.2]; rfl, by rw [Hg.out.1]; exact LiesV.nil _ _ _, by rw [hN]; exact below_grown hB8 hg11 (by omega) (by omega)⟩
              have hpd := decide_eq_true hpx
              have Hpx := Lib.hid hpx
              clear hpx
              go_wp2_with first
                | ((with_reducible refine at_loadG 28 ?_); refine load_secG (by rfl) _ rfl Y rfl hY8 ?_)
                | ((with_reducible refine at_loadG 28 ?_); refine load_secG (by rfl) _ rfl N rfl hx8 ?_)
                | ((with_reducible refine at_neqG 28 ?_); refine neq_secG (by rfl) _ _ _ rfl P x rfl rfl ?_)
                | ((with_reducible refine at_loadGR 25 ?_); refine load_txG (by rfl) _ rfl M rfl hM8 ?_)
              refine (rcheck14_any w8 w8.heap.size F A1 c1 n (own_lies HO8.out) (Nat.le_refl _)).mono ?_
              rintro e w9 ⟨rfl, hb9⟩
              have hr9 := hr8.below hr8.lt hb9
              have HO9 := Lib.hid (own_below14 HO8.out hb9)
              have hM9 := hM8.below hM8.lt hb9
              have hB9 : Below N w w9 := hB8.trans (hb9.mono (by omega))
              have hz9 : Y < w9.heap.size := by have := hb9.size; omega
              obtain ⟨ce, hce⟩ : ∃ ce, checkL F n = ce := ⟨_, rfl⟩
              have Hce := Lib.hid hce
              rw [hce]
              clear hx8 hr8 HO8 hM8 hB8 hY8 hb9 hce
              by_cases hc1 : ce = 0
              · subst hc1
                have Hg := Lib.hid (okL_some (n := n) Hx0.out (getL_cand (x := x) (n := n) (by rw [HF.out]; exact Hcd.out) (by rw [HF.out, HP2.out]; exact Hpx.out) (by rw [HF.out]; exact Hce.out)))
                go_wp2_with first
                  | ((with_reducible refine at_load 25 ?_); refine load_tx rfl _ rfl M rfl hM9 ?_)
                  | ((with_reducible refine at_store 25 ?_); refine store_tx rfl _ _ rfl (N + 1) F A1 c1 rfl rfl hr9 (txc_length _ _ _) ?_)
                intro w11 hr11 hg11 hs11
                have hl11 := own_lies (HO9.out.kept hg11 (.inr (fun e => by have := own_ge HO9.out _ e; omega)))
                go_wp2_with fail
                exact bodyPost_ret (results_cell_tmp2 (fn := Try.f18) rfl _ _ (N + 1) 25 _ (0, 0) _ rfl _ rfl _ rfl hr11 Try.underlying25 rfl (txc_info' _ _ _)) rfl ⟨A1, c1, by rw [Hg.out.1, Hg.out.2.1, Hg.out.2.2, HF.out]; rfl, by rw [Hg.out.1, HF.out]; exact hl11, by rw [hN]; exact below_grown hB9 hg11 (by omega) (by omega)⟩
              · have Hg := Lib.hid (okL_none (n := n) Hx0.out (getL_cnot (fun h => hc1 (by rw [← Hce.out, ← HF.out]; exact h.2.2))))
                go_wp2_with ((with_reducible refine at_store 25 ?_); refine store_tx rfl _ _ rfl (N + 1) tx0 none 0 rfl rfl hr9 (txc_length _ _ _) ?_)
                intro w11 hr11 hg11 hs11
                go_wp2_with fail
                exact bodyPost_ret (results_cell_tmp2 (fn := Try.f18) rfl _ _ (N + 1) 25 _ (0, 0) _ rfl _ rfl _ rfl hr11 Try.underlying25 rfl (txc_info' _ _ _)) rfl ⟨none, 0, by rw [Hg.out.1, Hg.out.2.1, Hg.out.2.2]; rfl, by rw [Hg.out.1]; exact LiesV.nil _ _ _, by rw [hN]; exact below_grown hB9 hg11 (by omega) (by omega)⟩
            · skip
              go_wp2_with ((with_reducible refine at_load 25 ?_); refine load_tx rfl _ rfl M rfl hold ?_)
              refine (rput14_any wr wr.heap.size F A1 c1 hl5 (Nat.le_refl _)).mono ?_
              rintro e w6 ⟨rfl, hb6⟩
              have hx6 := hx5.below hx5.lt hb6
              have hr6 := hr5.below hr5.lt hb6
              have HO6 := Lib.hid (own_below14 HO5.out hb6)
              have hM6 := hold.below hMl5 hb6
              have hB6 : Below N w w6 := hB5.trans (hb6.mono (by omega))
              have hz6 : M < w6.heap.size := hM6.lt
              obtain ⟨P, hP⟩ : ∃ P, putS14 F = P := ⟨_, rfl⟩
              obtain ⟨cd, hcd⟩ : ∃ cd, checkL F 200 = cd := ⟨_, rfl⟩
              have HP := Lib.hid hP
              have Hcd := Lib.hid hcd
              rw [hP, hcd]
              clear hx5 hr5 hB5 hold hMl5 hb6 hP hcd hl5 HO5
              go_wp2_with ((with_reducible refine at_alloc 28 ?_); refine alloc_sec rfl rfl ?_)
              intro w7 hY7 hb7 hs7
              have hx7 := hx6.below hx6.lt hb7
              have hr7 := hr6.below hr6.lt hb7
              have HO7 := Lib.hid (own_below14 HO6.out hb7)
              have hM7 := hM6.below hz6 hb7
              have hB7 : Below N w w7 := hB6.trans (hb7.mono (by omega))
              have hYn : ∀ j, Value.ownBlock (.slice A1 k c1) = some j → j ≠ w6.heap.size := fun j e => by have := (HO6.out.lt j e).2; omega
              obtain ⟨Y, hY⟩ : ∃ Y, w6.heap.size = Y := ⟨_, rfl⟩
              rw [hY] at hY7 hz6 hs7 hYn ⊢
              clear hx6 hr6 HO6 hM6 hB6 hb7 hY
              have Hn := Lib.hid hYn
              clear hYn
              go_wp2_with ((with_reducible refine at_store 28 ?_); refine store_sec rfl _ _ rfl Y P rfl rfl hY7 (Sec.cs_length _) ?_)
              intro w8 hY8 hg8 hs8
              have hx8 := hx7.keep hg8 (fun e => by injection e with e; omega)
              have hr8 := hr7.keep hg8 (fun e => by injection e with e; omega)
              have HO8 := Lib.hid (HO7.out.kept hg8 (.inr (fun e => Hn.out _ e rfl)))
              have hM8 := hM7.keep hg8 (fun e => by injection e with e; omega)
              have hB8 := below_grown hB7 hg8 (by omega) (by omega)
              have hz8 : Y < w8.heap.size := by omega
              clear hx7 hr7 HO7 hM7 hB7 hY7 hg8 hs8 hs7
              by_cases hc0 : cd = 0
              rotate_left
              · have Hg := Lib.hid (okL_none (n := n) Hx0.out (getL_cnot (fun h => hc0 (by rw [← Hcd.out, ← HF.out]; exact h.1))))
                go_wp2_with first
                  | ((with_reducible refine at_loadG 28 ?_); refine load_secG (by rfl) _ rfl Y rfl hY8 ?_)
                  | ((with_reducible refine at_loadG 28 ?_); refine load_secG (by rfl) _ rfl N rfl hx8 ?_)
                  | ((with_reducible refine at_neqG 28 ?_); refine neq_secG (by rfl) _ _ _ rfl P x rfl rfl ?_)
                  | ((with_reducible refine at_store 25 ?_); refine store_tx rfl _ _ rfl (N + 1) tx0 none 0 rfl rfl hr8 (txc_length _ _ _) ?_)
                intro w11 hr11 hg11 hs11
                go_wp2_with fail
                exact bodyPost_ret (results_cell_tmp2 (fn := Try.f18) rfl _ _ (N + 1) 25 _ (0, 0) _ rfl _ rfl _ rfl hr11 Try.underlying25 rfl (txc_info' _ _ _)) rfl ⟨none, 0, by rw [Hg.out.1, Hg.out.2.1, Hg.out.2.2]; rfl, by rw [Hg.out.1]; exact LiesV.nil _ _ _, by rw [hN]; exact below_grown hB8 hg11 (by omega) (by omega)⟩
              subst hc0
              have HP2 : Hid (leafS F = P) := by show _ = _; rw [← HP.out, putS14_yes Hcd.out]
              by_cases hpx : P = x
              rotate_left
              · have Hg := Lib.hid (okL_none (n := n) Hx0.out (getL_cnot (fun h => hpx (by rw [← HP2.out, ← HF.out]; exact h.2.1))))
                have hpd := decide_eq_false hpx
                clear hpx
                go_wp2_with first
                  | ((with_reducible refine at_loadG 28 ?_); refine load_secG (by rfl) _ rfl Y rfl hY8 ?_)
                  | ((with_reducible refine at_loadG 28 ?_); refine load_secG (by rfl) _ rfl N rfl hx8 ?_)
                  | ((with_reducible refine at_neqG 28 ?_); refine neq_secG (by rfl) _ _ _ rfl P x rfl rfl ?_)
                  | ((with_reducible refine at_store 25 ?_); refine store_tx rfl _ _ rfl (N + 1) tx0 none 0 rfl rfl hr8 (txc_length _ _ _) ?_)
                intro w11 hr11 hg11 hs11
                go_wp2_with fail
                exact bodyPost_ret (results_cell_tmp2 (fn := Try.f18) rfl _ _ (N + 1) 25 _ (0, 0) _ rfl _ rfl _ rfl hr11 Try.underlying25 rfl (txc_info' _ _ _)) rfl ⟨none, 0, by rw [Hg.out.1, Hg.out.2.1, Hg.out.2.2]; rfl, by rw [Hg.out.1]; exact LiesV.nil _ _ _, by rw [hN]; exact below_grown hB8 hg11 (by omega) (by omega)⟩
              have hpd := decide_eq_true hpx
              have Hpx := Lib.hid hpx
              clear hpx
              go_wp2_with first
                | ((with_reducible refine at_loadG 28 ?_); refine load_secG (by rfl) _ rfl Y rfl hY8 ?_)
                | ((with_reducible refine at_loadG 28 ?_); refine load_secG (by rfl) _ rfl N rfl hx8 ?_)
                | ((with_reducible refine at_neqG 28 ?_); refine neq_secG (by rfl) _ _ _ rfl P x rfl rfl ?_)
                | ((with_reducible refine at_loadGR 25 ?_); refine load_txG (by rfl) _ rfl M rfl hM8 ?_)
              refine (rcheck14_any w8 w8.heap.size F A1 c1 n (own_lies HO8.out) (Nat.le_refl _)).mono ?_
              rintro e w9 ⟨rfl, hb9⟩
              have hr9 := hr8.below hr8.lt hb9
              have HO9 := Lib.hid (own_below14 HO8.out hb9)
              have hM9 := hM8.below hM8.lt hb9
              have hB9 : Below N w w9 := hB8.trans (hb9.mono (by omega))
              have hz9 : Y < w9.heap.size := by have := hb9.size; omega
              obtain ⟨ce, hce⟩ : ∃ ce, checkL F n = ce := ⟨_, rfl⟩
              have Hce := Lib.hid hce
              rw [hce]
              clear hx8 hr8 HO8 hM8 hB8 hY8 hb9 hce
              by_cases hc1 : ce = 0
              · subst hc1
                have Hg := Lib.hid (okL_some (n := n) Hx0.out (getL_cand (x := x) (n := n) (by rw [HF.out]; exact Hcd.out) (by rw [HF.out, HP2.out]; exact Hpx.out) (by rw [HF.out]; exact Hce.out)))
                go_wp2_with first
                  | ((with_reducible refine at_load 25 ?_); refine load_tx rfl _ rfl M rfl hM9 ?_)
                  | ((with_reducible refine at_store 25 ?_); refine store_tx rfl _ _ rfl (N + 1) F A1 c1 rfl rfl hr9 (txc_length _ _ _) ?_)
                intro w11 hr11 hg11 hs11
                have hl11 := own_lies (HO9.out.kept hg11 (.inr (fun e => by have := own_ge HO9.out _ e; omega)))
                go_wp2_with fail
                exact bodyPost_ret (results_cell_tmp2 (fn := Try.f18) rfl _ _ (N + 1) 25 _ (0, 0) _ rfl _ rfl _ rfl hr11 Try.underlying25 rfl (txc_info' _ _ _)) rfl ⟨A1, c1, by rw [Hg.out.1, Hg.out.2.1, Hg.out.2.2, HF.out]; rfl, by rw [Hg.out.1, HF.out]; exact hl11, by rw [hN]; exact below_grown hB9 hg11 (by omega) (by omega)⟩
              · have Hg := Lib.hid (okL_none (n := n) Hx0.out (getL_cnot (fun h => hc1 (by rw [← Hce.out, ← HF.out]; exact h.2.2))))
                go_wp2_with ((with_reducible refine at_store 25 ?_); refine store_tx rfl _ _ rfl (N + 1) tx0 none 0 rfl rfl hr9 (txc_length _ _ _) ?_)
                intro w11 hr11 hg11 hs11
                go_wp2_with fail
                exact bodyPost_ret (results_cell_tmp2 (fn := Try.f18) rfl _ _ (N + 1) 25 _ (0, 0) _ rfl _ rfl _ rfl hr11 Try.underlying25 rfl (txc_info' _ _ _)) rfl ⟨none, 0, by rw [Hg.out.1, Hg.out.2.1, Hg.out.2.2]; rfl, by rw [Hg.out.1]; exact LiesV.nil _ _ _, by rw [hN]; exact below_grown hB9 hg11 (by omega) (by omega)⟩
end Go.Proofs.Ytkfhbngphkobfaa
