/-
  Layer 10: the walk of SlotmapBack.
-/
import Derived.Test.YticlbefbnfnlmaaPkSlmX
import Derived.Test.YticlbefbnfnlmaaPkSlmU
import Derived.Deep.RegionHeld3
namespace Go.Proofs.Yticlbefbnfnlmaa
open Go.RowKit
set_option linter.unusedVariables false
set_option linter.unusedSimpArgs false

set_option maxRecDepth 100000 in
set_option maxHeartbeats 4000000 in
theorem back10_any (w : World) (B : Nat) (A : Option Addr) (len cap : Nat) (xs : List UInt8) (x0 : Sec) (n : Int) (h : Lies w B A xs) (hl : len = xs.length) (hB : B ≤ w.heap.size) :
    Calls Try.prog 4 #[.slice A len cap, .agg x0.cs.toArray, .int .i64 n] w fun e w' => e = .returned (.bool true) ∧ Below w.heap.size w w' := by
  have Hh := Lib.hid h
  have Hlen := Lib.hid hl
  clear h hl
  obtain ⟨N, hN⟩ : ∃ N, w.heap.size = N := ⟨_, rfl⟩
  go_enter Try.func4, Try.ntmps4
  go_wp2_with ((with_reducible refine at_box 42 ?_); refine wpList_box_rowV rfl 42 _ rfl x0.cs rfl ?_)
  intro w0 hr0 hb0 hs0
  have Hfin : Hid (∀ W W' : World, Below N w W → N ≤ W.heap.size → Below W.heap.size W W' → Below w.heap.size w W') := fun W W' h1 h2 h3 => by rw [hN]; exact h1.trans (h3.mono h2)
  rw [hN] at hB
  try rw [hN] at hr0 hb0 hs0
  by_cases hbad : len < 1 ∨ 200 < len ∨ 250 < n
  · by_cases hb1 : len < 1
    · go_wp2_with fail
      refine (works10_any w0).mono ?_
      rintro e w1 ⟨rfl, hb1⟩
      have h9 := Hfin.out w0 w1 hb0 (by omega) hb1
      go_wp2_with fail
      go_ret
      exact ⟨rfl, h9⟩
    · by_cases hb2 : 200 < len
      · go_wp2_with fail
        refine (works10_any w0).mono ?_
        rintro e w1 ⟨rfl, hb1⟩
        have h9 := Hfin.out w0 w1 hb0 (by omega) hb1
        go_wp2_with fail
        go_ret
        exact ⟨rfl, h9⟩
      · have hb3 : 250 < n := by omega
        go_wp2_with fail
        refine (works10_any w0).mono ?_
        rintro e w1 ⟨rfl, hb1⟩
        have h9 := Hfin.out w0 w1 hb0 (by omega) hb1
        go_wp2_with fail
        go_ret
        exact ⟨rfl, h9⟩
  · have h1 : 1 ≤ len := by omega
    have h2 : len ≤ 200 := by omega
    have h3 : n ≤ 250 := by omega
    clear hbad
    go_wp2_with fail
    refine (snew_any w0 (len : Int)).mono ?_
    rintro e w1 hv
    unfold NewV at hv
    rw [if_pos (by omega), Int.toNat_natCast] at hv
    obtain ⟨b, g, c, rfl, hm1, hb, hg, hb1⟩ := hv
    have hx1 := hr0.below (by omega) hb1
    have HM : Hid (MapAt w1 b g c (lay10 xs 0)) := by rw [lay10_zero, ← Hlen.out]; exact hm1
    have HX := Lib.hid hx1
    have HB := Lib.hid (hb0.trans (hb1.mono (by omega)))
    have HZ : Hid (N + 1 ≤ w1.heap.size) := by have := hm1.blt; show _ ≤ _; omega
    have HR : Hid (w1.ownsRow (N + 1) 3 1 (.slice none 0 0) 0 (nums (modS (xs.take 0)))) := World.ownsRow_nil _ _ _ _
    have hb' : N + 1 ≤ b := by omega
    have hg' : N + 1 ≤ g := by omega
    clear hm1 hb1 hb0 hr0 hs0 hx1 hb hg
    go_wp2_with fail
    go_loopw [9, 10] (fun v9 v10 W => ∃ k : Nat, k ≤ len ∧ v10 = .int .i64 k ∧ Hid (MapAt W b g c (lay10 xs k)) ∧ Hid (W.ownsRow (N + 1) 3 1 v9 k (nums (modS (xs.take k)))) ∧ Hid (RowV W N 42 x0.cs) ∧ Hid (Below N w W) ∧ Hid (N + 1 ≤ W.heap.size)) (fun _ v _ => len - (intOf v).toNat)
    case atStart => exact ⟨0, Nat.zero_le _, rfl, HM, HR, HX, HB, HZ⟩
    case round =>
      obtain ⟨k, hk, rfl, HM1, HR1, HX1, HB1, HZ1⟩ := hrel
      clear HM HR HX HB HZ
      by_cases hlt : k < len
      · have hlt' : (k : Int) < (len : Int) := by omega
        obtain ⟨x, hx⟩ : ∃ x, xs[k]? = some x := ⟨_, List.getElem?_eq_getElem (by rw [← Hlen.out]; exact hlt)⟩
        obtain ⟨p, o, hA, hpB, hc1⟩ := lies_at10 (Hh.out.below (HB1.out.mono hB)) hx
        subst hA
        have hx256 := x.toNat_lt
        have HL := Lib.hid (lay10_set hx)
        have Hmt := Lib.hid (modS_take hx)
        have Hm3 := Lib.hid (mod3_nat x)
        clear hx
        obtain ⟨y, hy⟩ : ∃ y, x.toNat = y := ⟨_, rfl⟩
        obtain ⟨z, hz⟩ : ∃ z, y % 3 = z := ⟨_, rfl⟩
        rw [hy] at hc1 hx256 HL Hm3
        rw [hz] at HL Hm3
        have d1 : (y : Int) % 3 = (z : Int) := by omega
        have hz3 : z < 3 := by omega
        clear hy hz
        go_wp2_with fail
        refine (sset_any wr b g c _ HM1.out (k : Int) (z : Int)).mono ?_
        rintro e w2 ⟨rfl, hm2, hg2, hs2⟩
        rw [HL.out.1] at hm2
        rw [HL.out.2]
        have hc2 : w2.cell? ⟨p, o + k, none⟩ = some (.int .u8 (y : Int)) := by
          have : w2.heap[p]? = wr.heap[p]? := hg2.block p (by have := HZ1.out; omega) (fun e => by injection e with e; omega)
          rw [World.cell?_of_block this]
          exact hc1
        have hz1 := HZ1.out
        have hr2 : w2.ownsRow (N + 1) 3 1 u9 k (nums (modS (xs.take k))) := HR1.out.kept hg2 (by
          cases hq : u9.ownBlock with
          | none => exact .inl rfl
          | some j => exact .inr (fun e => own_apart (own_rebase (base' := 0) HR1.out (fun _ _ => Nat.zero_le _)) HM1.out.row (by decide) hq e.symm))
        have hM2 := Lib.hid hm2
        have hB2 := Lib.hid (HB1.out.grown hg2 (by omega) (fun k e => by injection e with e; omega))
        have hz2 : N + 1 ≤ w2.heap.size := by omega
        have hX2 := Lib.hid (HX1.out.keep hg2 (fun e => by injection e with e; omega))
        clear hm2 hg2 hs2 HM1 HR1 HB1 HZ1 HL hc1 hz1 HX1
        have ho1 := hr2.alloc (.cells #[.int .i64 (z : Int)] 3)
        have rl : RowV (w2.alloc (.cells #[.int .i64 (z : Int)] 3)) w2.heap.size 3 [.int .i64 (z : Int)] := RowV.new w2 3 _
        have hza : N + 1 ≤ (w2.alloc (.cells #[.int .i64 (z : Int)] 3)).heap.size := by simp; omega
        go_wp2_with (at_builtin; refine wpList_append_one rfl _ _ 28 rfl (N + 1) 3 Try.underlying28 Try.infoI10 rfl (by decide) _ _ _ rfl ho1 w2.heap.size [.int .i64 (z : Int)] rfl rl rfl (by simp [Value.oneCell']) (by unfold maxLen; omega) (by omega) hza ?_)
        intro v' w3 ho3 hg3 _
        have e3 : nums (modS (xs.take k)) ++ [Value.int .i64 (z : Int)] = nums (modS (xs.take (k + 1))) := by
          rw [Hmt.out, nums_snoc, Hm3.out]
        rw [e3] at ho3
        have HR3 := Lib.hid ho3
        have HM3 := Lib.hid ((hM2.out.later ((Below.refl _ w2).alloc (Nat.le_refl _) (.cells #[.int .i64 (z : Int)] 3))).keep hg3 (fun e => by
            have h5 : One (w2.alloc (.cells #[.int .i64 (z : Int)] 3)) b _ 51 := hM2.out.ptr.alloc _
            exact own_row_apart (t := 51) (cs := [_]) ho1 h5 (by decide) e) (fun e => own_apart (own_rebase (base' := 0) ho1 (fun _ _ => Nat.zero_le _)) (hM2.out.row.alloc _) (by decide) e rfl))
        have HX3 := Lib.hid ((hX2.out.alloc (.cells #[.int .i64 (z : Int)] 3)).keep hg3 (fun e => by have := own_ge ho1 _ e; omega))
        have HB3 := Lib.hid ((hB2.out.alloc (by omega) (.cells #[.int .i64 (z : Int)] 3)).grown hg3 (by omega) (fun j e => by have := own_ge ho1 j e; omega))
        have HZ3 : Hid (N + 1 ≤ w3.heap.size) := by have := hg3.size; show _ ≤ _; omega
        clear hX2 ho1 rl hza ho3 hg3 e3 hr2 hM2 hB2 hz2 hc2 d1 Hmt Hm3
        go_wp2_with fail
        go_roundw
        case rel => exact ⟨k + 1, by omega, by go_num, HM3, HR3, HX3, HB3, HZ3⟩
        case measure => simp [intOf]; omega
      · obtain rfl : k = len := by omega
        have HM2 : Hid (MapAt wr b g c (modS xs)) := by rw [← lay10_all, ← Hlen.out]; exact HM1.out
        have HR2 : Hid (NumsAt wr u9 (modS xs)) := by
          have := HR1.out
          rw [List.take_of_length_le (by rw [Hlen.out]; exact Nat.le_refl _)] at this
          show World.ownsRow _ _ _ _ _ _ _
          rw [modS_length, ← Hlen.out]
          exact own_rebase (base' := 0) this (fun _ _ => Nat.zero_le _)
        have hok := modS_ok xs
        obtain ⟨ss, hss⟩ : ∃ ss, modS xs = ss := ⟨_, rfl⟩
        have Hsl : Hid (ss.length = k) := by show _ = _; rw [← hss, modS_length, Hlen.out]
        rw [hss] at HM2 HR2 hok
        clear hss HM1 HR1 hk hlt
        obtain ⟨gr, cr, hv9, hcr, _⟩ := HR2.out.form (by rw [Hsl.out]; omega)
        rw [Hsl.out] at hv9 hcr
        subst hv9
        have Hok := Lib.hid hok
        clear hok
        go_wp2_with fail
        refine (sput_any wr b g c ss HM2.out).mono ?_
        rintro e w20 ⟨rfl, hb20⟩
        have HR20 := Lib.hid (HR2.out.later hb20)
        have HX20 := Lib.hid (HX1.out.below (by have := HZ1.out; omega) hb20)
        have HB20 := Lib.hid (HB1.out.trans (hb20.mono (by have := HZ1.out; omega)))
        have HZ20 : Hid (N + 1 ≤ w20.heap.size) := Nat.le_trans HZ1.out hb20.size
        clear hb20 HM2 HR2 HX1 HB1 HZ1
        go_wp2_with ((with_reducible refine at_alloc 42 ?_); refine alloc_sec rfl rfl ?_)
        intro w21 hr21 hb21 hs21
        have hS20 : N + 1 ≤ w20.heap.size := HZ20.out
        have HR21 := Lib.hid (HR20.out.later hb21)
        have HX21 := Lib.hid (HX20.out.below (by omega) hb21)
        have HB21 := Lib.hid (HB20.out.trans (hb21.mono (by omega)))
        clear HR20 HX20 HB20 HZ20 hb21
        generalize hS : w20.heap.size = S at *
        clear hS w20
        go_wp2_with ((with_reducible refine at_store 42 ?_); refine store_sec rfl _ _ rfl S (putS10 ss) rfl rfl hr21 (Sec.cs_length _) ?_)
        intro w22 hr22 hg22 hs22
        have HR22 : Hid (NumsAt w22 _ ss) := World.ownsRow.kept HR21.out hg22 (.inr (fun e => own_row_apart HR21.out hr21 (by decide) e))
        have HX22 := Lib.hid (HX21.out.keep hg22 (fun e => by injection e with e; omega))
        have HB22 := Lib.hid (HB21.out.grown hg22 (by omega) (fun j e => by injection e with e; omega))
        have hz22 : S + 1 ≤ w22.heap.size := by omega
        clear HR21 HX21 HB21 hr21 hg22 hs22 hs21
        go_wp2_with ((with_reducible refine at_load 42 ?_); refine load_sec rfl _ rfl S rfl hr22 ?_)
        go_wp2_with fail
        refine (sread_any w22 (k : Int) (putS10 ss)).mono ?_
        rintro e w23 hv
        unfold ReadV at hv
        have hrp := read_put Hok.out (by rw [Hsl.out]; exact h2)
        rw [Hsl.out] at hrp
        rw [if_pos (by omega), Int.toNat_natCast, hrp] at hv
        obtain ⟨b2, g2, c2, rfl, hm23, _, _, hb23⟩ := hv
        have HR23 := Lib.hid (HR22.out.later hb23)
        have HX23 := Lib.hid (HX22.out.below (by omega) hb23)
        have HB23 := Lib.hid (HB22.out.trans (hb23.mono (by omega)))
        have hr23 := hr22.below (by omega) hb23
        have hz23 : S + 1 ≤ w23.heap.size := Nat.le_trans hz22 hb23.size
        have HM23 := Lib.hid hm23
        clear HR22 HX22 HB22 hr22 hz22 hrp hb23 hm23
        go_wp2_with fail
        obtain ⟨wd, hwd⟩ : ∃ wd, w23.drew = wd := ⟨_, rfl⟩
        have hSc : Below wd.heap.size wd w23.drew := by rw [hwd]; exact Below.refl _ _
        have hRd : NumsAt w23.drew _ ss := HR23.out
        have hXd : RowV w23.drew N 42 x0.cs := HX23.out
        have hBd : Below N w w23.drew := HB23.out.drew
        have hMd := HM23.out.drew
        have hSd : RowV w23.drew S 42 (putS10 ss).cs := hr23
        have hZd : S + 1 ≤ w23.drew.heap.size := hz23
        rw [hwd] at hRd hXd hBd hMd hSd hZd
        clear HR23 HX23 HB23 HM23 hr23 hz23
        have hp1 : 1 ≤ ss.length := by rw [Hsl.out]; exact h1
        have hp2 : ss.length ≤ 200 := by rw [Hsl.out]; exact h2
        refine wp_region_held_drew (S := fun W => Below wd.heap.size wd W) (by kernel_rfl) hSc (fun hHeld => ?_)
        rw [hwd] at hSc hHeld ⊢
        clear hwd
        have szS := sec_size (putS10 ss)
        have hNs : S < wd.heap.size := by omega
        refine wpAnyH_take (i := 0) (oi := ⟨_, _, _, _, _, _⟩) (v := ?_) rfl (by kernel_rfl) (by kernel_rfl) (by kernel_rfl) (fun _ _ _ h => h) (Or.inl ⟨by rfl, ?_⟩) (by assumption) ?_
        rotate_left
        · intro W hSW; refine exec_load_row 42 (.tmp 11) ?_ S ?_ _ (hSd.below hNs hSW) Try.underlying42 rfl szS <;> rfl
        try simp only [Act.put, List.setIfInBounds_toArray, List.set_cons_zero, List.set_cons_succ]
        refine wpAnyH_take (i := 1) (oi := ⟨_, _, _, _, _, _⟩) (v := ?_) rfl (by kernel_rfl) (by kernel_rfl) (by kernel_rfl) (fun _ _ _ h => h) (Or.inl ⟨by rfl, ?_⟩) (by assumption) ?_
        rotate_left
        · intro W hSW; go_simp; try with_reducible rfl
        try simp only [Act.put, List.setIfInBounds_toArray, List.set_cons_zero, List.set_cons_succ]
        refine wpAnyH_ready (rs := [2]) (by kernel_rfl) (by simp) ?_
        refine AllReadyH.cons (o := ⟨_, _, _, _, _, _⟩) rfl (fun K hK => ?_) AllReadyH.nil
        go_simp
        refine (rput10_any wd _ ss hRd hp1 hp2 Hok.out).mono ?_
        rintro e wx1 ⟨rfl, hb⟩
        try simp only []
        have hSwx1 := hSc.trans (hb.mono hSc.size)
        refine hK.out _ _ hSwx1 (fun hHeld => ?_)
        clear hK K hb hSc
        have hSc := hSwx1
        clear hSwx1
        try simp only [Act.put, List.setIfInBounds_toArray, List.set_cons_zero, List.set_cons_succ]
        refine wpAnyH_take (i := 3) (oi := ⟨_, _, _, _, _, _⟩) (v := .bool false) rfl (by kernel_rfl) (by kernel_rfl) (by kernel_rfl) (fun _ _ _ h => h) (Or.inl ⟨by rfl, ?_⟩) (by assumption) ?_
        · intro W hSW; refine (exec_neq_sec (.tmp 74) (.tmp 76) 42 rfl (putS10 ss) (putS10 ss) rfl rfl).trans ?_; rw [decide_eq_true rfl]; rfl
        try simp only [Act.put, List.setIfInBounds_toArray, List.set_cons_zero, List.set_cons_succ]
        refine wpAnyH_take (i := 4) (oi := ⟨_, _, _, _, _, _⟩) (v := ?_) rfl (by kernel_rfl) (by kernel_rfl) (by kernel_rfl) (fun _ _ _ h => h) (Or.inl ⟨by rfl, ?_⟩) (by assumption) ?_
        rotate_left
        · intro W hSW; go_simp; try with_reducible rfl
        try simp only [Act.put, List.setIfInBounds_toArray, List.set_cons_zero, List.set_cons_succ]
        refine wpAnyH_take (i := 5) (oi := ⟨_, _, _, _, _, _⟩) (v := ?_) rfl (by kernel_rfl) (by kernel_rfl) (by kernel_rfl) (fun _ _ _ h => h) (Or.inl ⟨by rfl, ?_⟩) (by assumption) ?_
        rotate_left
        · intro W hSW; go_simp; try with_reducible rfl
        try simp only [Act.put, List.setIfInBounds_toArray, List.set_cons_zero, List.set_cons_succ]
        refine wpAnyH_take (i := 6) (oi := ⟨_, _, _, _, _, _⟩) (v := ?_) rfl (by kernel_rfl) (by kernel_rfl) (by kernel_rfl) (fun _ _ _ h => h) (Or.inl ⟨by rfl, ?_⟩) (by assumption) ?_
        rotate_left
        · intro W hSW; go_simp; try with_reducible rfl
        try simp only [Act.put, List.setIfInBounds_toArray, List.set_cons_zero, List.set_cons_succ]
        refine wpAnyH_take (i := 7) (oi := ⟨_, _, _, _, _, _⟩) (v := ?_) rfl (by kernel_rfl) (by kernel_rfl) (by kernel_rfl) (fun _ _ _ h => h) (Or.inl ⟨by rfl, ?_⟩) (by assumption) ?_
        rotate_left
        · intro W hSW; go_simp; try with_reducible rfl
        try simp only [Act.put, List.setIfInBounds_toArray, List.set_cons_zero, List.set_cons_succ]
        refine wpAnyH_take (i := 8) (oi := ⟨_, _, _, _, _, _⟩) (v := ?_) rfl (by kernel_rfl) (by kernel_rfl) (by kernel_rfl) (fun _ _ _ h => h) (Or.inl ⟨by rfl, ?_⟩) (by assumption) ?_
        rotate_left
        · intro W hSW; go_simp; try with_reducible rfl
        try simp only [Act.put, List.setIfInBounds_toArray, List.set_cons_zero, List.set_cons_succ]
        refine wpAnyH_take (i := 9) (oi := ⟨_, _, _, _, _, _⟩) (v := ?_) rfl (by kernel_rfl) (by kernel_rfl) (by kernel_rfl) (fun _ _ _ h => h) (Or.inl ⟨by rfl, ?_⟩) (by assumption) ?_
        rotate_left
        · intro W hSW; go_simp; try with_reducible rfl
        try simp only [Act.put, List.setIfInBounds_toArray, List.set_cons_zero, List.set_cons_succ]
        refine wpAnyH_take (i := 10) (oi := ⟨_, _, _, _, _, _⟩) (v := ?_) rfl (by kernel_rfl) (by kernel_rfl) (by kernel_rfl) (fun _ _ _ h => h) (Or.inl ⟨by rfl, ?_⟩) (by assumption) ?_
        rotate_left
        · intro W hSW; go_simp; try with_reducible rfl
        try simp only [Act.put, List.setIfInBounds_toArray, List.set_cons_zero, List.set_cons_succ]
        refine wpAnyH_take (i := 11) (oi := ⟨_, _, _, _, _, _⟩) (v := ?_) rfl (by kernel_rfl) (by kernel_rfl) (by kernel_rfl) (fun _ _ _ h => h) (Or.inl ⟨by rfl, ?_⟩) (by assumption) ?_
        rotate_left
        · intro W hSW; go_simp; try with_reducible rfl
        try simp only [Act.put, List.setIfInBounds_toArray, List.set_cons_zero, List.set_cons_succ]
        refine wpAnyH_take (i := 12) (oi := ⟨_, _, _, _, _, _⟩) (v := ?_) rfl (by kernel_rfl) (by kernel_rfl) (by kernel_rfl) (fun _ _ _ h => h) (Or.inl ⟨by rfl, ?_⟩) (by assumption) ?_
        rotate_left
        · intro W hSW; go_simp; try with_reducible rfl
        try simp only [Act.put, List.setIfInBounds_toArray, List.set_cons_zero, List.set_cons_succ]
        refine wpAnyH_take (i := 13) (oi := ⟨_, _, _, _, _, _⟩) (v := ?_) rfl (by kernel_rfl) (by kernel_rfl) (by kernel_rfl) (fun _ _ _ h => h) (Or.inl ⟨by rfl, ?_⟩) (by assumption) ?_
        rotate_left
        · intro W hSW; go_simp; try with_reducible rfl
        try simp only [Act.put, List.setIfInBounds_toArray, List.set_cons_zero, List.set_cons_succ]
        refine wpAnyH_take (i := 14) (oi := ⟨_, _, _, _, _, _⟩) (v := ?_) rfl (by kernel_rfl) (by kernel_rfl) (by kernel_rfl) (fun _ _ _ h => h) (Or.inl ⟨by rfl, ?_⟩) (by assumption) ?_
        rotate_left
        · intro W hSW; go_simp; try with_reducible rfl
        try simp only [Act.put, List.setIfInBounds_toArray, List.set_cons_zero, List.set_cons_succ]
        refine wpAnyH_ready (rs := [15]) (by kernel_rfl) (by simp) ?_
        refine AllReadyH.cons (o := ⟨_, _, _, _, _, _⟩) rfl (fun K hK => ?_) AllReadyH.nil
        go_simp
        refine (same10_any wx1 b2 g2 c2 ss _ (hMd.later hSc) (hRd.later hSc)).mono ?_
        rintro e wx2 ⟨rfl, hb⟩
        try simp only []
        have hSwx2 := hSc.trans (hb.mono hSc.size)
        refine hK.out _ _ hSwx2 (fun hHeld => ?_)
        clear hK K hb hSc
        have hSc := hSwx2
        clear hSwx2
        try simp only [Act.put, List.setIfInBounds_toArray, List.set_cons_zero, List.set_cons_succ]
        refine wpAnyH_take (i := 16) (oi := ⟨_, _, _, _, _, _⟩) (v := ?_) rfl (by kernel_rfl) (by kernel_rfl) (by kernel_rfl) (fun _ _ _ h => h) (Or.inl ⟨by rfl, ?_⟩) (by assumption) ?_
        rotate_left
        · intro W hSW; go_simp; try with_reducible rfl
        try simp only [Act.put, List.setIfInBounds_toArray, List.set_cons_zero, List.set_cons_succ]
        refine wpAnyH_take (i := 17) (oi := ⟨_, _, _, _, _, _⟩) (v := ?_) rfl (by kernel_rfl) (by kernel_rfl) (by kernel_rfl) (fun _ _ _ h => h) (Or.inl ⟨by rfl, ?_⟩) (by assumption) ?_
        rotate_left
        · intro W hSW; go_simp; try with_reducible rfl
        try simp only [Act.put, List.setIfInBounds_toArray, List.set_cons_zero, List.set_cons_succ]
        refine wpAnyH_done (by kernel_rfl) ?_ _
        have hX2 := hXd.below (by omega) hSc
        have HB2 := Lib.hid (hBd.trans (hSc.mono (by omega)))
        have hZ2 : N + 1 ≤ wx2.heap.size := by have := hSc.size; omega
        clear hRd hXd hBd hMd hSd hZd szS hNs hSc hHeld
        go_wp2_with ((with_reducible refine at_load 42 ?_); refine load_sec rfl _ rfl N rfl hX2 ?_)
        go_wp2_with fail
        refine (sread_any wx2 n x0).mono ?_
        rintro e w30 hv
        unfold ReadV at hv
        by_cases hn : 1 ≤ n ∧ n ≤ 200
        · rw [if_pos hn] at hv
          obtain ⟨m, rfl⟩ : ∃ m : Nat, n = m := ⟨n.toNat, by omega⟩
          obtain ⟨hn1, hn2⟩ := hn
          rw [Int.toNat_natCast] at hv
          cases hrd : readS10 m x0 with
          | none =>
            rw [hrd] at hv
            obtain ⟨rfl, hb30⟩ := hv
            have h9 := HB2.out.trans (hb30.mono (by omega))
            have hz9 : N ≤ w30.heap.size := by have := hb30.size; omega
            clear hX2
            go_wp2_with fail
            refine (works10_any w30).mono ?_
            rintro e w31 ⟨rfl, hb31⟩
            have h10 := Hfin.out _ _ h9 hz9 hb31
            go_wp2_with fail
            go_ret
            exact ⟨rfl, h10⟩
          | some st =>
            rw [hrd] at hv
            simp only [] at hv
            obtain ⟨b3, g3, c3, rfl, hm30, _, _, hb30⟩ := hv
            have hst : putS10 st = x0 ∧ st.length = m := by
              unfold readS10 at hrd
              split at hrd
              · rename_i hq
                injection hrd with hrd
                subst hrd
                exact ⟨hq.2, unS_length _ _⟩
              · cases hrd
            have Hst := Lib.hid hst
            have h9 := HB2.out.trans (hb30.mono (by omega))
            have hx9 := hX2.below (by omega) hb30
            have hz9 : N + 1 ≤ w30.heap.size := by have := hb30.size; omega
            clear hX2 hrd hst hb30
            go_wp2_with fail
            obtain ⟨wd, hwd⟩ : ∃ wd, w30.drew = wd := ⟨_, rfl⟩
            have hSc : Below wd.heap.size wd w30.drew := by rw [hwd]; exact Below.refl _ _
            have hXd : RowV w30.drew N 42 x0.cs := hx9
            have hBd : Below N w w30.drew := h9.drew
            have hMd := hm30.drew
            have hZd : N + 1 ≤ w30.drew.heap.size := hz9
            rw [hwd] at hXd hBd hMd hZd
            clear hm30 h9 hx9 hz9
            refine wp_region_held_drew (S := fun W => Below wd.heap.size wd W) (by kernel_rfl) hSc (fun hHeld => ?_)
            rw [hwd] at hSc hHeld ⊢
            clear hwd
            have szS := sec_size x0
            have hNs : N < wd.heap.size := by omega
            have hmm : ((m : Int) == (m : Int)) = true := by simp
            refine wpAnyH_take (i := 0) (oi := ⟨_, _, _, _, _, _⟩) (v := ?_) rfl (by kernel_rfl) (by kernel_rfl) (by kernel_rfl) (fun _ _ _ h => h) (Or.inl ⟨by rfl, ?_⟩) (by assumption) ?_
            rotate_left
            · intro W hSW; go_simp; try with_reducible rfl
            try simp only [Act.put, List.setIfInBounds_toArray, List.set_cons_zero, List.set_cons_succ]
            refine wpAnyH_take (i := 1) (oi := ⟨_, _, _, _, _, _⟩) (v := ?_) rfl (by kernel_rfl) (by kernel_rfl) (by kernel_rfl) (fun _ _ _ h => h) (Or.inl ⟨by rfl, ?_⟩) (by assumption) ?_
            rotate_left
            · intro W hSW; go_simp; try with_reducible rfl
            try simp only [Act.put, List.setIfInBounds_toArray, List.set_cons_zero, List.set_cons_succ]
            refine wpAnyH_take (i := 2) (oi := ⟨_, _, _, _, _, _⟩) (v := ?_) rfl (by kernel_rfl) (by kernel_rfl) (by kernel_rfl) (fun _ _ _ h => h) (Or.inl ⟨by rfl, ?_⟩) (by assumption) ?_
            rotate_left
            · intro W hSW; go_simp; try with_reducible rfl
            try simp only [Act.put, List.setIfInBounds_toArray, List.set_cons_zero, List.set_cons_succ]
            refine wpAnyH_take (i := 3) (oi := ⟨_, _, _, _, _, _⟩) (v := ?_) rfl (by kernel_rfl) (by kernel_rfl) (by kernel_rfl) (fun _ _ _ h => h) (Or.inl ⟨by rfl, ?_⟩) (by assumption) ?_
            rotate_left
            · intro W hSW; go_simp; try with_reducible rfl
            try simp only [Act.put, List.setIfInBounds_toArray, List.set_cons_zero, List.set_cons_succ]
            refine wpAnyH_take (i := 5) (oi := ⟨_, _, _, _, _, _⟩) (v := ?_) rfl (by kernel_rfl) (by kernel_rfl) (by kernel_rfl) (fun _ _ _ h => h) (Or.inl ⟨by rfl, ?_⟩) (by assumption) ?_
            rotate_left
            · intro W hSW; go_simp; try with_reducible rfl
            try simp only [Act.put, List.setIfInBounds_toArray, List.set_cons_zero, List.set_cons_succ]
            refine wpAnyH_ready (rs := [4]) (by kernel_rfl) (by simp) ?_
            refine AllReadyH.cons (o := ⟨_, _, _, _, _, _⟩) rfl (fun K hK => ?_) AllReadyH.nil
            go_simp
            refine (slen_any wd b3 g3 c3 st hMd).mono ?_
            rintro e ws4 ⟨rfl, hw4⟩
            rw [hw4]
            try simp only []
            rw [Hst.out.2]
            refine hK.out _ _ hSc (fun hHeld => ?_)
            clear hK K hw4
            try simp only [Act.put, List.setIfInBounds_toArray, List.set_cons_zero, List.set_cons_succ]
            refine wpAnyH_take (i := 6) (oi := ⟨_, _, _, _, _, _⟩) (v := ?_) rfl (by kernel_rfl) (by kernel_rfl) (by kernel_rfl) (fun _ _ _ h => h) (Or.inl ⟨by rfl, ?_⟩) (by assumption) ?_
            rotate_left
            · intro W hSW; go_simp; try with_reducible rfl
            try simp only [Act.put, List.setIfInBounds_toArray, List.set_cons_zero, List.set_cons_succ]
            refine wpAnyH_take (i := 7) (oi := ⟨_, _, _, _, _, _⟩) (v := ?_) rfl (by kernel_rfl) (by kernel_rfl) (by kernel_rfl) (fun _ _ _ h => h) (Or.inl ⟨by rfl, ?_⟩) (by assumption) ?_
            rotate_left
            · intro W hSW; go_simp; try with_reducible rfl
            try simp only [Act.put, List.setIfInBounds_toArray, List.set_cons_zero, List.set_cons_succ]
            refine wpAnyH_take (i := 8) (oi := ⟨_, _, _, _, _, _⟩) (v := ?_) rfl (by kernel_rfl) (by kernel_rfl) (by kernel_rfl) (fun _ _ _ h => h) (Or.inl ⟨by rfl, ?_⟩) (by assumption) ?_
            rotate_left
            · intro W hSW; go_simp; try with_reducible rfl
            try simp only [Act.put, List.setIfInBounds_toArray, List.set_cons_zero, List.set_cons_succ]
            refine wpAnyH_take (i := 9) (oi := ⟨_, _, _, _, _, _⟩) (v := ?_) rfl (by kernel_rfl) (by kernel_rfl) (by kernel_rfl) (fun _ _ _ h => h) (Or.inl ⟨by rfl, ?_⟩) (by assumption) ?_
            rotate_left
            · intro W hSW; go_simp; try with_reducible rfl
            try simp only [Act.put, List.setIfInBounds_toArray, List.set_cons_zero, List.set_cons_succ]
            refine wpAnyH_take (i := 11) (oi := ⟨_, _, _, _, _, _⟩) (v := ?_) rfl (by kernel_rfl) (by kernel_rfl) (by kernel_rfl) (fun _ _ _ h => h) (Or.inl ⟨by rfl, ?_⟩) (by assumption) ?_
            rotate_left
            · intro W hSW; refine exec_load_row 42 (.tmp 4) ?_ N ?_ _ (hXd.below hNs hSW) Try.underlying42 rfl szS <;> rfl
            try simp only [Act.put, List.setIfInBounds_toArray, List.set_cons_zero, List.set_cons_succ]
            refine wpAnyH_ready (rs := [10]) (by kernel_rfl) (by simp) ?_
            refine AllReadyH.cons (o := ⟨_, _, _, _, _, _⟩) rfl (fun K hK => ?_) AllReadyH.nil
            go_simp
            refine (sput_any wd b3 g3 c3 st hMd).mono ?_
            rintro e wx3 ⟨rfl, hb⟩
            try simp only []
            rw [Hst.out.1]
            have hSwx3 := hSc.trans (hb.mono hSc.size)
            refine hK.out _ _ hSwx3 (fun hHeld => ?_)
            clear hK K hb hSc
            have hSc := hSwx3
            clear hSwx3
            try simp only [Act.put, List.setIfInBounds_toArray, List.set_cons_zero, List.set_cons_succ]
            refine wpAnyH_take (i := 12) (oi := ⟨_, _, _, _, _, _⟩) (v := .bool true) rfl (by kernel_rfl) (by kernel_rfl) (by kernel_rfl) (fun _ _ _ h => h) (Or.inl ⟨by rfl, ?_⟩) (by assumption) ?_
            · intro W hSW; refine (exec_eql_sec (.tmp 134) (.tmp 135) 42 rfl x0 x0 rfl rfl).trans ?_; rw [decide_eq_true rfl]
            try simp only [Act.put, List.setIfInBounds_toArray, List.set_cons_zero, List.set_cons_succ]
            refine wpAnyH_take (i := 13) (oi := ⟨_, _, _, _, _, _⟩) (v := ?_) rfl (by kernel_rfl) (by kernel_rfl) (by kernel_rfl) (fun _ _ _ h => h) (Or.inl ⟨by rfl, ?_⟩) (by assumption) ?_
            rotate_left
            · intro W hSW; go_simp; try with_reducible rfl
            try simp only [Act.put, List.setIfInBounds_toArray, List.set_cons_zero, List.set_cons_succ]
            refine wpAnyH_take (i := 14) (oi := ⟨_, _, _, _, _, _⟩) (v := ?_) rfl (by kernel_rfl) (by kernel_rfl) (by kernel_rfl) (fun _ _ _ h => h) (Or.inl ⟨by rfl, ?_⟩) (by assumption) ?_
            rotate_left
            · intro W hSW; go_simp; try with_reducible rfl
            try simp only [Act.put, List.setIfInBounds_toArray, List.set_cons_zero, List.set_cons_succ]
            refine wpAnyH_ready (rs := [15]) (by kernel_rfl) (by simp) ?_
            refine AllReadyH.cons (o := ⟨_, _, _, _, _, _⟩) rfl (fun K hK => ?_) AllReadyH.nil
            go_simp
            refine (works10_any wx3).mono ?_
            rintro e wx4 ⟨rfl, hb⟩
            try simp only []
            have hSwx4 := hSc.trans (hb.mono hSc.size)
            refine hK.out _ _ hSwx4 (fun hHeld => ?_)
            clear hK K hb hSc
            have hSc := hSwx4
            clear hSwx4
            try simp only [Act.put, List.setIfInBounds_toArray, List.set_cons_zero, List.set_cons_succ]
            refine wpAnyH_take (i := 16) (oi := ⟨_, _, _, _, _, _⟩) (v := ?_) rfl (by kernel_rfl) (by kernel_rfl) (by kernel_rfl) (fun _ _ _ h => h) (Or.inl ⟨by rfl, ?_⟩) (by assumption) ?_
            rotate_left
            · intro W hSW; go_simp; try with_reducible rfl
            try simp only [Act.put, List.setIfInBounds_toArray, List.set_cons_zero, List.set_cons_succ]
            refine wpAnyH_take (i := 17) (oi := ⟨_, _, _, _, _, _⟩) (v := ?_) rfl (by kernel_rfl) (by kernel_rfl) (by kernel_rfl) (fun _ _ _ h => h) (Or.inl ⟨by rfl, ?_⟩) (by assumption) ?_
            rotate_left
            · intro W hSW; go_simp; try with_reducible rfl
            try simp only [Act.put, List.setIfInBounds_toArray, List.set_cons_zero, List.set_cons_succ]
            refine wpAnyH_done (by kernel_rfl) ?_ _
            have h10 := Hfin.out _ _ hBd (by omega) hSc
            clear hXd hBd hMd hZd szS hNs hSc hHeld
            go_wp2_with fail
            go_ret
            exact ⟨rfl, h10⟩
        · rw [if_neg hn] at hv
          obtain ⟨rfl, hb30⟩ := hv
          have h9 := HB2.out.trans (hb30.mono (by omega))
          have hz9 : N ≤ w30.heap.size := by have := hb30.size; omega
          clear hX2
          by_cases hn1 : n < 1
          · go_wp2_with fail
            refine (works10_any w30).mono ?_
            rintro e w31 ⟨rfl, hb31⟩
            have h10 := Hfin.out _ _ h9 hz9 hb31
            go_wp2_with fail
            go_ret
            exact ⟨rfl, h10⟩
          · have hn2 : 200 < n := by omega
            go_wp2_with fail
            refine (works10_any w30).mono ?_
            rintro e w31 ⟨rfl, hb31⟩
            have h10 := Hfin.out _ _ h9 hz9 hb31
            go_wp2_with fail
            go_ret
            exact ⟨rfl, h10⟩
end Go.Proofs.Yticlbefbnfnlmaa
