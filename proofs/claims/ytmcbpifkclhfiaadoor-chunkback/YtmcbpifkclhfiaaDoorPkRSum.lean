/-
  The contract of the reference's Sum (layer 3).
-/
import Derived.Test.YtmcbpifkclhfiaaDoorPkRMixed
import Derived.Test.YtmcbpifkclhfiaaDoorPkRWords
import Derived.Test.YtmcbpifkclhfiaaDoorPkSumC
namespace Go.Proofs.YtmcbpifkclhfiaaDoor
open Go.RowKit
set_option linter.unusedVariables false

theorem out_at' (s : St) {i : Nat} (hi : i < 32) : (outB s)[i]? = some (UInt8.ofNat ((s.list.getD (i / 4) 0#32).toNat / 2 ^ (24 - 8 * (i % 4)))) := by
  have := out_at s (i := i / 4) (j := i % 4) (by omega) (by omega)
  rwa [show 4 * (i / 4) + i % 4 = i by omega] at this

set_option maxRecDepth 100000 in
set_option maxHeartbeats 2000000 in
theorem rsum_any (A0 : Option Addr) (n c0 : Nat) (xs : List UInt8) (w : World) (B : Nat) (h : Lies w B A0 xs) (hB : B ≤ w.heap.size) (hn : n = xs.length) (hl : n ≤ 100000) :
    Calls Tryd.prog 26 #[.slice A0 n c0] w fun e w' => e = .returned (.agg (cells (shaB xs)).toArray) ∧ Below w.heap.size w w' := by
  have Hn := Lib.hid hn
  clear hn
  go_enter Tryd.func26, Tryd.ntmps26
  go_wp2_with ((with_reducible refine at_alloc 37 ?_); refine wpList_alloc_rowV rfl 37 rfl (cells zero32) Tryd.zeroA ?_)
  intro w1 hr1 hb1 hs1
  go_wp2_with fail
  refine (table_any w1).mono ?_
  rintro e w2 ⟨rfl, hrK2, hb2, hs2⟩
  have hrR2 := hr1.below hr1.lt hb2
  have hB2 : Below w.heap.size w w2 := hb1.trans (hb2.mono (by omega))
  rw [hs1] at hrK2 ⊢
  clear hr1 hb1 hb2
  have Hsz0 : Hid ((Tryd.prog.info? 59).map (·.size) = some ((wcells shaH.list).toArray).size) := by show _ = _; rw [Tryd.size8, List.size_toArray, wcells_length, St.list_length]
  have Hold0 : Hid (((wcells no8).toArray).size = ((wcells shaH.list).toArray).size) := by show _ = _; rw [List.size_toArray, List.size_toArray, wcells_length, wcells_length]; rfl
  go_wp2_with ((with_reducible refine at_alloc 59 ?_); refine wpList_alloc_rowV rfl 59 rfl (wcells no8) Tryd.zero8 ?_)
  intro w3 hrH3 hb3 hs3
  have hrK3 := hrK2.below (by omega) hb3
  have hrR3 := hrR2.below (by omega) hb3
  have hB3 : Below w.heap.size w w3 := hB2.trans (hb3.mono (by omega))
  clear hrK2 hrR2 hB2 hb3 hs2
  refine wpList_store_row rfl 59 _ _ rfl (w.heap.size + 1 + 1) (wcells shaH.list).toArray rfl rfl 59 _ hrH3 Hsz0.out Hold0.out (wcells_oneCell _) ?_
  have hrH4 := hrH3.put (wcells shaH.list)
  have hrK4 := hrK3.put_other (k := w.heap.size + 1 + 1) (by omega) (wcells shaH.list).toArray
  have hrR4 := hrR3.put_other (k := w.heap.size + 1 + 1) (by omega) (wcells shaH.list).toArray
  have hB4 : Below w.heap.size w (w3.setRow (w.heap.size + 1 + 1) (wcells shaH.list).toArray) := below_setRow hB3 (by omega) _
  have hs4 : (w3.setRow (w.heap.size + 1 + 1) (wcells shaH.list).toArray).heap.size = w.heap.size + 1 + 1 + 1 := by simp [hs3]
  clear hrH3 hrK3 hrR3 hB3 hs3
  generalize w3.setRow (w.heap.size + 1 + 1) (wcells shaH.list).toArray = w4 at *
  have HL : Hid (Lies w4 B A0 xs) := h.below (hB4.mono hB)
  clear h
  go_wp2_with fail
  refine (padded_any A0 n c0 xs w4 B HL.out (by omega) Hn.out (by omega)).mono ?_
  rintro e w5 ⟨A, c, rfl, hk1, hk2, hL5, hb5, hfr⟩
  have hrH0 := hrH4.below hrH4.lt hb5
  have hrK0 := hrK4.below hrK4.lt hb5
  have hrR0 := hrR4.below hrR4.lt hb5
  have hB0 : Below w.heap.size w w5 := hB4.trans (hb5.mono (by omega))
  have HA : Hid (Aside (w.heap.size + 1 + 1) A) := fun a ha => by have := hfr a ha; omega
  clear hrH4 hrK4 hrR4 hB4 HL hfr
  have hbs := hb5.size
  clear hb5
  have Hlast : Hid (shaB xs = outB (foldK shaH (padB64 xs) ((padB64 xs).length / 64))) := by show _ = _; unfold shaB; exact Eq.refl _
  have hmod : (padB64 xs).length % 64 = 0 := tailB_mod xs xs.length
  have hpb : (padB64 xs).length ≤ 200000 := by have := tailB_length xs xs.length; have h2 := Hn.out; unfold padB64; omega
  generalize padB64 xs = pb at *
  obtain ⟨pn, hpn⟩ : ∃ pn, pb.length = pn := ⟨_, rfl⟩
  rw [hpn] at hmod hpb Hlast hk1 ⊢
  have Hpl : Hid (pn = pb.length) := hpn.symm
  obtain ⟨Kn, hKn⟩ : ∃ Kn, pn / 64 = Kn := ⟨_, rfl⟩
  rw [hKn] at Hlast
  have hpk : pn = 64 * Kn := by omega
  have Hpk := Lib.hid hpk
  clear hpn hKn hmod hpk
  have hlt1 : w.heap.size < w.heap.size + 1 := by omega
  have hlt2 : w.heap.size + 1 < w.heap.size + 1 + 1 := by omega
  have hlt3 : w.heap.size + 1 + 1 < w5.heap.size := by omega
  generalize hgH : w.heap.size + 1 + 1 = gH at *
  generalize hgK : w.heap.size + 1 = gK at *
  generalize hN : w.heap.size = N at *
  have HN := Lib.hid hN
  clear hgH hgK hN hs4 hbs
  obtain ⟨B4, hB4⟩ : ∃ B4, w5.heap.size = B4 := ⟨_, rfl⟩
  have HL0 : Hid (Lies w5 B4 A pb) := by rw [← hB4]; exact hL5
  have hs0 : B4 ≤ w5.heap.size := by omega
  rw [hB4] at hlt3
  clear hL5 hB4
  go_wp2_with fail
  go_loopw [6] (fun i W => ∃ k : Nat, k ≤ Kn ∧ i = .int .i64 ((64 * k : Nat) : Int) ∧ RowV W gH 59 (wcells (foldK shaH pb k).list) ∧ RowV W gK 58 (wcells shaK) ∧ RowV W N 37 (cells zero32) ∧ Hid (Lies W B4 A pb) ∧ B4 ≤ W.heap.size ∧ Below N w W) (fun i _ => pn - (intOf i).toNat)
  case atStart => exact ⟨0, Nat.zero_le _, rfl, hrH0, hrK0, hrR0, HL0, hs0, hB0⟩
  case round =>
    obtain ⟨k, hk, hik, hrH, hrK, hrR, HL, hsW, hB⟩ := hrel
    subst hik
    clear hrH0 hrK0 hrR0 HL0 hs0 hB0
    by_cases hlt : k < Kn
    · have Hstep : Hid (foldK shaH pb (k + 1) = mixW (foldK shaH pb k) (ext (words16 (blockAt pb (64 * k))) 48)) := by
        show mixB _ _ = _
        rw [mixB_eq]
        exact Eq.refl _
      generalize hst : foldK shaH pb k = st at *
      clear hst
      obtain ⟨p, hp⟩ : ∃ p, 64 * k = p := ⟨_, rfl⟩
      rw [hp] at Hstep
      have Hew0 : Hid ((ext (words16 (blockAt pb p)) 48).length = 64) := by show _ = _; rw [ext_length, words16_length]
      obtain ⟨ws2, hws2⟩ : ∃ x, ext (words16 (blockAt pb p)) 48 = x := ⟨_, rfl⟩
      rw [hws2] at Hstep Hew0
      have Hws2 : Hid (True → ext (words16 (blockAt pb p)) 48 = ws2) := fun _ => hws2
      obtain ⟨st2, hst2⟩ : ∃ x, mixW st ws2 = x := ⟨_, rfl⟩
      rw [hst2] at Hstep
      have Hst2 : Hid (True → mixW st ws2 = st2) := fun _ => hst2
      have Hew := Hew0
      clear hws2 hst2 Hew0
      have Hstep2 : Hid (True → foldK shaH pb (k + 1) = st2) := fun _ => Hstep.out
      clear Hstep
      have Hsz : Hid ((Tryd.prog.info? 59).map (·.size) = some ((wcells st.list).toArray).size) := by show _ = _; rw [Tryd.size8, List.size_toArray, wcells_length, St.list_length]
      have Hsz2 : Hid ((Tryd.prog.info? 59).map (·.size) = some ((wcells st2.list).toArray).size) := by show _ = _; rw [Tryd.size8, List.size_toArray, wcells_length, St.list_length]
      have Hold : Hid (((wcells st.list).toArray).size = ((wcells st2.list).toArray).size) := by show _ = _; rw [List.size_toArray, List.size_toArray, wcells_length, wcells_length, St.list_length, St.list_length]
      have hrHd := hrH.drew
      have hrKd := hrK.drew
      have hrRd := hrR.drew
      have hBd := hB.drew
      have HLd : Hid (Lies wr.drew B4 A pb) := HL.out.drew
      have hs4d : B4 ≤ wr.drew.heap.size := hsW
      have hBs : N ≤ wr.drew.heap.size := by omega
      have hk64 : 64 * k + 64 ≤ pn := by have := Hpk.out; omega
      have hd : decide ((p : Int) < (pn : Int)) = true := decide_eq_true (by omega)
      have Hp := Lib.hid hp
      rw [hp] at hk64 ⊢
      clear hrH hrK hrR hB HL hsW hp
      go_wp2_with fail
      refine wp_region_held_drew (S := fun _ => True) (by kernel_rfl) trivial (fun hHeld => ?_)
      generalize wr.drew = wd at *
      refine wpAnyH_take (i := 1) (oi := ⟨_, _, _, _, _, _⟩) (v := ?_) rfl (by kernel_rfl) (by kernel_rfl) (by kernel_rfl) (fun _ _ _ h => h) (Or.inl ⟨by rfl, ?_⟩) (by assumption) ?_
      rotate_left
      · intro W hSW; (try dsimp only at hSW); go_simp; try with_reducible rfl
      try simp only [Act.put, List.setIfInBounds_toArray, List.set_cons_zero, List.set_cons_succ]
      refine wpAnyH_take (i := 2) (oi := ⟨_, _, _, _, _, _⟩) (v := ?_) rfl (by kernel_rfl) (by kernel_rfl) (by kernel_rfl) (fun _ _ _ h => h) (Or.inl ⟨by rfl, ?_⟩) (by assumption) ?_
      rotate_left
      · intro W hSW; (try dsimp only at hSW); go_simp; try with_reducible rfl
      try simp only [Act.put, List.setIfInBounds_toArray, List.set_cons_zero, List.set_cons_succ]
      refine wpAnyH_take (i := 3) (oi := ⟨_, _, _, _, _, _⟩) (v := ?_) rfl (by kernel_rfl) (by kernel_rfl) (by kernel_rfl) (fun _ _ _ h => h) (Or.inl ⟨by rfl, ?_⟩) (by assumption) ?_
      rotate_left
      · intro W hSW; (try dsimp only at hSW); go_simp; try with_reducible rfl
      try simp only [Act.put, List.setIfInBounds_toArray, List.set_cons_zero, List.set_cons_succ]
      refine wpAnyH_ready (rs := [0, 4]) (by kernel_rfl) (by simp) ?_
      refine AllReadyH.cons (o := ⟨_, _, _, _, _, _⟩) rfl (fun K hK => ?_) (AllReadyH.cons (o := ⟨_, _, _, _, _, _⟩) rfl (fun K hK => ?_) AllReadyH.nil)
      · change Oper.wp _ _ _ _ K _
        refine wp_load_row 59 _ rfl gH rfl 59 (wcells st.list).toArray (0, 0) _ hrHd Tryd.underlying59 rfl Hsz.out ?_
        refine hK.out _ _ trivial (fun hHeld => ?_)
        clear hK K
        try simp only [Act.put, List.setIfInBounds_toArray, List.set_cons_zero, List.set_cons_succ]
        refine wpAnyH_ready (rs := [4]) (by kernel_rfl) (by simp) ?_
        refine AllReadyH.cons (o := ⟨_, _, _, _, _, _⟩) rfl (fun K hK => ?_) AllReadyH.nil
        go_simp
        refine (rwords_any A pn c p pb _ B4 HLd.out hs4d Hpl.out (by omega) hk64).mono ?_
        rintro e w5 ⟨rfl, hb5⟩
        rw [Hws2.out trivial]
        try simp only []
        refine hK.out _ _ trivial (fun hHeld => ?_)
        clear hK K
        try simp only [Act.put, List.setIfInBounds_toArray, List.set_cons_zero, List.set_cons_succ]
        have hrH5 := hrHd.below hrHd.lt hb5
        have hrK5 := hrKd.below hrKd.lt hb5
        have hrR5 := hrRd.below hrRd.lt hb5
        have hB5 := hBd.trans (hb5.mono hBs)
        have hL5 := HLd.out.below (hb5.mono hs4d)
        have hB45 := Nat.le_trans hs4d hb5.size
        refine wpAnyH_ready (rs := [5]) (by kernel_rfl) (by simp) ?_
        refine AllReadyH.cons (o := ⟨_, _, _, _, _, _⟩) rfl (fun K hK => ?_) AllReadyH.nil
        go_simp
        refine (mixed_any st gK _ Hew.out _ hrK5).mono ?_
        rintro e w6 ⟨rfl, hb6⟩
        rw [Hst2.out trivial]
        try simp only []
        refine hK.out _ _ trivial (fun hHeld => ?_)
        clear hK K
        try simp only [Act.put, List.setIfInBounds_toArray, List.set_cons_zero, List.set_cons_succ]
        have hrH6 := hrH5.below hrH5.lt hb6
        refine wpAnyH_ready (rs := [6]) (by kernel_rfl) (by simp) ?_
        refine AllReadyH.cons (o := ⟨_, _, _, _, _, _⟩) rfl (fun K hK => ?_) AllReadyH.nil
        change Oper.wp _ _ _ _ K _
        refine wp_store_row 59 _ _ rfl gH (wcells st2.list).toArray rfl rfl 59 _ hrH6 Hsz2.out Hold.out (wcells_oneCell _) ?_
        refine hK.out _ _ trivial (fun hHeld => ?_)
        clear hK K
        try simp only [Act.put]
        refine wpAnyH_done (by kernel_rfl) ?_ _
        have hrH7 := hrH6.put (wcells st2.list)
        have hg7 : w6.grownBy (w6.setRow gH (wcells st2.list).toArray) (some gH) := ⟨rfl, rfl, rfl, by simp, fun j _ hk => setRow_other w6 gH j _ (fun e => hk (by simp [e]))⟩
        have hrK7 := (hrK5.below hrK5.lt hb6).keep hg7 (by intro e; injection e with e; omega)
        have hrR7 := (hrR5.below hrR5.lt hb6).keep hg7 (by intro e; injection e with e; omega)
        have hB7 : Below N w (w6.setRow gH (wcells st2.list).toArray) := below_setRow (hB5.trans (hb6.mono (by have := hB5.size; omega))) (by omega) _
        have HL7 : Hid (Lies (w6.setRow gH (wcells st2.list).toArray) B4 A pb) := (hL5.below (hb6.mono hB45)).aside HA.out hg7 (by have := hb6.size; omega)
        have hs7 : B4 ≤ (w6.setRow gH (wcells st2.list).toArray).heap.size := by have := hb6.size; have := hg7.size; omega
        clear hrH6 hg7 hrK5 hrR5 hB5 hL5 hb6 hrH5
        generalize w6.setRow gH (wcells st2.list).toArray = w7 at *
        go_wp2
        go_roundw
        case rel =>
          refine ⟨k + 1, ?_, ?_, ?_, hrK7, hrR7, HL7, hs7, hB7⟩
          · omega
          · have := Hp.out; congr 1; omega
          · rw [Hstep2.out trivial]
            exact hrH7
        case measure => simp [intOf]; omega
      · go_simp
        refine (rwords_any A pn c p pb _ B4 HLd.out hs4d Hpl.out (by omega) hk64).mono ?_
        rintro e w5 ⟨rfl, hb5⟩
        rw [Hws2.out trivial]
        try simp only []
        refine hK.out _ _ trivial (fun hHeld => ?_)
        clear hK K
        try simp only [Act.put, List.setIfInBounds_toArray, List.set_cons_zero, List.set_cons_succ]
        have hrH5 := hrHd.below hrHd.lt hb5
        have hrK5 := hrKd.below hrKd.lt hb5
        have hrR5 := hrRd.below hrRd.lt hb5
        have hB5 := hBd.trans (hb5.mono hBs)
        have hL5 := HLd.out.below (hb5.mono hs4d)
        have hB45 := Nat.le_trans hs4d hb5.size
        refine wpAnyH_ready (rs := [0]) (by kernel_rfl) (by simp) ?_
        refine AllReadyH.cons (o := ⟨_, _, _, _, _, _⟩) rfl (fun K hK => ?_) AllReadyH.nil
        change Oper.wp _ _ _ _ K _
        refine wp_load_row 59 _ rfl gH rfl 59 (wcells st.list).toArray (0, 0) _ hrH5 Tryd.underlying59 rfl Hsz.out ?_
        refine hK.out _ _ trivial (fun hHeld => ?_)
        clear hK K
        try simp only [Act.put, List.setIfInBounds_toArray, List.set_cons_zero, List.set_cons_succ]
        refine wpAnyH_ready (rs := [5]) (by kernel_rfl) (by simp) ?_
        refine AllReadyH.cons (o := ⟨_, _, _, _, _, _⟩) rfl (fun K hK => ?_) AllReadyH.nil
        go_simp
        refine (mixed_any st gK _ Hew.out _ hrK5).mono ?_
        rintro e w6 ⟨rfl, hb6⟩
        rw [Hst2.out trivial]
        try simp only []
        refine hK.out _ _ trivial (fun hHeld => ?_)
        clear hK K
        try simp only [Act.put, List.setIfInBounds_toArray, List.set_cons_zero, List.set_cons_succ]
        have hrH6 := hrH5.below hrH5.lt hb6
        refine wpAnyH_ready (rs := [6]) (by kernel_rfl) (by simp) ?_
        refine AllReadyH.cons (o := ⟨_, _, _, _, _, _⟩) rfl (fun K hK => ?_) AllReadyH.nil
        change Oper.wp _ _ _ _ K _
        refine wp_store_row 59 _ _ rfl gH (wcells st2.list).toArray rfl rfl 59 _ hrH6 Hsz2.out Hold.out (wcells_oneCell _) ?_
        refine hK.out _ _ trivial (fun hHeld => ?_)
        clear hK K
        try simp only [Act.put]
        refine wpAnyH_done (by kernel_rfl) ?_ _
        have hrH7 := hrH6.put (wcells st2.list)
        have hg7 : w6.grownBy (w6.setRow gH (wcells st2.list).toArray) (some gH) := ⟨rfl, rfl, rfl, by simp, fun j _ hk => setRow_other w6 gH j _ (fun e => hk (by simp [e]))⟩
        have hrK7 := (hrK5.below hrK5.lt hb6).keep hg7 (by intro e; injection e with e; omega)
        have hrR7 := (hrR5.below hrR5.lt hb6).keep hg7 (by intro e; injection e with e; omega)
        have hB7 : Below N w (w6.setRow gH (wcells st2.list).toArray) := below_setRow (hB5.trans (hb6.mono (by have := hB5.size; omega))) (by omega) _
        have HL7 : Hid (Lies (w6.setRow gH (wcells st2.list).toArray) B4 A pb) := (hL5.below (hb6.mono hB45)).aside HA.out hg7 (by have := hb6.size; omega)
        have hs7 : B4 ≤ (w6.setRow gH (wcells st2.list).toArray).heap.size := by have := hb6.size; have := hg7.size; omega
        clear hrH6 hg7 hrK5 hrR5 hB5 hL5 hb6 hrH5
        generalize w6.setRow gH (wcells st2.list).toArray = w7 at *
        go_wp2
        go_roundw
        case rel =>
          refine ⟨k + 1, ?_, ?_, ?_, hrK7, hrR7, HL7, hs7, hB7⟩
          · omega
          · have := Hp.out; congr 1; omega
          · rw [Hstep2.out trivial]
            exact hrH7
        case measure => simp [intOf]; omega
    · obtain rfl : k = Kn := by omega
      have Hlast2 : Hid (True → shaB xs = outB (foldK shaH pb k)) := fun _ => Hlast.out
      clear Hlast HL
      generalize foldK shaH pb k = st at *
      obtain ⟨p, hp⟩ : ∃ p, 64 * k = p := ⟨_, rfl⟩
      have hd : decide ((p : Int) < (pn : Int)) = false := decide_eq_false (by have := Hpk.out; omega)
      have hd2 : decide (p < pn) = false := decide_eq_false (by have := Hpk.out; omega)
      rw [hp]
      clear hp
      have hNW := hB.size
      go_wp2_with ((with_reducible refine at_alloc 37 ?_); refine wpList_alloc_rowV rfl 37 rfl (cells zero32) Tryd.zeroA ?_)
      intro w8 hr8 hb8 hs8
      have hrH8 := hrH.below hrH.lt hb8
      have hrR8 := hrR.below hrR.lt hb8
      have hB8 : Below N w w8 := hB.trans (hb8.mono (by omega))
      have hgS : gH < wr.heap.size := hrH.lt
      clear hrH hrR hB hrK hsW hb8 hs8
      generalize wr.heap.size = gS at *
      clear hd hNW
      go_wp2_with fail
      go_loopw [8] (fun i W => ∃ k : Nat, k ≤ 32 ∧ i = .int .i64 k ∧ RowV W gS 37 (cells (fill ((outB st).take k) 32)) ∧ RowV W gH 59 (wcells st.list) ∧ RowV W N 37 (cells zero32) ∧ Below N w W) (fun i _ => 32 - (intOf i).toNat)
      case atStart => exact ⟨0, Nat.zero_le _, rfl, hr8, hrH8, hrR8, hB8⟩
      case round =>
        obtain ⟨k, hk, hik, hrow, hrH, hrR, hB⟩ := hrel
        subst hik
        clear hr8 hrH8 hrR8 hB8
        by_cases hlt : k < 32
        · obtain ⟨a, ha⟩ : ∃ a, k / 4 = a := ⟨_, rfl⟩
          obtain ⟨b, hb⟩ : ∃ b, k % 4 = b := ⟨_, rfl⟩
          obtain ⟨t, ht⟩ : ∃ t, 24 - 8 * b = t := ⟨_, rfl⟩
          have hout := out_at' st hlt
          rw [ha, hb, ht] at hout
          have hcw := hrH.word (i := a) (by rw [St.list_length]; omega)
          obtain ⟨v, hc⟩ : ∃ v, wr.cell? ⟨gS, k, none⟩ = some v := ⟨_, hrow.cell (List.getElem?_eq_getElem (by rw [cells_length, fill_length (by rw [List.length_take]; omega)]; omega))⟩
          have hfz := hrow.frozen k
          have hset := fill_take (k := 32) hout (outB_length st) hlt
          have hW := hrow.setCell k (.int .u8 ((UInt8.ofNat ((st.list.getD a 0#32).toNat / 2 ^ t)).toNat : Int))
          rw [hset] at hW
          have HW := Lib.hid hW
          have HH := Lib.hid (fun v => hrH.setCell_other (p := ⟨gS, k, none⟩) (show gH ≠ gS by omega) v)
          have HR := Lib.hid (fun v => hrR.setCell_other (p := ⟨gS, k, none⟩) (show N ≠ gS by omega) v)
          have HBe := Lib.hid (fun v => hB.setCell (p := ⟨gS, k, none⟩) (show N ≤ gS by omega) v)
          have Hby := Lib.hid (nv_byte (st.list.getD a 0#32) t)
          clear hW hset hrow hrH hrR hB hout
          generalize st.list.getD a 0#32 = x at *
          have nx := nv_bd x
          have hai : (k : Int) / 4 = (a : Int) := by omega
          have hbi : (k : Int) % 4 = (b : Int) := by omega
          have hti : 24 - 8 * (b : Int) = (t : Int) := by omega
          have ha8 : (a : Int) < 8 := by omega
          have ht24 : t ≤ 24 := by omega
          have hb4 : b ≤ 3 := by omega
          have hd : decide ((k : Int) < 32) = true := decide_eq_true (by omega)
          have hlA := Tryd.lenA
          have hlS := Tryd.lenS
          clear ha hb ht
          go_wp2
          go_roundw
          case rel => exact ⟨k + 1, by omega, by go_num, by rw [Hby.out]; exact HW.out, HH.out _, HR.out _, HBe.out _⟩
          case measure => simp [intOf]; omega
        · obtain rfl : k = 32 := by omega
          have hd : decide (((32 : Nat) : Int) < 32) = false := by decide
          have hf : fill ((outB st).take 32) 32 = shaB xs := by
            rw [Hlast2.out trivial, List.take_of_length_le (by rw [outB_length]; omega)]
            have := fill_full (xs := outB st)
            rwa [outB_length] at this
          rw [hf] at hrow
          clear hf Hlast2
          have Hsz3 : Hid ((Tryd.prog.info? 37).map (·.size) = some ((cells (shaB xs)).toArray).size) := by show _ = _; rw [Tryd.sizeA, List.size_toArray, cells_length, shaB_length]
          have Hold3 : Hid (((cells zero32).toArray).size = ((cells (shaB xs)).toArray).size) := by show _ = _; rw [List.size_toArray, List.size_toArray, cells_length, cells_length, shaB_length]; rfl
          go_wp2_with (first
            | ((with_reducible refine at_load 37 ?_); refine wpList_load_row rfl 37 _ rfl gS rfl 37 _ (0, 0) _ hrow Tryd.underlying37 rfl Hsz3.out ?_)
            | ((with_reducible refine at_store 37 ?_); refine wpList_store_row rfl 37 _ _ rfl N _ rfl rfl 37 _ hrR Hsz3.out Hold3.out (cells_oneCell _) ?_))
          refine bodyPost_ret (results_cell_row (fn := Tryd.f26) rfl _ _ N 37 _ (0, 0) _ rfl (hrR.put (cells (shaB xs))) Tryd.underlying37 rfl Hsz3.out) rfl ⟨rfl, ?_⟩
          rw [HN.out]
          exact below_setRow hB (by omega) _
end Go.Proofs.YtmcbpifkclhfiaaDoor
