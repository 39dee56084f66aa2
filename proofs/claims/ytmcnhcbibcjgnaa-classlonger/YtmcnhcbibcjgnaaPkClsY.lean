/-
  Layer 15: the contract of the laws' made.
-/
import Derived.Test.YtmcnhcbibcjgnaaPkClsV
import Derived.Test.YtmcnhcbibcjgnaaPkRegS
namespace Go.Proofs.Ytmcnhcbibcjgnaa
open Go.RowKit Go.Maps
set_option linter.unusedVariables false
set_option linter.unusedSimpArgs false

theorem range_below15 {w w' : World} {b o B : Nat} {cs : List Value} (h : w.rangeAt b o cs) (hb : Below B w w') (hlt : b < B) : w'.rangeAt b o cs := fun j u hj => (World.cell?_of_block (hb.block b hlt)).trans (h j u hj)

/-- What made hands back: a set and a list of classes, the same, apart. -/
def RetMade (w : World) (l : List Cl) (e : Ending) (w' : World) : Prop :=
  ∃ g L v, e = .returned (.tuple #[.pointer (some ⟨g, 0, none⟩), v, .bool true]) ∧ Cls w' w.heap.size L g l ∧ RwL w' L v l ∧ Below w.heap.size w w'

set_option maxRecDepth 100000 in
set_option maxHeartbeats 4000000 in
theorem cmade_any (w : World) (B : Nat) (A : Option Addr) (n c : Nat) (ax : List Act15) (h : LiesV w B A (actsV ax)) (hn : n = ax.length) (hB : B ≤ w.heap.size) (hlt : lightC ax = true) :
    Calls Try.prog 8 #[.slice A n c] w (RetMade w (madeC [] ax)) := by
  have HA := Lib.hid h
  have Hn := Lib.hid hn
  obtain ⟨h40, hnm⟩ := lightC_iff.1 hlt
  have Hnm := Lib.hid hnm
  have hn40 : n ≤ 40 := by omega
  clear h hn hlt h40 hnm
  go_enter Try.func8, Try.ntmps8
  go_wp2_with fail
  refine (cnew_any w).mono ?_
  rintro e w1 ⟨rfl, hc1, hb1⟩
  obtain ⟨N, hN⟩ : ∃ N, w.heap.size = N := ⟨_, rfl⟩
  have HN := Lib.hid hN
  have HC1 := Lib.hid hc1
  have HB1 := Lib.hid hb1
  have HR1 : Hid (RwL w1 [w.heap.size] (.slice none 0 0) []) := RwL.nil _ _
  rw [hN] at HC1 HB1 HR1 ⊢
  clear hc1 hb1 hN
  go_wp2_with fail
  go_loopw [6, 7] (fun u v W => ∃ (k : Nat) (L : List Nat), k ≤ n ∧ v = .int .i64 k ∧ Hid (Cls W N L N (madeC [] (ax.take k))) ∧ Hid (RwL W L u (madeC [] (ax.take k))) ∧ Hid (Below N w W)) (fun _ v _ => n - (intOf v).toNat)
  case atStart => exact ⟨0, [N], Nat.zero_le _, rfl, HC1, HR1, HB1⟩
  case round =>
    obtain ⟨k, L, hk, rfl, HC, HR, HB⟩ := hrel
    clear HC1 HR1 HB1
    by_cases hlt : k < n
    · obtain ⟨a, ha⟩ : ∃ a, ax[k]? = some a := ⟨_, List.getElem?_eq_getElem (by rw [← Hn.out]; exact hlt)⟩
      have hlt' : (k : Int) < (n : Int) := by omega
      have hk0 : (0 : Int) ≤ (k : Int) := by omega
      obtain ⟨b, o, hA1, hb, hrg⟩ := lies_act (HA.out.below (HB.out.mono (by have := HN.out; omega))) ha
      have hbN : b < N := by have := HN.out; omega
      subst hA1
      have hck := ra_kind hrg
      have Hrg := Lib.hid hrg
      have hl100 := Hnm.out a (List.mem_of_getElem? ha)
      have Hmt := Lib.hid (madeC_take (l := []) ha)
      obtain ⟨l, hl⟩ : ∃ l, madeC [] (ax.take k) = l := ⟨_, rfl⟩
      have hC := HC.out
      have hR := HR.out
      have hmt := Hmt.out
      rw [hl] at hC hR hmt
      have HC2 := Lib.hid hC
      have HR2 := Lib.hid hR
      have Hmt2 := Lib.hid hmt
      have hLlt : Hid (∀ j ∈ L, j < wr.heap.size) := fun j hj => (hC.lt hj).2
      have hml : Hid (a.c.name.length ≤ maxLen) := by show _ ≤ _; unfold maxLen; omega
      clear ha hrg hC hR hmt Hmt HC HR hl hl100
      obtain ⟨q, hq⟩ : ∃ q, a.kind = q := ⟨_, rfl⟩
      rw [hq] at hck
      by_cases hq1 : q = 1
      · have Hst : Hid (stepC l a = longC l a.c.name a.c.period) := stepC_long (hq.trans hq1)
        clear hq
        subst hq1
        go_wp2_with fail
        have hCd : Cls wr.drew N L N l := HC2.out.drew
        have hRd : RwL wr.drew L u6 l := HR2.out.drew
        have hBd : Below N w wr.drew := HB.out.drew
        have hLd : ∀ j ∈ L, j < wr.drew.heap.size := hLlt.out
        have r1 : wr.drew.rangeAt b (o + k * 5) (actV a) := Hrg.out
        clear hck HC2 HR2 HB hLlt Hrg
        refine wp_region_held_drew (S := fun W => W.rangeAt b (o + k * 5) (actV a)) (by kernel_rfl) r1 (fun hHeld => ?_)
        generalize wr.drew = wd at *
        refine wpAnyH_take (i := 0) (oi := ⟨_, _, _, _, _, _⟩) (v := ?_) rfl (by kernel_rfl) (by kernel_rfl) (by kernel_rfl) (fun _ _ _ h => h) (Or.inl ⟨by rfl, ?_⟩) (by assumption) ?_
        rotate_left
        · intro W hSW; go_simp; try with_reducible rfl
        try simp only [Act.put, List.setIfInBounds_toArray, List.set_cons_zero, List.set_cons_succ]
        refine wpAnyH_take (i := 1) (oi := ⟨_, _, _, _, _, _⟩) (v := ?_) rfl (by kernel_rfl) (by kernel_rfl) (by kernel_rfl) (fun _ _ _ h => h) (Or.inl ⟨by rfl, ?_⟩) (by assumption) ?_
        rotate_left
        · intro W hSW; go_simp; try with_reducible rfl
        try simp only [Act.put, List.setIfInBounds_toArray, List.set_cons_zero, List.set_cons_succ]
        refine wpAnyH_take (i := 2) (oi := ⟨_, _, _, _, _, _⟩) (v := ?_) rfl (by kernel_rfl) (by kernel_rfl) (by kernel_rfl) (fun _ _ _ h => h) (Or.inl ⟨by rfl, ?_⟩) (by assumption) ?_
        rotate_left
        · intro W hSW; go_simp; try with_reducible rfl
        try simp only [Act.put, List.setIfInBounds_toArray, List.set_cons_zero, List.set_cons_succ]
        refine wpAnyH_take (i := 3) (oi := ⟨_, _, _, _, _, _⟩) (v := .pointer (some ⟨b, o + k * 5, none⟩)) rfl (by kernel_rfl) (by kernel_rfl) (by kernel_rfl) (fun _ _ _ h => h) (Or.inl ⟨by rfl, ?_⟩) (by assumption) ?_
        · intro W hSW; go_simp; try with_reducible rfl
        try simp only [Act.put, List.setIfInBounds_toArray, List.set_cons_zero, List.set_cons_succ]
        refine wpAnyH_take (i := 4) (oi := ⟨_, _, _, _, _, _⟩) (v := ?_) rfl (by kernel_rfl) (by kernel_rfl) (by kernel_rfl) (fun _ _ _ h => h) (Or.inl ⟨by rfl, ?_⟩) (by assumption) ?_
        rotate_left
        · intro W hSW; go_simp; try with_reducible rfl
        try simp only [Act.put, List.setIfInBounds_toArray, List.set_cons_zero, List.set_cons_succ]
        refine wpAnyH_take (i := 5) (oi := ⟨_, _, _, _, _, _⟩) (v := ?_) rfl (by kernel_rfl) (by kernel_rfl) (by kernel_rfl) (fun _ _ _ h => h) (Or.inl ⟨by rfl, ?_⟩) (by assumption) ?_
        rotate_left
        · intro W hSW; go_simp; try with_reducible rfl
        try simp only [Act.put, List.setIfInBounds_toArray, List.set_cons_zero, List.set_cons_succ]
        refine wpAnyH_take (i := 6) (oi := ⟨_, _, _, _, _, _⟩) (v := ?_) rfl (by kernel_rfl) (by kernel_rfl) (by kernel_rfl) (fun _ _ _ h => h) (Or.inl ⟨by rfl, ?_⟩) (by assumption) ?_
        rotate_left
        · intro W hSW; have hcq := rc_name (ra_cl hSW); go_simp; try with_reducible rfl
        try simp only [Act.put, List.setIfInBounds_toArray, List.set_cons_zero, List.set_cons_succ]
        refine wpAnyH_take (i := 7) (oi := ⟨_, _, _, _, _, _⟩) (v := ?_) rfl (by kernel_rfl) (by kernel_rfl) (by kernel_rfl) (fun _ _ _ h => h) (Or.inl ⟨by rfl, ?_⟩) (by assumption) ?_
        rotate_left
        · intro W hSW; go_simp; try with_reducible rfl
        try simp only [Act.put, List.setIfInBounds_toArray, List.set_cons_zero, List.set_cons_succ]
        refine wpAnyH_take (i := 8) (oi := ⟨_, _, _, _, _, _⟩) (v := ?_) rfl (by kernel_rfl) (by kernel_rfl) (by kernel_rfl) (fun _ _ _ h => h) (Or.inl ⟨by rfl, ?_⟩) (by assumption) ?_
        rotate_left
        · intro W hSW; go_simp; try with_reducible rfl
        try simp only [Act.put, List.setIfInBounds_toArray, List.set_cons_zero, List.set_cons_succ]
        refine wpAnyH_take (i := 9) (oi := ⟨_, _, _, _, _, _⟩) (v := .pointer (some ⟨b, o + k * 5, none⟩)) rfl (by kernel_rfl) (by kernel_rfl) (by kernel_rfl) (fun _ _ _ h => h) (Or.inl ⟨by rfl, ?_⟩) (by assumption) ?_
        · intro W hSW; go_simp; try with_reducible rfl
        try simp only [Act.put, List.setIfInBounds_toArray, List.set_cons_zero, List.set_cons_succ]
        refine wpAnyH_take (i := 10) (oi := ⟨_, _, _, _, _, _⟩) (v := ?_) rfl (by kernel_rfl) (by kernel_rfl) (by kernel_rfl) (fun _ _ _ h => h) (Or.inl ⟨by rfl, ?_⟩) (by assumption) ?_
        rotate_left
        · intro W hSW; go_simp; try with_reducible rfl
        try simp only [Act.put, List.setIfInBounds_toArray, List.set_cons_zero, List.set_cons_succ]
        refine wpAnyH_take (i := 11) (oi := ⟨_, _, _, _, _, _⟩) (v := ?_) rfl (by kernel_rfl) (by kernel_rfl) (by kernel_rfl) (fun _ _ _ h => h) (Or.inl ⟨by rfl, ?_⟩) (by assumption) ?_
        rotate_left
        · intro W hSW; go_simp; try with_reducible rfl
        try simp only [Act.put, List.setIfInBounds_toArray, List.set_cons_zero, List.set_cons_succ]
        refine wpAnyH_take (i := 12) (oi := ⟨_, _, _, _, _, _⟩) (v := ?_) rfl (by kernel_rfl) (by kernel_rfl) (by kernel_rfl) (fun _ _ _ h => h) (Or.inl ⟨by rfl, ?_⟩) (by assumption) ?_
        rotate_left
        · intro W hSW; have hcq := rc_per (ra_cl hSW); go_simp; try with_reducible rfl
        try simp only [Act.put, List.setIfInBounds_toArray, List.set_cons_zero, List.set_cons_succ]
        refine wpAnyH_ready (rs := [13]) (by kernel_rfl) (by simp) ?_
        refine AllReadyH.cons (o := ⟨_, _, _, _, _, _⟩) rfl (fun K hK => ?_) AllReadyH.nil
        go_simp
        refine (rlonger15_any wd wd.heap.size u6 l a.c.name a.c.period hRd.rw (Nat.le_refl _) hCd.ok).mono ?_
        rintro e w2 ⟨v2, rfl, hr2, hb2, hnx2⟩
        try simp only []
        have hS3 := range_below15 r1 hb2 (by have := hBd.size; have := HN.out; omega)
        refine hK.out _ _ hS3 (fun hHeld => ?_)
        clear hK K
        try simp only [Act.put, List.setIfInBounds_toArray, List.set_cons_zero, List.set_cons_succ]
        refine wpAnyH_take (i := 14) (oi := ⟨_, _, _, _, _, _⟩) (v := ?_) rfl (by kernel_rfl) (by kernel_rfl) (by kernel_rfl) (fun _ _ _ h => h) (Or.inl ⟨by rfl, ?_⟩) (by assumption) ?_
        rotate_left
        · intro W hSW; go_simp; try with_reducible rfl
        try simp only [Act.put, List.setIfInBounds_toArray, List.set_cons_zero, List.set_cons_succ]
        refine wpAnyH_take (i := 15) (oi := ⟨_, _, _, _, _, _⟩) (v := ?_) rfl (by kernel_rfl) (by kernel_rfl) (by kernel_rfl) (fun _ _ _ h => h) (Or.inl ⟨by rfl, ?_⟩) (by assumption) ?_
        rotate_left
        · intro W hSW; go_simp; try with_reducible rfl
        try simp only [Act.put, List.setIfInBounds_toArray, List.set_cons_zero, List.set_cons_succ]
        refine wpAnyH_take (i := 16) (oi := ⟨_, _, _, _, _, _⟩) (v := ?_) rfl (by kernel_rfl) (by kernel_rfl) (by kernel_rfl) (fun _ _ _ h => h) (Or.inl ⟨by rfl, ?_⟩) (by assumption) ?_
        rotate_left
        · intro W hSW; go_simp; try with_reducible rfl
        try simp only [Act.put, List.setIfInBounds_toArray, List.set_cons_zero, List.set_cons_succ]
        refine wpAnyH_take (i := 17) (oi := ⟨_, _, _, _, _, _⟩) (v := ?_) rfl (by kernel_rfl) (by kernel_rfl) (by kernel_rfl) (fun _ _ _ h => h) (Or.inl ⟨by rfl, ?_⟩) (by assumption) ?_
        rotate_left
        · intro W hSW; go_simp; try with_reducible rfl
        try simp only [Act.put, List.setIfInBounds_toArray, List.set_cons_zero, List.set_cons_succ]
        refine wpAnyH_take (i := 18) (oi := ⟨_, _, _, _, _, _⟩) (v := ?_) rfl (by kernel_rfl) (by kernel_rfl) (by kernel_rfl) (fun _ _ _ h => h) (Or.inl ⟨by rfl, ?_⟩) (by assumption) ?_
        rotate_left
        · intro W hSW; go_simp; try with_reducible rfl
        try simp only [Act.put, List.setIfInBounds_toArray, List.set_cons_zero, List.set_cons_succ]
        refine wpAnyH_done (by kernel_rfl) ?_ _
        have hR2 := hRd.next hLd hr2 hb2 hnx2
        have HC3 := Lib.hid (hCd.below hb2)
        have HR3 := Lib.hid hR2
        have HB3 : Hid (Below N w w2) := hBd.trans (hb2.mono (by have := hBd.size; have := HN.out; omega))
        have Hrg3 := Lib.hid hS3
        clear hr2 hb2 hnx2 hR2 hCd hRd hBd hLd r1 hS3 hHeld
        go_wp2_with fail
        have r2 : Hid (w2.drew.rangeAt b (o + k * 5) (actV a)) := Hrg3.out
        have n2 := rc_name (ra_cl Hrg3.out)
        have p2 := rc_per (ra_cl Hrg3.out)
        go_wp2_with fail
        refine wp_region_still_tail 13 (by kernel_rfl) (by kernel_rfl) ?_
        simp only [List.take_succ_cons, List.take_zero, List.drop_succ_cons, List.drop_zero]
        iterate 13 still_step
        refine wpStill_nil ?_
        change wpList _ _ _ _ _ w2.drew
        have hCd := Lib.hid HC3.out.drew
        have hRd := Lib.hid HR3.out.drew
        have hBd : Hid (Below N w w2.drew) := HB3.out.drew
        clear n2 p2 HC3 HR3 HB3 Hrg3 r2
        generalize w2.drew = we at *
        go_wp2_with fail
        refine (clonger_any we N N L l a.c.name a.c.period hCd.out hml.out).mono ?_
        rintro e w4 ⟨rfl, hT⟩
        obtain ⟨L', hc4, hb4, hL4⟩ := hT
        have hR4 := hRd.out.but hb4 hL4
        have hLN := fun j hj => (hCd.out.lt (k := j) hj).1
        have HB4 : Hid (Below N w w4) := hBd.out.trans ((hb4.less (by have := hBd.out.size; have := HN.out; omega)).below hLN)
        rw [← Hst.out] at hc4 hR4 ⊢
        rw [← Hmt2.out] at hc4 hR4
        have HC4 := Lib.hid hc4
        have HR4 := Lib.hid hR4
        obtain ⟨code, hcode⟩ : ∃ code, (stepC l a).2 = code := ⟨_, rfl⟩
        rw [hcode]
        clear hc4 hb4 hL4 hR4 hLN hCd hRd hBd hcode
        go_wp2_with fail
        go_roundw
        all_goals first
          | (simp [intOf]; omega)
          | exact ⟨k + 1, L', by omega, by go_num, HC4, HR4, HB4⟩
      · have Hst : Hid (stepC l a = addC l a.c) := stepC_add (fun e => hq1 (hq.symm.trans e))
        clear hq
        have hqb : (q == 1) = false := by rw [beq_eq_false_iff_ne]; exact hq1
        have hcl := ra_cl Hrg.out
        go_wp2_with ((with_reducible refine at_load 34 ?_); refine load_clM rfl _ rfl b (o + k * 5 + 1) rfl hcl ?_)
        refine (radd15_any wr wr.heap.size u6 l a.c HR2.out.rw (Nat.le_refl _) HC2.out.ok.len).mono ?_
        rintro e w2 ⟨v2, rfl, hr2, hb2, hnx2⟩
        have hR2 := HR2.out.next hLlt.out hr2 hb2 hnx2
        have hCd := Lib.hid (HC2.out.below hb2)
        have hRd := Lib.hid hR2
        have hBd : Hid (Below N w w2) := HB.out.trans (hb2.mono (by have := HB.out.size; have := HN.out; omega))
        have hcl2 := range_below15 hcl hb2 (by have := HB.out.size; have := HN.out; omega)
        clear hr2 hb2 hnx2 hR2 HC2 HR2 HB hLlt Hrg hcl hck
        go_wp2_with ((with_reducible refine at_load 34 ?_); refine load_clM rfl _ rfl b (o + k * 5 + 1) rfl hcl2 ?_)
        refine (cadd_any w2 N N L l a.c hCd.out hml.out).mono ?_
        rintro e w4 ⟨rfl, hT⟩
        clear hcl2
        obtain ⟨L', hc4, hb4, hL4⟩ := hT
        have hR4 := hRd.out.but hb4 hL4
        have hLN := fun j hj => (hCd.out.lt (k := j) hj).1
        have HB4 : Hid (Below N w w4) := hBd.out.trans ((hb4.less (by have := hBd.out.size; have := HN.out; omega)).below hLN)
        rw [← Hst.out] at hc4 hR4 ⊢
        rw [← Hmt2.out] at hc4 hR4
        have HC4 := Lib.hid hc4
        have HR4 := Lib.hid hR4
        obtain ⟨code, hcode⟩ : ∃ code, (stepC l a).2 = code := ⟨_, rfl⟩
        rw [hcode]
        clear hc4 hb4 hL4 hR4 hLN hCd hRd hBd hcode
        go_wp2_with fail
        go_roundw
        all_goals first
          | (simp [intOf]; omega)
          | exact ⟨k + 1, L', by omega, by go_num, HC4, HR4, HB4⟩
    · obtain rfl : k = n := by omega
      have hall : ax.take k = ax := List.take_of_length_le (by rw [Hn.out]; exact Nat.le_refl _)
      rw [hall] at HC HR
      go_wp2_with fail
      go_ret3
      exact ⟨N, L, _, rfl, by rw [HN.out]; exact HC.out, HR.out, by rw [HN.out]; exact HB.out⟩

/-- What the laws' works answers. -/
def Works15 : Prop := ∀ w : World, Calls Try.prog 7 #[] w fun e w' => e = .returned (.bool true) ∧ Below w.heap.size w w'
end Go.Proofs.Ytmcnhcbibcjgnaa
