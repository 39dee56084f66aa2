/-
  Layer 11: the contract of the law TableDoes.
-/
import Derived.Test.YtkkllmjomdbndaaPkTabOne
import Derived.Deep.RegionHeld3
namespace Go.Proofs.Ytkkllmjomdbndaa
open Go.RowKit
set_option linter.unusedVariables false
set_option linter.unusedSimpArgs false

/-- What Get and Find answer, told of one another. -/
theorem Like.get {n : Nat} {hn : 0 < n} {l r : List Ent} {a : Adr} {e : Ending} (h : Like n hn l r) (hg : GetP l a e) : (∃ f ∈ r, f.adr = a ∧ e = entV f true) ∨ ((∀ f ∈ r, f.adr ≠ a) ∧ e = entV zeroEnt false) := by
  rcases hg with ⟨f, hf, hc, ha, he⟩ | ⟨h1, he⟩
  · exact .inl ⟨f, (h.mem f hc).1 hf, ha, he⟩
  · exact .inr ⟨h.no h1, he⟩
theorem Like.slot {n : Nat} {hn : 0 < n} {l r : List Ent} {s : Int} {e : Ending} (h : Like n hn l r) (hg : SlotP l s e) : (∃ f ∈ r, f.slot = s ∧ e = entV f true) ∨ ((∀ f ∈ r, f.slot ≠ s) ∧ e = entV zeroEnt false) := by
  rcases hg with ⟨k, f, hf, hc, hs, _, he⟩ | ⟨h1, he⟩
  · exact .inl ⟨f, (h.mem f hc).1 (List.mem_of_getElem? hf), hs, he⟩
  · exact .inr ⟨fun f hf => h1 f ((h.mem f (h.real hf)).2 hf) (h.real hf), he⟩
theorem eq_self (f : Ent) (W : World) : (Op.equalIn 10000 32 (.agg f.cs.toArray) (.agg f.cs.toArray)).run Try.prog W = .ok true W := by
  have h := eq_ent W f f
  rw [decide_eq_true rfl] at h
  exact h

set_option maxRecDepth 100000 in
set_option maxHeartbeats 16000000 in
theorem does11_any (HW : Works11) (w : World) (B m1 c1 : Nat) (A1 : Option Addr) (ops : List Op11) (n : UInt8) (a : Adr) (sl : Int) (h1 : LiesV w B A1 (op11s ops)) (hm1 : m1 = ops.length) (hB : B ≤ w.heap.size) (hc1 : m1 ≤ c1) :
    Calls Try.prog 3 #[.int .u8 (n.toNat : Int), .slice A1 m1 c1, .agg (cells a.1).toArray, .int .i64 sl] w fun e w' => e = .returned (.bool true) ∧ Below w.heap.size w w' := by
  have HL1 := Lib.hid h1
  have Hm1 := Lib.hid hm1
  have HW := Lib.hid HW
  have HszA := Lib.hid (adr_size a)
  clear h1 hm1
  obtain ⟨N, hN⟩ : ∃ N, w.heap.size = N := ⟨_, rfl⟩
  rw [hN] at hB
  go_enter Try.func3, Try.ntmps3
  go_wp2_with (with_reducible refine at_box 23 ?_; refine wpList_box_rowV rfl 23 _ rfl (cells a.1) rfl ?_)
  intro w0 hr0 hb0 hs0
  have HA0 : Hid (RowV w0 N 23 (cells a.1)) := by first | exact hr0 | (rw [← hN]; exact hr0)
  have HB0 : Hid (Below N w w0) := by first | exact hb0 | (rw [← hN]; exact hb0)
  have hz0 : N + 1 ≤ w0.heap.size := by omega
  clear hr0 hb0 hs0
  try rw [hN]
  by_cases hbig : m1 ≤ 80
  · have hd1 : decide ((m1 : Int) > 80) = false := decide_eq_false (by omega)
    obtain ⟨s, hs⟩ : ∃ s, 1 + n.toNat % 24 = s := ⟨_, rfl⟩
    have hs0 : 0 < s := by omega
    have hs24 : s ≤ 24 := by omega
    have Hs := Lib.hid hs
    clear hs
    have HL0 : Hid (LiesV w0 B A1 (op11s ops)) := HL1.out.below (HB0.out.mono hB)
    go_wp2_with fail
    refine (lsize_any w0 n).mono ?_
    rintro e w1 ⟨rfl, hw⟩
    rw [hw, Hs.out]
    clear hw w1
    go_wp2_with fail
    refine (lmade_any w0 B m1 c1 A1 ops s hs0 (by omega) HL0.out Hm1.out (by omega) (by omega) hc1).mono ?_
    rintro e w2 ⟨b, g, l', r, v, rfl, hT, hR, hK, hb, hg, hne, hB2⟩
    obtain ⟨Ar, cr, hvr, hcr, hlr⟩ := hR
    subst hvr
    obtain ⟨M, hM⟩ : ∃ M, w2.heap.size = M := ⟨_, rfl⟩
    have HT2 := Lib.hid hT
    have HK := Lib.hid hK
    have HL2 : Hid (LiesV w2 M Ar (ents r)) := by rw [← hM]; exact hlr
    have HA2 : Hid (RowV w2 N 23 (cells a.1)) := HA0.out.below (by omega) hB2
    have HB2 : Hid (Below N w w2) := HB0.out.trans (hB2.mono (by omega))
    have hz2 : M ≤ w2.heap.size := by omega
    have hNM : N + 1 ≤ M := by have := hB2.size; omega
    have hrl : r.length ≤ 900 := by have := hK.len; omega
    obtain ⟨rn, hrn⟩ : ∃ rn, r.length = rn := ⟨_, rfl⟩
    rw [hrn] at hcr hrl ⊢
    have Hrn := Lib.hid hrn
    clear hT hK hne hB2 hlr hrn HA0 HB0 HL0
    go_wp2_with fail
    refine (tsize_any w2 b g s s l' HT2.out).mono ?_
    rintro e w3 ⟨rfl, hw⟩
    rw [hw]
    clear hw w3
    go_wp2_with fail
    refine (lsize_any w2 n).mono ?_
    rintro e w3 ⟨rfl, hw⟩
    rw [hw, Hs.out]
    clear hw w3
    have q2 := Lib.hid (row_range HA2.out)
    go_wp2_with ((with_reducible refine at_load 23 ?_); refine wpList_load_mid rfl 23 _ rfl N 0 rfl (cells a.1) _ q2.out Try.underlying23 rfl HszA.out ?_)
    refine (tget_any w2 b g s s hs0 l' HT2.out HK.out.tb a).mono ?_
    rintro e w3 ⟨hget, hb3⟩
    have hget := HK.out.get hget
    have HT3 : Hid (TabAt w3 b g s s l') := HT2.out.later hb3
    have HL3 : Hid (LiesV w3 M Ar (ents r)) := HL2.out.below (hb3.mono hz2)
    have HA3 : Hid (RowV w3 N 23 (cells a.1)) := HA2.out.below (by omega) hb3
    have HB3 : Hid (Below N w w3) := HB2.out.trans (hb3.mono (by omega))
    have hz3 : M ≤ w3.heap.size := by have := hb3.size; omega
    have q3 := Lib.hid (row_range HA3.out)
    clear hb3 HT2 HL2 HA2 HB2 hz2 q2 hM
    rcases hget with ⟨f, hfr, hfa, rfl⟩ | ⟨hno, rfl⟩
    · have Hfr := Lib.hid hfr
      have Hfa := Lib.hid hfa
      have Hsf := Lib.hid (ent_size f)
      clear hfr hfa
      unfold entV
      go_wp2_with (first
        | ((with_reducible refine at_alloc 32 ?_); refine wpList_alloc_rowV rfl 32 rfl zeroEnt.cs Try.zeroEnt11 ?_; intro w5 hra hba hsa; obtain ⟨G, hG⟩ : ∃ q, w3.heap.size = q := ⟨_, rfl⟩; rw [hG] at hra hba ⊢)
        | ((with_reducible refine at_store 32 ?_); refine wpList_store_rowV rfl 32 _ _ rfl G f.cs rfl rfl 32 zeroEnt.cs hra (by rw [List.size_toArray]; exact ent_size _) (by rw [List.size_toArray, List.size_toArray, Ent.cs_length, Ent.cs_length]) (all_oneCell_toArray (Ent.one _)) ?_; intro w6 hrb hgb hsb; have hbb : Below w3.heap.size w3 w6 := (by rw [hG]; exact below_grown hba hgb (Nat.le_refl _) (by have := hba.size; omega)); have HA6 := Lib.hid (range_below q3.out hbb (show N < w3.heap.size by omega)))
        | ((with_reducible refine at_load 23 ?_); refine wpList_load_mid rfl 23 _ rfl N 0 rfl (cells a.1) _ HA6.out Try.underlying23 rfl HszA.out ?_))
      have HG := Lib.hid (row_range hrb)
      have hGl := hrb.lt
      clear hra hba hsa hrb hgb hsb
      have HT6 : Hid (TabAt w6 b g s s l') := HT3.out.later hbb
      have HL6 : Hid (LiesV w6 M Ar (ents r)) := HL3.out.below (hbb.mono hz3)
      have HB6 : Hid (Below N w w6) := HB3.out.trans (hbb.mono (by omega))
      have hz6 : M ≤ w6.heap.size := by have := hbb.size; omega
      clear hbb HT3 HL3 HA3 HB3 q3
      refine (rfind_any w6 M rn cr Ar r a HL6.out Hrn.out.symm hz6 (by omega) hcr).mono ?_
      rintro e w7 ⟨⟨kk, rfl, hf⟩, hb7⟩
      obtain ⟨k1, rfl, hk1⟩ : ∃ k1 : Nat, kk = k1 ∧ r[k1]? = some f := by
        rcases hf with ⟨k1, f2, rfl, hk1, hfa2⟩ | ⟨_, hno⟩
        · have := HK.out.dst.same (List.mem_of_getElem? hk1) Hfr.out (hfa2.trans Hfa.out.symm)
          subst this
          exact ⟨k1, rfl, hk1⟩
        · exact absurd Hfa.out (hno f Hfr.out)
      have HT7 : Hid (TabAt w7 b g s s l') := HT6.out.later hb7
      have HL7 : Hid (LiesV w7 M Ar (ents r)) := HL6.out.below (hb7.mono hz6)
      have HB7 : Hid (Below N w w7) := HB6.out.trans (hb7.mono (by omega))
      have hz7 : M ≤ w7.heap.size := by have := hb7.size; omega
      have HG7 := Lib.hid (range_below HG.out hb7 hGl)
      have hGl7 : G < w7.heap.size := by have := hb7.size; omega
      obtain ⟨br, or_, hAr, hbr, hrr⟩ := lies_ent HL7.out hk1
      subst hAr
      have Hrr := Lib.hid hrr
      have hbrl : br < w7.heap.size := by omega
      have hk1l : k1 < rn := by have := (List.getElem?_eq_some_iff.1 hk1).1; have := Hrn.out; omega
      have hk1l' : (k1 : Int) < (rn : Int) := by omega
      have hk10 : (0 : Int) ≤ (k1 : Int) := by omega
      have EQ := eq_self f
      clear hf hb7 HT6 HL6 HA6 HB6 hz6 HG hGl hrr hk1
      have HG := HG7
      have hGl := hGl7
      clear HG7 hGl7
      go_wp2_with fail
      obtain ⟨wd, hwd⟩ : ∃ wd, w7.drew = wd := ⟨_, rfl⟩
      have hSc : Below wd.heap.size wd w7.drew := by rw [hwd]; exact Below.refl _ _
      refine wp_region_held_drew (S := fun W => Below wd.heap.size wd W) (by kernel_rfl) hSc (fun hHeld => ?_)
      have dG : w7.drew.rangeAt G 0 f.cs := HG.out
      have dGl : G < w7.drew.heap.size := hGl
      have dR : w7.drew.rangeAt br (or_ + k1 * 34) f.cs := Hrr.out
      have dRl : br < w7.drew.heap.size := hbrl
      have dT : TabAt w7.drew b g s s l' := HT7.out.drew
      have dL : LiesV w7.drew M (some ⟨br, or_, none⟩) (ents r) := HL7.out
      have dB : Below N w w7.drew := HB7.out.drew
      have dz : M ≤ w7.drew.heap.size := hz7
      rw [hwd] at hSc hHeld dG dGl dR dRl dT dL dB dz ⊢
      clear hwd
      refine wpAnyH_take (i := 0) (oi := ⟨_, _, _, _, _, _⟩) (v := ?_) rfl (by kernel_rfl) (by kernel_rfl) (by kernel_rfl) (fun _ _ _ h => h) (Or.inl ⟨by rfl, ?_⟩) (by assumption) ?_
      rotate_left
      · intro W hSW; go_simp; try with_reducible rfl
      try simp only [Act.put, List.setIfInBounds_toArray, List.set_cons_zero, List.set_cons_succ]
      refine wpAnyH_take (i := 1) (oi := ⟨_, _, _, _, _, _⟩) (v := ?_) rfl (by kernel_rfl) (by kernel_rfl) (by kernel_rfl) (fun _ _ _ h => h) (Or.inl ⟨by rfl, ?_⟩) (by assumption) ?_
      rotate_left
      · intro W hSW; go_simp; try with_reducible rfl
      try simp only [Act.put, List.setIfInBounds_toArray, List.set_cons_zero, List.set_cons_succ]
      refine wpAnyH_take (i := 2) (oi := ⟨_, _, _, _, _, _⟩) (v := ?_) rfl (by kernel_rfl) (by kernel_rfl) (by kernel_rfl) (fun _ _ _ h => h) (Or.inl ⟨by rfl, ?_⟩) (by assumption) ?_
      rotate_left
      · intro W hSW; go_simp; try with_reducible rfl
      try simp only [Act.put, List.setIfInBounds_toArray, List.set_cons_zero, List.set_cons_succ]
      refine wpAnyH_take (i := 3) (oi := ⟨_, _, _, _, _, _⟩) (v := ?_) rfl (by kernel_rfl) (by kernel_rfl) (by kernel_rfl) (fun _ _ _ h => h) (Or.inl ⟨by rfl, ?_⟩) (by assumption) ?_
      rotate_left
      · intro W hSW; go_simp; try with_reducible rfl
      try simp only [Act.put, List.setIfInBounds_toArray, List.set_cons_zero, List.set_cons_succ]
      refine wpAnyH_take (i := 4) (oi := ⟨_, _, _, _, _, _⟩) (v := ?_) rfl (by kernel_rfl) (by kernel_rfl) (by kernel_rfl) (fun _ _ _ h => h) (Or.inl ⟨by rfl, ?_⟩) (by assumption) ?_
      rotate_left
      · intro W hSW; go_simp; try with_reducible rfl
      try simp only [Act.put, List.setIfInBounds_toArray, List.set_cons_zero, List.set_cons_succ]
      refine wpAnyH_take (i := 5) (oi := ⟨_, _, _, _, _, _⟩) (v := ?_) rfl (by kernel_rfl) (by kernel_rfl) (by kernel_rfl) (fun _ _ _ h => h) (Or.inl ⟨by rfl, ?_⟩) (by assumption) ?_
      rotate_left
      · intro W hSW; go_simp; try with_reducible rfl
      try simp only [Act.put, List.setIfInBounds_toArray, List.set_cons_zero, List.set_cons_succ]
      refine wpAnyH_take (i := 6) (oi := ⟨_, _, _, _, _, _⟩) (v := ?_) rfl (by kernel_rfl) (by kernel_rfl) (by kernel_rfl) (fun _ _ _ h => h) (Or.inl ⟨by rfl, ?_⟩) (by assumption) ?_
      rotate_left
      · intro W hSW; go_simp; try with_reducible rfl
      try simp only [Act.put, List.setIfInBounds_toArray, List.set_cons_zero, List.set_cons_succ]
      refine wpAnyH_take (i := 7) (oi := ⟨_, _, _, _, _, _⟩) (v := ?_) rfl (by kernel_rfl) (by kernel_rfl) (by kernel_rfl) (fun _ _ _ h => h) (Or.inl ⟨by rfl, ?_⟩) (by assumption) ?_
      rotate_left
      · intro W hSW; refine exec_load_mid 32 (.tmp 12) ?_ G 0 ?_ f.cs _ (range_below dG hSW dGl) Try.underlying32 rfl Hsf.out <;> rfl
      try simp only [Act.put, List.setIfInBounds_toArray, List.set_cons_zero, List.set_cons_succ]
      refine wpAnyH_take (i := 8) (oi := ⟨_, _, _, _, _, _⟩) (v := ?_) rfl (by kernel_rfl) (by kernel_rfl) (by kernel_rfl) (fun _ _ _ h => h) (Or.inl ⟨by rfl, ?_⟩) (by assumption) ?_
      rotate_left
      · intro W hSW; go_simp; try with_reducible rfl
      try simp only [Act.put, List.setIfInBounds_toArray, List.set_cons_zero, List.set_cons_succ]
      refine wpAnyH_take (i := 9) (oi := ⟨_, _, _, _, _, _⟩) (v := ?_) rfl (by kernel_rfl) (by kernel_rfl) (by kernel_rfl) (fun _ _ _ h => h) (Or.inl ⟨by rfl, ?_⟩) (by assumption) ?_
      rotate_left
      · intro W hSW; go_simp; try with_reducible rfl
      try simp only [Act.put, List.setIfInBounds_toArray, List.set_cons_zero, List.set_cons_succ]
      refine wpAnyH_take (i := 10) (oi := ⟨_, _, _, _, _, _⟩) (v := ?_) rfl (by kernel_rfl) (by kernel_rfl) (by kernel_rfl) (fun _ _ _ h => h) (Or.inl ⟨by rfl, ?_⟩) (by assumption) ?_
      rotate_left
      · intro W hSW; go_simp; try with_reducible rfl
      try simp only [Act.put, List.setIfInBounds_toArray, List.set_cons_zero, List.set_cons_succ]
      refine wpAnyH_take (i := 11) (oi := ⟨_, _, _, _, _, _⟩) (v := ?_) rfl (by kernel_rfl) (by kernel_rfl) (by kernel_rfl) (fun _ _ _ h => h) (Or.inl ⟨by rfl, ?_⟩) (by assumption) ?_
      rotate_left
      · intro W hSW; refine exec_load_mid 32 (.tmp 66) ?_ br (or_ + k1 * 34) ?_ f.cs _ (range_below dR hSW dRl) Try.underlying32 rfl Hsf.out <;> rfl
      try simp only [Act.put, List.setIfInBounds_toArray, List.set_cons_zero, List.set_cons_succ]
      refine wpAnyH_take (i := 12) (oi := ⟨_, _, _, _, _, _⟩) (v := ?_) rfl (by kernel_rfl) (by kernel_rfl) (by kernel_rfl) (fun _ _ _ h => h) (Or.inl ⟨by rfl, ?_⟩) (by assumption) ?_
      rotate_left
      · intro W hSW; refine exec_neqS 32 (.tmp 63) (.tmp 67) 32 ?_ (by kernel_rfl) ?_ ?_ (EQ W) <;> rfl
      try simp only [Act.put, List.setIfInBounds_toArray, List.set_cons_zero, List.set_cons_succ]
      refine wpAnyH_take (i := 13) (oi := ⟨_, _, _, _, _, _⟩) (v := ?_) rfl (by kernel_rfl) (by kernel_rfl) (by kernel_rfl) (fun _ _ _ h => h) (Or.inl ⟨by rfl, ?_⟩) (by assumption) ?_
      rotate_left
      · intro W hSW; go_simp; try with_reducible rfl
      try simp only [Act.put, List.setIfInBounds_toArray, List.set_cons_zero, List.set_cons_succ]
      refine wpAnyH_take (i := 14) (oi := ⟨_, _, _, _, _, _⟩) (v := ?_) rfl (by kernel_rfl) (by kernel_rfl) (by kernel_rfl) (fun _ _ _ h => h) (Or.inl ⟨by rfl, ?_⟩) (by assumption) ?_
      rotate_left
      · intro W hSW; go_simp; try with_reducible rfl
      try simp only [Act.put, List.setIfInBounds_toArray, List.set_cons_zero, List.set_cons_succ]
      refine wpAnyH_take (i := 15) (oi := ⟨_, _, _, _, _, _⟩) (v := ?_) rfl (by kernel_rfl) (by kernel_rfl) (by kernel_rfl) (fun _ _ _ h => h) (Or.inl ⟨by rfl, ?_⟩) (by assumption) ?_
      rotate_left
      · intro W hSW; go_simp; try with_reducible rfl
      try simp only [Act.put, List.setIfInBounds_toArray, List.set_cons_zero, List.set_cons_succ]
      refine wpAnyH_take (i := 16) (oi := ⟨_, _, _, _, _, _⟩) (v := ?_) rfl (by kernel_rfl) (by kernel_rfl) (by kernel_rfl) (fun _ _ _ h => h) (Or.inl ⟨by rfl, ?_⟩) (by assumption) ?_
      rotate_left
      · intro W hSW; go_simp; try with_reducible rfl
      try simp only [Act.put, List.setIfInBounds_toArray, List.set_cons_zero, List.set_cons_succ]
      refine wpAnyH_take (i := 17) (oi := ⟨_, _, _, _, _, _⟩) (v := ?_) rfl (by kernel_rfl) (by kernel_rfl) (by kernel_rfl) (fun _ _ _ h => h) (Or.inl ⟨by rfl, ?_⟩) (by assumption) ?_
      rotate_left
      · intro W hSW; go_simp; try with_reducible rfl
      try simp only [Act.put, List.setIfInBounds_toArray, List.set_cons_zero, List.set_cons_succ]
      refine wpAnyH_take (i := 18) (oi := ⟨_, _, _, _, _, _⟩) (v := ?_) rfl (by kernel_rfl) (by kernel_rfl) (by kernel_rfl) (fun _ _ _ h => h) (Or.inl ⟨by rfl, ?_⟩) (by assumption) ?_
      rotate_left
      · intro W hSW; go_simp; try with_reducible rfl
      try simp only [Act.put, List.setIfInBounds_toArray, List.set_cons_zero, List.set_cons_succ]
      refine wpAnyH_take (i := 19) (oi := ⟨_, _, _, _, _, _⟩) (v := undef) rfl (by kernel_rfl) (by kernel_rfl) (by kernel_rfl) (fun _ _ _ h => h) (Or.inr ⟨by rfl, rfl⟩) (by assumption) ?_
      try simp only [Act.put, List.setIfInBounds_toArray, List.set_cons_zero, List.set_cons_succ]
      refine wpAnyH_take (i := 20) (oi := ⟨_, _, _, _, _, _⟩) (v := undef) rfl (by kernel_rfl) (by kernel_rfl) (by kernel_rfl) (fun _ _ _ h => h) (Or.inr ⟨by rfl, rfl⟩) (by assumption) ?_
      try simp only [Act.put, List.setIfInBounds_toArray, List.set_cons_zero, List.set_cons_succ]
      refine wpAnyH_take (i := 21) (oi := ⟨_, _, _, _, _, _⟩) (v := undef) rfl (by kernel_rfl) (by kernel_rfl) (by kernel_rfl) (fun _ _ _ h => h) (Or.inr ⟨by rfl, rfl⟩) (by assumption) ?_
      try simp only [Act.put, List.setIfInBounds_toArray, List.set_cons_zero, List.set_cons_succ]
      refine wpAnyH_take (i := 22) (oi := ⟨_, _, _, _, _, _⟩) (v := ?_) rfl (by kernel_rfl) (by kernel_rfl) (by kernel_rfl) (fun _ _ _ h => h) (Or.inl ⟨by rfl, ?_⟩) (by assumption) ?_
      rotate_left
      · intro W hSW; go_simp; try with_reducible rfl
      try simp only [Act.put, List.setIfInBounds_toArray, List.set_cons_zero, List.set_cons_succ]
      refine wpAnyH_take (i := 23) (oi := ⟨_, _, _, _, _, _⟩) (v := ?_) rfl (by kernel_rfl) (by kernel_rfl) (by kernel_rfl) (fun _ _ _ h => h) (Or.inl ⟨by rfl, ?_⟩) (by assumption) ?_
      rotate_left
      · intro W hSW; go_simp; try with_reducible rfl
      try simp only [Act.put, List.setIfInBounds_toArray, List.set_cons_zero, List.set_cons_succ]
      refine wpAnyH_done (by kernel_rfl) ?_ _
      have HT8 := Lib.hid dT
      have HL8 := Lib.hid dL
      have HB8 := Lib.hid dB
      have hz8 := dz
      clear dT dL dB dz dG dGl dR dRl hHeld HG hGl HT7 HL7 HB7 hz7 Hrr hbrl EQ hSc
      go_wp2_with fail
      go_loopw [15] (fun v W => ∃ k : Nat, k ≤ rn ∧ v = .int .i64 k ∧ Hid (TabAt W b g s s l') ∧ Hid (LiesV W M (some ⟨br, or_, none⟩) (ents r)) ∧ Hid (Below N w W) ∧ Hid (M ≤ W.heap.size)) (fun v _ => rn - (intOf v).toNat)
      case atStart => exact ⟨0, Nat.zero_le _, rfl, HT8, HL8, HB8, hz8⟩
      case round =>
        obtain ⟨k, hk, rfl, HT, HL, HB, HZ⟩ := hrel
        clear HT8 HL8 HB8 hz8
        have hz := HZ.out
        by_cases hlt : k < rn
        · have hlt' : (k : Int) < (rn : Int) := by omega
          have hk0 : (0 : Int) ≤ (k : Int) := by omega
          obtain ⟨x, hx⟩ : ∃ x, r[k]? = some x := ⟨_, List.getElem?_eq_getElem (by rw [Hrn.out]; exact hlt)⟩
          have Hx := Lib.hid hx
          obtain ⟨br, or_, hAr, hbr, hrr⟩ := lies_ent HL.out hx
          injection hAr with hAr; injection hAr with e1 e2 _; subst e1 e2
          have Hra := Lib.hid (adr_of hrr)
          have Hrr0 := Lib.hid hrr
          have HszX := Lib.hid (adr_size x.adr)
          have Hsx := Lib.hid (ent_size x)
          clear hx hrr
          go_wp2_with ((with_reducible refine at_load 23 ?_); refine wpList_load_mid rfl 23 _ rfl br (or_ + k * 34) rfl (cells x.adr.1) _ Hra.out Try.underlying23 rfl HszX.out ?_)
          refine (tget_any wr b g s s hs0 l' HT.out HK.out.tb x.adr).mono ?_
          rintro e w9 ⟨hget, hb9⟩
          obtain rfl : e = entV x true := by
            rcases HK.out.get hget with ⟨f2, hf2, hfa2, he⟩ | ⟨hno, _⟩
            · rw [he, HK.out.dst.same hf2 (List.mem_of_getElem? Hx.out) hfa2]
            · exact absurd rfl (hno x (List.mem_of_getElem? Hx.out))
          have HT9 : Hid (TabAt w9 b g s s l') := HT.out.later hb9
          have HL9 : Hid (LiesV w9 M (some ⟨br, or_, none⟩) (ents r)) := HL.out.below (hb9.mono hz)
          have HB9 : Hid (Below N w w9) := HB.out.trans (hb9.mono (by omega))
          have hz9 : M ≤ w9.heap.size := by have := hb9.size; omega
          have Hrr9 := Lib.hid (range_below Hrr0.out hb9 (show br < wr.heap.size by omega))
          clear hget hb9 HT HL HB HZ hz Hra Hrr0
          unfold entV
          go_wp2_with (first
            | ((with_reducible refine at_alloc 32 ?_); refine wpList_alloc_rowV rfl 32 rfl zeroEnt.cs Try.zeroEnt11 ?_; intro w11 hra hba hsa; obtain ⟨G, hG⟩ : ∃ q, w9.heap.size = q := ⟨_, rfl⟩; rw [hG] at hra hba ⊢)
            | ((with_reducible refine at_store 32 ?_); refine wpList_store_rowV rfl 32 _ _ rfl G x.cs rfl rfl 32 zeroEnt.cs hra (by rw [List.size_toArray]; exact ent_size _) (by rw [List.size_toArray, List.size_toArray, Ent.cs_length, Ent.cs_length]) (all_oneCell_toArray (Ent.one _)) ?_; intro w12 hrb hgb hsb; have hbb : Below w9.heap.size w9 w12 := (by rw [hG]; exact below_grown hba hgb (Nat.le_refl _) (by have := hba.size; omega))))
          have HG := Lib.hid (row_range hrb)
          have hGl := hrb.lt
          clear hra hba hsa hrb hgb hsb
          have HT12 : Hid (TabAt w12 b g s s l') := HT9.out.later hbb
          have HL12 : Hid (LiesV w12 M (some ⟨br, or_, none⟩) (ents r)) := HL9.out.below (hbb.mono hz9)
          have HB12 : Hid (Below N w w12) := HB9.out.trans (hbb.mono (by omega))
          have hz12 : M ≤ w12.heap.size := by have := hbb.size; omega
          have Hrr := Lib.hid (range_below Hrr9.out hbb (show br < w9.heap.size by omega))
          have hbrl : br < w12.heap.size := by omega
          have EQ := eq_self x
          clear hbb HT9 HL9 HB9 hz9 Hrr9
          obtain ⟨wd, hwd⟩ : ∃ wd, w12.drew = wd := ⟨_, rfl⟩
          have hSc : Below wd.heap.size wd w12.drew := by rw [hwd]; exact Below.refl _ _
          refine wp_region_held_drew (S := fun W => Below wd.heap.size wd W) (by kernel_rfl) hSc (fun hHeld => ?_)
          have dG : w12.drew.rangeAt G 0 x.cs := HG.out
          have dGl : G < w12.drew.heap.size := hGl
          have dR : w12.drew.rangeAt br (or_ + k * 34) x.cs := Hrr.out
          have dRl : br < w12.drew.heap.size := hbrl
          have dT : TabAt w12.drew b g s s l' := HT12.out.drew
          have dL : LiesV w12.drew M (some ⟨br, or_, none⟩) (ents r) := HL12.out
          have dB : Below N w w12.drew := HB12.out.drew
          have dz : M ≤ w12.drew.heap.size := hz12
          rw [hwd] at hSc hHeld dG dGl dR dRl dT dL dB dz ⊢
          clear hwd
          refine wpAnyH_take (i := 0) (oi := ⟨_, _, _, _, _, _⟩) (v := ?_) rfl (by kernel_rfl) (by kernel_rfl) (by kernel_rfl) (fun _ _ _ h => h) (Or.inl ⟨by rfl, ?_⟩) (by assumption) ?_
          rotate_left
          · intro W hSW; go_simp; try with_reducible rfl
          try simp only [Act.put, List.setIfInBounds_toArray, List.set_cons_zero, List.set_cons_succ]
          refine wpAnyH_take (i := 1) (oi := ⟨_, _, _, _, _, _⟩) (v := ?_) rfl (by kernel_rfl) (by kernel_rfl) (by kernel_rfl) (fun _ _ _ h => h) (Or.inl ⟨by rfl, ?_⟩) (by assumption) ?_
          rotate_left
          · intro W hSW; go_simp; try with_reducible rfl
          try simp only [Act.put, List.setIfInBounds_toArray, List.set_cons_zero, List.set_cons_succ]
          refine wpAnyH_take (i := 2) (oi := ⟨_, _, _, _, _, _⟩) (v := ?_) rfl (by kernel_rfl) (by kernel_rfl) (by kernel_rfl) (fun _ _ _ h => h) (Or.inl ⟨by rfl, ?_⟩) (by assumption) ?_
          rotate_left
          · intro W hSW; go_simp; try with_reducible rfl
          try simp only [Act.put, List.setIfInBounds_toArray, List.set_cons_zero, List.set_cons_succ]
          refine wpAnyH_take (i := 3) (oi := ⟨_, _, _, _, _, _⟩) (v := ?_) rfl (by kernel_rfl) (by kernel_rfl) (by kernel_rfl) (fun _ _ _ h => h) (Or.inl ⟨by rfl, ?_⟩) (by assumption) ?_
          rotate_left
          · intro W hSW; refine exec_load_mid 32 (.tmp 16) ?_ G 0 ?_ x.cs _ (range_below dG hSW dGl) Try.underlying32 rfl Hsx.out <;> rfl
          try simp only [Act.put, List.setIfInBounds_toArray, List.set_cons_zero, List.set_cons_succ]
          refine wpAnyH_take (i := 4) (oi := ⟨_, _, _, _, _, _⟩) (v := ?_) rfl (by kernel_rfl) (by kernel_rfl) (by kernel_rfl) (fun _ _ _ h => h) (Or.inl ⟨by rfl, ?_⟩) (by assumption) ?_
          rotate_left
          · intro W hSW; go_simp; try with_reducible rfl
          try simp only [Act.put, List.setIfInBounds_toArray, List.set_cons_zero, List.set_cons_succ]
          refine wpAnyH_take (i := 5) (oi := ⟨_, _, _, _, _, _⟩) (v := ?_) rfl (by kernel_rfl) (by kernel_rfl) (by kernel_rfl) (fun _ _ _ h => h) (Or.inl ⟨by rfl, ?_⟩) (by assumption) ?_
          rotate_left
          · intro W hSW; go_simp; try with_reducible rfl
          try simp only [Act.put, List.setIfInBounds_toArray, List.set_cons_zero, List.set_cons_succ]
          refine wpAnyH_take (i := 6) (oi := ⟨_, _, _, _, _, _⟩) (v := ?_) rfl (by kernel_rfl) (by kernel_rfl) (by kernel_rfl) (fun _ _ _ h => h) (Or.inl ⟨by rfl, ?_⟩) (by assumption) ?_
          rotate_left
          · intro W hSW; go_simp; try with_reducible rfl
          try simp only [Act.put, List.setIfInBounds_toArray, List.set_cons_zero, List.set_cons_succ]
          refine wpAnyH_take (i := 7) (oi := ⟨_, _, _, _, _, _⟩) (v := ?_) rfl (by kernel_rfl) (by kernel_rfl) (by kernel_rfl) (fun _ _ _ h => h) (Or.inl ⟨by rfl, ?_⟩) (by assumption) ?_
          rotate_left
          · intro W hSW; refine exec_load_mid 32 (.tmp 102) ?_ br (or_ + k * 34) ?_ x.cs _ (range_below dR hSW dRl) Try.underlying32 rfl Hsx.out <;> rfl
          try simp only [Act.put, List.setIfInBounds_toArray, List.set_cons_zero, List.set_cons_succ]
          refine wpAnyH_take (i := 8) (oi := ⟨_, _, _, _, _, _⟩) (v := ?_) rfl (by kernel_rfl) (by kernel_rfl) (by kernel_rfl) (fun _ _ _ h => h) (Or.inl ⟨by rfl, ?_⟩) (by assumption) ?_
          rotate_left
          · intro W hSW; refine exec_neqS 32 (.tmp 99) (.tmp 103) 32 ?_ (by kernel_rfl) ?_ ?_ (EQ W) <;> rfl
          try simp only [Act.put, List.setIfInBounds_toArray, List.set_cons_zero, List.set_cons_succ]
          refine wpAnyH_take (i := 9) (oi := ⟨_, _, _, _, _, _⟩) (v := ?_) rfl (by kernel_rfl) (by kernel_rfl) (by kernel_rfl) (fun _ _ _ h => h) (Or.inl ⟨by rfl, ?_⟩) (by assumption) ?_
          rotate_left
          · intro W hSW; go_simp; try with_reducible rfl
          try simp only [Act.put, List.setIfInBounds_toArray, List.set_cons_zero, List.set_cons_succ]
          refine wpAnyH_done (by kernel_rfl) ?_ _
          have HT13 := Lib.hid dT
          have HL13 := Lib.hid dL
          have HB13 := Lib.hid dB
          have hz13 := dz
          clear dT dL dB dz dG dGl dR dRl hHeld HG hGl HT12 HL12 HB12 hz12 Hrr hbrl EQ hSc
          go_wp2_with fail
          go_roundw
          case rel =>
            refine ⟨_, _, _, _, _, _, _, _, _, _, _, _, _, _, _, _, _, _, _, _, _, _, _, _, _, _, _, _, _, _, ?_, rfl⟩
            exact ⟨k + 1, by omega, by go_num, HT13, HL13, HB13, hz13⟩
          case measure => simp [intOf]; omega
        · obtain rfl : k = rn := by omega
          go_wp2_with fail
          refine (tslot_any wr b g s s l' HT.out sl).mono ?_
          rintro e w9 ⟨hslot, hb9⟩
          have hslot := HK.out.slot hslot
          have HL9 : Hid (LiesV w9 M (some ⟨br, or_, none⟩) (ents r)) := HL.out.below (hb9.mono hz)
          have HB9 : Hid (Below N w w9) := HB.out.trans (hb9.mono (by omega))
          have hz9 : M ≤ w9.heap.size := by have := hb9.size; omega
          clear hb9 HT HL HB HZ hz
          obtain ⟨y, has, rfl, hys⟩ : ∃ (y : Ent) (has : Bool), e = entV y has ∧ ((has = true ∧ y ∈ r ∧ y.slot = sl) ∨ (has = false ∧ ∀ f ∈ r, f.slot ≠ sl)) := by
            rcases hslot with ⟨f2, h1, h2, h3⟩ | ⟨h1, h2⟩
            · exact ⟨f2, true, h3, .inl ⟨rfl, h1, h2⟩⟩
            · exact ⟨zeroEnt, false, h2, .inr ⟨rfl, h1⟩⟩
          have Hys := Lib.hid hys
          clear hslot hys
          unfold entV
          go_wp2_with (first
            | ((with_reducible refine at_alloc 32 ?_); refine wpList_alloc_rowV rfl 32 rfl zeroEnt.cs Try.zeroEnt11 ?_; intro w11 hra hba hsa; obtain ⟨G, hG⟩ : ∃ q, w9.heap.size = q := ⟨_, rfl⟩; rw [hG] at hra hba ⊢)
            | ((with_reducible refine at_store 32 ?_); refine wpList_store_rowV rfl 32 _ _ rfl G y.cs rfl rfl 32 zeroEnt.cs hra (by rw [List.size_toArray]; exact ent_size _) (by rw [List.size_toArray, List.size_toArray, Ent.cs_length, Ent.cs_length]) (all_oneCell_toArray (Ent.one _)) ?_; intro w12 hrb hgb hsb; have hbb : Below w9.heap.size w9 w12 := (by rw [hG]; exact below_grown hba hgb (Nat.le_refl _) (by have := hba.size; omega))))
          have HG := Lib.hid (row_range hrb)
          have hGl := hrb.lt
          clear hra hba hsa hrb hgb hsb
          have HL12 : Hid (LiesV w12 M (some ⟨br, or_, none⟩) (ents r)) := HL9.out.below (hbb.mono hz9)
          have HB12 : Hid (Below N w w12) := HB9.out.trans (hbb.mono (by omega))
          have hz12 : M ≤ w12.heap.size := by have := hbb.size; omega
          clear hbb HL9 HB9 hz9
          have HS0 : Hid ((r.take 0).any (fun f => f.slot == sl) = false) := rfl
          go_loopw [20, 21] (fun v20 v W => ∃ (j : Nat) (so : Bool), j ≤ k ∧ v = .int .i64 j ∧ v20 = .bool so ∧ Hid ((r.take j).any (fun f => f.slot == sl) = so) ∧ W = w12) (fun _ v _ => k - (intOf v).toNat)
          case atStart => exact ⟨0, false, Nat.zero_le _, rfl, rfl, HS0, rfl⟩
          case round =>
            obtain ⟨j, so, hj, rfl, rfl, HSo, rfl⟩ := hrel
            clear HS0
            by_cases hlt2 : j < k
            · have hlt2' : (j : Int) < (k : Int) := by omega
              have hj0 : (0 : Int) ≤ (j : Int) := by omega
              obtain ⟨x, hx⟩ : ∃ x, r[j]? = some x := ⟨_, List.getElem?_eq_getElem (by rw [Hrn.out]; exact hlt2)⟩
              obtain ⟨br, or_, hAr, hbr, hrr⟩ := lies_ent HL12.out hx
              injection hAr with hAr; injection hAr with e1 e2 _; subst e1 e2
              have cs := slot_of hrr
              have Hx := Lib.hid hx
              have HSn : Hid ((r.take (j + 1)).any (fun f => f.slot == sl) = (so || (x.slot == sl))) := by
                show _ = _
                rw [← HSo.out, take_snoc Hx.out, List.any_append]
                simp
              clear hx hrr
              cases so
              · rw [Bool.false_or] at HSn
                generalize x.slot = z at *
                generalize hz2 : (z == sl) = bz at *
                go_wp2_with fail
                go_roundw
                case rel => exact ⟨j + 1, bz, by omega, by go_num, by go_num, HSn, trivial⟩
                case measure => simp [intOf]; omega
              · rw [Bool.true_or] at HSn
                go_wp2_with fail
                go_roundw
                case rel => exact ⟨j + 1, true, by omega, by go_num, by go_num, HSn, trivial⟩
                case measure => simp [intOf]; omega
            · obtain rfl : j = k := by omega
              rcases Hys.out with ⟨rfl, hyr, hysl⟩ | ⟨rfl, hys⟩
              · obtain rfl : so = true := by
                  rw [← HSo.out, List.take_of_length_le (by rw [Hrn.out]; exact Nat.le_refl _)]
                  exact List.any_eq_true.2 ⟨y, hyr, by rw [beq_iff_eq]; exact hysl⟩
                have Hyr := Lib.hid hyr
                have cy := slot_of HG.out
                rw [hysl] at cy
                have qy := Lib.hid (adr_of HG.out)
                have HszY := Lib.hid (adr_size y.adr)
                clear hyr hysl
                go_wp2_with ((with_reducible refine at_loadG 23 ?_); refine wpList_load_midG rfl 23 _ rfl G 0 rfl (cells y.adr.1) _ qy.out Try.underlying23 rfl HszY.out ?_)
                refine (rfind_any _ M j cr (some ⟨br, or_, none⟩) r y.adr HL12.out Hrn.out.symm hz12 (by omega) hcr).mono ?_
                rintro e w13 ⟨⟨kk, rfl, hf⟩, hb13⟩
                obtain ⟨k2, rfl⟩ : ∃ k2 : Nat, kk = k2 := by
                  rcases hf with ⟨k2, _, h, _⟩ | ⟨_, hno⟩
                  · exact ⟨k2, h⟩
                  · exact absurd rfl (hno y Hyr.out)
                have hdk : decide ((k2 : Int) ≥ 0) = true := decide_eq_true (by omega)
                have hdk' : (0 : Int) ≤ (k2 : Int) := by omega
                have HB13 : Hid (Below N w w13) := HB12.out.trans (hb13.mono (by omega))
                have hz13 : N ≤ w13.heap.size := by have := hb13.size; omega
                clear hf hb13
                go_wp2_with fail
                refine (HW.out w13).mono ?_
                rintro e w14 ⟨rfl, hb14⟩
                go_wp2_with fail
                go_ret
                exact ⟨rfl, by rw [hN]; exact HB13.out.trans (hb14.mono hz13)⟩
              · obtain rfl : so = false := by
                  rw [← HSo.out, List.take_of_length_le (by rw [Hrn.out]; exact Nat.le_refl _)]
                  rw [List.any_eq_false]
                  intro f2 h1
                  rw [beq_iff_eq]
                  exact hys f2 h1
                clear hys
                go_wp2_with fail
                refine (HW.out _).mono ?_
                rintro e w14 ⟨rfl, hb14⟩
                go_wp2_with fail
                go_ret
                exact ⟨rfl, by rw [hN]; exact HB12.out.trans (hb14.mono (by omega))⟩
    · have Hno := Lib.hid hno
      clear hno
      unfold entV
      go_wp2_with (first
        | ((with_reducible refine at_alloc 32 ?_); refine wpList_alloc_rowV rfl 32 rfl zeroEnt.cs Try.zeroEnt11 ?_; intro w5 hra hba hsa; obtain ⟨G, hG⟩ : ∃ q, w3.heap.size = q := ⟨_, rfl⟩; rw [hG] at hra hba ⊢)
        | ((with_reducible refine at_store 32 ?_); refine wpList_store_rowV rfl 32 _ _ rfl G zeroEnt.cs rfl rfl 32 zeroEnt.cs hra (by rw [List.size_toArray]; exact ent_size _) rfl (all_oneCell_toArray (Ent.one _)) ?_; intro w6 hrb hgb hsb; have hbb : Below w3.heap.size w3 w6 := (by rw [hG]; exact below_grown hba hgb (Nat.le_refl _) (by have := hba.size; omega)); have HA6 := Lib.hid (range_below q3.out hbb (show N < w3.heap.size by omega)))
        | ((with_reducible refine at_load 23 ?_); refine wpList_load_mid rfl 23 _ rfl N 0 rfl (cells a.1) _ HA6.out Try.underlying23 rfl HszA.out ?_))
      have HG := Lib.hid (row_range hrb)
      have hGl := hrb.lt
      clear hra hba hsa hrb hgb hsb
      have HT6 : Hid (TabAt w6 b g s s l') := HT3.out.later hbb
      have HL6 : Hid (LiesV w6 M Ar (ents r)) := HL3.out.below (hbb.mono hz3)
      have HB6 : Hid (Below N w w6) := HB3.out.trans (hbb.mono (by omega))
      have hz6 : M ≤ w6.heap.size := by have := hbb.size; omega
      clear hbb HT3 HL3 HA3 HB3 q3
      refine (rfind_any w6 M rn cr Ar r a HL6.out Hrn.out.symm hz6 (by omega) hcr).mono ?_
      rintro e w7 ⟨⟨kk, rfl, hf⟩, hb7⟩
      obtain rfl : kk = -1 := by
        rcases hf with ⟨k1, f2, rfl, hk1, hfa2⟩ | ⟨h, _⟩
        · exact absurd hfa2 (Hno.out f2 (List.mem_of_getElem? hk1))
        · exact h
      have HT7 : Hid (TabAt w7 b g s s l') := HT6.out.later hb7
      have HL7 : Hid (LiesV w7 M Ar (ents r)) := HL6.out.below (hb7.mono hz6)
      have HB7 : Hid (Below N w w7) := HB6.out.trans (hb7.mono (by omega))
      have hz7 : M ≤ w7.heap.size := by have := hb7.size; omega
      have HG7 := Lib.hid (range_below HG.out hb7 hGl)
      have hGl7 : G < w7.heap.size := by have := hb7.size; omega
      have EZ := eq_self zeroEnt
      clear hf hb7 HT6 HL6 HA6 HB6 hz6 HG hGl
      have HG := HG7
      have hGl := hGl7
      clear HG7 hGl7
      go_wp2_with fail
      obtain ⟨wd, hwd⟩ : ∃ wd, w7.drew = wd := ⟨_, rfl⟩
      have hSc : Below wd.heap.size wd w7.drew := by rw [hwd]; exact Below.refl _ _
      refine wp_region_held_drew (S := fun W => Below wd.heap.size wd W) (by kernel_rfl) hSc (fun hHeld => ?_)
      have dG : w7.drew.rangeAt G 0 zeroEnt.cs := HG.out
      have dGl : G < w7.drew.heap.size := hGl
      have dT : TabAt w7.drew b g s s l' := HT7.out.drew
      have dL : LiesV w7.drew M Ar (ents r) := HL7.out
      have dB : Below N w w7.drew := HB7.out.drew
      have dz : M ≤ w7.drew.heap.size := hz7
      rw [hwd] at hSc hHeld dG dGl dT dL dB dz ⊢
      clear hwd
      refine wpAnyH_take (i := 0) (oi := ⟨_, _, _, _, _, _⟩) (v := ?_) rfl (by kernel_rfl) (by kernel_rfl) (by kernel_rfl) (fun _ _ _ h => h) (Or.inl ⟨by rfl, ?_⟩) (by assumption) ?_
      rotate_left
      · intro W hSW; go_simp; try with_reducible rfl
      try simp only [Act.put, List.setIfInBounds_toArray, List.set_cons_zero, List.set_cons_succ]
      refine wpAnyH_take (i := 1) (oi := ⟨_, _, _, _, _, _⟩) (v := ?_) rfl (by kernel_rfl) (by kernel_rfl) (by kernel_rfl) (fun _ _ _ h => h) (Or.inl ⟨by rfl, ?_⟩) (by assumption) ?_
      rotate_left
      · intro W hSW; go_simp; try with_reducible rfl
      try simp only [Act.put, List.setIfInBounds_toArray, List.set_cons_zero, List.set_cons_succ]
      refine wpAnyH_take (i := 2) (oi := ⟨_, _, _, _, _, _⟩) (v := ?_) rfl (by kernel_rfl) (by kernel_rfl) (by kernel_rfl) (fun _ _ _ h => h) (Or.inl ⟨by rfl, ?_⟩) (by assumption) ?_
      rotate_left
      · intro W hSW; go_simp; try with_reducible rfl
      try simp only [Act.put, List.setIfInBounds_toArray, List.set_cons_zero, List.set_cons_succ]
      refine wpAnyH_take (i := 3) (oi := ⟨_, _, _, _, _, _⟩) (v := ?_) rfl (by kernel_rfl) (by kernel_rfl) (by kernel_rfl) (fun _ _ _ h => h) (Or.inl ⟨by rfl, ?_⟩) (by assumption) ?_
      rotate_left
      · intro W hSW; go_simp; try with_reducible rfl
      try simp only [Act.put, List.setIfInBounds_toArray, List.set_cons_zero, List.set_cons_succ]
      refine wpAnyH_take (i := 4) (oi := ⟨_, _, _, _, _, _⟩) (v := ?_) rfl (by kernel_rfl) (by kernel_rfl) (by kernel_rfl) (fun _ _ _ h => h) (Or.inl ⟨by rfl, ?_⟩) (by assumption) ?_
      rotate_left
      · intro W hSW; go_simp; try with_reducible rfl
      try simp only [Act.put, List.setIfInBounds_toArray, List.set_cons_zero, List.set_cons_succ]
      refine wpAnyH_take (i := 5) (oi := ⟨_, _, _, _, _, _⟩) (v := ?_) rfl (by kernel_rfl) (by kernel_rfl) (by kernel_rfl) (fun _ _ _ h => h) (Or.inl ⟨by rfl, ?_⟩) (by assumption) ?_
      rotate_left
      · intro W hSW; go_simp; try with_reducible rfl
      try simp only [Act.put, List.setIfInBounds_toArray, List.set_cons_zero, List.set_cons_succ]
      refine wpAnyH_take (i := 6) (oi := ⟨_, _, _, _, _, _⟩) (v := ?_) rfl (by kernel_rfl) (by kernel_rfl) (by kernel_rfl) (fun _ _ _ h => h) (Or.inl ⟨by rfl, ?_⟩) (by assumption) ?_
      rotate_left
      · intro W hSW; go_simp; try with_reducible rfl
      try simp only [Act.put, List.setIfInBounds_toArray, List.set_cons_zero, List.set_cons_succ]
      refine wpAnyH_take (i := 7) (oi := ⟨_, _, _, _, _, _⟩) (v := undef) rfl (by kernel_rfl) (by kernel_rfl) (by kernel_rfl) (fun _ _ _ h => h) (Or.inr ⟨by rfl, rfl⟩) (by assumption) ?_
      try simp only [Act.put, List.setIfInBounds_toArray, List.set_cons_zero, List.set_cons_succ]
      refine wpAnyH_take (i := 8) (oi := ⟨_, _, _, _, _, _⟩) (v := undef) rfl (by kernel_rfl) (by kernel_rfl) (by kernel_rfl) (fun _ _ _ h => h) (Or.inr ⟨by rfl, rfl⟩) (by assumption) ?_
      try simp only [Act.put, List.setIfInBounds_toArray, List.set_cons_zero, List.set_cons_succ]
      refine wpAnyH_take (i := 9) (oi := ⟨_, _, _, _, _, _⟩) (v := undef) rfl (by kernel_rfl) (by kernel_rfl) (by kernel_rfl) (fun _ _ _ h => h) (Or.inr ⟨by rfl, rfl⟩) (by assumption) ?_
      try simp only [Act.put, List.setIfInBounds_toArray, List.set_cons_zero, List.set_cons_succ]
      refine wpAnyH_take (i := 10) (oi := ⟨_, _, _, _, _, _⟩) (v := undef) rfl (by kernel_rfl) (by kernel_rfl) (by kernel_rfl) (fun _ _ _ h => h) (Or.inr ⟨by rfl, rfl⟩) (by assumption) ?_
      try simp only [Act.put, List.setIfInBounds_toArray, List.set_cons_zero, List.set_cons_succ]
      refine wpAnyH_take (i := 11) (oi := ⟨_, _, _, _, _, _⟩) (v := undef) rfl (by kernel_rfl) (by kernel_rfl) (by kernel_rfl) (fun _ _ _ h => h) (Or.inr ⟨by rfl, rfl⟩) (by assumption) ?_
      try simp only [Act.put, List.setIfInBounds_toArray, List.set_cons_zero, List.set_cons_succ]
      refine wpAnyH_take (i := 12) (oi := ⟨_, _, _, _, _, _⟩) (v := undef) rfl (by kernel_rfl) (by kernel_rfl) (by kernel_rfl) (fun _ _ _ h => h) (Or.inr ⟨by rfl, rfl⟩) (by assumption) ?_
      try simp only [Act.put, List.setIfInBounds_toArray, List.set_cons_zero, List.set_cons_succ]
      refine wpAnyH_take (i := 13) (oi := ⟨_, _, _, _, _, _⟩) (v := ?_) rfl (by kernel_rfl) (by kernel_rfl) (by kernel_rfl) (fun _ _ _ h => h) (Or.inl ⟨by rfl, ?_⟩) (by assumption) ?_
      rotate_left
      · intro W hSW; go_simp; try with_reducible rfl
      try simp only [Act.put, List.setIfInBounds_toArray, List.set_cons_zero, List.set_cons_succ]
      refine wpAnyH_take (i := 14) (oi := ⟨_, _, _, _, _, _⟩) (v := ?_) rfl (by kernel_rfl) (by kernel_rfl) (by kernel_rfl) (fun _ _ _ h => h) (Or.inl ⟨by rfl, ?_⟩) (by assumption) ?_
      rotate_left
      · intro W hSW; go_simp; try with_reducible rfl
      try simp only [Act.put, List.setIfInBounds_toArray, List.set_cons_zero, List.set_cons_succ]
      refine wpAnyH_take (i := 15) (oi := ⟨_, _, _, _, _, _⟩) (v := ?_) rfl (by kernel_rfl) (by kernel_rfl) (by kernel_rfl) (fun _ _ _ h => h) (Or.inl ⟨by rfl, ?_⟩) (by assumption) ?_
      rotate_left
      · intro W hSW; go_simp; try with_reducible rfl
      try simp only [Act.put, List.setIfInBounds_toArray, List.set_cons_zero, List.set_cons_succ]
      refine wpAnyH_take (i := 16) (oi := ⟨_, _, _, _, _, _⟩) (v := ?_) rfl (by kernel_rfl) (by kernel_rfl) (by kernel_rfl) (fun _ _ _ h => h) (Or.inl ⟨by rfl, ?_⟩) (by assumption) ?_
      rotate_left
      · intro W hSW; go_simp; try with_reducible rfl
      try simp only [Act.put, List.setIfInBounds_toArray, List.set_cons_zero, List.set_cons_succ]
      refine wpAnyH_take (i := 17) (oi := ⟨_, _, _, _, _, _⟩) (v := ?_) rfl (by kernel_rfl) (by kernel_rfl) (by kernel_rfl) (fun _ _ _ h => h) (Or.inl ⟨by rfl, ?_⟩) (by assumption) ?_
      rotate_left
      · intro W hSW; go_simp; try with_reducible rfl
      try simp only [Act.put, List.setIfInBounds_toArray, List.set_cons_zero, List.set_cons_succ]
      refine wpAnyH_take (i := 18) (oi := ⟨_, _, _, _, _, _⟩) (v := ?_) rfl (by kernel_rfl) (by kernel_rfl) (by kernel_rfl) (fun _ _ _ h => h) (Or.inl ⟨by rfl, ?_⟩) (by assumption) ?_
      rotate_left
      · intro W hSW; go_simp; try with_reducible rfl
      try simp only [Act.put, List.setIfInBounds_toArray, List.set_cons_zero, List.set_cons_succ]
      refine wpAnyH_take (i := 19) (oi := ⟨_, _, _, _, _, _⟩) (v := ?_) rfl (by kernel_rfl) (by kernel_rfl) (by kernel_rfl) (fun _ _ _ h => h) (Or.inl ⟨by rfl, ?_⟩) (by assumption) ?_
      rotate_left
      · intro W hSW; refine exec_load_mid 32 (.tmp 12) ?_ G 0 ?_ zeroEnt.cs _ (range_below dG hSW dGl) Try.underlying32 rfl (ent_size _) <;> rfl
      try simp only [Act.put, List.setIfInBounds_toArray, List.set_cons_zero, List.set_cons_succ]
      refine wpAnyH_take (i := 20) (oi := ⟨_, _, _, _, _, _⟩) (v := ?_) rfl (by kernel_rfl) (by kernel_rfl) (by kernel_rfl) (fun _ _ _ h => h) (Or.inl ⟨by rfl, ?_⟩) (by assumption) ?_
      rotate_left
      · intro W hSW; refine exec_built 32 #[] ?_ zeroEnt.cs ?_ <;> first | rfl | exact Try.builtE0
      try simp only [Act.put, List.setIfInBounds_toArray, List.set_cons_zero, List.set_cons_succ]
      refine wpAnyH_take (i := 21) (oi := ⟨_, _, _, _, _, _⟩) (v := ?_) rfl (by kernel_rfl) (by kernel_rfl) (by kernel_rfl) (fun _ _ _ h => h) (Or.inl ⟨by rfl, ?_⟩) (by assumption) ?_
      rotate_left
      · intro W hSW; refine exec_neqS 32 (.tmp 75) (.tmp 76) 32 ?_ (by kernel_rfl) ?_ ?_ (EZ W) <;> rfl
      try simp only [Act.put, List.setIfInBounds_toArray, List.set_cons_zero, List.set_cons_succ]
      refine wpAnyH_take (i := 22) (oi := ⟨_, _, _, _, _, _⟩) (v := ?_) rfl (by kernel_rfl) (by kernel_rfl) (by kernel_rfl) (fun _ _ _ h => h) (Or.inl ⟨by rfl, ?_⟩) (by assumption) ?_
      rotate_left
      · intro W hSW; go_simp; try with_reducible rfl
      try simp only [Act.put, List.setIfInBounds_toArray, List.set_cons_zero, List.set_cons_succ]
      refine wpAnyH_take (i := 23) (oi := ⟨_, _, _, _, _, _⟩) (v := ?_) rfl (by kernel_rfl) (by kernel_rfl) (by kernel_rfl) (fun _ _ _ h => h) (Or.inl ⟨by rfl, ?_⟩) (by assumption) ?_
      rotate_left
      · intro W hSW; go_simp; try with_reducible rfl
      try simp only [Act.put, List.setIfInBounds_toArray, List.set_cons_zero, List.set_cons_succ]
      refine wpAnyH_done (by kernel_rfl) ?_ _
      have HT8 := Lib.hid dT
      have HL8 := Lib.hid dL
      have HB8 := Lib.hid dB
      have hz8 := dz
      clear dT dL dB dz dG dGl hHeld HG hGl HT7 HL7 HB7 hz7 EZ hSc
      go_wp2_with fail
      go_loopw [15] (fun v W => ∃ k : Nat, k ≤ rn ∧ v = .int .i64 k ∧ Hid (TabAt W b g s s l') ∧ Hid (LiesV W M Ar (ents r)) ∧ Hid (Below N w W) ∧ Hid (M ≤ W.heap.size)) (fun v _ => rn - (intOf v).toNat)
      case atStart => exact ⟨0, Nat.zero_le _, rfl, HT8, HL8, HB8, hz8⟩
      case round =>
        obtain ⟨k, hk, rfl, HT, HL, HB, HZ⟩ := hrel
        clear HT8 HL8 HB8 hz8
        have hz := HZ.out
        by_cases hlt : k < rn
        · have hlt' : (k : Int) < (rn : Int) := by omega
          have hk0 : (0 : Int) ≤ (k : Int) := by omega
          obtain ⟨x, hx⟩ : ∃ x, r[k]? = some x := ⟨_, List.getElem?_eq_getElem (by rw [Hrn.out]; exact hlt)⟩
          have Hx := Lib.hid hx
          obtain ⟨br, or_, hAr, hbr, hrr⟩ := lies_ent HL.out hx
          subst hAr
          have Hra := Lib.hid (adr_of hrr)
          have Hrr0 := Lib.hid hrr
          have HszX := Lib.hid (adr_size x.adr)
          have Hsx := Lib.hid (ent_size x)
          clear hx hrr
          go_wp2_with ((with_reducible refine at_load 23 ?_); refine wpList_load_mid rfl 23 _ rfl br (or_ + k * 34) rfl (cells x.adr.1) _ Hra.out Try.underlying23 rfl HszX.out ?_)
          refine (tget_any wr b g s s hs0 l' HT.out HK.out.tb x.adr).mono ?_
          rintro e w9 ⟨hget, hb9⟩
          obtain rfl : e = entV x true := by
            rcases HK.out.get hget with ⟨f2, hf2, hfa2, he⟩ | ⟨hno, _⟩
            · rw [he, HK.out.dst.same hf2 (List.mem_of_getElem? Hx.out) hfa2]
            · exact absurd rfl (hno x (List.mem_of_getElem? Hx.out))
          have HT9 : Hid (TabAt w9 b g s s l') := HT.out.later hb9
          have HL9 : Hid (LiesV w9 M (some ⟨br, or_, none⟩) (ents r)) := HL.out.below (hb9.mono hz)
          have HB9 : Hid (Below N w w9) := HB.out.trans (hb9.mono (by omega))
          have hz9 : M ≤ w9.heap.size := by have := hb9.size; omega
          have Hrr9 := Lib.hid (range_below Hrr0.out hb9 (show br < wr.heap.size by omega))
          clear hget hb9 HT HL HB HZ hz Hra Hrr0
          unfold entV
          go_wp2_with (first
            | ((with_reducible refine at_alloc 32 ?_); refine wpList_alloc_rowV rfl 32 rfl zeroEnt.cs Try.zeroEnt11 ?_; intro w11 hra hba hsa; obtain ⟨G, hG⟩ : ∃ q, w9.heap.size = q := ⟨_, rfl⟩; rw [hG] at hra hba ⊢)
            | ((with_reducible refine at_store 32 ?_); refine wpList_store_rowV rfl 32 _ _ rfl G x.cs rfl rfl 32 zeroEnt.cs hra (by rw [List.size_toArray]; exact ent_size _) (by rw [List.size_toArray, List.size_toArray, Ent.cs_length, Ent.cs_length]) (all_oneCell_toArray (Ent.one _)) ?_; intro w12 hrb hgb hsb; have hbb : Below w9.heap.size w9 w12 := (by rw [hG]; exact below_grown hba hgb (Nat.le_refl _) (by have := hba.size; omega))))
          have HG := Lib.hid (row_range hrb)
          have hGl := hrb.lt
          clear hra hba hsa hrb hgb hsb
          have HT12 : Hid (TabAt w12 b g s s l') := HT9.out.later hbb
          have HL12 : Hid (LiesV w12 M (some ⟨br, or_, none⟩) (ents r)) := HL9.out.below (hbb.mono hz9)
          have HB12 : Hid (Below N w w12) := HB9.out.trans (hbb.mono (by omega))
          have hz12 : M ≤ w12.heap.size := by have := hbb.size; omega
          have Hrr := Lib.hid (range_below Hrr9.out hbb (show br < w9.heap.size by omega))
          have hbrl : br < w12.heap.size := by omega
          have EQ := eq_self x
          clear hbb HT9 HL9 HB9 hz9 Hrr9
          obtain ⟨wd, hwd⟩ : ∃ wd, w12.drew = wd := ⟨_, rfl⟩
          have hSc : Below wd.heap.size wd w12.drew := by rw [hwd]; exact Below.refl _ _
          refine wp_region_held_drew (S := fun W => Below wd.heap.size wd W) (by kernel_rfl) hSc (fun hHeld => ?_)
          have dG : w12.drew.rangeAt G 0 x.cs := HG.out
          have dGl : G < w12.drew.heap.size := hGl
          have dR : w12.drew.rangeAt br (or_ + k * 34) x.cs := Hrr.out
          have dRl : br < w12.drew.heap.size := hbrl
          have dT : TabAt w12.drew b g s s l' := HT12.out.drew
          have dL : LiesV w12.drew M (some ⟨br, or_, none⟩) (ents r) := HL12.out
          have dB : Below N w w12.drew := HB12.out.drew
          have dz : M ≤ w12.drew.heap.size := hz12
          rw [hwd] at hSc hHeld dG dGl dR dRl dT dL dB dz ⊢
          clear hwd
          refine wpAnyH_take (i := 0) (oi := ⟨_, _, _, _, _, _⟩) (v := ?_) rfl (by kernel_rfl) (by kernel_rfl) (by kernel_rfl) (fun _ _ _ h => h) (Or.inl ⟨by rfl, ?_⟩) (by assumption) ?_
          rotate_left
          · intro W hSW; go_simp; try with_reducible rfl
          try simp only [Act.put, List.setIfInBounds_toArray, List.set_cons_zero, List.set_cons_succ]
          refine wpAnyH_take (i := 1) (oi := ⟨_, _, _, _, _, _⟩) (v := ?_) rfl (by kernel_rfl) (by kernel_rfl) (by kernel_rfl) (fun _ _ _ h => h) (Or.inl ⟨by rfl, ?_⟩) (by assumption) ?_
          rotate_left
          · intro W hSW; go_simp; try with_reducible rfl
          try simp only [Act.put, List.setIfInBounds_toArray, List.set_cons_zero, List.set_cons_succ]
          refine wpAnyH_take (i := 2) (oi := ⟨_, _, _, _, _, _⟩) (v := ?_) rfl (by kernel_rfl) (by kernel_rfl) (by kernel_rfl) (fun _ _ _ h => h) (Or.inl ⟨by rfl, ?_⟩) (by assumption) ?_
          rotate_left
          · intro W hSW; go_simp; try with_reducible rfl
          try simp only [Act.put, List.setIfInBounds_toArray, List.set_cons_zero, List.set_cons_succ]
          refine wpAnyH_take (i := 3) (oi := ⟨_, _, _, _, _, _⟩) (v := ?_) rfl (by kernel_rfl) (by kernel_rfl) (by kernel_rfl) (fun _ _ _ h => h) (Or.inl ⟨by rfl, ?_⟩) (by assumption) ?_
          rotate_left
          · intro W hSW; refine exec_load_mid 32 (.tmp 16) ?_ G 0 ?_ x.cs _ (range_below dG hSW dGl) Try.underlying32 rfl Hsx.out <;> rfl
          try simp only [Act.put, List.setIfInBounds_toArray, List.set_cons_zero, List.set_cons_succ]
          refine wpAnyH_take (i := 4) (oi := ⟨_, _, _, _, _, _⟩) (v := ?_) rfl (by kernel_rfl) (by kernel_rfl) (by kernel_rfl) (fun _ _ _ h => h) (Or.inl ⟨by rfl, ?_⟩) (by assumption) ?_
          rotate_left
          · intro W hSW; go_simp; try with_reducible rfl
          try simp only [Act.put, List.setIfInBounds_toArray, List.set_cons_zero, List.set_cons_succ]
          refine wpAnyH_take (i := 5) (oi := ⟨_, _, _, _, _, _⟩) (v := ?_) rfl (by kernel_rfl) (by kernel_rfl) (by kernel_rfl) (fun _ _ _ h => h) (Or.inl ⟨by rfl, ?_⟩) (by assumption) ?_
          rotate_left
          · intro W hSW; go_simp; try with_reducible rfl
          try simp only [Act.put, List.setIfInBounds_toArray, List.set_cons_zero, List.set_cons_succ]
          refine wpAnyH_take (i := 6) (oi := ⟨_, _, _, _, _, _⟩) (v := ?_) rfl (by kernel_rfl) (by kernel_rfl) (by kernel_rfl) (fun _ _ _ h => h) (Or.inl ⟨by rfl, ?_⟩) (by assumption) ?_
          rotate_left
          · intro W hSW; go_simp; try with_reducible rfl
          try simp only [Act.put, List.setIfInBounds_toArray, List.set_cons_zero, List.set_cons_succ]
          refine wpAnyH_take (i := 7) (oi := ⟨_, _, _, _, _, _⟩) (v := ?_) rfl (by kernel_rfl) (by kernel_rfl) (by kernel_rfl) (fun _ _ _ h => h) (Or.inl ⟨by rfl, ?_⟩) (by assumption) ?_
          rotate_left
          · intro W hSW; refine exec_load_mid 32 (.tmp 102) ?_ br (or_ + k * 34) ?_ x.cs _ (range_below dR hSW dRl) Try.underlying32 rfl Hsx.out <;> rfl
          try simp only [Act.put, List.setIfInBounds_toArray, List.set_cons_zero, List.set_cons_succ]
          refine wpAnyH_take (i := 8) (oi := ⟨_, _, _, _, _, _⟩) (v := ?_) rfl (by kernel_rfl) (by kernel_rfl) (by kernel_rfl) (fun _ _ _ h => h) (Or.inl ⟨by rfl, ?_⟩) (by assumption) ?_
          rotate_left
          · intro W hSW; refine exec_neqS 32 (.tmp 99) (.tmp 103) 32 ?_ (by kernel_rfl) ?_ ?_ (EQ W) <;> rfl
          try simp only [Act.put, List.setIfInBounds_toArray, List.set_cons_zero, List.set_cons_succ]
          refine wpAnyH_take (i := 9) (oi := ⟨_, _, _, _, _, _⟩) (v := ?_) rfl (by kernel_rfl) (by kernel_rfl) (by kernel_rfl) (fun _ _ _ h => h) (Or.inl ⟨by rfl, ?_⟩) (by assumption) ?_
          rotate_left
          · intro W hSW; go_simp; try with_reducible rfl
          try simp only [Act.put, List.setIfInBounds_toArray, List.set_cons_zero, List.set_cons_succ]
          refine wpAnyH_done (by kernel_rfl) ?_ _
          have HT13 := Lib.hid dT
          have HL13 := Lib.hid dL
          have HB13 := Lib.hid dB
          have hz13 := dz
          clear dT dL dB dz dG dGl dR dRl hHeld HG hGl HT12 HL12 HB12 hz12 Hrr hbrl EQ hSc
          go_wp2_with fail
          go_roundw
          case rel =>
            refine ⟨_, _, _, _, _, _, _, _, _, _, _, _, _, _, _, _, _, _, _, _, _, _, _, _, _, _, _, _, _, _, ?_, rfl⟩
            exact ⟨k + 1, by omega, by go_num, HT13, HL13, HB13, hz13⟩
          case measure => simp [intOf]; omega
        · obtain rfl : k = rn := by omega
          go_wp2_with fail
          refine (tslot_any wr b g s s l' HT.out sl).mono ?_
          rintro e w9 ⟨hslot, hb9⟩
          have hslot := HK.out.slot hslot
          have HL9 : Hid (LiesV w9 M Ar (ents r)) := HL.out.below (hb9.mono hz)
          have HB9 : Hid (Below N w w9) := HB.out.trans (hb9.mono (by omega))
          have hz9 : M ≤ w9.heap.size := by have := hb9.size; omega
          clear hb9 HT HL HB HZ hz
          obtain ⟨y, has, rfl, hys⟩ : ∃ (y : Ent) (has : Bool), e = entV y has ∧ ((has = true ∧ y ∈ r ∧ y.slot = sl) ∨ (has = false ∧ ∀ f ∈ r, f.slot ≠ sl)) := by
            rcases hslot with ⟨f2, h1, h2, h3⟩ | ⟨h1, h2⟩
            · exact ⟨f2, true, h3, .inl ⟨rfl, h1, h2⟩⟩
            · exact ⟨zeroEnt, false, h2, .inr ⟨rfl, h1⟩⟩
          have Hys := Lib.hid hys
          clear hslot hys
          unfold entV
          go_wp2_with (first
            | ((with_reducible refine at_alloc 32 ?_); refine wpList_alloc_rowV rfl 32 rfl zeroEnt.cs Try.zeroEnt11 ?_; intro w11 hra hba hsa; obtain ⟨G, hG⟩ : ∃ q, w9.heap.size = q := ⟨_, rfl⟩; rw [hG] at hra hba ⊢)
            | ((with_reducible refine at_store 32 ?_); refine wpList_store_rowV rfl 32 _ _ rfl G y.cs rfl rfl 32 zeroEnt.cs hra (by rw [List.size_toArray]; exact ent_size _) (by rw [List.size_toArray, List.size_toArray, Ent.cs_length, Ent.cs_length]) (all_oneCell_toArray (Ent.one _)) ?_; intro w12 hrb hgb hsb; have hbb : Below w9.heap.size w9 w12 := (by rw [hG]; exact below_grown hba hgb (Nat.le_refl _) (by have := hba.size; omega))))
          have HG := Lib.hid (row_range hrb)
          have hGl := hrb.lt
          clear hra hba hsa hrb hgb hsb
          have HL12 : Hid (LiesV w12 M Ar (ents r)) := HL9.out.below (hbb.mono hz9)
          have HB12 : Hid (Below N w w12) := HB9.out.trans (hbb.mono (by omega))
          have hz12 : M ≤ w12.heap.size := by have := hbb.size; omega
          clear hbb HL9 HB9 hz9
          have HS0 : Hid ((r.take 0).any (fun f => f.slot == sl) = false) := rfl
          go_loopw [20, 21] (fun v20 v W => ∃ (j : Nat) (so : Bool), j ≤ k ∧ v = .int .i64 j ∧ v20 = .bool so ∧ Hid ((r.take j).any (fun f => f.slot == sl) = so) ∧ W = w12) (fun _ v _ => k - (intOf v).toNat)
          case atStart => exact ⟨0, false, Nat.zero_le _, rfl, rfl, HS0, rfl⟩
          case round =>
            obtain ⟨j, so, hj, rfl, rfl, HSo, rfl⟩ := hrel
            clear HS0
            by_cases hlt2 : j < k
            · have hlt2' : (j : Int) < (k : Int) := by omega
              have hj0 : (0 : Int) ≤ (j : Int) := by omega
              obtain ⟨x, hx⟩ : ∃ x, r[j]? = some x := ⟨_, List.getElem?_eq_getElem (by rw [Hrn.out]; exact hlt2)⟩
              obtain ⟨br, or_, hAr, hbr, hrr⟩ := lies_ent HL12.out hx
              subst hAr
              have cs := slot_of hrr
              have Hx := Lib.hid hx
              have HSn : Hid ((r.take (j + 1)).any (fun f => f.slot == sl) = (so || (x.slot == sl))) := by
                show _ = _
                rw [← HSo.out, take_snoc Hx.out, List.any_append]
                simp
              clear hx hrr
              cases so
              · rw [Bool.false_or] at HSn
                generalize x.slot = z at *
                generalize hz2 : (z == sl) = bz at *
                go_wp2_with fail
                go_roundw
                case rel => exact ⟨j + 1, bz, by omega, by go_num, by go_num, HSn, trivial⟩
                case measure => simp [intOf]; omega
              · rw [Bool.true_or] at HSn
                go_wp2_with fail
                go_roundw
                case rel => exact ⟨j + 1, true, by omega, by go_num, by go_num, HSn, trivial⟩
                case measure => simp [intOf]; omega
            · obtain rfl : j = k := by omega
              rcases Hys.out with ⟨rfl, hyr, hysl⟩ | ⟨rfl, hys⟩
              · obtain rfl : so = true := by
                  rw [← HSo.out, List.take_of_length_le (by rw [Hrn.out]; exact Nat.le_refl _)]
                  exact List.any_eq_true.2 ⟨y, hyr, by rw [beq_iff_eq]; exact hysl⟩
                have Hyr := Lib.hid hyr
                have cy := slot_of HG.out
                rw [hysl] at cy
                have qy := Lib.hid (adr_of HG.out)
                have HszY := Lib.hid (adr_size y.adr)
                clear hyr hysl
                go_wp2_with ((with_reducible refine at_loadG 23 ?_); refine wpList_load_midG rfl 23 _ rfl G 0 rfl (cells y.adr.1) _ qy.out Try.underlying23 rfl HszY.out ?_)
                refine (rfind_any _ M j cr Ar r y.adr HL12.out Hrn.out.symm hz12 (by omega) hcr).mono ?_
                rintro e w13 ⟨⟨kk, rfl, hf⟩, hb13⟩
                obtain ⟨k2, rfl⟩ : ∃ k2 : Nat, kk = k2 := by
                  rcases hf with ⟨k2, _, h, _⟩ | ⟨_, hno⟩
                  · exact ⟨k2, h⟩
                  · exact absurd rfl (hno y Hyr.out)
                have hdk : decide ((k2 : Int) ≥ 0) = true := decide_eq_true (by omega)
                have hdk' : (0 : Int) ≤ (k2 : Int) := by omega
                have HB13 : Hid (Below N w w13) := HB12.out.trans (hb13.mono (by omega))
                have hz13 : N ≤ w13.heap.size := by have := hb13.size; omega
                clear hf hb13
                go_wp2_with fail
                refine (HW.out w13).mono ?_
                rintro e w14 ⟨rfl, hb14⟩
                go_wp2_with fail
                go_ret
                exact ⟨rfl, by rw [hN]; exact HB13.out.trans (hb14.mono hz13)⟩
              · obtain rfl : so = false := by
                  rw [← HSo.out, List.take_of_length_le (by rw [Hrn.out]; exact Nat.le_refl _)]
                  rw [List.any_eq_false]
                  intro f2 h1
                  rw [beq_iff_eq]
                  exact hys f2 h1
                clear hys
                go_wp2_with fail
                refine (HW.out _).mono ?_
                rintro e w14 ⟨rfl, hb14⟩
                go_wp2_with fail
                go_ret
                exact ⟨rfl, by rw [hN]; exact HB12.out.trans (hb14.mono (by omega))⟩
  · have hd1 : decide ((m1 : Int) > 80) = true := decide_eq_true (by omega)
    go_wp2_with fail
    refine (HW.out w0).mono ?_
    rintro e w6 ⟨rfl, hb6⟩
    go_wp2_with fail
    go_ret
    exact ⟨rfl, by rw [hN]; exact HB0.out.trans (hb6.mono (by omega))⟩
end Go.Proofs.Ytkkllmjomdbndaa
