/-
  Layer 13: the contract of the law ChunkCuts.
-/
import Derived.Test.YtmcbpifkclhfiaaDoorPkChkW
import Derived.Test.YtmcbpifkclhfiaaDoorPkEqF
namespace Go.Proofs.YtmcbpifkclhfiaaDoor
open Go.RowKit Go.Shelf
set_option linter.unusedVariables false
set_option linter.unusedSimpArgs false
attribute [local go_sem] Oper.semAt_some

set_option maxRecDepth 100000 in
theorem cuts_long (HW : Works13) (w : World) (hT : Tab w) (n c : Nat) (A : Option Addr) (hbig : 3000 < n) (hc : n ≤ c) (hm : c ≤ maxLen) (s i : Int) :
    Calls Tryd.prog 3 #[.slice A n c, .int .i64 s, .int .i64 i] w fun e w' => e = .returned (.bool true) ∧ Below w.heap.size w w' := by
  have hm2 : c ≤ 9223372036854775807 := by unfold maxLen at hm; exact hm
  have hd : decide (3000 < (n : Int)) = true := decide_eq_true (by omega)
  have o1 := One.new w (.bool false) 4
  have hb1 : Below w.heap.size w (w.alloc (.cells #[.bool false] 4)) := (Below.refl _ _).alloc (Nat.le_refl _) _
  have hs1 : w.heap.size < (w.alloc (.cells #[.bool false] 4)).heap.size := by simp
  go_enter Tryd.func3, Tryd.ntmps3
  go_wp2_with fail
  generalize w.alloc (.cells #[.bool false] 4) = w1 at *
  refine (HW w1 (hT.below hb1)).mono ?_
  rintro e w2 ⟨rfl, hb2⟩
  have o2 := o1.below hb2 hs1
  have hc2 := o2.cell
  have hf2 := o2.free
  go_wp2_with fail
  have hc3 := (o2.set (.bool true)).cell
  refine bodyPost_ret (by simp [results, Tryd.f3, go_sem, hc3]) rfl ⟨rfl, ?_⟩
  exact (hb1.trans (hb2.mono (Nat.le_of_lt hs1))).setCell (p := ⟨w.heap.size, 0, none⟩) (Nat.le_refl _) _

set_option maxRecDepth 100000 in
set_option maxHeartbeats 16000000 in
theorem cuts_any (HW : Works13) (w : World) (hT : Tab w) (B n c : Nat) (A : Option Addr) (b : List UInt8) (h : Lies w B A b) (hB : B ≤ w.heap.size) (hn : n = b.length) (hc : n ≤ c) (hm : c ≤ maxLen) (hbig : ¬ 3000 < n)
    (s i : Int) (hs1 : -9223372036854775808 ≤ s) (hs2 : s ≤ 9223372036854775807) (hi1 : -9223372036854775808 ≤ i) (hi2 : i ≤ 9223372036854775807) :
    Calls Tryd.prog 3 #[.slice A n c, .int .i64 s, .int .i64 i] w fun e w' => e = .returned (.bool true) ∧ Below w.heap.size w w' := by
  have Hn := Lib.hid hn
  have H := Lib.hid h
  have HW := Lib.hid HW
  clear hn h
  have hm2 : c ≤ 9223372036854775807 := by unfold maxLen at hm; exact hm
  have hd : decide (3000 < (n : Int)) = false := decide_eq_false (by omega)
  obtain ⟨m, hmm⟩ : ∃ m, countK n = m := ⟨_, rfl⟩
  have hmb : m ≤ 12 := by rw [← hmm]; unfold countK; omega
  have Hmm := Lib.hid hmm
  have o1 := One.new w (.bool false) 4
  have hb1 : Below w.heap.size w (w.alloc (.cells #[.bool false] 4)) := (Below.refl _ _).alloc (Nat.le_refl _) _
  have hs1' : w.heap.size < (w.alloc (.cells #[.bool false] 4)).heap.size := by simp
  refine calls_of_wp_marks Tryd.func3 rfl ?_
  simp only [Tryd.ntmps3, List.size_toArray, List.length_cons, List.length_nil, Nat.reduceAdd, Nat.reduceSub, Array.replicate_succ, Array.replicate_zero, List.push_toArray, List.append_toArray, List.nil_append, List.cons_append]
  go_wp2_with fail
  generalize w.alloc (.cells #[.bool false] 4) = w1 at *
  obtain ⟨K, hK⟩ : ∃ K, w.heap.size = K := ⟨_, rfl⟩
  have hKw : K ≤ w.heap.size := by omega
  have HK := Lib.hid hK
  rw [hK] at o1 hb1 hs1' hB ⊢
  clear hK
  refine (ksplit_any A n c b w1 B (H.out.below (hb1.mono hB)) (by omega) Hn.out (by omega)).mono ?_
  rintro e w2 ⟨L1, ps1, cl1, rfl, hps1, hpa1, hcl1, hb2⟩
  rw [hmm] at hcl1 ⊢
  have hlen1 : ps1.length = m := by rw [pieces_len hps1, ← Hn.out]; exact hmm
  have o2 := o1.below hb2 o1.lt
  have hB2 : Below K w w2 := hb1.trans (hb2.mono (by omega))
  have hs2' : K < w2.heap.size := by have := hb2.size; omega
  clear o1 hb1 hb2 hs1'
  go_wp2_with fail
  refine (rsplit_any n A n c b w2 B (Nat.le_refl _) (H.out.below (hB2.mono hB)) (by omega) Hn.out hc hm (by omega)).mono ?_
  rintro e w3 ⟨L2, ps2, cl2, rfl, hps2, hpa2, hpo2, _, hcl2, hb3⟩
  rw [hmm] at hcl2 ⊢
  have hlen2 : ps2.length = m := by rw [pieces_len hps2, ← Hn.out]; exact hmm
  have o3 := o2.below hb3 o2.lt
  have hpa13 := hpa1.below hb3
  have hB3 : Below K w w3 := hB2.trans (hb3.mono (by omega))
  have hs3' : K < w3.heap.size := by have := hb3.size; omega
  have h23 : w2.heap.size ≤ w3.heap.size := hb3.size
  clear o2 hB2 hb3 hpa1
  go_wp2_with fail
  obtain ⟨N8, hN8⟩ : ∃ N8, w3.heap.size = N8 := ⟨_, rfl⟩
  obtain ⟨w4, hw4⟩ : ∃ w4, w3.alloc (.cells #[.slice L2 m cl2] 24) = w4 := ⟨_, rfl⟩
  have o8 : One w4 N8 (.slice L2 m cl2) 24 := by rw [← hw4, ← hN8]; exact One.new w3 _ _
  have hb4 : Below w3.heap.size w3 w4 := by rw [← hw4]; exact (Below.refl _ _).alloc (Nat.le_refl _) _
  have o4 := o3.below hb4 o3.lt
  have Hpa1 := Lib.hid (hpa13.below (hb4.mono h23))
  have Hpa2 := Lib.hid (hpa2.below hb4)
  have Hpo2 : Hid (∀ p ∈ ps2, p.ok w4 B) := fun p hp => ⟨(hpo2 p hp).1.below (hb4.mono (by omega)), (hpo2 p hp).2⟩
  have Hps1 := Lib.hid hps1
  have Hps2 := Lib.hid hps2
  have Hlen1 := Lib.hid hlen1
  have Hlen2 := Lib.hid hlen2
  have hB4 : Below K w w4 := hB3.trans (hb4.mono (by omega))
  have hs4 : w4.heap.size = N8 + 1 := by rw [← hw4, ← hN8]; simp
  have hKN : K < N8 := by omega
  have h2N : w2.heap.size ≤ N8 := by omega
  have hTp : Hid (0 < K) := by show 0 < K; have := hT.pos; rw [HK.out] at this; exact this
  have HT4 : Hid (Tab w4) := hT.belowN (by have := hT.pos; rw [HK.out] at this; exact this) hB4
  have Hx4 : Hid (Lies w4 B A b) := H.out.below (hB4.mono hB)
  rw [hw4, hN8]
  rw [hN8] at Hpa2
  clear hw4 hN8 hb4 o3 hB3 hs3' h23 hpa13 hpa2 hpo2 hps1 hps2 hlen1 hlen2 hs2' hT
  generalize w2.heap.size = N2 at *
  go_wp2_with fail
  have o4d : One w4.drew K (.bool false) 4 := o4
  have o8d : One w4.drew N8 (.slice L2 m cl2) 24 := o8
  have hc8 := o8d.cell
  have hlt8 : N8 < w4.drew.heap.size := by show N8 < w4.heap.size; omega
  have HP1 : Hid (PartsAt w4.drew N2 L1 ps1) := Hpa1.out
  have HP2 : Hid (PartsAt w4.drew N8 L2 ps2) := Hpa2.out
  have HQ2 : Hid (∀ p ∈ ps2, p.ok w4.drew B) := Hpo2.out
  have HTd : Hid (Tab w4.drew) := HT4.out
  have Hxd : Hid (Lies w4.drew B A b) := Hx4.out
  have HBd : Hid (Below K w w4.drew) := hB4.drew
  have hsd : w4.drew.heap.size = N8 + 1 := hs4
  refine wp_region_held_drew (S := fun W => Below w4.drew.heap.size w4.drew W) (by kernel_rfl) (Below.refl _ _) (fun hHeld => ?_)
  obtain ⟨wd, hwd⟩ : ∃ wd, w4.drew = wd := ⟨_, rfl⟩
  rw [hwd] at o4d o8d hc8 hlt8 hHeld HP1 HP2 HQ2 HTd Hxd HBd hsd ⊢
  clear Hpa1 Hpa2 Hpo2 HT4 Hx4 hB4 hs4 o4 o8 hwd
  have hSc : Below wd.heap.size wd wd := Below.refl _ _
  refine wpAnyH_take (i := 0) (oi := ⟨_, _, _, _, _, _⟩) (v := ?_) rfl (by kernel_rfl) (by kernel_rfl) (by kernel_rfl) (fun _ _ _ h => h) (Or.inl ⟨by rfl, ?_⟩) (by assumption) ?_
  rotate_left
  · intro W hSW; go_simp; try with_reducible rfl
  try simp only [Act.put, List.setIfInBounds_toArray, List.set_cons_zero, List.set_cons_succ]
  refine wpAnyH_take (i := 2) (oi := ⟨_, _, _, _, _, _⟩) (v := ?_) rfl (by kernel_rfl) (by kernel_rfl) (by kernel_rfl) (fun _ _ _ h => h) (Or.inl ⟨by rfl, ?_⟩) (by assumption) ?_
  rotate_left
  · intro W hSW; go_simp; try with_reducible rfl
  try simp only [Act.put, List.setIfInBounds_toArray, List.set_cons_zero, List.set_cons_succ]
  refine wpAnyH_ready (rs := [1]) (by kernel_rfl) (by simp) ?_
  refine AllReadyH.cons (o := ⟨_, _, _, _, _, _⟩) rfl (fun K hK => ?_) AllReadyH.nil
  go_simp
  refine (kcheck_any A n c wd (by omega)).mono ?_
  rintro e ws1 ⟨rfl, rfl⟩
  try simp only []
  refine hK.out _ _ hSc (fun hHeld => ?_)
  clear hK K
  try simp only [Act.put, List.setIfInBounds_toArray, List.set_cons_zero, List.set_cons_succ]
  refine wpAnyH_ready (rs := [3]) (by kernel_rfl) (by simp) ?_
  refine AllReadyH.cons (o := ⟨_, _, _, _, _, _⟩) rfl (fun K hK => ?_) AllReadyH.nil
  go_simp
  refine (rcheck_any A n c wd (by omega)).mono ?_
  rintro e ws3 ⟨rfl, rfl⟩
  try simp only []
  refine hK.out _ _ hSc (fun hHeld => ?_)
  clear hK K
  try simp only [Act.put, List.setIfInBounds_toArray, List.set_cons_zero, List.set_cons_succ]
  generalize checkK n = ck at *
  refine wpAnyH_take (i := 4) (oi := ⟨_, _, _, _, _, _⟩) (v := (.bool false)) rfl (by kernel_rfl) (by kernel_rfl) (by kernel_rfl) (fun _ _ _ h => h) (Or.inl ⟨by rfl, ?_⟩) (by assumption) ?_
  · intro W hSW; go_simp; try with_reducible rfl
  try simp only [Act.put, List.setIfInBounds_toArray, List.set_cons_zero, List.set_cons_succ]
  refine wpAnyH_take (i := 5) (oi := ⟨_, _, _, _, _, _⟩) (v := ?_) rfl (by kernel_rfl) (by kernel_rfl) (by kernel_rfl) (fun _ _ _ h => h) (Or.inl ⟨by rfl, ?_⟩) (by assumption) ?_
  rotate_left
  · intro W hSW; go_simp; try with_reducible rfl
  try simp only [Act.put, List.setIfInBounds_toArray, List.set_cons_zero, List.set_cons_succ]
  refine wpAnyH_take (i := 6) (oi := ⟨_, _, _, _, _, _⟩) (v := ?_) rfl (by kernel_rfl) (by kernel_rfl) (by kernel_rfl) (fun _ _ _ h => h) (Or.inl ⟨by rfl, ?_⟩) (by assumption) ?_
  rotate_left
  · intro W hSW; go_simp; try with_reducible rfl
  try simp only [Act.put, List.setIfInBounds_toArray, List.set_cons_zero, List.set_cons_succ]
  refine wpAnyH_take (i := 7) (oi := ⟨_, _, _, _, _, _⟩) (v := ?_) rfl (by kernel_rfl) (by kernel_rfl) (by kernel_rfl) (fun _ _ _ h => h) (Or.inl ⟨by rfl, ?_⟩) (by assumption) ?_
  rotate_left
  · intro W hSW; go_simp; try with_reducible rfl
  try simp only [Act.put, List.setIfInBounds_toArray, List.set_cons_zero, List.set_cons_succ]
  refine wpAnyH_take (i := 8) (oi := ⟨_, _, _, _, _, _⟩) (v := ?_) rfl (by kernel_rfl) (by kernel_rfl) (by kernel_rfl) (fun _ _ _ h => h) (Or.inl ⟨by rfl, ?_⟩) (by assumption) ?_
  rotate_left
  · intro W hSW; have hcW := (hSW.cell (p := ⟨N8, 0, none⟩) hlt8).trans hc8; go_simp; try with_reducible rfl
  try simp only [Act.put, List.setIfInBounds_toArray, List.set_cons_zero, List.set_cons_succ]
  refine wpAnyH_take (i := 9) (oi := ⟨_, _, _, _, _, _⟩) (v := ?_) rfl (by kernel_rfl) (by kernel_rfl) (by kernel_rfl) (fun _ _ _ h => h) (Or.inl ⟨by rfl, ?_⟩) (by assumption) ?_
  rotate_left
  · intro W hSW; go_simp; try with_reducible rfl
  try simp only [Act.put, List.setIfInBounds_toArray, List.set_cons_zero, List.set_cons_succ]
  refine wpAnyH_take (i := 10) (oi := ⟨_, _, _, _, _, _⟩) (v := (.bool false)) rfl (by kernel_rfl) (by kernel_rfl) (by kernel_rfl) (fun _ _ _ h => h) (Or.inl ⟨by rfl, ?_⟩) (by assumption) ?_
  · intro W hSW; go_simp; try with_reducible rfl
  try simp only [Act.put, List.setIfInBounds_toArray, List.set_cons_zero, List.set_cons_succ]
  refine wpAnyH_take (i := 11) (oi := ⟨_, _, _, _, _, _⟩) (v := ?_) rfl (by kernel_rfl) (by kernel_rfl) (by kernel_rfl) (fun _ _ _ h => h) (Or.inl ⟨by rfl, ?_⟩) (by assumption) ?_
  rotate_left
  · intro W hSW; go_simp; try with_reducible rfl
  try simp only [Act.put, List.setIfInBounds_toArray, List.set_cons_zero, List.set_cons_succ]
  refine wpAnyH_take (i := 12) (oi := ⟨_, _, _, _, _, _⟩) (v := ?_) rfl (by kernel_rfl) (by kernel_rfl) (by kernel_rfl) (fun _ _ _ h => h) (Or.inl ⟨by rfl, ?_⟩) (by assumption) ?_
  rotate_left
  · intro W hSW; go_simp; try with_reducible rfl
  try simp only [Act.put, List.setIfInBounds_toArray, List.set_cons_zero, List.set_cons_succ]
  refine wpAnyH_take (i := 13) (oi := ⟨_, _, _, _, _, _⟩) (v := ?_) rfl (by kernel_rfl) (by kernel_rfl) (by kernel_rfl) (fun _ _ _ h => h) (Or.inl ⟨by rfl, ?_⟩) (by assumption) ?_
  rotate_left
  · intro W hSW; go_simp; try with_reducible rfl
  try simp only [Act.put, List.setIfInBounds_toArray, List.set_cons_zero, List.set_cons_succ]
  refine wpAnyH_take (i := 14) (oi := ⟨_, _, _, _, _, _⟩) (v := ?_) rfl (by kernel_rfl) (by kernel_rfl) (by kernel_rfl) (fun _ _ _ h => h) (Or.inl ⟨by rfl, ?_⟩) (by assumption) ?_
  rotate_left
  · intro W hSW; go_simp; try with_reducible rfl
  try simp only [Act.put, List.setIfInBounds_toArray, List.set_cons_zero, List.set_cons_succ]
  refine wpAnyH_take (i := 16) (oi := ⟨_, _, _, _, _, _⟩) (v := ?_) rfl (by kernel_rfl) (by kernel_rfl) (by kernel_rfl) (fun _ _ _ h => h) (Or.inl ⟨by rfl, ?_⟩) (by assumption) ?_
  rotate_left
  · intro W hSW; have hcW := (hSW.cell (p := ⟨N8, 0, none⟩) hlt8).trans hc8; go_simp; try with_reducible rfl
  try simp only [Act.put, List.setIfInBounds_toArray, List.set_cons_zero, List.set_cons_succ]
  refine wpAnyH_take (i := 17) (oi := ⟨_, _, _, _, _, _⟩) (v := ?_) rfl (by kernel_rfl) (by kernel_rfl) (by kernel_rfl) (fun _ _ _ h => h) (Or.inl ⟨by rfl, ?_⟩) (by assumption) ?_
  rotate_left
  · intro W hSW; go_simp; try with_reducible rfl
  try simp only [Act.put, List.setIfInBounds_toArray, List.set_cons_zero, List.set_cons_succ]
  refine wpAnyH_ready (rs := [15]) (by kernel_rfl) (by simp) ?_
  refine AllReadyH.cons (o := ⟨_, _, _, _, _, _⟩) rfl (fun K hK => ?_) AllReadyH.nil
  go_simp
  refine (kcount_any (n : Int) wd (by omega) (by omega)).mono ?_
  rintro e ws15 ⟨rfl, rfl⟩
  try simp only []
  refine hK.out _ _ hSc (fun hHeld => ?_)
  clear hK K
  try simp only [Act.put, List.setIfInBounds_toArray, List.set_cons_zero, List.set_cons_succ]
  rw [Int.toNat_natCast, Hmm.out]
  refine wpAnyH_take (i := 18) (oi := ⟨_, _, _, _, _, _⟩) (v := (.bool false)) rfl (by kernel_rfl) (by kernel_rfl) (by kernel_rfl) (fun _ _ _ h => h) (Or.inl ⟨by rfl, ?_⟩) (by assumption) ?_
  · intro W hSW; go_simp; try with_reducible rfl
  try simp only [Act.put, List.setIfInBounds_toArray, List.set_cons_zero, List.set_cons_succ]
  refine wpAnyH_take (i := 19) (oi := ⟨_, _, _, _, _, _⟩) (v := ?_) rfl (by kernel_rfl) (by kernel_rfl) (by kernel_rfl) (fun _ _ _ h => h) (Or.inl ⟨by rfl, ?_⟩) (by assumption) ?_
  rotate_left
  · intro W hSW; go_simp; try with_reducible rfl
  try simp only [Act.put, List.setIfInBounds_toArray, List.set_cons_zero, List.set_cons_succ]
  refine wpAnyH_done (by kernel_rfl) ?_ _
  clear hc8 hSc
  have hB0 : Below (N8 + 1) wd wd := Below.refl _ _
  go_wp2_with fail
  go_loopw [9] (fun i W => ∃ k : Nat, k ≤ m ∧ i = .int .i64 k ∧ Hid (Below (N8 + 1) wd W)) (fun i _ => m - (intOf i).toNat)
  case atStart => exact ⟨0, Nat.zero_le _, rfl, hB0⟩
  case round =>
    obtain ⟨k, hk, rfl, HB⟩ := hrel
    clear hB0
    have hsr : N8 + 1 ≤ wr.heap.size := by have := HB.out.size; omega
    have ho8 : One wr.drew N8 (.slice L2 m cl2) 24 := (HB.out.drew.block N8 (Nat.lt_succ_self _)).trans o8d
    have hc8 := ho8.cell
    have hlt8r : N8 < wr.drew.heap.size := by show N8 < wr.heap.size; omega
    have hc8w : wr.cell? ⟨N8, 0, none⟩ = some (.slice L2 m cl2) := hc8
    by_cases hlt : k < m
    · obtain ⟨b1, x1, p1, rfl, hp1, hcp1, hok1⟩ := HP1.out.at_ (k := k) (by rw [Hlen1.out]; exact hlt)
      obtain ⟨b2, x2, p2, rfl, hp2, hcp2, hok2⟩ := HP2.out.at_ (k := k) (by rw [Hlen2.out]; exact hlt)
      have hkc : k < countK b.length := by rw [← Hn.out, Hmm.out]; exact hlt
      have hx1 : p1.xs = chunkK b k := by
        have : (ps1.map Piece.xs)[k]? = some p1.xs := by rw [List.getElem?_map, hp1]; rfl
        rw [Hps1.out, chunksK_get hkc] at this
        exact (Option.some.inj this).symm
      have hx2 : p2.xs = chunkK b k := by
        have : (ps2.map Piece.xs)[k]? = some p2.xs := by rw [List.getElem?_map, hp2]; rfl
        rw [Hps2.out, chunksK_get hkc] at this
        exact (Option.some.inj this).symm
      obtain ⟨A1, q1, c1, y1⟩ := p1
      obtain ⟨A2, q2, c2, y2⟩ := p2
      simp only at hx1 hx2 hcp1 hcp2
      subst hx1 hx2
      obtain ⟨hl1, hq1, _, _⟩ := hok1
      obtain ⟨hl2, hq2, _, _⟩ := hok2
      simp only [chunkK_length] at hl1 hq1 hl2 hq2
      obtain ⟨q, hq⟩ : ∃ q, partK b.length k = q := ⟨_, rfl⟩
      rw [hq] at hq1 hq2
      subst hq1 hq2
      have Hq : Hid (q2 = (chunkK b k).length) := by show _ = _; rw [chunkK_length, hq]
      have Hqp : Hid (partI (n : Int) (k : Int) = (q2 : Int)) := by show _ = _; unfold partI; rw [if_neg (by omega), Int.toNat_natCast, Int.toNat_natCast, Hn.out, hq]
      have hb1l : b1 < N8 + 1 := by have := World.block_lt_of_cell? wd ⟨b1, x1 + k, none⟩ hcp1; simp only at this; omega
      have hb2l : b2 < N8 + 1 := by have := World.block_lt_of_cell? wd ⟨b2, x2 + k, none⟩ hcp2; simp only at this; omega
      have hd1 : wr.drew.cell? ⟨b1, x1 + k, none⟩ = some (.slice A1 q2 c1) := (HB.out.cell (p := ⟨b1, x1 + k, none⟩) hb1l).trans hcp1
      have hd2 : wr.drew.cell? ⟨b2, x2 + k, none⟩ = some (.slice A2 q2 c2) := (HB.out.cell (p := ⟨b2, x2 + k, none⟩) hb2l).trans hcp2
      have hl1r : b1 < wr.drew.heap.size := by show b1 < wr.heap.size; omega
      have hl2r : b2 < wr.drew.heap.size := by show b2 < wr.heap.size; omega
      have hL1 : Lies wr.drew (N8 + 1) A1 (chunkK b k) := (hl1.le (B' := N8 + 1) (by omega)).below HB.out.drew
      have hL2 : Lies wr.drew (N8 + 1) A2 (chunkK b k) := (hl2.le (B' := N8 + 1) (by omega)).below HB.out.drew
      have HBd2 : Hid (Below (N8 + 1) wd wr.drew) := HB.out.drew
      clear hp1 hp2 hcp1 hcp2 hl1 hl2 hq HB hkc
      go_wp2_with fail
      refine wp_region_held_drew (S := fun W => Below wr.drew.heap.size wr.drew W) (by kernel_rfl) (Below.refl _ _) (fun hHeld => ?_)
      generalize wr.drew = wq at *
      have hSc : Below wq.heap.size wq wq := Below.refl _ _
      refine wpAnyH_take (i := 0) (oi := ⟨_, _, _, _, _, _⟩) (v := ?_) rfl (by kernel_rfl) (by kernel_rfl) (by kernel_rfl) (fun _ _ _ h => h) (Or.inl ⟨by rfl, ?_⟩) (by assumption) ?_
      rotate_left
      · intro W hSW; go_simp; try with_reducible rfl
      try simp only [Act.put, List.setIfInBounds_toArray, List.set_cons_zero, List.set_cons_succ]
      refine wpAnyH_take (i := 1) (oi := ⟨_, _, _, _, _, _⟩) (v := ?_) rfl (by kernel_rfl) (by kernel_rfl) (by kernel_rfl) (fun _ _ _ h => h) (Or.inl ⟨by rfl, ?_⟩) (by assumption) ?_
      rotate_left
      · intro W hSW; go_simp; try with_reducible rfl
      try simp only [Act.put, List.setIfInBounds_toArray, List.set_cons_zero, List.set_cons_succ]
      refine wpAnyH_take (i := 2) (oi := ⟨_, _, _, _, _, _⟩) (v := ?_) rfl (by kernel_rfl) (by kernel_rfl) (by kernel_rfl) (fun _ _ _ h => h) (Or.inl ⟨by rfl, ?_⟩) (by assumption) ?_
      rotate_left
      · intro W hSW; go_simp; try with_reducible rfl
      try simp only [Act.put, List.setIfInBounds_toArray, List.set_cons_zero, List.set_cons_succ]
      refine wpAnyH_take (i := 3) (oi := ⟨_, _, _, _, _, _⟩) (v := ?_) rfl (by kernel_rfl) (by kernel_rfl) (by kernel_rfl) (fun _ _ _ h => h) (Or.inl ⟨by rfl, ?_⟩) (by assumption) ?_
      rotate_left
      · intro W hSW; have hcW := (hSW.cell (p := ⟨b1, x1 + k, none⟩) hl1r).trans hd1; go_simp; try with_reducible rfl
      try simp only [Act.put, List.setIfInBounds_toArray, List.set_cons_zero, List.set_cons_succ]
      refine wpAnyH_take (i := 4) (oi := ⟨_, _, _, _, _, _⟩) (v := ?_) rfl (by kernel_rfl) (by kernel_rfl) (by kernel_rfl) (fun _ _ _ h => h) (Or.inl ⟨by rfl, ?_⟩) (by assumption) ?_
      rotate_left
      · intro W hSW; have hcW := (hSW.cell (p := ⟨N8, 0, none⟩) hlt8r).trans hc8; go_simp; try with_reducible rfl
      try simp only [Act.put, List.setIfInBounds_toArray, List.set_cons_zero, List.set_cons_succ]
      refine wpAnyH_take (i := 5) (oi := ⟨_, _, _, _, _, _⟩) (v := ?_) rfl (by kernel_rfl) (by kernel_rfl) (by kernel_rfl) (fun _ _ _ h => h) (Or.inl ⟨by rfl, ?_⟩) (by assumption) ?_
      rotate_left
      · intro W hSW; go_simp; try with_reducible rfl
      try simp only [Act.put, List.setIfInBounds_toArray, List.set_cons_zero, List.set_cons_succ]
      refine wpAnyH_take (i := 6) (oi := ⟨_, _, _, _, _, _⟩) (v := ?_) rfl (by kernel_rfl) (by kernel_rfl) (by kernel_rfl) (fun _ _ _ h => h) (Or.inl ⟨by rfl, ?_⟩) (by assumption) ?_
      rotate_left
      · intro W hSW; go_simp; try with_reducible rfl
      try simp only [Act.put, List.setIfInBounds_toArray, List.set_cons_zero, List.set_cons_succ]
      refine wpAnyH_take (i := 7) (oi := ⟨_, _, _, _, _, _⟩) (v := ?_) rfl (by kernel_rfl) (by kernel_rfl) (by kernel_rfl) (fun _ _ _ h => h) (Or.inl ⟨by rfl, ?_⟩) (by assumption) ?_
      rotate_left
      · intro W hSW; have hcW := (hSW.cell (p := ⟨b2, x2 + k, none⟩) hl2r).trans hd2; go_simp; try with_reducible rfl
      try simp only [Act.put, List.setIfInBounds_toArray, List.set_cons_zero, List.set_cons_succ]
      refine wpAnyH_ready (rs := [8]) (by kernel_rfl) (by simp) ?_
      refine AllReadyH.cons (o := ⟨_, _, _, _, _, _⟩) rfl (fun K hK => ?_) AllReadyH.nil
      go_simp
      refine (same_any A1 A2 q2 q2 c1 c2 (chunkK b k) (chunkK b k) wq (N8 + 1) Hq.out Hq.out hL1 hL2).mono ?_
      rintro e ws8 ⟨rfl, rfl⟩
      try simp only []
      refine hK.out _ _ hSc (fun hHeld => ?_)
      clear hK K
      try simp only [Act.put, List.setIfInBounds_toArray, List.set_cons_zero, List.set_cons_succ]
      rw [beq_self_eq_true (chunkK b k)]
      refine wpAnyH_take (i := 9) (oi := ⟨_, _, _, _, _, _⟩) (v := ?_) rfl (by kernel_rfl) (by kernel_rfl) (by kernel_rfl) (fun _ _ _ h => h) (Or.inl ⟨by rfl, ?_⟩) (by assumption) ?_
      rotate_left
      · intro W hSW; go_simp; try with_reducible rfl
      try simp only [Act.put, List.setIfInBounds_toArray, List.set_cons_zero, List.set_cons_succ]
      refine wpAnyH_take (i := 10) (oi := ⟨_, _, _, _, _, _⟩) (v := ?_) rfl (by kernel_rfl) (by kernel_rfl) (by kernel_rfl) (fun _ _ _ h => h) (Or.inl ⟨by rfl, ?_⟩) (by assumption) ?_
      rotate_left
      · intro W hSW; go_simp; try with_reducible rfl
      try simp only [Act.put, List.setIfInBounds_toArray, List.set_cons_zero, List.set_cons_succ]
      refine wpAnyH_take (i := 11) (oi := ⟨_, _, _, _, _, _⟩) (v := ?_) rfl (by kernel_rfl) (by kernel_rfl) (by kernel_rfl) (fun _ _ _ h => h) (Or.inl ⟨by rfl, ?_⟩) (by assumption) ?_
      rotate_left
      · intro W hSW; go_simp; try with_reducible rfl
      try simp only [Act.put, List.setIfInBounds_toArray, List.set_cons_zero, List.set_cons_succ]
      refine wpAnyH_take (i := 12) (oi := ⟨_, _, _, _, _, _⟩) (v := ?_) rfl (by kernel_rfl) (by kernel_rfl) (by kernel_rfl) (fun _ _ _ h => h) (Or.inl ⟨by rfl, ?_⟩) (by assumption) ?_
      rotate_left
      · intro W hSW; go_simp; try with_reducible rfl
      try simp only [Act.put, List.setIfInBounds_toArray, List.set_cons_zero, List.set_cons_succ]
      refine wpAnyH_take (i := 13) (oi := ⟨_, _, _, _, _, _⟩) (v := ?_) rfl (by kernel_rfl) (by kernel_rfl) (by kernel_rfl) (fun _ _ _ h => h) (Or.inl ⟨by rfl, ?_⟩) (by assumption) ?_
      rotate_left
      · intro W hSW; go_simp; try with_reducible rfl
      try simp only [Act.put, List.setIfInBounds_toArray, List.set_cons_zero, List.set_cons_succ]
      refine wpAnyH_take (i := 15) (oi := ⟨_, _, _, _, _, _⟩) (v := ?_) rfl (by kernel_rfl) (by kernel_rfl) (by kernel_rfl) (fun _ _ _ h => h) (Or.inl ⟨by rfl, ?_⟩) (by assumption) ?_
      rotate_left
      · intro W hSW; have hcW := (hSW.cell (p := ⟨N8, 0, none⟩) hlt8r).trans hc8; go_simp; try with_reducible rfl
      try simp only [Act.put, List.setIfInBounds_toArray, List.set_cons_zero, List.set_cons_succ]
      refine wpAnyH_take (i := 16) (oi := ⟨_, _, _, _, _, _⟩) (v := ?_) rfl (by kernel_rfl) (by kernel_rfl) (by kernel_rfl) (fun _ _ _ h => h) (Or.inl ⟨by rfl, ?_⟩) (by assumption) ?_
      rotate_left
      · intro W hSW; go_simp; try with_reducible rfl
      try simp only [Act.put, List.setIfInBounds_toArray, List.set_cons_zero, List.set_cons_succ]
      refine wpAnyH_take (i := 17) (oi := ⟨_, _, _, _, _, _⟩) (v := ?_) rfl (by kernel_rfl) (by kernel_rfl) (by kernel_rfl) (fun _ _ _ h => h) (Or.inl ⟨by rfl, ?_⟩) (by assumption) ?_
      rotate_left
      · intro W hSW; go_simp; try with_reducible rfl
      try simp only [Act.put, List.setIfInBounds_toArray, List.set_cons_zero, List.set_cons_succ]
      refine wpAnyH_take (i := 18) (oi := ⟨_, _, _, _, _, _⟩) (v := ?_) rfl (by kernel_rfl) (by kernel_rfl) (by kernel_rfl) (fun _ _ _ h => h) (Or.inl ⟨by rfl, ?_⟩) (by assumption) ?_
      rotate_left
      · intro W hSW; have hcW := (hSW.cell (p := ⟨b2, x2 + k, none⟩) hl2r).trans hd2; go_simp; try with_reducible rfl
      try simp only [Act.put, List.setIfInBounds_toArray, List.set_cons_zero, List.set_cons_succ]
      refine wpAnyH_take (i := 19) (oi := ⟨_, _, _, _, _, _⟩) (v := ?_) rfl (by kernel_rfl) (by kernel_rfl) (by kernel_rfl) (fun _ _ _ h => h) (Or.inl ⟨by rfl, ?_⟩) (by assumption) ?_
      rotate_left
      · intro W hSW; go_simp; try with_reducible rfl
      try simp only [Act.put, List.setIfInBounds_toArray, List.set_cons_zero, List.set_cons_succ]
      refine wpAnyH_ready (rs := [14]) (by kernel_rfl) (by simp) ?_
      refine AllReadyH.cons (o := ⟨_, _, _, _, _, _⟩) rfl (fun K hK => ?_) AllReadyH.nil
      go_simp
      refine (kpart_any (n : Int) (k : Int) wq (by omega) (by omega) (by omega) (by omega)).mono ?_
      rintro e ws14 ⟨rfl, rfl⟩
      try simp only []
      refine hK.out _ _ hSc (fun hHeld => ?_)
      clear hK K
      try simp only [Act.put, List.setIfInBounds_toArray, List.set_cons_zero, List.set_cons_succ]
      rw [Hqp.out]
      refine wpAnyH_take (i := 20) (oi := ⟨_, _, _, _, _, _⟩) (v := (.bool false)) rfl (by kernel_rfl) (by kernel_rfl) (by kernel_rfl) (fun _ _ _ h => h) (Or.inl ⟨by rfl, ?_⟩) (by assumption) ?_
      · intro W hSW; go_simp; try with_reducible rfl
      try simp only [Act.put, List.setIfInBounds_toArray, List.set_cons_zero, List.set_cons_succ]
      refine wpAnyH_take (i := 21) (oi := ⟨_, _, _, _, _, _⟩) (v := ?_) rfl (by kernel_rfl) (by kernel_rfl) (by kernel_rfl) (fun _ _ _ h => h) (Or.inl ⟨by rfl, ?_⟩) (by assumption) ?_
      rotate_left
      · intro W hSW; go_simp; try with_reducible rfl
      try simp only [Act.put, List.setIfInBounds_toArray, List.set_cons_zero, List.set_cons_succ]
      refine wpAnyH_done (by kernel_rfl) ?_ _
      go_wp2_with fail
      go_roundw
      case rel => exact ⟨k + 1, by omega, by go_num, HBd2⟩
      case measure => simp [intOf]; omega
    · obtain rfl : k = m := by omega
      have ho4r : One wr K (.bool false) 4 := (HB.out.block K (by omega)).trans o4d
      have ho8r : One wr N8 (.slice L2 k cl2) 24 := ho8
      have HP2r : Hid (PartsAt wr N8 L2 ps2) := HP2.out.below (HB.out.mono (by omega))
      have HQ2r : Hid (∀ p ∈ ps2, p.ok wr B) := fun p hp => ⟨(HQ2.out p hp).1.below (HB.out.mono (show B ≤ N8 + 1 by omega)), (HQ2.out p hp).2⟩
      have HTr : Hid (Tab wr) := HTd.out.below (hsd ▸ HB.out)
      have Hxr : Hid (Lies wr B A b) := Hxd.out.below (HB.out.mono (show B ≤ N8 + 1 by omega))
      have HBr : Hid (Below K w wr) := HBd.out.trans (HB.out.mono (by omega))
      clear HB ho8 hc8 hlt8r o8d o4d HP1 HP2 HQ2 HTd Hxd HBd hlt8
      go_wp2_with fail
      obtain ⟨w5, hw5⟩ : ∃ w5, wr.alloc (.cells #[.int .i64 0] 3) = w5 := ⟨_, rfl⟩
      obtain ⟨NA, hNA⟩ : ∃ NA, wr.heap.size = NA := ⟨_, rfl⟩
      have oA : One w5 NA (.int .i64 0) 3 := by rw [← hw5, ← hNA]; exact One.new wr _ _
      have hb5 : Below wr.heap.size wr w5 := by rw [← hw5]; exact (Below.refl _ _).alloc (Nat.le_refl _) _
      have hs5 : w5.heap.size = NA + 1 := by rw [← hw5, ← hNA]; simp
      have o4 := ho4r.below hb5 ho4r.lt
      have o8 := ho8r.below hb5 ho8r.lt
      have HP5 := Lib.hid (HP2r.out.below (hb5.mono (by omega)))
      have HQ5 : Hid (∀ p ∈ ps2, p.ok w5 B) := fun p hp => ⟨(HQ2r.out p hp).1.below (hb5.mono (show B ≤ wr.heap.size by omega)), (HQ2r.out p hp).2⟩
      have HT5 : Hid (Tab w5) := HTr.out.below hb5
      have Hx5 : Hid (Lies w5 B A b) := Hxr.out.below (hb5.mono (show B ≤ wr.heap.size by omega))
      have HB5 : Hid (Below K w w5) := HBr.out.trans (hb5.mono (by omega))
      have hN8A : N8 < NA := by omega
      rw [hw5, hNA]
      clear hw5 hNA hb5 ho4r ho8r HP2r HQ2r HTr Hxr HBr hc8w hsr
      refine (kall_any A n c b w5 B Hx5.out (by omega) Hn.out (by omega)).mono ?_
      rintro e w6 ⟨ab, At, ct, rfl, hT6, hlt6, hb6⟩
      have hs6 : NA + 1 ≤ w6.heap.size := by have := hb6.size; omega
      have oA6 := oA.below hb6 oA.lt
      have o46 := o4.below hb6 o4.lt
      have o86 := o8.below hb6 o8.lt
      have HP6 := Lib.hid (HP5.out.below (hb6.mono (by omega)))
      have HQ6 : Hid (∀ p ∈ ps2, p.ok w6 B) := fun p hp => ⟨(HQ5.out p hp).1.below (hb6.mono (show B ≤ w5.heap.size by omega)), (HQ5.out p hp).2⟩
      have HT6 : Hid (Tab w6) := HT5.out.below hb6
      have HB6 : Hid (Below K w w6) := HB5.out.trans (hb6.mono (by omega))
      have htl := hT6.lt
      have htg : ∀ j ∈ tblk ab At, NA < j := fun j hj => by have := hlt6 j hj; omega
      have HTpos : Hid (0 < K) := by show 0 < K; have := hTp.out; omega
      have Hml : Hid (countK b.length = k) := by show _ = _; rw [← Hn.out]; exact hmm
      have hfn : ∀ W : World, (binOp .eql 32 (.func (.func 25) #[] #[.pointer (some ⟨ab, 0, none⟩)]) .nilFunc).run Tryd.prog W = .ok (.bool false) W := fun W => eql_func_nil W _ _ _ Tryd.underlying32
      clear hb6 oA o4 o8 HP5 HQ5 HT5 HB5 hlt6 hs5 Hx5
      go_wp2_with fail
      clear hfn
      have h0 : But [NA] w6.heap.size w6 w6 ∧ One w6 NA (.int .i64 (([] : List KEl).length : Int)) 3 := ⟨But.refl _ _ _, oA6⟩
      refine wp_rangeFunc ?_
      refine range_round (gf := 25) (lb := #[.pointer (some ⟨ab, 0, none⟩)]) rfl (enters_of Tryd.func25 (by kernel_rfl) rfl)
        (kiter_tells ab ct w6.heap.size At b w6 hT6 (Nat.le_refl _)) (fun pre x V l o o' h hl ho => ⟨h.1, x.put V l o o' h.2 hl ho⟩) (fun h k => h.trans k) (KeepsS.put htl) (fun _ => rfl)
        (fun pre V => But [NA] w6.heap.size w6 V ∧ One V NA (.int .i64 (pre.length : Int)) 3)
        (ownFrom_stays (fun s V V' h hs => ⟨hs.but (Nat.le_refl _) (Nat.le_refl _) h.1, hs.one h.2⟩))
        h0 ?round ?done
      case round =>
        rintro l pre x V0 V ⟨hbut, hone⟩ ⟨hxi, hxc, hxr⟩ hpl
        rw [Hml.out] at hpl
        obtain ⟨q, hq⟩ : ∃ q, pre.length = q := ⟨_, rfl⟩
        obtain ⟨xi, xA, xc⟩ := x
        simp only at hxi hxr
        rw [hq] at hone hxi hpl
        subst hxi
        simp only [KEl.enc]
        obtain ⟨b2, x2, hL2, hb2N, hcs⟩ := HP6.out.1 (by intro h9; have := Hlen2.out; rw [h9] at this; simp at this; omega)
        obtain ⟨p2, hp2⟩ : ∃ p, ps2[xi]? = some p := ⟨ps2[xi]'(by rw [Hlen2.out]; exact hpl), List.getElem?_eq_getElem _⟩
        have hcp := hcs xi p2 hp2
        have hok := HQ6.out p2 (List.mem_of_getElem? hp2)
        have hxe : p2.xs = chunkK b xi := by
          have : (ps2.map Piece.xs)[xi]? = some p2.xs := by rw [List.getElem?_map, hp2]; rfl
          rw [Hps2.out, chunksK_get hxc] at this
          exact (Option.some.inj this).symm
        have hlt6 : w6.heap.size ≤ V.heap.size := hbut.size
        have hblk : ∀ j, j < NA → V.heap[j]? = w6.heap[j]? := fun j hj => hbut.block j (by omega) (by simp; omega)
        have hc10 := hone.cell
        have hf10 := hone.free
        have hc8V : V.cell? ⟨N8, 0, none⟩ = some (.slice L2 k cl2) := (World.cell?_of_block (hblk N8 hN8A)).trans o86.cell
        have hcpV : V.cell? ⟨b2, x2 + xi, none⟩ = some (.slice p2.A p2.n p2.c) := (World.cell?_of_block (hblk b2 (by omega))).trans hcp
        have hlV : Lies V B p2.A p2.xs := hok.1.keep (fun p hp => World.cell?_of_block (hblk p.block (by omega)))
        have hpn := hok.2.1
        rw [hxe] at hlV hpn
        obtain ⟨A9, c9, hv9, hq9, _, _, hl9⟩ := Lies.of_own hxr
        injection hv9 with e1 e2 e3
        subst e1 e3
        have hsame : ∀ y, y = partK b.length xi → Calls Tryd.prog 12 #[.slice xA y xc, .slice p2.A p2.n p2.c] V fun e w' => e = .returned (.bool true) ∧ V = w' := by
          intro y hy
          have h9 := same_any xA p2.A y p2.n xc p2.c (chunkK b xi) (chunkK b xi) V V.heap.size (by rw [hy]; exact hq9) hpn hl9 (hlV.le (by omega))
          rw [beq_self_eq_true] at h9
          exact h9
        subst hL2
        generalize partK b.length xi = y at *
        have hsm := hsame y rfl
        have hlenK : ((pre ++ [(⟨xi, xA, xc⟩ : KEl)]).length : Int) = (xi : Int) + 1 := by rw [List.length_append, hq]; simp
        rw [hlenK]
        clear hsame hlV hpn hxr hq9 hl9 e2 hxe hok hp2 hcs hcp hxc hq hlenK
        gi_wp2
        refine ⟨trivial, ?_⟩
        gi_wp2_with (refine ⟨trivial, ?_⟩; gi_at_call 12; refine (CallsIn.inRound l (callsIn_wide.2 hsm)).mono ?_; rintro e w9 ⟨rfl, rfl⟩)
        exact ⟨(KeepsOthers.setCell _ _ _).from _, ⟨KeepsL.of (grown_cellB V NA 0 _) (fun j hj => ⟨by have := htl j hj; omega, fun e => by have := htg j hj; injection e with e; omega⟩), by simp⟩, hbut.setCell (p := ⟨NA, 0, none⟩) (.inl (by simp)) _, hone.set _⟩
      case done =>
        rintro D ys V hD hS ⟨hbut, hone⟩ hDA
        have hlen : ys.length = k := by
          have := congrArg List.length hS
          rwa [List.length_map, List.length_range, Hml.out] at this
        rw [hlen] at hone
        have hblk : ∀ j, j < NA → V.heap[j]? = w6.heap[j]? := fun j hj => hbut.block j (by omega) (by simp; omega)
        have hKV : Below K w6 V := ((hbut.less (B' := K) (by omega)).below (by intro j hj; simp only [List.mem_singleton] at hj; omega))
        have oKA : One V K (.bool false) 4 := (hblk K (by omega)).trans o46
        have oNA : One V NA (.int .i64 (k : Int)) 3 := hone
        have o8A : One V N8 (.slice L2 k cl2) 24 := (hblk N8 hN8A).trans o86
        have hTA : Tab V := HT6.out.belowN (by have := HTpos.out; omega) hKV
        have hBA : Below K w V := HB6.out.trans hKV
        have hsV : w6.heap.size ≤ V.heap.size := hbut.size
        clear hbut hone hblk hKV hlen hS HP6 HQ6 HT6 HB6 oA6 o46 o86 hT6 htl htg
        have hcN := oNA.cell
        have hc8 := o8A.cell
        by_cases hbs : 3000 < s ∨ s < -3000
        · have hds : decide (3000 < s) = true ∨ (decide (3000 < s) = false ∧ decide (s < -3000) = true) := by
            rcases hbs with h9 | h9
            · exact .inl (decide_eq_true h9)
            · by_cases h8 : 3000 < s
              · exact .inl (decide_eq_true h8)
              · exact .inr ⟨decide_eq_false h8, decide_eq_true h9⟩
          rcases hds with hds | ⟨hds, hds2⟩
          all_goals
            go_wp2_with fail
            refine (HW.out V hTA).mono ?_
            rintro e w9 ⟨rfl, hb9⟩
            have o9 := oKA.below hb9 oKA.lt
            have hc9 := o9.cell
            have hf9 := o9.free
            have hD9 := (hb9.block D (Array.getElem?_eq_some_iff.1 hDA).1).trans hDA
            have hB9 : Below K w w9 := hBA.trans (hb9.mono (Nat.le_of_lt oKA.lt))
            clear hTA hBA hDA oKA hb9
            go_wp2_with fail
            have hD10 : (w9.setCell ⟨K, 0, none⟩ (.bool true)).heap[D]? = some (.deferred (some [])) := (Below.heap_setCell _ _ _ _ (by simp; omega)).trans hD9
            refine ⟨by simp, .inl ⟨_, _, rfl, run_takeDeferred hD10, ?_⟩⟩
            have hst := stays_put hD hD10 (.deferred none)
            have ho10 := (hst.one (o9.set (.bool true))).cell
            refine ⟨.bool true, by simp [results, Tryd.f3, go_sem, ho10], rfl, ?_⟩
            rw [HK.out]
            exact hst.bel (by omega) hKw (hB9.setCell (p := ⟨K, 0, none⟩) (Nat.le_refl _) _)
        · have hds : decide (3000 < s) = false := decide_eq_false (by omega)
          have hds2 : decide (s < -3000) = false := decide_eq_false (by omega)
          by_cases h0s : 0 ≤ s
          · obtain ⟨sz, rfl⟩ : ∃ sz : Nat, s = sz := ⟨s.toNat, by omega⟩
            obtain ⟨i5, hi5, hz5, hz6, hz7⟩ := info_parts Tryd.info5
            go_wp2_with (at_make; refine wpList_make_full _ rfl _ _ 22 rfl V.heap.size 5 i5 (.int .u8 0) 1 Tryd.underlying22 hi5 hz5 hz6 _ _ _ _ sz rfl rfl (by first | rfl | omega) (by first | rfl | omega) (by rw [hz7]; omega) (by unfold maxLen; omega) (Nat.le_refl _) ?_)
            intro w7 ho7 hg7
            rw [fill_made] at ho7
            have hb7 : Below V.heap.size V w7 := ⟨hg7.os, hg7.tape, hg7.output, hg7.size, fun j hj => hg7.block j hj (by simp)⟩
            obtain ⟨A7, c7, hv7, hq7, hqc7, hqm7, hl7⟩ := Lies.of_own ho7
            injection hv7 with e1 e2 e3
            subst e1 e3
            have Hq7 := Lib.hid hq7
            have oKB := oKA.below hb7 oKA.lt
            have oNB := oNA.below hb7 oNA.lt
            have o8B := o8A.below hb7 o8A.lt
            have hTB := hTA.below hb7
            have hBB : Below K w w7 := hBA.trans (hb7.mono (Nat.le_of_lt oKA.lt))
            have hDB := (hb7.block D (Array.getElem?_eq_some_iff.1 hDA).1).trans hDA
            clear hq7 ho7 hg7 hb7 oKA oNA o8A hTA hBA hDA hcN hc8 hsV e2
            go_wp2_with fail
            refine (rsplit_any sz _ sz sz (fill [] sz) w7 w7.heap.size (Nat.le_refl _) hl7 (Nat.le_refl _) Hq7.out (Nat.le_refl _) (by unfold maxLen; omega) (by omega)).mono ?_
            rintro e w8 ⟨L9, ps9, cl9, rfl, hps9, hpa9, _, _, hcl9, hb8⟩
            have hl9 : ps9.length = countK sz := by rw [pieces_len hps9, ← Hq7.out]
            have Hcount : Hid (countK ((sz : Int)).toNat = countK sz) := by show _ = _; rw [show ((sz : Int)).toNat = sz by omega]
            have oKA := oKB.below hb8 oKB.lt
            have hcN := (oNB.below hb8 oNB.lt).cell
            have hc8 := (o8B.below hb8 o8B.lt).cell
            have hTA := hTB.below hb8
            have hBA : Below K w w8 := hBB.trans (hb8.mono (Nat.le_of_lt oKB.lt))
            have hDA := (hb8.block D (Array.getElem?_eq_some_iff.1 hDB).1).trans hDB
            have Hps9 := Lib.hid hps9
            have Hl9 := Lib.hid hl9
            have Hpa9 := Lib.hid hpa9
            have hm9 : countK sz ≤ 12 := by unfold countK; omega
            clear oKB oNB o8B hTB hBB hDB hps9 hl9 hpa9 hb8 hl7
            by_cases hin : 0 ≤ i ∧ i < ((countK sz : Nat) : Int)
            · obtain ⟨ii, rfl⟩ : ∃ ii : Nat, i = ii := ⟨i.toNat, by omega⟩
              have hii : ii < countK sz := by omega
              obtain ⟨b9, x9, p9, rfl, hp9, hcp9, hok9⟩ := Hpa9.out.at_ (k := ii) (by rw [Hl9.out]; omega)
              have hpn9 : p9.n = partK sz ii := by
                have h1 : (ps9.map Piece.xs)[ii]? = some p9.xs := by rw [List.getElem?_map, hp9]; rfl
                rw [Hps9.out, chunksK_get (by rw [← Hq7.out]; omega)] at h1
                have h2 : p9.xs = chunkK (fill [] sz) ii := (Option.some.inj h1).symm
                rw [hok9.2.1, h2, chunkK_length, ← Hq7.out]
              have HpI : Hid (partI ((sz : Int)) (ii : Int) = (p9.n : Int)) := by
                show _ = _
                unfold partI
                rw [if_neg (by omega), show ((sz : Int)).toNat = sz by omega, Int.toNat_natCast, hpn9]
              generalize p9.n = y9 at *
              clear hpn9 hok9 hp9
              generalize hmz : countK sz = mz at *
              go_wp2_with fail
              refine (kcount_any ((sz : Int)) w8 (by omega) (by omega)).mono ?_
              rintro e wz ⟨rfl, rfl⟩
              rw [Hcount.out]
              go_wp2_with fail
              refine (kpart_any ((sz : Int)) (ii : Int) w8 (by omega) (by omega) (by omega) (by omega)).mono ?_
              rintro e wz ⟨rfl, rfl⟩
              rw [HpI.out]
              go_wp2_with fail
              refine (HW.out w8 hTA).mono ?_
              rintro e w9 ⟨rfl, hb9⟩
              have o9 := oKA.below hb9 oKA.lt
              have hc9 := o9.cell
              have hf9 := o9.free
              have hD9 := (hb9.block D (Array.getElem?_eq_some_iff.1 hDA).1).trans hDA
              have hB9 : Below K w w9 := hBA.trans (hb9.mono (Nat.le_of_lt oKA.lt))
              clear hTA hBA hDA oKA hb9
              go_wp2_with fail
              have hD10 : (w9.setCell ⟨K, 0, none⟩ (.bool true)).heap[D]? = some (.deferred (some [])) := (Below.heap_setCell _ _ _ _ (by simp; omega)).trans hD9
              refine ⟨by simp, .inl ⟨_, _, rfl, run_takeDeferred hD10, ?_⟩⟩
              have hst := stays_put hD hD10 (.deferred none)
              have ho10 := (hst.one (o9.set (.bool true))).cell
              refine ⟨.bool true, by simp [results, Tryd.f3, go_sem, ho10], rfl, ?_⟩
              rw [HK.out]
              exact hst.bel (by omega) hKw (hB9.setCell (p := ⟨K, 0, none⟩) (Nat.le_refl _) _)
            · rcases (show i < 0 ∨ (0 ≤ i ∧ ((countK sz : Nat) : Int) ≤ i) by omega) with hout | ⟨hout, hout2⟩
              all_goals
                have HpI : Hid (partI ((sz : Int)) i = 0) := by
                  show _ = _
                  unfold partI
                  by_cases h9 : i < 0
                  · rw [if_pos h9]
                  · rw [if_neg h9, partK_zero (by rw [show ((sz : Int)).toNat = sz by omega]; omega)]
                    rfl
                generalize hmz : countK sz = mz at *
                go_wp2_with fail
                refine (kcount_any ((sz : Int)) w8 (by omega) (by omega)).mono ?_
                rintro e wz ⟨rfl, rfl⟩
                rw [Hcount.out]
                go_wp2_with fail
                refine (kpart_any ((sz : Int)) i w8 (by omega) (by omega) (by omega) (by omega)).mono ?_
                rintro e wz ⟨rfl, rfl⟩
                rw [HpI.out]
                go_wp2_with fail
                refine (HW.out w8 hTA).mono ?_
                rintro e w9 ⟨rfl, hb9⟩
                have o9 := oKA.below hb9 oKA.lt
                have hc9 := o9.cell
                have hf9 := o9.free
                have hD9 := (hb9.block D (Array.getElem?_eq_some_iff.1 hDA).1).trans hDA
                have hB9 : Below K w w9 := hBA.trans (hb9.mono (Nat.le_of_lt oKA.lt))
                clear hTA hBA hDA oKA hb9
                go_wp2_with fail
                have hD10 : (w9.setCell ⟨K, 0, none⟩ (.bool true)).heap[D]? = some (.deferred (some [])) := (Below.heap_setCell _ _ _ _ (by simp; omega)).trans hD9
                refine ⟨by simp, .inl ⟨_, _, rfl, run_takeDeferred hD10, ?_⟩⟩
                have hst := stays_put hD hD10 (.deferred none)
                have ho10 := (hst.one (o9.set (.bool true))).cell
                refine ⟨.bool true, by simp [results, Tryd.f3, go_sem, ho10], rfl, ?_⟩
                rw [HK.out]
                exact hst.bel (by omega) hKw (hB9.setCell (p := ⟨K, 0, none⟩) (Nat.le_refl _) _)
          · have hneg : s < 0 := by omega
            obtain ⟨i5, hi5, hz5, hz6, hz7⟩ := info_parts Tryd.info5
            go_wp2_with (at_make; refine wpList_make_full _ rfl _ _ 22 rfl V.heap.size 5 i5 (.int .u8 0) 1 Tryd.underlying22 hi5 hz5 hz6 _ _ _ _ 0 rfl rfl (by first | rfl | omega) (by first | rfl | omega) (by rw [hz7]; omega) (by unfold maxLen; omega) (Nat.le_refl _) ?_)
            intro w7 ho7 hg7
            rw [fill_made] at ho7
            have hb7 : Below V.heap.size V w7 := ⟨hg7.os, hg7.tape, hg7.output, hg7.size, fun j hj => hg7.block j hj (by simp)⟩
            obtain ⟨A7, c7, hv7, hq7, hqc7, hqm7, hl7⟩ := Lies.of_own ho7
            injection hv7 with e1 e2 e3
            subst e1 e3
            have Hq7 := Lib.hid hq7
            have oKB := oKA.below hb7 oKA.lt
            have oNB := oNA.below hb7 oNA.lt
            have o8B := o8A.below hb7 o8A.lt
            have hTB := hTA.below hb7
            have hBB : Below K w w7 := hBA.trans (hb7.mono (Nat.le_of_lt oKA.lt))
            have hDB := (hb7.block D (Array.getElem?_eq_some_iff.1 hDA).1).trans hDA
            clear hq7 ho7 hg7 hb7 oKA oNA o8A hTA hBA hDA hcN hc8 hsV e2
            go_wp2_with fail
            refine (rsplit_any 0 _ 0 0 (fill [] 0) w7 w7.heap.size (Nat.le_refl _) hl7 (Nat.le_refl _) Hq7.out (Nat.le_refl _) (by unfold maxLen; omega) (by omega)).mono ?_
            rintro e w8 ⟨L9, ps9, cl9, rfl, hps9, hpa9, _, _, hcl9, hb8⟩
            have hl9 : ps9.length = countK 0 := by rw [pieces_len hps9, ← Hq7.out]
            have Hcount : Hid (countK (s).toNat = countK 0) := by show _ = _; rw [show (s).toNat = 0 by omega]
            have oKA := oKB.below hb8 oKB.lt
            have hcN := (oNB.below hb8 oNB.lt).cell
            have hc8 := (o8B.below hb8 o8B.lt).cell
            have hTA := hTB.below hb8
            have hBA : Below K w w8 := hBB.trans (hb8.mono (Nat.le_of_lt oKB.lt))
            have hDA := (hb8.block D (Array.getElem?_eq_some_iff.1 hDB).1).trans hDB
            have Hps9 := Lib.hid hps9
            have Hl9 := Lib.hid hl9
            have Hpa9 := Lib.hid hpa9
            have hm9 : countK 0 ≤ 12 := by unfold countK; omega
            clear oKB oNB o8B hTB hBB hDB hps9 hl9 hpa9 hb8 hl7
            rcases (show i < 0 ∨ (0 ≤ i ∧ ((countK 0 : Nat) : Int) ≤ i) by have : countK 0 = 0 := rfl; omega) with hout | ⟨hout, hout2⟩
            all_goals
              have HpI : Hid (partI (s) i = 0) := by
                show _ = _
                unfold partI
                by_cases h9 : i < 0
                · rw [if_pos h9]
                · rw [if_neg h9, partK_zero (by rw [show (s).toNat = 0 by omega]; omega)]
                  rfl
              generalize hmz : countK 0 = mz at *
              go_wp2_with fail
              refine (kcount_any (s) w8 (by omega) (by omega)).mono ?_
              rintro e wz ⟨rfl, rfl⟩
              rw [Hcount.out]
              go_wp2_with fail
              refine (kpart_any (s) i w8 (by omega) (by omega) (by omega) (by omega)).mono ?_
              rintro e wz ⟨rfl, rfl⟩
              rw [HpI.out]
              go_wp2_with fail
              refine (HW.out w8 hTA).mono ?_
              rintro e w9 ⟨rfl, hb9⟩
              have o9 := oKA.below hb9 oKA.lt
              have hc9 := o9.cell
              have hf9 := o9.free
              have hD9 := (hb9.block D (Array.getElem?_eq_some_iff.1 hDA).1).trans hDA
              have hB9 : Below K w w9 := hBA.trans (hb9.mono (Nat.le_of_lt oKA.lt))
              clear hTA hBA hDA oKA hb9
              go_wp2_with fail
              have hD10 : (w9.setCell ⟨K, 0, none⟩ (.bool true)).heap[D]? = some (.deferred (some [])) := (Below.heap_setCell _ _ _ _ (by simp; omega)).trans hD9
              refine ⟨by simp, .inl ⟨_, _, rfl, run_takeDeferred hD10, ?_⟩⟩
              have hst := stays_put hD hD10 (.deferred none)
              have ho10 := (hst.one (o9.set (.bool true))).cell
              refine ⟨.bool true, by simp [results, Tryd.f3, go_sem, ho10], rfl, ?_⟩
              rw [HK.out]
              exact hst.bel (by omega) hKw (hB9.setCell (p := ⟨K, 0, none⟩) (Nat.le_refl _) _)

theorem cuts13_any (HW : Works13) (w : World) (hT : Tab w) (B n c : Nat) (A : Option Addr) (b : List UInt8) (h : Lies w B A b) (hB : B ≤ w.heap.size) (hn : n = b.length) (hc : n ≤ c) (hm : c ≤ maxLen)
    (s i : Int) (hs1 : -9223372036854775808 ≤ s) (hs2 : s ≤ 9223372036854775807) (hi1 : -9223372036854775808 ≤ i) (hi2 : i ≤ 9223372036854775807) :
    Calls Tryd.prog 3 #[.slice A n c, .int .i64 s, .int .i64 i] w fun e w' => e = .returned (.bool true) ∧ Below w.heap.size w w' := by
  by_cases hbig : 3000 < n
  · exact cuts_long HW w hT n c A hbig hc hm s i
  · exact cuts_any HW w hT B n c A b h hB hn hc hm hbig s i hs1 hs2 hi1 hi2
end Go.Proofs.YtmcbpifkclhfiaaDoor
