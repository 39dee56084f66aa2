/-
  Layer 13: the contract of the law ChunkNames.
-/
import Derived.Test.YtmcbpifkclhfiaaDoorPkChkW
namespace Go.Proofs.YtmcbpifkclhfiaaDoor
open Go.RowKit
set_option linter.unusedVariables false
set_option linter.unusedSimpArgs false

set_option maxRecDepth 100000 in
set_option maxHeartbeats 8000000 in
theorem names13_any (HW : Works13) (w : World) (hT : Tab w) (B n c : Nat) (A : Option Addr) (b : List UInt8) (h : Lies w B A b) (hB : B ≤ w.heap.size) (hn : n = b.length) (hc : n ≤ c) (hm : c ≤ maxLen) :
    Calls Tryd.prog 4 #[.slice A n c] w fun e w' => e = .returned (.bool true) ∧ Below w.heap.size w w' := by
  have Hn := Lib.hid hn
  have H := Lib.hid h
  have HW := Lib.hid HW
  clear hn h
  have hm2 : c ≤ 9223372036854775807 := by unfold maxLen at hm; exact hm
  by_cases hbig : 2048 < n
  · have hd : decide (2048 < (n : Int)) = true := decide_eq_true (by omega)
    go_enter Tryd.func4, Tryd.ntmps4
    go_wp2_with fail
    refine (HW.out w hT).mono ?_
    rintro e w1 ⟨rfl, hb1⟩
    go_wp2_with fail
    go_ret
    exact ⟨rfl, hb1⟩
  have hd : decide (2048 < (n : Int)) = false := decide_eq_false (by omega)
  obtain ⟨m, hmm⟩ : ∃ m, countK n = m := ⟨_, rfl⟩
  have hmb : m ≤ 8 := by rw [← hmm]; unfold countK; omega
  have Hal : Hid ((adrsK b).length = m) := by show _ = _; rw [adrsK_length, ← Hn.out]; exact hmm
  have Hmm := Lib.hid hmm
  go_enter Tryd.func4, Tryd.ntmps4
  go_wp2_with fail
  refine (kaddresses_any A n c b w B hT H.out hB Hn.out (by omega)).mono ?_
  rintro e w1 ⟨LA, cA, rfl, hLA, hcA, hb1⟩
  rw [hmm] at hcA ⊢
  have hT1 := hT.below hb1
  have hs1 := hb1.size
  go_wp2_with fail
  refine (rsplit_any n A n c b w1 B (Nat.le_refl _) (H.out.below (hb1.mono hB)) (by omega) Hn.out hc hm (by omega)).mono ?_
  rintro e w2 ⟨L, ps, cl, rfl, hps, hpa, hpo, _, hcl, hb2⟩
  rw [hmm] at hcl ⊢
  have hlen : ps.length = m := by rw [pieces_len hps, ← Hn.out]; exact hmm
  have HB2 : Hid (Below w.heap.size w w2) := hb1.trans (hb2.mono hs1)
  have HT2 : Hid (Tab w2) := hT1.below hb2
  have HLA : Hid (LiesV w2 w2.heap.size LA (acells (adrsK b))) := (hLA.below hb2).le hb2.size
  have Hps := Lib.hid hps
  have Hpa := Lib.hid hpa
  have Hpo := Lib.hid hpo
  have Hlen := Lib.hid hlen
  have Hx2 : Hid (Lies w2 B A b) := H.out.below (HB2.out.mono hB)
  have hs2 : w.heap.size ≤ w2.heap.size := HB2.out.size
  clear hps hpa hpo hlen hb1 hb2 hT1 hLA hs1 hmm hT
  have hB20 : Below w2.heap.size w2 w2 := Below.refl _ _
  go_wp2_with fail
  go_loopw [5] (fun i W => ∃ k : Nat, k ≤ m ∧ i = .int .i64 k ∧ Hid (Below w2.heap.size w2 W)) (fun i _ => m - (intOf i).toNat)
  case atStart => exact ⟨0, Nat.zero_le _, rfl, hB20⟩
  case round =>
    obtain ⟨k, hk, rfl, HB⟩ := hrel
    clear hB20
    have hsr : w2.heap.size ≤ wr.heap.size := HB.out.size
    by_cases hlt : k < m
    · obtain ⟨b2, o2, p, rfl, hp, hcp0, hok0⟩ := Hpa.out.at_ (k := k) (by rw [Hlen.out]; exact hlt)
      have hokB := Hpo.out p (List.mem_of_getElem? hp)
      have hxs : (chunksK b)[k]? = some p.xs := by rw [← Hps.out, List.getElem?_map, hp]; rfl
      have hkc : k < countK b.length := by rw [← Hn.out, Hmm.out]; exact hlt
      have hxe : p.xs = chunkK b k := by rw [chunksK_get hkc] at hxs; exact (Option.some.inj hxs).symm
      have hxl : 0 < p.xs.length ∧ p.xs.length ≤ 256 := by rw [hxe, chunkK_length]; exact ⟨partK_pos hkc, partK_le _ _⟩
      obtain ⟨ad, had⟩ : ∃ ad, adrK13 p.xs = ad := ⟨_, rfl⟩
      have Hadl : Hid (ad.length = 32) := by show _ = _; rw [← had]; exact adrK13_length _
      have hak : (adrsK b)[k]? = some ad := by rw [adrsK, List.getElem?_map, hxs, ← had]; rfl
      obtain ⟨bA, oA, rfl, hbA, hra0⟩ := acells_at HLA.out (adrsK_all b) hak
      have hpn := hokB.2.1
      have hpn1 : 0 < p.n := by omega
      have hpn2 : p.n ≤ 256 := by omega
      have hb2l : b2 < w2.heap.size := World.block_lt_of_cell? w2 ⟨b2, o2 + k, none⟩ hcp0
      have hBw : B ≤ wr.drew.heap.size := by show B ≤ wr.heap.size; omega
      have hcp : wr.drew.cell? ⟨b2, o2 + k, none⟩ = some (.slice p.A p.n p.c) := (HB.out.cell (p := ⟨b2, o2 + k, none⟩) hb2l).trans hcp0
      have hb2r : b2 < wr.drew.heap.size := by show b2 < wr.heap.size; omega
      have hbAr : bA < wr.drew.heap.size := by show bA < wr.heap.size; omega
      have hra : wr.drew.rangeAt bA (oA + k * 32) (cells ad) := fun j u hj => (HB.out.cell (p := ⟨bA, oA + k * 32 + j, none⟩) hbA).trans (hra0 j u hj)
      have hlB : Lies wr.drew B p.A p.xs := hokB.1.below (HB.out.drew.mono (show B ≤ w2.heap.size by omega))
      have hTd : Tab wr.drew := HT2.out.below HB.out.drew
      have hBd : Below w2.heap.size w2 wr.drew := HB.out.drew
      have Hs : Hid ((Tryd.prog.info? 37).map (·.size) = some (cells ad).length) := by show _ = _; rw [Tryd.sizeA, cells_length, Hadl.out]
      have Hpn := Lib.hid hpn
      have Had := Lib.hid had
      have hpc := hokB.2.2.1
      have hpm := hokB.2.2.2
      have hsd : w2.heap.size ≤ wr.drew.heap.size := hsr
      clear hxs hkc hxe hxl hak had hokB hok0 hp hcp0 hra0 HB hpn
      go_wp2_with fail
      refine wp_region_held_drew (S := fun W => Below wr.drew.heap.size wr.drew W) (by kernel_rfl) (Below.refl _ _) (fun hHeld => ?_)
      generalize wr.drew = wd at *
      have hSc : Below wd.heap.size wd wd := Below.refl _ _
      refine wpAnyH_take (i := 0) (oi := ⟨_, _, _, _, _, _⟩) (v := ?_) rfl (by kernel_rfl) (by kernel_rfl) (by kernel_rfl) (fun _ _ _ h => h) (Or.inl ⟨by rfl, ?_⟩) (by assumption) ?_
      rotate_left
      · intro W hSW; go_simp; try with_reducible rfl
      try simp only [Act.put, List.setIfInBounds_toArray, List.set_cons_zero, List.set_cons_succ]
      refine wpAnyH_take (i := 1) (oi := ⟨_, _, _, _, _, _⟩) (v := ?_) rfl (by kernel_rfl) (by kernel_rfl) (by kernel_rfl) (fun _ _ _ h => h) (Or.inl ⟨by rfl, ?_⟩) (by assumption) ?_
      rotate_left
      · intro W hSW; go_simp; try with_reducible rfl
      try simp only [Act.put, List.setIfInBounds_toArray, List.set_cons_zero, List.set_cons_succ]
      refine wpAnyH_take (i := 2) (oi := ⟨_, _, _, _, _, _⟩) (v := ?_) rfl (by kernel_rfl) (by kernel_rfl) (by kernel_rfl) (fun _ _ _ h => h) (Or.inl ⟨by rfl, ?_⟩) (by assumption) ?_
      rotate_left
      · intro W hSW; go_simp; try with_reducible rfl
      try simp only [Act.put, List.setIfInBounds_toArray, List.set_cons_zero, List.set_cons_succ]
      refine wpAnyH_take (i := 3) (oi := ⟨_, _, _, _, _, _⟩) (v := ?_) rfl (by kernel_rfl) (by kernel_rfl) (by kernel_rfl) (fun _ _ _ h => h) (Or.inl ⟨by rfl, ?_⟩) (by assumption) ?_
      rotate_left
      · intro W hSW; refine exec_load_mid 37 (.tmp 27) ?_ bA (oA + k * 32) ?_ (cells ad) _ (fun j u hj => (hSW.cell (p := ⟨bA, oA + k * 32 + j, none⟩) hbAr).trans (hra j u hj)) Tryd.underlying37 rfl Hs.out <;> rfl
      try simp only [Act.put, List.setIfInBounds_toArray, List.set_cons_zero, List.set_cons_succ]
      refine wpAnyH_take (i := 4) (oi := ⟨_, _, _, _, _, _⟩) (v := ?_) rfl (by kernel_rfl) (by kernel_rfl) (by kernel_rfl) (fun _ _ _ h => h) (Or.inl ⟨by rfl, ?_⟩) (by assumption) ?_
      rotate_left
      · intro W hSW; go_simp; try with_reducible rfl
      try simp only [Act.put, List.setIfInBounds_toArray, List.set_cons_zero, List.set_cons_succ]
      refine wpAnyH_take (i := 5) (oi := ⟨_, _, _, _, _, _⟩) (v := ?_) rfl (by kernel_rfl) (by kernel_rfl) (by kernel_rfl) (fun _ _ _ h => h) (Or.inl ⟨by rfl, ?_⟩) (by assumption) ?_
      rotate_left
      · intro W hSW; go_simp; try with_reducible rfl
      try simp only [Act.put, List.setIfInBounds_toArray, List.set_cons_zero, List.set_cons_succ]
      refine wpAnyH_take (i := 6) (oi := ⟨_, _, _, _, _, _⟩) (v := ?_) rfl (by kernel_rfl) (by kernel_rfl) (by kernel_rfl) (fun _ _ _ h => h) (Or.inl ⟨by rfl, ?_⟩) (by assumption) ?_
      rotate_left
      · intro W hSW; go_simp; try with_reducible rfl
      try simp only [Act.put, List.setIfInBounds_toArray, List.set_cons_zero, List.set_cons_succ]
      refine wpAnyH_take (i := 7) (oi := ⟨_, _, _, _, _, _⟩) (v := ?_) rfl (by kernel_rfl) (by kernel_rfl) (by kernel_rfl) (fun _ _ _ h => h) (Or.inl ⟨by rfl, ?_⟩) (by assumption) ?_
      rotate_left
      · intro W hSW; have hcW := (hSW.cell (p := ⟨b2, o2 + k, none⟩) hb2r).trans hcp; go_simp; try with_reducible rfl
      try simp only [Act.put, List.setIfInBounds_toArray, List.set_cons_zero, List.set_cons_succ]
      refine wpAnyH_ready (rs := [8]) (by kernel_rfl) (by simp) ?_
      refine AllReadyH.cons (o := ⟨_, _, _, _, _, _⟩) rfl (fun K hK => ?_) AllReadyH.nil
      go_simp
      refine (raddress_any p.A p.n p.c p.xs wd B hlB hBw Hpn.out hpn1 (by omega)).mono ?_
      rintro e wq1 ⟨rfl, hb⟩
      try simp only []
      rw [Had.out]
      have hSwq1 := hSc.trans (hb.mono hSc.size)
      refine hK.out _ _ hSwq1 (fun hHeld => ?_)
      clear hK K hb hSc
      have hSc := hSwq1
      clear hSwq1
      try simp only [Act.put, List.setIfInBounds_toArray, List.set_cons_zero, List.set_cons_succ]
      refine wpAnyH_take (i := 9) (oi := ⟨_, _, _, _, _, _⟩) (v := (.bool (!(ad == ad)))) rfl (by kernel_rfl) (by kernel_rfl) (by kernel_rfl) (fun _ _ _ h => h) (Or.inl ⟨by rfl, ?_⟩) (by assumption) ?_
      · intro W hSW; exact exec_neqB (P := Tryd.prog) (W := W) 37 (.tmp 28) (.tmp 33) 37 rfl Tryd.underlying37 Tryd.underlying5 Tryd.cells5k Tryd.guardA13 rfl rfl Hadl.out Hadl.out
      try simp only [Act.put, List.setIfInBounds_toArray, List.set_cons_zero, List.set_cons_succ]
      rw [show (!(ad == ad)) = false by rw [beq_self_eq_true ad]; rfl]
      refine wpAnyH_take (i := 10) (oi := ⟨_, _, _, _, _, _⟩) (v := ?_) rfl (by kernel_rfl) (by kernel_rfl) (by kernel_rfl) (fun _ _ _ h => h) (Or.inl ⟨by rfl, ?_⟩) (by assumption) ?_
      rotate_left
      · intro W hSW; go_simp; try with_reducible rfl
      try simp only [Act.put, List.setIfInBounds_toArray, List.set_cons_zero, List.set_cons_succ]
      refine wpAnyH_take (i := 11) (oi := ⟨_, _, _, _, _, _⟩) (v := ?_) rfl (by kernel_rfl) (by kernel_rfl) (by kernel_rfl) (fun _ _ _ h => h) (Or.inl ⟨by rfl, ?_⟩) (by assumption) ?_
      rotate_left
      · intro W hSW; go_simp; try with_reducible rfl
      try simp only [Act.put, List.setIfInBounds_toArray, List.set_cons_zero, List.set_cons_succ]
      refine wpAnyH_take (i := 12) (oi := ⟨_, _, _, _, _, _⟩) (v := ?_) rfl (by kernel_rfl) (by kernel_rfl) (by kernel_rfl) (fun _ _ _ h => h) (Or.inl ⟨by rfl, ?_⟩) (by assumption) ?_
      rotate_left
      · intro W hSW; go_simp; try with_reducible rfl
      try simp only [Act.put, List.setIfInBounds_toArray, List.set_cons_zero, List.set_cons_succ]
      refine wpAnyH_take (i := 13) (oi := ⟨_, _, _, _, _, _⟩) (v := ?_) rfl (by kernel_rfl) (by kernel_rfl) (by kernel_rfl) (fun _ _ _ h => h) (Or.inl ⟨by rfl, ?_⟩) (by assumption) ?_
      rotate_left
      · intro W hSW; go_simp; try with_reducible rfl
      try simp only [Act.put, List.setIfInBounds_toArray, List.set_cons_zero, List.set_cons_succ]
      refine wpAnyH_take (i := 14) (oi := ⟨_, _, _, _, _, _⟩) (v := ?_) rfl (by kernel_rfl) (by kernel_rfl) (by kernel_rfl) (fun _ _ _ h => h) (Or.inl ⟨by rfl, ?_⟩) (by assumption) ?_
      rotate_left
      · intro W hSW; have hcW := (hSW.cell (p := ⟨b2, o2 + k, none⟩) hb2r).trans hcp; go_simp; try with_reducible rfl
      try simp only [Act.put, List.setIfInBounds_toArray, List.set_cons_zero, List.set_cons_succ]
      refine wpAnyH_take (i := 16) (oi := ⟨_, _, _, _, _, _⟩) (v := ?_) rfl (by kernel_rfl) (by kernel_rfl) (by kernel_rfl) (fun _ _ _ h => h) (Or.inl ⟨by rfl, ?_⟩) (by assumption) ?_
      rotate_left
      · intro W hSW; go_simp; try with_reducible rfl
      try simp only [Act.put, List.setIfInBounds_toArray, List.set_cons_zero, List.set_cons_succ]
      refine wpAnyH_take (i := 17) (oi := ⟨_, _, _, _, _, _⟩) (v := ?_) rfl (by kernel_rfl) (by kernel_rfl) (by kernel_rfl) (fun _ _ _ h => h) (Or.inl ⟨by rfl, ?_⟩) (by assumption) ?_
      rotate_left
      · intro W hSW; go_simp; try with_reducible rfl
      try simp only [Act.put, List.setIfInBounds_toArray, List.set_cons_zero, List.set_cons_succ]
      refine wpAnyH_take (i := 18) (oi := ⟨_, _, _, _, _, _⟩) (v := ?_) rfl (by kernel_rfl) (by kernel_rfl) (by kernel_rfl) (fun _ _ _ h => h) (Or.inl ⟨by rfl, ?_⟩) (by assumption) ?_
      rotate_left
      · intro W hSW; go_simp; try with_reducible rfl
      try simp only [Act.put, List.setIfInBounds_toArray, List.set_cons_zero, List.set_cons_succ]
      refine wpAnyH_take (i := 19) (oi := ⟨_, _, _, _, _, _⟩) (v := ?_) rfl (by kernel_rfl) (by kernel_rfl) (by kernel_rfl) (fun _ _ _ h => h) (Or.inl ⟨by rfl, ?_⟩) (by assumption) ?_
      rotate_left
      · intro W hSW; refine exec_load_mid 37 (.tmp 43) ?_ bA (oA + k * 32) ?_ (cells ad) _ (fun j u hj => (hSW.cell (p := ⟨bA, oA + k * 32 + j, none⟩) hbAr).trans (hra j u hj)) Tryd.underlying37 rfl Hs.out <;> rfl
      try simp only [Act.put, List.setIfInBounds_toArray, List.set_cons_zero, List.set_cons_succ]
      refine wpAnyH_ready (rs := [15]) (by kernel_rfl) (by simp) ?_
      refine AllReadyH.cons (o := ⟨_, _, _, _, _, _⟩) rfl (fun K hK => ?_) AllReadyH.nil
      go_simp
      refine (kaddress_any p.A p.n p.c p.xs wq1 B (hTd.below hSc) (hlB.below (hSc.mono hBw)) (Nat.le_trans hBw hSc.size) Hpn.out hpc hpm (by omega)).mono ?_
      rintro e wq2 ⟨rfl, hb⟩
      try simp only []
      rw [Had.out]
      have hSwq2 := hSc.trans (hb.mono hSc.size)
      refine hK.out _ _ hSwq2 (fun hHeld => ?_)
      clear hK K hb hSc
      have hSc := hSwq2
      clear hSwq2
      try simp only [Act.put, List.setIfInBounds_toArray, List.set_cons_zero, List.set_cons_succ]
      refine wpAnyH_take (i := 20) (oi := ⟨_, _, _, _, _, _⟩) (v := (.bool (!(ad == ad)))) rfl (by kernel_rfl) (by kernel_rfl) (by kernel_rfl) (fun _ _ _ h => h) (Or.inl ⟨by rfl, ?_⟩) (by assumption) ?_
      · intro W hSW; exact exec_neqB (P := Tryd.prog) (W := W) 37 (.tmp 40) (.tmp 44) 37 rfl Tryd.underlying37 Tryd.underlying5 Tryd.cells5k Tryd.guardA13 rfl rfl Hadl.out Hadl.out
      try simp only [Act.put, List.setIfInBounds_toArray, List.set_cons_zero, List.set_cons_succ]
      rw [show (!(ad == ad)) = false by rw [beq_self_eq_true ad]; rfl]
      refine wpAnyH_take (i := 21) (oi := ⟨_, _, _, _, _, _⟩) (v := ?_) rfl (by kernel_rfl) (by kernel_rfl) (by kernel_rfl) (fun _ _ _ h => h) (Or.inl ⟨by rfl, ?_⟩) (by assumption) ?_
      rotate_left
      · intro W hSW; go_simp; try with_reducible rfl
      try simp only [Act.put, List.setIfInBounds_toArray, List.set_cons_zero, List.set_cons_succ]
      refine wpAnyH_done (by kernel_rfl) ?_ _
      have HB9 : Hid (Below w2.heap.size w2 wq2) := hBd.trans (hSc.mono hsd)
      go_wp2_with fail
      go_roundw
      case rel => exact ⟨k + 1, by omega, by go_num, HB9⟩
      case measure => simp [intOf]; omega
    · obtain rfl : k = m := by omega
      obtain ⟨tx, htx⟩ : ∃ x, textK b = x := ⟨_, rfl⟩
      have Htl : Hid (tx.length = 32) := by show _ = _; rw [← htx]; exact textK_length _
      have Htx := Lib.hid htx
      have Hto : Hid (shaB (wordsK n (adrsK b)) = tx) := by show _ = _; rw [← htx, Hn.out]; rfl
      have heq : ∀ W : World, (binOp .eql 37 (.agg (cells tx).toArray) (.agg (cells tx).toArray)).run Tryd.prog W = .ok (.bool true) W := fun W => by
        rw [run_eql_bytes W Tryd.underlying37 Tryd.underlying5 Tryd.cells5k Htl.out Htl.out, beq_self_eq_true]
      have hT3 : Tab wr := HT2.out.below HB.out
      have hx3 : Lies wr B A b := Hx2.out.below (HB.out.mono (show B ≤ w2.heap.size by omega))
      have hLA3 : LiesV wr wr.heap.size LA (acells (adrsK b)) := (HLA.out.below HB.out).le hsr
      have hB3 : Below w.heap.size w wr := HB2.out.trans (HB.out.mono hs2)
      have hB3s : B ≤ wr.heap.size := by omega
      clear htx HB
      go_wp2_with fail
      refine (ktext_any A n c b wr B hT3 hx3 hB3s Hn.out (by omega)).mono ?_
      rintro e w4 ⟨rfl, hb4⟩
      rw [Htx.out]
      have hT4 := hT3.below hb4
      have hx4 := hx3.below (hb4.mono hB3s)
      have hLA4 := (hLA3.below hb4).le hb4.size
      have hB4 : Below w.heap.size w w4 := hB3.trans (hb4.mono hB3.size)
      have hB4s : B ≤ w4.heap.size := Nat.le_trans hB3s hb4.size
      clear hT3 hx3 hLA3 hB3 hb4
      go_wp2_with fail
      refine (rtext13_any A n c b w4 B hx4 hB4s Hn.out hc hm (by omega)).mono ?_
      rintro e w5 ⟨rfl, hb5⟩
      rw [Htx.out]
      have hT5 := hT4.below hb5
      have hx5 := hx4.below (hb5.mono hB4s)
      have hLA5 := (hLA4.below hb5).le hb5.size
      have hB5 : Below w.heap.size w w5 := hB4.trans (hb5.mono hB4.size)
      have hB5s : B ≤ w5.heap.size := Nat.le_trans hB4s hb5.size
      clear hT4 hx4 hLA4 hB4 hb5
      go_wp2_with fail
      refine (kof_any n LA k cA (adrsK b) w5 w5.heap.size hT5 hLA5 (adrsK_all b) (Nat.le_refl _) Hal.out.symm (by omega) (by omega)).mono ?_
      rintro e w6 ⟨rfl, hb6⟩
      rw [Hto.out]
      have hT6 := hT5.below hb6
      have hx6 := hx5.below (hb6.mono hB5s)
      have hB6 : Below w.heap.size w w6 := hB5.trans (hb6.mono hB5.size)
      have hB6s : B ≤ w6.heap.size := Nat.le_trans hB5s hb6.size
      clear hT5 hx5 hLA5 hB5 hb6
      go_wp2_with fail
      refine (ktext_any A n c b w6 B hT6 hx6 hB6s Hn.out (by omega)).mono ?_
      rintro e w7 ⟨rfl, hb7⟩
      rw [Htx.out]
      have hT7 := hT6.below hb7
      have hB7 : Below w.heap.size w w7 := hB6.trans (hb7.mono hB6.size)
      clear hT6 hx6 hB6 hb7
      go_wp2_with fail
      refine (HW.out w7 hT7).mono ?_
      rintro e w8 ⟨rfl, hb8⟩
      go_wp2_with fail
      go_ret
      exact ⟨rfl, hB7.trans (hb8.mono hB7.size)⟩
end Go.Proofs.YtmcbpifkclhfiaaDoor
