/-
  Layer 13: the contracts of Addresses and of Text.
-/
import Derived.Test.YtmcbpifkclhfiaaDoorPkChkL
import Derived.Test.YtmcbpifkclhfiaaDoorPkChkD
import Derived.Test.YtmcbpifkclhfiaaDoorPkBuildS
import Derived.Maps.AppendAt
namespace Go.Proofs.YtmcbpifkclhfiaaDoor
open Go.RowKit Go.Shelf
set_option linter.unusedVariables false
set_option linter.unusedSimpArgs false
attribute [local go_sem] Oper.semAt_some

theorem Tryd.infoA13 : (Tryd.prog.info? 37).map (fun i => (i.zero, i.size, i.bytes)) = some (some (.agg (cells zero32).toArray), 32, 32) := by kernel_rfl
/-- The addresses of a text's chunks. -/
def adrsK (b : List UInt8) : List (List UInt8) := (chunksK b).map adrK13
theorem adrsK_length (b : List UInt8) : (adrsK b).length = countK b.length := by rw [adrsK, List.length_map, chunksK_length]
theorem adrsK_all (b : List UInt8) : ∀ x ∈ adrsK b, x.length = 32 := by
  intro x hx
  obtain ⟨y, _, rfl⟩ := List.mem_map.1 hx
  exact adrK13_length y
theorem adrsK_of {b : List UInt8} {ys : List KEl} (hS : allK b.length ys) : ys.flatMap (fun x => cells (adrK13 (chunkK b x.i))) = acells (adrsK b) := by
  unfold adrsK chunksK acells
  rw [← show ys.map KEl.i = List.range (countK b.length) from hS, List.map_map, List.map_map, List.flatMap_map]
  rfl

set_option maxRecDepth 100000 in
set_option maxHeartbeats 4000000 in
theorem kaddresses_any (A0 : Option Addr) (n c0 : Nat) (b : List UInt8) (w : World) (B : Nat) (hTb : Tab w) (h : Lies w B A0 b) (hB : B ≤ w.heap.size) (hn : n = b.length) (hm : n ≤ 100000) :
    Calls Tryd.prog 15 #[.slice A0 n c0] w fun e w' => ∃ L cl, e = .returned (.slice L (countK n) cl) ∧ LiesV w' w'.heap.size L (acells (adrsK b)) ∧ countK n ≤ cl ∧ Below w.heap.size w w' := by
  obtain ⟨i0, hi, hz0, hz1, hz2⟩ := info_parts Tryd.infoA13
  obtain ⟨m, hmm⟩ : ∃ m, countK n = m := ⟨_, rfl⟩
  have hmb : m ≤ 1000 := by rw [← hmm]; unfold countK; omega
  have hcnt := fun V : World => kcount_any (n : Int) V (by omega) (by omega)
  simp only [Int.toNat_natCast, hmm] at hcnt
  rw [hmm]
  have Hn := Lib.hid hn
  have H := Lib.hid h
  have Hm := Lib.hid hmm
  clear hn h hmm
  refine calls_of_wp_marks Tryd.func15 rfl ?_
  simp only [Tryd.ntmps15, List.size_toArray, List.length_cons, List.length_nil, Nat.reduceAdd, Nat.reduceSub, Array.replicate_succ, Array.replicate_zero, List.push_toArray, List.append_toArray, List.nil_append, List.cons_append]
  go_wp2_with fail
  refine (hcnt w).mono ?_
  rintro e w1 ⟨rfl, rfl⟩
  go_wp2_with (at_make; refine wpList_make_own _ rfl _ _ 35 rfl w.heap.size 37 i0 (.agg (cells zero32).toArray) 32 Tryd.underlying35 hi hz0 hz1 _ _ _ m rfl rfl rfl (by rw [hz2]; omega) (by unfold maxLen; omega) (Nat.le_refl _) ?_)
  intro w2 hr2 hg2
  have hb2 : Below w.heap.size w w2 := ⟨hg2.os, hg2.tape, hg2.output, hg2.size, fun k hk => hg2.block k hk (by simp)⟩
  have hlt2 : w.heap.size < w2.heap.size := own_lt hr2 rfl
  obtain ⟨K, hK⟩ : ∃ K, w.heap.size = K := ⟨_, rfl⟩
  have hKw : K ≤ w.heap.size := by omega
  rw [hK] at hr2 hb2 hlt2 hB
  rw [hK]
  clear hg2
  go_wp2_with fail
  obtain ⟨w3, hw3⟩ : ∃ w3, w2.alloc (.cells #[.slice (some ⟨K, 0, none⟩) 0 m] 35) = w3 := ⟨_, rfl⟩
  obtain ⟨N, hN⟩ : ∃ N, w2.heap.size = N := ⟨_, rfl⟩
  have oN : One w3 N (.slice (some ⟨K, 0, none⟩) 0 m) 35 := by rw [← hw3, ← hN]; exact One.new w2 _ _
  have hr3 := hr2.alloc (.cells #[.slice (some ⟨K, 0, none⟩) 0 m] 35)
  have hb3 : Below K w w3 := by rw [← hw3]; exact hb2.alloc (by omega) _
  have hs3 : w3.heap.size = N + 1 := by rw [← hw3, ← hN]; simp
  rw [hw3] at hr3 ⊢
  rw [hN] at hlt2 ⊢
  clear hw3 hr2 hb2 hN
  refine (kall_any A0 n c0 b w3 B (H.out.below (hb3.mono hB)) (by omega) Hn.out hm).mono ?_
  rintro e w4 ⟨a, A, c, rfl, hT, hlt, hb4⟩
  have hs4 := hb4.size
  have o4 := oN.below hb4 oN.lt
  have hr4 := own_below hr3 hb4
  have hB4 : Below K w w4 := hb3.trans (hb4.mono (by omega))
  have hbl : ∀ k ∈ tblk a A, N < k := fun k hk => by have := hlt k hk; omega
  have htlt := hT.lt
  have Hml : Hid (countK b.length = m) := by show _ = _; rw [← Hn.out]; exact Hm.out
  have h0 : LoopK K N a A c b w4.heap.size 35 37 32 (fun x => cells (adrK13 (chunkK b x.i))) w [] w4 := ⟨by rw [Hml.out]; exact o4, by rw [Hml.out]; exact hr4, (by simp), hT, hB4, Nat.le_refl _⟩
  clear oN hr3 hb3 hlt hb4 o4 hr4 hB4
  go_wp2_with fail
  refine wp_rangeFunc ?_
  refine range_tells (gf := 25) (lb := #[.pointer (some ⟨a, 0, none⟩)]) rfl (enters_of Tryd.func25 (by kernel_rfl) rfl)
    (kiter_tells a c w4.heap.size A b w4 hT (Nat.le_refl _)) (fun pre x V l o o' h hl ho => ⟨h.1, x.put V l o o' h.2 hl ho⟩) (fun h k => h.trans k) (KeepsS.put htlt) (fun _ => rfl)
    (fun pre V => LoopK K N a A c b w4.heap.size 35 37 32 (fun x => cells (adrK13 (chunkK b x.i))) w pre V)
    (ownFrom_stays (fun s V V' h hs => h.stays (by omega) hKw hs))
    h0
    (fun x => { tmps := #[.slice A0 n c0, undef, .slice none 0 0, .pointer (some ⟨N, 0, none⟩), undef, x.slc b.length, .slice A0 n c0, .int .i64 (n : Int), .int .i64 (m : Int), .slice (some ⟨K, 0, none⟩) 0 m, .slice A0 n c0, .func (.func 25) #[] #[.pointer (some ⟨a, 0, none⟩)], .int .i64 (x.i : Int), x.slc b.length, undef, undef, undef, undef, undef, undef], defers := [] }) ?assign ?body ?done
  case assign =>
    intro l x V Q hQ
    simp only [KEl.enc]
    gi_wp2
    exact hQ
  case body =>
    rintro l pre x V hP ⟨_, hx⟩ hpl
    rw [Hml.out] at hpl
    have hrow := hP.row
    have hbx := hP.box
    rw [Hml.out] at hrow hbx
    obtain ⟨q, hq⟩ : ∃ q, partK b.length x.i = q := ⟨_, rfl⟩
    have hsl : x.slc b.length = .slice x.A q x.c := by unfold KEl.slc; rw [hq]
    have hxr := hx.2
    rw [hq] at hxr
    obtain ⟨A2, c2, hv2, Hq0, hqc, hcm, hlx0⟩ := Lies.of_own hxr
    injection hv2 with e1 e2 e3
    subst e1 e3
    have Hq := Lib.hid Hq0
    have hq256 : q ≤ 256 := by rw [← hq]; exact partK_le _ _
    obtain ⟨ad, had⟩ : ∃ ad, adrK13 (chunkK b x.i) = ad := ⟨_, rfl⟩
    have Hadl : Hid ((cells ad).length = 32) := by show _ = _; rw [cells_length, ← had]; exact adrK13_length _
    have hTV : Tab V := hTb.belowN (by have := hTb.pos; omega) (hK ▸ hP.below)
    rw [hsl]
    clear hq Hq0 hsl e2
    gi_wp2
    obtain ⟨wd, hwd⟩ : ∃ wd, V.drew = wd := ⟨_, rfl⟩
    refine wpIn_region_held_drew (S := fun _ => True) (by kernel_rfl) (by kernel_rfl) trivial (fun hHeld => ?_)
    have hbd : One V.drew N (.slice (some ⟨K, 0, none⟩) pre.length m) 35 := hbx
    have hod : V.drew.ownsRow K 37 32 (.slice (some ⟨K, 0, none⟩) pre.length m) pre.length (pre.flatMap (fun x => cells (adrK13 (chunkK b x.i)))) := hrow.drew
    have hTd : Tab V.drew := hTV
    have hlx : Lies V.drew V.drew.heap.size x.A (chunkK b x.i) := hlx0
    have hbV : Below V.heap.size V V.drew := (Below.refl _ V).drew
    have hdV : V.heap.size ≤ V.drew.heap.size := Nat.le_refl _
    rw [hwd] at hbd hod hTd hlx hbV hdV ⊢
    clear hlx0 hxr hTV hrow hbx
    -- REGION
    refine wpAnyH_take (i := 1) (oi := ⟨_, _, _, _, _, _⟩) (v := ?_) rfl (by kernel_rfl) (by kernel_rfl) (by kernel_rfl) (fun _ _ _ h => h) (Or.inl ⟨by rfl, ?_⟩) (by assumption) ?_
    rotate_left
    · intro W hSW; go_simp; try with_reducible rfl
    try simp only [Act.put, List.setIfInBounds_toArray, List.set_cons_zero, List.set_cons_succ]
    refine wpAnyH_ready (rs := [0, 2]) (by kernel_rfl) (by simp) ?_
    refine AllReadyH.cons (o := ⟨_, _, _, _, _, _⟩) rfl (fun KK hK => ?_) ?_
    · skip
      have hcq := (hbd).cell
      go_simp
      refine hK.out _ _ trivial (fun hHeld => ?_)
      try clear hQ2
      clear hK KK
      try simp only [Act.put, List.setIfInBounds_toArray, List.set_cons_zero, List.set_cons_succ]
      refine wpAnyH_ready (rs := [2]) (by kernel_rfl) (by simp) ?_
      refine AllReadyH.cons (o := ⟨_, _, _, _, _, _⟩) rfl (fun KK hK => ?_) AllReadyH.nil
      go_simp
      refine (kaddress_any x.A q x.c (chunkK b x.i) wd wd.heap.size hTd hlx (Nat.le_refl _) Hq.out hqc hcm (by omega)).mono ?_
      rintro r w4a ⟨rfl, hb4⟩
      rw [had]
      have hbd4 := hbd.below hb4 hbd.lt
      have hod4 := own_below hod hb4
      try simp only []
      refine hK.out _ _ trivial (fun hHeld => ?_)
      try clear hQ2
      clear hK KK
      try simp only [Act.put, List.setIfInBounds_toArray, List.set_cons_zero, List.set_cons_succ]
      refine wpAnyH_ready (rs := [3]) (by kernel_rfl) (by simp) ?_
      refine AllReadyH.cons (o := ⟨_, _, _, _, _, _⟩) rfl (fun KK hK => ?_) AllReadyH.nil
      refine step_of_list rfl (fun Q2 hQ2 => ?_)
      refine wpList_buildSlice_oneV rfl 35 37 _ rfl (cells ad) rfl Tryd.underlying35 Tryd.infoA13 Hadl.out (by decide) (by decide) ?_
      intro w5 hr5 hb5 hs5
      refine wpList_nil (hQ2 _ _ ?_)
      have hbd5 := hbd4.below hb5 hbd4.lt
      have hod5 := own_below hod4 hb5
      refine hK.out _ _ trivial (fun hHeld => ?_)
      try clear hQ2
      clear hK KK
      try simp only [Act.put, List.setIfInBounds_toArray, List.set_cons_zero, List.set_cons_succ]
      refine wpAnyH_ready (rs := [4]) (by kernel_rfl) (by simp) ?_
      refine AllReadyH.cons (o := ⟨_, _, _, _, _, _⟩) rfl (fun KK hK => ?_) AllReadyH.nil
      refine step_of_list rfl (fun Q2 hQ2 => ?_)
      refine wpList_append_fits _ rfl _ _ 35 rfl K 37 i0 32 Tryd.underlying35 hi hz1 K pre.length m _ rfl hod5 ⟨w4a.heap.size, 0, none⟩ 1 1 (cells ad) rfl (by rw [Hadl.out]) (fun j u hj => by rw [Addr.add_lit, Nat.zero_add]; exact hr5.cell hj) (cells_one ad) (by omega) ?_
      intro w6 hown6 hg6
      refine wpList_nil (hQ2 _ _ ?_)
      rw [← had] at hown6
      obtain ⟨o6, hk6, hs6, hL6⟩ := hP.store hx Hml.out hlt2 (by omega) hKw hbl (hbV.trans ((hb4.trans (hb5.mono hb4.size)).mono hdV)) hg6 hown6
      refine hK.out _ _ trivial (fun hHeld => ?_)
      try clear hQ2
      clear hK KK
      try simp only [Act.put, List.setIfInBounds_toArray, List.set_cons_zero, List.set_cons_succ]
      refine wpAnyH_ready (rs := [5]) (by kernel_rfl) (by simp) ?_
      refine AllReadyH.cons (o := ⟨_, _, _, _, _, _⟩) rfl (fun KK hK => ?_) AllReadyH.nil
      have hcq := o6.cell
      have hfq := o6.free
      go_simp
      refine hK.out _ _ trivial (fun hHeld => ?_)
      try clear hQ2
      clear hK KK
      try simp only [Act.put, List.setIfInBounds_toArray, List.set_cons_zero, List.set_cons_succ]
      refine wpAnyH_done (by kernel_rfl) ?_ _
      simp only [NoOut]
      gi_wp2
      exact ⟨hk6, hs6, hL6⟩
    refine AllReadyH.cons (o := ⟨_, _, _, _, _, _⟩) rfl (fun KK hK => ?_) AllReadyH.nil
    go_simp
    refine (kaddress_any x.A q x.c (chunkK b x.i) wd wd.heap.size hTd hlx (Nat.le_refl _) Hq.out hqc hcm (by omega)).mono ?_
    rintro r w4a ⟨rfl, hb4⟩
    rw [had]
    have hbd4 := hbd.below hb4 hbd.lt
    have hod4 := own_below hod hb4
    try simp only []
    refine hK.out _ _ trivial (fun hHeld => ?_)
    try clear hQ2
    clear hK KK
    try simp only [Act.put, List.setIfInBounds_toArray, List.set_cons_zero, List.set_cons_succ]
    refine wpAnyH_ready (rs := [0, 3]) (by kernel_rfl) (by simp) ?_
    refine AllReadyH.cons (o := ⟨_, _, _, _, _, _⟩) rfl (fun KK hK => ?_) ?_
    · skip
      have hcq := (hbd4).cell
      go_simp
      refine hK.out _ _ trivial (fun hHeld => ?_)
      try clear hQ2
      clear hK KK
      try simp only [Act.put, List.setIfInBounds_toArray, List.set_cons_zero, List.set_cons_succ]
      refine wpAnyH_ready (rs := [3]) (by kernel_rfl) (by simp) ?_
      refine AllReadyH.cons (o := ⟨_, _, _, _, _, _⟩) rfl (fun KK hK => ?_) AllReadyH.nil
      refine step_of_list rfl (fun Q2 hQ2 => ?_)
      refine wpList_buildSlice_oneV rfl 35 37 _ rfl (cells ad) rfl Tryd.underlying35 Tryd.infoA13 Hadl.out (by decide) (by decide) ?_
      intro w5 hr5 hb5 hs5
      refine wpList_nil (hQ2 _ _ ?_)
      have hbd5 := hbd4.below hb5 hbd4.lt
      have hod5 := own_below hod4 hb5
      refine hK.out _ _ trivial (fun hHeld => ?_)
      try clear hQ2
      clear hK KK
      try simp only [Act.put, List.setIfInBounds_toArray, List.set_cons_zero, List.set_cons_succ]
      refine wpAnyH_ready (rs := [4]) (by kernel_rfl) (by simp) ?_
      refine AllReadyH.cons (o := ⟨_, _, _, _, _, _⟩) rfl (fun KK hK => ?_) AllReadyH.nil
      refine step_of_list rfl (fun Q2 hQ2 => ?_)
      refine wpList_append_fits _ rfl _ _ 35 rfl K 37 i0 32 Tryd.underlying35 hi hz1 K pre.length m _ rfl hod5 ⟨w4a.heap.size, 0, none⟩ 1 1 (cells ad) rfl (by rw [Hadl.out]) (fun j u hj => by rw [Addr.add_lit, Nat.zero_add]; exact hr5.cell hj) (cells_one ad) (by omega) ?_
      intro w6 hown6 hg6
      refine wpList_nil (hQ2 _ _ ?_)
      rw [← had] at hown6
      obtain ⟨o6, hk6, hs6, hL6⟩ := hP.store hx Hml.out hlt2 (by omega) hKw hbl (hbV.trans ((hb4.trans (hb5.mono hb4.size)).mono hdV)) hg6 hown6
      refine hK.out _ _ trivial (fun hHeld => ?_)
      try clear hQ2
      clear hK KK
      try simp only [Act.put, List.setIfInBounds_toArray, List.set_cons_zero, List.set_cons_succ]
      refine wpAnyH_ready (rs := [5]) (by kernel_rfl) (by simp) ?_
      refine AllReadyH.cons (o := ⟨_, _, _, _, _, _⟩) rfl (fun KK hK => ?_) AllReadyH.nil
      have hcq := o6.cell
      have hfq := o6.free
      go_simp
      refine hK.out _ _ trivial (fun hHeld => ?_)
      try clear hQ2
      clear hK KK
      try simp only [Act.put, List.setIfInBounds_toArray, List.set_cons_zero, List.set_cons_succ]
      refine wpAnyH_done (by kernel_rfl) ?_ _
      simp only [NoOut]
      gi_wp2
      exact ⟨hk6, hs6, hL6⟩
    refine AllReadyH.cons (o := ⟨_, _, _, _, _, _⟩) rfl (fun KK hK => ?_) AllReadyH.nil
    refine step_of_list rfl (fun Q2 hQ2 => ?_)
    refine wpList_buildSlice_oneV rfl 35 37 _ rfl (cells ad) rfl Tryd.underlying35 Tryd.infoA13 Hadl.out (by decide) (by decide) ?_
    intro w5 hr5 hb5 hs5
    refine wpList_nil (hQ2 _ _ ?_)
    have hbd5 := hbd4.below hb5 hbd4.lt
    have hod5 := own_below hod4 hb5
    refine hK.out _ _ trivial (fun hHeld => ?_)
    try clear hQ2
    clear hK KK
    try simp only [Act.put, List.setIfInBounds_toArray, List.set_cons_zero, List.set_cons_succ]
    refine wpAnyH_ready (rs := [0]) (by kernel_rfl) (by simp) ?_
    refine AllReadyH.cons (o := ⟨_, _, _, _, _, _⟩) rfl (fun KK hK => ?_) AllReadyH.nil
    have hcq := (hbd5).cell
    go_simp
    refine hK.out _ _ trivial (fun hHeld => ?_)
    try clear hQ2
    clear hK KK
    try simp only [Act.put, List.setIfInBounds_toArray, List.set_cons_zero, List.set_cons_succ]
    refine wpAnyH_ready (rs := [4]) (by kernel_rfl) (by simp) ?_
    refine AllReadyH.cons (o := ⟨_, _, _, _, _, _⟩) rfl (fun KK hK => ?_) AllReadyH.nil
    refine step_of_list rfl (fun Q2 hQ2 => ?_)
    refine wpList_append_fits _ rfl _ _ 35 rfl K 37 i0 32 Tryd.underlying35 hi hz1 K pre.length m _ rfl hod5 ⟨w4a.heap.size, 0, none⟩ 1 1 (cells ad) rfl (by rw [Hadl.out]) (fun j u hj => by rw [Addr.add_lit, Nat.zero_add]; exact hr5.cell hj) (cells_one ad) (by omega) ?_
    intro w6 hown6 hg6
    refine wpList_nil (hQ2 _ _ ?_)
    rw [← had] at hown6
    obtain ⟨o6, hk6, hs6, hL6⟩ := hP.store hx Hml.out hlt2 (by omega) hKw hbl (hbV.trans ((hb4.trans (hb5.mono hb4.size)).mono hdV)) hg6 hown6
    refine hK.out _ _ trivial (fun hHeld => ?_)
    try clear hQ2
    clear hK KK
    try simp only [Act.put, List.setIfInBounds_toArray, List.set_cons_zero, List.set_cons_succ]
    refine wpAnyH_ready (rs := [5]) (by kernel_rfl) (by simp) ?_
    refine AllReadyH.cons (o := ⟨_, _, _, _, _, _⟩) rfl (fun KK hK => ?_) AllReadyH.nil
    have hcq := o6.cell
    have hfq := o6.free
    go_simp
    refine hK.out _ _ trivial (fun hHeld => ?_)
    try clear hQ2
    clear hK KK
    try simp only [Act.put, List.setIfInBounds_toArray, List.set_cons_zero, List.set_cons_succ]
    refine wpAnyH_done (by kernel_rfl) ?_ _
    simp only [NoOut]
    gi_wp2
    exact ⟨hk6, hs6, hL6⟩
    -- END
  case done =>
    rintro D ys V hD hS hP hDf
    have hlen : ys.length = m := by
      have := congrArg List.length hS
      rwa [List.length_map, List.length_range, Hml.out] at this
    have hcL := hP.box.cell
    have hsp := stays_put hD hDf (.deferred none)
    have hst := hP.stays (by omega) hKw hsp
    rw [Hml.out, hlen] at hcL
    go_wp2_with fail
    refine ⟨by simp, .inl ⟨_, _, rfl, run_takeDeferred hDf, ?_⟩⟩
    refine ⟨_, results_tmp rfl _ _ _, ?_⟩
    generalize V.putObj D (.deferred none) = V2 at *
    have hrow := hst.row
    rw [hlen, Hml.out] at hrow
    refine ⟨_, _, rfl, fun _ => ⟨K, 0, rfl, own_lt hrow rfl, fun i u hi => ?_⟩, Nat.le_refl _, by rw [hK]; exact hst.below⟩
    rw [← adrsK_of hS] at hi
    have := hrow.cells (g := K) rfl i u hi
    rwa [Addr.add_lit] at this

theorem textK_length (b : List UInt8) : (textK b).length = 32 := shaB_length _
set_option maxRecDepth 100000 in
set_option maxHeartbeats 1000000 in
theorem ktext_any (A0 : Option Addr) (n c0 : Nat) (b : List UInt8) (w : World) (B : Nat) (hT : Tab w) (h : Lies w B A0 b) (hB : B ≤ w.heap.size) (hn : n = b.length) (hm : n ≤ 100000) :
    Calls Tryd.prog 18 #[.slice A0 n c0] w fun e w' => e = .returned (.agg (cells (textK b)).toArray) ∧ Below w.heap.size w w' := by
  have Hn := Lib.hid hn
  have H := Lib.hid h
  clear hn h
  go_enter Tryd.func18, Tryd.ntmps18
  go_wp2_with ((with_reducible refine at_alloc 37 ?_); refine wpList_alloc_rowV rfl 37 rfl (cells zero32) Tryd.zeroA ?_)
  intro w1 hr1 hb1 hs1
  have hT1 := hT.below hb1
  go_wp2_with fail
  refine (kaddresses_any A0 n c0 b w1 B hT1 (H.out.below (hb1.mono hB)) (by omega) Hn.out hm).mono ?_
  rintro e w2 ⟨L, cl, rfl, hL, hcl, hb2⟩
  have hr2 := hr1.below hr1.lt hb2
  have hT2 := hT1.below hb2
  have hB2 : Below w.heap.size w w2 := hb1.trans (hb2.mono (by omega))
  clear hb1 hb2 hr1 hT1 hs1
  go_wp2_with fail
  refine (kof_any n L (countK n) cl (adrsK b) w2 w2.heap.size hT2 hL (adrsK_all b) (Nat.le_refl _) (by rw [adrsK_length, ← Hn.out]) (by unfold countK; omega) (by omega)).mono ?_
  rintro e w3 ⟨rfl, hb3⟩
  have e0 : shaB (wordsK n (adrsK b)) = textK b := by rw [Hn.out]; rfl
  rw [e0]
  clear e0
  have hr3 := hr2.below hr2.lt hb3
  have hB3 := hB2.trans (hb3.mono hB2.size)
  have Hsz : Hid ((Tryd.prog.info? 37).map (·.size) = some ((cells (textK b)).toArray).size) := by show _ = _; rw [Tryd.sizeA, List.size_toArray, cells_length, textK_length]
  have Hold : Hid (((cells zero32).toArray).size = ((cells (textK b)).toArray).size) := by show _ = _; rw [List.size_toArray, List.size_toArray, cells_length, cells_length, textK_length]; rfl
  go_wp2_with ((with_reducible refine at_store 37 ?_); refine wpList_store_row rfl 37 _ _ rfl w.heap.size _ rfl rfl 37 _ hr3 Hsz.out Hold.out (cells_oneCell _) ?_)
  refine bodyPost_ret (results_cell_row (fn := Tryd.f18) rfl _ _ w.heap.size 37 _ (0, 0) _ rfl (hr3.put (cells (textK b))) Tryd.underlying37 rfl Hsz.out) rfl ⟨rfl, ?_⟩
  exact below_setRow hB3 (Nat.le_refl _) _
end Go.Proofs.YtmcbpifkclhfiaaDoor
