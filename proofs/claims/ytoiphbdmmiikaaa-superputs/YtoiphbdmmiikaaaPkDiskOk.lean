/-
  Layer 6: the contract of Write.
  Layer 6: the contract of Flush.
  Layer 6: the contract of Crash.
  Layer 6: what is done to a disk keeps its numbers small.
-/
import Derived.Test.YtoiphbdmmiikaaaPkDiskRd
import Derived.Test.YtoiphbdmmiikaaaPkArrEq
import Derived.Deep.RegionHeld3
import Derived.Test.YtoiphbdmmiikaaaPkMemV
namespace Go.Proofs.Ytoiphbdmmiikaaa
open Go.RowKit Go.Maps
set_option linter.unusedVariables false

theorem Try.zeroC : (Try.prog.info? 75).bind (·.zero) = some (.agg (Value.int .i64 0 :: zeroSec.cs).toArray) := by kernel_rfl
theorem built72 (x : Int) (s : Sec) : Try.prog.built 75 [(0, .int .i64 x), (1, .agg s.cs.toArray)] = some (Value.int .i64 x :: s.cs).toArray := built_chg Try.zeroC Try.underlying75 (by kernel_rfl) x s
theorem Dk.Ok.stepped {d : Dk} (h : d.Ok) (hs : d.steps < 1000000) : d.stepped.Ok := by
  unfold Dk.stepped
  split
  · exact ⟨h.at_, h.pos, h.dur, h.wait, h.steps, h.fuse⟩
  · refine ⟨h.at_, h.pos, h.dur, h.wait, hs, fun n hn => ?_⟩
    obtain ⟨m, hm, rfl⟩ := Option.map_eq_some_iff.1 hn
    have := h.fuse m hm
    omega

set_option maxRecDepth 100000 in
set_option maxHeartbeats 4000000 in
theorem dwrite_any (w : World) (base g : Nat) (L : List Nat) (d : Dk) (x : Int) (s : Sec) (hk : d.Ok) (hw : d.wait.length < 1000000) (h : Disk w base L g d) (hB : base ≤ w.heap.size) :
    Calls Try.prog 14 #[.pointer (some ⟨g, 0, none⟩), .int .i64 x, s.val] w fun e w' => e = .returned (.int .i64 (d.write x s).2) ∧ Turned w base L g (d.write x s).1 w' := by
  obtain ⟨vd, vw, bm, h, rfl⟩ := h
  have Hk := Lib.hid hk
  have HD := Lib.hid h
  clear h hk
  cases hh : d.has x
  · have Hv : Hid (d.write x s = (d, 2)) := by show _ = _; simp [Dk.write, hh]
    go_enter Try.func14, Try.ntmps14
    go_wp2_with ((with_reducible refine at_box 24 ?_); refine wpList_box_rowV rfl 24 _ rfl s.cs rfl ?_; intro w1 hr1 hb1 hs1)
    refine (dhas_any w1 base g bm vd vw d x (HD.out.below hb1)).mono ?_
    rintro e w2 ⟨rfl, rfl⟩
    rw [hh]
    go_wp2_with fail
    go_ret
    rw [Hv.out]
    exact ⟨rfl, _, ⟨vd, vw, bm, HD.out.below hb1, rfl⟩, But.of _ hb1, fun k hk => .inl hk⟩
  · have hx : 0 ≤ x ∧ x < d.dur.length := by simpa [Dk.has] using hh
    obtain ⟨i, rfl⟩ := Int.eq_ofNat_of_zero_le hx.1
    have hi : i < d.dur.length := by omega
    clear hx
    cases hdd : d.dead
    · have Hv : Hid (d.write (i : Int) s = ({ d.stepped with wait := d.wait ++ [(i, s)] }, 0)) := by show _ = _; simp [Dk.write, hh, hdd]
      have Hdd := Lib.hid hdd
      have Hi := Lib.hid hi
      go_enter Try.func14, Try.ntmps14
      go_wp2_with ((with_reducible refine at_box 24 ?_); refine wpList_box_rowV rfl 24 _ rfl s.cs rfl ?_; intro w1 hr1 hb1 hs1)
      have HD1 := Lib.hid (HD.out.below hb1)
      refine (dhas_any w1 base g bm vd vw d (i : Int) HD1.out).mono ?_
      rintro e w2 ⟨rfl, rfl⟩
      rw [hh]
      go_wp2_with fail
      refine (dstep_any w2 base g bm vd vw d Hk.out HD1.out).mono ?_
      rintro e w3 ⟨rfl, hD3, hg3⟩
      rw [hdd]
      have hgN : g < w.heap.size := HD.out.glt
      have hr3 : RowV w3 w.heap.size 24 s.cs := hr1.keep hg3 (fun e => by injection e with e; omega)
      have HB3 : Hid (But (foot g bm vd vw) w.heap.size w w3) := (But.of _ hb1).grown hg3 (by intro k e; injection e with e; left; simp [mem_foot, e]) (by omega)
      have HD3 := Lib.hid hD3
      have ew : d.stepped.wait = d.wait := by unfold Dk.stepped; split <;> rfl
      have c1 := hD3.c1
      have c2 := hD3.c2
      obtain ⟨A, cap, hvw, hcap, hcm⟩ := own_slice hD3.wait
      rw [hvw] at c1
      rw [ew] at c1
      have hsz3 : w.heap.size + 1 ≤ w3.heap.size := by have := hg3.size; omega
      generalize hnl : d.wait.length = n at *
      have Hmap : Hid (w3.drew.ownsMap Try.prog 3 (plainElem (H := Unit) Try.prog 3) bm n (lastD d.wait)) := by show _; have := hD3.map.drew; rw [ew, hnl] at this; exact this
      clear hD3 hg3 hb1 hr1 hh hdd hs1
      go_wp2_with fail
      refine wp_region_still_tail 10 (by kernel_rfl) (by kernel_rfl) ?_
      simp only [List.take_succ_cons, List.take_zero, List.drop_succ_cons, List.drop_zero]
      iterate 10 still_step
      refine wpStill_nil ?_
      change wpList _ _ _ _ _ w3.drew
      go_wp2_with (at_mapUpdate; refine wpList_mapUpdate_own _ rfl _ _ _ 69 rfl 3 3 keyed3 Try.underlying69 _ bm n _ rfl Hmap.out (by unfold maxLen; omega) _ _ _ rfl rfl (keyOf_int_mk Try.underlying3 (a := (i : Int)) (WalkArith.wf_i64 (by have := Hk.out.dur; have := Hi.out; omega))) _ [] (plainElem_int Try.underlying3 (WalkArith.wf_i64 (by omega))) ?_; intro w4 hm4 hg4)
      have hne : g ≠ bm := HD3.out.gm
      have hNb : bm < w.heap.size := HD.out.mlt
      have hg4' : w3.grownBy w4 (some bm) := ⟨hg4.os, hg4.tape, hg4.output, hg4.size, hg4.block⟩
      have hrow4 : RowV w4 g 72 (dcells vd vw bm d.stepped) := HD3.out.row.keep hg4' (fun e => hne (by injection e with e; exact e.symm))
      have hdur4 := HD3.out.dur.kept hg4' (.inr HD3.out.dm)
      have hwait4 := HD3.out.wait.kept hg4' (.inr HD3.out.wm)
      rw [ew, hnl] at hwait4
      have hr4 : RowV w4 w.heap.size 24 s.cs := hr3.keep hg4' (fun e => by injection e with e; omega)
      have hB4 : But (foot g bm vd vw) w.heap.size w w4 := HB3.out.grown hg4' (by intro k e; injection e with e; left; simp [mem_foot, e]) (by omega)
      have hsz4 : w.heap.size + 1 ≤ w4.heap.size := Nat.le_trans hsz3 hg4'.size
      have hvw' : vw = .slice A n cap := by rw [hvw, ew, hnl]
      have hR5 : w4.drew.rangeAt w.heap.size 0 s.cs := fun j v hj => by rw [Nat.zero_add]; exact hr4.drew.cell hj
      have hrow5 : RowV w4.drew g 72 (dcells vd vw bm d.stepped) := hrow4
      have hdur5 := hdur4.drew
      have hwait5 := hwait4.drew
      have hm5 := hm4.drew
      have hB5 : But (foot g bm vd vw) w.heap.size w w4.drew := hB4.drew
      have hsz5 : w.heap.size + 1 ≤ w4.drew.heap.size := hsz4
      have HDm : Hid (vw.ownBlock ≠ some bm ∧ vw.ownBlock ≠ some g ∧ (∀ k, vd.ownBlock = some k → vw.ownBlock ≠ some k) ∧ ∀ k, vw.ownBlock = some k → k < w.heap.size) := ⟨HD.out.wm, HD.out.wg, fun k hk => HD.out.dw hk, fun k hk => (HD.out.wait.lt k hk).2⟩
      have Hs := Lib.hid (sec_size s)
      have Hb := Lib.hid (built72 (i : Int) s)
      clear c1 c2 hr3 hr4 hg4 hg4' hm4 hrow4 hdur4 hwait4 hB4 hsz4 HD3 HB3 Hmap hvw HD1
      go_wp2_with fail
      refine wp_region_held_drew (S := fun W => W.rangeAt w.heap.size 0 s.cs) (by kernel_rfl) hR5 (fun hHeld => ?_)
      generalize w4.drew = w5 at *
      have hc5 : w5.cell? ⟨g, 1, none⟩ = some (Value.slice A n cap) := by have := hrow5.cell (i := 1) rfl; rw [hvw'] at this; exact this
      refine wpAnyH_take (i := 0) (oi := ⟨_, _, _, _, _, _⟩) (v := ?_) rfl (by kernel_rfl) (by kernel_rfl) (by kernel_rfl) (fun _ _ _ h => h) (Or.inl ⟨by rfl, ?_⟩) (by assumption) ?_
      rotate_left
      · intro W hSW; (try dsimp only at hSW); go_simp; try with_reducible rfl
      try simp only [Act.put, List.setIfInBounds_toArray, List.set_cons_zero, List.set_cons_succ]
      refine wpAnyH_take (i := 1) (oi := ⟨_, _, _, _, _, _⟩) (v := ?_) rfl (by kernel_rfl) (by kernel_rfl) (by kernel_rfl) (fun _ _ _ h => h) (Or.inl ⟨by rfl, ?_⟩) (by assumption) ?_
      rotate_left
      · intro W hSW; (try dsimp only at hSW); go_simp; try with_reducible rfl
      try simp only [Act.put, List.setIfInBounds_toArray, List.set_cons_zero, List.set_cons_succ]
      refine wpAnyH_take (i := 2) (oi := ⟨_, _, _, _, _, _⟩) (v := ?_) rfl (by kernel_rfl) (by kernel_rfl) (by kernel_rfl) (fun _ _ _ h => h) (Or.inl ⟨by rfl, ?_⟩) (by assumption) ?_
      rotate_left
      · intro W hSW; (try dsimp only at hSW); go_simp; try with_reducible rfl
      try simp only [Act.put, List.setIfInBounds_toArray, List.set_cons_zero, List.set_cons_succ]
      refine wpAnyH_take (i := 3) (oi := ⟨_, _, _, _, _, _⟩) (v := ?_) rfl (by kernel_rfl) (by kernel_rfl) (by kernel_rfl) (fun _ _ _ h => h) (Or.inl ⟨by rfl, ?_⟩) (by assumption) ?_
      rotate_left
      · intro W hSW; (try dsimp only at hSW); go_simp; try with_reducible rfl
      try simp only [Act.put, List.setIfInBounds_toArray, List.set_cons_zero, List.set_cons_succ]
      refine wpAnyH_take (i := 5) (oi := ⟨_, _, _, _, _, _⟩) (v := ?_) rfl (by kernel_rfl) (by kernel_rfl) (by kernel_rfl) (fun _ _ _ h => h) (Or.inl ⟨by rfl, ?_⟩) (by assumption) ?_
      rotate_left
      · intro W hSW; (try dsimp only at hSW); go_simp; try with_reducible rfl
      try simp only [Act.put, List.setIfInBounds_toArray, List.set_cons_zero, List.set_cons_succ]
      refine wpAnyH_take (i := 6) (oi := ⟨_, _, _, _, _, _⟩) (v := ?_) rfl (by kernel_rfl) (by kernel_rfl) (by kernel_rfl) (fun _ _ _ h => h) (Or.inl ⟨by rfl, ?_⟩) (by assumption) ?_
      rotate_left
      · intro W hSW; refine exec_load_mid 24 (.tmp 5) ?_ w.heap.size 0 ?_ s.cs _ hSW Try.underlying24 rfl Hs.out <;> rfl
      try simp only [Act.put, List.setIfInBounds_toArray, List.set_cons_zero, List.set_cons_succ]
      refine wpAnyH_take (i := 7) (oi := ⟨_, _, _, _, _, _⟩) (v := ?_) rfl (by kernel_rfl) (by kernel_rfl) (by kernel_rfl) (fun _ _ _ h => h) (Or.inl ⟨by rfl, ?_⟩) (by assumption) ?_
      rotate_left
      · intro W hSW
        refine exec_built 75 #[(0, .tmp 32), (1, .tmp 33)] ?_ (Value.int .i64 (i : Int) :: s.cs) ?_
        · rfl
        · exact Hb.out
      try simp only [Act.put, List.setIfInBounds_toArray, List.set_cons_zero, List.set_cons_succ]
      refine wpAnyH_ready (rs := [4, 8]) (by kernel_rfl) (by simp) ?_
      refine AllReadyH.cons (o := ⟨_, _, _, _, _, _⟩) rfl (fun K hK => ?_) (AllReadyH.cons (o := ⟨_, _, _, _, _, _⟩) rfl (fun K hK => ?_) AllReadyH.nil)
      go_simp
      refine hK.out _ _ hR5 (fun hHeld => ?_)
      clear hK K
      try simp only [Act.put, List.setIfInBounds_toArray, List.set_cons_zero, List.set_cons_succ]
      refine wpAnyH_ready (rs := [8]) (by kernel_rfl) (by simp) ?_
      refine AllReadyH.cons (o := ⟨_, _, _, _, _, _⟩) rfl (fun K hK => ?_) AllReadyH.nil
      refine ite_yes rfl ?_
      refine wp_buildSlice_one 70 75 (.tmp 34) rfl (Value.int .i64 (i : Int) :: s.cs) rfl Try.underlying70 Try.infoC (by rw [List.length_cons, Sec.cs_length]) (by decide) (by decide) ?_
      refine hK.out _ _ (World.rangeAt_alloc hR5 _) (fun hHeld => ?_)
      clear hK K
      try simp only [Act.put, List.setIfInBounds_toArray, List.set_cons_zero, List.set_cons_succ]
      rotate_left
      refine ite_yes rfl ?_
      refine wp_buildSlice_one 70 75 (.tmp 34) rfl (Value.int .i64 (i : Int) :: s.cs) rfl Try.underlying70 Try.infoC (by rw [List.length_cons, Sec.cs_length]) (by decide) (by decide) ?_
      refine hK.out _ _ (World.rangeAt_alloc hR5 _) (fun hHeld => ?_)
      clear hK K
      try simp only [Act.put, List.setIfInBounds_toArray, List.set_cons_zero, List.set_cons_succ]
      refine wpAnyH_ready (rs := [4]) (by kernel_rfl) (by simp) ?_
      refine AllReadyH.cons (o := ⟨_, _, _, _, _, _⟩) rfl (fun K hK => ?_) AllReadyH.nil
      have hc6 : (w5.alloc (.cells (Value.int .i64 (i : Int) :: s.cs).toArray 75)).cell? ⟨g, 1, none⟩ = some (Value.slice A n cap) := (World.cell?_alloc_lt _ _ _ (World.block_lt_of_cell? w5 _ hc5)).trans hc5
      go_simp
      refine hK.out _ _ (World.rangeAt_alloc hR5 _) (fun hHeld => ?_)
      clear hK K
      try simp only [Act.put, List.setIfInBounds_toArray, List.set_cons_zero, List.set_cons_succ]
      all_goals
        refine wpAnyH_ready (rs := [9]) (by kernel_rfl) (by simp) ?_
        refine AllReadyH.cons (o := ⟨_, _, _, _, _, _⟩) rfl (fun K hK => ?_) AllReadyH.nil
        refine ite_yes rfl ?_
        refine wp_append_at (.tmp 31) (.tmp 35) 70 rfl base 75 Try.underlying70 Try.infoC (by rw [show (Value.agg (Value.int .i64 0 :: zeroSec.cs).toArray).cells = (Value.int .i64 0 :: zeroSec.cs).toArray from rfl, List.size_toArray, List.length_cons, Sec.cs_length]) (by decide) (Value.slice A n cap) n (chgs d.wait) rfl (hvw' ▸ hwait5.alloc _) ⟨w5.heap.size, 0, none⟩ 1 1 (Value.int .i64 (i : Int) :: s.cs) rfl (by rw [List.length_cons, Sec.cs_length]) (news_new w5 _ _) (Chg.one (i, s)) (by unfold maxLen; omega) (by omega) (by rw [World.size_alloc]; omega) ?_
        intro vX w6 hown6 hgr6 hloc6
        obtain ⟨A', cap', rfl, _, _⟩ := own_slice hown6
        have hR6 : w6.rangeAt w.heap.size 0 s.cs := by
          intro j v hj
          have h1 := World.rangeAt_alloc hR5 (.cells (Value.int .i64 (i : Int) :: s.cs).toArray 75) j v hj
          refine hgr6.cell h1 (fun e => ?_)
          have := HDm.out.2.2.2 w.heap.size (by rw [hvw']; exact e.symm)
          omega
        refine hK.out _ _ hR6 (fun hHeld => ?_)
        clear hK K
        try simp only [Act.put, List.setIfInBounds_toArray, List.set_cons_zero, List.set_cons_succ]
        rw [← hvw'] at hgr6
        have hnb : vw.ownBlock ≠ some g := HDm.out.2.1
        have hrow6 : RowV w6 g 72 (dcells vd vw bm d.stepped) := (hrow5.alloc _).keep hgr6 hnb
        have hdur6 := (hdur5.alloc (.cells (Value.int .i64 (i : Int) :: s.cs).toArray 75)).kept hgr6 (by
          cases hv : vd.ownBlock with
          | none => exact .inl rfl
          | some k => exact .inr (fun e => HDm.out.2.2.1 k hv e.symm))
        have hm6 := (hm5.alloc (.cells (Value.int .i64 (i : Int) :: s.cs).toArray 75)).kept hgr6 (fun e => HDm.out.1 e.symm)
        have hB6 : But (foot g bm vd vw) w.heap.size w w6 := (hB5.alloc (by omega) _).grown hgr6 (fun k e => by left; simp [mem_foot, e]) (by rw [World.size_alloc]; omega)
        have hf6 := hrow6.free 1
        have hc6 := hrow6.cell (i := 1) rfl
        have hsz6 : w.heap.size + 1 ≤ w6.heap.size := by have := hgr6.size; rw [World.size_alloc] at this; omega
        have HL : Hid ((Value.slice A' (n + 1) cap').ownBlock = vw.ownBlock ∨ (Value.slice A' (n + 1) cap').ownBlock = some (w5.heap.size + 1)) := by show _; rw [World.size_alloc] at hloc6; rw [hvw']; exact hloc6
        clear hgr6 hrow5 hdur5 hwait5 hm5 hB5 hloc6 hR5 hc5
        refine wpAnyH_take (i := 10) (oi := ⟨_, _, _, _, _, _⟩) (v := ?_) rfl (by kernel_rfl) (by kernel_rfl) (by kernel_rfl) (fun _ _ _ h => h) (Or.inl ⟨by rfl, ?_⟩) (by assumption) ?_
        rotate_left
        · intro W hSW; (try dsimp only at hSW); go_simp; try with_reducible rfl
        try simp only [Act.put, List.setIfInBounds_toArray, List.set_cons_zero, List.set_cons_succ]
        refine wpAnyH_take (i := 11) (oi := ⟨_, _, _, _, _, _⟩) (v := ?_) rfl (by kernel_rfl) (by kernel_rfl) (by kernel_rfl) (fun _ _ _ h => h) (Or.inl ⟨by rfl, ?_⟩) (by assumption) ?_
        rotate_left
        · intro W hSW; (try dsimp only at hSW); go_simp; try with_reducible rfl
        try simp only [Act.put, List.setIfInBounds_toArray, List.set_cons_zero, List.set_cons_succ]
        refine wpAnyH_ready (rs := [12]) (by kernel_rfl) (by simp) ?_
        refine AllReadyH.cons (o := ⟨_, _, _, _, _, _⟩) rfl (fun K hK => ?_) AllReadyH.nil
        go_simp
        refine hK.out _ _ ?_ (fun hHeld => ?_)
        · intro j v hj
          rw [World.cell?_setCell_other _ _ _ _ (by intro e; injection e with e _; omega)]
          exact hR6 j v hj
        clear hK K
        try simp only [Act.put, List.setIfInBounds_toArray, List.set_cons_zero, List.set_cons_succ]
        refine wpAnyH_done (by kernel_rfl) ?_ _
        go_wp2_with fail
        go_ret
        rw [Hv.out]
        have ed : d.stepped.down = d.stepped.down := rfl
        refine ⟨rfl, _, ⟨vd, .slice A' (n + 1) cap', bm, ⟨?_, ?_, ?_, ?_, HD.out.hg, HD.out.hm⟩, rfl⟩, hB6.setCell (.inl (by simp [mem_foot])) _, ?_⟩
        · exact hrow6.setCell 1 (Value.slice A' (n + 1) cap')
        · exact hdur6.kept (gset (World.grownBy.refl w6 (some g)) (Value.slice A' (n + 1) cap')) (.inr HD.out.dg)
        · show World.ownsRow _ _ _ _ _ (d.wait ++ [(i, s)]).length (chgs (d.wait ++ [(i, s)]))
          rw [List.length_append, hnl, chgs_snoc]
          refine hown6.kept (gset (World.grownBy.refl w6 (some g)) (Value.slice A' (n + 1) cap')) (.inr ?_)
          intro e
          exact own_row_apart hown6 hrow6 (by decide) e
        · show World.ownsMap _ _ _ _ _ (d.wait ++ [(i, s)]).length (lastD (d.wait ++ [(i, s)]))
          rw [List.length_append, hnl, lastD_snoc, hnl]
          exact hm6.setCell (Ne.symm hne) (Value.slice A' (n + 1) cap')
        · intro k hk
          rcases mem_foot.1 hk with rfl | rfl | hk | hk
          · left; simp [mem_foot]
          · left; simp [mem_foot]
          · left; simp [mem_foot, hk]
          · rcases HL.out with e | e
            · left; rw [e] at hk; simp [mem_foot, hk]
            · right; rw [e] at hk; injection hk with hk; omega
    · have Hv : Hid (d.write (i : Int) s = (d.stepped, 4)) := by show _ = _; simp [Dk.write, hh, hdd]
      go_enter Try.func14, Try.ntmps14
      go_wp2_with ((with_reducible refine at_box 24 ?_); refine wpList_box_rowV rfl 24 _ rfl s.cs rfl ?_; intro w1 hr1 hb1 hs1)
      have HD1 := Lib.hid (HD.out.below hb1)
      refine (dhas_any w1 base g bm vd vw d (i : Int) HD1.out).mono ?_
      rintro e w2 ⟨rfl, rfl⟩
      rw [hh]
      go_wp2_with fail
      refine (dstep_any w2 base g bm vd vw d Hk.out HD1.out).mono ?_
      rintro e w3 ⟨rfl, hD3, hg3⟩
      rw [hdd]
      go_wp2_with fail
      go_ret
      rw [Hv.out]
      exact ⟨rfl, _, ⟨vd, vw, bm, hD3, rfl⟩, (But.of _ hb1).grown hg3 (by intro k e; injection e with e; left; simp [mem_foot, e]) (by omega), fun k hk => .inl hk⟩
end Go.Proofs.Ytoiphbdmmiikaaa
namespace Go.Proofs.Ytoiphbdmmiikaaa
open Go.RowKit Go.Maps
set_option linter.unusedVariables false

theorem chg_size (c : Chg) : (Try.prog.info? 75).map (·.size) = some c.cs.length := by rw [Chg.cs_length]; exact Try.sizeC
theorem chg_size' (c : Chg) : (Try.prog.info? 75).map (·.size) = some c.cs.toArray.size := by rw [List.size_toArray]; exact chg_size c
theorem chg_all (c : Chg) : c.cs.toArray.all (·.oneCell') = true := all_oneCell_toArray c.one
def noChg : Chg := (0, zeroSec)
theorem Try.zeroCC : (Try.prog.info? 75).bind (·.zero) = some (.agg noChg.cs.toArray) := Try.zeroC
theorem chg_same (s t : Chg) : s.cs.toArray.size = t.cs.toArray.size := by rw [List.size_toArray, List.size_toArray, Chg.cs_length, Chg.cs_length]

theorem take_succ' {α : Type} {l : List α} {k : Nat} {c : α} (h : l[k]? = some c) : l.take (k + 1) = l.take k ++ [c] := by
  rw [List.take_add_one, h]
  rfl
/-- A sector of the durable row is written. -/
theorem DiskAt.put_sec {w : World} {base g bm n cap gd : Nat} {vw : Value} {d : Dk} (h : DiskAt w base g (.slice (some ⟨gd, 0, none⟩) n cap) vw bm d) (hn : d.dur.length = n) {i : Nat} (hi : i < n) (s : Sec) :
    w.there gd (i * 256) s.cs.toArray.size ∧ DiskAt (w.setCells gd (i * 256) s.cs) base g (.slice (some ⟨gd, 0, none⟩) n cap) vw bm { d with dur := d.dur.set i s } ∧ w.grownBy (w.setCells gd (i * 256) s.cs) (some gd) := by
  have hd := h.dur
  rw [hn] at hd
  have hle : i * 256 + 256 ≤ n * 256 := by have := Nat.mul_le_mul_right 256 (show i + 1 ≤ n from hi); omega
  obtain ⟨h1, h2⟩ := own_put s.cs (i * 256) w _ hd (by rw [Sec.cs_length]; exact hle)
  rw [secs_put (by omega)] at h1
  refine ⟨own_there hd _ _ (by rw [List.size_toArray, Sec.cs_length]; exact hle), ⟨h.row.keep h2 (fun e => h.dg e), ?_, h.wait.kept h2 (.inr (h.dw rfl)), h.map.kept h2 (fun e => h.dm e.symm), h.hg, h.hm⟩, h2⟩
  show World.ownsRow _ _ _ _ _ (d.dur.set i s).length _
  rw [List.length_set, hn]
  exact h1

set_option maxRecDepth 100000 in
set_option maxHeartbeats 4000000 in
theorem dflush_any (w : World) (base g : Nat) (L : List Nat) (d : Dk) (hk : d.Ok) (h : Disk w base L g d) :
    Calls Try.prog 15 #[.pointer (some ⟨g, 0, none⟩)] w fun e w' => e = .returned (.int .i64 d.flush.2) ∧ Turned w base L g d.flush.1 w' := by
  obtain ⟨vd, vw, bm, h, rfl⟩ := h
  have Hk := Lib.hid hk
  have HD := Lib.hid h
  clear h hk
  cases hdd : d.dead
  · have Hv : Hid (d.flush = ({ d.stepped with dur := Dk.settle d.dur d.wait, wait := [] }, 0)) := by show _ = _; simp [Dk.flush, hdd]
    go_enter Try.func15, Try.ntmps15
    go_wp2_with fail
    refine (dstep_any w base g bm vd vw d Hk.out HD.out).mono ?_
    rintro e w1 ⟨rfl, hD1, hg1⟩
    rw [hdd]
    have ed : d.stepped.dur = d.dur := by unfold Dk.stepped; split <;> rfl
    have ew : d.stepped.wait = d.wait := by unfold Dk.stepped; split <;> rfl
    have HB1 : Hid (But (foot g bm vd vw) w.heap.size w w1) := (But.refl _ _ w).grown hg1 (by intro k e; injection e with e; left; simp [mem_foot, e]) (Nat.le_refl _)
    obtain ⟨gd, cd, hvd, _, _, _, _⟩ := own_form HD.out.dur Hk.out.pos
    obtain ⟨A, cw, hvw, hcw, hcm⟩ := own_slice HD.out.wait
    have hat : ∀ c ∈ d.wait, c.1 < d.dur.length := Hk.out.at_
    have Hat := Lib.hid hat
    have hpn : d.wait.length ≤ 1000000 := Hk.out.wait
    generalize hst : d.stepped = st at *
    rw [← ed, ← ew] at Hv Hat
    have hdl : st.dur.length = d.dur.length := by rw [ed]
    have hwl : st.wait.length = d.wait.length := by rw [ew]
    have HN : Hid (st.dur.length = d.dur.length ∧ st.wait.length = d.wait.length) := ⟨hdl, hwl⟩
    have Hcap : Hid (d.wait.length ≤ cw) := hcw
    clear hdl hwl hat hdd hcw hcm hst ed ew hg1
    generalize d.dur.length = N at *
    generalize d.wait.length = n at *
    subst hvd hvw
    have c1 := hD1.c1
    have HD1 := Lib.hid hD1
    clear hD1
    go_wp2_with fail
    go_loopw [16] (fun v W => ∃ k : Nat, k ≤ n ∧ v = .int .i64 k ∧ Hid (DiskAt W base g (.slice (some ⟨gd, 0, none⟩) N cd) (.slice A n cw) bm { st with dur := Dk.settle st.dur (st.wait.take k) }) ∧ Hid (But (foot g bm (.slice (some ⟨gd, 0, none⟩) N cd) (.slice A n cw)) w.heap.size w W)) (fun v _ => n - (intOf v).toNat)
    case atStart => exact ⟨0, Nat.zero_le _, rfl, HD1, HB1⟩
    case round =>
      obtain ⟨k, hkn, rfl, HDk, HBk⟩ := hrel
      clear c1 HD1 HB1
      by_cases hlt : k < n
      · have hget : ∃ c, st.wait[k]? = some c := ⟨_, List.getElem?_eq_getElem (by rw [HN.out.2]; exact hlt)⟩
        obtain ⟨c, hc⟩ := hget
        have hwk := HDk.out.wait
        obtain ⟨gw, cw', hvw, _, _, _, hgw⟩ := own_form hwk (by show 0 < st.wait.length; rw [HN.out.2]; omega)
        injection hvw with h1 h2 h3
        subst h1 h3
        have hwk' : wr.ownsRow base 75 257 (.slice (some ⟨gw, 0, none⟩) n cw) n (chgs st.wait) := by have := hwk; rw [show ({ st with dur := Dk.settle st.dur (st.wait.take k) } : Dk).wait.length = n from HN.out.2] at this; exact this
        have hr := chg_range hwk' hc
        have hlt' : (k : Int) < (n : Int) := by omega
        have hk0 : (0 : Int) ≤ (k : Int) := by omega
        have Hs := Lib.hid (chg_size c)
        clear hwk hwk' hkn h2
        go_wp2_with (first
          | ((with_reducible refine at_load 75 ?_); refine wpList_load_mid rfl 75 _ rfl gw (k * 257) rfl c.cs _ hr Try.underlying75 rfl Hs.out ?_)
          | ((with_reducible refine at_alloc 75 ?_); refine wpList_alloc_rowV rfl 75 rfl noChg.cs Try.zeroCC ?_; intro wA hrA hbA hsA)
          | ((with_reducible refine at_store 75 ?_); refine wpList_store_row rfl 75 _ _ rfl wr.heap.size c.cs.toArray rfl rfl 75 noChg.cs.toArray hrA (chg_size' _) (chg_same _ _) (chg_all _) ?_))
        have hbB := below_put hbA (Nat.le_refl _) c.cs.toArray
        have hrB := hrA.put c.cs
        generalize wA.setRow wr.heap.size c.cs.toArray = wB at *
        have HDB := Lib.hid (HDk.out.below hbB)
        have hc0 := HDB.out.c0
        have hcA : wB.cell? ⟨wr.heap.size, 0, none⟩ = some (.int .i64 (c.1 : Int)) := hrB.cell rfl
        have hcR : wB.drew.rangeAt wr.heap.size 1 c.2.cs := fun j v hj => hrB.drew.cell (by rw [Nat.add_comm]; exact hj)
        have hci : c.1 < N := by have := Hat.out c (List.mem_of_getElem? hc); rw [HN.out.1] at this; exact this
        have hci' : (c.1 : Int) < (N : Int) := by omega
        have hci0 : (0 : Int) ≤ (c.1 : Int) := by omega
        have Hsec := Lib.hid (sec_size c.2)
        obtain ⟨hth', hDC, hgC⟩ := HDB.out.drew.put_sec (by show (Dk.settle st.dur (st.wait.take k)).length = N; rw [settle_length]; exact HN.out.1) hci c.2
        have hBB : But (foot g bm (.slice (some ⟨gd, 0, none⟩) N cd) (.slice (some ⟨gw, 0, none⟩) n cw)) w.heap.size w wB := HBk.out.trans ((But.of _ hbB).less HBk.out.size)
        have hszB : w.heap.size ≤ wB.heap.size := hBB.size
        have HBC : Hid (But (foot g bm (.slice (some ⟨gd, 0, none⟩) N cd) (.slice (some ⟨gw, 0, none⟩) n cw)) w.heap.size w (wB.drew.setCells gd (c.1 * 256) c.2.cs)) := hBB.drew.grown hgC (by intro k e; injection e with e; left; simp [mem_foot, Value.ownBlock, e]) hszB
        have HDC := Lib.hid hDC
        clear hDC hgC hBB hr hbA hbB hrA hrB HDB
        go_wp2_with fail
        refine wp_region_still_tail 9 (by kernel_rfl) (by kernel_rfl) ?_
        simp only [List.take_succ_cons, List.take_zero, List.drop_succ_cons, List.drop_zero]
        iterate 7 still_step
        refine wpStill_exec (.agg c.2.cs.toArray) rfl ?_ ?_
        · refine exec_load_mid 24 (.tmp 26) ?_ wr.heap.size 1 ?_ c.2.cs _ hcR Try.underlying24 rfl Hsec.out <;> rfl
        try simp only [Act.put, List.setIfInBounds_toArray, List.set_cons_zero, List.set_cons_succ]
        still_step
        refine wpStill_nil ?_
        change wpList _ _ _ _ _ wB.drew
        go_wp2_with ((with_reducible refine at_store 24 ?_); refine wpList_store_mid rfl 24 _ _ rfl gd (c.1 * 256) c.2.cs.toArray rfl rfl hth' (sec_size' _) (sec_all _) ?_)
        go_roundw
        case rel =>
          refine ⟨k + 1, by omega, rfl, Lib.hid ?_, HBC⟩
          rw [take_succ' hc, settle_snoc]
          exact HDC.out
        case measure => show n - (k + 1) < n - k; omega
      · obtain rfl : k = n := by omega
        go_wp2_with fail
        refine (dforget_any wr base g bm _ _ _ HDk.out).mono ?_
        rintro e w2 ⟨rfl, hD2, hB2⟩
        go_wp2_with fail
        go_ret
        rw [Hv.out]
        have et : st.wait.take k = st.wait := List.take_of_length_le (by rw [HN.out.2]; exact Nat.le_refl _)
        rw [et] at hD2
        refine ⟨rfl, _, ⟨_, _, bm, hD2, rfl⟩, HBk.out.trans (hB2.mono HBk.out.size ?_), ?_⟩
        · intro j _ hj
          rcases List.mem_cons.1 hj with rfl | hj
          · simp [mem_foot]
          · simp at hj; simp [mem_foot, hj]
        · intro j hj
          left
          rcases mem_foot.1 hj with rfl | rfl | hj | hj
          · simp [mem_foot]
          · simp [mem_foot]
          · simp [mem_foot, hj]
          · simp [Value.ownBlock] at hj
  · have Hv : Hid (d.flush = (d.stepped, 4)) := by show _ = _; simp [Dk.flush, hdd]
    go_enter Try.func15, Try.ntmps15
    go_wp2_with fail
    refine (dstep_any w base g bm vd vw d Hk.out HD.out).mono ?_
    rintro e w1 ⟨rfl, hD1, hg1⟩
    rw [hdd]
    go_wp2_with fail
    go_ret
    rw [Hv.out]
    exact ⟨rfl, _, ⟨vd, vw, bm, hD1, rfl⟩, (But.refl _ _ w).grown hg1 (by intro k e; injection e with e; left; simp [mem_foot, e]) (Nat.le_refl _), fun k hk => .inl hk⟩
end Go.Proofs.Ytoiphbdmmiikaaa
namespace Go.Proofs.Ytoiphbdmmiikaaa
open Go.RowKit Go.Maps
set_option linter.unusedVariables false

/-- A slice of bools that lies apart from the blocks of L. -/
def Bools (w : World) (L : List Nat) (v : Value) (keep : List Bool) : Prop := ∃ A c, v = .slice A keep.length c ∧ keep.length ≤ c ∧ keep.length ≤ 1000000 ∧ LiesV w w.heap.size A (keep.map Value.bool) ∧ (keep ≠ [] → ∀ a, A = some a → a.block ∉ L)
theorem kept_step {keep : List Bool} {ws : List Chg} {k : Nat} {b : Bool} {c : Chg} (hb : keep[k]? = some b) (hc : ws[k]? = some c) : Dk.kept (keep.take (k + 1)) ws = Dk.kept (keep.take k) ws ++ (if b then [c] else []) := by
  induction ws generalizing keep k with
  | nil => simp at hc
  | cons w ws ih =>
    cases keep with
    | nil => simp at hb
    | cons x keep =>
      cases k with
      | zero =>
        simp at hb hc
        subst hb hc
        cases x <;> simp [Dk.kept]
      | succ k =>
        have := ih (keep := keep) (k := k) (by simpa using hb) (by simpa using hc)
        unfold Dk.kept at this ⊢
        simp only [List.take_succ_cons, List.zip_cons_cons, List.filterMap_cons, this]
        cases x <;> simp
theorem kept_all (keep : List Bool) (ws : List Chg) (h : Nat) (hh : min keep.length ws.length ≤ h) : Dk.kept (keep.take h) ws = Dk.kept keep ws := by
  induction ws generalizing keep h with
  | nil => simp [Dk.kept]
  | cons w ws ih =>
    cases keep with
    | nil => simp [Dk.kept]
    | cons x keep =>
      cases h with
      | zero => simp at hh
      | succ h =>
        have := ih keep h (by simp at hh; omega)
        unfold Dk.kept at this ⊢
        simp only [List.take_succ_cons, List.zip_cons_cons, List.filterMap_cons, this]
theorem kept_zero (keep : List Bool) (ws : List Chg) : Dk.kept (keep.take 0) ws = [] := by simp [Dk.kept]
theorem kept_length (keep : List Bool) (ws : List Chg) : (Dk.kept keep ws).length ≤ keep.length := by
  unfold Dk.kept
  refine Nat.le_trans (List.length_filterMap_le _ _) ?_
  rw [List.length_zip]
  omega

set_option maxRecDepth 100000 in
set_option maxHeartbeats 4000000 in
theorem dcrash_any (w : World) (base g : Nat) (L : List Nat) (d : Dk) (keep : List Bool) (v : Value) (hk : d.Ok) (h : Disk w base L g d) (hv : Bools w L v keep) :
    Calls Try.prog 18 #[.pointer (some ⟨g, 0, none⟩), v] w fun e w' => e = .returned (.int .i64 (d.crash keep).2) ∧ Turned w base L g (d.crash keep).1 w' := by
  obtain ⟨vd, vw, bm, h, rfl⟩ := h
  obtain ⟨B, cb, rfl, hcb, hkl, hlie, hap⟩ := hv
  have Hk := Lib.hid hk
  have HD := Lib.hid h
  obtain ⟨gd, cd, hvd, _, _, _, _⟩ := own_form HD.out.dur Hk.out.pos
  obtain ⟨A, cw, hvw, hcw, hcm⟩ := own_slice HD.out.wait
  have c1 := h.c1
  rw [hvw] at c1
  have hpn : d.wait.length ≤ 1000000 := Hk.out.wait
  have Hlie := Lib.hid hlie
  have Hap := Lib.hid hap
  clear h hk hlie hap
  generalize hn : d.wait.length = n at *
  generalize hm : keep.length = m at *
  generalize hN : d.dur.length = N at *
  have Hn := Lib.hid hn
  have Hm := Lib.hid hm
  have HNN := Lib.hid hN
  clear hn hm hN
  obtain ⟨h, hh⟩ : ∃ h, min m n = h := ⟨_, rfl⟩
  have e1 : (if n < m then (n : Int) else (m : Int)) = (h : Int) := by split <;> omega
  have hhn : h ≤ n := by omega
  have hhm : h ≤ m := by omega
  have hhc : (h : Int) ≤ (cw : Int) := by omega
  go_enter Try.func18, Try.ntmps18
  go_wp2_with fail
  refine wp_region_still_lit (by kernel_rfl) (by kernel_rfl) ?_
  iterate 15 still_step
  refine wpStill_nil ?_
  subst hvd hvw
  have hD0 : DiskAt w.drew base g (.slice (some ⟨gd, 0, none⟩) N cd) (.slice A n cw) bm { d with dur := Dk.settle d.dur (Dk.kept (keep.take 0) d.wait) } := by rw [kept_zero]; exact HD.out.drew
  have hB0 : But (foot g bm (.slice (some ⟨gd, 0, none⟩) N cd) (.slice A n cw)) w.heap.size w w.drew := (But.refl _ _ w).drew
  change Exit.then _ _ _ _ w.drew
  generalize w.drew = w1 at *
  have HD0 := Lib.hid hD0
  have HB0 := Lib.hid hB0
  clear hD0 hB0 c1
  go_wp2_with fail
  go_loopw [5, 22] (fun x v W => ∃ k : Nat, k ≤ h ∧ v = .int .i64 k ∧ x = .int .i64 ((Dk.kept (keep.take k) d.wait).length : Int) ∧ Hid (DiskAt W base g (.slice (some ⟨gd, 0, none⟩) N cd) (.slice A n cw) bm { d with dur := Dk.settle d.dur (Dk.kept (keep.take k) d.wait) }) ∧ Hid (But (foot g bm (.slice (some ⟨gd, 0, none⟩) N cd) (.slice A n cw)) w.heap.size w W)) (fun _ v _ => h - (intOf v).toNat)
  case atStart => exact ⟨0, Nat.zero_le _, rfl, by rw [kept_zero]; rfl, HD0, HB0⟩
  case round =>
    obtain ⟨k, hkn, rfl, rfl, HDk, HBk⟩ := hrel
    clear HD0 HB0
    have hcnt : (Dk.kept (keep.take k) d.wait).length ≤ 1000000 := by
      have h1 := kept_length (keep.take k) d.wait
      rw [List.length_take] at h1
      omega
    generalize hq : (Dk.kept (keep.take k) d.wait).length = q at *
    by_cases hlt : k < h
    · obtain ⟨c, hc⟩ : ∃ c, d.wait[k]? = some c := ⟨_, List.getElem?_eq_getElem (by rw [Hn.out]; omega)⟩
      obtain ⟨b, hb⟩ : ∃ b, keep[k]? = some b := ⟨_, List.getElem?_eq_getElem (by rw [Hm.out]; omega)⟩
      have hwk := HDk.out.wait
      obtain ⟨gw, cw', hvw, _, _, _, hgw⟩ := own_form hwk (by show 0 < d.wait.length; rw [Hn.out]; omega)
      injection hvw with h1 h2 h3
      subst h1 h3
      have hwk' : wr.ownsRow base 75 257 (.slice (some ⟨gw, 0, none⟩) n cw) n (chgs d.wait) := by have := hwk; rw [show ({ d with dur := Dk.settle d.dur (Dk.kept (keep.take k) d.wait) } : Dk).wait.length = n from Hn.out] at this; exact this
      have hr := chg_range hwk' hc
      have hlt' : (k : Int) < (h : Int) := by omega
      have hltm : (k : Int) < (m : Int) := by omega
      have hk0 : (0 : Int) ≤ (k : Int) := by omega
      have Hs := Lib.hid (chg_size c)
      obtain ⟨bk, ok, hB, hbk, hcell⟩ := Hlie.out.at_ (i := k) (v := .bool b) (by rw [List.getElem?_map, hb]; rfl)
      have hnot := Hap.out (by rintro rfl; simp at hb) _ hB
      subst hB
      have Hnot := Lib.hid hnot
      have Hcell : Hid (wr.cell? ⟨bk, ok + k, none⟩ = some (.bool b)) := (World.cell?_of_block (HBk.out.block bk hbk hnot)).trans hcell
      have hbkr : bk < wr.heap.size := Nat.lt_of_lt_of_le hbk HBk.out.size
      clear hwk hwk' hkn h2 hcell hnot
      go_wp2_with (first
        | ((with_reducible refine at_load 75 ?_); refine wpList_load_mid rfl 75 _ rfl gw (k * 257) rfl c.cs _ hr Try.underlying75 rfl Hs.out ?_)
        | ((with_reducible refine at_alloc 75 ?_); refine wpList_alloc_rowV rfl 75 rfl noChg.cs Try.zeroCC ?_; intro wA hrA hbA hsA)
        | ((with_reducible refine at_store 75 ?_); refine wpList_store_row rfl 75 _ _ rfl wr.heap.size c.cs.toArray rfl rfl 75 noChg.cs.toArray hrA (chg_size' _) (chg_same _ _) (chg_all _) ?_; have hbB := below_put hbA (Nat.le_refl _) c.cs.toArray; have hrB := hrA.put c.cs; generalize wA.setRow wr.heap.size c.cs.toArray = wB at *; have hkc : wB.cell? ⟨bk, ok + k, none⟩ = some (.bool b) := (hbB.cell hbkr).trans Hcell.out))
      · have hbt : b = true := by assumption
        subst hbt
        have HDB := Lib.hid (HDk.out.below hbB)
        have hc0 := HDB.out.c0
        have hcA : wB.cell? ⟨wr.heap.size, 0, none⟩ = some (.int .i64 (c.1 : Int)) := hrB.cell rfl
        have hcR : wB.drew.rangeAt wr.heap.size 1 c.2.cs := fun j v hj => hrB.drew.cell (by rw [Nat.add_comm]; exact hj)
        have hci : c.1 < N := by have := Hk.out.at_ c (List.mem_of_getElem? hc); rw [HNN.out] at this; exact this
        have hci' : (c.1 : Int) < (N : Int) := by omega
        have hci0 : (0 : Int) ≤ (c.1 : Int) := by omega
        have Hsec := Lib.hid (sec_size c.2)
        obtain ⟨hth', hDC, hgC⟩ := HDB.out.drew.put_sec (by show (Dk.settle d.dur (Dk.kept (keep.take k) d.wait)).length = N; rw [settle_length]; exact HNN.out) hci c.2
        have hBB : But (foot g bm (.slice (some ⟨gd, 0, none⟩) N cd) (.slice (some ⟨gw, 0, none⟩) n cw)) w.heap.size w wB := HBk.out.trans ((But.of _ hbB).less HBk.out.size)
        have hszB : w.heap.size ≤ wB.heap.size := hBB.size
        have HBC : Hid (But (foot g bm (.slice (some ⟨gd, 0, none⟩) N cd) (.slice (some ⟨gw, 0, none⟩) n cw)) w.heap.size w (wB.drew.setCells gd (c.1 * 256) c.2.cs)) := hBB.drew.grown hgC (by intro k e; injection e with e; left; simp [mem_foot, Value.ownBlock, e]) hszB
        have HDC := Lib.hid hDC
        clear hDC hgC hBB hr hbA hbB hrA hrB HDB
        refine wp_region_still_tail 9 (by kernel_rfl) (by kernel_rfl) ?_
        simp only [List.take_succ_cons, List.take_zero, List.drop_succ_cons, List.drop_zero]
        iterate 7 still_step
        refine wpStill_exec (.agg c.2.cs.toArray) rfl ?_ ?_
        · refine exec_load_mid 24 (.tmp 37) ?_ wr.heap.size 1 ?_ c.2.cs _ hcR Try.underlying24 rfl Hsec.out <;> rfl
        try simp only [Act.put, List.setIfInBounds_toArray, List.set_cons_zero, List.set_cons_succ]
        still_step
        refine wpStill_nil ?_
        change wpList _ _ _ _ _ wB.drew
        go_wp2_with ((with_reducible refine at_store 24 ?_); refine wpList_store_mid rfl 24 _ _ rfl gd (c.1 * 256) c.2.cs.toArray rfl rfl hth' (sec_size' _) (sec_all _) ?_)
        go_roundw
        case rel =>
          refine ⟨k + 1, by omega, rfl, ?_, Lib.hid ?_, HBC⟩
          · rw [kept_step hb hc, List.length_append, hq]; rfl
          · rw [kept_step hb hc, if_pos rfl, settle_snoc]
            exact HDC.out
        case measure => show h - (k + 1) < h - k; omega
      · have hbt : b = false := by assumption
        subst hbt
        go_roundw
        case rel =>
          refine ⟨k + 1, by omega, rfl, ?_, Lib.hid ?_, Lib.hid (HBk.out.trans ((But.of _ hbB).less HBk.out.size))⟩
          · rw [kept_step hb hc, List.length_append, hq]; rfl
          · rw [kept_step hb hc, if_neg (by decide), List.append_nil]
            exact HDk.out.below hbB
        case measure => show h - (k + 1) < h - k; omega
    · obtain rfl : k = h := by omega
      have Hall : Hid (Dk.kept (keep.take k) d.wait = Dk.kept keep d.wait) := by show _ = _; exact kept_all _ _ _ (by rw [Hm.out, Hn.out]; omega)
      have Hq := Lib.hid hq
      clear hq
      go_wp2_with fail
      refine (dforget_any wr base g bm _ _ _ HDk.out).mono ?_
      rintro e w2 ⟨rfl, hD2, hB2⟩
      have h6 := hD2.c6
      have f6 := hD2.row.free 6
      have hD3 := hD2.cells_put (d' := { d with dur := Dk.settle d.dur (Dk.kept (keep.take k) d.wait), wait := [], down := false }) (gset (i := 6) (World.grownBy.refl w2 (some g)) (.bool false)) (hD2.row.setCell 6 _) rfl rfl
      have hB3 := hB2.setCell (p := ⟨g, 6, none⟩) (.inl (by simp)) (.bool false)
      have HD3 := Lib.hid hD3
      have HB3 := Lib.hid hB3
      clear hD2 hD3 hB2 hB3
      go_wp2_with fail
      refine (dfuse_any _ base g bm _ _ _ (-1) HD3.out).mono ?_
      rintro e w4 ⟨rfl, hD4, hg4⟩
      go_wp2_with fail
      go_ret
      have hB4 : But [g, bm] wr.heap.size wr w4 := HB3.out.grown hg4 (by intro k e; injection e with e; left; simp [e]) HB3.out.size
      rw [Hall.out] at hD4 Hq
      refine ⟨by rw [Dk.crash, Hq.out]; rfl, _, ⟨_, _, bm, hD4, rfl⟩, HBk.out.trans (hB4.mono HBk.out.size ?_), ?_⟩
      · intro j _ hj
        rcases List.mem_cons.1 hj with rfl | hj
        · simp [mem_foot]
        · simp at hj; simp [mem_foot, hj]
      · intro j hj
        left
        rcases mem_foot.1 hj with rfl | rfl | hj | hj
        · simp [mem_foot]
        · simp [mem_foot]
        · simp [mem_foot, hj]
        · simp [Value.ownBlock] at hj
end Go.Proofs.Ytoiphbdmmiikaaa
namespace Go.Proofs.Ytoiphbdmmiikaaa
open Go.RowKit Go.Maps
set_option linter.unusedVariables false

theorem new_ok {n : Nat} (h1 : 1 ≤ n) (h2 : n ≤ 4096) : (Dk.new n).Ok := by
  refine ⟨(by intro c hc; cases hc), ?_, ?_, by simp [Dk.new], by simp [Dk.new], (by intro m hm; simp [Dk.new] at hm)⟩
  · show 0 < (List.replicate n zeroSec).length
    rw [List.length_replicate]; omega
  · show (List.replicate n zeroSec).length ≤ 4096
    rw [List.length_replicate]; exact h2
theorem stepped_steps (d : Dk) : d.stepped.steps ≤ d.steps + 1 := by unfold Dk.stepped; split <;> simp
theorem write_ok {d : Dk} {x : Int} {s : Sec} {k : Nat} (h : d.Ok) (hs : d.steps ≤ k) (hw : d.wait.length ≤ k) (hk : k < 1000000) : (d.write x s).1.Ok ∧ (d.write x s).1.steps ≤ k + 1 ∧ (d.write x s).1.wait.length ≤ k + 1 ∧ (d.write x s).1.dur.length = d.dur.length := by
  have ho := h.stepped (by omega)
  have h1 := stepped_steps d
  unfold Dk.write
  split
  · rename_i hh
    split
    · exact ⟨ho, by show d.stepped.steps ≤ _; omega, by show d.stepped.wait.length ≤ _; rw [stepped_wait]; omega, by show d.stepped.dur.length = _; rw [stepped_dur]⟩
    · have hx : 0 ≤ x ∧ x < d.dur.length := by simpa [Dk.has] using hh
      refine ⟨⟨?_, ho.pos, ho.dur, ?_, ho.steps, ho.fuse⟩, by show d.stepped.steps ≤ _; omega, ?_, by show d.stepped.dur.length = _; rw [stepped_dur]⟩
      · intro c hc
        show c.1 < d.stepped.dur.length
        rw [stepped_dur]
        rcases List.mem_append.1 hc with hc | hc
        · exact h.at_ c hc
        · simp at hc
          subst hc
          show x.toNat < _
          omega
      · show (d.wait ++ [(x.toNat, s)]).length ≤ _
        rw [List.length_append]; simp; omega
      · show (d.wait ++ [(x.toNat, s)]).length ≤ _
        rw [List.length_append]; simp; omega
  · exact ⟨h, by show d.steps ≤ _; omega, by show d.wait.length ≤ _; omega, rfl⟩
theorem flush_ok {d : Dk} {k : Nat} (h : d.Ok) (hs : d.steps ≤ k) (hw : d.wait.length ≤ k) (hk : k < 1000000) : d.flush.1.Ok ∧ d.flush.1.steps ≤ k + 1 ∧ d.flush.1.wait.length ≤ k + 1 ∧ d.flush.1.dur.length = d.dur.length := by
  have ho := h.stepped (by omega)
  have h1 := stepped_steps d
  unfold Dk.flush
  split
  · exact ⟨ho, by show d.stepped.steps ≤ _; omega, by show d.stepped.wait.length ≤ _; rw [stepped_wait]; omega, by show d.stepped.dur.length = _; rw [stepped_dur]⟩
  · refine ⟨⟨(by intro c hc; cases hc), ?_, ?_, by simp, ho.steps, ho.fuse⟩, by show d.stepped.steps ≤ _; omega, by simp, ?_⟩
    · show 0 < (Dk.settle d.dur d.wait).length
      rw [settle_length]; exact h.pos
    · show (Dk.settle d.dur d.wait).length ≤ _
      rw [settle_length]; exact h.dur
    · show (Dk.settle d.dur d.wait).length = _
      rw [settle_length]
theorem crash_ok {d : Dk} {keep : List Bool} (h : d.Ok) : (d.crash keep).1.Ok ∧ (d.crash keep).1.steps = d.steps ∧ (d.crash keep).1.wait.length = 0 ∧ (d.crash keep).1.dur.length = d.dur.length := by
  refine ⟨⟨(by intro c hc; cases hc), ?_, ?_, by simp [Dk.crash], h.steps, (by intro m hm; simp [Dk.crash] at hm)⟩, rfl, rfl, ?_⟩
  · show 0 < (Dk.settle d.dur _).length
    rw [settle_length]; exact h.pos
  · show (Dk.settle d.dur _).length ≤ _
    rw [settle_length]; exact h.dur
  · show (Dk.settle d.dur _).length = _
    rw [settle_length]
theorem setFuse_ok {d : Dk} {x : Int} (h : d.Ok) (hx : x ≤ 9223372036854775807) : (d.setFuse x).Ok := by
  refine ⟨h.at_, h.pos, h.dur, h.wait, h.steps, fun n hn => ?_⟩
  simp only [Dk.setFuse] at hn
  split at hn
  · cases hn
  · injection hn with hn
    omega
end Go.Proofs.Ytoiphbdmmiikaaa
