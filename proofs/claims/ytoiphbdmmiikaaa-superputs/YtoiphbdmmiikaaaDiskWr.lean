/-
  Layer 6: the contract of Write.
-/
import Derived.Test.YtoiphbdmmiikaaaDiskRd
import Derived.Test.YtoiphbdmmiikaaaArrEq
import Derived.Deep.RegionHeld3
namespace Go.Proofs.Ytoiphbdmmiikaaa
open Go.RowKit Go.Maps
set_option linter.unusedVariables false

theorem Try.zeroC : (Try.prog.info? 75).bind (·.zero) = some (.agg (Value.int .i64 0 :: zeroSec.cs).toArray) := by kernel_rfl
theorem built72 (x : Int) (s : Sec) : Try.prog.built 75 [(0, .int .i64 x), (1, .agg s.cs.toArray)] = some (Value.int .i64 x :: s.cs).toArray := built_chg Try.zeroC Try.underlying75 (by kernel_rfl) x s
theorem Dk.Ok.stepped {d : Dk} (h : d.Ok) (hs : d.steps < 1000000) : d.stepped.Ok := by
  unfold Dk.stepped
  split
  · exact ⟨h.at_, h.pos, h.dur, h.wait, h.steps, h.fuse⟩
  · refine ⟨h.at_, h.pos, h.dur, h.wait, hs, fun n hn => ?_⟩
    obtain ⟨m, hm, rfl⟩ := Option.map_eq_some_iff.1 hn
    have := h.fuse m hm
    omega

set_option maxRecDepth 100000 in
set_option maxHeartbeats 4000000 in
theorem dwrite_any (w : World) (base g : Nat) (L : List Nat) (d : Dk) (x : Int) (s : Sec) (hk : d.Ok) (hw : d.wait.length < 1000000) (h : Disk w base L g d) (hB : base ≤ w.heap.size) :
    Calls Try.prog 14 #[.pointer (some ⟨g, 0, none⟩), .int .i64 x, s.val] w fun e w' => e = .returned (.int .i64 (d.write x s).2) ∧ Turned w base L g (d.write x s).1 w' := by
  obtain ⟨vd, vw, bm, h, rfl⟩ := h
  have Hk := Lib.hid hk
  have HD := Lib.hid h
  clear h hk
  cases hh : d.has x
  · have Hv : Hid (d.write x s = (d, 2)) := by show _ = _; simp [Dk.write, hh]
    go_enter Try.func14, Try.ntmps14
    go_wp2_with ((with_reducible refine at_box 24 ?_); refine wpList_box_rowV rfl 24 _ rfl s.cs rfl ?_; intro w1 hr1 hb1 hs1)
    refine (dhas_any w1 base g bm vd vw d x (HD.out.below hb1)).mono ?_
    rintro e w2 ⟨rfl, rfl⟩
    rw [hh]
    go_wp2_with fail
    go_ret
    rw [Hv.out]
    exact ⟨rfl, _, ⟨vd, vw, bm, HD.out.below hb1, rfl⟩, But.of _ hb1, fun k hk => .inl hk⟩
  · have hx : 0 ≤ x ∧ x < d.dur.length := by simpa [Dk.has] using hh
    obtain ⟨i, rfl⟩ := Int.eq_ofNat_of_zero_le hx.1
    have hi : i < d.dur.length := by omega
    clear hx
    cases hdd : d.dead
    · have Hv : Hid (d.write (i : Int) s = ({ d.stepped with wait := d.wait ++ [(i, s)] }, 0)) := by show _ = _; simp [Dk.write, hh, hdd]
      have Hdd := Lib.hid hdd
      have Hi := Lib.hid hi
      go_enter Try.func14, Try.ntmps14
      go_wp2_with ((with_reducible refine at_box 24 ?_); refine wpList_box_rowV rfl 24 _ rfl s.cs rfl ?_; intro w1 hr1 hb1 hs1)
      have HD1 := Lib.hid (HD.out.below hb1)
      refine (dhas_any w1 base g bm vd vw d (i : Int) HD1.out).mono ?_
      rintro e w2 ⟨rfl, rfl⟩
      rw [hh]
      go_wp2_with fail
      refine (dstep_any w2 base g bm vd vw d Hk.out HD1.out).mono ?_
      rintro e w3 ⟨rfl, hD3, hg3⟩
      rw [hdd]
      have hgN : g < w.heap.size := HD.out.glt
      have hr3 : RowV w3 w.heap.size 24 s.cs := hr1.keep hg3 (fun e => by injection e with e; omega)
      have HB3 : Hid (But (foot g bm vd vw) w.heap.size w w3) := (But.of _ hb1).grown hg3 (by intro k e; injection e with e; left; simp [mem_foot, e]) (by omega)
      have HD3 := Lib.hid hD3
      have ew : d.stepped.wait = d.wait := by unfold Dk.stepped; split <;> rfl
      have c1 := hD3.c1
      have c2 := hD3.c2
      obtain ⟨A, cap, hvw, hcap, hcm⟩ := own_slice hD3.wait
      rw [hvw] at c1
      rw [ew] at c1
      have hsz3 : w.heap.size + 1 ≤ w3.heap.size := by have := hg3.size; omega
      generalize hnl : d.wait.length = n at *
      have Hmap : Hid (w3.drew.ownsMap Try.prog 3 (plainElem (H := Unit) Try.prog 3) bm n (lastD d.wait)) := by show _; have := hD3.map.drew; rw [ew, hnl] at this; exact this
      clear hD3 hg3 hb1 hr1 hh hdd hs1
      go_wp2_with fail
      refine wp_region_still_tail 10 (by kernel_rfl) (by kernel_rfl) ?_
      simp only [List.take_succ_cons, List.take_zero, List.drop_succ_cons, List.drop_zero]
      iterate 10 still_step
      refine wpStill_nil ?_
      change wpList _ _ _ _ _ w3.drew
      go_wp2_with (at_mapUpdate; refine wpList_mapUpdate_own _ rfl _ _ _ 69 rfl 3 3 keyed3 Try.underlying69 _ bm n _ rfl Hmap.out (by unfold maxLen; omega) _ _ _ rfl rfl (keyOf_int_mk Try.underlying3 (a := (i : Int)) (WalkArith.wf_i64 (by have := Hk.out.dur; have := Hi.out; omega))) _ [] (plainElem_int Try.underlying3 (WalkArith.wf_i64 (by omega))) ?_; intro w4 hm4 hg4)
      have hne : g ≠ bm := HD3.out.gm
      have hNb : bm < w.heap.size := HD.out.mlt
      have hg4' : w3.grownBy w4 (some bm) := ⟨hg4.os, hg4.tape, hg4.output, hg4.size, hg4.block⟩
      have hrow4 : RowV w4 g 72 (dcells vd vw bm d.stepped) := HD3.out.row.keep hg4' (fun e => hne (by injection e with e; exact e.symm))
      have hdur4 := HD3.out.dur.kept hg4' (.inr HD3.out.dm)
      have hwait4 := HD3.out.wait.kept hg4' (.inr HD3.out.wm)
      rw [ew, hnl] at hwait4
      have hr4 : RowV w4 w.heap.size 24 s.cs := hr3.keep hg4' (fun e => by injection e with e; omega)
      have hB4 : But (foot g bm vd vw) w.heap.size w w4 := HB3.out.grown hg4' (by intro k e; injection e with e; left; simp [mem_foot, e]) (by omega)
      have hsz4 : w.heap.size + 1 ≤ w4.heap.size := Nat.le_trans hsz3 hg4'.size
      have hvw' : vw = .slice A n cap := by rw [hvw, ew, hnl]
      have hR5 : w4.drew.rangeAt w.heap.size 0 s.cs := fun j v hj => by rw [Nat.zero_add]; exact hr4.drew.cell hj
      have hrow5 : RowV w4.drew g 72 (dcells vd vw bm d.stepped) := hrow4
      have hdur5 := hdur4.drew
      have hwait5 := hwait4.drew
      have hm5 := hm4.drew
      have hB5 : But (foot g bm vd vw) w.heap.size w w4.drew := hB4.drew
      have hsz5 : w.heap.size + 1 ≤ w4.drew.heap.size := hsz4
      have HDm : Hid (vw.ownBlock ≠ some bm ∧ vw.ownBlock ≠ some g ∧ (∀ k, vd.ownBlock = some k → vw.ownBlock ≠ some k) ∧ ∀ k, vw.ownBlock = some k → k < w.heap.size) := ⟨HD.out.wm, HD.out.wg, fun k hk => HD.out.dw hk, fun k hk => (HD.out.wait.lt k hk).2⟩
      have Hs := Lib.hid (sec_size s)
      have Hb := Lib.hid (built72 (i : Int) s)
      clear c1 c2 hr3 hr4 hg4 hg4' hm4 hrow4 hdur4 hwait4 hB4 hsz4 HD3 HB3 Hmap hvw HD1
      go_wp2_with fail
      refine wp_region_held_drew (S := fun W => W.rangeAt w.heap.size 0 s.cs) (by kernel_rfl) hR5 (fun hHeld => ?_)
      generalize w4.drew = w5 at *
      have hc5 : w5.cell? ⟨g, 1, none⟩ = some (Value.slice A n cap) := by have := hrow5.cell (i := 1) rfl; rw [hvw'] at this; exact this
      refine wpAnyH_take (i := 0) (oi := ⟨_, _, _, _, _, _⟩) (v := ?_) rfl (by kernel_rfl) (by kernel_rfl) (by kernel_rfl) (fun _ _ _ h => h) (Or.inl ⟨by rfl, ?_⟩) (by assumption) ?_
      rotate_left
      · intro W hSW; (try dsimp only at hSW); go_simp; try with_reducible rfl
      try simp only [Act.put, List.setIfInBounds_toArray, List.set_cons_zero, List.set_cons_succ]
      refine wpAnyH_take (i := 1) (oi := ⟨_, _, _, _, _, _⟩) (v := ?_) rfl (by kernel_rfl) (by kernel_rfl) (by kernel_rfl) (fun _ _ _ h => h) (Or.inl ⟨by rfl, ?_⟩) (by assumption) ?_
      rotate_left
      · intro W hSW; (try dsimp only at hSW); go_simp; try with_reducible rfl
      try simp only [Act.put, List.setIfInBounds_toArray, List.set_cons_zero, List.set_cons_succ]
      refine wpAnyH_take (i := 2) (oi := ⟨_, _, _, _, _, _⟩) (v := ?_) rfl (by kernel_rfl) (by kernel_rfl) (by kernel_rfl) (fun _ _ _ h => h) (Or.inl ⟨by rfl, ?_⟩) (by assumption) ?_
      rotate_left
      · intro W hSW; (try dsimp only at hSW); go_simp; try with_reducible rfl
      try simp only [Act.put, List.setIfInBounds_toArray, List.set_cons_zero, List.set_cons_succ]
      refine wpAnyH_take (i := 3) (oi := ⟨_, _, _, _, _, _⟩) (v := ?_) rfl (by kernel_rfl) (by kernel_rfl) (by kernel_rfl) (fun _ _ _ h => h) (Or.inl ⟨by rfl, ?_⟩) (by assumption) ?_
      rotate_left
      · intro W hSW; (try dsimp only at hSW); go_simp; try with_reducible rfl
      try simp only [Act.put, List.setIfInBounds_toArray, List.set_cons_zero, List.set_cons_succ]
      refine wpAnyH_take (i := 5) (oi := ⟨_, _, _, _, _, _⟩) (v := ?_) rfl (by kernel_rfl) (by kernel_rfl) (by kernel_rfl) (fun _ _ _ h => h) (Or.inl ⟨by rfl, ?_⟩) (by assumption) ?_
      rotate_left
      · intro W hSW; (try dsimp only at hSW); go_simp; try with_reducible rfl
      try simp only [Act.put, List.setIfInBounds_toArray, List.set_cons_zero, List.set_cons_succ]
      refine wpAnyH_take (i := 6) (oi := ⟨_, _, _, _, _, _⟩) (v := ?_) rfl (by kernel_rfl) (by kernel_rfl) (by kernel_rfl) (fun _ _ _ h => h) (Or.inl ⟨by rfl, ?_⟩) (by assumption) ?_
      rotate_left
      · intro W hSW; refine exec_load_mid 24 (.tmp 5) ?_ w.heap.size 0 ?_ s.cs _ hSW Try.underlying24 rfl Hs.out <;> rfl
      try simp only [Act.put, List.setIfInBounds_toArray, List.set_cons_zero, List.set_cons_succ]
      refine wpAnyH_take (i := 7) (oi := ⟨_, _, _, _, _, _⟩) (v := ?_) rfl (by kernel_rfl) (by kernel_rfl) (by kernel_rfl) (fun _ _ _ h => h) (Or.inl ⟨by rfl, ?_⟩) (by assumption) ?_
      rotate_left
      · intro W hSW
        refine exec_built 75 #[(0, .tmp 32), (1, .tmp 33)] ?_ (Value.int .i64 (i : Int) :: s.cs) ?_
        · rfl
        · exact Hb.out
      try simp only [Act.put, List.setIfInBounds_toArray, List.set_cons_zero, List.set_cons_succ]
      refine wpAnyH_ready (rs := [4, 8]) (by kernel_rfl) (by simp) ?_
      refine AllReadyH.cons (o := ⟨_, _, _, _, _, _⟩) rfl (fun K hK => ?_) (AllReadyH.cons (o := ⟨_, _, _, _, _, _⟩) rfl (fun K hK => ?_) AllReadyH.nil)
      go_simp
      refine hK.out _ _ hR5 (fun hHeld => ?_)
      clear hK K
      try simp only [Act.put, List.setIfInBounds_toArray, List.set_cons_zero, List.set_cons_succ]
      refine wpAnyH_ready (rs := [8]) (by kernel_rfl) (by simp) ?_
      refine AllReadyH.cons (o := ⟨_, _, _, _, _, _⟩) rfl (fun K hK => ?_) AllReadyH.nil
      refine ite_yes rfl ?_
      refine wp_buildSlice_one 70 75 (.tmp 34) rfl (Value.int .i64 (i : Int) :: s.cs) rfl Try.underlying70 Try.infoC (by rw [List.length_cons, Sec.cs_length]) (by decide) (by decide) ?_
      refine hK.out _ _ (World.rangeAt_alloc hR5 _) (fun hHeld => ?_)
      clear hK K
      try simp only [Act.put, List.setIfInBounds_toArray, List.set_cons_zero, List.set_cons_succ]
      rotate_left
      refine ite_yes rfl ?_
      refine wp_buildSlice_one 70 75 (.tmp 34) rfl (Value.int .i64 (i : Int) :: s.cs) rfl Try.underlying70 Try.infoC (by rw [List.length_cons, Sec.cs_length]) (by decide) (by decide) ?_
      refine hK.out _ _ (World.rangeAt_alloc hR5 _) (fun hHeld => ?_)
      clear hK K
      try simp only [Act.put, List.setIfInBounds_toArray, List.set_cons_zero, List.set_cons_succ]
      refine wpAnyH_ready (rs := [4]) (by kernel_rfl) (by simp) ?_
      refine AllReadyH.cons (o := ⟨_, _, _, _, _, _⟩) rfl (fun K hK => ?_) AllReadyH.nil
      have hc6 : (w5.alloc (.cells (Value.int .i64 (i : Int) :: s.cs).toArray 75)).cell? ⟨g, 1, none⟩ = some (Value.slice A n cap) := (World.cell?_alloc_lt _ _ _ (World.block_lt_of_cell? w5 _ hc5)).trans hc5
      go_simp
      refine hK.out _ _ (World.rangeAt_alloc hR5 _) (fun hHeld => ?_)
      clear hK K
      try simp only [Act.put, List.setIfInBounds_toArray, List.set_cons_zero, List.set_cons_succ]
      all_goals
        refine wpAnyH_ready (rs := [9]) (by kernel_rfl) (by simp) ?_
        refine AllReadyH.cons (o := ⟨_, _, _, _, _, _⟩) rfl (fun K hK => ?_) AllReadyH.nil
        refine ite_yes rfl ?_
        refine wp_append_at (.tmp 31) (.tmp 35) 70 rfl base 75 Try.underlying70 Try.infoC (by rw [show (Value.agg (Value.int .i64 0 :: zeroSec.cs).toArray).cells = (Value.int .i64 0 :: zeroSec.cs).toArray from rfl, List.size_toArray, List.length_cons, Sec.cs_length]) (by decide) (Value.slice A n cap) n (chgs d.wait) rfl (hvw' ▸ hwait5.alloc _) ⟨w5.heap.size, 0, none⟩ 1 1 (Value.int .i64 (i : Int) :: s.cs) rfl (by rw [List.length_cons, Sec.cs_length]) (news_new w5 _ _) (Chg.one (i, s)) (by unfold maxLen; omega) (by omega) (by rw [World.size_alloc]; omega) ?_
        intro vX w6 hown6 hgr6 hloc6
        obtain ⟨A', cap', rfl, _, _⟩ := own_slice hown6
        have hR6 : w6.rangeAt w.heap.size 0 s.cs := by
          intro j v hj
          have h1 := World.rangeAt_alloc hR5 (.cells (Value.int .i64 (i : Int) :: s.cs).toArray 75) j v hj
          refine hgr6.cell h1 (fun e => ?_)
          have := HDm.out.2.2.2 w.heap.size (by rw [hvw']; exact e.symm)
          omega
        refine hK.out _ _ hR6 (fun hHeld => ?_)
        clear hK K
        try simp only [Act.put, List.setIfInBounds_toArray, List.set_cons_zero, List.set_cons_succ]
        rw [← hvw'] at hgr6
        have hnb : vw.ownBlock ≠ some g := HDm.out.2.1
        have hrow6 : RowV w6 g 72 (dcells vd vw bm d.stepped) := (hrow5.alloc _).keep hgr6 hnb
        have hdur6 := (hdur5.alloc (.cells (Value.int .i64 (i : Int) :: s.cs).toArray 75)).kept hgr6 (by
          cases hv : vd.ownBlock with
          | none => exact .inl rfl
          | some k => exact .inr (fun e => HDm.out.2.2.1 k hv e.symm))
        have hm6 := (hm5.alloc (.cells (Value.int .i64 (i : Int) :: s.cs).toArray 75)).kept hgr6 (fun e => HDm.out.1 e.symm)
        have hB6 : But (foot g bm vd vw) w.heap.size w w6 := (hB5.alloc (by omega) _).grown hgr6 (fun k e => by left; simp [mem_foot, e]) (by rw [World.size_alloc]; omega)
        have hf6 := hrow6.free 1
        have hc6 := hrow6.cell (i := 1) rfl
        have hsz6 : w.heap.size + 1 ≤ w6.heap.size := by have := hgr6.size; rw [World.size_alloc] at this; omega
        have HL : Hid ((Value.slice A' (n + 1) cap').ownBlock = vw.ownBlock ∨ (Value.slice A' (n + 1) cap').ownBlock = some (w5.heap.size + 1)) := by show _; rw [World.size_alloc] at hloc6; rw [hvw']; exact hloc6
        clear hgr6 hrow5 hdur5 hwait5 hm5 hB5 hloc6 hR5 hc5
        refine wpAnyH_take (i := 10) (oi := ⟨_, _, _, _, _, _⟩) (v := ?_) rfl (by kernel_rfl) (by kernel_rfl) (by kernel_rfl) (fun _ _ _ h => h) (Or.inl ⟨by rfl, ?_⟩) (by assumption) ?_
        rotate_left
        · intro W hSW; (try dsimp only at hSW); go_simp; try with_reducible rfl
        try simp only [Act.put, List.setIfInBounds_toArray, List.set_cons_zero, List.set_cons_succ]
        refine wpAnyH_take (i := 11) (oi := ⟨_, _, _, _, _, _⟩) (v := ?_) rfl (by kernel_rfl) (by kernel_rfl) (by kernel_rfl) (fun _ _ _ h => h) (Or.inl ⟨by rfl, ?_⟩) (by assumption) ?_
        rotate_left
        · intro W hSW; (try dsimp only at hSW); go_simp; try with_reducible rfl
        try simp only [Act.put, List.setIfInBounds_toArray, List.set_cons_zero, List.set_cons_succ]
        refine wpAnyH_ready (rs := [12]) (by kernel_rfl) (by simp) ?_
        refine AllReadyH.cons (o := ⟨_, _, _, _, _, _⟩) rfl (fun K hK => ?_) AllReadyH.nil
        go_simp
        refine hK.out _ _ ?_ (fun hHeld => ?_)
        · intro j v hj
          rw [World.cell?_setCell_other _ _ _ _ (by intro e; injection e with e _; omega)]
          exact hR6 j v hj
        clear hK K
        try simp only [Act.put, List.setIfInBounds_toArray, List.set_cons_zero, List.set_cons_succ]
        refine wpAnyH_done (by kernel_rfl) ?_ _
        go_wp2_with fail
        go_ret
        rw [Hv.out]
        have ed : d.stepped.down = d.stepped.down := rfl
        refine ⟨rfl, _, ⟨vd, .slice A' (n + 1) cap', bm, ⟨?_, ?_, ?_, ?_, HD.out.hg, HD.out.hm⟩, rfl⟩, hB6.setCell (.inl (by simp [mem_foot])) _, ?_⟩
        · exact hrow6.setCell 1 (Value.slice A' (n + 1) cap')
        · exact hdur6.kept (gset (World.grownBy.refl w6 (some g)) (Value.slice A' (n + 1) cap')) (.inr HD.out.dg)
        · show World.ownsRow _ _ _ _ _ (d.wait ++ [(i, s)]).length (chgs (d.wait ++ [(i, s)]))
          rw [List.length_append, hnl, chgs_snoc]
          refine hown6.kept (gset (World.grownBy.refl w6 (some g)) (Value.slice A' (n + 1) cap')) (.inr ?_)
          intro e
          exact own_row_apart hown6 hrow6 (by decide) e
        · show World.ownsMap _ _ _ _ _ (d.wait ++ [(i, s)]).length (lastD (d.wait ++ [(i, s)]))
          rw [List.length_append, hnl, lastD_snoc, hnl]
          exact hm6.setCell (Ne.symm hne) (Value.slice A' (n + 1) cap')
        · intro k hk
          rcases mem_foot.1 hk with rfl | rfl | hk | hk
          · left; simp [mem_foot]
          · left; simp [mem_foot]
          · left; simp [mem_foot, hk]
          · rcases HL.out with e | e
            · left; rw [e] at hk; simp [mem_foot, hk]
            · right; rw [e] at hk; injection hk with hk; omega
    · have Hv : Hid (d.write (i : Int) s = (d.stepped, 4)) := by show _ = _; simp [Dk.write, hh, hdd]
      go_enter Try.func14, Try.ntmps14
      go_wp2_with ((with_reducible refine at_box 24 ?_); refine wpList_box_rowV rfl 24 _ rfl s.cs rfl ?_; intro w1 hr1 hb1 hs1)
      have HD1 := Lib.hid (HD.out.below hb1)
      refine (dhas_any w1 base g bm vd vw d (i : Int) HD1.out).mono ?_
      rintro e w2 ⟨rfl, rfl⟩
      rw [hh]
      go_wp2_with fail
      refine (dstep_any w2 base g bm vd vw d Hk.out HD1.out).mono ?_
      rintro e w3 ⟨rfl, hD3, hg3⟩
      rw [hdd]
      go_wp2_with fail
      go_ret
      rw [Hv.out]
      exact ⟨rfl, _, ⟨vd, vw, bm, hD3, rfl⟩, (But.of _ hb1).grown hg3 (by intro k e; injection e with e; left; simp [mem_foot, e]) (by omega), fun k hk => .inl hk⟩
end Go.Proofs.Ytoiphbdmmiikaaa
