/-
  Layer 6: the contract of do: flushes, crashes, fuses, all else.
-/
import Derived.Test.YtamjkmelfpdhiaaDiskDr
namespace Go.Proofs.Ytamjkmelfpdhiaa
open Go.RowKit Go.Maps
set_option linter.unusedVariables false
set_option linter.unusedSimpArgs false

theorem LiesV.but {w w' : World} {L : List Nat} {B : Nat} {A : Option Addr} {cs : List Value} (h : LiesV w B A cs) (hb : But L B w w') (hn : cs ≠ [] → ∀ a, A = some a → a.block ∉ L) : LiesV w' B A cs := fun hx => by
  obtain ⟨b, o, e, hb', hc⟩ := h hx
  exact ⟨b, o, e, hb', fun i v hi => (World.cell?_of_block (hb.block b hb' (hn hx _ e))).trans (hc i v hi)⟩

set_option maxRecDepth 100000 in
set_option maxHeartbeats 8000000 in
theorem do_flush (w : World) (base g : Nat) (L : List Nat) (vl vw : Value) (d : Dk) (o : OpV) (hk : d.Ok) (hks : d.stepped.Ok) (hw : d.wait.length < 1000000) (hb : base ≤ w.heap.size) (hD : Disk w base L g d) (hR : Ref w base vl vw d) (hap : Apart L vl vw) (h2 : o.kind = 3) : Calls Try.prog 10 #[.pointer (some ⟨g, 0, none⟩), .agg (rc vl vw d).toArray, .agg o.cs.toArray] w (Did w base L g vl vw (d.act o)) := by
  have Hact : Hid (d.act o = d.flush.1) := by show _ = _; simp [Dk.act, h2]
  have o1 := own_one hR.last
  have o2 := own_one hR.wait
  have HD := Lib.hid hD
  have HR := Lib.hid hR
  have Hk := Lib.hid hk
  have Hap := Lib.hid hap
  clear hD hR hk hap
  go_enter Try.func10, Try.ntmps10
  go_wp2_with ((with_reducible refine at_box 32 ?_); refine wpList_box_rowV rfl 32 _ rfl (rc vl vw d) rfl ?_)
  intro w1 hr1 hb1 hs1
  go_wp2_with ((with_reducible refine at_box 39 ?_); refine wpList_box_rowV rfl 39 _ rfl o.cs rfl ?_)
  intro w2 hr2 hb2 hs2
  go_wp2_with ((with_reducible refine at_alloc 32 ?_); refine wpList_alloc_rowV rfl 32 rfl rc0 Try.zeroR ?_)
  intro w3 hr3 hb3 hs3
  have hr13 := (hr1.below (by omega) hb2).below (by omega) hb3
  have hr23 := hr2.below (by omega) hb3
  have hB3 : Below w.heap.size w w3 := hb1.trans ((hb2.mono (by omega)).trans (hb3.mono (by omega)))
  have hlt1 : w.heap.size < w.heap.size + 1 := by omega
  have hlt2 : w.heap.size + 1 < w.heap.size + 1 + 1 := by omega
  have hsz3 : w.heap.size + 1 + 1 < w3.heap.size := by omega
  clear hr1 hb1 hs1 hr2 hb2 hs2 hb3 hs3
  generalize hN2 : w.heap.size + 1 + 1 = N2 at *
  generalize hN1 : w.heap.size + 1 = N1 at *
  clear hN2 hN1
  have hD3 := HD.out.below hB3
  have hR3 := HR.out.below hB3
  have k0 := hr23.cell (i := 0) rfl
  have k1 := hr23.cell (i := 1) rfl
  have k2 := hr23.cell (i := 2) rfl
  have k3 := hr23.cell (i := 3) rfl
  rw [h2] at k0
  clear h2
  go_wp2_with ((with_reducible refine at_load 32 ?_); refine wpList_load_row rfl 32 _ rfl (w.heap.size) rfl 32 (rc vl vw d).toArray (0, 0) _ hr13 Try.underlying32 rfl (rc_size _ rfl) ?_)
  refine (rflush_any w3 base vl vw d Hk.out hks (Nat.le_trans hb hB3.size) hR3).mono ?_
  rintro e w4 ⟨vl', vw', rfl, hR4, hb4, n1, n2⟩
  have N1' : Newer w3 vl vl' := n1
  have N2' : Newer w3 vw vw' := n2
  have oo1 := Lib.hid (own_one hR4.last)
  have oo2 := Lib.hid (own_one hR4.wait)
  have n1 := Lib.hid N1'
  have n2 := Lib.hid N2'
  have hsz4 : w3.heap.size ≤ w4.heap.size := hb4.size
  clear k0 k1 k2
  go_wp2_with ((with_reducible refine at_alloc 32 ?_); refine wpList_alloc_rowV rfl 32 rfl rc0 Try.zeroR ?_)
  intro w5 hr5 hb5 hs5
  generalize hN3 : w4.heap.size = N3 at *
  go_wp2_with ((with_reducible refine at_store 32 ?_); refine wpList_store_rowV rfl 32 _ _ rfl (N3) (rc vl' vw' d.flush.1) rfl rfl 32 (rc0) hr5 (rc_size _ rfl) rfl (rc_all oo1.out oo2.out) ?_)
  intro wc hrc hgc hsc
  have R3 := Lib.hid hrc
  have hR5 := hR4.below (w' := w5) (by rw [hN3]; exact hb5)
  have RF : Hid (Ref wc base vl' vw' d.flush.1) := ⟨hR5.last.kept hgc (.inr (own_row_apart hR5.last hr5 (by decide))), hR5.wait.kept hgc (.inr (own_row_apart hR5.wait hr5 (by decide)))⟩
  have B3 : Hid (Below w3.heap.size w3 wc) := below_grown (hb4.trans (hb5.mono (by omega))) hgc (by omega) (by omega)
  have h3a : w3.heap.size ≤ N3 := by omega
  have h3b : N3 < wc.heap.size := by omega
  go_wp2_with fail
  have hLw : ∀ k ∈ L, k < w.heap.size := fun k hk => (HD.out.lt hk).2
  have hNL : N2 ∉ L := fun h => by have := hLw _ h; omega
  have hN1L : N1 ∉ L := fun h => by have := hLw _ h; omega
  have hN3L : N3 ∉ L := fun h => by have := hLw _ h; omega
  have hszc : w3.heap.size ≤ wc.heap.size := B3.out.size
  have q1 : RowV wc.drew N3 32 (rc vl' vw' d.flush.1) := R3.out
  have q2 : RowV wc.drew N1 39 o.cs := (hr23.below (B := w3.heap.size) (by omega) B3.out : RowV wc N1 _ _)
  have q3 : RowV wc.drew N2 32 rc0 := (hr3.below (B := w3.heap.size) (by omega) B3.out : RowV wc N2 _ _)
  have qD : Disk wc.drew base L g d := (hD3.below B3.out).drew
  have qR : Ref wc.drew base vl' vw' d.flush.1 := ⟨RF.out.last.drew, RF.out.wait.drew⟩
  have qB : But L w.heap.size w wc.drew := ((But.of L hB3).trans ((But.of L B3.out).less hB3.size)).drew
  have hl1 : N3 < wc.drew.heap.size := h3b
  have hl2 : N1 < wc.drew.heap.size := by show _ < wc.heap.size; omega
  have hl3 : N2 < wc.drew.heap.size := by show _ < wc.heap.size; omega
  have hbw : base ≤ wc.drew.heap.size := by show _ ≤ wc.heap.size; have := hB3.size; omega
  have p1 : Newer w vl vl' := n1.out.less hB3.size
  have p2 : Newer w vw vw' := n2.out.less hB3.size
  have a1 := apart_newer Hap.out (.inl rfl) hLw p1
  have a2 := apart_newer Hap.out (.inr rfl) hLw p2
  have hwsz : w.heap.size ≤ wc.drew.heap.size := qB.size
  refine wp_region_held_drew (S := fun W => But (N2 :: L) wc.drew.heap.size wc.drew W) (by kernel_rfl) (But.refl _ _ _) (fun hHeld => ?_)
  clear k3 hr13 hr23 hr3 hD3 hR3 R3 RF
  generalize wc.drew = wd at *
  have S0 : But (N2 :: L) wd.heap.size wd wd := But.refl _ _ _
  have hsub : ∀ k ∈ L, k ∈ N2 :: L := fun k hk => List.mem_cons_of_mem _ hk
  refine wpAnyH_take (i := 0) (oi := ⟨_, _, _, _, _, _⟩) (v := ?_) rfl (by kernel_rfl) (by kernel_rfl) (by kernel_rfl) (fun _ _ _ h => h) (Or.inl ⟨by rfl, ?_⟩) (by assumption) ?_
  rotate_left
  · intro W hSW; refine exec_rc (.tmp 14) ?_ N3 ?_ (rc vl' vw' d.flush.1) rfl (rowV_but q1 hSW hl1 (by simp; exact ⟨by omega, hN3L⟩)) <;> rfl
  try simp only [Act.put, List.setIfInBounds_toArray, List.set_cons_zero, List.set_cons_succ]
  refine wpAnyH_take (i := 1) (oi := ⟨_, _, _, _, _, _⟩) (v := ?_) rfl (by kernel_rfl) (by kernel_rfl) (by kernel_rfl) (fun _ _ _ h => h) (Or.inl ⟨by rfl, ?_⟩) (by assumption) ?_
  rotate_left
  · intro W hSW; go_simp; try with_reducible rfl
  try simp only [Act.put, List.setIfInBounds_toArray, List.set_cons_zero, List.set_cons_succ]
  refine wpAnyH_take (i := 3) (oi := ⟨_, _, _, _, _, _⟩) (v := ?_) rfl (by kernel_rfl) (by kernel_rfl) (by kernel_rfl) (fun _ _ _ h => h) (Or.inl ⟨by rfl, ?_⟩) (by assumption) ?_
  rotate_left
  · intro W hSW; go_simp; try with_reducible rfl
  try simp only [Act.put, List.setIfInBounds_toArray, List.set_cons_zero, List.set_cons_succ]
  refine wpAnyH_ready (rs := [2]) (by kernel_rfl) (by simp) ?_
  refine AllReadyH.cons (o := ⟨_, _, _, _, _, _⟩) rfl (fun K hK => ?_) AllReadyH.nil
  go_simp
  refine (dflush_any wd base g L d Hk.out qD).mono ?_
  rintro e wB ⟨rfl, L', hDB, hbB, hLB⟩
  have SB : But (N2 :: L) wd.heap.size wd wB := hbB.sub hsub
  try simp only []
  refine hK.out _ _ (SB) (fun hHeld => ?_)
  clear hK K
  try simp only [Act.put, List.setIfInBounds_toArray, List.set_cons_zero, List.set_cons_succ]
  have r3B := rowV_but q3 hbB hl3 hNL
  have hRB := qR.but hbB a1 a2
  have BB : But L wd.heap.size wd wB := hbB
  refine wpAnyH_take (i := 4) (oi := ⟨_, _, _, _, _, _⟩) (v := ?_) rfl (by kernel_rfl) (by kernel_rfl) (by kernel_rfl) (fun _ _ _ h => h) (Or.inl ⟨by rfl, ?_⟩) (by assumption) ?_
  rotate_left
  · intro W hSW; (try dsimp only at hSW); go_simp; try with_reducible rfl
  try simp only [Act.put, List.setIfInBounds_toArray, List.set_cons_zero, List.set_cons_succ]
  refine wpAnyH_ready (rs := [5]) (by kernel_rfl) (by simp) ?_
  refine AllReadyH.cons (o := ⟨_, _, _, _, _, _⟩) rfl (fun K hK => ?_) AllReadyH.nil
  refine ite_yes rfl ?_
  refine wp_store_rc (.tmp 6) (.tmp 75) rfl N2 (rc vl' vw' d.flush.1) rc0 rfl rfl r3B rfl rfl (rc_all oo1.out oo2.out) ?_
  intro wD hrD hgD hsD
  have SD : But (N2 :: L) wd.heap.size wd wD := SB.grown hgD (by intro k e; injection e with e; left; simp [e]) SB.size
  refine hK.out _ _ SD (fun hHeld => ?_)
  clear hK K
  try simp only [Act.put, List.setIfInBounds_toArray, List.set_cons_zero, List.set_cons_succ]
  refine wpAnyH_take (i := 6) (oi := ⟨_, _, _, _, _, _⟩) (v := ?_) rfl (by kernel_rfl) (by kernel_rfl) (by kernel_rfl) (fun _ _ _ h => h) (Or.inl ⟨by rfl, ?_⟩) (by assumption) ?_
  rotate_left
  · intro W hSW; (try dsimp only at hSW); go_simp; try with_reducible rfl
  try simp only [Act.put, List.setIfInBounds_toArray, List.set_cons_zero, List.set_cons_succ]
  refine wpAnyH_done (by kernel_rfl) ?_ _
  go_wp2_with fail
  refine bodyPost_ret (results_cell_tmp (fn := Try.f10) rfl _ _ N2 32 _ (0, 0) _ rfl (.bool true) rfl hrD Try.underlying32 rfl (rc_size _ rfl)) rfl ?_
  rw [Hact.out]
  exact did_of (qB.trans (BB.less hwsz)) (by omega) r3B hgD hDB hRB (fun k hk => (hLB k hk).imp id (fun h => by omega)) (fun h => by rcases hLB _ h with h | h; exact hNL h; omega) p1 p2 (fun k hk hm => by
    rcases hLB k hm with h | h
    · exact hk.elim (fun e => a1 k e h) (fun e => a2 k e h)
    · have := hk.elim (fun e => (qR.last.lt k e).2) (fun e => (qR.wait.lt k e).2); omega)

set_option maxRecDepth 100000 in
set_option maxHeartbeats 8000000 in
theorem do_crash (w : World) (base g : Nat) (L : List Nat) (vl vw : Value) (d : Dk) (o : OpV) (hk : d.Ok) (hks : d.stepped.Ok) (hw : d.wait.length < 1000000) (hb : base ≤ w.heap.size) (hD : Disk w base L g d) (hR : Ref w base vl vw d) (hap : Apart L vl vw) (hop : Bools w L (.slice o.A o.keep.length o.c) o.keep) (h2 : o.kind = 4) : Calls Try.prog 10 #[.pointer (some ⟨g, 0, none⟩), .agg (rc vl vw d).toArray, .agg o.cs.toArray] w (Did w base L g vl vw (d.act o)) := by
  have Hact : Hid (d.act o = (d.crash o.keep).1) := by show _ = _; simp [Dk.act, h2]
  have Hop := Lib.hid hop
  clear hop
  have o1 := own_one hR.last
  have o2 := own_one hR.wait
  have HD := Lib.hid hD
  have HR := Lib.hid hR
  have Hk := Lib.hid hk
  have Hap := Lib.hid hap
  clear hD hR hk hap
  go_enter Try.func10, Try.ntmps10
  go_wp2_with ((with_reducible refine at_box 32 ?_); refine wpList_box_rowV rfl 32 _ rfl (rc vl vw d) rfl ?_)
  intro w1 hr1 hb1 hs1
  go_wp2_with ((with_reducible refine at_box 39 ?_); refine wpList_box_rowV rfl 39 _ rfl o.cs rfl ?_)
  intro w2 hr2 hb2 hs2
  go_wp2_with ((with_reducible refine at_alloc 32 ?_); refine wpList_alloc_rowV rfl 32 rfl rc0 Try.zeroR ?_)
  intro w3 hr3 hb3 hs3
  have hr13 := (hr1.below (by omega) hb2).below (by omega) hb3
  have hr23 := hr2.below (by omega) hb3
  have hB3 : Below w.heap.size w w3 := hb1.trans ((hb2.mono (by omega)).trans (hb3.mono (by omega)))
  have hlt1 : w.heap.size < w.heap.size + 1 := by omega
  have hlt2 : w.heap.size + 1 < w.heap.size + 1 + 1 := by omega
  have hsz3 : w.heap.size + 1 + 1 < w3.heap.size := by omega
  clear hr1 hb1 hs1 hr2 hb2 hs2 hb3 hs3
  generalize hN2 : w.heap.size + 1 + 1 = N2 at *
  generalize hN1 : w.heap.size + 1 = N1 at *
  clear hN2 hN1
  have hD3 := HD.out.below hB3
  have hR3 := HR.out.below hB3
  have k0 := hr23.cell (i := 0) rfl
  have k1 := hr23.cell (i := 1) rfl
  have k2 := hr23.cell (i := 2) rfl
  have k3 := hr23.cell (i := 3) rfl
  rw [h2] at k0
  clear h2
  go_wp2_with ((with_reducible refine at_load 32 ?_); refine wpList_load_row rfl 32 _ rfl (w.heap.size) rfl 32 (rc vl vw d).toArray (0, 0) _ hr13 Try.underlying32 rfl (rc_size _ rfl) ?_)
  obtain ⟨A0, c0, hv, hc1, hc2, hlie, hnot⟩ := Hop.out
  injection hv with e1 e2 e3
  subst e1 e3
  refine (rcrash_any w3 base vl vw d o.A o.c o.keep Hk.out ((hlie.below hB3).le hB3.size) hc2 (Nat.le_trans hb hB3.size) hR3).mono ?_
  rintro e w4 ⟨vl', vw', rfl, hR4, hb4, n1, n2⟩
  have N1' : Newer w3 vl vl' := n1
  have N2' : Newer w3 vw vw' := n2
  have oo1 := Lib.hid (own_one hR4.last)
  have oo2 := Lib.hid (own_one hR4.wait)
  have n1 := Lib.hid N1'
  have n2 := Lib.hid N2'
  have hsz4 : w3.heap.size ≤ w4.heap.size := hb4.size
  clear k0 k1 k2
  go_wp2_with ((with_reducible refine at_alloc 32 ?_); refine wpList_alloc_rowV rfl 32 rfl rc0 Try.zeroR ?_)
  intro w5 hr5 hb5 hs5
  generalize hN3 : w4.heap.size = N3 at *
  go_wp2_with ((with_reducible refine at_store 32 ?_); refine wpList_store_rowV rfl 32 _ _ rfl (N3) (rc vl' vw' (d.crash o.keep).1) rfl rfl 32 (rc0) hr5 (rc_size _ rfl) rfl (rc_all oo1.out oo2.out) ?_)
  intro wc hrc hgc hsc
  have R3 := Lib.hid hrc
  have hR5 := hR4.below (w' := w5) (by rw [hN3]; exact hb5)
  have RF : Hid (Ref wc base vl' vw' (d.crash o.keep).1) := ⟨hR5.last.kept hgc (.inr (own_row_apart hR5.last hr5 (by decide))), hR5.wait.kept hgc (.inr (own_row_apart hR5.wait hr5 (by decide)))⟩
  have B3 : Hid (Below w3.heap.size w3 wc) := below_grown (hb4.trans (hb5.mono (by omega))) hgc (by omega) (by omega)
  have h3a : w3.heap.size ≤ N3 := by omega
  have h3b : N3 < wc.heap.size := by omega
  go_wp2_with fail
  have hLw : ∀ k ∈ L, k < w.heap.size := fun k hk => (HD.out.lt hk).2
  have hNL : N2 ∉ L := fun h => by have := hLw _ h; omega
  have hN1L : N1 ∉ L := fun h => by have := hLw _ h; omega
  have hN3L : N3 ∉ L := fun h => by have := hLw _ h; omega
  have hszc : w3.heap.size ≤ wc.heap.size := B3.out.size
  have q1 : RowV wc.drew N3 32 (rc vl' vw' (d.crash o.keep).1) := R3.out
  have q2 : RowV wc.drew N1 39 o.cs := (hr23.below (B := w3.heap.size) (by omega) B3.out : RowV wc N1 _ _)
  have q3 : RowV wc.drew N2 32 rc0 := (hr3.below (B := w3.heap.size) (by omega) B3.out : RowV wc N2 _ _)
  have qD : Disk wc.drew base L g d := (hD3.below B3.out).drew
  have qR : Ref wc.drew base vl' vw' (d.crash o.keep).1 := ⟨RF.out.last.drew, RF.out.wait.drew⟩
  have qB : But L w.heap.size w wc.drew := ((But.of L hB3).trans ((But.of L B3.out).less hB3.size)).drew
  have hl1 : N3 < wc.drew.heap.size := h3b
  have hl2 : N1 < wc.drew.heap.size := by show _ < wc.heap.size; omega
  have hl3 : N2 < wc.drew.heap.size := by show _ < wc.heap.size; omega
  have hbw : base ≤ wc.drew.heap.size := by show _ ≤ wc.heap.size; have := hB3.size; omega
  have p1 : Newer w vl vl' := n1.out.less hB3.size
  have p2 : Newer w vw vw' := n2.out.less hB3.size
  have a1 := apart_newer Hap.out (.inl rfl) hLw p1
  have a2 := apart_newer Hap.out (.inr rfl) hLw p2
  have hwsz : w.heap.size ≤ wc.drew.heap.size := qB.size
  refine wp_region_held_drew (S := fun W => But (N2 :: L) wc.drew.heap.size wc.drew W) (by kernel_rfl) (But.refl _ _ _) (fun hHeld => ?_)
  clear k3 hr13 hr23 hr3 hD3 hR3 R3 RF
  generalize wc.drew = wd at *
  have S0 : But (N2 :: L) wd.heap.size wd wd := But.refl _ _ _
  have hsub : ∀ k ∈ L, k ∈ N2 :: L := fun k hk => List.mem_cons_of_mem _ hk
  have hBo : Bools wd L (.slice o.A o.keep.length o.c) o.keep := ⟨o.A, o.c, rfl, hc1, hc2, (hlie.but qB (fun h => hnot (by intro h0; rw [h0] at h; exact h rfl))).le hwsz, hnot⟩
  refine wpAnyH_take (i := 0) (oi := ⟨_, _, _, _, _, _⟩) (v := ?_) rfl (by kernel_rfl) (by kernel_rfl) (by kernel_rfl) (fun _ _ _ h => h) (Or.inl ⟨by rfl, ?_⟩) (by assumption) ?_
  rotate_left
  · intro W hSW; refine exec_rc (.tmp 16) ?_ N3 ?_ (rc vl' vw' (d.crash o.keep).1) rfl (rowV_but q1 hSW hl1 (by simp; exact ⟨by omega, hN3L⟩)) <;> rfl
  try simp only [Act.put, List.setIfInBounds_toArray, List.set_cons_zero, List.set_cons_succ]
  refine wpAnyH_take (i := 1) (oi := ⟨_, _, _, _, _, _⟩) (v := ?_) rfl (by kernel_rfl) (by kernel_rfl) (by kernel_rfl) (fun _ _ _ h => h) (Or.inl ⟨by rfl, ?_⟩) (by assumption) ?_
  rotate_left
  · intro W hSW; go_simp; try with_reducible rfl
  try simp only [Act.put, List.setIfInBounds_toArray, List.set_cons_zero, List.set_cons_succ]
  refine wpAnyH_take (i := 2) (oi := ⟨_, _, _, _, _, _⟩) (v := ?_) rfl (by kernel_rfl) (by kernel_rfl) (by kernel_rfl) (fun _ _ _ h => h) (Or.inl ⟨by rfl, ?_⟩) (by assumption) ?_
  rotate_left
  · intro W hSW; go_simp; try with_reducible rfl
  try simp only [Act.put, List.setIfInBounds_toArray, List.set_cons_zero, List.set_cons_succ]
  refine wpAnyH_take (i := 3) (oi := ⟨_, _, _, _, _, _⟩) (v := ?_) rfl (by kernel_rfl) (by kernel_rfl) (by kernel_rfl) (fun _ _ _ h => h) (Or.inl ⟨by rfl, ?_⟩) (by assumption) ?_
  rotate_left
  · intro W hSW; have kk := (rowV_but q2 hSW hl2 (by simp; exact ⟨by omega, hN1L⟩)).cell (i := 3) rfl; go_simp; try with_reducible rfl
  try simp only [Act.put, List.setIfInBounds_toArray, List.set_cons_zero, List.set_cons_succ]
  refine wpAnyH_take (i := 5) (oi := ⟨_, _, _, _, _, _⟩) (v := ?_) rfl (by kernel_rfl) (by kernel_rfl) (by kernel_rfl) (fun _ _ _ h => h) (Or.inl ⟨by rfl, ?_⟩) (by assumption) ?_
  rotate_left
  · intro W hSW; go_simp; try with_reducible rfl
  try simp only [Act.put, List.setIfInBounds_toArray, List.set_cons_zero, List.set_cons_succ]
  refine wpAnyH_ready (rs := [4]) (by kernel_rfl) (by simp) ?_
  refine AllReadyH.cons (o := ⟨_, _, _, _, _, _⟩) rfl (fun K hK => ?_) AllReadyH.nil
  go_simp
  refine (dcrash_any wd base g L d o.keep _ Hk.out qD hBo).mono ?_
  rintro e wB ⟨rfl, L', hDB, hbB, hLB⟩
  have SB : But (N2 :: L) wd.heap.size wd wB := hbB.sub hsub
  try simp only []
  refine hK.out _ _ (SB) (fun hHeld => ?_)
  clear hK K
  try simp only [Act.put, List.setIfInBounds_toArray, List.set_cons_zero, List.set_cons_succ]
  have r3B := rowV_but q3 hbB hl3 hNL
  have hRB := qR.but hbB a1 a2
  have BB : But L wd.heap.size wd wB := hbB
  refine wpAnyH_take (i := 6) (oi := ⟨_, _, _, _, _, _⟩) (v := ?_) rfl (by kernel_rfl) (by kernel_rfl) (by kernel_rfl) (fun _ _ _ h => h) (Or.inl ⟨by rfl, ?_⟩) (by assumption) ?_
  rotate_left
  · intro W hSW; (try dsimp only at hSW); go_simp; try with_reducible rfl
  try simp only [Act.put, List.setIfInBounds_toArray, List.set_cons_zero, List.set_cons_succ]
  refine wpAnyH_ready (rs := [7]) (by kernel_rfl) (by simp) ?_
  refine AllReadyH.cons (o := ⟨_, _, _, _, _, _⟩) rfl (fun K hK => ?_) AllReadyH.nil
  refine ite_yes rfl ?_
  refine wp_store_rc (.tmp 6) (.tmp 89) rfl N2 (rc vl' vw' (d.crash o.keep).1) rc0 rfl rfl r3B rfl rfl (rc_all oo1.out oo2.out) ?_
  intro wD hrD hgD hsD
  have SD : But (N2 :: L) wd.heap.size wd wD := SB.grown hgD (by intro k e; injection e with e; left; simp [e]) SB.size
  refine hK.out _ _ SD (fun hHeld => ?_)
  clear hK K
  try simp only [Act.put, List.setIfInBounds_toArray, List.set_cons_zero, List.set_cons_succ]
  refine wpAnyH_take (i := 8) (oi := ⟨_, _, _, _, _, _⟩) (v := ?_) rfl (by kernel_rfl) (by kernel_rfl) (by kernel_rfl) (fun _ _ _ h => h) (Or.inl ⟨by rfl, ?_⟩) (by assumption) ?_
  rotate_left
  · intro W hSW; (try dsimp only at hSW); go_simp; try with_reducible rfl
  try simp only [Act.put, List.setIfInBounds_toArray, List.set_cons_zero, List.set_cons_succ]
  refine wpAnyH_done (by kernel_rfl) ?_ _
  go_wp2_with fail
  refine bodyPost_ret (results_cell_tmp (fn := Try.f10) rfl _ _ N2 32 _ (0, 0) _ rfl (.bool true) rfl hrD Try.underlying32 rfl (rc_size _ rfl)) rfl ?_
  rw [Hact.out]
  exact did_of (qB.trans (BB.less hwsz)) (by omega) r3B hgD hDB hRB (fun k hk => (hLB k hk).imp id (fun h => by omega)) (fun h => by rcases hLB _ h with h | h; exact hNL h; omega) p1 p2 (fun k hk hm => by
    rcases hLB k hm with h | h
    · exact hk.elim (fun e => a1 k e h) (fun e => a2 k e h)
    · have := hk.elim (fun e => (qR.last.lt k e).2) (fun e => (qR.wait.lt k e).2); omega)

set_option maxRecDepth 100000 in
set_option maxHeartbeats 8000000 in
theorem do_fuse (w : World) (base g : Nat) (L : List Nat) (vl vw : Value) (d : Dk) (o : OpV) (hk : d.Ok) (hks : d.stepped.Ok) (hw : d.wait.length < 1000000) (hb : base ≤ w.heap.size) (hD : Disk w base L g d) (hR : Ref w base vl vw d) (hap : Apart L vl vw) (h2 : o.kind = 5) : Calls Try.prog 10 #[.pointer (some ⟨g, 0, none⟩), .agg (rc vl vw d).toArray, .agg o.cs.toArray] w (Did w base L g vl vw (d.act o)) := by
  have Hact : Hid (d.act o = d.setFuse o.at_) := by show _ = _; simp [Dk.act, h2]
  have o1 := own_one hR.last
  have o2 := own_one hR.wait
  have HD := Lib.hid hD
  have HR := Lib.hid hR
  have Hk := Lib.hid hk
  have Hap := Lib.hid hap
  clear hD hR hk hap
  go_enter Try.func10, Try.ntmps10
  go_wp2_with ((with_reducible refine at_box 32 ?_); refine wpList_box_rowV rfl 32 _ rfl (rc vl vw d) rfl ?_)
  intro w1 hr1 hb1 hs1
  go_wp2_with ((with_reducible refine at_box 39 ?_); refine wpList_box_rowV rfl 39 _ rfl o.cs rfl ?_)
  intro w2 hr2 hb2 hs2
  go_wp2_with ((with_reducible refine at_alloc 32 ?_); refine wpList_alloc_rowV rfl 32 rfl rc0 Try.zeroR ?_)
  intro w3 hr3 hb3 hs3
  have hr13 := (hr1.below (by omega) hb2).below (by omega) hb3
  have hr23 := hr2.below (by omega) hb3
  have hB3 : Below w.heap.size w w3 := hb1.trans ((hb2.mono (by omega)).trans (hb3.mono (by omega)))
  have hlt1 : w.heap.size < w.heap.size + 1 := by omega
  have hlt2 : w.heap.size + 1 < w.heap.size + 1 + 1 := by omega
  have hsz3 : w.heap.size + 1 + 1 < w3.heap.size := by omega
  clear hr1 hb1 hs1 hr2 hb2 hs2 hb3 hs3
  generalize hN2 : w.heap.size + 1 + 1 = N2 at *
  generalize hN1 : w.heap.size + 1 = N1 at *
  clear hN2 hN1
  have hD3 := HD.out.below hB3
  have hR3 := HR.out.below hB3
  have k0 := hr23.cell (i := 0) rfl
  have k1 := hr23.cell (i := 1) rfl
  have k2 := hr23.cell (i := 2) rfl
  have k3 := hr23.cell (i := 3) rfl
  rw [h2] at k0
  clear h2
  generalize hx : o.at_ = x at *
  go_wp2_with fail
  obtain ⟨vd, vw0, bm, hDA, hLf⟩ := hD3
  refine (dfuse_any w3 base g bm vd vw0 d x hDA).mono ?_
  rintro e w4 ⟨rfl, hDF, hg4⟩
  have hLw : ∀ k ∈ L, k < w.heap.size := fun k hk => (HD.out.lt hk).2
  have hgL : g ∈ L := by rw [hLf]; simp [mem_foot]
  have hgw := hLw g hgL
  have hr14 := hr13.keep hg4 (by intro e; injection e with e; omega)
  have hr24 := hr23.keep hg4 (by intro e; injection e with e; omega)
  have hr34 := hr3.keep hg4 (by intro e; injection e with e; omega)
  have qB : But L w.heap.size w w4 := (But.of L hB3).grown hg4 (by intro k e; injection e with e; left; rw [← e]; exact hgL) hB3.size
  have hR4 : Ref w4 base vl vw (d.setFuse x) := ⟨hR3.last.kept hg4 (.inr (fun e => Hap.out g (.inl e) hgL)), hR3.wait.kept hg4 (.inr (fun e => Hap.out g (.inr e) hgL))⟩
  have hsz4 : w3.heap.size ≤ w4.heap.size := hg4.size
  have k1' := hr24.cell (i := 1) rfl
  rw [hx] at k1'
  clear hr13 hr23 hr3 k0 k1 k2 k3 hDA hR3
  go_wp2_with ((with_reducible refine at_load 32 ?_); refine wpList_load_row rfl 32 _ rfl (w.heap.size) rfl 32 (rc vl vw d).toArray (0, 0) _ hr14 Try.underlying32 rfl (rc_size _ rfl) ?_)
  refine (rfuse_any w4 vl vw d x o1 o2).mono ?_
  rintro e w5 ⟨rfl, hb5⟩
  have hr35 := hr34.below (B := w4.heap.size) (by omega) hb5
  have qB5 : But L w.heap.size w w5 := qB.trans ((But.of L hb5).less qB.size)
  have qD5 : Disk w5 base L g (d.setFuse x) := ⟨vd, vw0, bm, hDF.below hb5, hLf⟩
  have qR5 := hR4.below hb5
  go_wp2_with ((with_reducible refine at_store 32 ?_); refine wpList_store_rowV rfl 32 _ _ rfl (N2) (rc vl vw (d.setFuse x)) rfl rfl 32 (rc0) hr35 (rc_size _ rfl) rfl (rc_all o1 o2) ?_)
  intro wD hrD hgD hsD
  go_wp2_with fail
  refine bodyPost_ret (results_cell_tmp (fn := Try.f10) rfl _ _ N2 32 _ (0, 0) _ rfl (.bool true) rfl hrD Try.underlying32 rfl (rc_size _ rfl)) rfl ?_
  rw [Hact.out]
  exact did_of qB5 (by omega) hr35 hgD qD5 qR5 (fun k hk => .inl hk) (fun h => by have := hLw _ h; omega) (Newer.refl _ _) (Newer.refl _ _) Hap.out

set_option maxRecDepth 100000 in
set_option maxHeartbeats 8000000 in
theorem do_else (w : World) (base g : Nat) (L : List Nat) (vl vw : Value) (d : Dk) (o : OpV) (hk : d.Ok) (hks : d.stepped.Ok) (hw : d.wait.length < 1000000) (hb : base ≤ w.heap.size) (hD : Disk w base L g d) (hR : Ref w base vl vw d) (hap : Apart L vl vw) (h2 : ¬ (o.kind = 0 ∨ o.kind = 1 ∨ o.kind = 2 ∨ o.kind = 3 ∨ o.kind = 4 ∨ o.kind = 5)) : Calls Try.prog 10 #[.pointer (some ⟨g, 0, none⟩), .agg (rc vl vw d).toArray, .agg o.cs.toArray] w (Did w base L g vl vw (d.act o)) := by
  have Hact : Hid (d.act o = d) := by
    show _ = _
    have h0 : ¬ (o.kind = 0 ∨ o.kind = 1) := by omega
    have h3 : o.kind ≠ 3 := by omega
    have h4 : o.kind ≠ 4 := by omega
    have h5 : o.kind ≠ 5 := by omega
    simp [Dk.act, h0, h3, h4, h5]
  have o1 := own_one hR.last
  have o2 := own_one hR.wait
  have HD := Lib.hid hD
  have HR := Lib.hid hR
  have Hk := Lib.hid hk
  have Hap := Lib.hid hap
  clear hD hR hk hap
  go_enter Try.func10, Try.ntmps10
  go_wp2_with ((with_reducible refine at_box 32 ?_); refine wpList_box_rowV rfl 32 _ rfl (rc vl vw d) rfl ?_)
  intro w1 hr1 hb1 hs1
  go_wp2_with ((with_reducible refine at_box 39 ?_); refine wpList_box_rowV rfl 39 _ rfl o.cs rfl ?_)
  intro w2 hr2 hb2 hs2
  go_wp2_with ((with_reducible refine at_alloc 32 ?_); refine wpList_alloc_rowV rfl 32 rfl rc0 Try.zeroR ?_)
  intro w3 hr3 hb3 hs3
  have hr13 := (hr1.below (by omega) hb2).below (by omega) hb3
  have hr23 := hr2.below (by omega) hb3
  have hB3 : Below w.heap.size w w3 := hb1.trans ((hb2.mono (by omega)).trans (hb3.mono (by omega)))
  have hlt1 : w.heap.size < w.heap.size + 1 := by omega
  have hlt2 : w.heap.size + 1 < w.heap.size + 1 + 1 := by omega
  have hsz3 : w.heap.size + 1 + 1 < w3.heap.size := by omega
  clear hr1 hb1 hs1 hr2 hb2 hs2 hb3 hs3
  generalize hN2 : w.heap.size + 1 + 1 = N2 at *
  generalize hN1 : w.heap.size + 1 = N1 at *
  clear hN2 hN1
  have hD3 := HD.out.below hB3
  have hR3 := HR.out.below hB3
  have k0 := hr23.cell (i := 0) rfl
  have k1 := hr23.cell (i := 1) rfl
  have k2 := hr23.cell (i := 2) rfl
  have k3 := hr23.cell (i := 3) rfl
  generalize hkd : o.kind = kd at *
  have e0 : (kd == 0) = false := by rw [beq_eq_false_iff_ne]; omega
  have e1 : (kd == 1) = false := by rw [beq_eq_false_iff_ne]; omega
  have e2 : (kd == 2) = false := by rw [beq_eq_false_iff_ne]; omega
  have e3 : (kd == 3) = false := by rw [beq_eq_false_iff_ne]; omega
  have e4 : (kd == 4) = false := by rw [beq_eq_false_iff_ne]; omega
  have e5 : (kd == 5) = false := by rw [beq_eq_false_iff_ne]; omega
  have hLw : ∀ k ∈ L, k < w.heap.size := fun k hk => (HD.out.lt hk).2
  clear h2
  go_wp2_with (first
    | ((with_reducible refine at_load 32 ?_); refine wpList_load_row rfl 32 _ rfl (w.heap.size) rfl 32 (rc vl vw d).toArray (0, 0) _ hr13 Try.underlying32 rfl (rc_size _ rfl) ?_)
    | ((with_reducible refine at_store 32 ?_); refine wpList_store_rowV rfl 32 _ _ rfl (N2) (rc vl vw d) rfl rfl 32 (rc0) hr3 (rc_size _ rfl) rfl (rc_all o1 o2) ?_))
  intro wD hrD hgD hsD
  go_wp2_with fail
  refine bodyPost_ret (results_cell_tmp (fn := Try.f10) rfl _ _ N2 32 _ (0, 0) _ rfl (.bool true) rfl hrD Try.underlying32 rfl (rc_size _ rfl)) rfl ?_
  rw [Hact.out]
  exact did_of (But.of L hB3) (by omega) hr3 hgD hD3 hR3 (fun k hk => .inl hk) (fun h => by have := hLw _ h; omega) (Newer.refl _ _) (Newer.refl _ _) Hap.out

/-- do, whatever the act. -/
theorem do_any (w : World) (base g : Nat) (L : List Nat) (vl vw : Value) (d : Dk) (o : OpV) (hk : d.Ok) (hks : d.stepped.Ok) (hw : d.wait.length < 1000000) (hb : base ≤ w.heap.size) (hD : Disk w base L g d) (hR : Ref w base vl vw d) (hap : Apart L vl vw) (hop : Bools w L (.slice o.A o.keep.length o.c) o.keep) : Calls Try.prog 10 #[.pointer (some ⟨g, 0, none⟩), .agg (rc vl vw d).toArray, .agg o.cs.toArray] w (Did w base L g vl vw (d.act o)) := by
  by_cases h01 : o.kind = 0 ∨ o.kind = 1
  · exact do_write w base g L vl vw d o hk hks hw hb hD hR hap h01
  by_cases h2 : o.kind = 2
  · exact do_read w base g L vl vw d o hk hks hw hb hD hR hap h2
  by_cases h3 : o.kind = 3
  · exact do_flush w base g L vl vw d o hk hks hw hb hD hR hap h3
  by_cases h4 : o.kind = 4
  · exact do_crash w base g L vl vw d o hk hks hw hb hD hR hap hop h4
  by_cases h5 : o.kind = 5
  · exact do_fuse w base g L vl vw d o hk hks hw hb hD hR hap h5
  exact do_else w base g L vl vw d o hk hks hw hb hD hR hap (by omega)
end Go.Proofs.Ytamjkmelfpdhiaa
