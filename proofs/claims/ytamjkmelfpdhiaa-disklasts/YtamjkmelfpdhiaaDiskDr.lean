/-
  Layer 6: the contract of do: reads.
-/
import Derived.Test.YtamjkmelfpdhiaaDiskDo
namespace Go.Proofs.Ytamjkmelfpdhiaa
open Go.RowKit Go.Maps
set_option linter.unusedVariables false
set_option linter.unusedSimpArgs false

set_option maxRecDepth 100000 in
set_option maxHeartbeats 8000000 in
theorem do_read (w : World) (base g : Nat) (L : List Nat) (vl vw : Value) (d : Dk) (o : OpV) (hk : d.Ok) (hks : d.stepped.Ok) (hw : d.wait.length < 1000000) (hb : base ≤ w.heap.size) (hD : Disk w base L g d) (hR : Ref w base vl vw d) (hap : Apart L vl vw) (h2 : o.kind = 2) : Calls Try.prog 10 #[.pointer (some ⟨g, 0, none⟩), .agg (rc vl vw d).toArray, .agg o.cs.toArray] w (Did w base L g vl vw (d.act o)) := by
  have Hact : Hid (d.act o = d) := by show _ = _; simp [Dk.act, h2]
  have o1 := own_one hR.last
  have o2 := own_one hR.wait
  have HD := Lib.hid hD
  have HR := Lib.hid hR
  have Hk := Lib.hid hk
  have Hap := Lib.hid hap
  clear hD hR hk hap
  go_enter Try.func10, Try.ntmps10
  go_wp2_with ((with_reducible refine at_box 32 ?_); refine wpList_box_rowV rfl 32 _ rfl (rc vl vw d) rfl ?_)
  intro w1 hr1 hb1 hs1
  go_wp2_with ((with_reducible refine at_box 39 ?_); refine wpList_box_rowV rfl 39 _ rfl o.cs rfl ?_)
  intro w2 hr2 hb2 hs2
  go_wp2_with ((with_reducible refine at_alloc 32 ?_); refine wpList_alloc_rowV rfl 32 rfl rc0 Try.zeroR ?_)
  intro w3 hr3 hb3 hs3
  have hr13 := (hr1.below (by omega) hb2).below (by omega) hb3
  have hr23 := hr2.below (by omega) hb3
  have hB3 : Below w.heap.size w w3 := hb1.trans ((hb2.mono (by omega)).trans (hb3.mono (by omega)))
  have hlt1 : w.heap.size < w.heap.size + 1 := by omega
  have hlt2 : w.heap.size + 1 < w.heap.size + 1 + 1 := by omega
  have hsz3 : w.heap.size + 1 + 1 < w3.heap.size := by omega
  clear hr1 hb1 hs1 hr2 hb2 hs2 hb3 hs3
  generalize hN2 : w.heap.size + 1 + 1 = N2 at *
  generalize hN1 : w.heap.size + 1 = N1 at *
  clear hN2 hN1
  have hD3 := HD.out.below hB3
  have hR3 := HR.out.below hB3
  have k0 := hr23.cell (i := 0) rfl
  have k1 := hr23.cell (i := 1) rfl
  have k2 := hr23.cell (i := 2) rfl
  have k3 := hr23.cell (i := 3) rfl
  rw [h2] at k0
  clear h2
  generalize hx : o.at_ = x at *
  go_wp2_with ((with_reducible refine at_load 32 ?_); refine wpList_load_row rfl 32 _ rfl (w.heap.size) rfl 32 (rc vl vw d).toArray (0, 0) _ hr13 Try.underlying32 rfl (rc_size _ rfl) ?_)
  refine (rread_any w3 base vl vw d x Hk.out hR3).mono ?_
  rintro e w4 ⟨rfl, hb4⟩
  have hsz4 : w3.heap.size ≤ w4.heap.size := hb4.size
  have hr14 := hr13.below (B := w3.heap.size) (by omega) hb4
  have hr24 := hr23.below (B := w3.heap.size) (by omega) hb4
  have hr34 := hr3.below (B := w3.heap.size) (by omega) hb4
  have hD4 := hD3.below hb4
  have hR4 := hR3.below hb4
  have hB4 : Below w.heap.size w w4 := hB3.trans (hb4.mono (by omega))
  clear hr13 hr23 hr3 hD3 hR3 hb4 k0 k1 k2 k3 hB3
  generalize hrd : (d.read x).1 = s at *
  have Hrd := Lib.hid hrd
  clear hrd
  go_wp2_with ((with_reducible refine at_alloc 43 ?_); refine wpList_alloc_rowV rfl 43 rfl zeroSec.cs Try.zeroS ?_)
  intro w5 hr5 hb5 hs5
  have hr15 := hr14.below (B := w4.heap.size) (by omega) hb5
  have hr25 := hr24.below (B := w4.heap.size) (by omega) hb5
  have hr35 := hr34.below (B := w4.heap.size) (by omega) hb5
  have hD5 := hD4.below hb5
  have hR5 := hR4.below hb5
  have hB5 : Below w.heap.size w w5 := hB4.trans (hb5.mono (by omega))
  clear hr14 hr24 hr34 hD4 hR4 hB4 hb5
  generalize hM1 : w4.heap.size = M1 at *
  go_wp2_with ((with_reducible refine at_store 43 ?_); refine wpList_store_rowV rfl 43 _ _ rfl (M1) (s.cs) rfl rfl 43 (zeroSec.cs) hr5 (sec_size' _) (sec_same _ _) (sec_all _) ?_)
  intro w6 hr6 hg6 hs6
  have hg6b : Below M1 w5 w6 := below_grown (Below.refl _ _) hg6 (Nat.le_refl _) (by omega)
  have hr16 := hr15.keep hg6 (by intro e; injection e with e; omega)
  have hr26 := hr25.keep hg6 (by intro e; injection e with e; omega)
  have hr36 := hr35.keep hg6 (by intro e; injection e with e; omega)
  have hLw : ∀ k ∈ L, k < w.heap.size := fun k hk => (HD.out.lt hk).2
  have hD6 : Disk w6 base L g d := hD5.but ((But.refl [M1] _ w5).grown hg6 (by intro k e; injection e with e; simp [e]) (Nat.le_refl _)) (fun k hk => ⟨by have := hLw k hk; omega, by simp; have := hLw k hk; omega⟩)
  have hB6 : Below w.heap.size w w6 := below_grown hB5 hg6 (by omega) hB5.size
  have hsz6 : M1 < w6.heap.size := hr6.lt
  have hR6 : Ref w6 base vl vw d := ⟨hR5.last.kept hg6 (.inr (by intro e; have := (HR.out.last.lt _ e).2; omega)), hR5.wait.kept hg6 (.inr (by intro e; have := (HR.out.wait.lt _ e).2; omega))⟩
  have k1' := hr26.cell (i := 1) rfl
  rw [hx] at k1'
  clear hr15 hr25 hr35 hD5 hR5 hB5 hg6 hg6b
  go_wp2_with fail
  obtain ⟨vd, vw0, bm, hDA, hLf⟩ := hD6
  refine (dread_any w6 base g bm vd vw0 d x Hk.out hDA).mono ?_
  rintro e w7 ⟨rfl, hb7⟩
  rw [Hrd.out]
  have hsz7 : w6.heap.size ≤ w7.heap.size := hb7.size
  have hr17 := hr16.below (B := w6.heap.size) (by omega) hb7
  have hr37 := hr36.below (B := w6.heap.size) (by omega) hb7
  have hr67 := hr6.below (B := w6.heap.size) (by omega) hb7
  have hD7 : Disk w7 base L g d := ⟨vd, vw0, bm, hDA.below hb7, hLf⟩
  have hR7 := hR6.below hb7
  have hB7 : Below w.heap.size w w7 := hB6.trans (hb7.mono (by omega))
  clear hr16 hr26 hr36 hr6 hDA hR6 hB6 hb7 k1'
  go_wp2_with ((with_reducible refine at_alloc 43 ?_); refine wpList_alloc_rowV rfl 43 rfl zeroSec.cs Try.zeroS ?_)
  intro w8 hr8 hb8 hs8
  have hr18 := hr17.below (B := w7.heap.size) (by omega) hb8
  have hr38 := hr37.below (B := w7.heap.size) (by omega) hb8
  have hr68 := hr67.below (B := w7.heap.size) (by omega) hb8
  have hD8 := hD7.below hb8
  have hR8 := hR7.below hb8
  have hB8 : Below w.heap.size w w8 := hB7.trans (hb8.mono (by omega))
  clear hr17 hr37 hr67 hD7 hR7 hB7 hb8
  generalize hM2 : w7.heap.size = M2 at *
  go_wp2_with ((with_reducible refine at_store 43 ?_); refine wpList_store_rowV rfl 43 _ _ rfl (M2) (s.cs) rfl rfl 43 (zeroSec.cs) hr8 (sec_size' _) (sec_same _ _) (sec_all _) ?_)
  intro w9 hr9 hg9 hs9
  have q1 : RowV w9.drew w.heap.size 32 (rc vl vw d) := (hr18.keep hg9 (by intro e; injection e with e; omega) : RowV w9 _ _ _)
  have q3 : RowV w9.drew N2 32 rc0 := (hr38.keep hg9 (by intro e; injection e with e; omega) : RowV w9 _ _ _)
  have q6 : RowV w9.drew M1 43 s.cs := (hr68.keep hg9 (by intro e; injection e with e; omega) : RowV w9 _ _ _)
  have q9 : RowV w9.drew M2 43 s.cs := hr9
  have qD : Disk w9.drew base L g d := (hD8.but ((But.refl [M2] _ w8).grown hg9 (by intro k e; injection e with e; simp [e]) (Nat.le_refl _)) (fun k hk => ⟨by have := hLw k hk; omega, by simp; have := hLw k hk; omega⟩)).drew
  have qR : Ref w9.drew base vl vw d := ⟨(hR8.last.kept hg9 (.inr (by intro e; have := (HR.out.last.lt _ e).2; omega))).drew, (hR8.wait.kept hg9 (.inr (by intro e; have := (HR.out.wait.lt _ e).2; omega))).drew⟩
  have qB : But L w.heap.size w w9.drew := (But.of L (below_grown hB8 hg9 (by omega) hB8.size)).drew
  have hl0 : w.heap.size < w9.drew.heap.size := by show _ < w9.heap.size; omega
  have hl6 : M1 < w9.drew.heap.size := by show _ < w9.heap.size; omega
  have hl9 : M2 < w9.drew.heap.size := by show _ < w9.heap.size; omega
  have hl3 : N2 < w9.drew.heap.size := by show _ < w9.heap.size; omega
  clear hr18 hr38 hr68 hD8 hR8 hB8 hg9 hr9
  go_wp2_with fail
  refine wp_region_held_drew (S := fun W => But [N2] w9.drew.heap.size w9.drew W) (by kernel_rfl) (But.refl _ _ _) (fun hHeld => ?_)
  generalize w9.drew = wd at *
  refine wpAnyH_take (i := 0) (oi := ⟨_, _, _, _, _, _⟩) (v := ?_) rfl (by kernel_rfl) (by kernel_rfl) (by kernel_rfl) (fun _ _ _ h => h) (Or.inl ⟨by rfl, ?_⟩) (by assumption) ?_
  rotate_left
  · intro W hSW; refine exec_rc (.tmp 4) ?_ w.heap.size ?_ (rc vl vw d) rfl (rowV_but q1 hSW hl0 (by simp; omega)) <;> rfl
  try simp only [Act.put, List.setIfInBounds_toArray, List.set_cons_zero, List.set_cons_succ]
  refine wpAnyH_take (i := 1) (oi := ⟨_, _, _, _, _, _⟩) (v := ?_) rfl (by kernel_rfl) (by kernel_rfl) (by kernel_rfl) (fun _ _ _ h => h) (Or.inl ⟨by rfl, ?_⟩) (by assumption) ?_
  rotate_left
  · intro W hSW; refine exec_load_mid 43 (.tmp 10) ?_ M1 0 ?_ s.cs _ (row_range (rowV_but q6 hSW hl6 (by simp; omega))) Try.underlying43 rfl (sec_size _) <;> rfl
  try simp only [Act.put, List.setIfInBounds_toArray, List.set_cons_zero, List.set_cons_succ]
  refine wpAnyH_take (i := 2) (oi := ⟨_, _, _, _, _, _⟩) (v := ?_) rfl (by kernel_rfl) (by kernel_rfl) (by kernel_rfl) (fun _ _ _ h => h) (Or.inl ⟨by rfl, ?_⟩) (by assumption) ?_
  rotate_left
  · intro W hSW; refine exec_load_mid 43 (.tmp 12) ?_ M2 0 ?_ s.cs _ (row_range (rowV_but q9 hSW hl9 (by simp; omega))) Try.underlying43 rfl (sec_size _) <;> rfl
  try simp only [Act.put, List.setIfInBounds_toArray, List.set_cons_zero, List.set_cons_succ]
  refine wpAnyH_take (i := 3) (oi := ⟨_, _, _, _, _, _⟩) (v := .bool true) rfl (by kernel_rfl) (by kernel_rfl) (by kernel_rfl) (fun _ _ _ h => h) (Or.inl ⟨by rfl, ?_⟩) (by assumption) ?_
  · intro W hSW; refine (exec_eql_bytes 43 (.tmp 60) (.tmp 61) 43 ?_ Try.underlying43 Try.underlying5 Try.cells5' Try.guardS (xs := s.1) (ys := s.1) ?_ ?_ s.2 s.2).trans (by rw [beq_self_eq_true]) <;> rfl
  try simp only [Act.put, List.setIfInBounds_toArray, List.set_cons_zero, List.set_cons_succ]
  refine wpAnyH_take (i := 4) (oi := ⟨_, _, _, _, _, _⟩) (v := ?_) rfl (by kernel_rfl) (by kernel_rfl) (by kernel_rfl) (fun _ _ _ h => h) (Or.inl ⟨by rfl, ?_⟩) (by assumption) ?_
  rotate_left
  · intro W hSW; (try dsimp only at hSW); go_simp; try with_reducible rfl
  try simp only [Act.put, List.setIfInBounds_toArray, List.set_cons_zero, List.set_cons_succ]
  refine wpAnyH_take (i := 5) (oi := ⟨_, _, _, _, _, _⟩) (v := ?_) rfl (by kernel_rfl) (by kernel_rfl) (by kernel_rfl) (fun _ _ _ h => h) (Or.inl ⟨by rfl, ?_⟩) (by assumption) ?_
  rotate_left
  · intro W hSW; (try dsimp only at hSW); go_simp; try with_reducible rfl
  try simp only [Act.put, List.setIfInBounds_toArray, List.set_cons_zero, List.set_cons_succ]
  refine wpAnyH_take (i := 6) (oi := ⟨_, _, _, _, _, _⟩) (v := ?_) rfl (by kernel_rfl) (by kernel_rfl) (by kernel_rfl) (fun _ _ _ h => h) (Or.inl ⟨by rfl, ?_⟩) (by assumption) ?_
  rotate_left
  · intro W hSW; (try dsimp only at hSW); go_simp; try with_reducible rfl
  try simp only [Act.put, List.setIfInBounds_toArray, List.set_cons_zero, List.set_cons_succ]
  refine wpAnyH_take (i := 7) (oi := ⟨_, _, _, _, _, _⟩) (v := ?_) rfl (by kernel_rfl) (by kernel_rfl) (by kernel_rfl) (fun _ _ _ h => h) (Or.inl ⟨by rfl, ?_⟩) (by assumption) ?_
  rotate_left
  · intro W hSW; (try dsimp only at hSW); go_simp; try with_reducible rfl
  try simp only [Act.put, List.setIfInBounds_toArray, List.set_cons_zero, List.set_cons_succ]
  refine wpAnyH_take (i := 8) (oi := ⟨_, _, _, _, _, _⟩) (v := ?_) rfl (by kernel_rfl) (by kernel_rfl) (by kernel_rfl) (fun _ _ _ h => h) (Or.inl ⟨by rfl, ?_⟩) (by assumption) ?_
  rotate_left
  · intro W hSW; (try dsimp only at hSW); go_simp; try with_reducible rfl
  try simp only [Act.put, List.setIfInBounds_toArray, List.set_cons_zero, List.set_cons_succ]
  refine wpAnyH_ready (rs := [9]) (by kernel_rfl) (by simp) ?_
  refine AllReadyH.cons (o := ⟨_, _, _, _, _, _⟩) rfl (fun K hK => ?_) AllReadyH.nil
  refine ite_yes rfl ?_
  refine wp_store_rc (.tmp 6) (.tmp 59) rfl N2 (rc vl vw d) rc0 rfl rfl q3 rfl rfl (rc_all o1 o2) ?_
  intro wD hrD hgD hsD
  have SD : But [N2] wd.heap.size wd wD := (But.refl _ _ wd).grown hgD (by intro k e; injection e with e; left; simp [e]) (Nat.le_refl _)
  refine hK.out _ _ SD (fun hHeld => ?_)
  clear hK K
  try simp only [Act.put, List.setIfInBounds_toArray, List.set_cons_zero, List.set_cons_succ]
  refine wpAnyH_take (i := 10) (oi := ⟨_, _, _, _, _, _⟩) (v := ?_) rfl (by kernel_rfl) (by kernel_rfl) (by kernel_rfl) (fun _ _ _ h => h) (Or.inl ⟨by rfl, ?_⟩) (by assumption) ?_
  rotate_left
  · intro W hSW; (try dsimp only at hSW); go_simp; try with_reducible rfl
  try simp only [Act.put, List.setIfInBounds_toArray, List.set_cons_zero, List.set_cons_succ]
  refine wpAnyH_done (by kernel_rfl) ?_ _
  go_wp2_with fail
  refine bodyPost_ret (results_cell_tmp (fn := Try.f10) rfl _ _ N2 32 _ (0, 0) _ rfl (.bool true) rfl hrD Try.underlying32 rfl (rc_size _ rfl)) rfl ?_
  rw [Hact.out]
  exact did_of qB (by omega) q3 hgD qD qR (fun k hk => .inl hk) (fun h => by have := hLw _ h; omega) (Newer.refl _ _) (Newer.refl _ _) Hap.out
end Go.Proofs.Ytamjkmelfpdhiaa
