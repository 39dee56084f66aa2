/-
  Layer 13: the laws' own works.
-/
import Derived.Test.YtmcbpifkclhfiaaDoorPkChkI
import Derived.Test.YtmcbpifkclhfiaaDoorPkRSame
import Derived.Test.YtmcbpifkclhfiaaDoorPkChkC
namespace Go.Proofs.YtmcbpifkclhfiaaDoor
open Go.RowKit
set_option linter.unusedVariables false
set_option linter.unusedSimpArgs false

theorem Tryd.cells5k : Tryd.prog.cellsOf 5 = 1 := by kernel_rfl
theorem Tryd.guardA13 : Tryd.prog.eqGuardType Tryd.prog.depth 37 = false := by kernel_rfl
theorem Tryd.infoS13 : (Tryd.prog.info? 42).map (fun i => (i.zero, i.size, i.bytes)) = some (some (.agg zeroSec.cs.toArray), 256, 256) := by kernel_rfl
/-- A row of two values of many cells, built. -/
theorem wpList_buildSlice_two {P : Program} {w : World} {ops : Array Oper} {rest : List Oper} {o : Oper} {a : Act} {Q : Exit → Act → World → Prop} (hgd : o.guard = none) (t e : TypeId) (x y : Operand) (ho : o.op = .buildSlice t 2 #[(0, x), (1, y)]) (cs ds : List Value) (hx : a.eval x = .agg cs.toArray) (hy : a.eval y = .agg ds.toArray)
    (hu : P.underlying t = some (.slice e)) {z : Value} {size bytes : Nat} (hi : (P.info? e).map (fun i => (i.zero, i.size, i.bytes)) = some (some z, size, bytes)) (hl : cs.length = size) (hl2 : ds.length = size) (h0 : 0 < size) (h1 : 2 * size ≤ 16777216)
    (h : ∀ w', RowV w' w.heap.size e (cs ++ ds) → Below w.heap.size w w' → w'.heap.size = w.heap.size + 1 → wpList P ops Q rest (a.put o.dst (.slice (some ⟨w.heap.size, 0, none⟩) 2 2)) w') : wpList P ops Q (o :: rest) a w := by
  obtain ⟨i, hie, hz, hs, hb⟩ := info_parts hi
  refine wpList_buildSlice hgd t e 2 _ ho (cs ++ ds).toArray i z hu hie hz (by rw [hs]; omega) (by rw [hs]; omega) ?_ (h _ (RowV.new w e (cs ++ ds)) ((Below.refl _ _).alloc (Nat.le_refl _) _) (by simp))
  rw [hs]
  simp only [List.map_toArray, List.map_cons, List.map_nil, hx, hy]
  obtain ⟨zs, hzs⟩ : ∃ zs : List Value, ((Array.range (2 * size)).map (z.cells[· % z.cells.size]!)).toList = zs := ⟨_, rfl⟩
  have hlen : zs.length = 2 * size := by rw [← hzs]; simp
  have e0 : (Array.range (2 * size)).map (z.cells[· % z.cells.size]!) = zs.toArray := by rw [← hzs, Array.toArray_toList]
  rw [e0, fill_part (fun i => some (i * size, size)) zs 0 (.agg cs.toArray) cs [(1, .agg ds.toArray)] 0 size (by simp) rfl hl (by rw [hlen]; omega)]
  have hz2 : zs = [] ++ (zs.take size ++ zs.drop size) := by simp
  have h3 := putL_mid cs [] (zs.take size) (zs.drop size) (by rw [List.length_take, hlen, hl]; omega)
  rw [List.nil_append, List.nil_append, List.length_nil, List.take_append_drop] at h3
  rw [h3, fill_part (fun i => some (i * size, size)) (cs ++ zs.drop size) 1 (.agg ds.toArray) ds [] size size (by simp) rfl hl2 (by rw [List.length_append, List.length_drop, hlen, hl]; omega)]
  have h4 := putL_mid ds cs (zs.drop size) [] (by rw [List.length_drop, hlen, hl2]; omega)
  rw [List.append_nil, List.append_nil, hl] at h4
  rw [h4, Instr.fill]

/-- The example's sectors, and what they are joined to. -/
def exS (i : Nat) : Sec := ⟨wholeB (chunkK exB i), wholeB_length _⟩
theorem exB_length : exB.length = 300 := by unfold exB; rw [List.length_append, List.length_replicate]; rfl
theorem exB_made : (cells (fill [] 300)).set 299 (.int .u8 7) = cells exB := by kernel_rfl
theorem ex_flat : flatS [exS 0, exS 1] = exB ++ List.replicate 212 0 := by decide +kernel
theorem exJ300 : joinC 300 [exS 0, exS 1] = 0 ∧ joinB 300 [exS 0, exS 1] = exB := by
  have h := joinC_yes (s := 300) (l := [exS 0, exS 1]) (by omega) rfl (by rw [ex_flat]; decide +kernel)
  rw [ex_flat] at h
  exact ⟨h.1, h.2.trans (by decide +kernel)⟩
theorem exJ299 : joinC 299 [exS 0, exS 1] = 5 ∧ joinB 299 [exS 0, exS 1] = [] := joinC_bad (by omega) rfl (by rw [ex_flat]; decide +kernel)
theorem exJ256 : joinC 256 [exS 0, exS 1] = 1 ∧ joinB 256 [exS 0, exS 1] = [] := joinC_arg (by omega) (by decide)
theorem exC0 : (chunkK exB 0).length = 256 := by rw [chunkK_length, exB_length]; rfl
theorem exC1 : (chunkK exB 1).length = 44 := by rw [chunkK_length, exB_length]; rfl
theorem exText : shaB (wordsK 300 (adrsK exB)) = textK exB := by unfold textK; rw [exB_length]; rfl
def Works13 : Prop := ∀ w : World, Tab w → Calls Tryd.prog 6 #[] w fun e w' => e = .returned (.bool true) ∧ Below w.heap.size w w'

set_option maxRecDepth 100000 in
set_option maxHeartbeats 8000000 in
theorem works13_any : Works13 := by
  intro w hT
  obtain ⟨i0, hi, hz0, hz1, hz2⟩ := info_parts Tryd.info5
  obtain ⟨N, hN⟩ : ∃ N, w.heap.size = N := ⟨_, rfl⟩
  have hNw : N ≤ w.heap.size := by omega
  go_enter Tryd.func6, Tryd.ntmps6
  go_wp2_with (at_make; refine wpList_make_full _ rfl _ _ 22 rfl w.heap.size 5 i0 (.int .u8 0) 1 Tryd.underlying22 hi hz0 hz1 _ _ _ _ 300 rfl rfl (by omega) (by omega) (by rw [hz2]; omega) (by unfold maxLen; omega) (Nat.le_refl _) ?_)
  intro w1 hown hgrow
  have hb1 : Below N w w1 := (Below.refl _ _).grown hgrow hNw (by simp)
  rw [fill_made] at hown
  have hcell : ∃ v, w1.cell? ⟨N, 299, none⟩ = some v := by
    rw [hown.cellAt 299 (by omega)]
    exact ⟨_, List.getElem?_eq_getElem (by rw [cells_length, fill_length (by simp)]; omega)⟩
  obtain ⟨v0, hc0⟩ := hcell
  have hf0 := hown.frozenAt 299
  have R := hown.stored 299 (.int .u8 7)
  rw [exB_made] at R
  have hb2 := hb1.setCell (p := ⟨N, 299, none⟩) (Nat.le_refl _) (.int .u8 7)
  go_wp2_with fail
  clear hc0 hf0 hown hgrow hb1
  obtain ⟨w2, hw2⟩ : ∃ w2, w1.setCell ⟨N, 299, none⟩ (.int .u8 7) = w2 := ⟨_, rfl⟩
  rw [hw2] at R hb2 ⊢
  have ho2 := R.1
  obtain ⟨A2, c2, hv2, h21, h22, h23, hlx2⟩ := Lies.of_own ho2
  injection hv2 with e1 e2 e3
  subst e1 e3
  have hg2 : N < w2.heap.size := own_lt ho2 rfl
  have hT2 := hT.belowN (by have := hT.pos; omega) (hN ▸ hb2)
  clear R hw2 ho2 e2 h21 h22 h23
  refine (ksplit_any (some ⟨N, 0, none⟩) 300 300 exB w2 w2.heap.size hlx2 (Nat.le_refl _) exB_length.symm (by omega)).mono ?_
  rintro e w3 ⟨L, ps, cl, rfl, hps, hpa, hcl, hb3⟩
  rw [show countK 300 = 2 from rfl] at hcl ⊢
  have hlen : ps.length = 2 := by have := pieces_len hps; rwa [exB_length] at this
  obtain ⟨b3, o3, p0, rfl, hp0, hc30, hk0⟩ := hpa.at_ (k := 0) (by omega)
  obtain ⟨b3', o3', p1, hL', hp1, hc31, hk1⟩ := hpa.at_ (k := 1) (by omega)
  injection hL' with hL'
  injection hL' with e1 e2
  subst e1 e2
  have hx0 : p0.xs = chunkK exB 0 := by
    have : (ps.map Piece.xs)[0]? = some p0.xs := by rw [List.getElem?_map, hp0]; rfl
    rw [hps, chunksK_get (by rw [exB_length]; decide)] at this
    exact (Option.some.inj this).symm
  have hx1 : p1.xs = chunkK exB 1 := by
    have : (ps.map Piece.xs)[1]? = some p1.xs := by rw [List.getElem?_map, hp1]; rfl
    rw [hps, chunksK_get (by rw [exB_length]; decide)] at this
    exact (Option.some.inj this).symm
  obtain ⟨A0, n0, c0, x0⟩ := p0
  obtain ⟨A1, n1, c1, x1⟩ := p1
  simp only at hx0 hx1 hc30 hc31
  subst hx0 hx1
  obtain ⟨hl0, hn0, hnc0, hcm0⟩ := hk0
  obtain ⟨hl1, hn1, hnc1, hcm1⟩ := hk1
  simp only [exC0] at hl0 hn0 hnc0 hcm0
  simp only [exC1] at hl1 hn1 hnc1 hcm1
  subst hn0 hn1
  have hb3l : b3 < w3.heap.size := World.block_lt_of_cell? w3 ⟨b3, o3 + 0, none⟩ hc30
  rw [Nat.add_zero] at hc30
  have hT3 := hT2.below hb3
  have hB3 : Below N w w3 := hb2.trans (hb3.mono (by omega))
  have hlx3 := (hlx2.below hb3).le (B' := w3.heap.size) hb3.size
  have hz3 : N ≤ w3.heap.size := Nat.le_trans (by omega) hB3.size
  clear hps hpa hp0 hp1 hlen hT2 hb2 hb3 hlx2 hg2 hcl
  go_wp2_with fail
  have hTd : Tab w3.drew := hT3
  have hBd : Below N w w3.drew := hB3.drew
  have hxd : Lies w3.drew w3.drew.heap.size (some ⟨N, 0, none⟩) exB := hlx3
  have h0d : Lies w3.drew w3.drew.heap.size A0 (chunkK exB 0) := hl0
  have h1d : Lies w3.drew w3.drew.heap.size A1 (chunkK exB 1) := hl1
  have c0d : w3.drew.cell? ⟨b3, o3, none⟩ = some (.slice A0 256 c0) := hc30
  have c1d : w3.drew.cell? ⟨b3, o3 + 1, none⟩ = some (.slice A1 44 c1) := hc31
  have b3d : b3 < w3.drew.heap.size := hb3l
  have hzd : N ≤ w3.drew.heap.size := hz3
  refine wp_region_held_drew (S := fun W => Below w3.drew.heap.size w3.drew W) (by kernel_rfl) (Below.refl _ _) (fun hHeld => ?_)
  generalize w3.drew = wd at *
  clear hT3 hB3 hlx3 hl0 hl1 hc30 hc31 hb3l hz3
  have hSc : Below wd.heap.size wd wd := Below.refl _ _
  refine wpAnyH_take (i := 0) (oi := ⟨_, _, _, _, _, _⟩) (v := ?_) rfl (by kernel_rfl) (by kernel_rfl) (by kernel_rfl) (fun _ _ _ h => h) (Or.inl ⟨by rfl, ?_⟩) (by assumption) ?_
  rotate_left
  · intro W hSW; go_simp; try with_reducible rfl
  try simp only [Act.put, List.setIfInBounds_toArray, List.set_cons_zero, List.set_cons_succ]
  refine wpAnyH_take (i := 1) (oi := ⟨_, _, _, _, _, _⟩) (v := ?_) rfl (by kernel_rfl) (by kernel_rfl) (by kernel_rfl) (fun _ _ _ h => h) (Or.inl ⟨by rfl, ?_⟩) (by assumption) ?_
  rotate_left
  · intro W hSW; go_simp; try with_reducible rfl
  try simp only [Act.put, List.setIfInBounds_toArray, List.set_cons_zero, List.set_cons_succ]
  refine wpAnyH_take (i := 2) (oi := ⟨_, _, _, _, _, _⟩) (v := ?_) rfl (by kernel_rfl) (by kernel_rfl) (by kernel_rfl) (fun _ _ _ h => h) (Or.inl ⟨by rfl, ?_⟩) (by assumption) ?_
  rotate_left
  · intro W hSW; have hcW := (hSW.cell (p := ⟨b3, o3, none⟩) b3d).trans c0d; go_simp; try with_reducible rfl
  try simp only [Act.put, List.setIfInBounds_toArray, List.set_cons_zero, List.set_cons_succ]
  refine wpAnyH_take (i := 4) (oi := ⟨_, _, _, _, _, _⟩) (v := ?_) rfl (by kernel_rfl) (by kernel_rfl) (by kernel_rfl) (fun _ _ _ h => h) (Or.inl ⟨by rfl, ?_⟩) (by assumption) ?_
  rotate_left
  · intro W hSW; go_simp; try with_reducible rfl
  try simp only [Act.put, List.setIfInBounds_toArray, List.set_cons_zero, List.set_cons_succ]
  refine wpAnyH_take (i := 5) (oi := ⟨_, _, _, _, _, _⟩) (v := ?_) rfl (by kernel_rfl) (by kernel_rfl) (by kernel_rfl) (fun _ _ _ h => h) (Or.inl ⟨by rfl, ?_⟩) (by assumption) ?_
  rotate_left
  · intro W hSW; go_simp; try with_reducible rfl
  try simp only [Act.put, List.setIfInBounds_toArray, List.set_cons_zero, List.set_cons_succ]
  refine wpAnyH_take (i := 6) (oi := ⟨_, _, _, _, _, _⟩) (v := ?_) rfl (by kernel_rfl) (by kernel_rfl) (by kernel_rfl) (fun _ _ _ h => h) (Or.inl ⟨by rfl, ?_⟩) (by assumption) ?_
  rotate_left
  · intro W hSW; have hcW := (hSW.cell (p := ⟨b3, o3 + 1, none⟩) b3d).trans c1d; go_simp; try with_reducible rfl
  try simp only [Act.put, List.setIfInBounds_toArray, List.set_cons_zero, List.set_cons_succ]
  refine wpAnyH_ready (rs := [3]) (by kernel_rfl) (by simp) ?_
  refine AllReadyH.cons (o := ⟨_, _, _, _, _, _⟩) rfl (fun K hK => ?_) AllReadyH.nil
  go_simp
  refine (ksector_any A0 256 c0 (chunkK exB 0) wd wd.heap.size h0d exC0.symm (Nat.le_refl _)).mono ?_
  rintro e wp1 ⟨rfl, hb⟩
  try simp only []
  have hSwp1 := hSc.trans (hb.mono hSc.size)
  refine hK.out _ _ hSwp1 (fun hHeld => ?_)
  clear hK K hb hSc
  have hSc := hSwp1
  clear hSwp1
  try simp only [Act.put, List.setIfInBounds_toArray, List.set_cons_zero, List.set_cons_succ]
  refine wpAnyH_ready (rs := [7]) (by kernel_rfl) (by simp) ?_
  refine AllReadyH.cons (o := ⟨_, _, _, _, _, _⟩) rfl (fun K hK => ?_) AllReadyH.nil
  go_simp
  refine (ksector_any A1 44 c1 (chunkK exB 1) wp1 wd.heap.size (h1d.below hSc) exC1.symm hSc.size).mono ?_
  rintro e wp2 ⟨rfl, hb⟩
  try simp only []
  have hSwp2 := hSc.trans (hb.mono hSc.size)
  refine hK.out _ _ hSwp2 (fun hHeld => ?_)
  clear hK K hb hSc
  have hSc := hSwp2
  clear hSwp2
  try simp only [Act.put, List.setIfInBounds_toArray, List.set_cons_zero, List.set_cons_succ]
  refine wpAnyH_ready (rs := [8]) (by kernel_rfl) (by simp) ?_
  refine AllReadyH.cons (o := ⟨_, _, _, _, _, _⟩) rfl (fun K hK => ?_) AllReadyH.nil
  refine step_of_list rfl (fun Q2 hQ2 => ?_)
  refine wpList_buildSlice_two rfl 41 42 _ _ rfl (exS 0).cs (exS 1).cs rfl rfl Tryd.underlying41 Tryd.infoS13 (Sec.cs_length _) (Sec.cs_length _) (by decide) (by decide) ?_
  intro w5 hr5 hb5 hs5
  refine wpList_nil (hQ2 _ _ ?_)
  have hS5 : Below wd.heap.size wd w5 := hSc.trans (hb5.mono hSc.size)
  refine hK.out _ _ hS5 (fun hHeld => ?_)
  try clear hQ2
  clear hK K hSc
  try simp only [Act.put, List.setIfInBounds_toArray, List.set_cons_zero, List.set_cons_succ]
  refine wpAnyH_take (i := 9) (oi := ⟨_, _, _, _, _, _⟩) (v := ?_) rfl (by kernel_rfl) (by kernel_rfl) (by kernel_rfl) (fun _ _ _ h => h) (Or.inl ⟨by rfl, ?_⟩) (by assumption) ?_
  rotate_left
  · intro W hSW; go_simp; try with_reducible rfl
  try simp only [Act.put, List.setIfInBounds_toArray, List.set_cons_zero, List.set_cons_succ]
  refine wpAnyH_done (by kernel_rfl) ?_ _
  have hT5 := hTd.below hS5
  have hB5 : Below N w w5 := hBd.trans (hS5.mono hzd)
  have hx5 := (hxd.below hS5).le (B' := w5.heap.size) hS5.size
  have h05 := (h0d.below hS5).le (B' := w5.heap.size) hS5.size
  have h15 := (h1d.below hS5).le (B' := w5.heap.size) hS5.size
  have c05 := (hS5.cell (p := ⟨b3, o3, none⟩) b3d).trans c0d
  have c15 := (hS5.cell (p := ⟨b3, o3 + 1, none⟩) b3d).trans c1d
  have b35 : b3 < w5.heap.size := Nat.lt_of_lt_of_le b3d hS5.size
  have hz5 : N ≤ w5.heap.size := Nat.le_trans hzd hS5.size
  obtain ⟨G, hG⟩ : ∃ G, wp2.heap.size = G := ⟨_, rfl⟩
  rw [hG] at hr5 hs5 ⊢
  have hG5 : G < w5.heap.size := by omega
  have hls5 : LiesV w5 w5.heap.size (some ⟨G, 0, none⟩) (secs [exS 0, exS 1]) := by
    have : secs [exS 0, exS 1] = (exS 0).cs ++ (exS 1).cs := by simp [secs]
    rw [this]
    intro _
    exact ⟨G, 0, rfl, hG5, fun i u hu => by rw [Nat.zero_add]; exact hr5.cell hu⟩
  clear hTd hBd hxd h0d h1d c0d c1d b3d hzd hS5 hb5 hs5 hG hr5
  go_wp2_with fail
  refine (kjoin_any 300 (some ⟨G, 0, none⟩) 2 2 [exS 0, exS 1] w5 w5.heap.size hls5 (Nat.le_refl _) rfl (by omega) (by omega) (by omega)).mono ?_
  rintro e w6 ⟨A6, c6, rfl, h61, h62, hl6, hb6⟩
  rw [exJ300.2] at hl6 h61 ⊢
  rw [exJ300.1]
  rw [exB_length] at h61 ⊢
  have hT6 := hT5.below hb6
  have hB6 : Below N w w6 := hB5.trans (hb6.mono hz5)
  have hx6 := (hx5.below hb6).le (B' := w6.heap.size) hb6.size
  have h06 := (h05.below hb6).le (B' := w6.heap.size) hb6.size
  have h16 := (h15.below hb6).le (B' := w6.heap.size) hb6.size
  have c06 := (hb6.cell (p := ⟨b3, o3, none⟩) b35).trans c05
  have c16 := (hb6.cell (p := ⟨b3, o3 + 1, none⟩) b35).trans c15
  have b36 : b3 < w6.heap.size := Nat.lt_of_lt_of_le b35 hb6.size
  have hz6 : N ≤ w6.heap.size := Nat.le_trans hz5 hb6.size
  have hls6 := (hls5.below hb6).le (B' := w6.heap.size) hb6.size
  clear hT5 hB5 hx5 h05 h15 c05 c15 b35 hz5 hls5 hb6 hG5
  go_wp2_with fail
  refine (kjoin_any 299 (some ⟨G, 0, none⟩) 2 2 [exS 0, exS 1] w6 w6.heap.size hls6 (Nat.le_refl _) rfl (by omega) (by omega) (by omega)).mono ?_
  rintro e w7 ⟨A7, c7, rfl, _, _, _, hb7⟩
  rw [exJ299.2, exJ299.1]
  have hT7 := hT6.below hb7
  have hB7 : Below N w w7 := hB6.trans (hb7.mono hz6)
  have hx7 := (hx6.below hb7).le (B' := w7.heap.size) hb7.size
  have h07 := (h06.below hb7).le (B' := w7.heap.size) hb7.size
  have h17 := (h16.below hb7).le (B' := w7.heap.size) hb7.size
  have c07 := (hb7.cell (p := ⟨b3, o3, none⟩) b36).trans c06
  have c17 := (hb7.cell (p := ⟨b3, o3 + 1, none⟩) b36).trans c16
  have b37 : b3 < w7.heap.size := Nat.lt_of_lt_of_le b36 hb7.size
  have hz7 : N ≤ w7.heap.size := Nat.le_trans hz6 hb7.size
  have hls7 := (hls6.below hb7).le (B' := w7.heap.size) hb7.size
  have hl7 := (hl6.below hb7).le (B' := w7.heap.size) hb7.size
  clear hT6 hB6 hx6 h06 h16 c06 c16 b36 hz6 hls6 hl6 hb7
  go_wp2_with fail
  refine (kjoin_any 256 (some ⟨G, 0, none⟩) 2 2 [exS 0, exS 1] w7 w7.heap.size hls7 (Nat.le_refl _) rfl (by omega) (by omega) (by omega)).mono ?_
  rintro e w8 ⟨A8, c8, rfl, _, _, _, hb8⟩
  rw [exJ256.2, exJ256.1]
  have hT8 : Tab w8.drew := (hT7.below hb8).drew
  have hB8 : Below N w w8.drew := (hB7.trans (hb8.mono hz7)).drew
  have hx8 : Lies w8.drew w8.drew.heap.size (some ⟨N, 0, none⟩) exB := (hx7.below hb8).le (B' := w8.heap.size) hb8.size
  have h08 : Lies w8.drew w8.drew.heap.size A0 (chunkK exB 0) := (h07.below hb8).le (B' := w8.heap.size) hb8.size
  have h18 : Lies w8.drew w8.drew.heap.size A1 (chunkK exB 1) := (h17.below hb8).le (B' := w8.heap.size) hb8.size
  have c0d : w8.drew.cell? ⟨b3, o3, none⟩ = some (.slice A0 256 c0) := (hb8.cell (p := ⟨b3, o3, none⟩) b37).trans c07
  have c1d : w8.drew.cell? ⟨b3, o3 + 1, none⟩ = some (.slice A1 44 c1) := (hb8.cell (p := ⟨b3, o3 + 1, none⟩) b37).trans c17
  have b3d : b3 < w8.drew.heap.size := Nat.lt_of_lt_of_le b37 hb8.size
  have hz8 : N ≤ w8.drew.heap.size := Nat.le_trans hz7 hb8.size
  have hl8 : Lies w8.drew w8.drew.heap.size A6 exB := (hl7.below hb8).le (B' := w8.heap.size) hb8.size
  clear hT7 hB7 hx7 h07 h17 c07 c17 b37 hz7 hls7 hl7 hb8 hHeld
  go_wp2_with fail
  refine wp_region_held_drew (S := fun W => Below w8.drew.heap.size w8.drew W) (by kernel_rfl) (Below.refl _ _) (fun hHeld => ?_)
  generalize w8.drew = wd at *
  have hSc : Below wd.heap.size wd wd := Below.refl _ _
  have hne := exB_differ
  obtain ⟨ad0, hd0⟩ : ∃ x, adrK13 (chunkK exB 0) = x := ⟨_, rfl⟩
  obtain ⟨ad1, hd1⟩ : ∃ x, adrK13 (chunkK exB 1) = x := ⟨_, rfl⟩
  obtain ⟨tx, htx⟩ : ∃ x, textK exB = x := ⟨_, rfl⟩
  have Hd0 : Hid (ad0.length = 32) := by show _ = _; rw [← hd0]; exact adrK13_length _
  have Hd1 : Hid (ad1.length = 32) := by show _ = _; rw [← hd1]; exact adrK13_length _
  have Htx : Hid (tx.length = 32) := by show _ = _; rw [← htx]; exact textK_length _
  rw [hd0, hd1] at hne
  have Hne : Hid (ad0 ≠ ad1) := hne
  have htx2 := exText
  rw [htx] at htx2
  have HE0 := Lib.hid hd0
  have HE1 := Lib.hid hd1
  have HET := Lib.hid htx
  have HET2 := Lib.hid htx2
  have Hea : Hid ((adrsK exB).length = 2) := by show _ = _; rw [adrsK_length, exB_length]; rfl
  clear hne hd0 hd1 htx htx2
  refine wpAnyH_take (i := 0) (oi := ⟨_, _, _, _, _, _⟩) (v := ?_) rfl (by kernel_rfl) (by kernel_rfl) (by kernel_rfl) (fun _ _ _ h => h) (Or.inl ⟨by rfl, ?_⟩) (by assumption) ?_
  rotate_left
  · intro W hSW; go_simp; try with_reducible rfl
  try simp only [Act.put, List.setIfInBounds_toArray, List.set_cons_zero, List.set_cons_succ]
  refine wpAnyH_take (i := 1) (oi := ⟨_, _, _, _, _, _⟩) (v := ?_) rfl (by kernel_rfl) (by kernel_rfl) (by kernel_rfl) (fun _ _ _ h => h) (Or.inl ⟨by rfl, ?_⟩) (by assumption) ?_
  rotate_left
  · intro W hSW; go_simp; try with_reducible rfl
  try simp only [Act.put, List.setIfInBounds_toArray, List.set_cons_zero, List.set_cons_succ]
  refine wpAnyH_take (i := 2) (oi := ⟨_, _, _, _, _, _⟩) (v := ?_) rfl (by kernel_rfl) (by kernel_rfl) (by kernel_rfl) (fun _ _ _ h => h) (Or.inl ⟨by rfl, ?_⟩) (by assumption) ?_
  rotate_left
  · intro W hSW; have hcW := (hSW.cell (p := ⟨b3, o3 + 1, none⟩) b3d).trans c1d; go_simp; try with_reducible rfl
  try simp only [Act.put, List.setIfInBounds_toArray, List.set_cons_zero, List.set_cons_succ]
  refine wpAnyH_take (i := 3) (oi := ⟨_, _, _, _, _, _⟩) (v := ?_) rfl (by kernel_rfl) (by kernel_rfl) (by kernel_rfl) (fun _ _ _ h => h) (Or.inl ⟨by rfl, ?_⟩) (by assumption) ?_
  rotate_left
  · intro W hSW; go_simp; try with_reducible rfl
  try simp only [Act.put, List.setIfInBounds_toArray, List.set_cons_zero, List.set_cons_succ]
  refine wpAnyH_take (i := 4) (oi := ⟨_, _, _, _, _, _⟩) (v := ?_) rfl (by kernel_rfl) (by kernel_rfl) (by kernel_rfl) (fun _ _ _ h => h) (Or.inl ⟨by rfl, ?_⟩) (by assumption) ?_
  rotate_left
  · intro W hSW; go_simp; try with_reducible rfl
  try simp only [Act.put, List.setIfInBounds_toArray, List.set_cons_zero, List.set_cons_succ]
  refine wpAnyH_take (i := 5) (oi := ⟨_, _, _, _, _, _⟩) (v := ?_) rfl (by kernel_rfl) (by kernel_rfl) (by kernel_rfl) (fun _ _ _ h => h) (Or.inl ⟨by rfl, ?_⟩) (by assumption) ?_
  rotate_left
  · intro W hSW; go_simp; try with_reducible rfl
  try simp only [Act.put, List.setIfInBounds_toArray, List.set_cons_zero, List.set_cons_succ]
  refine wpAnyH_take (i := 6) (oi := ⟨_, _, _, _, _, _⟩) (v := ?_) rfl (by kernel_rfl) (by kernel_rfl) (by kernel_rfl) (fun _ _ _ h => h) (Or.inl ⟨by rfl, ?_⟩) (by assumption) ?_
  rotate_left
  · intro W hSW; go_simp; try with_reducible rfl
  try simp only [Act.put, List.setIfInBounds_toArray, List.set_cons_zero, List.set_cons_succ]
  refine wpAnyH_take (i := 7) (oi := ⟨_, _, _, _, _, _⟩) (v := ?_) rfl (by kernel_rfl) (by kernel_rfl) (by kernel_rfl) (fun _ _ _ h => h) (Or.inl ⟨by rfl, ?_⟩) (by assumption) ?_
  rotate_left
  · intro W hSW; go_simp; try with_reducible rfl
  try simp only [Act.put, List.setIfInBounds_toArray, List.set_cons_zero, List.set_cons_succ]
  refine wpAnyH_take (i := 8) (oi := ⟨_, _, _, _, _, _⟩) (v := ?_) rfl (by kernel_rfl) (by kernel_rfl) (by kernel_rfl) (fun _ _ _ h => h) (Or.inl ⟨by rfl, ?_⟩) (by assumption) ?_
  rotate_left
  · intro W hSW; go_simp; try with_reducible rfl
  try simp only [Act.put, List.setIfInBounds_toArray, List.set_cons_zero, List.set_cons_succ]
  refine wpAnyH_take (i := 9) (oi := ⟨_, _, _, _, _, _⟩) (v := ?_) rfl (by kernel_rfl) (by kernel_rfl) (by kernel_rfl) (fun _ _ _ h => h) (Or.inl ⟨by rfl, ?_⟩) (by assumption) ?_
  rotate_left
  · intro W hSW; go_simp; try with_reducible rfl
  try simp only [Act.put, List.setIfInBounds_toArray, List.set_cons_zero, List.set_cons_succ]
  refine wpAnyH_take (i := 10) (oi := ⟨_, _, _, _, _, _⟩) (v := ?_) rfl (by kernel_rfl) (by kernel_rfl) (by kernel_rfl) (fun _ _ _ h => h) (Or.inl ⟨by rfl, ?_⟩) (by assumption) ?_
  rotate_left
  · intro W hSW; go_simp; try with_reducible rfl
  try simp only [Act.put, List.setIfInBounds_toArray, List.set_cons_zero, List.set_cons_succ]
  refine wpAnyH_take (i := 11) (oi := ⟨_, _, _, _, _, _⟩) (v := ?_) rfl (by kernel_rfl) (by kernel_rfl) (by kernel_rfl) (fun _ _ _ h => h) (Or.inl ⟨by rfl, ?_⟩) (by assumption) ?_
  rotate_left
  · intro W hSW; go_simp; try with_reducible rfl
  try simp only [Act.put, List.setIfInBounds_toArray, List.set_cons_zero, List.set_cons_succ]
  refine wpAnyH_ready (rs := [12]) (by kernel_rfl) (by simp) ?_
  refine AllReadyH.cons (o := ⟨_, _, _, _, _, _⟩) rfl (fun K hK => ?_) AllReadyH.nil
  go_simp
  refine (same_any A6 (some ⟨N, 0, none⟩) 300 300 c6 300 exB exB wd wd.heap.size exB_length.symm exB_length.symm hl8 hx8).mono ?_
  rintro e ws12 ⟨rfl, rfl⟩
  try simp only []
  refine hK.out _ _ hSc (fun hHeld => ?_)
  clear hK K
  try simp only [Act.put, List.setIfInBounds_toArray, List.set_cons_zero, List.set_cons_succ]
  rw [beq_self_eq_true exB]
  refine wpAnyH_take (i := 13) (oi := ⟨_, _, _, _, _, _⟩) (v := ?_) rfl (by kernel_rfl) (by kernel_rfl) (by kernel_rfl) (fun _ _ _ h => h) (Or.inl ⟨by rfl, ?_⟩) (by assumption) ?_
  rotate_left
  · intro W hSW; go_simp; try with_reducible rfl
  try simp only [Act.put, List.setIfInBounds_toArray, List.set_cons_zero, List.set_cons_succ]
  refine wpAnyH_take (i := 14) (oi := ⟨_, _, _, _, _, _⟩) (v := ?_) rfl (by kernel_rfl) (by kernel_rfl) (by kernel_rfl) (fun _ _ _ h => h) (Or.inl ⟨by rfl, ?_⟩) (by assumption) ?_
  rotate_left
  · intro W hSW; go_simp; try with_reducible rfl
  try simp only [Act.put, List.setIfInBounds_toArray, List.set_cons_zero, List.set_cons_succ]
  refine wpAnyH_take (i := 15) (oi := ⟨_, _, _, _, _, _⟩) (v := ?_) rfl (by kernel_rfl) (by kernel_rfl) (by kernel_rfl) (fun _ _ _ h => h) (Or.inl ⟨by rfl, ?_⟩) (by assumption) ?_
  rotate_left
  · intro W hSW; go_simp; try with_reducible rfl
  try simp only [Act.put, List.setIfInBounds_toArray, List.set_cons_zero, List.set_cons_succ]
  refine wpAnyH_take (i := 16) (oi := ⟨_, _, _, _, _, _⟩) (v := ?_) rfl (by kernel_rfl) (by kernel_rfl) (by kernel_rfl) (fun _ _ _ h => h) (Or.inl ⟨by rfl, ?_⟩) (by assumption) ?_
  rotate_left
  · intro W hSW; go_simp; try with_reducible rfl
  try simp only [Act.put, List.setIfInBounds_toArray, List.set_cons_zero, List.set_cons_succ]
  refine wpAnyH_take (i := 17) (oi := ⟨_, _, _, _, _, _⟩) (v := ?_) rfl (by kernel_rfl) (by kernel_rfl) (by kernel_rfl) (fun _ _ _ h => h) (Or.inl ⟨by rfl, ?_⟩) (by assumption) ?_
  rotate_left
  · intro W hSW; go_simp; try with_reducible rfl
  try simp only [Act.put, List.setIfInBounds_toArray, List.set_cons_zero, List.set_cons_succ]
  refine wpAnyH_take (i := 18) (oi := ⟨_, _, _, _, _, _⟩) (v := ?_) rfl (by kernel_rfl) (by kernel_rfl) (by kernel_rfl) (fun _ _ _ h => h) (Or.inl ⟨by rfl, ?_⟩) (by assumption) ?_
  rotate_left
  · intro W hSW; go_simp; try with_reducible rfl
  try simp only [Act.put, List.setIfInBounds_toArray, List.set_cons_zero, List.set_cons_succ]
  refine wpAnyH_take (i := 19) (oi := ⟨_, _, _, _, _, _⟩) (v := ?_) rfl (by kernel_rfl) (by kernel_rfl) (by kernel_rfl) (fun _ _ _ h => h) (Or.inl ⟨by rfl, ?_⟩) (by assumption) ?_
  rotate_left
  · intro W hSW; go_simp; try with_reducible rfl
  try simp only [Act.put, List.setIfInBounds_toArray, List.set_cons_zero, List.set_cons_succ]
  refine wpAnyH_take (i := 20) (oi := ⟨_, _, _, _, _, _⟩) (v := ?_) rfl (by kernel_rfl) (by kernel_rfl) (by kernel_rfl) (fun _ _ _ h => h) (Or.inl ⟨by rfl, ?_⟩) (by assumption) ?_
  rotate_left
  · intro W hSW; go_simp; try with_reducible rfl
  try simp only [Act.put, List.setIfInBounds_toArray, List.set_cons_zero, List.set_cons_succ]
  refine wpAnyH_take (i := 21) (oi := ⟨_, _, _, _, _, _⟩) (v := ?_) rfl (by kernel_rfl) (by kernel_rfl) (by kernel_rfl) (fun _ _ _ h => h) (Or.inl ⟨by rfl, ?_⟩) (by assumption) ?_
  rotate_left
  · intro W hSW; go_simp; try with_reducible rfl
  try simp only [Act.put, List.setIfInBounds_toArray, List.set_cons_zero, List.set_cons_succ]
  refine wpAnyH_take (i := 22) (oi := ⟨_, _, _, _, _, _⟩) (v := ?_) rfl (by kernel_rfl) (by kernel_rfl) (by kernel_rfl) (fun _ _ _ h => h) (Or.inl ⟨by rfl, ?_⟩) (by assumption) ?_
  rotate_left
  · intro W hSW; go_simp; try with_reducible rfl
  try simp only [Act.put, List.setIfInBounds_toArray, List.set_cons_zero, List.set_cons_succ]
  refine wpAnyH_ready (rs := [23]) (by kernel_rfl) (by simp) ?_
  refine AllReadyH.cons (o := ⟨_, _, _, _, _, _⟩) rfl (fun K hK => ?_) AllReadyH.nil
  go_simp
  refine (kcheck_any none 0 0 wd (by omega)).mono ?_
  rintro e ws23 ⟨rfl, rfl⟩
  try simp only []
  refine hK.out _ _ hSc (fun hHeld => ?_)
  clear hK K
  try simp only [Act.put, List.setIfInBounds_toArray, List.set_cons_zero, List.set_cons_succ]
  rw [show checkK 0 = 1 from rfl]
  refine wpAnyH_take (i := 24) (oi := ⟨_, _, _, _, _, _⟩) (v := ?_) rfl (by kernel_rfl) (by kernel_rfl) (by kernel_rfl) (fun _ _ _ h => h) (Or.inl ⟨by rfl, ?_⟩) (by assumption) ?_
  rotate_left
  · intro W hSW; go_simp; try with_reducible rfl
  try simp only [Act.put, List.setIfInBounds_toArray, List.set_cons_zero, List.set_cons_succ]
  refine wpAnyH_take (i := 25) (oi := ⟨_, _, _, _, _, _⟩) (v := ?_) rfl (by kernel_rfl) (by kernel_rfl) (by kernel_rfl) (fun _ _ _ h => h) (Or.inl ⟨by rfl, ?_⟩) (by assumption) ?_
  rotate_left
  · intro W hSW; go_simp; try with_reducible rfl
  try simp only [Act.put, List.setIfInBounds_toArray, List.set_cons_zero, List.set_cons_succ]
  refine wpAnyH_take (i := 26) (oi := ⟨_, _, _, _, _, _⟩) (v := ?_) rfl (by kernel_rfl) (by kernel_rfl) (by kernel_rfl) (fun _ _ _ h => h) (Or.inl ⟨by rfl, ?_⟩) (by assumption) ?_
  rotate_left
  · intro W hSW; go_simp; try with_reducible rfl
  try simp only [Act.put, List.setIfInBounds_toArray, List.set_cons_zero, List.set_cons_succ]
  refine wpAnyH_ready (rs := [27]) (by kernel_rfl) (by simp) ?_
  refine AllReadyH.cons (o := ⟨_, _, _, _, _, _⟩) rfl (fun K hK => ?_) AllReadyH.nil
  go_simp
  refine (kcount_any 257 wd (by omega) (by omega)).mono ?_
  rintro e ws27 ⟨rfl, rfl⟩
  try simp only []
  refine hK.out _ _ hSc (fun hHeld => ?_)
  clear hK K
  try simp only [Act.put, List.setIfInBounds_toArray, List.set_cons_zero, List.set_cons_succ]
  rw [show ((countK ((257 : Int)).toNat : Nat) : Int) = 2 from rfl]
  refine wpAnyH_take (i := 28) (oi := ⟨_, _, _, _, _, _⟩) (v := ?_) rfl (by kernel_rfl) (by kernel_rfl) (by kernel_rfl) (fun _ _ _ h => h) (Or.inl ⟨by rfl, ?_⟩) (by assumption) ?_
  rotate_left
  · intro W hSW; go_simp; try with_reducible rfl
  try simp only [Act.put, List.setIfInBounds_toArray, List.set_cons_zero, List.set_cons_succ]
  refine wpAnyH_take (i := 29) (oi := ⟨_, _, _, _, _, _⟩) (v := ?_) rfl (by kernel_rfl) (by kernel_rfl) (by kernel_rfl) (fun _ _ _ h => h) (Or.inl ⟨by rfl, ?_⟩) (by assumption) ?_
  rotate_left
  · intro W hSW; go_simp; try with_reducible rfl
  try simp only [Act.put, List.setIfInBounds_toArray, List.set_cons_zero, List.set_cons_succ]
  refine wpAnyH_take (i := 30) (oi := ⟨_, _, _, _, _, _⟩) (v := ?_) rfl (by kernel_rfl) (by kernel_rfl) (by kernel_rfl) (fun _ _ _ h => h) (Or.inl ⟨by rfl, ?_⟩) (by assumption) ?_
  rotate_left
  · intro W hSW; go_simp; try with_reducible rfl
  try simp only [Act.put, List.setIfInBounds_toArray, List.set_cons_zero, List.set_cons_succ]
  refine wpAnyH_ready (rs := [31]) (by kernel_rfl) (by simp) ?_
  refine AllReadyH.cons (o := ⟨_, _, _, _, _, _⟩) rfl (fun K hK => ?_) AllReadyH.nil
  go_simp
  refine (kcount_any 0 wd (by omega) (by omega)).mono ?_
  rintro e ws31 ⟨rfl, rfl⟩
  try simp only []
  refine hK.out _ _ hSc (fun hHeld => ?_)
  clear hK K
  try simp only [Act.put, List.setIfInBounds_toArray, List.set_cons_zero, List.set_cons_succ]
  rw [show ((countK ((0 : Int)).toNat : Nat) : Int) = 0 from rfl]
  refine wpAnyH_take (i := 32) (oi := ⟨_, _, _, _, _, _⟩) (v := ?_) rfl (by kernel_rfl) (by kernel_rfl) (by kernel_rfl) (fun _ _ _ h => h) (Or.inl ⟨by rfl, ?_⟩) (by assumption) ?_
  rotate_left
  · intro W hSW; go_simp; try with_reducible rfl
  try simp only [Act.put, List.setIfInBounds_toArray, List.set_cons_zero, List.set_cons_succ]
  refine wpAnyH_take (i := 33) (oi := ⟨_, _, _, _, _, _⟩) (v := ?_) rfl (by kernel_rfl) (by kernel_rfl) (by kernel_rfl) (fun _ _ _ h => h) (Or.inl ⟨by rfl, ?_⟩) (by assumption) ?_
  rotate_left
  · intro W hSW; go_simp; try with_reducible rfl
  try simp only [Act.put, List.setIfInBounds_toArray, List.set_cons_zero, List.set_cons_succ]
  refine wpAnyH_take (i := 34) (oi := ⟨_, _, _, _, _, _⟩) (v := ?_) rfl (by kernel_rfl) (by kernel_rfl) (by kernel_rfl) (fun _ _ _ h => h) (Or.inl ⟨by rfl, ?_⟩) (by assumption) ?_
  rotate_left
  · intro W hSW; go_simp; try with_reducible rfl
  try simp only [Act.put, List.setIfInBounds_toArray, List.set_cons_zero, List.set_cons_succ]
  refine wpAnyH_ready (rs := [35]) (by kernel_rfl) (by simp) ?_
  refine AllReadyH.cons (o := ⟨_, _, _, _, _, _⟩) rfl (fun K hK => ?_) AllReadyH.nil
  go_simp
  refine (kpart_any 300 1 wd (by omega) (by omega) (by omega) (by omega)).mono ?_
  rintro e ws35 ⟨rfl, rfl⟩
  try simp only []
  refine hK.out _ _ hSc (fun hHeld => ?_)
  clear hK K
  try simp only [Act.put, List.setIfInBounds_toArray, List.set_cons_zero, List.set_cons_succ]
  rw [show partI 300 1 = 44 from rfl]
  refine wpAnyH_take (i := 36) (oi := ⟨_, _, _, _, _, _⟩) (v := ?_) rfl (by kernel_rfl) (by kernel_rfl) (by kernel_rfl) (fun _ _ _ h => h) (Or.inl ⟨by rfl, ?_⟩) (by assumption) ?_
  rotate_left
  · intro W hSW; go_simp; try with_reducible rfl
  try simp only [Act.put, List.setIfInBounds_toArray, List.set_cons_zero, List.set_cons_succ]
  refine wpAnyH_take (i := 37) (oi := ⟨_, _, _, _, _, _⟩) (v := ?_) rfl (by kernel_rfl) (by kernel_rfl) (by kernel_rfl) (fun _ _ _ h => h) (Or.inl ⟨by rfl, ?_⟩) (by assumption) ?_
  rotate_left
  · intro W hSW; go_simp; try with_reducible rfl
  try simp only [Act.put, List.setIfInBounds_toArray, List.set_cons_zero, List.set_cons_succ]
  refine wpAnyH_take (i := 38) (oi := ⟨_, _, _, _, _, _⟩) (v := ?_) rfl (by kernel_rfl) (by kernel_rfl) (by kernel_rfl) (fun _ _ _ h => h) (Or.inl ⟨by rfl, ?_⟩) (by assumption) ?_
  rotate_left
  · intro W hSW; go_simp; try with_reducible rfl
  try simp only [Act.put, List.setIfInBounds_toArray, List.set_cons_zero, List.set_cons_succ]
  refine wpAnyH_ready (rs := [39]) (by kernel_rfl) (by simp) ?_
  refine AllReadyH.cons (o := ⟨_, _, _, _, _, _⟩) rfl (fun K hK => ?_) AllReadyH.nil
  go_simp
  refine (kpart_any 300 2 wd (by omega) (by omega) (by omega) (by omega)).mono ?_
  rintro e ws39 ⟨rfl, rfl⟩
  try simp only []
  refine hK.out _ _ hSc (fun hHeld => ?_)
  clear hK K
  try simp only [Act.put, List.setIfInBounds_toArray, List.set_cons_zero, List.set_cons_succ]
  rw [show partI 300 2 = 0 from rfl]
  refine wpAnyH_take (i := 40) (oi := ⟨_, _, _, _, _, _⟩) (v := ?_) rfl (by kernel_rfl) (by kernel_rfl) (by kernel_rfl) (fun _ _ _ h => h) (Or.inl ⟨by rfl, ?_⟩) (by assumption) ?_
  rotate_left
  · intro W hSW; go_simp; try with_reducible rfl
  try simp only [Act.put, List.setIfInBounds_toArray, List.set_cons_zero, List.set_cons_succ]
  refine wpAnyH_take (i := 41) (oi := ⟨_, _, _, _, _, _⟩) (v := ?_) rfl (by kernel_rfl) (by kernel_rfl) (by kernel_rfl) (fun _ _ _ h => h) (Or.inl ⟨by rfl, ?_⟩) (by assumption) ?_
  rotate_left
  · intro W hSW; go_simp; try with_reducible rfl
  try simp only [Act.put, List.setIfInBounds_toArray, List.set_cons_zero, List.set_cons_succ]
  refine wpAnyH_take (i := 42) (oi := ⟨_, _, _, _, _, _⟩) (v := ?_) rfl (by kernel_rfl) (by kernel_rfl) (by kernel_rfl) (fun _ _ _ h => h) (Or.inl ⟨by rfl, ?_⟩) (by assumption) ?_
  rotate_left
  · intro W hSW; go_simp; try with_reducible rfl
  try simp only [Act.put, List.setIfInBounds_toArray, List.set_cons_zero, List.set_cons_succ]
  refine wpAnyH_take (i := 43) (oi := ⟨_, _, _, _, _, _⟩) (v := ?_) rfl (by kernel_rfl) (by kernel_rfl) (by kernel_rfl) (fun _ _ _ h => h) (Or.inl ⟨by rfl, ?_⟩) (by assumption) ?_
  rotate_left
  · intro W hSW; go_simp; try with_reducible rfl
  try simp only [Act.put, List.setIfInBounds_toArray, List.set_cons_zero, List.set_cons_succ]
  refine wpAnyH_take (i := 45) (oi := ⟨_, _, _, _, _, _⟩) (v := ?_) rfl (by kernel_rfl) (by kernel_rfl) (by kernel_rfl) (fun _ _ _ h => h) (Or.inl ⟨by rfl, ?_⟩) (by assumption) ?_
  rotate_left
  · intro W hSW; go_simp; try with_reducible rfl
  try simp only [Act.put, List.setIfInBounds_toArray, List.set_cons_zero, List.set_cons_succ]
  refine wpAnyH_ready (rs := [44]) (by kernel_rfl) (by simp) ?_
  refine AllReadyH.cons (o := ⟨_, _, _, _, _, _⟩) rfl (fun K hK => ?_) AllReadyH.nil
  go_simp
  refine (ktext_any (some ⟨N, 0, none⟩) 300 300 exB wd wd.heap.size hT8 hx8 (Nat.le_refl _) exB_length.symm (by omega)).mono ?_
  rintro e wq1 ⟨rfl, hb⟩
  try simp only []
  rw [HET.out]
  have hSwq1 := hSc.trans (hb.mono hSc.size)
  refine hK.out _ _ hSwq1 (fun hHeld => ?_)
  clear hK K hb hSc
  have hSc := hSwq1
  clear hSwq1
  try simp only [Act.put, List.setIfInBounds_toArray, List.set_cons_zero, List.set_cons_succ]
  refine wpAnyH_ready (rs := [46]) (by kernel_rfl) (by simp) ?_
  refine AllReadyH.cons (o := ⟨_, _, _, _, _, _⟩) rfl (fun K hK => ?_) AllReadyH.nil
  go_simp
  refine (kaddresses_any (some ⟨N, 0, none⟩) 300 300 exB wq1 wd.heap.size (hT8.below hSc) (hx8.below hSc) hSc.size exB_length.symm (by omega)).mono ?_
  rintro e wq2 ⟨LA, cA, rfl, hLA, hcA, hb⟩
  try simp only []
  rw [show countK 300 = 2 from rfl]
  rw [show countK 300 = 2 from rfl] at hcA
  have hSwq2 := hSc.trans (hb.mono hSc.size)
  refine hK.out _ _ hSwq2 (fun hHeld => ?_)
  clear hK K hb hSc
  have hSc := hSwq2
  clear hSwq2
  try simp only [Act.put, List.setIfInBounds_toArray, List.set_cons_zero, List.set_cons_succ]
  refine wpAnyH_ready (rs := [47]) (by kernel_rfl) (by simp) ?_
  refine AllReadyH.cons (o := ⟨_, _, _, _, _, _⟩) rfl (fun K hK => ?_) AllReadyH.nil
  go_simp
  refine (kof_any 300 LA 2 cA (adrsK exB) wq2 wq2.heap.size (hT8.below hSc) hLA (adrsK_all exB) (Nat.le_refl _) Hea.out.symm (by omega) (by omega)).mono ?_
  rintro e wq3 ⟨rfl, hb⟩
  try simp only []
  rw [HET2.out]
  have hSwq3 := hSc.trans (hb.mono hSc.size)
  refine hK.out _ _ hSwq3 (fun hHeld => ?_)
  clear hK K hb hSc
  have hSc := hSwq3
  clear hSwq3
  try simp only [Act.put, List.setIfInBounds_toArray, List.set_cons_zero, List.set_cons_succ]
  refine wpAnyH_take (i := 48) (oi := ⟨_, _, _, _, _, _⟩) (v := (.bool (tx == tx))) rfl (by kernel_rfl) (by kernel_rfl) (by kernel_rfl) (fun _ _ _ h => h) (Or.inl ⟨by rfl, ?_⟩) (by assumption) ?_
  · intro W hSW; exact exec_eql_bytes (P := Tryd.prog) (W := W) 37 (.tmp 86) (.tmp 89) 37 rfl Tryd.underlying37 Tryd.underlying5 Tryd.cells5k Tryd.guardA13 rfl rfl Htx.out Htx.out
  try simp only [Act.put, List.setIfInBounds_toArray, List.set_cons_zero, List.set_cons_succ]
  rw [beq_self_eq_true tx]
  refine wpAnyH_take (i := 49) (oi := ⟨_, _, _, _, _, _⟩) (v := ?_) rfl (by kernel_rfl) (by kernel_rfl) (by kernel_rfl) (fun _ _ _ h => h) (Or.inl ⟨by rfl, ?_⟩) (by assumption) ?_
  rotate_left
  · intro W hSW; go_simp; try with_reducible rfl
  try simp only [Act.put, List.setIfInBounds_toArray, List.set_cons_zero, List.set_cons_succ]
  refine wpAnyH_take (i := 50) (oi := ⟨_, _, _, _, _, _⟩) (v := ?_) rfl (by kernel_rfl) (by kernel_rfl) (by kernel_rfl) (fun _ _ _ h => h) (Or.inl ⟨by rfl, ?_⟩) (by assumption) ?_
  rotate_left
  · intro W hSW; go_simp; try with_reducible rfl
  try simp only [Act.put, List.setIfInBounds_toArray, List.set_cons_zero, List.set_cons_succ]
  refine wpAnyH_take (i := 51) (oi := ⟨_, _, _, _, _, _⟩) (v := ?_) rfl (by kernel_rfl) (by kernel_rfl) (by kernel_rfl) (fun _ _ _ h => h) (Or.inl ⟨by rfl, ?_⟩) (by assumption) ?_
  rotate_left
  · intro W hSW; go_simp; try with_reducible rfl
  try simp only [Act.put, List.setIfInBounds_toArray, List.set_cons_zero, List.set_cons_succ]
  refine wpAnyH_take (i := 52) (oi := ⟨_, _, _, _, _, _⟩) (v := ?_) rfl (by kernel_rfl) (by kernel_rfl) (by kernel_rfl) (fun _ _ _ h => h) (Or.inl ⟨by rfl, ?_⟩) (by assumption) ?_
  rotate_left
  · intro W hSW; go_simp; try with_reducible rfl
  try simp only [Act.put, List.setIfInBounds_toArray, List.set_cons_zero, List.set_cons_succ]
  refine wpAnyH_take (i := 53) (oi := ⟨_, _, _, _, _, _⟩) (v := ?_) rfl (by kernel_rfl) (by kernel_rfl) (by kernel_rfl) (fun _ _ _ h => h) (Or.inl ⟨by rfl, ?_⟩) (by assumption) ?_
  rotate_left
  · intro W hSW; have hcW := (hSW.cell (p := ⟨b3, o3, none⟩) b3d).trans c0d; go_simp; try with_reducible rfl
  try simp only [Act.put, List.setIfInBounds_toArray, List.set_cons_zero, List.set_cons_succ]
  refine wpAnyH_take (i := 55) (oi := ⟨_, _, _, _, _, _⟩) (v := ?_) rfl (by kernel_rfl) (by kernel_rfl) (by kernel_rfl) (fun _ _ _ h => h) (Or.inl ⟨by rfl, ?_⟩) (by assumption) ?_
  rotate_left
  · intro W hSW; go_simp; try with_reducible rfl
  try simp only [Act.put, List.setIfInBounds_toArray, List.set_cons_zero, List.set_cons_succ]
  refine wpAnyH_take (i := 56) (oi := ⟨_, _, _, _, _, _⟩) (v := ?_) rfl (by kernel_rfl) (by kernel_rfl) (by kernel_rfl) (fun _ _ _ h => h) (Or.inl ⟨by rfl, ?_⟩) (by assumption) ?_
  rotate_left
  · intro W hSW; go_simp; try with_reducible rfl
  try simp only [Act.put, List.setIfInBounds_toArray, List.set_cons_zero, List.set_cons_succ]
  refine wpAnyH_take (i := 57) (oi := ⟨_, _, _, _, _, _⟩) (v := ?_) rfl (by kernel_rfl) (by kernel_rfl) (by kernel_rfl) (fun _ _ _ h => h) (Or.inl ⟨by rfl, ?_⟩) (by assumption) ?_
  rotate_left
  · intro W hSW; have hcW := (hSW.cell (p := ⟨b3, o3 + 1, none⟩) b3d).trans c1d; go_simp; try with_reducible rfl
  try simp only [Act.put, List.setIfInBounds_toArray, List.set_cons_zero, List.set_cons_succ]
  refine wpAnyH_ready (rs := [54]) (by kernel_rfl) (by simp) ?_
  refine AllReadyH.cons (o := ⟨_, _, _, _, _, _⟩) rfl (fun K hK => ?_) AllReadyH.nil
  go_simp
  refine (kaddress_any A0 256 c0 (chunkK exB 0) wq3 wd.heap.size (hT8.below hSc) (h08.below hSc) hSc.size exC0.symm hnc0 hcm0 (by omega)).mono ?_
  rintro e wq4 ⟨rfl, hb⟩
  try simp only []
  rw [HE0.out]
  have hSwq4 := hSc.trans (hb.mono hSc.size)
  refine hK.out _ _ hSwq4 (fun hHeld => ?_)
  clear hK K hb hSc
  have hSc := hSwq4
  clear hSwq4
  try simp only [Act.put, List.setIfInBounds_toArray, List.set_cons_zero, List.set_cons_succ]
  refine wpAnyH_ready (rs := [58]) (by kernel_rfl) (by simp) ?_
  refine AllReadyH.cons (o := ⟨_, _, _, _, _, _⟩) rfl (fun K hK => ?_) AllReadyH.nil
  go_simp
  refine (kaddress_any A1 44 c1 (chunkK exB 1) wq4 wd.heap.size (hT8.below hSc) (h18.below hSc) hSc.size exC1.symm hnc1 hcm1 (by omega)).mono ?_
  rintro e wq5 ⟨rfl, hb⟩
  try simp only []
  rw [HE1.out]
  have hSwq5 := hSc.trans (hb.mono hSc.size)
  refine hK.out _ _ hSwq5 (fun hHeld => ?_)
  clear hK K hb hSc
  have hSc := hSwq5
  clear hSwq5
  try simp only [Act.put, List.setIfInBounds_toArray, List.set_cons_zero, List.set_cons_succ]
  refine wpAnyH_take (i := 59) (oi := ⟨_, _, _, _, _, _⟩) (v := (.bool (!(ad0 == ad1)))) rfl (by kernel_rfl) (by kernel_rfl) (by kernel_rfl) (fun _ _ _ h => h) (Or.inl ⟨by rfl, ?_⟩) (by assumption) ?_
  · intro W hSW; exact exec_neqB (P := Tryd.prog) (W := W) 37 (.tmp 96) (.tmp 100) 37 rfl Tryd.underlying37 Tryd.underlying5 Tryd.cells5k Tryd.guardA13 rfl rfl Hd0.out Hd1.out
  try simp only [Act.put, List.setIfInBounds_toArray, List.set_cons_zero, List.set_cons_succ]
  rw [show (!(ad0 == ad1)) = true by rw [beq_false_of_ne Hne.out]; rfl]
  refine wpAnyH_take (i := 60) (oi := ⟨_, _, _, _, _, _⟩) (v := ?_) rfl (by kernel_rfl) (by kernel_rfl) (by kernel_rfl) (fun _ _ _ h => h) (Or.inl ⟨by rfl, ?_⟩) (by assumption) ?_
  rotate_left
  · intro W hSW; go_simp; try with_reducible rfl
  try simp only [Act.put, List.setIfInBounds_toArray, List.set_cons_zero, List.set_cons_succ]
  refine wpAnyH_take (i := 61) (oi := ⟨_, _, _, _, _, _⟩) (v := ?_) rfl (by kernel_rfl) (by kernel_rfl) (by kernel_rfl) (fun _ _ _ h => h) (Or.inl ⟨by rfl, ?_⟩) (by assumption) ?_
  rotate_left
  · intro W hSW; go_simp; try with_reducible rfl
  try simp only [Act.put, List.setIfInBounds_toArray, List.set_cons_zero, List.set_cons_succ]
  refine wpAnyH_done (by kernel_rfl) ?_ _
  go_wp2_with fail
  go_ret
  exact ⟨rfl, hN ▸ hB8.trans (hSc.mono hz8)⟩
end Go.Proofs.YtmcbpifkclhfiaaDoor
