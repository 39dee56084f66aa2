/-
  The contract of works (layer 3).
-/
import Derived.Test.YthkbbghoofknpaaDoorOfC
import Derived.Test.YthkbbghoofknpaaDoorParseC
import Derived.Test.YthkbbghoofknpaaDoorHexC
import Derived.Test.YthkbbghoofknpaaDoorLessC
import Derived.Test.YthkbbghoofknpaaDoorLit
namespace Go.Proofs.YthkbbghoofknpaaDoor
open Go.RowKit
set_option linter.unusedVariables false

def abc : List UInt8 := [0xba, 0x78, 0x16, 0xbf, 0x8f, 0x01, 0xcf, 0xea, 0x41, 0x41, 0x40, 0xde, 0x5d, 0xae, 0x22, 0x23, 0xb0, 0x03, 0x61, 0xa3, 0x96, 0x17, 0x7a, 0x9c, 0xb4, 0x10, 0xff, 0x61, 0xf2, 0x00, 0x15, 0xad]
theorem sha_abc' : shaB [97, 98, 99] = abc := sha_abc
theorem abc_length : abc.length = 32 := rfl
theorem parse_hex (a : List UInt8) (h : a.length = 32) : parseB (hexB a) = (a, 0) := parseB_some (by rw [hexB_length, h]) (unhex_hexB a)
theorem parse_xy : parseB [120, 121] = (zero32, 3) := by decide
def seven : List UInt8 := [0, 0, 0, 0, 0, 7, 0, 0, 0, 0, 0, 0, 0, 0, 0, 0, 0, 0, 0, 0, 0, 0, 0, 0, 0, 0, 0, 0, 0, 0, 0, 0]
theorem home_seven : homeN seven 5 = 2 := by decide
theorem less_self : Op.bytesLess abc abc = false := by decide
theorem less_zero : Op.bytesLess zero32 abc = true := by decide
theorem hex_abc : (ByteArray.mk (hexB abc).toArray) = ⟨#[98, 97, 55, 56, 49, 54, 98, 102, 56, 102, 48, 49, 99, 102, 101, 97, 52, 49, 52, 49, 52, 48, 100, 101, 53, 100, 97, 101, 50, 50, 50, 51, 98, 48, 48, 51, 54, 49, 97, 51, 57, 54, 49, 55, 55, 97, 57, 99, 98, 52, 49, 48, 102, 102, 54, 49, 102, 50, 48, 48, 49, 53, 97, 100]⟩ := by decide
theorem Tryd.cells5 : Tryd.prog.cellsOf 5 = 1 := by kernel_rfl
theorem Tryd.guardA : Tryd.prog.eqGuardType Tryd.prog.depth 24 = false := by kernel_rfl
theorem exec_build_to {P : Program} {W : World} {ρ : Operand → Value} {o : Oper} (t : TypeId) (parts : Array (Nat × Operand)) (ho : o.op = .build t parts) (cs : List Value) (hf : P.built t (parts.map fun (i, x) => (i, ρ x)).toList = some cs.toArray) : (execOp ρ o).run P W = .ok (.value (.agg cs.toArray)) W := by
  simp only [execOp, ho, Sem.run_bind, run_build W t _ _ hf, Result.andThen_ok, Sem.run_pure]
theorem Lies.two (w : World) (y z : Obj) {B : Nat} {A : Option Addr} {xs : List UInt8} (h : Lies w B A xs) (hB : B ≤ w.heap.size) : Lies ((w.alloc y).alloc z) B A xs := (h.alloc hB y).alloc (by simp; omega) z

set_option maxRecDepth 100000 in
set_option maxHeartbeats 2000000 in
theorem works3_any (w : World) (hT : Tab w) : Calls Tryd.prog 6 #[] w fun e w' => e = .returned (.bool true) ∧ Below w.heap.size w w' := by
  have hcv := Lib.run_convert_bytes_const (P := Tryd.prog) w 22 5 #[.int .u8 97] 1 1 Tryd.underlying22 Tryd.underlying5
  have hcv2 := Lib.run_convert_bytes_const (P := Tryd.prog) (w.alloc (.cells #[.int .u8 97] 5 (1, 2))) 22 5 #[.int .u8 98, .int .u8 99] 2 2 Tryd.underlying22 Tryd.underlying5
  rw [show (w.alloc (.cells #[.int .u8 97] 5 (1, 2))).heap.size = w.heap.size + 1 by simp] at hcv2
  go_enter Tryd.func6, Tryd.ntmps6
  go_wp2_with fail
  clear hcv hcv2
  have hB2 : Below w.heap.size w ((w.alloc (.cells #[.int .u8 97] 5 (1, 2))).alloc (.cells #[.int .u8 98, .int .u8 99] 5 (2, 3))) := ((Below.refl _ _).alloc (Nat.le_refl _) _).alloc (by simp) _
  have hs2 : ((w.alloc (.cells #[.int .u8 97] 5 (1, 2))).alloc (.cells #[.int .u8 98, .int .u8 99] 5 (2, 3))).heap.size = w.heap.size + 1 + 1 := by simp
  have L1 : Lies ((w.alloc (.cells #[.int .u8 97] 5 (1, 2))).alloc (.cells #[.int .u8 98, .int .u8 99] 5 (2, 3))) (w.heap.size + 1) (some ⟨w.heap.size, 0, none⟩) [97] := (Lies.lit_mark w #[.int .u8 97] (1, 2) [97] rfl (w.heap.size + 1) (by omega)).alloc (by simp) _
  have L2 := Lies.lit_mark (w.alloc (.cells #[.int .u8 97] 5 (1, 2))) #[.int .u8 98, .int .u8 99] (2, 3) [98, 99] rfl (w.heap.size + 1 + 1) (by simp)
  rw [show (w.alloc (.cells #[.int .u8 97] 5 (1, 2))).heap.size = w.heap.size + 1 by simp] at L2
  generalize hW2 : (w.alloc (.cells _ 5 (1, 2))).alloc (.cells _ 5 (2, 3)) = w2 at *
  clear hW2
  rw [← hs2]
  refine (of_two w2 _ _ 1 1 2 2 [97] [98, 99] (hT.below hB2) (L1.le (by omega)) (L2.le (by omega)) rfl rfl (Nat.le_refl _) (Nat.le_refl _) (by unfold maxLen; omega) (by unfold maxLen; omega) (by decide)).mono ?_
  rintro e w3 ⟨rfl, hb3⟩
  rw [show ([97] ++ [98, 99] : List UInt8) = [97, 98, 99] from rfl, sha_abc']
  have hB3 : Below w.heap.size w w3 := hB2.trans (hb3.mono (by omega))
  have hT3 := hT.below hB3
  clear hB2 hs2 L1 L2 hb3
  have Hsz0 : Hid ((Tryd.prog.info? 24).map (·.size) = some ((cells abc).toArray).size) := by show _ = _; rw [Tryd.sizeA]; rfl
  have Hsz : Hid ((Tryd.prog.info? 24).map (·.size) = some (cells abc).length) := by show _ = _; rw [Tryd.sizeA]; rfl
  have Hold : Hid (((cells zero32).toArray).size = ((cells abc).toArray).size) := rfl
  go_wp2_with ((with_reducible refine at_alloc 24 ?_); refine wpList_alloc_rowV rfl 24 rfl (cells zero32) Tryd.zeroA ?_)
  intro w4 hr4 hb4 hs4
  refine wpList_store_row rfl 24 _ _ rfl w3.heap.size _ rfl rfl 24 _ hr4 Hsz0.out Hold.out (cells_oneCell _) ?_
  have hr5 := hr4.put (cells abc)
  have hB5 : Below w.heap.size w (w4.setRow w3.heap.size (cells abc).toArray) := below_setRow (hB3.trans (hb4.mono hB3.size)) hB3.size _
  have hT5 : Tab (w4.setRow w3.heap.size (cells abc).toArray) := hT.below hB5
  clear hr4 hb4 hs4 hB3 hT3
  generalize w4.setRow w3.heap.size (cells abc).toArray = w5 at *
  generalize w3.heap.size = g1 at *
  go_wp2_with ((with_reducible refine at_load 24 ?_); refine wpList_load_row rfl 24 _ rfl g1 rfl 24 _ (0, 0) _ hr5 Tryd.underlying24 rfl Hsz0.out ?_)
  go_wp2_with fail
  refine (hex_any abc abc_length _).mono ?_
  rintro e w6 ⟨rfl, hb6⟩
  go_wp2_with fail
  refine (parse_any _ _ (by decide)).mono ?_
  rintro e w7 ⟨rfl, hb7⟩
  rw [show (ByteArray.mk (hexB abc).toArray).data.toList = hexB abc from rfl, parse_hex abc abc_length]
  have hb57 := below_seq hb6 hb7
  have hr7 := hr5.below hr5.lt hb57
  have hB7 := hB5.trans (hb57.mono hB5.size)
  clear hb6 hb7 hb57 hr5 hB5 hT5
  go_wp2_with ((with_reducible refine at_alloc 24 ?_); refine wpList_alloc_rowV rfl 24 rfl (cells zero32) Tryd.zeroA ?_)
  intro w8 hr8 hb8 hs8
  refine wpList_store_row rfl 24 _ _ rfl w7.heap.size _ rfl rfl 24 _ hr8 Hsz0.out Hold.out (cells_oneCell _) ?_
  have hr9 := hr8.put (cells abc)
  have hr7' := (hr7.below hr7.lt hb8).put_other (k := w7.heap.size) (by have := hr7.lt; omega) (cells abc).toArray
  have hB9 : Below w.heap.size w (w8.setRow w7.heap.size (cells abc).toArray) := below_setRow (hB7.trans (hb8.mono hB7.size)) hB7.size _
  clear hr8 hb8 hs8 hB7 hr7
  generalize w8.setRow w7.heap.size (cells abc).toArray = w9 at *
  generalize w7.heap.size = g2 at *
  go_wp2_with fail
  refine (parse_any _ _ (by decide)).mono ?_
  rintro e w10 ⟨rfl, hb10⟩
  rw [show (ByteArray.mk #[120, 121]).data.toList = [120, 121] from rfl, parse_xy]
  have hq1 := hr7'.below hr7'.lt hb10
  have hq2 := hr9.below hr9.lt hb10
  have hB10 := hB9.trans (hb10.mono hB9.size)
  clear hb10 hr9 hr7' hB9
  have Hszz : Hid ((Tryd.prog.info? 24).map (·.size) = some ((cells zero32).toArray).size) := by show _ = _; rw [Tryd.sizeA]; rfl
  go_wp2_with ((with_reducible refine at_alloc 24 ?_); refine wpList_alloc_rowV rfl 24 rfl (cells zero32) Tryd.zeroA ?_)
  intro w11 hr11 hb11 hs11
  refine wpList_store_row rfl 24 _ _ rfl w10.heap.size _ rfl rfl 24 _ hr11 Hszz.out rfl (cells_oneCell _) ?_
  have hq3 := (hq1.below hq1.lt hb11).put_other (k := w10.heap.size) (by have := hq1.lt; omega) (cells zero32).toArray
  have hq4 := (hq2.below hq2.lt hb11).put_other (k := w10.heap.size) (by have := hq2.lt; omega) (cells zero32).toArray
  have hB12 : Below w.heap.size w (w11.setRow w10.heap.size (cells zero32).toArray) := below_setRow (hB10.trans (hb11.mono hB10.size)) hB10.size _
  clear hr11 hb11 hs11 hq1 hq2 hB10
  generalize w11.setRow w10.heap.size (cells zero32).toArray = w12 at *
  go_wp2_with fail
  refine (new_any w12).mono ?_
  rintro e w13 ⟨rfl, hH13, hb13, hs13⟩
  have hq5 := hq3.below hq3.lt hb13
  have hq6 := hq4.below hq4.lt hb13
  have hB13 := hB12.trans (hb13.mono hB12.size)
  have hgh : w.heap.size ≤ w12.heap.size := hB12.size
  have hl5 := hq3.lt
  have hl6 := hq4.lt
  clear hq3 hq4 hB12 hb13
  have hT13 := hT.below hB13
  have hgh0 : w12.heap.size ≠ 0 := by have := hT.pos; omega
  have hcv := Lib.run_convert_bytes_const (P := Tryd.prog) w13 22 5 #[.int .u8 97, .int .u8 98, .int .u8 99] 3 3 Tryd.underlying22 Tryd.underlying5
  generalize hg : w12.heap.size = gh at *
  have hs13' : gh < w13.heap.size := by omega
  clear hs13 hg
  go_wp2_with fail
  clear hcv
  have hL14 := Lies.lit_mark w13 #[.int .u8 97, .int .u8 98, .int .u8 99] (3, 4) [97, 98, 99] rfl (w13.heap.size + 1) (by omega)
  have hb14 : Below w13.heap.size w13 (w13.alloc (.cells #[.int .u8 97, .int .u8 98, .int .u8 99] 5 (3, 4))) := (Below.refl _ _).alloc (Nat.le_refl _) _
  have hs14 : (w13.alloc (.cells #[.int .u8 97, .int .u8 98, .int .u8 99] 5 (3, 4))).heap.size = w13.heap.size + 1 := by simp
  generalize hW14 : w13.alloc (.cells _ 5 (3, 4)) = w14 at *
  clear hW14
  have hH14 := hH13.below hb14
  have hlh := hH13.lt
  refine (add_any gh [] [97, 98, 99] _ 3 3 w14 (w13.heap.size + 1) hgh0 (hT13.below hb14) hH14 (by omega) hL14 (fun a ha => by injection ha with ha; subst ha; show w13.heap.size ≠ gh; omega) rfl (Nat.le_refl _) (by unfold maxLen; omega) (by decide)).mono ?_
  rintro e w15 ⟨rfl, hH15, hg15⟩
  have hr1 := (hq5.below hq5.lt hb14).keep hg15 (by intro e; injection e with e; omega)
  have hr2 := (hq6.below hq6.lt hb14).keep hg15 (by intro e; injection e with e; omega)
  have hB14 := hB13.trans (hb14.mono hB13.size)
  have hB15 : Below w.heap.size w w15 := hB14.grown hg15 hB14.size (fun k e => by injection e with e; omega)
  have hT15 := hT.below hB15
  rw [List.nil_append] at hH15
  clear hH14 hH13 hL14 hb14 hs14 hq5 hq6 hB13 hB14 hT13 hg15 hlh hs13'
  have hS_step : ∀ {W W' : World}, (W.rangeAt g1 0 (cells abc) ∧ W.rangeAt g2 0 (cells abc) ∧ Tab W ∧ HashAt W gh [97, 98, 99]) → Below W.heap.size W W' → (W'.rangeAt g1 0 (cells abc) ∧ W'.rangeAt g2 0 (cells abc) ∧ Tab W' ∧ HashAt W' gh [97, 98, 99]) := by
    rintro W W' ⟨a1, a2, a3, a4⟩ hb
    refine ⟨fun j v hj => ?_, fun j v hj => ?_, a3.below hb, a4.below hb⟩
    · have h1 := a1 j v hj
      exact (hb.cell (p := ⟨g1, 0 + j, none⟩) (World.block_lt_of_cell? W ⟨g1, 0 + j, none⟩ h1)).trans h1
    · have h1 := a2 j v hj
      exact (hb.cell (p := ⟨g2, 0 + j, none⟩) (World.block_lt_of_cell? W ⟨g2, 0 + j, none⟩ h1)).trans h1
  have hSc : w15.drew.rangeAt g1 0 (cells abc) ∧ w15.drew.rangeAt g2 0 (cells abc) ∧ Tab w15.drew ∧ HashAt w15.drew gh [97, 98, 99] := ⟨fun j v hj => by rw [Nat.zero_add]; exact hr1.cell hj, fun j v hj => by rw [Nat.zero_add]; exact hr2.cell hj, hT15.drew, hH15.drew⟩
  have hBc := hB15.drew
  have hNc := hB15.size
  clear hr1 hr2 hB15 hT15 hH15
  change w.heap.size ≤ w15.drew.heap.size at hNc
  go_wp2_with fail
  refine wp_region_held_drew (S := fun W => W.rangeAt g1 0 (cells abc) ∧ W.rangeAt g2 0 (cells abc) ∧ Tab W ∧ HashAt W gh [97, 98, 99]) (by kernel_rfl) hSc (fun hHeld => ?_)
  generalize w15.drew = wd at *
  refine wpAnyH_take (i := 0) (oi := ⟨_, _, _, _, _, _⟩) (v := ?_) rfl (by kernel_rfl) (by kernel_rfl) (by kernel_rfl) (fun _ _ _ h => h) (Or.inl ⟨by rfl, ?_⟩) (by assumption) ?_
  rotate_left
  · intro W hSW; refine exec_load_mid 24 (.tmp 1) ?_ g1 0 ?_ (cells abc) _ hSW.1 Tryd.underlying24 rfl Hsz.out <;> rfl
  try simp only [Act.put, List.setIfInBounds_toArray, List.set_cons_zero, List.set_cons_succ]
  refine wpAnyH_ready (rs := [1]) (by kernel_rfl) (by simp) ?_
  refine AllReadyH.cons (o := ⟨_, _, _, _, _, _⟩) rfl (fun K hK => ?_) AllReadyH.nil
  go_simp
  refine (hex_any abc abc_length _).mono ?_
  rintro e wx ⟨rfl, hb⟩
  rw [hex_abc]
  try simp only []
  have hS1 := hS_step hSc hb
  replace hBc := hBc.trans (hb.mono hNc)
  replace hNc := Nat.le_trans hNc hb.size
  refine hK.out _ _ hS1 (fun hHeld => ?_)
  clear hK K hb hSc
  have hSc := hS1
  clear hS1
  try simp only [Act.put, List.setIfInBounds_toArray, List.set_cons_zero, List.set_cons_succ]
  refine wpAnyH_take (i := 2) (oi := ⟨_, _, _, _, _, _⟩) (v := ?_) rfl (by kernel_rfl) (by kernel_rfl) (by kernel_rfl) (fun _ _ _ h => h) (Or.inl ⟨by rfl, ?_⟩) (by assumption) ?_
  rotate_left
  · intro W hSW; (try dsimp only at hSW); go_simp; try with_reducible rfl
  try simp only [Act.put, List.setIfInBounds_toArray, List.set_cons_zero, List.set_cons_succ]
  refine wpAnyH_take (i := 3) (oi := ⟨_, _, _, _, _, _⟩) (v := ?_) rfl (by kernel_rfl) (by kernel_rfl) (by kernel_rfl) (fun _ _ _ h => h) (Or.inl ⟨by rfl, ?_⟩) (by assumption) ?_
  rotate_left
  · intro W hSW; (try dsimp only at hSW); go_simp; try with_reducible rfl
  try simp only [Act.put, List.setIfInBounds_toArray, List.set_cons_zero, List.set_cons_succ]
  refine wpAnyH_take (i := 4) (oi := ⟨_, _, _, _, _, _⟩) (v := ?_) rfl (by kernel_rfl) (by kernel_rfl) (by kernel_rfl) (fun _ _ _ h => h) (Or.inl ⟨by rfl, ?_⟩) (by assumption) ?_
  rotate_left
  · intro W hSW; refine exec_load_mid 24 (.tmp 2) ?_ g2 0 ?_ (cells abc) _ hSW.2.1 Tryd.underlying24 rfl Hsz.out <;> rfl
  try simp only [Act.put, List.setIfInBounds_toArray, List.set_cons_zero, List.set_cons_succ]
  refine wpAnyH_take (i := 5) (oi := ⟨_, _, _, _, _, _⟩) (v := ?_) rfl (by kernel_rfl) (by kernel_rfl) (by kernel_rfl) (fun _ _ _ h => h) (Or.inl ⟨by rfl, ?_⟩) (by assumption) ?_
  rotate_left
  · intro W hSW; refine exec_load_mid 24 (.tmp 1) ?_ g1 0 ?_ (cells abc) _ hSW.1 Tryd.underlying24 rfl Hsz.out <;> rfl
  try simp only [Act.put, List.setIfInBounds_toArray, List.set_cons_zero, List.set_cons_succ]
  refine wpAnyH_take (i := 6) (oi := ⟨_, _, _, _, _, _⟩) (v := ?_) rfl (by kernel_rfl) (by kernel_rfl) (by kernel_rfl) (fun _ _ _ h => h) (Or.inl ⟨by rfl, ?_⟩) (by assumption) ?_
  rotate_left
  · intro W hSW; refine exec_eql_bytes 24 (.tmp 34) (.tmp 35) 24 ?_ Tryd.underlying24 Tryd.underlying5 Tryd.cells5 Tryd.guardA (xs := abc) (ys := abc) ?_ ?_ abc_length abc_length <;> rfl
  try simp only [Act.put, List.setIfInBounds_toArray, List.set_cons_zero, List.set_cons_succ]
  refine wpAnyH_take (i := 7) (oi := ⟨_, _, _, _, _, _⟩) (v := ?_) rfl (by kernel_rfl) (by kernel_rfl) (by kernel_rfl) (fun _ _ _ h => h) (Or.inl ⟨by rfl, ?_⟩) (by assumption) ?_
  rotate_left
  · intro W hSW; (try dsimp only at hSW); go_simp; try with_reducible rfl
  try simp only [Act.put, List.setIfInBounds_toArray, List.set_cons_zero, List.set_cons_succ]
  refine wpAnyH_take (i := 8) (oi := ⟨_, _, _, _, _, _⟩) (v := ?_) rfl (by kernel_rfl) (by kernel_rfl) (by kernel_rfl) (fun _ _ _ h => h) (Or.inl ⟨by rfl, ?_⟩) (by assumption) ?_
  rotate_left
  · intro W hSW; (try dsimp only at hSW); go_simp; try with_reducible rfl
  try simp only [Act.put, List.setIfInBounds_toArray, List.set_cons_zero, List.set_cons_succ]
  refine wpAnyH_take (i := 9) (oi := ⟨_, _, _, _, _, _⟩) (v := ?_) rfl (by kernel_rfl) (by kernel_rfl) (by kernel_rfl) (fun _ _ _ h => h) (Or.inl ⟨by rfl, ?_⟩) (by assumption) ?_
  rotate_left
  · intro W hSW; (try dsimp only at hSW); go_simp; try with_reducible rfl
  try simp only [Act.put, List.setIfInBounds_toArray, List.set_cons_zero, List.set_cons_succ]
  refine wpAnyH_take (i := 10) (oi := ⟨_, _, _, _, _, _⟩) (v := ?_) rfl (by kernel_rfl) (by kernel_rfl) (by kernel_rfl) (fun _ _ _ h => h) (Or.inl ⟨by rfl, ?_⟩) (by assumption) ?_
  rotate_left
  · intro W hSW; (try dsimp only at hSW); go_simp; try with_reducible rfl
  try simp only [Act.put, List.setIfInBounds_toArray, List.set_cons_zero, List.set_cons_succ]
  refine wpAnyH_take (i := 11) (oi := ⟨_, _, _, _, _, _⟩) (v := ?_) rfl (by kernel_rfl) (by kernel_rfl) (by kernel_rfl) (fun _ _ _ h => h) (Or.inl ⟨by rfl, ?_⟩) (by assumption) ?_
  rotate_left
  · intro W hSW; (try dsimp only at hSW); go_simp; try with_reducible rfl
  try simp only [Act.put, List.setIfInBounds_toArray, List.set_cons_zero, List.set_cons_succ]
  refine wpAnyH_take (i := 12) (oi := ⟨_, _, _, _, _, _⟩) (v := ?_) rfl (by kernel_rfl) (by kernel_rfl) (by kernel_rfl) (fun _ _ _ h => h) (Or.inl ⟨by rfl, ?_⟩) (by assumption) ?_
  rotate_left
  · intro W hSW; (try dsimp only at hSW); go_simp; try with_reducible rfl
  try simp only [Act.put, List.setIfInBounds_toArray, List.set_cons_zero, List.set_cons_succ]
  refine wpAnyH_take (i := 13) (oi := ⟨_, _, _, _, _, _⟩) (v := ?_) rfl (by kernel_rfl) (by kernel_rfl) (by kernel_rfl) (fun _ _ _ h => h) (Or.inl ⟨by rfl, ?_⟩) (by assumption) ?_
  rotate_left
  · intro W hSW; (try dsimp only at hSW); go_simp; try with_reducible rfl
  try simp only [Act.put, List.setIfInBounds_toArray, List.set_cons_zero, List.set_cons_succ]
  refine wpAnyH_take (i := 14) (oi := ⟨_, _, _, _, _, _⟩) (v := ?_) rfl (by kernel_rfl) (by kernel_rfl) (by kernel_rfl) (fun _ _ _ h => h) (Or.inl ⟨by rfl, ?_⟩) (by assumption) ?_
  rotate_left
  · intro W hSW; (try dsimp only at hSW); go_simp; try with_reducible rfl
  try simp only [Act.put, List.setIfInBounds_toArray, List.set_cons_zero, List.set_cons_succ]
  refine wpAnyH_take (i := 15) (oi := ⟨_, _, _, _, _, _⟩) (v := ?_) rfl (by kernel_rfl) (by kernel_rfl) (by kernel_rfl) (fun _ _ _ h => h) (Or.inl ⟨by rfl, ?_⟩) (by assumption) ?_
  rotate_left
  · intro W hSW; (try dsimp only at hSW); go_simp; try with_reducible rfl
  try simp only [Act.put, List.setIfInBounds_toArray, List.set_cons_zero, List.set_cons_succ]
  refine wpAnyH_take (i := 16) (oi := ⟨_, _, _, _, _, _⟩) (v := ?_) rfl (by kernel_rfl) (by kernel_rfl) (by kernel_rfl) (fun _ _ _ h => h) (Or.inl ⟨by rfl, ?_⟩) (by assumption) ?_
  rotate_left
  · intro W hSW; (try dsimp only at hSW); go_simp; try with_reducible rfl
  try simp only [Act.put, List.setIfInBounds_toArray, List.set_cons_zero, List.set_cons_succ]
  refine wpAnyH_take (i := 17) (oi := ⟨_, _, _, _, _, _⟩) (v := ?_) rfl (by kernel_rfl) (by kernel_rfl) (by kernel_rfl) (fun _ _ _ h => h) (Or.inl ⟨by rfl, ?_⟩) (by assumption) ?_
  rotate_left
  · intro W hSW; (try dsimp only at hSW); go_simp; try with_reducible rfl
  try simp only [Act.put, List.setIfInBounds_toArray, List.set_cons_zero, List.set_cons_succ]
  refine wpAnyH_take (i := 19) (oi := ⟨_, _, _, _, _, _⟩) (v := ?_) rfl (by kernel_rfl) (by kernel_rfl) (by kernel_rfl) (fun _ _ _ h => h) (Or.inl ⟨by rfl, ?_⟩) (by assumption) ?_
  rotate_left
  · intro W hSW; refine exec_load_mid 24 (.tmp 1) ?_ g1 0 ?_ (cells abc) _ hSW.1 Tryd.underlying24 rfl Hsz.out <;> rfl
  try simp only [Act.put, List.setIfInBounds_toArray, List.set_cons_zero, List.set_cons_succ]
  refine wpAnyH_ready (rs := [18]) (by kernel_rfl) (by simp) ?_
  refine AllReadyH.cons (o := ⟨_, _, _, _, _, _⟩) rfl (fun K hK => ?_) AllReadyH.nil
  go_simp
  refine (sum_any gh [97, 98, 99] _ hSc.2.2.1 hSc.2.2.2 (by decide)).mono ?_
  rintro e wx ⟨rfl, hb⟩
  rw [sha_abc']
  try simp only []
  have hS18 := hS_step hSc hb
  replace hBc := hBc.trans (hb.mono hNc)
  replace hNc := Nat.le_trans hNc hb.size
  refine hK.out _ _ hS18 (fun hHeld => ?_)
  clear hK K hb hSc
  have hSc := hS18
  clear hS18
  try simp only [Act.put, List.setIfInBounds_toArray, List.set_cons_zero, List.set_cons_succ]
  refine wpAnyH_take (i := 20) (oi := ⟨_, _, _, _, _, _⟩) (v := ?_) rfl (by kernel_rfl) (by kernel_rfl) (by kernel_rfl) (fun _ _ _ h => h) (Or.inl ⟨by rfl, ?_⟩) (by assumption) ?_
  rotate_left
  · intro W hSW; refine exec_eql_bytes 24 (.tmp 48) (.tmp 49) 24 ?_ Tryd.underlying24 Tryd.underlying5 Tryd.cells5 Tryd.guardA (xs := abc) (ys := abc) ?_ ?_ abc_length abc_length <;> rfl
  try simp only [Act.put, List.setIfInBounds_toArray, List.set_cons_zero, List.set_cons_succ]
  refine wpAnyH_take (i := 21) (oi := ⟨_, _, _, _, _, _⟩) (v := ?_) rfl (by kernel_rfl) (by kernel_rfl) (by kernel_rfl) (fun _ _ _ h => h) (Or.inl ⟨by rfl, ?_⟩) (by assumption) ?_
  rotate_left
  · intro W hSW; (try dsimp only at hSW); go_simp; try with_reducible rfl
  try simp only [Act.put, List.setIfInBounds_toArray, List.set_cons_zero, List.set_cons_succ]
  refine wpAnyH_take (i := 22) (oi := ⟨_, _, _, _, _, _⟩) (v := ?_) rfl (by kernel_rfl) (by kernel_rfl) (by kernel_rfl) (fun _ _ _ h => h) (Or.inl ⟨by rfl, ?_⟩) (by assumption) ?_
  rotate_left
  · intro W hSW; (try dsimp only at hSW); go_simp; try with_reducible rfl
  try simp only [Act.put, List.setIfInBounds_toArray, List.set_cons_zero, List.set_cons_succ]
  refine wpAnyH_take (i := 23) (oi := ⟨_, _, _, _, _, _⟩) (v := ?_) rfl (by kernel_rfl) (by kernel_rfl) (by kernel_rfl) (fun _ _ _ h => h) (Or.inl ⟨by rfl, ?_⟩) (by assumption) ?_
  rotate_left
  · intro W hSW; refine exec_load_mid 24 (.tmp 1) ?_ g1 0 ?_ (cells abc) _ hSW.1 Tryd.underlying24 rfl Hsz.out <;> rfl
  try simp only [Act.put, List.setIfInBounds_toArray, List.set_cons_zero, List.set_cons_succ]
  refine wpAnyH_take (i := 24) (oi := ⟨_, _, _, _, _, _⟩) (v := ?_) rfl (by kernel_rfl) (by kernel_rfl) (by kernel_rfl) (fun _ _ _ h => h) (Or.inl ⟨by rfl, ?_⟩) (by assumption) ?_
  rotate_left
  · intro W hSW; refine exec_load_mid 24 (.tmp 1) ?_ g1 0 ?_ (cells abc) _ hSW.1 Tryd.underlying24 rfl Hsz.out <;> rfl
  try simp only [Act.put, List.setIfInBounds_toArray, List.set_cons_zero, List.set_cons_succ]
  refine wpAnyH_ready (rs := [25]) (by kernel_rfl) (by simp) ?_
  refine AllReadyH.cons (o := ⟨_, _, _, _, _, _⟩) rfl (fun K hK => ?_) AllReadyH.nil
  go_simp
  refine (less_any abc abc abc_length abc_length _).mono ?_
  rintro e wx ⟨rfl, hb⟩
  rw [less_self]
  try simp only []
  have hS25 := hS_step hSc hb
  replace hBc := hBc.trans (hb.mono hNc)
  replace hNc := Nat.le_trans hNc hb.size
  refine hK.out _ _ hS25 (fun hHeld => ?_)
  clear hK K hb hSc
  have hSc := hS25
  clear hS25
  try simp only [Act.put, List.setIfInBounds_toArray, List.set_cons_zero, List.set_cons_succ]
  refine wpAnyH_take (i := 26) (oi := ⟨_, _, _, _, _, _⟩) (v := ?_) rfl (by kernel_rfl) (by kernel_rfl) (by kernel_rfl) (fun _ _ _ h => h) (Or.inl ⟨by rfl, ?_⟩) (by assumption) ?_
  rotate_left
  · intro W hSW; (try dsimp only at hSW); go_simp; try with_reducible rfl
  try simp only [Act.put, List.setIfInBounds_toArray, List.set_cons_zero, List.set_cons_succ]
  refine wpAnyH_take (i := 27) (oi := ⟨_, _, _, _, _, _⟩) (v := ?_) rfl (by kernel_rfl) (by kernel_rfl) (by kernel_rfl) (fun _ _ _ h => h) (Or.inl ⟨by rfl, ?_⟩) (by assumption) ?_
  rotate_left
  · intro W hSW; (try dsimp only at hSW); go_simp; try with_reducible rfl
  try simp only [Act.put, List.setIfInBounds_toArray, List.set_cons_zero, List.set_cons_succ]
  refine wpAnyH_take (i := 28) (oi := ⟨_, _, _, _, _, _⟩) (v := ?_) rfl (by kernel_rfl) (by kernel_rfl) (by kernel_rfl) (fun _ _ _ h => h) (Or.inl ⟨by rfl, ?_⟩) (by assumption) ?_
  rotate_left
  · intro W hSW; (try dsimp only at hSW); go_simp; try with_reducible rfl
  try simp only [Act.put, List.setIfInBounds_toArray, List.set_cons_zero, List.set_cons_succ]
  refine wpAnyH_take (i := 29) (oi := ⟨_, _, _, _, _, _⟩) (v := ?_) rfl (by kernel_rfl) (by kernel_rfl) (by kernel_rfl) (fun _ _ _ h => h) (Or.inl ⟨by rfl, ?_⟩) (by assumption) ?_
  rotate_left
  · intro W hSW; refine exec_build_to 24 #[] ?_ (cells zero32) ?_ <;> kernel_rfl
  try simp only [Act.put, List.setIfInBounds_toArray, List.set_cons_zero, List.set_cons_succ]
  refine wpAnyH_take (i := 30) (oi := ⟨_, _, _, _, _, _⟩) (v := ?_) rfl (by kernel_rfl) (by kernel_rfl) (by kernel_rfl) (fun _ _ _ h => h) (Or.inl ⟨by rfl, ?_⟩) (by assumption) ?_
  rotate_left
  · intro W hSW; refine exec_load_mid 24 (.tmp 1) ?_ g1 0 ?_ (cells abc) _ hSW.1 Tryd.underlying24 rfl Hsz.out <;> rfl
  try simp only [Act.put, List.setIfInBounds_toArray, List.set_cons_zero, List.set_cons_succ]
  refine wpAnyH_ready (rs := [31]) (by kernel_rfl) (by simp) ?_
  refine AllReadyH.cons (o := ⟨_, _, _, _, _, _⟩) rfl (fun K hK => ?_) AllReadyH.nil
  go_simp
  refine (less_any zero32 abc rfl abc_length _).mono ?_
  rintro e wx ⟨rfl, hb⟩
  rw [less_zero]
  try simp only []
  have hS31 := hS_step hSc hb
  replace hBc := hBc.trans (hb.mono hNc)
  replace hNc := Nat.le_trans hNc hb.size
  refine hK.out _ _ hS31 (fun hHeld => ?_)
  clear hK K hb hSc
  have hSc := hS31
  clear hS31
  try simp only [Act.put, List.setIfInBounds_toArray, List.set_cons_zero, List.set_cons_succ]
  refine wpAnyH_take (i := 32) (oi := ⟨_, _, _, _, _, _⟩) (v := ?_) rfl (by kernel_rfl) (by kernel_rfl) (by kernel_rfl) (fun _ _ _ h => h) (Or.inl ⟨by rfl, ?_⟩) (by assumption) ?_
  rotate_left
  · intro W hSW; (try dsimp only at hSW); go_simp; try with_reducible rfl
  try simp only [Act.put, List.setIfInBounds_toArray, List.set_cons_zero, List.set_cons_succ]
  refine wpAnyH_take (i := 33) (oi := ⟨_, _, _, _, _, _⟩) (v := ?_) rfl (by kernel_rfl) (by kernel_rfl) (by kernel_rfl) (fun _ _ _ h => h) (Or.inl ⟨by rfl, ?_⟩) (by assumption) ?_
  rotate_left
  · intro W hSW; (try dsimp only at hSW); go_simp; try with_reducible rfl
  try simp only [Act.put, List.setIfInBounds_toArray, List.set_cons_zero, List.set_cons_succ]
  refine wpAnyH_take (i := 34) (oi := ⟨_, _, _, _, _, _⟩) (v := ?_) rfl (by kernel_rfl) (by kernel_rfl) (by kernel_rfl) (fun _ _ _ h => h) (Or.inl ⟨by rfl, ?_⟩) (by assumption) ?_
  rotate_left
  · intro W hSW; refine exec_build_to 24 #[(0, .const (.int .u8 0)), (1, .const (.int .u8 0)), (2, .const (.int .u8 0)), (3, .const (.int .u8 0)), (4, .const (.int .u8 0)), (5, .const (.int .u8 7))] ?_ (cells seven) ?_ <;> kernel_rfl
  try simp only [Act.put, List.setIfInBounds_toArray, List.set_cons_zero, List.set_cons_succ]
  refine wpAnyH_ready (rs := [35]) (by kernel_rfl) (by simp) ?_
  refine AllReadyH.cons (o := ⟨_, _, _, _, _, _⟩) rfl (fun K hK => ?_) AllReadyH.nil
  go_simp
  refine (home_any seven rfl 5 _ (by decide)).mono ?_
  rintro e wx ⟨rfl, hb⟩
  rw [home_seven]
  try simp only []
  have hS35 := hS_step hSc hb
  replace hBc := hBc.trans (hb.mono hNc)
  replace hNc := Nat.le_trans hNc hb.size
  refine hK.out _ _ hS35 (fun hHeld => ?_)
  clear hK K hb hSc
  have hSc := hS35
  clear hS35
  try simp only [Act.put, List.setIfInBounds_toArray, List.set_cons_zero, List.set_cons_succ]
  refine wpAnyH_take (i := 36) (oi := ⟨_, _, _, _, _, _⟩) (v := ?_) rfl (by kernel_rfl) (by kernel_rfl) (by kernel_rfl) (fun _ _ _ h => h) (Or.inl ⟨by rfl, ?_⟩) (by assumption) ?_
  rotate_left
  · intro W hSW; (try dsimp only at hSW); go_simp; try with_reducible rfl
  try simp only [Act.put, List.setIfInBounds_toArray, List.set_cons_zero, List.set_cons_succ]
  refine wpAnyH_take (i := 37) (oi := ⟨_, _, _, _, _, _⟩) (v := ?_) rfl (by kernel_rfl) (by kernel_rfl) (by kernel_rfl) (fun _ _ _ h => h) (Or.inl ⟨by rfl, ?_⟩) (by assumption) ?_
  rotate_left
  · intro W hSW; (try dsimp only at hSW); go_simp; try with_reducible rfl
  try simp only [Act.put, List.setIfInBounds_toArray, List.set_cons_zero, List.set_cons_succ]
  refine wpAnyH_take (i := 38) (oi := ⟨_, _, _, _, _, _⟩) (v := ?_) rfl (by kernel_rfl) (by kernel_rfl) (by kernel_rfl) (fun _ _ _ h => h) (Or.inl ⟨by rfl, ?_⟩) (by assumption) ?_
  rotate_left
  · intro W hSW; (try dsimp only at hSW); go_simp; try with_reducible rfl
  try simp only [Act.put, List.setIfInBounds_toArray, List.set_cons_zero]
  refine wpAnyH_done (by kernel_rfl) ?_ _
  go_wp2_with fail
  go_ret
  exact ⟨rfl, hBc⟩
end Go.Proofs.YthkbbghoofknpaaDoor
