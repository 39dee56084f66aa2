/-
  The walk of the law DigestPlaces.
-/
import Derived.Test.YthkbbghoofknpaaDoorGrow
namespace Go.Proofs.YthkbbghoofknpaaDoor
open Go.RowKit
set_option linter.unusedVariables false

theorem range_below {w w' : World} {g : Nat} {cs : List Value} (h : w.rangeAt g 0 cs) (hg : g < w.heap.size) (hb : Below w.heap.size w w') : w'.rangeAt g 0 cs := fun j v hj => (hb.cell (p := ⟨g, 0 + j, none⟩) hg).trans (h j v hj)
theorem sz_cells {xs : List UInt8} (h : xs.length = 32) : (Tryd.prog.info? 24).map (·.size) = some (cells xs).length := by rw [Tryd.sizeA, cells_length, h]
theorem RowV.range {w : World} {g : Nat} {t : TypeId} {cs : List Value} (h : RowV w g t cs) : w.rangeAt g 0 cs := fun j v hj => by rw [Nat.zero_add]; exact h.cell hj

theorem places_long (a b : List UInt8) (o : Int) (s : ByteArray) (w : World) (hT : Tab w) (h : 200 < s.size) (hm : s.size ≤ 9223372036854775807) :
    Calls Tryd.prog 5 #[.agg (cells a).toArray, .agg (cells b).toArray, .int .i64 o, .string s] w fun e w' => e = .returned (.bool true) ∧ Below w.heap.size w w' := by
  have hd : decide (200 < (s.size : Int)) = true := decide_eq_true (by omega)
  go_enter Tryd.func5, Tryd.ntmps5
  go_wp2_with (with_reducible refine at_box 24 ?_; refine wpList_box_rowV rfl 24 _ rfl (cells a) rfl ?_)
  intro w1 hr1 hb1 hs1
  refine wpList_box_rowV rfl 24 _ rfl (cells b) rfl ?_
  intro w2 hr2 hb2 hs2
  have hB2 : Below w.heap.size w w2 := hb1.trans (hb2.mono (by omega))
  clear hr1 hb1 hr2 hb2 hs2 hs1
  go_wp2_with fail
  refine (works3_any w2 (hT.below hB2)).mono ?_
  rintro e w3 ⟨rfl, hb3⟩
  go_wp2_with fail
  go_ret
  exact ⟨rfl, hB2.trans (hb3.mono hB2.size)⟩

theorem exec_lss_hex {P : Program} {W : World} {ρ : Operand → Value} {o : Oper} (x y : Operand) (u : TypeId) (ho : o.op = .binOp .lss 9 x y u) {xs ys : List UInt8} (hx : ρ x = .string ⟨(hexB xs).toArray⟩) (hy : ρ y = .string ⟨(hexB ys).toArray⟩) : (execOp ρ o).run P W = .ok (.value (.bool (Op.bytesLess xs ys))) W := by
  have e : Op.bytesLess (ByteArray.mk (hexB xs).toArray).toList (ByteArray.mk (hexB ys).toArray).toList = Op.bytesLess xs ys := by
    rw [ByteArray.toList_eq, ByteArray.toList_eq]
    exact hexB_less xs ys
  have e2 : (eqGuard .lss 9 x y (.string ⟨(hexB xs).toArray⟩) (.string ⟨(hexB ys).toArray⟩)).run P W = .ok () W := by simp [eqGuard]
  simp only [execOp, ho, hx, hy, Sem.run_bind, e2, Sem.run_pure, Result.andThen_ok, binOp_string_lss, e]
theorem exec_neq_str {P : Program} {W : World} {ρ : Operand → Value} {o : Oper} (x y : Operand) (u : TypeId) (ho : o.op = .binOp .neq 9 x y u) {s : ByteArray} (hx : ρ x = .string s) (hy : ρ y = .string s) : (execOp ρ o).run P W = .ok (.value (.bool false)) W := by
  have e : (binOp .neq 9 (.string s) (.string s)).run P W = .ok (.bool false) W := by simp [binOp, Op.stringOp]
  have e2 : (eqGuard .neq 9 x y (.string s) (.string s)).run P W = .ok () W := by simp [eqGuard]
  simp only [execOp, ho, hx, hy, Sem.run_bind, e, e2, Result.andThen_ok, Sem.run_pure]

set_option maxRecDepth 100000 in
set_option maxHeartbeats 4000000 in
theorem places_any (a b y : List UInt8) (f : Int) (st : ByteArray) (ha : a.length = 32) (hb32 : b.length = 32) (hy : y.length = 32) (o : Int) (ho : o ≤ 9223372036854775807) (w : World) (hT : Tab w) (hss : st.size ≤ 200)
    (hp : parseB st.data.toList = (y, f)) (hcase : (f = 0 ∧ st = ⟨(hexB y).toArray⟩) ∨ (f = 3 ∧ y = zero32)) :
    Calls Tryd.prog 5 #[.agg (cells a).toArray, .agg (cells b).toArray, .int .i64 o, .string st] w fun e w' => e = .returned (.bool true) ∧ Below w.heap.size w w' := by
  have hd : decide (200 < (st.size : Int)) = false := decide_eq_false (by omega)
  have Hpa := Lib.hid (parse_hex a ha)
  have Hpy := Lib.hid hp
  have Hcase := Lib.hid hcase
  have Hha := Lib.hid ha
  have Hhy := Lib.hid hy
  have Hhb := Lib.hid hb32
  have HszA : Hid ((Tryd.prog.info? 24).map (·.size) = some ((cells a).toArray).size) := sz_cells ha
  have HszY : Hid ((Tryd.prog.info? 24).map (·.size) = some ((cells y).toArray).size) := sz_cells hy
  have HoldA : Hid (((cells zero32).toArray).size = ((cells a).toArray).size) := by show _ = _; rw [List.size_toArray, List.size_toArray, cells_length, cells_length, ha]; rfl
  have HoldY : Hid (((cells zero32).toArray).size = ((cells y).toArray).size) := by show _ = _; rw [List.size_toArray, List.size_toArray, cells_length, cells_length, hy]; rfl
  clear ha hb32 hy hp hcase
  go_enter Tryd.func5, Tryd.ntmps5
  go_wp2_with (with_reducible refine at_box 24 ?_; refine wpList_box_rowV rfl 24 _ rfl (cells a) rfl ?_)
  intro w1 hr1 hb1 hs1
  refine wpList_box_rowV rfl 24 _ rfl (cells b) rfl ?_
  intro w2 hr2 hb2 hs2
  rw [hs1] at hr2 hb2 ⊢
  have hA2 := hr1.below (by omega) hb2
  have hB2 : Below w.heap.size w w2 := hb1.trans (hb2.mono (by omega))
  clear hr1 hb1 hs1 hb2 hs2
  generalize w.heap.size + 1 = gB at *
  go_wp2_with ((with_reducible refine at_load 24 ?_); refine wpList_load_row rfl 24 _ rfl w.heap.size rfl 24 _ (0, 0) _ hA2 Tryd.underlying24 rfl HszA.out ?_)
  go_wp2_with fail
  refine (hex_any a Hha.out _).mono ?_
  rintro e w3 ⟨rfl, hb3⟩
  go_wp2_with fail
  refine (parse_any _ _ (by show (hexB a).length ≤ _; rw [hexB_length, Hha.out]; omega)).mono ?_
  rintro e w4 ⟨rfl, hb4⟩
  rw [show (ByteArray.mk (hexB a).toArray).data.toList = hexB a from rfl, Hpa.out]
  have hb24 := below_seq hb3 hb4
  have hA4 := hA2.below hA2.lt hb24
  have hB4 := hr2.below hr2.lt hb24
  have hBb4 := hB2.trans (hb24.mono hB2.size)
  clear hA2 hr2 hB2 hb3 hb4 hb24
  go_wp2_with ((with_reducible refine at_alloc 24 ?_); refine wpList_alloc_rowV rfl 24 rfl (cells zero32) Tryd.zeroA ?_)
  intro w5 hr5 hb5 hs5
  refine wpList_store_row rfl 24 _ _ rfl w4.heap.size (cells a).toArray rfl rfl 24 _ hr5 HszA.out HoldA.out (cells_oneCell _) ?_
  have hX6 := hr5.put (cells a)
  have hA6 := (hA4.below hA4.lt hb5).put_other (k := w4.heap.size) (by have := hA4.lt; omega) (cells a).toArray
  have hB6 := (hB4.below hB4.lt hb5).put_other (k := w4.heap.size) (by have := hB4.lt; omega) (cells a).toArray
  have hBb6 : Below w.heap.size w (w5.setRow w4.heap.size (cells a).toArray) := below_setRow (hBb4.trans (hb5.mono hBb4.size)) hBb4.size _
  clear hr5 hb5 hs5 hA4 hB4 hBb4
  generalize w5.setRow w4.heap.size (cells a).toArray = w6 at *
  generalize w4.heap.size = gX at *
  go_wp2_with fail
  refine (parse_any st _ (by omega)).mono ?_
  rintro e w7 ⟨rfl, hb7⟩
  rw [Hpy.out]
  have hA7 := hA6.below hA6.lt hb7
  have hB7 := hB6.below hB6.lt hb7
  have hX7 := hX6.below hX6.lt hb7
  have hBb7 := hBb6.trans (hb7.mono hBb6.size)
  clear hA6 hB6 hX6 hBb6 hb7
  go_wp2_with ((with_reducible refine at_alloc 24 ?_); refine wpList_alloc_rowV rfl 24 rfl (cells zero32) Tryd.zeroA ?_)
  intro w5 hr5 hb5 hs5
  refine wpList_store_row rfl 24 _ _ rfl w7.heap.size (cells y).toArray rfl rfl 24 _ hr5 HszY.out HoldY.out (cells_oneCell _) ?_
  have hY8 := hr5.put (cells y)
  have hA8 := (hA7.below hA7.lt hb5).put_other (k := w7.heap.size) (by have := hA7.lt; omega) (cells y).toArray
  have hB8 := (hB7.below hB7.lt hb5).put_other (k := w7.heap.size) (by have := hB7.lt; omega) (cells y).toArray
  have hX8 := (hX7.below hX7.lt hb5).put_other (k := w7.heap.size) (by have := hX7.lt; omega) (cells y).toArray
  have hBb8 : Below w.heap.size w (w5.setRow w7.heap.size (cells y).toArray) := below_setRow (hBb7.trans (hb5.mono hBb7.size)) hBb7.size _
  clear hr5 hb5 hs5 hA7 hB7 hX7 hBb7
  generalize w5.setRow w7.heap.size (cells y).toArray = w8 at *
  generalize w7.heap.size = gY at *
  have ha := Hha.out
  have hb32 := Hhb.out
  have hy := Hhy.out
  have hTd := (hT.below hBb8).drew
  have hBd : Below w.heap.size w w8.drew := hBb8.drew
  have hRA : w8.drew.rangeAt w.heap.size 0 (cells a) := hA8.drew.range
  have hRB : w8.drew.rangeAt gB 0 (cells b) := hB8.drew.range
  have hRX : w8.drew.rangeAt gX 0 (cells a) := hX8.drew.range
  have hRY : w8.drew.rangeAt gY 0 (cells y) := hY8.drew.range
  have hltA : w.heap.size < w8.drew.heap.size := hA8.lt
  have hltB : gB < w8.drew.heap.size := hB8.lt
  have hltX : gX < w8.drew.heap.size := hX8.lt
  have hltY : gY < w8.drew.heap.size := hY8.lt
  clear hA8 hB8 hX8 hY8 hBb8 hd
  generalize hgA : w.heap.size = gA at *
  have HgA := Lib.hid hgA
  clear hgA
  go_wp2_with fail
  have hnn := Hcase.out
  clear Hcase
  obtain ⟨wd, hwd⟩ : ∃ wd, w8.drew = wd := ⟨_, rfl⟩
  rw [hwd] at hTd hBd hRA hRB hRX hRY hltA hltB hltX hltY
  have hSc : Below wd.heap.size wd w8.drew := by rw [hwd]; exact Below.refl _ _
  refine wp_region_held_drew (S := fun W => Below wd.heap.size wd W) (by kernel_rfl) hSc (fun hHeld => ?_)
  rw [hwd] at hSc hHeld ⊢
  clear hwd
  rcases hnn with ⟨rfl, rfl⟩ | ⟨rfl, rfl⟩
  · refine wpAnyH_take (i := 0) (oi := ⟨_, _, _, _, _, _⟩) (v := ?_) rfl (by kernel_rfl) (by kernel_rfl) (by kernel_rfl) (fun _ _ _ h => h) (Or.inl ⟨by rfl, ?_⟩) (by assumption) ?_
    rotate_left
    · intro W hSW; refine exec_load_mid 24 (.tmp 4) ?_ gA 0 ?_ (cells a) _ (range_below hRA hltA hSW) Tryd.underlying24 rfl (sz_cells ha) <;> rfl
    try simp only [Act.put, List.setIfInBounds_toArray, List.set_cons_zero, List.set_cons_succ]
    refine wpAnyH_take (i := 2) (oi := ⟨_, _, _, _, _, _⟩) (v := ?_) rfl (by kernel_rfl) (by kernel_rfl) (by kernel_rfl) (fun _ _ _ h => h) (Or.inl ⟨by rfl, ?_⟩) (by assumption) ?_
    rotate_left
    · intro W hSW; refine exec_load_mid 24 (.tmp 4) ?_ gA 0 ?_ (cells a) _ (range_below hRA hltA hSW) Tryd.underlying24 rfl (sz_cells ha) <;> rfl
    try simp only [Act.put, List.setIfInBounds_toArray, List.set_cons_zero, List.set_cons_succ]
    refine wpAnyH_ready (rs := [1]) (by kernel_rfl) (by simp) ?_
    refine AllReadyH.cons (o := ⟨_, _, _, _, _, _⟩) rfl (fun K hK => ?_) AllReadyH.nil
    go_simp
    refine (hex_any a ha _).mono ?_
    rintro e wx ⟨rfl, hb⟩
    try simp only []
    have hS1 := hSc.trans (hb.mono hSc.size)
    refine hK.out _ _ hS1 (fun hHeld => ?_)
    clear hK K hb hSc
    have hSc := hS1
    clear hS1
    try simp only [Act.put, List.setIfInBounds_toArray, List.set_cons_zero, List.set_cons_succ]
    refine wpAnyH_ready (rs := [3]) (by kernel_rfl) (by simp) ?_
    refine AllReadyH.cons (o := ⟨_, _, _, _, _, _⟩) rfl (fun K hK => ?_) AllReadyH.nil
    go_simp
    refine (rhex_any a ha _).mono ?_
    rintro e wx ⟨rfl, hb⟩
    try simp only []
    have hS3 := hSc.trans (hb.mono hSc.size)
    refine hK.out _ _ hS3 (fun hHeld => ?_)
    clear hK K hb hSc
    have hSc := hS3
    clear hS3
    try simp only [Act.put, List.setIfInBounds_toArray, List.set_cons_zero, List.set_cons_succ]
    refine wpAnyH_take (i := 4) (oi := ⟨_, _, _, _, _, _⟩) (v := ?_) rfl (by kernel_rfl) (by kernel_rfl) (by kernel_rfl) (fun _ _ _ h => h) (Or.inl ⟨by rfl, ?_⟩) (by assumption) ?_
    rotate_left
    · intro W hSW; (try dsimp only at hSW); go_simp; try with_reducible rfl
    try simp only [Act.put, List.setIfInBounds_toArray, List.set_cons_zero, List.set_cons_succ]
    refine wpAnyH_take (i := 5) (oi := ⟨_, _, _, _, _, _⟩) (v := ?_) rfl (by kernel_rfl) (by kernel_rfl) (by kernel_rfl) (fun _ _ _ h => h) (Or.inl ⟨by rfl, ?_⟩) (by assumption) ?_
    rotate_left
    · intro W hSW; (try dsimp only at hSW); go_simp; try with_reducible rfl
    try simp only [Act.put, List.setIfInBounds_toArray, List.set_cons_zero, List.set_cons_succ]
    refine wpAnyH_take (i := 6) (oi := ⟨_, _, _, _, _, _⟩) (v := ?_) rfl (by kernel_rfl) (by kernel_rfl) (by kernel_rfl) (fun _ _ _ h => h) (Or.inl ⟨by rfl, ?_⟩) (by assumption) ?_
    rotate_left
    · intro W hSW; refine exec_load_mid 24 (.tmp 9) ?_ gX 0 ?_ (cells a) _ (range_below hRX hltX hSW) Tryd.underlying24 rfl (sz_cells ha) <;> rfl
    try simp only [Act.put, List.setIfInBounds_toArray, List.set_cons_zero, List.set_cons_succ]
    refine wpAnyH_take (i := 7) (oi := ⟨_, _, _, _, _, _⟩) (v := ?_) rfl (by kernel_rfl) (by kernel_rfl) (by kernel_rfl) (fun _ _ _ h => h) (Or.inl ⟨by rfl, ?_⟩) (by assumption) ?_
    rotate_left
    · intro W hSW; refine exec_load_mid 24 (.tmp 4) ?_ gA 0 ?_ (cells a) _ (range_below hRA hltA hSW) Tryd.underlying24 rfl (sz_cells ha) <;> rfl
    try simp only [Act.put, List.setIfInBounds_toArray, List.set_cons_zero, List.set_cons_succ]
    refine wpAnyH_take (i := 8) (oi := ⟨_, _, _, _, _, _⟩) (v := ?_) rfl (by kernel_rfl) (by kernel_rfl) (by kernel_rfl) (fun _ _ _ h => h) (Or.inl ⟨by rfl, ?_⟩) (by assumption) ?_
    rotate_left
    · intro W hSW; refine exec_neq_bytes 24 (.tmp 34) (.tmp 35) 24 ?_ Tryd.underlying24 Tryd.underlying5 Tryd.cells5 Tryd.guardA (xs := a) ?_ ?_ ha <;> rfl
    try simp only [Act.put, List.setIfInBounds_toArray, List.set_cons_zero, List.set_cons_succ]
    refine wpAnyH_take (i := 9) (oi := ⟨_, _, _, _, _, _⟩) (v := ?_) rfl (by kernel_rfl) (by kernel_rfl) (by kernel_rfl) (fun _ _ _ h => h) (Or.inl ⟨by rfl, ?_⟩) (by assumption) ?_
    rotate_left
    · intro W hSW; (try dsimp only at hSW); go_simp; try with_reducible rfl
    try simp only [Act.put, List.setIfInBounds_toArray, List.set_cons_zero, List.set_cons_succ]
    refine wpAnyH_take (i := 10) (oi := ⟨_, _, _, _, _, _⟩) (v := ?_) rfl (by kernel_rfl) (by kernel_rfl) (by kernel_rfl) (fun _ _ _ h => h) (Or.inl ⟨by rfl, ?_⟩) (by assumption) ?_
    rotate_left
    · intro W hSW; (try dsimp only at hSW); go_simp; try with_reducible rfl
    try simp only [Act.put, List.setIfInBounds_toArray, List.set_cons_zero, List.set_cons_succ]
    refine wpAnyH_take (i := 11) (oi := ⟨_, _, _, _, _, _⟩) (v := ?_) rfl (by kernel_rfl) (by kernel_rfl) (by kernel_rfl) (fun _ _ _ h => h) (Or.inl ⟨by rfl, ?_⟩) (by assumption) ?_
    rotate_left
    · intro W hSW; (try dsimp only at hSW); go_simp; try with_reducible rfl
    try simp only [Act.put, List.setIfInBounds_toArray, List.set_cons_zero, List.set_cons_succ]
    refine wpAnyH_take (i := 12) (oi := ⟨_, _, _, _, _, _⟩) (v := ?_) rfl (by kernel_rfl) (by kernel_rfl) (by kernel_rfl) (fun _ _ _ h => h) (Or.inl ⟨by rfl, ?_⟩) (by assumption) ?_
    rotate_left
    · intro W hSW; (try dsimp only at hSW); go_simp; try with_reducible rfl
    try simp only [Act.put, List.setIfInBounds_toArray, List.set_cons_zero, List.set_cons_succ]
    refine wpAnyH_take (i := 13) (oi := ⟨_, _, _, _, _, _⟩) (v := ?_) rfl (by kernel_rfl) (by kernel_rfl) (by kernel_rfl) (fun _ _ _ h => h) (Or.inl ⟨by rfl, ?_⟩) (by assumption) ?_
    rotate_left
    · intro W hSW; (try dsimp only at hSW); go_simp; try with_reducible rfl
    try simp only [Act.put, List.setIfInBounds_toArray, List.set_cons_zero, List.set_cons_succ]
    refine wpAnyH_take (i := 14) (oi := ⟨_, _, _, _, _, _⟩) (v := ?_) rfl (by kernel_rfl) (by kernel_rfl) (by kernel_rfl) (fun _ _ _ h => h) (Or.inl ⟨by rfl, ?_⟩) (by assumption) ?_
    rotate_left
    · intro W hSW; (try dsimp only at hSW); go_simp; try with_reducible rfl
    try simp only [Act.put, List.setIfInBounds_toArray, List.set_cons_zero, List.set_cons_succ]
    refine wpAnyH_take (i := 15) (oi := ⟨_, _, _, _, _, _⟩) (v := ?_) rfl (by kernel_rfl) (by kernel_rfl) (by kernel_rfl) (fun _ _ _ h => h) (Or.inl ⟨by rfl, ?_⟩) (by assumption) ?_
    rotate_left
    · intro W hSW; (try dsimp only at hSW); go_simp; try with_reducible rfl
    try simp only [Act.put, List.setIfInBounds_toArray, List.set_cons_zero, List.set_cons_succ]
    refine wpAnyH_take (i := 16) (oi := ⟨_, _, _, _, _, _⟩) (v := ?_) rfl (by kernel_rfl) (by kernel_rfl) (by kernel_rfl) (fun _ _ _ h => h) (Or.inl ⟨by rfl, ?_⟩) (by assumption) ?_
    rotate_left
    · intro W hSW; (try dsimp only at hSW); go_simp; try with_reducible rfl
    try simp only [Act.put, List.setIfInBounds_toArray, List.set_cons_zero, List.set_cons_succ]
    refine wpAnyH_take (i := 17) (oi := ⟨_, _, _, _, _, _⟩) (v := ?_) rfl (by kernel_rfl) (by kernel_rfl) (by kernel_rfl) (fun _ _ _ h => h) (Or.inl ⟨by rfl, ?_⟩) (by assumption) ?_
    rotate_left
    · intro W hSW; (try dsimp only at hSW); go_simp; try with_reducible rfl
    try simp only [Act.put, List.setIfInBounds_toArray, List.set_cons_zero, List.set_cons_succ]
    refine wpAnyH_take (i := 18) (oi := ⟨_, _, _, _, _, _⟩) (v := ?_) rfl (by kernel_rfl) (by kernel_rfl) (by kernel_rfl) (fun _ _ _ h => h) (Or.inl ⟨by rfl, ?_⟩) (by assumption) ?_
    rotate_left
    · intro W hSW; refine exec_load_mid 24 (.tmp 11) ?_ gY 0 ?_ (cells y) _ (range_below hRY hltY hSW) Tryd.underlying24 rfl (sz_cells hy) <;> rfl
    try simp only [Act.put, List.setIfInBounds_toArray, List.set_cons_zero, List.set_cons_succ]
    refine wpAnyH_take (i := 20) (oi := ⟨_, _, _, _, _, _⟩) (v := ?_) rfl (by kernel_rfl) (by kernel_rfl) (by kernel_rfl) (fun _ _ _ h => h) (Or.inl ⟨by rfl, ?_⟩) (by assumption) ?_
    rotate_left
    · intro W hSW; (try dsimp only at hSW); go_simp; try with_reducible rfl
    try simp only [Act.put, List.setIfInBounds_toArray, List.set_cons_zero, List.set_cons_succ]
    refine wpAnyH_ready (rs := [19]) (by kernel_rfl) (by simp) ?_
    refine AllReadyH.cons (o := ⟨_, _, _, _, _, _⟩) rfl (fun K hK => ?_) AllReadyH.nil
    go_simp
    refine (hex_any y hy _).mono ?_
    rintro e wx ⟨rfl, hb⟩
    try simp only []
    have hS19 := hSc.trans (hb.mono hSc.size)
    refine hK.out _ _ hS19 (fun hHeld => ?_)
    clear hK K hb hSc
    have hSc := hS19
    clear hS19
    try simp only [Act.put, List.setIfInBounds_toArray, List.set_cons_zero, List.set_cons_succ]
    refine wpAnyH_take (i := 21) (oi := ⟨_, _, _, _, _, _⟩) (v := ?_) rfl (by kernel_rfl) (by kernel_rfl) (by kernel_rfl) (fun _ _ _ h => h) (Or.inl ⟨by rfl, ?_⟩) (by assumption) ?_
    rotate_left
    · intro W hSW; (try dsimp only at hSW); go_simp; try with_reducible rfl
    try simp only [Act.put, List.setIfInBounds_toArray, List.set_cons_zero, List.set_cons_succ]
    refine wpAnyH_take (i := 22) (oi := ⟨_, _, _, _, _, _⟩) (v := ?_) rfl (by kernel_rfl) (by kernel_rfl) (by kernel_rfl) (fun _ _ _ h => h) (Or.inl ⟨by rfl, ?_⟩) (by assumption) ?_
    rotate_left
    · intro W hSW; (try dsimp only at hSW); go_simp; try with_reducible rfl
    try simp only [Act.put, List.setIfInBounds_toArray, List.set_cons_zero, List.set_cons_succ]
    refine wpAnyH_take (i := 23) (oi := ⟨_, _, _, _, _, _⟩) (v := ?_) rfl (by kernel_rfl) (by kernel_rfl) (by kernel_rfl) (fun _ _ _ h => h) (Or.inl ⟨by rfl, ?_⟩) (by assumption) ?_
    rotate_left
    · intro W hSW; (try dsimp only at hSW); go_simp; try with_reducible rfl
    try simp only [Act.put, List.setIfInBounds_toArray, List.set_cons_zero, List.set_cons_succ]
    refine wpAnyH_take (i := 24) (oi := ⟨_, _, _, _, _, _⟩) (v := ?_) rfl (by kernel_rfl) (by kernel_rfl) (by kernel_rfl) (fun _ _ _ h => h) (Or.inl ⟨by rfl, ?_⟩) (by assumption) ?_
    rotate_left
    · intro W hSW; (try dsimp only at hSW); go_simp; try with_reducible rfl
    try simp only [Act.put, List.setIfInBounds_toArray, List.set_cons_zero, List.set_cons_succ]
    refine wpAnyH_take (i := 25) (oi := ⟨_, _, _, _, _, _⟩) (v := ?_) rfl (by kernel_rfl) (by kernel_rfl) (by kernel_rfl) (fun _ _ _ h => h) (Or.inl ⟨by rfl, ?_⟩) (by assumption) ?_
    rotate_left
    · intro W hSW; (try dsimp only at hSW); go_simp; try with_reducible rfl
    try simp only [Act.put, List.setIfInBounds_toArray, List.set_cons_zero, List.set_cons_succ]
    refine wpAnyH_take (i := 26) (oi := ⟨_, _, _, _, _, _⟩) (v := ?_) rfl (by kernel_rfl) (by kernel_rfl) (by kernel_rfl) (fun _ _ _ h => h) (Or.inl ⟨by rfl, ?_⟩) (by assumption) ?_
    rotate_left
    · intro W hSW; (try dsimp only at hSW); go_simp; try with_reducible rfl
    try simp only [Act.put, List.setIfInBounds_toArray, List.set_cons_zero, List.set_cons_succ]
    refine wpAnyH_take (i := 27) (oi := ⟨_, _, _, _, _, _⟩) (v := ?_) rfl (by kernel_rfl) (by kernel_rfl) (by kernel_rfl) (fun _ _ _ h => h) (Or.inl ⟨by rfl, ?_⟩) (by assumption) ?_
    rotate_left
    · intro W hSW; (try dsimp only at hSW); go_simp; try with_reducible rfl
    try simp only [Act.put, List.setIfInBounds_toArray, List.set_cons_zero, List.set_cons_succ]
    refine wpAnyH_take (i := 28) (oi := ⟨_, _, _, _, _, _⟩) (v := undef) rfl (by kernel_rfl) (by kernel_rfl) (by kernel_rfl) (fun _ _ _ h => h) (Or.inr ⟨by rfl, rfl⟩) (by assumption) ?_
    try simp only [Act.put, List.setIfInBounds_toArray, List.set_cons_zero, List.set_cons_succ]
    refine wpAnyH_take (i := 29) (oi := ⟨_, _, _, _, _, _⟩) (v := undef) rfl (by kernel_rfl) (by kernel_rfl) (by kernel_rfl) (fun _ _ _ h => h) (Or.inr ⟨by rfl, rfl⟩) (by assumption) ?_
    try simp only [Act.put, List.setIfInBounds_toArray, List.set_cons_zero, List.set_cons_succ]
    refine wpAnyH_take (i := 30) (oi := ⟨_, _, _, _, _, _⟩) (v := undef) rfl (by kernel_rfl) (by kernel_rfl) (by kernel_rfl) (fun _ _ _ h => h) (Or.inr ⟨by rfl, rfl⟩) (by assumption) ?_
    try simp only [Act.put, List.setIfInBounds_toArray, List.set_cons_zero, List.set_cons_succ]
    refine wpAnyH_take (i := 31) (oi := ⟨_, _, _, _, _, _⟩) (v := undef) rfl (by kernel_rfl) (by kernel_rfl) (by kernel_rfl) (fun _ _ _ h => h) (Or.inr ⟨by rfl, rfl⟩) (by assumption) ?_
    try simp only [Act.put, List.setIfInBounds_toArray, List.set_cons_zero, List.set_cons_succ]
    refine wpAnyH_take (i := 32) (oi := ⟨_, _, _, _, _, _⟩) (v := undef) rfl (by kernel_rfl) (by kernel_rfl) (by kernel_rfl) (fun _ _ _ h => h) (Or.inr ⟨by rfl, rfl⟩) (by assumption) ?_
    try simp only [Act.put, List.setIfInBounds_toArray, List.set_cons_zero, List.set_cons_succ]
    refine wpAnyH_take (i := 33) (oi := ⟨_, _, _, _, _, _⟩) (v := undef) rfl (by kernel_rfl) (by kernel_rfl) (by kernel_rfl) (fun _ _ _ h => h) (Or.inr ⟨by rfl, rfl⟩) (by assumption) ?_
    try simp only [Act.put, List.setIfInBounds_toArray, List.set_cons_zero, List.set_cons_succ]
    refine wpAnyH_take (i := 34) (oi := ⟨_, _, _, _, _, _⟩) (v := undef) rfl (by kernel_rfl) (by kernel_rfl) (by kernel_rfl) (fun _ _ _ h => h) (Or.inr ⟨by rfl, rfl⟩) (by assumption) ?_
    try simp only [Act.put, List.setIfInBounds_toArray, List.set_cons_zero, List.set_cons_succ]
    refine wpAnyH_take (i := 35) (oi := ⟨_, _, _, _, _, _⟩) (v := ?_) rfl (by kernel_rfl) (by kernel_rfl) (by kernel_rfl) (fun _ _ _ h => h) (Or.inl ⟨by rfl, ?_⟩) (by assumption) ?_
    rotate_left
    · intro W hSW; (try dsimp only at hSW); go_simp; try with_reducible rfl
    try simp only [Act.put, List.setIfInBounds_toArray, List.set_cons_zero, List.set_cons_succ]
    refine wpAnyH_take (i := 36) (oi := ⟨_, _, _, _, _, _⟩) (v := ?_) rfl (by kernel_rfl) (by kernel_rfl) (by kernel_rfl) (fun _ _ _ h => h) (Or.inl ⟨by rfl, ?_⟩) (by assumption) ?_
    rotate_left
    · intro W hSW; (try dsimp only at hSW); go_simp; try with_reducible rfl
    try simp only [Act.put, List.setIfInBounds_toArray, List.set_cons_zero, List.set_cons_succ]
    refine wpAnyH_done (by kernel_rfl) ?_ _
    have hA9 := range_below hRA hltA hSc
    have hB9 := range_below hRB hltB hSc
    have hT9 := hTd.below hSc
    have hBw9 := hBd.trans (hSc.mono (by have := hltA; omega))
    have hlA9 := Nat.lt_of_lt_of_le hltA hSc.size
    have hlB9 := Nat.lt_of_lt_of_le hltB hSc.size
    clear hSc hRA hRB hRX hRY hltA hltB hltX hltY hTd hBd
    go_wp2_with fail
    have hRA : wx.drew.rangeAt gA 0 (cells a) := hA9
    have hRB : wx.drew.rangeAt gB 0 (cells b) := hB9
    have hTd : Tab wx.drew := hT9.drew
    have hBd : Below gA w wx.drew := hBw9.drew
    have hltA : gA < wx.drew.heap.size := hlA9
    have hltB : gB < wx.drew.heap.size := hlB9
    clear hA9 hB9 hT9 hBw9 hlA9 hlB9
    obtain ⟨wd, hwd⟩ : ∃ wd, wx.drew = wd := ⟨_, rfl⟩
    rw [hwd] at hTd hBd hRA hRB hltA hltB
    have hSc : Below wd.heap.size wd wx.drew := by rw [hwd]; exact Below.refl _ _
    refine wp_region_held_drew (S := fun W => Below wd.heap.size wd W) (by kernel_rfl) hSc (fun hHeld => ?_)
    rw [hwd] at hSc hHeld ⊢
    clear hwd
    refine wpAnyH_take (i := 0) (oi := ⟨_, _, _, _, _, _⟩) (v := ?_) rfl (by kernel_rfl) (by kernel_rfl) (by kernel_rfl) (fun _ _ _ h => h) (Or.inl ⟨by rfl, ?_⟩) (by assumption) ?_
    rotate_left
    · intro W hSW; refine exec_load_mid 24 (.tmp 4) ?_ gA 0 ?_ (cells a) _ (range_below hRA hltA hSW) Tryd.underlying24 rfl (sz_cells ha) <;> rfl
    try simp only [Act.put, List.setIfInBounds_toArray, List.set_cons_zero, List.set_cons_succ]
    refine wpAnyH_take (i := 1) (oi := ⟨_, _, _, _, _, _⟩) (v := ?_) rfl (by kernel_rfl) (by kernel_rfl) (by kernel_rfl) (fun _ _ _ h => h) (Or.inl ⟨by rfl, ?_⟩) (by assumption) ?_
    rotate_left
    · intro W hSW; refine exec_load_mid 24 (.tmp 5) ?_ gB 0 ?_ (cells b) _ (range_below hRB hltB hSW) Tryd.underlying24 rfl (sz_cells hb32) <;> rfl
    try simp only [Act.put, List.setIfInBounds_toArray, List.set_cons_zero, List.set_cons_succ]
    refine wpAnyH_take (i := 3) (oi := ⟨_, _, _, _, _, _⟩) (v := ?_) rfl (by kernel_rfl) (by kernel_rfl) (by kernel_rfl) (fun _ _ _ h => h) (Or.inl ⟨by rfl, ?_⟩) (by assumption) ?_
    rotate_left
    · intro W hSW; refine exec_load_mid 24 (.tmp 4) ?_ gA 0 ?_ (cells a) _ (range_below hRA hltA hSW) Tryd.underlying24 rfl (sz_cells ha) <;> rfl
    try simp only [Act.put, List.setIfInBounds_toArray, List.set_cons_zero, List.set_cons_succ]
    refine wpAnyH_take (i := 5) (oi := ⟨_, _, _, _, _, _⟩) (v := ?_) rfl (by kernel_rfl) (by kernel_rfl) (by kernel_rfl) (fun _ _ _ h => h) (Or.inl ⟨by rfl, ?_⟩) (by assumption) ?_
    rotate_left
    · intro W hSW; refine exec_load_mid 24 (.tmp 5) ?_ gB 0 ?_ (cells b) _ (range_below hRB hltB hSW) Tryd.underlying24 rfl (sz_cells hb32) <;> rfl
    try simp only [Act.put, List.setIfInBounds_toArray, List.set_cons_zero, List.set_cons_succ]
    refine wpAnyH_ready (rs := [2]) (by kernel_rfl) (by simp) ?_
    refine AllReadyH.cons (o := ⟨_, _, _, _, _, _⟩) rfl (fun K hK => ?_) AllReadyH.nil
    go_simp
    refine (less_any a b ha hb32 _).mono ?_
    rintro e wx ⟨rfl, hb⟩
    try simp only []
    have hS2 := hSc.trans (hb.mono hSc.size)
    refine hK.out _ _ hS2 (fun hHeld => ?_)
    clear hK K hb hSc
    have hSc := hS2
    clear hS2
    try simp only [Act.put, List.setIfInBounds_toArray, List.set_cons_zero, List.set_cons_succ]
    refine wpAnyH_ready (rs := [4]) (by kernel_rfl) (by simp) ?_
    refine AllReadyH.cons (o := ⟨_, _, _, _, _, _⟩) rfl (fun K hK => ?_) AllReadyH.nil
    go_simp
    refine (rhex_any a ha _).mono ?_
    rintro e wx ⟨rfl, hb⟩
    try simp only []
    have hS4 := hSc.trans (hb.mono hSc.size)
    refine hK.out _ _ hS4 (fun hHeld => ?_)
    clear hK K hb hSc
    have hSc := hS4
    clear hS4
    try simp only [Act.put, List.setIfInBounds_toArray, List.set_cons_zero, List.set_cons_succ]
    refine wpAnyH_ready (rs := [6]) (by kernel_rfl) (by simp) ?_
    refine AllReadyH.cons (o := ⟨_, _, _, _, _, _⟩) rfl (fun K hK => ?_) AllReadyH.nil
    go_simp
    refine (rhex_any b hb32 _).mono ?_
    rintro e wx ⟨rfl, hb⟩
    try simp only []
    have hS6 := hSc.trans (hb.mono hSc.size)
    refine hK.out _ _ hS6 (fun hHeld => ?_)
    clear hK K hb hSc
    have hSc := hS6
    clear hS6
    try simp only [Act.put, List.setIfInBounds_toArray, List.set_cons_zero, List.set_cons_succ]
    refine wpAnyH_take (i := 7) (oi := ⟨_, _, _, _, _, _⟩) (v := ?_) rfl (by kernel_rfl) (by kernel_rfl) (by kernel_rfl) (fun _ _ _ h => h) (Or.inl ⟨by rfl, ?_⟩) (by assumption) ?_
    rotate_left
    · intro W hSW; refine exec_lss_hex (.tmp 69) (.tmp 71) 9 ?_ (xs := a) (ys := b) ?_ ?_ <;> rfl
    try simp only [Act.put, List.setIfInBounds_toArray, List.set_cons_zero, List.set_cons_succ]
    refine wpAnyH_take (i := 8) (oi := ⟨_, _, _, _, _, _⟩) (v := ?_) rfl (by kernel_rfl) (by kernel_rfl) (by kernel_rfl) (fun _ _ _ h => h) (Or.inl ⟨by rfl, ?_⟩) (by assumption) ?_
    rotate_left
    · intro W hSW; (try dsimp only at hSW); go_simp; try with_reducible rfl
    try simp only [Act.put, List.setIfInBounds_toArray, List.set_cons_zero, List.set_cons_succ]
    refine wpAnyH_done (by kernel_rfl) ?_ _
    have hA9 := range_below hRA hltA hSc
    have hB9 := range_below hRB hltB hSc
    have hT9 := hTd.below hSc
    have hBw9 := hBd.trans (hSc.mono (by have := hltA; omega))
    have hlA9 := Nat.lt_of_lt_of_le hltA hSc.size
    have hlB9 := Nat.lt_of_lt_of_le hltB hSc.size
    clear hSc hRA hRB hltA hltB hTd hBd
    go_wp2_with fail
    have hRA : wx.drew.rangeAt gA 0 (cells a) := hA9
    have hRB : wx.drew.rangeAt gB 0 (cells b) := hB9
    have hTd : Tab wx.drew := hT9.drew
    have hBd : Below gA w wx.drew := hBw9.drew
    have hltA : gA < wx.drew.heap.size := hlA9
    have hltB : gB < wx.drew.heap.size := hlB9
    clear hA9 hB9 hT9 hBw9 hlA9 hlB9
    obtain ⟨wd, hwd⟩ : ∃ wd, wx.drew = wd := ⟨_, rfl⟩
    rw [hwd] at hTd hBd hRA hRB hltA hltB
    have hSc : Below wd.heap.size wd wx.drew := by rw [hwd]; exact Below.refl _ _
    refine wp_region_held_drew (S := fun W => Below wd.heap.size wd W) (by kernel_rfl) hSc (fun hHeld => ?_)
    rw [hwd] at hSc hHeld ⊢
    clear hwd
    refine wpAnyH_take (i := 0) (oi := ⟨_, _, _, _, _, _⟩) (v := ?_) rfl (by kernel_rfl) (by kernel_rfl) (by kernel_rfl) (fun _ _ _ h => h) (Or.inl ⟨by rfl, ?_⟩) (by assumption) ?_
    rotate_left
    · intro W hSW; refine exec_load_mid 24 (.tmp 4) ?_ gA 0 ?_ (cells a) _ (range_below hRA hltA hSW) Tryd.underlying24 rfl (sz_cells ha) <;> rfl
    try simp only [Act.put, List.setIfInBounds_toArray, List.set_cons_zero, List.set_cons_succ]
    refine wpAnyH_take (i := 1) (oi := ⟨_, _, _, _, _, _⟩) (v := ?_) rfl (by kernel_rfl) (by kernel_rfl) (by kernel_rfl) (fun _ _ _ h => h) (Or.inl ⟨by rfl, ?_⟩) (by assumption) ?_
    rotate_left
    · intro W hSW; (try dsimp only at hSW); go_simp; try with_reducible rfl
    try simp only [Act.put, List.setIfInBounds_toArray, List.set_cons_zero, List.set_cons_succ]
    refine wpAnyH_take (i := 3) (oi := ⟨_, _, _, _, _, _⟩) (v := ?_) rfl (by kernel_rfl) (by kernel_rfl) (by kernel_rfl) (fun _ _ _ h => h) (Or.inl ⟨by rfl, ?_⟩) (by assumption) ?_
    rotate_left
    · intro W hSW; refine exec_load_mid 24 (.tmp 4) ?_ gA 0 ?_ (cells a) _ (range_below hRA hltA hSW) Tryd.underlying24 rfl (sz_cells ha) <;> rfl
    try simp only [Act.put, List.setIfInBounds_toArray, List.set_cons_zero, List.set_cons_succ]
    refine wpAnyH_take (i := 4) (oi := ⟨_, _, _, _, _, _⟩) (v := ?_) rfl (by kernel_rfl) (by kernel_rfl) (by kernel_rfl) (fun _ _ _ h => h) (Or.inl ⟨by rfl, ?_⟩) (by assumption) ?_
    rotate_left
    · intro W hSW; (try dsimp only at hSW); go_simp; try with_reducible rfl
    try simp only [Act.put, List.setIfInBounds_toArray, List.set_cons_zero, List.set_cons_succ]
    refine wpAnyH_ready (rs := [2]) (by kernel_rfl) (by simp) ?_
    refine AllReadyH.cons (o := ⟨_, _, _, _, _, _⟩) rfl (fun K hK => ?_) AllReadyH.nil
    go_simp
    refine (home_any a ha o _ ho).mono ?_
    rintro e wx ⟨rfl, hb⟩
    try simp only []
    have hS2 := hSc.trans (hb.mono hSc.size)
    refine hK.out _ _ hS2 (fun hHeld => ?_)
    clear hK K hb hSc
    have hSc := hS2
    clear hS2
    try simp only [Act.put, List.setIfInBounds_toArray, List.set_cons_zero, List.set_cons_succ]
    refine wpAnyH_ready (rs := [5]) (by kernel_rfl) (by simp) ?_
    refine AllReadyH.cons (o := ⟨_, _, _, _, _, _⟩) rfl (fun K hK => ?_) AllReadyH.nil
    go_simp
    refine (rhome_any a ha o _ ho).mono ?_
    rintro e wx ⟨rfl, hb⟩
    try simp only []
    have hS5 := hSc.trans (hb.mono hSc.size)
    refine hK.out _ _ hS5 (fun hHeld => ?_)
    clear hK K hb hSc
    have hSc := hS5
    clear hS5
    try simp only [Act.put, List.setIfInBounds_toArray, List.set_cons_zero, List.set_cons_succ]
    refine wpAnyH_take (i := 6) (oi := ⟨_, _, _, _, _, _⟩) (v := ?_) rfl (by kernel_rfl) (by kernel_rfl) (by kernel_rfl) (fun _ _ _ h => h) (Or.inl ⟨by rfl, ?_⟩) (by assumption) ?_
    rotate_left
    · intro W hSW; (try dsimp only at hSW); go_simp; try with_reducible rfl
    try simp only [Act.put, List.setIfInBounds_toArray, List.set_cons_zero, List.set_cons_succ]
    refine wpAnyH_take (i := 7) (oi := ⟨_, _, _, _, _, _⟩) (v := ?_) rfl (by kernel_rfl) (by kernel_rfl) (by kernel_rfl) (fun _ _ _ h => h) (Or.inl ⟨by rfl, ?_⟩) (by assumption) ?_
    rotate_left
    · intro W hSW; (try dsimp only at hSW); go_simp; try with_reducible rfl
    try simp only [Act.put, List.setIfInBounds_toArray, List.set_cons_zero, List.set_cons_succ]
    refine wpAnyH_ready (rs := [8]) (by kernel_rfl) (by simp) ?_
    refine AllReadyH.cons (o := ⟨_, _, _, _, _, _⟩) rfl (fun K hK => ?_) AllReadyH.nil
    go_simp
    refine (works3_any _ (hTd.below hSc)).mono ?_
    rintro e wx ⟨rfl, hb⟩
    try simp only []
    have hS8 := hSc.trans (hb.mono hSc.size)
    refine hK.out _ _ hS8 (fun hHeld => ?_)
    clear hK K hb hSc
    have hSc := hS8
    clear hS8
    try simp only [Act.put, List.setIfInBounds_toArray, List.set_cons_zero, List.set_cons_succ]
    refine wpAnyH_take (i := 9) (oi := ⟨_, _, _, _, _, _⟩) (v := ?_) rfl (by kernel_rfl) (by kernel_rfl) (by kernel_rfl) (fun _ _ _ h => h) (Or.inl ⟨by rfl, ?_⟩) (by assumption) ?_
    rotate_left
    · intro W hSW; (try dsimp only at hSW); go_simp; try with_reducible rfl
    try simp only [Act.put, List.setIfInBounds_toArray, List.set_cons_zero, List.set_cons_succ]
    refine wpAnyH_take (i := 10) (oi := ⟨_, _, _, _, _, _⟩) (v := ?_) rfl (by kernel_rfl) (by kernel_rfl) (by kernel_rfl) (fun _ _ _ h => h) (Or.inl ⟨by rfl, ?_⟩) (by assumption) ?_
    rotate_left
    · intro W hSW; (try dsimp only at hSW); go_simp; try with_reducible rfl
    try simp only [Act.put, List.setIfInBounds_toArray, List.set_cons_zero, List.set_cons_succ]
    refine wpAnyH_done (by kernel_rfl) ?_ _
    have hBw9 := hBd.trans (hSc.mono (by have := hltA; omega))
    go_wp2_with fail
    go_ret
    refine ⟨rfl, ?_⟩
    rw [HgA.out]
    exact hBw9
  · refine wpAnyH_take (i := 0) (oi := ⟨_, _, _, _, _, _⟩) (v := ?_) rfl (by kernel_rfl) (by kernel_rfl) (by kernel_rfl) (fun _ _ _ h => h) (Or.inl ⟨by rfl, ?_⟩) (by assumption) ?_
    rotate_left
    · intro W hSW; refine exec_load_mid 24 (.tmp 4) ?_ gA 0 ?_ (cells a) _ (range_below hRA hltA hSW) Tryd.underlying24 rfl (sz_cells ha) <;> rfl
    try simp only [Act.put, List.setIfInBounds_toArray, List.set_cons_zero, List.set_cons_succ]
    refine wpAnyH_take (i := 2) (oi := ⟨_, _, _, _, _, _⟩) (v := ?_) rfl (by kernel_rfl) (by kernel_rfl) (by kernel_rfl) (fun _ _ _ h => h) (Or.inl ⟨by rfl, ?_⟩) (by assumption) ?_
    rotate_left
    · intro W hSW; refine exec_load_mid 24 (.tmp 4) ?_ gA 0 ?_ (cells a) _ (range_below hRA hltA hSW) Tryd.underlying24 rfl (sz_cells ha) <;> rfl
    try simp only [Act.put, List.setIfInBounds_toArray, List.set_cons_zero, List.set_cons_succ]
    refine wpAnyH_ready (rs := [1]) (by kernel_rfl) (by simp) ?_
    refine AllReadyH.cons (o := ⟨_, _, _, _, _, _⟩) rfl (fun K hK => ?_) AllReadyH.nil
    go_simp
    refine (hex_any a ha _).mono ?_
    rintro e wx ⟨rfl, hb⟩
    try simp only []
    have hS1 := hSc.trans (hb.mono hSc.size)
    refine hK.out _ _ hS1 (fun hHeld => ?_)
    clear hK K hb hSc
    have hSc := hS1
    clear hS1
    try simp only [Act.put, List.setIfInBounds_toArray, List.set_cons_zero, List.set_cons_succ]
    refine wpAnyH_ready (rs := [3]) (by kernel_rfl) (by simp) ?_
    refine AllReadyH.cons (o := ⟨_, _, _, _, _, _⟩) rfl (fun K hK => ?_) AllReadyH.nil
    go_simp
    refine (rhex_any a ha _).mono ?_
    rintro e wx ⟨rfl, hb⟩
    try simp only []
    have hS3 := hSc.trans (hb.mono hSc.size)
    refine hK.out _ _ hS3 (fun hHeld => ?_)
    clear hK K hb hSc
    have hSc := hS3
    clear hS3
    try simp only [Act.put, List.setIfInBounds_toArray, List.set_cons_zero, List.set_cons_succ]
    refine wpAnyH_take (i := 4) (oi := ⟨_, _, _, _, _, _⟩) (v := ?_) rfl (by kernel_rfl) (by kernel_rfl) (by kernel_rfl) (fun _ _ _ h => h) (Or.inl ⟨by rfl, ?_⟩) (by assumption) ?_
    rotate_left
    · intro W hSW; (try dsimp only at hSW); go_simp; try with_reducible rfl
    try simp only [Act.put, List.setIfInBounds_toArray, List.set_cons_zero, List.set_cons_succ]
    refine wpAnyH_take (i := 5) (oi := ⟨_, _, _, _, _, _⟩) (v := ?_) rfl (by kernel_rfl) (by kernel_rfl) (by kernel_rfl) (fun _ _ _ h => h) (Or.inl ⟨by rfl, ?_⟩) (by assumption) ?_
    rotate_left
    · intro W hSW; (try dsimp only at hSW); go_simp; try with_reducible rfl
    try simp only [Act.put, List.setIfInBounds_toArray, List.set_cons_zero, List.set_cons_succ]
    refine wpAnyH_take (i := 6) (oi := ⟨_, _, _, _, _, _⟩) (v := ?_) rfl (by kernel_rfl) (by kernel_rfl) (by kernel_rfl) (fun _ _ _ h => h) (Or.inl ⟨by rfl, ?_⟩) (by assumption) ?_
    rotate_left
    · intro W hSW; refine exec_load_mid 24 (.tmp 9) ?_ gX 0 ?_ (cells a) _ (range_below hRX hltX hSW) Tryd.underlying24 rfl (sz_cells ha) <;> rfl
    try simp only [Act.put, List.setIfInBounds_toArray, List.set_cons_zero, List.set_cons_succ]
    refine wpAnyH_take (i := 7) (oi := ⟨_, _, _, _, _, _⟩) (v := ?_) rfl (by kernel_rfl) (by kernel_rfl) (by kernel_rfl) (fun _ _ _ h => h) (Or.inl ⟨by rfl, ?_⟩) (by assumption) ?_
    rotate_left
    · intro W hSW; refine exec_load_mid 24 (.tmp 4) ?_ gA 0 ?_ (cells a) _ (range_below hRA hltA hSW) Tryd.underlying24 rfl (sz_cells ha) <;> rfl
    try simp only [Act.put, List.setIfInBounds_toArray, List.set_cons_zero, List.set_cons_succ]
    refine wpAnyH_take (i := 8) (oi := ⟨_, _, _, _, _, _⟩) (v := ?_) rfl (by kernel_rfl) (by kernel_rfl) (by kernel_rfl) (fun _ _ _ h => h) (Or.inl ⟨by rfl, ?_⟩) (by assumption) ?_
    rotate_left
    · intro W hSW; refine exec_neq_bytes 24 (.tmp 34) (.tmp 35) 24 ?_ Tryd.underlying24 Tryd.underlying5 Tryd.cells5 Tryd.guardA (xs := a) ?_ ?_ ha <;> rfl
    try simp only [Act.put, List.setIfInBounds_toArray, List.set_cons_zero, List.set_cons_succ]
    refine wpAnyH_take (i := 9) (oi := ⟨_, _, _, _, _, _⟩) (v := ?_) rfl (by kernel_rfl) (by kernel_rfl) (by kernel_rfl) (fun _ _ _ h => h) (Or.inl ⟨by rfl, ?_⟩) (by assumption) ?_
    rotate_left
    · intro W hSW; (try dsimp only at hSW); go_simp; try with_reducible rfl
    try simp only [Act.put, List.setIfInBounds_toArray, List.set_cons_zero, List.set_cons_succ]
    refine wpAnyH_take (i := 10) (oi := ⟨_, _, _, _, _, _⟩) (v := ?_) rfl (by kernel_rfl) (by kernel_rfl) (by kernel_rfl) (fun _ _ _ h => h) (Or.inl ⟨by rfl, ?_⟩) (by assumption) ?_
    rotate_left
    · intro W hSW; (try dsimp only at hSW); go_simp; try with_reducible rfl
    try simp only [Act.put, List.setIfInBounds_toArray, List.set_cons_zero, List.set_cons_succ]
    refine wpAnyH_take (i := 11) (oi := ⟨_, _, _, _, _, _⟩) (v := ?_) rfl (by kernel_rfl) (by kernel_rfl) (by kernel_rfl) (fun _ _ _ h => h) (Or.inl ⟨by rfl, ?_⟩) (by assumption) ?_
    rotate_left
    · intro W hSW; (try dsimp only at hSW); go_simp; try with_reducible rfl
    try simp only [Act.put, List.setIfInBounds_toArray, List.set_cons_zero, List.set_cons_succ]
    refine wpAnyH_take (i := 12) (oi := ⟨_, _, _, _, _, _⟩) (v := ?_) rfl (by kernel_rfl) (by kernel_rfl) (by kernel_rfl) (fun _ _ _ h => h) (Or.inl ⟨by rfl, ?_⟩) (by assumption) ?_
    rotate_left
    · intro W hSW; (try dsimp only at hSW); go_simp; try with_reducible rfl
    try simp only [Act.put, List.setIfInBounds_toArray, List.set_cons_zero, List.set_cons_succ]
    refine wpAnyH_take (i := 13) (oi := ⟨_, _, _, _, _, _⟩) (v := ?_) rfl (by kernel_rfl) (by kernel_rfl) (by kernel_rfl) (fun _ _ _ h => h) (Or.inl ⟨by rfl, ?_⟩) (by assumption) ?_
    rotate_left
    · intro W hSW; (try dsimp only at hSW); go_simp; try with_reducible rfl
    try simp only [Act.put, List.setIfInBounds_toArray, List.set_cons_zero, List.set_cons_succ]
    refine wpAnyH_take (i := 14) (oi := ⟨_, _, _, _, _, _⟩) (v := ?_) rfl (by kernel_rfl) (by kernel_rfl) (by kernel_rfl) (fun _ _ _ h => h) (Or.inl ⟨by rfl, ?_⟩) (by assumption) ?_
    rotate_left
    · intro W hSW; (try dsimp only at hSW); go_simp; try with_reducible rfl
    try simp only [Act.put, List.setIfInBounds_toArray, List.set_cons_zero, List.set_cons_succ]
    refine wpAnyH_take (i := 15) (oi := ⟨_, _, _, _, _, _⟩) (v := ?_) rfl (by kernel_rfl) (by kernel_rfl) (by kernel_rfl) (fun _ _ _ h => h) (Or.inl ⟨by rfl, ?_⟩) (by assumption) ?_
    rotate_left
    · intro W hSW; (try dsimp only at hSW); go_simp; try with_reducible rfl
    try simp only [Act.put, List.setIfInBounds_toArray, List.set_cons_zero, List.set_cons_succ]
    refine wpAnyH_take (i := 16) (oi := ⟨_, _, _, _, _, _⟩) (v := ?_) rfl (by kernel_rfl) (by kernel_rfl) (by kernel_rfl) (fun _ _ _ h => h) (Or.inl ⟨by rfl, ?_⟩) (by assumption) ?_
    rotate_left
    · intro W hSW; (try dsimp only at hSW); go_simp; try with_reducible rfl
    try simp only [Act.put, List.setIfInBounds_toArray, List.set_cons_zero, List.set_cons_succ]
    refine wpAnyH_take (i := 17) (oi := ⟨_, _, _, _, _, _⟩) (v := ?_) rfl (by kernel_rfl) (by kernel_rfl) (by kernel_rfl) (fun _ _ _ h => h) (Or.inl ⟨by rfl, ?_⟩) (by assumption) ?_
    rotate_left
    · intro W hSW; (try dsimp only at hSW); go_simp; try with_reducible rfl
    try simp only [Act.put, List.setIfInBounds_toArray, List.set_cons_zero, List.set_cons_succ]
    refine wpAnyH_take (i := 18) (oi := ⟨_, _, _, _, _, _⟩) (v := undef) rfl (by kernel_rfl) (by kernel_rfl) (by kernel_rfl) (fun _ _ _ h => h) (Or.inr ⟨by rfl, rfl⟩) (by assumption) ?_
    try simp only [Act.put, List.setIfInBounds_toArray, List.set_cons_zero, List.set_cons_succ]
    refine wpAnyH_take (i := 19) (oi := ⟨_, _, _, _, _, _⟩) (v := undef) rfl (by kernel_rfl) (by kernel_rfl) (by kernel_rfl) (fun _ _ _ h => h) (Or.inr ⟨by rfl, rfl⟩) (by assumption) ?_
    try simp only [Act.put, List.setIfInBounds_toArray, List.set_cons_zero, List.set_cons_succ]
    refine wpAnyH_take (i := 20) (oi := ⟨_, _, _, _, _, _⟩) (v := undef) rfl (by kernel_rfl) (by kernel_rfl) (by kernel_rfl) (fun _ _ _ h => h) (Or.inr ⟨by rfl, rfl⟩) (by assumption) ?_
    try simp only [Act.put, List.setIfInBounds_toArray, List.set_cons_zero, List.set_cons_succ]
    refine wpAnyH_take (i := 21) (oi := ⟨_, _, _, _, _, _⟩) (v := undef) rfl (by kernel_rfl) (by kernel_rfl) (by kernel_rfl) (fun _ _ _ h => h) (Or.inr ⟨by rfl, rfl⟩) (by assumption) ?_
    try simp only [Act.put, List.setIfInBounds_toArray, List.set_cons_zero, List.set_cons_succ]
    refine wpAnyH_take (i := 22) (oi := ⟨_, _, _, _, _, _⟩) (v := ?_) rfl (by kernel_rfl) (by kernel_rfl) (by kernel_rfl) (fun _ _ _ h => h) (Or.inl ⟨by rfl, ?_⟩) (by assumption) ?_
    rotate_left
    · intro W hSW; (try dsimp only at hSW); go_simp; try with_reducible rfl
    try simp only [Act.put, List.setIfInBounds_toArray, List.set_cons_zero, List.set_cons_succ]
    refine wpAnyH_take (i := 23) (oi := ⟨_, _, _, _, _, _⟩) (v := ?_) rfl (by kernel_rfl) (by kernel_rfl) (by kernel_rfl) (fun _ _ _ h => h) (Or.inl ⟨by rfl, ?_⟩) (by assumption) ?_
    rotate_left
    · intro W hSW; (try dsimp only at hSW); go_simp; try with_reducible rfl
    try simp only [Act.put, List.setIfInBounds_toArray, List.set_cons_zero, List.set_cons_succ]
    refine wpAnyH_take (i := 24) (oi := ⟨_, _, _, _, _, _⟩) (v := ?_) rfl (by kernel_rfl) (by kernel_rfl) (by kernel_rfl) (fun _ _ _ h => h) (Or.inl ⟨by rfl, ?_⟩) (by assumption) ?_
    rotate_left
    · intro W hSW; (try dsimp only at hSW); go_simp; try with_reducible rfl
    try simp only [Act.put, List.setIfInBounds_toArray, List.set_cons_zero, List.set_cons_succ]
    refine wpAnyH_take (i := 25) (oi := ⟨_, _, _, _, _, _⟩) (v := ?_) rfl (by kernel_rfl) (by kernel_rfl) (by kernel_rfl) (fun _ _ _ h => h) (Or.inl ⟨by rfl, ?_⟩) (by assumption) ?_
    rotate_left
    · intro W hSW; (try dsimp only at hSW); go_simp; try with_reducible rfl
    try simp only [Act.put, List.setIfInBounds_toArray, List.set_cons_zero, List.set_cons_succ]
    refine wpAnyH_take (i := 26) (oi := ⟨_, _, _, _, _, _⟩) (v := ?_) rfl (by kernel_rfl) (by kernel_rfl) (by kernel_rfl) (fun _ _ _ h => h) (Or.inl ⟨by rfl, ?_⟩) (by assumption) ?_
    rotate_left
    · intro W hSW; (try dsimp only at hSW); go_simp; try with_reducible rfl
    try simp only [Act.put, List.setIfInBounds_toArray, List.set_cons_zero, List.set_cons_succ]
    refine wpAnyH_take (i := 27) (oi := ⟨_, _, _, _, _, _⟩) (v := ?_) rfl (by kernel_rfl) (by kernel_rfl) (by kernel_rfl) (fun _ _ _ h => h) (Or.inl ⟨by rfl, ?_⟩) (by assumption) ?_
    rotate_left
    · intro W hSW; (try dsimp only at hSW); go_simp; try with_reducible rfl
    try simp only [Act.put, List.setIfInBounds_toArray, List.set_cons_zero, List.set_cons_succ]
    refine wpAnyH_take (i := 28) (oi := ⟨_, _, _, _, _, _⟩) (v := ?_) rfl (by kernel_rfl) (by kernel_rfl) (by kernel_rfl) (fun _ _ _ h => h) (Or.inl ⟨by rfl, ?_⟩) (by assumption) ?_
    rotate_left
    · intro W hSW; (try dsimp only at hSW); go_simp; try with_reducible rfl
    try simp only [Act.put, List.setIfInBounds_toArray, List.set_cons_zero, List.set_cons_succ]
    refine wpAnyH_take (i := 29) (oi := ⟨_, _, _, _, _, _⟩) (v := ?_) rfl (by kernel_rfl) (by kernel_rfl) (by kernel_rfl) (fun _ _ _ h => h) (Or.inl ⟨by rfl, ?_⟩) (by assumption) ?_
    rotate_left
    · intro W hSW; (try dsimp only at hSW); go_simp; try with_reducible rfl
    try simp only [Act.put, List.setIfInBounds_toArray, List.set_cons_zero, List.set_cons_succ]
    refine wpAnyH_take (i := 30) (oi := ⟨_, _, _, _, _, _⟩) (v := ?_) rfl (by kernel_rfl) (by kernel_rfl) (by kernel_rfl) (fun _ _ _ h => h) (Or.inl ⟨by rfl, ?_⟩) (by assumption) ?_
    rotate_left
    · intro W hSW; (try dsimp only at hSW); go_simp; try with_reducible rfl
    try simp only [Act.put, List.setIfInBounds_toArray, List.set_cons_zero, List.set_cons_succ]
    refine wpAnyH_take (i := 31) (oi := ⟨_, _, _, _, _, _⟩) (v := ?_) rfl (by kernel_rfl) (by kernel_rfl) (by kernel_rfl) (fun _ _ _ h => h) (Or.inl ⟨by rfl, ?_⟩) (by assumption) ?_
    rotate_left
    · intro W hSW; refine exec_load_mid 24 (.tmp 11) ?_ gY 0 ?_ (cells zero32) _ (range_below hRY hltY hSW) Tryd.underlying24 rfl (sz_cells rfl) <;> rfl
    try simp only [Act.put, List.setIfInBounds_toArray, List.set_cons_zero, List.set_cons_succ]
    refine wpAnyH_take (i := 32) (oi := ⟨_, _, _, _, _, _⟩) (v := ?_) rfl (by kernel_rfl) (by kernel_rfl) (by kernel_rfl) (fun _ _ _ h => h) (Or.inl ⟨by rfl, ?_⟩) (by assumption) ?_
    rotate_left
    · intro W hSW; refine exec_build_to 24 #[] ?_ (cells zero32) ?_ <;> kernel_rfl
    try simp only [Act.put, List.setIfInBounds_toArray, List.set_cons_zero, List.set_cons_succ]
    refine wpAnyH_take (i := 33) (oi := ⟨_, _, _, _, _, _⟩) (v := ?_) rfl (by kernel_rfl) (by kernel_rfl) (by kernel_rfl) (fun _ _ _ h => h) (Or.inl ⟨by rfl, ?_⟩) (by assumption) ?_
    rotate_left
    · intro W hSW; refine exec_neq_bytes 24 (.tmp 59) (.tmp 60) 24 ?_ Tryd.underlying24 Tryd.underlying5 Tryd.cells5 Tryd.guardA (xs := zero32) ?_ ?_ rfl <;> rfl
    try simp only [Act.put, List.setIfInBounds_toArray, List.set_cons_zero, List.set_cons_succ]
    refine wpAnyH_take (i := 34) (oi := ⟨_, _, _, _, _, _⟩) (v := ?_) rfl (by kernel_rfl) (by kernel_rfl) (by kernel_rfl) (fun _ _ _ h => h) (Or.inl ⟨by rfl, ?_⟩) (by assumption) ?_
    rotate_left
    · intro W hSW; (try dsimp only at hSW); go_simp; try with_reducible rfl
    try simp only [Act.put, List.setIfInBounds_toArray, List.set_cons_zero, List.set_cons_succ]
    refine wpAnyH_take (i := 35) (oi := ⟨_, _, _, _, _, _⟩) (v := ?_) rfl (by kernel_rfl) (by kernel_rfl) (by kernel_rfl) (fun _ _ _ h => h) (Or.inl ⟨by rfl, ?_⟩) (by assumption) ?_
    rotate_left
    · intro W hSW; (try dsimp only at hSW); go_simp; try with_reducible rfl
    try simp only [Act.put, List.setIfInBounds_toArray, List.set_cons_zero, List.set_cons_succ]
    refine wpAnyH_take (i := 36) (oi := ⟨_, _, _, _, _, _⟩) (v := ?_) rfl (by kernel_rfl) (by kernel_rfl) (by kernel_rfl) (fun _ _ _ h => h) (Or.inl ⟨by rfl, ?_⟩) (by assumption) ?_
    rotate_left
    · intro W hSW; (try dsimp only at hSW); go_simp; try with_reducible rfl
    try simp only [Act.put, List.setIfInBounds_toArray, List.set_cons_zero, List.set_cons_succ]
    refine wpAnyH_done (by kernel_rfl) ?_ _
    have hA9 := range_below hRA hltA hSc
    have hB9 := range_below hRB hltB hSc
    have hT9 := hTd.below hSc
    have hBw9 := hBd.trans (hSc.mono (by have := hltA; omega))
    have hlA9 := Nat.lt_of_lt_of_le hltA hSc.size
    have hlB9 := Nat.lt_of_lt_of_le hltB hSc.size
    clear hSc hRA hRB hRX hRY hltA hltB hltX hltY hTd hBd
    go_wp2_with fail
    have hRA : wx.drew.rangeAt gA 0 (cells a) := hA9
    have hRB : wx.drew.rangeAt gB 0 (cells b) := hB9
    have hTd : Tab wx.drew := hT9.drew
    have hBd : Below gA w wx.drew := hBw9.drew
    have hltA : gA < wx.drew.heap.size := hlA9
    have hltB : gB < wx.drew.heap.size := hlB9
    clear hA9 hB9 hT9 hBw9 hlA9 hlB9
    obtain ⟨wd, hwd⟩ : ∃ wd, wx.drew = wd := ⟨_, rfl⟩
    rw [hwd] at hTd hBd hRA hRB hltA hltB
    have hSc : Below wd.heap.size wd wx.drew := by rw [hwd]; exact Below.refl _ _
    refine wp_region_held_drew (S := fun W => Below wd.heap.size wd W) (by kernel_rfl) hSc (fun hHeld => ?_)
    rw [hwd] at hSc hHeld ⊢
    clear hwd
    refine wpAnyH_take (i := 0) (oi := ⟨_, _, _, _, _, _⟩) (v := ?_) rfl (by kernel_rfl) (by kernel_rfl) (by kernel_rfl) (fun _ _ _ h => h) (Or.inl ⟨by rfl, ?_⟩) (by assumption) ?_
    rotate_left
    · intro W hSW; refine exec_load_mid 24 (.tmp 4) ?_ gA 0 ?_ (cells a) _ (range_below hRA hltA hSW) Tryd.underlying24 rfl (sz_cells ha) <;> rfl
    try simp only [Act.put, List.setIfInBounds_toArray, List.set_cons_zero, List.set_cons_succ]
    refine wpAnyH_take (i := 1) (oi := ⟨_, _, _, _, _, _⟩) (v := ?_) rfl (by kernel_rfl) (by kernel_rfl) (by kernel_rfl) (fun _ _ _ h => h) (Or.inl ⟨by rfl, ?_⟩) (by assumption) ?_
    rotate_left
    · intro W hSW; refine exec_load_mid 24 (.tmp 5) ?_ gB 0 ?_ (cells b) _ (range_below hRB hltB hSW) Tryd.underlying24 rfl (sz_cells hb32) <;> rfl
    try simp only [Act.put, List.setIfInBounds_toArray, List.set_cons_zero, List.set_cons_succ]
    refine wpAnyH_take (i := 3) (oi := ⟨_, _, _, _, _, _⟩) (v := ?_) rfl (by kernel_rfl) (by kernel_rfl) (by kernel_rfl) (fun _ _ _ h => h) (Or.inl ⟨by rfl, ?_⟩) (by assumption) ?_
    rotate_left
    · intro W hSW; refine exec_load_mid 24 (.tmp 4) ?_ gA 0 ?_ (cells a) _ (range_below hRA hltA hSW) Tryd.underlying24 rfl (sz_cells ha) <;> rfl
    try simp only [Act.put, List.setIfInBounds_toArray, List.set_cons_zero, List.set_cons_succ]
    refine wpAnyH_take (i := 5) (oi := ⟨_, _, _, _, _, _⟩) (v := ?_) rfl (by kernel_rfl) (by kernel_rfl) (by kernel_rfl) (fun _ _ _ h => h) (Or.inl ⟨by rfl, ?_⟩) (by assumption) ?_
    rotate_left
    · intro W hSW; refine exec_load_mid 24 (.tmp 5) ?_ gB 0 ?_ (cells b) _ (range_below hRB hltB hSW) Tryd.underlying24 rfl (sz_cells hb32) <;> rfl
    try simp only [Act.put, List.setIfInBounds_toArray, List.set_cons_zero, List.set_cons_succ]
    refine wpAnyH_ready (rs := [2]) (by kernel_rfl) (by simp) ?_
    refine AllReadyH.cons (o := ⟨_, _, _, _, _, _⟩) rfl (fun K hK => ?_) AllReadyH.nil
    go_simp
    refine (less_any a b ha hb32 _).mono ?_
    rintro e wx ⟨rfl, hb⟩
    try simp only []
    have hS2 := hSc.trans (hb.mono hSc.size)
    refine hK.out _ _ hS2 (fun hHeld => ?_)
    clear hK K hb hSc
    have hSc := hS2
    clear hS2
    try simp only [Act.put, List.setIfInBounds_toArray, List.set_cons_zero, List.set_cons_succ]
    refine wpAnyH_ready (rs := [4]) (by kernel_rfl) (by simp) ?_
    refine AllReadyH.cons (o := ⟨_, _, _, _, _, _⟩) rfl (fun K hK => ?_) AllReadyH.nil
    go_simp
    refine (rhex_any a ha _).mono ?_
    rintro e wx ⟨rfl, hb⟩
    try simp only []
    have hS4 := hSc.trans (hb.mono hSc.size)
    refine hK.out _ _ hS4 (fun hHeld => ?_)
    clear hK K hb hSc
    have hSc := hS4
    clear hS4
    try simp only [Act.put, List.setIfInBounds_toArray, List.set_cons_zero, List.set_cons_succ]
    refine wpAnyH_ready (rs := [6]) (by kernel_rfl) (by simp) ?_
    refine AllReadyH.cons (o := ⟨_, _, _, _, _, _⟩) rfl (fun K hK => ?_) AllReadyH.nil
    go_simp
    refine (rhex_any b hb32 _).mono ?_
    rintro e wx ⟨rfl, hb⟩
    try simp only []
    have hS6 := hSc.trans (hb.mono hSc.size)
    refine hK.out _ _ hS6 (fun hHeld => ?_)
    clear hK K hb hSc
    have hSc := hS6
    clear hS6
    try simp only [Act.put, List.setIfInBounds_toArray, List.set_cons_zero, List.set_cons_succ]
    refine wpAnyH_take (i := 7) (oi := ⟨_, _, _, _, _, _⟩) (v := ?_) rfl (by kernel_rfl) (by kernel_rfl) (by kernel_rfl) (fun _ _ _ h => h) (Or.inl ⟨by rfl, ?_⟩) (by assumption) ?_
    rotate_left
    · intro W hSW; refine exec_lss_hex (.tmp 69) (.tmp 71) 9 ?_ (xs := a) (ys := b) ?_ ?_ <;> rfl
    try simp only [Act.put, List.setIfInBounds_toArray, List.set_cons_zero, List.set_cons_succ]
    refine wpAnyH_take (i := 8) (oi := ⟨_, _, _, _, _, _⟩) (v := ?_) rfl (by kernel_rfl) (by kernel_rfl) (by kernel_rfl) (fun _ _ _ h => h) (Or.inl ⟨by rfl, ?_⟩) (by assumption) ?_
    rotate_left
    · intro W hSW; (try dsimp only at hSW); go_simp; try with_reducible rfl
    try simp only [Act.put, List.setIfInBounds_toArray, List.set_cons_zero, List.set_cons_succ]
    refine wpAnyH_done (by kernel_rfl) ?_ _
    have hA9 := range_below hRA hltA hSc
    have hB9 := range_below hRB hltB hSc
    have hT9 := hTd.below hSc
    have hBw9 := hBd.trans (hSc.mono (by have := hltA; omega))
    have hlA9 := Nat.lt_of_lt_of_le hltA hSc.size
    have hlB9 := Nat.lt_of_lt_of_le hltB hSc.size
    clear hSc hRA hRB hltA hltB hTd hBd
    go_wp2_with fail
    have hRA : wx.drew.rangeAt gA 0 (cells a) := hA9
    have hRB : wx.drew.rangeAt gB 0 (cells b) := hB9
    have hTd : Tab wx.drew := hT9.drew
    have hBd : Below gA w wx.drew := hBw9.drew
    have hltA : gA < wx.drew.heap.size := hlA9
    have hltB : gB < wx.drew.heap.size := hlB9
    clear hA9 hB9 hT9 hBw9 hlA9 hlB9
    obtain ⟨wd, hwd⟩ : ∃ wd, wx.drew = wd := ⟨_, rfl⟩
    rw [hwd] at hTd hBd hRA hRB hltA hltB
    have hSc : Below wd.heap.size wd wx.drew := by rw [hwd]; exact Below.refl _ _
    refine wp_region_held_drew (S := fun W => Below wd.heap.size wd W) (by kernel_rfl) hSc (fun hHeld => ?_)
    rw [hwd] at hSc hHeld ⊢
    clear hwd
    refine wpAnyH_take (i := 0) (oi := ⟨_, _, _, _, _, _⟩) (v := ?_) rfl (by kernel_rfl) (by kernel_rfl) (by kernel_rfl) (fun _ _ _ h => h) (Or.inl ⟨by rfl, ?_⟩) (by assumption) ?_
    rotate_left
    · intro W hSW; refine exec_load_mid 24 (.tmp 4) ?_ gA 0 ?_ (cells a) _ (range_below hRA hltA hSW) Tryd.underlying24 rfl (sz_cells ha) <;> rfl
    try simp only [Act.put, List.setIfInBounds_toArray, List.set_cons_zero, List.set_cons_succ]
    refine wpAnyH_take (i := 1) (oi := ⟨_, _, _, _, _, _⟩) (v := ?_) rfl (by kernel_rfl) (by kernel_rfl) (by kernel_rfl) (fun _ _ _ h => h) (Or.inl ⟨by rfl, ?_⟩) (by assumption) ?_
    rotate_left
    · intro W hSW; (try dsimp only at hSW); go_simp; try with_reducible rfl
    try simp only [Act.put, List.setIfInBounds_toArray, List.set_cons_zero, List.set_cons_succ]
    refine wpAnyH_take (i := 3) (oi := ⟨_, _, _, _, _, _⟩) (v := ?_) rfl (by kernel_rfl) (by kernel_rfl) (by kernel_rfl) (fun _ _ _ h => h) (Or.inl ⟨by rfl, ?_⟩) (by assumption) ?_
    rotate_left
    · intro W hSW; refine exec_load_mid 24 (.tmp 4) ?_ gA 0 ?_ (cells a) _ (range_below hRA hltA hSW) Tryd.underlying24 rfl (sz_cells ha) <;> rfl
    try simp only [Act.put, List.setIfInBounds_toArray, List.set_cons_zero, List.set_cons_succ]
    refine wpAnyH_take (i := 4) (oi := ⟨_, _, _, _, _, _⟩) (v := ?_) rfl (by kernel_rfl) (by kernel_rfl) (by kernel_rfl) (fun _ _ _ h => h) (Or.inl ⟨by rfl, ?_⟩) (by assumption) ?_
    rotate_left
    · intro W hSW; (try dsimp only at hSW); go_simp; try with_reducible rfl
    try simp only [Act.put, List.setIfInBounds_toArray, List.set_cons_zero, List.set_cons_succ]
    refine wpAnyH_ready (rs := [2]) (by kernel_rfl) (by simp) ?_
    refine AllReadyH.cons (o := ⟨_, _, _, _, _, _⟩) rfl (fun K hK => ?_) AllReadyH.nil
    go_simp
    refine (home_any a ha o _ ho).mono ?_
    rintro e wx ⟨rfl, hb⟩
    try simp only []
    have hS2 := hSc.trans (hb.mono hSc.size)
    refine hK.out _ _ hS2 (fun hHeld => ?_)
    clear hK K hb hSc
    have hSc := hS2
    clear hS2
    try simp only [Act.put, List.setIfInBounds_toArray, List.set_cons_zero, List.set_cons_succ]
    refine wpAnyH_ready (rs := [5]) (by kernel_rfl) (by simp) ?_
    refine AllReadyH.cons (o := ⟨_, _, _, _, _, _⟩) rfl (fun K hK => ?_) AllReadyH.nil
    go_simp
    refine (rhome_any a ha o _ ho).mono ?_
    rintro e wx ⟨rfl, hb⟩
    try simp only []
    have hS5 := hSc.trans (hb.mono hSc.size)
    refine hK.out _ _ hS5 (fun hHeld => ?_)
    clear hK K hb hSc
    have hSc := hS5
    clear hS5
    try simp only [Act.put, List.setIfInBounds_toArray, List.set_cons_zero, List.set_cons_succ]
    refine wpAnyH_take (i := 6) (oi := ⟨_, _, _, _, _, _⟩) (v := ?_) rfl (by kernel_rfl) (by kernel_rfl) (by kernel_rfl) (fun _ _ _ h => h) (Or.inl ⟨by rfl, ?_⟩) (by assumption) ?_
    rotate_left
    · intro W hSW; (try dsimp only at hSW); go_simp; try with_reducible rfl
    try simp only [Act.put, List.setIfInBounds_toArray, List.set_cons_zero, List.set_cons_succ]
    refine wpAnyH_take (i := 7) (oi := ⟨_, _, _, _, _, _⟩) (v := ?_) rfl (by kernel_rfl) (by kernel_rfl) (by kernel_rfl) (fun _ _ _ h => h) (Or.inl ⟨by rfl, ?_⟩) (by assumption) ?_
    rotate_left
    · intro W hSW; (try dsimp only at hSW); go_simp; try with_reducible rfl
    try simp only [Act.put, List.setIfInBounds_toArray, List.set_cons_zero, List.set_cons_succ]
    refine wpAnyH_ready (rs := [8]) (by kernel_rfl) (by simp) ?_
    refine AllReadyH.cons (o := ⟨_, _, _, _, _, _⟩) rfl (fun K hK => ?_) AllReadyH.nil
    go_simp
    refine (works3_any _ (hTd.below hSc)).mono ?_
    rintro e wx ⟨rfl, hb⟩
    try simp only []
    have hS8 := hSc.trans (hb.mono hSc.size)
    refine hK.out _ _ hS8 (fun hHeld => ?_)
    clear hK K hb hSc
    have hSc := hS8
    clear hS8
    try simp only [Act.put, List.setIfInBounds_toArray, List.set_cons_zero, List.set_cons_succ]
    refine wpAnyH_take (i := 9) (oi := ⟨_, _, _, _, _, _⟩) (v := ?_) rfl (by kernel_rfl) (by kernel_rfl) (by kernel_rfl) (fun _ _ _ h => h) (Or.inl ⟨by rfl, ?_⟩) (by assumption) ?_
    rotate_left
    · intro W hSW; (try dsimp only at hSW); go_simp; try with_reducible rfl
    try simp only [Act.put, List.setIfInBounds_toArray, List.set_cons_zero, List.set_cons_succ]
    refine wpAnyH_take (i := 10) (oi := ⟨_, _, _, _, _, _⟩) (v := ?_) rfl (by kernel_rfl) (by kernel_rfl) (by kernel_rfl) (fun _ _ _ h => h) (Or.inl ⟨by rfl, ?_⟩) (by assumption) ?_
    rotate_left
    · intro W hSW; (try dsimp only at hSW); go_simp; try with_reducible rfl
    try simp only [Act.put, List.setIfInBounds_toArray, List.set_cons_zero, List.set_cons_succ]
    refine wpAnyH_done (by kernel_rfl) ?_ _
    have hBw9 := hBd.trans (hSc.mono (by have := hltA; omega))
    go_wp2_with fail
    go_ret
    refine ⟨rfl, ?_⟩
    rw [HgA.out]
    exact hBw9
theorem places_all (a b : List UInt8) (o : Int) (s : ByteArray) (w : World) (hT : Tab w) (ha : a.length = 32) (hb : b.length = 32) (ho : o ≤ 9223372036854775807) (hm : s.size ≤ maxLen) :
    Calls Tryd.prog 5 #[.agg (cells a).toArray, .agg (cells b).toArray, .int .i64 o, .string s] w fun e w' => e = .returned (.bool true) ∧ Below w.heap.size w w' := by
  have hm' : s.size ≤ 9223372036854775807 := by unfold maxLen at hm; exact hm
  by_cases h : 200 < s.size
  · exact places_long a b o s w hT h hm'
  · by_cases hl : s.data.toList.length = 64
    · cases hu : unhex s.data.toList with
      | none => exact places_any a b zero32 3 s ha hb rfl o ho w hT (by omega) (parseB_none hu) (.inr ⟨rfl, rfl⟩)
      | some y =>
        have hx := hexB_unhex _ _ hu
        have hy : y.length = 32 := by have := unhex_length hu; omega
        exact places_any a b y 0 s ha hb hy o ho w hT (by omega) (parseB_some hl hu) (.inl ⟨rfl, by apply ByteArray.ext; rw [hx]⟩)
    · exact places_any a b zero32 3 s ha hb rfl o ho w hT (by omega) (parseB_len hl) (.inr ⟨rfl, rfl⟩)
end Go.Proofs.YthkbbghoofknpaaDoor
