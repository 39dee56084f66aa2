/-
  Layer 8: the contract of fields.
  Layer 8: the contract of super.Get.
  Layer 8: the contract of super.Choose.
-/
import Derived.Test.YtoiphbdmmiikaaaPkSupB
import Derived.Test.YtoiphbdmmiikaaaPkCurN
import Derived.Test.YtoiphbdmmiikaaaPkSlotF
import Derived.Deep.RegionHeld3
namespace Go.Proofs.Ytoiphbdmmiikaaa
open Go.RowKit
set_option linter.unusedVariables false
set_option linter.unusedSimpArgs false

theorem cut_no {xs : List UInt8} {k : Nat} (h : k ≤ xs.length) : cutBad xs false (k : Int) = false := by
  simp [cutBad]
  omega
theorem num_yes (w : World) (g : Nat) (xs : List UInt8) (k : Nat) (h : Cur w g xs false) (hk : k ≤ xs.length) (h8 : k ≤ 8) (hx : xs.length ≤ 140737488355328) :
    Calls Try.prog 41 #[.pointer (some ⟨g, 0, none⟩), .int .i64 (k : Int)] w (RetG w g (.int .u64 (leN (xs.take k) : Nat)) (xs.drop k) false) := by
  have := num_any w g xs false k h hx
  unfold cutGot cutRest at this
  rw [cut_no hk] at this
  simp only [Bool.false_eq_true, if_false, Int.toNat_natCast] at this
  rwa [List.take_of_length_le (show (xs.take k).length ≤ 8 by rw [List.length_take]; omega)] at this
theorem num2 (w : World) (g : Nat) (xs : List UInt8) (h : Cur w g xs false) (hk : 2 ≤ xs.length) (hx : xs.length ≤ 140737488355328) :
    Calls Try.prog 41 #[.pointer (some ⟨g, 0, none⟩), .int .i64 2] w (RetG w g (.int .u64 (leN (xs.take 2) : Nat)) (xs.drop 2) false) := num_yes w g xs 2 h hk (by omega) hx
theorem num8 (w : World) (g : Nat) (xs : List UInt8) (h : Cur w g xs false) (hk : 8 ≤ xs.length) (hx : xs.length ≤ 140737488355328) :
    Calls Try.prog 41 #[.pointer (some ⟨g, 0, none⟩), .int .i64 8] w (RetG w g (.int .u64 (leN (xs.take 8) : Nat)) (xs.drop 8) false) := num_yes w g xs 8 h hk (by omega) hx
theorem leN_two (xs : List UInt8) : leN (xs.take 2) < 65536 := by
  have h1 := leN_lt (xs.take 2)
  have h2 : (256 : Nat) ^ (xs.take 2).length ≤ 256 ^ 2 := Nat.pow_le_pow_right (by omega) (by rw [List.length_take]; omega)
  omega
theorem leN_eight (xs : List UInt8) : leN (xs.take 8) < 18446744073709551616 := by
  have h1 := leN_lt (xs.take 8)
  have h2 : (256 : Nat) ^ (xs.take 8).length ≤ 256 ^ 8 := Nat.pow_le_pow_right (by omega) (by rw [List.length_take]; omega)
  omega
theorem Cur.grown_above {w w' : World} {g k : Nat} {xs : List UInt8} {bad : Bool} (h : Cur w g xs bad) (hg : w.grownBy w' (some k)) (hk : g < k) : Cur w' g xs bad := by
  have hlt := h.lt
  obtain ⟨A, c, hc, h1, h2, h3⟩ := h
  exact ⟨A, c, (hg.block g hlt (fun e => by injection e with e; omega)).trans hc, h1, h2, h3.grown hg (by omega) (fun j e => by injection e with e; omega)⟩

def ptrs (g : Nat) : List Value := [.pointer (some ⟨g, 0, none⟩), .pointer (some ⟨g, 1, none⟩), .pointer (some ⟨g, 2, none⟩), .pointer (some ⟨g, 3, none⟩)]
theorem Try.builtP (g : Nat) : Try.prog.built 85 [(0, .pointer (some ⟨g, 0, none⟩)), (1, .pointer (some ⟨g, 1, none⟩)), (2, .pointer (some ⟨g, 2, none⟩)), (3, .pointer (some ⟨g, 3, none⟩))] = some (ptrs g).toArray := by kernel_rfl
theorem idxP (g i : Nat) (v : Value) (hi : i < 4) (hv : (ptrs g)[i]? = some v) (W : World) : (Instr.index 85 (.agg (ptrs g).toArray) (.int .i64 (i : Int))).run Try.prog W = .ok v W :=
  by
  have hsz : (Try.prog.info? 84).map (·.size) = some 1 := by kernel_rfl
  obtain ⟨inf, hinf, h1⟩ := Option.map_eq_some_iff.1 hsz
  have hv' : (ptrs g).toArray[i]? = some v := by simpa using hv
  have p1 : (part 84 (ptrs g).toArray i).run Try.prog W = .ok v W := by simp [part, isAgg, run_underlying Try.underlying84, hv]
  simp [Instr.index, asIntOf, run_underlying Try.underlying85, sizeOf, typeInfo, hinf, h1, hi, p1]
theorem Try.zeroP : (Try.prog.info? 23).bind (·.zero) = some (.agg (pc 0 0 0 0).toArray) := by kernel_rfl
theorem zeroPv (w : World) : (zeroValue 23).run Try.prog w = .ok (.agg (pc 0 0 0 0).toArray) w := by kernel_rfl
theorem Try.builtS (s t c a m : Int) : Try.prog.built 29 [(0, .agg (pc s t c a).toArray), (1, .int .i64 m)] = some (sbc ⟨s, t, c, a, m⟩).toArray := by kernel_rfl
theorem pc_all (s t c a : Int) : (pc s t c a).toArray.all (·.oneCell') = true := by simp [pc, Value.oneCell']
/-- A superblock stored. -/
theorem wp_store_sb {o : Oper} {a : Act} {w : World} {K : Act → World → Prop} {Q : Exit → Act → World → Prop} (x y : Operand) (ho : o.op = .store 29 x y) (g : Nat) (b : Sb) (hx : a.eval x = .pointer (some ⟨g, 0, none⟩)) (hy : a.eval y = .agg (sbc b).toArray)
    {old : List Value} (hg : RowV w g 29 old) (hlo : old.length = 5)
    (h : ∀ w', RowV w' g 29 (sbc b) → w.grownBy w' (some g) → w'.heap.size = w.heap.size → K (a.put o.dst undef) w') : o.wp Try.prog a w K Q :=
  wp_store_row 29 x y ho g (sbc b).toArray hx hy 29 old.toArray hg (sbc_size b) (by rw [List.size_toArray, List.size_toArray, hlo]; rfl) (sbc_all b) (h _ (hg.put (sbc b)) ⟨rfl, rfl, rfl, by simp, fun k _ hk => setRow_other w g k _ (fun e => hk (by rw [e]))⟩ (by simp))
/-- What stands in the bytes. -/
def fieldsL (xs : List UInt8) : Sb := ⟨(leN (xs.take 2) : Nat), (leN ((xs.drop 2).take 2) : Nat), (leN ((xs.drop 4).take 2) : Nat), (leN ((xs.drop 6).take 2) : Nat), IntKind.i64.wrap (leN ((xs.drop 8).take 8) : Nat)⟩

set_option maxRecDepth 100000 in
set_option maxHeartbeats 2000000 in
theorem sfields_any (A : Option Addr) (n c : Nat) (xs : List UInt8) (w : World) (B : Nat) (h : Lies w B A xs) (hB : B ≤ w.heap.size) (hn : n = xs.length) (hx : 16 ≤ xs.length) (hm : n ≤ 1000000) :
    Calls Try.prog 26 #[.slice A n c] w fun e w' => e = .returned (.agg (sbc (fieldsL xs)).toArray) ∧ Below w.heap.size w w' := by
  have Hn := Lib.hid hn
  have Hh := Lib.hid h
  have Hx := Lib.hid hx
  have Hxm : Hid (xs.length ≤ 140737488355328) := by show _ ≤ _; omega
  clear hn h hx
  go_enter Try.func26, Try.ntmps26
  go_wp2_with ((with_reducible refine at_alloc 29 ?_); refine wpList_alloc_rowV rfl 29 rfl (sbc sb0) Try.zeroB ?_)
  intro w1 hr1 hb1 hs1
  go_wp2_with fail
  refine (from_any A n c xs w1 ((Hh.out.below (hb1.mono hB)).le (by omega)) Hn.out (by omega)).mono ?_
  rintro e w2 ⟨g, rfl, hg2, hc2, hb2⟩
  have hr2 := hr1.below (by omega) hb2
  have hB2 : Below w.heap.size w w2 := hb1.trans (hb2.mono (by omega))
  have hgl := hc2.lt
  have hgN : w.heap.size < g := by omega
  clear hr1 hb1 hb2 hg2 hs1
  generalize hN : w.heap.size = N at *
  have hz := zeroPv
  go_wp2_with ((with_reducible refine at_alloc 23 ?_); refine wpList_alloc_rowV rfl 23 rfl (pc 0 0 0 0) Try.zeroP ?_)
  intro w3 hr3 hb3 hs3
  have hrN3 := hr2.below (by omega) hb3
  have hc3 := hc2.below hb3
  have hB3 : Below N w w3 := hB2.trans (hb3.mono (by omega))
  clear hr2 hc2 hb3 hB2
  generalize hG : w2.heap.size = G at *
  go_wp2_with ((with_reducible refine at_store 23 ?_); refine wpList_store_rowV rfl 23 _ _ rfl G (pc 0 0 0 0) rfl rfl 23 (pc 0 0 0 0) hr3 (pc_size 0 0 0 0) rfl (pc_all 0 0 0 0) ?_)
  intro w4 hP4 hg4 hs4
  clear hz
  have hc4 := hc3.grown_above hg4 (by omega)
  have hr4 := hrN3.keep hg4 (fun e => by injection e with e; omega)
  have hB4 : Below N w w4 := below_grown hB3 hg4 (by omega) (by omega)
  have hz4 : G < w4.heap.size := by omega
  clear hr3 hrN3 hc3 hB3 hg4 hs4 hs3
  have x0 : ∀ W, (Instr.index 85 (.agg (ptrs G).toArray) (.int .i64 0)).run Try.prog W = .ok (.pointer (some ⟨G, 0, none⟩)) W := idxP G 0 _ (by omega) rfl
  have x1 : ∀ W, (Instr.index 85 (.agg (ptrs G).toArray) (.int .i64 1)).run Try.prog W = .ok (.pointer (some ⟨G, 1, none⟩)) W := idxP G 1 _ (by omega) rfl
  have x2 : ∀ W, (Instr.index 85 (.agg (ptrs G).toArray) (.int .i64 2)).run Try.prog W = .ok (.pointer (some ⟨G, 2, none⟩)) W := idxP G 2 _ (by omega) rfl
  have x3 : ∀ W, (Instr.index 85 (.agg (ptrs G).toArray) (.int .i64 3)).run Try.prog W = .ok (.pointer (some ⟨G, 3, none⟩)) W := idxP G 3 _ (by omega) rfl
  obtain ⟨n0, hn0⟩ : ∃ k, leN (xs.take 2) = k := ⟨_, rfl⟩
  obtain ⟨n1, hn1⟩ : ∃ k, leN ((xs.drop 2).take 2) = k := ⟨_, rfl⟩
  obtain ⟨n2, hn2⟩ : ∃ k, leN ((xs.drop 4).take 2) = k := ⟨_, rfl⟩
  obtain ⟨n3, hn3⟩ : ∃ k, leN ((xs.drop 6).take 2) = k := ⟨_, rfl⟩
  obtain ⟨M, hM⟩ : ∃ k, leN ((xs.drop 8).take 8) = k := ⟨_, rfl⟩
  have l0 : n0 < 65536 := by rw [← hn0]; exact leN_two _
  have l1 : n1 < 65536 := by rw [← hn1]; exact leN_two _
  have l2 : n2 < 65536 := by rw [← hn2]; exact leN_two _
  have l3 : n3 < 65536 := by rw [← hn3]; exact leN_two _
  have lM : M < 18446744073709551616 := by rw [← hM]; exact leN_eight _
  have Hf : Hid (fieldsL xs = ⟨n0, n1, n2, n3, IntKind.i64.wrap M⟩) := by show _ = _; rw [fieldsL, hn0, hn1, hn2, hn3, hM]
  have H0 := Lib.hid hn0
  have H1 := Lib.hid hn1
  have H2 := Lib.hid hn2
  have H3 := Lib.hid hn3
  have HM := Lib.hid hM
  clear hn0 hn1 hn2 hn3 hM
  go_wp2_with ((with_reducible refine at_build 85 ?_); refine wpList_build_to rfl 85 _ rfl (ptrs G) (by rw [Array.toList_map]; exact Try.builtP _) ?_)
  refine wp_loop_rounds 5 ?_
  rw [rounds_succ]
  go_wp2_with fail
  refine (num2 w4 g xs hc4 (by have := Hx.out; omega) Hxm.out).mono ?_
  rintro e w5 ⟨rfl, hc5, hg5⟩
  rw [H0.out]
  
  have hP5 := hP4.keep hg5 (fun e => by injection e with e; omega)
  have hr5 := hr4.keep hg5 (fun e => by injection e with e; omega)
  have hB5 : Below N w w5 := below_grown hB4 hg5 (by omega) (by omega)
  have hz5 : G < w5.heap.size := by have := hg5.size; omega
  clear hP4 hr4 hB4 hc4 hg5
  go_wp2_with ((with_reducible refine at_store 3 ?_); refine store_field rfl _ _ rfl G 0 (n0 : Int) rfl rfl hP5 (Nat.lt_of_lt_of_eq (by decide) (rfl : 4 = _)) ?_)
  intro w6 hq6 hg6 hs6
  have hP6 : RowV w6 G 23 (pc n0 0 0 0) := hq6
  have hc6 := hc5.grown_above hg6 (by omega)
  have hr6 := hr5.keep hg6 (fun e => by injection e with e; omega)
  have hB6 : Below N w w6 := below_grown hB5 hg6 (by omega) (by omega)
  have hz6 : G < w6.heap.size := by omega
  clear hq6 hP5 hc5 hr5 hB5 hg6 hs6 x0
  go_wp2_with fail
  rw [rounds_succ]
  go_wp2_with fail
  refine (num2 w6 g (xs.drop 2) hc6 (by have := Hx.out; simp only [List.length_drop]; omega) (by have := Hxm.out; simp only [List.length_drop]; omega)).mono ?_
  rintro e w7 ⟨rfl, hc7, hg7⟩
  rw [H1.out]
  rw [List.drop_drop] at hc7
  have hP7 := hP6.keep hg7 (fun e => by injection e with e; omega)
  have hr7 := hr6.keep hg7 (fun e => by injection e with e; omega)
  have hB7 : Below N w w7 := below_grown hB6 hg7 (by omega) (by omega)
  have hz7 : G < w7.heap.size := by have := hg7.size; omega
  clear hP6 hr6 hB6 hc6 hg7
  go_wp2_with ((with_reducible refine at_store 3 ?_); refine store_field rfl _ _ rfl G 1 (n1 : Int) rfl rfl hP7 (Nat.lt_of_lt_of_eq (by decide) (rfl : 4 = _)) ?_)
  intro w8 hq8 hg8 hs8
  have hP8 : RowV w8 G 23 (pc n0 n1 0 0) := hq8
  have hc8 := hc7.grown_above hg8 (by omega)
  have hr8 := hr7.keep hg8 (fun e => by injection e with e; omega)
  have hB8 : Below N w w8 := below_grown hB7 hg8 (by omega) (by omega)
  have hz8 : G < w8.heap.size := by omega
  clear hq8 hP7 hc7 hr7 hB7 hg8 hs8 x1
  go_wp2_with fail
  rw [rounds_succ]
  go_wp2_with fail
  refine (num2 w8 g (xs.drop 4) hc8 (by have := Hx.out; simp only [List.length_drop]; omega) (by have := Hxm.out; simp only [List.length_drop]; omega)).mono ?_
  rintro e w9 ⟨rfl, hc9, hg9⟩
  rw [H2.out]
  rw [List.drop_drop] at hc9
  have hP9 := hP8.keep hg9 (fun e => by injection e with e; omega)
  have hr9 := hr8.keep hg9 (fun e => by injection e with e; omega)
  have hB9 : Below N w w9 := below_grown hB8 hg9 (by omega) (by omega)
  have hz9 : G < w9.heap.size := by have := hg9.size; omega
  clear hP8 hr8 hB8 hc8 hg9
  go_wp2_with ((with_reducible refine at_store 3 ?_); refine store_field rfl _ _ rfl G 2 (n2 : Int) rfl rfl hP9 (Nat.lt_of_lt_of_eq (by decide) (rfl : 4 = _)) ?_)
  intro w10 hq10 hg10 hs10
  have hP10 : RowV w10 G 23 (pc n0 n1 n2 0) := hq10
  have hc10 := hc9.grown_above hg10 (by omega)
  have hr10 := hr9.keep hg10 (fun e => by injection e with e; omega)
  have hB10 : Below N w w10 := below_grown hB9 hg10 (by omega) (by omega)
  have hz10 : G < w10.heap.size := by omega
  clear hq10 hP9 hc9 hr9 hB9 hg10 hs10 x2
  go_wp2_with fail
  rw [rounds_succ]
  go_wp2_with fail
  refine (num2 w10 g (xs.drop 6) hc10 (by have := Hx.out; simp only [List.length_drop]; omega) (by have := Hxm.out; simp only [List.length_drop]; omega)).mono ?_
  rintro e w11 ⟨rfl, hc11, hg11⟩
  rw [H3.out]
  rw [List.drop_drop] at hc11
  have hP11 := hP10.keep hg11 (fun e => by injection e with e; omega)
  have hr11 := hr10.keep hg11 (fun e => by injection e with e; omega)
  have hB11 : Below N w w11 := below_grown hB10 hg11 (by omega) (by omega)
  have hz11 : G < w11.heap.size := by have := hg11.size; omega
  clear hP10 hr10 hB10 hc10 hg11
  go_wp2_with ((with_reducible refine at_store 3 ?_); refine store_field rfl _ _ rfl G 3 (n3 : Int) rfl rfl hP11 (Nat.lt_of_lt_of_eq (by decide) (rfl : 4 = _)) ?_)
  intro w12 hq12 hg12 hs12
  have hP12 : RowV w12 G 23 (pc n0 n1 n2 n3) := hq12
  have hc12 := hc11.grown_above hg12 (by omega)
  have hr12 := hr11.keep hg12 (fun e => by injection e with e; omega)
  have hB12 : Below N w w12 := below_grown hB11 hg12 (by omega) (by omega)
  have hz12 : G < w12.heap.size := by omega
  clear hq12 hP11 hc11 hr11 hB11 hg12 hs12 x3
  go_wp2_with fail
  rw [rounds_succ]
  go_wp2_with fail
  have hPd : RowV w12.drew G 23 (pc n0 n1 n2 n3) := hP12
  have hcd : Cur w12.drew g (xs.drop 8) false := hc12
  have hrd : RowV w12.drew N 29 (sbc sb0) := hr12
  have hBd : Below N w w12.drew := ⟨hB12.os, hB12.tape, hB12.output, hB12.size, hB12.block⟩
  have hzd : G < w12.drew.heap.size := hz12
  refine wp_region_held_drew (S := fun W => RowV W G 23 (pc n0 n1 n2 n3)) (by kernel_rfl) hPd (fun hHeld => ?_)
  clear hP12 hc12 hr12 hB12 hz12
  generalize w12.drew = wd at *
  refine wpAnyH_take (i := 0) (oi := ⟨_, _, _, _, _, _⟩) (v := ?_) rfl (by kernel_rfl) (by kernel_rfl) (by kernel_rfl) (fun _ _ _ h => h) (Or.inl ⟨by rfl, ?_⟩) (by assumption) ?_
  rotate_left
  · intro W hSW; refine exec_load_row 23 (.tmp 4) ?_ G ?_ _ hSW Try.underlying23 rfl Try.sizeP <;> rfl
  try simp only [Act.put, List.setIfInBounds_toArray, List.set_cons_zero, List.set_cons_succ]
  refine wpAnyH_take (i := 1) (oi := ⟨_, _, _, _, _, _⟩) (v := ?_) rfl (by kernel_rfl) (by kernel_rfl) (by kernel_rfl) (fun _ _ _ h => h) (Or.inl ⟨by rfl, ?_⟩) (by assumption) ?_
  rotate_left
  · intro W hSW; go_simp; try with_reducible rfl
  try simp only [Act.put, List.setIfInBounds_toArray, List.set_cons_zero, List.set_cons_succ]
  refine wpAnyH_ready (rs := [2]) (by kernel_rfl) (by simp) ?_
  refine AllReadyH.cons (o := ⟨_, _, _, _, _, _⟩) rfl (fun K hK => ?_) AllReadyH.nil
  go_simp
  refine (num8 wd g (xs.drop 8) hcd (by have := Hx.out; simp only [List.length_drop]; omega) (by have := Hxm.out; simp only [List.length_drop]; omega)).mono ?_
  rintro e we ⟨rfl, hce, hge⟩
  rw [HM.out]
  have hPe := hPd.keep hge (fun e => by injection e with e; omega)
  have hre := hrd.keep hge (fun e => by injection e with e; omega)
  have hBe : Below N w we := below_grown hBd hge (by omega) (by omega)
  have hze : G < we.heap.size := by have := hge.size; omega
  try simp only []
  refine hK.out _ _ hPe (fun hHeld => ?_)
  clear hK K
  try simp only [Act.put, List.setIfInBounds_toArray, List.set_cons_zero, List.set_cons_succ]
  refine wpAnyH_take (i := 3) (oi := ⟨_, _, _, _, _, _⟩) (v := .int .i64 (IntKind.i64.wrap (M : Int))) rfl (by kernel_rfl) (by kernel_rfl) (by kernel_rfl) (fun _ _ _ h => h) (Or.inl ⟨by rfl, ?_⟩) (by assumption) ?_
  · intro W hSW; go_simp
  try simp only [Act.put, List.setIfInBounds_toArray, List.set_cons_zero, List.set_cons_succ]
  refine wpAnyH_take (i := 4) (oi := ⟨_, _, _, _, _, _⟩) (v := .agg (sbc ⟨n0, n1, n2, n3, IntKind.i64.wrap (M : Int)⟩).toArray) rfl (by kernel_rfl) (by kernel_rfl) (by kernel_rfl) (fun _ _ _ h => h) (Or.inl ⟨by rfl, ?_⟩) (by assumption) ?_
  · intro W hSW; refine exec_built 29 #[(0, .tmp 24), (1, .tmp 27)] ?_ (sbc ⟨n0, n1, n2, n3, IntKind.i64.wrap (M : Int)⟩) ?_
    · rfl
    · exact Try.builtS _ _ _ _ _
  try simp only [Act.put, List.setIfInBounds_toArray, List.set_cons_zero, List.set_cons_succ]
  refine wpAnyH_ready (rs := [5]) (by kernel_rfl) (by simp) ?_
  refine AllReadyH.cons (o := ⟨_, _, _, _, _, _⟩) rfl (fun K hK => ?_) AllReadyH.nil
  refine ite_yes rfl ?_
  refine wp_store_sb (.tmp 2) (.tmp 28) rfl N ⟨n0, n1, n2, n3, IntKind.i64.wrap (M : Int)⟩ rfl rfl hre rfl ?_
  intro wf hrf hgf hsf
  have hPf := hPe.keep hgf (fun e => by injection e with e; omega)
  have hBf : Below N w wf := below_grown hBe hgf (Nat.le_refl _) (by omega)
  refine hK.out _ _ hPf (fun hHeld => ?_)
  clear hK K
  try simp only [Act.put, List.setIfInBounds_toArray, List.set_cons_zero, List.set_cons_succ]
  refine wpAnyH_done (by kernel_rfl) ?_ _
  go_wp2_with fail
  exact bodyPost_ret (results_cell_row (fn := Try.f26) rfl _ _ N 29 _ (0, 0) _ rfl hrf Try.underlying29 rfl (sbc_size _)) rfl ⟨by rw [Hf.out], by rw [hN]; exact hBf⟩
end Go.Proofs.Ytoiphbdmmiikaaa
namespace Go.Proofs.Ytoiphbdmmiikaaa
open Go.RowKit
set_option linter.unusedVariables false
set_option linter.unusedSimpArgs false

theorem fieldsL_cand (x : Sec) : fieldsL (x.1.drop 8) = ⟨(candS x).s, (candS x).t, (candS x).c, (candS x).a, IntKind.i64.wrap (candS x).m⟩ := by
  simp only [fieldsL, candS, numAt, List.drop_drop]
theorem fieldsL_sec {b : Sb} (h : b.ok = true) : fieldsL (b.sec.1.drop 8) = b := by
  rw [fieldsL_cand, candS_sec h]
  obtain ⟨⟨s1, s2⟩, ⟨t1, t2⟩, ⟨c1, c2⟩, ⟨a1, a2⟩, m1, m2⟩ := Sb.ok_iff.1 h
  rw [IntWalk.i64_in _ (by omega)]
theorem sec_magic (b : Sb) : b.sec.1.take 8 = Sb.magic := by
  show (sealB b.plain).take 8 = Sb.magic
  unfold sealB Sb.plain Sb.body
  simp only [List.append_assoc]
  rw [List.take_append_of_le_length (by simp [Sb.magic])]
  rfl
/-- What Get answers. -/
def getV (x : Sec) : Sb := (getS x).getD sb0
def getC (x : Sec) : Int := if (getS x).isSome then 0 else 5
theorem get_none {x : Sec} (h : getS x = none) : getV x = sb0 ∧ getC x = 5 := by simp [getV, getC, h]
theorem get_some {x : Sec} {b : Sb} (h : getS x = some b) : getV x = b ∧ getC x = 0 := by simp [getV, getC, h]
theorem get_mark {x : Sec} (h : x.1.take 8 ≠ Sb.magic) : getS x = none := by
  cases hg : getS x with
  | none => rfl
  | some b => exact absurd (by rw [← (getS_some hg).2]; exact sec_magic b) h
theorem get_bad {x : Sec} (h : (fieldsL (x.1.drop 8)).ok = false) : getS x = none := by
  cases hg : getS x with
  | none => rfl
  | some b =>
    obtain ⟨h1, h2⟩ := getS_some hg
    rw [← h2, fieldsL_sec h1, h1] at h
    cases h
theorem get_other {x : Sec} (h : (fieldsL (x.1.drop 8)).sec ≠ x) : getS x = none := by
  cases hg : getS x with
  | none => rfl
  | some b =>
    obtain ⟨h1, h2⟩ := getS_some hg
    rw [← h2, fieldsL_sec h1] at h
    exact absurd rfl h
theorem get_yes {x : Sec} (h1 : (fieldsL (x.1.drop 8)).ok = true) (h2 : (fieldsL (x.1.drop 8)).sec = x) : getS x = some (fieldsL (x.1.drop 8)) := getS_iff.2 ⟨h1, h2⟩

theorem zeroBv (w : World) : (zeroValue 29).run Try.prog w = .ok (.agg (sbc sb0).toArray) w := by kernel_rfl
theorem alloc_sb {w : World} {ops : Array Oper} {rest : List Oper} {o : Oper} {A : Act} {Q : Exit → Act → World → Prop} (hgd : o.guard = none) (ho : o.op = .alloc 29)
    (h : ∀ w', RowV w' w.heap.size 29 (sbc sb0) → Below w.heap.size w w' → w'.heap.size = w.heap.size + 1 → wpList Try.prog ops Q rest (A.put o.dst (.pointer (some ⟨w.heap.size, 0, none⟩))) w') : wpList Try.prog ops Q (o :: rest) A w :=
  wpList_alloc_rowV hgd 29 ho (sbc sb0) Try.zeroB h
theorem store_sb {w : World} {ops : Array Oper} {rest : List Oper} {o : Oper} {A : Act} {Q : Exit → Act → World → Prop} (hgd : o.guard = none) (x y : Operand) (ho : o.op = .store 29 x y) (g : Nat) (b : Sb)
    (hx : A.eval x = .pointer (some ⟨g, 0, none⟩)) (hy : A.eval y = .agg (sbc b).toArray) {old : List Value} (hg : RowV w g 29 old) (hold : old.length = 5)
    (h : ∀ w', RowV w' g 29 (sbc b) → w.grownBy w' (some g) → w'.heap.size = w.heap.size → wpList Try.prog ops Q rest (A.put o.dst undef) w') : wpList Try.prog ops Q (o :: rest) A w :=
  wpList_store_rowV hgd 29 x y ho g _ hx hy 29 old hg (sbc_size b) (by rw [List.size_toArray, List.size_toArray, hold]; rfl) (sbc_all b) h
theorem load_sb {w : World} {ops : Array Oper} {rest : List Oper} {o : Oper} {A : Act} {Q : Exit → Act → World → Prop} (hgd : o.guard = none) (x : Operand) (ho : o.op = .load 29 x) (g : Nat) {b : Sb}
    (hx : A.eval x = .pointer (some ⟨g, 0, none⟩)) (hg : RowV w g 29 (sbc b))
    (h : wpList Try.prog ops Q rest (A.put o.dst (.agg (sbc b).toArray)) w) : wpList Try.prog ops Q (o :: rest) A w :=
  wpList_load_row hgd 29 x ho g hx 29 _ (0, 0) _ hg Try.underlying29 rfl (sbc_size b) h
/-- A guarded operation that is wanted. -/
theorem wpList_wants {P : Program} {w : World} {ops : Array Oper} {rest : List Oper} {o : Oper} {A : Act} {Q : Exit → Act → World → Prop} (hw : Region.wanted o (yielded ops A.tmps) = true)
    (h : ∀ K : Act → World → Prop, (∀ a w, wpList P ops Q rest a w → K a w) → o.wp P A w K Q) : wpList P ops Q (o :: rest) A w :=
  wpList_step fun K hK => by rw [if_pos hw]; exact h K hK
theorem at_loadG {P : Program} {w : World} {ops : Array Oper} {rest : List Oper} {a : Act} {Q : Exit → Act → World → Prop} {d : Option Tmp} {x : Operand} {u : TypeId} {p : String} {af : Array Edge} {gd : Nat × Bool} (ty : TypeId)
    (h : wpList P ops Q (⟨d, .load ty x, u, p, af, some gd⟩ :: rest) a w) : wpList P ops Q (⟨d, .load ty x, u, p, af, some gd⟩ :: rest) a w := h
theorem at_neqG {P : Program} {w : World} {ops : Array Oper} {rest : List Oper} {a : Act} {Q : Exit → Act → World → Prop} {d : Option Tmp} {x y : Operand} {u v : TypeId} {p : String} {af : Array Edge} {gd : Nat × Bool} (ty : TypeId)
    (h : wpList P ops Q (⟨d, .binOp .neq ty x y v, u, p, af, some gd⟩ :: rest) a w) : wpList P ops Q (⟨d, .binOp .neq ty x y v, u, p, af, some gd⟩ :: rest) a w := h
theorem load_secG {w : World} {ops : Array Oper} {rest : List Oper} {o : Oper} {A : Act} {Q : Exit → Act → World → Prop} (hw : Region.wanted o (yielded ops A.tmps) = true) (x : Operand) (ho : o.op = .load 24 x) (g : Nat) {s : Sec} {t : TypeId}
    (hx : A.eval x = .pointer (some ⟨g, 0, none⟩)) (hg : RowV w g t s.cs)
    (h : wpList Try.prog ops Q rest (A.put o.dst (.agg s.cs.toArray)) w) : wpList Try.prog ops Q (o :: rest) A w := by
  refine wpList_wants hw fun K hK => ?_
  unfold Oper.wp
  rw [exec_load_row 24 x ho g hx _ hg Try.underlying24 rfl (sec_size s)]
  exact hK _ _ h
theorem sec_eq_iff (x y : Sec) : (x.1 == y.1) = decide (x = y) := by
  rw [Bool.eq_iff_iff, beq_iff_eq, decide_eq_true_eq]
  exact ⟨fun h => Subtype.ext h, fun h => by rw [h]⟩
theorem Try.cells5s : Try.prog.cellsOf 5 = 1 := by kernel_rfl
theorem Try.guard8 : Try.prog.eqGuardType Try.prog.depth 63 = false := by kernel_rfl
theorem Try.guardSec : Try.prog.eqGuardType Try.prog.depth 24 = false := by kernel_rfl
theorem neq_secG {w : World} {ops : Array Oper} {rest : List Oper} {o : Oper} {A : Act} {Q : Exit → Act → World → Prop} (hw : Region.wanted o (yielded ops A.tmps) = true) (x y : Operand) (u : TypeId) (ho : o.op = .binOp .neq 24 x y u) (s t : Sec)
    (hx : A.eval x = .agg s.cs.toArray) (hy : A.eval y = .agg t.cs.toArray)
    (h : wpList Try.prog ops Q rest (A.put o.dst (.bool (!decide (s = t)))) w) : wpList Try.prog ops Q (o :: rest) A w := by
  refine wpList_wants hw fun K hK => ?_
  unfold Oper.wp
  rw [exec_neqB 24 x y u ho Try.underlying24 Try.underlying5 Try.cells5s Try.guardSec hx hy s.2 t.2, sec_eq_iff]
  exact hK _ _ h

theorem Try.build0 (w : World) : (Instr.build 29 #[]).run Try.prog w = .ok (.agg (sbc sb0).toArray) w := by kernel_rfl
theorem sec_range8 {w : World} {g : Nat} {t : TypeId} {x : Sec} (h : RowV w g t x.cs) : w.rangeAt g 0 (cells (x.1.take 8)) := by
  intro j u hj
  rw [Nat.zero_add]
  refine h.cell ?_
  have e : cells (x.1.take 8) = x.cs.take 8 := by simp [cells, Sec.cs]
  rw [e, List.getElem?_take] at hj
  split at hj
  · exact hj
  · cases hj
theorem take8_length (x : Sec) : (x.1.take 8).length = 8 := by rw [List.length_take, x.2]; rfl
theorem size8 (xs : List UInt8) (h : xs.length = 8) : (Try.prog.info? 63).map (·.size) = some (cells xs).length := by rw [cells_length, h]; kernel_rfl

theorem lies_range {w : World} {B g : Nat} {xs : List UInt8} (h : Lies w B (some ⟨g, 0, none⟩) xs) : w.rangeAt g 0 (cells xs) := by
  intro j u hj
  have := h.cells rfl j u hj
  rwa [Addr.add_lit] at this
theorem sec_tail {w : World} {g : Nat} {t : TypeId} {x : Sec} (h : RowV w g t x.cs) : Lies w w.heap.size (some ⟨g, 8, none⟩) (x.1.drop 8) := by
  intro _
  refine ⟨g, 8, rfl, h.lt, fun i y hi => h.cell ?_⟩
  rw [List.getElem?_drop] at hi
  exact cells_get hi

set_option maxRecDepth 100000 in
set_option maxHeartbeats 2000000 in
theorem sget_any (w : World) (x : Sec) :
    Calls Try.prog 8 #[.agg x.cs.toArray] w fun e w' => e = .returned (.tuple #[.agg (sbc (getV x)).toArray, .int .i64 (getC x)]) ∧ Below w.heap.size w w' := by
  go_enter Try.func8, Try.ntmps8
  go_wp2_with ((with_reducible refine at_box 24 ?_); refine wpList_box_rowV rfl 24 _ rfl x.cs rfl ?_)
  intro w1 hr1 hb1 hs1
  go_wp2_with ((with_reducible refine at_alloc 29 ?_); refine alloc_sb rfl rfl ?_)
  intro w2 hr2 hb2 hs2
  have hx2 := hr1.below (by omega) hb2
  have hB2 : Below w.heap.size w w2 := hb1.trans (hb2.mono (by omega))
  have hsz2 : w.heap.size + 1 < w2.heap.size := by omega
  have hlt : w.heap.size < w.heap.size + 1 := by omega
  clear hr1 hb1 hb2 hs1 hs2
  generalize hN1 : w.heap.size + 1 = N1 at *
  generalize hN : w.heap.size = N at *
  clear hN1
  have hsl : ∀ W, (Instr.sliceAt 24 (.pointer (some ⟨N, 0, none⟩)) none none none).run Try.prog W = .ok (.slice (some ⟨N, 0, none⟩) 256 256) W := fun W => run_slice_arr_all Try.underlying24 Try.size1 N
  have hap : ∀ W A len cap, 8 ≤ len → (Instr.arrayAt 63 (.slice A len cap)).run Try.prog W = .ok (.pointer A) W := fun W A len cap h => run_arrayAt Try.underlying63 A len cap h
  have hap1 := fun W => hap W (some ⟨N, 0, none⟩) 256 256 (by omega)
  go_wp2_with fail
  have hxd : RowV w2.drew N 24 x.cs := hx2
  have hrd : RowV w2.drew N1 29 (sbc sb0) := hr2
  have hBd : Below N w w2.drew := ⟨hB2.os, hB2.tape, hB2.output, hB2.size, hB2.block⟩
  have hzd : N1 < w2.drew.heap.size := hsz2
  refine wp_region_held_drew (S := fun W => RowV W N 24 x.cs) (by kernel_rfl) hxd (fun hHeld => ?_)
  clear hx2 hr2 hB2 hsz2
  generalize w2.drew = wd at *
  refine wpAnyH_take (i := 0) (oi := ⟨_, _, _, _, _, _⟩) (v := ?_) rfl (by kernel_rfl) (by kernel_rfl) (by kernel_rfl) (fun _ _ _ h => h) (Or.inl ⟨by rfl, ?_⟩) (by assumption) ?_
  rotate_left
  · intro W hSW; go_simp; try with_reducible rfl
  try simp only [Act.put, List.setIfInBounds_toArray, List.set_cons_zero, List.set_cons_succ]
  refine wpAnyH_take (i := 1) (oi := ⟨_, _, _, _, _, _⟩) (v := ?_) rfl (by kernel_rfl) (by kernel_rfl) (by kernel_rfl) (fun _ _ _ h => h) (Or.inl ⟨by rfl, ?_⟩) (by assumption) ?_
  rotate_left
  · intro W hSW; go_simp; try with_reducible rfl
  try simp only [Act.put, List.setIfInBounds_toArray, List.set_cons_zero, List.set_cons_succ]
  refine wpAnyH_take (i := 2) (oi := ⟨_, _, _, _, _, _⟩) (v := ?_) rfl (by kernel_rfl) (by kernel_rfl) (by kernel_rfl) (fun _ _ _ h => h) (Or.inl ⟨by rfl, ?_⟩) (by assumption) ?_
  rotate_left
  · intro W hSW; refine exec_load_mid 63 (.tmp 8) ?_ N 0 ?_ (cells (x.1.take 8)) _ (sec_range8 hSW) Try.underlying63 rfl (size8 _ (take8_length x)) <;> rfl
  try simp only [Act.put, List.setIfInBounds_toArray, List.set_cons_zero, List.set_cons_succ]
  refine wpAnyH_ready (rs := [3]) (by kernel_rfl) (by simp) ?_
  refine AllReadyH.cons (o := ⟨_, _, _, _, _, _⟩) rfl (fun K hK => ?_) AllReadyH.nil
  go_simp
  refine hK.out _ _ (hxd.alloc _) (fun hHeld => ?_)
  clear hK K
  try simp only [Act.put, List.setIfInBounds_toArray, List.set_cons_zero, List.set_cons_succ]
  have hap2 := fun W => hap W (some ⟨wd.heap.size, 0, none⟩) 8 8 (by omega)
  refine wpAnyH_ready (rs := [4]) (by kernel_rfl) (by simp) ?_
  refine AllReadyH.cons (o := ⟨_, _, _, _, _, _⟩) rfl (fun K hK => ?_) AllReadyH.nil
  refine ite_yes rfl ?_
  refine wp_const 46 (.tmp 10) rfl Try.underlying46 Try.underlying5 _ 8 8 rfl Sb.magic rfl ?_
  intro we hle hbe hse
  have hxe := hxd.below (by omega) hbe
  have hre := hrd.below (by omega) hbe
  have hBe : Below N w we := hBd.trans (hbe.mono (by omega))
  have hze : N1 < we.heap.size := by omega
  have hge := lies_range hle
  refine hK.out _ _ hxe (fun hHeld => ?_)
  clear hK K
  try simp only [Act.put, List.setIfInBounds_toArray, List.set_cons_zero, List.set_cons_succ]
  refine wpAnyH_take (i := 5) (oi := ⟨_, _, _, _, _, _⟩) (v := ?_) rfl (by kernel_rfl) (by kernel_rfl) (by kernel_rfl) (fun _ _ _ h => h) (Or.inl ⟨by rfl, ?_⟩) (by assumption) ?_
  rotate_left
  · intro W hSW; go_simp; try with_reducible rfl
  try simp only [Act.put, List.setIfInBounds_toArray, List.set_cons_zero, List.set_cons_succ]
  refine wpAnyH_ready (rs := [6]) (by kernel_rfl) (by simp) ?_
  refine AllReadyH.cons (o := ⟨_, _, _, _, _, _⟩) rfl (fun K hK => ?_) AllReadyH.nil
  refine ite_yes rfl ?_
  refine wp_load_mid 63 (.tmp 12) rfl wd.heap.size 0 rfl (cells Sb.magic) _ hge Try.underlying63 rfl (size8 _ rfl) ?_
  refine hK.out _ _ hxe (fun hHeld => ?_)
  clear hK K
  try simp only [Act.put, List.setIfInBounds_toArray, List.set_cons_zero, List.set_cons_succ]
  refine wpAnyH_take (i := 7) (oi := ⟨_, _, _, _, _, _⟩) (v := .bool (!(x.1.take 8 == Sb.magic))) rfl (by kernel_rfl) (by kernel_rfl) (by kernel_rfl) (fun _ _ _ h => h) (Or.inl ⟨by rfl, ?_⟩) (by assumption) ?_
  · intro W hSW; exact exec_neqB 63 (.tmp 9) (.tmp 13) _ rfl Try.underlying63 Try.underlying5 Try.cells5s Try.guard8 rfl rfl (take8_length x) rfl
  try simp only [Act.put, List.setIfInBounds_toArray, List.set_cons_zero, List.set_cons_succ]
  refine wpAnyH_done (by kernel_rfl) ?_ _
  clear hsl hap hap1 hap2 hxd hrd hBd hzd hle hbe hge hHeld
  clear hse
  cases hbq : (x.1.take 8 == Sb.magic)
  · have hg := get_none (get_mark (x := x) (by simpa using hbq))
    have Hg := Lib.hid hg
    clear hbq hg
    have hz := zeroBv
    go_wp2_with ((with_reducible refine at_store 29 ?_); refine store_sb rfl _ _ rfl N1 sb0 rfl rfl hre rfl ?_)
    intro w4 hr4 hg4 hs4
    go_wp2_with fail
    exact bodyPost_ret (results_cell_tmp (fn := Try.f8) rfl _ _ N1 29 _ (0, 0) _ rfl (.int .i64 5) rfl hr4 Try.underlying29 rfl (sbc_size _)) rfl ⟨by rw [Hg.out.1, Hg.out.2], by rw [hN]; exact below_grown hBe hg4 (by omega) (by omega)⟩
  · clear hbq
    have hsl : ∀ W, (Instr.sliceAt 24 (.pointer (some ⟨N, 0, none⟩)) (some (.int .i64 8)) none none).run Try.prog W = .ok (.slice (some ⟨N, 8, none⟩) 248 248) W := fun W => run_slice_arr_from Try.underlying24 Try.size1 N 0 .i64 8 8 rfl (by omega)
    go_wp2_with fail
    refine (sfields_any _ 248 248 (x.1.drop 8) we we.heap.size (sec_tail hxe) (Nat.le_refl _) (by rw [List.length_drop, x.2]) (by rw [List.length_drop, x.2]; omega) (by omega)).mono ?_
    rintro e w4 ⟨rfl, hb4⟩
    have hx4 := hxe.below (by omega) hb4
    have hr4 := hre.below (by omega) hb4
    have hB4 : Below N w w4 := hBe.trans (hb4.mono (by omega))
    have hz4 : N1 < w4.heap.size := by have := hb4.size; omega
    have Hbad := Lib.hid (get_bad (x := x))
    have Hoth := Lib.hid (get_other (x := x))
    have Hyes := Lib.hid (get_yes (x := x))
    clear hsl hxe hre hBe hze hb4
    generalize fieldsL (x.1.drop 8) = b at *
    go_wp2_with ((with_reducible refine at_alloc 29 ?_); refine alloc_sb rfl rfl ?_)
    intro w5 hq5 hb5 hs5
    have hx5 := hx4.below (by omega) hb5
    have hr5 := hr4.below (by omega) hb5
    have hB5 : Below N w w5 := hB4.trans (hb5.mono (by omega))
    clear hx4 hr4 hB4 hb5
    generalize hG : w4.heap.size = G at *
    clear hG
    go_wp2_with ((with_reducible refine at_store 29 ?_); refine store_sb rfl _ _ rfl G b rfl rfl hq5 rfl ?_)
    intro w6 hq6 hg6 hs6
    have hx6 := hx5.keep hg6 (fun e => by injection e with e; omega)
    have hr6 := hr5.keep hg6 (fun e => by injection e with e; omega)
    have hB6 : Below N w w6 := below_grown hB5 hg6 (by omega) (by omega)
    have hz6 : G < w6.heap.size := by omega
    clear hx5 hr5 hB5 hq5 hg6 hs6 hs5
    go_wp2_with ((with_reducible refine at_load 29 ?_); refine load_sb rfl _ rfl G rfl hq6 ?_)
    refine (sput_any w6 b).mono ?_
    rintro e w7 ⟨rfl, hb7⟩
    have hx7 := hx6.below (by omega) hb7
    have hr7 := hr6.below (by omega) hb7
    have hq7 := hq6.below (by omega) hb7
    have hB7 : Below N w w7 := hB6.trans (hb7.mono (by omega))
    have hz7 : G < w7.heap.size := by have := hb7.size; omega
    clear hx6 hr6 hq6 hB6 hz6 hb7
    go_wp2_with ((with_reducible refine at_alloc 24 ?_); refine alloc_sec rfl rfl ?_)
    intro w8 hy8 hb8 hs8
    have hx8 := hx7.below (by omega) hb8
    have hr8 := hr7.below (by omega) hb8
    have hq8 := hq7.below (by omega) hb8
    have hB8 : Below N w w8 := hB7.trans (hb8.mono (by omega))
    clear hx7 hr7 hq7 hB7 hb8
    generalize hG2 : w7.heap.size = G2 at *
    clear hG2
    go_wp2_with ((with_reducible refine at_store 24 ?_); refine store_sec rfl _ _ rfl G2 (putS b).1 rfl rfl hy8 (Sec.cs_length _) ?_)
    intro w9 hy9 hg9 hs9
    have hx9 := hx8.keep hg9 (fun e => by injection e with e; omega)
    have hr9 := hr8.keep hg9 (fun e => by injection e with e; omega)
    have hq9 := hq8.keep hg9 (fun e => by injection e with e; omega)
    have hB9 : Below N w w9 := below_grown hB8 hg9 (by omega) (by omega)
    have hz9 : G2 < w9.heap.size := by omega
    clear hx8 hr8 hq8 hB8 hy8 hg9 hs9 hs8
    have hz := zeroBv
    cases hok : b.ok
    · have hp : putS b = (zeroSec, 2) := by rw [putS, hok]; rfl
      have Hg := Lib.hid (get_none (Hbad.out hok))
      rw [hp] at hy9 ⊢
      clear hp hok
      go_wp2_with ((with_reducible refine at_store 29 ?_); refine store_sb rfl _ _ rfl N1 sb0 rfl rfl hr9 rfl ?_)
      intro w10 hr10 hg10 hs10
      go_wp2_with fail
      exact bodyPost_ret (results_cell_tmp (fn := Try.f8) rfl _ _ N1 29 _ (0, 0) _ rfl (.int .i64 5) rfl hr10 Try.underlying29 rfl (sbc_size _)) rfl ⟨by rw [Hg.out.1, Hg.out.2], by rw [hN]; exact below_grown hB9 hg10 (by omega) (by omega)⟩
    · have hp : putS b = (b.sec, 0) := by rw [putS, hok]; rfl
      have Hok := Lib.hid hok
      rw [hp] at hy9 ⊢
      simp only at hy9 ⊢
      clear hp hok
      by_cases hse : b.sec = x
      · have Hg := Lib.hid (get_some (Hyes.out Hok.out hse))
        have hd : decide (b.sec = x) = true := by simp [hse]
        have Hse := Lib.hid hse
        clear hse
        go_wp2_with (first
          | ((with_reducible refine at_loadG 24 ?_); refine load_secG rfl _ rfl G2 rfl hy9 ?_)
          | ((with_reducible refine at_loadG 24 ?_); refine load_secG rfl _ rfl N rfl hx9 ?_)
          | ((with_reducible refine at_neqG 24 ?_); refine neq_secG rfl _ _ _ rfl b.sec x rfl rfl ?_)
          | ((with_reducible refine at_load 29 ?_); refine load_sb rfl _ rfl G rfl hq9 ?_)
          | ((with_reducible refine at_store 29 ?_); refine store_sb rfl _ _ rfl N1 b rfl rfl hr9 rfl ?_))
        intro w10 hr10 hg10 hs10
        go_wp2_with fail
        exact bodyPost_ret (results_cell_tmp (fn := Try.f8) rfl _ _ N1 29 _ (0, 0) _ rfl (.int .i64 0) rfl hr10 Try.underlying29 rfl (sbc_size _)) rfl ⟨by rw [Hg.out.1, Hg.out.2], by rw [hN]; exact below_grown hB9 hg10 (by omega) (by omega)⟩
      · have Hg := Lib.hid (get_none (Hoth.out hse))
        have hd : decide (b.sec = x) = false := by simp [hse]
        clear hse
        go_wp2_with (first
          | ((with_reducible refine at_loadG 24 ?_); refine load_secG rfl _ rfl G2 rfl hy9 ?_)
          | ((with_reducible refine at_loadG 24 ?_); refine load_secG rfl _ rfl N rfl hx9 ?_)
          | ((with_reducible refine at_neqG 24 ?_); refine neq_secG rfl _ _ _ rfl b.sec x rfl rfl ?_)
          | ((with_reducible refine at_store 29 ?_); refine store_sb rfl _ _ rfl N1 sb0 rfl rfl hr9 rfl ?_))
        intro w10 hr10 hg10 hs10
        go_wp2_with fail
        exact bodyPost_ret (results_cell_tmp (fn := Try.f8) rfl _ _ N1 29 _ (0, 0) _ rfl (.int .i64 5) rfl hr10 Try.underlying29 rfl (sbc_size _)) rfl ⟨by rw [Hg.out.1, Hg.out.2], by rw [hN]; exact below_grown hB9 hg10 (by omega) (by omega)⟩
end Go.Proofs.Ytoiphbdmmiikaaa
namespace Go.Proofs.Ytoiphbdmmiikaaa
open Go.RowKit
set_option linter.unusedVariables false
set_option linter.unusedSimpArgs false

theorem results_cell_tmp2 {P : Program} {fn : Func} {p q r : Tmp} {ty : TypeId} (h : fn.results = #[.cell p ty, .tmp q, .tmp r]) (tmps : Array Value) (w : World) (g : Nat) (t : TypeId) (cs : Array Value) (fr : Nat × Nat) (d : TypeDesc)
    (hp : tmps.getD p undef = .pointer (some ⟨g, 0, none⟩)) (v : Value) (hq : tmps.getD q undef = v) (u : Value) (hr : tmps.getD r undef = u) (hg : w.heap[g]? = some (.cells cs t fr))
    (hu : P.underlying ty = some d) (hd : (match d with | .struct _ | .array _ _ => true | _ => false) = true) (hi : (P.info? ty).map (·.size) = some cs.size) :
    (results fn tmps).run P w = .ok (.tuple #[.agg cs, v, u]) w := by
  have hp' : tmps[p]?.getD undef = .pointer (some ⟨g, 0, none⟩) := by simpa using hp
  have hq' : tmps[q]?.getD undef = v := by simpa using hq
  have hr' : tmps[r]?.getD undef = u := by simpa using hr
  simp [results, h, hp', hq', hr', asAddr, run_loadVar_row w g t ty cs fr d hg hu hd hi]
/-- What Choose answers. -/
def choT (x y : Sec) : Sb × Int × Int := match chooseS x y with
  | some (b, k) => (b, (k : Int), 0)
  | none => (sb0, 0, 5)
theorem cho_none {x y : Sec} (h : chooseS x y = none) : choT x y = (sb0, 0, 5) := by unfold choT; rw [h]
theorem cho_some {x y : Sec} {b : Sb} {k : Nat} (h : chooseS x y = some (b, k)) : choT x y = (b, (k : Int), 0) := by unfold choT; rw [h]
theorem cho_nn {x y : Sec} (hx : getS x = none) (hy : getS y = none) : choT x y = (sb0, 0, 5) := cho_none (by unfold chooseS; rw [hx, hy])
theorem cho_ns {x y : Sec} {b : Sb} (hx : getS x = none) (hy : getS y = some b) : choT x y = (b, 1, 0) := cho_some (k := 1) (by unfold chooseS; rw [hx, hy])
theorem cho_sn {x y : Sec} {a : Sb} (hx : getS x = some a) (hy : getS y = none) : choT x y = (a, 0, 0) := cho_some (k := 0) (by unfold chooseS; rw [hx, hy])
theorem cho_ss1 {x y : Sec} {a b : Sb} (hx : getS x = some a) (hy : getS y = some b) (h : b.m ≤ a.m) : choT x y = (a, 0, 0) := cho_some (k := 0) (by unfold chooseS; rw [hx, hy]; exact if_pos h)
theorem cho_ss2 {x y : Sec} {a b : Sb} (hx : getS x = some a) (hy : getS y = some b) (h : ¬ b.m ≤ a.m) : choT x y = (b, 1, 0) := cho_some (k := 1) (by unfold chooseS; rw [hx, hy]; exact if_neg h)

set_option maxRecDepth 100000 in
set_option maxHeartbeats 2000000 in
theorem schoose_any (w : World) (x y : Sec) :
    Calls Try.prog 10 #[.agg x.cs.toArray, .agg y.cs.toArray] w fun e w' => e = .returned (.tuple #[.agg (sbc (choT x y).1).toArray, .int .i64 (choT x y).2.1, .int .i64 (choT x y).2.2]) ∧ Below w.heap.size w w' := by
  go_enter Try.func10, Try.ntmps10
  go_wp2_with ((with_reducible refine at_box 24 ?_); refine wpList_box_rowV rfl 24 _ rfl x.cs rfl ?_)
  intro w1 hx1 hb1 hs1
  have hlt : w.heap.size < w1.heap.size := by omega
  clear hs1
  refine wpList_box_rowV rfl 24 _ rfl y.cs rfl ?_
  intro w2 hy2 hb2 hs2
  have hx2 := hx1.below (by omega) hb2
  have hB2 : Below w.heap.size w w2 := hb1.trans (hb2.mono (by omega))
  have hlt2 : w1.heap.size < w2.heap.size := by omega
  clear hx1 hb1 hb2 hs2
  generalize hN1 : w1.heap.size = N1 at *
  generalize hN : w.heap.size = N at *
  clear hN1
  go_wp2_with ((with_reducible refine at_alloc 29 ?_); refine alloc_sb rfl rfl ?_)
  intro w3 hr3 hb3 hs3
  have hx3 := hx2.below (by omega) hb3
  have hy3 := hy2.below (by omega) hb3
  have hB3 : Below N w w3 := hB2.trans (hb3.mono (by omega))
  clear hx2 hy2 hB2 hb3
  generalize hR : w2.heap.size = R at *
  clear hR
  go_wp2_with ((with_reducible refine at_load 24 ?_); refine load_sec rfl _ rfl N rfl hx3 ?_)
  refine (sget_any w3 x).mono ?_
  rintro e w4 ⟨rfl, hb4⟩
  have hy4 := hy3.below (by omega) hb4
  have hr4 := hr3.below (by omega) hb4
  have hB4 : Below N w w4 := hB3.trans (hb4.mono (by omega))
  have hz4 : R < w4.heap.size := by have := hb4.size; omega
  clear hx3 hy3 hr3 hB3 hb4 hs3
  go_wp2_with ((with_reducible refine at_alloc 29 ?_); refine alloc_sb rfl rfl ?_)
  intro w5 ha5 hb5 hs5
  have hy5 := hy4.below (by omega) hb5
  have hr5 := hr4.below (by omega) hb5
  have hB5 : Below N w w5 := hB4.trans (hb5.mono (by omega))
  clear hy4 hr4 hB4 hb5
  generalize hG1 : w4.heap.size = G1 at *
  clear hG1
  go_wp2_with ((with_reducible refine at_store 29 ?_); refine store_sb rfl _ _ rfl G1 (getV x) rfl rfl ha5 rfl ?_)
  intro w6 ha6 hg6 hs6
  have hy6 := hy5.keep hg6 (fun e => by injection e with e; omega)
  have hr6 := hr5.keep hg6 (fun e => by injection e with e; omega)
  have hB6 : Below N w w6 := below_grown hB5 hg6 (by omega) (by omega)
  have hz6 : G1 < w6.heap.size := by omega
  clear hy5 hr5 hB5 ha5 hg6 hs6 hs5
  go_wp2_with ((with_reducible refine at_load 24 ?_); refine load_sec rfl _ rfl N1 rfl hy6 ?_)
  refine (sget_any w6 y).mono ?_
  rintro e w7 ⟨rfl, hb7⟩
  have ha7 := ha6.below (by omega) hb7
  have hr7 := hr6.below (by omega) hb7
  have hB7 : Below N w w7 := hB6.trans (hb7.mono (by omega))
  have hz7 : G1 < w7.heap.size := by have := hb7.size; omega
  clear hy6 hr6 hB6 ha6 hb7 hz6
  go_wp2_with ((with_reducible refine at_alloc 29 ?_); refine alloc_sb rfl rfl ?_)
  intro w8 hc8 hb8 hs8
  have ha8 := ha7.below (by omega) hb8
  have hr8 := hr7.below (by omega) hb8
  have hB8 : Below N w w8 := hB7.trans (hb8.mono (by omega))
  clear ha7 hr7 hB7 hb8
  generalize hG2 : w7.heap.size = G2 at *
  clear hG2
  go_wp2_with ((with_reducible refine at_store 29 ?_); refine store_sb rfl _ _ rfl G2 (getV y) rfl rfl hc8 rfl ?_)
  intro w9 hc9 hg9 hs9
  have ha9 := ha8.keep hg9 (fun e => by injection e with e; omega)
  have hr9 := hr8.keep hg9 (fun e => by injection e with e; omega)
  have hB9 : Below N w w9 := below_grown hB8 hg9 (by omega) (by omega)
  have hz9 : G2 < w9.heap.size := by omega
  clear ha8 hr8 hB8 hc8 hg9 hs9 hs8
  have hz := zeroBv
  cases hx : getS x with
  | none =>
    rw [(get_none hx).1] at ha9
    rw [(get_none hx).2]
    cases hy : getS y with
    | none =>
      have Hc := Lib.hid (cho_nn hx hy)
      rw [(get_none hy).1] at hc9
      rw [(get_none hy).2]
      clear hx hy
      go_wp2_with ((with_reducible refine at_store 29 ?_); refine store_sb rfl _ _ rfl R sb0 rfl rfl hr9 rfl ?_)
      intro w10 hr10 hg10 hs10
      go_wp2_with fail
      exact bodyPost_ret (results_cell_tmp2 (fn := Try.f10) rfl _ _ R 29 _ (0, 0) _ rfl (.int .i64 0) rfl (.int .i64 5) rfl hr10 Try.underlying29 rfl (sbc_size _)) rfl ⟨by rw [Hc.out], by rw [hN]; exact below_grown hB9 hg10 (by omega) (by omega)⟩
    | some b =>
      have Hc := Lib.hid (cho_ns hx hy)
      rw [(get_some hy).1] at hc9
      rw [(get_some hy).2]
      clear hx hy
      go_wp2_with (first | ((with_reducible refine at_load 29 ?_); refine load_sb rfl _ rfl G2 rfl hc9 ?_) | ((with_reducible refine at_store 29 ?_); refine store_sb rfl _ _ rfl R b rfl rfl hr9 rfl ?_))
      intro w10 hr10 hg10 hs10
      go_wp2_with fail
      exact bodyPost_ret (results_cell_tmp2 (fn := Try.f10) rfl _ _ R 29 _ (0, 0) _ rfl (.int .i64 1) rfl (.int .i64 0) rfl hr10 Try.underlying29 rfl (sbc_size _)) rfl ⟨by rw [Hc.out], by rw [hN]; exact below_grown hB9 hg10 (by omega) (by omega)⟩
  | some a =>
    rw [(get_some hx).1] at ha9
    rw [(get_some hx).2]
    have c1 := ha9.cell (i := 4) rfl
    cases hy : getS y with
    | none =>
      have Hc := Lib.hid (cho_sn hx hy)
      rw [(get_none hy).1] at hc9
      rw [(get_none hy).2]
      clear hx hy
      go_wp2_with (first | ((with_reducible refine at_load 29 ?_); refine load_sb rfl _ rfl G1 rfl ha9 ?_) | ((with_reducible refine at_store 29 ?_); refine store_sb rfl _ _ rfl R a rfl rfl hr9 rfl ?_))
      intro w10 hr10 hg10 hs10
      go_wp2_with fail
      exact bodyPost_ret (results_cell_tmp2 (fn := Try.f10) rfl _ _ R 29 _ (0, 0) _ rfl (.int .i64 0) rfl (.int .i64 0) rfl hr10 Try.underlying29 rfl (sbc_size _)) rfl ⟨by rw [Hc.out], by rw [hN]; exact below_grown hB9 hg10 (by omega) (by omega)⟩
    | some b =>
      rw [(get_some hy).1] at hc9
      rw [(get_some hy).2]
      have c2 := hc9.cell (i := 4) rfl
      by_cases hm : b.m ≤ a.m
      · have Hc := Lib.hid (cho_ss1 hx hy hm)
        clear hx hy
        go_wp2_with (first | ((with_reducible refine at_load 29 ?_); refine load_sb rfl _ rfl G1 rfl ha9 ?_) | ((with_reducible refine at_store 29 ?_); refine store_sb rfl _ _ rfl R a rfl rfl hr9 rfl ?_))
        intro w10 hr10 hg10 hs10
        go_wp2_with fail
        exact bodyPost_ret (results_cell_tmp2 (fn := Try.f10) rfl _ _ R 29 _ (0, 0) _ rfl (.int .i64 0) rfl (.int .i64 0) rfl hr10 Try.underlying29 rfl (sbc_size _)) rfl ⟨by rw [Hc.out], by rw [hN]; exact below_grown hB9 hg10 (by omega) (by omega)⟩
      · have Hc := Lib.hid (cho_ss2 hx hy hm)
        have hm' : a.m < b.m := by omega
        clear hx hy
        go_wp2_with (first | ((with_reducible refine at_load 29 ?_); refine load_sb rfl _ rfl G2 rfl hc9 ?_) | ((with_reducible refine at_store 29 ?_); refine store_sb rfl _ _ rfl R b rfl rfl hr9 rfl ?_))
        intro w10 hr10 hg10 hs10
        go_wp2_with fail
        exact bodyPost_ret (results_cell_tmp2 (fn := Try.f10) rfl _ _ R 29 _ (0, 0) _ rfl (.int .i64 1) rfl (.int .i64 0) rfl hr10 Try.underlying29 rfl (sbc_size _)) rfl ⟨by rw [Hc.out], by rw [hN]; exact below_grown hB9 hg10 (by omega) (by omega)⟩
end Go.Proofs.Ytoiphbdmmiikaaa
