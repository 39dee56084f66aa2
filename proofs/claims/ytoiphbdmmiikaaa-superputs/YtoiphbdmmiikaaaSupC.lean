/-
  Layer 8: the contract of fields.
-/
import Derived.Test.YtoiphbdmmiikaaaSupB
import Derived.Test.YtoiphbdmmiikaaaCurN
import Derived.Test.YtoiphbdmmiikaaaSlotF
import Derived.Deep.RegionHeld3
namespace Go.Proofs.Ytoiphbdmmiikaaa
open Go.RowKit
set_option linter.unusedVariables false
set_option linter.unusedSimpArgs false

theorem cut_no {xs : List UInt8} {k : Nat} (h : k ≤ xs.length) : cutBad xs false (k : Int) = false := by
  simp [cutBad]
  omega
theorem num_yes (w : World) (g : Nat) (xs : List UInt8) (k : Nat) (h : Cur w g xs false) (hk : k ≤ xs.length) (h8 : k ≤ 8) (hx : xs.length ≤ 140737488355328) :
    Calls Try.prog 41 #[.pointer (some ⟨g, 0, none⟩), .int .i64 (k : Int)] w (RetG w g (.int .u64 (leN (xs.take k) : Nat)) (xs.drop k) false) := by
  have := num_any w g xs false k h hx
  unfold cutGot cutRest at this
  rw [cut_no hk] at this
  simp only [Bool.false_eq_true, if_false, Int.toNat_natCast] at this
  rwa [List.take_of_length_le (show (xs.take k).length ≤ 8 by rw [List.length_take]; omega)] at this
theorem num2 (w : World) (g : Nat) (xs : List UInt8) (h : Cur w g xs false) (hk : 2 ≤ xs.length) (hx : xs.length ≤ 140737488355328) :
    Calls Try.prog 41 #[.pointer (some ⟨g, 0, none⟩), .int .i64 2] w (RetG w g (.int .u64 (leN (xs.take 2) : Nat)) (xs.drop 2) false) := num_yes w g xs 2 h hk (by omega) hx
theorem num8 (w : World) (g : Nat) (xs : List UInt8) (h : Cur w g xs false) (hk : 8 ≤ xs.length) (hx : xs.length ≤ 140737488355328) :
    Calls Try.prog 41 #[.pointer (some ⟨g, 0, none⟩), .int .i64 8] w (RetG w g (.int .u64 (leN (xs.take 8) : Nat)) (xs.drop 8) false) := num_yes w g xs 8 h hk (by omega) hx
theorem leN_two (xs : List UInt8) : leN (xs.take 2) < 65536 := by
  have h1 := leN_lt (xs.take 2)
  have h2 : (256 : Nat) ^ (xs.take 2).length ≤ 256 ^ 2 := Nat.pow_le_pow_right (by omega) (by rw [List.length_take]; omega)
  omega
theorem leN_eight (xs : List UInt8) : leN (xs.take 8) < 18446744073709551616 := by
  have h1 := leN_lt (xs.take 8)
  have h2 : (256 : Nat) ^ (xs.take 8).length ≤ 256 ^ 8 := Nat.pow_le_pow_right (by omega) (by rw [List.length_take]; omega)
  omega
theorem Cur.grown_above {w w' : World} {g k : Nat} {xs : List UInt8} {bad : Bool} (h : Cur w g xs bad) (hg : w.grownBy w' (some k)) (hk : g < k) : Cur w' g xs bad := by
  have hlt := h.lt
  obtain ⟨A, c, hc, h1, h2, h3⟩ := h
  exact ⟨A, c, (hg.block g hlt (fun e => by injection e with e; omega)).trans hc, h1, h2, h3.grown hg (by omega) (fun j e => by injection e with e; omega)⟩

def ptrs (g : Nat) : List Value := [.pointer (some ⟨g, 0, none⟩), .pointer (some ⟨g, 1, none⟩), .pointer (some ⟨g, 2, none⟩), .pointer (some ⟨g, 3, none⟩)]
theorem Try.builtP (g : Nat) : Try.prog.built 85 [(0, .pointer (some ⟨g, 0, none⟩)), (1, .pointer (some ⟨g, 1, none⟩)), (2, .pointer (some ⟨g, 2, none⟩)), (3, .pointer (some ⟨g, 3, none⟩))] = some (ptrs g).toArray := by kernel_rfl
theorem idxP (g i : Nat) (v : Value) (hi : i < 4) (hv : (ptrs g)[i]? = some v) (W : World) : (Instr.index 85 (.agg (ptrs g).toArray) (.int .i64 (i : Int))).run Try.prog W = .ok v W :=
  by
  have hsz : (Try.prog.info? 84).map (·.size) = some 1 := by kernel_rfl
  obtain ⟨inf, hinf, h1⟩ := Option.map_eq_some_iff.1 hsz
  have hv' : (ptrs g).toArray[i]? = some v := by simpa using hv
  have p1 : (part 84 (ptrs g).toArray i).run Try.prog W = .ok v W := by simp [part, isAgg, run_underlying Try.underlying84, hv]
  simp [Instr.index, asIntOf, run_underlying Try.underlying85, sizeOf, typeInfo, hinf, h1, hi, p1]
theorem Try.zeroP : (Try.prog.info? 23).bind (·.zero) = some (.agg (pc 0 0 0 0).toArray) := by kernel_rfl
theorem zeroPv (w : World) : (zeroValue 23).run Try.prog w = .ok (.agg (pc 0 0 0 0).toArray) w := by kernel_rfl
theorem Try.builtS (s t c a m : Int) : Try.prog.built 29 [(0, .agg (pc s t c a).toArray), (1, .int .i64 m)] = some (sbc ⟨s, t, c, a, m⟩).toArray := by kernel_rfl
theorem pc_all (s t c a : Int) : (pc s t c a).toArray.all (·.oneCell') = true := by simp [pc, Value.oneCell']
/-- A superblock stored. -/
theorem wp_store_sb {o : Oper} {a : Act} {w : World} {K : Act → World → Prop} {Q : Exit → Act → World → Prop} (x y : Operand) (ho : o.op = .store 29 x y) (g : Nat) (b : Sb) (hx : a.eval x = .pointer (some ⟨g, 0, none⟩)) (hy : a.eval y = .agg (sbc b).toArray)
    {old : List Value} (hg : RowV w g 29 old) (hlo : old.length = 5)
    (h : ∀ w', RowV w' g 29 (sbc b) → w.grownBy w' (some g) → w'.heap.size = w.heap.size → K (a.put o.dst undef) w') : o.wp Try.prog a w K Q :=
  wp_store_row 29 x y ho g (sbc b).toArray hx hy 29 old.toArray hg (sbc_size b) (by rw [List.size_toArray, List.size_toArray, hlo]; rfl) (sbc_all b) (h _ (hg.put (sbc b)) ⟨rfl, rfl, rfl, by simp, fun k _ hk => setRow_other w g k _ (fun e => hk (by rw [e]))⟩ (by simp))
/-- What stands in the bytes. -/
def fieldsL (xs : List UInt8) : Sb := ⟨(leN (xs.take 2) : Nat), (leN ((xs.drop 2).take 2) : Nat), (leN ((xs.drop 4).take 2) : Nat), (leN ((xs.drop 6).take 2) : Nat), IntKind.i64.wrap (leN ((xs.drop 8).take 8) : Nat)⟩

set_option maxRecDepth 100000 in
set_option maxHeartbeats 2000000 in
theorem sfields_any (A : Option Addr) (n c : Nat) (xs : List UInt8) (w : World) (B : Nat) (h : Lies w B A xs) (hB : B ≤ w.heap.size) (hn : n = xs.length) (hx : 16 ≤ xs.length) (hm : n ≤ 1000000) :
    Calls Try.prog 26 #[.slice A n c] w fun e w' => e = .returned (.agg (sbc (fieldsL xs)).toArray) ∧ Below w.heap.size w w' := by
  have Hn := Lib.hid hn
  have Hh := Lib.hid h
  have Hx := Lib.hid hx
  have Hxm : Hid (xs.length ≤ 140737488355328) := by show _ ≤ _; omega
  clear hn h hx
  go_enter Try.func26, Try.ntmps26
  go_wp2_with ((with_reducible refine at_alloc 29 ?_); refine wpList_alloc_rowV rfl 29 rfl (sbc sb0) Try.zeroB ?_)
  intro w1 hr1 hb1 hs1
  go_wp2_with fail
  refine (from_any A n c xs w1 ((Hh.out.below (hb1.mono hB)).le (by omega)) Hn.out (by omega)).mono ?_
  rintro e w2 ⟨g, rfl, hg2, hc2, hb2⟩
  have hr2 := hr1.below (by omega) hb2
  have hB2 : Below w.heap.size w w2 := hb1.trans (hb2.mono (by omega))
  have hgl := hc2.lt
  have hgN : w.heap.size < g := by omega
  clear hr1 hb1 hb2 hg2 hs1
  generalize hN : w.heap.size = N at *
  have hz := zeroPv
  go_wp2_with ((with_reducible refine at_alloc 23 ?_); refine wpList_alloc_rowV rfl 23 rfl (pc 0 0 0 0) Try.zeroP ?_)
  intro w3 hr3 hb3 hs3
  have hrN3 := hr2.below (by omega) hb3
  have hc3 := hc2.below hb3
  have hB3 : Below N w w3 := hB2.trans (hb3.mono (by omega))
  clear hr2 hc2 hb3 hB2
  generalize hG : w2.heap.size = G at *
  go_wp2_with ((with_reducible refine at_store 23 ?_); refine wpList_store_rowV rfl 23 _ _ rfl G (pc 0 0 0 0) rfl rfl 23 (pc 0 0 0 0) hr3 (pc_size 0 0 0 0) rfl (pc_all 0 0 0 0) ?_)
  intro w4 hP4 hg4 hs4
  clear hz
  have hc4 := hc3.grown_above hg4 (by omega)
  have hr4 := hrN3.keep hg4 (fun e => by injection e with e; omega)
  have hB4 : Below N w w4 := below_grown hB3 hg4 (by omega) (by omega)
  have hz4 : G < w4.heap.size := by omega
  clear hr3 hrN3 hc3 hB3 hg4 hs4 hs3
  have x0 : ∀ W, (Instr.index 85 (.agg (ptrs G).toArray) (.int .i64 0)).run Try.prog W = .ok (.pointer (some ⟨G, 0, none⟩)) W := idxP G 0 _ (by omega) rfl
  have x1 : ∀ W, (Instr.index 85 (.agg (ptrs G).toArray) (.int .i64 1)).run Try.prog W = .ok (.pointer (some ⟨G, 1, none⟩)) W := idxP G 1 _ (by omega) rfl
  have x2 : ∀ W, (Instr.index 85 (.agg (ptrs G).toArray) (.int .i64 2)).run Try.prog W = .ok (.pointer (some ⟨G, 2, none⟩)) W := idxP G 2 _ (by omega) rfl
  have x3 : ∀ W, (Instr.index 85 (.agg (ptrs G).toArray) (.int .i64 3)).run Try.prog W = .ok (.pointer (some ⟨G, 3, none⟩)) W := idxP G 3 _ (by omega) rfl
  obtain ⟨n0, hn0⟩ : ∃ k, leN (xs.take 2) = k := ⟨_, rfl⟩
  obtain ⟨n1, hn1⟩ : ∃ k, leN ((xs.drop 2).take 2) = k := ⟨_, rfl⟩
  obtain ⟨n2, hn2⟩ : ∃ k, leN ((xs.drop 4).take 2) = k := ⟨_, rfl⟩
  obtain ⟨n3, hn3⟩ : ∃ k, leN ((xs.drop 6).take 2) = k := ⟨_, rfl⟩
  obtain ⟨M, hM⟩ : ∃ k, leN ((xs.drop 8).take 8) = k := ⟨_, rfl⟩
  have l0 : n0 < 65536 := by rw [← hn0]; exact leN_two _
  have l1 : n1 < 65536 := by rw [← hn1]; exact leN_two _
  have l2 : n2 < 65536 := by rw [← hn2]; exact leN_two _
  have l3 : n3 < 65536 := by rw [← hn3]; exact leN_two _
  have lM : M < 18446744073709551616 := by rw [← hM]; exact leN_eight _
  have Hf : Hid (fieldsL xs = ⟨n0, n1, n2, n3, IntKind.i64.wrap M⟩) := by show _ = _; rw [fieldsL, hn0, hn1, hn2, hn3, hM]
  have H0 := Lib.hid hn0
  have H1 := Lib.hid hn1
  have H2 := Lib.hid hn2
  have H3 := Lib.hid hn3
  have HM := Lib.hid hM
  clear hn0 hn1 hn2 hn3 hM
  go_wp2_with ((with_reducible refine at_build 85 ?_); refine wpList_build_to rfl 85 _ rfl (ptrs G) (by rw [Array.toList_map]; exact Try.builtP _) ?_)
  refine wp_loop_rounds 5 ?_
  rw [rounds_succ]
  go_wp2_with fail
  refine (num2 w4 g xs hc4 (by have := Hx.out; omega) Hxm.out).mono ?_
  rintro e w5 ⟨rfl, hc5, hg5⟩
  rw [H0.out]
  
  have hP5 := hP4.keep hg5 (fun e => by injection e with e; omega)
  have hr5 := hr4.keep hg5 (fun e => by injection e with e; omega)
  have hB5 : Below N w w5 := below_grown hB4 hg5 (by omega) (by omega)
  have hz5 : G < w5.heap.size := by have := hg5.size; omega
  clear hP4 hr4 hB4 hc4 hg5
  go_wp2_with ((with_reducible refine at_store 3 ?_); refine store_field rfl _ _ rfl G 0 (n0 : Int) rfl rfl hP5 (Nat.lt_of_lt_of_eq (by decide) (rfl : 4 = _)) ?_)
  intro w6 hq6 hg6 hs6
  have hP6 : RowV w6 G 23 (pc n0 0 0 0) := hq6
  have hc6 := hc5.grown_above hg6 (by omega)
  have hr6 := hr5.keep hg6 (fun e => by injection e with e; omega)
  have hB6 : Below N w w6 := below_grown hB5 hg6 (by omega) (by omega)
  have hz6 : G < w6.heap.size := by omega
  clear hq6 hP5 hc5 hr5 hB5 hg6 hs6 x0
  go_wp2_with fail
  rw [rounds_succ]
  go_wp2_with fail
  refine (num2 w6 g (xs.drop 2) hc6 (by have := Hx.out; simp only [List.length_drop]; omega) (by have := Hxm.out; simp only [List.length_drop]; omega)).mono ?_
  rintro e w7 ⟨rfl, hc7, hg7⟩
  rw [H1.out]
  rw [List.drop_drop] at hc7
  have hP7 := hP6.keep hg7 (fun e => by injection e with e; omega)
  have hr7 := hr6.keep hg7 (fun e => by injection e with e; omega)
  have hB7 : Below N w w7 := below_grown hB6 hg7 (by omega) (by omega)
  have hz7 : G < w7.heap.size := by have := hg7.size; omega
  clear hP6 hr6 hB6 hc6 hg7
  go_wp2_with ((with_reducible refine at_store 3 ?_); refine store_field rfl _ _ rfl G 1 (n1 : Int) rfl rfl hP7 (Nat.lt_of_lt_of_eq (by decide) (rfl : 4 = _)) ?_)
  intro w8 hq8 hg8 hs8
  have hP8 : RowV w8 G 23 (pc n0 n1 0 0) := hq8
  have hc8 := hc7.grown_above hg8 (by omega)
  have hr8 := hr7.keep hg8 (fun e => by injection e with e; omega)
  have hB8 : Below N w w8 := below_grown hB7 hg8 (by omega) (by omega)
  have hz8 : G < w8.heap.size := by omega
  clear hq8 hP7 hc7 hr7 hB7 hg8 hs8 x1
  go_wp2_with fail
  rw [rounds_succ]
  go_wp2_with fail
  refine (num2 w8 g (xs.drop 4) hc8 (by have := Hx.out; simp only [List.length_drop]; omega) (by have := Hxm.out; simp only [List.length_drop]; omega)).mono ?_
  rintro e w9 ⟨rfl, hc9, hg9⟩
  rw [H2.out]
  rw [List.drop_drop] at hc9
  have hP9 := hP8.keep hg9 (fun e => by injection e with e; omega)
  have hr9 := hr8.keep hg9 (fun e => by injection e with e; omega)
  have hB9 : Below N w w9 := below_grown hB8 hg9 (by omega) (by omega)
  have hz9 : G < w9.heap.size := by have := hg9.size; omega
  clear hP8 hr8 hB8 hc8 hg9
  go_wp2_with ((with_reducible refine at_store 3 ?_); refine store_field rfl _ _ rfl G 2 (n2 : Int) rfl rfl hP9 (Nat.lt_of_lt_of_eq (by decide) (rfl : 4 = _)) ?_)
  intro w10 hq10 hg10 hs10
  have hP10 : RowV w10 G 23 (pc n0 n1 n2 0) := hq10
  have hc10 := hc9.grown_above hg10 (by omega)
  have hr10 := hr9.keep hg10 (fun e => by injection e with e; omega)
  have hB10 : Below N w w10 := below_grown hB9 hg10 (by omega) (by omega)
  have hz10 : G < w10.heap.size := by omega
  clear hq10 hP9 hc9 hr9 hB9 hg10 hs10 x2
  go_wp2_with fail
  rw [rounds_succ]
  go_wp2_with fail
  refine (num2 w10 g (xs.drop 6) hc10 (by have := Hx.out; simp only [List.length_drop]; omega) (by have := Hxm.out; simp only [List.length_drop]; omega)).mono ?_
  rintro e w11 ⟨rfl, hc11, hg11⟩
  rw [H3.out]
  rw [List.drop_drop] at hc11
  have hP11 := hP10.keep hg11 (fun e => by injection e with e; omega)
  have hr11 := hr10.keep hg11 (fun e => by injection e with e; omega)
  have hB11 : Below N w w11 := below_grown hB10 hg11 (by omega) (by omega)
  have hz11 : G < w11.heap.size := by have := hg11.size; omega
  clear hP10 hr10 hB10 hc10 hg11
  go_wp2_with ((with_reducible refine at_store 3 ?_); refine store_field rfl _ _ rfl G 3 (n3 : Int) rfl rfl hP11 (Nat.lt_of_lt_of_eq (by decide) (rfl : 4 = _)) ?_)
  intro w12 hq12 hg12 hs12
  have hP12 : RowV w12 G 23 (pc n0 n1 n2 n3) := hq12
  have hc12 := hc11.grown_above hg12 (by omega)
  have hr12 := hr11.keep hg12 (fun e => by injection e with e; omega)
  have hB12 : Below N w w12 := below_grown hB11 hg12 (by omega) (by omega)
  have hz12 : G < w12.heap.size := by omega
  clear hq12 hP11 hc11 hr11 hB11 hg12 hs12 x3
  go_wp2_with fail
  rw [rounds_succ]
  go_wp2_with fail
  have hPd : RowV w12.drew G 23 (pc n0 n1 n2 n3) := hP12
  have hcd : Cur w12.drew g (xs.drop 8) false := hc12
  have hrd : RowV w12.drew N 29 (sbc sb0) := hr12
  have hBd : Below N w w12.drew := ⟨hB12.os, hB12.tape, hB12.output, hB12.size, hB12.block⟩
  have hzd : G < w12.drew.heap.size := hz12
  refine wp_region_held_drew (S := fun W => RowV W G 23 (pc n0 n1 n2 n3)) (by kernel_rfl) hPd (fun hHeld => ?_)
  clear hP12 hc12 hr12 hB12 hz12
  generalize w12.drew = wd at *
  refine wpAnyH_take (i := 0) (oi := ⟨_, _, _, _, _, _⟩) (v := ?_) rfl (by kernel_rfl) (by kernel_rfl) (by kernel_rfl) (fun _ _ _ h => h) (Or.inl ⟨by rfl, ?_⟩) (by assumption) ?_
  rotate_left
  · intro W hSW; refine exec_load_row 23 (.tmp 4) ?_ G ?_ _ hSW Try.underlying23 rfl Try.sizeP <;> rfl
  try simp only [Act.put, List.setIfInBounds_toArray, List.set_cons_zero, List.set_cons_succ]
  refine wpAnyH_take (i := 1) (oi := ⟨_, _, _, _, _, _⟩) (v := ?_) rfl (by kernel_rfl) (by kernel_rfl) (by kernel_rfl) (fun _ _ _ h => h) (Or.inl ⟨by rfl, ?_⟩) (by assumption) ?_
  rotate_left
  · intro W hSW; go_simp; try with_reducible rfl
  try simp only [Act.put, List.setIfInBounds_toArray, List.set_cons_zero, List.set_cons_succ]
  refine wpAnyH_ready (rs := [2]) (by kernel_rfl) (by simp) ?_
  refine AllReadyH.cons (o := ⟨_, _, _, _, _, _⟩) rfl (fun K hK => ?_) AllReadyH.nil
  go_simp
  refine (num8 wd g (xs.drop 8) hcd (by have := Hx.out; simp only [List.length_drop]; omega) (by have := Hxm.out; simp only [List.length_drop]; omega)).mono ?_
  rintro e we ⟨rfl, hce, hge⟩
  rw [HM.out]
  have hPe := hPd.keep hge (fun e => by injection e with e; omega)
  have hre := hrd.keep hge (fun e => by injection e with e; omega)
  have hBe : Below N w we := below_grown hBd hge (by omega) (by omega)
  have hze : G < we.heap.size := by have := hge.size; omega
  try simp only []
  refine hK.out _ _ hPe (fun hHeld => ?_)
  clear hK K
  try simp only [Act.put, List.setIfInBounds_toArray, List.set_cons_zero, List.set_cons_succ]
  refine wpAnyH_take (i := 3) (oi := ⟨_, _, _, _, _, _⟩) (v := .int .i64 (IntKind.i64.wrap (M : Int))) rfl (by kernel_rfl) (by kernel_rfl) (by kernel_rfl) (fun _ _ _ h => h) (Or.inl ⟨by rfl, ?_⟩) (by assumption) ?_
  · intro W hSW; go_simp
  try simp only [Act.put, List.setIfInBounds_toArray, List.set_cons_zero, List.set_cons_succ]
  refine wpAnyH_take (i := 4) (oi := ⟨_, _, _, _, _, _⟩) (v := .agg (sbc ⟨n0, n1, n2, n3, IntKind.i64.wrap (M : Int)⟩).toArray) rfl (by kernel_rfl) (by kernel_rfl) (by kernel_rfl) (fun _ _ _ h => h) (Or.inl ⟨by rfl, ?_⟩) (by assumption) ?_
  · intro W hSW; refine exec_built 29 #[(0, .tmp 24), (1, .tmp 27)] ?_ (sbc ⟨n0, n1, n2, n3, IntKind.i64.wrap (M : Int)⟩) ?_
    · rfl
    · exact Try.builtS _ _ _ _ _
  try simp only [Act.put, List.setIfInBounds_toArray, List.set_cons_zero, List.set_cons_succ]
  refine wpAnyH_ready (rs := [5]) (by kernel_rfl) (by simp) ?_
  refine AllReadyH.cons (o := ⟨_, _, _, _, _, _⟩) rfl (fun K hK => ?_) AllReadyH.nil
  refine ite_yes rfl ?_
  refine wp_store_sb (.tmp 2) (.tmp 28) rfl N ⟨n0, n1, n2, n3, IntKind.i64.wrap (M : Int)⟩ rfl rfl hre rfl ?_
  intro wf hrf hgf hsf
  have hPf := hPe.keep hgf (fun e => by injection e with e; omega)
  have hBf : Below N w wf := below_grown hBe hgf (Nat.le_refl _) (by omega)
  refine hK.out _ _ hPf (fun hHeld => ?_)
  clear hK K
  try simp only [Act.put, List.setIfInBounds_toArray, List.set_cons_zero, List.set_cons_succ]
  refine wpAnyH_done (by kernel_rfl) ?_ _
  go_wp2_with fail
  exact bodyPost_ret (results_cell_row (fn := Try.f26) rfl _ _ N 29 _ (0, 0) _ rfl hrf Try.underlying29 rfl (sbc_size _)) rfl ⟨by rw [Hf.out], by rw [hN]; exact hBf⟩
end Go.Proofs.Ytoiphbdmmiikaaa
