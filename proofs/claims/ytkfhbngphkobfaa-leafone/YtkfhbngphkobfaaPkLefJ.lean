/-
  Layer 14: the contract of Get.
-/
import Derived.Test.YtkfhbngphkobfaaPkLefI
import Derived.Test.YtkfhbngphkobfaaPkLefG
import Derived.Test.YtkfhbngphkobfaaPkLefD
namespace Go.Proofs.Ytkfhbngphkobfaa
open Go.RowKit
set_option linter.unusedVariables false
set_option linter.unusedSimpArgs false

theorem drop4_length (x : Sec) : (x.1.drop 4).length = 252 := by rw [List.length_drop, x.2]
theorem h32_sec (x : Sec) : 32 ≤ (x.1.drop 4).length := by rw [drop4_length]; omega
/-- What stands in a sector, as the program reads it. -/
def fldS (x : Sec) : Tx := fldL (x.1.drop 4) (h32_sec x)
theorem fldS_cand {x : Sec} (h : countK (numAt x.1 36 2) ≤ 9) : fldS x = candL x := by
  have e1 : leN (((x.1.drop 4).drop 32).take 2) = numAt x.1 36 2 := by rw [List.drop_drop]; rfl
  have e2 : leN (((x.1.drop 4).drop 34).take 2) = numAt x.1 38 2 := by rw [List.drop_drop]; rfl
  rw [tx_eq_iff]
  refine ⟨Subtype.ext ?_, ?_, ?_, ?_⟩
  · show (x.1.drop 4).take 32 = (List.range 32).map fun i => (x.1.drop 4).getD i 0
    apply List.ext_getElem?
    intro i
    by_cases hi : i < 32
    · rw [List.getElem?_take_of_lt hi, List.getElem?_map, List.getElem?_range hi]
      simp only [Option.map_some]
      rw [List.getD_eq_getElem?_getD, List.getElem?_eq_getElem (by rw [drop4_length]; omega)]
      rfl
    · rw [List.getElem?_eq_none (by rw [List.length_take]; omega), List.getElem?_eq_none (by simp; omega)]
  · show ((leN (((x.1.drop 4).drop 32).take 2) : Nat) : Int) = (numAt x.1 36 2 : Nat)
    rw [e1]
  · show ((leN (((x.1.drop 4).drop 34).take 2) : Nat) : Int) = (numAt x.1 38 2 : Nat)
    rw [e2]
  · show slotsF (x.1.drop 4) (countK (leN (((x.1.drop 4).drop 32).take 2))) = slotsAt x.1 (min (countK (numAt x.1 36 2)) 9)
    rw [e1, Nat.min_eq_left h]
    unfold slotsF slotsAt
    rw [List.drop_drop]
theorem fldS_leafS {t : Tx} (h : checkL t 200 = 0) : fldS (leafS t) = t := by
  have hc := candL_leafS h
  obtain ⟨⟨s1, s2⟩, _⟩ := checkL_zero.1 h
  have hs : ((numAt (leafS t).1 36 2 : Nat) : Int) = t.size := congrArg Tx.size hc
  rw [fldS_cand (by unfold countK; omega), hc]
theorem getL_fld {x : Sec} {n : Int} (h1 : checkL (fldS x) 200 = 0) (h2 : leafS (fldS x) = x) (h3 : checkL (fldS x) n = 0) : getL x n = some (fldS x) := getL_iff.2 ⟨h1, h2, h3⟩
theorem getL_not {x : Sec} {n : Int} (h : ¬ (checkL (fldS x) 200 = 0 ∧ leafS (fldS x) = x ∧ checkL (fldS x) n = 0)) : getL x n = none := by
  cases hg : getL x n with
  | none => rfl
  | some t =>
    obtain ⟨h1, h2, h3⟩ := getL_some hg
    subst h2
    rw [fldS_leafS h1] at h
    exact absurd ⟨h1, rfl, h3⟩ h
/-- What Get answers. -/
def getT14 (x : Sec) (n : Int) : Tx := if x = zeroSec then tx0 else (getL x n).getD tx0
def getB14 (x : Sec) (n : Int) : Bool := !decide (x = zeroSec) && (getL x n).isSome
def getC14 (x : Sec) (n : Int) : Int := if x = zeroSec then 0 else if (getL x n).isSome then 0 else 5
theorem get14_zero {x : Sec} {n : Int} (h : x = zeroSec) : getT14 x n = tx0 ∧ getB14 x n = false ∧ getC14 x n = 0 := by simp [getT14, getB14, getC14, h]
theorem get14_none {x : Sec} {n : Int} (h : ¬ x = zeroSec) (hg : getL x n = none) : getT14 x n = tx0 ∧ getB14 x n = false ∧ getC14 x n = 5 := by simp [getT14, getB14, getC14, h, hg]
theorem get14_some {x : Sec} {n : Int} {t : Tx} (h : ¬ x = zeroSec) (hg : getL x n = some t) : getT14 x n = t ∧ getB14 x n = true ∧ getC14 x n = 0 := by simp [getT14, getB14, getC14, h, hg]

theorem results_cell_tmp2 {P : Program} {fn : Func} {p q r : Tmp} {ty : TypeId} (h : fn.results = #[.cell p ty, .tmp q, .tmp r]) (tmps : Array Value) (w : World) (g : Nat) (t : TypeId) (cs : Array Value) (fr : Nat × Nat) (d : TypeDesc)
    (hp : tmps.getD p undef = .pointer (some ⟨g, 0, none⟩)) (v : Value) (hq : tmps.getD q undef = v) (u : Value) (hr : tmps.getD r undef = u) (hg : w.heap[g]? = some (.cells cs t fr))
    (hu : P.underlying ty = some d) (hd : (match d with | .struct _ | .array _ _ => true | _ => false) = true) (hi : (P.info? ty).map (·.size) = some cs.size) :
    (results fn tmps).run P w = .ok (.tuple #[.agg cs, v, u]) w := by
  have hp' : tmps[p]?.getD undef = .pointer (some ⟨g, 0, none⟩) := by simpa using hp
  have hq' : tmps[q]?.getD undef = v := by simpa using hq
  have hr' : tmps[r]?.getD undef = u := by simpa using hr
  simp [results, h, hp', hq', hr', asAddr, run_loadVar_row w g t ty cs fr d hg hu hd hi]
theorem rowV_ne {w : World} {g g' : Nat} {t t' : TypeId} {cs cs' : List Value} (h : RowV w g t cs) (h' : RowV w g' t' cs') (hne : t ≠ t') : g ≠ g' := by
  rintro rfl
  have e := (show w.heap[g]? = some (.cells cs.toArray t (0, 0)) from h).symm.trans h'
  simp only [Option.some.injEq, Obj.cells.injEq] at e
  exact hne e.2.1
theorem eql_sec {w : World} {ops : Array Oper} {rest : List Oper} {o : Oper} {a : Act} {Q : Exit → Act → World → Prop} (hgd : o.guard = none) (x y : Operand) (u : TypeId) (ho : o.op = .binOp .eql 28 x y u) (p q : Sec) (hx : a.eval x = .agg p.cs.toArray) (hy : a.eval y = .agg q.cs.toArray) {b : Bool} (hb : decide (p = q) = b)
    (h : wpList Try.prog ops Q rest (a.put o.dst (.bool b)) w) : wpList Try.prog ops Q (o :: rest) a w := by
  refine wpList_plain hgd fun K hK => ?_
  unfold Oper.wp
  rw [exec_eql_sec x y u ho p q hx hy, hb]
  exact hK _ _ h
theorem zeroTv (w : World) : (zeroValue 25).run Try.prog w = .ok (.agg (txc tx0 none 0).toArray) w := by kernel_rfl
theorem Try.build0T (w : World) : (Instr.build 25 #[]).run Try.prog w = .ok (.agg (txc tx0 none 0).toArray) w := by kernel_rfl

set_option maxRecDepth 100000 in
set_option maxHeartbeats 4000000 in
theorem lget_any (w : World) (x : Sec) (n : Int) :
    Calls Try.prog 17 #[.agg x.cs.toArray, .int .i64 n] w fun e w' => ∃ A c, e = .returned (.tuple #[.agg (txc (getT14 x n) A c).toArray, .bool (getB14 x n), .int .i64 (getC14 x n)]) ∧ LiesV w' w'.heap.size A (slv (getT14 x n).slots) ∧ Below w.heap.size w w' := by
  have hzv := zeroSv
  have hzt := zeroTv
  go_enter Try.func17, Try.ntmps17
  go_wp2_with ((with_reducible refine at_box 28 ?_); refine wpList_box_rowV rfl 28 _ rfl x.cs rfl ?_)
  intro w1 hr1 hb1 hs1
  go_wp2_with ((with_reducible refine at_alloc 25 ?_); refine alloc_tx rfl rfl ?_)
  intro w2 hr2 hb2 hs2
  have hx2 := hr1.below (by omega) hb2
  have hB2 : Below w.heap.size w w2 := hb1.trans (hb2.mono (by omega))
  have hz2 : w.heap.size + 1 < w2.heap.size := by omega
  clear hr1 hb1 hb2 hs1 hs2
  obtain ⟨N, hN⟩ : ∃ N, w.heap.size = N := ⟨_, rfl⟩
  rw [hN] at hx2 hr2 hB2 hz2 ⊢
  by_cases hx0 : x = zeroSec
  · have Hg := Lib.hid (get14_zero (n := n) hx0)
    have hd := Lib.hid (decide_eq_true hx0)
    clear hx0
    go_wp2_with first
      | ((with_reducible refine at_load 28 ?_); refine load_sec rfl _ rfl N rfl hx2 ?_)
      | ((with_reducible refine at_eql 28 ?_); refine eql_sec rfl _ _ _ rfl x zeroSec rfl rfl hd.out ?_)
      | ((with_reducible refine at_store 25 ?_); refine store_tx rfl _ _ rfl (N + 1) tx0 none 0 rfl rfl hr2 (txc_length _ _ _) ?_)
    intro w3 hr3 hg3 hs3
    go_wp2_with fail
    exact bodyPost_ret (results_cell_tmp2 (fn := Try.f17) rfl _ _ (N + 1) 25 _ (0, 0) _ rfl _ rfl _ rfl hr3 Try.underlying25 rfl (txc_info' _ _ _)) rfl ⟨none, 0, by rw [Hg.out.1, Hg.out.2.1, Hg.out.2.2]; rfl, by rw [Hg.out.1]; exact LiesV.nil _ _ _, by rw [hN]; exact below_grown hB2 hg3 (by omega) (by omega)⟩
  have hd := Lib.hid (decide_eq_false hx0)
  have Hx0 := Lib.hid hx0
  clear hx0
  have hsl : ∀ W, (Instr.sliceAt 28 (.pointer (some ⟨N, 0, none⟩)) (some (.int .i64 4)) none none).run Try.prog W = .ok (.slice (some ⟨N, 4, none⟩) 252 252) W := fun W => run_slice_arr_from Try.underlying28 Try.size1 N 0 .i64 4 4 rfl (by omega)
  go_wp2_with first
    | ((with_reducible refine at_load 28 ?_); refine load_sec rfl _ rfl N rfl hx2 ?_)
    | ((with_reducible refine at_eql 28 ?_); refine eql_sec rfl _ _ _ rfl x zeroSec rfl rfl hd.out ?_)
  refine (lfields_any (some ⟨N, 4, none⟩) 252 252 (x.1.drop 4) w2 w2.heap.size (sec_from hx2 4) (Nat.le_refl _) (drop4_length x).symm (by rw [drop4_length]; omega) (by omega)).mono ?_
  rintro e w3 ⟨H, rfl, hH3, hb3⟩
  obtain ⟨F, hF⟩ : ∃ F, fldS x = F := ⟨_, rfl⟩
  have hF' : fldL (x.1.drop 4) (h32_sec x) = F := hF
  rw [hF'] at hH3 ⊢
  have HF := Lib.hid hF
  have hx3 := hx2.below (by omega) hb3
  have hr3 := hr2.below (by omega) hb3
  have hB3 : Below N w w3 := hB2.trans (hb3.mono (by omega))
  have hz3 : N + 1 < w3.heap.size := by have := hb3.size; omega
  obtain ⟨m, hm⟩ : ∃ m, F.slots.length = m := ⟨_, rfl⟩
  have Hm := Lib.hid hm
  rw [hm]
  clear hx2 hr2 hB2 hz2 hb3 hF hF' hm hsl
  go_wp2_with ((with_reducible refine at_alloc 25 ?_); refine alloc_tx rfl rfl ?_)
  intro w4 hM4 hb4 hs4
  have hx4 := hx3.below (by omega) hb4
  have hr4 := hr3.below (by omega) hb4
  have hH4 := hH3.below hH3.lt hb4
  have hB4 : Below N w w4 := hB3.trans (hb4.mono (by omega))
  have hHM : H < w3.heap.size := hH3.lt
  obtain ⟨M, hM⟩ : ∃ M, w3.heap.size = M := ⟨_, rfl⟩
  rw [hM] at hM4 hHM hz3 hs4 ⊢
  clear hx3 hr3 hH3 hB3 hb4 hM
  go_wp2_with ((with_reducible refine at_store 25 ?_); refine store_tx rfl _ _ rfl M F (some ⟨H, 0, none⟩) m rfl rfl hM4 (txc_length _ _ _) ?_)
  intro w5 hM5 hg5 hs5
  have hx5 := hx4.keep hg5 (fun e => by injection e with e; omega)
  have hr5 := hr4.keep hg5 (fun e => by injection e with e; omega)
  have hH5 := hH4.keep hg5 (fun e => by injection e with e; omega)
  have hB5 := below_grown hB4 hg5 (by omega) (by omega)
  have hM5l := hM5.lt
  clear hx4 hr4 hH4 hB4 hM4 hg5 hs5 hs4
  go_wp2_with ((with_reducible refine at_load 25 ?_); refine load_tx rfl _ rfl M rfl hM5 ?_)
  refine (lput_any w5 w5.heap.size F (some ⟨H, 0, none⟩) m (rowV_lies hH5 hH5.lt) (Nat.le_refl _)).mono ?_
  rintro e w6 ⟨rfl, hb6⟩
  have hx6 := hx5.below (by omega) hb6
  have hr6 := hr5.below (by omega) hb6
  have hH6 := hH5.below (by omega) hb6
  have hM6 := hM5.below hM5l hb6
  have hB6 : Below N w w6 := hB5.trans (hb6.mono (by omega))
  have hz6 : M < w6.heap.size := hM6.lt
  obtain ⟨P, hP⟩ : ∃ P, putS14 F = P := ⟨_, rfl⟩
  obtain ⟨cd, hcd⟩ : ∃ cd, checkL F 200 = cd := ⟨_, rfl⟩
  have HP := Lib.hid hP
  have Hcd := Lib.hid hcd
  rw [hP, hcd]
  clear hx5 hr5 hH5 hB5 hM5 hM5l hb6 hP hcd
  go_wp2_with ((with_reducible refine at_alloc 28 ?_); refine alloc_sec rfl rfl ?_)
  intro w7 hY7 hb7 hs7
  have hx7 := hx6.below (by omega) hb7
  have hr7 := hr6.below (by omega) hb7
  have hH7 := hH6.below (by omega) hb7
  have hM7 := hM6.below hz6 hb7
  have hB7 : Below N w w7 := hB6.trans (hb7.mono (by omega))
  obtain ⟨Y, hY⟩ : ∃ Y, w6.heap.size = Y := ⟨_, rfl⟩
  rw [hY] at hY7 hz6 hs7 ⊢
  clear hx6 hr6 hH6 hM6 hB6 hb7 hY
  go_wp2_with ((with_reducible refine at_store 28 ?_); refine store_sec rfl _ _ rfl Y P rfl rfl hY7 (Sec.cs_length _) ?_)
  intro w8 hY8 hg8 hs8
  have hx8 := hx7.keep hg8 (fun e => by injection e with e; omega)
  have hr8 := hr7.keep hg8 (fun e => by injection e with e; omega)
  have hH8 := hH7.keep hg8 (fun e => by injection e with e; omega)
  have hM8 := hM7.keep hg8 (fun e => by injection e with e; omega)
  have hB8 := below_grown hB7 hg8 (by omega) (by omega)
  have hz8 : Y < w8.heap.size := by omega
  clear hx7 hr7 hH7 hM7 hB7 hY7 hg8 hs8 hs7
  by_cases hc0 : cd = 0
  rotate_left
  · have Hg := Lib.hid (get14_none (n := n) Hx0.out (getL_not (fun h => hc0 (by rw [← Hcd.out, ← HF.out]; exact h.1))))
    go_wp2_with first
      | ((with_reducible refine at_loadG 28 ?_); refine load_secG (by rfl) _ rfl Y rfl hY8 ?_)
      | ((with_reducible refine at_loadG 28 ?_); refine load_secG (by rfl) _ rfl N rfl hx8 ?_)
      | ((with_reducible refine at_neqG 28 ?_); refine neq_secG (by rfl) _ _ _ rfl P x rfl rfl ?_)
      | ((with_reducible refine at_store 25 ?_); refine store_tx rfl _ _ rfl (N + 1) tx0 none 0 rfl rfl hr8 (txc_length _ _ _) ?_)
    intro w11 hr11 hg11 hs11
    go_wp2_with fail
    exact bodyPost_ret (results_cell_tmp2 (fn := Try.f17) rfl _ _ (N + 1) 25 _ (0, 0) _ rfl _ rfl _ rfl hr11 Try.underlying25 rfl (txc_info' _ _ _)) rfl ⟨none, 0, by rw [Hg.out.1, Hg.out.2.1, Hg.out.2.2]; rfl, by rw [Hg.out.1]; exact LiesV.nil _ _ _, by rw [hN]; exact below_grown hB8 hg11 (by omega) (by omega)⟩
  subst hc0
  have HP2 : Hid (leafS F = P) := by show _ = _; rw [← HP.out, putS14_yes Hcd.out]
  by_cases hpx : P = x
  rotate_left
  · have Hg := Lib.hid (get14_none (n := n) Hx0.out (getL_not (fun h => hpx (by rw [← HP2.out, ← HF.out]; exact h.2.1))))
    have hpd := decide_eq_false hpx
    clear hpx
    go_wp2_with first
      | ((with_reducible refine at_loadG 28 ?_); refine load_secG (by rfl) _ rfl Y rfl hY8 ?_)
      | ((with_reducible refine at_loadG 28 ?_); refine load_secG (by rfl) _ rfl N rfl hx8 ?_)
      | ((with_reducible refine at_neqG 28 ?_); refine neq_secG (by rfl) _ _ _ rfl P x rfl rfl ?_)
      | ((with_reducible refine at_store 25 ?_); refine store_tx rfl _ _ rfl (N + 1) tx0 none 0 rfl rfl hr8 (txc_length _ _ _) ?_)
    intro w11 hr11 hg11 hs11
    go_wp2_with fail
    exact bodyPost_ret (results_cell_tmp2 (fn := Try.f17) rfl _ _ (N + 1) 25 _ (0, 0) _ rfl _ rfl _ rfl hr11 Try.underlying25 rfl (txc_info' _ _ _)) rfl ⟨none, 0, by rw [Hg.out.1, Hg.out.2.1, Hg.out.2.2]; rfl, by rw [Hg.out.1]; exact LiesV.nil _ _ _, by rw [hN]; exact below_grown hB8 hg11 (by omega) (by omega)⟩
  have hpd := decide_eq_true hpx
  have Hpx := Lib.hid hpx
  clear hpx
  go_wp2_with first
    | ((with_reducible refine at_loadG 28 ?_); refine load_secG (by rfl) _ rfl Y rfl hY8 ?_)
    | ((with_reducible refine at_loadG 28 ?_); refine load_secG (by rfl) _ rfl N rfl hx8 ?_)
    | ((with_reducible refine at_neqG 28 ?_); refine neq_secG (by rfl) _ _ _ rfl P x rfl rfl ?_)
    | ((with_reducible refine at_loadGR 25 ?_); refine load_txG (by rfl) _ rfl M rfl hM8 ?_)
  refine (lcheck_any w8 w8.heap.size F (some ⟨H, 0, none⟩) m n (rowV_lies hH8 hH8.lt) (Nat.le_refl _)).mono ?_
  rintro e w9 ⟨rfl, hb9⟩
  have hx9 := hx8.below (by omega) hb9
  have hr9 := hr8.below (by omega) hb9
  have hH9 := hH8.below (by omega) hb9
  have hM9 := hM8.below (by omega) hb9
  have hB9 : Below N w w9 := hB8.trans (hb9.mono (by omega))
  have hz9 : Y < w9.heap.size := by have := hb9.size; omega
  have hne : H ≠ N + 1 := rowV_ne hH9 hr9 (by decide)
  obtain ⟨ce, hce⟩ : ∃ ce, checkL F n = ce := ⟨_, rfl⟩
  have Hce := Lib.hid hce
  rw [hce]
  clear hx8 hr8 hH8 hM8 hB8 hY8 hb9 hce
  by_cases hc1 : ce = 0
  · subst hc1
    have Hg := Lib.hid (get14_some (n := n) Hx0.out (getL_fld (x := x) (n := n) (by rw [HF.out]; exact Hcd.out) (by rw [HF.out, HP2.out]; exact Hpx.out) (by rw [HF.out]; exact Hce.out)))
    go_wp2_with first
      | ((with_reducible refine at_load 25 ?_); refine load_tx rfl _ rfl M rfl hM9 ?_)
      | ((with_reducible refine at_store 25 ?_); refine store_tx rfl _ _ rfl (N + 1) F (some ⟨H, 0, none⟩) m rfl rfl hr9 (txc_length _ _ _) ?_)
    intro w11 hr11 hg11 hs11
    have hH11 := hH9.keep hg11 (fun e => by injection e with e; exact hne e.symm)
    go_wp2_with fail
    exact bodyPost_ret (results_cell_tmp2 (fn := Try.f17) rfl _ _ (N + 1) 25 _ (0, 0) _ rfl _ rfl _ rfl hr11 Try.underlying25 rfl (txc_info' _ _ _)) rfl ⟨some ⟨H, 0, none⟩, m, by rw [Hg.out.1, Hg.out.2.1, Hg.out.2.2, HF.out]; rfl, by rw [Hg.out.1, HF.out]; exact rowV_lies hH11 hH11.lt, by rw [hN]; exact below_grown hB9 hg11 (by omega) (by omega)⟩
  · have Hg := Lib.hid (get14_none (n := n) Hx0.out (getL_not (fun h => hc1 (by rw [← Hce.out, ← HF.out]; exact h.2.2))))
    go_wp2_with ((with_reducible refine at_store 25 ?_); refine store_tx rfl _ _ rfl (N + 1) tx0 none 0 rfl rfl hr9 (txc_length _ _ _) ?_)
    intro w11 hr11 hg11 hs11
    go_wp2_with fail
    exact bodyPost_ret (results_cell_tmp2 (fn := Try.f17) rfl _ _ (N + 1) 25 _ (0, 0) _ rfl _ rfl _ rfl hr11 Try.underlying25 rfl (txc_info' _ _ _)) rfl ⟨none, 0, by rw [Hg.out.1, Hg.out.2.1, Hg.out.2.2]; rfl, by rw [Hg.out.1]; exact LiesV.nil _ _ _, by rw [hN]; exact below_grown hB9 hg11 (by omega) (by omega)⟩
end Go.Proofs.Ytkfhbngphkobfaa
