/-
  Layer 8: the contract of super.Get.
-/
import Derived.Test.YtoiphbdmmiikaaaSupC
namespace Go.Proofs.Ytoiphbdmmiikaaa
open Go.RowKit
set_option linter.unusedVariables false
set_option linter.unusedSimpArgs false

theorem fieldsL_cand (x : Sec) : fieldsL (x.1.drop 8) = ⟨(candS x).s, (candS x).t, (candS x).c, (candS x).a, IntKind.i64.wrap (candS x).m⟩ := by
  simp only [fieldsL, candS, numAt, List.drop_drop]
theorem fieldsL_sec {b : Sb} (h : b.ok = true) : fieldsL (b.sec.1.drop 8) = b := by
  rw [fieldsL_cand, candS_sec h]
  obtain ⟨⟨s1, s2⟩, ⟨t1, t2⟩, ⟨c1, c2⟩, ⟨a1, a2⟩, m1, m2⟩ := Sb.ok_iff.1 h
  rw [IntWalk.i64_in _ (by omega)]
theorem sec_magic (b : Sb) : b.sec.1.take 8 = Sb.magic := by
  show (sealB b.plain).take 8 = Sb.magic
  unfold sealB Sb.plain Sb.body
  simp only [List.append_assoc]
  rw [List.take_append_of_le_length (by simp [Sb.magic])]
  rfl
/-- What Get answers. -/
def getV (x : Sec) : Sb := (getS x).getD sb0
def getC (x : Sec) : Int := if (getS x).isSome then 0 else 5
theorem get_none {x : Sec} (h : getS x = none) : getV x = sb0 ∧ getC x = 5 := by simp [getV, getC, h]
theorem get_some {x : Sec} {b : Sb} (h : getS x = some b) : getV x = b ∧ getC x = 0 := by simp [getV, getC, h]
theorem get_mark {x : Sec} (h : x.1.take 8 ≠ Sb.magic) : getS x = none := by
  cases hg : getS x with
  | none => rfl
  | some b => exact absurd (by rw [← (getS_some hg).2]; exact sec_magic b) h
theorem get_bad {x : Sec} (h : (fieldsL (x.1.drop 8)).ok = false) : getS x = none := by
  cases hg : getS x with
  | none => rfl
  | some b =>
    obtain ⟨h1, h2⟩ := getS_some hg
    rw [← h2, fieldsL_sec h1, h1] at h
    cases h
theorem get_other {x : Sec} (h : (fieldsL (x.1.drop 8)).sec ≠ x) : getS x = none := by
  cases hg : getS x with
  | none => rfl
  | some b =>
    obtain ⟨h1, h2⟩ := getS_some hg
    rw [← h2, fieldsL_sec h1] at h
    exact absurd rfl h
theorem get_yes {x : Sec} (h1 : (fieldsL (x.1.drop 8)).ok = true) (h2 : (fieldsL (x.1.drop 8)).sec = x) : getS x = some (fieldsL (x.1.drop 8)) := getS_iff.2 ⟨h1, h2⟩

theorem zeroBv (w : World) : (zeroValue 29).run Try.prog w = .ok (.agg (sbc sb0).toArray) w := by kernel_rfl
theorem alloc_sb {w : World} {ops : Array Oper} {rest : List Oper} {o : Oper} {A : Act} {Q : Exit → Act → World → Prop} (hgd : o.guard = none) (ho : o.op = .alloc 29)
    (h : ∀ w', RowV w' w.heap.size 29 (sbc sb0) → Below w.heap.size w w' → w'.heap.size = w.heap.size + 1 → wpList Try.prog ops Q rest (A.put o.dst (.pointer (some ⟨w.heap.size, 0, none⟩))) w') : wpList Try.prog ops Q (o :: rest) A w :=
  wpList_alloc_rowV hgd 29 ho (sbc sb0) Try.zeroB h
theorem store_sb {w : World} {ops : Array Oper} {rest : List Oper} {o : Oper} {A : Act} {Q : Exit → Act → World → Prop} (hgd : o.guard = none) (x y : Operand) (ho : o.op = .store 29 x y) (g : Nat) (b : Sb)
    (hx : A.eval x = .pointer (some ⟨g, 0, none⟩)) (hy : A.eval y = .agg (sbc b).toArray) {old : List Value} (hg : RowV w g 29 old) (hold : old.length = 5)
    (h : ∀ w', RowV w' g 29 (sbc b) → w.grownBy w' (some g) → w'.heap.size = w.heap.size → wpList Try.prog ops Q rest (A.put o.dst undef) w') : wpList Try.prog ops Q (o :: rest) A w :=
  wpList_store_rowV hgd 29 x y ho g _ hx hy 29 old hg (sbc_size b) (by rw [List.size_toArray, List.size_toArray, hold]; rfl) (sbc_all b) h
theorem load_sb {w : World} {ops : Array Oper} {rest : List Oper} {o : Oper} {A : Act} {Q : Exit → Act → World → Prop} (hgd : o.guard = none) (x : Operand) (ho : o.op = .load 29 x) (g : Nat) {b : Sb}
    (hx : A.eval x = .pointer (some ⟨g, 0, none⟩)) (hg : RowV w g 29 (sbc b))
    (h : wpList Try.prog ops Q rest (A.put o.dst (.agg (sbc b).toArray)) w) : wpList Try.prog ops Q (o :: rest) A w :=
  wpList_load_row hgd 29 x ho g hx 29 _ (0, 0) _ hg Try.underlying29 rfl (sbc_size b) h
/-- A guarded operation that is wanted. -/
theorem wpList_wants {P : Program} {w : World} {ops : Array Oper} {rest : List Oper} {o : Oper} {A : Act} {Q : Exit → Act → World → Prop} (hw : Region.wanted o (yielded ops A.tmps) = true)
    (h : ∀ K : Act → World → Prop, (∀ a w, wpList P ops Q rest a w → K a w) → o.wp P A w K Q) : wpList P ops Q (o :: rest) A w :=
  wpList_step fun K hK => by rw [if_pos hw]; exact h K hK
theorem at_loadG {P : Program} {w : World} {ops : Array Oper} {rest : List Oper} {a : Act} {Q : Exit → Act → World → Prop} {d : Option Tmp} {x : Operand} {u : TypeId} {p : String} {af : Array Edge} {gd : Nat × Bool} (ty : TypeId)
    (h : wpList P ops Q (⟨d, .load ty x, u, p, af, some gd⟩ :: rest) a w) : wpList P ops Q (⟨d, .load ty x, u, p, af, some gd⟩ :: rest) a w := h
theorem at_neqG {P : Program} {w : World} {ops : Array Oper} {rest : List Oper} {a : Act} {Q : Exit → Act → World → Prop} {d : Option Tmp} {x y : Operand} {u v : TypeId} {p : String} {af : Array Edge} {gd : Nat × Bool} (ty : TypeId)
    (h : wpList P ops Q (⟨d, .binOp .neq ty x y v, u, p, af, some gd⟩ :: rest) a w) : wpList P ops Q (⟨d, .binOp .neq ty x y v, u, p, af, some gd⟩ :: rest) a w := h
theorem load_secG {w : World} {ops : Array Oper} {rest : List Oper} {o : Oper} {A : Act} {Q : Exit → Act → World → Prop} (hw : Region.wanted o (yielded ops A.tmps) = true) (x : Operand) (ho : o.op = .load 24 x) (g : Nat) {s : Sec} {t : TypeId}
    (hx : A.eval x = .pointer (some ⟨g, 0, none⟩)) (hg : RowV w g t s.cs)
    (h : wpList Try.prog ops Q rest (A.put o.dst (.agg s.cs.toArray)) w) : wpList Try.prog ops Q (o :: rest) A w := by
  refine wpList_wants hw fun K hK => ?_
  unfold Oper.wp
  rw [exec_load_row 24 x ho g hx _ hg Try.underlying24 rfl (sec_size s)]
  exact hK _ _ h
theorem sec_eq_iff (x y : Sec) : (x.1 == y.1) = decide (x = y) := by
  rw [Bool.eq_iff_iff, beq_iff_eq, decide_eq_true_eq]
  exact ⟨fun h => Subtype.ext h, fun h => by rw [h]⟩
theorem Try.cells5s : Try.prog.cellsOf 5 = 1 := by kernel_rfl
theorem Try.guard8 : Try.prog.eqGuardType Try.prog.depth 63 = false := by kernel_rfl
theorem Try.guardSec : Try.prog.eqGuardType Try.prog.depth 24 = false := by kernel_rfl
theorem neq_secG {w : World} {ops : Array Oper} {rest : List Oper} {o : Oper} {A : Act} {Q : Exit → Act → World → Prop} (hw : Region.wanted o (yielded ops A.tmps) = true) (x y : Operand) (u : TypeId) (ho : o.op = .binOp .neq 24 x y u) (s t : Sec)
    (hx : A.eval x = .agg s.cs.toArray) (hy : A.eval y = .agg t.cs.toArray)
    (h : wpList Try.prog ops Q rest (A.put o.dst (.bool (!decide (s = t)))) w) : wpList Try.prog ops Q (o :: rest) A w := by
  refine wpList_wants hw fun K hK => ?_
  unfold Oper.wp
  rw [exec_neqB 24 x y u ho Try.underlying24 Try.underlying5 Try.cells5s Try.guardSec hx hy s.2 t.2, sec_eq_iff]
  exact hK _ _ h

theorem Try.build0 (w : World) : (Instr.build 29 #[]).run Try.prog w = .ok (.agg (sbc sb0).toArray) w := by kernel_rfl
theorem sec_range8 {w : World} {g : Nat} {t : TypeId} {x : Sec} (h : RowV w g t x.cs) : w.rangeAt g 0 (cells (x.1.take 8)) := by
  intro j u hj
  rw [Nat.zero_add]
  refine h.cell ?_
  have e : cells (x.1.take 8) = x.cs.take 8 := by simp [cells, Sec.cs]
  rw [e, List.getElem?_take] at hj
  split at hj
  · exact hj
  · cases hj
theorem take8_length (x : Sec) : (x.1.take 8).length = 8 := by rw [List.length_take, x.2]; rfl
theorem size8 (xs : List UInt8) (h : xs.length = 8) : (Try.prog.info? 63).map (·.size) = some (cells xs).length := by rw [cells_length, h]; kernel_rfl

theorem lies_range {w : World} {B g : Nat} {xs : List UInt8} (h : Lies w B (some ⟨g, 0, none⟩) xs) : w.rangeAt g 0 (cells xs) := by
  intro j u hj
  have := h.cells rfl j u hj
  rwa [Addr.add_lit] at this
theorem sec_tail {w : World} {g : Nat} {t : TypeId} {x : Sec} (h : RowV w g t x.cs) : Lies w w.heap.size (some ⟨g, 8, none⟩) (x.1.drop 8) := by
  intro _
  refine ⟨g, 8, rfl, h.lt, fun i y hi => h.cell ?_⟩
  rw [List.getElem?_drop] at hi
  exact cells_get hi

set_option maxRecDepth 100000 in
set_option maxHeartbeats 2000000 in
theorem sget_any (w : World) (x : Sec) :
    Calls Try.prog 8 #[.agg x.cs.toArray] w fun e w' => e = .returned (.tuple #[.agg (sbc (getV x)).toArray, .int .i64 (getC x)]) ∧ Below w.heap.size w w' := by
  go_enter Try.func8, Try.ntmps8
  go_wp2_with ((with_reducible refine at_box 24 ?_); refine wpList_box_rowV rfl 24 _ rfl x.cs rfl ?_)
  intro w1 hr1 hb1 hs1
  go_wp2_with ((with_reducible refine at_alloc 29 ?_); refine alloc_sb rfl rfl ?_)
  intro w2 hr2 hb2 hs2
  have hx2 := hr1.below (by omega) hb2
  have hB2 : Below w.heap.size w w2 := hb1.trans (hb2.mono (by omega))
  have hsz2 : w.heap.size + 1 < w2.heap.size := by omega
  have hlt : w.heap.size < w.heap.size + 1 := by omega
  clear hr1 hb1 hb2 hs1 hs2
  generalize hN1 : w.heap.size + 1 = N1 at *
  generalize hN : w.heap.size = N at *
  clear hN1
  have hsl : ∀ W, (Instr.sliceAt 24 (.pointer (some ⟨N, 0, none⟩)) none none none).run Try.prog W = .ok (.slice (some ⟨N, 0, none⟩) 256 256) W := fun W => run_slice_arr_all Try.underlying24 Try.size1 N
  have hap : ∀ W A len cap, 8 ≤ len → (Instr.arrayAt 63 (.slice A len cap)).run Try.prog W = .ok (.pointer A) W := fun W A len cap h => run_arrayAt Try.underlying63 A len cap h
  have hap1 := fun W => hap W (some ⟨N, 0, none⟩) 256 256 (by omega)
  go_wp2_with fail
  have hxd : RowV w2.drew N 24 x.cs := hx2
  have hrd : RowV w2.drew N1 29 (sbc sb0) := hr2
  have hBd : Below N w w2.drew := ⟨hB2.os, hB2.tape, hB2.output, hB2.size, hB2.block⟩
  have hzd : N1 < w2.drew.heap.size := hsz2
  refine wp_region_held_drew (S := fun W => RowV W N 24 x.cs) (by kernel_rfl) hxd (fun hHeld => ?_)
  clear hx2 hr2 hB2 hsz2
  generalize w2.drew = wd at *
  refine wpAnyH_take (i := 0) (oi := ⟨_, _, _, _, _, _⟩) (v := ?_) rfl (by kernel_rfl) (by kernel_rfl) (by kernel_rfl) (fun _ _ _ h => h) (Or.inl ⟨by rfl, ?_⟩) (by assumption) ?_
  rotate_left
  · intro W hSW; go_simp; try with_reducible rfl
  try simp only [Act.put, List.setIfInBounds_toArray, List.set_cons_zero, List.set_cons_succ]
  refine wpAnyH_take (i := 1) (oi := ⟨_, _, _, _, _, _⟩) (v := ?_) rfl (by kernel_rfl) (by kernel_rfl) (by kernel_rfl) (fun _ _ _ h => h) (Or.inl ⟨by rfl, ?_⟩) (by assumption) ?_
  rotate_left
  · intro W hSW; go_simp; try with_reducible rfl
  try simp only [Act.put, List.setIfInBounds_toArray, List.set_cons_zero, List.set_cons_succ]
  refine wpAnyH_take (i := 2) (oi := ⟨_, _, _, _, _, _⟩) (v := ?_) rfl (by kernel_rfl) (by kernel_rfl) (by kernel_rfl) (fun _ _ _ h => h) (Or.inl ⟨by rfl, ?_⟩) (by assumption) ?_
  rotate_left
  · intro W hSW; refine exec_load_mid 63 (.tmp 8) ?_ N 0 ?_ (cells (x.1.take 8)) _ (sec_range8 hSW) Try.underlying63 rfl (size8 _ (take8_length x)) <;> rfl
  try simp only [Act.put, List.setIfInBounds_toArray, List.set_cons_zero, List.set_cons_succ]
  refine wpAnyH_ready (rs := [3]) (by kernel_rfl) (by simp) ?_
  refine AllReadyH.cons (o := ⟨_, _, _, _, _, _⟩) rfl (fun K hK => ?_) AllReadyH.nil
  go_simp
  refine hK.out _ _ (hxd.alloc _) (fun hHeld => ?_)
  clear hK K
  try simp only [Act.put, List.setIfInBounds_toArray, List.set_cons_zero, List.set_cons_succ]
  have hap2 := fun W => hap W (some ⟨wd.heap.size, 0, none⟩) 8 8 (by omega)
  refine wpAnyH_ready (rs := [4]) (by kernel_rfl) (by simp) ?_
  refine AllReadyH.cons (o := ⟨_, _, _, _, _, _⟩) rfl (fun K hK => ?_) AllReadyH.nil
  refine ite_yes rfl ?_
  refine wp_const 46 (.tmp 10) rfl Try.underlying46 Try.underlying5 _ 8 8 rfl Sb.magic rfl ?_
  intro we hle hbe hse
  have hxe := hxd.below (by omega) hbe
  have hre := hrd.below (by omega) hbe
  have hBe : Below N w we := hBd.trans (hbe.mono (by omega))
  have hze : N1 < we.heap.size := by omega
  have hge := lies_range hle
  refine hK.out _ _ hxe (fun hHeld => ?_)
  clear hK K
  try simp only [Act.put, List.setIfInBounds_toArray, List.set_cons_zero, List.set_cons_succ]
  refine wpAnyH_take (i := 5) (oi := ⟨_, _, _, _, _, _⟩) (v := ?_) rfl (by kernel_rfl) (by kernel_rfl) (by kernel_rfl) (fun _ _ _ h => h) (Or.inl ⟨by rfl, ?_⟩) (by assumption) ?_
  rotate_left
  · intro W hSW; go_simp; try with_reducible rfl
  try simp only [Act.put, List.setIfInBounds_toArray, List.set_cons_zero, List.set_cons_succ]
  refine wpAnyH_ready (rs := [6]) (by kernel_rfl) (by simp) ?_
  refine AllReadyH.cons (o := ⟨_, _, _, _, _, _⟩) rfl (fun K hK => ?_) AllReadyH.nil
  refine ite_yes rfl ?_
  refine wp_load_mid 63 (.tmp 12) rfl wd.heap.size 0 rfl (cells Sb.magic) _ hge Try.underlying63 rfl (size8 _ rfl) ?_
  refine hK.out _ _ hxe (fun hHeld => ?_)
  clear hK K
  try simp only [Act.put, List.setIfInBounds_toArray, List.set_cons_zero, List.set_cons_succ]
  refine wpAnyH_take (i := 7) (oi := ⟨_, _, _, _, _, _⟩) (v := .bool (!(x.1.take 8 == Sb.magic))) rfl (by kernel_rfl) (by kernel_rfl) (by kernel_rfl) (fun _ _ _ h => h) (Or.inl ⟨by rfl, ?_⟩) (by assumption) ?_
  · intro W hSW; exact exec_neqB 63 (.tmp 9) (.tmp 13) _ rfl Try.underlying63 Try.underlying5 Try.cells5s Try.guard8 rfl rfl (take8_length x) rfl
  try simp only [Act.put, List.setIfInBounds_toArray, List.set_cons_zero, List.set_cons_succ]
  refine wpAnyH_done (by kernel_rfl) ?_ _
  clear hsl hap hap1 hap2 hxd hrd hBd hzd hle hbe hge hHeld
  clear hse
  cases hbq : (x.1.take 8 == Sb.magic)
  · have hg := get_none (get_mark (x := x) (by simpa using hbq))
    have Hg := Lib.hid hg
    clear hbq hg
    have hz := zeroBv
    go_wp2_with ((with_reducible refine at_store 29 ?_); refine store_sb rfl _ _ rfl N1 sb0 rfl rfl hre rfl ?_)
    intro w4 hr4 hg4 hs4
    go_wp2_with fail
    exact bodyPost_ret (results_cell_tmp (fn := Try.f8) rfl _ _ N1 29 _ (0, 0) _ rfl (.int .i64 5) rfl hr4 Try.underlying29 rfl (sbc_size _)) rfl ⟨by rw [Hg.out.1, Hg.out.2], by rw [hN]; exact below_grown hBe hg4 (by omega) (by omega)⟩
  · clear hbq
    have hsl : ∀ W, (Instr.sliceAt 24 (.pointer (some ⟨N, 0, none⟩)) (some (.int .i64 8)) none none).run Try.prog W = .ok (.slice (some ⟨N, 8, none⟩) 248 248) W := fun W => run_slice_arr_from Try.underlying24 Try.size1 N 0 .i64 8 8 rfl (by omega)
    go_wp2_with fail
    refine (sfields_any _ 248 248 (x.1.drop 8) we we.heap.size (sec_tail hxe) (Nat.le_refl _) (by rw [List.length_drop, x.2]) (by rw [List.length_drop, x.2]; omega) (by omega)).mono ?_
    rintro e w4 ⟨rfl, hb4⟩
    have hx4 := hxe.below (by omega) hb4
    have hr4 := hre.below (by omega) hb4
    have hB4 : Below N w w4 := hBe.trans (hb4.mono (by omega))
    have hz4 : N1 < w4.heap.size := by have := hb4.size; omega
    have Hbad := Lib.hid (get_bad (x := x))
    have Hoth := Lib.hid (get_other (x := x))
    have Hyes := Lib.hid (get_yes (x := x))
    clear hsl hxe hre hBe hze hb4
    generalize fieldsL (x.1.drop 8) = b at *
    go_wp2_with ((with_reducible refine at_alloc 29 ?_); refine alloc_sb rfl rfl ?_)
    intro w5 hq5 hb5 hs5
    have hx5 := hx4.below (by omega) hb5
    have hr5 := hr4.below (by omega) hb5
    have hB5 : Below N w w5 := hB4.trans (hb5.mono (by omega))
    clear hx4 hr4 hB4 hb5
    generalize hG : w4.heap.size = G at *
    clear hG
    go_wp2_with ((with_reducible refine at_store 29 ?_); refine store_sb rfl _ _ rfl G b rfl rfl hq5 rfl ?_)
    intro w6 hq6 hg6 hs6
    have hx6 := hx5.keep hg6 (fun e => by injection e with e; omega)
    have hr6 := hr5.keep hg6 (fun e => by injection e with e; omega)
    have hB6 : Below N w w6 := below_grown hB5 hg6 (by omega) (by omega)
    have hz6 : G < w6.heap.size := by omega
    clear hx5 hr5 hB5 hq5 hg6 hs6 hs5
    go_wp2_with ((with_reducible refine at_load 29 ?_); refine load_sb rfl _ rfl G rfl hq6 ?_)
    refine (sput_any w6 b).mono ?_
    rintro e w7 ⟨rfl, hb7⟩
    have hx7 := hx6.below (by omega) hb7
    have hr7 := hr6.below (by omega) hb7
    have hq7 := hq6.below (by omega) hb7
    have hB7 : Below N w w7 := hB6.trans (hb7.mono (by omega))
    have hz7 : G < w7.heap.size := by have := hb7.size; omega
    clear hx6 hr6 hq6 hB6 hz6 hb7
    go_wp2_with ((with_reducible refine at_alloc 24 ?_); refine alloc_sec rfl rfl ?_)
    intro w8 hy8 hb8 hs8
    have hx8 := hx7.below (by omega) hb8
    have hr8 := hr7.below (by omega) hb8
    have hq8 := hq7.below (by omega) hb8
    have hB8 : Below N w w8 := hB7.trans (hb8.mono (by omega))
    clear hx7 hr7 hq7 hB7 hb8
    generalize hG2 : w7.heap.size = G2 at *
    clear hG2
    go_wp2_with ((with_reducible refine at_store 24 ?_); refine store_sec rfl _ _ rfl G2 (putS b).1 rfl rfl hy8 (Sec.cs_length _) ?_)
    intro w9 hy9 hg9 hs9
    have hx9 := hx8.keep hg9 (fun e => by injection e with e; omega)
    have hr9 := hr8.keep hg9 (fun e => by injection e with e; omega)
    have hq9 := hq8.keep hg9 (fun e => by injection e with e; omega)
    have hB9 : Below N w w9 := below_grown hB8 hg9 (by omega) (by omega)
    have hz9 : G2 < w9.heap.size := by omega
    clear hx8 hr8 hq8 hB8 hy8 hg9 hs9 hs8
    have hz := zeroBv
    cases hok : b.ok
    · have hp : putS b = (zeroSec, 2) := by rw [putS, hok]; rfl
      have Hg := Lib.hid (get_none (Hbad.out hok))
      rw [hp] at hy9 ⊢
      clear hp hok
      go_wp2_with ((with_reducible refine at_store 29 ?_); refine store_sb rfl _ _ rfl N1 sb0 rfl rfl hr9 rfl ?_)
      intro w10 hr10 hg10 hs10
      go_wp2_with fail
      exact bodyPost_ret (results_cell_tmp (fn := Try.f8) rfl _ _ N1 29 _ (0, 0) _ rfl (.int .i64 5) rfl hr10 Try.underlying29 rfl (sbc_size _)) rfl ⟨by rw [Hg.out.1, Hg.out.2], by rw [hN]; exact below_grown hB9 hg10 (by omega) (by omega)⟩
    · have hp : putS b = (b.sec, 0) := by rw [putS, hok]; rfl
      have Hok := Lib.hid hok
      rw [hp] at hy9 ⊢
      simp only at hy9 ⊢
      clear hp hok
      by_cases hse : b.sec = x
      · have Hg := Lib.hid (get_some (Hyes.out Hok.out hse))
        have hd : decide (b.sec = x) = true := by simp [hse]
        have Hse := Lib.hid hse
        clear hse
        go_wp2_with (first
          | ((with_reducible refine at_loadG 24 ?_); refine load_secG rfl _ rfl G2 rfl hy9 ?_)
          | ((with_reducible refine at_loadG 24 ?_); refine load_secG rfl _ rfl N rfl hx9 ?_)
          | ((with_reducible refine at_neqG 24 ?_); refine neq_secG rfl _ _ _ rfl b.sec x rfl rfl ?_)
          | ((with_reducible refine at_load 29 ?_); refine load_sb rfl _ rfl G rfl hq9 ?_)
          | ((with_reducible refine at_store 29 ?_); refine store_sb rfl _ _ rfl N1 b rfl rfl hr9 rfl ?_))
        intro w10 hr10 hg10 hs10
        go_wp2_with fail
        exact bodyPost_ret (results_cell_tmp (fn := Try.f8) rfl _ _ N1 29 _ (0, 0) _ rfl (.int .i64 0) rfl hr10 Try.underlying29 rfl (sbc_size _)) rfl ⟨by rw [Hg.out.1, Hg.out.2], by rw [hN]; exact below_grown hB9 hg10 (by omega) (by omega)⟩
      · have Hg := Lib.hid (get_none (Hoth.out hse))
        have hd : decide (b.sec = x) = false := by simp [hse]
        clear hse
        go_wp2_with (first
          | ((with_reducible refine at_loadG 24 ?_); refine load_secG rfl _ rfl G2 rfl hy9 ?_)
          | ((with_reducible refine at_loadG 24 ?_); refine load_secG rfl _ rfl N rfl hx9 ?_)
          | ((with_reducible refine at_neqG 24 ?_); refine neq_secG rfl _ _ _ rfl b.sec x rfl rfl ?_)
          | ((with_reducible refine at_store 29 ?_); refine store_sb rfl _ _ rfl N1 sb0 rfl rfl hr9 rfl ?_))
        intro w10 hr10 hg10 hs10
        go_wp2_with fail
        exact bodyPost_ret (results_cell_tmp (fn := Try.f8) rfl _ _ N1 29 _ (0, 0) _ rfl (.int .i64 5) rfl hr10 Try.underlying29 rfl (sbc_size _)) rfl ⟨by rw [Hg.out.1, Hg.out.2], by rw [hN]; exact below_grown hB9 hg10 (by omega) (by omega)⟩
end Go.Proofs.Ytoiphbdmmiikaaa
