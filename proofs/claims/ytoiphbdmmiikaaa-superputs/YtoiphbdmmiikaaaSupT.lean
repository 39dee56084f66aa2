/-
  The walk of the law SuperPuts. (Written by wip/mk/mk8t.py.)
-/
import Derived.Test.YtoiphbdmmiikaaaSupI
import Derived.Test.YtoiphbdmmiikaaaSupW
namespace Go.Proofs.Ytoiphbdmmiikaaa
open Go.RowKit
set_option linter.unusedVariables false
set_option linter.unusedSimpArgs false

theorem eql_sec {w : World} {ops : Array Oper} {rest : List Oper} {o : Oper} {A : Act} {Q : Exit → Act → World → Prop} (hw : Region.wanted o (yielded ops A.tmps) = true) (x y : Operand) (u : TypeId) (ho : o.op = .binOp .eql 24 x y u) (s : Sec)
    (hx : A.eval x = .agg s.cs.toArray) (hy : A.eval y = .agg s.cs.toArray)
    (h : wpList Try.prog ops Q rest (A.put o.dst (.bool true)) w) : wpList Try.prog ops Q (o :: rest) A w := by
  refine wpList_wants hw fun K hK => ?_
  unfold Oper.wp
  rw [exec_eql_bytes 24 x y u ho Try.underlying24 Try.underlying5 Try.cells5s Try.guardSec hx hy s.2 s.2, beq_self_eq_true]
  exact hK _ _ h

set_option maxRecDepth 100000 in
set_option maxHeartbeats 8000000 in
theorem sputs_any (w : World) (s t c a m : Int) (x y : Sec) :
    Calls Try.prog 3 #[.agg (pc s t c a).toArray, .int .i64 m, .agg x.cs.toArray, .agg y.cs.toArray] w fun e w' => e = .returned (.bool true) ∧ Below w.heap.size w w' := by
  obtain ⟨ps, pcd, hp⟩ : ∃ p q, putS ⟨s, t, c, a, m⟩ = (p, q) := ⟨_, _, rfl⟩
  have Hp := Lib.hid hp
  obtain ⟨gv, hgv⟩ : ∃ v, getV x = v := ⟨_, rfl⟩
  have Hgv := Lib.hid hgv
  obtain ⟨gc, hgc⟩ : ∃ v, getC x = v := ⟨_, rfl⟩
  have Hgc := Lib.hid hgc
  obtain ⟨cv, ci, cc, hc⟩ : ∃ p q r, choT x y = (p, q, r) := ⟨_, _, _, rfl⟩
  have Hc := Lib.hid hc
  clear hp hgv hgc hc
  have heq := eq_plan
  go_enter Try.func3, Try.ntmps3
  generalize hN : w.heap.size = N at *
  go_wp2_with ((with_reducible refine at_box 23 ?_); refine wpList_box_rowV rfl 23 _ rfl (pc s t c a) rfl ?_)
  intro w1 rp_1 hb1 hs1
  have hB_1 : Below N w w1 := hb1
  have hz_1 : N < w1.heap.size := by omega
  clear hb1 hs1
  refine wpList_box_rowV rfl 24 _ rfl x.cs rfl ?_
  intro w2 rx_2 hb2 hs2
  have rp_2 := rp_1.below (by omega) hb2
  have hB_2 : Below N w w2 := hB_1.trans (hb2.mono (by omega))
  clear rp_1 hB_1 hb2
  generalize hgGx : w1.heap.size = Gx at *
  clear hgGx
  have hz_2 : Gx < w2.heap.size := by omega
  clear hs2
  refine wpList_box_rowV rfl 24 _ rfl y.cs rfl ?_
  intro w3 ry_3 hb3 hs3
  have rp_3 := rp_2.below (by omega) hb3
  have rx_3 := rx_2.below (by omega) hb3
  have hB_3 : Below N w w3 := hB_2.trans (hb3.mono (by omega))
  clear rp_2 rx_2 hB_2 hb3
  generalize hgGy : w2.heap.size = Gy at *
  clear hgGy
  have hz_3 : Gy < w3.heap.size := by omega
  clear hs3
  go_wp2_with (first
    | ((with_reducible refine at_load 23 ?_); refine load_plan rfl _ rfl N rfl rp_3 ?_)
    | ((with_reducible refine at_build 29 ?_); refine wpList_build_to rfl 29 _ rfl (sbc ⟨s, t, c, a, m⟩) (by rw [Array.toList_map]; exact Try.builtS _ _ _ _ _) ?_))
  refine (sput_any w3 ⟨s, t, c, a, m⟩).mono ?_
  rintro e w4 ⟨rfl, hb4⟩
  rw [Hp.out]
  have rp_4 := rp_3.below (by omega) hb4
  have rx_4 := rx_3.below (by omega) hb4
  have ry_4 := ry_3.below (by omega) hb4
  have hB_4 : Below N w w4 := hB_3.trans (hb4.mono (by omega))
  have hz_4 : Gy < w4.heap.size := by have := hb4.size; omega
  clear rp_3 rx_3 ry_3 hB_3 hz_3 hb4
  go_wp2_with ((with_reducible refine at_alloc 24 ?_); refine alloc_sec rfl rfl ?_)
  intro w5 ra_5 hb5 hs5
  have rp_5 := rp_4.below (by omega) hb5
  have rx_5 := rx_4.below (by omega) hb5
  have ry_5 := ry_4.below (by omega) hb5
  have hB_5 : Below N w w5 := hB_4.trans (hb5.mono (by omega))
  clear rp_4 rx_4 ry_4 hB_4 hb5
  generalize hgGa : w4.heap.size = Ga at *
  clear hgGa
  have hz_5 : Ga < w5.heap.size := by omega
  clear hs5
  go_wp2_with ((with_reducible refine at_store 24 ?_); refine store_sec rfl _ _ rfl Ga ps rfl rfl ra_5 (Sec.cs_length _) ?_)
  intro w6 ra_6 hg6 hs6
  have rp_6 := rp_5.keep hg6 (fun e => by injection e with e; omega)
  have rx_6 := rx_5.keep hg6 (fun e => by injection e with e; omega)
  have ry_6 := ry_5.keep hg6 (fun e => by injection e with e; omega)
  have hB_6 : Below N w w6 := below_grown hB_5 hg6 (by omega) (by omega)
  have hz_6 : Ga < w6.heap.size := by omega
  clear rp_5 rx_5 ry_5 hB_5 ra_5 hg6 hs6 hz_5
  go_wp2_with (first
    | ((with_reducible refine at_load 23 ?_); refine load_plan rfl _ rfl N rfl rp_6 ?_)
    | ((with_reducible refine at_build 31 ?_); refine wpList_build_to rfl 31 _ rfl (sbc ⟨s, t, c, a, m⟩) (by rw [Array.toList_map]; exact Try.builtR8 _ _ _ _ _) ?_))
  refine (rsput_any w6 ⟨s, t, c, a, m⟩).mono ?_
  rintro e w7 ⟨rfl, hb7⟩
  rw [Hp.out]
  have rp_7 := rp_6.below (by omega) hb7
  have rx_7 := rx_6.below (by omega) hb7
  have ry_7 := ry_6.below (by omega) hb7
  have ra_7 := ra_6.below (by omega) hb7
  have hB_7 : Below N w w7 := hB_6.trans (hb7.mono (by omega))
  have hz_7 : Ga < w7.heap.size := by have := hb7.size; omega
  clear rp_6 rx_6 ry_6 ra_6 hB_6 hz_6 hb7
  go_wp2_with ((with_reducible refine at_alloc 24 ?_); refine alloc_sec rfl rfl ?_)
  intro w8 rb_8 hb8 hs8
  have rp_8 := rp_7.below (by omega) hb8
  have rx_8 := rx_7.below (by omega) hb8
  have ry_8 := ry_7.below (by omega) hb8
  have ra_8 := ra_7.below (by omega) hb8
  have hB_8 : Below N w w8 := hB_7.trans (hb8.mono (by omega))
  clear rp_7 rx_7 ry_7 ra_7 hB_7 hb8
  generalize hgGb : w7.heap.size = Gb at *
  clear hgGb
  have hz_8 : Gb < w8.heap.size := by omega
  clear hs8
  go_wp2_with ((with_reducible refine at_store 24 ?_); refine store_sec rfl _ _ rfl Gb ps rfl rfl rb_8 (Sec.cs_length _) ?_)
  intro w9 rb_9 hg9 hs9
  have rp_9 := rp_8.keep hg9 (fun e => by injection e with e; omega)
  have rx_9 := rx_8.keep hg9 (fun e => by injection e with e; omega)
  have ry_9 := ry_8.keep hg9 (fun e => by injection e with e; omega)
  have ra_9 := ra_8.keep hg9 (fun e => by injection e with e; omega)
  have hB_9 : Below N w w9 := below_grown hB_8 hg9 (by omega) (by omega)
  have hz_9 : Gb < w9.heap.size := by omega
  clear rp_8 rx_8 ry_8 ra_8 hB_8 rb_8 hg9 hs9 hz_8
  go_wp2_with ((with_reducible refine at_load 24 ?_); refine load_sec rfl _ rfl Gx rfl rx_9 ?_)
  refine (sget_any w9 x).mono ?_
  rintro e w10 ⟨rfl, hb10⟩
  rw [Hgv.out, Hgc.out]
  have rp_10 := rp_9.below (by omega) hb10
  have rx_10 := rx_9.below (by omega) hb10
  have ry_10 := ry_9.below (by omega) hb10
  have ra_10 := ra_9.below (by omega) hb10
  have rb_10 := rb_9.below (by omega) hb10
  have hB_10 : Below N w w10 := hB_9.trans (hb10.mono (by omega))
  have hz_10 : Gb < w10.heap.size := by have := hb10.size; omega
  clear rp_9 rx_9 ry_9 ra_9 rb_9 hB_9 hz_9 hb10
  go_wp2_with ((with_reducible refine at_alloc 29 ?_); refine alloc_sb rfl rfl ?_)
  intro w11 rs_11 hb11 hs11
  have rp_11 := rp_10.below (by omega) hb11
  have rx_11 := rx_10.below (by omega) hb11
  have ry_11 := ry_10.below (by omega) hb11
  have ra_11 := ra_10.below (by omega) hb11
  have rb_11 := rb_10.below (by omega) hb11
  have hB_11 : Below N w w11 := hB_10.trans (hb11.mono (by omega))
  clear rp_10 rx_10 ry_10 ra_10 rb_10 hB_10 hb11
  generalize hgGs : w10.heap.size = Gs at *
  clear hgGs
  have hz_11 : Gs < w11.heap.size := by omega
  clear hs11
  go_wp2_with ((with_reducible refine at_store 29 ?_); refine store_sb rfl _ _ rfl Gs gv rfl rfl rs_11 rfl ?_)
  intro w12 rs_12 hg12 hs12
  have rp_12 := rp_11.keep hg12 (fun e => by injection e with e; omega)
  have rx_12 := rx_11.keep hg12 (fun e => by injection e with e; omega)
  have ry_12 := ry_11.keep hg12 (fun e => by injection e with e; omega)
  have ra_12 := ra_11.keep hg12 (fun e => by injection e with e; omega)
  have rb_12 := rb_11.keep hg12 (fun e => by injection e with e; omega)
  have hB_12 : Below N w w12 := below_grown hB_11 hg12 (by omega) (by omega)
  have hz_12 : Gs < w12.heap.size := by omega
  clear rp_11 rx_11 ry_11 ra_11 rb_11 hB_11 rs_11 hg12 hs12 hz_11
  go_wp2_with ((with_reducible refine at_load 24 ?_); refine load_sec rfl _ rfl Gx rfl rx_12 ?_)
  refine (rget8_any w12 x).mono ?_
  rintro e w13 ⟨rfl, hb13⟩
  rw [Hgv.out, Hgc.out]
  have rp_13 := rp_12.below (by omega) hb13
  have rx_13 := rx_12.below (by omega) hb13
  have ry_13 := ry_12.below (by omega) hb13
  have ra_13 := ra_12.below (by omega) hb13
  have rb_13 := rb_12.below (by omega) hb13
  have rs_13 := rs_12.below (by omega) hb13
  have hB_13 : Below N w w13 := hB_12.trans (hb13.mono (by omega))
  have hz_13 : Gs < w13.heap.size := by have := hb13.size; omega
  clear rp_12 rx_12 ry_12 ra_12 rb_12 rs_12 hB_12 hz_12 hb13
  go_wp2_with ((with_reducible refine at_alloc 31 ?_); refine alloc_sr rfl rfl ?_)
  intro w14 rt_14 hb14 hs14
  have rp_14 := rp_13.below (by omega) hb14
  have rx_14 := rx_13.below (by omega) hb14
  have ry_14 := ry_13.below (by omega) hb14
  have ra_14 := ra_13.below (by omega) hb14
  have rb_14 := rb_13.below (by omega) hb14
  have rs_14 := rs_13.below (by omega) hb14
  have hB_14 : Below N w w14 := hB_13.trans (hb14.mono (by omega))
  clear rp_13 rx_13 ry_13 ra_13 rb_13 rs_13 hB_13 hb14
  generalize hgGt : w13.heap.size = Gt at *
  clear hgGt
  have hz_14 : Gt < w14.heap.size := by omega
  clear hs14
  go_wp2_with ((with_reducible refine at_store 31 ?_); refine store_sr rfl _ _ rfl Gt gv rfl rfl rt_14 rfl ?_)
  intro w15 rt_15 hg15 hs15
  have rp_15 := rp_14.keep hg15 (fun e => by injection e with e; omega)
  have rx_15 := rx_14.keep hg15 (fun e => by injection e with e; omega)
  have ry_15 := ry_14.keep hg15 (fun e => by injection e with e; omega)
  have ra_15 := ra_14.keep hg15 (fun e => by injection e with e; omega)
  have rb_15 := rb_14.keep hg15 (fun e => by injection e with e; omega)
  have rs_15 := rs_14.keep hg15 (fun e => by injection e with e; omega)
  have hB_15 : Below N w w15 := below_grown hB_14 hg15 (by omega) (by omega)
  have hz_15 : Gt < w15.heap.size := by omega
  clear rp_14 rx_14 ry_14 ra_14 rb_14 rs_14 hB_14 rt_14 hg15 hs15 hz_14
  go_wp2_with (first
    | ((with_reducible refine at_load 24 ?_); refine load_sec rfl _ rfl Gx rfl rx_15 ?_)
    | ((with_reducible refine at_load 24 ?_); refine load_sec rfl _ rfl Gy rfl ry_15 ?_))
  refine (schoose_any w15 x y).mono ?_
  rintro e w16 ⟨rfl, hb16⟩
  rw [Hc.out]
  have rp_16 := rp_15.below (by omega) hb16
  have rx_16 := rx_15.below (by omega) hb16
  have ry_16 := ry_15.below (by omega) hb16
  have ra_16 := ra_15.below (by omega) hb16
  have rb_16 := rb_15.below (by omega) hb16
  have rs_16 := rs_15.below (by omega) hb16
  have rt_16 := rt_15.below (by omega) hb16
  have hB_16 : Below N w w16 := hB_15.trans (hb16.mono (by omega))
  have hz_16 : Gt < w16.heap.size := by have := hb16.size; omega
  clear rp_15 rx_15 ry_15 ra_15 rb_15 rs_15 rt_15 hB_15 hz_15 hb16
  go_wp2_with ((with_reducible refine at_alloc 29 ?_); refine alloc_sb rfl rfl ?_)
  intro w17 ru_17 hb17 hs17
  have rp_17 := rp_16.below (by omega) hb17
  have rx_17 := rx_16.below (by omega) hb17
  have ry_17 := ry_16.below (by omega) hb17
  have ra_17 := ra_16.below (by omega) hb17
  have rb_17 := rb_16.below (by omega) hb17
  have rs_17 := rs_16.below (by omega) hb17
  have rt_17 := rt_16.below (by omega) hb17
  have hB_17 : Below N w w17 := hB_16.trans (hb17.mono (by omega))
  clear rp_16 rx_16 ry_16 ra_16 rb_16 rs_16 rt_16 hB_16 hb17
  generalize hgGu : w16.heap.size = Gu at *
  clear hgGu
  have hz_17 : Gu < w17.heap.size := by omega
  clear hs17
  go_wp2_with ((with_reducible refine at_store 29 ?_); refine store_sb rfl _ _ rfl Gu cv rfl rfl ru_17 rfl ?_)
  intro w18 ru_18 hg18 hs18
  have rp_18 := rp_17.keep hg18 (fun e => by injection e with e; omega)
  have rx_18 := rx_17.keep hg18 (fun e => by injection e with e; omega)
  have ry_18 := ry_17.keep hg18 (fun e => by injection e with e; omega)
  have ra_18 := ra_17.keep hg18 (fun e => by injection e with e; omega)
  have rb_18 := rb_17.keep hg18 (fun e => by injection e with e; omega)
  have rs_18 := rs_17.keep hg18 (fun e => by injection e with e; omega)
  have rt_18 := rt_17.keep hg18 (fun e => by injection e with e; omega)
  have hB_18 : Below N w w18 := below_grown hB_17 hg18 (by omega) (by omega)
  have hz_18 : Gu < w18.heap.size := by omega
  clear rp_17 rx_17 ry_17 ra_17 rb_17 rs_17 rt_17 hB_17 ru_17 hg18 hs18 hz_17
  go_wp2_with (first
    | ((with_reducible refine at_load 24 ?_); refine load_sec rfl _ rfl Gx rfl rx_18 ?_)
    | ((with_reducible refine at_load 24 ?_); refine load_sec rfl _ rfl Gy rfl ry_18 ?_))
  refine (rchoose_any w18 x y).mono ?_
  rintro e w19 ⟨rfl, hb19⟩
  rw [Hc.out]
  have rp_19 := rp_18.below (by omega) hb19
  have rx_19 := rx_18.below (by omega) hb19
  have ry_19 := ry_18.below (by omega) hb19
  have ra_19 := ra_18.below (by omega) hb19
  have rb_19 := rb_18.below (by omega) hb19
  have rs_19 := rs_18.below (by omega) hb19
  have rt_19 := rt_18.below (by omega) hb19
  have ru_19 := ru_18.below (by omega) hb19
  have hB_19 : Below N w w19 := hB_18.trans (hb19.mono (by omega))
  have hz_19 : Gu < w19.heap.size := by have := hb19.size; omega
  clear rp_18 rx_18 ry_18 ra_18 rb_18 rs_18 rt_18 ru_18 hB_18 hz_18 hb19
  go_wp2_with ((with_reducible refine at_alloc 31 ?_); refine alloc_sr rfl rfl ?_)
  intro w20 rv_20 hb20 hs20
  have rp_20 := rp_19.below (by omega) hb20
  have rx_20 := rx_19.below (by omega) hb20
  have ry_20 := ry_19.below (by omega) hb20
  have ra_20 := ra_19.below (by omega) hb20
  have rb_20 := rb_19.below (by omega) hb20
  have rs_20 := rs_19.below (by omega) hb20
  have rt_20 := rt_19.below (by omega) hb20
  have ru_20 := ru_19.below (by omega) hb20
  have hB_20 : Below N w w20 := hB_19.trans (hb20.mono (by omega))
  clear rp_19 rx_19 ry_19 ra_19 rb_19 rs_19 rt_19 ru_19 hB_19 hb20
  generalize hgGv : w19.heap.size = Gv at *
  clear hgGv
  have hz_20 : Gv < w20.heap.size := by omega
  clear hs20
  go_wp2_with ((with_reducible refine at_store 31 ?_); refine store_sr rfl _ _ rfl Gv cv rfl rfl rv_20 rfl ?_)
  intro w21 rv_21 hg21 hs21
  have rp_21 := rp_20.keep hg21 (fun e => by injection e with e; omega)
  have rx_21 := rx_20.keep hg21 (fun e => by injection e with e; omega)
  have ry_21 := ry_20.keep hg21 (fun e => by injection e with e; omega)
  have ra_21 := ra_20.keep hg21 (fun e => by injection e with e; omega)
  have rb_21 := rb_20.keep hg21 (fun e => by injection e with e; omega)
  have rs_21 := rs_20.keep hg21 (fun e => by injection e with e; omega)
  have rt_21 := rt_20.keep hg21 (fun e => by injection e with e; omega)
  have ru_21 := ru_20.keep hg21 (fun e => by injection e with e; omega)
  have hB_21 : Below N w w21 := below_grown hB_20 hg21 (by omega) (by omega)
  have hz_21 : Gv < w21.heap.size := by omega
  clear rp_20 rx_20 ry_20 ra_20 rb_20 rs_20 rt_20 ru_20 hB_20 rv_20 hg21 hs21 hz_20
  obtain ⟨s1, t1, c1, a1, m1⟩ := gv
  obtain ⟨s2, t2, c2, a2, m2⟩ := cv
  have ds0 := rs_21.cell (i := 0) rfl
  have ds1 := rs_21.cell (i := 1) rfl
  have ds2 := rs_21.cell (i := 2) rfl
  have ds3 := rs_21.cell (i := 3) rfl
  have ds4 := rs_21.cell (i := 4) rfl
  have dt0 := rt_21.cell (i := 0) rfl
  have dt1 := rt_21.cell (i := 1) rfl
  have dt2 := rt_21.cell (i := 2) rfl
  have dt3 := rt_21.cell (i := 3) rfl
  have dt4 := rt_21.cell (i := 4) rfl
  have du0 := ru_21.cell (i := 0) rfl
  have du1 := ru_21.cell (i := 1) rfl
  have du2 := ru_21.cell (i := 2) rfl
  have du3 := ru_21.cell (i := 3) rfl
  have du4 := ru_21.cell (i := 4) rfl
  have dv0 := rv_21.cell (i := 0) rfl
  have dv1 := rv_21.cell (i := 1) rfl
  have dv2 := rv_21.cell (i := 2) rfl
  have dv3 := rv_21.cell (i := 3) rfl
  have dv4 := rv_21.cell (i := 4) rfl
  clear Hp Hgv Hgc Hc
  go_wp2_with (first
    | ((with_reducible refine at_load 24 ?_); refine load_sec rfl _ rfl Ga rfl ra_21 ?_)
    | ((with_reducible refine at_load 24 ?_); refine load_sec rfl _ rfl Gb rfl rb_21 ?_)
    | ((with_reducible refine at_eql 24 ?_); refine eql_sec rfl _ _ _ rfl ps rfl rfl ?_))
  refine (works08_any w21).mono ?_
  rintro e wz ⟨rfl, hbz⟩
  go_wp2_with fail
  go_ret
  exact ⟨rfl, hB_21.trans (hbz.mono (by omega))⟩
end Go.Proofs.Ytoiphbdmmiikaaa
