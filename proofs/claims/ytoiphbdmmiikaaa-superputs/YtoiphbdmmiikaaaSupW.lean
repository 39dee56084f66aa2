/-
  Layer 8: the contract of works.
-/
import Derived.Test.YtoiphbdmmiikaaaSupG
import Derived.Test.YtoiphbdmmiikaaaPlanE
namespace Go.Proofs.Ytoiphbdmmiikaaa
open Go.RowKit
set_option linter.unusedVariables false
set_option linter.unusedSimpArgs false

def bq (m : Int) : Sb := ⟨3, 2, 1, 4, m⟩
theorem bq6_ok : (bq 6).ok = true := by decide
theorem bq7_ok : (bq 7).ok = true := by decide
theorem get_zero : getS zeroSec = none := get_mark (by decide +kernel)
/-- The disks that works makes. -/
def q1 (x : Sec) : Dk := ⟨List.replicate 5 zeroSec, [(1, x)], 1, none, false⟩
def q2 (x y : Sec) : Dk := ⟨[y, x, zeroSec, zeroSec, zeroSec], [], 3, none, false⟩
theorem q1_eq (x : Sec) : (Dk.new 5).write 1 x = (q1 x, 0) := rfl
theorem q0_read0 : (Dk.new 5).read 0 = (zeroSec, 0) := rfl
theorem q0_read1 : (Dk.new 5).read 1 = (zeroSec, 0) := rfl
theorem q1_read0 (x : Sec) : (q1 x).read 0 = (zeroSec, 0) := rfl
theorem q1_read1 (x : Sec) : (q1 x).read 1 = (x, 0) := rfl
theorem q2_eq (x : Sec) (b : Sb) : (q1 x).bumped b 1 = (q2 x b.next.sec, true) := rfl
theorem q2_read0 (x y : Sec) : (q2 x y).read 0 = (y, 0) := rfl
theorem q2_read1 (x y : Sec) : (q2 x y).read 1 = (x, 0) := rfl
theorem q0_ok : (Dk.new 5).Ok := new_ok (by omega) (by omega)
theorem q1_ok (x : Sec) : (q1 x).Ok := by
  have := (write_ok (x := 1) (s := x) (k := 0) q0_ok (Nat.le_refl _) (Nat.le_refl _) (by omega)).1
  rwa [q1_eq] at this
theorem q2_ok (x y : Sec) : (q2 x y).Ok := ⟨(by intro c hc; cases hc), by simp [q2], by simp [q2], by simp [q2], by simp [q2], (by intro n hn; simp [q2] at hn)⟩
theorem cho_zz : chooseS zeroSec zeroSec = none := by unfold chooseS; rw [get_zero]
theorem cho_zx {x : Sec} {b : Sb} (h : getS x = some b) : chooseS zeroSec x = some (b, 1) := by unfold chooseS; rw [get_zero, h]
theorem Try.builtPl : Try.prog.built 23 [(0, .int .i64 3), (1, .int .i64 2), (2, .int .i64 1), (3, .int .i64 4)] = some (pc 3 2 1 4).toArray := by kernel_rfl
/-- What a call makes of a disk that lies from base on leaves alone what lies below. -/
theorem Turned.low {w w' : World} {base g : Nat} {L : List Nat} {d d' : Dk} (h : Disk w base L g d) (hB : base ≤ w.heap.size) (ht : Turned w base L g d' w') : (∃ L', Disk w' base L' g d') ∧ Below base w w' := by
  obtain ⟨L', h1, h2, _⟩ := ht
  exact ⟨⟨L', h1⟩, (h2.less hB).below (fun k hk => (h.lt hk).1)⟩

set_option maxRecDepth 100000 in
set_option maxHeartbeats 8000000 in
theorem works08_any (w : World) : Calls Try.prog 12 #[] w fun e w' => e = .returned (.bool true) ∧ Below w.heap.size w w' := by
  obtain ⟨x6, hx6⟩ : ∃ s, (bq 6).sec = s := ⟨_, rfl⟩
  obtain ⟨x7, hx7⟩ : ∃ s, (bq 7).sec = s := ⟨_, rfl⟩
  have Hp6 : Hid (putS (bq 6) = (x6, 0)) := by show _ = _; rw [putS, bq6_ok, ← hx6]; rfl
  have Hp7 : Hid (putS (bq 7) = (x7, 0)) := by show _ = _; rw [putS, bq7_ok, ← hx7]; rfl
  have Hs6 : Hid (getS x6 = some (bq 6)) := by show _ = _; rw [← hx6]; exact getS_sec bq6_ok
  have Hs7 : Hid (getS x7 = some (bq 7)) := by show _ = _; rw [← hx7]; exact getS_sec bq7_ok
  have Hg6 := Lib.hid (get_some Hs6.out)
  have Hg0 := Lib.hid (get_none get_zero)
  have Hc1 : Hid (choT x6 x7 = (bq 7, 1, 0)) := cho_ss2 Hs6.out Hs7.out (by decide)
  have Hc2 : Hid (choT x7 x6 = (bq 7, 0, 0)) := cho_ss1 Hs7.out Hs6.out (by decide)
  have Hq2 : Hid ((q1 x6).bumped (bq 6) 1 = (q2 x6 x7, true)) := by show _ = _; rw [← hx7]; exact q2_eq x6 (bq 6)
  have Hv : Hid (bumpV ((q1 x6).bumped (bq 6) 1) (bq 6) = bq 7 ∧ bumpC ((q1 x6).bumped (bq 6) 1) = 0) := by show _ ∧ _; rw [Hq2.out]; exact ⟨rfl, rfl⟩
  clear hx6 hx7
  have hzs := zeroSv
  have hz := zeroBv
  have heq := eq_plan
  go_enter Try.func12, Try.ntmps12
  generalize hN : w.heap.size = N at *
  have hB_0 : Below N w w := Below.refl _ _
  go_wp2_with (first
    | ((with_reducible refine at_build 23 ?_); refine wpList_build_to rfl 23 _ rfl (pc 3 2 1 4) (by rw [Array.toList_map]; exact Try.builtPl) ?_)
    | ((with_reducible refine at_alloc 23 ?_); refine wpList_alloc_rowV rfl 23 rfl (pc 0 0 0 0) Try.zeroP ?_))
  intro w1 rp_1 hb1 hs1
  have hB_1 : Below N w w1 := by rw [← hN] at hb1 ⊢; exact hb1
  have rp_1 : RowV w1 N 23 (pc 0 0 0 0) := by rw [← hN] at rp_1 ⊢; exact rp_1
  have hz_1 : N < w1.heap.size := by omega
  clear hb1 hs1 hB_0
  go_wp2_with ((with_reducible refine at_store 23 ?_); refine wpList_store_rowV rfl 23 _ _ rfl N (pc 3 2 1 4) rfl rfl 23 (pc 0 0 0 0) rp_1 (pc_size 3 2 1 4) rfl (pc_all 3 2 1 4) ?_)
  intro w2 rp_2 hg2 hs2
  have hB_2 : Below N w w2 := below_grown hB_1 hg2 (by omega) (by omega)
  have hz_2 : N < w2.heap.size := by omega
  clear rp_1 hB_1
  clear hg2 hs2 hz_1
  go_wp2_with (first
    | ((with_reducible refine at_load 23 ?_); refine load_plan rfl _ rfl N rfl rp_2 ?_)
    | ((with_reducible refine at_build 29 ?_); refine wpList_build_to rfl 29 _ rfl (sbc (bq 6)) (by rw [Array.toList_map]; exact Try.builtS 3 2 1 4 6) ?_))
  refine (sput_any w2 (bq 6)).mono ?_
  rintro e w3 ⟨rfl, hb3⟩
  rw [Hp6.out]
  have rp_3 := rp_2.below (by omega) hb3
  have hB_3 : Below N w w3 := hB_2.trans (hb3.mono (by omega))
  have hz_3 : N < w3.heap.size := by have := hb3.size; omega
  clear rp_2 hB_2
  clear hz_2
  go_wp2_with ((with_reducible refine at_alloc 24 ?_); refine alloc_sec rfl rfl ?_)
  intro w4 rx_4 hb4 hs4
  have rp_4 := rp_3.below (by omega) hb4
  have hB_4 : Below N w w4 := hB_3.trans (hb4.mono (by omega))
  clear rp_3 hB_3
  clear hb4
  generalize hgGx : w3.heap.size = Gx at *
  clear hgGx
  have hz_4 : Gx < w4.heap.size := by omega
  clear hs4
  go_wp2_with ((with_reducible refine at_store 24 ?_); refine store_sec rfl _ _ rfl Gx x6 rfl rfl rx_4 (Sec.cs_length _) ?_)
  intro w5 rx_5 hg5 hs5
  have rp_5 := rp_4.keep hg5 (fun e => by injection e with e; omega)
  have hB_5 : Below N w w5 := below_grown hB_4 hg5 (by omega) (by omega)
  have hz_5 : Gx < w5.heap.size := by omega
  clear rp_4 rx_4 hB_4
  clear hg5 hs5 hz_4
  go_wp2_with ((with_reducible refine at_load 24 ?_); refine load_sec rfl _ rfl Gx rfl rx_5 ?_)
  refine (sget_any w5 x6).mono ?_
  rintro e w6 ⟨rfl, hb6⟩
  rw [Hg6.out.1, Hg6.out.2]
  have rp_6 := rp_5.below (by omega) hb6
  have rx_6 := rx_5.below (by omega) hb6
  have hB_6 : Below N w w6 := hB_5.trans (hb6.mono (by omega))
  have hz_6 : Gx < w6.heap.size := by have := hb6.size; omega
  clear rp_5 rx_5 hB_5
  clear hz_5
  go_wp2_with ((with_reducible refine at_alloc 29 ?_); refine alloc_sb rfl rfl ?_)
  intro w7 rs_7 hb7 hs7
  have rp_7 := rp_6.below (by omega) hb7
  have rx_7 := rx_6.below (by omega) hb7
  have hB_7 : Below N w w7 := hB_6.trans (hb7.mono (by omega))
  clear rp_6 rx_6 hB_6
  clear hb7
  generalize hgGs : w6.heap.size = Gs at *
  clear hgGs
  have hz_7 : Gs < w7.heap.size := by omega
  clear hs7
  go_wp2_with ((with_reducible refine at_store 29 ?_); refine store_sb rfl _ _ rfl Gs (bq 6) rfl rfl rs_7 rfl ?_)
  intro w8 rs_8 hg8 hs8
  have rp_8 := rp_7.keep hg8 (fun e => by injection e with e; omega)
  have rx_8 := rx_7.keep hg8 (fun e => by injection e with e; omega)
  have hB_8 : Below N w w8 := below_grown hB_7 hg8 (by omega) (by omega)
  have hz_8 : Gs < w8.heap.size := by omega
  clear rp_7 rx_7 rs_7 hB_7
  clear hg8 hs8 hz_7
  go_wp2_with fail
  refine (sget_any w8 zeroSec).mono ?_
  rintro e w9 ⟨rfl, hb9⟩
  rw [Hg0.out.1, Hg0.out.2]
  have rp_9 := rp_8.below (by omega) hb9
  have rx_9 := rx_8.below (by omega) hb9
  have rs_9 := rs_8.below (by omega) hb9
  have hB_9 : Below N w w9 := hB_8.trans (hb9.mono (by omega))
  have hz_9 : Gs < w9.heap.size := by have := hb9.size; omega
  clear rp_8 rx_8 rs_8 hB_8
  clear hz_8
  go_wp2_with ((with_reducible refine at_alloc 29 ?_); refine alloc_sb rfl rfl ?_)
  intro w10 rz_10 hb10 hs10
  have rp_10 := rp_9.below (by omega) hb10
  have rx_10 := rx_9.below (by omega) hb10
  have rs_10 := rs_9.below (by omega) hb10
  have hB_10 : Below N w w10 := hB_9.trans (hb10.mono (by omega))
  clear rp_9 rx_9 rs_9 hB_9
  clear hb10
  generalize hgGz : w9.heap.size = Gz at *
  clear hgGz
  have hz_10 : Gz < w10.heap.size := by omega
  clear hs10
  go_wp2_with ((with_reducible refine at_store 29 ?_); refine store_sb rfl _ _ rfl Gz sb0 rfl rfl rz_10 rfl ?_)
  intro w11 rz_11 hg11 hs11
  have rp_11 := rp_10.keep hg11 (fun e => by injection e with e; omega)
  have rx_11 := rx_10.keep hg11 (fun e => by injection e with e; omega)
  have rs_11 := rs_10.keep hg11 (fun e => by injection e with e; omega)
  have hB_11 : Below N w w11 := below_grown hB_10 hg11 (by omega) (by omega)
  have hz_11 : Gz < w11.heap.size := by omega
  clear rp_10 rx_10 rs_10 rz_10 hB_10
  clear hg11 hs11 hz_10
  clear rz_11
  go_wp2_with (first
    | ((with_reducible refine at_load 23 ?_); refine load_plan rfl _ rfl N rfl rp_11 ?_)
    | ((with_reducible refine at_build 29 ?_); refine wpList_build_to rfl 29 _ rfl (sbc (bq 7)) (by rw [Array.toList_map]; exact Try.builtS 3 2 1 4 7) ?_))
  refine (sput_any w11 (bq 7)).mono ?_
  rintro e w12 ⟨rfl, hb12⟩
  rw [Hp7.out]
  have rp_12 := rp_11.below (by omega) hb12
  have rx_12 := rx_11.below (by omega) hb12
  have rs_12 := rs_11.below (by omega) hb12
  have hB_12 : Below N w w12 := hB_11.trans (hb12.mono (by omega))
  have hz_12 : Gz < w12.heap.size := by have := hb12.size; omega
  clear rp_11 rx_11 rs_11 hB_11
  clear hz_11
  go_wp2_with ((with_reducible refine at_alloc 24 ?_); refine alloc_sec rfl rfl ?_)
  intro w13 ry_13 hb13 hs13
  have rp_13 := rp_12.below (by omega) hb13
  have rx_13 := rx_12.below (by omega) hb13
  have rs_13 := rs_12.below (by omega) hb13
  have hB_13 : Below N w w13 := hB_12.trans (hb13.mono (by omega))
  clear rp_12 rx_12 rs_12 hB_12
  clear hb13
  generalize hgGy : w12.heap.size = Gy at *
  clear hgGy
  have hz_13 : Gy < w13.heap.size := by omega
  clear hs13
  go_wp2_with ((with_reducible refine at_store 24 ?_); refine store_sec rfl _ _ rfl Gy x7 rfl rfl ry_13 (Sec.cs_length _) ?_)
  intro w14 ry_14 hg14 hs14
  have rp_14 := rp_13.keep hg14 (fun e => by injection e with e; omega)
  have rx_14 := rx_13.keep hg14 (fun e => by injection e with e; omega)
  have rs_14 := rs_13.keep hg14 (fun e => by injection e with e; omega)
  have hB_14 : Below N w w14 := below_grown hB_13 hg14 (by omega) (by omega)
  have hz_14 : Gy < w14.heap.size := by omega
  clear rp_13 rx_13 rs_13 ry_13 hB_13
  clear hg14 hs14 hz_13
  go_wp2_with (first
    | ((with_reducible refine at_load 24 ?_); refine load_sec rfl _ rfl Gx rfl rx_14 ?_)
    | ((with_reducible refine at_load 24 ?_); refine load_sec rfl _ rfl Gy rfl ry_14 ?_))
  refine (schoose_any w14 x6 x7).mono ?_
  rintro e w15 ⟨rfl, hb15⟩
  rw [Hc1.out]
  have rp_15 := rp_14.below (by omega) hb15
  have rx_15 := rx_14.below (by omega) hb15
  have rs_15 := rs_14.below (by omega) hb15
  have ry_15 := ry_14.below (by omega) hb15
  have hB_15 : Below N w w15 := hB_14.trans (hb15.mono (by omega))
  have hz_15 : Gy < w15.heap.size := by have := hb15.size; omega
  clear rp_14 rx_14 rs_14 ry_14 hB_14
  clear hz_14
  clear ry_15
  go_wp2_with ((with_reducible refine at_alloc 29 ?_); refine alloc_sb rfl rfl ?_)
  intro w16 rt_16 hb16 hs16
  have rp_16 := rp_15.below (by omega) hb16
  have rx_16 := rx_15.below (by omega) hb16
  have rs_16 := rs_15.below (by omega) hb16
  have hB_16 : Below N w w16 := hB_15.trans (hb16.mono (by omega))
  clear rp_15 rx_15 rs_15 hB_15
  clear hb16
  generalize hgGt : w15.heap.size = Gt at *
  clear hgGt
  have hz_16 : Gt < w16.heap.size := by omega
  clear hs16
  go_wp2_with ((with_reducible refine at_store 29 ?_); refine store_sb rfl _ _ rfl Gt (bq 7) rfl rfl rt_16 rfl ?_)
  intro w17 rt_17 hg17 hs17
  have rp_17 := rp_16.keep hg17 (fun e => by injection e with e; omega)
  have rx_17 := rx_16.keep hg17 (fun e => by injection e with e; omega)
  have rs_17 := rs_16.keep hg17 (fun e => by injection e with e; omega)
  have hB_17 : Below N w w17 := below_grown hB_16 hg17 (by omega) (by omega)
  have hz_17 : Gt < w17.heap.size := by omega
  clear rp_16 rx_16 rs_16 rt_16 hB_16
  clear hg17 hs17 hz_16
  go_wp2_with fail
  have hzb : Gt < w17.heap.size := hz_17
  refine (dnew_any w17 5 (by omega) (by omega)).mono ?_
  rintro e w18 ⟨g, L, rfl, hD0, hb18⟩
  have rp_18 := rp_17.below (by omega) hb18
  have rx_18 := rx_17.below (by omega) hb18
  have rs_18 := rs_17.below (by omega) hb18
  have rt_18 := rt_17.below (by omega) hb18
  have hB_18 : Below N w w18 := hB_17.trans (hb18.mono (by omega))
  have hz_18 : Gt < w18.heap.size := by have := hb18.size; omega
  clear rp_17 rx_17 rs_17 rt_17 hB_17
  clear hz_17
  have HD_18 := Lib.hid hD0
  clear hD0
  generalize hbase : w17.heap.size = base at *
  have hbs_18 : base ≤ w18.heap.size := by have := hb18.size; omega
  clear hb18 hbase
  go_wp2_with fail
  refine (sbump_nil w18).mono ?_
  rintro e w19 ⟨rfl, hb19⟩
  have rp_19 := rp_18.below (by omega) hb19
  have rx_19 := rx_18.below (by omega) hb19
  have rs_19 := rs_18.below (by omega) hb19
  have rt_19 := rt_18.below (by omega) hb19
  have hB_19 : Below N w w19 := hB_18.trans (hb19.mono (by omega))
  have HD_19 := Lib.hid (HD_18.out.below hb19)
  clear HD_18
  have hbs_19 : base ≤ w19.heap.size := by have := hb19.size; omega
  have hz_19 : Gt < w19.heap.size := by have := hb19.size; omega
  clear rp_18 rx_18 rs_18 rt_18 hB_18
  clear hz_18
  go_wp2_with ((with_reducible refine at_alloc 29 ?_); refine alloc_sb rfl rfl ?_)
  intro w20 ra_20 hb20 hs20
  have rp_20 := rp_19.below (by omega) hb20
  have rx_20 := rx_19.below (by omega) hb20
  have rs_20 := rs_19.below (by omega) hb20
  have rt_20 := rt_19.below (by omega) hb20
  have hB_20 : Below N w w20 := hB_19.trans (hb20.mono (by omega))
  clear rp_19 rx_19 rs_19 rt_19 hB_19
  have hL_Ga : Hid (∀ k ∈ L, k < w19.heap.size) := fun k hk => (HD_19.out.lt hk).2
  have HD_20 := Lib.hid (HD_19.out.below hb20)
  clear HD_19
  clear hb20
  generalize hgGa : w19.heap.size = Ga at *
  clear hgGa
  have hz_20 : Ga < w20.heap.size := by omega
  clear hs20
  go_wp2_with ((with_reducible refine at_store 29 ?_); refine store_sb rfl _ _ rfl Ga sb0 rfl rfl ra_20 rfl ?_)
  intro w21 ra_21 hg21 hs21
  have rp_21 := rp_20.keep hg21 (fun e => by injection e with e; omega)
  have rx_21 := rx_20.keep hg21 (fun e => by injection e with e; omega)
  have rs_21 := rs_20.keep hg21 (fun e => by injection e with e; omega)
  have rt_21 := rt_20.keep hg21 (fun e => by injection e with e; omega)
  have hB_21 : Below N w w21 := below_grown hB_20 hg21 (by omega) (by omega)
  have HD_21 := Lib.hid (HD_20.out.but ((But.refl [Ga] w20.heap.size w20).grown hg21 (fun k e => by injection e with e; simp [e]) (Nat.le_refl _)) (fun k hk => ⟨(HD_20.out.lt hk).2, by have := hL_Ga.out k hk; simp only [List.mem_singleton]; omega⟩))
  clear HD_20 hL_Ga
  have hz_21 : Ga < w21.heap.size := by omega
  clear rp_20 rx_20 rs_20 rt_20 ra_20 hB_20
  clear hg21 hs21 hz_20
  clear ra_21
  go_wp2_with fail
  refine (sbump_bad w21 base g L (Dk.new 5) zeroSec zeroSec q0_ok HD_21.out q0_read0 q0_read1 cho_zz).mono ?_
  rintro e w22 ⟨rfl, hb22⟩
  have rp_22 := rp_21.below (by omega) hb22
  have rx_22 := rx_21.below (by omega) hb22
  have rs_22 := rs_21.below (by omega) hb22
  have rt_22 := rt_21.below (by omega) hb22
  have hB_22 : Below N w w22 := hB_21.trans (hb22.mono (by omega))
  have HD_22 := Lib.hid (HD_21.out.below hb22)
  clear HD_21
  have hbs_22 : base ≤ w22.heap.size := by have := hb22.size; omega
  have hz_22 : Ga < w22.heap.size := by have := hb22.size; omega
  clear rp_21 rx_21 rs_21 rt_21 hB_21
  clear hz_21
  go_wp2_with ((with_reducible refine at_alloc 29 ?_); refine alloc_sb rfl rfl ?_)
  intro w23 rb_23 hb23 hs23
  have rp_23 := rp_22.below (by omega) hb23
  have rx_23 := rx_22.below (by omega) hb23
  have rs_23 := rs_22.below (by omega) hb23
  have rt_23 := rt_22.below (by omega) hb23
  have hB_23 : Below N w w23 := hB_22.trans (hb23.mono (by omega))
  clear rp_22 rx_22 rs_22 rt_22 hB_22
  have hL_Gb : Hid (∀ k ∈ L, k < w22.heap.size) := fun k hk => (HD_22.out.lt hk).2
  have HD_23 := Lib.hid (HD_22.out.below hb23)
  clear HD_22
  clear hb23
  generalize hgGb : w22.heap.size = Gb at *
  clear hgGb
  have hz_23 : Gb < w23.heap.size := by omega
  clear hs23
  go_wp2_with ((with_reducible refine at_store 29 ?_); refine store_sb rfl _ _ rfl Gb sb0 rfl rfl rb_23 rfl ?_)
  intro w24 rb_24 hg24 hs24
  have rp_24 := rp_23.keep hg24 (fun e => by injection e with e; omega)
  have rx_24 := rx_23.keep hg24 (fun e => by injection e with e; omega)
  have rs_24 := rs_23.keep hg24 (fun e => by injection e with e; omega)
  have rt_24 := rt_23.keep hg24 (fun e => by injection e with e; omega)
  have hB_24 : Below N w w24 := below_grown hB_23 hg24 (by omega) (by omega)
  have HD_24 := Lib.hid (HD_23.out.but ((But.refl [Gb] w23.heap.size w23).grown hg24 (fun k e => by injection e with e; simp [e]) (Nat.le_refl _)) (fun k hk => ⟨(HD_23.out.lt hk).2, by have := hL_Gb.out k hk; simp only [List.mem_singleton]; omega⟩))
  clear HD_23 hL_Gb
  have hz_24 : Gb < w24.heap.size := by omega
  clear rp_23 rx_23 rs_23 rt_23 rb_23 hB_23
  clear hg24 hs24 hz_23
  clear rb_24
  go_wp2_with ((with_reducible refine at_load 24 ?_); refine load_sec rfl _ rfl Gx rfl rx_24 ?_)
  have hbw : base ≤ w24.heap.size := by omega
  refine (dwrite_any w24 base g L (Dk.new 5) 1 x6 q0_ok (by decide) HD_24.out hbw).mono ?_
  rintro e w25 ⟨rfl, ht⟩
  obtain ⟨⟨L1, hD1⟩, hb25⟩ := Turned.low HD_24.out hbw ht
  have HD_25 : Hid (Disk w25 base L1 g (q1 x6)) := by rw [q1_eq] at hD1; exact hD1
  clear ht hD1 hbw HD_24
  have rp_25 := rp_24.below (by omega) hb25
  have rx_25 := rx_24.below (by omega) hb25
  have rs_25 := rs_24.below (by omega) hb25
  have rt_25 := rt_24.below (by omega) hb25
  have hB_25 : Below N w w25 := hB_24.trans (hb25.mono (by omega))
  have hbs_25 : base ≤ w25.heap.size := by have := hb25.size; omega
  have hz_25 : Gb < w25.heap.size := by have := hb25.size; omega
  clear rp_24 rx_24 rs_24 rt_24 hB_24
  clear hz_24
  go_wp2_with fail
  have hbw : base ≤ w25.heap.size := by omega
  refine (sbump_yes w25 base g L1 (q1 x6) zeroSec x6 (bq 6) 1 (q1_ok x6) (show (1 : Nat) < 900000 by omega) (show (1 : Nat) < 900000 by omega) HD_25.out hbw (q1_read0 x6) (q1_read1 x6) (cho_zx Hs6.out) bq7_ok).mono ?_
  rintro e w26 ⟨rfl, ht⟩
  rw [Hv.out.1, Hv.out.2]
  obtain ⟨⟨L2, hD2⟩, hb26⟩ := Turned.low HD_25.out hbw ht
  have HD_26 : Hid (Disk w26 base L2 g (q2 x6 x7)) := by rw [Hq2.out] at hD2; exact hD2
  clear ht hD2 hbw HD_25
  have rp_26 := rp_25.below (by omega) hb26
  have rx_26 := rx_25.below (by omega) hb26
  have rs_26 := rs_25.below (by omega) hb26
  have rt_26 := rt_25.below (by omega) hb26
  have hB_26 : Below N w w26 := hB_25.trans (hb26.mono (by omega))
  have hbs_26 : base ≤ w26.heap.size := by have := hb26.size; omega
  have hz_26 : Gb < w26.heap.size := by have := hb26.size; omega
  clear rp_25 rx_25 rs_25 rt_25 hB_25
  clear hz_25
  go_wp2_with ((with_reducible refine at_alloc 29 ?_); refine alloc_sb rfl rfl ?_)
  intro w27 ru_27 hb27 hs27
  have rp_27 := rp_26.below (by omega) hb27
  have rx_27 := rx_26.below (by omega) hb27
  have rs_27 := rs_26.below (by omega) hb27
  have rt_27 := rt_26.below (by omega) hb27
  have hB_27 : Below N w w27 := hB_26.trans (hb27.mono (by omega))
  clear rp_26 rx_26 rs_26 rt_26 hB_26
  have hL_Gu : Hid (∀ k ∈ L2, k < w26.heap.size) := fun k hk => (HD_26.out.lt hk).2
  have HD_27 := Lib.hid (HD_26.out.below hb27)
  clear HD_26
  clear hb27
  generalize hgGu : w26.heap.size = Gu at *
  clear hgGu
  have hz_27 : Gu < w27.heap.size := by omega
  clear hs27
  go_wp2_with ((with_reducible refine at_store 29 ?_); refine store_sb rfl _ _ rfl Gu (bq 7) rfl rfl ru_27 rfl ?_)
  intro w28 ru_28 hg28 hs28
  have rp_28 := rp_27.keep hg28 (fun e => by injection e with e; omega)
  have rx_28 := rx_27.keep hg28 (fun e => by injection e with e; omega)
  have rs_28 := rs_27.keep hg28 (fun e => by injection e with e; omega)
  have rt_28 := rt_27.keep hg28 (fun e => by injection e with e; omega)
  have hB_28 : Below N w w28 := below_grown hB_27 hg28 (by omega) (by omega)
  have HD_28 := Lib.hid (HD_27.out.but ((But.refl [Gu] w27.heap.size w27).grown hg28 (fun k e => by injection e with e; simp [e]) (Nat.le_refl _)) (fun k hk => ⟨(HD_27.out.lt hk).2, by have := hL_Gu.out k hk; simp only [List.mem_singleton]; omega⟩))
  clear HD_27 hL_Gu
  have hz_28 : Gu < w28.heap.size := by omega
  clear rp_27 rx_27 rs_27 rt_27 ru_27 hB_27
  clear hg28 hs28 hz_27
  go_wp2_with fail
  refine (sread_any w28 base g L2 (q2 x6 x7) x7 x6 (q2_ok x6 x7) HD_28.out (q2_read0 x6 x7) (q2_read1 x6 x7)).mono ?_
  rintro e w29 ⟨rfl, hb29⟩
  rw [Hc2.out]
  have rp_29 := rp_28.below (by omega) hb29
  have rx_29 := rx_28.below (by omega) hb29
  have rs_29 := rs_28.below (by omega) hb29
  have rt_29 := rt_28.below (by omega) hb29
  have ru_29 := ru_28.below (by omega) hb29
  have hB_29 : Below N w w29 := hB_28.trans (hb29.mono (by omega))
  have HD_29 := Lib.hid (HD_28.out.below hb29)
  clear HD_28
  have hbs_29 : base ≤ w29.heap.size := by have := hb29.size; omega
  have hz_29 : Gu < w29.heap.size := by have := hb29.size; omega
  clear rp_28 rx_28 rs_28 rt_28 ru_28 hB_28
  clear hz_28
  go_wp2_with ((with_reducible refine at_alloc 29 ?_); refine alloc_sb rfl rfl ?_)
  intro w30 rv_30 hb30 hs30
  have rp_30 := rp_29.below (by omega) hb30
  have rx_30 := rx_29.below (by omega) hb30
  have rs_30 := rs_29.below (by omega) hb30
  have rt_30 := rt_29.below (by omega) hb30
  have ru_30 := ru_29.below (by omega) hb30
  have hB_30 : Below N w w30 := hB_29.trans (hb30.mono (by omega))
  clear rp_29 rx_29 rs_29 rt_29 ru_29 hB_29
  have hL_Gv : Hid (∀ k ∈ L2, k < w29.heap.size) := fun k hk => (HD_29.out.lt hk).2
  have HD_30 := Lib.hid (HD_29.out.below hb30)
  clear HD_29
  clear hb30
  generalize hgGv : w29.heap.size = Gv at *
  clear hgGv
  have hz_30 : Gv < w30.heap.size := by omega
  clear hs30
  go_wp2_with ((with_reducible refine at_store 29 ?_); refine store_sb rfl _ _ rfl Gv (bq 7) rfl rfl rv_30 rfl ?_)
  intro w31 rv_31 hg31 hs31
  have rp_31 := rp_30.keep hg31 (fun e => by injection e with e; omega)
  have rx_31 := rx_30.keep hg31 (fun e => by injection e with e; omega)
  have rs_31 := rs_30.keep hg31 (fun e => by injection e with e; omega)
  have rt_31 := rt_30.keep hg31 (fun e => by injection e with e; omega)
  have ru_31 := ru_30.keep hg31 (fun e => by injection e with e; omega)
  have hB_31 : Below N w w31 := below_grown hB_30 hg31 (by omega) (by omega)
  have HD_31 := Lib.hid (HD_30.out.but ((But.refl [Gv] w30.heap.size w30).grown hg31 (fun k e => by injection e with e; simp [e]) (Nat.le_refl _)) (fun k hk => ⟨(HD_30.out.lt hk).2, by have := hL_Gv.out k hk; simp only [List.mem_singleton]; omega⟩))
  clear HD_30 hL_Gv
  have hz_31 : Gv < w31.heap.size := by omega
  clear rp_30 rx_30 rs_30 rt_30 ru_30 rv_30 hB_30
  clear hg31 hs31 hz_30
  have cs0 := rs_31.cell (i := 0) rfl
  have cs1 := rs_31.cell (i := 1) rfl
  have cs2 := rs_31.cell (i := 2) rfl
  have cs3 := rs_31.cell (i := 3) rfl
  have cs4 := rs_31.cell (i := 4) rfl
  have cp0 := rp_31.cell (i := 0) rfl
  have cp1 := rp_31.cell (i := 1) rfl
  have cp2 := rp_31.cell (i := 2) rfl
  have cp3 := rp_31.cell (i := 3) rfl
  have ct := rt_31.cell (i := 4) rfl
  have cu := ru_31.cell (i := 4) rfl
  have cv := rv_31.cell (i := 4) rfl
  obtain ⟨vd, vw, bm, hDA, _⟩ := HD_31.out
  have HDA := Lib.hid hDA
  clear hDA
  go_wp2_with fail
  refine (dwaits_any _ base g bm vd vw (q2 x6 x7) HDA.out).mono ?_
  rintro e wz ⟨rfl, ez⟩
  rw [ez]
  clear ez
  have hl0 : ((q2 x6 x7).wait.length : Int) = 0 := rfl
  go_wp2_with fail
  go_ret
  exact ⟨rfl, hB_31⟩
end Go.Proofs.Ytoiphbdmmiikaaa
