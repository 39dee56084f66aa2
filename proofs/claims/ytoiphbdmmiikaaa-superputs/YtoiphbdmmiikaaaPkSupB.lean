/-
  Layer 8: the contract of super.Put.
-/
import Derived.Test.YtoiphbdmmiikaaaPkSupA
import Derived.Test.YtoiphbdmmiikaaaPkRPut
import Derived.Test.YtoiphbdmmiikaaaPkLit
namespace Go.Proofs.Ytoiphbdmmiikaaa
open Go.RowKit
set_option linter.unusedVariables false

/-- A superblock as cells. -/
def sbc (b : Sb) : List Value := [.int .i64 b.s, .int .i64 b.t, .int .i64 b.c, .int .i64 b.a, .int .i64 b.m]
def sb0 : Sb := ⟨0, 0, 0, 0, 0⟩
theorem Try.sizeB : (Try.prog.info? 29).map (·.size) = some 5 := by kernel_rfl
theorem Try.zeroB : (Try.prog.info? 29).bind (·.zero) = some (.agg (sbc sb0).toArray) := by kernel_rfl
theorem sbc_size (b : Sb) : (Try.prog.info? 29).map (·.size) = some (sbc b).toArray.size := Try.sizeB
theorem sbc_all (b : Sb) : (sbc b).toArray.all (·.oneCell') = true := by simp [sbc, Value.oneCell']
theorem plan_range {w : World} {g : Nat} {t : TypeId} {b : Sb} (h : RowV w g t (sbc b)) : w.rangeAt g 0 (pc b.s b.t b.c b.a) := by
  intro j u hj
  rw [Nat.zero_add]
  refine h.cell ?_
  match j with
  | 0 => exact hj
  | 1 => exact hj
  | 2 => exact hj
  | 3 => exact hj
  | j + 4 => simp [pc] at hj
theorem ok_split (b : Sb) : b.ok = (okP b.s b.t b.c b.a && decide (0 ≤ b.m) && decide (b.m ≤ 1099511627776)) := rfl
/-- What Put answers. -/
def putS (b : Sb) : Sec × Int := if b.ok then (b.sec, 0) else (zeroSec, 2)

theorem put2 (N : Nat) (w : World) (hN : N < 18446744073709551616) : Calls Try.prog 21 #[.int .u64 (N : Int), .int .i64 2] w (RetRow w (putB N 2)) := put_any N 2 w (by omega) hN
theorem put8 (N : Nat) (w : World) (hN : N < 18446744073709551616) : Calls Try.prog 21 #[.int .u64 (N : Int), .int .i64 8] w (RetRow w (putB N 8)) := put_any N 8 w (by omega) hN

set_option maxRecDepth 100000 in
set_option maxHeartbeats 1000000 in
theorem sput_no (w : World) (b : Sb) (hok : b.ok = false) :
    Calls Try.prog 6 #[.agg (sbc b).toArray] w fun e w' => e = .returned (.tuple #[.agg zeroSec.cs.toArray, .int .i64 2]) ∧ Below w.heap.size w w' := by
  have Hok := Lib.hid hok
  clear hok
  obtain ⟨s, t, c, a, m⟩ := b
  go_enter Try.func6, Try.ntmps6
  go_wp2_with ((with_reducible refine at_box 29 ?_); refine wpList_box_rowV rfl 29 _ rfl (sbc ⟨s, t, c, a, m⟩) rfl ?_)
  intro w1 hr1 hb1 hs1
  go_wp2_with ((with_reducible refine at_alloc 24 ?_); refine alloc_sec rfl rfl ?_)
  intro w2 hr2 hb2 hs2
  have hr12 := hr1.below (by omega) hb2
  have hB2 : Below w.heap.size w w2 := hb1.trans (hb2.mono (by omega))
  have hrg := plan_range hr12
  have hz2 : w.heap.size + 1 < w2.heap.size := by omega
  have hlt : w.heap.size < w.heap.size + 1 := by omega
  clear hr1 hb1 hb2 hs1 hs2
  generalize hN1 : w.heap.size + 1 = N1 at *
  generalize hN : w.heap.size = N at *
  clear hN1
  go_wp2_with ((with_reducible refine at_load 23 ?_); refine wpList_load_mid rfl 23 _ rfl N 0 rfl (pc s t c a) _ hrg Try.underlying23 rfl (pc_size _ _ _ _) ?_)
  refine (pcheck_any _ _ _ _ _).mono ?_
  rintro e w3 ⟨rfl, hb3⟩
  have hr3 := hr2.below (by omega) hb3
  have hr13 := hr12.below (by omega) hb3
  have hB3 : Below N w w3 := hB2.trans (hb3.mono (by omega))
  have hs3 := hb3.size
  clear hr2 hr12 hrg hb3 hB2
  have hz := zeroSv
  cases hp : okP s t c a
  · have hcd : codeP s t c a = 2 := by rw [codeP, hp]; rfl
    rw [hcd]
    go_wp2_with ((with_reducible refine at_store 24 ?_); refine store_sec rfl _ _ rfl N1 zeroSec rfl rfl hr3 (Sec.cs_length _) ?_)
    intro w4 hr4 hg4 hs4
    go_wp2_with fail
    exact bodyPost_ret (results_cell_tmp (fn := Try.f6) rfl _ _ N1 24 _ (0, 0) _ rfl (.int .i64 2) rfl hr4 Try.underlying24 rfl (sec_size' _)) rfl ⟨rfl, by rw [hN]; exact below_grown hB3 hg4 (by omega) (by omega)⟩
  · have hcd : codeP s t c a = 0 := by rw [codeP, hp]; rfl
    rw [hcd]
    have c4 := hr13.cell (i := 4) rfl
    have hm : m < 0 ∨ ¬ m < 0 ∧ 1099511627776 < m := by
      have := Hok.out
      rw [ok_split] at this
      simp only [hp, Bool.true_and, Bool.and_eq_false_iff, decide_eq_false_iff_not] at this
      omega
    rcases hm with hm | ⟨hm, hm2⟩
    · go_wp2_with ((with_reducible refine at_store 24 ?_); refine store_sec rfl _ _ rfl N1 zeroSec rfl rfl hr3 (Sec.cs_length _) ?_)
      intro w4 hr4 hg4 hs4
      go_wp2_with fail
      exact bodyPost_ret (results_cell_tmp (fn := Try.f6) rfl _ _ N1 24 _ (0, 0) _ rfl (.int .i64 2) rfl hr4 Try.underlying24 rfl (sec_size' _)) rfl ⟨rfl, by rw [hN]; exact below_grown hB3 hg4 (by omega) (by omega)⟩
    · go_wp2_with ((with_reducible refine at_store 24 ?_); refine store_sec rfl _ _ rfl N1 zeroSec rfl rfl hr3 (Sec.cs_length _) ?_)
      intro w4 hr4 hg4 hs4
      go_wp2_with fail
      exact bodyPost_ret (results_cell_tmp (fn := Try.f6) rfl _ _ N1 24 _ (0, 0) _ rfl (.int .i64 2) rfl hr4 Try.underlying24 rfl (sec_size' _)) rfl ⟨rfl, by rw [hN]; exact below_grown hB3 hg4 (by omega) (by omega)⟩

theorem Try.built4 (s t c a : Int) : Try.prog.built 59 [(0, .int .i64 s), (1, .int .i64 t), (2, .int .i64 c), (3, .int .i64 a)] = some (pc s t c a).toArray := by kernel_rfl
theorem Try.size3 : (Try.prog.info? 3).map (·.size) = some 1 := by kernel_rfl
theorem idx4 (s t c a : Int) (i : Nat) (v : Value) (hi : i < 4) (hv : (pc s t c a)[i]? = some v) (W : World) : (Instr.index 59 (.agg (pc s t c a).toArray) (.int .i64 (i : Int))).run Try.prog W = .ok v W :=
  run_index_one Try.underlying59 (by kernel_rfl) Try.size3 hi hv
theorem body_eq (s t c a m : Nat) : (((((Sb.magic ++ putB s 2) ++ putB t 2) ++ putB c 2) ++ putB a 2) ++ putB m 8) = (Sb.mk s t c a m).body := by
  simp [Sb.body]
theorem seal_sec (b : Sb) (h : b.body.length ≤ 252) : sealS b.body h = b.sec := by
  apply Subtype.ext
  show sealB (fill b.body 252) = sealB b.plain
  rw [fill, Sb.plain, b.body_length]

set_option maxRecDepth 100000 in
set_option maxHeartbeats 2000000 in
theorem sput_yes (w : World) (s t c a m : Nat) (hok : (Sb.mk s t c a m).ok = true) :
    Calls Try.prog 6 #[.agg (sbc ⟨s, t, c, a, m⟩).toArray] w fun e w' => e = .returned (.tuple #[.agg (Sb.mk s t c a m).sec.cs.toArray, .int .i64 0]) ∧ Below w.heap.size w w' := by
  obtain ⟨i0, hi, hz0, hz1, hz2⟩ := info_parts Try.info5
  have hp : Hid (okP s t c a = true) := by
    show _ = _
    rw [ok_split] at hok
    simp only [Bool.and_eq_true] at hok
    exact hok.1.1
  obtain ⟨⟨s1, s2⟩, ⟨t1, t2⟩, ⟨c1, c2⟩, ⟨a1, a2⟩, m1, m2⟩ := Sb.ok_iff.1 hok
  simp only at s1 s2 t1 t2 c1 c2 a1 a2 m1 m2
  clear hok
  go_enter Try.func6, Try.ntmps6
  go_wp2_with ((with_reducible refine at_box 29 ?_); refine wpList_box_rowV rfl 29 _ rfl (sbc ⟨s, t, c, a, m⟩) rfl ?_)
  intro w1 hr1 hb1 hs1
  go_wp2_with ((with_reducible refine at_alloc 24 ?_); refine alloc_sec rfl rfl ?_)
  intro w2 hr2 hb2 hs2
  have hr12 := hr1.below (by omega) hb2
  have hB2 : Below w.heap.size w w2 := hb1.trans (hb2.mono (by omega))
  have hrg := plan_range hr12
  have hsz2 : w.heap.size + 1 < w2.heap.size := by omega
  have hlt : w.heap.size < w.heap.size + 1 := by omega
  clear hr1 hb1 hb2 hs1 hs2
  generalize hN1 : w.heap.size + 1 = N1 at *
  generalize hN : w.heap.size = N at *
  clear hN1
  go_wp2_with ((with_reducible refine at_load 23 ?_); refine wpList_load_mid rfl 23 _ rfl N 0 rfl (pc s t c a) _ hrg Try.underlying23 rfl (pc_size _ _ _ _) ?_)
  refine (pcheck_any _ _ _ _ _).mono ?_
  rintro e w3 ⟨rfl, hb3⟩
  have hr3 := hr2.below (by omega) hb3
  have hr13 := hr12.below (by omega) hb3
  have hB3 : Below N w w3 := hB2.trans (hb3.mono (by omega))
  have hs3 : N1 < w3.heap.size := by have := hb3.size; omega
  clear hr2 hr12 hrg hb3 hB2 hsz2
  have hcd : codeP s t c a = 0 := by rw [codeP, hp.out]; rfl
  rw [hcd]
  clear hcd hp
  have c4 := hr13.cell (i := 4) rfl
  have hm0 : ¬ (m : Int) < 0 := by omega
  go_wp2_with ((with_reducible refine at_convert 46 ?_); refine wpList_const rfl 46 _ rfl Try.underlying46 Try.underlying5 _ 8 8 rfl Sb.magic rfl ?_)
  intro w4 hl4 hb4 hs4
  have hr4 := hr3.below (by omega) hb4
  have hr14 := hr13.below (by omega) hb4
  have hB4 : Below N w w4 := hB3.trans (hb4.mono (by omega))
  have hs4' : N1 < w4.heap.size := by omega
  clear hr3 hr13 hb4 hB3 c4
  generalize hG : w3.heap.size = G at *
  clear hG hs3
  have c0 := hr14.cell (i := 0) rfl
  have c1' := hr14.cell (i := 1) rfl
  have c2' := hr14.cell (i := 2) rfl
  have c3 := hr14.cell (i := 3) rfl
  have x0 : ∀ W, (Instr.index 59 (.agg (pc s t c a).toArray) (.int .i64 0)).run Try.prog W = .ok (.int .i64 (s : Int)) W := idx4 s t c a 0 _ (by omega) rfl
  have x1 : ∀ W, (Instr.index 59 (.agg (pc s t c a).toArray) (.int .i64 1)).run Try.prog W = .ok (.int .i64 (t : Int)) W := idx4 s t c a 1 _ (by omega) rfl
  have x2 : ∀ W, (Instr.index 59 (.agg (pc s t c a).toArray) (.int .i64 2)).run Try.prog W = .ok (.int .i64 (c : Int)) W := idx4 s t c a 2 _ (by omega) rfl
  have x3 : ∀ W, (Instr.index 59 (.agg (pc s t c a).toArray) (.int .i64 3)).run Try.prog W = .ok (.int .i64 (a : Int)) W := idx4 s t c a 3 _ (by omega) rfl
  go_wp2_with ((with_reducible refine at_build 59 ?_); refine wpList_build_to rfl 59 _ rfl (pc s t c a) (by rw [Array.toList_map]; exact Try.built4 _ _ _ _) ?_)
  clear c0 c1' c2' c3
  refine wp_loop_rounds 5 ?_
  rw [rounds_succ]
  go_wp2_with fail
  refine (put2 s _ (by omega)).mono ?_
  rintro e w5 ⟨A5, k5, rfl, hk5, hm5, hl5, hb5⟩
  have hr5 := hr4.below (by omega) hb5
  have hr15 := hr14.below (by omega) hb5
  have hB5 : Below N w w5 := hB4.trans (hb5.mono (by omega))
  have hl45 := hl4.below (hb5.mono (by omega))
  have hs5 := hb5.size
  have hsz5 : N1 < w5.heap.size := by omega
  have ne5 : putB s 2 ≠ [] := by intro h; have := congrArg List.length h; rw [putB_length] at this; cases this
  have lc5 : 8 < 8 + (putB s 2).length := by rw [putB_length]; omega
  have lb5 : 8 + (putB s 2).length ≤ 140737488355328 := by rw [putB_length]; omega
  clear hr4 hr14 hB4 hl4 hb5
  go_wp2_with (at_builtin; refine wpList_append_full rfl _ _ 46 rfl i0 Try.underlying46 hi hz0 hz1 hz2 _ 8 8 Sb.magic (putB s 2) rfl (G + 1) hl45 rfl (by simp [Sb.magic]) w5.heap.size _ _ _ rfl hl5 rfl ne5 lc5 lb5 ?_)
  intro v6 w6 hown6 hg6
  have hr6 := hr5.keep hg6 (by simp)
  have hr16 := hr15.keep hg6 (by simp)
  have hB6 : Below N w w6 := hB5.grown hg6 (by omega) (by simp)
  have hs6 := hg6.size
  rw [show 8 + (putB s 2).length = 10 by rw [putB_length]] at hown6
  generalize hb : w5.heap.size = b at *
  clear hr5 hr15 hB5 hl5 hl45 hg6 ne5 lc5 lb5 x0 hb
  go_wp2_with fail
  rw [rounds_succ]
  go_wp2_with fail
  refine (put2 t _ (by omega)).mono ?_
  rintro e w7 ⟨A7, k7, rfl, hk7, hm7, hl7, hb7⟩
  have hr7 := hr6.below (by omega) hb7
  have hr17 := hr16.below (by omega) hb7
  have hB7 : Below N w w7 := hB6.trans (hb7.mono (by omega))
  have hs7 := hb7.size
  have hown7 := own_below hown6 hb7
  have lb7 : 10 + (putB t 2).length ≤ 140737488355328 := by rw [putB_length]; omega
  have hbs7 : b ≤ w7.heap.size := by omega
  clear hr6 hr16 hB6 hb7 hown6
  go_wp2_with (at_builtin; refine wpList_append_lies rfl _ _ 46 rfl b i0 Try.underlying46 hi hz0 hz1 hz2 _ 10 (Sb.magic ++ putB s 2) (putB t 2) rfl hown7 w7.heap.size _ _ _ rfl hl7 rfl lb7 hbs7 ?_)
  intro v8 w8 hown8 hg8
  have hr8 := hr7.keep hg8 (fun e => by have := own_ge hown7 _ e; omega)
  have hr18 := hr17.keep hg8 (fun e => by have := own_ge hown7 _ e; omega)
  have hB8 : Below N w w8 := hB7.grown hg8 (by omega) (fun k e => by have := own_ge hown7 _ e; omega)
  have hs8 := hg8.size
  rw [show 10 + (putB t 2).length = 12 by rw [putB_length]] at hown8
  clear hr7 hr17 hB7 hl7 hg8 hown7 lb7
  clear x1
  go_wp2_with fail
  rw [rounds_succ]
  go_wp2_with fail
  refine (put2 c _ (by omega)).mono ?_
  rintro e w9 ⟨A9, k9, rfl, hk9, hm9, hl9, hb9⟩
  have hr9 := hr8.below (by omega) hb9
  have hr19 := hr18.below (by omega) hb9
  have hB9 : Below N w w9 := hB8.trans (hb9.mono (by omega))
  have hs9 := hb9.size
  have hown9 := own_below hown8 hb9
  have lb9 : 12 + (putB c 2).length ≤ 140737488355328 := by rw [putB_length]; omega
  have hbs9 : b ≤ w9.heap.size := by omega
  clear hr8 hr18 hB8 hb9 hown8
  go_wp2_with (at_builtin; refine wpList_append_lies rfl _ _ 46 rfl b i0 Try.underlying46 hi hz0 hz1 hz2 _ 12 (Sb.magic ++ putB s 2 ++ putB t 2) (putB c 2) rfl hown9 w9.heap.size _ _ _ rfl hl9 rfl lb9 hbs9 ?_)
  intro v10 w10 hown10 hg10
  have hr10 := hr9.keep hg10 (fun e => by have := own_ge hown9 _ e; omega)
  have hr110 := hr19.keep hg10 (fun e => by have := own_ge hown9 _ e; omega)
  have hB10 : Below N w w10 := hB9.grown hg10 (by omega) (fun k e => by have := own_ge hown9 _ e; omega)
  have hs10 := hg10.size
  rw [show 12 + (putB c 2).length = 14 by rw [putB_length]] at hown10
  clear hr9 hr19 hB9 hl9 hg10 hown9 lb9
  clear x2
  go_wp2_with fail
  rw [rounds_succ]
  go_wp2_with fail
  refine (put2 a _ (by omega)).mono ?_
  rintro e w11 ⟨A11, k11, rfl, hk11, hm11, hl11, hb11⟩
  have hr11 := hr10.below (by omega) hb11
  have hr111 := hr110.below (by omega) hb11
  have hB11 : Below N w w11 := hB10.trans (hb11.mono (by omega))
  have hs11 := hb11.size
  have hown11 := own_below hown10 hb11
  have lb11 : 14 + (putB a 2).length ≤ 140737488355328 := by rw [putB_length]; omega
  have hbs11 : b ≤ w11.heap.size := by omega
  clear hr10 hr110 hB10 hb11 hown10
  go_wp2_with (at_builtin; refine wpList_append_lies rfl _ _ 46 rfl b i0 Try.underlying46 hi hz0 hz1 hz2 _ 14 (Sb.magic ++ putB s 2 ++ putB t 2 ++ putB c 2) (putB a 2) rfl hown11 w11.heap.size _ _ _ rfl hl11 rfl lb11 hbs11 ?_)
  intro v12 w12 hown12 hg12
  have hr12 := hr11.keep hg12 (fun e => by have := own_ge hown11 _ e; omega)
  have hr112 := hr111.keep hg12 (fun e => by have := own_ge hown11 _ e; omega)
  have hB12 : Below N w w12 := hB11.grown hg12 (by omega) (fun k e => by have := own_ge hown11 _ e; omega)
  have hs12 := hg12.size
  rw [show 14 + (putB a 2).length = 16 by rw [putB_length]] at hown12
  clear hr11 hr111 hB11 hl11 hg12 hown11 lb11
  clear x3
  have c4 := hr112.cell (i := 4) rfl
  go_wp2_with fail
  rw [rounds_succ]
  go_wp2_with fail
  refine (put8 m _ (by omega)).mono ?_
  rintro e w13 ⟨A13, k13, rfl, hk13, hm13, hl13, hb13⟩
  have hr13 := hr12.below (by omega) hb13
  have hr113 := hr112.below (by omega) hb13
  have hB13 : Below N w w13 := hB12.trans (hb13.mono (by omega))
  have hs13 := hb13.size
  have hown13 := own_below hown12 hb13
  have lb13 : 16 + (putB m 8).length ≤ 140737488355328 := by rw [putB_length]; omega
  have hbs13 : b ≤ w13.heap.size := by omega
  clear hr12 hr112 hB12 hb13 hown12
  go_wp2_with (at_builtin; refine wpList_append_lies rfl _ _ 46 rfl b i0 Try.underlying46 hi hz0 hz1 hz2 _ 16 (Sb.magic ++ putB s 2 ++ putB t 2 ++ putB c 2 ++ putB a 2) (putB m 8) rfl hown13 w13.heap.size _ _ _ rfl hl13 rfl lb13 hbs13 ?_)
  intro v14 w14 hown14 hg14
  have hr14 := hr13.keep hg14 (fun e => by have := own_ge hown13 _ e; omega)
  have hr114 := hr113.keep hg14 (fun e => by have := own_ge hown13 _ e; omega)
  have hB14 : Below N w w14 := hB13.grown hg14 (by omega) (fun k e => by have := own_ge hown13 _ e; omega)
  have hs14 := hg14.size
  rw [show 16 + (putB m 8).length = 24 by rw [putB_length]] at hown14
  clear hr13 hr113 hB13 hl13 hg14 hown13 lb13
  have hownB : w14.ownsRow b 5 1 v14 24 (cells (Sb.mk s t c a m).body) := by
    rw [← body_eq]
    simp only [List.append_assoc] at hown14 ⊢
    exact hown14
  obtain ⟨A, k, rfl, hn, hnc, hcm, hl⟩ := Lies.of_own hownB
  have hbl : (Sb.mk s t c a m).body.length ≤ 252 := by rw [Sb.body_length]; omega
  have Hse := Lib.hid (seal_sec (Sb.mk s t c a m) hbl)
  clear hown14 hownB hn c4
  go_wp2_with fail
  refine (ssealed_any _ _ _ (Sb.mk s t c a m).body _ _ hl rfl (Nat.le_refl _) hbl).mono ?_
  rintro e w15 ⟨rfl, hb15⟩
  rw [Hse.out]
  have hr15 := hr14.below (by omega) hb15
  have hB15 : Below N w w15 := hB14.trans (hb15.mono (by omega))
  have hs15 := hb15.size
  clear hr14 hr114 hB14 hl
  go_wp2_with ((with_reducible refine at_store 24 ?_); refine store_sec rfl _ _ rfl N1 (Sb.mk s t c a m).sec rfl rfl hr15 (Sec.cs_length _) ?_)
  intro w16 hr16 hg16 hs16
  go_wp2_with fail
  exact bodyPost_ret (results_cell_tmp (fn := Try.f6) rfl _ _ N1 24 _ (0, 0) _ rfl (.int .i64 0) rfl hr16 Try.underlying24 rfl (sec_size' _)) rfl ⟨rfl, by rw [hN]; exact below_grown hB15 hg16 (by omega) (by omega)⟩

theorem Sb.nat {b : Sb} (h : b.ok = true) : ∃ s t c a m : Nat, b = ⟨s, t, c, a, m⟩ := by
  obtain ⟨⟨s1, s2⟩, ⟨t1, t2⟩, ⟨c1, c2⟩, ⟨a1, a2⟩, m1, m2⟩ := Sb.ok_iff.1 h
  obtain ⟨s, t, c, a, m⟩ := b
  exact ⟨s.toNat, t.toNat, c.toNat, a.toNat, m.toNat, by simp only at *; congr <;> omega⟩
/-- Put of any superblock. -/
theorem sput_any (w : World) (b : Sb) :
    Calls Try.prog 6 #[.agg (sbc b).toArray] w fun e w' => e = .returned (.tuple #[.agg (putS b).1.cs.toArray, .int .i64 (putS b).2]) ∧ Below w.heap.size w w' := by
  unfold putS
  cases hok : b.ok
  · exact sput_no w b hok
  · obtain ⟨s, t, c, a, m, rfl⟩ := Sb.nat hok
    exact sput_yes w s t c a m hok
end Go.Proofs.Ytoiphbdmmiikaaa
