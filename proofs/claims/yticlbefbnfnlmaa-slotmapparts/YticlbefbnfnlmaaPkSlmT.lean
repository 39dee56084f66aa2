/-
  Layer 10: the contracts of the laws' ints and same.
-/
import Derived.Test.YticlbefbnfnlmaaPkSlmS
import Derived.Test.YticlbefbnfnlmaaPkSlmD
import Derived.Test.YticlbefbnfnlmaaPkSlmE
import Derived.BigQuiet
import Derived.StillTailTactics
namespace Go.Proofs.Yticlbefbnfnlmaa
open Go.RowKit
set_option linter.unusedVariables false
set_option linter.unusedSimpArgs false

theorem nats_at {w : World} {B : Nat} {A : Option Addr} {l : List Nat} (h : LiesV w B A (nats l)) {k : Nat} (hk : k < l.length) : ∃ b o, A = some ⟨b, o, none⟩ ∧ w.cell? ⟨b, o + k, none⟩ = some (.int .i64 ((l.getD k 0 : Nat) : Int)) := by
  obtain ⟨b, o, e, _, hc⟩ := h.at_ (i := k) (v := .int .i64 ((l.getD k 0 : Nat) : Int)) (by rw [nats, List.getElem?_map, List.getD_eq_getElem?_getD, List.getElem?_eq_getElem hk]; rfl)
  exact ⟨b, o, e, hc⟩

set_option maxRecDepth 100000 in
set_option maxHeartbeats 2000000 in
theorem ints_any (w : World) (B : Nat) (A A' : Option Addr) (c c' : Nat) (l : List Nat) (h : LiesV w B A (nats l)) (h' : LiesV w B A' (nats l)) (hB : B ≤ w.heap.size) (hl : l.length ≤ 200) :
    Calls Try.prog 13 #[.slice A l.length c, .slice A' l.length c'] w fun e w' => e = .returned (.bool true) ∧ Below w.heap.size w w' := by
  have Hh := Lib.hid h
  have Hh' := Lib.hid h'
  obtain ⟨n, hn⟩ : ∃ n, l.length = n := ⟨_, rfl⟩
  have Hn := Lib.hid hn
  rw [hn] at hl ⊢
  clear h h' hn
  go_enter Try.func13, Try.ntmps13
  have HB : Hid (Below w.heap.size w w) := Below.refl _ _
  go_wp2_with fail
  go_loopw [5] (fun v W => ∃ k : Nat, k ≤ n ∧ v = .int .i64 k ∧ Hid (Below w.heap.size w W)) (fun v _ => n - (intOf v).toNat)
  case atStart => exact ⟨0, Nat.zero_le _, rfl, HB⟩
  case round =>
    obtain ⟨k, hk, rfl, HB1⟩ := hrel
    by_cases hlt : k < n
    · have hlt' : (k : Int) < (n : Int) := by omega
      obtain ⟨b1, o1, hA1, hc1⟩ := nats_at (Hh.out.below (HB1.out.mono hB)) (k := k) (by rw [Hn.out]; exact hlt)
      obtain ⟨b2, o2, hA2, hc2⟩ := nats_at (Hh'.out.below (HB1.out.mono hB)) (k := k) (by rw [Hn.out]; exact hlt)
      subst hA1 hA2
      generalize (l.getD k 0 : Nat) = x at *
      go_wp2_with fail
      go_quiet (fail)
      have HB2 : Hid (Below w.heap.size w (wr.drewN nq)) := below_drewN' HB1.out nq
      clear hc1 hc2 HB1
      generalize wr.drewN nq = wz at *
      go_wp2_with fail
      go_roundw
      case rel => exact ⟨k + 1, by omega, by go_num, HB2⟩
      case measure => simp [intOf]; omega
    · obtain rfl : k = n := by omega
      go_wp2_with fail
      go_ret
      exact ⟨rfl, HB1.out⟩

theorem getS10_at {ss : List UInt8} {k : Nat} (h : k < ss.length) : getS10 ss (k : Int) = ((ss.getD k 0).toNat : Int) := by unfold getS10; rw [if_pos (by omega)]; rfl
theorem firstS_pos {ss : List UInt8} {what : Int} (h : 0 < (ofS ss what).length) : firstS ss what = (((ofS ss what).getD 0 0 : Nat) : Int) := by
  unfold firstS
  cases e : ofS ss what with
  | nil => rw [e] at h; simp at h
  | cons x l => rfl
theorem lastS_pos {ss : List UInt8} {what : Int} (h : 0 < (ofS ss what).length) : lastS ss what = (((ofS ss what).getD ((ofS ss what).length - 1) 0 : Nat) : Int) := by
  unfold lastS
  rw [List.getLast?_eq_getElem?, List.getD_eq_getElem?_getD, List.getElem?_eq_getElem (by omega)]
  rfl
theorem firstS_nil {ss : List UInt8} {what : Int} (h : (ofS ss what).length = 0) : firstS ss what = -1 := by unfold firstS; rw [List.eq_nil_of_length_eq_zero h]
theorem lastS_nil {ss : List UInt8} {what : Int} (h : (ofS ss what).length = 0) : lastS ss what = -1 := by unfold lastS; rw [List.eq_nil_of_length_eq_zero h]; rfl

set_option maxRecDepth 100000 in
set_option maxHeartbeats 4000000 in
theorem same10_any (w : World) (b g c : Nat) (ss : List UInt8) (v : Value) (h : MapAt w b g c ss) (hv : NumsAt w v ss) :
    Calls Try.prog 14 #[.pointer (some ⟨b, 0, none⟩), v] w fun e w' => e = .returned (.bool true) ∧ Below w.heap.size w w' := by
  have hp := h.pos
  have hle := h.le
  obtain ⟨gv, cv, rfl, hcv, hgv⟩ := hv.form hp
  have Hm := Lib.hid h
  have Hv := Lib.hid hv
  have HB : Hid (Below w.heap.size w w) := Below.refl _ _
  clear h hv
  go_enter Try.func14, Try.ntmps14
  go_wp2_with fail
  refine (slen_any w b g c ss Hm.out).mono ?_
  rintro e w1 ⟨rfl, rfl⟩
  go_wp2_with fail
  go_loopw [5] (fun i W => ∃ k : Nat, k ≤ ss.length ∧ i = .int .i64 k ∧ Hid (Below w1.heap.size w1 W)) (fun i _ => ss.length - (intOf i).toNat)
  case atStart => exact ⟨0, Nat.zero_le _, rfl, HB⟩
  case round =>
    obtain ⟨k, hk, rfl, HB1⟩ := hrel
    by_cases hlt : k < ss.length
    · have hlt' : (k : Int) < (ss.length : Int) := by omega
      have hg1 := getS10_at hlt
      have Hs := Lib.hid (show _ from sget_any wr.drew b g c ss ((Hm.out.later HB1.out).drew) (k : Int))
      rw [hg1] at Hs
      have cx : wr.drew.cell? ⟨gv, k, none⟩ = some (.int .i64 ((ss.getD k 0).toNat : Int)) := (Hv.out.later HB1.out).cell hlt
      have HB2 : Hid (Below w1.heap.size w1 wr.drew) := HB1.out.drew
      clear hg1
      generalize (ss.getD k 0).toNat = x at *
      go_wp2_with fail
      refine wp_region_still_tail 7 (by kernel_rfl) (by kernel_rfl) ?_
      simp only [List.take_succ_cons, List.take_zero, List.drop_succ_cons, List.drop_zero]
      still_step
      still_step
      still_call (still_of10 Hs.out)
      still_step
      still_step
      still_step
      still_step
      refine wpStill_nil ?_
      change wpList _ _ _ _ _ wr.drew
      clear cx Hs HB1
      generalize wr.drew = wd at *
      go_wp2_with fail
      go_roundw
      case rel => exact ⟨k + 1, by omega, by go_num, HB2⟩
      case measure => simp [intOf]; omega
    · obtain rfl : k = ss.length := by omega
      clear HB hk hlt
      go_wp2_with fail
      go_loopw [6] (fun i W => ∃ k : Nat, k ≤ 3 ∧ i = .int .i64 k ∧ Hid (Below w1.heap.size w1 W)) (fun i _ => 3 - (intOf i).toNat)
      case atStart => exact ⟨0, by omega, rfl, HB1⟩
      case round =>
        obtain ⟨k, hk, rfl, HB2⟩ := hrel
        clear HB1
        by_cases hlt : k < 3
        · have hlt' : (k : Int) < 3 := by omega
          go_wp2_with fail
          refine (lall_any wr b g c ss (Hm.out.later HB2.out) (k : Int)).mono ?_
          rintro e w2 ⟨v7, rfl, hr7, hb2⟩
          have HB3 := Lib.hid (HB2.out.trans (hb2.mono HB2.out.size))
          obtain ⟨A7, c7, rfl, _, _⟩ := own_slice hr7
          have Hl7 : Hid (LiesV w2 w2.heap.size A7 (nats (ofS ss k))) := by
            obtain ⟨A', c', hv, _, _, _, hl⟩ := LiesV.of_own hr7
            injection hv with e1
            subst e1
            exact hl
          clear hr7 hb2 HB2
          go_wp2_with fail
          refine (rof10_any w2 _ ss (Hv.out.later HB3.out) hp hle (k : Int)).mono ?_
          rintro e w3 ⟨v8, rfl, hr8, hb3⟩
          have HB4 := Lib.hid (HB3.out.trans (hb3.mono HB3.out.size))
          have Hl7 := Lib.hid ((Hl7.out.below hb3).le hb3.size)
          obtain ⟨A8, c8, rfl, hfc, _⟩ := own_slice hr8
          have Hl8 : Hid (LiesV w3 w3.heap.size A8 (nats (ofS ss k))) := by
            obtain ⟨A', c', hv, _, _, _, hl⟩ := LiesV.of_own hr8
            injection hv with e1
            subst e1
            exact hl
          clear hr8 hb3 HB3
          have hf := ofS_length ss (k : Int)
          have Hf1 := Lib.hid (fun h => firstS_pos (ss := ss) (what := (k : Int)) h)
          have Hf2 := Lib.hid (fun h => lastS_pos (ss := ss) (what := (k : Int)) h)
          have Hf3 := Lib.hid (fun h => firstS_nil (ss := ss) (what := (k : Int)) h)
          have Hf4 := Lib.hid (fun h => lastS_nil (ss := ss) (what := (k : Int)) h)
          have Hint := Lib.hid (fun W (hb : Below w3.heap.size w3 W) => ints_any W w3.heap.size A7 A8 c7 c8 (ofS ss k) (Hl7.out.below hb) (Hl8.out.below hb) hb.size (by omega))
          have Hat := Lib.hid (fun j (hj : j < (ofS ss (k : Int)).length) => nats_at Hl8.out hj)
          have Hcnt := Lib.hid (fun W (hb : Below w3.heap.size w3 W) => scount_any W b g c ss (Hm.out.later (HB4.out.trans (hb.mono HB4.out.size))) (k : Int))
          have Hfst := Lib.hid (fun W (hb : Below w3.heap.size w3 W) => sfirst_any W b g c ss (Hm.out.later (HB4.out.trans (hb.mono HB4.out.size))) (k : Int))
          have Hlst := Lib.hid (fun W (hb : Below w3.heap.size w3 W) => slast_any W b g c ss (Hm.out.later (HB4.out.trans (hb.mono HB4.out.size))) (k : Int))
          generalize (ofS ss (k : Int)).length = f at *
          by_cases h0 : f = 0
          · have e1 := Hf3.out h0
            have e2 := Hf4.out h0
            rw [e1] at Hfst
            rw [e2] at Hlst
            clear e1 e2
            subst h0
            have HBZ : Hid (Below w3.heap.size w3 w3) := Below.refl _ _
            go_wp2_with fail
            refine (Hint.out w3 HBZ.out).mono ?_
            rintro e w4 ⟨rfl, hb4⟩
            have hq4 := HBZ.out.trans (hb4.mono HBZ.out.size)
            have Hq4 := Lib.hid hq4
            clear hb4 hq4
            go_wp2_with fail
            refine (Hcnt.out w4 Hq4.out).mono ?_
            rintro e w5 ⟨rfl, hb5⟩
            have hq5 := Hq4.out.trans (hb5.mono Hq4.out.size)
            have Hq5 := Lib.hid hq5
            clear hb5 hq5
            go_wp2_with fail
            refine (Hfst.out w5 Hq5.out).mono ?_
            rintro e w6 ⟨rfl, hb6⟩
            have hq6 := Hq5.out.trans (hb6.mono Hq5.out.size)
            have Hq6 := Lib.hid hq6
            clear hb6 hq6
            go_wp2_with fail
            refine (Hlst.out w6 Hq6.out).mono ?_
            rintro e w7 ⟨rfl, hb7⟩
            have hq7 := Hq6.out.trans (hb7.mono Hq6.out.size)
            have HB7 : Hid (Below w1.heap.size w1 w7) := HB4.out.trans (hq7.mono HB4.out.size)
            clear hb7 hq7
            go_wp2_with fail
            go_roundw
            case rel => exact ⟨k + 1, by omega, by go_num, HB7⟩
            case measure => simp [intOf]; omega
          · have e1 := Hf1.out (by omega)
            have e2 := Hf2.out (by omega)
            rw [e1] at Hfst
            rw [e2] at Hlst
            clear e1 e2
            obtain ⟨p0, q0, hA8, hc0⟩ := Hat.out 0 (by omega)
            obtain ⟨p1, q1, hA9, hc1⟩ := Hat.out (f - 1) (by omega)
            subst hA8
            injection hA9 with hA9
            injection hA9 with z1 z2
            subst z1 z2
            have hfc' : f ≤ c8 := hfc
            rw [Nat.add_zero] at hc0
            have d1 : ((f : Int) - 1).toNat = f - 1 := by omega
            have d2 : (0 : Int) < (f : Int) := by omega
            have d3 : (f : Int) - 1 < (f : Int) := by omega
            have d4 : (0 : Int) ≤ (f : Int) - 1 := by omega
            have d5 : IntKind.i64.wrap ((f : Int) - 1) = (f : Int) - 1 := IntWalk.i64_in _ (by omega)
            generalize ((ofS ss (k : Int)).getD 0 0 : Nat) = x0 at *
            generalize ((ofS ss (k : Int)).getD (f - 1) 0 : Nat) = x1 at *
            go_wp2_with fail
            go_quiet (fail)
            have HBZ : Hid (Below w3.heap.size w3 (w3.drewN nq)) := below_of_drewN w3 nq _
            clear hc0 hc1 d1 d3 d4 d5
            generalize w3.drewN nq = wz at *
            go_wp2_with fail
            refine (Hint.out wz HBZ.out).mono ?_
            rintro e w4 ⟨rfl, hb4⟩
            have hq4 := HBZ.out.trans (hb4.mono HBZ.out.size)
            have Hq4 := Lib.hid hq4
            clear hb4 hq4
            go_wp2_with fail
            refine (Hcnt.out w4 Hq4.out).mono ?_
            rintro e w5 ⟨rfl, hb5⟩
            have hq5 := Hq4.out.trans (hb5.mono Hq4.out.size)
            have Hq5 := Lib.hid hq5
            clear hb5 hq5
            go_wp2_with fail
            refine (Hfst.out w5 Hq5.out).mono ?_
            rintro e w6 ⟨rfl, hb6⟩
            have hq6 := Hq5.out.trans (hb6.mono Hq5.out.size)
            have Hq6 := Lib.hid hq6
            clear hb6 hq6
            go_wp2_with fail
            refine (Hlst.out w6 Hq6.out).mono ?_
            rintro e w7 ⟨rfl, hb7⟩
            have hq7 := Hq6.out.trans (hb7.mono Hq6.out.size)
            have HB7 : Hid (Below w1.heap.size w1 w7) := HB4.out.trans (hq7.mono HB4.out.size)
            clear hb7 hq7
            go_wp2_with fail
            go_roundw
            case rel => exact ⟨k + 1, by omega, by go_num, HB7⟩
            case measure => simp [intOf]; omega
        · obtain rfl : k = 3 := by omega
          go_wp2_with fail
          go_ret
          exact ⟨rfl, HB2.out⟩
end Go.Proofs.Yticlbefbnfnlmaa
