/-
  Layer 10: the contract of Put.
  Layer 10: the contract of the reference's Take.
-/
import Derived.Test.YticlbefbnfnlmaaPkSlmB
import Derived.Test.YticlbefbnfnlmaaPkSlmP
import Derived.Test.YticlbefbnfnlmaaPkSecGN
import Derived.Test.YticlbefbnfnlmaaPkSlotF
import Derived.Test.YticlbefbnfnlmaaPkFillN
import Derived.StillTailTactics
import Derived.Test.YticlbefbnfnlmaaPkSlmR
import Derived.Test.YticlbefbnfnlmaaPkMemV
import Derived.Deep.QuietTactic
namespace Go.Proofs.Yticlbefbnfnlmaa
open Go.RowKit
set_option linter.unusedVariables false
set_option linter.unusedSimpArgs false

theorem shl_lt {x r : Nat} (hx : x ≤ 2) (hr : r < 4) : x * 4 ^ r < 256 := by
  rcases (show r = 0 ∨ r = 1 ∨ r = 2 ∨ r = 3 by omega) with rfl | rfl | rfl | rfl <;> omega
theorem shl_u8 {x r : Nat} (hx : x ≤ 2) (hr : r < 4) : IntKind.u8.wrap ((x : Int) * 2 ^ (2 * (r : Int)).toNat) = ((x * 4 ^ r : Nat) : Int) := by
  have h := shl_lt hx hr
  have e : (x : Int) * 2 ^ (2 * (r : Int)).toNat = ((x * 4 ^ r : Nat) : Int) := by
    rw [show (2 * (r : Int)).toNat = 2 * r by omega, show (4 : Nat) ^ r = 2 ^ (2 * r) from (Nat.pow_mul 2 2 r).symm, Int.natCast_mul, Int.natCast_pow]
    rfl
  rw [e]
  exact (show IntKind.u8.wrap ((x * 4 ^ r : Nat) : Int) = ((x * 4 ^ r : Nat) : Int) % 256 from rfl).trans (by omega)
set_option maxRecDepth 100000 in
set_option maxHeartbeats 4000000 in
theorem sput_any (w : World) (b g c : Nat) (ss : List UInt8) (h : MapAt w b g c ss) :
    Calls Try.prog 15 #[.pointer (some ⟨b, 0, none⟩)] w fun e w' => e = .returned (.agg (putS10 ss).cs.toArray) ∧ Below w.heap.size w w' := by
  have hle := h.le
  have hb0 := h.blt
  have hg0 := h.glt
  have Hh := Lib.hid h
  clear h
  go_enter Try.func15, Try.ntmps15
  go_wp2_with ((with_reducible refine at_alloc 42 ?_); refine alloc_sec rfl rfl ?_)
  intro w1 hr1 hb1 hs1
  go_wp2_with ((with_reducible refine at_alloc 42 ?_); refine alloc_sec rfl rfl ?_)
  intro w2 hr2 hb2 hs2
  generalize hN : w.heap.size = N at *
  have hm2 := (Hh.out.below hb1 (by omega) (by omega)).below hb2 (by omega) (by omega)
  have hr12 := hr1.below (by omega) hb2
  have hB2 := hb1.trans (hb2.mono (by omega))
  have c0 := hm2.ptr.cell
  have hz : cells (packS (ss.take 0) 256) = zeroSec.cs := by rw [List.take_zero, packS_zero]; rfl
  have HX : Hid (RowV w2 (N + 1) 42 (cells (packS (ss.take 0) 256))) := by rw [hz]; exact hr2
  have HM := Lib.hid hm2
  have HR := Lib.hid hr12
  have HB := Lib.hid hB2
  clear Hh hr1 hb1 hr2 hb2 hm2 hr12 hB2 hz
  go_wp2_with fail
  go_loopw [11] (fun i W => ∃ k : Nat, k ≤ ss.length ∧ i = .int .i64 k ∧ Hid (RowV W (N + 1) 42 (cells (packS (ss.take k) 256))) ∧ Hid (RowV W N 42 zeroSec.cs) ∧ Hid (MapAt W b g c ss) ∧ Hid (Below N w W) ∧ Hid (N + 2 ≤ W.heap.size)) (fun i _ => ss.length - (intOf i).toNat)
  case atStart => exact ⟨0, Nat.zero_le _, rfl, HX, HR, HM, HB, by show _ ≤ _; omega⟩
  case round =>
    obtain ⟨k, hk, rfl, HX, HR, HM, HB, HZ⟩ := hrel
    by_cases hlt : k < ss.length
    · have hlt' : (k : Int) < (ss.length : Int) := by omega
      have c1 := HM.out.cell hlt
      have hok := HM.out.ok
      have h64 : k / 4 < 256 := by omega
      have cx : wr.cell? ⟨N + 1, k / 4, none⟩ = some (.int .u8 (byteN (ss.take k) (k / 4) : Int)) := by
        rw [← toNat_byteN (hok.take k)]
        exact HX.out.cell (cells_get (packS_get _ h64))
      have Hstep := Lib.hid (byteN_step ss k)
      have Hlow := Lib.hid (byteN_low hok k)
      have Hhi := Lib.hid (byteN_le (hok.take (k + 1)) (k / 4))
      have hx2 := hok.at_ k
      have hr4 : k % 4 < 4 := Nat.mod_lt _ (by omega)
      have HXs := HX.out
      have Hset : Hid (∀ u : UInt8, u.toNat = byteN (ss.take (k + 1)) (k / 4) → (packS (ss.take k) 256).set (k / 4) u = packS (ss.take (k + 1)) 256) := fun u hu => packS_set k 256 u hu
      clear hok
      generalize byteN (ss.take k) (k / 4) = p at *
      generalize byteN (ss.take (k + 1)) (k / 4) = q at *
      generalize (ss.getD k 0).toNat = x at *
      have c0 := HM.out.ptr.cell
      go_wp2_with fail
      obtain ⟨j, hj⟩ : ∃ j, k / 4 = j := ⟨_, rfl⟩
      obtain ⟨r, hr⟩ : ∃ r, k % 4 = r := ⟨_, rfl⟩
      have Hs := Lib.hid (show _ from sshift_any wr.drew k (by omega))
      rw [hr] at Hs Hstep Hlow hr4
      rw [hj] at h64 cx Hset
      have cX : wr.drew.cell? ⟨N + 1, j, none⟩ = some (.int .u8 (p : Int)) := cx
      have d1 : (k : Int) / 4 = (j : Int) := by omega
      have d2 : (j : Int) < 256 := by omega
      have d3 : (0 : Int) ≤ (j : Int) := by omega
      have d4 : IntKind.i64.wrap (j : Int) = (j : Int) := IntWalk.i64_in _ (by omega)
      have Hkj := Lib.hid hj
      have Hkr := Lib.hid hr
      clear hj hr
      obtain ⟨m, hm⟩ : ∃ m, x * 4 ^ r = m := ⟨_, rfl⟩
      have hm256 : m < 256 := by rw [← hm]; exact shl_lt hx2 hr4
      have e1 : IntKind.u8.wrap ((x : Int) * 2 ^ (2 * (r : Int)).toNat) = (m : Int) := by rw [← hm]; exact shl_u8 hx2 hr4
      have e2 : bits .or .u8 (p : Int) (m : Int) = (q : Int) := by
        have h1 := Hstep.out
        have h2 := Hhi.out
        rw [hm] at h1
        rw [u8_or_nat _ _ (by omega) hm256, ← hm, or_add Hlow.out, hm, h1]
      clear hm
      have hk200 : k ≤ 200 := by omega
      refine wp_region_still_tail 10 (by kernel_rfl) (by kernel_rfl) ?_
      simp only [List.take_succ_cons, List.take_zero, List.drop_succ_cons, List.drop_zero]
      still_step
      still_step
      still_step
      still_step
      still_step
      still_step
      still_call (still_of10 Hs.out)
      still_step
      still_step
      still_step
      refine wpStill_nil ?_
      change wpList _ _ _ _ _ wr.drew
      have hu : (UInt8.ofNat q).toNat = q := by rw [UInt8.toNat_ofNat']; have := Hhi.out; omega
      have hset := Hset.out (UInt8.ofNat q) hu
      have HC : Hid ((cells (packS (ss.take k) 256)).set j (.int .u8 (q : Int)) = cells (packS (ss.take (k + 1)) 256)) := by
        show _ = _
        rw [← hset, ← congrArg (fun n : Nat => (n : Int)) hu]
        simp [cells, List.map_set]
      have hXd : RowV wr.drew (N + 1) 42 (cells (packS (ss.take k) 256)) := HXs
      have hRd : RowV wr.drew N 42 zeroSec.cs := HR.out
      have hMd := HM.out.drew
      have hBd : Below N w wr.drew := HB.out.drew
      have hZd : N + 2 ≤ wr.drew.heap.size := HZ.out
      have hlen : j < (cells (packS (ss.take k) 256)).length := by rw [cells_length, packS_length]; omega
      clear e1 e2 d1 d3 d4 cX cx c1 c0 Hs HXs HX HR HM HB HZ hu hset Hset Hstep Hlow
      generalize wr.drew = wd at *
      go_wp2_with ((with_reducible refine at_store 5 ?_); refine wpList_store_slot rfl 5 _ _ rfl (N + 1) j (by first | rfl | go_simp) (.int .u8 (q : Int)) (by first | rfl | go_simp) rfl _ _ hXd hlen (by kernel_rfl) ?_)
      intro w3 hr3 hg3 hs3
      rw [HC.out] at hr3
      have hMb := hMd.blt
      have HX3 := Lib.hid hr3
      have HR3 := Lib.hid (hRd.keep hg3 (fun e => by injection e with e; omega))
      have HM3 := Lib.hid (hMd.keep hg3 (fun e => by injection e with e; omega) (fun e => by injection e with e; omega))
      have HB3 := Lib.hid (below_grown hBd hg3 (by omega) (by omega))
      have HZ3 : Hid (N + 2 ≤ w3.heap.size) := by show _ ≤ _; omega
      clear hXd hRd hMd hBd hZd hlen hr3 hg3 hs3 HC hMb
      go_wp2_with fail
      go_roundw
      case rel => exact ⟨k + 1, by omega, by go_num, HX3, HR3, HM3, HB3, HZ3⟩
      case measure => simp [intOf]; omega
    · obtain rfl : k = ss.length := by omega
      have hX := HX.out
      rw [List.take_length] at hX
      have hZ := HZ.out
      have hl4 : Lies wr wr.heap.size (some ⟨N + 1, 0, none⟩) (packS ss 252) := by
        have hrow : Row wr (N + 1) 42 (packS ss 256) := hX
        have := hrow.lies.take 252
        rwa [packS_take ss (by omega)] at this
      have hl252 : Hid ((packS ss 252).length = 252) := packS_length _ _
      have He : Hid (wholeS (sealB (packS ss 252)) = putS10 ss) := Subtype.ext (whole_self (by rw [sealB_length, packS_length]))
      have hsl : ∀ W g, (Instr.sliceAt 42 (.pointer (some ⟨g, 0, none⟩)) none (some (.int .i64 252)) none).run Try.prog W = .ok (.slice (some ⟨g, 0, none⟩) 252 256) W := fun W g => run_slice_arr_to Try.underlying42 Try.size1 g 0 .i64 252 252 rfl (by omega) (by omega)
      clear hX
      go_wp2_with fail
      refine (sealed_any _ _ _ (packS ss 252) wr _ hl4 (Nat.le_refl _) hl252.out.symm (by omega)).mono ?_
      rintro e w5 ⟨A5, c5, rfl, _, _, hl5, hb5, _⟩
      have hr5 := HR.out.below (by omega) hb5
      have hB5 := HB.out.trans (hb5.mono (by omega))
      have hs5 := hb5.size
      clear HX HR HM HB HZ hsl
      go_wp2_with fail
      refine (whole_sec A5 _ c5 _ w5 _ hl5 rfl (Nat.le_refl _)).mono ?_
      rintro e w6 ⟨rfl, hb6⟩
      rw [He.out]
      have hr6 := hr5.below (by omega) hb6
      have hB6 := hB5.trans (hb6.mono (by omega))
      have hs6 := hb6.size
      clear hr5 hB5 hl5
      go_wp2_with ((with_reducible refine at_store 42 ?_); refine store_sec rfl _ _ rfl N (putS10 ss) rfl rfl hr6 (Sec.cs_length _) ?_)
      intro w7 hr7 hg7 hs7
      go_wp2_with fail
      exact bodyPost_ret (results_cell_row (fn := Try.f15) rfl _ _ N 42 _ (0, 0) _ rfl hr7 Try.underlying42 rfl (sec_size' _)) rfl ⟨rfl, by first | exact below_grown hB6 hg7 (Nat.le_refl _) (by omega) | (rw [hN]; exact below_grown hB6 hg7 (Nat.le_refl _) (by omega))⟩
end Go.Proofs.Yticlbefbnfnlmaa
namespace Go.Proofs.Yticlbefbnfnlmaa
open Go.RowKit
set_option linter.unusedVariables false
set_option linter.unusedSimpArgs false

theorem LiesV.take10 {w : World} {B : Nat} {A : Option Addr} {l : List Nat} (h : LiesV w B A (nats l)) (k : Nat) : LiesV w B A (nats (l.take k)) := by
  intro hx
  obtain ⟨b, o, e, hb, hc⟩ := h (fun e => hx (by rw [nats, List.map_take, show l.map (fun i : Nat => Value.int .i64 (i : Int)) = [] from e]; simp))
  refine ⟨b, o, e, hb, fun i v hi => hc i v ?_⟩
  rw [nats, List.map_take, List.getElem?_take] at hi
  split at hi
  · exact hi
  · cases hi
theorem useL_set {ss : List UInt8} {l : List Nat} {x : Nat} (hx : x < ss.length) : setM10 (useL ss l) (x : Int) 1 = useL ss (l ++ [x]) := by
  have hc : setC10 (useL ss l) (x : Int) 1 = 0 := by unfold setC10; rw [if_pos (by rw [useL_length]; omega), if_pos (by omega)]
  unfold setM10
  rw [if_pos hc, useL_snoc]
  rfl

set_option maxRecDepth 100000 in
set_option maxHeartbeats 2000000 in
theorem rtake10_any (w : World) (v : Value) (ss : List UInt8) (h : NumsAt w v ss) (hp : 1 ≤ ss.length) (hle : ss.length ≤ 200) (n : Int) :
    Calls Try.prog 11 #[v, .int .i64 n] w fun e w' => ∃ v' A c, e = .returned (.tuple #[v', .slice A (takeL ss n).length c, .int .i64 (takeC ss n)]) ∧ NumsAt w' v' (takeM ss n) ∧ LiesV w' w'.heap.size A (nats (takeL ss n)) ∧ Fresh w.heap.size A ∧ Below w.heap.size w w' := by
  by_cases hneg : n < 0
  · have Hc : Hid (takeC ss n = 1) := by show _ = _; unfold takeC; rw [if_pos hneg]
    have Hl : Hid (takeL ss n = []) := by show _ = _; unfold takeL; rw [if_neg (by rw [Hc.out]; decide)]
    have Hm : Hid (takeM ss n = ss) := by show _ = _; unfold takeM; rw [Hl.out]; rfl
    have Hh := Lib.hid h
    clear h
    go_enter Try.func11, Try.ntmps11
    go_wp2_with fail
    go_ret3
    rw [Hc.out, Hl.out, Hm.out]
    exact ⟨v, none, 0, rfl, Hh.out, LiesV.nil _ _ _, (fun a e => by cases e), Below.refl _ _⟩
  · obtain ⟨k, rfl⟩ : ∃ k : Nat, n = k := ⟨n.toNat, by omega⟩
    have hk0 : ¬ (k : Int) < 0 := hneg
    have Hh := Lib.hid h
    have hlen := ofS_length ss 0
    obtain ⟨f, hf⟩ : ∃ f, (ofS ss 0).length = f := ⟨_, rfl⟩
    have Hf := Lib.hid hf
    have hf200 : f ≤ 200 := by omega
    clear h hneg hlen hf
    go_enter Try.func11, Try.ntmps11
    go_wp2_with fail
    refine (rof10_any w v ss Hh.out hp hle 0).mono ?_
    rintro e w2 ⟨v2, rfl, hr2, hb2⟩
    rw [Hf.out] at hr2
    obtain ⟨A, c, rfl, hfc, _⟩ := own_slice hr2
    have Hr := Lib.hid hr2
    have HF := Lib.hid (Fresh.of_own hr2)
    have HN2 := Lib.hid (Hh.out.later hb2)
    generalize hN : w.heap.size = N at *
    have HB2 := Lib.hid hb2
    have hz2 := hb2.size
    rw [hN] at hz2
    clear hr2 hb2 Hh
    by_cases hgt : (f : Int) < (k : Int)
    · have Hc : Hid (takeC ss (k : Int) = 6) := by show _ = _; unfold takeC; rw [if_neg (by omega), Hf.out, if_pos hgt]
      have Hl : Hid (takeL ss (k : Int) = []) := by show _ = _; unfold takeL; rw [if_neg (by rw [Hc.out]; decide)]
      have Hm : Hid (takeM ss (k : Int) = ss) := by show _ = _; unfold takeM; rw [Hl.out]; rfl
      go_wp2_with fail
      go_ret3
      rw [Hc.out, Hl.out, Hm.out]
      exact ⟨v, none, 0, rfl, HN2.out, LiesV.nil _ _ _, (fun a e => by cases e), by first | exact HB2.out | (rw [hN]; exact HB2.out)⟩
    · have hkf : (k : Int) ≤ (f : Int) := by omega
      have Hc : Hid (takeC ss (k : Int) = 0) := by show _ = _; unfold takeC; rw [if_neg (by omega), Hf.out, if_neg hgt]
      have Hl : Hid (takeL ss (k : Int) = (ofS ss 0).take k) := by show _ = _; unfold takeL; rw [if_pos Hc.out]; rfl
      have HL : Hid (LiesV w2 w2.heap.size A (nats (ofS ss 0))) := by
        obtain ⟨A', c', hv, _, _, _, hl⟩ := LiesV.of_own Hr.out
        injection hv with e1
        subst e1
        exact hl
      have HN0 : Hid (NumsAt w2 v (useL ss ((ofS ss 0).take 0))) := HN2.out
      clear Hr HN2 hgt
      go_wp2_with fail
      rw [decide_eq_false (show ¬ f < k by omega)]
      go_loopw [8, 9] (fun v8 v9 W => ∃ i : Nat, i ≤ k ∧ v9 = .int .i64 i ∧ Hid (NumsAt W v8 (useL ss ((ofS ss 0).take i))) ∧ Hid (LiesV W w2.heap.size A (nats (ofS ss 0))) ∧ Hid (Below N w W) ∧ Hid (w2.heap.size ≤ W.heap.size)) (fun _ v _ => k - (intOf v).toNat)
      case atStart => exact ⟨0, Nat.zero_le _, rfl, HN0, HL, HB2, Nat.le_refl _⟩
      case round =>
        obtain ⟨i, hi, rfl, HN1, HL1, HB1, HZ1⟩ := hrel
        by_cases hlt : i < k
        · have hlt' : (i : Int) < (k : Int) := by omega
          have hif : (i : Int) < (f : Int) := by omega
          obtain ⟨x, hx⟩ : ∃ x, (ofS ss 0)[i]? = some x := ⟨_, List.getElem?_eq_getElem (by rw [Hf.out]; omega)⟩
          have hxl : x < ss.length := ofS_lt (List.mem_of_getElem? hx)
          have hn : (nats (ofS ss 0))[i]? = some (.int .i64 (x : Int)) := by rw [nats, List.getElem?_map, hx]; rfl
          obtain ⟨p, q, hA, _, hc⟩ := HL1.out.at_ hn
          have Hx := Lib.hid hx
          subst hA
          clear hn hx
          go_wp2_with fail
          refine (rset10_any wr u8 _ HN1.out (by rw [useL_length]; exact hp) (by rw [useL_length]; exact hle) (x : Int) 1).mono ?_
          rintro e w3 ⟨v3, rfl, hn3, hb3⟩
          rw [useL_set hxl] at hn3
          have ht : (ofS ss 0).take i ++ [x] = (ofS ss 0).take (i + 1) := by rw [List.take_add_one, Hx.out]; rfl
          rw [ht] at hn3
          have HN3 := Lib.hid hn3
          have HL3 := Lib.hid (HL1.out.below (hb3.mono HZ1.out))
          have HB3 := Lib.hid (HB1.out.trans (hb3.mono (by have := HZ1.out; omega)))
          have HZ3 : Hid (w2.heap.size ≤ w3.heap.size) := Nat.le_trans HZ1.out hb3.size
          clear hn3 hb3 ht hc HN1 HL1 HB1 HZ1
          go_wp2_with fail
          go_roundw
          case rel => exact ⟨i + 1, by omega, by go_num, HN3, HL3, HB3, HZ3⟩
          case measure => simp [intOf]; omega
        · obtain rfl : i = k := by omega
          have hfc' : (f : Int) ≤ (c : Int) := by omega
          go_wp2_with fail
          go_quiet (fail)
          have Hi : Hid ((takeL ss (i : Int)).length = i) := by show _ = _; rw [Hl.out, List.length_take, Hf.out]; omega
          have Hmm : Hid (takeM ss (i : Int) = useL ss ((ofS ss 0).take i)) := by show _ = _; unfold takeM; rw [Hl.out]
          have hB9 : Below N w (wr.drewN nq) := below_drewN' HB1.out nq
          have hN9 : NumsAt (wr.drewN nq) u8 (useL ss ((ofS ss 0).take i)) := HN1.out
          have hL9 : LiesV (wr.drewN nq) (wr.drewN nq).heap.size A (nats (takeL ss (i : Int))) := by
            rw [Hl.out]
            exact (show LiesV (wr.drewN nq) w2.heap.size A (nats ((ofS ss 0).take i)) from HL1.out.take10 i).le HZ1.out
          generalize wr.drewN nq = wz at *
          go_wp2_with fail
          go_ret3
          rw [Hc.out, Hmm.out]
          exact ⟨u8, A, c, by rw [Hi.out]; rfl, hN9, hL9, (by first | exact HF.out | (rw [hN]; exact HF.out)), by first | exact hB9 | (rw [hN]; exact hB9)⟩
end Go.Proofs.Yticlbefbnfnlmaa
