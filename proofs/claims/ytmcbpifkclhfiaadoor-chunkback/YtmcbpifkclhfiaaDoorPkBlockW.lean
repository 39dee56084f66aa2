/-
  The contract of digest.blockWords.
-/
import Derived.Test.YtmcbpifkclhfiaaDoorPkRot
import Derived.Test.YtmcbpifkclhfiaaDoorPkHashM
import Derived.Test.YtmcbpifkclhfiaaDoorPkRSame
import Derived.StillTailTactics
import Derived.Test.YtmcbpifkclhfiaaDoorPkStillB
namespace Go.Proofs.YtmcbpifkclhfiaaDoor
open Go.RowKit
set_option linter.unusedVariables false

def no64 : List (BitVec 32) := List.replicate 64 0#32
theorem Tryd.zeroW : (Tryd.prog.info? 61).bind (·.zero) = some (.agg (wcells no64).toArray) := by kernel_rfl
theorem Tryd.sizeW : (Tryd.prog.info? 61).map (·.size) = some 64 := by kernel_rfl
theorem Tryd.lenW : Tryd.prog.arrayLen 61 = 64 := by kernel_rfl
theorem Tryd.lenB : Tryd.prog.arrayLen 64 = 64 := by kernel_rfl

set_option maxRecDepth 100000 in
set_option maxHeartbeats 400000 in
theorem blockWords_any (b : List UInt8) (hb : b.length = 64) (w : World) :
    Calls Tryd.prog 43 #[.agg (cells b).toArray] w fun e w' => e = .returned (.agg (wcells (ext (words16 b) 48)).toArray) ∧ Below w.heap.size w w' := by
  have Hb := Lib.hid hb
  clear hb
  go_enter Tryd.func43, Tryd.ntmps43
  go_wp2_with (with_reducible refine at_box 64 ?_; refine wpList_box_rowV rfl 64 _ rfl (cells b) rfl ?_)
  intro w1 hr1 hb1 hs1
  go_wp2_with (with_reducible refine at_alloc 61 ?_; refine wpList_alloc_rowV rfl 61 rfl (wcells no64) Tryd.zeroW ?_)
  intro w2 hr2 hb2 hs2
  go_wp2_with (with_reducible refine at_alloc 61 ?_; refine wpList_alloc_rowV rfl 61 rfl (wcells no64) Tryd.zeroW ?_)
  intro w3 hr3 hb3 hs3
  go_wp2_with fail
  have hB0 : Below w.heap.size w w3 := hb1.trans ((hb2.mono (by omega)).trans (hb3.mono (by omega)))
  have hrB : RowV w3 w.heap.size 64 (cells b) := (hr1.below (by omega) hb2).below (by omega) hb3
  have hrR : RowV w3 (w.heap.size + 1) 61 (wcells no64) := hr2.below (by omega) hb3
  clear hr1 hb1 hs1 hr2 hb2 hs2 hb3 hs3
  have hlt1 : w.heap.size < w.heap.size + 1 := by omega
  have hlt2 : w.heap.size + 1 < w.heap.size + 1 + 1 := by omega
  generalize hgW : w.heap.size + 1 + 1 = gW at *
  generalize hgR : w.heap.size + 1 = gR at *
  have hle0 : w.heap.size ≤ w.heap.size := Nat.le_refl _
  generalize hgB : w.heap.size = gB at *
  clear hgW hgR
  go_loopw [12] (fun i W => ∃ k : Nat, k ≤ 16 ∧ i = .int .i64 k ∧ RowV W gB 64 (cells b) ∧ RowV W gR 61 (wcells no64) ∧ RowV W gW 61 (wcells (fillW ((words16 b).take k) 64)) ∧ Below gB w W) (fun i _ => 16 - (intOf i).toNat)
  case atStart => exact ⟨0, Nat.zero_le _, rfl, hrB, hrR, hr3, hB0⟩
  case round =>
    obtain ⟨k, hk, hik, hrB', hrR', hrW, hB⟩ := hrel
    subst hik
    clear hr3 hrB hrR hB0
    by_cases hlt : k < 16
    · have Hl0 : Hid (((words16 b).take k).length = k) := by show _ = _; rw [List.length_take, words16_length]; omega
      have Hset0 := Lib.hid (words16_take_succ b hlt)
      have hsl : ∀ W, (Instr.sliceAt 64 (.pointer (some ⟨gB, 0, none⟩)) (some (.int .i64 (4 * (k : Int)))) (some (.int .i64 (4 * ((k : Int) + 1)))) none).run Tryd.prog W = .ok (.slice (some ⟨gB, 0 + 4 * k, none⟩) (4 * k + 4 - 4 * k) (64 - 4 * k)) W := fun W => run_slice_arr Tryd.underlying64 Tryd.size5 gB 0 .i64 .i64 _ _ (4 * k) (4 * k + 4) (by omega) (by omega) (by omega) (by omega) (by omega)
      rw [show 4 * k + 4 - 4 * k = 4 by omega, Nat.zero_add] at hsl
      have hlW := Tryd.lenW
      have hk4 : 4 * k ≤ 60 := by omega
      go_wp2_with fail
      clear hsl
      generalize hK4 : 4 * k = k4 at *
      have HK4 := Lib.hid hK4
      clear hK4
      generalize hF : fillW ((words16 b).take k) 64 = F at *
      have HF := Lib.hid hF
      clear hF
      have HFl : Hid (F.length = 64) := by show _ = _; rw [← HF.out, fillW_length (by rw [Hl0.out]; omega)]
      have HF0 : Hid (F.set k (part4 b k4 0) = F) := by
        show _ = _
        have := fillW_zero (l := (words16 b).take k) (k := 64) (by rw [Hl0.out]; omega)
        rw [Hl0.out, HF.out] at this
        rw [part4_zero]
        exact this
      go_loopw [22] (fun i W => ∃ j : Nat, j ≤ 4 ∧ i = .int .i64 j ∧ RowV W gB 64 (cells b) ∧ RowV W gR 61 (wcells no64) ∧ RowV W gW 61 (wcells (F.set k (part4 b k4 j))) ∧ Below gB w W) (fun i _ => 4 - (intOf i).toNat)
      case atStart => exact ⟨0, Nat.zero_le _, rfl, hrB', hrR', by rw [HF0.out]; exact hrW, hB⟩
      case round =>
        obtain ⟨j, hj, hij, hrB1, hrR1, hrW1, hB1⟩ := hrel
        subst hij
        clear hrB' hrR' hrW hB
        by_cases hj4 : j < 4
        · obtain ⟨x, hx⟩ : ∃ x, b[k4 + j]? = some x := ⟨_, List.getElem?_eq_getElem (by rw [Hb.out]; omega)⟩
          have hxl := x.toNat_lt
          have hc1 := hrB1.cell (cells_get hx)
          have Hstep := Lib.hid (part4_succ hx hj4)
          have hc2 := hrW1.word (i := k) (by rw [List.length_set, HFl.out]; omega)
          rw [getD_set_self (by rw [HFl.out]; omega)] at hc2
          have hfz := hrW1.frozen k
          have HW := Lib.hid (hrW1.setWord k (part4 b k4 (j + 1)))
          rw [List.set_set] at HW
          have HB := Lib.hid (fun v => hrB1.setCell_other (p := ⟨gW, k, none⟩) (show gB ≠ gW by omega) v)
          have HR := Lib.hid (fun v => hrR1.setCell_other (p := ⟨gW, k, none⟩) (show gR ≠ gW by omega) v)
          have HBe := Lib.hid (fun v => hB1.setCell (p := ⟨gW, k, none⟩) (show gB ≤ gW by omega) v)
          have hnb := nv_bd (part4 b k4 j)
          have E1 := Lib.hid (show nv (part4 b k4 j) * (256 : Int) % (4294967296 : Int) = nv (part4 b k4 j <<< 8) from shl_nat (part4 b k4 j) 8)
          have e2 := nv_ofNat (n := x.toNat) (by omega)
          have e3 := or_nat (part4 b k4 j <<< 8) (BitVec.ofNat 32 x.toNat)
          rw [Hstep.out, e2] at e3
          clear e2 hrB1 hrR1 hrW1 hB1 hx
          go_wp2
          go_roundw
          case rel => exact ⟨j + 1, by omega, by go_num, HB.out _, HR.out _, by rw [E1.out, e3]; exact HW.out, HBe.out _⟩
          case measure => simp [intOf]; omega
        · obtain rfl : j = 4 := by omega
          have hnext : F.set k (part4 b k4 4) = fillW ((words16 b).take (k + 1)) 64 := by
            have := fillW_set (l := (words16 b).take k) (k := 64) (word4 b k4) (by rw [Hl0.out]; omega)
            rw [Hl0.out, HF.out, ← Hset0.out] at this
            rw [part4_word (by rw [Hb.out]; omega)]
            exact this
          rw [hnext] at hrW1
          clear hnext
          go_wp2
          go_roundw
          case rel => exact ⟨k + 1, by omega, by go_num, hrB1, hrR1, hrW1, hB1⟩
          case measure => simp [intOf]; omega
    · obtain rfl : k = 16 := by omega
      have he0 : fillW ((words16 b).take 16) 64 = fillW (ext (words16 b) 0) 64 := by
        rw [List.take_of_length_le (by rw [words16_length]; omega)]
        rfl
      rw [he0] at hrW
      clear he0 hrB'
      go_wp2_with fail
      go_loopw [7] (fun i W => ∃ k : Nat, k ≤ 48 ∧ i = .int .i64 ((k + 16 : Nat) : Int) ∧ RowV W gR 61 (wcells no64) ∧ RowV W gW 61 (wcells (fillW (ext (words16 b) k) 64)) ∧ Below gB w W) (fun i _ => 64 - (intOf i).toNat)
      case atStart => exact ⟨0, Nat.zero_le _, rfl, hrR', hrW, hB⟩
      case round =>
        obtain ⟨k, hk, hik, hrR, hrW1, hB1⟩ := hrel
        subst hik
        clear hrR' hrW hB
        by_cases hlt : k < 48
        · have Hl : Hid ((ext (words16 b) k).length = k + 16) := by show _ = _; rw [ext_length, words16_length]; omega
          have Hl64 : Hid ((fillW (ext (words16 b) k) 64).length = 64) := by show _ = _; rw [fillW_length (by rw [Hl.out]; omega)]
          have c0 := hrW1.word (i := k) (by rw [Hl64.out]; omega)
          have c1 := hrW1.word (i := k + 1) (by rw [Hl64.out]; omega)
          have c9 := hrW1.word (i := k + 9) (by rw [Hl64.out]; omega)
          have c14 := hrW1.word (i := k + 14) (by rw [Hl64.out]; omega)
          rw [fillW_get (by rw [Hl.out]; omega)] at c0 c1 c9 c14
          have Hset := Lib.hid (fillW_set (l := ext (words16 b) k) (k := 64) ((ext (words16 b) k).getD k 0#32 + sg0 ((ext (words16 b) k).getD (k + 1) 0#32) + (ext (words16 b) k).getD (k + 9) 0#32 + sg1 ((ext (words16 b) k).getD (k + 14) 0#32)) (by rw [Hl.out]; omega))
          rw [Hl.out] at Hset
          change Hid (_ = fillW (ext (words16 b) (k + 1)) 64) at Hset
          replace hrR := hrR.drew
          replace hrW1 := hrW1.drew
          replace hB1 := hB1.drew
          have c0 : wr.drew.cell? _ = _ := c0
          have c9 : wr.drew.cell? _ = _ := c9
          generalize hF : fillW (ext (words16 b) k) 64 = F at *
          clear hF
          generalize (ext (words16 b) k).getD k 0#32 = x0 at *
          generalize (ext (words16 b) k).getD (k + 1) 0#32 = x1 at *
          generalize (ext (words16 b) k).getD (k + 9) 0#32 = x9 at *
          generalize (ext (words16 b) k).getD (k + 14) 0#32 = x14 at *
          obtain ⟨i, hi⟩ : ∃ i, k + 16 = i := ⟨_, rfl⟩
          obtain ⟨i1, hi1⟩ : ∃ i, k + 1 = i := ⟨_, rfl⟩
          obtain ⟨i9, hi9⟩ : ∃ i, k + 9 = i := ⟨_, rfl⟩
          obtain ⟨i14, hi14⟩ : ∃ i, k + 14 = i := ⟨_, rfl⟩
          have d1 : IntKind.i64.wrap ((i : Int) - 15) = (i1 : Int) := by rw [IntWalk.i64_in _ (by omega)]; omega
          have d14 : IntKind.i64.wrap ((i : Int) - 2) = (i14 : Int) := by rw [IntWalk.i64_in _ (by omega)]; omega
          have d0 : IntKind.i64.wrap ((i : Int) - 16) = (k : Int) := by rw [IntWalk.i64_in _ (by omega)]; omega
          have d9 : IntKind.i64.wrap ((i : Int) - 7) = (i9 : Int) := by rw [IntWalk.i64_in _ (by omega)]; omega
          have b0 : (k : Int) < 64 := by omega
          have b1 : (i1 : Int) < 64 := by omega
          have b9 : (i9 : Int) < 64 := by omega
          have b14 : (i14 : Int) < 64 := by omega
          have b16 : (i : Int) < 64 := by omega
          have Hi := Lib.hid hi
          rw [hi1] at c1
          rw [hi9] at c9
          rw [hi14] at c14
          simp only [hi] at Hset ⊢
          clear hi hi1 hi9 hi14
          have hlW := Tryd.lenW
          have n0 := nv_bd x0
          have n1 := nv_bd x1
          have n9 := nv_bd x9
          have n14 := nv_bd x14
          go_wp2_with fail
          refine wp_region_still_tail 9 (by kernel_rfl) (by kernel_rfl) ?_
          simp only [List.take_succ_cons, List.take_zero, List.drop_succ_cons, List.drop_zero]
          iterate 9 still_step
          refine wpStill_nil ?_
          change wpList _ _ _ _ _ wr.drew
          clear c1 c14
          generalize wr.drew = wd at *
          go_wp2_with fail
          refine (rotated_any x1 7 (by omega) (by omega) _).mono ?_
          rintro e w' ⟨rfl, rfl⟩
          go_wp2_with fail
          refine (rotated_any x1 18 (by omega) (by omega) _).mono ?_
          rintro e w' ⟨rfl, rfl⟩
          have E1 := Lib.hid (show nv x1 / (8 : Int) = nv (x1 >>> 3) from shr_nat x1 3)
          have E2 := Lib.hid (xor_nat (rot x1 7) (rot x1 18))
          have E3 := Lib.hid (show bits .xor .u32 (nv (rot x1 7 ^^^ rot x1 18)) (nv (x1 >>> 3)) = nv (sg0 x1) from xor_nat (rot x1 7 ^^^ rot x1 18) (x1 >>> 3))
          go_wp2_with fail
          rw [E1.out, E2.out, E3.out]
          clear E1 E2 E3
          have n2 := nv_bd (sg0 x1)
          generalize sg0 x1 = y0 at *
          refine (rotated_any x14 17 (by omega) (by omega) _).mono ?_
          rintro e w' ⟨rfl, rfl⟩
          go_wp2_with fail
          refine (rotated_any x14 19 (by omega) (by omega) _).mono ?_
          rintro e w' ⟨rfl, rfl⟩
          have E1 := Lib.hid (show nv x14 / (1024 : Int) = nv (x14 >>> 10) from shr_nat x14 10)
          have E2 := Lib.hid (xor_nat (rot x14 17) (rot x14 19))
          have E3 := Lib.hid (show bits .xor .u32 (nv (rot x14 17 ^^^ rot x14 19)) (nv (x14 >>> 10)) = nv (sg1 x14) from xor_nat (rot x14 17 ^^^ rot x14 19) (x14 >>> 10))
          go_wp2_with fail
          rw [E1.out, E2.out, E3.out]
          clear E1 E2 E3
          have n3 := nv_bd (sg1 x14)
          generalize sg1 x14 = y1 at *
          have a1 := add_nat x0 y0
          have a2 := add_nat (x0 + y0) x9
          have a3 := add_nat (x0 + y0 + x9) y1
          have hfz := hrW1.frozen i
          have c16 := hrW1.word (i := i) (by rw [Hl64.out]; omega)
          generalize F.getD i 0#32 = x16 at *
          have HW := Lib.hid (hrW1.drew.setWord i (x0 + y0 + x9 + y1))
          rw [Hset.out] at HW
          have HR := Lib.hid (fun v => hrR.drew.setCell_other (p := ⟨gW, i, none⟩) (show gR ≠ gW by omega) v)
          have HBe := Lib.hid (fun v => hB1.drew.setCell (p := ⟨gW, i, none⟩) (show gB ≤ gW by omega) v)
          clear hrR hrW1 hB1
          refine wp_region_still_tail 15 (by kernel_rfl) (by kernel_rfl) ?_
          simp only [List.take_succ_cons, List.take_zero, List.drop_succ_cons, List.drop_zero]
          iterate 15 still_step
          refine wpStill_nil ?_
          change wpList _ _ _ _ _ wd.drew
          go_wp2
          go_roundw
          case rel =>
            (repeat apply Exists.intro)
            refine ⟨⟨k + 1, ?_, ?_, HR.out _, HW.out, HBe.out _⟩, rfl⟩
            · omega
            · rw [← Hi.out]
              go_num
          case measure => simp [intOf]; omega
        · obtain rfl : k = 48 := by omega
          have Hl64 : Hid ((ext (words16 b) 48).length = 64) := by show _ = _; rw [ext_length, words16_length]
          rw [fillW_full Hl64.out] at hrW1
          generalize hws : ext (words16 b) 48 = ws at *
          have Hws := Lib.hid hws
          clear hws
          have hsz : (Tryd.prog.info? 61).map (·.size) = some ((wcells ws).toArray).size := by rw [Tryd.sizeW, List.size_toArray, wcells_length, Hl64.out]
          have Hsz := Lib.hid hsz
          have Hold : Hid (((wcells no64).toArray).size = ((wcells ws).toArray).size) := by show _ = _; rw [List.size_toArray, List.size_toArray, wcells_length, wcells_length, Hl64.out]; rfl
          clear hsz
          go_wp2_with (first
            | ((with_reducible refine at_load 61 ?_); refine wpList_load_row rfl 61 _ rfl gW rfl 61 _ (0, 0) _ hrW1 Tryd.underlying61 rfl Hsz.out ?_)
            | ((with_reducible refine at_store 61 ?_); refine wpList_store_row rfl 61 _ _ rfl gR _ rfl rfl 61 _ hrR Hsz.out Hold.out (wcells_oneCell _) ?_))
          refine bodyPost_ret (results_cell_row (fn := Tryd.f43) rfl _ _ gR 61 _ (0, 0) _ rfl (hrR.put (wcells ws)) Tryd.underlying61 rfl Hsz.out) rfl ⟨by rw [Hws.out], ?_⟩
          rw [hgB]
          exact below_setRow hB1 (by omega) _
end Go.Proofs.YtmcbpifkclhfiaaDoor
