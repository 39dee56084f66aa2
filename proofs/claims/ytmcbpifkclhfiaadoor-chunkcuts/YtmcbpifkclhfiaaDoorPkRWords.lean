/-
  The contract of the reference's words (layer 3).
-/
import Derived.Test.YtmcbpifkclhfiaaDoorPkBlockW
namespace Go.Proofs.YtmcbpifkclhfiaaDoor
open Go.RowKit
set_option linter.unusedVariables false

/-- The block that begins at a place. -/
def blockAt (b : List UInt8) (p : Nat) : List UInt8 := (b.drop p).take 64
theorem blockAt_length {b : List UInt8} {p : Nat} (h : p + 64 ≤ b.length) : (blockAt b p).length = 64 := by
  unfold blockAt
  rw [List.length_take, List.length_drop]
  omega
theorem blockAt_get {b : List UInt8} {p i : Nat} (h : i < 64) : (blockAt b p)[i]? = b[p + i]? := by
  unfold blockAt
  rw [List.getElem?_take, if_pos h, List.getElem?_drop]
theorem word4_of {b : List UInt8} {i : Nat} {x0 x1 x2 x3 : UInt8} (h0 : b[i]? = some x0) (h1 : b[i + 1]? = some x1) (h2 : b[i + 2]? = some x2) (h3 : b[i + 3]? = some x3) :
    nv (word4 b i) = (x0.toNat : Int) * 16777216 + (x1.toNat : Int) * 65536 + (x2.toNat : Int) * 256 + (x3.toNat : Int) := by
  have b0 := x0.toNat_lt
  have b1 := x1.toNat_lt
  have b2 := x2.toNat_lt
  have b3 := x3.toNat_lt
  unfold word4
  rw [List.getD_eq_getElem?_getD, List.getD_eq_getElem?_getD, List.getD_eq_getElem?_getD, List.getD_eq_getElem?_getD, h0, h1, h2, h3, nv_ofNat (by simp only [Option.getD_some]; omega)]
  simp only [Option.getD_some]
  omega

set_option maxRecDepth 100000 in
set_option maxHeartbeats 2000000 in
theorem rwords_any (A : Option Addr) (n c p : Nat) (xs : List UInt8) (w : World) (B : Nat) (h : Lies w B A xs) (hB : B ≤ w.heap.size) (hn : n = xs.length) (hl : n ≤ 1000000000) (hp : p + 64 ≤ n) :
    Calls Tryd.prog 40 #[.slice A n c, .int .i64 (p : Int)] w fun e w' => e = .returned (.agg (wcells (ext (words16 (blockAt xs p)) 48)).toArray) ∧ Below w.heap.size w w' := by
  have Hn := Lib.hid hn
  have Hh := Lib.hid h
  have HB := Lib.hid hB
  clear hn h hB
  go_enter Tryd.func40, Tryd.ntmps40
  go_wp2_with (with_reducible refine at_alloc 61 ?_; refine wpList_alloc_rowV rfl 61 rfl (wcells no64) Tryd.zeroW ?_)
  intro w2 hr2 hb2 hs2
  go_wp2_with (with_reducible refine at_alloc 61 ?_; refine wpList_alloc_rowV rfl 61 rfl (wcells no64) Tryd.zeroW ?_)
  intro w3 hr3 hb3 hs3
  go_wp2_with fail
  have hB0 : Below w.heap.size w w3 := hb2.trans (hb3.mono (by omega))
  have hrR : RowV w3 w.heap.size 61 (wcells no64) := hr2.below (by omega) hb3
  clear hr2 hb2 hs2 hb3 hs3
  have hlt2 : w.heap.size < w.heap.size + 1 := by omega
  generalize hgW : w.heap.size + 1 = gW at *
  clear hgW
  generalize hgB : w.heap.size = gR at *
  have Hbl : Hid ((blockAt xs p).length = 64) := blockAt_length (by rw [← Hn.out]; exact hp)
  have Hbg : Hid (∀ i, i < 64 → (blockAt xs p)[i]? = xs[p + i]?) := fun i hi => blockAt_get hi
  generalize hbb : blockAt xs p = b at *
  have Hbb := Lib.hid hbb
  clear hbb
  go_loopw [6] (fun i W => ∃ k : Nat, k ≤ 16 ∧ i = .int .i64 k ∧ RowV W gR 61 (wcells no64) ∧ RowV W gW 61 (wcells (fillW ((words16 b).take k) 64)) ∧ Below gR w W) (fun i _ => 16 - (intOf i).toNat)
  case atStart => exact ⟨0, Nat.zero_le _, rfl, hrR, hr3, hB0⟩
  case round =>
    obtain ⟨k, hk, hik, hrR', hrW, hB⟩ := hrel
    subst hik
    clear hr3 hrR hB0
    by_cases hlt : k < 16
    · have Hl0 : Hid (((words16 b).take k).length = k) := by show _ = _; rw [List.length_take, words16_length]; omega
      have Hset0 := Lib.hid (words16_take_succ b hlt)
      have Hnext := Lib.hid (fillW_set (l := (words16 b).take k) (k := 64) (word4 b (4 * k)) (by rw [Hl0.out]; omega))
      rw [Hl0.out, ← Hset0.out] at Hnext
      have HFl : Hid ((fillW ((words16 b).take k) 64).length = 64) := by show _ = _; rw [fillW_length (by rw [Hl0.out]; omega)]
      have hL := (Hh.out.below (hB.mono HB.out))
      obtain ⟨bb, o, x0, rfl, _, hx0, hc0⟩ := hL.at_ (i := p + 4 * k) (by rw [← Hn.out]; omega)
      obtain ⟨_, _, x1, e1, _, hx1, hc1⟩ := hL.at_ (i := p + 4 * k + 1) (by rw [← Hn.out]; omega)
      obtain ⟨_, _, x2, e2, _, hx2, hc2⟩ := hL.at_ (i := p + 4 * k + 2) (by rw [← Hn.out]; omega)
      obtain ⟨_, _, x3, e3, _, hx3, hc3⟩ := hL.at_ (i := p + 4 * k + 3) (by rw [← Hn.out]; omega)
      simp only [Option.some.injEq, Addr.mk.injEq, and_true] at e1 e2 e3
      obtain ⟨rfl, rfl⟩ := e1
      obtain ⟨rfl, rfl⟩ := e2
      obtain ⟨rfl, rfl⟩ := e3
      have Hw := Lib.hid (word4_of (b := b) (i := 4 * k) (x0 := x0) (x1 := x1) (x2 := x2) (x3 := x3) (by rw [Hbg.out _ (by omega)]; exact hx0) (by rw [Hbg.out _ (by omega), ← Nat.add_assoc]; exact hx1) (by rw [Hbg.out _ (by omega), ← Nat.add_assoc]; exact hx2) (by rw [Hbg.out _ (by omega), ← Nat.add_assoc]; exact hx3))
      clear hx0 hx1 hx2 hx3 hL
      have y0 := x0.toNat_lt
      have y1 := x1.toNat_lt
      have y2 := x2.toNat_lt
      have y3 := x3.toNat_lt
      have hcw := hrW.word (i := k) (by rw [HFl.out]; omega)
      have hfz := hrW.frozen k
      have HW := Lib.hid (hrW.drew.setWord k (word4 b (4 * k)))
      rw [Hnext.out] at HW
      have HR := Lib.hid (fun v => hrR'.drew.setCell_other (p := ⟨gW, k, none⟩) (show gR ≠ gW by omega) v)
      have HBe := Lib.hid (fun v => hB.drew.setCell (p := ⟨gW, k, none⟩) (show gR ≤ gW by omega) v)
      clear hrW hrR' hB
      obtain ⟨P0, h0⟩ : ∃ P, p + 4 * k = P := ⟨_, rfl⟩
      rw [h0] at hc0 hc1 hc2 hc3
      have hP : P0 + 4 ≤ n := by omega
      have i1 : IntKind.i64.wrap (4 * (k : Int)) = 4 * (k : Int) := IntWalk.i64_in _ (by omega)
      have i2 : IntKind.i64.wrap ((p : Int) + 4 * (k : Int)) = (P0 : Int) := by rw [IntWalk.i64_in _ (by omega)]; omega
      have i3 : IntKind.i64.wrap ((P0 : Int) + 1) = ((P0 + 1 : Nat) : Int) := by rw [IntWalk.i64_in _ (by omega)]; omega
      have i4 : IntKind.i64.wrap ((P0 : Int) + 2) = ((P0 + 2 : Nat) : Int) := by rw [IntWalk.i64_in _ (by omega)]; omega
      have i5 : IntKind.i64.wrap ((P0 : Int) + 3) = ((P0 + 3 : Nat) : Int) := by rw [IntWalk.i64_in _ (by omega)]; omega
      obtain ⟨P1, h1⟩ : ∃ P, P0 + 1 = P := ⟨_, rfl⟩
      obtain ⟨P2, h2⟩ : ∃ P, P0 + 2 = P := ⟨_, rfl⟩
      obtain ⟨P3, h3⟩ : ∃ P, P0 + 3 = P := ⟨_, rfl⟩
      have q0 : (P0 : Int) < (n : Int) := by omega
      have q1 : (P1 : Int) < (n : Int) := by omega
      have q2 : (P2 : Int) < (n : Int) := by omega
      have q3 : (P3 : Int) < (n : Int) := by omega
      rw [h1] at i3 hc1
      rw [h2] at i4 hc2
      rw [h3] at i5 hc3
      have v0 : IntKind.u32.wrap (x0.toNat : Int) = (x0.toNat : Int) := (show _ = (x0.toNat : Int) % 4294967296 from rfl).trans (by omega)
      have v1 : IntKind.u32.wrap (x1.toNat : Int) = (x1.toNat : Int) := (show _ = (x1.toNat : Int) % 4294967296 from rfl).trans (by omega)
      have v2 : IntKind.u32.wrap (x2.toNat : Int) = (x2.toNat : Int) := (show _ = (x2.toNat : Int) % 4294967296 from rfl).trans (by omega)
      have v3 : IntKind.u32.wrap (x3.toNat : Int) = (x3.toNat : Int) := (show _ = (x3.toNat : Int) % 4294967296 from rfl).trans (by omega)
      have m0 : IntKind.u32.wrap ((x0.toNat : Int) * 16777216) = (x0.toNat : Int) * 16777216 := (show _ = ((x0.toNat : Int) * 16777216) % 4294967296 from rfl).trans (by omega)
      have m1 : IntKind.u32.wrap ((x1.toNat : Int) * 65536) = (x1.toNat : Int) * 65536 := (show _ = ((x1.toNat : Int) * 65536) % 4294967296 from rfl).trans (by omega)
      have m2 : IntKind.u32.wrap ((x2.toNat : Int) * 256) = (x2.toNat : Int) * 256 := (show _ = ((x2.toNat : Int) * 256) % 4294967296 from rfl).trans (by omega)
      have s1 : IntKind.u32.wrap ((x0.toNat : Int) * 16777216 + (x1.toNat : Int) * 65536) = (x0.toNat : Int) * 16777216 + (x1.toNat : Int) * 65536 := (show _ = ((x0.toNat : Int) * 16777216 + (x1.toNat : Int) * 65536) % 4294967296 from rfl).trans (by omega)
      have s2 : IntKind.u32.wrap ((x0.toNat : Int) * 16777216 + (x1.toNat : Int) * 65536 + (x2.toNat : Int) * 256) = (x0.toNat : Int) * 16777216 + (x1.toNat : Int) * 65536 + (x2.toNat : Int) * 256 := (show _ = ((x0.toNat : Int) * 16777216 + (x1.toNat : Int) * 65536 + (x2.toNat : Int) * 256) % 4294967296 from rfl).trans (by omega)
      have s3 : IntKind.u32.wrap ((x0.toNat : Int) * 16777216 + (x1.toNat : Int) * 65536 + (x2.toNat : Int) * 256 + (x3.toNat : Int)) = (x0.toNat : Int) * 16777216 + (x1.toNat : Int) * 65536 + (x2.toNat : Int) * 256 + (x3.toNat : Int) := (show _ = ((x0.toNat : Int) * 16777216 + (x1.toNat : Int) * 65536 + (x2.toNat : Int) * 256 + (x3.toNat : Int)) % 4294967296 from rfl).trans (by omega)
      clear h0 h1 h2 h3
      have b0 : (k : Int) < 64 := by omega
      have hlW := Tryd.lenW
      have hd : decide ((k : Int) < 16) = true := decide_eq_true (by omega)
      go_wp2_with fail
      refine wp_region_still_tail 43 (by kernel_rfl) (by kernel_rfl) ?_
      simp only [List.take_succ_cons, List.take_zero, List.drop_succ_cons, List.drop_zero]
      iterate 43 still_step
      refine wpStill_nil ?_
      change wpList _ _ _ _ _ wr.drew
      rw [← Hw.out]
      clear v0 v1 v2 v3 m0 m1 m2 s1 s2 s3 i1 i2 i3 i4 i5 hc0 hc1 hc2 hc3 q0 q1 q2 q3 y0 y1 y2 y3
      have nw := nv_bd (word4 b (4 * k))
      go_wp2
      go_roundw
      case rel =>
        refine ⟨k + 1, ?_, ?_, HR.out _, HW.out, HBe.out _⟩
        · omega
        · go_num
      case measure => simp [intOf]; omega
    · obtain rfl : k = 16 := by omega
      have he0 : fillW ((words16 b).take 16) 64 = fillW (ext (words16 b) 0) 64 := by
        rw [List.take_of_length_le (by rw [words16_length]; omega)]
        rfl
      rw [he0] at hrW
      clear he0
      go_wp2_with fail
      go_loopw [7] (fun i W => ∃ k : Nat, k ≤ 48 ∧ i = .int .i64 ((k + 16 : Nat) : Int) ∧ RowV W gR 61 (wcells no64) ∧ RowV W gW 61 (wcells (fillW (ext (words16 b) k) 64)) ∧ Below gR w W) (fun i _ => 64 - (intOf i).toNat)
      case atStart => exact ⟨0, Nat.zero_le _, rfl, hrR', hrW, hB⟩
      case round =>
        obtain ⟨k, hk, hik, hrR, hrW1, hB1⟩ := hrel
        subst hik
        clear hrR' hrW hB
        by_cases hlt : k < 48
        · have Hl : Hid ((ext (words16 b) k).length = k + 16) := by show _ = _; rw [ext_length, words16_length]; omega
          have Hl64 : Hid ((fillW (ext (words16 b) k) 64).length = 64) := by show _ = _; rw [fillW_length (by rw [Hl.out]; omega)]
          have c0 := hrW1.word (i := k) (by rw [Hl64.out]; omega)
          have c1 := hrW1.word (i := k + 1) (by rw [Hl64.out]; omega)
          have c9 := hrW1.word (i := k + 9) (by rw [Hl64.out]; omega)
          have c14 := hrW1.word (i := k + 14) (by rw [Hl64.out]; omega)
          rw [fillW_get (by rw [Hl.out]; omega)] at c0 c1 c9 c14
          have Hset := Lib.hid (fillW_set (l := ext (words16 b) k) (k := 64) ((ext (words16 b) k).getD k 0#32 + sg0 ((ext (words16 b) k).getD (k + 1) 0#32) + (ext (words16 b) k).getD (k + 9) 0#32 + sg1 ((ext (words16 b) k).getD (k + 14) 0#32)) (by rw [Hl.out]; omega))
          rw [Hl.out] at Hset
          change Hid (_ = fillW (ext (words16 b) (k + 1)) 64) at Hset
          replace hrR := hrR.drew
          replace hrW1 := hrW1.drew
          replace hB1 := hB1.drew
          have c0 : wr.drew.cell? _ = _ := c0
          have c9 : wr.drew.cell? _ = _ := c9
          generalize hF : fillW (ext (words16 b) k) 64 = F at *
          clear hF
          generalize (ext (words16 b) k).getD k 0#32 = x0 at *
          generalize (ext (words16 b) k).getD (k + 1) 0#32 = x1 at *
          generalize (ext (words16 b) k).getD (k + 9) 0#32 = x9 at *
          generalize (ext (words16 b) k).getD (k + 14) 0#32 = x14 at *
          obtain ⟨i, hi⟩ : ∃ i, k + 16 = i := ⟨_, rfl⟩
          obtain ⟨i1, hi1⟩ : ∃ i, k + 1 = i := ⟨_, rfl⟩
          obtain ⟨i9, hi9⟩ : ∃ i, k + 9 = i := ⟨_, rfl⟩
          obtain ⟨i14, hi14⟩ : ∃ i, k + 14 = i := ⟨_, rfl⟩
          have d1 : IntKind.i64.wrap ((i : Int) - 15) = (i1 : Int) := by rw [IntWalk.i64_in _ (by omega)]; omega
          have d14 : IntKind.i64.wrap ((i : Int) - 2) = (i14 : Int) := by rw [IntWalk.i64_in _ (by omega)]; omega
          have d0 : IntKind.i64.wrap ((i : Int) - 16) = (k : Int) := by rw [IntWalk.i64_in _ (by omega)]; omega
          have d9 : IntKind.i64.wrap ((i : Int) - 7) = (i9 : Int) := by rw [IntWalk.i64_in _ (by omega)]; omega
          have b0 : (k : Int) < 64 := by omega
          have b1 : (i1 : Int) < 64 := by omega
          have b9 : (i9 : Int) < 64 := by omega
          have b14 : (i14 : Int) < 64 := by omega
          have b16 : (i : Int) < 64 := by omega
          have Hi := Lib.hid hi
          rw [hi1] at c1
          rw [hi9] at c9
          rw [hi14] at c14
          simp only [hi] at Hset ⊢
          clear hi hi1 hi9 hi14
          have hlW := Tryd.lenW
          have n0 := nv_bd x0
          have n1 := nv_bd x1
          have n9 := nv_bd x9
          have n14 := nv_bd x14
          have c14' : wr.drew.cell? _ = _ := c14
          have E1 : nv x1 / (8 : Int) = nv (x1 >>> 3) := shr_nat x1 3
          have E2 := xor_nat (rot x1 7) (rot x1 18)
          have E3 : bits .xor .u32 (nv (rot x1 7 ^^^ rot x1 18)) (nv (x1 >>> 3)) = nv (sg0 x1) := xor_nat (rot x1 7 ^^^ rot x1 18) (x1 >>> 3)
          go_wp2_with fail
          refine wp_region_still_tail 17 (by kernel_rfl) (by kernel_rfl) ?_
          simp only [List.take_succ_cons, List.take_zero, List.drop_succ_cons, List.drop_zero]
          iterate 4 still_step
          still_call (still_ofB (rotr_any x1 7 (by omega) (by omega) _))
          iterate 4 still_step
          still_call (still_ofB (rotr_any x1 18 (by omega) (by omega) _))
          iterate 7 still_step
          refine wpStill_nil ?_
          change wpList _ _ _ _ _ wr.drew
          go_wp2_with fail
          (try rw [E1])
          (try rw [E3])
          clear c1 c14 E1 E2 E3
          generalize wr.drew = wd at *
          have n2 := nv_bd (sg0 x1)
          generalize sg0 x1 = y0 at *
          have c0' : wd.drew.cell? _ = _ := c0
          have c9' : wd.drew.cell? _ = _ := c9
          replace hrR := hrR.drew
          replace hrW1 := hrW1.drew
          replace hB1 := hB1.drew
          have E1 : nv x14 / (1024 : Int) = nv (x14 >>> 10) := shr_nat x14 10
          have E2 := xor_nat (rot x14 17) (rot x14 19)
          have E3 : bits .xor .u32 (nv (rot x14 17 ^^^ rot x14 19)) (nv (x14 >>> 10)) = nv (sg1 x14) := xor_nat (rot x14 17 ^^^ rot x14 19) (x14 >>> 10)
          refine wp_region_still_tail 17 (by kernel_rfl) (by kernel_rfl) ?_
          simp only [List.take_succ_cons, List.take_zero, List.drop_succ_cons, List.drop_zero]
          iterate 4 still_step
          still_call (still_ofB (rotr_any x14 17 (by omega) (by omega) _))
          iterate 4 still_step
          still_call (still_ofB (rotr_any x14 19 (by omega) (by omega) _))
          iterate 7 still_step
          refine wpStill_nil ?_
          change wpList _ _ _ _ _ wd.drew
          go_wp2_with fail
          (try rw [E1])
          (try rw [E3])
          clear c14' c0 c9 E1 E2 E3
          generalize wd.drew = we at *
          have n3 := nv_bd (sg1 x14)
          generalize sg1 x14 = y1 at *
          have a1 := add_wrap x0 y0
          have a2 := add_wrap (x0 + y0) x9
          have a3 := add_wrap (x0 + y0 + x9) y1
          have hfz := hrW1.frozen i
          have c16 := hrW1.word (i := i) (by rw [Hl64.out]; omega)
          generalize F.getD i 0#32 = x16 at *
          have HW := Lib.hid (hrW1.drew.setWord i (x0 + y0 + x9 + y1))
          rw [Hset.out] at HW
          have HR := Lib.hid (fun v => hrR.drew.setCell_other (p := ⟨gW, i, none⟩) (show gR ≠ gW by omega) v)
          have HBe := Lib.hid (fun v => hB1.drew.setCell (p := ⟨gW, i, none⟩) (show gR ≤ gW by omega) v)
          clear hrR hrW1 hB1
          refine wp_region_still_tail 15 (by kernel_rfl) (by kernel_rfl) ?_
          simp only [List.take_succ_cons, List.take_zero, List.drop_succ_cons, List.drop_zero]
          iterate 15 still_step
          refine wpStill_nil ?_
          change wpList _ _ _ _ _ we.drew
          go_wp2
          go_roundw
          case rel =>
            (repeat apply Exists.intro)
            refine ⟨⟨k + 1, ?_, ?_, HR.out _, HW.out, HBe.out _⟩, rfl⟩
            · omega
            · rw [← Hi.out]
              go_num
          case measure => simp [intOf]; omega
        · obtain rfl : k = 48 := by omega
          have Hl64 : Hid ((ext (words16 b) 48).length = 64) := by show _ = _; rw [ext_length, words16_length]
          rw [fillW_full Hl64.out] at hrW1
          generalize hws : ext (words16 b) 48 = ws at *
          have Hws := Lib.hid hws
          clear hws
          have hsz : (Tryd.prog.info? 61).map (·.size) = some ((wcells ws).toArray).size := by rw [Tryd.sizeW, List.size_toArray, wcells_length, Hl64.out]
          have Hsz := Lib.hid hsz
          have Hold : Hid (((wcells no64).toArray).size = ((wcells ws).toArray).size) := by show _ = _; rw [List.size_toArray, List.size_toArray, wcells_length, wcells_length, Hl64.out]; rfl
          clear hsz
          go_wp2_with (first
            | ((with_reducible refine at_load 61 ?_); refine wpList_load_row rfl 61 _ rfl gW rfl 61 _ (0, 0) _ hrW1 Tryd.underlying61 rfl Hsz.out ?_)
            | ((with_reducible refine at_store 61 ?_); refine wpList_store_row rfl 61 _ _ rfl gR _ rfl rfl 61 _ hrR Hsz.out Hold.out (wcells_oneCell _) ?_))
          refine bodyPost_ret (results_cell_row (fn := Tryd.f40) rfl _ _ gR 61 _ (0, 0) _ rfl (hrR.put (wcells ws)) Tryd.underlying61 rfl Hsz.out) rfl ⟨by rw [Hbb.out, Hws.out], ?_⟩
          rw [hgB]
          exact below_setRow hB1 (by omega) _
end Go.Proofs.YtmcbpifkclhfiaaDoor
