/-
  Layer 14: the contracts of sealed and of Put.
-/
import Derived.Test.YtkfhbngphkobfaaPkLefD
import Derived.Test.YtkfhbngphkobfaaPkNumC
import Derived.Test.YtkfhbngphkobfaaPkLit
import Derived.Test.YtkfhbngphkobfaaPkRowR
import Derived.Test.YtkfhbngphkobfaaPkNumTwo
namespace Go.Proofs.Ytkfhbngphkobfaa
open Go.RowKit
set_option linter.unusedVariables false
set_option linter.unusedSimpArgs false

set_option maxRecDepth 100000 in
set_option maxHeartbeats 400000 in
theorem lsealed_any (A : Option Addr) (n c : Nat) (xs : List UInt8) (w : World) (B : Nat) (h : Lies w B A xs) (hn : n = xs.length) (hB : B ≤ w.heap.size) (hx : xs.length ≤ 252) :
    Calls Try.prog 20 #[.slice A n c] w fun e w' => e = .returned (.agg (sealS xs hx).cs.toArray) ∧ Below w.heap.size w w' := by
  have Hn := Lib.hid hn
  have Hh := Lib.hid h
  have Hw := Lib.hid (whole_take hx)
  have He : Hid (wholeS (sealB (fill xs 252)) = sealS xs hx) := Subtype.ext (whole_self (by rw [sealB_length, fill_length hx]))
  have Hl : Hid ((fill xs 252).length = 252) := fill_length hx
  have hsl : ∀ W g, (Instr.sliceAt 28 (.pointer (some ⟨g, 0, none⟩)) none (some (.int .i64 252)) none).run Try.prog W = .ok (.slice (some ⟨g, 0, none⟩) 252 256) W := fun W g => run_slice_arr_to Try.underlying28 Try.size1 g 0 .i64 252 252 rfl (by omega) (by omega)
  clear hn h
  go_enter Try.func20, Try.ntmps20
  go_wp2_with ((with_reducible refine at_alloc 28 ?_); refine alloc_sec rfl rfl ?_)
  intro w1 hr1 hb1 hs1
  go_wp2_with fail
  refine (whole_sec A n c xs w1 B (Hh.out.below (hb1.mono hB)) Hn.out (by omega)).mono ?_
  rintro e w2 ⟨rfl, hb2⟩
  have hr2 := hr1.below (by omega) hb2
  have hB2 := below_seq hb1 hb2
  have hs2 := hb2.size
  go_wp2_with ((with_reducible refine at_alloc 28 ?_); refine alloc_sec rfl rfl ?_)
  intro w3 hr3 hb3 hs3
  have hr13 := hr2.below (by omega) hb3
  have hB3 := below_seq hB2 hb3
  go_wp2_with ((with_reducible refine at_store 28 ?_); refine store_sec rfl _ _ rfl w2.heap.size (wholeS xs) rfl rfl hr3 (Sec.cs_length _) ?_)
  intro w4 hr4 hg4 hs4
  have hr14 := hr13.keep hg4 (fun e => by injection e with e; omega)
  have hB4 := below_grown hB3 hg4 (by omega) (by omega)
  have hl4 : Lies w4 w4.heap.size (some ⟨w2.heap.size, 0, none⟩) (fill xs 252) := by
    have : Row w4 w2.heap.size 28 (wholeB xs) := hr4
    rw [← Hw.out]
    exact this.lies.take 252
  go_wp2_with fail
  refine (sealed_any _ _ _ (fill xs 252) w4 _ hl4 (Nat.le_refl _) Hl.out.symm (by omega)).mono ?_
  rintro e w5 ⟨A5, c5, rfl, _, _, hl5, hb5, _⟩
  have hr15 := hr14.below (by omega) hb5
  have hB5 := below_seq hB4 hb5
  have hs5 := hb5.size
  go_wp2_with fail
  refine (whole_sec A5 _ c5 _ w5 _ hl5 rfl (Nat.le_refl _)).mono ?_
  rintro e w6 ⟨rfl, hb6⟩
  rw [He.out]
  have hr16 := hr15.below (by omega) hb6
  have hB6 := below_seq hB5 hb6
  have hs6 := hb6.size
  go_wp2_with ((with_reducible refine at_store 28 ?_); refine store_sec rfl _ _ rfl w.heap.size (sealS xs hx) rfl rfl hr16 (Sec.cs_length _) ?_)
  intro w7 hr7 hg7 hs7
  go_wp2_with fail
  exact bodyPost_ret (results_cell_row (fn := Try.f20) rfl _ _ w.heap.size 28 _ (0, 0) _ rfl hr7 Try.underlying28 rfl (sec_size' _)) rfl ⟨rfl, below_grown hB6 hg7 (Nat.le_refl _) (by omega)⟩

theorem leafS_seal {t : Tx} (h : (leafB t).length ≤ 252) : sealS (leafB t) h = leafS t := by
  apply Subtype.ext
  show sealB (fill (leafB t) 252) = sealB (padL (leafB t))
  unfold fill padL
  rw [List.take_of_length_le h]
/-- What Put answers. -/
def putS14 (t : Tx) : Sec := if checkL t 200 = 0 then leafS t else zeroSec
theorem putS14_yes {t : Tx} (h : checkL t 200 = 0) : putS14 t = leafS t := if_pos h
theorem putS14_no {t : Tx} (h : ¬ checkL t 200 = 0) : putS14 t = zeroSec := if_neg h
theorem zeroSv (w : World) : (zeroValue 28).run Try.prog w = .ok (.agg zeroSec.cs.toArray) w := by kernel_rfl
/-- The bytes behind the slots so far. -/
def headL (t : Tx) : List UInt8 := leafMagic ++ t.adr.1 ++ putB t.size.toNat 2 ++ putB t.bound.toNat 2
theorem leafB_head (t : Tx) : leafB t = headL t ++ t.slots.map slotB := rfl
theorem headL_length (t : Tx) : (headL t).length = 40 := by
  have := t.adr.2
  simp only [headL, List.length_append, putB_length, leafMagic, List.length_cons, List.length_nil]
  omega
theorem slotsB_step {l : List Int} {k : Nat} {s : Int} (h : l[k]? = some s) : (l.take (k + 1)).map slotB = (l.take k).map slotB ++ [slotB s] := by
  rw [List.take_add_one, h, List.map_append]
  rfl
theorem put_slot {s : Int} {x : Nat} (h : s = x) : putB x 1 = [slotB s] := by
  subst h
  unfold slotB
  rw [Int.toNat_natCast]
  rfl

set_option maxRecDepth 100000 in
set_option maxHeartbeats 4000000 in
theorem lput_any (w : World) (B : Nat) (t : Tx) (A : Option Addr) (c : Nat) (h : LiesV w B A (slv t.slots)) (hB : B ≤ w.heap.size) :
    Calls Try.prog 8 #[.agg (txc t A c).toArray] w fun e w' => e = .returned (.tuple #[.agg (putS14 t).cs.toArray, .int .i64 (checkL t 200)]) ∧ Below w.heap.size w w' := by
  obtain ⟨i0, hi, hz0, hz1, hz2⟩ := info_parts Try.info5
  have Hh := Lib.hid h
  clear h
  go_enter Try.func8, Try.ntmps8
  go_wp2_with ((with_reducible refine at_box 25 ?_); refine box_tx rfl _ rfl t A c rfl ?_)
  intro w1 hr1 hb1 hs1
  go_wp2_with ((with_reducible refine at_alloc 28 ?_); refine alloc_sec rfl rfl ?_)
  intro w2 hr2 hb2 hs2
  have hr12 := hr1.below (by omega) hb2
  have hB2 : Below w.heap.size w w2 := hb1.trans (hb2.mono (by omega))
  go_wp2_with ((with_reducible refine at_load 25 ?_); refine load_tx rfl _ rfl w.heap.size rfl hr12 ?_)
  refine (lcheck_any w2 B t A c 200 (Hh.out.below (hB2.mono hB)) (by omega)).mono ?_
  rintro e w3 ⟨rfl, hb3⟩
  have hr13 := hr12.below (by omega) hb3
  have hr23 := hr2.below (by omega) hb3
  have HB3 : Hid (Below w.heap.size w w3) := hB2.trans (hb3.mono (by omega))
  have hz3 : w.heap.size + 2 ≤ w3.heap.size := by have := hb3.size; omega
  clear hr1 hr2 hr12 hb1 hb2 hb3 hB2 hs1 hs2
  obtain ⟨N, hN⟩ : ∃ N, w.heap.size = N := ⟨_, rfl⟩
  rw [hN] at hr13 hr23 hz3 ⊢
  obtain ⟨cd, hcd⟩ : ∃ cd, checkL t 200 = cd := ⟨_, rfl⟩
  have Hcd := Lib.hid hcd
  rw [hcd]
  clear hcd
  by_cases h0 : cd = 0
  rotate_left
  · have Hz : Hid (putS14 t = zeroSec) := putS14_no (by rw [Hcd.out]; exact h0)
    have hzv := zeroSv
    go_wp2_with ((with_reducible refine at_store 28 ?_); refine store_sec rfl _ _ rfl (N + 1) zeroSec rfl rfl hr23 (Sec.cs_length _) ?_)
    intro w4 hr4 hg4 hs4
    go_wp2_with fail
    exact bodyPost_ret (results_cell_tmp (fn := Try.f8) rfl _ _ (N + 1) 28 _ (0, 0) _ rfl _ rfl hr4 Try.underlying28 rfl (sec_size' _)) rfl ⟨by rw [Hz.out, Hcd.out]; rfl, below_grown HB3.out hg4 (by omega) (by omega)⟩
  subst h0
  have Hz : Hid (putS14 t = leafS t) := putS14_yes Hcd.out
  obtain ⟨⟨s1, s2⟩, hlen, ⟨b1, b2⟩, hsl⟩ := checkL_zero.1 Hcd.out
  have hm8 : t.slots.length ≤ 8 := by rw [hlen]; unfold countK; omega
  have Hsl := Lib.hid hsl
  obtain ⟨sz, hsz⟩ : ∃ sz, t.size.toNat = sz := ⟨_, rfl⟩
  obtain ⟨bd, hbd⟩ : ∃ bd, t.bound.toNat = bd := ⟨_, rfl⟩
  have esz : t.size = (sz : Int) := by omega
  have ebd : t.bound = (bd : Int) := by omega
  have hszl : sz ≤ 2048 := by omega
  have hbdl : bd ≤ 160 := by omega
  obtain ⟨m, hm⟩ : ∃ m, t.slots.length = m := ⟨_, rfl⟩
  have Hm := Lib.hid hm
  rw [hm] at hm8
  have Hh0 : Hid (headL t = leafMagic ++ t.adr.1 ++ putB sz 2 ++ putB bd 2) := by show _ = _; rw [headL, hsz, hbd]
  clear hlen hsl hm s1 s2 b1 b2 hsz hbd
  go_wp2_with ((with_reducible refine at_convert 43 ?_); refine wpList_const rfl 43 _ rfl Try.underlying43 Try.underlying5 _ 4 4 rfl leafMagic rfl ?_)
  intro w4 hl4 hb4 hs4
  have hr14 := hr13.below (by omega) hb4
  have hr24 := hr23.below (by omega) hb4
  have HB4 : Hid (Below w.heap.size w w4) := HB3.out.trans (hb4.mono (by omega))
  have hl4' := hl4.le (B' := w4.heap.size) (by omega)
  have hz4 : N + 2 ≤ w4.heap.size := by omega
  have hsa : ∀ W, (Instr.sliceAt 22 (.pointer (some ⟨N, 0, none⟩)) none none none).run Try.prog W = .ok (.slice (some ⟨N, 0, none⟩) 32 32) W := fun W => run_slice_arr_all Try.underlying22 Try.size1 N
  have hla := tx_lies hr14
  have hal : t.adr.1.length = 32 := t.adr.2
  have Hane : Hid (t.adr.1 ≠ []) := by show _ ≠ _; intro h9; rw [h9] at hal; cases hal
  have Hal : Hid (32 = t.adr.1.length) := hal.symm
  clear hal hr13 hr23 hb4 hl4 hz3 HB3
  go_wp2_with (at_builtin; refine wpList_append_full rfl _ _ 43 rfl i0 Try.underlying43 hi hz0 hz1 hz2 _ 4 4 leafMagic t.adr.1 rfl w4.heap.size hl4' rfl (by decide) w4.heap.size (some ⟨N, 0, none⟩) 32 32 rfl hla Hal.out Hane.out (by omega) (by omega) ?_)
  intro v5 w5 ho5 hg5
  obtain ⟨K, hK3⟩ : ∃ K, w3.heap.size + 1 = K := ⟨_, rfl⟩
  have hK : w4.heap.size = K := by omega
  have hb5 : Below K w4 w5 := by rw [← hK]; exact ⟨hg5.os, hg5.tape, hg5.output, hg5.size, fun k hk => hg5.block k hk (by simp)⟩
  obtain ⟨P1, hP1⟩ : ∃ P1, leafMagic ++ t.adr.1 = P1 := ⟨_, rfl⟩
  have Hp1 : Hid (P1.length = 36) := by show _ = _; rw [← hP1, List.length_append, t.adr.2]; rfl
  rw [hP1] at ho5 Hh0
  rw [hK3] at ho5
  rw [hK] at hz4
  have hKw : K ≤ w4.heap.size := by omega
  have HB5 := Lib.hid hb5
  have Hr1 := Lib.hid hr14
  have Hr2 := Lib.hid hr24
  have HO5 : Hid (w5.ownsRow K 5 1 v5 36 (cells P1)) := ho5
  have c1 := tx_size (hr14.below (by omega) hb5)
  rw [esz] at c1
  have hsu : (sz : Int) % 18446744073709551616 = sz := by omega
  have hK5 : K ≤ w5.heap.size := by have := hb5.size; omega
  clear hl4' hla hg5 hb5 ho5 hr14 hr24 hs4 hP1 Hal Hane hK3
  go_wp2_with fail
  refine (put2 sz w5 (by omega)).mono ?_
  rintro e w6 ⟨A6, c6, rfl, _, _, hl6, hb6⟩
  have ho6 := own_below HO5.out hb6
  have HB6 : Hid (Below K w4 w6) := HB5.out.trans (hb6.mono hK5)
  have hK6 : K ≤ w6.heap.size := by have := hb6.size; omega
  have Hp2 : Hid ((putB sz 2).length = 2) := putB_length _ _
  rw [Hp2.out]
  clear hb6 HB5 HO5 c1
  go_wp2_with (at_builtin; refine wpList_append_lies rfl _ _ 43 rfl K i0 Try.underlying43 hi hz0 hz1 hz2 _ 36 P1 (putB sz 2) rfl ho6 w6.heap.size _ _ _ rfl hl6 Hp2.out.symm (by omega) hK6 ?_)
  intro v7 w7 ho7 hg7
  have HO7 : Hid (w7.ownsRow K 5 1 v7 38 (cells (P1 ++ putB sz 2))) := ho7
  have HB7 : Hid (Below K w4 w7) := HB6.out.grown hg7 (by omega) (own_ge ho6)
  have hK7 : K ≤ w7.heap.size := by have := hg7.size; omega
  have c1 := tx_bound (Hr1.out.below (by omega) HB7.out)
  rw [ebd] at c1
  have hbu : (bd : Int) % 18446744073709551616 = bd := by omega
  clear ho6 ho7 hg7 HB6 hl6 hsu
  go_wp2_with fail
  refine (put2 bd w7 (by omega)).mono ?_
  rintro e w8 ⟨A8, c8, rfl, _, _, hl8, hb8⟩
  have ho8 := own_below HO7.out hb8
  have HB8 : Hid (Below K w4 w8) := HB7.out.trans (hb8.mono hK7)
  have hK8 : K ≤ w8.heap.size := by have := hb8.size; omega
  have Hp3 : Hid ((putB bd 2).length = 2) := putB_length _ _
  rw [Hp3.out]
  clear hb8 HB7 HO7 c1
  go_wp2_with (at_builtin; refine wpList_append_lies rfl _ _ 43 rfl K i0 Try.underlying43 hi hz0 hz1 hz2 _ 38 (P1 ++ putB sz 2) (putB bd 2) rfl ho8 w8.heap.size _ _ _ rfl hl8 Hp3.out.symm (by omega) hK8 ?_)
  intro v9 w9 ho9 hg9
  have HO9 : Hid (w9.ownsRow K 5 1 v9 (40 + 0) (cells (headL t ++ (t.slots.take 0).map slotB))) := by rw [Hh0.out, List.take_zero, List.map_nil, List.append_nil, List.append_assoc]; exact ho9
  have HB9 : Hid (Below K w4 w9) := HB8.out.grown hg9 (by omega) (own_ge ho8)
  have hK9 : K ≤ w9.heap.size := by have := hg9.size; omega
  have c2 := tx_slots (Hr1.out.below (by omega) HB9.out)
  rw [Hm.out] at c2
  clear ho8 ho9 hg9 HB8 hl8 hbu
  go_wp2_with fail
  clear c2
  obtain ⟨T, hT⟩ : ∃ T, headL t = T := ⟨_, rfl⟩
  have HT := Lib.hid hT
  have Htl : Hid (T.length = 40) := by show _ = _; rw [← hT, headL_length]
  rw [hT] at HO9
  clear hT
  go_loopw [5, 34] (fun u v W => ∃ k : Nat, k ≤ m ∧ v = .int .i64 k ∧ Hid (W.ownsRow K 5 1 u (40 + k) (cells (T ++ (t.slots.take k).map slotB))) ∧ Hid (Below K w4 W)) (fun _ v _ => m - (intOf v).toNat)
  case atStart => exact ⟨0, Nat.zero_le _, rfl, HO9, HB9⟩
  case round =>
    obtain ⟨k, hk, rfl, HO, HB⟩ := hrel
    clear HO9 HB9 hK9
    have hKr : K ≤ wr.heap.size := by have := HB.out.size; omega
    by_cases hlt : k < m
    · obtain ⟨s, hs⟩ : ∃ s, t.slots[k]? = some s := ⟨_, List.getElem?_eq_getElem (by rw [Hm.out]; exact hlt)⟩
      obtain ⟨b1, o1, hA1, _, hc1⟩ := slots_at ((Hh.out.below (HB4.out.mono hB)).below (HB.out.mono (by omega))) hs
      subst hA1
      have hsr := Hsl.out s (List.mem_of_getElem? hs)
      obtain ⟨x, hx⟩ : ∃ x : Nat, s = x := ⟨s.toNat, by omega⟩
      have Hst := Lib.hid (slotsB_step hs)
      have Hps := Lib.hid (put_slot hx)
      have hx199 : x ≤ 199 := by omega
      have hxu : (x : Int) % 18446744073709551616 = x := by omega
      subst hx
      clear hs hsr
      go_wp2_with fail
      have hp1 : Calls Try.prog 19 #[.int .u64 (x : Int), .int .i64 1] wr (RetRow wr (putB x 1)) := put_any x 1 wr (by omega) (by omega)
      rw [Hps.out] at hp1
      refine hp1.mono ?_
      rintro e w10 ⟨A10, c10, rfl, _, _, hl10, hb10⟩
      have ho10 := own_below HO.out hb10
      have HB10 : Hid (Below K w4 w10) := HB.out.trans (hb10.mono hKr)
      have hK10 : K ≤ w10.heap.size := by have := hb10.size; omega
      have Hst2 : Hid ((t.slots.take (k + 1)).map slotB = (t.slots.take k).map slotB ++ [slotB x]) := Hst.out
      obtain ⟨bx, hbx⟩ : ∃ bx, [slotB x] = bx := ⟨_, rfl⟩
      have Hbl : Hid (bx.length = 1) := by show _ = _; rw [← hbx]; rfl
      obtain ⟨M, hM⟩ : ∃ M, T ++ (t.slots.take k).map slotB = M := ⟨_, rfl⟩
      have Hnext : Hid (M ++ bx = T ++ (t.slots.take (k + 1)).map slotB) := by show _ = _; rw [← hM, ← hbx, Hst2.out, List.append_assoc]
      rw [hbx] at hl10 ⊢
      rw [Hbl.out]
      rw [hM] at ho10
      clear hb10 HB HO hp1 Hst Hst2 Hps hbx hM hc1
      go_wp2_with (at_builtin; refine wpList_append_lies rfl _ _ 43 rfl K i0 Try.underlying43 hi hz0 hz1 hz2 _ (40 + k) M bx rfl ho10 w10.heap.size _ _ _ rfl hl10 Hbl.out.symm (by omega) hK10 ?_)
      intro v11 w11 ho11 hg11
      have HO11 : Hid (w11.ownsRow K 5 1 v11 (40 + (k + 1)) (cells (T ++ (t.slots.take (k + 1)).map slotB))) := by rw [← Hnext.out]; exact ho11
      have HB11 : Hid (Below K w4 w11) := HB10.out.grown hg11 (by omega) (own_ge ho10)
      clear ho10 ho11 hg11 HB10 hl10 hxu
      go_wp2_with fail
      go_roundw
      all_goals first
        | (simp [intOf]; omega)
        | exact ⟨k + 1, by omega, by go_num, HO11, HB11⟩
    · obtain rfl : k = m := by omega
      have hall : T ++ (t.slots.take k).map slotB = leafB t := by rw [List.take_of_length_le (by rw [Hm.out]; exact Nat.le_refl _), leafB_head, HT.out]
      have hbl : (leafB t).length ≤ 252 := by rw [leafB_length, Hm.out]; omega
      obtain ⟨A9, c9, hv9, hn9, _, _, hl9⟩ := Lies.of_own HO.out
      rw [hall] at hl9 hn9
      have hv9' : u5 = .slice A9 (40 + k) c9 := by rw [hv9, hall, ← hn9]
      have Hn9 := Lib.hid hn9
      subst hv9'
      clear hv9 hn9
      go_wp2_with fail
      refine (lsealed_any A9 (40 + k) c9 (leafB t) wr wr.heap.size hl9 Hn9.out (Nat.le_refl _) hbl).mono ?_
      rintro e w12 ⟨rfl, hb12⟩
      rw [leafS_seal hbl]
      have HB12 : Hid (Below K w4 w12) := HB.out.trans (hb12.mono hKr)
      have hr2 := Hr2.out.below (by omega) HB12.out
      have hlt2 := hr2.lt
      clear hb12 HB HO hl9
      go_wp2_with ((with_reducible refine at_store 28 ?_); refine store_sec rfl _ _ rfl (N + 1) (leafS t) rfl rfl hr2 (Sec.cs_length _) ?_)
      intro w13 hr13 hg13 hs13
      go_wp2_with fail
      have hBw : Below w.heap.size w w12 := HB4.out.trans (HB12.out.mono (by omega))
      exact bodyPost_ret (results_cell_tmp (fn := Try.f8) rfl _ _ (N + 1) 28 _ (0, 0) _ rfl _ rfl hr13 Try.underlying28 rfl (sec_size' _)) rfl ⟨by rw [Hz.out, Hcd.out]; rfl, below_grown hBw hg13 (by omega) hBw.size⟩
end Go.Proofs.Ytkfhbngphkobfaa
