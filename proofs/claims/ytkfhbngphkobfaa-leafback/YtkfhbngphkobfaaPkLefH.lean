/-
  Layer 14: the contract of the reference's Put.
-/
import Derived.Test.YtkfhbngphkobfaaPkLefG
import Derived.Test.YtkfhbngphkobfaaPkRNumC
import Derived.Test.YtkfhbngphkobfaaPkSupQ
namespace Go.Proofs.Ytkfhbngphkobfaa
open Go.RowKit
set_option linter.unusedVariables false
set_option linter.unusedSimpArgs false

set_option maxRecDepth 100000 in
set_option maxHeartbeats 4000000 in
theorem rput14_any (w : World) (B : Nat) (t : Tx) (A : Option Addr) (c : Nat) (h : LiesV w B A (slv t.slots)) (hB : B ≤ w.heap.size) :
    Calls Try.prog 9 #[.agg (txc t A c).toArray] w fun e w' => e = .returned (.tuple #[.agg (putS14 t).cs.toArray, .int .i64 (checkL t 200)]) ∧ Below w.heap.size w w' := by
  obtain ⟨i0, hi, hz0, hz1, hz2⟩ := info_parts Try.info5
  have Hh := Lib.hid h
  clear h
  go_enter Try.func9, Try.ntmps9
  go_wp2_with ((with_reducible refine at_box 25 ?_); refine box_tx rfl _ rfl t A c rfl ?_)
  intro w1 hr1 hb1 hs1
  go_wp2_with ((with_reducible refine at_alloc 28 ?_); refine alloc_sec rfl rfl ?_)
  intro w2 hr2 hb2 hs2
  have hr12 := hr1.below (by omega) hb2
  have hB2 : Below w.heap.size w w2 := hb1.trans (hb2.mono (by omega))
  go_wp2_with ((with_reducible refine at_load 25 ?_); refine load_tx rfl _ rfl w.heap.size rfl hr12 ?_)
  refine (rcheck14_any w2 B t A c 200 (Hh.out.below (hB2.mono hB)) (by omega)).mono ?_
  rintro e w3 ⟨rfl, hb3⟩
  have hr13 := hr12.below (by omega) hb3
  have hr23 := hr2.below (by omega) hb3
  have HB3 : Hid (Below w.heap.size w w3) := hB2.trans (hb3.mono (by omega))
  have hz3 : w.heap.size + 2 ≤ w3.heap.size := by have := hb3.size; omega
  clear hr1 hr2 hr12 hb1 hb2 hb3 hB2 hs1 hs2
  obtain ⟨N, hN⟩ : ∃ N, w.heap.size = N := ⟨_, rfl⟩
  rw [hN] at hr13 hr23 hz3 ⊢
  obtain ⟨cd, hcd⟩ : ∃ cd, checkL t 200 = cd := ⟨_, rfl⟩
  have Hcd := Lib.hid hcd
  rw [hcd]
  clear hcd
  by_cases h0 : cd = 0
  rotate_left
  · have Hz : Hid (putS14 t = zeroSec) := putS14_no (by rw [Hcd.out]; exact h0)
    have hzv := zeroSv
    go_wp2_with ((with_reducible refine at_store 28 ?_); refine store_sec rfl _ _ rfl (N + 1) zeroSec rfl rfl hr23 (Sec.cs_length _) ?_)
    intro w4 hr4 hg4 hs4
    go_wp2_with fail
    exact bodyPost_ret (results_cell_tmp (fn := Try.f9) rfl _ _ (N + 1) 28 _ (0, 0) _ rfl _ rfl hr4 Try.underlying28 rfl (sec_size' _)) rfl ⟨by rw [Hz.out, Hcd.out]; rfl, below_grown HB3.out hg4 (by omega) (by omega)⟩
  subst h0
  have Hz : Hid (putS14 t = leafS t) := putS14_yes Hcd.out
  obtain ⟨⟨s1, s2⟩, hlen, ⟨b1, b2⟩, hsl⟩ := checkL_zero.1 Hcd.out
  have hm8 : t.slots.length ≤ 8 := by rw [hlen]; unfold countK; omega
  have Hsl := Lib.hid hsl
  obtain ⟨sz, hsz⟩ : ∃ sz, t.size.toNat = sz := ⟨_, rfl⟩
  obtain ⟨bd, hbd⟩ : ∃ bd, t.bound.toNat = bd := ⟨_, rfl⟩
  have esz : t.size = (sz : Int) := by omega
  have ebd : t.bound = (bd : Int) := by omega
  have hszl : sz ≤ 2048 := by omega
  have hbdl : bd ≤ 160 := by omega
  obtain ⟨m, hm⟩ : ∃ m, t.slots.length = m := ⟨_, rfl⟩
  have Hm := Lib.hid hm
  rw [hm] at hm8
  have Hh0 : Hid (headL t = leafMagic ++ t.adr.1 ++ putB sz 2 ++ putB bd 2) := by show _ = _; rw [headL, hsz, hbd]
  clear hlen hsl hm s1 s2 b1 b2 hsz hbd
  go_wp2_with ((with_reducible refine at_convert 43 ?_); refine wpList_const rfl 43 _ rfl Try.underlying43 Try.underlying5 _ 4 4 rfl leafMagic rfl ?_)
  intro w4 hl4 hb4 hs4
  have hr14 := hr13.below (by omega) hb4
  have hr24 := hr23.below (by omega) hb4
  have HB4 : Hid (Below w.heap.size w w4) := HB3.out.trans (hb4.mono (by omega))
  have hl4' := hl4.le (B' := w4.heap.size) (by omega)
  have hz4 : N + 2 ≤ w4.heap.size := by omega
  have Hr1 := Lib.hid hr14
  have Hr2 := Lib.hid hr24
  obtain ⟨G, hG⟩ : ∃ G, w3.heap.size = G := ⟨_, rfl⟩
  obtain ⟨K, hK3⟩ : ∃ K, G + 1 = K := ⟨_, rfl⟩
  have hK : w4.heap.size = K := by omega
  rw [hG] at hl4'
  rw [hG] at hs4 hz3 ⊢
  have Hl4 : Hid (Lies w4 K (some ⟨G, 0, none⟩) leafMagic) := hl4'.le (by omega)
  have Hrefl : Hid (Below K w4 w4) := Below.refl _ _
  have hNK : N + 2 ≤ K := by omega
  have Hal : Hid (t.adr.1.length = 32) := t.adr.2
  clear hr13 hr23 hr14 hr24 hl4 hl4' hb4 HB3 hG hz3
  go_wp2_with fail
  go_loopw [5, 6] (fun u v W => ∃ k : Nat, k ≤ 32 ∧ v = .int .i64 k ∧ Hid ((k = 0 ∧ u = .slice (some ⟨G, 0, none⟩) 4 4) ∨ (0 < k ∧ W.ownsRow K 5 1 u (4 + k) (cells (leafMagic ++ t.adr.1.take k)))) ∧ Hid (Below K w4 W)) (fun _ v _ => 32 - (intOf v).toNat)
  case atStart => exact ⟨0, Nat.zero_le _, rfl, .inl ⟨rfl, rfl⟩, Hrefl⟩
  case round =>
    obtain ⟨k, hk, rfl, HO, HB⟩ := hrel
    clear Hrefl
    have hKr : K ≤ wr.heap.size := by have := HB.out.size; omega
    by_cases hlt : k < 32
    · obtain ⟨x, hx⟩ : ∃ x, t.adr.1[k]? = some x := ⟨_, List.getElem?_eq_getElem (by rw [Hal.out]; exact hlt)⟩
      have hc1 := tx_byte (Hr1.out.below (by omega) HB.out) hx
      have Hst : Hid (leafMagic ++ t.adr.1.take (k + 1) = leafMagic ++ t.adr.1.take k ++ [x]) := by show _ = _; rw [List.take_add_one, hx, List.append_assoc]; rfl
      have hlt' : (k : Int) < 32 := by omega
      have hk0 : (0 : Int) ≤ (k : Int) := by omega
      have hlit := Lies.lit wr #[.int .u8 (x.toNat : Int)] [x] rfl (wr.heap.size + 1) (by omega)
      rcases HO.out with ⟨rfl, rfl⟩ | ⟨hpos, ho⟩
      · have hl5 := ((Hl4.out.below HB.out).alloc hKr (.cells #[.int .u8 (x.toNat : Int)] 5))
        clear hx HO
        go_wp2_with (at_builtin; refine wpList_append_full rfl _ _ 43 rfl i0 Try.underlying43 hi hz0 hz1 hz2 _ 4 4 leafMagic [x] rfl K hl5 rfl (by decide) (wr.heap.size + 1) _ _ _ rfl hlit rfl (by simp) (by omega) (by simp) ?_)
        intro v' w' own' hg'
        have HO1 : Hid ((0 + 1 = 0 ∧ v' = .slice (some ⟨G, 0, none⟩) 4 4) ∨ (0 < 0 + 1 ∧ w'.ownsRow K 5 1 v' (4 + (0 + 1)) (cells (leafMagic ++ t.adr.1.take (0 + 1))))) := by
          refine .inr ⟨by omega, own_rebase (base := wr.heap.size + 1) ?_ (fun k e => by have := own_ge own' k e; omega)⟩
          rw [Hst.out, List.take_zero, List.append_nil]
          exact own'
        have HB1 : Hid (Below K w4 w') := (HB.out.alloc hKr (.cells #[.int .u8 (x.toNat : Int)] 5)).grown hg' (by simp; omega) (by simp)
        clear own' hg' hl5 hlit hc1 HB Hst
        go_wp2_with fail
        go_roundw
        all_goals first
          | (simp [intOf]; done)
          | exact ⟨0 + 1, by omega, by go_num, HO1, HB1⟩
      · have ho1 := ho.alloc (.cells #[.int .u8 (x.toNat : Int)] 5)
        have hKa : K ≤ (wr.alloc (.cells #[.int .u8 (x.toNat : Int)] 5)).heap.size := by simp; omega
        obtain ⟨M, hM⟩ : ∃ M, leafMagic ++ t.adr.1.take k = M := ⟨_, rfl⟩
        have Hst2 : Hid (leafMagic ++ t.adr.1.take (k + 1) = M ++ [x]) := by show _ = _; rw [Hst.out, hM]
        rw [hM] at ho1
        clear hx HO ho hM Hst
        go_wp2_with (at_builtin; refine wpList_append_lies rfl _ _ 43 rfl K i0 Try.underlying43 hi hz0 hz1 hz2 _ (4 + k) M [x] rfl ho1 (wr.heap.size + 1) _ _ _ rfl hlit rfl (by simp; omega) hKa ?_)
        intro v' w' own' hg'
        have HO1 : Hid ((k + 1 = 0 ∧ v' = .slice (some ⟨G, 0, none⟩) 4 4) ∨ (0 < k + 1 ∧ w'.ownsRow K 5 1 v' (4 + (k + 1)) (cells (leafMagic ++ t.adr.1.take (k + 1))))) := by
          refine .inr ⟨by omega, ?_⟩
          rw [Hst2.out]
          exact own'
        have HB1 : Hid (Below K w4 w') := (HB.out.alloc hKr (.cells #[.int .u8 (x.toNat : Int)] 5)).grown hg' (by simp; omega) (own_ge ho1)
        clear own' hg' ho1 hlit hc1 HB Hst2 hKa
        go_wp2_with fail
        go_roundw
        all_goals first
          | (simp [intOf]; omega)
          | exact ⟨k + 1, by omega, by go_num, HO1, HB1⟩
    · obtain rfl : k = 32 := by omega
      rcases HO.out with ⟨h0, _⟩ | ⟨_, ho⟩
      · exact absurd h0 (by decide)
      obtain ⟨P1, hP1⟩ : ∃ P1, leafMagic ++ t.adr.1 = P1 := ⟨_, rfl⟩
      have Hp1 : Hid (P1.length = 36) := by show _ = _; rw [← hP1, List.length_append, t.adr.2]; rfl
      rw [List.take_of_length_le (by rw [Hal.out]; omega), hP1] at ho
      rw [hP1] at Hh0
      have HO5 : Hid (wr.ownsRow K 5 1 u5 36 (cells P1)) := ho
      have HB5 : Hid (Below K w4 wr) := HB.out
      have c1 := tx_size (Hr1.out.below (by omega) HB5.out)
      rw [esz] at c1
      have hsu : (sz : Int) % 18446744073709551616 = sz := by omega
      clear HO HB ho hP1 hk hlt
      go_wp2_with fail
      refine (rput2 sz wr (by omega)).mono ?_
      rintro e w6 ⟨A6, c6, rfl, _, _, hl6, hb6, _⟩
      have ho6 := own_below HO5.out hb6
      have HB6 : Hid (Below K w4 w6) := HB5.out.trans (hb6.mono hKr)
      have hK6 : K ≤ w6.heap.size := by have := hb6.size; omega
      have Hp2 : Hid ((putB sz 2).length = 2) := putB_length _ _
      rw [Hp2.out]
      clear hb6 HB5 HO5 c1
      go_wp2_with (at_builtin; refine wpList_append_lies rfl _ _ 43 rfl K i0 Try.underlying43 hi hz0 hz1 hz2 _ 36 P1 (putB sz 2) rfl ho6 w6.heap.size _ _ _ rfl hl6 Hp2.out.symm (by omega) hK6 ?_)
      intro v7 w7 ho7 hg7
      have HO7 : Hid (w7.ownsRow K 5 1 v7 38 (cells (P1 ++ putB sz 2))) := ho7
      have HB7 : Hid (Below K w4 w7) := HB6.out.grown hg7 (by omega) (own_ge ho6)
      have hK7 : K ≤ w7.heap.size := by have := hg7.size; omega
      have c1 := tx_bound (Hr1.out.below (by omega) HB7.out)
      rw [ebd] at c1
      have hbu : (bd : Int) % 18446744073709551616 = bd := by omega
      clear ho6 ho7 hg7 HB6 hl6 hsu
      go_wp2_with fail
      refine (rput2 bd w7 (by omega)).mono ?_
      rintro e w8 ⟨A8, c8, rfl, _, _, hl8, hb8, _⟩
      have ho8 := own_below HO7.out hb8
      have HB8 : Hid (Below K w4 w8) := HB7.out.trans (hb8.mono hK7)
      have hK8 : K ≤ w8.heap.size := by have := hb8.size; omega
      have Hp3 : Hid ((putB bd 2).length = 2) := putB_length _ _
      rw [Hp3.out]
      clear hb8 HB7 HO7 c1
      go_wp2_with (at_builtin; refine wpList_append_lies rfl _ _ 43 rfl K i0 Try.underlying43 hi hz0 hz1 hz2 _ 38 (P1 ++ putB sz 2) (putB bd 2) rfl ho8 w8.heap.size _ _ _ rfl hl8 Hp3.out.symm (by omega) hK8 ?_)
      intro v9 w9 ho9 hg9
      have HO9 : Hid (w9.ownsRow K 5 1 v9 (40 + 0) (cells (headL t ++ (t.slots.take 0).map slotB))) := by rw [Hh0.out, List.take_zero, List.map_nil, List.append_nil, List.append_assoc]; exact ho9
      have HB9 : Hid (Below K w4 w9) := HB8.out.grown hg9 (by omega) (own_ge ho8)
      have hK9 : K ≤ w9.heap.size := by have := hg9.size; omega
      clear ho8 ho9 hg9 HB8 hl8 hbu
      go_wp2_with fail
      obtain ⟨T, hT⟩ : ∃ T, headL t = T := ⟨_, rfl⟩
      have HT := Lib.hid hT
      have Htl : Hid (T.length = 40) := by show _ = _; rw [← hT, headL_length]
      rw [hT] at HO9
      clear hT
      go_loopw [5, 7] (fun u v W => ∃ k : Nat, k ≤ m ∧ v = .int .i64 k ∧ Hid (W.ownsRow K 5 1 u (40 + k) (cells (T ++ (t.slots.take k).map slotB))) ∧ Hid (Below K w4 W)) (fun _ v _ => m - (intOf v).toNat)
      case atStart => exact ⟨0, Nat.zero_le _, rfl, HO9, HB9⟩
      case round =>
        obtain ⟨k, hk, rfl, HO, HB⟩ := hrel
        clear HO9 HB9 hK9
        have hKr2 : K ≤ wr.heap.size := by have := HB.out.size; omega
        have c2 := tx_slots (Hr1.out.below (by omega) HB.out)
        rw [Hm.out] at c2
        by_cases hlt : k < m
        · obtain ⟨s, hs⟩ : ∃ s, t.slots[k]? = some s := ⟨_, List.getElem?_eq_getElem (by rw [Hm.out]; exact hlt)⟩
          obtain ⟨b1, o1, hA1, _, hc1⟩ := slots_at ((Hh.out.below (HB4.out.mono hB)).below (HB.out.mono (by omega))) hs
          subst hA1
          have hsr := Hsl.out s (List.mem_of_getElem? hs)
          obtain ⟨x, hx⟩ : ∃ x : Nat, s = x := ⟨s.toNat, by omega⟩
          have Hst := Lib.hid (slotsB_step hs)
          have hx199 : x ≤ 199 := by omega
          have hxu : (x : Int) % 256 = x := by omega
          subst hx
          obtain ⟨bx, hbx⟩ : ∃ bx, slotB x = bx := ⟨_, rfl⟩
          have Hbv : Hid ((x : Int) = (bx.toNat : Int)) := by
            show _ = _
            rw [← hbx]
            unfold slotB
            rw [Int.toNat_natCast, toNat_ofNat]
            omega
          obtain ⟨M, hM⟩ : ∃ M, T ++ (t.slots.take k).map slotB = M := ⟨_, rfl⟩
          have Hnext : Hid (M ++ [bx] = T ++ (t.slots.take (k + 1)).map slotB) := by show _ = _; rw [← hM, Hst.out, hbx, List.append_assoc]
          have ho0 := HO.out
          rw [hM] at ho0
          have ho1 := ho0.alloc (.cells #[.int .u8 (x : Int)] 5)
          have hKa : K ≤ (wr.alloc (.cells #[.int .u8 (x : Int)] 5)).heap.size := by simp; omega
          have hlit := Lies.lit wr #[.int .u8 (x : Int)] [bx] (by rw [Hbv.out]; rfl) (wr.heap.size + 1) (by omega)
          clear hs hsr hbx hM Hst HO ho0
          go_wp2_with (at_builtin; refine wpList_append_lies rfl _ _ 43 rfl K i0 Try.underlying43 hi hz0 hz1 hz2 _ (40 + k) M [bx] rfl ho1 (wr.heap.size + 1) _ _ _ rfl hlit rfl (by simp; omega) hKa ?_)
          intro v11 w11 ho11 hg11
          have HO11 : Hid (w11.ownsRow K 5 1 v11 (40 + (k + 1)) (cells (T ++ (t.slots.take (k + 1)).map slotB))) := by rw [← Hnext.out]; exact ho11
          have HB11 : Hid (Below K w4 w11) := (HB.out.alloc hKr2 (.cells #[.int .u8 (x : Int)] 5)).grown hg11 hKa (own_ge ho1)
          clear ho1 ho11 hg11 HB hlit hxu hKa hc1 c2
          go_wp2_with fail
          go_roundw
          all_goals first
            | (simp [intOf]; omega)
            | exact ⟨k + 1, by omega, by go_num, HO11, HB11⟩
        · obtain rfl : k = m := by omega
          have hall : T ++ (t.slots.take k).map slotB = leafB t := by rw [List.take_of_length_le (by rw [Hm.out]; exact Nat.le_refl _), leafB_head, HT.out]
          have hbl : (leafB t).length ≤ 252 := by rw [leafB_length, Hm.out]; omega
          obtain ⟨A9, c9, hv9, hn9, _, _, hl9⟩ := Lies.of_own HO.out
          rw [hall] at hl9 hn9
          have hv9' : u5 = .slice A9 (40 + k) c9 := by rw [hv9, hall, ← hn9]
          have Hn9 := Lib.hid hn9
          subst hv9'
          clear hv9 hn9
          go_wp2_with fail
          refine (rsealed_any A9 (40 + k) c9 (leafB t) wr wr.heap.size hl9 Hn9.out (Nat.le_refl _) hbl).mono ?_
          rintro e w12 ⟨rfl, hb12⟩
          rw [leafS_seal hbl]
          have HB12 : Hid (Below K w4 w12) := HB.out.trans (hb12.mono hKr2)
          have hr2 := Hr2.out.below (by omega) HB12.out
          have hlt2 := hr2.lt
          clear hb12 HB HO hl9
          go_wp2_with ((with_reducible refine at_store 28 ?_); refine store_sec rfl _ _ rfl (N + 1) (leafS t) rfl rfl hr2 (Sec.cs_length _) ?_)
          intro w13 hr13 hg13 hs13
          go_wp2_with fail
          have hBw : Below w.heap.size w w12 := HB4.out.trans (HB12.out.mono (by omega))
          exact bodyPost_ret (results_cell_tmp (fn := Try.f9) rfl _ _ (N + 1) 28 _ (0, 0) _ rfl _ rfl hr13 Try.underlying28 rfl (sec_size' _)) rfl ⟨by rw [Hz.out, Hcd.out]; rfl, below_grown hBw hg13 (by omega) hBw.size⟩
end Go.Proofs.Ytkfhbngphkobfaa
