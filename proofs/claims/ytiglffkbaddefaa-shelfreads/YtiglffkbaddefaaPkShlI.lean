/-
  Layer 12: the contract of the reference's Sectors.
-/
import Derived.Test.YtiglffkbaddefaaPkShlE
import Derived.Test.YtiglffkbaddefaaPkSupQ
import Derived.Test.YtiglffkbaddefaaPkRPut
namespace Go.Proofs.Ytiglffkbaddefaa
open Go.RowKit Go.Shelf
set_option linter.unusedVariables false
set_option linter.unusedSimpArgs false

theorem seal_six {l : List Ent} (h : l.length = 6) (hx : (placesB l).length ≤ 252) : sealS (placesB l) hx = sixS l := by
  apply Subtype.ext
  have hl : (placesB l).length = 252 := by rw [placesB_length, h]
  have : fill (placesB l) 252 = placesB l := by have := fill_full (xs := placesB l); rwa [hl] at this
  rw [sixS_one h]
  show sealB (fill (placesB l) 252) = _
  rw [this]
theorem shelfL_succ (l : List Ent) (m : Nat) : shelfL l (m + 1) = shelfL l m ++ [sixAt l m] := by simp [shelfL, List.range_succ]
theorem entB_parts (e : Ent) : entB e = putB e.count.toNat 6 ++ putB e.slot.toNat 2 ++ e.adr.1 ++ [0, 0] := by simp [entB, List.append_assoc]
theorem range_adr {w : World} {b o : Nat} {e : Ent} (h : w.rangeAt b o e.cs) {k : Nat} {x : UInt8} (hx : e.adr.1[k]? = some x) : w.cell? ⟨b, o + k, none⟩ = some (.int .u8 (x.toNat : Int)) := adr_of h k _ (cells_get hx)

theorem own_kept_apart {w w' : World} {base : Nat} {e e' : TypeId} {size size' : Nat} {v v' : Value} {n n' : Nat} {xs xs' : List Value} (h : w.ownsRow base e size v n xs) (h' : w.ownsRow base e' size' v' n' xs') (hne : e ≠ e') (hg : w.grownBy w' v'.ownBlock) : w'.ownsRow base e size v n xs :=
  h.kept hg (by
    cases hvv : v.ownBlock with
    | none => exact .inl rfl
    | some j => exact .inr (fun e => own_apart h h' hne hvv e.symm))
/-- Where Sectors stands: q sectors are done, and r places of the next. -/
structure SecI (i q r m : Nat) : Prop where
  eq : i = q * 6 + r
  lt : r < 6
  le : q < m ∨ q = m ∧ r = 0

set_option maxRecDepth 100000 in
set_option maxHeartbeats 8000000 in
theorem rsectors_any (w : World) (B n c m : Nat) (A : Option Addr) (l : List Ent) (h : LiesV w B A (ents l)) (hn : n = l.length) (hm : n = m * 6) (hB : B ≤ w.heap.size) (hf : ∀ e ∈ l, e.fits) (hle : m ≤ 1000) (hc : n ≤ c) :
    Calls Try.prog 14 #[.slice A n c] w fun e w' => ∃ v, e = .returned v ∧ w'.ownsRow w.heap.size 43 256 v m (secs (shelfL l m)) ∧ Below w.heap.size w w' := by
  obtain ⟨i0, hi, hz0, hz1, hz2⟩ := info_parts Try.info5
  have HL := Lib.hid h
  have Hn := Lib.hid hn
  have Hm := Lib.hid hm
  have Hf := Lib.hid hf
  have hn6 : n ≤ 6000 := by omega
  clear h hn hm hf
  obtain ⟨N, hN⟩ : ∃ N, w.heap.size = N := ⟨_, rfl⟩
  have HB0 : Hid (Below N w w) := Below.refl _ _
  have HO0 : Hid (w.ownsRow N 43 256 (.slice none 0 0) 0 (secs (shelfL l 0))) := World.ownsRow_nil _ _ _ _
  have HP0 : Hid (w.ownsRow N 5 1 (.slice none 0 0) (0 * 42) (cells (placesB ((l.drop (0 * 6)).take 0)))) := World.ownsRow_nil _ _ _ _
  have hz0' : Hid (N ≤ w.heap.size) := by show _ ≤ _; omega
  rw [hN] at hB
  have Hi0 : Hid (SecI 0 0 0 m) := ⟨rfl, by omega, by omega⟩
  go_enter Try.func14, Try.ntmps14
  go_wp2_with fail
  go_loopw [3, 4, 5] (fun v3 v4 v W => ∃ i q r : Nat, v = .int .i64 i ∧ Hid (SecI i q r m) ∧ Hid (W.ownsRow N 43 256 v3 q (secs (shelfL l q))) ∧ Hid (W.ownsRow N 5 1 v4 (r * 42) (cells (placesB ((l.drop (q * 6)).take r)))) ∧ Hid (Below N w W) ∧ Hid (N ≤ W.heap.size)) (fun _ _ v _ => n - (intOf v).toNat)
  case atStart => exact ⟨0, 0, 0, rfl, Hi0, HO0, HP0, HB0, hz0'⟩
  case round =>
    obtain ⟨i, q, r, rfl, HI, HO, HP, HB, HZ⟩ := hrel
    clear HO0 HP0 HB0 hz0' Hi0
    generalize wr = wo at *
    have hi1 := HI.out.eq
    have hr6 := HI.out.lt
    have hqm := HI.out.le
    have hmm := Hm.out
    have HI1 := Lib.hid hi1
    rcases hqm with hq | ⟨rfl, rfl⟩
    · have hlt' : (i : Int) < (n : Int) := by omega
      have hi0 : (0 : Int) ≤ (i : Int) := by omega
      have hi6 : i ≤ 6000 := by omega
      have hiT : (i : Int).tmod 6 = (r : Int) := by rw [Int.tmod_eq_emod_of_nonneg (by omega)]; omega
      have hiM : (i : Int) % 6 = (r : Int) := by omega
      obtain ⟨e, he⟩ : ∃ e, l[i]? = some e := ⟨_, List.getElem?_eq_getElem (by rw [← Hn.out]; omega)⟩
      have her : (l.drop (q * 6))[r]? = some e := by rw [List.getElem?_drop, ← hi1]; exact he
      obtain ⟨f1, f2, f3, f4⟩ := Hf.out e (List.mem_of_getElem? he)
      obtain ⟨Nc, hNc⟩ : ∃ k : Nat, e.count = (k : Int) := ⟨e.count.toNat, by omega⟩
      obtain ⟨Ns, hNs⟩ : ∃ k : Nat, e.slot = (k : Int) := ⟨e.slot.toNat, by omega⟩
      have HNc := Lib.hid hNc
      have HNs := Lib.hid hNs
      have hNc2 : Nc < 281474976710656 := by omega
      have hNs2 : Ns < 65536 := by omega
      have Hsn : Hid (placesB ((l.drop (q * 6)).take (r + 1)) = placesB ((l.drop (q * 6)).take r) ++ (putB Nc 6 ++ putB Ns 2 ++ e.adr.1 ++ [0, 0])) := by
        show _ = _
        rw [placesB_snoc her, entB_parts, hNc, hNs]
        rfl
      have Hea := Lib.hid e.adr.2
      obtain ⟨b, o, hA, hb, hra⟩ := lies_ent (HL.out.below (HB.out.mono hB)) he
      subst hA
      have Hra := Lib.hid hra
      have HRA : Hid (∀ W, Below N wo W → W.rangeAt b (o + i * 34) e.cs) := fun W hbw j u hj => (hbw.cell (p := ⟨b, _, none⟩) (by show b < N; omega)).trans (hra j u hj)
      have c1 := count_of hra
      rw [hNc] at c1
      have hz := HZ.out
      have hwN : Below N w wo := HB.out
      have HPo := HP.out
      obtain ⟨v4, hv4⟩ : ∃ v4, u4 = v4 := ⟨_, rfl⟩
      rw [hv4] at HP HPo ⊢
      have Hcx := Lib.hid hmm
      clear hra he her f1 f2 f3 f4 hNc hNs hi1 hmm HI hv4
      go_wp2_with fail
      refine (rput_any 6 Nc _ 6 wo rfl rfl (by omega) (by omega) (by omega)).mono ?_
      rintro x w2 ⟨A2, k2, rfl, h21, h22, hl2, hb2, hf2⟩
      have ho2 := own_below HPo hb2
      have HO2 := Lib.hid (own_below HO.out hb2)
      have HB2 : Hid (Below N wo w2) := hb2.mono hz
      have hz2' : N ≤ w2.heap.size := by have := hb2.size; omega
      have hl6 := putB_length Nc 6
      clear c1 HPo
      rw [hl6]
      go_wp2_with (at_builtin; refine wpList_append_lies rfl _ _ 71 rfl N i0 Try.underlying71 hi hz0 hz1 hz2 _ (r * 42) (placesB ((l.drop (q * 6)).take r)) (putB Nc 6) rfl ho2 w2.heap.size _ _ _ rfl hl2 hl6.symm (by omega) hz2' ?_)
      intro v3' w3 ho3 hg3
      have HO3 := Lib.hid (own_kept_apart HO2.out ho2 (by decide) hg3)
      have HB3 : Hid (Below N wo w3) := HB2.out.grown hg3 hz2' (fun j e => own_ge ho2 j e)
      have hz3' : N ≤ w3.heap.size := by have := hg3.size; omega
      have c2 := slot_of (HRA.out w3 HB3.out)
      rw [HNs.out] at c2
      clear HO2 HB2 ho2 hg3 hb2 hl2 hf2 h21 h22 hl6 hz2'
      go_wp2_with fail
      refine (rput_any 2 Ns _ 2 w3 rfl rfl (by omega) (by omega) (by omega)).mono ?_
      rintro x w4 ⟨A4, k4, rfl, h41, h42, hl4, hb4, hf4⟩
      have ho4 := own_below ho3 hb4
      have HO4 := Lib.hid (own_below HO3.out hb4)
      have HB4 : Hid (Below N wo w4) := HB3.out.trans (hb4.mono hz3')
      have hz4' : N ≤ w4.heap.size := by have := hb4.size; omega
      have hl2 := putB_length Ns 2
      clear c2 ho3 HO3 HB3 hb4 hf4 h41 h42 hz3'
      rw [hl2]
      go_wp2_with (at_builtin; refine wpList_append_lies rfl _ _ 71 rfl N i0 Try.underlying71 hi hz0 hz1 hz2 _ (r * 42 + 6) (placesB ((l.drop (q * 6)).take r) ++ putB Nc 6) (putB Ns 2) rfl ho4 w4.heap.size _ _ _ rfl hl4 hl2.symm (by omega) hz4' ?_)
      intro v5 w5 ho5 hg5
      have HO5 := Lib.hid (own_kept_apart HO4.out ho4 (by decide) hg5)
      have HB5 : Hid (Below N wo w5) := HB4.out.grown hg5 hz4' (fun j e => own_ge ho4 j e)
      have hz5' : Hid (N ≤ w5.heap.size) := by show _ ≤ _; have := hg5.size; omega
      obtain ⟨P8, hP8⟩ : ∃ P8, placesB ((l.drop (q * 6)).take r) ++ (putB Nc 6 ++ putB Ns 2) = P8 := ⟨_, rfl⟩
      have Hsn2 : Hid (placesB ((l.drop (q * 6)).take (r + 1)) = P8 ++ (e.adr.1 ++ [0, 0])) := by
        show _ = _
        rw [Hsn.out, ← hP8]
        simp [List.append_assoc]
      rw [hP8] at ho5
      have HP5 : Hid (w5.ownsRow N 5 1 v5 (r * 42 + 8 + 0) (cells (P8 ++ e.adr.1.take 0))) := by show World.ownsRow _ _ _ _ _ _ _; rw [List.take_zero, List.append_nil]; exact ho5
      have HKw : Hid (∀ W, Below N wo W → W.rangeAt b (o + i * 34) e.cs) := HRA.out
      clear HO4 HB4 ho4 ho5 hg5 hl4 hl2 hz4' hP8 Hsn HP HO HB HZ HRA
      go_wp2_with fail
      go_loopw [4, 6] (fun v4 v W => ∃ k : Nat, k ≤ 32 ∧ v = .int .i64 k ∧ Hid (W.ownsRow N 5 1 v4 (r * 42 + 8 + k) (cells (P8 ++ e.adr.1.take k))) ∧ Hid (W.ownsRow N 43 256 u3 q (secs (shelfL l q))) ∧ Hid (Below N wo W) ∧ Hid (N ≤ W.heap.size)) (fun _ v _ => 32 - (intOf v).toNat)
      case atStart => exact ⟨0, Nat.zero_le _, rfl, HP5, HO5, HB5, hz5'⟩
      case round =>
        obtain ⟨k, hk, rfl, HP6, HO6, HB6, HZ6⟩ := hrel
        clear HP5 HO5 HB5 hz5'
        by_cases hk32 : k < 32
        · have hk32' : (k : Int) < 32 := by omega
          have hk0 : (0 : Int) ≤ (k : Int) := by omega
          obtain ⟨x, hx⟩ : ∃ x, e.adr.1[k]? = some x := ⟨_, List.getElem?_eq_getElem (by rw [Hea.out]; exact hk32)⟩
          have HKs : Hid (e.adr.1.take (k + 1) = e.adr.1.take k ++ [x]) := by show _ = _; rw [List.take_add_one, hx]; rfl
          have cx := range_adr (HKw.out wr HB6.out) hx
          have ho7 := HP6.out.alloc (.cells #[Value.int .u8 (x.toNat : Int)] 5)
          have hl7 := Lies.lit wr #[Value.int .u8 (x.toNat : Int)] [x] rfl (wr.heap.size + 1) (by omega)
          have HO7 : Hid ((wr.alloc (.cells #[Value.int .u8 (x.toNat : Int)] 5)).ownsRow N 43 256 u3 q (secs (shelfL l q))) := own_below HO6.out ((Below.refl _ wr).alloc (Nat.le_refl _) _)
          have HB7 : Hid (Below N wo (wr.alloc (.cells #[Value.int .u8 (x.toNat : Int)] 5))) := HB6.out.alloc HZ6.out _
          have hz7 : N ≤ (wr.alloc (.cells #[Value.int .u8 (x.toNat : Int)] 5)).heap.size := by have := HZ6.out; simp; omega
          clear hx HP6 HO6 HB6 HZ6
          go_wp2_with (at_builtin; refine wpList_append_lies rfl _ _ 71 rfl N i0 Try.underlying71 hi hz0 hz1 hz2 _ (r * 42 + 8 + k) (P8 ++ e.adr.1.take k) [x] rfl ho7 (wr.heap.size + 1) _ _ _ rfl hl7 rfl (by omega) hz7 ?_)
          intro v8 w8 ho8 hg8
          have HP8 : Hid (w8.ownsRow N 5 1 v8 (r * 42 + 8 + (k + 1)) (cells (P8 ++ e.adr.1.take (k + 1)))) := by show World.ownsRow _ _ _ _ _ _ _; rw [HKs.out]; exact ho8
          have HO8 := Lib.hid (own_kept_apart HO7.out ho7 (by decide) hg8)
          have HB8 : Hid (Below N wo w8) := HB7.out.grown hg8 hz7 (fun j e => own_ge ho7 j e)
          have HZ8 : Hid (N ≤ w8.heap.size) := by show _ ≤ _; have := hg8.size; omega
          clear ho7 hl7 HO7 HB7 hz7 ho8 hg8 cx HKs
          go_wp2_with fail
          go_roundw
          case rel => exact ⟨k + 1, by omega, by go_num, HP8, HO8, HB8, HZ8⟩
          case measure => simp [intOf]; omega
        · obtain rfl : k = 32 := by omega
          have HT : Hid (e.adr.1.take 32 = e.adr.1) := List.take_of_length_le (by rw [Hea.out]; exact Nat.le_refl _)
          rw [HT.out] at HP6
          have ho7 := HP6.out.alloc (.cells #[Value.int .u8 0, Value.int .u8 0] 5)
          have hl7 := Lies.lit wr #[Value.int .u8 0, Value.int .u8 0] [0, 0] rfl (wr.heap.size + 1) (by omega)
          have HO7 : Hid ((wr.alloc (.cells #[Value.int .u8 0, Value.int .u8 0] 5)).ownsRow N 43 256 u3 q (secs (shelfL l q))) := own_below HO6.out ((Below.refl _ wr).alloc (Nat.le_refl _) _)
          have HB7 : Hid (Below N wo (wr.alloc (.cells #[Value.int .u8 0, Value.int .u8 0] 5))) := HB6.out.alloc HZ6.out _
          have hz7 : N ≤ (wr.alloc (.cells #[Value.int .u8 0, Value.int .u8 0] 5)).heap.size := by have := HZ6.out; simp; omega
          have Hwo := Lib.hid hwN
          clear HP6 HO6 HB6 HZ6 hwN
          go_wp2_with (at_builtin; refine wpList_append_lies rfl _ _ 71 rfl N i0 Try.underlying71 hi hz0 hz1 hz2 _ (r * 42 + 8 + 32) (P8 ++ e.adr.1) [0, 0] rfl ho7 (wr.heap.size + 1) _ _ _ rfl hl7 rfl (by omega) hz7 ?_)
          intro v8 w8 ho8 hg8
          rw [← Hsn2.out, show r * 42 + 8 + 32 + 2 = (r + 1) * 42 by omega] at ho8
          have HO8 := Lib.hid (own_kept_apart HO7.out ho7 (by decide) hg8)
          have HB8 : Hid (Below N w w8) := Hwo.out.trans (HB7.out.grown hg8 hz7 (fun j e => own_ge ho7 j e))
          have HZ8 : Hid (N ≤ w8.heap.size) := by show _ ≤ _; have := hg8.size; omega
          have HP8 := Lib.hid ho8
          clear ho7 hl7 HO7 HB7 hz7 ho8 hg8
          by_cases hr5 : r = 5
          · have hd5 : ((r : Int) == 5) = true := by rw [beq_iff_eq]; omega
            subst hr5
            have H6 : Hid (((l.drop (q * 6)).take 6).length = 6) := by show _ = _; rw [List.length_take, List.length_drop, ← Hn.out, Hm.out]; omega
            have Hpl : Hid ((placesB ((l.drop (q * 6)).take 6)).length = 252) := by show _ = _; rw [placesB_length, H6.out]
            obtain ⟨A8, c8, rfl, hn8, hk8, hm8, hl8⟩ := Lies.of_own HP8.out
            rw [Hpl.out]
            go_wp2_with fail
            refine (rsealed_any A8 252 c8 _ w8 w8.heap.size hl8 Hpl.out.symm (Nat.le_refl _) (by rw [Hpl.out]; exact Nat.le_refl _)).mono ?_
            rintro x w9 ⟨rfl, hb9⟩
            rw [seal_six H6.out]
            have HO9 := Lib.hid (own_below HO8.out hb9)
            have HB9 : Hid (Below N w w9) := HB8.out.trans (hb9.mono HZ8.out)
            have hz9 : N ≤ w9.heap.size := by have := hb9.size; have := HZ8.out; omega
            have HI9 : Hid (SecI (i + 1) (q + 1) 0 m) := ⟨by rw [HI1.out]; omega, by omega, by omega⟩
            have Hsx : Hid (secs (shelfL l (q + 1)) = secs (shelfL l q) ++ (sixS ((l.drop (q * 6)).take 6)).cs) := by
              show _ = _
              rw [shelfL_succ, secs_snoc]
              rfl
            clear HO8 HP8 HB8 HZ8 hl8 hb9 hm8 hk8 hiT hiM
            go_wp2_with (first
              | ((with_reducible refine at_buildSlice 35 ?_); refine wpList_buildSlice_oneV rfl 35 43 _ rfl (sixS ((l.drop (q * 6)).take 6)).cs rfl Try.underlying35 Try.infoS (Sec.cs_length _) (by decide) (by decide) ?_; intro w10 hr10 hb10 hs10; have HO10 := Lib.hid (own_below HO9.out hb10); have HB10 : Hid (Below N w w10) := HB9.out.trans (hb10.mono hz9); have hz10 : N ≤ w10.heap.size := (by have := hb10.size; omega); clear HO9 HB9 hb10)
              | (at_builtin; refine wpList_append_one rfl _ _ 35 rfl N 43 Try.underlying35 Try.infoS rfl (by decide) u3 q _ rfl HO10.out w9.heap.size (sixS ((l.drop (q * 6)).take 6)).cs rfl hr10 (Sec.cs_length _) (Sec.one _) (by unfold maxLen; omega) (by omega) hz10 ?_; intro v11 w11 ho11 hg11 _; rw [← Hsx.out] at ho11; have HO11 := Lib.hid ho11; have HB11 : Hid (Below N w w11) := HB10.out.grown hg11 hz10 (fun j e => own_ge HO10.out j e); have HZ11 : Hid (N ≤ w11.heap.size) := (by show _ ≤ _; have := hg11.size; omega); have HP11 : Hid (w11.ownsRow N 5 1 (.slice none 0 0) (0 * 42) (cells (placesB ((l.drop ((q + 1) * 6)).take 0)))) := World.ownsRow_nil _ _ _ _; clear HO10 HB10 ho11 hg11 hr10 hs10))
            go_roundw
            case rel => exact ⟨i + 1, q + 1, 0, by go_num, HI9, HO11, HP11, HB11, HZ11⟩
            case measure => simp [intOf]; omega
          · have hd5 : ((r : Int) == 5) = false := by rw [beq_eq_false_iff_ne]; omega
            have HI8 : Hid (SecI (i + 1) q (r + 1) m) := ⟨by rw [HI1.out]; omega, by omega, .inl hq⟩
            go_wp2_with fail
            go_roundw
            case rel => exact ⟨i + 1, q, r + 1, by go_num, HI8, HO8, HP8, HB8, HZ8⟩
            case measure => simp [intOf]; omega
    · have hlt' : ¬ (i : Int) < (n : Int) := by omega
      go_wp2_with fail
      go_ret
      exact ⟨_, rfl, HO.out, HB.out⟩
end Go.Proofs.Ytiglffkbaddefaa
