/-
  Layer 15: the contract of Put.
-/
import Derived.Test.YtmcnhcbibcjgnaaPkClsH
import Derived.Test.YtmcnhcbibcjgnaaPkSecGN
import Derived.Test.YtmcnhcbibcjgnaaPkPutO
import Derived.Test.YtmcnhcbibcjgnaaPkLit
import Derived.BigQuiet
namespace Go.Proofs.Ytmcnhcbibcjgnaa
open Go.RowKit Go.Maps
set_option linter.unusedVariables false
set_option linter.unusedSimpArgs false

theorem put_call (N k : Nat) (xs : List UInt8) (n : Int) (w : World) (hk : n = (k : Int)) (h6 : k ≤ 65536) (hN : N < 18446744073709551616) (hx : putB N k = xs) :
    Calls Try.prog 34 #[.int .u64 (N : Int), .int .i64 n] w (RetRow w xs) := by
  subst hk hx
  exact put_any N k w (by omega) hN
theorem pad_call (s : List UInt8) (w : World) (h : s.length ≤ 15) : Calls Try.prog 35 #[.string ⟨s.toArray⟩, .int .i64 16] w (RetRowCode w (padN s) 0) := by
  rw [← pad16 h]
  exact pad_ok ⟨s.toArray⟩ 16 w (by omega) (by omega) (by show s.length + 1 ≤ 16; omega)

set_option maxRecDepth 100000 in
set_option maxHeartbeats 4000000 in
theorem cput_any (w : World) (base g : Nat) (L : List Nat) (l : List Cl) (h : Cls w base L g l) :
    Calls Try.prog 21 #[.pointer (some ⟨g, 0, none⟩)] w fun e w' => e = .returned (.agg (clsS l).cs.toArray) ∧ Below w.heap.size w w' := by
  obtain ⟨i0, hi, hz0, hz1, hz2⟩ := info_parts Try.info5
  have HC := Lib.hid h
  obtain ⟨vs, mp, hC, _⟩ := h
  have Hok := Lib.hid hC.ok
  obtain ⟨A, cap, hv, hnl, hncap, hcm, hl, _⟩ := lies_ownC hC.own
  subst hv
  have Hl := Lib.hid hl
  have Hrow := Lib.hid hC.row
  obtain ⟨n, hn⟩ : ∃ n, l.length = n := ⟨_, rfl⟩
  have Hn := Lib.hid hn
  have hn8 : n ≤ 8 := by rw [← hn]; exact Hok.out.len
  rw [hn] at Hrow
  clear hC hnl hncap hcm hl hn
  go_enter Try.func21, Try.ntmps21
  go_wp2_with ((with_reducible refine at_alloc 48 ?_); refine alloc_sec rfl rfl ?_)
  intro w1 hr1 hb1 hs1
  have hlen := clen_any w1 base g L l (HC.out.below hb1)
  rw [Hn.out] at hlen
  obtain ⟨N, hN⟩ : ∃ N, w.heap.size = N := ⟨_, rfl⟩
  have HN := Lib.hid hN
  have HB1 := Lib.hid hb1
  have hgw := Hrow.out.lt
  rw [hN] at hr1 hs1 hgw ⊢
  clear hb1 hN
  go_wp2_with fail
  refine hlen.mono ?_
  rintro e w2 ⟨rfl, rfl⟩
  clear hlen
  have hnu : (n : Int) % 18446744073709551616 = n := by omega
  go_wp2_with fail
  refine (put_row n 1 w1 (by omega) (by omega) (by omega)).mono ?_
  rintro e w2 ⟨v2, rfl, hown2, hb2⟩
  rw [put_lenC] at hown2
  rw [hs1] at hown2
  have HO2 : Hid (w2.ownsRow (N + 1) 5 1 v2 (1 + 23 * 0) (cells (clsP l 0))) := by show World.ownsRow _ _ _ _ _ _ _; rw [clsP_zero, Hn.out]; exact hown2
  have HB2 : Hid (Below (N + 1) w1 w2) := by show Below _ _ _; rw [← hs1]; exact hb2
  have hz2' : N + 1 ≤ w2.heap.size := by have := hb2.size; omega
  have hr2 : RowV w2 g 60 [.slice A n cap, .map mp] := (Hrow.out.below hgw (by have := HB1.out; rw [HN.out] at this; exact this)).below (by omega) HB2.out
  have c0 := hr2.cell (i := 0) rfl
  clear hown2 hb2 hr2 hnu
  go_wp2_with fail
  clear c0
  go_loopw [3, 18] (fun u v W => ∃ k : Nat, k ≤ n ∧ v = .int .i64 k ∧ Hid (W.ownsRow (N + 1) 5 1 u (1 + 23 * k) (cells (clsP l k))) ∧ Hid (Below (N + 1) w1 W)) (fun _ v _ => n - (intOf v).toNat)
  case atStart => exact ⟨0, Nat.zero_le _, rfl, HO2, HB2⟩
  case round =>
    obtain ⟨k, hk, rfl, HO, HB⟩ := hrel
    clear HO2 HB2 hz2'
    have hKr : N + 1 ≤ wr.heap.size := by have := HB.out.size; omega
    by_cases hlt : k < n
    · obtain ⟨c, hc⟩ : ∃ c, l[k]? = some c := ⟨_, List.getElem?_eq_getElem (by rw [Hn.out]; exact hlt)⟩
      have hBw : Below w.heap.size w wr := HB1.out.trans (HB.out.mono (by have := HN.out; omega))
      obtain ⟨b1, o1, hA1, hb1l, hrg⟩ := lies_cl (Hl.out.below hBw) hc
      subst hA1
      have hcok := Hok.out.ok c (List.mem_of_getElem? hc)
      obtain ⟨p1, p2⟩ := Cl.ok_per hcok
      have hnm := Cl.ok_name hcok
      have Hst := Lib.hid (clsP_step hc)
      clear hc hcok hBw
      go_wp2_with first
        | ((with_reducible refine at_load 34 ?_); refine load_clM rfl _ rfl b1 (o1 + k * 4) rfl hrg ?_)
        | ((with_reducible refine at_alloc 34 ?_); refine alloc_cl rfl rfl ?_)
      intro w3 hr3 hb3 hs3
      have ho3 := own_below HO.out hb3
      have HB3 : Hid (Below (N + 1) w1 w3) := HB.out.trans (hb3.mono hKr)
      have hK3 : N + 1 ≤ w3.heap.size := by omega
      obtain ⟨M, hM⟩ : ∃ M, wr.heap.size = M := ⟨_, rfl⟩
      rw [hM] at hr3 hs3 hKr ⊢
      clear hb3 hrg HO HB hM
      go_wp2_with ((with_reducible refine at_store 34 ?_); refine store_cl rfl _ _ rfl M c rfl rfl hr3 (clv_length _) ?_)
      intro w4 hr4 hg4 hs4
      have ho4 := ho3.kept hg4 (.inr (own_row_apart ho3 hr3 (by decide)))
      have HB4 : Hid (Below (N + 1) w1 w4) := below_grown HB3.out hg4 hKr (by omega)
      have Hr4 := Lib.hid hr4
      have n0 := cl_name hr4
      obtain ⟨T0, hT0⟩ : ∃ T0, clsP l k = T0 := ⟨_, rfl⟩
      rw [hT0] at ho4
      have hst := Hst.out
      rw [hT0] at hst
      have Hst2 := Lib.hid hst
      have hMlt : M < w4.heap.size := hr4.lt
      clear ho3 hr3 hg4 HB3 hK3 hr4 Hst hst hT0 hs3
      obtain ⟨p, hp⟩ : ∃ p, c.period.toNat = p := ⟨_, rfl⟩
      have hcp : c.period = (p : Int) := by omega
      have hpl : p ≤ 1099511627776 := by omega
      rw [hp] at Hst2
      clear hp p1 p2
      go_wp2_with fail
      refine (pad_call c.name w4 hnm).mono ?_
      rintro e w5 ⟨A5, c5, rfl, _, _, hl5, hb5⟩
      have ho5 := own_below ho4 hb5
      have HB5 : Hid (Below (N + 1) w1 w5) := HB4.out.trans (hb5.mono (by omega))
      have Hr5 := Lib.hid (Hr4.out.below hMlt hb5)
      have hM5 : M < w5.heap.size := Nat.lt_of_lt_of_le hMlt hb5.size
      obtain ⟨X5, hX5⟩ : ∃ X5, padN c.name = X5 := ⟨_, rfl⟩
      have Hx5 : Hid (X5.length = 16) := by show _ = _; rw [← hX5]; exact padN_length hnm
      rw [hX5] at hl5 Hst2 ⊢
      rw [Hx5.out]
      clear ho4 hb5 HB4 Hr4 hMlt hX5 n0
      go_wp2_with (at_builtin; refine wpList_append_lies rfl _ _ 66 rfl (N + 1) i0 Try.underlying66 hi hz0 hz1 hz2 _ (1 + 23 * k) T0 X5 rfl ho5 w5.heap.size _ _ _ rfl hl5 Hx5.out.symm (by omega) (by omega) ?_)
      intro v6 w6 ho6 hg6
      have HB6 : Hid (Below (N + 1) w1 w6) := HB5.out.grown hg6 (by omega) (own_ge ho5)
      have hr6 := Hr5.out.keep hg6 (own_row_apart ho5 Hr5.out (by decide))
      have Hr6 := Lib.hid hr6
      have hM6 : M < w6.heap.size := hr6.lt
      have n1 := cl_per hr6
      rw [hcp] at n1
      have hpu : (p : Int) % 18446744073709551616 = p := by omega
      clear ho5 hg6 HB5 Hr5 hM5 hl5 hr6
      go_wp2_with fail
      refine (put_call p 6 (putB p 6) 6 w6 rfl (by omega) (by omega) rfl).mono ?_
      rintro e w7 ⟨A7, c7, rfl, _, _, hl7, hb7⟩
      have ho7 := own_below ho6 hb7
      have HB7 : Hid (Below (N + 1) w1 w7) := HB6.out.trans (hb7.mono (by omega))
      have Hr7 := Lib.hid (Hr6.out.below hM6 hb7)
      have hM7 : M < w7.heap.size := Nat.lt_of_lt_of_le hM6 hb7.size
      obtain ⟨X7, hX7⟩ : ∃ X7, putB p 6 = X7 := ⟨_, rfl⟩
      have Hx7 : Hid (X7.length = 6) := by show _ = _; rw [← hX7, putB_length]
      rw [hX7] at hl7 Hst2 ⊢
      rw [Hx7.out]
      obtain ⟨T6, hT6⟩ : ∃ T6, T0 ++ X5 = T6 := ⟨_, rfl⟩
      rw [hT6] at ho7 Hst2
      clear ho6 hb7 HB6 Hr6 hM6 hX7 n1 hT6 hpu
      go_wp2_with (at_builtin; refine wpList_append_lies rfl _ _ 66 rfl (N + 1) i0 Try.underlying66 hi hz0 hz1 hz2 _ (1 + 23 * k + 16) T6 X7 rfl ho7 w7.heap.size _ _ _ rfl hl7 Hx7.out.symm (by omega) (by omega) ?_)
      intro v8 w8 ho8 hg8
      have HB8 : Hid (Below (N + 1) w1 w8) := HB7.out.grown hg8 (by omega) (own_ge ho7)
      have hr8 := Hr7.out.keep hg8 (own_row_apart ho7 Hr7.out (by decide))
      have hM8 : M < w8.heap.size := hr8.lt
      clear ho7 hg8 HB7 Hr7 hM7 hl7
      go_wp2_with ((with_reducible refine at_load 34 ?_); refine load_cl rfl _ rfl M rfl hr8 ?_)
      refine (cflags_any c w8).mono ?_
      rintro e w9 ⟨rfl, hb9⟩
      have ho9 := own_below ho8 hb9
      have HB9 : Hid (Below (N + 1) w1 w9) := HB8.out.trans (hb9.mono (by omega))
      have hM9 : M < w9.heap.size := Nat.lt_of_lt_of_le hM8 hb9.size
      clear ho8 hb9 HB8 hr8 hM8
      have hfl := (flagB c).toNat_lt
      go_wp2_with fail
      refine (put_call (flagB c).toNat 1 [flagB c] 1 w9 rfl (by omega) (by omega) (put_one _)).mono ?_
      rintro e w10 ⟨A10, c10, rfl, _, _, hl10, hb10⟩
      have ho10 := own_below ho9 hb10
      have HB10 : Hid (Below (N + 1) w1 w10) := HB9.out.trans (hb10.mono (by omega))
      have hM10 : M < w10.heap.size := Nat.lt_of_lt_of_le hM9 hb10.size
      obtain ⟨X10, hX10⟩ : ∃ X10, [flagB c] = X10 := ⟨_, rfl⟩
      have Hx10 : Hid (X10.length = 1) := by show _ = _; rw [← hX10]; rfl
      rw [hX10] at hl10 Hst2 ⊢
      rw [Hx10.out]
      obtain ⟨T8, hT8⟩ : ∃ T8, T6 ++ X7 = T8 := ⟨_, rfl⟩
      rw [hT8] at ho10 Hst2
      clear ho9 hb10 HB9 hM9 hX10 hT8 hfl
      go_wp2_with (at_builtin; refine wpList_append_lies rfl _ _ 66 rfl (N + 1) i0 Try.underlying66 hi hz0 hz1 hz2 _ (1 + 23 * k + 16 + 6) T8 X10 rfl ho10 w10.heap.size _ _ _ rfl hl10 Hx10.out.symm (by omega) (by omega) ?_)
      intro v11 w11 ho11 hg11
      have HB11 : Hid (Below (N + 1) w1 w11) := HB10.out.grown hg11 (by omega) (own_ge ho10)
      have HO11 : Hid (w11.ownsRow (N + 1) 5 1 v11 (1 + 23 * (k + 1)) (cells (clsP l (k + 1)))) := by
        show World.ownsRow _ _ _ _ _ _ _
        rw [Hst2.out, show 1 + 23 * (k + 1) = 1 + 23 * k + 16 + 6 + 1 by omega]
        exact ho11
      clear ho10 hg11 HB10 hM10 hl10 ho11
      go_wp2_with fail
      go_roundw
      all_goals first
        | (simp [intOf]; omega)
        | exact ⟨k + 1, by omega, by go_num, HO11, HB11⟩
    · obtain rfl : k = n := by omega
      have hall : clsP l k = clsB l := by rw [← Hn.out, clsP_all]
      have hbl : (clsB l).length ≤ 252 := by rw [← hall, clsP_length Hok.out (by rw [Hn.out]; exact Nat.le_refl _)]; omega
      obtain ⟨A9, c9, hv9, hn9, _, _, hl9⟩ := Lies.of_own HO.out
      rw [hall] at hl9 hn9
      have hv9' : u3 = .slice A9 (1 + 23 * k) c9 := by rw [hv9, hall, ← hn9]
      have Hn9 := Lib.hid hn9
      have Hw := Lib.hid (whole_take hbl)
      have Hes : Hid (wholeS (sealB (fill (clsB l) 252)) = clsS l) := by
        show _ = _
        rw [← clsS_seal hbl]
        exact Subtype.ext (whole_self (by rw [sealB_length, fill_length hbl]))
      have Hl252 : Hid ((fill (clsB l) 252).length = 252) := fill_length hbl
      have hsl : ∀ W g, (Instr.sliceAt 48 (.pointer (some ⟨g, 0, none⟩)) none (some (.int .i64 252)) none).run Try.prog W = .ok (.slice (some ⟨g, 0, none⟩) 252 256) W := fun W g => run_slice_arr_to Try.underlying48 Try.size1 g 0 .i64 252 252 rfl (by omega) (by omega)
      subst hv9'
      have hr1r := hr1.below (by omega) HB.out
      clear hv9 hn9 HO hall
      go_wp2_with fail
      refine (whole_sec A9 (1 + 23 * k) c9 (clsB l) wr wr.heap.size hl9 Hn9.out (Nat.le_refl _)).mono ?_
      rintro e w12 ⟨rfl, hb12⟩
      have hr12 := hr1r.below (by omega) hb12
      have HB12 : Hid (Below (N + 1) w1 w12) := HB.out.trans (hb12.mono hKr)
      have hz12 : N + 1 ≤ w12.heap.size := by have := hb12.size; omega
      clear hb12 hl9 HB hr1r
      go_wp2_with ((with_reducible refine at_alloc 48 ?_); refine alloc_sec rfl rfl ?_)
      intro w13 hr13 hb13 hs13
      have hr1c := hr12.below (by omega) hb13
      have HB13 : Hid (Below (N + 1) w1 w13) := HB12.out.trans (hb13.mono hz12)
      obtain ⟨M, hM⟩ : ∃ M, w12.heap.size = M := ⟨_, rfl⟩
      rw [hM] at hr13 hs13 hz12 ⊢
      clear hb13 hr12 HB12 hM
      go_wp2_with ((with_reducible refine at_store 48 ?_); refine store_sec rfl _ _ rfl M (wholeS (clsB l)) rfl rfl hr13 (Sec.cs_length _) ?_)
      intro w14 hr14 hg14 hs14
      have hr1d := hr1c.keep hg14 (fun e => by injection e with e; omega)
      have HB14 : Hid (Below (N + 1) w1 w14) := below_grown HB13.out hg14 hz12 (by omega)
      have hl14 : Lies w14 w14.heap.size (some ⟨M, 0, none⟩) (fill (clsB l) 252) := by
        have : Row w14 M 48 (wholeB (clsB l)) := hr14
        rw [← Hw.out]
        exact this.lies.take 252
      clear hr13 hg14 HB13 hr1c hr14
      go_wp2_with fail
      refine (sealed_any _ _ _ (fill (clsB l) 252) w14 _ hl14 (Nat.le_refl _) Hl252.out.symm (by omega)).mono ?_
      rintro e w15 ⟨A15, c15, rfl, _, _, hl15, hb15, _⟩
      have hr1e := hr1d.below (by omega) hb15
      have HB15 : Hid (Below (N + 1) w1 w15) := HB14.out.trans (hb15.mono (by omega))
      have hz15 : N + 1 ≤ w15.heap.size := by have := hb15.size; omega
      clear hb15 hl14 HB14 hr1d
      go_wp2_with fail
      refine (whole_sec A15 _ c15 _ w15 _ hl15 rfl (Nat.le_refl _)).mono ?_
      rintro e w16 ⟨rfl, hb16⟩
      rw [Hes.out]
      have hr1f := hr1e.below (by omega) hb16
      have HB16 : Hid (Below (N + 1) w1 w16) := HB15.out.trans (hb16.mono hz15)
      have hz16 : N + 1 ≤ w16.heap.size := by have := hb16.size; omega
      clear hb16 hl15 HB15 hr1e
      go_wp2_with ((with_reducible refine at_store 48 ?_); refine store_sec rfl _ _ rfl N (clsS l) rfl rfl hr1f (Sec.cs_length _) ?_)
      intro w17 hr17 hg17 hs17
      go_wp2_with fail
      have hB17 : Below N w w16 := by
        have h1 := HB1.out
        rw [HN.out] at h1
        exact h1.trans (HB16.out.mono (by omega))
      exact bodyPost_ret (results_cell_row (fn := Try.f21) rfl _ _ N 48 _ (0, 0) _ rfl hr17 Try.underlying48 rfl (sec_size' _)) rfl ⟨rfl, by rw [HN.out]; exact below_grown hB17 hg17 (Nat.le_refl _) (by omega)⟩
end Go.Proofs.Ytmcnhcbibcjgnaa
