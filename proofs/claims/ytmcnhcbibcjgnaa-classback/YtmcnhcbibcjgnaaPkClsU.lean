/-
  Layer 15: the contract of the reference's Put.
-/
import Derived.Test.YtmcnhcbibcjgnaaPkClsH
import Derived.Test.YtmcnhcbibcjgnaaPkSecGN
import Derived.Test.YtmcnhcbibcjgnaaPkRPad
import Derived.Test.YtmcnhcbibcjgnaaPkRPut
import Derived.Test.YtmcnhcbibcjgnaaPkSupQ
import Derived.Test.YtmcnhcbibcjgnaaPkClsS
import Derived.BigQuiet
namespace Go.Proofs.Ytmcnhcbibcjgnaa
open Go.RowKit
set_option linter.unusedVariables false
set_option linter.unusedSimpArgs false

theorem rput_call (N k : Nat) (xs : List UInt8) (n : Int) (w : World) (hk : n = (k : Int)) (h6 : k ≤ 65536) (hN : N < 18446744073709551616) (hx : putB N k = xs) :
    Calls Try.prog 40 #[.int .u64 (N : Int), .int .i64 n] w (RetNew w xs) := by
  subst hk hx
  exact rput_any k N (N : Int) (k : Int) w rfl (by omega) (by omega) (by omega) hN
theorem rpad_call (s : List UInt8) (w : World) (h : s.length ≤ 15) : Calls Try.prog 39 #[.string ⟨s.toArray⟩, .int .i64 16] w (RetRowCode w (padN s) 0) := by
  rw [← pad16 h]
  exact rpad_ok ⟨s.toArray⟩ 16 w (by omega) (by omega) (by show s.length + 1 ≤ 16; omega)

theorem range_belowU {w w' : World} {b o B : Nat} {cs : List Value} (h : w.rangeAt b o cs) (hb : Below B w w') (hlt : b < B) : w'.rangeAt b o cs := fun j u hj => (World.cell?_of_block (hb.block b hlt)).trans (h j u hj)

set_option maxRecDepth 100000 in
set_option maxHeartbeats 8000000 in
theorem rput15_any (w : World) (B : Nat) (v : Value) (l : List Cl) (h : Rw15 w B v l) (hB : B ≤ w.heap.size) (hok : SetOk l) :
    Calls Try.prog 22 #[v] w fun e w' => e = .returned (.agg (clsS l).cs.toArray) ∧ Below w.heap.size w w' := by
  obtain ⟨i0, hi, hz0, hz1, hz2⟩ := info_parts Try.info5
  obtain ⟨A, c0, rfl, _, hl⟩ := h
  have Hl := Lib.hid hl
  have Hok := Lib.hid hok
  obtain ⟨n, hn⟩ : ∃ n, l.length = n := ⟨_, rfl⟩
  have Hn := Lib.hid hn
  have hn8 : n ≤ 8 := by rw [← hn]; exact Hok.out.len
  rw [hn]
  clear hok hl hn
  go_enter Try.func22, Try.ntmps22
  go_wp2_with ((with_reducible refine at_alloc 48 ?_); refine alloc_sec rfl rfl ?_)
  intro w1 hr1 hb1 hs1
  obtain ⟨N, hN⟩ : ∃ N, w.heap.size = N := ⟨_, rfl⟩
  have HN := Lib.hid hN
  have HB1 := Lib.hid hb1
  rw [hN] at hr1 hs1 ⊢
  clear hb1 hN
  have hn256 : (n : Int) % 256 = n := by omega
  have hown2 : (w1.alloc (.cells #[Value.int .u8 (n : Int)] 5)).ownsRow (N + 1) 5 1 (.slice (some ⟨w1.heap.size, 0, none⟩) 1 1) 1 (cells [UInt8.ofNat n]) := by
    have := World.ownsRow_lit (e := 5) (size := 1) (base := N + 1) w1 #[Value.int .u8 (n : Int)] 1 (by omega) (by unfold maxLen; omega) rfl
    have e : (#[Value.int .u8 (n : Int)] : Array Value).toList = cells [UInt8.ofNat n] := by
      show [Value.int .u8 (n : Int)] = [Value.int .u8 ((UInt8.ofNat n).toNat : Int)]
      rw [toNat_ofNat, Nat.mod_eq_of_lt (by omega)]
    rwa [e] at this
  have HO2 : Hid ((w1.alloc (.cells #[Value.int .u8 (n : Int)] 5)).ownsRow (N + 1) 5 1 (.slice (some ⟨N + 1, 0, none⟩) 1 1) (1 + 23 * 0) (cells (clsP l 0))) := by show World.ownsRow _ _ _ _ _ _ _; rw [clsP_zero, Hn.out]; rw [hs1] at hown2; exact hown2
  have HB2 : Hid (Below (N + 1) w1 (w1.alloc (.cells #[Value.int .u8 (n : Int)] 5))) := (Below.refl _ _).alloc (by omega) _
  clear hown2
  go_wp2_with fail
  go_loopw [3, 4] (fun u v W => ∃ k : Nat, k ≤ n ∧ v = .int .i64 k ∧ Hid (W.ownsRow (N + 1) 5 1 u (1 + 23 * k) (cells (clsP l k))) ∧ Hid (Below (N + 1) w1 W)) (fun _ v _ => n - (intOf v).toNat)
  case atStart => exact ⟨0, Nat.zero_le _, rfl, HO2, HB2⟩
  case round =>
    obtain ⟨k, hk, rfl, HO, HB⟩ := hrel
    clear HO2 HB2
    have hKr : N + 1 ≤ wr.heap.size := by have := HB.out.size; omega
    by_cases hlt : k < n
    · obtain ⟨c, hc⟩ : ∃ c, l[k]? = some c := ⟨_, List.getElem?_eq_getElem (by rw [Hn.out]; exact hlt)⟩
      have hBw : Below w.heap.size w wr := HB1.out.trans (HB.out.mono (by have := HN.out; omega))
      obtain ⟨b1, o1, hA1, hb1l, hrg⟩ := lies_cl (Hl.out.below (hBw.mono hB)) hc
      have hb1N : b1 < N := by have := HN.out; omega
      subst hA1
      have hcok := Hok.out.ok c (List.mem_of_getElem? hc)
      obtain ⟨p1, p2⟩ := Cl.ok_per hcok
      have hnm := Cl.ok_name hcok
      have Hst := Lib.hid (clsP_step hc)
      have n0 := rc_name hrg
      have hrg' := Lib.hid hrg
      obtain ⟨T0, hT0⟩ : ∃ T0, clsP l k = T0 := ⟨_, rfl⟩
      have ho4 := HO.out
      rw [hT0] at ho4
      have hst := Hst.out
      rw [hT0] at hst
      have Hst2 := Lib.hid hst
      obtain ⟨p, hp⟩ : ∃ p, c.period.toNat = p := ⟨_, rfl⟩
      have hcp : c.period = (p : Int) := by omega
      have hpl : p ≤ 1099511627776 := by omega
      rw [hp] at Hst2
      clear hc hcok hBw hrg Hst hst hT0 hp p1 p2 HO
      go_wp2_with fail
      refine (rpad_call c.name wr hnm).mono ?_
      rintro e w5 ⟨A5, c5, rfl, _, _, hl5, hb5⟩
      have ho5 := own_below ho4 hb5
      have HB5 : Hid (Below (N + 1) w1 w5) := HB.out.trans (hb5.mono (by omega))
      have hrg5 := Lib.hid (range_belowU hrg'.out (hb5.mono hKr) (by omega))
      have hz5 : N + 1 ≤ w5.heap.size := by have := hb5.size; omega
      obtain ⟨X5, hX5⟩ : ∃ X5, padN c.name = X5 := ⟨_, rfl⟩
      have Hx5 : Hid (X5.length = 16) := by show _ = _; rw [← hX5]; exact padN_length hnm
      rw [hX5] at hl5 Hst2 ⊢
      rw [Hx5.out]
      clear ho4 hb5 HB hX5 n0 hrg' hKr
      go_wp2_with (at_builtin; refine wpList_append_lies rfl _ _ 66 rfl (N + 1) i0 Try.underlying66 hi hz0 hz1 hz2 _ (1 + 23 * k) T0 X5 rfl ho5 w5.heap.size _ _ _ rfl hl5 Hx5.out.symm (by omega) (by omega) ?_)
      intro v6 w6 ho6 hg6
      have HB6 : Hid (Below (N + 1) w1 w6) := HB5.out.grown hg6 (by omega) (own_ge ho5)
      have hrg6 := Lib.hid (range_belowU hrg5.out ((Below.refl _ _).grown hg6 hz5 (own_ge ho5)) (by omega))
      have hz6 : N + 1 ≤ w6.heap.size := by have := hg6.size; omega
      have n1 := rc_per hrg6.out
      rw [hcp] at n1
      have hpu : (p : Int) % 18446744073709551616 = p := by omega
      clear ho5 hg6 HB5 hl5 hrg5 hz5
      go_wp2_with fail
      refine (rput_call p 6 (putB p 6) 6 w6 rfl (by omega) (by omega) rfl).mono ?_
      rintro e w7 ⟨A7, c7, rfl, _, _, hl7, hb7, _⟩
      have ho7 := own_below ho6 hb7
      have HB7 : Hid (Below (N + 1) w1 w7) := HB6.out.trans (hb7.mono (by omega))
      have hrg7 := Lib.hid (range_belowU hrg6.out (hb7.mono hz6) (by omega))
      have hz7 : N + 1 ≤ w7.heap.size := by have := hb7.size; omega
      obtain ⟨X7, hX7⟩ : ∃ X7, putB p 6 = X7 := ⟨_, rfl⟩
      have Hx7 : Hid (X7.length = 6) := by show _ = _; rw [← hX7, putB_length]
      rw [hX7] at hl7 Hst2 ⊢
      rw [Hx7.out]
      obtain ⟨T6, hT6⟩ : ∃ T6, T0 ++ X5 = T6 := ⟨_, rfl⟩
      rw [hT6] at ho7 Hst2
      clear ho6 hb7 HB6 hX7 n1 hT6 hpu hrg6 hz6
      go_wp2_with (at_builtin; refine wpList_append_lies rfl _ _ 66 rfl (N + 1) i0 Try.underlying66 hi hz0 hz1 hz2 _ (1 + 23 * k + 16) T6 X7 rfl ho7 w7.heap.size _ _ _ rfl hl7 Hx7.out.symm (by omega) (by omega) ?_)
      intro v8 w8 ho8 hg8
      have HB8 : Hid (Below (N + 1) w1 w8) := HB7.out.grown hg8 (by omega) (own_ge ho7)
      have hrg8 := range_belowU hrg7.out ((Below.refl _ _).grown hg8 hz7 (own_ge ho7)) (by omega)
      have hz8 : N + 1 ≤ w8.heap.size := by have := hg8.size; omega
      have n2 := rc_ev hrg8
      have n3 := rc_pr hrg8
      obtain ⟨T8, hT8⟩ : ∃ T8, T6 ++ X7 = T8 := ⟨_, rfl⟩
      rw [hT8] at ho8 Hst2
      obtain ⟨ev, hev⟩ : ∃ ev, c.event = ev := ⟨_, rfl⟩
      obtain ⟨pr, hpr⟩ : ∃ pr, c.priv = pr := ⟨_, rfl⟩
      rw [hev] at n2
      rw [hpr] at n3
      have Hfl : Hid (flagB c = flagBits ev pr) := by show _ = _; rw [flagB, hev, hpr]
      clear ho7 hg8 HB7 hl7 hrg7 hz7 hrg8 hT8 hev hpr
      cases ev
      · cases pr
        · have ho9 := ho8.alloc (.cells #[Value.int .u8 0] 5)
          have hl9 := Lies.lit w8 #[Value.int .u8 0] [0] rfl (w8.heap.size + 1) (by omega)
          have HB9 : Hid (Below (N + 1) w1 (w8.alloc (.cells #[Value.int .u8 0] 5))) := HB8.out.alloc hz8 _
          have hz9 : N + 1 ≤ (w8.alloc (.cells #[Value.int .u8 0] 5)).heap.size := by simp; omega
          have hf9 : flagB c = 0 := Hfl.out
          go_wp2_with (at_builtin; refine wpList_append_lies rfl _ _ 66 rfl (N + 1) i0 Try.underlying66 hi hz0 hz1 hz2 _ (1 + 23 * k + 16 + 6) T8 [0] rfl ho9 (w8.heap.size + 1) _ _ _ rfl hl9 rfl (by omega) hz9 ?_)
          intro v11 w11 ho11 hg11
          have HB11 : Hid (Below (N + 1) w1 w11) := HB9.out.grown hg11 (by omega) (own_ge ho9)
          have HO11 : Hid (w11.ownsRow (N + 1) 5 1 v11 (1 + 23 * (k + 1)) (cells (clsP l (k + 1)))) := by
            show World.ownsRow _ _ _ _ _ _ _
            rw [Hst2.out, hf9, show 1 + 23 * (k + 1) = 1 + 23 * k + 16 + 6 + 1 by omega]
            exact ho11
          clear ho9 hg11 hl9 ho11
          go_wp2_with fail
          go_roundw
          all_goals first
            | (simp [intOf]; omega)
            | exact ⟨k + 1, by omega, by go_num, HO11, HB11⟩
        · have ho9 := ho8.alloc (.cells #[Value.int .u8 2] 5)
          have hl9 := Lies.lit w8 #[Value.int .u8 2] [2] rfl (w8.heap.size + 1) (by omega)
          have HB9 : Hid (Below (N + 1) w1 (w8.alloc (.cells #[Value.int .u8 2] 5))) := HB8.out.alloc hz8 _
          have hz9 : N + 1 ≤ (w8.alloc (.cells #[Value.int .u8 2] 5)).heap.size := by simp; omega
          have hf9 : flagB c = 2 := Hfl.out
          go_wp2_with (at_builtin; refine wpList_append_lies rfl _ _ 66 rfl (N + 1) i0 Try.underlying66 hi hz0 hz1 hz2 _ (1 + 23 * k + 16 + 6) T8 [2] rfl ho9 (w8.heap.size + 1) _ _ _ rfl hl9 rfl (by omega) hz9 ?_)
          intro v11 w11 ho11 hg11
          have HB11 : Hid (Below (N + 1) w1 w11) := HB9.out.grown hg11 (by omega) (own_ge ho9)
          have HO11 : Hid (w11.ownsRow (N + 1) 5 1 v11 (1 + 23 * (k + 1)) (cells (clsP l (k + 1)))) := by
            show World.ownsRow _ _ _ _ _ _ _
            rw [Hst2.out, hf9, show 1 + 23 * (k + 1) = 1 + 23 * k + 16 + 6 + 1 by omega]
            exact ho11
          clear ho9 hg11 hl9 ho11
          go_wp2_with fail
          go_roundw
          all_goals first
            | (simp [intOf]; omega)
            | exact ⟨k + 1, by omega, by go_num, HO11, HB11⟩
      · cases pr
        · have ho9 := ho8.alloc (.cells #[Value.int .u8 1] 5)
          have hl9 := Lies.lit w8 #[Value.int .u8 1] [1] rfl (w8.heap.size + 1) (by omega)
          have HB9 : Hid (Below (N + 1) w1 (w8.alloc (.cells #[Value.int .u8 1] 5))) := HB8.out.alloc hz8 _
          have hz9 : N + 1 ≤ (w8.alloc (.cells #[Value.int .u8 1] 5)).heap.size := by simp; omega
          have hf9 : flagB c = 1 := Hfl.out
          go_wp2_with (at_builtin; refine wpList_append_lies rfl _ _ 66 rfl (N + 1) i0 Try.underlying66 hi hz0 hz1 hz2 _ (1 + 23 * k + 16 + 6) T8 [1] rfl ho9 (w8.heap.size + 1) _ _ _ rfl hl9 rfl (by omega) hz9 ?_)
          intro v11 w11 ho11 hg11
          have HB11 : Hid (Below (N + 1) w1 w11) := HB9.out.grown hg11 (by omega) (own_ge ho9)
          have HO11 : Hid (w11.ownsRow (N + 1) 5 1 v11 (1 + 23 * (k + 1)) (cells (clsP l (k + 1)))) := by
            show World.ownsRow _ _ _ _ _ _ _
            rw [Hst2.out, hf9, show 1 + 23 * (k + 1) = 1 + 23 * k + 16 + 6 + 1 by omega]
            exact ho11
          clear ho9 hg11 hl9 ho11
          go_wp2_with fail
          go_roundw
          all_goals first
            | (simp [intOf]; omega)
            | exact ⟨k + 1, by omega, by go_num, HO11, HB11⟩
        · have ho9 := ho8.alloc (.cells #[Value.int .u8 3] 5)
          have hl9 := Lies.lit w8 #[Value.int .u8 3] [3] rfl (w8.heap.size + 1) (by omega)
          have HB9 : Hid (Below (N + 1) w1 (w8.alloc (.cells #[Value.int .u8 3] 5))) := HB8.out.alloc hz8 _
          have hz9 : N + 1 ≤ (w8.alloc (.cells #[Value.int .u8 3] 5)).heap.size := by simp; omega
          have hf9 : flagB c = 3 := Hfl.out
          go_wp2_with (at_builtin; refine wpList_append_lies rfl _ _ 66 rfl (N + 1) i0 Try.underlying66 hi hz0 hz1 hz2 _ (1 + 23 * k + 16 + 6) T8 [3] rfl ho9 (w8.heap.size + 1) _ _ _ rfl hl9 rfl (by omega) hz9 ?_)
          intro v11 w11 ho11 hg11
          have HB11 : Hid (Below (N + 1) w1 w11) := HB9.out.grown hg11 (by omega) (own_ge ho9)
          have HO11 : Hid (w11.ownsRow (N + 1) 5 1 v11 (1 + 23 * (k + 1)) (cells (clsP l (k + 1)))) := by
            show World.ownsRow _ _ _ _ _ _ _
            rw [Hst2.out, hf9, show 1 + 23 * (k + 1) = 1 + 23 * k + 16 + 6 + 1 by omega]
            exact ho11
          clear ho9 hg11 hl9 ho11
          go_wp2_with fail
          go_roundw
          all_goals first
            | (simp [intOf]; omega)
            | exact ⟨k + 1, by omega, by go_num, HO11, HB11⟩
    · obtain rfl : k = n := by omega
      have hall : clsP l k = clsB l := by rw [← Hn.out, clsP_all]
      have hbl : (clsB l).length ≤ 252 := by rw [← hall, clsP_length Hok.out (by rw [Hn.out]; exact Nat.le_refl _)]; omega
      obtain ⟨A9, c9, hv9, hn9, _, _, hl9⟩ := Lies.of_own HO.out
      rw [hall] at hl9 hn9
      have hv9' : u3 = .slice A9 (1 + 23 * k) c9 := by rw [hv9, hall, ← hn9]
      have Hn9 := Lib.hid hn9
      have Hse := Lib.hid (clsS_seal hbl)
      subst hv9'
      have hr1r := hr1.below (by omega) HB.out
      clear hv9 hn9 HO hall
      go_wp2_with fail
      refine (rsealed_any A9 (1 + 23 * k) c9 (clsB l) wr wr.heap.size hl9 Hn9.out (Nat.le_refl _) hbl).mono ?_
      rintro e w12 ⟨rfl, hb12⟩
      rw [Hse.out]
      have hr12 := hr1r.below (by omega) hb12
      have HB12 : Hid (Below (N + 1) w1 w12) := HB.out.trans (hb12.mono hKr)
      have hz12 : N + 1 ≤ w12.heap.size := by have := hb12.size; omega
      clear hb12 hl9 HB hr1r
      go_wp2_with ((with_reducible refine at_store 48 ?_); refine store_sec rfl _ _ rfl N (clsS l) rfl rfl hr12 (Sec.cs_length _) ?_)
      intro w17 hr17 hg17 hs17
      go_wp2_with fail
      have hB17 : Below N w w12 := by
        have h1 := HB1.out
        rw [HN.out] at h1
        exact h1.trans (HB12.out.mono (by omega))
      exact bodyPost_ret (results_cell_row (fn := Try.f22) rfl _ _ N 48 _ (0, 0) _ rfl hr17 Try.underlying48 rfl (sec_size' _)) rfl ⟨rfl, by rw [HN.out]; exact below_grown hB17 hg17 (Nat.le_refl _) (by omega)⟩
end Go.Proofs.Ytmcnhcbibcjgnaa
