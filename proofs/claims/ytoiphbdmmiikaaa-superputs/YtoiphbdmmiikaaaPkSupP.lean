/-
  Layer 8: the contract of the reference's Sealed.
  Layer 8: the contract of the reference's Put.
-/
import Derived.Test.YtoiphbdmmiikaaaPkSupB
import Derived.Test.YtoiphbdmmiikaaaPkROf
import Derived.Test.YtoiphbdmmiikaaaPkRPut
import Derived.Test.YtoiphbdmmiikaaaPkPlanE
namespace Go.Proofs.Ytoiphbdmmiikaaa
open Go.RowKit
set_option linter.unusedVariables false
set_option linter.unusedSimpArgs false

/-- The length of a slice's value. -/
def lenQ : Value → Nat | .slice _ n _ => n | _ => 0
theorem fill_stepQ {l : List UInt8} {j : Nat} (h : l.length ≤ j) : fill l j ++ [0] = fill l (j + 1) := by
  unfold fill
  rw [show j + 1 - l.length = (j - l.length) + 1 by omega, List.replicate_succ', List.append_assoc]
theorem fill_nilQ : fill [] 256 = List.replicate 256 0 := rfl
theorem fill_takeQ {l : List UInt8} (hl : l.length = 256) {k : Nat} {x : UInt8} (hx : l[k]? = some x) :
    (cells (fill (l.take k) 256)).set k (.int .u8 (x.toNat : Int)) = cells (fill (l.take (k + 1)) 256) := by
  have hk : k < 256 := by rw [List.getElem?_eq_some_iff] at hx; obtain ⟨h, _⟩ := hx; omega
  unfold cells
  rw [← List.map_set (f := fun b : UInt8 => Value.int .u8 (b.toNat : Int)) (a := x)]
  congr 1
  unfold fill
  rw [List.length_take, List.length_take, Nat.min_eq_left (by omega), Nat.min_eq_left (by omega), List.take_add_one, hx, show 256 - k = (256 - (k + 1)) + 1 by omega, List.replicate_succ,
    List.set_append_right _ _ (by rw [List.length_take]; omega)]
  rw [List.length_take, Nat.min_eq_left (by omega), Nat.sub_self]
  simp
theorem fill_all {l : List UInt8} (hl : l.length = 256) : fill (l.take 256) 256 = l := by
  unfold fill
  rw [List.take_of_length_le (by omega), hl]
  simp

set_option maxRecDepth 100000 in
set_option maxHeartbeats 2000000 in
theorem rsealed_any (A : Option Addr) (n c : Nat) (xs : List UInt8) (w : World) (B : Nat) (h : Lies w B A xs) (hn : n = xs.length) (hB : B ≤ w.heap.size) (hx : xs.length ≤ 252) :
    Calls Try.prog 25 #[.slice A n c] w fun e w' => e = .returned (.agg (sealS xs hx).cs.toArray) ∧ Below w.heap.size w w' := by
  obtain ⟨i0, hi, hz0, hz1, hz2⟩ := info_parts Try.info5
  have Hn := Lib.hid hn
  have Hh := Lib.hid h
  have hn2 : n ≤ 252 := by omega
  have Hl : Hid ((fill xs 252).length = 252) := fill_length hx
  have HS : Hid ((sealS xs hx).1 = sealB (fill xs 252)) := rfl
  clear hn h
  go_enter Try.func25, Try.ntmps25
  go_wp2_with ((with_reducible refine at_alloc 24 ?_); refine alloc_sec rfl rfl ?_)
  intro w1 hr1 hb1 hs1
  have hl1 := Hh.out.below (hb1.mono hB)
  have hz1' : w.heap.size < w1.heap.size := by omega
  have hBz : B ≤ w1.heap.size := by omega
  clear hs1
  generalize hN : w.heap.size = N at *
  generalize hSS : sealS xs hx = S at *
  have hown0 : w1.ownsRow w1.heap.size 5 1 (.slice none 0 0) 0 (cells []) := ⟨rfl, .inl ⟨rfl, rfl⟩⟩
  go_wp2_with (at_builtin; refine wpList_append_lies rfl _ _ 46 rfl w1.heap.size i0 Try.underlying46 hi hz0 hz1 hz2 _ 0 [] xs rfl hown0 B _ _ _ rfl hl1 Hn.out (by omega) (Nat.le_refl _) ?_)
  intro v2 w2 hown2 hg2
  have hb2 : Below w1.heap.size w1 w2 := (Below.refl _ _).grown hg2 (Nat.le_refl _) (own_ge hown0)
  obtain ⟨A2, c2, rfl, hm2, _, _, _⟩ := Lies.of_own hown2
  rw [← Hn.out] at hown2 ⊢
  have hown2' : w2.ownsRow w1.heap.size 5 1 (.slice A2 n c2) n (cells (fill xs n)) := by rw [fill, ← Hn.out, Nat.sub_self]; simpa using hown2
  clear hown2 hown0 hm2 hg2 hl1
  generalize hbs : w1.heap.size = b at *
  go_wp2_with fail
  go_loopw [3] (fun v wr => ∃ j A c, n ≤ j ∧ j ≤ 252 ∧ v = .slice A j c ∧ wr.ownsRow b 5 1 (.slice A j c) j (cells (fill xs j)) ∧ Below b w1 wr) (fun v _ => 252 - lenQ v)
  case atStart => exact ⟨n, A2, c2, Nat.le_refl _, hn2, rfl, hown2', hb2⟩
  case round =>
    obtain ⟨j, A, c, hj1, hj2, rfl, hown', hb'⟩ := hrel
    clear hown2' hb2
    by_cases hlt : j < 252
    · have ho' := hown'.alloc (.cells #[Value.int .u8 0] 5)
      have hl' := Lies.lit wr #[Value.int .u8 0] [0] rfl (wr.heap.size + 1) (by omega)
      have hsb : b ≤ wr.heap.size := by have := hb'.size; omega
      have hb'' := hb'.alloc hsb (.cells #[Value.int .u8 0] 5)
      have hs'' : b ≤ (wr.alloc (.cells #[Value.int .u8 0] 5)).heap.size := by have := hb''.size; omega
      go_wp2_with (at_builtin; refine wpList_append_lies rfl _ _ 46 rfl b i0 Try.underlying46 hi hz0 hz1 hz2 _ j (fill xs j) [0] rfl ho' (wr.heap.size + 1) _ _ _ rfl hl' rfl (by omega) hs'' ?_)
      intro v2 w2 hown2 hg2
      rw [fill_stepQ (by have := Hn.out; omega)] at hown2
      obtain ⟨A2, c2, rfl, hn2, _, _, _⟩ := Lies.of_own hown2
      have hb2 := hb''.grown hg2 hs'' (own_ge ho')
      rw [← hn2] at hown2 ⊢
      clear hn2 ho' hl'
      go_wp2_with fail
      go_roundw
      case rel => exact ⟨j + 1, A2, c2, by omega, by omega, rfl, hown2, hb2⟩
      case measure => simp [lenQ]; omega
    · obtain rfl : j = 252 := by omega
      obtain ⟨A', c', hv, hk1, hk2, hk3, hl3⟩ := Lies.of_own hown'
      simp only [Value.slice.injEq] at hv
      obtain ⟨rfl, hzz, rfl⟩ := hv
      clear hzz
      have hsb : b ≤ wr.heap.size := by have := hb'.size; omega
      have Hk1 := Lib.hid hk1
      clear hk1
      go_wp2_with fail
      refine (rof_any _ 252 _ (fill xs 252) wr _ hl3 (Nat.le_refl _) Hk1.out (by omega)).mono ?_
      rintro e w3 ⟨rfl, hb3⟩
      have hown3 := own_below hown' hb3
      have hB3 : Below b w1 w3 := hb'.trans (hb3.mono (by omega))
      have hsb3 : b ≤ w3.heap.size := by have := hb3.size; omega
      have hnv := nv_bd (crcOf (fill xs 252))
      have Hnv : Hid (nv (crcOf (fill xs 252)) = ((crcOf (fill xs 252)).toNat : Int)) := rfl
      have hft : (crcOf (fill xs 252)).toNat < 18446744073709551616 := by have := (crcOf (fill xs 252)).isLt; omega
      clear hown' hb' hb3 hl3
      generalize hcr : crcOf (fill xs 252) = cr at *
      go_wp2_with fail
      refine (rput_any 4 cr.toNat _ 4 w3 Hnv.out rfl (by omega) (by omega) hft).mono ?_
      rintro e w4 ⟨A4, c4, rfl, hc4, hm4, hl4, hb4, _⟩
      have hown4 := own_below hown3 hb4
      have hB4 : Below b w1 w4 := hB3.trans (hb4.mono (by omega))
      have hsb4 : b ≤ w4.heap.size := by have := hb4.size; omega
      have hpl : 252 + (putB cr.toNat 4).length ≤ 140737488355328 := by rw [putB_length]; omega
      clear hown3 hB3 hb4
      go_wp2_with (at_builtin; refine wpList_append_lies rfl _ _ 46 rfl b i0 Try.underlying46 hi hz0 hz1 hz2 _ 252 (fill xs 252) (putB cr.toNat 4) rfl hown4 w4.heap.size _ _ _ rfl hl4 rfl hpl hsb4 ?_)
      intro v5 w5 hown5 hg5
      have hB5 : Below b w1 w5 := hB4.grown hg5 hsb4 (own_ge hown4)
      have hsb5 : b ≤ w5.heap.size := by have := hg5.size; omega
      rw [show 252 + (putB cr.toNat 4).length = 256 by rw [putB_length]] at hown5
      rw [show fill xs 252 ++ putB cr.toNat 4 = S.1 by rw [HS.out, sealB, four, hcr]] at hown5
      clear hown4 hB4 hg5 hl4 hpl hcr HS Hl Hk1
      obtain ⟨A5, c5, rfl, hk51, hk52, hk53, hl5⟩ := Lies.of_own hown5
      have HSl := Lib.hid S.2
      rw [show S.1.length = 256 from S.2]
      go_wp2_with ((with_reducible refine at_alloc 24 ?_); refine alloc_sec rfl rfl ?_)
      intro w6 hr6 hb6 hs6
      have hl6 := hl5.below hb6
      have hB6 : Below b w1 w6 := hB5.trans (hb6.mono (by omega))
      clear hown5 hl5 hB5 hk51 hb6
      generalize hG : w5.heap.size = G at *
      clear hG
      have K1 := Lib.hid (show RowV w6 G 24 (cells (fill (S.1.take 0) 256)) from hr6)
      have K2 := Lib.hid hl6
      have KB := Lib.hid hB6
      clear hr6 hl6 hB6 hs6
      go_wp2_with fail
      go_loopw [5] (fun v W => ∃ k : Nat, k ≤ 256 ∧ v = .int .i64 k ∧ Hid (RowV W G 24 (cells (fill (S.1.take k) 256))) ∧ Hid (Lies W G A5 S.1) ∧ Hid (Below b w1 W)) (fun v _ => 256 - (intOf v).toNat)
      case atStart => exact ⟨0, Nat.zero_le _, rfl, K1, K2, KB⟩
      case round =>
        obtain ⟨k, hkn, rfl, M1, M2, MB⟩ := hrel
        clear K1 K2 KB
        by_cases hlt : k < 256
        · have hlt' : (k : Int) < 256 := by omega
          have hk0 : (0 : Int) ≤ (k : Int) := by omega
          have f := M1.out.frozen k
          obtain ⟨u, g⟩ : ∃ u, wr.cell? ⟨G, k, none⟩ = some u := ⟨_, M1.out.cell (i := k) (List.getElem?_eq_getElem (by rw [cells_length, fill_length (by rw [List.length_take]; omega)]; omega))⟩
          obtain ⟨b5, o5, y, hA5, hb5, hy, hcy⟩ := M2.out.at_ (i := k) (by rw [HSl.out]; exact hlt)
          subst hA5
          have Hy := Lib.hid hy
          clear hy
          go_wp2_with fail
          go_roundw
          case rel =>
            refine ⟨k + 1, by omega, by go_num, Lib.hid ?_, Lib.hid (M2.out.setCell (Nat.le_refl _) _), Lib.hid (MB.out.setCell (by show b ≤ G; omega) _)⟩
            rw [← fill_takeQ HSl.out Hy.out]
            exact M1.out.setCell k _
          case measure => simp [intOf]; omega
        · obtain rfl : k = 256 := by omega
          have hrS : RowV wr G 24 S.cs := by have := M1.out; rw [fill_all HSl.out] at this; exact this
          have hrN := hr1.below (by omega) MB.out
          have hzr := hrN.lt
          have hMB := MB.out
          go_wp2_with (first
            | ((with_reducible refine at_load 24 ?_); refine load_sec rfl _ rfl G rfl hrS ?_)
            | ((with_reducible refine at_store 24 ?_); refine store_sec rfl _ _ rfl N S rfl rfl hrN (Sec.cs_length _) ?_))
          intro w7 hr7 hg7 hs7
          go_wp2_with fail
          exact bodyPost_ret (results_cell_row (fn := Try.f25) rfl _ _ N 24 _ (0, 0) _ rfl hr7 Try.underlying24 rfl (sec_size' _)) rfl ⟨by rw [hSS], by rw [hN]; exact below_grown (hb1.trans (hMB.mono (by omega))) hg7 (Nat.le_refl _) (by omega)⟩
end Go.Proofs.Ytoiphbdmmiikaaa
namespace Go.Proofs.Ytoiphbdmmiikaaa
open Go.RowKit
set_option linter.unusedVariables false
set_option linter.unusedSimpArgs false

theorem rput2 (N : Nat) (w : World) (hN : N < 18446744073709551616) : Calls Try.prog 24 #[.int .u64 (N : Int), .int .i64 2] w (RetNew w (putB N 2)) := rput_any 2 N _ 2 w rfl rfl (by omega) (by omega) hN
theorem rput8 (N : Nat) (w : World) (hN : N < 18446744073709551616) : Calls Try.prog 24 #[.int .u64 (N : Int), .int .i64 8] w (RetNew w (putB N 8)) := rput_any 8 N _ 8 w rfl rfl (by omega) (by omega) hN

set_option maxRecDepth 100000 in
set_option maxHeartbeats 1000000 in
theorem rsput_no (w : World) (b : Sb) (hok : b.ok = false) :
    Calls Try.prog 7 #[.agg (sbc b).toArray] w fun e w' => e = .returned (.tuple #[.agg zeroSec.cs.toArray, .int .i64 2]) ∧ Below w.heap.size w w' := by
  have Hok := Lib.hid hok
  clear hok
  obtain ⟨s, t, c, a, m⟩ := b
  go_enter Try.func7, Try.ntmps7
  go_wp2_with ((with_reducible refine at_box 31 ?_); refine wpList_box_rowV rfl 31 _ rfl (sbc ⟨s, t, c, a, m⟩) rfl ?_)
  intro w1 hr1 hb1 hs1
  go_wp2_with ((with_reducible refine at_alloc 24 ?_); refine alloc_sec rfl rfl ?_)
  intro w2 hr2 hb2 hs2
  have hr12 := hr1.below (by omega) hb2
  have hB2 : Below w.heap.size w w2 := hb1.trans (hb2.mono (by omega))
  have hrg := plan_range hr12
  have hz2 : w.heap.size + 1 < w2.heap.size := by omega
  have hlt : w.heap.size < w.heap.size + 1 := by omega
  clear hr1 hb1 hb2 hs1 hs2
  generalize hN1 : w.heap.size + 1 = N1 at *
  generalize hN : w.heap.size = N at *
  clear hN1
  go_wp2_with ((with_reducible refine at_load 23 ?_); refine wpList_load_mid rfl 23 _ rfl N 0 rfl (pc s t c a) _ hrg Try.underlying23 rfl (pc_size _ _ _ _) ?_)
  refine (rcheck_any _ _ _ _ _).mono ?_
  rintro e w3 ⟨rfl, hb3⟩
  have hr3 := hr2.below (by omega) hb3
  have hr13 := hr12.below (by omega) hb3
  have hB3 : Below N w w3 := hB2.trans (hb3.mono (by omega))
  have hs3 := hb3.size
  clear hr2 hr12 hrg hb3 hB2
  have hz := zeroSv
  cases hp : okP s t c a
  · have hcd : codeP s t c a = 2 := by rw [codeP, hp]; rfl
    rw [hcd]
    go_wp2_with ((with_reducible refine at_store 24 ?_); refine store_sec rfl _ _ rfl N1 zeroSec rfl rfl hr3 (Sec.cs_length _) ?_)
    intro w4 hr4 hg4 hs4
    go_wp2_with fail
    exact bodyPost_ret (results_cell_tmp (fn := Try.f7) rfl _ _ N1 24 _ (0, 0) _ rfl (.int .i64 2) rfl hr4 Try.underlying24 rfl (sec_size' _)) rfl ⟨rfl, by rw [hN]; exact below_grown hB3 hg4 (by omega) (by omega)⟩
  · have hcd : codeP s t c a = 0 := by rw [codeP, hp]; rfl
    rw [hcd]
    have c4 := hr13.cell (i := 4) rfl
    have hm : m < 0 ∨ ¬ m < 0 ∧ 1099511627776 < m := by
      have := Hok.out
      rw [ok_split] at this
      simp only [hp, Bool.true_and, Bool.and_eq_false_iff, decide_eq_false_iff_not] at this
      omega
    rcases hm with hm | ⟨hm, hm2⟩
    · go_wp2_with ((with_reducible refine at_store 24 ?_); refine store_sec rfl _ _ rfl N1 zeroSec rfl rfl hr3 (Sec.cs_length _) ?_)
      intro w4 hr4 hg4 hs4
      go_wp2_with fail
      exact bodyPost_ret (results_cell_tmp (fn := Try.f7) rfl _ _ N1 24 _ (0, 0) _ rfl (.int .i64 2) rfl hr4 Try.underlying24 rfl (sec_size' _)) rfl ⟨rfl, by rw [hN]; exact below_grown hB3 hg4 (by omega) (by omega)⟩
    · go_wp2_with ((with_reducible refine at_store 24 ?_); refine store_sec rfl _ _ rfl N1 zeroSec rfl rfl hr3 (Sec.cs_length _) ?_)
      intro w4 hr4 hg4 hs4
      go_wp2_with fail
      exact bodyPost_ret (results_cell_tmp (fn := Try.f7) rfl _ _ N1 24 _ (0, 0) _ rfl (.int .i64 2) rfl hr4 Try.underlying24 rfl (sec_size' _)) rfl ⟨rfl, by rw [hN]; exact below_grown hB3 hg4 (by omega) (by omega)⟩

set_option maxRecDepth 100000 in
set_option maxHeartbeats 2000000 in
theorem rsput_yes (w : World) (s t c a m : Nat) (hok : (Sb.mk s t c a m).ok = true) :
    Calls Try.prog 7 #[.agg (sbc ⟨s, t, c, a, m⟩).toArray] w fun e w' => e = .returned (.tuple #[.agg (Sb.mk s t c a m).sec.cs.toArray, .int .i64 0]) ∧ Below w.heap.size w w' := by
  obtain ⟨i0, hi, hz0, hz1, hz2⟩ := info_parts Try.info5
  have hp : Hid (okP s t c a = true) := by
    show _ = _
    rw [ok_split] at hok
    simp only [Bool.and_eq_true] at hok
    exact hok.1.1
  obtain ⟨⟨s1, s2⟩, ⟨t1, t2⟩, ⟨c1, c2⟩, ⟨a1, a2⟩, m1, m2⟩ := Sb.ok_iff.1 hok
  simp only at s1 s2 t1 t2 c1 c2 a1 a2 m1 m2
  clear hok
  go_enter Try.func7, Try.ntmps7
  go_wp2_with ((with_reducible refine at_box 31 ?_); refine wpList_box_rowV rfl 31 _ rfl (sbc ⟨s, t, c, a, m⟩) rfl ?_)
  intro w1 hr1 hb1 hs1
  go_wp2_with ((with_reducible refine at_alloc 24 ?_); refine alloc_sec rfl rfl ?_)
  intro w2 hr2 hb2 hs2
  have hr12 := hr1.below (by omega) hb2
  have hB2 : Below w.heap.size w w2 := hb1.trans (hb2.mono (by omega))
  have hrg := plan_range hr12
  have hsz2 : w.heap.size + 1 < w2.heap.size := by omega
  have hlt : w.heap.size < w.heap.size + 1 := by omega
  clear hr1 hb1 hb2 hs1 hs2
  generalize hN1 : w.heap.size + 1 = N1 at *
  generalize hN : w.heap.size = N at *
  clear hN1
  go_wp2_with ((with_reducible refine at_load 23 ?_); refine wpList_load_mid rfl 23 _ rfl N 0 rfl (pc s t c a) _ hrg Try.underlying23 rfl (pc_size _ _ _ _) ?_)
  refine (rcheck_any _ _ _ _ _).mono ?_
  rintro e w3 ⟨rfl, hb3⟩
  have hr3 := hr2.below (by omega) hb3
  have hr13 := hr12.below (by omega) hb3
  have hB3 : Below N w w3 := hB2.trans (hb3.mono (by omega))
  have hs3 : N1 < w3.heap.size := by have := hb3.size; omega
  clear hr2 hr12 hrg hb3 hB2 hsz2
  have hcd : codeP s t c a = 0 := by rw [codeP, hp.out]; rfl
  rw [hcd]
  clear hcd hp
  have c4 := hr13.cell (i := 4) rfl
  have hm0 : ¬ (m : Int) < 0 := by omega
  go_wp2_with ((with_reducible refine at_convert 46 ?_); refine wpList_const rfl 46 _ rfl Try.underlying46 Try.underlying5 _ 8 8 rfl Sb.magic rfl ?_)
  intro w4 hl4 hb4 hs4
  have hr4 := hr3.below (by omega) hb4
  have hr14 := hr13.below (by omega) hb4
  have hB4 : Below N w w4 := hB3.trans (hb4.mono (by omega))
  have hs4' : N1 < w4.heap.size := by omega
  clear hr3 hr13 hb4 hB3 c4
  generalize hG : w3.heap.size = G at *
  clear hG hs3
  have c0 := hr14.cell (i := 0) rfl
  go_wp2_with fail
  clear c0
  refine (rput2 s _ (by omega)).mono ?_
  rintro e w5 ⟨A5, k5, rfl, hk5, hm5, hl5, hb5, _⟩
  have hr5 := hr4.below (by omega) hb5
  have hr15 := hr14.below (by omega) hb5
  have hB5 : Below N w w5 := hB4.trans (hb5.mono (by omega))
  have hl45 := hl4.below (hb5.mono (by omega))
  have hs5 := hb5.size
  have hsz5 : N1 < w5.heap.size := by omega
  have ne5 : putB s 2 ≠ [] := by intro h; have := congrArg List.length h; rw [putB_length] at this; cases this
  have lc5 : 8 < 8 + (putB s 2).length := by rw [putB_length]; omega
  have lb5 : 8 + (putB s 2).length ≤ 140737488355328 := by rw [putB_length]; omega
  clear hr4 hr14 hB4 hl4 hb5
  go_wp2_with (at_builtin; refine wpList_append_full rfl _ _ 46 rfl i0 Try.underlying46 hi hz0 hz1 hz2 _ 8 8 Sb.magic (putB s 2) rfl (G + 1) hl45 rfl (by simp [Sb.magic]) w5.heap.size _ _ _ rfl hl5 rfl ne5 lc5 lb5 ?_)
  intro v6 w6 hown6 hg6
  have hr6 := hr5.keep hg6 (by simp)
  have hr16 := hr15.keep hg6 (by simp)
  have hB6 : Below N w w6 := hB5.grown hg6 (by omega) (by simp)
  have hs6 := hg6.size
  rw [show 8 + (putB s 2).length = 10 by rw [putB_length]] at hown6
  generalize hb : w5.heap.size = b at *
  clear hr5 hr15 hB5 hl5 hl45 hg6 ne5 lc5 lb5 hb
  have c1x := hr16.cell (i := 1) rfl
  go_wp2_with fail
  clear c1x
  refine (rput2 t _ (by omega)).mono ?_
  rintro e w7 ⟨A7, k7, rfl, hk7, hm7, hl7, hb7, _⟩
  have hr7 := hr6.below (by omega) hb7
  have hr17 := hr16.below (by omega) hb7
  have hB7 : Below N w w7 := hB6.trans (hb7.mono (by omega))
  have hs7 := hb7.size
  have hown7 := own_below hown6 hb7
  have lb7 : 10 + (putB t 2).length ≤ 140737488355328 := by rw [putB_length]; omega
  have hbs7 : b ≤ w7.heap.size := by omega
  clear hr6 hr16 hB6 hb7 hown6
  go_wp2_with (at_builtin; refine wpList_append_lies rfl _ _ 46 rfl b i0 Try.underlying46 hi hz0 hz1 hz2 _ 10 (Sb.magic ++ putB s 2) (putB t 2) rfl hown7 w7.heap.size _ _ _ rfl hl7 rfl lb7 hbs7 ?_)
  intro v8 w8 hown8 hg8
  have hr8 := hr7.keep hg8 (fun e => by have := own_ge hown7 _ e; omega)
  have hr18 := hr17.keep hg8 (fun e => by have := own_ge hown7 _ e; omega)
  have hB8 : Below N w w8 := hB7.grown hg8 (by omega) (fun k e => by have := own_ge hown7 _ e; omega)
  have hs8 := hg8.size
  rw [show 10 + (putB t 2).length = 12 by rw [putB_length]] at hown8
  clear hr7 hr17 hB7 hl7 hg8 hown7 lb7
  have c2x := hr18.cell (i := 2) rfl
  go_wp2_with fail
  clear c2x
  refine (rput2 c _ (by omega)).mono ?_
  rintro e w9 ⟨A9, k9, rfl, hk9, hm9, hl9, hb9, _⟩
  have hr9 := hr8.below (by omega) hb9
  have hr19 := hr18.below (by omega) hb9
  have hB9 : Below N w w9 := hB8.trans (hb9.mono (by omega))
  have hs9 := hb9.size
  have hown9 := own_below hown8 hb9
  have lb9 : 12 + (putB c 2).length ≤ 140737488355328 := by rw [putB_length]; omega
  have hbs9 : b ≤ w9.heap.size := by omega
  clear hr8 hr18 hB8 hb9 hown8
  go_wp2_with (at_builtin; refine wpList_append_lies rfl _ _ 46 rfl b i0 Try.underlying46 hi hz0 hz1 hz2 _ 12 (Sb.magic ++ putB s 2 ++ putB t 2) (putB c 2) rfl hown9 w9.heap.size _ _ _ rfl hl9 rfl lb9 hbs9 ?_)
  intro v10 w10 hown10 hg10
  have hr10 := hr9.keep hg10 (fun e => by have := own_ge hown9 _ e; omega)
  have hr110 := hr19.keep hg10 (fun e => by have := own_ge hown9 _ e; omega)
  have hB10 : Below N w w10 := hB9.grown hg10 (by omega) (fun k e => by have := own_ge hown9 _ e; omega)
  have hs10 := hg10.size
  rw [show 12 + (putB c 2).length = 14 by rw [putB_length]] at hown10
  clear hr9 hr19 hB9 hl9 hg10 hown9 lb9
  have c3x := hr110.cell (i := 3) rfl
  go_wp2_with fail
  clear c3x
  refine (rput2 a _ (by omega)).mono ?_
  rintro e w11 ⟨A11, k11, rfl, hk11, hm11, hl11, hb11, _⟩
  have hr11 := hr10.below (by omega) hb11
  have hr111 := hr110.below (by omega) hb11
  have hB11 : Below N w w11 := hB10.trans (hb11.mono (by omega))
  have hs11 := hb11.size
  have hown11 := own_below hown10 hb11
  have lb11 : 14 + (putB a 2).length ≤ 140737488355328 := by rw [putB_length]; omega
  have hbs11 : b ≤ w11.heap.size := by omega
  clear hr10 hr110 hB10 hb11 hown10
  go_wp2_with (at_builtin; refine wpList_append_lies rfl _ _ 46 rfl b i0 Try.underlying46 hi hz0 hz1 hz2 _ 14 (Sb.magic ++ putB s 2 ++ putB t 2 ++ putB c 2) (putB a 2) rfl hown11 w11.heap.size _ _ _ rfl hl11 rfl lb11 hbs11 ?_)
  intro v12 w12 hown12 hg12
  have hr12 := hr11.keep hg12 (fun e => by have := own_ge hown11 _ e; omega)
  have hr112 := hr111.keep hg12 (fun e => by have := own_ge hown11 _ e; omega)
  have hB12 : Below N w w12 := hB11.grown hg12 (by omega) (fun k e => by have := own_ge hown11 _ e; omega)
  have hs12 := hg12.size
  rw [show 14 + (putB a 2).length = 16 by rw [putB_length]] at hown12
  clear hr11 hr111 hB11 hl11 hg12 hown11 lb11
  have c4x := hr112.cell (i := 4) rfl
  go_wp2_with fail
  clear c4x
  refine (rput8 m _ (by omega)).mono ?_
  rintro e w13 ⟨A13, k13, rfl, hk13, hm13, hl13, hb13, _⟩
  have hr13 := hr12.below (by omega) hb13
  have hr113 := hr112.below (by omega) hb13
  have hB13 : Below N w w13 := hB12.trans (hb13.mono (by omega))
  have hs13 := hb13.size
  have hown13 := own_below hown12 hb13
  have lb13 : 16 + (putB m 8).length ≤ 140737488355328 := by rw [putB_length]; omega
  have hbs13 : b ≤ w13.heap.size := by omega
  clear hr12 hr112 hB12 hb13 hown12
  go_wp2_with (at_builtin; refine wpList_append_lies rfl _ _ 46 rfl b i0 Try.underlying46 hi hz0 hz1 hz2 _ 16 (Sb.magic ++ putB s 2 ++ putB t 2 ++ putB c 2 ++ putB a 2) (putB m 8) rfl hown13 w13.heap.size _ _ _ rfl hl13 rfl lb13 hbs13 ?_)
  intro v14 w14 hown14 hg14
  have hr14 := hr13.keep hg14 (fun e => by have := own_ge hown13 _ e; omega)
  have hr114 := hr113.keep hg14 (fun e => by have := own_ge hown13 _ e; omega)
  have hB14 : Below N w w14 := hB13.grown hg14 (by omega) (fun k e => by have := own_ge hown13 _ e; omega)
  have hs14 := hg14.size
  rw [show 16 + (putB m 8).length = 24 by rw [putB_length]] at hown14
  clear hr13 hr113 hB13 hl13 hg14 hown13 lb13
  have hownB : w14.ownsRow b 5 1 v14 24 (cells (Sb.mk s t c a m).body) := by
    rw [← body_eq]
    simp only [List.append_assoc] at hown14 ⊢
    exact hown14
  obtain ⟨A, k, rfl, hn, hnc, hcm, hl⟩ := Lies.of_own hownB
  have hbl : (Sb.mk s t c a m).body.length ≤ 252 := by rw [Sb.body_length]; omega
  have Hse := Lib.hid (seal_sec (Sb.mk s t c a m) hbl)
  clear hown14 hownB hn
  go_wp2_with fail
  refine (rsealed_any _ _ _ (Sb.mk s t c a m).body _ _ hl rfl (Nat.le_refl _) hbl).mono ?_
  rintro e w15 ⟨rfl, hb15⟩
  rw [Hse.out]
  have hr15 := hr14.below (by omega) hb15
  have hB15 : Below N w w15 := hB14.trans (hb15.mono (by omega))
  have hs15 := hb15.size
  clear hr14 hr114 hB14 hl
  go_wp2_with ((with_reducible refine at_store 24 ?_); refine store_sec rfl _ _ rfl N1 (Sb.mk s t c a m).sec rfl rfl hr15 (Sec.cs_length _) ?_)
  intro w16 hr16 hg16 hs16
  go_wp2_with fail
  exact bodyPost_ret (results_cell_tmp (fn := Try.f7) rfl _ _ N1 24 _ (0, 0) _ rfl (.int .i64 0) rfl hr16 Try.underlying24 rfl (sec_size' _)) rfl ⟨rfl, by rw [hN]; exact below_grown hB15 hg16 (by omega) (by omega)⟩

/-- The reference's Put of any superblock. -/
theorem rsput_any (w : World) (b : Sb) :
    Calls Try.prog 7 #[.agg (sbc b).toArray] w fun e w' => e = .returned (.tuple #[.agg (putS b).1.cs.toArray, .int .i64 (putS b).2]) ∧ Below w.heap.size w w' := by
  unfold putS
  cases hok : b.ok
  · exact rsput_no w b hok
  · obtain ⟨s, t, c, a, m, rfl⟩ := Sb.nat hok
    exact rsput_yes w s t c a m hok
end Go.Proofs.Ytoiphbdmmiikaaa
