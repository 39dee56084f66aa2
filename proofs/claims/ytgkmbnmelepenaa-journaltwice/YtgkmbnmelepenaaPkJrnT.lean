/-
  Layer 9: the contract of the reference's Head.
-/
import Derived.Test.YtgkmbnmelepenaaPkJrnV
import Derived.Test.YtgkmbnmelepenaaPkRNumC
import Derived.Test.YtgkmbnmelepenaaPkSupQ
namespace Go.Proofs.Ytgkmbnmelepenaa
open Go.RowKit
set_option linter.unusedVariables false
set_option linter.unusedSimpArgs false

set_option maxRecDepth 100000 in
set_option maxHeartbeats 1000000 in
theorem rjhead_any (w : World) (B : Nat) (A : Option Addr) (n c : Nat) (l : List ChI) (hl : LiesV w B A (chis l)) (hn : n = l.length) (hB : B ≤ w.heap.size) (h123 : n ≤ 123) :
    Calls Try.prog 13 #[.slice A n c] w fun e w' => e = .returned (.agg (headS (l.map (·.1))).cs.toArray) ∧ Below w.heap.size w w' := by
  obtain ⟨i0, hi, hz0, hz1, hz2⟩ := info_parts Try.info5
  have HL := Lib.hid hl
  have Hn := Lib.hid hn
  clear hl hn
  go_enter Try.func13, Try.ntmps13
  go_wp2_with ((with_reducible refine at_alloc 23 ?_); refine alloc_sec rfl rfl ?_)
  intro w1 hr1 hb1 hs1
  generalize hN : w.heap.size = N at *
  have hN1 : N < w1.heap.size := by omega
  clear hs1
  go_wp2_with ((with_reducible refine at_convert 77 ?_); refine wpList_const rfl 77 _ rfl Try.underlying77 Try.underlying5 _ 4 4 rfl mark4 rfl ?_)
  intro w2 hl2 hb2 hs2
  have hr2 := hr1.below hN1 hb2
  have hB2 : Below N w w2 := hb1.trans (hb2.mono (by omega))
  have hs2' : w1.heap.size < w2.heap.size := by omega
  clear hr1 hb1 hb2 hs2
  generalize hG : w1.heap.size = G at *
  clear hG
  have hlit := Lies.lit w2 #[.int .u8 (n : Int)] [UInt8.ofNat n] (by have := byte_of n; rw [show (n : Int) = ((UInt8.ofNat n).toNat : Int) by omega]; rfl) (w2.heap.size + 1) (by omega)
  have hmk := (hl2.alloc (B := G + 1) (by omega) (.cells #[.int .u8 (n : Int)] 5))
  go_wp2_with (at_builtin; refine wpList_append_full rfl _ _ 77 rfl i0 Try.underlying77 hi hz0 hz1 hz2 _ 4 4 mark4 [UInt8.ofNat n] rfl (G + 1) hmk rfl (by simp [mark4]) (w2.heap.size + 1) _ _ _ rfl hlit rfl (by simp) (by omega) (by simp) ?_)
  intro v3 w3 hown3 hg3
  have hb3 : Below w2.heap.size w2 w3 := ((Below.refl _ _).alloc (Nat.le_refl _) _).grown hg3 (by simp) (by simp)
  obtain ⟨A3, c3, rfl, hm3, _, _, _⟩ := Lies.of_own hown3
  have hown3' : w3.ownsRow (w2.heap.size + 1) 5 1 (.slice A3 5 c3) 5 (cells (mark4 ++ [UInt8.ofNat n] ++ atsB ((l.map (·.1)).take 0))) := by
    have : mark4 ++ [UInt8.ofNat n] ++ atsB ((l.map (·.1)).take 0) = mark4 ++ [UInt8.ofNat n] := by simp [atsB]
    rw [this]
    exact hown3
  have hL2 := (HL.out.below (hB2.mono hB))
  have HL2 := Lib.hid hL2
  have HB3 := Lib.hid (hb3.mono (Nat.le_of_lt hs2'))
  have hs3 : w2.heap.size + 1 ≤ w3.heap.size := by have := hg3.size; simp at this; omega
  rw [show (mark4 ++ [UInt8.ofNat n]).length = 5 from rfl]
  clear hown3 hm3 hlit hmk hg3 hl2 hL2 hb3
  generalize hb : w2.heap.size + 1 = b at *
  have hGb : G < b := by omega
  clear hs2' hb
  generalize hT : mark4 ++ [UInt8.ofNat n] = T at *
  have HT := Lib.hid hT
  have HO := Lib.hid hown3'
  have HS3 := Lib.hid hs3
  clear hT hown3' hs3
  go_wp2_with fail
  go_loopw [3, 4] (fun v i W => ∃ (j m : Nat) (A' : Option Addr) (c' : Nat), j ≤ n ∧ i = .int .i64 j ∧ v = .slice A' m c' ∧ Hid (m = 5 + 2 * j) ∧ Hid (W.ownsRow b 5 1 (.slice A' m c') m (cells (T ++ atsB ((l.map (·.1)).take j)))) ∧ Hid (Below G w2 W) ∧ Hid (b ≤ W.heap.size)) (fun _ i _ => n - (intOf i).toNat)
  case atStart => exact ⟨0, 5, A3, c3, Nat.zero_le _, rfl, rfl, rfl, HO, HB3, HS3⟩
  case round =>
    obtain ⟨j, m, A4, c4, hj, rfl, rfl, Hm, HO4, HB4, HS4⟩ := hrel
    clear HO HB3 HS3
    by_cases hlt : j < n
    · have hlt' : (j : Int) < (n : Int) := by omega
      have hj0 : (0 : Int) ≤ (j : Int) := by omega
      obtain ⟨cc, hck⟩ : ∃ cc, l[j]? = some cc := ⟨_, List.getElem?_eq_getElem (by rw [← Hn.out]; exact hlt)⟩
      obtain ⟨lb, lo, hA, hr, hblt⟩ := (HL2.out.below (HB4.out.mono (by omega))).chi hck
      subst hA
      have Hck := Lib.hid hck
      clear hck
      have c0 : wr.cell? ⟨lb, lo + j * 257, none⟩ = some (.int .i64 cc.1) := hr 0 _ rfl
      have hGX : b ≤ wr.heap.size := HS4.out
      have hu := u64N_lt cc.1
      have hv := u64_wrap cc.1
      clear hr HS4
      go_wp2_with fail
      refine (rput2 (u64N cc.1) _ hu).mono ?_
      rintro e w6 ⟨A6, c6, rfl, hc6, hm6, hl6, hb6, _⟩
      have HO6 := own_below HO4.out hb6
      have HB6 := Lib.hid (HB4.out.trans (hb6.mono (by omega)))
      have hs6 : b ≤ w6.heap.size := by have := hb6.size; omega
      have hp2 : (putB (u64N cc.1) 2).length = 2 := putB_length _ _
      have hml : m + (putB (u64N cc.1) 2).length ≤ 140737488355328 := by have := Hm.out; omega
      clear HO4 HB4 hb6 hu hv
      go_wp2_with (at_builtin; refine wpList_append_lies rfl _ _ 77 rfl b i0 Try.underlying77 hi hz0 hz1 hz2 _ m (T ++ atsB ((l.map (·.1)).take j)) (putB (u64N cc.1) 2) rfl HO6 w6.heap.size _ _ _ rfl hl6 rfl hml hs6 ?_)
      intro v7 w7 hown7 hg7
      rw [← atsB_snoc, ← take_succ' (show (l.map (·.1))[j]? = some cc.1 by rw [List.getElem?_map, Hck.out]; rfl)] at hown7
      have HB7 := Lib.hid (HB6.out.grown hg7 (by omega) (fun k e => by have := own_ge HO6 _ e; omega))
      have hs7 := hg7.size
      obtain ⟨A7, c7, rfl, hm7, _, _, _⟩ := Lies.of_own hown7
      rw [← hm7] at hown7 ⊢
      generalize hm2 : m + 2 = m2 at *
      have HO7 := Lib.hid hown7
      have Hm2 : Hid (m2 = 5 + 2 * (j + 1)) := by have := Hm.out; show m2 = _; omega
      clear HO6 HB6 hl6 hp2 hml hg7 hown7 hm7 hm2 Hm
      go_wp2_with fail
      go_roundw
      case rel => exact ⟨j + 1, m2, A7, c7, by omega, by go_num, rfl, Hm2, HO7, HB7, (by omega : b ≤ w7.heap.size)⟩
      case measure => simp [intOf]; omega
    · obtain rfl : j = n := by omega
      obtain ⟨A', c', hv, hk1, hk2, hk3, hl3⟩ := Lies.of_own HO4.out
      simp only [Value.slice.injEq] at hv
      obtain ⟨rfl, hzz, rfl⟩ := hv
      have hlen : T.length = 5 := by rw [← HT.out]; rfl
      have hle : (T ++ atsB ((l.map (·.1)).take j)).length ≤ 252 := by rw [← hzz, Hm.out]; omega
      have heq : T ++ atsB ((l.map (·.1)).take j) = headB (l.map (·.1)) := by
        rw [← HT.out, List.take_of_length_le (by rw [List.length_map, Hn.out]; exact Nat.le_refl _), headB, List.length_map, ← Hn.out]
      have HE := Lib.hid heq
      have HZ := Lib.hid hzz
      have hle2 : (headB (l.map (·.1))).length ≤ 252 := by rw [← heq]; exact hle
      have hr3 := hr2.below hN1 HB4.out
      have hB3 : Below N w wr := hB2.trans (HB4.out.mono (by omega))
      have hs3 : N < wr.heap.size := by have := HS4.out; omega
      have Hlies := Lib.hid (heq ▸ hl3)
      have hS : sealS (headB (l.map (·.1))) hle2 = headS (l.map (·.1)) := (headS_eq (by rw [List.length_map, ← Hn.out]; exact h123)).symm
      have HS := Lib.hid hS
      have Hk1 := Lib.hid hk1
      clear hlen hle heq hzz hk1 hk2 hk3 hl3 HO4 HB4 HS4 hr2 hB2 hS HT
      go_wp2_with fail
      refine (rsealed_any _ m _ (headB (l.map (·.1))) wr _ Hlies.out (by rw [HZ.out, HE.out]) (Nat.le_refl _) hle2).mono ?_
      rintro e w8 ⟨rfl, hb8⟩
      rw [HS.out]
      have hr8 := hr3.below hs3 hb8
      have hB8 : Below N w w8 := hB3.trans (hb8.mono (by omega))
      have hs8 := hb8.size
      clear hr3 hB3 hb8
      go_wp2_with ((with_reducible refine at_store 23 ?_); refine store_sec rfl _ _ rfl N _ rfl rfl hr8 (Sec.cs_length _) ?_)
      intro w9 hr9 hg9 hs9
      go_wp2_with fail
      exact bodyPost_ret (results_cell_row (fn := Try.f13) rfl _ _ N 23 _ (0, 0) _ rfl hr9 Try.underlying23 rfl (sec_size' _)) rfl ⟨rfl, by rw [hN]; exact below_grown hB8 hg9 (Nat.le_refl _) (by omega)⟩
end Go.Proofs.Ytgkmbnmelepenaa
