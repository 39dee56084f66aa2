/-
  Layer 9: the contract of Head.
  Layer 9: the contracts of Check and of what it calls.
  Layer 9: the contract of Check.
  Layer 9: the contract of Commit.
  Layer 9: the contract of Commit.
  Layer 9: the contract of blankChanges.
  Layer 9: the contract of Targets.
  Layer 9: the contract of the reference's Check, for the plan of the laws.
-/
import Derived.Test.YtgkmbnmelepenaaPkJrnF
import Derived.Test.YtgkmbnmelepenaaPkSecG
import Derived.Test.YtgkmbnmelepenaaPkNumC
import Derived.Test.YtgkmbnmelepenaaPkLit
import Derived.Test.YtgkmbnmelepenaaPkPlanM
import Derived.Deep.RegionHeld3
import Derived.Test.YtgkmbnmelepenaaPkMadeV
import Derived.Test.YtgkmbnmelepenaaPkSlotF
import Derived.Test.YtgkmbnmelepenaaPkFillN
import Derived.Test.YtgkmbnmelepenaaPkPlanI
namespace Go.Proofs.Ytgkmbnmelepenaa
open Go.RowKit
set_option linter.unusedVariables false
set_option linter.unusedSimpArgs false

theorem LiesV.chi {w : World} {B : Nat} {A : Option Addr} {l : List ChI} (h : LiesV w B A (chis l)) {k : Nat} {c : ChI} (hk : l[k]? = some c) : ∃ b o, A = some ⟨b, o, none⟩ ∧ w.rangeAt b (o + k * 257) c.cs ∧ b < B := by
  have hcs : chis l ≠ [] := fun e => by
    have h1 := chis_length l
    have h2 := (List.getElem?_eq_some_iff.1 hk).1
    rw [e] at h1
    simp at h1
    omega
  obtain ⟨b, o, rfl, hb, hcell⟩ := h hcs
  refine ⟨b, o, rfl, fun j v hj => ?_, hb⟩
  have hj2 := (List.getElem?_eq_some_iff.1 hj).1
  rw [ChI.cs_length] at hj2
  have hv : (chis l)[k * 257 + j]? = some v := by rw [chis_get hk j hj2]; exact hj
  rw [Nat.add_assoc]
  exact hcell _ _ hv
theorem u64_wrap (x : Int) : IntKind.u64.wrap x = ((u64N x : Nat) : Int) := by rw [show ((u64N x : Nat) : Int) = x % 18446744073709551616 by unfold u64N; omega]; rfl
theorem u64N_eq (x : Int) : ((u64N x : Nat) : Int) = x % 18446744073709551616 := by unfold u64N; omega

set_option maxRecDepth 100000 in
set_option maxHeartbeats 1000000 in
theorem jhead_any (w : World) (B : Nat) (A : Option Addr) (n c : Nat) (l : List ChI) (hl : LiesV w B A (chis l)) (hn : n = l.length) (hB : B ≤ w.heap.size) (h123 : n ≤ 123) :
    Calls Try.prog 12 #[.slice A n c] w fun e w' => e = .returned (.agg (headS (l.map (·.1))).cs.toArray) ∧ Below w.heap.size w w' := by
  obtain ⟨i0, hi, hz0, hz1, hz2⟩ := info_parts Try.info5
  have HL := Lib.hid hl
  have Hn := Lib.hid hn
  clear hl hn
  go_enter Try.func12, Try.ntmps12
  go_wp2_with ((with_reducible refine at_alloc 23 ?_); refine alloc_sec rfl rfl ?_)
  intro w1 hr1 hb1 hs1
  generalize hN : w.heap.size = N at *
  have hN1 : N < w1.heap.size := by omega
  clear hs1
  go_wp2_with ((with_reducible refine at_convert 77 ?_); refine wpList_const rfl 77 _ rfl Try.underlying77 Try.underlying5 _ 4 4 rfl mark4 rfl ?_)
  intro w2 hl2 hb2 hs2
  have hr2 := hr1.below hN1 hb2
  have hB2 : Below N w w2 := hb1.trans (hb2.mono (by omega))
  have hs2' : w1.heap.size < w2.heap.size := by omega
  clear hr1 hb1 hb2 hs2
  generalize hG : w1.heap.size = G at *
  clear hG
  have hlit := Lies.lit w2 #[.int .u8 (n : Int)] [UInt8.ofNat n] (by have := byte_of n; rw [show (n : Int) = ((UInt8.ofNat n).toNat : Int) by omega]; rfl) (w2.heap.size + 1) (by omega)
  have hmk := (hl2.alloc (B := G + 1) (by omega) (.cells #[.int .u8 (n : Int)] 5))
  go_wp2_with (at_builtin; refine wpList_append_full rfl _ _ 77 rfl i0 Try.underlying77 hi hz0 hz1 hz2 _ 4 4 mark4 [UInt8.ofNat n] rfl (G + 1) hmk rfl (by simp [mark4]) (w2.heap.size + 1) _ _ _ rfl hlit rfl (by simp) (by omega) (by simp) ?_)
  intro v3 w3 hown3 hg3
  have hb3 : Below w2.heap.size w2 w3 := ((Below.refl _ _).alloc (Nat.le_refl _) _).grown hg3 (by simp) (by simp)
  obtain ⟨A3, c3, rfl, hm3, _, _, _⟩ := Lies.of_own hown3
  have hown3' : w3.ownsRow (w2.heap.size + 1) 5 1 (.slice A3 5 c3) 5 (cells (mark4 ++ [UInt8.ofNat n] ++ atsB ((l.map (·.1)).take 0))) := by
    have : mark4 ++ [UInt8.ofNat n] ++ atsB ((l.map (·.1)).take 0) = mark4 ++ [UInt8.ofNat n] := by simp [atsB]
    rw [this]
    exact hown3
  have hL2 := (HL.out.below (hB2.mono hB))
  have HL2 := Lib.hid hL2
  have HB3 := Lib.hid (hb3.mono (Nat.le_of_lt hs2'))
  have hs3 : w2.heap.size + 1 ≤ w3.heap.size := by have := hg3.size; simp at this; omega
  rw [show (mark4 ++ [UInt8.ofNat n]).length = 5 from rfl]
  clear hown3 hm3 hlit hmk hg3 hl2 hL2 hb3
  generalize hb : w2.heap.size + 1 = b at *
  have hGb : G < b := by omega
  clear hs2' hb
  generalize hT : mark4 ++ [UInt8.ofNat n] = T at *
  have HT := Lib.hid hT
  have HO := Lib.hid hown3'
  have HS3 := Lib.hid hs3
  clear hT hown3' hs3
  go_wp2_with fail
  go_loopw [3, 15] (fun v i W => ∃ (j m : Nat) (A' : Option Addr) (c' : Nat), j ≤ n ∧ i = .int .i64 j ∧ v = .slice A' m c' ∧ Hid (m = 5 + 2 * j) ∧ Hid (W.ownsRow b 5 1 (.slice A' m c') m (cells (T ++ atsB ((l.map (·.1)).take j)))) ∧ Hid (Below G w2 W) ∧ Hid (b ≤ W.heap.size)) (fun _ i _ => n - (intOf i).toNat)
  case atStart => exact ⟨0, 5, A3, c3, Nat.zero_le _, rfl, rfl, rfl, HO, HB3, HS3⟩
  case round =>
    obtain ⟨j, m, A4, c4, hj, rfl, rfl, Hm, HO4, HB4, HS4⟩ := hrel
    clear HO HB3 HS3
    by_cases hlt : j < n
    · have hlt' : (j : Int) < (n : Int) := by omega
      have hj0 : (0 : Int) ≤ (j : Int) := by omega
      obtain ⟨cc, hck⟩ : ∃ cc, l[j]? = some cc := ⟨_, List.getElem?_eq_getElem (by rw [← Hn.out]; exact hlt)⟩
      obtain ⟨lb, lo, hA, hr, hblt⟩ := (HL2.out.below (HB4.out.mono (by omega))).chi hck
      subst hA
      have Hck := Lib.hid hck
      clear hck
      generalize hX : wr.heap.size = X at *
      go_wp2_with (first
        | ((with_reducible refine at_load 66 ?_); refine load_chi rfl _ rfl lb (lo + j * 257) rfl cc hr ?_)
        | ((with_reducible refine at_alloc 66 ?_); refine alloc_chi rfl rfl ?_))
      intro w4 hr4 hb4 hs4
      go_wp2_with ((with_reducible refine at_store 66 ?_); refine store_chi rfl _ _ rfl X cc rfl rfl hr4 (ChI.cs_length _) ?_)
      intro w5 hr5 hg5 hs5
      have c0 := hr5.cell (i := 0) rfl
      have hb5 : Below X wr w5 := below_grown hb4 hg5 (Nat.le_refl _) (by omega)
      have hGX : b ≤ X := by have := HS4.out; omega
      have hb5' := Lib.hid (HB4.out.trans (hb5.mono (show G ≤ X by omega)))
      have HO5 := Lib.hid (own_below HO4.out (by rw [hX]; exact hb5))
      have hs5' : b ≤ w5.heap.size := by have := hb5.size; omega
      have hu := u64N_lt cc.1
      have hv := u64_wrap cc.1
      clear hr4 hb4 hs4 hg5 hs5 hr5 hr hb5 HO4 HB4 HS4
      go_wp2_with fail
      refine (put2 (u64N cc.1) _ hu).mono ?_
      rintro e w6 ⟨A6, c6, rfl, hc6, hm6, hl6, hb6⟩
      have HO6 := own_below HO5.out hb6
      have HB6 := Lib.hid (hb5'.out.trans (hb6.mono (by have := hb5'.out.size; have := hb6.size; omega)))
      have hs6 : b ≤ w6.heap.size := by have := hb6.size; omega
      have hp2 : (putB (u64N cc.1) 2).length = 2 := putB_length _ _
      have hml : m + (putB (u64N cc.1) 2).length ≤ 140737488355328 := by have := Hm.out; omega
      clear HO5 hb5' hb6 hs5' hu hv
      go_wp2_with (at_builtin; refine wpList_append_lies rfl _ _ 77 rfl b i0 Try.underlying77 hi hz0 hz1 hz2 _ m (T ++ atsB ((l.map (·.1)).take j)) (putB (u64N cc.1) 2) rfl HO6 w6.heap.size _ _ _ rfl hl6 rfl hml hs6 ?_)
      intro v7 w7 hown7 hg7
      rw [← atsB_snoc, ← take_succ' (show (l.map (·.1))[j]? = some cc.1 by rw [List.getElem?_map, Hck.out]; rfl)] at hown7
      have HB7 := Lib.hid (HB6.out.grown hg7 (by omega) (fun k e => by have := own_ge HO6 _ e; omega))
      have hs7 := hg7.size
      obtain ⟨A7, c7, rfl, hm7, _, _, _⟩ := Lies.of_own hown7
      rw [← hm7] at hown7 ⊢
      generalize hm2 : m + 2 = m2 at *
      have HO7 := Lib.hid hown7
      have Hm2 : Hid (m2 = 5 + 2 * (j + 1)) := by have := Hm.out; show m2 = _; omega
      clear HO6 HB6 hl6 hp2 hml hg7 hown7 hm7 hm2 Hm
      go_wp2_with fail
      go_roundw
      case rel => exact ⟨j + 1, m2, A7, c7, by omega, by go_num, rfl, Hm2, HO7, HB7, (by omega : b ≤ w7.heap.size)⟩
      case measure => simp [intOf]; omega
    · obtain rfl : j = n := by omega
      obtain ⟨A', c', hv, hk1, hk2, hk3, hl3⟩ := Lies.of_own HO4.out
      simp only [Value.slice.injEq] at hv
      obtain ⟨rfl, hzz, rfl⟩ := hv
      have hlen : T.length = 5 := by rw [← HT.out]; rfl
      have hle : (T ++ atsB ((l.map (·.1)).take j)).length ≤ 252 := by rw [← hzz, Hm.out]; omega
      have heq : T ++ atsB ((l.map (·.1)).take j) = headB (l.map (·.1)) := by
        rw [← HT.out, List.take_of_length_le (by rw [List.length_map, Hn.out]; exact Nat.le_refl _), headB, List.length_map, ← Hn.out]
      have HE := Lib.hid heq
      have HZ := Lib.hid hzz
      have hle2 : (headB (l.map (·.1))).length ≤ 252 := by rw [← heq]; exact hle
      have hr3 := hr2.below hN1 HB4.out
      have hB3 : Below N w wr := hB2.trans (HB4.out.mono (by omega))
      have hs3 : N < wr.heap.size := by have := HS4.out; omega
      have Hlies := Lib.hid (heq ▸ hl3)
      have hS : sealS (headB (l.map (·.1))) hle2 = headS (l.map (·.1)) := (headS_eq (by rw [List.length_map, ← Hn.out]; exact h123)).symm
      have HS := Lib.hid hS
      have Hk1 := Lib.hid hk1
      clear hlen hle heq hzz hk1 hk2 hk3 hl3 HO4 HB4 HS4 hr2 hB2 hS HT
      go_wp2_with fail
      refine (jsealed_any _ m _ (headB (l.map (·.1))) wr _ Hlies.out (by rw [HZ.out, HE.out]) (Nat.le_refl _) hle2).mono ?_
      rintro e w8 ⟨rfl, hb8⟩
      rw [HS.out]
      have hr8 := hr3.below hs3 hb8
      have hB8 : Below N w w8 := hB3.trans (hb8.mono (by omega))
      have hs8 := hb8.size
      clear hr3 hB3 hb8
      go_wp2_with ((with_reducible refine at_store 23 ?_); refine store_sec rfl _ _ rfl N _ rfl rfl hr8 (Sec.cs_length _) ?_)
      intro w9 hr9 hg9 hs9
      go_wp2_with fail
      exact bodyPost_ret (results_cell_row (fn := Try.f12) rfl _ _ N 23 _ (0, 0) _ rfl hr9 Try.underlying23 rfl (sec_size' _)) rfl ⟨rfl, by rw [hN]; exact below_grown hB8 hg9 (Nat.le_refl _) (by omega)⟩
end Go.Proofs.Ytgkmbnmelepenaa
namespace Go.Proofs.Ytgkmbnmelepenaa
open Go.RowKit
set_option linter.unusedVariables false
set_option linter.unusedSimpArgs false

theorem LiesV.pre {w : World} {B : Nat} {A : Option Addr} {cs ds : List Value} (h : LiesV w B A (cs ++ ds)) : LiesV w B A cs := by
  intro hx
  obtain ⟨b, o, hA, hb, hc⟩ := h (fun e => hx (List.append_eq_nil_iff.1 e).1)
  exact ⟨b, o, hA, hb, fun i v hv => hc i v (by rw [List.getElem?_append_left (List.getElem?_eq_some_iff.1 hv).1]; exact hv)⟩
theorem LiesV.chi_take {w : World} {B : Nat} {A : Option Addr} {l : List ChI} (h : LiesV w B A (chis l)) (k : Nat) : LiesV w B A (chis (l.take k)) := by
  refine LiesV.pre (ds := chis (l.drop k)) ?_
  rw [← chis_append, List.take_append_drop]
  exact h

set_option maxRecDepth 100000 in
theorem jsame_any (W : World) (p : Nat) (c : ChI) (x : Int) (h : W.cell? ⟨p, 0, none⟩ = some (.int .i64 x)) (hp : p < W.heap.size) :
    Calls Try.prog 44 #[.agg c.cs.toArray, .pointer (some ⟨p, 0, none⟩)] W fun e W' => e = .returned (.bool (decide (c.1 = x))) ∧ Below W.heap.size W W' := by
  have Hh := Lib.hid h
  clear h
  go_enter Try.func44, Try.ntmps44
  go_wp2_with ((with_reducible refine at_box 66 ?_); refine wpList_box_rowV rfl 66 _ rfl c.cs rfl ?_)
  intro w1 hr1 hb1 hs1
  have c0 := hr1.cell (i := 0) rfl
  have c1 : w1.cell? ⟨p, 0, none⟩ = _ := (hb1.cell (p := ⟨p, 0, none⟩) hp).trans Hh.out
  go_wp2_with fail
  go_ret
  exact ⟨rfl, hb1⟩

set_option maxRecDepth 100000 in
set_option maxHeartbeats 1000000 in
theorem jindex_any (w : World) (B p : Nat) (A : Option Addr) (n c : Nat) (l : List ChI) (x : Int) (hl : LiesV w B A (chis l)) (hn : n = l.length) (hB : B ≤ w.heap.size) (h1000 : n ≤ 1000) (hx : w.cell? ⟨p, 0, none⟩ = some (.int .i64 x)) (hp : p < w.heap.size) :
    Calls Try.prog 69 #[.slice A n c, .func (.func 44) #[] #[.pointer (some ⟨p, 0, none⟩)]] w fun e w' => (∃ r : Int, e = .returned (.int .i64 r) ∧ (0 ≤ r ↔ x ∈ l.map (·.1))) ∧ Below w.heap.size w w' := by
  have HL := Lib.hid hl
  have Hn := Lib.hid hn
  have HX := Lib.hid hx
  have hent := ent Try.func44 (by kernel_rfl) rfl
  clear hl hn hx
  go_enter Try.func69, Try.ntmps69
  go_wp2_with fail
  go_loopw [8] (fun v W => ∃ k : Nat, k ≤ n ∧ v = .int .i64 k ∧ Hid (x ∉ (l.map (·.1)).take k) ∧ Hid (Below w.heap.size w W)) (fun v _ => n - (intOf v).toNat)
  case atStart => exact ⟨0, Nat.zero_le _, rfl, by show x ∉ _; simp, Below.refl _ _⟩
  case round =>
    obtain ⟨k, hk, rfl, HK, HB⟩ := hrel
    by_cases hlt : k < n
    · have hlt' : (k : Int) < (n : Int) := by omega
      have hk0 : (0 : Int) ≤ (k : Int) := by omega
      obtain ⟨cc, hck⟩ : ∃ cc, l[k]? = some cc := ⟨_, List.getElem?_eq_getElem (by rw [← Hn.out]; exact hlt)⟩
      obtain ⟨lb, lo, hA, hr, hblt⟩ := (HL.out.below (HB.out.mono hB)).chi hck
      subst hA
      have Hck := Lib.hid (show (l.map (·.1))[k]? = some cc.1 by rw [List.getElem?_map, hck]; rfl)
      have Hp := Lib.hid ((HB.out.cell (p := ⟨p, 0, none⟩) hp).trans HX.out)
      have Hps : Hid (p < wr.heap.size) := Nat.lt_of_lt_of_le hp HB.out.size
      clear hck
      go_wp2_with ((with_reducible refine at_load 66 ?_); refine load_chi rfl _ rfl lb (lo + k * 257) rfl cc hr ?_)
      go_wp2_with fail
      clear hr
      refine (jsame_any wr p cc x Hp.out Hps.out).mono ?_
      rintro e w1 ⟨rfl, hb1⟩
      have HB1 := Lib.hid (HB.out.trans (hb1.mono HB.out.size))
      clear hb1 HB Hp Hps hent
      by_cases he : cc.1 = x
      · rw [decide_eq_true he]
        go_wp2_with fail
        go_ret
        refine ⟨⟨_, rfl, fun _ => ?_, fun _ => hk0⟩, HB1.out⟩
        exact he ▸ List.mem_of_getElem? Hck.out
      · rw [decide_eq_false he]
        have HK1 : Hid (x ∉ (l.map (·.1)).take (k + 1)) := by
          show x ∉ _
          rw [take_succ' Hck.out, List.mem_append, List.mem_singleton]
          rintro (h | h)
          · exact HK.out h
          · exact he h.symm
        go_wp2_with fail
        go_roundw
        case rel => exact ⟨k + 1, by omega, by go_num, HK1, HB1⟩
        case measure => simp [intOf]; omega
    · obtain rfl : k = n := by omega
      have hno : x ∉ l.map (·.1) := by
        have := HK.out
        rwa [List.take_of_length_le (by rw [List.length_map, ← Hn.out]; exact Nat.le_refl _)] at this
      have Hno := Lib.hid hno
      clear hno HK
      go_wp2_with fail
      go_ret
      exact ⟨⟨_, rfl, fun h => by omega, fun h => absurd h Hno.out⟩, HB.out⟩
set_option maxRecDepth 100000 in
theorem jcontains_any (w : World) (B p : Nat) (A : Option Addr) (n c : Nat) (l : List ChI) (x : Int) (hl : LiesV w B A (chis l)) (hn : n = l.length) (hB : B ≤ w.heap.size) (h1000 : n ≤ 1000) (hx : w.cell? ⟨p, 0, none⟩ = some (.int .i64 x)) (hp : p < w.heap.size) :
    Calls Try.prog 43 #[.slice A n c, .func (.func 44) #[] #[.pointer (some ⟨p, 0, none⟩)]] w fun e w' => e = .returned (.bool (decide (x ∈ l.map (·.1)))) ∧ Below w.heap.size w w' := by
  have HC := Lib.hid (jindex_any w B p A n c l x hl hn hB h1000 hx hp)
  clear hl hn hx
  go_enter Try.func43, Try.ntmps43
  go_wp2_with fail
  refine HC.out.mono ?_
  rintro e w1 ⟨⟨r, rfl, hr⟩, hb⟩
  have Hr := Lib.hid hr
  clear hr
  go_wp2_with fail
  go_ret
  refine ⟨?_, hb⟩
  by_cases h : 0 ≤ r
  · rw [decide_eq_true (Hr.out.1 h)]; simp [h]
  · rw [decide_eq_false fun hm => h (Hr.out.2 hm)]; simp [h]
end Go.Proofs.Ytgkmbnmelepenaa
namespace Go.Proofs.Ytgkmbnmelepenaa
open Go.RowKit
set_option linter.unusedVariables false
set_option linter.unusedSimpArgs false

theorem Try.sizeLay : (Try.prog.info? 30).map (·.size) = some 14 := by kernel_rfl
theorem lq_range {w : World} {g gj : Nat} {q : Lq} {y : Jl} {t : TypeId} (h : RowV w gj t (jcs g q y)) : w.rangeAt gj 1 (lq q y) := by
  intro j v hj
  rw [Nat.add_comm]
  exact h.cell (by simpa [jcs] using hj)
theorem check_step {y : Jl} {L : List Int} {k : Nat} {x : Int} (h : L[k]? = some x) : checkFrom y (L.take k) (L.drop k) = if 2 ≤ x ∧ x < (y.head : Int) then if x ∈ L.take k then 9 else checkFrom y (L.take (k + 1)) (L.drop (k + 1)) else 2 := by
  obtain ⟨h1, h2⟩ := List.getElem?_eq_some_iff.1 h
  rw [List.drop_eq_getElem_cons h1, h2, checkFrom, take_succ' h]

set_option maxRecDepth 100000 in
set_option maxHeartbeats 2000000 in
theorem jcheck_any (w : World) (g gj : Nat) (q : Lq) (y : Jl) (B : Nat) (A : Option Addr) (n c : Nat) (l : List ChI) (hj : RowV w gj 84 (jcs g q y)) (hy : y.Ok) (hl : LiesV w B A (chis l)) (hn : n = l.length) (hB : B ≤ w.heap.size) (h1000 : n ≤ 1000) (hnc : n ≤ c) :
    Calls Try.prog 14 #[.pointer (some ⟨gj, 0, none⟩), .slice A n c] w fun e w' => e = .returned (.int .i64 (checkL y (l.map (·.1)))) ∧ Below w.heap.size w w' := by
  have HL := Lib.hid hl
  have Hn := Lib.hid hn
  have HJ := Lib.hid hj
  have hjl := hj.lt
  have j14 := hj.cell (i := 14) rfl
  have hrm := hy.room
  obtain ⟨L, hL⟩ : ∃ L, l.map (·.1) = L := ⟨_, rfl⟩
  have HLL := Lib.hid hL
  have HnL : Hid (L.length = n) := by show _ = _; rw [← hL, List.length_map, hn]
  clear hl hn hj hy
  rw [hL]
  clear hL
  generalize hrr : y.room = room at *
  have Hroom := Lib.hid hrr
  clear hrr
  go_enter Try.func14, Try.ntmps14
  by_cases h0 : n = 0
  · have hc : Hid (checkL y L = 1) := by show _ = _; rw [checkL, if_pos (by rw [HnL.out]; exact h0)]
    subst h0
    go_wp2_with fail
    go_ret
    rw [hc.out]
    exact ⟨rfl, Below.refl _ _⟩
  by_cases hr : room < n
  · have hc : Hid (checkL y L = 7) := by show _ = _; rw [checkL, if_neg (by rw [HnL.out]; exact h0), if_pos (by rw [HnL.out, Hroom.out]; exact hr)]
    go_wp2_with fail
    go_ret
    rw [hc.out]
    exact ⟨rfl, Below.refl _ _⟩
  have hc : Hid (checkL y L = checkFrom y [] L) := by show _ = _; rw [checkL, if_neg (by rw [HnL.out]; exact h0), if_neg (by rw [HnL.out, Hroom.out]; exact hr)]
  have hd1 : decide ((room : Int) < (n : Int)) = false := decide_eq_false (by omega)
  have hd2 : ((n : Int) == 0) = false := by rw [beq_eq_false_iff_ne]; omega
  go_wp2_with fail
  clear j14
  go_loopw [20] (fun v W => ∃ k : Nat, k ≤ n ∧ v = .int .i64 k ∧ Hid (checkFrom y [] L = checkFrom y (L.take k) (L.drop k)) ∧ Hid (Below w.heap.size w W)) (fun v _ => n - (intOf v).toNat)
  case atStart => exact ⟨0, Nat.zero_le _, rfl, rfl, Below.refl _ _⟩
  case round =>
    obtain ⟨k, hk, rfl, HK, HB⟩ := hrel
    by_cases hlt : k < n
    · have hlt' : (k : Int) < (n : Int) := by omega
      have hk0 : (0 : Int) ≤ (k : Int) := by omega
      obtain ⟨cc, hck⟩ : ∃ cc, l[k]? = some cc := ⟨_, List.getElem?_eq_getElem (by rw [← Hn.out]; exact hlt)⟩
      obtain ⟨lb, lo, hA, hr', hblt⟩ := (HL.out.below (HB.out.mono hB)).chi hck
      subst hA
      have Hst := Lib.hid (check_step (y := y) (show L[k]? = some cc.1 by rw [← HLL.out, List.getElem?_map, hck]; rfl))
      clear hck
      have hXs : w.heap.size ≤ wr.heap.size := HB.out.size
      generalize hX : wr.heap.size = X at *
      go_wp2_with (first
        | ((with_reducible refine at_load 66 ?_); refine load_chi rfl _ rfl lb (lo + k * 257) rfl cc hr' ?_)
        | ((with_reducible refine at_alloc 66 ?_); refine alloc_chi rfl rfl ?_))
      intro w1 hr1 hb1 hs1
      go_wp2_with ((with_reducible refine at_store 66 ?_); refine store_chi rfl _ _ rfl X cc rfl rfl hr1 (ChI.cs_length _) ?_)
      intro w2 hr2 hg2 hs2
      have hb2 : Below X wr w2 := below_grown hb1 hg2 (Nat.le_refl _) (by omega)
      have HB2 := Lib.hid (HB.out.trans (hb2.mono hXs))
      have hj2 := HJ.out.below hjl HB2.out
      have hrg := lq_range hj2
      have c0 := hr2.cell (i := 0) rfl
      have HR2 := Lib.hid hr2
      have hX2 : X < w2.heap.size := by omega
      have szL := Try.sizeLay
      clear hr1 hb1 hg2 hs1 hs2 hb2 hr2 hr' HB
      go_wp2_with fail
      refine wp_region_still_tail 6 (by kernel_rfl) (by kernel_rfl) ?_
      simp only [List.take_succ_cons, List.take_zero, List.drop_succ_cons, List.drop_zero]
      iterate 3 still_step
      refine wpStill_exec (.agg (lq q y).toArray) rfl (by refine exec_load_mid 30 (.tmp 27) rfl gj 1 rfl (lq q y) _ hrg Try.underlying30 rfl szL) ?_
      iterate 2 still_step
      refine wpStill_nil ?_
      change wpList _ _ _ _ _ w2.drew
      have HB3 := Lib.hid HB2.out.drew
      have Hc0 : Hid (w2.drew.cell? ⟨X, 0, none⟩ = some (.int .i64 cc.1)) := c0
      clear c0 hrg hj2 HB2 HR2
      have hX3 : X < w2.drew.heap.size := hX2
      clear hX2
      generalize w2.drew = w3 at *
      go_wp2_with fail
      refine (phome_any w3 q.s q.t q.c q.a q.x1 q.x2 q.x3 q.x4 (y.head : Int) (y.body : Int) q.x7 (y.total : Int) q.x9 (y.room : Int) cc.1).mono ?_
      rintro e w4 ⟨rfl, hb4⟩
      have HB4 := Lib.hid (HB3.out.trans (hb4.mono HB3.out.size))
      have Hc4 := Lib.hid ((hb4.cell (p := ⟨X, 0, none⟩) hX3).trans Hc0.out)
      have hX4 : X < w4.heap.size := Nat.lt_of_lt_of_le hX3 hb4.size
      clear hb4 HB3 Hc0 hX3
      by_cases hh : 2 ≤ cc.1 ∧ cc.1 < (y.head : Int)
      · have Hst2 : Hid (checkFrom y (L.take k) (L.drop k) = if cc.1 ∈ L.take k then 9 else checkFrom y (L.take (k + 1)) (L.drop (k + 1))) := by show _ = _; rw [Hst.out, if_pos hh]
        rw [decide_eq_true hh]
        clear Hst hh
        go_wp2_with fail
        refine (jcontains_any w4 B X _ k _ (l.take k) cc.1 ((HL.out.below (HB4.out.mono hB)).chi_take k) (by rw [List.length_take, ← Hn.out]; omega) (by have := HB4.out.size; omega) (by omega) Hc4.out hX4).mono ?_
        rintro e w5 ⟨rfl, hb5⟩
        have HB5 := Lib.hid (HB4.out.trans (hb5.mono HB4.out.size))
        clear hb5 HB4 Hc4 hX4
        have hm : (l.take k).map (·.1) = L.take k := by rw [List.map_take, HLL.out]
        rw [hm]
        clear hm
        by_cases hin : cc.1 ∈ L.take k
        · have Hst3 : Hid (checkFrom y (L.take k) (L.drop k) = 9) := by show _ = _; rw [Hst2.out, if_pos hin]
          rw [decide_eq_true hin]
          clear hin
          go_wp2_with fail
          go_ret
          rw [hc.out, HK.out, Hst3.out]
          exact ⟨rfl, HB5.out⟩
        · have HK1 : Hid (checkFrom y [] L = checkFrom y (L.take (k + 1)) (L.drop (k + 1))) := by show _ = _; rw [HK.out, Hst2.out, if_neg hin]
          rw [decide_eq_false hin]
          clear hin
          go_wp2_with fail
          go_roundw
          case rel => exact ⟨k + 1, by omega, by go_num, HK1, HB5⟩
          case measure => simp [intOf]; omega
      · have Hst2 : Hid (checkFrom y (L.take k) (L.drop k) = 2) := by show _ = _; rw [Hst.out, if_neg hh]
        rw [decide_eq_false hh]
        clear hh
        go_wp2_with fail
        go_ret
        rw [hc.out, HK.out, Hst2.out]
        exact ⟨rfl, HB4.out⟩
    · obtain rfl : k = n := by omega
      have He : Hid (checkFrom y (L.take k) (L.drop k) = 0) := by show _ = _; rw [List.drop_eq_nil_of_le (by rw [HnL.out]; exact Nat.le_refl _)]; rfl
      go_wp2_with fail
      go_ret
      rw [hc.out, HK.out, He.out]
      exact ⟨rfl, HB.out⟩
end Go.Proofs.Ytgkmbnmelepenaa
namespace Go.Proofs.Ytgkmbnmelepenaa
open Go.RowKit
set_option linter.unusedVariables false
set_option linter.unusedSimpArgs false

set_option maxRecDepth 100000 in
set_option maxHeartbeats 1000000 in
theorem jk2_any (w W : World) (base : Nat) (L : List Nat) (g gj p s : Nat) (q : Lq) (y : Jl) (d d0 : Dk) (l : List ChI) (A : Option Addr) (n c T N : Nat) (h1 : One w p (.pointer (some ⟨gj, 0, none⟩)) 26) (h2 : One w s (.slice A n c) 33) (hJ : Jr w base L g gj q y d0) (hp : p ∉ L) (hs : s ∉ L)
    (hl : LiesV W W.heap.size A (chis l)) (hn : n = l.length) (h123 : n ≤ 123) (ht : Turned w base L g d W) (hf : Fit T d N) (hN : N < 1000000) :
    Calls Try.prog 51 #[.pointer (some ⟨p, 0, none⟩), .pointer (some ⟨s, 0, none⟩)] W fun e W' => e = .returned (.int .i64 (d.write y.head (headS (l.map (·.1)))).2) ∧ Turned w base L g (d.write y.head (headS (l.map (·.1)))).1 W' := by
  obtain ⟨S, hS⟩ : ∃ S, headS (l.map (·.1)) = S := ⟨_, rfl⟩
  obtain ⟨r, hr⟩ : ∃ r, (d.write y.head S).2 = r := ⟨_, rfl⟩
  obtain ⟨d2, hd2⟩ : ∃ d2, (d.write y.head S).1 = d2 := ⟨_, rfl⟩
  have HSS := Lib.hid hS
  have Hr := Lib.hid hr
  have Hd2 := Lib.hid hd2
  rw [hS, hr, hd2]
  clear hS hr hd2
  generalize hhd : (y.head : Int) = hd at *
  have HT := Lib.hid ht
  have HF := Lib.hid hf
  have HL := Lib.hid hl
  have Hn := Lib.hid hn
  have HK : Hid (∀ (W' : World) (d' : Dk), Turned w base L g d' W' → W'.cell? ⟨p, 0, none⟩ = some (.pointer (some ⟨gj, 0, none⟩)) ∧ W'.cell? ⟨s, 0, none⟩ = some (.slice A n c) ∧ W'.cell? ⟨gj, 0, none⟩ = some (.pointer (some ⟨g, 0, none⟩)) ∧ W'.cell? ⟨gj, 9, none⟩ = some (.int .i64 hd)) := fun W' d' h =>
    ⟨(h.row (w := w) (cs := [_]) h1 hp).cell (i := 0) rfl, (h.row (w := w) (cs := [_]) h2 hs).cell (i := 0) rfl, (h.row hJ.row hJ.apart).cell (i := 0) rfl, hhd ▸ (h.row hJ.row hJ.apart).cell (i := 9) rfl⟩
  have HS := Lib.hid hJ.size
  clear h1 h2 hJ hl hn ht hf
  go_enter Try.func51, Try.ntmps51
  go_wp2_with fail
  refine wp_region_held_drew (S := fun W' => W'.cell? ⟨p, 0, none⟩ = some (.pointer (some ⟨gj, 0, none⟩)) ∧ W'.cell? ⟨s, 0, none⟩ = some (.slice A n c) ∧ W'.cell? ⟨gj, 0, none⟩ = some (.pointer (some ⟨g, 0, none⟩)) ∧ W'.cell? ⟨gj, 9, none⟩ = some (.int .i64 hd)) (by kernel_rfl) (HK.out _ _ HT.out.drew) (fun hHeld => ?_)
  refine wpAnyH_take (i := 0) (oi := ⟨_, _, _, _, _, _⟩) (v := ?_) rfl (by kernel_rfl) (by kernel_rfl) (by kernel_rfl) (fun _ _ _ h => h) (Or.inl ⟨by rfl, ?_⟩) (by assumption) ?_
  rotate_left
  · rintro W ⟨s0, s1, s2, s3⟩; go_simp; try with_reducible rfl
  try simp only [Act.put, List.setIfInBounds_toArray, List.set_cons_zero, List.set_cons_succ]
  refine wpAnyH_take (i := 1) (oi := ⟨_, _, _, _, _, _⟩) (v := ?_) rfl (by kernel_rfl) (by kernel_rfl) (by kernel_rfl) (fun _ _ _ h => h) (Or.inl ⟨by rfl, ?_⟩) (by assumption) ?_
  rotate_left
  · rintro W ⟨s0, s1, s2, s3⟩; go_simp; try with_reducible rfl
  try simp only [Act.put, List.setIfInBounds_toArray, List.set_cons_zero, List.set_cons_succ]
  refine wpAnyH_take (i := 2) (oi := ⟨_, _, _, _, _, _⟩) (v := ?_) rfl (by kernel_rfl) (by kernel_rfl) (by kernel_rfl) (fun _ _ _ h => h) (Or.inl ⟨by rfl, ?_⟩) (by assumption) ?_
  rotate_left
  · rintro W ⟨s0, s1, s2, s3⟩; go_simp; try with_reducible rfl
  try simp only [Act.put, List.setIfInBounds_toArray, List.set_cons_zero, List.set_cons_succ]
  refine wpAnyH_take (i := 3) (oi := ⟨_, _, _, _, _, _⟩) (v := ?_) rfl (by kernel_rfl) (by kernel_rfl) (by kernel_rfl) (fun _ _ _ h => h) (Or.inl ⟨by rfl, ?_⟩) (by assumption) ?_
  rotate_left
  · rintro W ⟨s0, s1, s2, s3⟩; go_simp; try with_reducible rfl
  try simp only [Act.put, List.setIfInBounds_toArray, List.set_cons_zero, List.set_cons_succ]
  refine wpAnyH_take (i := 4) (oi := ⟨_, _, _, _, _, _⟩) (v := ?_) rfl (by kernel_rfl) (by kernel_rfl) (by kernel_rfl) (fun _ _ _ h => h) (Or.inl ⟨by rfl, ?_⟩) (by assumption) ?_
  rotate_left
  · rintro W ⟨s0, s1, s2, s3⟩; go_simp; try with_reducible rfl
  try simp only [Act.put, List.setIfInBounds_toArray, List.set_cons_zero, List.set_cons_succ]
  refine wpAnyH_take (i := 5) (oi := ⟨_, _, _, _, _, _⟩) (v := ?_) rfl (by kernel_rfl) (by kernel_rfl) (by kernel_rfl) (fun _ _ _ h => h) (Or.inl ⟨by rfl, ?_⟩) (by assumption) ?_
  rotate_left
  · rintro W ⟨s0, s1, s2, s3⟩; go_simp; try with_reducible rfl
  try simp only [Act.put, List.setIfInBounds_toArray, List.set_cons_zero, List.set_cons_succ]
  refine wpAnyH_take (i := 6) (oi := ⟨_, _, _, _, _, _⟩) (v := ?_) rfl (by kernel_rfl) (by kernel_rfl) (by kernel_rfl) (fun _ _ _ h => h) (Or.inl ⟨by rfl, ?_⟩) (by assumption) ?_
  rotate_left
  · rintro W ⟨s0, s1, s2, s3⟩; go_simp; try with_reducible rfl
  try simp only [Act.put, List.setIfInBounds_toArray, List.set_cons_zero, List.set_cons_succ]
  refine wpAnyH_take (i := 7) (oi := ⟨_, _, _, _, _, _⟩) (v := ?_) rfl (by kernel_rfl) (by kernel_rfl) (by kernel_rfl) (fun _ _ _ h => h) (Or.inl ⟨by rfl, ?_⟩) (by assumption) ?_
  rotate_left
  · rintro W ⟨s0, s1, s2, s3⟩; go_simp; try with_reducible rfl
  try simp only [Act.put, List.setIfInBounds_toArray, List.set_cons_zero, List.set_cons_succ]
  refine wpAnyH_take (i := 8) (oi := ⟨_, _, _, _, _, _⟩) (v := ?_) rfl (by kernel_rfl) (by kernel_rfl) (by kernel_rfl) (fun _ _ _ h => h) (Or.inl ⟨by rfl, ?_⟩) (by assumption) ?_
  rotate_left
  · rintro W ⟨s0, s1, s2, s3⟩; go_simp; try with_reducible rfl
  try simp only [Act.put, List.setIfInBounds_toArray, List.set_cons_zero, List.set_cons_succ]
  refine wpAnyH_take (i := 9) (oi := ⟨_, _, _, _, _, _⟩) (v := ?_) rfl (by kernel_rfl) (by kernel_rfl) (by kernel_rfl) (fun _ _ _ h => h) (Or.inl ⟨by rfl, ?_⟩) (by assumption) ?_
  rotate_left
  · rintro W ⟨s0, s1, s2, s3⟩; go_simp; try with_reducible rfl
  try simp only [Act.put, List.setIfInBounds_toArray, List.set_cons_zero, List.set_cons_succ]
  refine wpAnyH_ready (rs := [10]) (by kernel_rfl) (by simp) ?_
  refine AllReadyH.cons (o := ⟨_, _, _, _, _, _⟩) rfl (fun K hK => ?_) AllReadyH.nil
  go_simp
  refine (jhead_any W.drew W.heap.size A n c l HL.out Hn.out (Nat.le_refl _) h123).mono ?_
  rintro e W1 ⟨rfl, hb1⟩
  rw [HSS.out]
  try simp only []
  have HT1 := Lib.hid (HT.out.drew.below hb1)
  refine hK.out _ _ (HK.out _ _ HT1.out) (fun hHeld => ?_)
  clear hK K hb1
  try simp only [Act.put, List.setIfInBounds_toArray, List.set_cons_zero, List.set_cons_succ]
  refine wpAnyH_ready (rs := [11]) (by kernel_rfl) (by simp) ?_
  refine AllReadyH.cons (o := ⟨_, _, _, _, _, _⟩) rfl (fun K hK => ?_) AllReadyH.nil
  go_simp
  refine (HT1.out.write HS.out hd S HF.out hN).mono ?_
  rintro e W2 ⟨rfl, ht2⟩
  rw [Hr.out]
  rw [Hd2.out] at ht2
  try simp only []
  have HT2 := Lib.hid ht2
  refine hK.out _ _ (HK.out _ _ ht2) (fun hHeld => ?_)
  clear hK K ht2
  try simp only [Act.put, List.setIfInBounds_toArray, List.set_cons_zero, List.set_cons_succ]
  refine wpAnyH_take (i := 12) (oi := ⟨_, _, _, _, _, _⟩) (v := ?_) rfl (by kernel_rfl) (by kernel_rfl) (by kernel_rfl) (fun _ _ _ h => h) (Or.inl ⟨by rfl, ?_⟩) (by assumption) ?_
  rotate_left
  · rintro W ⟨s0, s1, s2, s3⟩; go_simp; try with_reducible rfl
  try simp only [Act.put, List.setIfInBounds_toArray, List.set_cons_zero, List.set_cons_succ]
  refine wpAnyH_done (by kernel_rfl) ?_ _
  go_wp2_with fail
  go_ret
  exact ⟨rfl, HT2.out⟩
end Go.Proofs.Ytgkmbnmelepenaa
namespace Go.Proofs.Ytgkmbnmelepenaa
open Go.RowKit
set_option linter.unusedVariables false
set_option linter.unusedSimpArgs false

/-- What a Commit makes of a disk, and what it answers. -/
def commitV (y : Jl) (l : List ChI) (d : Dk) : Dk × Int := if checkL y (l.map (·.1)) = 0 then commitD y l d else (d, checkL y (l.map (·.1)))
theorem commitV_yes {y : Jl} {l : List ChI} (h : checkL y (l.map (·.1)) = 0) (d : Dk) : commitV y l d = commitD y l d := if_pos h
theorem commitV_no {y : Jl} {l : List ChI} (h : checkL y (l.map (·.1)) ≠ 0) (d : Dk) : commitV y l d = (d, checkL y (l.map (·.1))) := if_neg h

set_option maxRecDepth 100000 in
set_option maxHeartbeats 1000000 in
theorem jcommit_any (w : World) (base : Nat) (L : List Nat) (g gj : Nat) (q : Lq) (y : Jl) (d : Dk) (l : List ChI) (A : Option Addr) (n c T N : Nat) (hJ : Jr w base L g gj q y d) (hy : y.Ok) (hl : Chs w L A l) (hn : n = l.length) (hnc : n ≤ c) (hnn : n ≤ 1000) (hf : Fit T d N) (hN : N + 40000 < 1000000) :
    Calls Try.prog 18 #[.pointer (some ⟨gj, 0, none⟩), .slice A n c] w fun e w' => e = .returned (.int .i64 (commitV y l d).2) ∧ Turned w base L g (commitV y l d).1 w' := by
  have HJ := Lib.hid hJ
  have HL := Lib.hid hl
  have Hn := Lib.hid hn
  have Hf := Lib.hid hf
  have Hy := Lib.hid hy
  clear hJ hf hy hl hn
  go_enter Try.func18, Try.ntmps18
  go_wp2_with fail
  generalize hP : w.heap.size = p at *
  generalize hW : (w.alloc _).alloc _ = w1
  obtain ⟨hb1, hs1, h1, h2⟩ := boxes2 hW
  rw [hP] at hs1 h1 h2
  have HJ1 := Lib.hid (HJ.out.below hb1)
  have HL1 := Lib.hid (HL.out.below hb1)
  have Hb1 := Lib.hid hb1
  have c1 := h1.cell
  have c2 := h2.cell
  have j0 := HJ1.out.row.cell (i := 0) rfl
  have H1 := Lib.hid h1
  have H2 := Lib.hid h2
  have hpL : p ∉ L ∧ p + 1 ∉ L := ⟨fun hm => by have := (HJ.out.disk.lt hm).2; omega, fun hm => by have := (HJ.out.disk.lt hm).2; omega⟩
  clear hW hb1 h1 h2
  go_wp2_with fail
  refine (jcheck_any w1 g gj q y _ A n c l HJ1.out.row Hy.out HL1.out.lies Hn.out (Nat.le_refl _) hnn hnc).mono ?_
  rintro e w5 ⟨rfl, hb5⟩
  by_cases hck : checkL y (l.map (·.1)) = 0
  case neg =>
    have HC := Lib.hid hck
    have hv := Lib.hid (commitV_no hck d)
    have HT := Lib.hid (Turned.of (below_seq Hb1.out hb5) (Turned.refl (HJ1.out.below hb5).disk))
    clear c1 c2 j0 hb5
    obtain ⟨r, hr⟩ : ∃ r, checkL y (l.map (·.1)) = r := ⟨_, rfl⟩
    have Hr := Lib.hid hr
    rw [hr] at hck ⊢
    clear hr
    go_wp2_with fail
    go_ret
    rw [hv.out, Hr.out]
    exact ⟨rfl, HT.out⟩
  have HC := Lib.hid hck
  have hlen := (check_zero hck).2.1
  rw [List.length_map, ← Hn.out] at hlen
  have h123 : n ≤ 123 := Nat.le_trans hlen Hy.out.room
  rw [hck]
  clear hck hlen
  have HJ5 := Lib.hid (HJ1.out.below hb5)
  have HL5 := Lib.hid (HL1.out.below hb5)
  have Hb5 := Lib.hid (below_seq Hb1.out hb5)
  have k1 := H1.out.below hb5 (by omega)
  have k2 := H2.out.below hb5 (by omega)
  have hs5 := hb5.size
  have c1 := k1.cell
  have c2 := k2.cell
  have j0 := HJ5.out.row.cell (i := 0) rfl
  have H51 := Lib.hid k1
  have H52 := Lib.hid k2
  have hp5 : p + 1 < w5.heap.size := by omega
  generalize hP5 : w5.heap.size = p5 at *
  have hpL5 : p5 ∉ L := fun hm => by have := (HJ5.out.disk.lt hm).2; omega
  clear k1 k2 hb5 HJ1 HL1 Hb1 H1 H2 hs1
  go_wp2_with fail
  refine wp_region_still_tail 13 (by kernel_rfl) (by kernel_rfl) ?_
  simp only [List.take_succ_cons, List.take_zero, List.drop_succ_cons, List.drop_zero]
  iterate 13 still_step
  refine wpStill_nil ?_
  change wpList _ _ _ _ _ w5.drew
  clear c1 c2 j0
  go_wp2_with fail
  generalize hW : (w5.alloc _).drew = w2
  have hb2 : Below w5.heap.size w5 w2 := by rw [← hW]; exact ((Below.refl _ _).alloc (Nat.le_refl _) _).drew
  have hs2 : w2.heap.size = p5 + 1 := by rw [← hW]; simp [hP5]
  have hr2 : RowV w2 p5 69 ([((48 : FuncId), #[], #[Value.pointer (some ⟨p, 0, none⟩), Value.pointer (some ⟨p + 1, 0, none⟩)]), ((50 : FuncId), #[Value.pointer (some ⟨g, 0, none⟩)], #[]), ((51 : FuncId), #[], #[Value.pointer (some ⟨p, 0, none⟩), Value.pointer (some ⟨p + 1, 0, none⟩)]), ((50 : FuncId), #[Value.pointer (some ⟨g, 0, none⟩)], #[]), ((53 : FuncId), #[], #[Value.pointer (some ⟨p, 0, none⟩), Value.pointer (some ⟨p + 1, 0, none⟩)])].map fnV) := by
    rw [← hW, ← hP5]
    exact RowV.new w5 _ _
  clear hW
  have HJ2 := Lib.hid (HJ5.out.below hb2)
  have HL2 := Lib.hid (HL5.out.below hb2)
  have Hb2 := Lib.hid (below_seq Hb5.out hb2)
  have Hr2 := Lib.hid hr2
  have K1 := Lib.hid (H51.out.below hb2 (by omega))
  have K2 := Lib.hid (H52.out.below hb2 (by omega))
  clear hb2 hr2 HJ5 HL5 Hb5 H51 H52
  refine (jorder_any [((48 : FuncId), #[], #[Value.pointer (some ⟨p, 0, none⟩), Value.pointer (some ⟨p + 1, 0, none⟩)]), ((50 : FuncId), #[Value.pointer (some ⟨g, 0, none⟩)], #[]), ((51 : FuncId), #[], #[Value.pointer (some ⟨p, 0, none⟩), Value.pointer (some ⟨p + 1, 0, none⟩)]), ((50 : FuncId), #[Value.pointer (some ⟨g, 0, none⟩)], #[]), ((53 : FuncId), #[], #[Value.pointer (some ⟨p, 0, none⟩), Value.pointer (some ⟨p + 1, 0, none⟩)])] [fun d => d.writeAll (bodyL y.body (l.map (·.2))), Dk.flush, fun d => d.write y.head (headS (l.map (·.1))), Dk.flush, completeD y l] (fun k d W => k ≤ 5 ∧ Turned w2 base L g d W ∧ Fit T d (N + k * 2000)) (some ⟨p5, 0, none⟩) 5 5 rfl rfl (by decide) ?_ ?_ ?_ d w2 ?_).mono ?_
  · rintro k d W ⟨_, ht, _⟩
    exact LiesV.of_row (ht.row Hr2.out hpL5)
  · intro f hf
    simp only [List.mem_cons, List.not_mem_nil, or_false] at hf
    rcases hf with rfl | rfl | rfl | rfl | rfl
    · exact ent Try.func48 (by kernel_rfl) rfl
    · exact ent Try.func50 (by kernel_rfl) rfl
    · exact ent Try.func51 (by kernel_rfl) rfl
    · exact ent Try.func50 (by kernel_rfl) rfl
    · exact ent Try.func53 (by kernel_rfl) rfl
  · rintro k f s h1 h2 d W ⟨hk5, ht, hf⟩
    have hk : k < 5 := (List.getElem?_eq_some_iff.1 h1).1
    have hr := Hy.out.room
    have hN2 : N + k * 2000 + 20000 < 1000000 := by omega
    obtain ⟨L', hJ', hC', hT'⟩ := ht.jr HJ2.out
    have o1 : One W p _ _ := ht.row (w := w2) (cs := [_]) K1.out hpL.1
    have o2 : One W (p + 1) _ _ := ht.row (w := w2) (cs := [_]) K2.out hpL.2
    rcases k with _ | _ | _ | _ | _ | k
    · have e1 := Option.some.inj h1
      have e2 := Option.some.inj h2
      subst e1 e2
      refine (jk1_any o1 o2 (jbody_any W base L' g gj q y d l A n c T (N + 0 * 2000) hJ' Hy.out (hC' _ _ HL2.out) Hn.out hnn hf (by omega))).mono ?_
      rintro e W' ⟨rfl, ht'⟩
      have hn := Hn.out
      have hbl : (bodyL y.body (l.map (·.2))).length = n := by rw [bodyL_length, List.length_map, hn]
      exact ⟨rfl, by omega, hT' _ _ ht', (Keeps.writeAll (bodyL y.body (l.map (·.2))) T d _ hf (by rw [hbl]; omega)).mono (by rw [hbl]; omega)⟩
    · have e1 := Option.some.inj h1
      have e2 := Option.some.inj h2
      subst e1 e2
      refine (ht.flush hf).mono ?_
      rintro e W' ⟨rfl, ht'⟩
      exact ⟨rfl, by omega, ht', (Keeps.flush T d _ hf (by omega)).mono (by omega)⟩
    · have e1 := Option.some.inj h1
      have e2 := Option.some.inj h2
      subst e1 e2
      refine (jk2_any w2 W base L g gj p (p + 1) q y d _ l A n c T _ K1.out K2.out HJ2.out hpL.1 hpL.2 (hC' _ _ HL2.out).lies Hn.out h123 ht hf (by omega)).mono ?_
      rintro e W' ⟨rfl, ht'⟩
      exact ⟨rfl, by omega, ht', (Keeps.write (y.head : Int) (headS (l.map (·.1))) T d _ hf (by omega)).mono (by omega)⟩
    · have e1 := Option.some.inj h1
      have e2 := Option.some.inj h2
      subst e1 e2
      refine (ht.flush hf).mono ?_
      rintro e W' ⟨rfl, ht'⟩
      exact ⟨rfl, by omega, ht', (Keeps.flush T d _ hf (by omega)).mono (by omega)⟩
    · have e1 := Option.some.inj h1
      have e2 := Option.some.inj h2
      subst e1 e2
      refine (jk3_any o1 o2 (jcomplete_any W base L' g gj q y d l A n c T _ hJ' Hy.out (hC' _ _ HL2.out) Hn.out hnn hf (by omega))).mono ?_
      rintro e W' ⟨rfl, ht'⟩
      exact ⟨rfl, by omega, hT' _ _ ht', (complete_keeps y l T d _ hf (by have := Hn.out; omega)).mono (by have := Hn.out; omega)⟩
    · omega
  · exact ⟨by omega, Turned.refl HJ2.out.disk, Hf.out.mono (by omega)⟩
  · rintro e w3 ⟨rfl, k, hk, ht, _⟩
    have HT := Lib.hid (Turned.of Hb2.out ht)
    clear ht
    go_wp2_with fail
    go_ret
    rw [commitV_yes HC.out]
    exact ⟨rfl, HT.out⟩
end Go.Proofs.Ytgkmbnmelepenaa
namespace Go.Proofs.Ytgkmbnmelepenaa
open Go.RowKit
set_option linter.unusedVariables false
set_option linter.unusedSimpArgs false

def iv (x : Int) : Value := .int .i64 x
/-- Changes of these sectors, their contents noughts. -/
def blanks (ts : List Int) : List ChI := ts.map fun x => (x, zeroSec)
theorem blanks_length (ts : List Int) : (blanks ts).length = ts.length := List.length_map _
theorem blanks_map (ts : List Int) : (blanks ts).map (·.1) = ts := by simp [blanks, List.map_map, Function.comp_def]
theorem made_chis (n : Nat) : (madeCells chi0.cs.toArray (n * 257)).toList = chis (List.replicate n chi0) := by
  have h := made_list chi0.cs.toArray (by rw [List.size_toArray, ChI.cs_length]; omega) n
  rw [List.size_toArray, ChI.cs_length] at h
  rw [h, chis, List.flatMap_replicate]
theorem Try.infoCh : (Try.prog.info? 66).map (fun i => (i.zero, i.size, i.bytes)) = some (some (.agg chi0.cs.toArray), 257, 264) := by kernel_rfl
/-- The first k told, the rest noughts. -/
def partB (ts : List Int) (k n : Nat) : List ChI := blanks (ts.take k) ++ List.replicate (n - k) chi0
theorem partB_length {ts : List Int} {k n : Nat} (hn : n = ts.length) (hk : k ≤ n) : (partB ts k n).length = n := by simp [partB, blanks]; omega
theorem set_flat_head {l : List ChI} {i : Nat} {c : ChI} (h : l[i]? = some c) (x : Int) : (chis l).set (i * 257) (.int .i64 x) = chis (l.set i (x, c.2)) := by
  have hi := (List.getElem?_eq_some_iff.1 h).1
  have e1 := flat_split (f := ChI.cs) l i c h
  have e2 : (l.set i (x, c.2)).flatMap ChI.cs = (l.take i).flatMap ChI.cs ++ (ChI.cs (x, c.2) ++ (l.drop (i + 1)).flatMap ChI.cs) := by
    have := flat_split (f := ChI.cs) (l.set i (x, c.2)) i (x, c.2) (by rw [List.getElem?_set_self hi])
    rw [this, List.take_set_of_le (Nat.le_refl _), List.drop_set_of_lt (by omega)]
  have e3 : ((l.take i).flatMap ChI.cs).length = i * 257 := by rw [flat_length ChI.cs_length, List.length_take, Nat.min_eq_left (by omega)]
  unfold chis
  rw [e1, e2, List.set_append_right _ _ (by omega), e3, Nat.sub_self]
  rfl
theorem partB_set {ts : List Int} {k n : Nat} {x : Int} (hn : n = ts.length) (hx : ts[k]? = some x) : (chis (partB ts k n)).set (k * 257) (.int .i64 x) = chis (partB ts (k + 1) n) := by
  have hk : k < n := by rw [hn]; exact (List.getElem?_eq_some_iff.1 hx).1
  have hl : (blanks (ts.take k)).length = k := by rw [blanks_length, List.length_take]; omega
  have hg : (partB ts k n)[k]? = some chi0 := by
    unfold partB
    rw [List.getElem?_append_right (by omega), hl, Nat.sub_self, show n - k = (n - (k + 1)) + 1 by omega, List.replicate_succ]
    rfl
  rw [set_flat_head hg x]
  congr 1
  unfold partB
  rw [List.set_append_right _ _ (by omega), hl, Nat.sub_self, show n - k = (n - (k + 1)) + 1 by omega, List.replicate_succ, List.set_cons_zero, take_succ' hx]
  simp [blanks, chi0]

set_option maxRecDepth 100000 in
set_option maxHeartbeats 1000000 in
theorem jblanks_any (w : World) (B : Nat) (A : Option Addr) (n c : Nat) (ts : List Int) (hl : LiesV w B A (ts.map iv)) (hn : n = ts.length) (hB : B ≤ w.heap.size) (h1000 : n ≤ 1000) :
    Calls Try.prog 37 #[.slice A n c] w fun e w' => e = .returned (.slice (some ⟨w.heap.size, 0, none⟩) n n) ∧ RowV w' w.heap.size 66 (chis (blanks ts)) ∧ Below w.heap.size w w' := by
  obtain ⟨i0, hi, hz0, hz1, hz2⟩ := info_parts Try.infoCh
  have HL := Lib.hid hl
  have Hn := Lib.hid hn
  clear hl hn
  go_enter Try.func37, Try.ntmps37
  go_wp2_with (at_make; refine wpList_make_full _ rfl _ _ 33 rfl w.heap.size 66 i0 (.agg chi0.cs.toArray) 257 Try.underlying33 hi hz0 hz1 .i64 .i64 _ _ n rfl rfl rfl rfl (by rw [hz2]; omega) (by unfold maxLen; omega) (Nat.le_refl _) ?_)
  intro w1 hown hg1
  have hb1 : Below w.heap.size w w1 := (Below.refl _ _).grown hg1 (Nat.le_refl _) (by simp)
  have hr1 := row_of_full hown
  rw [made_chis, show List.replicate n chi0 = partB ts 0 n by simp [partB, blanks]] at hr1
  have HR1 := Lib.hid hr1
  have HB1 := Lib.hid hb1
  clear hown hg1 hr1 hb1
  generalize hN : w.heap.size = N at *
  go_wp2_with fail
  go_loopw [11] (fun v W => ∃ k : Nat, k ≤ n ∧ v = .int .i64 k ∧ Hid (RowV W N 66 (chis (partB ts k n))) ∧ Hid (Below N w W)) (fun v _ => n - (intOf v).toNat)
  case atStart => exact ⟨0, Nat.zero_le _, rfl, HR1, HB1⟩
  case round =>
    obtain ⟨k, hk, rfl, HR, HB⟩ := hrel
    clear HR1 HB1
    by_cases hlt : k < n
    · have hlt' : (k : Int) < (n : Int) := by omega
      have hk0 : (0 : Int) ≤ (k : Int) := by omega
      obtain ⟨x, hx⟩ : ∃ x, ts[k]? = some x := ⟨_, List.getElem?_eq_getElem (by rw [← Hn.out]; exact hlt)⟩
      obtain ⟨lb, lo, hA, hblt, hcell⟩ := (HL.out.below (HB.out.mono hB)).at_ (i := k) (v := iv x) (by rw [List.getElem?_map, hx]; rfl)
      subst hA
      have Hx := Lib.hid hx
      have hlen : k * 257 < (chis (partB ts k n)).length := by rw [chis_length, partB_length Hn.out hk]; omega
      unfold iv at hcell
      clear hx
      have hr := HR.out
      go_wp2_with ((with_reducible refine at_store 3 ?_); refine store_field rfl _ _ rfl N (k * 257) x (by first | rfl | go_simp) rfl hr hlen ?_)
      intro w2 hr2 hg2 hs2
      rw [partB_set Hn.out Hx.out] at hr2
      have HR2 := Lib.hid hr2
      have hNs : N ≤ wr.heap.size := HB.out.size |> fun h => by rw [hN] at h; exact h
      have HB2 := Lib.hid (below_grown HB.out hg2 (Nat.le_refl _) hNs)
      clear hr hr2 hg2 hs2 HR HB hlen hNs
      go_wp2_with fail
      go_roundw
      case rel => exact ⟨k + 1, by omega, by go_num, HR2, HB2⟩
      case measure => simp [intOf]; omega
    · obtain rfl : k = n := by omega
      have he : partB ts k k = blanks ts := by simp [partB, Hn.out]
      have HR3 := Lib.hid (he ▸ HR.out)
      clear HR he
      go_wp2_with fail
      go_ret
      subst hN
      exact ⟨rfl, HR3.out, HB.out⟩
end Go.Proofs.Ytgkmbnmelepenaa
namespace Go.Proofs.Ytgkmbnmelepenaa
open Go.RowKit
set_option linter.unusedVariables false
set_option linter.unusedSimpArgs false

theorem Try.infoI : (Try.prog.info? 3).map (fun i => (i.zero, i.size, i.bytes)) = some (some (.int .i64 0), 1, 8) := by kernel_rfl
def partI (ts : List Int) (k n : Nat) : List Value := (ts.take k).map iv ++ List.replicate (n - k) (iv 0)
theorem partI_set {ts : List Int} {k n : Nat} {x : Int} (hn : n = ts.length) (hx : ts[k]? = some x) : (partI ts k n).set k (.int .i64 x) = partI ts (k + 1) n := by
  have hk : k < n := by rw [hn]; exact (List.getElem?_eq_some_iff.1 hx).1
  have hl : ((ts.take k).map iv).length = k := by rw [List.length_map, List.length_take]; omega
  unfold partI
  rw [List.set_append_right _ _ (by omega), hl, Nat.sub_self, show n - k = (n - (k + 1)) + 1 by omega, List.replicate_succ, List.set_cons_zero, take_succ' hx]
  simp [iv]
theorem partI_length {ts : List Int} {k n : Nat} (hn : n = ts.length) (hk : k ≤ n) : (partI ts k n).length = n := by simp [partI]; omega
/-- The rows of numbers that Targets answers. -/
def TgtV (w : World) (v : Value) : Option (List Int) → Prop
  | none => v = .slice none 0 0
  | some ts => ∃ A c, v = .slice A ts.length c ∧ LiesV w w.heap.size A (ts.map iv)
theorem targets_some {x : Sec} (h1 : 1 ≤ cnt x) (h2 : cnt x ≤ 123) (h : headS (numsAt x.1 5 (cnt x)) = x) : targetsS x = some (numsAt x.1 5 (cnt x)) := by unfold targetsS; rw [if_pos ⟨h1, h2, h⟩]
theorem targets_none {x : Sec} (h : cnt x < 1 ∨ 123 < cnt x ∨ headS (numsAt x.1 5 (cnt x)) ≠ x) : targetsS x = none := by
  unfold targetsS
  rw [if_neg]
  rintro ⟨h1, h2, h3⟩
  rcases h with h | h | h
  · omega
  · omega
  · exact h h3

set_option maxRecDepth 100000 in
set_option maxHeartbeats 2000000 in
theorem jtargets_any (w : World) (x : Sec) :
    Calls Try.prog 10 #[.agg x.cs.toArray] w fun e w' => ∃ v, e = .returned (.tuple #[v, .bool (targetsS x).isSome]) ∧ TgtV w' v (targetsS x) ∧ Below w.heap.size w w' := by
  obtain ⟨i0, hi, hz0, hz1, hz2⟩ := info_parts Try.infoI
  obtain ⟨n, hcn⟩ : ∃ n, cnt x = n := ⟨_, rfl⟩
  have hn256 : n < 256 := by rw [← hcn]; exact cnt_lt x
  have Hcn := Lib.hid hcn
  go_enter Try.func10, Try.ntmps10
  go_wp2_with ((with_reducible refine at_box 23 ?_); refine wpList_box_rowV rfl 23 _ rfl x.cs rfl ?_)
  intro w1 hr1 hb1 hs1
  have c4 := sec_byte hr1 4 (by omega)
  rw [show (x.1.getD 4 0).toNat = n from hcn] at c4
  clear hcn
  generalize hN : w.heap.size = N at *
  by_cases h1 : n < 1
  · have ht := Lib.hid (targets_none (x := x) (.inl (by rw [Hcn.out]; exact h1)))
    go_wp2_with fail
    go_ret2
    rw [ht.out]
    exact ⟨_, rfl, rfl, by first | exact hb1 | (rw [hN]; exact hb1)⟩
  by_cases h2 : 123 < n
  · have ht := Lib.hid (targets_none (x := x) (.inr (.inl (by rw [Hcn.out]; exact h2))))
    go_wp2_with fail
    go_ret2
    rw [ht.out]
    exact ⟨_, rfl, rfl, by first | exact hb1 | (rw [hN]; exact hb1)⟩
  have hl1 := sec_from hr1 5
  have hl5 : (x.1.drop 5).length = 251 := by rw [List.length_drop, x.2]
  have hsl : ∀ W, (Instr.sliceAt 23 (.pointer (some ⟨N, 0, none⟩)) (some (.int .i64 5)) none none).run Try.prog W = .ok (.slice (some ⟨N, 5, none⟩) 251 251) W := fun W => run_slice_arr_from Try.underlying23 Try.size1 N 0 .i64 5 5 rfl (by omega)
  go_wp2_with fail
  refine (from_any _ 251 251 (x.1.drop 5) w1 hl1 hl5.symm (by omega)).mono ?_
  rintro e w2 ⟨g, rfl, hg2, hc2, hb2⟩
  have hr2 := hr1.below (by omega) hb2
  have hB2 : Below N w w2 := hb1.trans (hb2.mono (by omega))
  have hgl := hc2.lt
  have hgN : N < g := by omega
  clear hr1 hb1 hb2 hg2 hs1 hl1 c4 hsl
  obtain ⟨ts, hts⟩ : ∃ ts, numsAt x.1 5 n = ts := ⟨_, rfl⟩
  have Hts := Lib.hid hts
  have Hlen : Hid (n = ts.length) := by show _ = _; rw [← hts, numsAt_length]
  clear hts
  generalize hS2 : w2.heap.size = G at *
  go_wp2_with (at_make; refine wpList_make_full _ rfl _ _ 35 rfl w2.heap.size 3 i0 (.int .i64 0) 1 Try.underlying35 hi hz0 hz1 .i64 .i64 _ _ n rfl rfl rfl rfl (by rw [hz2]; omega) (by unfold maxLen; omega) (Nat.le_refl _) ?_)
  intro w3 hown hg3
  have hb3 : Below w2.heap.size w2 w3 := (Below.refl _ _).grown hg3 (Nat.le_refl _) (by simp)
  have hr3 := row_of_full hown
  rw [toList_madeCells_one, show List.replicate n (Value.int .i64 0) = partI ts 0 n by simp [partI, iv]] at hr3
  have HR3 := Lib.hid hr3
  have HC3 : Hid (Cur w3 g ((x.1.drop 5).drop (2 * 0)) false) := hc2.below hb3
  have HX3 := Lib.hid (hr2.below (by omega) (hS2 ▸ hb3))
  have HB3 := Lib.hid (hB2.trans (hb3.mono (by omega)))
  clear hown hg3 hr3 hb3 hc2 hr2 hB2
  have hNG : N < G := by omega
  go_wp2_with fail
  go_loopw [23] (fun v W => ∃ k : Nat, k ≤ n ∧ v = .int .i64 k ∧ Hid (RowV W G 3 (partI ts k n)) ∧ Hid (Cur W g ((x.1.drop 5).drop (2 * k)) false) ∧ Hid (RowV W N 23 x.cs) ∧ Hid (Below N w W)) (fun v _ => n - (intOf v).toNat)
  case atStart => exact ⟨0, Nat.zero_le _, rfl, HR3, HC3, HX3, HB3⟩
  case round =>
    obtain ⟨k, hk, rfl, HR, HC, HX, HB⟩ := hrel
    clear HR3 HC3 HX3 HB3
    by_cases hlt : k < n
    · have hlt' : (k : Int) < (n : Int) := by omega
      have hk0 : (0 : Int) ≤ (k : Int) := by omega
      have hll : 2 ≤ ((x.1.drop 5).drop (2 * k)).length := by rw [List.length_drop, hl5]; omega
      have hlm : ((x.1.drop 5).drop (2 * k)).length ≤ 140737488355328 := by rw [List.length_drop, hl5]; omega
      obtain ⟨m, hm⟩ : ∃ m, leN (((x.1.drop 5).drop (2 * k)).take 2) = m := ⟨_, rfl⟩
      have hm6 : m < 65536 := by rw [← hm]; exact leN_two _
      have hx : ts[k]? = some (m : Int) := by
        rw [← Hts.out, numsAt, List.getElem?_map, List.getElem?_range hlt, Option.map_some, ← hm, numAt, List.drop_drop]
      have Hx := Lib.hid hx
      have Hm := Lib.hid hm
      clear hm hx
      go_wp2_with fail
      refine (num2 wr g _ HC.out hll hlm).mono ?_
      rintro e w4 ⟨rfl, hc4, hg4⟩
      rw [List.drop_drop, show 2 * k + 2 = 2 * (k + 1) by omega] at hc4
      rw [Hm.out]
      have HR4 := HR.out.keep hg4 (fun e => by injection e with e; omega)
      have HX4 := Lib.hid (HX.out.keep hg4 (fun e => by injection e with e; omega))
      have hNs : N ≤ wr.heap.size := by have := HX.out.lt; omega
      have HB4 := below_grown HB.out hg4 (by omega) hNs
      have hNs4 : N ≤ w4.heap.size := by have := hg4.size; omega
      have hlen : k < (partI ts k n).length := by rw [partI_length Hlen.out hk]; exact hlt
      clear HR HC HX HB hll hlm Hm hg4 hNs
      go_wp2_with ((with_reducible refine at_store 3 ?_); refine store_field rfl _ _ rfl G k m (by first | rfl | go_simp) (by first | rfl | go_simp) HR4 hlen ?_)
      intro w5 hr5 hg5 hs5
      rw [partI_set Hlen.out Hx.out] at hr5
      have HR5 := Lib.hid hr5
      have HC5 := Lib.hid (hc4.grown_above hg5 (by omega))
      have HX5 := Lib.hid (HX4.out.keep hg5 (fun e => by injection e with e; omega))
      have HB5 := Lib.hid (below_grown HB4 hg5 (by omega) hNs4)
      clear HR4 hc4 HX4 HB4 hr5 hg5 hs5 hlen hNs4
      go_wp2_with fail
      go_roundw
      case rel => exact ⟨k + 1, by omega, by go_num, HR5, HC5, HX5, HB5⟩
      case measure => simp [intOf]; omega
    · obtain rfl : k = n := by omega
      have he : partI ts k k = ts.map iv := by simp [partI, Hlen.out]
      have HR3 := Lib.hid (he ▸ HR.out)
      clear HR he HC
      have hRl := HR3.out.lt
      have hNl := HX.out.lt
      go_wp2_with fail
      obtain ⟨wd, hwd⟩ : ∃ wd, wr.drew = wd := ⟨_, rfl⟩
      have hSc : Below wd.heap.size wd wr.drew := by rw [hwd]; exact Below.refl _ _
      have hRd : RowV wr.drew G 3 (ts.map iv) := HR3.out.drew
      have hXd : RowV wr.drew N 23 x.cs := HX.out.drew
      have hBd : Below N w wr.drew := HB.out.drew
      have hGs : G < wr.drew.heap.size := hRl
      have hNs : N < wr.drew.heap.size := hNl
      rw [hwd] at hRd hXd hBd hGs hNs
      clear HR3 HX HB hRl hNl
      refine wp_region_held_drew (S := fun W => Below wd.heap.size wd W) (by kernel_rfl) hSc (fun hHeld => ?_)
      rw [hwd] at hSc hHeld ⊢
      clear hwd
      have szS := sec_size x
      refine wpAnyH_take (i := 0) (oi := ⟨_, _, _, _, _, _⟩) (v := ?_) rfl (by kernel_rfl) (by kernel_rfl) (by kernel_rfl) (fun _ _ _ h => h) (Or.inl ⟨by rfl, ?_⟩) (by assumption) ?_
      rotate_left
      · intro W hSW; go_simp; try with_reducible rfl
      try simp only [Act.put, List.setIfInBounds_toArray, List.set_cons_zero, List.set_cons_succ]
      refine wpAnyH_take (i := 3) (oi := ⟨_, _, _, _, _, _⟩) (v := ?_) rfl (by kernel_rfl) (by kernel_rfl) (by kernel_rfl) (fun _ _ _ h => h) (Or.inl ⟨by rfl, ?_⟩) (by assumption) ?_
      rotate_left
      · intro W hSW; refine exec_load_row 23 (.tmp 1) ?_ N ?_ _ (hXd.below hNs hSW) Try.underlying23 rfl szS <;> rfl
      try simp only [Act.put, List.setIfInBounds_toArray, List.set_cons_zero, List.set_cons_succ]
      refine wpAnyH_ready (rs := [1]) (by kernel_rfl) (by simp) ?_
      refine AllReadyH.cons (o := ⟨_, _, _, _, _, _⟩) rfl (fun K hK => ?_) AllReadyH.nil
      go_simp
      refine (jblanks_any wd _ _ k k ts (LiesV.of_row hRd) Hlen.out (Nat.le_refl _) (by omega)).mono ?_
      rintro e wx1 ⟨rfl, hrb, hb1⟩
      try simp only []
      have hS1 := hSc.trans (hb1.mono hSc.size)
      refine hK.out _ _ hS1 (fun hHeld => ?_)
      clear hK K hSc
      have hSc := hS1
      clear hS1
      try simp only [Act.put, List.setIfInBounds_toArray, List.set_cons_zero, List.set_cons_succ]
      refine wpAnyH_ready (rs := [2]) (by kernel_rfl) (by simp) ?_
      refine AllReadyH.cons (o := ⟨_, _, _, _, _, _⟩) rfl (fun K hK => ?_) AllReadyH.nil
      go_simp
      refine (jhead_any wx1 _ _ k k (blanks ts) (LiesV.of_row hrb) (by rw [blanks_length]; exact Hlen.out) (Nat.le_refl _) (by omega)).mono ?_
      rintro e wx2 ⟨rfl, hb2⟩
      try simp only []
      have hS2 := hSc.trans (hb2.mono hSc.size)
      refine hK.out _ _ hS2 (fun hHeld => ?_)
      clear hK K hSc
      have hSc := hS2
      clear hS2
      try simp only [Act.put, List.setIfInBounds_toArray, List.set_cons_zero, List.set_cons_succ]
      rw [blanks_map] at *
      refine wpAnyH_take (i := 4) (oi := ⟨_, _, _, _, _, _⟩) (v := .bool (!decide (headS ts = x))) rfl (by kernel_rfl) (by kernel_rfl) (by kernel_rfl) (fun _ _ _ h => h) (Or.inl ⟨by rfl, ?_⟩) (by assumption) ?_
      · intro W hSW; exact exec_neq_sec (.tmp 35) (.tmp 36) 23 rfl (headS ts) x rfl rfl
      try simp only [Act.put, List.setIfInBounds_toArray, List.set_cons_zero, List.set_cons_succ]
      refine wpAnyH_done (by kernel_rfl) ?_ _
      have hBe := hBd.trans (hSc.mono (by omega))
      have hRe := LiesV.of_row (hRd.below hGs hSc)
      have Hc := Lib.hid (show numsAt x.1 5 (cnt x) = ts by rw [Hcn.out]; exact Hts.out)
      by_cases hh : headS ts = x
      · have ht := Lib.hid (show targetsS x = some ts by rw [targets_some (by rw [Hcn.out]; omega) (by rw [Hcn.out]; omega) (by rw [Hc.out]; exact hh), Hc.out])
        rw [decide_eq_true hh]
        go_wp2_with fail
        go_ret2
        rw [ht.out]
        exact ⟨_, rfl, ⟨_, _, by rw [← Hlen.out]; rfl, hRe⟩, by first | exact hBe | (rw [hN]; exact hBe)⟩
      · have ht := Lib.hid (targets_none (x := x) (.inr (.inr (by rw [Hc.out]; exact hh))))
        rw [decide_eq_false hh]
        go_wp2_with fail
        go_ret2
        rw [ht.out]
        exact ⟨_, rfl, rfl, by first | exact hBe | (rw [hN]; exact hBe)⟩
end Go.Proofs.Ytgkmbnmelepenaa
namespace Go.Proofs.Ytgkmbnmelepenaa
open Go.RowKit
set_option linter.unusedVariables false
set_option linter.unusedSimpArgs false

/-- The journal of the disks of the laws. -/
def y0 : Jl := ⟨12, 13, 12, 28⟩
theorem y0_ok : y0.Ok := ⟨by decide, by decide, by decide, by decide, by decide⟩
theorem y0_head : y0.head = 12 := rfl
theorem y0_room : y0.room = 12 := rfl
theorem parts0_length : (partsL 1 2 2 2 3).length = 28 := by rw [partsL_length]
theorem hb_ : Nm.head_.b.toList = [104, 101, 97, 100] := by kernel_rfl
theorem bb_ : Nm.body_.b.toList = [98, 111, 100, 121] := by kernel_rfl
theorem sb_ : Nm.slot_.b.toList = [115, 108, 111, 116] := by kernel_rfl
theorem parts0_low {k : Nat} (h : 2 ≤ k) (h2 : k < 12) : ∃ m, (partsL 1 2 2 2 3)[k]? = some m ∧ (m.b.toList == [104, 101, 97, 100]) = false ∧ (m.b.toList == [98, 111, 100, 121]) = false ∧ (m.b.toList == [115, 108, 111, 116]) = false := by
  have : ∀ k, k < 12 → 2 ≤ k → ∃ m, (partsL 1 2 2 2 3)[k]? = some m ∧ m ≠ .head_ ∧ m ≠ .body_ ∧ m ≠ .slot_ := by decide
  obtain ⟨m, h1, a, b, c⟩ := this k h2 h
  exact ⟨m, h1, beq_eq_false_iff_ne.2 fun e => a (Nm.b_inj (e.trans hb_.symm)), beq_eq_false_iff_ne.2 fun e => b (Nm.b_inj (e.trans bb_.symm)), beq_eq_false_iff_ne.2 fun e => c (Nm.b_inj (e.trans sb_.symm))⟩
theorem parts0_high {k : Nat} (h : 12 ≤ k) (h2 : k < 28) : ∃ m, (partsL 1 2 2 2 3)[k]? = some m ∧ ((m.b.toList == [104, 101, 97, 100]) = true ∨ ((m.b.toList == [104, 101, 97, 100]) = false ∧ (m.b.toList == [98, 111, 100, 121]) = true) ∨ ((m.b.toList == [104, 101, 97, 100]) = false ∧ (m.b.toList == [98, 111, 100, 121]) = false ∧ (m.b.toList == [115, 108, 111, 116]) = true)) := by
  have : ∀ k, k < 28 → 12 ≤ k → ∃ m, (partsL 1 2 2 2 3)[k]? = some m ∧ (m = .head_ ∨ (m ≠ .head_ ∧ m = .body_) ∨ (m ≠ .head_ ∧ m ≠ .body_ ∧ m = .slot_)) := by decide
  obtain ⟨m, h1, hm⟩ := this k h2 h
  refine ⟨m, h1, ?_⟩
  rcases hm with rfl | ⟨a, rfl⟩ | ⟨a, b, rfl⟩
  · exact .inl (beq_iff_eq.2 hb_)
  · exact .inr (.inl ⟨beq_eq_false_iff_ne.2 fun e => a (Nm.b_inj (e.trans hb_.symm)), beq_iff_eq.2 bb_⟩)
  · exact .inr (.inr ⟨beq_eq_false_iff_ne.2 fun e => a (Nm.b_inj (e.trans hb_.symm)), beq_eq_false_iff_ne.2 fun e => b (Nm.b_inj (e.trans bb_.symm)), beq_iff_eq.2 sb_⟩)
end Go.Proofs.Ytgkmbnmelepenaa
