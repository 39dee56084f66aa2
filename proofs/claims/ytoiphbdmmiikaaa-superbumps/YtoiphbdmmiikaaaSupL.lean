/-
  The walk of the law SuperBumps.
-/
import Derived.Test.YtoiphbdmmiikaaaSupH
namespace Go.Proofs.Ytoiphbdmmiikaaa
open Go.RowKit
set_option linter.unusedVariables false
set_option linter.unusedSimpArgs false

set_option maxRecDepth 100000 in
set_option maxHeartbeats 4000000 in
theorem sbumps_easy (w : World) (s t c a m : Int) (A : Option Addr) (n cp : Nat) (v2 : Value) (h : 1073741824 < m ∨ 40 < n) :
    Calls Try.prog 5 #[.agg (pc s t c a).toArray, .int .i64 m, .slice A n cp, v2] w fun e w' => e = .returned (.bool true) ∧ Below w.heap.size w w' := by
  by_cases h1 : 1073741824 < m
  · go_enter Try.func5, Try.ntmps5
    go_wp2_with ((with_reducible refine at_box 23 ?_); refine wpList_box_rowV rfl 23 _ rfl (pc s t c a) rfl ?_)
    intro w1 rp1 hb1 hs1
    go_wp2_with fail
    refine (works08_any w1).mono ?_
    rintro e w2 ⟨rfl, hb2⟩
    go_wp2_with fail
    go_ret
    exact ⟨rfl, hb1.trans (hb2.mono (by omega))⟩
  · have h2 : 40 < n := by omega
    go_enter Try.func5, Try.ntmps5
    go_wp2_with ((with_reducible refine at_box 23 ?_); refine wpList_box_rowV rfl 23 _ rfl (pc s t c a) rfl ?_)
    intro w1 rp1 hb1 hs1
    go_wp2_with fail
    refine (works08_any w1).mono ?_
    rintro e w2 ⟨rfl, hb2⟩
    go_wp2_with fail
    go_ret
    exact ⟨rfl, hb1.trans (hb2.mono (by omega))⟩

set_option maxRecDepth 100000 in
set_option maxHeartbeats 8000000 in
theorem sbumps_any (w : World) (s t c a m : Int) (A : Option Addr) (n cp : Nat) (xs : List UInt8) (A2 : Option Addr) (c2 : Nat) (keep : List Bool) (hn : n = xs.length) (hl : Lies w w.heap.size A xs) (hl2 : LiesV w w.heap.size A2 (keep.map Value.bool)) (h1 : m ≤ 1073741824) (h2 : n ≤ 40) :
    Calls Try.prog 5 #[.agg (pc s t c a).toArray, .int .i64 m, .slice A n cp, .slice A2 keep.length c2] w fun e w' => e = .returned (.bool true) ∧ Below w.heap.size w w' := by
  have heq := eq_plan
  have Hn := Lib.hid hn
  have Hl := Lib.hid hl
  have Hl2 := Lib.hid hl2
  clear hn hl hl2
  have hd1 : ¬ 1073741824 < m := by omega
  have hd2 : ¬ 40 < n := by omega
  go_enter Try.func5, Try.ntmps5
  go_wp2_with ((with_reducible refine at_box 23 ?_); refine wpList_box_rowV rfl 23 _ rfl (pc s t c a) rfl ?_)
  intro w1 rp1 hb1 hs1
  have hz1 : w.heap.size < w1.heap.size := by omega
  clear hs1
  generalize hB0 : w.heap.size = B at *
  go_wp2_with (first
    | ((with_reducible refine at_load 23 ?_); refine load_plan rfl _ rfl B rfl rp1 ?_)
    | ((with_reducible refine at_build 29 ?_); refine wpList_build_to rfl 29 _ rfl (sbc ⟨s, t, c, a, m⟩) (by rw [Array.toList_map]; exact Try.builtS _ _ _ _ _) ?_))
  refine (sput_any w1 ⟨s, t, c, a, m⟩).mono ?_
  rintro e w2 ⟨rfl, hb2⟩
  have rp2 := rp1.below (by omega) hb2
  have hB2 : Below B w w2 := hb1.trans (hb2.mono (by omega))
  have hz2 : B < w2.heap.size := by have := hb2.size; omega
  clear rp1 hb1 hb2 hz1
  obtain ⟨x, cd0, hp⟩ : ∃ x cd, putS ⟨s, t, c, a, m⟩ = (x, cd) := ⟨_, _, rfl⟩
  rw [hp]
  have Hp := Lib.hid hp
  clear hp
  go_wp2_with ((with_reducible refine at_alloc 24 ?_); refine alloc_sec rfl rfl ?_)
  intro w3 rx3 hb3 hs3
  have rp3 := rp2.below (by omega) hb3
  have hB3 : Below B w w3 := hB2.trans (hb3.mono (by omega))
  clear hB2 hb3 rp2
  generalize hG : w2.heap.size = G at *
  clear hG
  go_wp2_with ((with_reducible refine at_store 24 ?_); refine store_sec rfl _ _ rfl G x rfl rfl rx3 (Sec.cs_length _) ?_)
  intro w4 rx4 hg4 hs4
  have rp4 := rp3.keep hg4 (fun e => by injection e with e; omega)
  have hB4 : Below B w w4 := below_grown hB3 hg4 (by omega) (by omega)
  have hz4 : G < w4.heap.size := by omega
  clear rx3 rp3 hB3 hg4 hs4 hs3
  go_wp2_with fail
  refine (dnew_any w4 9 (by omega) (by omega)).mono ?_
  rintro e w5 ⟨g, L, rfl, hD0, hb5⟩
  have hL5 : Liv w4 w4.heap.size g w5 (Dk.new 9) := ⟨⟨L, hD0⟩, hb5.size, hb5⟩
  clear hD0 hb5
  generalize hBs : w4.heap.size = base at *
  clear hBs
  cases hok : (Sb.mk s t c a m).ok
  · obtain rfl : cd0 = 2 := by have := Hp.out; rw [putS, hok] at this; injection this with _ this; exact this.symm
    go_wp2_with fail
    refine (works08_any w5).mono ?_
    rintro e w6 ⟨rfl, hb6⟩
    go_wp2_with fail
    go_ret
    exact ⟨rfl, by rw [hB0]; exact hB4.trans ((hL5.below hb6).low.mono (by omega))⟩
  · obtain ⟨rfl, rfl⟩ : (Sb.mk s t c a m).sec = x ∧ cd0 = 0 := by have := Hp.out; rw [putS, hok] at this; injection this with h1 h2; exact ⟨h1, h2.symm⟩
    have Hs0 := Lib.hid (p2_sup hok)
    have hplan := Sb.ok_iff.1 hok
    have hm0 : 0 ≤ m := hplan.2.2.2.2.1
    have Hnext : Hid (∀ m' : Int, m ≤ m' → m' ≤ m + 41 → (Sb.mk s t c a m').ok = true) := fun m' h3 h4 => Sb.ok_iff.2 ⟨hplan.1, hplan.2.1, hplan.2.2.1, hplan.2.2.2.1, by show 0 ≤ m'; omega, by show m' ≤ 1099511627776; omega⟩
    generalize (Sb.mk s t c a m).sec = x at *
    clear Hp hok hplan
    go_wp2_with ((with_reducible refine at_loadG 24 ?_); refine load_secG rfl _ rfl G rfl (rx4.below (by omega) hL5.low) ?_)
    refine (liv_write hL5 0 x p0_ok (by decide)).mono ?_
    rintro e w6 ⟨rfl, hL6⟩
    rw [p1_eq] at hL6 ⊢
    go_wp2_with fail
    refine (liv_flush hL6 (p1_ok x)).mono ?_
    rintro e w7 ⟨rfl, hL7⟩
    rw [p2_eq] at hL7 ⊢
    have HL7 := Lib.hid hL7
    have Hok7 := Lib.hid (p2_ok x)
    have Hst7 : Hid ((p2 x).steps ≤ 2) := Nat.le_refl 2
    clear hL5 hL6 hL7 rx4
    generalize p2 x = d0 at *
    go_wp2_with fail
    clear hd1 hd2
    have HB4 := Lib.hid hB4
    have HP4 := Lib.hid rp4
    clear hB4 rp4
    go_loopw [13, 14] (fun v i W => ∃ (k q : Nat) (m' : Int) (d : Dk), k ≤ n ∧ i = .int .i64 k ∧ v = .int .i64 m' ∧ m ≤ m' ∧ m' ≤ m + k ∧ Hid (Liv w4 base g W d) ∧ Hid (SupAt d ⟨s, t, c, a, m'⟩ q) ∧ Hid d.Ok ∧ Hid (d.steps ≤ 2 + 2 * k)) (fun _ i _ => n - (intOf i).toNat)
    case atStart => exact ⟨0, 0, m, d0, Nat.zero_le _, rfl, rfl, Int.le_refl _, by omega, HL7, Hs0, Hok7, Hst7⟩
    case round =>
      obtain ⟨k, q, m', d, hk, rfl, rfl, hm1, hm2, HL, Hs, Hok, Hst⟩ := hrel
      clear HL7 Hs0 Hok7 Hst7 d0
      have hBr : Below B w wr := HB4.out.trans (HL.out.low.mono (by omega))
      by_cases hlt : k < n
      · obtain ⟨b0, o0, y, hA, hb0, hy, hcell⟩ := (Hl.out.below hBr).at_ (i := k) (by rw [← Hn.out]; exact hlt)
        subst hA
        clear hy
        obtain ⟨f, hf, hf4⟩ : ∃ f : Nat, (y.toNat : Int) % 4 = (f : Int) ∧ f < 4 := ⟨y.toNat % 4, by omega, by omega⟩
        have hyl := y.toNat_lt
        have hnx := Lib.hid (Hnext.out (m' + 1) (by omega) (by omega))
        go_wp2_with fail
        rw [hf]
        clear hf hcell
        refine (liv_fuse HL.out _).mono ?_
        rintro e v1 ⟨rfl, hL1⟩
        have HL1 := Lib.hid hL1
        clear hL1 HL
        go_wp2_with fail
        refine (liv_bump Hs.out f hf4 HL1.out Hok.out Hst.out (by omega) hnx.out).mono ?_
        rintro e v2 ⟨rfl, hL2⟩
        have HL2 := Lib.hid hL2
        clear hL2 HL1
        have Hrd := Lib.hid (fun kb => round_sup Hs.out hnx.out f hf4 kb Hok.out Hst.out (by omega))
        have Hbo := Lib.hid (bumped_ok Hs.out f hf4 Hok.out Hst.out (by omega)).1
        generalize hbv : bumpV ((d.setFuse (f : Int)).bumped ⟨s, t, c, a, m'⟩ q) ⟨s, t, c, a, m'⟩ = vb
        generalize hbc : bumpC ((d.setFuse (f : Int)).bumped ⟨s, t, c, a, m'⟩ q) = cd at *
        generalize ((d.setFuse (f : Int)).bumped ⟨s, t, c, a, m'⟩ q).1 = dd at *
        clear hbv hbc Hok Hst Hs hnx
        go_wp2_with ((with_reducible refine at_alloc 29 ?_); refine alloc_sb rfl rfl ?_)
        intro v3 rs3 hb3 hs3
        generalize hG5 : v2.heap.size = G5 at *
        go_wp2_with ((with_reducible refine at_store 29 ?_); refine store_sb rfl _ _ rfl G5 vb rfl rfl rs3 rfl ?_)
        intro v4 rs4 hg4 hs4
        have HL4 := Lib.hid (HL2.out.made hG5 hb3 hg4)
        clear HL2 hb3 hg4 hG5 rs3 rs4 hs3 hs4
        have hB5 : Below B w v4 := HB4.out.trans (HL4.out.low.mono (by omega))
        by_cases hkl : k < keep.length
        · obtain ⟨kb, hkb⟩ : ∃ kb, keep[k]? = some kb := ⟨_, List.getElem?_eq_getElem hkl⟩
          obtain ⟨b2, o2, hA2, hb2, hcell2⟩ := (Hl2.out.below hB5).at_ (i := k) (v := .bool kb) (by rw [List.getElem?_map, hkb]; rfl)
          subst hA2
          clear hkb hb2
          obtain ⟨e', m2, cd', q2, he, hcd, hs2, hok2, hst2, hout⟩ := Hrd.out kb
          subst hcd
          have Hs2 := Lib.hid hs2
          have Hok2 := Lib.hid hok2
          have Hst2 := Lib.hid hst2
          have He := Lib.hid he
          clear hs2 hok2 hst2 he Hrd
          go_wp2_with fail
          clear hcell2
          refine (liv_crash HL4.out Hbo.out kb).mono ?_
          rintro e v5 ⟨rfl, hL5⟩
          rw [He.out] at hL5
          have HL5 := Lib.hid hL5
          clear hL5 He HL4 hB5
          generalize ((dd.crash [kb]).2 : Int) = nc
          go_wp2_with fail
          refine (liv_read HL5.out Hok2.out Hs2.out).mono ?_
          rintro e v6 ⟨rfl, hL6⟩
          have HL6 := Lib.hid hL6
          clear hL6 HL5
          go_wp2_with ((with_reducible refine at_alloc 29 ?_); refine alloc_sb rfl rfl ?_)
          intro v7 rs7 hb7 hs7
          generalize hG6 : v6.heap.size = G6 at *
          go_wp2_with ((with_reducible refine at_store 29 ?_); refine store_sb rfl _ _ rfl G6 ⟨s, t, c, a, m2⟩ rfl rfl rs7 rfl ?_)
          intro v8 rs8 hg8 hs8
          have HL8 := Lib.hid (HL6.out.made hG6 hb7 hg8)
          clear HL6 hb7 hg8 hG6 rs7 hs7 hs8
          have rp8 := HP4.out.below (by omega) HL8.out.low
          have cs0 := rs8.cell (i := 0) rfl
          have cs1 := rs8.cell (i := 1) rfl
          have cs2 := rs8.cell (i := 2) rfl
          have cs3 := rs8.cell (i := 3) rfl
          have cs4 := rs8.cell (i := 4) rfl
          have cp0 := rp8.cell (i := 0) rfl
          have cp1 := rp8.cell (i := 1) rfl
          have cp2 := rp8.cell (i := 2) rfl
          have cp3 := rp8.cell (i := 3) rfl
          rcases hout with ⟨rfl, rfl⟩ | ⟨rfl, rfl | rfl⟩
          · go_wp2
            go_roundw
            case rel => exact ⟨k + 1, q2, m' + 1, e', by omega, by go_num, rfl, by omega, by omega, HL8, Hs2, Hok2, by have := Hst2.out; show _ ≤ _; omega⟩
            case measure => simp [intOf]; omega
          · go_wp2
            go_roundw
            case rel => exact ⟨k + 1, q2, m2, e', by omega, by go_num, rfl, by omega, by omega, HL8, Hs2, Hok2, by have := Hst2.out; show _ ≤ _; omega⟩
            case measure => simp [intOf]; omega
          · go_wp2
            go_roundw
            case rel => exact ⟨k + 1, q2, m' + 1, e', by omega, by go_num, rfl, by omega, by omega, HL8, Hs2, Hok2, by have := Hst2.out; show _ ≤ _; omega⟩
            case measure => simp [intOf]; omega
        · have hkl2 : keep.length ≤ k := by omega
          obtain ⟨e', m2, cd', q2, he, hcd, hs2, hok2, hst2, hout⟩ := Hrd.out false
          subst hcd
          have Hs2 := Lib.hid hs2
          have Hok2 := Lib.hid hok2
          have Hst2 := Lib.hid hst2
          have He := Lib.hid he
          clear hs2 hok2 hst2 he Hrd
          go_wp2_with fail
          refine (liv_crash HL4.out Hbo.out false).mono ?_
          rintro e v5 ⟨rfl, hL5⟩
          rw [He.out] at hL5
          have HL5 := Lib.hid hL5
          clear hL5 He HL4 hB5
          generalize ((dd.crash [false]).2 : Int) = nc
          go_wp2_with fail
          refine (liv_read HL5.out Hok2.out Hs2.out).mono ?_
          rintro e v6 ⟨rfl, hL6⟩
          have HL6 := Lib.hid hL6
          clear hL6 HL5
          go_wp2_with ((with_reducible refine at_alloc 29 ?_); refine alloc_sb rfl rfl ?_)
          intro v7 rs7 hb7 hs7
          generalize hG6 : v6.heap.size = G6 at *
          go_wp2_with ((with_reducible refine at_store 29 ?_); refine store_sb rfl _ _ rfl G6 ⟨s, t, c, a, m2⟩ rfl rfl rs7 rfl ?_)
          intro v8 rs8 hg8 hs8
          have HL8 := Lib.hid (HL6.out.made hG6 hb7 hg8)
          clear HL6 hb7 hg8 hG6 rs7 hs7 hs8
          have rp8 := HP4.out.below (by omega) HL8.out.low
          have cs0 := rs8.cell (i := 0) rfl
          have cs1 := rs8.cell (i := 1) rfl
          have cs2 := rs8.cell (i := 2) rfl
          have cs3 := rs8.cell (i := 3) rfl
          have cs4 := rs8.cell (i := 4) rfl
          have cp0 := rp8.cell (i := 0) rfl
          have cp1 := rp8.cell (i := 1) rfl
          have cp2 := rp8.cell (i := 2) rfl
          have cp3 := rp8.cell (i := 3) rfl
          rcases hout with ⟨rfl, rfl⟩ | ⟨rfl, rfl | rfl⟩
          · go_wp2
            go_roundw
            case rel => exact ⟨k + 1, q2, m' + 1, e', by omega, by go_num, rfl, by omega, by omega, HL8, Hs2, Hok2, by have := Hst2.out; show _ ≤ _; omega⟩
            case measure => simp [intOf]; omega
          · go_wp2
            go_roundw
            case rel => exact ⟨k + 1, q2, m2, e', by omega, by go_num, rfl, by omega, by omega, HL8, Hs2, Hok2, by have := Hst2.out; show _ ≤ _; omega⟩
            case measure => simp [intOf]; omega
          · go_wp2
            go_roundw
            case rel => exact ⟨k + 1, q2, m' + 1, e', by omega, by go_num, rfl, by omega, by omega, HL8, Hs2, Hok2, by have := Hst2.out; show _ ≤ _; omega⟩
            case measure => simp [intOf]; omega
      · obtain rfl : k = n := by omega
        have hBr2 := hBr
        go_wp2_with fail
        refine (works08_any wr).mono ?_
        rintro e v1 ⟨rfl, hb9⟩
        go_wp2_with fail
        go_ret
        exact ⟨rfl, by rw [hB0]; exact hBr2.trans (hb9.mono (by have := HL.out.size; omega))⟩
end Go.Proofs.Ytoiphbdmmiikaaa
