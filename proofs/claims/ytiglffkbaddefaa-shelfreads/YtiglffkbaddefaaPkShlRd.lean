/-
  Layer 12: the contract of the law ShelfReads.
-/
import Derived.Test.YtiglffkbaddefaaPkShlJ
import Derived.Test.YtiglffkbaddefaaPkShlK
namespace Go.Proofs.Ytiglffkbaddefaa
open Go.RowKit
set_option linter.unusedVariables false
set_option linter.unusedSimpArgs false

set_option maxRecDepth 100000 in
set_option maxHeartbeats 16000000 in
theorem reads12_any (HW : Works12) (w : World) (B m c : Nat) (A : Option Addr) (l : List Sec) (h : LiesV w B A (secs l)) (hm : m = l.length) (hB : B ≤ w.heap.size) (hc : m ≤ c) :
    Calls Try.prog 4 #[.slice A m c] w fun e w' => e = .returned (.bool true) ∧ Below w.heap.size w w' := by
  have HL := Lib.hid h
  have Hm := Lib.hid hm
  have HW := Lib.hid HW
  clear h hm
  obtain ⟨N, hN⟩ : ∃ N, w.heap.size = N := ⟨_, rfl⟩
  rw [hN] at hB
  go_enter Try.func4, Try.ntmps4
  by_cases hbig : m ≤ 8
  · have hd : decide ((m : Int) > 8) = false := decide_eq_false (by omega)
    go_wp2_with fail
    refine (shget_any w B m c A l HL.out Hm.out (by omega) hc (by omega)).mono ?_
    rintro e w1 ⟨hget, hb1⟩
    have HB1 : Hid (Below N w w1) := by show Below _ _ _; rw [← hN]; exact hb1
    have HL1 : Hid (LiesV w1 B A (secs l)) := HL.out.below (hb1.mono (by omega))
    have hz1 : N ≤ w1.heap.size := by have := hb1.size; omega
    clear hb1
    by_cases h1 : 1 ≤ m
    · have hd1 : decide ((m : Int) < 1) = false := decide_eq_false (by omega)
      rcases hget with ⟨_, _, hok, b, g, c1, rfl, hT, hb, hg⟩ | ⟨_, _, hno, rfl⟩ | ⟨h, _⟩
      · have HT := Lib.hid hT
        have Hok := Lib.hid hok
        clear hT hok hb hg
        go_wp2_with fail
        refine (rread_any w1 B m c A l HL1.out Hm.out (by omega) hc (by omega) h1).mono ?_
        rintro e w2 ⟨hrd, hb2⟩
        obtain ⟨A2, c2, rfl, hc2, hl2⟩ : ∃ A c, e = .returned (.tuple #[.slice A (l.length * 6) c, .bool true]) ∧ l.length * 6 ≤ c ∧ LiesV w2 w2.heap.size A (ents (readS l)) := by
          rcases hrd with ⟨A, c, ok, h1, h2, h3, h4⟩ | ⟨h1, _⟩
          · obtain rfl := h4.2 Hok.out
            exact ⟨A, c, h1, h2, h3⟩
          · exact absurd Hok.out h1
        have HP2 := Lib.hid hl2
        have HT2 := Lib.hid (HT.out.later hb2)
        have HB2 : Hid (Below N w w2) := HB1.out.trans (hb2.mono (by omega))
        have HL2 : Hid (LiesV w2 B A (secs l)) := HL1.out.below (hb2.mono (by omega))
        have hz2 : N ≤ w2.heap.size := by have := hb2.size; omega
        have Hlen : Hid (l.length * 6 = (readS l).length) := (readS_length l).symm
        clear hrd hb2 HT HB1 HL1 hl2
        go_wp2_with fail
        refine (shput_yes w2 b g c1 l.length (readS l) HT2.out (readS_fits l)).mono ?_
        rintro e w3 ⟨v3, rfl, ho3, hb3⟩
        have HO3 := Lib.hid ho3
        have HP3 : Hid (LiesV w3 w3.heap.size A2 (ents (readS l))) := (HP2.out.below hb3).le hb3.size
        have HT3 := Lib.hid (HT2.out.later hb3)
        have HB3 : Hid (Below N w w3) := HB2.out.trans (hb3.mono (by omega))
        have HL3 : Hid (LiesV w3 B A (secs l)) := HL2.out.below (hb3.mono (by omega))
        have hz3 : N ≤ w3.heap.size := by have := hb3.size; omega
        clear hb3 ho3 HP2 HT2 HB2 HL2
        obtain ⟨A3, c3, hv3, -, -, -, -⟩ := lies_ownS HO3.out
        subst hv3
        go_wp2_with fail
        refine (tplaces_any w3 b g c1 (l.length * 6) (readS l) HT3.out).mono ?_
        rintro e w4 ⟨A4, c4, rfl, hr4, hb4⟩
        obtain ⟨A4', c4', hv4, hlen4, hcap4, hmax4, hl4⟩ := lies_ownE hr4
        injection hv4 with e1 e2 e3
        subst e1 e3
        clear e2
        have HQ4 := Lib.hid hl4
        have HO4 := Lib.hid (own_below HO3.out hb4)
        have HP4 : Hid (LiesV w4 w4.heap.size A2 (ents (readS l))) := (HP3.out.below hb4).le hb4.size
        have HB4 : Hid (Below N w w4) := HB3.out.trans (hb4.mono (by omega))
        have HL4 : Hid (LiesV w4 B A (secs l)) := HL3.out.below (hb4.mono (by omega))
        have hz4 : N ≤ w4.heap.size := by have := hb4.size; omega
        have hlm : l.length ≤ 8 := by rw [← Hm.out]; exact hbig
        clear hb4 hr4 hl4 hlen4 HO3 HP3 HT3 HB3 HL3
        go_wp2_with fail
        refine (rsame11_any w4 w4.heap.size (l.length * 6) c4 (l.length * 6) c2 A4 A2 (readS l) (readS l) HQ4.out HP4.out Hlen.out Hlen.out (Nat.le_refl _) (by omega) (by omega) hcap4 hc2).mono ?_
        rintro e w5 ⟨rfl, hb5⟩
        rw [decide_eq_true rfl]
        have HO5 := Lib.hid (own_below HO4.out hb5)
        have HB5 : Hid (Below N w w5) := HB4.out.trans (hb5.mono (by omega))
        have HL5 : Hid (LiesV w5 B A (secs l)) := HL4.out.below (hb5.mono (by omega))
        have hz5 : N ≤ w5.heap.size := by have := hb5.size; omega
        clear hb5 HO4 HP4 HB4 HL4 HQ4
        obtain ⟨A5, c5, hv5, hlen5, hcap5, hmax5, hl5⟩ := lies_ownS HO5.out
        injection hv5 with e1 e2 e3
        subst e1 e3
        clear e2
        have HQ5 := Lib.hid hl5
        have Hlen5 := Lib.hid hlen5
        have HLl : Hid (LiesV w5 w5.heap.size A (secs l)) := HL5.out.le (by omega)
        clear hl5 hlen5
        go_wp2_with fail
        refine (rsame12_any w5 w5.heap.size l.length c3 m c A3 A (shelfL (readS l) l.length) l HQ5.out HLl.out Hlen5.out Hm.out (Nat.le_refl _) (by omega) (by omega) hcap5 hc).mono ?_
        rintro e w6 ⟨rfl, hb6⟩
        rw [decide_eq_true Hok.out.2]
        have HB6 : Hid (Below N w w6) := HB5.out.trans (hb6.mono (by omega))
        have hz6 : N ≤ w6.heap.size := by have := hb6.size; omega
        clear hb6 HO5 HB5 HL5 HQ5 HLl
        go_wp2_with fail
        refine (HW.out w6).mono ?_
        rintro e w7 ⟨rfl, hb7⟩
        go_wp2_with fail
        go_ret
        exact ⟨rfl, by rw [hN]; exact HB6.out.trans (hb7.mono hz6)⟩
      · have Hno := Lib.hid hno
        clear hno
        go_wp2_with fail
        refine (rread_any w1 B m c A l HL1.out Hm.out (by omega) hc (by omega) h1).mono ?_
        rintro e w2 ⟨hrd, hb2⟩
        have HB2 : Hid (Below N w w2) := HB1.out.trans (hb2.mono (by omega))
        have hz2 : N ≤ w2.heap.size := by have := hb2.size; omega
        obtain ⟨v2, rfl⟩ : ∃ v, e = .returned (.tuple #[v, .bool false]) := by
          rcases hrd with ⟨A, c, ok, h1, h2, h3, h4⟩ | ⟨_, h1⟩
          · cases ok
            · exact ⟨_, h1⟩
            · exact absurd (h4.1 rfl) Hno.out
          · exact ⟨_, h1⟩
        clear hrd hb2 HB1 HL1
        go_wp2_with fail
        refine (HW.out w2).mono ?_
        rintro e w7 ⟨rfl, hb7⟩
        go_wp2_with fail
        go_ret
        exact ⟨rfl, by rw [hN]; exact HB2.out.trans (hb7.mono hz2)⟩
      · rw [← Hm.out] at h
        omega
    · have hd1 : decide ((m : Int) < 1) = true := decide_eq_true (by omega)
      obtain rfl : e = .returned (.tuple #[.pointer none, .int .i64 2]) := by
        rcases hget with ⟨h, _⟩ | ⟨h, _⟩ | ⟨_, h⟩
        · rw [← Hm.out] at h; omega
        · rw [← Hm.out] at h; omega
        · exact h
      clear hget
      go_wp2_with fail
      refine (HW.out w1).mono ?_
      rintro e w7 ⟨rfl, hb7⟩
      go_wp2_with fail
      go_ret
      exact ⟨rfl, by rw [hN]; exact HB1.out.trans (hb7.mono hz1)⟩
  · have hd : decide ((m : Int) > 8) = true := decide_eq_true (by omega)
    go_wp2_with fail
    refine (HW.out w).mono ?_
    rintro e w6 ⟨rfl, hb6⟩
    go_wp2_with fail
    go_ret
    exact ⟨rfl, hb6⟩
end Go.Proofs.Ytiglffkbaddefaa
