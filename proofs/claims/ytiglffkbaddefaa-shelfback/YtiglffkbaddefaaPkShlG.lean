/-
  Layer 6: the contract of the reference's SameImage.
  Layer 12: rows of sectors that are read; the contracts of slices.Equal at sectors and of the reference's SameImage, whatever the rows lie in.
-/
import Derived.Test.YtiglffkbaddefaaRows
import Derived.Test.YtiglffkbaddefaaPkTabQ
import Derived.Test.YtiglffkbaddefaaPkSlot
import Derived.Test.YtiglffkbaddefaaPkSecZ
import Derived.StillTailTactics
import Derived.Test.YtiglffkbaddefaaPkArrEq
import Derived.Lib.Hide
import Derived.Test.YtiglffkbaddefaaPkMemV
namespace Go.Proofs.Ytiglffkbaddefaa
open Go.RowKit Go.Maps
set_option linter.unusedVariables false

theorem Try.cells5' : Try.prog.cellsOf 5 = 1 := by kernel_rfl
theorem Try.guardS : Try.prog.eqGuardType Try.prog.depth 43 = false := by kernel_rfl
theorem take_ne {α : Type} {l m : List α} {k : Nat} {a b : α} (h1 : l[k]? = some a) (h2 : m[k]? = some b) (h : a ≠ b) : l ≠ m := by
  rintro rfl
  rw [h1] at h2
  injection h2 with h2
  exact h h2

set_option maxRecDepth 100000 in
set_option maxHeartbeats 8000000 in
theorem rdsame_any (w : World) (b1 b2 : Nat) (v1 v2 : Value) (ss tt : List Sec) (h1 : w.ownsRow b1 43 256 v1 ss.length (secs ss)) (h2 : w.ownsRow b2 43 256 v2 tt.length (secs tt)) (hn : ss.length ≤ 1000000) :
    Calls Try.prog 13 #[v1, v2] w fun e w' => e = .returned (.bool (decide (ss = tt))) ∧ Below w.heap.size w w' := by
  by_cases hlen : ss.length = tt.length
  · obtain ⟨A1, c1, rfl, _, _⟩ := own_slice h1
    obtain ⟨A2, c2, rfl, _, _⟩ := own_slice h2
    rw [← hlen] at h2
    have H1 := Lib.hid h1
    have H2 := Lib.hid h2
    rw [← hlen]
    have Hlen := Lib.hid hlen
    clear h1 h2 hlen
    generalize hN : ss.length = n at *
    have HN := Lib.hid hN
    clear hN
    have hne : ((n : Int) != (n : Int)) = false := by simp
    go_enter Try.func13, Try.ntmps13
    go_wp2_with fail
    go_loopw [5] (fun v W => ∃ k : Nat, k ≤ n ∧ v = .int .i64 k ∧ Hid (∀ j, j < k → ss[j]? = tt[j]?) ∧ Hid (Below w.heap.size w W)) (fun v _ => n - (intOf v).toNat)
    case atStart => exact ⟨0, Nat.zero_le _, rfl, Lib.hid (by intro j hj; omega), Lib.hid (Below.refl _ _)⟩
    case round =>
      obtain ⟨k, hkn, rfl, Hsame, HB⟩ := hrel
      by_cases hlt : k < n
      · obtain ⟨a, ha⟩ : ∃ a, ss[k]? = some a := ⟨_, List.getElem?_eq_getElem (by rw [HN.out]; omega)⟩
        obtain ⟨b, hb⟩ : ∃ b, tt[k]? = some b := ⟨_, List.getElem?_eq_getElem (by rw [← Hlen.out]; omega)⟩
        have k1 := own_below H1.out HB.out
        have k2 := own_below H2.out HB.out
        obtain ⟨g1, c1', e1, _, _, _, _⟩ := own_form k1 (by omega)
        obtain ⟨g2, c2', e2, _, _, _, _⟩ := own_form k2 (by omega)
        injection e1 with e1 _ e3
        injection e2 with e2 _ e4
        subst e1 e2 e3 e4
        have r1 : wr.drew.rangeAt g1 (k * 256) a.cs := sec_range k1.drew ha
        have r2 : wr.drew.rangeAt g2 (k * 256) b.cs := sec_range k2.drew hb
        have hlt' : (k : Int) < (n : Int) := by omega
        have hk0 : (0 : Int) ≤ (k : Int) := by omega
        have S1 := Lib.hid (sec_size a)
        have S2 := Lib.hid (sec_size b)
        clear k1 k2
        go_wp2_with fail
        refine wp_region_still_lit (by kernel_rfl) (by kernel_rfl) ?_
        iterate 3 still_step
        refine wpStill_exec (.agg a.cs.toArray) rfl ?_ ?_
        · refine exec_load_mid 43 (.tmp 19) ?_ g1 (k * 256) ?_ a.cs _ r1 Try.underlying43 rfl S1.out <;> rfl
        try simp only [Act.put, List.setIfInBounds_toArray, List.set_cons_zero, List.set_cons_succ]
        iterate 3 still_step
        refine wpStill_exec (.agg b.cs.toArray) rfl ?_ ?_
        · refine exec_load_mid 43 (.tmp 23) ?_ g2 (k * 256) ?_ b.cs _ r2 Try.underlying43 rfl S2.out <;> rfl
        try simp only [Act.put, List.setIfInBounds_toArray, List.set_cons_zero, List.set_cons_succ]
        refine wpStill_exec (.bool (!(a.1 == b.1))) rfl ?_ ?_
        · refine exec_neqB 43 (.tmp 20) (.tmp 24) 43 ?_ Try.underlying43 Try.underlying5 Try.cells5' Try.guardS (xs := a.1) (ys := b.1) ?_ ?_ a.2 b.2 <;> rfl
        try simp only [Act.put, List.setIfInBounds_toArray, List.set_cons_zero, List.set_cons_succ]
        refine wpStill_nil ?_
        change Exit.then _ _ _ _ wr.drew
        have hB1 := HB.out.drew
        generalize wr.drew = w1 at *
        have Hab : Hid ((a.1 == b.1) = decide (a = b)) := by
          show _ = _
          rw [Bool.eq_iff_iff]
          simp only [beq_iff_eq, decide_eq_true_eq]
          exact ⟨fun h => Subtype.ext h, fun h => by rw [h]⟩
        rw [Hab.out]
        by_cases hab : a = b
        · subst hab
          have hd : decide (a = a) = true := by simp
          rw [hd]
          go_wp2_with fail
          go_roundw
          case rel =>
            refine ⟨k + 1, by omega, rfl, Lib.hid ?_, Lib.hid hB1⟩
            intro j hj
            rcases Nat.lt_succ_iff_lt_or_eq.1 hj with h | rfl
            · exact Hsame.out j h
            · rw [ha, hb]
          case measure => show n - (k + 1) < n - k; omega
        · have hd : decide (a = b) = false := by simp [hab]
          rw [hd]
          have Hne := Lib.hid (take_ne ha hb hab)
          go_wp2_with fail
          go_ret
          exact ⟨by simp [Hne.out], hB1⟩
      · obtain rfl : k = n := by omega
        have He : Hid (ss = tt) := by
          show _ = _
          apply List.ext_getElem?
          intro j
          by_cases hj : j < k
          · exact Hsame.out j hj
          · rw [List.getElem?_eq_none (by rw [HN.out]; omega), List.getElem?_eq_none (by rw [← Hlen.out]; omega)]
        go_wp2_with fail
        go_ret
        exact ⟨by simp [He.out], HB.out⟩
  · obtain ⟨A1, c1, rfl, _, _⟩ := own_slice h1
    obtain ⟨A2, c2, rfl, _, _⟩ := own_slice h2
    have Hne : Hid (decide (ss = tt) = false) := by
      show _ = _
      simp
      rintro rfl
      exact hlen rfl
    have hne : ((ss.length : Int) != (tt.length : Int)) = true := by rw [bne_iff_ne]; omega
    clear h1 h2
    go_enter Try.func13, Try.ntmps13
    go_wp2_with fail
    go_ret
    exact ⟨by rw [Hne.out]; rfl, Below.refl _ _⟩
end Go.Proofs.Ytiglffkbaddefaa
namespace Go.Proofs.Ytiglffkbaddefaa
open Go.RowKit
set_option linter.unusedVariables false
set_option linter.unusedSimpArgs false

theorem lies_sec {w : World} {B : Nat} {A : Option Addr} {l : List Sec} (h : LiesV w B A (secs l)) {i : Nat} {e : Sec} (hi : l[i]? = some e) : ∃ b o, A = some ⟨b, o, none⟩ ∧ b < B ∧ w.rangeAt b (o + i * 256) e.cs := by
  have hlt := (List.getElem?_eq_some_iff.1 hi).1
  obtain ⟨b, o, hA, hb, hc⟩ := h (fun e0 => by have := congrArg List.length e0; rw [secs_length] at this; simp only [List.length_nil] at this; omega)
  refine ⟨b, o, hA, hb, fun j v hj => ?_⟩
  have hj34 := (List.getElem?_eq_some_iff.1 hj).1
  rw [Sec.cs_length] at hj34
  have := hc (i * 256 + j) v (by rw [secs, flat_get Sec.cs_length hi j hj34]; exact hj)
  rw [Nat.add_assoc]
  exact this
theorem lies_ownS {w : World} {base n : Nat} {v : Value} {l : List Sec} (h : w.ownsRow base 43 256 v n (secs l)) : ∃ A c, v = .slice A n c ∧ n = l.length ∧ n ≤ c ∧ c ≤ maxLen ∧ LiesV w w.heap.size A (secs l) := by
  have hn : n = l.length := by have := h.1; rw [secs_length] at this; omega
  rcases h.2 with ⟨rfl, h0⟩ | ⟨g, cap, cur, rfl, hb, hg, hnc, hm, _, _⟩
  · have hx : l = [] := List.eq_nil_of_length_eq_zero (by omega)
    subst hx
    exact ⟨none, 0, by rw [h0], hn, by omega, by simp, LiesV.nil _ _ _⟩
  · refine ⟨some ⟨g, 0, none⟩, cap, rfl, hn, hnc, hm, fun _ => ⟨g, 0, rfl, (Array.getElem?_eq_some_iff.1 hg).1, fun i x hi => ?_⟩⟩
    have := h.cells (g := g) rfl i _ hi
    rw [Addr.add_lit] at this
    exact this

set_option maxRecDepth 100000 in
set_option maxHeartbeats 4000000 in
theorem equal12_any (w : World) (B n c n' c' : Nat) (A A' : Option Addr) (l l' : List Sec) (h : LiesV w B A (secs l)) (h' : LiesV w B A' (secs l')) (hn : n = l.length) (hn' : n' = l'.length) (hB : B ≤ w.heap.size) (hle : n ≤ 1000000) (hle' : n' ≤ 9223372036854775807) (hc : n ≤ c) (hc' : n' ≤ c') :
    Calls Try.prog 36 #[.slice A n c, .slice A' n' c'] w fun r w' => r = .returned (.bool (decide (l = l'))) ∧ Below w.heap.size w w' := by
  have HL := Lib.hid h
  have HL' := Lib.hid h'
  have Hn := Lib.hid hn
  have Hn' := Lib.hid hn'
  clear h h' hn hn'
  by_cases hnn : n = n'
  · subst hnn
    go_enter Try.func36, Try.ntmps36
    go_wp2_with fail
    go_loopw [13] (fun v W => ∃ k : Nat, k ≤ n ∧ v = .int .i64 k ∧ Hid (l.take k = l'.take k) ∧ Hid (Below w.heap.size w W)) (fun v _ => n - (intOf v).toNat)
    case atStart => exact ⟨0, Nat.zero_le _, rfl, by show _ = _; simp, Below.refl _ _⟩
    case round =>
      obtain ⟨k, hk, rfl, HK, HB⟩ := hrel
      by_cases hlt : k < n
      · have hlt' : (k : Int) < (n : Int) := by omega
        have hk0 : (0 : Int) ≤ (k : Int) := by omega
        obtain ⟨e, he⟩ : ∃ e, l[k]? = some e := ⟨_, List.getElem?_eq_getElem (by rw [← Hn.out]; exact hlt)⟩
        obtain ⟨f, hf⟩ : ∃ f, l'[k]? = some f := ⟨_, List.getElem?_eq_getElem (by rw [← Hn'.out]; exact hlt)⟩
        obtain ⟨b1, o1, hA1, hb1, hr1⟩ := lies_sec (HL.out.below (HB.out.mono hB)) he
        obtain ⟨b2, o2, hA2, hb2, hr2⟩ := lies_sec (HL'.out.below (HB.out.mono hB)) hf
        subst hA1 hA2
        have r1 : Hid (wr.drew.rangeAt b1 (o1 + k * 256) e.cs) := hr1
        have r2 : Hid (wr.drew.rangeAt b2 (o2 + k * 256) f.cs) := hr2
        have S1 := Lib.hid (sec_size e)
        have S2 := Lib.hid (sec_size f)
        have He := Lib.hid he
        have Hf := Lib.hid hf
        have E1 : Hid ((e.1 == f.1) = decide (e = f)) := by
          show _ = _
          rw [Bool.eq_iff_iff]
          simp only [beq_iff_eq, decide_eq_true_eq]
          exact ⟨fun h => Subtype.ext h, fun h => by rw [h]⟩
        clear hr1 hr2 he hf
        go_wp2_with fail
        refine wp_region_still_lit (by kernel_rfl) (by kernel_rfl) ?_
        iterate 3 still_step
        refine wpStill_exec (.agg e.cs.toArray) rfl (by refine exec_load_mid 43 (.tmp 18) ?_ b1 (o1 + k * 256) ?_ e.cs _ r1.out Try.underlying43 rfl S1.out <;> rfl) ?_
        try simp only [Act.put, List.setIfInBounds_toArray, List.set_cons_zero, List.set_cons_succ]
        iterate 3 still_step
        refine wpStill_exec (.agg f.cs.toArray) rfl (by refine exec_load_mid 43 (.tmp 22) ?_ b2 (o2 + k * 256) ?_ f.cs _ r2.out Try.underlying43 rfl S2.out <;> rfl) ?_
        try simp only [Act.put, List.setIfInBounds_toArray, List.set_cons_zero, List.set_cons_succ]
        refine wpStill_exec (.bool (!(e.1 == f.1))) rfl (by refine exec_neqB 43 (.tmp 19) (.tmp 23) 43 ?_ Try.underlying43 Try.underlying5 Try.cells5' Try.guardS (xs := e.1) (ys := f.1) ?_ ?_ e.2 f.2 <;> rfl) ?_
        try simp only [Act.put, List.setIfInBounds_toArray, List.set_cons_zero, List.set_cons_succ]
        refine wpStill_nil ?_
        change Exit.then _ _ _ _ wr.drew
        rw [E1.out]
        have HBd : Hid (Below w.heap.size w wr.drew) := HB.out.drew
        generalize wr.drew = wd at *
        by_cases hef : e = f
        · rw [decide_eq_true hef]
          have HK1 : Hid (l.take (k + 1) = l'.take (k + 1)) := by
            show _ = _
            obtain ⟨a1, a2⟩ := List.getElem?_eq_some_iff.1 He.out
            obtain ⟨b1, b2⟩ := List.getElem?_eq_some_iff.1 Hf.out
            rw [List.take_succ_eq_append_getElem a1, List.take_succ_eq_append_getElem b1, HK.out, a2, b2, hef]
          clear HB
          go_wp2_with fail
          go_roundw
          case rel => exact ⟨k + 1, by omega, by go_num, HK1, HBd⟩
          case measure => simp [intOf]; omega
        · rw [decide_eq_false hef]
          have Hne : Hid (decide (l = l') = false) := by
            refine decide_eq_false fun h0 => hef ?_
            have h1 := He.out
            rw [h0, Hf.out] at h1
            exact (Option.some.inj h1).symm
          clear HB
          go_wp2_with fail
          go_ret
          exact ⟨by rw [Hne.out]; rfl, HBd.out⟩
      · obtain rfl : k = n := by omega
        have Hyes : Hid (decide (l = l') = true) := by
          refine decide_eq_true ?_
          have := HK.out
          rw [List.take_of_length_le (by rw [← Hn.out]; exact Nat.le_refl _), List.take_of_length_le (by rw [← Hn'.out]; exact Nat.le_refl _)] at this
          exact this
        go_wp2_with fail
        go_ret
        exact ⟨by rw [Hyes.out]; rfl, HB.out⟩
  · have Hne : Hid (decide (l = l') = false) := by
      refine decide_eq_false fun h0 => hnn ?_
      rw [Hn.out, Hn'.out, h0]
    have hd : ((n : Int) == (n' : Int)) = false := by rw [beq_eq_false_iff_ne]; omega
    go_enter Try.func36, Try.ntmps36
    go_wp2_with fail
    go_ret
    exact ⟨by rw [Hne.out]; rfl, Below.refl _ _⟩

set_option maxRecDepth 100000 in
set_option maxHeartbeats 4000000 in
theorem rsame12_any (w : World) (B n c n' c' : Nat) (A A' : Option Addr) (l l' : List Sec) (h : LiesV w B A (secs l)) (h' : LiesV w B A' (secs l')) (hn : n = l.length) (hn' : n' = l'.length) (hB : B ≤ w.heap.size) (hle : n ≤ 1000000) (hle' : n' ≤ 9223372036854775807) (hc : n ≤ c) (hc' : n' ≤ c') :
    Calls Try.prog 13 #[.slice A n c, .slice A' n' c'] w fun r w' => r = .returned (.bool (decide (l = l'))) ∧ Below w.heap.size w w' := by
  have HL := Lib.hid h
  have HL' := Lib.hid h'
  have Hn := Lib.hid hn
  have Hn' := Lib.hid hn'
  clear h h' hn hn'
  by_cases hnn : n = n'
  · subst hnn
    go_enter Try.func13, Try.ntmps13
    go_wp2_with fail
    go_loopw [5] (fun v W => ∃ k : Nat, k ≤ n ∧ v = .int .i64 k ∧ Hid (l.take k = l'.take k) ∧ Hid (Below w.heap.size w W)) (fun v _ => n - (intOf v).toNat)
    case atStart => exact ⟨0, Nat.zero_le _, rfl, by show _ = _; simp, Below.refl _ _⟩
    case round =>
      obtain ⟨k, hk, rfl, HK, HB⟩ := hrel
      by_cases hlt : k < n
      · have hlt' : (k : Int) < (n : Int) := by omega
        have hk0 : (0 : Int) ≤ (k : Int) := by omega
        obtain ⟨e, he⟩ : ∃ e, l[k]? = some e := ⟨_, List.getElem?_eq_getElem (by rw [← Hn.out]; exact hlt)⟩
        obtain ⟨f, hf⟩ : ∃ f, l'[k]? = some f := ⟨_, List.getElem?_eq_getElem (by rw [← Hn'.out]; exact hlt)⟩
        obtain ⟨b1, o1, hA1, hb1, hr1⟩ := lies_sec (HL.out.below (HB.out.mono hB)) he
        obtain ⟨b2, o2, hA2, hb2, hr2⟩ := lies_sec (HL'.out.below (HB.out.mono hB)) hf
        subst hA1 hA2
        have r1 : Hid (wr.drew.rangeAt b1 (o1 + k * 256) e.cs) := hr1
        have r2 : Hid (wr.drew.rangeAt b2 (o2 + k * 256) f.cs) := hr2
        have S1 := Lib.hid (sec_size e)
        have S2 := Lib.hid (sec_size f)
        have He := Lib.hid he
        have Hf := Lib.hid hf
        have E1 : Hid ((e.1 == f.1) = decide (e = f)) := by
          show _ = _
          rw [Bool.eq_iff_iff]
          simp only [beq_iff_eq, decide_eq_true_eq]
          exact ⟨fun h => Subtype.ext h, fun h => by rw [h]⟩
        clear hr1 hr2 he hf
        go_wp2_with fail
        refine wp_region_still_lit (by kernel_rfl) (by kernel_rfl) ?_
        iterate 3 still_step
        refine wpStill_exec (.agg e.cs.toArray) rfl (by refine exec_load_mid 43 (.tmp 19) ?_ b1 (o1 + k * 256) ?_ e.cs _ r1.out Try.underlying43 rfl S1.out <;> rfl) ?_
        try simp only [Act.put, List.setIfInBounds_toArray, List.set_cons_zero, List.set_cons_succ]
        iterate 3 still_step
        refine wpStill_exec (.agg f.cs.toArray) rfl (by refine exec_load_mid 43 (.tmp 23) ?_ b2 (o2 + k * 256) ?_ f.cs _ r2.out Try.underlying43 rfl S2.out <;> rfl) ?_
        try simp only [Act.put, List.setIfInBounds_toArray, List.set_cons_zero, List.set_cons_succ]
        refine wpStill_exec (.bool (!(e.1 == f.1))) rfl (by refine exec_neqB 43 (.tmp 20) (.tmp 24) 43 ?_ Try.underlying43 Try.underlying5 Try.cells5' Try.guardS (xs := e.1) (ys := f.1) ?_ ?_ e.2 f.2 <;> rfl) ?_
        try simp only [Act.put, List.setIfInBounds_toArray, List.set_cons_zero, List.set_cons_succ]
        refine wpStill_nil ?_
        change Exit.then _ _ _ _ wr.drew
        rw [E1.out]
        have HBd : Hid (Below w.heap.size w wr.drew) := HB.out.drew
        generalize wr.drew = wd at *
        by_cases hef : e = f
        · rw [decide_eq_true hef]
          have HK1 : Hid (l.take (k + 1) = l'.take (k + 1)) := by
            show _ = _
            obtain ⟨a1, a2⟩ := List.getElem?_eq_some_iff.1 He.out
            obtain ⟨b1, b2⟩ := List.getElem?_eq_some_iff.1 Hf.out
            rw [List.take_succ_eq_append_getElem a1, List.take_succ_eq_append_getElem b1, HK.out, a2, b2, hef]
          clear HB
          go_wp2_with fail
          go_roundw
          case rel => exact ⟨k + 1, by omega, by go_num, HK1, HBd⟩
          case measure => simp [intOf]; omega
        · rw [decide_eq_false hef]
          have Hne : Hid (decide (l = l') = false) := by
            refine decide_eq_false fun h0 => hef ?_
            have h1 := He.out
            rw [h0, Hf.out] at h1
            exact (Option.some.inj h1).symm
          clear HB
          go_wp2_with fail
          go_ret
          exact ⟨by rw [Hne.out]; rfl, HBd.out⟩
      · obtain rfl : k = n := by omega
        have Hyes : Hid (decide (l = l') = true) := by
          refine decide_eq_true ?_
          have := HK.out
          rw [List.take_of_length_le (by rw [← Hn.out]; exact Nat.le_refl _), List.take_of_length_le (by rw [← Hn'.out]; exact Nat.le_refl _)] at this
          exact this
        go_wp2_with fail
        go_ret
        exact ⟨by rw [Hyes.out]; rfl, HB.out⟩
  · have Hne : Hid (decide (l = l') = false) := by
      refine decide_eq_false fun h0 => hnn ?_
      rw [Hn.out, Hn'.out, h0]
    have hd : ((n : Int) == (n' : Int)) = false := by rw [beq_eq_false_iff_ne]; omega
    go_enter Try.func13, Try.ntmps13
    go_wp2_with fail
    go_ret
    exact ⟨by rw [Hne.out]; rfl, Below.refl _ _⟩
end Go.Proofs.Ytiglffkbaddefaa
