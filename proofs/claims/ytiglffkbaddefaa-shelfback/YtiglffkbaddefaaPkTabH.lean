/-
  Layer 11: '==' of two entries; rows of entries appended to; the zero entry built.
  Layer 11: the contracts of slices.Equal at entries and of the reference's Same.
-/
import Derived.Test.YtiglffkbaddefaaPkTabA
import Derived.Test.YtiglffkbaddefaaPkStrEq
import Derived.Test.YtiglffkbaddefaaPkBuildS
import Derived.Test.YtiglffkbaddefaaPkMemV
namespace Go.Proofs.Ytiglffkbaddefaa
open Go.RowKit
set_option linter.unusedVariables false

theorem part_adr (w : World) (e : Ent) : (part 30 e.cs.toArray 0).run Try.prog w = .ok (.agg (cells e.adr.1).toArray) w := by
  have hl : (cells e.adr.1).length = 32 := by rw [cells_length, e.adr.2]
  simp only [part, Sem.run_bind, Try.isAgg30, Try.sizeOf30, Result.andThen_ok, if_true, Sem.run_pure]
  congr 2
  rw [← Array.toList_inj]
  simp only [Array.toList_extract, List.toList_toArray, List.extract_eq_take_drop, List.drop_zero, Nat.zero_add, Nat.sub_zero]
  rw [Ent.cs, List.take_append_of_le_length (by omega), List.take_of_length_le (by omega)]
set_option maxRecDepth 100000 in
theorem eq_ent (w : World) (e f : Ent) : (Op.equalIn 10000 32 e.val f.val).run Try.prog w = .ok (decide (e = f)) w := by
  have h : (Op.equalIn 10000 32 e.val f.val).run Try.prog w = .ok ((e.adr.1 == f.adr.1) && ((e.slot == f.slot) && ((e.count == f.count) && true))) w := by
    unfold Ent.val
    rw [run_equalIn_struct w 9999 32 _ _ (by kernel_rfl) (by kernel_rfl)]
    simp only [Program.fieldsOf, Try.underlying32]
    refine eqF_agg 9999 rfl (part_adr w e) (part_adr w f) (run_equalIn_bytes w 9997 Try.underlying30 Try.underlying5 (by kernel_rfl) e.adr.2 f.adr.2) ?_
    exact eqF_int 9998 (by kernel_rfl) rfl (by rw [List.getElem?_toArray]; exact e.get_slot) (by rw [List.getElem?_toArray]; exact f.get_slot) (eqF_int 9998 (by kernel_rfl) rfl (by rw [List.getElem?_toArray]; exact e.get_count) (by rw [List.getElem?_toArray]; exact f.get_count) (eqF_nil _ _ _))
  rw [h]
  congr 1
  rw [Bool.eq_iff_iff]
  obtain ⟨⟨a, ha⟩, s, c⟩ := e
  obtain ⟨⟨b, hb⟩, s', c'⟩ := f
  simp
/-! ### Rows of entries that are read -/
theorem lies_ent {w : World} {B : Nat} {A : Option Addr} {l : List Ent} (h : LiesV w B A (ents l)) {i : Nat} {e : Ent} (hi : l[i]? = some e) : ∃ b o, A = some ⟨b, o, none⟩ ∧ b < B ∧ w.rangeAt b (o + i * 34) e.cs := by
  have hlt := (List.getElem?_eq_some_iff.1 hi).1
  obtain ⟨b, o, hA, hb, hc⟩ := h (fun e0 => by have := congrArg List.length e0; rw [ents_length] at this; simp only [List.length_nil] at this; omega)
  refine ⟨b, o, hA, hb, fun j v hj => ?_⟩
  have hj34 := (List.getElem?_eq_some_iff.1 hj).1
  rw [Ent.cs_length] at hj34
  have := hc (i * 34 + j) v (by rw [ents, flat_get Ent.cs_length hi j hj34]; exact hj)
  rw [Nat.add_assoc]
  exact this
theorem lies_ownE {w : World} {base n : Nat} {v : Value} {l : List Ent} (h : w.ownsRow base 32 34 v n (ents l)) : ∃ A c, v = .slice A n c ∧ n = l.length ∧ n ≤ c ∧ c ≤ maxLen ∧ LiesV w w.heap.size A (ents l) := by
  have hn : n = l.length := by have := h.1; rw [ents_length] at this; omega
  rcases h.2 with ⟨rfl, h0⟩ | ⟨g, cap, cur, rfl, hb, hg, hnc, hm, _, _⟩
  · have hx : l = [] := List.eq_nil_of_length_eq_zero (by omega)
    subst hx
    exact ⟨none, 0, by rw [h0], hn, by omega, by simp, LiesV.nil _ _ _⟩
  · refine ⟨some ⟨g, 0, none⟩, cap, rfl, hn, hnc, hm, fun _ => ⟨g, 0, rfl, (Array.getElem?_eq_some_iff.1 hg).1, fun i x hi => ?_⟩⟩
    have := h.cells (g := g) rfl i _ hi
    rw [Addr.add_lit] at this
    exact this
theorem adr_of {w : World} {b o : Nat} {e : Ent} (h : w.rangeAt b o e.cs) : w.rangeAt b o (cells e.adr.1) := fun j u hj => h j u (by
  rw [Ent.get_adr e j (by have := (List.getElem?_eq_some_iff.1 hj).1; rw [cells_length, e.adr.2] at this; exact this)]; exact hj)
theorem count_of {w : World} {b o : Nat} {e : Ent} (h : w.rangeAt b o e.cs) : w.cell? ⟨b, o + 33, none⟩ = some (.int .i64 e.count) := h 33 _ e.get_count
theorem slot_of {w : World} {b o : Nat} {e : Ent} (h : w.rangeAt b o e.cs) : w.cell? ⟨b, o + 32, none⟩ = some (.int .i64 e.slot) := h 32 _ e.get_slot
end Go.Proofs.Ytiglffkbaddefaa
namespace Go.Proofs.Ytiglffkbaddefaa
open Go.RowKit
set_option linter.unusedVariables false
set_option linter.unusedSimpArgs false

set_option maxRecDepth 100000 in
set_option maxHeartbeats 4000000 in
theorem equal11_any (w : World) (B n c n' c' : Nat) (A A' : Option Addr) (l l' : List Ent) (h : LiesV w B A (ents l)) (h' : LiesV w B A' (ents l')) (hn : n = l.length) (hn' : n' = l'.length) (hB : B ≤ w.heap.size) (hle : n ≤ 1000) (hle' : n' ≤ 9223372036854775807) (hc : n ≤ c) (hc' : n' ≤ c') :
    Calls Try.prog 54 #[.slice A n c, .slice A' n' c'] w fun r w' => r = .returned (.bool (decide (l = l'))) ∧ Below w.heap.size w w' := by
  have HL := Lib.hid h
  have HL' := Lib.hid h'
  have Hn := Lib.hid hn
  have Hn' := Lib.hid hn'
  clear h h' hn hn'
  by_cases hnn : n = n'
  · subst hnn
    go_enter Try.func54, Try.ntmps54
    go_wp2_with fail
    go_loopw [13] (fun v W => ∃ k : Nat, k ≤ n ∧ v = .int .i64 k ∧ Hid (l.take k = l'.take k) ∧ Hid (Below w.heap.size w W)) (fun v _ => n - (intOf v).toNat)
    case atStart => exact ⟨0, Nat.zero_le _, rfl, by show _ = _; simp, Below.refl _ _⟩
    case round =>
      obtain ⟨k, hk, rfl, HK, HB⟩ := hrel
      by_cases hlt : k < n
      · have hlt' : (k : Int) < (n : Int) := by omega
        have hk0 : (0 : Int) ≤ (k : Int) := by omega
        obtain ⟨e, he⟩ : ∃ e, l[k]? = some e := ⟨_, List.getElem?_eq_getElem (by rw [← Hn.out]; exact hlt)⟩
        obtain ⟨f, hf⟩ : ∃ f, l'[k]? = some f := ⟨_, List.getElem?_eq_getElem (by rw [← Hn'.out]; exact hlt)⟩
        obtain ⟨b1, o1, hA1, hb1, hr1⟩ := lies_ent (HL.out.below (HB.out.mono hB)) he
        obtain ⟨b2, o2, hA2, hb2, hr2⟩ := lies_ent (HL'.out.below (HB.out.mono hB)) hf
        subst hA1 hA2
        have r1 : Hid (wr.drew.rangeAt b1 (o1 + k * 34) e.cs) := hr1
        have r2 : Hid (wr.drew.rangeAt b2 (o2 + k * 34) f.cs) := hr2
        have S1 := Lib.hid (ent_size e)
        have S2 := Lib.hid (ent_size f)
        have He := Lib.hid he
        have Hf := Lib.hid hf
        have E1 := Lib.hid (eq_ent wr.drew e f)
        clear hr1 hr2 he hf
        go_wp2_with fail
        refine wp_region_still_lit (by kernel_rfl) (by kernel_rfl) ?_
        iterate 3 still_step
        refine wpStill_exec (.agg e.cs.toArray) rfl (by refine exec_load_mid 32 (.tmp 18) ?_ b1 (o1 + k * 34) ?_ e.cs _ r1.out Try.underlying32 rfl S1.out <;> rfl) ?_
        try simp only [Act.put, List.setIfInBounds_toArray, List.set_cons_zero, List.set_cons_succ]
        iterate 3 still_step
        refine wpStill_exec (.agg f.cs.toArray) rfl (by refine exec_load_mid 32 (.tmp 22) ?_ b2 (o2 + k * 34) ?_ f.cs _ r2.out Try.underlying32 rfl S2.out <;> rfl) ?_
        try simp only [Act.put, List.setIfInBounds_toArray, List.set_cons_zero, List.set_cons_succ]
        refine wpStill_exec (.bool (!(decide (e = f)))) rfl (by refine exec_neqS 32 (.tmp 19) (.tmp 23) 32 ?_ (by kernel_rfl) ?_ ?_ E1.out <;> rfl) ?_
        try simp only [Act.put, List.setIfInBounds_toArray, List.set_cons_zero, List.set_cons_succ]
        refine wpStill_nil ?_
        change Exit.then _ _ _ _ wr.drew
        have HBd : Hid (Below w.heap.size w wr.drew) := HB.out.drew
        generalize wr.drew = wd at *
        by_cases hef : e = f
        · rw [decide_eq_true hef]
          have HK1 : Hid (l.take (k + 1) = l'.take (k + 1)) := by
            show _ = _
            obtain ⟨a1, a2⟩ := List.getElem?_eq_some_iff.1 He.out
            obtain ⟨b1, b2⟩ := List.getElem?_eq_some_iff.1 Hf.out
            rw [List.take_succ_eq_append_getElem a1, List.take_succ_eq_append_getElem b1, HK.out, a2, b2, hef]
          clear HB
          go_wp2_with fail
          go_roundw
          case rel => exact ⟨k + 1, by omega, by go_num, HK1, HBd⟩
          case measure => simp [intOf]; omega
        · rw [decide_eq_false hef]
          have Hne : Hid (decide (l = l') = false) := by
            refine decide_eq_false fun h0 => hef ?_
            have h1 := He.out
            rw [h0, Hf.out] at h1
            exact (Option.some.inj h1).symm
          clear HB
          go_wp2_with fail
          go_ret
          exact ⟨by rw [Hne.out]; rfl, HBd.out⟩
      · obtain rfl : k = n := by omega
        have Hyes : Hid (decide (l = l') = true) := by
          refine decide_eq_true ?_
          have := HK.out
          rw [List.take_of_length_le (by rw [← Hn.out]; exact Nat.le_refl _), List.take_of_length_le (by rw [← Hn'.out]; exact Nat.le_refl _)] at this
          exact this
        go_wp2_with fail
        go_ret
        exact ⟨by rw [Hyes.out]; rfl, HB.out⟩
  · have Hne : Hid (decide (l = l') = false) := by
      refine decide_eq_false fun h0 => hnn ?_
      rw [Hn.out, Hn'.out, h0]
    have hd : ((n : Int) == (n' : Int)) = false := by rw [beq_eq_false_iff_ne]; omega
    go_enter Try.func54, Try.ntmps54
    go_wp2_with fail
    go_ret
    exact ⟨by rw [Hne.out]; rfl, Below.refl _ _⟩

set_option maxRecDepth 100000 in
set_option maxHeartbeats 4000000 in
theorem rsame11_any (w : World) (B n c n' c' : Nat) (A A' : Option Addr) (l l' : List Ent) (h : LiesV w B A (ents l)) (h' : LiesV w B A' (ents l')) (hn : n = l.length) (hn' : n' = l'.length) (hB : B ≤ w.heap.size) (hle : n ≤ 1000) (hle' : n' ≤ 9223372036854775807) (hc : n ≤ c) (hc' : n' ≤ c') :
    Calls Try.prog 16 #[.slice A n c, .slice A' n' c'] w fun r w' => r = .returned (.bool (decide (l = l'))) ∧ Below w.heap.size w w' := by
  have HL := Lib.hid h
  have HL' := Lib.hid h'
  have Hn := Lib.hid hn
  have Hn' := Lib.hid hn'
  clear h h' hn hn'
  by_cases hnn : n = n'
  · subst hnn
    go_enter Try.func16, Try.ntmps16
    go_wp2_with fail
    go_loopw [5] (fun v W => ∃ k : Nat, k ≤ n ∧ v = .int .i64 k ∧ Hid (l.take k = l'.take k) ∧ Hid (Below w.heap.size w W)) (fun v _ => n - (intOf v).toNat)
    case atStart => exact ⟨0, Nat.zero_le _, rfl, by show _ = _; simp, Below.refl _ _⟩
    case round =>
      obtain ⟨k, hk, rfl, HK, HB⟩ := hrel
      by_cases hlt : k < n
      · have hlt' : (k : Int) < (n : Int) := by omega
        have hk0 : (0 : Int) ≤ (k : Int) := by omega
        obtain ⟨e, he⟩ : ∃ e, l[k]? = some e := ⟨_, List.getElem?_eq_getElem (by rw [← Hn.out]; exact hlt)⟩
        obtain ⟨f, hf⟩ : ∃ f, l'[k]? = some f := ⟨_, List.getElem?_eq_getElem (by rw [← Hn'.out]; exact hlt)⟩
        obtain ⟨b1, o1, hA1, hb1, hr1⟩ := lies_ent (HL.out.below (HB.out.mono hB)) he
        obtain ⟨b2, o2, hA2, hb2, hr2⟩ := lies_ent (HL'.out.below (HB.out.mono hB)) hf
        subst hA1 hA2
        have r1 : Hid (wr.drew.rangeAt b1 (o1 + k * 34) e.cs) := hr1
        have r2 : Hid (wr.drew.rangeAt b2 (o2 + k * 34) f.cs) := hr2
        have S1 := Lib.hid (ent_size e)
        have S2 := Lib.hid (ent_size f)
        have He := Lib.hid he
        have Hf := Lib.hid hf
        have E1 := Lib.hid (eq_ent wr.drew e f)
        clear hr1 hr2 he hf
        go_wp2_with fail
        refine wp_region_still_lit (by kernel_rfl) (by kernel_rfl) ?_
        iterate 3 still_step
        refine wpStill_exec (.agg e.cs.toArray) rfl (by refine exec_load_mid 32 (.tmp 19) ?_ b1 (o1 + k * 34) ?_ e.cs _ r1.out Try.underlying32 rfl S1.out <;> rfl) ?_
        try simp only [Act.put, List.setIfInBounds_toArray, List.set_cons_zero, List.set_cons_succ]
        iterate 3 still_step
        refine wpStill_exec (.agg f.cs.toArray) rfl (by refine exec_load_mid 32 (.tmp 23) ?_ b2 (o2 + k * 34) ?_ f.cs _ r2.out Try.underlying32 rfl S2.out <;> rfl) ?_
        try simp only [Act.put, List.setIfInBounds_toArray, List.set_cons_zero, List.set_cons_succ]
        refine wpStill_exec (.bool (!(decide (e = f)))) rfl (by refine exec_neqS 32 (.tmp 20) (.tmp 24) 32 ?_ (by kernel_rfl) ?_ ?_ E1.out <;> rfl) ?_
        try simp only [Act.put, List.setIfInBounds_toArray, List.set_cons_zero, List.set_cons_succ]
        refine wpStill_nil ?_
        change Exit.then _ _ _ _ wr.drew
        have HBd : Hid (Below w.heap.size w wr.drew) := HB.out.drew
        generalize wr.drew = wd at *
        by_cases hef : e = f
        · rw [decide_eq_true hef]
          have HK1 : Hid (l.take (k + 1) = l'.take (k + 1)) := by
            show _ = _
            obtain ⟨a1, a2⟩ := List.getElem?_eq_some_iff.1 He.out
            obtain ⟨b1, b2⟩ := List.getElem?_eq_some_iff.1 Hf.out
            rw [List.take_succ_eq_append_getElem a1, List.take_succ_eq_append_getElem b1, HK.out, a2, b2, hef]
          clear HB
          go_wp2_with fail
          go_roundw
          case rel => exact ⟨k + 1, by omega, by go_num, HK1, HBd⟩
          case measure => simp [intOf]; omega
        · rw [decide_eq_false hef]
          have Hne : Hid (decide (l = l') = false) := by
            refine decide_eq_false fun h0 => hef ?_
            have h1 := He.out
            rw [h0, Hf.out] at h1
            exact (Option.some.inj h1).symm
          clear HB
          go_wp2_with fail
          go_ret
          exact ⟨by rw [Hne.out]; rfl, HBd.out⟩
      · obtain rfl : k = n := by omega
        have Hyes : Hid (decide (l = l') = true) := by
          refine decide_eq_true ?_
          have := HK.out
          rw [List.take_of_length_le (by rw [← Hn.out]; exact Nat.le_refl _), List.take_of_length_le (by rw [← Hn'.out]; exact Nat.le_refl _)] at this
          exact this
        go_wp2_with fail
        go_ret
        exact ⟨by rw [Hyes.out]; rfl, HB.out⟩
  · have Hne : Hid (decide (l = l') = false) := by
      refine decide_eq_false fun h0 => hnn ?_
      rw [Hn.out, Hn'.out, h0]
    have hd : ((n : Int) == (n' : Int)) = false := by rw [beq_eq_false_iff_ne]; omega
    go_enter Try.func16, Try.ntmps16
    go_wp2_with fail
    go_ret
    exact ⟨by rw [Hne.out]; rfl, Below.refl _ _⟩
end Go.Proofs.Ytiglffkbaddefaa
