/-
  Layer 15: the contracts of the reference's Find and Same.
  Layer 15: the contracts of the reference's Add and Longer.
-/
import Derived.Test.YtmcnhcbibcjgnaaPkClsH
import Derived.Test.YtmcnhcbibcjgnaaPkExecRow
import Derived.BigQuiet
import Derived.StillTailTactics
import Derived.Test.YtmcnhcbibcjgnaaPkAppV
namespace Go.Proofs.Ytmcnhcbibcjgnaa
open Go.RowKit
set_option linter.unusedVariables false
set_option linter.unusedSimpArgs false

/-- What the reference's Find answers. -/
def rfindV (l : List Cl) (s : List UInt8) : Int := match findC l s with | some i => (i : Int) | none => -1
theorem rfindV_some {l : List Cl} {s : List UInt8} {i : Nat} (h : findC l s = some i) : rfindV l s = (i : Int) := by unfold rfindV; rw [h]
theorem rfindV_none {l : List Cl} {s : List UInt8} (h : findC l s = none) : rfindV l s = -1 := by unfold rfindV; rw [h]
theorem findC_here {l : List Cl} {s : List UInt8} {k : Nat} {c : Cl} (h : ∀ j < k, ∀ d, l[j]? = some d → d.name ≠ s) (hc : l[k]? = some c) (hn : c.name = s) : findC l s = some k := by
  unfold findC
  rw [List.findIdx?_eq_some_iff_getElem]
  have hk := (List.getElem?_eq_some_iff.1 hc).1
  refine ⟨hk, ?_, fun j hj => ?_⟩
  · rw [(List.getElem?_eq_some_iff.1 hc).2]; simp [hn]
  · simp only [Bool.not_eq_true, decide_eq_false_iff_not]
    exact h j hj _ (List.getElem?_eq_getElem (by omega))
theorem findC_nowhere {l : List Cl} {s : List UInt8} (h : ∀ j < l.length, ∀ d, l[j]? = some d → d.name ≠ s) : findC l s = none := by
  unfold findC
  rw [List.findIdx?_eq_none_iff]
  intro c hc
  obtain ⟨k, hk⟩ := List.mem_iff_getElem?.1 hc
  simp only [decide_eq_false_iff_not]
  exact h k (List.getElem?_eq_some_iff.1 hk).1 c hk
theorem names_step {l : List Cl} {s : List UInt8} {k : Nat} {c : Cl} (hc : l[k]? = some c) (h : ∀ j < k, ∀ d, l[j]? = some d → d.name ≠ s) (hn : c.name ≠ s) : ∀ j < k + 1, ∀ d, l[j]? = some d → d.name ≠ s := by
  intro j hj d hd
  rcases Nat.lt_succ_iff_lt_or_eq.1 hj with h1 | rfl
  · exact h j h1 d hd
  · rw [hc] at hd
    injection hd with hd
    rw [← hd]
    exact hn

set_option maxRecDepth 100000 in
set_option maxHeartbeats 2000000 in
theorem rfind_any (w : World) (B : Nat) (A : Option Addr) (n c : Nat) (l : List Cl) (s : List UInt8) (h : LiesV w B A (clsV l)) (hn : n = l.length) (hn8 : n ≤ 1000) :
    Calls Try.prog 11 #[.slice A n c, .string ⟨s.toArray⟩] w fun e w' => e = .returned (.int .i64 (rfindV l s)) ∧ w = w' := by
  have HL := Lib.hid h
  have Hn := Lib.hid hn
  clear h hn
  go_enter Try.func11, Try.ntmps11
  go_wp2_with fail
  go_loopw [5] (fun v W => ∃ k : Nat, k ≤ n ∧ v = .int .i64 k ∧ Hid (∀ j < k, ∀ d, l[j]? = some d → d.name ≠ s) ∧ Hid (w = W)) (fun v _ => n - (intOf v).toNat)
  case atStart => exact ⟨0, Nat.zero_le _, rfl, fun j hj => absurd hj (by omega), rfl⟩
  case round =>
    obtain ⟨k, hk, rfl, HS, HW⟩ := hrel
    by_cases hlt : k < n
    · obtain ⟨d, hd⟩ : ∃ d, l[k]? = some d := ⟨_, List.getElem?_eq_getElem (by rw [← Hn.out]; exact hlt)⟩
      have hlw : LiesV wr B A (clsV l) := by rw [← HW.out]; exact HL.out
      obtain ⟨b, o, hA, hb, hrg⟩ := lies_cl hlw hd
      subst hA
      have hc0 := rc_name hrg
      have Hd := Lib.hid hd
      obtain ⟨q, hq⟩ : ∃ q, decide (d.name = s) = q := ⟨_, rfl⟩
      have hqe : (d.name == s) = q := by rw [← hq, Bool.eq_iff_iff, beq_iff_eq, decide_eq_true_eq]
      have Hq := Lib.hid hq
      clear hlw hd hrg hq
      cases q
      · have HS2 : Hid (∀ j < k + 1, ∀ d, l[j]? = some d → d.name ≠ s) := names_step Hd.out HS.out (of_decide_eq_false Hq.out)
        clear HS
        go_wp2_with fail
        go_roundw
        all_goals first
          | (simp [intOf]; omega)
          | exact ⟨k + 1, by omega, by go_num, HS2, HW⟩
      · have He := Lib.hid (rfindV_some (findC_here HS.out Hd.out (of_decide_eq_true Hq.out)))
        go_wp2_with fail
        go_ret
        exact ⟨by rw [He.out]; rfl, HW.out⟩
    · obtain rfl : k = n := by omega
      have He := Lib.hid (rfindV_none (findC_nowhere (by rw [← Hn.out]; exact HS.out)))
      go_wp2_with fail
      go_ret
      exact ⟨by rw [He.out]; rfl, HW.out⟩

theorem same_ne {l m : List Cl} {k : Nat} {c d : Cl} (hc : l[k]? = some c) (hd : m[k]? = some d) (h : c ≠ d) : l ≠ m := by
  rintro rfl
  rw [hc] at hd
  injection hd with hd
  exact h hd

set_option maxRecDepth 100000 in
set_option maxHeartbeats 4000000 in
theorem rsame15_any (w : World) (B : Nat) (A A' : Option Addr) (n c n' c' : Nat) (l m : List Cl) (h : LiesV w B A (clsV l)) (h' : LiesV w B A' (clsV m)) (hn : n = l.length) (hn' : n' = m.length) (hB : B ≤ w.heap.size) (hle : n ≤ 1000) (hle' : n' ≤ 1000) :
    Calls Try.prog 14 #[.slice A n c, .slice A' n' c'] w fun e w' => e = .returned (.bool (decide (l = m))) ∧ Below w.heap.size w w' := by
  have HL := Lib.hid h
  have HL' := Lib.hid h'
  have Hn := Lib.hid hn
  have Hn' := Lib.hid hn'
  clear h h' hn hn'
  by_cases hnn : n = n'
  · subst hnn
    go_enter Try.func14, Try.ntmps14
    go_wp2_with fail
    go_loopw [5] (fun v W => ∃ k : Nat, k ≤ n ∧ v = .int .i64 k ∧ Hid (l.take k = m.take k) ∧ Hid (Below w.heap.size w W)) (fun v _ => n - (intOf v).toNat)
    case atStart => exact ⟨0, Nat.zero_le _, rfl, by show _ = _; simp, Below.refl _ _⟩
    case round =>
      obtain ⟨k, hk, rfl, HK, HB⟩ := hrel
      by_cases hlt : k < n
      · have hlt' : (k : Int) < (n : Int) := by omega
        have hk0 : (0 : Int) ≤ (k : Int) := by omega
        obtain ⟨e, he⟩ : ∃ e, l[k]? = some e := ⟨_, List.getElem?_eq_getElem (by rw [← Hn.out]; exact hlt)⟩
        obtain ⟨f, hf⟩ : ∃ f, m[k]? = some f := ⟨_, List.getElem?_eq_getElem (by rw [← Hn'.out]; exact hlt)⟩
        obtain ⟨b1, o1, hA1, hb1, hr1⟩ := lies_cl (HL.out.below (HB.out.mono hB)) he
        obtain ⟨b2, o2, hA2, hb2, hr2⟩ := lies_cl (HL'.out.below (HB.out.mono hB)) hf
        subst hA1 hA2
        have r1 : Hid (wr.drew.rangeAt b1 (o1 + k * 4) (clv e)) := hr1
        have r2 : Hid (wr.drew.rangeAt b2 (o2 + k * 4) (clv f)) := hr2
        have S1 := Lib.hid (cl_info e)
        have S2 := Lib.hid (cl_info f)
        have He := Lib.hid he
        have Hf := Lib.hid hf
        have E1 := Lib.hid (eq_cl wr.drew e f)
        clear hr1 hr2 he hf
        go_wp2_with fail
        refine wp_region_still_lit (by kernel_rfl) (by kernel_rfl) ?_
        iterate 3 still_step
        refine wpStill_exec (.agg (clv e).toArray) rfl (by refine exec_load_mid 34 (.tmp 19) ?_ b1 (o1 + k * 4) ?_ (clv e) _ r1.out Try.underlying34 rfl S1.out <;> rfl) ?_
        try simp only [Act.put, List.setIfInBounds_toArray, List.set_cons_zero, List.set_cons_succ]
        iterate 3 still_step
        refine wpStill_exec (.agg (clv f).toArray) rfl (by refine exec_load_mid 34 (.tmp 23) ?_ b2 (o2 + k * 4) ?_ (clv f) _ r2.out Try.underlying34 rfl S2.out <;> rfl) ?_
        try simp only [Act.put, List.setIfInBounds_toArray, List.set_cons_zero, List.set_cons_succ]
        refine wpStill_exec (.bool (!(decide (e = f)))) rfl (by refine exec_neqS 34 (.tmp 20) (.tmp 24) 34 ?_ (by kernel_rfl) ?_ ?_ E1.out <;> rfl) ?_
        try simp only [Act.put, List.setIfInBounds_toArray, List.set_cons_zero, List.set_cons_succ]
        refine wpStill_nil ?_
        change Exit.then _ _ _ _ wr.drew
        have HBd : Hid (Below w.heap.size w wr.drew) := HB.out.drew
        generalize wr.drew = wd at *
        by_cases hef : e = f
        · rw [decide_eq_true hef]
          have HK1 : Hid (l.take (k + 1) = m.take (k + 1)) := by
            show _ = _
            obtain ⟨a1, a2⟩ := List.getElem?_eq_some_iff.1 He.out
            obtain ⟨b1, b2⟩ := List.getElem?_eq_some_iff.1 Hf.out
            rw [List.take_succ_eq_append_getElem a1, List.take_succ_eq_append_getElem b1, HK.out, a2, b2, hef]
          clear HB
          go_wp2_with fail
          go_roundw
          case rel => exact ⟨k + 1, by omega, by go_num, HK1, HBd⟩
          case measure => simp [intOf]; omega
        · rw [decide_eq_false hef]
          have Hne : Hid (decide (l = m) = false) := decide_eq_false (same_ne He.out Hf.out hef)
          clear HB
          go_wp2_with fail
          go_ret
          exact ⟨by rw [Hne.out]; rfl, HBd.out⟩
      · obtain rfl : k = n := by omega
        have Hyes : Hid (decide (l = m) = true) := by
          refine decide_eq_true ?_
          have := HK.out
          rw [List.take_of_length_le (by rw [← Hn.out]; exact Nat.le_refl _), List.take_of_length_le (by rw [← Hn'.out]; exact Nat.le_refl _)] at this
          exact this
        go_wp2_with fail
        go_ret
        exact ⟨by rw [Hyes.out]; rfl, HB.out⟩
  · have Hne : Hid (decide (l = m) = false) := by
      refine decide_eq_false fun h0 => hnn ?_
      rw [Hn.out, Hn'.out, h0]
    have hd : ((n : Int) == (n' : Int)) = false := by rw [beq_eq_false_iff_ne]; omega
    go_enter Try.func14, Try.ntmps14
    go_wp2_with fail
    go_ret
    exact ⟨by rw [Hne.out]; rfl, Below.refl _ _⟩
end Go.Proofs.Ytmcnhcbibcjgnaa
namespace Go.Proofs.Ytmcnhcbibcjgnaa
open Go.RowKit
set_option linter.unusedVariables false
set_option linter.unusedSimpArgs false

/-- A slice of classes, wherever it lies. -/
def Rw15 (w : World) (B : Nat) (v : Value) (l : List Cl) : Prop := ∃ A c, v = .slice A l.length c ∧ (A = none → c = 0) ∧ LiesV w B A (clsV l)
def NewV (B : Nat) (v : Value) : Prop := ∀ a n c, v = .slice (some a) n c → B ≤ a.block
theorem Rw15.below {w w' : World} {B : Nat} {v : Value} {l : List Cl} (h : Rw15 w B v l) (hb : Below B w w') : Rw15 w' B v l := by
  obtain ⟨A, c, h1, h2, h3⟩ := h
  exact ⟨A, c, h1, h2, h3.below hb⟩
theorem Rw15.le {w : World} {B B' : Nat} {v : Value} {l : List Cl} (h : Rw15 w B v l) (hb : B ≤ B') : Rw15 w B' v l := by
  obtain ⟨A, c, h1, h2, h3⟩ := h
  exact ⟨A, c, h1, h2, h3.le hb⟩
theorem lies_none {w : World} {B : Nat} {l : List Cl} (h : LiesV w B none (clsV l)) : l.length = 0 := by
  rcases Nat.eq_zero_or_pos l.length with h0 | h0
  · exact h0
  · obtain ⟨b, o, e, _⟩ := h (fun e => by have := congrArg List.length e; rw [clsV_length] at this; simp at this; omega)
    cases e
theorem Rw15.of_own {w : World} {base n : Nat} {v : Value} {l : List Cl} (h : w.ownsRow base 34 4 v n (clsV l)) : Rw15 w w.heap.size v l ∧ NewV base v := by
  have h0 := h
  obtain ⟨A, c, rfl, hn, _, _, hl, hf⟩ := lies_ownC h
  subst hn
  refine ⟨⟨A, c, rfl, fun e => ?_, hl⟩, fun a n c e => ?_⟩
  · subst e
    rcases h0.2 with ⟨e, _⟩ | ⟨g, cap, cur, e, _⟩
    · injection e
    · injection e with e; cases e
  · injection e with e
    exact hf a e
/-- What the reference answers: classes, wherever they lie: what there was, or new memory. -/
def RetRw (w : World) (v : Value) (l : List Cl) (R : List Cl × Int) (e : Ending) (w' : World) : Prop :=
  ∃ v', e = .returned (.tuple #[v', .int .i64 R.2]) ∧ Rw15 w' w'.heap.size v' R.1 ∧ Below w.heap.size w w' ∧ ((v' = v ∧ R.1 = l) ∨ NewV w.heap.size v')

set_option maxRecDepth 100000 in
set_option maxHeartbeats 4000000 in
theorem radd15_any (w : World) (B : Nat) (v : Value) (l : List Cl) (cl : Cl) (h : Rw15 w B v l) (hB : B ≤ w.heap.size) (hl8 : l.length ≤ 8) :
    Calls Try.prog 26 #[v, .agg (clv cl).toArray] w (RetRw w v l (addC l cl)) := by
  obtain ⟨A, c, rfl, hA, hl⟩ := h
  have HA : Hid (A = none → l.length = 0 ∧ c = 0) := fun e => ⟨by subst e; exact lies_none hl, hA e⟩
  have HL := Lib.hid hl
  have H0 : Hid (Rw15 w B (.slice A l.length c) l) := ⟨A, c, rfl, hA, hl⟩
  have Hl8 := Lib.hid hl8
  obtain ⟨R, hR⟩ : ∃ R, addC l cl = R := ⟨_, rfl⟩
  have HR := Lib.hid hR
  obtain ⟨n, hn⟩ : ∃ n, l.length = n := ⟨_, rfl⟩
  have Hn := Lib.hid hn
  rw [hR]
  rw [hn] at hl8 HA H0 ⊢
  clear hA hl hR hn
  go_enter Try.func26, Try.ntmps26
  go_wp2_with ((with_reducible refine at_box 34 ?_); refine box_cl rfl _ rfl cl rfl ?_)
  intro w1 hr1 hb1 hs1
  go_wp2_with ((with_reducible refine at_load 34 ?_); refine load_cl rfl _ rfl w.heap.size rfl hr1 ?_)
  refine (rcheck15_any cl w1).mono ?_
  rintro e w2 ⟨rfl, hb2⟩
  have hr2 := hr1.below hr1.lt hb2
  have HB2 : Hid (Below w.heap.size w w2) := hb1.trans (hb2.mono (by omega))
  have hz2 : w.heap.size + 1 ≤ w2.heap.size := by have := hb2.size; omega
  obtain ⟨m, hm⟩ : ∃ m, checkC 10 2 cl = m := ⟨_, rfl⟩
  have Hm := Lib.hid hm
  rw [hm]
  clear hm hr1 hb1 hb2 hs1
  have Hsame : Hid (∀ k, R = (l, k) → RetRw w (.slice A n c) l R (.returned (.tuple #[.slice A n c, .int .i64 k])) w2) := fun k e => by
    subst e
    exact ⟨_, rfl, (H0.out.below (HB2.out.mono hB)).le (by omega), HB2.out, .inl ⟨rfl, rfl⟩⟩
  by_cases h0 : m = 0
  rotate_left
  · have He : Hid (R = (l, m)) := by show _ = _; rw [← HR.out, addC_bad (by rw [Hm.out]; exact h0), Hm.out]
    go_wp2_with fail
    go_ret2
    exact Hsame.out m He.out
  subst h0
  have n0 := cl_name hr2
  go_wp2_with fail
  have hfnd := rfind_any w2 B A n c l cl.name (HL.out.below (HB2.out.mono hB)) Hn.out.symm (by omega)
  obtain ⟨f, hf⟩ : ∃ f, findC l cl.name = f := ⟨_, rfl⟩
  have Hf := Lib.hid hf
  rcases f with _ | i
  rotate_left
  · have He : Hid (R = (l, 9)) := by show _ = _; rw [← HR.out, addC_twice Hm.out Hf.out]
    rw [rfindV_some hf] at hfnd
    refine hfnd.mono ?_
    rintro e w3 ⟨rfl, rfl⟩
    clear hf hfnd
    go_wp2_with fail
    go_ret2
    exact Hsame.out 9 He.out
  rw [rfindV_none hf] at hfnd
  refine hfnd.mono ?_
  rintro e w3 ⟨rfl, rfl⟩
  clear hf hfnd n0
  by_cases h8 : 8 ≤ n
  · have He : Hid (R = (l, 7)) := by show _ = _; rw [← HR.out, addC_full Hm.out Hf.out (by rw [Hn.out]; exact h8)]
    go_wp2_with fail
    go_ret2
    exact Hsame.out 7 He.out
  have He : Hid (R = (l ++ [cl], 0)) := by show _ = _; rw [← HR.out, addC_yes Hm.out Hf.out (by rw [Hn.out]; omega)]
  have hown : w2.ownsRow (w.heap.size + 1) 34 4 (.slice none 0 0) 0 [] := World.ownsRow_nil _ _ _ _
  have hlw := HL.out.below (HB2.out.mono hB)
  go_wp2_with (at_builtin; refine wpList_append_liesV rfl _ _ 26 rfl (w.heap.size + 1) 34 Try.underlying26 Try.infoC15 rfl (by decide) _ 0 [] rfl hown A n c B (clsV l) rfl HA.out hlw (by rw [clsV_length, Hn.out]) (clsV_one _) (by unfold maxLen; omega) (by omega) hz2 ?_)
  intro v3 w3 ho3 hg3 _
  have hb3 : Below w2.heap.size w2 w3 := (Below.refl _ _).grown hg3 (Nat.le_refl _) (by simp [Value.ownBlock])
  have hr3 := hr2.below hr2.lt hb3
  have HB3 : Hid (Below w.heap.size w w3) := HB2.out.trans (hb3.mono (by omega))
  have hz3 : w.heap.size + 1 ≤ w3.heap.size := by have := hb3.size; omega
  have ho3' : w3.ownsRow (w.heap.size + 1) 34 4 v3 n (clsV l) := ho3
  clear ho3 hg3 hb3 hr2 hown hlw HB2 Hsame
  go_wp2_with first
    | ((with_reducible refine at_load 34 ?_); refine load_cl rfl _ rfl w.heap.size rfl hr3 ?_)
    | ((with_reducible refine at_buildSlice 26 ?_); refine wpList_buildSlice_oneV rfl 26 34 _ rfl (clv cl) rfl Try.underlying26 Try.infoC15 rfl (by decide) (by decide) ?_)
  intro w4 hr4 hb4 hs4
  have ho4 := own_below ho3' hb4
  have HB4 : Hid (Below w.heap.size w w4) := HB3.out.trans (hb4.mono (by omega))
  have hz4 : w.heap.size + 1 ≤ w4.heap.size := by have := hb4.size; omega
  clear hr3 ho3' HB3 hb4
  go_wp2_with (at_builtin; refine wpList_append_one rfl _ _ 26 rfl (w.heap.size + 1) 34 Try.underlying26 Try.infoC15 rfl (by decide) _ n (clsV l) rfl ho4 w3.heap.size (clv cl) rfl hr4 rfl (clv_one cl) (by unfold maxLen; omega) (by omega) hz4 ?_)
  intro v5 w5 ho5 hg5 _
  rw [← clsV_snoc] at ho5
  have HB5 : Hid (Below w.heap.size w w5) := HB4.out.grown hg5 (by omega) (fun k e => by have := own_ge ho4 k e; omega)
  have Hfin : Hid (RetRw w (.slice A n c) l R (.returned (.tuple #[v5, .int .i64 0])) w5) := by
    obtain ⟨q1, q2⟩ := Rw15.of_own ho5
    rw [He.out]
    exact ⟨v5, rfl, q1, HB5.out, .inr (fun a n c e => by have := q2 a n c e; omega)⟩
  clear ho4 ho5 hg5 hr4 HB4 HB5
  go_wp2_with fail
  go_ret2
  exact Hfin.out

set_option maxRecDepth 100000 in
set_option maxHeartbeats 4000000 in
theorem rlonger15_any (w : World) (B : Nat) (v : Value) (l : List Cl) (s : List UInt8) (p : Int) (h : Rw15 w B v l) (hB : B ≤ w.heap.size) (hok : SetOk l) :
    Calls Try.prog 25 #[v, .string ⟨s.toArray⟩, .int .i64 p] w (RetRw w v l (longC l s p)) := by
  obtain ⟨A, c, rfl, hA, hl⟩ := h
  have HA : Hid (A = none → l.length = 0 ∧ c = 0) := fun e => ⟨by subst e; exact lies_none hl, hA e⟩
  have HL := Lib.hid hl
  have H0 : Hid (Rw15 w B (.slice A l.length c) l) := ⟨A, c, rfl, hA, hl⟩
  have hl8 := hok.len
  obtain ⟨R, hR⟩ : ∃ R, longC l s p = R := ⟨_, rfl⟩
  have HR := Lib.hid hR
  obtain ⟨n, hn⟩ : ∃ n, l.length = n := ⟨_, rfl⟩
  have Hn := Lib.hid hn
  rw [hR]
  rw [hn] at hl8 HA H0 ⊢
  clear hA hl hR hn
  have Hsame : Hid (∀ k, R = (l, k) → RetRw w (.slice A n c) l R (.returned (.tuple #[.slice A n c, .int .i64 k])) w) := fun k e => by
    subst e
    exact ⟨_, rfl, H0.out.le hB, Below.refl _ _, .inl ⟨rfl, rfl⟩⟩
  have hfnd := rfind_any w B A n c l s HL.out Hn.out.symm (by omega)
  obtain ⟨f, hf⟩ : ∃ f, findC l s = f := ⟨_, rfl⟩
  have Hf := Lib.hid hf
  rcases f with _ | i
  · have He : Hid (R = (l, 8)) := by show _ = _; rw [← HR.out, longC_none Hf.out]
    rw [rfindV_none hf] at hfnd
    clear hf
    go_enter Try.func25, Try.ntmps25
    go_wp2_with fail
    refine hfnd.mono ?_
    rintro e w3 ⟨rfl, rfl⟩
    clear hfnd
    go_wp2_with fail
    go_ret2
    exact Hsame.out 8 He.out
  rw [rfindV_some hf] at hfnd
  obtain ⟨d, hd, _⟩ := findC_some hf
  have hin : i < n := by rw [← Hn.out]; exact (List.getElem?_eq_some_iff.1 hd).1
  have Hd := Lib.hid hd
  have Hpa := Lib.hid (perAt_of hd)
  obtain ⟨b, o, hA1, hb, hrg⟩ := lies_cl HL.out hd
  subst hA1
  have hper := rc_per hrg
  obtain ⟨q, hq⟩ : ∃ q, d.period = q := ⟨_, rfl⟩
  have Hq := Lib.hid hq
  rw [hq] at hper
  clear hf hd hrg hq
  go_enter Try.func25, Try.ntmps25
  go_wp2_with fail
  refine hfnd.mono ?_
  rintro e w3 ⟨rfl, rfl⟩
  clear hfnd
  by_cases h1 : p < 0
  · have He : Hid (R = (l, 2)) := by show _ = _; rw [← HR.out, longC_range Hf.out (by unfold perOk; simp; omega)]
    go_wp2_with fail
    go_ret2
    exact Hsame.out 2 He.out
  by_cases h2 : 1099511627776 < p
  · have He : Hid (R = (l, 2)) := by show _ = _; rw [← HR.out, longC_range Hf.out (by unfold perOk; simp; omega)]
    go_wp2_with fail
    go_ret2
    exact Hsame.out 2 He.out
  have Hp : Hid (perOk p = true) := by show _ = _; unfold perOk; simp; omega
  by_cases hk : p < q
  · have He : Hid (R = (l, 12)) := by show _ = _; rw [← HR.out, longC_kept Hf.out Hp.out (by rw [Hpa.out, Hq.out]; exact hk)]
    go_wp2_with fail
    go_ret2
    exact Hsame.out 12 He.out
  have He : Hid (R = (putAt l i p, 0)) := by show _ = _; rw [← HR.out, longC_yes Hf.out Hp.out (by rw [Hpa.out, Hq.out]; exact hk)]
  have hown : w.ownsRow w.heap.size 34 4 (.slice none 0 0) 0 [] := World.ownsRow_nil _ _ _ _
  have hlw := HL.out
  go_wp2_with (at_builtin; refine wpList_append_liesV rfl _ _ 26 rfl w.heap.size 34 Try.underlying26 Try.infoC15 rfl (by decide) _ 0 [] rfl hown (some ⟨b, o, none⟩) n c B (clsV l) rfl HA.out hlw (by rw [clsV_length, Hn.out]) (clsV_one _) (by unfold maxLen; omega) (by omega) (Nat.le_refl _) ?_)
  intro v3 w3 ho3 hg3 _
  have hb3 : Below w.heap.size w w3 := (Below.refl _ _).grown hg3 (Nat.le_refl _) (by simp [Value.ownBlock])
  have ho3' : w3.ownsRow w.heap.size 34 4 v3 n (clsV l) := ho3
  obtain ⟨g3, c3, hv3, hnc, hcm, hbg, hgl⟩ := own_form ho3' (by omega)
  subst hv3
  have hper3 : w3.cell? ⟨g3, i * 4 + 1, none⟩ = some (.int .i64 d.period) := by
    have := ho3'.cells (g := g3) rfl (i * 4 + 1) (.int .i64 d.period) (by
      have := flat_get (f := clv) clv_length Hd.out 1 (by omega)
      exact this)
    rwa [Addr.add_lit, Nat.zero_add] at this
  have hfz : w3.frozen? ⟨g3, i * 4 + 1, none⟩ = false := ho3'.frozenAt _
  have Hst : Hid ((w3.setCell ⟨g3, i * 4 + 1, none⟩ (.int .i64 p)).ownsRow w.heap.size 34 4 (.slice (some ⟨g3, 0, none⟩) n c3) n (clsV (putAt l i p))) := by
    show World.ownsRow _ _ _ _ _ _ _
    have := (ho3'.stored (i * 4 + 1) (.int .i64 p)).1
    rw [clsV_put Hd.out] at this
    exact this
  have HB4 : Hid (Below w.heap.size w (w3.setCell ⟨g3, i * 4 + 1, none⟩ (.int .i64 p))) := hb3.setCell hbg _
  have Hfin : Hid (RetRw w (.slice (some ⟨b, o, none⟩) n c) l R (.returned (.tuple #[.slice (some ⟨g3, 0, none⟩) n c3, .int .i64 0])) (w3.setCell ⟨g3, i * 4 + 1, none⟩ (.int .i64 p))) := by
    obtain ⟨q1, q2⟩ := Rw15.of_own Hst.out
    rw [He.out]
    exact ⟨_, rfl, q1, HB4.out, .inr q2⟩
  clear ho3 hg3 hb3 hown hlw hper Hsame ho3' hnc hcm
  go_wp2_with fail
  go_ret2
  exact Hfin.out
end Go.Proofs.Ytmcnhcbibcjgnaa
