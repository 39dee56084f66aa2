/-
  Layer 6: the contracts of the reference's Crash and SameImage.
-/
import Derived.Test.YtamjkmelfpdhiaaDiskRw
import Derived.Laws.AppendOwnNone
namespace Go.Proofs.Ytamjkmelfpdhiaa
open Go.RowKit Go.Maps
set_option linter.unusedVariables false

set_option maxRecDepth 100000 in
set_option maxHeartbeats 8000000 in
theorem rcrash_any (w : World) (base : Nat) (vl vw : Value) (d : Dk) (A : Option Addr) (c : Nat) (keep : List Bool) (hk : d.Ok) (hl : LiesV w w.heap.size A (keep.map Value.bool)) (hm : keep.length ≤ 1000000) (hb : base ≤ w.heap.size) (h : Ref w base vl vw d) :
    Calls Try.prog 28 #[.agg (rc vl vw d).toArray, .slice A keep.length c] w fun e w' => ∃ vl' vw', e = .returned (.tuple #[.agg (rc vl' vw' (d.crash keep).1).toArray, .int .i64 (d.crash keep).2]) ∧ Ref w' base vl' vw' (d.crash keep).1 ∧ Below w.heap.size w w' ∧ Newer w vl vl' ∧ Newer w vw vw' := by
  have o1 := own_one h.last
  have o2 := own_one h.wait
  have HR := Lib.hid h
  have Hk := Lib.hid hk
  have Hl := Lib.hid hl
  clear h hk hl
  go_enter Try.func28, Try.ntmps28
  go_wp2_with ((with_reducible refine at_box 32 ?_); refine wpList_box_rowV rfl 32 _ rfl (rc vl vw d) rfl ?_)
  intro w1 hr1 hb1 hs1
  go_wp2_with ((with_reducible refine at_alloc 32 ?_); refine wpList_alloc_rowV rfl 32 rfl rc0 Try.zeroR ?_)
  intro w2 hr2 hb2 hs2
  have hr12 := hr1.below (by omega) hb2
  go_wp2_with ((with_reducible refine at_load 32 ?_); refine wpList_load_row rfl 32 _ rfl (w.heap.size) rfl 32 (rc vl vw d).toArray (0, 0) _ hr12 Try.underlying32 rfl (rc_size _ rfl) ?_)
  have hB2 : Below w.heap.size w w2 := hb1.trans (hb2.mono (by omega))
  refine (rsettle_any w2 base vl vw d A c keep false Hk.out ((Hl.out.below hB2).le hB2.size) hm (HR.out.below hB2)).mono ?_
  rintro e w3 ⟨vl', rfl, ho3, hb3⟩
  rw [sel_kept] at ho3
  rw [sel_kept]
  have ov := own_one ho3
  have hr23 := hr2.below (by omega) hb3
  have hB3 : Below w.heap.size w w3 := hB2.trans (hb3.mono (by omega))
  have hsz3 : w.heap.size + 1 < w3.heap.size := by have := hb3.size; omega
  have Hv : Hid (∀ e, [vl', .slice none 0 0, e, .int .i64 (-1), .bool false] = ([vl', .slice none 0 0, e, .int .i64 (-1), .bool false] : List Value)) := fun _ => rfl
  generalize hd' : ({ d with dur := Dk.settle d.dur (Dk.kept keep d.wait), wait := [] } : Dk) = d' at *
  go_wp2_with ((with_reducible refine at_alloc 32 ?_); refine wpList_alloc_rowV rfl 32 rfl rc0 Try.zeroR ?_)
  intro w4 hr4 hb4 hs4
  go_wp2_with ((with_reducible refine at_store 32 ?_); refine wpList_store_rowV rfl 32 _ _ rfl (w3.heap.size) (rc vl' (.slice none 0 0) d') rfl rfl 32 (rc0) hr4 (rc_size _ rfl) rfl (rc_all ov rfl) ?_)
  intro w5 hr5 hg5 hs5
  have hr25 := (hr23.below (by omega) hb4).keep hg5 (by intro e; injection e with e; omega)
  have hB5 : Below w.heap.size w w5 := below_grown (hB3.trans (hb4.mono (by omega))) hg5 (by omega) (by omega)
  have ho5 := (own_below ho3 hb4).kept hg5 (.inr (by intro e; have := (ho3.lt _ e).2; omega))
  have f4 := hr5.free 4
  have g4 := hr5.cell (i := 4) rfl
  have f3 := hr5.free 3
  have g3 := hr5.cell (i := 3) rfl
  generalize hM : w3.heap.size = M at *
  have hr6 := (hr5.setCell 4 (.bool false)).setCell 3 (.int .i64 (-1))
  have hgg := gset (i := 3) (gset (i := 4) (World.grownBy.refl w5 (some M)) (.bool false)) (.int .i64 (-1))
  have hr26 := hr25.keep hgg (by intro e; injection e with e; omega)
  have hB6 := below_grown hB5 hgg (by omega) hB5.size
  have ho6 := ho5.kept hgg (.inr (by intro e; have := (ho3.lt _ e).2; omega))
  have H6 := Lib.hid hr6
  have H26 := Lib.hid hr26
  have HB6 := Lib.hid hB6
  have Ho6 := Lib.hid ho6
  clear hr6 hr26 hB6 ho6 hgg hr25 hB5 ho5
  go_wp2_with (first
    | ((with_reducible refine at_load 32 ?_); refine wpList_load_row rfl 32 _ rfl (M) rfl 32 ([vl', .slice none 0 0, .int .i64 (d'.steps : Int), .int .i64 (-1), .bool false]).toArray (0, 0) _ H6.out Try.underlying32 rfl (rc_size _ rfl) ?_)
    | ((with_reducible refine at_store 32 ?_); refine wpList_store_rowV rfl 32 _ _ rfl (w.heap.size + 1) ([vl', .slice none 0 0, .int .i64 (d'.steps : Int), .int .i64 (-1), .bool false]) rfl rfl 32 (rc0) H26.out (rc_size _ rfl) rfl (rc_all ov rfl) ?_))
  intro w9 hr9 hg9 hs9
  go_wp2_with fail
  have hlt : M < w3.heap.size ∨ True := .inr trivial
  have ho9 := Ho6.out.kept hg9 (.inr (by intro e; have := (ho3.lt _ e).1; omega))
  refine bodyPost_ret (results_cell_tmp (fn := Try.f28) rfl _ _ (w.heap.size + 1) 32 _ (0, 0) _ rfl (.int .i64 ((Dk.kept keep d.wait).length : Int)) rfl hr9 Try.underlying32 rfl (rc_size _ rfl)) rfl ⟨vl', .slice none 0 0, by rw [← hd']; rfl, ⟨?_, World.ownsRow_nil _ _ _ _⟩, below_grown HB6.out hg9 (by omega) HB6.out.size, Newer.of_own ho9 (by omega), Newer.nil _ _⟩
  show World.ownsRow _ _ _ _ _ (Dk.settle d.dur (Dk.kept keep d.wait)).length _
  rw [settle_length]
  exact own_rebase ho9 fun k hk => by have := (ho9.lt k hk).1; omega

theorem Try.cells5' : Try.prog.cellsOf 5 = 1 := by kernel_rfl
theorem Try.guardS : Try.prog.eqGuardType Try.prog.depth 43 = false := by kernel_rfl
theorem take_ne {α : Type} {l m : List α} {k : Nat} {a b : α} (h1 : l[k]? = some a) (h2 : m[k]? = some b) (h : a ≠ b) : l ≠ m := by
  rintro rfl
  rw [h1] at h2
  injection h2 with h2
  exact h h2

set_option maxRecDepth 100000 in
set_option maxHeartbeats 8000000 in
theorem rsame_any (w : World) (b1 b2 : Nat) (v1 v2 : Value) (ss tt : List Sec) (h1 : w.ownsRow b1 43 256 v1 ss.length (secs ss)) (h2 : w.ownsRow b2 43 256 v2 tt.length (secs tt)) (hn : ss.length ≤ 1000000) :
    Calls Try.prog 30 #[v1, v2] w fun e w' => e = .returned (.bool (decide (ss = tt))) ∧ Below w.heap.size w w' := by
  by_cases hlen : ss.length = tt.length
  · obtain ⟨A1, c1, rfl, _, _⟩ := own_slice h1
    obtain ⟨A2, c2, rfl, _, _⟩ := own_slice h2
    rw [← hlen] at h2
    have H1 := Lib.hid h1
    have H2 := Lib.hid h2
    rw [← hlen]
    have Hlen := Lib.hid hlen
    clear h1 h2 hlen
    generalize hN : ss.length = n at *
    have HN := Lib.hid hN
    clear hN
    have hne : ((n : Int) != (n : Int)) = false := by simp
    go_enter Try.func30, Try.ntmps30
    go_wp2_with fail
    go_loopw [5] (fun v W => ∃ k : Nat, k ≤ n ∧ v = .int .i64 k ∧ Hid (∀ j, j < k → ss[j]? = tt[j]?) ∧ Hid (Below w.heap.size w W)) (fun v _ => n - (intOf v).toNat)
    case atStart => exact ⟨0, Nat.zero_le _, rfl, Lib.hid (by intro j hj; omega), Lib.hid (Below.refl _ _)⟩
    case round =>
      obtain ⟨k, hkn, rfl, Hsame, HB⟩ := hrel
      by_cases hlt : k < n
      · obtain ⟨a, ha⟩ : ∃ a, ss[k]? = some a := ⟨_, List.getElem?_eq_getElem (by rw [HN.out]; omega)⟩
        obtain ⟨b, hb⟩ : ∃ b, tt[k]? = some b := ⟨_, List.getElem?_eq_getElem (by rw [← Hlen.out]; omega)⟩
        have k1 := own_below H1.out HB.out
        have k2 := own_below H2.out HB.out
        obtain ⟨g1, c1', e1, _, _, _, _⟩ := own_form k1 (by omega)
        obtain ⟨g2, c2', e2, _, _, _, _⟩ := own_form k2 (by omega)
        injection e1 with e1 _ e3
        injection e2 with e2 _ e4
        subst e1 e2 e3 e4
        have r1 : wr.drew.rangeAt g1 (k * 256) a.cs := sec_range k1.drew ha
        have r2 : wr.drew.rangeAt g2 (k * 256) b.cs := sec_range k2.drew hb
        have hlt' : (k : Int) < (n : Int) := by omega
        have hk0 : (0 : Int) ≤ (k : Int) := by omega
        have S1 := Lib.hid (sec_size a)
        have S2 := Lib.hid (sec_size b)
        clear k1 k2
        go_wp2_with fail
        refine wp_region_still_lit (by kernel_rfl) (by kernel_rfl) ?_
        iterate 3 still_step
        refine wpStill_exec (.agg a.cs.toArray) rfl ?_ ?_
        · refine exec_load_mid 43 (.tmp 19) ?_ g1 (k * 256) ?_ a.cs _ r1 Try.underlying43 rfl S1.out <;> rfl
        try simp only [Act.put, List.setIfInBounds_toArray, List.set_cons_zero, List.set_cons_succ]
        iterate 3 still_step
        refine wpStill_exec (.agg b.cs.toArray) rfl ?_ ?_
        · refine exec_load_mid 43 (.tmp 23) ?_ g2 (k * 256) ?_ b.cs _ r2 Try.underlying43 rfl S2.out <;> rfl
        try simp only [Act.put, List.setIfInBounds_toArray, List.set_cons_zero, List.set_cons_succ]
        refine wpStill_exec (.bool (!(a.1 == b.1))) rfl ?_ ?_
        · refine exec_neqB 43 (.tmp 20) (.tmp 24) 43 ?_ Try.underlying43 Try.underlying5 Try.cells5' Try.guardS (xs := a.1) (ys := b.1) ?_ ?_ a.2 b.2 <;> rfl
        try simp only [Act.put, List.setIfInBounds_toArray, List.set_cons_zero, List.set_cons_succ]
        refine wpStill_nil ?_
        change Exit.then _ _ _ _ wr.drew
        have hB1 := HB.out.drew
        generalize wr.drew = w1 at *
        have Hab : Hid ((a.1 == b.1) = decide (a = b)) := by
          show _ = _
          rw [Bool.eq_iff_iff]
          simp only [beq_iff_eq, decide_eq_true_eq]
          exact ⟨fun h => Subtype.ext h, fun h => by rw [h]⟩
        rw [Hab.out]
        by_cases hab : a = b
        · subst hab
          have hd : decide (a = a) = true := by simp
          rw [hd]
          go_wp2_with fail
          go_roundw
          case rel =>
            refine ⟨k + 1, by omega, rfl, Lib.hid ?_, Lib.hid hB1⟩
            intro j hj
            rcases Nat.lt_succ_iff_lt_or_eq.1 hj with h | rfl
            · exact Hsame.out j h
            · rw [ha, hb]
          case measure => show n - (k + 1) < n - k; omega
        · have hd : decide (a = b) = false := by simp [hab]
          rw [hd]
          have Hne := Lib.hid (take_ne ha hb hab)
          go_wp2_with fail
          go_ret
          exact ⟨by simp [Hne.out], hB1⟩
      · obtain rfl : k = n := by omega
        have He : Hid (ss = tt) := by
          show _ = _
          apply List.ext_getElem?
          intro j
          by_cases hj : j < k
          · exact Hsame.out j hj
          · rw [List.getElem?_eq_none (by rw [HN.out]; omega), List.getElem?_eq_none (by rw [← Hlen.out]; omega)]
        go_wp2_with fail
        go_ret
        exact ⟨by simp [He.out], HB.out⟩
  · obtain ⟨A1, c1, rfl, _, _⟩ := own_slice h1
    obtain ⟨A2, c2, rfl, _, _⟩ := own_slice h2
    have Hne : Hid (decide (ss = tt) = false) := by
      show _ = _
      simp
      rintro rfl
      exact hlen rfl
    have hne : ((ss.length : Int) != (tt.length : Int)) = true := by rw [bne_iff_ne]; omega
    clear h1 h2
    go_enter Try.func30, Try.ntmps30
    go_wp2_with fail
    go_ret
    exact ⟨by rw [Hne.out]; rfl, Below.refl _ _⟩
end Go.Proofs.Ytamjkmelfpdhiaa
