/-
  Layer 6: the contract of the reference's SameImage.
-/
import Derived.Test.YtgkmbnmelepenaaRows
import Derived.Test.YtgkmbnmelepenaaPkMadeV
import Derived.Test.YtgkmbnmelepenaaPkSlot
import Derived.Test.YtgkmbnmelepenaaPkFillN
import Derived.Test.YtgkmbnmelepenaaPkArrEq
import Derived.Lib.Hide
namespace Go.Proofs.Ytgkmbnmelepenaa
open Go.RowKit Go.Maps
set_option linter.unusedVariables false

theorem Try.cells5' : Try.prog.cellsOf 5 = 1 := by kernel_rfl
theorem Try.guardS : Try.prog.eqGuardType Try.prog.depth 23 = false := by kernel_rfl
theorem take_ne {α : Type} {l m : List α} {k : Nat} {a b : α} (h1 : l[k]? = some a) (h2 : m[k]? = some b) (h : a ≠ b) : l ≠ m := by
  rintro rfl
  rw [h1] at h2
  injection h2 with h2
  exact h h2

set_option maxRecDepth 100000 in
set_option maxHeartbeats 8000000 in
theorem rdsame_any (w : World) (b1 b2 : Nat) (v1 v2 : Value) (ss tt : List Sec) (h1 : w.ownsRow b1 23 256 v1 ss.length (secs ss)) (h2 : w.ownsRow b2 23 256 v2 tt.length (secs tt)) (hn : ss.length ≤ 1000000) :
    Calls Try.prog 20 #[v1, v2] w fun e w' => e = .returned (.bool (decide (ss = tt))) ∧ Below w.heap.size w w' := by
  by_cases hlen : ss.length = tt.length
  · obtain ⟨A1, c1, rfl, _, _⟩ := own_slice h1
    obtain ⟨A2, c2, rfl, _, _⟩ := own_slice h2
    rw [← hlen] at h2
    have H1 := Lib.hid h1
    have H2 := Lib.hid h2
    rw [← hlen]
    have Hlen := Lib.hid hlen
    clear h1 h2 hlen
    generalize hN : ss.length = n at *
    have HN := Lib.hid hN
    clear hN
    have hne : ((n : Int) != (n : Int)) = false := by simp
    go_enter Try.func20, Try.ntmps20
    go_wp2_with fail
    go_loopw [5] (fun v W => ∃ k : Nat, k ≤ n ∧ v = .int .i64 k ∧ Hid (∀ j, j < k → ss[j]? = tt[j]?) ∧ Hid (Below w.heap.size w W)) (fun v _ => n - (intOf v).toNat)
    case atStart => exact ⟨0, Nat.zero_le _, rfl, Lib.hid (by intro j hj; omega), Lib.hid (Below.refl _ _)⟩
    case round =>
      obtain ⟨k, hkn, rfl, Hsame, HB⟩ := hrel
      by_cases hlt : k < n
      · obtain ⟨a, ha⟩ : ∃ a, ss[k]? = some a := ⟨_, List.getElem?_eq_getElem (by rw [HN.out]; omega)⟩
        obtain ⟨b, hb⟩ : ∃ b, tt[k]? = some b := ⟨_, List.getElem?_eq_getElem (by rw [← Hlen.out]; omega)⟩
        have k1 := own_below H1.out HB.out
        have k2 := own_below H2.out HB.out
        obtain ⟨g1, c1', e1, _, _, _, _⟩ := own_form k1 (by omega)
        obtain ⟨g2, c2', e2, _, _, _, _⟩ := own_form k2 (by omega)
        injection e1 with e1 _ e3
        injection e2 with e2 _ e4
        subst e1 e2 e3 e4
        have r1 : wr.drew.rangeAt g1 (k * 256) a.cs := sec_range k1.drew ha
        have r2 : wr.drew.rangeAt g2 (k * 256) b.cs := sec_range k2.drew hb
        have hlt' : (k : Int) < (n : Int) := by omega
        have hk0 : (0 : Int) ≤ (k : Int) := by omega
        have S1 := Lib.hid (sec_size a)
        have S2 := Lib.hid (sec_size b)
        clear k1 k2
        go_wp2_with fail
        refine wp_region_still_lit (by kernel_rfl) (by kernel_rfl) ?_
        iterate 3 still_step
        refine wpStill_exec (.agg a.cs.toArray) rfl ?_ ?_
        · refine exec_load_mid 23 (.tmp 19) ?_ g1 (k * 256) ?_ a.cs _ r1 Try.underlying23 rfl S1.out <;> rfl
        try simp only [Act.put, List.setIfInBounds_toArray, List.set_cons_zero, List.set_cons_succ]
        iterate 3 still_step
        refine wpStill_exec (.agg b.cs.toArray) rfl ?_ ?_
        · refine exec_load_mid 23 (.tmp 23) ?_ g2 (k * 256) ?_ b.cs _ r2 Try.underlying23 rfl S2.out <;> rfl
        try simp only [Act.put, List.setIfInBounds_toArray, List.set_cons_zero, List.set_cons_succ]
        refine wpStill_exec (.bool (!(a.1 == b.1))) rfl ?_ ?_
        · refine exec_neqB 23 (.tmp 20) (.tmp 24) 23 ?_ Try.underlying23 Try.underlying5 Try.cells5' Try.guardS (xs := a.1) (ys := b.1) ?_ ?_ a.2 b.2 <;> rfl
        try simp only [Act.put, List.setIfInBounds_toArray, List.set_cons_zero, List.set_cons_succ]
        refine wpStill_nil ?_
        change Exit.then _ _ _ _ wr.drew
        have hB1 := HB.out.drew
        generalize wr.drew = w1 at *
        have Hab : Hid ((a.1 == b.1) = decide (a = b)) := by
          show _ = _
          rw [Bool.eq_iff_iff]
          simp only [beq_iff_eq, decide_eq_true_eq]
          exact ⟨fun h => Subtype.ext h, fun h => by rw [h]⟩
        rw [Hab.out]
        by_cases hab : a = b
        · subst hab
          have hd : decide (a = a) = true := by simp
          rw [hd]
          go_wp2_with fail
          go_roundw
          case rel =>
            refine ⟨k + 1, by omega, rfl, Lib.hid ?_, Lib.hid hB1⟩
            intro j hj
            rcases Nat.lt_succ_iff_lt_or_eq.1 hj with h | rfl
            · exact Hsame.out j h
            · rw [ha, hb]
          case measure => show n - (k + 1) < n - k; omega
        · have hd : decide (a = b) = false := by simp [hab]
          rw [hd]
          have Hne := Lib.hid (take_ne ha hb hab)
          go_wp2_with fail
          go_ret
          exact ⟨by simp [Hne.out], hB1⟩
      · obtain rfl : k = n := by omega
        have He : Hid (ss = tt) := by
          show _ = _
          apply List.ext_getElem?
          intro j
          by_cases hj : j < k
          · exact Hsame.out j hj
          · rw [List.getElem?_eq_none (by rw [HN.out]; omega), List.getElem?_eq_none (by rw [← Hlen.out]; omega)]
        go_wp2_with fail
        go_ret
        exact ⟨by simp [He.out], HB.out⟩
  · obtain ⟨A1, c1, rfl, _, _⟩ := own_slice h1
    obtain ⟨A2, c2, rfl, _, _⟩ := own_slice h2
    have Hne : Hid (decide (ss = tt) = false) := by
      show _ = _
      simp
      rintro rfl
      exact hlen rfl
    have hne : ((ss.length : Int) != (tt.length : Int)) = true := by rw [bne_iff_ne]; omega
    clear h1 h2
    go_enter Try.func20, Try.ntmps20
    go_wp2_with fail
    go_ret
    exact ⟨by rw [Hne.out]; rfl, Below.refl _ _⟩
end Go.Proofs.Ytgkmbnmelepenaa
