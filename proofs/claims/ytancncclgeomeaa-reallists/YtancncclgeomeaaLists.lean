/-
  The walk of the law RealLists.
-/
import Derived.Test.YtancncclgeomeaaWorks4
import Derived.OwnWalk
namespace Go.Proofs.Ytancncclgeomeaa
open Go.RowKit
set_option linter.unusedVariables false

def cellsU (l : List Nat) : List Value := l.map fun b : Nat => Value.int .u64 (b : Int)
theorem cellsU_get {l : List Nat} {i x : Nat} (h : l[i]? = some x) : (cellsU l)[i]? = some (.int .u64 (x : Int)) := by simp [cellsU, h]
theorem cellsF_one (l : List Nat) : ∀ u ∈ cellsF l, u.oneCell' = true := by
  intro u hu
  simp only [cellsF, List.mem_map] at hu
  obtain ⟨x, _, rfl⟩ := hu
  rfl

theorem infoF : (Try.prog.info? 23).map (fun i => (i.zero, i.size, i.bytes)) = some (some (.float .f64 0), 1, 8) := by kernel_rfl

/-- Clamp's answer lies within. -/
theorem clamp_lt {x lo hi : Nat} (hx : x < 18446744073709551616) (hl : lo < 18446744073709551616) (hh : hi < 18446744073709551616) : clampF x lo hi < 18446744073709551616 := by
  unfold clampF
  split
  · decide
  · split
    · exact hl
    · split
      · exact hh
      · exact hx
theorem same_self (a : Nat) : sameF a a = true := by
  unfold sameF
  cases isNan a <;> simp
theorem cmpR_self (a : Nat) : cmpR a a = 0 := by
  unfold cmpR
  rw [if_neg (by omega), if_pos rfl]
theorem clamp_in {x lo hi : Nat} (hx : x < 18446744073709551616) (hl : lo < 18446744073709551616) (hh : hi < 18446744073709551616) :
    isNan (clampF x lo hi) = true ∨ (isNan (clampF x lo hi) = false ∧ decide (cmpR lo (clampF x lo hi) ≤ 0) = true ∧ decide (cmpR (clampF x lo hi) hi ≤ 0) = true) := by
  cases hn : isNan (clampF x lo hi)
  · right
    refine ⟨rfl, ?_⟩
    have n0 : isNan 9221120237041090561 = true := by decide
    unfold clampF at hn ⊢
    split at hn
    · rw [n0] at hn
      cases hn
    · rename_i h1
      rw [if_neg h1]
      have h1' : ¬ 0 < cmpR lo hi := by
        intro h
        apply h1
        rw [decide_eq_true h, Bool.or_true]
      have c1 := cmpR_neg lo x
      have c2 := cmpR_neg x hi
      split
      · rw [decide_eq_true_iff, decide_eq_true_iff, cmpR_self]
        omega
      · split
        · rw [decide_eq_true_iff, decide_eq_true_iff, cmpR_self]
          omega
        · rename_i h2 h3
          rw [decide_eq_true_iff] at h2 h3
          rw [decide_eq_true_iff, decide_eq_true_iff]
          omega
  · exact .inl rfl

set_option maxHeartbeats 2000000 in
set_option maxRecDepth 100000 in
theorem rlists_any (A : Option Addr) (n c : Nat) (l : List Nat) (x lo hi : Nat) (w : World) (B : Nat) (h : LiesV w B A (cellsU l)) (hB : B ≤ w.heap.size) (h64 : W64 l) (hn : n = l.length) (hnl : n ≤ 9223372036854775807)
    (hx : x < 18446744073709551616) (hl : lo < 18446744073709551616) (hh : hi < 18446744073709551616) :
    Calls Try.prog 6 #[.slice A n c, .int .u64 (x : Int), .int .u64 (lo : Int), .int .u64 (hi : Int)] w fun e w' => e = .returned (.bool true) ∧ Below w.heap.size w w' := by
  obtain ⟨i0, hi0, hz0, hz1, hz2⟩ := info_parts infoF
  have hxx := run_ofBits
  have Hn := Lib.hid hn
  have Hl := Lib.hid h
  have H6 := Lib.hid h64
  clear hn h h64
  by_cases h100 : 100 < n
  · go_enter Try.func6, Try.ntmps6
    go_wp2_with fail
    refine (works04_any w).mono ?_
    rintro e w1 ⟨rfl, hb1⟩
    go_wp2
    go_ret
    exact ⟨rfl, hb1⟩
  go_enter Try.func6, Try.ntmps6
  go_wp2_with fail
  go_loopw [9, 10] (fun v i W => ∃ j : Nat, j ≤ n ∧ i = .int .i64 j ∧ W.ownsRow w.heap.size 23 1 v j (cellsF (l.take j)) ∧ Below w.heap.size w W) (fun _ i _ => n - (intOf i).toNat)
  case atStart => exact ⟨0, Nat.zero_le _, rfl, World.ownsRow_nil _ _ _ _, Below.refl _ _⟩
  case round =>
    obtain ⟨j, hj, hi', hown, hb⟩ := hrel
    subst hi'
    by_cases hlt : j < n
    · obtain ⟨x1, hx1⟩ : ∃ x, l[j]? = some x := ⟨_, List.getElem?_eq_getElem (by rw [← Hn.out]; exact hlt)⟩
      obtain ⟨b, o, rfl, hbB, hc⟩ := Hl.out.at_ (cellsU_get hx1)
      have hcell := (hb.cell (p := ⟨b, o + j, none⟩) (Nat.lt_of_lt_of_le hbB hB)).trans hc
      have HS : Hid (cellsF (l.take (j + 1)) = cellsF (l.take j) ++ [Value.float .f64 x1]) := by
        show _ = _
        have hi := (List.getElem?_eq_some_iff.1 hx1).1
        rw [List.take_succ_eq_append_getElem hi, cellsF_append, (List.getElem?_eq_some_iff.1 hx1).2]
        rfl
      clear hx1 hc
      have ho' := hown.alloc (.cells #[Value.float .f64 x1] 23)
      have hl' := (LiesV.lit wr #[Value.float .f64 x1] 23 (wr.heap.size + 1) (by omega)).cells rfl
      have hb'' := hb.alloc hb.size (.cells #[Value.float .f64 x1] 23)
      have hs'' := hb''.size
      go_wp2_with (at_builtin; refine wpList_append_own _ rfl _ _ 40 rfl w.heap.size 23 i0 (.float .f64 0) 1 8 Try.underlying40 hi0 hz0 hz1 hz2 rfl (by decide) _ j _ rfl ho' ⟨wr.heap.size, 0, none⟩ 1 1 [.float .f64 x1] rfl rfl hl' (cellsF_one [x1]) ?c3 ?c4 hs'' ?_)
      case c3 => unfold maxLen; omega
      case c4 => omega
      intro v2 w2 hown3 hg3 _
      rw [← HS.out] at hown3
      have hb3 := hb''.grown hg3 hs'' (own_ge ho')
      clear ho' hl' hcell
      go_wp2_with fail
      go_roundw
      case rel => exact ⟨j + 1, by omega, by go_num, hown3, hb3⟩
      case measure => simp [intOf]; omega
    · obtain rfl : n = j := by omega
      have HX : Hid (l.take n = l) := by
        show _ = _
        rw [Hn.out, List.take_length]
      rw [HX.out] at hown
      obtain ⟨A2, c2, rfl, hlen, _, _, hL⟩ := LiesV.of_own hown
      rw [cellsF_length] at hlen
      rw [cellsF_length, ← hlen]
      have HL := Lib.hid hL
      clear hown hL hlen
      have hct := clamp_lt hx hl hh
      have Hci := Lib.hid (clamp_in hx hl hh)
      go_wp2_with fail
      refine (span_any A2 n c2 l wr wr.heap.size HL.out H6.out Hn.out hnl).mono ?_
      rintro e w1 ⟨rfl, rfl⟩
      go_wp2_with fail
      refine (rleast_any A2 n c2 l wr wr.heap.size HL.out H6.out Hn.out hnl).mono ?_
      rintro e w1 ⟨rfl, rfl⟩
      go_wp2_with fail
      refine (sameF_any _ _ wr).mono ?_
      rintro e w1 ⟨rfl, rfl⟩
      rw [same_self]
      go_wp2_with fail
      refine (rgreatest_any A2 n c2 l wr wr.heap.size HL.out H6.out Hn.out hnl).mono ?_
      rintro e w1 ⟨rfl, rfl⟩
      go_wp2_with fail
      refine (sameF_any _ _ wr).mono ?_
      rintro e w1 ⟨rfl, rfl⟩
      rw [same_self]
      go_wp2_with fail
      refine (mean_any A2 n c2 l wr HL.out Hn.out hnl).mono ?_
      rintro e w1 ⟨r1, rfl, hr1, ht1, hb1⟩
      have T1 := Lib.hid ht1
      have HL1 := Lib.hid ((HL.out.below hb1).le hb1.size)
      clear ht1 HL
      go_wp2_with fail
      refine (rmean_any A2 n c2 l w1 HL1.out Hn.out hnl).mono ?_
      rintro e w2 ⟨r2, rfl, hr2, ht2, hb2⟩
      have hs := Lib.hid (T1.out.same ht2)
      clear ht2 T1
      go_wp2_with fail
      refine (sameF_any r1 r2 w2).mono ?_
      rintro e w2' ⟨rfl, rfl⟩
      rw [hs.out]
      have hbz := below_seq (below_seq hb hb1) hb2
      clear hb hb1 hb2
      go_wp2_with fail
      refine (clamp_any x lo hi hx hl hh w2).mono ?_
      rintro e w2' ⟨rfl, rfl⟩
      go_wp2_with fail
      refine (rclamp_any x lo hi hx hl hh w2).mono ?_
      rintro e w2' ⟨rfl, rfl⟩
      generalize clampF x lo hi = y at *
      go_wp2_with fail
      refine (sameF_any _ _ w2).mono ?_
      rintro e w2' ⟨rfl, rfl⟩
      rw [same_self]
      rcases Hci.out with h1 | ⟨h1, h2, h3⟩
      · go_wp2_with fail
        refine (isnan_any _ w2).mono ?_
        rintro e w2' ⟨rfl, rfl⟩
        rw [h1]
        go_wp2_with fail
        refine (works04_any w2).mono ?_
        rintro e w3 ⟨rfl, hb3⟩
        go_wp2
        go_ret
        exact ⟨rfl, below_seq hbz hb3⟩
      · go_wp2_with fail
        refine (isnan_any _ w2).mono ?_
        rintro e w2' ⟨rfl, rfl⟩
        rw [h1]
        go_wp2_with fail
        refine (compareF_any lo y hl hct w2).mono ?_
        rintro e w2' ⟨rfl, rfl⟩
        go_wp2_with fail
        refine (compareF_any y hi hct hh w2).mono ?_
        rintro e w2' ⟨rfl, rfl⟩
        go_wp2_with fail
        refine (works04_any w2).mono ?_
        rintro e w3 ⟨rfl, hb3⟩
        go_wp2
        go_ret
        exact ⟨rfl, below_seq hbz hb3⟩
end Go.Proofs.Ytancncclgeomeaa
