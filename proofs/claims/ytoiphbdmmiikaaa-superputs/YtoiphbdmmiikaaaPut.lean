/-
  Contracts of word.Put and of the reference's Put.
-/
import Derived.Test.YtoiphbdmmiikaaaRet
namespace Go.Proofs.Ytoiphbdmmiikaaa
open Go.RowKit
set_option linter.unusedVariables false

set_option maxRecDepth 100000 in
set_option maxHeartbeats 400000 in
theorem put_pos (N k : Nat) (w : World) (h1 : 0 < k) (hk : k ≤ 65536) (hN : N < 18446744073709551616) :
    Calls Try.prog 21 #[.int .u64 (N : Int), .int .i64 (k : Int)] w (RetRow w (putB N k)) := by
  obtain ⟨i0, hi, hz0, hz1, hz2⟩ := info_parts Try.info5
  have hm : (0 : Int) < (k : Int) := by omega
  go_enter Try.func21, Try.ntmps21
  go_wp2_with (at_make; refine wpList_make_full _ rfl _ _ 46 rfl w.heap.size 5 i0 (.int .u8 0) 1 Try.underlying46 hi hz0 hz1 _ _ _ _ k rfl rfl (by omega) (by omega) (by rw [hz2]; omega) (by unfold maxLen; omega) (Nat.le_refl _) ?_)
  intro w1 hown hgrow
  have hb : Below w.heap.size w w1 := (Below.refl _ _).grown hgrow (Nat.le_refl _) (by simp)
  rw [fill_made] at hown
  go_wp2
  go_loopw [0, 12] (fun n i wr => ∃ j : Nat, j ≤ k ∧ i = .int .i64 j ∧ n = .int .u64 ((N / 256 ^ j : Nat) : Int) ∧ wr.ownsRow w.heap.size 5 1 (.slice (some ⟨w.heap.size, 0, none⟩) k k) k (cells (fill (putB N j) k)) ∧ Below w.heap.size w wr)
    (fun _ i _ => k - (intOf i).toNat)
  case atStart => exact ⟨0, Nat.zero_le _, rfl, by simp, hown, hb⟩
  case round =>
    obtain ⟨j, hj, rfl, rfl, hown', hb'⟩ := hrel
    by_cases hlt : j < k
    · have hcell : ∃ v, wr.cell? ⟨w.heap.size, j, none⟩ = some v := by
        rw [hown'.cellAt j (by omega)]
        exact ⟨_, List.getElem?_eq_getElem (by rw [cells_length, fill_length (by rw [putB_length]; omega)]; exact hlt)⟩
      obtain ⟨v, hc⟩ := hcell
      have hf := hown'.frozenAt j
      have R := hown'.stored j (.int .u8 ((UInt8.ofNat (N / 256 ^ j)).toNat : Int))
      have hset := fill_set (k := k) (xs := putB N j) (UInt8.ofNat (N / 256 ^ j)) (by rw [putB_length]; exact hlt)
      rw [putB_length, ← putB_snoc] at hset
      rw [hset] at R
      have R2 := hb'.setCell (p := ⟨w.heap.size, j, none⟩) (Nat.le_refl _) (.int .u8 ((UInt8.ofNat (N / 256 ^ j)).toNat : Int))
      have hq : N / 256 ^ (j + 1) = N / 256 ^ j / 256 := by rw [Nat.div_div_eq_div_mul, Nat.pow_succ]
      have Hq := Lib.hid hq
      have Hby := Lib.hid (byte_of (N / 256 ^ j))
      have hle : N / 256 ^ j ≤ N := Nat.div_le_self _ _
      generalize N / 256 ^ j = M at *
      clear hq hset
      go_wp2
      go_roundw
      case rel => exact ⟨j + 1, by omega, by go_num, by rw [Hq.out, Int.natCast_ediv]; rfl, by rw [Hby.out]; exact R.1, by rw [Hby.out]; exact R2⟩
      case measure => simp [intOf]; omega
    · have hjk : j = k := by omega
      subst hjk
      go_wp2
      go_ret
      have e : fill (putB N j) j = putB N j := by
        have := fill_full (xs := putB N j)
        rwa [putB_length] at this
      rw [e] at hown'
      obtain ⟨A, c, hv, hn, hnc, hcm, hl⟩ := Lies.of_own hown'
      exact ⟨A, c, by rw [← hv]; rfl, by omega, hcm, hl, hb'⟩

set_option maxRecDepth 100000 in
set_option maxHeartbeats 400000 in
theorem put_none (N : Nat) (k : Int) (w : World) (h1 : k ≤ 0) (hN : N < 18446744073709551616) :
    Calls Try.prog 21 #[.int .u64 (N : Int), .int .i64 k] w (RetRow w []) := by
  obtain ⟨i0, hi, hz0, hz1, hz2⟩ := info_parts Try.info5
  go_enter Try.func21, Try.ntmps21
  go_wp2_with (at_make; refine wpList_make_full _ rfl _ _ 46 rfl w.heap.size 5 i0 (.int .u8 0) 1 Try.underlying46 hi hz0 hz1 _ _ _ _ 0 rfl rfl (by omega) (by omega) (by rw [hz2]; omega) (by unfold maxLen; omega) (Nat.le_refl _) ?_)
  all_goals
    intro w1 hown hgrow
    have hb : Below w.heap.size w w1 := (Below.refl _ _).grown hgrow (Nat.le_refl _) (by simp)
    go_wp2
    refine wp_loop_rounds 1 ?_
    rw [rounds_succ]
    go_wp2
    go_ret
    exact ⟨some ⟨w.heap.size, 0, none⟩, 0, rfl, Nat.le_refl _, by unfold maxLen; omega, Lies.nil _ _ _, hb⟩

theorem put_any (N : Nat) (k : Int) (w : World) (hk : k ≤ 65536) (hN : N < 18446744073709551616) :
    Calls Try.prog 21 #[.int .u64 (N : Int), .int .i64 k] w (RetRow w (putB N k.toNat)) := by
  by_cases h : k ≤ 0
  · rw [Int.toNat_of_nonpos h]
    exact put_none N k w h hN
  · obtain ⟨n, rfl⟩ := Int.eq_ofNat_of_zero_le (show 0 ≤ k by omega)
    rw [Int.toNat_natCast]
    exact put_pos N n w (by omega) (by omega) hN
end Go.Proofs.Ytoiphbdmmiikaaa
