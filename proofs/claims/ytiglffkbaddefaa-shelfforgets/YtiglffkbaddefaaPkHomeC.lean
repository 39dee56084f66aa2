/-
  Contracts of digest.Home and the reference's Home.
-/
import Derived.Test.YtiglffkbaddefaaPkRowR
import Derived.Test.YtiglffkbaddefaaPkPut
namespace Go.Proofs.Ytiglffkbaddefaa
open Go.RowKit
set_option linter.unusedVariables false

/-- The place of an address, of so many. -/
def homeN (a : List UInt8) (o : Int) : Int := if o < 1 then 0 else ((beN (a.take 6) % o.toNat : Nat) : Int)
theorem Try.size5' : (Try.prog.info? 5).map (·.size) = some 1 := by kernel_rfl
theorem or_byte (N x : Nat) (hN : N < 72057594037927936) (hx : x < 256) : bits .or .u64 ((N : Int) * 256) (x : Int) = ((N * 256 + x : Nat) : Int) := by
  have e : ((N : Int) * 256) = ((N * 256 : Nat) : Int) := by omega
  rw [e, u64_or_nat _ _ (by omega) (by omega)]
  congr 1
  rw [show N * 256 = 2 ^ 8 * N by omega, ← Nat.two_pow_add_eq_or_of_lt (by omega)]
theorem beN_take_bd (a : List UInt8) {k : Nat} (h : k ≤ 6) : beN (a.take k) < 281474976710656 := by
  have h1 := beN_lt (a.take k)
  have h2 : (256 : Nat) ^ (a.take k).length ≤ 256 ^ 6 := Nat.pow_le_pow_right (by omega) (by rw [List.length_take]; omega)
  omega

set_option maxRecDepth 100000 in
theorem home_low (a : List UInt8) (o : Int) (w : World) (ho : o < 1) : Calls Try.prog 56 #[.agg (cells a).toArray, .int .i64 o] w fun e w' => e = .returned (.int .i64 (homeN a o)) ∧ Below w.heap.size w w' := by
  have hv : homeN a o = 0 := if_pos ho
  have Hv := Lib.hid hv
  have hd : decide (o < 1) = true := decide_eq_true ho
  clear hv
  go_enter Try.func56, Try.ntmps56
  go_wp2_with (with_reducible refine at_box 30 ?_; refine wpList_box_rowV rfl 30 _ rfl (cells a) rfl ?_)
  intro w1 hr1 hb1 hs1
  go_wp2
  go_ret
  exact ⟨by rw [Hv.out]; rfl, hb1⟩
set_option maxRecDepth 100000 in
theorem rhome_low (a : List UInt8) (o : Int) (w : World) (ho : o < 1) : Calls Try.prog 45 #[.agg (cells a).toArray, .int .i64 o] w fun e w' => e = .returned (.int .i64 (homeN a o)) ∧ Below w.heap.size w w' := by
  have hv : homeN a o = 0 := if_pos ho
  have Hv := Lib.hid hv
  have hd : decide (o < 1) = true := decide_eq_true ho
  clear hv
  go_enter Try.func45, Try.ntmps45
  go_wp2_with (with_reducible refine at_box 30 ?_; refine wpList_box_rowV rfl 30 _ rfl (cells a) rfl ?_)
  intro w1 hr1 hb1 hs1
  go_wp2
  go_ret
  exact ⟨by rw [Hv.out]; rfl, hb1⟩

set_option maxRecDepth 100000 in
set_option maxHeartbeats 1000000 in
theorem home_high (a : List UInt8) (ha : a.length = 32) (o : Nat) (w : World) (ho : 1 ≤ o) (ho2 : o ≤ 9223372036854775807) : Calls Try.prog 56 #[.agg (cells a).toArray, .int .i64 (o : Int)] w fun e w' => e = .returned (.int .i64 (homeN a o)) ∧ Below w.heap.size w w' := by
  have hv : homeN a o = ((beN (a.take 6) % o : Nat) : Int) := by unfold homeN; rw [if_neg (by omega), Int.toNat_natCast]
  have Hv := Lib.hid hv
  have Ha := Lib.hid ha
  have hd : decide ((o : Int) < 1) = false := decide_eq_false (by omega)
  clear hv ha
  go_enter Try.func56, Try.ntmps56
  go_wp2_with (with_reducible refine at_box 30 ?_; refine wpList_box_rowV rfl 30 _ rfl (cells a) rfl ?_)
  intro w1 hr1 hb1 hs1
  have hsl : ∀ W, (Instr.sliceAt 30 (.pointer (some ⟨w.heap.size, 0, none⟩)) none (some (.int .i64 6)) none).run Try.prog W = .ok (.slice (some ⟨w.heap.size, 0, none⟩) 6 32) W := fun W => run_slice_arr_to Try.underlying30 Try.size5' w.heap.size 0 .i64 _ 6 rfl (by omega) (by omega)
  go_wp2_with fail
  clear hsl hd
  go_loop [5, 12] (fun v i => ∃ k : Nat, k ≤ 6 ∧ i = .int .i64 k ∧ v = .int .u64 ((beN (a.take k) : Nat) : Int)) (fun _ i => 6 - (intOf i).toNat)
  case atStart => exact ⟨0, Nat.zero_le _, rfl, rfl⟩
  case round =>
    obtain ⟨k, hk, rfl, rfl⟩ := hrel
    have hbd := beN_take_bd a hk
    by_cases hlt : k < 6
    · obtain ⟨x, hx⟩ : ∃ x, a[k]? = some x := ⟨_, List.getElem?_eq_getElem (by rw [Ha.out]; omega)⟩
      have hxl := x.toNat_lt
      have hc := hr1.cell (cells_get hx)
      have Hn := Lib.hid (beN_take_succ hx)
      have Ho := Lib.hid (or_byte (beN (a.take k)) x.toNat (by omega) (by omega))
      generalize beN (a.take k) = M at *
      clear hx
      have hd : decide ((k : Int) < 6) = true := decide_eq_true (by omega)
      go_wp2
      go_round
      case rel => exact ⟨k + 1, by omega, by go_num, by rw [Ho.out, Hn.out]⟩
      case measure => simp [intOf]; omega
    · obtain rfl : k = 6 := by omega
      generalize hM : beN (a.take 6) = M at *
      have HM := Lib.hid hM
      clear hM
      obtain ⟨r, hr⟩ : ∃ r, M % o = r := ⟨_, rfl⟩
      have hri : (M : Int) % (o : Int) = (r : Int) := by rw [← hr]; exact (Int.natCast_emod M o).symm
      have hro : r ≤ 9223372036854775807 := by have := Nat.mod_lt M (show 0 < o by omega); omega
      have Hr := Lib.hid hr
      have hd : decide (((6 : Nat) : Int) < 6) = false := by decide
      clear hr
      go_wp2
      go_ret
      exact ⟨by rw [Hv.out, Hr.out]; rfl, hb1⟩
set_option maxRecDepth 100000 in
set_option maxHeartbeats 1000000 in
theorem rhome_high (a : List UInt8) (ha : a.length = 32) (o : Nat) (w : World) (ho : 1 ≤ o) (ho2 : o ≤ 9223372036854775807) : Calls Try.prog 45 #[.agg (cells a).toArray, .int .i64 (o : Int)] w fun e w' => e = .returned (.int .i64 (homeN a o)) ∧ Below w.heap.size w w' := by
  have hv : homeN a o = ((beN (a.take 6) % o : Nat) : Int) := by unfold homeN; rw [if_neg (by omega), Int.toNat_natCast]
  have Hv := Lib.hid hv
  have Ha := Lib.hid ha
  have hd : decide ((o : Int) < 1) = false := decide_eq_false (by omega)
  clear hv ha
  go_enter Try.func45, Try.ntmps45
  go_wp2_with (with_reducible refine at_box 30 ?_; refine wpList_box_rowV rfl 30 _ rfl (cells a) rfl ?_)
  intro w1 hr1 hb1 hs1
  go_wp2_with fail
  clear hd
  have hlA : Try.prog.arrayLen 30 = 32 := by kernel_rfl
  go_loop [5, 6] (fun v i => ∃ k : Nat, k ≤ 6 ∧ i = .int .i64 k ∧ v = .int .u64 ((beN (a.take k) : Nat) : Int)) (fun _ i => 6 - (intOf i).toNat)
  case atStart => exact ⟨0, Nat.zero_le _, rfl, rfl⟩
  case round =>
    obtain ⟨k, hk, rfl, rfl⟩ := hrel
    have hbd := beN_take_bd a hk
    by_cases hlt : k < 6
    · obtain ⟨x, hx⟩ : ∃ x, a[k]? = some x := ⟨_, List.getElem?_eq_getElem (by rw [Ha.out]; omega)⟩
      have hxl := x.toNat_lt
      have hc := hr1.cell (cells_get hx)
      have Hn := Lib.hid (beN_take_succ hx)
      generalize beN (a.take k) = M at *
      clear hx
      have hd : decide ((k : Int) < 6) = true := decide_eq_true (by omega)
      go_wp2
      go_round
      case rel => exact ⟨k + 1, by omega, by go_num, by rw [Hn.out]; go_num⟩
      case measure => simp [intOf]; omega
    · obtain rfl : k = 6 := by omega
      generalize hM : beN (a.take 6) = M at *
      have HM := Lib.hid hM
      clear hM
      obtain ⟨r, hr⟩ : ∃ r, M % o = r := ⟨_, rfl⟩
      have hri : (M : Int) % (o : Int) = (r : Int) := by rw [← hr]; exact (Int.natCast_emod M o).symm
      have hro : r ≤ 9223372036854775807 := by have := Nat.mod_lt M (show 0 < o by omega); omega
      have Hr := Lib.hid hr
      have hd : decide (((6 : Nat) : Int) < 6) = false := by decide
      clear hr
      go_wp2
      go_ret
      exact ⟨by rw [Hv.out, Hr.out]; rfl, hb1⟩
theorem home_any (a : List UInt8) (ha : a.length = 32) (o : Int) (w : World) (ho2 : o ≤ 9223372036854775807) : Calls Try.prog 56 #[.agg (cells a).toArray, .int .i64 o] w fun e w' => e = .returned (.int .i64 (homeN a o)) ∧ Below w.heap.size w w' := by
  by_cases h : o < 1
  · exact home_low a o w h
  · obtain ⟨n, rfl⟩ := Int.eq_ofNat_of_zero_le (show 0 ≤ o by omega)
    exact home_high a ha n w (by omega) (by omega)
theorem rhome_any (a : List UInt8) (ha : a.length = 32) (o : Int) (w : World) (ho2 : o ≤ 9223372036854775807) : Calls Try.prog 45 #[.agg (cells a).toArray, .int .i64 o] w fun e w' => e = .returned (.int .i64 (homeN a o)) ∧ Below w.heap.size w w' := by
  by_cases h : o < 1
  · exact rhome_low a o w h
  · obtain ⟨n, rfl⟩ := Int.eq_ofNat_of_zero_le (show 0 ≤ o by omega)
    exact rhome_high a ha n w (by omega) (by omega)
end Go.Proofs.Ytiglffkbaddefaa
