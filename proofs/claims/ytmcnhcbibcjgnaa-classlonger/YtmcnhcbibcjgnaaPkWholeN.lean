/-
  Contracts of word.Pad and of the reference's Pad.
  The contract of word.Whole.
-/
import Derived.Test.YtmcnhcbibcjgnaaPkPutO
import Derived.Test.YtmcnhcbibcjgnaaPkArr
import Derived.Lib.AppendStr
namespace Go.Proofs.Ytmcnhcbibcjgnaa
open Go.RowKit
set_option linter.unusedVariables false

/-- A call that answers new bytes and a code, and turns nothing that was there. -/
def RetRowCode (w : World) (xs : List UInt8) (code : Int) (e : Ending) (w' : World) : Prop :=
  ∃ A c, e = .returned (.tuple #[.slice A xs.length c, .int .i64 code]) ∧ xs.length ≤ c ∧ c ≤ maxLen ∧ Lies w' w'.heap.size A xs ∧ Below w.heap.size w w'

/-- The bytes of Pad, where it answers any. -/
def padB (s : List UInt8) (k : Nat) : List UInt8 := fill (UInt8.ofNat s.length :: s) k
/-- The bytes and the code of Pad. -/
def padBytes (s : List UInt8) (k : Int) : List UInt8 := if k < 1 ∨ 256 < k ∨ k - 1 < s.length then [] else padB s k.toNat
def padCode (s : List UInt8) (k : Int) : Int := if k < 1 ∨ 256 < k then 2 else if k - 1 < s.length then 15 else 0

theorem pad_over {t : List UInt8} {k : Nat} (h : t.length + 1 ≤ k) : over (fill [UInt8.ofNat t.length] k) 1 t = padB t k := by
  unfold over padB fill
  have e : k - (UInt8.ofNat t.length :: t).length = k - [UInt8.ofNat t.length].length - t.length := by simp; omega
  rw [e, Nat.add_comm 1]
  simp

set_option maxRecDepth 100000 in
theorem pad_range (s : ByteArray) (k : Int) (w : World) (h : k < 1 ∨ 256 < k) :
    Calls Try.prog 35 #[.string s, .int .i64 k] w (RetRowCode w [] 2) := by
  rcases h with h | h
  · go_enter Try.func35, Try.ntmps35
    go_wp2
    go_ret2
    exact ⟨none, 0, rfl, Nat.le_refl _, by unfold maxLen; omega, Lies.nil _ _ _, Below.refl _ _⟩
  · have h1 : decide (k < 1) = false := by simp; omega
    go_enter Try.func35, Try.ntmps35
    go_wp2
    go_ret2
    exact ⟨none, 0, rfl, Nat.le_refl _, by unfold maxLen; omega, Lies.nil _ _ _, Below.refl _ _⟩

set_option maxRecDepth 100000 in
theorem pad_size (s : ByteArray) (k : Int) (w : World) (h1 : 1 ≤ k) (h2 : k ≤ 256) (h3 : k - 1 < s.size) :
    Calls Try.prog 35 #[.string s, .int .i64 k] w (RetRowCode w [] 15) := by
  have h1' : decide (k < 1) = false := by simp; omega
  have h2' : decide (256 < k) = false := by simp; omega
  go_enter Try.func35, Try.ntmps35
  go_wp2
  go_ret2
  exact ⟨none, 0, rfl, Nat.le_refl _, by unfold maxLen; omega, Lies.nil _ _ _, Below.refl _ _⟩

set_option maxRecDepth 100000 in
set_option maxHeartbeats 400000 in
theorem pad_ok (s : ByteArray) (k : Nat) (w : World) (h1 : 1 ≤ k) (h2 : k ≤ 256) (h3 : s.size + 1 ≤ k) :
    Calls Try.prog 35 #[.string s, .int .i64 (k : Int)] w (RetRowCode w (padB s.data.toList k) 0) := by
  obtain ⟨i0, hi, hz0, hz1, hz2⟩ := info_parts Try.info5
  have hsz : (Try.prog.info? 5).map (·.size) = some 1 := by rw [hi]; simp [hz1]
  have Hsz := Lib.hid hsz
  clear hsz
  have h1' : decide ((k : Int) < 1) = false := by simp; omega
  have h2' : decide (256 < (k : Int)) = false := by simp; omega
  have h3' : decide ((k : Int) - 1 < (s.size : Int)) = false := by simp; omega
  go_enter Try.func35, Try.ntmps35
  go_wp2_with (at_make; refine wpList_make_full _ rfl _ _ 66 rfl w.heap.size 5 i0 (.int .u8 0) 1 Try.underlying66 hi hz0 hz1 _ _ _ _ k rfl rfl (by omega) (by omega) (by rw [hz2]; omega) (by unfold maxLen; omega) (Nat.le_refl _) ?_)
  intro w1 hown hgrow
  have hb : Below w.heap.size w w1 := (Below.refl _ _).grown hgrow (Nat.le_refl _) (by simp)
  rw [fill_made] at hown
  have hcell : ∃ v, w1.cell? ⟨w.heap.size, 0, none⟩ = some v := by
    rw [hown.cellAt 0 (by omega)]
    exact ⟨_, List.getElem?_eq_getElem (by rw [cells_length, fill_length (by simp)]; omega)⟩
  obtain ⟨v, hc⟩ := hcell
  have hf := hown.frozenAt 0
  have R := hown.stored 0 (.int .u8 (s.size : Int))
  have hset := fill_set (k := k) (xs := []) (UInt8.ofNat s.size) (by simp only [List.length_nil]; omega)
  rw [toNat_ofNat, Nat.mod_eq_of_lt (by omega), List.length_nil, List.nil_append] at hset
  rw [hset] at R
  have R2 := hb.setCell (p := ⟨w.heap.size, 0, none⟩) (Nat.le_refl _) (.int .u8 (s.size : Int))
  have hlen : s.size = s.data.toList.length := Lib.size_eq s
  have Hov := Lib.hid (pad_over (t := s.data.toList) (k := k) (by omega))
  rw [← hlen] at Hov
  have Hlen := Lib.hid hlen
  clear hset hlen
  have hm : k ≤ maxLen := by unfold maxLen; omega
  rcases (show k = 1 ∨ 1 < k by omega) with rfl | hk1
  · obtain ⟨w2, hrun, hown2, hg2⟩ := run_copy_str (P := Try.prog) (dT := 66) (sT := 9) (ty := 3) Try.underlying66 Hsz.out (some ⟨w.heap.size, 0, none⟩) 0 0 s 1 R.1 hm (by omega) (by omega) (by omega)
    have hb2 := R2.grown hg2 R2.size (fun g e => by cases e; exact Nat.le_refl _)
    rw [Hov.out] at hown2
    obtain ⟨A, c, hv, hn, hnc, hcm, hl⟩ := Lies.of_own hown2
    have Hv := Lib.hid hv
    have Hn := Lib.hid hn
    clear hv hn
    go_wp2
    go_ret2
    exact ⟨A, c, by rw [← Hv.out]; rfl, by have := Hn.out; omega, hcm, hl, hb2⟩
  · obtain ⟨w2, hrun, hown2, hg2⟩ := run_copy_str (P := Try.prog) (dT := 66) (sT := 9) (ty := 3) Try.underlying66 Hsz.out (some ⟨w.heap.size, 1, none⟩) (k - 1) (k - 1) s 1 R.1 hm (fun _ => rfl) (by omega) (by omega)
    have hb2 := R2.grown hg2 R2.size (fun g e => by cases e; exact Nat.le_refl _)
    rw [Hov.out] at hown2
    obtain ⟨A, c, hv, hn, hnc, hcm, hl⟩ := Lies.of_own hown2
    have Hv := Lib.hid hv
    have Hn := Lib.hid hn
    clear hv hn
    go_wp2
    go_ret2
    exact ⟨A, c, by rw [← Hv.out]; rfl, by have := Hn.out; omega, hcm, hl, hb2⟩

theorem pad_any (s : ByteArray) (k : Int) (w : World) :
    Calls Try.prog 35 #[.string s, .int .i64 k] w (RetRowCode w (padBytes s.data.toList k) (padCode s.data.toList k)) := by
  have hlen : s.size = s.data.toList.length := Lib.size_eq s
  unfold padBytes padCode
  by_cases h : k < 1 ∨ 256 < k
  · rw [if_pos h, if_pos (by omega)]
    exact pad_range s k w h
  · rw [if_neg h]
    by_cases h2 : k - 1 < s.data.toList.length
    · rw [if_pos h2, if_pos (by omega)]
      exact pad_size s k w (by omega) (by omega) (by omega)
    · rw [if_neg h2, if_neg (by omega)]
      obtain ⟨n, rfl⟩ := Int.eq_ofNat_of_zero_le (show 0 ≤ k by omega)
      rw [Int.toNat_natCast]
      exact pad_ok s n w (by omega) (by omega) (by omega)
end Go.Proofs.Ytmcnhcbibcjgnaa
namespace Go.Proofs.Ytmcnhcbibcjgnaa
open Go.RowKit
set_option linter.unusedVariables false

/-- A sector of noughts. -/
def sec0 : List UInt8 := List.replicate 256 0
/-- The sector that begins with xs. -/
def wholeB (xs : List UInt8) : List UInt8 := fill (xs.take 256) 256
theorem sec0_length : sec0.length = 256 := List.length_replicate
theorem wholeB_length (xs : List UInt8) : (wholeB xs).length = 256 := fill_length (List.length_take_le _ _)
theorem over_zeros (t : List UInt8) (n : Nat) : over (List.replicate n 0) 0 t = fill t n := by
  unfold over fill
  simp
theorem over_sec0 (xs : List UInt8) : over sec0 0 (xs.take 256) = wholeB xs := over_zeros _ _
theorem Try.zero35 : (Try.prog.info? 48).bind (·.zero) = some (.agg (cells sec0).toArray) := by kernel_rfl
theorem Try.size35 : (Try.prog.info? 48).map (·.size) = some 256 := by kernel_rfl
theorem Try.len35 : Try.prog.arrayLen 48 = 256 := by kernel_rfl
/-- A call that answers a sector, and turns nothing that was there. -/
def RetSec (w : World) (xs : List UInt8) (e : Ending) (w' : World) : Prop := e = .returned (.agg (cells xs).toArray) ∧ Below w.heap.size w w'

set_option maxRecDepth 100000 in
set_option maxHeartbeats 400000 in
theorem whole_any (A : Option Addr) (n c : Nat) (xs : List UInt8) (w : World) (B : Nat) (h : Lies w B A xs) (hn : n = xs.length) (hB : B ≤ w.heap.size) :
    Calls Try.prog 37 #[.slice A n c] w (RetSec w (wholeB xs)) := by
  obtain ⟨i0, hi, hz0, hz1, hz2⟩ := info_parts Try.info5
  have hsz : (Try.prog.info? 5).map (·.size) = some 1 := by rw [hi]; simp [hz1]
  have Hsz := Lib.hid hsz
  have Hn := Lib.hid hn
  clear hsz hn
  go_enter Try.func37, Try.ntmps37
  go_wp2_with (with_reducible refine wpList_alloc_row rfl 48 rfl sec0 Try.zero35 ?_)
  intro w1 hr1 hb1 hs1
  go_wp2_with (with_reducible refine wpList_alloc_row rfl 48 rfl sec0 Try.zero35 ?_)
  intro w2 hr2 hb2 hs2
  have hl2 : Lies w2 B A xs := (h.below (hb1.mono hB)).below (hb2.mono (by omega))
  obtain ⟨w3, hrun, hr3, hg3⟩ := run_copy_lies (P := Try.prog) (dT := 66) (sT := 66) (ty := 3) (c := c) Try.underlying66 Hsz.out (some ⟨w.heap.size + 1, 0, none⟩) 256 256 0 hr2 hl2 Hn.out rfl (by rw [sec0_length]; omega)
  rw [over_sec0] at hr3
  have hr1' : Row w3 w.heap.size 48 sec0 := (hr1.below (hb2.mono (by omega))).keep hg3 (by intro e; injection e with e; omega)
  have hb3 : Below w.heap.size w w3 := (hb1.trans (hb2.mono (by omega))).grown hg3 (by omega) (fun g e => by injection e with e; omega)
  have hsz3 : (Try.prog.info? 48).map (·.size) = some ((cells (wholeB xs)).toArray).size := by rw [Try.size35]; simp only [List.size_toArray, cells_length, wholeB_length]
  have hold : ((cells sec0).toArray).size = ((cells (wholeB xs)).toArray).size := by simp only [List.size_toArray, cells_length, wholeB_length, sec0_length]
  have Hsz3 := Lib.hid hsz3
  have Hold := Lib.hid hold
  clear hsz3 hold
  go_wp2_with (first
    | ((with_reducible refine at_load 48 ?_); refine wpList_load_row rfl 48 _ rfl (w.heap.size + 1) rfl 48 _ (0, 0) _ hr3 Try.underlying48 rfl Hsz3.out ?_)
    | ((with_reducible refine at_store 48 ?_); refine wpList_store_row rfl 48 _ _ rfl w.heap.size _ rfl rfl 48 _ hr1' Hsz3.out Hold.out (cells_oneCell _) ?_))
  refine bodyPost_ret (results_cell_row (fn := Try.f37) rfl _ _ w.heap.size 48 _ (0, 0) _ rfl (hr1'.set (wholeB xs)) Try.underlying48 rfl Hsz3.out) rfl ⟨rfl, below_setRow hb3 (Nat.le_refl _) _⟩
end Go.Proofs.Ytmcnhcbibcjgnaa
