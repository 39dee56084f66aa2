/-
  Contracts of word.Pad and of the reference's Pad.
-/
import Derived.Test.YtpgddlajlehilaaPut
import Derived.Test.YtpgddlajlehilaaCopy
import Derived.Lib.AppendStr
namespace Go.Proofs.Ytpgddlajlehilaa
open Go.RowKit
set_option linter.unusedVariables false

/-- A call that answers new bytes and a code, and turns nothing that was there. -/
def RetRowCode (w : World) (xs : List UInt8) (code : Int) (e : Ending) (w' : World) : Prop :=
  ∃ A c, e = .returned (.tuple #[.slice A xs.length c, .int .i64 code]) ∧ xs.length ≤ c ∧ c ≤ maxLen ∧ Lies w' w'.heap.size A xs ∧ Below w.heap.size w w'

/-- The bytes of Pad, where it answers any. -/
def padB (s : List UInt8) (k : Nat) : List UInt8 := fill (UInt8.ofNat s.length :: s) k
/-- The bytes and the code of Pad. -/
def padBytes (s : List UInt8) (k : Int) : List UInt8 := if k < 1 ∨ 256 < k ∨ k - 1 < s.length then [] else padB s k.toNat
def padCode (s : List UInt8) (k : Int) : Int := if k < 1 ∨ 256 < k then 2 else if k - 1 < s.length then 15 else 0

theorem pad_over {t : List UInt8} {k : Nat} (h : t.length + 1 ≤ k) : over (fill [UInt8.ofNat t.length] k) 1 t = padB t k := by
  unfold over padB fill
  have e : k - (UInt8.ofNat t.length :: t).length = k - [UInt8.ofNat t.length].length - t.length := by simp; omega
  rw [e, Nat.add_comm 1]
  simp

theorem pad_range (s : ByteArray) (k : Int) (w : World) (h : k < 1 ∨ 256 < k) :
    Calls Try.prog 14 #[.string s, .int .i64 k] w (RetRowCode w [] 2) := by
  rcases h with h | h
  · go_enter Try.func14, Try.ntmps14
    go_wp2
    go_ret2
    exact ⟨none, 0, rfl, Nat.le_refl _, by unfold maxLen; omega, Lies.nil _ _ _, Below.refl _ _⟩
  · have h1 : decide (k < 1) = false := by simp; omega
    go_enter Try.func14, Try.ntmps14
    go_wp2
    go_ret2
    exact ⟨none, 0, rfl, Nat.le_refl _, by unfold maxLen; omega, Lies.nil _ _ _, Below.refl _ _⟩

theorem pad_size (s : ByteArray) (k : Int) (w : World) (h1 : 1 ≤ k) (h2 : k ≤ 256) (h3 : k - 1 < s.size) :
    Calls Try.prog 14 #[.string s, .int .i64 k] w (RetRowCode w [] 15) := by
  have h1' : decide (k < 1) = false := by simp; omega
  have h2' : decide (256 < k) = false := by simp; omega
  go_enter Try.func14, Try.ntmps14
  go_wp2
  go_ret2
  exact ⟨none, 0, rfl, Nat.le_refl _, by unfold maxLen; omega, Lies.nil _ _ _, Below.refl _ _⟩

set_option maxHeartbeats 400000 in
theorem pad_ok (s : ByteArray) (k : Nat) (w : World) (h1 : 1 ≤ k) (h2 : k ≤ 256) (h3 : s.size + 1 ≤ k) :
    Calls Try.prog 14 #[.string s, .int .i64 (k : Int)] w (RetRowCode w (padB s.data.toList k) 0) := by
  obtain ⟨i0, hi, hz0, hz1, hz2⟩ := info_parts Try.info5
  have hsz : (Try.prog.info? 5).map (·.size) = some 1 := by rw [hi]; simp [hz1]
  have Hsz := Lib.hid hsz
  clear hsz
  have h1' : decide ((k : Int) < 1) = false := by simp; omega
  have h2' : decide (256 < (k : Int)) = false := by simp; omega
  have h3' : decide ((k : Int) - 1 < (s.size : Int)) = false := by simp; omega
  go_enter Try.func14, Try.ntmps14
  go_wp2_with (at_make; refine wpList_make_full _ rfl _ _ 23 rfl w.heap.size 5 i0 (.int .u8 0) 1 Try.underlying23 hi hz0 hz1 _ _ _ _ k rfl rfl (by omega) (by omega) (by rw [hz2]; omega) (by unfold maxLen; omega) (Nat.le_refl _) ?_)
  intro w1 hown hgrow
  have hb : Below w.heap.size w w1 := (Below.refl _ _).grown hgrow (Nat.le_refl _) (by simp)
  rw [fill_made] at hown
  have hcell : ∃ v, w1.cell? ⟨w.heap.size, 0, none⟩ = some v := by
    rw [hown.cellAt 0 (by omega)]
    exact ⟨_, List.getElem?_eq_getElem (by rw [cells_length, fill_length (by simp)]; omega)⟩
  obtain ⟨v, hc⟩ := hcell
  have hf := hown.frozenAt 0
  have R := hown.stored 0 (.int .u8 (s.size : Int))
  have hset := fill_set (k := k) (xs := []) (UInt8.ofNat s.size) (by simp only [List.length_nil]; omega)
  rw [toNat_ofNat, Nat.mod_eq_of_lt (by omega), List.length_nil, List.nil_append] at hset
  rw [hset] at R
  have R2 := hb.setCell (p := ⟨w.heap.size, 0, none⟩) (Nat.le_refl _) (.int .u8 (s.size : Int))
  have hlen : s.size = s.data.toList.length := Lib.size_eq s
  have Hov := Lib.hid (pad_over (t := s.data.toList) (k := k) (by omega))
  rw [← hlen] at Hov
  have Hlen := Lib.hid hlen
  clear hset hlen
  have hm : k ≤ maxLen := by unfold maxLen; omega
  rcases (show k = 1 ∨ 1 < k by omega) with rfl | hk1
  · obtain ⟨w2, hrun, hown2, hg2⟩ := run_copy_str (P := Try.prog) (dT := 23) (sT := 9) (ty := 3) Try.underlying23 Hsz.out (some ⟨w.heap.size, 0, none⟩) 0 0 s 1 R.1 hm (by omega) (by omega) (by omega)
    have hb2 := R2.grown hg2 R2.size (fun g e => by cases e; exact Nat.le_refl _)
    rw [Hov.out] at hown2
    obtain ⟨A, c, hv, hn, hnc, hcm, hl⟩ := Lies.of_own hown2
    have Hv := Lib.hid hv
    have Hn := Lib.hid hn
    clear hv hn
    go_wp2
    go_ret2
    exact ⟨A, c, by rw [← Hv.out]; rfl, by have := Hn.out; omega, hcm, hl, hb2⟩
  · obtain ⟨w2, hrun, hown2, hg2⟩ := run_copy_str (P := Try.prog) (dT := 23) (sT := 9) (ty := 3) Try.underlying23 Hsz.out (some ⟨w.heap.size, 1, none⟩) (k - 1) (k - 1) s 1 R.1 hm (fun _ => rfl) (by omega) (by omega)
    have hb2 := R2.grown hg2 R2.size (fun g e => by cases e; exact Nat.le_refl _)
    rw [Hov.out] at hown2
    obtain ⟨A, c, hv, hn, hnc, hcm, hl⟩ := Lies.of_own hown2
    have Hv := Lib.hid hv
    have Hn := Lib.hid hn
    clear hv hn
    go_wp2
    go_ret2
    exact ⟨A, c, by rw [← Hv.out]; rfl, by have := Hn.out; omega, hcm, hl, hb2⟩

theorem pad_any (s : ByteArray) (k : Int) (w : World) :
    Calls Try.prog 14 #[.string s, .int .i64 k] w (RetRowCode w (padBytes s.data.toList k) (padCode s.data.toList k)) := by
  have hlen : s.size = s.data.toList.length := Lib.size_eq s
  unfold padBytes padCode
  by_cases h : k < 1 ∨ 256 < k
  · rw [if_pos h, if_pos (by omega)]
    exact pad_range s k w h
  · rw [if_neg h]
    by_cases h2 : k - 1 < s.data.toList.length
    · rw [if_pos h2, if_pos (by omega)]
      exact pad_size s k w (by omega) (by omega) (by omega)
    · rw [if_neg h2, if_neg (by omega)]
      obtain ⟨n, rfl⟩ := Int.eq_ofNat_of_zero_le (show 0 ≤ k by omega)
      rw [Int.toNat_natCast]
      exact pad_ok s n w (by omega) (by omega) (by omega)
end Go.Proofs.Ytpgddlajlehilaa
