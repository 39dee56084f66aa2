/-
  The contract of the reference's Pad (layer 1).
-/
import Derived.Test.YtpgddlajlehilaaPad
namespace Go.Proofs.Ytpgddlajlehilaa
open Go.RowKit
set_option linter.unusedVariables false

theorem rpad_range (s : ByteArray) (k : Int) (w : World) (h : k < 1 ∨ 256 < k) :
    Calls Try.prog 15 #[.string s, .int .i64 k] w (RetRowCode w [] 2) := by
  rcases h with h | h
  · go_enter Try.func15, Try.ntmps15
    go_wp2
    go_ret2
    exact ⟨none, 0, rfl, Nat.le_refl _, by unfold maxLen; omega, Lies.nil _ _ _, Below.refl _ _⟩
  · have h1 : decide (k < 1) = false := by simp; omega
    go_enter Try.func15, Try.ntmps15
    go_wp2
    go_ret2
    exact ⟨none, 0, rfl, Nat.le_refl _, by unfold maxLen; omega, Lies.nil _ _ _, Below.refl _ _⟩

theorem rpad_size (s : ByteArray) (k : Int) (w : World) (h1 : 1 ≤ k) (h2 : k ≤ 256) (h3 : k - 1 < s.size) :
    Calls Try.prog 15 #[.string s, .int .i64 k] w (RetRowCode w [] 15) := by
  have h1' : decide (k < 1) = false := by simp; omega
  have h2' : decide (256 < k) = false := by simp; omega
  go_enter Try.func15, Try.ntmps15
  go_wp2
  go_ret2
  exact ⟨none, 0, rfl, Nat.le_refl _, by unfold maxLen; omega, Lies.nil _ _ _, Below.refl _ _⟩

/-- The length of a slice's value. -/
def lenV : Value → Nat | .slice _ n _ => n | _ => 0
theorem fill_step {l : List UInt8} {j : Nat} (h : l.length ≤ j) : fill l j ++ [0] = fill l (j + 1) := by
  unfold fill
  rw [show j + 1 - l.length = (j - l.length) + 1 by omega, List.replicate_succ', List.append_assoc]
theorem strCells_cells (s : ByteArray) : Lib.strCells s = cells s.data.toList := rfl

set_option maxHeartbeats 400000 in
theorem rpad_ok (s : ByteArray) (k : Nat) (w : World) (h1 : 1 ≤ k) (h2 : k ≤ 256) (h3 : s.size + 1 ≤ k) :
    Calls Try.prog 15 #[.string s, .int .i64 (k : Int)] w (RetRowCode w (padB s.data.toList k) 0) := by
  obtain ⟨i0, hi, hz0, hz1, hz2⟩ := info_parts Try.info5
  have h1' : decide ((k : Int) < 1) = false := by simp; omega
  have h2' : decide (256 < (k : Int)) = false := by simp; omega
  have h3' : decide ((k : Int) - 1 < (s.size : Int)) = false := by simp; omega
  have hlen : s.size = s.data.toList.length := Lib.size_eq s
  have Hlen := Lib.hid hlen
  have hown : (w.alloc (.cells #[Value.int .u8 (s.size : Int)] 5)).ownsRow w.heap.size 5 1 (.slice (some ⟨w.heap.size, 0, none⟩) 1 1) 1 (cells [UInt8.ofNat s.size]) := by
    have := World.ownsRow_lit (e := 5) (size := 1) (base := w.heap.size) w #[Value.int .u8 (s.size : Int)] 1 (Nat.le_refl _) (by unfold maxLen; omega) rfl
    have e : (#[Value.int .u8 (s.size : Int)] : Array Value).toList = cells [UInt8.ofNat s.size] := by
      show [Value.int .u8 (s.size : Int)] = [Value.int .u8 ((UInt8.ofNat s.size).toNat : Int)]
      rw [toNat_ofNat, Nat.mod_eq_of_lt (by omega)]
    rwa [e] at this
  have hb0 : Below w.heap.size w (w.alloc (.cells #[Value.int .u8 (s.size : Int)] 5)) := (Below.refl _ _).alloc (Nat.le_refl _) _
  clear hlen
  go_enter Try.func15, Try.ntmps15
  go_wp2_with (at_builtin; refine Lib.wpList_append_own_string _ rfl _ _ 23 9 rfl w.heap.size 5 i0 Try.underlying23 Try.underlying9 hi hz0 hz1 hz2 _ 1 _ rfl hown s rfl (by unfold maxLen; omega) (by omega) hb0.size ?_)
  intro v1 w1 hown1 hg1 _
  have hb1 := hb0.grown hg1 hb0.size (own_ge hown)
  rw [strCells_cells, ← cells_append, List.singleton_append] at hown1
  have hL : (UInt8.ofNat s.size :: s.data.toList).length = s.size + 1 := by have := Hlen.out; simp only [List.length_cons]; omega
  have hpad : padB s.data.toList k = fill (UInt8.ofNat s.size :: s.data.toList) k := by unfold padB; rw [← Hlen.out]
  generalize UInt8.ofNat s.size :: s.data.toList = l at *
  have hf0 : l = fill l (s.size + 1) := by rw [← hL, fill_full]
  obtain ⟨A1, c1, rfl, hn1, hnc1, hcm1, _⟩ := Lies.of_own hown1
  rw [hL] at hown1 ⊢
  rw [hf0, Nat.add_comm 1] at hown1
  have HL := Lib.hid hL
  have Hpad := Lib.hid hpad
  clear hpad hf0 hL hn1
  go_wp2_with fail
  go_loopw [6] (fun v wr => ∃ j A c, s.size + 1 ≤ j ∧ j ≤ k ∧ v = .slice A j c ∧ wr.ownsRow w.heap.size 5 1 (.slice A j c) j (cells (fill l j)) ∧ Below w.heap.size w wr) (fun v _ => k - lenV v)
  case atStart => exact ⟨s.size + 1, A1, c1, Nat.le_refl _, h3, rfl, hown1, hb1⟩
  case round =>
    obtain ⟨j, A, c, hj1, hj2, rfl, hown', hb'⟩ := hrel
    by_cases hlt : j < k
    · have ho' := hown'.alloc (.cells #[Value.int .u8 0] 5)
      have hl' := Lies.lit wr #[Value.int .u8 0] [0] rfl (wr.heap.size + 1) (by omega)
      have hb'' := hb'.alloc hb'.size (.cells #[Value.int .u8 0] 5)
      have hs'' := hb''.size
      go_wp2_with (at_builtin; refine wpList_append_lies rfl _ _ 23 rfl w.heap.size i0 Try.underlying23 hi hz0 hz1 hz2 _ j (fill l j) [0] rfl ho' (wr.heap.size + 1) _ _ _ rfl hl' rfl (by omega) hs'' ?_)
      intro v2 w2 hown2 hg2
      rw [fill_step (by have := HL.out; omega)] at hown2
      obtain ⟨A2, c2, rfl, hn2, _, _, _⟩ := Lies.of_own hown2
      have hb2 := hb''.grown hg2 hs'' (own_ge ho')
      rw [← hn2] at hown2 ⊢
      clear hn2 ho' hl'
      go_wp2_with fail
      go_roundw
      case rel => exact ⟨j + 1, A2, c2, by omega, by omega, rfl, hown2, hb2⟩
      case measure => simp [lenV]; omega
    · obtain rfl : j = k := by omega
      obtain ⟨A2, c2, hv, hn2, hnc, hcm, hlies⟩ := Lies.of_own hown'
      have Hv := Lib.hid hv
      have Hn := Lib.hid hn2
      clear hv hn2
      go_wp2_with fail
      go_ret2
      rw [Hpad.out]
      exact ⟨A2, c2, by rw [← Hv.out]; rfl, by have := Hn.out; omega, hcm, hlies, hb'⟩

theorem rpad_any (s : ByteArray) (k : Int) (w : World) :
    Calls Try.prog 15 #[.string s, .int .i64 k] w (RetRowCode w (padBytes s.data.toList k) (padCode s.data.toList k)) := by
  have hlen : s.size = s.data.toList.length := Lib.size_eq s
  unfold padBytes padCode
  by_cases h : k < 1 ∨ 256 < k
  · rw [if_pos h, if_pos (by omega)]
    exact rpad_range s k w h
  · rw [if_neg h]
    by_cases h2 : k - 1 < s.data.toList.length
    · rw [if_pos h2, if_pos (by omega)]
      exact rpad_size s k w (by omega) (by omega) (by omega)
    · rw [if_neg h2, if_neg (by omega)]
      obtain ⟨n, rfl⟩ := Int.eq_ofNat_of_zero_le (show 0 ≤ k by omega)
      rw [Int.toNat_natCast]
      exact rpad_ok s n w (by omega) (by omega) (by omega)
end Go.Proofs.Ytpgddlajlehilaa
