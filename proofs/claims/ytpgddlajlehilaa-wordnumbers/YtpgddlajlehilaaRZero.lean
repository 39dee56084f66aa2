/-
  Contracts of the reference's Zero (layer 1), and of Few.
-/
import Derived.Test.YtpgddlajlehilaaZero
namespace Go.Proofs.Ytpgddlajlehilaa
open Go.RowKit
set_option linter.unusedVariables false

theorem byte_pos {x : UInt8} (h : (0 : Int) < (x.toNat : Int)) : x ≠ 0 := by rintro rfl; simp at h
theorem byte_npos {x : UInt8} (h : ¬ (0 : Int) < (x.toNat : Int)) : x = 0 := UInt8.toNat.inj (by have : x.toNat = 0 := by omega
                                                                                                 rw [this]; rfl)

set_option maxHeartbeats 400000 in
theorem rzero_any (A : Option Addr) (c : Nat) (xs : List UInt8) (w : World) (B : Nat) (h : Lies w B A xs) (hl : xs.length ≤ 9223372036854775807) :
    Calls Try.prog 20 #[.slice A xs.length c] w fun e w' => e = .returned (.bool (zeros xs)) ∧ w = w' := by
  have Hl : Hid (Lies w B A xs) := h
  clear h
  go_enter Try.func20, Try.ntmps20
  go_wp2
  go_loop [3] (fun i => ∃ k : Nat, k ≤ xs.length ∧ i = .int .i64 k ∧ zeros (xs.take k) = true) (fun i => xs.length - (intOf i).toNat)
  case atStart => exact ⟨0, Nat.zero_le _, rfl, rfl⟩
  case round =>
    obtain ⟨k, hk, rfl, hz⟩ := hrel
    have Hz := Lib.hid hz
    clear hz
    by_cases hlt : k < xs.length
    · obtain ⟨b, o, x, rfl, _, hx, hc⟩ := Hl.out.at_ hlt
      have Hx := Lib.hid hx
      clear hx
      by_cases hb : (0 : Int) < (x.toNat : Int)
      · go_wp2
        go_ret
        exact ⟨by rw [zeros_false Hx.out (byte_pos hb)]; rfl, rfl⟩
      · have Hb := Lib.hid (byte_npos hb)
        go_wp2
        go_round
        case rel => exact ⟨k + 1, by omega, by go_num, by rw [zeros_take_succ Hx.out, Hz.out, Hb.out]; rfl⟩
        case measure => simp [intOf]; omega
    · go_wp2
      go_ret
      refine ⟨?_, rfl⟩
      have := Hz.out
      rw [List.take_of_length_le (by omega)] at this
      rw [this]; rfl

theorem rzero_n (A : Option Addr) (n c : Nat) (xs : List UInt8) (w : World) (B : Nat) (h : Lies w B A xs) (hn : n = xs.length) (hl : n ≤ 9223372036854775807) :
    Calls Try.prog 20 #[.slice A n c] w fun e w' => e = .returned (.bool (zeros xs)) ∧ w = w' := by
  subst hn
  exact rzero_any A c xs w B h hl

theorem few_no (A : Option Addr) (n c : Nat) (w : World) (hl : n ≤ 3000) : Calls Try.prog 7 #[.slice A n c] w fun e w' => e = .returned (.int .i64 0) ∧ w = w' := by
  go_enter Try.func7, Try.ntmps7
  go_wp2
  go_ret
  exact ⟨rfl, rfl⟩
theorem few_yes (A : Option Addr) (n c : Nat) (w : World) (hl : 3000 < n) : Calls Try.prog 7 #[.slice A n c] w fun e w' => e = .returned (.int .i64 1) ∧ w = w' := by
  go_enter Try.func7, Try.ntmps7
  go_wp2
  go_ret
  exact ⟨rfl, rfl⟩
end Go.Proofs.Ytpgddlajlehilaa
