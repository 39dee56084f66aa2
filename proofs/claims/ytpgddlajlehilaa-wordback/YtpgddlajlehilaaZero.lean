/-
  Contracts of word.Zero and of the reference's Zero, and of Few.
-/
import Derived.Test.YtpgddlajlehilaaRows
import Derived.Test.YtpgddlajlehilaaMem
import Derived.WalkKit
import Derived.WalkLawsBesides
import Derived.Lib.Hide
namespace Go.Proofs.Ytpgddlajlehilaa
open Go.RowKit

/-- All bytes are nought. -/
def zeros (xs : List UInt8) : Bool := xs.all (· == 0)

theorem zeros_take_succ {xs : List UInt8} {k : Nat} {x : UInt8} (h : xs[k]? = some x) : zeros (xs.take (k + 1)) = (zeros (xs.take k) && x == 0) := by
  obtain ⟨hk, rfl⟩ := List.getElem?_eq_some_iff.1 h
  rw [List.take_succ_eq_append_getElem hk]
  simp only [zeros, List.all_append, List.all_cons, List.all_nil, Bool.and_true]
theorem zeros_false {xs : List UInt8} {k : Nat} {x : UInt8} (h : xs[k]? = some x) (hx : x ≠ 0) : zeros xs = false := by
  obtain ⟨hk, rfl⟩ := List.getElem?_eq_some_iff.1 h
  unfold zeros
  rw [List.all_eq_false]
  exact ⟨_, List.getElem_mem hk, by rw [beq_iff_eq]; exact hx⟩
theorem byte_ne {x : UInt8} (h : ((x.toNat : Int) != 0) = true) : x ≠ 0 := by rintro rfl; simp at h
theorem byte_eq {x : UInt8} (h : ((x.toNat : Int) != 0) = false) : x = 0 := by
  have : x.toNat = 0 := by simpa using h
  exact UInt8.toNat.inj this

set_option maxHeartbeats 400000 in
theorem zero_any (A : Option Addr) (c : Nat) (xs : List UInt8) (w : World) (B : Nat) (h : Lies w B A xs) (hl : xs.length ≤ 9223372036854775807) :
    Calls Try.prog 19 #[.slice A xs.length c] w fun e w' => e = .returned (.bool (zeros xs)) ∧ w = w' := by
  have Hl : Hid (Lies w B A xs) := h
  clear h
  go_enter Try.func19, Try.ntmps19
  go_wp2
  go_loop [7] (fun i => ∃ k : Nat, k ≤ xs.length ∧ i = .int .i64 k ∧ zeros (xs.take k) = true) (fun i => xs.length - (intOf i).toNat)
  case atStart => exact ⟨0, Nat.zero_le _, rfl, rfl⟩
  case round =>
    obtain ⟨k, hk, rfl, hz⟩ := hrel
    have Hz := Lib.hid hz
    clear hz
    by_cases hlt : k < xs.length
    · obtain ⟨b, o, x, rfl, _, hx, hc⟩ := Hl.out.at_ hlt
      have Hx := Lib.hid hx
      clear hx
      cases hb : ((x.toNat : Int) != 0)
      · go_wp2
        go_round
        case rel => exact ⟨k + 1, by omega, by go_num, by rw [zeros_take_succ Hx.out, Hz.out, byte_eq hb]; rfl⟩
        case measure => simp [intOf]; omega
      · go_wp2
        go_ret
        exact ⟨by rw [zeros_false Hx.out (byte_ne hb)]; rfl, rfl⟩
    · go_wp2
      go_ret
      refine ⟨?_, rfl⟩
      have := Hz.out
      rw [List.take_of_length_le (by omega)] at this
      rw [this]; rfl

theorem zero_n (A : Option Addr) (n c : Nat) (xs : List UInt8) (w : World) (B : Nat) (h : Lies w B A xs) (hn : n = xs.length) (hl : n ≤ 9223372036854775807) :
    Calls Try.prog 19 #[.slice A n c] w fun e w' => e = .returned (.bool (zeros xs)) ∧ w = w' := by
  subst hn
  exact zero_any A c xs w B h hl
end Go.Proofs.Ytpgddlajlehilaa
