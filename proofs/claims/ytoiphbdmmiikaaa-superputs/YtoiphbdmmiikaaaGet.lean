/-
  Contracts of word.Get and of the reference's Get.
-/
import Derived.Test.YtoiphbdmmiikaaaRows
import Derived.Test.YtoiphbdmmiikaaaMem
import Derived.Test.YtoiphbdmmiikaaaNum
import Derived.WalkKit
import Derived.WalkLawsBesides
import Derived.BigQuiet
import Derived.Deep.QuietTactic
import Derived.Lib.Hide
namespace Go.Proofs.Ytoiphbdmmiikaaa
open Go.RowKit

theorem get_step {xs : List UInt8} {k : Nat} {x : UInt8} (hx : xs[k]? = some x) (hk : k < 8) :
    bits .or .u64 ((leN (xs.take k) : Nat) : Int) (IntKind.u64.wrap ((x.toNat : Int) * 2 ^ (8 * (k : Int)).toNat)) = ((leN (xs.take (k + 1)) : Nat) : Int) := by
  have h1 := leN_take_lt xs k
  have h2 := leN_take_lt xs (k + 1)
  have h3 : (256 : Nat) ^ (k + 1) ≤ 256 ^ 8 := Nat.pow_le_pow_right (by omega) (by omega)
  have e1 : (8 * (k : Int)).toNat = 8 * k := by omega
  have e2 : ((x.toNat : Int) * 2 ^ (8 * k)) = ((x.toNat * 256 ^ k : Nat) : Int) := by rw [pow256]; simp
  have h4 := leN_take_succ hx
  have h5 : (256 : Nat) ^ 8 = 18446744073709551616 := by decide
  rw [e1, e2, IntWalk.u64_in _ (by omega), u64_or_nat _ _ (by omega) (by omega), or_join h1, h4]

set_option maxRecDepth 100000 in
set_option maxHeartbeats 400000 in
theorem get_any (A : Option Addr) (c : Nat) (xs : List UInt8) (w : World) (B : Nat) (h : Lies w B A xs) (hl : xs.length ≤ 9223372036854775807) :
    Calls Try.prog 46 #[.slice A xs.length c] w fun e w' => e = .returned (.int .u64 (leN (xs.take 8) : Nat)) ∧ w = w' := by
  have Hl : Hid (Lies w B A xs) := h
  clear h
  by_cases h8 : xs.length ≤ 8
  all_goals
    go_enter Try.func46, Try.ntmps46
    go_wp2
    go_loop [3, 8] (fun n i => ∃ k : Nat, k ≤ xs.length ∧ k ≤ 8 ∧ i = .int .i64 k ∧ n = .int .u64 (leN (xs.take k) : Nat)) (fun _ i => 8 - (intOf i).toNat)
    case atStart => exact ⟨0, Nat.zero_le _, Nat.zero_le _, rfl, rfl⟩
    case round =>
      obtain ⟨k, hk, hk8, rfl, rfl⟩ := hrel
      by_cases hlt : k < xs.length ∧ k < 8
      · obtain ⟨hlt, hlt8⟩ := hlt
        obtain ⟨b, o, x, rfl, _, hx, hc⟩ := Hl.out.at_ hlt
        have Hx := Lib.hid (get_step hx hlt8)
        clear hx
        have hxl := x.toNat_lt
        go_wp2
        go_round
        case rel => exact ⟨k + 1, by omega, by omega, by go_num, by rw [← Hx.out]; rfl⟩
        case measure => simp [intOf]; omega
      · have Hk : Hid (leN (xs.take 8) = leN (xs.take k)) := by
          show _ = _
          by_cases e : k = 8
          · rw [e]
          · rw [List.take_of_length_le (by omega), List.take_of_length_le (i := k) (by omega)]
        go_wp2
        go_ret
        exact ⟨by rw [Hk.out]; rfl, rfl⟩

theorem get_n (A : Option Addr) (n c : Nat) (xs : List UInt8) (w : World) (B : Nat) (h : Lies w B A xs) (hn : n = xs.length) (hl : n ≤ 9223372036854775807) :
    Calls Try.prog 46 #[.slice A n c] w fun e w' => e = .returned (.int .u64 (leN (xs.take 8) : Nat)) ∧ w = w' := by
  subst hn
  exact get_any A c xs w B h hl
end Go.Proofs.Ytoiphbdmmiikaaa
