/-
  Contracts of word.Get and of the reference's Get.
-/
import Derived.Test.YtpgddlajlehilaaRows
import Derived.Test.YtpgddlajlehilaaMem
import Derived.Test.YtpgddlajlehilaaNum
import Derived.WalkKit
import Derived.WalkLawsBesides
import Derived.BigQuiet
import Derived.Deep.QuietTactic
import Derived.Lib.Hide
namespace Go.Proofs.Ytpgddlajlehilaa
open Go.RowKit

theorem get_step {xs : List UInt8} {k : Nat} {x : UInt8} (hx : xs[k]? = some x) (hk : k < 8) :
    bits .or .u64 ((leN (xs.take k) : Nat) : Int) (IntKind.u64.wrap ((x.toNat : Int) * 2 ^ (8 * (k : Int)).toNat)) = ((leN (xs.take (k + 1)) : Nat) : Int) := by
  have h1 := leN_take_lt xs k
  have h2 := leN_take_lt xs (k + 1)
  have h3 : (256 : Nat) ^ (k + 1) ≤ 256 ^ 8 := Nat.pow_le_pow_right (by omega) (by omega)
  have e1 : (8 * (k : Int)).toNat = 8 * k := by omega
  have e2 : ((x.toNat : Int) * 2 ^ (8 * k)) = ((x.toNat * 256 ^ k : Nat) : Int) := by rw [pow256]; simp
  have h4 := leN_take_succ hx
  have h5 : (256 : Nat) ^ 8 = 18446744073709551616 := by decide
  rw [e1, e2, IntWalk.u64_in _ (by omega), u64_or_nat _ _ (by omega) (by omega), or_join h1, h4]

set_option maxHeartbeats 400000 in
theorem get_any (A : Option Addr) (c : Nat) (xs : List UInt8) (w : World) (B : Nat) (h : Lies w B A xs) (hl : xs.length ≤ 9223372036854775807) :
    Calls Try.prog 12 #[.slice A xs.length c] w fun e w' => e = .returned (.int .u64 (leN (xs.take 8) : Nat)) ∧ w = w' := by
  have Hl : Hid (Lies w B A xs) := h
  clear h
  by_cases h8 : xs.length ≤ 8
  all_goals
    go_enter Try.func12, Try.ntmps12
    go_wp2
    go_loop [3, 8] (fun n i => ∃ k : Nat, k ≤ xs.length ∧ k ≤ 8 ∧ i = .int .i64 k ∧ n = .int .u64 (leN (xs.take k) : Nat)) (fun _ i => 8 - (intOf i).toNat)
    case atStart => exact ⟨0, Nat.zero_le _, Nat.zero_le _, rfl, rfl⟩
    case round =>
      obtain ⟨k, hk, hk8, rfl, rfl⟩ := hrel
      by_cases hlt : k < xs.length ∧ k < 8
      · obtain ⟨hlt, hlt8⟩ := hlt
        obtain ⟨b, o, x, rfl, _, hx, hc⟩ := Hl.out.at_ hlt
        have Hx := Lib.hid (get_step hx hlt8)
        clear hx
        have hxl := x.toNat_lt
        go_wp2
        go_round
        case rel => exact ⟨k + 1, by omega, by omega, by go_num, by rw [← Hx.out]; rfl⟩
        case measure => simp [intOf]; omega
      · have Hk : Hid (leN (xs.take 8) = leN (xs.take k)) := by
          show _ = _
          by_cases e : k = 8
          · rw [e]
          · rw [List.take_of_length_le (by omega), List.take_of_length_le (i := k) (by omega)]
        go_wp2
        go_ret
        exact ⟨by rw [Hk.out]; rfl, rfl⟩

theorem get_n (A : Option Addr) (n c : Nat) (xs : List UInt8) (w : World) (B : Nat) (h : Lies w B A xs) (hn : n = xs.length) (hl : n ≤ 9223372036854775807) :
    Calls Try.prog 12 #[.slice A n c] w fun e w' => e = .returned (.int .u64 (leN (xs.take 8) : Nat)) ∧ w = w' := by
  subst hn
  exact get_any A c xs w B h hl

/-- A call that answers v and only draws. -/
def Quietly (v : Value) (w : World) (e : Ending) (w' : World) : Prop := e = .returned v ∧ ∃ m, w' = w.drewN m

theorem leN_step (x : UInt8) (ys : List UInt8) (h : ys.length ≤ 7) : IntKind.u64.wrap ((x.toNat : Int) + IntKind.u64.wrap (256 * ((leN ys : Nat) : Int))) = ((leN (x :: ys) : Nat) : Int) := by
  have h1 := leN_lt ys
  have h3 : (256 : Nat) ^ ys.length ≤ 256 ^ 7 := Nat.pow_le_pow_right (by omega) h
  have h5 : (256 : Nat) ^ 7 = 72057594037927936 := by decide
  have hx := x.toNat_lt
  rw [IntWalk.u64_in (256 * _) (by omega), IntWalk.u64_in _ (by omega)]
  simp only [leN]
  omega

set_option maxHeartbeats 400000 in
theorem rget_small : ∀ (xs : List UInt8) (A : Option Addr) (n c : Nat) (w : World) (B : Nat), n = xs.length → n ≤ 8 → n ≤ c → Lies w B A xs →
    Calls Try.prog 13 #[.slice A n c] w fun e w' => e = .returned (.int .u64 (leN xs : Nat)) ∧ ∃ m, w' = w.drewN m := by
  intro xs
  induction xs with
  | nil =>
    intro A n c w B hn h8 hc h
    simp only [List.length_nil] at hn
    subst hn
    go_enter Try.func13, Try.ntmps13
    go_wp2_with fail
    go_ret
    exact ⟨rfl, 0, rfl⟩
  | cons x ys ih =>
    intro A n c w B hn h8 hc h
    obtain ⟨b, o, rfl, hb, hcell⟩ := h (by simp)
    have hL : Hid (Lies w B (if c = 1 then some ⟨b, o, none⟩ else (some (⟨b, o, none⟩ : Addr)).map (·.add 1)) ys) := Lies.drop (k := 1) h (by simp only [List.length_cons] at hn ⊢; omega)
    have h0 : w.cell? ⟨b, o, none⟩ = some (.int .u8 (x.toNat : Int)) := hcell 0 x rfl
    have Hih := Lib.hid ih
    have hx := x.toNat_lt
    have hp : (0 : Int) < (n : Int) := by simp only [List.length_cons] at hn; omega
    have hne : ((n : Int) == 0) = false := by rw [beq_eq_false_iff_ne]; omega
    have Hs := Lib.hid (leN_step x ys (by simp only [List.length_cons] at hn; omega))
    have Hn := Lib.hid hn
    clear h hcell ih hn
    by_cases hc1 : c = 1
    · subst hc1
      have hL' : Hid (Lies w B (some ⟨b, o, none⟩) ys) := by simpa using hL
      go_enter Try.func13, Try.ntmps13
      go_wp2_with fail
      go_quiet ((go_at_call 13; refine Calls.quiet_of (Hih.out _ _ _ _ B ?_ ?_ ?_ ?_); (have := Hn.out; simp only [List.length_cons] at this; omega); omega; omega; exact hL'.out))
      go_wp2_with fail
      go_ret
      exact ⟨by rw [← Hs.out]; rfl, _, rfl⟩
    · have hL' : Hid (Lies w B (some ⟨b, o + 1, none⟩) ys) := by rw [if_neg hc1] at hL; exact hL
      go_enter Try.func13, Try.ntmps13
      go_wp2_with fail
      go_quiet ((go_at_call 13; refine Calls.quiet_of (Hih.out _ _ _ _ B ?_ ?_ ?_ ?_); (have := Hn.out; simp only [List.length_cons] at this; omega); omega; omega; exact hL'.out))
      go_wp2_with fail
      go_ret
      exact ⟨by rw [← Hs.out]; rfl, _, rfl⟩

set_option maxHeartbeats 400000 in
theorem rget_any (xs : List UInt8) (A : Option Addr) (n c : Nat) (w : World) (B : Nat) (hn : n = xs.length) (hc : n ≤ c) (h : Lies w B A xs) :
    Calls Try.prog 13 #[.slice A n c] w fun e w' => e = .returned (.int .u64 (leN (xs.take 8) : Nat)) ∧ ∃ m, w' = w.drewN m := by
  by_cases h8 : n ≤ 8
  · rw [List.take_of_length_le (by omega)]
    exact rget_small xs A n c w B hn h8 hc h
  · have hL := Lib.hid (h.take 8)
    have Hn := Lib.hid hn
    have hne : ((n : Int) == 0) = false := by rw [beq_eq_false_iff_ne]; omega
    clear h hn
    go_enter Try.func13, Try.ntmps13
    go_wp2_with fail
    refine (rget_small (xs.take 8) _ _ _ _ B ?_ ?_ ?_ ?_).mono ?_
    · have := Hn.out
      rw [List.length_take]
      omega
    · omega
    · omega
    · exact hL.out
    rintro e w' ⟨rfl, m, rfl⟩
    go_wp2_with fail
    go_ret
    exact ⟨rfl, _, rfl⟩
end Go.Proofs.Ytpgddlajlehilaa
