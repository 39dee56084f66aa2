/-
  The contract of the reference's Get (layer 1).
-/
import Derived.Test.YtoiphbdmmiikaaaRows
import Derived.Test.YtoiphbdmmiikaaaMem
import Derived.Test.YtoiphbdmmiikaaaNum
import Derived.WalkKit
import Derived.WalkLawsBesides
import Derived.Lib.Hide
import Derived.BigQuiet
import Derived.Deep.QuietTactic
namespace Go.Proofs.Ytoiphbdmmiikaaa
open Go.RowKit
set_option linter.unusedVariables false

/-- A call that answers v and only draws. -/
def Quietly (v : Value) (w : World) (e : Ending) (w' : World) : Prop := e = .returned v ∧ ∃ m, w' = w.drewN m

theorem leN_step (x : UInt8) (ys : List UInt8) (h : ys.length ≤ 7) : IntKind.u64.wrap ((x.toNat : Int) + IntKind.u64.wrap (256 * ((leN ys : Nat) : Int))) = ((leN (x :: ys) : Nat) : Int) := by
  have h1 := leN_lt ys
  have h3 : (256 : Nat) ^ ys.length ≤ 256 ^ 7 := Nat.pow_le_pow_right (by omega) h
  have h5 : (256 : Nat) ^ 7 = 72057594037927936 := by decide
  have hx := x.toNat_lt
  rw [IntWalk.u64_in (256 * _) (by omega), IntWalk.u64_in _ (by omega)]
  simp only [leN]
  omega

set_option maxRecDepth 100000 in
set_option maxHeartbeats 400000 in
theorem rget_small : ∀ (xs : List UInt8) (A : Option Addr) (n c : Nat) (w : World) (B : Nat), n = xs.length → n ≤ 8 → n ≤ c → Lies w B A xs →
    Calls Try.prog 27 #[.slice A n c] w fun e w' => e = .returned (.int .u64 (leN xs : Nat)) ∧ ∃ m, w' = w.drewN m := by
  intro xs
  induction xs with
  | nil =>
    intro A n c w B hn h8 hc h
    simp only [List.length_nil] at hn
    subst hn
    go_enter Try.func27, Try.ntmps27
    go_wp2_with fail
    go_ret
    exact ⟨rfl, 0, rfl⟩
  | cons x ys ih =>
    intro A n c w B hn h8 hc h
    obtain ⟨b, o, rfl, hb, hcell⟩ := h (by simp)
    have hL : Hid (Lies w B (if c = 1 then some ⟨b, o, none⟩ else (some (⟨b, o, none⟩ : Addr)).map (·.add 1)) ys) := Lies.drop (k := 1) h (by simp only [List.length_cons] at hn ⊢; omega)
    have h0 : w.cell? ⟨b, o, none⟩ = some (.int .u8 (x.toNat : Int)) := hcell 0 x rfl
    have Hih := Lib.hid ih
    have hx := x.toNat_lt
    have hp : (0 : Int) < (n : Int) := by simp only [List.length_cons] at hn; omega
    have hne : ((n : Int) == 0) = false := by rw [beq_eq_false_iff_ne]; omega
    have Hs := Lib.hid (leN_step x ys (by simp only [List.length_cons] at hn; omega))
    have Hn := Lib.hid hn
    clear h hcell ih hn
    by_cases hc1 : c = 1
    · subst hc1
      have hL' : Hid (Lies w B (some ⟨b, o, none⟩) ys) := by simpa using hL
      go_enter Try.func27, Try.ntmps27
      go_wp2_with fail
      go_quiet ((go_at_call 27; refine Calls.quiet_of (Hih.out _ _ _ _ B ?_ ?_ ?_ ?_); (have := Hn.out; simp only [List.length_cons] at this; omega); omega; omega; exact hL'.out))
      go_wp2_with fail
      go_ret
      exact ⟨by rw [← Hs.out]; rfl, _, rfl⟩
    · have hL' : Hid (Lies w B (some ⟨b, o + 1, none⟩) ys) := by rw [if_neg hc1] at hL; exact hL
      go_enter Try.func27, Try.ntmps27
      go_wp2_with fail
      go_quiet ((go_at_call 27; refine Calls.quiet_of (Hih.out _ _ _ _ B ?_ ?_ ?_ ?_); (have := Hn.out; simp only [List.length_cons] at this; omega); omega; omega; exact hL'.out))
      go_wp2_with fail
      go_ret
      exact ⟨by rw [← Hs.out]; rfl, _, rfl⟩

set_option maxRecDepth 100000 in
set_option maxHeartbeats 400000 in
theorem rget_any (xs : List UInt8) (A : Option Addr) (n c : Nat) (w : World) (B : Nat) (hn : n = xs.length) (hc : n ≤ c) (h : Lies w B A xs) :
    Calls Try.prog 27 #[.slice A n c] w fun e w' => e = .returned (.int .u64 (leN (xs.take 8) : Nat)) ∧ ∃ m, w' = w.drewN m := by
  by_cases h8 : n ≤ 8
  · rw [List.take_of_length_le (by omega)]
    exact rget_small xs A n c w B hn h8 hc h
  · have hL := Lib.hid (h.take 8)
    have Hn := Lib.hid hn
    have hne : ((n : Int) == 0) = false := by rw [beq_eq_false_iff_ne]; omega
    clear h hn
    go_enter Try.func27, Try.ntmps27
    go_wp2_with fail
    refine (rget_small (xs.take 8) _ _ _ _ B ?_ ?_ ?_ ?_).mono ?_
    · have := Hn.out
      rw [List.length_take]
      omega
    · omega
    · omega
    · exact hL.out
    rintro e w' ⟨rfl, m, rfl⟩
    go_wp2_with fail
    go_ret
    exact ⟨rfl, _, rfl⟩
end Go.Proofs.Ytoiphbdmmiikaaa
