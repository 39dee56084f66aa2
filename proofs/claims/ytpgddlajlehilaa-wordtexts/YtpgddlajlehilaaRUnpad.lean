/-
  The contract of the reference's Unpad (layer 1).
-/
import Derived.Test.YtpgddlajlehilaaUnpad
import Derived.Test.YtpgddlajlehilaaRZero
namespace Go.Proofs.Ytpgddlajlehilaa
open Go.RowKit
set_option linter.unusedVariables false

theorem runpad_nil (A : Option Addr) (c : Nat) (w : World) : Calls Try.prog 17 #[.slice A 0 c] w fun e w' => e = .returned (unpadV []) ∧ w = w' := by
  go_enter Try.func17, Try.ntmps17
  go_wp2
  go_ret2
  exact ⟨rfl, rfl⟩

set_option maxHeartbeats 400000 in
theorem runpad_cons (x : UInt8) (ys : List UInt8) (A : Option Addr) (n c : Nat) (w : World) (B : Nat) (hn : n = ys.length + 1) (hc : n ≤ c) (hm : c ≤ 9223372036854775807) (h : Lies w B A (x :: ys)) :
    Calls Try.prog 17 #[.slice A n c] w fun e w' => e = .returned (unpadV (x :: ys)) ∧ w = w' := by
  obtain ⟨b, o, rfl, hb, hcell⟩ := h (by simp)
  have h0 : w.cell? ⟨b, o, none⟩ = some (.int .u8 (x.toNat : Int)) := hcell 0 x rfl
  have Hl := Lib.hid h
  have hx := x.toNat_lt
  have hp : (0 : Int) < (n : Int) := by omega
  have hne : ((n : Int) == 0) = false := by rw [beq_eq_false_iff_ne]; omega
  have Hn := Lib.hid hn
  clear h hcell hn
  by_cases hlt : ys.length < x.toNat
  · have Hv := Lib.hid (unpad_no (x := x) (ys := ys) (by omega))
    have hlt' : (n : Int) - 1 < (x.toNat : Int) := by have := Hn.out; omega
    go_enter Try.func17, Try.ntmps17
    go_wp2
    all_goals
      go_ret2
      exact ⟨by rw [Hv.out]; rfl, rfl⟩
  · have hlt' : decide ((n : Int) - 1 < (x.toNat : Int)) = false := by have := Hn.out; simp; omega
    have hlt2 : ¬ (n : Int) - 1 < (x.toNat : Int) := by have := Hn.out; omega
    cases hz : zeros (ys.drop x.toNat)
    · have Hv := Lib.hid (unpad_no (x := x) (ys := ys) (by simp [hz]))
      have Hz := Lib.hid hz
      clear hz
      go_enter Try.func17, Try.ntmps17
      go_wp2_with fail
      all_goals
        refine (rzero_n _ _ _ (ys.drop x.toNat) _ B ?_ ?_ ?_).mono ?_
        · exact lies_cut Hl.out x.toNat _ (fun _ => by have := Hn.out; omega)
        · have := Hn.out; rw [List.length_drop]; omega
        · omega
        rintro e w' ⟨rfl, rfl⟩
        rw [Hz.out]
        go_wp2_with fail
        go_ret2
        exact ⟨by rw [Hv.out]; rfl, rfl⟩
    · have Hv := Lib.hid (unpad_yes (x := x) (ys := ys) ⟨by omega, hz⟩)
      have Hz := Lib.hid hz
      clear hz
      go_enter Try.func17, Try.ntmps17
      go_wp2_with fail
      all_goals
        refine (rzero_n _ _ _ (ys.drop x.toNat) _ B ?_ ?_ ?_).mono ?_
        · exact lies_cut Hl.out x.toNat _ (fun _ => by have := Hn.out; omega)
        · have := Hn.out; rw [List.length_drop]; omega
        · omega
        rintro e w' ⟨rfl, rfl⟩
        rw [Hz.out]
        have hcv : ∀ o' c' k, k = x.toNat → (0 < ys.length → o' = o + 1) → (convert 23 9 (.slice (some ⟨b, o', none⟩) k c')).run Try.prog w = .ok (.string ⟨(ys.take x.toNat).toArray⟩) w := fun o' c' k hk ho => by
          subst hk
          exact run_str (P := Try.prog) 23 5 9 Try.underlying23 Try.underlying5 Try.underlying9 x.toNat c' (lies_head Hl.out x.toNat o' ho) (by rw [List.length_take]; omega)
        have hcv1 := fun c' => hcv (o + 1) c' _ rfl (fun _ => rfl)
        have hcv0 : c = 1 → ∀ c', (convert 23 9 (.slice (some ⟨b, o, none⟩) x.toNat c')).run Try.prog w = .ok (.string ⟨(ys.take x.toNat).toArray⟩) w := fun hc1 c' => hcv o c' _ rfl (fun _ => by have := Hn.out; omega)
        have hcvz : ∀ o' c', (convert 23 9 (.slice (some ⟨b, o', none⟩) 0 c')).run Try.prog w = .ok (.string ⟨#[]⟩) w := fun o' c' =>
          run_str (P := Try.prog) 23 5 9 Try.underlying23 Try.underlying5 Try.underlying9 0 c' (Lies.nil w B (some ⟨b, o', none⟩)) rfl
        clear hcv
        go_wp2_with fail
        all_goals
          go_ret2
          exact ⟨by rw [Hv.out]; first | rfl | (rw [show x.toNat = 0 by omega]; rfl), rfl⟩

theorem runpad_any (xs : List UInt8) (A : Option Addr) (n c : Nat) (w : World) (B : Nat) (hn : n = xs.length) (hc : n ≤ c) (hm : c ≤ 9223372036854775807) (h : Lies w B A xs) :
    Calls Try.prog 17 #[.slice A n c] w fun e w' => e = .returned (unpadV xs) ∧ w = w' := by
  rcases xs with _ | ⟨x, ys⟩
  · simp only [List.length_nil] at hn
    subst hn
    exact runpad_nil A c w
  · exact runpad_cons x ys A n c w B (by simpa using hn) hc hm h
end Go.Proofs.Ytpgddlajlehilaa
