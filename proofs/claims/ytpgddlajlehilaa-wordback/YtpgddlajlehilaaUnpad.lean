/-
  Contracts of word.Unpad and of the reference's Unpad.
-/
import Derived.Test.YtpgddlajlehilaaZero
import Derived.Test.YtpgddlajlehilaaStr
import Derived.WalkKit
import Derived.WalkLawsBesides
import Derived.Lib.Hide
import Derived.BigQuiet
import Derived.Deep.QuietTactic
namespace Go.Proofs.Ytpgddlajlehilaa
open Go.RowKit
set_option linter.unusedVariables false

/-- What a padded field holds, if it is one. -/
def unpadO : List UInt8 → Option (List UInt8)
  | [] => none
  | x :: ys => if x.toNat ≤ ys.length ∧ zeros (ys.drop x.toNat) = true then some (ys.take x.toNat) else none
def unpadS (xs : List UInt8) : List UInt8 := (unpadO xs).getD []
def unpadC (xs : List UInt8) : Int := if (unpadO xs).isSome then 0 else 3
/-- What Unpad answers. -/
def unpadV (xs : List UInt8) : Value := .tuple #[.string ⟨(unpadS xs).toArray⟩, .int .i64 (unpadC xs)]

theorem unpad_no {x : UInt8} {ys : List UInt8} (h : ¬ (x.toNat ≤ ys.length ∧ zeros (ys.drop x.toNat) = true)) : unpadV (x :: ys) = .tuple #[.string ⟨#[]⟩, .int .i64 3] := by
  simp [unpadV, unpadS, unpadC, unpadO, h]
theorem unpad_yes {x : UInt8} {ys : List UInt8} (h : x.toNat ≤ ys.length ∧ zeros (ys.drop x.toNat) = true) : unpadV (x :: ys) = .tuple #[.string ⟨(ys.take x.toNat).toArray⟩, .int .i64 0] := by
  simp [unpadV, unpadS, unpadC, unpadO, h]

theorem lies_cut {w : World} {B b o : Nat} {x : UInt8} {ys : List UInt8} (h : Lies w B (some ⟨b, o, none⟩) (x :: ys)) (k o' : Nat) (ho : k < ys.length → o' = o + 1 + k) : Lies w B (some ⟨b, o', none⟩) (ys.drop k) := by
  intro hx
  have hk : k < ys.length := by
    rcases Nat.lt_or_ge k ys.length with h' | h'
    · exact h'
    · exact absurd (List.drop_eq_nil_of_le h') hx
  obtain ⟨b', o2, e, hb, hc⟩ := h (by simp)
  injection e with e
  injection e with e1 e2
  subst e1 e2
  refine ⟨b, o', rfl, hb, fun i y hi => ?_⟩
  rw [ho hk, show o + 1 + k + i = o + (k + i + 1) by omega]
  exact hc _ y (by rw [List.getElem?_cons_succ, ← hi, List.getElem?_drop])
theorem lies_head {w : World} {B b o : Nat} {x : UInt8} {ys : List UInt8} (h : Lies w B (some ⟨b, o, none⟩) (x :: ys)) (k o' : Nat) (ho : 0 < ys.length → o' = o + 1) : Lies w B (some ⟨b, o', none⟩) (ys.take k) := by
  have := (lies_cut h 0 o' (by simpa using ho)).take k
  simpa using this

theorem unpad_nil (A : Option Addr) (c : Nat) (w : World) : Calls Try.prog 16 #[.slice A 0 c] w fun e w' => e = .returned (unpadV []) ∧ ∃ m, w' = w.drewN m := by
  go_enter Try.func16, Try.ntmps16
  go_wp2
  go_ret2
  exact ⟨rfl, 0, rfl⟩

set_option maxHeartbeats 400000 in
theorem unpad_cons (x : UInt8) (ys : List UInt8) (A : Option Addr) (n c : Nat) (w : World) (B : Nat) (hn : n = ys.length + 1) (hc : n ≤ c) (hm : c ≤ 9223372036854775807) (h : Lies w B A (x :: ys)) :
    Calls Try.prog 16 #[.slice A n c] w fun e w' => e = .returned (unpadV (x :: ys)) ∧ ∃ m, w' = w.drewN m := by
  obtain ⟨b, o, rfl, hb, hcell⟩ := h (by simp)
  have h0 : w.cell? ⟨b, o, none⟩ = some (.int .u8 (x.toNat : Int)) := hcell 0 x rfl
  have Hl := Lib.hid h
  have hx := x.toNat_lt
  have hp : (0 : Int) < (n : Int) := by omega
  have hne : ((n : Int) == 0) = false := by rw [beq_eq_false_iff_ne]; omega
  have Hn := Lib.hid hn
  clear h hcell hn
  by_cases hlt : ys.length < x.toNat
  · have Hv := Lib.hid (unpad_no (x := x) (ys := ys) (by omega))
    have hlt' : n - 1 < x.toNat := by have := Hn.out; omega
    go_enter Try.func16, Try.ntmps16
    go_wp2
    go_quiet (fail)
    go_wp2
    all_goals
      go_ret2
      exact ⟨by rw [Hv.out]; rfl, nq, rfl⟩
  · have hlt' : decide (n - 1 < x.toNat) = false := by have := Hn.out; simp; omega
    have hlt2 : ¬ n - 1 < x.toNat := by have := Hn.out; omega
    have hlt3 : (x.toNat : Int) ≤ ((n - 1 : Nat) : Int) := by omega
    have hlt4 : (x.toNat : Int) ≤ ((c - 1 : Nat) : Int) := by omega
    cases hz : zeros (ys.drop x.toNat)
    · have Hv := Lib.hid (unpad_no (x := x) (ys := ys) (by simp [hz]))
      have Hz := Lib.hid hz
      clear hz
      go_enter Try.func16, Try.ntmps16
      go_wp2_with fail
      go_quiet (fail)
      go_wp2_with fail
      all_goals
        refine (zero_n _ _ _ (ys.drop x.toNat) _ B ?_ ?_ ?_).mono ?_
        · exact lies_cut Hl.out x.toNat _ (fun _ => by have := Hn.out; omega)
        · have := Hn.out; rw [List.length_drop]; omega
        · omega
        rintro e w' ⟨rfl, rfl⟩
        rw [Hz.out]
        go_wp2_with fail
        go_ret2
        exact ⟨by rw [Hv.out]; rfl, nq, rfl⟩
    · have Hv := Lib.hid (unpad_yes (x := x) (ys := ys) ⟨by omega, hz⟩)
      have Hz := Lib.hid hz
      clear hz
      go_enter Try.func16, Try.ntmps16
      go_wp2_with fail
      go_quiet (fail)
      go_wp2_with fail
      all_goals
        refine (zero_n _ _ _ (ys.drop x.toNat) _ B ?_ ?_ ?_).mono ?_
        · exact lies_cut Hl.out x.toNat _ (fun _ => by have := Hn.out; omega)
        · have := Hn.out; rw [List.length_drop]; omega
        · omega
        rintro e w' ⟨rfl, rfl⟩
        rw [Hz.out]
        have hcv : ∀ o' c', (0 < ys.length → o' = o + 1) → (convert 23 9 (.slice (some ⟨b, o', none⟩) x.toNat c')).run Try.prog (w.drewN nq) = .ok (.string ⟨(ys.take x.toNat).toArray⟩) (w.drewN nq) := fun o' c' ho =>
          run_str (P := Try.prog) 23 5 9 Try.underlying23 Try.underlying5 Try.underlying9 x.toNat c' ((lies_head Hl.out x.toNat o' ho).drewN nq) (by rw [List.length_take]; omega)
        have hcv1 := fun c' => hcv (o + 1) c' (fun _ => rfl)
        have hcv0 : c = 1 → ∀ c', (convert 23 9 (.slice (some ⟨b, o, none⟩) x.toNat c')).run Try.prog (w.drewN nq) = .ok (.string ⟨(ys.take x.toNat).toArray⟩) (w.drewN nq) := fun hc1 c' => hcv o c' (fun _ => by have := Hn.out; omega)
        clear hcv
        go_wp2_with fail
        go_ret2
        exact ⟨by rw [Hv.out]; rfl, nq, rfl⟩

theorem unpad_any (xs : List UInt8) (A : Option Addr) (n c : Nat) (w : World) (B : Nat) (hn : n = xs.length) (hc : n ≤ c) (hm : c ≤ 9223372036854775807) (h : Lies w B A xs) :
    Calls Try.prog 16 #[.slice A n c] w fun e w' => e = .returned (unpadV xs) ∧ ∃ m, w' = w.drewN m := by
  rcases xs with _ | ⟨x, ys⟩
  · simp only [List.length_nil] at hn
    subst hn
    exact unpad_nil A c w
  · exact unpad_cons x ys A n c w B (by simpa using hn) hc hm h
end Go.Proofs.Ytpgddlajlehilaa
